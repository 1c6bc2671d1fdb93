/- The contract of EventBytes, the program's. -/
import Derived.Test.YtjdkenopfnepaaaEvBytesSpec
import Derived.Deep.AppendLies
namespace Go.Proofs.Ytjdkenopfnepaaa
open Go.RowKit

/-- Texts as cells. -/
def sv (ps : List ByteArray) : List Value := ps.map .string
def pb (z : Int) : ByteArray := ⟨(putB z).toArray⟩
def headParts (v : Ev) : List ByteArray := [⟨(putB v.id).toArray⟩, ⟨(putB v.room).toArray⟩, ⟨(putB v.author).toArray⟩, ⟨(putB v.kind).toArray⟩, ⟨(putB v.key).toArray⟩, ⟨(putB v.n).toArray⟩, ⟨(putB v.text.size ++ v.text.data.toList).toArray⟩, ⟨(putB v.prev.length).toArray⟩]
def partsTo (v : Ev) (k : Nat) : List ByteArray := headParts v ++ (v.prev.take k).map pb
def allParts (v : Ev) : List ByteArray := partsTo v v.prev.length ++ [pb v.time]
theorem sv_len (ps : List ByteArray) : (sv ps).length = ps.length := by simp [sv]
theorem partsTo_len (v : Ev) (k : Nat) (h : k ≤ v.prev.length) : (partsTo v k).length = 8 + k := by simp [partsTo, headParts]; omega
theorem partsTo_next (v : Ev) {k : Nat} (h : k < v.prev.length) : sv (partsTo v k) ++ [.string (pb v.prev[k])] = sv (partsTo v (k + 1)) := by
  unfold partsTo sv
  rw [List.take_succ_eq_append_getElem h]
  simp only [List.map_append, List.map_cons, List.map_nil, List.append_assoc]
theorem allParts_sv (v : Ev) : sv (partsTo v v.prev.length) ++ [.string (pb v.time)] = sv (allParts v) := by simp [allParts, sv]
theorem flat_pb : ∀ zs : List Int, flat (zs.map pb) = zs.flatMap putB
  | [] => rfl
  | z :: r => by
    have h := flat_pb r
    simp only [flat, List.map_cons, List.flatMap_cons] at h ⊢
    rw [h]
    rfl
theorem flat_append (a b : List ByteArray) : flat (a ++ b) = flat a ++ flat b := by simp [flat]
theorem flat_all (v : Ev) : flat (allParts v) = evL v := by
  unfold allParts partsTo evL
  rw [flat_append, flat_append, List.take_length, flat_pb]
  congr 1
  · congr 1
    simp [headParts, headL, flat]
  · simp [flat, pb]
theorem owns_below {w w' : World} {base size n : Nat} {e : TypeId} {v : Value} {xs : List Value} (h : w.ownsRow base e size v n xs) (hb : Below w.heap.size w w') : w'.ownsRow base e size v n xs := by
  refine ⟨h.1, ?_⟩
  rcases h.2 with h0 | ⟨g, cap, cur, rfl, hbg, hg, rest⟩
  · exact .inl h0
  · exact .inr ⟨g, cap, cur, rfl, hbg, (hb.block g (Array.getElem?_eq_some_iff.1 hg).1).trans hg, rest⟩
theorem Try.infoStr : (Try.prog.info? 9).map (fun i => (i.zero, i.size, i.bytes)) = some (some (.string ⟨#[]⟩), 1, 16) := by kernel_rfl

set_option maxHeartbeats 4000000 in
set_option maxRecDepth 100000 in
theorem bytes_impl_right (v : Ev) (a : Option Addr) (cap : Nat) (w : World) (hn : NumsAt w a v.prev) (hr : rightB v = true) :
    Calls Try.prog 7 #[.agg #[.int .i64 v.id, .int .i64 v.room, .int .i64 v.author, .int .i64 v.kind, .int .i64 v.key, .int .i64 v.n, .string v.text, .slice a v.prev.length cap, .int .i64 v.time]] w fun e w' => e = .returned (.string (evBytes v)) ∧ Below w.heap.size w w' := by
  obtain ⟨i0, hi, hz0, hz1, hz2⟩ := info_parts Try.infoStr
  have HN0 : Hid (∀ w', Below w.heap.size w w' → NumsAt w' a v.prev) := fun w' hb => hn.kept hb
  have sm := right_small hr
  have hl := hn.1
  have lo_id := sm.id.1
  have hi_id := sm.id.2
  have lo_room := sm.room.1
  have hi_room := sm.room.2
  have lo_author := sm.author.1
  have hi_author := sm.author.2
  have lo_kind := sm.kind.1
  have hi_kind := sm.kind.2
  have lo_key := sm.key.1
  have hi_key := sm.key.2
  have lo_n := sm.n.1
  have hi_n := sm.n.2
  have lo_time := sm.time.1
  have hi_time := sm.time.2
  have ht := sm.text
  have hlp := sm.prev
  have HS : Hid (Small v) := sm
  have HN : Hid (NumsAt w a v.prev) := hn
  have pl_id := putB_len v.id
  have pl_room := putB_len v.room
  have pl_author := putB_len v.author
  have pl_kind := putB_len v.kind
  have pl_key := putB_len v.key
  have pl_n := putB_len v.n
  have pl_time := putB_len v.time
  have pl_t := putB_len v.text.size
  have pl_p := putB_len v.prev.length
  obtain ⟨p1, p2, p3, p4, p5, p6, p7, p8, hp⟩ : ∃ p1 p2 p3 p4 p5 p6 p7 p8 : ByteArray, p1 = ⟨(putB v.id).toArray⟩ ∧ p2 = ⟨(putB v.room).toArray⟩ ∧ p3 = ⟨(putB v.author).toArray⟩ ∧ p4 = ⟨(putB v.kind).toArray⟩ ∧ p5 = ⟨(putB v.key).toArray⟩ ∧ p6 = ⟨(putB v.n).toArray⟩ ∧ p7 = ⟨(putB v.text.size ++ v.text.data.toList).toArray⟩ ∧ p8 = ⟨(putB v.prev.length).toArray⟩ := ⟨_, _, _, _, _, _, _, _, rfl, rfl, rfl, rfl, rfl, rfl, rfl, rfl⟩
  have PP : Hid (p1 = ⟨(putB v.id).toArray⟩ ∧ p2 = ⟨(putB v.room).toArray⟩ ∧ p3 = ⟨(putB v.author).toArray⟩ ∧ p4 = ⟨(putB v.kind).toArray⟩ ∧ p5 = ⟨(putB v.key).toArray⟩ ∧ p6 = ⟨(putB v.n).toArray⟩ ∧ p7 = ⟨(putB v.text.size ++ v.text.data.toList).toArray⟩ ∧ p8 = ⟨(putB v.prev.length).toArray⟩) := hp
  clear hp
  clear hn sm
  go_enter Try.func7, Try.ntmps7
  go_wp2_with fail
  generalize hW : World.alloc w _ = W0
  have hz : w.heap.size < W0.heap.size := by rw [← hW]; simp
  have HW : Hid (Below w.heap.size w W0) := by rw [← hW]; exact (Below.refl _ _).alloc (Nat.le_refl _) _
  have PW : Hid (∀ W, Below W0.heap.size W0 W → W.cell? ⟨w.heap.size, 0, none⟩ = some (.int .i64 v.id) ∧ W.cell? ⟨w.heap.size, 1, none⟩ = some (.int .i64 v.room) ∧ W.cell? ⟨w.heap.size, 2, none⟩ = some (.int .i64 v.author) ∧ W.cell? ⟨w.heap.size, 3, none⟩ = some (.int .i64 v.kind) ∧ W.cell? ⟨w.heap.size, 4, none⟩ = some (.int .i64 v.key) ∧ W.cell? ⟨w.heap.size, 5, none⟩ = some (.int .i64 v.n) ∧ W.cell? ⟨w.heap.size, 6, none⟩ = some (.string v.text) ∧ W.cell? ⟨w.heap.size, 7, none⟩ = some (.slice a v.prev.length cap) ∧ W.cell? ⟨w.heap.size, 8, none⟩ = some (.int .i64 v.time)) := by
    intro W hb
    have q : ∀ o, W.cell? ⟨w.heap.size, o, none⟩ = W0.cell? ⟨w.heap.size, o, none⟩ := fun o => hb.cell (p := ⟨w.heap.size, o, none⟩) hz
    simp only [q]
    rw [← hW]
    simp [go_sem]
  have HB : Hid (Below W0.heap.size W0 W0) := Below.refl _ _
  clear hW
  refine (right_impl v a cap _ (HN0.out _ HW.out)).mono ?_
  rintro e w0 ⟨rfl, hb0⟩
  have HB : Hid (Below W0.heap.size W0 w0) := hb0
  have c0 := PW.out _ HB.out
  clear hb0
  go_wp2_with fail
  clear c0
  go_region_held3 (fun w' => w'.cell? ⟨w.heap.size, 0, none⟩ = some (.int .i64 v.id) ∧ w'.cell? ⟨w.heap.size, 1, none⟩ = some (.int .i64 v.room) ∧ w'.cell? ⟨w.heap.size, 2, none⟩ = some (.int .i64 v.author) ∧ w'.cell? ⟨w.heap.size, 3, none⟩ = some (.int .i64 v.kind) ∧ w'.cell? ⟨w.heap.size, 4, none⟩ = some (.int .i64 v.key) ∧ w'.cell? ⟨w.heap.size, 5, none⟩ = some (.int .i64 v.n) ∧ w'.cell? ⟨w.heap.size, 6, none⟩ = some (.string v.text) ∧ w'.cell? ⟨w.heap.size, 7, none⟩ = some (.slice a v.prev.length cap) ∧ w'.cell? ⟨w.heap.size, 8, none⟩ = some (.int .i64 v.time)) (first | exact PW.out _ HB.out | exact PW.out _ HB.out.drew | exact PW.out _ (HB.out.alloc HB.out.size _) | exact PW.out _ (HB.out.drew.alloc HB.out.size _)) (first
      | (go_at_call_of 44 (Value.int IntKind.i64 v.id); refine (put_impl _ _ (by omega) (by omega)).mono ?_; rintro e w1 ⟨he, hb1⟩; rw [← PP.out.1] at he; subst he; have HB : Hid (Below W0.heap.size W0 w1) := (by first | exact HB.out.trans (hb1.mono HB.out.size) | exact HB.out.drew.trans (hb1.mono HB.out.drew.size)))
      | (go_at_call_of 44 (Value.int IntKind.i64 v.room); refine (put_impl _ _ (by omega) (by omega)).mono ?_; rintro e w1 ⟨he, hb1⟩; rw [← PP.out.2.1] at he; subst he; have HB : Hid (Below W0.heap.size W0 w1) := (by first | exact HB.out.trans (hb1.mono HB.out.size) | exact HB.out.drew.trans (hb1.mono HB.out.drew.size)))
      | (go_at_call_of 44 (Value.int IntKind.i64 v.author); refine (put_impl _ _ (by omega) (by omega)).mono ?_; rintro e w1 ⟨he, hb1⟩; rw [← PP.out.2.2.1] at he; subst he; have HB : Hid (Below W0.heap.size W0 w1) := (by first | exact HB.out.trans (hb1.mono HB.out.size) | exact HB.out.drew.trans (hb1.mono HB.out.drew.size)))
      | (go_at_call_of 44 (Value.int IntKind.i64 v.kind); refine (put_impl _ _ (by omega) (by omega)).mono ?_; rintro e w1 ⟨he, hb1⟩; rw [← PP.out.2.2.2.1] at he; subst he; have HB : Hid (Below W0.heap.size W0 w1) := (by first | exact HB.out.trans (hb1.mono HB.out.size) | exact HB.out.drew.trans (hb1.mono HB.out.drew.size)))
      | (go_at_call_of 44 (Value.int IntKind.i64 v.key); refine (put_impl _ _ (by omega) (by omega)).mono ?_; rintro e w1 ⟨he, hb1⟩; rw [← PP.out.2.2.2.2.1] at he; subst he; have HB : Hid (Below W0.heap.size W0 w1) := (by first | exact HB.out.trans (hb1.mono HB.out.size) | exact HB.out.drew.trans (hb1.mono HB.out.drew.size)))
      | (go_at_call_of 44 (Value.int IntKind.i64 v.n); refine (put_impl _ _ (by omega) (by omega)).mono ?_; rintro e w1 ⟨he, hb1⟩; rw [← PP.out.2.2.2.2.2.1] at he; subst he; have HB : Hid (Below W0.heap.size W0 w1) := (by first | exact HB.out.trans (hb1.mono HB.out.size) | exact HB.out.drew.trans (hb1.mono HB.out.drew.size))))
  go_wp2_with fail
  generalize hW6 : World.alloc w1 _ = W6
  obtain ⟨g6, hg6⟩ : ∃ g, g = w1.heap.size := ⟨_, rfl⟩
  rw [← hg6]
  have OW : Hid (W6.ownsRow W0.heap.size 9 1 (.slice (some ⟨g6, 0, none⟩) 6 6) 6 (sv [p1, p2, p3, p4, p5, p6])) := by
    rw [← hW6, hg6]
    exact ⟨rfl, .inr ⟨w1.heap.size, 6, #[.string p1, .string p2, .string p3, .string p4, .string p5, .string p6], rfl, HB.out.size, (MapKept.heap_alloc w1 _).1, by omega, by decide, rfl, rfl⟩⟩
  have HB : Hid (Below W0.heap.size W0 W6) := by rw [← hW6]; exact HB.out.alloc HB.out.size _
  have H6 : Hid (W0.heap.size ≤ g6) := (OW.out.lt g6 rfl).1
  clear hW6 hg6
  go_region_held3 (fun w' => w'.cell? ⟨w.heap.size, 0, none⟩ = some (.int .i64 v.id) ∧ w'.cell? ⟨w.heap.size, 1, none⟩ = some (.int .i64 v.room) ∧ w'.cell? ⟨w.heap.size, 2, none⟩ = some (.int .i64 v.author) ∧ w'.cell? ⟨w.heap.size, 3, none⟩ = some (.int .i64 v.kind) ∧ w'.cell? ⟨w.heap.size, 4, none⟩ = some (.int .i64 v.key) ∧ w'.cell? ⟨w.heap.size, 5, none⟩ = some (.int .i64 v.n) ∧ w'.cell? ⟨w.heap.size, 6, none⟩ = some (.string v.text) ∧ w'.cell? ⟨w.heap.size, 7, none⟩ = some (.slice a v.prev.length cap) ∧ w'.cell? ⟨w.heap.size, 8, none⟩ = some (.int .i64 v.time)) (first | exact PW.out _ HB.out | exact PW.out _ HB.out.drew | exact PW.out _ (HB.out.alloc HB.out.size _) | exact PW.out _ (HB.out.drew.alloc HB.out.size _)) (first
      | (refine step_append_lies _ rfl (.tmp 28) (.tmp 36) 68 rfl W0.heap.size 9 i0 (.string ⟨#[]⟩) 1 16 Try.underlying68 hi hz0 hz1 hz2 rfl (by decide) _ 6 (sv [p1, p2, p3, p4, p5, p6]) rfl (OW.out.alloc _) ⟨w1.heap.size, 0, none⟩ 2 2 [.string p7, .string p8] rfl rfl (cell_two_new _ _ _ _) (by intro u hu; simp at hu; rcases hu with rfl | rfl <;> rfl) (by decide) (by unfold maxLen; omega) (by omega) (by have := HB.out.size; simp; omega) _ rfl ?_; intro g8 cap8 w8 hown8 hgrow8 hat8 hlt8; have HB : Hid (Below W0.heap.size W0 w8) := (HB.out.alloc HB.out.size _).grown hgrow8 (by have := HB.out.size; simp; omega) (fun k hk => by cases hk; exact H6.out); have OW8 : Hid (w8.ownsRow W0.heap.size 9 1 (.slice (some ⟨g8, 0, none⟩) 8 cap8) 8 (sv [p1, p2, p3, p4, p5, p6] ++ [.string p7, .string p8])) := hown8; clear hown8 hgrow8 hat8 hlt8)
      | (go_at_call 45; refine (puttext_impl _ _ (by omega)).mono ?_; rintro e w1 ⟨he, hb1⟩; rw [← PP.out.2.2.2.2.2.2.1] at he; subst he; have HB : Hid (Below W0.heap.size W0 w1) := (by first | exact HB.out.trans (hb1.mono HB.out.size) | exact HB.out.drew.trans (hb1.mono HB.out.drew.size)); have OW : Hid (w1.ownsRow W0.heap.size 9 1 (.slice (some ⟨g6, 0, none⟩) 6 6) 6 (sv [p1, p2, p3, p4, p5, p6])) := (by first | exact owns_below OW.out hb1 | exact owns_below OW.out (Below.trans (Below.drew (Below.refl _ _)) hb1)); clear hb1)
      | (go_at_call 44; refine (put_impl _ _ (by omega) (by omega)).mono ?_; rintro e w1 ⟨he, hb1⟩; rw [← PP.out.2.2.2.2.2.2.2] at he; subst he; have HB : Hid (Below W0.heap.size W0 w1) := (by first | exact HB.out.trans (hb1.mono HB.out.size) | exact HB.out.drew.trans (hb1.mono HB.out.drew.size)); have OW : Hid (w1.ownsRow W0.heap.size 9 1 (.slice (some ⟨g6, 0, none⟩) 6 6) 6 (sv [p1, p2, p3, p4, p5, p6])) := (by first | exact owns_below OW.out hb1 | exact owns_below OW.out (Below.trans (Below.drew (Below.refl _ _)) hb1)); clear hb1))
  go_wp2_with fail
  have HO8 : Hid (w8.ownsRow W0.heap.size 9 1 (.slice (some ⟨g8, 0, none⟩) (8 + 0) cap8) (8 + 0) (sv (partsTo v 0))) := by
    have h := OW8.out
    rw [PP.out.1, PP.out.2.1, PP.out.2.2.1, PP.out.2.2.2.1, PP.out.2.2.2.2.1, PP.out.2.2.2.2.2.1, PP.out.2.2.2.2.2.2.1, PP.out.2.2.2.2.2.2.2] at h
    have e : sv [⟨(putB v.id).toArray⟩, ⟨(putB v.room).toArray⟩, ⟨(putB v.author).toArray⟩, ⟨(putB v.kind).toArray⟩, ⟨(putB v.key).toArray⟩, ⟨(putB v.n).toArray⟩] ++ [.string ⟨(putB v.text.size ++ v.text.data.toList).toArray⟩, .string ⟨(putB v.prev.length).toArray⟩] = sv (partsTo v 0) := by simp [partsTo, headParts, sv]
    rw [e] at h
    exact h
  clear OW8 PP
  try simp only [Nat.reduceAdd]
  go_loopw [3, 41] (fun t i wr => ∃ (k g c : Nat), k ≤ v.prev.length ∧ i = .int .i64 k ∧ t = .slice (some ⟨g, 0, none⟩) (8 + k) c ∧ Hid (wr.ownsRow W0.heap.size 9 1 (.slice (some ⟨g, 0, none⟩) (8 + k) c) (8 + k) (sv (partsTo v k))) ∧ Hid (Below W0.heap.size W0 wr)) (fun _ i _ => v.prev.length - (intOf i).toNat)
  case atStart => exact ⟨0, g8, cap8, Nat.zero_le _, rfl, rfl, HO8, HB⟩
  case round =>
    clear HO8 HB
    obtain ⟨k, g, c, hk, rfl, rfl, OW, HR⟩ := hrel
    have c8 := (PW.out _ HR.out).2.2.2.2.2.2.2.2
    have HWR : Hid (Below w.heap.size w wr) := HW.out.trans (HR.out.mono (Nat.le_of_lt hz))
    have HG : Hid (W0.heap.size ≤ g) := (OW.out.lt g rfl).1
    by_cases hlt : k < v.prev.length
    · obtain ⟨b, off, rfl, hbb, hcell⟩ := HN.out.2 (by omega)
      have hck : wr.cell? ⟨b, off + k, none⟩ = some (.int .i64 v.prev[k]) := (HWR.out.cell (p := ⟨b, off + k, none⟩) hbb).trans (hcell k hlt)
      have hbz := HS.out.each v.prev[k] (List.getElem_mem hlt)
      obtain ⟨p, hp⟩ : ∃ p : ByteArray, p = pb v.prev[k] := ⟨_, rfl⟩
      have HP : Hid (p = ⟨(putB v.prev[k]).toArray⟩) := hp
      have HX : Hid (sv (partsTo v k) ++ [.string p] = sv (partsTo v (k + 1))) := by unfold Hid; rw [hp]; exact partsTo_next v hlt
      clear hcell hp
      go_wp2_with fail
      refine (put_impl v.prev[k] _ (by omega) (by omega)).mono ?_
      rintro e w2 ⟨he, hb2⟩
      rw [← HP.out] at he
      subst he
      have HR2 : Hid (Below W0.heap.size W0 w2) := HR.out.trans (hb2.mono HR.out.size)
      have OW2 : Hid (w2.ownsRow W0.heap.size 9 1 (.slice (some ⟨g, 0, none⟩) (8 + k) c) (8 + k) (sv (partsTo v k))) := owns_below OW.out hb2
      clear hb2
      go_wp2_with (at_builtin; refine wpList_append_lies _ rfl (.tmp 45) (.tmp 48) 68 rfl W0.heap.size 9 i0 (.string ⟨#[]⟩) 1 16 Try.underlying68 hi hz0 hz1 hz2 rfl (by decide) _ (8 + k) (sv (partsTo v k)) rfl (OW2.out.alloc _) ⟨w2.heap.size, 0, none⟩ 1 1 [.string p] rfl rfl (cell_one_new _ _ _) (by intro u hu; simp at hu; subst hu; rfl) (by decide) (by unfold maxLen; omega) (by omega) (by have := HR2.out.size; simp; omega) _ rfl ?_; intro g3 cap3 w3 hown3 hgrow3 hat3 hlt3)
      have HR3 : Hid (Below W0.heap.size W0 w3) := (HR2.out.alloc HR2.out.size _).grown hgrow3 (by have := HR2.out.size; simp; omega) (fun q hq => by cases hq; exact HG.out)
      rw [HX.out] at hown3
      have OW3 : Hid (w3.ownsRow W0.heap.size 9 1 (.slice (some ⟨g3, 0, none⟩) (8 + k + 1) cap3) (8 + k + 1) (sv (partsTo v (k + 1)))) := hown3
      clear hown3 hgrow3 hat3 hlt3
      go_roundw
      case rel => exact ⟨k + 1, g3, cap3, by omega, by go_num, rfl, OW3, HR3⟩
      case measure => simp [intOf]; omega
    · obtain rfl : k = v.prev.length := by omega
      obtain ⟨p, hp⟩ : ∃ p : ByteArray, p = pb v.time := ⟨_, rfl⟩
      have HP : Hid (p = ⟨(putB v.time).toArray⟩) := hp
      have HX : Hid (sv (partsTo v v.prev.length) ++ [.string p] = sv (allParts v)) := by unfold Hid; rw [hp]; exact allParts_sv v
      have HL : Hid (8 + v.prev.length + 1 = (allParts v).length) := by unfold Hid; simp [allParts, partsTo_len]
      have HFL : Hid ((flat (allParts v)).length ≤ 160) := by unfold Hid; rw [flat_all]; exact evL_len HS.out
      clear hp
      go_wp2_with fail
      refine (put_impl v.time _ (by omega) (by omega)).mono ?_
      rintro e w2 ⟨he, hb2⟩
      rw [← HP.out] at he
      subst he
      have HR2 : Hid (Below W0.heap.size W0 w2) := HR.out.trans (hb2.mono HR.out.size)
      have OW2 : Hid (w2.ownsRow W0.heap.size 9 1 (.slice (some ⟨g, 0, none⟩) (8 + v.prev.length) c) (8 + v.prev.length) (sv (partsTo v v.prev.length))) := owns_below OW.out hb2
      clear hb2
      go_wp2_with (first
        | (at_builtin; refine wpList_append_lies _ rfl (.tmp 51) (.tmp 55) 68 rfl W0.heap.size 9 i0 (.string ⟨#[]⟩) 1 16 Try.underlying68 hi hz0 hz1 hz2 rfl (by decide) _ (8 + v.prev.length) (sv (partsTo v v.prev.length)) rfl (OW2.out.alloc _) ⟨w2.heap.size, 0, none⟩ 1 1 [.string p] rfl rfl (cell_one_new _ _ _) (by intro u hu; simp at hu; subst hu; rfl) (by decide) (by unfold maxLen; omega) (by omega) (by have := HR2.out.size; simp; omega) _ rfl ?_; intro g3 cap3 w3 hown3 hgrow3 hat3 hlt3)
        | fail)
      have HR3 : Hid (Below W0.heap.size W0 w3) := (HR2.out.alloc HR2.out.size _).grown hgrow3 (by have := HR2.out.size; simp; omega) (fun q hq => by cases hq; exact HG.out)
      rw [HX.out] at hown3
      have OW3 : Hid (w3.ownsRow W0.heap.size 9 1 (.slice (some ⟨g3, 0, none⟩) (8 + v.prev.length + 1) cap3) (8 + v.prev.length + 1) (sv (allParts v))) := hown3
      clear hown3 hgrow3 hat3
      have HW3 : Hid (Below w.heap.size w w3) := HW.out.trans (HR3.out.mono (Nat.le_of_lt hz))
      rw [HL.out]
      refine (joined_any g3 0 cap3 (allParts v) _ ?_ ?_ hlt3 ?_).mono ?_
      · rw [← flat_len]
        have := HFL.out
        omega
      · rw [← HL.out]
        omega
      · intro i h
        have h2 := OW3.out.cells (g := g3) rfl i (.string (allParts v)[i]) (by simp [sv, h])
        rwa [Addr.add_lit] at h2
      rintro e w4 ⟨rfl, hb4⟩
      have HW4 : Hid (Below w.heap.size w w4) := HW3.out.trans (hb4.mono HW3.out.size)
      have hs4 : ((⟨(flat (allParts v)).toArray⟩ : ByteArray).size : Int) ≤ 7996 := by
        have e : (⟨(flat (allParts v)).toArray⟩ : ByteArray).size = (flat (allParts v)).length := by show (flat (allParts v)).toArray.size = _; simp
        have := HFL.out
        rw [e]
        omega
      have HS4 : Hid (((⟨(flat (allParts v)).toArray⟩ : ByteArray).size : Int) ≤ 7996) := hs4
      clear hb4 hs4
      go_wp2_with fail
      refine (seal_impl ⟨(flat (allParts v)).toArray⟩ _ HS4.out).mono ?_
      rintro e w5 ⟨rfl, hb5⟩
      have HW5 : Hid (Below w.heap.size w w5) := HW4.out.trans (hb5.mono HW4.out.size)
      clear hb5
      go_wp2
      go_ret
      exact ⟨by rw [flat_all]; rfl, HW5.out⟩

set_option maxHeartbeats 1000000 in
theorem bytes_impl (v : Ev) (a : Option Addr) (cap : Nat) (w : World) (hn : NumsAt w a v.prev) :
    Calls Try.prog 7 #[.agg #[.int .i64 v.id, .int .i64 v.room, .int .i64 v.author, .int .i64 v.kind, .int .i64 v.key, .int .i64 v.n, .string v.text, .slice a v.prev.length cap, .int .i64 v.time]] w fun e w' => e = .returned (.string (bytesOf v)) ∧ Below w.heap.size w w' := by
  cases c1 : rightB v
  · have HN : Hid (∀ w', Below w.heap.size w w' → NumsAt w' a v.prev) := fun w' hb => hn.kept hb
    have HE : Hid (bytesOf v = ⟨#[]⟩) := by unfold Hid bytesOf; rw [c1]; rfl
    clear hn
    go_enter Try.func7, Try.ntmps7
    go_wp2_with fail
    refine (right_impl v a cap _ (HN.out _ ((Below.refl _ _).alloc (Nat.le_refl _) _))).mono ?_
    rintro e w1 ⟨rfl, hb1⟩
    rw [c1]
    have HW1 : Hid (Below w.heap.size w w1) := ((Below.refl _ _).alloc (Nat.le_refl _) _).trans (hb1.mono (by simp))
    clear hb1
    go_wp2
    go_ret
    exact ⟨by rw [HE.out]; rfl, HW1.out⟩
  · rw [show bytesOf v = evBytes v by unfold bytesOf; rw [c1]; rfl]
    exact bytes_impl_right v a cap w hn c1
end Go.Proofs.Ytjdkenopfnepaaa
