/- The contracts of EventBytes, the specification's. -/
import Derived.Test.YtjdkenopfnepaaaEvRightImpl
import Derived.Test.YtjdkenopfnepaaaEvPlain
import Derived.Deep.RegionHeld3
import Derived.Deep.DeepCutAuto
namespace Go.Proofs.Ytjdkenopfnepaaa
open Go.RowKit

set_option maxHeartbeats 2000000 in
theorem l02bytes_spec (v : Ev) (a : Option Addr) (cap : Nat) (w : World) (hn : NumsAt w a v.prev) (hr : rightB v = true) :
    Calls Try.prog 58 #[.agg #[.int .i64 v.id, .int .i64 v.room, .int .i64 v.author, .int .i64 v.kind, .int .i64 v.key, .int .i64 v.n, .string v.text, .slice a v.prev.length cap, .int .i64 v.time]] w fun e w' => e = .returned (.string (evBytes v)) ∧ Below w.heap.size w w' := by
  have sm := right_small hr
  have hl := hn.1
  have lo_id := sm.id.1
  have hi_id := sm.id.2
  have lo_room := sm.room.1
  have hi_room := sm.room.2
  have lo_author := sm.author.1
  have hi_author := sm.author.2
  have lo_kind := sm.kind.1
  have hi_kind := sm.kind.2
  have lo_key := sm.key.1
  have hi_key := sm.key.2
  have lo_n := sm.n.1
  have hi_n := sm.n.2
  have lo_time := sm.time.1
  have hi_time := sm.time.2
  have ht := sm.text
  have hlp := sm.prev
  have HS : Hid (Small v) := sm
  have HN : Hid (NumsAt w a v.prev) := hn
  have pl_id := putB_len v.id
  have pl_room := putB_len v.room
  have pl_author := putB_len v.author
  have pl_kind := putB_len v.kind
  have pl_key := putB_len v.key
  have pl_n := putB_len v.n
  have pl_time := putB_len v.time
  have pl_t := putB_len v.text.size
  have pl_p := putB_len v.prev.length
  obtain ⟨p1, p2, p3, p4, p5, p6, p7, p8, q2, q3, q4, q5, q6, q7, q8, hp, hq8, s1, s2, s3, s4, s5, s6, s7⟩ := head_parts Try.prog v sm
  have PP : Hid (p1 = ⟨(putB v.id).toArray⟩ ∧ p2 = ⟨(putB v.room).toArray⟩ ∧ p3 = ⟨(putB v.author).toArray⟩ ∧ p4 = ⟨(putB v.kind).toArray⟩ ∧ p5 = ⟨(putB v.key).toArray⟩ ∧ p6 = ⟨(putB v.n).toArray⟩ ∧ p7 = ⟨(putB v.text.size ++ v.text.data.toList).toArray⟩ ∧ p8 = ⟨(putB v.prev.length).toArray⟩) := hp
  have HQ : Hid (q8 = ⟨(headL v).toArray⟩) := hq8
  clear hp hq8
  clear hn sm
  clear hr
  go_enter Try.func58, Try.ntmps58
  go_wp2_with fail
  generalize hW : World.alloc w _ = W0
  have hz : w.heap.size < W0.heap.size := by rw [← hW]; simp
  have HW : Hid (Below w.heap.size w W0) := by rw [← hW]; exact (Below.refl _ _).alloc (Nat.le_refl _) _
  have PW : Hid (∀ W, Below W0.heap.size W0 W → W.cell? ⟨w.heap.size, 0, none⟩ = some (.int .i64 v.id) ∧ W.cell? ⟨w.heap.size, 1, none⟩ = some (.int .i64 v.room) ∧ W.cell? ⟨w.heap.size, 2, none⟩ = some (.int .i64 v.author) ∧ W.cell? ⟨w.heap.size, 3, none⟩ = some (.int .i64 v.kind) ∧ W.cell? ⟨w.heap.size, 4, none⟩ = some (.int .i64 v.key) ∧ W.cell? ⟨w.heap.size, 5, none⟩ = some (.int .i64 v.n) ∧ W.cell? ⟨w.heap.size, 6, none⟩ = some (.string v.text) ∧ W.cell? ⟨w.heap.size, 7, none⟩ = some (.slice a v.prev.length cap) ∧ W.cell? ⟨w.heap.size, 8, none⟩ = some (.int .i64 v.time)) := by
    intro W hb
    have q : ∀ o, W.cell? ⟨w.heap.size, o, none⟩ = W0.cell? ⟨w.heap.size, o, none⟩ := fun o => hb.cell (p := ⟨w.heap.size, o, none⟩) hz
    simp only [q]
    rw [← hW]
    simp [go_sem]
  have HB : Hid (Below W0.heap.size W0 W0) := Below.refl _ _
  clear hW
  go_region_held3 (fun w' => w'.cell? ⟨w.heap.size, 0, none⟩ = some (.int .i64 v.id) ∧ w'.cell? ⟨w.heap.size, 1, none⟩ = some (.int .i64 v.room) ∧ w'.cell? ⟨w.heap.size, 2, none⟩ = some (.int .i64 v.author) ∧ w'.cell? ⟨w.heap.size, 3, none⟩ = some (.int .i64 v.kind) ∧ w'.cell? ⟨w.heap.size, 4, none⟩ = some (.int .i64 v.key) ∧ w'.cell? ⟨w.heap.size, 5, none⟩ = some (.int .i64 v.n) ∧ w'.cell? ⟨w.heap.size, 6, none⟩ = some (.string v.text) ∧ w'.cell? ⟨w.heap.size, 7, none⟩ = some (.slice a v.prev.length cap) ∧ w'.cell? ⟨w.heap.size, 8, none⟩ = some (.int .i64 v.time)) (first | exact PW.out _ HB.out | exact PW.out _ HB.out.drew) (first
      | (go_at_call_of 106 (Value.int IntKind.i64 v.id); refine (put_spec _ _ (by omega) (by omega)).mono ?_; rintro e w1 ⟨he, hb1⟩; rw [← PP.out.1] at he; subst he; have HB : Hid (Below W0.heap.size W0 w1) := (by first | exact HB.out.trans (hb1.mono HB.out.size) | exact HB.out.drew.trans (hb1.mono HB.out.drew.size)))
      | (go_at_call_of 106 (Value.int IntKind.i64 v.room); refine (put_spec _ _ (by omega) (by omega)).mono ?_; rintro e w1 ⟨he, hb1⟩; rw [← PP.out.2.1] at he; subst he; have HB : Hid (Below W0.heap.size W0 w1) := (by first | exact HB.out.trans (hb1.mono HB.out.size) | exact HB.out.drew.trans (hb1.mono HB.out.drew.size)))
      | (go_at_call_of 106 (Value.int IntKind.i64 v.author); refine (put_spec _ _ (by omega) (by omega)).mono ?_; rintro e w1 ⟨he, hb1⟩; rw [← PP.out.2.2.1] at he; subst he; have HB : Hid (Below W0.heap.size W0 w1) := (by first | exact HB.out.trans (hb1.mono HB.out.size) | exact HB.out.drew.trans (hb1.mono HB.out.drew.size)))
      | (go_at_call_of 106 (Value.int IntKind.i64 v.kind); refine (put_spec _ _ (by omega) (by omega)).mono ?_; rintro e w1 ⟨he, hb1⟩; rw [← PP.out.2.2.2.1] at he; subst he; have HB : Hid (Below W0.heap.size W0 w1) := (by first | exact HB.out.trans (hb1.mono HB.out.size) | exact HB.out.drew.trans (hb1.mono HB.out.drew.size)))
      | (go_at_call_of 106 (Value.int IntKind.i64 v.key); refine (put_spec _ _ (by omega) (by omega)).mono ?_; rintro e w1 ⟨he, hb1⟩; rw [← PP.out.2.2.2.2.1] at he; subst he; have HB : Hid (Below W0.heap.size W0 w1) := (by first | exact HB.out.trans (hb1.mono HB.out.size) | exact HB.out.drew.trans (hb1.mono HB.out.drew.size)))
      | (go_at_call_of 106 (Value.int IntKind.i64 v.n); refine (put_spec _ _ (by omega) (by omega)).mono ?_; rintro e w1 ⟨he, hb1⟩; rw [← PP.out.2.2.2.2.2.1] at he; subst he; have HB : Hid (Below W0.heap.size W0 w1) := (by first | exact HB.out.trans (hb1.mono HB.out.size) | exact HB.out.drew.trans (hb1.mono HB.out.drew.size)))
      | (go_at_call 107; refine (puttext_spec _ _ (by omega)).mono ?_; rintro e w1 ⟨he, hb1⟩; rw [← PP.out.2.2.2.2.2.2.1] at he; subst he; have HB : Hid (Below W0.heap.size W0 w1) := (by first | exact HB.out.trans (hb1.mono HB.out.size) | exact HB.out.drew.trans (hb1.mono HB.out.drew.size)))
      | (go_at_call_of 106 (Value.int IntKind.i64 (v.prev.length : Int)); refine (put_spec _ _ (by omega) (by omega)).mono ?_; rintro e w1 ⟨he, hb1⟩; rw [← PP.out.2.2.2.2.2.2.2] at he; subst he; have HB : Hid (Below W0.heap.size W0 w1) := (by first | exact HB.out.trans (hb1.mono HB.out.size) | exact HB.out.drew.trans (hb1.mono HB.out.drew.size))))
  go_wp2_with fail
  go_loopw [3, 4] (fun t i wr => ∃ (k : Nat) (T : ByteArray), k ≤ v.prev.length ∧ i = .int .i64 k ∧ t = .string T ∧ Hid (T = ⟨(headL v ++ (v.prev.take k).flatMap putB).toArray⟩) ∧ Hid (Below W0.heap.size W0 wr)) (fun _ i _ => v.prev.length - (intOf i).toNat)
  case atStart => exact ⟨0, q8, Nat.zero_le _, rfl, rfl, by unfold Hid; rw [HQ.out]; simp, HB⟩
  case round =>
    clear s1 s2 s3 s4 s5 s6 s7 PP HQ
    obtain ⟨k, T, hk, rfl, rfl, HT, HR⟩ := hrel
    have c7 := (PW.out _ HR.out).2.2.2.2.2.2.2.1
    have c8 := (PW.out _ HR.out).2.2.2.2.2.2.2.2
    have HWR : Hid (Below w.heap.size w wr) := HW.out.trans (HR.out.mono (Nat.le_of_lt hz))
    by_cases hlt : k < v.prev.length
    · obtain ⟨b, off, rfl, hbb, hcell⟩ := HN.out.2 (by omega)
      have hck : wr.cell? ⟨b, off + k, none⟩ = some (.int .i64 v.prev[k]) := (HWR.out.cell (p := ⟨b, off + k, none⟩) hbb).trans (hcell k hlt)
      have hbz := HS.out.each v.prev[k] (List.getElem_mem hlt)
      obtain ⟨p, T2, hp, hT2, hs⟩ := next_part Try.prog v HS.out hlt HT.out
      have HP : Hid (p = ⟨(putB v.prev[k]).toArray⟩) := hp
      have HT2 : Hid (T2 = ⟨(headL v ++ (v.prev.take (k + 1)).flatMap putB).toArray⟩) := hT2
      clear hcell hp hT2
      go_wp2_with fail
      refine (put_spec v.prev[k] _ (by omega) (by omega)).mono ?_
      rintro e w2 ⟨he, hb2⟩
      rw [← HP.out] at he
      subst he
      have HR2 : Hid (Below W0.heap.size W0 w2) := HR.out.trans (hb2.mono HR.out.size)
      clear hb2
      go_wp2
      go_roundw
      case rel => exact ⟨k + 1, T2, by omega, by go_num, rfl, HT2, HR2⟩
      case measure => simp [intOf]; omega
    · obtain ⟨p, T2, hp, hT2, hs, hsz⟩ := last_part Try.prog v HS.out (show k = v.prev.length by omega) HT.out
      have HP : Hid (p = ⟨(putB v.time).toArray⟩) := hp
      have HT2 : Hid (T2 = ⟨(evL v).toArray⟩) := hT2
      clear hp hT2
      go_wp2_with fail
      refine (put_spec v.time _ (by omega) (by omega)).mono ?_
      rintro e w2 ⟨he, hb2⟩
      rw [← HP.out] at he
      subst he
      have HW2 : Hid (Below w.heap.size w w2) := HWR.out.trans (hb2.mono HWR.out.size)
      clear hb2
      go_wp2_with fail
      refine (seal_spec T2 _ hsz).mono ?_
      rintro e w3 ⟨rfl, hb3⟩
      have HW3 : Hid (Below w.heap.size w w3) := HW2.out.trans (hb3.mono HW2.out.size)
      clear hb3
      go_wp2
      go_ret
      exact ⟨by rw [HT2.out]; rfl, HW3.out⟩
set_option maxHeartbeats 1000000 in
theorem bytes_spec (v : Ev) (a : Option Addr) (cap : Nat) (w : World) (hn : NumsAt w a v.prev) :
    Calls Try.prog 12 #[.agg #[.int .i64 v.id, .int .i64 v.room, .int .i64 v.author, .int .i64 v.kind, .int .i64 v.key, .int .i64 v.n, .string v.text, .slice a v.prev.length cap, .int .i64 v.time]] w fun e w' => e = .returned (.string (bytesOf v)) ∧ Below w.heap.size w w' := by
  have HN : Hid (∀ w', Below w.heap.size w w' → NumsAt w' a v.prev) := fun w' hb => hn.kept hb
  have HE : Hid (bytesOf v = if rightB v = true then evBytes v else ⟨#[]⟩) := rfl
  clear hn
  go_enter Try.func12, Try.ntmps12
  go_wp2_with fail
  refine (right_spec v a cap _ (HN.out _ ((Below.refl _ _).alloc (Nat.le_refl _) _))).mono ?_
  rintro e w1 ⟨rfl, hb1⟩
  obtain ⟨hc1, hf1⟩ := bcell hb1
  have HW1 : Hid (Below w.heap.size w w1) := ((Below.refl _ _).alloc (Nat.le_refl _) _).trans (hb1.mono (by simp))
  clear hb1
  cases c1 : rightB v
  · go_wp2
    go_ret
    exact ⟨by rw [HE.out, c1]; rfl, HW1.out⟩
  have HC : Hid (rightB v = true) := c1
  go_wp2_with fail
  refine (l02bytes_spec v a cap _ (HN.out _ HW1.out) HC.out).mono ?_
  rintro e w2 ⟨rfl, hb2⟩
  have HW2 : Hid (Below w.heap.size w w2) := HW1.out.trans (hb2.mono HW1.out.size)
  clear hb2
  go_wp2
  go_ret
  exact ⟨by rw [HE.out, HC.out]; rfl, HW2.out⟩
end Go.Proofs.Ytjdkenopfnepaaa
