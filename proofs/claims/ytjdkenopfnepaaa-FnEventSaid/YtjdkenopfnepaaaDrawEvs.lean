/- What the law on events draws: an event, a text to be read, two events. -/
import Derived.Test.YtjdkenopfnepaaaDrawMore
import Derived.Test.YtjdkenopfnepaaaEvBytesSpec
import Derived.Test.YtjdkenopfnepaaaUnseal
namespace Go.Proofs.Ytjdkenopfnepaaa
open Go.RowKit

theorem SrcAt.below {w w' : World} {base g : Nat} (h : SrcAt w base g) (hb : Below w.heap.size w w') : SrcAt w' base g :=
  h.kept (hb.mono (Nat.le_trans h.1 (Nat.le_of_lt h.lt))) (hb.block g h.lt)
theorem SrcAt.le {w : World} {base g : Nat} (h : SrcAt w base g) : base ≤ w.heap.size := Nat.le_trans h.1 (Nat.le_of_lt h.lt)
theorem bytesOf_size (v : Ev) : (bytesOf v).size ≤ 164 := by
  unfold bytesOf
  split
  · rename_i h
    have h1 := evL_len (right_small h)
    show (sealB (evL v)).toArray.size ≤ 164
    simp [sealB, fourB]
    omega
  · show (#[] : Array UInt8).size ≤ 164
    simp
theorem CodeAt.mono {w : World} {base base' : Nat} {a : Option Addr} {len : Nat} (h : CodeAt w base a len) (hb : base ≤ base') : CodeAt w base' a len := by
  refine ⟨h.1, fun hl => ?_⟩
  obtain ⟨b, off, ha, hbb, r⟩ := h.2 hl
  exact ⟨b, off, ha, by omega, r⟩
theorem CodeAt.alloc {w : World} {a : Option Addr} {len : Nat} (h : CodeAt w w.heap.size a len) (o : Obj) : CodeAt (w.alloc o) (w.alloc o).heap.size a len :=
  (h.kept ((Below.refl _ _).alloc (Nat.le_refl _) o)).mono (by simp)
/-- An event that was drawn. -/
def EvPost (w : World) (e : Ending) (w' : World) : Prop :=
  ∃ (v : Ev) (a : Option Addr) (cap : Nat), e = .returned (.agg #[.int .i64 v.id, .int .i64 v.room, .int .i64 v.author, .int .i64 v.kind, .int .i64 v.key, .int .i64 v.n, .string v.text, .slice a v.prev.length cap, .int .i64 v.time]) ∧ w'.ownsRow w.heap.size 2 1 (.slice a v.prev.length cap) v.prev.length (nv v.prev) ∧ v.prev.length ≤ 3 ∧ Below w.heap.size w w'
set_option maxHeartbeats 1000000 in
set_option maxRecDepth 100000 in
theorem draw_eventbytes (a : Option Addr) (len cap : Nat) (w : World) (hc : CodeAt w w.heap.size a len) :
    Calls Try.prog 6 #[.slice a len cap] w (EvPost w) := by
  have HC : Hid (∀ o, CodeAt (w.alloc o) (w.alloc o).heap.size a len) := fun o => hc.alloc o
  clear hc
  go_enter Try.func6, Try.ntmps6
  go_wp2_with fail
  refine (draw_source _ a len cap _ (Nat.le_refl _) (HC.out _)).mono ?_
  rintro e w1 ⟨g, rfl, hs1, hb1⟩
  have H1 : Hid (SrcAt w1 (w.alloc (.cells #[.int .i64 0, .int .i64 0, .int .i64 0, .int .i64 0, .int .i64 0, .int .i64 0, .string ⟨#[]⟩, .slice none 0 0, .int .i64 0] 25)).heap.size g ∧ Below (w.alloc (.cells #[.int .i64 0, .int .i64 0, .int .i64 0, .int .i64 0, .int .i64 0, .int .i64 0, .string ⟨#[]⟩, .slice none 0 0, .int .i64 0] 25)).heap.size (w.alloc (.cells #[.int .i64 0, .int .i64 0, .int .i64 0, .int .i64 0, .int .i64 0, .int .i64 0, .string ⟨#[]⟩, .slice none 0 0, .int .i64 0] 25)) w1) := ⟨hs1, hb1⟩
  clear hs1 hb1
  go_wp2_with fail
  refine (draw_event _ g _ H1.out.1).mono ?_
  rintro e w2 ⟨v, p, cp, rfl, hn, hl, htx, hs2, hg2⟩
  have hgs := H1.out.1.1
  have hgl := H1.out.1.lt
  have e1 : w2.heap[w.heap.size]? = some (.cells #[.int .i64 0, .int .i64 0, .int .i64 0, .int .i64 0, .int .i64 0, .int .i64 0, .string ⟨#[]⟩, .slice none 0 0, .int .i64 0] 25 (0, 0)) := by
    simp at hgs
    rw [hg2.block _ (by omega) (by simp; omega), H1.out.2.block _ (by simp)]
    exact (MapKept.heap_alloc w _).1
  have hlt : w.heap.size < w1.heap.size := by simp at hgs; omega
  have hc1 : ∀ k, w2.cell? ⟨w.heap.size, k, none⟩ = _ := fun k => cell_of_heap e1
  have hf1 : ∀ k, w2.frozen? ⟨w.heap.size, k, none⟩ = false := fun k => frozen_of_heap e1
  have HO : Hid (w2.ownsRow w1.heap.size 2 1 (.slice p v.prev.length cp) v.prev.length (nv v.prev)) := hn
  have H2 : Hid (v.prev.length ≤ 3 ∧ Below w.heap.size w w2) := ⟨hl, ((Below.refl _ _).alloc (Nat.le_refl _) _).trans ((H1.out.2.mono (by simp)).trans (grown_below hg2 (by simp at hgs; omega) hgl))⟩
  clear hn hs2 hg2 e1 hgs hgl hl htx
  go_wp2
  refine bodyPost_ret (v := .agg #[.int .i64 v.id, .int .i64 v.room, .int .i64 v.author, .int .i64 v.kind, .int .i64 v.key, .int .i64 v.n, .string v.text, .slice p v.prev.length cp, .int .i64 v.time]) (by simp [results, Try.results6, go_sem, hc1]) rfl ⟨v, p, cp, rfl, ?_, H2.out.1, ?_⟩
  · exact owns_base (ownsRow_setCell_below (ownsRow_setCell_below (ownsRow_setCell_below (ownsRow_setCell_below (ownsRow_setCell_below (ownsRow_setCell_below (ownsRow_setCell_below (ownsRow_setCell_below (ownsRow_setCell_below HO.out (a := ⟨w.heap.size, 0, none⟩) hlt _) (a := ⟨w.heap.size, 1, none⟩) hlt _) (a := ⟨w.heap.size, 2, none⟩) hlt _) (a := ⟨w.heap.size, 3, none⟩) hlt _) (a := ⟨w.heap.size, 4, none⟩) hlt _) (a := ⟨w.heap.size, 5, none⟩) hlt _) (a := ⟨w.heap.size, 6, none⟩) hlt _) (a := ⟨w.heap.size, 7, none⟩) hlt _) (a := ⟨w.heap.size, 8, none⟩) hlt _) (Nat.le_of_lt hlt)
  · repeat refine Below.setCell ?_ (by simp) _
    exact H2.out.2

theorem text_field (x : ByteArray) (b c : Int) (W : World) : (Instr.field 73 (.agg #[.string x, .int .i64 b, .int .i64 c]) 0).run Try.prog W = .ok (.string x) W := by kernel_rfl
/-- Unseal: some text, no longer than what is unsealed. -/
theorem unseal_spec_text (t : ByteArray) (w : World) (ht : (t.size : Int) ≤ 8000) :
    Calls Try.prog 51 #[.string t] w fun e w' => ∃ (x : ByteArray) (c : Int), e = .returned (textV x c) ∧ x.size ≤ t.size ∧ Below w.heap.size w w' := by
  by_cases h4 : (t.size : Int) < 4
  · refine (unseal_spec_short t w h4).mono ?_
    rintro e w' ⟨rfl, hb⟩
    exact ⟨_, _, rfl, Nat.zero_le _, hb⟩
  · cases hk : okS t
    · refine (unseal_spec_any t w ht (by omega) ⟨#[]⟩ 5 (.inr ⟨hk, rfl, rfl⟩)).mono ?_
      rintro e w' ⟨rfl, hb⟩
      exact ⟨_, _, rfl, Nat.zero_le _, hb⟩
    · refine (unseal_spec_any t w ht (by omega) (t.extract 0 (t.size - 4)) 0 (.inl ⟨hk, rfl, rfl⟩)).mono ?_
      rintro e w' ⟨rfl, hb⟩
      refine ⟨_, _, rfl, ?_, hb⟩
      rw [ByteArray.size_extract]
      omega
/-- Some text. -/
def AnyText (base : Nat) (w : World) (e : Ending) (w' : World) : Prop := ∃ u : ByteArray, e = .returned (.string u) ∧ Below base w w'
set_option maxHeartbeats 2000000 in
set_option maxRecDepth 100000 in
theorem draw_eventread (base : Nat) (a : Option Addr) (len cap : Nat) (w : World) (hb : base ≤ w.heap.size) (hc : CodeAt w base a len) :
    Calls Try.prog 8 #[.slice a len cap] w (AnyText base w) := by
  have HC : Hid (CodeAt w base a len) := hc
  clear hc
  go_enter Try.func8, Try.ntmps8
  go_wp2_with fail
  refine (draw_source base a len cap _ hb HC.out).mono ?_
  rintro e w1 ⟨g, rfl, hs1, hb1⟩
  have H1 : Hid (SrcAt w1 base g ∧ Below base w w1) := ⟨hs1, hb1⟩
  clear hs1 hb1
  go_wp2_with fail
  refine (draw_event base g _ H1.out.1).mono ?_
  rintro e w2 ⟨v, p, cp, rfl, hn, hl, htx, hs2, hg2⟩
  have H2 : Hid (NumsAt w2 p v.prev ∧ SrcAt w2 base g ∧ Below base w w2) := ⟨numsAt_of hn (by omega), hs2, H1.out.2.trans (grown_below hg2 H1.out.1.1 H1.out.1.lt)⟩
  clear hn hs2 hg2 hl htx
  go_wp2_with fail
  refine (bytes_spec v p cp _ H2.out.1).mono ?_
  rintro e w3 ⟨rfl, hb3⟩
  have H3 : Hid (SrcAt w3 base g ∧ Below base w w3) := ⟨H2.out.2.1.below hb3, H2.out.2.2.trans (hb3.mono H2.out.2.1.le)⟩
  clear hb3
  have hT := bytesOf_size v
  obtain ⟨t, HT⟩ : ∃ t, Hid (t = bytesOf v) := ⟨_, rfl⟩
  rw [← HT.out] at hT ⊢
  have hT1 : (t.size : Int) ≤ 164 := by omega
  have hT0 : 0 ≤ (t.size : Int) := Int.natCast_nonneg _
  clear hT
  go_wp2_with fail
  refine (draw_n base g 5 _ H3.out.1 (by omega)).mono ?_
  rintro e w4 ⟨r, rfl, p0, q0, q1, hs4, hg4, hz4⟩
  have hr : r < 5 := q0 (by omega)
  have H4 : Hid (SrcAt w4 base g ∧ Below base w w4) := ⟨hs4, H3.out.2.trans (grown_below hg4 H3.out.1.1 H3.out.1.lt)⟩
  clear q0 q1 hs4 hg4 hz4
  by_cases c0 : r = 0
  · have b0 : (r == 0) = true := by simp [c0]
    clear c0
    go_wp2_with fail
    refine (spoil_spec base g t _ H4.out.1 (by omega)).mono ?_
    rintro e w5 ⟨u, rfl, hu, hs5, hg5⟩
    have H5 : Hid (Below base w w5) := H4.out.2.trans (grown_below hg5 H4.out.1.1 H4.out.1.lt)
    clear hu hs5 hg5
    go_wp2
    go_ret
    exact ⟨_, rfl, H5.out⟩
  have b0 : (r == 0) = false := by simp [c0]
  by_cases c1 : r = 1
  · have b1 : (r == 1) = true := by simp [c1]
    clear c0 c1
    go_wp2_with fail
    refine (draw_n base g ((t.size : Int) + 1) _ H4.out.1 (by omega)).mono ?_
    rintro e w5 ⟨r5, rfl, p5, q5, q6, hs5, hg5, hz5⟩
    have hr5 : r5 ≤ (t.size : Int) := by
      by_cases h : 1 < (t.size : Int) + 1
      · have := q5 h; omega
      · have := q6 (by omega); omega
    have H5 : Hid (Below base w w5) := H4.out.2.trans (grown_below hg5 H4.out.1.1 H4.out.1.lt)
    clear q5 q6 hs5 hg5 hz5
    obtain ⟨k, rfl⟩ := Int.eq_ofNat_of_zero_le p5
    go_wp2
    go_ret
    exact ⟨_, rfl, H5.out⟩
  have b1 : (r == 1) = false := by simp [c1]
  by_cases c2 : r = 2
  · have b2 : (r == 2) = true := by simp [c2]
    clear c0 c1 c2
    have hfld := text_field
    go_wp2_with fail
    refine (unseal_spec_text t _ (by omega)).mono ?_
    rintro e w5 ⟨x, c, rfl, hx, hb5⟩
    have H5 : Hid (SrcAt w5 base g ∧ Below base w w5) := ⟨H4.out.1.below hb5, H4.out.2.trans (hb5.mono H4.out.1.le)⟩
    have hx1 : (x.size : Int) ≤ 164 := by omega
    clear hb5 hx
    unfold textV
    go_wp2_with fail
    refine (spoil_spec base g x _ H5.out.1 (by omega)).mono ?_
    rintro e w6 ⟨u, rfl, hu, hs6, hg6⟩
    have H6 : Hid (SrcAt w6 base g ∧ Below base w w6) := ⟨hs6, H5.out.2.trans (grown_below hg6 H5.out.1.1 H5.out.1.lt)⟩
    have hu1 : (u.size : Int) ≤ 165 := by omega
    clear hu hs6 hg6
    go_wp2_with fail
    refine (seal_spec u _ (by omega)).mono ?_
    rintro e w7 ⟨rfl, hb7⟩
    have H7 : Hid (Below base w w7) := H6.out.2.trans (hb7.mono H6.out.1.le)
    clear hb7
    go_wp2
    go_ret
    exact ⟨_, rfl, H7.out⟩
  have b2 : (r == 2) = false := by simp [c2]
  clear c0 c1 c2
  go_wp2
  go_ret
  exact ⟨_, rfl, H4.out.2⟩
end Go.Proofs.Ytjdkenopfnepaaa
