/- The specification's reader: its object in memory, and what one call of it reads. -/
import Derived.Test.YtjdkenopfnepaaaEvReadPlain
import Derived.Test.YtjdkenopfnepaaaGetText
import Derived.Test.YtjdkenopfnepaaaEvRdI
namespace Go.Proofs.Ytjdkenopfnepaaa
open Go.RowKit

theorem gettext_any (s : ByteArray) (p : Nat) (w : World) (hs : (s.size : Int) ≤ 8000) (hp : (p : Int) ≤ 8000) :
    Calls Try.prog 105 #[.string s, .int .i64 p] w fun e w' => e = .returned (textA (H s p).1 (H s p).2.1 (H s p).2.2) ∧ Below w.heap.size w w' := by
  have hI : ∀ w, Calls Try.prog 104 #[.string s, .int .i64 p] w fun e w' => e = .returned (numV (G s p 10 0 0).1 (G s p 10 0 0).2.1 (G s p 10 0 0).2.2) ∧ Below w.heap.size w w' := fun w => get_spec s p w (by omega) (by omega) _ rfl
  unfold H
  obtain ⟨⟨a, b, c⟩, hR⟩ : ∃ R, G s p 10 0 0 = R := ⟨_, rfl⟩
  rw [hR] at hI ⊢
  simp only [] at hI ⊢
  by_cases hc : c = 0
  · subst hc
    obtain ⟨hb0, hb1⟩ := G_place s p 10 0 0 a b hR
    rw [if_neg (by simp)]
    by_cases ha : a < 0
    · rw [if_pos (.inl ha)]; exact gettext_spec_neg s p w a b ha hI
    by_cases hA : 8000 < a
    · rw [if_pos (.inr hA)]; exact gettext_spec_big s p w a b hA hI
    rw [if_neg (by omega)]
    obtain ⟨m, rfl⟩ := Int.eq_ofNat_of_zero_le (show 0 ≤ a by omega)
    obtain ⟨q, rfl⟩ := Int.eq_ofNat_of_zero_le (show 0 ≤ b by omega)
    by_cases hq : (s.size : Int) - m < q
    · rw [if_pos hq]; exact gettext_spec_short s p w m q (by omega) (by omega) hb1 hq hI
    · rw [if_neg hq]; exact gettext_spec_ok s p w m q (by omega) (by omega) hb1 (by omega) hI
  · obtain ⟨ha, hb⟩ : a = 0 ∧ b = 0 := G_fault s p 10 0 0 a b c hR hc
    subst ha hb
    rw [if_pos hc]
    exact gettext_spec_err s p w c hc hI

/-- The reader's object: block g. -/
def RdS (w : World) (g : Nat) (s : ByteArray) (st : Nat × Bool) : Prop :=
  w.heap[g]? = some (.cells #[.string s, .int .i64 st.1, .bool st.2] 83 (0, 0)) ∧ (st.1 : Int) ≤ 8000
theorem RdS.lt {w : World} {g : Nat} {s : ByteArray} {st : Nat × Bool} (h : RdS w g s st) : g < w.heap.size := (Array.getElem?_eq_some_iff.1 h.1).1
theorem RdS.kept {w w' : World} {g : Nat} {s : ByteArray} {st : Nat × Bool} (h : RdS w g s st) (hg : w'.heap[g]? = w.heap[g]?) : RdS w' g s st := ⟨hg.trans h.1, h.2⟩
theorem heap1 {w1 : World} {g k : Nat} {C : Array Value} {t : TypeId} {fr : Nat × Nat} (h : w1.heap[g]? = some (.cells C t fr)) (o : Obj) (v : Value) : ((w1.setCell ⟨g, k, none⟩ v).alloc o).heap[g]? = some (.cells (C.setIfInBounds k v) t fr) :=
  (Below.heap_alloc _ _ _ (by have := (Array.getElem?_eq_some_iff.1 h).1; simpa [World.setCell] using this)).trans (heap_set h v)
theorem heap2 {w1 : World} {g k n : Nat} {C : Array Value} {t : TypeId} {fr : Nat × Nat} (h : w1.heap[g]? = some (.cells C t fr)) (hn : g ≠ n) (x y z v : Value) : ((((w1.setCell ⟨n, 0, none⟩ x).setCell ⟨n, 1, none⟩ y).setCell ⟨n, 2, none⟩ z).setCell ⟨g, k, none⟩ v).heap[g]? = some (.cells (C.setIfInBounds k v) t fr) :=
  heap_set (((Below.heap_setCell _ _ _ _ hn).trans ((Below.heap_setCell _ _ _ _ hn).trans ((Below.heap_setCell _ _ _ _ hn).trans h)))) v
theorem grown1 {w w1 : World} {g k : Nat} (hb : Below w.heap.size w w1) (o : Obj) (v : Value) : w.grownBy ((w1.setCell ⟨g, k, none⟩ v).alloc o) (some g) :=
  ⟨hb.os, hb.tape, hb.output, by have := hb.size; simp [World.setCell]; omega, fun q hq hne => by
    rw [Below.heap_alloc _ _ _ (by have := hb.size; simp [World.setCell]; omega), Below.heap_setCell _ _ _ _ (fun e => hne (by simp [e]))]
    exact hb.block q hq⟩
theorem grown2 {w w1 : World} {g k n : Nat} (hb : Below w.heap.size w w1) (hn : w.heap.size ≤ n) (x y z v : Value) : w.grownBy ((((w1.setCell ⟨n, 0, none⟩ x).setCell ⟨n, 1, none⟩ y).setCell ⟨n, 2, none⟩ z).setCell ⟨g, k, none⟩ v) (some g) :=
  ⟨hb.os, hb.tape, hb.output, by have := hb.size; simpa [World.setCell] using this, fun q hq hne => by
    have e : q ≠ n := by omega
    rw [Below.heap_setCell _ _ _ _ (fun e => hne (by simp [e])), Below.heap_setCell _ _ _ _ e, Below.heap_setCell _ _ _ _ e, Below.heap_setCell _ _ _ _ e]
    exact hb.block q hq⟩

set_option maxHeartbeats 1000000 in
theorem num_spec (g : Nat) (s : ByteArray) (st : Nat × Bool) (w : World) (hr : RdS w g s st) (hs : (s.size : Int) ≤ 8000) :
    Calls Try.prog 54 #[.pointer (some ⟨g, 0, none⟩)] w fun e w' => e = .returned (.int .i64 (stepS s st).1) ∧ RdS w' g s (stepS s st).2 ∧ w.grownBy w' (some g) := by
  obtain ⟨p, bad⟩ := st
  have hgl := hr.lt
  obtain ⟨hh, hp⟩ := hr
  simp only [] at hp hh
  have HH : Hid (w.heap[g]? = some (.cells #[.string s, .int .i64 p, .bool bad] 83 (0, 0))) := hh
  have c0 : w.cell? ⟨g, 0, none⟩ = some (.string s) := cell_of_heap hh
  have c1 : w.cell? ⟨g, 1, none⟩ = some (.int .i64 p) := cell_of_heap hh
  have c2 : w.cell? ⟨g, 2, none⟩ = some (.bool bad) := cell_of_heap hh
  have f1 : w.frozen? ⟨g, 1, none⟩ = false := frozen_of_heap hh
  have f2 : w.frozen? ⟨g, 2, none⟩ = false := frozen_of_heap hh
  have hin := G_in s p
  obtain ⟨⟨a, b, c⟩, hR⟩ : ∃ R, G s p 10 0 0 = R := ⟨_, rfl⟩
  have HG : Hid (G s p 10 0 0 = (a, b, c)) := hR
  rw [hR] at hin
  simp only [] at hin
  have HC : Hid (∀ w, Calls Try.prog 104 #[.string s, .int .i64 p] w fun e w' => e = .returned (numV a b c) ∧ Below w.heap.size w w') := by
    intro w
    have h := get_spec s p w hs (by omega) (G s p 10 0 0) rfl
    rw [hR] at h
    exact h
  have HE : Hid (stepS s (p, bad) = if (bad || c != 0) = true then (0, p, true) else (a, b.toNat, false)) := by unfold Hid stepS; rw [hR]
  clear hh hR
  have hgne : g ≠ w.heap.size := by omega
  cases bad
  · cases hc0 : c != 0
    · go_enter Try.func54, Try.ntmps54
      go_wp2_with fail
      go_region_held3 (fun w' => w'.cell? ⟨g, 0, none⟩ = some (.string s) ∧ w'.cell? ⟨g, 1, none⟩ = some (.int .i64 p) ∧ w'.cell? ⟨g, 2, none⟩ = some (.bool false) ∧ w'.frozen? ⟨g, 1, none⟩ = false ∧ w'.frozen? ⟨g, 2, none⟩ = false) (simp [go_sem, *]) (first
        | (go_at_call 104; refine (HC.out _).mono ?_; rintro e w1 ⟨he, hb1⟩; unfold numV at he; subst he; have HB : Hid (Below w.heap.size w w1) := (by first | exact below_undrew hb1 | exact ((Below.drew (Below.refl _ _)).alloc (Nat.le_refl _) _).trans (hb1.mono (by simp))); obtain ⟨hc1, hf1⟩ := bcell hb1; obtain ⟨hcw, hfw⟩ := bcell HB.out; have hz1 : g < w1.heap.size := Nat.lt_of_lt_of_le hgl HB.out.size))
      all_goals go_wp2
      all_goals go_ret
      all_goals have hbase := (HB.out.block g hgl).trans HH.out
      all_goals rw [HE.out, if_neg (by simp [hc0])]
      · refine ⟨rfl, ⟨?_, ?_⟩, grown1 HB.out _ _⟩
        · rw [heap1 hbase]
          show _ = some (Obj.cells #[.string s, .int .i64 ((b.toNat : Nat) : Int), .bool false] _ _)
          rw [Int.toNat_of_nonneg hin.1]
          rfl
        · show ((b.toNat : Nat) : Int) ≤ 8000
          omega
      · refine ⟨rfl, ⟨?_, ?_⟩, grown2 HB.out (Nat.le_refl _) _ _ _ _⟩
        · rw [heap2 hbase hgne]
          show _ = some (Obj.cells #[.string s, .int .i64 ((b.toNat : Nat) : Int), .bool false] _ _)
          rw [Int.toNat_of_nonneg hin.1]
          rfl
        · show ((b.toNat : Nat) : Int) ≤ 8000
          omega
    · go_enter Try.func54, Try.ntmps54
      go_wp2_with fail
      go_region_held3 (fun w' => w'.cell? ⟨g, 0, none⟩ = some (.string s) ∧ w'.cell? ⟨g, 1, none⟩ = some (.int .i64 p) ∧ w'.cell? ⟨g, 2, none⟩ = some (.bool false) ∧ w'.frozen? ⟨g, 1, none⟩ = false ∧ w'.frozen? ⟨g, 2, none⟩ = false) (simp [go_sem, *]) (first
        | (go_at_call 104; refine (HC.out _).mono ?_; rintro e w1 ⟨he, hb1⟩; unfold numV at he; subst he; have HB : Hid (Below w.heap.size w w1) := (by first | exact below_undrew hb1 | exact ((Below.drew (Below.refl _ _)).alloc (Nat.le_refl _) _).trans (hb1.mono (by simp))); obtain ⟨hc1, hf1⟩ := bcell hb1; obtain ⟨hcw, hfw⟩ := bcell HB.out; have hz1 : g < w1.heap.size := Nat.lt_of_lt_of_le hgl HB.out.size))
      all_goals go_wp2
      all_goals go_ret
      all_goals have hbase := (HB.out.block g hgl).trans HH.out
      all_goals rw [HE.out, if_pos (by simp [hc0])]
      · exact ⟨rfl, ⟨heap1 hbase _ _, hp⟩, grown1 HB.out _ _⟩
      · exact ⟨rfl, ⟨heap2 hbase hgne _ _ _ _, hp⟩, grown2 HB.out (Nat.le_refl _) _ _ _ _⟩
  · go_enter Try.func54, Try.ntmps54
    go_wp2_with fail
    go_region_held3 (fun w' => w'.cell? ⟨g, 0, none⟩ = some (.string s) ∧ w'.cell? ⟨g, 1, none⟩ = some (.int .i64 p) ∧ w'.cell? ⟨g, 2, none⟩ = some (.bool true) ∧ w'.frozen? ⟨g, 1, none⟩ = false ∧ w'.frozen? ⟨g, 2, none⟩ = false) (simp [go_sem, *]) (first
      | (go_at_call 104; refine (HC.out _).mono ?_; rintro e w1 ⟨he, hb1⟩; unfold numV at he; subst he; have HB : Hid (Below w.heap.size w w1) := (by first | exact below_undrew hb1 | exact ((Below.drew (Below.refl _ _)).alloc (Nat.le_refl _) _).trans (hb1.mono (by simp))); obtain ⟨hc1, hf1⟩ := bcell hb1; obtain ⟨hcw, hfw⟩ := bcell HB.out; have hz1 : g < w1.heap.size := Nat.lt_of_lt_of_le hgl HB.out.size))
    all_goals go_wp2
    all_goals go_ret
    all_goals have hbase := (HB.out.block g hgl).trans HH.out
    all_goals rw [HE.out, if_pos (by simp)]
    · exact ⟨rfl, ⟨heap1 hbase _ _, hp⟩, grown1 HB.out _ _⟩
    · exact ⟨rfl, ⟨heap2 hbase hgne _ _ _ _, hp⟩, grown2 HB.out (Nat.le_refl _) _ _ _ _⟩

set_option maxHeartbeats 1000000 in
theorem word_spec (g : Nat) (s : ByteArray) (st : Nat × Bool) (w : World) (hr : RdS w g s st) (hs : (s.size : Int) ≤ 8000) :
    Calls Try.prog 55 #[.pointer (some ⟨g, 0, none⟩)] w fun e w' => e = .returned (.string (wordS s st).1) ∧ RdS w' g s (wordS s st).2 ∧ w.grownBy w' (some g) := by
  obtain ⟨p, bad⟩ := st
  have hgl := hr.lt
  obtain ⟨hh, hp⟩ := hr
  simp only [] at hp hh
  have HH : Hid (w.heap[g]? = some (.cells #[.string s, .int .i64 p, .bool bad] 83 (0, 0))) := hh
  have c0 : w.cell? ⟨g, 0, none⟩ = some (.string s) := cell_of_heap hh
  have c1 : w.cell? ⟨g, 1, none⟩ = some (.int .i64 p) := cell_of_heap hh
  have c2 : w.cell? ⟨g, 2, none⟩ = some (.bool bad) := cell_of_heap hh
  have f1 : w.frozen? ⟨g, 1, none⟩ = false := frozen_of_heap hh
  have f2 : w.frozen? ⟨g, 2, none⟩ = false := frozen_of_heap hh
  have hin := H_in s p
  obtain ⟨⟨a, b, c⟩, hR⟩ : ∃ R, H s p = R := ⟨_, rfl⟩
  have HG : Hid (H s p = (a, b, c)) := hR
  rw [hR] at hin
  simp only [] at hin
  have HC : Hid (∀ w, Calls Try.prog 105 #[.string s, .int .i64 p] w fun e w' => e = .returned (textA a b c) ∧ Below w.heap.size w w') := by
    intro w
    have h := gettext_any s p w hs hp
    rw [hR] at h
    exact h
  have HE : Hid (wordS s (p, bad) = if (bad || c != 0) = true then (⟨#[]⟩, p, true) else (a, b.toNat, false)) := by unfold Hid wordS; rw [hR]
  clear hh hR
  have hgne : g ≠ w.heap.size := by omega
  cases bad
  · cases hc0 : c != 0
    · go_enter Try.func55, Try.ntmps55
      go_wp2_with fail
      go_region_held3 (fun w' => w'.cell? ⟨g, 0, none⟩ = some (.string s) ∧ w'.cell? ⟨g, 1, none⟩ = some (.int .i64 p) ∧ w'.cell? ⟨g, 2, none⟩ = some (.bool false) ∧ w'.frozen? ⟨g, 1, none⟩ = false ∧ w'.frozen? ⟨g, 2, none⟩ = false) (simp [go_sem, *]) (first
        | (go_at_call 105; refine (HC.out _).mono ?_; rintro e w1 ⟨he, hb1⟩; unfold textA at he; subst he; have HB : Hid (Below w.heap.size w w1) := (by first | exact below_undrew hb1 | exact ((Below.drew (Below.refl _ _)).alloc (Nat.le_refl _) _).trans (hb1.mono (by simp))); obtain ⟨hc1, hf1⟩ := bcell hb1; obtain ⟨hcw, hfw⟩ := bcell HB.out; have hz1 : g < w1.heap.size := Nat.lt_of_lt_of_le hgl HB.out.size))
      all_goals go_wp2
      all_goals go_ret
      all_goals have hbase := (HB.out.block g hgl).trans HH.out
      all_goals rw [HE.out, if_neg (by simp [hc0])]
      · refine ⟨rfl, ⟨?_, ?_⟩, grown1 HB.out _ _⟩
        · rw [heap1 hbase]
          show _ = some (Obj.cells #[.string s, .int .i64 ((b.toNat : Nat) : Int), .bool false] _ _)
          rw [Int.toNat_of_nonneg hin.1]
          rfl
        · show ((b.toNat : Nat) : Int) ≤ 8000
          omega
      · refine ⟨rfl, ⟨?_, ?_⟩, grown2 HB.out (Nat.le_refl _) _ _ _ _⟩
        · rw [heap2 hbase hgne]
          show _ = some (Obj.cells #[.string s, .int .i64 ((b.toNat : Nat) : Int), .bool false] _ _)
          rw [Int.toNat_of_nonneg hin.1]
          rfl
        · show ((b.toNat : Nat) : Int) ≤ 8000
          omega
    · go_enter Try.func55, Try.ntmps55
      go_wp2_with fail
      go_region_held3 (fun w' => w'.cell? ⟨g, 0, none⟩ = some (.string s) ∧ w'.cell? ⟨g, 1, none⟩ = some (.int .i64 p) ∧ w'.cell? ⟨g, 2, none⟩ = some (.bool false) ∧ w'.frozen? ⟨g, 1, none⟩ = false ∧ w'.frozen? ⟨g, 2, none⟩ = false) (simp [go_sem, *]) (first
        | (go_at_call 105; refine (HC.out _).mono ?_; rintro e w1 ⟨he, hb1⟩; unfold textA at he; subst he; have HB : Hid (Below w.heap.size w w1) := (by first | exact below_undrew hb1 | exact ((Below.drew (Below.refl _ _)).alloc (Nat.le_refl _) _).trans (hb1.mono (by simp))); obtain ⟨hc1, hf1⟩ := bcell hb1; obtain ⟨hcw, hfw⟩ := bcell HB.out; have hz1 : g < w1.heap.size := Nat.lt_of_lt_of_le hgl HB.out.size))
      all_goals go_wp2
      all_goals go_ret
      all_goals have hbase := (HB.out.block g hgl).trans HH.out
      all_goals rw [HE.out, if_pos (by simp [hc0])]
      · exact ⟨rfl, ⟨heap1 hbase _ _, hp⟩, grown1 HB.out _ _⟩
      · exact ⟨rfl, ⟨heap2 hbase hgne _ _ _ _, hp⟩, grown2 HB.out (Nat.le_refl _) _ _ _ _⟩
  · go_enter Try.func55, Try.ntmps55
    go_wp2_with fail
    go_region_held3 (fun w' => w'.cell? ⟨g, 0, none⟩ = some (.string s) ∧ w'.cell? ⟨g, 1, none⟩ = some (.int .i64 p) ∧ w'.cell? ⟨g, 2, none⟩ = some (.bool true) ∧ w'.frozen? ⟨g, 1, none⟩ = false ∧ w'.frozen? ⟨g, 2, none⟩ = false) (simp [go_sem, *]) (first
      | (go_at_call 105; refine (HC.out _).mono ?_; rintro e w1 ⟨he, hb1⟩; unfold textA at he; subst he; have HB : Hid (Below w.heap.size w w1) := (by first | exact below_undrew hb1 | exact ((Below.drew (Below.refl _ _)).alloc (Nat.le_refl _) _).trans (hb1.mono (by simp))); obtain ⟨hc1, hf1⟩ := bcell hb1; obtain ⟨hcw, hfw⟩ := bcell HB.out; have hz1 : g < w1.heap.size := Nat.lt_of_lt_of_le hgl HB.out.size))
    all_goals go_wp2
    all_goals go_ret
    all_goals have hbase := (HB.out.block g hgl).trans HH.out
    all_goals rw [HE.out, if_pos (by simp)]
    · exact ⟨rfl, ⟨heap1 hbase _ _, hp⟩, grown1 HB.out _ _⟩
    · exact ⟨rfl, ⟨heap2 hbase hgne _ _ _ _, hp⟩, grown2 HB.out (Nat.le_refl _) _ _ _ _⟩
end Go.Proofs.Ytjdkenopfnepaaa
