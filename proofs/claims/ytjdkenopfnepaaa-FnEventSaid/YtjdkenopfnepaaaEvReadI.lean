/- The program's readEvent: which event it reads. -/
import Derived.Test.YtjdkenopfnepaaaEvRdI
import Derived.Test.YtjdkenopfnepaaaEvNums
import Derived.Deep.AppendLies
import Derived.Deep.RegionLaw
namespace Go.Proofs.Ytjdkenopfnepaaa
open Go.RowKit

/-- While an event is read: the reader's object, the event's variable, the result's variable. -/
def RE (w : World) (g : Nat) (s : ByteArray) (st : Nat × Bool) (cs : Array Value) (W : World) : Prop :=
  RdI W g s st ∧ W.heap[w.heap.size + 1]? = some (.cells cs 25 (0, 0)) ∧ (∃ c0 : Array Value, c0.size = 9 ∧ W.heap[w.heap.size]? = some (.cells c0 25 (0, 0))) ∧ w.grownBy W (some g)
theorem RE.lt {w : World} {g : Nat} {s : ByteArray} {st : Nat × Bool} {cs : Array Value} {W : World} (h : RE w g s st cs W) : w.heap.size + 1 < W.heap.size := (Array.getElem?_eq_some_iff.1 h.2.1).1
theorem RE.grown {w : World} {g : Nat} {s : ByteArray} {st : Nat × Bool} {cs : Array Value} {W w1 : World} (h : RE w g s st cs W) (hgw : g < w.heap.size) {row : Option Nat} (hg : W.grownBy w1 row) (hrow : ∀ k, row = some k → w.heap.size + 2 ≤ k) : RE w g s st cs w1 := by
  have hl := h.lt
  obtain ⟨h1, h2, ⟨c0, hc0, h3⟩, h4⟩ := h
  have hne : ∀ k, k < w.heap.size + 2 → some k ≠ row := fun k hk e => by have := hrow k e.symm; omega
  refine ⟨h1.kept (hg.block g (by omega) (hne _ (by omega))), (hg.block _ (by omega) (hne _ (by omega))).trans h2, ⟨c0, hc0, (hg.block _ (by omega) (hne _ (by omega))).trans h3⟩, ⟨hg.os.trans h4.os, hg.tape.trans h4.tape, hg.output.trans h4.output, Nat.le_trans h4.size hg.size, fun k hk hk2 => (hg.block k (Nat.lt_of_lt_of_le hk h4.size) (hne k (by omega))).trans (h4.block k hk hk2)⟩⟩
theorem RE.alloc {w : World} {g : Nat} {s : ByteArray} {st : Nat × Bool} {cs : Array Value} {W : World} (h : RE w g s st cs W) (hgw : g < w.heap.size) (o : Obj) : RE w g s st cs (W.alloc o) :=
  h.grown hgw (World.grownBy_alloc W o none) (fun k hk => by cases hk)
theorem RE.num {w : World} {g : Nat} {s : ByteArray} {st st' : Nat × Bool} {cs : Array Value} {W w1 : World} (h : RE w g s st cs W) (hgw : g < w.heap.size) (hr : RdI w1 g s st') (hg : W.grownBy w1 (some g)) : RE w g s st' cs w1 := by
  have hl := h.lt
  obtain ⟨_, h2, ⟨c0, hc0, h3⟩, h4⟩ := h
  exact ⟨hr, (hg.block _ (by omega) (by simp; omega)).trans h2, ⟨c0, hc0, (hg.block _ (by omega) (by simp; omega)).trans h3⟩, h4.trans hg⟩
theorem RE.set {w : World} {g : Nat} {s : ByteArray} {st : Nat × Bool} {cs : Array Value} {W : World} (h : RE w g s st cs W) (hgw : g < w.heap.size) (k : Nat) (v : Value) : RE w g s st (cs.setIfInBounds k v) (W.setCell ⟨w.heap.size + 1, k, none⟩ v) := by
  obtain ⟨h1, h2, ⟨c0, hc0, h3⟩, h4⟩ := h
  refine ⟨h1.kept (Below.heap_setCell _ _ _ _ (by simp; omega)), heap_set h2 v, ⟨c0, hc0, (Below.heap_setCell _ _ _ _ (by simp)).trans h3⟩, ⟨h4.os, h4.tape, h4.output, by simpa [World.setCell] using h4.size, fun q hq hq2 => (Below.heap_setCell _ _ _ _ (by simp; omega)).trans (h4.block q hq hq2)⟩⟩
theorem RE.cell {w : World} {g : Nat} {s : ByteArray} {st : Nat × Bool} {cs : Array Value} {W : World} (h : RE w g s st cs W) (k : Nat) : W.cell? ⟨w.heap.size + 1, k, none⟩ = cs[k]? := cell_of_heap h.2.1
theorem RE.frozen {w : World} {g : Nat} {s : ByteArray} {st : Nat × Bool} {cs : Array Value} {W : World} (h : RE w g s st cs W) (k : Nat) : W.frozen? ⟨w.heap.size + 1, k, none⟩ = false := frozen_of_heap h.2.1
theorem RE.start {w : World} {g : Nat} {s : ByteArray} {st : Nat × Bool} (h : RdI w g s st) : RE w g s st #[.int .i64 0, .int .i64 0, .int .i64 0, .int .i64 0, .int .i64 0, .int .i64 0, .string ⟨#[]⟩, .slice none 0 0, .int .i64 0] ((w.alloc (.cells #[.int .i64 0, .int .i64 0, .int .i64 0, .int .i64 0, .int .i64 0, .int .i64 0, .string ⟨#[]⟩, .slice none 0 0, .int .i64 0] 25)).alloc (.cells #[.int .i64 0, .int .i64 0, .int .i64 0, .int .i64 0, .int .i64 0, .int .i64 0, .string ⟨#[]⟩, .slice none 0 0, .int .i64 0] 25)) := by
  have hl := h.lt
  refine ⟨h.kept ((Below.heap_alloc _ _ _ (by simp; omega)).trans (Below.heap_alloc _ _ _ hl)), ?_, ⟨_, rfl, (Below.heap_alloc _ _ _ (by simp)).trans (MapKept.heap_alloc w _).1⟩, (World.grownBy_alloc w _ _).trans (World.grownBy_alloc _ _ _)⟩
  have := (MapKept.heap_alloc (w.alloc (.cells #[.int .i64 0, .int .i64 0, .int .i64 0, .int .i64 0, .int .i64 0, .int .i64 0, .string ⟨#[]⟩, .slice none 0 0, .int .i64 0] 25)) (.cells #[.int .i64 0, .int .i64 0, .int .i64 0, .int .i64 0, .int .i64 0, .int .i64 0, .string ⟨#[]⟩, .slice none 0 0, .int .i64 0] 25)).1
  simpa using this
theorem grown_setnew {w W : World} {row : Option Nat} (h : w.grownBy W row) {p : Addr} (hp : w.heap.size ≤ p.block) (u : Value) : w.grownBy (W.setCell p u) row :=
  ⟨h.os, h.tape, h.output, by simpa [World.setCell] using h.size, fun k hk hk2 => (Below.heap_setCell _ _ _ _ (by omega)).trans (h.block k hk hk2)⟩
/-- How the numbers of an event were read. -/
def ReadI (s : ByteArray) (v : Ev) : Prop := ∃ (s1 s2 s3 s4 s5 s6 s7 s8 s9 s10 : Nat × Bool) (m : Int), stepI s (0, false) = (v.id, s1) ∧ stepI s s1 = (v.room, s2) ∧ stepI s s2 = (v.author, s3) ∧ stepI s s3 = (v.kind, s4) ∧ stepI s s4 = (v.key, s5) ∧ stepI s s5 = (v.n, s6) ∧ wordI s s6 = (v.text, s7) ∧ stepI s s7 = (m, s8) ∧ numsR stepI s (min m 4).toNat s8 = (v.prev, s9) ∧ stepI s s9 = (v.time, s10)

set_option maxHeartbeats 2000000 in
set_option maxRecDepth 20000 in
theorem readEvent_impl (g : Nat) (s : ByteArray) (w : World) (hr : RdI w g s (0, false)) (hs : (s.size : Int) ≤ 8000) :
    Calls Try.prog 53 #[.pointer (some ⟨g, 0, none⟩)] w fun e w' => ∃ (v : Ev) (a : Option Addr) (cap : Nat), e = .returned (.agg #[.int .i64 v.id, .int .i64 v.room, .int .i64 v.author, .int .i64 v.kind, .int .i64 v.key, .int .i64 v.n, .string v.text, .slice a v.prev.length cap, .int .i64 v.time]) ∧
      w'.ownsRow (w.heap.size + 2) 2 1 (.slice a v.prev.length cap) v.prev.length (nv v.prev) ∧ w.grownBy w' (some g) ∧ ReadI s v := by
  obtain ⟨i0, hi, hz0, hz1, hz2⟩ := info_parts Try.info2
  have hgw := hr.lt
  have R0 := RE.start hr
  have HR : Hid (RE w g s (0, false) #[.int .i64 0, .int .i64 0, .int .i64 0, .int .i64 0, .int .i64 0, .int .i64 0, .string ⟨#[]⟩, .slice none 0 0, .int .i64 0] ((w.alloc (.cells #[.int .i64 0, .int .i64 0, .int .i64 0, .int .i64 0, .int .i64 0, .int .i64 0, .string ⟨#[]⟩, .slice none 0 0, .int .i64 0] 25)).alloc (.cells #[.int .i64 0, .int .i64 0, .int .i64 0, .int .i64 0, .int .i64 0, .int .i64 0, .string ⟨#[]⟩, .slice none 0 0, .int .i64 0] 25))) := R0
  clear hr R0
  go_enter Try.func53, Try.ntmps53
  go_wp2_with fail
  obtain ⟨n1, s1, e0⟩ : ∃ n st, stepI s (0, false) = (n, st) := ⟨_, _, rfl⟩
  have E0 : Hid (stepI s (0, false) = (n1, s1)) := e0
  clear e0
  refine (num_impl g s (0, false) _ HR.out.1 hs).mono ?_
  rintro e w0 ⟨rfl, hr0, hg0⟩
  rw [E0.out] at hr0
  rw [E0.out]
  have R0 := HR.out.num hgw hr0 hg0
  have c0 : w0.cell? ⟨w.heap.size + 1, 0, none⟩ = some (.int .i64 0) := R0.cell 0
  have f0 := R0.frozen 0
  have HR : Hid (RE w g s s1 #[.int .i64 n1, .int .i64 0, .int .i64 0, .int .i64 0, .int .i64 0, .int .i64 0, .string ⟨#[]⟩, .slice none 0 0, .int .i64 0] (w0.setCell ⟨w.heap.size + 1, 0, none⟩ (.int .i64 n1))) := R0.set hgw 0 (.int .i64 n1)
  clear hr0 hg0 R0
  go_wp2_with fail
  obtain ⟨n2, s2, e1⟩ : ∃ n st, stepI s s1 = (n, st) := ⟨_, _, rfl⟩
  have E1 : Hid (stepI s s1 = (n2, s2)) := e1
  clear e1
  refine (num_impl g s s1 _ HR.out.1 hs).mono ?_
  rintro e w1 ⟨rfl, hr1, hg1⟩
  rw [E1.out] at hr1
  rw [E1.out]
  have R1 := HR.out.num hgw hr1 hg1
  have c1 : w1.cell? ⟨w.heap.size + 1, 1, none⟩ = some (.int .i64 0) := R1.cell 1
  have f1 := R1.frozen 1
  have HR : Hid (RE w g s s2 #[.int .i64 n1, .int .i64 n2, .int .i64 0, .int .i64 0, .int .i64 0, .int .i64 0, .string ⟨#[]⟩, .slice none 0 0, .int .i64 0] (w1.setCell ⟨w.heap.size + 1, 1, none⟩ (.int .i64 n2))) := R1.set hgw 1 (.int .i64 n2)
  clear hr1 hg1 R1
  go_wp2_with fail
  obtain ⟨n3, s3, e2⟩ : ∃ n st, stepI s s2 = (n, st) := ⟨_, _, rfl⟩
  have E2 : Hid (stepI s s2 = (n3, s3)) := e2
  clear e2
  refine (num_impl g s s2 _ HR.out.1 hs).mono ?_
  rintro e w2 ⟨rfl, hr2, hg2⟩
  rw [E2.out] at hr2
  rw [E2.out]
  have R2 := HR.out.num hgw hr2 hg2
  have c2 : w2.cell? ⟨w.heap.size + 1, 2, none⟩ = some (.int .i64 0) := R2.cell 2
  have f2 := R2.frozen 2
  have HR : Hid (RE w g s s3 #[.int .i64 n1, .int .i64 n2, .int .i64 n3, .int .i64 0, .int .i64 0, .int .i64 0, .string ⟨#[]⟩, .slice none 0 0, .int .i64 0] (w2.setCell ⟨w.heap.size + 1, 2, none⟩ (.int .i64 n3))) := R2.set hgw 2 (.int .i64 n3)
  clear hr2 hg2 R2
  go_wp2_with fail
  obtain ⟨n4, s4, e3⟩ : ∃ n st, stepI s s3 = (n, st) := ⟨_, _, rfl⟩
  have E3 : Hid (stepI s s3 = (n4, s4)) := e3
  clear e3
  refine (num_impl g s s3 _ HR.out.1 hs).mono ?_
  rintro e w3 ⟨rfl, hr3, hg3⟩
  rw [E3.out] at hr3
  rw [E3.out]
  have R3 := HR.out.num hgw hr3 hg3
  have c3 : w3.cell? ⟨w.heap.size + 1, 3, none⟩ = some (.int .i64 0) := R3.cell 3
  have f3 := R3.frozen 3
  have HR : Hid (RE w g s s4 #[.int .i64 n1, .int .i64 n2, .int .i64 n3, .int .i64 n4, .int .i64 0, .int .i64 0, .string ⟨#[]⟩, .slice none 0 0, .int .i64 0] (w3.setCell ⟨w.heap.size + 1, 3, none⟩ (.int .i64 n4))) := R3.set hgw 3 (.int .i64 n4)
  clear hr3 hg3 R3
  go_wp2_with fail
  obtain ⟨n5, s5, e4⟩ : ∃ n st, stepI s s4 = (n, st) := ⟨_, _, rfl⟩
  have E4 : Hid (stepI s s4 = (n5, s5)) := e4
  clear e4
  refine (num_impl g s s4 _ HR.out.1 hs).mono ?_
  rintro e w4 ⟨rfl, hr4, hg4⟩
  rw [E4.out] at hr4
  rw [E4.out]
  have R4 := HR.out.num hgw hr4 hg4
  have c4 : w4.cell? ⟨w.heap.size + 1, 4, none⟩ = some (.int .i64 0) := R4.cell 4
  have f4 := R4.frozen 4
  have HR : Hid (RE w g s s5 #[.int .i64 n1, .int .i64 n2, .int .i64 n3, .int .i64 n4, .int .i64 n5, .int .i64 0, .string ⟨#[]⟩, .slice none 0 0, .int .i64 0] (w4.setCell ⟨w.heap.size + 1, 4, none⟩ (.int .i64 n5))) := R4.set hgw 4 (.int .i64 n5)
  clear hr4 hg4 R4
  go_wp2_with fail
  obtain ⟨n6, s6, e5⟩ : ∃ n st, stepI s s5 = (n, st) := ⟨_, _, rfl⟩
  have E5 : Hid (stepI s s5 = (n6, s6)) := e5
  clear e5
  refine (num_impl g s s5 _ HR.out.1 hs).mono ?_
  rintro e w5 ⟨rfl, hr5, hg5⟩
  rw [E5.out] at hr5
  rw [E5.out]
  have R5 := HR.out.num hgw hr5 hg5
  have c5 : w5.cell? ⟨w.heap.size + 1, 5, none⟩ = some (.int .i64 0) := R5.cell 5
  have f5 := R5.frozen 5
  have HR : Hid (RE w g s s6 #[.int .i64 n1, .int .i64 n2, .int .i64 n3, .int .i64 n4, .int .i64 n5, .int .i64 n6, .string ⟨#[]⟩, .slice none 0 0, .int .i64 0] (w5.setCell ⟨w.heap.size + 1, 5, none⟩ (.int .i64 n6))) := R5.set hgw 5 (.int .i64 n6)
  clear hr5 hg5 R5
  go_wp2_with fail
  obtain ⟨t, s7, e6⟩ : ∃ n st, wordI s s6 = (n, st) := ⟨_, _, rfl⟩
  have E6 : Hid (wordI s s6 = (t, s7)) := e6
  clear e6
  refine (word_impl g s s6 _ HR.out.1 hs).mono ?_
  rintro e w6 ⟨rfl, hr6, hg6⟩
  rw [E6.out] at hr6
  rw [E6.out]
  have R6 := HR.out.num hgw hr6 hg6
  have c6 : w6.cell? ⟨w.heap.size + 1, 6, none⟩ = some (.string ⟨#[]⟩) := R6.cell 6
  have f6 := R6.frozen 6
  have HR : Hid (RE w g s s7 #[.int .i64 n1, .int .i64 n2, .int .i64 n3, .int .i64 n4, .int .i64 n5, .int .i64 n6, .string t, .slice none 0 0, .int .i64 0] (w6.setCell ⟨w.heap.size + 1, 6, none⟩ (.string t))) := R6.set hgw 6 (.string t)
  clear hr6 hg6 R6
  go_wp2_with fail
  obtain ⟨m, s8, e7⟩ : ∃ n st, stepI s s7 = (n, st) := ⟨_, _, rfl⟩
  have E7 : Hid (stepI s s7 = (m, s8)) := e7
  clear e7
  refine (num_impl g s s7 _ HR.out.1 hs).mono ?_
  rintro e w7 ⟨rfl, hr7, hg7⟩
  rw [E7.out] at hr7
  rw [E7.out]
  have HR : Hid (RE w g s s8 #[.int .i64 n1, .int .i64 n2, .int .i64 n3, .int .i64 n4, .int .i64 n5, .int .i64 n6, .string t, .slice none 0 0, .int .i64 0] w7) := HR.out.num hgw hr7 hg7
  clear hr7 hg7
  have HW : Hid (True) := trivial
  by_cases hm : m ≤ 4
  · have HL : Hid ((min m 4).toNat = (m : Int).toNat) := by unfold Hid; rw [Int.min_eq_left hm]
    go_wp2_with fail
    go_loopw [30] (fun i wr => ∃ (k : Nat) (pv : Value), (k = 0 ∨ (k : Int) ≤ m) ∧ i = .int .i64 k ∧ Hid (RE w g s (numsR stepI s k s8).2 #[.int .i64 n1, .int .i64 n2, .int .i64 n3, .int .i64 n4, .int .i64 n5, .int .i64 n6, .string t, pv, .int .i64 0] wr) ∧ Hid (wr.ownsRow (w.heap.size + 2) 2 1 pv k (nv (numsR stepI s k s8).1))) (fun i _ => (m : Int).toNat - (intOf i).toNat)
    case atStart => exact ⟨0, .slice none 0 0, .inl rfl, rfl, HR, World.ownsRow_nil _ _ _ _⟩
    case round =>
      clear HR
      obtain ⟨k, pv, hk, rfl, HR, OW⟩ := hrel
      have hk9 : (k : Int) ≤ 4 := by omega
      by_cases hlt : (k : Int) < m
      · obtain ⟨z, st, hz⟩ : ∃ n st, stepI s (numsR stepI s k s8).2 = (n, st) := ⟨_, _, rfl⟩
        have HZ : Hid (stepI s (numsR stepI s k s8).2 = (z, st)) := hz
        have HX : Hid (numsR stepI s (k + 1) s8 = ((numsR stepI s k s8).1 ++ [z], st)) := by unfold Hid; show ((numsR stepI s k s8).1 ++ [(stepI s (numsR stepI s k s8).2).1], (stepI s (numsR stepI s k s8).2).2) = _; rw [hz]
        have HV : Hid (nv (numsR stepI s k s8).1 ++ [.int .i64 z] = nv (numsR stepI s (k + 1) s8).1) := by unfold Hid; rw [HX.out]; simp [nv]
        have c7 : wr.cell? ⟨w.heap.size + 1, 7, none⟩ = some pv := HR.out.cell 7
        have hrs := HR.out.lt
        clear hz
        go_wp2_with fail
        go_region_law (first
          | (refine step_append_lies _ rfl (.tmp 33) (.tmp 36) 23 rfl (w.heap.size + 2) 2 i0 (.int .i64 0) 1 8 Try.underlying23 hi hz0 hz1 hz2 rfl (by decide) pv k (nv (numsR stepI s k s8).1) rfl (OW8.out.alloc _) ⟨w8.heap.size, 0, none⟩ 1 1 [.int .i64 z] rfl rfl (cell_one_new _ _ _) (by intro u hu; simp at hu; subst hu; rfl) (by decide) (by unfold maxLen; omega) (by omega) (by have := HR8.out.lt; simp; omega) _ rfl ?_; intro g3 cap3 w9 hown9 hgrow9 hat9 hlt9; have HR9 : Hid (RE w g s st #[.int .i64 n1, .int .i64 n2, .int .i64 n3, .int .i64 n4, .int .i64 n5, .int .i64 n6, .string t, pv, .int .i64 0] w9) := (HR8.out.alloc hgw _).grown hgw hgrow9 (fun q hq => (OW8.out.lt q hq).1); have OW9 : Hid (w9.ownsRow (w.heap.size + 2) 2 1 (.slice (some ⟨g3, 0, none⟩) (k + 1) cap3) (k + 1) (nv (numsR stepI s k s8).1 ++ [.int .i64 z])) := hown9; have f7 := HR9.out.frozen 7; have c9 : w9.cell? ⟨w.heap.size + 1, 7, none⟩ = some pv := HR9.out.cell 7; clear hown9 hgrow9 hat9 hlt9)
          | (go_simp; go_at_call 102; refine (num_impl g s (numsR stepI s k s8).2 wr.drew (HR.out.1.kept rfl) hs).mono ?_; rintro e w8 ⟨rfl, hr8, hg8⟩; rw [HZ.out] at hr8; rw [HZ.out]; have hg8 : wr.grownBy w8 (some g) := ⟨hg8.os, hg8.tape, hg8.output, hg8.size, hg8.block⟩; have HR8 : Hid (RE w g s st #[.int .i64 n1, .int .i64 n2, .int .i64 n3, .int .i64 n4, .int .i64 n5, .int .i64 n6, .string t, pv, .int .i64 0] w8) := HR.out.num hgw hr8 hg8; have OW8 : Hid (w8.ownsRow (w.heap.size + 2) 2 1 pv k (nv (numsR stepI s k s8).1)) := OW.out.kept hg8 (.inr fun h => by have := (OW.out.lt g h).1; omega); have c8 : w8.cell? ⟨w.heap.size + 1, 7, none⟩ = some pv := HR8.out.cell 7; have hl8 : w.heap.size + 1 < w8.heap.size := HR8.out.lt; clear hr8 hg8))
        all_goals
          go_wp2
          have HR10 : Hid (RE w g s (numsR stepI s (k + 1) s8).2 #[.int .i64 n1, .int .i64 n2, .int .i64 n3, .int .i64 n4, .int .i64 n5, .int .i64 n6, .string t, .slice (some ⟨g3, 0, none⟩) (k + 1) cap3, .int .i64 0] (w9.setCell ⟨w.heap.size + 1, 7, none⟩ (.slice (some ⟨g3, 0, none⟩) (k + 1) cap3))) := by unfold Hid; rw [HX.out]; exact HR9.out.set hgw 7 _
          have OW10 : Hid ((w9.setCell ⟨w.heap.size + 1, 7, none⟩ (.slice (some ⟨g3, 0, none⟩) (k + 1) cap3)).ownsRow (w.heap.size + 2) 2 1 (.slice (some ⟨g3, 0, none⟩) (k + 1) cap3) (k + 1) (nv (numsR stepI s (k + 1) s8).1)) := by unfold Hid; rw [← HV.out]; exact ownsRow_setCell_below OW9.out (by simp) _
          go_roundw
          case rel => exact ⟨k + 1, _, .inr (by omega), by go_num, HR10, OW10⟩
          case measure => simp [intOf]; omega
      · have hkL : (k : Int).toNat = (m : Int).toNat := by omega
        have HKL : Hid ((min m 4).toNat = k) := by unfold Hid; rw [HL.out]; omega
        obtain ⟨a, cap, rfl⟩ : ∃ a cap, pv = .slice a k cap := by
          rcases OW.out.2 with ⟨h1, h2⟩ | ⟨q, cp, _, h1, _⟩
          · exact ⟨none, 0, by rw [h1, h2]⟩
          · exact ⟨_, _, h1⟩
        obtain ⟨tm, s10, hz⟩ : ∃ n st, stepI s (numsR stepI s k s8).2 = (n, st) := ⟨_, _, rfl⟩
        have HZ : Hid (stepI s (numsR stepI s k s8).2 = (tm, s10)) := hz
        clear hz
        go_wp2_with fail
        refine (num_impl g s (numsR stepI s k s8).2 _ HR.out.1 hs).mono ?_
        rintro e w8 ⟨rfl, hr8, hg8⟩
        rw [HZ.out] at hr8
        rw [HZ.out]
        have HR8 : Hid (RE w g s s10 #[.int .i64 n1, .int .i64 n2, .int .i64 n3, .int .i64 n4, .int .i64 n5, .int .i64 n6, .string t, .slice a k cap, .int .i64 0] w8) := HR.out.num hgw hr8 hg8
        have OW8 : Hid (w8.ownsRow (w.heap.size + 2) 2 1 (.slice a k cap) k (nv (numsR stepI s k s8).1)) := OW.out.kept hg8 (.inr fun h => by have := (OW.out.lt g h).1; omega)
        clear hr8 hg8
        have q0 : w8.cell? ⟨w.heap.size + 1, 0, none⟩ = some (.int .i64 n1) := HR8.out.cell 0
        have q1 : w8.cell? ⟨w.heap.size + 1, 1, none⟩ = some (.int .i64 n2) := HR8.out.cell 1
        have q2 : w8.cell? ⟨w.heap.size + 1, 2, none⟩ = some (.int .i64 n3) := HR8.out.cell 2
        have q3 : w8.cell? ⟨w.heap.size + 1, 3, none⟩ = some (.int .i64 n4) := HR8.out.cell 3
        have q4 : w8.cell? ⟨w.heap.size + 1, 4, none⟩ = some (.int .i64 n5) := HR8.out.cell 4
        have q5 : w8.cell? ⟨w.heap.size + 1, 5, none⟩ = some (.int .i64 n6) := HR8.out.cell 5
        have q6 : w8.cell? ⟨w.heap.size + 1, 6, none⟩ = some (.string t) := HR8.out.cell 6
        have q7 : w8.cell? ⟨w.heap.size + 1, 7, none⟩ = some (.slice a k cap) := HR8.out.cell 7
        have q8 : w8.cell? ⟨w.heap.size + 1, 8, none⟩ = some (.int .i64 0) := HR8.out.cell 8
        have fe : ∀ o, w8.frozen? ⟨w.heap.size + 1, o, none⟩ = false := fun o => HR8.out.frozen o
        obtain ⟨cz, hcz, hh⟩ := HR8.out.2.2.1
        obtain ⟨u0, u1, u2, u3, u4, u5, u6, u7, u8, rfl⟩ := array9 hcz
        have fr : ∀ o, w8.frozen? ⟨w.heap.size, o, none⟩ = false := fun o => frozen_of_heap hh
        have r0 : w8.cell? ⟨w.heap.size, 0, none⟩ = some u0 := cell_of_heap hh
        have r1 : w8.cell? ⟨w.heap.size, 1, none⟩ = some u1 := cell_of_heap hh
        have r2 : w8.cell? ⟨w.heap.size, 2, none⟩ = some u2 := cell_of_heap hh
        have r3 : w8.cell? ⟨w.heap.size, 3, none⟩ = some u3 := cell_of_heap hh
        have r4 : w8.cell? ⟨w.heap.size, 4, none⟩ = some u4 := cell_of_heap hh
        have r5 : w8.cell? ⟨w.heap.size, 5, none⟩ = some u5 := cell_of_heap hh
        have r6 : w8.cell? ⟨w.heap.size, 6, none⟩ = some u6 := cell_of_heap hh
        have r7 : w8.cell? ⟨w.heap.size, 7, none⟩ = some u7 := cell_of_heap hh
        have r8 : w8.cell? ⟨w.heap.size, 8, none⟩ = some u8 := cell_of_heap hh
        clear hh hcz
        go_wp2
        refine bodyPost_ret (v := .agg #[.int .i64 n1, .int .i64 n2, .int .i64 n3, .int .i64 n4, .int .i64 n5, .int .i64 n6, .string t, .slice a k cap, .int .i64 tm]) (by simp [results, Try.results53, go_sem, r0, r1, r2, r3, r4, r5, r6, r7, r8]) rfl ⟨⟨n1, n2, n3, n4, n5, n6, t, (numsR stepI s k s8).1, tm⟩, a, cap, ?_, ?_, ?_, ?_⟩
        · simp only [numsR_len]
        · simp only [numsR_len]
          repeat refine ownsRow_setCell_below ?_ (by simp; try omega) _
          exact OW8.out
        · repeat refine grown_setnew ?_ (by simp; try omega) _
          exact HR8.out.2.2.2
        · exact ⟨s1, s2, s3, s4, s5, s6, s7, s8, _, s10, m, E0.out, E1.out, E2.out, E3.out, E4.out, E5.out, E6.out, E7.out, by rw [HKL.out], HZ.out⟩
  · have HL : Hid ((min m 4).toNat = (4 : Int).toNat) := by unfold Hid; rw [Int.min_eq_right (by omega)]
    go_wp2_with fail
    go_loopw [30] (fun i wr => ∃ (k : Nat) (pv : Value), (k = 0 ∨ (k : Int) ≤ 4) ∧ i = .int .i64 k ∧ Hid (RE w g s (numsR stepI s k s8).2 #[.int .i64 n1, .int .i64 n2, .int .i64 n3, .int .i64 n4, .int .i64 n5, .int .i64 n6, .string t, pv, .int .i64 0] wr) ∧ Hid (wr.ownsRow (w.heap.size + 2) 2 1 pv k (nv (numsR stepI s k s8).1))) (fun i _ => (4 : Int).toNat - (intOf i).toNat)
    case atStart => exact ⟨0, .slice none 0 0, .inl rfl, rfl, HR, World.ownsRow_nil _ _ _ _⟩
    case round =>
      clear HR
      obtain ⟨k, pv, hk, rfl, HR, OW⟩ := hrel
      have hk9 : (k : Int) ≤ 4 := by omega
      by_cases hlt : (k : Int) < 4
      · obtain ⟨z, st, hz⟩ : ∃ n st, stepI s (numsR stepI s k s8).2 = (n, st) := ⟨_, _, rfl⟩
        have HZ : Hid (stepI s (numsR stepI s k s8).2 = (z, st)) := hz
        have HX : Hid (numsR stepI s (k + 1) s8 = ((numsR stepI s k s8).1 ++ [z], st)) := by unfold Hid; show ((numsR stepI s k s8).1 ++ [(stepI s (numsR stepI s k s8).2).1], (stepI s (numsR stepI s k s8).2).2) = _; rw [hz]
        have HV : Hid (nv (numsR stepI s k s8).1 ++ [.int .i64 z] = nv (numsR stepI s (k + 1) s8).1) := by unfold Hid; rw [HX.out]; simp [nv]
        have c7 : wr.cell? ⟨w.heap.size + 1, 7, none⟩ = some pv := HR.out.cell 7
        have hrs := HR.out.lt
        clear hz
        go_wp2_with fail
        go_region_law (first
          | (refine step_append_lies _ rfl (.tmp 33) (.tmp 36) 23 rfl (w.heap.size + 2) 2 i0 (.int .i64 0) 1 8 Try.underlying23 hi hz0 hz1 hz2 rfl (by decide) pv k (nv (numsR stepI s k s8).1) rfl (OW8.out.alloc _) ⟨w8.heap.size, 0, none⟩ 1 1 [.int .i64 z] rfl rfl (cell_one_new _ _ _) (by intro u hu; simp at hu; subst hu; rfl) (by decide) (by unfold maxLen; omega) (by omega) (by have := HR8.out.lt; simp; omega) _ rfl ?_; intro g3 cap3 w9 hown9 hgrow9 hat9 hlt9; have HR9 : Hid (RE w g s st #[.int .i64 n1, .int .i64 n2, .int .i64 n3, .int .i64 n4, .int .i64 n5, .int .i64 n6, .string t, pv, .int .i64 0] w9) := (HR8.out.alloc hgw _).grown hgw hgrow9 (fun q hq => (OW8.out.lt q hq).1); have OW9 : Hid (w9.ownsRow (w.heap.size + 2) 2 1 (.slice (some ⟨g3, 0, none⟩) (k + 1) cap3) (k + 1) (nv (numsR stepI s k s8).1 ++ [.int .i64 z])) := hown9; have f7 := HR9.out.frozen 7; have c9 : w9.cell? ⟨w.heap.size + 1, 7, none⟩ = some pv := HR9.out.cell 7; clear hown9 hgrow9 hat9 hlt9)
          | (go_simp; go_at_call 102; refine (num_impl g s (numsR stepI s k s8).2 wr.drew (HR.out.1.kept rfl) hs).mono ?_; rintro e w8 ⟨rfl, hr8, hg8⟩; rw [HZ.out] at hr8; rw [HZ.out]; have hg8 : wr.grownBy w8 (some g) := ⟨hg8.os, hg8.tape, hg8.output, hg8.size, hg8.block⟩; have HR8 : Hid (RE w g s st #[.int .i64 n1, .int .i64 n2, .int .i64 n3, .int .i64 n4, .int .i64 n5, .int .i64 n6, .string t, pv, .int .i64 0] w8) := HR.out.num hgw hr8 hg8; have OW8 : Hid (w8.ownsRow (w.heap.size + 2) 2 1 pv k (nv (numsR stepI s k s8).1)) := OW.out.kept hg8 (.inr fun h => by have := (OW.out.lt g h).1; omega); have c8 : w8.cell? ⟨w.heap.size + 1, 7, none⟩ = some pv := HR8.out.cell 7; have hl8 : w.heap.size + 1 < w8.heap.size := HR8.out.lt; clear hr8 hg8))
        all_goals
          go_wp2
          have HR10 : Hid (RE w g s (numsR stepI s (k + 1) s8).2 #[.int .i64 n1, .int .i64 n2, .int .i64 n3, .int .i64 n4, .int .i64 n5, .int .i64 n6, .string t, .slice (some ⟨g3, 0, none⟩) (k + 1) cap3, .int .i64 0] (w9.setCell ⟨w.heap.size + 1, 7, none⟩ (.slice (some ⟨g3, 0, none⟩) (k + 1) cap3))) := by unfold Hid; rw [HX.out]; exact HR9.out.set hgw 7 _
          have OW10 : Hid ((w9.setCell ⟨w.heap.size + 1, 7, none⟩ (.slice (some ⟨g3, 0, none⟩) (k + 1) cap3)).ownsRow (w.heap.size + 2) 2 1 (.slice (some ⟨g3, 0, none⟩) (k + 1) cap3) (k + 1) (nv (numsR stepI s (k + 1) s8).1)) := by unfold Hid; rw [← HV.out]; exact ownsRow_setCell_below OW9.out (by simp) _
          go_roundw
          case rel => exact ⟨k + 1, _, .inr (by omega), by go_num, HR10, OW10⟩
          case measure => simp [intOf]; omega
      · have hkL : (k : Int).toNat = (4 : Int).toNat := by omega
        have HKL : Hid ((min m 4).toNat = k) := by unfold Hid; rw [HL.out]; omega
        obtain ⟨a, cap, rfl⟩ : ∃ a cap, pv = .slice a k cap := by
          rcases OW.out.2 with ⟨h1, h2⟩ | ⟨q, cp, _, h1, _⟩
          · exact ⟨none, 0, by rw [h1, h2]⟩
          · exact ⟨_, _, h1⟩
        obtain ⟨tm, s10, hz⟩ : ∃ n st, stepI s (numsR stepI s k s8).2 = (n, st) := ⟨_, _, rfl⟩
        have HZ : Hid (stepI s (numsR stepI s k s8).2 = (tm, s10)) := hz
        clear hz
        go_wp2_with fail
        refine (num_impl g s (numsR stepI s k s8).2 _ HR.out.1 hs).mono ?_
        rintro e w8 ⟨rfl, hr8, hg8⟩
        rw [HZ.out] at hr8
        rw [HZ.out]
        have HR8 : Hid (RE w g s s10 #[.int .i64 n1, .int .i64 n2, .int .i64 n3, .int .i64 n4, .int .i64 n5, .int .i64 n6, .string t, .slice a k cap, .int .i64 0] w8) := HR.out.num hgw hr8 hg8
        have OW8 : Hid (w8.ownsRow (w.heap.size + 2) 2 1 (.slice a k cap) k (nv (numsR stepI s k s8).1)) := OW.out.kept hg8 (.inr fun h => by have := (OW.out.lt g h).1; omega)
        clear hr8 hg8
        have q0 : w8.cell? ⟨w.heap.size + 1, 0, none⟩ = some (.int .i64 n1) := HR8.out.cell 0
        have q1 : w8.cell? ⟨w.heap.size + 1, 1, none⟩ = some (.int .i64 n2) := HR8.out.cell 1
        have q2 : w8.cell? ⟨w.heap.size + 1, 2, none⟩ = some (.int .i64 n3) := HR8.out.cell 2
        have q3 : w8.cell? ⟨w.heap.size + 1, 3, none⟩ = some (.int .i64 n4) := HR8.out.cell 3
        have q4 : w8.cell? ⟨w.heap.size + 1, 4, none⟩ = some (.int .i64 n5) := HR8.out.cell 4
        have q5 : w8.cell? ⟨w.heap.size + 1, 5, none⟩ = some (.int .i64 n6) := HR8.out.cell 5
        have q6 : w8.cell? ⟨w.heap.size + 1, 6, none⟩ = some (.string t) := HR8.out.cell 6
        have q7 : w8.cell? ⟨w.heap.size + 1, 7, none⟩ = some (.slice a k cap) := HR8.out.cell 7
        have q8 : w8.cell? ⟨w.heap.size + 1, 8, none⟩ = some (.int .i64 0) := HR8.out.cell 8
        have fe : ∀ o, w8.frozen? ⟨w.heap.size + 1, o, none⟩ = false := fun o => HR8.out.frozen o
        obtain ⟨cz, hcz, hh⟩ := HR8.out.2.2.1
        obtain ⟨u0, u1, u2, u3, u4, u5, u6, u7, u8, rfl⟩ := array9 hcz
        have fr : ∀ o, w8.frozen? ⟨w.heap.size, o, none⟩ = false := fun o => frozen_of_heap hh
        have r0 : w8.cell? ⟨w.heap.size, 0, none⟩ = some u0 := cell_of_heap hh
        have r1 : w8.cell? ⟨w.heap.size, 1, none⟩ = some u1 := cell_of_heap hh
        have r2 : w8.cell? ⟨w.heap.size, 2, none⟩ = some u2 := cell_of_heap hh
        have r3 : w8.cell? ⟨w.heap.size, 3, none⟩ = some u3 := cell_of_heap hh
        have r4 : w8.cell? ⟨w.heap.size, 4, none⟩ = some u4 := cell_of_heap hh
        have r5 : w8.cell? ⟨w.heap.size, 5, none⟩ = some u5 := cell_of_heap hh
        have r6 : w8.cell? ⟨w.heap.size, 6, none⟩ = some u6 := cell_of_heap hh
        have r7 : w8.cell? ⟨w.heap.size, 7, none⟩ = some u7 := cell_of_heap hh
        have r8 : w8.cell? ⟨w.heap.size, 8, none⟩ = some u8 := cell_of_heap hh
        clear hh hcz
        go_wp2
        refine bodyPost_ret (v := .agg #[.int .i64 n1, .int .i64 n2, .int .i64 n3, .int .i64 n4, .int .i64 n5, .int .i64 n6, .string t, .slice a k cap, .int .i64 tm]) (by simp [results, Try.results53, go_sem, r0, r1, r2, r3, r4, r5, r6, r7, r8]) rfl ⟨⟨n1, n2, n3, n4, n5, n6, t, (numsR stepI s k s8).1, tm⟩, a, cap, ?_, ?_, ?_, ?_⟩
        · simp only [numsR_len]
        · simp only [numsR_len]
          repeat refine ownsRow_setCell_below ?_ (by simp; try omega) _
          exact OW8.out
        · repeat refine grown_setnew ?_ (by simp; try omega) _
          exact HR8.out.2.2.2
        · exact ⟨s1, s2, s3, s4, s5, s6, s7, s8, _, s10, m, E0.out, E1.out, E2.out, E3.out, E4.out, E5.out, E6.out, E7.out, by rw [HKL.out], HZ.out⟩
end Go.Proofs.Ytjdkenopfnepaaa
