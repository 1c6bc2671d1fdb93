/- The contract of EventRead, the specification's. -/
import Derived.Test.YtjdkenopfnepaaaEvRdS
import Derived.Test.YtjdkenopfnepaaaEvReadImpl
import Derived.Test.YtjdkenopfnepaaaUnseal
namespace Go.Proofs.Ytjdkenopfnepaaa
open Go.RowKit

/-- While an event is read: the reader's object g, the event's variable eb; all else that lay in W0 is as it was. -/
def RS (W0 : World) (g eb : Nat) (s : ByteArray) (st : Nat × Bool) (cs : Array Value) (W : World) : Prop :=
  RdS W g s st ∧ W.heap[eb]? = some (.cells cs 25 (0, 0)) ∧ W0.grownBy W (some g) ∧ g < W0.heap.size ∧ W0.heap.size ≤ eb
theorem RS.lt {W0 : World} {g eb : Nat} {s : ByteArray} {st : Nat × Bool} {cs : Array Value} {W : World} (h : RS W0 g eb s st cs W) : eb < W.heap.size := (Array.getElem?_eq_some_iff.1 h.2.1).1
theorem RS.grown {W0 : World} {g eb : Nat} {s : ByteArray} {st : Nat × Bool} {cs : Array Value} {W w1 : World} (h : RS W0 g eb s st cs W) {row : Option Nat} (hg : W.grownBy w1 row) (hrow : ∀ k, row = some k → eb + 1 ≤ k) : RS W0 g eb s st cs w1 := by
  have hl := h.lt
  obtain ⟨h1, h2, h4, h5, h6⟩ := h
  have hne : ∀ k, k < eb + 1 → some k ≠ row := fun k hk e => by have := hrow k e.symm; omega
  exact ⟨h1.kept (hg.block g (by omega) (hne _ (by omega))), (hg.block _ (by omega) (hne _ (by omega))).trans h2, ⟨hg.os.trans h4.os, hg.tape.trans h4.tape, hg.output.trans h4.output, Nat.le_trans h4.size hg.size, fun k hk hk2 => (hg.block k (Nat.lt_of_lt_of_le hk h4.size) (hne k (by omega))).trans (h4.block k hk hk2)⟩, h5, h6⟩
theorem RS.alloc {W0 : World} {g eb : Nat} {s : ByteArray} {st : Nat × Bool} {cs : Array Value} {W : World} (h : RS W0 g eb s st cs W) (o : Obj) : RS W0 g eb s st cs (W.alloc o) := h.grown (World.grownBy_alloc W o none) (fun k hk => by cases hk)
theorem RS.num {W0 : World} {g eb : Nat} {s : ByteArray} {st st' : Nat × Bool} {cs : Array Value} {W w1 : World} (h : RS W0 g eb s st cs W) (hr : RdS w1 g s st') (hg : W.grownBy w1 (some g)) : RS W0 g eb s st' cs w1 := by
  have hl := h.lt
  obtain ⟨_, h2, h4, h5, h6⟩ := h
  exact ⟨hr, (hg.block _ (by omega) (by simp; omega)).trans h2, h4.trans hg, h5, h6⟩
theorem RS.set {W0 : World} {g eb : Nat} {s : ByteArray} {st : Nat × Bool} {cs : Array Value} {W : World} (h : RS W0 g eb s st cs W) (k : Nat) (v : Value) : RS W0 g eb s st (cs.setIfInBounds k v) (W.setCell ⟨eb, k, none⟩ v) := by
  obtain ⟨h1, h2, h4, h5, h6⟩ := h
  exact ⟨h1.kept (Below.heap_setCell _ _ _ _ (by simp; omega)), heap_set h2 v, grown_setnew h4 h6 v, h5, h6⟩
theorem RS.cell {W0 : World} {g eb : Nat} {s : ByteArray} {st : Nat × Bool} {cs : Array Value} {W : World} (h : RS W0 g eb s st cs W) (k : Nat) : W.cell? ⟨eb, k, none⟩ = cs[k]? := cell_of_heap h.2.1
theorem RS.frozen {W0 : World} {g eb : Nat} {s : ByteArray} {st : Nat × Bool} {cs : Array Value} {W : World} (h : RS W0 g eb s st cs W) (k : Nat) : W.frozen? ⟨eb, k, none⟩ = false := frozen_of_heap h.2.1
theorem RS.bad {W0 : World} {g eb : Nat} {s : ByteArray} {st : Nat × Bool} {cs : Array Value} {W : World} (h : RS W0 g eb s st cs W) : W.cell? ⟨g, 2, none⟩ = some (.bool st.2) := cell_of_heap h.1.1
/-- How the numbers of an event were read: k of them behind which it stands; 'bad': was something wrong? -/
def ReadS (s : ByteArray) (v : Ev) (bad : Bool) : Prop := ∃ (s1 s2 s3 s4 s5 s6 s7 s8 s9 s10 : Nat × Bool) (m : Int) (k : Nat), stepS s (0, false) = (v.id, s1) ∧ stepS s s1 = (v.room, s2) ∧ stepS s s2 = (v.author, s3) ∧ stepS s s3 = (v.kind, s4) ∧ stepS s s4 = (v.key, s5) ∧ stepS s s5 = (v.n, s6) ∧ wordS s s6 = (v.text, s7) ∧ stepS s s7 = (m, s8) ∧ numsR stepS s k s8 = (v.prev, s9) ∧ stepS s s9 = (v.time, s10) ∧
  s10.2 = bad ∧ (k = 0 ∨ (k : Int) ≤ m) ∧ k ≤ 9 ∧ ((m ≤ k) ∨ 9 ≤ k ∨ s9.2 = true)
theorem readS_no {text s : ByteArray} {v : Ev} {bad : Bool} (hs : s = text.extract 0 (text.size - 4)) (h : ReadS s v bad) (hb : bad = true ∨ ¬ bytesOf v = text) : ¬ ∃ u, rightB u = true ∧ evBytes u = text := by
  rintro ⟨u, hu, he⟩
  have hbo := body_of he hs
  obtain ⟨s1, s2, s3, s4, s5, s6, s7, s8, s9, s10, m, k, q1, q2, q3, q4, q5, q6, q7, q8, q9, q10, hbad, hk, hk9, hex⟩ := h
  have r := read_back reads_S readsT_S (right_small hu) hbo q1 q2 q3 q4 q5 q6 q7 q8 q9 q10
  have hm := r.1
  have hp := (right_small hu).prev
  have hkl : k ≤ u.prev.length := by omega
  have h9 := r.2.2.1 k hkl
  rw [q9] at h9
  simp only [] at h9
  have hke : k = u.prev.length := by
    rcases hex with h | h | h
    · omega
    · omega
    · rw [h9] at h; cases h
  obtain ⟨huv, hf⟩ := r.2.2.2 hke
  have hvu : v = u := huv
  rcases hb with h | h
  · rw [← hbad, hf] at h; cases h
  · rw [hvu, bytes_of_right hu] at h
    exact h he
theorem readS_len {s : ByteArray} {v : Ev} {bad : Bool} (h : ReadS s v bad) : v.prev.length ≤ 9 := by
  obtain ⟨s1, s2, s3, s4, s5, s6, s7, s8, s9, s10, m, k, _, _, _, _, _, _, _, _, q9, _, _, _, hk, _⟩ := h
  have := numsR_len (step := stepS) (s := s) (st := s8) k
  rw [q9] at this
  simp only [] at this
  omega

set_option maxHeartbeats 1000000 in
theorem eventread_spec_no (text : ByteArray) (w : World) (c : Int) (hc : (c != 0) = true) (ho : Out text zeroEv c) (hu : ∀ w, Calls Try.prog 51 #[.string text] w fun e w' => e = .returned (textV ⟨#[]⟩ c) ∧ Below w.heap.size w w') :
    Calls Try.prog 10 #[.string text] w (ReadPost text w) := by
  have HO : Hid (Out text zeroEv c) := ho
  have HU : Hid (∀ w, Calls Try.prog 51 #[.string text] w fun e w' => e = .returned (textV ⟨#[]⟩ c) ∧ Below w.heap.size w w') := hu
  clear ho hu
  go_enter Try.func10, Try.ntmps10
  go_wp2_with fail
  refine (HU.out _).mono ?_
  rintro e w1 ⟨rfl, hb1⟩
  unfold textV
  obtain ⟨hc1, hf1⟩ := bcell hb1
  have hz1 : w.heap.size < w1.heap.size := by have := hb1.size; simp at this; omega
  have HW1 : Hid (Below w.heap.size w w1) := ((Below.refl _ _).alloc (Nat.le_refl _) _).trans (hb1.mono (by simp))
  clear hb1
  go_wp2
  refine bodyPost_ret (v := .agg #[.int .i64 0, .int .i64 0, .int .i64 0, .int .i64 0, .int .i64 0, .int .i64 0, .string ⟨#[]⟩, .slice none 0 0, .int .i64 0, .int .i64 c]) ?_ rfl ?_
  · simp [results, Try.results10, go_sem, hc1, hz1]
  · refine ReadPost.fault HO.out ?_
    refine Below.alloc ?_ (by simp; omega) _
    repeat refine Below.setCell ?_ (by simp) _
    exact HW1.out

set_option maxHeartbeats 4000000 in
set_option maxRecDepth 100000 in
theorem eventread_spec_ok (text : ByteArray) (w : World) (h4 : 4 ≤ (text.size : Int)) (h8 : (text.size : Int) ≤ 8000) (hk : okS text = true) :
    Calls Try.prog 10 #[.string text] w (ReadPost text w) := by
  obtain ⟨i0, hi, hz0, hz1, hz2⟩ := info_parts Try.info2
  have hs : (((text.extract 0 (text.size - 4)).size : Nat) : Int) ≤ 8000 := by simp only [ByteArray.size_extract]; omega
  obtain ⟨s, hse⟩ : ∃ s, s = text.extract 0 (text.size - 4) := ⟨_, rfl⟩
  have HS : Hid (s = text.extract 0 (text.size - 4)) := hse
  rw [← hse] at hs
  have HO : Hid (outS text s 0) := .inl ⟨hk, hse, rfl⟩
  have HK : Hid (okS text = true) := hk
  clear hse hk
  go_enter Try.func10, Try.ntmps10
  go_wp2_with fail
  refine (unseal_spec_any text _ h8 h4 s 0 HO.out).mono ?_
  rintro e w1 ⟨rfl, hb1⟩
  unfold textV
  obtain ⟨hc1, hf1⟩ := bcell hb1
  have hz1w : w.heap.size < w1.heap.size := by have := hb1.size; simp at this; omega
  have HA : Hid (Below (w.heap.size + 1) (w.alloc (Obj.cells #[.int .i64 0, .int .i64 0, .int .i64 0, .int .i64 0, .int .i64 0, .int .i64 0, .string ⟨#[]⟩, .slice none 0 0, .int .i64 0, .int .i64 0] 30)) w1) := hb1.mono (by simp)
  have HW1 : Hid (Below w.heap.size w w1) := ((Below.refl _ _).alloc (Nat.le_refl _) _).trans (hb1.mono (by simp))
  clear hb1
  go_wp2_with fail
  generalize hW : (w1.alloc (Obj.cells #[Value.string s, Value.int IntKind.i64 0, Value.int IntKind.i64 0] 73)).alloc (Obj.cells #[Value.string s, Value.int IntKind.i64 0, Value.bool false] 83) = W0
  have hr : RdS W0 (w1.heap.size + 1) s (0, false) := by
    rw [← hW]
    refine ⟨?_, by simp⟩
    have := (MapKept.heap_alloc (w1.alloc (Obj.cells #[Value.string s, Value.int IntKind.i64 0, Value.int IntKind.i64 0] 73)) (Obj.cells #[Value.string s, Value.int IntKind.i64 0, Value.bool false] 83)).1
    simpa using this
  have HWW : Hid (Below w1.heap.size w1 W0) := by rw [← hW]; exact ((Below.refl _ _).alloc (Nat.le_refl _) _).alloc (by simp) _
  obtain ⟨g, hg⟩ : ∃ g, g = w1.heap.size + 1 := ⟨_, rfl⟩
  rw [← hg] at hr
  rw [← hg]
  have hgW := hr.lt
  have HGW : Hid (w1.heap.size < g) := by unfold Hid; omega
  clear hW hg
  obtain ⟨n1, s1, e0⟩ : ∃ n st, stepS s (0, false) = (n, st) := ⟨_, _, rfl⟩
  have E0 : Hid (stepS s (0, false) = (n1, s1)) := e0
  clear e0
  refine (num_spec g s (0, false) _ hr hs).mono ?_
  rintro e w2 ⟨rfl, hr2, hg2⟩
  rw [E0.out] at hr2
  rw [E0.out]
  have HR : Hid (RS W0 g w2.heap.size s s1 #[.int .i64 n1, .int .i64 0, .int .i64 0, .int .i64 0, .int .i64 0, .int .i64 0, .string ⟨#[]⟩, .slice none 0 0, .int .i64 0] (w2.alloc (.cells #[.int .i64 n1, .int .i64 0, .int .i64 0, .int .i64 0, .int .i64 0, .int .i64 0, .string ⟨#[]⟩, .slice none 0 0, .int .i64 0] 25))) := ⟨hr2.kept (Below.heap_alloc _ _ _ hr2.lt), (MapKept.heap_alloc w2 _).1, hg2.trans (World.grownBy_alloc _ _ _), hgW, hg2.size⟩
  obtain ⟨eb, heb⟩ : ∃ eb, eb = w2.heap.size := ⟨_, rfl⟩
  rw [← heb] at HR
  clear hr hr2 hg2
  go_wp2_with fail
  rw [← heb]
  clear heb
  obtain ⟨n2, s2, e1⟩ : ∃ n st, stepS s s1 = (n, st) := ⟨_, _, rfl⟩
  have E1 : Hid (stepS s s1 = (n2, s2)) := e1
  clear e1
  refine (num_spec g s s1 _ HR.out.1 hs).mono ?_
  rintro e w3 ⟨rfl, hr1, hg1⟩
  rw [E1.out] at hr1
  rw [E1.out]
  have R1 := HR.out.num hr1 hg1
  have c1 : w3.cell? ⟨eb, 1, none⟩ = some (.int .i64 0) := R1.cell 1
  have f1 := R1.frozen 1
  have HR : Hid (RS W0 g eb s s2 #[.int .i64 n1, .int .i64 n2, .int .i64 0, .int .i64 0, .int .i64 0, .int .i64 0, .string ⟨#[]⟩, .slice none 0 0, .int .i64 0] (w3.setCell ⟨eb, 1, none⟩ (.int .i64 n2))) := R1.set 1 (.int .i64 n2)
  clear hr1 hg1 R1
  go_wp2_with fail
  obtain ⟨n3, s3, e2⟩ : ∃ n st, stepS s s2 = (n, st) := ⟨_, _, rfl⟩
  have E2 : Hid (stepS s s2 = (n3, s3)) := e2
  clear e2
  refine (num_spec g s s2 _ HR.out.1 hs).mono ?_
  rintro e w4 ⟨rfl, hr2, hg2⟩
  rw [E2.out] at hr2
  rw [E2.out]
  have R2 := HR.out.num hr2 hg2
  have c2 : w4.cell? ⟨eb, 2, none⟩ = some (.int .i64 0) := R2.cell 2
  have f2 := R2.frozen 2
  have HR : Hid (RS W0 g eb s s3 #[.int .i64 n1, .int .i64 n2, .int .i64 n3, .int .i64 0, .int .i64 0, .int .i64 0, .string ⟨#[]⟩, .slice none 0 0, .int .i64 0] (w4.setCell ⟨eb, 2, none⟩ (.int .i64 n3))) := R2.set 2 (.int .i64 n3)
  clear hr2 hg2 R2
  go_wp2_with fail
  obtain ⟨n4, s4, e3⟩ : ∃ n st, stepS s s3 = (n, st) := ⟨_, _, rfl⟩
  have E3 : Hid (stepS s s3 = (n4, s4)) := e3
  clear e3
  refine (num_spec g s s3 _ HR.out.1 hs).mono ?_
  rintro e w5 ⟨rfl, hr3, hg3⟩
  rw [E3.out] at hr3
  rw [E3.out]
  have R3 := HR.out.num hr3 hg3
  have c3 : w5.cell? ⟨eb, 3, none⟩ = some (.int .i64 0) := R3.cell 3
  have f3 := R3.frozen 3
  have HR : Hid (RS W0 g eb s s4 #[.int .i64 n1, .int .i64 n2, .int .i64 n3, .int .i64 n4, .int .i64 0, .int .i64 0, .string ⟨#[]⟩, .slice none 0 0, .int .i64 0] (w5.setCell ⟨eb, 3, none⟩ (.int .i64 n4))) := R3.set 3 (.int .i64 n4)
  clear hr3 hg3 R3
  go_wp2_with fail
  obtain ⟨n5, s5, e4⟩ : ∃ n st, stepS s s4 = (n, st) := ⟨_, _, rfl⟩
  have E4 : Hid (stepS s s4 = (n5, s5)) := e4
  clear e4
  refine (num_spec g s s4 _ HR.out.1 hs).mono ?_
  rintro e w6 ⟨rfl, hr4, hg4⟩
  rw [E4.out] at hr4
  rw [E4.out]
  have R4 := HR.out.num hr4 hg4
  have c4 : w6.cell? ⟨eb, 4, none⟩ = some (.int .i64 0) := R4.cell 4
  have f4 := R4.frozen 4
  have HR : Hid (RS W0 g eb s s5 #[.int .i64 n1, .int .i64 n2, .int .i64 n3, .int .i64 n4, .int .i64 n5, .int .i64 0, .string ⟨#[]⟩, .slice none 0 0, .int .i64 0] (w6.setCell ⟨eb, 4, none⟩ (.int .i64 n5))) := R4.set 4 (.int .i64 n5)
  clear hr4 hg4 R4
  go_wp2_with fail
  obtain ⟨n6, s6, e5⟩ : ∃ n st, stepS s s5 = (n, st) := ⟨_, _, rfl⟩
  have E5 : Hid (stepS s s5 = (n6, s6)) := e5
  clear e5
  refine (num_spec g s s5 _ HR.out.1 hs).mono ?_
  rintro e w7 ⟨rfl, hr5, hg5⟩
  rw [E5.out] at hr5
  rw [E5.out]
  have R5 := HR.out.num hr5 hg5
  have c5 : w7.cell? ⟨eb, 5, none⟩ = some (.int .i64 0) := R5.cell 5
  have f5 := R5.frozen 5
  have HR : Hid (RS W0 g eb s s6 #[.int .i64 n1, .int .i64 n2, .int .i64 n3, .int .i64 n4, .int .i64 n5, .int .i64 n6, .string ⟨#[]⟩, .slice none 0 0, .int .i64 0] (w7.setCell ⟨eb, 5, none⟩ (.int .i64 n6))) := R5.set 5 (.int .i64 n6)
  clear hr5 hg5 R5
  go_wp2_with fail
  obtain ⟨t, s7, e6⟩ : ∃ n st, wordS s s6 = (n, st) := ⟨_, _, rfl⟩
  have E6 : Hid (wordS s s6 = (t, s7)) := e6
  clear e6
  refine (word_spec g s s6 _ HR.out.1 hs).mono ?_
  rintro e w8 ⟨rfl, hr6, hg6⟩
  rw [E6.out] at hr6
  rw [E6.out]
  have R6 := HR.out.num hr6 hg6
  have c6 : w8.cell? ⟨eb, 6, none⟩ = some (.string ⟨#[]⟩) := R6.cell 6
  have f6 := R6.frozen 6
  have HR : Hid (RS W0 g eb s s7 #[.int .i64 n1, .int .i64 n2, .int .i64 n3, .int .i64 n4, .int .i64 n5, .int .i64 n6, .string t, .slice none 0 0, .int .i64 0] (w8.setCell ⟨eb, 6, none⟩ (.string t))) := R6.set 6 (.string t)
  clear hr6 hg6 R6
  go_wp2_with fail
  obtain ⟨m, s8, e7⟩ : ∃ n st, stepS s s7 = (n, st) := ⟨_, _, rfl⟩
  have E7 : Hid (stepS s s7 = (m, s8)) := e7
  clear e7
  refine (num_spec g s s7 _ HR.out.1 hs).mono ?_
  rintro e w9 ⟨rfl, hr7, hg7⟩
  rw [E7.out] at hr7
  rw [E7.out]
  have HR : Hid (RS W0 g eb s s8 #[.int .i64 n1, .int .i64 n2, .int .i64 n3, .int .i64 n4, .int .i64 n5, .int .i64 n6, .string t, .slice none 0 0, .int .i64 0] w9) := HR.out.num hr7 hg7
  clear hr7 hg7
  go_wp2_with fail
  go_loopw [7] (fun i wr => ∃ (k : Nat) (pv : Value), (k = 0 ∨ (k : Int) ≤ m) ∧ k ≤ 9 ∧ i = .int .i64 k ∧ Hid (RS W0 g eb s (numsR stepS s k s8).2 #[.int .i64 n1, .int .i64 n2, .int .i64 n3, .int .i64 n4, .int .i64 n5, .int .i64 n6, .string t, pv, .int .i64 0] wr) ∧ Hid (wr.ownsRow (eb + 1) 2 1 pv k (nv (numsR stepS s k s8).1))) (fun i _ => 9 - (intOf i).toNat)
  case atStart => exact ⟨0, .slice none 0 0, .inl rfl, by omega, rfl, HR, World.ownsRow_nil _ _ _ _⟩
  case round =>
    clear HR
    obtain ⟨k, pv, hkm, hk9, rfl, HR, OW⟩ := hrel
    have c7 : wr.cell? ⟨eb, 7, none⟩ = some pv := HR.out.cell 7
    have hrs := HR.out.lt
    have cb0 := HR.out.bad
    by_cases hlt : (k : Int) < m
    · have b1 : decide ((k : Int) < m) = true := by simpa using hlt
      by_cases hlt9 : k < 9
      · have b2 : decide ((k : Int) < 9) = true := by simp; omega
        cases hbd : (numsR stepS s k s8).2.2
        · rw [hbd] at cb0
          obtain ⟨z, st, hz⟩ : ∃ n st, stepS s (numsR stepS s k s8).2 = (n, st) := ⟨_, _, rfl⟩
          have HZ : Hid (stepS s (numsR stepS s k s8).2 = (z, st)) := hz
          have HX : Hid (numsR stepS s (k + 1) s8 = ((numsR stepS s k s8).1 ++ [z], st)) := by unfold Hid; show ((numsR stepS s k s8).1 ++ [(stepS s (numsR stepS s k s8).2).1], (stepS s (numsR stepS s k s8).2).2) = _; rw [hz]
          have HV : Hid (nv (numsR stepS s k s8).1 ++ [.int .i64 z] = nv (numsR stepS s (k + 1) s8).1) := by unfold Hid; rw [HX.out]; simp [nv]
          clear hz hbd
          go_wp2_with fail
          go_region_law (first
            | (refine step_append_lies _ rfl (.tmp 60) (.tmp 63) 23 rfl (eb + 1) 2 i0 (.int .i64 0) 1 8 Try.underlying23 hi hz0 hz1 hz2 rfl (by decide) pv k (nv (numsR stepS s k s8).1) rfl (OW8.out.alloc _) ⟨w10.heap.size, 0, none⟩ 1 1 [.int .i64 z] rfl rfl (cell_one_new _ _ _) (by intro u hu; simp at hu; subst hu; rfl) (by decide) (by unfold maxLen; omega) (by omega) (by have := HR8.out.lt; simp; omega) _ rfl ?_; intro g3 cap3 w11 hown9 hgrow9 hat9 hlt9; have HR9 : Hid (RS W0 g eb s st #[.int .i64 n1, .int .i64 n2, .int .i64 n3, .int .i64 n4, .int .i64 n5, .int .i64 n6, .string t, pv, .int .i64 0] w11) := (HR8.out.alloc _).grown hgrow9 (fun q hq => (OW8.out.lt q hq).1); have OW9 : Hid (w11.ownsRow (eb + 1) 2 1 (.slice (some ⟨g3, 0, none⟩) (k + 1) cap3) (k + 1) (nv (numsR stepS s k s8).1 ++ [.int .i64 z])) := hown9; have f7 := HR9.out.frozen 7; have c9 : w11.cell? ⟨eb, 7, none⟩ = some pv := HR9.out.cell 7; clear hown9 hgrow9 hat9 hlt9)
            | (go_simp; go_at_call 54; refine (num_spec g s (numsR stepS s k s8).2 wr.drew (HR.out.1.kept rfl) hs).mono ?_; rintro e w10 ⟨rfl, hr8, hg8⟩; rw [HZ.out] at hr8; rw [HZ.out]; have hg8 : wr.grownBy w10 (some g) := ⟨hg8.os, hg8.tape, hg8.output, hg8.size, hg8.block⟩; have HR8 : Hid (RS W0 g eb s st #[.int .i64 n1, .int .i64 n2, .int .i64 n3, .int .i64 n4, .int .i64 n5, .int .i64 n6, .string t, pv, .int .i64 0] w10) := HR.out.num hr8 hg8; have OW8 : Hid (w10.ownsRow (eb + 1) 2 1 pv k (nv (numsR stepS s k s8).1)) := OW.out.kept hg8 (.inr fun h => by have := (OW.out.lt g h).1; have := HR.out.2.2.2.1; have := HR.out.2.2.2.2; omega); have cc8 : w10.cell? ⟨eb, 7, none⟩ = some pv := HR8.out.cell 7; have hl8 : eb < w10.heap.size := HR8.out.lt; clear hr8 hg8))
          all_goals
            go_wp2
            have HR10 : Hid (RS W0 g eb s (numsR stepS s (k + 1) s8).2 #[.int .i64 n1, .int .i64 n2, .int .i64 n3, .int .i64 n4, .int .i64 n5, .int .i64 n6, .string t, .slice (some ⟨g3, 0, none⟩) (k + 1) cap3, .int .i64 0] (w11.setCell ⟨eb, 7, none⟩ (.slice (some ⟨g3, 0, none⟩) (k + 1) cap3))) := by unfold Hid; rw [HX.out]; exact HR9.out.set 7 _
            have OW10 : Hid ((w11.setCell ⟨eb, 7, none⟩ (.slice (some ⟨g3, 0, none⟩) (k + 1) cap3)).ownsRow (eb + 1) 2 1 (.slice (some ⟨g3, 0, none⟩) (k + 1) cap3) (k + 1) (nv (numsR stepS s (k + 1) s8).1)) := by unfold Hid; rw [← HV.out]; exact ownsRow_setCell_below OW9.out (by simp) _
            go_roundw
            case rel => exact ⟨k + 1, _, .inr (by omega), by omega, by go_num, HR10, OW10⟩
            case measure => simp [intOf]; omega
        · have HBD : Hid ((numsR stepS s k s8).2.2 = true) := hbd
          rw [hbd] at cb0
          clear hbd
          obtain ⟨a, cap, rfl⟩ : ∃ a cap, pv = .slice a k cap := by
            rcases OW.out.2 with ⟨h1, h2⟩ | ⟨q, cp, _, h1, _⟩
            · exact ⟨none, 0, by rw [h1, h2]⟩
            · exact ⟨_, _, h1⟩
          obtain ⟨tm, s10, hz⟩ : ∃ n st, stepS s (numsR stepS s k s8).2 = (n, st) := ⟨_, _, rfl⟩
          have HZ : Hid (stepS s (numsR stepS s k s8).2 = (tm, s10)) := hz
          obtain ⟨zs, hzs⟩ : ∃ zs, zs = (numsR stepS s k s8).1 := ⟨_, rfl⟩
          have HKZ : Hid (k = zs.length) := by unfold Hid; rw [hzs, numsR_len]
          have hz9 : zs.length ≤ 9 := by rw [← HKZ.out]; exact hk9
          have HRD : Hid (ReadS s (⟨n1, n2, n3, n4, n5, n6, t, zs, tm⟩ : Ev) s10.2) := ⟨s1, s2, s3, s4, s5, s6, s7, s8, (numsR stepS s k s8).2, s10, m, k, E0.out, E1.out, E2.out, E3.out, E4.out, E5.out, E6.out, E7.out, by rw [hzs], hz, rfl, hkm, hk9, .inr (.inr HBD.out)⟩
          rw [← hzs] at OW
          clear hz hzs
          go_wp2_with fail
          refine (num_spec g s (numsR stepS s k s8).2 _ HR.out.1 hs).mono ?_
          rintro e w10 ⟨rfl, hr10, hg10⟩
          rw [HZ.out] at hr10
          rw [HZ.out]
          have R10 := HR.out.num hr10 hg10
          have OW10 : Hid (w10.ownsRow (eb + 1) 2 1 (.slice a k cap) k (nv zs)) := OW.out.kept hg10 (.inr fun h => by have := (OW.out.lt g h).1; have := HR.out.2.2.2.1; have := HR.out.2.2.2.2; omega)
          have fe : ∀ o, w10.frozen? ⟨eb, o, none⟩ = false := fun o => R10.frozen o
          have q0 : w10.cell? ⟨eb, 0, none⟩ = some (.int .i64 n1) := R10.cell 0
          have q1 : w10.cell? ⟨eb, 1, none⟩ = some (.int .i64 n2) := R10.cell 1
          have q2 : w10.cell? ⟨eb, 2, none⟩ = some (.int .i64 n3) := R10.cell 2
          have q3 : w10.cell? ⟨eb, 3, none⟩ = some (.int .i64 n4) := R10.cell 3
          have q4 : w10.cell? ⟨eb, 4, none⟩ = some (.int .i64 n5) := R10.cell 4
          have q5 : w10.cell? ⟨eb, 5, none⟩ = some (.int .i64 n6) := R10.cell 5
          have q6 : w10.cell? ⟨eb, 6, none⟩ = some (.string t) := R10.cell 6
          have q7 : w10.cell? ⟨eb, 7, none⟩ = some (.slice a k cap) := R10.cell 7
          have q8 : w10.cell? ⟨eb, 8, none⟩ = some (.int .i64 0) := R10.cell 8
          have cbad : w10.cell? ⟨g, 2, none⟩ = some (.bool s10.2) := R10.bad
          have hgeb : g < eb := Nat.lt_of_lt_of_le HR.out.2.2.2.1 HR.out.2.2.2.2
          have hne : g ≠ eb := by omega
          have hwg : w.heap.size < g := by have := HGW.out; omega
          have hweb : w.heap.size < eb := by omega
          have HA10 : Hid (w10.heap[w.heap.size]? = some (Obj.cells #[.int .i64 0, .int .i64 0, .int .i64 0, .int .i64 0, .int .i64 0, .int .i64 0, .string ⟨#[]⟩, .slice none 0 0, .int .i64 0, .int .i64 0] 30 (0, 0))) := (R10.2.2.1.block w.heap.size (by have := HR.out.2.2.2.1; omega) (by simp; omega)).trans ((HWW.out.block w.heap.size hz1w).trans ((HA.out.block w.heap.size (by simp)).trans (MapKept.heap_alloc w _).1))
          have HW10 : Hid (Below w.heap.size w w10) := HW1.out.trans ((HWW.out.grown R10.2.2.1 HWW.out.size (fun q hq => by cases hq; exact Nat.le_of_lt HGW.out)).mono (Nat.le_of_lt hz1w))
          have hle10 : eb < w10.heap.size := R10.lt
          have HEB : Hid ((w10.setCell ⟨eb, 8, none⟩ (.int .i64 tm)).heap[eb]? = some (.cells #[.int .i64 n1, .int .i64 n2, .int .i64 n3, .int .i64 n4, .int .i64 n5, .int .i64 n6, .string t, .slice a k cap, .int .i64 tm] 25 (0, 0))) := heap_set R10.2.1 _
          clear hr10 hg10 R10
          cases hb10 : s10.2
          · rw [hb10] at cbad
            have HSZ10 : Hid (Below w10.heap.size w10 w10) := Below.refl _ _
            go_wp2_with fail
            rw [HKZ.out]
            have HOW11 : Hid ((w10.setCell ⟨eb, 8, none⟩ (.int .i64 tm)).ownsRow (eb + 1) 2 1 (.slice a zs.length cap) zs.length (nv zs)) := by
              have h := OW10.out
              rw [HKZ.out] at h
              exact ownsRow_setCell_below h (by simp) _
            refine (bytes_spec (⟨n1, n2, n3, n4, n5, n6, t, zs, tm⟩ : Ev) a cap _ (numsAt_of HOW11.out (show zs.length ≤ 1048576 by omega))).mono ?_
            rintro e w11 ⟨rfl, hb11⟩
            have HB11 : Hid (Below w10.heap.size (w10.setCell ⟨eb, 8, none⟩ (.int .i64 tm)) w11) := hb11.mono (by simp)
            have HE11 : Hid (w11.heap[eb]? = some (.cells #[.int .i64 n1, .int .i64 n2, .int .i64 n3, .int .i64 n4, .int .i64 n5, .int .i64 n6, .string t, .slice a zs.length cap, .int .i64 tm] 25 (0, 0))) := by
              have h := HEB.out
              rw [HKZ.out] at h
              exact (hb11.block eb (by simpa using hle10)).trans h
            have x0 : w11.cell? ⟨eb, 0, none⟩ = some (.int .i64 n1) := cell_of_heap HE11.out
            have x1 : w11.cell? ⟨eb, 1, none⟩ = some (.int .i64 n2) := cell_of_heap HE11.out
            have x2 : w11.cell? ⟨eb, 2, none⟩ = some (.int .i64 n3) := cell_of_heap HE11.out
            have x3 : w11.cell? ⟨eb, 3, none⟩ = some (.int .i64 n4) := cell_of_heap HE11.out
            have x4 : w11.cell? ⟨eb, 4, none⟩ = some (.int .i64 n5) := cell_of_heap HE11.out
            have x5 : w11.cell? ⟨eb, 5, none⟩ = some (.int .i64 n6) := cell_of_heap HE11.out
            have x6 : w11.cell? ⟨eb, 6, none⟩ = some (.string t) := cell_of_heap HE11.out
            have x7 : w11.cell? ⟨eb, 7, none⟩ = some (.slice a zs.length cap) := cell_of_heap HE11.out
            have x8 : w11.cell? ⟨eb, 8, none⟩ = some (.int .i64 tm) := cell_of_heap HE11.out
            have HO11 : Hid (w11.ownsRow (eb + 1) 2 1 (.slice a zs.length cap) zs.length (nv zs)) := owns_below HOW11.out hb11
            have HW11 : Hid (Below w.heap.size w w11) := (HW10.out.setCell (Nat.le_of_lt hweb) _).trans (hb11.mono (by have := HW10.out.size; simpa using this))
            have hz11 : w.heap.size < w10.heap.size := by omega
            have HR11 : Hid (w11.heap[w.heap.size]? = some (Obj.cells #[.int .i64 0, .int .i64 0, .int .i64 0, .int .i64 0, .int .i64 0, .int .i64 0, .string ⟨#[]⟩, .slice none 0 0, .int .i64 0, .int .i64 0] 30 (0, 0))) := (HB11.out.block w.heap.size hz11).trans ((Below.heap_setCell w10 ⟨eb, 8, none⟩ _ w.heap.size (by simp; omega)).trans HA10.out)
            have r0 : w11.cell? ⟨w.heap.size, 0, none⟩ = some (.int .i64 0) := cell_of_heap HR11.out
            have r1 : w11.cell? ⟨w.heap.size, 1, none⟩ = some (.int .i64 0) := cell_of_heap HR11.out
            have r2 : w11.cell? ⟨w.heap.size, 2, none⟩ = some (.int .i64 0) := cell_of_heap HR11.out
            have r3 : w11.cell? ⟨w.heap.size, 3, none⟩ = some (.int .i64 0) := cell_of_heap HR11.out
            have r4 : w11.cell? ⟨w.heap.size, 4, none⟩ = some (.int .i64 0) := cell_of_heap HR11.out
            have r5 : w11.cell? ⟨w.heap.size, 5, none⟩ = some (.int .i64 0) := cell_of_heap HR11.out
            have r6 : w11.cell? ⟨w.heap.size, 6, none⟩ = some (.string ⟨#[]⟩) := cell_of_heap HR11.out
            have r7 : w11.cell? ⟨w.heap.size, 7, none⟩ = some (.slice none 0 0) := cell_of_heap HR11.out
            have r8 : w11.cell? ⟨w.heap.size, 8, none⟩ = some (.int .i64 0) := cell_of_heap HR11.out
            have r9 : w11.cell? ⟨w.heap.size, 9, none⟩ = some (.int .i64 0) := cell_of_heap HR11.out
            have frz : ∀ o, w11.frozen? ⟨w.heap.size, o, none⟩ = false := fun o => frozen_of_heap HR11.out
            clear hb11
            by_cases hb : bytesOf (⟨n1, n2, n3, n4, n5, n6, t, zs, tm⟩ : Ev) = text
            · have bb : ((bytesOf (⟨n1, n2, n3, n4, n5, n6, t, zs, tm⟩ : Ev)).toList == text.toList) = true := by rw [hb]; simp
              have HY : Hid (rightB (⟨n1, n2, n3, n4, n5, n6, t, zs, tm⟩ : Ev) = true ∧ evBytes (⟨n1, n2, n3, n4, n5, n6, t, zs, tm⟩ : Ev) = text) := bytes_yes h4 hb
              have hp4 : zs.length ≤ 4 := (right_small HY.out.1).prev
              clear hb
              go_wp2
              refine bodyPost_ret (v := outV (⟨n1, n2, n3, n4, n5, n6, t, zs, tm⟩ : Ev) a cap 0) ?_ rfl ⟨(⟨n1, n2, n3, n4, n5, n6, t, zs, tm⟩ : Ev), a, cap, 0, rfl, .inr (.inr ⟨⟨h4, h8⟩, .inr ⟨HK.out, .inr ⟨rfl, HY.out⟩⟩⟩), hp4, ?_, ?_⟩
              · simp [results, Try.results10, go_sem, outV, r0, r1, r2, r3, r4, r5, r6, r7, r8, r9]
              · refine owns_mono (base := eb + 1) ?_ (by omega)
                repeat refine ownsRow_setCell_below ?_ (by simp; omega) _
                exact HO11.out
              · repeat refine Below.setCell ?_ (by simp) _
                exact HW11.out
            · have bb : ((bytesOf (⟨n1, n2, n3, n4, n5, n6, t, zs, tm⟩ : Ev)).toList == text.toList) = false := by
                rw [beq_eq_false_iff_ne]
                intro e
                exact hb (by apply ByteArray.ext; apply Array.ext'; rw [Lib.toList_data, Lib.toList_data] at e; exact e)
              have HY : Hid (¬ ∃ u, rightB u = true ∧ evBytes u = text) := readS_no HS.out HRD.out (.inr hb)
              clear hb
              go_wp2
              refine bodyPost_ret (v := .agg #[.int .i64 0, .int .i64 0, .int .i64 0, .int .i64 0, .int .i64 0, .int .i64 0, .string ⟨#[]⟩, .slice none 0 0, .int .i64 0, .int .i64 3]) ?_ rfl ?_
              · simp [results, Try.results10, go_sem, r0, r1, r2, r3, r4, r5, r6, r7, r8, r9]
              · refine ReadPost.fault (.inr (.inr ⟨⟨h4, h8⟩, .inr ⟨HK.out, .inl ⟨rfl, rfl, HY.out⟩⟩⟩)) ?_
                repeat refine Below.setCell ?_ (by simp) _
                exact HW11.out
          · rw [hb10] at cbad
            have HY : Hid (¬ ∃ u, rightB u = true ∧ evBytes u = text) := readS_no HS.out HRD.out (.inl hb10)
            have r0 : w10.cell? ⟨w.heap.size, 0, none⟩ = some (.int .i64 0) := cell_of_heap HA10.out
            have r1 : w10.cell? ⟨w.heap.size, 1, none⟩ = some (.int .i64 0) := cell_of_heap HA10.out
            have r2 : w10.cell? ⟨w.heap.size, 2, none⟩ = some (.int .i64 0) := cell_of_heap HA10.out
            have r3 : w10.cell? ⟨w.heap.size, 3, none⟩ = some (.int .i64 0) := cell_of_heap HA10.out
            have r4 : w10.cell? ⟨w.heap.size, 4, none⟩ = some (.int .i64 0) := cell_of_heap HA10.out
            have r5 : w10.cell? ⟨w.heap.size, 5, none⟩ = some (.int .i64 0) := cell_of_heap HA10.out
            have r6 : w10.cell? ⟨w.heap.size, 6, none⟩ = some (.string ⟨#[]⟩) := cell_of_heap HA10.out
            have r7 : w10.cell? ⟨w.heap.size, 7, none⟩ = some (.slice none 0 0) := cell_of_heap HA10.out
            have r8 : w10.cell? ⟨w.heap.size, 8, none⟩ = some (.int .i64 0) := cell_of_heap HA10.out
            have r9 : w10.cell? ⟨w.heap.size, 9, none⟩ = some (.int .i64 0) := cell_of_heap HA10.out
            have frz : ∀ o, w10.frozen? ⟨w.heap.size, o, none⟩ = false := fun o => frozen_of_heap HA10.out
            go_wp2
            refine bodyPost_ret (v := .agg #[.int .i64 0, .int .i64 0, .int .i64 0, .int .i64 0, .int .i64 0, .int .i64 0, .string ⟨#[]⟩, .slice none 0 0, .int .i64 0, .int .i64 3]) ?_ rfl ?_
            · simp [results, Try.results10, go_sem, r0, r1, r2, r3, r4, r5, r6, r7, r8, r9]
            · refine ReadPost.fault (.inr (.inr ⟨⟨h4, h8⟩, .inr ⟨HK.out, .inl ⟨rfl, rfl, HY.out⟩⟩⟩)) ?_
              repeat refine Below.setCell ?_ (by simp; try omega) _
              exact HW10.out
      · have b2 : decide ((k : Int) < 9) = false := by simp; omega
        obtain ⟨a, cap, rfl⟩ : ∃ a cap, pv = .slice a k cap := by
          rcases OW.out.2 with ⟨h1, h2⟩ | ⟨q, cp, _, h1, _⟩
          · exact ⟨none, 0, by rw [h1, h2]⟩
          · exact ⟨_, _, h1⟩
        obtain ⟨tm, s10, hz⟩ : ∃ n st, stepS s (numsR stepS s k s8).2 = (n, st) := ⟨_, _, rfl⟩
        have HZ : Hid (stepS s (numsR stepS s k s8).2 = (tm, s10)) := hz
        obtain ⟨zs, hzs⟩ : ∃ zs, zs = (numsR stepS s k s8).1 := ⟨_, rfl⟩
        have HKZ : Hid (k = zs.length) := by unfold Hid; rw [hzs, numsR_len]
        have hz9 : zs.length ≤ 9 := by rw [← HKZ.out]; exact hk9
        have HRD : Hid (ReadS s (⟨n1, n2, n3, n4, n5, n6, t, zs, tm⟩ : Ev) s10.2) := ⟨s1, s2, s3, s4, s5, s6, s7, s8, (numsR stepS s k s8).2, s10, m, k, E0.out, E1.out, E2.out, E3.out, E4.out, E5.out, E6.out, E7.out, by rw [hzs], hz, rfl, hkm, hk9, .inr (.inl (by omega))⟩
        rw [← hzs] at OW
        clear hz hzs
        go_wp2_with fail
        refine (num_spec g s (numsR stepS s k s8).2 _ HR.out.1 hs).mono ?_
        rintro e w10 ⟨rfl, hr10, hg10⟩
        rw [HZ.out] at hr10
        rw [HZ.out]
        have R10 := HR.out.num hr10 hg10
        have OW10 : Hid (w10.ownsRow (eb + 1) 2 1 (.slice a k cap) k (nv zs)) := OW.out.kept hg10 (.inr fun h => by have := (OW.out.lt g h).1; have := HR.out.2.2.2.1; have := HR.out.2.2.2.2; omega)
        have fe : ∀ o, w10.frozen? ⟨eb, o, none⟩ = false := fun o => R10.frozen o
        have q0 : w10.cell? ⟨eb, 0, none⟩ = some (.int .i64 n1) := R10.cell 0
        have q1 : w10.cell? ⟨eb, 1, none⟩ = some (.int .i64 n2) := R10.cell 1
        have q2 : w10.cell? ⟨eb, 2, none⟩ = some (.int .i64 n3) := R10.cell 2
        have q3 : w10.cell? ⟨eb, 3, none⟩ = some (.int .i64 n4) := R10.cell 3
        have q4 : w10.cell? ⟨eb, 4, none⟩ = some (.int .i64 n5) := R10.cell 4
        have q5 : w10.cell? ⟨eb, 5, none⟩ = some (.int .i64 n6) := R10.cell 5
        have q6 : w10.cell? ⟨eb, 6, none⟩ = some (.string t) := R10.cell 6
        have q7 : w10.cell? ⟨eb, 7, none⟩ = some (.slice a k cap) := R10.cell 7
        have q8 : w10.cell? ⟨eb, 8, none⟩ = some (.int .i64 0) := R10.cell 8
        have cbad : w10.cell? ⟨g, 2, none⟩ = some (.bool s10.2) := R10.bad
        have hgeb : g < eb := Nat.lt_of_lt_of_le HR.out.2.2.2.1 HR.out.2.2.2.2
        have hne : g ≠ eb := by omega
        have hwg : w.heap.size < g := by have := HGW.out; omega
        have hweb : w.heap.size < eb := by omega
        have HA10 : Hid (w10.heap[w.heap.size]? = some (Obj.cells #[.int .i64 0, .int .i64 0, .int .i64 0, .int .i64 0, .int .i64 0, .int .i64 0, .string ⟨#[]⟩, .slice none 0 0, .int .i64 0, .int .i64 0] 30 (0, 0))) := (R10.2.2.1.block w.heap.size (by have := HR.out.2.2.2.1; omega) (by simp; omega)).trans ((HWW.out.block w.heap.size hz1w).trans ((HA.out.block w.heap.size (by simp)).trans (MapKept.heap_alloc w _).1))
        have HW10 : Hid (Below w.heap.size w w10) := HW1.out.trans ((HWW.out.grown R10.2.2.1 HWW.out.size (fun q hq => by cases hq; exact Nat.le_of_lt HGW.out)).mono (Nat.le_of_lt hz1w))
        have hle10 : eb < w10.heap.size := R10.lt
        have HEB : Hid ((w10.setCell ⟨eb, 8, none⟩ (.int .i64 tm)).heap[eb]? = some (.cells #[.int .i64 n1, .int .i64 n2, .int .i64 n3, .int .i64 n4, .int .i64 n5, .int .i64 n6, .string t, .slice a k cap, .int .i64 tm] 25 (0, 0))) := heap_set R10.2.1 _
        clear hr10 hg10 R10
        cases hb10 : s10.2
        · rw [hb10] at cbad
          have HSZ10 : Hid (Below w10.heap.size w10 w10) := Below.refl _ _
          go_wp2_with fail
          rw [HKZ.out]
          have HOW11 : Hid ((w10.setCell ⟨eb, 8, none⟩ (.int .i64 tm)).ownsRow (eb + 1) 2 1 (.slice a zs.length cap) zs.length (nv zs)) := by
            have h := OW10.out
            rw [HKZ.out] at h
            exact ownsRow_setCell_below h (by simp) _
          refine (bytes_spec (⟨n1, n2, n3, n4, n5, n6, t, zs, tm⟩ : Ev) a cap _ (numsAt_of HOW11.out (show zs.length ≤ 1048576 by omega))).mono ?_
          rintro e w11 ⟨rfl, hb11⟩
          have HB11 : Hid (Below w10.heap.size (w10.setCell ⟨eb, 8, none⟩ (.int .i64 tm)) w11) := hb11.mono (by simp)
          have HE11 : Hid (w11.heap[eb]? = some (.cells #[.int .i64 n1, .int .i64 n2, .int .i64 n3, .int .i64 n4, .int .i64 n5, .int .i64 n6, .string t, .slice a zs.length cap, .int .i64 tm] 25 (0, 0))) := by
            have h := HEB.out
            rw [HKZ.out] at h
            exact (hb11.block eb (by simpa using hle10)).trans h
          have x0 : w11.cell? ⟨eb, 0, none⟩ = some (.int .i64 n1) := cell_of_heap HE11.out
          have x1 : w11.cell? ⟨eb, 1, none⟩ = some (.int .i64 n2) := cell_of_heap HE11.out
          have x2 : w11.cell? ⟨eb, 2, none⟩ = some (.int .i64 n3) := cell_of_heap HE11.out
          have x3 : w11.cell? ⟨eb, 3, none⟩ = some (.int .i64 n4) := cell_of_heap HE11.out
          have x4 : w11.cell? ⟨eb, 4, none⟩ = some (.int .i64 n5) := cell_of_heap HE11.out
          have x5 : w11.cell? ⟨eb, 5, none⟩ = some (.int .i64 n6) := cell_of_heap HE11.out
          have x6 : w11.cell? ⟨eb, 6, none⟩ = some (.string t) := cell_of_heap HE11.out
          have x7 : w11.cell? ⟨eb, 7, none⟩ = some (.slice a zs.length cap) := cell_of_heap HE11.out
          have x8 : w11.cell? ⟨eb, 8, none⟩ = some (.int .i64 tm) := cell_of_heap HE11.out
          have HO11 : Hid (w11.ownsRow (eb + 1) 2 1 (.slice a zs.length cap) zs.length (nv zs)) := owns_below HOW11.out hb11
          have HW11 : Hid (Below w.heap.size w w11) := (HW10.out.setCell (Nat.le_of_lt hweb) _).trans (hb11.mono (by have := HW10.out.size; simpa using this))
          have hz11 : w.heap.size < w10.heap.size := by omega
          have HR11 : Hid (w11.heap[w.heap.size]? = some (Obj.cells #[.int .i64 0, .int .i64 0, .int .i64 0, .int .i64 0, .int .i64 0, .int .i64 0, .string ⟨#[]⟩, .slice none 0 0, .int .i64 0, .int .i64 0] 30 (0, 0))) := (HB11.out.block w.heap.size hz11).trans ((Below.heap_setCell w10 ⟨eb, 8, none⟩ _ w.heap.size (by simp; omega)).trans HA10.out)
          have r0 : w11.cell? ⟨w.heap.size, 0, none⟩ = some (.int .i64 0) := cell_of_heap HR11.out
          have r1 : w11.cell? ⟨w.heap.size, 1, none⟩ = some (.int .i64 0) := cell_of_heap HR11.out
          have r2 : w11.cell? ⟨w.heap.size, 2, none⟩ = some (.int .i64 0) := cell_of_heap HR11.out
          have r3 : w11.cell? ⟨w.heap.size, 3, none⟩ = some (.int .i64 0) := cell_of_heap HR11.out
          have r4 : w11.cell? ⟨w.heap.size, 4, none⟩ = some (.int .i64 0) := cell_of_heap HR11.out
          have r5 : w11.cell? ⟨w.heap.size, 5, none⟩ = some (.int .i64 0) := cell_of_heap HR11.out
          have r6 : w11.cell? ⟨w.heap.size, 6, none⟩ = some (.string ⟨#[]⟩) := cell_of_heap HR11.out
          have r7 : w11.cell? ⟨w.heap.size, 7, none⟩ = some (.slice none 0 0) := cell_of_heap HR11.out
          have r8 : w11.cell? ⟨w.heap.size, 8, none⟩ = some (.int .i64 0) := cell_of_heap HR11.out
          have r9 : w11.cell? ⟨w.heap.size, 9, none⟩ = some (.int .i64 0) := cell_of_heap HR11.out
          have frz : ∀ o, w11.frozen? ⟨w.heap.size, o, none⟩ = false := fun o => frozen_of_heap HR11.out
          clear hb11
          by_cases hb : bytesOf (⟨n1, n2, n3, n4, n5, n6, t, zs, tm⟩ : Ev) = text
          · have bb : ((bytesOf (⟨n1, n2, n3, n4, n5, n6, t, zs, tm⟩ : Ev)).toList == text.toList) = true := by rw [hb]; simp
            have HY : Hid (rightB (⟨n1, n2, n3, n4, n5, n6, t, zs, tm⟩ : Ev) = true ∧ evBytes (⟨n1, n2, n3, n4, n5, n6, t, zs, tm⟩ : Ev) = text) := bytes_yes h4 hb
            have hp4 : zs.length ≤ 4 := (right_small HY.out.1).prev
            clear hb
            go_wp2
            refine bodyPost_ret (v := outV (⟨n1, n2, n3, n4, n5, n6, t, zs, tm⟩ : Ev) a cap 0) ?_ rfl ⟨(⟨n1, n2, n3, n4, n5, n6, t, zs, tm⟩ : Ev), a, cap, 0, rfl, .inr (.inr ⟨⟨h4, h8⟩, .inr ⟨HK.out, .inr ⟨rfl, HY.out⟩⟩⟩), hp4, ?_, ?_⟩
            · simp [results, Try.results10, go_sem, outV, r0, r1, r2, r3, r4, r5, r6, r7, r8, r9]
            · refine owns_mono (base := eb + 1) ?_ (by omega)
              repeat refine ownsRow_setCell_below ?_ (by simp; omega) _
              exact HO11.out
            · repeat refine Below.setCell ?_ (by simp) _
              exact HW11.out
          · have bb : ((bytesOf (⟨n1, n2, n3, n4, n5, n6, t, zs, tm⟩ : Ev)).toList == text.toList) = false := by
              rw [beq_eq_false_iff_ne]
              intro e
              exact hb (by apply ByteArray.ext; apply Array.ext'; rw [Lib.toList_data, Lib.toList_data] at e; exact e)
            have HY : Hid (¬ ∃ u, rightB u = true ∧ evBytes u = text) := readS_no HS.out HRD.out (.inr hb)
            clear hb
            go_wp2
            refine bodyPost_ret (v := .agg #[.int .i64 0, .int .i64 0, .int .i64 0, .int .i64 0, .int .i64 0, .int .i64 0, .string ⟨#[]⟩, .slice none 0 0, .int .i64 0, .int .i64 3]) ?_ rfl ?_
            · simp [results, Try.results10, go_sem, r0, r1, r2, r3, r4, r5, r6, r7, r8, r9]
            · refine ReadPost.fault (.inr (.inr ⟨⟨h4, h8⟩, .inr ⟨HK.out, .inl ⟨rfl, rfl, HY.out⟩⟩⟩)) ?_
              repeat refine Below.setCell ?_ (by simp) _
              exact HW11.out
        · rw [hb10] at cbad
          have HY : Hid (¬ ∃ u, rightB u = true ∧ evBytes u = text) := readS_no HS.out HRD.out (.inl hb10)
          have r0 : w10.cell? ⟨w.heap.size, 0, none⟩ = some (.int .i64 0) := cell_of_heap HA10.out
          have r1 : w10.cell? ⟨w.heap.size, 1, none⟩ = some (.int .i64 0) := cell_of_heap HA10.out
          have r2 : w10.cell? ⟨w.heap.size, 2, none⟩ = some (.int .i64 0) := cell_of_heap HA10.out
          have r3 : w10.cell? ⟨w.heap.size, 3, none⟩ = some (.int .i64 0) := cell_of_heap HA10.out
          have r4 : w10.cell? ⟨w.heap.size, 4, none⟩ = some (.int .i64 0) := cell_of_heap HA10.out
          have r5 : w10.cell? ⟨w.heap.size, 5, none⟩ = some (.int .i64 0) := cell_of_heap HA10.out
          have r6 : w10.cell? ⟨w.heap.size, 6, none⟩ = some (.string ⟨#[]⟩) := cell_of_heap HA10.out
          have r7 : w10.cell? ⟨w.heap.size, 7, none⟩ = some (.slice none 0 0) := cell_of_heap HA10.out
          have r8 : w10.cell? ⟨w.heap.size, 8, none⟩ = some (.int .i64 0) := cell_of_heap HA10.out
          have r9 : w10.cell? ⟨w.heap.size, 9, none⟩ = some (.int .i64 0) := cell_of_heap HA10.out
          have frz : ∀ o, w10.frozen? ⟨w.heap.size, o, none⟩ = false := fun o => frozen_of_heap HA10.out
          go_wp2
          refine bodyPost_ret (v := .agg #[.int .i64 0, .int .i64 0, .int .i64 0, .int .i64 0, .int .i64 0, .int .i64 0, .string ⟨#[]⟩, .slice none 0 0, .int .i64 0, .int .i64 3]) ?_ rfl ?_
          · simp [results, Try.results10, go_sem, r0, r1, r2, r3, r4, r5, r6, r7, r8, r9]
          · refine ReadPost.fault (.inr (.inr ⟨⟨h4, h8⟩, .inr ⟨HK.out, .inl ⟨rfl, rfl, HY.out⟩⟩⟩)) ?_
            repeat refine Below.setCell ?_ (by simp; try omega) _
            exact HW10.out
    · have b1 : decide ((k : Int) < m) = false := by simpa using hlt
      obtain ⟨a, cap, rfl⟩ : ∃ a cap, pv = .slice a k cap := by
        rcases OW.out.2 with ⟨h1, h2⟩ | ⟨q, cp, _, h1, _⟩
        · exact ⟨none, 0, by rw [h1, h2]⟩
        · exact ⟨_, _, h1⟩
      obtain ⟨tm, s10, hz⟩ : ∃ n st, stepS s (numsR stepS s k s8).2 = (n, st) := ⟨_, _, rfl⟩
      have HZ : Hid (stepS s (numsR stepS s k s8).2 = (tm, s10)) := hz
      obtain ⟨zs, hzs⟩ : ∃ zs, zs = (numsR stepS s k s8).1 := ⟨_, rfl⟩
      have HKZ : Hid (k = zs.length) := by unfold Hid; rw [hzs, numsR_len]
      have hz9 : zs.length ≤ 9 := by rw [← HKZ.out]; exact hk9
      have HRD : Hid (ReadS s (⟨n1, n2, n3, n4, n5, n6, t, zs, tm⟩ : Ev) s10.2) := ⟨s1, s2, s3, s4, s5, s6, s7, s8, (numsR stepS s k s8).2, s10, m, k, E0.out, E1.out, E2.out, E3.out, E4.out, E5.out, E6.out, E7.out, by rw [hzs], hz, rfl, hkm, hk9, .inl (by omega)⟩
      rw [← hzs] at OW
      clear hz hzs
      go_wp2_with fail
      refine (num_spec g s (numsR stepS s k s8).2 _ HR.out.1 hs).mono ?_
      rintro e w10 ⟨rfl, hr10, hg10⟩
      rw [HZ.out] at hr10
      rw [HZ.out]
      have R10 := HR.out.num hr10 hg10
      have OW10 : Hid (w10.ownsRow (eb + 1) 2 1 (.slice a k cap) k (nv zs)) := OW.out.kept hg10 (.inr fun h => by have := (OW.out.lt g h).1; have := HR.out.2.2.2.1; have := HR.out.2.2.2.2; omega)
      have fe : ∀ o, w10.frozen? ⟨eb, o, none⟩ = false := fun o => R10.frozen o
      have q0 : w10.cell? ⟨eb, 0, none⟩ = some (.int .i64 n1) := R10.cell 0
      have q1 : w10.cell? ⟨eb, 1, none⟩ = some (.int .i64 n2) := R10.cell 1
      have q2 : w10.cell? ⟨eb, 2, none⟩ = some (.int .i64 n3) := R10.cell 2
      have q3 : w10.cell? ⟨eb, 3, none⟩ = some (.int .i64 n4) := R10.cell 3
      have q4 : w10.cell? ⟨eb, 4, none⟩ = some (.int .i64 n5) := R10.cell 4
      have q5 : w10.cell? ⟨eb, 5, none⟩ = some (.int .i64 n6) := R10.cell 5
      have q6 : w10.cell? ⟨eb, 6, none⟩ = some (.string t) := R10.cell 6
      have q7 : w10.cell? ⟨eb, 7, none⟩ = some (.slice a k cap) := R10.cell 7
      have q8 : w10.cell? ⟨eb, 8, none⟩ = some (.int .i64 0) := R10.cell 8
      have cbad : w10.cell? ⟨g, 2, none⟩ = some (.bool s10.2) := R10.bad
      have hgeb : g < eb := Nat.lt_of_lt_of_le HR.out.2.2.2.1 HR.out.2.2.2.2
      have hne : g ≠ eb := by omega
      have hwg : w.heap.size < g := by have := HGW.out; omega
      have hweb : w.heap.size < eb := by omega
      have HA10 : Hid (w10.heap[w.heap.size]? = some (Obj.cells #[.int .i64 0, .int .i64 0, .int .i64 0, .int .i64 0, .int .i64 0, .int .i64 0, .string ⟨#[]⟩, .slice none 0 0, .int .i64 0, .int .i64 0] 30 (0, 0))) := (R10.2.2.1.block w.heap.size (by have := HR.out.2.2.2.1; omega) (by simp; omega)).trans ((HWW.out.block w.heap.size hz1w).trans ((HA.out.block w.heap.size (by simp)).trans (MapKept.heap_alloc w _).1))
      have HW10 : Hid (Below w.heap.size w w10) := HW1.out.trans ((HWW.out.grown R10.2.2.1 HWW.out.size (fun q hq => by cases hq; exact Nat.le_of_lt HGW.out)).mono (Nat.le_of_lt hz1w))
      have hle10 : eb < w10.heap.size := R10.lt
      have HEB : Hid ((w10.setCell ⟨eb, 8, none⟩ (.int .i64 tm)).heap[eb]? = some (.cells #[.int .i64 n1, .int .i64 n2, .int .i64 n3, .int .i64 n4, .int .i64 n5, .int .i64 n6, .string t, .slice a k cap, .int .i64 tm] 25 (0, 0))) := heap_set R10.2.1 _
      clear hr10 hg10 R10
      cases hb10 : s10.2
      · rw [hb10] at cbad
        have HSZ10 : Hid (Below w10.heap.size w10 w10) := Below.refl _ _
        go_wp2_with fail
        rw [HKZ.out]
        have HOW11 : Hid ((w10.setCell ⟨eb, 8, none⟩ (.int .i64 tm)).ownsRow (eb + 1) 2 1 (.slice a zs.length cap) zs.length (nv zs)) := by
          have h := OW10.out
          rw [HKZ.out] at h
          exact ownsRow_setCell_below h (by simp) _
        refine (bytes_spec (⟨n1, n2, n3, n4, n5, n6, t, zs, tm⟩ : Ev) a cap _ (numsAt_of HOW11.out (show zs.length ≤ 1048576 by omega))).mono ?_
        rintro e w11 ⟨rfl, hb11⟩
        have HB11 : Hid (Below w10.heap.size (w10.setCell ⟨eb, 8, none⟩ (.int .i64 tm)) w11) := hb11.mono (by simp)
        have HE11 : Hid (w11.heap[eb]? = some (.cells #[.int .i64 n1, .int .i64 n2, .int .i64 n3, .int .i64 n4, .int .i64 n5, .int .i64 n6, .string t, .slice a zs.length cap, .int .i64 tm] 25 (0, 0))) := by
          have h := HEB.out
          rw [HKZ.out] at h
          exact (hb11.block eb (by simpa using hle10)).trans h
        have x0 : w11.cell? ⟨eb, 0, none⟩ = some (.int .i64 n1) := cell_of_heap HE11.out
        have x1 : w11.cell? ⟨eb, 1, none⟩ = some (.int .i64 n2) := cell_of_heap HE11.out
        have x2 : w11.cell? ⟨eb, 2, none⟩ = some (.int .i64 n3) := cell_of_heap HE11.out
        have x3 : w11.cell? ⟨eb, 3, none⟩ = some (.int .i64 n4) := cell_of_heap HE11.out
        have x4 : w11.cell? ⟨eb, 4, none⟩ = some (.int .i64 n5) := cell_of_heap HE11.out
        have x5 : w11.cell? ⟨eb, 5, none⟩ = some (.int .i64 n6) := cell_of_heap HE11.out
        have x6 : w11.cell? ⟨eb, 6, none⟩ = some (.string t) := cell_of_heap HE11.out
        have x7 : w11.cell? ⟨eb, 7, none⟩ = some (.slice a zs.length cap) := cell_of_heap HE11.out
        have x8 : w11.cell? ⟨eb, 8, none⟩ = some (.int .i64 tm) := cell_of_heap HE11.out
        have HO11 : Hid (w11.ownsRow (eb + 1) 2 1 (.slice a zs.length cap) zs.length (nv zs)) := owns_below HOW11.out hb11
        have HW11 : Hid (Below w.heap.size w w11) := (HW10.out.setCell (Nat.le_of_lt hweb) _).trans (hb11.mono (by have := HW10.out.size; simpa using this))
        have hz11 : w.heap.size < w10.heap.size := by omega
        have HR11 : Hid (w11.heap[w.heap.size]? = some (Obj.cells #[.int .i64 0, .int .i64 0, .int .i64 0, .int .i64 0, .int .i64 0, .int .i64 0, .string ⟨#[]⟩, .slice none 0 0, .int .i64 0, .int .i64 0] 30 (0, 0))) := (HB11.out.block w.heap.size hz11).trans ((Below.heap_setCell w10 ⟨eb, 8, none⟩ _ w.heap.size (by simp; omega)).trans HA10.out)
        have r0 : w11.cell? ⟨w.heap.size, 0, none⟩ = some (.int .i64 0) := cell_of_heap HR11.out
        have r1 : w11.cell? ⟨w.heap.size, 1, none⟩ = some (.int .i64 0) := cell_of_heap HR11.out
        have r2 : w11.cell? ⟨w.heap.size, 2, none⟩ = some (.int .i64 0) := cell_of_heap HR11.out
        have r3 : w11.cell? ⟨w.heap.size, 3, none⟩ = some (.int .i64 0) := cell_of_heap HR11.out
        have r4 : w11.cell? ⟨w.heap.size, 4, none⟩ = some (.int .i64 0) := cell_of_heap HR11.out
        have r5 : w11.cell? ⟨w.heap.size, 5, none⟩ = some (.int .i64 0) := cell_of_heap HR11.out
        have r6 : w11.cell? ⟨w.heap.size, 6, none⟩ = some (.string ⟨#[]⟩) := cell_of_heap HR11.out
        have r7 : w11.cell? ⟨w.heap.size, 7, none⟩ = some (.slice none 0 0) := cell_of_heap HR11.out
        have r8 : w11.cell? ⟨w.heap.size, 8, none⟩ = some (.int .i64 0) := cell_of_heap HR11.out
        have r9 : w11.cell? ⟨w.heap.size, 9, none⟩ = some (.int .i64 0) := cell_of_heap HR11.out
        have frz : ∀ o, w11.frozen? ⟨w.heap.size, o, none⟩ = false := fun o => frozen_of_heap HR11.out
        clear hb11
        by_cases hb : bytesOf (⟨n1, n2, n3, n4, n5, n6, t, zs, tm⟩ : Ev) = text
        · have bb : ((bytesOf (⟨n1, n2, n3, n4, n5, n6, t, zs, tm⟩ : Ev)).toList == text.toList) = true := by rw [hb]; simp
          have HY : Hid (rightB (⟨n1, n2, n3, n4, n5, n6, t, zs, tm⟩ : Ev) = true ∧ evBytes (⟨n1, n2, n3, n4, n5, n6, t, zs, tm⟩ : Ev) = text) := bytes_yes h4 hb
          have hp4 : zs.length ≤ 4 := (right_small HY.out.1).prev
          clear hb
          go_wp2
          refine bodyPost_ret (v := outV (⟨n1, n2, n3, n4, n5, n6, t, zs, tm⟩ : Ev) a cap 0) ?_ rfl ⟨(⟨n1, n2, n3, n4, n5, n6, t, zs, tm⟩ : Ev), a, cap, 0, rfl, .inr (.inr ⟨⟨h4, h8⟩, .inr ⟨HK.out, .inr ⟨rfl, HY.out⟩⟩⟩), hp4, ?_, ?_⟩
          · simp [results, Try.results10, go_sem, outV, r0, r1, r2, r3, r4, r5, r6, r7, r8, r9]
          · refine owns_mono (base := eb + 1) ?_ (by omega)
            repeat refine ownsRow_setCell_below ?_ (by simp; omega) _
            exact HO11.out
          · repeat refine Below.setCell ?_ (by simp) _
            exact HW11.out
        · have bb : ((bytesOf (⟨n1, n2, n3, n4, n5, n6, t, zs, tm⟩ : Ev)).toList == text.toList) = false := by
            rw [beq_eq_false_iff_ne]
            intro e
            exact hb (by apply ByteArray.ext; apply Array.ext'; rw [Lib.toList_data, Lib.toList_data] at e; exact e)
          have HY : Hid (¬ ∃ u, rightB u = true ∧ evBytes u = text) := readS_no HS.out HRD.out (.inr hb)
          clear hb
          go_wp2
          refine bodyPost_ret (v := .agg #[.int .i64 0, .int .i64 0, .int .i64 0, .int .i64 0, .int .i64 0, .int .i64 0, .string ⟨#[]⟩, .slice none 0 0, .int .i64 0, .int .i64 3]) ?_ rfl ?_
          · simp [results, Try.results10, go_sem, r0, r1, r2, r3, r4, r5, r6, r7, r8, r9]
          · refine ReadPost.fault (.inr (.inr ⟨⟨h4, h8⟩, .inr ⟨HK.out, .inl ⟨rfl, rfl, HY.out⟩⟩⟩)) ?_
            repeat refine Below.setCell ?_ (by simp) _
            exact HW11.out
      · rw [hb10] at cbad
        have HY : Hid (¬ ∃ u, rightB u = true ∧ evBytes u = text) := readS_no HS.out HRD.out (.inl hb10)
        have r0 : w10.cell? ⟨w.heap.size, 0, none⟩ = some (.int .i64 0) := cell_of_heap HA10.out
        have r1 : w10.cell? ⟨w.heap.size, 1, none⟩ = some (.int .i64 0) := cell_of_heap HA10.out
        have r2 : w10.cell? ⟨w.heap.size, 2, none⟩ = some (.int .i64 0) := cell_of_heap HA10.out
        have r3 : w10.cell? ⟨w.heap.size, 3, none⟩ = some (.int .i64 0) := cell_of_heap HA10.out
        have r4 : w10.cell? ⟨w.heap.size, 4, none⟩ = some (.int .i64 0) := cell_of_heap HA10.out
        have r5 : w10.cell? ⟨w.heap.size, 5, none⟩ = some (.int .i64 0) := cell_of_heap HA10.out
        have r6 : w10.cell? ⟨w.heap.size, 6, none⟩ = some (.string ⟨#[]⟩) := cell_of_heap HA10.out
        have r7 : w10.cell? ⟨w.heap.size, 7, none⟩ = some (.slice none 0 0) := cell_of_heap HA10.out
        have r8 : w10.cell? ⟨w.heap.size, 8, none⟩ = some (.int .i64 0) := cell_of_heap HA10.out
        have r9 : w10.cell? ⟨w.heap.size, 9, none⟩ = some (.int .i64 0) := cell_of_heap HA10.out
        have frz : ∀ o, w10.frozen? ⟨w.heap.size, o, none⟩ = false := fun o => frozen_of_heap HA10.out
        go_wp2
        refine bodyPost_ret (v := .agg #[.int .i64 0, .int .i64 0, .int .i64 0, .int .i64 0, .int .i64 0, .int .i64 0, .string ⟨#[]⟩, .slice none 0 0, .int .i64 0, .int .i64 3]) ?_ rfl ?_
        · simp [results, Try.results10, go_sem, r0, r1, r2, r3, r4, r5, r6, r7, r8, r9]
        · refine ReadPost.fault (.inr (.inr ⟨⟨h4, h8⟩, .inr ⟨HK.out, .inl ⟨rfl, rfl, HY.out⟩⟩⟩)) ?_
          repeat refine Below.setCell ?_ (by simp; try omega) _
          exact HW10.out

theorem eventread_spec (text : ByteArray) (w : World) : Calls Try.prog 10 #[.string text] w (ReadPost text w) := by
  by_cases h8 : (text.size : Int) > 8000
  · exact eventread_spec_no text w 2 (by decide) (.inl ⟨h8, rfl, rfl⟩) fun w => unseal_spec_big text w h8
  by_cases h4 : (text.size : Int) < 4
  · exact eventread_spec_no text w 4 (by decide) (.inr (.inl ⟨h4, rfl, rfl⟩)) fun w => unseal_spec_short text w h4
  cases hk : okS text
  · exact eventread_spec_no text w 5 (by decide) (.inr (.inr ⟨⟨by omega, by omega⟩, .inl ⟨hk, rfl, rfl⟩⟩)) fun w => unseal_spec_any text w (by omega) (by omega) ⟨#[]⟩ 5 (.inr ⟨hk, rfl, rfl⟩)
  · exact eventread_spec_ok text w (by omega) (by omega) hk
end Go.Proofs.Ytjdkenopfnepaaa
