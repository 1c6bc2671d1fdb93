/- What hinders an event of another one, the program's side. What hinders any event, what a member's event is asked, and the rule of a kind. -/
import Derived.Test.YteajcmkaoahbeaaGreatDoorZRsHv
import Derived.Test.YteajcmkaoahbeaaGreatDoorZAlAll
import Derived.Test.YteajcmkaoahbeaaGreatDoorZAlI1
namespace Go.Proofs.YteajcmkaoahbeaaGreatDoor
open Go.RowKit

set_option maxHeartbeats 16000000 in
set_option maxRecDepth 100000 in
theorem asksOfAnother_impl (g : Gr) (xs : List En) (E : Errs) (be bs : Nat) (v : Ev) (q : Option Addr) (c : Nat) (w : World) (h : ScAt w g xs be bs) (hs : Sc g xs) (hE : LE E w) (hwa : (Lit.int .i64 v.author).wf = true) (hwk : (Lit.int .i64 v.key).wf = true) :
    Calls Tryz.prog 182 #[.agg #[.map (some be), .map (some bs)], .agg #[.int .i64 v.id, .int .i64 v.room, .int .i64 v.author, .int .i64 v.kind, .int .i64 v.key, .int .i64 v.n, .string v.text, .slice q v.prev.length c, .int .i64 v.time]] w fun e w' => e = .returned (errV E (otherE g.evs xs v (levR g.evs xs v.author))) ∧ Below w.heap.size w w' := by
  have HA0 : Hid (IB w E be bs v q c ((w.alloc (.cells #[.map (some be), .map (some bs)] 132)).alloc (.cells #[.int .i64 v.id, .int .i64 v.room, .int .i64 v.author, .int .i64 v.kind, .int .i64 v.key, .int .i64 v.n, .string v.text, .slice q v.prev.length c, .int .i64 v.time] 114))) := IB.start w E hE be bs v q c
  obtain ⟨m1, m2, m3, m4, m5, m6⟩ := HA0.out.cells
  obtain ⟨z1, z2⟩ := HA0.out.lt
  have HM := fun W (hW : Below w.heap.size w W) => member_impl g xs be bs v.key hwk W (h.kept hW) hs
  have HL := fun W (hW : Below w.heap.size w W) => level_impl g xs be bs v.author hwa W (h.kept hW) hs
  have HK := fun W (hW : Below w.heap.size w W) => level_impl g xs be bs v.key hwk W (h.kept hW) hs
  obtain ⟨t, HT⟩ : ∃ u, Hid (u = memR g.evs xs v.key) := ⟨memR g.evs xs v.key, (rfl : memR g.evs xs v.key = _)⟩
  obtain ⟨l, HQ⟩ : ∃ u, Hid (u = levR g.evs xs v.key) := ⟨levR g.evs xs v.key, (rfl : levR g.evs xs v.key = _)⟩
  obtain ⟨pl, HP⟩ : ∃ u, Hid (u = levR g.evs xs v.author) := ⟨levR g.evs xs v.author, (rfl : levR g.evs xs v.author = _)⟩
  obtain ⟨R, HR⟩ : ∃ R, Hid (R = otherP v.n t l pl) := ⟨otherP v.n t l pl, (rfl : otherP v.n t l pl = _)⟩
  have HX : Hid (otherE g.evs xs v (levR g.evs xs v.author) = R) := by unfold Hid otherE; rw [HR.out, HT.out, HQ.out, HP.out]
  rw [HX.out]
  rw [← HT.out] at HM
  rw [← HP.out] at HL
  rw [← HQ.out] at HK
  clear h hs hE hwa hwk
  go_enter Tryz.func182, Tryz.ntmps182
  go_wp2_with fail
  refine (HM _ HA0.out.below).mono ?_
  rintro e w1 ⟨rfl, hb1⟩
  have HA1 : Hid (IB w E be bs v q c w1) := HA0.out.on hb1
  clear hb1 HA0 HM m1 m2 m3 m4 m5 m6 z1 z2
  obtain ⟨m1, m2, m3, m4, m5, m6⟩ := HA1.out.cells
  go_wp2_with fail
  refine (HL _ HA1.out.below).mono ?_
  rintro e w2 ⟨rfl, hb2⟩
  have HA2 : Hid (IB w E be bs v q c w2) := HA1.out.on hb2
  clear hb2 HA1 HL m1 m2 m3 m4 m5 m6
  obtain ⟨m1, m2, m3, m4, m5, m6⟩ := HA2.out.cells
  cases hn4 : (v.n == 4)
  · cases hn2 : (v.n == 2)
    · cases hn3 : (v.n == 3)
      · go_wp2
        go_ret
        exact ⟨ret_d (by rw [HR.out]; simp [otherP, hn4, hn2, hn3]), HA2.out.below⟩
      · cases tn : (t == v.n)
        · cases p5 : (decide (pl < 50))
          · cases pq : (decide (pl ≤ l))
            · go_wp2_with fail
              refine (HK _ HA2.out.below).mono ?_
              rintro e w3 ⟨rfl, hb3⟩
              have HA3 : Hid (IB w E be bs v q c w3) := HA2.out.on hb3
              clear hb3 m1 m2 m3 m4 m5 m6
              obtain ⟨m1, m2, m3, m4, m5, m6⟩ := HA3.out.cells
              go_wp2
              go_ret
              exact ⟨ret_0 (by have e2 : v.n = 3 := (by simpa using hn3); rw [e2] at tn; rw [HR.out]; simp [otherP, ifE, tn, p5, pq, e2]), HA3.out.below⟩
            · go_wp2_with fail
              refine (HK _ HA2.out.below).mono ?_
              rintro e w3 ⟨rfl, hb3⟩
              have HA3 : Hid (IB w E be bs v q c w3) := HA2.out.on hb3
              clear hb3 m1 m2 m3 m4 m5 m6
              obtain ⟨m1, m2, m3, m4, m5, m6⟩ := HA3.out.cells
              go_wp2
              go_ret
              exact ⟨ret_d (by have e2 : v.n = 3 := (by simpa using hn3); rw [e2] at tn; rw [HR.out]; simp [otherP, ifE, tn, p5, pq, e2]), HA3.out.below⟩
          · go_wp2
            go_ret
            exact ⟨ret_d (by have e2 : v.n = 3 := (by simpa using hn3); rw [e2] at tn; rw [HR.out]; simp [otherP, ifE, tn, p5, e2]), HA2.out.below⟩
        · go_wp2
          go_ret
          exact ⟨ret_d (by have e2 : v.n = 3 := (by simpa using hn3); rw [e2] at tn; rw [HR.out]; simp [otherP, ifE, tn, e2]), HA2.out.below⟩
    · cases t0 : (t == 0)
      · cases tn : (t == v.n)
        · cases p5 : (decide (pl < 50))
          · cases pq : (decide (pl ≤ l))
            · go_wp2_with fail
              refine (HK _ HA2.out.below).mono ?_
              rintro e w3 ⟨rfl, hb3⟩
              have HA3 : Hid (IB w E be bs v q c w3) := HA2.out.on hb3
              clear hb3 m1 m2 m3 m4 m5 m6
              obtain ⟨m1, m2, m3, m4, m5, m6⟩ := HA3.out.cells
              go_wp2
              go_ret
              exact ⟨ret_0 (by have e2 : v.n = 2 := (by simpa using hn2); rw [e2] at tn; rw [HR.out]; simp [otherP, ifE, t0, tn, p5, pq, e2]), HA3.out.below⟩
            · go_wp2_with fail
              refine (HK _ HA2.out.below).mono ?_
              rintro e w3 ⟨rfl, hb3⟩
              have HA3 : Hid (IB w E be bs v q c w3) := HA2.out.on hb3
              clear hb3 m1 m2 m3 m4 m5 m6
              obtain ⟨m1, m2, m3, m4, m5, m6⟩ := HA3.out.cells
              go_wp2
              go_ret
              exact ⟨ret_d (by have e2 : v.n = 2 := (by simpa using hn2); rw [e2] at tn; rw [HR.out]; simp [otherP, ifE, t0, tn, p5, pq, e2]), HA3.out.below⟩
          · go_wp2
            go_ret
            exact ⟨ret_d (by have e2 : v.n = 2 := (by simpa using hn2); rw [e2] at tn; rw [HR.out]; simp [otherP, ifE, t0, tn, p5, e2]), HA2.out.below⟩
        · go_wp2
          go_ret
          exact ⟨ret_d (by have e2 : v.n = 2 := (by simpa using hn2); rw [e2] at tn; rw [HR.out]; simp [otherP, ifE, t0, tn, e2]), HA2.out.below⟩
      · go_wp2
        go_ret
        exact ⟨ret_d (by rw [HR.out]; simp [otherP, ifE, hn4, hn2, t0]), HA2.out.below⟩
  · cases t1 : (t == 1)
    · cases t3 : (t == 3)
      · go_wp2
        go_ret
        exact ⟨ret_0 (by rw [HR.out]; simp [otherP, ifE, hn4, t1, t3]), HA2.out.below⟩
      · go_wp2
        go_ret
        exact ⟨ret_d (by rw [HR.out]; simp [otherP, ifE, hn4, t1, t3]), HA2.out.below⟩
    · go_wp2
      go_ret
      exact ⟨ret_d (by rw [HR.out]; simp [otherP, ifE, hn4, t1]), HA2.out.below⟩
end Go.Proofs.YteajcmkaoahbeaaGreatDoor
namespace Go.Proofs.YteajcmkaoahbeaaGreatDoor
open Go.RowKit

set_option maxHeartbeats 16000000 in
set_option maxRecDepth 100000 in
theorem asksOfMember_impl (g : Gr) (xs : List En) (E : Errs) (be bs : Nat) (v : Ev) (q : Option Addr) (c : Nat) (w : World) (h : ScAt w g xs be bs) (hs : Sc g xs) (hE : LE E w) (hwa : (Lit.int .i64 v.author).wf = true) (hwk : (Lit.int .i64 v.key).wf = true) :
    Calls Tryz.prog 160 #[.agg #[.map (some be), .map (some bs)], .agg #[.int .i64 v.id, .int .i64 v.room, .int .i64 v.author, .int .i64 v.kind, .int .i64 v.key, .int .i64 v.n, .string v.text, .slice q v.prev.length c, .int .i64 v.time]] w fun e w' => e = .returned (errV E (memK g.evs xs v)) ∧ Below w.heap.size w w' := by
  have HA0 : Hid (IB w E be bs v q c ((w.alloc (.cells #[.map (some be), .map (some bs)] 132)).alloc (.cells #[.int .i64 v.id, .int .i64 v.room, .int .i64 v.author, .int .i64 v.kind, .int .i64 v.key, .int .i64 v.n, .string v.text, .slice q v.prev.length c, .int .i64 v.time] 114))) := IB.start w E hE be bs v q c
  obtain ⟨m1, m2, m3, m4, m5, m6⟩ := HA0.out.cells
  obtain ⟨z1, z2⟩ := HA0.out.lt
  have HS := fun W => ofItself_impl v q c W
  have HO := fun W (hW : Below w.heap.size w W) => asksOfOneself_impl g xs E be bs v q c W (h.kept hW) hs (hE.kept hW) hwa
  have HT := fun W (hW : Below w.heap.size w W) => asksOfAnother_impl g xs E be bs v q c W (h.kept hW) hs (hE.kept hW) hwa hwk
  clear h hs hE hwa hwk
  cases hb : selfB v
  · have HM : Hid (memK g.evs xs v = otherE g.evs xs v (levR g.evs xs v.author)) := by unfold Hid memK; rw [hb]; rfl
    rw [hb] at HS
    rw [HM.out]
    go_enter Tryz.func160, Tryz.ntmps160
    go_wp2_with fail
    refine (HS _).mono ?_
    rintro e w1 ⟨rfl, hb1⟩
    have HA1 : Hid (IB w E be bs v q c w1) := HA0.out.on hb1
    clear hb1 HA0 HS m1 m2 m3 m4 m5 m6 z1 z2
    obtain ⟨m1, m2, m3, m4, m5, m6⟩ := HA1.out.cells
    go_wp2_with fail
    refine (HT _ HA1.out.below).mono ?_
    rintro e w2 ⟨rfl, hb2⟩
    have HA2 : Hid (IB w E be bs v q c w2) := HA1.out.on hb2
    clear hb2
    go_wp2
    go_ret
    exact ⟨rfl, HA2.out.below⟩
  · have HM : Hid (memK g.evs xs v = ownE g.evs xs v (memR g.evs xs v.author)) := by unfold Hid memK; rw [hb]; rfl
    rw [hb] at HS
    rw [HM.out]
    go_enter Tryz.func160, Tryz.ntmps160
    go_wp2_with fail
    refine (HS _).mono ?_
    rintro e w1 ⟨rfl, hb1⟩
    have HA1 : Hid (IB w E be bs v q c w1) := HA0.out.on hb1
    clear hb1 HA0 HS m1 m2 m3 m4 m5 m6 z1 z2
    obtain ⟨m1, m2, m3, m4, m5, m6⟩ := HA1.out.cells
    go_wp2_with fail
    refine (HO _ HA1.out.below).mono ?_
    rintro e w2 ⟨rfl, hb2⟩
    have HA2 : Hid (IB w E be bs v q c w2) := HA1.out.on hb2
    clear hb2
    go_wp2
    go_ret
    exact ⟨rfl, HA2.out.below⟩
set_option maxHeartbeats 16000000 in
set_option maxRecDepth 100000 in
theorem hindersAll_impl (g : Gr) (xs : List En) (E : Errs) (be bs : Nat) (v : Ev) (q : Option Addr) (c : Nat) (w : World) (h : ScAt w g xs be bs) (hs : Sc g xs) (hE : LE E w) (hwa : (Lit.int .i64 v.author).wf = true) :
    Calls Tryz.prog 122 #[.agg #[.map (some be), .map (some bs)], .agg #[.int .i64 v.id, .int .i64 v.room, .int .i64 v.author, .int .i64 v.kind, .int .i64 v.key, .int .i64 v.n, .string v.text, .slice q v.prev.length c, .int .i64 v.time]] w fun e w' => e = .returned (errV E (allE g.evs xs v)) ∧ Below w.heap.size w w' := by
  have HA0 : Hid (IB w E be bs v q c ((w.alloc (.cells #[.map (some be), .map (some bs)] 132)).alloc (.cells #[.int .i64 v.id, .int .i64 v.room, .int .i64 v.author, .int .i64 v.kind, .int .i64 v.key, .int .i64 v.n, .string v.text, .slice q v.prev.length c, .int .i64 v.time] 114))) := IB.start w E hE be bs v q c
  obtain ⟨m1, m2, m3, m4, m5, m6⟩ := HA0.out.cells
  obtain ⟨z1, z2⟩ := HA0.out.lt
  have HBG := fun W (hW : Below w.heap.size w W) => begun_impl g xs be bs W (h.kept hW) hs
  have HS := fun W => ofItself_impl v q c W
  have HM := fun W (hW : Below w.heap.size w W) => isIn_impl g xs be bs v.author hwa W (h.kept hW) hs
  obtain ⟨z, HZ⟩ : ∃ u, Hid (u = stAt xs 1 0) := ⟨stAt xs 1 0, (rfl : stAt xs 1 0 = _)⟩
  obtain ⟨m, HMM⟩ : ∃ u, Hid (u = memR g.evs xs v.author) := ⟨memR g.evs xs v.author, (rfl : memR g.evs xs v.author = _)⟩
  obtain ⟨R, HR⟩ : ∃ R, Hid (R = allE g.evs xs v) := ⟨allE g.evs xs v, (rfl : allE g.evs xs v = _)⟩
  rw [← HR.out]
  rw [← HZ.out] at HBG
  rw [← HMM.out] at HM
  clear h hs hE hwa
  cases hk1 : (v.kind == 1)
  · cases hz : (decide (0 < z))
    · rw [hz] at HBG
      go_enter Tryz.func122, Tryz.ntmps122
      go_wp2_with fail
      refine (HBG _ HA0.out.below).mono ?_
      rintro e w1 ⟨rfl, hb1⟩
      have HA1 : Hid (IB w E be bs v q c w1) := HA0.out.on hb1
      clear hb1 HA0 HBG m1 m2 m3 m4 m5 m6 z1 z2
      obtain ⟨m1, m2, m3, m4, m5, m6⟩ := HA1.out.cells
      go_wp2
      go_ret
      exact ⟨ret_n (by rw [HR.out]; simp only [allE, ← HZ.out, hk1, hz, if_false, Bool.false_eq_true]), HA1.out.below⟩
    · rw [hz] at HBG
      cases hb : selfB v
      · rw [hb] at HS
        cases hm : (m == 1)
        · rw [hm] at HM
          go_enter Tryz.func122, Tryz.ntmps122
          go_wp2_with fail
          refine (HBG _ HA0.out.below).mono ?_
          rintro e w1 ⟨rfl, hb1⟩
          have HA1 : Hid (IB w E be bs v q c w1) := HA0.out.on hb1
          clear hb1 HA0 HBG m1 m2 m3 m4 m5 m6 z1 z2
          obtain ⟨m1, m2, m3, m4, m5, m6⟩ := HA1.out.cells
          go_wp2_with fail
          refine (HS _).mono ?_
          rintro e w2 ⟨rfl, hb2⟩
          have HA2 : Hid (IB w E be bs v q c w2) := HA1.out.on hb2
          clear hb2 HS m1 m2 m3 m4 m5 m6
          obtain ⟨m1, m2, m3, m4, m5, m6⟩ := HA2.out.cells
          go_wp2_with fail
          refine (HM _ HA2.out.below).mono ?_
          rintro e w3 ⟨rfl, hb3⟩
          have HA3 : Hid (IB w E be bs v q c w3) := HA2.out.on hb3
          clear hb3 HM m1 m2 m3 m4 m5 m6
          obtain ⟨m1, m2, m3, m4, m5, m6⟩ := HA3.out.cells
          go_wp2
          go_ret
          exact ⟨ret_d (by rw [HR.out]; simp only [allE, ← HZ.out, ← HMM.out, hk1, hz, hb, hm, if_true, if_false, Bool.false_eq_true]), HA3.out.below⟩
        · rw [hm] at HM
          go_enter Tryz.func122, Tryz.ntmps122
          go_wp2_with fail
          refine (HBG _ HA0.out.below).mono ?_
          rintro e w1 ⟨rfl, hb1⟩
          have HA1 : Hid (IB w E be bs v q c w1) := HA0.out.on hb1
          clear hb1 HA0 HBG m1 m2 m3 m4 m5 m6 z1 z2
          obtain ⟨m1, m2, m3, m4, m5, m6⟩ := HA1.out.cells
          go_wp2_with fail
          refine (HS _).mono ?_
          rintro e w2 ⟨rfl, hb2⟩
          have HA2 : Hid (IB w E be bs v q c w2) := HA1.out.on hb2
          clear hb2 HS m1 m2 m3 m4 m5 m6
          obtain ⟨m1, m2, m3, m4, m5, m6⟩ := HA2.out.cells
          go_wp2_with fail
          refine (HM _ HA2.out.below).mono ?_
          rintro e w3 ⟨rfl, hb3⟩
          have HA3 : Hid (IB w E be bs v q c w3) := HA2.out.on hb3
          clear hb3 HM m1 m2 m3 m4 m5 m6
          obtain ⟨m1, m2, m3, m4, m5, m6⟩ := HA3.out.cells
          go_wp2
          go_ret
          exact ⟨ret_0 (by rw [HR.out]; simp only [allE, ← HZ.out, ← HMM.out, hk1, hz, hb, hm, if_true, if_false, Bool.false_eq_true]), HA3.out.below⟩
      · rw [hb] at HS
        go_enter Tryz.func122, Tryz.ntmps122
        go_wp2_with fail
        refine (HBG _ HA0.out.below).mono ?_
        rintro e w1 ⟨rfl, hb1⟩
        have HA1 : Hid (IB w E be bs v q c w1) := HA0.out.on hb1
        clear hb1 HA0 HBG m1 m2 m3 m4 m5 m6 z1 z2
        obtain ⟨m1, m2, m3, m4, m5, m6⟩ := HA1.out.cells
        go_wp2_with fail
        refine (HS _).mono ?_
        rintro e w2 ⟨rfl, hb2⟩
        have HA2 : Hid (IB w E be bs v q c w2) := HA1.out.on hb2
        clear hb2 HS m1 m2 m3 m4 m5 m6
        obtain ⟨m1, m2, m3, m4, m5, m6⟩ := HA2.out.cells
        go_wp2
        go_ret
        exact ⟨ret_0 (by rw [HR.out]; simp only [allE, ← HZ.out, hk1, hz, hb, if_true, if_false, Bool.false_eq_true]), HA2.out.below⟩
  · cases hz : (decide (0 < z))
    · rw [hz] at HBG
      go_enter Tryz.func122, Tryz.ntmps122
      go_wp2_with fail
      refine (HBG _ HA0.out.below).mono ?_
      rintro e w1 ⟨rfl, hb1⟩
      have HA1 : Hid (IB w E be bs v q c w1) := HA0.out.on hb1
      clear hb1 HA0 HBG m1 m2 m3 m4 m5 m6 z1 z2
      obtain ⟨m1, m2, m3, m4, m5, m6⟩ := HA1.out.cells
      go_wp2
      go_ret
      exact ⟨ret_0 (by rw [HR.out]; simp only [allE, ← HZ.out, hk1, hz, if_true, if_false, Bool.false_eq_true]), HA1.out.below⟩
    · rw [hz] at HBG
      go_enter Tryz.func122, Tryz.ntmps122
      go_wp2_with fail
      refine (HBG _ HA0.out.below).mono ?_
      rintro e w1 ⟨rfl, hb1⟩
      have HA1 : Hid (IB w E be bs v q c w1) := HA0.out.on hb1
      clear hb1 HA0 HBG m1 m2 m3 m4 m5 m6 z1 z2
      obtain ⟨m1, m2, m3, m4, m5, m6⟩ := HA1.out.cells
      go_wp2
      go_ret
      exact ⟨ret_b (by rw [HR.out]; simp only [allE, ← HZ.out, hk1, hz, if_true]), HA1.out.below⟩
set_option maxHeartbeats 2000000 in
theorem rule1_impl (w : World) : Calls Tryz.prog 123 #[.int .i64 1] w fun e w' => e = .returned (.func (.func 159) #[] #[]) ∧ Below w.heap.size w w' := by
  have HB : Hid (∀ o, Below w.heap.size w (w.alloc o)) := fun o => (Below.refl _ _).alloc (Nat.le_refl _) o
  go_enter Tryz.func123, Tryz.ntmps123
  go_wp2
  go_ret
  exact ⟨rfl, HB.out _⟩
set_option maxHeartbeats 2000000 in
theorem rule2_impl (w : World) : Calls Tryz.prog 123 #[.int .i64 2] w fun e w' => e = .returned (.func (.func 160) #[] #[]) ∧ Below w.heap.size w w' := by
  have HB : Hid (∀ o, Below w.heap.size w (w.alloc o)) := fun o => (Below.refl _ _).alloc (Nat.le_refl _) o
  go_enter Tryz.func123, Tryz.ntmps123
  go_wp2
  go_ret
  exact ⟨rfl, HB.out _⟩
set_option maxHeartbeats 2000000 in
theorem rule3_impl (w : World) : Calls Tryz.prog 123 #[.int .i64 3] w fun e w' => e = .returned (.func (.func 161) #[] #[]) ∧ Below w.heap.size w w' := by
  have HB : Hid (∀ o, Below w.heap.size w (w.alloc o)) := fun o => (Below.refl _ _).alloc (Nat.le_refl _) o
  go_enter Tryz.func123, Tryz.ntmps123
  go_wp2
  go_ret
  exact ⟨rfl, HB.out _⟩
set_option maxHeartbeats 2000000 in
theorem rule4_impl (w : World) : Calls Tryz.prog 123 #[.int .i64 4] w fun e w' => e = .returned (.func (.func 161) #[] #[]) ∧ Below w.heap.size w w' := by
  have HB : Hid (∀ o, Below w.heap.size w (w.alloc o)) := fun o => (Below.refl _ _).alloc (Nat.le_refl _) o
  go_enter Tryz.func123, Tryz.ntmps123
  go_wp2
  go_ret
  exact ⟨rfl, HB.out _⟩
set_option maxHeartbeats 2000000 in
theorem rule5_impl (w : World) : Calls Tryz.prog 123 #[.int .i64 5] w fun e w' => e = .returned (.func (.func 161) #[] #[]) ∧ Below w.heap.size w w' := by
  have HB : Hid (∀ o, Below w.heap.size w (w.alloc o)) := fun o => (Below.refl _ _).alloc (Nat.le_refl _) o
  go_enter Tryz.func123, Tryz.ntmps123
  go_wp2
  go_ret
  exact ⟨rfl, HB.out _⟩
set_option maxHeartbeats 2000000 in
theorem rule6_impl (w : World) : Calls Tryz.prog 123 #[.int .i64 6] w fun e w' => e = .returned (.func (.func 161) #[] #[]) ∧ Below w.heap.size w w' := by
  have HB : Hid (∀ o, Below w.heap.size w (w.alloc o)) := fun o => (Below.refl _ _).alloc (Nat.le_refl _) o
  go_enter Tryz.func123, Tryz.ntmps123
  go_wp2
  go_ret
  exact ⟨rfl, HB.out _⟩
set_option maxHeartbeats 2000000 in
theorem rule7_impl (w : World) : Calls Tryz.prog 123 #[.int .i64 7] w fun e w' => e = .returned (.func (.func 159) #[] #[]) ∧ Below w.heap.size w w' := by
  have HB : Hid (∀ o, Below w.heap.size w (w.alloc o)) := fun o => (Below.refl _ _).alloc (Nat.le_refl _) o
  go_enter Tryz.func123, Tryz.ntmps123
  go_wp2
  go_ret
  exact ⟨rfl, HB.out _⟩
set_option maxHeartbeats 2000000 in
theorem rule8_impl (w : World) : Calls Tryz.prog 123 #[.int .i64 8] w fun e w' => e = .returned (.func (.func 162) #[] #[]) ∧ Below w.heap.size w w' := by
  have HB : Hid (∀ o, Below w.heap.size w (w.alloc o)) := fun o => (Below.refl _ _).alloc (Nat.le_refl _) o
  go_enter Tryz.func123, Tryz.ntmps123
  go_wp2
  go_ret
  exact ⟨rfl, HB.out _⟩
end Go.Proofs.YteajcmkaoahbeaaGreatDoor
