/- What hinders an event of another one, the program's side. -/
import Derived.Test.YtdldblfopcbfeaaGreatDoorZAlI0
namespace Go.Proofs.YtdldblfopcbfeaaGreatDoor
open Go.RowKit

set_option maxHeartbeats 16000000 in
set_option maxRecDepth 100000 in
theorem asksOfAnother_impl (g : Gr) (xs : List En) (E : Errs) (be bs : Nat) (v : Ev) (q : Option Addr) (c : Nat) (w : World) (h : ScAt w g xs be bs) (hs : Sc g xs) (hE : LE E w) (hwa : (Lit.int .i64 v.author).wf = true) (hwk : (Lit.int .i64 v.key).wf = true) :
    Calls Tryz.prog 91 #[.agg #[.map (some be), .map (some bs)], .agg #[.int .i64 v.id, .int .i64 v.room, .int .i64 v.author, .int .i64 v.kind, .int .i64 v.key, .int .i64 v.n, .string v.text, .slice q v.prev.length c, .int .i64 v.time]] w fun e w' => e = .returned (errV E (otherE g.evs xs v (levR g.evs xs v.author))) ∧ Below w.heap.size w w' := by
  have HA0 : Hid (IB w E be bs v q c ((w.alloc (.cells #[.map (some be), .map (some bs)] 60)).alloc (.cells #[.int .i64 v.id, .int .i64 v.room, .int .i64 v.author, .int .i64 v.kind, .int .i64 v.key, .int .i64 v.n, .string v.text, .slice q v.prev.length c, .int .i64 v.time] 39))) := IB.start w E hE be bs v q c
  obtain ⟨m1, m2, m3, m4, m5, m6⟩ := HA0.out.cells
  obtain ⟨z1, z2⟩ := HA0.out.lt
  have HM := fun W (hW : Below w.heap.size w W) => member_impl g xs be bs v.key hwk W (h.kept hW) hs
  have HL := fun W (hW : Below w.heap.size w W) => level_impl g xs be bs v.author hwa W (h.kept hW) hs
  have HK := fun W (hW : Below w.heap.size w W) => level_impl g xs be bs v.key hwk W (h.kept hW) hs
  obtain ⟨t, HT⟩ : ∃ u, Hid (u = memR g.evs xs v.key) := ⟨memR g.evs xs v.key, (rfl : memR g.evs xs v.key = _)⟩
  obtain ⟨l, HQ⟩ : ∃ u, Hid (u = levR g.evs xs v.key) := ⟨levR g.evs xs v.key, (rfl : levR g.evs xs v.key = _)⟩
  obtain ⟨pl, HP⟩ : ∃ u, Hid (u = levR g.evs xs v.author) := ⟨levR g.evs xs v.author, (rfl : levR g.evs xs v.author = _)⟩
  obtain ⟨R, HR⟩ : ∃ R, Hid (R = otherP v.n t l pl) := ⟨otherP v.n t l pl, (rfl : otherP v.n t l pl = _)⟩
  have HX : Hid (otherE g.evs xs v (levR g.evs xs v.author) = R) := by unfold Hid otherE; rw [HR.out, HT.out, HQ.out, HP.out]
  rw [HX.out]
  rw [← HT.out] at HM
  rw [← HP.out] at HL
  rw [← HQ.out] at HK
  clear h hs hE hwa hwk
  go_enter Tryz.func91, Tryz.ntmps91
  go_wp2_with fail
  refine (HM _ HA0.out.below).mono ?_
  rintro e w1 ⟨rfl, hb1⟩
  have HA1 : Hid (IB w E be bs v q c w1) := HA0.out.on hb1
  clear hb1 HA0 HM m1 m2 m3 m4 m5 m6 z1 z2
  obtain ⟨m1, m2, m3, m4, m5, m6⟩ := HA1.out.cells
  go_wp2_with fail
  refine (HL _ HA1.out.below).mono ?_
  rintro e w2 ⟨rfl, hb2⟩
  have HA2 : Hid (IB w E be bs v q c w2) := HA1.out.on hb2
  clear hb2 HA1 HL m1 m2 m3 m4 m5 m6
  obtain ⟨m1, m2, m3, m4, m5, m6⟩ := HA2.out.cells
  cases hn4 : (v.n == 4)
  · cases hn2 : (v.n == 2)
    · cases hn3 : (v.n == 3)
      · go_wp2
        go_ret
        exact ⟨ret_d (by rw [HR.out]; simp [otherP, hn4, hn2, hn3]), HA2.out.below⟩
      · cases tn : (t == v.n)
        · cases p5 : (decide (pl < 50))
          · cases pq : (decide (pl ≤ l))
            · go_wp2_with fail
              refine (HK _ HA2.out.below).mono ?_
              rintro e w3 ⟨rfl, hb3⟩
              have HA3 : Hid (IB w E be bs v q c w3) := HA2.out.on hb3
              clear hb3 m1 m2 m3 m4 m5 m6
              obtain ⟨m1, m2, m3, m4, m5, m6⟩ := HA3.out.cells
              go_wp2
              go_ret
              exact ⟨ret_0 (by have e2 : v.n = 3 := (by simpa using hn3); rw [e2] at tn; rw [HR.out]; simp [otherP, ifE, tn, p5, pq, e2]), HA3.out.below⟩
            · go_wp2_with fail
              refine (HK _ HA2.out.below).mono ?_
              rintro e w3 ⟨rfl, hb3⟩
              have HA3 : Hid (IB w E be bs v q c w3) := HA2.out.on hb3
              clear hb3 m1 m2 m3 m4 m5 m6
              obtain ⟨m1, m2, m3, m4, m5, m6⟩ := HA3.out.cells
              go_wp2
              go_ret
              exact ⟨ret_d (by have e2 : v.n = 3 := (by simpa using hn3); rw [e2] at tn; rw [HR.out]; simp [otherP, ifE, tn, p5, pq, e2]), HA3.out.below⟩
          · go_wp2
            go_ret
            exact ⟨ret_d (by have e2 : v.n = 3 := (by simpa using hn3); rw [e2] at tn; rw [HR.out]; simp [otherP, ifE, tn, p5, e2]), HA2.out.below⟩
        · go_wp2
          go_ret
          exact ⟨ret_d (by have e2 : v.n = 3 := (by simpa using hn3); rw [e2] at tn; rw [HR.out]; simp [otherP, ifE, tn, e2]), HA2.out.below⟩
    · cases t0 : (t == 0)
      · cases tn : (t == v.n)
        · cases p5 : (decide (pl < 50))
          · cases pq : (decide (pl ≤ l))
            · go_wp2_with fail
              refine (HK _ HA2.out.below).mono ?_
              rintro e w3 ⟨rfl, hb3⟩
              have HA3 : Hid (IB w E be bs v q c w3) := HA2.out.on hb3
              clear hb3 m1 m2 m3 m4 m5 m6
              obtain ⟨m1, m2, m3, m4, m5, m6⟩ := HA3.out.cells
              go_wp2
              go_ret
              exact ⟨ret_0 (by have e2 : v.n = 2 := (by simpa using hn2); rw [e2] at tn; rw [HR.out]; simp [otherP, ifE, t0, tn, p5, pq, e2]), HA3.out.below⟩
            · go_wp2_with fail
              refine (HK _ HA2.out.below).mono ?_
              rintro e w3 ⟨rfl, hb3⟩
              have HA3 : Hid (IB w E be bs v q c w3) := HA2.out.on hb3
              clear hb3 m1 m2 m3 m4 m5 m6
              obtain ⟨m1, m2, m3, m4, m5, m6⟩ := HA3.out.cells
              go_wp2
              go_ret
              exact ⟨ret_d (by have e2 : v.n = 2 := (by simpa using hn2); rw [e2] at tn; rw [HR.out]; simp [otherP, ifE, t0, tn, p5, pq, e2]), HA3.out.below⟩
          · go_wp2
            go_ret
            exact ⟨ret_d (by have e2 : v.n = 2 := (by simpa using hn2); rw [e2] at tn; rw [HR.out]; simp [otherP, ifE, t0, tn, p5, e2]), HA2.out.below⟩
        · go_wp2
          go_ret
          exact ⟨ret_d (by have e2 : v.n = 2 := (by simpa using hn2); rw [e2] at tn; rw [HR.out]; simp [otherP, ifE, t0, tn, e2]), HA2.out.below⟩
      · go_wp2
        go_ret
        exact ⟨ret_d (by rw [HR.out]; simp [otherP, ifE, hn4, hn2, t0]), HA2.out.below⟩
  · cases t1 : (t == 1)
    · cases t3 : (t == 3)
      · go_wp2
        go_ret
        exact ⟨ret_0 (by rw [HR.out]; simp [otherP, ifE, hn4, t1, t3]), HA2.out.below⟩
      · go_wp2
        go_ret
        exact ⟨ret_d (by rw [HR.out]; simp [otherP, ifE, hn4, t1, t3]), HA2.out.below⟩
    · go_wp2
      go_ret
      exact ⟨ret_d (by rw [HR.out]; simp [otherP, ifE, hn4, t1]), HA2.out.below⟩
end Go.Proofs.YtdldblfopcbfeaaGreatDoor
