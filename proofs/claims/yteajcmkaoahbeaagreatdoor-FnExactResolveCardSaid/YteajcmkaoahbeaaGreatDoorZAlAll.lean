/- What hinders arranging and hiding, the program's side. What all is asked, what a kind asks beyond it, and both together. -/
import Derived.Test.YteajcmkaoahbeaaGreatDoorZRsHv
namespace Go.Proofs.YteajcmkaoahbeaaGreatDoor
open Go.RowKit

/-- Of the kinds that arrange. -/
def mightK (es : List Em) (xs : List En) (v : Ev) (pl : Int) : Int := if (v.kind == 3) = true then mightE v.n pl (levR es xs v.key) (v.key != v.author) else ifE (decide (pl < 50))
set_option maxHeartbeats 16000000 in
set_option maxRecDepth 100000 in
theorem asksOfMight_impl (g : Gr) (xs : List En) (E : Errs) (be bs : Nat) (v : Ev) (q : Option Addr) (c : Nat) (w : World) (h : ScAt w g xs be bs) (hs : Sc g xs) (hE : LE E w) (hwa : (Lit.int .i64 v.author).wf = true) (hwk : (Lit.int .i64 v.key).wf = true) (hk : (v.kind == 3 || v.kind == 4 || v.kind == 5 || v.kind == 6) = true) :
    Calls Tryz.prog 161 #[.agg #[.map (some be), .map (some bs)], .agg #[.int .i64 v.id, .int .i64 v.room, .int .i64 v.author, .int .i64 v.kind, .int .i64 v.key, .int .i64 v.n, .string v.text, .slice q v.prev.length c, .int .i64 v.time]] w fun e w' => e = .returned (errV E (mightK g.evs xs v (levR g.evs xs v.author))) ∧ Below w.heap.size w w' := by
  have HA0 : Hid (IB w E be bs v q c ((w.alloc (.cells #[.map (some be), .map (some bs)] 132)).alloc (.cells #[.int .i64 v.id, .int .i64 v.room, .int .i64 v.author, .int .i64 v.kind, .int .i64 v.key, .int .i64 v.n, .string v.text, .slice q v.prev.length c, .int .i64 v.time] 114))) := IB.start w E hE be bs v q c
  obtain ⟨m1, m2, m3, m4, m5, m6⟩ := HA0.out.cells
  obtain ⟨z1, z2⟩ := HA0.out.lt
  have HL := fun W (hW : Below w.heap.size w W) => level_impl g xs be bs v.author hwa W (h.kept hW) hs
  have HK := fun W (hW : Below w.heap.size w W) => level_impl g xs be bs v.key hwk W (h.kept hW) hs
  obtain ⟨lk, HQ⟩ : ∃ u, Hid (u = levR g.evs xs v.key) := ⟨levR g.evs xs v.key, (rfl : levR g.evs xs v.key = _)⟩
  obtain ⟨l, HP⟩ : ∃ u, Hid (u = levR g.evs xs v.author) := ⟨levR g.evs xs v.author, (rfl : levR g.evs xs v.author = _)⟩
  rw [← HP.out]
  obtain ⟨R, HR⟩ : ∃ R, Hid (R = mightK g.evs xs v l) := ⟨mightK g.evs xs v l, (rfl : mightK g.evs xs v l = _)⟩
  rw [← HR.out]
  rw [← HP.out] at HL
  rw [← HQ.out] at HK
  have HKK : Hid ((v.kind == 3 || v.kind == 4 || v.kind == 5 || v.kind == 6) = true) := hk
  clear h hs hE hwa hwk hk
  go_enter Tryz.func161, Tryz.ntmps161
  go_wp2_with fail
  refine (HL _ HA0.out.below).mono ?_
  rintro e w1 ⟨rfl, hb1⟩
  have HA1 : Hid (IB w E be bs v q c w1) := HA0.out.on hb1
  clear hb1 HA0 HL m1 m2 m3 m4 m5 m6 z1 z2
  obtain ⟨m1, m2, m3, m4, m5, m6⟩ := HA1.out.cells
  cases hk3 : (v.kind == 3)
  · cases hk4 : (v.kind == 4)
    · cases hk5 : (v.kind == 5)
      · cases hk6 : (v.kind == 6)
        · exact absurd HKK.out (by simp [hk3, hk4, hk5, hk6])
        · cases p5 : (decide (l < 50))
          · go_wp2
            go_ret
            exact ⟨ret_0 (by rw [HR.out]; simp [mightK, ifE, hk3, p5]), HA1.out.below⟩
          · go_wp2
            go_ret
            exact ⟨ret_d (by rw [HR.out]; simp [mightK, ifE, hk3, p5]), HA1.out.below⟩
      · cases p5 : (decide (l < 50))
        · go_wp2
          go_ret
          exact ⟨ret_0 (by rw [HR.out]; simp [mightK, ifE, hk3, p5]), HA1.out.below⟩
        · go_wp2
          go_ret
          exact ⟨ret_d (by rw [HR.out]; simp [mightK, ifE, hk3, p5]), HA1.out.below⟩
    · cases p5 : (decide (l < 50))
      · go_wp2
        go_ret
        exact ⟨ret_0 (by rw [HR.out]; simp [mightK, ifE, hk3, p5]), HA1.out.below⟩
      · go_wp2
        go_ret
        exact ⟨ret_d (by rw [HR.out]; simp [mightK, ifE, hk3, p5]), HA1.out.below⟩
  · cases pn : (decide (l < v.n))
    · cases ko : (v.key != v.author)
      · cases p5 : (decide (l < 50))
        · go_wp2
          go_ret
          exact ⟨ret_0 (by rw [HR.out]; simp [mightK, mightE, ifE, ← HQ.out, hk3, pn, ko, p5]), HA1.out.below⟩
        · go_wp2
          go_ret
          exact ⟨ret_d (by rw [HR.out]; simp [mightK, mightE, ifE, ← HQ.out, hk3, pn, ko, p5]), HA1.out.below⟩
      · cases hlk : (decide (l ≤ lk))
        · cases p5 : (decide (l < 50))
          · go_wp2_with fail
            refine (HK _ HA1.out.below).mono ?_
            rintro e w2 ⟨rfl, hb2⟩
            have HA2 : Hid (IB w E be bs v q c w2) := HA1.out.on hb2
            clear hb2 m1 m2 m3 m4 m5 m6
            obtain ⟨m1, m2, m3, m4, m5, m6⟩ := HA2.out.cells
            go_wp2
            go_ret
            exact ⟨ret_0 (by rw [HR.out]; simp [mightK, mightE, ifE, ← HQ.out, hk3, pn, ko, hlk, p5]), HA2.out.below⟩
          · go_wp2_with fail
            refine (HK _ HA1.out.below).mono ?_
            rintro e w2 ⟨rfl, hb2⟩
            have HA2 : Hid (IB w E be bs v q c w2) := HA1.out.on hb2
            clear hb2 m1 m2 m3 m4 m5 m6
            obtain ⟨m1, m2, m3, m4, m5, m6⟩ := HA2.out.cells
            go_wp2
            go_ret
            exact ⟨ret_d (by rw [HR.out]; simp [mightK, mightE, ifE, ← HQ.out, hk3, pn, ko, hlk, p5]), HA2.out.below⟩
        · go_wp2_with fail
          refine (HK _ HA1.out.below).mono ?_
          rintro e w2 ⟨rfl, hb2⟩
          have HA2 : Hid (IB w E be bs v q c w2) := HA1.out.on hb2
          clear hb2 m1 m2 m3 m4 m5 m6
          obtain ⟨m1, m2, m3, m4, m5, m6⟩ := HA2.out.cells
          go_wp2
          go_ret
          exact ⟨ret_d (by rw [HR.out]; simp [mightK, mightE, ifE, ← HQ.out, hk3, pn, ko, hlk]), HA2.out.below⟩
    · go_wp2
      go_ret
      exact ⟨ret_d (by rw [HR.out]; simp [mightK, mightE, ifE, ← HQ.out, hk3, pn]), HA1.out.below⟩
set_option maxHeartbeats 16000000 in
set_option maxRecDepth 100000 in
theorem asksOfHiding_impl (g : Gr) (xs : List En) (E : Errs) (be bs : Nat) (v : Ev) (q : Option Addr) (c : Nat) (w : World) (h : ScAt w g xs be bs) (hs : Sc g xs) (hE : LE E w) (hwa : (Lit.int .i64 v.author).wf = true) (hki : -9223372036854775808 ≤ v.key ∧ v.key ≤ 9223372036854775807) :
    Calls Tryz.prog 162 #[.agg #[.map (some be), .map (some bs)], .agg #[.int .i64 v.id, .int .i64 v.room, .int .i64 v.author, .int .i64 v.kind, .int .i64 v.key, .int .i64 v.n, .string v.text, .slice q v.prev.length c, .int .i64 v.time]] w fun e w' => e = .returned (errV E (hideE g.evs v (levR g.evs xs v.author))) ∧ Below w.heap.size w w' := by
  have HA0 : Hid (IB w E be bs v q c ((w.alloc (.cells #[.map (some be), .map (some bs)] 132)).alloc (.cells #[.int .i64 v.id, .int .i64 v.room, .int .i64 v.author, .int .i64 v.kind, .int .i64 v.key, .int .i64 v.n, .string v.text, .slice q v.prev.length c, .int .i64 v.time] 114))) := IB.start w E hE be bs v q c
  obtain ⟨m1, m2, m3, m4, m5, m6⟩ := HA0.out.cells
  obtain ⟨z1, z2⟩ := HA0.out.lt
  have HL := fun W (hW : Below w.heap.size w W) => level_impl g xs be bs v.author hwa W (h.kept hW) hs
  have HLK := look_ev (h.kept HA0.out.below).evs hki
  have HD : Hid ((idsOf g.evs).Nodup) := right_dup hs.right
  obtain ⟨l, HP⟩ : ∃ u, Hid (u = levR g.evs xs v.author) := ⟨levR g.evs xs v.author, (rfl : levR g.evs xs v.author = _)⟩
  rw [← HP.out]
  obtain ⟨R, HR⟩ : ∃ R, Hid (R = hideE g.evs v l) := ⟨hideE g.evs v l, (rfl : hideE g.evs v l = _)⟩
  rw [← HR.out]
  rw [← HP.out] at HL
  clear h hs hE hwa hki
  have HA1 : Hid (∀ o, IB w E be bs v q c (((w.alloc (.cells #[.map (some be), .map (some bs)] 132)).alloc (.cells #[.int .i64 v.id, .int .i64 v.room, .int .i64 v.author, .int .i64 v.kind, .int .i64 v.key, .int .i64 v.n, .string v.text, .slice q v.prev.length c, .int .i64 v.time] 114)).alloc o)) := fun o => HA0.out.on ((Below.refl _ _).alloc (Nat.le_refl _) o)
  have HX : Hid (∀ o, (((w.alloc (.cells #[.map (some be), .map (some bs)] 132)).alloc (.cells #[.int .i64 v.id, .int .i64 v.room, .int .i64 v.author, .int .i64 v.kind, .int .i64 v.key, .int .i64 v.n, .string v.text, .slice q v.prev.length c, .int .i64 v.time] 114)).alloc o).heap[w.heap.size + 1 + 1]? = some o) := fun o => by
    have := (MapKept.heap_alloc ((w.alloc (.cells #[.map (some be), .map (some bs)] 132)).alloc (.cells #[.int .i64 v.id, .int .i64 v.room, .int .i64 v.author, .int .i64 v.kind, .int .i64 v.key, .int .i64 v.n, .string v.text, .slice q v.prev.length c, .int .i64 v.time] 114)) o).1
    simpa using this
  have n5 : ∀ o, (((w.alloc (.cells #[.map (some be), .map (some bs)] 132)).alloc (.cells #[.int .i64 v.id, .int .i64 v.room, .int .i64 v.author, .int .i64 v.kind, .int .i64 v.key, .int .i64 v.n, .string v.text, .slice q v.prev.length c, .int .i64 v.time] 114)).alloc o).cell? ⟨2, 0, none⟩ = some (.iface 321 (.pointer (some E.x))) := fun o => (HA1.out o).cells.2.2.2.2.1
  rcases HLK with ⟨hno, hrun⟩ | ⟨mm, hm, hid, hrun⟩
  · have HV : Hid (R = 6) := by unfold Hid; rw [HR.out]; exact if_neg hno
    have hrun' := hrun.trans (show _ = Result.ok (.tuple #[.agg #[.int .i64 0, .int .i64 0, .int .i64 0, .int .i64 0, .int .i64 0, .int .i64 0, .string ⟨#[]⟩, .slice none 0 0, .int .i64 0], .bool false]) ((w.alloc (.cells #[.map (some be), .map (some bs)] 132)).alloc (.cells #[.int .i64 v.id, .int .i64 v.room, .int .i64 v.author, .int .i64 v.kind, .int .i64 v.key, .int .i64 v.n, .string v.text, .slice q v.prev.length c, .int .i64 v.time] 114)) from rfl)
    clear hno hrun HR HL HX
    go_enter Tryz.func162, Tryz.ntmps162
    go_wp2
    go_ret
    exact ⟨ret_x HV.out, (HA1.out _).below⟩
  · have HV : Hid (R = ifE (decide (l < 50) && (mm.v.author != v.author))) := by
      unfold Hid
      rw [HR.out, hideE, if_pos (show v.key ∈ idsOf g.evs from List.mem_map.2 ⟨mm, hm, hid⟩), ← hid, evIn_some HD.out hm]
    have hrun' := hrun.trans (show _ = Result.ok (.tuple #[.agg #[.int .i64 mm.v.id, .int .i64 mm.v.room, .int .i64 mm.v.author, .int .i64 mm.v.kind, .int .i64 mm.v.key, .int .i64 mm.v.n, .string mm.v.text, .slice mm.p mm.v.prev.length mm.c, .int .i64 mm.v.time], .bool true]) ((w.alloc (.cells #[.map (some be), .map (some bs)] 132)).alloc (.cells #[.int .i64 v.id, .int .i64 v.room, .int .i64 v.author, .int .i64 v.kind, .int .i64 v.key, .int .i64 v.n, .string v.text, .slice q v.prev.length c, .int .i64 v.time] 114)) from rfl)
    obtain ⟨ma, HMA⟩ : ∃ u, Hid (u = mm.v.author) := ⟨mm.v.author, (rfl : mm.v.author = _)⟩
    rw [← HMA.out] at hrun' HV
    clear hrun HR hid hm
    go_enter Tryz.func162, Tryz.ntmps162
    go_wp2_with fail
    refine (HL _ (HA1.out _).below).mono ?_
    rintro e w1 ⟨rfl, hb1⟩
    have HA2 : Hid (IB w E be bs v q c w1) := (HA1.out _).on hb1
    have hc3 : ∀ i, w1.cell? ⟨w.heap.size + 1 + 1, i, none⟩ = #[.int .i64 mm.v.id, .int .i64 mm.v.room, .int .i64 ma, .int .i64 mm.v.kind, .int .i64 mm.v.key, .int .i64 mm.v.n, .string mm.v.text, .slice mm.p mm.v.prev.length mm.c, .int .i64 mm.v.time][i]? := fun i => cell_of_heap ((hb1.block _ (by simp)).trans (HX.out _))
    clear hb1 HA1 HX n5 m1 m2 m3 m4 m5 m6 z1 z2
    obtain ⟨m1, m2, m3, m4, m5, m6⟩ := HA2.out.cells
    cases p5 : (decide (l < 50))
    · go_wp2
      go_ret
      exact ⟨ret_0 (by rw [HV.out]; simp [ifE, p5]), HA2.out.below⟩
    · cases hau : (ma != v.author)
      · go_wp2
        go_ret
        exact ⟨ret_0 (by rw [HV.out]; simp [ifE, p5, hau]), HA2.out.below⟩
      · go_wp2
        go_ret
        exact ⟨ret_d (by rw [HV.out]; simp [ifE, p5, hau]), HA2.out.below⟩
end Go.Proofs.YteajcmkaoahbeaaGreatDoor
namespace Go.Proofs.YteajcmkaoahbeaaGreatDoor
open Go.RowKit

def memK (es : List Em) (xs : List En) (v : Ev) : Int := if selfB v = true then ownE es xs v (memR es xs v.author) else otherE es xs v (levR es xs v.author)
/-- Of all. -/
def allE (es : List Em) (xs : List En) (v : Ev) : Int :=
  if (v.kind == 1) = true then (if decide (0 < stAt xs 1 0) = true then 7 else 0)
  else if decide (0 < stAt xs 1 0) = true then (if selfB v = true then 0 else if (memR es xs v.author == 1) = true then 0 else 11)
  else 10
/-- By kind. -/
def ruleE (es : List Em) (xs : List En) (v : Ev) : Int :=
  if (v.kind == 1) = true then 0 else if (v.kind == 2) = true then memK es xs v
  else if (v.kind == 7) = true then 0 else if (v.kind == 8) = true then hideE es v (levR es xs v.author) else mightK es xs v (levR es xs v.author)
theorem ifE_code (b : Bool) : ifE b = 0 ∨ ifE b = 11 := by cases b <;> simp [ifE]
theorem own_code (es : List Em) (xs : List En) (v : Ev) (m : Int) : ownE es xs v m = 0 ∨ ownE es xs v m = 11 := by
  unfold ownE
  split
  · exact ifE_code _
  · split
    · exact ifE_code _
    · exact .inr rfl
theorem other_code (n t l pl : Int) : otherP n t l pl = 0 ∨ otherP n t l pl = 11 := by
  unfold otherP
  split
  · exact ifE_code _
  · split
    · exact ifE_code _
    · split
      · exact ifE_code _
      · exact .inr rfl
theorem rule_code (es : List Em) (xs : List En) (v : Ev) : ruleE es xs v = 0 ∨ ruleE es xs v = 6 ∨ ruleE es xs v = 11 := by
  have up : ∀ {k : Int}, k = 0 ∨ k = 11 → k = 0 ∨ k = 6 ∨ k = 11 := fun h => h.elim .inl (fun h => .inr (.inr h))
  unfold ruleE
  split
  · exact .inl rfl
  · split
    · unfold memK
      split
      · exact up (own_code _ _ _ _)
      · exact up (other_code _ _ _ _)
    · split
      · exact .inl rfl
      · split
        · unfold hideE
          split
          · exact up (ifE_code _)
          · exact .inr (.inl rfl)
        · unfold mightK
          split
          · exact up (ifE_code _)
          · exact up (ifE_code _)
theorem all_code (es : List Em) (xs : List En) (v : Ev) : allE es xs v = 0 ∨ allE es xs v = 7 ∨ allE es xs v = 10 ∨ allE es xs v = 11 := by
  unfold allE
  split
  · split
    · exact .inr (.inl rfl)
    · exact .inl rfl
  · split
    · split
      · exact .inl rfl
      · split
        · exact .inl rfl
        · exact .inr (.inr (.inr rfl))
    · exact .inr (.inr (.inl rfl))
/-- Both together. -/
theorem alw_parts (es : List Em) (xs : List En) (v : Ev) (hk : v.kind = 1 ∨ v.kind = 2 ∨ v.kind = 3 ∨ v.kind = 4 ∨ v.kind = 5 ∨ v.kind = 6 ∨ v.kind = 7 ∨ v.kind = 8) :
    alwE es xs v = if allE es xs v = 0 then ruleE es xs v else allE es xs v := by
  cases hz : decide (0 < stAt xs 1 0)
  · cases h1 : (v.kind == 1)
    · simp only [alwE, allE, hz, h1, Bool.false_eq_true, if_false]
      rfl
    · simp only [alwE, allE, ruleE, hz, h1, Bool.false_eq_true, if_false, if_true]
  · cases h1 : (v.kind == 1)
    · cases hs : selfB v
      · have hs' : (v.kind == 2 && v.key == v.author) = false := hs
        cases hm : (memR es xs v.author == 1)
        · have hm' : (memR es xs v.author != 1) = true := by simp only [bne, hm]; rfl
          simp only [alwE, allE, hz, h1, hs, hs', hm, hm', Bool.false_eq_true, if_false, if_true]
          rfl
        · have hm' : (memR es xs v.author != 1) = false := by simp only [bne, hm]; rfl
          simp only [alwE, allE, ruleE, hz, h1, hs, hs', hm, hm', Bool.false_eq_true, if_false, if_true, kindE, memK]
          rcases hk with h | h | h | h | h | h | h | h
          · rw [h] at h1
            exact absurd h1 (by decide)
          all_goals simp [h, mightK]
      · have hs' : (v.kind == 2 && v.key == v.author) = true := hs
        have h2 : (v.kind == 2) = true := by
          rw [Bool.and_eq_true] at hs'
          exact hs'.1
        simp only [alwE, allE, ruleE, hz, h1, h2, hs, Bool.true_and, Bool.false_eq_true, if_false, if_true, memK]
        rw [h2, Bool.true_and] at hs'
        simp only [hs', if_true]
    · simp only [alwE, allE, hz, h1, if_true]
      rfl
theorem kind_of {v : Ev} (h : rightB v = true) : v.kind = 1 ∨ v.kind = 2 ∨ v.kind = 3 ∨ v.kind = 4 ∨ v.kind = 5 ∨ v.kind = 6 ∨ v.kind = 7 ∨ v.kind = 8 := by
  have hb : bodyB v = true := by
    unfold rightB at h
    simp only [Bool.and_eq_true] at h
    exact h.2
  unfold bodyB at hb
  by_cases h1 : v.kind = 1
  · simp [h1]
  by_cases h2 : v.kind = 2
  · simp [h2]
  by_cases h3 : v.kind = 3
  · simp [h3]
  by_cases h4 : v.kind = 4
  · simp [h4]
  by_cases h5 : v.kind = 5
  · simp [h5]
  by_cases h6 : v.kind = 6
  · simp [h6]
  by_cases h7 : v.kind = 7
  · simp [h7]
  by_cases h8 : v.kind = 8
  · simp [h8]
  simp [h1, h2, h3, h4, h5, h6, h7, h8] at hb
theorem author_of {v : Ev} (h : rightB v = true) : 1 ≤ v.author ∧ v.author ≤ 6 := by
  unfold rightB headB at h
  simp only [Bool.and_eq_true] at h
  exact isB_yes h.1.1.1.2
theorem key_of {v : Ev} (h : rightB v = true) : 0 ≤ v.key ∧ v.key ≤ 1000000 := by
  have hk := kind_of h
  have hb : bodyB v = true := by
    unfold rightB at h
    simp only [Bool.and_eq_true] at h
    exact h.2
  have hz : ∀ {b : Bool}, (v.key == 0 && b) = true → 0 ≤ v.key ∧ v.key ≤ 1000000 := fun h => by
    rw [Bool.and_eq_true, beq_iff_eq] at h
    omega
  have hu : ∀ {b : Bool} {n : Int}, n ≤ 1000000 → (isB v.key 1 n && b) = true → 0 ≤ v.key ∧ v.key ≤ 1000000 := fun hn h => by
    rw [Bool.and_eq_true] at h
    have := isB_yes h.1
    omega
  unfold bodyB at hb
  rcases hk with h | h | h | h | h | h | h | h
  all_goals simp only [h, if_true, if_false, Bool.and_assoc, show ¬ ((2 : Int) = 1) by decide, show ¬ ((3 : Int) = 1) by decide, show ¬ ((3 : Int) = 2) by decide, show ¬ ((4 : Int) = 1) by decide, show ¬ ((4 : Int) = 2) by decide, show ¬ ((4 : Int) = 3) by decide, show ¬ ((5 : Int) = 1) by decide, show ¬ ((5 : Int) = 2) by decide, show ¬ ((5 : Int) = 3) by decide, show ¬ ((5 : Int) = 4) by decide, show ¬ ((6 : Int) = 1) by decide, show ¬ ((6 : Int) = 2) by decide, show ¬ ((6 : Int) = 3) by decide, show ¬ ((6 : Int) = 4) by decide, show ¬ ((6 : Int) = 5) by decide, show ¬ ((7 : Int) = 1) by decide, show ¬ ((7 : Int) = 2) by decide, show ¬ ((7 : Int) = 3) by decide, show ¬ ((7 : Int) = 4) by decide, show ¬ ((7 : Int) = 5) by decide, show ¬ ((7 : Int) = 6) by decide, show ¬ ((8 : Int) = 1) by decide, show ¬ ((8 : Int) = 2) by decide, show ¬ ((8 : Int) = 3) by decide, show ¬ ((8 : Int) = 4) by decide, show ¬ ((8 : Int) = 5) by decide, show ¬ ((8 : Int) = 6) by decide, show ¬ ((8 : Int) = 7) by decide] at hb
  all_goals first | exact hz hb | exact hu (by decide) hb
end Go.Proofs.YteajcmkaoahbeaaGreatDoor
