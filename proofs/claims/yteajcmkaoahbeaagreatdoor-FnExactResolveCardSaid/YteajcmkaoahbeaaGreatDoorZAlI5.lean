/- What keeps an event from happening, wrapped; and its code. -/
import Derived.Test.YteajcmkaoahbeaaGreatDoorZAlI4
import Derived.Test.YteajcmkaoahbeaaGreatDoorZAlIs
namespace Go.Proofs.YteajcmkaoahbeaaGreatDoor
open Go.RowKit

/-- A function of the program's own is entered, whatever its number. -/
theorem entF {f : FuncId} {fn : Func} (hf : Tryz.prog.funcs[f]? = some fn) (hname : (fn.name == "runtime.NumGoroutine") = false) (hb : fn.body.isNone = false) (args : Array Value) (w : World) : Sem.run Tryz.prog (callFunc f args) w = Result.ok (Next.enter f args) w := by
  have h1 : fn.name ≠ "runtime.NumGoroutine" := by simpa using hname
  obtain ⟨c, hc⟩ : ∃ c, fn.body = some c := by
    cases h : fn.body with
    | none => rw [h] at hb; cases hb
    | some c => exact ⟨c, rfl⟩
  simp [callFunc, hf, h1, hc, mark]
theorem errV_7 (E : Errs) : errV E 7 = .iface 321 (.pointer (some E.b)) := rfl
theorem errV_10 (E : Errs) : errV E 10 = .iface 321 (.pointer (some E.n)) := rfl
theorem errV_6 (E : Errs) : errV E 6 = .iface 321 (.pointer (some E.x)) := rfl
theorem errV_11 (E : Errs) : errV E 11 = .iface 321 (.pointer (some E.d)) := rfl
theorem errV_0 (E : Errs) : errV E 0 = .nilIface := rfl
/-- A hindrance of a code lies at b. -/
def HinAt (E : Errs) (id k : Int) (b : Nat) (W : World) : Prop := W.heap[b]? = some (.cells #[.int .i64 id, errV E k] 190 (0, 0))
/-- What hinders hands back: nothing at 0, else a new hindrance. -/
def HinPost (E : Errs) (id k : Int) (w : World) (e : Ending) (w' : World) : Prop :=
  (k = 0 ∧ e = .returned .nilIface ∧ Below w.heap.size w w') ∨ (k ≠ 0 ∧ ∃ b, w.heap.size ≤ b ∧ e = .returned (.iface 188 (.pointer (some ⟨b, 0, none⟩))) ∧ HinAt E id k b w' ∧ Below w.heap.size w w')
/-- An error that is there, and its wrapping. -/
theorem errV_is {E : Errs} {k : Int} (h : k = 6 ∨ k = 7 ∨ k = 10 ∨ k = 11) : ∃ a, errV E k = .iface 321 (.pointer (some a)) := by
  rcases h with rfl | rfl | rfl | rfl
  · exact ⟨_, rfl⟩
  · exact ⟨_, rfl⟩
  · exact ⟨_, rfl⟩
  · exact ⟨_, rfl⟩
set_option maxHeartbeats 16000000 in
set_option maxRecDepth 100000 in
theorem hinders_impl (g : Gr) (xs : List En) (E : Errs) (be bs : Nat) (v : Ev) (q : Option Addr) (c : Nat) (w : World) (h : ScAt w g xs be bs) (hs : Sc g xs) (hE : LE E w) (hr : rightB v = true) :
    Calls Tryz.prog 81 #[.agg #[.map (some be), .map (some bs)], .agg #[.int .i64 v.id, .int .i64 v.room, .int .i64 v.author, .int .i64 v.kind, .int .i64 v.key, .int .i64 v.n, .string v.text, .slice q v.prev.length c, .int .i64 v.time]] w (HinPost E v.id (alwE g.evs xs v) w) := by
  have hwa : (Lit.int .i64 v.author).wf = true := wf_small ⟨by have := author_of hr; omega, by have := author_of hr; omega⟩
  have hki : -9223372036854775808 ≤ v.key ∧ v.key ≤ 9223372036854775807 := ⟨by have := key_of hr; omega, by have := key_of hr; omega⟩
  have hwk : (Lit.int .i64 v.key).wf = true := WalkArith.wf_i64 hki
  have HA0 : Hid (IB w E be bs v q c ((w.alloc (.cells #[.map (some be), .map (some bs)] 132)).alloc (.cells #[.int .i64 v.id, .int .i64 v.room, .int .i64 v.author, .int .i64 v.kind, .int .i64 v.key, .int .i64 v.n, .string v.text, .slice q v.prev.length c, .int .i64 v.time] 114))) := IB.start w E hE be bs v q c
  have HAL := fun W (hW : Below w.heap.size w W) => hindersAll_impl g xs E be bs v q c W (h.kept hW) hs (hE.kept hW) hwa
  have HRULE : Hid (∃ fn, (∀ args W', Sem.run Tryz.prog (callFunc fn args) W' = Result.ok (Next.enter fn args) W') ∧ (∀ W', Calls Tryz.prog 123 #[.int .i64 v.kind] W' fun e w' => e = .returned (.func (.func fn) #[] #[]) ∧ Below W'.heap.size W' w') ∧ (∀ W, Below w.heap.size w W → Calls Tryz.prog fn #[.agg #[.map (some be), .map (some bs)], .agg #[.int .i64 v.id, .int .i64 v.room, .int .i64 v.author, .int .i64 v.kind, .int .i64 v.key, .int .i64 v.n, .string v.text, .slice q v.prev.length c, .int .i64 v.time]] W fun e w' => e = .returned (errV E (ruleE g.evs xs v)) ∧ Below W.heap.size W w')) := by
    have hM : ∀ W, Below w.heap.size w W → (v.kind == 3 || v.kind == 4 || v.kind == 5 || v.kind == 6) = true → Calls Tryz.prog 161 #[.agg #[.map (some be), .map (some bs)], .agg #[.int .i64 v.id, .int .i64 v.room, .int .i64 v.author, .int .i64 v.kind, .int .i64 v.key, .int .i64 v.n, .string v.text, .slice q v.prev.length c, .int .i64 v.time]] W fun e w' => e = .returned (errV E (mightK g.evs xs v (levR g.evs xs v.author))) ∧ Below W.heap.size W w' := fun W hW hk => asksOfMight_impl g xs E be bs v q c W (h.kept hW) hs (hE.kept hW) hwa hwk hk
    rcases kind_of hr with e | e | e | e | e | e | e | e
    · have hR : ruleE g.evs xs v = 0 := by simp [ruleE, e]
      refine ⟨159, entF Tryz.func159 (by kernel_rfl) (by kernel_rfl), fun W => by rw [e]; exact rule1_impl W, fun W hW => ?_⟩
      rw [hR]
      exact asksNothing_impl E be bs v q c W
    · have hR : ruleE g.evs xs v = memK g.evs xs v := by simp [ruleE, e]
      refine ⟨160, entF Tryz.func160 (by kernel_rfl) (by kernel_rfl), fun W => by rw [e]; exact rule2_impl W, fun W hW => ?_⟩
      rw [hR]
      exact asksOfMember_impl g xs E be bs v q c W (h.kept hW) hs (hE.kept hW) hwa hwk
    · have hR : ruleE g.evs xs v = mightK g.evs xs v (levR g.evs xs v.author) := by simp [ruleE, e]
      refine ⟨161, entF Tryz.func161 (by kernel_rfl) (by kernel_rfl), fun W => by rw [e]; exact rule3_impl W, fun W hW => ?_⟩
      rw [hR]
      exact hM W hW (by simp [e])
    · have hR : ruleE g.evs xs v = mightK g.evs xs v (levR g.evs xs v.author) := by simp [ruleE, e]
      refine ⟨161, entF Tryz.func161 (by kernel_rfl) (by kernel_rfl), fun W => by rw [e]; exact rule4_impl W, fun W hW => ?_⟩
      rw [hR]
      exact hM W hW (by simp [e])
    · have hR : ruleE g.evs xs v = mightK g.evs xs v (levR g.evs xs v.author) := by simp [ruleE, e]
      refine ⟨161, entF Tryz.func161 (by kernel_rfl) (by kernel_rfl), fun W => by rw [e]; exact rule5_impl W, fun W hW => ?_⟩
      rw [hR]
      exact hM W hW (by simp [e])
    · have hR : ruleE g.evs xs v = mightK g.evs xs v (levR g.evs xs v.author) := by simp [ruleE, e]
      refine ⟨161, entF Tryz.func161 (by kernel_rfl) (by kernel_rfl), fun W => by rw [e]; exact rule6_impl W, fun W hW => ?_⟩
      rw [hR]
      exact hM W hW (by simp [e])
    · have hR : ruleE g.evs xs v = 0 := by simp [ruleE, e]
      refine ⟨159, entF Tryz.func159 (by kernel_rfl) (by kernel_rfl), fun W => by rw [e]; exact rule7_impl W, fun W hW => ?_⟩
      rw [hR]
      exact asksNothing_impl E be bs v q c W
    · have hR : ruleE g.evs xs v = hideE g.evs v (levR g.evs xs v.author) := by simp [ruleE, e]
      refine ⟨162, entF Tryz.func162 (by kernel_rfl) (by kernel_rfl), fun W => by rw [e]; exact rule8_impl W, fun W hW => ?_⟩
      rw [hR]
      exact asksOfHiding_impl g xs E be bs v q c W (h.kept hW) hs (hE.kept hW) hwa hki
  have HALW : Hid (alwE g.evs xs v = if allE g.evs xs v = 0 then ruleE g.evs xs v else allE g.evs xs v) := alw_parts _ _ _ (kind_of hr)
  have HAC : Hid (allE g.evs xs v = 0 ∨ allE g.evs xs v = 7 ∨ allE g.evs xs v = 10 ∨ allE g.evs xs v = 11) := all_code _ _ _
  have HRC : Hid (ruleE g.evs xs v = 0 ∨ ruleE g.evs xs v = 6 ∨ ruleE g.evs xs v = 11) := rule_code _ _ _
  obtain ⟨k1, HK1⟩ : ∃ u, Hid (u = allE g.evs xs v) := ⟨allE g.evs xs v, (rfl : allE g.evs xs v = _)⟩
  obtain ⟨k2, HK2⟩ : ∃ u, Hid (u = ruleE g.evs xs v) := ⟨ruleE g.evs xs v, (rfl : ruleE g.evs xs v = _)⟩
  obtain ⟨R, HR⟩ : ∃ u, Hid (u = alwE g.evs xs v) := ⟨alwE g.evs xs v, (rfl : alwE g.evs xs v = _)⟩
  rw [← HR.out]
  rw [← HR.out, ← HK1.out, ← HK2.out] at HALW
  rw [← HK1.out] at HAC HAL
  rw [← HK2.out] at HRC HRULE
  obtain ⟨m1, m2, m3, m4, m5, m6⟩ := HA0.out.cells
  clear h hs hE hr hwa hwk hki HR HK1 HK2
  by_cases h0 : k1 = 0
  · subst h0
    have HRR : Hid (R = k2) := by unfold Hid; rw [HALW.out, if_pos rfl]
    obtain ⟨fn, hent, hfn, hrule⟩ := HRULE.out
    clear HALW HRULE HAC
    go_enter Tryz.func81, Tryz.ntmps81
    go_wp2_with fail
    refine (HAL _ HA0.out.below).mono ?_
    rw [errV_0]
    rintro e w1 ⟨rfl, hb1⟩
    have HA1 : Hid (IB w E be bs v q c w1) := HA0.out.on hb1
    clear hb1 HA0 HAL m1 m2 m3 m4 m5 m6
    obtain ⟨m1, m2, m3, m4, m5, m6⟩ := HA1.out.cells
    go_wp2
    clear m1 m2 m3 m4 m5 m6
    go_cut [5] (fun r W => r = errV E k2 ∧ Hid (IB w E be bs v q c W))
    case first =>
      refine wp_region_held_drew (S := (fun W => (∀ k, W.cell? ⟨w.heap.size, k, none⟩ = #[.map (some be), .map (some bs)][k]?) ∧ (∀ k, W.cell? ⟨w.heap.size + 1, k, none⟩ = #[.int .i64 v.id, .int .i64 v.room, .int .i64 v.author, .int .i64 v.kind, .int .i64 v.key, .int .i64 v.n, .string v.text, .slice q v.prev.length c, .int .i64 v.time][k]?))) (by kernel_rfl) ⟨(IB.cells HA1.out.drew).1, (IB.cells HA1.out.drew).2.1⟩ (fun hHeld => ?_)
      refine wpAnyH_take (i := 0) (v := (.pointer (some ⟨w.heap.size + 1, 3, none⟩))) rfl (by kernel_rfl) (by kernel_rfl) (by kernel_rfl) (fun _ _ _ h => h) (Or.inl ⟨by kernel_rfl, ?_⟩) hHeld ?_
      · intro W hW
        go_simp
      refine wpAnyH_take (i := 1) (v := (.int .i64 v.kind)) rfl (by kernel_rfl) (by kernel_rfl) (by kernel_rfl) (fun _ _ _ h => h) (Or.inl ⟨by kernel_rfl, ?_⟩) hHeld ?_
      · intro W hW
        obtain ⟨f1, f2⟩ := hW
        go_simp
      refine wpAnyH_take (i := 3) (v := (.agg #[.map (some be), .map (some bs)])) rfl (by kernel_rfl) (by kernel_rfl) (by kernel_rfl) (fun _ _ _ h => h) (Or.inl ⟨by kernel_rfl, ?_⟩) hHeld ?_
      · intro W hW
        obtain ⟨f1, f2⟩ := hW
        go_simp
      refine wpAnyH_take (i := 4) (v := (.agg #[.int .i64 v.id, .int .i64 v.room, .int .i64 v.author, .int .i64 v.kind, .int .i64 v.key, .int .i64 v.n, .string v.text, .slice q v.prev.length c, .int .i64 v.time])) rfl (by kernel_rfl) (by kernel_rfl) (by kernel_rfl) (fun _ _ _ h => h) (Or.inl ⟨by kernel_rfl, ?_⟩) hHeld ?_
      · intro W hW
        obtain ⟨f1, f2⟩ := hW
        go_simp
      refine wpAnyH_ready (rs := [2]) (by kernel_rfl) (by simp) ?_
      refine AllReadyH.cons rfl (fun K hK => ?_) AllReadyH.nil
      go_simp
      refine (hfn _).mono ?_
      rintro e w2 ⟨rfl, hb2⟩
      have HA2 : Hid (IB w E be bs v q c w2) := HA1.out.drew.on hb2
      clear hb2
      refine hK.out _ _ ⟨(IB.cells HA2.out).1, (IB.cells HA2.out).2.1⟩ (fun hH2 => ?_)
      clear hK K
      refine wpAnyH_ready (rs := [5]) (by kernel_rfl) (by simp) ?_
      refine AllReadyH.cons rfl (fun K hK => ?_) AllReadyH.nil
      go_simp
      refine (hrule _ HA2.out.below).mono ?_
      rintro e w3 ⟨rfl, hb3⟩
      have HA3 : Hid (IB w E be bs v q c w3) := HA2.out.on hb3
      clear hb3
      refine hK.out _ _ ⟨(IB.cells HA3.out).1, (IB.cells HA3.out).2.1⟩ (fun hH3 => ?_)
      clear hK K
      refine wpAnyH_ready (rs := [6]) (by kernel_rfl) (by simp) ?_
      refine AllReadyH.cons rfl (fun K hK => ?_) AllReadyH.nil
      go_simp
      refine hK.out _ _ ⟨(IB.cells HA3.out).1, (IB.cells HA3.out).2.1⟩ (fun hH4 => ?_)
      clear hK K
      refine wpAnyH_done (by kernel_rfl) ?_ _
      go_wp2
      go_meet
      case rel => exact ⟨rfl, HA3⟩
    case rest =>
      clear HA1 hent hfn hrule
      obtain ⟨rfl, HA⟩ := hcut
      obtain ⟨m1, m2, m3, m4, m5, m6⟩ := HA.out.cells
      by_cases h2 : k2 = 0
      · subst h2
        rw [errV_0]
        go_wp2
        go_ret
        exact .inl ⟨HRR.out, rfl, HA.out.below⟩
      · have hc : k2 = 6 ∨ k2 = 7 ∨ k2 = 10 ∨ k2 = 11 := by
          rcases HRC.out with h | h | h
          · exact absurd h h2
          · exact .inl h
          · exact .inr (.inr (.inr h))
        obtain ⟨ad, had⟩ := errV_is (E := E) hc
        have HAD : Hid (errV E k2 = .iface 321 (.pointer (some ad))) := had
        have HNE : Hid (k2 ≠ 0) := h2
        rw [had]
        clear h2 hc had
        go_wp2
        go_ret
        refine .inr ⟨by rw [HRR.out]; exact HNE.out, _, HA.out.below.size, rfl, ?_, HA.out.below.alloc HA.out.below.size _⟩
        unfold HinAt
        rw [HRR.out, HAD.out]
        exact (MapKept.heap_alloc _ _).1
  · have HRR : Hid (R = k1) := by unfold Hid; rw [HALW.out, if_neg h0]
    have hc : k1 = 6 ∨ k1 = 7 ∨ k1 = 10 ∨ k1 = 11 := by
      rcases HAC.out with h | h | h | h
      · exact absurd h h0
      · exact .inr (.inl h)
      · exact .inr (.inr (.inl h))
      · exact .inr (.inr (.inr h))
    obtain ⟨ad, had⟩ := errV_is (E := E) hc
    have HAD : Hid (errV E k1 = .iface 321 (.pointer (some ad))) := had
    have HNE : Hid (k1 ≠ 0) := h0
    rw [had] at HAL
    clear HALW HRULE HAC HRC h0 hc had
    go_enter Tryz.func81, Tryz.ntmps81
    go_wp2_with fail
    refine (HAL _ HA0.out.below).mono ?_
    rintro e w1 ⟨rfl, hb1⟩
    have HA : Hid (IB w E be bs v q c w1) := HA0.out.on hb1
    clear hb1 HA0 HAL m1 m2 m3 m4 m5 m6
    obtain ⟨m1, m2, m3, m4, m5, m6⟩ := HA.out.cells
    go_wp2
    go_ret
    refine .inr ⟨by rw [HRR.out]; exact HNE.out, _, HA.out.below.size, rfl, ?_, HA.out.below.alloc HA.out.below.size _⟩
    unfold HinAt
    rw [HRR.out, HAD.out]
    exact (MapKept.heap_alloc _ _).1
set_option maxHeartbeats 4000000 in
set_option maxRecDepth 100000 in
theorem code_nil (E : Errs) (w : World) (hE : LE E w) : Calls Tryz.prog 54 #[.nilIface] w fun e w' => e = .returned (.int .i64 0) ∧ w' = w := by
  have g1 := hE.cb
  have g2 := hE.cn
  have g3 := hE.cx
  have g4 := hE.cd
  clear hE
  go_enter Tryz.func54, Tryz.ntmps54
  go_wp2_with fail
  refine (is_nil E.b _).mono ?_
  rintro e w' ⟨rfl, rfl⟩
  go_wp2_with fail
  refine (is_nil E.n _).mono ?_
  rintro e w' ⟨rfl, rfl⟩
  go_wp2_with fail
  refine (is_nil E.x _).mono ?_
  rintro e w' ⟨rfl, rfl⟩
  go_wp2_with fail
  refine (is_nil E.d _).mono ?_
  rintro e w' ⟨rfl, rfl⟩
  go_wp2
  go_ret
  exact ⟨rfl, rfl⟩
set_option maxHeartbeats 4000000 in
set_option maxRecDepth 100000 in
theorem code_7 (E : Errs) (id : Int) (pb : Nat) (w : World) (hE : LE E w) (hh : HinAt E id 7 pb w) : Calls Tryz.prog 54 #[.iface 188 (.pointer (some ⟨pb, 0, none⟩))] w fun e w' => e = .returned (.int .i64 7) ∧ w' = w := by
  have hc : w.cell? ⟨pb, 1, none⟩ = some (.iface 321 (.pointer (some E.b))) := cell_of_heap hh
  have HS := is_hin_same pb E.b w hc
  have g1 := hE.cb
  have g2 := hE.cn
  have g3 := hE.cx
  have g4 := hE.cd
  clear hE hh hc
  go_enter Tryz.func54, Tryz.ntmps54
  go_wp2_with fail
  refine HS.mono ?_
  rintro e w' ⟨rfl, rfl⟩
  go_wp2
  go_ret
  exact ⟨rfl, rfl⟩
set_option maxHeartbeats 4000000 in
set_option maxRecDepth 100000 in
theorem code_10 (E : Errs) (id : Int) (pb : Nat) (w : World) (hE : LE E w) (hh : HinAt E id 10 pb w) : Calls Tryz.prog 54 #[.iface 188 (.pointer (some ⟨pb, 0, none⟩))] w fun e w' => e = .returned (.int .i64 10) ∧ w' = w := by
  have hc : w.cell? ⟨pb, 1, none⟩ = some (.iface 321 (.pointer (some E.n))) := cell_of_heap hh
  have HS := is_hin_same pb E.n w hc
  have HOb := is_hin_other pb E.b E.n w hc (Ne.symm hE.bn) hE.on hE.ob
  have g1 := hE.cb
  have g2 := hE.cn
  have g3 := hE.cx
  have g4 := hE.cd
  clear hE hh hc
  go_enter Tryz.func54, Tryz.ntmps54
  go_wp2_with fail
  refine HOb.mono ?_
  rintro e w' ⟨rfl, rfl⟩
  go_wp2_with fail
  refine HS.mono ?_
  rintro e w' ⟨rfl, rfl⟩
  go_wp2
  go_ret
  exact ⟨rfl, rfl⟩
set_option maxHeartbeats 4000000 in
set_option maxRecDepth 100000 in
theorem code_6 (E : Errs) (id : Int) (pb : Nat) (w : World) (hE : LE E w) (hh : HinAt E id 6 pb w) : Calls Tryz.prog 54 #[.iface 188 (.pointer (some ⟨pb, 0, none⟩))] w fun e w' => e = .returned (.int .i64 6) ∧ w' = w := by
  have hc : w.cell? ⟨pb, 1, none⟩ = some (.iface 321 (.pointer (some E.x))) := cell_of_heap hh
  have HS := is_hin_same pb E.x w hc
  have HOb := is_hin_other pb E.b E.x w hc (Ne.symm hE.bx) hE.ox hE.ob
  have HOn := is_hin_other pb E.n E.x w hc (Ne.symm hE.nx) hE.ox hE.on
  have g1 := hE.cb
  have g2 := hE.cn
  have g3 := hE.cx
  have g4 := hE.cd
  clear hE hh hc
  go_enter Tryz.func54, Tryz.ntmps54
  go_wp2_with fail
  refine HOb.mono ?_
  rintro e w' ⟨rfl, rfl⟩
  go_wp2_with fail
  refine HOn.mono ?_
  rintro e w' ⟨rfl, rfl⟩
  go_wp2_with fail
  refine HS.mono ?_
  rintro e w' ⟨rfl, rfl⟩
  go_wp2
  go_ret
  exact ⟨rfl, rfl⟩
set_option maxHeartbeats 4000000 in
set_option maxRecDepth 100000 in
theorem code_11 (E : Errs) (id : Int) (pb : Nat) (w : World) (hE : LE E w) (hh : HinAt E id 11 pb w) : Calls Tryz.prog 54 #[.iface 188 (.pointer (some ⟨pb, 0, none⟩))] w fun e w' => e = .returned (.int .i64 11) ∧ w' = w := by
  have hc : w.cell? ⟨pb, 1, none⟩ = some (.iface 321 (.pointer (some E.d))) := cell_of_heap hh
  have HS := is_hin_same pb E.d w hc
  have HOb := is_hin_other pb E.b E.d w hc (Ne.symm hE.bd) hE.od hE.ob
  have HOn := is_hin_other pb E.n E.d w hc (Ne.symm hE.nd) hE.od hE.on
  have HOx := is_hin_other pb E.x E.d w hc (Ne.symm hE.xd) hE.od hE.ox
  have g1 := hE.cb
  have g2 := hE.cn
  have g3 := hE.cx
  have g4 := hE.cd
  clear hE hh hc
  go_enter Tryz.func54, Tryz.ntmps54
  go_wp2_with fail
  refine HOb.mono ?_
  rintro e w' ⟨rfl, rfl⟩
  go_wp2_with fail
  refine HOn.mono ?_
  rintro e w' ⟨rfl, rfl⟩
  go_wp2_with fail
  refine HOx.mono ?_
  rintro e w' ⟨rfl, rfl⟩
  go_wp2_with fail
  refine HS.mono ?_
  rintro e w' ⟨rfl, rfl⟩
  go_wp2
  go_ret
  exact ⟨rfl, rfl⟩
end Go.Proofs.YteajcmkaoahbeaaGreatDoor
