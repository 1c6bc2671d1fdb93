/- Resolve: the program and the specification answer the same, for every graph and every row of states; what is handed back owns its memory. -/
import Derived.Test.YteajcmkaoahbeaaGreatDoorZRsWalk
import Derived.Test.YteajcmkaoahbeaaGreatDoorZAlIs
import Derived.Test.YteajcmkaoahbeaaGreatDoorZRsOpen
import Derived.Test.YteajcmkaoahbeaaGreatDoorZGrOpen
import Derived.Test.YteajcmkaoahbeaaGreatDoorTie
import Derived.Test.YteajcmkaoahbeaaGreatDoorCards
import Derived.WalkKit
import Derived.ProofKit
import Derived.OpenShut
import Derived.ShutString
import Derived.ChangeOld
import Derived.Below
import Derived.ChangeSame
import Derived.ChangeVars
import Derived.OpenVars
import Derived.JoinedOf
import Derived.RowKitTokens
import Derived.LaidLaws
import Derived.LaidMore
import Derived.LaidHandle
import Derived.Stop.Joined
import Derived.Stop.LaidErr
import Derived.SevenTiedAt
namespace Go.Proofs.YteajcmkaoahbeaaGreatDoor
open Go.ChangeShapes Go.WideShapes Go.ChangeAt Go.RowKit
open Go.ChangeMaps (open_string shut_string)
set_option linter.unusedVariables false

theorem fnExactResolve_own : ownKnob Tryz.prog.godebug = none := by kernel_rfl
theorem fnExactResolve_laidOut : laidOutB Tryz.prog = true := by kernel_rfl
theorem fnExactResolve_len {H : Type} {enc : TypeId × Value → H} {P : Program} {W : World} {sp : Nat → Bool} : ∀ {ns : List String} {gs : List (DataW H)} {ps : List MemPlace}, DataW.TrodVars enc P W sp ns gs ps → gs.length = ns.length
  | [], [], _, _ => rfl
  | [], _ :: _, _, h => h.elim
  | _ :: _, [], _, h => h.elim
  | _ :: _, _ :: _, _, h => by
    obtain ⟨_, _, _, _, _, _, _, _, _, _, hs, _⟩ := h
    simp [fnExactResolve_len hs]
theorem fnExactResolve_row {α : Type} : ∀ {l : List α}, l.length = 4 → ∃ z0 z1 z2 z3, l = [z0, z1, z2, z3]
  | [z0, z1, z2, z3], _ => ⟨z0, z1, z2, z3, rfl⟩
  | [], h => by simp at h
  | [_], h => by simp at h
  | [_, _], h => by simp at h
  | [_, _, _], h => by simp at h
  | _ :: _ :: _ :: _ :: _ :: _, h => by simp at h
theorem fnExactResolve_met (os : Os) (args : Array Value) : laidMetH Tryz.prog Rows.fnExactResolveRow.laid ((World.doorLaid Tryz.prog 85 os).forCall (fun _ _ => 0) ⟨#[], args, []⟩).memory :=
  laidMetH_of_parts3 (fuel := 8) (laidMet_of_run' 8 (by kernel_rfl) (by kernel_rfl)) (by kernel_rfl) (by kernel_rfl)

set_option maxRecDepth 100000 in
theorem fnExactResolve_lifted (os : Os) (started : os.Started) (H : Type) (enc : TypeId × Value → H) :
    ReturnsInHanded {} Tryz.checked os 3 .any (fun w args => (Rows.fnExactResolveSpec.pre enc Tryz.prog Tryz.f3 [] false w args ∧ laidMetH Tryz.prog Rows.fnExactResolveRow.laid w) ∧ sizedMet enc Tryz.prog Tryz.f3 (OpenSpec.ofChange Rows.fnExactResolveSpec) false w args)
      (Rows.fnExactResolveSpec.post enc Tryz.prog Tryz.f3 false true false false) := by
  refine returnsInHanded_of_change_and (C := Tryz.checked) (X := fun w _ => laidMetH Tryz.prog Rows.fnExactResolveRow.laid w) (fun _ _ _ hh h => h.of_heap hh) fnExactResolve_own started (by kernel_rfl) Tryz.func3
    (ChangeSpec.witness_shaped (enc := enc) (C := Tryz.checked) (os := os) (X := fun w _ => laidMetH Tryz.prog Rows.fnExactResolveRow.laid w) false (World.doorLaid Tryz.prog 85 os) #[.agg #[.int .i64 0, .slice none 0 0, .slice none 0 0], .slice none 0 0] 8 rfl (World.shaped_of_RefB (by kernel_rfl) (by kernel_rfl)) (by kernel_rfl) (by kernel_rfl) (by kernel_rfl) (fnExactResolve_met os _)) ?_
  intro W base args ds gs before hval0 hW _ _ hL0 _
  have hL : laidMet Tryz.prog Rows.fnExactResolveRow.laid W := (MakeChecks.laidMetH_plain _ _ _ (by kernel_rfl)).mp hL0
  have hval : ∀ (j : Nat) t v, Tryz.f3.params[j]? = some t → args[j]? = some v → Value.okWide Tryz.prog W .any base t v := hval0
  have hW' := hW
  obtain ⟨p, q, hA0, hV0, rfl, hfz, hnd⟩ := hW
  have hA : DataW.TrodAll enc Tryz.prog W 0 (fun _ => true) true Tryz.f3.params.toList args.toList ds p := hA0
  rw [Tryz.params3] at hA hval
  obtain ⟨v0, vs0, d0, ds0, p0, q0, hargs, rfl, rfl, h0, r0⟩ := trodAll_cons hA
  obtain ⟨v1, vs1, d1, ds1, p1, q1, rfl, rfl, rfl, h1, r1⟩ := trodAll_cons r0
  obtain ⟨rfl, rfl, rfl⟩ := trodAll_nil r1
  obtain rfl : args = #[v0, v1] := by cases args; simp_all
  have hV : DataW.TrodVars enc Tryz.prog W (fun _ => true) ["loop.example/g00683/impl.errBegun", "loop.example/g00683/impl.errNotBegun", "loop.example/g00683/impl.errDenied", "loop.example/g00683/impl.errNoEvent"] gs q := hV0
  obtain ⟨y0, y1, y2, y3, rfl⟩ : ∃ y0 y1 y2 y3, gs = [y0, y1, y2, y3] := fnExactResolve_row (fnExactResolve_len hV)
  have k0 := h0
  have lt0 : ∀ x ∈ p0, x.block < W.heap.size := by obtain ⟨m, hm⟩ := k0; exact DataW.trod_lt m _ _ _ hm
  obtain ⟨g0, a0, cap0, b0, cb0, rfl, hg0, hp0⟩ := open_graph (hval 0 24 v0 rfl rfl) h0
  have k1 := h1
  have lt1 : ∀ x ∈ p1, x.block < W.heap.size := by obtain ⟨m, hm⟩ := k1; exact DataW.trod_lt m _ _ _ hm
  obtain ⟨s1, a1, cap1, rfl, hs1⟩ := open_slists (hval 1 25 v1 rfl rfl) h1
  clear hA0 hval0
  refine (walk_fnExactResolve_gr g0 a0 cap0 b0 cb0 s1 a1 cap1 W hg0 hp0 hs1 (of_laid_list hL)).mono fun e W' ⟨he, bel⟩ => ?_
  subst he
  exact ⟨_, rfl, _, _, _, [], _, _, hW', trodAll_mk1 (shut_bool Tryz.underlying4 _), (trodAll_cons_mk (Below.trod fnExactResolve_laidOut (by kernel_rfl) (of_decide_eq_true (by kernel_rfl)) k0 bel lt0) (trodAll_cons_mk (Below.trod fnExactResolve_laidOut (by kernel_rfl) (of_decide_eq_true (by kernel_rfl)) k1 bel lt1) trodAll_mk0)), (Below.trodVars fnExactResolve_laidOut bel (by kernel_rfl) hV), bel.frame _, fun h => by cases h⟩

set_option maxHeartbeats 4000000 in
theorem fnExactResolve_closed : joinedFacts Tryz.pinned.checked.prog 3 Tryz.f3 Rows.fnExactResolveSpec Rows.fnExactResolveRow = true := by
  suffices h : ∀ P f fn s c, P = Tryz.pinned.checked.prog → f = 3 → fn = Tryz.f3 → s = Rows.fnExactResolveSpec → c = Rows.fnExactResolveRow → joinedFacts P f fn s c = true from h _ _ _ _ _ rfl rfl rfl rfl rfl
  intro P f fn s c hP hf hfn hs hc
  simp only [joinedFacts, Bool.and_eq_true]
  repeat' apply And.intro
  all_goals subst hP hf hfn hs hc
  all_goals as_aux_lemma => kernel_rfl
theorem fnExactResolve_over : Rows.FnExactResolveSaid :=
  OpenClaim.holds_of_wide 3 Tryz.f3 rfl rfl rfl rfl rfl rfl rfl ⟨rfl, rfl, rfl, rfl, rfl⟩ rfl rfl rfl rfl rfl (by kernel_rfl) Tryz.func3 fnExactResolve_closed
    (of_decide_eq_true (by kernel_rfl)) (by unfold Func.isWrapper; first | (rw [if_pos (by decide +kernel)]; kernel_rfl) | (rw [if_neg (by decide +kernel)]; exact ⟨rfl, rfl⟩))
    (fun os started H enc _ => fnExactResolve_lifted os started H enc)

theorem fnExactResolve_plain (f : FuncId) (fn : Func) (hf : Tryz.pinned.checked.prog.funcNamed Rows.fnExactResolveRow.func = some f) (hfn : Tryz.pinned.checked.prog.funcs[f]? = some fn) :
    true = Tryz.pinned.checked.prog.looks [] ∧ ∀ (j : Nat) t, fn.params[j]? = some t → Tryz.pinned.checked.prog.wantsStandIn t = false := by
  obtain rfl : f = 3 := Option.some.inj ((show Tryz.prog.funcNamed Rows.fnExactResolveRow.func = some 3 by kernel_rfl).symm.trans hf) |>.symm
  obtain rfl : fn = Tryz.f3 := (Option.some.inj (Tryz.func3.symm.trans hfn)).symm
  refine ⟨by kernel_rfl, fun j t ht => ?_⟩
  rw [Tryz.params3] at ht
  have hm : t ∈ ([24, 25] : List TypeId) := by simpa using Array.mem_of_getElem? ht
  have hall : (([24, 25] : List TypeId).all fun u => !Tryz.prog.wantsStandIn u) = true := by kernel_rfl
  exact (show Tryz.prog.wantsStandIn t = false by simpa using List.all_eq_true.1 hall t hm)

theorem fnExactResolve_holds : Rows.FnExactResolveCardSaid :=
  Claim7.holds_tied_plain_at .later [] [.sentinel, .sentinel, .sentinel, .sentinel] true (true, "75fc6460aa2d8bb0ee4eb032078812fc265564ae67ade7447c007aa9dbc03c0e") true fnExactResolve_over (fun _ h => by cases h) (by kernel_rfl) (fun _ h => by cases h) fnExactResolve_row_tie rfl ⟨rfl, rfl⟩ (by kernel_rfl) rfl fnExactResolve_plain (by kernel_rfl)
#print axioms fnExactResolve_holds
end Go.Proofs.YteajcmkaoahbeaaGreatDoor
