/- Allowed: both sides. -/
import Derived.Test.YtdldblfopcbfeaaGreatDoorZAlI5
import Derived.Test.YtdldblfopcbfeaaGreatDoorZAlSpec
import Derived.Test.YtdldblfopcbfeaaGreatDoorZRl6
import Derived.Test.YtdldblfopcbfeaaGreatDoorZEvRight0
namespace Go.Proofs.YtdldblfopcbfeaaGreatDoor
open Go.RowKit

def alwG (g : Gr) (xs : List En) (v : Ev) : Int := if (sceneB g xs && rightB v) = true then alwE g.evs xs v else 1
theorem alwG_yes {g : Gr} {xs : List En} {v : Ev} (h1 : sceneB g xs = true) (h2 : rightB v = true) : alwG g xs v = alwE g.evs xs v := if_pos (by rw [h1, h2]; rfl)
theorem alwG_no {g : Gr} {xs : List En} {v : Ev} (h : sceneB g xs = false) : alwG g xs v = 1 := if_neg (by rw [h]; simp)
theorem alwG_noe {g : Gr} {xs : List En} {v : Ev} (h : rightB v = false) : alwG g xs v = 1 := if_neg (by rw [h]; simp)
theorem alw_code (es : List Em) (xs : List En) (v : Ev) (hk : v.kind = 1 ∨ v.kind = 2 ∨ v.kind = 3 ∨ v.kind = 4 ∨ v.kind = 5 ∨ v.kind = 6 ∨ v.kind = 7 ∨ v.kind = 8) :
    alwE es xs v = 0 ∨ alwE es xs v = 6 ∨ alwE es xs v = 7 ∨ alwE es xs v = 10 ∨ alwE es xs v = 11 := by
  rw [alw_parts es xs v hk]
  split
  · rcases rule_code es xs v with h | h | h
    · exact .inl h
    · exact .inr (.inl h)
    · exact .inr (.inr (.inr (.inr h)))
  · rcases all_code es xs v with h | h | h | h
    · exact .inl h
    · exact .inr (.inr (.inl h))
    · exact .inr (.inr (.inr (.inl h)))
    · exact .inr (.inr (.inr (.inr h)))
theorem scene_long {g : Gr} {xs : List En} (h : 400 < xs.length) : sceneB g xs = false := by
  have : rowE false xs = false := by
    unfold rowE
    rw [decide_eq_false (by omega)]
    rfl
  unfold sceneB stateB
  rw [this]
  simp
set_option maxHeartbeats 16000000 in
set_option maxRecDepth 100000 in
theorem allowed_spec (g : Gr) (xs : List En) (v : Ev) (q : Option Addr) (c : Nat) (a : Option Addr) (cap : Nat) (p : Option Addr) (cp : Nat) (s : Option Addr) (cs : Nat) (w : World) (h : RIn w g xs a s) (h2 : EvsAt w p g.pk) (hn : NumsAt w q v.prev) :
    Calls Tryz.prog 7 #[.agg #[.int .i64 g.room, .slice a g.evs.length cap, .slice p g.pk.length cp], .slice s xs.length cs, .agg #[.int .i64 v.id, .int .i64 v.room, .int .i64 v.author, .int .i64 v.kind, .int .i64 v.key, .int .i64 v.n, .string v.text, .slice q v.prev.length c, .int .i64 v.time]] w fun e w' => e = .returned (.int .i64 (alwG g xs v)) ∧ Below w.heap.size w w' := by
  have HA0 : Hid (AB w g a cap p cp v q c ((w.alloc (.cells #[.int .i64 g.room, .slice a g.evs.length cap, .slice p g.pk.length cp] 35)).alloc (.cells #[.int .i64 v.id, .int .i64 v.room, .int .i64 v.author, .int .i64 v.kind, .int .i64 v.key, .int .i64 v.n, .string v.text, .slice q v.prev.length c, .int .i64 v.time] 39))) := AB.start w g a cap p cp v q c
  obtain ⟨m1, m2⟩ := HA0.out.cells
  have HGS := fun W (hW : Below w.heap.size w W) => graph_spec g a cap p cp W (h.evs.kept hW) (h2.kept hW)
  have HRS := fun W (hW : Below w.heap.size w W) => right_spec v q c W (hn.kept hW)
  have HH : Hid (RIn w g xs a s) := h
  have hl := h.ens.len
  clear h h2 hn
  cases h4 : decide (400 < (xs.length : Int))
  · cases hr : rightG g
    · have HS : Hid (alwG g xs v = 1) := alwG_no (scene_nog hr)
      go_enter Tryz.func7, Tryz.ntmps7
      go_wp2_with (go_at_call 17; refine (HGS _ HA0.out.below).mono ?_; rintro e w1 ⟨rfl, hb1⟩; rw [hr]; have HA1 : Hid (AB w g a cap p cp v q c w1) := HA0.out.on hb1; have hx := (AB.cells HA1.out).1; have hy := (AB.cells HA1.out).2; clear hb1)
      go_ret
      exact ⟨ret_int' HS.out.symm, HA1.out.below⟩
    have HSS := fun W (hW : Below w.heap.size w W) => state05_spec g xs a cap p cp s cs W (HH.out.kept hW).evs (HH.out.kept hW).ens (right_dup hr)
    cases hst : stateB g xs
    · have HS : Hid (alwG g xs v = 1) := alwG_no (scene_nos hst)
      go_enter Tryz.func7, Tryz.ntmps7
      go_wp2_with (first
        | (go_at_call 17; refine (HGS _ HA0.out.below).mono ?_; rintro e w1 ⟨rfl, hb1⟩; rw [hr]; have HA1 : Hid (AB w g a cap p cp v q c w1) := HA0.out.on hb1; have hx := (AB.cells HA1.out).1; have hy := (AB.cells HA1.out).2; clear hb1)
        | (go_at_call 18; refine (HSS _ HA1.out.below).mono ?_; rintro e w2 ⟨rfl, hb2⟩; rw [hst]; have HA2 : Hid (AB w g a cap p cp v q c w2) := HA1.out.on hb2; have hx2 := (AB.cells HA2.out).1; have hy2 := (AB.cells HA2.out).2; clear hb2))
      go_ret
      exact ⟨ret_int' HS.out.symm, HA2.out.below⟩
    have HSB : Hid (sceneB g xs = true) := scene_yes hr hst
    cases hv : rightB v
    · have HS : Hid (alwG g xs v = 1) := alwG_noe hv
      go_enter Tryz.func7, Tryz.ntmps7
      go_wp2_with (first
        | (go_at_call 17; refine (HGS _ HA0.out.below).mono ?_; rintro e w1 ⟨rfl, hb1⟩; rw [hr]; have HA1 : Hid (AB w g a cap p cp v q c w1) := HA0.out.on hb1; have hx := (AB.cells HA1.out).1; have hy := (AB.cells HA1.out).2; clear hb1)
        | (go_at_call 18; refine (HSS _ HA1.out.below).mono ?_; rintro e w2 ⟨rfl, hb2⟩; rw [hst]; have HA2 : Hid (AB w g a cap p cp v q c w2) := HA1.out.on hb2; have hx2 := (AB.cells HA2.out).1; have hy2 := (AB.cells HA2.out).2; clear hb2)
        | (go_at_call 19; refine (HRS _ HA2.out.below).mono ?_; rintro e w3 ⟨rfl, hb3⟩; rw [hv]; have HA3 : Hid (AB w g a cap p cp v q c w3) := HA2.out.on hb3; have hx3 := (AB.cells HA3.out).1; have hy3 := (AB.cells HA3.out).2; clear hb3))
      go_ret
      exact ⟨ret_int' HS.out.symm, HA3.out.below⟩
    · have HS : Hid (alwG g xs v = alwE g.evs xs v) := alwG_yes HSB.out hv
      have HCC := fun W (hW : Below w.heap.size w W) => allowed05_spec g xs v q c a cap p cp s cs W (HH.out.kept hW) (sceneB_yes HSB.out)
      go_enter Tryz.func7, Tryz.ntmps7
      go_wp2_with (first
        | (go_at_call 17; refine (HGS _ HA0.out.below).mono ?_; rintro e w1 ⟨rfl, hb1⟩; rw [hr]; have HA1 : Hid (AB w g a cap p cp v q c w1) := HA0.out.on hb1; have hx := (AB.cells HA1.out).1; have hy := (AB.cells HA1.out).2; clear hb1)
        | (go_at_call 18; refine (HSS _ HA1.out.below).mono ?_; rintro e w2 ⟨rfl, hb2⟩; rw [hst]; have HA2 : Hid (AB w g a cap p cp v q c w2) := HA1.out.on hb2; have hx2 := (AB.cells HA2.out).1; have hy2 := (AB.cells HA2.out).2; clear hb2)
        | (go_at_call 19; refine (HRS _ HA2.out.below).mono ?_; rintro e w3 ⟨rfl, hb3⟩; rw [hv]; have HA3 : Hid (AB w g a cap p cp v q c w3) := HA2.out.on hb3; have hx3 := (AB.cells HA3.out).1; have hy3 := (AB.cells HA3.out).2; clear hb3)
        | (go_at_call 20; refine (HCC _ HA3.out.below).mono ?_; rintro e w4 ⟨rfl, hb4⟩; have HA4 : Hid (AB w g a cap p cp v q c w4) := HA3.out.on hb4; clear hb4))
      go_ret
      exact ⟨ret_int' HS.out.symm, HA4.out.below⟩
  · have HS : Hid (alwG g xs v = 1) := alwG_no (scene_long (by have := of_decide_eq_true h4; omega))
    go_enter Tryz.func7, Tryz.ntmps7
    go_wp2
    go_ret
    exact ⟨ret_int' HS.out.symm, HA0.out.below⟩
set_option maxHeartbeats 16000000 in
set_option maxRecDepth 100000 in
theorem allowed_impl (E : Errs) (g : Gr) (xs : List En) (v : Ev) (q : Option Addr) (c : Nat) (a : Option Addr) (cap : Nat) (p : Option Addr) (cp : Nat) (s : Option Addr) (cs : Nat) (w : World) (h : RIn w g xs a s) (h2 : EvsAt w p g.pk) (hn : NumsAt w q v.prev) (hE : LE E w) :
    Calls Tryz.prog 11 #[.agg #[.int .i64 g.room, .slice a g.evs.length cap, .slice p g.pk.length cp], .slice s xs.length cs, .agg #[.int .i64 v.id, .int .i64 v.room, .int .i64 v.author, .int .i64 v.kind, .int .i64 v.key, .int .i64 v.n, .string v.text, .slice q v.prev.length c, .int .i64 v.time]] w fun e w' => e = .returned (.int .i64 (alwG g xs v)) ∧ Below w.heap.size w w' := by
  have HA0 : Hid (AB w g a cap p cp v q c ((w.alloc (.cells #[.int .i64 g.room, .slice a g.evs.length cap, .slice p g.pk.length cp] 35)).alloc (.cells #[.int .i64 v.id, .int .i64 v.room, .int .i64 v.author, .int .i64 v.kind, .int .i64 v.key, .int .i64 v.n, .string v.text, .slice q v.prev.length c, .int .i64 v.time] 39))) := AB.start w g a cap p cp v q c
  obtain ⟨m1, m2⟩ := HA0.out.cells
  have HC := fun W (hW : Below w.heap.size w W) => sceneOf_impl g xs a cap p cp s cs W (h.kept hW) (h2.kept hW)
  have HRI := fun W (hW : Below w.heap.size w W) => right_impl v q c W (hn.kept hW)
  have HE : Hid (∀ W, Below w.heap.size w W → LE E W) := fun W hW => hE.kept hW
  clear h h2 hn hE
  cases hr : sceneB g xs
  · have HS : Hid (alwG g xs v = 1) := alwG_no hr
    go_enter Tryz.func11, Tryz.ntmps11
    go_wp2_with fail
    refine (HC _ HA0.out.below).mono ?_
    rintro e w1 (⟨-, rfl, hb1⟩ | ⟨h1, -⟩)
    · have HA1 : Hid (∀ o, AB w g a cap p cp v q c (w1.alloc o)) := fun o => (HA0.out.on hb1).on ((Below.refl _ _).alloc (Nat.le_refl _) o)
      clear hb1
      go_wp2
      go_ret
      exact ⟨ret_int' HS.out.symm, (HA1.out _).below⟩
    · rw [hr] at h1
      cases h1
  have HSC : Hid (Sc g xs) := sceneB_yes hr
  cases hv : rightB v
  · have HS : Hid (alwG g xs v = 1) := alwG_noe hv
    go_enter Tryz.func11, Tryz.ntmps11
    go_wp2_with fail
    refine (HC _ HA0.out.below).mono ?_
    rintro e w1 (⟨h1, -⟩ | ⟨-, be, bs, rfl, hsc, hb1⟩)
    · rw [hr] at h1
      cases h1
    · have HA1 : Hid (∀ o, AB w g a cap p cp v q c (w1.alloc o)) := fun o => (HA0.out.on hb1).on ((Below.refl _ _).alloc (Nat.le_refl _) o)
      have n1 : ∀ o k, (w1.alloc o).cell? ⟨w.heap.size + 1, k, none⟩ = #[.int .i64 v.id, .int .i64 v.room, .int .i64 v.author, .int .i64 v.kind, .int .i64 v.key, .int .i64 v.n, .string v.text, .slice q v.prev.length c, .int .i64 v.time][k]? := fun o => (AB.cells (HA1.out o)).2
      have n2 : ∀ k, w1.cell? ⟨w.heap.size + 1, k, none⟩ = #[.int .i64 v.id, .int .i64 v.room, .int .i64 v.author, .int .i64 v.kind, .int .i64 v.key, .int .i64 v.n, .string v.text, .slice q v.prev.length c, .int .i64 v.time][k]? := (AB.cells (HA0.out.on hb1)).2
      have n3 : w.heap.size + 1 < w1.heap.size := (Array.getElem?_eq_some_iff.1 (HA0.out.on hb1).ev).1
      clear hb1 hsc m1 m2
      go_wp2_with fail
      refine (HRI _ (HA1.out _).below).mono ?_
      rw [hv]
      rintro e w2 ⟨rfl, hb2⟩
      have HA2 : Hid (AB w g a cap p cp v q c w2) := (HA1.out _).on hb2
      clear hb2
      go_wp2
      go_ret
      exact ⟨ret_int' HS.out.symm, HA2.out.below⟩
  · have HS : Hid (alwG g xs v = alwE g.evs xs v) := alwG_yes hr hv
    have HRB : Hid (rightB v = true) := hv
    have HCO : Hid (alwE g.evs xs v = 0 ∨ alwE g.evs xs v = 6 ∨ alwE g.evs xs v = 7 ∨ alwE g.evs xs v = 10 ∨ alwE g.evs xs v = 11) := alw_code _ _ _ (kind_of hv)
    obtain ⟨K, HK⟩ : ∃ u, Hid (u = alwE g.evs xs v) := ⟨alwE g.evs xs v, (rfl : alwE g.evs xs v = _)⟩
    rw [← HK.out] at HS HCO
    go_enter Tryz.func11, Tryz.ntmps11
    go_wp2_with fail
    refine (HC _ HA0.out.below).mono ?_
    rintro e w1 (⟨h1, -⟩ | ⟨-, be, bs, rfl, hsc, hb1⟩)
    · rw [hr] at h1
      cases h1
    · have HA1 : Hid (∀ o, AB w g a cap p cp v q c (w1.alloc o)) := fun o => (HA0.out.on hb1).on ((Below.refl _ _).alloc (Nat.le_refl _) o)
      have HSA : Hid (∀ W, Below w1.heap.size w1 W → ScAt W g xs be bs) := fun W hW => hsc.kept hW
      have HB1 : Hid (∀ o, Below w1.heap.size w1 (w1.alloc o)) := fun o => (Below.refl _ _).alloc (Nat.le_refl _) o
      have HX1 : Hid (∀ o, (w1.alloc o).heap[w1.heap.size]? = some o) := fun o => (MapKept.heap_alloc w1 o).1
      have n1 : ∀ o k, (w1.alloc o).cell? ⟨w.heap.size + 1, k, none⟩ = #[.int .i64 v.id, .int .i64 v.room, .int .i64 v.author, .int .i64 v.kind, .int .i64 v.key, .int .i64 v.n, .string v.text, .slice q v.prev.length c, .int .i64 v.time][k]? := fun o => (AB.cells (HA1.out o)).2
      have n2 : ∀ k, w1.cell? ⟨w.heap.size + 1, k, none⟩ = #[.int .i64 v.id, .int .i64 v.room, .int .i64 v.author, .int .i64 v.kind, .int .i64 v.key, .int .i64 v.n, .string v.text, .slice q v.prev.length c, .int .i64 v.time][k]? := (AB.cells (HA0.out.on hb1)).2
      have n3 : w.heap.size + 1 < w1.heap.size := (Array.getElem?_eq_some_iff.1 (HA0.out.on hb1).ev).1
      clear hb1 hsc m1 m2
      go_wp2_with fail
      refine (HRI _ (HA1.out _).below).mono ?_
      rw [hv]
      rintro e w2 ⟨rfl, hb2⟩
      have HA2 : Hid (AB w g a cap p cp v q c w2) := (HA1.out _).on hb2
      have HB2 : Hid (Below w1.heap.size w1 w2) := (HB1.out (.cells #[.map (some be), .map (some bs)] 60)).trans (hb2.mono (by simp))
      have k1 : ∀ k, w2.cell? ⟨w1.heap.size, k, none⟩ = #[.map (some be), .map (some bs)][k]? := fun k => cell_of_heap ((hb2.block _ (by simp)).trans (HX1.out _))
      obtain ⟨m1, m2⟩ := HA2.out.cells
      clear hb2 n1 n2 n3
      go_wp2_with fail
      refine (hinders_impl g xs E be bs v q c w2 (HSA.out _ HB2.out) HSC.out (HE.out _ HA2.out.below) HRB.out).mono ?_
      rw [← HK.out]
      rintro e w3 (⟨h0, rfl, hb3⟩ | ⟨h0, b, hb0, rfl, hh, hb3⟩)
      · have HA3 : Hid (AB w g a cap p cp v q c w3) := HA2.out.on hb3
        have HS0 : Hid (alwG g xs v = 0) := HS.out.trans h0
        clear hb3 h0
        go_wp2_with fail
        refine (code_nil E w3 (HE.out _ HA3.out.below)).mono ?_
        rintro e w4 ⟨rfl, rfl⟩
        go_wp2
        go_ret
        exact ⟨ret_int' HS0.out.symm, HA3.out.below⟩
      · have HA3 : Hid (AB w g a cap p cp v q c w3) := HA2.out.on hb3
        have HCD : Hid (∀ W, W = w3 → Calls Tryz.prog 26 #[.iface 108 (.pointer (some ⟨b, 0, none⟩))] W fun e w' => e = .returned (.int .i64 K) ∧ w' = W) := by
          rintro W rfl
          rcases HCO.out with h | h | h | h | h
          · exact absurd h h0
          · rw [h] at hh ⊢
            exact code_6 E v.id b _ (HE.out _ HA3.out.below) hh
          · rw [h] at hh ⊢
            exact code_7 E v.id b _ (HE.out _ HA3.out.below) hh
          · rw [h] at hh ⊢
            exact code_10 E v.id b _ (HE.out _ HA3.out.below) hh
          · rw [h] at hh ⊢
            exact code_11 E v.id b _ (HE.out _ HA3.out.below) hh
        clear hb3 h0 hb0 hh
        go_wp2_with fail
        refine (HCD.out _ rfl).mono ?_
        rintro e w4 ⟨rfl, rfl⟩
        go_wp2
        go_ret
        exact ⟨ret_int' HS.out.symm, HA3.out.below⟩
theorem alwE_same {es fs : List Em} (h : es.map (·.v) = fs.map (·.v)) (xs : List En) (v : Ev) : alwE es xs v = alwE fs xs v := by
  have h1 := fun k y => lastE_same h xs k y
  have h2 : ∀ u, memR es xs u = memR fs xs u := fun u => by unfold memR; rw [h1]
  have h3 : ∀ u, levR es xs u = levR fs xs u := fun u => by unfold levR; rw [h1, h1]
  have h4 : idsOf es = idsOf fs := by
    have h5 := congrArg (List.map fun x : Ev => x.id) h
    rw [List.map_map, List.map_map] at h5
    exact h5
  simp only [alwE, kindE, ownE, otherE, hideE, h1, h2, h3, h4, evIn_same h]
theorem alwG_same {g h : Gr} (hr : g.room = h.room) (he : g.evs.map (·.v) = h.evs.map (·.v)) (hp : g.pk.map (·.v) = h.pk.map (·.v)) (xs : List En) (v : Ev) : alwG g xs v = alwG h xs v := by
  unfold alwG
  rw [sceneB_same hr he hp, alwE_same he]
end Go.Proofs.YtdldblfopcbfeaaGreatDoor
