/- EventAt, of the specification and of the program. -/
import Derived.Test.YtegjdngkbofogaaGreatGrAt
import Derived.Test.YtegjdngkbofogaaGreatEvCopy
namespace Go.Proofs.YtegjdngkbofogaaGreat
open Go.RowKit

theorem evG_bad {g : Gr} {id : Int} (h : rightG g = false) : evG g id = zeroEv := if_neg (by simp [h])
theorem evG_good {g : Gr} {id : Int} (h : rightG g = true) : evG g id = evIn g.evs id := if_pos h
theorem right_nodup {g : Gr} (h : rightG g = true) : (idsOf g.evs).Nodup := by
  unfold rightG at h
  simp only [Bool.and_eq_true] at h
  exact rowB_nodup h.1.1.1.1.2
theorem right_row {g : Gr} (h : rightG g = true) : rowB g.evs g.room 60 = true := by
  unfold rightG at h
  simp only [Bool.and_eq_true] at h
  exact h.1.1.1.1.2
set_option maxHeartbeats 4000000 in
set_option maxRecDepth 100000 in
theorem eventAt_spec (g : Gr) (id : Int) (a : Option Addr) (cap : Nat) (p : Option Addr) (cp : Nat) (w : World) (h : EvsAt w a g.evs) (h2 : EvsAt w p g.pk) :
    Calls Tryz.prog 8 #[.agg #[.int .i64 g.room, .slice a g.evs.length cap, .slice p g.pk.length cp], .int .i64 id] w (EvPost (evG g id) w) := by
  have HB : Hid (∀ o1 o2, Below w.heap.size w ((w.alloc o1).alloc o2)) := fun o1 o2 => ((Below.refl _ _).alloc (Nat.le_refl _) _).alloc (by simp) _
  have HE : Hid (∀ w', Below w.heap.size w w' → EvsAt w' a g.evs) := fun w' hb => h.kept hb
  have HG := graph_spec g a cap p cp ((w.alloc (.cells #[.int .i64 g.room, .slice a g.evs.length cap, .slice p g.pk.length cp] 32)).alloc (.cells #[.int .i64 0, .int .i64 0, .int .i64 0, .int .i64 0, .int .i64 0, .int .i64 0, .string ⟨#[]⟩, .slice none 0 0, .int .i64 0] 28)) (h.kept (HB.out _ _)) (h2.kept (HB.out _ _))
  clear h h2
  cases hr : rightG g
  · rw [evG_bad hr]
    go_enter Tryz.func8, Tryz.ntmps8
    go_wp2_with (go_at_call 31; refine HG.mono ?_; rintro e w1 ⟨rfl, hb1⟩; rw [hr]; obtain ⟨hc1, hf1⟩ := bcell hb1; have HW1 : Hid (Below w.heap.size w w1) := (HB.out _ _).trans (hb1.mono (by simp; omega)); clear hb1)
    refine bodyPost_ret (v := .agg #[.int .i64 0, .int .i64 0, .int .i64 0, .int .i64 0, .int .i64 0, .int .i64 0, .string ⟨#[]⟩, .slice none 0 0, .int .i64 0]) (by simp [results, Tryz.results8, go_sem, hc1]) rfl (evPost_zero ?_)
    repeat refine Below.setCell ?_ (by simp) _
    exact HW1.out
  · rw [evG_good hr]
    obtain ⟨v, HV⟩ : ∃ v, Hid (v = evIn g.evs id) := ⟨evIn g.evs id, (rfl : evIn g.evs id = _)⟩
    rw [← HV.out]
    have HEV : Hid (∀ w', Below w.heap.size w w' → Calls Tryz.prog 32 #[.agg #[.int .i64 g.room, .slice a g.evs.length cap, .slice p g.pk.length cp], .int .i64 id] w' (EvPost v w')) := fun w' hb => by rw [HV.out]; exact event_spec g id a cap p cp w' (HE.out _ hb) (right_nodup hr)
    go_enter Tryz.func8, Tryz.ntmps8
    go_wp2_with (first
      | (go_at_call 31; refine HG.mono ?_; rintro e w1 ⟨rfl, hb1⟩; rw [hr]; obtain ⟨hc1, hf1⟩ := bcell hb1; have hz1 : w.heap.size + 1 < w1.heap.size := (by have := hb1.size; simp at this; omega); have hy1 : w.heap.size < w1.heap.size := Nat.lt_of_succ_lt hz1; have HW1 : Hid (Below w.heap.size w w1) := (HB.out _ _).trans (hb1.mono (by simp; omega)); clear hb1)
      | (go_at_call 32; refine (HEV.out _ HW1.out).mono ?_; rintro e w2 ⟨a2, cap2, rfl, ho2, hb2⟩; obtain ⟨hc2, hf2⟩ := bcell hb2; have HO2 : Hid (w2.ownsRow (w.heap.size + 2) 2 1 (.slice a2 v.prev.length cap2) v.prev.length (nv v.prev) ∧ Below w.heap.size w w2) := ⟨owns_baseC ho2 (by omega), HW1.out.trans (hb2.mono HW1.out.size)⟩; clear ho2 hb2))
    refine bodyPost_ret (v := .agg #[.int .i64 v.id, .int .i64 v.room, .int .i64 v.author, .int .i64 v.kind, .int .i64 v.key, .int .i64 v.n, .string v.text, .slice a2 v.prev.length cap2, .int .i64 v.time]) (by simp [results, Tryz.results8, go_sem, hc2, hc1, hz1]) rfl ⟨a2, cap2, rfl, ?_, ?_⟩
    · refine owns_baseC (base := w.heap.size + 2) ?_ (by omega)
      repeat refine ownsRow_setCell_below ?_ (by simp) _
      exact HO2.out.1
    · repeat refine Below.setCell ?_ (by simp) _
      exact HO2.out.2
/-- A look into the events by an Id, without 'ok': the event, or the zero one. -/
theorem look_ev2 {w : World} {b n : Nat} {es : List Em} (h : w.ownsMap Tryz.prog 2 heldR b n (putAll es)) {id : Int} (hid : -9223372036854775808 ≤ id ∧ id ≤ 9223372036854775807) :
    (id ∉ idsOf es ∧ (Instr.lookup 59 (.map (some b)) (.int .i64 id) false).run Tryz.prog w = .ok zeroVal w) ∨ ∃ m ∈ es, m.v.id = id ∧ (Instr.lookup 59 (.map (some b)) (.int .i64 id) false).run Tryz.prog w = .ok (emVal m) w := by
  obtain ⟨v, ps, hrun, hv⟩ := h.lookup (Maps.int_keyed (P := Tryz.prog) Tryz.underlying2) Tryz.underlying59 (zero_event w) (zd := .held zeroVal) (zp := []) rfl (Maps.keyOf_int_mk Tryz.underlying2 (WalkArith.wf_i64 hid))
  rcases at_fold_putAll id es (.map []) ⟨[], rfl⟩ with ⟨h1, h2⟩ | ⟨m, hm, h1, h2⟩
  · left
    refine ⟨h1, ?_⟩
    have e : (putAll es).atKey (.int .i64 id) (.held zeroVal) = .held zeroVal := h2 _
    rw [e] at hv
    have hvz : v = zeroVal := by
      simp only [heldR, Option.some.injEq, Prod.mk.injEq, DataW.held.injEq] at hv
      exact hv.1
    rw [hrun, hvz]
  · right
    refine ⟨m, hm, h1, ?_⟩
    have e : (putAll es).atKey (.int .i64 id) (.held zeroVal) = .held (emVal m) := h2 _
    rw [e] at hv
    have hvz : v = emVal m := by
      simp only [heldR, Option.some.injEq, Prod.mk.injEq, DataW.held.injEq] at hv
      exact hv.1
    rw [hrun, hvz]
theorem body_text {v : Ev} (h : bodyB v = true) : v.text.size ≤ 30 := by
  have key : ∀ n : Nat, (n == 0) = true → n ≤ 30 := fun n h => by simp at h; omega
  unfold bodyB at h
  repeat' split at h
  all_goals (try simp only [Bool.and_eq_true] at h)
  all_goals first
    | exact key _ h.2
    | exact of_decide_eq_true h.2
    | cases h
theorem right_text {v : Ev} (h : rightB v = true) : v.text.size ≤ 30 := by
  unfold rightB at h
  simp only [Bool.and_eq_true] at h
  exact body_text h.2
set_option maxHeartbeats 4000000 in
set_option maxRecDepth 100000 in
theorem eventAt_impl (g : Gr) (id : Int) (hid : -9223372036854775808 ≤ id ∧ id ≤ 9223372036854775807) (a : Option Addr) (cap : Nat) (p : Option Addr) (cp : Nat) (w : World) (h : EvsAt w a g.evs) (h2 : EvsAt w p g.pk) :
    Calls Tryz.prog 10 #[.agg #[.int .i64 g.room, .slice a g.evs.length cap, .slice p g.pk.length cp], .int .i64 id] w (EvPost (evG g id) w) := by
  have HB : Hid (∀ o1 o2, Below w.heap.size w ((w.alloc o1).alloc o2)) := fun o1 o2 => ((Below.refl _ _).alloc (Nat.le_refl _) _).alloc (by simp) _
  have HE : Hid (∀ w', Below w.heap.size w w' → EvsAt w' a g.evs) := fun w' hb => h.kept hb
  have HC := chart_impl g a cap p cp ((w.alloc (.cells #[.int .i64 g.room, .slice a g.evs.length cap, .slice p g.pk.length cp] 32)).alloc (.cells #[.int .i64 0, .int .i64 0, .int .i64 0, .int .i64 0, .int .i64 0, .int .i64 0, .string ⟨#[]⟩, .slice none 0 0, .int .i64 0] 28)) (h.kept (HB.out _ _)) (h2.kept (HB.out _ _))
  clear h h2
  cases hr : rightG g
  · rw [evG_bad hr]
    go_enter Tryz.func10, Tryz.ntmps10
    go_wp2_with fail
    refine HC.mono ?_
    rintro e w1 (⟨_, rfl, hb1⟩ | ⟨h1, _⟩)
    · obtain ⟨hc1, hf1⟩ := bcell hb1
      have HW1 : Hid (Below w.heap.size w w1) := (HB.out _ _).trans (hb1.mono (by simp; omega))
      clear hb1
      go_wp2
      refine bodyPost_ret (v := .agg #[.int .i64 0, .int .i64 0, .int .i64 0, .int .i64 0, .int .i64 0, .int .i64 0, .string ⟨#[]⟩, .slice none 0 0, .int .i64 0]) (by simp [results, Tryz.results10, go_sem, hc1]) rfl (evPost_zero ?_)
      repeat refine Below.setCell ?_ (by simp) _
      exact HW1.out
    · rw [hr] at h1
      cases h1
  · rw [evG_good hr]
    obtain ⟨v, HV⟩ : ∃ v, Hid (v = evIn g.evs id) := ⟨evIn g.evs id, (rfl : evIn g.evs id = _)⟩
    rw [← HV.out]
    go_enter Tryz.func10, Tryz.ntmps10
    go_wp2_with fail
    refine HC.mono ?_
    rintro e w1 (⟨h1, _⟩ | ⟨_, bc, be, bp, bt, l, rfl, hch⟩)
    · rw [hr] at h1
      cases h1
    · obtain ⟨hc1, hf1⟩ := bcell hch.below
      have hz1 : w.heap.size + 1 < w1.heap.size := by have := hch.below.size; simp at this; omega
      have HW1 : Hid (Below w.heap.size w w1) := (HB.out _ _).trans (hch.below.mono (by simp; omega))
      have hcc : w1.cell? ⟨bc, 0, none⟩ = some (.map (some be)) := cell_of_heap hch.ch
      have HP : ∃ (q : Option Addr) (cq : Nat), (Instr.lookup 59 (.map (some be)) (.int .i64 id) false).run Tryz.prog w1 = .ok (.agg #[.int .i64 v.id, .int .i64 v.room, .int .i64 v.author, .int .i64 v.kind, .int .i64 v.key, .int .i64 v.n, .string v.text, .slice q v.prev.length cq, .int .i64 v.time]) w1 ∧ NumsAt w1 q v.prev ∧ v.text.size ≤ 1000000000 := by
        rcases look_ev2 hch.evs hid with ⟨hno, hrun⟩ | ⟨m, hm, hmi, hrun⟩
        · refine ⟨none, 0, ?_, ?_, ?_⟩
          · rw [HV.out, evIn_none hno]
            exact hrun
          · rw [HV.out, evIn_none hno]
            exact ⟨by decide, fun h => absurd h (by decide)⟩
          · rw [HV.out, evIn_none hno]
            decide
        · subst hmi
          have hv : evIn g.evs m.v.id = m.v := evIn_some (right_nodup hr) hm
          refine ⟨m.p, m.c, ?_, ?_, ?_⟩
          · rw [HV.out, hv]
            exact hrun
          · rw [HV.out, hv]
            exact (HE.out _ HW1.out).nums m hm
          · rw [HV.out, hv]
            have := right_text (rowB_each (right_row hr) hm).1
            omega
      obtain ⟨q, cq, hlk, hnq, htq⟩ := HP
      have HCP := copy_impl v q cq w1 hnq htq
      clear hch hnq
      go_wp2_with (go_at_call 35; refine HCP.mono ?_; rintro e w2 ⟨a2, cap2, rfl, ho2, hb2⟩; obtain ⟨hc2, hf2⟩ := bcell hb2; have HO2 : Hid (w2.ownsRow (w.heap.size + 2) 2 1 (.slice a2 v.prev.length cap2) v.prev.length (nv v.prev) ∧ Below w.heap.size w w2) := ⟨owns_baseC ho2 (by omega), HW1.out.trans (hb2.mono HW1.out.size)⟩; clear ho2 hb2)
      refine bodyPost_ret (v := .agg #[.int .i64 v.id, .int .i64 v.room, .int .i64 v.author, .int .i64 v.kind, .int .i64 v.key, .int .i64 v.n, .string v.text, .slice a2 v.prev.length cap2, .int .i64 v.time]) (by simp [results, Tryz.results10, go_sem, hc2, hc1, hz1]) rfl ⟨a2, cap2, rfl, ?_, ?_⟩
      · refine owns_baseC (base := w.heap.size + 2) ?_ (by omega)
        repeat refine ownsRow_setCell_below ?_ (by simp) _
        exact HO2.out.1
      · repeat refine Below.setCell ?_ (by simp) _
        exact HO2.out.2
end Go.Proofs.YtegjdngkbofogaaGreat
