/- l03Add of the specification. -/
import Derived.Test.YtobkinocaomcmaaGreatZGpSAdd0
namespace Go.Proofs.YtobkinocaomcmaaGreat
open Go.RowKit

theorem putV_there {es ps : List Ev} {e : Ev} (h : e.id ∈ idsV es ∨ e.id ∈ idsV ps) : putV es ps e = (7, [], [], []) := if_pos h
theorem putV_full {es ps : List Ev} {e : Ev} (h : ¬ (e.id ∈ idsV es ∨ e.id ∈ idsV ps)) (h2 : 60 ≤ es.length ∨ (allIn (idsV es) e.prev = false ∧ 20 ≤ ps.length)) : putV es ps e = (9, [], [], []) := by
  unfold putV
  rw [if_neg h, if_pos h2]
theorem putV_park {es ps : List Ev} {e : Ev} (h : ¬ (e.id ∈ idsV es ∨ e.id ∈ idsV ps)) (h2 : ¬ (60 ≤ es.length ∨ (allIn (idsV es) e.prev = false ∧ 20 ≤ ps.length))) (h3 : allIn (idsV es) e.prev = false) : putV es ps e = (0, es, insV ps e, []) := by
  unfold putV
  rw [if_neg h, if_neg h2, if_pos h3]
theorem putV_take {es ps : List Ev} {e : Ev} (h : ¬ (e.id ∈ idsV es ∨ e.id ∈ idsV ps)) (h2 : ¬ (60 ≤ es.length ∨ (allIn (idsV es) e.prev = false ∧ 20 ≤ ps.length))) (h3 : allIn (idsV es) e.prev = true) : putV es ps e = (0, takeV (ps.length + 1) e es ps []) := by
  unfold putV
  rw [if_neg h, if_neg h2, if_neg (by simp [h3])]
set_option maxHeartbeats 16000000 in
set_option maxRecDepth 100000 in
theorem add03_spec (g : Gr) (a : Option Addr) (cap : Nat) (p : Option Addr) (cp : Nat) (x : Em) (w : World) (h : EvsAt w a g.evs) (h2 : EvsAt w p g.pk) (hx : NumsAt w x.p x.v.prev) (hr : rightG g = true) (hxr : rightB x.v = true) :
    Calls Tryz.prog 48 #[.agg #[.int .i64 g.room, .slice a g.evs.length cap, .slice p g.pk.length cp], .agg #[.int .i64 x.v.id, .int .i64 x.v.room, .int .i64 x.v.author, .int .i64 x.v.kind, .int .i64 x.v.key, .int .i64 x.v.n, .string x.v.text, .slice x.p x.v.prev.length x.c, .int .i64 x.v.time]] w (GSPost g (putV (vs g.evs) (vs g.pk) x.v) w) := by
  obtain ⟨i0, hi, hz0, hz1, hz2⟩ := info_parts Tryz.infoEv
  obtain ⟨j0, hj, hj0, hj1, hj2⟩ := info_parts Tryz.info2
  obtain ⟨q1, q2, q3, q4, q5, q6⟩ := right_parts hr
  have HX : Hid (OkM x ∧ (∀ m, m ∈ g.evs ∨ m ∈ g.pk → OkM m) ∧ RisM g.evs ∧ RisM g.pk) := ⟨right_ok hxr, q3, q1, q2⟩
  have HN : Hid (EvsAt w a g.evs ∧ EvsAt w p g.pk ∧ NumsAt w x.p x.v.prev) := ⟨h, h2, hx⟩
  obtain ⟨w0, HW0⟩ : ∃ q, Hid (q = ((w.alloc (.cells #[.int .i64 g.room, .slice a g.evs.length cap, .slice p g.pk.length cp] 32)).alloc (.cells #[.int .i64 x.v.id, .int .i64 x.v.room, .int .i64 x.v.author, .int .i64 x.v.kind, .int .i64 x.v.key, .int .i64 x.v.n, .string x.v.text, .slice x.p x.v.prev.length x.c, .int .i64 x.v.time] 37)).alloc (.cells #[.int .i64 0, .slice none 0 0, .slice none 0 0, .slice none 0 0, .int .i64 0] 34)) := ⟨_, rfl⟩
  have H0 : Hid (PI w g a cap p cp x w0) := by
    rw [HW0.out]
    have hb : Below w.heap.size w (((w.alloc (.cells #[.int .i64 g.room, .slice a g.evs.length cap, .slice p g.pk.length cp] 32)).alloc (.cells #[.int .i64 x.v.id, .int .i64 x.v.room, .int .i64 x.v.author, .int .i64 x.v.kind, .int .i64 x.v.key, .int .i64 x.v.n, .string x.v.text, .slice x.p x.v.prev.length x.c, .int .i64 x.v.time] 37)).alloc (.cells #[.int .i64 0, .slice none 0 0, .slice none 0 0, .slice none 0 0, .int .i64 0] 34)) := ((((Below.refl _ _).alloc (Nat.le_refl _) _).alloc (by simp) _).alloc (by simp; omega) _)
    exact ⟨hb, (Below.heap_alloc _ _ _ (by simp; omega)).trans ((Below.heap_alloc _ _ _ (by simp)).trans (MapKept.heap_alloc w _).1), (Below.heap_alloc _ _ _ (by simp)).trans (new_blockC _ _ _ (by simp)), new_blockC _ _ _ (by simp), h.kept hb, h2.kept hb, hx.kept hb⟩
  have hids : idsV (vs g.evs) = idsOf g.evs := (ids_vs g.evs).symm
  have hidp : idsV (vs g.pk) = idsOf g.pk := (ids_vs g.pk).symm
  have HID : Hid (idsV (vs g.evs) = idsOf g.evs ∧ idsV (vs g.pk) = idsOf g.pk ∧ (vs g.evs).length = g.evs.length ∧ (vs g.pk).length = g.pk.length) := ⟨hids, hidp, vs_length _, vs_length _⟩
  clear h h2 hx hr hxr q1 q2 q3 q6 hids hidp
  have hz0' := H0.out.lt
  have k0 : w0.cell? ⟨w.heap.size, 0, none⟩ = some (.int .i64 g.room) := cell_of_heap H0.out.gbox
  have k1 : w0.cell? ⟨w.heap.size, 1, none⟩ = some (.slice a g.evs.length cap) := cell_of_heap H0.out.gbox
  have k2 : w0.cell? ⟨w.heap.size, 2, none⟩ = some (.slice p g.pk.length cp) := cell_of_heap H0.out.gbox
  have e0 : w0.cell? ⟨w.heap.size + 1, 0, none⟩ = some (.int .i64 x.v.id) := cell_of_heap H0.out.ebox
  have e1 : w0.cell? ⟨w.heap.size + 1, 1, none⟩ = some (.int .i64 x.v.room) := cell_of_heap H0.out.ebox
  have e2 : w0.cell? ⟨w.heap.size + 1, 2, none⟩ = some (.int .i64 x.v.author) := cell_of_heap H0.out.ebox
  have e3 : w0.cell? ⟨w.heap.size + 1, 3, none⟩ = some (.int .i64 x.v.kind) := cell_of_heap H0.out.ebox
  have e4 : w0.cell? ⟨w.heap.size + 1, 4, none⟩ = some (.int .i64 x.v.key) := cell_of_heap H0.out.ebox
  have e5 : w0.cell? ⟨w.heap.size + 1, 5, none⟩ = some (.int .i64 x.v.n) := cell_of_heap H0.out.ebox
  have e6 : w0.cell? ⟨w.heap.size + 1, 6, none⟩ = some (.string x.v.text) := cell_of_heap H0.out.ebox
  have e7 : w0.cell? ⟨w.heap.size + 1, 7, none⟩ = some (.slice x.p x.v.prev.length x.c) := cell_of_heap H0.out.ebox
  have e8 : w0.cell? ⟨w.heap.size + 1, 8, none⟩ = some (.int .i64 x.v.time) := cell_of_heap H0.out.ebox
  have o0 : w0.cell? ⟨w.heap.size + 2, 0, none⟩ = some (.int .i64 0) := cell_of_heap H0.out.obox
  have o1 : w0.cell? ⟨w.heap.size + 2, 1, none⟩ = some (.slice none 0 0) := cell_of_heap H0.out.obox
  have o2 : w0.cell? ⟨w.heap.size + 2, 2, none⟩ = some (.slice none 0 0) := cell_of_heap H0.out.obox
  have o3 : w0.cell? ⟨w.heap.size + 2, 3, none⟩ = some (.slice none 0 0) := cell_of_heap H0.out.obox
  have o4 : w0.cell? ⟨w.heap.size + 2, 4, none⟩ = some (.int .i64 0) := cell_of_heap H0.out.obox
  have of : ∀ o, w0.frozen? ⟨w.heap.size + 2, o, none⟩ = false := fun o => frozen_of_heap H0.out.obox
  go_enter Tryz.func48, Tryz.ntmps48
  go_wp2_with fail
  rw [← HW0.out]
  refine (all_spec g.evs x a cap w0 H0.out.evs H0.out.num).mono ?_
  rintro e w1 ⟨rfl, hb1⟩
  have H1 : Hid (PI w g a cap p cp x w1) := H0.out.on hb1
  clear hb1 H0 HW0
  clear k0 k1 k2 e0 e1 e2 e3 e4 e5 e6 e7 e8 o0 o1 o2 o3 o4 of
  have k0 : w1.cell? ⟨w.heap.size, 0, none⟩ = some (.int .i64 g.room) := cell_of_heap H1.out.gbox
  have k1 : w1.cell? ⟨w.heap.size, 1, none⟩ = some (.slice a g.evs.length cap) := cell_of_heap H1.out.gbox
  have k2 : w1.cell? ⟨w.heap.size, 2, none⟩ = some (.slice p g.pk.length cp) := cell_of_heap H1.out.gbox
  have e0 : w1.cell? ⟨w.heap.size + 1, 0, none⟩ = some (.int .i64 x.v.id) := cell_of_heap H1.out.ebox
  have e1 : w1.cell? ⟨w.heap.size + 1, 1, none⟩ = some (.int .i64 x.v.room) := cell_of_heap H1.out.ebox
  have e2 : w1.cell? ⟨w.heap.size + 1, 2, none⟩ = some (.int .i64 x.v.author) := cell_of_heap H1.out.ebox
  have e3 : w1.cell? ⟨w.heap.size + 1, 3, none⟩ = some (.int .i64 x.v.kind) := cell_of_heap H1.out.ebox
  have e4 : w1.cell? ⟨w.heap.size + 1, 4, none⟩ = some (.int .i64 x.v.key) := cell_of_heap H1.out.ebox
  have e5 : w1.cell? ⟨w.heap.size + 1, 5, none⟩ = some (.int .i64 x.v.n) := cell_of_heap H1.out.ebox
  have e6 : w1.cell? ⟨w.heap.size + 1, 6, none⟩ = some (.string x.v.text) := cell_of_heap H1.out.ebox
  have e7 : w1.cell? ⟨w.heap.size + 1, 7, none⟩ = some (.slice x.p x.v.prev.length x.c) := cell_of_heap H1.out.ebox
  have e8 : w1.cell? ⟨w.heap.size + 1, 8, none⟩ = some (.int .i64 x.v.time) := cell_of_heap H1.out.ebox
  have o0 : w1.cell? ⟨w.heap.size + 2, 0, none⟩ = some (.int .i64 0) := cell_of_heap H1.out.obox
  have o1 : w1.cell? ⟨w.heap.size + 2, 1, none⟩ = some (.slice none 0 0) := cell_of_heap H1.out.obox
  have o2 : w1.cell? ⟨w.heap.size + 2, 2, none⟩ = some (.slice none 0 0) := cell_of_heap H1.out.obox
  have o3 : w1.cell? ⟨w.heap.size + 2, 3, none⟩ = some (.slice none 0 0) := cell_of_heap H1.out.obox
  have o4 : w1.cell? ⟨w.heap.size + 2, 4, none⟩ = some (.int .i64 0) := cell_of_heap H1.out.obox
  have of : ∀ o, w1.frozen? ⟨w.heap.size + 2, o, none⟩ = false := fun o => frozen_of_heap H1.out.obox
  obtain ⟨th, HTH⟩ : ∃ q, Hid (q = allIn (idsOf g.evs) x.v.prev) := ⟨_, rfl⟩
  rw [← HTH.out]
  go_wp2_with fail
  refine (at_spec g.evs x.v.id a cap w1 H1.out.evs).mono ?_
  rintro e w1' ⟨rfl, rfl⟩
  obtain ⟨z1, HZ1⟩ : ∃ q, Hid (q = atI (idsOf g.evs) x.v.id) := ⟨_, rfl⟩
  rw [← HZ1.out]
  by_cases hc1 : 0 ≤ z1
  · have hd1 : decide (0 ≤ z1) = true := decide_eq_true hc1
    have HP : Hid (putV (vs g.evs) (vs g.pk) x.v = (7, [], [], [])) := putV_there (.inl (by rw [HID.out.1]; exact atI_mem.1 (by rw [← HZ1.out]; exact hc1)))
    go_wp2_with fail
    refine (ill_spec 7 _).mono ?_
    rintro e wi ⟨rfl, hbi⟩
    have HI : Hid (PI w g a cap p cp x wi) := H1.out.on hbi
    clear hbi
    clear k0 k1 k2 e0 e1 e2 e3 e4 e5 e6 e7 e8 o0 o1 o2 o3 o4 of
    have o0 : wi.cell? ⟨w.heap.size + 2, 0, none⟩ = some (.int .i64 0) := cell_of_heap HI.out.obox
    have o1 : wi.cell? ⟨w.heap.size + 2, 1, none⟩ = some (.slice none 0 0) := cell_of_heap HI.out.obox
    have o2 : wi.cell? ⟨w.heap.size + 2, 2, none⟩ = some (.slice none 0 0) := cell_of_heap HI.out.obox
    have o3 : wi.cell? ⟨w.heap.size + 2, 3, none⟩ = some (.slice none 0 0) := cell_of_heap HI.out.obox
    have o4 : wi.cell? ⟨w.heap.size + 2, 4, none⟩ = some (.int .i64 0) := cell_of_heap HI.out.obox
    have of : ∀ o, wi.frozen? ⟨w.heap.size + 2, o, none⟩ = false := fun o => frozen_of_heap HI.out.obox
    go_wp2
    refine bodyPost_ret (v := .agg #[.int .i64 0, .slice none 0 0, .slice none 0 0, .slice none 0 0, .int .i64 7]) (by simp [results, Tryz.results48, go_sem, o0, o1, o2, o3, o4]) rfl ⟨below5 HI.out.below _ _ _ _ _, .inl ⟨7, by decide, HP.out, rfl⟩⟩
  · have hd1 : decide (0 ≤ z1) = false := decide_eq_false hc1
    have HN1 : Hid (x.v.id ∉ idsV (vs g.evs)) := by
      intro c
      rw [HID.out.1] at c
      exact hc1 (by rw [HZ1.out]; exact atI_mem.2 c)
    go_wp2_with fail
    refine (at_spec g.pk x.v.id p cp w1 H1.out.pk).mono ?_
    rintro e w1' ⟨rfl, rfl⟩
    obtain ⟨z2, HZ2⟩ : ∃ q, Hid (q = atI (idsOf g.pk) x.v.id) := ⟨_, rfl⟩
    rw [← HZ2.out]
    by_cases hc2 : 0 ≤ z2
    · have hd2 : decide (0 ≤ z2) = true := decide_eq_true hc2
      have HP : Hid (putV (vs g.evs) (vs g.pk) x.v = (7, [], [], [])) := putV_there (.inr (by rw [HID.out.2.1]; exact atI_mem.1 (by rw [← HZ2.out]; exact hc2)))
      go_wp2_with fail
      refine (ill_spec 7 _).mono ?_
      rintro e wi ⟨rfl, hbi⟩
      have HI : Hid (PI w g a cap p cp x wi) := H1.out.on hbi
      clear hbi
      clear k0 k1 k2 e0 e1 e2 e3 e4 e5 e6 e7 e8 o0 o1 o2 o3 o4 of
      have o0 : wi.cell? ⟨w.heap.size + 2, 0, none⟩ = some (.int .i64 0) := cell_of_heap HI.out.obox
      have o1 : wi.cell? ⟨w.heap.size + 2, 1, none⟩ = some (.slice none 0 0) := cell_of_heap HI.out.obox
      have o2 : wi.cell? ⟨w.heap.size + 2, 2, none⟩ = some (.slice none 0 0) := cell_of_heap HI.out.obox
      have o3 : wi.cell? ⟨w.heap.size + 2, 3, none⟩ = some (.slice none 0 0) := cell_of_heap HI.out.obox
      have o4 : wi.cell? ⟨w.heap.size + 2, 4, none⟩ = some (.int .i64 0) := cell_of_heap HI.out.obox
      have of : ∀ o, wi.frozen? ⟨w.heap.size + 2, o, none⟩ = false := fun o => frozen_of_heap HI.out.obox
      go_wp2
      refine bodyPost_ret (v := .agg #[.int .i64 0, .slice none 0 0, .slice none 0 0, .slice none 0 0, .int .i64 7]) (by simp [results, Tryz.results48, go_sem, o0, o1, o2, o3, o4]) rfl ⟨below5 HI.out.below _ _ _ _ _, .inl ⟨7, by decide, HP.out, rfl⟩⟩
    · have hd2 : decide (0 ≤ z2) = false := decide_eq_false hc2
      have HN2 : Hid (¬ (x.v.id ∈ idsV (vs g.evs) ∨ x.v.id ∈ idsV (vs g.pk))) := by
        rintro (c | c)
        · exact HN1.out c
        · rw [HID.out.2.1] at c
          exact hc2 (by rw [HZ2.out]; exact atI_mem.2 c)
      by_cases hc3 : g.evs.length < 60
      · have hd3 : decide (60 ≤ (g.evs.length : Int)) = false := decide_eq_false (by omega)
        cases th
        · by_cases hc4 : g.pk.length < 20
          · have hd4 : decide (20 ≤ (g.pk.length : Int)) = false := decide_eq_false (by omega)
            have HP : Hid (putV (vs g.evs) (vs g.pk) x.v = (0, vs g.evs, insV (vs g.pk) x.v, [])) := putV_park HN2.out (by rw [HID.out.2.2.1, HID.out.2.2.2]; omega) (by rw [HID.out.1]; exact HTH.out.symm)
            go_wp2_with fail
            refine (copy03_spec g a cap p cp w1 H1.out.evs H1.out.pk (by omega) (by omega)).mono ?_
            rintro e w4 ⟨v1, v2, r1, r2, rfl, hS1, hS2, hv1, hv2, hb4⟩
            obtain ⟨a1, c1, rfl⟩ := hS1.slice
            obtain ⟨a2, c2, rfl⟩ := hS2.slice
            have hw1 : w.heap.size ≤ w1.heap.size := H1.out.below.size
            obtain ⟨B, HB⟩ : ∃ q, Hid (q = w4.heap.size) := ⟨_, rfl⟩
            obtain ⟨w5, HW5⟩ : ∃ q, Hid (q = w4.alloc (.cells #[.int .i64 g.room, .slice a1 r1.length c1, .slice a2 r2.length c2, .slice none 0 0, .int .i64 0] 34)) := ⟨_, rfl⟩
            have LL : Hid (r1.length = g.evs.length ∧ r2.length = g.pk.length) := ⟨by rw [← vs_length, hv1, vs_length], by rw [← vs_length, hv2, vs_length]⟩
            have l1 : r1.length < 60 := by have := LL.out; omega
            have l2 : r2.length ≤ 20 := by have := LL.out; omega
            have H5 : Hid (SA w g x B (.slice a1 r1.length c1) (.slice a2 r2.length c2) (.slice none 0 0) w5 ∧ SR w.heap.size r1 r2 [] (.slice a1 r1.length c1) (.slice a2 r2.length c2) (.slice none 0 0) w5 ∧ vs r1 = vs g.evs ∧ vs r2 = vs g.pk) := by
              rw [HW5.out, HB.out]
              have hb5 : Below w4.heap.size w4 (w4.alloc (.cells #[.int .i64 g.room, .slice a1 r1.length c1, .slice a2 r2.length c2, .slice none 0 0, .int .i64 0] 34)) := (Below.refl _ _).alloc (Nat.le_refl _) _
              have hpi := (H1.out.on hb4).on hb5
              have hlt4 := (H1.out.on hb4).lt
              have sm : ∀ (l r : List Em), vs r = vs l → (∀ m ∈ l, OkM m) → ∀ m ∈ r, m.v.prev.length ≤ 1000 := fun l r hvr hok m hm => by
                have hmv : m.v ∈ vs l := by rw [← hvr]; exact List.mem_map.2 ⟨m, hm, rfl⟩
                obtain ⟨k, hk, hkv⟩ := List.mem_map.1 hmv
                have := (hok k hk).2.2.2
                rw [hkv] at this
                omega
              refine ⟨⟨hpi.below, hpi.ebox, hpi.obox, (MapKept.heap_alloc w4 _).1, by omega⟩, ⟨(hS1.low hw1).kept hb5, (hS2.low hw1).kept hb5, NumsOwn.nil _ _, fun m hm q hq c => (by cases c), fun m hm => hm.elim (sm _ _ hv1 (fun k hk => HX.out.2.1 k (.inl hk)) m) (sm _ _ hv2 (fun k hk => HX.out.2.1 k (.inr hk)) m), by omega, by omega⟩, hv1, hv2⟩
            clear hS1 hS2 hv1 hv2 hb4
            clear k0 k1 k2 e0 e1 e2 e3 e4 e5 e6 e7 e8 o0 o1 o2 o3 o4 of
            have hlo := H5.out.1.lo
            have hne : ¬ B = w.heap.size + 2 := by omega
            have hne' : ¬ w.heap.size + 2 = B := by omega
            have b0 : w5.cell? ⟨B, 0, none⟩ = some (.int .i64 g.room) := cell_of_heap H5.out.1.out
            have b1 : w5.cell? ⟨B, 1, none⟩ = some (.slice a1 r1.length c1) := cell_of_heap H5.out.1.out
            have b2 : w5.cell? ⟨B, 2, none⟩ = some (.slice a2 r2.length c2) := cell_of_heap H5.out.1.out
            have b3 : w5.cell? ⟨B, 3, none⟩ = some (.slice none 0 0) := cell_of_heap H5.out.1.out
            have b4 : w5.cell? ⟨B, 4, none⟩ = some (.int .i64 0) := cell_of_heap H5.out.1.out
            have bf : ∀ o, w5.frozen? ⟨B, o, none⟩ = false := fun o => frozen_of_heap H5.out.1.out
            have e0 : w5.cell? ⟨w.heap.size + 1, 0, none⟩ = some (.int .i64 x.v.id) := cell_of_heap H5.out.1.ebox
            have e1 : w5.cell? ⟨w.heap.size + 1, 1, none⟩ = some (.int .i64 x.v.room) := cell_of_heap H5.out.1.ebox
            have e2 : w5.cell? ⟨w.heap.size + 1, 2, none⟩ = some (.int .i64 x.v.author) := cell_of_heap H5.out.1.ebox
            have e3 : w5.cell? ⟨w.heap.size + 1, 3, none⟩ = some (.int .i64 x.v.kind) := cell_of_heap H5.out.1.ebox
            have e4 : w5.cell? ⟨w.heap.size + 1, 4, none⟩ = some (.int .i64 x.v.key) := cell_of_heap H5.out.1.ebox
            have e5 : w5.cell? ⟨w.heap.size + 1, 5, none⟩ = some (.int .i64 x.v.n) := cell_of_heap H5.out.1.ebox
            have e6 : w5.cell? ⟨w.heap.size + 1, 6, none⟩ = some (.string x.v.text) := cell_of_heap H5.out.1.ebox
            have e7 : w5.cell? ⟨w.heap.size + 1, 7, none⟩ = some (.slice x.p x.v.prev.length x.c) := cell_of_heap H5.out.1.ebox
            have e8 : w5.cell? ⟨w.heap.size + 1, 8, none⟩ = some (.int .i64 x.v.time) := cell_of_heap H5.out.1.ebox
            go_wp2
            rw [← HW5.out, ← HB.out]
            refine wp_region_any (by kernel_rfl) ?_
            change wpAny _ _ _ _ _ _ _ (World.drew _)
            refine wpAny_take (i := 0) (v := (.pointer (some ⟨B, 0, none⟩))) rfl (by kernel_rfl) (by kernel_rfl) (by kernel_rfl) (fun _ _ _ h => h) (Or.inl ⟨by kernel_rfl, ?_⟩) ?_
            · intro w
              go_simp
            refine wpAny_take (i := 1) (v := (.pointer (some ⟨B, 0, none⟩))) rfl (by kernel_rfl) (by kernel_rfl) (by kernel_rfl) (fun _ _ _ h => h) (Or.inl ⟨by kernel_rfl, ?_⟩) ?_
            · intro w
              go_simp
            refine wpAny_take (i := 2) (v := (.pointer (some ⟨B, 0, none⟩))) rfl (by kernel_rfl) (by kernel_rfl) (by kernel_rfl) (fun _ _ _ h => h) (Or.inl ⟨by kernel_rfl, ?_⟩) ?_
            · intro w
              go_simp
            refine wpAny_take (i := 3) (v := (.pointer (some ⟨B, 2, none⟩))) rfl (by kernel_rfl) (by kernel_rfl) (by kernel_rfl) (fun _ _ _ h => h) (Or.inl ⟨by kernel_rfl, ?_⟩) ?_
            · intro w
              go_simp
            refine wpAny_ready (rs := [4, 5]) (by kernel_rfl) (by simp) ?_
            refine AllReady.cons rfl (fun K hK => ?_) (AllReady.cons rfl (fun K hK => ?_) AllReady.nil)
            · go_simp
              refine hK _ _ ?_
              clear hK K
              refine wpAny_ready (rs := [5]) (by kernel_rfl) (by simp) ?_
              refine AllReady.cons rfl (fun K hK => ?_) AllReady.nil
              go_simp
              refine hK _ _ ?_
              clear hK K
              refine wpAny_ready (rs := [6]) (by kernel_rfl) (by simp) ?_
              refine AllReady.cons rfl (fun K hK => ?_) AllReady.nil
              go_simp
              refine (put03_S w.heap.size (.slice a2 r2.length c2) r2 x _ (H5.out.2.1.o2.kept (Below.refl _ _).drew) (HN.out.2.2.kept (H5.out.1.below.drew)) (by omega) (H5.out.1.below.drew).size).mono ?_
              rintro e w6 ⟨v6, a6, c6, rfl, hS6, hf6, hb6⟩
              obtain ⟨a7, c7, rfl⟩ := hS6.slice
              have hb6d : Below w5.heap.size w5 w6 := ⟨hb6.os, hb6.tape, hb6.output, hb6.size, hb6.block⟩
              have H6 : Hid (SA w g x B (.slice a1 r1.length c1) (.slice a2 r2.length c2) (.slice none 0 0) w6 ∧ SR w.heap.size r1 (insE r2 (Em.mk x.v a6 c6)) [] (.slice a1 r1.length c1) (.slice a7 (insE r2 (Em.mk x.v a6 c6)).length c7) (.slice none 0 0) w6) := ⟨H5.out.1.on hb6d, H5.out.2.1.put2 hS6 hf6 (Nat.le_trans HX.out.1.2.2.2 (by decide)) (by omega) hb6d⟩
              clear hS6 hf6 hb6 hb6d
              clear b0 b1 b2 b3 b4 bf e0 e1 e2 e3 e4 e5 e6 e7 e8
              have b0 : w6.cell? ⟨B, 0, none⟩ = some (.int .i64 g.room) := cell_of_heap H6.out.1.out
              have b1 : w6.cell? ⟨B, 1, none⟩ = some (.slice a1 r1.length c1) := cell_of_heap H6.out.1.out
              have b2 : w6.cell? ⟨B, 2, none⟩ = some (.slice a2 r2.length c2) := cell_of_heap H6.out.1.out
              have b3 : w6.cell? ⟨B, 3, none⟩ = some (.slice none 0 0) := cell_of_heap H6.out.1.out
              have b4 : w6.cell? ⟨B, 4, none⟩ = some (.int .i64 0) := cell_of_heap H6.out.1.out
              have bf : ∀ o, w6.frozen? ⟨B, o, none⟩ = false := fun o => frozen_of_heap H6.out.1.out
              have o0 : w6.cell? ⟨w.heap.size + 2, 0, none⟩ = some (.int .i64 0) := cell_of_heap H6.out.1.rbox
              have o1 : w6.cell? ⟨w.heap.size + 2, 1, none⟩ = some (.slice none 0 0) := cell_of_heap H6.out.1.rbox
              have o2 : w6.cell? ⟨w.heap.size + 2, 2, none⟩ = some (.slice none 0 0) := cell_of_heap H6.out.1.rbox
              have o3 : w6.cell? ⟨w.heap.size + 2, 3, none⟩ = some (.slice none 0 0) := cell_of_heap H6.out.1.rbox
              have o4 : w6.cell? ⟨w.heap.size + 2, 4, none⟩ = some (.int .i64 0) := cell_of_heap H6.out.1.rbox
              have of : ∀ o, w6.frozen? ⟨w.heap.size + 2, o, none⟩ = false := fun o => frozen_of_heap H6.out.1.rbox
              refine hK _ _ ?_
              clear hK K
              refine wpAny_take (i := 7) (v := (.pointer (some ⟨B, 0, none⟩))) rfl (by kernel_rfl) (by kernel_rfl) (by kernel_rfl) (fun _ _ _ h => h) (Or.inl ⟨by kernel_rfl, ?_⟩) ?_
              · intro w
                go_simp
              refine wpAny_take (i := 8) (v := (.pointer (some ⟨B, 2, none⟩))) rfl (by kernel_rfl) (by kernel_rfl) (by kernel_rfl) (fun _ _ _ h => h) (Or.inl ⟨by kernel_rfl, ?_⟩) ?_
              · intro w
                go_simp
              refine wpAny_ready (rs := [9]) (by kernel_rfl) (by simp) ?_
              refine AllReady.cons rfl (fun K hK => ?_) AllReady.nil
              go_simp
              refine hK _ _ ?_
              clear hK K
              refine wpAny_done (by kernel_rfl) ?_ _
              go_wp2
              have HS : Hid (SR w.heap.size r1 (insE r2 (Em.mk x.v a6 c6)) [] (.slice a1 r1.length c1) (.slice a7 (insE r2 (Em.mk x.v a6 c6)).length c7) (.slice none 0 0) (w6.setCell ⟨B, 2, none⟩ (.slice a7 (insE r2 (Em.mk x.v a6 c6)).length c7)) ∧ SA w g x B (.slice a1 r1.length c1) (.slice a7 (insE r2 (Em.mk x.v a6 c6)).length c7) (.slice none 0 0) (w6.setCell ⟨B, 2, none⟩ (.slice a7 (insE r2 (Em.mk x.v a6 c6)).length c7))) := ⟨H6.out.2.setX H6.out.1.out _, H6.out.1.put2 _⟩
              refine bodyPost_ret (v := .agg #[.int .i64 g.room, .slice a1 r1.length c1, .slice a7 (insE r2 (Em.mk x.v a6 c6)).length c7, .slice none 0 0, .int .i64 0]) (by simp [results, Tryz.results48, go_sem, o0, o1, o2, o3, o4]) rfl ⟨below5 HS.out.2.below _ _ _ _ _, .inr ⟨vs g.evs, insV (vs g.pk) x.v, [], a1, c1, a7, c7, none, 0, r1, insE r2 (Em.mk x.v a6 c6), HP.out, rfl, H5.out.2.2.1, by rw [vs_insE, H5.out.2.2.2], HS.out.1.o1.set5 HS.out.2.rbox _ _ _ _ _, HS.out.1.o2.set5 HS.out.2.rbox _ _ _ _ _, HS.out.1.o3.set5 HS.out.2.rbox _ _ _ _ _⟩⟩
            · go_simp
              refine hK _ _ ?_
              clear hK K
              refine wpAny_ready (rs := [4]) (by kernel_rfl) (by simp) ?_
              refine AllReady.cons rfl (fun K hK => ?_) AllReady.nil
              go_simp
              refine hK _ _ ?_
              clear hK K
              refine wpAny_ready (rs := [6]) (by kernel_rfl) (by simp) ?_
              refine AllReady.cons rfl (fun K hK => ?_) AllReady.nil
              go_simp
              refine (put03_S w.heap.size (.slice a2 r2.length c2) r2 x _ (H5.out.2.1.o2.kept (Below.refl _ _).drew) (HN.out.2.2.kept (H5.out.1.below.drew)) (by omega) (H5.out.1.below.drew).size).mono ?_
              rintro e w6 ⟨v6, a6, c6, rfl, hS6, hf6, hb6⟩
              obtain ⟨a7, c7, rfl⟩ := hS6.slice
              have hb6d : Below w5.heap.size w5 w6 := ⟨hb6.os, hb6.tape, hb6.output, hb6.size, hb6.block⟩
              have H6 : Hid (SA w g x B (.slice a1 r1.length c1) (.slice a2 r2.length c2) (.slice none 0 0) w6 ∧ SR w.heap.size r1 (insE r2 (Em.mk x.v a6 c6)) [] (.slice a1 r1.length c1) (.slice a7 (insE r2 (Em.mk x.v a6 c6)).length c7) (.slice none 0 0) w6) := ⟨H5.out.1.on hb6d, H5.out.2.1.put2 hS6 hf6 (Nat.le_trans HX.out.1.2.2.2 (by decide)) (by omega) hb6d⟩
              clear hS6 hf6 hb6 hb6d
              clear b0 b1 b2 b3 b4 bf e0 e1 e2 e3 e4 e5 e6 e7 e8
              have b0 : w6.cell? ⟨B, 0, none⟩ = some (.int .i64 g.room) := cell_of_heap H6.out.1.out
              have b1 : w6.cell? ⟨B, 1, none⟩ = some (.slice a1 r1.length c1) := cell_of_heap H6.out.1.out
              have b2 : w6.cell? ⟨B, 2, none⟩ = some (.slice a2 r2.length c2) := cell_of_heap H6.out.1.out
              have b3 : w6.cell? ⟨B, 3, none⟩ = some (.slice none 0 0) := cell_of_heap H6.out.1.out
              have b4 : w6.cell? ⟨B, 4, none⟩ = some (.int .i64 0) := cell_of_heap H6.out.1.out
              have bf : ∀ o, w6.frozen? ⟨B, o, none⟩ = false := fun o => frozen_of_heap H6.out.1.out
              have o0 : w6.cell? ⟨w.heap.size + 2, 0, none⟩ = some (.int .i64 0) := cell_of_heap H6.out.1.rbox
              have o1 : w6.cell? ⟨w.heap.size + 2, 1, none⟩ = some (.slice none 0 0) := cell_of_heap H6.out.1.rbox
              have o2 : w6.cell? ⟨w.heap.size + 2, 2, none⟩ = some (.slice none 0 0) := cell_of_heap H6.out.1.rbox
              have o3 : w6.cell? ⟨w.heap.size + 2, 3, none⟩ = some (.slice none 0 0) := cell_of_heap H6.out.1.rbox
              have o4 : w6.cell? ⟨w.heap.size + 2, 4, none⟩ = some (.int .i64 0) := cell_of_heap H6.out.1.rbox
              have of : ∀ o, w6.frozen? ⟨w.heap.size + 2, o, none⟩ = false := fun o => frozen_of_heap H6.out.1.rbox
              refine hK _ _ ?_
              clear hK K
              refine wpAny_take (i := 7) (v := (.pointer (some ⟨B, 0, none⟩))) rfl (by kernel_rfl) (by kernel_rfl) (by kernel_rfl) (fun _ _ _ h => h) (Or.inl ⟨by kernel_rfl, ?_⟩) ?_
              · intro w
                go_simp
              refine wpAny_take (i := 8) (v := (.pointer (some ⟨B, 2, none⟩))) rfl (by kernel_rfl) (by kernel_rfl) (by kernel_rfl) (fun _ _ _ h => h) (Or.inl ⟨by kernel_rfl, ?_⟩) ?_
              · intro w
                go_simp
              refine wpAny_ready (rs := [9]) (by kernel_rfl) (by simp) ?_
              refine AllReady.cons rfl (fun K hK => ?_) AllReady.nil
              go_simp
              refine hK _ _ ?_
              clear hK K
              refine wpAny_done (by kernel_rfl) ?_ _
              go_wp2
              have HS : Hid (SR w.heap.size r1 (insE r2 (Em.mk x.v a6 c6)) [] (.slice a1 r1.length c1) (.slice a7 (insE r2 (Em.mk x.v a6 c6)).length c7) (.slice none 0 0) (w6.setCell ⟨B, 2, none⟩ (.slice a7 (insE r2 (Em.mk x.v a6 c6)).length c7)) ∧ SA w g x B (.slice a1 r1.length c1) (.slice a7 (insE r2 (Em.mk x.v a6 c6)).length c7) (.slice none 0 0) (w6.setCell ⟨B, 2, none⟩ (.slice a7 (insE r2 (Em.mk x.v a6 c6)).length c7))) := ⟨H6.out.2.setX H6.out.1.out _, H6.out.1.put2 _⟩
              refine bodyPost_ret (v := .agg #[.int .i64 g.room, .slice a1 r1.length c1, .slice a7 (insE r2 (Em.mk x.v a6 c6)).length c7, .slice none 0 0, .int .i64 0]) (by simp [results, Tryz.results48, go_sem, o0, o1, o2, o3, o4]) rfl ⟨below5 HS.out.2.below _ _ _ _ _, .inr ⟨vs g.evs, insV (vs g.pk) x.v, [], a1, c1, a7, c7, none, 0, r1, insE r2 (Em.mk x.v a6 c6), HP.out, rfl, H5.out.2.2.1, by rw [vs_insE, H5.out.2.2.2], HS.out.1.o1.set5 HS.out.2.rbox _ _ _ _ _, HS.out.1.o2.set5 HS.out.2.rbox _ _ _ _ _, HS.out.1.o3.set5 HS.out.2.rbox _ _ _ _ _⟩⟩
          · have hd4 : decide (20 ≤ (g.pk.length : Int)) = true := decide_eq_true (by omega)
            have HP : Hid (putV (vs g.evs) (vs g.pk) x.v = (9, [], [], [])) := putV_full HN2.out (by rw [HID.out.1, HID.out.2.2.2]; exact .inr ⟨HTH.out.symm, by omega⟩)
            go_wp2_with fail
            refine (ill_spec 9 _).mono ?_
            rintro e wi ⟨rfl, hbi⟩
            have HI : Hid (PI w g a cap p cp x wi) := H1.out.on hbi
            clear hbi
            clear k0 k1 k2 e0 e1 e2 e3 e4 e5 e6 e7 e8 o0 o1 o2 o3 o4 of
            have o0 : wi.cell? ⟨w.heap.size + 2, 0, none⟩ = some (.int .i64 0) := cell_of_heap HI.out.obox
            have o1 : wi.cell? ⟨w.heap.size + 2, 1, none⟩ = some (.slice none 0 0) := cell_of_heap HI.out.obox
            have o2 : wi.cell? ⟨w.heap.size + 2, 2, none⟩ = some (.slice none 0 0) := cell_of_heap HI.out.obox
            have o3 : wi.cell? ⟨w.heap.size + 2, 3, none⟩ = some (.slice none 0 0) := cell_of_heap HI.out.obox
            have o4 : wi.cell? ⟨w.heap.size + 2, 4, none⟩ = some (.int .i64 0) := cell_of_heap HI.out.obox
            have of : ∀ o, wi.frozen? ⟨w.heap.size + 2, o, none⟩ = false := fun o => frozen_of_heap HI.out.obox
            go_wp2
            refine bodyPost_ret (v := .agg #[.int .i64 0, .slice none 0 0, .slice none 0 0, .slice none 0 0, .int .i64 9]) (by simp [results, Tryz.results48, go_sem, o0, o1, o2, o3, o4]) rfl ⟨below5 HI.out.below _ _ _ _ _, .inl ⟨9, by decide, HP.out, rfl⟩⟩
        · have HP : Hid (putV (vs g.evs) (vs g.pk) x.v = (0, takeV (g.pk.length + 1) x.v (vs g.evs) (vs g.pk) [])) := by
            have e := putV_take (es := vs g.evs) (ps := vs g.pk) (e := x.v) HN2.out (by rw [HID.out.1, HID.out.2.2.1, ← HTH.out]; simp; omega) (by rw [HID.out.1]; exact HTH.out.symm)
            rw [HID.out.2.2.2] at e
            exact e
          go_wp2_with fail
          refine (copy03_spec g a cap p cp w1 H1.out.evs H1.out.pk (by omega) (by omega)).mono ?_
          rintro e w4 ⟨v1, v2, r1, r2, rfl, hS1, hS2, hv1, hv2, hb4⟩
          obtain ⟨a1, c1, rfl⟩ := hS1.slice
          obtain ⟨a2, c2, rfl⟩ := hS2.slice
          have hw1 : w.heap.size ≤ w1.heap.size := H1.out.below.size
          obtain ⟨B, HB⟩ : ∃ q, Hid (q = w4.heap.size) := ⟨_, rfl⟩
          obtain ⟨w5, HW5⟩ : ∃ q, Hid (q = w4.alloc (.cells #[.int .i64 g.room, .slice a1 r1.length c1, .slice a2 r2.length c2, .slice none 0 0, .int .i64 0] 34)) := ⟨_, rfl⟩
          have LL : Hid (r1.length = g.evs.length ∧ r2.length = g.pk.length) := ⟨by rw [← vs_length, hv1, vs_length], by rw [← vs_length, hv2, vs_length]⟩
          have l1 : r1.length < 60 := by have := LL.out; omega
          have l2 : r2.length ≤ 20 := by have := LL.out; omega
          have H5 : Hid (SA w g x B (.slice a1 r1.length c1) (.slice a2 r2.length c2) (.slice none 0 0) w5 ∧ SR w.heap.size r1 r2 [] (.slice a1 r1.length c1) (.slice a2 r2.length c2) (.slice none 0 0) w5 ∧ vs r1 = vs g.evs ∧ vs r2 = vs g.pk) := by
            rw [HW5.out, HB.out]
            have hb5 : Below w4.heap.size w4 (w4.alloc (.cells #[.int .i64 g.room, .slice a1 r1.length c1, .slice a2 r2.length c2, .slice none 0 0, .int .i64 0] 34)) := (Below.refl _ _).alloc (Nat.le_refl _) _
            have hpi := (H1.out.on hb4).on hb5
            have hlt4 := (H1.out.on hb4).lt
            have sm : ∀ (l r : List Em), vs r = vs l → (∀ m ∈ l, OkM m) → ∀ m ∈ r, m.v.prev.length ≤ 1000 := fun l r hvr hok m hm => by
              have hmv : m.v ∈ vs l := by rw [← hvr]; exact List.mem_map.2 ⟨m, hm, rfl⟩
              obtain ⟨k, hk, hkv⟩ := List.mem_map.1 hmv
              have := (hok k hk).2.2.2
              rw [hkv] at this
              omega
            refine ⟨⟨hpi.below, hpi.ebox, hpi.obox, (MapKept.heap_alloc w4 _).1, by omega⟩, ⟨(hS1.low hw1).kept hb5, (hS2.low hw1).kept hb5, NumsOwn.nil _ _, fun m hm q hq c => (by cases c), fun m hm => hm.elim (sm _ _ hv1 (fun k hk => HX.out.2.1 k (.inl hk)) m) (sm _ _ hv2 (fun k hk => HX.out.2.1 k (.inr hk)) m), by omega, by omega⟩, hv1, hv2⟩
          clear hS1 hS2 hv1 hv2 hb4
          clear k0 k1 k2 e0 e1 e2 e3 e4 e5 e6 e7 e8 o0 o1 o2 o3 o4 of
          have hlo := H5.out.1.lo
          have hne : ¬ B = w.heap.size + 2 := by omega
          have hne' : ¬ w.heap.size + 2 = B := by omega
          have b0 : w5.cell? ⟨B, 0, none⟩ = some (.int .i64 g.room) := cell_of_heap H5.out.1.out
          have b1 : w5.cell? ⟨B, 1, none⟩ = some (.slice a1 r1.length c1) := cell_of_heap H5.out.1.out
          have b2 : w5.cell? ⟨B, 2, none⟩ = some (.slice a2 r2.length c2) := cell_of_heap H5.out.1.out
          have b3 : w5.cell? ⟨B, 3, none⟩ = some (.slice none 0 0) := cell_of_heap H5.out.1.out
          have b4 : w5.cell? ⟨B, 4, none⟩ = some (.int .i64 0) := cell_of_heap H5.out.1.out
          have bf : ∀ o, w5.frozen? ⟨B, o, none⟩ = false := fun o => frozen_of_heap H5.out.1.out
          have e0 : w5.cell? ⟨w.heap.size + 1, 0, none⟩ = some (.int .i64 x.v.id) := cell_of_heap H5.out.1.ebox
          have e1 : w5.cell? ⟨w.heap.size + 1, 1, none⟩ = some (.int .i64 x.v.room) := cell_of_heap H5.out.1.ebox
          have e2 : w5.cell? ⟨w.heap.size + 1, 2, none⟩ = some (.int .i64 x.v.author) := cell_of_heap H5.out.1.ebox
          have e3 : w5.cell? ⟨w.heap.size + 1, 3, none⟩ = some (.int .i64 x.v.kind) := cell_of_heap H5.out.1.ebox
          have e4 : w5.cell? ⟨w.heap.size + 1, 4, none⟩ = some (.int .i64 x.v.key) := cell_of_heap H5.out.1.ebox
          have e5 : w5.cell? ⟨w.heap.size + 1, 5, none⟩ = some (.int .i64 x.v.n) := cell_of_heap H5.out.1.ebox
          have e6 : w5.cell? ⟨w.heap.size + 1, 6, none⟩ = some (.string x.v.text) := cell_of_heap H5.out.1.ebox
          have e7 : w5.cell? ⟨w.heap.size + 1, 7, none⟩ = some (.slice x.p x.v.prev.length x.c) := cell_of_heap H5.out.1.ebox
          have e8 : w5.cell? ⟨w.heap.size + 1, 8, none⟩ = some (.int .i64 x.v.time) := cell_of_heap H5.out.1.ebox
          go_wp2
          rw [← HW5.out, ← HB.out]
          refine wp_region_any (by kernel_rfl) ?_
          change wpAny _ _ _ _ _ _ _ (World.drew _)
          refine wpAny_take (i := 0) (v := (.pointer (some ⟨B, 0, none⟩))) rfl (by kernel_rfl) (by kernel_rfl) (by kernel_rfl) (fun _ _ _ h => h) (Or.inl ⟨by kernel_rfl, ?_⟩) ?_
          · intro w
            go_simp
          refine wpAny_take (i := 1) (v := (.pointer (some ⟨B, 0, none⟩))) rfl (by kernel_rfl) (by kernel_rfl) (by kernel_rfl) (fun _ _ _ h => h) (Or.inl ⟨by kernel_rfl, ?_⟩) ?_
          · intro w
            go_simp
          refine wpAny_take (i := 2) (v := (.pointer (some ⟨B, 0, none⟩))) rfl (by kernel_rfl) (by kernel_rfl) (by kernel_rfl) (fun _ _ _ h => h) (Or.inl ⟨by kernel_rfl, ?_⟩) ?_
          · intro w
            go_simp
          refine wpAny_take (i := 3) (v := (.pointer (some ⟨B, 1, none⟩))) rfl (by kernel_rfl) (by kernel_rfl) (by kernel_rfl) (fun _ _ _ h => h) (Or.inl ⟨by kernel_rfl, ?_⟩) ?_
          · intro w
            go_simp
          refine wpAny_ready (rs := [4, 5]) (by kernel_rfl) (by simp) ?_
          refine AllReady.cons rfl (fun K hK => ?_) (AllReady.cons rfl (fun K hK => ?_) AllReady.nil)
          · go_simp
            refine hK _ _ ?_
            clear hK K
            refine wpAny_ready (rs := [5]) (by kernel_rfl) (by simp) ?_
            refine AllReady.cons rfl (fun K hK => ?_) AllReady.nil
            go_simp
            refine hK _ _ ?_
            clear hK K
            refine wpAny_ready (rs := [6]) (by kernel_rfl) (by simp) ?_
            refine AllReady.cons rfl (fun K hK => ?_) AllReady.nil
            go_simp
            refine (put03_S w.heap.size (.slice a1 r1.length c1) r1 x _ (H5.out.2.1.o1.kept (Below.refl _ _).drew) (HN.out.2.2.kept (H5.out.1.below.drew)) (by omega) (H5.out.1.below.drew).size).mono ?_
            rintro e w6 ⟨v6, a6, c6, rfl, hS6, hf6, hb6⟩
            obtain ⟨a7, c7, rfl⟩ := hS6.slice
            have hb6d : Below w5.heap.size w5 w6 := ⟨hb6.os, hb6.tape, hb6.output, hb6.size, hb6.block⟩
            have H6 : Hid (SA w g x B (.slice a1 r1.length c1) (.slice a2 r2.length c2) (.slice none 0 0) w6 ∧ SR w.heap.size (insE r1 (Em.mk x.v a6 c6)) r2 [] (.slice a7 (insE r1 (Em.mk x.v a6 c6)).length c7) (.slice a2 r2.length c2) (.slice none 0 0) w6) := ⟨H5.out.1.on hb6d, H5.out.2.1.put1 hS6 hf6 (Nat.le_trans HX.out.1.2.2.2 (by decide)) l1 hb6d⟩
            clear hS6 hf6 hb6 hb6d
            clear b0 b1 b2 b3 b4 bf e0 e1 e2 e3 e4 e5 e6 e7 e8
            have b0 : w6.cell? ⟨B, 0, none⟩ = some (.int .i64 g.room) := cell_of_heap H6.out.1.out
            have b1 : w6.cell? ⟨B, 1, none⟩ = some (.slice a1 r1.length c1) := cell_of_heap H6.out.1.out
            have b2 : w6.cell? ⟨B, 2, none⟩ = some (.slice a2 r2.length c2) := cell_of_heap H6.out.1.out
            have b3 : w6.cell? ⟨B, 3, none⟩ = some (.slice none 0 0) := cell_of_heap H6.out.1.out
            have b4 : w6.cell? ⟨B, 4, none⟩ = some (.int .i64 0) := cell_of_heap H6.out.1.out
            have bf : ∀ o, w6.frozen? ⟨B, o, none⟩ = false := fun o => frozen_of_heap H6.out.1.out
            refine hK _ _ ?_
            clear hK K
            refine wpAny_take (i := 7) (v := (.pointer (some ⟨B, 0, none⟩))) rfl (by kernel_rfl) (by kernel_rfl) (by kernel_rfl) (fun _ _ _ h => h) (Or.inl ⟨by kernel_rfl, ?_⟩) ?_
            · intro w
              go_simp
            refine wpAny_take (i := 8) (v := (.pointer (some ⟨B, 1, none⟩))) rfl (by kernel_rfl) (by kernel_rfl) (by kernel_rfl) (fun _ _ _ h => h) (Or.inl ⟨by kernel_rfl, ?_⟩) ?_
            · intro w
              go_simp
            refine wpAny_ready (rs := [9]) (by kernel_rfl) (by simp) ?_
            refine AllReady.cons rfl (fun K hK => ?_) AllReady.nil
            go_simp
            refine hK _ _ ?_
            clear hK K
            refine wpAny_done (by kernel_rfl) ?_ _
            obtain ⟨w7, HW7⟩ : ∃ q, Hid (q = w6.setCell ⟨B, 1, none⟩ (.slice a7 (insE r1 (Em.mk x.v a6 c6)).length c7)) := ⟨_, rfl⟩
            have HS : Hid (SR w.heap.size (insE r1 (Em.mk x.v a6 c6)) r2 [] (.slice a7 (insE r1 (Em.mk x.v a6 c6)).length c7) (.slice a2 r2.length c2) (.slice none 0 0) w7 ∧ SA w g x B (.slice a7 (insE r1 (Em.mk x.v a6 c6)).length c7) (.slice a2 r2.length c2) (.slice none 0 0) w7) := by rw [HW7.out]; exact ⟨H6.out.2.setX H6.out.1.out _, H6.out.1.put1 _⟩
            rw [← HW7.out]
            clear HW7 b0 b1 b2 b3 b4 bf
            have b0 : w7.cell? ⟨B, 0, none⟩ = some (.int .i64 g.room) := cell_of_heap HS.out.2.out
            have b1 : w7.cell? ⟨B, 1, none⟩ = some (.slice a7 (insE r1 (Em.mk x.v a6 c6)).length c7) := cell_of_heap HS.out.2.out
            have b2 : w7.cell? ⟨B, 2, none⟩ = some (.slice a2 r2.length c2) := cell_of_heap HS.out.2.out
            have b3 : w7.cell? ⟨B, 3, none⟩ = some (.slice none 0 0) := cell_of_heap HS.out.2.out
            have b4 : w7.cell? ⟨B, 4, none⟩ = some (.int .i64 0) := cell_of_heap HS.out.2.out
            have bf : ∀ o, w7.frozen? ⟨B, o, none⟩ = false := fun o => frozen_of_heap HS.out.2.out
            have e0 : w7.cell? ⟨w.heap.size + 1, 0, none⟩ = some (.int .i64 x.v.id) := cell_of_heap HS.out.2.ebox
            have e1 : w7.cell? ⟨w.heap.size + 1, 1, none⟩ = some (.int .i64 x.v.room) := cell_of_heap HS.out.2.ebox
            have e2 : w7.cell? ⟨w.heap.size + 1, 2, none⟩ = some (.int .i64 x.v.author) := cell_of_heap HS.out.2.ebox
            have e3 : w7.cell? ⟨w.heap.size + 1, 3, none⟩ = some (.int .i64 x.v.kind) := cell_of_heap HS.out.2.ebox
            have e4 : w7.cell? ⟨w.heap.size + 1, 4, none⟩ = some (.int .i64 x.v.key) := cell_of_heap HS.out.2.ebox
            have e5 : w7.cell? ⟨w.heap.size + 1, 5, none⟩ = some (.int .i64 x.v.n) := cell_of_heap HS.out.2.ebox
            have e6 : w7.cell? ⟨w.heap.size + 1, 6, none⟩ = some (.string x.v.text) := cell_of_heap HS.out.2.ebox
            have e7 : w7.cell? ⟨w.heap.size + 1, 7, none⟩ = some (.slice x.p x.v.prev.length x.c) := cell_of_heap HS.out.2.ebox
            have e8 : w7.cell? ⟨w.heap.size + 1, 8, none⟩ = some (.int .i64 x.v.time) := cell_of_heap HS.out.2.ebox
            have hlt7 := HS.out.2.lt
            have hne7 : ¬ B = w7.heap.size := by omega
            have hne8 : ¬ w7.heap.size = B := by omega
            go_wp2_with fail
            have H8 : Hid (SA w g x B (.slice a7 (insE r1 (Em.mk x.v a6 c6)).length c7) (.slice a2 r2.length c2) (.slice (some ⟨w7.heap.size, 0, none⟩) 1 1) ((w7.setCell ⟨B, 3, none⟩ (.slice (some ⟨w7.heap.size, 0, none⟩) 1 1)).alloc (.cells #[.int .i64 x.v.id] 2)) ∧ SR w.heap.size (insE r1 (Em.mk x.v a6 c6)) r2 [x.v.id] (.slice a7 (insE r1 (Em.mk x.v a6 c6)).length c7) (.slice a2 r2.length c2) (.slice (some ⟨w7.heap.size, 0, none⟩) 1 1) ((w7.setCell ⟨B, 3, none⟩ (.slice (some ⟨w7.heap.size, 0, none⟩) 1 1)).alloc (.cells #[.int .i64 x.v.id] 2))) := by
              have e8 := (HS.out.1.setX (o := 3) HS.out.2.out (.slice (some ⟨w7.heap.size, 0, none⟩) 1 1)).first (k := x.v.id) (by have := HS.out.2.below.size; simpa using this)
              have hsz : (w7.setCell ⟨B, 3, none⟩ (.slice (some ⟨w7.heap.size, 0, none⟩) 1 1)).heap.size = w7.heap.size := by simp
              rw [hsz] at e8
              exact ⟨(HS.out.2.put3 (.slice (some ⟨w7.heap.size, 0, none⟩) 1 1)).on ((Below.refl _ _).alloc (Nat.le_refl _) _), e8⟩
            refine (free_spec ⟨g.room, (insE r1 (Em.mk x.v a6 c6)), r2⟩ a7 c7 a2 c2 _ (H8.out.2.o1.evs (by have := H8.out.2.el; omega) (fun m hm => H8.out.2.small m (.inl hm))) (H8.out.2.o2.evs (by have := H8.out.2.pl; omega) (fun m hm => H8.out.2.small m (.inr hm)))).mono ?_
            rintro e w9 ⟨rfl, hb9⟩
            have H9 : Hid (LI w g x B (takeV (g.pk.length + 1) x.v (vs g.evs) (vs g.pk) []) (insE r1 (Em.mk x.v a6 c6)) r2 [x.v.id] (.slice a7 (insE r1 (Em.mk x.v a6 c6)).length c7) (.slice a2 r2.length c2) (.slice (some ⟨w7.heap.size, 0, none⟩) 1 1) g.pk.length w9) := by
              have hno : ∀ e ∈ vs r2, e.id ≠ x.v.id := fun e he c => HN2.out (.inr (by rw [← H5.out.2.2.2]; exact List.mem_map.2 ⟨e, he, c⟩))
              refine ⟨H8.out.1.on hb9, H8.out.2.on hb9, by unfold RisM; rw [H5.out.2.2.2]; exact HX.out.2.2.2, ?_, ?_⟩
              · have hlv : (vs g.evs).length < 60 := by rw [HID.out.2.2.1]; exact hc3
                rw [takeV_rest, if_pos hlv, if_pos hlv, ← H5.out.2.2.2, woV_none hno, vs_insE, H5.out.2.2.1]
                rfl
              · have e := congrArg List.length (vs_insE r1 (Em.mk x.v a6 c6))
                rw [vs_length, insV_length, vs_length] at e
                simp only [List.length_singleton]
                omega
            clear hb9 b0 b1 b2 b3 b4 bf e0 e1 e2 e3 e4 e5 e6 e7 e8 hne7 hne8 hlt7 H8
            have L2 : r2.length ≤ g.pk.length := by have := LL.out; omega
            go_wp2
            go_loopg [8] (g.pk.length) (fun n kk wr => ∃ (es ps : List Em) (ad : List Int) (a1 a2 a3 : Option Addr) (c1 c2 c3 : Nat), ps.length ≤ n ∧ kk = .int .i64 (freeI ⟨g.room, es, ps⟩) ∧ Hid (LI w g x B (takeV (g.pk.length + 1) x.v (vs g.evs) (vs g.pk) []) es ps ad (.slice a1 es.length c1) (.slice a2 ps.length c2) (.slice a3 ad.length c3) n wr))
            case atStart => exact ⟨_, r2, [x.v.id], a7, a2, some ⟨w7.heap.size, 0, none⟩, c7, c2, 1, L2, rfl, H9⟩
            case round =>
              clear H9 HS H5 H6 LL l1 l2 L2
              obtain ⟨es, ps, ad, a1, a2, a3, c1, c2, c3, hpn, rfl, HL⟩ := hrel
              rcases hf : freeO ⟨g.room, es, ps⟩ with _ | k
              · have hfi : freeI ⟨g.room, es, ps⟩ = -1 := by unfold freeI; rw [hf]
                rw [hfi]
                have b0 : wr.cell? ⟨B, 0, none⟩ = some (.int .i64 g.room) := cell_of_heap HL.out.sa.out
                have b1 : wr.cell? ⟨B, 1, none⟩ = some (.slice a1 es.length c1) := cell_of_heap HL.out.sa.out
                have b2 : wr.cell? ⟨B, 2, none⟩ = some (.slice a2 ps.length c2) := cell_of_heap HL.out.sa.out
                have b3 : wr.cell? ⟨B, 3, none⟩ = some (.slice a3 ad.length c3) := cell_of_heap HL.out.sa.out
                have b4 : wr.cell? ⟨B, 4, none⟩ = some (.int .i64 0) := cell_of_heap HL.out.sa.out
                have bf : ∀ o, wr.frozen? ⟨B, o, none⟩ = false := fun o => frozen_of_heap HL.out.sa.out
                have o0 : wr.cell? ⟨w.heap.size + 2, 0, none⟩ = some (.int .i64 0) := cell_of_heap HL.out.sa.rbox
                have o1 : wr.cell? ⟨w.heap.size + 2, 1, none⟩ = some (.slice none 0 0) := cell_of_heap HL.out.sa.rbox
                have o2 : wr.cell? ⟨w.heap.size + 2, 2, none⟩ = some (.slice none 0 0) := cell_of_heap HL.out.sa.rbox
                have o3 : wr.cell? ⟨w.heap.size + 2, 3, none⟩ = some (.slice none 0 0) := cell_of_heap HL.out.sa.rbox
                have o4 : wr.cell? ⟨w.heap.size + 2, 4, none⟩ = some (.int .i64 0) := cell_of_heap HL.out.sa.rbox
                have of : ∀ o, wr.frozen? ⟨w.heap.size + 2, o, none⟩ = false := fun o => frozen_of_heap HL.out.sa.rbox
                go_wp2
                have HF : Hid (putV (vs g.evs) (vs g.pk) x.v = (0, vs es, vs ps, ad)) := by
                  have e := HL.out.fin
                  rw [restV_none (by have e2 := freeO_eq ⟨g.room, es, ps⟩; rw [hf] at e2; exact e2.symm)] at e
                  unfold Hid
                  rw [HP.out, ← e]
                refine bodyPost_ret (v := .agg #[.int .i64 g.room, .slice a1 es.length c1, .slice a2 ps.length c2, .slice a3 ad.length c3, .int .i64 0]) (by simp [results, Tryz.results48, go_sem, o0, o1, o2, o3, o4]) rfl ⟨below5 HL.out.sa.below _ _ _ _ _, .inr ⟨vs es, vs ps, ad, a1, c1, a2, c2, a3, c3, es, ps, HF.out, rfl, rfl, rfl, HL.out.sr.o1.set5 HL.out.sa.rbox _ _ _ _ _, HL.out.sr.o2.set5 HL.out.sa.rbox _ _ _ _ _, HL.out.sr.o3.set5 HL.out.sa.rbox _ _ _ _ _⟩⟩
              · have hfi : freeI ⟨g.room, es, ps⟩ = (k : Int) := by unfold freeI; rw [hf]
                rw [hfi]
                obtain ⟨PS, HPS⟩ : ∃ l, Hid (l = (ps.take k ++ ps.drop (k + 1))) := ⟨_, rfl⟩
                have hfv : freeV (vs es) (vs ps) = some k := by have e2 := freeO_eq ⟨g.room, es, ps⟩; rw [hf] at e2; exact e2.symm
                have hkv := freeV_lt hfv
                have hk : k < ps.length := by rw [vs_length] at hkv; exact hkv
                have hd : decide (0 ≤ (k : Int)) = true := decide_eq_true (by omega)
                obtain ⟨n, rfl⟩ : ∃ n, gk = n + 1 := ⟨gk - 1, by omega⟩
                have hyv : (vs ps)[k] = ps[k].v := by simp [vs]
                have FN : Hid (restV n (if (vs es).length < 60 then insV (vs es) ps[k].v else vs es) (woV (vs ps) ps[k].v.id) (if (vs es).length < 60 then ad ++ [ps[k].v.id] else ad) = (takeV (g.pk.length + 1) x.v (vs g.evs) (vs g.pk) [])) := by
                  have e := HL.out.fin
                  rw [restV_some hfv hkv, takeV_rest, hyv] at e
                  exact e
                have RPS : Hid (vs PS = woV (vs ps) ps[k].v.id ∧ RisM PS ∧ PS.length ≤ n) := by
                  have e : vs PS = woV (vs ps) ps[k].v.id := by
                    have e2 := eraseIdx_wo HL.out.ris hkv
                    rw [hyv] at e2
                    rw [← e2, HPS.out]
                    simp [vs, List.map_take, List.map_drop]
                  refine ⟨e, by unfold RisM; rw [e]; exact woV_rises HL.out.ris, ?_⟩
                  rw [HPS.out, List.length_append, List.length_take, List.length_drop]
                  omega
                have hpl := HL.out.sr.pl
                have hPL : PS.length ≤ 1000 := by rw [HPS.out, List.length_append, List.length_take, List.length_drop]; omega
                have hpl := HL.out.sr.pl
                have hPL : PS.length ≤ 1000 := by rw [HPS.out, List.length_append, List.length_take, List.length_drop]; omega
                have hcap := HL.out.sr.o2.cap
                have hev : EvsAt wr a2 ps := HL.out.sr.o2.evs (by omega) (fun m hm => HL.out.sr.small m (.inr hm))
                skip
                obtain ⟨a2q, c2q, e2, -, -, hac⟩ := HL.out.sr.o2.1.at (by omega)
                injection e2 with e2 _ e3
                subst e2
                subst e3
                obtain ⟨b, rfl⟩ : ∃ b, a2 = some ⟨b, 0, none⟩ := by
                  rcases hac with ⟨rfl, rfl⟩ | ⟨q, rfl, -⟩
                  · exact absurd hcap (by omega)
                  · exact ⟨q, rfl⟩
                clear hac
                obtain ⟨b', off, hbo, hbb, hcell⟩ := hev.row (by omega)
                obtain ⟨rfl, rfl⟩ : b = b' ∧ 0 = off := by simpa using hbo
                clear hbo
                have hc0 : wr.cell? ⟨b, k * 9, none⟩ = some (.int .i64 ps[k].v.id) := by have := hcell k hk 0 (by omega); rwa [Nat.zero_add] at this
                have hc1 : wr.cell? ⟨b, k * 9 + 1, none⟩ = some (.int .i64 ps[k].v.room) := by have := hcell k hk 1 (by omega); rwa [Nat.zero_add] at this
                have hc2 : wr.cell? ⟨b, k * 9 + 2, none⟩ = some (.int .i64 ps[k].v.author) := by have := hcell k hk 2 (by omega); rwa [Nat.zero_add] at this
                have hc3 : wr.cell? ⟨b, k * 9 + 3, none⟩ = some (.int .i64 ps[k].v.kind) := by have := hcell k hk 3 (by omega); rwa [Nat.zero_add] at this
                have hc4 : wr.cell? ⟨b, k * 9 + 4, none⟩ = some (.int .i64 ps[k].v.key) := by have := hcell k hk 4 (by omega); rwa [Nat.zero_add] at this
                have hc5 : wr.cell? ⟨b, k * 9 + 5, none⟩ = some (.int .i64 ps[k].v.n) := by have := hcell k hk 5 (by omega); rwa [Nat.zero_add] at this
                have hc6 : wr.cell? ⟨b, k * 9 + 6, none⟩ = some (.string ps[k].v.text) := by have := hcell k hk 6 (by omega); rwa [Nat.zero_add] at this
                have hc7 : wr.cell? ⟨b, k * 9 + 7, none⟩ = some (.slice ps[k].p ps[k].v.prev.length ps[k].c) := by have := hcell k hk 7 (by omega); rwa [Nat.zero_add] at this
                have hc8 : wr.cell? ⟨b, k * 9 + 8, none⟩ = some (.int .i64 ps[k].v.time) := by have := hcell k hk 8 (by omega); rwa [Nat.zero_add] at this
                have SMY : Hid (ps[k].v.prev.length ≤ 1000) := HL.out.sr.small _ (.inr (List.getElem_mem hk))
                have HXO : Hid (Below wr.heap.size wr (wr.alloc (.cells #[.int .i64 ps[k].v.id, .int .i64 ps[k].v.room, .int .i64 ps[k].v.author, .int .i64 ps[k].v.kind, .int .i64 ps[k].v.key, .int .i64 ps[k].v.n, .string ps[k].v.text, .slice ps[k].p ps[k].v.prev.length ps[k].c, .int .i64 ps[k].v.time] 37)) ∧ (wr.alloc (.cells #[.int .i64 ps[k].v.id, .int .i64 ps[k].v.room, .int .i64 ps[k].v.author, .int .i64 ps[k].v.kind, .int .i64 ps[k].v.key, .int .i64 ps[k].v.n, .string ps[k].v.text, .slice ps[k].p ps[k].v.prev.length ps[k].c, .int .i64 ps[k].v.time] 37)).heap[wr.heap.size]? = some (.cells #[.int .i64 ps[k].v.id, .int .i64 ps[k].v.room, .int .i64 ps[k].v.author, .int .i64 ps[k].v.kind, .int .i64 ps[k].v.key, .int .i64 ps[k].v.n, .string ps[k].v.text, .slice ps[k].p ps[k].v.prev.length ps[k].c, .int .i64 ps[k].v.time] 37 (0, 0))) := ⟨(Below.refl _ _).alloc (Nat.le_refl _) _, (MapKept.heap_alloc _ _).1⟩
                have SW : Hid (∀ W, Below (wr.heap.size + 1) (wr.alloc (.cells #[.int .i64 ps[k].v.id, .int .i64 ps[k].v.room, .int .i64 ps[k].v.author, .int .i64 ps[k].v.kind, .int .i64 ps[k].v.key, .int .i64 ps[k].v.n, .string ps[k].v.text, .slice ps[k].p ps[k].v.prev.length ps[k].c, .int .i64 ps[k].v.time] 37)) W → SA w g x B (.slice a1 es.length c1) (.slice (some ⟨b, 0, none⟩) ps.length c2) (.slice a3 ad.length c3) W) := fun W hW => HL.out.sa.on (HXO.out.1.trans (hW.mono (by omega)))
                have HMR : Hid (∀ W, Below (wr.heap.size + 1) (wr.alloc (.cells #[.int .i64 ps[k].v.id, .int .i64 ps[k].v.room, .int .i64 ps[k].v.author, .int .i64 ps[k].v.kind, .int .i64 ps[k].v.key, .int .i64 ps[k].v.n, .string ps[k].v.text, .slice ps[k].p ps[k].v.prev.length ps[k].c, .int .i64 ps[k].v.time] 37)) W → EmsRow W (some ⟨b, 0, none⟩) ps) := fun W hW => hev.ems.kept (HXO.out.1.trans (hW.mono (by omega)))
                have hyo : wr.ownsRow w.heap.size 2 1 (.slice ps[k].p ps[k].v.prev.length ps[k].c) ps[k].v.prev.length (nv ps[k].v.prev) := HL.out.sr.o2.2 _ (List.getElem_mem hk)
                have SX : Hid (∀ W v, Below (wr.heap.size + 1) (wr.alloc (.cells #[.int .i64 ps[k].v.id, .int .i64 ps[k].v.room, .int .i64 ps[k].v.author, .int .i64 ps[k].v.kind, .int .i64 ps[k].v.key, .int .i64 ps[k].v.n, .string ps[k].v.text, .slice ps[k].p ps[k].v.prev.length ps[k].c, .int .i64 ps[k].v.time] 37)) W → EmsOwn W (wr.heap.size + 1) v PS → SA w g x B (.slice a1 es.length c1) (.slice (some ⟨b, 0, none⟩) ps.length c2) (.slice a3 ad.length c3) W ∧ SR w.heap.size es PS ad (.slice a1 es.length c1) v (.slice a3 ad.length c3) W ∧ W.heap[wr.heap.size]? = some (.cells #[.int .i64 ps[k].v.id, .int .i64 ps[k].v.room, .int .i64 ps[k].v.author, .int .i64 ps[k].v.kind, .int .i64 ps[k].v.key, .int .i64 ps[k].v.n, .string ps[k].v.text, .slice ps[k].p ps[k].v.prev.length ps[k].c, .int .i64 ps[k].v.time] 37 (0, 0)) ∧ W.ownsRow w.heap.size 2 1 (.slice ps[k].p ps[k].v.prev.length ps[k].c) ps[k].v.prev.length (nv ps[k].v.prev)) := fun W v hW ho => by
                  have hb : Below wr.heap.size wr W := HXO.out.1.trans (hW.mono (by omega))
                  refine ⟨SW.out W hW, HL.out.sr.rest hb (owns_baseC ho (by have := HL.out.sa.below.size; omega)) (fun m hm => ?_) (by rw [HPS.out, List.length_append, List.length_take, List.length_drop]; omega), (hW.block _ (by omega)).trans HXO.out.2, rowI_kept hyo hb⟩
                  rw [HPS.out] at hm
                  rcases List.mem_append.1 hm with hm | hm
                  · exact List.mem_of_mem_take hm
                  · exact List.mem_of_mem_drop hm
                have HM : Hid (EmsOwn ((wr.alloc (.cells #[.int .i64 ps[k].v.id, .int .i64 ps[k].v.room, .int .i64 ps[k].v.author, .int .i64 ps[k].v.kind, .int .i64 ps[k].v.key, .int .i64 ps[k].v.n, .string ps[k].v.text, .slice ps[k].p ps[k].v.prev.length ps[k].c, .int .i64 ps[k].v.time] 37)).alloc (.cells #[] 37)) (wr.heap.size + 1) (.slice (some ⟨wr.heap.size + 1, 0, none⟩) 0 0) [] ∧ Below (wr.heap.size + 1) (wr.alloc (.cells #[.int .i64 ps[k].v.id, .int .i64 ps[k].v.room, .int .i64 ps[k].v.author, .int .i64 ps[k].v.kind, .int .i64 ps[k].v.key, .int .i64 ps[k].v.n, .string ps[k].v.text, .slice ps[k].p ps[k].v.prev.length ps[k].c, .int .i64 ps[k].v.time] 37)) ((wr.alloc (.cells #[.int .i64 ps[k].v.id, .int .i64 ps[k].v.room, .int .i64 ps[k].v.author, .int .i64 ps[k].v.kind, .int .i64 ps[k].v.key, .int .i64 ps[k].v.n, .string ps[k].v.text, .slice ps[k].p ps[k].v.prev.length ps[k].c, .int .i64 ps[k].v.time] 37)).alloc (.cells #[] 37))) := by
                  have e1 := EmsOwn.made (wr.alloc (.cells #[.int .i64 ps[k].v.id, .int .i64 ps[k].v.room, .int .i64 ps[k].v.author, .int .i64 ps[k].v.kind, .int .i64 ps[k].v.key, .int .i64 ps[k].v.n, .string ps[k].v.text, .slice ps[k].p ps[k].v.prev.length ps[k].c, .int .i64 ps[k].v.time] 37)) (base := wr.heap.size + 1) (by simp)
                  have e2 : (wr.alloc (.cells #[.int .i64 ps[k].v.id, .int .i64 ps[k].v.room, .int .i64 ps[k].v.author, .int .i64 ps[k].v.kind, .int .i64 ps[k].v.key, .int .i64 ps[k].v.n, .string ps[k].v.text, .slice ps[k].p ps[k].v.prev.length ps[k].c, .int .i64 ps[k].v.time] 37)).heap.size = wr.heap.size + 1 := by simp
                  rw [e2] at e1
                  exact ⟨e1, (Below.refl _ _).alloc (by simp) _⟩
                skip
                have htk : (ps.take k).length = k := by simp; omega
                have hBX : wr.heap.size ≠ B := by have := HL.out.sa.lt; omega
                have hBX2 : ¬ B = wr.heap.size := by have := HL.out.sa.lt; omega
                have hBL := HL.out.sa.lt
                have hBL2 : B < wr.heap.size + 1 := by omega
                have hBX3 : ¬ B = wr.heap.size + 1 := by have := HL.out.sa.lt; omega
                clear hcell hev hfv hkv hyv
                have b0 : wr.cell? ⟨B, 0, none⟩ = some (.int .i64 g.room) := cell_of_heap HL.out.sa.out
                have b1 : wr.cell? ⟨B, 1, none⟩ = some (.slice a1 es.length c1) := cell_of_heap HL.out.sa.out
                have b2 : wr.cell? ⟨B, 2, none⟩ = some (.slice (some ⟨b, 0, none⟩) ps.length c2) := cell_of_heap HL.out.sa.out
                have b3 : wr.cell? ⟨B, 3, none⟩ = some (.slice a3 ad.length c3) := cell_of_heap HL.out.sa.out
                have b4 : wr.cell? ⟨B, 4, none⟩ = some (.int .i64 0) := cell_of_heap HL.out.sa.out
                have bf : ∀ o, wr.frozen? ⟨B, o, none⟩ = false := fun o => frozen_of_heap HL.out.sa.out
                by_cases hes : es.length < 60
                · skip
                  by_cases hfull : k + 1 = c2
                  · have hck0 : c2 - (k + 1) = 0 := by omega
                    subst hfull
                    have hck0' : k + 1 - (k + 1) = 0 := by omega
                    have hde : decide ((es.length : Int) < 60) = true := decide_eq_true (by omega)
                    skip
                    go_wp2_with (first | (have hq := HA; clear hq; at_builtin; refine wpList_append_ems rfl _ _ 30 rfl i0 _ Tryz.underlying30 hi hz0 hz1 hz2 rfl (wr.heap.size + 1) _ (ps.take k) rfl HA.out.1 (some ⟨b, 0, none⟩) 0 (ps.drop (k + 1)) (by rw [List.drop_eq_nil_of_le (by omega)]; exact EmsRow.empty _) (by rw [List.length_drop]; rw [show ps.length - (k + 1) = 0 by omega]; rfl) (by simp; omega) (by have := HA.out.2.size; simpa using this) ?_; intro v11 w11 hO hb _ _; rw [← HPS.out] at hO; obtain ⟨a9, c9, rfl, -⟩ := EmsOwn.at hO (by omega); have H11 : Hid (SA w g x B (.slice a1 es.length c1) (.slice (some ⟨b, 0, none⟩) ps.length (k + 1)) (.slice a3 ad.length c3) w11 ∧ SR w.heap.size es PS ad (.slice a1 es.length c1) (.slice a9 PS.length c9) (.slice a3 ad.length c3) w11 ∧ w11.heap[wr.heap.size]? = some (.cells #[.int .i64 ps[k].v.id, .int .i64 ps[k].v.room, .int .i64 ps[k].v.author, .int .i64 ps[k].v.kind, .int .i64 ps[k].v.key, .int .i64 ps[k].v.n, .string ps[k].v.text, .slice ps[k].p ps[k].v.prev.length ps[k].c, .int .i64 ps[k].v.time] 37 (0, 0)) ∧ w11.ownsRow w.heap.size 2 1 (.slice ps[k].p ps[k].v.prev.length ps[k].c) ps[k].v.prev.length (nv ps[k].v.prev)) := SX.out _ _ (HA.out.2.trans hb) hO; clear hO hb; clear b0 b1 b2 b3 b4 bf; have b0 : w11.cell? ⟨B, 0, none⟩ = some (.int .i64 g.room) := cell_of_heap H11.out.1.out; have b1 : w11.cell? ⟨B, 1, none⟩ = some (.slice a1 es.length c1) := cell_of_heap H11.out.1.out; have b2 : w11.cell? ⟨B, 2, none⟩ = some (.slice (some ⟨b, 0, none⟩) ps.length (k + 1)) := cell_of_heap H11.out.1.out; have b3 : w11.cell? ⟨B, 3, none⟩ = some (.slice a3 ad.length c3) := cell_of_heap H11.out.1.out; have b4 : w11.cell? ⟨B, 4, none⟩ = some (.int .i64 0) := cell_of_heap H11.out.1.out; have bf : ∀ o, w11.frozen? ⟨B, o, none⟩ = false := fun o => frozen_of_heap H11.out.1.out) | (at_builtin; refine wpList_append_ems rfl _ _ 30 rfl i0 _ Tryz.underlying30 hi hz0 hz1 hz2 rfl (wr.heap.size + 1) _ [] rfl HM.out.1 (some ⟨b, 0, none⟩) (k + 1) (ps.take k) ((HMR.out _ HM.out.2).take k) (by rw [htk]; rfl) (by simp; omega) (by simp) ?_; intro v10 w10 hO hb _ _; obtain ⟨a8, c8, e8, -⟩ := EmsOwn.at hO (by simp; omega); rw [List.nil_append, htk] at e8; subst e8; have HA : Hid (EmsOwn w10 (wr.heap.size + 1) (.slice a8 k c8) (ps.take k) ∧ Below (wr.heap.size + 1) (wr.alloc (.cells #[.int .i64 ps[k].v.id, .int .i64 ps[k].v.room, .int .i64 ps[k].v.author, .int .i64 ps[k].v.kind, .int .i64 ps[k].v.key, .int .i64 ps[k].v.n, .string ps[k].v.text, .slice ps[k].p ps[k].v.prev.length ps[k].c, .int .i64 ps[k].v.time] 37)) w10) := ⟨hO, HM.out.2.trans hb⟩; clear hO hb; clear b0 b1 b2 b3 b4 bf; have b0 : w10.cell? ⟨B, 0, none⟩ = some (.int .i64 g.room) := cell_of_heap (SW.out _ HA.out.2).out; have b1 : w10.cell? ⟨B, 1, none⟩ = some (.slice a1 es.length c1) := cell_of_heap (SW.out _ HA.out.2).out; have b2 : w10.cell? ⟨B, 2, none⟩ = some (.slice (some ⟨b, 0, none⟩) ps.length (k + 1)) := cell_of_heap (SW.out _ HA.out.2).out; have b3 : w10.cell? ⟨B, 3, none⟩ = some (.slice a3 ad.length c3) := cell_of_heap (SW.out _ HA.out.2).out; have b4 : w10.cell? ⟨B, 4, none⟩ = some (.int .i64 0) := cell_of_heap (SW.out _ HA.out.2).out; have bf : ∀ o, w10.frozen? ⟨B, o, none⟩ = false := fun o => frozen_of_heap (SW.out _ HA.out.2).out) | fail)
                    obtain ⟨w12, HW12⟩ : ∃ q, Hid (q = w11.setCell ⟨B, 2, none⟩ (.slice a9 PS.length c9)) := ⟨_, rfl⟩
                    have H12 : Hid (SA w g x B (.slice a1 es.length c1) (.slice a9 PS.length c9) (.slice a3 ad.length c3) w12 ∧ SR w.heap.size es PS ad (.slice a1 es.length c1) (.slice a9 PS.length c9) (.slice a3 ad.length c3) w12 ∧ w12.heap[wr.heap.size]? = some (.cells #[.int .i64 ps[k].v.id, .int .i64 ps[k].v.room, .int .i64 ps[k].v.author, .int .i64 ps[k].v.kind, .int .i64 ps[k].v.key, .int .i64 ps[k].v.n, .string ps[k].v.text, .slice ps[k].p ps[k].v.prev.length ps[k].c, .int .i64 ps[k].v.time] 37 (0, 0)) ∧ w12.ownsRow w.heap.size 2 1 (.slice ps[k].p ps[k].v.prev.length ps[k].c) ps[k].v.prev.length (nv ps[k].v.prev)) := by rw [HW12.out]; exact ⟨H11.out.1.put2 _, H11.out.2.1.setX H11.out.1.out _, (Below.heap_setCell _ _ _ _ hBX).trans H11.out.2.2.1, owns_setX H11.out.2.2.2 H11.out.1.out (by decide)⟩
                    rw [← HW12.out]
                    clear HW12
                    clear b0 b1 b2 b3 b4 bf
                    skip
                    have BW : Hid (NumsAt w12.drew ps[k].p ps[k].v.prev) := rowI_at (rowI_kept H12.out.2.2.2 (Below.refl _ _).drew) (by have := SMY.out; omega)
                    have b0 : w12.cell? ⟨B, 0, none⟩ = some (.int .i64 g.room) := cell_of_heap H12.out.1.out
                    have b1 : w12.cell? ⟨B, 1, none⟩ = some (.slice a1 es.length c1) := cell_of_heap H12.out.1.out
                    have b2 : w12.cell? ⟨B, 2, none⟩ = some (.slice a9 PS.length c9) := cell_of_heap H12.out.1.out
                    have b3 : w12.cell? ⟨B, 3, none⟩ = some (.slice a3 ad.length c3) := cell_of_heap H12.out.1.out
                    have b4 : w12.cell? ⟨B, 4, none⟩ = some (.int .i64 0) := cell_of_heap H12.out.1.out
                    have bf : ∀ o, w12.frozen? ⟨B, o, none⟩ = false := fun o => frozen_of_heap H12.out.1.out
                    have f0 : w12.cell? ⟨wr.heap.size, 0, none⟩ = some (.int .i64 ps[k].v.id) := cell_of_heap H12.out.2.2.1
                    have f1 : w12.cell? ⟨wr.heap.size, 1, none⟩ = some (.int .i64 ps[k].v.room) := cell_of_heap H12.out.2.2.1
                    have f2 : w12.cell? ⟨wr.heap.size, 2, none⟩ = some (.int .i64 ps[k].v.author) := cell_of_heap H12.out.2.2.1
                    have f3 : w12.cell? ⟨wr.heap.size, 3, none⟩ = some (.int .i64 ps[k].v.kind) := cell_of_heap H12.out.2.2.1
                    have f4 : w12.cell? ⟨wr.heap.size, 4, none⟩ = some (.int .i64 ps[k].v.key) := cell_of_heap H12.out.2.2.1
                    have f5 : w12.cell? ⟨wr.heap.size, 5, none⟩ = some (.int .i64 ps[k].v.n) := cell_of_heap H12.out.2.2.1
                    have f6 : w12.cell? ⟨wr.heap.size, 6, none⟩ = some (.string ps[k].v.text) := cell_of_heap H12.out.2.2.1
                    have f7 : w12.cell? ⟨wr.heap.size, 7, none⟩ = some (.slice ps[k].p ps[k].v.prev.length ps[k].c) := cell_of_heap H12.out.2.2.1
                    have f8 : w12.cell? ⟨wr.heap.size, 8, none⟩ = some (.int .i64 ps[k].v.time) := cell_of_heap H12.out.2.2.1
                    refine wp_region_any (by kernel_rfl) ?_
                    change wpAny _ _ _ _ _ _ _ (World.drew _)
                    refine wpAny_take (i := 0) (v := (.pointer (some ⟨B, 0, none⟩))) rfl (by kernel_rfl) (by kernel_rfl) (by kernel_rfl) (fun _ _ _ h => h) (Or.inl ⟨by kernel_rfl, ?_⟩) ?_
                    · intro w
                      go_simp
                    refine wpAny_take (i := 1) (v := (.pointer (some ⟨B, 0, none⟩))) rfl (by kernel_rfl) (by kernel_rfl) (by kernel_rfl) (fun _ _ _ h => h) (Or.inl ⟨by kernel_rfl, ?_⟩) ?_
                    · intro w
                      go_simp
                    refine wpAny_take (i := 2) (v := (.pointer (some ⟨B, 0, none⟩))) rfl (by kernel_rfl) (by kernel_rfl) (by kernel_rfl) (fun _ _ _ h => h) (Or.inl ⟨by kernel_rfl, ?_⟩) ?_
                    · intro w
                      go_simp
                    refine wpAny_take (i := 3) (v := (.pointer (some ⟨B, 1, none⟩))) rfl (by kernel_rfl) (by kernel_rfl) (by kernel_rfl) (fun _ _ _ h => h) (Or.inl ⟨by kernel_rfl, ?_⟩) ?_
                    · intro w
                      go_simp
                    refine wpAny_ready (rs := [4, 5]) (by kernel_rfl) (by simp) ?_
                    refine AllReady.cons rfl (fun K hK => ?_) (AllReady.cons rfl (fun K hK => ?_) AllReady.nil)
                    · go_simp
                      refine hK _ _ ?_
                      clear hK K
                      refine wpAny_ready (rs := [5]) (by kernel_rfl) (by simp) ?_
                      refine AllReady.cons rfl (fun K hK => ?_) AllReady.nil
                      go_simp
                      refine hK _ _ ?_
                      clear hK K
                      refine wpAny_ready (rs := [6]) (by kernel_rfl) (by simp) ?_
                      refine AllReady.cons rfl (fun K hK => ?_) AllReady.nil
                      go_simp
                      refine (put03_S w.heap.size (.slice a1 es.length c1) es ps[k] _ (H12.out.2.1.o1.kept (Below.refl _ _).drew) BW.out (by have := H12.out.2.1.el; omega) (H12.out.1.below.drew).size).mono ?_
                      rintro e w13 ⟨v13, a12, c12, rfl, hS13, hf13, hb13⟩
                      obtain ⟨a13, c13, rfl⟩ := hS13.slice
                      have hb13d : Below w12.heap.size w12 w13 := ⟨hb13.os, hb13.tape, hb13.output, hb13.size, hb13.block⟩
                      have hx12 := (Array.getElem?_eq_some_iff.1 H12.out.2.2.1).1
                      have H13 : Hid (SA w g x B (.slice a1 es.length c1) (.slice a9 PS.length c9) (.slice a3 ad.length c3) w13 ∧ SR w.heap.size (insE es (Em.mk ps[k].v a12 c12)) PS ad (.slice a13 (insE es (Em.mk ps[k].v a12 c12)).length c13) (.slice a9 PS.length c9) (.slice a3 ad.length c3) w13 ∧ w13.heap[wr.heap.size]? = some (.cells #[.int .i64 ps[k].v.id, .int .i64 ps[k].v.room, .int .i64 ps[k].v.author, .int .i64 ps[k].v.kind, .int .i64 ps[k].v.key, .int .i64 ps[k].v.n, .string ps[k].v.text, .slice ps[k].p ps[k].v.prev.length ps[k].c, .int .i64 ps[k].v.time] 37 (0, 0))) := ⟨H12.out.1.on hb13d, H12.out.2.1.put1 hS13 hf13 SMY.out hes hb13d, (hb13d.block _ hx12).trans H12.out.2.2.1⟩
                      clear hS13 hf13 hb13 hb13d hx12
                      clear b0 b1 b2 b3 b4 bf
                      clear f0 f1 f2 f3 f4 f5 f6 f7 f8
                      have b0 : w13.cell? ⟨B, 0, none⟩ = some (.int .i64 g.room) := cell_of_heap H13.out.1.out
                      have b1 : w13.cell? ⟨B, 1, none⟩ = some (.slice a1 es.length c1) := cell_of_heap H13.out.1.out
                      have b2 : w13.cell? ⟨B, 2, none⟩ = some (.slice a9 PS.length c9) := cell_of_heap H13.out.1.out
                      have b3 : w13.cell? ⟨B, 3, none⟩ = some (.slice a3 ad.length c3) := cell_of_heap H13.out.1.out
                      have b4 : w13.cell? ⟨B, 4, none⟩ = some (.int .i64 0) := cell_of_heap H13.out.1.out
                      have bf : ∀ o, w13.frozen? ⟨B, o, none⟩ = false := fun o => frozen_of_heap H13.out.1.out
                      refine hK _ _ ?_
                      clear hK K
                      refine wpAny_take (i := 7) (v := (.pointer (some ⟨B, 0, none⟩))) rfl (by kernel_rfl) (by kernel_rfl) (by kernel_rfl) (fun _ _ _ h => h) (Or.inl ⟨by kernel_rfl, ?_⟩) ?_
                      · intro w
                        go_simp
                      refine wpAny_take (i := 8) (v := (.pointer (some ⟨B, 1, none⟩))) rfl (by kernel_rfl) (by kernel_rfl) (by kernel_rfl) (fun _ _ _ h => h) (Or.inl ⟨by kernel_rfl, ?_⟩) ?_
                      · intro w
                        go_simp
                      refine wpAny_ready (rs := [9]) (by kernel_rfl) (by simp) ?_
                      refine AllReady.cons rfl (fun K hK => ?_) AllReady.nil
                      go_simp
                      refine hK _ _ ?_
                      clear hK K
                      refine wpAny_done (by kernel_rfl) ?_ _
                      obtain ⟨w14, HW14⟩ : ∃ q, Hid (q = w13.setCell ⟨B, 1, none⟩ (.slice a13 (insE es (Em.mk ps[k].v a12 c12)).length c13)) := ⟨w13.setCell ⟨B, 1, none⟩ (.slice a13 (insE es (Em.mk ps[k].v a12 c12)).length c13), (rfl : w13.setCell ⟨B, 1, none⟩ (.slice a13 (insE es (Em.mk ps[k].v a12 c12)).length c13) = _)⟩
                      have H14 : Hid (SA w g x B (.slice a13 (insE es (Em.mk ps[k].v a12 c12)).length c13) (.slice a9 PS.length c9) (.slice a3 ad.length c3) w14 ∧ SR w.heap.size (insE es (Em.mk ps[k].v a12 c12)) PS ad (.slice a13 (insE es (Em.mk ps[k].v a12 c12)).length c13) (.slice a9 PS.length c9) (.slice a3 ad.length c3) w14 ∧ w14.heap[wr.heap.size]? = some (.cells #[.int .i64 ps[k].v.id, .int .i64 ps[k].v.room, .int .i64 ps[k].v.author, .int .i64 ps[k].v.kind, .int .i64 ps[k].v.key, .int .i64 ps[k].v.n, .string ps[k].v.text, .slice ps[k].p ps[k].v.prev.length ps[k].c, .int .i64 ps[k].v.time] 37 (0, 0))) := by rw [HW14.out]; exact ⟨H13.out.1.put1 _, H13.out.2.1.setX H13.out.1.out _, (Below.heap_setCell _ _ _ _ hBX).trans H13.out.2.2⟩
                      rw [← HW14.out]
                      clear HW14
                      clear b0 b1 b2 b3 b4 bf
                      have b0 : w14.cell? ⟨B, 0, none⟩ = some (.int .i64 g.room) := cell_of_heap H14.out.1.out
                      have b1 : w14.cell? ⟨B, 1, none⟩ = some (.slice a13 (insE es (Em.mk ps[k].v a12 c12)).length c13) := cell_of_heap H14.out.1.out
                      have b2 : w14.cell? ⟨B, 2, none⟩ = some (.slice a9 PS.length c9) := cell_of_heap H14.out.1.out
                      have b3 : w14.cell? ⟨B, 3, none⟩ = some (.slice a3 ad.length c3) := cell_of_heap H14.out.1.out
                      have b4 : w14.cell? ⟨B, 4, none⟩ = some (.int .i64 0) := cell_of_heap H14.out.1.out
                      have bf : ∀ o, w14.frozen? ⟨B, o, none⟩ = false := fun o => frozen_of_heap H14.out.1.out
                      have f0 : w14.cell? ⟨wr.heap.size, 0, none⟩ = some (.int .i64 ps[k].v.id) := cell_of_heap H14.out.2.2
                      have hlt14 := H14.out.1.lt
                      have hx14 := (Array.getElem?_eq_some_iff.1 H14.out.2.2).1
                      have hz14 := H14.out.1.below.size
                      have hadl : ad.length ≤ 100 := by have := HL.out.adl; have := HL.out.sr.el; omega
                      have HB14 : Hid (∀ o, Below w14.heap.size w14 (w14.alloc o)) := fun o => (Below.refl _ _).alloc (Nat.le_refl _) _
                      go_wp2_with (first | (at_builtin; refine wpList_append_intF rfl _ _ 25 rfl w.heap.size j0 _ Tryz.underlying25 hj hj0 hj1 hj2 rfl _ ad rfl (H14.out.2.1.on (HB14.out _)).o3 w14.heap.size 1 ps[k].v.id rfl (cell_of_heap (MapKept.heap_alloc _ _).1) (by omega) (by simp; omega) ?_; intro v15 w15 hO hg hn; have H15 : Hid (SA w g x B (.slice a13 (insE es (Em.mk ps[k].v a12 c12)).length c13) (.slice a9 PS.length c9) (.slice a3 ad.length c3) w15 ∧ SR w.heap.size (insE es (Em.mk ps[k].v a12 c12)) PS (ad ++ [ps[k].v.id]) (.slice a13 (insE es (Em.mk ps[k].v a12 c12)).length c13) (.slice a9 PS.length c9) v15 w15) := ⟨(H14.out.1.on (HB14.out _)).app (H14.out.2.1.on (HB14.out _)).o3 rfl hg, (H14.out.2.1.on (HB14.out _)).app hO hg hn⟩; obtain ⟨a15, c15, e15, -⟩ := NumsOwn.at hO (by simp; omega); rw [List.length_append, List.length_singleton] at e15; subst e15; clear hO hg hn; clear b0 b1 b2 b3 b4 bf; have b0 : w15.cell? ⟨B, 0, none⟩ = some (.int .i64 g.room) := cell_of_heap H15.out.1.out; have b1 : w15.cell? ⟨B, 1, none⟩ = some (.slice a13 (insE es (Em.mk ps[k].v a12 c12)).length c13) := cell_of_heap H15.out.1.out; have b2 : w15.cell? ⟨B, 2, none⟩ = some (.slice a9 PS.length c9) := cell_of_heap H15.out.1.out; have b3 : w15.cell? ⟨B, 3, none⟩ = some (.slice a3 ad.length c3) := cell_of_heap H15.out.1.out; have b4 : w15.cell? ⟨B, 4, none⟩ = some (.int .i64 0) := cell_of_heap H15.out.1.out; have bf : ∀ o, w15.frozen? ⟨B, o, none⟩ = false := fun o => frozen_of_heap H15.out.1.out) | fail)
                      have H16 : Hid (SA w g x B (.slice a13 (insE es (Em.mk ps[k].v a12 c12)).length c13) (.slice a9 PS.length c9) (.slice a15 (ad.length + 1) c15) (w15.setCell ⟨B, 3, none⟩ (.slice a15 (ad.length + 1) c15)) ∧ SR w.heap.size (insE es (Em.mk ps[k].v a12 c12)) PS (ad ++ [ps[k].v.id]) (.slice a13 (insE es (Em.mk ps[k].v a12 c12)).length c13) (.slice a9 PS.length c9) (.slice a15 (ad.length + 1) c15) (w15.setCell ⟨B, 3, none⟩ (.slice a15 (ad.length + 1) c15))) := ⟨H15.out.1.put3 _, H15.out.2.setX H15.out.1.out _⟩
                      clear H15 H14 H13 H12 H11
                      have LE13 : Hid ((insE es (Em.mk ps[k].v a12 c12)).length = es.length + 1) := by have e := congrArg List.length (vs_insE es (Em.mk ps[k].v a12 c12)); rw [vs_length, insV_length, vs_length] at e; exact e
                      refine (free_spec ⟨g.room, (insE es (Em.mk ps[k].v a12 c12)), PS⟩ _ _ _ _ _ (H16.out.2.o1.evs (by have := H16.out.2.el; omega) (fun m hm => H16.out.2.small m (.inl hm))) (H16.out.2.o2.evs (by have := H16.out.2.pl; omega) (fun m hm => H16.out.2.small m (.inr hm)))).mono ?_
                      rintro e w17 ⟨rfl, hb17⟩
                      have H17 : Hid (LI w g x B (takeV (g.pk.length + 1) x.v (vs g.evs) (vs g.pk) []) (insE es (Em.mk ps[k].v a12 c12)) PS (ad ++ [ps[k].v.id]) (.slice a13 (insE es (Em.mk ps[k].v a12 c12)).length c13) (.slice a9 PS.length c9) (.slice a15 (ad.length + 1) c15) n w17) := ⟨H16.out.1.on hb17, H16.out.2.on hb17, RPS.out.2.1, (by rw [← FN.out, if_pos (by rw [vs_length]; exact hes), if_pos (by rw [vs_length]; exact hes), vs_insE, RPS.out.1]), (by have := HL.out.adl; rw [List.length_append, LE13.out]; simpa using this)⟩
                      clear hb17 H16
                      go_wp2
                      go_roundg n
                      case measure => omega
                      case rel => exact ⟨_, _, ad ++ [ps[k].v.id], a13, a9, a15, c13, c9, c15, RPS.out.2.2, rfl, by rw [List.length_append, List.length_singleton]; exact H17⟩
                    · go_simp
                      refine hK _ _ ?_
                      clear hK K
                      refine wpAny_ready (rs := [4]) (by kernel_rfl) (by simp) ?_
                      refine AllReady.cons rfl (fun K hK => ?_) AllReady.nil
                      go_simp
                      refine hK _ _ ?_
                      clear hK K
                      refine wpAny_ready (rs := [6]) (by kernel_rfl) (by simp) ?_
                      refine AllReady.cons rfl (fun K hK => ?_) AllReady.nil
                      go_simp
                      refine (put03_S w.heap.size (.slice a1 es.length c1) es ps[k] _ (H12.out.2.1.o1.kept (Below.refl _ _).drew) BW.out (by have := H12.out.2.1.el; omega) (H12.out.1.below.drew).size).mono ?_
                      rintro e w13 ⟨v13, a12, c12, rfl, hS13, hf13, hb13⟩
                      obtain ⟨a13, c13, rfl⟩ := hS13.slice
                      have hb13d : Below w12.heap.size w12 w13 := ⟨hb13.os, hb13.tape, hb13.output, hb13.size, hb13.block⟩
                      have hx12 := (Array.getElem?_eq_some_iff.1 H12.out.2.2.1).1
                      have H13 : Hid (SA w g x B (.slice a1 es.length c1) (.slice a9 PS.length c9) (.slice a3 ad.length c3) w13 ∧ SR w.heap.size (insE es (Em.mk ps[k].v a12 c12)) PS ad (.slice a13 (insE es (Em.mk ps[k].v a12 c12)).length c13) (.slice a9 PS.length c9) (.slice a3 ad.length c3) w13 ∧ w13.heap[wr.heap.size]? = some (.cells #[.int .i64 ps[k].v.id, .int .i64 ps[k].v.room, .int .i64 ps[k].v.author, .int .i64 ps[k].v.kind, .int .i64 ps[k].v.key, .int .i64 ps[k].v.n, .string ps[k].v.text, .slice ps[k].p ps[k].v.prev.length ps[k].c, .int .i64 ps[k].v.time] 37 (0, 0))) := ⟨H12.out.1.on hb13d, H12.out.2.1.put1 hS13 hf13 SMY.out hes hb13d, (hb13d.block _ hx12).trans H12.out.2.2.1⟩
                      clear hS13 hf13 hb13 hb13d hx12
                      clear b0 b1 b2 b3 b4 bf
                      clear f0 f1 f2 f3 f4 f5 f6 f7 f8
                      have b0 : w13.cell? ⟨B, 0, none⟩ = some (.int .i64 g.room) := cell_of_heap H13.out.1.out
                      have b1 : w13.cell? ⟨B, 1, none⟩ = some (.slice a1 es.length c1) := cell_of_heap H13.out.1.out
                      have b2 : w13.cell? ⟨B, 2, none⟩ = some (.slice a9 PS.length c9) := cell_of_heap H13.out.1.out
                      have b3 : w13.cell? ⟨B, 3, none⟩ = some (.slice a3 ad.length c3) := cell_of_heap H13.out.1.out
                      have b4 : w13.cell? ⟨B, 4, none⟩ = some (.int .i64 0) := cell_of_heap H13.out.1.out
                      have bf : ∀ o, w13.frozen? ⟨B, o, none⟩ = false := fun o => frozen_of_heap H13.out.1.out
                      refine hK _ _ ?_
                      clear hK K
                      refine wpAny_take (i := 7) (v := (.pointer (some ⟨B, 0, none⟩))) rfl (by kernel_rfl) (by kernel_rfl) (by kernel_rfl) (fun _ _ _ h => h) (Or.inl ⟨by kernel_rfl, ?_⟩) ?_
                      · intro w
                        go_simp
                      refine wpAny_take (i := 8) (v := (.pointer (some ⟨B, 1, none⟩))) rfl (by kernel_rfl) (by kernel_rfl) (by kernel_rfl) (fun _ _ _ h => h) (Or.inl ⟨by kernel_rfl, ?_⟩) ?_
                      · intro w
                        go_simp
                      refine wpAny_ready (rs := [9]) (by kernel_rfl) (by simp) ?_
                      refine AllReady.cons rfl (fun K hK => ?_) AllReady.nil
                      go_simp
                      refine hK _ _ ?_
                      clear hK K
                      refine wpAny_done (by kernel_rfl) ?_ _
                      obtain ⟨w14, HW14⟩ : ∃ q, Hid (q = w13.setCell ⟨B, 1, none⟩ (.slice a13 (insE es (Em.mk ps[k].v a12 c12)).length c13)) := ⟨w13.setCell ⟨B, 1, none⟩ (.slice a13 (insE es (Em.mk ps[k].v a12 c12)).length c13), (rfl : w13.setCell ⟨B, 1, none⟩ (.slice a13 (insE es (Em.mk ps[k].v a12 c12)).length c13) = _)⟩
                      have H14 : Hid (SA w g x B (.slice a13 (insE es (Em.mk ps[k].v a12 c12)).length c13) (.slice a9 PS.length c9) (.slice a3 ad.length c3) w14 ∧ SR w.heap.size (insE es (Em.mk ps[k].v a12 c12)) PS ad (.slice a13 (insE es (Em.mk ps[k].v a12 c12)).length c13) (.slice a9 PS.length c9) (.slice a3 ad.length c3) w14 ∧ w14.heap[wr.heap.size]? = some (.cells #[.int .i64 ps[k].v.id, .int .i64 ps[k].v.room, .int .i64 ps[k].v.author, .int .i64 ps[k].v.kind, .int .i64 ps[k].v.key, .int .i64 ps[k].v.n, .string ps[k].v.text, .slice ps[k].p ps[k].v.prev.length ps[k].c, .int .i64 ps[k].v.time] 37 (0, 0))) := by rw [HW14.out]; exact ⟨H13.out.1.put1 _, H13.out.2.1.setX H13.out.1.out _, (Below.heap_setCell _ _ _ _ hBX).trans H13.out.2.2⟩
                      rw [← HW14.out]
                      clear HW14
                      clear b0 b1 b2 b3 b4 bf
                      have b0 : w14.cell? ⟨B, 0, none⟩ = some (.int .i64 g.room) := cell_of_heap H14.out.1.out
                      have b1 : w14.cell? ⟨B, 1, none⟩ = some (.slice a13 (insE es (Em.mk ps[k].v a12 c12)).length c13) := cell_of_heap H14.out.1.out
                      have b2 : w14.cell? ⟨B, 2, none⟩ = some (.slice a9 PS.length c9) := cell_of_heap H14.out.1.out
                      have b3 : w14.cell? ⟨B, 3, none⟩ = some (.slice a3 ad.length c3) := cell_of_heap H14.out.1.out
                      have b4 : w14.cell? ⟨B, 4, none⟩ = some (.int .i64 0) := cell_of_heap H14.out.1.out
                      have bf : ∀ o, w14.frozen? ⟨B, o, none⟩ = false := fun o => frozen_of_heap H14.out.1.out
                      have f0 : w14.cell? ⟨wr.heap.size, 0, none⟩ = some (.int .i64 ps[k].v.id) := cell_of_heap H14.out.2.2
                      have hlt14 := H14.out.1.lt
                      have hx14 := (Array.getElem?_eq_some_iff.1 H14.out.2.2).1
                      have hz14 := H14.out.1.below.size
                      have hadl : ad.length ≤ 100 := by have := HL.out.adl; have := HL.out.sr.el; omega
                      have HB14 : Hid (∀ o, Below w14.heap.size w14 (w14.alloc o)) := fun o => (Below.refl _ _).alloc (Nat.le_refl _) _
                      go_wp2_with (first | (at_builtin; refine wpList_append_intF rfl _ _ 25 rfl w.heap.size j0 _ Tryz.underlying25 hj hj0 hj1 hj2 rfl _ ad rfl (H14.out.2.1.on (HB14.out _)).o3 w14.heap.size 1 ps[k].v.id rfl (cell_of_heap (MapKept.heap_alloc _ _).1) (by omega) (by simp; omega) ?_; intro v15 w15 hO hg hn; have H15 : Hid (SA w g x B (.slice a13 (insE es (Em.mk ps[k].v a12 c12)).length c13) (.slice a9 PS.length c9) (.slice a3 ad.length c3) w15 ∧ SR w.heap.size (insE es (Em.mk ps[k].v a12 c12)) PS (ad ++ [ps[k].v.id]) (.slice a13 (insE es (Em.mk ps[k].v a12 c12)).length c13) (.slice a9 PS.length c9) v15 w15) := ⟨(H14.out.1.on (HB14.out _)).app (H14.out.2.1.on (HB14.out _)).o3 rfl hg, (H14.out.2.1.on (HB14.out _)).app hO hg hn⟩; obtain ⟨a15, c15, e15, -⟩ := NumsOwn.at hO (by simp; omega); rw [List.length_append, List.length_singleton] at e15; subst e15; clear hO hg hn; clear b0 b1 b2 b3 b4 bf; have b0 : w15.cell? ⟨B, 0, none⟩ = some (.int .i64 g.room) := cell_of_heap H15.out.1.out; have b1 : w15.cell? ⟨B, 1, none⟩ = some (.slice a13 (insE es (Em.mk ps[k].v a12 c12)).length c13) := cell_of_heap H15.out.1.out; have b2 : w15.cell? ⟨B, 2, none⟩ = some (.slice a9 PS.length c9) := cell_of_heap H15.out.1.out; have b3 : w15.cell? ⟨B, 3, none⟩ = some (.slice a3 ad.length c3) := cell_of_heap H15.out.1.out; have b4 : w15.cell? ⟨B, 4, none⟩ = some (.int .i64 0) := cell_of_heap H15.out.1.out; have bf : ∀ o, w15.frozen? ⟨B, o, none⟩ = false := fun o => frozen_of_heap H15.out.1.out) | fail)
                      have H16 : Hid (SA w g x B (.slice a13 (insE es (Em.mk ps[k].v a12 c12)).length c13) (.slice a9 PS.length c9) (.slice a15 (ad.length + 1) c15) (w15.setCell ⟨B, 3, none⟩ (.slice a15 (ad.length + 1) c15)) ∧ SR w.heap.size (insE es (Em.mk ps[k].v a12 c12)) PS (ad ++ [ps[k].v.id]) (.slice a13 (insE es (Em.mk ps[k].v a12 c12)).length c13) (.slice a9 PS.length c9) (.slice a15 (ad.length + 1) c15) (w15.setCell ⟨B, 3, none⟩ (.slice a15 (ad.length + 1) c15))) := ⟨H15.out.1.put3 _, H15.out.2.setX H15.out.1.out _⟩
                      clear H15 H14 H13 H12 H11
                      have LE13 : Hid ((insE es (Em.mk ps[k].v a12 c12)).length = es.length + 1) := by have e := congrArg List.length (vs_insE es (Em.mk ps[k].v a12 c12)); rw [vs_length, insV_length, vs_length] at e; exact e
                      refine (free_spec ⟨g.room, (insE es (Em.mk ps[k].v a12 c12)), PS⟩ _ _ _ _ _ (H16.out.2.o1.evs (by have := H16.out.2.el; omega) (fun m hm => H16.out.2.small m (.inl hm))) (H16.out.2.o2.evs (by have := H16.out.2.pl; omega) (fun m hm => H16.out.2.small m (.inr hm)))).mono ?_
                      rintro e w17 ⟨rfl, hb17⟩
                      have H17 : Hid (LI w g x B (takeV (g.pk.length + 1) x.v (vs g.evs) (vs g.pk) []) (insE es (Em.mk ps[k].v a12 c12)) PS (ad ++ [ps[k].v.id]) (.slice a13 (insE es (Em.mk ps[k].v a12 c12)).length c13) (.slice a9 PS.length c9) (.slice a15 (ad.length + 1) c15) n w17) := ⟨H16.out.1.on hb17, H16.out.2.on hb17, RPS.out.2.1, (by rw [← FN.out, if_pos (by rw [vs_length]; exact hes), if_pos (by rw [vs_length]; exact hes), vs_insE, RPS.out.1]), (by have := HL.out.adl; rw [List.length_append, LE13.out]; simpa using this)⟩
                      clear hb17 H16
                      go_wp2
                      go_roundg n
                      case measure => omega
                      case rel => exact ⟨_, _, ad ++ [ps[k].v.id], a13, a9, a15, c13, c9, c15, RPS.out.2.2, rfl, by rw [List.length_append, List.length_singleton]; exact H17⟩
                  · have hck1 : ¬ c2 - (k + 1) = 0 := by omega
                    have hfull2 : ¬ c2 = k + 1 := by omega
                    have hde : decide ((es.length : Int) < 60) = true := decide_eq_true (by omega)
                    skip
                    go_wp2_with (first | (have hq := HA; clear hq; at_builtin; refine wpList_append_ems rfl _ _ 30 rfl i0 _ Tryz.underlying30 hi hz0 hz1 hz2 rfl (wr.heap.size + 1) _ (ps.take k) rfl HA.out.1 (some ⟨b, (k + 1) * 9, none⟩) (c2 - (k + 1)) (ps.drop (k + 1)) (by have := (HMR.out _ HA.out.2).drop (k + 1); rwa [Nat.zero_add] at this) (by rw [List.length_drop]; rfl) (by simp; omega) (by have := HA.out.2.size; simpa using this) ?_; intro v11 w11 hO hb _ _; rw [← HPS.out] at hO; obtain ⟨a9, c9, rfl, -⟩ := EmsOwn.at hO (by omega); have H11 : Hid (SA w g x B (.slice a1 es.length c1) (.slice (some ⟨b, 0, none⟩) ps.length c2) (.slice a3 ad.length c3) w11 ∧ SR w.heap.size es PS ad (.slice a1 es.length c1) (.slice a9 PS.length c9) (.slice a3 ad.length c3) w11 ∧ w11.heap[wr.heap.size]? = some (.cells #[.int .i64 ps[k].v.id, .int .i64 ps[k].v.room, .int .i64 ps[k].v.author, .int .i64 ps[k].v.kind, .int .i64 ps[k].v.key, .int .i64 ps[k].v.n, .string ps[k].v.text, .slice ps[k].p ps[k].v.prev.length ps[k].c, .int .i64 ps[k].v.time] 37 (0, 0)) ∧ w11.ownsRow w.heap.size 2 1 (.slice ps[k].p ps[k].v.prev.length ps[k].c) ps[k].v.prev.length (nv ps[k].v.prev)) := SX.out _ _ (HA.out.2.trans hb) hO; clear hO hb; clear b0 b1 b2 b3 b4 bf; have b0 : w11.cell? ⟨B, 0, none⟩ = some (.int .i64 g.room) := cell_of_heap H11.out.1.out; have b1 : w11.cell? ⟨B, 1, none⟩ = some (.slice a1 es.length c1) := cell_of_heap H11.out.1.out; have b2 : w11.cell? ⟨B, 2, none⟩ = some (.slice (some ⟨b, 0, none⟩) ps.length c2) := cell_of_heap H11.out.1.out; have b3 : w11.cell? ⟨B, 3, none⟩ = some (.slice a3 ad.length c3) := cell_of_heap H11.out.1.out; have b4 : w11.cell? ⟨B, 4, none⟩ = some (.int .i64 0) := cell_of_heap H11.out.1.out; have bf : ∀ o, w11.frozen? ⟨B, o, none⟩ = false := fun o => frozen_of_heap H11.out.1.out) | (at_builtin; refine wpList_append_ems rfl _ _ 30 rfl i0 _ Tryz.underlying30 hi hz0 hz1 hz2 rfl (wr.heap.size + 1) _ [] rfl HM.out.1 (some ⟨b, 0, none⟩) c2 (ps.take k) ((HMR.out _ HM.out.2).take k) (by rw [htk]; rfl) (by simp; omega) (by simp) ?_; intro v10 w10 hO hb _ _; obtain ⟨a8, c8, e8, -⟩ := EmsOwn.at hO (by simp; omega); rw [List.nil_append, htk] at e8; subst e8; have HA : Hid (EmsOwn w10 (wr.heap.size + 1) (.slice a8 k c8) (ps.take k) ∧ Below (wr.heap.size + 1) (wr.alloc (.cells #[.int .i64 ps[k].v.id, .int .i64 ps[k].v.room, .int .i64 ps[k].v.author, .int .i64 ps[k].v.kind, .int .i64 ps[k].v.key, .int .i64 ps[k].v.n, .string ps[k].v.text, .slice ps[k].p ps[k].v.prev.length ps[k].c, .int .i64 ps[k].v.time] 37)) w10) := ⟨hO, HM.out.2.trans hb⟩; clear hO hb; clear b0 b1 b2 b3 b4 bf; have b0 : w10.cell? ⟨B, 0, none⟩ = some (.int .i64 g.room) := cell_of_heap (SW.out _ HA.out.2).out; have b1 : w10.cell? ⟨B, 1, none⟩ = some (.slice a1 es.length c1) := cell_of_heap (SW.out _ HA.out.2).out; have b2 : w10.cell? ⟨B, 2, none⟩ = some (.slice (some ⟨b, 0, none⟩) ps.length c2) := cell_of_heap (SW.out _ HA.out.2).out; have b3 : w10.cell? ⟨B, 3, none⟩ = some (.slice a3 ad.length c3) := cell_of_heap (SW.out _ HA.out.2).out; have b4 : w10.cell? ⟨B, 4, none⟩ = some (.int .i64 0) := cell_of_heap (SW.out _ HA.out.2).out; have bf : ∀ o, w10.frozen? ⟨B, o, none⟩ = false := fun o => frozen_of_heap (SW.out _ HA.out.2).out) | fail)
                    obtain ⟨w12, HW12⟩ : ∃ q, Hid (q = w11.setCell ⟨B, 2, none⟩ (.slice a9 PS.length c9)) := ⟨_, rfl⟩
                    have H12 : Hid (SA w g x B (.slice a1 es.length c1) (.slice a9 PS.length c9) (.slice a3 ad.length c3) w12 ∧ SR w.heap.size es PS ad (.slice a1 es.length c1) (.slice a9 PS.length c9) (.slice a3 ad.length c3) w12 ∧ w12.heap[wr.heap.size]? = some (.cells #[.int .i64 ps[k].v.id, .int .i64 ps[k].v.room, .int .i64 ps[k].v.author, .int .i64 ps[k].v.kind, .int .i64 ps[k].v.key, .int .i64 ps[k].v.n, .string ps[k].v.text, .slice ps[k].p ps[k].v.prev.length ps[k].c, .int .i64 ps[k].v.time] 37 (0, 0)) ∧ w12.ownsRow w.heap.size 2 1 (.slice ps[k].p ps[k].v.prev.length ps[k].c) ps[k].v.prev.length (nv ps[k].v.prev)) := by rw [HW12.out]; exact ⟨H11.out.1.put2 _, H11.out.2.1.setX H11.out.1.out _, (Below.heap_setCell _ _ _ _ hBX).trans H11.out.2.2.1, owns_setX H11.out.2.2.2 H11.out.1.out (by decide)⟩
                    rw [← HW12.out]
                    clear HW12
                    clear b0 b1 b2 b3 b4 bf
                    skip
                    have BW : Hid (NumsAt w12.drew ps[k].p ps[k].v.prev) := rowI_at (rowI_kept H12.out.2.2.2 (Below.refl _ _).drew) (by have := SMY.out; omega)
                    have b0 : w12.cell? ⟨B, 0, none⟩ = some (.int .i64 g.room) := cell_of_heap H12.out.1.out
                    have b1 : w12.cell? ⟨B, 1, none⟩ = some (.slice a1 es.length c1) := cell_of_heap H12.out.1.out
                    have b2 : w12.cell? ⟨B, 2, none⟩ = some (.slice a9 PS.length c9) := cell_of_heap H12.out.1.out
                    have b3 : w12.cell? ⟨B, 3, none⟩ = some (.slice a3 ad.length c3) := cell_of_heap H12.out.1.out
                    have b4 : w12.cell? ⟨B, 4, none⟩ = some (.int .i64 0) := cell_of_heap H12.out.1.out
                    have bf : ∀ o, w12.frozen? ⟨B, o, none⟩ = false := fun o => frozen_of_heap H12.out.1.out
                    have f0 : w12.cell? ⟨wr.heap.size, 0, none⟩ = some (.int .i64 ps[k].v.id) := cell_of_heap H12.out.2.2.1
                    have f1 : w12.cell? ⟨wr.heap.size, 1, none⟩ = some (.int .i64 ps[k].v.room) := cell_of_heap H12.out.2.2.1
                    have f2 : w12.cell? ⟨wr.heap.size, 2, none⟩ = some (.int .i64 ps[k].v.author) := cell_of_heap H12.out.2.2.1
                    have f3 : w12.cell? ⟨wr.heap.size, 3, none⟩ = some (.int .i64 ps[k].v.kind) := cell_of_heap H12.out.2.2.1
                    have f4 : w12.cell? ⟨wr.heap.size, 4, none⟩ = some (.int .i64 ps[k].v.key) := cell_of_heap H12.out.2.2.1
                    have f5 : w12.cell? ⟨wr.heap.size, 5, none⟩ = some (.int .i64 ps[k].v.n) := cell_of_heap H12.out.2.2.1
                    have f6 : w12.cell? ⟨wr.heap.size, 6, none⟩ = some (.string ps[k].v.text) := cell_of_heap H12.out.2.2.1
                    have f7 : w12.cell? ⟨wr.heap.size, 7, none⟩ = some (.slice ps[k].p ps[k].v.prev.length ps[k].c) := cell_of_heap H12.out.2.2.1
                    have f8 : w12.cell? ⟨wr.heap.size, 8, none⟩ = some (.int .i64 ps[k].v.time) := cell_of_heap H12.out.2.2.1
                    refine wp_region_any (by kernel_rfl) ?_
                    change wpAny _ _ _ _ _ _ _ (World.drew _)
                    refine wpAny_take (i := 0) (v := (.pointer (some ⟨B, 0, none⟩))) rfl (by kernel_rfl) (by kernel_rfl) (by kernel_rfl) (fun _ _ _ h => h) (Or.inl ⟨by kernel_rfl, ?_⟩) ?_
                    · intro w
                      go_simp
                    refine wpAny_take (i := 1) (v := (.pointer (some ⟨B, 0, none⟩))) rfl (by kernel_rfl) (by kernel_rfl) (by kernel_rfl) (fun _ _ _ h => h) (Or.inl ⟨by kernel_rfl, ?_⟩) ?_
                    · intro w
                      go_simp
                    refine wpAny_take (i := 2) (v := (.pointer (some ⟨B, 0, none⟩))) rfl (by kernel_rfl) (by kernel_rfl) (by kernel_rfl) (fun _ _ _ h => h) (Or.inl ⟨by kernel_rfl, ?_⟩) ?_
                    · intro w
                      go_simp
                    refine wpAny_take (i := 3) (v := (.pointer (some ⟨B, 1, none⟩))) rfl (by kernel_rfl) (by kernel_rfl) (by kernel_rfl) (fun _ _ _ h => h) (Or.inl ⟨by kernel_rfl, ?_⟩) ?_
                    · intro w
                      go_simp
                    refine wpAny_ready (rs := [4, 5]) (by kernel_rfl) (by simp) ?_
                    refine AllReady.cons rfl (fun K hK => ?_) (AllReady.cons rfl (fun K hK => ?_) AllReady.nil)
                    · go_simp
                      refine hK _ _ ?_
                      clear hK K
                      refine wpAny_ready (rs := [5]) (by kernel_rfl) (by simp) ?_
                      refine AllReady.cons rfl (fun K hK => ?_) AllReady.nil
                      go_simp
                      refine hK _ _ ?_
                      clear hK K
                      refine wpAny_ready (rs := [6]) (by kernel_rfl) (by simp) ?_
                      refine AllReady.cons rfl (fun K hK => ?_) AllReady.nil
                      go_simp
                      refine (put03_S w.heap.size (.slice a1 es.length c1) es ps[k] _ (H12.out.2.1.o1.kept (Below.refl _ _).drew) BW.out (by have := H12.out.2.1.el; omega) (H12.out.1.below.drew).size).mono ?_
                      rintro e w13 ⟨v13, a12, c12, rfl, hS13, hf13, hb13⟩
                      obtain ⟨a13, c13, rfl⟩ := hS13.slice
                      have hb13d : Below w12.heap.size w12 w13 := ⟨hb13.os, hb13.tape, hb13.output, hb13.size, hb13.block⟩
                      have hx12 := (Array.getElem?_eq_some_iff.1 H12.out.2.2.1).1
                      have H13 : Hid (SA w g x B (.slice a1 es.length c1) (.slice a9 PS.length c9) (.slice a3 ad.length c3) w13 ∧ SR w.heap.size (insE es (Em.mk ps[k].v a12 c12)) PS ad (.slice a13 (insE es (Em.mk ps[k].v a12 c12)).length c13) (.slice a9 PS.length c9) (.slice a3 ad.length c3) w13 ∧ w13.heap[wr.heap.size]? = some (.cells #[.int .i64 ps[k].v.id, .int .i64 ps[k].v.room, .int .i64 ps[k].v.author, .int .i64 ps[k].v.kind, .int .i64 ps[k].v.key, .int .i64 ps[k].v.n, .string ps[k].v.text, .slice ps[k].p ps[k].v.prev.length ps[k].c, .int .i64 ps[k].v.time] 37 (0, 0))) := ⟨H12.out.1.on hb13d, H12.out.2.1.put1 hS13 hf13 SMY.out hes hb13d, (hb13d.block _ hx12).trans H12.out.2.2.1⟩
                      clear hS13 hf13 hb13 hb13d hx12
                      clear b0 b1 b2 b3 b4 bf
                      clear f0 f1 f2 f3 f4 f5 f6 f7 f8
                      have b0 : w13.cell? ⟨B, 0, none⟩ = some (.int .i64 g.room) := cell_of_heap H13.out.1.out
                      have b1 : w13.cell? ⟨B, 1, none⟩ = some (.slice a1 es.length c1) := cell_of_heap H13.out.1.out
                      have b2 : w13.cell? ⟨B, 2, none⟩ = some (.slice a9 PS.length c9) := cell_of_heap H13.out.1.out
                      have b3 : w13.cell? ⟨B, 3, none⟩ = some (.slice a3 ad.length c3) := cell_of_heap H13.out.1.out
                      have b4 : w13.cell? ⟨B, 4, none⟩ = some (.int .i64 0) := cell_of_heap H13.out.1.out
                      have bf : ∀ o, w13.frozen? ⟨B, o, none⟩ = false := fun o => frozen_of_heap H13.out.1.out
                      refine hK _ _ ?_
                      clear hK K
                      refine wpAny_take (i := 7) (v := (.pointer (some ⟨B, 0, none⟩))) rfl (by kernel_rfl) (by kernel_rfl) (by kernel_rfl) (fun _ _ _ h => h) (Or.inl ⟨by kernel_rfl, ?_⟩) ?_
                      · intro w
                        go_simp
                      refine wpAny_take (i := 8) (v := (.pointer (some ⟨B, 1, none⟩))) rfl (by kernel_rfl) (by kernel_rfl) (by kernel_rfl) (fun _ _ _ h => h) (Or.inl ⟨by kernel_rfl, ?_⟩) ?_
                      · intro w
                        go_simp
                      refine wpAny_ready (rs := [9]) (by kernel_rfl) (by simp) ?_
                      refine AllReady.cons rfl (fun K hK => ?_) AllReady.nil
                      go_simp
                      refine hK _ _ ?_
                      clear hK K
                      refine wpAny_done (by kernel_rfl) ?_ _
                      obtain ⟨w14, HW14⟩ : ∃ q, Hid (q = w13.setCell ⟨B, 1, none⟩ (.slice a13 (insE es (Em.mk ps[k].v a12 c12)).length c13)) := ⟨w13.setCell ⟨B, 1, none⟩ (.slice a13 (insE es (Em.mk ps[k].v a12 c12)).length c13), (rfl : w13.setCell ⟨B, 1, none⟩ (.slice a13 (insE es (Em.mk ps[k].v a12 c12)).length c13) = _)⟩
                      have H14 : Hid (SA w g x B (.slice a13 (insE es (Em.mk ps[k].v a12 c12)).length c13) (.slice a9 PS.length c9) (.slice a3 ad.length c3) w14 ∧ SR w.heap.size (insE es (Em.mk ps[k].v a12 c12)) PS ad (.slice a13 (insE es (Em.mk ps[k].v a12 c12)).length c13) (.slice a9 PS.length c9) (.slice a3 ad.length c3) w14 ∧ w14.heap[wr.heap.size]? = some (.cells #[.int .i64 ps[k].v.id, .int .i64 ps[k].v.room, .int .i64 ps[k].v.author, .int .i64 ps[k].v.kind, .int .i64 ps[k].v.key, .int .i64 ps[k].v.n, .string ps[k].v.text, .slice ps[k].p ps[k].v.prev.length ps[k].c, .int .i64 ps[k].v.time] 37 (0, 0))) := by rw [HW14.out]; exact ⟨H13.out.1.put1 _, H13.out.2.1.setX H13.out.1.out _, (Below.heap_setCell _ _ _ _ hBX).trans H13.out.2.2⟩
                      rw [← HW14.out]
                      clear HW14
                      clear b0 b1 b2 b3 b4 bf
                      have b0 : w14.cell? ⟨B, 0, none⟩ = some (.int .i64 g.room) := cell_of_heap H14.out.1.out
                      have b1 : w14.cell? ⟨B, 1, none⟩ = some (.slice a13 (insE es (Em.mk ps[k].v a12 c12)).length c13) := cell_of_heap H14.out.1.out
                      have b2 : w14.cell? ⟨B, 2, none⟩ = some (.slice a9 PS.length c9) := cell_of_heap H14.out.1.out
                      have b3 : w14.cell? ⟨B, 3, none⟩ = some (.slice a3 ad.length c3) := cell_of_heap H14.out.1.out
                      have b4 : w14.cell? ⟨B, 4, none⟩ = some (.int .i64 0) := cell_of_heap H14.out.1.out
                      have bf : ∀ o, w14.frozen? ⟨B, o, none⟩ = false := fun o => frozen_of_heap H14.out.1.out
                      have f0 : w14.cell? ⟨wr.heap.size, 0, none⟩ = some (.int .i64 ps[k].v.id) := cell_of_heap H14.out.2.2
                      have hlt14 := H14.out.1.lt
                      have hx14 := (Array.getElem?_eq_some_iff.1 H14.out.2.2).1
                      have hz14 := H14.out.1.below.size
                      have hadl : ad.length ≤ 100 := by have := HL.out.adl; have := HL.out.sr.el; omega
                      have HB14 : Hid (∀ o, Below w14.heap.size w14 (w14.alloc o)) := fun o => (Below.refl _ _).alloc (Nat.le_refl _) _
                      go_wp2_with (first | (at_builtin; refine wpList_append_intF rfl _ _ 25 rfl w.heap.size j0 _ Tryz.underlying25 hj hj0 hj1 hj2 rfl _ ad rfl (H14.out.2.1.on (HB14.out _)).o3 w14.heap.size 1 ps[k].v.id rfl (cell_of_heap (MapKept.heap_alloc _ _).1) (by omega) (by simp; omega) ?_; intro v15 w15 hO hg hn; have H15 : Hid (SA w g x B (.slice a13 (insE es (Em.mk ps[k].v a12 c12)).length c13) (.slice a9 PS.length c9) (.slice a3 ad.length c3) w15 ∧ SR w.heap.size (insE es (Em.mk ps[k].v a12 c12)) PS (ad ++ [ps[k].v.id]) (.slice a13 (insE es (Em.mk ps[k].v a12 c12)).length c13) (.slice a9 PS.length c9) v15 w15) := ⟨(H14.out.1.on (HB14.out _)).app (H14.out.2.1.on (HB14.out _)).o3 rfl hg, (H14.out.2.1.on (HB14.out _)).app hO hg hn⟩; obtain ⟨a15, c15, e15, -⟩ := NumsOwn.at hO (by simp; omega); rw [List.length_append, List.length_singleton] at e15; subst e15; clear hO hg hn; clear b0 b1 b2 b3 b4 bf; have b0 : w15.cell? ⟨B, 0, none⟩ = some (.int .i64 g.room) := cell_of_heap H15.out.1.out; have b1 : w15.cell? ⟨B, 1, none⟩ = some (.slice a13 (insE es (Em.mk ps[k].v a12 c12)).length c13) := cell_of_heap H15.out.1.out; have b2 : w15.cell? ⟨B, 2, none⟩ = some (.slice a9 PS.length c9) := cell_of_heap H15.out.1.out; have b3 : w15.cell? ⟨B, 3, none⟩ = some (.slice a3 ad.length c3) := cell_of_heap H15.out.1.out; have b4 : w15.cell? ⟨B, 4, none⟩ = some (.int .i64 0) := cell_of_heap H15.out.1.out; have bf : ∀ o, w15.frozen? ⟨B, o, none⟩ = false := fun o => frozen_of_heap H15.out.1.out) | fail)
                      have H16 : Hid (SA w g x B (.slice a13 (insE es (Em.mk ps[k].v a12 c12)).length c13) (.slice a9 PS.length c9) (.slice a15 (ad.length + 1) c15) (w15.setCell ⟨B, 3, none⟩ (.slice a15 (ad.length + 1) c15)) ∧ SR w.heap.size (insE es (Em.mk ps[k].v a12 c12)) PS (ad ++ [ps[k].v.id]) (.slice a13 (insE es (Em.mk ps[k].v a12 c12)).length c13) (.slice a9 PS.length c9) (.slice a15 (ad.length + 1) c15) (w15.setCell ⟨B, 3, none⟩ (.slice a15 (ad.length + 1) c15))) := ⟨H15.out.1.put3 _, H15.out.2.setX H15.out.1.out _⟩
                      clear H15 H14 H13 H12 H11
                      have LE13 : Hid ((insE es (Em.mk ps[k].v a12 c12)).length = es.length + 1) := by have e := congrArg List.length (vs_insE es (Em.mk ps[k].v a12 c12)); rw [vs_length, insV_length, vs_length] at e; exact e
                      refine (free_spec ⟨g.room, (insE es (Em.mk ps[k].v a12 c12)), PS⟩ _ _ _ _ _ (H16.out.2.o1.evs (by have := H16.out.2.el; omega) (fun m hm => H16.out.2.small m (.inl hm))) (H16.out.2.o2.evs (by have := H16.out.2.pl; omega) (fun m hm => H16.out.2.small m (.inr hm)))).mono ?_
                      rintro e w17 ⟨rfl, hb17⟩
                      have H17 : Hid (LI w g x B (takeV (g.pk.length + 1) x.v (vs g.evs) (vs g.pk) []) (insE es (Em.mk ps[k].v a12 c12)) PS (ad ++ [ps[k].v.id]) (.slice a13 (insE es (Em.mk ps[k].v a12 c12)).length c13) (.slice a9 PS.length c9) (.slice a15 (ad.length + 1) c15) n w17) := ⟨H16.out.1.on hb17, H16.out.2.on hb17, RPS.out.2.1, (by rw [← FN.out, if_pos (by rw [vs_length]; exact hes), if_pos (by rw [vs_length]; exact hes), vs_insE, RPS.out.1]), (by have := HL.out.adl; rw [List.length_append, LE13.out]; simpa using this)⟩
                      clear hb17 H16
                      go_wp2
                      go_roundg n
                      case measure => omega
                      case rel => exact ⟨_, _, ad ++ [ps[k].v.id], a13, a9, a15, c13, c9, c15, RPS.out.2.2, rfl, by rw [List.length_append, List.length_singleton]; exact H17⟩
                    · go_simp
                      refine hK _ _ ?_
                      clear hK K
                      refine wpAny_ready (rs := [4]) (by kernel_rfl) (by simp) ?_
                      refine AllReady.cons rfl (fun K hK => ?_) AllReady.nil
                      go_simp
                      refine hK _ _ ?_
                      clear hK K
                      refine wpAny_ready (rs := [6]) (by kernel_rfl) (by simp) ?_
                      refine AllReady.cons rfl (fun K hK => ?_) AllReady.nil
                      go_simp
                      refine (put03_S w.heap.size (.slice a1 es.length c1) es ps[k] _ (H12.out.2.1.o1.kept (Below.refl _ _).drew) BW.out (by have := H12.out.2.1.el; omega) (H12.out.1.below.drew).size).mono ?_
                      rintro e w13 ⟨v13, a12, c12, rfl, hS13, hf13, hb13⟩
                      obtain ⟨a13, c13, rfl⟩ := hS13.slice
                      have hb13d : Below w12.heap.size w12 w13 := ⟨hb13.os, hb13.tape, hb13.output, hb13.size, hb13.block⟩
                      have hx12 := (Array.getElem?_eq_some_iff.1 H12.out.2.2.1).1
                      have H13 : Hid (SA w g x B (.slice a1 es.length c1) (.slice a9 PS.length c9) (.slice a3 ad.length c3) w13 ∧ SR w.heap.size (insE es (Em.mk ps[k].v a12 c12)) PS ad (.slice a13 (insE es (Em.mk ps[k].v a12 c12)).length c13) (.slice a9 PS.length c9) (.slice a3 ad.length c3) w13 ∧ w13.heap[wr.heap.size]? = some (.cells #[.int .i64 ps[k].v.id, .int .i64 ps[k].v.room, .int .i64 ps[k].v.author, .int .i64 ps[k].v.kind, .int .i64 ps[k].v.key, .int .i64 ps[k].v.n, .string ps[k].v.text, .slice ps[k].p ps[k].v.prev.length ps[k].c, .int .i64 ps[k].v.time] 37 (0, 0))) := ⟨H12.out.1.on hb13d, H12.out.2.1.put1 hS13 hf13 SMY.out hes hb13d, (hb13d.block _ hx12).trans H12.out.2.2.1⟩
                      clear hS13 hf13 hb13 hb13d hx12
                      clear b0 b1 b2 b3 b4 bf
                      clear f0 f1 f2 f3 f4 f5 f6 f7 f8
                      have b0 : w13.cell? ⟨B, 0, none⟩ = some (.int .i64 g.room) := cell_of_heap H13.out.1.out
                      have b1 : w13.cell? ⟨B, 1, none⟩ = some (.slice a1 es.length c1) := cell_of_heap H13.out.1.out
                      have b2 : w13.cell? ⟨B, 2, none⟩ = some (.slice a9 PS.length c9) := cell_of_heap H13.out.1.out
                      have b3 : w13.cell? ⟨B, 3, none⟩ = some (.slice a3 ad.length c3) := cell_of_heap H13.out.1.out
                      have b4 : w13.cell? ⟨B, 4, none⟩ = some (.int .i64 0) := cell_of_heap H13.out.1.out
                      have bf : ∀ o, w13.frozen? ⟨B, o, none⟩ = false := fun o => frozen_of_heap H13.out.1.out
                      refine hK _ _ ?_
                      clear hK K
                      refine wpAny_take (i := 7) (v := (.pointer (some ⟨B, 0, none⟩))) rfl (by kernel_rfl) (by kernel_rfl) (by kernel_rfl) (fun _ _ _ h => h) (Or.inl ⟨by kernel_rfl, ?_⟩) ?_
                      · intro w
                        go_simp
                      refine wpAny_take (i := 8) (v := (.pointer (some ⟨B, 1, none⟩))) rfl (by kernel_rfl) (by kernel_rfl) (by kernel_rfl) (fun _ _ _ h => h) (Or.inl ⟨by kernel_rfl, ?_⟩) ?_
                      · intro w
                        go_simp
                      refine wpAny_ready (rs := [9]) (by kernel_rfl) (by simp) ?_
                      refine AllReady.cons rfl (fun K hK => ?_) AllReady.nil
                      go_simp
                      refine hK _ _ ?_
                      clear hK K
                      refine wpAny_done (by kernel_rfl) ?_ _
                      obtain ⟨w14, HW14⟩ : ∃ q, Hid (q = w13.setCell ⟨B, 1, none⟩ (.slice a13 (insE es (Em.mk ps[k].v a12 c12)).length c13)) := ⟨w13.setCell ⟨B, 1, none⟩ (.slice a13 (insE es (Em.mk ps[k].v a12 c12)).length c13), (rfl : w13.setCell ⟨B, 1, none⟩ (.slice a13 (insE es (Em.mk ps[k].v a12 c12)).length c13) = _)⟩
                      have H14 : Hid (SA w g x B (.slice a13 (insE es (Em.mk ps[k].v a12 c12)).length c13) (.slice a9 PS.length c9) (.slice a3 ad.length c3) w14 ∧ SR w.heap.size (insE es (Em.mk ps[k].v a12 c12)) PS ad (.slice a13 (insE es (Em.mk ps[k].v a12 c12)).length c13) (.slice a9 PS.length c9) (.slice a3 ad.length c3) w14 ∧ w14.heap[wr.heap.size]? = some (.cells #[.int .i64 ps[k].v.id, .int .i64 ps[k].v.room, .int .i64 ps[k].v.author, .int .i64 ps[k].v.kind, .int .i64 ps[k].v.key, .int .i64 ps[k].v.n, .string ps[k].v.text, .slice ps[k].p ps[k].v.prev.length ps[k].c, .int .i64 ps[k].v.time] 37 (0, 0))) := by rw [HW14.out]; exact ⟨H13.out.1.put1 _, H13.out.2.1.setX H13.out.1.out _, (Below.heap_setCell _ _ _ _ hBX).trans H13.out.2.2⟩
                      rw [← HW14.out]
                      clear HW14
                      clear b0 b1 b2 b3 b4 bf
                      have b0 : w14.cell? ⟨B, 0, none⟩ = some (.int .i64 g.room) := cell_of_heap H14.out.1.out
                      have b1 : w14.cell? ⟨B, 1, none⟩ = some (.slice a13 (insE es (Em.mk ps[k].v a12 c12)).length c13) := cell_of_heap H14.out.1.out
                      have b2 : w14.cell? ⟨B, 2, none⟩ = some (.slice a9 PS.length c9) := cell_of_heap H14.out.1.out
                      have b3 : w14.cell? ⟨B, 3, none⟩ = some (.slice a3 ad.length c3) := cell_of_heap H14.out.1.out
                      have b4 : w14.cell? ⟨B, 4, none⟩ = some (.int .i64 0) := cell_of_heap H14.out.1.out
                      have bf : ∀ o, w14.frozen? ⟨B, o, none⟩ = false := fun o => frozen_of_heap H14.out.1.out
                      have f0 : w14.cell? ⟨wr.heap.size, 0, none⟩ = some (.int .i64 ps[k].v.id) := cell_of_heap H14.out.2.2
                      have hlt14 := H14.out.1.lt
                      have hx14 := (Array.getElem?_eq_some_iff.1 H14.out.2.2).1
                      have hz14 := H14.out.1.below.size
                      have hadl : ad.length ≤ 100 := by have := HL.out.adl; have := HL.out.sr.el; omega
                      have HB14 : Hid (∀ o, Below w14.heap.size w14 (w14.alloc o)) := fun o => (Below.refl _ _).alloc (Nat.le_refl _) _
                      go_wp2_with (first | (at_builtin; refine wpList_append_intF rfl _ _ 25 rfl w.heap.size j0 _ Tryz.underlying25 hj hj0 hj1 hj2 rfl _ ad rfl (H14.out.2.1.on (HB14.out _)).o3 w14.heap.size 1 ps[k].v.id rfl (cell_of_heap (MapKept.heap_alloc _ _).1) (by omega) (by simp; omega) ?_; intro v15 w15 hO hg hn; have H15 : Hid (SA w g x B (.slice a13 (insE es (Em.mk ps[k].v a12 c12)).length c13) (.slice a9 PS.length c9) (.slice a3 ad.length c3) w15 ∧ SR w.heap.size (insE es (Em.mk ps[k].v a12 c12)) PS (ad ++ [ps[k].v.id]) (.slice a13 (insE es (Em.mk ps[k].v a12 c12)).length c13) (.slice a9 PS.length c9) v15 w15) := ⟨(H14.out.1.on (HB14.out _)).app (H14.out.2.1.on (HB14.out _)).o3 rfl hg, (H14.out.2.1.on (HB14.out _)).app hO hg hn⟩; obtain ⟨a15, c15, e15, -⟩ := NumsOwn.at hO (by simp; omega); rw [List.length_append, List.length_singleton] at e15; subst e15; clear hO hg hn; clear b0 b1 b2 b3 b4 bf; have b0 : w15.cell? ⟨B, 0, none⟩ = some (.int .i64 g.room) := cell_of_heap H15.out.1.out; have b1 : w15.cell? ⟨B, 1, none⟩ = some (.slice a13 (insE es (Em.mk ps[k].v a12 c12)).length c13) := cell_of_heap H15.out.1.out; have b2 : w15.cell? ⟨B, 2, none⟩ = some (.slice a9 PS.length c9) := cell_of_heap H15.out.1.out; have b3 : w15.cell? ⟨B, 3, none⟩ = some (.slice a3 ad.length c3) := cell_of_heap H15.out.1.out; have b4 : w15.cell? ⟨B, 4, none⟩ = some (.int .i64 0) := cell_of_heap H15.out.1.out; have bf : ∀ o, w15.frozen? ⟨B, o, none⟩ = false := fun o => frozen_of_heap H15.out.1.out) | fail)
                      have H16 : Hid (SA w g x B (.slice a13 (insE es (Em.mk ps[k].v a12 c12)).length c13) (.slice a9 PS.length c9) (.slice a15 (ad.length + 1) c15) (w15.setCell ⟨B, 3, none⟩ (.slice a15 (ad.length + 1) c15)) ∧ SR w.heap.size (insE es (Em.mk ps[k].v a12 c12)) PS (ad ++ [ps[k].v.id]) (.slice a13 (insE es (Em.mk ps[k].v a12 c12)).length c13) (.slice a9 PS.length c9) (.slice a15 (ad.length + 1) c15) (w15.setCell ⟨B, 3, none⟩ (.slice a15 (ad.length + 1) c15))) := ⟨H15.out.1.put3 _, H15.out.2.setX H15.out.1.out _⟩
                      clear H15 H14 H13 H12 H11
                      have LE13 : Hid ((insE es (Em.mk ps[k].v a12 c12)).length = es.length + 1) := by have e := congrArg List.length (vs_insE es (Em.mk ps[k].v a12 c12)); rw [vs_length, insV_length, vs_length] at e; exact e
                      refine (free_spec ⟨g.room, (insE es (Em.mk ps[k].v a12 c12)), PS⟩ _ _ _ _ _ (H16.out.2.o1.evs (by have := H16.out.2.el; omega) (fun m hm => H16.out.2.small m (.inl hm))) (H16.out.2.o2.evs (by have := H16.out.2.pl; omega) (fun m hm => H16.out.2.small m (.inr hm)))).mono ?_
                      rintro e w17 ⟨rfl, hb17⟩
                      have H17 : Hid (LI w g x B (takeV (g.pk.length + 1) x.v (vs g.evs) (vs g.pk) []) (insE es (Em.mk ps[k].v a12 c12)) PS (ad ++ [ps[k].v.id]) (.slice a13 (insE es (Em.mk ps[k].v a12 c12)).length c13) (.slice a9 PS.length c9) (.slice a15 (ad.length + 1) c15) n w17) := ⟨H16.out.1.on hb17, H16.out.2.on hb17, RPS.out.2.1, (by rw [← FN.out, if_pos (by rw [vs_length]; exact hes), if_pos (by rw [vs_length]; exact hes), vs_insE, RPS.out.1]), (by have := HL.out.adl; rw [List.length_append, LE13.out]; simpa using this)⟩
                      clear hb17 H16
                      go_wp2
                      go_roundg n
                      case measure => omega
                      case rel => exact ⟨_, _, ad ++ [ps[k].v.id], a13, a9, a15, c13, c9, c15, RPS.out.2.2, rfl, by rw [List.length_append, List.length_singleton]; exact H17⟩
                · skip
                  by_cases hfull : k + 1 = c2
                  · have hck0 : c2 - (k + 1) = 0 := by omega
                    subst hfull
                    have hck0' : k + 1 - (k + 1) = 0 := by omega
                    have hde : decide ((es.length : Int) < 60) = false := decide_eq_false (by omega)
                    skip
                    go_wp2_with (first | (have hq := HA; clear hq; at_builtin; refine wpList_append_ems rfl _ _ 30 rfl i0 _ Tryz.underlying30 hi hz0 hz1 hz2 rfl (wr.heap.size + 1) _ (ps.take k) rfl HA.out.1 (some ⟨b, 0, none⟩) 0 (ps.drop (k + 1)) (by rw [List.drop_eq_nil_of_le (by omega)]; exact EmsRow.empty _) (by rw [List.length_drop]; rw [show ps.length - (k + 1) = 0 by omega]; rfl) (by simp; omega) (by have := HA.out.2.size; simpa using this) ?_; intro v11 w11 hO hb _ _; rw [← HPS.out] at hO; obtain ⟨a9, c9, rfl, -⟩ := EmsOwn.at hO (by omega); have H11 : Hid (SA w g x B (.slice a1 es.length c1) (.slice (some ⟨b, 0, none⟩) ps.length (k + 1)) (.slice a3 ad.length c3) w11 ∧ SR w.heap.size es PS ad (.slice a1 es.length c1) (.slice a9 PS.length c9) (.slice a3 ad.length c3) w11 ∧ w11.heap[wr.heap.size]? = some (.cells #[.int .i64 ps[k].v.id, .int .i64 ps[k].v.room, .int .i64 ps[k].v.author, .int .i64 ps[k].v.kind, .int .i64 ps[k].v.key, .int .i64 ps[k].v.n, .string ps[k].v.text, .slice ps[k].p ps[k].v.prev.length ps[k].c, .int .i64 ps[k].v.time] 37 (0, 0)) ∧ w11.ownsRow w.heap.size 2 1 (.slice ps[k].p ps[k].v.prev.length ps[k].c) ps[k].v.prev.length (nv ps[k].v.prev)) := SX.out _ _ (HA.out.2.trans hb) hO; clear hO hb; clear b0 b1 b2 b3 b4 bf; have b0 : w11.cell? ⟨B, 0, none⟩ = some (.int .i64 g.room) := cell_of_heap H11.out.1.out; have b1 : w11.cell? ⟨B, 1, none⟩ = some (.slice a1 es.length c1) := cell_of_heap H11.out.1.out; have b2 : w11.cell? ⟨B, 2, none⟩ = some (.slice (some ⟨b, 0, none⟩) ps.length (k + 1)) := cell_of_heap H11.out.1.out; have b3 : w11.cell? ⟨B, 3, none⟩ = some (.slice a3 ad.length c3) := cell_of_heap H11.out.1.out; have b4 : w11.cell? ⟨B, 4, none⟩ = some (.int .i64 0) := cell_of_heap H11.out.1.out; have bf : ∀ o, w11.frozen? ⟨B, o, none⟩ = false := fun o => frozen_of_heap H11.out.1.out) | (at_builtin; refine wpList_append_ems rfl _ _ 30 rfl i0 _ Tryz.underlying30 hi hz0 hz1 hz2 rfl (wr.heap.size + 1) _ [] rfl HM.out.1 (some ⟨b, 0, none⟩) (k + 1) (ps.take k) ((HMR.out _ HM.out.2).take k) (by rw [htk]; rfl) (by simp; omega) (by simp) ?_; intro v10 w10 hO hb _ _; obtain ⟨a8, c8, e8, -⟩ := EmsOwn.at hO (by simp; omega); rw [List.nil_append, htk] at e8; subst e8; have HA : Hid (EmsOwn w10 (wr.heap.size + 1) (.slice a8 k c8) (ps.take k) ∧ Below (wr.heap.size + 1) (wr.alloc (.cells #[.int .i64 ps[k].v.id, .int .i64 ps[k].v.room, .int .i64 ps[k].v.author, .int .i64 ps[k].v.kind, .int .i64 ps[k].v.key, .int .i64 ps[k].v.n, .string ps[k].v.text, .slice ps[k].p ps[k].v.prev.length ps[k].c, .int .i64 ps[k].v.time] 37)) w10) := ⟨hO, HM.out.2.trans hb⟩; clear hO hb; clear b0 b1 b2 b3 b4 bf; have b0 : w10.cell? ⟨B, 0, none⟩ = some (.int .i64 g.room) := cell_of_heap (SW.out _ HA.out.2).out; have b1 : w10.cell? ⟨B, 1, none⟩ = some (.slice a1 es.length c1) := cell_of_heap (SW.out _ HA.out.2).out; have b2 : w10.cell? ⟨B, 2, none⟩ = some (.slice (some ⟨b, 0, none⟩) ps.length (k + 1)) := cell_of_heap (SW.out _ HA.out.2).out; have b3 : w10.cell? ⟨B, 3, none⟩ = some (.slice a3 ad.length c3) := cell_of_heap (SW.out _ HA.out.2).out; have b4 : w10.cell? ⟨B, 4, none⟩ = some (.int .i64 0) := cell_of_heap (SW.out _ HA.out.2).out; have bf : ∀ o, w10.frozen? ⟨B, o, none⟩ = false := fun o => frozen_of_heap (SW.out _ HA.out.2).out) | fail)
                    have H16 : Hid (SA w g x B (.slice a1 es.length c1) (.slice a9 PS.length c9) (.slice a3 ad.length c3) (w11.setCell ⟨B, 2, none⟩ (.slice a9 PS.length c9)) ∧ SR w.heap.size es PS ad (.slice a1 es.length c1) (.slice a9 PS.length c9) (.slice a3 ad.length c3) (w11.setCell ⟨B, 2, none⟩ (.slice a9 PS.length c9))) := ⟨H11.out.1.put2 _, H11.out.2.1.setX H11.out.1.out _⟩
                    clear H11
                    refine (free_spec ⟨g.room, es, PS⟩ _ _ _ _ _ (H16.out.2.o1.evs (by have := H16.out.2.el; omega) (fun m hm => H16.out.2.small m (.inl hm))) (H16.out.2.o2.evs (by have := H16.out.2.pl; omega) (fun m hm => H16.out.2.small m (.inr hm)))).mono ?_
                    rintro e w17 ⟨rfl, hb17⟩
                    have H17 : Hid (LI w g x B (takeV (g.pk.length + 1) x.v (vs g.evs) (vs g.pk) []) es PS ad (.slice a1 es.length c1) (.slice a9 PS.length c9) (.slice a3 ad.length c3) n w17) := ⟨H16.out.1.on hb17, H16.out.2.on hb17, RPS.out.2.1, (by rw [← FN.out, if_neg (by rw [vs_length]; exact hes), if_neg (by rw [vs_length]; exact hes), RPS.out.1]), HL.out.adl⟩
                    clear hb17 H16
                    go_wp2
                    go_roundg n
                    case measure => omega
                    case rel => exact ⟨_, _, _, a1, a9, a3, c1, c9, c3, by have := RPS.out.2.2; omega, rfl, H17⟩
                  · have hck1 : ¬ c2 - (k + 1) = 0 := by omega
                    have hfull2 : ¬ c2 = k + 1 := by omega
                    have hde : decide ((es.length : Int) < 60) = false := decide_eq_false (by omega)
                    skip
                    go_wp2_with (first | (have hq := HA; clear hq; at_builtin; refine wpList_append_ems rfl _ _ 30 rfl i0 _ Tryz.underlying30 hi hz0 hz1 hz2 rfl (wr.heap.size + 1) _ (ps.take k) rfl HA.out.1 (some ⟨b, (k + 1) * 9, none⟩) (c2 - (k + 1)) (ps.drop (k + 1)) (by have := (HMR.out _ HA.out.2).drop (k + 1); rwa [Nat.zero_add] at this) (by rw [List.length_drop]; rfl) (by simp; omega) (by have := HA.out.2.size; simpa using this) ?_; intro v11 w11 hO hb _ _; rw [← HPS.out] at hO; obtain ⟨a9, c9, rfl, -⟩ := EmsOwn.at hO (by omega); have H11 : Hid (SA w g x B (.slice a1 es.length c1) (.slice (some ⟨b, 0, none⟩) ps.length c2) (.slice a3 ad.length c3) w11 ∧ SR w.heap.size es PS ad (.slice a1 es.length c1) (.slice a9 PS.length c9) (.slice a3 ad.length c3) w11 ∧ w11.heap[wr.heap.size]? = some (.cells #[.int .i64 ps[k].v.id, .int .i64 ps[k].v.room, .int .i64 ps[k].v.author, .int .i64 ps[k].v.kind, .int .i64 ps[k].v.key, .int .i64 ps[k].v.n, .string ps[k].v.text, .slice ps[k].p ps[k].v.prev.length ps[k].c, .int .i64 ps[k].v.time] 37 (0, 0)) ∧ w11.ownsRow w.heap.size 2 1 (.slice ps[k].p ps[k].v.prev.length ps[k].c) ps[k].v.prev.length (nv ps[k].v.prev)) := SX.out _ _ (HA.out.2.trans hb) hO; clear hO hb; clear b0 b1 b2 b3 b4 bf; have b0 : w11.cell? ⟨B, 0, none⟩ = some (.int .i64 g.room) := cell_of_heap H11.out.1.out; have b1 : w11.cell? ⟨B, 1, none⟩ = some (.slice a1 es.length c1) := cell_of_heap H11.out.1.out; have b2 : w11.cell? ⟨B, 2, none⟩ = some (.slice (some ⟨b, 0, none⟩) ps.length c2) := cell_of_heap H11.out.1.out; have b3 : w11.cell? ⟨B, 3, none⟩ = some (.slice a3 ad.length c3) := cell_of_heap H11.out.1.out; have b4 : w11.cell? ⟨B, 4, none⟩ = some (.int .i64 0) := cell_of_heap H11.out.1.out; have bf : ∀ o, w11.frozen? ⟨B, o, none⟩ = false := fun o => frozen_of_heap H11.out.1.out) | (at_builtin; refine wpList_append_ems rfl _ _ 30 rfl i0 _ Tryz.underlying30 hi hz0 hz1 hz2 rfl (wr.heap.size + 1) _ [] rfl HM.out.1 (some ⟨b, 0, none⟩) c2 (ps.take k) ((HMR.out _ HM.out.2).take k) (by rw [htk]; rfl) (by simp; omega) (by simp) ?_; intro v10 w10 hO hb _ _; obtain ⟨a8, c8, e8, -⟩ := EmsOwn.at hO (by simp; omega); rw [List.nil_append, htk] at e8; subst e8; have HA : Hid (EmsOwn w10 (wr.heap.size + 1) (.slice a8 k c8) (ps.take k) ∧ Below (wr.heap.size + 1) (wr.alloc (.cells #[.int .i64 ps[k].v.id, .int .i64 ps[k].v.room, .int .i64 ps[k].v.author, .int .i64 ps[k].v.kind, .int .i64 ps[k].v.key, .int .i64 ps[k].v.n, .string ps[k].v.text, .slice ps[k].p ps[k].v.prev.length ps[k].c, .int .i64 ps[k].v.time] 37)) w10) := ⟨hO, HM.out.2.trans hb⟩; clear hO hb; clear b0 b1 b2 b3 b4 bf; have b0 : w10.cell? ⟨B, 0, none⟩ = some (.int .i64 g.room) := cell_of_heap (SW.out _ HA.out.2).out; have b1 : w10.cell? ⟨B, 1, none⟩ = some (.slice a1 es.length c1) := cell_of_heap (SW.out _ HA.out.2).out; have b2 : w10.cell? ⟨B, 2, none⟩ = some (.slice (some ⟨b, 0, none⟩) ps.length c2) := cell_of_heap (SW.out _ HA.out.2).out; have b3 : w10.cell? ⟨B, 3, none⟩ = some (.slice a3 ad.length c3) := cell_of_heap (SW.out _ HA.out.2).out; have b4 : w10.cell? ⟨B, 4, none⟩ = some (.int .i64 0) := cell_of_heap (SW.out _ HA.out.2).out; have bf : ∀ o, w10.frozen? ⟨B, o, none⟩ = false := fun o => frozen_of_heap (SW.out _ HA.out.2).out) | fail)
                    have H16 : Hid (SA w g x B (.slice a1 es.length c1) (.slice a9 PS.length c9) (.slice a3 ad.length c3) (w11.setCell ⟨B, 2, none⟩ (.slice a9 PS.length c9)) ∧ SR w.heap.size es PS ad (.slice a1 es.length c1) (.slice a9 PS.length c9) (.slice a3 ad.length c3) (w11.setCell ⟨B, 2, none⟩ (.slice a9 PS.length c9))) := ⟨H11.out.1.put2 _, H11.out.2.1.setX H11.out.1.out _⟩
                    clear H11
                    refine (free_spec ⟨g.room, es, PS⟩ _ _ _ _ _ (H16.out.2.o1.evs (by have := H16.out.2.el; omega) (fun m hm => H16.out.2.small m (.inl hm))) (H16.out.2.o2.evs (by have := H16.out.2.pl; omega) (fun m hm => H16.out.2.small m (.inr hm)))).mono ?_
                    rintro e w17 ⟨rfl, hb17⟩
                    have H17 : Hid (LI w g x B (takeV (g.pk.length + 1) x.v (vs g.evs) (vs g.pk) []) es PS ad (.slice a1 es.length c1) (.slice a9 PS.length c9) (.slice a3 ad.length c3) n w17) := ⟨H16.out.1.on hb17, H16.out.2.on hb17, RPS.out.2.1, (by rw [← FN.out, if_neg (by rw [vs_length]; exact hes), if_neg (by rw [vs_length]; exact hes), RPS.out.1]), HL.out.adl⟩
                    clear hb17 H16
                    go_wp2
                    go_roundg n
                    case measure => omega
                    case rel => exact ⟨_, _, _, a1, a9, a3, c1, c9, c3, by have := RPS.out.2.2; omega, rfl, H17⟩
          · go_simp
            refine hK _ _ ?_
            clear hK K
            refine wpAny_ready (rs := [4]) (by kernel_rfl) (by simp) ?_
            refine AllReady.cons rfl (fun K hK => ?_) AllReady.nil
            go_simp
            refine hK _ _ ?_
            clear hK K
            refine wpAny_ready (rs := [6]) (by kernel_rfl) (by simp) ?_
            refine AllReady.cons rfl (fun K hK => ?_) AllReady.nil
            go_simp
            refine (put03_S w.heap.size (.slice a1 r1.length c1) r1 x _ (H5.out.2.1.o1.kept (Below.refl _ _).drew) (HN.out.2.2.kept (H5.out.1.below.drew)) (by omega) (H5.out.1.below.drew).size).mono ?_
            rintro e w6 ⟨v6, a6, c6, rfl, hS6, hf6, hb6⟩
            obtain ⟨a7, c7, rfl⟩ := hS6.slice
            have hb6d : Below w5.heap.size w5 w6 := ⟨hb6.os, hb6.tape, hb6.output, hb6.size, hb6.block⟩
            have H6 : Hid (SA w g x B (.slice a1 r1.length c1) (.slice a2 r2.length c2) (.slice none 0 0) w6 ∧ SR w.heap.size (insE r1 (Em.mk x.v a6 c6)) r2 [] (.slice a7 (insE r1 (Em.mk x.v a6 c6)).length c7) (.slice a2 r2.length c2) (.slice none 0 0) w6) := ⟨H5.out.1.on hb6d, H5.out.2.1.put1 hS6 hf6 (Nat.le_trans HX.out.1.2.2.2 (by decide)) l1 hb6d⟩
            clear hS6 hf6 hb6 hb6d
            clear b0 b1 b2 b3 b4 bf e0 e1 e2 e3 e4 e5 e6 e7 e8
            have b0 : w6.cell? ⟨B, 0, none⟩ = some (.int .i64 g.room) := cell_of_heap H6.out.1.out
            have b1 : w6.cell? ⟨B, 1, none⟩ = some (.slice a1 r1.length c1) := cell_of_heap H6.out.1.out
            have b2 : w6.cell? ⟨B, 2, none⟩ = some (.slice a2 r2.length c2) := cell_of_heap H6.out.1.out
            have b3 : w6.cell? ⟨B, 3, none⟩ = some (.slice none 0 0) := cell_of_heap H6.out.1.out
            have b4 : w6.cell? ⟨B, 4, none⟩ = some (.int .i64 0) := cell_of_heap H6.out.1.out
            have bf : ∀ o, w6.frozen? ⟨B, o, none⟩ = false := fun o => frozen_of_heap H6.out.1.out
            refine hK _ _ ?_
            clear hK K
            refine wpAny_take (i := 7) (v := (.pointer (some ⟨B, 0, none⟩))) rfl (by kernel_rfl) (by kernel_rfl) (by kernel_rfl) (fun _ _ _ h => h) (Or.inl ⟨by kernel_rfl, ?_⟩) ?_
            · intro w
              go_simp
            refine wpAny_take (i := 8) (v := (.pointer (some ⟨B, 1, none⟩))) rfl (by kernel_rfl) (by kernel_rfl) (by kernel_rfl) (fun _ _ _ h => h) (Or.inl ⟨by kernel_rfl, ?_⟩) ?_
            · intro w
              go_simp
            refine wpAny_ready (rs := [9]) (by kernel_rfl) (by simp) ?_
            refine AllReady.cons rfl (fun K hK => ?_) AllReady.nil
            go_simp
            refine hK _ _ ?_
            clear hK K
            refine wpAny_done (by kernel_rfl) ?_ _
            obtain ⟨w7, HW7⟩ : ∃ q, Hid (q = w6.setCell ⟨B, 1, none⟩ (.slice a7 (insE r1 (Em.mk x.v a6 c6)).length c7)) := ⟨_, rfl⟩
            have HS : Hid (SR w.heap.size (insE r1 (Em.mk x.v a6 c6)) r2 [] (.slice a7 (insE r1 (Em.mk x.v a6 c6)).length c7) (.slice a2 r2.length c2) (.slice none 0 0) w7 ∧ SA w g x B (.slice a7 (insE r1 (Em.mk x.v a6 c6)).length c7) (.slice a2 r2.length c2) (.slice none 0 0) w7) := by rw [HW7.out]; exact ⟨H6.out.2.setX H6.out.1.out _, H6.out.1.put1 _⟩
            rw [← HW7.out]
            clear HW7 b0 b1 b2 b3 b4 bf
            have b0 : w7.cell? ⟨B, 0, none⟩ = some (.int .i64 g.room) := cell_of_heap HS.out.2.out
            have b1 : w7.cell? ⟨B, 1, none⟩ = some (.slice a7 (insE r1 (Em.mk x.v a6 c6)).length c7) := cell_of_heap HS.out.2.out
            have b2 : w7.cell? ⟨B, 2, none⟩ = some (.slice a2 r2.length c2) := cell_of_heap HS.out.2.out
            have b3 : w7.cell? ⟨B, 3, none⟩ = some (.slice none 0 0) := cell_of_heap HS.out.2.out
            have b4 : w7.cell? ⟨B, 4, none⟩ = some (.int .i64 0) := cell_of_heap HS.out.2.out
            have bf : ∀ o, w7.frozen? ⟨B, o, none⟩ = false := fun o => frozen_of_heap HS.out.2.out
            have e0 : w7.cell? ⟨w.heap.size + 1, 0, none⟩ = some (.int .i64 x.v.id) := cell_of_heap HS.out.2.ebox
            have e1 : w7.cell? ⟨w.heap.size + 1, 1, none⟩ = some (.int .i64 x.v.room) := cell_of_heap HS.out.2.ebox
            have e2 : w7.cell? ⟨w.heap.size + 1, 2, none⟩ = some (.int .i64 x.v.author) := cell_of_heap HS.out.2.ebox
            have e3 : w7.cell? ⟨w.heap.size + 1, 3, none⟩ = some (.int .i64 x.v.kind) := cell_of_heap HS.out.2.ebox
            have e4 : w7.cell? ⟨w.heap.size + 1, 4, none⟩ = some (.int .i64 x.v.key) := cell_of_heap HS.out.2.ebox
            have e5 : w7.cell? ⟨w.heap.size + 1, 5, none⟩ = some (.int .i64 x.v.n) := cell_of_heap HS.out.2.ebox
            have e6 : w7.cell? ⟨w.heap.size + 1, 6, none⟩ = some (.string x.v.text) := cell_of_heap HS.out.2.ebox
            have e7 : w7.cell? ⟨w.heap.size + 1, 7, none⟩ = some (.slice x.p x.v.prev.length x.c) := cell_of_heap HS.out.2.ebox
            have e8 : w7.cell? ⟨w.heap.size + 1, 8, none⟩ = some (.int .i64 x.v.time) := cell_of_heap HS.out.2.ebox
            have hlt7 := HS.out.2.lt
            have hne7 : ¬ B = w7.heap.size := by omega
            have hne8 : ¬ w7.heap.size = B := by omega
            go_wp2_with fail
            have H8 : Hid (SA w g x B (.slice a7 (insE r1 (Em.mk x.v a6 c6)).length c7) (.slice a2 r2.length c2) (.slice (some ⟨w7.heap.size, 0, none⟩) 1 1) ((w7.setCell ⟨B, 3, none⟩ (.slice (some ⟨w7.heap.size, 0, none⟩) 1 1)).alloc (.cells #[.int .i64 x.v.id] 2)) ∧ SR w.heap.size (insE r1 (Em.mk x.v a6 c6)) r2 [x.v.id] (.slice a7 (insE r1 (Em.mk x.v a6 c6)).length c7) (.slice a2 r2.length c2) (.slice (some ⟨w7.heap.size, 0, none⟩) 1 1) ((w7.setCell ⟨B, 3, none⟩ (.slice (some ⟨w7.heap.size, 0, none⟩) 1 1)).alloc (.cells #[.int .i64 x.v.id] 2))) := by
              have e8 := (HS.out.1.setX (o := 3) HS.out.2.out (.slice (some ⟨w7.heap.size, 0, none⟩) 1 1)).first (k := x.v.id) (by have := HS.out.2.below.size; simpa using this)
              have hsz : (w7.setCell ⟨B, 3, none⟩ (.slice (some ⟨w7.heap.size, 0, none⟩) 1 1)).heap.size = w7.heap.size := by simp
              rw [hsz] at e8
              exact ⟨(HS.out.2.put3 (.slice (some ⟨w7.heap.size, 0, none⟩) 1 1)).on ((Below.refl _ _).alloc (Nat.le_refl _) _), e8⟩
            refine (free_spec ⟨g.room, (insE r1 (Em.mk x.v a6 c6)), r2⟩ a7 c7 a2 c2 _ (H8.out.2.o1.evs (by have := H8.out.2.el; omega) (fun m hm => H8.out.2.small m (.inl hm))) (H8.out.2.o2.evs (by have := H8.out.2.pl; omega) (fun m hm => H8.out.2.small m (.inr hm)))).mono ?_
            rintro e w9 ⟨rfl, hb9⟩
            have H9 : Hid (LI w g x B (takeV (g.pk.length + 1) x.v (vs g.evs) (vs g.pk) []) (insE r1 (Em.mk x.v a6 c6)) r2 [x.v.id] (.slice a7 (insE r1 (Em.mk x.v a6 c6)).length c7) (.slice a2 r2.length c2) (.slice (some ⟨w7.heap.size, 0, none⟩) 1 1) g.pk.length w9) := by
              have hno : ∀ e ∈ vs r2, e.id ≠ x.v.id := fun e he c => HN2.out (.inr (by rw [← H5.out.2.2.2]; exact List.mem_map.2 ⟨e, he, c⟩))
              refine ⟨H8.out.1.on hb9, H8.out.2.on hb9, by unfold RisM; rw [H5.out.2.2.2]; exact HX.out.2.2.2, ?_, ?_⟩
              · have hlv : (vs g.evs).length < 60 := by rw [HID.out.2.2.1]; exact hc3
                rw [takeV_rest, if_pos hlv, if_pos hlv, ← H5.out.2.2.2, woV_none hno, vs_insE, H5.out.2.2.1]
                rfl
              · have e := congrArg List.length (vs_insE r1 (Em.mk x.v a6 c6))
                rw [vs_length, insV_length, vs_length] at e
                simp only [List.length_singleton]
                omega
            clear hb9 b0 b1 b2 b3 b4 bf e0 e1 e2 e3 e4 e5 e6 e7 e8 hne7 hne8 hlt7 H8
            have L2 : r2.length ≤ g.pk.length := by have := LL.out; omega
            go_wp2
            go_loopg [8] (g.pk.length) (fun n kk wr => ∃ (es ps : List Em) (ad : List Int) (a1 a2 a3 : Option Addr) (c1 c2 c3 : Nat), ps.length ≤ n ∧ kk = .int .i64 (freeI ⟨g.room, es, ps⟩) ∧ Hid (LI w g x B (takeV (g.pk.length + 1) x.v (vs g.evs) (vs g.pk) []) es ps ad (.slice a1 es.length c1) (.slice a2 ps.length c2) (.slice a3 ad.length c3) n wr))
            case atStart => exact ⟨_, r2, [x.v.id], a7, a2, some ⟨w7.heap.size, 0, none⟩, c7, c2, 1, L2, rfl, H9⟩
            case round =>
              clear H9 HS H5 H6 LL l1 l2 L2
              obtain ⟨es, ps, ad, a1, a2, a3, c1, c2, c3, hpn, rfl, HL⟩ := hrel
              rcases hf : freeO ⟨g.room, es, ps⟩ with _ | k
              · have hfi : freeI ⟨g.room, es, ps⟩ = -1 := by unfold freeI; rw [hf]
                rw [hfi]
                have b0 : wr.cell? ⟨B, 0, none⟩ = some (.int .i64 g.room) := cell_of_heap HL.out.sa.out
                have b1 : wr.cell? ⟨B, 1, none⟩ = some (.slice a1 es.length c1) := cell_of_heap HL.out.sa.out
                have b2 : wr.cell? ⟨B, 2, none⟩ = some (.slice a2 ps.length c2) := cell_of_heap HL.out.sa.out
                have b3 : wr.cell? ⟨B, 3, none⟩ = some (.slice a3 ad.length c3) := cell_of_heap HL.out.sa.out
                have b4 : wr.cell? ⟨B, 4, none⟩ = some (.int .i64 0) := cell_of_heap HL.out.sa.out
                have bf : ∀ o, wr.frozen? ⟨B, o, none⟩ = false := fun o => frozen_of_heap HL.out.sa.out
                have o0 : wr.cell? ⟨w.heap.size + 2, 0, none⟩ = some (.int .i64 0) := cell_of_heap HL.out.sa.rbox
                have o1 : wr.cell? ⟨w.heap.size + 2, 1, none⟩ = some (.slice none 0 0) := cell_of_heap HL.out.sa.rbox
                have o2 : wr.cell? ⟨w.heap.size + 2, 2, none⟩ = some (.slice none 0 0) := cell_of_heap HL.out.sa.rbox
                have o3 : wr.cell? ⟨w.heap.size + 2, 3, none⟩ = some (.slice none 0 0) := cell_of_heap HL.out.sa.rbox
                have o4 : wr.cell? ⟨w.heap.size + 2, 4, none⟩ = some (.int .i64 0) := cell_of_heap HL.out.sa.rbox
                have of : ∀ o, wr.frozen? ⟨w.heap.size + 2, o, none⟩ = false := fun o => frozen_of_heap HL.out.sa.rbox
                go_wp2
                have HF : Hid (putV (vs g.evs) (vs g.pk) x.v = (0, vs es, vs ps, ad)) := by
                  have e := HL.out.fin
                  rw [restV_none (by have e2 := freeO_eq ⟨g.room, es, ps⟩; rw [hf] at e2; exact e2.symm)] at e
                  unfold Hid
                  rw [HP.out, ← e]
                refine bodyPost_ret (v := .agg #[.int .i64 g.room, .slice a1 es.length c1, .slice a2 ps.length c2, .slice a3 ad.length c3, .int .i64 0]) (by simp [results, Tryz.results48, go_sem, o0, o1, o2, o3, o4]) rfl ⟨below5 HL.out.sa.below _ _ _ _ _, .inr ⟨vs es, vs ps, ad, a1, c1, a2, c2, a3, c3, es, ps, HF.out, rfl, rfl, rfl, HL.out.sr.o1.set5 HL.out.sa.rbox _ _ _ _ _, HL.out.sr.o2.set5 HL.out.sa.rbox _ _ _ _ _, HL.out.sr.o3.set5 HL.out.sa.rbox _ _ _ _ _⟩⟩
              · have hfi : freeI ⟨g.room, es, ps⟩ = (k : Int) := by unfold freeI; rw [hf]
                rw [hfi]
                obtain ⟨PS, HPS⟩ : ∃ l, Hid (l = (ps.take k ++ ps.drop (k + 1))) := ⟨_, rfl⟩
                have hfv : freeV (vs es) (vs ps) = some k := by have e2 := freeO_eq ⟨g.room, es, ps⟩; rw [hf] at e2; exact e2.symm
                have hkv := freeV_lt hfv
                have hk : k < ps.length := by rw [vs_length] at hkv; exact hkv
                have hd : decide (0 ≤ (k : Int)) = true := decide_eq_true (by omega)
                obtain ⟨n, rfl⟩ : ∃ n, gk = n + 1 := ⟨gk - 1, by omega⟩
                have hyv : (vs ps)[k] = ps[k].v := by simp [vs]
                have FN : Hid (restV n (if (vs es).length < 60 then insV (vs es) ps[k].v else vs es) (woV (vs ps) ps[k].v.id) (if (vs es).length < 60 then ad ++ [ps[k].v.id] else ad) = (takeV (g.pk.length + 1) x.v (vs g.evs) (vs g.pk) [])) := by
                  have e := HL.out.fin
                  rw [restV_some hfv hkv, takeV_rest, hyv] at e
                  exact e
                have RPS : Hid (vs PS = woV (vs ps) ps[k].v.id ∧ RisM PS ∧ PS.length ≤ n) := by
                  have e : vs PS = woV (vs ps) ps[k].v.id := by
                    have e2 := eraseIdx_wo HL.out.ris hkv
                    rw [hyv] at e2
                    rw [← e2, HPS.out]
                    simp [vs, List.map_take, List.map_drop]
                  refine ⟨e, by unfold RisM; rw [e]; exact woV_rises HL.out.ris, ?_⟩
                  rw [HPS.out, List.length_append, List.length_take, List.length_drop]
                  omega
                have hpl := HL.out.sr.pl
                have hPL : PS.length ≤ 1000 := by rw [HPS.out, List.length_append, List.length_take, List.length_drop]; omega
                have hpl := HL.out.sr.pl
                have hPL : PS.length ≤ 1000 := by rw [HPS.out, List.length_append, List.length_take, List.length_drop]; omega
                have hcap := HL.out.sr.o2.cap
                have hev : EvsAt wr a2 ps := HL.out.sr.o2.evs (by omega) (fun m hm => HL.out.sr.small m (.inr hm))
                skip
                obtain ⟨a2q, c2q, e2, -, -, hac⟩ := HL.out.sr.o2.1.at (by omega)
                injection e2 with e2 _ e3
                subst e2
                subst e3
                obtain ⟨b, rfl⟩ : ∃ b, a2 = some ⟨b, 0, none⟩ := by
                  rcases hac with ⟨rfl, rfl⟩ | ⟨q, rfl, -⟩
                  · exact absurd hcap (by omega)
                  · exact ⟨q, rfl⟩
                clear hac
                obtain ⟨b', off, hbo, hbb, hcell⟩ := hev.row (by omega)
                obtain ⟨rfl, rfl⟩ : b = b' ∧ 0 = off := by simpa using hbo
                clear hbo
                have hc0 : wr.cell? ⟨b, k * 9, none⟩ = some (.int .i64 ps[k].v.id) := by have := hcell k hk 0 (by omega); rwa [Nat.zero_add] at this
                have hc1 : wr.cell? ⟨b, k * 9 + 1, none⟩ = some (.int .i64 ps[k].v.room) := by have := hcell k hk 1 (by omega); rwa [Nat.zero_add] at this
                have hc2 : wr.cell? ⟨b, k * 9 + 2, none⟩ = some (.int .i64 ps[k].v.author) := by have := hcell k hk 2 (by omega); rwa [Nat.zero_add] at this
                have hc3 : wr.cell? ⟨b, k * 9 + 3, none⟩ = some (.int .i64 ps[k].v.kind) := by have := hcell k hk 3 (by omega); rwa [Nat.zero_add] at this
                have hc4 : wr.cell? ⟨b, k * 9 + 4, none⟩ = some (.int .i64 ps[k].v.key) := by have := hcell k hk 4 (by omega); rwa [Nat.zero_add] at this
                have hc5 : wr.cell? ⟨b, k * 9 + 5, none⟩ = some (.int .i64 ps[k].v.n) := by have := hcell k hk 5 (by omega); rwa [Nat.zero_add] at this
                have hc6 : wr.cell? ⟨b, k * 9 + 6, none⟩ = some (.string ps[k].v.text) := by have := hcell k hk 6 (by omega); rwa [Nat.zero_add] at this
                have hc7 : wr.cell? ⟨b, k * 9 + 7, none⟩ = some (.slice ps[k].p ps[k].v.prev.length ps[k].c) := by have := hcell k hk 7 (by omega); rwa [Nat.zero_add] at this
                have hc8 : wr.cell? ⟨b, k * 9 + 8, none⟩ = some (.int .i64 ps[k].v.time) := by have := hcell k hk 8 (by omega); rwa [Nat.zero_add] at this
                have SMY : Hid (ps[k].v.prev.length ≤ 1000) := HL.out.sr.small _ (.inr (List.getElem_mem hk))
                have HXO : Hid (Below wr.heap.size wr (wr.alloc (.cells #[.int .i64 ps[k].v.id, .int .i64 ps[k].v.room, .int .i64 ps[k].v.author, .int .i64 ps[k].v.kind, .int .i64 ps[k].v.key, .int .i64 ps[k].v.n, .string ps[k].v.text, .slice ps[k].p ps[k].v.prev.length ps[k].c, .int .i64 ps[k].v.time] 37)) ∧ (wr.alloc (.cells #[.int .i64 ps[k].v.id, .int .i64 ps[k].v.room, .int .i64 ps[k].v.author, .int .i64 ps[k].v.kind, .int .i64 ps[k].v.key, .int .i64 ps[k].v.n, .string ps[k].v.text, .slice ps[k].p ps[k].v.prev.length ps[k].c, .int .i64 ps[k].v.time] 37)).heap[wr.heap.size]? = some (.cells #[.int .i64 ps[k].v.id, .int .i64 ps[k].v.room, .int .i64 ps[k].v.author, .int .i64 ps[k].v.kind, .int .i64 ps[k].v.key, .int .i64 ps[k].v.n, .string ps[k].v.text, .slice ps[k].p ps[k].v.prev.length ps[k].c, .int .i64 ps[k].v.time] 37 (0, 0))) := ⟨(Below.refl _ _).alloc (Nat.le_refl _) _, (MapKept.heap_alloc _ _).1⟩
                have SW : Hid (∀ W, Below (wr.heap.size + 1) (wr.alloc (.cells #[.int .i64 ps[k].v.id, .int .i64 ps[k].v.room, .int .i64 ps[k].v.author, .int .i64 ps[k].v.kind, .int .i64 ps[k].v.key, .int .i64 ps[k].v.n, .string ps[k].v.text, .slice ps[k].p ps[k].v.prev.length ps[k].c, .int .i64 ps[k].v.time] 37)) W → SA w g x B (.slice a1 es.length c1) (.slice (some ⟨b, 0, none⟩) ps.length c2) (.slice a3 ad.length c3) W) := fun W hW => HL.out.sa.on (HXO.out.1.trans (hW.mono (by omega)))
                have HMR : Hid (∀ W, Below (wr.heap.size + 1) (wr.alloc (.cells #[.int .i64 ps[k].v.id, .int .i64 ps[k].v.room, .int .i64 ps[k].v.author, .int .i64 ps[k].v.kind, .int .i64 ps[k].v.key, .int .i64 ps[k].v.n, .string ps[k].v.text, .slice ps[k].p ps[k].v.prev.length ps[k].c, .int .i64 ps[k].v.time] 37)) W → EmsRow W (some ⟨b, 0, none⟩) ps) := fun W hW => hev.ems.kept (HXO.out.1.trans (hW.mono (by omega)))
                have hyo : wr.ownsRow w.heap.size 2 1 (.slice ps[k].p ps[k].v.prev.length ps[k].c) ps[k].v.prev.length (nv ps[k].v.prev) := HL.out.sr.o2.2 _ (List.getElem_mem hk)
                have SX : Hid (∀ W v, Below (wr.heap.size + 1) (wr.alloc (.cells #[.int .i64 ps[k].v.id, .int .i64 ps[k].v.room, .int .i64 ps[k].v.author, .int .i64 ps[k].v.kind, .int .i64 ps[k].v.key, .int .i64 ps[k].v.n, .string ps[k].v.text, .slice ps[k].p ps[k].v.prev.length ps[k].c, .int .i64 ps[k].v.time] 37)) W → EmsOwn W (wr.heap.size + 1) v PS → SA w g x B (.slice a1 es.length c1) (.slice (some ⟨b, 0, none⟩) ps.length c2) (.slice a3 ad.length c3) W ∧ SR w.heap.size es PS ad (.slice a1 es.length c1) v (.slice a3 ad.length c3) W ∧ W.heap[wr.heap.size]? = some (.cells #[.int .i64 ps[k].v.id, .int .i64 ps[k].v.room, .int .i64 ps[k].v.author, .int .i64 ps[k].v.kind, .int .i64 ps[k].v.key, .int .i64 ps[k].v.n, .string ps[k].v.text, .slice ps[k].p ps[k].v.prev.length ps[k].c, .int .i64 ps[k].v.time] 37 (0, 0)) ∧ W.ownsRow w.heap.size 2 1 (.slice ps[k].p ps[k].v.prev.length ps[k].c) ps[k].v.prev.length (nv ps[k].v.prev)) := fun W v hW ho => by
                  have hb : Below wr.heap.size wr W := HXO.out.1.trans (hW.mono (by omega))
                  refine ⟨SW.out W hW, HL.out.sr.rest hb (owns_baseC ho (by have := HL.out.sa.below.size; omega)) (fun m hm => ?_) (by rw [HPS.out, List.length_append, List.length_take, List.length_drop]; omega), (hW.block _ (by omega)).trans HXO.out.2, rowI_kept hyo hb⟩
                  rw [HPS.out] at hm
                  rcases List.mem_append.1 hm with hm | hm
                  · exact List.mem_of_mem_take hm
                  · exact List.mem_of_mem_drop hm
                have HM : Hid (EmsOwn ((wr.alloc (.cells #[.int .i64 ps[k].v.id, .int .i64 ps[k].v.room, .int .i64 ps[k].v.author, .int .i64 ps[k].v.kind, .int .i64 ps[k].v.key, .int .i64 ps[k].v.n, .string ps[k].v.text, .slice ps[k].p ps[k].v.prev.length ps[k].c, .int .i64 ps[k].v.time] 37)).alloc (.cells #[] 37)) (wr.heap.size + 1) (.slice (some ⟨wr.heap.size + 1, 0, none⟩) 0 0) [] ∧ Below (wr.heap.size + 1) (wr.alloc (.cells #[.int .i64 ps[k].v.id, .int .i64 ps[k].v.room, .int .i64 ps[k].v.author, .int .i64 ps[k].v.kind, .int .i64 ps[k].v.key, .int .i64 ps[k].v.n, .string ps[k].v.text, .slice ps[k].p ps[k].v.prev.length ps[k].c, .int .i64 ps[k].v.time] 37)) ((wr.alloc (.cells #[.int .i64 ps[k].v.id, .int .i64 ps[k].v.room, .int .i64 ps[k].v.author, .int .i64 ps[k].v.kind, .int .i64 ps[k].v.key, .int .i64 ps[k].v.n, .string ps[k].v.text, .slice ps[k].p ps[k].v.prev.length ps[k].c, .int .i64 ps[k].v.time] 37)).alloc (.cells #[] 37))) := by
                  have e1 := EmsOwn.made (wr.alloc (.cells #[.int .i64 ps[k].v.id, .int .i64 ps[k].v.room, .int .i64 ps[k].v.author, .int .i64 ps[k].v.kind, .int .i64 ps[k].v.key, .int .i64 ps[k].v.n, .string ps[k].v.text, .slice ps[k].p ps[k].v.prev.length ps[k].c, .int .i64 ps[k].v.time] 37)) (base := wr.heap.size + 1) (by simp)
                  have e2 : (wr.alloc (.cells #[.int .i64 ps[k].v.id, .int .i64 ps[k].v.room, .int .i64 ps[k].v.author, .int .i64 ps[k].v.kind, .int .i64 ps[k].v.key, .int .i64 ps[k].v.n, .string ps[k].v.text, .slice ps[k].p ps[k].v.prev.length ps[k].c, .int .i64 ps[k].v.time] 37)).heap.size = wr.heap.size + 1 := by simp
                  rw [e2] at e1
                  exact ⟨e1, (Below.refl _ _).alloc (by simp) _⟩
                skip
                have htk : (ps.take k).length = k := by simp; omega
                have hBX : wr.heap.size ≠ B := by have := HL.out.sa.lt; omega
                have hBX2 : ¬ B = wr.heap.size := by have := HL.out.sa.lt; omega
                have hBL := HL.out.sa.lt
                have hBL2 : B < wr.heap.size + 1 := by omega
                have hBX3 : ¬ B = wr.heap.size + 1 := by have := HL.out.sa.lt; omega
                clear hcell hev hfv hkv hyv
                have b0 : wr.cell? ⟨B, 0, none⟩ = some (.int .i64 g.room) := cell_of_heap HL.out.sa.out
                have b1 : wr.cell? ⟨B, 1, none⟩ = some (.slice a1 es.length c1) := cell_of_heap HL.out.sa.out
                have b2 : wr.cell? ⟨B, 2, none⟩ = some (.slice (some ⟨b, 0, none⟩) ps.length c2) := cell_of_heap HL.out.sa.out
                have b3 : wr.cell? ⟨B, 3, none⟩ = some (.slice a3 ad.length c3) := cell_of_heap HL.out.sa.out
                have b4 : wr.cell? ⟨B, 4, none⟩ = some (.int .i64 0) := cell_of_heap HL.out.sa.out
                have bf : ∀ o, wr.frozen? ⟨B, o, none⟩ = false := fun o => frozen_of_heap HL.out.sa.out
                by_cases hes : es.length < 60
                · skip
                  by_cases hfull : k + 1 = c2
                  · have hck0 : c2 - (k + 1) = 0 := by omega
                    subst hfull
                    have hck0' : k + 1 - (k + 1) = 0 := by omega
                    have hde : decide ((es.length : Int) < 60) = true := decide_eq_true (by omega)
                    skip
                    go_wp2_with (first | (have hq := HA; clear hq; at_builtin; refine wpList_append_ems rfl _ _ 30 rfl i0 _ Tryz.underlying30 hi hz0 hz1 hz2 rfl (wr.heap.size + 1) _ (ps.take k) rfl HA.out.1 (some ⟨b, 0, none⟩) 0 (ps.drop (k + 1)) (by rw [List.drop_eq_nil_of_le (by omega)]; exact EmsRow.empty _) (by rw [List.length_drop]; rw [show ps.length - (k + 1) = 0 by omega]; rfl) (by simp; omega) (by have := HA.out.2.size; simpa using this) ?_; intro v11 w11 hO hb _ _; rw [← HPS.out] at hO; obtain ⟨a9, c9, rfl, -⟩ := EmsOwn.at hO (by omega); have H11 : Hid (SA w g x B (.slice a1 es.length c1) (.slice (some ⟨b, 0, none⟩) ps.length (k + 1)) (.slice a3 ad.length c3) w11 ∧ SR w.heap.size es PS ad (.slice a1 es.length c1) (.slice a9 PS.length c9) (.slice a3 ad.length c3) w11 ∧ w11.heap[wr.heap.size]? = some (.cells #[.int .i64 ps[k].v.id, .int .i64 ps[k].v.room, .int .i64 ps[k].v.author, .int .i64 ps[k].v.kind, .int .i64 ps[k].v.key, .int .i64 ps[k].v.n, .string ps[k].v.text, .slice ps[k].p ps[k].v.prev.length ps[k].c, .int .i64 ps[k].v.time] 37 (0, 0)) ∧ w11.ownsRow w.heap.size 2 1 (.slice ps[k].p ps[k].v.prev.length ps[k].c) ps[k].v.prev.length (nv ps[k].v.prev)) := SX.out _ _ (HA.out.2.trans hb) hO; clear hO hb; clear b0 b1 b2 b3 b4 bf; have b0 : w11.cell? ⟨B, 0, none⟩ = some (.int .i64 g.room) := cell_of_heap H11.out.1.out; have b1 : w11.cell? ⟨B, 1, none⟩ = some (.slice a1 es.length c1) := cell_of_heap H11.out.1.out; have b2 : w11.cell? ⟨B, 2, none⟩ = some (.slice (some ⟨b, 0, none⟩) ps.length (k + 1)) := cell_of_heap H11.out.1.out; have b3 : w11.cell? ⟨B, 3, none⟩ = some (.slice a3 ad.length c3) := cell_of_heap H11.out.1.out; have b4 : w11.cell? ⟨B, 4, none⟩ = some (.int .i64 0) := cell_of_heap H11.out.1.out; have bf : ∀ o, w11.frozen? ⟨B, o, none⟩ = false := fun o => frozen_of_heap H11.out.1.out) | (at_builtin; refine wpList_append_ems rfl _ _ 30 rfl i0 _ Tryz.underlying30 hi hz0 hz1 hz2 rfl (wr.heap.size + 1) _ [] rfl HM.out.1 (some ⟨b, 0, none⟩) (k + 1) (ps.take k) ((HMR.out _ HM.out.2).take k) (by rw [htk]; rfl) (by simp; omega) (by simp) ?_; intro v10 w10 hO hb _ _; obtain ⟨a8, c8, e8, -⟩ := EmsOwn.at hO (by simp; omega); rw [List.nil_append, htk] at e8; subst e8; have HA : Hid (EmsOwn w10 (wr.heap.size + 1) (.slice a8 k c8) (ps.take k) ∧ Below (wr.heap.size + 1) (wr.alloc (.cells #[.int .i64 ps[k].v.id, .int .i64 ps[k].v.room, .int .i64 ps[k].v.author, .int .i64 ps[k].v.kind, .int .i64 ps[k].v.key, .int .i64 ps[k].v.n, .string ps[k].v.text, .slice ps[k].p ps[k].v.prev.length ps[k].c, .int .i64 ps[k].v.time] 37)) w10) := ⟨hO, HM.out.2.trans hb⟩; clear hO hb; clear b0 b1 b2 b3 b4 bf; have b0 : w10.cell? ⟨B, 0, none⟩ = some (.int .i64 g.room) := cell_of_heap (SW.out _ HA.out.2).out; have b1 : w10.cell? ⟨B, 1, none⟩ = some (.slice a1 es.length c1) := cell_of_heap (SW.out _ HA.out.2).out; have b2 : w10.cell? ⟨B, 2, none⟩ = some (.slice (some ⟨b, 0, none⟩) ps.length (k + 1)) := cell_of_heap (SW.out _ HA.out.2).out; have b3 : w10.cell? ⟨B, 3, none⟩ = some (.slice a3 ad.length c3) := cell_of_heap (SW.out _ HA.out.2).out; have b4 : w10.cell? ⟨B, 4, none⟩ = some (.int .i64 0) := cell_of_heap (SW.out _ HA.out.2).out; have bf : ∀ o, w10.frozen? ⟨B, o, none⟩ = false := fun o => frozen_of_heap (SW.out _ HA.out.2).out) | fail)
                    obtain ⟨w12, HW12⟩ : ∃ q, Hid (q = w11.setCell ⟨B, 2, none⟩ (.slice a9 PS.length c9)) := ⟨_, rfl⟩
                    have H12 : Hid (SA w g x B (.slice a1 es.length c1) (.slice a9 PS.length c9) (.slice a3 ad.length c3) w12 ∧ SR w.heap.size es PS ad (.slice a1 es.length c1) (.slice a9 PS.length c9) (.slice a3 ad.length c3) w12 ∧ w12.heap[wr.heap.size]? = some (.cells #[.int .i64 ps[k].v.id, .int .i64 ps[k].v.room, .int .i64 ps[k].v.author, .int .i64 ps[k].v.kind, .int .i64 ps[k].v.key, .int .i64 ps[k].v.n, .string ps[k].v.text, .slice ps[k].p ps[k].v.prev.length ps[k].c, .int .i64 ps[k].v.time] 37 (0, 0)) ∧ w12.ownsRow w.heap.size 2 1 (.slice ps[k].p ps[k].v.prev.length ps[k].c) ps[k].v.prev.length (nv ps[k].v.prev)) := by rw [HW12.out]; exact ⟨H11.out.1.put2 _, H11.out.2.1.setX H11.out.1.out _, (Below.heap_setCell _ _ _ _ hBX).trans H11.out.2.2.1, owns_setX H11.out.2.2.2 H11.out.1.out (by decide)⟩
                    rw [← HW12.out]
                    clear HW12
                    clear b0 b1 b2 b3 b4 bf
                    skip
                    have BW : Hid (NumsAt w12.drew ps[k].p ps[k].v.prev) := rowI_at (rowI_kept H12.out.2.2.2 (Below.refl _ _).drew) (by have := SMY.out; omega)
                    have b0 : w12.cell? ⟨B, 0, none⟩ = some (.int .i64 g.room) := cell_of_heap H12.out.1.out
                    have b1 : w12.cell? ⟨B, 1, none⟩ = some (.slice a1 es.length c1) := cell_of_heap H12.out.1.out
                    have b2 : w12.cell? ⟨B, 2, none⟩ = some (.slice a9 PS.length c9) := cell_of_heap H12.out.1.out
                    have b3 : w12.cell? ⟨B, 3, none⟩ = some (.slice a3 ad.length c3) := cell_of_heap H12.out.1.out
                    have b4 : w12.cell? ⟨B, 4, none⟩ = some (.int .i64 0) := cell_of_heap H12.out.1.out
                    have bf : ∀ o, w12.frozen? ⟨B, o, none⟩ = false := fun o => frozen_of_heap H12.out.1.out
                    have f0 : w12.cell? ⟨wr.heap.size, 0, none⟩ = some (.int .i64 ps[k].v.id) := cell_of_heap H12.out.2.2.1
                    have f1 : w12.cell? ⟨wr.heap.size, 1, none⟩ = some (.int .i64 ps[k].v.room) := cell_of_heap H12.out.2.2.1
                    have f2 : w12.cell? ⟨wr.heap.size, 2, none⟩ = some (.int .i64 ps[k].v.author) := cell_of_heap H12.out.2.2.1
                    have f3 : w12.cell? ⟨wr.heap.size, 3, none⟩ = some (.int .i64 ps[k].v.kind) := cell_of_heap H12.out.2.2.1
                    have f4 : w12.cell? ⟨wr.heap.size, 4, none⟩ = some (.int .i64 ps[k].v.key) := cell_of_heap H12.out.2.2.1
                    have f5 : w12.cell? ⟨wr.heap.size, 5, none⟩ = some (.int .i64 ps[k].v.n) := cell_of_heap H12.out.2.2.1
                    have f6 : w12.cell? ⟨wr.heap.size, 6, none⟩ = some (.string ps[k].v.text) := cell_of_heap H12.out.2.2.1
                    have f7 : w12.cell? ⟨wr.heap.size, 7, none⟩ = some (.slice ps[k].p ps[k].v.prev.length ps[k].c) := cell_of_heap H12.out.2.2.1
                    have f8 : w12.cell? ⟨wr.heap.size, 8, none⟩ = some (.int .i64 ps[k].v.time) := cell_of_heap H12.out.2.2.1
                    refine wp_region_any (by kernel_rfl) ?_
                    change wpAny _ _ _ _ _ _ _ (World.drew _)
                    refine wpAny_take (i := 0) (v := (.pointer (some ⟨B, 0, none⟩))) rfl (by kernel_rfl) (by kernel_rfl) (by kernel_rfl) (fun _ _ _ h => h) (Or.inl ⟨by kernel_rfl, ?_⟩) ?_
                    · intro w
                      go_simp
                    refine wpAny_take (i := 1) (v := (.pointer (some ⟨B, 0, none⟩))) rfl (by kernel_rfl) (by kernel_rfl) (by kernel_rfl) (fun _ _ _ h => h) (Or.inl ⟨by kernel_rfl, ?_⟩) ?_
                    · intro w
                      go_simp
                    refine wpAny_take (i := 2) (v := (.pointer (some ⟨B, 0, none⟩))) rfl (by kernel_rfl) (by kernel_rfl) (by kernel_rfl) (fun _ _ _ h => h) (Or.inl ⟨by kernel_rfl, ?_⟩) ?_
                    · intro w
                      go_simp
                    refine wpAny_take (i := 3) (v := (.pointer (some ⟨B, 1, none⟩))) rfl (by kernel_rfl) (by kernel_rfl) (by kernel_rfl) (fun _ _ _ h => h) (Or.inl ⟨by kernel_rfl, ?_⟩) ?_
                    · intro w
                      go_simp
                    refine wpAny_ready (rs := [4, 5]) (by kernel_rfl) (by simp) ?_
                    refine AllReady.cons rfl (fun K hK => ?_) (AllReady.cons rfl (fun K hK => ?_) AllReady.nil)
                    · go_simp
                      refine hK _ _ ?_
                      clear hK K
                      refine wpAny_ready (rs := [5]) (by kernel_rfl) (by simp) ?_
                      refine AllReady.cons rfl (fun K hK => ?_) AllReady.nil
                      go_simp
                      refine hK _ _ ?_
                      clear hK K
                      refine wpAny_ready (rs := [6]) (by kernel_rfl) (by simp) ?_
                      refine AllReady.cons rfl (fun K hK => ?_) AllReady.nil
                      go_simp
                      refine (put03_S w.heap.size (.slice a1 es.length c1) es ps[k] _ (H12.out.2.1.o1.kept (Below.refl _ _).drew) BW.out (by have := H12.out.2.1.el; omega) (H12.out.1.below.drew).size).mono ?_
                      rintro e w13 ⟨v13, a12, c12, rfl, hS13, hf13, hb13⟩
                      obtain ⟨a13, c13, rfl⟩ := hS13.slice
                      have hb13d : Below w12.heap.size w12 w13 := ⟨hb13.os, hb13.tape, hb13.output, hb13.size, hb13.block⟩
                      have hx12 := (Array.getElem?_eq_some_iff.1 H12.out.2.2.1).1
                      have H13 : Hid (SA w g x B (.slice a1 es.length c1) (.slice a9 PS.length c9) (.slice a3 ad.length c3) w13 ∧ SR w.heap.size (insE es (Em.mk ps[k].v a12 c12)) PS ad (.slice a13 (insE es (Em.mk ps[k].v a12 c12)).length c13) (.slice a9 PS.length c9) (.slice a3 ad.length c3) w13 ∧ w13.heap[wr.heap.size]? = some (.cells #[.int .i64 ps[k].v.id, .int .i64 ps[k].v.room, .int .i64 ps[k].v.author, .int .i64 ps[k].v.kind, .int .i64 ps[k].v.key, .int .i64 ps[k].v.n, .string ps[k].v.text, .slice ps[k].p ps[k].v.prev.length ps[k].c, .int .i64 ps[k].v.time] 37 (0, 0))) := ⟨H12.out.1.on hb13d, H12.out.2.1.put1 hS13 hf13 SMY.out hes hb13d, (hb13d.block _ hx12).trans H12.out.2.2.1⟩
                      clear hS13 hf13 hb13 hb13d hx12
                      clear b0 b1 b2 b3 b4 bf
                      clear f0 f1 f2 f3 f4 f5 f6 f7 f8
                      have b0 : w13.cell? ⟨B, 0, none⟩ = some (.int .i64 g.room) := cell_of_heap H13.out.1.out
                      have b1 : w13.cell? ⟨B, 1, none⟩ = some (.slice a1 es.length c1) := cell_of_heap H13.out.1.out
                      have b2 : w13.cell? ⟨B, 2, none⟩ = some (.slice a9 PS.length c9) := cell_of_heap H13.out.1.out
                      have b3 : w13.cell? ⟨B, 3, none⟩ = some (.slice a3 ad.length c3) := cell_of_heap H13.out.1.out
                      have b4 : w13.cell? ⟨B, 4, none⟩ = some (.int .i64 0) := cell_of_heap H13.out.1.out
                      have bf : ∀ o, w13.frozen? ⟨B, o, none⟩ = false := fun o => frozen_of_heap H13.out.1.out
                      refine hK _ _ ?_
                      clear hK K
                      refine wpAny_take (i := 7) (v := (.pointer (some ⟨B, 0, none⟩))) rfl (by kernel_rfl) (by kernel_rfl) (by kernel_rfl) (fun _ _ _ h => h) (Or.inl ⟨by kernel_rfl, ?_⟩) ?_
                      · intro w
                        go_simp
                      refine wpAny_take (i := 8) (v := (.pointer (some ⟨B, 1, none⟩))) rfl (by kernel_rfl) (by kernel_rfl) (by kernel_rfl) (fun _ _ _ h => h) (Or.inl ⟨by kernel_rfl, ?_⟩) ?_
                      · intro w
                        go_simp
                      refine wpAny_ready (rs := [9]) (by kernel_rfl) (by simp) ?_
                      refine AllReady.cons rfl (fun K hK => ?_) AllReady.nil
                      go_simp
                      refine hK _ _ ?_
                      clear hK K
                      refine wpAny_done (by kernel_rfl) ?_ _
                      obtain ⟨w14, HW14⟩ : ∃ q, Hid (q = w13.setCell ⟨B, 1, none⟩ (.slice a13 (insE es (Em.mk ps[k].v a12 c12)).length c13)) := ⟨w13.setCell ⟨B, 1, none⟩ (.slice a13 (insE es (Em.mk ps[k].v a12 c12)).length c13), (rfl : w13.setCell ⟨B, 1, none⟩ (.slice a13 (insE es (Em.mk ps[k].v a12 c12)).length c13) = _)⟩
                      have H14 : Hid (SA w g x B (.slice a13 (insE es (Em.mk ps[k].v a12 c12)).length c13) (.slice a9 PS.length c9) (.slice a3 ad.length c3) w14 ∧ SR w.heap.size (insE es (Em.mk ps[k].v a12 c12)) PS ad (.slice a13 (insE es (Em.mk ps[k].v a12 c12)).length c13) (.slice a9 PS.length c9) (.slice a3 ad.length c3) w14 ∧ w14.heap[wr.heap.size]? = some (.cells #[.int .i64 ps[k].v.id, .int .i64 ps[k].v.room, .int .i64 ps[k].v.author, .int .i64 ps[k].v.kind, .int .i64 ps[k].v.key, .int .i64 ps[k].v.n, .string ps[k].v.text, .slice ps[k].p ps[k].v.prev.length ps[k].c, .int .i64 ps[k].v.time] 37 (0, 0))) := by rw [HW14.out]; exact ⟨H13.out.1.put1 _, H13.out.2.1.setX H13.out.1.out _, (Below.heap_setCell _ _ _ _ hBX).trans H13.out.2.2⟩
                      rw [← HW14.out]
                      clear HW14
                      clear b0 b1 b2 b3 b4 bf
                      have b0 : w14.cell? ⟨B, 0, none⟩ = some (.int .i64 g.room) := cell_of_heap H14.out.1.out
                      have b1 : w14.cell? ⟨B, 1, none⟩ = some (.slice a13 (insE es (Em.mk ps[k].v a12 c12)).length c13) := cell_of_heap H14.out.1.out
                      have b2 : w14.cell? ⟨B, 2, none⟩ = some (.slice a9 PS.length c9) := cell_of_heap H14.out.1.out
                      have b3 : w14.cell? ⟨B, 3, none⟩ = some (.slice a3 ad.length c3) := cell_of_heap H14.out.1.out
                      have b4 : w14.cell? ⟨B, 4, none⟩ = some (.int .i64 0) := cell_of_heap H14.out.1.out
                      have bf : ∀ o, w14.frozen? ⟨B, o, none⟩ = false := fun o => frozen_of_heap H14.out.1.out
                      have f0 : w14.cell? ⟨wr.heap.size, 0, none⟩ = some (.int .i64 ps[k].v.id) := cell_of_heap H14.out.2.2
                      have hlt14 := H14.out.1.lt
                      have hx14 := (Array.getElem?_eq_some_iff.1 H14.out.2.2).1
                      have hz14 := H14.out.1.below.size
                      have hadl : ad.length ≤ 100 := by have := HL.out.adl; have := HL.out.sr.el; omega
                      have HB14 : Hid (∀ o, Below w14.heap.size w14 (w14.alloc o)) := fun o => (Below.refl _ _).alloc (Nat.le_refl _) _
                      go_wp2_with (first | (at_builtin; refine wpList_append_intF rfl _ _ 25 rfl w.heap.size j0 _ Tryz.underlying25 hj hj0 hj1 hj2 rfl _ ad rfl (H14.out.2.1.on (HB14.out _)).o3 w14.heap.size 1 ps[k].v.id rfl (cell_of_heap (MapKept.heap_alloc _ _).1) (by omega) (by simp; omega) ?_; intro v15 w15 hO hg hn; have H15 : Hid (SA w g x B (.slice a13 (insE es (Em.mk ps[k].v a12 c12)).length c13) (.slice a9 PS.length c9) (.slice a3 ad.length c3) w15 ∧ SR w.heap.size (insE es (Em.mk ps[k].v a12 c12)) PS (ad ++ [ps[k].v.id]) (.slice a13 (insE es (Em.mk ps[k].v a12 c12)).length c13) (.slice a9 PS.length c9) v15 w15) := ⟨(H14.out.1.on (HB14.out _)).app (H14.out.2.1.on (HB14.out _)).o3 rfl hg, (H14.out.2.1.on (HB14.out _)).app hO hg hn⟩; obtain ⟨a15, c15, e15, -⟩ := NumsOwn.at hO (by simp; omega); rw [List.length_append, List.length_singleton] at e15; subst e15; clear hO hg hn; clear b0 b1 b2 b3 b4 bf; have b0 : w15.cell? ⟨B, 0, none⟩ = some (.int .i64 g.room) := cell_of_heap H15.out.1.out; have b1 : w15.cell? ⟨B, 1, none⟩ = some (.slice a13 (insE es (Em.mk ps[k].v a12 c12)).length c13) := cell_of_heap H15.out.1.out; have b2 : w15.cell? ⟨B, 2, none⟩ = some (.slice a9 PS.length c9) := cell_of_heap H15.out.1.out; have b3 : w15.cell? ⟨B, 3, none⟩ = some (.slice a3 ad.length c3) := cell_of_heap H15.out.1.out; have b4 : w15.cell? ⟨B, 4, none⟩ = some (.int .i64 0) := cell_of_heap H15.out.1.out; have bf : ∀ o, w15.frozen? ⟨B, o, none⟩ = false := fun o => frozen_of_heap H15.out.1.out) | fail)
                      have H16 : Hid (SA w g x B (.slice a13 (insE es (Em.mk ps[k].v a12 c12)).length c13) (.slice a9 PS.length c9) (.slice a15 (ad.length + 1) c15) (w15.setCell ⟨B, 3, none⟩ (.slice a15 (ad.length + 1) c15)) ∧ SR w.heap.size (insE es (Em.mk ps[k].v a12 c12)) PS (ad ++ [ps[k].v.id]) (.slice a13 (insE es (Em.mk ps[k].v a12 c12)).length c13) (.slice a9 PS.length c9) (.slice a15 (ad.length + 1) c15) (w15.setCell ⟨B, 3, none⟩ (.slice a15 (ad.length + 1) c15))) := ⟨H15.out.1.put3 _, H15.out.2.setX H15.out.1.out _⟩
                      clear H15 H14 H13 H12 H11
                      have LE13 : Hid ((insE es (Em.mk ps[k].v a12 c12)).length = es.length + 1) := by have e := congrArg List.length (vs_insE es (Em.mk ps[k].v a12 c12)); rw [vs_length, insV_length, vs_length] at e; exact e
                      refine (free_spec ⟨g.room, (insE es (Em.mk ps[k].v a12 c12)), PS⟩ _ _ _ _ _ (H16.out.2.o1.evs (by have := H16.out.2.el; omega) (fun m hm => H16.out.2.small m (.inl hm))) (H16.out.2.o2.evs (by have := H16.out.2.pl; omega) (fun m hm => H16.out.2.small m (.inr hm)))).mono ?_
                      rintro e w17 ⟨rfl, hb17⟩
                      have H17 : Hid (LI w g x B (takeV (g.pk.length + 1) x.v (vs g.evs) (vs g.pk) []) (insE es (Em.mk ps[k].v a12 c12)) PS (ad ++ [ps[k].v.id]) (.slice a13 (insE es (Em.mk ps[k].v a12 c12)).length c13) (.slice a9 PS.length c9) (.slice a15 (ad.length + 1) c15) n w17) := ⟨H16.out.1.on hb17, H16.out.2.on hb17, RPS.out.2.1, (by rw [← FN.out, if_pos (by rw [vs_length]; exact hes), if_pos (by rw [vs_length]; exact hes), vs_insE, RPS.out.1]), (by have := HL.out.adl; rw [List.length_append, LE13.out]; simpa using this)⟩
                      clear hb17 H16
                      go_wp2
                      go_roundg n
                      case measure => omega
                      case rel => exact ⟨_, _, ad ++ [ps[k].v.id], a13, a9, a15, c13, c9, c15, RPS.out.2.2, rfl, by rw [List.length_append, List.length_singleton]; exact H17⟩
                    · go_simp
                      refine hK _ _ ?_
                      clear hK K
                      refine wpAny_ready (rs := [4]) (by kernel_rfl) (by simp) ?_
                      refine AllReady.cons rfl (fun K hK => ?_) AllReady.nil
                      go_simp
                      refine hK _ _ ?_
                      clear hK K
                      refine wpAny_ready (rs := [6]) (by kernel_rfl) (by simp) ?_
                      refine AllReady.cons rfl (fun K hK => ?_) AllReady.nil
                      go_simp
                      refine (put03_S w.heap.size (.slice a1 es.length c1) es ps[k] _ (H12.out.2.1.o1.kept (Below.refl _ _).drew) BW.out (by have := H12.out.2.1.el; omega) (H12.out.1.below.drew).size).mono ?_
                      rintro e w13 ⟨v13, a12, c12, rfl, hS13, hf13, hb13⟩
                      obtain ⟨a13, c13, rfl⟩ := hS13.slice
                      have hb13d : Below w12.heap.size w12 w13 := ⟨hb13.os, hb13.tape, hb13.output, hb13.size, hb13.block⟩
                      have hx12 := (Array.getElem?_eq_some_iff.1 H12.out.2.2.1).1
                      have H13 : Hid (SA w g x B (.slice a1 es.length c1) (.slice a9 PS.length c9) (.slice a3 ad.length c3) w13 ∧ SR w.heap.size (insE es (Em.mk ps[k].v a12 c12)) PS ad (.slice a13 (insE es (Em.mk ps[k].v a12 c12)).length c13) (.slice a9 PS.length c9) (.slice a3 ad.length c3) w13 ∧ w13.heap[wr.heap.size]? = some (.cells #[.int .i64 ps[k].v.id, .int .i64 ps[k].v.room, .int .i64 ps[k].v.author, .int .i64 ps[k].v.kind, .int .i64 ps[k].v.key, .int .i64 ps[k].v.n, .string ps[k].v.text, .slice ps[k].p ps[k].v.prev.length ps[k].c, .int .i64 ps[k].v.time] 37 (0, 0))) := ⟨H12.out.1.on hb13d, H12.out.2.1.put1 hS13 hf13 SMY.out hes hb13d, (hb13d.block _ hx12).trans H12.out.2.2.1⟩
                      clear hS13 hf13 hb13 hb13d hx12
                      clear b0 b1 b2 b3 b4 bf
                      clear f0 f1 f2 f3 f4 f5 f6 f7 f8
                      have b0 : w13.cell? ⟨B, 0, none⟩ = some (.int .i64 g.room) := cell_of_heap H13.out.1.out
                      have b1 : w13.cell? ⟨B, 1, none⟩ = some (.slice a1 es.length c1) := cell_of_heap H13.out.1.out
                      have b2 : w13.cell? ⟨B, 2, none⟩ = some (.slice a9 PS.length c9) := cell_of_heap H13.out.1.out
                      have b3 : w13.cell? ⟨B, 3, none⟩ = some (.slice a3 ad.length c3) := cell_of_heap H13.out.1.out
                      have b4 : w13.cell? ⟨B, 4, none⟩ = some (.int .i64 0) := cell_of_heap H13.out.1.out
                      have bf : ∀ o, w13.frozen? ⟨B, o, none⟩ = false := fun o => frozen_of_heap H13.out.1.out
                      refine hK _ _ ?_
                      clear hK K
                      refine wpAny_take (i := 7) (v := (.pointer (some ⟨B, 0, none⟩))) rfl (by kernel_rfl) (by kernel_rfl) (by kernel_rfl) (fun _ _ _ h => h) (Or.inl ⟨by kernel_rfl, ?_⟩) ?_
                      · intro w
                        go_simp
                      refine wpAny_take (i := 8) (v := (.pointer (some ⟨B, 1, none⟩))) rfl (by kernel_rfl) (by kernel_rfl) (by kernel_rfl) (fun _ _ _ h => h) (Or.inl ⟨by kernel_rfl, ?_⟩) ?_
                      · intro w
                        go_simp
                      refine wpAny_ready (rs := [9]) (by kernel_rfl) (by simp) ?_
                      refine AllReady.cons rfl (fun K hK => ?_) AllReady.nil
                      go_simp
                      refine hK _ _ ?_
                      clear hK K
                      refine wpAny_done (by kernel_rfl) ?_ _
                      obtain ⟨w14, HW14⟩ : ∃ q, Hid (q = w13.setCell ⟨B, 1, none⟩ (.slice a13 (insE es (Em.mk ps[k].v a12 c12)).length c13)) := ⟨w13.setCell ⟨B, 1, none⟩ (.slice a13 (insE es (Em.mk ps[k].v a12 c12)).length c13), (rfl : w13.setCell ⟨B, 1, none⟩ (.slice a13 (insE es (Em.mk ps[k].v a12 c12)).length c13) = _)⟩
                      have H14 : Hid (SA w g x B (.slice a13 (insE es (Em.mk ps[k].v a12 c12)).length c13) (.slice a9 PS.length c9) (.slice a3 ad.length c3) w14 ∧ SR w.heap.size (insE es (Em.mk ps[k].v a12 c12)) PS ad (.slice a13 (insE es (Em.mk ps[k].v a12 c12)).length c13) (.slice a9 PS.length c9) (.slice a3 ad.length c3) w14 ∧ w14.heap[wr.heap.size]? = some (.cells #[.int .i64 ps[k].v.id, .int .i64 ps[k].v.room, .int .i64 ps[k].v.author, .int .i64 ps[k].v.kind, .int .i64 ps[k].v.key, .int .i64 ps[k].v.n, .string ps[k].v.text, .slice ps[k].p ps[k].v.prev.length ps[k].c, .int .i64 ps[k].v.time] 37 (0, 0))) := by rw [HW14.out]; exact ⟨H13.out.1.put1 _, H13.out.2.1.setX H13.out.1.out _, (Below.heap_setCell _ _ _ _ hBX).trans H13.out.2.2⟩
                      rw [← HW14.out]
                      clear HW14
                      clear b0 b1 b2 b3 b4 bf
                      have b0 : w14.cell? ⟨B, 0, none⟩ = some (.int .i64 g.room) := cell_of_heap H14.out.1.out
                      have b1 : w14.cell? ⟨B, 1, none⟩ = some (.slice a13 (insE es (Em.mk ps[k].v a12 c12)).length c13) := cell_of_heap H14.out.1.out
                      have b2 : w14.cell? ⟨B, 2, none⟩ = some (.slice a9 PS.length c9) := cell_of_heap H14.out.1.out
                      have b3 : w14.cell? ⟨B, 3, none⟩ = some (.slice a3 ad.length c3) := cell_of_heap H14.out.1.out
                      have b4 : w14.cell? ⟨B, 4, none⟩ = some (.int .i64 0) := cell_of_heap H14.out.1.out
                      have bf : ∀ o, w14.frozen? ⟨B, o, none⟩ = false := fun o => frozen_of_heap H14.out.1.out
                      have f0 : w14.cell? ⟨wr.heap.size, 0, none⟩ = some (.int .i64 ps[k].v.id) := cell_of_heap H14.out.2.2
                      have hlt14 := H14.out.1.lt
                      have hx14 := (Array.getElem?_eq_some_iff.1 H14.out.2.2).1
                      have hz14 := H14.out.1.below.size
                      have hadl : ad.length ≤ 100 := by have := HL.out.adl; have := HL.out.sr.el; omega
                      have HB14 : Hid (∀ o, Below w14.heap.size w14 (w14.alloc o)) := fun o => (Below.refl _ _).alloc (Nat.le_refl _) _
                      go_wp2_with (first | (at_builtin; refine wpList_append_intF rfl _ _ 25 rfl w.heap.size j0 _ Tryz.underlying25 hj hj0 hj1 hj2 rfl _ ad rfl (H14.out.2.1.on (HB14.out _)).o3 w14.heap.size 1 ps[k].v.id rfl (cell_of_heap (MapKept.heap_alloc _ _).1) (by omega) (by simp; omega) ?_; intro v15 w15 hO hg hn; have H15 : Hid (SA w g x B (.slice a13 (insE es (Em.mk ps[k].v a12 c12)).length c13) (.slice a9 PS.length c9) (.slice a3 ad.length c3) w15 ∧ SR w.heap.size (insE es (Em.mk ps[k].v a12 c12)) PS (ad ++ [ps[k].v.id]) (.slice a13 (insE es (Em.mk ps[k].v a12 c12)).length c13) (.slice a9 PS.length c9) v15 w15) := ⟨(H14.out.1.on (HB14.out _)).app (H14.out.2.1.on (HB14.out _)).o3 rfl hg, (H14.out.2.1.on (HB14.out _)).app hO hg hn⟩; obtain ⟨a15, c15, e15, -⟩ := NumsOwn.at hO (by simp; omega); rw [List.length_append, List.length_singleton] at e15; subst e15; clear hO hg hn; clear b0 b1 b2 b3 b4 bf; have b0 : w15.cell? ⟨B, 0, none⟩ = some (.int .i64 g.room) := cell_of_heap H15.out.1.out; have b1 : w15.cell? ⟨B, 1, none⟩ = some (.slice a13 (insE es (Em.mk ps[k].v a12 c12)).length c13) := cell_of_heap H15.out.1.out; have b2 : w15.cell? ⟨B, 2, none⟩ = some (.slice a9 PS.length c9) := cell_of_heap H15.out.1.out; have b3 : w15.cell? ⟨B, 3, none⟩ = some (.slice a3 ad.length c3) := cell_of_heap H15.out.1.out; have b4 : w15.cell? ⟨B, 4, none⟩ = some (.int .i64 0) := cell_of_heap H15.out.1.out; have bf : ∀ o, w15.frozen? ⟨B, o, none⟩ = false := fun o => frozen_of_heap H15.out.1.out) | fail)
                      have H16 : Hid (SA w g x B (.slice a13 (insE es (Em.mk ps[k].v a12 c12)).length c13) (.slice a9 PS.length c9) (.slice a15 (ad.length + 1) c15) (w15.setCell ⟨B, 3, none⟩ (.slice a15 (ad.length + 1) c15)) ∧ SR w.heap.size (insE es (Em.mk ps[k].v a12 c12)) PS (ad ++ [ps[k].v.id]) (.slice a13 (insE es (Em.mk ps[k].v a12 c12)).length c13) (.slice a9 PS.length c9) (.slice a15 (ad.length + 1) c15) (w15.setCell ⟨B, 3, none⟩ (.slice a15 (ad.length + 1) c15))) := ⟨H15.out.1.put3 _, H15.out.2.setX H15.out.1.out _⟩
                      clear H15 H14 H13 H12 H11
                      have LE13 : Hid ((insE es (Em.mk ps[k].v a12 c12)).length = es.length + 1) := by have e := congrArg List.length (vs_insE es (Em.mk ps[k].v a12 c12)); rw [vs_length, insV_length, vs_length] at e; exact e
                      refine (free_spec ⟨g.room, (insE es (Em.mk ps[k].v a12 c12)), PS⟩ _ _ _ _ _ (H16.out.2.o1.evs (by have := H16.out.2.el; omega) (fun m hm => H16.out.2.small m (.inl hm))) (H16.out.2.o2.evs (by have := H16.out.2.pl; omega) (fun m hm => H16.out.2.small m (.inr hm)))).mono ?_
                      rintro e w17 ⟨rfl, hb17⟩
                      have H17 : Hid (LI w g x B (takeV (g.pk.length + 1) x.v (vs g.evs) (vs g.pk) []) (insE es (Em.mk ps[k].v a12 c12)) PS (ad ++ [ps[k].v.id]) (.slice a13 (insE es (Em.mk ps[k].v a12 c12)).length c13) (.slice a9 PS.length c9) (.slice a15 (ad.length + 1) c15) n w17) := ⟨H16.out.1.on hb17, H16.out.2.on hb17, RPS.out.2.1, (by rw [← FN.out, if_pos (by rw [vs_length]; exact hes), if_pos (by rw [vs_length]; exact hes), vs_insE, RPS.out.1]), (by have := HL.out.adl; rw [List.length_append, LE13.out]; simpa using this)⟩
                      clear hb17 H16
                      go_wp2
                      go_roundg n
                      case measure => omega
                      case rel => exact ⟨_, _, ad ++ [ps[k].v.id], a13, a9, a15, c13, c9, c15, RPS.out.2.2, rfl, by rw [List.length_append, List.length_singleton]; exact H17⟩
                  · have hck1 : ¬ c2 - (k + 1) = 0 := by omega
                    have hfull2 : ¬ c2 = k + 1 := by omega
                    have hde : decide ((es.length : Int) < 60) = true := decide_eq_true (by omega)
                    skip
                    go_wp2_with (first | (have hq := HA; clear hq; at_builtin; refine wpList_append_ems rfl _ _ 30 rfl i0 _ Tryz.underlying30 hi hz0 hz1 hz2 rfl (wr.heap.size + 1) _ (ps.take k) rfl HA.out.1 (some ⟨b, (k + 1) * 9, none⟩) (c2 - (k + 1)) (ps.drop (k + 1)) (by have := (HMR.out _ HA.out.2).drop (k + 1); rwa [Nat.zero_add] at this) (by rw [List.length_drop]; rfl) (by simp; omega) (by have := HA.out.2.size; simpa using this) ?_; intro v11 w11 hO hb _ _; rw [← HPS.out] at hO; obtain ⟨a9, c9, rfl, -⟩ := EmsOwn.at hO (by omega); have H11 : Hid (SA w g x B (.slice a1 es.length c1) (.slice (some ⟨b, 0, none⟩) ps.length c2) (.slice a3 ad.length c3) w11 ∧ SR w.heap.size es PS ad (.slice a1 es.length c1) (.slice a9 PS.length c9) (.slice a3 ad.length c3) w11 ∧ w11.heap[wr.heap.size]? = some (.cells #[.int .i64 ps[k].v.id, .int .i64 ps[k].v.room, .int .i64 ps[k].v.author, .int .i64 ps[k].v.kind, .int .i64 ps[k].v.key, .int .i64 ps[k].v.n, .string ps[k].v.text, .slice ps[k].p ps[k].v.prev.length ps[k].c, .int .i64 ps[k].v.time] 37 (0, 0)) ∧ w11.ownsRow w.heap.size 2 1 (.slice ps[k].p ps[k].v.prev.length ps[k].c) ps[k].v.prev.length (nv ps[k].v.prev)) := SX.out _ _ (HA.out.2.trans hb) hO; clear hO hb; clear b0 b1 b2 b3 b4 bf; have b0 : w11.cell? ⟨B, 0, none⟩ = some (.int .i64 g.room) := cell_of_heap H11.out.1.out; have b1 : w11.cell? ⟨B, 1, none⟩ = some (.slice a1 es.length c1) := cell_of_heap H11.out.1.out; have b2 : w11.cell? ⟨B, 2, none⟩ = some (.slice (some ⟨b, 0, none⟩) ps.length c2) := cell_of_heap H11.out.1.out; have b3 : w11.cell? ⟨B, 3, none⟩ = some (.slice a3 ad.length c3) := cell_of_heap H11.out.1.out; have b4 : w11.cell? ⟨B, 4, none⟩ = some (.int .i64 0) := cell_of_heap H11.out.1.out; have bf : ∀ o, w11.frozen? ⟨B, o, none⟩ = false := fun o => frozen_of_heap H11.out.1.out) | (at_builtin; refine wpList_append_ems rfl _ _ 30 rfl i0 _ Tryz.underlying30 hi hz0 hz1 hz2 rfl (wr.heap.size + 1) _ [] rfl HM.out.1 (some ⟨b, 0, none⟩) c2 (ps.take k) ((HMR.out _ HM.out.2).take k) (by rw [htk]; rfl) (by simp; omega) (by simp) ?_; intro v10 w10 hO hb _ _; obtain ⟨a8, c8, e8, -⟩ := EmsOwn.at hO (by simp; omega); rw [List.nil_append, htk] at e8; subst e8; have HA : Hid (EmsOwn w10 (wr.heap.size + 1) (.slice a8 k c8) (ps.take k) ∧ Below (wr.heap.size + 1) (wr.alloc (.cells #[.int .i64 ps[k].v.id, .int .i64 ps[k].v.room, .int .i64 ps[k].v.author, .int .i64 ps[k].v.kind, .int .i64 ps[k].v.key, .int .i64 ps[k].v.n, .string ps[k].v.text, .slice ps[k].p ps[k].v.prev.length ps[k].c, .int .i64 ps[k].v.time] 37)) w10) := ⟨hO, HM.out.2.trans hb⟩; clear hO hb; clear b0 b1 b2 b3 b4 bf; have b0 : w10.cell? ⟨B, 0, none⟩ = some (.int .i64 g.room) := cell_of_heap (SW.out _ HA.out.2).out; have b1 : w10.cell? ⟨B, 1, none⟩ = some (.slice a1 es.length c1) := cell_of_heap (SW.out _ HA.out.2).out; have b2 : w10.cell? ⟨B, 2, none⟩ = some (.slice (some ⟨b, 0, none⟩) ps.length c2) := cell_of_heap (SW.out _ HA.out.2).out; have b3 : w10.cell? ⟨B, 3, none⟩ = some (.slice a3 ad.length c3) := cell_of_heap (SW.out _ HA.out.2).out; have b4 : w10.cell? ⟨B, 4, none⟩ = some (.int .i64 0) := cell_of_heap (SW.out _ HA.out.2).out; have bf : ∀ o, w10.frozen? ⟨B, o, none⟩ = false := fun o => frozen_of_heap (SW.out _ HA.out.2).out) | fail)
                    obtain ⟨w12, HW12⟩ : ∃ q, Hid (q = w11.setCell ⟨B, 2, none⟩ (.slice a9 PS.length c9)) := ⟨_, rfl⟩
                    have H12 : Hid (SA w g x B (.slice a1 es.length c1) (.slice a9 PS.length c9) (.slice a3 ad.length c3) w12 ∧ SR w.heap.size es PS ad (.slice a1 es.length c1) (.slice a9 PS.length c9) (.slice a3 ad.length c3) w12 ∧ w12.heap[wr.heap.size]? = some (.cells #[.int .i64 ps[k].v.id, .int .i64 ps[k].v.room, .int .i64 ps[k].v.author, .int .i64 ps[k].v.kind, .int .i64 ps[k].v.key, .int .i64 ps[k].v.n, .string ps[k].v.text, .slice ps[k].p ps[k].v.prev.length ps[k].c, .int .i64 ps[k].v.time] 37 (0, 0)) ∧ w12.ownsRow w.heap.size 2 1 (.slice ps[k].p ps[k].v.prev.length ps[k].c) ps[k].v.prev.length (nv ps[k].v.prev)) := by rw [HW12.out]; exact ⟨H11.out.1.put2 _, H11.out.2.1.setX H11.out.1.out _, (Below.heap_setCell _ _ _ _ hBX).trans H11.out.2.2.1, owns_setX H11.out.2.2.2 H11.out.1.out (by decide)⟩
                    rw [← HW12.out]
                    clear HW12
                    clear b0 b1 b2 b3 b4 bf
                    skip
                    have BW : Hid (NumsAt w12.drew ps[k].p ps[k].v.prev) := rowI_at (rowI_kept H12.out.2.2.2 (Below.refl _ _).drew) (by have := SMY.out; omega)
                    have b0 : w12.cell? ⟨B, 0, none⟩ = some (.int .i64 g.room) := cell_of_heap H12.out.1.out
                    have b1 : w12.cell? ⟨B, 1, none⟩ = some (.slice a1 es.length c1) := cell_of_heap H12.out.1.out
                    have b2 : w12.cell? ⟨B, 2, none⟩ = some (.slice a9 PS.length c9) := cell_of_heap H12.out.1.out
                    have b3 : w12.cell? ⟨B, 3, none⟩ = some (.slice a3 ad.length c3) := cell_of_heap H12.out.1.out
                    have b4 : w12.cell? ⟨B, 4, none⟩ = some (.int .i64 0) := cell_of_heap H12.out.1.out
                    have bf : ∀ o, w12.frozen? ⟨B, o, none⟩ = false := fun o => frozen_of_heap H12.out.1.out
                    have f0 : w12.cell? ⟨wr.heap.size, 0, none⟩ = some (.int .i64 ps[k].v.id) := cell_of_heap H12.out.2.2.1
                    have f1 : w12.cell? ⟨wr.heap.size, 1, none⟩ = some (.int .i64 ps[k].v.room) := cell_of_heap H12.out.2.2.1
                    have f2 : w12.cell? ⟨wr.heap.size, 2, none⟩ = some (.int .i64 ps[k].v.author) := cell_of_heap H12.out.2.2.1
                    have f3 : w12.cell? ⟨wr.heap.size, 3, none⟩ = some (.int .i64 ps[k].v.kind) := cell_of_heap H12.out.2.2.1
                    have f4 : w12.cell? ⟨wr.heap.size, 4, none⟩ = some (.int .i64 ps[k].v.key) := cell_of_heap H12.out.2.2.1
                    have f5 : w12.cell? ⟨wr.heap.size, 5, none⟩ = some (.int .i64 ps[k].v.n) := cell_of_heap H12.out.2.2.1
                    have f6 : w12.cell? ⟨wr.heap.size, 6, none⟩ = some (.string ps[k].v.text) := cell_of_heap H12.out.2.2.1
                    have f7 : w12.cell? ⟨wr.heap.size, 7, none⟩ = some (.slice ps[k].p ps[k].v.prev.length ps[k].c) := cell_of_heap H12.out.2.2.1
                    have f8 : w12.cell? ⟨wr.heap.size, 8, none⟩ = some (.int .i64 ps[k].v.time) := cell_of_heap H12.out.2.2.1
                    refine wp_region_any (by kernel_rfl) ?_
                    change wpAny _ _ _ _ _ _ _ (World.drew _)
                    refine wpAny_take (i := 0) (v := (.pointer (some ⟨B, 0, none⟩))) rfl (by kernel_rfl) (by kernel_rfl) (by kernel_rfl) (fun _ _ _ h => h) (Or.inl ⟨by kernel_rfl, ?_⟩) ?_
                    · intro w
                      go_simp
                    refine wpAny_take (i := 1) (v := (.pointer (some ⟨B, 0, none⟩))) rfl (by kernel_rfl) (by kernel_rfl) (by kernel_rfl) (fun _ _ _ h => h) (Or.inl ⟨by kernel_rfl, ?_⟩) ?_
                    · intro w
                      go_simp
                    refine wpAny_take (i := 2) (v := (.pointer (some ⟨B, 0, none⟩))) rfl (by kernel_rfl) (by kernel_rfl) (by kernel_rfl) (fun _ _ _ h => h) (Or.inl ⟨by kernel_rfl, ?_⟩) ?_
                    · intro w
                      go_simp
                    refine wpAny_take (i := 3) (v := (.pointer (some ⟨B, 1, none⟩))) rfl (by kernel_rfl) (by kernel_rfl) (by kernel_rfl) (fun _ _ _ h => h) (Or.inl ⟨by kernel_rfl, ?_⟩) ?_
                    · intro w
                      go_simp
                    refine wpAny_ready (rs := [4, 5]) (by kernel_rfl) (by simp) ?_
                    refine AllReady.cons rfl (fun K hK => ?_) (AllReady.cons rfl (fun K hK => ?_) AllReady.nil)
                    · go_simp
                      refine hK _ _ ?_
                      clear hK K
                      refine wpAny_ready (rs := [5]) (by kernel_rfl) (by simp) ?_
                      refine AllReady.cons rfl (fun K hK => ?_) AllReady.nil
                      go_simp
                      refine hK _ _ ?_
                      clear hK K
                      refine wpAny_ready (rs := [6]) (by kernel_rfl) (by simp) ?_
                      refine AllReady.cons rfl (fun K hK => ?_) AllReady.nil
                      go_simp
                      refine (put03_S w.heap.size (.slice a1 es.length c1) es ps[k] _ (H12.out.2.1.o1.kept (Below.refl _ _).drew) BW.out (by have := H12.out.2.1.el; omega) (H12.out.1.below.drew).size).mono ?_
                      rintro e w13 ⟨v13, a12, c12, rfl, hS13, hf13, hb13⟩
                      obtain ⟨a13, c13, rfl⟩ := hS13.slice
                      have hb13d : Below w12.heap.size w12 w13 := ⟨hb13.os, hb13.tape, hb13.output, hb13.size, hb13.block⟩
                      have hx12 := (Array.getElem?_eq_some_iff.1 H12.out.2.2.1).1
                      have H13 : Hid (SA w g x B (.slice a1 es.length c1) (.slice a9 PS.length c9) (.slice a3 ad.length c3) w13 ∧ SR w.heap.size (insE es (Em.mk ps[k].v a12 c12)) PS ad (.slice a13 (insE es (Em.mk ps[k].v a12 c12)).length c13) (.slice a9 PS.length c9) (.slice a3 ad.length c3) w13 ∧ w13.heap[wr.heap.size]? = some (.cells #[.int .i64 ps[k].v.id, .int .i64 ps[k].v.room, .int .i64 ps[k].v.author, .int .i64 ps[k].v.kind, .int .i64 ps[k].v.key, .int .i64 ps[k].v.n, .string ps[k].v.text, .slice ps[k].p ps[k].v.prev.length ps[k].c, .int .i64 ps[k].v.time] 37 (0, 0))) := ⟨H12.out.1.on hb13d, H12.out.2.1.put1 hS13 hf13 SMY.out hes hb13d, (hb13d.block _ hx12).trans H12.out.2.2.1⟩
                      clear hS13 hf13 hb13 hb13d hx12
                      clear b0 b1 b2 b3 b4 bf
                      clear f0 f1 f2 f3 f4 f5 f6 f7 f8
                      have b0 : w13.cell? ⟨B, 0, none⟩ = some (.int .i64 g.room) := cell_of_heap H13.out.1.out
                      have b1 : w13.cell? ⟨B, 1, none⟩ = some (.slice a1 es.length c1) := cell_of_heap H13.out.1.out
                      have b2 : w13.cell? ⟨B, 2, none⟩ = some (.slice a9 PS.length c9) := cell_of_heap H13.out.1.out
                      have b3 : w13.cell? ⟨B, 3, none⟩ = some (.slice a3 ad.length c3) := cell_of_heap H13.out.1.out
                      have b4 : w13.cell? ⟨B, 4, none⟩ = some (.int .i64 0) := cell_of_heap H13.out.1.out
                      have bf : ∀ o, w13.frozen? ⟨B, o, none⟩ = false := fun o => frozen_of_heap H13.out.1.out
                      refine hK _ _ ?_
                      clear hK K
                      refine wpAny_take (i := 7) (v := (.pointer (some ⟨B, 0, none⟩))) rfl (by kernel_rfl) (by kernel_rfl) (by kernel_rfl) (fun _ _ _ h => h) (Or.inl ⟨by kernel_rfl, ?_⟩) ?_
                      · intro w
                        go_simp
                      refine wpAny_take (i := 8) (v := (.pointer (some ⟨B, 1, none⟩))) rfl (by kernel_rfl) (by kernel_rfl) (by kernel_rfl) (fun _ _ _ h => h) (Or.inl ⟨by kernel_rfl, ?_⟩) ?_
                      · intro w
                        go_simp
                      refine wpAny_ready (rs := [9]) (by kernel_rfl) (by simp) ?_
                      refine AllReady.cons rfl (fun K hK => ?_) AllReady.nil
                      go_simp
                      refine hK _ _ ?_
                      clear hK K
                      refine wpAny_done (by kernel_rfl) ?_ _
                      obtain ⟨w14, HW14⟩ : ∃ q, Hid (q = w13.setCell ⟨B, 1, none⟩ (.slice a13 (insE es (Em.mk ps[k].v a12 c12)).length c13)) := ⟨w13.setCell ⟨B, 1, none⟩ (.slice a13 (insE es (Em.mk ps[k].v a12 c12)).length c13), (rfl : w13.setCell ⟨B, 1, none⟩ (.slice a13 (insE es (Em.mk ps[k].v a12 c12)).length c13) = _)⟩
                      have H14 : Hid (SA w g x B (.slice a13 (insE es (Em.mk ps[k].v a12 c12)).length c13) (.slice a9 PS.length c9) (.slice a3 ad.length c3) w14 ∧ SR w.heap.size (insE es (Em.mk ps[k].v a12 c12)) PS ad (.slice a13 (insE es (Em.mk ps[k].v a12 c12)).length c13) (.slice a9 PS.length c9) (.slice a3 ad.length c3) w14 ∧ w14.heap[wr.heap.size]? = some (.cells #[.int .i64 ps[k].v.id, .int .i64 ps[k].v.room, .int .i64 ps[k].v.author, .int .i64 ps[k].v.kind, .int .i64 ps[k].v.key, .int .i64 ps[k].v.n, .string ps[k].v.text, .slice ps[k].p ps[k].v.prev.length ps[k].c, .int .i64 ps[k].v.time] 37 (0, 0))) := by rw [HW14.out]; exact ⟨H13.out.1.put1 _, H13.out.2.1.setX H13.out.1.out _, (Below.heap_setCell _ _ _ _ hBX).trans H13.out.2.2⟩
                      rw [← HW14.out]
                      clear HW14
                      clear b0 b1 b2 b3 b4 bf
                      have b0 : w14.cell? ⟨B, 0, none⟩ = some (.int .i64 g.room) := cell_of_heap H14.out.1.out
                      have b1 : w14.cell? ⟨B, 1, none⟩ = some (.slice a13 (insE es (Em.mk ps[k].v a12 c12)).length c13) := cell_of_heap H14.out.1.out
                      have b2 : w14.cell? ⟨B, 2, none⟩ = some (.slice a9 PS.length c9) := cell_of_heap H14.out.1.out
                      have b3 : w14.cell? ⟨B, 3, none⟩ = some (.slice a3 ad.length c3) := cell_of_heap H14.out.1.out
                      have b4 : w14.cell? ⟨B, 4, none⟩ = some (.int .i64 0) := cell_of_heap H14.out.1.out
                      have bf : ∀ o, w14.frozen? ⟨B, o, none⟩ = false := fun o => frozen_of_heap H14.out.1.out
                      have f0 : w14.cell? ⟨wr.heap.size, 0, none⟩ = some (.int .i64 ps[k].v.id) := cell_of_heap H14.out.2.2
                      have hlt14 := H14.out.1.lt
                      have hx14 := (Array.getElem?_eq_some_iff.1 H14.out.2.2).1
                      have hz14 := H14.out.1.below.size
                      have hadl : ad.length ≤ 100 := by have := HL.out.adl; have := HL.out.sr.el; omega
                      have HB14 : Hid (∀ o, Below w14.heap.size w14 (w14.alloc o)) := fun o => (Below.refl _ _).alloc (Nat.le_refl _) _
                      go_wp2_with (first | (at_builtin; refine wpList_append_intF rfl _ _ 25 rfl w.heap.size j0 _ Tryz.underlying25 hj hj0 hj1 hj2 rfl _ ad rfl (H14.out.2.1.on (HB14.out _)).o3 w14.heap.size 1 ps[k].v.id rfl (cell_of_heap (MapKept.heap_alloc _ _).1) (by omega) (by simp; omega) ?_; intro v15 w15 hO hg hn; have H15 : Hid (SA w g x B (.slice a13 (insE es (Em.mk ps[k].v a12 c12)).length c13) (.slice a9 PS.length c9) (.slice a3 ad.length c3) w15 ∧ SR w.heap.size (insE es (Em.mk ps[k].v a12 c12)) PS (ad ++ [ps[k].v.id]) (.slice a13 (insE es (Em.mk ps[k].v a12 c12)).length c13) (.slice a9 PS.length c9) v15 w15) := ⟨(H14.out.1.on (HB14.out _)).app (H14.out.2.1.on (HB14.out _)).o3 rfl hg, (H14.out.2.1.on (HB14.out _)).app hO hg hn⟩; obtain ⟨a15, c15, e15, -⟩ := NumsOwn.at hO (by simp; omega); rw [List.length_append, List.length_singleton] at e15; subst e15; clear hO hg hn; clear b0 b1 b2 b3 b4 bf; have b0 : w15.cell? ⟨B, 0, none⟩ = some (.int .i64 g.room) := cell_of_heap H15.out.1.out; have b1 : w15.cell? ⟨B, 1, none⟩ = some (.slice a13 (insE es (Em.mk ps[k].v a12 c12)).length c13) := cell_of_heap H15.out.1.out; have b2 : w15.cell? ⟨B, 2, none⟩ = some (.slice a9 PS.length c9) := cell_of_heap H15.out.1.out; have b3 : w15.cell? ⟨B, 3, none⟩ = some (.slice a3 ad.length c3) := cell_of_heap H15.out.1.out; have b4 : w15.cell? ⟨B, 4, none⟩ = some (.int .i64 0) := cell_of_heap H15.out.1.out; have bf : ∀ o, w15.frozen? ⟨B, o, none⟩ = false := fun o => frozen_of_heap H15.out.1.out) | fail)
                      have H16 : Hid (SA w g x B (.slice a13 (insE es (Em.mk ps[k].v a12 c12)).length c13) (.slice a9 PS.length c9) (.slice a15 (ad.length + 1) c15) (w15.setCell ⟨B, 3, none⟩ (.slice a15 (ad.length + 1) c15)) ∧ SR w.heap.size (insE es (Em.mk ps[k].v a12 c12)) PS (ad ++ [ps[k].v.id]) (.slice a13 (insE es (Em.mk ps[k].v a12 c12)).length c13) (.slice a9 PS.length c9) (.slice a15 (ad.length + 1) c15) (w15.setCell ⟨B, 3, none⟩ (.slice a15 (ad.length + 1) c15))) := ⟨H15.out.1.put3 _, H15.out.2.setX H15.out.1.out _⟩
                      clear H15 H14 H13 H12 H11
                      have LE13 : Hid ((insE es (Em.mk ps[k].v a12 c12)).length = es.length + 1) := by have e := congrArg List.length (vs_insE es (Em.mk ps[k].v a12 c12)); rw [vs_length, insV_length, vs_length] at e; exact e
                      refine (free_spec ⟨g.room, (insE es (Em.mk ps[k].v a12 c12)), PS⟩ _ _ _ _ _ (H16.out.2.o1.evs (by have := H16.out.2.el; omega) (fun m hm => H16.out.2.small m (.inl hm))) (H16.out.2.o2.evs (by have := H16.out.2.pl; omega) (fun m hm => H16.out.2.small m (.inr hm)))).mono ?_
                      rintro e w17 ⟨rfl, hb17⟩
                      have H17 : Hid (LI w g x B (takeV (g.pk.length + 1) x.v (vs g.evs) (vs g.pk) []) (insE es (Em.mk ps[k].v a12 c12)) PS (ad ++ [ps[k].v.id]) (.slice a13 (insE es (Em.mk ps[k].v a12 c12)).length c13) (.slice a9 PS.length c9) (.slice a15 (ad.length + 1) c15) n w17) := ⟨H16.out.1.on hb17, H16.out.2.on hb17, RPS.out.2.1, (by rw [← FN.out, if_pos (by rw [vs_length]; exact hes), if_pos (by rw [vs_length]; exact hes), vs_insE, RPS.out.1]), (by have := HL.out.adl; rw [List.length_append, LE13.out]; simpa using this)⟩
                      clear hb17 H16
                      go_wp2
                      go_roundg n
                      case measure => omega
                      case rel => exact ⟨_, _, ad ++ [ps[k].v.id], a13, a9, a15, c13, c9, c15, RPS.out.2.2, rfl, by rw [List.length_append, List.length_singleton]; exact H17⟩
                    · go_simp
                      refine hK _ _ ?_
                      clear hK K
                      refine wpAny_ready (rs := [4]) (by kernel_rfl) (by simp) ?_
                      refine AllReady.cons rfl (fun K hK => ?_) AllReady.nil
                      go_simp
                      refine hK _ _ ?_
                      clear hK K
                      refine wpAny_ready (rs := [6]) (by kernel_rfl) (by simp) ?_
                      refine AllReady.cons rfl (fun K hK => ?_) AllReady.nil
                      go_simp
                      refine (put03_S w.heap.size (.slice a1 es.length c1) es ps[k] _ (H12.out.2.1.o1.kept (Below.refl _ _).drew) BW.out (by have := H12.out.2.1.el; omega) (H12.out.1.below.drew).size).mono ?_
                      rintro e w13 ⟨v13, a12, c12, rfl, hS13, hf13, hb13⟩
                      obtain ⟨a13, c13, rfl⟩ := hS13.slice
                      have hb13d : Below w12.heap.size w12 w13 := ⟨hb13.os, hb13.tape, hb13.output, hb13.size, hb13.block⟩
                      have hx12 := (Array.getElem?_eq_some_iff.1 H12.out.2.2.1).1
                      have H13 : Hid (SA w g x B (.slice a1 es.length c1) (.slice a9 PS.length c9) (.slice a3 ad.length c3) w13 ∧ SR w.heap.size (insE es (Em.mk ps[k].v a12 c12)) PS ad (.slice a13 (insE es (Em.mk ps[k].v a12 c12)).length c13) (.slice a9 PS.length c9) (.slice a3 ad.length c3) w13 ∧ w13.heap[wr.heap.size]? = some (.cells #[.int .i64 ps[k].v.id, .int .i64 ps[k].v.room, .int .i64 ps[k].v.author, .int .i64 ps[k].v.kind, .int .i64 ps[k].v.key, .int .i64 ps[k].v.n, .string ps[k].v.text, .slice ps[k].p ps[k].v.prev.length ps[k].c, .int .i64 ps[k].v.time] 37 (0, 0))) := ⟨H12.out.1.on hb13d, H12.out.2.1.put1 hS13 hf13 SMY.out hes hb13d, (hb13d.block _ hx12).trans H12.out.2.2.1⟩
                      clear hS13 hf13 hb13 hb13d hx12
                      clear b0 b1 b2 b3 b4 bf
                      clear f0 f1 f2 f3 f4 f5 f6 f7 f8
                      have b0 : w13.cell? ⟨B, 0, none⟩ = some (.int .i64 g.room) := cell_of_heap H13.out.1.out
                      have b1 : w13.cell? ⟨B, 1, none⟩ = some (.slice a1 es.length c1) := cell_of_heap H13.out.1.out
                      have b2 : w13.cell? ⟨B, 2, none⟩ = some (.slice a9 PS.length c9) := cell_of_heap H13.out.1.out
                      have b3 : w13.cell? ⟨B, 3, none⟩ = some (.slice a3 ad.length c3) := cell_of_heap H13.out.1.out
                      have b4 : w13.cell? ⟨B, 4, none⟩ = some (.int .i64 0) := cell_of_heap H13.out.1.out
                      have bf : ∀ o, w13.frozen? ⟨B, o, none⟩ = false := fun o => frozen_of_heap H13.out.1.out
                      refine hK _ _ ?_
                      clear hK K
                      refine wpAny_take (i := 7) (v := (.pointer (some ⟨B, 0, none⟩))) rfl (by kernel_rfl) (by kernel_rfl) (by kernel_rfl) (fun _ _ _ h => h) (Or.inl ⟨by kernel_rfl, ?_⟩) ?_
                      · intro w
                        go_simp
                      refine wpAny_take (i := 8) (v := (.pointer (some ⟨B, 1, none⟩))) rfl (by kernel_rfl) (by kernel_rfl) (by kernel_rfl) (fun _ _ _ h => h) (Or.inl ⟨by kernel_rfl, ?_⟩) ?_
                      · intro w
                        go_simp
                      refine wpAny_ready (rs := [9]) (by kernel_rfl) (by simp) ?_
                      refine AllReady.cons rfl (fun K hK => ?_) AllReady.nil
                      go_simp
                      refine hK _ _ ?_
                      clear hK K
                      refine wpAny_done (by kernel_rfl) ?_ _
                      obtain ⟨w14, HW14⟩ : ∃ q, Hid (q = w13.setCell ⟨B, 1, none⟩ (.slice a13 (insE es (Em.mk ps[k].v a12 c12)).length c13)) := ⟨w13.setCell ⟨B, 1, none⟩ (.slice a13 (insE es (Em.mk ps[k].v a12 c12)).length c13), (rfl : w13.setCell ⟨B, 1, none⟩ (.slice a13 (insE es (Em.mk ps[k].v a12 c12)).length c13) = _)⟩
                      have H14 : Hid (SA w g x B (.slice a13 (insE es (Em.mk ps[k].v a12 c12)).length c13) (.slice a9 PS.length c9) (.slice a3 ad.length c3) w14 ∧ SR w.heap.size (insE es (Em.mk ps[k].v a12 c12)) PS ad (.slice a13 (insE es (Em.mk ps[k].v a12 c12)).length c13) (.slice a9 PS.length c9) (.slice a3 ad.length c3) w14 ∧ w14.heap[wr.heap.size]? = some (.cells #[.int .i64 ps[k].v.id, .int .i64 ps[k].v.room, .int .i64 ps[k].v.author, .int .i64 ps[k].v.kind, .int .i64 ps[k].v.key, .int .i64 ps[k].v.n, .string ps[k].v.text, .slice ps[k].p ps[k].v.prev.length ps[k].c, .int .i64 ps[k].v.time] 37 (0, 0))) := by rw [HW14.out]; exact ⟨H13.out.1.put1 _, H13.out.2.1.setX H13.out.1.out _, (Below.heap_setCell _ _ _ _ hBX).trans H13.out.2.2⟩
                      rw [← HW14.out]
                      clear HW14
                      clear b0 b1 b2 b3 b4 bf
                      have b0 : w14.cell? ⟨B, 0, none⟩ = some (.int .i64 g.room) := cell_of_heap H14.out.1.out
                      have b1 : w14.cell? ⟨B, 1, none⟩ = some (.slice a13 (insE es (Em.mk ps[k].v a12 c12)).length c13) := cell_of_heap H14.out.1.out
                      have b2 : w14.cell? ⟨B, 2, none⟩ = some (.slice a9 PS.length c9) := cell_of_heap H14.out.1.out
                      have b3 : w14.cell? ⟨B, 3, none⟩ = some (.slice a3 ad.length c3) := cell_of_heap H14.out.1.out
                      have b4 : w14.cell? ⟨B, 4, none⟩ = some (.int .i64 0) := cell_of_heap H14.out.1.out
                      have bf : ∀ o, w14.frozen? ⟨B, o, none⟩ = false := fun o => frozen_of_heap H14.out.1.out
                      have f0 : w14.cell? ⟨wr.heap.size, 0, none⟩ = some (.int .i64 ps[k].v.id) := cell_of_heap H14.out.2.2
                      have hlt14 := H14.out.1.lt
                      have hx14 := (Array.getElem?_eq_some_iff.1 H14.out.2.2).1
                      have hz14 := H14.out.1.below.size
                      have hadl : ad.length ≤ 100 := by have := HL.out.adl; have := HL.out.sr.el; omega
                      have HB14 : Hid (∀ o, Below w14.heap.size w14 (w14.alloc o)) := fun o => (Below.refl _ _).alloc (Nat.le_refl _) _
                      go_wp2_with (first | (at_builtin; refine wpList_append_intF rfl _ _ 25 rfl w.heap.size j0 _ Tryz.underlying25 hj hj0 hj1 hj2 rfl _ ad rfl (H14.out.2.1.on (HB14.out _)).o3 w14.heap.size 1 ps[k].v.id rfl (cell_of_heap (MapKept.heap_alloc _ _).1) (by omega) (by simp; omega) ?_; intro v15 w15 hO hg hn; have H15 : Hid (SA w g x B (.slice a13 (insE es (Em.mk ps[k].v a12 c12)).length c13) (.slice a9 PS.length c9) (.slice a3 ad.length c3) w15 ∧ SR w.heap.size (insE es (Em.mk ps[k].v a12 c12)) PS (ad ++ [ps[k].v.id]) (.slice a13 (insE es (Em.mk ps[k].v a12 c12)).length c13) (.slice a9 PS.length c9) v15 w15) := ⟨(H14.out.1.on (HB14.out _)).app (H14.out.2.1.on (HB14.out _)).o3 rfl hg, (H14.out.2.1.on (HB14.out _)).app hO hg hn⟩; obtain ⟨a15, c15, e15, -⟩ := NumsOwn.at hO (by simp; omega); rw [List.length_append, List.length_singleton] at e15; subst e15; clear hO hg hn; clear b0 b1 b2 b3 b4 bf; have b0 : w15.cell? ⟨B, 0, none⟩ = some (.int .i64 g.room) := cell_of_heap H15.out.1.out; have b1 : w15.cell? ⟨B, 1, none⟩ = some (.slice a13 (insE es (Em.mk ps[k].v a12 c12)).length c13) := cell_of_heap H15.out.1.out; have b2 : w15.cell? ⟨B, 2, none⟩ = some (.slice a9 PS.length c9) := cell_of_heap H15.out.1.out; have b3 : w15.cell? ⟨B, 3, none⟩ = some (.slice a3 ad.length c3) := cell_of_heap H15.out.1.out; have b4 : w15.cell? ⟨B, 4, none⟩ = some (.int .i64 0) := cell_of_heap H15.out.1.out; have bf : ∀ o, w15.frozen? ⟨B, o, none⟩ = false := fun o => frozen_of_heap H15.out.1.out) | fail)
                      have H16 : Hid (SA w g x B (.slice a13 (insE es (Em.mk ps[k].v a12 c12)).length c13) (.slice a9 PS.length c9) (.slice a15 (ad.length + 1) c15) (w15.setCell ⟨B, 3, none⟩ (.slice a15 (ad.length + 1) c15)) ∧ SR w.heap.size (insE es (Em.mk ps[k].v a12 c12)) PS (ad ++ [ps[k].v.id]) (.slice a13 (insE es (Em.mk ps[k].v a12 c12)).length c13) (.slice a9 PS.length c9) (.slice a15 (ad.length + 1) c15) (w15.setCell ⟨B, 3, none⟩ (.slice a15 (ad.length + 1) c15))) := ⟨H15.out.1.put3 _, H15.out.2.setX H15.out.1.out _⟩
                      clear H15 H14 H13 H12 H11
                      have LE13 : Hid ((insE es (Em.mk ps[k].v a12 c12)).length = es.length + 1) := by have e := congrArg List.length (vs_insE es (Em.mk ps[k].v a12 c12)); rw [vs_length, insV_length, vs_length] at e; exact e
                      refine (free_spec ⟨g.room, (insE es (Em.mk ps[k].v a12 c12)), PS⟩ _ _ _ _ _ (H16.out.2.o1.evs (by have := H16.out.2.el; omega) (fun m hm => H16.out.2.small m (.inl hm))) (H16.out.2.o2.evs (by have := H16.out.2.pl; omega) (fun m hm => H16.out.2.small m (.inr hm)))).mono ?_
                      rintro e w17 ⟨rfl, hb17⟩
                      have H17 : Hid (LI w g x B (takeV (g.pk.length + 1) x.v (vs g.evs) (vs g.pk) []) (insE es (Em.mk ps[k].v a12 c12)) PS (ad ++ [ps[k].v.id]) (.slice a13 (insE es (Em.mk ps[k].v a12 c12)).length c13) (.slice a9 PS.length c9) (.slice a15 (ad.length + 1) c15) n w17) := ⟨H16.out.1.on hb17, H16.out.2.on hb17, RPS.out.2.1, (by rw [← FN.out, if_pos (by rw [vs_length]; exact hes), if_pos (by rw [vs_length]; exact hes), vs_insE, RPS.out.1]), (by have := HL.out.adl; rw [List.length_append, LE13.out]; simpa using this)⟩
                      clear hb17 H16
                      go_wp2
                      go_roundg n
                      case measure => omega
                      case rel => exact ⟨_, _, ad ++ [ps[k].v.id], a13, a9, a15, c13, c9, c15, RPS.out.2.2, rfl, by rw [List.length_append, List.length_singleton]; exact H17⟩
                · skip
                  by_cases hfull : k + 1 = c2
                  · have hck0 : c2 - (k + 1) = 0 := by omega
                    subst hfull
                    have hck0' : k + 1 - (k + 1) = 0 := by omega
                    have hde : decide ((es.length : Int) < 60) = false := decide_eq_false (by omega)
                    skip
                    go_wp2_with (first | (have hq := HA; clear hq; at_builtin; refine wpList_append_ems rfl _ _ 30 rfl i0 _ Tryz.underlying30 hi hz0 hz1 hz2 rfl (wr.heap.size + 1) _ (ps.take k) rfl HA.out.1 (some ⟨b, 0, none⟩) 0 (ps.drop (k + 1)) (by rw [List.drop_eq_nil_of_le (by omega)]; exact EmsRow.empty _) (by rw [List.length_drop]; rw [show ps.length - (k + 1) = 0 by omega]; rfl) (by simp; omega) (by have := HA.out.2.size; simpa using this) ?_; intro v11 w11 hO hb _ _; rw [← HPS.out] at hO; obtain ⟨a9, c9, rfl, -⟩ := EmsOwn.at hO (by omega); have H11 : Hid (SA w g x B (.slice a1 es.length c1) (.slice (some ⟨b, 0, none⟩) ps.length (k + 1)) (.slice a3 ad.length c3) w11 ∧ SR w.heap.size es PS ad (.slice a1 es.length c1) (.slice a9 PS.length c9) (.slice a3 ad.length c3) w11 ∧ w11.heap[wr.heap.size]? = some (.cells #[.int .i64 ps[k].v.id, .int .i64 ps[k].v.room, .int .i64 ps[k].v.author, .int .i64 ps[k].v.kind, .int .i64 ps[k].v.key, .int .i64 ps[k].v.n, .string ps[k].v.text, .slice ps[k].p ps[k].v.prev.length ps[k].c, .int .i64 ps[k].v.time] 37 (0, 0)) ∧ w11.ownsRow w.heap.size 2 1 (.slice ps[k].p ps[k].v.prev.length ps[k].c) ps[k].v.prev.length (nv ps[k].v.prev)) := SX.out _ _ (HA.out.2.trans hb) hO; clear hO hb; clear b0 b1 b2 b3 b4 bf; have b0 : w11.cell? ⟨B, 0, none⟩ = some (.int .i64 g.room) := cell_of_heap H11.out.1.out; have b1 : w11.cell? ⟨B, 1, none⟩ = some (.slice a1 es.length c1) := cell_of_heap H11.out.1.out; have b2 : w11.cell? ⟨B, 2, none⟩ = some (.slice (some ⟨b, 0, none⟩) ps.length (k + 1)) := cell_of_heap H11.out.1.out; have b3 : w11.cell? ⟨B, 3, none⟩ = some (.slice a3 ad.length c3) := cell_of_heap H11.out.1.out; have b4 : w11.cell? ⟨B, 4, none⟩ = some (.int .i64 0) := cell_of_heap H11.out.1.out; have bf : ∀ o, w11.frozen? ⟨B, o, none⟩ = false := fun o => frozen_of_heap H11.out.1.out) | (at_builtin; refine wpList_append_ems rfl _ _ 30 rfl i0 _ Tryz.underlying30 hi hz0 hz1 hz2 rfl (wr.heap.size + 1) _ [] rfl HM.out.1 (some ⟨b, 0, none⟩) (k + 1) (ps.take k) ((HMR.out _ HM.out.2).take k) (by rw [htk]; rfl) (by simp; omega) (by simp) ?_; intro v10 w10 hO hb _ _; obtain ⟨a8, c8, e8, -⟩ := EmsOwn.at hO (by simp; omega); rw [List.nil_append, htk] at e8; subst e8; have HA : Hid (EmsOwn w10 (wr.heap.size + 1) (.slice a8 k c8) (ps.take k) ∧ Below (wr.heap.size + 1) (wr.alloc (.cells #[.int .i64 ps[k].v.id, .int .i64 ps[k].v.room, .int .i64 ps[k].v.author, .int .i64 ps[k].v.kind, .int .i64 ps[k].v.key, .int .i64 ps[k].v.n, .string ps[k].v.text, .slice ps[k].p ps[k].v.prev.length ps[k].c, .int .i64 ps[k].v.time] 37)) w10) := ⟨hO, HM.out.2.trans hb⟩; clear hO hb; clear b0 b1 b2 b3 b4 bf; have b0 : w10.cell? ⟨B, 0, none⟩ = some (.int .i64 g.room) := cell_of_heap (SW.out _ HA.out.2).out; have b1 : w10.cell? ⟨B, 1, none⟩ = some (.slice a1 es.length c1) := cell_of_heap (SW.out _ HA.out.2).out; have b2 : w10.cell? ⟨B, 2, none⟩ = some (.slice (some ⟨b, 0, none⟩) ps.length (k + 1)) := cell_of_heap (SW.out _ HA.out.2).out; have b3 : w10.cell? ⟨B, 3, none⟩ = some (.slice a3 ad.length c3) := cell_of_heap (SW.out _ HA.out.2).out; have b4 : w10.cell? ⟨B, 4, none⟩ = some (.int .i64 0) := cell_of_heap (SW.out _ HA.out.2).out; have bf : ∀ o, w10.frozen? ⟨B, o, none⟩ = false := fun o => frozen_of_heap (SW.out _ HA.out.2).out) | fail)
                    have H16 : Hid (SA w g x B (.slice a1 es.length c1) (.slice a9 PS.length c9) (.slice a3 ad.length c3) (w11.setCell ⟨B, 2, none⟩ (.slice a9 PS.length c9)) ∧ SR w.heap.size es PS ad (.slice a1 es.length c1) (.slice a9 PS.length c9) (.slice a3 ad.length c3) (w11.setCell ⟨B, 2, none⟩ (.slice a9 PS.length c9))) := ⟨H11.out.1.put2 _, H11.out.2.1.setX H11.out.1.out _⟩
                    clear H11
                    refine (free_spec ⟨g.room, es, PS⟩ _ _ _ _ _ (H16.out.2.o1.evs (by have := H16.out.2.el; omega) (fun m hm => H16.out.2.small m (.inl hm))) (H16.out.2.o2.evs (by have := H16.out.2.pl; omega) (fun m hm => H16.out.2.small m (.inr hm)))).mono ?_
                    rintro e w17 ⟨rfl, hb17⟩
                    have H17 : Hid (LI w g x B (takeV (g.pk.length + 1) x.v (vs g.evs) (vs g.pk) []) es PS ad (.slice a1 es.length c1) (.slice a9 PS.length c9) (.slice a3 ad.length c3) n w17) := ⟨H16.out.1.on hb17, H16.out.2.on hb17, RPS.out.2.1, (by rw [← FN.out, if_neg (by rw [vs_length]; exact hes), if_neg (by rw [vs_length]; exact hes), RPS.out.1]), HL.out.adl⟩
                    clear hb17 H16
                    go_wp2
                    go_roundg n
                    case measure => omega
                    case rel => exact ⟨_, _, _, a1, a9, a3, c1, c9, c3, by have := RPS.out.2.2; omega, rfl, H17⟩
                  · have hck1 : ¬ c2 - (k + 1) = 0 := by omega
                    have hfull2 : ¬ c2 = k + 1 := by omega
                    have hde : decide ((es.length : Int) < 60) = false := decide_eq_false (by omega)
                    skip
                    go_wp2_with (first | (have hq := HA; clear hq; at_builtin; refine wpList_append_ems rfl _ _ 30 rfl i0 _ Tryz.underlying30 hi hz0 hz1 hz2 rfl (wr.heap.size + 1) _ (ps.take k) rfl HA.out.1 (some ⟨b, (k + 1) * 9, none⟩) (c2 - (k + 1)) (ps.drop (k + 1)) (by have := (HMR.out _ HA.out.2).drop (k + 1); rwa [Nat.zero_add] at this) (by rw [List.length_drop]; rfl) (by simp; omega) (by have := HA.out.2.size; simpa using this) ?_; intro v11 w11 hO hb _ _; rw [← HPS.out] at hO; obtain ⟨a9, c9, rfl, -⟩ := EmsOwn.at hO (by omega); have H11 : Hid (SA w g x B (.slice a1 es.length c1) (.slice (some ⟨b, 0, none⟩) ps.length c2) (.slice a3 ad.length c3) w11 ∧ SR w.heap.size es PS ad (.slice a1 es.length c1) (.slice a9 PS.length c9) (.slice a3 ad.length c3) w11 ∧ w11.heap[wr.heap.size]? = some (.cells #[.int .i64 ps[k].v.id, .int .i64 ps[k].v.room, .int .i64 ps[k].v.author, .int .i64 ps[k].v.kind, .int .i64 ps[k].v.key, .int .i64 ps[k].v.n, .string ps[k].v.text, .slice ps[k].p ps[k].v.prev.length ps[k].c, .int .i64 ps[k].v.time] 37 (0, 0)) ∧ w11.ownsRow w.heap.size 2 1 (.slice ps[k].p ps[k].v.prev.length ps[k].c) ps[k].v.prev.length (nv ps[k].v.prev)) := SX.out _ _ (HA.out.2.trans hb) hO; clear hO hb; clear b0 b1 b2 b3 b4 bf; have b0 : w11.cell? ⟨B, 0, none⟩ = some (.int .i64 g.room) := cell_of_heap H11.out.1.out; have b1 : w11.cell? ⟨B, 1, none⟩ = some (.slice a1 es.length c1) := cell_of_heap H11.out.1.out; have b2 : w11.cell? ⟨B, 2, none⟩ = some (.slice (some ⟨b, 0, none⟩) ps.length c2) := cell_of_heap H11.out.1.out; have b3 : w11.cell? ⟨B, 3, none⟩ = some (.slice a3 ad.length c3) := cell_of_heap H11.out.1.out; have b4 : w11.cell? ⟨B, 4, none⟩ = some (.int .i64 0) := cell_of_heap H11.out.1.out; have bf : ∀ o, w11.frozen? ⟨B, o, none⟩ = false := fun o => frozen_of_heap H11.out.1.out) | (at_builtin; refine wpList_append_ems rfl _ _ 30 rfl i0 _ Tryz.underlying30 hi hz0 hz1 hz2 rfl (wr.heap.size + 1) _ [] rfl HM.out.1 (some ⟨b, 0, none⟩) c2 (ps.take k) ((HMR.out _ HM.out.2).take k) (by rw [htk]; rfl) (by simp; omega) (by simp) ?_; intro v10 w10 hO hb _ _; obtain ⟨a8, c8, e8, -⟩ := EmsOwn.at hO (by simp; omega); rw [List.nil_append, htk] at e8; subst e8; have HA : Hid (EmsOwn w10 (wr.heap.size + 1) (.slice a8 k c8) (ps.take k) ∧ Below (wr.heap.size + 1) (wr.alloc (.cells #[.int .i64 ps[k].v.id, .int .i64 ps[k].v.room, .int .i64 ps[k].v.author, .int .i64 ps[k].v.kind, .int .i64 ps[k].v.key, .int .i64 ps[k].v.n, .string ps[k].v.text, .slice ps[k].p ps[k].v.prev.length ps[k].c, .int .i64 ps[k].v.time] 37)) w10) := ⟨hO, HM.out.2.trans hb⟩; clear hO hb; clear b0 b1 b2 b3 b4 bf; have b0 : w10.cell? ⟨B, 0, none⟩ = some (.int .i64 g.room) := cell_of_heap (SW.out _ HA.out.2).out; have b1 : w10.cell? ⟨B, 1, none⟩ = some (.slice a1 es.length c1) := cell_of_heap (SW.out _ HA.out.2).out; have b2 : w10.cell? ⟨B, 2, none⟩ = some (.slice (some ⟨b, 0, none⟩) ps.length c2) := cell_of_heap (SW.out _ HA.out.2).out; have b3 : w10.cell? ⟨B, 3, none⟩ = some (.slice a3 ad.length c3) := cell_of_heap (SW.out _ HA.out.2).out; have b4 : w10.cell? ⟨B, 4, none⟩ = some (.int .i64 0) := cell_of_heap (SW.out _ HA.out.2).out; have bf : ∀ o, w10.frozen? ⟨B, o, none⟩ = false := fun o => frozen_of_heap (SW.out _ HA.out.2).out) | fail)
                    have H16 : Hid (SA w g x B (.slice a1 es.length c1) (.slice a9 PS.length c9) (.slice a3 ad.length c3) (w11.setCell ⟨B, 2, none⟩ (.slice a9 PS.length c9)) ∧ SR w.heap.size es PS ad (.slice a1 es.length c1) (.slice a9 PS.length c9) (.slice a3 ad.length c3) (w11.setCell ⟨B, 2, none⟩ (.slice a9 PS.length c9))) := ⟨H11.out.1.put2 _, H11.out.2.1.setX H11.out.1.out _⟩
                    clear H11
                    refine (free_spec ⟨g.room, es, PS⟩ _ _ _ _ _ (H16.out.2.o1.evs (by have := H16.out.2.el; omega) (fun m hm => H16.out.2.small m (.inl hm))) (H16.out.2.o2.evs (by have := H16.out.2.pl; omega) (fun m hm => H16.out.2.small m (.inr hm)))).mono ?_
                    rintro e w17 ⟨rfl, hb17⟩
                    have H17 : Hid (LI w g x B (takeV (g.pk.length + 1) x.v (vs g.evs) (vs g.pk) []) es PS ad (.slice a1 es.length c1) (.slice a9 PS.length c9) (.slice a3 ad.length c3) n w17) := ⟨H16.out.1.on hb17, H16.out.2.on hb17, RPS.out.2.1, (by rw [← FN.out, if_neg (by rw [vs_length]; exact hes), if_neg (by rw [vs_length]; exact hes), RPS.out.1]), HL.out.adl⟩
                    clear hb17 H16
                    go_wp2
                    go_roundg n
                    case measure => omega
                    case rel => exact ⟨_, _, _, a1, a9, a3, c1, c9, c3, by have := RPS.out.2.2; omega, rfl, H17⟩
      · have hd3 : decide (60 ≤ (g.evs.length : Int)) = true := decide_eq_true (by omega)
        have HP : Hid (putV (vs g.evs) (vs g.pk) x.v = (9, [], [], [])) := putV_full HN2.out (by rw [HID.out.2.2.1]; exact .inl (by omega))
        go_wp2_with fail
        refine (ill_spec 9 _).mono ?_
        rintro e wi ⟨rfl, hbi⟩
        have HI : Hid (PI w g a cap p cp x wi) := H1.out.on hbi
        clear hbi
        clear k0 k1 k2 e0 e1 e2 e3 e4 e5 e6 e7 e8 o0 o1 o2 o3 o4 of
        have o0 : wi.cell? ⟨w.heap.size + 2, 0, none⟩ = some (.int .i64 0) := cell_of_heap HI.out.obox
        have o1 : wi.cell? ⟨w.heap.size + 2, 1, none⟩ = some (.slice none 0 0) := cell_of_heap HI.out.obox
        have o2 : wi.cell? ⟨w.heap.size + 2, 2, none⟩ = some (.slice none 0 0) := cell_of_heap HI.out.obox
        have o3 : wi.cell? ⟨w.heap.size + 2, 3, none⟩ = some (.slice none 0 0) := cell_of_heap HI.out.obox
        have o4 : wi.cell? ⟨w.heap.size + 2, 4, none⟩ = some (.int .i64 0) := cell_of_heap HI.out.obox
        have of : ∀ o, wi.frozen? ⟨w.heap.size + 2, o, none⟩ = false := fun o => frozen_of_heap HI.out.obox
        go_wp2
        refine bodyPost_ret (v := .agg #[.int .i64 0, .slice none 0 0, .slice none 0 0, .slice none 0 0, .int .i64 9]) (by simp [results, Tryz.results48, go_sem, o0, o1, o2, o3, o4]) rfl ⟨below5 HI.out.below _ _ _ _ _, .inl ⟨9, by decide, HP.out, rfl⟩⟩
end Go.Proofs.YtobkinocaomcmaaGreat
