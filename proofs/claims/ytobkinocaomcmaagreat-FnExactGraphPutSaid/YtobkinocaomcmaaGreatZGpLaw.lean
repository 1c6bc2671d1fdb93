/- GraphPut of the specification. Marks in graphs. The law on GraphPut: what its variables hold. -/
import Derived.Test.YtobkinocaomcmaaGreatZGpSAdd
import Derived.Test.YtobkinocaomcmaaGreatZMark3
import Derived.Test.YtobkinocaomcmaaGreatZMtOut
namespace Go.Proofs.YtobkinocaomcmaaGreat
open Go.RowKit

set_option maxHeartbeats 16000000 in
set_option maxRecDepth 100000 in
theorem graphPut_spec (g : Gr) (a : Option Addr) (cap : Nat) (p : Option Addr) (cp : Nat) (x : Em) (w : World) (h : EvsAt w a g.evs) (h2 : EvsAt w p g.pk) (hx : NumsAt w x.p x.v.prev) :
    Calls Tryz.prog 8 #[.agg #[.int .i64 g.room, .slice a g.evs.length cap, .slice p g.pk.length cp], .agg #[.int .i64 x.v.id, .int .i64 x.v.room, .int .i64 x.v.author, .int .i64 x.v.kind, .int .i64 x.v.key, .int .i64 x.v.n, .string x.v.text, .slice x.p x.v.prev.length x.c, .int .i64 x.v.time]] w (GSPost g (gpV g x) w) := by
  obtain ⟨w0, HW0⟩ : ∃ q, Hid (q = ((w.alloc (.cells #[.int .i64 g.room, .slice a g.evs.length cap, .slice p g.pk.length cp] 32)).alloc (.cells #[.int .i64 x.v.id, .int .i64 x.v.room, .int .i64 x.v.author, .int .i64 x.v.kind, .int .i64 x.v.key, .int .i64 x.v.n, .string x.v.text, .slice x.p x.v.prev.length x.c, .int .i64 x.v.time] 37)).alloc (.cells #[.int .i64 0, .slice none 0 0, .slice none 0 0, .slice none 0 0, .int .i64 0] 34)) := ⟨_, rfl⟩
  have H0 : Hid (PI w g a cap p cp x w0) := by
    rw [HW0.out]
    have hb : Below w.heap.size w (((w.alloc (.cells #[.int .i64 g.room, .slice a g.evs.length cap, .slice p g.pk.length cp] 32)).alloc (.cells #[.int .i64 x.v.id, .int .i64 x.v.room, .int .i64 x.v.author, .int .i64 x.v.kind, .int .i64 x.v.key, .int .i64 x.v.n, .string x.v.text, .slice x.p x.v.prev.length x.c, .int .i64 x.v.time] 37)).alloc (.cells #[.int .i64 0, .slice none 0 0, .slice none 0 0, .slice none 0 0, .int .i64 0] 34)) := ((((Below.refl _ _).alloc (Nat.le_refl _) _).alloc (by simp) _).alloc (by simp; omega) _)
    exact ⟨hb, (Below.heap_alloc _ _ _ (by simp; omega)).trans ((Below.heap_alloc _ _ _ (by simp)).trans (MapKept.heap_alloc w _).1), (Below.heap_alloc _ _ _ (by simp)).trans (new_blockC _ _ _ (by simp)), new_blockC _ _ _ (by simp), h.kept hb, h2.kept hb, hx.kept hb⟩
  clear h h2 hx
  have hz0' := H0.out.lt
  have k0 : w0.cell? ⟨w.heap.size, 0, none⟩ = some (.int .i64 g.room) := cell_of_heap H0.out.gbox
  have k1 : w0.cell? ⟨w.heap.size, 1, none⟩ = some (.slice a g.evs.length cap) := cell_of_heap H0.out.gbox
  have k2 : w0.cell? ⟨w.heap.size, 2, none⟩ = some (.slice p g.pk.length cp) := cell_of_heap H0.out.gbox
  have e0 : w0.cell? ⟨w.heap.size + 1, 0, none⟩ = some (.int .i64 x.v.id) := cell_of_heap H0.out.ebox
  have e1 : w0.cell? ⟨w.heap.size + 1, 1, none⟩ = some (.int .i64 x.v.room) := cell_of_heap H0.out.ebox
  have e2 : w0.cell? ⟨w.heap.size + 1, 2, none⟩ = some (.int .i64 x.v.author) := cell_of_heap H0.out.ebox
  have e3 : w0.cell? ⟨w.heap.size + 1, 3, none⟩ = some (.int .i64 x.v.kind) := cell_of_heap H0.out.ebox
  have e4 : w0.cell? ⟨w.heap.size + 1, 4, none⟩ = some (.int .i64 x.v.key) := cell_of_heap H0.out.ebox
  have e5 : w0.cell? ⟨w.heap.size + 1, 5, none⟩ = some (.int .i64 x.v.n) := cell_of_heap H0.out.ebox
  have e6 : w0.cell? ⟨w.heap.size + 1, 6, none⟩ = some (.string x.v.text) := cell_of_heap H0.out.ebox
  have e7 : w0.cell? ⟨w.heap.size + 1, 7, none⟩ = some (.slice x.p x.v.prev.length x.c) := cell_of_heap H0.out.ebox
  have e8 : w0.cell? ⟨w.heap.size + 1, 8, none⟩ = some (.int .i64 x.v.time) := cell_of_heap H0.out.ebox
  have o0 : w0.cell? ⟨w.heap.size + 2, 0, none⟩ = some (.int .i64 0) := cell_of_heap H0.out.obox
  have o1 : w0.cell? ⟨w.heap.size + 2, 1, none⟩ = some (.slice none 0 0) := cell_of_heap H0.out.obox
  have o2 : w0.cell? ⟨w.heap.size + 2, 2, none⟩ = some (.slice none 0 0) := cell_of_heap H0.out.obox
  have o3 : w0.cell? ⟨w.heap.size + 2, 3, none⟩ = some (.slice none 0 0) := cell_of_heap H0.out.obox
  have o4 : w0.cell? ⟨w.heap.size + 2, 4, none⟩ = some (.int .i64 0) := cell_of_heap H0.out.obox
  have of : ∀ o, w0.frozen? ⟨w.heap.size + 2, o, none⟩ = false := fun o => frozen_of_heap H0.out.obox
  go_enter Tryz.func8, Tryz.ntmps8
  go_wp2_with fail
  rw [← HW0.out]
  refine (graph_spec g a cap p cp w0 H0.out.evs H0.out.pk).mono ?_
  rintro e w1 ⟨rfl, hb1⟩
  have H1 : Hid (PI w g a cap p cp x w1) := H0.out.on hb1
  clear hb1 H0 HW0
  clear k0 k1 k2 e0 e1 e2 e3 e4 e5 e6 e7 e8 o0 o1 o2 o3 o4 of
  have k0 : w1.cell? ⟨w.heap.size, 0, none⟩ = some (.int .i64 g.room) := cell_of_heap H1.out.gbox
  have k1 : w1.cell? ⟨w.heap.size, 1, none⟩ = some (.slice a g.evs.length cap) := cell_of_heap H1.out.gbox
  have k2 : w1.cell? ⟨w.heap.size, 2, none⟩ = some (.slice p g.pk.length cp) := cell_of_heap H1.out.gbox
  have e0 : w1.cell? ⟨w.heap.size + 1, 0, none⟩ = some (.int .i64 x.v.id) := cell_of_heap H1.out.ebox
  have e1 : w1.cell? ⟨w.heap.size + 1, 1, none⟩ = some (.int .i64 x.v.room) := cell_of_heap H1.out.ebox
  have e2 : w1.cell? ⟨w.heap.size + 1, 2, none⟩ = some (.int .i64 x.v.author) := cell_of_heap H1.out.ebox
  have e3 : w1.cell? ⟨w.heap.size + 1, 3, none⟩ = some (.int .i64 x.v.kind) := cell_of_heap H1.out.ebox
  have e4 : w1.cell? ⟨w.heap.size + 1, 4, none⟩ = some (.int .i64 x.v.key) := cell_of_heap H1.out.ebox
  have e5 : w1.cell? ⟨w.heap.size + 1, 5, none⟩ = some (.int .i64 x.v.n) := cell_of_heap H1.out.ebox
  have e6 : w1.cell? ⟨w.heap.size + 1, 6, none⟩ = some (.string x.v.text) := cell_of_heap H1.out.ebox
  have e7 : w1.cell? ⟨w.heap.size + 1, 7, none⟩ = some (.slice x.p x.v.prev.length x.c) := cell_of_heap H1.out.ebox
  have e8 : w1.cell? ⟨w.heap.size + 1, 8, none⟩ = some (.int .i64 x.v.time) := cell_of_heap H1.out.ebox
  have o0 : w1.cell? ⟨w.heap.size + 2, 0, none⟩ = some (.int .i64 0) := cell_of_heap H1.out.obox
  have o1 : w1.cell? ⟨w.heap.size + 2, 1, none⟩ = some (.slice none 0 0) := cell_of_heap H1.out.obox
  have o2 : w1.cell? ⟨w.heap.size + 2, 2, none⟩ = some (.slice none 0 0) := cell_of_heap H1.out.obox
  have o3 : w1.cell? ⟨w.heap.size + 2, 3, none⟩ = some (.slice none 0 0) := cell_of_heap H1.out.obox
  have o4 : w1.cell? ⟨w.heap.size + 2, 4, none⟩ = some (.int .i64 0) := cell_of_heap H1.out.obox
  have of : ∀ o, w1.frozen? ⟨w.heap.size + 2, o, none⟩ = false := fun o => frozen_of_heap H1.out.obox
  cases hr : rightG g
  · have HP : Hid (gpV g x = (1, [], [], [])) := gp_bad fun c => by rw [hr] at c; exact absurd c.1 (by simp)
    have HZ : Hid (PI w g a cap p cp x w1) := H1
    go_wp2_with fail
    refine (ill_spec 1 _).mono ?_
    rintro e wi ⟨rfl, hbi⟩
    have HI : Hid (PI w g a cap p cp x wi) := HZ.out.on hbi
    clear hbi
    clear k0 k1 k2 e0 e1 e2 e3 e4 e5 e6 e7 e8 o0 o1 o2 o3 o4 of
    have o0 : wi.cell? ⟨w.heap.size + 2, 0, none⟩ = some (.int .i64 0) := cell_of_heap HI.out.obox
    have o1 : wi.cell? ⟨w.heap.size + 2, 1, none⟩ = some (.slice none 0 0) := cell_of_heap HI.out.obox
    have o2 : wi.cell? ⟨w.heap.size + 2, 2, none⟩ = some (.slice none 0 0) := cell_of_heap HI.out.obox
    have o3 : wi.cell? ⟨w.heap.size + 2, 3, none⟩ = some (.slice none 0 0) := cell_of_heap HI.out.obox
    have o4 : wi.cell? ⟨w.heap.size + 2, 4, none⟩ = some (.int .i64 0) := cell_of_heap HI.out.obox
    have of : ∀ o, wi.frozen? ⟨w.heap.size + 2, o, none⟩ = false := fun o => frozen_of_heap HI.out.obox
    go_wp2
    refine bodyPost_ret (v := .agg #[.int .i64 0, .slice none 0 0, .slice none 0 0, .slice none 0 0, .int .i64 1]) (by simp [results, Tryz.results8, go_sem, o0, o1, o2, o3, o4]) rfl ⟨below5 HI.out.below _ _ _ _ _, .inl ⟨1, by decide, HP.out, rfl⟩⟩
  · have HR : Hid (rightG g = true) := hr
    clear hr
    go_wp2_with fail
    refine (right_spec x.v x.p x.c w1 H1.out.num).mono ?_
    rintro e w2 ⟨rfl, hb2⟩
    have H2 : Hid (PI w g a cap p cp x w2) := H1.out.on hb2
    clear hb2 H1
    clear k0 k1 k2 e0 e1 e2 e3 e4 e5 e6 e7 e8 o0 o1 o2 o3 o4 of
    have k0 : w2.cell? ⟨w.heap.size, 0, none⟩ = some (.int .i64 g.room) := cell_of_heap H2.out.gbox
    have k1 : w2.cell? ⟨w.heap.size, 1, none⟩ = some (.slice a g.evs.length cap) := cell_of_heap H2.out.gbox
    have k2 : w2.cell? ⟨w.heap.size, 2, none⟩ = some (.slice p g.pk.length cp) := cell_of_heap H2.out.gbox
    have e0 : w2.cell? ⟨w.heap.size + 1, 0, none⟩ = some (.int .i64 x.v.id) := cell_of_heap H2.out.ebox
    have e1 : w2.cell? ⟨w.heap.size + 1, 1, none⟩ = some (.int .i64 x.v.room) := cell_of_heap H2.out.ebox
    have e2 : w2.cell? ⟨w.heap.size + 1, 2, none⟩ = some (.int .i64 x.v.author) := cell_of_heap H2.out.ebox
    have e3 : w2.cell? ⟨w.heap.size + 1, 3, none⟩ = some (.int .i64 x.v.kind) := cell_of_heap H2.out.ebox
    have e4 : w2.cell? ⟨w.heap.size + 1, 4, none⟩ = some (.int .i64 x.v.key) := cell_of_heap H2.out.ebox
    have e5 : w2.cell? ⟨w.heap.size + 1, 5, none⟩ = some (.int .i64 x.v.n) := cell_of_heap H2.out.ebox
    have e6 : w2.cell? ⟨w.heap.size + 1, 6, none⟩ = some (.string x.v.text) := cell_of_heap H2.out.ebox
    have e7 : w2.cell? ⟨w.heap.size + 1, 7, none⟩ = some (.slice x.p x.v.prev.length x.c) := cell_of_heap H2.out.ebox
    have e8 : w2.cell? ⟨w.heap.size + 1, 8, none⟩ = some (.int .i64 x.v.time) := cell_of_heap H2.out.ebox
    have o0 : w2.cell? ⟨w.heap.size + 2, 0, none⟩ = some (.int .i64 0) := cell_of_heap H2.out.obox
    have o1 : w2.cell? ⟨w.heap.size + 2, 1, none⟩ = some (.slice none 0 0) := cell_of_heap H2.out.obox
    have o2 : w2.cell? ⟨w.heap.size + 2, 2, none⟩ = some (.slice none 0 0) := cell_of_heap H2.out.obox
    have o3 : w2.cell? ⟨w.heap.size + 2, 3, none⟩ = some (.slice none 0 0) := cell_of_heap H2.out.obox
    have o4 : w2.cell? ⟨w.heap.size + 2, 4, none⟩ = some (.int .i64 0) := cell_of_heap H2.out.obox
    have of : ∀ o, w2.frozen? ⟨w.heap.size + 2, o, none⟩ = false := fun o => frozen_of_heap H2.out.obox
    cases hxr : rightB x.v
    · have HP : Hid (gpV g x = (1, [], [], [])) := gp_bad fun c => by rw [hxr] at c; exact absurd c.2.1 (by simp)
      have HZ : Hid (PI w g a cap p cp x w2) := H2
      go_wp2_with fail
      refine (ill_spec 1 _).mono ?_
      rintro e wi ⟨rfl, hbi⟩
      have HI : Hid (PI w g a cap p cp x wi) := HZ.out.on hbi
      clear hbi
      clear k0 k1 k2 e0 e1 e2 e3 e4 e5 e6 e7 e8 o0 o1 o2 o3 o4 of
      have o0 : wi.cell? ⟨w.heap.size + 2, 0, none⟩ = some (.int .i64 0) := cell_of_heap HI.out.obox
      have o1 : wi.cell? ⟨w.heap.size + 2, 1, none⟩ = some (.slice none 0 0) := cell_of_heap HI.out.obox
      have o2 : wi.cell? ⟨w.heap.size + 2, 2, none⟩ = some (.slice none 0 0) := cell_of_heap HI.out.obox
      have o3 : wi.cell? ⟨w.heap.size + 2, 3, none⟩ = some (.slice none 0 0) := cell_of_heap HI.out.obox
      have o4 : wi.cell? ⟨w.heap.size + 2, 4, none⟩ = some (.int .i64 0) := cell_of_heap HI.out.obox
      have of : ∀ o, wi.frozen? ⟨w.heap.size + 2, o, none⟩ = false := fun o => frozen_of_heap HI.out.obox
      go_wp2
      refine bodyPost_ret (v := .agg #[.int .i64 0, .slice none 0 0, .slice none 0 0, .slice none 0 0, .int .i64 1]) (by simp [results, Tryz.results8, go_sem, o0, o1, o2, o3, o4]) rfl ⟨below5 HI.out.below _ _ _ _ _, .inl ⟨1, by decide, HP.out, rfl⟩⟩
    · have HXR : Hid (rightB x.v = true) := hxr
      clear hxr
      by_cases hrm : x.v.room = g.room
      · have hrb : (x.v.room != g.room) = false := by simp [hrm]
        have HP : Hid (gpV g x = putV (vs g.evs) (vs g.pk) x.v) := gp_good HR.out HXR.out hrm
        clear hrm
        go_wp2_with fail
        refine (add03_spec g a cap p cp x _ H2.out.evs H2.out.pk H2.out.num HR.out HXR.out).mono ?_
        rintro e w3 ⟨hb3, hcase⟩
        have H3 : Hid (PI w g a cap p cp x w3) := H2.out.on hb3
        clear k0 k1 k2 e0 e1 e2 e3 e4 e5 e6 e7 e8 o0 o1 o2 o3 o4 of
        have o0 : w3.cell? ⟨w.heap.size + 2, 0, none⟩ = some (.int .i64 0) := cell_of_heap H3.out.obox
        have o1 : w3.cell? ⟨w.heap.size + 2, 1, none⟩ = some (.slice none 0 0) := cell_of_heap H3.out.obox
        have o2 : w3.cell? ⟨w.heap.size + 2, 2, none⟩ = some (.slice none 0 0) := cell_of_heap H3.out.obox
        have o3 : w3.cell? ⟨w.heap.size + 2, 3, none⟩ = some (.slice none 0 0) := cell_of_heap H3.out.obox
        have o4 : w3.cell? ⟨w.heap.size + 2, 4, none⟩ = some (.int .i64 0) := cell_of_heap H3.out.obox
        have of : ∀ o, w3.frozen? ⟨w.heap.size + 2, o, none⟩ = false := fun o => frozen_of_heap H3.out.obox
        rcases hcase with ⟨c, hc0, hpv, rfl⟩ | ⟨es, ps, ad, a1, c1, a2, c2, a3, c3, r1, r2, hpv, rfl, hv1, hv2, hS1, hS2, hN⟩
        · have HPV : Hid (c ≠ 0 ∧ gpV g x = (c, [], [], [])) := ⟨by simpa using hc0, HP.out.trans hpv⟩
          have HC : Hid ((c == 0) = false) := hc0
          clear hb3 hc0 hpv
          go_wp2
          refine bodyPost_ret (v := .agg #[.int .i64 0, .slice none 0 0, .slice none 0 0, .slice none 0 0, .int .i64 c]) (by simp [results, Tryz.results8, go_sem, o0, o1, o2, o3, o4]) rfl ⟨below5 H3.out.below _ _ _ _ _, .inl ⟨c, HC.out, HPV.out.2, rfl⟩⟩
        · have HPV : Hid (gpV g x = (0, es, ps, ad)) := HP.out.trans hpv
          have HS : Hid (SOut w.heap.size w3 (.slice a1 r1.length c1) r1 ∧ SOut w.heap.size w3 (.slice a2 r2.length c2) r2 ∧ NumsOwn w3 w.heap.size (.slice a3 ad.length c3) ad ∧ vs r1 = es ∧ vs r2 = ps) := ⟨hS1.low H2.out.below.size, hS2.low H2.out.below.size, owns_baseC hN H2.out.below.size, hv1, hv2⟩
          clear hb3 hpv hv1 hv2 hS1 hS2 hN
          go_wp2
          refine bodyPost_ret (v := .agg #[.int .i64 g.room, .slice a1 r1.length c1, .slice a2 r2.length c2, .slice a3 ad.length c3, .int .i64 0]) (by simp [results, Tryz.results8, go_sem, o0, o1, o2, o3, o4]) rfl ⟨below5 H3.out.below _ _ _ _ _, .inr ⟨es, ps, ad, a1, c1, a2, c2, a3, c3, r1, r2, HPV.out, rfl, HS.out.2.2.2.1, HS.out.2.2.2.2, HS.out.1.set5 H3.out.obox _ _ _ _ _, HS.out.2.1.set5 H3.out.obox _ _ _ _ _, HS.out.2.2.1.set5 H3.out.obox _ _ _ _ _⟩⟩
      · have hrb : (x.v.room != g.room) = true := by simp [hrm]
        have HP : Hid (gpV g x = (1, [], [], [])) := gp_bad fun c => hrm c.2.2
        have HZ : Hid (PI w g a cap p cp x w2) := H2
        clear hrm
        go_wp2_with fail
        refine (ill_spec 1 _).mono ?_
        rintro e wi ⟨rfl, hbi⟩
        have HI : Hid (PI w g a cap p cp x wi) := HZ.out.on hbi
        clear hbi
        clear k0 k1 k2 e0 e1 e2 e3 e4 e5 e6 e7 e8 o0 o1 o2 o3 o4 of
        have o0 : wi.cell? ⟨w.heap.size + 2, 0, none⟩ = some (.int .i64 0) := cell_of_heap HI.out.obox
        have o1 : wi.cell? ⟨w.heap.size + 2, 1, none⟩ = some (.slice none 0 0) := cell_of_heap HI.out.obox
        have o2 : wi.cell? ⟨w.heap.size + 2, 2, none⟩ = some (.slice none 0 0) := cell_of_heap HI.out.obox
        have o3 : wi.cell? ⟨w.heap.size + 2, 3, none⟩ = some (.slice none 0 0) := cell_of_heap HI.out.obox
        have o4 : wi.cell? ⟨w.heap.size + 2, 4, none⟩ = some (.int .i64 0) := cell_of_heap HI.out.obox
        have of : ∀ o, wi.frozen? ⟨w.heap.size + 2, o, none⟩ = false := fun o => frozen_of_heap HI.out.obox
        go_wp2
        refine bodyPost_ret (v := .agg #[.int .i64 0, .slice none 0 0, .slice none 0 0, .slice none 0 0, .int .i64 1]) (by simp [results, Tryz.results8, go_sem, o0, o1, o2, o3, o4]) rfl ⟨below5 HI.out.below _ _ _ _ _, .inl ⟨1, by decide, HP.out, rfl⟩⟩
end Go.Proofs.YtobkinocaomcmaaGreat
namespace Go.Proofs.YtobkinocaomcmaaGreat
open Go.RowKit

theorem wt_same {es fs : List Em} (h : es.map (·.v) = fs.map (·.v)) : wt es = wt fs := by
  have hl : es.length = fs.length := by have := congrArg List.length h; simpa using this
  have key : ∀ l : List Em, wtL l = ((l.map (·.v)).map fun v => v.text.size + v.prev.length).sum := fun l => by
    unfold wtL
    rw [List.map_map]
    rfl
  unfold wt
  rw [hl, key, key, h]
theorem NumsNew.wr {base lo hi : Nat} {W W' : World} {a : Option Addr} {zs : List Int} (h : NumsNew base W a zs) (hw : Wr lo hi W W') (hb : hi ≤ base) : NumsNew base W' a zs := by
  obtain ⟨b, ha, hg, hh⟩ := h
  exact ⟨b, ha, hg, (hw.block b (Array.getElem?_eq_some_iff.1 hh).1 (by omega)).trans hh⟩
theorem EvsFresh.wr {base lo hi : Nat} {W W' : World} {a : Option Addr} {es : List Em} (h : EvsFresh base W a es) (hw : Wr lo hi W W') (hb : hi ≤ base) : EvsFresh base W' a es := by
  obtain ⟨b, ha, h1, h2, ⟨C, h4, h5⟩, hc⟩ := h.row
  exact ⟨h.len, ⟨b, ha, h1, Nat.lt_of_lt_of_le h2 hw.size, ⟨C, (hw.block b h2 (by omega)).trans h4, h5⟩, fun i hi j hj => (hw.cell (b := b) (q := i * 9 + j) h2 (by omega)).trans (hc i hi j hj)⟩, fun m hm => ⟨(h.nums m hm).1.wr hw hb, (h.nums m hm).2⟩⟩
set_option maxHeartbeats 4000000 in
set_option maxRecDepth 100000 in
theorem mark_graphB (w W Wc : World) (g g' : Gr) (a p : Option Addr) (c1 c2 : Nat) (r : Int) (hn : GrNew w g g' a p W) (hb : Below W.heap.size W Wc) (hw : wt g'.evs + wt g'.pk ≤ 1048576) :
    Calls Tryz.prog 15 #[.agg #[.int .i64 r, .slice a g'.evs.length c1, .slice p g'.pk.length c2], .int .i64 1] Wc fun e W' => ∃ K : Nat, e = .returned (.int .i64 K) ∧ 0 < K ∧ K ≤ 10000000 ∧ Wr w.heap.size W.heap.size Wc W' := by
  obtain ⟨mid, hmu, hmf⟩ := hn.apart
  have hml : mid ≤ W.heap.size := by
    obtain ⟨b, _, h1, h2, _⟩ := hmf.row
    omega
  have hwm : w.heap.size ≤ mid := by
    obtain ⟨b, hb1, h1, _, _⟩ := hn.evs.row.row
    have := hmu.1 _ hb1
    simp at this
    omega
  have HA : Hid (∀ o, Below W.heap.size W (Wc.alloc o)) := fun o => hb.alloc hb.size o
  have HF : Hid (∀ V, Below W.heap.size W V → EvsFresh w.heap.size V a g'.evs ∧ EvsFresh mid V p g'.pk) := fun V hV => ⟨hn.evs.row.kept hV, hmf.kept hV⟩
  have HU : Hid (EvsUnder mid a g'.evs ∧ EvsUnder W.heap.size p g'.pk) := ⟨hmu, hmf.under⟩
  have HZ : Hid (Wc.heap.size ≥ W.heap.size) := hb.size
  clear hn hb hmu hmf
  go_enter Tryz.func15, Tryz.ntmps15
  go_wp2_with fail
  refine (mark_events w.heap.size mid g'.evs a c1 1 _ (HF.out _ (HA.out _)).1 HU.out.1 (by omega) (by omega) (by omega)).mono ?_
  rintro e w1 ⟨K1, rfl, hK0, hK1, hw1⟩
  have hzc : mid ≤ Wc.heap.size := Nat.le_trans hml HZ.out
  have hc2 : w1.cell? ⟨Wc.heap.size, 2, none⟩ = some (.slice p g'.pk.length c2) := by
    rw [hw1.cell (b := Wc.heap.size) (by simp) (.inr hzc)]
    simp [go_sem]
  have HP : Hid (EvsFresh mid w1 p g'.pk) := (HF.out _ (HA.out _)).2.wr hw1 (Nat.le_refl _)
  have HW1 : Hid (Wr w.heap.size W.heap.size Wc w1) := by
    have h1 : Wr w.heap.size W.heap.size Wc (Wc.alloc (.cells #[.int .i64 r, .slice a g'.evs.length c1, .slice p g'.pk.length c2] 32)) := Wr.below ((Below.refl _ _).alloc (Nat.le_refl _) _)
    exact h1.trans (hw1.mono (Nat.le_refl _) hml)
  clear hw1
  go_wp2_with fail
  refine (mark_events mid W.heap.size g'.pk p c2 K1 _ HP.out HU.out.2 (by omega) hK0 (by omega)).mono ?_
  rintro e w2 ⟨K2, rfl, hK2, hK3, hw2⟩
  have hK4 : K2 ≤ 10000000 := by omega
  have HW2 : Hid (Wr w.heap.size W.heap.size Wc w2) := HW1.out.trans (hw2.mono hwm (Nat.le_refl _))
  clear hw2
  go_wp2
  go_ret
  exact ⟨K2, rfl, hK2, hK4, HW2.out⟩
theorem mark_graph (w W Wc : World) (g g' : Gr) (a p : Option Addr) (c1 c2 : Nat) (r : Int) (hn : GrNew w g g' a p W) (hb : Below W.heap.size W Wc) (hw : wt g'.evs + wt g'.pk ≤ 1048576) :
    Calls Tryz.prog 15 #[.agg #[.int .i64 r, .slice a g'.evs.length c1, .slice p g'.pk.length c2], .int .i64 1] Wc fun e W' => ∃ K : Nat, e = .returned (.int .i64 K) ∧ 0 < K ∧ Wr w.heap.size W.heap.size Wc W' :=
  (mark_graphB w W Wc g g' a p c1 c2 r hn hb hw).mono fun _ _ ⟨K, h1, h2, _, h3⟩ => ⟨K, h1, h2, h3⟩
end Go.Proofs.YtobkinocaomcmaaGreat
namespace Go.Proofs.YtobkinocaomcmaaGreat
open Go.RowKit

def roomP (g : Gr) (P : Int × List Ev × List Ev × List Int) : Int := if P.1 = 0 then g.room else 0
/-- What is put into which graph, and what it comes to. -/
structure PV (P : Int × List Ev × List Ev × List Int) (g : Gr) (x : Em) (n1 n2 n3 : Nat) (room code : Int) : Prop where
  eq : P = gpV g x
  l1 : P.2.1.length = n1
  l2 : P.2.2.1.length = n2
  l3 : P.2.2.2.length = n3
  room : roomP g P = room
  code : P.1 = code
theorem PV.lim {P : Int × List Ev × List Ev × List Int} {g : Gr} {x : Em} {n1 n2 n3 : Nat} {room code : Int} (h : PV P g x n1 n2 n3 room code) : Lim P := by rw [h.eq]; exact gpV_Lim g x
theorem EvOut.low {base base2 : Nat} {W : World} {v : Value} {rs : List Em} (h : EvOut base W v rs) (hb : base2 ≤ base) : EvOut base2 W v rs := ⟨owns_baseC h.own hb, fun m hm => owns_baseC (h.nums m hm) hb, h.apart⟩
theorem EvOut.nil (base : Nat) (W : World) : EvOut base W (.slice none 0 0) [] := ⟨EmsOwn.nil _ _, fun _ hm => absurd hm (by simp), List.Pairwise.nil⟩
theorem under_nil (mid : Nat) : OutUnder mid (.slice none 0 0) [] := ⟨fun _ hg => (by cases hg), fun _ hm => absurd hm (by simp)⟩
def outA (room : Int) (n1 n2 n3 : Nat) (a1 a2 a3 : Option Addr) (k1 k2 k3 : Nat) (code : Int) : Array Value := #[.int .i64 room, .slice a1 n1 k1, .slice a2 n2 k2, .slice a3 n3 k3, .int .i64 code]
/-- An answer all of whose rows lie from base on: it stands wherever these blocks stand. -/
def GSF (P : Int × List Ev × List Ev × List Int) (n1 n2 n3 : Nat) (a1 a2 a3 : Option Addr) (r1 r2 : List Em) (base : Nat) (W : World) : Prop :=
  ∀ V : World, W.heap.size ≤ V.heap.size → (∀ q, base ≤ q → q < W.heap.size → V.heap[q]? = W.heap[q]?) → GS P n1 n2 n3 a1 a2 a3 r1 r2 V
theorem EvOut.agree {base : Nat} {W W' : World} {v : Value} {rs : List Em} (h : EvOut base W v rs) (ha : ∀ q, base ≤ q → q < W.heap.size → W'.heap[q]? = W.heap[q]?) : EvOut base W' v rs :=
  ⟨owns_agree h.own ha, fun m hm => owns_agree (h.nums m hm) ha, h.apart⟩
theorem GA.gsf {P : Int × List Ev × List Ev × List Int} {n1 n2 n3 base mid mid2 hi : Nat} {a1 a2 a3 : Option Addr} {k1 k2 k3 : Nat} {r1 r2 : List Em} {W : World} (h : GA P n1 n2 n3 base mid mid2 hi a1 a2 a3 k1 k2 k3 r1 r2 W) (hl : Lim P) : GSF P n1 n2 n3 a1 a2 a3 r1 r2 base W := fun V hs ha => by
  have h3 := h.lo
  have h4 := h.mm
  have : GA P n1 n2 n3 base mid mid2 hi a1 a2 a3 k1 k2 k3 r1 r2 V := ⟨h.lo, h.mm, h.m3, Nat.le_trans h.m4 hs, h.o1.agree fun q hq => ha q (by omega), h.u1, h.o2.agree fun q hq => ha q (by omega), h.u2, owns_agree h.o3 ha, h.u3, h.s1, h.s2, h.l1, h.l2, h.l3⟩
  exact this.gs hl
theorem GPost.ans {P : Int × List Ev × List Ev × List Int} {g : Gr} {x : Em} {n1 n2 n3 : Nat} {room code : Int} (hp : PV P g x n1 n2 n3 room code) {g2 : Gr} {x2 : Em} (hs : gpV g2 x2 = gpV g x) (hr : g2.room = g.room) {w : World} {e : Ending} {w' : World} (h : GPost g2 x2 w e w') :
    ∃ a1 a2 a3 k1 k2 k3 r1 r2 mid mid2, e = .returned (.agg (outA room n1 n2 n3 a1 a2 a3 k1 k2 k3 code)) ∧ GA P n1 n2 n3 w.heap.size mid mid2 w'.heap.size a1 a2 a3 k1 k2 k3 r1 r2 w' ∧ Below w.heap.size w w' := by
  have hP : P = gpV g2 x2 := hp.eq.trans hs.symm
  obtain ⟨_, rfl, rfl, rfl, hrm, hcd⟩ := hp
  subst hP
  obtain ⟨hb, h⟩ := h
  rcases h with ⟨c, hc, hv, rfl⟩ | ⟨es, ps, ad, a1, c1, a2, c2, a3, c3, r1, r2, mid, hv, rfl, hmid, hT, hN, hu, _, hl1, hl2⟩
  · have hc0 : ¬ c = 0 := fun e => by rw [e] at hc; cases hc
    rw [hv] at hrm hcd ⊢
    unfold roomP at hrm
    rw [if_neg hc0] at hrm
    have hcd : c = code := hcd
    subst hrm hcd
    exact ⟨none, none, none, 0, 0, 0, [], [], w.heap.size, w.heap.size, rfl, ⟨Nat.le_refl _, Nat.le_refl _, hb.size, Nat.le_refl _, EvOut.nil _ _, under_nil _, EvOut.nil _ _, under_nil _, NumsOwn.nil _ _, fun q hq => (by cases hq), rfl, rfl, rfl, rfl, rfl⟩, hb⟩
  · obtain ⟨mid2, hm2, hu1, ho2⟩ := hT.mid
    have ho1 := hT.out1
    have hs1 := hT.same1
    have hs2 := hT.same2
    rw [hv] at hrm hcd ⊢
    unfold roomP at hrm
    rw [if_pos rfl] at hrm
    have hcd : (0 : Int) = code := hcd
    subst hcd
    have e1 : r1.length = es.length := by rw [← vs_length, hs1]
    have e2 : r2.length = ps.length := by rw [← vs_length, hs2]
    refine ⟨a1, a2, a3, c1, c2, c3, r1, r2, min mid w'.heap.size, min mid2 w'.heap.size, ?_, ⟨?_, ?_, ?_, Nat.le_refl _, ho1.low (by omega), ?_, ho2.low (by omega), ho2.under, hN, ?_, hs1, hs2, e1, e2, rfl⟩, hb⟩
    · unfold outA
      rw [← e1, ← e2, ← hrm, hr]
    · have := hb.size
      omega
    · omega
    · omega
    · have hu2 := ho1.under
      exact ⟨fun q hq => by have := hu1.1 q hq; have := hu2.1 q hq; omega, fun m hm hp q hq => by have := hu1.2 m hm hp q hq; have := hu2.2 m hm hp q hq; omega⟩
    · intro q hq
      have h1 := hu q hq
      have h2 : q < w'.heap.size := (NumsOwn.lt hN q hq).2
      omega
theorem GSPost.ans {P : Int × List Ev × List Ev × List Int} {g : Gr} {x : Em} {n1 n2 n3 : Nat} {room code : Int} (hp : PV P g x n1 n2 n3 room code) {g2 : Gr} {x2 : Em} (hs : gpV g2 x2 = gpV g x) (hr : g2.room = g.room) {w : World} {e : Ending} {w' : World} (h : GSPost g2 (gpV g2 x2) w e w') :
    ∃ a1 a2 a3 k1 k2 k3 r1 r2, e = .returned (.agg (outA room n1 n2 n3 a1 a2 a3 k1 k2 k3 code)) ∧ GSF P n1 n2 n3 a1 a2 a3 r1 r2 w.heap.size w' ∧ Below w.heap.size w w' := by
  have hlim := hp.lim
  have hP : P = gpV g2 x2 := hp.eq.trans hs.symm
  obtain ⟨_, rfl, rfl, rfl, hrm, hcd⟩ := hp
  subst hP
  obtain ⟨hb, h⟩ := h
  have nilE : ∀ V, EvsAt V none [] := fun V => ⟨by simp, fun h => absurd h (by simp), fun _ hm => absurd hm (by simp)⟩
  have nilN : ∀ V, NumsAt V none [] := fun V => ⟨by simp, fun h => absurd h (by simp)⟩
  rcases h with ⟨c, hc, hv, rfl⟩ | ⟨es, ps, ad, a1, c1, a2, c2, a3, c3, r1, r2, hv, rfl, hs1, hs2, ho1, ho2, hN⟩
  · have hc0 : ¬ c = 0 := fun e => by rw [e] at hc; cases hc
    rw [hv] at hrm hcd ⊢
    unfold roomP at hrm
    rw [if_neg hc0] at hrm
    have hcd : c = code := hcd
    subst hrm hcd
    exact ⟨none, none, none, 0, 0, 0, [], [], rfl, fun V _ _ => ⟨nilE V, nilE V, nilN V, rfl, rfl, rfl, rfl, rfl⟩, hb⟩
  · rw [hv] at hrm hcd hlim ⊢
    unfold roomP at hrm
    rw [if_pos rfl] at hrm
    have hcd : (0 : Int) = code := hcd
    subst hcd
    have e1 : r1.length = es.length := by rw [← vs_length, hs1]
    have e2 : r2.length = ps.length := by rw [← vs_length, hs2]
    have m1 : es.length ≤ 60 := hlim.l1
    have m2 : ps.length ≤ 20 := hlim.l2
    have m3 : ad.length ≤ 21 := hlim.l3
    refine ⟨a1, a2, a3, c1, c2, c3, r1, r2, ?_, fun V hs ha => ?_, hb⟩
    · unfold outA
      rw [← e1, ← e2, ← hrm, hr]
    obtain ⟨b3, d3, hv3, _, q3, _⟩ := NumsOwn.at (owns_agree hN ha : NumsOwn V w.heap.size (.slice a3 ad.length c3) ad) (by omega)
    cases hv3
    refine ⟨(ho1.agree ha).evs (by omega) fun m hm => ?_, (ho2.agree ha).evs (by omega) fun m hm => ?_, q3, hs1, hs2, e1, e2, rfl⟩
    · have := lim_prev hs1 (fun v hv => hlim.prev v (.inl hv)) m hm
      omega
    · have := lim_prev hs2 (fun v hv => hlim.prev v (.inr hv)) m hm
      omega
def evA (v : Ev) (q : Option Addr) (c : Nat) : Array Value := #[.int .i64 v.id, .int .i64 v.room, .int .i64 v.author, .int .i64 v.kind, .int .i64 v.key, .int .i64 v.n, .string v.text, .slice q v.prev.length c, .int .i64 v.time]
theorem put_specN {P : Int × List Ev × List Ev × List Int} {g : Gr} {x : Em} {n1 n2 n3 : Nat} {room code : Int} (hp : PV P g x n1 n2 n3 room code) (g2 : Gr) (a p q : Option Addr) (W : World) (h1 : EvsAt W a g2.evs) (h2 : EvsAt W p g2.pk) (h3 : NumsAt W q x.v.prev) (hr : g2.room = g.room) (he : g2.evs.map (·.v) = g.evs.map (·.v)) (hk : g2.pk.map (·.v) = g.pk.map (·.v)) :
    Calls Tryz.prog 8 #[.agg #[.int .i64 g.room, .slice a g.evs.length g.evs.length, .slice p g.pk.length g.pk.length], .agg #[.int .i64 x.v.id, .int .i64 x.v.room, .int .i64 x.v.author, .int .i64 x.v.kind, .int .i64 x.v.key, .int .i64 x.v.n, .string x.v.text, .slice q x.v.prev.length x.v.prev.length, .int .i64 x.v.time]] W fun e w' => ∃ a1 a2 a3 k1 k2 k3 r1 r2, e = .returned (.agg #[.int .i64 room, .slice a1 n1 k1, .slice a2 n2 k2, .slice a3 n3 k3, .int .i64 code]) ∧ GSF P n1 n2 n3 a1 a2 a3 r1 r2 W.heap.size w' ∧ Below W.heap.size W w' := by
  have l1 : g2.evs.length = g.evs.length := by have := congrArg List.length he; simpa using this
  have l2 : g2.pk.length = g.pk.length := by have := congrArg List.length hk; simpa using this
  have := graphPut_spec g2 a g.evs.length p g.pk.length ⟨x.v, q, x.v.prev.length⟩ W h1 h2 h3
  rw [hr, l1, l2] at this
  exact this.mono fun e w' h => h.ans hp (gpV_same hr he hk rfl) hr
theorem put_implN {P : Int × List Ev × List Ev × List Int} {g : Gr} {x : Em} {n1 n2 n3 : Nat} {room code : Int} (hp : PV P g x n1 n2 n3 room code) (g2 : Gr) (a p q : Option Addr) (W : World) (h1 : EvsAt W a g2.evs) (h2 : EvsAt W p g2.pk) (h3 : NumsAt W q x.v.prev) (hr : g2.room = g.room) (he : g2.evs.map (·.v) = g.evs.map (·.v)) (hk : g2.pk.map (·.v) = g.pk.map (·.v)) :
    Calls Tryz.prog 11 #[.agg #[.int .i64 g.room, .slice a g.evs.length g.evs.length, .slice p g.pk.length g.pk.length], .agg #[.int .i64 x.v.id, .int .i64 x.v.room, .int .i64 x.v.author, .int .i64 x.v.kind, .int .i64 x.v.key, .int .i64 x.v.n, .string x.v.text, .slice q x.v.prev.length x.v.prev.length, .int .i64 x.v.time]] W fun e w' => ∃ a1 a2 a3 k1 k2 k3 r1 r2 mid mid2, e = .returned (.agg #[.int .i64 room, .slice a1 n1 k1, .slice a2 n2 k2, .slice a3 n3 k3, .int .i64 code]) ∧ GA P n1 n2 n3 W.heap.size mid mid2 w'.heap.size a1 a2 a3 k1 k2 k3 r1 r2 w' ∧ Below W.heap.size W w' := by
  have l1 : g2.evs.length = g.evs.length := by have := congrArg List.length he; simpa using this
  have l2 : g2.pk.length = g.pk.length := by have := congrArg List.length hk; simpa using this
  have := graphPut_impl g2 a g.evs.length p g.pk.length ⟨x.v, q, x.v.prev.length⟩ W h1 h2 h3
  rw [hr, l1, l2] at this
  exact this.mono fun e w' h => h.ans hp (gpV_same hr he hk rfl) hr
theorem put_implS {P : Int × List Ev × List Ev × List Int} {g : Gr} {x : Em} {n1 n2 n3 : Nat} {room code : Int} (hp : PV P g x n1 n2 n3 room code) (g2 : Gr) (a p q : Option Addr) (W : World) (h1 : EvsAt W a g2.evs) (h2 : EvsAt W p g2.pk) (h3 : NumsAt W q x.v.prev) (hr : g2.room = g.room) (he : g2.evs.map (·.v) = g.evs.map (·.v)) (hk : g2.pk.map (·.v) = g.pk.map (·.v)) :
    Calls Tryz.prog 11 #[.agg #[.int .i64 g.room, .slice a g.evs.length g.evs.length, .slice p g.pk.length g.pk.length], .agg #[.int .i64 x.v.id, .int .i64 x.v.room, .int .i64 x.v.author, .int .i64 x.v.kind, .int .i64 x.v.key, .int .i64 x.v.n, .string x.v.text, .slice q x.v.prev.length x.v.prev.length, .int .i64 x.v.time]] W fun e w' => ∃ a1 a2 a3 k1 k2 k3 r1 r2, e = .returned (.agg #[.int .i64 room, .slice a1 n1 k1, .slice a2 n2 k2, .slice a3 n3 k3, .int .i64 code]) ∧ GSF P n1 n2 n3 a1 a2 a3 r1 r2 W.heap.size w' ∧ Below W.heap.size W w' :=
  (put_implN hp g2 a p q W h1 h2 h3 hr he hk).mono fun _ _ ⟨a1, a2, a3, k1, k2, k3, r1, r2, _, _, h1, h2, h3⟩ => ⟨a1, a2, a3, k1, k2, k3, r1, r2, h1, h2.gsf hp.lim, h3⟩
/-- The law's own two variables. -/
structure LB (w : World) (g : Gr) (a : Option Addr) (cap : Nat) (p : Option Addr) (cp : Nat) (x : Em) (V : World) : Prop where
  below : Below w.heap.size w V
  b0 : V.heap[w.heap.size]? = some (.cells #[.int .i64 g.room, .slice a g.evs.length cap, .slice p g.pk.length cp] 24 (0, 0))
  b1 : V.heap[w.heap.size + 1]? = some (.cells #[.int .i64 x.v.id, .int .i64 x.v.room, .int .i64 x.v.author, .int .i64 x.v.kind, .int .i64 x.v.key, .int .i64 x.v.n, .string x.v.text, .slice x.p x.v.prev.length x.c, .int .i64 x.v.time] 27 (0, 0))
variable {w : World} {g : Gr} {a : Option Addr} {cap : Nat} {p : Option Addr} {cp : Nat} {x : Em} {V V' : World}
theorem LB.lt (h : LB w g a cap p cp x V) : w.heap.size + 1 < V.heap.size := (Array.getElem?_eq_some_iff.1 h.b1).1
theorem LB.on (h : LB w g a cap p cp x V) (hb : Below V.heap.size V V') : LB w g a cap p cp x V' :=
  ⟨h.below.trans (hb.mono h.below.size), (hb.block _ (by have := h.lt; omega)).trans h.b0, (hb.block _ h.lt).trans h.b1⟩
theorem LB.drew (h : LB w g a cap p cp x V) : LB w g a cap p cp x V.drew := ⟨h.below.drew, h.b0, h.b1⟩
theorem LB.setCell (h : LB w g a cap p cp x V) {b o : Nat} {u : Value} (hb : w.heap.size + 1 < b) : LB w g a cap p cp x (V.setCell ⟨b, o, none⟩ u) :=
  ⟨h.below.setCell (by show w.heap.size ≤ b; omega) _, (heap_setCell_other V ⟨b, o, none⟩ w.heap.size u (by show w.heap.size ≠ b; omega)).trans h.b0, (heap_setCell_other V ⟨b, o, none⟩ (w.heap.size + 1) u (by show w.heap.size + 1 ≠ b; omega)).trans h.b1⟩
theorem LB.start (w : World) (g : Gr) (a : Option Addr) (cap : Nat) (p : Option Addr) (cp : Nat) (x : Em) : LB w g a cap p cp x ((w.alloc (.cells #[.int .i64 g.room, .slice a g.evs.length cap, .slice p g.pk.length cp] 24)).alloc (.cells #[.int .i64 x.v.id, .int .i64 x.v.room, .int .i64 x.v.author, .int .i64 x.v.kind, .int .i64 x.v.key, .int .i64 x.v.n, .string x.v.text, .slice x.p x.v.prev.length x.c, .int .i64 x.v.time] 27)) :=
  ⟨((Below.refl _ _).alloc (Nat.le_refl _) _).alloc (by simp) _, (Below.heap_alloc _ _ _ (by simp)).trans (MapKept.heap_alloc w _).1, by simpa using (MapKept.heap_alloc (w.alloc (.cells #[.int .i64 g.room, .slice a g.evs.length cap, .slice p g.pk.length cp] 24)) (.cells #[.int .i64 x.v.id, .int .i64 x.v.room, .int .i64 x.v.author, .int .i64 x.v.kind, .int .i64 x.v.key, .int .i64 x.v.n, .string x.v.text, .slice x.p x.v.prev.length x.c, .int .i64 x.v.time] 27)).1⟩
/-- An answer in a variable of its own. -/
structure OG (W0 : World) (P : Int × List Ev × List Ev × List Int) (n1 n2 n3 : Nat) (room code : Int) (B : Nat) (a1 a2 a3 : Option Addr) (k1 k2 k3 : Nat) (r1 r2 : List Em) (V : World) : Prop where
  below : Below W0.heap.size W0 V
  box : V.heap[B]? = some (.cells #[.int .i64 room, .slice a1 n1 k1, .slice a2 n2 k2, .slice a3 n3 k3, .int .i64 code] 34 (0, 0))
  gs : GS P n1 n2 n3 a1 a2 a3 r1 r2 V
  lo : W0.heap.size ≤ B
theorem set5_block {W : World} {B q : Nat} (c0 c1 c2 c3 c4 : Value) (hq : q ≠ B) : (((((W.setCell ⟨B, 0, none⟩ c0).setCell ⟨B, 1, none⟩ c1).setCell ⟨B, 2, none⟩ c2).setCell ⟨B, 3, none⟩ c3).setCell ⟨B, 4, none⟩ c4).heap[q]? = W.heap[q]? := by
  have st : ∀ (W : World) (o : Nat) (u : Value), (W.setCell ⟨B, o, none⟩ u).heap[q]? = W.heap[q]? := fun W o u => Below.heap_setCell _ _ _ _ hq
  rw [st, st, st, st, st]
theorem og_leaf {W0 W : World} {P : Int × List Ev × List Ev × List Int} {n1 n2 n3 : Nat} {room code : Int} {B base : Nat} {a1 a2 a3 : Option Addr} {k1 k2 k3 : Nat} {r1 r2 : List Em} (hb : Below W0.heap.size W0 W) (hB : W.heap[B]? = some (.cells #[.int .i64 0, .slice none 0 0, .slice none 0 0, .slice none 0 0, .int .i64 0] 34 (0, 0))) (hg : GSF P n1 n2 n3 a1 a2 a3 r1 r2 base W) (hlt : B < base) (hlo : W0.heap.size ≤ B) :
    OG W0 P n1 n2 n3 room code B a1 a2 a3 k1 k2 k3 r1 r2 (((((W.setCell ⟨B, 0, none⟩ (.int .i64 room)).setCell ⟨B, 1, none⟩ (.slice a1 n1 k1)).setCell ⟨B, 2, none⟩ (.slice a2 n2 k2)).setCell ⟨B, 3, none⟩ (.slice a3 n3 k3)).setCell ⟨B, 4, none⟩ (.int .i64 code)) := by
  refine ⟨((((hb.setCell hlo _).setCell hlo _).setCell hlo _).setCell hlo _).setCell hlo _, ?_, hg _ (by simp) (fun q hq _ => set5_block _ _ _ _ _ (by omega)), hlo⟩
  have := heap_set (i := 4) (heap_set (i := 3) (heap_set (i := 2) (heap_set (i := 1) (heap_set (i := 0) hB (.int .i64 room)) (.slice a1 n1 k1)) (.slice a2 n2 k2)) (.slice a3 n3 k3)) (.int .i64 code)
  simpa using this
theorem og_last {W0 W : World} {P : Int × List Ev × List Ev × List Int} {n1 n2 n3 : Nat} {room code : Int} {base : Nat} {a1 a2 a3 : Option Addr} {k1 k2 k3 : Nat} {r1 r2 : List Em} (hb : Below W0.heap.size W0 W) (hg : GSF P n1 n2 n3 a1 a2 a3 r1 r2 base W) :
    OG W0 P n1 n2 n3 room code W.heap.size a1 a2 a3 k1 k2 k3 r1 r2 (W.alloc (.cells #[.int .i64 room, .slice a1 n1 k1, .slice a2 n2 k2, .slice a3 n3 k3, .int .i64 code] 34)) :=
  ⟨hb.alloc hb.size _, (MapKept.heap_alloc W _).1, hg _ (by simp) (fun q _ hq => Below.heap_alloc _ _ _ hq), hb.size⟩
/-- What the law holds behind its first calls: what the specification answered, and its three variables. -/
structure LP (W8 : World) (g : Gr) (v : Ev) (room code : Int) (n1 n2 n3 : Nat) (B7 : Nat) (a9 p9 : Option Addr) (B8 : Nat) (q10 : Option Addr) (B9 : Nat) (c1 c2 c3 : Option Addr) (l1 l2 l3 : Nat) (V : World) : Prop where
  k8 : Below W8.heap.size W8 V
  b7 : V.heap[B7]? = some (.cells #[.int .i64 g.room, .slice a9 g.evs.length g.evs.length, .slice p9 g.pk.length g.pk.length] 32 (0, 0))
  b8 : V.heap[B8]? = some (.cells #[.int .i64 v.id, .int .i64 v.room, .int .i64 v.author, .int .i64 v.kind, .int .i64 v.key, .int .i64 v.n, .string v.text, .slice q10 v.prev.length v.prev.length, .int .i64 v.time] 37 (0, 0))
  b9 : V.heap[B9]? = some (.cells #[.int .i64 room, .slice c1 n1 l1, .slice c2 n2 l2, .slice c3 n3 l3, .int .i64 code] 34 (0, 0))
section
variable {W8 : World} {v : Ev} {room code : Int} {n1 n2 n3 B7 : Nat} {a9 p9 : Option Addr} {B8 : Nat} {q10 : Option Addr} {B9 : Nat} {c1 c2 c3 : Option Addr} {l1 l2 l3 : Nat}
theorem LP.on (h : LP W8 g v room code n1 n2 n3 B7 a9 p9 B8 q10 B9 c1 c2 c3 l1 l2 l3 V) (hb : Below V.heap.size V V') : LP W8 g v room code n1 n2 n3 B7 a9 p9 B8 q10 B9 c1 c2 c3 l1 l2 l3 V' :=
  ⟨h.k8.trans (hb.mono h.k8.size), (hb.block _ (Array.getElem?_eq_some_iff.1 h.b7).1).trans h.b7, (hb.block _ (Array.getElem?_eq_some_iff.1 h.b8).1).trans h.b8, (hb.block _ (Array.getElem?_eq_some_iff.1 h.b9).1).trans h.b9⟩
theorem LP.wk (h : LP W8 g v room code n1 n2 n3 B7 a9 p9 B8 q10 B9 c1 c2 c3 l1 l2 l3 V) {lo hi : Nat} (hw : Wk lo hi V V') (h8 : W8.heap.size ≤ lo) (r7 : B7 < lo ∨ hi ≤ B7) (r8 : B8 < lo ∨ hi ≤ B8) (r9 : B9 < lo ∨ hi ≤ B9) : LP W8 g v room code n1 n2 n3 B7 a9 p9 B8 q10 B9 c1 c2 c3 l1 l2 l3 V' :=
  ⟨hw.toBelow h.k8 h8, (hw.block _ (Array.getElem?_eq_some_iff.1 h.b7).1 r7).trans h.b7, (hw.block _ (Array.getElem?_eq_some_iff.1 h.b8).1 r8).trans h.b8, (hw.block _ (Array.getElem?_eq_some_iff.1 h.b9).1 r9).trans h.b9⟩
end
set_option maxHeartbeats 2000000 in
set_option maxRecDepth 100000 in
theorem mark_eventW (lo hi : Nat) (v : Ev) (q : Option Addr) (c : Nat) (k : Int) (W : World) (h : Room lo hi W q v.prev.length) (hn : v.prev.length ≤ 1048576) (h0 : 0 ≤ k) (h1 : k ≤ 100000000) :
    Calls Tryz.prog 16 #[.agg #[.int .i64 v.id, .int .i64 v.room, .int .i64 v.author, .int .i64 v.kind, .int .i64 v.key, .int .i64 v.n, .string v.text, .slice q v.prev.length c, .int .i64 v.time], .int .i64 k] W fun e W' => e = .returned (.int .i64 (k + (v.prev.length : Int))) ∧ Wk lo hi W W' := by
  have HR : Hid (∀ o, Room lo hi (W.alloc o) q v.prev.length) := fun o => h.kept (Wr.below ((Below.refl _ _).alloc (Nat.le_refl _) o))
  have HB : Hid (∀ o, Wk lo hi W (W.alloc o)) := fun o => Wk.below ((Below.refl _ _).alloc (Nat.le_refl _) o)
  clear h
  go_enter Tryz.func16, Tryz.ntmps16
  go_wp2_with fail
  refine (mark_row lo hi q v.prev.length c k _ (HR.out _) hn h0 (by omega)).mono ?_
  rintro e w1 ⟨rfl, hw1⟩
  have HW : Hid (Wk lo hi W w1) := (HB.out _).trans hw1.wk
  clear hw1
  go_wp2
  go_ret
  exact ⟨rfl, HW.out⟩
end Go.Proofs.YtobkinocaomcmaaGreat
