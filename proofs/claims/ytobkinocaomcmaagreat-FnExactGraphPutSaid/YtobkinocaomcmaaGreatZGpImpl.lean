/- GraphPut of the program: walked. -/
import Derived.Test.YtobkinocaomcmaaGreatZGpGraph
namespace Go.Proofs.YtobkinocaomcmaaGreat
open Go.RowKit

/-- What GraphPut comes to: the code, Events, Parked, Added. -/
def gpV (g : Gr) (x : Em) : Int × List Ev × List Ev × List Int := if rightG g = true ∧ rightB x.v = true ∧ x.v.room = g.room then putV (vs g.evs) (vs g.pk) x.v else (1, [], [], [])
/-- An answer: a code alone, or a graph with what was added. -/
def GPost (g : Gr) (x : Em) (w : World) (e : Ending) (w' : World) : Prop :=
  Below w.heap.size w w' ∧ ((∃ c, (c == 0) = false ∧ gpV g x = (c, [], [], []) ∧ e = .returned (.agg #[.int .i64 0, .slice none 0 0, .slice none 0 0, .slice none 0 0, .int .i64 c])) ∨
    ∃ es ps ad a1 c1 a2 c2 a3 c3 r1 r2 mid, gpV g x = (0, es, ps, ad) ∧ e = .returned (.agg #[.int .i64 g.room, .slice a1 r1.length c1, .slice a2 r2.length c2, .slice a3 ad.length c3, .int .i64 0]) ∧ w.heap.size ≤ mid ∧ TwoOut mid w' es ps (.slice a1 r1.length c1) (.slice a2 r2.length c2) r1 r2 ∧ NumsOwn w' w.heap.size (.slice a3 ad.length c3) ad ∧ (∀ q, (Value.slice a3 ad.length c3).ownBlock = some q → q < mid) ∧ ad.length ≤ 60 ∧ r1.length ≤ 60 ∧ r2.length ≤ 20)
/-- The three variables, and what came in. -/
structure PI (w : World) (g : Gr) (a : Option Addr) (cap : Nat) (p : Option Addr) (cp : Nat) (x : Em) (W : World) : Prop where
  below : Below w.heap.size w W
  gbox : W.heap[w.heap.size]? = some (.cells #[.int .i64 g.room, .slice a g.evs.length cap, .slice p g.pk.length cp] 32 (0, 0))
  ebox : W.heap[w.heap.size + 1]? = some (.cells #[.int .i64 x.v.id, .int .i64 x.v.room, .int .i64 x.v.author, .int .i64 x.v.kind, .int .i64 x.v.key, .int .i64 x.v.n, .string x.v.text, .slice x.p x.v.prev.length x.c, .int .i64 x.v.time] 37 (0, 0))
  obox : W.heap[w.heap.size + 2]? = some (.cells #[.int .i64 0, .slice none 0 0, .slice none 0 0, .slice none 0 0, .int .i64 0] 34 (0, 0))
  evs : EvsAt W a g.evs
  pk : EvsAt W p g.pk
  num : NumsAt W x.p x.v.prev
theorem PI.on {w : World} {g : Gr} {a : Option Addr} {cap : Nat} {p : Option Addr} {cp : Nat} {x : Em} {W W' : World} (h : PI w g a cap p cp x W) (hb : Below W.heap.size W W') : PI w g a cap p cp x W' :=
  ⟨h.below.trans (hb.mono h.below.size), (hb.block _ (Array.getElem?_eq_some_iff.1 h.gbox).1).trans h.gbox, (hb.block _ (Array.getElem?_eq_some_iff.1 h.ebox).1).trans h.ebox, (hb.block _ (Array.getElem?_eq_some_iff.1 h.obox).1).trans h.obox, h.evs.kept hb, h.pk.kept hb, h.num.kept hb⟩
theorem PI.lt {w : World} {g : Gr} {a : Option Addr} {cap : Nat} {p : Option Addr} {cp : Nat} {x : Em} {W : World} (h : PI w g a cap p cp x W) : w.heap.size + 2 < W.heap.size := (Array.getElem?_eq_some_iff.1 h.obox).1
theorem gp_bad {g : Gr} {x : Em} (h : ¬ (rightG g = true ∧ rightB x.v = true ∧ x.v.room = g.room)) : gpV g x = (1, [], [], []) := if_neg h
theorem gp_good {g : Gr} {x : Em} (h1 : rightG g = true) (h2 : rightB x.v = true) (h3 : x.v.room = g.room) : gpV g x = putV (vs g.evs) (vs g.pk) x.v := if_pos ⟨h1, h2, h3⟩
theorem below5 {w W : World} (h : Below w.heap.size w W) (c0 c1 c2 c3 c4 : Value) : Below w.heap.size w (((((W.setCell ⟨w.heap.size + 2, 0, none⟩ c0).setCell ⟨w.heap.size + 2, 1, none⟩ c1).setCell ⟨w.heap.size + 2, 2, none⟩ c2).setCell ⟨w.heap.size + 2, 3, none⟩ c3).setCell ⟨w.heap.size + 2, 4, none⟩ c4) :=
  ((((h.setCell (by simp) _).setCell (by simp) _).setCell (by simp) _).setCell (by simp) _).setCell (by simp) _
theorem st5 {W : World} {b q : Nat} {o : Obj} {c0 c1 c2 c3 c4 : Value} (hq : q ≠ b) (h : W.heap[q]? = some o) : (((((W.setCell ⟨b, 0, none⟩ c0).setCell ⟨b, 1, none⟩ c1).setCell ⟨b, 2, none⟩ c2).setCell ⟨b, 3, none⟩ c3).setCell ⟨b, 4, none⟩ c4).heap[q]? = some o := by
  have st : ∀ (W : World) (o : Nat) (u : Value), (W.setCell ⟨b, o, none⟩ u).heap[q]? = W.heap[q]? := fun W o u => Below.heap_setCell _ _ _ _ hq
  rw [st, st, st, st, st]
  exact h
/-- Two maps turned: all else stands. -/
theorem two_pi {w : World} {g : Gr} {a : Option Addr} {cap : Nat} {p : Option Addr} {cp : Nat} {x : Em} {w2 w3 : World} {bc be bp ne np : Nat} {d : Value} {es ps : List Em} (h : PI w g a cap p cp x w2) (hc : ChAt w2 bc be bp 1 0 d) (hst : ESt w2 be bp ne np es ps) (h1 : w.heap.size ≤ be) (h2 : w.heap.size ≤ bp) (ht : Two be bp w2.drew w3) :
    PI w g a cap p cp x w3 ∧ ChAt w3 bc be bp 1 0 d ∧ Two be bp w2 w3 := by
  have ht2 : Two be bp w2 w3 := ⟨ht.os, ht.tape, ht.output, ht.size, ht.block⟩
  have cells : ∀ {k : Nat} {C : Array Value} {t : TypeId}, w2.heap[k]? = some (.cells C t (0, 0)) → w3.heap[k]? = some (.cells C t (0, 0)) := fun {k C t} hk => by
    rw [ht2.block k (Array.getElem?_eq_some_iff.1 hk).1 (map_ne_cells hst.e.1 hk) (map_ne_cells hst.p.1 hk)]
    exact hk
  have nums : ∀ {p : Option Addr} {zs : List Int}, NumsAt w2 p zs → NumsAt w3 p zs := fun {p zs} hn => by
    refine ⟨hn.1, fun hp => ?_⟩
    obtain ⟨q, off, ha, hq, hcell⟩ := hn.2 hp
    have h0 := hcell 0 hp
    have hne : ∀ {b n : Nat} {D : DataW Value}, w2.ownsMap Tryz.prog 2 heldR b n D → q ≠ b := fun {b n D} hown => by
      rintro rfl
      obtain ⟨xs, clock, hm, _⟩ := hown
      simp [World.cell?, hm] at h0
    exact ⟨q, off, ha, Nat.lt_of_lt_of_le hq ht2.size, fun j hj => (World.cell?_of_block (a := ⟨q, off + j, none⟩) (ht2.block q hq (hne hst.e.1) (hne hst.p.1))).trans (hcell j hj)⟩
  have rows : ∀ {p : Option Addr} {zs : List Em}, EvsAt w2 p zs → EvsAt w3 p zs := fun {p zs} hn => by
    refine ⟨hn.len, fun hp => ?_, fun m hm => nums (hn.nums m hm)⟩
    obtain ⟨q, off, ha, hq, hcell⟩ := hn.row hp
    have h0 := hcell 0 hp 0 (by omega)
    have hne : ∀ {b n : Nat} {D : DataW Value}, w2.ownsMap Tryz.prog 2 heldR b n D → q ≠ b := fun {b n D} hown => by
      rintro rfl
      obtain ⟨xs, clock, hm, _⟩ := hown
      simp [World.cell?, hm, emCells] at h0
    exact ⟨q, off, ha, Nat.lt_of_lt_of_le hq ht2.size, fun i hi j hj => (World.cell?_of_block (a := ⟨q, off + (i * 9 + j), none⟩) (ht2.block q hq (hne hst.e.1) (hne hst.p.1))).trans (hcell i hi j hj)⟩
  exact ⟨⟨h.below.trans (ht2.toBelow h1 h2 h.below.size), cells h.gbox, cells h.ebox, cells h.obox, rows h.evs, rows h.pk, nums h.num⟩, cells hc, ht2⟩
theorem NumsOwn.lt {w : World} {base : Nat} {v : Value} {zs : List Int} (h : NumsOwn w base v zs) : ∀ g, v.ownBlock = some g → base ≤ g ∧ g < w.heap.size := by
  intro g hg
  rcases h.2 with ⟨rfl, _⟩ | ⟨q, cap, cur, rfl, h2, h3, _⟩
  · cases hg
  · have e2 : q = g := by simpa [Value.ownBlock] using hg
    subst e2
    exact ⟨h2, (Array.getElem?_eq_some_iff.1 h3).1⟩
theorem NumsOwn.setLow {w : World} {base b o : Nat} {v u : Value} {xs : List Int} (h : NumsOwn w base v xs) (hb : b < base) : NumsOwn (w.setCell ⟨b, o, none⟩ u) base v xs := by
  refine ⟨h.1, ?_⟩
  rcases h.2 with h0 | ⟨g, cap, cur, h1, h2, h3, r⟩
  · exact .inl h0
  · exact .inr ⟨g, cap, cur, h1, h2, (Below.heap_setCell _ _ _ _ (by simp; omega)).trans h3, r⟩
theorem gp_end {w : World} {g : Gr} {a : Option Addr} {cap : Nat} {p : Option Addr} {cp : Nat} {x : Em} {w2 w3 w4 : World} {es3 ps3 : List Em} {ad3 : List Int} {a1 a2 a3 : Option Addr} {c1 c2 c3 : Nat} {r1 r2 : List Em}
    (hp : gpV g x = (0, vs es3, vs ps3, ad3)) (h4 : PI w g a cap p cp x w4) (ht : TwoOut w3.heap.size w4 (vs es3) (vs ps3) (.slice a1 r1.length c1) (.slice a2 r2.length c2) r1 r2) (hn : NumsOwn w4 w2.heap.size (.slice a3 ad3.length c3) ad3) (hz2 : w.heap.size + 2 < w2.heap.size) (hz3 : w.heap.size + 2 < w3.heap.size)
    (hlt : ∀ q, (Value.slice a3 ad3.length c3).ownBlock = some q → w2.heap.size ≤ q ∧ q < w3.heap.size) (hadl : ad3.length ≤ 60) (hl : es3.length ≤ 60 ∧ ps3.length ≤ 20) :
    GPost g x w (.returned (.agg #[.int .i64 g.room, .slice a1 r1.length c1, .slice a2 r2.length c2, .slice a3 ad3.length c3, .int .i64 0])) (((((w4.setCell ⟨w.heap.size + 2, 0, none⟩ (.int .i64 g.room)).setCell ⟨w.heap.size + 2, 1, none⟩ (.slice a1 r1.length c1)).setCell ⟨w.heap.size + 2, 2, none⟩ (.slice a2 r2.length c2)).setCell ⟨w.heap.size + 2, 3, none⟩ (.slice a3 ad3.length c3)).setCell ⟨w.heap.size + 2, 4, none⟩ (.int .i64 0)) := by
  have l1 : r1.length = es3.length := by rw [← vs_length, ht.same1, vs_length]
  have l2 : r2.length = ps3.length := by rw [← vs_length, ht.same2, vs_length]
  refine ⟨below5 h4.below _ _ _ _ _, .inr ⟨vs es3, vs ps3, ad3, a1, c1, a2, c2, a3, c3, r1, r2, w3.heap.size, hp, rfl, by omega, ?_, ?_, fun q hq => (hlt q hq).2, hadl, by omega, by omega⟩⟩
  · exact ((((ht.set (by omega)).set (by omega)).set (by omega)).set (by omega)).set (by omega)
  · exact owns_baseC (((((hn.setLow (by omega)).setLow (by omega)).setLow (by omega)).setLow (by omega)).setLow (by omega)) (by omega)
set_option maxHeartbeats 16000000 in
set_option maxRecDepth 100000 in
theorem graphPut_impl (g : Gr) (a : Option Addr) (cap : Nat) (p : Option Addr) (cp : Nat) (x : Em) (w : World) (h : EvsAt w a g.evs) (h2 : EvsAt w p g.pk) (hx : NumsAt w x.p x.v.prev) :
    Calls Tryz.prog 11 #[.agg #[.int .i64 g.room, .slice a g.evs.length cap, .slice p g.pk.length cp], .agg #[.int .i64 x.v.id, .int .i64 x.v.room, .int .i64 x.v.author, .int .i64 x.v.kind, .int .i64 x.v.key, .int .i64 x.v.n, .string x.v.text, .slice x.p x.v.prev.length x.c, .int .i64 x.v.time]] w (GPost g x w) := by
  obtain ⟨w0, HW0⟩ : ∃ q, Hid (q = ((w.alloc (.cells #[.int .i64 g.room, .slice a g.evs.length cap, .slice p g.pk.length cp] 32)).alloc (.cells #[.int .i64 x.v.id, .int .i64 x.v.room, .int .i64 x.v.author, .int .i64 x.v.kind, .int .i64 x.v.key, .int .i64 x.v.n, .string x.v.text, .slice x.p x.v.prev.length x.c, .int .i64 x.v.time] 37)).alloc (.cells #[.int .i64 0, .slice none 0 0, .slice none 0 0, .slice none 0 0, .int .i64 0] 34)) := ⟨_, rfl⟩
  have H0 : Hid (PI w g a cap p cp x w0) := by
    rw [HW0.out]
    have hb : Below w.heap.size w (((w.alloc (.cells #[.int .i64 g.room, .slice a g.evs.length cap, .slice p g.pk.length cp] 32)).alloc (.cells #[.int .i64 x.v.id, .int .i64 x.v.room, .int .i64 x.v.author, .int .i64 x.v.kind, .int .i64 x.v.key, .int .i64 x.v.n, .string x.v.text, .slice x.p x.v.prev.length x.c, .int .i64 x.v.time] 37)).alloc (.cells #[.int .i64 0, .slice none 0 0, .slice none 0 0, .slice none 0 0, .int .i64 0] 34)) := (((Below.refl _ _).alloc (Nat.le_refl _) _).alloc (by simp) _).alloc (by simp; omega) _
    exact ⟨hb, (Below.heap_alloc _ _ _ (by simp; omega)).trans ((Below.heap_alloc _ _ _ (by simp)).trans (MapKept.heap_alloc w _).1), (Below.heap_alloc _ _ _ (by simp)).trans (new_blockC _ _ _ (by simp)), new_blockC _ _ _ (by simp), h.kept hb, h2.kept hb, hx.kept hb⟩
  clear h h2 hx
  have hz0 := H0.out.lt
  have g0 : w0.cell? ⟨w.heap.size, 0, none⟩ = some (.int .i64 g.room) := cell_of_heap H0.out.gbox
  have g1 : w0.cell? ⟨w.heap.size, 1, none⟩ = some (.slice a g.evs.length cap) := cell_of_heap H0.out.gbox
  have g2 : w0.cell? ⟨w.heap.size, 2, none⟩ = some (.slice p g.pk.length cp) := cell_of_heap H0.out.gbox
  go_enter Tryz.func11, Tryz.ntmps11
  go_wp2_with fail
  rw [← HW0.out]
  refine (chart_impl g a cap p cp w0 H0.out.evs H0.out.pk).mono ?_
  rintro e w1 (⟨hr, rfl, hb1⟩ | ⟨hr, bc, be, bp, bt, l, rfl, hch⟩)
  · have H1 : Hid (PI w g a cap p cp x w1) := H0.out.on hb1
    have HP : Hid (gpV g x = (1, [], [], [])) := gp_bad fun c => by rw [hr] at c; exact absurd c.1 (by simp)
    clear hb1 hr H0
    have o0 : w1.cell? ⟨w.heap.size + 2, 0, none⟩ = some (.int .i64 0) := cell_of_heap H1.out.obox
    have o1 : w1.cell? ⟨w.heap.size + 2, 1, none⟩ = some (.slice none 0 0) := cell_of_heap H1.out.obox
    have o2 : w1.cell? ⟨w.heap.size + 2, 2, none⟩ = some (.slice none 0 0) := cell_of_heap H1.out.obox
    have o3 : w1.cell? ⟨w.heap.size + 2, 3, none⟩ = some (.slice none 0 0) := cell_of_heap H1.out.obox
    have o4 : w1.cell? ⟨w.heap.size + 2, 4, none⟩ = some (.int .i64 0) := cell_of_heap H1.out.obox
    have of : ∀ o, w1.frozen? ⟨w.heap.size + 2, o, none⟩ = false := fun o => frozen_of_heap H1.out.obox
    go_wp2
    refine bodyPost_ret (v := .agg #[.int .i64 0, .slice none 0 0, .slice none 0 0, .slice none 0 0, .int .i64 1]) (by simp [results, Tryz.results11, go_sem, o0, o1, o2, o3, o4]) rfl ⟨below5 H1.out.below _ _ _ _ _, .inl ⟨1, by decide, HP.out, rfl⟩⟩
  · have H1 : Hid (PI w g a cap p cp x w1) := H0.out.on hch.below
    have HC : Hid (Chart w0 g bc be bp bt l w1) := hch
    have HR : Hid (rightG g = true) := hr
    clear hch hr H0
    have e0 : w1.cell? ⟨w.heap.size + 1, 0, none⟩ = some (.int .i64 x.v.id) := cell_of_heap H1.out.ebox
    have e1 : w1.cell? ⟨w.heap.size + 1, 1, none⟩ = some (.int .i64 x.v.room) := cell_of_heap H1.out.ebox
    have e2 : w1.cell? ⟨w.heap.size + 1, 2, none⟩ = some (.int .i64 x.v.author) := cell_of_heap H1.out.ebox
    have e3 : w1.cell? ⟨w.heap.size + 1, 3, none⟩ = some (.int .i64 x.v.kind) := cell_of_heap H1.out.ebox
    have e4 : w1.cell? ⟨w.heap.size + 1, 4, none⟩ = some (.int .i64 x.v.key) := cell_of_heap H1.out.ebox
    have e5 : w1.cell? ⟨w.heap.size + 1, 5, none⟩ = some (.int .i64 x.v.n) := cell_of_heap H1.out.ebox
    have e6 : w1.cell? ⟨w.heap.size + 1, 6, none⟩ = some (.string x.v.text) := cell_of_heap H1.out.ebox
    have e7 : w1.cell? ⟨w.heap.size + 1, 7, none⟩ = some (.slice x.p x.v.prev.length x.c) := cell_of_heap H1.out.ebox
    have e8 : w1.cell? ⟨w.heap.size + 1, 8, none⟩ = some (.int .i64 x.v.time) := cell_of_heap H1.out.ebox
    have k0 : w1.cell? ⟨w.heap.size, 0, none⟩ = some (.int .i64 g.room) := cell_of_heap H1.out.gbox
    have k1 : w1.cell? ⟨w.heap.size, 1, none⟩ = some (.slice a g.evs.length cap) := cell_of_heap H1.out.gbox
    have k2 : w1.cell? ⟨w.heap.size, 2, none⟩ = some (.slice p g.pk.length cp) := cell_of_heap H1.out.gbox
    have o0 : w1.cell? ⟨w.heap.size + 2, 0, none⟩ = some (.int .i64 0) := cell_of_heap H1.out.obox
    have o1 : w1.cell? ⟨w.heap.size + 2, 1, none⟩ = some (.slice none 0 0) := cell_of_heap H1.out.obox
    have o2 : w1.cell? ⟨w.heap.size + 2, 2, none⟩ = some (.slice none 0 0) := cell_of_heap H1.out.obox
    have o3 : w1.cell? ⟨w.heap.size + 2, 3, none⟩ = some (.slice none 0 0) := cell_of_heap H1.out.obox
    have o4 : w1.cell? ⟨w.heap.size + 2, 4, none⟩ = some (.int .i64 0) := cell_of_heap H1.out.obox
    have of : ∀ o, w1.frozen? ⟨w.heap.size + 2, o, none⟩ = false := fun o => frozen_of_heap H1.out.obox
    cases hxr : rightB x.v
    · have HP : Hid (gpV g x = (1, [], [], [])) := gp_bad fun c => by rw [hxr] at c; exact absurd c.2.1 (by simp)
      go_wp2_with fail
      refine (right_impl x.v x.p x.c _ H1.out.num).mono ?_
      rintro e w2 ⟨rfl, hb2⟩
      rw [hxr]
      have H2 : Hid (PI w g a cap p cp x w2) := H1.out.on hb2
      clear hb2 hxr H1 HC o0 o1 o2 o3 o4 of
      have o0 : w2.cell? ⟨w.heap.size + 2, 0, none⟩ = some (.int .i64 0) := cell_of_heap H2.out.obox
      have o1 : w2.cell? ⟨w.heap.size + 2, 1, none⟩ = some (.slice none 0 0) := cell_of_heap H2.out.obox
      have o2 : w2.cell? ⟨w.heap.size + 2, 2, none⟩ = some (.slice none 0 0) := cell_of_heap H2.out.obox
      have o3 : w2.cell? ⟨w.heap.size + 2, 3, none⟩ = some (.slice none 0 0) := cell_of_heap H2.out.obox
      have o4 : w2.cell? ⟨w.heap.size + 2, 4, none⟩ = some (.int .i64 0) := cell_of_heap H2.out.obox
      have of : ∀ o, w2.frozen? ⟨w.heap.size + 2, o, none⟩ = false := fun o => frozen_of_heap H2.out.obox
      go_wp2
      refine bodyPost_ret (v := .agg #[.int .i64 0, .slice none 0 0, .slice none 0 0, .slice none 0 0, .int .i64 1]) (by simp [results, Tryz.results11, go_sem, o0, o1, o2, o3, o4]) rfl ⟨below5 H2.out.below _ _ _ _ _, .inl ⟨1, by decide, HP.out, rfl⟩⟩
    · go_wp2_with fail
      refine (right_impl x.v x.p x.c _ H1.out.num).mono ?_
      rintro e w2 ⟨rfl, hb2⟩
      rw [hxr]
      have HXR : Hid (rightB x.v = true) := hxr
      have H2 : Hid (PI w g a cap p cp x w2 ∧ ChAt w2 bc be bp 1 0 (.map (some bt)) ∧ ESt w2 be bp g.evs.length g.pk.length g.evs g.pk ∧ w.heap.size ≤ be ∧ w.heap.size ≤ bp ∧ be ≠ bp ∧ bc < w2.heap.size) := by
        have hp := H1.out.on hb2
        obtain ⟨q1, q2, q3, q4, q5, -⟩ := right_parts HR.out
        have hbc := (Array.getElem?_eq_some_iff.1 HC.out.ch).1
        exact ⟨hp, (hb2.block _ hbc).trans HC.out.ch, ⟨⟨ownsMap_below HC.out.evs hb2, q1⟩, ⟨ownsMap_below HC.out.pk hb2, q2⟩, fun m hm => hm.elim (fun c => hp.evs.nums m c) (fun c => hp.pk.nums m c), q3, q4, q5⟩, by have := HC.out.ne; omega, by have := HC.out.np; omega, HC.out.two, Nat.lt_of_lt_of_le hbc hb2.size⟩
      clear hb2 hxr o0 o1 o2 o3 o4 of e0 e1 e2 e3 e4 e5 e6 e7 e8 k0 k1 k2
      have e0 : w2.cell? ⟨w.heap.size + 1, 0, none⟩ = some (.int .i64 x.v.id) := cell_of_heap H2.out.1.ebox
      have e1 : w2.cell? ⟨w.heap.size + 1, 1, none⟩ = some (.int .i64 x.v.room) := cell_of_heap H2.out.1.ebox
      have e2 : w2.cell? ⟨w.heap.size + 1, 2, none⟩ = some (.int .i64 x.v.author) := cell_of_heap H2.out.1.ebox
      have e3 : w2.cell? ⟨w.heap.size + 1, 3, none⟩ = some (.int .i64 x.v.kind) := cell_of_heap H2.out.1.ebox
      have e4 : w2.cell? ⟨w.heap.size + 1, 4, none⟩ = some (.int .i64 x.v.key) := cell_of_heap H2.out.1.ebox
      have e5 : w2.cell? ⟨w.heap.size + 1, 5, none⟩ = some (.int .i64 x.v.n) := cell_of_heap H2.out.1.ebox
      have e6 : w2.cell? ⟨w.heap.size + 1, 6, none⟩ = some (.string x.v.text) := cell_of_heap H2.out.1.ebox
      have e7 : w2.cell? ⟨w.heap.size + 1, 7, none⟩ = some (.slice x.p x.v.prev.length x.c) := cell_of_heap H2.out.1.ebox
      have e8 : w2.cell? ⟨w.heap.size + 1, 8, none⟩ = some (.int .i64 x.v.time) := cell_of_heap H2.out.1.ebox
      have k0 : w2.cell? ⟨w.heap.size, 0, none⟩ = some (.int .i64 g.room) := cell_of_heap H2.out.1.gbox
      have k1 : w2.cell? ⟨w.heap.size, 1, none⟩ = some (.slice a g.evs.length cap) := cell_of_heap H2.out.1.gbox
      have k2 : w2.cell? ⟨w.heap.size, 2, none⟩ = some (.slice p g.pk.length cp) := cell_of_heap H2.out.1.gbox
      have o0 : w2.cell? ⟨w.heap.size + 2, 0, none⟩ = some (.int .i64 0) := cell_of_heap H2.out.1.obox
      have o1 : w2.cell? ⟨w.heap.size + 2, 1, none⟩ = some (.slice none 0 0) := cell_of_heap H2.out.1.obox
      have o2 : w2.cell? ⟨w.heap.size + 2, 2, none⟩ = some (.slice none 0 0) := cell_of_heap H2.out.1.obox
      have o3 : w2.cell? ⟨w.heap.size + 2, 3, none⟩ = some (.slice none 0 0) := cell_of_heap H2.out.1.obox
      have o4 : w2.cell? ⟨w.heap.size + 2, 4, none⟩ = some (.int .i64 0) := cell_of_heap H2.out.1.obox
      have of : ∀ o, w2.frozen? ⟨w.heap.size + 2, o, none⟩ = false := fun o => frozen_of_heap H2.out.1.obox
      by_cases hrm : x.v.room = g.room
      · have hrb : (x.v.room != g.room) = false := by simp [hrm]
        have HP : Hid (gpV g x = putV (vs g.evs) (vs g.pk) x.v) := gp_good HR.out HXR.out hrm
        clear hrm
        go_wp2
        refine wp_region_held_drew (S := (fun W => ChAt W bc be bp 1 0 (.map (some bt)) ∧ W.heap[w.heap.size + 1]? = some (.cells #[.int .i64 x.v.id, .int .i64 x.v.room, .int .i64 x.v.author, .int .i64 x.v.kind, .int .i64 x.v.key, .int .i64 x.v.n, .string x.v.text, .slice x.p x.v.prev.length x.c, .int .i64 x.v.time] 37 (0, 0)))) (by kernel_rfl) ⟨H2.out.2.1, H2.out.1.ebox⟩ (fun hHeld => ?_)
        refine wpAnyH_take (i := 0) (v := (.pointer (some ⟨bc, 0, none⟩))) rfl (by kernel_rfl) (by kernel_rfl) (by kernel_rfl) (fun _ _ _ h => h) (Or.inl ⟨by kernel_rfl, ?_⟩) hHeld ?_
        · intro W hW
          go_simp
        refine wpAnyH_take (i := 1) (v := (.pointer (some ⟨bc, 0, none⟩))) rfl (by kernel_rfl) (by kernel_rfl) (by kernel_rfl) (fun _ _ _ h => h) (Or.inl ⟨by kernel_rfl, ?_⟩) hHeld ?_
        · intro W hW
          go_simp
        refine wpAnyH_take (i := 2) (v := (.pointer (some ⟨bc, 0, none⟩))) rfl (by kernel_rfl) (by kernel_rfl) (by kernel_rfl) (fun _ _ _ h => h) (Or.inl ⟨by kernel_rfl, ?_⟩) hHeld ?_
        · intro W hW
          go_simp
        refine wpAnyH_take (i := 3) (v := (.agg #[.map (some be), .map (some bp)])) rfl (by kernel_rfl) (by kernel_rfl) (by kernel_rfl) (fun _ _ _ h => h) (Or.inl ⟨by kernel_rfl, ?_⟩) hHeld ?_
        · intro W hW
          have f0 : W.cell? ⟨bc, 0, none⟩ = some (.map (some be)) := cell_of_heap hW.1
          have f1 : W.cell? ⟨bc, 1, none⟩ = some (.map (some bp)) := cell_of_heap hW.1
          go_simp
        refine wpAnyH_take (i := 4) (v := (.agg #[.int .i64 x.v.id, .int .i64 x.v.room, .int .i64 x.v.author, .int .i64 x.v.kind, .int .i64 x.v.key, .int .i64 x.v.n, .string x.v.text, .slice x.p x.v.prev.length x.c, .int .i64 x.v.time])) rfl (by kernel_rfl) (by kernel_rfl) (by kernel_rfl) (fun _ _ _ h => h) (Or.inl ⟨by kernel_rfl, ?_⟩) hHeld ?_
        · intro W hW
          have f0 : W.cell? ⟨w.heap.size + 1, 0, none⟩ = some (.int .i64 x.v.id) := cell_of_heap hW.2
          have f1 : W.cell? ⟨w.heap.size + 1, 1, none⟩ = some (.int .i64 x.v.room) := cell_of_heap hW.2
          have f2 : W.cell? ⟨w.heap.size + 1, 2, none⟩ = some (.int .i64 x.v.author) := cell_of_heap hW.2
          have f3 : W.cell? ⟨w.heap.size + 1, 3, none⟩ = some (.int .i64 x.v.kind) := cell_of_heap hW.2
          have f4 : W.cell? ⟨w.heap.size + 1, 4, none⟩ = some (.int .i64 x.v.key) := cell_of_heap hW.2
          have f5 : W.cell? ⟨w.heap.size + 1, 5, none⟩ = some (.int .i64 x.v.n) := cell_of_heap hW.2
          have f6 : W.cell? ⟨w.heap.size + 1, 6, none⟩ = some (.string x.v.text) := cell_of_heap hW.2
          have f7 : W.cell? ⟨w.heap.size + 1, 7, none⟩ = some (.slice x.p x.v.prev.length x.c) := cell_of_heap hW.2
          have f8 : W.cell? ⟨w.heap.size + 1, 8, none⟩ = some (.int .i64 x.v.time) := cell_of_heap hW.2
          go_simp
        refine wpAnyH_ready (rs := [5]) (by kernel_rfl) (by simp) ?_
        refine AllReadyH.cons rfl (fun K hK => ?_) AllReadyH.nil
        go_simp
        refine (stockPut_impl w.heap.size be bp g.evs.length g.pk.length g.evs g.pk x _ (H2.out.2.2.1.kept (Below.refl _ _).drew) (right_ok HXR.out) (H2.out.1.num.kept (Below.refl _ _).drew) (right_parts HR.out).2.2.2.2.2 H2.out.2.2.2.1 H2.out.2.2.2.2.1 H2.out.2.2.2.2.2.1 H2.out.1.below.size (right_parts HR.out).2.2.2.1 (Nat.le_trans (right_parts HR.out).2.2.2.2.1 (by decide))).mono ?_
        rintro e w3 ⟨ht3, v3, c, rfl, hc3⟩
        have H3 : Hid (PI w g a cap p cp x w3 ∧ ChAt w3 bc be bp 1 0 (.map (some bt)) ∧ Two be bp w2 w3) := two_pi H2.out.1 H2.out.2.1 H2.out.2.2.1 H2.out.2.2.2.1 H2.out.2.2.2.2.1 ht3
        clear ht3
        refine hK.out _ _ ⟨H3.out.2.1, H3.out.1.ebox⟩ (fun hH1 => ?_)
        clear hK K
        rcases hc3 with ⟨hcn, hcb, hpv⟩ | ⟨rfl, es3, ps3, ne3, np3, ad3, hpv, hst3, hown3, hadl⟩
        · have HPC : Hid (gpV g x = (c, [], [], [])) := HP.out.trans hpv
          have hnb : (c != 0) = true := by simp [hcn]
          clear hcn hpv o0 o1 o2 o3 o4 of e0 e1 e2 e3 e4 e5 e6 e7 e8 k0 k1 k2
          refine wpAnyH_take (i := 6) (v := (.tuple #[v3, .int .i64 c])) rfl (by kernel_rfl) (by kernel_rfl) (by kernel_rfl) (fun _ _ _ h => h) (Or.inl ⟨by kernel_rfl, ?_⟩) hH1 ?_
          · intro W hW
            go_simp
          refine wpAnyH_take (i := 7) (v := v3) rfl (by kernel_rfl) (by kernel_rfl) (by kernel_rfl) (fun _ _ _ h => h) (Or.inl ⟨by kernel_rfl, ?_⟩) hH1 ?_
          · intro W hW
            go_simp
          refine wpAnyH_take (i := 8) (v := (.int .i64 c)) rfl (by kernel_rfl) (by kernel_rfl) (by kernel_rfl) (fun _ _ _ h => h) (Or.inl ⟨by kernel_rfl, ?_⟩) hH1 ?_
          · intro W hW
            go_simp
          refine wpAnyH_take (i := 9) (v := v3) rfl (by kernel_rfl) (by kernel_rfl) (by kernel_rfl) (fun _ _ _ h => h) (Or.inl ⟨by kernel_rfl, ?_⟩) hH1 ?_
          · intro W hW
            go_simp
          refine wpAnyH_take (i := 10) (v := (.int .i64 c)) rfl (by kernel_rfl) (by kernel_rfl) (by kernel_rfl) (fun _ _ _ h => h) (Or.inl ⟨by kernel_rfl, ?_⟩) hH1 ?_
          · intro W hW
            go_simp
          refine wpAnyH_done (by kernel_rfl) ?_ _
          simp only [Act.put, List.setIfInBounds_toArray, List.set_cons_zero, List.set_cons_succ, List.getElem_toArray, List.getElem_cons_zero, List.getElem_cons_succ]
          have o0 : w3.cell? ⟨w.heap.size + 2, 0, none⟩ = some (.int .i64 0) := cell_of_heap H3.out.1.obox
          have o1 : w3.cell? ⟨w.heap.size + 2, 1, none⟩ = some (.slice none 0 0) := cell_of_heap H3.out.1.obox
          have o2 : w3.cell? ⟨w.heap.size + 2, 2, none⟩ = some (.slice none 0 0) := cell_of_heap H3.out.1.obox
          have o3 : w3.cell? ⟨w.heap.size + 2, 3, none⟩ = some (.slice none 0 0) := cell_of_heap H3.out.1.obox
          have o4 : w3.cell? ⟨w.heap.size + 2, 4, none⟩ = some (.int .i64 0) := cell_of_heap H3.out.1.obox
          have of : ∀ o, w3.frozen? ⟨w.heap.size + 2, o, none⟩ = false := fun o => frozen_of_heap H3.out.1.obox
          go_wp2
          refine bodyPost_ret (v := .agg #[.int .i64 0, .slice none 0 0, .slice none 0 0, .slice none 0 0, .int .i64 c]) (by simp [results, Tryz.results11, go_sem, o0, o1, o2, o3, o4]) rfl ⟨below5 H3.out.1.below _ _ _ _ _, .inl ⟨c, hcb, HPC.out, rfl⟩⟩
        · have HPC : Hid (gpV g x = (0, vs es3, vs ps3, ad3)) := HP.out.trans hpv
          obtain ⟨a3, c3, rfl, -, -, -⟩ := hown3.at (by omega)
          have H3S : Hid (ESt w3 be bp ne3 np3 es3 ps3 ∧ NumsOwn w3 w2.heap.size (.slice a3 ad3.length c3) ad3 ∧ es3.length ≤ 60 ∧ ps3.length ≤ 20) := ⟨hst3, hown3, hst3.el, hst3.pl⟩
          clear hpv hst3 hown3 o0 o1 o2 o3 o4 of e0 e1 e2 e3 e4 e5 e6 e7 e8 k0 k1 k2
          refine wpAnyH_take (i := 6) (v := (.tuple #[(.slice a3 ad3.length c3), .int .i64 0])) rfl (by kernel_rfl) (by kernel_rfl) (by kernel_rfl) (fun _ _ _ h => h) (Or.inl ⟨by kernel_rfl, ?_⟩) hH1 ?_
          · intro W hW
            go_simp
          refine wpAnyH_take (i := 7) (v := (.slice a3 ad3.length c3)) rfl (by kernel_rfl) (by kernel_rfl) (by kernel_rfl) (fun _ _ _ h => h) (Or.inl ⟨by kernel_rfl, ?_⟩) hH1 ?_
          · intro W hW
            go_simp
          refine wpAnyH_take (i := 8) (v := (.int .i64 0)) rfl (by kernel_rfl) (by kernel_rfl) (by kernel_rfl) (fun _ _ _ h => h) (Or.inl ⟨by kernel_rfl, ?_⟩) hH1 ?_
          · intro W hW
            go_simp
          refine wpAnyH_take (i := 9) (v := (.slice a3 ad3.length c3)) rfl (by kernel_rfl) (by kernel_rfl) (by kernel_rfl) (fun _ _ _ h => h) (Or.inl ⟨by kernel_rfl, ?_⟩) hH1 ?_
          · intro W hW
            go_simp
          refine wpAnyH_take (i := 10) (v := (.int .i64 0)) rfl (by kernel_rfl) (by kernel_rfl) (by kernel_rfl) (fun _ _ _ h => h) (Or.inl ⟨by kernel_rfl, ?_⟩) hH1 ?_
          · intro W hW
            go_simp
          refine wpAnyH_done (by kernel_rfl) ?_ _
          simp only [Act.put, List.setIfInBounds_toArray, List.set_cons_zero, List.set_cons_succ, List.getElem_toArray, List.getElem_cons_zero, List.getElem_cons_succ]
          have k0 : w3.cell? ⟨w.heap.size, 0, none⟩ = some (.int .i64 g.room) := cell_of_heap H3.out.1.gbox
          have k1 : w3.cell? ⟨w.heap.size, 1, none⟩ = some (.slice a g.evs.length cap) := cell_of_heap H3.out.1.gbox
          have k2 : w3.cell? ⟨w.heap.size, 2, none⟩ = some (.slice p g.pk.length cp) := cell_of_heap H3.out.1.gbox
          go_wp2
          refine wp_region_held_drew (S := (fun W => ChAt W bc be bp 1 0 (.map (some bt)) ∧ W.heap[w.heap.size]? = some (.cells #[.int .i64 g.room, .slice a g.evs.length cap, .slice p g.pk.length cp] 32 (0, 0)))) (by kernel_rfl) ⟨H3.out.2.1, H3.out.1.gbox⟩ (fun hHeld => ?_)
          refine wpAnyH_take (i := 0) (v := (.pointer (some ⟨bc, 0, none⟩))) rfl (by kernel_rfl) (by kernel_rfl) (by kernel_rfl) (fun _ _ _ h => h) (Or.inl ⟨by kernel_rfl, ?_⟩) hHeld ?_
          · intro W hW
            go_simp
          refine wpAnyH_take (i := 1) (v := (.pointer (some ⟨bc, 0, none⟩))) rfl (by kernel_rfl) (by kernel_rfl) (by kernel_rfl) (fun _ _ _ h => h) (Or.inl ⟨by kernel_rfl, ?_⟩) hHeld ?_
          · intro W hW
            go_simp
          refine wpAnyH_take (i := 2) (v := (.pointer (some ⟨bc, 0, none⟩))) rfl (by kernel_rfl) (by kernel_rfl) (by kernel_rfl) (fun _ _ _ h => h) (Or.inl ⟨by kernel_rfl, ?_⟩) hHeld ?_
          · intro W hW
            go_simp
          refine wpAnyH_take (i := 3) (v := (.agg #[.map (some be), .map (some bp)])) rfl (by kernel_rfl) (by kernel_rfl) (by kernel_rfl) (fun _ _ _ h => h) (Or.inl ⟨by kernel_rfl, ?_⟩) hHeld ?_
          · intro W hW
            have f0 : W.cell? ⟨bc, 0, none⟩ = some (.map (some be)) := cell_of_heap hW.1
            have f1 : W.cell? ⟨bc, 1, none⟩ = some (.map (some bp)) := cell_of_heap hW.1
            go_simp
          refine wpAnyH_take (i := 4) (v := (.pointer (some ⟨w.heap.size, 0, none⟩))) rfl (by kernel_rfl) (by kernel_rfl) (by kernel_rfl) (fun _ _ _ h => h) (Or.inl ⟨by kernel_rfl, ?_⟩) hHeld ?_
          · intro W hW
            go_simp
          refine wpAnyH_take (i := 5) (v := (.int .i64 g.room)) rfl (by kernel_rfl) (by kernel_rfl) (by kernel_rfl) (fun _ _ _ h => h) (Or.inl ⟨by kernel_rfl, ?_⟩) hHeld ?_
          · intro W hW
            have f0 : W.cell? ⟨w.heap.size, 0, none⟩ = some (.int .i64 g.room) := cell_of_heap hW.2
            go_simp
          refine wpAnyH_take (i := 7) (v := (.slice a3 ad3.length c3)) rfl (by kernel_rfl) (by kernel_rfl) (by kernel_rfl) (fun _ _ _ h => h) (Or.inl ⟨by kernel_rfl, ?_⟩) hHeld ?_
          · intro W hW
            go_simp
          refine wpAnyH_ready (rs := [6]) (by kernel_rfl) (by simp) ?_
          refine AllReadyH.cons rfl (fun K hK => ?_) AllReadyH.nil
          go_simp
          refine (graphOf_impl be bp ne3 np3 es3 ps3 g.room _ (H3S.out.1.kept (Below.refl _ _).drew)).mono ?_
          rintro e w4 ⟨a1, c1, a2, c2, r1, r2, rfl, hto, hb4⟩
          have HB4 : Hid (Below w3.heap.size w3 w4) := (Below.refl _ _).drew.trans hb4
          have hbcn : bc ≠ w.heap.size + 2 := fun e => by have q1 := H2.out.2.1; have q2 := H2.out.1.obox; unfold ChAt at q1; rw [e, q2] at q1; simp at q1
          have H4 : Hid (PI w g a cap p cp x w4 ∧ TwoOut w3.heap.size w4 (vs es3) (vs ps3) (.slice a1 r1.length c1) (.slice a2 r2.length c2) r1 r2 ∧ NumsOwn w4 w2.heap.size (.slice a3 ad3.length c3) ad3) := ⟨H3.out.1.on HB4.out, hto, H3S.out.2.1.kept HB4.out⟩
          clear hto hb4
          refine hK.out _ _ ⟨(HB4.out.block _ (Array.getElem?_eq_some_iff.1 H3.out.2.1).1).trans H3.out.2.1, H4.out.1.gbox⟩ (fun hH2 => ?_)
          clear hK K
          refine wpAnyH_take (i := 8) (v := (.agg #[.int .i64 g.room, .slice a1 r1.length c1, .slice a2 r2.length c2, .slice a3 ad3.length c3, .int .i64 0])) rfl (by kernel_rfl) (by kernel_rfl) (by kernel_rfl) (fun _ _ _ h => h) (Or.inl ⟨by kernel_rfl, ?_⟩) hH2 ?_
          · intro W hW
            go_simp
          have o0 : w4.cell? ⟨w.heap.size + 2, 0, none⟩ = some (.int .i64 0) := cell_of_heap H4.out.1.obox
          have o1 : w4.cell? ⟨w.heap.size + 2, 1, none⟩ = some (.slice none 0 0) := cell_of_heap H4.out.1.obox
          have o2 : w4.cell? ⟨w.heap.size + 2, 2, none⟩ = some (.slice none 0 0) := cell_of_heap H4.out.1.obox
          have o3 : w4.cell? ⟨w.heap.size + 2, 3, none⟩ = some (.slice none 0 0) := cell_of_heap H4.out.1.obox
          have o4 : w4.cell? ⟨w.heap.size + 2, 4, none⟩ = some (.int .i64 0) := cell_of_heap H4.out.1.obox
          have of : ∀ o, w4.frozen? ⟨w.heap.size + 2, o, none⟩ = false := fun o => frozen_of_heap H4.out.1.obox
          refine wpAnyH_ready (rs := [9]) (by kernel_rfl) (by simp) ?_
          refine AllReadyH.cons rfl (fun K hK => ?_) AllReadyH.nil
          go_simp
          refine hK.out _ _ ⟨st5 hbcn hH2.1, st5 (by omega) hH2.2⟩ (fun hH3 => ?_)
          clear hK K
          refine wpAnyH_done (by kernel_rfl) ?_ _
          go_wp2
          refine bodyPost_ret (v := .agg #[.int .i64 g.room, .slice a1 r1.length c1, .slice a2 r2.length c2, .slice a3 ad3.length c3, .int .i64 0]) (by simp [results, Tryz.results11, go_sem, o0, o1, o2, o3, o4]) rfl (gp_end HPC.out H4.out.1 H4.out.2.1 H4.out.2.2 H2.out.1.lt H3.out.1.lt H3S.out.2.1.lt hadl H3S.out.2.2)
      · have hrb : (x.v.room != g.room) = true := by simp [hrm]
        have HP : Hid (gpV g x = (1, [], [], [])) := gp_bad fun c => hrm c.2.2
        clear hrm
        go_wp2
        refine bodyPost_ret (v := .agg #[.int .i64 0, .slice none 0 0, .slice none 0 0, .slice none 0 0, .int .i64 1]) (by simp [results, Tryz.results11, go_sem, o0, o1, o2, o3, o4]) rfl ⟨below5 H2.out.1.below _ _ _ _ _, .inl ⟨1, by decide, HP.out, rfl⟩⟩
end Go.Proofs.YtobkinocaomcmaaGreat
