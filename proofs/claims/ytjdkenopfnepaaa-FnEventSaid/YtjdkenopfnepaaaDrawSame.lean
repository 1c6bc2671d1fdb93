/- Two events that are drawn. -/
import Derived.Test.YtjdkenopfnepaaaDrawEvs
namespace Go.Proofs.Ytjdkenopfnepaaa
open Go.RowKit

/-- While two events are drawn: the source; the two results' variables r, r + 1; the variables of the events, ab and bb; their rows. -/
structure DS (w : World) (r g ab bb : Nat) (ca cb : Array Value) (p : Option Addr) (np cp : Nat) (zp : List Int) (q : Option Addr) (nq cq : Nat) (zq : List Int) (W : World) : Prop where
  src : SrcAt W (r + 2) g
  res : ∃ c0 : Array Value, c0.size = 9 ∧ W.heap[r]? = some (.cells c0 25 (0, 0))
  res1 : ∃ c0 : Array Value, c0.size = 9 ∧ W.heap[r + 1]? = some (.cells c0 25 (0, 0))
  a : W.heap[ab]? = some (.cells ca 25 (0, 0))
  b : W.heap[bb]? = some (.cells cb 25 (0, 0))
  rowp : W.ownsRow (r + 2) 2 1 (.slice p np cp) np (nv zp)
  rowq : W.ownsRow (ab + 1) 2 1 (.slice q nq cq) nq (nv zq)
  pa : ∀ k, (Value.slice p np cp).ownBlock = some k → k < ab ∧ k ≠ g
  qb : ∀ k, (Value.slice q nq cq).ownBlock = some k → k ≠ bb
  below : Below w.heap.size w W
  hr : w.heap.size ≤ r
  hg : r + 2 ≤ g
  hga : g < ab
  hab : ab < bb
theorem DS.num {w : World} {r g ab bb : Nat} {ca cb : Array Value} {p : Option Addr} {np cp : Nat} {zp : List Int} {q : Option Addr} {nq cq : Nat} {zq : List Int} {W w1 : World} (h : DS w r g ab bb ca cb p np cp zp q nq cq zq W) (hs : SrcAt w1 (r + 2) g) (hG : W.grownBy w1 (some g)) : DS w r g ab bb ca cb p np cp zp q nq cq zq w1 := by
  obtain ⟨c0, z0, h0⟩ := h.res
  obtain ⟨c1, z1, h1⟩ := h.res1
  have l0 := (Array.getElem?_eq_some_iff.1 h0).1
  have l1 := (Array.getElem?_eq_some_iff.1 h1).1
  have l2 := (Array.getElem?_eq_some_iff.1 h.a).1
  have l3 := (Array.getElem?_eq_some_iff.1 h.b).1
  have x1 := h.hr
  have x2 := h.hg
  have x3 := h.hga
  have x4 := h.hab
  refine ⟨hs, ⟨c0, z0, (hG.block _ l0 (by simp; omega)).trans h0⟩, ⟨c1, z1, (hG.block _ l1 (by simp; omega)).trans h1⟩, (hG.block _ l2 (by simp; omega)).trans h.a, (hG.block _ l3 (by simp; omega)).trans h.b, h.rowp.kept hG (.inr fun e => ?_), h.rowq.kept hG (.inr fun e => ?_), h.pa, h.qb, ?_, h.hr, h.hg, h.hga, h.hab⟩
  · exact (h.pa g e).2 rfl
  · have := (h.rowq.lt g e).1; omega
  · exact h.below.trans (grown_below hG (by omega) (by omega))
theorem DS.setb {w : World} {r g ab bb : Nat} {ca cb : Array Value} {p : Option Addr} {np cp : Nat} {zp : List Int} {q : Option Addr} {nq cq : Nat} {zq : List Int} {W : World} (h : DS w r g ab bb ca cb p np cp zp q nq cq zq W) (k : Nat) (v : Value) : DS w r g ab bb ca (cb.setIfInBounds k v) p np cp zp q nq cq zq (W.setCell ⟨bb, k, none⟩ v) := by
  obtain ⟨c0, z0, h0⟩ := h.res
  obtain ⟨c1, z1, h1⟩ := h.res1
  have x1 := h.hr
  have x2 := h.hg
  have x3 := h.hga
  have x4 := h.hab
  have hG : W.grownBy (W.setCell ⟨bb, k, none⟩ v) (some bb) := grown_set W bb k v
  refine ⟨h.src.set (by simp; omega) (by simp; omega) v, ⟨c0, z0, (Below.heap_setCell _ _ _ _ (by simp; omega)).trans h0⟩, ⟨c1, z1, (Below.heap_setCell _ _ _ _ (by simp; omega)).trans h1⟩, (Below.heap_setCell _ _ _ _ (by simp; omega)).trans h.a, heap_set h.b v, h.rowp.kept hG (.inr fun e => ?_), h.rowq.kept hG (.inr fun e => ?_), h.pa, h.qb, ?_, h.hr, h.hg, h.hga, h.hab⟩
  · have := (h.pa bb e).1; omega
  · exact h.qb bb e rfl
  · exact h.below.setCell (by simp; omega) v
theorem DS.row {w : World} {r g ab bb : Nat} {ca cb : Array Value} {p : Option Addr} {np cp : Nat} {zp : List Int} {q q' : Option Addr} {nq cq nq' cq' : Nat} {zq zq' : List Int} {W : World} (h : DS w r g ab bb ca cb p np cp zp q nq cq zq W) (ho : W.ownsRow (ab + 1) 2 1 (.slice q' nq' cq') nq' (nv zq')) (hq : ∀ k, (Value.slice q' nq' cq').ownBlock = some k → k ≠ bb) : DS w r g ab bb ca cb p np cp zp q' nq' cq' zq' W :=
  ⟨h.src, h.res, h.res1, h.a, h.b, h.rowp, ho, h.pa, hq, h.below, h.hr, h.hg, h.hga, h.hab⟩
theorem DS.alloc {w : World} {r g ab bb : Nat} {ca cb : Array Value} {p : Option Addr} {np cp : Nat} {zp : List Int} {q : Option Addr} {nq cq : Nat} {zq : List Int} {W : World} (h : DS w r g ab bb ca cb p np cp zp q nq cq zq W) (o : Obj) : DS w r g ab bb ca cb p np cp zp q nq cq zq (W.alloc o) := by
  exact h.num (h.src.alloc o) (World.grownBy_alloc _ _ _)
theorem DS.lt {w : World} {r g ab bb : Nat} {ca cb : Array Value} {p : Option Addr} {np cp : Nat} {zp : List Int} {q : Option Addr} {nq cq : Nat} {zq : List Int} {W : World} (h : DS w r g ab bb ca cb p np cp zp q nq cq zq W) : bb < W.heap.size := (Array.getElem?_eq_some_iff.1 h.b).1
theorem nv_snoc (zs : List Int) (n : Int) : nv (zs ++ [n]) = nv zs ++ [.int .i64 n] := by simp [nv]
/-- The second event's row grows. -/
theorem DS.grow {w : World} {r g ab bb : Nat} {ca cb : Array Value} {p : Option Addr} {np cp : Nat} {zp : List Int} {q q' : Option Addr} {nq cq nq' cq' : Nat} {zq zq' : List Int} {W w1 : World} (h : DS w r g ab bb ca cb p np cp zp q nq cq zq W) (hG : W.grownBy w1 (Value.slice q nq cq).ownBlock) (ho : w1.ownsRow (ab + 1) 2 1 (.slice q' nq' cq') nq' (nv zq')) (hq : ∀ k, (Value.slice q' nq' cq').ownBlock = some k → (Value.slice q nq cq).ownBlock = some k ∨ k = W.heap.size) : DS w r g ab bb ca cb p np cp zp q' nq' cq' zq' w1 := by
  obtain ⟨c0, z0, h0⟩ := h.res
  obtain ⟨c1, z1, h1⟩ := h.res1
  have l0 := (Array.getElem?_eq_some_iff.1 h0).1
  have l1 := (Array.getElem?_eq_some_iff.1 h1).1
  have l2 := (Array.getElem?_eq_some_iff.1 h.a).1
  have l3 := (Array.getElem?_eq_some_iff.1 h.b).1
  have x1 := h.hr
  have x2 := h.hg
  have x3 := h.hga
  have x4 := h.hab
  have hlow : ∀ k, k ≤ ab → some k ≠ (Value.slice q nq cq).ownBlock := fun k hk e => by have := (h.rowq.lt k e.symm).1; omega
  have hbel : Below (r + 2) W w1 := (Below.refl _ _).grown hG (by omega) (fun k hk => by have := (h.rowq.lt k hk).1; omega)
  refine ⟨h.src.kept hbel (hG.block g (by omega) (hlow g (by omega))), ⟨c0, z0, (hG.block _ l0 (hlow _ (by omega))).trans h0⟩, ⟨c1, z1, (hG.block _ l1 (hlow _ (by omega))).trans h1⟩, (hG.block _ l2 (hlow _ (by omega))).trans h.a, (hG.block _ l3 (fun e => h.qb bb e.symm rfl)).trans h.b, h.rowp.kept hG ?_, ho, h.pa, fun k hk => ?_, h.below.trans (hbel.mono (by omega)), h.hr, h.hg, h.hga, h.hab⟩
  · cases hp : (Value.slice p np cp).ownBlock with
    | none => exact .inl rfl
    | some k => exact .inr (hlow k (Nat.le_of_lt (h.pa k hp).1))
  · rcases hq k hk with e | e
    · exact h.qb k e
    · omega
/-- Two events that were drawn. -/
def SamePost (w : World) (e : Ending) (w' : World) : Prop :=
  ∃ (v u : Ev) (p q : Option Addr) (cp cq : Nat), e = .returned (.tuple #[.agg #[.int .i64 v.id, .int .i64 v.room, .int .i64 v.author, .int .i64 v.kind, .int .i64 v.key, .int .i64 v.n, .string v.text, .slice p v.prev.length cp, .int .i64 v.time], .agg #[.int .i64 u.id, .int .i64 u.room, .int .i64 u.author, .int .i64 u.kind, .int .i64 u.key, .int .i64 u.n, .string u.text, .slice q u.prev.length cq, .int .i64 u.time]]) ∧ NumsAt w' p v.prev ∧ NumsAt w' q u.prev ∧ Below w.heap.size w w'

theorem same_end {w : World} {r g ab bb : Nat} {ca cb : Array Value} {p : Option Addr} {cp : Nat} {zp : List Int} {q : Option Addr} {np nq cq : Nat} {zq : List Int} {W : World} (h : DS w r g ab bb ca cb p np cp zp q nq cq zq W) (hp : zp.length = np) (hq : zq.length = nq) (hp3 : np ≤ 4) (hq3 : nq ≤ 4) (x0 x1 x2 x3 x4 x5 x6 x7 x8 x9 x10 x11 x12 x13 x14 x15 x16 x17 : Value) (i1 i2 i3 i4 i5 i6 i8 j1 j2 j3 j4 j5 j6 j8 : Int) (tx ty : ByteArray) :
    SamePost w (.returned (.tuple #[.agg #[.int .i64 i1, .int .i64 i2, .int .i64 i3, .int .i64 i4, .int .i64 i5, .int .i64 i6, .string tx, .slice p np cp, .int .i64 i8], .agg #[.int .i64 j1, .int .i64 j2, .int .i64 j3, .int .i64 j4, .int .i64 j5, .int .i64 j6, .string ty, .slice q nq cq, .int .i64 j8]])) ((((((((((((((((((W.setCell ⟨r, 0, none⟩ x0).setCell ⟨r, 1, none⟩ x1).setCell ⟨r, 2, none⟩ x2).setCell ⟨r, 3, none⟩ x3).setCell ⟨r, 4, none⟩ x4).setCell ⟨r, 5, none⟩ x5).setCell ⟨r, 6, none⟩ x6).setCell ⟨r, 7, none⟩ x7).setCell ⟨r, 8, none⟩ x8).setCell ⟨r + 1, 0, none⟩ x9).setCell ⟨r + 1, 1, none⟩ x10).setCell ⟨r + 1, 2, none⟩ x11).setCell ⟨r + 1, 3, none⟩ x12).setCell ⟨r + 1, 4, none⟩ x13).setCell ⟨r + 1, 5, none⟩ x14).setCell ⟨r + 1, 6, none⟩ x15).setCell ⟨r + 1, 7, none⟩ x16).setCell ⟨r + 1, 8, none⟩ x17) := by
  subst hp hq
  have y1 := h.hr
  have y2 := h.hg
  have y3 := h.hga
  have d0 : w.heap.size ≤ r := y1
  have d1 : w.heap.size ≤ r + 1 := by omega
  have p0 : r < r + 2 := by omega
  have p1 : r + 1 < r + 2 := by omega
  have q0 : r < ab + 1 := by omega
  have q1 : r + 1 < ab + 1 := by omega
  exact ⟨⟨i1, i2, i3, i4, i5, i6, tx, zp, i8⟩, ⟨j1, j2, j3, j4, j5, j6, ty, zq, j8⟩, p, q, cp, cq, rfl, numsAt_of (ownsRow_setCell_below (ownsRow_setCell_below (ownsRow_setCell_below (ownsRow_setCell_below (ownsRow_setCell_below (ownsRow_setCell_below (ownsRow_setCell_below (ownsRow_setCell_below (ownsRow_setCell_below (ownsRow_setCell_below (ownsRow_setCell_below (ownsRow_setCell_below (ownsRow_setCell_below (ownsRow_setCell_below (ownsRow_setCell_below (ownsRow_setCell_below (ownsRow_setCell_below (ownsRow_setCell_below h.rowp (a := ⟨r, 0, none⟩) p0 x0) (a := ⟨r, 1, none⟩) p0 x1) (a := ⟨r, 2, none⟩) p0 x2) (a := ⟨r, 3, none⟩) p0 x3) (a := ⟨r, 4, none⟩) p0 x4) (a := ⟨r, 5, none⟩) p0 x5) (a := ⟨r, 6, none⟩) p0 x6) (a := ⟨r, 7, none⟩) p0 x7) (a := ⟨r, 8, none⟩) p0 x8) (a := ⟨r + 1, 0, none⟩) p1 x9) (a := ⟨r + 1, 1, none⟩) p1 x10) (a := ⟨r + 1, 2, none⟩) p1 x11) (a := ⟨r + 1, 3, none⟩) p1 x12) (a := ⟨r + 1, 4, none⟩) p1 x13) (a := ⟨r + 1, 5, none⟩) p1 x14) (a := ⟨r + 1, 6, none⟩) p1 x15) (a := ⟨r + 1, 7, none⟩) p1 x16) (a := ⟨r + 1, 8, none⟩) p1 x17) (Nat.le_trans hp3 (by decide)), numsAt_of (ownsRow_setCell_below (ownsRow_setCell_below (ownsRow_setCell_below (ownsRow_setCell_below (ownsRow_setCell_below (ownsRow_setCell_below (ownsRow_setCell_below (ownsRow_setCell_below (ownsRow_setCell_below (ownsRow_setCell_below (ownsRow_setCell_below (ownsRow_setCell_below (ownsRow_setCell_below (ownsRow_setCell_below (ownsRow_setCell_below (ownsRow_setCell_below (ownsRow_setCell_below (ownsRow_setCell_below h.rowq (a := ⟨r, 0, none⟩) q0 x0) (a := ⟨r, 1, none⟩) q0 x1) (a := ⟨r, 2, none⟩) q0 x2) (a := ⟨r, 3, none⟩) q0 x3) (a := ⟨r, 4, none⟩) q0 x4) (a := ⟨r, 5, none⟩) q0 x5) (a := ⟨r, 6, none⟩) q0 x6) (a := ⟨r, 7, none⟩) q0 x7) (a := ⟨r, 8, none⟩) q0 x8) (a := ⟨r + 1, 0, none⟩) q1 x9) (a := ⟨r + 1, 1, none⟩) q1 x10) (a := ⟨r + 1, 2, none⟩) q1 x11) (a := ⟨r + 1, 3, none⟩) q1 x12) (a := ⟨r + 1, 4, none⟩) q1 x13) (a := ⟨r + 1, 5, none⟩) q1 x14) (a := ⟨r + 1, 6, none⟩) q1 x15) (a := ⟨r + 1, 7, none⟩) q1 x16) (a := ⟨r + 1, 8, none⟩) q1 x17) (Nat.le_trans hq3 (by decide)), ((((((((((((((((((h.below.setCell (p := ⟨r, 0, none⟩) d0 x0).setCell (p := ⟨r, 1, none⟩) d0 x1).setCell (p := ⟨r, 2, none⟩) d0 x2).setCell (p := ⟨r, 3, none⟩) d0 x3).setCell (p := ⟨r, 4, none⟩) d0 x4).setCell (p := ⟨r, 5, none⟩) d0 x5).setCell (p := ⟨r, 6, none⟩) d0 x6).setCell (p := ⟨r, 7, none⟩) d0 x7).setCell (p := ⟨r, 8, none⟩) d0 x8).setCell (p := ⟨r + 1, 0, none⟩) d1 x9).setCell (p := ⟨r + 1, 1, none⟩) d1 x10).setCell (p := ⟨r + 1, 2, none⟩) d1 x11).setCell (p := ⟨r + 1, 3, none⟩) d1 x12).setCell (p := ⟨r + 1, 4, none⟩) d1 x13).setCell (p := ⟨r + 1, 5, none⟩) d1 x14).setCell (p := ⟨r + 1, 6, none⟩) d1 x15).setCell (p := ⟨r + 1, 7, none⟩) d1 x16).setCell (p := ⟨r + 1, 8, none⟩) d1 x17)⟩

theorem same_drew {w W : World} {e : Ending} (h : SamePost w e W) : SamePost w e W.drew := by
  obtain ⟨v, u, p, q, cp, cq, h1, h2, h3, h4⟩ := h
  exact ⟨v, u, p, q, cp, cq, h1, h2.kept (Below.drew (Below.refl _ _)), h3.kept (Below.drew (Below.refl _ _)), h4.drew⟩
set_option maxHeartbeats 4000000 in
set_option maxRecDepth 100000 in
theorem draw_same (a : Option Addr) (len cap : Nat) (w : World) (hc : CodeAt w w.heap.size a len) :
    Calls Try.prog 11 #[.slice a len cap] w (SamePost w) := by
  obtain ⟨i0, hi, hz0, hz1, hz2⟩ := info_parts Try.info2
  have HC : Hid (∀ o o2, CodeAt ((w.alloc o).alloc o2) (w.heap.size + 2) a len) := fun o o2 => by
    have := (hc.alloc o).alloc o2
    simpa using this
  clear hc
  go_enter Try.func11, Try.ntmps11
  go_wp2_with fail
  refine (draw_source (w.heap.size + 2) a len cap _ (by simp) (HC.out _ _)).mono ?_
  rintro e w1 ⟨g, rfl, hs1, hb1⟩
  have e0 : w1.heap[w.heap.size]? = some (.cells #[.int .i64 0, .int .i64 0, .int .i64 0, .int .i64 0, .int .i64 0, .int .i64 0, .string ⟨#[]⟩, .slice none 0 0, .int .i64 0] 25 (0, 0)) := (hb1.block _ (by omega)).trans ((Below.heap_alloc _ _ _ (by simp)).trans (MapKept.heap_alloc w _).1)
  have e1 : w1.heap[w.heap.size + 1]? = some (.cells #[.int .i64 0, .int .i64 0, .int .i64 0, .int .i64 0, .int .i64 0, .int .i64 0, .string ⟨#[]⟩, .slice none 0 0, .int .i64 0] 25 (0, 0)) := (hb1.block _ (by omega)).trans (new_block _ _ _ (by simp))
  have H1 : Hid (SrcAt w1 (w.heap.size + 2) g ∧ w1.heap[w.heap.size]? = some (.cells #[.int .i64 0, .int .i64 0, .int .i64 0, .int .i64 0, .int .i64 0, .int .i64 0, .string ⟨#[]⟩, .slice none 0 0, .int .i64 0] 25 (0, 0)) ∧ w1.heap[w.heap.size + 1]? = some (.cells #[.int .i64 0, .int .i64 0, .int .i64 0, .int .i64 0, .int .i64 0, .int .i64 0, .string ⟨#[]⟩, .slice none 0 0, .int .i64 0] 25 (0, 0)) ∧ Below w.heap.size w w1) := ⟨hs1, e0, e1, (((Below.refl _ _).alloc (Nat.le_refl _) _).alloc (by simp) _).trans (hb1.mono (by omega))⟩
  clear hs1 hb1 e0 e1
  go_wp2_with fail
  refine (draw_event (w.heap.size + 2) g _ H1.out.1).mono ?_
  rintro e w2 ⟨v, p, cp, rfl, hn, hl, htx, hs2, hg2⟩
  have hgl := H1.out.1.lt
  have hgb := H1.out.1.1
  have e0 : w2.heap[w.heap.size]? = some (.cells #[.int .i64 0, .int .i64 0, .int .i64 0, .int .i64 0, .int .i64 0, .int .i64 0, .string ⟨#[]⟩, .slice none 0 0, .int .i64 0] 25 (0, 0)) := (hg2.block _ (by omega) (by simp; omega)).trans H1.out.2.1
  have e1 : w2.heap[w.heap.size + 1]? = some (.cells #[.int .i64 0, .int .i64 0, .int .i64 0, .int .i64 0, .int .i64 0, .int .i64 0, .string ⟨#[]⟩, .slice none 0 0, .int .i64 0] 25 (0, 0)) := (hg2.block _ (by omega) (by simp; omega)).trans H1.out.2.2.1
  have hg12 := hg2.size
  have HP : Hid (∀ k, (Value.slice p v.prev.length cp).ownBlock = some k → w1.heap.size ≤ k ∧ k < w2.heap.size) := fun k hk => hn.lt k hk
  have H2 : Hid (SrcAt w2 (w.heap.size + 2) g ∧ w2.heap[w.heap.size]? = some (.cells #[.int .i64 0, .int .i64 0, .int .i64 0, .int .i64 0, .int .i64 0, .int .i64 0, .string ⟨#[]⟩, .slice none 0 0, .int .i64 0] 25 (0, 0)) ∧ w2.heap[w.heap.size + 1]? = some (.cells #[.int .i64 0, .int .i64 0, .int .i64 0, .int .i64 0, .int .i64 0, .int .i64 0, .string ⟨#[]⟩, .slice none 0 0, .int .i64 0] 25 (0, 0)) ∧ Below w.heap.size w w2) := ⟨hs2, e0, e1, H1.out.2.2.2.trans (grown_below hg2 (by omega) hgl)⟩
  have HO : Hid (w2.ownsRow (w.heap.size + 2) 2 1 (.slice p v.prev.length cp) v.prev.length (nv v.prev)) := owns_base hn (by omega)
  have HL : Hid (g < w1.heap.size ∧ w1.heap.size ≤ w2.heap.size) := ⟨hgl, hg12⟩
  have htx1 : (v.text.size : Int) ≤ 1000 := by omega
  clear hn hs2 hg2 e0 e1 htx hg12
  go_wp2_with fail
  refine (copy_spec v p cp _ (numsAt_of (HO.out.alloc _) (by omega))).mono ?_
  rintro e w3 ⟨q, cq, rfl, ho3, hb3⟩
  have hz3 : w2.heap.size < w3.heap.size := Nat.lt_of_lt_of_le (by simp) hb3.size
  have HD : Hid (DS w w.heap.size g w2.heap.size w3.heap.size #[.int .i64 v.id, .int .i64 v.room, .int .i64 v.author, .int .i64 v.kind, .int .i64 v.key, .int .i64 v.n, .string v.text, .slice p v.prev.length cp, .int .i64 v.time] #[.int .i64 v.id, .int .i64 v.room, .int .i64 v.author, .int .i64 v.kind, .int .i64 v.key, .int .i64 v.n, .string v.text, .slice q v.prev.length cq, .int .i64 v.time] p v.prev.length cp v.prev q v.prev.length cq (v.prev) (w3.alloc (.cells #[.int .i64 v.id, .int .i64 v.room, .int .i64 v.author, .int .i64 v.kind, .int .i64 v.key, .int .i64 v.n, .string v.text, .slice q v.prev.length cq, .int .i64 v.time] 25))) := by
    have hx := HL.out
    have eS : (w2.alloc (.cells #[.int .i64 v.id, .int .i64 v.room, .int .i64 v.author, .int .i64 v.kind, .int .i64 v.key, .int .i64 v.n, .string v.text, .slice p v.prev.length cp, .int .i64 v.time] 25)).heap.size = w2.heap.size + 1 := by simp
    rw [eS] at ho3 hb3
    have hG : w2.grownBy w3 none := ⟨hb3.os, hb3.tape, hb3.output, Nat.le_of_lt hz3, fun k hk _ => (hb3.block k (by omega)).trans (Below.heap_alloc _ _ _ hk)⟩
    have l0 := (Array.getElem?_eq_some_iff.1 H2.out.2.1).1
    have l1 := (Array.getElem?_eq_some_iff.1 H2.out.2.2.1).1
    refine ⟨(H2.out.1.below ?_).alloc _, ⟨_, rfl, (Below.heap_alloc _ _ _ (by omega)).trans ((hG.block _ l0 (by simp)).trans H2.out.2.1)⟩, ⟨_, rfl, (Below.heap_alloc _ _ _ (by omega)).trans ((hG.block _ l1 (by simp)).trans H2.out.2.2.1)⟩, (Below.heap_alloc _ _ _ hz3).trans ((hb3.block _ (by omega)).trans (MapKept.heap_alloc w2 _).1), (MapKept.heap_alloc w3 _).1, (HO.out.kept hG (Classical.em _)).alloc _, ho3.alloc _, fun k hk => ?_, fun k hk => ?_, ?_, Nat.le_refl _, hgb, by omega, hz3⟩
    · exact ((Below.refl _ _).alloc (Nat.le_refl _) _).trans (hb3.mono (by omega))
    · have := HP.out k hk; omega
    · have := (ho3.lt k hk).2; omega
    · exact (H2.out.2.2.2.trans ((((Below.refl _ _).alloc (Nat.le_refl _) _).trans (hb3.mono (by omega))).mono (by have := H2.out.1.le; omega))).alloc (by have := H2.out.1.le; omega) _
  have hl2 : g < w2.heap.size := by have := HL.out; omega
  clear ho3 hb3 H1 H2 HO HL HP HC
  go_wp2_with fail
  refine (draw_one (w.heap.size + 2) g 2 _ HD.out.src (by omega)).mono ?_
  rintro e w4 ⟨b4, rfl, hs4, hg4, hz4⟩
  have HD : Hid (DS w w.heap.size g w2.heap.size w3.heap.size #[.int .i64 v.id, .int .i64 v.room, .int .i64 v.author, .int .i64 v.kind, .int .i64 v.key, .int .i64 v.n, .string v.text, .slice p v.prev.length cp, .int .i64 v.time] #[.int .i64 v.id, .int .i64 v.room, .int .i64 v.author, .int .i64 v.kind, .int .i64 v.key, .int .i64 v.n, .string v.text, .slice q v.prev.length cq, .int .i64 v.time] p v.prev.length cp v.prev q v.prev.length cq (v.prev) w4) := HD.out.num hs4 hg4
  clear hs4 hg4 hz4
  cases b4
  · go_wp2_with fail
    refine (draw_n (w.heap.size + 2) g 4 _ HD.out.src (by omega)).mono ?_
    rintro e w5 ⟨r5, rfl, p5, q5, -, hs5, hg5, -⟩
    have q5 : r5 < 4 := q5 (by omega)
    have HD : Hid (DS w w.heap.size g w2.heap.size w3.heap.size #[.int .i64 v.id, .int .i64 v.room, .int .i64 v.author, .int .i64 v.kind, .int .i64 v.key, .int .i64 v.n, .string v.text, .slice p v.prev.length cp, .int .i64 v.time] #[.int .i64 v.id, .int .i64 v.room, .int .i64 v.author, .int .i64 v.kind, .int .i64 v.key, .int .i64 v.n, .string v.text, .slice q v.prev.length cq, .int .i64 v.time] p v.prev.length cp v.prev q v.prev.length cq (v.prev) w5) := HD.out.num hs5 hg5
    clear hs5 hg5
    by_cases c0 : r5 = 0
    · have b0 : (r5 == 0) = true := by simp [c0]
      clear c0
      have F := HD.out
      obtain ⟨r0, z0, h0⟩ := F.res
      obtain ⟨r1, z1, h1⟩ := F.res1
      obtain ⟨s0, s1, s2, s3, s4, s5, s6, s7, s8, rfl⟩ := array9 z0
      obtain ⟨t0, t1, t2, t3, t4, t5, t6, t7, t8, rfl⟩ := array9 z1
      have ha : ∀ k, w5.cell? ⟨w2.heap.size, k, none⟩ = #[.int .i64 v.id, .int .i64 v.room, .int .i64 v.author, .int .i64 v.kind, .int .i64 v.key, .int .i64 v.n, .string v.text, .slice p v.prev.length cp, .int .i64 v.time][k]? := fun k => cell_of_heap F.a
      have hb : ∀ k, w5.cell? ⟨w3.heap.size, k, none⟩ = #[.int .i64 v.id, .int .i64 v.room, .int .i64 v.author, .int .i64 v.kind, .int .i64 v.key, .int .i64 v.n, .string v.text, .slice q v.prev.length cq, .int .i64 v.time][k]? := fun k => cell_of_heap F.b
      have hq0 : ∀ k, w5.cell? ⟨w.heap.size, k, none⟩ = _ := fun k => cell_of_heap h0
      have hq1 : ∀ k, w5.cell? ⟨w.heap.size + 1, k, none⟩ = _ := fun k => cell_of_heap h1
      have fb : ∀ k, w5.frozen? ⟨w3.heap.size, k, none⟩ = false := fun k => frozen_of_heap F.b
      have f0 : ∀ k, w5.frozen? ⟨w.heap.size, k, none⟩ = false := fun k => frozen_of_heap h0
      have f1 : ∀ k, w5.frozen? ⟨w.heap.size + 1, k, none⟩ = false := fun k => frozen_of_heap h1
      have hne1 : w.heap.size < w2.heap.size := (by have := F.hg; have := F.hga; omega)
      have hne2 : w.heap.size + 1 < w2.heap.size := (by have := F.hg; have := F.hga; omega)
      have hne3 : w2.heap.size < w3.heap.size := F.hab
      clear F h0 h1
      go_wp2_with fail
      go_region
      all_goals go_wp2
      refine bodyPost_ret (v := .tuple #[.agg #[.int .i64 v.id, .int .i64 v.room, .int .i64 v.author, .int .i64 v.kind, .int .i64 v.key, .int .i64 v.n, .string v.text, .slice p v.prev.length cp, .int .i64 v.time], .agg #[.int .i64 v.id, .int .i64 v.room, .int .i64 v.author, .int .i64 v.kind, .int .i64 v.key, .int .i64 v.n, .string v.text, .slice q v.prev.length cq, .int .i64 (wrap64 (v.time + 1))]]) (by simp [results, Try.results11, go_sem, hq0, hq1]) rfl ?_
      exact same_drew (same_end (HD.out.setb 8 _) rfl rfl (by omega) (by omega) _ _ _ _ _ _ _ _ _ _ _ _ _ _ _ _ _ _ _ _ _ _ _ _ _ _ _ _ _ _ _ _ _ _)
    have b0 : (r5 == 0) = false := by simp [c0]
    by_cases c1 : r5 = 1
    · have b1 : (r5 == 1) = true := by simp [c1]
      clear c0 c1
      have F := HD.out
      obtain ⟨r0, z0, h0⟩ := F.res
      obtain ⟨r1, z1, h1⟩ := F.res1
      obtain ⟨s0, s1, s2, s3, s4, s5, s6, s7, s8, rfl⟩ := array9 z0
      obtain ⟨t0, t1, t2, t3, t4, t5, t6, t7, t8, rfl⟩ := array9 z1
      have ha : ∀ k, w5.cell? ⟨w2.heap.size, k, none⟩ = #[.int .i64 v.id, .int .i64 v.room, .int .i64 v.author, .int .i64 v.kind, .int .i64 v.key, .int .i64 v.n, .string v.text, .slice p v.prev.length cp, .int .i64 v.time][k]? := fun k => cell_of_heap F.a
      have hb : ∀ k, w5.cell? ⟨w3.heap.size, k, none⟩ = #[.int .i64 v.id, .int .i64 v.room, .int .i64 v.author, .int .i64 v.kind, .int .i64 v.key, .int .i64 v.n, .string v.text, .slice q v.prev.length cq, .int .i64 v.time][k]? := fun k => cell_of_heap F.b
      have hq0 : ∀ k, w5.cell? ⟨w.heap.size, k, none⟩ = _ := fun k => cell_of_heap h0
      have hq1 : ∀ k, w5.cell? ⟨w.heap.size + 1, k, none⟩ = _ := fun k => cell_of_heap h1
      have fb : ∀ k, w5.frozen? ⟨w3.heap.size, k, none⟩ = false := fun k => frozen_of_heap F.b
      have f0 : ∀ k, w5.frozen? ⟨w.heap.size, k, none⟩ = false := fun k => frozen_of_heap h0
      have f1 : ∀ k, w5.frozen? ⟨w.heap.size + 1, k, none⟩ = false := fun k => frozen_of_heap h1
      have hne1 : w.heap.size < w2.heap.size := (by have := F.hg; have := F.hga; omega)
      have hne2 : w.heap.size + 1 < w2.heap.size := (by have := F.hg; have := F.hga; omega)
      have hne3 : w2.heap.size < w3.heap.size := F.hab
      clear F h0 h1
      go_wp2_with (at_builtin; refine wpList_append_lies _ rfl (.tmp 30) (.tmp 31) 23 rfl (w2.heap.size + 1) 2 i0 (.int .i64 0) 1 8 Try.underlying23 hi hz0 hz1 hz2 rfl (by decide) (.slice q v.prev.length cq) v.prev.length (nv v.prev) rfl (HD.out.rowq.alloc _) ⟨w5.heap.size, 0, none⟩ 1 1 [.int .i64 99] rfl rfl (cell_one_new _ _ _) (by intro u hu; simp at hu; subst hu; rfl) (by decide) (by unfold maxLen; omega) (by omega) (by have := HD.out.hab; have := HD.out.lt; simp; omega) _ rfl ?_; intro g6 cap6 w6 hown6 hgrow6 hat6 hlt6; have HD : Hid (DS w w.heap.size g w2.heap.size w3.heap.size #[.int .i64 v.id, .int .i64 v.room, .int .i64 v.author, .int .i64 v.kind, .int .i64 v.key, .int .i64 v.n, .string v.text, .slice p v.prev.length cp, .int .i64 v.time] #[.int .i64 v.id, .int .i64 v.room, .int .i64 v.author, .int .i64 v.kind, .int .i64 v.key, .int .i64 v.n, .string v.text, .slice q v.prev.length cq, .int .i64 v.time] p v.prev.length cp v.prev (some ⟨g6, 0, none⟩) (v.prev.length + 1) cap6 (v.prev ++ [99]) w6) := (HD.out.alloc _).grow hgrow6 (by rw [nv_snoc]; exact hown6) (fun k hk => by simp [Value.ownBlock] at hk; subst hk; exact hat6); clear hown6 hgrow6 hat6 ha hb hq0 hq1 fb f0 f1; have F := HD.out; obtain ⟨r0, z0, h0⟩ := F.res; obtain ⟨r1, z1, h1⟩ := F.res1; obtain ⟨s0, s1, s2, s3, s4, s5, s6, s7, s8, rfl⟩ := array9 z0; obtain ⟨t0, t1, t2, t3, t4, t5, t6, t7, t8, rfl⟩ := array9 z1; have ha : ∀ k, w6.cell? ⟨w2.heap.size, k, none⟩ = #[.int .i64 v.id, .int .i64 v.room, .int .i64 v.author, .int .i64 v.kind, .int .i64 v.key, .int .i64 v.n, .string v.text, .slice p v.prev.length cp, .int .i64 v.time][k]? := fun k => cell_of_heap F.a; have hb : ∀ k, w6.cell? ⟨w3.heap.size, k, none⟩ = #[.int .i64 v.id, .int .i64 v.room, .int .i64 v.author, .int .i64 v.kind, .int .i64 v.key, .int .i64 v.n, .string v.text, .slice q v.prev.length cq, .int .i64 v.time][k]? := fun k => cell_of_heap F.b; have hq0 : ∀ k, w6.cell? ⟨w.heap.size, k, none⟩ = _ := fun k => cell_of_heap h0; have hq1 : ∀ k, w6.cell? ⟨w.heap.size + 1, k, none⟩ = _ := fun k => cell_of_heap h1; have fb : ∀ k, w6.frozen? ⟨w3.heap.size, k, none⟩ = false := fun k => frozen_of_heap F.b; have f0 : ∀ k, w6.frozen? ⟨w.heap.size, k, none⟩ = false := fun k => frozen_of_heap h0; have f1 : ∀ k, w6.frozen? ⟨w.heap.size + 1, k, none⟩ = false := fun k => frozen_of_heap h1; have hne1 : w.heap.size < w2.heap.size := (by have := F.hg; have := F.hga; omega); have hne2 : w.heap.size + 1 < w2.heap.size := (by have := F.hg; have := F.hga; omega); have hne3 : w2.heap.size < w3.heap.size := F.hab; clear F h0 h1)
      go_region
      all_goals go_wp2
      refine bodyPost_ret (v := .tuple #[.agg #[.int .i64 v.id, .int .i64 v.room, .int .i64 v.author, .int .i64 v.kind, .int .i64 v.key, .int .i64 v.n, .string v.text, .slice p v.prev.length cp, .int .i64 v.time], .agg #[.int .i64 v.id, .int .i64 v.room, .int .i64 v.author, .int .i64 v.kind, .int .i64 v.key, .int .i64 v.n, .string v.text, .slice (some ⟨g6, 0, none⟩) (v.prev.length + 1) cap6, .int .i64 v.time]]) (by simp [results, Try.results11, go_sem, hq0, hq1]) rfl ?_
      exact same_drew (same_end (HD.out.setb 7 _) rfl (by simp) (by omega) (by omega) _ _ _ _ _ _ _ _ _ _ _ _ _ _ _ _ _ _ _ _ _ _ _ _ _ _ _ _ _ _ _ _ _ _)
    have b1 : (r5 == 1) = false := by simp [c1]
    by_cases c2 : r5 = 2
    · have b2 : (r5 == 2) = true := by simp [c2]
      clear c0 c1 c2
      have F := HD.out
      obtain ⟨r0, z0, h0⟩ := F.res
      obtain ⟨r1, z1, h1⟩ := F.res1
      obtain ⟨s0, s1, s2, s3, s4, s5, s6, s7, s8, rfl⟩ := array9 z0
      obtain ⟨t0, t1, t2, t3, t4, t5, t6, t7, t8, rfl⟩ := array9 z1
      have ha : ∀ k, w5.cell? ⟨w2.heap.size, k, none⟩ = #[.int .i64 v.id, .int .i64 v.room, .int .i64 v.author, .int .i64 v.kind, .int .i64 v.key, .int .i64 v.n, .string v.text, .slice p v.prev.length cp, .int .i64 v.time][k]? := fun k => cell_of_heap F.a
      have hb : ∀ k, w5.cell? ⟨w3.heap.size, k, none⟩ = #[.int .i64 v.id, .int .i64 v.room, .int .i64 v.author, .int .i64 v.kind, .int .i64 v.key, .int .i64 v.n, .string v.text, .slice q v.prev.length cq, .int .i64 v.time][k]? := fun k => cell_of_heap F.b
      have hq0 : ∀ k, w5.cell? ⟨w.heap.size, k, none⟩ = _ := fun k => cell_of_heap h0
      have hq1 : ∀ k, w5.cell? ⟨w.heap.size + 1, k, none⟩ = _ := fun k => cell_of_heap h1
      have fb : ∀ k, w5.frozen? ⟨w3.heap.size, k, none⟩ = false := fun k => frozen_of_heap F.b
      have f0 : ∀ k, w5.frozen? ⟨w.heap.size, k, none⟩ = false := fun k => frozen_of_heap h0
      have f1 : ∀ k, w5.frozen? ⟨w.heap.size + 1, k, none⟩ = false := fun k => frozen_of_heap h1
      have hne1 : w.heap.size < w2.heap.size := (by have := F.hg; have := F.hga; omega)
      have hne2 : w.heap.size + 1 < w2.heap.size := (by have := F.hg; have := F.hga; omega)
      have hne3 : w2.heap.size < w3.heap.size := F.hab
      clear F h0 h1
      go_wp2_with fail
      go_region
      all_goals go_wp2
      refine bodyPost_ret (v := .tuple #[.agg #[.int .i64 v.id, .int .i64 v.room, .int .i64 v.author, .int .i64 v.kind, .int .i64 v.key, .int .i64 v.n, .string v.text, .slice p v.prev.length cp, .int .i64 v.time], .agg #[.int .i64 v.id, .int .i64 v.room, .int .i64 v.author, .int .i64 v.kind, .int .i64 v.key, .int .i64 v.n, .string (v.text ++ ⟨#[120]⟩), .slice q v.prev.length cq, .int .i64 v.time]]) (by simp [results, Try.results11, go_sem, hq0, hq1]) rfl ?_
      exact same_drew (same_end (HD.out.setb 6 _) rfl rfl (by omega) (by omega) _ _ _ _ _ _ _ _ _ _ _ _ _ _ _ _ _ _ _ _ _ _ _ _ _ _ _ _ _ _ _ _ _ _)
    have b2 : (r5 == 2) = false := by simp [c2]
    clear c0 c1 c2
    go_wp2_with fail
    refine (draw_event (w.heap.size + 2) g _ HD.out.src).mono ?_
    rintro e w6 ⟨u, q2, cq2, rfl, hn6, hl6, -, hs6, hg6⟩
    have HD : Hid (DS w w.heap.size g w2.heap.size w3.heap.size #[.int .i64 v.id, .int .i64 v.room, .int .i64 v.author, .int .i64 v.kind, .int .i64 v.key, .int .i64 v.n, .string v.text, .slice p v.prev.length cp, .int .i64 v.time] #[.int .i64 v.id, .int .i64 v.room, .int .i64 v.author, .int .i64 v.kind, .int .i64 v.key, .int .i64 v.n, .string v.text, .slice q v.prev.length cq, .int .i64 v.time] p v.prev.length cp v.prev q2 u.prev.length cq2 (u.prev) w6) := (HD.out.num hs6 hg6).row (owns_base hn6 (by have := HD.out.hab; have := HD.out.lt; omega)) (fun k hk => by have := (hn6.lt k hk).1; have := HD.out.lt; omega)
    clear hn6 hs6 hg6
    have F := HD.out
    obtain ⟨r0, z0, h0⟩ := F.res
    obtain ⟨r1, z1, h1⟩ := F.res1
    obtain ⟨s0, s1, s2, s3, s4, s5, s6, s7, s8, rfl⟩ := array9 z0
    obtain ⟨t0, t1, t2, t3, t4, t5, t6, t7, t8, rfl⟩ := array9 z1
    have ha : ∀ k, w6.cell? ⟨w2.heap.size, k, none⟩ = #[.int .i64 v.id, .int .i64 v.room, .int .i64 v.author, .int .i64 v.kind, .int .i64 v.key, .int .i64 v.n, .string v.text, .slice p v.prev.length cp, .int .i64 v.time][k]? := fun k => cell_of_heap F.a
    have hb : ∀ k, w6.cell? ⟨w3.heap.size, k, none⟩ = #[.int .i64 v.id, .int .i64 v.room, .int .i64 v.author, .int .i64 v.kind, .int .i64 v.key, .int .i64 v.n, .string v.text, .slice q v.prev.length cq, .int .i64 v.time][k]? := fun k => cell_of_heap F.b
    have hq0 : ∀ k, w6.cell? ⟨w.heap.size, k, none⟩ = _ := fun k => cell_of_heap h0
    have hq1 : ∀ k, w6.cell? ⟨w.heap.size + 1, k, none⟩ = _ := fun k => cell_of_heap h1
    have fb : ∀ k, w6.frozen? ⟨w3.heap.size, k, none⟩ = false := fun k => frozen_of_heap F.b
    have f0 : ∀ k, w6.frozen? ⟨w.heap.size, k, none⟩ = false := fun k => frozen_of_heap h0
    have f1 : ∀ k, w6.frozen? ⟨w.heap.size + 1, k, none⟩ = false := fun k => frozen_of_heap h1
    have hne1 : w.heap.size < w2.heap.size := (by have := F.hg; have := F.hga; omega)
    have hne2 : w.heap.size + 1 < w2.heap.size := (by have := F.hg; have := F.hga; omega)
    have hne3 : w2.heap.size < w3.heap.size := F.hab
    clear F h0 h1
    go_wp2_with fail
    go_region
    all_goals go_wp2
    refine bodyPost_ret (v := .tuple #[.agg #[.int .i64 v.id, .int .i64 v.room, .int .i64 v.author, .int .i64 v.kind, .int .i64 v.key, .int .i64 v.n, .string v.text, .slice p v.prev.length cp, .int .i64 v.time], .agg #[.int .i64 u.id, .int .i64 u.room, .int .i64 u.author, .int .i64 u.kind, .int .i64 u.key, .int .i64 u.n, .string u.text, .slice q2 u.prev.length cq2, .int .i64 u.time]]) (by simp [results, Try.results11, go_sem, hq0, hq1]) rfl ?_
    exact same_drew (same_end (((((((((HD.out.setb 0 _).setb 1 _).setb 2 _).setb 3 _).setb 4 _).setb 5 _).setb 6 _).setb 7 _).setb 8 _) rfl rfl (by omega) (by omega) _ _ _ _ _ _ _ _ _ _ _ _ _ _ _ _ _ _ _ _ _ _ _ _ _ _ _ _ _ _ _ _ _ _)
  · have F := HD.out
    obtain ⟨r0, z0, h0⟩ := F.res
    obtain ⟨r1, z1, h1⟩ := F.res1
    obtain ⟨s0, s1, s2, s3, s4, s5, s6, s7, s8, rfl⟩ := array9 z0
    obtain ⟨t0, t1, t2, t3, t4, t5, t6, t7, t8, rfl⟩ := array9 z1
    have ha : ∀ k, w4.cell? ⟨w2.heap.size, k, none⟩ = #[.int .i64 v.id, .int .i64 v.room, .int .i64 v.author, .int .i64 v.kind, .int .i64 v.key, .int .i64 v.n, .string v.text, .slice p v.prev.length cp, .int .i64 v.time][k]? := fun k => cell_of_heap F.a
    have hb : ∀ k, w4.cell? ⟨w3.heap.size, k, none⟩ = #[.int .i64 v.id, .int .i64 v.room, .int .i64 v.author, .int .i64 v.kind, .int .i64 v.key, .int .i64 v.n, .string v.text, .slice q v.prev.length cq, .int .i64 v.time][k]? := fun k => cell_of_heap F.b
    have hq0 : ∀ k, w4.cell? ⟨w.heap.size, k, none⟩ = _ := fun k => cell_of_heap h0
    have hq1 : ∀ k, w4.cell? ⟨w.heap.size + 1, k, none⟩ = _ := fun k => cell_of_heap h1
    have fb : ∀ k, w4.frozen? ⟨w3.heap.size, k, none⟩ = false := fun k => frozen_of_heap F.b
    have f0 : ∀ k, w4.frozen? ⟨w.heap.size, k, none⟩ = false := fun k => frozen_of_heap h0
    have f1 : ∀ k, w4.frozen? ⟨w.heap.size + 1, k, none⟩ = false := fun k => frozen_of_heap h1
    have hne1 : w.heap.size < w2.heap.size := (by have := F.hg; have := F.hga; omega)
    have hne2 : w.heap.size + 1 < w2.heap.size := (by have := F.hg; have := F.hga; omega)
    have hne3 : w2.heap.size < w3.heap.size := F.hab
    clear F h0 h1
    go_wp2_with fail
    go_region
    all_goals go_wp2
    refine bodyPost_ret (v := .tuple #[.agg #[.int .i64 v.id, .int .i64 v.room, .int .i64 v.author, .int .i64 v.kind, .int .i64 v.key, .int .i64 v.n, .string v.text, .slice p v.prev.length cp, .int .i64 v.time], .agg #[.int .i64 v.id, .int .i64 v.room, .int .i64 v.author, .int .i64 v.kind, .int .i64 v.key, .int .i64 v.n, .string v.text, .slice q v.prev.length cq, .int .i64 v.time]]) (by simp [results, Try.results11, go_sem, hq0, hq1]) rfl ?_
    exact same_drew (same_end (HD.out) rfl rfl (by omega) (by omega) _ _ _ _ _ _ _ _ _ _ _ _ _ _ _ _ _ _ _ _ _ _ _ _ _ _ _ _ _ _ _ _ _ _)

end Go.Proofs.Ytjdkenopfnepaaa
