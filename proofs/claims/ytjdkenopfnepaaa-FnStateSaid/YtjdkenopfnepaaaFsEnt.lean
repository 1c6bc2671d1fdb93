/- The draw of an entry. -/
import Derived.Test.YtjdkenopfnepaaaDrawEv
import Derived.Test.YtjdkenopfnepaaaSuPut
import Derived.Deep.DeepCutAuto
namespace Go.Proofs.Ytjdkenopfnepaaa
open Go.RowKit

/-- What is drawn of an entry: small numbers. -/
def EnD (x : En) : Prop := (-10 ≤ x.kind ∧ x.kind ≤ 10000000) ∧ (-10 ≤ x.key ∧ x.key ≤ 10000000) ∧ (-10 ≤ x.id ∧ x.id ≤ 10000000)
def EntPost (base g : Nat) (w : World) (e : Ending) (w' : World) : Prop :=
  ∃ x : En, e = .returned (.agg #[.int .i64 x.kind, .int .i64 x.key, .int .i64 x.id]) ∧ EnD x ∧ SrcAt w' base g ∧ w.grownBy w' (some g)
/-- While an entry is drawn: the source, the entry's variable (block b), the result's. -/
structure XE (w : World) (base g b : Nat) (x : En) (W : World) : Prop where
  src : SrcAt W base g
  box : W.heap[b]? = some (.cells #[.int .i64 x.kind, .int .i64 x.key, .int .i64 x.id] 40 (0, 0))
  res : ∃ c0 c1 c2, W.heap[w.heap.size]? = some (.cells #[c0, c1, c2] 40 (0, 0))
  grown : w.grownBy W (some g)
  lt : g < w.heap.size
  ge : w.heap.size < b
theorem XE.num {w : World} {base g b : Nat} {x : En} {W w1 : World} (h : XE w base g b x W) (hs : SrcAt w1 base g) (hg : W.grownBy w1 (some g)) : XE w base g b x w1 := by
  obtain ⟨c0, c1, c2, h3⟩ := h.res
  have l2 := (Array.getElem?_eq_some_iff.1 h.box).1
  have l3 := (Array.getElem?_eq_some_iff.1 h3).1
  have h5 := h.lt
  have h6 := h.ge
  exact ⟨hs, (hg.block _ l2 (by simp; omega)).trans h.box, ⟨c0, c1, c2, (hg.block _ l3 (by simp; omega)).trans h3⟩, h.grown.trans hg, h5, h6⟩
theorem grown_setOwn {w W : World} {g b k : Nat} {v : Value} (h : w.grownBy W (some g)) (hb : w.heap.size ≤ b) : w.grownBy (W.setCell ⟨b, k, none⟩ v) (some g) :=
  ⟨h.os, h.tape, h.output, by simpa [World.setCell] using h.size, fun q hq hq2 => (Below.heap_setCell _ _ _ _ (by simp; omega)).trans (h.block q hq hq2)⟩
theorem XE.base {w : World} {base g b : Nat} {x : En} {W : World} (h : XE w base g b x W) : base ≤ w.heap.size := Nat.le_trans h.src.1 (Nat.le_of_lt h.lt)
theorem XE.set0 {w : World} {base g b : Nat} {x : En} {W : World} (h : XE w base g b x W) (v : Int) : XE w base g b ⟨v, x.key, x.id⟩ (W.setCell ⟨b, 0, none⟩ (.int .i64 v)) := by
  have hB := h.base
  have h5 := h.lt
  have h6 := h.ge
  obtain ⟨c0, c1, c2, h3⟩ := h.res
  exact ⟨h.src.set (by simp; omega) (by simp; omega) _, heap_set h.box _, ⟨c0, c1, c2, (Below.heap_setCell _ _ _ _ (by simp; omega)).trans h3⟩, grown_setOwn h.grown (by omega), h5, h6⟩
theorem XE.set1 {w : World} {base g b : Nat} {x : En} {W : World} (h : XE w base g b x W) (v : Int) : XE w base g b ⟨x.kind, v, x.id⟩ (W.setCell ⟨b, 1, none⟩ (.int .i64 v)) := by
  have hB := h.base
  have h5 := h.lt
  have h6 := h.ge
  obtain ⟨c0, c1, c2, h3⟩ := h.res
  exact ⟨h.src.set (by simp; omega) (by simp; omega) _, heap_set h.box _, ⟨c0, c1, c2, (Below.heap_setCell _ _ _ _ (by simp; omega)).trans h3⟩, grown_setOwn h.grown (by omega), h5, h6⟩
theorem XE.set2 {w : World} {base g b : Nat} {x : En} {W : World} (h : XE w base g b x W) (v : Int) : XE w base g b ⟨x.kind, x.key, v⟩ (W.setCell ⟨b, 2, none⟩ (.int .i64 v)) := by
  have hB := h.base
  have h5 := h.lt
  have h6 := h.ge
  obtain ⟨c0, c1, c2, h3⟩ := h.res
  exact ⟨h.src.set (by simp; omega) (by simp; omega) _, heap_set h.box _, ⟨c0, c1, c2, (Below.heap_setCell _ _ _ _ (by simp; omega)).trans h3⟩, grown_setOwn h.grown (by omega), h5, h6⟩
theorem XE.out {w : World} {base g b : Nat} {x : En} {W : World} (h : XE w base g b x W) (k : Nat) (v : Value) : XE w base g b x (W.setCell ⟨w.heap.size, k, none⟩ v) := by
  have hB := h.base
  have h5 := h.lt
  have h6 := h.ge
  obtain ⟨c0, c1, c2, h3⟩ := h.res
  refine ⟨h.src.set (by simpa using hB) (by simp; omega) _, (Below.heap_setCell _ _ _ _ (by simp; omega)).trans h.box, ?_, grown_setOwn h.grown (Nat.le_refl _), h5, h6⟩
  have := heap_set h3 (i := k) v
  match k, this with
  | 0, t => exact ⟨_, _, _, t⟩
  | 1, t => exact ⟨_, _, _, t⟩
  | 2, t => exact ⟨_, _, _, t⟩
  | k + 3, t => exact ⟨_, _, _, by simpa using t⟩
theorem XE.alloc {w : World} {base g b : Nat} {x : En} {W : World} (h : XE w base g b x W) (o : Obj) : XE w base g b x (W.alloc o) := by
  obtain ⟨c0, c1, c2, h3⟩ := h.res
  exact ⟨h.src.alloc o, (Below.heap_alloc _ _ _ (Array.getElem?_eq_some_iff.1 h.box).1).trans h.box, ⟨c0, c1, c2, (Below.heap_alloc _ _ _ (Array.getElem?_eq_some_iff.1 h3).1).trans h3⟩, h.grown.trans (World.grownBy_alloc _ _ _), h.lt, h.ge⟩
theorem XE.start {w W : World} {base g : Nat} (hs : SrcAt W base g) (hg : (w.alloc (.cells #[.int .i64 0, .int .i64 0, .int .i64 0] 40)).grownBy W (some g)) (hl : g < w.heap.size) (x : En) :
    XE w base g W.heap.size x (W.alloc (.cells #[.int .i64 x.kind, .int .i64 x.key, .int .i64 x.id] 40)) := by
  have hz := hg.size
  simp at hz
  have h3 : W.heap[w.heap.size]? = some (.cells #[.int .i64 0, .int .i64 0, .int .i64 0] 40 (0, 0)) := (hg.block _ (by simp) (by simp; omega)).trans (MapKept.heap_alloc w _).1
  exact ⟨hs.alloc _, (MapKept.heap_alloc W _).1, ⟨_, _, _, (Below.heap_alloc _ _ _ (Array.getElem?_eq_some_iff.1 h3).1).trans h3⟩, ((World.grownBy_alloc w _ _).trans hg).trans (World.grownBy_alloc _ _ _), hl, by omega⟩
set_option maxHeartbeats 4000000 in
set_option maxRecDepth 100000 in
theorem draw_entry (base g : Nat) (w : World) (hs : SrcAt w base g) :
    Calls Try.prog 74 #[.pointer (some ⟨g, 0, none⟩)] w (EntPost base g w) := by
  have hgl := hs.lt
  have HS : Hid (∀ o, SrcAt (w.alloc o) base g) := fun o => hs.alloc o
  clear hs
  go_enter Try.func74, Try.ntmps74
  go_wp2_with fail
  refine (draw_n base g 6 _ (HS.out _) (by omega)).mono ?_
  rintro e w1 ⟨r1, rfl, p0, p1, -, hs1, hg1, hz1⟩
  have q1 : r1 < 6 := p1 (by omega)
  have H1 : Hid (SrcAt w1 base g) := hs1
  have HG1 : Hid ((w.alloc (.cells #[.int .i64 0, .int .i64 0, .int .i64 0] 40)).grownBy w1 (some g)) := hg1
  clear hs1 hg1 hz1 p1
  go_wp2_with fail
  refine (draw_n base g 9 _ H1.out (by omega)).mono ?_
  rintro e w2 ⟨r2, rfl, p2, p3, -, hs2, hg2, hz2⟩
  have q2 : r2 < 9 := p3 (by omega)
  have HX : Hid (XE w base g w2.heap.size ⟨1 + r1, 0, 1 + r2⟩ (w2.alloc (.cells #[.int .i64 (1 + r1), .int .i64 0, .int .i64 (1 + r2)] 40))) := XE.start hs2 (HG1.out.trans hg2) hgl ⟨1 + r1, 0, 1 + r2⟩
  clear hs2 hg2 hz2 p3
  cases h2 : ((1 + r1 : Int) == 2)
  · cases h3 : ((1 + r1 : Int) == 3)
    · go_wp2_with fail
      refine (draw_one base g 20 _ HX.out.src (by omega)).mono ?_
      rintro e w3 ⟨b3, rfl, hs3, hg3, -⟩
      have HZ : ∃ x, EnD x ∧ Hid (XE w base g w2.heap.size x w3) := ⟨⟨1 + r1, 0, 1 + r2⟩, ⟨⟨by simp only; omega, by simp only; omega⟩, ⟨by simp only; omega, by simp only; omega⟩, ⟨by simp only; omega, by simp only; omega⟩⟩, HX.out.num hs3 hg3⟩
      obtain ⟨x, hd, HX3⟩ := HZ
      go_upto_if 24 with fail
      go_cut [3] (fun s W => ∃ x, s = .pointer (some ⟨w2.heap.size, 0, none⟩) ∧ EnD x ∧ Hid (XE w base g w2.heap.size x W))
      case first =>
        cases b3
        · go_wp2_with fail
          go_meet
          exact ⟨x, rfl, hd, HX3⟩
        · go_wp2_with fail
          refine (draw_n base g 3 _ HX3.out.src (by omega)).mono ?_
          rintro e w4 ⟨r4, rfl, p6, p7, -, hs4, hg4, hz4⟩
          have q4 : r4 < 3 := p7 (by omega)
          have HX4 : Hid (XE w base g w2.heap.size x w4) := HX3.out.num hs4 hg4
          have hgl4 : g < w4.heap.size := hs4.lt
          have HXL : Hid (∀ o, XE w base g w2.heap.size x (w4.alloc o)) := fun o => HX4.out.alloc o
          clear hs4 hg4 hz4 p7 HX3
          obtain ⟨m, rfl⟩ := Int.eq_ofNat_of_zero_le p6
          rcases (show m = 0 ∨ m = 1 ∨ m = 2 by omega) with rfl | rfl | rfl
          · go_wp2_with fail
            refine (draw_n base g 9 _ HX4.out.src (by omega)).mono ?_
            rintro e w5 ⟨r5, rfl, p8, p9, -, hs5, hg5, hz5⟩
            have q5 : r5 < 9 := p9 (by omega)
            have HY := HX4.out.num hs5 hg5
            have cf : w5.cell? ⟨w2.heap.size, 0, none⟩ = some (.int .i64 x.kind) := cell_of_heap HY.box
            have ff : w5.frozen? ⟨w2.heap.size, 0, none⟩ = false := frozen_of_heap HY.box
            have HX5 : Hid (XE w base g w2.heap.size ⟨r5, x.key, x.id⟩ (w5.setCell ⟨w2.heap.size, 0, none⟩ (.int .i64 r5))) := HY.set0 r5
            clear HY hs5 hg5 hz5 p9
            obtain ⟨⟨dk0, dk1⟩, ⟨dy0, dy1⟩, ⟨di0, di1⟩⟩ := hd
            go_wp2_with fail
            go_meet
            exact ⟨⟨r5, x.key, x.id⟩, rfl, ⟨⟨by simp only; omega, by simp only; omega⟩, ⟨by simp only; omega, by simp only; omega⟩, ⟨by simp only; omega, by simp only; omega⟩⟩, HX5⟩
          · go_wp2_with fail
            refine (draw_n base g 3 _ (HXL.out _).src (by omega)).mono ?_
            rintro e w5 ⟨r5, rfl, p8, p9, -, hs5, hg5, hz5⟩
            have q5 : r5 < 3 := p9 (by omega)
            have HY := (HXL.out _).num hs5 hg5
            have hb5 : ∀ o, w5.cell? ⟨w4.heap.size, o, none⟩ = (w4.alloc (.cells _ _)).cell? ⟨w4.heap.size, o, none⟩ := fun o => World.cell?_of_block (hg5.block w4.heap.size (by simp) (by simp; omega))
            have cf : w5.cell? ⟨w2.heap.size, 1, none⟩ = some (.int .i64 x.key) := cell_of_heap HY.box
            have ff : w5.frozen? ⟨w2.heap.size, 1, none⟩ = false := frozen_of_heap HY.box
            have HX5 : Hid (∀ v, XE w base g w2.heap.size ⟨x.kind, v, x.id⟩ (w5.setCell ⟨w2.heap.size, 1, none⟩ (.int .i64 v))) := fun v => HY.set1 v
            clear HY hs5 hg5 hz5 p9
            obtain ⟨n, rfl⟩ := Int.eq_ofNat_of_zero_le p8
            obtain ⟨⟨dk0, dk1⟩, ⟨dy0, dy1⟩, ⟨di0, di1⟩⟩ := hd
            rcases (show n = 0 ∨ n = 1 ∨ n = 2 by omega) with rfl | rfl | rfl
            · go_wp2_with fail
              go_meet
              exact ⟨⟨x.kind, (-1), x.id⟩, rfl, ⟨⟨by simp only; omega, by simp only; omega⟩, ⟨by simp only; omega, by simp only; omega⟩, ⟨by simp only; omega, by simp only; omega⟩⟩, HX5.out _⟩
            · go_wp2_with fail
              go_meet
              exact ⟨⟨x.kind, (6), x.id⟩, rfl, ⟨⟨by simp only; omega, by simp only; omega⟩, ⟨by simp only; omega, by simp only; omega⟩, ⟨by simp only; omega, by simp only; omega⟩⟩, HX5.out _⟩
            · go_wp2_with fail
              go_meet
              exact ⟨⟨x.kind, (7), x.id⟩, rfl, ⟨⟨by simp only; omega, by simp only; omega⟩, ⟨by simp only; omega, by simp only; omega⟩, ⟨by simp only; omega, by simp only; omega⟩⟩, HX5.out _⟩
          · go_wp2_with fail
            refine (draw_n base g 4 _ (HXL.out _).src (by omega)).mono ?_
            rintro e w5 ⟨r5, rfl, p8, p9, -, hs5, hg5, hz5⟩
            have q5 : r5 < 4 := p9 (by omega)
            have HY := (HXL.out _).num hs5 hg5
            have hb5 : ∀ o, w5.cell? ⟨w4.heap.size, o, none⟩ = (w4.alloc (.cells _ _)).cell? ⟨w4.heap.size, o, none⟩ := fun o => World.cell?_of_block (hg5.block w4.heap.size (by simp) (by simp; omega))
            have cf : w5.cell? ⟨w2.heap.size, 2, none⟩ = some (.int .i64 x.id) := cell_of_heap HY.box
            have ff : w5.frozen? ⟨w2.heap.size, 2, none⟩ = false := frozen_of_heap HY.box
            have HX5 : Hid (∀ v, XE w base g w2.heap.size ⟨x.kind, x.key, v⟩ (w5.setCell ⟨w2.heap.size, 2, none⟩ (.int .i64 v))) := fun v => HY.set2 v
            clear HY hs5 hg5 hz5 p9
            obtain ⟨n, rfl⟩ := Int.eq_ofNat_of_zero_le p8
            obtain ⟨⟨dk0, dk1⟩, ⟨dy0, dy1⟩, ⟨di0, di1⟩⟩ := hd
            rcases (show n = 0 ∨ n = 1 ∨ n = 2 ∨ n = 3 by omega) with rfl | rfl | rfl | rfl
            · go_wp2_with fail
              go_meet
              exact ⟨⟨x.kind, x.key, (0)⟩, rfl, ⟨⟨by simp only; omega, by simp only; omega⟩, ⟨by simp only; omega, by simp only; omega⟩, ⟨by simp only; omega, by simp only; omega⟩⟩, HX5.out _⟩
            · go_wp2_with fail
              go_meet
              exact ⟨⟨x.kind, x.key, (-1)⟩, rfl, ⟨⟨by simp only; omega, by simp only; omega⟩, ⟨by simp only; omega, by simp only; omega⟩, ⟨by simp only; omega, by simp only; omega⟩⟩, HX5.out _⟩
            · go_wp2_with fail
              go_meet
              exact ⟨⟨x.kind, x.key, (1000000)⟩, rfl, ⟨⟨by simp only; omega, by simp only; omega⟩, ⟨by simp only; omega, by simp only; omega⟩, ⟨by simp only; omega, by simp only; omega⟩⟩, HX5.out _⟩
            · go_wp2_with fail
              go_meet
              exact ⟨⟨x.kind, x.key, (1000001)⟩, rfl, ⟨⟨by simp only; omega, by simp only; omega⟩, ⟨by simp only; omega, by simp only; omega⟩, ⟨by simp only; omega, by simp only; omega⟩⟩, HX5.out _⟩
      case rest =>
        obtain ⟨x, rfl, hd, HX⟩ := hcut
        have hx := HX.out
        obtain ⟨u0, u1, u2, hh⟩ := hx.res
        have a0 : wc.cell? ⟨w2.heap.size, 0, none⟩ = some (.int .i64 x.kind) := cell_of_heap hx.box
        have a1 : wc.cell? ⟨w2.heap.size, 1, none⟩ = some (.int .i64 x.key) := cell_of_heap hx.box
        have a2 : wc.cell? ⟨w2.heap.size, 2, none⟩ = some (.int .i64 x.id) := cell_of_heap hx.box
        have v0 : wc.cell? ⟨w.heap.size, 0, none⟩ = some u0 := cell_of_heap hh
        have v1 : wc.cell? ⟨w.heap.size, 1, none⟩ = some u1 := cell_of_heap hh
        have v2 : wc.cell? ⟨w.heap.size, 2, none⟩ = some u2 := cell_of_heap hh
        have fr : ∀ o, wc.frozen? ⟨w.heap.size, o, none⟩ = false := fun o => frozen_of_heap hh
        clear hx hh
        go_wp2
        refine bodyPost_ret (v := .agg #[.int .i64 x.kind, .int .i64 x.key, .int .i64 x.id]) (by simp [results, Try.results74, go_sem, v0, v1, v2]) rfl ⟨x, rfl, hd, (((HX.out.out 0 _).out 1 _).out 2 _).src, (((HX.out.out 0 _).out 1 _).out 2 _).grown⟩
    · go_wp2_with fail
      refine (draw_n base g 4 _ HX.out.src (by omega)).mono ?_
      rintro e w3 ⟨r3, rfl, p4, p5, -, hs3, hg3, hz3⟩
      have q3 : r3 < 4 := p5 (by omega)
      have HY := HX.out.num hs3 hg3
      have c1 : w3.cell? ⟨w2.heap.size, 1, none⟩ = some (.int .i64 0) := cell_of_heap HY.box
      have f1 : w3.frozen? ⟨w2.heap.size, 1, none⟩ = false := frozen_of_heap HY.box
      have HX3 : Hid (XE w base g w2.heap.size ⟨1 + r1, 1 + r3, 1 + r2⟩ (w3.setCell ⟨w2.heap.size, 1, none⟩ (.int .i64 (1 + r3)))) := HY.set1 _
      clear HY hs3 hg3 hz3 p5
      go_wp2_with fail
      refine (draw_one base g 20 _ HX3.out.src (by omega)).mono ?_
      rintro e w4 ⟨b3, rfl, hs4, hg4, -⟩
      have HZ : ∃ x, EnD x ∧ Hid (XE w base g w2.heap.size x w4) := ⟨⟨1 + r1, 1 + r3, 1 + r2⟩, ⟨⟨by simp only; omega, by simp only; omega⟩, ⟨by simp only; omega, by simp only; omega⟩, ⟨by simp only; omega, by simp only; omega⟩⟩, HX3.out.num hs4 hg4⟩
      obtain ⟨x, hd, HX3⟩ := HZ
      go_upto_if 24 with fail
      go_cut [3] (fun s W => ∃ x, s = .pointer (some ⟨w2.heap.size, 0, none⟩) ∧ EnD x ∧ Hid (XE w base g w2.heap.size x W))
      case first =>
        cases b3
        · go_wp2_with fail
          go_meet
          exact ⟨x, rfl, hd, HX3⟩
        · go_wp2_with fail
          refine (draw_n base g 3 _ HX3.out.src (by omega)).mono ?_
          rintro e w4 ⟨r4, rfl, p6, p7, -, hs4, hg4, hz4⟩
          have q4 : r4 < 3 := p7 (by omega)
          have HX4 : Hid (XE w base g w2.heap.size x w4) := HX3.out.num hs4 hg4
          have hgl4 : g < w4.heap.size := hs4.lt
          have HXL : Hid (∀ o, XE w base g w2.heap.size x (w4.alloc o)) := fun o => HX4.out.alloc o
          clear hs4 hg4 hz4 p7 HX3
          obtain ⟨m, rfl⟩ := Int.eq_ofNat_of_zero_le p6
          rcases (show m = 0 ∨ m = 1 ∨ m = 2 by omega) with rfl | rfl | rfl
          · go_wp2_with fail
            refine (draw_n base g 9 _ HX4.out.src (by omega)).mono ?_
            rintro e w5 ⟨r5, rfl, p8, p9, -, hs5, hg5, hz5⟩
            have q5 : r5 < 9 := p9 (by omega)
            have HY := HX4.out.num hs5 hg5
            have cf : w5.cell? ⟨w2.heap.size, 0, none⟩ = some (.int .i64 x.kind) := cell_of_heap HY.box
            have ff : w5.frozen? ⟨w2.heap.size, 0, none⟩ = false := frozen_of_heap HY.box
            have HX5 : Hid (XE w base g w2.heap.size ⟨r5, x.key, x.id⟩ (w5.setCell ⟨w2.heap.size, 0, none⟩ (.int .i64 r5))) := HY.set0 r5
            clear HY hs5 hg5 hz5 p9
            obtain ⟨⟨dk0, dk1⟩, ⟨dy0, dy1⟩, ⟨di0, di1⟩⟩ := hd
            go_wp2_with fail
            go_meet
            exact ⟨⟨r5, x.key, x.id⟩, rfl, ⟨⟨by simp only; omega, by simp only; omega⟩, ⟨by simp only; omega, by simp only; omega⟩, ⟨by simp only; omega, by simp only; omega⟩⟩, HX5⟩
          · go_wp2_with fail
            refine (draw_n base g 3 _ (HXL.out _).src (by omega)).mono ?_
            rintro e w5 ⟨r5, rfl, p8, p9, -, hs5, hg5, hz5⟩
            have q5 : r5 < 3 := p9 (by omega)
            have HY := (HXL.out _).num hs5 hg5
            have hb5 : ∀ o, w5.cell? ⟨w4.heap.size, o, none⟩ = (w4.alloc (.cells _ _)).cell? ⟨w4.heap.size, o, none⟩ := fun o => World.cell?_of_block (hg5.block w4.heap.size (by simp) (by simp; omega))
            have cf : w5.cell? ⟨w2.heap.size, 1, none⟩ = some (.int .i64 x.key) := cell_of_heap HY.box
            have ff : w5.frozen? ⟨w2.heap.size, 1, none⟩ = false := frozen_of_heap HY.box
            have HX5 : Hid (∀ v, XE w base g w2.heap.size ⟨x.kind, v, x.id⟩ (w5.setCell ⟨w2.heap.size, 1, none⟩ (.int .i64 v))) := fun v => HY.set1 v
            clear HY hs5 hg5 hz5 p9
            obtain ⟨n, rfl⟩ := Int.eq_ofNat_of_zero_le p8
            obtain ⟨⟨dk0, dk1⟩, ⟨dy0, dy1⟩, ⟨di0, di1⟩⟩ := hd
            rcases (show n = 0 ∨ n = 1 ∨ n = 2 by omega) with rfl | rfl | rfl
            · go_wp2_with fail
              go_meet
              exact ⟨⟨x.kind, (-1), x.id⟩, rfl, ⟨⟨by simp only; omega, by simp only; omega⟩, ⟨by simp only; omega, by simp only; omega⟩, ⟨by simp only; omega, by simp only; omega⟩⟩, HX5.out _⟩
            · go_wp2_with fail
              go_meet
              exact ⟨⟨x.kind, (6), x.id⟩, rfl, ⟨⟨by simp only; omega, by simp only; omega⟩, ⟨by simp only; omega, by simp only; omega⟩, ⟨by simp only; omega, by simp only; omega⟩⟩, HX5.out _⟩
            · go_wp2_with fail
              go_meet
              exact ⟨⟨x.kind, (7), x.id⟩, rfl, ⟨⟨by simp only; omega, by simp only; omega⟩, ⟨by simp only; omega, by simp only; omega⟩, ⟨by simp only; omega, by simp only; omega⟩⟩, HX5.out _⟩
          · go_wp2_with fail
            refine (draw_n base g 4 _ (HXL.out _).src (by omega)).mono ?_
            rintro e w5 ⟨r5, rfl, p8, p9, -, hs5, hg5, hz5⟩
            have q5 : r5 < 4 := p9 (by omega)
            have HY := (HXL.out _).num hs5 hg5
            have hb5 : ∀ o, w5.cell? ⟨w4.heap.size, o, none⟩ = (w4.alloc (.cells _ _)).cell? ⟨w4.heap.size, o, none⟩ := fun o => World.cell?_of_block (hg5.block w4.heap.size (by simp) (by simp; omega))
            have cf : w5.cell? ⟨w2.heap.size, 2, none⟩ = some (.int .i64 x.id) := cell_of_heap HY.box
            have ff : w5.frozen? ⟨w2.heap.size, 2, none⟩ = false := frozen_of_heap HY.box
            have HX5 : Hid (∀ v, XE w base g w2.heap.size ⟨x.kind, x.key, v⟩ (w5.setCell ⟨w2.heap.size, 2, none⟩ (.int .i64 v))) := fun v => HY.set2 v
            clear HY hs5 hg5 hz5 p9
            obtain ⟨n, rfl⟩ := Int.eq_ofNat_of_zero_le p8
            obtain ⟨⟨dk0, dk1⟩, ⟨dy0, dy1⟩, ⟨di0, di1⟩⟩ := hd
            rcases (show n = 0 ∨ n = 1 ∨ n = 2 ∨ n = 3 by omega) with rfl | rfl | rfl | rfl
            · go_wp2_with fail
              go_meet
              exact ⟨⟨x.kind, x.key, (0)⟩, rfl, ⟨⟨by simp only; omega, by simp only; omega⟩, ⟨by simp only; omega, by simp only; omega⟩, ⟨by simp only; omega, by simp only; omega⟩⟩, HX5.out _⟩
            · go_wp2_with fail
              go_meet
              exact ⟨⟨x.kind, x.key, (-1)⟩, rfl, ⟨⟨by simp only; omega, by simp only; omega⟩, ⟨by simp only; omega, by simp only; omega⟩, ⟨by simp only; omega, by simp only; omega⟩⟩, HX5.out _⟩
            · go_wp2_with fail
              go_meet
              exact ⟨⟨x.kind, x.key, (1000000)⟩, rfl, ⟨⟨by simp only; omega, by simp only; omega⟩, ⟨by simp only; omega, by simp only; omega⟩, ⟨by simp only; omega, by simp only; omega⟩⟩, HX5.out _⟩
            · go_wp2_with fail
              go_meet
              exact ⟨⟨x.kind, x.key, (1000001)⟩, rfl, ⟨⟨by simp only; omega, by simp only; omega⟩, ⟨by simp only; omega, by simp only; omega⟩, ⟨by simp only; omega, by simp only; omega⟩⟩, HX5.out _⟩
      case rest =>
        obtain ⟨x, rfl, hd, HX⟩ := hcut
        have hx := HX.out
        obtain ⟨u0, u1, u2, hh⟩ := hx.res
        have a0 : wc.cell? ⟨w2.heap.size, 0, none⟩ = some (.int .i64 x.kind) := cell_of_heap hx.box
        have a1 : wc.cell? ⟨w2.heap.size, 1, none⟩ = some (.int .i64 x.key) := cell_of_heap hx.box
        have a2 : wc.cell? ⟨w2.heap.size, 2, none⟩ = some (.int .i64 x.id) := cell_of_heap hx.box
        have v0 : wc.cell? ⟨w.heap.size, 0, none⟩ = some u0 := cell_of_heap hh
        have v1 : wc.cell? ⟨w.heap.size, 1, none⟩ = some u1 := cell_of_heap hh
        have v2 : wc.cell? ⟨w.heap.size, 2, none⟩ = some u2 := cell_of_heap hh
        have fr : ∀ o, wc.frozen? ⟨w.heap.size, o, none⟩ = false := fun o => frozen_of_heap hh
        clear hx hh
        go_wp2
        refine bodyPost_ret (v := .agg #[.int .i64 x.kind, .int .i64 x.key, .int .i64 x.id]) (by simp [results, Try.results74, go_sem, v0, v1, v2]) rfl ⟨x, rfl, hd, (((HX.out.out 0 _).out 1 _).out 2 _).src, (((HX.out.out 0 _).out 1 _).out 2 _).grown⟩
  · go_wp2_with fail
    refine (draw_n base g 4 _ HX.out.src (by omega)).mono ?_
    rintro e w3 ⟨r3, rfl, p4, p5, -, hs3, hg3, hz3⟩
    have q3 : r3 < 4 := p5 (by omega)
    have HY := HX.out.num hs3 hg3
    have c1 : w3.cell? ⟨w2.heap.size, 1, none⟩ = some (.int .i64 0) := cell_of_heap HY.box
    have f1 : w3.frozen? ⟨w2.heap.size, 1, none⟩ = false := frozen_of_heap HY.box
    have HX3 : Hid (XE w base g w2.heap.size ⟨1 + r1, 1 + r3, 1 + r2⟩ (w3.setCell ⟨w2.heap.size, 1, none⟩ (.int .i64 (1 + r3)))) := HY.set1 _
    clear HY hs3 hg3 hz3 p5
    go_wp2_with fail
    refine (draw_one base g 20 _ HX3.out.src (by omega)).mono ?_
    rintro e w4 ⟨b3, rfl, hs4, hg4, -⟩
    have HZ : ∃ x, EnD x ∧ Hid (XE w base g w2.heap.size x w4) := ⟨⟨1 + r1, 1 + r3, 1 + r2⟩, ⟨⟨by simp only; omega, by simp only; omega⟩, ⟨by simp only; omega, by simp only; omega⟩, ⟨by simp only; omega, by simp only; omega⟩⟩, HX3.out.num hs4 hg4⟩
    obtain ⟨x, hd, HX3⟩ := HZ
    go_upto_if 24 with fail
    go_cut [3] (fun s W => ∃ x, s = .pointer (some ⟨w2.heap.size, 0, none⟩) ∧ EnD x ∧ Hid (XE w base g w2.heap.size x W))
    case first =>
      cases b3
      · go_wp2_with fail
        go_meet
        exact ⟨x, rfl, hd, HX3⟩
      · go_wp2_with fail
        refine (draw_n base g 3 _ HX3.out.src (by omega)).mono ?_
        rintro e w4 ⟨r4, rfl, p6, p7, -, hs4, hg4, hz4⟩
        have q4 : r4 < 3 := p7 (by omega)
        have HX4 : Hid (XE w base g w2.heap.size x w4) := HX3.out.num hs4 hg4
        have hgl4 : g < w4.heap.size := hs4.lt
        have HXL : Hid (∀ o, XE w base g w2.heap.size x (w4.alloc o)) := fun o => HX4.out.alloc o
        clear hs4 hg4 hz4 p7 HX3
        obtain ⟨m, rfl⟩ := Int.eq_ofNat_of_zero_le p6
        rcases (show m = 0 ∨ m = 1 ∨ m = 2 by omega) with rfl | rfl | rfl
        · go_wp2_with fail
          refine (draw_n base g 9 _ HX4.out.src (by omega)).mono ?_
          rintro e w5 ⟨r5, rfl, p8, p9, -, hs5, hg5, hz5⟩
          have q5 : r5 < 9 := p9 (by omega)
          have HY := HX4.out.num hs5 hg5
          have cf : w5.cell? ⟨w2.heap.size, 0, none⟩ = some (.int .i64 x.kind) := cell_of_heap HY.box
          have ff : w5.frozen? ⟨w2.heap.size, 0, none⟩ = false := frozen_of_heap HY.box
          have HX5 : Hid (XE w base g w2.heap.size ⟨r5, x.key, x.id⟩ (w5.setCell ⟨w2.heap.size, 0, none⟩ (.int .i64 r5))) := HY.set0 r5
          clear HY hs5 hg5 hz5 p9
          obtain ⟨⟨dk0, dk1⟩, ⟨dy0, dy1⟩, ⟨di0, di1⟩⟩ := hd
          go_wp2_with fail
          go_meet
          exact ⟨⟨r5, x.key, x.id⟩, rfl, ⟨⟨by simp only; omega, by simp only; omega⟩, ⟨by simp only; omega, by simp only; omega⟩, ⟨by simp only; omega, by simp only; omega⟩⟩, HX5⟩
        · go_wp2_with fail
          refine (draw_n base g 3 _ (HXL.out _).src (by omega)).mono ?_
          rintro e w5 ⟨r5, rfl, p8, p9, -, hs5, hg5, hz5⟩
          have q5 : r5 < 3 := p9 (by omega)
          have HY := (HXL.out _).num hs5 hg5
          have hb5 : ∀ o, w5.cell? ⟨w4.heap.size, o, none⟩ = (w4.alloc (.cells _ _)).cell? ⟨w4.heap.size, o, none⟩ := fun o => World.cell?_of_block (hg5.block w4.heap.size (by simp) (by simp; omega))
          have cf : w5.cell? ⟨w2.heap.size, 1, none⟩ = some (.int .i64 x.key) := cell_of_heap HY.box
          have ff : w5.frozen? ⟨w2.heap.size, 1, none⟩ = false := frozen_of_heap HY.box
          have HX5 : Hid (∀ v, XE w base g w2.heap.size ⟨x.kind, v, x.id⟩ (w5.setCell ⟨w2.heap.size, 1, none⟩ (.int .i64 v))) := fun v => HY.set1 v
          clear HY hs5 hg5 hz5 p9
          obtain ⟨n, rfl⟩ := Int.eq_ofNat_of_zero_le p8
          obtain ⟨⟨dk0, dk1⟩, ⟨dy0, dy1⟩, ⟨di0, di1⟩⟩ := hd
          rcases (show n = 0 ∨ n = 1 ∨ n = 2 by omega) with rfl | rfl | rfl
          · go_wp2_with fail
            go_meet
            exact ⟨⟨x.kind, (-1), x.id⟩, rfl, ⟨⟨by simp only; omega, by simp only; omega⟩, ⟨by simp only; omega, by simp only; omega⟩, ⟨by simp only; omega, by simp only; omega⟩⟩, HX5.out _⟩
          · go_wp2_with fail
            go_meet
            exact ⟨⟨x.kind, (6), x.id⟩, rfl, ⟨⟨by simp only; omega, by simp only; omega⟩, ⟨by simp only; omega, by simp only; omega⟩, ⟨by simp only; omega, by simp only; omega⟩⟩, HX5.out _⟩
          · go_wp2_with fail
            go_meet
            exact ⟨⟨x.kind, (7), x.id⟩, rfl, ⟨⟨by simp only; omega, by simp only; omega⟩, ⟨by simp only; omega, by simp only; omega⟩, ⟨by simp only; omega, by simp only; omega⟩⟩, HX5.out _⟩
        · go_wp2_with fail
          refine (draw_n base g 4 _ (HXL.out _).src (by omega)).mono ?_
          rintro e w5 ⟨r5, rfl, p8, p9, -, hs5, hg5, hz5⟩
          have q5 : r5 < 4 := p9 (by omega)
          have HY := (HXL.out _).num hs5 hg5
          have hb5 : ∀ o, w5.cell? ⟨w4.heap.size, o, none⟩ = (w4.alloc (.cells _ _)).cell? ⟨w4.heap.size, o, none⟩ := fun o => World.cell?_of_block (hg5.block w4.heap.size (by simp) (by simp; omega))
          have cf : w5.cell? ⟨w2.heap.size, 2, none⟩ = some (.int .i64 x.id) := cell_of_heap HY.box
          have ff : w5.frozen? ⟨w2.heap.size, 2, none⟩ = false := frozen_of_heap HY.box
          have HX5 : Hid (∀ v, XE w base g w2.heap.size ⟨x.kind, x.key, v⟩ (w5.setCell ⟨w2.heap.size, 2, none⟩ (.int .i64 v))) := fun v => HY.set2 v
          clear HY hs5 hg5 hz5 p9
          obtain ⟨n, rfl⟩ := Int.eq_ofNat_of_zero_le p8
          obtain ⟨⟨dk0, dk1⟩, ⟨dy0, dy1⟩, ⟨di0, di1⟩⟩ := hd
          rcases (show n = 0 ∨ n = 1 ∨ n = 2 ∨ n = 3 by omega) with rfl | rfl | rfl | rfl
          · go_wp2_with fail
            go_meet
            exact ⟨⟨x.kind, x.key, (0)⟩, rfl, ⟨⟨by simp only; omega, by simp only; omega⟩, ⟨by simp only; omega, by simp only; omega⟩, ⟨by simp only; omega, by simp only; omega⟩⟩, HX5.out _⟩
          · go_wp2_with fail
            go_meet
            exact ⟨⟨x.kind, x.key, (-1)⟩, rfl, ⟨⟨by simp only; omega, by simp only; omega⟩, ⟨by simp only; omega, by simp only; omega⟩, ⟨by simp only; omega, by simp only; omega⟩⟩, HX5.out _⟩
          · go_wp2_with fail
            go_meet
            exact ⟨⟨x.kind, x.key, (1000000)⟩, rfl, ⟨⟨by simp only; omega, by simp only; omega⟩, ⟨by simp only; omega, by simp only; omega⟩, ⟨by simp only; omega, by simp only; omega⟩⟩, HX5.out _⟩
          · go_wp2_with fail
            go_meet
            exact ⟨⟨x.kind, x.key, (1000001)⟩, rfl, ⟨⟨by simp only; omega, by simp only; omega⟩, ⟨by simp only; omega, by simp only; omega⟩, ⟨by simp only; omega, by simp only; omega⟩⟩, HX5.out _⟩
    case rest =>
      obtain ⟨x, rfl, hd, HX⟩ := hcut
      have hx := HX.out
      obtain ⟨u0, u1, u2, hh⟩ := hx.res
      have a0 : wc.cell? ⟨w2.heap.size, 0, none⟩ = some (.int .i64 x.kind) := cell_of_heap hx.box
      have a1 : wc.cell? ⟨w2.heap.size, 1, none⟩ = some (.int .i64 x.key) := cell_of_heap hx.box
      have a2 : wc.cell? ⟨w2.heap.size, 2, none⟩ = some (.int .i64 x.id) := cell_of_heap hx.box
      have v0 : wc.cell? ⟨w.heap.size, 0, none⟩ = some u0 := cell_of_heap hh
      have v1 : wc.cell? ⟨w.heap.size, 1, none⟩ = some u1 := cell_of_heap hh
      have v2 : wc.cell? ⟨w.heap.size, 2, none⟩ = some u2 := cell_of_heap hh
      have fr : ∀ o, wc.frozen? ⟨w.heap.size, o, none⟩ = false := fun o => frozen_of_heap hh
      clear hx hh
      go_wp2
      refine bodyPost_ret (v := .agg #[.int .i64 x.kind, .int .i64 x.key, .int .i64 x.id]) (by simp [results, Try.results74, go_sem, v0, v1, v2]) rfl ⟨x, rfl, hd, (((HX.out.out 0 _).out 1 _).out 2 _).src, (((HX.out.out 0 _).out 1 _).out 2 _).grown⟩
end Go.Proofs.Ytjdkenopfnepaaa
