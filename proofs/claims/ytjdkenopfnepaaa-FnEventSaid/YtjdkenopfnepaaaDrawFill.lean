/- An event that is drawn: the part that is filled in by its kind. -/
import Derived.Test.YtjdkenopfnepaaaDrawEv
namespace Go.Proofs.Ytjdkenopfnepaaa
open Go.RowKit

def DrawnI2 (base g : Nat) (w : World) (e : Ending) (w' : World) : Prop :=
  ∃ r : Int, e = .returned (.int .i64 r) ∧ -9223372036854775808 ≤ r ∧ r ≤ 9223372036854775807 ∧ SrcAt w' base g ∧ w.grownBy w' (some g)
set_option maxHeartbeats 1000000 in
theorem draw_edge2 (base g : Nat) (w : World) (hs : SrcAt w base g) :
    Calls Try.prog 96 #[.pointer (some ⟨g, 0, none⟩)] w (DrawnI2 base g w) := by
  have hgl := hs.lt
  have HS : Hid (∀ o, SrcAt (w.alloc o) base g) := fun o => hs.alloc o
  clear hs
  go_enter Try.func96, Try.ntmps96
  go_wp2_with fail
  refine (draw_n base g 14 _ (HS.out _) (by omega)).mono ?_
  rintro e w1 ⟨r, rfl, h0, h1, h2, hs1, hg1, hz1⟩
  have hr : r < 14 := h1 (by omega)
  have hne : some w.heap.size ≠ some g := by simp; omega
  have hck : ∀ i, w1.cell? ⟨w.heap.size, i, none⟩ = (w.alloc (.cells _ _)).cell? ⟨w.heap.size, i, none⟩ := fun i => World.cell?_of_block (hg1.block w.heap.size (by simp) hne)
  have HD : Hid (SrcAt w1 base g ∧ w.grownBy w1 (some g)) := ⟨hs1, (World.grownBy_alloc w _ _).trans hg1⟩
  clear h1 h2 hs1 hg1 hz1
  obtain ⟨n, rfl⟩ := Int.eq_ofNat_of_zero_le h0
  rcases (show n = 0 ∨ n = 1 ∨ n = 2 ∨ n = 3 ∨ n = 4 ∨ n = 5 ∨ n = 6 ∨ n = 7 ∨ n = 8 ∨ n = 9 ∨ n = 10 ∨ n = 11 ∨ n = 12 ∨ n = 13 by omega) with rfl | rfl | rfl | rfl | rfl | rfl | rfl | rfl | rfl | rfl | rfl | rfl | rfl | rfl
  all_goals
    go_wp2
    go_ret
    exact ⟨_, rfl, by omega, by omega, HD.out.1, HD.out.2⟩

/-- While an event is filled: the source, the event's variable (the newest world's first new block), the result's variable. -/
def FE (w : World) (base g : Nat) (cs : Array Value) (W : World) : Prop :=
  SrcAt W base g ∧ W.heap[w.heap.size]? = some (.cells cs 25 (0, 0)) ∧ (∃ c0 : Array Value, c0.size = 9 ∧ W.heap[w.heap.size + 1]? = some (.cells c0 25 (0, 0))) ∧ w.grownBy W (some g) ∧ g < w.heap.size
theorem FE.num {w : World} {base g : Nat} {cs : Array Value} {W w1 : World} (h : FE w base g cs W) (hs : SrcAt w1 base g) (hg : W.grownBy w1 (some g)) : FE w base g cs w1 := by
  obtain ⟨_, h2, ⟨c0, hc0, h3⟩, h4, h5⟩ := h
  have l2 := (Array.getElem?_eq_some_iff.1 h2).1
  have l3 := (Array.getElem?_eq_some_iff.1 h3).1
  exact ⟨hs, (hg.block _ l2 (by simp; omega)).trans h2, ⟨c0, hc0, (hg.block _ l3 (by simp; omega)).trans h3⟩, h4.trans hg, h5⟩
theorem FE.set {w : World} {base g : Nat} {cs : Array Value} {W : World} (h : FE w base g cs W) (k : Nat) (v : Value) : FE w base g (cs.setIfInBounds k v) (W.setCell ⟨w.heap.size, k, none⟩ v) := by
  obtain ⟨h1, h2, ⟨c0, hc0, h3⟩, h4, h5⟩ := h
  have hb : base ≤ w.heap.size := Nat.le_trans h1.1 (Nat.le_of_lt h5)
  exact ⟨h1.set hb (by simp; omega) v, heap_set h2 v, ⟨c0, hc0, (Below.heap_setCell _ _ _ _ (by simp)).trans h3⟩, ⟨h4.os, h4.tape, h4.output, by simpa [World.setCell] using h4.size, fun q hq hq2 => (Below.heap_setCell _ _ _ _ (by simp; omega)).trans (h4.block q hq hq2)⟩, h5⟩
theorem FE.res {w : World} {base g : Nat} {cs : Array Value} {W : World} (h : FE w base g cs W) (k : Nat) (v : Value) : FE w base g cs (W.setCell ⟨w.heap.size + 1, k, none⟩ v) := by
  obtain ⟨h1, h2, ⟨c0, hc0, h3⟩, h4, h5⟩ := h
  have hb : base ≤ w.heap.size := Nat.le_trans h1.1 (Nat.le_of_lt h5)
  exact ⟨h1.set (by simp; omega) (by simp; omega) v, (Below.heap_setCell _ _ _ _ (by simp)).trans h2, ⟨c0.setIfInBounds k v, by simp [hc0], heap_set h3 v⟩, ⟨h4.os, h4.tape, h4.output, by simpa [World.setCell] using h4.size, fun q hq hq2 => (Below.heap_setCell _ _ _ _ (by simp; omega)).trans (h4.block q hq hq2)⟩, h5⟩
theorem FE.alloc {w : World} {base g : Nat} {cs : Array Value} {W : World} (h : FE w base g cs W) (o : Obj) : FE w base g cs (W.alloc o) := by
  obtain ⟨h1, h2, ⟨c0, hc0, h3⟩, h4, h5⟩ := h
  exact ⟨h1.alloc o, (Below.heap_alloc _ _ _ (Array.getElem?_eq_some_iff.1 h2).1).trans h2, ⟨c0, hc0, (Below.heap_alloc _ _ _ (Array.getElem?_eq_some_iff.1 h3).1).trans h3⟩, h4.trans (World.grownBy_alloc _ _ _), h5⟩
theorem FE.cell {w : World} {base g : Nat} {cs : Array Value} {W : World} (h : FE w base g cs W) (k : Nat) : W.cell? ⟨w.heap.size, k, none⟩ = cs[k]? := cell_of_heap h.2.1
theorem FE.frozen {w : World} {base g : Nat} {cs : Array Value} {W : World} (h : FE w base g cs W) (k : Nat) : W.frozen? ⟨w.heap.size, k, none⟩ = false := frozen_of_heap h.2.1
theorem FE.start {w : World} {base g : Nat} (h : SrcAt w base g) (cs : Array Value) : FE w base g cs ((w.alloc (.cells cs 25)).alloc (.cells #[.int .i64 0, .int .i64 0, .int .i64 0, .int .i64 0, .int .i64 0, .int .i64 0, .string ⟨#[]⟩, .slice none 0 0, .int .i64 0] 25)) := by
  have hl := h.lt
  refine ⟨(h.alloc _).alloc _, (Below.heap_alloc _ _ _ (by simp)).trans (MapKept.heap_alloc w _).1, ⟨#[.int .i64 0, .int .i64 0, .int .i64 0, .int .i64 0, .int .i64 0, .int .i64 0, .string ⟨#[]⟩, .slice none 0 0, .int .i64 0], rfl, ?_⟩, (World.grownBy_alloc w _ _).trans (World.grownBy_alloc _ _ _), hl⟩
  have := (MapKept.heap_alloc (w.alloc (.cells cs 25)) (.cells #[.int .i64 0, .int .i64 0, .int .i64 0, .int .i64 0, .int .i64 0, .int .i64 0, .string ⟨#[]⟩, .slice none 0 0, .int .i64 0] 25)).1
  simpa using this
theorem array9' {α : Type} {cs : Array α} (h : cs.size = 9) : ∃ c0 c1 c2 c3 c4 c5 c6 c7 c8, cs = #[c0, c1, c2, c3, c4, c5, c6, c7, c8] := by
  obtain ⟨l⟩ := cs
  match l, h with
  | [c0, c1, c2, c3, c4, c5, c6, c7, c8], _ => exact ⟨c0, c1, c2, c3, c4, c5, c6, c7, c8, rfl⟩
/-- What is filled in. -/
def FillPost (base g : Nat) (id room author time : Int) (w : World) (e : Ending) (w' : World) : Prop :=
  ∃ (k y n : Int) (t : ByteArray), e = .returned (.agg #[.int .i64 id, .int .i64 room, .int .i64 author, .int .i64 k, .int .i64 y, .int .i64 n, .string t, .slice none 0 0, .int .i64 time]) ∧ t.size ≤ 1000 ∧ SrcAt w' base g ∧ w.grownBy w' (some g)
set_option maxHeartbeats 4000000 in
set_option maxRecDepth 100000 in
theorem draw_fill (base g : Nat) (id room author time : Int) (w : World) (hs : SrcAt w base g) :
    Calls Try.prog 95 #[.pointer (some ⟨g, 0, none⟩), .agg #[.int .i64 id, .int .i64 room, .int .i64 author, .int .i64 0, .int .i64 0, .int .i64 0, .string ⟨#[]⟩, .slice none 0 0, .int .i64 time]] w (FillPost base g id room author time w) := by
  have hgl := hs.lt
  have HF : Hid (FE w base g #[.int .i64 id, .int .i64 room, .int .i64 author, .int .i64 0, .int .i64 0, .int .i64 0, .string ⟨#[]⟩, .slice none 0 0, .int .i64 time] ((w.alloc (.cells #[.int .i64 id, .int .i64 room, .int .i64 author, .int .i64 0, .int .i64 0, .int .i64 0, .string ⟨#[]⟩, .slice none 0 0, .int .i64 time] 25)).alloc (.cells #[.int .i64 0, .int .i64 0, .int .i64 0, .int .i64 0, .int .i64 0, .int .i64 0, .string ⟨#[]⟩, .slice none 0 0, .int .i64 0] 25))) := FE.start hs _
  clear hs
  go_enter Try.func95, Try.ntmps95
  go_wp2_with fail
  refine (draw_n base g 11 _ (HF.out.1.alloc _) (by omega)).mono ?_
  rintro e w1 ⟨r, rfl, h0, h1, _, hs1, hg1, hz1⟩
  have hr : r < 11 := h1 (by omega)
  obtain ⟨n, rfl⟩ := Int.eq_ofNat_of_zero_le h0
  have F1 := (HF.out.alloc _).num hs1 hg1
  have hL : w.heap.size + 1 + 1 < w1.heap.size := by rw [hz1]; simp
  obtain ⟨k, hk, hck⟩ : ∃ k : Int, (k = 2 ∨ k = 3 ∨ k = 4 ∨ k = 5 ∨ k = 6 ∨ k = 7 ∨ k = 8) ∧ w1.cell? ⟨w.heap.size + 1 + 1, n, none⟩ = some (.int .i64 k) := by
    have hb := World.cell?_of_block (a := ⟨w.heap.size + 1 + 1, n, none⟩) (hg1.block (w.heap.size + 1 + 1) (by simp) (by simp; omega))
    rw [hb]
    rcases (show n = 0 ∨ n = 1 ∨ n = 2 ∨ n = 3 ∨ n = 4 ∨ n = 5 ∨ n = 6 ∨ n = 7 ∨ n = 8 ∨ n = 9 ∨ n = 10 by omega) with rfl | rfl | rfl | rfl | rfl | rfl | rfl | rfl | rfl | rfl | rfl
    · exact ⟨2, by simp, by simp [go_sem]⟩
    · exact ⟨2, by simp, by simp [go_sem]⟩
    · exact ⟨2, by simp, by simp [go_sem]⟩
    · exact ⟨3, by simp, by simp [go_sem]⟩
    · exact ⟨4, by simp, by simp [go_sem]⟩
    · exact ⟨5, by simp, by simp [go_sem]⟩
    · exact ⟨6, by simp, by simp [go_sem]⟩
    · exact ⟨7, by simp, by simp [go_sem]⟩
    · exact ⟨7, by simp, by simp [go_sem]⟩
    · exact ⟨7, by simp, by simp [go_sem]⟩
    · exact ⟨8, by simp, by simp [go_sem]⟩
  have c3 : w1.cell? ⟨w.heap.size, 3, none⟩ = some (.int .i64 0) := F1.cell 3
  have f3 := F1.frozen 3
  have HF : Hid (FE w base g #[.int .i64 id, .int .i64 room, .int .i64 author, .int .i64 k, .int .i64 0, .int .i64 0, .string ⟨#[]⟩, .slice none 0 0, .int .i64 time] (w1.setCell ⟨w.heap.size, 3, none⟩ (.int .i64 k))) := F1.set 3 _
  clear hs1 hg1 hz1 h1 F1
  rcases hk with rfl | rfl | rfl | rfl | rfl | rfl | rfl
  · go_wp2_with fail
    refine (draw_n base g 4 _ HF.out.1 (by omega)).mono ?_
    rintro e w2 ⟨rw2, rfl, g0w2, g1w2, -, hs, hg, -⟩
    have g2w2 : rw2 < 4 := g1w2 (by omega)
    have F := HF.out.num hs hg
    have bw2 : w2.cell? ⟨w.heap.size, 4, none⟩ = some (.int .i64 0) := F.cell 4
    have fbw2 := F.frozen 4
    have HF : Hid (FE w base g #[.int .i64 id, .int .i64 room, .int .i64 author, .int .i64 2, .int .i64 (1 + rw2), .int .i64 0, .string ⟨#[]⟩, .slice none 0 0, .int .i64 time] (w2.setCell ⟨w.heap.size, 4, none⟩ (.int .i64 (1 + rw2)))) := F.set 4 _
    clear hs hg g1w2 F
    go_wp2_with fail
    refine (draw_n base g 4 _ HF.out.1 (by omega)).mono ?_
    rintro e w3 ⟨rw3, rfl, g0w3, g1w3, -, hs, hg, -⟩
    have g2w3 : rw3 < 4 := g1w3 (by omega)
    have F := HF.out.num hs hg
    have bw3 : w3.cell? ⟨w.heap.size, 5, none⟩ = some (.int .i64 0) := F.cell 5
    have fbw3 := F.frozen 5
    have HF : Hid (FE w base g #[.int .i64 id, .int .i64 room, .int .i64 author, .int .i64 2, .int .i64 (1 + rw2), .int .i64 (1 + rw3), .string ⟨#[]⟩, .slice none 0 0, .int .i64 time] (w3.setCell ⟨w.heap.size, 5, none⟩ (.int .i64 (1 + rw3)))) := F.set 5 _
    clear hs hg g1w3 F
    go_wp2_with fail
    refine (draw_one base g 2 _ HF.out.1 (by omega)).mono ?_
    rintro e w4 ⟨b, rfl, hs, hg, _⟩
    have F := HF.out.num hs hg
    cases b
    · have a0 : w4.cell? ⟨w.heap.size, 0, none⟩ = some (.int .i64 id) := F.cell 0
      have a1 : w4.cell? ⟨w.heap.size, 1, none⟩ = some (.int .i64 room) := F.cell 1
      have a2 : w4.cell? ⟨w.heap.size, 2, none⟩ = some (.int .i64 author) := F.cell 2
      have a3 : w4.cell? ⟨w.heap.size, 3, none⟩ = some (.int .i64 2) := F.cell 3
      have a4 : w4.cell? ⟨w.heap.size, 4, none⟩ = some (.int .i64 (1 + rw2)) := F.cell 4
      have a5 : w4.cell? ⟨w.heap.size, 5, none⟩ = some (.int .i64 (1 + rw3)) := F.cell 5
      have a6 : w4.cell? ⟨w.heap.size, 6, none⟩ = some (.string ⟨#[]⟩) := F.cell 6
      have a7 : w4.cell? ⟨w.heap.size, 7, none⟩ = some (.slice none 0 0) := F.cell 7
      have a8 : w4.cell? ⟨w.heap.size, 8, none⟩ = some (.int .i64 time) := F.cell 8
      have fa : ∀ o, w4.frozen? ⟨w.heap.size, o, none⟩ = false := fun o => F.frozen o
      obtain ⟨cz, hcz, hh⟩ := F.2.2.1
      obtain ⟨u0, u1, u2, u3, u4, u5, u6, u7, u8, rfl⟩ := array9' hcz
      have fr : ∀ o, w4.frozen? ⟨w.heap.size + 1, o, none⟩ = false := fun o => frozen_of_heap hh
      have r0 : w4.cell? ⟨w.heap.size + 1, 0, none⟩ = some u0 := cell_of_heap hh
      have r1 : w4.cell? ⟨w.heap.size + 1, 1, none⟩ = some u1 := cell_of_heap hh
      have r2 : w4.cell? ⟨w.heap.size + 1, 2, none⟩ = some u2 := cell_of_heap hh
      have r3 : w4.cell? ⟨w.heap.size + 1, 3, none⟩ = some u3 := cell_of_heap hh
      have r4 : w4.cell? ⟨w.heap.size + 1, 4, none⟩ = some u4 := cell_of_heap hh
      have r5 : w4.cell? ⟨w.heap.size + 1, 5, none⟩ = some u5 := cell_of_heap hh
      have r6 : w4.cell? ⟨w.heap.size + 1, 6, none⟩ = some u6 := cell_of_heap hh
      have r7 : w4.cell? ⟨w.heap.size + 1, 7, none⟩ = some u7 := cell_of_heap hh
      have r8 : w4.cell? ⟨w.heap.size + 1, 8, none⟩ = some u8 := cell_of_heap hh
      have HF : Hid (FE w base g #[.int .i64 id, .int .i64 room, .int .i64 author, .int .i64 2, .int .i64 (1 + rw2), .int .i64 (1 + rw3), .string ⟨#[]⟩, .slice none 0 0, .int .i64 time] w4) := F
      clear hs hg hh hcz F
      go_wp2
      refine bodyPost_ret (v := .agg #[.int .i64 id, .int .i64 room, .int .i64 author, .int .i64 2, .int .i64 (1 + rw2), .int .i64 (1 + rw3), .string ⟨#[]⟩, .slice none 0 0, .int .i64 time]) (by simp [results, Try.results95, go_sem, r0, r1, r2, r3, r4, r5, r6, r7, r8]) rfl ⟨_, _, _, _, rfl, Nat.zero_le _, (((((((((HF.out.res 0 _).res 1 _).res 2 _).res 3 _).res 4 _).res 5 _).res 6 _).res 7 _).res 8 _).1, (((((((((HF.out.res 0 _).res 1 _).res 2 _).res 3 _).res 4 _).res 5 _).res 6 _).res 7 _).res 8 _).2.2.2.1⟩
    · have a2 : w4.cell? ⟨w.heap.size, 2, none⟩ = some (.int .i64 author) := F.cell 2
      have a4 : w4.cell? ⟨w.heap.size, 4, none⟩ = some (.int .i64 (1 + rw2)) := F.cell 4
      have fa2 := F.frozen 2
      have fa4 := F.frozen 4
      have HF : Hid (FE w base g #[.int .i64 id, .int .i64 room, .int .i64 author, .int .i64 2, .int .i64 author, .int .i64 (1 + rw3), .string ⟨#[]⟩, .slice none 0 0, .int .i64 time] (w4.setCell ⟨w.heap.size, 4, none⟩ (.int .i64 author))) := F.set 4 _
      clear hs hg F
      go_wp2_with fail
      refine (draw_n base g 2 _ HF.out.1 (by omega)).mono ?_
      rintro e w5 ⟨rw5, rfl, g0w5, g1w5, -, hs, hg, -⟩
      have g2w5 : rw5 < 2 := g1w5 (by omega)
      have F := HF.out.num hs hg
      have a0 : w5.cell? ⟨w.heap.size, 0, none⟩ = some (.int .i64 id) := F.cell 0
      have a1 : w5.cell? ⟨w.heap.size, 1, none⟩ = some (.int .i64 room) := F.cell 1
      have a2 : w5.cell? ⟨w.heap.size, 2, none⟩ = some (.int .i64 author) := F.cell 2
      have a3 : w5.cell? ⟨w.heap.size, 3, none⟩ = some (.int .i64 2) := F.cell 3
      have a4 : w5.cell? ⟨w.heap.size, 4, none⟩ = some (.int .i64 author) := F.cell 4
      have a5 : w5.cell? ⟨w.heap.size, 5, none⟩ = some (.int .i64 (1 + rw3)) := F.cell 5
      have a6 : w5.cell? ⟨w.heap.size, 6, none⟩ = some (.string ⟨#[]⟩) := F.cell 6
      have a7 : w5.cell? ⟨w.heap.size, 7, none⟩ = some (.slice none 0 0) := F.cell 7
      have a8 : w5.cell? ⟨w.heap.size, 8, none⟩ = some (.int .i64 time) := F.cell 8
      have fa : ∀ o, w5.frozen? ⟨w.heap.size, o, none⟩ = false := fun o => F.frozen o
      obtain ⟨cz, hcz, hh⟩ := F.2.2.1
      obtain ⟨u0, u1, u2, u3, u4, u5, u6, u7, u8, rfl⟩ := array9' hcz
      have fr : ∀ o, w5.frozen? ⟨w.heap.size + 1, o, none⟩ = false := fun o => frozen_of_heap hh
      have r0 : w5.cell? ⟨w.heap.size + 1, 0, none⟩ = some u0 := cell_of_heap hh
      have r1 : w5.cell? ⟨w.heap.size + 1, 1, none⟩ = some u1 := cell_of_heap hh
      have r2 : w5.cell? ⟨w.heap.size + 1, 2, none⟩ = some u2 := cell_of_heap hh
      have r3 : w5.cell? ⟨w.heap.size + 1, 3, none⟩ = some u3 := cell_of_heap hh
      have r4 : w5.cell? ⟨w.heap.size + 1, 4, none⟩ = some u4 := cell_of_heap hh
      have r5 : w5.cell? ⟨w.heap.size + 1, 5, none⟩ = some u5 := cell_of_heap hh
      have r6 : w5.cell? ⟨w.heap.size + 1, 6, none⟩ = some u6 := cell_of_heap hh
      have r7 : w5.cell? ⟨w.heap.size + 1, 7, none⟩ = some u7 := cell_of_heap hh
      have r8 : w5.cell? ⟨w.heap.size + 1, 8, none⟩ = some u8 := cell_of_heap hh
      have HF : Hid (FE w base g #[.int .i64 id, .int .i64 room, .int .i64 author, .int .i64 2, .int .i64 author, .int .i64 (1 + rw5), .string ⟨#[]⟩, .slice none 0 0, .int .i64 time] (w5.setCell ⟨w.heap.size, 5, none⟩ (.int .i64 (1 + rw5)))) := F.set 5 _
      clear hs hg g1w5 hh hcz F
      go_wp2
      refine bodyPost_ret (v := .agg #[.int .i64 id, .int .i64 room, .int .i64 author, .int .i64 2, .int .i64 author, .int .i64 (1 + rw5), .string ⟨#[]⟩, .slice none 0 0, .int .i64 time]) (by simp [results, Try.results95, go_sem, r0, r1, r2, r3, r4, r5, r6, r7, r8]) rfl ⟨_, _, _, _, rfl, Nat.zero_le _, (((((((((HF.out.res 0 _).res 1 _).res 2 _).res 3 _).res 4 _).res 5 _).res 6 _).res 7 _).res 8 _).1, (((((((((HF.out.res 0 _).res 1 _).res 2 _).res 3 _).res 4 _).res 5 _).res 6 _).res 7 _).res 8 _).2.2.2.1⟩
  · go_wp2_with fail
    refine (draw_n base g 4 _ HF.out.1 (by omega)).mono ?_
    rintro e w2 ⟨rw2, rfl, g0w2, g1w2, -, hs, hg, -⟩
    have g2w2 : rw2 < 4 := g1w2 (by omega)
    have F := HF.out.num hs hg
    have bw2 : w2.cell? ⟨w.heap.size, 4, none⟩ = some (.int .i64 0) := F.cell 4
    have fbw2 := F.frozen 4
    have HF : Hid (FE w base g #[.int .i64 id, .int .i64 room, .int .i64 author, .int .i64 3, .int .i64 (1 + rw2), .int .i64 0, .string ⟨#[]⟩, .slice none 0 0, .int .i64 time] (w2.setCell ⟨w.heap.size, 4, none⟩ (.int .i64 (1 + rw2)))) := F.set 4 _
    clear hs hg g1w2 F
    have hL2 : w.heap.size + 1 < w2.heap.size := by have := HF.out.2.2.1; obtain ⟨_, _, h⟩ := this; have := (Array.getElem?_eq_some_iff.1 h).1; simpa using this
    go_wp2_with fail
    refine (draw_n base g 4 _ (HF.out.alloc _).1 (by omega)).mono ?_
    rintro e w3 ⟨r, rfl, g0, g1, _, hs, hg, hz⟩
    have g2 : r < 4 := g1 (by omega)
    obtain ⟨m, rfl⟩ := Int.eq_ofNat_of_zero_le g0
    have F := (HF.out.alloc _).num hs hg
    obtain ⟨y, hy⟩ : ∃ y : Int, w3.cell? ⟨w2.heap.size, m, none⟩ = some (.int .i64 y) := by
      have hb := World.cell?_of_block (a := ⟨w2.heap.size, m, none⟩) (hg.block w2.heap.size (by simp) (by simp; have := HF.out.2.2.2.2; omega))
      rw [hb]
      rcases (show m = 0 ∨ m = 1 ∨ m = 2 ∨ m = 3 by omega) with rfl | rfl | rfl | rfl
      · exact ⟨0, by simp [go_sem]⟩
      · exact ⟨50, by simp [go_sem]⟩
      · exact ⟨60, by simp [go_sem]⟩
      · exact ⟨100, by simp [go_sem]⟩
    have a0 : w3.cell? ⟨w.heap.size, 0, none⟩ = some (.int .i64 id) := F.cell 0
    have a1 : w3.cell? ⟨w.heap.size, 1, none⟩ = some (.int .i64 room) := F.cell 1
    have a2 : w3.cell? ⟨w.heap.size, 2, none⟩ = some (.int .i64 author) := F.cell 2
    have a3 : w3.cell? ⟨w.heap.size, 3, none⟩ = some (.int .i64 3) := F.cell 3
    have a4 : w3.cell? ⟨w.heap.size, 4, none⟩ = some (.int .i64 (1 + rw2)) := F.cell 4
    have a5 : w3.cell? ⟨w.heap.size, 5, none⟩ = some (.int .i64 0) := F.cell 5
    have a6 : w3.cell? ⟨w.heap.size, 6, none⟩ = some (.string ⟨#[]⟩) := F.cell 6
    have a7 : w3.cell? ⟨w.heap.size, 7, none⟩ = some (.slice none 0 0) := F.cell 7
    have a8 : w3.cell? ⟨w.heap.size, 8, none⟩ = some (.int .i64 time) := F.cell 8
    have fa : ∀ o, w3.frozen? ⟨w.heap.size, o, none⟩ = false := fun o => F.frozen o
    obtain ⟨cz, hcz, hh⟩ := F.2.2.1
    obtain ⟨u0, u1, u2, u3, u4, u5, u6, u7, u8, rfl⟩ := array9' hcz
    have fr : ∀ o, w3.frozen? ⟨w.heap.size + 1, o, none⟩ = false := fun o => frozen_of_heap hh
    have r0 : w3.cell? ⟨w.heap.size + 1, 0, none⟩ = some u0 := cell_of_heap hh
    have r1 : w3.cell? ⟨w.heap.size + 1, 1, none⟩ = some u1 := cell_of_heap hh
    have r2 : w3.cell? ⟨w.heap.size + 1, 2, none⟩ = some u2 := cell_of_heap hh
    have r3 : w3.cell? ⟨w.heap.size + 1, 3, none⟩ = some u3 := cell_of_heap hh
    have r4 : w3.cell? ⟨w.heap.size + 1, 4, none⟩ = some u4 := cell_of_heap hh
    have r5 : w3.cell? ⟨w.heap.size + 1, 5, none⟩ = some u5 := cell_of_heap hh
    have r6 : w3.cell? ⟨w.heap.size + 1, 6, none⟩ = some u6 := cell_of_heap hh
    have r7 : w3.cell? ⟨w.heap.size + 1, 7, none⟩ = some u7 := cell_of_heap hh
    have r8 : w3.cell? ⟨w.heap.size + 1, 8, none⟩ = some u8 := cell_of_heap hh
    have HF : Hid (FE w base g #[.int .i64 id, .int .i64 room, .int .i64 author, .int .i64 3, .int .i64 (1 + rw2), .int .i64 y, .string ⟨#[]⟩, .slice none 0 0, .int .i64 time] (w3.setCell ⟨w.heap.size, 5, none⟩ (.int .i64 y))) := F.set 5 _
    clear hs hg hz hh hcz F
    go_wp2
    refine bodyPost_ret (v := .agg #[.int .i64 id, .int .i64 room, .int .i64 author, .int .i64 3, .int .i64 (1 + rw2), .int .i64 y, .string ⟨#[]⟩, .slice none 0 0, .int .i64 time]) (by simp [results, Try.results95, go_sem, r0, r1, r2, r3, r4, r5, r6, r7, r8]) rfl ⟨_, _, _, _, rfl, Nat.zero_le _, (((((((((HF.out.res 0 _).res 1 _).res 2 _).res 3 _).res 4 _).res 5 _).res 6 _).res 7 _).res 8 _).1, (((((((((HF.out.res 0 _).res 1 _).res 2 _).res 3 _).res 4 _).res 5 _).res 6 _).res 7 _).res 8 _).2.2.2.1⟩
  · go_wp2_with fail
    refine (draw_n base g 4 _ HF.out.1 (by omega)).mono ?_
    rintro e w2 ⟨r, rfl, g0, g1, -, hs, hg, -⟩
    have g2 : r < 4 := g1 (by omega)
    obtain ⟨m, rfl⟩ := Int.eq_ofNat_of_zero_le g0
    have HF : Hid (FE w base g #[.int .i64 id, .int .i64 room, .int .i64 author, .int .i64 4, .int .i64 0, .int .i64 0, .string ⟨#[]⟩, .slice none 0 0, .int .i64 time] w2) := HF.out.num hs hg
    clear hs hg g1
    go_wp2_with fail
    refine (draw_bytes2 base g m _ HF.out.1 (by omega)).mono ?_
    rintro e w3 ⟨l, rfl, hll, hs, hg⟩
    have HT : Hid ((⟨l.toArray⟩ : ByteArray).size ≤ 1000) := by
      show l.toArray.size ≤ 1000
      rw [List.size_toArray]
      omega
    clear hll
    have F := HF.out.num hs hg
    have a0 : w3.cell? ⟨w.heap.size, 0, none⟩ = some (.int .i64 id) := F.cell 0
    have a1 : w3.cell? ⟨w.heap.size, 1, none⟩ = some (.int .i64 room) := F.cell 1
    have a2 : w3.cell? ⟨w.heap.size, 2, none⟩ = some (.int .i64 author) := F.cell 2
    have a3 : w3.cell? ⟨w.heap.size, 3, none⟩ = some (.int .i64 4) := F.cell 3
    have a4 : w3.cell? ⟨w.heap.size, 4, none⟩ = some (.int .i64 0) := F.cell 4
    have a5 : w3.cell? ⟨w.heap.size, 5, none⟩ = some (.int .i64 0) := F.cell 5
    have a6 : w3.cell? ⟨w.heap.size, 6, none⟩ = some (.string ⟨#[]⟩) := F.cell 6
    have a7 : w3.cell? ⟨w.heap.size, 7, none⟩ = some (.slice none 0 0) := F.cell 7
    have a8 : w3.cell? ⟨w.heap.size, 8, none⟩ = some (.int .i64 time) := F.cell 8
    have fa : ∀ o, w3.frozen? ⟨w.heap.size, o, none⟩ = false := fun o => F.frozen o
    obtain ⟨cz, hcz, hh⟩ := F.2.2.1
    obtain ⟨u0, u1, u2, u3, u4, u5, u6, u7, u8, rfl⟩ := array9' hcz
    have fr : ∀ o, w3.frozen? ⟨w.heap.size + 1, o, none⟩ = false := fun o => frozen_of_heap hh
    have r0 : w3.cell? ⟨w.heap.size + 1, 0, none⟩ = some u0 := cell_of_heap hh
    have r1 : w3.cell? ⟨w.heap.size + 1, 1, none⟩ = some u1 := cell_of_heap hh
    have r2 : w3.cell? ⟨w.heap.size + 1, 2, none⟩ = some u2 := cell_of_heap hh
    have r3 : w3.cell? ⟨w.heap.size + 1, 3, none⟩ = some u3 := cell_of_heap hh
    have r4 : w3.cell? ⟨w.heap.size + 1, 4, none⟩ = some u4 := cell_of_heap hh
    have r5 : w3.cell? ⟨w.heap.size + 1, 5, none⟩ = some u5 := cell_of_heap hh
    have r6 : w3.cell? ⟨w.heap.size + 1, 6, none⟩ = some u6 := cell_of_heap hh
    have r7 : w3.cell? ⟨w.heap.size + 1, 7, none⟩ = some u7 := cell_of_heap hh
    have r8 : w3.cell? ⟨w.heap.size + 1, 8, none⟩ = some u8 := cell_of_heap hh
    have HF : Hid (FE w base g #[.int .i64 id, .int .i64 room, .int .i64 author, .int .i64 4, .int .i64 0, .int .i64 0, .string ⟨l.toArray⟩, .slice none 0 0, .int .i64 time] (w3.setCell ⟨w.heap.size, 6, none⟩ (.string ⟨l.toArray⟩))) := F.set 6 _
    clear hs hg hh hcz F
    go_wp2
    refine bodyPost_ret (v := .agg #[.int .i64 id, .int .i64 room, .int .i64 author, .int .i64 4, .int .i64 0, .int .i64 0, .string ⟨l.toArray⟩, .slice none 0 0, .int .i64 time]) (by simp [results, Try.results95, go_sem, r0, r1, r2, r3, r4, r5, r6, r7, r8]) rfl ⟨_, _, _, _, rfl, HT.out, (((((((((HF.out.res 0 _).res 1 _).res 2 _).res 3 _).res 4 _).res 5 _).res 6 _).res 7 _).res 8 _).1, (((((((((HF.out.res 0 _).res 1 _).res 2 _).res 3 _).res 4 _).res 5 _).res 6 _).res 7 _).res 8 _).2.2.2.1⟩
  · go_wp2_with fail
    refine (draw_n base g 2 _ HF.out.1 (by omega)).mono ?_
    rintro e w2 ⟨rw2, rfl, g0w2, g1w2, -, hs, hg, -⟩
    have g2w2 : rw2 < 2 := g1w2 (by omega)
    have F := HF.out.num hs hg
    have a0 : w2.cell? ⟨w.heap.size, 0, none⟩ = some (.int .i64 id) := F.cell 0
    have a1 : w2.cell? ⟨w.heap.size, 1, none⟩ = some (.int .i64 room) := F.cell 1
    have a2 : w2.cell? ⟨w.heap.size, 2, none⟩ = some (.int .i64 author) := F.cell 2
    have a3 : w2.cell? ⟨w.heap.size, 3, none⟩ = some (.int .i64 5) := F.cell 3
    have a4 : w2.cell? ⟨w.heap.size, 4, none⟩ = some (.int .i64 0) := F.cell 4
    have a5 : w2.cell? ⟨w.heap.size, 5, none⟩ = some (.int .i64 0) := F.cell 5
    have a6 : w2.cell? ⟨w.heap.size, 6, none⟩ = some (.string ⟨#[]⟩) := F.cell 6
    have a7 : w2.cell? ⟨w.heap.size, 7, none⟩ = some (.slice none 0 0) := F.cell 7
    have a8 : w2.cell? ⟨w.heap.size, 8, none⟩ = some (.int .i64 time) := F.cell 8
    have fa : ∀ o, w2.frozen? ⟨w.heap.size, o, none⟩ = false := fun o => F.frozen o
    obtain ⟨cz, hcz, hh⟩ := F.2.2.1
    obtain ⟨u0, u1, u2, u3, u4, u5, u6, u7, u8, rfl⟩ := array9' hcz
    have fr : ∀ o, w2.frozen? ⟨w.heap.size + 1, o, none⟩ = false := fun o => frozen_of_heap hh
    have r0 : w2.cell? ⟨w.heap.size + 1, 0, none⟩ = some u0 := cell_of_heap hh
    have r1 : w2.cell? ⟨w.heap.size + 1, 1, none⟩ = some u1 := cell_of_heap hh
    have r2 : w2.cell? ⟨w.heap.size + 1, 2, none⟩ = some u2 := cell_of_heap hh
    have r3 : w2.cell? ⟨w.heap.size + 1, 3, none⟩ = some u3 := cell_of_heap hh
    have r4 : w2.cell? ⟨w.heap.size + 1, 4, none⟩ = some u4 := cell_of_heap hh
    have r5 : w2.cell? ⟨w.heap.size + 1, 5, none⟩ = some u5 := cell_of_heap hh
    have r6 : w2.cell? ⟨w.heap.size + 1, 6, none⟩ = some u6 := cell_of_heap hh
    have r7 : w2.cell? ⟨w.heap.size + 1, 7, none⟩ = some u7 := cell_of_heap hh
    have r8 : w2.cell? ⟨w.heap.size + 1, 8, none⟩ = some u8 := cell_of_heap hh
    have HF : Hid (FE w base g #[.int .i64 id, .int .i64 room, .int .i64 author, .int .i64 5, .int .i64 0, .int .i64 (1 + rw2), .string ⟨#[]⟩, .slice none 0 0, .int .i64 time] (w2.setCell ⟨w.heap.size, 5, none⟩ (.int .i64 (1 + rw2)))) := F.set 5 _
    clear hs hg g1w2 hh hcz F
    go_wp2
    refine bodyPost_ret (v := .agg #[.int .i64 id, .int .i64 room, .int .i64 author, .int .i64 5, .int .i64 0, .int .i64 (1 + rw2), .string ⟨#[]⟩, .slice none 0 0, .int .i64 time]) (by simp [results, Try.results95, go_sem, r0, r1, r2, r3, r4, r5, r6, r7, r8]) rfl ⟨_, _, _, _, rfl, Nat.zero_le _, (((((((((HF.out.res 0 _).res 1 _).res 2 _).res 3 _).res 4 _).res 5 _).res 6 _).res 7 _).res 8 _).1, (((((((((HF.out.res 0 _).res 1 _).res 2 _).res 3 _).res 4 _).res 5 _).res 6 _).res 7 _).res 8 _).2.2.2.1⟩
  · go_wp2_with fail
    refine (draw_n base g 3 _ HF.out.1 (by omega)).mono ?_
    rintro e w2 ⟨rw2, rfl, g0w2, g1w2, -, hs, hg, -⟩
    have g2w2 : rw2 < 3 := g1w2 (by omega)
    have F := HF.out.num hs hg
    have a0 : w2.cell? ⟨w.heap.size, 0, none⟩ = some (.int .i64 id) := F.cell 0
    have a1 : w2.cell? ⟨w.heap.size, 1, none⟩ = some (.int .i64 room) := F.cell 1
    have a2 : w2.cell? ⟨w.heap.size, 2, none⟩ = some (.int .i64 author) := F.cell 2
    have a3 : w2.cell? ⟨w.heap.size, 3, none⟩ = some (.int .i64 6) := F.cell 3
    have a4 : w2.cell? ⟨w.heap.size, 4, none⟩ = some (.int .i64 0) := F.cell 4
    have a5 : w2.cell? ⟨w.heap.size, 5, none⟩ = some (.int .i64 0) := F.cell 5
    have a6 : w2.cell? ⟨w.heap.size, 6, none⟩ = some (.string ⟨#[]⟩) := F.cell 6
    have a7 : w2.cell? ⟨w.heap.size, 7, none⟩ = some (.slice none 0 0) := F.cell 7
    have a8 : w2.cell? ⟨w.heap.size, 8, none⟩ = some (.int .i64 time) := F.cell 8
    have fa : ∀ o, w2.frozen? ⟨w.heap.size, o, none⟩ = false := fun o => F.frozen o
    obtain ⟨cz, hcz, hh⟩ := F.2.2.1
    obtain ⟨u0, u1, u2, u3, u4, u5, u6, u7, u8, rfl⟩ := array9' hcz
    have fr : ∀ o, w2.frozen? ⟨w.heap.size + 1, o, none⟩ = false := fun o => frozen_of_heap hh
    have r0 : w2.cell? ⟨w.heap.size + 1, 0, none⟩ = some u0 := cell_of_heap hh
    have r1 : w2.cell? ⟨w.heap.size + 1, 1, none⟩ = some u1 := cell_of_heap hh
    have r2 : w2.cell? ⟨w.heap.size + 1, 2, none⟩ = some u2 := cell_of_heap hh
    have r3 : w2.cell? ⟨w.heap.size + 1, 3, none⟩ = some u3 := cell_of_heap hh
    have r4 : w2.cell? ⟨w.heap.size + 1, 4, none⟩ = some u4 := cell_of_heap hh
    have r5 : w2.cell? ⟨w.heap.size + 1, 5, none⟩ = some u5 := cell_of_heap hh
    have r6 : w2.cell? ⟨w.heap.size + 1, 6, none⟩ = some u6 := cell_of_heap hh
    have r7 : w2.cell? ⟨w.heap.size + 1, 7, none⟩ = some u7 := cell_of_heap hh
    have r8 : w2.cell? ⟨w.heap.size + 1, 8, none⟩ = some u8 := cell_of_heap hh
    have HF : Hid (FE w base g #[.int .i64 id, .int .i64 room, .int .i64 author, .int .i64 6, .int .i64 0, .int .i64 (1 + rw2), .string ⟨#[]⟩, .slice none 0 0, .int .i64 time] (w2.setCell ⟨w.heap.size, 5, none⟩ (.int .i64 (1 + rw2)))) := F.set 5 _
    clear hs hg g1w2 hh hcz F
    go_wp2
    refine bodyPost_ret (v := .agg #[.int .i64 id, .int .i64 room, .int .i64 author, .int .i64 6, .int .i64 0, .int .i64 (1 + rw2), .string ⟨#[]⟩, .slice none 0 0, .int .i64 time]) (by simp [results, Try.results95, go_sem, r0, r1, r2, r3, r4, r5, r6, r7, r8]) rfl ⟨_, _, _, _, rfl, Nat.zero_le _, (((((((((HF.out.res 0 _).res 1 _).res 2 _).res 3 _).res 4 _).res 5 _).res 6 _).res 7 _).res 8 _).1, (((((((((HF.out.res 0 _).res 1 _).res 2 _).res 3 _).res 4 _).res 5 _).res 6 _).res 7 _).res 8 _).2.2.2.1⟩
  · go_wp2_with fail
    have hL2 : w.heap.size + 1 + 1 < w1.heap.size := hL
    refine (draw_pick base g _ ⟨#[97]⟩ ⟨#[104, 101, 108, 108, 111]⟩ ⟨#[98, 121, 101, 32, 110, 111, 119]⟩ ⟨#[120, 32, 121]⟩ _ (HF.out.alloc _).1 (by simp) (by simp; omega) (by simp [go_sem]) (by simp [go_sem]) (by simp [go_sem]) (by simp [go_sem])).mono ?_
    rintro e w3 ⟨l, rfl, hll, hs, hg, _⟩
    have HT : Hid (l.size ≤ 1000) := by
      unfold Hid
      rcases hll with rfl | rfl | rfl | rfl <;> decide
    clear hll
    have F := (HF.out.alloc _).num hs hg
    have a0 : w3.cell? ⟨w.heap.size, 0, none⟩ = some (.int .i64 id) := F.cell 0
    have a1 : w3.cell? ⟨w.heap.size, 1, none⟩ = some (.int .i64 room) := F.cell 1
    have a2 : w3.cell? ⟨w.heap.size, 2, none⟩ = some (.int .i64 author) := F.cell 2
    have a3 : w3.cell? ⟨w.heap.size, 3, none⟩ = some (.int .i64 7) := F.cell 3
    have a4 : w3.cell? ⟨w.heap.size, 4, none⟩ = some (.int .i64 0) := F.cell 4
    have a5 : w3.cell? ⟨w.heap.size, 5, none⟩ = some (.int .i64 0) := F.cell 5
    have a6 : w3.cell? ⟨w.heap.size, 6, none⟩ = some (.string ⟨#[]⟩) := F.cell 6
    have a7 : w3.cell? ⟨w.heap.size, 7, none⟩ = some (.slice none 0 0) := F.cell 7
    have a8 : w3.cell? ⟨w.heap.size, 8, none⟩ = some (.int .i64 time) := F.cell 8
    have fa : ∀ o, w3.frozen? ⟨w.heap.size, o, none⟩ = false := fun o => F.frozen o
    obtain ⟨cz, hcz, hh⟩ := F.2.2.1
    obtain ⟨u0, u1, u2, u3, u4, u5, u6, u7, u8, rfl⟩ := array9' hcz
    have fr : ∀ o, w3.frozen? ⟨w.heap.size + 1, o, none⟩ = false := fun o => frozen_of_heap hh
    have r0 : w3.cell? ⟨w.heap.size + 1, 0, none⟩ = some u0 := cell_of_heap hh
    have r1 : w3.cell? ⟨w.heap.size + 1, 1, none⟩ = some u1 := cell_of_heap hh
    have r2 : w3.cell? ⟨w.heap.size + 1, 2, none⟩ = some u2 := cell_of_heap hh
    have r3 : w3.cell? ⟨w.heap.size + 1, 3, none⟩ = some u3 := cell_of_heap hh
    have r4 : w3.cell? ⟨w.heap.size + 1, 4, none⟩ = some u4 := cell_of_heap hh
    have r5 : w3.cell? ⟨w.heap.size + 1, 5, none⟩ = some u5 := cell_of_heap hh
    have r6 : w3.cell? ⟨w.heap.size + 1, 6, none⟩ = some u6 := cell_of_heap hh
    have r7 : w3.cell? ⟨w.heap.size + 1, 7, none⟩ = some u7 := cell_of_heap hh
    have r8 : w3.cell? ⟨w.heap.size + 1, 8, none⟩ = some u8 := cell_of_heap hh
    have HF : Hid (FE w base g #[.int .i64 id, .int .i64 room, .int .i64 author, .int .i64 7, .int .i64 0, .int .i64 0, .string l, .slice none 0 0, .int .i64 time] (w3.setCell ⟨w.heap.size, 6, none⟩ (.string l))) := F.set 6 _
    clear hs hg hh hcz F
    go_wp2
    refine bodyPost_ret (v := .agg #[.int .i64 id, .int .i64 room, .int .i64 author, .int .i64 7, .int .i64 0, .int .i64 0, .string l, .slice none 0 0, .int .i64 time]) (by simp [results, Try.results95, go_sem, r0, r1, r2, r3, r4, r5, r6, r7, r8]) rfl ⟨_, _, _, _, rfl, HT.out, (((((((((HF.out.res 0 _).res 1 _).res 2 _).res 3 _).res 4 _).res 5 _).res 6 _).res 7 _).res 8 _).1, (((((((((HF.out.res 0 _).res 1 _).res 2 _).res 3 _).res 4 _).res 5 _).res 6 _).res 7 _).res 8 _).2.2.2.1⟩
  · go_wp2_with fail
    refine (draw_n base g 12 _ HF.out.1 (by omega)).mono ?_
    rintro e w2 ⟨rw2, rfl, g0w2, g1w2, -, hs, hg, -⟩
    have g2w2 : rw2 < 12 := g1w2 (by omega)
    have F := HF.out.num hs hg
    have a0 : w2.cell? ⟨w.heap.size, 0, none⟩ = some (.int .i64 id) := F.cell 0
    have a1 : w2.cell? ⟨w.heap.size, 1, none⟩ = some (.int .i64 room) := F.cell 1
    have a2 : w2.cell? ⟨w.heap.size, 2, none⟩ = some (.int .i64 author) := F.cell 2
    have a3 : w2.cell? ⟨w.heap.size, 3, none⟩ = some (.int .i64 8) := F.cell 3
    have a4 : w2.cell? ⟨w.heap.size, 4, none⟩ = some (.int .i64 0) := F.cell 4
    have a5 : w2.cell? ⟨w.heap.size, 5, none⟩ = some (.int .i64 0) := F.cell 5
    have a6 : w2.cell? ⟨w.heap.size, 6, none⟩ = some (.string ⟨#[]⟩) := F.cell 6
    have a7 : w2.cell? ⟨w.heap.size, 7, none⟩ = some (.slice none 0 0) := F.cell 7
    have a8 : w2.cell? ⟨w.heap.size, 8, none⟩ = some (.int .i64 time) := F.cell 8
    have fa : ∀ o, w2.frozen? ⟨w.heap.size, o, none⟩ = false := fun o => F.frozen o
    obtain ⟨cz, hcz, hh⟩ := F.2.2.1
    obtain ⟨u0, u1, u2, u3, u4, u5, u6, u7, u8, rfl⟩ := array9' hcz
    have fr : ∀ o, w2.frozen? ⟨w.heap.size + 1, o, none⟩ = false := fun o => frozen_of_heap hh
    have r0 : w2.cell? ⟨w.heap.size + 1, 0, none⟩ = some u0 := cell_of_heap hh
    have r1 : w2.cell? ⟨w.heap.size + 1, 1, none⟩ = some u1 := cell_of_heap hh
    have r2 : w2.cell? ⟨w.heap.size + 1, 2, none⟩ = some u2 := cell_of_heap hh
    have r3 : w2.cell? ⟨w.heap.size + 1, 3, none⟩ = some u3 := cell_of_heap hh
    have r4 : w2.cell? ⟨w.heap.size + 1, 4, none⟩ = some u4 := cell_of_heap hh
    have r5 : w2.cell? ⟨w.heap.size + 1, 5, none⟩ = some u5 := cell_of_heap hh
    have r6 : w2.cell? ⟨w.heap.size + 1, 6, none⟩ = some u6 := cell_of_heap hh
    have r7 : w2.cell? ⟨w.heap.size + 1, 7, none⟩ = some u7 := cell_of_heap hh
    have r8 : w2.cell? ⟨w.heap.size + 1, 8, none⟩ = some u8 := cell_of_heap hh
    have HF : Hid (FE w base g #[.int .i64 id, .int .i64 room, .int .i64 author, .int .i64 8, .int .i64 (1 + rw2), .int .i64 0, .string ⟨#[]⟩, .slice none 0 0, .int .i64 time] (w2.setCell ⟨w.heap.size, 4, none⟩ (.int .i64 (1 + rw2)))) := F.set 4 _
    clear hs hg g1w2 hh hcz F
    go_wp2
    refine bodyPost_ret (v := .agg #[.int .i64 id, .int .i64 room, .int .i64 author, .int .i64 8, .int .i64 (1 + rw2), .int .i64 0, .string ⟨#[]⟩, .slice none 0 0, .int .i64 time]) (by simp [results, Try.results95, go_sem, r0, r1, r2, r3, r4, r5, r6, r7, r8]) rfl ⟨_, _, _, _, rfl, Nat.zero_le _, (((((((((HF.out.res 0 _).res 1 _).res 2 _).res 3 _).res 4 _).res 5 _).res 6 _).res 7 _).res 8 _).1, (((((((((HF.out.res 0 _).res 1 _).res 2 _).res 3 _).res 4 _).res 5 _).res 6 _).res 7 _).res 8 _).2.2.2.1⟩
end Go.Proofs.Ytjdkenopfnepaaa
