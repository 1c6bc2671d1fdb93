/- What is drawn for the law on states: two rows. -/
import Derived.Test.YtjdkenopfnepaaaFsDraw
namespace Go.Proofs.Ytjdkenopfnepaaa
open Go.RowKit

/-- While a row is made: it lies above where w ends. -/
structure RD (w : World) (base g : Nat) (v : Value) (xs : List En) (W : World) : Prop where
  own : EnsOwn W w.heap.size v xs
  src : SrcAt W base g
  grown : w.grownBy W (some g)
  lt : g < w.heap.size
theorem RD.num {w : World} {base g : Nat} {v : Value} {xs : List En} {W w1 : World} (h : RD w base g v xs W) (hs : SrcAt w1 base g) (hg : W.grownBy w1 (some g)) : RD w base g v xs w1 := ⟨h.own.keptBut hg h.lt, hs, h.grown.trans hg, h.lt⟩
theorem RD.size {w : World} {base g : Nat} {v : Value} {xs : List En} {W : World} (h : RD w base g v xs W) : w.heap.size ≤ W.heap.size := h.grown.size
theorem RD.on {w : World} {base g : Nat} {v : Value} {xs : List En} {W w1 : World} (h : RD w base g v xs W) (hb : Below W.heap.size W w1) : RD w base g v xs w1 := by
  have hz := h.size
  have hl := h.lt
  have hB := h.src.1
  exact ⟨h.own.kept hb, h.src.on hb (by omega) (by omega), grown_on h.grown hb hz, h.lt⟩
/-- The row is another one now; nothing below where w ends has changed. -/
theorem RD.new {w : World} {base g : Nat} {v v' : Value} {xs ys : List En} {W w1 : World} (h : RD w base g v xs W) (hb : Below w.heap.size W w1) (ho : EnsOwn w1 w.heap.size v' ys) : RD w base g v' ys w1 := by
  have hB := h.src.1
  have hl := h.lt
  exact ⟨ho, h.src.on hb (by omega) hl, grown_on h.grown hb (Nat.le_refl _), h.lt⟩
theorem RD.put {w : World} {base g : Nat} {v v' : Value} {xs ys : List En} {W w1 : World} (h : RD w base g v xs W) (hb : Below W.heap.size W w1) (ho : EnsOwn w1 W.heap.size v' ys) : RD w base g v' ys w1 := h.new (hb.mono h.size) (owns_baseC ho h.size)
/-- Two rows. -/
def DRows (w : World) (e : Ending) (w' : World) : Prop :=
  ∃ a c xs d q ys, e = .returned (.tuple #[.slice a xs.length c, .slice d ys.length q]) ∧ EnsAt w' a xs ∧ EnsAt w' d ys ∧ xs.length ≤ 8 ∧ ys.length ≤ 20 ∧ Below w.heap.size w w'
/-- The first row, kept from below. -/
structure FR (a : Option Addr) (xs : List En) (top g : Nat) (W : World) : Prop where
  row : EnsAt W a xs
  blk : 0 < xs.length → ∃ q off, a = some ⟨q, off, none⟩ ∧ q < top ∧ q ≠ g
theorem FR.of {w W : World} {base g n c : Nat} {a : Option Addr} {xs : List En} (h : SD w base g n (.slice a xs.length c) xs W) (hn : n ≤ 1000) : FR a xs W.heap.size g W := by
  have hr := h.own.row (by have := h.len; omega)
  have hl := h.lt
  refine ⟨hr, fun hp => ?_⟩
  obtain ⟨b, off, ha, hb, _⟩ := hr.row hp
  obtain ⟨a', c', e, _, _, h2⟩ := h.own.at (by have := h.len; omega)
  cases e
  rcases h2 with ⟨h0, _⟩ | ⟨q, hq, hqb⟩
  · rw [h0] at ha; cases ha
  · rw [hq] at ha
    cases ha
    exact ⟨b, 0, hq, hb, by omega⟩
theorem FR.num {a : Option Addr} {xs : List En} {top g : Nat} {W W' : World} (h : FR a xs top g W) (hg : W.grownBy W' (some g)) : FR a xs top g W' := by
  refine ⟨⟨h.row.len, fun hp => ?_⟩, h.blk⟩
  obtain ⟨b, off, ha, hb, hc⟩ := h.row.row hp
  obtain ⟨q, off', ha', hq, hqg⟩ := h.blk hp
  rw [ha] at ha'
  cases ha'
  have hk := hg.block b hb (by simpa using hqg)
  exact ⟨b, off, ha, Nat.lt_of_lt_of_le hb hg.size, fun i hi j hj => (World.cell?_of_block (a := ⟨b, off + (i * 3 + j), none⟩) hk).trans (hc i hi j hj)⟩
theorem FR.on {a : Option Addr} {xs : List En} {top g n : Nat} {W W' : World} (h : FR a xs top g W) (hb : Below n W W') (hn : top ≤ n) : FR a xs top g W' := by
  refine ⟨⟨h.row.len, fun hp => ?_⟩, h.blk⟩
  obtain ⟨b, off, ha, hbb, hc⟩ := h.row.row hp
  obtain ⟨q, off', ha', hq, hqg⟩ := h.blk hp
  rw [ha] at ha'
  cases ha'
  exact ⟨b, off, ha, Nat.lt_of_lt_of_le hbb hb.size, fun i hi j hj => (World.cell?_of_block (a := ⟨b, off + (i * 3 + j), none⟩) (hb.block b (by omega))).trans (hc i hi j hj)⟩
/-- Both rows. -/
structure BR (w w3 : World) (base g m : Nat) (a : Option Addr) (xs : List En) (v : Value) (ys : List En) (W : World) : Prop where
  fst : FR a xs w3.heap.size g W
  snd : RD w3 base g v ys W
  len : ys.length ≤ m
theorem BR.num {w w3 : World} {base g m : Nat} {a : Option Addr} {xs : List En} {v : Value} {ys : List En} {W W' : World} (h : BR w w3 base g m a xs v ys W) (hs : SrcAt W' base g) (hg : W.grownBy W' (some g)) : BR w w3 base g m a xs v ys W' := ⟨h.fst.num hg, h.snd.num hs hg, h.len⟩
theorem BR.on {w w3 : World} {base g m : Nat} {a : Option Addr} {xs : List En} {v : Value} {ys : List En} {W W' : World} (h : BR w w3 base g m a xs v ys W) (hb : Below W.heap.size W W') : BR w w3 base g m a xs v ys W' := ⟨h.fst.on hb h.snd.size, h.snd.on hb, h.len⟩
theorem BR.more {w w3 : World} {base g m k : Nat} {a : Option Addr} {xs : List En} {v : Value} {ys : List En} {W : World} (h : BR w w3 base g m a xs v ys W) (hk : m ≤ k) : BR w w3 base g k a xs v ys W := ⟨h.fst, h.snd, Nat.le_trans h.len hk⟩
theorem BR.put {w w3 : World} {base g m : Nat} {a : Option Addr} {xs : List En} {v v' : Value} {ys : List En} {x : En} {W W' : World} (h : BR w w3 base g m a xs v ys W) (hb : Below W.heap.size W W') (ho : EnsOwn W' W.heap.size v' (putE ys x)) : BR w w3 base g (m + 1) a xs v' (putE ys x) W' := ⟨h.fst.on hb h.snd.size, h.snd.put hb ho, Nat.le_trans (putE_length ys x) (Nat.succ_le_succ h.len)⟩
theorem BR.add {w w3 : World} {base g m : Nat} {a : Option Addr} {xs : List En} {v v' : Value} {ys : List En} {x : En} {W W' : World} (h : BR w w3 base g m a xs v ys W) (hb : Below w3.heap.size W W') (ho : EnsOwn W' w3.heap.size v' (ys ++ [x])) : BR w w3 base g (m + 1) a xs v' (ys ++ [x]) W' := ⟨h.fst.on hb (Nat.le_refl _), h.snd.new hb ho, by have := h.len; simp; omega⟩
theorem BR.below {w w3 : World} {base g m : Nat} {a : Option Addr} {xs : List En} {v : Value} {ys : List En} {W : World} (h : BR w w3 base g m a xs v ys W) : Below base w3 W := grown_below2 h.snd.grown h.snd.src.1 (by have := h.snd.src.1; have := h.snd.lt; omega)
set_option maxHeartbeats 8000000 in
set_option maxRecDepth 100000 in
theorem draw_stateApply (a : Option Addr) (len cap : Nat) (w : World) (hc : CodeAt w w.heap.size a len) :
    Calls Try.prog 25 #[.slice a len cap] w (DRows w) := by
  obtain ⟨i0, hi, hz0, hz1, hz2⟩ := info_parts Try.infoEn
  have HC : Hid (CodeAt w w.heap.size a len) := hc
  clear hc
  go_enter Try.func25, Try.ntmps25
  go_wp2_with fail
  refine (draw_source w.heap.size a len cap _ (Nat.le_refl _) HC.out).mono ?_
  rintro e w1 ⟨g, rfl, hs1, hb1⟩
  have H1 : Hid (SrcAt w1 w.heap.size g ∧ Below w.heap.size w w1) := ⟨hs1, hb1⟩
  clear hs1 hb1
  go_wp2_with fail
  refine (draw_state w.heap.size g _ H1.out.1).mono ?_
  rintro e w2 ⟨v, xs, rfl, ho, hl, hsm, hs2, hg2⟩
  obtain ⟨b, c, rfl, -, -, -⟩ := ho.at (by omega)
  have hsd : SD w1 w.heap.size g 8 (.slice b xs.length c) xs w2 := ⟨ho, hsm, hs2, hg2, H1.out.1.lt, hl⟩
  have H2 : Hid (SrcAt w2 w.heap.size g ∧ Below w.heap.size w w2 ∧ FR b xs w2.heap.size g w2) := ⟨hs2, H1.out.2.trans hsd.below, FR.of hsd (by omega)⟩
  clear ho hsm hs2 hg2 hsd
  go_wp2_with fail
  refine (draw_state w.heap.size g _ H2.out.1).mono ?_
  rintro e w3 ⟨v3, ys, rfl, ho3, hl3, hsm3, hs3, hg3⟩
  obtain ⟨d, q, rfl, -, -, -⟩ := ho3.at (by omega)
  have H3 : Hid (SrcAt w3 w.heap.size g ∧ Below w.heap.size w w3 ∧ FR b xs w3.heap.size g w3 ∧ EnsAt w3 d ys) := by
    have hf := H2.out.2.2.num hg3
    exact ⟨hs3, H2.out.2.1.trans (grown_below2 hg3 H2.out.1.1 H2.out.2.1.size), ⟨hf.row, fun hp => by
      obtain ⟨k, off, h1, h2, h3⟩ := hf.blk hp
      exact ⟨k, off, h1, Nat.lt_of_lt_of_le h2 hg3.size, h3⟩⟩, ho3.row (by omega)⟩
  clear ho3 hsm3 hs3 hg3
  go_wp2_with fail
  refine (stateDiff_spec xs ys b d c q w3 H3.out.2.2.1.row H3.out.2.2.2).mono ?_
  rintro e w4 ⟨v4, rfl, ho4, hb4⟩
  have hsl : (sdL xs ys).length ≤ 16 := by
    by_cases h : rowE false xs = true ∧ rowE false ys = true
    · rw [sd_ok h.1 h.2]
      have := difE_length xs ys
      omega
    · rw [sd_bad h]; simp
  have hzw : w.heap.size ≤ w3.heap.size := H3.out.2.1.size
  have hgl : g < w3.heap.size := H3.out.1.lt
  have H4 : Hid (BR w w3 w.heap.size g 16 b xs v4 (sdL xs ys) w4) := ⟨H3.out.2.2.1.on hb4 (Nat.le_refl _), ⟨ho4, H3.out.1.on hb4 hzw hgl, ⟨hb4.os, hb4.tape, hb4.output, hb4.size, fun k hk _ => hb4.block k hk⟩, hgl⟩, hsl⟩
  clear ho4 hb4
  obtain ⟨d4, q4, rfl, -, -, -⟩ := H4.out.snd.own.at (by omega)
  go_wp2_with fail
  refine (draw_one w.heap.size g 8 _ H4.out.snd.src (by omega)).mono ?_
  rintro e w5 ⟨b5, rfl, hs5, hg5, -⟩
  have H5 : Hid (BR w w3 w.heap.size g 16 b xs (.slice d4 (sdL xs ys).length q4) (sdL xs ys) w5) := H4.out.num hs5 hg5
  clear hs5 hg5
  cases b5
  · go_wp2
    go_ret2
    exact ⟨b, c, xs, d4, q4, sdL xs ys, rfl, H5.out.fst.row, H5.out.snd.own.row (by omega), hl, by omega, H3.out.2.1.trans H5.out.below⟩
  · go_wp2_with fail
    refine (draw_entry w.heap.size g _ H5.out.snd.src).mono ?_
    rintro e w6 ⟨x, rfl, hx, hs6, hg6⟩
    have H6 : Hid (∀ o, BR w w3 w.heap.size g 16 b xs (.slice d4 (sdL xs ys).length q4) (sdL xs ys) (w6.alloc o)) := fun o => (H5.out.num hs6 hg6).on ((Below.refl _ _).alloc (Nat.le_refl _) _)
    have hz6 : w3.heap.size ≤ w6.heap.size := (H5.out.num hs6 hg6).snd.size
    clear hs6 hg6 hx
    go_wp2_with (at_builtin; refine wpList_append_ens rfl _ _ 38 rfl i0 _ Try.underlying38 hi hz0 hz1 hz2 rfl w3.heap.size _ (sdL xs ys) rfl (H6.out _).snd.own _ _ [x] (ensAt_one (MapKept.heap_alloc _ _).1) rfl (by simp; omega) (by simp; omega) ?_; intro v7 w7 hO7 hb7 _; have H7 : Hid (BR w w3 w.heap.size g 17 b xs v7 (sdL xs ys ++ [x]) w7) := (H6.out _).add hb7 hO7; clear hO7 hb7)
    obtain ⟨d7, q7, rfl, -, -, -⟩ := H7.out.snd.own.at (by have := H7.out.len; omega)
    go_ret2
    exact ⟨b, c, xs, d7, q7, sdL xs ys ++ [x], rfl, H7.out.fst.row, H7.out.snd.own.row (by have := H7.out.len; omega), hl, by have := H7.out.len; omega, H3.out.2.1.trans H7.out.below⟩
end Go.Proofs.Ytjdkenopfnepaaa
