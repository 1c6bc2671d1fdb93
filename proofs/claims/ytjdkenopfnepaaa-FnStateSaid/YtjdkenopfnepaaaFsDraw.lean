/- What is drawn for the law on states. -/
import Derived.Test.YtjdkenopfnepaaaFsSt
import Derived.Test.YtjdkenopfnepaaaSuDiff2
import Derived.BigQuiet
namespace Go.Proofs.Ytjdkenopfnepaaa
open Go.RowKit

theorem CodeAt.mono {w : World} {base base' : Nat} {a : Option Addr} {len : Nat} (h : CodeAt w base a len) (hb : base ≤ base') : CodeAt w base' a len := by
  refine ⟨h.1, fun hl => ?_⟩
  obtain ⟨b, off, ha, hbb, hbs, hc⟩ := h.2 hl
  exact ⟨b, off, ha, Nat.lt_of_lt_of_le hbb hb, hbs, hc⟩
theorem CodeAt.fresh {w w' : World} {a : Option Addr} {len : Nat} (h : CodeAt w w.heap.size a len) (hb : Below w.heap.size w w') : CodeAt w' w'.heap.size a len := (h.kept hb).mono hb.size
theorem grown_below2 {w w' : World} {base g : Nat} (hg : w.grownBy w' (some g)) (hB : base ≤ g) (hb : base ≤ w.heap.size) : Below base w w' :=
  ⟨hg.os, hg.tape, hg.output, hg.size, fun k hk => hg.block k (by omega) (by simp; omega)⟩
theorem SD.below {w : World} {base g n : Nat} {v : Value} {xs : List En} {W : World} (h : SD w base g n v xs W) : Below base w W := grown_below2 h.grown h.src.1 (by have := h.src.1; have := h.lt; omega)
theorem EnsOwn.row {w : World} {base n c : Nat} {a : Option Addr} {xs : List En} (h : EnsOwn w base (.slice a n c) xs) (hl : xs.length ≤ 1000) : EnsAt w a xs := by
  obtain ⟨a', c', e, _, h1, _⟩ := h.at (by omega)
  cases e
  exact h1
/-- A row, and an entry. -/
def DPut (w : World) (e : Ending) (w' : World) : Prop :=
  ∃ a c xs x, e = .returned (.tuple #[.slice a xs.length c, .agg #[.int .i64 x.kind, .int .i64 x.key, .int .i64 x.id]]) ∧ EnsAt w' a xs ∧ xs.length ≤ 8 ∧ (∀ e ∈ xs, EnD e) ∧ EnD x ∧ Below w.heap.size w w'
set_option maxHeartbeats 2000000 in
set_option maxRecDepth 100000 in
theorem draw_statePut (a : Option Addr) (len cap : Nat) (w : World) (hc : CodeAt w w.heap.size a len) :
    Calls Try.prog 21 #[.slice a len cap] w (DPut w) := by
  have HC : Hid (∀ o, CodeAt (w.alloc o) (w.alloc o).heap.size a len) := fun o => hc.fresh ((Below.refl _ _).alloc (Nat.le_refl _) _)
  clear hc
  go_enter Try.func21, Try.ntmps21
  obtain ⟨w0, HW0⟩ : ∃ q, Hid (q = w.alloc (.cells #[.int .i64 0, .int .i64 0, .int .i64 0] 40)) := ⟨_, rfl⟩
  have HC0 : Hid (CodeAt w0 w0.heap.size a len ∧ Below w.heap.size w w0 ∧ w0.heap[w.heap.size]? = some (.cells #[.int .i64 0, .int .i64 0, .int .i64 0] 40 (0, 0))) := by
    rw [HW0.out]
    exact ⟨HC.out _, (Below.refl _ _).alloc (Nat.le_refl _) _, (MapKept.heap_alloc w _).1⟩
  have hz0 : w.heap.size < w0.heap.size := (Array.getElem?_eq_some_iff.1 HC0.out.2.2).1
  go_wp2_with fail
  rw [← HW0.out]
  refine (draw_source w0.heap.size a len cap _ (Nat.le_refl _) HC0.out.1).mono ?_
  rintro e w1 ⟨g, rfl, hs1, hb1⟩
  have H1 : Hid (SrcAt w1 w0.heap.size g ∧ Below w0.heap.size w0 w1) := ⟨hs1, hb1⟩
  clear hs1 hb1
  go_wp2_with fail
  refine (draw_state w0.heap.size g _ H1.out.1).mono ?_
  rintro e w2 ⟨v, xs, rfl, ho, hl, hsm, hs2, hg2⟩
  obtain ⟨b, c, rfl, -, -, -⟩ := ho.at (by omega)
  have H2 : Hid (EnsOwn w2 w1.heap.size (.slice b xs.length c) xs ∧ (∀ e ∈ xs, EnD e) ∧ SrcAt w2 w0.heap.size g ∧ Below w0.heap.size w0 w2 ∧ g < w1.heap.size) := ⟨ho, hsm, hs2, H1.out.2.trans (grown_below2 hg2 H1.out.1.1 H1.out.2.size), H1.out.1.lt⟩
  clear ho hsm hs2 hg2
  go_wp2_with fail
  refine (draw_entry w0.heap.size g _ H2.out.2.2.1).mono ?_
  rintro e w3 ⟨x, rfl, hx, hs3, hg3⟩
  have hb03 : Below w0.heap.size w0 w3 := H2.out.2.2.2.1.trans (grown_below2 hg3 H2.out.2.2.1.1 H2.out.2.2.2.1.size)
  have hR : w3.heap[w.heap.size]? = some (.cells #[.int .i64 0, .int .i64 0, .int .i64 0] 40 (0, 0)) := (hb03.block _ hz0).trans HC0.out.2.2
  have H3 : Hid (EnsOwn w3 w1.heap.size (.slice b xs.length c) xs ∧ EnD x ∧ Below w.heap.size w w3 ∧ w.heap.size < w1.heap.size) := ⟨H2.out.1.keptBut hg3 H2.out.2.2.2.2, hx, HC0.out.2.1.trans (hb03.mono (by omega)), Nat.lt_of_lt_of_le hz0 H1.out.2.size⟩
  have r0 : w3.cell? ⟨w.heap.size, 0, none⟩ = some (.int .i64 0) := cell_of_heap hR
  have r1 : w3.cell? ⟨w.heap.size, 1, none⟩ = some (.int .i64 0) := cell_of_heap hR
  have r2 : w3.cell? ⟨w.heap.size, 2, none⟩ = some (.int .i64 0) := cell_of_heap hR
  have fr : ∀ o, w3.frozen? ⟨w.heap.size, o, none⟩ = false := fun o => frozen_of_heap hR
  clear hx hs3 hg3 hb03 hR
  go_wp2
  refine bodyPost_ret (v := .tuple #[.slice b xs.length c, .agg #[.int .i64 x.kind, .int .i64 x.key, .int .i64 x.id]]) (by simp [results, Try.results21, go_sem, r0, r1, r2]) rfl ⟨b, c, xs, x, rfl, EnsOwn.row (((H3.out.1.setCell H3.out.2.2.2).setCell H3.out.2.2.2).setCell H3.out.2.2.2) (by omega), hl, H2.out.2.1, H3.out.2.1, ((H3.out.2.2.1.setCell (Nat.le_refl _) _).setCell (Nat.le_refl _) _).setCell (Nat.le_refl _) _⟩
theorem below_drewN7 {k : Nat} {w W : World} (h : Below k w W) (n : Nat) : Below k w (W.drewN n) := ⟨h.os, h.tape, h.output, h.size, h.block⟩
/-- A row, and two numbers. -/
def DAt (w : World) (e : Ending) (w' : World) : Prop :=
  ∃ a c xs k y, e = .returned (.tuple #[.slice a xs.length c, .int .i64 k, .int .i64 y]) ∧ EnsAt w' a xs ∧ xs.length ≤ 8 ∧ (Lit.int .i64 k).wf = true ∧ (Lit.int .i64 y).wf = true ∧ Below w.heap.size w w'
theorem small_wf {k : Int} (h1 : -10 ≤ k) (h2 : k ≤ 10000000) : (Lit.int .i64 k).wf = true := WalkArith.wf_i64 ⟨by omega, by omega⟩
set_option maxHeartbeats 2000000 in
set_option maxRecDepth 100000 in
theorem draw_stateAt (a : Option Addr) (len cap : Nat) (w : World) (hc : CodeAt w w.heap.size a len) :
    Calls Try.prog 26 #[.slice a len cap] w (DAt w) := by
  have HC : Hid (CodeAt w w.heap.size a len) := hc
  clear hc
  go_enter Try.func26, Try.ntmps26
  go_wp2_with fail
  refine (draw_source w.heap.size a len cap _ (Nat.le_refl _) HC.out).mono ?_
  rintro e w1 ⟨g, rfl, hs1, hb1⟩
  have H1 : Hid (SrcAt w1 w.heap.size g ∧ Below w.heap.size w w1) := ⟨hs1, hb1⟩
  clear hs1 hb1
  go_wp2_with fail
  refine (draw_state w.heap.size g _ H1.out.1).mono ?_
  rintro e w2 ⟨v, xs, rfl, ho, hl, hsm, hs2, hg2⟩
  obtain ⟨b, c, rfl, -, -, -⟩ := ho.at (by omega)
  have H2 : Hid (SD w1 w.heap.size g 8 (.slice b xs.length c) xs w2) := ⟨ho, hsm, hs2, hg2, H1.out.1.lt, hl⟩
  clear ho hsm hs2 hg2
  have END : Hid (∀ (W : World) (k y : Int), SD w1 w.heap.size g 8 (.slice b xs.length c) xs W → -10 ≤ k → k ≤ 10000000 → -10 ≤ y → y ≤ 10000000 → DAt w (.returned (.tuple #[.slice b xs.length c, .int .i64 k, .int .i64 y])) W) := fun W k y h k0 k1 y0 y1 =>
    ⟨b, c, xs, k, y, rfl, h.own.row (by have := h.len; omega), h.len, small_wf k0 k1, small_wf y0 y1, H1.out.2.trans (h.below)⟩
  by_cases hp : 0 < xs.length
  · have hpb : decide ((0 : Int) < (xs.length : Int)) = true := decide_eq_true (by omega)
    go_wp2_with fail
    refine (draw_one w.heap.size g 3 _ H2.out.src (by omega)).mono ?_
    rintro e w3 ⟨b3, rfl, hs3, hg3, -⟩
    have H3 : Hid (SD w1 w.heap.size g 8 (.slice b xs.length c) xs w3) := H2.out.num hs3 hg3
    clear hs3 hg3
    cases b3
    · go_wp2_with fail
      refine (draw_n w.heap.size g xs.length _ H3.out.src (by omega)).mono ?_
      rintro e w4 ⟨r, rfl, p0, p1, p2, hs4, hg4, hz4⟩
      have H4 : Hid (SD w1 w.heap.size g 8 (.slice b xs.length c) xs w4) := H3.out.num hs4 hg4
      have hr : r < xs.length := by
        by_cases h : 1 < (xs.length : Int)
        · exact p1 h
        · have := p2 (by omega); omega
      clear hs4 hg4 hz4 p1 p2
      obtain ⟨n, rfl⟩ := Int.eq_ofNat_of_zero_le p0
      have hn : n < xs.length := by omega
      have hE := H4.out.own.row (by omega)
      obtain ⟨b1, off1, rfl, hbb1, hcell1⟩ := hE.row hp
      have hc0 : w4.cell? ⟨b1, off1 + n * 3, none⟩ = some (.int .i64 xs[n].kind) := by
        have := hcell1 n hn 0 (by omega)
        exact this
      have hc1 : w4.cell? ⟨b1, off1 + n * 3 + 1, none⟩ = some (.int .i64 xs[n].key) := by
        have := hcell1 n hn 1 (by omega)
        rwa [← Nat.add_assoc] at this
      have hc2 : w4.cell? ⟨b1, off1 + n * 3 + 2, none⟩ = some (.int .i64 xs[n].id) := by
        have := hcell1 n hn 2 (by omega)
        rwa [← Nat.add_assoc] at this
      have hd := H4.out.small xs[n] (List.getElem_mem hn)
      have H5 : Hid (∀ o m, SD w1 w.heap.size g 8 (.slice (some ⟨b1, off1, none⟩) xs.length c) xs ((w4.alloc o).drewN m)) := fun o m => (H4.out.on ((Below.refl _ _).alloc (Nat.le_refl _) o)).on (below_drewN7 (Below.refl _ _) m)
      obtain ⟨⟨k0, k1⟩, ⟨y0, y1⟩, -⟩ := hd
      clear hE hcell1
      go_wp2
      go_quiet (fail)
      go_wp2
      refine bodyPost_ret (v := .tuple #[.slice (some ⟨b1, off1, none⟩) xs.length c, .int .i64 xs[n].kind, .int .i64 xs[n].key]) (by simp [results, Try.results26, go_sem]) rfl (END.out _ _ _ (H5.out _ _) k0 k1 y0 y1)
    · go_wp2_with fail
      refine (draw_n w.heap.size g 8 _ H3.out.src (by omega)).mono ?_
      rintro e w4 ⟨r, rfl, p0, p1, p2, hs4, hg4, hz4⟩
      have q4 : r < 8 := p1 (by omega)
      have H4 : Hid (SD w1 w.heap.size g 8 (.slice b xs.length c) xs w4) := H3.out.num hs4 hg4
      clear hs4 hg4 hz4 p1 p2
      go_wp2_with fail
      refine (draw_n w.heap.size g 6 _ H4.out.src (by omega)).mono ?_
      rintro e w5 ⟨r2, rfl, p3, p4, p5, hs5, hg5, hz5⟩
      have q5 : r2 < 6 := p4 (by omega)
      have H5 : Hid (SD w1 w.heap.size g 8 (.slice b xs.length c) xs w5) := H4.out.num hs5 hg5
      clear hs5 hg5 hz5 p4 p5
      go_wp2
      refine bodyPost_ret (v := .tuple #[.slice b xs.length c, .int .i64 r, .int .i64 r2]) (by simp [results, Try.results26, go_sem]) rfl (END.out _ _ _ H5.out (by omega) (by omega) (by omega) (by omega))
  · have hpb : decide ((0 : Int) < (xs.length : Int)) = false := decide_eq_false (by omega)
    go_wp2_with fail
    refine (draw_n w.heap.size g 8 _ H2.out.src (by omega)).mono ?_
    rintro e w4 ⟨r, rfl, p0, p1, p2, hs4, hg4, hz4⟩
    have q4 : r < 8 := p1 (by omega)
    have H4 : Hid (SD w1 w.heap.size g 8 (.slice b xs.length c) xs w4) := H2.out.num hs4 hg4
    clear hs4 hg4 hz4 p1 p2
    go_wp2_with fail
    refine (draw_n w.heap.size g 6 _ H4.out.src (by omega)).mono ?_
    rintro e w5 ⟨r2, rfl, p3, p4, p5, hs5, hg5, hz5⟩
    have q5 : r2 < 6 := p4 (by omega)
    have H5 : Hid (SD w1 w.heap.size g 8 (.slice b xs.length c) xs w5) := H4.out.num hs5 hg5
    clear hs5 hg5 hz5 p4 p5
    go_wp2
    refine bodyPost_ret (v := .tuple #[.slice b xs.length c, .int .i64 r, .int .i64 r2]) (by simp [results, Try.results26, go_sem]) rfl (END.out _ _ _ H5.out (by omega) (by omega) (by omega) (by omega))
end Go.Proofs.Ytjdkenopfnepaaa
