/- StatePut, of the specification and of the program. -/
import Derived.Test.YtjdkenopfnepaaaSuRowI
import Derived.Test.YtjdkenopfnepaaaSuSpec
namespace Go.Proofs.Ytjdkenopfnepaaa
open Go.RowKit

/-- What StatePut answers: a code, and a row. -/
def spC (xs : List En) (x : En) : Int := if 400 < xs.length then 2 else if rowE false xs = true ∧ entB false x = true then 0 else 1
def spL (xs : List En) (x : En) : List En := if 400 < xs.length then [] else if rowE false xs = true ∧ entB false x = true then putE xs x else []
theorem sp_big {xs : List En} {x : En} (h : 400 < xs.length) : spC xs x = 2 ∧ spL xs x = [] := ⟨if_pos h, if_pos h⟩
theorem sp_bad {xs : List En} {x : En} (h : ¬ 400 < xs.length) (h2 : ¬ (rowE false xs = true ∧ entB false x = true)) : spC xs x = 1 ∧ spL xs x = [] := by
  unfold spC spL
  rw [if_neg h, if_neg h, if_neg h2, if_neg h2]
  exact ⟨rfl, rfl⟩
theorem sp_ok {xs : List En} {x : En} (h : ¬ 400 < xs.length) (h1 : rowE false xs = true) (h2 : entB false x = true) : spC xs x = 0 ∧ spL xs x = putE xs x := by
  unfold spC spL
  rw [if_neg h, if_neg h, if_pos ⟨h1, h2⟩, if_pos ⟨h1, h2⟩]
  exact ⟨rfl, rfl⟩
def OutPost (w : World) (c : Int) (xs : List En) (e : Ending) (w' : World) : Prop := ∃ v, e = .returned (.agg #[v, .int .i64 c]) ∧ EnsOwn w' w.heap.size v xs ∧ Below w.heap.size w w'
/-- The entry's variable and the result's, in mid-call. -/
structure RBox (w : World) (x : En) (W : World) : Prop where
  below : Below w.heap.size w W
  box : W.heap[w.heap.size]? = some (.cells #[.int .i64 x.kind, .int .i64 x.key, .int .i64 x.id] 40 (0, 0))
  res : W.heap[w.heap.size + 1]? = some (.cells #[.slice none 0 0, .int .i64 0] 44 (0, 0))
theorem RBox.start (w : World) (x : En) : RBox w x ((w.alloc (.cells #[.int .i64 x.kind, .int .i64 x.key, .int .i64 x.id] 40)).alloc (.cells #[.slice none 0 0, .int .i64 0] 44)) :=
  ⟨((Below.refl _ _).alloc (Nat.le_refl _) _).alloc (by simp) _, (Below.heap_alloc _ _ _ (by simp)).trans (MapKept.heap_alloc w _).1, new_blockC _ _ _ (by simp)⟩
theorem RBox.on {w : World} {x : En} {W W' : World} (h : RBox w x W) (hb : Below (w.heap.size + 1 + 1) W W') : RBox w x W' := ⟨h.below.trans (hb.mono (by omega)), (hb.block _ (by omega)).trans h.box, (hb.block _ (by omega)).trans h.res⟩
theorem RBox.lt {w : World} {x : En} {W : World} (h : RBox w x W) : w.heap.size + 1 + 1 ≤ W.heap.size := (Array.getElem?_eq_some_iff.1 h.res).1
theorem EnsOwn.setCell {w : World} {base b o : Nat} {v u : Value} {xs : List En} (h : EnsOwn w base v xs) (hb : b < base) : EnsOwn (w.setCell ⟨b, o, none⟩ u) base v xs := by
  refine ⟨h.1, ?_⟩
  rcases h.2 with h0 | ⟨g, cap, cur, h1, h2, h3, r⟩
  · exact .inl h0
  · exact .inr ⟨g, cap, cur, h1, h2, (heap_setCell_other w ⟨b, o, none⟩ g u (by show g ≠ b; omega)).trans h3, r⟩
set_option maxHeartbeats 4000000 in
set_option maxRecDepth 100000 in
theorem statePut_spec (xs : List En) (x : En) (a : Option Addr) (cap : Nat) (w : World) (h : EnsAt w a xs) :
    Calls Try.prog 28 #[.slice a xs.length cap, .agg #[.int .i64 x.kind, .int .i64 x.key, .int .i64 x.id]] w (OutPost w (spC xs x) (spL xs x)) := by
  have hl := h.len
  have HE : Hid (∀ w', Below w.heap.size w w' → EnsAt w' a xs) := fun w' hb => h.kept hb
  have H0 : Hid (RBox w x ((w.alloc (.cells #[.int .i64 x.kind, .int .i64 x.key, .int .i64 x.id] 40)).alloc (.cells #[.slice none 0 0, .int .i64 0] 44))) := RBox.start w x
  clear h
  by_cases hbig : 400 < xs.length
  · have HS : Hid (spC xs x = 2 ∧ spL xs x = []) := sp_big hbig
    rw [HS.out.1, HS.out.2]
    go_enter Try.func28, Try.ntmps28
    go_wp2
    refine bodyPost_ret (v := .agg #[.slice none 0 0, .int .i64 2]) (by simp [results, Try.results28, go_sem]) rfl ⟨_, rfl, EnsOwn.nil _ _, ?_⟩
    first
      | exact ((H0.out.below.setCell (by simp) _).setCell (by simp) _)
      | exact ((Below.refl _ _).alloc (Nat.le_refl _) _).alloc (by simp) _
  · have hb4 : decide ((400 : Int) < (xs.length : Int)) = false := decide_eq_false (by omega)
    have HST := state_spec_ xs a cap _ (HE.out _ H0.out.below)
    cases hr : rowE false xs
    · have HS : Hid (spC xs x = 1 ∧ spL xs x = []) := sp_bad hbig (by rw [hr]; simp)
      rw [HS.out.1, HS.out.2]
      go_enter Try.func28, Try.ntmps28
      go_wp2_with fail
      refine HST.mono ?_
      rintro e w1 ⟨rfl, hb1⟩
      rw [hr]
      have H1 : Hid (RBox w x w1) := H0.out.on (hb1.mono (by simp))
      have hq0 : w1.cell? ⟨w.heap.size + 1, 0, none⟩ = some (.slice none 0 0) := cell_of_heap H1.out.res
      have hq1 : w1.cell? ⟨w.heap.size + 1, 1, none⟩ = some (.int .i64 0) := cell_of_heap H1.out.res
      have hf : ∀ q, w1.frozen? ⟨w.heap.size + 1, q, none⟩ = false := fun q => frozen_of_heap H1.out.res
      clear hb1 HST
      go_wp2
      refine bodyPost_ret (v := .agg #[.slice none 0 0, .int .i64 1]) (by simp [results, Try.results28, go_sem, hq0, hq1]) rfl ⟨_, rfl, EnsOwn.nil _ _, ?_⟩
      exact ((H1.out.below.setCell (by simp) _).setCell (by simp) _)
    · have HRW : Hid (rowE false xs = true) := hr
      have HEX := fun W => ent_spec false x W
      cases he : entB false x
      · have HS : Hid (spC xs x = 1 ∧ spL xs x = []) := sp_bad hbig (by rw [he]; simp)
        rw [HS.out.1, HS.out.2]
        go_enter Try.func28, Try.ntmps28
        go_wp2_with fail
        refine HST.mono ?_
        rintro e w1 ⟨rfl, hb1⟩
        rw [hr]
        have H1 : Hid (RBox w x w1) := H0.out.on (hb1.mono (by simp))
        have hp0 : w1.cell? ⟨w.heap.size, 0, none⟩ = some (.int .i64 x.kind) := cell_of_heap H1.out.box
        have hp1 : w1.cell? ⟨w.heap.size, 1, none⟩ = some (.int .i64 x.key) := cell_of_heap H1.out.box
        have hp2 : w1.cell? ⟨w.heap.size, 2, none⟩ = some (.int .i64 x.id) := cell_of_heap H1.out.box
        clear hb1 HST
        go_wp2_with fail
        refine (HEX _).mono ?_
        rintro e w2 ⟨rfl, hb2⟩
        rw [he]
        have H2 : Hid (RBox w x w2) := H1.out.on (hb2.mono H1.out.lt)
        have hq0 : w2.cell? ⟨w.heap.size + 1, 0, none⟩ = some (.slice none 0 0) := cell_of_heap H2.out.res
        have hq1 : w2.cell? ⟨w.heap.size + 1, 1, none⟩ = some (.int .i64 0) := cell_of_heap H2.out.res
        have hf : ∀ q, w2.frozen? ⟨w.heap.size + 1, q, none⟩ = false := fun q => frozen_of_heap H2.out.res
        clear hb2 hp0 hp1 hp2
        go_wp2
        refine bodyPost_ret (v := .agg #[.slice none 0 0, .int .i64 1]) (by simp [results, Try.results28, go_sem, hq0, hq1]) rfl ⟨_, rfl, EnsOwn.nil _ _, ?_⟩
        exact ((H2.out.below.setCell (by simp) _).setCell (by simp) _)
      · have HS : Hid (spC xs x = 0 ∧ spL xs x = putE xs x) := sp_ok hbig hr he
        rw [HS.out.1, HS.out.2]
        go_enter Try.func28, Try.ntmps28
        go_wp2_with fail
        refine HST.mono ?_
        rintro e w1 ⟨rfl, hb1⟩
        rw [hr]
        have H1 : Hid (RBox w x w1) := H0.out.on (hb1.mono (by simp))
        have hp0 : w1.cell? ⟨w.heap.size, 0, none⟩ = some (.int .i64 x.kind) := cell_of_heap H1.out.box
        have hp1 : w1.cell? ⟨w.heap.size, 1, none⟩ = some (.int .i64 x.key) := cell_of_heap H1.out.box
        have hp2 : w1.cell? ⟨w.heap.size, 2, none⟩ = some (.int .i64 x.id) := cell_of_heap H1.out.box
        clear hb1 HST
        go_wp2_with fail
        refine (HEX _).mono ?_
        rintro e w2 ⟨rfl, hb2⟩
        rw [he]
        have H2 : Hid (RBox w x w2) := H1.out.on (hb2.mono H1.out.lt)
        have hs0 : w2.cell? ⟨w.heap.size, 0, none⟩ = some (.int .i64 x.kind) := cell_of_heap H2.out.box
        have hs1 : w2.cell? ⟨w.heap.size, 1, none⟩ = some (.int .i64 x.key) := cell_of_heap H2.out.box
        have hs2 : w2.cell? ⟨w.heap.size, 2, none⟩ = some (.int .i64 x.id) := cell_of_heap H2.out.box
        clear hb2 hp0 hp1 hp2
        go_wp2_with fail
        refine (put_spec xs x a cap w2 (HE.out _ H2.out.below) (by omega)).mono ?_
        rintro e w3 ⟨v, rfl, ho3, hb3⟩
        have H3 : Hid (RBox w x w3) := H2.out.on (hb3.mono H2.out.lt)
        have hz2 := H2.out.lt
        have HO3 : Hid (EnsOwn w3 (w.heap.size + 1 + 1) v (putE xs x)) := owns_baseC ho3 hz2
        have hq0 : w3.cell? ⟨w.heap.size + 1, 0, none⟩ = some (.slice none 0 0) := cell_of_heap H3.out.res
        have hq1 : w3.cell? ⟨w.heap.size + 1, 1, none⟩ = some (.int .i64 0) := cell_of_heap H3.out.res
        have hf : ∀ q, w3.frozen? ⟨w.heap.size + 1, q, none⟩ = false := fun q => frozen_of_heap H3.out.res
        obtain ⟨a3, c3, rfl, -, -, -⟩ := ho3.at (by have := putE_length xs x; omega)
        clear hb3 ho3 hs0 hs1 hs2
        go_wp2
        refine bodyPost_ret (v := .agg #[.slice a3 (putE xs x).length c3, .int .i64 0]) (by simp [results, Try.results28, go_sem, hq0, hq1]) rfl ⟨_, rfl, owns_baseC ((HO3.out.setCell (by omega)).setCell (by omega)) (by omega), ?_⟩
        exact ((H3.out.below.setCell (by simp) _).setCell (by simp) _)
theorem ent_in {x : En} (h : entB false x = true) : EnIn x ∧ (x.id == 0) = false := by
  simp only [entB, slotB, Bool.and_eq_true, Bool.false_and, Bool.or_false] at h
  have hk := isB_yes h.1.1
  have hy := isB_yes h.1.2
  have hi := isB_yes h.2
  exact ⟨⟨wf_small ⟨by omega, by omega⟩, wf_small ⟨by omega, by omega⟩⟩, by simp; omega⟩
set_option maxHeartbeats 4000000 in
set_option maxRecDepth 100000 in
theorem statePut_impl (xs : List En) (x : En) (a : Option Addr) (cap : Nat) (w : World) (h : EnsAt w a xs) :
    Calls Try.prog 22 #[.slice a xs.length cap, .agg #[.int .i64 x.kind, .int .i64 x.key, .int .i64 x.id]] w (OutPost w (spC xs x) (spL xs x)) := by
  have hl := h.len
  have HE : Hid (∀ w', Below w.heap.size w w' → EnsAt w' a xs) := fun w' hb => h.kept hb
  have H0 : Hid (RBox w x ((w.alloc (.cells #[.int .i64 x.kind, .int .i64 x.key, .int .i64 x.id] 40)).alloc (.cells #[.slice none 0 0, .int .i64 0] 44))) := RBox.start w x
  clear h
  by_cases hbig : 400 < xs.length
  · have HS : Hid (spC xs x = 2 ∧ spL xs x = []) := sp_big hbig
    rw [HS.out.1, HS.out.2]
    go_enter Try.func22, Try.ntmps22
    go_wp2
    refine bodyPost_ret (v := .agg #[.slice none 0 0, .int .i64 2]) (by simp [results, Try.results22, go_sem]) rfl ⟨_, rfl, EnsOwn.nil _ _, ?_⟩
    exact ((Below.refl _ _).alloc (Nat.le_refl _) _).alloc (by simp) _
  · have hb4 : decide ((400 : Int) < (xs.length : Int)) = false := decide_eq_false (by omega)
    have HST := standing_impl xs a cap _ (HE.out _ H0.out.below)
    cases hr : rowE false xs
    · have HS : Hid (spC xs x = 1 ∧ spL xs x = []) := sp_bad hbig (by rw [hr]; simp)
      rw [HS.out.1, HS.out.2]
      go_enter Try.func22, Try.ntmps22
      go_wp2_with fail
      refine HST.mono ?_
      rintro e w1 (⟨_, rfl, hb1⟩ | ⟨h1, _⟩)
      · have H1 : Hid (RBox w x w1) := H0.out.on (hb1.mono (by simp))
        have hq0 : w1.cell? ⟨w.heap.size + 1, 0, none⟩ = some (.slice none 0 0) := cell_of_heap H1.out.res
        have hq1 : w1.cell? ⟨w.heap.size + 1, 1, none⟩ = some (.int .i64 0) := cell_of_heap H1.out.res
        have hf : ∀ q, w1.frozen? ⟨w.heap.size + 1, q, none⟩ = false := fun q => frozen_of_heap H1.out.res
        clear hb1 HST
        go_wp2
        refine bodyPost_ret (v := .agg #[.slice none 0 0, .int .i64 1]) (by simp [results, Try.results22, go_sem, hq0, hq1]) rfl ⟨_, rfl, EnsOwn.nil _ _, ?_⟩
        exact ((H1.out.below.setCell (by simp) _).setCell (by simp) _)
      · rw [hr] at h1
        cases h1
    · have HRI : Hid (xs.length ≤ 400 ∧ riseB xs = true ∧ ∀ x ∈ xs, EnIn x ∧ (x.id == 0) = false) := rowE_in hr
      cases he : entB false x
      · have HS : Hid (spC xs x = 1 ∧ spL xs x = []) := sp_bad hbig (by rw [he]; simp)
        rw [HS.out.1, HS.out.2]
        go_enter Try.func22, Try.ntmps22
        go_wp2_with fail
        refine HST.mono ?_
        rintro e w1 (⟨h1, _⟩ | ⟨_, b, rfl, hbn, hown, hb1⟩)
        · rw [hr] at h1
          cases h1
        · have H1 : Hid (RBox w x w1) := H0.out.on (hb1.mono (by simp))
          have hp0 : w1.cell? ⟨w.heap.size, 0, none⟩ = some (.int .i64 x.kind) := cell_of_heap H1.out.box
          have hp1 : w1.cell? ⟨w.heap.size, 1, none⟩ = some (.int .i64 x.key) := cell_of_heap H1.out.box
          have hp2 : w1.cell? ⟨w.heap.size, 2, none⟩ = some (.int .i64 x.id) := cell_of_heap H1.out.box
          clear hb1 HST hown
          go_wp2_with fail
          refine (canStand_impl x _).mono ?_
          rintro e w2 ⟨rfl, hb2⟩
          rw [he]
          have H2 : Hid (RBox w x w2) := H1.out.on (hb2.mono H1.out.lt)
          have hq0 : w2.cell? ⟨w.heap.size + 1, 0, none⟩ = some (.slice none 0 0) := cell_of_heap H2.out.res
          have hq1 : w2.cell? ⟨w.heap.size + 1, 1, none⟩ = some (.int .i64 0) := cell_of_heap H2.out.res
          have hf : ∀ q, w2.frozen? ⟨w.heap.size + 1, q, none⟩ = false := fun q => frozen_of_heap H2.out.res
          clear hb2 hp0 hp1 hp2
          go_wp2
          refine bodyPost_ret (v := .agg #[.slice none 0 0, .int .i64 1]) (by simp [results, Try.results22, go_sem, hq0, hq1]) rfl ⟨_, rfl, EnsOwn.nil _ _, ?_⟩
          exact ((H2.out.below.setCell (by simp) _).setCell (by simp) _)
      · have HS : Hid (spC xs x = 0 ∧ spL xs x = putE xs x) := sp_ok hbig hr he
        have HXI : Hid (EnIn x ∧ (x.id == 0) = false) := ent_in he
        rw [HS.out.1, HS.out.2]
        go_enter Try.func22, Try.ntmps22
        go_wp2_with fail
        refine HST.mono ?_
        rintro e w1 (⟨h1, _⟩ | ⟨_, b, rfl, hbn, hown, hb1⟩)
        · rw [hr] at h1
          cases h1
        · have H1 : Hid (RBox w x w1) := H0.out.on (hb1.mono (by simp))
          have hp0 : w1.cell? ⟨w.heap.size, 0, none⟩ = some (.int .i64 x.kind) := cell_of_heap H1.out.box
          have hp1 : w1.cell? ⟨w.heap.size, 1, none⟩ = some (.int .i64 x.key) := cell_of_heap H1.out.box
          have hp2 : w1.cell? ⟨w.heap.size, 2, none⟩ = some (.int .i64 x.id) := cell_of_heap H1.out.box
          have HM1 : Hid (SMap w1 b xs.length (lookS xs.reverse)) := ⟨_, hown, mapIs_putS fun u hu => (HRI.out.2.2 u (by simpa using hu)).1⟩
          have hbw : w.heap.size + 1 + 1 ≤ b := by simpa using hbn
          clear hb1 HST hown hbn
          go_wp2_with fail
          refine (canStand_impl x _).mono ?_
          rintro e w2 ⟨rfl, hb2⟩
          rw [he]
          have H2 : Hid (RBox w x w2) := H1.out.on (hb2.mono H1.out.lt)
          have HM2 : Hid (SMap w2 b xs.length (lookS xs.reverse)) := HM1.out.kept hb2
          have hs0 : w2.cell? ⟨w.heap.size, 0, none⟩ = some (.int .i64 x.kind) := cell_of_heap H2.out.box
          have hs1 : w2.cell? ⟨w.heap.size, 1, none⟩ = some (.int .i64 x.key) := cell_of_heap H2.out.box
          have hs2 : w2.cell? ⟨w.heap.size, 2, none⟩ = some (.int .i64 x.id) := cell_of_heap H2.out.box
          clear hb2 hp0 hp1 hp2
          go_wp2_with fail
          refine (smap_put x _ b xs.length w2 HM2.out (by unfold maxLen; omega) HXI.out.1 HXI.out.2).mono ?_
          rintro e w3 ⟨rfl, hm3, hg3⟩
          have H3 : Hid (RBox w x w3) := H2.out.on ((Below.refl _ _).grown hg3 H2.out.lt (fun k e => by cases e; exact hbw))
          have HR3 := row_of_impl _ b _ w3 hm3 (by omega)
          clear hm3 hg3 hs0 hs1 hs2
          go_wp2_with fail
          refine HR3.mono ?_
          rintro e w4 ⟨v, zs, rfl, hz, ho4, hln4, hb4'⟩
          obtain rfl : zs = putE xs x := hz.uniq ((rowIs_of HRI.out.2.1).put x)
          have H4 : Hid (RBox w x w4) := H3.out.on (hb4'.mono H3.out.lt)
          have hz3 := H3.out.lt
          have HO4 : Hid (EnsOwn w4 (w.heap.size + 1 + 1) v (putE xs x)) := owns_baseC ho4 hz3
          have hq0 : w4.cell? ⟨w.heap.size + 1, 0, none⟩ = some (.slice none 0 0) := cell_of_heap H4.out.res
          have hq1 : w4.cell? ⟨w.heap.size + 1, 1, none⟩ = some (.int .i64 0) := cell_of_heap H4.out.res
          have hf : ∀ q, w4.frozen? ⟨w.heap.size + 1, q, none⟩ = false := fun q => frozen_of_heap H4.out.res
          obtain ⟨a3, c3, rfl, -, -, -⟩ := ho4.at (by omega)
          clear hb4' ho4 HR3 hz
          go_wp2
          refine bodyPost_ret (v := .agg #[.slice a3 (putE xs x).length c3, .int .i64 0]) (by simp [results, Try.results22, go_sem, hq0, hq1]) rfl ⟨_, rfl, owns_baseC ((HO4.out.setCell (by omega)).setCell (by omega)) (by omega), ?_⟩
          exact ((H4.out.below.setCell (by simp) _).setCell (by simp) _)
end Go.Proofs.Ytjdkenopfnepaaa
