/- StateDiff whole, of the specification and of the program. -/
import Derived.Test.YtjdkenopfnepaaaSuDiff
namespace Go.Proofs.Ytjdkenopfnepaaa
open Go.RowKit

/-- What StateDiff answers. -/
def sdL (xs ys : List En) : List En := if rowE false xs = true ∧ rowE false ys = true then difE xs ys else []
theorem sd_bad {xs ys : List En} (h : ¬ (rowE false xs = true ∧ rowE false ys = true)) : sdL xs ys = [] := if_neg h
theorem sd_ok {xs ys : List En} (h : rowE false xs = true) (h2 : rowE false ys = true) : sdL xs ys = difE xs ys := if_pos ⟨h, h2⟩
theorem difE_length (xs ys : List En) : (difE xs ys).length ≤ xs.length + ys.length := by
  unfold difE
  have h1 := putIf_length (difZ ys) (fun _ => 0) xs (ys.foldl (putIf (difC xs) (·.id)) [])
  have h2 := putIf_length (difC xs) (·.id) ys []
  simp at h2
  omega
theorem sdL_length (xs ys : List En) : (sdL xs ys).length ≤ 800 := by
  by_cases c : rowE false xs = true ∧ rowE false ys = true
  · rw [sd_ok c.1 c.2]
    have h1 := (rowE_in c.1).1
    have h2 := (rowE_in c.2).1
    have h3 := difE_length xs ys
    omega
  · rw [sd_bad c]
    simp
def DifPost (w : World) (L : List En) (e : Ending) (w' : World) : Prop := ∃ v, e = .returned v ∧ EnsOwn w' w.heap.size v L ∧ Below w.heap.size w w'
set_option maxHeartbeats 2000000 in
set_option maxRecDepth 100000 in
theorem stateDiff_spec (xs ys : List En) (a d : Option Addr) (cap cd : Nat) (w : World) (h : EnsAt w a xs) (hd : EnsAt w d ys) :
    Calls Try.prog 30 #[.slice a xs.length cap, .slice d ys.length cd] w (DifPost w (sdL xs ys)) := by
  have HE : Hid (∀ w', Below w.heap.size w w' → EnsAt w' a xs) := fun w' hb => h.kept hb
  have HDE : Hid (∀ w', Below w.heap.size w w' → EnsAt w' d ys) := fun w' hb => hd.kept hb
  have HST := state_spec_ xs a cap w h
  clear h hd
  cases hr : rowE false xs
  · have HS : Hid (sdL xs ys = []) := sd_bad (by rw [hr]; simp)
    rw [HS.out]
    go_enter Try.func30, Try.ntmps30
    go_wp2_with fail
    refine HST.mono ?_
    rintro e w1 ⟨rfl, hb1⟩
    rw [hr]
    have HB1 : Hid (Below w.heap.size w w1) := hb1
    clear hb1 HST
    go_wp2
    go_ret
    exact ⟨_, rfl, EnsOwn.made w1 HB1.out.size, HB1.out.alloc HB1.out.size _⟩
  · cases hr2 : rowE false ys
    · have HS : Hid (sdL xs ys = []) := sd_bad (by rw [hr2]; simp)
      rw [HS.out]
      go_enter Try.func30, Try.ntmps30
      go_wp2_with fail
      refine HST.mono ?_
      rintro e w1 ⟨rfl, hb1⟩
      rw [hr]
      have HB1 : Hid (Below w.heap.size w w1) := hb1
      clear hb1 HST
      go_wp2_with fail
      refine (state_spec_ ys d cd w1 (HDE.out _ HB1.out)).mono ?_
      rintro e w2 ⟨rfl, hb2⟩
      rw [hr2]
      have HB2 : Hid (Below w.heap.size w w2) := HB1.out.trans (hb2.mono HB1.out.size)
      clear hb2
      go_wp2
      go_ret
      exact ⟨_, rfl, EnsOwn.made w2 HB2.out.size, HB2.out.alloc HB2.out.size _⟩
    · have HS : Hid (sdL xs ys = difE xs ys) := sd_ok hr hr2
      have hl1 := (rowE_in hr).1
      have hl2 := (rowE_in hr2).1
      rw [HS.out]
      go_enter Try.func30, Try.ntmps30
      go_wp2_with fail
      refine HST.mono ?_
      rintro e w1 ⟨rfl, hb1⟩
      rw [hr]
      have HB1 : Hid (Below w.heap.size w w1) := hb1
      clear hb1 HST
      go_wp2_with fail
      refine (state_spec_ ys d cd w1 (HDE.out _ HB1.out)).mono ?_
      rintro e w2 ⟨rfl, hb2⟩
      rw [hr2]
      have HB2 : Hid (Below w.heap.size w w2) := HB1.out.trans (hb2.mono HB1.out.size)
      clear hb2
      go_wp2_with fail
      refine (diff_spec xs ys a d cap cd w2 (HE.out _ HB2.out) (HDE.out _ HB2.out) (by omega)).mono ?_
      rintro e w3 ⟨v, rfl, ho3, hb3⟩
      have H3 : Hid (EnsOwn w3 w.heap.size v (difE xs ys) ∧ Below w.heap.size w w3) := ⟨owns_baseC ho3 HB2.out.size, HB2.out.trans (hb3.mono HB2.out.size)⟩
      clear ho3 hb3
      go_wp2
      go_ret
      exact ⟨_, rfl, H3.out.1, H3.out.2⟩
theorem look_nz {xs : List En} (h : ∀ x ∈ xs, EnIn x ∧ (x.id == 0) = false) : ∀ k y v, lookS xs.reverse k y = some v → v ≠ 0 := fun k y v hv => by
  obtain ⟨x, hx, _, _, rfl⟩ := lookS_some hv
  have := (h x (by simpa using hx)).2
  simpa using this
set_option maxHeartbeats 4000000 in
set_option maxRecDepth 100000 in
theorem stateDiff_impl (xs ys : List En) (a d : Option Addr) (cap cd : Nat) (w : World) (h : EnsAt w a xs) (hd : EnsAt w d ys) :
    Calls Try.prog 24 #[.slice a xs.length cap, .slice d ys.length cd] w (DifPost w (sdL xs ys)) := by
  have HDE : Hid (∀ w', Below w.heap.size w w' → EnsAt w' d ys) := fun w' hb => hd.kept hb
  have HST := standing_impl xs a cap w h
  clear h hd
  cases hr : rowE false xs
  · have HS : Hid (sdL xs ys = []) := sd_bad (by rw [hr]; simp)
    rw [HS.out]
    go_enter Try.func24, Try.ntmps24
    go_wp2_with fail
    refine HST.mono ?_
    rintro e w1 (⟨_, rfl, hb1⟩ | ⟨h1, _⟩)
    · have HB1 : Hid (Below w.heap.size w w1) := hb1
      clear hb1 HST
      go_wp2_with fail
      refine (standing_impl ys d cd w1 (HDE.out _ HB1.out)).mono ?_
      rintro e w2 (⟨_, rfl, hb2⟩ | ⟨_, b2, rfl, _, _, hb2⟩)
      · have HB2 : Hid (Below w.heap.size w w2) := HB1.out.trans (hb2.mono HB1.out.size)
        clear hb2
        go_wp2
        go_ret
        exact ⟨_, rfl, EnsOwn.nil _ _, HB2.out⟩
      · have HB2 : Hid (Below w.heap.size w w2) := HB1.out.trans (hb2.mono HB1.out.size)
        clear hb2
        go_wp2
        go_ret
        exact ⟨_, rfl, EnsOwn.nil _ _, HB2.out⟩
    · rw [hr] at h1
      cases h1
  · have HRI : Hid (xs.length ≤ 400 ∧ riseB xs = true ∧ ∀ x ∈ xs, EnIn x ∧ (x.id == 0) = false) := rowE_in hr
    cases hr2 : rowE false ys
    · have HS : Hid (sdL xs ys = []) := sd_bad (by rw [hr2]; simp)
      rw [HS.out]
      go_enter Try.func24, Try.ntmps24
      go_wp2_with fail
      refine HST.mono ?_
      rintro e w1 (⟨h1, _⟩ | ⟨_, b1, rfl, _, _, hb1⟩)
      · rw [hr] at h1
        cases h1
      · have HB1 : Hid (Below w.heap.size w w1) := hb1
        clear hb1 HST
        go_wp2_with fail
        refine (standing_impl ys d cd w1 (HDE.out _ HB1.out)).mono ?_
        rintro e w2 (⟨_, rfl, hb2⟩ | ⟨h2, _⟩)
        · have HB2 : Hid (Below w.heap.size w w2) := HB1.out.trans (hb2.mono HB1.out.size)
          clear hb2
          go_wp2
          go_ret
          exact ⟨_, rfl, EnsOwn.nil _ _, HB2.out⟩
        · rw [hr2] at h2
          cases h2
    · have HRJ : Hid (ys.length ≤ 400 ∧ riseB ys = true ∧ ∀ x ∈ ys, EnIn x ∧ (x.id == 0) = false) := rowE_in hr2
      have HS : Hid (sdL xs ys = difE xs ys) := sd_ok hr hr2
      rw [HS.out]
      go_enter Try.func24, Try.ntmps24
      go_wp2_with fail
      refine HST.mono ?_
      rintro e w1 (⟨h1, _⟩ | ⟨_, b1, rfl, hbn1, hown1, hb1⟩)
      · rw [hr] at h1
        cases h1
      · have HB1 : Hid (Below w.heap.size w w1) := hb1
        have HM1 : Hid (SMap w1 b1 xs.length (lookS xs.reverse)) := ⟨_, hown1, mapIs_putS fun u hu => (HRI.out.2.2 u (by simpa using hu)).1⟩
        clear hb1 HST hown1
        go_wp2_with fail
        refine (standing_impl ys d cd w1 (HDE.out _ HB1.out)).mono ?_
        rintro e w2 (⟨h2, _⟩ | ⟨_, b2, rfl, hbn2, hown2, hb2⟩)
        · rw [hr2] at h2
          cases h2
        · have HB2 : Hid (Below w.heap.size w w2) := HB1.out.trans (hb2.mono HB1.out.size)
          have HM2 : Hid (SMap w2 b1 xs.length (lookS xs.reverse) ∧ SMap w2 b2 ys.length (lookS ys.reverse)) := ⟨HM1.out.kept hb2, ⟨_, hown2, mapIs_putS fun u hu => (HRJ.out.2.2 u (by simpa using hu)).1⟩⟩
          clear hb2 hown2 HM1
          go_wp2_with fail
          refine (changes_impl (lookS xs.reverse) (lookS ys.reverse) b1 xs.length b2 ys.length w2 HM2.out.1 HM2.out.2 (look_nz HRI.out.2.2) (look_nz HRJ.out.2.2) (by have := HRI.out.1; have := HRJ.out.1; omega)).mono ?_
          rintro e w3 ⟨b3, rfl, hm3, hb3⟩
          have HB3 : Hid (Below w.heap.size w w3) := HB2.out.trans (hb3.mono HB2.out.size)
          have HR3 := row_of_impl _ b3 _ w3 hm3 (by have := HRI.out.1; have := HRJ.out.1; omega)
          clear hm3 hb3 HM2
          go_wp2_with fail
          refine HR3.mono ?_
          rintro e w4 ⟨v, zs, rfl, hz, ho4, _, hb4⟩
          obtain rfl : zs = difE xs ys := hz.uniq (rowIs_dif HRI.out.2.1 HRJ.out.2.1 (fun x hx => by have := (HRJ.out.2.2 x hx).2; simpa using this))
          have H4 : Hid (EnsOwn w4 w.heap.size v (difE xs ys) ∧ Below w.heap.size w w4) := ⟨owns_baseC ho4 HB3.out.size, HB3.out.trans (hb4.mono HB3.out.size)⟩
          clear ho4 hb4 HR3 hz
          go_wp2
          go_ret
          exact ⟨_, rfl, H4.out.1, H4.out.2⟩
end Go.Proofs.Ytjdkenopfnepaaa
