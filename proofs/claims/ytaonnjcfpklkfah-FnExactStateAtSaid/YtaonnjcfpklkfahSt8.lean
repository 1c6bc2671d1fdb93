/- StateAt of both sides; the law on it walked. -/
import Derived.Test.YtaonnjcfpklkfahSt7
namespace Go.Proofs.Ytaonnjcfpklkfah
open Go.RowKit

theorem stAt_hit {xs : List En} {k y : Int} {i : Nat} (hi : i < xs.length) (h1 : (xs[i].kind == k) = true) (h2 : (xs[i].key == y) = true) (hno : ∀ j (h : j < xs.length), j < i → ((xs[j].kind == k) && (xs[j].key == y)) = false) : stAt xs k y = xs[i].id := by
  have : xs.find? (fun x => (x.kind == k) && (x.key == y)) = some xs[i] := by
    rw [List.find?_eq_some_iff_getElem]
    exact ⟨by rw [h1, h2]; rfl, i, hi, rfl, fun j hj => by rw [hno j (by omega) hj]; rfl⟩
  unfold stAt
  rw [this]
theorem stAt_miss {xs : List En} {k y : Int} (hno : ∀ j (h : j < xs.length), ((xs[j].kind == k) && (xs[j].key == y)) = false) : stAt xs k y = 0 := by
  have : xs.find? (fun x => (x.kind == k) && (x.key == y)) = none := by
    rw [List.find?_eq_none]
    intro x hx
    obtain ⟨j, hj, rfl⟩ := List.getElem_of_mem hx
    rw [hno j hj]
    decide
  unfold stAt
  rw [this]
set_option maxHeartbeats 4000000 in
set_option maxRecDepth 100000 in
theorem sat_spec (xs : List En) (q y : Int) (a : Option Addr) (cap : Nat) (w : World) (h : EnsAt w a xs) :
    Calls Try.prog 36 #[.slice a xs.length cap, .int .i64 q, .int .i64 y] w fun e w' => e = .returned (.int .i64 (stAt xs q y)) ∧ w = w' := by
  have hl := h.len
  have H : Hid (EnsAt w a xs) := h
  clear h
  go_enter Try.func36, Try.ntmps36
  go_wp2
  go_loop [7] (fun i => ∃ k : Nat, k ≤ xs.length ∧ i = .int .i64 k ∧ Hid (∀ j (h : j < xs.length), j < k → ((xs[j].kind == q) && (xs[j].key == y)) = false)) (fun i => xs.length - (intOf i).toNat)
  case atStart => exact ⟨0, Nat.zero_le _, rfl, fun _ _ h => absurd h (Nat.not_lt_zero _)⟩
  case round =>
    obtain ⟨k, hk, rfl, HO⟩ := hrel
    by_cases hlt : k < xs.length
    · obtain ⟨b, off, rfl, hbb, hcell⟩ := H.out.row (by omega)
      have hc0 : w.cell? ⟨b, off + k * 3, none⟩ = some (.int .i64 xs[k].kind) := hcell k hlt 0 (by omega)
      have hc1 : w.cell? ⟨b, off + k * 3 + 1, none⟩ = some (.int .i64 xs[k].key) := by
        have := hcell k hlt 1 (by omega)
        rwa [← Nat.add_assoc] at this
      have hc2 : w.cell? ⟨b, off + k * 3 + 2, none⟩ = some (.int .i64 xs[k].id) := by
        have := hcell k hlt 2 (by omega)
        rwa [← Nat.add_assoc] at this
      clear hcell
      have next : ((xs[k].kind == q) && (xs[k].key == y)) = false → Hid (∀ j (h : j < xs.length), j < k + 1 → ((xs[j].kind == q) && (xs[j].key == y)) = false) := fun hf j h hj => by
        by_cases e : j = k
        · subst e
          exact hf
        · exact HO.out j h (by omega)
      cases h1 : (xs[k].kind == q)
      · have HN := next (by rw [h1]; rfl)
        clear next
        go_wp2
        exact ⟨⟨k + 1, by omega, by go_num, HN⟩, by simp [intOf]; omega⟩
      · cases h2 : (xs[k].key == y)
        · have HN := next (by rw [h1, h2]; rfl)
          clear next
          go_wp2
          exact ⟨⟨k + 1, by omega, by go_num, HN⟩, by simp [intOf]; omega⟩
        · have HS : Hid (stAt xs q y = xs[k].id) := stAt_hit hlt h1 h2 HO.out
          clear next
          go_wp2
          go_ret
          exact ⟨ret_int HS.out.symm, rfl⟩
    · have HS : Hid (stAt xs q y = 0) := stAt_miss fun j h => HO.out j h (by omega)
      go_wp2
      go_ret
      exact ⟨ret_int HS.out.symm, rfl⟩
theorem atE_bad {xs : List En} {k y : Int} (h : rowE false xs = false) : atE xs k y = 0 := if_neg (by simp [h])
theorem atE_good {xs : List En} {k y : Int} (h : rowE false xs = true) : atE xs k y = stAt xs k y := if_pos h
set_option maxHeartbeats 2000000 in
set_option maxRecDepth 100000 in
theorem stateAt_spec (xs : List En) (q y : Int) (a : Option Addr) (cap : Nat) (w : World) (h : EnsAt w a xs) :
    Calls Try.prog 19 #[.slice a xs.length cap, .int .i64 q, .int .i64 y] w fun e w' => e = .returned (.int .i64 (atE xs q y)) ∧ Below w.heap.size w w' := by
  have HG := state_spec_ xs a cap w h
  have HE : Hid (∀ w', Below w.heap.size w w' → EnsAt w' a xs) := fun w' hb => h.kept hb
  clear h
  cases hr : rowE false xs
  · have HS : Hid (atE xs q y = 0) := atE_bad hr
    go_enter Try.func19, Try.ntmps19
    go_wp2_with (go_at_call 15; refine HG.mono ?_; rintro e w1 ⟨rfl, hb1⟩; rw [hr])
    go_ret
    exact ⟨ret_int HS.out.symm, hb1⟩
  · have HS : Hid (atE xs q y = stAt xs q y) := atE_good hr
    go_enter Try.func19, Try.ntmps19
    go_wp2_with (first
      | (go_at_call 15; refine HG.mono ?_; rintro e w1 ⟨rfl, hb1⟩; rw [hr]; have HW1 : Hid (Below w.heap.size w w1) := hb1; clear hb1)
      | (go_at_call 36; refine (sat_spec xs q y a cap _ (HE.out _ HW1.out)).mono ?_; rintro e w2 ⟨rfl, rfl⟩))
    go_ret
    exact ⟨ret_int HS.out.symm, HW1.out⟩
set_option maxHeartbeats 2000000 in
set_option maxRecDepth 100000 in
theorem stateAt_impl (xs : List En) (q y : Int) (hq : (Lit.int .i64 q).wf = true) (hy : (Lit.int .i64 y).wf = true) (a : Option Addr) (cap : Nat) (w : World) (h : EnsAt w a xs) :
    Calls Try.prog 20 #[.slice a xs.length cap, .int .i64 q, .int .i64 y] w fun e w' => e = .returned (.int .i64 (atE xs q y)) ∧ Below w.heap.size w w' := by
  have HC := standing_impl xs a cap w h
  have hnil : ∀ W : World, (Instr.lookup 85 (.map none) (.agg #[.int .i64 q, .int .i64 y]) false).run Try.prog W = .ok (.int .i64 0) W := fun W => by
    have := Maps.look_nil (w := W) false slot_keyed Try.underlying85 (zero_int64 W) (keyOf_slot hq hy)
    simpa using this
  clear h
  cases hr : rowE false xs
  · have HS : Hid (atE xs q y = 0) := atE_bad hr
    go_enter Try.func20, Try.ntmps20
    go_wp2_with fail
    refine HC.mono ?_
    rintro e w1 (⟨_, rfl, hb1⟩ | ⟨h1, _⟩)
    · go_wp2
      go_ret
      exact ⟨ret_int HS.out.symm, hb1⟩
    · rw [hr] at h1
      cases h1
  · have HS : Hid (atE xs q y = stAt xs q y) := atE_good hr
    have HRI : Hid (xs.length ≤ 400 ∧ riseB xs = true ∧ ∀ x ∈ xs, EnIn x ∧ (x.id == 0) = false) := rowE_in hr
    go_enter Try.func20, Try.ntmps20
    go_wp2_with fail
    refine HC.mono ?_
    rintro e w1 (⟨h1, _⟩ | ⟨_, b, rfl, hbn, hown, hb1⟩)
    · rw [hr] at h1
      cases h1
    · have hlk := look_S hown (fun x hx => (HRI.out.2.2 x (by simpa using hx)).1) hq hy
      rw [look_rev HRI.out.2.1] at hlk
      have HW : Hid (Below w.heap.size w w1) := hb1
      clear hown hb1 hnil
      go_wp2
      go_ret
      exact ⟨ret_int HS.out.symm, HW.out⟩
set_option maxHeartbeats 4000000 in
set_option maxRecDepth 100000 in
theorem walk_fnExactStateAt_gr (xs : List En) (a : Option Addr) (cap : Nat) (q y : Int) (w : World) (h : EnsRaw w a xs) (hq : (Lit.int .i64 q).wf = true) (hy : (Lit.int .i64 y).wf = true) :
    Calls Try.prog 6 #[.slice a xs.length cap, .int .i64 q, .int .i64 y] w fun e w' => e = .returned (.bool true) ∧ Below w.heap.size w w' := by
  have hl := h.len
  by_cases hs : (xs.length : Int) ≤ 1048576
  · have hle : xs.length ≤ 1048576 := by omega
    have HE : Hid (∀ w', Below w.heap.size w w' → EnsAt w' a xs) := fun w' hb => (h.kept hb).at hle
    have HS : Hid (szN xs.length 1048576 = 1048576 - xs.length) := szN_yes hs
    obtain ⟨L, HL⟩ : ∃ L : Int, Hid (L = szN xs.length 1048576) := ⟨szN xs.length 1048576, (rfl : (szN xs.length 1048576 : Int) = _)⟩
    have hL : 0 ≤ L := by rw [HL.out, HS.out]; omega
    clear h hs
    go_enter Try.func6, Try.ntmps6
    go_wp2_with fail
    refine (sz_entries xs a cap 1048576 _ hl (by omega) (by omega)).mono ?_
    rintro e w1 ⟨rfl, rfl⟩
    rw [← HL.out]
    go_wp2_with fail
    refine (to_entries xs a cap _ (HE.out _ (Below.refl _ _))).mono ?_
    rintro e w2 ⟨a2, rfl, hn2⟩
    have HW2 : Hid (Below w.heap.size w w2) := hn2.below
    have HG2 := stateAt_spec xs q y a2 xs.length w2 (hn2.at hle)
    clear hn2
    go_wp2_with fail
    refine HG2.mono ?_
    rintro e w3 ⟨rfl, hb3⟩
    have HW3 : Hid (Below w.heap.size w w3) := HW2.out.trans (hb3.mono HW2.out.size)
    clear hb3 HG2
    go_wp2_with fail
    refine (to_entries xs a cap _ (HE.out _ HW3.out)).mono ?_
    rintro e w4 ⟨a4, rfl, hn4⟩
    have HW4 : Hid (Below w.heap.size w w4) := HW3.out.trans (hn4.below.mono HW3.out.size)
    have HN4 : Hid (∀ w', Below w4.heap.size w4 w' → EnsAt w' a4 xs) := fun w' hb => (hn4.at hle).kept hb
    have HG4 := stateAt_impl xs q y hq hy a4 xs.length w4 (hn4.at hle)
    clear hn4
    go_wp2_with fail
    refine HG4.mono ?_
    rintro e w5 ⟨rfl, hb5⟩
    have HY5 : Hid (Below w4.heap.size w4 w5) := hb5
    have HW5 : Hid (Below w.heap.size w w5) := HW4.out.trans (hb5.mono HW4.out.size)
    clear hb5 HG4
    go_wp2_with (first
      | (go_at_call 16; refine (to_entries xs a cap _ (HE.out _ HW5.out)).mono ?_; rintro e w6 ⟨a6, rfl, hn6⟩; have HW6 : Hid (Below w5.heap.size w5 w6) := hn6.below; have HX6 : Hid (Below w.heap.size w w6) := HW5.out.trans (HW6.out.mono HW5.out.size); have HY6 : Hid (Below w4.heap.size w4 w6) := HY5.out.trans (HW6.out.mono HY5.out.size); have HQ6 := eq_entries xs a4 a6 xs.length xs.length w6 (HN4.out _ HY6.out) (hn6.at hle); clear hn6)
      | (go_at_call 18; refine HQ6.mono ?_; rintro e w7 ⟨rfl, hb7⟩; have HW7 : Hid (Below w.heap.size w w7) := HX6.out.trans (hb7.mono HX6.out.size); clear hb7))
    go_ret
    exact ⟨rfl, HW7.out⟩
  · have HS : Hid (szN xs.length 1048576 = -1) := szN_no hs
    clear h hs
    go_enter Try.func6, Try.ntmps6
    go_wp2_with fail
    refine (sz_entries xs a cap 1048576 _ hl (by omega) (by omega)).mono ?_
    rintro e w1 ⟨rfl, rfl⟩
    rw [HS.out]
    go_wp2
    go_ret
    exact ⟨rfl, Below.refl _ _⟩
end Go.Proofs.Ytaonnjcfpklkfah
