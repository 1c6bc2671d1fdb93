/- What stands at a kind and a key: the specification. -/
import Derived.Test.YtiojagekanmfkaaGreatSt7
namespace Go.Proofs.YtiojagekanmfkaaGreat
open Go.RowKit

theorem stAt_hit {xs : List En} {k y : Int} {i : Nat} (hi : i < xs.length) (h1 : (xs[i].kind == k) = true) (h2 : (xs[i].key == y) = true) (hno : ∀ j (h : j < xs.length), j < i → ((xs[j].kind == k) && (xs[j].key == y)) = false) : stAt xs k y = xs[i].id := by
  have : xs.find? (fun x => (x.kind == k) && (x.key == y)) = some xs[i] := by
    rw [List.find?_eq_some_iff_getElem]
    exact ⟨by rw [h1, h2]; rfl, i, hi, rfl, fun j hj => by rw [hno j (by omega) hj]; rfl⟩
  unfold stAt
  rw [this]
theorem stAt_miss {xs : List En} {k y : Int} (hno : ∀ j (h : j < xs.length), ((xs[j].kind == k) && (xs[j].key == y)) = false) : stAt xs k y = 0 := by
  have : xs.find? (fun x => (x.kind == k) && (x.key == y)) = none := by
    rw [List.find?_eq_none]
    intro x hx
    obtain ⟨j, hj, rfl⟩ := List.getElem_of_mem hx
    rw [hno j hj]
    decide
  unfold stAt
  rw [this]
set_option maxHeartbeats 4000000 in
set_option maxRecDepth 100000 in
theorem sat_spec (xs : List En) (q y : Int) (a : Option Addr) (cap : Nat) (w : World) (h : EnsAt w a xs) :
    Calls Tryz.prog 111 #[.slice a xs.length cap, .int .i64 q, .int .i64 y] w fun e w' => e = .returned (.int .i64 (stAt xs q y)) ∧ w = w' := by
  have hl := h.len
  have H : Hid (EnsAt w a xs) := h
  clear h
  go_enter Tryz.func111, Tryz.ntmps111
  go_wp2
  go_loop [7] (fun i => ∃ k : Nat, k ≤ xs.length ∧ i = .int .i64 k ∧ Hid (∀ j (h : j < xs.length), j < k → ((xs[j].kind == q) && (xs[j].key == y)) = false)) (fun i => xs.length - (intOf i).toNat)
  case atStart => exact ⟨0, Nat.zero_le _, rfl, fun _ _ h => absurd h (Nat.not_lt_zero _)⟩
  case round =>
    obtain ⟨k, hk, rfl, HO⟩ := hrel
    by_cases hlt : k < xs.length
    · obtain ⟨b, off, rfl, hbb, hcell⟩ := H.out.row (by omega)
      have hc0 : w.cell? ⟨b, off + k * 3, none⟩ = some (.int .i64 xs[k].kind) := hcell k hlt 0 (by omega)
      have hc1 : w.cell? ⟨b, off + k * 3 + 1, none⟩ = some (.int .i64 xs[k].key) := by
        have := hcell k hlt 1 (by omega)
        rwa [← Nat.add_assoc] at this
      have hc2 : w.cell? ⟨b, off + k * 3 + 2, none⟩ = some (.int .i64 xs[k].id) := by
        have := hcell k hlt 2 (by omega)
        rwa [← Nat.add_assoc] at this
      clear hcell
      have next : ((xs[k].kind == q) && (xs[k].key == y)) = false → Hid (∀ j (h : j < xs.length), j < k + 1 → ((xs[j].kind == q) && (xs[j].key == y)) = false) := fun hf j h hj => by
        by_cases e : j = k
        · subst e
          exact hf
        · exact HO.out j h (by omega)
      cases h1 : (xs[k].kind == q)
      · have HN := next (by rw [h1]; rfl)
        clear next
        go_wp2
        exact ⟨⟨k + 1, by omega, by go_num, HN⟩, by simp [intOf]; omega⟩
      · cases h2 : (xs[k].key == y)
        · have HN := next (by rw [h1, h2]; rfl)
          clear next
          go_wp2
          exact ⟨⟨k + 1, by omega, by go_num, HN⟩, by simp [intOf]; omega⟩
        · have HS : Hid (stAt xs q y = xs[k].id) := stAt_hit hlt h1 h2 HO.out
          clear next
          go_wp2
          go_ret
          exact ⟨ret_int HS.out.symm, rfl⟩
    · have HS : Hid (stAt xs q y = 0) := stAt_miss fun j h => HO.out j h (by omega)
      go_wp2
      go_ret
      exact ⟨ret_int HS.out.symm, rfl⟩
end Go.Proofs.YtiojagekanmfkaaGreat
