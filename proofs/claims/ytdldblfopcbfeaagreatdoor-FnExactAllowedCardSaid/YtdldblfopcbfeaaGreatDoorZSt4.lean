/- StateRight, of the program and of the specification. -/
import Derived.Test.YtdldblfopcbfeaaGreatDoorZSt3
namespace Go.Proofs.YtdldblfopcbfeaaGreatDoor
open Go.RowKit

set_option maxHeartbeats 4000000 in
set_option maxRecDepth 100000 in
theorem entries_stand (xs : List En) (a : Option Addr) (cap : Nat) (w : World) (h : EnsAt w a xs) :
    Calls Tryz.prog 63 #[.slice a xs.length cap, .func (.func 64) #[] #[]] w fun e w' => e = .returned (.bool (rowE false xs)) ∧ Below w.heap.size w w' := by
  have hl := h.len
  have H : Hid (EnsAt w a xs) := h
  clear h
  by_cases hbig : xs.length ≤ 400
  · have bb : decide (400 < xs.length) = false := decide_eq_false (by omega)
    cases hrise : riseB xs
    · have HS : Hid (rowE false xs = false) := rowE_rise hrise
      go_enter Tryz.func63, Tryz.ntmps63
      go_wp2_with (go_at_call 85; refine (rise_impl xs a cap _ H.out).mono ?_; rintro e w1 ⟨rfl, hb1⟩; rw [hrise])
      go_ret
      exact ⟨ret_bool HS.out.symm, hb1⟩
    · go_enter Tryz.func63, Tryz.ntmps63
      go_wp2_with (go_at_call 85; refine (rise_impl xs a cap _ H.out).mono ?_; rintro e w1 ⟨rfl, hb1⟩; rw [hrise]; have HB1 : Hid (Below w.heap.size w w1) := hb1; clear hb1)
      go_loopw [17] (fun i wr => ∃ k : Nat, k ≤ xs.length ∧ i = .int .i64 k ∧ Hid (∀ q (h : q < xs.length), q < k → entB false xs[q] = true) ∧ Below w.heap.size w wr) (fun i _ => xs.length - (intOf i).toNat)
      case atStart => exact ⟨0, Nat.zero_le _, rfl, fun _ _ h => absurd h (Nat.not_lt_zero _), HB1.out⟩
      case round =>
        clear HB1
        obtain ⟨k, hk, rfl, HO, hbw⟩ := hrel
        by_cases hlt : k < xs.length
        · have HE : Hid (EnsAt wr a xs) := H.out.kept hbw
          obtain ⟨b, off, rfl, hbb, hcell⟩ := HE.out.row (by omega)
          have hc0 : wr.cell? ⟨b, off + k * 3, none⟩ = some (.int .i64 xs[k].kind) := hcell k hlt 0 (by omega)
          have hc1 : wr.cell? ⟨b, off + k * 3 + 1, none⟩ = some (.int .i64 xs[k].key) := by
            have := hcell k hlt 1 (by omega)
            rwa [← Nat.add_assoc] at this
          have hc2 : wr.cell? ⟨b, off + k * 3 + 2, none⟩ = some (.int .i64 xs[k].id) := by
            have := hcell k hlt 2 (by omega)
            rwa [← Nat.add_assoc] at this
          have HA : Hid (∀ o, Below w.heap.size w (wr.alloc o)) := fun o => hbw.alloc hbw.size o
          clear hcell
          go_wp2_with fail
          refine (canStand_impl xs[k] _).mono ?_
          rintro e w2 ⟨rfl, hb2⟩
          have HW : Hid (Below w.heap.size w w2) := (HA.out _).trans (hb2.mono (HA.out _).size)
          clear hb2
          cases hent : entB false xs[k]
          · have HS : Hid (rowE false xs = false) := rowE_ent hlt hent
            go_wp2
            go_ret
            exact ⟨ret_bool HS.out.symm, HW.out⟩
          · have HN : Hid (∀ q (h : q < xs.length), q < k + 1 → entB false xs[q] = true) := fun q h hq => by
              by_cases e : q = k
              · subst e
                exact hent
              · exact HO.out q h (by omega)
            go_wp2
            go_roundw
            case rel => exact ⟨k + 1, by omega, by go_num, HN, HW.out⟩
            case measure => simp [intOf]; omega
        · have HS : Hid (rowE false xs = true) := rowE_yes hbig hrise fun q hq => HO.out q hq (by omega)
          go_wp2
          go_ret
          exact ⟨ret_bool HS.out.symm, hbw⟩
  · have bb : decide (400 < xs.length) = true := decide_eq_true (by omega)
    have HS : Hid (rowE false xs = false) := rowE_big hbig
    go_enter Tryz.func63, Tryz.ntmps63
    go_wp2
    go_ret
    exact ⟨ret_bool HS.out.symm, Below.refl _ _⟩
set_option maxHeartbeats 1000000 in
set_option maxRecDepth 100000 in
theorem state_spec_ (xs : List En) (a : Option Addr) (cap : Nat) (w : World) (h : EnsAt w a xs) :
    Calls Tryz.prog 36 #[.slice a xs.length cap] w fun e w' => e = .returned (.bool (rowE false xs)) ∧ Below w.heap.size w w' := by
  have HS := srow_spec false xs a cap w h
  clear h
  go_enter Tryz.func36, Tryz.ntmps36
  go_wp2_with (go_at_call 56; refine HS.mono ?_; rintro e w1 ⟨rfl, hb1⟩)
  go_ret
  exact ⟨rfl, hb1⟩
end Go.Proofs.YtdldblfopcbfeaaGreatDoor
