/- States, and outcomes, held against each other by the law on states. -/
import Derived.Test.YtjdkenopfnepaaaSuPut
import Derived.Test.YtjdkenopfnepaaaSt4
import Derived.BigQuiet
namespace Go.Proofs.Ytjdkenopfnepaaa
open Go.RowKit

theorem eqin_entry (k y i : Int) (W : World) : (Op.equalIn 10000 40 (.agg #[.int .i64 k, .int .i64 y, .int .i64 i]) (.agg #[.int .i64 k, .int .i64 y, .int .i64 i])).run Try.prog W = .ok true W := by go_simp
theorem below_drewN8 {k : Nat} {w W : World} (h : Below k w W) (n : Nat) : Below k w (W.drewN n) := ⟨h.os, h.tape, h.output, h.size, h.block⟩
set_option maxHeartbeats 4000000 in
set_option maxRecDepth 100000 in
theorem lw_state (xs : List En) (a1 a2 : Option Addr) (cap1 cap2 : Nat) (w : World) (h1 : EnsAt w a1 xs) (h2 : EnsAt w a2 xs) :
    Calls Try.prog 29 #[.slice a1 xs.length cap1, .slice a2 xs.length cap2] w fun e w' => e = .returned (.bool true) ∧ Below w.heap.size w w' := by
  have hl := h1.len
  have H1 : Hid (EnsAt w a1 xs) := h1
  have H2 : Hid (EnsAt w a2 xs) := h2
  have heq : ∀ k y i W, (Op.equalIn 10000 40 (.agg #[.int .i64 k, .int .i64 y, .int .i64 i]) (.agg #[.int .i64 k, .int .i64 y, .int .i64 i])).run Try.prog W = .ok true W := eqin_entry
  clear h1 h2
  go_enter Try.func29, Try.ntmps29
  go_wp2
  go_loopw [5] (fun i wr => ∃ k : Nat, k ≤ xs.length ∧ i = .int .i64 k ∧ Below w.heap.size w wr) (fun i _ => xs.length - (intOf i).toNat)
  case atStart => exact ⟨0, Nat.zero_le _, rfl, Below.refl _ _⟩
  case round =>
    obtain ⟨k, hk, rfl, hbw⟩ := hrel
    by_cases hlt : k < xs.length
    · have HE1 : Hid (EnsAt wr a1 xs) := H1.out.kept hbw
      have HE2 : Hid (EnsAt wr a2 xs) := H2.out.kept hbw
      obtain ⟨b1, off1, rfl, hbb1, hcell1⟩ := HE1.out.row (by omega)
      obtain ⟨b2, off2, rfl, hbb2, hcell2⟩ := HE2.out.row (by omega)
      have hc0 : wr.cell? ⟨b1, off1 + k * 3, none⟩ = some (.int .i64 xs[k].kind) := by
        have := hcell1 k hlt 0 (by omega)
        exact this
      have hc1 : wr.cell? ⟨b1, off1 + k * 3 + 1, none⟩ = some (.int .i64 xs[k].key) := by
        have := hcell1 k hlt 1 (by omega)
        rwa [← Nat.add_assoc] at this
      have hc2 : wr.cell? ⟨b1, off1 + k * 3 + 2, none⟩ = some (.int .i64 xs[k].id) := by
        have := hcell1 k hlt 2 (by omega)
        rwa [← Nat.add_assoc] at this
      have hg0 : wr.cell? ⟨b2, off2 + k * 3, none⟩ = some (.int .i64 xs[k].kind) := by
        have := hcell2 k hlt 0 (by omega)
        exact this
      have hg1 : wr.cell? ⟨b2, off2 + k * 3 + 1, none⟩ = some (.int .i64 xs[k].key) := by
        have := hcell2 k hlt 1 (by omega)
        rwa [← Nat.add_assoc] at this
      have hg2 : wr.cell? ⟨b2, off2 + k * 3 + 2, none⟩ = some (.int .i64 xs[k].id) := by
        have := hcell2 k hlt 2 (by omega)
        rwa [← Nat.add_assoc] at this
      have HB : Hid (∀ n, Below w.heap.size w (wr.drewN n)) := fun n => below_drewN8 hbw n
      clear hcell1 hcell2 hbw
      go_wp2
      go_quiet (fail)
      go_wp2
      go_roundw
      case rel => exact ⟨k + 1, by omega, by go_num, HB.out _⟩
      case measure => simp [intOf]; omega
    · have e : k = xs.length := by omega
      subst e
      go_wp2
      go_ret
      exact ⟨rfl, hbw⟩
set_option maxHeartbeats 2000000 in
set_option maxRecDepth 100000 in
theorem lw_states (xs : List En) (c : Int) (a1 a2 : Option Addr) (c1 c2 : Nat) (w : World) (h1 : EnsAt w a1 xs) (h2 : EnsAt w a2 xs) (hc : c = 0 → rowE false xs = true) :
    Calls Try.prog 27 #[.agg #[.slice a1 xs.length c1, .int .i64 c], .agg #[.slice a2 xs.length c2, .int .i64 c]] w fun e w' => e = .returned (.bool true) ∧ Below w.heap.size w w' := by
  have HB : Hid (∀ o1 o2, Below w.heap.size w ((w.alloc o1).alloc o2)) := fun o1 o2 => ((Below.refl _ _).alloc (Nat.le_refl _) o1).alloc (by simp) o2
  have HQ := fun o1 o2 => lw_state xs a1 a2 c1 c2 ((w.alloc o1).alloc o2) (h1.kept (HB.out o1 o2)) (h2.kept (HB.out o1 o2))
  have HE : Hid (∀ W, Below w.heap.size w W → EnsAt W a1 xs) := fun W hW => h1.kept hW
  clear h1 h2
  by_cases h0 : c = 0
  · subst h0
    have HR : Hid (rowE false xs = true) := hc rfl
    clear hc
    go_enter Try.func27, Try.ntmps27
    go_wp2_with fail
    refine (HQ _ _).mono ?_
    rintro e w1 ⟨rfl, hb1⟩
    obtain ⟨hc1, hf1⟩ := bcell hb1
    have HW1 : Hid (Below w.heap.size w w1) := (HB.out _ _).trans (hb1.mono (by simp; omega))
    clear hb1 HQ
    go_wp2_with fail
    refine (state_spec_ xs a1 c1 w1 (HE.out _ HW1.out)).mono ?_
    rintro e w2 ⟨rfl, hb2⟩
    have HW2 : Hid (Below w.heap.size w w2) := HW1.out.trans (hb2.mono HW1.out.size)
    rw [HR.out]
    clear hb2
    go_wp2
    go_ret
    exact ⟨rfl, HW2.out⟩
  · have h0b : (c == 0) = false := by simpa using h0
    clear hc
    go_enter Try.func27, Try.ntmps27
    go_wp2_with fail
    refine (HQ _ _).mono ?_
    rintro e w1 ⟨rfl, hb1⟩
    obtain ⟨hc1, hf1⟩ := bcell hb1
    have HW1 : Hid (Below w.heap.size w w1) := (HB.out _ _).trans (hb1.mono (by simp; omega))
    clear hb1 HQ
    go_wp2
    go_ret
    exact ⟨rfl, HW1.out⟩
end Go.Proofs.Ytjdkenopfnepaaa
