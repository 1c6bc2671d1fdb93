/- The text of a token, the program's side. -/
import Derived.Test.YtdldblfopcbfeaaDoorTkDec
import Derived.Test.YtdldblfopcbfeaaDoorTkLay
import Derived.Lib.LaidTab
namespace Go.Proofs.YtdldblfopcbfeaaDoor
open Go.RowKit

theorem grow_below (w : World) (k : Nat) (os : Array Obj) : Below w.heap.size w (Sort.grow (w.drewN k) os) :=
  ⟨rfl, rfl, rfl, by simp [Sort.grow, World.drewN], fun j hj => by simp [Sort.grow, World.drewN, Array.getElem?_append_left hj]⟩
/-- The library's table lies as it was laid. -/
def TabL (w : World) : Prop := Lib.TabIs Tryd.prog w "internal/strconv.uint64pow10" .u64 Lib.pow10Tab
theorem TabL.kept {w w' : World} (h : TabL w) (hb : Below w.heap.size w w') : TabL w' := by
  unfold TabL Lib.TabIs World.var? at h ⊢
  cases hg : Tryd.prog.globalNamed "internal/strconv.uint64pow10" with
  | none => rw [hg] at h; cases h
  | some g =>
    rw [hg] at h
    simp only [Option.bind_some] at h ⊢
    have hlt : g < w.heap.size := by
      rcases Nat.lt_or_ge g w.heap.size with h' | h'
      · exact h'
      · rw [Array.getElem?_eq_none h'] at h; cases h
    rw [hb.block g hlt]
    exact h
theorem fmt_impl (n : Nat) (w : World) (hn : (n : Int) ≤ 9223372036854775807) (ht : TabL w) :
    Calls Tryd.prog 15 #[.int .i64 n, .int .i64 10] w fun e w' => e = .returned (.string ⟨(Lib.decDigits n).toArray⟩) ∧ Below w.heap.size w w' := by
  have e : Lib.itoa n = Lib.decDigits n := by
    unfold Lib.itoa
    rw [if_neg (by omega), Int.toNat_natCast]
  refine (Any.strconv_FormatInt_10 Tryd.laysM173 n (by omega) hn w ht).mono ?_
  rintro e' w' ⟨rfl, k, os, rfl⟩
  rw [e]
  exact ⟨rfl, grow_below w k os⟩
set_option maxHeartbeats 2000000 in
set_option maxRecDepth 100000 in
theorem token_impl (u p : Int) (w : World) (ht : TabL w) :
    Calls Tryd.prog 6 #[.int .i64 u, .int .i64 p] w fun e w' => e = .returned (.string (tokS u p)) ∧ Below w.heap.size w w' := by
  have HT : Hid (∀ W, Below w.heap.size w W → TabL W) := fun W hW => ht.kept hW
  clear ht
  cases h1 : isB u 1 6
  · have HS : Hid (tokS u p = ⟨#[]⟩) := by unfold Hid tokS; rw [h1]; rfl
    go_enter Tryd.func6, Tryd.ntmps6
    go_wp2_with (go_at_call 13; refine (user_impl _ _).mono ?_; rintro e w' ⟨rfl, rfl⟩; rw [h1])
    go_ret
    exact ⟨ret_ba HS.out.symm, Below.refl _ _⟩
  cases h2 : isB p 0 120
  · have HS : Hid (tokS u p = ⟨#[]⟩) := by unfold Hid tokS; rw [h2, Bool.and_false]; rfl
    go_enter Tryd.func6, Tryd.ntmps6
    go_wp2_with (first
      | (go_at_call 13; refine (user_impl _ _).mono ?_; rintro e w' ⟨rfl, rfl⟩; rw [h1])
      | (go_at_call 14; refine (between_impl _ _ _ _).mono ?_; rintro e w' ⟨rfl, rfl⟩; rw [h2]))
    go_ret
    exact ⟨ret_ba HS.out.symm, Below.refl _ _⟩
  have HS : Hid (tokS u p = tokB u.toNat p.toNat) := by unfold Hid tokS; rw [h1, h2]; rfl
  obtain ⟨a, rfl⟩ : ∃ a : Nat, u = a := ⟨u.toNat, by have := isB_yes h1; omega⟩
  obtain ⟨b, rfl⟩ : ∃ b : Nat, p = b := ⟨p.toNat, by have := isB_yes h2; omega⟩
  have ha6 := isB_yes h1
  have hb6 := isB_yes h2
  have HA : Hid ((a : Int) ≤ 9223372036854775807) := by have := isB_yes h1; unfold Hid; omega
  have HB : Hid ((b : Int) ≤ 9223372036854775807) := by have := isB_yes h2; unfold Hid; omega
  have HDA := fun W h => fmt_impl a W HA.out h
  have HDB := fun W h => fmt_impl b W HB.out h
  have hsa : (⟨(Lib.decDigits a).toArray⟩ : ByteArray).size ≤ 20 := dec_len _ (by omega)
  have hsb : (⟨(Lib.decDigits b).toArray⟩ : ByteArray).size ≤ 20 := dec_len _ (by omega)
  obtain ⟨sa, HSA⟩ : ∃ s : ByteArray, Hid (s = ⟨(Lib.decDigits a).toArray⟩) := ⟨_, (rfl : (⟨(Lib.decDigits a).toArray⟩ : ByteArray) = _)⟩
  obtain ⟨sb, HSB⟩ : ∃ s : ByteArray, Hid (s = ⟨(Lib.decDigits b).toArray⟩) := ⟨_, (rfl : (⟨(Lib.decDigits b).toArray⟩ : ByteArray) = _)⟩
  rw [← HSA.out] at HDA hsa
  rw [← HSB.out] at HDB hsb
  have HS' : Hid (tokS a b = ⟨#[116]⟩ ++ sa ++ ⟨#[45]⟩ ++ sb) := by unfold Hid; rw [HSA.out, HSB.out]; exact HS.out
  go_enter Tryd.func6, Tryd.ntmps6
  go_wp2_with (first
    | (go_at_call 13; refine (user_impl _ _).mono ?_; rintro e w' ⟨rfl, rfl⟩; rw [h1])
    | (go_at_call 14; refine (between_impl _ _ _ _).mono ?_; rintro e w' ⟨rfl, rfl⟩; rw [h2]))
  refine (HDA w (HT.out _ (Below.refl _ _))).mono ?_
  rintro e w1 ⟨rfl, hb1⟩
  have HB1 : Hid (Below w.heap.size w w1) := hb1
  clear hb1
  go_wp2_with fail
  refine (HDB w1 (HT.out _ HB1.out)).mono ?_
  rintro e w2 ⟨rfl, hb2⟩
  have HB2 : Hid (Below w.heap.size w w2) := HB1.out.trans (hb2.mono HB1.out.size)
  clear hb2
  go_wp2
  go_ret
  exact ⟨ret_ba HS'.out.symm, HB2.out⟩
end Go.Proofs.YtdldblfopcbfeaaDoor
