/- What is read of a token's text, rune by rune. -/
import Derived.Test.YtdldblfopcbfeaaDoorTkDec
import Derived.Laws.RangeString
import Derived.Laws.RangeAny
namespace Go.Proofs.YtdldblfopcbfeaaDoor
open Go.RowKit

def stepP (acc : Int) (r : Nat) : Int := if r < 48 ∨ 57 < r then 0 else wrap64 (wrap64 (10 * acc) + ((r : Int) - 48))
/-- The place that is read from pos on. -/
def plc (s : ByteArray) : Nat → Nat → Int → Int
  | 0, _, acc => acc
  | b + 1, pos, acc => if pos < s.size then plc s b (pos + (Utf8.decode s pos).2) (stepP acc (Utf8.decode s pos).1) else acc
theorem width_pos' (s : ByteArray) (pos : Nat) (h : pos < s.size) : 1 ≤ (Utf8.decode s pos).2 := by
  by_cases ha : (s[pos]'h).toNat < 128
  · rw [decode_ascii s pos h ha]
    exact Nat.le_refl _
  · exact (decode_high s pos h (by omega)).2
theorem plc_end (s : ByteArray) (b pos : Nat) (acc : Int) (h : ¬ pos < s.size) : plc s b pos acc = acc := by
  cases b with
  | zero => rfl
  | succ b => simp [plc, h]
/-- Of plain bytes. -/
theorem plc_ascii (s : ByteArray) (l : List UInt8) (hl : s.data.toList = l) (ha : ∀ c ∈ l, c.toNat < 128) : ∀ b pos acc, s.size ≤ pos + b → plc s b pos acc = (l.drop pos).foldl (fun acc c => stepP acc c.toNat) acc
  | 0, pos, acc, h => by
    have hs : s.size = l.length := by rw [← hl]; rfl
    rw [List.drop_eq_nil_of_le (by omega)]
    rfl
  | b + 1, pos, acc, h => by
    have hs : s.size = l.length := by rw [← hl]; rfl
    by_cases hp : pos < s.size
    · have hp' : pos < l.length := by omega
      have hc : s[pos]'hp = l[pos] := by subst hl; rfl
      have hlt : (s[pos]'hp).toNat < 128 := by rw [hc]; exact ha _ (List.getElem_mem hp')
      rw [List.drop_eq_getElem_cons hp', List.foldl_cons, plc, if_pos hp, decode_ascii s pos hp hlt, plc_ascii s l hl ha b (pos + 1) _ (by omega), hc]
    · rw [plc_end s _ pos acc hp, List.drop_eq_nil_of_le (by omega)]
      rfl
theorem step_digit (m d : Nat) (hd : d < 10) (hm : 10 * m + d ≤ 9223372036854775807) : stepP m (UInt8.ofNat (48 + d)).toNat = ((10 * m + d : Nat) : Int) := by
  have e : (UInt8.ofNat (48 + d)).toNat = 48 + d := by rw [UInt8.toNat_ofNat', Nat.mod_eq_of_lt (by omega)]
  rw [e, stepP, if_neg (by omega)]
  unfold wrap64
  omega
theorem fold_dec : ∀ z : Nat, z ≤ 9223372036854775807 → (Lib.decDigits z).foldl (fun acc c => stepP acc c.toNat) 0 = (z : Int) := by
  intro z
  induction z using Nat.strongRecOn with
  | _ z ih =>
    intro hz
    by_cases h : z < 10
    · rw [dec_small z h, List.foldl_cons, List.foldl_nil]
      have := step_digit 0 z h (by omega)
      simpa using this
    · rw [dec_big z h, List.foldl_append, ih (z / 10) (by omega) (by omega), List.foldl_cons, List.foldl_nil, step_digit (z / 10) (z % 10) (by omega) (by omega)]
      congr 1
      omega
theorem dec_ascii : ∀ z : Nat, ∀ c ∈ Lib.decDigits z, c.toNat < 128 := by
  intro z
  have key : ∀ d : Nat, d < 10 → (UInt8.ofNat (48 + d)).toNat < 128 := fun d hd => by rw [UInt8.toNat_ofNat', Nat.mod_eq_of_lt (by omega)]; omega
  induction z using Nat.strongRecOn with
  | _ z ih =>
    intro c hc
    by_cases h : z < 10
    · rw [dec_small z h, List.mem_singleton] at hc
      rw [hc]
      exact key z h
    · rw [dec_big z h, List.mem_append, List.mem_singleton] at hc
      rcases hc with hc | hc
      · exact ih (z / 10) (by omega) c hc
      · rw [hc]
        exact key _ (by omega)
theorem tokB_list (a p : Nat) : (tokB a p).data.toList = 116 :: (Lib.decDigits a ++ 45 :: Lib.decDigits p) := by
  simp [tokB, ByteArray.data_append]
/-- A token's place is read back. -/
theorem plc_tok (a p : Nat) (hp : p ≤ 120) : plc (tokB a p) (tokB a p).size 0 0 = p := by
  rw [plc_ascii (tokB a p) _ (tokB_list a p) ?_ _ 0 0 (by omega), List.drop_zero, List.foldl_cons, List.foldl_append, List.foldl_cons]
  · have e : ∀ acc, stepP acc (45 : UInt8).toNat = 0 := fun acc => by
      have : (45 : UInt8).toNat = 45 := rfl
      rw [stepP, this, if_pos (by omega)]
    rw [e]
    exact fold_dec p (by omega)
  · intro c hc
    rw [List.mem_cons, List.mem_append, List.mem_cons] at hc
    rcases hc with rfl | hc | rfl | hc
    · decide
    · exact dec_ascii a c hc
    · decide
    · exact dec_ascii p c hc
/-- What is read of a text, and its code. -/
def rdT (u : Int) (t : ByteArray) : Bool := (tokS u (plc t t.size 0 0)).toList == t.toList
theorem rdT_yes {u : Int} {t : ByteArray} (h : rdT u t = true) : tokS u (plc t t.size 0 0) = t := by
  have h1 : (tokS u (plc t t.size 0 0)).toList = t.toList := by simpa [rdT] using h
  rw [ByteArray.toList_eq, ByteArray.toList_eq] at h1
  rw [ba_of_list h1]
theorem tok_eq {a b : ByteArray} (h : (a.toList == b.toList) = true) : a = b := by
  have h1 : a.toList = b.toList := by simpa using h
  rw [ByteArray.toList_eq, ByteArray.toList_eq] at h1
  rw [ba_of_list h1]
theorem rdT_of {u : Int} {t : ByteArray} {k : Nat} (hu : isB u 1 6 = true) (hk : k ≤ 120) (h : ((tokS u k).toList == t.toList) = true) : plc t t.size 0 0 = k ∧ rdT u t = true := by
  have e := tok_eq h
  have hb : isB (k : Int) 0 120 = true := by simp [isB]; omega
  have e2 : tokS u k = tokB u.toNat k := by unfold tokS; rw [hu, hb]; rfl
  have e3 : plc t t.size 0 0 = k := by rw [← e, e2]; exact plc_tok _ _ hk
  refine ⟨e3, ?_⟩
  unfold rdT
  rw [e3]
  exact h
theorem rdT_no {u : Int} {t : ByteArray} (ht : t.toList.isEmpty = false) (h : ∀ k : Nat, k ≤ 120 → ((tokS u k).toList == t.toList) = false) : rdT u t = false := by
  cases hr : rdT u t
  · rfl
  · have e := rdT_yes hr
    cases hb : isB (plc t t.size 0 0) 0 120
    · have e2 : tokS u (plc t t.size 0 0) = ⟨#[]⟩ := by unfold tokS; rw [hb, Bool.and_false]; rfl
      rw [e2] at e
      rw [← e] at ht
      rw [ByteArray.toList_eq] at ht
      cases ht
    · have hp := isB_yes hb
      have h2 := h (plc t t.size 0 0).toNat (by omega)
      rw [Int.toNat_of_nonneg hp.1] at h2
      unfold rdT at hr
      rw [hr] at h2
      cases h2
end Go.Proofs.YtdldblfopcbfeaaDoor
