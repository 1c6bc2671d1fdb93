/- l03Set of the specification, walked. -/
import Derived.Test.YtegjdngkbofogaaGreatMsSet
namespace Go.Proofs.YtegjdngkbofogaaGreat
open Go.RowKit

def SetPost (w : World) (base : Nat) (l : List Int) (e : Ending) (w' : World) : Prop := ∃ g c, e = .returned (.slice (some ⟨g, 0, none⟩) l.length c) ∧ NumsOwn w' base (.slice (some ⟨g, 0, none⟩) l.length c) l ∧ Below w.heap.size w w'
theorem set_new {w w' : World} {base : Nat} {l a b : List Int} {n : Int} {v : Value} (he : setN l n = [] ++ a ++ [n] ++ b) (ho : NumsOwn w' w.heap.size v ([] ++ a ++ [n] ++ b)) (hb : Below w.heap.size w w') (hbase : base ≤ w.heap.size) : SetPost w base (setN l n) (.returned v) w' := by
  rw [← he] at ho
  rcases ho.2 with ⟨_, h0⟩ | ⟨g, cap, cur, h1, _⟩
  · rw [he] at h0
    simp at h0
  · subst h1
    exact ⟨g, cap, rfl, owns_baseC ho hbase, hb⟩
theorem set_there {w : World} {base g c : Nat} {l : List Int} {n : Int} (he : setN l n = l) (ho : NumsOwn w base (.slice (some ⟨g, 0, none⟩) l.length c) l) : SetPost w base (setN l n) (.returned (.slice (some ⟨g, 0, none⟩) l.length c)) w := by
  rw [he]
  exact ⟨g, c, rfl, ho, Below.refl _ _⟩
set_option maxHeartbeats 4000000 in
set_option maxRecDepth 100000 in
theorem set_spec (l : List Int) (n : Int) (g c base : Nat) (w : World) (h : NumsOwn w base (.slice (some ⟨g, 0, none⟩) l.length c) l) (hl : l.length ≤ 900000) (hbase : base ≤ w.heap.size) :
    Calls Tryz.prog 39 #[.slice (some ⟨g, 0, none⟩) l.length c, .int .i64 n] w (SetPost w base (setN l n)) := by
  obtain ⟨i0, hi, hz0, hz1, hz2⟩ := info_parts Tryz.info2
  obtain ⟨a', c', e', hcl, hat, -⟩ := h.at (by omega)
  cases e'
  have HAT : Hid (∀ W, Below w.heap.size w W → NumsAt W (some ⟨g, 0, none⟩) l) := fun W hW => hat.kept hW
  have HO : Hid (NumsOwn w base (.slice (some ⟨g, 0, none⟩) l.length c) l) := h
  clear h hat
  go_enter Tryz.func39, Tryz.ntmps39
  go_wp2
  go_loop [5] (fun i => ∃ k : Nat, k ≤ l.length ∧ i = .int .i64 k ∧ Hid (∀ q (h : q < l.length), q < k → l[q] < n)) (fun i => l.length - (intOf i).toNat)
  case atStart => exact ⟨0, Nat.zero_le _, rfl, fun _ _ h => absurd h (Nat.not_lt_zero _)⟩
  case round =>
    obtain ⟨k, hk, rfl, HI⟩ := hrel
    by_cases hlt : k < l.length
    · obtain ⟨b, off, hbo, hbb, hcell⟩ := (HAT.out _ (Below.refl _ _)).2 (by omega)
      obtain ⟨rfl, rfl⟩ : g = b ∧ 0 = off := by simpa using hbo
      have hc0 : w.cell? ⟨g, k, none⟩ = some (.int .i64 l[k]) := by have := hcell k hlt; rwa [Nat.zero_add] at this
      clear hcell
      by_cases hless : l[k] < n
      · have HN : Hid (∀ q (h : q < l.length), q < k + 1 → l[q] < n) := fun q h hq => by
          by_cases e : q = k
          · subst e
            exact hless
          · exact HI.out q h (by omega)
        go_wp2
        exact ⟨⟨k + 1, by omega, by go_num, HN⟩, by simp [intOf]; omega⟩
      · have HK : Hid (placeN l n = k) := placeN_eq hk HI.out (fun _ => hless)
        have hdl : decide (l[k] < n) = false := decide_eq_false hless
        cases heq : (l[k] == n)
        · have HNT : Hid (¬ l[placeN l n]? = some n) := by
            unfold Hid
            rw [HK.out, List.getElem?_eq_getElem hlt]
            intro q
            simp at q
            simp [q] at heq
          have hfull : ¬ k = c := by omega
          have HPT : Hid (setN l n = [] ++ l.take k ++ [n] ++ l.drop k) := by unfold Hid; rw [setN_new HNT.out, HK.out]; simp
          have HM : Hid (NumsOwn (w.alloc (.cells #[] 2)) w.heap.size (.slice (some ⟨w.heap.size, 0, none⟩) 0 0) [] ∧ Below w.heap.size w (w.alloc (.cells #[] 2))) := ⟨NumsOwn.made _ (Nat.le_refl _), (Below.refl _ _).alloc (Nat.le_refl _) _⟩
          have htk : (l.take k).length = k := by simp; omega
          have hdk : (l.drop k).length = l.length - k := by simp
          have hck : ¬ c - k = 0 := by omega
          go_wp2_with (first | (have hq := H2; clear hq; at_builtin; refine wpList_append_ns rfl _ _ 26 rfl i0 _ Tryz.underlying26 hi hz0 hz1 hz2 rfl w.heap.size _ ([] ++ l.take k ++ [n]) rfl H2.out.1 (some ⟨g, k, none⟩) (c - k) (l.drop k) (by have := (HAT.out _ H2.out.2).drop k; rwa [Nat.zero_add] at this) (by rw [hdk]; rfl) (by simp; omega) (by omega) ?_; intro v5 w5 hO hb; have H3 : Hid (NumsOwn w5 w.heap.size v5 ([] ++ l.take k ++ [n] ++ l.drop k) ∧ Below w.heap.size w w5) := ⟨hO, H2.out.2.trans hb⟩; clear hO hb) | (have hq := H1; clear hq; at_builtin; refine wpList_append_ns rfl _ _ 26 rfl i0 _ Tryz.underlying26 hi hz0 hz1 hz2 rfl w.heap.size _ ([] ++ l.take k) rfl (HA3.out _).1 _ _ [n] (numsAt_one (MapKept.heap_alloc _ _).1) rfl (by simp; omega) (by simp; omega) ?_; intro v4 w4 hO hb; have H2 : Hid (NumsOwn w4 w.heap.size v4 ([] ++ l.take k ++ [n]) ∧ Below w.heap.size w w4) := ⟨hO, (HA3.out _).2.trans hb⟩; have hs4 := H2.out.2.size; clear hO hb) | (at_builtin; refine wpList_append_ns rfl _ _ 26 rfl i0 _ Tryz.underlying26 hi hz0 hz1 hz2 rfl w.heap.size _ [] rfl HM.out.1 (some ⟨g, 0, none⟩) c (l.take k) ((HAT.out _ HM.out.2).take k) (by rw [htk]; rfl) (by simp; omega) (by simp) ?_; intro v3 w3 hO hb; have H1 : Hid (NumsOwn w3 w.heap.size v3 ([] ++ l.take k) ∧ Below w.heap.size w w3) := ⟨hO, HM.out.2.trans hb⟩; have hs3 := H1.out.2.size; have HA3 : Hid (∀ o, NumsOwn (w3.alloc o) w.heap.size v3 ([] ++ l.take k) ∧ Below w.heap.size w (w3.alloc o)) := fun o => ⟨H1.out.1.kept ((Below.refl _ _).alloc (Nat.le_refl _) _), H1.out.2.alloc H1.out.2.size _⟩; clear hO hb))
          go_ret
          exact set_new HPT.out H3.out.1 H3.out.2 hbase
        · have HST : Hid (setN l n = l) := setN_there (by rw [HK.out, List.getElem?_eq_getElem hlt]; simpa using heq)
          go_wp2
          go_ret
          exact set_there HST.out HO.out
    · have HK : Hid (placeN l n = k) := placeN_eq hk HI.out (fun h => absurd h hlt)
      have HNT : Hid (¬ l[placeN l n]? = some n) := by
        unfold Hid
        rw [HK.out, List.getElem?_eq_none (by omega)]
        simp
      by_cases hfull : k = c
      · subst hfull
        have HPT : Hid (setN l n = [] ++ l.take k ++ [n] ++ l.drop k) := by unfold Hid; rw [setN_new HNT.out, HK.out]; simp
        have HM : Hid (NumsOwn (w.alloc (.cells #[] 2)) w.heap.size (.slice (some ⟨w.heap.size, 0, none⟩) 0 0) [] ∧ Below w.heap.size w (w.alloc (.cells #[] 2))) := ⟨NumsOwn.made _ (Nat.le_refl _), (Below.refl _ _).alloc (Nat.le_refl _) _⟩
        have htk : (l.take k).length = k := by simp; omega
        have hdk : (l.drop k).length = l.length - k := by simp
        have hck : k - k = 0 := by omega
        go_wp2_with (first | (have hq := H2; clear hq; at_builtin; refine wpList_append_ns rfl _ _ 26 rfl i0 _ Tryz.underlying26 hi hz0 hz1 hz2 rfl w.heap.size _ ([] ++ l.take k ++ [n]) rfl H2.out.1 (some ⟨g, 0, none⟩) 0 (l.drop k) (by rw [List.drop_eq_nil_of_le (by omega)]; exact NumsAt.empty _) (by rw [hdk, show l.length - k = 0 by omega]; rfl) (by simp; omega) (by omega) ?_; intro v5 w5 hO hb; have H3 : Hid (NumsOwn w5 w.heap.size v5 ([] ++ l.take k ++ [n] ++ l.drop k) ∧ Below w.heap.size w w5) := ⟨hO, H2.out.2.trans hb⟩; clear hO hb) | (have hq := H1; clear hq; at_builtin; refine wpList_append_ns rfl _ _ 26 rfl i0 _ Tryz.underlying26 hi hz0 hz1 hz2 rfl w.heap.size _ ([] ++ l.take k) rfl (HA3.out _).1 _ _ [n] (numsAt_one (MapKept.heap_alloc _ _).1) rfl (by simp; omega) (by simp; omega) ?_; intro v4 w4 hO hb; have H2 : Hid (NumsOwn w4 w.heap.size v4 ([] ++ l.take k ++ [n]) ∧ Below w.heap.size w w4) := ⟨hO, (HA3.out _).2.trans hb⟩; have hs4 := H2.out.2.size; clear hO hb) | (at_builtin; refine wpList_append_ns rfl _ _ 26 rfl i0 _ Tryz.underlying26 hi hz0 hz1 hz2 rfl w.heap.size _ [] rfl HM.out.1 (some ⟨g, 0, none⟩) k (l.take k) ((HAT.out _ HM.out.2).take k) (by rw [htk]; rfl) (by simp; omega) (by simp) ?_; intro v3 w3 hO hb; have H1 : Hid (NumsOwn w3 w.heap.size v3 ([] ++ l.take k) ∧ Below w.heap.size w w3) := ⟨hO, HM.out.2.trans hb⟩; have hs3 := H1.out.2.size; have HA3 : Hid (∀ o, NumsOwn (w3.alloc o) w.heap.size v3 ([] ++ l.take k) ∧ Below w.heap.size w (w3.alloc o)) := fun o => ⟨H1.out.1.kept ((Below.refl _ _).alloc (Nat.le_refl _) _), H1.out.2.alloc H1.out.2.size _⟩; clear hO hb))
        go_ret
        exact set_new HPT.out H3.out.1 H3.out.2 hbase
      · have HPT : Hid (setN l n = [] ++ l.take k ++ [n] ++ l.drop k) := by unfold Hid; rw [setN_new HNT.out, HK.out]; simp
        have HM : Hid (NumsOwn (w.alloc (.cells #[] 2)) w.heap.size (.slice (some ⟨w.heap.size, 0, none⟩) 0 0) [] ∧ Below w.heap.size w (w.alloc (.cells #[] 2))) := ⟨NumsOwn.made _ (Nat.le_refl _), (Below.refl _ _).alloc (Nat.le_refl _) _⟩
        have htk : (l.take k).length = k := by simp; omega
        have hdk : (l.drop k).length = l.length - k := by simp
        have hck : ¬ c - k = 0 := by omega
        go_wp2_with (first | (have hq := H2; clear hq; at_builtin; refine wpList_append_ns rfl _ _ 26 rfl i0 _ Tryz.underlying26 hi hz0 hz1 hz2 rfl w.heap.size _ ([] ++ l.take k ++ [n]) rfl H2.out.1 (some ⟨g, k, none⟩) (c - k) (l.drop k) (by have := (HAT.out _ H2.out.2).drop k; rwa [Nat.zero_add] at this) (by rw [hdk]; rfl) (by simp; omega) (by omega) ?_; intro v5 w5 hO hb; have H3 : Hid (NumsOwn w5 w.heap.size v5 ([] ++ l.take k ++ [n] ++ l.drop k) ∧ Below w.heap.size w w5) := ⟨hO, H2.out.2.trans hb⟩; clear hO hb) | (have hq := H1; clear hq; at_builtin; refine wpList_append_ns rfl _ _ 26 rfl i0 _ Tryz.underlying26 hi hz0 hz1 hz2 rfl w.heap.size _ ([] ++ l.take k) rfl (HA3.out _).1 _ _ [n] (numsAt_one (MapKept.heap_alloc _ _).1) rfl (by simp; omega) (by simp; omega) ?_; intro v4 w4 hO hb; have H2 : Hid (NumsOwn w4 w.heap.size v4 ([] ++ l.take k ++ [n]) ∧ Below w.heap.size w w4) := ⟨hO, (HA3.out _).2.trans hb⟩; have hs4 := H2.out.2.size; clear hO hb) | (at_builtin; refine wpList_append_ns rfl _ _ 26 rfl i0 _ Tryz.underlying26 hi hz0 hz1 hz2 rfl w.heap.size _ [] rfl HM.out.1 (some ⟨g, 0, none⟩) c (l.take k) ((HAT.out _ HM.out.2).take k) (by rw [htk]; rfl) (by simp; omega) (by simp) ?_; intro v3 w3 hO hb; have H1 : Hid (NumsOwn w3 w.heap.size v3 ([] ++ l.take k) ∧ Below w.heap.size w w3) := ⟨hO, HM.out.2.trans hb⟩; have hs3 := H1.out.2.size; have HA3 : Hid (∀ o, NumsOwn (w3.alloc o) w.heap.size v3 ([] ++ l.take k) ∧ Below w.heap.size w (w3.alloc o)) := fun o => ⟨H1.out.1.kept ((Below.refl _ _).alloc (Nat.le_refl _) _), H1.out.2.alloc H1.out.2.size _⟩; clear hO hb))
        go_ret
        exact set_new HPT.out H3.out.1 H3.out.2 hbase
end Go.Proofs.YtegjdngkbofogaaGreat
