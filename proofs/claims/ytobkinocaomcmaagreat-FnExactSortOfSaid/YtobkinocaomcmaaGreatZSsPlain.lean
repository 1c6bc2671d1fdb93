/- A stable sort of numbers by another number of each: plain. A row is a function of its places. -/
import Derived.Test.YtobkinocaomcmaaGreatZGrMem
namespace Go.Proofs.YtobkinocaomcmaaGreat

/-- Lesser by dp, then by itself. -/
def Lx (dp : Int → Int) (x y : Int) : Prop := dp x < dp y ∨ (dp x = dp y ∧ x < y)
theorem Lx.trans {dp : Int → Int} {x y z : Int} (h : Lx dp x y) (k : Lx dp y z) : Lx dp x z := by
  unfold Lx at *
  omega
theorem Lx.irrefl {dp : Int → Int} {x : Int} (h : Lx dp x x) : False := by
  unfold Lx at h
  omega
/-- Where the one is the greater by itself, dp alone decides. -/
theorem Lx.of_lt {dp : Int → Int} {x y : Int} (h : dp x < dp y) : Lx dp x y := .inl h
theorem Lx.of_le {dp : Int → Int} {x y : Int} (h : dp x ≤ dp y) (k : x < y) : Lx dp x y := by
  unfold Lx
  omega
abbrev SortedF (dp : Int → Int) (d : Nat → Int) (a b : Nat) : Prop := ∀ i j, a ≤ i → i < j → j < b → Lx dp (d i) (d j)
abbrev CrossF (d : Nat → Int) (a m b : Nat) : Prop := ∀ i j, a ≤ i → i < m → m ≤ j → j < b → d i < d j
/-- The same numbers between a and b, and all else as it was. -/
structure Seg (a b : Nat) (d d' : Nat → Int) : Prop where
  out : ∀ j, (j < a ∨ b ≤ j) → d' j = d j
  old : ∀ j, a ≤ j → j < b → ∃ i, a ≤ i ∧ i < b ∧ d' j = d i
  all : ∀ i, a ≤ i → i < b → ∃ j, a ≤ j ∧ j < b ∧ d' j = d i
theorem Seg.refl (a b : Nat) (d : Nat → Int) : Seg a b d d := ⟨fun _ _ => rfl, fun j h1 h2 => ⟨j, h1, h2, rfl⟩, fun i h1 h2 => ⟨i, h1, h2, rfl⟩⟩
theorem Seg.trans {a b : Nat} {d d1 d2 : Nat → Int} (h : Seg a b d d1) (k : Seg a b d1 d2) : Seg a b d d2 :=
  ⟨fun j hj => (k.out j hj).trans (h.out j hj), fun j h1 h2 => by
    obtain ⟨i, i1, i2, e⟩ := k.old j h1 h2
    obtain ⟨q, q1, q2, e2⟩ := h.old i i1 i2
    exact ⟨q, q1, q2, e.trans e2⟩, fun i h1 h2 => by
    obtain ⟨j, j1, j2, e⟩ := h.all i h1 h2
    obtain ⟨q, q1, q2, e2⟩ := k.all j j1 j2
    exact ⟨q, q1, q2, e2.trans e⟩⟩
theorem Seg.mono {a b a' b' : Nat} {d d' : Nat → Int} (h : Seg a b d d') (h1 : a' ≤ a) (h2 : b ≤ b') : Seg a' b' d d' :=
  ⟨fun j hj => h.out j (by omega), fun j j1 j2 => by
    by_cases c : a ≤ j ∧ j < b
    · obtain ⟨i, i1, i2, e⟩ := h.old j c.1 c.2
      exact ⟨i, by omega, by omega, e⟩
    · exact ⟨j, j1, j2, h.out j (by omega)⟩, fun i i1 i2 => by
    by_cases c : a ≤ i ∧ i < b
    · obtain ⟨j, q1, q2, e⟩ := h.all i c.1 c.2
      exact ⟨j, by omega, by omega, e⟩
    · exact ⟨i, i1, i2, h.out i (by omega)⟩⟩
/-- A place set. -/
def updF (d : Nat → Int) (i : Nat) (v : Int) : Nat → Int := fun j => if j = i then v else d j
/-- The number at place i brought to place j, which is not behind it; what lies between goes one back. -/
def shiftF (d : Nat → Int) (j i : Nat) : Nat → Int := fun k => if k < j then d k else if k = j then d i else if k ≤ i then d (k - 1) else d k
theorem shiftF_self (d : Nat → Int) (i : Nat) : shiftF d i i = d := by
  funext k
  unfold shiftF
  by_cases h1 : k < i
  · rw [if_pos h1]
  · rw [if_neg h1]
    by_cases h2 : k = i
    · rw [if_pos h2, h2]
    · rw [if_neg h2, if_neg (by omega)]
theorem shiftF_step {d : Nat → Int} {j i : Nat} (h : j < i) : updF (updF (shiftF d (j + 1) i) (j + 1) (shiftF d (j + 1) i j)) j (shiftF d (j + 1) i (j + 1)) = shiftF d j i := by
  have e1 : shiftF d (j + 1) i j = d j := by unfold shiftF; rw [if_pos (by omega)]
  have e2 : shiftF d (j + 1) i (j + 1) = d i := by unfold shiftF; rw [if_neg (by omega), if_pos rfl]
  rw [e1, e2]
  funext k
  unfold updF shiftF
  by_cases c1 : k = j
  · rw [if_pos c1, if_neg (by omega), if_pos c1]
  · rw [if_neg c1]
    by_cases c2 : k = j + 1
    · rw [if_pos c2, if_neg (by omega), if_neg c1, if_pos (by omega), c2]
      rfl
    · rw [if_neg c2]
      by_cases c3 : k < j
      · rw [if_pos (by omega), if_pos c3]
      · rw [if_neg (by omega), if_neg c2, if_neg c3, if_neg c1]
theorem shiftF_seg {d : Nat → Int} {j i a b : Nat} (h : j ≤ i) (ha : a ≤ j) (hb : i < b) : Seg a b d (shiftF d j i) := by
  refine ⟨fun k hk => ?_, fun k k1 k2 => ?_, fun k k1 k2 => ?_⟩
  · unfold shiftF
    by_cases c : k < j
    · rw [if_pos c]
    · rw [if_neg c, if_neg (by omega), if_neg (by omega)]
  · unfold shiftF
    by_cases c : k < j
    · exact ⟨k, k1, k2, by rw [if_pos c]⟩
    · by_cases c2 : k = j
      · exact ⟨i, by omega, hb, by rw [if_neg c, if_pos c2]⟩
      · by_cases c3 : k ≤ i
        · exact ⟨k - 1, by omega, by omega, by rw [if_neg c, if_neg c2, if_pos c3]⟩
        · exact ⟨k, k1, k2, by rw [if_neg c, if_neg c2, if_neg c3]⟩
  · by_cases c : k = i
    · exact ⟨j, ha, by omega, by unfold shiftF; rw [if_neg (by omega), if_pos rfl, c]⟩
    · by_cases c2 : k < j
      · exact ⟨k, k1, k2, by unfold shiftF; rw [if_pos c2]⟩
      · by_cases c3 : k < i
        · exact ⟨k + 1, by omega, by omega, by unfold shiftF; rw [if_neg (by omega), if_neg (by omega), if_pos (by omega)]; rfl⟩
        · exact ⟨k, k1, k2, by unfold shiftF; rw [if_neg c2, if_neg (by omega), if_neg (by omega)]⟩
/-- One more put into a sorted row. -/
theorem shiftF_sorted {dp : Int → Int} {d : Nat → Int} {a j i : Nat} (h : SortedF dp d a i) (hj : a ≤ j) (hi : j ≤ i) (hl : ∀ k, a ≤ k → k < j → Lx dp (d k) (d i)) (hg : ∀ k, j ≤ k → k < i → Lx dp (d i) (d k)) : SortedF dp (shiftF d j i) a (i + 1) := by
  intro p q hp hpq hq
  have val : ∀ k, a ≤ k → k < i + 1 → (k < j ∧ shiftF d j i k = d k) ∨ (k = j ∧ shiftF d j i k = d i) ∨ (j < k ∧ shiftF d j i k = d (k - 1)) := fun k _ k2 => by
    unfold shiftF
    by_cases c : k < j
    · exact .inl ⟨c, by rw [if_pos c]⟩
    · by_cases c2 : k = j
      · exact .inr (.inl ⟨c2, by rw [if_neg c, if_pos c2]⟩)
      · exact .inr (.inr ⟨by omega, by rw [if_neg c, if_neg c2, if_pos (by omega)]⟩)
  rcases val p hp (by omega) with ⟨c1, e1⟩ | ⟨c1, e1⟩ | ⟨c1, e1⟩ <;> rcases val q (by omega) hq with ⟨c2, e2⟩ | ⟨c2, e2⟩ | ⟨c2, e2⟩ <;> rw [e1, e2]
  · exact h p q hp hpq (by omega)
  · exact hl p hp c1
  · exact h p (q - 1) hp (by omega) (by omega)
  · omega
  · omega
  · exact hg (q - 1) (by omega) (by omega)
  · omega
  · omega
  · exact h (p - 1) (q - 1) (by omega) (by omega) (by omega)
/-- The number at place i brought to place j, which is not ahead of it; what lies between goes one forth. -/
def forthF (d : Nat → Int) (i j : Nat) : Nat → Int := fun k => if k < i then d k else if k < j then d (k + 1) else if k = j then d i else d k
theorem forthF_self (d : Nat → Int) (i : Nat) : forthF d i i = d := by
  funext k
  unfold forthF
  by_cases h1 : k < i
  · rw [if_pos h1]
  · rw [if_neg h1, if_neg h1]
    by_cases h2 : k = i
    · rw [if_pos h2, h2]
    · rw [if_neg h2]
theorem forthF_step {d : Nat → Int} {i j : Nat} (h : i ≤ j) : updF (updF (forthF d i j) j (forthF d i j (j + 1))) (j + 1) (forthF d i j j) = forthF d i (j + 1) := by
  have e1 : forthF d i j j = d i := by unfold forthF; rw [if_neg (by omega), if_neg (by omega), if_pos rfl]
  have e2 : forthF d i j (j + 1) = d (j + 1) := by unfold forthF; rw [if_neg (by omega), if_neg (by omega), if_neg (by omega)]
  rw [e1, e2]
  funext k
  unfold updF forthF
  by_cases c1 : k = j + 1
  · rw [if_pos c1, if_neg (by omega), if_neg (by omega), if_pos c1]
  · rw [if_neg c1]
    by_cases c2 : k = j
    · rw [if_pos c2, if_neg (by omega), if_pos (by omega), c2]
    · rw [if_neg c2]
      by_cases c3 : k < i
      · rw [if_pos c3, if_pos c3]
      · rw [if_neg c3, if_neg c3]
        by_cases c4 : k < j
        · rw [if_pos c4, if_pos (by omega)]
        · rw [if_neg c4, if_neg c2, if_neg (by omega), if_neg c1]
theorem forthF_seg {d : Nat → Int} {i j a b : Nat} (h : i ≤ j) (ha : a ≤ i) (hb : j < b) : Seg a b d (forthF d i j) := by
  refine ⟨fun k hk => ?_, fun k k1 k2 => ?_, fun k k1 k2 => ?_⟩
  · unfold forthF
    by_cases c : k < i
    · rw [if_pos c]
    · rw [if_neg c, if_neg (by omega), if_neg (by omega)]
  · unfold forthF
    by_cases c : k < i
    · exact ⟨k, k1, k2, by rw [if_pos c]⟩
    · by_cases c2 : k < j
      · exact ⟨k + 1, by omega, by omega, by rw [if_neg c, if_pos c2]⟩
      · by_cases c3 : k = j
        · exact ⟨i, ha, by omega, by rw [if_neg c, if_neg c2, if_pos c3]⟩
        · exact ⟨k, k1, k2, by rw [if_neg c, if_neg c2, if_neg c3]⟩
  · by_cases c : k = i
    · exact ⟨j, by omega, hb, by unfold forthF; rw [if_neg (by omega), if_neg (by omega), if_pos rfl, c]⟩
    · by_cases c2 : k < i
      · exact ⟨k, k1, k2, by unfold forthF; rw [if_pos c2]⟩
      · by_cases c3 : k ≤ j
        · refine ⟨k - 1, by omega, by omega, ?_⟩
          unfold forthF
          rw [if_neg (by omega), if_pos (by omega)]
          congr 1
          omega
        · exact ⟨k, k1, k2, by unfold forthF; rw [if_neg c2, if_neg (by omega), if_neg (by omega)]⟩
/-- The first one, put where it belongs among the rest. -/
theorem forthF_sorted {dp : Int → Int} {d : Nat → Int} {a j b : Nat} (h : SortedF dp d (a + 1) b) (hj : a ≤ j) (hb : j < b) (hl : ∀ k, a < k → k ≤ j → Lx dp (d k) (d a)) (hg : ∀ k, j < k → k < b → Lx dp (d a) (d k)) : SortedF dp (forthF d a j) a b := by
  intro p q hp hpq hq
  have val : ∀ k, a ≤ k → k < b → (k < j ∧ forthF d a j k = d (k + 1)) ∨ (k = j ∧ forthF d a j k = d a) ∨ (j < k ∧ forthF d a j k = d k) := fun k k1 _ => by
    unfold forthF
    by_cases c : k < j
    · exact .inl ⟨c, by rw [if_neg (by omega), if_pos c]⟩
    · by_cases c2 : k = j
      · exact .inr (.inl ⟨c2, by rw [if_neg (by omega), if_neg c, if_pos c2]⟩)
      · exact .inr (.inr ⟨by omega, by rw [if_neg (by omega), if_neg c, if_neg c2]⟩)
  rcases val p hp (by omega) with ⟨c1, e1⟩ | ⟨c1, e1⟩ | ⟨c1, e1⟩ <;> rcases val q (by omega) hq with ⟨c2, e2⟩ | ⟨c2, e2⟩ | ⟨c2, e2⟩ <;> rw [e1, e2]
  · exact h (p + 1) (q + 1) (by omega) (by omega) (by omega)
  · exact hl (p + 1) (by omega) (by omega)
  · exact h (p + 1) q (by omega) (by omega) hq
  · omega
  · omega
  · exact hg q c2 hq
  · omega
  · omega
  · exact h p q (by omega) hpq hq
/-- Two rows of n numbers, at x and at y, changed for each other. -/
def swpF (d : Nat → Int) (x y n : Nat) : Nat → Int := fun k => if x ≤ k ∧ k < x + n then d (k - x + y) else if y ≤ k ∧ k < y + n then d (k - y + x) else d k
theorem swpF_zero (d : Nat → Int) (x y : Nat) : swpF d x y 0 = d := by
  funext k
  unfold swpF
  rw [if_neg (by omega), if_neg (by omega)]
theorem swpF_step {d : Nat → Int} {x y n : Nat} (h : x + n < y) : updF (updF (swpF d x y n) (x + n) (swpF d x y n (y + n))) (y + n) (swpF d x y n (x + n)) = swpF d x y (n + 1) := by
  have e1 : swpF d x y n (y + n) = d (y + n) := by unfold swpF; rw [if_neg (by omega), if_neg (by omega)]
  have e2 : swpF d x y n (x + n) = d (x + n) := by unfold swpF; rw [if_neg (by omega), if_neg (by omega)]
  rw [e1, e2]
  funext k
  unfold updF swpF
  by_cases c1 : k = y + n
  · rw [if_pos c1, if_neg (by omega), if_pos (by omega)]
    congr 1
    omega
  · rw [if_neg c1]
    by_cases c2 : k = x + n
    · rw [if_pos c2, if_pos (by omega)]
      congr 1
      omega
    · rw [if_neg c2]
      by_cases c3 : x ≤ k ∧ k < x + n
      · rw [if_pos c3, if_pos (by omega)]
      · rw [if_neg c3, if_neg (by omega : ¬ (x ≤ k ∧ k < x + (n + 1)))]
        by_cases c4 : y ≤ k ∧ k < y + n
        · rw [if_pos c4, if_pos (by omega)]
        · rw [if_neg c4, if_neg (by omega)]
/-- What lies between a and m, and what lies between m and b, in the other order. -/
def rotF (d : Nat → Int) (a m b : Nat) : Nat → Int := fun k => if a ≤ k ∧ k < a + (b - m) then d (k - a + m) else if a + (b - m) ≤ k ∧ k < b then d (k - (b - m)) else d k
theorem rot_left {d : Nat → Int} {m i j : Nat} (hi : i ≤ m) (h : j < i) : rotF (swpF d (m - i) m j) (m - (i - j)) m (m + j) = rotF d (m - i) m (m + j) := by
  funext k
  unfold rotF swpF
  by_cases c1 : k < m - i
  · rw [if_neg (by omega), if_neg (by omega), if_neg (by omega), if_neg (by omega), if_neg (by omega), if_neg (by omega)]
  · by_cases c2 : k < m - i + j
    · rw [if_neg (by omega), if_neg (by omega), if_pos (by omega), if_pos (by omega)]
    · by_cases c3 : k < m - (i - j) + j
      · rw [if_pos (by omega), if_neg (by omega), if_pos (by omega), if_neg (by omega), if_pos (by omega)]
        congr 1
        omega
      · by_cases c4 : k < m + j
        · rw [if_neg (by omega), if_pos (by omega), if_neg (by omega), if_neg (by omega), if_neg (by omega), if_pos (by omega)]
          all_goals (congr 1; omega)
        · rw [if_neg (by omega), if_neg (by omega), if_neg (by omega), if_neg (by omega), if_neg (by omega), if_neg (by omega)]
theorem rot_right {d : Nat → Int} {m i j : Nat} (hi : i ≤ m) (h : i < j) : rotF (swpF d (m - i) (m + j - i) i) (m - i) m (m + (j - i)) = rotF d (m - i) m (m + j) := by
  funext k
  unfold rotF swpF
  by_cases c1 : k < m - i
  · rw [if_neg (by omega), if_neg (by omega), if_neg (by omega), if_neg (by omega), if_neg (by omega), if_neg (by omega)]
  · by_cases c2 : k < m - i + (m + (j - i) - m)
    · rw [if_pos (by omega), if_neg (by omega), if_neg (by omega), if_pos (by omega)]
    · by_cases c3 : k < m + (j - i)
      · rw [if_neg (by omega), if_pos (by omega), if_pos (by omega), if_pos (by omega)]
        congr 1
        omega
      · by_cases c4 : k < m + j
        · rw [if_neg (by omega), if_neg (by omega), if_neg (by omega), if_pos (by omega), if_neg (by omega), if_pos (by omega)]
          congr 1
          omega
        · rw [if_neg (by omega), if_neg (by omega), if_neg (by omega), if_neg (by omega), if_neg (by omega), if_neg (by omega)]
theorem rot_same {d : Nat → Int} {m i : Nat} (hi : i ≤ m) : swpF d (m - i) m i = rotF d (m - i) m (m + i) := by
  funext k
  unfold rotF swpF
  by_cases c1 : k < m - i
  · rw [if_neg (by omega), if_neg (by omega), if_neg (by omega), if_neg (by omega)]
  · by_cases c2 : k < m
    · rw [if_pos (by omega), if_pos (by omega)]
    · by_cases c3 : k < m + i
      · rw [if_neg (by omega), if_pos (by omega), if_neg (by omega), if_pos (by omega)]
        congr 1
        omega
      · rw [if_neg (by omega), if_neg (by omega), if_neg (by omega), if_neg (by omega)]
/-- Two rows merged at their middle: what symMerge makes ahead of its two own calls. e is where the second part's second half begins. -/
structure Half (dp : Int → Int) (d d' : Nat → Int) (a st mid e b : Nat) : Prop where
  seg : Seg a b d d'
  s1 : SortedF dp d' a st
  s2 : SortedF dp d' st mid
  c1 : CrossF d' a st mid
  s3 : SortedF dp d' mid e
  s4 : SortedF dp d' e b
  c2 : CrossF d' mid e b
  low : ∀ i j, a ≤ i → i < mid → mid ≤ j → j < b → Lx dp (d' i) (d' j)
theorem rotF_seg {d : Nat → Int} {a b s m e : Nat} (ha : a ≤ s) (hs : s ≤ m) (hm : m ≤ e) (he : e ≤ b) : Seg a b d (rotF d s m e) := by
  refine ⟨fun k hk => ?_, fun k k1 k2 => ?_, fun k k1 k2 => ?_⟩
  · unfold rotF
    rw [if_neg (by omega), if_neg (by omega)]
  · unfold rotF
    by_cases c : s ≤ k ∧ k < s + (e - m)
    · exact ⟨k - s + m, by omega, by omega, by rw [if_pos c]⟩
    · by_cases c2 : s + (e - m) ≤ k ∧ k < e
      · exact ⟨k - (e - m), by omega, by omega, by rw [if_neg c, if_pos c2]⟩
      · exact ⟨k, k1, k2, by rw [if_neg c, if_neg c2]⟩
  · by_cases c : k < s
    · exact ⟨k, k1, k2, by unfold rotF; rw [if_neg (by omega), if_neg (by omega)]⟩
    · by_cases c2 : k < m
      · refine ⟨k + (e - m), by omega, by omega, ?_⟩
        unfold rotF
        rw [if_neg (by omega), if_pos (by omega)]
        congr 1
        omega
      · by_cases c3 : k < e
        · refine ⟨k - m + s, by omega, by omega, ?_⟩
          unfold rotF
          rw [if_pos (by omega)]
          congr 1
          omega
        · exact ⟨k, k1, k2, by unfold rotF; rw [if_neg (by omega), if_neg (by omega)]⟩
theorem half_rot {dp : Int → Int} {d : Nat → Int} {a m b s e mid : Nat} (ha : a ≤ s) (hs : s ≤ m) (hm : m ≤ e) (he : e ≤ b) (hmid : mid = s + (e - m))
    (h1 : SortedF dp d a m) (h2 : SortedF dp d m b) (hc : CrossF d a m b) (i1 : s = a ∨ e = b ∨ Lx dp (d (s - 1)) (d e)) (i2 : s = m ∨ e = m ∨ Lx dp (d (e - 1)) (d s)) : Half dp d (rotF d s m e) a s mid e b := by
  have vA : ∀ k, a ≤ k → k < s → rotF d s m e k = d k := fun k _ k2 => by unfold rotF; rw [if_neg (by omega), if_neg (by omega)]
  have vC : ∀ k, s ≤ k → k < mid → rotF d s m e k = d (k - s + m) := fun k k1 k2 => by unfold rotF; rw [if_pos (by omega)]
  have vB : ∀ k, mid ≤ k → k < e → rotF d s m e k = d (k - (e - m)) := fun k k1 k2 => by unfold rotF; rw [if_neg (by omega), if_pos (by omega)]
  have vD : ∀ k, e ≤ k → k < b → rotF d s m e k = d k := fun k k1 _ => by unfold rotF; rw [if_neg (by omega), if_neg (by omega)]
  have le1 : ∀ {i j : Nat}, a ≤ i → i ≤ j → j < m → d i = d j ∨ Lx dp (d i) (d j) := fun {i j} q1 q2 q3 => by
    rcases Nat.lt_or_ge i j with q | q
    · exact .inr (h1 i j q1 q q3)
    · exact .inl (by rw [show i = j by omega])
  have le2 : ∀ {i j : Nat}, m ≤ i → i ≤ j → j < b → d i = d j ∨ Lx dp (d i) (d j) := fun {i j} q1 q2 q3 => by
    rcases Nat.lt_or_ge i j with q | q
    · exact .inr (h2 i j q1 q q3)
    · exact .inl (by rw [show i = j by omega])
  have chain : ∀ {x y z u : Int}, (x = y ∨ Lx dp x y) → Lx dp y z → (z = u ∨ Lx dp z u) → Lx dp x u := fun {x y z u} q1 q2 q3 => by
    rcases q1 with rfl | q1 <;> rcases q3 with rfl | q3
    · exact q2
    · exact q2.trans q3
    · exact q1.trans q2
    · exact (q1.trans q2).trans q3
  refine ⟨rotF_seg ha hs hm he, fun i j q1 q2 q3 => ?_, fun i j q1 q2 q3 => ?_, fun i j q1 q2 q3 q4 => ?_, fun i j q1 q2 q3 => ?_, fun i j q1 q2 q3 => ?_, fun i j q1 q2 q3 q4 => ?_, fun i j q1 q2 q3 q4 => ?_⟩
  · rw [vA i q1 (by omega), vA j (by omega) q3]
    exact h1 i j q1 q2 (by omega)
  · rw [vC i q1 (by omega), vC j (by omega) q3]
    exact h2 _ _ (by omega) (by omega) (by omega)
  · rw [vA i q1 q2, vC j q3 q4]
    exact hc _ _ q1 (by omega) (by omega) (by omega)
  · rw [vB i q1 (by omega), vB j (by omega) q3]
    exact h1 _ _ (by omega) (by omega) (by omega)
  · rw [vD i q1 (by omega), vD j (by omega) q3]
    exact h2 _ _ (by omega) (by omega) q3
  · rw [vB i q1 q2, vD j q3 q4]
    exact hc _ _ (by omega) (by omega) (by omega) q4
  · by_cases ci : i < s
    · rw [vA i q1 ci]
      by_cases cj : j < e
      · rw [vB j q3 cj]
        exact h1 _ _ q1 (by omega) (by omega)
      · rw [vD j (by omega) q4]
        rcases i1 with c | c | c
        · omega
        · omega
        · exact chain (le1 q1 (by omega) (by omega)) c (le2 hm (by omega) q4)
    · rw [vC i (by omega) q2]
      by_cases cj : j < e
      · rw [vB j q3 cj]
        rcases i2 with c | c | c
        · omega
        · omega
        · exact chain (le2 (by omega) (by omega) (by omega)) c (le1 ha (by omega) (by omega))
      · rw [vD j (by omega) q4]
        exact h2 _ _ (by omega) (by omega) q4
/-- Both halves sorted: the whole is. -/
theorem Half.end {dp : Int → Int} {d d' d1 d2 : Nat → Int} {a st mid e b : Nat} (h : Half dp d d' a st mid e b) (hm : a ≤ mid) (hb : mid ≤ b) (g1 : Seg a mid d' d1) (k1 : SortedF dp d1 a mid) (g2 : Seg mid b d1 d2) (k2 : SortedF dp d2 mid b) : Seg a b d d2 ∧ SortedF dp d2 a b := by
  refine ⟨h.seg.trans ((g1.mono (Nat.le_refl _) hb).trans (g2.mono hm (Nat.le_refl _))), fun i j q1 q2 q3 => ?_⟩
  by_cases cj : j < mid
  · rw [g2.out i (.inl (by omega)), g2.out j (.inl cj)]
    exact k1 i j q1 q2 cj
  · by_cases ci : i < mid
    · rw [g2.out i (.inl ci)]
      obtain ⟨i', p1, p2, e1⟩ := g1.old i q1 ci
      obtain ⟨j', p3, p4, e2⟩ := g2.old j (by omega) q3
      rw [e1, e2, g1.out j' (.inr p3)]
      exact h.low i' j' p1 p2 p3 p4
    · exact k2 i j (by omega) q2 q3
/-- Another order of the same: cross where the rows it is made of are. -/
theorem CrossF.seg {d d1 : Nat → Int} {a m b : Nat} (h : CrossF d a m b) (g : Seg a m d d1) : CrossF d1 a m b := fun i j q1 q2 q3 q4 => by
  obtain ⟨i', p1, p2, e1⟩ := g.old i q1 q2
  rw [e1, g.out j (.inr q3)]
  exact h i' j p1 p2 q3 q4
theorem CrossF.seg2 {d d1 : Nat → Int} {a m b : Nat} (h : CrossF d a m b) (g : Seg m b d d1) : CrossF d1 a m b := fun i j q1 q2 q3 q4 => by
  obtain ⟨j', p1, p2, e1⟩ := g.old j q3 q4
  rw [e1, g.out i (.inl q2)]
  exact h i j' q1 q2 p1 p2
theorem SortedF.out {dp : Int → Int} {d d1 : Nat → Int} {a b x y : Nat} (h : SortedF dp d a b) (g : Seg x y d d1) (hd : b ≤ x ∨ y ≤ a) : SortedF dp d1 a b := fun i j q1 q2 q3 => by
  rw [g.out i (by omega), g.out j (by omega)]
  exact h i j q1 q2 q3
end Go.Proofs.YtobkinocaomcmaaGreat
