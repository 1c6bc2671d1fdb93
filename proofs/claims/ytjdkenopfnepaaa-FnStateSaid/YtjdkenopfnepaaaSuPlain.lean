/- What is put into a row of entries, and taken out of it: plain functions. -/
import Derived.Test.YtjdkenopfnepaaaStAt
namespace Go.Proofs.Ytjdkenopfnepaaa

/-- A row whose entries rise. -/
def Rises (xs : List En) : Prop := xs.Pairwise fun a b => lessB a b = true
theorem lessB_iff {x y : En} : lessB x y = true ↔ x.kind < y.kind ∨ (x.kind = y.kind ∧ x.key < y.key) := by
  unfold lessB
  simp
theorem rises_of {xs : List En} (h : riseB xs = true) : Rises xs := by
  refine List.pairwise_iff_getElem.2 fun i j hi hj hij => ?_
  obtain ⟨d, rfl⟩ : ∃ d, j = i + d + 1 := ⟨j - i - 1, by omega⟩
  exact lessB_iff.2 (rise_far h d i hj)
theorem lessB_asymm {x y : En} (h : lessB x y = true) : ¬ lessB y x = true := fun h2 => by
  have h1 := lessB_iff.1 h
  have h3 := lessB_iff.1 h2
  omega
theorem lessB_trans {x y z : En} (h : lessB x y = true) (h2 : lessB y z = true) : lessB x z = true := by
  have h1 := lessB_iff.1 h
  have h3 := lessB_iff.1 h2
  exact lessB_iff.2 (by omega)
theorem lessB_total {x y : En} (h : ¬ lessB x y = true) (hs : ¬ (x.kind = y.kind ∧ x.key = y.key)) : lessB y x = true := by
  have h1 : ¬ (x.kind < y.kind ∨ (x.kind = y.kind ∧ x.key < y.key)) := fun c => h (lessB_iff.2 c)
  exact lessB_iff.2 (by omega)
theorem lessB_ne {x y : En} (h : lessB x y = true) : ¬ (x.kind = y.kind ∧ x.key = y.key) := fun c => by
  have h1 := lessB_iff.1 h
  omega
/-- Two rows that rise, and hold the same, are one. -/
theorem rises_ext : ∀ {xs ys : List En}, Rises xs → Rises ys → (∀ e, e ∈ xs ↔ e ∈ ys) → xs = ys
  | [], [], _, _, _ => rfl
  | [], y :: ys, _, _, h => absurd ((h y).2 List.mem_cons_self) (by simp)
  | x :: xs, [], _, _, h => absurd ((h x).1 List.mem_cons_self) (by simp)
  | x :: xs, y :: ys, hx, hy, h => by
    have hx' := List.pairwise_cons.1 hx
    have hy' := List.pairwise_cons.1 hy
    have e : x = y := by
      rcases List.mem_cons.1 ((h x).1 List.mem_cons_self) with e | h1
      · exact e
      · rcases List.mem_cons.1 ((h y).2 List.mem_cons_self) with e | h2
        · exact e.symm
        · exact absurd (hx'.1 y h2) (lessB_asymm (hy'.1 x h1))
    subst e
    congr 1
    refine rises_ext hx'.2 hy'.2 fun e => ⟨fun he => ?_, fun he => ?_⟩
    · rcases List.mem_cons.1 ((h e).1 (List.mem_cons_of_mem _ he)) with rfl | h1
      · exact absurd (hx'.1 e he) (fun c => lessB_asymm c c)
      · exact h1
    · rcases List.mem_cons.1 ((h e).2 (List.mem_cons_of_mem _ he)) with rfl | h1
      · exact absurd (hy'.1 e he) (fun c => lessB_asymm c c)
      · exact h1
/-- What stands at each kind and key. -/
def Slots : Type := Int → Int → Option Int
def upd (f : Slots) (x : En) (v : Option Int) : Slots := fun k y => if x.kind = k ∧ x.key = y then v else f k y
theorem upd_same (f : Slots) (x : En) (v : Option Int) : upd f x v x.kind x.key = v := if_pos ⟨rfl, rfl⟩
theorem upd_other (f : Slots) (x : En) (v : Option Int) {k y : Int} (h : ¬ (x.kind = k ∧ x.key = y)) : upd f x v k y = f k y := if_neg h
structure RowIs (f : Slots) (xs : List En) : Prop where
  rises : Rises xs
  mem : ∀ e, e ∈ xs ↔ f e.kind e.key = some e.id
theorem RowIs.uniq {f : Slots} {xs ys : List En} (h : RowIs f xs) (h2 : RowIs f ys) : xs = ys := rises_ext h.rises h2.rises fun e => (h.mem e).trans (h2.mem e).symm
theorem lookS_cons (x : En) (l : List En) : lookS (x :: l) = upd (lookS l) x (some x.id) := by
  funext k y
  rfl
theorem rowIs_of {xs : List En} (h : riseB xs = true) : RowIs (lookS xs.reverse) xs := by
  refine ⟨rises_of h, fun e => ⟨fun he => lookS_mem h he, fun he => ?_⟩⟩
  obtain ⟨x, hx, e1, e2, e3⟩ := lookS_some he
  have : x = e := by
    cases x
    cases e
    simp_all
  rw [← this]
  simpa using hx
/-- Without what is of a kind and key. -/
def woS (xs : List En) (x : En) : List En := xs.filter fun e => (e.kind != x.kind) || (e.key != x.key)
theorem mem_woS {xs : List En} {x e : En} : e ∈ woS xs x ↔ e ∈ xs ∧ ¬ (x.kind = e.kind ∧ x.key = e.key) := by
  unfold woS
  rw [List.mem_filter]
  constructor
  · rintro ⟨h1, h2⟩
    refine ⟨h1, fun c => ?_⟩
    rw [← c.1, ← c.2] at h2
    simp at h2
  · rintro ⟨h1, h2⟩
    refine ⟨h1, ?_⟩
    by_cases hk : x.kind = e.kind
    · have : ¬ e.key = x.key := fun c => h2 ⟨hk, c.symm⟩
      simp [this]
    · have : ¬ e.kind = x.kind := fun c => hk c.symm
      simp [this]
theorem RowIs.without {f : Slots} {xs : List En} (h : RowIs f xs) (x : En) : RowIs (upd f x none) (woS xs x) := by
  refine ⟨h.rises.filter _, fun e => ?_⟩
  rw [mem_woS, h.mem]
  by_cases hs : x.kind = e.kind ∧ x.key = e.key
  · rw [← hs.1, ← hs.2, upd_same]
    simp
  · rw [upd_other _ _ _ hs]
    simp [hs]
/-- Where an entry belongs. -/
def placeS (l : List En) (x : En) : Nat := (l.takeWhile fun e => lessB e x).length
theorem placeS_le (l : List En) (x : En) : placeS l x ≤ l.length := (List.takeWhile_sublist _).length_le
theorem placeS_lt {x : En} : ∀ {l : List En} {i : Nat} (h : i < l.length), i < placeS l x → lessB l[i] x = true
  | [], _, h, _ => absurd h (Nat.not_lt_zero _)
  | y :: l, i, h, hi => by
    unfold placeS at hi
    rw [List.takeWhile_cons] at hi
    by_cases c : lessB y x = true
    · rw [if_pos c] at hi
      cases i with
      | zero => exact c
      | succ i => exact placeS_lt (l := l) (by simpa using h) (by unfold placeS; simpa using hi)
    · rw [if_neg c] at hi
      simp at hi
theorem placeS_at {x : En} : ∀ {l : List En} (h : placeS l x < l.length), lessB l[placeS l x] x = false
  | [], h => absurd h (Nat.not_lt_zero _)
  | y :: l, h => by
    unfold placeS at h ⊢
    by_cases c : lessB y x = true
    · simp only [List.takeWhile_cons, c, if_true, List.length_cons] at h ⊢
      exact placeS_at (l := l) (by unfold placeS; simpa using h)
    · simp only [List.takeWhile_cons, c] at h ⊢
      simpa using c
theorem placeS_eq {l : List En} {x : En} {k : Nat} (hk : k ≤ l.length) (h1 : ∀ i (h : i < l.length), i < k → lessB l[i] x = true) (h2 : ∀ h : k < l.length, lessB l[k] x = false) : placeS l x = k := by
  rcases Nat.lt_trichotomy (placeS l x) k with h | h | h
  · have := placeS_at (l := l) (x := x) (by omega)
    rw [h1 _ (by omega) h] at this
    cases this
  · exact h
  · have hl := placeS_le l x
    have := placeS_lt (l := l) (x := x) (i := k) (by omega) h
    rw [h2 (by omega)] at this
    cases this
def insS (l : List En) (x : En) : List En := l.take (placeS l x) ++ x :: l.drop (placeS l x)
def putE (xs : List En) (x : En) : List En := insS (woS xs x) x
theorem mem_insS {l : List En} {x e : En} : e ∈ insS l x ↔ e = x ∨ e ∈ l := by
  unfold insS
  conv => rhs; rw [← List.take_append_drop (placeS l x) l]
  simp only [List.mem_append, List.mem_cons]
  constructor
  · rintro (h | h | h)
    · exact .inr (.inl h)
    · exact .inl h
    · exact .inr (.inr h)
  · rintro (h | h | h)
    · exact .inr (.inl h)
    · exact .inl h
    · exact .inr (.inr h)
theorem insS_rises {l : List En} {x : En} (h : Rises l) (hn : ∀ e ∈ l, ¬ (e.kind = x.kind ∧ e.key = x.key)) : Rises (insS l x) := by
  have h1 : ∀ e ∈ l.take (placeS l x), lessB e x = true := fun e he => by
    obtain ⟨i, hi, rfl⟩ := List.getElem_of_mem he
    rw [List.getElem_take]
    rw [List.length_take] at hi
    exact placeS_lt (by omega) (by omega)
  have h2 : ∀ e ∈ l.drop (placeS l x), lessB x e = true := fun e he => by
    obtain ⟨i, hi, rfl⟩ := List.getElem_of_mem he
    rw [List.length_drop] at hi
    rw [List.getElem_drop]
    have h3 := placeS_at (l := l) (x := x) (by omega)
    have h4 : lessB x (l[placeS l x]'(by omega)) = true := lessB_total (by simp [h3]) (hn _ (List.getElem_mem _))
    cases i with
    | zero => exact h4
    | succ i => exact lessB_trans h4 (List.pairwise_iff_getElem.1 h _ _ (by omega) (by omega) (by omega))
  refine List.pairwise_append.2 ⟨h.sublist (List.take_sublist _ _), List.pairwise_cons.2 ⟨h2, h.sublist (List.drop_sublist _ _)⟩, fun a ha b hb => ?_⟩
  rcases List.mem_cons.1 hb with rfl | hb
  · exact h1 a ha
  · exact lessB_trans (h1 a ha) (h2 b hb)
theorem RowIs.put {f : Slots} {xs : List En} (h : RowIs f xs) (x : En) : RowIs (upd f x (some x.id)) (putE xs x) := by
  have hw := h.without x
  refine ⟨insS_rises hw.rises fun e he c => (mem_woS.1 he).2 ⟨c.1.symm, c.2.symm⟩, fun e => ?_⟩
  unfold putE
  rw [mem_insS, hw.mem]
  by_cases hs : x.kind = e.kind ∧ x.key = e.key
  · rw [← hs.1, ← hs.2, upd_same, upd_same]
    constructor
    · rintro (rfl | h)
      · rfl
      · cases h
    · intro h
      left
      cases x
      cases e
      simp_all
  · rw [upd_other _ _ _ hs, upd_other _ _ _ hs]
    constructor
    · rintro (rfl | h)
      · exact absurd ⟨rfl, rfl⟩ hs
      · exact h
    · exact .inr
theorem insS_length (l : List En) (x : En) : (insS l x).length = l.length + 1 := by
  have := placeS_le l x
  unfold insS
  simp
  omega
theorem woS_length (l : List En) (x : En) : (woS l x).length ≤ l.length := List.length_filter_le _ _
theorem putE_length (l : List En) (x : En) : (putE l x).length ≤ l.length + 1 := by
  unfold putE
  rw [insS_length]
  have := woS_length l x
  omega
/-- A difference put into a state, entry by entry. -/
def chgE (xs : List En) (x : En) : List En := if x.id = 0 then woS xs x else putE xs x
def chgF (f : Slots) (x : En) : Slots := upd f x (if x.id = 0 then none else some x.id)
theorem RowIs.chg {f : Slots} {xs : List En} (h : RowIs f xs) (x : En) : RowIs (chgF f x) (chgE xs x) := by
  unfold chgE chgF
  by_cases c : x.id = 0
  · rw [if_pos c, if_pos c]
    exact h.without x
  · rw [if_neg c, if_neg c]
    exact h.put x
theorem RowIs.chgs {xs ds : List En} {f : Slots} (h : RowIs f xs) : RowIs (ds.foldl chgF f) (ds.foldl chgE xs) := by
  induction ds generalizing f xs with
  | nil => exact h
  | cons d ds ih => exact ih (h.chg d)
end Go.Proofs.Ytjdkenopfnepaaa
