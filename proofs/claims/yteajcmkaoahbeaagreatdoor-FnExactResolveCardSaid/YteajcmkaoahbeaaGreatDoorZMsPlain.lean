/- What is missing in a graph: plain functions. -/
import Derived.Test.YteajcmkaoahbeaaGreatDoorZGrSpec
import Derived.Lib.SlicesCompact
namespace Go.Proofs.YteajcmkaoahbeaaGreatDoor

/-- Numbers that rise. -/
def RisesI (l : List Int) : Prop := l.Pairwise fun a b => a < b
theorem risesI_ext : ∀ {xs ys : List Int}, RisesI xs → RisesI ys → (∀ e, e ∈ xs ↔ e ∈ ys) → xs = ys
  | [], [], _, _, _ => rfl
  | [], y :: ys, _, _, h => absurd ((h y).2 List.mem_cons_self) (by simp)
  | x :: xs, [], _, _, h => absurd ((h x).1 List.mem_cons_self) (by simp)
  | x :: xs, y :: ys, hx, hy, h => by
    have hx' := List.pairwise_cons.1 hx
    have hy' := List.pairwise_cons.1 hy
    have e : x = y := by
      rcases List.mem_cons.1 ((h x).1 List.mem_cons_self) with e | h1
      · exact e
      · rcases List.mem_cons.1 ((h y).2 List.mem_cons_self) with e | h2
        · exact e.symm
        · have := hx'.1 y h2
          have := hy'.1 x h1
          omega
    subst e
    congr 1
    refine risesI_ext hx'.2 hy'.2 fun e => ⟨fun he => ?_, fun he => ?_⟩
    · rcases List.mem_cons.1 ((h e).1 (List.mem_cons_of_mem _ he)) with rfl | h1
      · exact absurd (hx'.1 e he) (by omega)
      · exact h1
    · rcases List.mem_cons.1 ((h e).2 (List.mem_cons_of_mem _ he)) with rfl | h1
      · exact absurd (hy'.1 e he) (by omega)
      · exact h1
/-- Where a number belongs. -/
def placeN (l : List Int) (n : Int) : Nat := (l.takeWhile fun e => decide (e < n)).length
theorem placeN_le (l : List Int) (n : Int) : placeN l n ≤ l.length := (List.takeWhile_sublist _).length_le
theorem placeN_lt {n : Int} : ∀ {l : List Int} {i : Nat} (h : i < l.length), i < placeN l n → l[i] < n
  | [], _, h, _ => absurd h (Nat.not_lt_zero _)
  | y :: l, i, h, hi => by
    unfold placeN at hi
    rw [List.takeWhile_cons] at hi
    by_cases c : y < n
    · rw [if_pos (by simpa using c)] at hi
      cases i with
      | zero => exact c
      | succ i => exact placeN_lt (l := l) (by simpa using h) (by unfold placeN; simpa using hi)
    · rw [if_neg (by simpa using c)] at hi
      simp at hi
theorem placeN_at {n : Int} : ∀ {l : List Int} (h : placeN l n < l.length), ¬ l[placeN l n] < n
  | [], h => absurd h (Nat.not_lt_zero _)
  | y :: l, h => by
    unfold placeN at h ⊢
    by_cases c : y < n
    · simp only [List.takeWhile_cons, c, decide_true, if_true, List.length_cons] at h ⊢
      exact placeN_at (l := l) (by unfold placeN; simpa using h)
    · simp only [List.takeWhile_cons, c] at h ⊢
      simpa using c
theorem placeN_eq {l : List Int} {n : Int} {k : Nat} (hk : k ≤ l.length) (h1 : ∀ i (h : i < l.length), i < k → l[i] < n) (h2 : ∀ h : k < l.length, ¬ l[k] < n) : placeN l n = k := by
  rcases Nat.lt_trichotomy (placeN l n) k with h | h | h
  · exact absurd (h1 _ (by omega) h) (placeN_at (l := l) (n := n) (by omega))
  · exact h
  · have hl := placeN_le l n
    exact absurd (placeN_lt (l := l) (n := n) (i := k) (by omega) h) (h2 (by omega))
/-- A rising row with a number. -/
def setN (l : List Int) (n : Int) : List Int := if l[placeN l n]? = some n then l else l.take (placeN l n) ++ n :: l.drop (placeN l n)
theorem setN_there {l : List Int} {n : Int} (h : l[placeN l n]? = some n) : setN l n = l := if_pos h
theorem setN_new {l : List Int} {n : Int} (h : ¬ l[placeN l n]? = some n) : setN l n = l.take (placeN l n) ++ n :: l.drop (placeN l n) := if_neg h
theorem mem_setN {l : List Int} {n e : Int} : e ∈ setN l n ↔ e = n ∨ e ∈ l := by
  by_cases h : l[placeN l n]? = some n
  · rw [setN_there h]
    constructor
    · exact .inr
    · rintro (rfl | h1)
      · exact List.mem_of_getElem? h
      · exact h1
  · rw [setN_new h]
    conv => rhs; rw [← List.take_append_drop (placeN l n) l]
    simp only [List.mem_append, List.mem_cons]
    constructor
    · rintro (h | h | h)
      · exact .inr (.inl h)
      · exact .inl h
      · exact .inr (.inr h)
    · rintro (h | h | h)
      · exact .inr (.inl h)
      · exact .inl h
      · exact .inr (.inr h)
theorem setN_rises {l : List Int} {n : Int} (h : RisesI l) : RisesI (setN l n) := by
  by_cases c : l[placeN l n]? = some n
  · rw [setN_there c]
    exact h
  · rw [setN_new c]
    have h1 : ∀ e ∈ l.take (placeN l n), e < n := fun e he => by
      obtain ⟨i, hi, rfl⟩ := List.getElem_of_mem he
      rw [List.getElem_take]
      rw [List.length_take] at hi
      exact placeN_lt (by omega) (by omega)
    have h2 : ∀ e ∈ l.drop (placeN l n), n < e := fun e he => by
      obtain ⟨i, hi, rfl⟩ := List.getElem_of_mem he
      rw [List.length_drop] at hi
      rw [List.getElem_drop]
      have h3 := placeN_at (l := l) (n := n) (by omega)
      have h4 : n < l[placeN l n]'(by omega) := by
        rcases Int.lt_trichotomy n (l[placeN l n]'(by omega)) with q | q | q
        · exact q
        · exact absurd (by rw [List.getElem?_eq_getElem (by omega), ← q]) c
        · exact absurd q h3
      cases i with
      | zero => exact h4
      | succ i =>
        have := List.pairwise_iff_getElem.1 h (placeN l n) (placeN l n + (i + 1)) (by omega) (by omega) (by omega)
        omega
    refine List.pairwise_append.2 ⟨h.sublist (List.take_sublist _ _), List.pairwise_cons.2 ⟨h2, h.sublist (List.drop_sublist _ _)⟩, fun a ha b hb => ?_⟩
    rcases List.mem_cons.1 hb with rfl | hb
    · exact h1 a ha
    · have := h1 a ha
      have := h2 b hb
      omega
theorem setN_length (l : List Int) (n : Int) : (setN l n).length ≤ l.length + 1 := by
  by_cases c : l[placeN l n]? = some n
  · rw [setN_there c]; omega
  · rw [setN_new c]
    have := placeN_le l n
    simp
    omega
/-- A row put in order, each number once. -/
theorem compact_sorted {zs : List Int} (h : zs.Pairwise fun a b => a ≤ b) : RisesI (Go.Lib.compact zs) ∧ ∀ e, e ∈ Go.Lib.compact zs ↔ e ∈ zs := by
  have key : ∀ m, m ≤ zs.length → RisesI (Go.Lib.compactUpTo zs.toArray m) ∧ (∀ e, e ∈ Go.Lib.compactUpTo zs.toArray m ↔ ∃ j, j < m ∧ zs[j]? = some e) := by
    intro m
    induction m with
    | zero => exact fun _ => ⟨List.Pairwise.nil, fun e => by simp [Go.Lib.compactUpTo]⟩
    | succ m ih =>
      intro hm
      obtain ⟨i1, i2⟩ := ih (by omega)
      rw [Go.Lib.compactUpTo_succ]
      have hm' : m < zs.toArray.size := by simp; omega
      have em : zs.toArray[m]! = zs[m] := by rw [getElem!_pos zs.toArray m hm']; simp
      cases c : Go.Lib.keeps zs.toArray m
      · have hdup : 0 < m ∧ zs[m] = zs[m - 1]'(by omega) := by
          rcases Nat.eq_zero_or_pos m with h0 | h0
          · subst h0
            rw [Go.Lib.keeps_lt_one _ 0 (by omega)] at c
            cases c
          · refine ⟨h0, ?_⟩
            have hm1 : m - 1 < zs.toArray.size := by simp; omega
            have em1 : zs.toArray[m - 1]! = zs[m - 1]'(by omega) := by rw [getElem!_pos zs.toArray (m - 1) hm1]; simp
            by_cases q : zs.toArray[m]! = zs.toArray[m - 1]!
            · rw [em, em1] at q
              exact q
            · rw [Go.Lib.keeps_pos q] at c
              cases c
        simp only [Bool.false_eq_true, if_false, List.append_nil]
        refine ⟨i1, fun e => (i2 e).trans ⟨fun ⟨j, hj, hz⟩ => ⟨j, by omega, hz⟩, fun ⟨j, hj, hz⟩ => ?_⟩⟩
        by_cases q : j = m
        · subst q
          refine ⟨j - 1, by omega, ?_⟩
          rw [List.getElem?_eq_getElem (by omega)] at hz ⊢
          rw [← hdup.2]
          exact hz
        · exact ⟨j, by omega, hz⟩
      · simp only [if_true]
        refine ⟨List.pairwise_append.2 ⟨i1, by simp, fun a ha b hb => ?_⟩, fun e => ?_⟩
        · have hb' : b = zs[m] := by rw [← em]; simpa using hb
          obtain ⟨j, hj, hz⟩ := (i2 a).1 ha
          rw [List.getElem?_eq_getElem (by omega)] at hz
          have ha' : zs[j] = a := by simpa using hz
          have h0 : 0 < m := by omega
          have hne : zs[m] ≠ zs[m - 1]'(by omega) := fun q => by
            have hm1 : m - 1 < zs.toArray.size := by simp; omega
            have em1 : zs.toArray[m - 1]! = zs[m - 1]'(by omega) := by rw [getElem!_pos zs.toArray (m - 1) hm1]; simp
            rw [Go.Lib.keeps_neg h0 (by rw [em, em1]; exact q)] at c
            cases c
          have h1 : zs[m - 1]'(by omega) ≤ zs[m] := List.pairwise_iff_getElem.1 h (m - 1) m (by omega) (by omega) (by omega)
          have h2 : zs[j] ≤ zs[m - 1]'(by omega) := by
            by_cases q : j = m - 1
            · subst q; omega
            · exact List.pairwise_iff_getElem.1 h j (m - 1) (by omega) (by omega) (by omega)
          rw [hb', ← ha']
          omega
        · rw [List.mem_append, i2]
          constructor
          · rintro (⟨j, hj, hz⟩ | hb)
            · exact ⟨j, by omega, hz⟩
            · have : e = zs[m] := by rw [← em]; simpa using hb
              exact ⟨m, by omega, by rw [List.getElem?_eq_getElem (by omega), this]⟩
          · rintro ⟨j, hj, hz⟩
            by_cases q : j = m
            · subst q
              right
              rw [List.getElem?_eq_getElem (by omega)] at hz
              have : zs[j] = e := by simpa using hz
              rw [em, this]
              simp
            · exact .inl ⟨j, by omega, hz⟩
  obtain ⟨k1, k2⟩ := key zs.length (Nat.le_refl _)
  refine ⟨k1, fun e => (k2 e).trans ⟨fun ⟨j, hj, hz⟩ => List.mem_of_getElem? hz, fun he => ?_⟩⟩
  obtain ⟨j, hj, rfl⟩ := List.getElem_of_mem he
  exact ⟨j, hj, List.getElem?_eq_getElem hj⟩
theorem sorted_le (zs : List Int) : (zs.mergeSort fun x y => decide (x ≤ y)).Pairwise fun a b => a ≤ b := by
  have := List.pairwise_mergeSort (le := fun x y : Int => decide (x ≤ y)) (fun a b c h1 h2 => by simp at *; omega) (fun a b => by simp; omega) zs
  exact this.imp fun h => by simpa using h
theorem sorted_uniq (zs : List Int) : RisesI (Go.Lib.compact (zs.mergeSort fun x y => decide (x ≤ y))) ∧ ∀ e, e ∈ Go.Lib.compact (zs.mergeSort fun x y => decide (x ≤ y)) ↔ e ∈ zs := by
  obtain ⟨h1, h2⟩ := compact_sorted (sorted_le zs)
  exact ⟨h1, fun e => (h2 e).trans (List.mergeSort_perm zs _).mem_iff⟩
/-- What is neither there nor parked. -/
def lackB (g : Gr) (p : Int) : Bool := decide (atI (idsOf g.evs) p < 0) && decide (atI (idsOf g.pk) p < 0)
def stepN (g : Gr) (l : List Int) (p : Int) : List Int := if lackB g p = true then setN l p else l
theorem stepN_yes {g : Gr} {l : List Int} {p : Int} (h : lackB g p = true) : stepN g l p = setN l p := if_pos h
theorem stepN_no {g : Gr} {l : List Int} {p : Int} (h : lackB g p = false) : stepN g l p = l := if_neg (by simp [h])
def rowN (g : Gr) (l : List Int) (m : Em) : List Int := m.v.prev.foldl (stepN g) l
/-- What is missing in a right graph, rising. -/
def misL (g : Gr) : List Int := g.pk.foldl (rowN g) []
theorem stepN_all {g : Gr} : ∀ {ps l : List Int}, RisesI l → RisesI (ps.foldl (stepN g) l) ∧ ∀ e, e ∈ ps.foldl (stepN g) l ↔ e ∈ l ∨ (e ∈ ps ∧ lackB g e = true)
  | [], l, h => ⟨h, fun e => by simp⟩
  | p :: ps, l, h => by
    have h1 : RisesI (stepN g l p) := by
      unfold stepN
      split
      · exact setN_rises h
      · exact h
    obtain ⟨k1, k2⟩ := stepN_all (ps := ps) h1
    refine ⟨k1, fun e => ?_⟩
    rw [List.foldl_cons, k2]
    cases c : lackB g p
    · rw [stepN_no c, List.mem_cons]
      constructor
      · rintro (h | h)
        · exact .inl h
        · exact .inr ⟨.inr h.1, h.2⟩
      · rintro (h | ⟨rfl | h, h2⟩)
        · exact .inl h
        · rw [c] at h2
          cases h2
        · exact .inr ⟨h, h2⟩
    · rw [stepN_yes c, mem_setN, List.mem_cons]
      constructor
      · rintro ((rfl | h) | h)
        · exact .inr ⟨.inl rfl, c⟩
        · exact .inl h
        · exact .inr ⟨.inr h.1, h.2⟩
      · rintro (h | ⟨rfl | h, h2⟩)
        · exact .inl (.inr h)
        · exact .inl (.inl rfl)
        · exact .inr ⟨h, h2⟩
theorem rowN_all {g : Gr} : ∀ {ms : List Em} {l : List Int}, RisesI l → RisesI (ms.foldl (rowN g) l) ∧ ∀ e, e ∈ ms.foldl (rowN g) l ↔ e ∈ l ∨ ∃ m ∈ ms, e ∈ m.v.prev ∧ lackB g e = true
  | [], l, h => ⟨h, fun e => by simp⟩
  | m :: ms, l, h => by
    obtain ⟨j1, j2⟩ := stepN_all (g := g) (ps := m.v.prev) h
    obtain ⟨k1, k2⟩ := rowN_all (g := g) (ms := ms) (l := rowN g l m) j1
    refine ⟨k1, fun e => ?_⟩
    rw [List.foldl_cons, k2]
    unfold rowN
    rw [j2]
    constructor
    · rintro ((h | h) | ⟨q, hq, h⟩)
      · exact .inl h
      · exact .inr ⟨m, List.mem_cons_self, h⟩
      · exact .inr ⟨q, List.mem_cons_of_mem _ hq, h⟩
    · rintro (h | ⟨q, hq, h⟩)
      · exact .inl (.inl h)
      · rcases List.mem_cons.1 hq with rfl | hq
        · exact .inl (.inr h)
        · exact .inr ⟨q, hq, h⟩
theorem misL_rises (g : Gr) : RisesI (misL g) := (rowN_all (g := g) (ms := g.pk) List.Pairwise.nil).1
theorem mem_misL {g : Gr} {e : Int} : e ∈ misL g ↔ ∃ m ∈ g.pk, e ∈ m.v.prev ∧ lackB g e = true := by
  unfold misL
  rw [(rowN_all (g := g) (ms := g.pk) (l := []) List.Pairwise.nil).2 e]
  simp
theorem stepN_length {g : Gr} : ∀ (ps l : List Int), (ps.foldl (stepN g) l).length ≤ l.length + ps.length
  | [], _ => Nat.le_refl _
  | p :: ps, l => by
    have h1 := stepN_length (g := g) ps (stepN g l p)
    have h2 : (stepN g l p).length ≤ l.length + 1 := by
      unfold stepN
      split
      · exact setN_length _ _
      · omega
    show (ps.foldl (stepN g) (stepN g l p)).length ≤ l.length + (ps.length + 1)
    omega
theorem rowN_length {g : Gr} {B : Nat} : ∀ (ms : List Em) (l : List Int), (∀ m ∈ ms, m.v.prev.length ≤ B) → (ms.foldl (rowN g) l).length ≤ l.length + ms.length * B
  | [], _, _ => by simp
  | m :: ms, l, h => by
    have h1 := rowN_length (g := g) (B := B) ms (rowN g l m) fun q hq => h q (List.mem_cons_of_mem _ hq)
    have h2 := stepN_length (g := g) m.v.prev l
    have h3 := h m List.mem_cons_self
    show (ms.foldl (rowN g) (rowN g l m)).length ≤ l.length + (ms.length + 1) * B
    have e : (ms.length + 1) * B = ms.length * B + B := by rw [Nat.add_mul, Nat.one_mul]
    rw [e]
    have h4 : (rowN g l m).length ≤ l.length + m.v.prev.length := h2
    omega
theorem foldN_take {α β : Type} {f : α → β → α} {a : α} {ds : List β} {k : Nat} (hk : k < ds.length) : (ds.take (k + 1)).foldl f a = f ((ds.take k).foldl f a) ds[k] := by
  rw [List.take_succ_eq_append_getElem hk, List.foldl_append]
  rfl
end Go.Proofs.YteajcmkaoahbeaaGreatDoor
