/- A heap, as a function of its places: what 'up' and 'down' leave, plain. The program's heap of turns in memory. -/
import Derived.Test.YteajcmkaoahbeaaGreatDoorZRsAg
import Derived.Test.YteajcmkaoahbeaaGreatDoorZRsLess
import Derived.Deep.MidRow
namespace Go.Proofs.YteajcmkaoahbeaaGreatDoor

theorem Ord.neg {lt : Int → Int → Bool} {S : Int → Prop} (O : Ord lt S) {a b c : Int} (ha : S a) (hb : S b) (hc : S c) (h1 : lt a b = false) (h2 : lt b c = false) : lt a c = false := by
  refine Bool.eq_false_iff.2 fun h => ?_
  by_cases e : a = b
  · subst e
    rw [h2] at h
    cases h
  · rcases O.total ha hb e with k | k
    · rw [h1] at k
      cases k
    · have := O.trans hb ha hc k h
      rw [h2] at this
      cases this
theorem Ord.lt_of {lt : Int → Int → Bool} {S : Int → Prop} (O : Ord lt S) {a b : Int} (ha : S a) (hb : S b) (hne : a ≠ b) (h : lt b a = false) : lt a b = true := by
  rcases O.total ha hb hne with k | k
  · exact k
  · rw [h] at k
    cases k
theorem Ord.asy {lt : Int → Int → Bool} {S : Int → Prop} (O : Ord lt S) {a b : Int} (ha : S a) (hb : S b) (h : lt a b = true) : lt b a = false := O.asymm ha hb h
/-- The place above. -/
def upP (k : Nat) : Nat := (k - 1) / 2
/-- Two places changed for each other. -/
def xchF (f : Nat → Int) (i j : Nat) : Nat → Int := fun k => if k = i then f j else if k = j then f i else f k
theorem xch_i {f : Nat → Int} {i j : Nat} : xchF f i j i = f j := if_pos rfl
theorem xch_j {f : Nat → Int} {i j : Nat} : xchF f i j j = f i := by
  unfold xchF
  by_cases e : j = i
  · rw [if_pos e, e]
  · rw [if_neg e, if_pos rfl]
theorem xch_o {f : Nat → Int} {i j k : Nat} (h1 : k ≠ i) (h2 : k ≠ j) : xchF f i j k = f k := by
  unfold xchF
  rw [if_neg h1, if_neg h2]
/-- The same numbers, each at one place. -/
structure Perm0 (n : Nat) (f g : Nat → Int) : Prop where
  mem : ∀ e, (∃ k, k < n ∧ g k = e) ↔ ∃ k, k < n ∧ f k = e
  inj : (∀ i j, i < n → j < n → f i = f j → i = j) → ∀ i j, i < n → j < n → g i = g j → i = j
theorem Perm0.refl (n : Nat) (f : Nat → Int) : Perm0 n f f := ⟨fun _ => Iff.rfl, fun h => h⟩
theorem Perm0.trans {n : Nat} {f g h : Nat → Int} (a : Perm0 n f g) (b : Perm0 n g h) : Perm0 n f h := ⟨fun e => (b.mem e).trans (a.mem e), fun k => b.inj (a.inj k)⟩
theorem xch_cases (f : Nat → Int) (i j k : Nat) : ∃ q, xchF f i j k = f q ∧ ((k = i ∧ q = j) ∨ (k = j ∧ q = i) ∨ (k ≠ i ∧ k ≠ j ∧ q = k)) := by
  by_cases h1 : k = i
  · exact ⟨j, by rw [h1, xch_i], .inl ⟨h1, rfl⟩⟩
  · by_cases h2 : k = j
    · exact ⟨i, by rw [h2, xch_j], .inr (.inl ⟨h2, rfl⟩)⟩
    · exact ⟨k, xch_o h1 h2, .inr (.inr ⟨h1, h2, rfl⟩)⟩
theorem xch_perm {n : Nat} {f : Nat → Int} {i j : Nat} (hi : i < n) (hj : j < n) : Perm0 n f (xchF f i j) := by
  refine ⟨fun e => ⟨?_, ?_⟩, fun h a b ha hb hab => ?_⟩
  · rintro ⟨k, hk, rfl⟩
    obtain ⟨q, hq, c⟩ := xch_cases f i j k
    exact ⟨q, by omega, hq.symm⟩
  · rintro ⟨k, hk, rfl⟩
    by_cases h1 : k = i
    · exact ⟨j, hj, by rw [xch_j, h1]⟩
    · by_cases h2 : k = j
      · exact ⟨i, hi, by rw [xch_i, h2]⟩
      · exact ⟨k, hk, xch_o h1 h2⟩
  · obtain ⟨q, hq, c⟩ := xch_cases f i j a
    obtain ⟨r, hr, d⟩ := xch_cases f i j b
    rw [hq, hr] at hab
    have := h q r (by omega) (by omega) hab
    omega
/-- A heap: none goes ahead of the one above it. -/
def HeapF (lt : Int → Int → Bool) (f : Nat → Int) (n : Nat) : Prop := ∀ k, 0 < k → k < n → lt (f k) (f (upP k)) = false
/-- A heap but for place j, which may go ahead of what is above it. -/
structure UpF (lt : Int → Int → Bool) (f : Nat → Int) (n j : Nat) : Prop where
  a : ∀ k, 0 < k → k < n → k ≠ j → lt (f k) (f (upP k)) = false
  b : 0 < j → ∀ k, 0 < k → k < n → upP k = j → lt (f k) (f (upP j)) = false
theorem UpF.zero {lt : Int → Int → Bool} {f : Nat → Int} {n : Nat} (h : UpF lt f n 0) : HeapF lt f n := fun k h1 h2 => h.a k h1 h2 (by omega)
theorem UpF.stop {lt : Int → Int → Bool} {f : Nat → Int} {n j : Nat} (h : UpF lt f n j) (hs : lt (f j) (f (upP j)) = false) : HeapF lt f n := fun k h1 h2 => by
  by_cases e : k = j
  · rw [e]; exact hs
  · exact h.a k h1 h2 e
theorem UpF.step {lt : Int → Int → Bool} {S : Int → Prop} (O : Ord lt S) {f : Nat → Int} {n j : Nat} (hS : ∀ k, k < n → S (f k)) (h : UpF lt f n j) (h0 : 0 < j) (hj : j < n) (hs : lt (f j) (f (upP j)) = true) : UpF lt (xchF f (upP j) j) n (upP j) := by
  have hp : upP j < j := by unfold upP; omega
  refine ⟨fun k k0 kn ki => ?_, fun i0 k k0 kn ku => ?_⟩
  · by_cases e : k = j
    · subst e
      rw [xch_j, xch_i]
      exact O.asymm (hS _ hj) (hS _ (by omega)) hs
    · rw [xch_o ki e]
      by_cases e2 : upP k = j
      · rw [e2, xch_j]
        exact h.b h0 k k0 kn e2
      · by_cases e3 : upP k = upP j
        · rw [e3, xch_i]
          cases c : lt (f k) (f j)
          · rfl
          · have t := O.trans (hS _ kn) (hS _ hj) (hS _ (by omega)) c hs
            have := h.a k k0 kn e
            rw [e3, t] at this
            cases this
        · rw [xch_o e3 e2]
          exact h.a k k0 kn e
  · have hpp : upP (upP j) < upP j := by unfold upP at *; omega
    rw [xch_o (f := f) (k := upP (upP j)) (by omega) (by omega)]
    have hup := h.a (upP j) i0 (by omega) (by omega)
    by_cases e : k = j
    · subst e
      rw [xch_j]
      exact hup
    · have hk : k ≠ upP j := fun c => by
        rw [c] at ku
        omega
      rw [xch_o hk e]
      have := h.a k k0 kn e
      rw [ku] at this
      exact O.neg (hS _ kn) (hS _ (by omega)) (hS _ (by omega)) this hup
/-- A heap but for place i, ahead of which what is below it may go. -/
structure DnF (lt : Int → Int → Bool) (f : Nat → Int) (n i : Nat) : Prop where
  a : ∀ k, 0 < k → k < n → upP k ≠ i → lt (f k) (f (upP k)) = false
  b : 0 < i → ∀ k, 0 < k → k < n → upP k = i → lt (f k) (f (upP i)) = false
theorem DnF.none {lt : Int → Int → Bool} {f : Nat → Int} {n i : Nat} (h : DnF lt f n i) (hn : n ≤ 2 * i + 1) : HeapF lt f n := fun k h1 h2 => h.a k h1 h2 (by unfold upP; omega)
theorem DnF.stop {lt : Int → Int → Bool} {S : Int → Prop} (O : Ord lt S) {f : Nat → Int} {n i j : Nat} (hS : ∀ k, k < n → S (f k)) (h : DnF lt f n i) (hj : j < n) (hi : i < n) (hc : ∀ k, 0 < k → k < n → upP k = i → k ≠ j → lt (f k) (f j) = false) (hs : lt (f j) (f i) = false) : HeapF lt f n := fun k h1 h2 => by
  by_cases e : upP k = i
  · rw [e]
    by_cases e2 : k = j
    · rw [e2]; exact hs
    · exact O.neg (hS _ h2) (hS _ hj) (hS _ hi) (hc k h1 h2 e e2) hs
  · exact h.a k h1 h2 e
theorem DnF.step {lt : Int → Int → Bool} {S : Int → Prop} (O : Ord lt S) {f : Nat → Int} {n i j : Nat} (hS : ∀ k, k < n → S (f k)) (h : DnF lt f n i) (hj : j < n) (h0 : 0 < j) (hji : upP j = i) (hc : ∀ k, 0 < k → k < n → upP k = i → k ≠ j → lt (f k) (f j) = false) (hs : lt (f j) (f i) = true) : DnF lt (xchF f i j) n j := by
  have hij : i < j := by unfold upP at hji; omega
  refine ⟨fun k k0 kn ku => ?_, fun _ k k0 kn ku => ?_⟩
  · by_cases e : k = j
    · subst e
      rw [hji, xch_j, xch_i]
      exact O.asymm (hS _ hj) (hS _ (by omega)) hs
    · by_cases e1 : k = i
      · subst e1
        have hpp : upP k < k := by unfold upP; omega
        rw [xch_i, xch_o (f := f) (k := upP k) (by omega) (by omega)]
        exact h.b k0 j h0 hj hji
      · rw [xch_o (f := f) (k := k) e1 e]
        by_cases e2 : upP k = i
        · rw [e2, xch_i]
          exact hc k k0 kn e2 e
        · rw [xch_o (f := f) (k := upP k) e2 ku]
          exact h.a k k0 kn e2
  · have hk : j < k := by unfold upP at ku; omega
    rw [hji, xch_i, xch_o (f := f) (k := k) (by omega) (by omega)]
    have := h.a k k0 kn (by omega)
    rw [ku] at this
    exact this
/-- The first of a heap goes ahead of all. -/
theorem HeapF.first {lt : Int → Int → Bool} {S : Int → Prop} (O : Ord lt S) {f : Nat → Int} {n : Nat} (hS : ∀ k, k < n → S (f k)) (h : HeapF lt f n) : ∀ k, k < n → 0 < k → lt (f k) (f 0) = false := by
  intro k
  induction k using Nat.strongRecOn with
  | _ k ih =>
    intro kn k0
    have h1 := h k k0 kn
    by_cases e : upP k = 0
    · rw [e] at h1
      exact h1
    · have hlt : upP k < k := by unfold upP; omega
      exact O.neg (hS _ kn) (hS _ (by omega)) (hS _ (by omega)) h1 (ih (upP k) hlt (by omega) (by omega))
/-- One more at the end. -/
theorem HeapF.push {lt : Int → Int → Bool} {f g : Nat → Int} {n : Nat} (h : HeapF lt f n) (hg : ∀ k, k < n → g k = f k) : UpF lt g (n + 1) n := by
  refine ⟨fun k k0 kn kne => ?_, fun h0 k k0 kn ku => ?_⟩
  · have : upP k < k := by unfold upP; omega
    rw [hg k (by omega), hg (upP k) (by omega)]
    exact h k k0 (by omega)
  · unfold upP at ku
    omega
/-- The first and the last changed for each other, the last left out. -/
theorem HeapF.pop {lt : Int → Int → Bool} {f : Nat → Int} {n : Nat} (h : HeapF lt f (n + 1)) : DnF lt (xchF f 0 n) n 0 := by
  refine ⟨fun k k0 kn ku => ?_, fun h0 => absurd h0 (Nat.lt_irrefl 0)⟩
  have : upP k < k := by unfold upP; omega
  rw [xch_o (f := f) (k := k) (by omega) (by omega), xch_o (f := f) (k := upP k) ku (by omega)]
  exact h k k0 (by omega)
end Go.Proofs.YteajcmkaoahbeaaGreatDoor
namespace Go.Proofs.YteajcmkaoahbeaaGreatDoor
open Go.RowKit

/-- A turn's cells. -/
def tcell (em : Int → Em) (dp : Int → Int) (n : Int) : List Value := emCells (em n) ++ [.bool (heavyB (em n).v), .int .i64 (dp n)]
theorem tcell_len (em : Int → Em) (dp : Int → Int) (n : Int) : (tcell em dp n).length = 11 := by simp [tcell, emCells]
theorem tcell_one (em : Int → Em) (dp : Int → Int) (n : Int) : ∀ u ∈ tcell em dp n, u.oneCell' = true := by
  intro u hu
  simp only [tcell, emCells, List.cons_append, List.nil_append, List.mem_cons, List.not_mem_nil, or_false] at hu
  rcases hu with rfl | rfl | rfl | rfl | rfl | rfl | rfl | rfl | rfl | rfl | rfl <;> rfl
def lessT (em : Int → Em) (dp : Int → Int) (a b : Int) : Bool := lessV (em a).v (em b).v (dp a) (dp b)
/-- A place set. -/
def putF (f : Nat → Int) (i : Nat) (x : Int) : Nat → Int := fun k => if k = i then x else f k
theorem putF_same {f : Nat → Int} {i : Nat} {x : Int} : putF f i x i = x := if_pos rfl
theorem putF_other {f : Nat → Int} {i k : Nat} {x : Int} (h : k ≠ i) : putF f i x k = f k := if_neg h
theorem xch_put (f : Nat → Int) (i j : Nat) : putF (putF f i (f j)) j (f i) = xchF f i j := by
  funext k
  unfold putF xchF
  by_cases h2 : k = j
  · rw [if_pos h2]
    by_cases h1 : k = i
    · rw [if_pos h1, ← h1, h2]
    · rw [if_neg h1, if_pos h2]
  · rw [if_neg h2, if_neg h2]
/-- Whatever of w0 is kept. -/
structure Fr (w0 : World) (K : Nat → Prop) (W : World) : Prop where
  os : W.os = w0.os
  tape : W.tape = w0.tape
  output : W.output = w0.output
  size : w0.heap.size ≤ W.heap.size
  keep : ∀ q, q < w0.heap.size → K q → W.heap[q]? = w0.heap[q]?
theorem Fr.refl (W : World) (K : Nat → Prop) : Fr W K W := ⟨rfl, rfl, rfl, Nat.le_refl _, fun _ _ _ => rfl⟩
theorem Fr.of_below {w0 W : World} {K : Nat → Prop} (h : Below w0.heap.size w0 W) : Fr w0 K W := ⟨h.os, h.tape, h.output, h.size, fun q hq _ => h.block q hq⟩
theorem Fr.on {w0 W W' : World} {K : Nat → Prop} (h : Fr w0 K W) (hW : Below W.heap.size W W') : Fr w0 K W' :=
  ⟨hW.os.trans h.os, hW.tape.trans h.tape, hW.output.trans h.output, Nat.le_trans h.size hW.size, fun q hq k => (hW.block q (Nat.lt_of_lt_of_le hq h.size)).trans (h.keep q hq k)⟩
theorem Fr.setCell {w0 W : World} {K : Nat → Prop} (h : Fr w0 K W) {b : Nat} (hb : b < w0.heap.size → ¬ K b) (i : Nat) (v : Value) : Fr w0 K (W.setCell ⟨b, i, none⟩ v) :=
  ⟨h.os, h.tape, h.output, by simpa using h.size, fun q hq k => (Below.heap_setCell _ _ _ _ (fun e => by have e2 : q = b := e; subst e2; exact hb hq k)).trans (h.keep q hq k)⟩
theorem Fr.grown {w0 W W' : World} {K : Nat → Prop} {g : Nat} (h : Fr w0 K W) (hg : W.grownBy W' (some g)) (hlog : g < w0.heap.size → ¬ K g) : Fr w0 K W' :=
  ⟨hg.os.trans h.os, hg.tape.trans h.tape, hg.output.trans h.output, Nat.le_trans h.size hg.size, fun q hq k => (hg.block q (Nat.lt_of_lt_of_le hq h.size) (fun e => by cases e; exact hlog hq k)).trans (h.keep q hq k)⟩
theorem Fr.trans {w0 W W' : World} {K K2 : Nat → Prop} (h : Fr w0 K W) (h2 : Fr W K2 W') (hK : ∀ q, q < w0.heap.size → K q → K2 q) : Fr w0 K W' :=
  ⟨h2.os.trans h.os, h2.tape.trans h.tape, h2.output.trans h.output, Nat.le_trans h.size h2.size, fun q hq k => (h2.keep q (Nat.lt_of_lt_of_le hq h.size) (hK q hq k)).trans (h.keep q hq k)⟩
/-- The heap: hb its variable, g its row. -/
structure Tq (w0 : World) (K : Nat → Prop) (em : Int → Em) (dp : Int → Int) (hb g cap n : Nat) (f : Nat → Int) (W : World) : Prop where
  fr : Fr w0 K W
  box : W.heap[hb]? = some (.cells #[.slice (some ⟨g, 0, none⟩) n cap] 182 (0, 0))
  lob : hb < w0.heap.size → ¬ K hb
  log : g < w0.heap.size → ¬ K g
  ne : g ≠ hb
  le : n ≤ cap
  cm : cap ≤ maxLen
  row : ∃ cur, W.heap[g]? = some (.cells cur 140 (0, 0)) ∧ cur.size = cap * 11 ∧ ∀ k, k < n → ∀ j, j < 11 → cur[k * 11 + j]? = (tcell em dp (f k))[j]?
variable {w0 : World} {K : Nat → Prop} {em : Int → Em} {dp : Int → Int} {hb g cap n : Nat} {f : Nat → Int} {W W' : World}
theorem Tq.on (h : Tq w0 K em dp hb g cap n f W) (hW : Below W.heap.size W W') : Tq w0 K em dp hb g cap n f W' := by
  refine ⟨h.fr.on hW, (hW.block _ (Array.getElem?_eq_some_iff.1 h.box).1).trans h.box, h.lob, h.log, h.ne, h.le, h.cm, ?_⟩
  obtain ⟨cur, h1, h2, h3⟩ := h.row
  exact ⟨cur, (hW.block _ (Array.getElem?_eq_some_iff.1 h1).1).trans h1, h2, h3⟩
theorem Tq.drew (h : Tq w0 K em dp hb g cap n f W) : Tq w0 K em dp hb g cap n f W.drew := h.on (Below.refl _ _).drew
theorem Tq.eq {f' : Nat → Int} (h : Tq w0 K em dp hb g cap n f W) (e : ∀ k, k < n → f k = f' k) : Tq w0 K em dp hb g cap n f' W := by
  refine ⟨h.fr, h.box, h.lob, h.log, h.ne, h.le, h.cm, ?_⟩
  obtain ⟨cur, h1, h2, h3⟩ := h.row
  exact ⟨cur, h1, h2, fun k hk j hj => by rw [← e k hk]; exact h3 k hk j hj⟩
theorem Tq.range (h : Tq w0 K em dp hb g cap n f W) {k : Nat} (hk : k < n) : W.rangeAt g (k * 11) (tcell em dp (f k)) := fun j v hv => by
  obtain ⟨cur, h1, h2, h3⟩ := h.row
  have hj : j < 11 := by
    have := (List.getElem?_eq_some_iff.1 hv).1
    rwa [tcell_len] at this
  rw [cell_of_heap h1, h3 k hk j hj]
  exact hv
theorem Tq.there (h : Tq w0 K em dp hb g cap n f W) {k : Nat} (hk : k < n) : W.there g (k * 11) 11 := fun j hj => by
  obtain ⟨cur, h1, h2, h3⟩ := h.row
  refine ⟨?_, frozen_of_heap h1⟩
  rw [cell_of_heap h1, h3 k hk j hj, List.getElem?_eq_getElem (by rw [tcell_len]; exact hj)]
  rfl
theorem heap_sets {b : Nat} {t : TypeId} {fr : Nat × Nat} : ∀ (vs : List Value) (o : Nat) (w : World) {cur : Array Value}, w.heap[b]? = some (.cells cur t fr) → o + vs.length ≤ cur.size → ∃ cur', (w.setCells b o vs).heap[b]? = some (.cells cur' t fr) ∧ cur'.size = cur.size ∧ ∀ q, cur'[q]? = if o ≤ q ∧ q < o + vs.length then vs[q - o]? else cur[q]?
  | [], o, w, cur, h, _ => ⟨cur, h, rfl, fun q => by simp; omega⟩
  | v :: r, o, w, cur, h, hl => by
    have h1 := heap_set (i := o) h v
    rw [List.length_cons] at hl
    obtain ⟨cur', k1, k2, k3⟩ := heap_sets r (o + 1) (w.setCell ⟨b, o, none⟩ v) h1 (by simp; omega)
    refine ⟨cur', k1, by rw [k2]; simp, fun q => ?_⟩
    rw [k3 q]
    by_cases c : q = o
    · subst c
      rw [if_neg (by omega), if_pos (by simp), Array.getElem?_setIfInBounds_self_of_lt (by omega)]
      simp
    · by_cases d : o + 1 ≤ q ∧ q < o + 1 + r.length
      · rw [if_pos d, if_pos (by simp; omega)]
        obtain ⟨z, rfl⟩ : ∃ z, q = o + 1 + z := ⟨q - (o + 1), by omega⟩
        rw [show o + 1 + z - (o + 1) = z by omega, show o + 1 + z - o = z + 1 by omega]
        simp
      · rw [if_neg d, if_neg (by simp; omega), Array.getElem?_setIfInBounds_ne (by omega)]
theorem heap_sets_other {b q : Nat} (hne : q ≠ b) : ∀ (vs : List Value) (o : Nat) (w : World), (w.setCells b o vs).heap[q]? = w.heap[q]?
  | [], _, _ => rfl
  | v :: r, o, w => by
    rw [World.setCells, heap_sets_other hne r (o + 1) _]
    exact Below.heap_setCell _ _ _ _ hne
theorem sets_size {b : Nat} : ∀ (vs : List Value) (o : Nat) (w : World), (w.setCells b o vs).heap.size = w.heap.size ∧ (w.setCells b o vs).os = w.os ∧ (w.setCells b o vs).tape = w.tape ∧ (w.setCells b o vs).output = w.output
  | [], _, _ => ⟨rfl, rfl, rfl, rfl⟩
  | v :: r, o, w => by
    obtain ⟨h1, h2, h3, h4⟩ := sets_size r (o + 1) (w.setCell ⟨b, o, none⟩ v)
    rw [World.setCells]
    exact ⟨by rw [h1]; simp, h2, h3, h4⟩
theorem Below.sets {k b : Nat} {w W : World} (h : Below k w W) (hb : k ≤ b) (o : Nat) (vs : List Value) : Below k w (W.setCells b o vs) := by
  obtain ⟨h1, h2, h3, h4⟩ := sets_size (b := b) vs o W
  exact ⟨h2.trans h.os, h3.trans h.tape, h4.trans h.output, by rw [h1]; exact h.size, fun q hq => (heap_sets_other (by omega) vs o W).trans (h.block q hq)⟩
theorem Fr.sets {w0 W : World} {K : Nat → Prop} (h : Fr w0 K W) {b : Nat} (hb : b < w0.heap.size → ¬ K b) (o : Nat) (vs : List Value) : Fr w0 K (W.setCells b o vs) := by
  obtain ⟨h1, h2, h3, h4⟩ := sets_size (b := b) vs o W
  exact ⟨h2.trans h.os, h3.trans h.tape, h4.trans h.output, by rw [h1]; exact h.size, fun q hq k => (heap_sets_other (fun e => by have e2 : q = b := e; subst e2; exact hb hq k) vs o W).trans (h.keep q hq k)⟩
/-- A turn stored. -/
theorem Tq.put (h : Tq w0 K em dp hb g cap n f W) {i : Nat} (hi : i < n) (x : Int) : Tq w0 K em dp hb g cap n (putF f i x) (W.setCells g (i * 11) (tcell em dp x)) := by
  obtain ⟨cur, h1, h2, h3⟩ := h.row
  have hle := h.le
  have hil : i * 11 + 11 ≤ cur.size := by rw [h2]; omega
  obtain ⟨cur', k1, k2, k3⟩ := heap_sets (tcell em dp x) (i * 11) W h1 (by rw [tcell_len]; exact hil)
  refine ⟨h.fr.sets h.log _ _, (heap_sets_other (fun e => h.ne e.symm) _ _ _).trans h.box, h.lob, h.log, h.ne, h.le, h.cm, cur', k1, k2.trans h2, fun k hk j hj => ?_⟩
  rw [k3, tcell_len]
  by_cases c : k = i
  · subst c
    rw [if_pos (by omega), putF_same, show k * 11 + j - k * 11 = j by omega]
  · rw [if_neg (by omega), putF_other c]
    exact h3 k hk j hj
/-- One left out at the end. -/
theorem Tq.cut (h : Tq w0 K em dp hb g cap (n + 1) f W) : Tq w0 K em dp hb g cap n f (W.setCell ⟨hb, 0, none⟩ (.slice (some ⟨g, 0, none⟩) n cap)) := by
  obtain ⟨cur, h1, h2, h3⟩ := h.row
  have hb1 := heap_set (i := 0) h.box (.slice (some ⟨g, 0, none⟩) n cap)
  exact ⟨h.fr.setCell h.lob _ _, by simpa using hb1, h.lob, h.log, h.ne, Nat.le_of_succ_le h.le, h.cm, cur, (Below.heap_setCell _ _ _ _ h.ne).trans h1, h2, fun k hk => h3 k (by omega)⟩
def flatT (em : Int → Em) (dp : Int → Int) (f : Nat → Int) : Nat → List Value
  | 0 => []
  | n + 1 => flatT em dp f n ++ tcell em dp (f n)
theorem flatT_len (em : Int → Em) (dp : Int → Int) (f : Nat → Int) : ∀ n, (flatT em dp f n).length = n * 11
  | 0 => rfl
  | n + 1 => by
    rw [flatT, List.length_append, flatT_len em dp f n, tcell_len]
    omega
theorem flatT_get (em : Int → Em) (dp : Int → Int) (f : Nat → Int) : ∀ {n k : Nat}, k < n → ∀ {j}, j < 11 → (flatT em dp f n)[k * 11 + j]? = (tcell em dp (f k))[j]?
  | n + 1, k, hk, j, hj => by
    rw [flatT]
    by_cases e : k = n
    · subst e
      rw [List.getElem?_append_right (by rw [flatT_len]; omega), flatT_len, show k * 11 + j - k * 11 = j by omega]
    · rw [List.getElem?_append_left (by rw [flatT_len]; omega)]
      exact flatT_get em dp f (by omega) hj
/-- As a row of one's own. -/
theorem Tq.own (h : Tq w0 K em dp hb g cap n f W) : W.ownsRow 0 140 11 (.slice (some ⟨g, 0, none⟩) n cap) n (flatT em dp f n) := by
  obtain ⟨cur, h1, h2, h3⟩ := h.row
  have hle := h.le
  refine ⟨flatT_len em dp f n, .inr ⟨g, cap, cur, rfl, Nat.zero_le _, h1, h.le, h.cm, h2, ?_⟩⟩
  refine List.ext_getElem? fun q => ?_
  by_cases c : q < n * 11
  · rw [List.getElem?_take_of_lt c, Array.getElem?_toList]
    have hq : q = q / 11 * 11 + q % 11 := by omega
    rw [hq, h3 (q / 11) (by omega) (q % 11) (by omega), flatT_get em dp f (by omega) (by omega)]
  · rw [List.getElem?_eq_none (by simp; omega), List.getElem?_eq_none (by rw [flatT_len]; omega)]
/-- Out of a row of one's own, and the variable that holds it. -/
theorem Tq.of_own {v : Value} (hfr : Fr w0 K W) (hown : W.ownsRow 0 140 11 v n (flatT em dp f n)) (hv : v ≠ .slice none 0 0) (hbox : W.heap[hb]? = some (.cells #[v] 182 (0, 0))) (hlo : hb < w0.heap.size → ¬ K hb) (hlg : ∀ g, v.ownBlock = some g → g < w0.heap.size → ¬ K g) : ∃ g cap, v = .slice (some ⟨g, 0, none⟩) n cap ∧ Tq w0 K em dp hb g cap n f W := by
  rcases hown.2 with ⟨e, _⟩ | ⟨g, cap, cur, rfl, k1, k2, k3, k4, k5, k6⟩
  · exact absurd e hv
  · refine ⟨g, cap, rfl, hfr, hbox, hlo, hlg g rfl, fun e => ?_, k3, k4, cur, k2, k5, fun k hk j hj => ?_⟩
    · rw [e, hbox] at k2
      simp at k2
    · rw [← flatT_get em dp f hk hj, ← k6, List.getElem?_take_of_lt (by omega), Array.getElem?_toList]
/-- All but the heap's own two blocks. -/
def Far (hb g : Nat) (q : Nat) : Prop := q ≠ hb ∧ q ≠ g
/-- The heap as it stands is a beginning. -/
theorem Tq.base (h : Tq w0 K em dp hb g cap n f W) : Tq W (Far hb g) em dp hb g cap n f W :=
  ⟨Fr.refl _ _, h.box, fun _ k => k.1 rfl, fun _ k => k.2 rfl, h.ne, h.le, h.cm, h.row⟩
theorem Tq.back {g2 cap2 n2 : Nat} {f2 : Nat → Int} (h : Tq w0 K em dp hb g cap n f W) (h2 : Tq W (Far hb g) em dp hb g2 cap2 n2 f2 W') : Tq w0 K em dp hb g2 cap2 n2 f2 W' :=
  ⟨h.fr.trans h2.fr fun q hq k => ⟨fun e => by subst e; exact h.lob hq k, fun e => by subst e; exact h.log hq k⟩, h2.box, h.lob, fun hg => by
    have h3 : g2 < W.heap.size := Nat.lt_of_lt_of_le hg h.fr.size
    by_cases e : g2 = g
    · rw [e] at hg ⊢; exact h.log hg
    · exact absurd ⟨h2.ne, e⟩ (h2.log h3), h2.ne, h2.le, h2.cm, h2.row⟩
theorem Tq.far {g2 cap2 n2 : Nat} {f2 : Nat → Int} (h2 : Tq W (Far hb g) em dp hb g2 cap2 n2 f2 W') {q : Nat} (hq : q < W.heap.size) (h1 : q ≠ hb) (h3 : q ≠ g) : W'.heap[q]? = W.heap[q]? := h2.fr.keep q hq ⟨h1, h3⟩
theorem Tq.setFar (h : Tq w0 K em dp hb g cap n f W) {b : Nat} (h1 : b ≠ hb) (h2 : b ≠ g) (hk : b < w0.heap.size → ¬ K b) (i : Nat) (v : Value) : Tq w0 K em dp hb g cap n f (W.setCell ⟨b, i, none⟩ v) := by
  obtain ⟨cur, k1, k2, k3⟩ := h.row
  exact ⟨h.fr.setCell hk i v, (Below.heap_setCell _ _ _ _ (fun e => h1 e.symm)).trans h.box, h.lob, h.log, h.ne, h.le, h.cm, cur, (Below.heap_setCell _ _ _ _ (fun e => h2 e.symm)).trans k1, k2, k3⟩
theorem Tq.lts (h : Tq w0 K em dp hb g cap n f W) : hb < W.heap.size ∧ g < W.heap.size := by
  obtain ⟨cur, h1, _⟩ := h.row
  exact ⟨(Array.getElem?_eq_some_iff.1 h.box).1, (Array.getElem?_eq_some_iff.1 h1).1⟩
end Go.Proofs.YteajcmkaoahbeaaGreatDoor
