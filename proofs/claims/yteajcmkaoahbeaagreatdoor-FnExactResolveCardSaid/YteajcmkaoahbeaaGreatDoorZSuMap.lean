/- What stands at a kind and a key: the specification; the program's map: its keys, one step of a range over it. What is put into a row of entries, and taken out of it: plain functions. The program's map of what stands: what is put into it, and taken out of it. -/
import Derived.Test.YteajcmkaoahbeaaGreatDoorZSt7
import Derived.Maps.RangeWalk
namespace Go.Proofs.YteajcmkaoahbeaaGreatDoor
open Go.RowKit

theorem stAt_hit {xs : List En} {k y : Int} {i : Nat} (hi : i < xs.length) (h1 : (xs[i].kind == k) = true) (h2 : (xs[i].key == y) = true) (hno : ∀ j (h : j < xs.length), j < i → ((xs[j].kind == k) && (xs[j].key == y)) = false) : stAt xs k y = xs[i].id := by
  have : xs.find? (fun x => (x.kind == k) && (x.key == y)) = some xs[i] := by
    rw [List.find?_eq_some_iff_getElem]
    exact ⟨by rw [h1, h2]; rfl, i, hi, rfl, fun j hj => by rw [hno j (by omega) hj]; rfl⟩
  unfold stAt
  rw [this]
theorem stAt_miss {xs : List En} {k y : Int} (hno : ∀ j (h : j < xs.length), ((xs[j].kind == k) && (xs[j].key == y)) = false) : stAt xs k y = 0 := by
  have : xs.find? (fun x => (x.kind == k) && (x.key == y)) = none := by
    rw [List.find?_eq_none]
    intro x hx
    obtain ⟨j, hj, rfl⟩ := List.getElem_of_mem hx
    rw [hno j hj]
    decide
  unfold stAt
  rw [this]
set_option maxHeartbeats 4000000 in
set_option maxRecDepth 100000 in
theorem sat_spec (xs : List En) (q y : Int) (a : Option Addr) (cap : Nat) (w : World) (h : EnsAt w a xs) :
    Calls Tryz.prog 98 #[.slice a xs.length cap, .int .i64 q, .int .i64 y] w fun e w' => e = .returned (.int .i64 (stAt xs q y)) ∧ w = w' := by
  have hl := h.len
  have H : Hid (EnsAt w a xs) := h
  clear h
  go_enter Tryz.func98, Tryz.ntmps98
  go_wp2
  go_loop [7] (fun i => ∃ k : Nat, k ≤ xs.length ∧ i = .int .i64 k ∧ Hid (∀ j (h : j < xs.length), j < k → ((xs[j].kind == q) && (xs[j].key == y)) = false)) (fun i => xs.length - (intOf i).toNat)
  case atStart => exact ⟨0, Nat.zero_le _, rfl, fun _ _ h => absurd h (Nat.not_lt_zero _)⟩
  case round =>
    obtain ⟨k, hk, rfl, HO⟩ := hrel
    by_cases hlt : k < xs.length
    · obtain ⟨b, off, rfl, hbb, hcell⟩ := H.out.row (by omega)
      have hc0 : w.cell? ⟨b, off + k * 3, none⟩ = some (.int .i64 xs[k].kind) := hcell k hlt 0 (by omega)
      have hc1 : w.cell? ⟨b, off + k * 3 + 1, none⟩ = some (.int .i64 xs[k].key) := by
        have := hcell k hlt 1 (by omega)
        rwa [← Nat.add_assoc] at this
      have hc2 : w.cell? ⟨b, off + k * 3 + 2, none⟩ = some (.int .i64 xs[k].id) := by
        have := hcell k hlt 2 (by omega)
        rwa [← Nat.add_assoc] at this
      clear hcell
      have next : ((xs[k].kind == q) && (xs[k].key == y)) = false → Hid (∀ j (h : j < xs.length), j < k + 1 → ((xs[j].kind == q) && (xs[j].key == y)) = false) := fun hf j h hj => by
        by_cases e : j = k
        · subst e
          exact hf
        · exact HO.out j h (by omega)
      cases h1 : (xs[k].kind == q)
      · have HN := next (by rw [h1]; rfl)
        clear next
        go_wp2
        exact ⟨⟨k + 1, by omega, by go_num, HN⟩, by simp [intOf]; omega⟩
      · cases h2 : (xs[k].key == y)
        · have HN := next (by rw [h1, h2]; rfl)
          clear next
          go_wp2
          exact ⟨⟨k + 1, by omega, by go_num, HN⟩, by simp [intOf]; omega⟩
        · have HS : Hid (stAt xs q y = xs[k].id) := stAt_hit hlt h1 h2 HO.out
          clear next
          go_wp2
          go_ret
          exact ⟨ret_int HS.out.symm, rfl⟩
    · have HS : Hid (stAt xs q y = 0) := stAt_miss fun j h => HO.out j h (by omega)
      go_wp2
      go_ret
      exact ⟨ret_int HS.out.symm, rfl⟩
def slotVal (p : Int × Int) : Value := .agg #[.int .i64 p.1, .int .i64 p.2]
set_option maxRecDepth 100000 in
theorem keyLits_i64 (d : Nat) (x : Value) {ls : List Lit} (h : Tryz.prog.keyLits (d + 1) 2 [x] = some ls) : ∃ k, x = .int .i64 k ∧ ls = [.int .i64 k] ∧ (Lit.int .i64 k).wf = true := by
  unfold Program.keyLits at h
  rw [Tryz.underlying2] at h
  cases x <;> simp at h
  rename_i q k
  obtain ⟨⟨rfl, hw⟩, rfl⟩ := h
  exact ⟨k, rfl, rfl, hw⟩
set_option maxRecDepth 100000 in
/-- What reads as a key of a kind and a key is one. -/
theorem keyOf_slot_inv {key : Value} {kl : Lit} (h : keyOf Tryz.prog 149 key = some kl) : ∃ k y, key = .agg #[.int .i64 k, .int .i64 y] ∧ kl = slotLit k y ∧ (Lit.int .i64 k).wf = true ∧ (Lit.int .i64 y).wf = true := by
  obtain ⟨n, hn⟩ : ∃ n, Tryz.prog.types.size = n + 1 := ⟨Tryz.prog.types.size - 1, by have : 0 < Tryz.prog.types.size := of_decide_eq_true (by kernel_rfl); omega⟩
  unfold keyOf at h
  rw [Tryz.underlying149] at h
  simp only [Tryz.keySlot, Bool.true_and] at h
  split at h
  · rename_i hf
    cases key <;> simp [Value.formed, Tryz.underlying149, Tryz.cellsSlot] at hf
    rename_i cs
    obtain ⟨l⟩ := cs
    have hl : l.length = 2 := by simpa using hf
    match l, hl with
    | [x, y], _ =>
      have hc : (Value.agg #[x, y]).cells.toList = [x, y] := rfl
      rw [hc, hn] at h
      unfold Program.keyLits at h
      rw [Tryz.underlying149] at h
      simp [Tryz.cellsSlot, Tryz.cellsI64] at h
      cases h1 : Tryz.prog.keyLits (n + 1) 2 [x] with
      | none => simp [h1] at h
      | some l1 =>
        cases h2 : Tryz.prog.keyLits (n + 1) 2 [y] with
        | none => simp [h1, h2] at h
        | some l2 =>
          obtain ⟨k1, rfl, rfl, w1⟩ := keyLits_i64 n x h1
          obtain ⟨k2, rfl, rfl, w2⟩ := keyLits_i64 n y h2
          simp [h1, h2] at h
          exact ⟨k1, k2, rfl, h.symm, w1, w2⟩
  · cases h
theorem has_putS {k y : Int} (hk : (Lit.int .i64 k).wf = true) (hy : (Lit.int .i64 y).wf = true) : ∀ (l : List En), (∀ x ∈ l, EnIn x) → Maps.has (putS l) (slotLit k y) = (lookS l k y).isSome
  | [], _ => by simp [putS, lookS, Maps.has_eq]
  | x :: l, hin => by
    have hx := hin x List.mem_cons_self
    have ih := has_putS hk hy l (fun u hu => hin u (List.mem_cons_of_mem _ hu))
    unfold putS lookS
    by_cases e : x.kind = k ∧ x.key = y
    · rw [if_pos e, e.1, e.2, Maps.has_put_same (putS_isMap l) (by trivial)]
      rfl
    · rw [if_neg e, ← ih]
      exact Maps.has_put_other (fun h => e (slotLit_inj hx.1 hx.2 hk hy h.symm)) _
theorem putS_at {l : List En} (hin : ∀ x ∈ l, EnIn x) {k y : Int} (hk : (Lit.int .i64 k).wf = true) (hy : (Lit.int .i64 y).wf = true) {c : Value} (h : ∀ z, (putS l).atKey (slotLit k y) z = .held c) : ∃ v, lookS l k y = some v ∧ c = .int .i64 v := by
  cases e : lookS l k y with
  | none =>
    have h1 := h (.held (.bool true))
    have h2 := h (.held (.bool false))
    rw [at_putS hk hy l hin, e] at h1 h2
    have := h1.trans h2.symm
    simp at this
  | some v =>
    refine ⟨v, rfl, ?_⟩
    have h1 := h (.held c)
    rw [at_putS hk hy l hin, e] at h1
    simpa using h1.symm
theorem wpList_next_S {w : World} {ops : Array Oper} {rest : List Oper} {o : Oper} {a : Act} {Q : Exit → Act → World → Prop} (hg : o.guard = none) (it : Operand) (hop : o.op = Op.next it false) (b r n : Nat) (l : List En) (hin : ∀ x ∈ l, EnIn x) (left : Lit → Bool) (cnt : Nat)
    (hit : a.eval it = .pointer (some ⟨r, 0, none⟩)) (h : w.ranges Tryz.prog 149 heldS b r n (putS l) left cnt)
    (hDone : cnt = 0 → (∀ kl, left kl = false) → wpList Tryz.prog ops Q rest (a.put o.dst (.tuple #[.bool false])) w)
    (hMore : ∀ (k y v : Int) (w' : World) (cnt' : Nat), (Lit.int .i64 k).wf = true → (Lit.int .i64 y).wf = true → lookS l k y = some v → left (slotLit k y) = true → w'.ranges Tryz.prog 149 heldS b r n (putS l) (fun z => left z && !z.sameKey (slotLit k y)) cnt' → cnt' < cnt → w.grownBy w' (some r) → w'.heap.size = w.heap.size →
      (Instr.entry (.pointer (some ⟨r, 0, none⟩))).run Tryz.prog w' = .ok (.tuple #[.agg #[.int .i64 k, .int .i64 y], .int .i64 v]) w' → wpList Tryz.prog ops Q rest (a.put o.dst (.tuple #[.bool true, .agg #[.int .i64 k, .int .i64 y], .int .i64 v])) w') :
    wpList Tryz.prog ops Q (o :: rest) a w :=
  wpList_next_ranges w hg it hop 149 slot_keyed heldS slotVal id (fun key kl hkey => by
      obtain ⟨k, y, rfl, _⟩ := keyOf_slot_inv hkey
      exact ⟨(k, y), rfl⟩) (fun v _ _ => ⟨v, rfl⟩) b r n (putS l) left cnt hit h hDone (fun x c kl y w' cnt' hkey hlk hv hat hrg hlt hgr hsz hen => by
    obtain ⟨k1, y1⟩ := x
    obtain ⟨k2, y2, ex, rfl, wk, wy⟩ := keyOf_slot_inv hkey
    obtain ⟨rfl, rfl⟩ : k1 = k2 ∧ y1 = y2 := by simpa [slotVal] using ex
    have hy : y.1 = .held c := by
      have h1 : heldS c = some y := hv
      unfold heldS at h1
      cases h1
      rfl
    rw [hy] at hat
    obtain ⟨v, hlv, rfl⟩ := putS_at hin wk wy hat
    exact hMore k1 y1 v w' cnt' wk wy hlv hlk hrg hlt hgr hsz hen)
theorem lookS_mem {xs : List En} (hr : riseB xs = true) {x : En} (hx : x ∈ xs) : lookS xs.reverse x.kind x.key = some x.id := by
  cases c : lookS xs.reverse x.kind x.key with
  | none => exact absurd ⟨rfl, rfl⟩ (lookS_none c x (by simpa using hx))
  | some v =>
    obtain ⟨u, hu, e1, e2, e3⟩ := lookS_some c
    rw [← rise_uniq hr hx (by simpa using hu) e1.symm e2.symm] at e3
    rw [e3]
end Go.Proofs.YteajcmkaoahbeaaGreatDoor
namespace Go.Proofs.YteajcmkaoahbeaaGreatDoor

/-- A row whose entries rise. -/
def Rises (xs : List En) : Prop := xs.Pairwise fun a b => lessB a b = true
theorem lessB_iff {x y : En} : lessB x y = true ↔ x.kind < y.kind ∨ (x.kind = y.kind ∧ x.key < y.key) := by
  unfold lessB
  simp
theorem rises_of {xs : List En} (h : riseB xs = true) : Rises xs := by
  refine List.pairwise_iff_getElem.2 fun i j hi hj hij => ?_
  obtain ⟨d, rfl⟩ : ∃ d, j = i + d + 1 := ⟨j - i - 1, by omega⟩
  exact lessB_iff.2 (rise_far h d i hj)
theorem lessB_asymm {x y : En} (h : lessB x y = true) : ¬ lessB y x = true := fun h2 => by
  have h1 := lessB_iff.1 h
  have h3 := lessB_iff.1 h2
  omega
theorem lessB_trans {x y z : En} (h : lessB x y = true) (h2 : lessB y z = true) : lessB x z = true := by
  have h1 := lessB_iff.1 h
  have h3 := lessB_iff.1 h2
  exact lessB_iff.2 (by omega)
theorem lessB_total {x y : En} (h : ¬ lessB x y = true) (hs : ¬ (x.kind = y.kind ∧ x.key = y.key)) : lessB y x = true := by
  have h1 : ¬ (x.kind < y.kind ∨ (x.kind = y.kind ∧ x.key < y.key)) := fun c => h (lessB_iff.2 c)
  exact lessB_iff.2 (by omega)
theorem lessB_ne {x y : En} (h : lessB x y = true) : ¬ (x.kind = y.kind ∧ x.key = y.key) := fun c => by
  have h1 := lessB_iff.1 h
  omega
/-- Two rows that rise, and hold the same, are one. -/
theorem rises_ext : ∀ {xs ys : List En}, Rises xs → Rises ys → (∀ e, e ∈ xs ↔ e ∈ ys) → xs = ys
  | [], [], _, _, _ => rfl
  | [], y :: ys, _, _, h => absurd ((h y).2 List.mem_cons_self) (by simp)
  | x :: xs, [], _, _, h => absurd ((h x).1 List.mem_cons_self) (by simp)
  | x :: xs, y :: ys, hx, hy, h => by
    have hx' := List.pairwise_cons.1 hx
    have hy' := List.pairwise_cons.1 hy
    have e : x = y := by
      rcases List.mem_cons.1 ((h x).1 List.mem_cons_self) with e | h1
      · exact e
      · rcases List.mem_cons.1 ((h y).2 List.mem_cons_self) with e | h2
        · exact e.symm
        · exact absurd (hx'.1 y h2) (lessB_asymm (hy'.1 x h1))
    subst e
    congr 1
    refine rises_ext hx'.2 hy'.2 fun e => ⟨fun he => ?_, fun he => ?_⟩
    · rcases List.mem_cons.1 ((h e).1 (List.mem_cons_of_mem _ he)) with rfl | h1
      · exact absurd (hx'.1 e he) (fun c => lessB_asymm c c)
      · exact h1
    · rcases List.mem_cons.1 ((h e).2 (List.mem_cons_of_mem _ he)) with rfl | h1
      · exact absurd (hy'.1 e he) (fun c => lessB_asymm c c)
      · exact h1
/-- What stands at each kind and key. -/
def Slots : Type := Int → Int → Option Int
def upd (f : Slots) (x : En) (v : Option Int) : Slots := fun k y => if x.kind = k ∧ x.key = y then v else f k y
theorem upd_same (f : Slots) (x : En) (v : Option Int) : upd f x v x.kind x.key = v := if_pos ⟨rfl, rfl⟩
theorem upd_other (f : Slots) (x : En) (v : Option Int) {k y : Int} (h : ¬ (x.kind = k ∧ x.key = y)) : upd f x v k y = f k y := if_neg h
structure RowIs (f : Slots) (xs : List En) : Prop where
  rises : Rises xs
  mem : ∀ e, e ∈ xs ↔ f e.kind e.key = some e.id
theorem RowIs.uniq {f : Slots} {xs ys : List En} (h : RowIs f xs) (h2 : RowIs f ys) : xs = ys := rises_ext h.rises h2.rises fun e => (h.mem e).trans (h2.mem e).symm
theorem lookS_cons (x : En) (l : List En) : lookS (x :: l) = upd (lookS l) x (some x.id) := by
  funext k y
  rfl
theorem rowIs_of {xs : List En} (h : riseB xs = true) : RowIs (lookS xs.reverse) xs := by
  refine ⟨rises_of h, fun e => ⟨fun he => lookS_mem h he, fun he => ?_⟩⟩
  obtain ⟨x, hx, e1, e2, e3⟩ := lookS_some he
  have : x = e := by
    cases x
    cases e
    simp_all
  rw [← this]
  simpa using hx
/-- Without what is of a kind and key. -/
def woS (xs : List En) (x : En) : List En := xs.filter fun e => (e.kind != x.kind) || (e.key != x.key)
theorem mem_woS {xs : List En} {x e : En} : e ∈ woS xs x ↔ e ∈ xs ∧ ¬ (x.kind = e.kind ∧ x.key = e.key) := by
  unfold woS
  rw [List.mem_filter]
  constructor
  · rintro ⟨h1, h2⟩
    refine ⟨h1, fun c => ?_⟩
    rw [← c.1, ← c.2] at h2
    simp at h2
  · rintro ⟨h1, h2⟩
    refine ⟨h1, ?_⟩
    by_cases hk : x.kind = e.kind
    · have : ¬ e.key = x.key := fun c => h2 ⟨hk, c.symm⟩
      simp [this]
    · have : ¬ e.kind = x.kind := fun c => hk c.symm
      simp [this]
theorem RowIs.without {f : Slots} {xs : List En} (h : RowIs f xs) (x : En) : RowIs (upd f x none) (woS xs x) := by
  refine ⟨h.rises.filter _, fun e => ?_⟩
  rw [mem_woS, h.mem]
  by_cases hs : x.kind = e.kind ∧ x.key = e.key
  · rw [← hs.1, ← hs.2, upd_same]
    simp
  · rw [upd_other _ _ _ hs]
    simp [hs]
/-- Where an entry belongs. -/
def placeS (l : List En) (x : En) : Nat := (l.takeWhile fun e => lessB e x).length
theorem placeS_le (l : List En) (x : En) : placeS l x ≤ l.length := (List.takeWhile_sublist _).length_le
theorem placeS_lt {x : En} : ∀ {l : List En} {i : Nat} (h : i < l.length), i < placeS l x → lessB l[i] x = true
  | [], _, h, _ => absurd h (Nat.not_lt_zero _)
  | y :: l, i, h, hi => by
    unfold placeS at hi
    rw [List.takeWhile_cons] at hi
    by_cases c : lessB y x = true
    · rw [if_pos c] at hi
      cases i with
      | zero => exact c
      | succ i => exact placeS_lt (l := l) (by simpa using h) (by unfold placeS; simpa using hi)
    · rw [if_neg c] at hi
      simp at hi
theorem placeS_at {x : En} : ∀ {l : List En} (h : placeS l x < l.length), lessB l[placeS l x] x = false
  | [], h => absurd h (Nat.not_lt_zero _)
  | y :: l, h => by
    unfold placeS at h ⊢
    by_cases c : lessB y x = true
    · simp only [List.takeWhile_cons, c, if_true, List.length_cons] at h ⊢
      exact placeS_at (l := l) (by unfold placeS; simpa using h)
    · simp only [List.takeWhile_cons, c] at h ⊢
      simpa using c
theorem placeS_eq {l : List En} {x : En} {k : Nat} (hk : k ≤ l.length) (h1 : ∀ i (h : i < l.length), i < k → lessB l[i] x = true) (h2 : ∀ h : k < l.length, lessB l[k] x = false) : placeS l x = k := by
  rcases Nat.lt_trichotomy (placeS l x) k with h | h | h
  · have := placeS_at (l := l) (x := x) (by omega)
    rw [h1 _ (by omega) h] at this
    cases this
  · exact h
  · have hl := placeS_le l x
    have := placeS_lt (l := l) (x := x) (i := k) (by omega) h
    rw [h2 (by omega)] at this
    cases this
def insS (l : List En) (x : En) : List En := l.take (placeS l x) ++ x :: l.drop (placeS l x)
def putE (xs : List En) (x : En) : List En := insS (woS xs x) x
theorem mem_insS {l : List En} {x e : En} : e ∈ insS l x ↔ e = x ∨ e ∈ l := by
  unfold insS
  conv => rhs; rw [← List.take_append_drop (placeS l x) l]
  simp only [List.mem_append, List.mem_cons]
  constructor
  · rintro (h | h | h)
    · exact .inr (.inl h)
    · exact .inl h
    · exact .inr (.inr h)
  · rintro (h | h | h)
    · exact .inr (.inl h)
    · exact .inl h
    · exact .inr (.inr h)
theorem insS_rises {l : List En} {x : En} (h : Rises l) (hn : ∀ e ∈ l, ¬ (e.kind = x.kind ∧ e.key = x.key)) : Rises (insS l x) := by
  have h1 : ∀ e ∈ l.take (placeS l x), lessB e x = true := fun e he => by
    obtain ⟨i, hi, rfl⟩ := List.getElem_of_mem he
    rw [List.getElem_take]
    rw [List.length_take] at hi
    exact placeS_lt (by omega) (by omega)
  have h2 : ∀ e ∈ l.drop (placeS l x), lessB x e = true := fun e he => by
    obtain ⟨i, hi, rfl⟩ := List.getElem_of_mem he
    rw [List.length_drop] at hi
    rw [List.getElem_drop]
    have h3 := placeS_at (l := l) (x := x) (by omega)
    have h4 : lessB x (l[placeS l x]'(by omega)) = true := lessB_total (by simp [h3]) (hn _ (List.getElem_mem _))
    cases i with
    | zero => exact h4
    | succ i => exact lessB_trans h4 (List.pairwise_iff_getElem.1 h _ _ (by omega) (by omega) (by omega))
  refine List.pairwise_append.2 ⟨h.sublist (List.take_sublist _ _), List.pairwise_cons.2 ⟨h2, h.sublist (List.drop_sublist _ _)⟩, fun a ha b hb => ?_⟩
  rcases List.mem_cons.1 hb with rfl | hb
  · exact h1 a ha
  · exact lessB_trans (h1 a ha) (h2 b hb)
theorem RowIs.put {f : Slots} {xs : List En} (h : RowIs f xs) (x : En) : RowIs (upd f x (some x.id)) (putE xs x) := by
  have hw := h.without x
  refine ⟨insS_rises hw.rises fun e he c => (mem_woS.1 he).2 ⟨c.1.symm, c.2.symm⟩, fun e => ?_⟩
  unfold putE
  rw [mem_insS, hw.mem]
  by_cases hs : x.kind = e.kind ∧ x.key = e.key
  · rw [← hs.1, ← hs.2, upd_same, upd_same]
    constructor
    · rintro (rfl | h)
      · rfl
      · cases h
    · intro h
      left
      cases x
      cases e
      simp_all
  · rw [upd_other _ _ _ hs, upd_other _ _ _ hs]
    constructor
    · rintro (rfl | h)
      · exact absurd ⟨rfl, rfl⟩ hs
      · exact h
    · exact .inr
theorem insS_length (l : List En) (x : En) : (insS l x).length = l.length + 1 := by
  have := placeS_le l x
  unfold insS
  simp
  omega
theorem woS_length (l : List En) (x : En) : (woS l x).length ≤ l.length := List.length_filter_le _ _
theorem putE_length (l : List En) (x : En) : (putE l x).length ≤ l.length + 1 := by
  unfold putE
  rw [insS_length]
  have := woS_length l x
  omega
/-- A difference put into a state, entry by entry. -/
def chgE (xs : List En) (x : En) : List En := if x.id = 0 then woS xs x else putE xs x
def chgF (f : Slots) (x : En) : Slots := upd f x (if x.id = 0 then none else some x.id)
theorem RowIs.chg {f : Slots} {xs : List En} (h : RowIs f xs) (x : En) : RowIs (chgF f x) (chgE xs x) := by
  unfold chgE chgF
  by_cases c : x.id = 0
  · rw [if_pos c, if_pos c]
    exact h.without x
  · rw [if_neg c, if_neg c]
    exact h.put x
theorem RowIs.chgs {xs ds : List En} {f : Slots} (h : RowIs f xs) : RowIs (ds.foldl chgF f) (ds.foldl chgE xs) := by
  induction ds generalizing f xs with
  | nil => exact h
  | cons d ds ih => exact ih (h.chg d)
end Go.Proofs.YteajcmkaoahbeaaGreatDoor
namespace Go.Proofs.YteajcmkaoahbeaaGreatDoor
open Go.RowKit

/-- A map holds these. -/
structure MapIs (D : DataW Value) (f : Slots) : Prop where
  isMap : Maps.IsMap D
  at_ : ∀ {k y : Int}, (Lit.int .i64 k).wf = true → (Lit.int .i64 y).wf = true → ∀ z : DataW Value, D.atKey (slotLit k y) z = match f k y with | some v => .held (.int .i64 v) | none => z
  has : ∀ {k y : Int}, (Lit.int .i64 k).wf = true → (Lit.int .i64 y).wf = true → Maps.has D (slotLit k y) = (f k y).isSome
  dom : ∀ k y v, f k y = some v → (Lit.int .i64 k).wf = true ∧ (Lit.int .i64 y).wf = true
theorem mapIs_putS {l : List En} (hin : ∀ x ∈ l, EnIn x) : MapIs (putS l) (lookS l) := ⟨putS_isMap l, fun hk hy z => at_putS hk hy l hin z, fun hk hy => has_putS hk hy l hin, fun k y v h => by
  obtain ⟨x, hx, rfl, rfl, _⟩ := lookS_some h
  exact hin x hx⟩
theorem MapIs.put {D : DataW Value} {f : Slots} (h : MapIs D f) {x : En} (hx : EnIn x) : MapIs (D.put (slotLit x.kind x.key) (.held (.int .i64 x.id))) (upd f x (some x.id)) := by
  refine ⟨?_, fun {k y} hk hy z => ?_, fun {k y} hk hy => ?_, fun k y v hv => ?_⟩
  · obtain ⟨xs, e⟩ := h.isMap
    rw [e]
    exact ⟨_, rfl⟩
  · by_cases e : x.kind = k ∧ x.key = y
    · rw [← e.1, ← e.2, upd_same]
      exact Maps.atKey_put_same h.isMap (by trivial) _ z
    · rw [upd_other _ _ _ e, ← h.at_ hk hy z]
      exact Maps.atKey_put_other (fun c => e (slotLit_inj hx.1 hx.2 hk hy c.symm)) _ z
  · by_cases e : x.kind = k ∧ x.key = y
    · rw [← e.1, ← e.2, upd_same, Maps.has_put_same h.isMap (by trivial)]
      rfl
    · rw [upd_other _ _ _ e, ← h.has hk hy]
      exact Maps.has_put_other (fun c => e (slotLit_inj hx.1 hx.2 hk hy c.symm)) _
  · by_cases e : x.kind = k ∧ x.key = y
    · rw [← e.1, ← e.2]
      exact hx
    · rw [upd_other _ _ _ e] at hv
      exact h.dom k y v hv
theorem MapIs.del {D : DataW Value} {f : Slots} (h : MapIs D f) {x : En} (hx : EnIn x) : MapIs (D.del (slotLit x.kind x.key)) (upd f x none) := by
  refine ⟨?_, fun {k y} hk hy z => ?_, fun {k y} hk hy => ?_, fun k y v hv => ?_⟩
  · obtain ⟨xs, e⟩ := h.isMap
    rw [e]
    exact ⟨_, rfl⟩
  · by_cases e : x.kind = k ∧ x.key = y
    · rw [← e.1, ← e.2, upd_same]
      exact Maps.atKey_del_same z
    · rw [upd_other _ _ _ e, ← h.at_ hk hy z]
      exact Maps.atKey_del_other (fun c => e (slotLit_inj hx.1 hx.2 hk hy c.symm)) z
  · by_cases e : x.kind = k ∧ x.key = y
    · rw [← e.1, ← e.2, upd_same, Maps.has_del_same]
      rfl
    · rw [upd_other _ _ _ e, ← h.has hk hy]
      exact Maps.has_del_other (fun c => e (slotLit_inj hx.1 hx.2 hk hy c.symm))
  · by_cases e : x.kind = k ∧ x.key = y
    · rw [← e.1, ← e.2, upd_same] at hv
      cases hv
    · rw [upd_other _ _ _ e] at hv
      exact h.dom k y v hv
/-- A map of one's own in memory. -/
def SMap (w : World) (b n : Nat) (f : Slots) : Prop := ∃ D, w.ownsMap Tryz.prog 149 heldS b n D ∧ MapIs D f
theorem SMap.lt {w : World} {b n : Nat} {f : Slots} (h : SMap w b n f) : b < w.heap.size := h.elim fun _ h => h.1.lt
theorem SMap.kept {w w' : World} {b n : Nat} {f : Slots} (h : SMap w b n f) (hb : Below w.heap.size w w') : SMap w' b n f := h.elim fun D h => ⟨D, ownsMap_below' h.1 hb, h.2⟩
theorem SMap.look {w : World} {b n : Nat} {f : Slots} (h : SMap w b n f) {k y : Int} (hk : (Lit.int .i64 k).wf = true) (hy : (Lit.int .i64 y).wf = true) :
    (Instr.lookup 68 (.map (some b)) (.agg #[.int .i64 k, .int .i64 y]) false).run Tryz.prog w = .ok (.int .i64 ((f k y).getD 0)) w := by
  obtain ⟨D, hown, hD⟩ := h
  obtain ⟨v, ps, hrun, hv⟩ := hown.lookup slot_keyed Tryz.underlying68 (zero_int64 w) (zd := .held (.int .i64 0)) (zp := []) rfl (keyOf_slot hk hy)
  rw [hD.at_ hk hy] at hv
  have hvz : v = .int .i64 ((f k y).getD 0) := by
    cases c : f k y with
    | none =>
      rw [c] at hv
      simp only [heldS, Option.some.injEq, Prod.mk.injEq, DataW.held.injEq] at hv
      exact hv.1
    | some x =>
      rw [c] at hv
      simp only [heldS, Option.some.injEq, Prod.mk.injEq, DataW.held.injEq] at hv
      exact hv.1
  rw [hrun, hvz]
set_option maxHeartbeats 4000000 in
set_option maxRecDepth 100000 in
theorem put_any (x : En) (D : DataW Value) (b n : Nat) (w : World) (h : w.ownsMap Tryz.prog 149 heldS b n D) (hn : n < maxLen) (hin : EnIn x) (hid : (x.id == 0) = false) :
    Calls Tryz.prog 82 #[.map (some b), .agg #[.int .i64 x.kind, .int .i64 x.key, .int .i64 x.id]] w fun e w' => e = .returned (.tuple #[]) ∧ w'.ownsMap Tryz.prog 149 heldS b (n + 1) (D.put (slotLit x.kind x.key) (.held (.int .i64 x.id))) ∧ w.grownBy w' (some b) := by
  have hbw : b ≠ w.heap.size := by have := h.lt; omega
  have hbw' : w.heap.size ≠ b := fun e => hbw e.symm
  have hbw := hbw'
  have H : Hid (w.ownsMap Tryz.prog 149 heldS b n D ∧ n < maxLen) := ⟨h, hn⟩
  clear h hn
  go_enter Tryz.func82, Tryz.ntmps82
  go_wp2
  refine wp_region_held_drew (S := (fun W => W.heap[w.heap.size]? = some (.cells #[.int .i64 x.kind, .int .i64 x.key, .int .i64 x.id] 73 (0, 0)))) (by kernel_rfl) (MapKept.heap_alloc w _).1 (fun hHeld => ?_)
  refine wpAnyH_take (i := 0) (v := (.map (some b))) rfl (by kernel_rfl) (by kernel_rfl) (by kernel_rfl) (fun _ _ _ h => h) (Or.inl ⟨by kernel_rfl, ?_⟩) hHeld ?_
  · intro W hW
    go_simp
  refine wpAnyH_take (i := 1) (v := (.agg #[.int .i64 x.kind, .int .i64 x.key, .int .i64 x.id])) rfl (by kernel_rfl) (by kernel_rfl) (by kernel_rfl) (fun _ _ _ h => h) (Or.inl ⟨by kernel_rfl, ?_⟩) hHeld ?_
  · intro W hW
    have f0 : W.cell? ⟨w.heap.size, 0, none⟩ = some (.int .i64 x.kind) := cell_of_heap hW
    have f1 : W.cell? ⟨w.heap.size, 1, none⟩ = some (.int .i64 x.key) := cell_of_heap hW
    have f2 : W.cell? ⟨w.heap.size, 2, none⟩ = some (.int .i64 x.id) := cell_of_heap hW
    go_simp
  refine wpAnyH_take (i := 3) (v := (.pointer (some ⟨w.heap.size, 2, none⟩))) rfl (by kernel_rfl) (by kernel_rfl) (by kernel_rfl) (fun _ _ _ h => h) (Or.inl ⟨by kernel_rfl, ?_⟩) hHeld ?_
  · intro W hW
    go_simp
  refine wpAnyH_take (i := 4) (v := (.int .i64 x.id)) rfl (by kernel_rfl) (by kernel_rfl) (by kernel_rfl) (fun _ _ _ h => h) (Or.inl ⟨by kernel_rfl, ?_⟩) hHeld ?_
  · intro W hW
    have f2 : W.cell? ⟨w.heap.size, 2, none⟩ = some (.int .i64 x.id) := cell_of_heap hW
    go_simp
  refine wpAnyH_ready (rs := [2]) (by kernel_rfl) (by simp) ?_
  refine AllReadyH.cons rfl (fun K hK => ?_) AllReadyH.nil
  go_simp
  refine (slotOf_impl x _).mono ?_
  rintro e w2 ⟨rfl, hb2⟩
  have hd2 : w2.heap[w.heap.size]? = some (.cells #[.int .i64 x.kind, .int .i64 x.key, .int .i64 x.id] 73 (0, 0)) := (hb2.block _ (by simp)).trans hHeld
  have hg2 : w.grownBy w2 (some b) := ⟨hb2.os, hb2.tape, hb2.output, Nat.le_trans (by simp) hb2.size, fun k hk _ => (hb2.block k (by simp; omega)).trans (Below.heap_alloc _ _ _ hk)⟩
  have HO2 : Hid (w2.ownsMap Tryz.prog 149 heldS b n D) := ownsMap_below' (H.out.1.alloc _).drew hb2
  clear hb2
  refine hK.out _ _ hd2 (fun hH2 => ?_)
  clear hK K
  obtain ⟨w3, hrun, hown3, hg3⟩ := HO2.out.update slot_keyed Tryz.underlying68 H.out.2 (keyOf_slot hin.1 hin.2) (val := .int .i64 x.id) (d := .held (.int .i64 x.id)) (ps := []) rfl
  have hd3 : w3.heap[w.heap.size]? = some (.cells #[.int .i64 x.kind, .int .i64 x.key, .int .i64 x.id] 73 (0, 0)) := (hg3.block _ (Array.getElem?_eq_some_iff.1 hd2).1 (fun e => hbw (by cases e; rfl))).trans hd2
  have HW3 : Hid (w3.ownsMap Tryz.prog 149 heldS b (n + 1) (D.put (slotLit x.kind x.key) (.held (.int .i64 x.id))) ∧ w.grownBy w3 (some b)) := ⟨hown3, hg2.andThen hg3 (fun _ h => .inr h)⟩
  clear hown3 hg3
  refine wpAnyH_ready (rs := [5]) (by kernel_rfl) (by simp) ?_
  refine AllReadyH.cons rfl (fun K hK => ?_) AllReadyH.nil
  go_simp
  refine hK.out _ _ hd3 (fun hH3 => ?_)
  clear hK K
  refine wpAnyH_done (by kernel_rfl) ?_ _
  go_wp2
  go_end0
  exact ⟨rfl, HW3.out.1, HW3.out.2⟩
theorem smap_put (x : En) (f : Slots) (b n : Nat) (w : World) (h : SMap w b n f) (hn : n < maxLen) (hin : EnIn x) (hid : (x.id == 0) = false) :
    Calls Tryz.prog 82 #[.map (some b), .agg #[.int .i64 x.kind, .int .i64 x.key, .int .i64 x.id]] w fun e w' => e = .returned (.tuple #[]) ∧ SMap w' b (n + 1) (upd f x (some x.id)) ∧ w.grownBy w' (some b) := by
  obtain ⟨D, hown, hD⟩ := h
  refine (put_any x D b n w hown hn hin hid).mono ?_
  rintro e w' ⟨rfl, h1, h2⟩
  exact ⟨rfl, ⟨_, h1, hD.put hin⟩, h2⟩
set_option maxHeartbeats 4000000 in
set_option maxRecDepth 100000 in
theorem del_any (xk xy : Int) (D : DataW Value) (b n : Nat) (w : World) (h : w.ownsMap Tryz.prog 149 heldS b n D) (hk : (Lit.int .i64 xk).wf = true) (hy : (Lit.int .i64 xy).wf = true) :
    Calls Tryz.prog 82 #[.map (some b), .agg #[.int .i64 xk, .int .i64 xy, .int .i64 0]] w fun e w' => e = .returned (.tuple #[]) ∧ w'.ownsMap Tryz.prog 149 heldS b n (D.del (slotLit xk xy)) ∧ w.grownBy w' (some b) := by
  have H : Hid (∀ o, (w.alloc o).ownsMap Tryz.prog 149 heldS b n D) := fun o => h.alloc o
  have HK : Hid (keyOf Tryz.prog 149 (.agg #[.int .i64 xk, .int .i64 xy]) = some (slotLit xk xy)) := keyOf_slot hk hy
  clear h hk hy
  go_enter Tryz.func82, Tryz.ntmps82
  go_wp2_with fail
  refine (slotOf_impl ⟨xk, xy, 0⟩ _).mono ?_
  rintro e w2 ⟨rfl, hb2⟩
  have HO2 : Hid (w2.ownsMap Tryz.prog 149 heldS b n D) := ownsMap_below' (H.out _) hb2
  have HG2 : Hid (w.grownBy w2 (some b)) := ⟨hb2.os, hb2.tape, hb2.output, Nat.le_trans (by simp) hb2.size, fun k hk _ => (hb2.block k (by simp; omega)).trans (Below.heap_alloc _ _ _ hk)⟩
  clear hb2
  go_wp2_with (at_delete; refine wpList_delete_own _ rfl _ _ 68 149 rfl 2 slot_keyed Tryz.underlying68 heldS b n D rfl HO2.out _ _ rfl HK.out ?_; intro w3 hown3 hturn3; have H3 : Hid (w3.ownsMap Tryz.prog 149 heldS b n (D.del (slotLit xk xy)) ∧ w.grownBy w3 (some b)) := ⟨hown3, HG2.out.andThen hturn3.grown (fun _ h => .inr h)⟩; clear hown3 hturn3)
  refine bodyPost_ret (v := .tuple #[]) (by simp [results, Tryz.results82, go_sem]) rfl ⟨rfl, H3.out.1, H3.out.2⟩
theorem smap_del (x : En) (f : Slots) (b n : Nat) (w : World) (h : SMap w b n f) (hin : EnIn x) (hid : (x.id == 0) = true) :
    Calls Tryz.prog 82 #[.map (some b), .agg #[.int .i64 x.kind, .int .i64 x.key, .int .i64 x.id]] w fun e w' => e = .returned (.tuple #[]) ∧ SMap w' b n (upd f x none) ∧ w.grownBy w' (some b) := by
  obtain ⟨D, hown, hD⟩ := h
  have hi : x.id = 0 := by simpa using hid
  rw [hi]
  refine (del_any x.kind x.key D b n w hown hin.1 hin.2).mono ?_
  rintro e w' ⟨rfl, h1, h2⟩
  exact ⟨rfl, ⟨_, h1, hD.del hin⟩, h2⟩
/-- One step of a range over such a map. -/
theorem wpList_next_M {w : World} {ops : Array Oper} {rest : List Oper} {o : Oper} {a : Act} {Q : Exit → Act → World → Prop} (hg : o.guard = none) (it : Operand) (hop : o.op = Op.next it false) (b r n : Nat) (D : DataW Value) (f : Slots) (hD : MapIs D f) (left : Lit → Bool) (cnt : Nat)
    (hit : a.eval it = .pointer (some ⟨r, 0, none⟩)) (h : w.ranges Tryz.prog 149 heldS b r n D left cnt)
    (hDone : cnt = 0 → (∀ kl, left kl = false) → wpList Tryz.prog ops Q rest (a.put o.dst (.tuple #[.bool false])) w)
    (hMore : ∀ (k y v : Int) (w' : World) (cnt' : Nat), (Lit.int .i64 k).wf = true → (Lit.int .i64 y).wf = true → f k y = some v → left (slotLit k y) = true → w'.ranges Tryz.prog 149 heldS b r n D (fun z => left z && !z.sameKey (slotLit k y)) cnt' → cnt' < cnt → w.grownBy w' (some r) → w'.heap.size = w.heap.size →
      (Instr.entry (.pointer (some ⟨r, 0, none⟩))).run Tryz.prog w' = .ok (.tuple #[.agg #[.int .i64 k, .int .i64 y], .int .i64 v]) w' → wpList Tryz.prog ops Q rest (a.put o.dst (.tuple #[.bool true, .agg #[.int .i64 k, .int .i64 y], .int .i64 v])) w') :
    wpList Tryz.prog ops Q (o :: rest) a w :=
  wpList_next_ranges w hg it hop 149 slot_keyed heldS slotVal id (fun key kl hkey => by
      obtain ⟨k, y, rfl, _⟩ := keyOf_slot_inv hkey
      exact ⟨(k, y), rfl⟩) (fun v _ _ => ⟨v, rfl⟩) b r n D left cnt hit h hDone (fun x c kl y w' cnt' hkey hlk hv hat hrg hlt hgr hsz hen => by
    obtain ⟨k1, y1⟩ := x
    obtain ⟨k2, y2, ex, rfl, wk, wy⟩ := keyOf_slot_inv hkey
    obtain ⟨rfl, rfl⟩ : k1 = k2 ∧ y1 = y2 := by simpa [slotVal] using ex
    have hy : y.1 = .held c := by
      have h1 : heldS c = some y := hv
      unfold heldS at h1
      cases h1
      rfl
    rw [hy] at hat
    obtain ⟨v, hlv, rfl⟩ : ∃ v, f k1 y1 = some v ∧ c = .int .i64 v := by
      cases e : f k1 y1 with
      | none =>
        have h1 := hat (.held (.bool true))
        have h2 := hat (.held (.bool false))
        rw [hD.at_ wk wy, e] at h1 h2
        have := h1.trans h2.symm
        simp at this
      | some v =>
        refine ⟨v, rfl, ?_⟩
        have h1 := hat (.held c)
        rw [hD.at_ wk wy, e] at h1
        simpa using h1.symm
    exact hMore k1 y1 v w' cnt' wk wy hlv hlk hrg hlt hgr hsz hen)
end Go.Proofs.YteajcmkaoahbeaaGreatDoor
