/- Rows of entries of one's own, to which others are put. The program's keys of a map in order. Marks in rows of entries, and whether they are held; outcomes held against each other. -/
import Derived.Test.YteajcmkaoahbeaaGreatDoorZSuMap
import Derived.Test.YteajcmkaoahbeaaGreatDoorZMsSet2
import Derived.Test.YteajcmkaoahbeaaGreatDoorZSuSort
import Derived.Test.YteajcmkaoahbeaaGreatDoorZSt5
namespace Go.Proofs.YteajcmkaoahbeaaGreatDoor
open Go.RowKit

def ecs (xs : List En) : List Value := xs.flatMap enCells
theorem ecs_nil : ecs [] = [] := rfl
theorem ecs_append (xs ys : List En) : ecs (xs ++ ys) = ecs xs ++ ecs ys := by simp [ecs]
theorem ecs_one_cons (x : En) : ecs [x] = enCells x := by simp [ecs]
theorem ecs_len : ∀ xs : List En, (ecs xs).length = xs.length * 3
  | [] => rfl
  | x :: xs => by
    have := ecs_len xs
    simp only [ecs, List.flatMap_cons, List.length_append, List.length_cons] at this ⊢
    simp only [enCells, List.length_cons, List.length_nil]
    omega
theorem ecs_get : ∀ {xs : List En} {i : Nat} (h : i < xs.length) {j : Nat}, j < 3 → (ecs xs)[i * 3 + j]? = (enCells xs[i])[j]?
  | x :: xs, 0, _, j, hj => by
    simp only [ecs, List.flatMap_cons, Nat.zero_mul, Nat.zero_add, List.getElem_cons_zero]
    rw [List.getElem?_append_left (by simpa [enCells] using hj)]
  | x :: xs, i + 1, h, j, hj => by
    have ih := ecs_get (xs := xs) (i := i) (by simpa using h) hj
    simp only [ecs, List.flatMap_cons, List.getElem_cons_succ] at ih ⊢
    rw [List.getElem?_append_right (by simp [enCells]; omega), ← ih]
    congr 1
    simp [enCells]
    omega
theorem ecs_one (xs : List En) : ∀ u ∈ ecs xs, u.oneCell' = true := by
  intro u hu
  obtain ⟨x, _, hx⟩ := List.mem_flatMap.1 hu
  simp only [enCells, List.mem_cons, List.not_mem_nil, or_false] at hx
  rcases hx with rfl | rfl | rfl <;> rfl
theorem ecs_cell {xs : List En} {q : Nat} {u : Value} (h : (ecs xs)[q]? = some u) : ∃ i j, ∃ hi : i < xs.length, j < 3 ∧ q = i * 3 + j ∧ (enCells xs[i])[j]? = some u := by
  have hq : q < (ecs xs).length := by
    rcases Nat.lt_or_ge q (ecs xs).length with h1 | h1
    · exact h1
    · rw [List.getElem?_eq_none h1] at h; cases h
  rw [ecs_len] at hq
  have hi : q / 3 < xs.length := by omega
  have hj : q % 3 < 3 := by omega
  have e : q = q / 3 * 3 + q % 3 := by omega
  refine ⟨q / 3, q % 3, hi, hj, e, ?_⟩
  rw [← ecs_get hi hj, ← e]
  exact h
/-- A row of entries of one's own. -/
def EnsOwn (w : World) (base : Nat) (v : Value) (xs : List En) : Prop := w.ownsRow base 73 3 v xs.length (ecs xs)
theorem EnsOwn.at {w : World} {base : Nat} {v : Value} {xs : List En} (h : EnsOwn w base v xs) (hl : xs.length ≤ 1048576) : ∃ a c, v = .slice a xs.length c ∧ xs.length ≤ c ∧ EnsAt w a xs ∧ ((a = none ∧ c = 0) ∨ ∃ g, a = some ⟨g, 0, none⟩ ∧ base ≤ g) := by
  rcases h.2 with ⟨rfl, h0⟩ | ⟨g, cap, cur, rfl, hb, hg, hle, _, hsz, ht⟩
  · exact ⟨none, 0, by rw [h0], by omega, ⟨hl, fun hp => absurd h0 (by omega)⟩, .inl ⟨rfl, rfl⟩⟩
  · refine ⟨_, cap, rfl, hle, ⟨hl, fun hp => ⟨g, 0, rfl, (Array.getElem?_eq_some_iff.1 hg).1, fun i hi j hj => ?_⟩⟩, .inr ⟨g, rfl, hb⟩⟩
    rw [cell_of_heap hg, Nat.zero_add, ← ecs_get hi hj, ← ht, List.getElem?_take_of_lt (by omega), Array.getElem?_toList]
theorem EnsOwn.below {w w' : World} {base : Nat} {v : Value} {xs : List En} (h : EnsOwn w base v xs) (hg : w.grownBy w' v.ownBlock) (hbase : base ≤ w.heap.size) : Below base w w' := by
  refine ⟨hg.os, hg.tape, hg.output, hg.size, fun k hk => hg.block k (by omega) ?_⟩
  rcases h.2 with ⟨rfl, _⟩ | ⟨g, cap, cur, rfl, hb, _⟩
  · exact fun e => by cases e
  · intro e
    have e2 : k = g := by simpa [Value.ownBlock] using e
    omega
theorem EnsOwn.kept {w w' : World} {base : Nat} {v : Value} {xs : List En} (h : EnsOwn w base v xs) (hb : Below w.heap.size w w') : EnsOwn w' base v xs := by
  refine ⟨h.1, ?_⟩
  rcases h.2 with h0 | ⟨g, cap, cur, h1, h2, h3, r⟩
  · exact .inl h0
  · exact .inr ⟨g, cap, cur, h1, h2, (hb.block g (Array.getElem?_eq_some_iff.1 h3).1).trans h3, r⟩
theorem EnsOwn.nil (w : World) (base : Nat) : EnsOwn w base (.slice none 0 0) [] := ⟨rfl, .inl ⟨rfl, rfl⟩⟩
theorem EnsOwn.made (w : World) {base : Nat} (hb : base ≤ w.heap.size) : EnsOwn (w.alloc (.cells #[] 73)) base (.slice (some ⟨w.heap.size, 0, none⟩) 0 0) [] :=
  ⟨rfl, .inr ⟨w.heap.size, 0, #[], rfl, hb, (MapKept.heap_alloc w _).1, Nat.le_refl _, by unfold maxLen; omega, rfl, rfl⟩⟩
/-- 'append(v, l...)', v of one's own, l a row of entries that lies anywhere. -/
theorem wpList_append_ens {w : World} {ops : Array Oper} {rest : List Oper} {o : Oper} {a : Act} {Q : Exit → Act → World → Prop} (hgd : o.guard = none) (s x : Operand) (t : TypeId)
    (ho : o.op = .call { callee := .builtin .append, args := #[s, x], argTypes := #[t, t] })
    (i : TypeInfo) (z : Value) (ht : Tryz.prog.underlying t = some (.slice 73)) (hi : Tryz.prog.info? 73 = some i) (hz : i.zero = some z)
    (hsize : i.size = 3) (hby : i.bytes = 24) (hzs : z.cells.size = 3)
    (base : Nat) (v : Value) (xs : List En) (hs : a.eval s = v) (hown : EnsOwn w base v xs)
    (p : Option Addr) (cap : Nat) (ys : List En) (hn : EnsAt w p ys) (hx : a.eval x = .slice p ys.length cap)
    (hb : xs.length + ys.length ≤ 1000000) (hbase : base ≤ w.heap.size)
    (h : ∀ v' w', EnsOwn w' base v' (xs ++ ys) → Below base w w' → (v ≠ .slice none 0 0 → v' ≠ .slice none 0 0) → wpList Tryz.prog ops Q rest (a.put o.dst v') w') : wpList Tryz.prog ops Q (o :: rest) a w := by
  by_cases hp : 0 < ys.length
  · obtain ⟨b, off, rfl, hb', hc⟩ := hn.row hp
    refine wpList_append_own w hgd s x t ho base _ i z 3 24 ht hi hz hsize hby hzs (by decide) v xs.length (ecs xs) hs hown ⟨b, off, none⟩ ys.length cap (ecs ys) hx (ecs_len ys) (fun j u hj => ?_) (ecs_one ys) (by unfold maxLen; omega) (by omega) hbase (fun v' w' h1 h2 h3 => h v' w' ?_ (hown.below h2 hbase) (fun hv e => hv (h3.1 e).1))
    · rw [Addr.add_lit]
      obtain ⟨q, r, hq, hr, rfl, hu⟩ := ecs_cell hj
      rw [hc q hq r hr, hu]
    · unfold EnsOwn
      rw [ecs_append, List.length_append]
      exact h1
  · have h0 : ys = [] := List.eq_nil_of_length_eq_zero (by omega)
    subst h0
    refine wpList_plain hgd fun K hK => ?_
    have hrun : (Builtin.append_ #[t, t] o.type #[v, .slice p 0 cap]).run Tryz.prog w = .ok v w := by
      rcases hown.2 with ⟨rfl, h0⟩ | ⟨g, c, cur, rfl, hbg, hg, hcc, _⟩
      · cases p
        · exact run_append_nothing w t t o.type _ i ht hi none 0 0 (Nat.le_refl _) _ (Src.ofNil w ht cap)
        · exact run_append_nothing w t t o.type _ i ht hi none 0 0 (Nat.le_refl _) _ (Src.ofSlice w ht _ 0 cap [] (by simp) (fun j u h => by simp at h) (fun u h => by cases h))
      · cases p
        · exact run_append_nothing w t t o.type _ i ht hi _ _ c hcc _ (Src.ofNil w ht cap)
        · exact run_append_nothing w t t o.type _ i ht hi _ _ c hcc _ (Src.ofSlice w ht _ 0 cap [] (by simp) (fun j u h => by simp at h) (fun u h => by cases h))
    unfold Oper.wp
    simp [execOp, ho, resolve, invoke, builtin, hs, hx, hrun, Result.andThen]
    exact hK _ _ (h v w (by simpa using hown) (Below.refl _ _) id)
theorem ensAt_one {w : World} {b : Nat} {x : En} {t : TypeId} (h : w.heap[b]? = some (.cells #[.int .i64 x.kind, .int .i64 x.key, .int .i64 x.id] t (0, 0))) : EnsAt w (some ⟨b, 0, none⟩) [x] := by
  refine ⟨by simp, fun _ => ⟨b, 0, rfl, (Array.getElem?_eq_some_iff.1 h).1, fun i hi j hj => ?_⟩⟩
  obtain rfl : i = 0 := by simpa using hi
  rw [cell_of_heap h]
  simp only [Nat.zero_mul, Nat.zero_add, List.getElem_cons_zero, enCells]
  match j, hj with
  | 0, _ => rfl
  | 1, _ => rfl
  | 2, _ => rfl
theorem EnsAt.take {w : World} {a : Option Addr} {xs : List En} (h : EnsAt w a xs) (k : Nat) : EnsAt w a (xs.take k) := by
  refine ⟨Nat.le_trans (List.length_take_le' k xs) h.len, fun hp => ?_⟩
  rw [List.length_take] at hp
  obtain ⟨b, off, ha, hb, hc⟩ := h.row (by omega)
  refine ⟨b, off, ha, hb, fun i hi j hj => ?_⟩
  rw [List.length_take] at hi
  rw [List.getElem_take]
  exact hc i (by omega) j hj
theorem EnsAt.drop {w : World} {b off : Nat} {xs : List En} (h : EnsAt w (some ⟨b, off, none⟩) xs) (k : Nat) : EnsAt w (some ⟨b, off + k * 3, none⟩) (xs.drop k) := by
  refine ⟨Nat.le_trans (by simp) h.len, fun hp => ?_⟩
  rw [List.length_drop] at hp
  obtain ⟨b', off', ha, hb, hc⟩ := h.row (by omega)
  cases ha
  refine ⟨b, off + k * 3, rfl, hb, fun i hi j hj => ?_⟩
  rw [List.length_drop] at hi
  rw [List.getElem_drop]
  have := hc (k + i) (by omega) j hj
  rw [← this]
  congr 2
  omega
theorem EnsAt.empty {w : World} (p : Option Addr) : EnsAt w p [] := ⟨by simp, fun h => absurd h (Nat.lt_irrefl 0)⟩
end Go.Proofs.YteajcmkaoahbeaaGreatDoor
namespace Go.Proofs.YteajcmkaoahbeaaGreatDoor
open Go.RowKit

def kcs (ks : List (Int × Int)) : List Value := ks.flatMap slotVs
theorem kcs_append (xs ys : List (Int × Int)) : kcs (xs ++ ys) = kcs xs ++ kcs ys := by simp [kcs]
theorem kcs_len : ∀ xs : List (Int × Int), (kcs xs).length = xs.length * 2
  | [] => rfl
  | x :: xs => by
    have := kcs_len xs
    simp only [kcs, List.flatMap_cons, List.length_append, List.length_cons] at this ⊢
    simp only [slotVs, List.length_cons, List.length_nil]
    omega
theorem kcs_get : ∀ {xs : List (Int × Int)} {i : Nat} (h : i < xs.length) {j : Nat}, j < 2 → (kcs xs)[i * 2 + j]? = (slotVs xs[i])[j]?
  | x :: xs, 0, _, j, hj => by
    simp only [kcs, List.flatMap_cons, Nat.zero_mul, Nat.zero_add, List.getElem_cons_zero]
    rw [List.getElem?_append_left (by simpa [slotVs] using hj)]
  | x :: xs, i + 1, h, j, hj => by
    have ih := kcs_get (xs := xs) (i := i) (by simpa using h) hj
    simp only [kcs, List.flatMap_cons, List.getElem_cons_succ] at ih ⊢
    rw [List.getElem?_append_right (by simp [slotVs]; omega), ← ih]
    congr 1
    simp [slotVs]
    omega
theorem slots_own {w : World} {base : Nat} {v : Value} {ks : List (Int × Int)} (h : w.ownsRow base 149 2 v ks.length (kcs ks)) (hn : v ≠ .slice none 0 0) : ∃ g c, v = .slice (some ⟨g, 0, none⟩) ks.length c ∧ ks.length ≤ c ∧ base ≤ g ∧ g < w.heap.size ∧ SlotsIn w g ks ∧ ∀ q, w.frozen? ⟨g, q, none⟩ = false := by
  rcases h.2 with ⟨h1, _⟩ | ⟨g, cap, cur, rfl, hb, hg, hle, _, hsz, ht⟩
  · exact absurd h1 hn
  · refine ⟨g, cap, rfl, hle, hb, (Array.getElem?_eq_some_iff.1 hg).1, fun i hi j hj => ?_, fun q => frozen_of_heap hg⟩
    rw [cell_of_heap hg, ← kcs_get hi hj, ← ht, List.getElem?_take_of_lt (by omega), Array.getElem?_toList]
theorem own_ne {w : World} {base size n0 b r n cnt : Nat} {e k : TypeId} {v : Value} {xs : List Value} {P : Program} {R : Value → Option (DataW Value × List MemPlace)} {D : DataW Value} {left : Lit → Bool} (h : w.ranges P k R b r n D left cnt) (ho : w.ownsRow base e size v n0 xs) : some b ≠ v.ownBlock ∧ some r ≠ v.ownBlock := by
  obtain ⟨es, clock, since, seen, c0, hb, _, _, _, hr, _⟩ := h
  rcases ho.2 with ⟨rfl, _⟩ | ⟨g, cap, cur, rfl, _, hg, _⟩
  · exact ⟨fun e => (by cases e), fun e => (by cases e)⟩
  · refine ⟨fun e => ?_, fun e => ?_⟩
    · have e2 : b = g := by simpa [Value.ownBlock] using e
      rw [e2, hg] at hb
      cases hb
    · have e2 : r = g := by simpa [Value.ownBlock] using e
      rw [e2, hg] at hr
      cases hr
theorem own_below {w w' : World} {base size n : Nat} {e : TypeId} {v : Value} {xs : List Value} (h : w.ownsRow base e size v n xs) (hg : w.grownBy w' v.ownBlock) (hbase : base ≤ w.heap.size) : Below base w w' := by
  refine ⟨hg.os, hg.tape, hg.output, hg.size, fun k hk => hg.block k (by omega) ?_⟩
  rcases h.2 with ⟨rfl, _⟩ | ⟨g, cap, cur, rfl, hb, _⟩
  · exact fun e => by cases e
  · intro e
    have e2 : k = g := by simpa [Value.ownBlock] using e
    omega
theorem own_but {w w' : World} {base size n r : Nat} {e : TypeId} {v : Value} {xs : List Value} (h : w.ownsRow base e size v n xs) (hg : w.grownBy w' (some r)) (hne : some r ≠ v.ownBlock) : w'.ownsRow base e size v n xs := by
  refine ⟨h.1, ?_⟩
  rcases h.2 with h0 | ⟨g, cap, cur, h1, h2, h3, r'⟩
  · exact .inl h0
  · refine .inr ⟨g, cap, cur, h1, h2, (hg.block g (Array.getElem?_eq_some_iff.1 h3).1 (fun e => hne ?_)).trans h3, r'⟩
    rw [h1]
    exact e.symm
theorem own_alloc {w : World} {base size n : Nat} {e : TypeId} {v : Value} {xs : List Value} (h : w.ownsRow base e size v n xs) (o : Obj) : (w.alloc o).ownsRow base e size v n xs := by
  refine ⟨h.1, ?_⟩
  rcases h.2 with h0 | ⟨g, cap, cur, h1, h2, h3, r'⟩
  · exact .inl h0
  · exact .inr ⟨g, cap, cur, h1, h2, (Below.heap_alloc _ _ _ (Array.getElem?_eq_some_iff.1 h3).1).trans h3, r'⟩
theorem cells_at {w : World} {b : Nat} {vs : List Value} {t : TypeId} (h : w.heap[b]? = some (.cells vs.toArray t (0, 0))) : ∀ j u, vs[j]? = some u → w.cell? ((⟨b, 0, none⟩ : Addr).add j) = some u := fun j u hj => by
  rw [Addr.add_lit, cell_of_heap h, Nat.zero_add, List.getElem?_toArray]
  exact hj
/-- What holds when some of the keys have come. -/
structure KInv (w : World) (f : Slots) (D : DataW Value) (left : Lit → Bool) (cnt : Nat) (ks : List (Int × Int)) (V : Value) (W : World) : Prop where
  row : W.ownsRow w.heap.size 149 2 V ks.length (kcs ks)
  nn : V ≠ .slice none 0 0
  nd : ks.Nodup
  mem : ∀ k y, (k, y) ∈ ks ↔ (f k y).isSome = true ∧ left (slotLit k y) = false
  cost : ks.length + cnt ≤ Maps.size D
  below : Below w.heap.size w W
theorem KInv.next {w : World} {f : Slots} {D : DataW Value} {left : Lit → Bool} {cnt cnt' : Nat} {ks : List (Int × Int)} {V V' : Value} {W W' : World} (h : KInv w f D left cnt ks V W) (hD : MapIs D f) {k y v : Int} (hk : (Lit.int .i64 k).wf = true) (hy : (Lit.int .i64 y).wf = true) (hf : f k y = some v) (hl : left (slotLit k y) = true) (hc : cnt' < cnt)
    (hrow : W'.ownsRow w.heap.size 149 2 V' (ks.length + 1) (kcs ks ++ kcs [(k, y)])) (hnn : V' ≠ .slice none 0 0) (hb : Below w.heap.size w W') : KInv w f D (fun z => left z && !z.sameKey (slotLit k y)) cnt' (ks ++ [(k, y)]) V' W' := by
  have hno : (k, y) ∉ ks := fun hm => by
    have := ((h.mem k y).1 hm).2
    rw [hl] at this
    cases this
  refine ⟨by rw [kcs_append, List.length_append]; exact hrow, hnn, ?_, fun k' y' => ?_, ?_, hb⟩
  · exact List.nodup_append.2 ⟨h.nd, by simp, fun a ha b hb e => by
      have : b = (k, y) := by simpa using hb
      rw [e, this] at ha
      exact hno ha⟩
  · have self : (slotLit k y).sameKey (slotLit k y) = true := WideAt.sameKey_self (by trivial)
    rw [List.mem_append, h.mem]
    by_cases e : k' = k ∧ y' = y
    · obtain ⟨rfl, rfl⟩ := e
      simp [hf, self]
    · have hne : ¬ (k', y') = (k, y) := fun c => e (by simpa using c)
      constructor
      · rintro (h1 | h1)
        · exact ⟨h1.1, by simp [h1.2]⟩
        · exact absurd (by simpa using h1) e
      · rintro ⟨h1, h2⟩
        refine .inl ⟨h1, ?_⟩
        obtain ⟨v', hv'⟩ := Option.isSome_iff_exists.1 h1
        have hw := hD.dom _ _ _ hv'
        have h3 : (slotLit k' y').sameKey (slotLit k y) = false := by
          cases c : (slotLit k' y').sameKey (slotLit k y)
          · rfl
          · exact absurd (slotLit_inj hw.1 hw.2 hk hy (WideAt.sameKey_eq c)) e
        rw [h3] at h2
        simpa using h2
  · have := h.cost
    simp
    omega
/-- 'append(v, at)'. -/
theorem wpList_append_slot {w : World} {ops : Array Oper} {rest : List Oper} {o : Oper} {a : Act} {Q : Exit → Act → World → Prop} (hgd : o.guard = none) (s x : Operand) (t : TypeId)
    (ho : o.op = .call { callee := .builtin .append, args := #[s, x], argTypes := #[t, t] })
    (i : TypeInfo) (z : Value) (ht : Tryz.prog.underlying t = some (.slice 149)) (hi : Tryz.prog.info? 149 = some i) (hz : i.zero = some z)
    (hsize : i.size = 2) (hby : i.bytes = 16) (hzs : z.cells.size = 2)
    (base : Nat) (v : Value) (ks : List (Int × Int)) (hs : a.eval s = v) (hown : w.ownsRow base 149 2 v ks.length (kcs ks))
    (b : Nat) (k y : Int) (t2 : TypeId) (hx : a.eval x = .slice (some ⟨b, 0, none⟩) 1 1) (hc : w.heap[b]? = some (.cells #[.int .i64 k, .int .i64 y] t2 (0, 0)))
    (hb : ks.length ≤ 1000000) (hbase : base ≤ w.heap.size)
    (h : ∀ v' w', w'.ownsRow base 149 2 v' (ks.length + 1) (kcs ks ++ kcs [(k, y)]) → w.grownBy w' v.ownBlock → v' ≠ .slice none 0 0 → wpList Tryz.prog ops Q rest (a.put o.dst v') w') : wpList Tryz.prog ops Q (o :: rest) a w := by
  refine wpList_append_own w hgd s x t ho base _ i z 2 16 ht hi hz hsize hby hzs (by decide) v ks.length (kcs ks) hs hown ⟨b, 0, none⟩ 1 1 (kcs [(k, y)]) hx rfl (cells_at (vs := kcs [(k, y)]) hc) (fun u hu => ?_) (by unfold maxLen; omega) (by omega) hbase (fun v' w' h1 h2 h3 => h v' w' h1 h2 (fun e => ?_))
  · simp [kcs, slotVs] at hu
    rcases hu with rfl | rfl <;> rfl
  · have := (h3.1 e).2
    cases this
theorem Tryz.infoSlot : (Tryz.prog.info? 149).map (fun i => (i.zero, i.size, i.bytes)) = some (some (.agg #[.int .i64 0, .int .i64 0]), 2, 16) := by kernel_rfl
def KeysPost (w : World) (f : Slots) (n : Nat) (e : Ending) (w' : World) : Prop := ∃ g c ks, e = .returned (.slice (some ⟨g, 0, none⟩) ks.length c) ∧ ks.length ≤ n ∧ g < w'.heap.size ∧ SlotsIn w' g ks ∧ Ordered ks ∧ (∀ k y, (k, y) ∈ ks ↔ (f k y).isSome = true) ∧ Below w.heap.size w w'
set_option maxHeartbeats 4000000 in
set_option maxRecDepth 100000 in
theorem keys_impl (f : Slots) (b n : Nat) (w : World) (h : SMap w b n f) (hn : n ≤ 100000) :
    Calls Tryz.prog 84 #[.map (some b), .func (.func 85) #[] #[]] w (KeysPost w f n) := by
  obtain ⟨i0, hi, hz0, hz1, hz2⟩ := info_parts Tryz.infoSlot
  obtain ⟨D, hown, hD⟩ := h
  have H : Hid (w.ownsMap Tryz.prog 149 heldS b n D) := hown
  have HD : Hid (MapIs D f) := hD
  obtain ⟨m, HM⟩ : ∃ m, Hid (m = Maps.size D) := ⟨Maps.size D, (rfl : Maps.size D = _)⟩
  have hmn : m ≤ n := by rw [HM.out]; exact hown.size_le
  have hbl := hown.lt
  clear hown hD
  go_enter Tryz.func84, Tryz.ntmps84
  go_wp2_with (first
    | (at_len; refine wpList_len_own _ rfl _ 67 rfl 149 2 Tryz.underlying67 heldS b n D rfl H.out ?_; rw [← HM.out])
    | (at_make; refine wpList_make_own _ rfl _ _ 146 rfl w.heap.size 149 i0 _ 2 Tryz.underlying146 hi hz0 hz1 .i64 .i64 _ m rfl rfl rfl (by rw [hz2]; omega) (by unfold maxLen; omega) (Nat.le_refl _) ?_; intro w1 hown1 hg1; have HO1 : Hid (w1.ownsRow w.heap.size 149 2 (.slice (some ⟨w.heap.size, 0, none⟩) 0 m) 0 []) := hown1; have HG1 : Hid (w.grownBy w1 none) := hg1; clear hown1 hg1)
    | (at_range; refine wpList_range_own _ rfl _ 67 rfl 149 2 slot_keyed Tryz.underlying67 heldS b n D rfl (H.out.kept HG1.out (by simp)) ?_; intro w5 hrg5 hg5 hs5))
  go_frame
  have HK0 : Hid (KInv w f D (Maps.has D) (Maps.size D) [] (.slice (some ⟨w.heap.size, 0, none⟩) 0 m) w5) := by
    refine ⟨?_, by simp, List.nodup_nil, fun k y => ?_, by simp, ?_⟩
    · have h1 := HO1.out
      rcases h1.2 with ⟨h2, _⟩ | ⟨g, cap, cur, h2, h3, h4, r⟩
      · cases h2
      · exact ⟨rfl, .inr ⟨g, cap, cur, h2, h3, (hg5.block g (Array.getElem?_eq_some_iff.1 h4).1 (by simp)).trans h4, r⟩⟩
    · constructor
      · intro h; cases h
      · rintro ⟨h1, h2⟩
        obtain ⟨v, hv⟩ := Option.isSome_iff_exists.1 h1
        have hw := HD.out.dom _ _ _ hv
        rw [HD.out.has hw.1 hw.2, h1] at h2
        cases h2
    · exact ((Below.refl _ _).grown HG1.out (Nat.le_refl _) (fun k h => by cases h)).grown hg5 (HG1.out.size) (fun k h => by cases h)
  have hr1 : w.heap.size ≤ w1.heap.size := HG1.out.size
  obtain ⟨r, HR⟩ : ∃ r, Hid (r = w1.heap.size) := ⟨w1.heap.size, (rfl : w1.heap.size = _)⟩
  rw [← HR.out] at hrg5 ⊢
  rw [← HR.out] at hr1
  go_loopw [5, 6] (fun v _ wr => ∃ (left : Lit → Bool) (cnt : Nat) (ks : List (Int × Int)) (V : Value), V = v ∧ wr.ranges Tryz.prog 149 heldS b r n D left cnt ∧ Hid (KInv w f D left cnt ks V wr)) (fun _ _ wr => wr.rangeLeft b r)
  case atStart => exact ⟨_, _, _, _, rfl, hrg5, HK0⟩
  case round =>
    clear HK0 hrg5 hg5 hs5 HO1 HG1
    obtain ⟨left, cnt, ks, V, rfl, hrg, HI⟩ := hrel
    go_wp2_with (at_next; refine wpList_next_M rfl _ rfl b r n D f HD.out _ _ rfl hrg ?_ ?_)
    · intro hc0 hl0
      obtain ⟨g, c, hV, hgc, hwg, hgw, hsl, hfr⟩ := slots_own HI.out.row HI.out.nn
      have hcst := HI.out.cost
      rw [← HM.out] at hcst
      have HST := sort_slots ks HI.out.nd g c wr hsl hfr hgw (by omega)
      have HME : Hid (∀ k y, (k, y) ∈ ks ↔ (f k y).isSome = true) := fun k y => (HI.out.mem k y).trans ⟨fun h => h.1, fun h => ⟨h, hl0 _⟩⟩
      have HBW : Hid (Below w.heap.size w wr) := HI.out.below
      subst hV
      clear hc0 hl0 hrg hsl hfr HI
      go_wp2_with fail
      refine HST.mono ?_
      rintro e w6 ⟨rfl, ks', hlen, hord, hmem, hsl6, hb6⟩
      have HB6 : Hid (Below w.heap.size w w6) := HBW.out.trans (hb6 w.heap.size hwg HBW.out.size)
      have hg6 : g < w6.heap.size := Nat.lt_of_lt_of_le hgw (hb6 w.heap.size hwg HBW.out.size).size
      have HS6 : Hid (SlotsIn w6 g ks' ∧ Ordered ks' ∧ (∀ k y, (k, y) ∈ ks' ↔ (f k y).isSome = true)) := ⟨hsl6, hord, fun k y => (hmem _).trans (HME.out k y)⟩
      have HLL : Hid (ks'.length = ks.length) := hlen
      clear hlen hord hmem hsl6 hb6 HST
      go_wp2
      go_ret
      exact ⟨g, c, ks', by rw [HLL.out]; rfl, by rw [HLL.out]; omega, hg6, HS6.out.1, HS6.out.2.1, HS6.out.2.2, HB6.out⟩
    · intro k y v w1' cnt1 wk wy hlv hlk hrg1 hlt hg1 hs1 hen
      have hne := own_ne hrg HI.out.row
      have HNE : Hid (some b ≠ V.ownBlock ∧ some r ≠ V.ownBlock) := hne
      have HLE := hrg.left_eq
      have hwr := HI.out.below.size
      have HB1 : Hid (Below w.heap.size w w1') := HI.out.below.grown hg1 hwr (fun q e => by cases e; exact hr1)
      have HRW : Hid (∀ o1 o2, ((w1'.alloc o1).alloc o2).ownsRow w.heap.size 149 2 V ks.length (kcs ks)) := fun o1 o2 => own_alloc (own_alloc (own_but HI.out.row hg1 hne.2) o1) o2
      have HB2 : Hid (∀ o1 o2, Below w.heap.size w ((w1'.alloc o1).alloc o2)) := fun o1 o2 => (HB1.out.alloc HB1.out.size o1).alloc (by have := HB1.out.size; simp; omega) o2
      have HRG : Hid (∀ o1 o2, ((w1'.alloc o1).alloc o2).ranges Tryz.prog 149 heldS b r n D (fun z => left z && !z.sameKey (slotLit k y)) cnt1) := fun o1 o2 => (hrg1.alloc o1).alloc o2
      have HNX : Hid (f k y = some v ∧ left (slotLit k y) = true ∧ (Lit.int .i64 k).wf = true ∧ (Lit.int .i64 y).wf = true ∧ wr.rangeLeft b r = cnt) := ⟨hlv, hlk, wk, wy, HLE⟩
      have hks : ks.length ≤ 100000 := by have := HI.out.cost; rw [← HM.out] at this; omega
      have hzw := HB1.out.size
      clear hrg hrg1 hg1 hs1 hlv hlk wk wy HLE hne
      go_wp2_with (at_builtin; refine wpList_append_slot rfl _ _ 146 rfl i0 _ Tryz.underlying146 hi hz0 hz1 hz2 rfl w.heap.size _ ks rfl (HRW.out _ _) _ k y _ rfl (new_blockC _ _ _ (by simp)) (by omega) (by simp; omega) ?_; intro V2 w2 hO2 hg2 hn2; have H2 : Hid (KInv w f D (fun z => left z && !z.sameKey (slotLit k y)) cnt1 (ks ++ [(k, y)]) V2 w2 ∧ w2.ranges Tryz.prog 149 heldS b r n D (fun z => left z && !z.sameKey (slotLit k y)) cnt1) := ⟨HI.out.next HD.out HNX.out.2.2.1 HNX.out.2.2.2.1 HNX.out.1 HNX.out.2.1 hlt hO2 hn2 ((HB2.out _ _).trans (own_below (HRW.out _ _) hg2 (HB2.out _ _).size)), (HRG.out _ _).kept hg2 HNE.out.1 HNE.out.2⟩; clear hO2 hg2 hn2)
      go_roundw
      case rel => exact ⟨_, _, _, _, rfl, H2.out.2, H2.out.1⟩
      case measure => rw [H2.out.2.left_eq, HNX.out.2.2.2.2]; exact hlt
end Go.Proofs.YteajcmkaoahbeaaGreatDoor
namespace Go.Proofs.YteajcmkaoahbeaaGreatDoor
open Go.RowKit

/-- One block alone is written. -/
structure OnlyB (b : Nat) (w w' : World) : Prop where
  os : w'.os = w.os
  tape : w'.tape = w.tape
  output : w'.output = w.output
  size : w'.heap.size = w.heap.size
  block : ∀ k, k ≠ b → w'.heap[k]? = w.heap[k]?
  froz : ∀ q, w'.frozen? ⟨b, q, none⟩ = w.frozen? ⟨b, q, none⟩
theorem OnlyB.refl (b : Nat) (w : World) : OnlyB b w w := ⟨rfl, rfl, rfl, rfl, fun _ _ => rfl, fun _ => rfl⟩
theorem OnlyB.set {b : Nat} {w w' : World} (h : OnlyB b w w') (q : Nat) (u : Value) : OnlyB b w (w'.setCell ⟨b, q, none⟩ u) :=
  ⟨h.os, h.tape, h.output, by simpa using h.size, fun k hk => (heap_setCell_other w' ⟨b, q, none⟩ k u hk).trans (h.block k hk), fun q' => by rw [World.frozen?_setCell]; exact h.froz q'⟩
theorem OnlyB.below {b : Nat} {w w' : World} (h : OnlyB b w w') {m : Nat} (hm : m ≤ b) : Below m w w' := ⟨h.os, h.tape, h.output, Nat.le_of_eq h.size.symm, fun k hk => h.block k (by omega)⟩
theorem OnlyB.ens {b : Nat} {w w' : World} (h : OnlyB b w w') {base : Nat} {v : Value} {xs : List En} (ho : EnsOwn w base v xs) (hne : v.ownBlock ≠ some b) : EnsOwn w' base v xs := by
  refine ⟨ho.1, ?_⟩
  rcases ho.2 with h0 | ⟨g, cap, cur, h1, h2, h3, r⟩
  · exact .inl h0
  · refine .inr ⟨g, cap, cur, h1, h2, (h.block g (fun e => hne ?_)).trans h3, r⟩
    rw [h1, ← e]
    rfl
/-- A row of n entries that can be written. -/
def Spot (w : World) (a : Option Addr) (n : Nat) : Prop := n = 0 ∨ ∃ b, a = some ⟨b, 0, none⟩ ∧ b < w.heap.size ∧ (∀ q, q < n * 3 → ∃ u, w.cell? ⟨b, q, none⟩ = some u) ∧ ∀ q, w.frozen? ⟨b, q, none⟩ = false
/-- A row that holds marks from k on. -/
def Marks (w : World) (a : Option Addr) (n : Nat) (k : Int) : Prop := n = 0 ∨ ∃ b, a = some ⟨b, 0, none⟩ ∧ b < w.heap.size ∧ ∀ q, q < n * 3 → w.cell? ⟨b, q, none⟩ = some (.int .i64 (k + q))
def MarkPost (w : World) (a : Option Addr) (n : Nat) (k : Int) (w' : World) : Prop := (n = 0 ∧ w' = w) ∨ ∃ b, a = some ⟨b, 0, none⟩ ∧ OnlyB b w w' ∧ b < w'.heap.size ∧ ∀ q, q < n * 3 → w'.cell? ⟨b, q, none⟩ = some (.int .i64 (k + q))
theorem MarkPost.marks {w w' : World} {a : Option Addr} {n : Nat} {k : Int} (h : MarkPost w a n k w') : Marks w' a n k := by
  rcases h with ⟨h0, _⟩ | ⟨b, ha, _, hb, hc⟩
  · exact .inl h0
  · exact .inr ⟨b, ha, hb, hc⟩
theorem Marks.kept {w w' : World} {a : Option Addr} {n : Nat} {k : Int} (h : Marks w a n k) (hb : Below w.heap.size w w') : Marks w' a n k := by
  rcases h with h0 | ⟨b, ha, hlt, hc⟩
  · exact .inl h0
  · exact .inr ⟨b, ha, Nat.lt_of_lt_of_le hlt hb.size, fun q hq => (hb.cell (p := ⟨b, q, none⟩) hlt).trans (hc q hq)⟩
theorem EnsOwn.spot {w : World} {base n c : Nat} {a : Option Addr} {xs : List En} (h : EnsOwn w base (.slice a n c) xs) (hn : n = xs.length) : Spot w a n := by
  subst hn
  rcases h.2 with ⟨_, h0⟩ | ⟨g, cap, cur, h1, _, hg, hle, _, hsz, _⟩
  · exact .inl h0
  · cases h1
    refine .inr ⟨g, rfl, (Array.getElem?_eq_some_iff.1 hg).1, fun q hq => ?_, fun q => frozen_of_heap hg⟩
    rw [cell_of_heap hg]
    exact ⟨cur[q]'(by omega), Array.getElem?_eq_getElem _⟩
theorem EnsNew.spot {w W : World} {xs : List En} {a : Option Addr} (h : EnsNew w xs a W) : Spot W a xs.length := by
  obtain ⟨b, ha, _, hb, hf, hc⟩ := h.row
  refine .inr ⟨b, ha, hb, fun q hq => ?_, hf⟩
  have hi : q / 3 < xs.length := by omega
  have e : q = q / 3 * 3 + q % 3 := by omega
  have h1 := hc (q / 3) hi (q % 3) (by omega)
  rw [← e] at h1
  have h2 : q % 3 < (enCells xs[q / 3]).length := by simp [enCells]; omega
  exact ⟨(enCells xs[q / 3])[q % 3], by rw [h1, List.getElem?_eq_getElem h2]⟩
theorem Spot.kept {w w' : World} {a : Option Addr} {n : Nat} (h : Spot w a n) (hb : Below w.heap.size w w') : Spot w' a n := by
  rcases h with h0 | ⟨b, ha, hlt, hc, hf⟩
  · exact .inl h0
  · exact .inr ⟨b, ha, Nat.lt_of_lt_of_le hlt hb.size, fun q hq => by rw [hb.cell (p := ⟨b, q, none⟩) hlt]; exact hc q hq, fun q => by rw [hb.frozen (p := ⟨b, q, none⟩) hlt]; exact hf q⟩
/-- In mid-mark. -/
structure MkIn (w : World) (b n : Nat) (k0 : Int) (i : Nat) (W : World) : Prop where
  only : OnlyB b w W
  done : ∀ q, q < i * 3 → W.cell? ⟨b, q, none⟩ = some (.int .i64 (k0 + q))
  rest : ∀ q, q < n * 3 → ∃ u, W.cell? ⟨b, q, none⟩ = some u
theorem MkIn.next {w : World} {b n : Nat} {k0 : Int} {i : Nat} {W : World} (h : MkIn w b n k0 i W) (hi : i < n) : MkIn w b n k0 (i + 1) (set3 W b (i * 3) (.int .i64 (k0 + i * 3)) (.int .i64 (k0 + i * 3 + 1)) (.int .i64 (k0 + i * 3 + 1 + 1))) := by
  obtain ⟨u0, h0⟩ := h.rest (i * 3) (by omega)
  obtain ⟨u1, h1⟩ := h.rest (i * 3 + 1) (by omega)
  obtain ⟨u2, h2⟩ := h.rest (i * 3 + 2) (by omega)
  have key : ∀ q, q < (i + 1) * 3 → (set3 W b (i * 3) (.int .i64 (k0 + i * 3)) (.int .i64 (k0 + i * 3 + 1)) (.int .i64 (k0 + i * 3 + 1 + 1))).cell? ⟨b, q, none⟩ = some (.int .i64 (k0 + q)) := fun q hq => by
    by_cases c : q < i * 3
    · rw [set3_other _ _ _ _ _ _ _ (by omega)]
      exact h.done q c
    · obtain ⟨j, rfl⟩ : ∃ j, q = i * 3 + j := ⟨q - i * 3, by omega⟩
      have hj : j < 3 := by omega
      match j, hj with
      | 0, _ => rw [Nat.add_zero, set3_cell0 _ _ _ h0]; congr 2
      | 1, _ => rw [set3_cell1 _ _ _ h1]; congr 2; push_cast; omega
      | 2, _ => rw [set3_cell2 _ _ _ h2]; congr 2; push_cast; omega
  refine ⟨?_, key, fun q hq => ?_⟩
  · unfold set3
    exact ((h.only.set _ _).set _ _).set _ _
  · by_cases c : q < (i + 1) * 3
    · exact ⟨_, key q c⟩
    · rw [set3_other _ _ _ _ _ _ _ (by omega)]
      exact h.rest q hq
set_option maxHeartbeats 4000000 in
set_option maxRecDepth 100000 in
theorem mark_ens (n : Nat) (a : Option Addr) (cap : Nat) (k0 : Int) (hk0 : 0 ≤ k0 ∧ k0 ≤ 100000000) (hn : n ≤ 10000000) (w : World) (h : Spot w a n) :
    Calls Tryz.prog 20 #[.slice a n cap, .int .i64 k0] w fun e w' => e = .returned (.int .i64 (k0 + n * 3)) ∧ MarkPost w a n k0 w' := by
  rcases h with rfl | ⟨b, rfl, hb, hc, hf⟩
  · go_enter Tryz.func20, Tryz.ntmps20
    go_wp2
    go_loopw [1, 5] (fun k i wr => k = .int .i64 k0 ∧ i = .int .i64 (0 : Nat) ∧ Hid (wr = w)) (fun _ _ _ => 0)
    case atStart => exact ⟨rfl, rfl, (rfl : w = w)⟩
    case round =>
      obtain ⟨rfl, rfl, HW⟩ := hrel
      go_wp2
      go_ret
      exact ⟨ret_int (by simp), .inl ⟨rfl, HW.out⟩⟩
  · have HF : Hid (∀ q, w.frozen? ⟨b, q, none⟩ = false) := hf
    have HC : Hid (∀ q, q < n * 3 → ∃ u, w.cell? ⟨b, q, none⟩ = some u) := hc
    clear hf hc
    go_enter Tryz.func20, Tryz.ntmps20
    go_wp2
    go_loopw [1, 5] (fun k i wr => ∃ j : Nat, j ≤ n ∧ k = .int .i64 (k0 + j * 3) ∧ i = .int .i64 j ∧ Hid (MkIn w b n k0 j wr)) (fun _ i _ => n - (intOf i).toNat)
    case atStart => exact ⟨0, Nat.zero_le _, by simp, rfl, OnlyB.refl _ _, fun _ h => absurd h (by omega), HC.out⟩
    case round =>
      obtain ⟨j, hj, rfl, rfl, HI⟩ := hrel
      by_cases hlt : j < n
      · obtain ⟨u0, h0⟩ := HI.out.rest (j * 3) (by omega)
        obtain ⟨u1, h1⟩ := HI.out.rest (j * 3 + 1) (by omega)
        obtain ⟨u2, h2⟩ := HI.out.rest (j * 3 + 2) (by omega)
        have hfr : ∀ q, wr.frozen? ⟨b, q, none⟩ = false := fun q => (HI.out.only.froz q).trans (HF.out q)
        have HN : Hid (MkIn w b n k0 (j + 1) (set3 wr b (j * 3) (.int .i64 (k0 + j * 3)) (.int .i64 (k0 + j * 3 + 1)) (.int .i64 (k0 + j * 3 + 1 + 1)))) := HI.out.next hlt
        unfold set3 at HN
        go_wp2
        go_roundw
        case rel => exact ⟨j + 1, by omega, by go_num, by go_num, HN⟩
        case measure => simp [intOf]; omega
      · have e : j = n := by omega
        subst e
        have hsz := HI.out.only.size
        go_wp2
        go_ret
        exact ⟨rfl, .inr ⟨b, rfl, HI.out.only, by omega, HI.out.done⟩⟩
set_option maxHeartbeats 4000000 in
set_option maxRecDepth 100000 in
theorem held_ens (n : Nat) (a : Option Addr) (cap : Nat) (k0 : Int) (hk0 : 0 ≤ k0 ∧ k0 ≤ 100000000) (hn : n ≤ 10000000) (w : World) (h : Marks w a n k0) :
    Calls Tryz.prog 21 #[.slice a n cap, .int .i64 k0] w fun e w' => e = .returned (.int .i64 (k0 + n * 3)) ∧ w = w' := by
  rcases h with rfl | ⟨b, rfl, hb, hc⟩
  · go_enter Tryz.func21, Tryz.ntmps21
    go_wp2
    go_loop [1, 5] (fun k i => k = .int .i64 k0 ∧ i = .int .i64 (0 : Nat)) (fun _ _ => 0)
    case atStart => exact ⟨rfl, rfl⟩
    case round =>
      obtain ⟨rfl, rfl⟩ := hrel
      go_wp2
      go_ret
      exact ⟨ret_int (by simp), rfl⟩
  · have HC : Hid (∀ q, q < n * 3 → w.cell? ⟨b, q, none⟩ = some (.int .i64 (k0 + q))) := hc
    clear hc
    go_enter Tryz.func21, Tryz.ntmps21
    go_wp2
    go_loop [1, 5] (fun k i => ∃ j : Nat, j ≤ n ∧ k = .int .i64 (k0 + j * 3) ∧ i = .int .i64 j) (fun _ i => n - (intOf i).toNat)
    case atStart => exact ⟨0, Nat.zero_le _, by simp, rfl⟩
    case round =>
      obtain ⟨j, hj, rfl, rfl⟩ := hrel
      by_cases hlt : j < n
      · have h0 : w.cell? ⟨b, j * 3, none⟩ = some (.int .i64 (k0 + j * 3)) := by have := HC.out (j * 3) (by omega); rw [this]; congr 2
        have h1 : w.cell? ⟨b, j * 3 + 1, none⟩ = some (.int .i64 (k0 + j * 3 + 1)) := by have := HC.out (j * 3 + 1) (by omega); rw [this]; congr 2; push_cast; omega
        have h2 : w.cell? ⟨b, j * 3 + 2, none⟩ = some (.int .i64 (k0 + j * 3 + 1 + 1)) := by have := HC.out (j * 3 + 2) (by omega); rw [this]; congr 2; push_cast; omega
        go_wp2
        exact ⟨⟨j + 1, by omega, by go_num, by go_num⟩, by simp [intOf]; omega⟩
      · have e : j = n := by omega
        subst e
        go_wp2
        go_ret
        exact ⟨rfl, rfl⟩
end Go.Proofs.YteajcmkaoahbeaaGreatDoor
