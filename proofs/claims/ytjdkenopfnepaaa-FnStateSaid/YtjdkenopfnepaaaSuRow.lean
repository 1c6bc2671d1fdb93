/- Rows of entries of one's own, to which others are put. -/
import Derived.Test.YtjdkenopfnepaaaSuPlain
import Derived.Test.YtjdkenopfnepaaaEvCopyS
namespace Go.Proofs.Ytjdkenopfnepaaa
open Go.RowKit

def ecs (xs : List En) : List Value := xs.flatMap enCells
theorem ecs_nil : ecs [] = [] := rfl
theorem ecs_append (xs ys : List En) : ecs (xs ++ ys) = ecs xs ++ ecs ys := by simp [ecs]
theorem ecs_one_cons (x : En) : ecs [x] = enCells x := by simp [ecs]
theorem ecs_len : ∀ xs : List En, (ecs xs).length = xs.length * 3
  | [] => rfl
  | x :: xs => by
    have := ecs_len xs
    simp only [ecs, List.flatMap_cons, List.length_append, List.length_cons] at this ⊢
    simp only [enCells, List.length_cons, List.length_nil]
    omega
theorem ecs_get : ∀ {xs : List En} {i : Nat} (h : i < xs.length) {j : Nat}, j < 3 → (ecs xs)[i * 3 + j]? = (enCells xs[i])[j]?
  | x :: xs, 0, _, j, hj => by
    simp only [ecs, List.flatMap_cons, Nat.zero_mul, Nat.zero_add, List.getElem_cons_zero]
    rw [List.getElem?_append_left (by simpa [enCells] using hj)]
  | x :: xs, i + 1, h, j, hj => by
    have ih := ecs_get (xs := xs) (i := i) (by simpa using h) hj
    simp only [ecs, List.flatMap_cons, List.getElem_cons_succ] at ih ⊢
    rw [List.getElem?_append_right (by simp [enCells]; omega), ← ih]
    congr 1
    simp [enCells]
    omega
theorem ecs_one (xs : List En) : ∀ u ∈ ecs xs, u.oneCell' = true := by
  intro u hu
  obtain ⟨x, _, hx⟩ := List.mem_flatMap.1 hu
  simp only [enCells, List.mem_cons, List.not_mem_nil, or_false] at hx
  rcases hx with rfl | rfl | rfl <;> rfl
theorem ecs_cell {xs : List En} {q : Nat} {u : Value} (h : (ecs xs)[q]? = some u) : ∃ i j, ∃ hi : i < xs.length, j < 3 ∧ q = i * 3 + j ∧ (enCells xs[i])[j]? = some u := by
  have hq : q < (ecs xs).length := by
    rcases Nat.lt_or_ge q (ecs xs).length with h1 | h1
    · exact h1
    · rw [List.getElem?_eq_none h1] at h; cases h
  rw [ecs_len] at hq
  have hi : q / 3 < xs.length := by omega
  have hj : q % 3 < 3 := by omega
  have e : q = q / 3 * 3 + q % 3 := by omega
  refine ⟨q / 3, q % 3, hi, hj, e, ?_⟩
  rw [← ecs_get hi hj, ← e]
  exact h
/-- A row of entries of one's own. -/
def EnsOwn (w : World) (base : Nat) (v : Value) (xs : List En) : Prop := w.ownsRow base 40 3 v xs.length (ecs xs)
theorem EnsOwn.at {w : World} {base : Nat} {v : Value} {xs : List En} (h : EnsOwn w base v xs) (hl : xs.length ≤ 1048576) : ∃ a c, v = .slice a xs.length c ∧ xs.length ≤ c ∧ EnsAt w a xs ∧ ((a = none ∧ c = 0) ∨ ∃ g, a = some ⟨g, 0, none⟩ ∧ base ≤ g) := by
  rcases h.2 with ⟨rfl, h0⟩ | ⟨g, cap, cur, rfl, hb, hg, hle, _, hsz, ht⟩
  · exact ⟨none, 0, by rw [h0], by omega, ⟨hl, fun hp => absurd h0 (by omega)⟩, .inl ⟨rfl, rfl⟩⟩
  · refine ⟨_, cap, rfl, hle, ⟨hl, fun hp => ⟨g, 0, rfl, (Array.getElem?_eq_some_iff.1 hg).1, fun i hi j hj => ?_⟩⟩, .inr ⟨g, rfl, hb⟩⟩
    rw [cell_of_heap hg, Nat.zero_add, ← ecs_get hi hj, ← ht, List.getElem?_take_of_lt (by omega), Array.getElem?_toList]
theorem EnsOwn.below {w w' : World} {base : Nat} {v : Value} {xs : List En} (h : EnsOwn w base v xs) (hg : w.grownBy w' v.ownBlock) (hbase : base ≤ w.heap.size) : Below base w w' := by
  refine ⟨hg.os, hg.tape, hg.output, hg.size, fun k hk => hg.block k (by omega) ?_⟩
  rcases h.2 with ⟨rfl, _⟩ | ⟨g, cap, cur, rfl, hb, _⟩
  · exact fun e => by cases e
  · intro e
    have e2 : k = g := by simpa [Value.ownBlock] using e
    omega
theorem EnsOwn.kept {w w' : World} {base : Nat} {v : Value} {xs : List En} (h : EnsOwn w base v xs) (hb : Below w.heap.size w w') : EnsOwn w' base v xs := by
  refine ⟨h.1, ?_⟩
  rcases h.2 with h0 | ⟨g, cap, cur, h1, h2, h3, r⟩
  · exact .inl h0
  · exact .inr ⟨g, cap, cur, h1, h2, (hb.block g (Array.getElem?_eq_some_iff.1 h3).1).trans h3, r⟩
theorem EnsOwn.nil (w : World) (base : Nat) : EnsOwn w base (.slice none 0 0) [] := ⟨rfl, .inl ⟨rfl, rfl⟩⟩
theorem EnsOwn.made (w : World) {base : Nat} (hb : base ≤ w.heap.size) : EnsOwn (w.alloc (.cells #[] 40)) base (.slice (some ⟨w.heap.size, 0, none⟩) 0 0) [] :=
  ⟨rfl, .inr ⟨w.heap.size, 0, #[], rfl, hb, (MapKept.heap_alloc w _).1, Nat.le_refl _, by unfold maxLen; omega, rfl, rfl⟩⟩
/-- 'append(v, l...)', v of one's own, l a row of entries that lies anywhere. -/
theorem wpList_append_ens {w : World} {ops : Array Oper} {rest : List Oper} {o : Oper} {a : Act} {Q : Exit → Act → World → Prop} (hgd : o.guard = none) (s x : Operand) (t : TypeId)
    (ho : o.op = .call { callee := .builtin .append, args := #[s, x], argTypes := #[t, t] })
    (i : TypeInfo) (z : Value) (ht : Try.prog.underlying t = some (.slice 40)) (hi : Try.prog.info? 40 = some i) (hz : i.zero = some z)
    (hsize : i.size = 3) (hby : i.bytes = 24) (hzs : z.cells.size = 3)
    (base : Nat) (v : Value) (xs : List En) (hs : a.eval s = v) (hown : EnsOwn w base v xs)
    (p : Option Addr) (cap : Nat) (ys : List En) (hn : EnsAt w p ys) (hx : a.eval x = .slice p ys.length cap)
    (hb : xs.length + ys.length ≤ 1000000) (hbase : base ≤ w.heap.size)
    (h : ∀ v' w', EnsOwn w' base v' (xs ++ ys) → Below base w w' → (v ≠ .slice none 0 0 → v' ≠ .slice none 0 0) → wpList Try.prog ops Q rest (a.put o.dst v') w') : wpList Try.prog ops Q (o :: rest) a w := by
  by_cases hp : 0 < ys.length
  · obtain ⟨b, off, rfl, hb', hc⟩ := hn.row hp
    refine wpList_append_own w hgd s x t ho base _ i z 3 24 ht hi hz hsize hby hzs (by decide) v xs.length (ecs xs) hs hown ⟨b, off, none⟩ ys.length cap (ecs ys) hx (ecs_len ys) (fun j u hj => ?_) (ecs_one ys) (by unfold maxLen; omega) (by omega) hbase (fun v' w' h1 h2 h3 => h v' w' ?_ (hown.below h2 hbase) (fun hv e => hv (h3.1 e).1))
    · rw [Addr.add_lit]
      obtain ⟨q, r, hq, hr, rfl, hu⟩ := ecs_cell hj
      rw [hc q hq r hr, hu]
    · unfold EnsOwn
      rw [ecs_append, List.length_append]
      exact h1
  · have h0 : ys = [] := List.eq_nil_of_length_eq_zero (by omega)
    subst h0
    refine wpList_plain hgd fun K hK => ?_
    have hrun : (Builtin.append_ #[t, t] o.type #[v, .slice p 0 cap]).run Try.prog w = .ok v w := by
      rcases hown.2 with ⟨rfl, h0⟩ | ⟨g, c, cur, rfl, hbg, hg, hcc, _⟩
      · cases p
        · exact run_append_nothing w t t o.type _ i ht hi none 0 0 (Nat.le_refl _) _ (Src.ofNil w ht cap)
        · exact run_append_nothing w t t o.type _ i ht hi none 0 0 (Nat.le_refl _) _ (Src.ofSlice w ht _ 0 cap [] (by simp) (fun j u h => by simp at h) (fun u h => by cases h))
      · cases p
        · exact run_append_nothing w t t o.type _ i ht hi _ _ c hcc _ (Src.ofNil w ht cap)
        · exact run_append_nothing w t t o.type _ i ht hi _ _ c hcc _ (Src.ofSlice w ht _ 0 cap [] (by simp) (fun j u h => by simp at h) (fun u h => by cases h))
    unfold Oper.wp
    simp [execOp, ho, resolve, invoke, builtin, hs, hx, hrun, Result.andThen]
    exact hK _ _ (h v w (by simpa using hown) (Below.refl _ _) id)
theorem ensAt_one {w : World} {b : Nat} {x : En} {t : TypeId} (h : w.heap[b]? = some (.cells #[.int .i64 x.kind, .int .i64 x.key, .int .i64 x.id] t (0, 0))) : EnsAt w (some ⟨b, 0, none⟩) [x] := by
  refine ⟨by simp, fun _ => ⟨b, 0, rfl, (Array.getElem?_eq_some_iff.1 h).1, fun i hi j hj => ?_⟩⟩
  obtain rfl : i = 0 := by simpa using hi
  rw [cell_of_heap h]
  simp only [Nat.zero_mul, Nat.zero_add, List.getElem_cons_zero, enCells]
  match j, hj with
  | 0, _ => rfl
  | 1, _ => rfl
  | 2, _ => rfl
theorem EnsAt.take {w : World} {a : Option Addr} {xs : List En} (h : EnsAt w a xs) (k : Nat) : EnsAt w a (xs.take k) := by
  refine ⟨Nat.le_trans (List.length_take_le' k xs) h.len, fun hp => ?_⟩
  rw [List.length_take] at hp
  obtain ⟨b, off, ha, hb, hc⟩ := h.row (by omega)
  refine ⟨b, off, ha, hb, fun i hi j hj => ?_⟩
  rw [List.length_take] at hi
  rw [List.getElem_take]
  exact hc i (by omega) j hj
theorem EnsAt.drop {w : World} {b off : Nat} {xs : List En} (h : EnsAt w (some ⟨b, off, none⟩) xs) (k : Nat) : EnsAt w (some ⟨b, off + k * 3, none⟩) (xs.drop k) := by
  refine ⟨Nat.le_trans (by simp) h.len, fun hp => ?_⟩
  rw [List.length_drop] at hp
  obtain ⟨b', off', ha, hb, hc⟩ := h.row (by omega)
  cases ha
  refine ⟨b, off + k * 3, rfl, hb, fun i hi j hj => ?_⟩
  rw [List.length_drop] at hi
  rw [List.getElem_drop]
  have := hc (k + i) (by omega) j hj
  rw [← this]
  congr 2
  omega
theorem EnsAt.empty {w : World} (p : Option Addr) : EnsAt w p [] := ⟨by simp, fun h => absurd h (Nat.lt_irrefl 0)⟩
end Go.Proofs.Ytjdkenopfnepaaa
