/- Copies of events: the specification's, and the program's. Rows of events of one's own, to which others are put. l03Put: an event into a row. -/
import Derived.Test.YtobkinocaomcmaaGreatZEvOpen
import Derived.Deep.AppendSrc
import Derived.Deep.Upon
import Derived.Test.YtobkinocaomcmaaGreatZGrTo2
import Derived.BigQuiet
namespace Go.Proofs.YtobkinocaomcmaaGreat
open Go.RowKit

theorem owns_baseC {w : World} {base base' size n : Nat} {e : TypeId} {v : Value} {xs : List Value} (h : w.ownsRow base e size v n xs) (hb : base' ≤ base) : w.ownsRow base' e size v n xs := by
  refine ⟨h.1, ?_⟩
  rcases h.2 with h0 | ⟨g, cap, cur, h1, h2, r⟩
  · exact .inl h0
  · exact .inr ⟨g, cap, cur, h1, Nat.le_trans hb h2, r⟩
theorem own_sliceC {w : World} {base n : Nat} {e : TypeId} {v : Value} {xs : List Value} (h : w.ownsRow base e 1 v n xs) : ∃ a cap, v = .slice a n cap := by
  rcases h.2 with ⟨h1, h2⟩ | ⟨q, cp, _, h1, _⟩
  · exact ⟨none, 0, by rw [h1, h2]⟩
  · exact ⟨_, _, h1⟩
theorem nv_oneC (zs : List Int) : ∀ u ∈ nv zs, u.oneCell' = true := by
  intro u hu
  obtain ⟨_, _, rfl⟩ := List.mem_map.1 hu
  rfl
theorem nv_lenC (zs : List Int) : (nv zs).length = zs.length := by simp [nv]
/-- 'append(v, l...)', v of one's own, l a row of numbers that lies anywhere. -/
theorem wpList_append_numsC {P : Program} {w : World} {ops : Array Oper} {rest : List Oper} {o : Oper} {a : Act} {Q : Exit → Act → World → Prop} (hgd : o.guard = none) (s x : Operand) (t : TypeId)
    (ho : o.op = .call { callee := .builtin .append, args := #[s, x], argTypes := #[t, t] })
    (base : Nat) (e : TypeId) (i : TypeInfo) (z : Value) (bytes : Nat) (ht : P.underlying t = some (.slice e)) (hi : P.info? e = some i) (hz : i.zero = some z)
    (hsize : i.size = 1) (hby : i.bytes = bytes) (hzs : z.cells.size = 1)
    (v : Value) (n : Nat) (xs : List Value) (hs : a.eval s = v) (hown : w.ownsRow base e 1 v n xs)
    (p : Option Addr) (cap : Nat) (zs : List Int) (hn : NumsAt w p zs) (hx : a.eval x = .slice p zs.length cap)
    (h63 : n + zs.length ≤ maxLen) (hbytes : (n + zs.length) * bytes ≤ 140737488355328) (hbase : base ≤ w.heap.size)
    (h : ∀ v' w', w'.ownsRow base e 1 v' (n + zs.length) (xs ++ nv zs) → w.grownBy w' v.ownBlock → wpList P ops Q rest (a.put o.dst v') w') : wpList P ops Q (o :: rest) a w := by
  by_cases hp : 0 < zs.length
  · obtain ⟨b, off, rfl, hb, hc⟩ := hn.2 hp
    refine wpList_append_own w hgd s x t ho base e i z 1 bytes ht hi hz hsize hby hzs (by decide) v n xs hs hown ⟨b, off, none⟩ zs.length cap (nv zs) hx (by simp [nv]) (fun j u hj => ?_) (nv_oneC zs) h63 hbytes hbase (fun v' w' h1 h2 _ => h v' w' h1 h2)
    rw [Addr.add_lit]
    have hjl : j < zs.length := by
      rcases Nat.lt_or_ge j zs.length with h | h
      · exact h
      · rw [List.getElem?_eq_none (by rw [nv_lenC]; exact h)] at hj; cases hj
    rw [hc j hjl, ← hj]
    simp [nv, hjl]
  · have h0 : zs = [] := List.eq_nil_of_length_eq_zero (by omega)
    subst h0
    refine wpList_plain hgd fun K hK => ?_
    have hrun : (Builtin.append_ #[t, t] o.type #[v, .slice p 0 cap]).run P w = .ok v w := by
      rcases hown.2 with ⟨rfl, h0⟩ | ⟨g, c, cur, rfl, hbg, hg, hcc, _⟩
      · cases p
        · exact run_append_nothing w t t o.type e i ht hi none 0 0 (Nat.le_refl _) _ (Src.ofNil w ht cap)
        · exact run_append_nothing w t t o.type e i ht hi none 0 0 (Nat.le_refl _) _ (Src.ofSlice w ht _ 0 cap [] (by simp) (fun j u h => by simp at h) (fun u h => by cases h))
      · cases p
        · exact run_append_nothing w t t o.type e i ht hi _ n c hcc _ (Src.ofNil w ht cap)
        · exact run_append_nothing w t t o.type e i ht hi _ n c hcc _ (Src.ofSlice w ht _ 0 cap [] (by simp) (fun j u h => by simp at h) (fun u h => by cases h))
    unfold Oper.wp
    simp [execOp, ho, resolve, invoke, builtin, hs, hx, hrun, Result.andThen]
    exact hK _ _ (h v w (by simpa [nv] using hown) (World.grownBy.refl _ _))

theorem new_blockC (w : World) (o : Obj) (k : Nat) (hk : w.heap.size = k) : (w.alloc o).heap[k]? = some o := hk ▸ (MapKept.heap_alloc w o).1
theorem three_newC {w w1 : World} {A B C : Obj} {x : Option Nat} (hg : (((w.alloc A).alloc B).alloc C).grownBy w1 x) (hx : x = some (w.heap.size + 1 + 1)) : w1.heap[w.heap.size]? = some A ∧ w1.heap[w.heap.size + 1]? = some B ∧ Below w.heap.size w w1 := by
  subst hx
  have s1 : (w.alloc A).heap.size = w.heap.size + 1 := by simp
  have s2 : ((w.alloc A).alloc B).heap.size = w.heap.size + 2 := by simp
  have s3 : (((w.alloc A).alloc B).alloc C).heap.size = w.heap.size + 3 := by simp
  refine ⟨?_, ?_, ?_⟩
  · rw [hg.block _ (by omega) (by simp; omega), Below.heap_alloc _ _ _ (by omega), Below.heap_alloc _ _ _ (by omega)]
    exact (MapKept.heap_alloc w _).1
  · rw [hg.block _ (by omega) (by simp), Below.heap_alloc _ _ _ (by omega)]
    exact new_blockC _ _ _ s1
  · refine ((((Below.refl _ _).alloc (Nat.le_refl _) _).alloc (by omega) _).alloc (by omega) _).grown hg (by omega) (fun k hk => ?_)
    cases hk
    omega
/-- A copy of an event: its numbers in a row of its own. -/
def CopyPostC (v : Ev) (w : World) (e : Ending) (w' : World) : Prop :=
  ∃ (a : Option Addr) (cap : Nat), e = .returned (.agg #[.int .i64 v.id, .int .i64 v.room, .int .i64 v.author, .int .i64 v.kind, .int .i64 v.key, .int .i64 v.n, .string v.text, .slice a v.prev.length cap, .int .i64 v.time]) ∧ w'.ownsRow w.heap.size 2 1 (.slice a v.prev.length cap) v.prev.length (nv v.prev) ∧ Below w.heap.size w w'
set_option maxHeartbeats 1000000 in
set_option maxRecDepth 100000 in
theorem copy_specC (v : Ev) (a : Option Addr) (cap : Nat) (w : World) (hn : NumsAt w a v.prev) :
    Calls Tryz.prog 119 #[.agg #[.int .i64 v.id, .int .i64 v.room, .int .i64 v.author, .int .i64 v.kind, .int .i64 v.key, .int .i64 v.n, .string v.text, .slice a v.prev.length cap, .int .i64 v.time]] w (CopyPostC v w) := by
  obtain ⟨i0, hi, hz0, hz1, hz2⟩ := info_parts Tryz.info2
  have HN : Hid (NumsAt w a v.prev) := hn
  have hl := hn.1
  clear hn
  go_enter Tryz.func119, Tryz.ntmps119
  go_wp2_with (at_builtin; refine wpList_append_numsC rfl (.tmp 3) (.tmp 5) 25 rfl (w.heap.size + 2) 2 i0 (.int .i64 0) 8 Tryz.underlying25 hi hz0 hz1 hz2 rfl _ 0 [] rfl ⟨rfl, .inr ⟨w.heap.size + 1 + 1, 0, #[], rfl, Nat.le_refl _, (new_blockC _ _ _ (by simp)), Nat.le_refl _, by decide, rfl, rfl⟩⟩ a cap v.prev (HN.out.kept ((((Below.refl _ _).alloc (Nat.le_refl _) _).alloc (by simp) _).alloc (by simp; omega) _)) rfl (by unfold maxLen; omega) (by omega) (by simp) ?_; intro v1 w1 ho hg; rw [Nat.zero_add, List.nil_append] at ho; obtain ⟨a1, cap1, rfl⟩ := own_sliceC ho; obtain ⟨e0, e1, hb⟩ := three_newC hg rfl; have HB : Hid (Below w.heap.size w w1) := hb; have HO : Hid (w1.ownsRow (w.heap.size + 2) 2 1 (.slice a1 v.prev.length cap1) v.prev.length (nv v.prev)) := ho; have hc0 : ∀ k, w1.cell? ⟨w.heap.size, k, none⟩ = _ := (fun k => cell_of_heap e0); have hc1 : ∀ k, w1.cell? ⟨w.heap.size + 1, k, none⟩ = _ := (fun k => cell_of_heap e1); have hf0 : ∀ k, w1.frozen? ⟨w.heap.size, k, none⟩ = false := (fun k => frozen_of_heap e0); have hf1 : ∀ k, w1.frozen? ⟨w.heap.size + 1, k, none⟩ = false := (fun k => frozen_of_heap e1); clear e0 e1 ho hg hb)
  refine bodyPost_ret (v := .agg #[.int .i64 v.id, .int .i64 v.room, .int .i64 v.author, .int .i64 v.kind, .int .i64 v.key, .int .i64 v.n, .string v.text, .slice a1 v.prev.length cap1, .int .i64 v.time]) (by simp [results, Tryz.results119, go_sem, hc1]) rfl ⟨a1, cap1, rfl, ?_, ?_⟩
  · have h0 : w.heap.size < w.heap.size + 2 := by omega
    have h1 : w.heap.size + 1 < w.heap.size + 2 := by omega
    exact owns_baseC (ownsRow_setCell_below (ownsRow_setCell_below (ownsRow_setCell_below (ownsRow_setCell_below (ownsRow_setCell_below (ownsRow_setCell_below (ownsRow_setCell_below (ownsRow_setCell_below (ownsRow_setCell_below (ownsRow_setCell_below HO.out (a := ⟨w.heap.size, 7, none⟩) h0 _) (a := ⟨w.heap.size + 1, 0, none⟩) h1 _) (a := ⟨w.heap.size + 1, 1, none⟩) h1 _) (a := ⟨w.heap.size + 1, 2, none⟩) h1 _) (a := ⟨w.heap.size + 1, 3, none⟩) h1 _) (a := ⟨w.heap.size + 1, 4, none⟩) h1 _) (a := ⟨w.heap.size + 1, 5, none⟩) h1 _) (a := ⟨w.heap.size + 1, 6, none⟩) h1 _) (a := ⟨w.heap.size + 1, 7, none⟩) h1 _) (a := ⟨w.heap.size + 1, 8, none⟩) h1 _) (by omega)
  · repeat refine Below.setCell ?_ (by simp) _
    exact HB.out

end Go.Proofs.YtobkinocaomcmaaGreat
namespace Go.Proofs.YtobkinocaomcmaaGreat
open Go.RowKit

/-- The row alone, without what its events point to. -/
structure EmsRow (w : World) (a : Option Addr) (es : List Em) : Prop where
  len : es.length ≤ 1048576
  row : 0 < es.length → ∃ b off, a = some ⟨b, off, none⟩ ∧ b < w.heap.size ∧ ∀ i (h : i < es.length) j, j < 9 → w.cell? ⟨b, off + (i * 9 + j), none⟩ = (emCells es[i])[j]?
theorem EvsAt.ems {w : World} {a : Option Addr} {es : List Em} (h : EvsAt w a es) : EmsRow w a es := ⟨h.len, h.row⟩
theorem EmsRow.evs {w : World} {a : Option Addr} {es : List Em} (h : EmsRow w a es) (hn : ∀ m ∈ es, NumsAt w m.p m.v.prev) : EvsAt w a es := ⟨h.len, h.row, hn⟩
def mcs (xs : List Em) : List Value := xs.flatMap emCells
theorem mcs_nil : mcs [] = [] := rfl
theorem mcs_append (xs ys : List Em) : mcs (xs ++ ys) = mcs xs ++ mcs ys := by simp [mcs]
theorem mcs_one_cons (x : Em) : mcs [x] = emCells x := by simp [mcs]
theorem mcs_len : ∀ xs : List Em, (mcs xs).length = xs.length * 9
  | [] => rfl
  | x :: xs => by
    have := mcs_len xs
    simp only [mcs, List.flatMap_cons, List.length_append, List.length_cons] at this ⊢
    simp only [emCells, List.length_cons, List.length_nil]
    omega
theorem mcs_get : ∀ {xs : List Em} {i : Nat} (h : i < xs.length) {j : Nat}, j < 9 → (mcs xs)[i * 9 + j]? = (emCells xs[i])[j]?
  | x :: xs, 0, _, j, hj => by
    simp only [mcs, List.flatMap_cons, Nat.zero_mul, Nat.zero_add, List.getElem_cons_zero]
    rw [List.getElem?_append_left (by simpa [emCells] using hj)]
  | x :: xs, i + 1, h, j, hj => by
    have ih := mcs_get (xs := xs) (i := i) (by simpa using h) hj
    simp only [mcs, List.flatMap_cons, List.getElem_cons_succ] at ih ⊢
    rw [List.getElem?_append_right (by simp [emCells]; omega), ← ih]
    congr 1
    simp [emCells]
    omega
theorem mcs_one (xs : List Em) : ∀ u ∈ mcs xs, u.oneCell' = true := by
  intro u hu
  obtain ⟨x, _, hx⟩ := List.mem_flatMap.1 hu
  simp only [emCells, List.mem_cons, List.not_mem_nil, or_false] at hx
  rcases hx with rfl | rfl | rfl | rfl | rfl | rfl | rfl | rfl | rfl <;> rfl
theorem mcs_cell {xs : List Em} {q : Nat} {u : Value} (h : (mcs xs)[q]? = some u) : ∃ i j, ∃ hi : i < xs.length, j < 9 ∧ q = i * 9 + j ∧ (emCells xs[i])[j]? = some u := by
  have hq : q < (mcs xs).length := by
    rcases Nat.lt_or_ge q (mcs xs).length with h1 | h1
    · exact h1
    · rw [List.getElem?_eq_none h1] at h; cases h
  rw [mcs_len] at hq
  have hi : q / 9 < xs.length := by omega
  have hj : q % 9 < 9 := by omega
  have e : q = q / 9 * 9 + q % 9 := by omega
  refine ⟨q / 9, q % 9, hi, hj, e, ?_⟩
  rw [← mcs_get hi hj, ← e]
  exact h
/-- A row of events of one's own. -/
def EmsOwn (w : World) (base : Nat) (v : Value) (xs : List Em) : Prop := w.ownsRow base 37 9 v xs.length (mcs xs)
theorem EmsOwn.at {w : World} {base : Nat} {v : Value} {xs : List Em} (h : EmsOwn w base v xs) (hl : xs.length ≤ 1048576) : ∃ a c, v = .slice a xs.length c ∧ xs.length ≤ c ∧ EmsRow w a xs ∧ ((a = none ∧ c = 0) ∨ ∃ g, a = some ⟨g, 0, none⟩ ∧ base ≤ g) := by
  rcases h.2 with ⟨rfl, h0⟩ | ⟨g, cap, cur, rfl, hb, hg, hle, _, hsz, ht⟩
  · exact ⟨none, 0, by rw [h0], by omega, ⟨hl, fun hp => absurd h0 (by omega)⟩, .inl ⟨rfl, rfl⟩⟩
  · refine ⟨_, cap, rfl, hle, ⟨hl, fun hp => ⟨g, 0, rfl, (Array.getElem?_eq_some_iff.1 hg).1, fun i hi j hj => ?_⟩⟩, .inr ⟨g, rfl, hb⟩⟩
    rw [cell_of_heap hg, Nat.zero_add, ← mcs_get hi hj, ← ht, List.getElem?_take_of_lt (by omega), Array.getElem?_toList]
theorem EmsOwn.below {w w' : World} {base : Nat} {v : Value} {xs : List Em} (h : EmsOwn w base v xs) (hg : w.grownBy w' v.ownBlock) (hbase : base ≤ w.heap.size) : Below base w w' := by
  refine ⟨hg.os, hg.tape, hg.output, hg.size, fun k hk => hg.block k (by omega) ?_⟩
  rcases h.2 with ⟨rfl, _⟩ | ⟨g, cap, cur, rfl, hb, _⟩
  · exact fun e => by cases e
  · intro e
    have e2 : k = g := by simpa [Value.ownBlock] using e
    omega
theorem EmsOwn.kept {w w' : World} {base : Nat} {v : Value} {xs : List Em} (h : EmsOwn w base v xs) (hb : Below w.heap.size w w') : EmsOwn w' base v xs := by
  refine ⟨h.1, ?_⟩
  rcases h.2 with h0 | ⟨g, cap, cur, h1, h2, h3, r⟩
  · exact .inl h0
  · exact .inr ⟨g, cap, cur, h1, h2, (hb.block g (Array.getElem?_eq_some_iff.1 h3).1).trans h3, r⟩
theorem EmsOwn.nil (w : World) (base : Nat) : EmsOwn w base (.slice none 0 0) [] := ⟨rfl, .inl ⟨rfl, rfl⟩⟩
theorem EmsOwn.made (w : World) {base : Nat} (hb : base ≤ w.heap.size) : EmsOwn (w.alloc (.cells #[] 37)) base (.slice (some ⟨w.heap.size, 0, none⟩) 0 0) [] :=
  ⟨rfl, .inr ⟨w.heap.size, 0, #[], rfl, hb, (MapKept.heap_alloc w _).1, Nat.le_refl _, by unfold maxLen; omega, rfl, rfl⟩⟩
/-- 'append(v, l...)', v of one's own, l a row of events that lies anywhere. -/
theorem wpList_append_ems {w : World} {ops : Array Oper} {rest : List Oper} {o : Oper} {a : Act} {Q : Exit → Act → World → Prop} (hgd : o.guard = none) (s x : Operand) (t : TypeId)
    (ho : o.op = .call { callee := .builtin .append, args := #[s, x], argTypes := #[t, t] })
    (i : TypeInfo) (z : Value) (ht : Tryz.prog.underlying t = some (.slice 37)) (hi : Tryz.prog.info? 37 = some i) (hz : i.zero = some z)
    (hsize : i.size = 9) (hby : i.bytes = 96) (hzs : z.cells.size = 9)
    (base : Nat) (v : Value) (xs : List Em) (hs : a.eval s = v) (hown : EmsOwn w base v xs)
    (p : Option Addr) (cap : Nat) (ys : List Em) (hn : EmsRow w p ys) (hx : a.eval x = .slice p ys.length cap)
    (hb : xs.length + ys.length ≤ 1000000) (hbase : base ≤ w.heap.size)
    (h : ∀ v' w', EmsOwn w' base v' (xs ++ ys) → Below base w w' → (v ≠ .slice none 0 0 → v' ≠ .slice none 0 0) → w.grownBy w' v.ownBlock → wpList Tryz.prog ops Q rest (a.put o.dst v') w') : wpList Tryz.prog ops Q (o :: rest) a w := by
  by_cases hp : 0 < ys.length
  · obtain ⟨b, off, rfl, hb', hc⟩ := hn.row hp
    refine wpList_append_own w hgd s x t ho base _ i z 9 96 ht hi hz hsize hby hzs (by decide) v xs.length (mcs xs) hs hown ⟨b, off, none⟩ ys.length cap (mcs ys) hx (mcs_len ys) (fun j u hj => ?_) (mcs_one ys) (by unfold maxLen; omega) (by omega) hbase (fun v' w' h1 h2 h3 => h v' w' ?_ (hown.below h2 hbase) (fun hv e => hv (h3.1 e).1) h2)
    · rw [Addr.add_lit]
      obtain ⟨q, r, hq, hr, rfl, hu⟩ := mcs_cell hj
      rw [hc q hq r hr, hu]
    · unfold EmsOwn
      rw [mcs_append, List.length_append]
      exact h1
  · have h0 : ys = [] := List.eq_nil_of_length_eq_zero (by omega)
    subst h0
    refine wpList_plain hgd fun K hK => ?_
    have hrun : (Builtin.append_ #[t, t] o.type #[v, .slice p 0 cap]).run Tryz.prog w = .ok v w := by
      rcases hown.2 with ⟨rfl, h0⟩ | ⟨g, c, cur, rfl, hbg, hg, hcc, _⟩
      · cases p
        · exact run_append_nothing w t t o.type _ i ht hi none 0 0 (Nat.le_refl _) _ (Src.ofNil w ht cap)
        · exact run_append_nothing w t t o.type _ i ht hi none 0 0 (Nat.le_refl _) _ (Src.ofSlice w ht _ 0 cap [] (by simp) (fun j u h => by simp at h) (fun u h => by cases h))
      · cases p
        · exact run_append_nothing w t t o.type _ i ht hi _ _ c hcc _ (Src.ofNil w ht cap)
        · exact run_append_nothing w t t o.type _ i ht hi _ _ c hcc _ (Src.ofSlice w ht _ 0 cap [] (by simp) (fun j u h => by simp at h) (fun u h => by cases h))
    unfold Oper.wp
    simp [execOp, ho, resolve, invoke, builtin, hs, hx, hrun, Result.andThen]
    exact hK _ _ (h v w (by simpa using hown) (Below.refl _ _) id (World.grownBy.refl _ _))
theorem rowI_kept {w w' : World} {base n : Nat} {v : Value} {xs : List Value} (h : w.ownsRow base 2 1 v n xs) (hb : Below w.heap.size w w') : w'.ownsRow base 2 1 v n xs := by
  refine ⟨h.1, ?_⟩
  rcases h.2 with h0 | ⟨g, cap, cur, h1, h2, h3, r⟩
  · exact .inl h0
  · exact .inr ⟨g, cap, cur, h1, h2, (hb.block g (Array.getElem?_eq_some_iff.1 h3).1).trans h3, r⟩
theorem rowI_far {W : World} {base b2 n : Nat} {v v2 : Value} {rs : List Em} {xs : List Value} (h : EmsOwn W base v rs) (h2 : W.ownsRow b2 2 1 v2 n xs) {g : Nat} (hg : v2.ownBlock = some g) : v.ownBlock ≠ some g := by
  intro e
  rcases h.2 with ⟨rfl, _⟩ | ⟨q, cap, cur, rfl, _, k3, _⟩
  · cases e
  · rcases h2.2 with ⟨rfl, _⟩ | ⟨q2, cap2, cur2, rfl, _, m3, _⟩
    · cases hg
    · have e1 : q = g := by simpa [Value.ownBlock] using e
      have e2 : q2 = g := by simpa [Value.ownBlock] using hg
      subst e1
      subst e2
      rw [k3] at m3
      simp at m3
theorem rowI_grown {w w' : World} {base n : Nat} {v v2 : Value} {xs : List Value} (h : w.ownsRow base 2 1 v n xs) (hg : w.grownBy w' v2.ownBlock) (hne : ∀ g, v.ownBlock = some g → v2.ownBlock ≠ some g) : w'.ownsRow base 2 1 v n xs := by
  refine ⟨h.1, ?_⟩
  rcases h.2 with h0 | ⟨g, cap, cur, rfl, h2, h3, r⟩
  · exact .inl h0
  · exact .inr ⟨g, cap, cur, rfl, h2, (hg.block g (Array.getElem?_eq_some_iff.1 h3).1 (fun e => hne g rfl e.symm)).trans h3, r⟩
theorem rowI_app {w w' : World} {base b2 n : Nat} {v v2 : Value} {rs : List Em} {xs : List Value} (h : EmsOwn w base v rs) (h2 : w.ownsRow b2 2 1 v2 n xs) (hg : w.grownBy w' v.ownBlock) : w'.ownsRow b2 2 1 v2 n xs := rowI_grown h2 hg fun _ hq => rowI_far h h2 hq
theorem emsRow_one {w : World} {b : Nat} {m : Em} {t : TypeId} (h : w.heap[b]? = some (.cells (emCells m).toArray t (0, 0))) : EmsRow w (some ⟨b, 0, none⟩) [m] := by
  refine ⟨by simp, fun _ => ⟨b, 0, rfl, (Array.getElem?_eq_some_iff.1 h).1, fun i hi j hj => ?_⟩⟩
  obtain rfl : i = 0 := by simpa using hi
  rw [cell_of_heap h]
  simp only [Nat.zero_mul, Nat.zero_add, List.getElem_cons_zero]
  simp
theorem EmsRow.take {w : World} {a : Option Addr} {xs : List Em} (h : EmsRow w a xs) (k : Nat) : EmsRow w a (xs.take k) := by
  refine ⟨Nat.le_trans (List.length_take_le' k xs) h.len, fun hp => ?_⟩
  rw [List.length_take] at hp
  obtain ⟨b, off, ha, hb, hc⟩ := h.row (by omega)
  refine ⟨b, off, ha, hb, fun i hi j hj => ?_⟩
  rw [List.length_take] at hi
  rw [List.getElem_take]
  exact hc i (by omega) j hj
theorem EmsRow.drop {w : World} {b off : Nat} {xs : List Em} (h : EmsRow w (some ⟨b, off, none⟩) xs) (k : Nat) : EmsRow w (some ⟨b, off + k * 9, none⟩) (xs.drop k) := by
  refine ⟨Nat.le_trans (by simp) h.len, fun hp => ?_⟩
  rw [List.length_drop] at hp
  obtain ⟨b', off', ha, hb, hc⟩ := h.row (by omega)
  cases ha
  refine ⟨b, off + k * 9, rfl, hb, fun i hi j hj => ?_⟩
  rw [List.length_drop] at hi
  rw [List.getElem_drop]
  have := hc (k + i) (by omega) j hj
  rw [← this]
  congr 2
  omega
theorem EmsRow.empty {w : World} (p : Option Addr) : EmsRow w p [] := ⟨by simp, fun h => absurd h (Nat.lt_irrefl 0)⟩
end Go.Proofs.YtobkinocaomcmaaGreat
namespace Go.Proofs.YtobkinocaomcmaaGreat
open Go.RowKit

def placeM (l : List Em) (id : Int) : Nat := (l.takeWhile fun e => decide (e.v.id < id)).length
theorem placeM_le (l : List Em) (x : Int) : placeM l x ≤ l.length := (List.takeWhile_sublist _).length_le
theorem placeM_eq {id : Int} : ∀ {l : List Em} {k : Nat}, k ≤ l.length → (∀ i (h : i < l.length), i < k → l[i].v.id < id) → (∀ h : k < l.length, ¬ l[k].v.id < id) → placeM l id = k
  | [], k, hk, _, _ => by simp at hk; subst hk; rfl
  | y :: l, 0, _, _, h2 => by
    have := h2 (by simp)
    unfold placeM
    rw [List.takeWhile_cons_of_neg (by simpa using this)]
    rfl
  | y :: l, k + 1, hk, h1, h2 => by
    have h0 := h1 0 (by simp) (by omega)
    unfold placeM
    rw [List.takeWhile_cons_of_pos (by simpa using h0), List.length_cons]
    congr 1
    exact placeM_eq (l := l) (by simpa using hk) (fun i h hi => h1 (i + 1) (by simpa using h) (by omega)) (fun h => h2 (by simpa using h))
theorem below_drewN3 {k : Nat} {w W : World} (h : Below k w W) (n : Nat) : Below k w (W.drewN n) := ⟨h.os, h.tape, h.output, h.size, h.block⟩
theorem row_numsAt {w : World} {base c : Nat} {a : Option Addr} {zs : List Int} (h : w.ownsRow base 2 1 (.slice a zs.length c) zs.length (nv zs)) (hl : zs.length ≤ 1048576) : NumsAt w a zs := by
  refine ⟨hl, fun hp => ?_⟩
  rcases h.2 with ⟨_, h0⟩ | ⟨g, cap, cur, h1, h2, h3, h4, h5, h6, h7⟩
  · omega
  · refine ⟨g, 0, by injection h1, (Array.getElem?_eq_some_iff.1 h3).1, fun j hj => ?_⟩
    rw [Nat.zero_add, cell_of_heap h3, ← Array.getElem?_toList]
    have e1 : (cur.toList.take (zs.length * 1))[j]? = (nv zs)[j]? := by rw [h7]
    rw [List.getElem?_take_of_lt (by omega)] at e1
    rw [e1]
    simp [nv, hj]
/-- The event's variable, and the row, in mid-call. -/
structure PutM (w : World) (x : Em) (a : Option Addr) (l : List Em) (W : World) : Prop where
  below : Below w.heap.size w W
  box : W.heap[w.heap.size]? = some (.cells #[.int .i64 x.v.id, .int .i64 x.v.room, .int .i64 x.v.author, .int .i64 x.v.kind, .int .i64 x.v.key, .int .i64 x.v.n, .string x.v.text, .slice x.p x.v.prev.length x.c, .int .i64 x.v.time] 37 (0, 0))
  row : EmsRow W a l
  num : NumsAt W x.p x.v.prev
theorem EmsRow.kept {w w' : World} {a : Option Addr} {es : List Em} (h : EmsRow w a es) (hb : Below w.heap.size w w') : EmsRow w' a es := by
  refine ⟨h.len, fun hl => ?_⟩
  obtain ⟨b, off, ha, hbb, hc⟩ := h.row hl
  exact ⟨b, off, ha, Nat.lt_of_lt_of_le hbb hb.size, fun i hi j hj => (hb.cell (p := ⟨b, off + (i * 9 + j), none⟩) hbb).trans (hc i hi j hj)⟩
theorem PutM.lt {w : World} {x : Em} {a : Option Addr} {l : List Em} {W : World} (h : PutM w x a l W) : w.heap.size < W.heap.size := (Array.getElem?_eq_some_iff.1 h.box).1
theorem PutM.on {w : World} {x : Em} {a : Option Addr} {l : List Em} {W W' : World} (h : PutM w x a l W) (hb : Below W.heap.size W W') : PutM w x a l W' := ⟨h.below.trans (hb.mono h.below.size), (hb.block _ h.lt).trans h.box, h.row.kept hb, h.num.kept hb⟩
set_option maxHeartbeats 8000000 in
set_option maxRecDepth 100000 in
theorem put03_some (l : List Em) (x : Em) (g1 c1 : Nat) (w : World) (h : EmsRow w (some ⟨g1, 0, none⟩) l) (hx : NumsAt w x.p x.v.prev) (hl : l.length ≤ 900000) (hc1 : l.length ≤ c1) :
    Calls Tryz.prog 87 #[.slice (some ⟨g1, 0, none⟩) l.length c1, .agg #[.int .i64 x.v.id, .int .i64 x.v.room, .int .i64 x.v.author, .int .i64 x.v.kind, .int .i64 x.v.key, .int .i64 x.v.n, .string x.v.text, .slice x.p x.v.prev.length x.c, .int .i64 x.v.time]] w fun e w' => ∃ v a6 c6, e = .returned v ∧ EmsOwn w' w.heap.size v (l.take (placeM l x.v.id) ++ [Em.mk x.v a6 c6] ++ l.drop (placeM l x.v.id)) ∧ Below w.heap.size w w' ∧ w'.ownsRow w.heap.size 2 1 (.slice a6 x.v.prev.length c6) x.v.prev.length (nv x.v.prev) := by
  obtain ⟨i0, hi, hz0, hz1, hz2⟩ := info_parts Tryz.infoEv
  have hxl : x.v.prev.length ≤ 1048576 := hx.1
  have HI1 : Hid (PutM w x (some ⟨g1, 0, none⟩) l (w.alloc (.cells #[.int .i64 x.v.id, .int .i64 x.v.room, .int .i64 x.v.author, .int .i64 x.v.kind, .int .i64 x.v.key, .int .i64 x.v.n, .string x.v.text, .slice x.p x.v.prev.length x.c, .int .i64 x.v.time] 37))) := ⟨(Below.refl _ _).alloc (Nat.le_refl _) _, (MapKept.heap_alloc w _).1, h.kept ((Below.refl _ _).alloc (Nat.le_refl _) _), hx.kept ((Below.refl _ _).alloc (Nat.le_refl _) _)⟩
  clear h hx
  go_enter Tryz.func87, Tryz.ntmps87
  go_wp2
  go_loopw [5] (fun i wr => ∃ k : Nat, k ≤ l.length ∧ i = .int .i64 k ∧ Hid ((∀ q (h : q < l.length), q < k → l[q].v.id < x.v.id) ∧ PutM w x (some ⟨g1, 0, none⟩) l wr)) (fun i _ => l.length - (intOf i).toNat)
  case atStart => exact ⟨0, Nat.zero_le _, rfl, fun _ _ h => absurd h (Nat.not_lt_zero _), HI1.out⟩
  case round =>
    clear HI1
    obtain ⟨k, hk, rfl, HI⟩ := hrel
    have HQ : Hid (∀ n, PutM w x (some ⟨g1, 0, none⟩) l (wr.drewN n)) := fun n => HI.out.2.on (below_drewN3 (Below.refl _ _) n)
    by_cases hlt : k < l.length
    · have hkl : decide ((k : Int) < (l.length : Int)) = true := decide_eq_true (by omega)
      obtain ⟨b, off, hbo, hbb, hcell⟩ := HI.out.2.row.row (by omega)
      obtain ⟨rfl, rfl⟩ : g1 = b ∧ 0 = off := by simpa using hbo
      have hc0 : wr.cell? ⟨g1, k * 9, none⟩ = some (.int .i64 l[k].v.id) := by have := hcell k hlt 0 (by omega); rwa [Nat.zero_add] at this
      have hx0 : wr.cell? ⟨w.heap.size, 0, none⟩ = some (.int .i64 x.v.id) := cell_of_heap HI.out.2.box
      clear hcell hbo
      by_cases hless : l[k].v.id < x.v.id
      · have hd : decide (l[k].v.id < x.v.id) = true := decide_eq_true hless
        have HN : Hid (∀ q (h : q < l.length), q < k + 1 → l[q].v.id < x.v.id) := fun q h hq => by
          by_cases e : q = k
          · subst e
            exact hless
          · exact HI.out.1 q h (by omega)
        go_wp2
        go_quiet (fail)
        go_wp2
        go_roundw
        case rel => exact ⟨k + 1, by omega, by go_num, HN.out, HQ.out nq⟩
        case measure => simp [intOf]; omega
      · have hd : decide (l[k].v.id < x.v.id) = false := decide_eq_false hless
        have HPT : Hid (placeM l x.v.id = k) := placeM_eq hk HI.out.1 (fun _ => hless)
        go_wp2
        go_quiet (fail)
        obtain ⟨W9, HW9⟩ : ∃ W, Hid (W = wr.drewN nq) := ⟨wr.drewN nq, (rfl : wr.drewN nq = _)⟩
        have HP : Hid (PutM w x (some ⟨g1, 0, none⟩) l W9) := by rw [HW9.out]; exact HQ.out nq
        rw [← HW9.out]
        have hfull : ¬ k = c1 := by omega
        have hck1 : ¬ c1 - k = 0 := by omega
        have hzw : w.heap.size < W9.heap.size := HP.out.lt
        have hq0 : W9.cell? ⟨w.heap.size, 0, none⟩ = some (.int .i64 x.v.id) := cell_of_heap HP.out.box
        have hq1 : W9.cell? ⟨w.heap.size, 1, none⟩ = some (.int .i64 x.v.room) := cell_of_heap HP.out.box
        have hq2 : W9.cell? ⟨w.heap.size, 2, none⟩ = some (.int .i64 x.v.author) := cell_of_heap HP.out.box
        have hq3 : W9.cell? ⟨w.heap.size, 3, none⟩ = some (.int .i64 x.v.kind) := cell_of_heap HP.out.box
        have hq4 : W9.cell? ⟨w.heap.size, 4, none⟩ = some (.int .i64 x.v.key) := cell_of_heap HP.out.box
        have hq5 : W9.cell? ⟨w.heap.size, 5, none⟩ = some (.int .i64 x.v.n) := cell_of_heap HP.out.box
        have hq6 : W9.cell? ⟨w.heap.size, 6, none⟩ = some (.string x.v.text) := cell_of_heap HP.out.box
        have hq7 : W9.cell? ⟨w.heap.size, 7, none⟩ = some (.slice x.p x.v.prev.length x.c) := cell_of_heap HP.out.box
        have hq8 : W9.cell? ⟨w.heap.size, 8, none⟩ = some (.int .i64 x.v.time) := cell_of_heap HP.out.box
        have HM : Hid (PutM w x (some ⟨g1, 0, none⟩) l (W9.alloc (.cells #[] 37)) ∧ EmsOwn (W9.alloc (.cells #[] 37)) W9.heap.size (.slice (some ⟨W9.heap.size, 0, none⟩) 0 0) [] ∧ Below W9.heap.size W9 (W9.alloc (.cells #[] 37))) := ⟨HP.out.on ((Below.refl _ _).alloc (Nat.le_refl _) _), EmsOwn.made _ (Nat.le_refl _), (Below.refl _ _).alloc (Nat.le_refl _) _⟩
        have htk : (l.take k).length = k := by simp; omega
        have hdk : (l.drop k).length = l.length - k := by simp
        have HPW : Hid (∀ W, Below W9.heap.size W9 W → PutM w x (some ⟨g1, 0, none⟩) l W) := fun W hW => HP.out.on hW
        go_wp2_with (first | (have hq := H2; clear hq; at_builtin; refine wpList_append_ems rfl _ _ 30 rfl i0 _ Tryz.underlying30 hi hz0 hz1 hz2 rfl W9.heap.size _ ([] ++ (l.take k) ++ [Em.mk x.v a6 c6]) rfl H2.out.1 (some ⟨g1, k * 9, none⟩) (c1 - k) (l.drop k) (by have := ((HPW.out _ H2.out.2).row).drop k; rwa [Nat.zero_add] at this) (by rw [hdk]; rfl) (by simp; omega) (by omega) ?_; intro v5 w5 hO hb _ hg; have HN5 : Hid (w5.ownsRow W9.heap.size 2 1 (.slice a6 x.v.prev.length c6) x.v.prev.length (nv x.v.prev)) := rowI_app H2.out.1 HN4.out hg; have H3 : Hid (EmsOwn w5 W9.heap.size v5 ([] ++ (l.take k) ++ [Em.mk x.v a6 c6] ++ (l.drop k)) ∧ Below W9.heap.size W9 w5) := ⟨hO, H2.out.2.trans hb⟩; clear hO hb) | (have hq := H1c; clear hq; at_builtin; refine wpList_append_ems rfl _ _ 30 rfl i0 _ Tryz.underlying30 hi hz0 hz1 hz2 rfl W9.heap.size _ ([] ++ (l.take k)) rfl (HA3.out _).1 _ _ [Em.mk x.v a6 c6] (emsRow_one (m := (Em.mk x.v a6 c6)) (MapKept.heap_alloc _ _).1) rfl (by simp; omega) (by simp; omega) ?_; intro v4 w4 hO hb _ hg; have HN4 : Hid (w4.ownsRow W9.heap.size 2 1 (.slice a6 x.v.prev.length c6) x.v.prev.length (nv x.v.prev)) := rowI_app (HA3.out _).1 (HN6.out _) hg; have H2 : Hid (EmsOwn w4 W9.heap.size v4 ([] ++ (l.take k) ++ [Em.mk x.v a6 c6]) ∧ Below W9.heap.size W9 w4) := ⟨hO, (HA3.out _).2.trans hb⟩; have hs4 := H2.out.2.size; clear hO hb) | (go_at_call 119; refine (copy_specC x.v x.p x.c w3 hn3).mono ?_; rintro e w6 ⟨a6, c6, rfl, ho6, hb6⟩; have H1c : Hid (EmsOwn w6 W9.heap.size v3 ([] ++ (l.take k)) ∧ Below W9.heap.size W9 w6) := ⟨H1.out.1.kept hb6, H1.out.2.trans (hb6.mono H1.out.2.size)⟩; have HN6 : Hid (∀ o, (w6.alloc o).ownsRow W9.heap.size 2 1 (.slice a6 x.v.prev.length c6) x.v.prev.length (nv x.v.prev)) := (fun o => rowI_kept (owns_baseC ho6 H1.out.2.size) ((Below.refl _ _).alloc (Nat.le_refl _) _)); have hs6 := H1c.out.2.size; have HA3 : Hid (∀ o, EmsOwn (w6.alloc o) W9.heap.size v3 ([] ++ (l.take k)) ∧ Below W9.heap.size W9 (w6.alloc o)) := fun o => ⟨H1c.out.1.kept ((Below.refl _ _).alloc (Nat.le_refl _) _), H1c.out.2.alloc H1c.out.2.size _⟩; clear ho6 hb6) | (at_builtin; refine wpList_append_ems rfl _ _ 30 rfl i0 _ Tryz.underlying30 hi hz0 hz1 hz2 rfl W9.heap.size _ [] rfl HM.out.2.1 (some ⟨g1, 0, none⟩) c1 (l.take k) (HM.out.1.row.take k) (by rw [htk]; rfl) (by simp; omega) (by simp) ?_; intro v3 w3 hO hb _ _; have H1 : Hid (EmsOwn w3 W9.heap.size v3 ([] ++ (l.take k)) ∧ Below W9.heap.size W9 w3) := ⟨hO, HM.out.2.2.trans hb⟩; have hp3 := HPW.out _ H1.out.2; have hn3 : NumsAt w3 x.p x.v.prev := hp3.num; have hz3 : w.heap.size < w3.heap.size := hp3.lt; have hs3 := H1.out.2.size; have hr0 : w3.cell? ⟨w.heap.size, 0, none⟩ = some (.int .i64 x.v.id) := cell_of_heap hp3.box; have hr1 : w3.cell? ⟨w.heap.size, 1, none⟩ = some (.int .i64 x.v.room) := cell_of_heap hp3.box; have hr2 : w3.cell? ⟨w.heap.size, 2, none⟩ = some (.int .i64 x.v.author) := cell_of_heap hp3.box; have hr3 : w3.cell? ⟨w.heap.size, 3, none⟩ = some (.int .i64 x.v.kind) := cell_of_heap hp3.box; have hr4 : w3.cell? ⟨w.heap.size, 4, none⟩ = some (.int .i64 x.v.key) := cell_of_heap hp3.box; have hr5 : w3.cell? ⟨w.heap.size, 5, none⟩ = some (.int .i64 x.v.n) := cell_of_heap hp3.box; have hr6 : w3.cell? ⟨w.heap.size, 6, none⟩ = some (.string x.v.text) := cell_of_heap hp3.box; have hr7 : w3.cell? ⟨w.heap.size, 7, none⟩ = some (.slice x.p x.v.prev.length x.c) := cell_of_heap hp3.box; have hr8 : w3.cell? ⟨w.heap.size, 8, none⟩ = some (.int .i64 x.v.time) := cell_of_heap hp3.box; clear hO hb))
        go_ret
        exact ⟨_, a6, c6, rfl, by rw [HPT.out]; exact owns_baseC H3.out.1 (by omega), HP.out.below.trans (H3.out.2.mono (by omega)), owns_baseC HN5.out (by omega)⟩
    · have hkl : decide ((k : Int) < (l.length : Int)) = false := decide_eq_false (by omega)
      have HPT : Hid (placeM l x.v.id = k) := placeM_eq hk HI.out.1 (fun h => absurd h hlt)
      go_wp2
      go_quiet (fail)
      obtain ⟨W9, HW9⟩ : ∃ W, Hid (W = wr.drewN nq) := ⟨wr.drewN nq, (rfl : wr.drewN nq = _)⟩
      have HP : Hid (PutM w x (some ⟨g1, 0, none⟩) l W9) := by rw [HW9.out]; exact HQ.out nq
      rw [← HW9.out]
      by_cases hfull : k = c1
      · skip
        subst hfull
        have hck0 : k - k = 0 := by omega
        have hzw : w.heap.size < W9.heap.size := HP.out.lt
        have hq0 : W9.cell? ⟨w.heap.size, 0, none⟩ = some (.int .i64 x.v.id) := cell_of_heap HP.out.box
        have hq1 : W9.cell? ⟨w.heap.size, 1, none⟩ = some (.int .i64 x.v.room) := cell_of_heap HP.out.box
        have hq2 : W9.cell? ⟨w.heap.size, 2, none⟩ = some (.int .i64 x.v.author) := cell_of_heap HP.out.box
        have hq3 : W9.cell? ⟨w.heap.size, 3, none⟩ = some (.int .i64 x.v.kind) := cell_of_heap HP.out.box
        have hq4 : W9.cell? ⟨w.heap.size, 4, none⟩ = some (.int .i64 x.v.key) := cell_of_heap HP.out.box
        have hq5 : W9.cell? ⟨w.heap.size, 5, none⟩ = some (.int .i64 x.v.n) := cell_of_heap HP.out.box
        have hq6 : W9.cell? ⟨w.heap.size, 6, none⟩ = some (.string x.v.text) := cell_of_heap HP.out.box
        have hq7 : W9.cell? ⟨w.heap.size, 7, none⟩ = some (.slice x.p x.v.prev.length x.c) := cell_of_heap HP.out.box
        have hq8 : W9.cell? ⟨w.heap.size, 8, none⟩ = some (.int .i64 x.v.time) := cell_of_heap HP.out.box
        have HM : Hid (PutM w x (some ⟨g1, 0, none⟩) l (W9.alloc (.cells #[] 37)) ∧ EmsOwn (W9.alloc (.cells #[] 37)) W9.heap.size (.slice (some ⟨W9.heap.size, 0, none⟩) 0 0) [] ∧ Below W9.heap.size W9 (W9.alloc (.cells #[] 37))) := ⟨HP.out.on ((Below.refl _ _).alloc (Nat.le_refl _) _), EmsOwn.made _ (Nat.le_refl _), (Below.refl _ _).alloc (Nat.le_refl _) _⟩
        have htk : (l.take k).length = k := by simp; omega
        have hdk : (l.drop k).length = l.length - k := by simp
        have HPW : Hid (∀ W, Below W9.heap.size W9 W → PutM w x (some ⟨g1, 0, none⟩) l W) := fun W hW => HP.out.on hW
        go_wp2_with (first | (have hq := H2; clear hq; at_builtin; refine wpList_append_ems rfl _ _ 30 rfl i0 _ Tryz.underlying30 hi hz0 hz1 hz2 rfl W9.heap.size _ ([] ++ (l.take k) ++ [Em.mk x.v a6 c6]) rfl H2.out.1 (some ⟨g1, 0, none⟩) 0 (l.drop k) (by rw [List.drop_eq_nil_of_le (by omega)]; exact EmsRow.empty _) (by rw [hdk, show l.length - k = 0 by omega]; rfl) (by simp; omega) (by omega) ?_; intro v5 w5 hO hb _ hg; have HN5 : Hid (w5.ownsRow W9.heap.size 2 1 (.slice a6 x.v.prev.length c6) x.v.prev.length (nv x.v.prev)) := rowI_app H2.out.1 HN4.out hg; have H3 : Hid (EmsOwn w5 W9.heap.size v5 ([] ++ (l.take k) ++ [Em.mk x.v a6 c6] ++ (l.drop k)) ∧ Below W9.heap.size W9 w5) := ⟨hO, H2.out.2.trans hb⟩; clear hO hb) | (have hq := H1c; clear hq; at_builtin; refine wpList_append_ems rfl _ _ 30 rfl i0 _ Tryz.underlying30 hi hz0 hz1 hz2 rfl W9.heap.size _ ([] ++ (l.take k)) rfl (HA3.out _).1 _ _ [Em.mk x.v a6 c6] (emsRow_one (m := (Em.mk x.v a6 c6)) (MapKept.heap_alloc _ _).1) rfl (by simp; omega) (by simp; omega) ?_; intro v4 w4 hO hb _ hg; have HN4 : Hid (w4.ownsRow W9.heap.size 2 1 (.slice a6 x.v.prev.length c6) x.v.prev.length (nv x.v.prev)) := rowI_app (HA3.out _).1 (HN6.out _) hg; have H2 : Hid (EmsOwn w4 W9.heap.size v4 ([] ++ (l.take k) ++ [Em.mk x.v a6 c6]) ∧ Below W9.heap.size W9 w4) := ⟨hO, (HA3.out _).2.trans hb⟩; have hs4 := H2.out.2.size; clear hO hb) | (go_at_call 119; refine (copy_specC x.v x.p x.c w3 hn3).mono ?_; rintro e w6 ⟨a6, c6, rfl, ho6, hb6⟩; have H1c : Hid (EmsOwn w6 W9.heap.size v3 ([] ++ (l.take k)) ∧ Below W9.heap.size W9 w6) := ⟨H1.out.1.kept hb6, H1.out.2.trans (hb6.mono H1.out.2.size)⟩; have HN6 : Hid (∀ o, (w6.alloc o).ownsRow W9.heap.size 2 1 (.slice a6 x.v.prev.length c6) x.v.prev.length (nv x.v.prev)) := (fun o => rowI_kept (owns_baseC ho6 H1.out.2.size) ((Below.refl _ _).alloc (Nat.le_refl _) _)); have hs6 := H1c.out.2.size; have HA3 : Hid (∀ o, EmsOwn (w6.alloc o) W9.heap.size v3 ([] ++ (l.take k)) ∧ Below W9.heap.size W9 (w6.alloc o)) := fun o => ⟨H1c.out.1.kept ((Below.refl _ _).alloc (Nat.le_refl _) _), H1c.out.2.alloc H1c.out.2.size _⟩; clear ho6 hb6) | (at_builtin; refine wpList_append_ems rfl _ _ 30 rfl i0 _ Tryz.underlying30 hi hz0 hz1 hz2 rfl W9.heap.size _ [] rfl HM.out.2.1 (some ⟨g1, 0, none⟩) k (l.take k) (HM.out.1.row.take k) (by rw [htk]; rfl) (by simp; omega) (by simp) ?_; intro v3 w3 hO hb _ _; have H1 : Hid (EmsOwn w3 W9.heap.size v3 ([] ++ (l.take k)) ∧ Below W9.heap.size W9 w3) := ⟨hO, HM.out.2.2.trans hb⟩; have hp3 := HPW.out _ H1.out.2; have hn3 : NumsAt w3 x.p x.v.prev := hp3.num; have hz3 : w.heap.size < w3.heap.size := hp3.lt; have hs3 := H1.out.2.size; have hr0 : w3.cell? ⟨w.heap.size, 0, none⟩ = some (.int .i64 x.v.id) := cell_of_heap hp3.box; have hr1 : w3.cell? ⟨w.heap.size, 1, none⟩ = some (.int .i64 x.v.room) := cell_of_heap hp3.box; have hr2 : w3.cell? ⟨w.heap.size, 2, none⟩ = some (.int .i64 x.v.author) := cell_of_heap hp3.box; have hr3 : w3.cell? ⟨w.heap.size, 3, none⟩ = some (.int .i64 x.v.kind) := cell_of_heap hp3.box; have hr4 : w3.cell? ⟨w.heap.size, 4, none⟩ = some (.int .i64 x.v.key) := cell_of_heap hp3.box; have hr5 : w3.cell? ⟨w.heap.size, 5, none⟩ = some (.int .i64 x.v.n) := cell_of_heap hp3.box; have hr6 : w3.cell? ⟨w.heap.size, 6, none⟩ = some (.string x.v.text) := cell_of_heap hp3.box; have hr7 : w3.cell? ⟨w.heap.size, 7, none⟩ = some (.slice x.p x.v.prev.length x.c) := cell_of_heap hp3.box; have hr8 : w3.cell? ⟨w.heap.size, 8, none⟩ = some (.int .i64 x.v.time) := cell_of_heap hp3.box; clear hO hb))
        go_ret
        exact ⟨_, a6, c6, rfl, by rw [HPT.out]; exact owns_baseC H3.out.1 (by omega), HP.out.below.trans (H3.out.2.mono (by omega)), owns_baseC HN5.out (by omega)⟩
      · skip
        have hck1 : ¬ c1 - k = 0 := by omega
        have hzw : w.heap.size < W9.heap.size := HP.out.lt
        have hq0 : W9.cell? ⟨w.heap.size, 0, none⟩ = some (.int .i64 x.v.id) := cell_of_heap HP.out.box
        have hq1 : W9.cell? ⟨w.heap.size, 1, none⟩ = some (.int .i64 x.v.room) := cell_of_heap HP.out.box
        have hq2 : W9.cell? ⟨w.heap.size, 2, none⟩ = some (.int .i64 x.v.author) := cell_of_heap HP.out.box
        have hq3 : W9.cell? ⟨w.heap.size, 3, none⟩ = some (.int .i64 x.v.kind) := cell_of_heap HP.out.box
        have hq4 : W9.cell? ⟨w.heap.size, 4, none⟩ = some (.int .i64 x.v.key) := cell_of_heap HP.out.box
        have hq5 : W9.cell? ⟨w.heap.size, 5, none⟩ = some (.int .i64 x.v.n) := cell_of_heap HP.out.box
        have hq6 : W9.cell? ⟨w.heap.size, 6, none⟩ = some (.string x.v.text) := cell_of_heap HP.out.box
        have hq7 : W9.cell? ⟨w.heap.size, 7, none⟩ = some (.slice x.p x.v.prev.length x.c) := cell_of_heap HP.out.box
        have hq8 : W9.cell? ⟨w.heap.size, 8, none⟩ = some (.int .i64 x.v.time) := cell_of_heap HP.out.box
        have HM : Hid (PutM w x (some ⟨g1, 0, none⟩) l (W9.alloc (.cells #[] 37)) ∧ EmsOwn (W9.alloc (.cells #[] 37)) W9.heap.size (.slice (some ⟨W9.heap.size, 0, none⟩) 0 0) [] ∧ Below W9.heap.size W9 (W9.alloc (.cells #[] 37))) := ⟨HP.out.on ((Below.refl _ _).alloc (Nat.le_refl _) _), EmsOwn.made _ (Nat.le_refl _), (Below.refl _ _).alloc (Nat.le_refl _) _⟩
        have htk : (l.take k).length = k := by simp; omega
        have hdk : (l.drop k).length = l.length - k := by simp
        have HPW : Hid (∀ W, Below W9.heap.size W9 W → PutM w x (some ⟨g1, 0, none⟩) l W) := fun W hW => HP.out.on hW
        go_wp2_with (first | (have hq := H2; clear hq; at_builtin; refine wpList_append_ems rfl _ _ 30 rfl i0 _ Tryz.underlying30 hi hz0 hz1 hz2 rfl W9.heap.size _ ([] ++ (l.take k) ++ [Em.mk x.v a6 c6]) rfl H2.out.1 (some ⟨g1, k * 9, none⟩) (c1 - k) (l.drop k) (by have := ((HPW.out _ H2.out.2).row).drop k; rwa [Nat.zero_add] at this) (by rw [hdk]; rfl) (by simp; omega) (by omega) ?_; intro v5 w5 hO hb _ hg; have HN5 : Hid (w5.ownsRow W9.heap.size 2 1 (.slice a6 x.v.prev.length c6) x.v.prev.length (nv x.v.prev)) := rowI_app H2.out.1 HN4.out hg; have H3 : Hid (EmsOwn w5 W9.heap.size v5 ([] ++ (l.take k) ++ [Em.mk x.v a6 c6] ++ (l.drop k)) ∧ Below W9.heap.size W9 w5) := ⟨hO, H2.out.2.trans hb⟩; clear hO hb) | (have hq := H1c; clear hq; at_builtin; refine wpList_append_ems rfl _ _ 30 rfl i0 _ Tryz.underlying30 hi hz0 hz1 hz2 rfl W9.heap.size _ ([] ++ (l.take k)) rfl (HA3.out _).1 _ _ [Em.mk x.v a6 c6] (emsRow_one (m := (Em.mk x.v a6 c6)) (MapKept.heap_alloc _ _).1) rfl (by simp; omega) (by simp; omega) ?_; intro v4 w4 hO hb _ hg; have HN4 : Hid (w4.ownsRow W9.heap.size 2 1 (.slice a6 x.v.prev.length c6) x.v.prev.length (nv x.v.prev)) := rowI_app (HA3.out _).1 (HN6.out _) hg; have H2 : Hid (EmsOwn w4 W9.heap.size v4 ([] ++ (l.take k) ++ [Em.mk x.v a6 c6]) ∧ Below W9.heap.size W9 w4) := ⟨hO, (HA3.out _).2.trans hb⟩; have hs4 := H2.out.2.size; clear hO hb) | (go_at_call 119; refine (copy_specC x.v x.p x.c w3 hn3).mono ?_; rintro e w6 ⟨a6, c6, rfl, ho6, hb6⟩; have H1c : Hid (EmsOwn w6 W9.heap.size v3 ([] ++ (l.take k)) ∧ Below W9.heap.size W9 w6) := ⟨H1.out.1.kept hb6, H1.out.2.trans (hb6.mono H1.out.2.size)⟩; have HN6 : Hid (∀ o, (w6.alloc o).ownsRow W9.heap.size 2 1 (.slice a6 x.v.prev.length c6) x.v.prev.length (nv x.v.prev)) := (fun o => rowI_kept (owns_baseC ho6 H1.out.2.size) ((Below.refl _ _).alloc (Nat.le_refl _) _)); have hs6 := H1c.out.2.size; have HA3 : Hid (∀ o, EmsOwn (w6.alloc o) W9.heap.size v3 ([] ++ (l.take k)) ∧ Below W9.heap.size W9 (w6.alloc o)) := fun o => ⟨H1c.out.1.kept ((Below.refl _ _).alloc (Nat.le_refl _) _), H1c.out.2.alloc H1c.out.2.size _⟩; clear ho6 hb6) | (at_builtin; refine wpList_append_ems rfl _ _ 30 rfl i0 _ Tryz.underlying30 hi hz0 hz1 hz2 rfl W9.heap.size _ [] rfl HM.out.2.1 (some ⟨g1, 0, none⟩) c1 (l.take k) (HM.out.1.row.take k) (by rw [htk]; rfl) (by simp; omega) (by simp) ?_; intro v3 w3 hO hb _ _; have H1 : Hid (EmsOwn w3 W9.heap.size v3 ([] ++ (l.take k)) ∧ Below W9.heap.size W9 w3) := ⟨hO, HM.out.2.2.trans hb⟩; have hp3 := HPW.out _ H1.out.2; have hn3 : NumsAt w3 x.p x.v.prev := hp3.num; have hz3 : w.heap.size < w3.heap.size := hp3.lt; have hs3 := H1.out.2.size; have hr0 : w3.cell? ⟨w.heap.size, 0, none⟩ = some (.int .i64 x.v.id) := cell_of_heap hp3.box; have hr1 : w3.cell? ⟨w.heap.size, 1, none⟩ = some (.int .i64 x.v.room) := cell_of_heap hp3.box; have hr2 : w3.cell? ⟨w.heap.size, 2, none⟩ = some (.int .i64 x.v.author) := cell_of_heap hp3.box; have hr3 : w3.cell? ⟨w.heap.size, 3, none⟩ = some (.int .i64 x.v.kind) := cell_of_heap hp3.box; have hr4 : w3.cell? ⟨w.heap.size, 4, none⟩ = some (.int .i64 x.v.key) := cell_of_heap hp3.box; have hr5 : w3.cell? ⟨w.heap.size, 5, none⟩ = some (.int .i64 x.v.n) := cell_of_heap hp3.box; have hr6 : w3.cell? ⟨w.heap.size, 6, none⟩ = some (.string x.v.text) := cell_of_heap hp3.box; have hr7 : w3.cell? ⟨w.heap.size, 7, none⟩ = some (.slice x.p x.v.prev.length x.c) := cell_of_heap hp3.box; have hr8 : w3.cell? ⟨w.heap.size, 8, none⟩ = some (.int .i64 x.v.time) := cell_of_heap hp3.box; clear hO hb))
        go_ret
        exact ⟨_, a6, c6, rfl, by rw [HPT.out]; exact owns_baseC H3.out.1 (by omega), HP.out.below.trans (H3.out.2.mono (by omega)), owns_baseC HN5.out (by omega)⟩
set_option maxHeartbeats 8000000 in
set_option maxRecDepth 100000 in
theorem put03_nil (x : Em) (w : World) (hx : NumsAt w x.p x.v.prev) :
    Calls Tryz.prog 87 #[.slice none 0 0, .agg #[.int .i64 x.v.id, .int .i64 x.v.room, .int .i64 x.v.author, .int .i64 x.v.kind, .int .i64 x.v.key, .int .i64 x.v.n, .string x.v.text, .slice x.p x.v.prev.length x.c, .int .i64 x.v.time]] w fun e w' => ∃ v a6 c6, e = .returned v ∧ EmsOwn w' w.heap.size v [Em.mk x.v a6 c6] ∧ Below w.heap.size w w' ∧ w'.ownsRow w.heap.size 2 1 (.slice a6 x.v.prev.length c6) x.v.prev.length (nv x.v.prev) := by
  obtain ⟨i0, hi, hz0, hz1, hz2⟩ := info_parts Tryz.infoEv
  have hxl : x.v.prev.length ≤ 1048576 := hx.1
  have HI1 : Hid (PutM w x none [] (w.alloc (.cells #[.int .i64 x.v.id, .int .i64 x.v.room, .int .i64 x.v.author, .int .i64 x.v.kind, .int .i64 x.v.key, .int .i64 x.v.n, .string x.v.text, .slice x.p x.v.prev.length x.c, .int .i64 x.v.time] 37))) := ⟨(Below.refl _ _).alloc (Nat.le_refl _) _, (MapKept.heap_alloc w _).1, EmsRow.empty _, hx.kept ((Below.refl _ _).alloc (Nat.le_refl _) _)⟩
  clear hx
  go_enter Tryz.func87, Tryz.ntmps87
  go_wp2
  go_loopw [5] (fun i wr => i = .int .i64 (0 : Nat) ∧ Hid (PutM w x none [] wr)) (fun _ _ => 0)
  case atStart => exact ⟨rfl, HI1⟩
  case round =>
    clear HI1
    obtain ⟨rfl, HI⟩ := hrel
    have HQ : Hid (∀ n, PutM w x none [] (wr.drewN n)) := fun n => HI.out.on (below_drewN3 (Below.refl _ _) n)
    have hkl : decide (((0 : Nat) : Int) < ((0 : Nat) : Int)) = false := decide_eq_false (by omega)
    go_wp2
    go_quiet (fail)
    obtain ⟨W9, HW9⟩ : ∃ W, Hid (W = wr.drewN nq) := ⟨wr.drewN nq, (rfl : wr.drewN nq = _)⟩
    have HP : Hid (PutM w x none [] W9) := by rw [HW9.out]; exact HQ.out nq
    rw [← HW9.out]
    have hzw : w.heap.size < W9.heap.size := HP.out.lt
    have hq0 : W9.cell? ⟨w.heap.size, 0, none⟩ = some (.int .i64 x.v.id) := cell_of_heap HP.out.box
    have hq1 : W9.cell? ⟨w.heap.size, 1, none⟩ = some (.int .i64 x.v.room) := cell_of_heap HP.out.box
    have hq2 : W9.cell? ⟨w.heap.size, 2, none⟩ = some (.int .i64 x.v.author) := cell_of_heap HP.out.box
    have hq3 : W9.cell? ⟨w.heap.size, 3, none⟩ = some (.int .i64 x.v.kind) := cell_of_heap HP.out.box
    have hq4 : W9.cell? ⟨w.heap.size, 4, none⟩ = some (.int .i64 x.v.key) := cell_of_heap HP.out.box
    have hq5 : W9.cell? ⟨w.heap.size, 5, none⟩ = some (.int .i64 x.v.n) := cell_of_heap HP.out.box
    have hq6 : W9.cell? ⟨w.heap.size, 6, none⟩ = some (.string x.v.text) := cell_of_heap HP.out.box
    have hq7 : W9.cell? ⟨w.heap.size, 7, none⟩ = some (.slice x.p x.v.prev.length x.c) := cell_of_heap HP.out.box
    have hq8 : W9.cell? ⟨w.heap.size, 8, none⟩ = some (.int .i64 x.v.time) := cell_of_heap HP.out.box
    have HM : Hid (PutM w x none [] (W9.alloc (.cells #[] 37)) ∧ EmsOwn (W9.alloc (.cells #[] 37)) W9.heap.size (.slice (some ⟨W9.heap.size, 0, none⟩) 0 0) [] ∧ Below W9.heap.size W9 (W9.alloc (.cells #[] 37))) := ⟨HP.out.on ((Below.refl _ _).alloc (Nat.le_refl _) _), EmsOwn.made _ (Nat.le_refl _), (Below.refl _ _).alloc (Nat.le_refl _) _⟩
    have HPW : Hid (∀ W, Below W9.heap.size W9 W → PutM w x none [] W) := fun W hW => HP.out.on hW
    go_wp2_with (first | (have hq := H2; clear hq; at_builtin; refine wpList_append_ems rfl _ _ 30 rfl i0 _ Tryz.underlying30 hi hz0 hz1 hz2 rfl W9.heap.size _ ([] ++ [] ++ [Em.mk x.v a6 c6]) rfl H2.out.1 none 0 [] (EmsRow.empty _) (rfl) (by simp <;> omega) (by omega) ?_; intro v5 w5 hO hb _ hg; have HN5 : Hid (w5.ownsRow W9.heap.size 2 1 (.slice a6 x.v.prev.length c6) x.v.prev.length (nv x.v.prev)) := rowI_app H2.out.1 HN4.out hg; have H3 : Hid (EmsOwn w5 W9.heap.size v5 ([] ++ [] ++ [Em.mk x.v a6 c6] ++ []) ∧ Below W9.heap.size W9 w5) := ⟨hO, H2.out.2.trans hb⟩; clear hO hb) | (have hq := H1c; clear hq; at_builtin; refine wpList_append_ems rfl _ _ 30 rfl i0 _ Tryz.underlying30 hi hz0 hz1 hz2 rfl W9.heap.size _ ([] ++ []) rfl (HA3.out _).1 _ _ [Em.mk x.v a6 c6] (emsRow_one (m := (Em.mk x.v a6 c6)) (MapKept.heap_alloc _ _).1) rfl (by simp <;> omega) (by simp <;> omega) ?_; intro v4 w4 hO hb _ hg; have HN4 : Hid (w4.ownsRow W9.heap.size 2 1 (.slice a6 x.v.prev.length c6) x.v.prev.length (nv x.v.prev)) := rowI_app (HA3.out _).1 (HN6.out _) hg; have H2 : Hid (EmsOwn w4 W9.heap.size v4 ([] ++ [] ++ [Em.mk x.v a6 c6]) ∧ Below W9.heap.size W9 w4) := ⟨hO, (HA3.out _).2.trans hb⟩; have hs4 := H2.out.2.size; clear hO hb) | (go_at_call 119; refine (copy_specC x.v x.p x.c w3 hn3).mono ?_; rintro e w6 ⟨a6, c6, rfl, ho6, hb6⟩; have H1c : Hid (EmsOwn w6 W9.heap.size v3 ([] ++ []) ∧ Below W9.heap.size W9 w6) := ⟨H1.out.1.kept hb6, H1.out.2.trans (hb6.mono H1.out.2.size)⟩; have HN6 : Hid (∀ o, (w6.alloc o).ownsRow W9.heap.size 2 1 (.slice a6 x.v.prev.length c6) x.v.prev.length (nv x.v.prev)) := (fun o => rowI_kept (owns_baseC ho6 H1.out.2.size) ((Below.refl _ _).alloc (Nat.le_refl _) _)); have hs6 := H1c.out.2.size; have HA3 : Hid (∀ o, EmsOwn (w6.alloc o) W9.heap.size v3 ([] ++ []) ∧ Below W9.heap.size W9 (w6.alloc o)) := fun o => ⟨H1c.out.1.kept ((Below.refl _ _).alloc (Nat.le_refl _) _), H1c.out.2.alloc H1c.out.2.size _⟩; clear ho6 hb6) | (at_builtin; refine wpList_append_ems rfl _ _ 30 rfl i0 _ Tryz.underlying30 hi hz0 hz1 hz2 rfl W9.heap.size _ [] rfl HM.out.2.1 none 0 [] (EmsRow.empty _) (rfl) (by simp <;> omega) (by simp) ?_; intro v3 w3 hO hb _ _; have H1 : Hid (EmsOwn w3 W9.heap.size v3 ([] ++ []) ∧ Below W9.heap.size W9 w3) := ⟨hO, HM.out.2.2.trans hb⟩; have hp3 := HPW.out _ H1.out.2; have hn3 : NumsAt w3 x.p x.v.prev := hp3.num; have hz3 : w.heap.size < w3.heap.size := hp3.lt; have hs3 := H1.out.2.size; have hr0 : w3.cell? ⟨w.heap.size, 0, none⟩ = some (.int .i64 x.v.id) := cell_of_heap hp3.box; have hr1 : w3.cell? ⟨w.heap.size, 1, none⟩ = some (.int .i64 x.v.room) := cell_of_heap hp3.box; have hr2 : w3.cell? ⟨w.heap.size, 2, none⟩ = some (.int .i64 x.v.author) := cell_of_heap hp3.box; have hr3 : w3.cell? ⟨w.heap.size, 3, none⟩ = some (.int .i64 x.v.kind) := cell_of_heap hp3.box; have hr4 : w3.cell? ⟨w.heap.size, 4, none⟩ = some (.int .i64 x.v.key) := cell_of_heap hp3.box; have hr5 : w3.cell? ⟨w.heap.size, 5, none⟩ = some (.int .i64 x.v.n) := cell_of_heap hp3.box; have hr6 : w3.cell? ⟨w.heap.size, 6, none⟩ = some (.string x.v.text) := cell_of_heap hp3.box; have hr7 : w3.cell? ⟨w.heap.size, 7, none⟩ = some (.slice x.p x.v.prev.length x.c) := cell_of_heap hp3.box; have hr8 : w3.cell? ⟨w.heap.size, 8, none⟩ = some (.int .i64 x.v.time) := cell_of_heap hp3.box; clear hO hb))
    go_ret
    exact ⟨_, a6, c6, rfl, by exact owns_baseC H3.out.1 (by omega), HP.out.below.trans (H3.out.2.mono (by omega)), owns_baseC HN5.out (by omega)⟩
end Go.Proofs.YtobkinocaomcmaaGreat
