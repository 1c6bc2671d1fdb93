/- Copies of events: the specification's, and the program's. -/
import Derived.Test.YtobkinocaomcmaaGreatZEvOpen
import Derived.Deep.AppendSrc
import Derived.Deep.Upon
namespace Go.Proofs.YtobkinocaomcmaaGreat
open Go.RowKit

theorem owns_baseC {w : World} {base base' size n : Nat} {e : TypeId} {v : Value} {xs : List Value} (h : w.ownsRow base e size v n xs) (hb : base' ≤ base) : w.ownsRow base' e size v n xs := by
  refine ⟨h.1, ?_⟩
  rcases h.2 with h0 | ⟨g, cap, cur, h1, h2, r⟩
  · exact .inl h0
  · exact .inr ⟨g, cap, cur, h1, Nat.le_trans hb h2, r⟩
theorem own_sliceC {w : World} {base n : Nat} {e : TypeId} {v : Value} {xs : List Value} (h : w.ownsRow base e 1 v n xs) : ∃ a cap, v = .slice a n cap := by
  rcases h.2 with ⟨h1, h2⟩ | ⟨q, cp, _, h1, _⟩
  · exact ⟨none, 0, by rw [h1, h2]⟩
  · exact ⟨_, _, h1⟩
theorem nv_oneC (zs : List Int) : ∀ u ∈ nv zs, u.oneCell' = true := by
  intro u hu
  obtain ⟨_, _, rfl⟩ := List.mem_map.1 hu
  rfl
theorem nv_lenC (zs : List Int) : (nv zs).length = zs.length := by simp [nv]
/-- 'append(v, l...)', v of one's own, l a row of numbers that lies anywhere. -/
theorem wpList_append_numsC {P : Program} {w : World} {ops : Array Oper} {rest : List Oper} {o : Oper} {a : Act} {Q : Exit → Act → World → Prop} (hgd : o.guard = none) (s x : Operand) (t : TypeId)
    (ho : o.op = .call { callee := .builtin .append, args := #[s, x], argTypes := #[t, t] })
    (base : Nat) (e : TypeId) (i : TypeInfo) (z : Value) (bytes : Nat) (ht : P.underlying t = some (.slice e)) (hi : P.info? e = some i) (hz : i.zero = some z)
    (hsize : i.size = 1) (hby : i.bytes = bytes) (hzs : z.cells.size = 1)
    (v : Value) (n : Nat) (xs : List Value) (hs : a.eval s = v) (hown : w.ownsRow base e 1 v n xs)
    (p : Option Addr) (cap : Nat) (zs : List Int) (hn : NumsAt w p zs) (hx : a.eval x = .slice p zs.length cap)
    (h63 : n + zs.length ≤ maxLen) (hbytes : (n + zs.length) * bytes ≤ 140737488355328) (hbase : base ≤ w.heap.size)
    (h : ∀ v' w', w'.ownsRow base e 1 v' (n + zs.length) (xs ++ nv zs) → w.grownBy w' v.ownBlock → wpList P ops Q rest (a.put o.dst v') w') : wpList P ops Q (o :: rest) a w := by
  by_cases hp : 0 < zs.length
  · obtain ⟨b, off, rfl, hb, hc⟩ := hn.2 hp
    refine wpList_append_own w hgd s x t ho base e i z 1 bytes ht hi hz hsize hby hzs (by decide) v n xs hs hown ⟨b, off, none⟩ zs.length cap (nv zs) hx (by simp [nv]) (fun j u hj => ?_) (nv_oneC zs) h63 hbytes hbase (fun v' w' h1 h2 _ => h v' w' h1 h2)
    rw [Addr.add_lit]
    have hjl : j < zs.length := by
      rcases Nat.lt_or_ge j zs.length with h | h
      · exact h
      · rw [List.getElem?_eq_none (by rw [nv_lenC]; exact h)] at hj; cases hj
    rw [hc j hjl, ← hj]
    simp [nv, hjl]
  · have h0 : zs = [] := List.eq_nil_of_length_eq_zero (by omega)
    subst h0
    refine wpList_plain hgd fun K hK => ?_
    have hrun : (Builtin.append_ #[t, t] o.type #[v, .slice p 0 cap]).run P w = .ok v w := by
      rcases hown.2 with ⟨rfl, h0⟩ | ⟨g, c, cur, rfl, hbg, hg, hcc, _⟩
      · cases p
        · exact run_append_nothing w t t o.type e i ht hi none 0 0 (Nat.le_refl _) _ (Src.ofNil w ht cap)
        · exact run_append_nothing w t t o.type e i ht hi none 0 0 (Nat.le_refl _) _ (Src.ofSlice w ht _ 0 cap [] (by simp) (fun j u h => by simp at h) (fun u h => by cases h))
      · cases p
        · exact run_append_nothing w t t o.type e i ht hi _ n c hcc _ (Src.ofNil w ht cap)
        · exact run_append_nothing w t t o.type e i ht hi _ n c hcc _ (Src.ofSlice w ht _ 0 cap [] (by simp) (fun j u h => by simp at h) (fun u h => by cases h))
    unfold Oper.wp
    simp [execOp, ho, resolve, invoke, builtin, hs, hx, hrun, Result.andThen]
    exact hK _ _ (h v w (by simpa [nv] using hown) (World.grownBy.refl _ _))

theorem new_blockC (w : World) (o : Obj) (k : Nat) (hk : w.heap.size = k) : (w.alloc o).heap[k]? = some o := hk ▸ (MapKept.heap_alloc w o).1
theorem three_newC {w w1 : World} {A B C : Obj} {x : Option Nat} (hg : (((w.alloc A).alloc B).alloc C).grownBy w1 x) (hx : x = some (w.heap.size + 1 + 1)) : w1.heap[w.heap.size]? = some A ∧ w1.heap[w.heap.size + 1]? = some B ∧ Below w.heap.size w w1 := by
  subst hx
  have s1 : (w.alloc A).heap.size = w.heap.size + 1 := by simp
  have s2 : ((w.alloc A).alloc B).heap.size = w.heap.size + 2 := by simp
  have s3 : (((w.alloc A).alloc B).alloc C).heap.size = w.heap.size + 3 := by simp
  refine ⟨?_, ?_, ?_⟩
  · rw [hg.block _ (by omega) (by simp; omega), Below.heap_alloc _ _ _ (by omega), Below.heap_alloc _ _ _ (by omega)]
    exact (MapKept.heap_alloc w _).1
  · rw [hg.block _ (by omega) (by simp), Below.heap_alloc _ _ _ (by omega)]
    exact new_blockC _ _ _ s1
  · refine ((((Below.refl _ _).alloc (Nat.le_refl _) _).alloc (by omega) _).alloc (by omega) _).grown hg (by omega) (fun k hk => ?_)
    cases hk
    omega
/-- A copy of an event: its numbers in a row of its own. -/
def CopyPostC (v : Ev) (w : World) (e : Ending) (w' : World) : Prop :=
  ∃ (a : Option Addr) (cap : Nat), e = .returned (.agg #[.int .i64 v.id, .int .i64 v.room, .int .i64 v.author, .int .i64 v.kind, .int .i64 v.key, .int .i64 v.n, .string v.text, .slice a v.prev.length cap, .int .i64 v.time]) ∧ w'.ownsRow w.heap.size 2 1 (.slice a v.prev.length cap) v.prev.length (nv v.prev) ∧ Below w.heap.size w w'
set_option maxHeartbeats 1000000 in
set_option maxRecDepth 100000 in
theorem copy_specC (v : Ev) (a : Option Addr) (cap : Nat) (w : World) (hn : NumsAt w a v.prev) :
    Calls Tryz.prog 119 #[.agg #[.int .i64 v.id, .int .i64 v.room, .int .i64 v.author, .int .i64 v.kind, .int .i64 v.key, .int .i64 v.n, .string v.text, .slice a v.prev.length cap, .int .i64 v.time]] w (CopyPostC v w) := by
  obtain ⟨i0, hi, hz0, hz1, hz2⟩ := info_parts Tryz.info2
  have HN : Hid (NumsAt w a v.prev) := hn
  have hl := hn.1
  clear hn
  go_enter Tryz.func119, Tryz.ntmps119
  go_wp2_with (at_builtin; refine wpList_append_numsC rfl (.tmp 3) (.tmp 5) 25 rfl (w.heap.size + 2) 2 i0 (.int .i64 0) 8 Tryz.underlying25 hi hz0 hz1 hz2 rfl _ 0 [] rfl ⟨rfl, .inr ⟨w.heap.size + 1 + 1, 0, #[], rfl, Nat.le_refl _, (new_blockC _ _ _ (by simp)), Nat.le_refl _, by decide, rfl, rfl⟩⟩ a cap v.prev (HN.out.kept ((((Below.refl _ _).alloc (Nat.le_refl _) _).alloc (by simp) _).alloc (by simp; omega) _)) rfl (by unfold maxLen; omega) (by omega) (by simp) ?_; intro v1 w1 ho hg; rw [Nat.zero_add, List.nil_append] at ho; obtain ⟨a1, cap1, rfl⟩ := own_sliceC ho; obtain ⟨e0, e1, hb⟩ := three_newC hg rfl; have HB : Hid (Below w.heap.size w w1) := hb; have HO : Hid (w1.ownsRow (w.heap.size + 2) 2 1 (.slice a1 v.prev.length cap1) v.prev.length (nv v.prev)) := ho; have hc0 : ∀ k, w1.cell? ⟨w.heap.size, k, none⟩ = _ := (fun k => cell_of_heap e0); have hc1 : ∀ k, w1.cell? ⟨w.heap.size + 1, k, none⟩ = _ := (fun k => cell_of_heap e1); have hf0 : ∀ k, w1.frozen? ⟨w.heap.size, k, none⟩ = false := (fun k => frozen_of_heap e0); have hf1 : ∀ k, w1.frozen? ⟨w.heap.size + 1, k, none⟩ = false := (fun k => frozen_of_heap e1); clear e0 e1 ho hg hb)
  refine bodyPost_ret (v := .agg #[.int .i64 v.id, .int .i64 v.room, .int .i64 v.author, .int .i64 v.kind, .int .i64 v.key, .int .i64 v.n, .string v.text, .slice a1 v.prev.length cap1, .int .i64 v.time]) (by simp [results, Tryz.results119, go_sem, hc1]) rfl ⟨a1, cap1, rfl, ?_, ?_⟩
  · have h0 : w.heap.size < w.heap.size + 2 := by omega
    have h1 : w.heap.size + 1 < w.heap.size + 2 := by omega
    exact owns_baseC (ownsRow_setCell_below (ownsRow_setCell_below (ownsRow_setCell_below (ownsRow_setCell_below (ownsRow_setCell_below (ownsRow_setCell_below (ownsRow_setCell_below (ownsRow_setCell_below (ownsRow_setCell_below (ownsRow_setCell_below HO.out (a := ⟨w.heap.size, 7, none⟩) h0 _) (a := ⟨w.heap.size + 1, 0, none⟩) h1 _) (a := ⟨w.heap.size + 1, 1, none⟩) h1 _) (a := ⟨w.heap.size + 1, 2, none⟩) h1 _) (a := ⟨w.heap.size + 1, 3, none⟩) h1 _) (a := ⟨w.heap.size + 1, 4, none⟩) h1 _) (a := ⟨w.heap.size + 1, 5, none⟩) h1 _) (a := ⟨w.heap.size + 1, 6, none⟩) h1 _) (a := ⟨w.heap.size + 1, 7, none⟩) h1 _) (a := ⟨w.heap.size + 1, 8, none⟩) h1 _) (by omega)
  · repeat refine Below.setCell ?_ (by simp) _
    exact HB.out

end Go.Proofs.YtobkinocaomcmaaGreat
