/- What is drawn of events: copies, spoiled texts, and what the law on events draws. -/
import Derived.Test.YtjdkenopfnepaaaDrawEvent
import Derived.Deep.AppendSrc
import Derived.Deep.Upon
namespace Go.Proofs.Ytjdkenopfnepaaa
open Go.RowKit

theorem nv_one (zs : List Int) : ∀ u ∈ nv zs, u.oneCell' = true := by
  intro u hu
  obtain ⟨_, _, rfl⟩ := List.mem_map.1 hu
  rfl
theorem nv_len (zs : List Int) : (nv zs).length = zs.length := by simp [nv]
/-- 'append(v, l...)', v of one's own, l a row of numbers that lies anywhere. -/
theorem wpList_append_nums {P : Program} {w : World} {ops : Array Oper} {rest : List Oper} {o : Oper} {a : Act} {Q : Exit → Act → World → Prop} (hgd : o.guard = none) (s x : Operand) (t : TypeId)
    (ho : o.op = .call { callee := .builtin .append, args := #[s, x], argTypes := #[t, t] })
    (base : Nat) (e : TypeId) (i : TypeInfo) (z : Value) (bytes : Nat) (ht : P.underlying t = some (.slice e)) (hi : P.info? e = some i) (hz : i.zero = some z)
    (hsize : i.size = 1) (hby : i.bytes = bytes) (hzs : z.cells.size = 1)
    (v : Value) (n : Nat) (xs : List Value) (hs : a.eval s = v) (hown : w.ownsRow base e 1 v n xs)
    (p : Option Addr) (cap : Nat) (zs : List Int) (hn : NumsAt w p zs) (hx : a.eval x = .slice p zs.length cap)
    (h63 : n + zs.length ≤ maxLen) (hbytes : (n + zs.length) * bytes ≤ 140737488355328) (hbase : base ≤ w.heap.size)
    (h : ∀ v' w', w'.ownsRow base e 1 v' (n + zs.length) (xs ++ nv zs) → w.grownBy w' v.ownBlock → wpList P ops Q rest (a.put o.dst v') w') : wpList P ops Q (o :: rest) a w := by
  by_cases hp : 0 < zs.length
  · obtain ⟨b, off, rfl, hb, hc⟩ := hn.2 hp
    refine wpList_append_own w hgd s x t ho base e i z 1 bytes ht hi hz hsize hby hzs (by decide) v n xs hs hown ⟨b, off, none⟩ zs.length cap (nv zs) hx (by simp [nv]) (fun j u hj => ?_) (nv_one zs) h63 hbytes hbase (fun v' w' h1 h2 _ => h v' w' h1 h2)
    rw [Addr.add_lit]
    have hjl : j < zs.length := by
      rcases Nat.lt_or_ge j zs.length with h | h
      · exact h
      · rw [List.getElem?_eq_none (by rw [nv_len]; exact h)] at hj; cases hj
    rw [hc j hjl, ← hj]
    simp [nv, hjl]
  · have h0 : zs = [] := List.eq_nil_of_length_eq_zero (by omega)
    subst h0
    refine wpList_plain hgd fun K hK => ?_
    have hrun : (Builtin.append_ #[t, t] o.type #[v, .slice p 0 cap]).run P w = .ok v w := by
      rcases hown.2 with ⟨rfl, h0⟩ | ⟨g, c, cur, rfl, hbg, hg, hcc, _⟩
      · cases p
        · exact run_append_nothing w t t o.type e i ht hi none 0 0 (Nat.le_refl _) _ (Src.ofNil w ht cap)
        · exact run_append_nothing w t t o.type e i ht hi none 0 0 (Nat.le_refl _) _ (Src.ofSlice w ht _ 0 cap [] (by simp) (fun j u h => by simp at h) (fun u h => by cases h))
      · cases p
        · exact run_append_nothing w t t o.type e i ht hi _ n c hcc _ (Src.ofNil w ht cap)
        · exact run_append_nothing w t t o.type e i ht hi _ n c hcc _ (Src.ofSlice w ht _ 0 cap [] (by simp) (fun j u h => by simp at h) (fun u h => by cases h))
    unfold Oper.wp
    simp [execOp, ho, resolve, invoke, builtin, hs, hx, hrun, Result.andThen]
    exact hK _ _ (h v w (by simpa [nv] using hown) (World.grownBy.refl _ _))

theorem new_block (w : World) (o : Obj) (k : Nat) (hk : w.heap.size = k) : (w.alloc o).heap[k]? = some o := hk ▸ (MapKept.heap_alloc w o).1
theorem three_new {w w1 : World} {A B C : Obj} {x : Option Nat} (hg : (((w.alloc A).alloc B).alloc C).grownBy w1 x) (hx : x = some (w.heap.size + 1 + 1)) : w1.heap[w.heap.size]? = some A ∧ w1.heap[w.heap.size + 1]? = some B ∧ Below w.heap.size w w1 := by
  subst hx
  have s1 : (w.alloc A).heap.size = w.heap.size + 1 := by simp
  have s2 : ((w.alloc A).alloc B).heap.size = w.heap.size + 2 := by simp
  have s3 : (((w.alloc A).alloc B).alloc C).heap.size = w.heap.size + 3 := by simp
  refine ⟨?_, ?_, ?_⟩
  · rw [hg.block _ (by omega) (by simp; omega), Below.heap_alloc _ _ _ (by omega), Below.heap_alloc _ _ _ (by omega)]
    exact (MapKept.heap_alloc w _).1
  · rw [hg.block _ (by omega) (by simp), Below.heap_alloc _ _ _ (by omega)]
    exact new_block _ _ _ s1
  · refine ((((Below.refl _ _).alloc (Nat.le_refl _) _).alloc (by omega) _).alloc (by omega) _).grown hg (by omega) (fun k hk => ?_)
    cases hk
    omega
/-- A copy of an event: its numbers in a row of its own. -/
def CopyPost (v : Ev) (w : World) (e : Ending) (w' : World) : Prop :=
  ∃ (a : Option Addr) (cap : Nat), e = .returned (.agg #[.int .i64 v.id, .int .i64 v.room, .int .i64 v.author, .int .i64 v.kind, .int .i64 v.key, .int .i64 v.n, .string v.text, .slice a v.prev.length cap, .int .i64 v.time]) ∧ w'.ownsRow w.heap.size 2 1 (.slice a v.prev.length cap) v.prev.length (nv v.prev) ∧ Below w.heap.size w w'
set_option maxHeartbeats 1000000 in
set_option maxRecDepth 100000 in
theorem copy_spec (v : Ev) (a : Option Addr) (cap : Nat) (w : World) (hn : NumsAt w a v.prev) :
    Calls Try.prog 56 #[.agg #[.int .i64 v.id, .int .i64 v.room, .int .i64 v.author, .int .i64 v.kind, .int .i64 v.key, .int .i64 v.n, .string v.text, .slice a v.prev.length cap, .int .i64 v.time]] w (CopyPost v w) := by
  obtain ⟨i0, hi, hz0, hz1, hz2⟩ := info_parts Try.info2
  have HN : Hid (NumsAt w a v.prev) := hn
  have hl := hn.1
  clear hn
  go_enter Try.func56, Try.ntmps56
  go_wp2_with (at_builtin; refine wpList_append_nums rfl (.tmp 3) (.tmp 5) 23 rfl (w.heap.size + 2) 2 i0 (.int .i64 0) 8 Try.underlying23 hi hz0 hz1 hz2 rfl _ 0 [] rfl ⟨rfl, .inr ⟨w.heap.size + 1 + 1, 0, #[], rfl, Nat.le_refl _, (new_block _ _ _ (by simp)), Nat.le_refl _, by decide, rfl, rfl⟩⟩ a cap v.prev (HN.out.kept ((((Below.refl _ _).alloc (Nat.le_refl _) _).alloc (by simp) _).alloc (by simp; omega) _)) rfl (by unfold maxLen; omega) (by omega) (by simp) ?_; intro v1 w1 ho hg; rw [Nat.zero_add, List.nil_append] at ho; obtain ⟨a1, cap1, rfl⟩ := own_slice ho; obtain ⟨e0, e1, hb⟩ := three_new hg rfl; have HB : Hid (Below w.heap.size w w1) := hb; have HO : Hid (w1.ownsRow (w.heap.size + 2) 2 1 (.slice a1 v.prev.length cap1) v.prev.length (nv v.prev)) := ho; have hc0 : ∀ k, w1.cell? ⟨w.heap.size, k, none⟩ = _ := (fun k => cell_of_heap e0); have hc1 : ∀ k, w1.cell? ⟨w.heap.size + 1, k, none⟩ = _ := (fun k => cell_of_heap e1); have hf0 : ∀ k, w1.frozen? ⟨w.heap.size, k, none⟩ = false := (fun k => frozen_of_heap e0); have hf1 : ∀ k, w1.frozen? ⟨w.heap.size + 1, k, none⟩ = false := (fun k => frozen_of_heap e1); clear e0 e1 ho hg hb)
  refine bodyPost_ret (v := .agg #[.int .i64 v.id, .int .i64 v.room, .int .i64 v.author, .int .i64 v.kind, .int .i64 v.key, .int .i64 v.n, .string v.text, .slice a1 v.prev.length cap1, .int .i64 v.time]) (by simp [results, Try.results56, go_sem, hc1]) rfl ⟨a1, cap1, rfl, ?_, ?_⟩
  · have h0 : w.heap.size < w.heap.size + 2 := by omega
    have h1 : w.heap.size + 1 < w.heap.size + 2 := by omega
    exact owns_base (ownsRow_setCell_below (ownsRow_setCell_below (ownsRow_setCell_below (ownsRow_setCell_below (ownsRow_setCell_below (ownsRow_setCell_below (ownsRow_setCell_below (ownsRow_setCell_below (ownsRow_setCell_below (ownsRow_setCell_below HO.out (a := ⟨w.heap.size, 7, none⟩) h0 _) (a := ⟨w.heap.size + 1, 0, none⟩) h1 _) (a := ⟨w.heap.size + 1, 1, none⟩) h1 _) (a := ⟨w.heap.size + 1, 2, none⟩) h1 _) (a := ⟨w.heap.size + 1, 3, none⟩) h1 _) (a := ⟨w.heap.size + 1, 4, none⟩) h1 _) (a := ⟨w.heap.size + 1, 5, none⟩) h1 _) (a := ⟨w.heap.size + 1, 6, none⟩) h1 _) (a := ⟨w.heap.size + 1, 7, none⟩) h1 _) (a := ⟨w.heap.size + 1, 8, none⟩) h1 _) (by omega)
  · repeat refine Below.setCell ?_ (by simp) _
    exact HB.out

/-- A text that is spoiled: some text, a byte longer at most. -/
def SpoilPost (base g : Nat) (n : Nat) (w : World) (e : Ending) (w' : World) : Prop :=
  ∃ u : ByteArray, e = .returned (.string u) ∧ u.size ≤ n + 1 ∧ SrcAt w' base g ∧ w.grownBy w' (some g)
theorem spoil_drew {base g n : Nat} {w W : World} {e : Ending} (h : SpoilPost base g n w e W) : SpoilPost base g n w e W.drew := by
  obtain ⟨u, h1, h2, h3, h4⟩ := h
  exact ⟨u, h1, h2, h3.kept (Below.drew (Below.refl _ _)) rfl, ⟨h4.os, h4.tape, h4.output, h4.size, h4.block⟩⟩
theorem size_one (c : UInt8) : (⟨#[c]⟩ : ByteArray).size = 1 := rfl
theorem spoil_size (t : ByteArray) (c : UInt8) (k m : Nat) (hk : k ≤ t.size) (hm : k ≤ m) : (t.extract 0 k ++ ⟨#[c]⟩ ++ t.extract m t.size).size ≤ t.size + 1 := by
  rw [ByteArray.size_append, ByteArray.size_append, ByteArray.size_extract, ByteArray.size_extract, size_one]
  omega
theorem spoil_size2 (t : ByteArray) (k m : Nat) (hk : k ≤ t.size) (hm : k ≤ m) : (t.extract 0 k ++ t.extract m t.size).size ≤ t.size + 1 := by
  rw [ByteArray.size_append, ByteArray.size_extract, ByteArray.size_extract]
  omega
set_option maxHeartbeats 2000000 in
set_option maxRecDepth 100000 in
theorem spoil_spec (base g : Nat) (t : ByteArray) (w : World) (hs : SrcAt w base g) (ht : (t.size : Int) ≤ 1000) :
    Calls Try.prog 49 #[.pointer (some ⟨g, 0, none⟩), .string t] w (SpoilPost base g t.size w) := by
  have HS : Hid (SrcAt w base g) := hs
  have hgl := hs.lt
  clear hs
  have b0 : 0 ≤ (t.size : Int) := Int.natCast_nonneg _
  go_enter Try.func49, Try.ntmps49
  go_wp2_with fail
  refine (draw_n base g ((t.size : Int) + 1) _ HS.out (by omega)).mono ?_
  rintro e w1 ⟨r, rfl, p0, q0, q1, hs1, hg1, hz1⟩
  have hr : r ≤ (t.size : Int) := by
    by_cases h : 1 < (t.size : Int) + 1
    · have := q0 h; omega
    · have := q1 (by omega); omega
  have H1 : Hid (SrcAt w1 base g ∧ w.grownBy w1 (some g)) := ⟨hs1, hg1⟩
  clear q0 q1 hs1 hg1 hz1
  obtain ⟨k, rfl⟩ := Int.eq_ofNat_of_zero_le p0
  clear p0
  go_wp2_with fail
  refine (draw_n base g 17 _ H1.out.1 (by omega)).mono ?_
  rintro e w2 ⟨r2, rfl, p0, q0, q1, hs2, hg2, hz2⟩
  have hr2 : r2 < 17 := q0 (by omega)
  have H2 : Hid (∀ o, SrcAt (w2.alloc o) base g ∧ w.grownBy (w2.alloc o) (some g)) := fun o => ⟨hs2.alloc o, (H1.out.2.trans hg2).trans (World.grownBy_alloc _ _ _)⟩
  have hcv : ∀ c : UInt8, (convert 22 9 (.slice (some ⟨w2.heap.size, 0, none⟩) 1 1)).run Try.prog (w2.alloc (.cells #[.int .u8 (c.toNat : Int)] 5)) = .ok (.string ⟨#[c]⟩) (w2.alloc (.cells #[.int .u8 (c.toNat : Int)] 5)) := fun c => row_string (P := Try.prog) [c] Try.underlying22 Try.underlying5 Try.underlying9 rfl (MapKept.heap_alloc w2 _).1
  clear q0 q1 hs2 hg2 hz2
  by_cases hk : k = t.size
  · have b1 : ((k : Int) == (t.size : Int)) = true := by simp [hk]
    clear hk
    go_wp2_with fail
    go_region
    go_wp2
    go_ret
    repeat refine spoil_drew ?_
    exact ⟨_, rfl, spoil_size t _ k k (by omega) (Nat.le_refl _), H2.out _⟩
  · have b1 : ((k : Int) == (t.size : Int)) = false := by simp; omega
    have hkt : (k : Int) + 1 ≤ (t.size : Int) := by omega
    go_wp2_with fail
    refine (draw_one base g 3 _ (H2.out _).1 (by omega)).mono ?_
    rintro e w3 ⟨b3, rfl, hs3, hg3, hz3⟩
    have H3 : Hid (SrcAt w3 base g ∧ w.grownBy w3 (some g)) := ⟨hs3, (H2.out _).2.trans hg3⟩
    clear hs3 hg3 hz3 hcv
    cases b3
    · go_wp2_with fail
      refine (draw_one base g 2 _ H3.out.1 (by omega)).mono ?_
      rintro e w4 ⟨b4, rfl, hs4, hg4, hz4⟩
      have H4 : Hid (SrcAt w4 base g ∧ w.grownBy w4 (some g)) := ⟨hs4, H3.out.2.trans hg4⟩
      clear hs4 hg4 hz4
      cases b4
      · go_wp2_with fail
        go_region
        go_wp2
        go_ret
        repeat refine spoil_drew ?_
        exact ⟨_, rfl, spoil_size t _ k (k + 1) (by omega) (by omega), H4.out⟩
      · go_wp2_with fail
        go_region
        go_wp2
        go_ret
        repeat refine spoil_drew ?_
        exact ⟨_, rfl, spoil_size2 t k (k + 1) (by omega) (by omega), H4.out⟩
    · go_wp2_with fail
      go_region
      go_wp2
      go_ret
      repeat refine spoil_drew ?_
      exact ⟨_, rfl, spoil_size t _ k k (by omega) (Nat.le_refl _), H3.out⟩
end Go.Proofs.Ytjdkenopfnepaaa
