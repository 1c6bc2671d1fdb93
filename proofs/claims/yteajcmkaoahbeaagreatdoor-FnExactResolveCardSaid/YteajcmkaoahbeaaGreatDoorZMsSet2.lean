/- Copies of events: the specification's, and the program's. l03Set of the specification. l03Set of the specification, walked. -/
import Derived.Test.YteajcmkaoahbeaaGreatDoorZEvTo
import Derived.Deep.AppendSrc
import Derived.Deep.Upon
import Derived.Test.YteajcmkaoahbeaaGreatDoorZMsPlain
import Derived.Deep.RegionHeld3
namespace Go.Proofs.YteajcmkaoahbeaaGreatDoor
open Go.RowKit

theorem owns_baseC {w : World} {base base' size n : Nat} {e : TypeId} {v : Value} {xs : List Value} (h : w.ownsRow base e size v n xs) (hb : base' ≤ base) : w.ownsRow base' e size v n xs := by
  refine ⟨h.1, ?_⟩
  rcases h.2 with h0 | ⟨g, cap, cur, h1, h2, r⟩
  · exact .inl h0
  · exact .inr ⟨g, cap, cur, h1, Nat.le_trans hb h2, r⟩
theorem own_sliceC {w : World} {base n : Nat} {e : TypeId} {v : Value} {xs : List Value} (h : w.ownsRow base e 1 v n xs) : ∃ a cap, v = .slice a n cap := by
  rcases h.2 with ⟨h1, h2⟩ | ⟨q, cp, _, h1, _⟩
  · exact ⟨none, 0, by rw [h1, h2]⟩
  · exact ⟨_, _, h1⟩
theorem nv_oneC (zs : List Int) : ∀ u ∈ nv zs, u.oneCell' = true := by
  intro u hu
  obtain ⟨_, _, rfl⟩ := List.mem_map.1 hu
  rfl
theorem nv_lenC (zs : List Int) : (nv zs).length = zs.length := by simp [nv]
/-- 'append(v, l...)', v of one's own, l a row of numbers that lies anywhere. -/
theorem wpList_append_numsC {P : Program} {w : World} {ops : Array Oper} {rest : List Oper} {o : Oper} {a : Act} {Q : Exit → Act → World → Prop} (hgd : o.guard = none) (s x : Operand) (t : TypeId)
    (ho : o.op = .call { callee := .builtin .append, args := #[s, x], argTypes := #[t, t] })
    (base : Nat) (e : TypeId) (i : TypeInfo) (z : Value) (bytes : Nat) (ht : P.underlying t = some (.slice e)) (hi : P.info? e = some i) (hz : i.zero = some z)
    (hsize : i.size = 1) (hby : i.bytes = bytes) (hzs : z.cells.size = 1)
    (v : Value) (n : Nat) (xs : List Value) (hs : a.eval s = v) (hown : w.ownsRow base e 1 v n xs)
    (p : Option Addr) (cap : Nat) (zs : List Int) (hn : NumsAt w p zs) (hx : a.eval x = .slice p zs.length cap)
    (h63 : n + zs.length ≤ maxLen) (hbytes : (n + zs.length) * bytes ≤ 140737488355328) (hbase : base ≤ w.heap.size)
    (h : ∀ v' w', w'.ownsRow base e 1 v' (n + zs.length) (xs ++ nv zs) → w.grownBy w' v.ownBlock → wpList P ops Q rest (a.put o.dst v') w') : wpList P ops Q (o :: rest) a w := by
  by_cases hp : 0 < zs.length
  · obtain ⟨b, off, rfl, hb, hc⟩ := hn.2 hp
    refine wpList_append_own w hgd s x t ho base e i z 1 bytes ht hi hz hsize hby hzs (by decide) v n xs hs hown ⟨b, off, none⟩ zs.length cap (nv zs) hx (by simp [nv]) (fun j u hj => ?_) (nv_oneC zs) h63 hbytes hbase (fun v' w' h1 h2 _ => h v' w' h1 h2)
    rw [Addr.add_lit]
    have hjl : j < zs.length := by
      rcases Nat.lt_or_ge j zs.length with h | h
      · exact h
      · rw [List.getElem?_eq_none (by rw [nv_lenC]; exact h)] at hj; cases hj
    rw [hc j hjl, ← hj]
    simp [nv, hjl]
  · have h0 : zs = [] := List.eq_nil_of_length_eq_zero (by omega)
    subst h0
    refine wpList_plain hgd fun K hK => ?_
    have hrun : (Builtin.append_ #[t, t] o.type #[v, .slice p 0 cap]).run P w = .ok v w := by
      rcases hown.2 with ⟨rfl, h0⟩ | ⟨g, c, cur, rfl, hbg, hg, hcc, _⟩
      · cases p
        · exact run_append_nothing w t t o.type e i ht hi none 0 0 (Nat.le_refl _) _ (Src.ofNil w ht cap)
        · exact run_append_nothing w t t o.type e i ht hi none 0 0 (Nat.le_refl _) _ (Src.ofSlice w ht _ 0 cap [] (by simp) (fun j u h => by simp at h) (fun u h => by cases h))
      · cases p
        · exact run_append_nothing w t t o.type e i ht hi _ n c hcc _ (Src.ofNil w ht cap)
        · exact run_append_nothing w t t o.type e i ht hi _ n c hcc _ (Src.ofSlice w ht _ 0 cap [] (by simp) (fun j u h => by simp at h) (fun u h => by cases h))
    unfold Oper.wp
    simp [execOp, ho, resolve, invoke, builtin, hs, hx, hrun, Result.andThen]
    exact hK _ _ (h v w (by simpa [nv] using hown) (World.grownBy.refl _ _))

theorem new_blockC (w : World) (o : Obj) (k : Nat) (hk : w.heap.size = k) : (w.alloc o).heap[k]? = some o := hk ▸ (MapKept.heap_alloc w o).1
theorem three_newC {w w1 : World} {A B C : Obj} {x : Option Nat} (hg : (((w.alloc A).alloc B).alloc C).grownBy w1 x) (hx : x = some (w.heap.size + 1 + 1)) : w1.heap[w.heap.size]? = some A ∧ w1.heap[w.heap.size + 1]? = some B ∧ Below w.heap.size w w1 := by
  subst hx
  have s1 : (w.alloc A).heap.size = w.heap.size + 1 := by simp
  have s2 : ((w.alloc A).alloc B).heap.size = w.heap.size + 2 := by simp
  have s3 : (((w.alloc A).alloc B).alloc C).heap.size = w.heap.size + 3 := by simp
  refine ⟨?_, ?_, ?_⟩
  · rw [hg.block _ (by omega) (by simp; omega), Below.heap_alloc _ _ _ (by omega), Below.heap_alloc _ _ _ (by omega)]
    exact (MapKept.heap_alloc w _).1
  · rw [hg.block _ (by omega) (by simp), Below.heap_alloc _ _ _ (by omega)]
    exact new_blockC _ _ _ s1
  · refine ((((Below.refl _ _).alloc (Nat.le_refl _) _).alloc (by omega) _).alloc (by omega) _).grown hg (by omega) (fun k hk => ?_)
    cases hk
    omega
/-- A copy of an event: its numbers in a row of its own. -/
def CopyPostC (v : Ev) (w : World) (e : Ending) (w' : World) : Prop :=
  ∃ (a : Option Addr) (cap : Nat), e = .returned (.agg #[.int .i64 v.id, .int .i64 v.room, .int .i64 v.author, .int .i64 v.kind, .int .i64 v.key, .int .i64 v.n, .string v.text, .slice a v.prev.length cap, .int .i64 v.time]) ∧ w'.ownsRow w.heap.size 2 1 (.slice a v.prev.length cap) v.prev.length (nv v.prev) ∧ Below w.heap.size w w'
set_option maxHeartbeats 1000000 in
set_option maxRecDepth 100000 in
theorem copy_specC (v : Ev) (a : Option Addr) (cap : Nat) (w : World) (hn : NumsAt w a v.prev) :
    Calls Tryz.prog 166 #[.agg #[.int .i64 v.id, .int .i64 v.room, .int .i64 v.author, .int .i64 v.kind, .int .i64 v.key, .int .i64 v.n, .string v.text, .slice a v.prev.length cap, .int .i64 v.time]] w (CopyPostC v w) := by
  obtain ⟨i0, hi, hz0, hz1, hz2⟩ := info_parts Tryz.info2
  have HN : Hid (NumsAt w a v.prev) := hn
  have hl := hn.1
  clear hn
  go_enter Tryz.func166, Tryz.ntmps166
  go_wp2_with (at_builtin; refine wpList_append_numsC rfl (.tmp 3) (.tmp 5) 46 rfl (w.heap.size + 2) 2 i0 (.int .i64 0) 8 Tryz.underlying46 hi hz0 hz1 hz2 rfl _ 0 [] rfl ⟨rfl, .inr ⟨w.heap.size + 1 + 1, 0, #[], rfl, Nat.le_refl _, (new_blockC _ _ _ (by simp)), Nat.le_refl _, by decide, rfl, rfl⟩⟩ a cap v.prev (HN.out.kept ((((Below.refl _ _).alloc (Nat.le_refl _) _).alloc (by simp) _).alloc (by simp; omega) _)) rfl (by unfold maxLen; omega) (by omega) (by simp) ?_; intro v1 w1 ho hg; rw [Nat.zero_add, List.nil_append] at ho; obtain ⟨a1, cap1, rfl⟩ := own_sliceC ho; obtain ⟨e0, e1, hb⟩ := three_newC hg rfl; have HB : Hid (Below w.heap.size w w1) := hb; have HO : Hid (w1.ownsRow (w.heap.size + 2) 2 1 (.slice a1 v.prev.length cap1) v.prev.length (nv v.prev)) := ho; have hc0 : ∀ k, w1.cell? ⟨w.heap.size, k, none⟩ = _ := (fun k => cell_of_heap e0); have hc1 : ∀ k, w1.cell? ⟨w.heap.size + 1, k, none⟩ = _ := (fun k => cell_of_heap e1); have hf0 : ∀ k, w1.frozen? ⟨w.heap.size, k, none⟩ = false := (fun k => frozen_of_heap e0); have hf1 : ∀ k, w1.frozen? ⟨w.heap.size + 1, k, none⟩ = false := (fun k => frozen_of_heap e1); clear e0 e1 ho hg hb)
  refine bodyPost_ret (v := .agg #[.int .i64 v.id, .int .i64 v.room, .int .i64 v.author, .int .i64 v.kind, .int .i64 v.key, .int .i64 v.n, .string v.text, .slice a1 v.prev.length cap1, .int .i64 v.time]) (by simp [results, Tryz.results166, go_sem, hc1]) rfl ⟨a1, cap1, rfl, ?_, ?_⟩
  · have h0 : w.heap.size < w.heap.size + 2 := by omega
    have h1 : w.heap.size + 1 < w.heap.size + 2 := by omega
    exact owns_baseC (ownsRow_setCell_below (ownsRow_setCell_below (ownsRow_setCell_below (ownsRow_setCell_below (ownsRow_setCell_below (ownsRow_setCell_below (ownsRow_setCell_below (ownsRow_setCell_below (ownsRow_setCell_below (ownsRow_setCell_below HO.out (a := ⟨w.heap.size, 7, none⟩) h0 _) (a := ⟨w.heap.size + 1, 0, none⟩) h1 _) (a := ⟨w.heap.size + 1, 1, none⟩) h1 _) (a := ⟨w.heap.size + 1, 2, none⟩) h1 _) (a := ⟨w.heap.size + 1, 3, none⟩) h1 _) (a := ⟨w.heap.size + 1, 4, none⟩) h1 _) (a := ⟨w.heap.size + 1, 5, none⟩) h1 _) (a := ⟨w.heap.size + 1, 6, none⟩) h1 _) (a := ⟨w.heap.size + 1, 7, none⟩) h1 _) (a := ⟨w.heap.size + 1, 8, none⟩) h1 _) (by omega)
  · repeat refine Below.setCell ?_ (by simp) _
    exact HB.out

end Go.Proofs.YteajcmkaoahbeaaGreatDoor
namespace Go.Proofs.YteajcmkaoahbeaaGreatDoor
open Go.RowKit

/-- A row of numbers of one's own. -/
def NumsOwn (w : World) (base : Nat) (v : Value) (zs : List Int) : Prop := w.ownsRow base 2 1 v zs.length (nv zs)
theorem NumsOwn.at {w : World} {base : Nat} {v : Value} {zs : List Int} (h : NumsOwn w base v zs) (hl : zs.length ≤ 1048576) : ∃ a c, v = .slice a zs.length c ∧ zs.length ≤ c ∧ NumsAt w a zs ∧ ((a = none ∧ c = 0) ∨ ∃ g, a = some ⟨g, 0, none⟩ ∧ base ≤ g) := by
  rcases h.2 with ⟨rfl, h0⟩ | ⟨g, cap, cur, rfl, hb, hg, hle, _, hsz, ht⟩
  · exact ⟨none, 0, by rw [h0], by omega, ⟨hl, fun hp => absurd h0 (by omega)⟩, .inl ⟨rfl, rfl⟩⟩
  · refine ⟨_, cap, rfl, hle, ⟨hl, fun hp => ⟨g, 0, rfl, (Array.getElem?_eq_some_iff.1 hg).1, fun j hj => ?_⟩⟩, .inr ⟨g, rfl, hb⟩⟩
    have h1 : (cur.toList.take (zs.length * 1))[j]? = (nv zs)[j]? := by rw [ht]
    rw [List.getElem?_take_of_lt (by omega)] at h1
    rw [cell_of_heap hg, Nat.zero_add, ← Array.getElem?_toList, h1]
    simp [nv, hj]
theorem NumsOwn.kept {w w' : World} {base : Nat} {v : Value} {zs : List Int} (h : NumsOwn w base v zs) (hb : Below w.heap.size w w') : NumsOwn w' base v zs := by
  refine ⟨h.1, ?_⟩
  rcases h.2 with h0 | ⟨g, cap, cur, h1, h2, h3, r⟩
  · exact .inl h0
  · exact .inr ⟨g, cap, cur, h1, h2, (hb.block g (Array.getElem?_eq_some_iff.1 h3).1).trans h3, r⟩
theorem NumsOwn.below {w w' : World} {base : Nat} {v : Value} {zs : List Int} (h : NumsOwn w base v zs) (hg : w.grownBy w' v.ownBlock) (hbase : base ≤ w.heap.size) : Below base w w' := by
  refine ⟨hg.os, hg.tape, hg.output, hg.size, fun k hk => hg.block k (by omega) ?_⟩
  rcases h.2 with ⟨rfl, _⟩ | ⟨g, cap, cur, rfl, hb, _⟩
  · exact fun e => by cases e
  · intro e
    have e2 : k = g := by simpa [Value.ownBlock] using e
    omega
theorem NumsOwn.nil (w : World) (base : Nat) : NumsOwn w base (.slice none 0 0) [] := ⟨rfl, .inl ⟨rfl, rfl⟩⟩
theorem NumsOwn.made (w : World) {base : Nat} (hb : base ≤ w.heap.size) : NumsOwn (w.alloc (.cells #[] 2)) base (.slice (some ⟨w.heap.size, 0, none⟩) 0 0) [] :=
  ⟨rfl, .inr ⟨w.heap.size, 0, #[], rfl, hb, (MapKept.heap_alloc w _).1, Nat.le_refl _, by unfold maxLen; omega, rfl, rfl⟩⟩
theorem wpList_append_ns {w : World} {ops : Array Oper} {rest : List Oper} {o : Oper} {a : Act} {Q : Exit → Act → World → Prop} (hgd : o.guard = none) (s x : Operand) (t : TypeId)
    (ho : o.op = .call { callee := .builtin .append, args := #[s, x], argTypes := #[t, t] })
    (i : TypeInfo) (z : Value) (ht : Tryz.prog.underlying t = some (.slice 2)) (hi : Tryz.prog.info? 2 = some i) (hz : i.zero = some z)
    (hsize : i.size = 1) (hby : i.bytes = 8) (hzs : z.cells.size = 1)
    (base : Nat) (v : Value) (xs : List Int) (hs : a.eval s = v) (hown : NumsOwn w base v xs)
    (p : Option Addr) (cap : Nat) (ys : List Int) (hn : NumsAt w p ys) (hx : a.eval x = .slice p ys.length cap)
    (hb : xs.length + ys.length ≤ 1000000) (hbase : base ≤ w.heap.size)
    (h : ∀ v' w', NumsOwn w' base v' (xs ++ ys) → Below base w w' → wpList Tryz.prog ops Q rest (a.put o.dst v') w') : wpList Tryz.prog ops Q (o :: rest) a w :=
  wpList_append_numsC hgd s x t ho base _ i z 8 ht hi hz hsize hby hzs v xs.length (nv xs) hs hown p cap ys hn hx (by unfold maxLen; omega) (by omega) hbase (fun v' w' h1 h2 => h v' w' (by unfold NumsOwn; rw [List.length_append]; simpa [nv] using h1) (hown.below h2 hbase))
theorem numsAt_one {w : World} {b : Nat} {n : Int} {t : TypeId} (h : w.heap[b]? = some (.cells #[.int .i64 n] t (0, 0))) : NumsAt w (some ⟨b, 0, none⟩) [n] := by
  refine ⟨by simp, fun _ => ⟨b, 0, rfl, (Array.getElem?_eq_some_iff.1 h).1, fun j hj => ?_⟩⟩
  obtain rfl : j = 0 := by simpa using hj
  rw [cell_of_heap h]
  rfl
theorem NumsAt.take {w : World} {a : Option Addr} {zs : List Int} (h : NumsAt w a zs) (k : Nat) : NumsAt w a (zs.take k) := by
  refine ⟨Nat.le_trans (List.length_take_le' k zs) h.1, fun hp => ?_⟩
  rw [List.length_take] at hp
  obtain ⟨b, off, ha, hb, hc⟩ := h.2 (by omega)
  refine ⟨b, off, ha, hb, fun j hj => ?_⟩
  rw [List.length_take] at hj
  rw [List.getElem_take]
  exact hc j (by omega)
theorem NumsAt.drop {w : World} {b off : Nat} {zs : List Int} (h : NumsAt w (some ⟨b, off, none⟩) zs) (k : Nat) : NumsAt w (some ⟨b, off + k, none⟩) (zs.drop k) := by
  refine ⟨Nat.le_trans (by simp) h.1, fun hp => ?_⟩
  rw [List.length_drop] at hp
  obtain ⟨b', off', ha, hb, hc⟩ := h.2 (by omega)
  cases ha
  refine ⟨b, off + k, rfl, hb, fun j hj => ?_⟩
  rw [List.length_drop] at hj
  rw [List.getElem_drop, Nat.add_assoc]
  exact hc (k + j) (by omega)
theorem NumsAt.empty {w : World} (p : Option Addr) : NumsAt w p [] := ⟨by simp, fun h => absurd h (Nat.lt_irrefl 0)⟩
end Go.Proofs.YteajcmkaoahbeaaGreatDoor
namespace Go.Proofs.YteajcmkaoahbeaaGreatDoor
open Go.RowKit

def SetPost (w : World) (base : Nat) (l : List Int) (e : Ending) (w' : World) : Prop := ∃ g c, e = .returned (.slice (some ⟨g, 0, none⟩) l.length c) ∧ NumsOwn w' base (.slice (some ⟨g, 0, none⟩) l.length c) l ∧ Below w.heap.size w w'
theorem set_new {w w' : World} {base : Nat} {l a b : List Int} {n : Int} {v : Value} (he : setN l n = [] ++ a ++ [n] ++ b) (ho : NumsOwn w' w.heap.size v ([] ++ a ++ [n] ++ b)) (hb : Below w.heap.size w w') (hbase : base ≤ w.heap.size) : SetPost w base (setN l n) (.returned v) w' := by
  rw [← he] at ho
  rcases ho.2 with ⟨_, h0⟩ | ⟨g, cap, cur, h1, _⟩
  · rw [he] at h0
    simp at h0
  · subst h1
    exact ⟨g, cap, rfl, owns_baseC ho hbase, hb⟩
theorem set_there {w : World} {base g c : Nat} {l : List Int} {n : Int} (he : setN l n = l) (ho : NumsOwn w base (.slice (some ⟨g, 0, none⟩) l.length c) l) : SetPost w base (setN l n) (.returned (.slice (some ⟨g, 0, none⟩) l.length c)) w := by
  rw [he]
  exact ⟨g, c, rfl, ho, Below.refl _ _⟩
set_option maxHeartbeats 4000000 in
set_option maxRecDepth 100000 in
theorem set_spec (l : List Int) (n : Int) (g c base : Nat) (w : World) (h : NumsOwn w base (.slice (some ⟨g, 0, none⟩) l.length c) l) (hl : l.length ≤ 900000) (hbase : base ≤ w.heap.size) :
    Calls Tryz.prog 67 #[.slice (some ⟨g, 0, none⟩) l.length c, .int .i64 n] w (SetPost w base (setN l n)) := by
  obtain ⟨i0, hi, hz0, hz1, hz2⟩ := info_parts Tryz.info2
  obtain ⟨a', c', e', hcl, hat, -⟩ := h.at (by omega)
  cases e'
  have HAT : Hid (∀ W, Below w.heap.size w W → NumsAt W (some ⟨g, 0, none⟩) l) := fun W hW => hat.kept hW
  have HO : Hid (NumsOwn w base (.slice (some ⟨g, 0, none⟩) l.length c) l) := h
  clear h hat
  go_enter Tryz.func67, Tryz.ntmps67
  go_wp2
  go_loop [5] (fun i => ∃ k : Nat, k ≤ l.length ∧ i = .int .i64 k ∧ Hid (∀ q (h : q < l.length), q < k → l[q] < n)) (fun i => l.length - (intOf i).toNat)
  case atStart => exact ⟨0, Nat.zero_le _, rfl, fun _ _ h => absurd h (Nat.not_lt_zero _)⟩
  case round =>
    obtain ⟨k, hk, rfl, HI⟩ := hrel
    by_cases hlt : k < l.length
    · obtain ⟨b, off, hbo, hbb, hcell⟩ := (HAT.out _ (Below.refl _ _)).2 (by omega)
      obtain ⟨rfl, rfl⟩ : g = b ∧ 0 = off := by simpa using hbo
      have hc0 : w.cell? ⟨g, k, none⟩ = some (.int .i64 l[k]) := by have := hcell k hlt; rwa [Nat.zero_add] at this
      clear hcell
      by_cases hless : l[k] < n
      · have HN : Hid (∀ q (h : q < l.length), q < k + 1 → l[q] < n) := fun q h hq => by
          by_cases e : q = k
          · subst e
            exact hless
          · exact HI.out q h (by omega)
        go_wp2
        exact ⟨⟨k + 1, by omega, by go_num, HN⟩, by simp [intOf]; omega⟩
      · have HK : Hid (placeN l n = k) := placeN_eq hk HI.out (fun _ => hless)
        have hdl : decide (l[k] < n) = false := decide_eq_false hless
        cases heq : (l[k] == n)
        · have HNT : Hid (¬ l[placeN l n]? = some n) := by
            unfold Hid
            rw [HK.out, List.getElem?_eq_getElem hlt]
            intro q
            simp at q
            simp [q] at heq
          have hfull : ¬ k = c := by omega
          have HPT : Hid (setN l n = [] ++ l.take k ++ [n] ++ l.drop k) := by unfold Hid; rw [setN_new HNT.out, HK.out]; simp
          have HM : Hid (NumsOwn (w.alloc (.cells #[] 2)) w.heap.size (.slice (some ⟨w.heap.size, 0, none⟩) 0 0) [] ∧ Below w.heap.size w (w.alloc (.cells #[] 2))) := ⟨NumsOwn.made _ (Nat.le_refl _), (Below.refl _ _).alloc (Nat.le_refl _) _⟩
          have htk : (l.take k).length = k := by simp; omega
          have hdk : (l.drop k).length = l.length - k := by simp
          have hck : ¬ c - k = 0 := by omega
          go_wp2_with (first | (have hq := H2; clear hq; at_builtin; refine wpList_append_ns rfl _ _ 46 rfl i0 _ Tryz.underlying46 hi hz0 hz1 hz2 rfl w.heap.size _ ([] ++ l.take k ++ [n]) rfl H2.out.1 (some ⟨g, k, none⟩) (c - k) (l.drop k) (by have := (HAT.out _ H2.out.2).drop k; rwa [Nat.zero_add] at this) (by rw [hdk]; rfl) (by simp; omega) (by omega) ?_; intro v5 w5 hO hb; have H3 : Hid (NumsOwn w5 w.heap.size v5 ([] ++ l.take k ++ [n] ++ l.drop k) ∧ Below w.heap.size w w5) := ⟨hO, H2.out.2.trans hb⟩; clear hO hb) | (have hq := H1; clear hq; at_builtin; refine wpList_append_ns rfl _ _ 46 rfl i0 _ Tryz.underlying46 hi hz0 hz1 hz2 rfl w.heap.size _ ([] ++ l.take k) rfl (HA3.out _).1 _ _ [n] (numsAt_one (MapKept.heap_alloc _ _).1) rfl (by simp; omega) (by simp; omega) ?_; intro v4 w4 hO hb; have H2 : Hid (NumsOwn w4 w.heap.size v4 ([] ++ l.take k ++ [n]) ∧ Below w.heap.size w w4) := ⟨hO, (HA3.out _).2.trans hb⟩; have hs4 := H2.out.2.size; clear hO hb) | (at_builtin; refine wpList_append_ns rfl _ _ 46 rfl i0 _ Tryz.underlying46 hi hz0 hz1 hz2 rfl w.heap.size _ [] rfl HM.out.1 (some ⟨g, 0, none⟩) c (l.take k) ((HAT.out _ HM.out.2).take k) (by rw [htk]; rfl) (by simp; omega) (by simp) ?_; intro v3 w3 hO hb; have H1 : Hid (NumsOwn w3 w.heap.size v3 ([] ++ l.take k) ∧ Below w.heap.size w w3) := ⟨hO, HM.out.2.trans hb⟩; have hs3 := H1.out.2.size; have HA3 : Hid (∀ o, NumsOwn (w3.alloc o) w.heap.size v3 ([] ++ l.take k) ∧ Below w.heap.size w (w3.alloc o)) := fun o => ⟨H1.out.1.kept ((Below.refl _ _).alloc (Nat.le_refl _) _), H1.out.2.alloc H1.out.2.size _⟩; clear hO hb))
          go_ret
          exact set_new HPT.out H3.out.1 H3.out.2 hbase
        · have HST : Hid (setN l n = l) := setN_there (by rw [HK.out, List.getElem?_eq_getElem hlt]; simpa using heq)
          go_wp2
          go_ret
          exact set_there HST.out HO.out
    · have HK : Hid (placeN l n = k) := placeN_eq hk HI.out (fun h => absurd h hlt)
      have HNT : Hid (¬ l[placeN l n]? = some n) := by
        unfold Hid
        rw [HK.out, List.getElem?_eq_none (by omega)]
        simp
      by_cases hfull : k = c
      · subst hfull
        have HPT : Hid (setN l n = [] ++ l.take k ++ [n] ++ l.drop k) := by unfold Hid; rw [setN_new HNT.out, HK.out]; simp
        have HM : Hid (NumsOwn (w.alloc (.cells #[] 2)) w.heap.size (.slice (some ⟨w.heap.size, 0, none⟩) 0 0) [] ∧ Below w.heap.size w (w.alloc (.cells #[] 2))) := ⟨NumsOwn.made _ (Nat.le_refl _), (Below.refl _ _).alloc (Nat.le_refl _) _⟩
        have htk : (l.take k).length = k := by simp; omega
        have hdk : (l.drop k).length = l.length - k := by simp
        have hck : k - k = 0 := by omega
        go_wp2_with (first | (have hq := H2; clear hq; at_builtin; refine wpList_append_ns rfl _ _ 46 rfl i0 _ Tryz.underlying46 hi hz0 hz1 hz2 rfl w.heap.size _ ([] ++ l.take k ++ [n]) rfl H2.out.1 (some ⟨g, 0, none⟩) 0 (l.drop k) (by rw [List.drop_eq_nil_of_le (by omega)]; exact NumsAt.empty _) (by rw [hdk, show l.length - k = 0 by omega]; rfl) (by simp; omega) (by omega) ?_; intro v5 w5 hO hb; have H3 : Hid (NumsOwn w5 w.heap.size v5 ([] ++ l.take k ++ [n] ++ l.drop k) ∧ Below w.heap.size w w5) := ⟨hO, H2.out.2.trans hb⟩; clear hO hb) | (have hq := H1; clear hq; at_builtin; refine wpList_append_ns rfl _ _ 46 rfl i0 _ Tryz.underlying46 hi hz0 hz1 hz2 rfl w.heap.size _ ([] ++ l.take k) rfl (HA3.out _).1 _ _ [n] (numsAt_one (MapKept.heap_alloc _ _).1) rfl (by simp; omega) (by simp; omega) ?_; intro v4 w4 hO hb; have H2 : Hid (NumsOwn w4 w.heap.size v4 ([] ++ l.take k ++ [n]) ∧ Below w.heap.size w w4) := ⟨hO, (HA3.out _).2.trans hb⟩; have hs4 := H2.out.2.size; clear hO hb) | (at_builtin; refine wpList_append_ns rfl _ _ 46 rfl i0 _ Tryz.underlying46 hi hz0 hz1 hz2 rfl w.heap.size _ [] rfl HM.out.1 (some ⟨g, 0, none⟩) k (l.take k) ((HAT.out _ HM.out.2).take k) (by rw [htk]; rfl) (by simp; omega) (by simp) ?_; intro v3 w3 hO hb; have H1 : Hid (NumsOwn w3 w.heap.size v3 ([] ++ l.take k) ∧ Below w.heap.size w w3) := ⟨hO, HM.out.2.trans hb⟩; have hs3 := H1.out.2.size; have HA3 : Hid (∀ o, NumsOwn (w3.alloc o) w.heap.size v3 ([] ++ l.take k) ∧ Below w.heap.size w (w3.alloc o)) := fun o => ⟨H1.out.1.kept ((Below.refl _ _).alloc (Nat.le_refl _) _), H1.out.2.alloc H1.out.2.size _⟩; clear hO hb))
        go_ret
        exact set_new HPT.out H3.out.1 H3.out.2 hbase
      · have HPT : Hid (setN l n = [] ++ l.take k ++ [n] ++ l.drop k) := by unfold Hid; rw [setN_new HNT.out, HK.out]; simp
        have HM : Hid (NumsOwn (w.alloc (.cells #[] 2)) w.heap.size (.slice (some ⟨w.heap.size, 0, none⟩) 0 0) [] ∧ Below w.heap.size w (w.alloc (.cells #[] 2))) := ⟨NumsOwn.made _ (Nat.le_refl _), (Below.refl _ _).alloc (Nat.le_refl _) _⟩
        have htk : (l.take k).length = k := by simp; omega
        have hdk : (l.drop k).length = l.length - k := by simp
        have hck : ¬ c - k = 0 := by omega
        go_wp2_with (first | (have hq := H2; clear hq; at_builtin; refine wpList_append_ns rfl _ _ 46 rfl i0 _ Tryz.underlying46 hi hz0 hz1 hz2 rfl w.heap.size _ ([] ++ l.take k ++ [n]) rfl H2.out.1 (some ⟨g, k, none⟩) (c - k) (l.drop k) (by have := (HAT.out _ H2.out.2).drop k; rwa [Nat.zero_add] at this) (by rw [hdk]; rfl) (by simp; omega) (by omega) ?_; intro v5 w5 hO hb; have H3 : Hid (NumsOwn w5 w.heap.size v5 ([] ++ l.take k ++ [n] ++ l.drop k) ∧ Below w.heap.size w w5) := ⟨hO, H2.out.2.trans hb⟩; clear hO hb) | (have hq := H1; clear hq; at_builtin; refine wpList_append_ns rfl _ _ 46 rfl i0 _ Tryz.underlying46 hi hz0 hz1 hz2 rfl w.heap.size _ ([] ++ l.take k) rfl (HA3.out _).1 _ _ [n] (numsAt_one (MapKept.heap_alloc _ _).1) rfl (by simp; omega) (by simp; omega) ?_; intro v4 w4 hO hb; have H2 : Hid (NumsOwn w4 w.heap.size v4 ([] ++ l.take k ++ [n]) ∧ Below w.heap.size w w4) := ⟨hO, (HA3.out _).2.trans hb⟩; have hs4 := H2.out.2.size; clear hO hb) | (at_builtin; refine wpList_append_ns rfl _ _ 46 rfl i0 _ Tryz.underlying46 hi hz0 hz1 hz2 rfl w.heap.size _ [] rfl HM.out.1 (some ⟨g, 0, none⟩) c (l.take k) ((HAT.out _ HM.out.2).take k) (by rw [htk]; rfl) (by simp; omega) (by simp) ?_; intro v3 w3 hO hb; have H1 : Hid (NumsOwn w3 w.heap.size v3 ([] ++ l.take k) ∧ Below w.heap.size w w3) := ⟨hO, HM.out.2.trans hb⟩; have hs3 := H1.out.2.size; have HA3 : Hid (∀ o, NumsOwn (w3.alloc o) w.heap.size v3 ([] ++ l.take k) ∧ Below w.heap.size w (w3.alloc o)) := fun o => ⟨H1.out.1.kept ((Below.refl _ _).alloc (Nat.le_refl _) _), H1.out.2.alloc H1.out.2.size _⟩; clear hO hb))
        go_ret
        exact set_new HPT.out H3.out.1 H3.out.2 hbase
end Go.Proofs.YteajcmkaoahbeaaGreatDoor
