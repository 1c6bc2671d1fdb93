/- A row of numbers of one's own from which the first is taken, and to which others are put. -/
import Derived.Test.YtegjdngkbofogaaGaPlain
import Derived.Test.YtegjdngkbofogaaEvCopyS
import Derived.ArgAppend
namespace Go.Proofs.Ytegjdngkbofogaa
open Go.RowKit

/-- Such a row, in a block from lo on. -/
structure TodoAt (W : World) (lo : Nat) (q : Option Addr) (c : Nat) (zs : List Int) : Prop where
  le : zs.length ≤ c
  row : 0 < c → ∃ b off C, q = some ⟨b, off, none⟩ ∧ lo ≤ b ∧ W.heap[b]? = some (.cells C 2 (0, 0)) ∧ off + c ≤ C.size ∧ ∀ j (h : j < zs.length), C[off + j]? = some (.int .i64 zs[j])
theorem TodoAt.ofOwn {W : World} {lo n : Nat} {v : Value} {zs : List Int} (h : W.ownsRow lo 2 1 v n (nv zs)) : ∃ q c, v = .slice q n c ∧ n = zs.length ∧ TodoAt W lo q c zs := by
  have hn : n = zs.length := by have := h.1; simpa [nv] using this.symm
  subst hn
  rcases h.2 with ⟨rfl, h0⟩ | ⟨g, cap, cur, rfl, hb, hg, hle, _, hsz, ht⟩
  · exact ⟨none, 0, by rw [h0], rfl, by omega, fun h => absurd h (Nat.lt_irrefl 0)⟩
  · refine ⟨_, cap, rfl, rfl, hle, fun _ => ⟨g, 0, cur, rfl, hb, hg, by omega, fun j hj => ?_⟩⟩
    have h1 : (cur.toList.take (zs.length * 1))[j]? = (nv zs)[j]? := by rw [ht]
    rw [List.getElem?_take_of_lt (by omega)] at h1
    rw [Nat.zero_add, ← Array.getElem?_toList, h1]
    simp [nv, hj]
theorem TodoAt.kept {W W' : World} {lo : Nat} {q : Option Addr} {c : Nat} {zs : List Int} (h : TodoAt W lo q c zs) (hk : ∀ b, lo ≤ b → b < W.heap.size → W'.heap[b]? = W.heap[b]?) : TodoAt W' lo q c zs := by
  refine ⟨h.le, fun hc => ?_⟩
  obtain ⟨b, off, C, hq, hb, hC, r⟩ := h.row hc
  exact ⟨b, off, C, hq, hb, (hk b hb (Array.getElem?_eq_some_iff.1 hC).1).trans hC, r⟩
theorem setCells_heap {t : TypeId} (b : Nat) : ∀ (vs : List Value) (o : Nat) (w : World) (C : Array Value), w.heap[b]? = some (.cells C t (0, 0)) → (∃ C', (w.setCells b o vs).heap[b]? = some (.cells C' t (0, 0)) ∧ C'.size = C.size) ∧ (∀ lo, lo ≤ b → Below lo w (w.setCells b o vs))
  | [], _, w, C, h => ⟨⟨C, h, rfl⟩, fun lo _ => Below.refl _ _⟩
  | v :: r, o, w, C, h => by
    have h1 := heap_set (i := o) h v
    obtain ⟨⟨C', e1, e2⟩, e3⟩ := setCells_heap b r (o + 1) _ _ h1
    rw [World.setCells]
    exact ⟨⟨C', e1, by simpa using e2⟩, fun lo hlo => ((Below.refl lo w).setCell hlo v).trans (e3 lo hlo)⟩
theorem grown_below {w w' : World} {lo : Nat} (h : w.grownBy w' none) (hlo : lo ≤ w.heap.size) : Below lo w w' := ⟨h.os, h.tape, h.output, h.size, fun k hk => h.block k (by omega) (by simp)⟩
theorem wpList_append_todo {w : World} {ops : Array Oper} {rest : List Oper} {o : Oper} {a : Act} {Q : Exit → Act → World → Prop} (hgd : o.guard = none) (s x : Operand) (t : TypeId)
    (ho : o.op = .call { callee := .builtin .append, args := #[s, x], argTypes := #[t, t] })
    (i : TypeInfo) (z : Value) (ht : Try.prog.underlying t = some (.slice 2)) (hi : Try.prog.info? 2 = some i) (hz : i.zero = some z)
    (hsize : i.size = 1) (hby : i.bytes = 8) (hzs : z.cells.size = 1)
    (lo : Nat) (q : Option Addr) (c : Nat) (zs : List Int) (hs : a.eval s = .slice q zs.length c) (hq : TodoAt w lo q c zs) (hlo : lo ≤ w.heap.size)
    (p : Option Addr) (cap : Nat) (ps : List Int) (hn : NumsAt w p ps) (hx : a.eval x = .slice p ps.length cap)
    (hb : zs.length + ps.length ≤ 1000000)
    (h : ∀ q' c' w', TodoAt w' lo q' c' (zs ++ ps) → Below lo w w' → wpList Try.prog ops Q rest (a.put o.dst (.slice q' (zs ++ ps).length c')) w') : wpList Try.prog ops Q (o :: rest) a w := by
  by_cases hp : 0 < ps.length
  · obtain ⟨pb, poff, rfl, hpb, hpc⟩ := hn.2 hp
    have hsrc : ∀ j u, (nv ps)[j]? = some u → w.cell? ((⟨pb, poff, none⟩ : Addr).add j) = some u := fun j u hj => by
      rw [Addr.add_lit]
      have hjl : j < ps.length := by
        rcases Nat.lt_or_ge j ps.length with h | h
        · exact h
        · rw [List.getElem?_eq_none (by rw [nv_lenC]; exact h)] at hj; cases hj
      rw [hpc j hjl, ← hj]
      simp [nv, hjl]
    have grows : ∀ v' w', w'.ownsRow w.heap.size 2 1 v' (zs.length + ps.length) (nv zs ++ nv ps) → w.grownBy w' none → wpList Try.prog ops Q rest (a.put o.dst v') w' := fun v' w' hown hg => by
      have e : nv zs ++ nv ps = nv (zs ++ ps) := by simp [nv]
      rw [e] at hown
      obtain ⟨q', c', rfl, hl, hT⟩ := TodoAt.ofOwn hown
      rw [hl]
      refine h q' c' w' ⟨hT.le, fun hc => ?_⟩ (grown_below hg hlo)
      obtain ⟨b, off, C, hq', hb', r⟩ := hT.row hc
      exact ⟨b, off, C, hq', Nat.le_trans hlo hb', r⟩
    by_cases hc : 0 < c
    · obtain ⟨b, off, C, rfl, hbl, hC, hsz, hcell⟩ := hq.row hc
      refine wpList_append_arg w hgd s x t ho 2 i z 1 8 ht hi hz hsize hby hzs (by decide) b off zs.length c (nv zs) hs (by simp [nv]) (fun j u hj => ?_) ⟨pb, poff, none⟩ ps.length cap (nv ps) hx (by simp [nv]) hsrc (nv_oneC ps) (fun hr j hj => ?_) (by unfold maxLen; omega) (by omega) (fun hr => ?_) (fun hr v' w' hown hg => grows v' w' hown hg)
      · rw [cell_of_heap hC]
        have hjl : j < zs.length := by
          rcases Nat.lt_or_ge j zs.length with h | h
          · exact h
          · rw [List.getElem?_eq_none (by rw [nv_lenC]; exact h)] at hj; cases hj
        rw [hcell j hjl, ← hj]
        simp [nv, hjl]
      · rw [nv_lenC] at hj
        refine ⟨?_, frozen_of_heap hC⟩
        rw [cell_of_heap hC, Array.getElem?_eq_getElem (by omega)]
        rfl
      · obtain ⟨⟨C', e1, e2⟩, e3⟩ := setCells_heap b (nv ps) (off + zs.length * 1) w C hC
        have el : (zs ++ ps).length = zs.length + ps.length := by simp
        rw [← el]
        refine h _ c _ ⟨by rw [el]; exact hr, fun _ => ⟨b, off, C', rfl, hbl, e1, by rw [e2]; exact hsz, fun j hj => ?_⟩⟩ (e3 lo hbl)
        rw [← cell_of_heap e1]
        by_cases hjz : j < zs.length
        · rw [World.cell?_setCells_out b (nv ps) _ w _ (fun _ _ => .inl (by simp; omega)), cell_of_heap hC, hcell j hjz, List.getElem_append_left hjz]
        · have hj2 : j - zs.length < ps.length := by omega
          have := World.cell?_setCells_in b (nv ps) (off + zs.length * 1) w (fun k hk => by
            rw [nv_lenC] at hk
            rw [cell_of_heap hC, Array.getElem?_eq_getElem (by omega)]
            rfl) (j - zs.length) (by rw [nv_lenC]; exact hj2)
          rw [show off + j = off + zs.length * 1 + (j - zs.length) by omega, this, List.getElem_append_right (by omega)]
          simp [nv]
    · have hz0 : zs = [] := List.eq_nil_of_length_eq_zero (by have := hq.le; omega)
      subst hz0
      obtain rfl : c = 0 := by omega
      exact wpList_append_grows w hgd s x t ho 2 i z 1 8 ht hi hz hsize hby hzs (by decide) q 0 0 [] hs (fun _ => ⟨rfl, rfl⟩) rfl (fun _ _ j u hj => by cases hj) ⟨pb, poff, none⟩ ps.length cap (nv ps) hx (by simp [nv]) hsrc (nv_oneC ps) (by omega) (by unfold maxLen; omega) (by omega) (fun v' w' hown hg => grows v' w' hown hg)
  · have h0 : ps = [] := List.eq_nil_of_length_eq_zero (by omega)
    subst h0
    refine wpList_plain hgd fun K hK => ?_
    have hrun : (Builtin.append_ #[t, t] o.type #[.slice q zs.length c, .slice p 0 cap]).run Try.prog w = .ok (.slice q zs.length c) w := by
      cases p
      · exact run_append_nothing w t t o.type 2 i ht hi q _ c hq.le _ (Src.ofNil w ht cap)
      · exact run_append_nothing w t t o.type 2 i ht hi q _ c hq.le _ (Src.ofSlice w ht _ 0 cap [] (by simp) (fun j u h => by simp at h) (fun u h => by cases h))
    unfold Oper.wp
    simp [execOp, ho, resolve, invoke, builtin, hs, hx, hrun, Result.andThen]
    have := h q c w (by simpa using hq) (Below.refl _ _)
    exact hK _ _ (by simpa using this)
end Go.Proofs.Ytegjdngkbofogaa
