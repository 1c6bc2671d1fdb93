/- The program's map of what stands: what is put into it, and taken out of it. -/
import Derived.Test.YtjdkenopfnepaaaSuPlain
namespace Go.Proofs.Ytjdkenopfnepaaa
open Go.RowKit

/-- A map holds these. -/
structure MapIs (D : DataW Value) (f : Slots) : Prop where
  isMap : Maps.IsMap D
  at_ : ∀ {k y : Int}, (Lit.int .i64 k).wf = true → (Lit.int .i64 y).wf = true → ∀ z : DataW Value, D.atKey (slotLit k y) z = match f k y with | some v => .held (.int .i64 v) | none => z
  has : ∀ {k y : Int}, (Lit.int .i64 k).wf = true → (Lit.int .i64 y).wf = true → Maps.has D (slotLit k y) = (f k y).isSome
  dom : ∀ k y v, f k y = some v → (Lit.int .i64 k).wf = true ∧ (Lit.int .i64 y).wf = true
theorem mapIs_putS {l : List En} (hin : ∀ x ∈ l, EnIn x) : MapIs (putS l) (lookS l) := ⟨putS_isMap l, fun hk hy z => at_putS hk hy l hin z, fun hk hy => has_putS hk hy l hin, fun k y v h => by
  obtain ⟨x, hx, rfl, rfl, _⟩ := lookS_some h
  exact hin x hx⟩
theorem MapIs.put {D : DataW Value} {f : Slots} (h : MapIs D f) {x : En} (hx : EnIn x) : MapIs (D.put (slotLit x.kind x.key) (.held (.int .i64 x.id))) (upd f x (some x.id)) := by
  refine ⟨?_, fun {k y} hk hy z => ?_, fun {k y} hk hy => ?_, fun k y v hv => ?_⟩
  · obtain ⟨xs, e⟩ := h.isMap
    rw [e]
    exact ⟨_, rfl⟩
  · by_cases e : x.kind = k ∧ x.key = y
    · rw [← e.1, ← e.2, upd_same]
      exact Maps.atKey_put_same h.isMap (by trivial) _ z
    · rw [upd_other _ _ _ e, ← h.at_ hk hy z]
      exact Maps.atKey_put_other (fun c => e (slotLit_inj hx.1 hx.2 hk hy c.symm)) _ z
  · by_cases e : x.kind = k ∧ x.key = y
    · rw [← e.1, ← e.2, upd_same, Maps.has_put_same h.isMap (by trivial)]
      rfl
    · rw [upd_other _ _ _ e, ← h.has hk hy]
      exact Maps.has_put_other (fun c => e (slotLit_inj hx.1 hx.2 hk hy c.symm)) _
  · by_cases e : x.kind = k ∧ x.key = y
    · rw [← e.1, ← e.2]
      exact hx
    · rw [upd_other _ _ _ e] at hv
      exact h.dom k y v hv
theorem MapIs.del {D : DataW Value} {f : Slots} (h : MapIs D f) {x : En} (hx : EnIn x) : MapIs (D.del (slotLit x.kind x.key)) (upd f x none) := by
  refine ⟨?_, fun {k y} hk hy z => ?_, fun {k y} hk hy => ?_, fun k y v hv => ?_⟩
  · obtain ⟨xs, e⟩ := h.isMap
    rw [e]
    exact ⟨_, rfl⟩
  · by_cases e : x.kind = k ∧ x.key = y
    · rw [← e.1, ← e.2, upd_same]
      exact Maps.atKey_del_same z
    · rw [upd_other _ _ _ e, ← h.at_ hk hy z]
      exact Maps.atKey_del_other (fun c => e (slotLit_inj hx.1 hx.2 hk hy c.symm)) z
  · by_cases e : x.kind = k ∧ x.key = y
    · rw [← e.1, ← e.2, upd_same, Maps.has_del_same]
      rfl
    · rw [upd_other _ _ _ e, ← h.has hk hy]
      exact Maps.has_del_other (fun c => e (slotLit_inj hx.1 hx.2 hk hy c.symm))
  · by_cases e : x.kind = k ∧ x.key = y
    · rw [← e.1, ← e.2, upd_same] at hv
      cases hv
    · rw [upd_other _ _ _ e] at hv
      exact h.dom k y v hv
/-- A map of one's own in memory. -/
def SMap (w : World) (b n : Nat) (f : Slots) : Prop := ∃ D, w.ownsMap Try.prog 114 heldS b n D ∧ MapIs D f
theorem SMap.lt {w : World} {b n : Nat} {f : Slots} (h : SMap w b n f) : b < w.heap.size := h.elim fun _ h => h.1.lt
theorem SMap.kept {w w' : World} {b n : Nat} {f : Slots} (h : SMap w b n f) (hb : Below w.heap.size w w') : SMap w' b n f := h.elim fun D h => ⟨D, ownsMap_below' h.1 hb, h.2⟩
theorem SMap.look {w : World} {b n : Nat} {f : Slots} (h : SMap w b n f) {k y : Int} (hk : (Lit.int .i64 k).wf = true) (hy : (Lit.int .i64 y).wf = true) :
    (Instr.lookup 103 (.map (some b)) (.agg #[.int .i64 k, .int .i64 y]) false).run Try.prog w = .ok (.int .i64 ((f k y).getD 0)) w := by
  obtain ⟨D, hown, hD⟩ := h
  obtain ⟨v, ps, hrun, hv⟩ := hown.lookup slot_keyed Try.underlying103 (zero_int64 w) (zd := .held (.int .i64 0)) (zp := []) rfl (keyOf_slot hk hy)
  rw [hD.at_ hk hy] at hv
  have hvz : v = .int .i64 ((f k y).getD 0) := by
    cases c : f k y with
    | none =>
      rw [c] at hv
      simp only [heldS, Option.some.injEq, Prod.mk.injEq, DataW.held.injEq] at hv
      exact hv.1
    | some x =>
      rw [c] at hv
      simp only [heldS, Option.some.injEq, Prod.mk.injEq, DataW.held.injEq] at hv
      exact hv.1
  rw [hrun, hvz]
set_option maxHeartbeats 4000000 in
set_option maxRecDepth 100000 in
theorem put_any (x : En) (D : DataW Value) (b n : Nat) (w : World) (h : w.ownsMap Try.prog 114 heldS b n D) (hn : n < maxLen) (hin : EnIn x) (hid : (x.id == 0) = false) :
    Calls Try.prog 77 #[.map (some b), .agg #[.int .i64 x.kind, .int .i64 x.key, .int .i64 x.id]] w fun e w' => e = .returned (.tuple #[]) ∧ w'.ownsMap Try.prog 114 heldS b (n + 1) (D.put (slotLit x.kind x.key) (.held (.int .i64 x.id))) ∧ w.grownBy w' (some b) := by
  have hbw : b ≠ w.heap.size := by have := h.lt; omega
  have hbw' : w.heap.size ≠ b := fun e => hbw e.symm
  have hbw := hbw'
  have H : Hid (w.ownsMap Try.prog 114 heldS b n D ∧ n < maxLen) := ⟨h, hn⟩
  clear h hn
  go_enter Try.func77, Try.ntmps77
  go_wp2
  refine wp_region_held_drew (S := (fun W => W.heap[w.heap.size]? = some (.cells #[.int .i64 x.kind, .int .i64 x.key, .int .i64 x.id] 40 (0, 0)))) (by kernel_rfl) (MapKept.heap_alloc w _).1 (fun hHeld => ?_)
  refine wpAnyH_take (i := 0) (v := (.map (some b))) rfl (by kernel_rfl) (by kernel_rfl) (by kernel_rfl) (fun _ _ _ h => h) (Or.inl ⟨by kernel_rfl, ?_⟩) hHeld ?_
  · intro W hW
    go_simp
  refine wpAnyH_take (i := 1) (v := (.agg #[.int .i64 x.kind, .int .i64 x.key, .int .i64 x.id])) rfl (by kernel_rfl) (by kernel_rfl) (by kernel_rfl) (fun _ _ _ h => h) (Or.inl ⟨by kernel_rfl, ?_⟩) hHeld ?_
  · intro W hW
    have f0 : W.cell? ⟨w.heap.size, 0, none⟩ = some (.int .i64 x.kind) := cell_of_heap hW
    have f1 : W.cell? ⟨w.heap.size, 1, none⟩ = some (.int .i64 x.key) := cell_of_heap hW
    have f2 : W.cell? ⟨w.heap.size, 2, none⟩ = some (.int .i64 x.id) := cell_of_heap hW
    go_simp
  refine wpAnyH_take (i := 3) (v := (.pointer (some ⟨w.heap.size, 2, none⟩))) rfl (by kernel_rfl) (by kernel_rfl) (by kernel_rfl) (fun _ _ _ h => h) (Or.inl ⟨by kernel_rfl, ?_⟩) hHeld ?_
  · intro W hW
    go_simp
  refine wpAnyH_take (i := 4) (v := (.int .i64 x.id)) rfl (by kernel_rfl) (by kernel_rfl) (by kernel_rfl) (fun _ _ _ h => h) (Or.inl ⟨by kernel_rfl, ?_⟩) hHeld ?_
  · intro W hW
    have f2 : W.cell? ⟨w.heap.size, 2, none⟩ = some (.int .i64 x.id) := cell_of_heap hW
    go_simp
  refine wpAnyH_ready (rs := [2]) (by kernel_rfl) (by simp) ?_
  refine AllReadyH.cons rfl (fun K hK => ?_) AllReadyH.nil
  go_simp
  refine (slotOf_impl x _).mono ?_
  rintro e w2 ⟨rfl, hb2⟩
  have hd2 : w2.heap[w.heap.size]? = some (.cells #[.int .i64 x.kind, .int .i64 x.key, .int .i64 x.id] 40 (0, 0)) := (hb2.block _ (by simp)).trans hHeld
  have hg2 : w.grownBy w2 (some b) := ⟨hb2.os, hb2.tape, hb2.output, Nat.le_trans (by simp) hb2.size, fun k hk _ => (hb2.block k (by simp; omega)).trans (Below.heap_alloc _ _ _ hk)⟩
  have HO2 : Hid (w2.ownsMap Try.prog 114 heldS b n D) := ownsMap_below' (H.out.1.alloc _).drew hb2
  clear hb2
  refine hK.out _ _ hd2 (fun hH2 => ?_)
  clear hK K
  obtain ⟨w3, hrun, hown3, hg3⟩ := HO2.out.update slot_keyed Try.underlying103 H.out.2 (keyOf_slot hin.1 hin.2) (val := .int .i64 x.id) (d := .held (.int .i64 x.id)) (ps := []) rfl
  have hd3 : w3.heap[w.heap.size]? = some (.cells #[.int .i64 x.kind, .int .i64 x.key, .int .i64 x.id] 40 (0, 0)) := (hg3.block _ (Array.getElem?_eq_some_iff.1 hd2).1 (fun e => hbw (by cases e; rfl))).trans hd2
  have HW3 : Hid (w3.ownsMap Try.prog 114 heldS b (n + 1) (D.put (slotLit x.kind x.key) (.held (.int .i64 x.id))) ∧ w.grownBy w3 (some b)) := ⟨hown3, hg2.andThen hg3 (fun _ h => .inr h)⟩
  clear hown3 hg3
  refine wpAnyH_ready (rs := [5]) (by kernel_rfl) (by simp) ?_
  refine AllReadyH.cons rfl (fun K hK => ?_) AllReadyH.nil
  go_simp
  refine hK.out _ _ hd3 (fun hH3 => ?_)
  clear hK K
  refine wpAnyH_done (by kernel_rfl) ?_ _
  go_wp2
  go_end0
  exact ⟨rfl, HW3.out.1, HW3.out.2⟩
theorem smap_put (x : En) (f : Slots) (b n : Nat) (w : World) (h : SMap w b n f) (hn : n < maxLen) (hin : EnIn x) (hid : (x.id == 0) = false) :
    Calls Try.prog 77 #[.map (some b), .agg #[.int .i64 x.kind, .int .i64 x.key, .int .i64 x.id]] w fun e w' => e = .returned (.tuple #[]) ∧ SMap w' b (n + 1) (upd f x (some x.id)) ∧ w.grownBy w' (some b) := by
  obtain ⟨D, hown, hD⟩ := h
  refine (put_any x D b n w hown hn hin hid).mono ?_
  rintro e w' ⟨rfl, h1, h2⟩
  exact ⟨rfl, ⟨_, h1, hD.put hin⟩, h2⟩
set_option maxHeartbeats 4000000 in
set_option maxRecDepth 100000 in
theorem del_any (xk xy : Int) (D : DataW Value) (b n : Nat) (w : World) (h : w.ownsMap Try.prog 114 heldS b n D) (hk : (Lit.int .i64 xk).wf = true) (hy : (Lit.int .i64 xy).wf = true) :
    Calls Try.prog 77 #[.map (some b), .agg #[.int .i64 xk, .int .i64 xy, .int .i64 0]] w fun e w' => e = .returned (.tuple #[]) ∧ w'.ownsMap Try.prog 114 heldS b n (D.del (slotLit xk xy)) ∧ w.grownBy w' (some b) := by
  have H : Hid (∀ o, (w.alloc o).ownsMap Try.prog 114 heldS b n D) := fun o => h.alloc o
  have HK : Hid (keyOf Try.prog 114 (.agg #[.int .i64 xk, .int .i64 xy]) = some (slotLit xk xy)) := keyOf_slot hk hy
  clear h hk hy
  go_enter Try.func77, Try.ntmps77
  go_wp2_with fail
  refine (slotOf_impl ⟨xk, xy, 0⟩ _).mono ?_
  rintro e w2 ⟨rfl, hb2⟩
  have HO2 : Hid (w2.ownsMap Try.prog 114 heldS b n D) := ownsMap_below' (H.out _) hb2
  have HG2 : Hid (w.grownBy w2 (some b)) := ⟨hb2.os, hb2.tape, hb2.output, Nat.le_trans (by simp) hb2.size, fun k hk _ => (hb2.block k (by simp; omega)).trans (Below.heap_alloc _ _ _ hk)⟩
  clear hb2
  go_wp2_with (at_delete; refine wpList_delete_own _ rfl _ _ 103 114 rfl 2 slot_keyed Try.underlying103 heldS b n D rfl HO2.out _ _ rfl HK.out ?_; intro w3 hown3 hturn3; have H3 : Hid (w3.ownsMap Try.prog 114 heldS b n (D.del (slotLit xk xy)) ∧ w.grownBy w3 (some b)) := ⟨hown3, HG2.out.andThen hturn3.grown (fun _ h => .inr h)⟩; clear hown3 hturn3)
  refine bodyPost_ret (v := .tuple #[]) (by simp [results, Try.results77, go_sem]) rfl ⟨rfl, H3.out.1, H3.out.2⟩
theorem smap_del (x : En) (f : Slots) (b n : Nat) (w : World) (h : SMap w b n f) (hin : EnIn x) (hid : (x.id == 0) = true) :
    Calls Try.prog 77 #[.map (some b), .agg #[.int .i64 x.kind, .int .i64 x.key, .int .i64 x.id]] w fun e w' => e = .returned (.tuple #[]) ∧ SMap w' b n (upd f x none) ∧ w.grownBy w' (some b) := by
  obtain ⟨D, hown, hD⟩ := h
  have hi : x.id = 0 := by simpa using hid
  rw [hi]
  refine (del_any x.kind x.key D b n w hown hin.1 hin.2).mono ?_
  rintro e w' ⟨rfl, h1, h2⟩
  exact ⟨rfl, ⟨_, h1, hD.del hin⟩, h2⟩
/-- One step of a range over such a map. -/
theorem wpList_next_M {w : World} {ops : Array Oper} {rest : List Oper} {o : Oper} {a : Act} {Q : Exit → Act → World → Prop} (hg : o.guard = none) (it : Operand) (hop : o.op = Op.next it false) (b r n : Nat) (D : DataW Value) (f : Slots) (hD : MapIs D f) (left : Lit → Bool) (cnt : Nat)
    (hit : a.eval it = .pointer (some ⟨r, 0, none⟩)) (h : w.ranges Try.prog 114 heldS b r n D left cnt)
    (hDone : cnt = 0 → (∀ kl, left kl = false) → wpList Try.prog ops Q rest (a.put o.dst (.tuple #[.bool false])) w)
    (hMore : ∀ (k y v : Int) (w' : World) (cnt' : Nat), (Lit.int .i64 k).wf = true → (Lit.int .i64 y).wf = true → f k y = some v → left (slotLit k y) = true → w'.ranges Try.prog 114 heldS b r n D (fun z => left z && !z.sameKey (slotLit k y)) cnt' → cnt' < cnt → w.grownBy w' (some r) → w'.heap.size = w.heap.size →
      (Instr.entry (.pointer (some ⟨r, 0, none⟩))).run Try.prog w' = .ok (.tuple #[.agg #[.int .i64 k, .int .i64 y], .int .i64 v]) w' → wpList Try.prog ops Q rest (a.put o.dst (.tuple #[.bool true, .agg #[.int .i64 k, .int .i64 y], .int .i64 v])) w') :
    wpList Try.prog ops Q (o :: rest) a w :=
  wpList_next_ranges w hg it hop 114 slot_keyed heldS slotVal id (fun key kl hkey => by
      obtain ⟨k, y, rfl, _⟩ := keyOf_slot_inv hkey
      exact ⟨(k, y), rfl⟩) (fun v _ _ => ⟨v, rfl⟩) b r n D left cnt hit h hDone (fun x c kl y w' cnt' hkey hlk hv hat hrg hlt hgr hsz hen => by
    obtain ⟨k1, y1⟩ := x
    obtain ⟨k2, y2, ex, rfl, wk, wy⟩ := keyOf_slot_inv hkey
    obtain ⟨rfl, rfl⟩ : k1 = k2 ∧ y1 = y2 := by simpa [slotVal] using ex
    have hy : y.1 = .held c := by
      have h1 : heldS c = some y := hv
      unfold heldS at h1
      cases h1
      rfl
    rw [hy] at hat
    obtain ⟨v, hlv, rfl⟩ : ∃ v, f k1 y1 = some v ∧ c = .int .i64 v := by
      cases e : f k1 y1 with
      | none =>
        have h1 := hat (.held (.bool true))
        have h2 := hat (.held (.bool false))
        rw [hD.at_ wk wy, e] at h1 h2
        have := h1.trans h2.symm
        simp at this
      | some v =>
        refine ⟨v, rfl, ?_⟩
        have h1 := hat (.held c)
        rw [hD.at_ wk wy, e] at h1
        simpa using h1.symm
    exact hMore k1 y1 v w' cnt' wk wy hlv hlk hrg hlt hgr hsz hen)
end Go.Proofs.Ytjdkenopfnepaaa
