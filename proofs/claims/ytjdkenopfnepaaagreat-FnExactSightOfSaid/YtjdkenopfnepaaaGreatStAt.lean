/- What stands at a kind and a key: the specification; the program's map: its keys, one step of a range over it. -/
import Derived.Test.YtjdkenopfnepaaaGreatSt7
import Derived.Maps.RangeWalk
namespace Go.Proofs.YtjdkenopfnepaaaGreat
open Go.RowKit

theorem stAt_hit {xs : List En} {k y : Int} {i : Nat} (hi : i < xs.length) (h1 : (xs[i].kind == k) = true) (h2 : (xs[i].key == y) = true) (hno : ∀ j (h : j < xs.length), j < i → ((xs[j].kind == k) && (xs[j].key == y)) = false) : stAt xs k y = xs[i].id := by
  have : xs.find? (fun x => (x.kind == k) && (x.key == y)) = some xs[i] := by
    rw [List.find?_eq_some_iff_getElem]
    exact ⟨by rw [h1, h2]; rfl, i, hi, rfl, fun j hj => by rw [hno j (by omega) hj]; rfl⟩
  unfold stAt
  rw [this]
theorem stAt_miss {xs : List En} {k y : Int} (hno : ∀ j (h : j < xs.length), ((xs[j].kind == k) && (xs[j].key == y)) = false) : stAt xs k y = 0 := by
  have : xs.find? (fun x => (x.kind == k) && (x.key == y)) = none := by
    rw [List.find?_eq_none]
    intro x hx
    obtain ⟨j, hj, rfl⟩ := List.getElem_of_mem hx
    rw [hno j hj]
    decide
  unfold stAt
  rw [this]
set_option maxHeartbeats 4000000 in
set_option maxRecDepth 100000 in
theorem sat_spec (xs : List En) (q y : Int) (a : Option Addr) (cap : Nat) (w : World) (h : EnsAt w a xs) :
    Calls Tryz.prog 97 #[.slice a xs.length cap, .int .i64 q, .int .i64 y] w fun e w' => e = .returned (.int .i64 (stAt xs q y)) ∧ w = w' := by
  have hl := h.len
  have H : Hid (EnsAt w a xs) := h
  clear h
  go_enter Tryz.func97, Tryz.ntmps97
  go_wp2
  go_loop [7] (fun i => ∃ k : Nat, k ≤ xs.length ∧ i = .int .i64 k ∧ Hid (∀ j (h : j < xs.length), j < k → ((xs[j].kind == q) && (xs[j].key == y)) = false)) (fun i => xs.length - (intOf i).toNat)
  case atStart => exact ⟨0, Nat.zero_le _, rfl, fun _ _ h => absurd h (Nat.not_lt_zero _)⟩
  case round =>
    obtain ⟨k, hk, rfl, HO⟩ := hrel
    by_cases hlt : k < xs.length
    · obtain ⟨b, off, rfl, hbb, hcell⟩ := H.out.row (by omega)
      have hc0 : w.cell? ⟨b, off + k * 3, none⟩ = some (.int .i64 xs[k].kind) := hcell k hlt 0 (by omega)
      have hc1 : w.cell? ⟨b, off + k * 3 + 1, none⟩ = some (.int .i64 xs[k].key) := by
        have := hcell k hlt 1 (by omega)
        rwa [← Nat.add_assoc] at this
      have hc2 : w.cell? ⟨b, off + k * 3 + 2, none⟩ = some (.int .i64 xs[k].id) := by
        have := hcell k hlt 2 (by omega)
        rwa [← Nat.add_assoc] at this
      clear hcell
      have next : ((xs[k].kind == q) && (xs[k].key == y)) = false → Hid (∀ j (h : j < xs.length), j < k + 1 → ((xs[j].kind == q) && (xs[j].key == y)) = false) := fun hf j h hj => by
        by_cases e : j = k
        · subst e
          exact hf
        · exact HO.out j h (by omega)
      cases h1 : (xs[k].kind == q)
      · have HN := next (by rw [h1]; rfl)
        clear next
        go_wp2
        exact ⟨⟨k + 1, by omega, by go_num, HN⟩, by simp [intOf]; omega⟩
      · cases h2 : (xs[k].key == y)
        · have HN := next (by rw [h1, h2]; rfl)
          clear next
          go_wp2
          exact ⟨⟨k + 1, by omega, by go_num, HN⟩, by simp [intOf]; omega⟩
        · have HS : Hid (stAt xs q y = xs[k].id) := stAt_hit hlt h1 h2 HO.out
          clear next
          go_wp2
          go_ret
          exact ⟨ret_int HS.out.symm, rfl⟩
    · have HS : Hid (stAt xs q y = 0) := stAt_miss fun j h => HO.out j h (by omega)
      go_wp2
      go_ret
      exact ⟨ret_int HS.out.symm, rfl⟩
def slotVal (p : Int × Int) : Value := .agg #[.int .i64 p.1, .int .i64 p.2]
set_option maxRecDepth 100000 in
theorem keyLits_i64 (d : Nat) (x : Value) {ls : List Lit} (h : Tryz.prog.keyLits (d + 1) 2 [x] = some ls) : ∃ k, x = .int .i64 k ∧ ls = [.int .i64 k] ∧ (Lit.int .i64 k).wf = true := by
  unfold Program.keyLits at h
  rw [Tryz.underlying2] at h
  cases x <;> simp at h
  rename_i q k
  obtain ⟨⟨rfl, hw⟩, rfl⟩ := h
  exact ⟨k, rfl, rfl, hw⟩
set_option maxRecDepth 100000 in
/-- What reads as a key of a kind and a key is one. -/
theorem keyOf_slot_inv {key : Value} {kl : Lit} (h : keyOf Tryz.prog 171 key = some kl) : ∃ k y, key = .agg #[.int .i64 k, .int .i64 y] ∧ kl = slotLit k y ∧ (Lit.int .i64 k).wf = true ∧ (Lit.int .i64 y).wf = true := by
  obtain ⟨n, hn⟩ : ∃ n, Tryz.prog.types.size = n + 1 := ⟨Tryz.prog.types.size - 1, by have : 0 < Tryz.prog.types.size := of_decide_eq_true (by kernel_rfl); omega⟩
  unfold keyOf at h
  rw [Tryz.underlying171] at h
  simp only [Tryz.keySlot, Bool.true_and] at h
  split at h
  · rename_i hf
    cases key <;> simp [Value.formed, Tryz.underlying171, Tryz.cellsSlot] at hf
    rename_i cs
    obtain ⟨l⟩ := cs
    have hl : l.length = 2 := by simpa using hf
    match l, hl with
    | [x, y], _ =>
      have hc : (Value.agg #[x, y]).cells.toList = [x, y] := rfl
      rw [hc, hn] at h
      unfold Program.keyLits at h
      rw [Tryz.underlying171] at h
      simp [Tryz.cellsSlot, Tryz.cellsI64] at h
      cases h1 : Tryz.prog.keyLits (n + 1) 2 [x] with
      | none => simp [h1] at h
      | some l1 =>
        cases h2 : Tryz.prog.keyLits (n + 1) 2 [y] with
        | none => simp [h1, h2] at h
        | some l2 =>
          obtain ⟨k1, rfl, rfl, w1⟩ := keyLits_i64 n x h1
          obtain ⟨k2, rfl, rfl, w2⟩ := keyLits_i64 n y h2
          simp [h1, h2] at h
          exact ⟨k1, k2, rfl, h.symm, w1, w2⟩
  · cases h
theorem has_putS {k y : Int} (hk : (Lit.int .i64 k).wf = true) (hy : (Lit.int .i64 y).wf = true) : ∀ (l : List En), (∀ x ∈ l, EnIn x) → Maps.has (putS l) (slotLit k y) = (lookS l k y).isSome
  | [], _ => by simp [putS, lookS, Maps.has_eq]
  | x :: l, hin => by
    have hx := hin x List.mem_cons_self
    have ih := has_putS hk hy l (fun u hu => hin u (List.mem_cons_of_mem _ hu))
    unfold putS lookS
    by_cases e : x.kind = k ∧ x.key = y
    · rw [if_pos e, e.1, e.2, Maps.has_put_same (putS_isMap l) (by trivial)]
      rfl
    · rw [if_neg e, ← ih]
      exact Maps.has_put_other (fun h => e (slotLit_inj hx.1 hx.2 hk hy h.symm)) _
theorem putS_at {l : List En} (hin : ∀ x ∈ l, EnIn x) {k y : Int} (hk : (Lit.int .i64 k).wf = true) (hy : (Lit.int .i64 y).wf = true) {c : Value} (h : ∀ z, (putS l).atKey (slotLit k y) z = .held c) : ∃ v, lookS l k y = some v ∧ c = .int .i64 v := by
  cases e : lookS l k y with
  | none =>
    have h1 := h (.held (.bool true))
    have h2 := h (.held (.bool false))
    rw [at_putS hk hy l hin, e] at h1 h2
    have := h1.trans h2.symm
    simp at this
  | some v =>
    refine ⟨v, rfl, ?_⟩
    have h1 := h (.held c)
    rw [at_putS hk hy l hin, e] at h1
    simpa using h1.symm
theorem wpList_next_S {w : World} {ops : Array Oper} {rest : List Oper} {o : Oper} {a : Act} {Q : Exit → Act → World → Prop} (hg : o.guard = none) (it : Operand) (hop : o.op = Op.next it false) (b r n : Nat) (l : List En) (hin : ∀ x ∈ l, EnIn x) (left : Lit → Bool) (cnt : Nat)
    (hit : a.eval it = .pointer (some ⟨r, 0, none⟩)) (h : w.ranges Tryz.prog 171 heldS b r n (putS l) left cnt)
    (hDone : cnt = 0 → (∀ kl, left kl = false) → wpList Tryz.prog ops Q rest (a.put o.dst (.tuple #[.bool false])) w)
    (hMore : ∀ (k y v : Int) (w' : World) (cnt' : Nat), (Lit.int .i64 k).wf = true → (Lit.int .i64 y).wf = true → lookS l k y = some v → left (slotLit k y) = true → w'.ranges Tryz.prog 171 heldS b r n (putS l) (fun z => left z && !z.sameKey (slotLit k y)) cnt' → cnt' < cnt → w.grownBy w' (some r) → w'.heap.size = w.heap.size →
      (Instr.entry (.pointer (some ⟨r, 0, none⟩))).run Tryz.prog w' = .ok (.tuple #[.agg #[.int .i64 k, .int .i64 y], .int .i64 v]) w' → wpList Tryz.prog ops Q rest (a.put o.dst (.tuple #[.bool true, .agg #[.int .i64 k, .int .i64 y], .int .i64 v])) w') :
    wpList Tryz.prog ops Q (o :: rest) a w :=
  wpList_next_ranges w hg it hop 171 slot_keyed heldS slotVal id (fun key kl hkey => by
      obtain ⟨k, y, rfl, _⟩ := keyOf_slot_inv hkey
      exact ⟨(k, y), rfl⟩) (fun v _ _ => ⟨v, rfl⟩) b r n (putS l) left cnt hit h hDone (fun x c kl y w' cnt' hkey hlk hv hat hrg hlt hgr hsz hen => by
    obtain ⟨k1, y1⟩ := x
    obtain ⟨k2, y2, ex, rfl, wk, wy⟩ := keyOf_slot_inv hkey
    obtain ⟨rfl, rfl⟩ : k1 = k2 ∧ y1 = y2 := by simpa [slotVal] using ex
    have hy : y.1 = .held c := by
      have h1 : heldS c = some y := hv
      unfold heldS at h1
      cases h1
      rfl
    rw [hy] at hat
    obtain ⟨v, hlv, rfl⟩ := putS_at hin wk wy hat
    exact hMore k1 y1 v w' cnt' wk wy hlv hlk hrg hlt hgr hsz hen)
theorem lookS_mem {xs : List En} (hr : riseB xs = true) {x : En} (hx : x ∈ xs) : lookS xs.reverse x.kind x.key = some x.id := by
  cases c : lookS xs.reverse x.kind x.key with
  | none => exact absurd ⟨rfl, rfl⟩ (lookS_none c x (by simpa using hx))
  | some v =>
    obtain ⟨u, hu, e1, e2, e3⟩ := lookS_some c
    rw [← rise_uniq hr hx (by simpa using hu) e1.symm e2.symm] at e3
    rw [e3]
end Go.Proofs.YtjdkenopfnepaaaGreat
