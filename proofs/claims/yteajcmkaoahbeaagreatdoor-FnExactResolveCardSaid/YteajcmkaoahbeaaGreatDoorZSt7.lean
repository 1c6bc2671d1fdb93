/- A map by kind and key: what it holds, looks into it. The program's map of what stands; StateAt of both sides. -/
import Derived.Test.YteajcmkaoahbeaaGreatDoorZSt5
import Derived.Maps.OwnSet
import Derived.Maps.Range
import Derived.WalkArith
import Derived.DeepKeys4
namespace Go.Proofs.YteajcmkaoahbeaaGreatDoor
open Go.RowKit

theorem Tryz.laidOutSt : laidOutB Tryz.prog = true := by kernel_rfl
theorem Tryz.wideSt : (match Tryz.prog.underlying 149 with | some (.array _ _) | some (.struct _) => true | _ => false) = true := by rw [Tryz.underlying149]
theorem Tryz.rowSlot : (149 : TypeId) < Tryz.prog.types.size := of_decide_eq_true (by kernel_rfl)
set_option maxRecDepth 100000 in
theorem Tryz.deepSlot : Tryz.prog.keyTypeAt 2 149 = true := by kernel_rfl
set_option maxRecDepth 100000 in
theorem slot_law : WideMaps.KeyLaw Tryz.prog 149 := deep_law_laid Tryz.laidOutSt (m := 2) (by omega) Tryz.rowSlot Tryz.deepSlot Tryz.wideSt
theorem slot_keyed : Maps.Keyed Tryz.prog 149 := Maps.Keyed.of_law slot_law
/-- What a kind and a key read as, as a map's key. -/
def slotLit (k y : Int) : Lit := .string (keyBytes [.int .i64 k, .int .i64 y])
theorem Tryz.cellsSlot : Tryz.prog.cellsOf 149 = 2 := by kernel_rfl
theorem Tryz.cellsI64 : Tryz.prog.cellsOf 2 = 1 := by kernel_rfl
theorem Tryz.keySlot : Tryz.prog.keyType 149 = true := by kernel_rfl
set_option maxRecDepth 100000 in
theorem keyOf_slot {k y : Int} (hk : (Lit.int .i64 k).wf = true) (hy : (Lit.int .i64 y).wf = true) : keyOf Tryz.prog 149 (.agg #[.int .i64 k, .int .i64 y]) = some (slotLit k y) := by
  obtain ⟨n, hn⟩ : ∃ n, Tryz.prog.types.size = n + 1 := ⟨Tryz.prog.types.size - 1, by have : 0 < Tryz.prog.types.size := of_decide_eq_true (by kernel_rfl); omega⟩
  have hl : Tryz.prog.keyLits (Tryz.prog.types.size + 1) 149 [.int .i64 k, .int .i64 y] = some [.int .i64 k, .int .i64 y] := by
    rw [hn]
    unfold Program.keyLits
    rw [Tryz.underlying149]
    simp [Program.keyLits, Tryz.cellsSlot, Tryz.cellsI64, Tryz.underlying2, hk, hy]
  have hf : (Value.agg #[.int .i64 k, .int .i64 y]).formed Tryz.prog 149 = true := by simp [Value.formed, Tryz.underlying149, Tryz.cellsSlot]
  have hc : (Value.agg #[.int .i64 k, .int .i64 y]).cells.toList = [.int .i64 k, .int .i64 y] := rfl
  unfold keyOf
  rw [Tryz.underlying149]
  rw [Tryz.keySlot, hf, hc, hl]
  rfl
theorem slotLit_inj {k y k' y' : Int} (hk : (Lit.int .i64 k).wf = true) (hy : (Lit.int .i64 y).wf = true) (hk' : (Lit.int .i64 k').wf = true) (hy' : (Lit.int .i64 y').wf = true) (h : slotLit k y = slotLit k' y') : k = k' ∧ y = y' := by
  have h1 := keyOf_slot hk hy
  rw [h] at h1
  have := slot_law.inj h1 (keyOf_slot hk' hy')
  simpa using this
/-- Kind and key fit. -/
def EnIn (x : En) : Prop := (Lit.int .i64 x.kind).wf = true ∧ (Lit.int .i64 x.key).wf = true
/-- An element of a map reads as itself. -/
def heldS (v : Value) : Option (DataW Value × List MemPlace) := some (.held v, [])
/-- A map by its puts, the newest first. -/
def putS : List En → DataW Value
  | [] => .map []
  | x :: l => (putS l).put (slotLit x.kind x.key) (.held (.int .i64 x.id))
def lookS : List En → Int → Int → Option Int
  | [], _, _ => none
  | x :: l, k, y => if x.kind = k ∧ x.key = y then some x.id else lookS l k y
theorem putS_isMap : ∀ l, Maps.IsMap (putS l)
  | [] => ⟨[], rfl⟩
  | x :: l => by
    obtain ⟨xs, h⟩ := putS_isMap l
    unfold putS
    rw [h]
    exact ⟨_, rfl⟩
theorem at_putS {k y : Int} (hk : (Lit.int .i64 k).wf = true) (hy : (Lit.int .i64 y).wf = true) : ∀ (l : List En), (∀ x ∈ l, EnIn x) → ∀ z : DataW Value, (putS l).atKey (slotLit k y) z = match lookS l k y with | some v => .held (.int .i64 v) | none => z
  | [], _, _ => rfl
  | x :: l, hin, z => by
    have hx := hin x List.mem_cons_self
    have ih := at_putS hk hy l (fun u hu => hin u (List.mem_cons_of_mem _ hu)) z
    unfold putS lookS
    by_cases e : x.kind = k ∧ x.key = y
    · rw [if_pos e, e.1, e.2]
      exact Maps.atKey_put_same (putS_isMap l) (by trivial) _ z
    · rw [if_neg e, ← ih]
      exact Maps.atKey_put_other (fun h => e (slotLit_inj hx.1 hx.2 hk hy h.symm)) _ z
theorem zero_int64 (w : World) : (zeroValue 2).run Tryz.prog w = .ok (.int .i64 0) w := by kernel_rfl
theorem look_S {w : World} {b n : Nat} {l : List En} (h : w.ownsMap Tryz.prog 149 heldS b n (putS l)) (hin : ∀ x ∈ l, EnIn x) {k y : Int} (hk : (Lit.int .i64 k).wf = true) (hy : (Lit.int .i64 y).wf = true) :
    (Instr.lookup 68 (.map (some b)) (.agg #[.int .i64 k, .int .i64 y]) false).run Tryz.prog w = .ok (.int .i64 ((lookS l k y).getD 0)) w := by
  obtain ⟨v, ps, hrun, hv⟩ := h.lookup slot_keyed Tryz.underlying68 (zero_int64 w) (zd := .held (.int .i64 0)) (zp := []) rfl (keyOf_slot hk hy)
  rw [at_putS hk hy l hin] at hv
  have hvz : v = .int .i64 ((lookS l k y).getD 0) := by
    cases c : lookS l k y with
    | none =>
      rw [c] at hv
      simp only [heldS, Option.some.injEq, Prod.mk.injEq, DataW.held.injEq] at hv
      exact hv.1
    | some x =>
      rw [c] at hv
      simp only [heldS, Option.some.injEq, Prod.mk.injEq, DataW.held.injEq] at hv
      exact hv.1
  rw [hrun, hvz]
end Go.Proofs.YteajcmkaoahbeaaGreatDoor
namespace Go.Proofs.YteajcmkaoahbeaaGreatDoor
open Go.RowKit

theorem ownsMap_below' {w w' : World} {Q : Program} {k : TypeId} {R : Value → Option (DataW Value × List MemPlace)} {b n : Nat} {D : DataW Value} (h : w.ownsMap Q k R b n D) (hb : Below w.heap.size w w') : w'.ownsMap Q k R b n D := by
  obtain ⟨es, clock, h1, r⟩ := h
  exact ⟨es, clock, (hb.block b (Array.getElem?_eq_some_iff.1 h1).1).trans h1, r⟩
set_option maxHeartbeats 4000000 in
set_option maxRecDepth 100000 in
theorem put_some (x : En) (l : List En) (b n : Nat) (w : World) (h : w.ownsMap Tryz.prog 149 heldS b n (putS l)) (hn : n < maxLen) (hin : EnIn x) (hid : (x.id == 0) = false) :
    Calls Tryz.prog 82 #[.map (some b), .agg #[.int .i64 x.kind, .int .i64 x.key, .int .i64 x.id]] w fun e w' => e = .returned (.tuple #[]) ∧ w'.ownsMap Tryz.prog 149 heldS b (n + 1) (putS (x :: l)) ∧ w.grownBy w' (some b) := by
  have hbw : b ≠ w.heap.size := by have := h.lt; omega
  have hbw' : w.heap.size ≠ b := fun e => hbw e.symm
  have hbw := hbw'
  have H : Hid (w.ownsMap Tryz.prog 149 heldS b n (putS l) ∧ n < maxLen) := ⟨h, hn⟩
  clear h hn
  go_enter Tryz.func82, Tryz.ntmps82
  go_wp2
  refine wp_region_held_drew (S := (fun W => W.heap[w.heap.size]? = some (.cells #[.int .i64 x.kind, .int .i64 x.key, .int .i64 x.id] 73 (0, 0)))) (by kernel_rfl) (MapKept.heap_alloc w _).1 (fun hHeld => ?_)
  refine wpAnyH_take (i := 0) (v := (.map (some b))) rfl (by kernel_rfl) (by kernel_rfl) (by kernel_rfl) (fun _ _ _ h => h) (Or.inl ⟨by kernel_rfl, ?_⟩) hHeld ?_
  · intro W hW
    go_simp
  refine wpAnyH_take (i := 1) (v := (.agg #[.int .i64 x.kind, .int .i64 x.key, .int .i64 x.id])) rfl (by kernel_rfl) (by kernel_rfl) (by kernel_rfl) (fun _ _ _ h => h) (Or.inl ⟨by kernel_rfl, ?_⟩) hHeld ?_
  · intro W hW
    have f0 : W.cell? ⟨w.heap.size, 0, none⟩ = some (.int .i64 x.kind) := cell_of_heap hW
    have f1 : W.cell? ⟨w.heap.size, 1, none⟩ = some (.int .i64 x.key) := cell_of_heap hW
    have f2 : W.cell? ⟨w.heap.size, 2, none⟩ = some (.int .i64 x.id) := cell_of_heap hW
    go_simp
  refine wpAnyH_take (i := 3) (v := (.pointer (some ⟨w.heap.size, 2, none⟩))) rfl (by kernel_rfl) (by kernel_rfl) (by kernel_rfl) (fun _ _ _ h => h) (Or.inl ⟨by kernel_rfl, ?_⟩) hHeld ?_
  · intro W hW
    go_simp
  refine wpAnyH_take (i := 4) (v := (.int .i64 x.id)) rfl (by kernel_rfl) (by kernel_rfl) (by kernel_rfl) (fun _ _ _ h => h) (Or.inl ⟨by kernel_rfl, ?_⟩) hHeld ?_
  · intro W hW
    have f2 : W.cell? ⟨w.heap.size, 2, none⟩ = some (.int .i64 x.id) := cell_of_heap hW
    go_simp
  refine wpAnyH_ready (rs := [2]) (by kernel_rfl) (by simp) ?_
  refine AllReadyH.cons rfl (fun K hK => ?_) AllReadyH.nil
  go_simp
  refine (slotOf_impl x _).mono ?_
  rintro e w2 ⟨rfl, hb2⟩
  have hd2 : w2.heap[w.heap.size]? = some (.cells #[.int .i64 x.kind, .int .i64 x.key, .int .i64 x.id] 73 (0, 0)) := (hb2.block _ (by simp)).trans hHeld
  have hg2 : w.grownBy w2 (some b) := ⟨hb2.os, hb2.tape, hb2.output, Nat.le_trans (by simp) hb2.size, fun k hk _ => (hb2.block k (by simp; omega)).trans (Below.heap_alloc _ _ _ hk)⟩
  have HO2 : Hid (w2.ownsMap Tryz.prog 149 heldS b n (putS l)) := ownsMap_below' (H.out.1.alloc _).drew hb2
  clear hb2
  refine hK.out _ _ hd2 (fun hH2 => ?_)
  clear hK K
  obtain ⟨w3, hrun, hown3, hg3⟩ := HO2.out.update slot_keyed Tryz.underlying68 H.out.2 (keyOf_slot hin.1 hin.2) (val := .int .i64 x.id) (d := .held (.int .i64 x.id)) (ps := []) rfl
  have hd3 : w3.heap[w.heap.size]? = some (.cells #[.int .i64 x.kind, .int .i64 x.key, .int .i64 x.id] 73 (0, 0)) := (hg3.block _ (Array.getElem?_eq_some_iff.1 hd2).1 (fun e => hbw (by cases e; rfl))).trans hd2
  have HW3 : Hid (w3.ownsMap Tryz.prog 149 heldS b (n + 1) (putS (x :: l)) ∧ w.grownBy w3 (some b)) := ⟨hown3, hg2.andThen hg3 (fun _ h => .inr h)⟩
  clear hown3 hg3
  refine wpAnyH_ready (rs := [5]) (by kernel_rfl) (by simp) ?_
  refine AllReadyH.cons rfl (fun K hK => ?_) AllReadyH.nil
  go_simp
  refine hK.out _ _ hd3 (fun hH3 => ?_)
  clear hK K
  refine wpAnyH_done (by kernel_rfl) ?_ _
  go_wp2
  go_end0
  exact ⟨rfl, HW3.out.1, HW3.out.2⟩
theorem wf_small {n : Int} (h : -1000 ≤ n ∧ n ≤ 1000) : (Lit.int .i64 n).wf = true := WalkArith.wf_i64 ⟨by omega, by omega⟩
theorem rowE_in {xs : List En} (h : rowE false xs = true) : xs.length ≤ 400 ∧ riseB xs = true ∧ ∀ x ∈ xs, EnIn x ∧ (x.id == 0) = false := by
  simp only [rowE, Bool.and_eq_true] at h
  refine ⟨of_decide_eq_true h.1.1, h.1.2, fun x hx => ?_⟩
  have h1 := List.all_eq_true.1 h.2 x hx
  simp only [entB, slotB, Bool.and_eq_true, Bool.false_and, Bool.or_false] at h1
  have hk := isB_yes h1.1.1
  have hy := isB_yes h1.1.2
  have hi := isB_yes h1.2
  exact ⟨⟨wf_small ⟨by omega, by omega⟩, wf_small ⟨by omega, by omega⟩⟩, by simp; omega⟩
theorem run_makeMap_some {Q : Program} {t k e : TypeId} (ht : Q.underlying t = some (.map k e)) (n : Int) (w : World) : (Instr.makeMap t (some (.int .i64 n))).run Q w = .ok (.map (some w.heap.size)) (w.alloc (.map #[] 0)) := by
  simp [Instr.makeMap, run_underlying ht, asInt]
  rfl
def StandPost (w : World) (xs : List En) (e : Ending) (w' : World) : Prop := (rowE false xs = false ∧ e = .returned (.tuple #[.map none, .bool false]) ∧ Below w.heap.size w w') ∨ (rowE false xs = true ∧ ∃ b, e = .returned (.tuple #[.map (some b), .bool true]) ∧ w.heap.size ≤ b ∧ w'.ownsMap Tryz.prog 149 heldS b xs.length (putS xs.reverse) ∧ Below w.heap.size w w')
theorem take_rev {xs : List En} {k : Nat} (h : k < xs.length) : (xs.take (k + 1)).reverse = xs[k] :: (xs.take k).reverse := by
  rw [List.take_succ_eq_append_getElem h]
  simp
set_option maxHeartbeats 4000000 in
set_option maxRecDepth 100000 in
theorem standing_impl (xs : List En) (a : Option Addr) (cap : Nat) (w : World) (h : EnsAt w a xs) :
    Calls Tryz.prog 74 #[.slice a xs.length cap] w (StandPost w xs) := by
  have hl := h.len
  have HS := entries_stand xs a cap w h
  have H : Hid (EnsAt w a xs) := h
  have hmm := @run_makeMap_some Tryz.prog 68 _ _ Tryz.underlying68
  clear h
  cases hr : rowE false xs
  · go_enter Tryz.func74, Tryz.ntmps74
    go_wp2_with (go_at_call 113; refine HS.mono ?_; rintro e w1 ⟨rfl, hb1⟩; rw [hr])
    go_ret2
    exact .inl ⟨hr, rfl, hb1⟩
  · have HR : Hid (xs.length ≤ 400 ∧ riseB xs = true ∧ ∀ x ∈ xs, EnIn x ∧ (x.id == 0) = false) := rowE_in hr
    have HRR : Hid (rowE false xs = true) := hr
    go_enter Tryz.func74, Tryz.ntmps74
    go_wp2_with (go_at_call 113; refine HS.mono ?_; rintro e w1 ⟨rfl, hb1⟩; rw [hr]; have HB1 : Hid (Below w.heap.size w w1) := hb1; clear hb1)
    have hz1 : w.heap.size ≤ w1.heap.size := HB1.out.size
    go_loopw [15] (fun i wr => ∃ k : Nat, k ≤ xs.length ∧ i = .int .i64 k ∧ Hid (wr.ownsMap Tryz.prog 149 heldS w1.heap.size k (putS (xs.take k).reverse) ∧ Below w.heap.size w wr)) (fun i _ => xs.length - (intOf i).toNat)
    case atStart => exact ⟨0, Nat.zero_le _, rfl, World.ownsMap_made w1 _ _ _, HB1.out.alloc hz1 _⟩
    case round =>
      clear HB1
      obtain ⟨k, hk, rfl, HM⟩ := hrel
      by_cases hlt : k < xs.length
      · have HE : Hid (EnsAt wr a xs) := H.out.kept HM.out.2
        obtain ⟨b, off, rfl, hbb, hcell⟩ := HE.out.row (by omega)
        have hc0 : wr.cell? ⟨b, off + k * 3, none⟩ = some (.int .i64 xs[k].kind) := hcell k hlt 0 (by omega)
        have hc1 : wr.cell? ⟨b, off + k * 3 + 1, none⟩ = some (.int .i64 xs[k].key) := by
          have := hcell k hlt 1 (by omega)
          rwa [← Nat.add_assoc] at this
        have hc2 : wr.cell? ⟨b, off + k * 3 + 2, none⟩ = some (.int .i64 xs[k].id) := by
          have := hcell k hlt 2 (by omega)
          rwa [← Nat.add_assoc] at this
        have hin := HR.out.2.2 _ (List.getElem_mem hlt)
        have HP := fun o => put_some xs[k] (xs.take k).reverse w1.heap.size k (wr.alloc o) (HM.out.1.alloc o) (by have := HR.out.1; unfold maxLen; omega) hin.1 hin.2
        clear hcell hin
        go_wp2_with fail
        refine (HP _).mono ?_
        rintro e w2 ⟨rfl, hown2, hg2⟩
        have HM2 : Hid (w2.ownsMap Tryz.prog 149 heldS w1.heap.size (k + 1) (putS (xs.take (k + 1)).reverse) ∧ Below w.heap.size w w2) := ⟨by rw [take_rev hlt]; exact hown2, (HM.out.2.alloc HM.out.2.size _).grown hg2 (by have := HM.out.2.size; simp; omega) (fun j hj => by cases hj; exact hz1)⟩
        clear hown2 hg2 HP
        go_wp2
        go_roundw
        case rel => exact ⟨k + 1, by omega, by go_num, HM2⟩
        case measure => simp [intOf]; omega
      · have HF : Hid (wr.ownsMap Tryz.prog 149 heldS w1.heap.size xs.length (putS xs.reverse)) := by
          have e : k = xs.length := by omega
          have h1 := HM.out.1
          rw [e, List.take_length] at h1
          exact h1
        go_wp2
        go_ret2
        exact .inr ⟨HRR.out, _, rfl, hz1, HF.out, HM.out.2⟩
/-- What stands at a kind and a key: the first there is. -/
def stAt (xs : List En) (k y : Int) : Int := match xs.find? (fun x => (x.kind == k) && (x.key == y)) with
  | some x => x.id
  | none => 0
def atE (xs : List En) (k y : Int) : Int := if rowE false xs = true then stAt xs k y else 0
theorem lookS_some {k y v : Int} : ∀ {l : List En}, lookS l k y = some v → ∃ x ∈ l, x.kind = k ∧ x.key = y ∧ x.id = v
  | [], h => by cases h
  | x :: l, h => by
    unfold lookS at h
    by_cases e : x.kind = k ∧ x.key = y
    · rw [if_pos e] at h
      cases h
      exact ⟨x, List.mem_cons_self, e.1, e.2, rfl⟩
    · rw [if_neg e] at h
      obtain ⟨u, hu, r⟩ := lookS_some h
      exact ⟨u, List.mem_cons_of_mem _ hu, r⟩
theorem lookS_none {k y : Int} : ∀ {l : List En}, lookS l k y = none → ∀ x ∈ l, ¬ (x.kind = k ∧ x.key = y)
  | [], _, _, hx => by cases hx
  | x :: l, h, u, hu => by
    unfold lookS at h
    by_cases e : x.kind = k ∧ x.key = y
    · rw [if_pos e] at h
      cases h
    · rw [if_neg e] at h
      rcases List.mem_cons.1 hu with rfl | hu
      · exact e
      · exact lookS_none h u hu
theorem lessB_yes {x y : En} (h : lessB x y = true) : x.kind < y.kind ∨ (x.kind = y.kind ∧ x.key < y.key) := by
  unfold lessB at h
  simpa using h
theorem rise_far {xs : List En} (h : riseB xs = true) : ∀ (d i : Nat) (hj : i + d + 1 < xs.length), xs[i].kind < xs[i + d + 1].kind ∨ (xs[i].kind = xs[i + d + 1].kind ∧ xs[i].key < xs[i + d + 1].key)
  | 0, i, hj => by
    have h1 := List.all_eq_true.1 h (i + 1) (List.mem_range.2 hj)
    rw [riseAt_succ hj] at h1
    exact lessB_yes h1
  | d + 1, i, hj => by
    have h0 := rise_far h d i (by omega)
    have h1 := List.all_eq_true.1 h (i + d + 1 + 1) (List.mem_range.2 (by omega))
    rw [riseAt_succ (show i + d + 1 + 1 < xs.length by omega)] at h1
    have h2 := lessB_yes h1
    have e : xs[i + (d + 1) + 1] = xs[i + d + 1 + 1] := rfl
    rw [e]
    omega
theorem rise_uniq {xs : List En} (h : riseB xs = true) {x y : En} (hx : x ∈ xs) (hy : y ∈ xs) (h1 : x.kind = y.kind) (h2 : x.key = y.key) : x = y := by
  obtain ⟨i, hi, rfl⟩ := List.getElem_of_mem hx
  obtain ⟨j, hj, rfl⟩ := List.getElem_of_mem hy
  rcases Nat.lt_trichotomy i j with h3 | h3 | h3
  · obtain ⟨d, rfl⟩ : ∃ d, j = i + d + 1 := ⟨j - i - 1, by omega⟩
    have := rise_far h d i hj
    omega
  · subst h3
    rfl
  · obtain ⟨d, rfl⟩ : ∃ d, i = j + d + 1 := ⟨i - j - 1, by omega⟩
    have := rise_far h d j hi
    omega
theorem look_rev {xs : List En} (h : riseB xs = true) (k y : Int) : (lookS xs.reverse k y).getD 0 = stAt xs k y := by
  unfold stAt
  cases c : lookS xs.reverse k y with
  | none =>
    have hno : xs.find? (fun x => (x.kind == k) && (x.key == y)) = none := by
      rw [List.find?_eq_none]
      intro x hx hxx
      exact lookS_none c x (by simpa using hx) (by simpa using hxx)
    rw [hno]
    rfl
  | some v =>
    obtain ⟨x, hx, e1, e2, e3⟩ := lookS_some c
    have hx' : x ∈ xs := by simpa using hx
    cases c2 : xs.find? (fun x => (x.kind == k) && (x.key == y)) with
    | none =>
      rw [List.find?_eq_none] at c2
      exact absurd (by simp [e1, e2]) (c2 x hx')
    | some u =>
      have hu := List.mem_of_find?_eq_some c2
      have hq := List.find?_some c2
      simp only [Bool.and_eq_true, beq_iff_eq] at hq
      rw [rise_uniq h hx' hu (e1.trans hq.1.symm) (e2.trans hq.2.symm)] at e3
      simp [e3]
end Go.Proofs.YteajcmkaoahbeaaGreatDoor
