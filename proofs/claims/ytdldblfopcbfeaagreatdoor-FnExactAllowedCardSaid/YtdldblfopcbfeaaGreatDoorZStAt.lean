/- A map by kind and key: what it holds, looks into it. The program's map of what stands; StateAt of both sides. What stands at a kind and a key: the specification; the program's map: its keys, one step of a range over it. -/
import Derived.Test.YtdldblfopcbfeaaGreatDoorZStOpen
import Derived.Maps.OwnSet
import Derived.Maps.Range
import Derived.WalkArith
import Derived.DeepKeys4
import Derived.Maps.RangeWalk
namespace Go.Proofs.YtdldblfopcbfeaaGreatDoor
open Go.RowKit

theorem Tryz.laidOutSt : laidOutB Tryz.prog = true := by kernel_rfl
theorem Tryz.wideSt : (match Tryz.prog.underlying 118 with | some (.array _ _) | some (.struct _) => true | _ => false) = true := by rw [Tryz.underlying118]
theorem Tryz.rowSlot : (118 : TypeId) < Tryz.prog.types.size := of_decide_eq_true (by kernel_rfl)
set_option maxRecDepth 100000 in
theorem Tryz.deepSlot : Tryz.prog.keyTypeAt 2 118 = true := by kernel_rfl
set_option maxRecDepth 100000 in
theorem slot_law : WideMaps.KeyLaw Tryz.prog 118 := deep_law_laid Tryz.laidOutSt (m := 2) (by omega) Tryz.rowSlot Tryz.deepSlot Tryz.wideSt
theorem slot_keyed : Maps.Keyed Tryz.prog 118 := Maps.Keyed.of_law slot_law
/-- What a kind and a key read as, as a map's key. -/
def slotLit (k y : Int) : Lit := .string (keyBytes [.int .i64 k, .int .i64 y])
theorem Tryz.cellsSlot : Tryz.prog.cellsOf 118 = 2 := by kernel_rfl
theorem Tryz.cellsI64 : Tryz.prog.cellsOf 2 = 1 := by kernel_rfl
theorem Tryz.keySlot : Tryz.prog.keyType 118 = true := by kernel_rfl
set_option maxRecDepth 100000 in
theorem keyOf_slot {k y : Int} (hk : (Lit.int .i64 k).wf = true) (hy : (Lit.int .i64 y).wf = true) : keyOf Tryz.prog 118 (.agg #[.int .i64 k, .int .i64 y]) = some (slotLit k y) := by
  obtain ⟨n, hn⟩ : ∃ n, Tryz.prog.types.size = n + 1 := ⟨Tryz.prog.types.size - 1, by have : 0 < Tryz.prog.types.size := of_decide_eq_true (by kernel_rfl); omega⟩
  have hl : Tryz.prog.keyLits (Tryz.prog.types.size + 1) 118 [.int .i64 k, .int .i64 y] = some [.int .i64 k, .int .i64 y] := by
    rw [hn]
    unfold Program.keyLits
    rw [Tryz.underlying118]
    simp [Program.keyLits, Tryz.cellsSlot, Tryz.cellsI64, Tryz.underlying2, hk, hy]
  have hf : (Value.agg #[.int .i64 k, .int .i64 y]).formed Tryz.prog 118 = true := by simp [Value.formed, Tryz.underlying118, Tryz.cellsSlot]
  have hc : (Value.agg #[.int .i64 k, .int .i64 y]).cells.toList = [.int .i64 k, .int .i64 y] := rfl
  unfold keyOf
  rw [Tryz.underlying118]
  rw [Tryz.keySlot, hf, hc, hl]
  rfl
theorem slotLit_inj {k y k' y' : Int} (hk : (Lit.int .i64 k).wf = true) (hy : (Lit.int .i64 y).wf = true) (hk' : (Lit.int .i64 k').wf = true) (hy' : (Lit.int .i64 y').wf = true) (h : slotLit k y = slotLit k' y') : k = k' ∧ y = y' := by
  have h1 := keyOf_slot hk hy
  rw [h] at h1
  have := slot_law.inj h1 (keyOf_slot hk' hy')
  simpa using this
/-- Kind and key fit. -/
def EnIn (x : En) : Prop := (Lit.int .i64 x.kind).wf = true ∧ (Lit.int .i64 x.key).wf = true
/-- An element of a map reads as itself. -/
def heldS (v : Value) : Option (DataW Value × List MemPlace) := some (.held v, [])
/-- A map by its puts, the newest first. -/
def putS : List En → DataW Value
  | [] => .map []
  | x :: l => (putS l).put (slotLit x.kind x.key) (.held (.int .i64 x.id))
def lookS : List En → Int → Int → Option Int
  | [], _, _ => none
  | x :: l, k, y => if x.kind = k ∧ x.key = y then some x.id else lookS l k y
theorem putS_isMap : ∀ l, Maps.IsMap (putS l)
  | [] => ⟨[], rfl⟩
  | x :: l => by
    obtain ⟨xs, h⟩ := putS_isMap l
    unfold putS
    rw [h]
    exact ⟨_, rfl⟩
theorem at_putS {k y : Int} (hk : (Lit.int .i64 k).wf = true) (hy : (Lit.int .i64 y).wf = true) : ∀ (l : List En), (∀ x ∈ l, EnIn x) → ∀ z : DataW Value, (putS l).atKey (slotLit k y) z = match lookS l k y with | some v => .held (.int .i64 v) | none => z
  | [], _, _ => rfl
  | x :: l, hin, z => by
    have hx := hin x List.mem_cons_self
    have ih := at_putS hk hy l (fun u hu => hin u (List.mem_cons_of_mem _ hu)) z
    unfold putS lookS
    by_cases e : x.kind = k ∧ x.key = y
    · rw [if_pos e, e.1, e.2]
      exact Maps.atKey_put_same (putS_isMap l) (by trivial) _ z
    · rw [if_neg e, ← ih]
      exact Maps.atKey_put_other (fun h => e (slotLit_inj hx.1 hx.2 hk hy h.symm)) _ z
theorem zero_int64 (w : World) : (zeroValue 2).run Tryz.prog w = .ok (.int .i64 0) w := by kernel_rfl
theorem look_S {w : World} {b n : Nat} {l : List En} (h : w.ownsMap Tryz.prog 118 heldS b n (putS l)) (hin : ∀ x ∈ l, EnIn x) {k y : Int} (hk : (Lit.int .i64 k).wf = true) (hy : (Lit.int .i64 y).wf = true) :
    (Instr.lookup 58 (.map (some b)) (.agg #[.int .i64 k, .int .i64 y]) false).run Tryz.prog w = .ok (.int .i64 ((lookS l k y).getD 0)) w := by
  obtain ⟨v, ps, hrun, hv⟩ := h.lookup slot_keyed Tryz.underlying58 (zero_int64 w) (zd := .held (.int .i64 0)) (zp := []) rfl (keyOf_slot hk hy)
  rw [at_putS hk hy l hin] at hv
  have hvz : v = .int .i64 ((lookS l k y).getD 0) := by
    cases c : lookS l k y with
    | none =>
      rw [c] at hv
      simp only [heldS, Option.some.injEq, Prod.mk.injEq, DataW.held.injEq] at hv
      exact hv.1
    | some x =>
      rw [c] at hv
      simp only [heldS, Option.some.injEq, Prod.mk.injEq, DataW.held.injEq] at hv
      exact hv.1
  rw [hrun, hvz]
end Go.Proofs.YtdldblfopcbfeaaGreatDoor
namespace Go.Proofs.YtdldblfopcbfeaaGreatDoor
open Go.RowKit

theorem ownsMap_below' {w w' : World} {Q : Program} {k : TypeId} {R : Value → Option (DataW Value × List MemPlace)} {b n : Nat} {D : DataW Value} (h : w.ownsMap Q k R b n D) (hb : Below w.heap.size w w') : w'.ownsMap Q k R b n D := by
  obtain ⟨es, clock, h1, r⟩ := h
  exact ⟨es, clock, (hb.block b (Array.getElem?_eq_some_iff.1 h1).1).trans h1, r⟩
set_option maxHeartbeats 4000000 in
set_option maxRecDepth 100000 in
theorem put_some (x : En) (l : List En) (b n : Nat) (w : World) (h : w.ownsMap Tryz.prog 118 heldS b n (putS l)) (hn : n < maxLen) (hin : EnIn x) (hid : (x.id == 0) = false) :
    Calls Tryz.prog 65 #[.map (some b), .agg #[.int .i64 x.kind, .int .i64 x.key, .int .i64 x.id]] w fun e w' => e = .returned (.tuple #[]) ∧ w'.ownsMap Tryz.prog 118 heldS b (n + 1) (putS (x :: l)) ∧ w.grownBy w' (some b) := by
  have hbw : b ≠ w.heap.size := by have := h.lt; omega
  have hbw' : w.heap.size ≠ b := fun e => hbw e.symm
  have hbw := hbw'
  have H : Hid (w.ownsMap Tryz.prog 118 heldS b n (putS l) ∧ n < maxLen) := ⟨h, hn⟩
  clear h hn
  go_enter Tryz.func65, Tryz.ntmps65
  go_wp2
  refine wp_region_held_drew (S := (fun W => W.heap[w.heap.size]? = some (.cells #[.int .i64 x.kind, .int .i64 x.key, .int .i64 x.id] 52 (0, 0)))) (by kernel_rfl) (MapKept.heap_alloc w _).1 (fun hHeld => ?_)
  refine wpAnyH_take (i := 0) (v := (.map (some b))) rfl (by kernel_rfl) (by kernel_rfl) (by kernel_rfl) (fun _ _ _ h => h) (Or.inl ⟨by kernel_rfl, ?_⟩) hHeld ?_
  · intro W hW
    go_simp
  refine wpAnyH_take (i := 1) (v := (.agg #[.int .i64 x.kind, .int .i64 x.key, .int .i64 x.id])) rfl (by kernel_rfl) (by kernel_rfl) (by kernel_rfl) (fun _ _ _ h => h) (Or.inl ⟨by kernel_rfl, ?_⟩) hHeld ?_
  · intro W hW
    have f0 : W.cell? ⟨w.heap.size, 0, none⟩ = some (.int .i64 x.kind) := cell_of_heap hW
    have f1 : W.cell? ⟨w.heap.size, 1, none⟩ = some (.int .i64 x.key) := cell_of_heap hW
    have f2 : W.cell? ⟨w.heap.size, 2, none⟩ = some (.int .i64 x.id) := cell_of_heap hW
    go_simp
  refine wpAnyH_take (i := 3) (v := (.pointer (some ⟨w.heap.size, 2, none⟩))) rfl (by kernel_rfl) (by kernel_rfl) (by kernel_rfl) (fun _ _ _ h => h) (Or.inl ⟨by kernel_rfl, ?_⟩) hHeld ?_
  · intro W hW
    go_simp
  refine wpAnyH_take (i := 4) (v := (.int .i64 x.id)) rfl (by kernel_rfl) (by kernel_rfl) (by kernel_rfl) (fun _ _ _ h => h) (Or.inl ⟨by kernel_rfl, ?_⟩) hHeld ?_
  · intro W hW
    have f2 : W.cell? ⟨w.heap.size, 2, none⟩ = some (.int .i64 x.id) := cell_of_heap hW
    go_simp
  refine wpAnyH_ready (rs := [2]) (by kernel_rfl) (by simp) ?_
  refine AllReadyH.cons rfl (fun K hK => ?_) AllReadyH.nil
  go_simp
  refine (slotOf_impl x _).mono ?_
  rintro e w2 ⟨rfl, hb2⟩
  have hd2 : w2.heap[w.heap.size]? = some (.cells #[.int .i64 x.kind, .int .i64 x.key, .int .i64 x.id] 52 (0, 0)) := (hb2.block _ (by simp)).trans hHeld
  have hg2 : w.grownBy w2 (some b) := ⟨hb2.os, hb2.tape, hb2.output, Nat.le_trans (by simp) hb2.size, fun k hk _ => (hb2.block k (by simp; omega)).trans (Below.heap_alloc _ _ _ hk)⟩
  have HO2 : Hid (w2.ownsMap Tryz.prog 118 heldS b n (putS l)) := ownsMap_below' (H.out.1.alloc _).drew hb2
  clear hb2
  refine hK.out _ _ hd2 (fun hH2 => ?_)
  clear hK K
  obtain ⟨w3, hrun, hown3, hg3⟩ := HO2.out.update slot_keyed Tryz.underlying58 H.out.2 (keyOf_slot hin.1 hin.2) (val := .int .i64 x.id) (d := .held (.int .i64 x.id)) (ps := []) rfl
  have hd3 : w3.heap[w.heap.size]? = some (.cells #[.int .i64 x.kind, .int .i64 x.key, .int .i64 x.id] 52 (0, 0)) := (hg3.block _ (Array.getElem?_eq_some_iff.1 hd2).1 (fun e => hbw (by cases e; rfl))).trans hd2
  have HW3 : Hid (w3.ownsMap Tryz.prog 118 heldS b (n + 1) (putS (x :: l)) ∧ w.grownBy w3 (some b)) := ⟨hown3, hg2.andThen hg3 (fun _ h => .inr h)⟩
  clear hown3 hg3
  refine wpAnyH_ready (rs := [5]) (by kernel_rfl) (by simp) ?_
  refine AllReadyH.cons rfl (fun K hK => ?_) AllReadyH.nil
  go_simp
  refine hK.out _ _ hd3 (fun hH3 => ?_)
  clear hK K
  refine wpAnyH_done (by kernel_rfl) ?_ _
  go_wp2
  go_end0
  exact ⟨rfl, HW3.out.1, HW3.out.2⟩
theorem wf_small {n : Int} (h : -1000 ≤ n ∧ n ≤ 1000) : (Lit.int .i64 n).wf = true := WalkArith.wf_i64 ⟨by omega, by omega⟩
theorem rowE_in {xs : List En} (h : rowE false xs = true) : xs.length ≤ 400 ∧ riseB xs = true ∧ ∀ x ∈ xs, EnIn x ∧ (x.id == 0) = false := by
  simp only [rowE, Bool.and_eq_true] at h
  refine ⟨of_decide_eq_true h.1.1, h.1.2, fun x hx => ?_⟩
  have h1 := List.all_eq_true.1 h.2 x hx
  simp only [entB, slotB, Bool.and_eq_true, Bool.false_and, Bool.or_false] at h1
  have hk := isB_yes h1.1.1
  have hy := isB_yes h1.1.2
  have hi := isB_yes h1.2
  exact ⟨⟨wf_small ⟨by omega, by omega⟩, wf_small ⟨by omega, by omega⟩⟩, by simp; omega⟩
theorem run_makeMap_some {Q : Program} {t k e : TypeId} (ht : Q.underlying t = some (.map k e)) (n : Int) (w : World) : (Instr.makeMap t (some (.int .i64 n))).run Q w = .ok (.map (some w.heap.size)) (w.alloc (.map #[] 0)) := by
  simp [Instr.makeMap, run_underlying ht, asInt]
  rfl
def StandPost (w : World) (xs : List En) (e : Ending) (w' : World) : Prop := (rowE false xs = false ∧ e = .returned (.tuple #[.map none, .bool false]) ∧ Below w.heap.size w w') ∨ (rowE false xs = true ∧ ∃ b, e = .returned (.tuple #[.map (some b), .bool true]) ∧ w.heap.size ≤ b ∧ w'.ownsMap Tryz.prog 118 heldS b xs.length (putS xs.reverse) ∧ Below w.heap.size w w')
theorem take_rev {xs : List En} {k : Nat} (h : k < xs.length) : (xs.take (k + 1)).reverse = xs[k] :: (xs.take k).reverse := by
  rw [List.take_succ_eq_append_getElem h]
  simp
set_option maxHeartbeats 4000000 in
set_option maxRecDepth 100000 in
theorem standing_impl (xs : List En) (a : Option Addr) (cap : Nat) (w : World) (h : EnsAt w a xs) :
    Calls Tryz.prog 49 #[.slice a xs.length cap] w (StandPost w xs) := by
  have hl := h.len
  have HS := entries_stand xs a cap w h
  have H : Hid (EnsAt w a xs) := h
  have hmm := @run_makeMap_some Tryz.prog 58 _ _ Tryz.underlying58
  clear h
  cases hr : rowE false xs
  · go_enter Tryz.func49, Tryz.ntmps49
    go_wp2_with (go_at_call 63; refine HS.mono ?_; rintro e w1 ⟨rfl, hb1⟩; rw [hr])
    go_ret2
    exact .inl ⟨hr, rfl, hb1⟩
  · have HR : Hid (xs.length ≤ 400 ∧ riseB xs = true ∧ ∀ x ∈ xs, EnIn x ∧ (x.id == 0) = false) := rowE_in hr
    have HRR : Hid (rowE false xs = true) := hr
    go_enter Tryz.func49, Tryz.ntmps49
    go_wp2_with (go_at_call 63; refine HS.mono ?_; rintro e w1 ⟨rfl, hb1⟩; rw [hr]; have HB1 : Hid (Below w.heap.size w w1) := hb1; clear hb1)
    have hz1 : w.heap.size ≤ w1.heap.size := HB1.out.size
    go_loopw [15] (fun i wr => ∃ k : Nat, k ≤ xs.length ∧ i = .int .i64 k ∧ Hid (wr.ownsMap Tryz.prog 118 heldS w1.heap.size k (putS (xs.take k).reverse) ∧ Below w.heap.size w wr)) (fun i _ => xs.length - (intOf i).toNat)
    case atStart => exact ⟨0, Nat.zero_le _, rfl, World.ownsMap_made w1 _ _ _, HB1.out.alloc hz1 _⟩
    case round =>
      clear HB1
      obtain ⟨k, hk, rfl, HM⟩ := hrel
      by_cases hlt : k < xs.length
      · have HE : Hid (EnsAt wr a xs) := H.out.kept HM.out.2
        obtain ⟨b, off, rfl, hbb, hcell⟩ := HE.out.row (by omega)
        have hc0 : wr.cell? ⟨b, off + k * 3, none⟩ = some (.int .i64 xs[k].kind) := hcell k hlt 0 (by omega)
        have hc1 : wr.cell? ⟨b, off + k * 3 + 1, none⟩ = some (.int .i64 xs[k].key) := by
          have := hcell k hlt 1 (by omega)
          rwa [← Nat.add_assoc] at this
        have hc2 : wr.cell? ⟨b, off + k * 3 + 2, none⟩ = some (.int .i64 xs[k].id) := by
          have := hcell k hlt 2 (by omega)
          rwa [← Nat.add_assoc] at this
        have hin := HR.out.2.2 _ (List.getElem_mem hlt)
        have HP := fun o => put_some xs[k] (xs.take k).reverse w1.heap.size k (wr.alloc o) (HM.out.1.alloc o) (by have := HR.out.1; unfold maxLen; omega) hin.1 hin.2
        clear hcell hin
        go_wp2_with fail
        refine (HP _).mono ?_
        rintro e w2 ⟨rfl, hown2, hg2⟩
        have HM2 : Hid (w2.ownsMap Tryz.prog 118 heldS w1.heap.size (k + 1) (putS (xs.take (k + 1)).reverse) ∧ Below w.heap.size w w2) := ⟨by rw [take_rev hlt]; exact hown2, (HM.out.2.alloc HM.out.2.size _).grown hg2 (by have := HM.out.2.size; simp; omega) (fun j hj => by cases hj; exact hz1)⟩
        clear hown2 hg2 HP
        go_wp2
        go_roundw
        case rel => exact ⟨k + 1, by omega, by go_num, HM2⟩
        case measure => simp [intOf]; omega
      · have HF : Hid (wr.ownsMap Tryz.prog 118 heldS w1.heap.size xs.length (putS xs.reverse)) := by
          have e : k = xs.length := by omega
          have h1 := HM.out.1
          rw [e, List.take_length] at h1
          exact h1
        go_wp2
        go_ret2
        exact .inr ⟨HRR.out, _, rfl, hz1, HF.out, HM.out.2⟩
/-- What stands at a kind and a key: the first there is. -/
def stAt (xs : List En) (k y : Int) : Int := match xs.find? (fun x => (x.kind == k) && (x.key == y)) with
  | some x => x.id
  | none => 0
def atE (xs : List En) (k y : Int) : Int := if rowE false xs = true then stAt xs k y else 0
theorem lookS_some {k y v : Int} : ∀ {l : List En}, lookS l k y = some v → ∃ x ∈ l, x.kind = k ∧ x.key = y ∧ x.id = v
  | [], h => by cases h
  | x :: l, h => by
    unfold lookS at h
    by_cases e : x.kind = k ∧ x.key = y
    · rw [if_pos e] at h
      cases h
      exact ⟨x, List.mem_cons_self, e.1, e.2, rfl⟩
    · rw [if_neg e] at h
      obtain ⟨u, hu, r⟩ := lookS_some h
      exact ⟨u, List.mem_cons_of_mem _ hu, r⟩
theorem lookS_none {k y : Int} : ∀ {l : List En}, lookS l k y = none → ∀ x ∈ l, ¬ (x.kind = k ∧ x.key = y)
  | [], _, _, hx => by cases hx
  | x :: l, h, u, hu => by
    unfold lookS at h
    by_cases e : x.kind = k ∧ x.key = y
    · rw [if_pos e] at h
      cases h
    · rw [if_neg e] at h
      rcases List.mem_cons.1 hu with rfl | hu
      · exact e
      · exact lookS_none h u hu
theorem lessB_yes {x y : En} (h : lessB x y = true) : x.kind < y.kind ∨ (x.kind = y.kind ∧ x.key < y.key) := by
  unfold lessB at h
  simpa using h
theorem rise_far {xs : List En} (h : riseB xs = true) : ∀ (d i : Nat) (hj : i + d + 1 < xs.length), xs[i].kind < xs[i + d + 1].kind ∨ (xs[i].kind = xs[i + d + 1].kind ∧ xs[i].key < xs[i + d + 1].key)
  | 0, i, hj => by
    have h1 := List.all_eq_true.1 h (i + 1) (List.mem_range.2 hj)
    rw [riseAt_succ hj] at h1
    exact lessB_yes h1
  | d + 1, i, hj => by
    have h0 := rise_far h d i (by omega)
    have h1 := List.all_eq_true.1 h (i + d + 1 + 1) (List.mem_range.2 (by omega))
    rw [riseAt_succ (show i + d + 1 + 1 < xs.length by omega)] at h1
    have h2 := lessB_yes h1
    have e : xs[i + (d + 1) + 1] = xs[i + d + 1 + 1] := rfl
    rw [e]
    omega
theorem rise_uniq {xs : List En} (h : riseB xs = true) {x y : En} (hx : x ∈ xs) (hy : y ∈ xs) (h1 : x.kind = y.kind) (h2 : x.key = y.key) : x = y := by
  obtain ⟨i, hi, rfl⟩ := List.getElem_of_mem hx
  obtain ⟨j, hj, rfl⟩ := List.getElem_of_mem hy
  rcases Nat.lt_trichotomy i j with h3 | h3 | h3
  · obtain ⟨d, rfl⟩ : ∃ d, j = i + d + 1 := ⟨j - i - 1, by omega⟩
    have := rise_far h d i hj
    omega
  · subst h3
    rfl
  · obtain ⟨d, rfl⟩ : ∃ d, i = j + d + 1 := ⟨i - j - 1, by omega⟩
    have := rise_far h d j hi
    omega
theorem look_rev {xs : List En} (h : riseB xs = true) (k y : Int) : (lookS xs.reverse k y).getD 0 = stAt xs k y := by
  unfold stAt
  cases c : lookS xs.reverse k y with
  | none =>
    have hno : xs.find? (fun x => (x.kind == k) && (x.key == y)) = none := by
      rw [List.find?_eq_none]
      intro x hx hxx
      exact lookS_none c x (by simpa using hx) (by simpa using hxx)
    rw [hno]
    rfl
  | some v =>
    obtain ⟨x, hx, e1, e2, e3⟩ := lookS_some c
    have hx' : x ∈ xs := by simpa using hx
    cases c2 : xs.find? (fun x => (x.kind == k) && (x.key == y)) with
    | none =>
      rw [List.find?_eq_none] at c2
      exact absurd (by simp [e1, e2]) (c2 x hx')
    | some u =>
      have hu := List.mem_of_find?_eq_some c2
      have hq := List.find?_some c2
      simp only [Bool.and_eq_true, beq_iff_eq] at hq
      rw [rise_uniq h hx' hu (e1.trans hq.1.symm) (e2.trans hq.2.symm)] at e3
      simp [e3]
end Go.Proofs.YtdldblfopcbfeaaGreatDoor
namespace Go.Proofs.YtdldblfopcbfeaaGreatDoor
open Go.RowKit

theorem stAt_hit {xs : List En} {k y : Int} {i : Nat} (hi : i < xs.length) (h1 : (xs[i].kind == k) = true) (h2 : (xs[i].key == y) = true) (hno : ∀ j (h : j < xs.length), j < i → ((xs[j].kind == k) && (xs[j].key == y)) = false) : stAt xs k y = xs[i].id := by
  have : xs.find? (fun x => (x.kind == k) && (x.key == y)) = some xs[i] := by
    rw [List.find?_eq_some_iff_getElem]
    exact ⟨by rw [h1, h2]; rfl, i, hi, rfl, fun j hj => by rw [hno j (by omega) hj]; rfl⟩
  unfold stAt
  rw [this]
theorem stAt_miss {xs : List En} {k y : Int} (hno : ∀ j (h : j < xs.length), ((xs[j].kind == k) && (xs[j].key == y)) = false) : stAt xs k y = 0 := by
  have : xs.find? (fun x => (x.kind == k) && (x.key == y)) = none := by
    rw [List.find?_eq_none]
    intro x hx
    obtain ⟨j, hj, rfl⟩ := List.getElem_of_mem hx
    rw [hno j hj]
    decide
  unfold stAt
  rw [this]
set_option maxHeartbeats 4000000 in
set_option maxRecDepth 100000 in
theorem sat_spec (xs : List En) (q y : Int) (a : Option Addr) (cap : Nat) (w : World) (h : EnsAt w a xs) :
    Calls Tryz.prog 42 #[.slice a xs.length cap, .int .i64 q, .int .i64 y] w fun e w' => e = .returned (.int .i64 (stAt xs q y)) ∧ w = w' := by
  have hl := h.len
  have H : Hid (EnsAt w a xs) := h
  clear h
  go_enter Tryz.func42, Tryz.ntmps42
  go_wp2
  go_loop [7] (fun i => ∃ k : Nat, k ≤ xs.length ∧ i = .int .i64 k ∧ Hid (∀ j (h : j < xs.length), j < k → ((xs[j].kind == q) && (xs[j].key == y)) = false)) (fun i => xs.length - (intOf i).toNat)
  case atStart => exact ⟨0, Nat.zero_le _, rfl, fun _ _ h => absurd h (Nat.not_lt_zero _)⟩
  case round =>
    obtain ⟨k, hk, rfl, HO⟩ := hrel
    by_cases hlt : k < xs.length
    · obtain ⟨b, off, rfl, hbb, hcell⟩ := H.out.row (by omega)
      have hc0 : w.cell? ⟨b, off + k * 3, none⟩ = some (.int .i64 xs[k].kind) := hcell k hlt 0 (by omega)
      have hc1 : w.cell? ⟨b, off + k * 3 + 1, none⟩ = some (.int .i64 xs[k].key) := by
        have := hcell k hlt 1 (by omega)
        rwa [← Nat.add_assoc] at this
      have hc2 : w.cell? ⟨b, off + k * 3 + 2, none⟩ = some (.int .i64 xs[k].id) := by
        have := hcell k hlt 2 (by omega)
        rwa [← Nat.add_assoc] at this
      clear hcell
      have next : ((xs[k].kind == q) && (xs[k].key == y)) = false → Hid (∀ j (h : j < xs.length), j < k + 1 → ((xs[j].kind == q) && (xs[j].key == y)) = false) := fun hf j h hj => by
        by_cases e : j = k
        · subst e
          exact hf
        · exact HO.out j h (by omega)
      cases h1 : (xs[k].kind == q)
      · have HN := next (by rw [h1]; rfl)
        clear next
        go_wp2
        exact ⟨⟨k + 1, by omega, by go_num, HN⟩, by simp [intOf]; omega⟩
      · cases h2 : (xs[k].key == y)
        · have HN := next (by rw [h1, h2]; rfl)
          clear next
          go_wp2
          exact ⟨⟨k + 1, by omega, by go_num, HN⟩, by simp [intOf]; omega⟩
        · have HS : Hid (stAt xs q y = xs[k].id) := stAt_hit hlt h1 h2 HO.out
          clear next
          go_wp2
          go_ret
          exact ⟨ret_int HS.out.symm, rfl⟩
    · have HS : Hid (stAt xs q y = 0) := stAt_miss fun j h => HO.out j h (by omega)
      go_wp2
      go_ret
      exact ⟨ret_int HS.out.symm, rfl⟩
def slotVal (p : Int × Int) : Value := .agg #[.int .i64 p.1, .int .i64 p.2]
set_option maxRecDepth 100000 in
theorem keyLits_i64 (d : Nat) (x : Value) {ls : List Lit} (h : Tryz.prog.keyLits (d + 1) 2 [x] = some ls) : ∃ k, x = .int .i64 k ∧ ls = [.int .i64 k] ∧ (Lit.int .i64 k).wf = true := by
  unfold Program.keyLits at h
  rw [Tryz.underlying2] at h
  cases x <;> simp at h
  rename_i q k
  obtain ⟨⟨rfl, hw⟩, rfl⟩ := h
  exact ⟨k, rfl, rfl, hw⟩
set_option maxRecDepth 100000 in
/-- What reads as a key of a kind and a key is one. -/
theorem keyOf_slot_inv {key : Value} {kl : Lit} (h : keyOf Tryz.prog 118 key = some kl) : ∃ k y, key = .agg #[.int .i64 k, .int .i64 y] ∧ kl = slotLit k y ∧ (Lit.int .i64 k).wf = true ∧ (Lit.int .i64 y).wf = true := by
  obtain ⟨n, hn⟩ : ∃ n, Tryz.prog.types.size = n + 1 := ⟨Tryz.prog.types.size - 1, by have : 0 < Tryz.prog.types.size := of_decide_eq_true (by kernel_rfl); omega⟩
  unfold keyOf at h
  rw [Tryz.underlying118] at h
  simp only [Tryz.keySlot, Bool.true_and] at h
  split at h
  · rename_i hf
    cases key <;> simp [Value.formed, Tryz.underlying118, Tryz.cellsSlot] at hf
    rename_i cs
    obtain ⟨l⟩ := cs
    have hl : l.length = 2 := by simpa using hf
    match l, hl with
    | [x, y], _ =>
      have hc : (Value.agg #[x, y]).cells.toList = [x, y] := rfl
      rw [hc, hn] at h
      unfold Program.keyLits at h
      rw [Tryz.underlying118] at h
      simp [Tryz.cellsSlot, Tryz.cellsI64] at h
      cases h1 : Tryz.prog.keyLits (n + 1) 2 [x] with
      | none => simp [h1] at h
      | some l1 =>
        cases h2 : Tryz.prog.keyLits (n + 1) 2 [y] with
        | none => simp [h1, h2] at h
        | some l2 =>
          obtain ⟨k1, rfl, rfl, w1⟩ := keyLits_i64 n x h1
          obtain ⟨k2, rfl, rfl, w2⟩ := keyLits_i64 n y h2
          simp [h1, h2] at h
          exact ⟨k1, k2, rfl, h.symm, w1, w2⟩
  · cases h
theorem has_putS {k y : Int} (hk : (Lit.int .i64 k).wf = true) (hy : (Lit.int .i64 y).wf = true) : ∀ (l : List En), (∀ x ∈ l, EnIn x) → Maps.has (putS l) (slotLit k y) = (lookS l k y).isSome
  | [], _ => by simp [putS, lookS, Maps.has_eq]
  | x :: l, hin => by
    have hx := hin x List.mem_cons_self
    have ih := has_putS hk hy l (fun u hu => hin u (List.mem_cons_of_mem _ hu))
    unfold putS lookS
    by_cases e : x.kind = k ∧ x.key = y
    · rw [if_pos e, e.1, e.2, Maps.has_put_same (putS_isMap l) (by trivial)]
      rfl
    · rw [if_neg e, ← ih]
      exact Maps.has_put_other (fun h => e (slotLit_inj hx.1 hx.2 hk hy h.symm)) _
theorem putS_at {l : List En} (hin : ∀ x ∈ l, EnIn x) {k y : Int} (hk : (Lit.int .i64 k).wf = true) (hy : (Lit.int .i64 y).wf = true) {c : Value} (h : ∀ z, (putS l).atKey (slotLit k y) z = .held c) : ∃ v, lookS l k y = some v ∧ c = .int .i64 v := by
  cases e : lookS l k y with
  | none =>
    have h1 := h (.held (.bool true))
    have h2 := h (.held (.bool false))
    rw [at_putS hk hy l hin, e] at h1 h2
    have := h1.trans h2.symm
    simp at this
  | some v =>
    refine ⟨v, rfl, ?_⟩
    have h1 := h (.held c)
    rw [at_putS hk hy l hin, e] at h1
    simpa using h1.symm
theorem wpList_next_S {w : World} {ops : Array Oper} {rest : List Oper} {o : Oper} {a : Act} {Q : Exit → Act → World → Prop} (hg : o.guard = none) (it : Operand) (hop : o.op = Op.next it false) (b r n : Nat) (l : List En) (hin : ∀ x ∈ l, EnIn x) (left : Lit → Bool) (cnt : Nat)
    (hit : a.eval it = .pointer (some ⟨r, 0, none⟩)) (h : w.ranges Tryz.prog 118 heldS b r n (putS l) left cnt)
    (hDone : cnt = 0 → (∀ kl, left kl = false) → wpList Tryz.prog ops Q rest (a.put o.dst (.tuple #[.bool false])) w)
    (hMore : ∀ (k y v : Int) (w' : World) (cnt' : Nat), (Lit.int .i64 k).wf = true → (Lit.int .i64 y).wf = true → lookS l k y = some v → left (slotLit k y) = true → w'.ranges Tryz.prog 118 heldS b r n (putS l) (fun z => left z && !z.sameKey (slotLit k y)) cnt' → cnt' < cnt → w.grownBy w' (some r) → w'.heap.size = w.heap.size →
      (Instr.entry (.pointer (some ⟨r, 0, none⟩))).run Tryz.prog w' = .ok (.tuple #[.agg #[.int .i64 k, .int .i64 y], .int .i64 v]) w' → wpList Tryz.prog ops Q rest (a.put o.dst (.tuple #[.bool true, .agg #[.int .i64 k, .int .i64 y], .int .i64 v])) w') :
    wpList Tryz.prog ops Q (o :: rest) a w :=
  wpList_next_ranges w hg it hop 118 slot_keyed heldS slotVal id (fun key kl hkey => by
      obtain ⟨k, y, rfl, _⟩ := keyOf_slot_inv hkey
      exact ⟨(k, y), rfl⟩) (fun v _ _ => ⟨v, rfl⟩) b r n (putS l) left cnt hit h hDone (fun x c kl y w' cnt' hkey hlk hv hat hrg hlt hgr hsz hen => by
    obtain ⟨k1, y1⟩ := x
    obtain ⟨k2, y2, ex, rfl, wk, wy⟩ := keyOf_slot_inv hkey
    obtain ⟨rfl, rfl⟩ : k1 = k2 ∧ y1 = y2 := by simpa [slotVal] using ex
    have hy : y.1 = .held c := by
      have h1 : heldS c = some y := hv
      unfold heldS at h1
      cases h1
      rfl
    rw [hy] at hat
    obtain ⟨v, hlv, rfl⟩ := putS_at hin wk wy hat
    exact hMore k1 y1 v w' cnt' wk wy hlv hlk hrg hlt hgr hsz hen)
theorem lookS_mem {xs : List En} (hr : riseB xs = true) {x : En} (hx : x ∈ xs) : lookS xs.reverse x.kind x.key = some x.id := by
  cases c : lookS xs.reverse x.kind x.key with
  | none => exact absurd ⟨rfl, rfl⟩ (lookS_none c x (by simpa using hx))
  | some v =>
    obtain ⟨u, hu, e1, e2, e3⟩ := lookS_some c
    rw [← rise_uniq hr hx (by simpa using hu) e1.symm e2.symm] at e3
    rw [e3]
end Go.Proofs.YtdldblfopcbfeaaGreatDoor
