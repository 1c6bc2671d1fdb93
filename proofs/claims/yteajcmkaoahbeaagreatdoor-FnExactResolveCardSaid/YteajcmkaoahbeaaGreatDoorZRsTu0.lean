/- container/heap's Push and Pop at the row of turns, and the program's next. DepthOf, of the specification and of the program; the law on it walked. The disputed events put into the heap: the program's. -/
import Derived.Test.YteajcmkaoahbeaaGreatDoorZHpUD
import Derived.Test.YteajcmkaoahbeaaGreatDoorZGrAt
import Derived.Test.YteajcmkaoahbeaaGreatDoorZGrChart
import Derived.Deep.RegionHeld
import Derived.Test.YteajcmkaoahbeaaGreatDoorZRsDi
import Derived.Test.YteajcmkaoahbeaaGreatDoorZRsHv
namespace Go.Proofs.YteajcmkaoahbeaaGreatDoor
open Go.RowKit

variable {w0 : World} {KK : Nat → Prop} {em : Int → Em} {dp : Int → Int} {hb g cap n : Nat} {f : Nat → Int} {W W' : World} {S : Int → Prop}
set_option maxHeartbeats 4000000 in
set_option maxRecDepth 100000 in
theorem heapPush (O : Ord (lessT em dp) S) (x : Int) (h : Tq w0 KK em dp hb g cap n f W) (hS : ∀ k, k < n → S (f k)) (hx : S x) (hp : HeapF (lessT em dp) f n) (hn : n ≤ 20000000) :
    Calls Tryz.prog 118 #[.iface 135 (.pointer (some ⟨hb, 0, none⟩)), .iface 140 (.agg (tcell em dp x).toArray)] W fun e W' => e = .returned (.tuple #[]) ∧ ∃ g' cap' f', Tq w0 KK em dp hb g' cap' (n + 1) f' W' ∧ HeapF (lessT em dp) f' (n + 1) ∧ Perm0 (n + 1) (putF f n x) f' := by
  have HPU := push_turns x h (by omega)
  have HH : Hid (HeapF (lessT em dp) f n ∧ (∀ k, k < n → S (f k)) ∧ S x ∧ Ord (lessT em dp) S) := ⟨hp, hS, hx, O⟩
  have hmp := meth_push
  clear h hS hx hp O
  go_enter Tryz.func118, Tryz.ntmps118
  go_wp2_with fail
  refine HPU.mono ?_
  rintro e w1 ⟨rfl, g', cap', ht1⟩
  have HT1 : Hid (Tq w0 KK em dp hb g' cap' (n + 1) (putF f n x) w1) := ht1
  have hml := meth_len ht1.cell
  clear ht1 HPU
  go_wp2_with fail
  refine (len_turns _ (n + 1) cap' (some ⟨g', 0, none⟩) rfl w1).mono ?_
  rintro e w2 ⟨rfl, rfl⟩
  have HSS : Hid (∀ k, k < n + 1 → S (putF f n x k)) := fun k hk => by
    by_cases e : k = n
    · rw [e, putF_same]; exact HH.out.2.2.1
    · rw [putF_other e]; exact HH.out.2.1 k (by omega)
  have HUP := up_turns HH.out.2.2.2 n HT1.out HSS.out (HH.out.1.push fun k hk => putF_other (by omega)) (Nat.lt_succ_self n) (by omega)
  have hsub : (((n + 1 : Nat) : Int)) - 1 = (n : Int) := by omega
  clear hml
  go_wp2_with fail
  refine HUP.mono ?_
  rintro e w3 ⟨rfl, f', h1, h2, h3⟩
  go_wp2
  go_end0
  exact ⟨rfl, g', cap', f', h1, h2, h3⟩
set_option maxHeartbeats 4000000 in
set_option maxRecDepth 100000 in
theorem heapPop (O : Ord (lessT em dp) S) (h : Tq w0 KK em dp hb g cap (n + 1) f W) (hS : ∀ k, k < n + 1 → S (f k)) (hp : HeapF (lessT em dp) f (n + 1)) (hn : n ≤ 20000000) :
    Calls Tryz.prog 121 #[.iface 135 (.pointer (some ⟨hb, 0, none⟩))] W fun e W' => e = .returned (.iface 140 (.agg (tcell em dp (f 0)).toArray)) ∧ ∃ f', Tq w0 KK em dp hb g cap n f' W' ∧ HeapF (lessT em dp) f' n ∧ Perm0 n (xchF f 0 n) f' := by
  have HT0 : Hid (Tq w0 KK em dp hb g cap (n + 1) f W) := h
  have HH : Hid (HeapF (lessT em dp) f (n + 1) ∧ (∀ k, k < n + 1 → S (f k)) ∧ Ord (lessT em dp) S) := ⟨hp, hS, O⟩
  have hml := meth_len h.cell
  have hms := meth_swap h.cell
  have hmp := meth_pop
  have hsub : (((n + 1 : Nat) : Int)) - 1 = (n : Int) := by omega
  clear h hS hp O
  go_enter Tryz.func121, Tryz.ntmps121
  go_wp2_with fail
  refine (len_turns _ (n + 1) cap (some ⟨g, 0, none⟩) rfl W).mono ?_
  rintro e w1 ⟨rfl, rfl⟩
  go_wp2_with fail
  refine (swap_turnsZ _ _ 0 n rfl rfl HT0.out (by omega) (by omega)).mono ?_
  rintro e w2 ⟨rfl, ht2⟩
  have HSS : ∀ k, k < n → S (xchF f 0 n k) := fun k hk => by
    obtain ⟨q, hq, c⟩ := xch_cases f 0 n k
    rw [hq]
    exact HH.out.2.1 q (by omega)
  have HDN := down_turns HH.out.2.2 n (Nat.le_succ n) ht2 HSS HH.out.1.pop (by omega)
  clear hml hms ht2 HSS
  go_wp2_with fail
  refine HDN.mono ?_
  rintro e w3 ⟨b, rfl, f', h1, h2, h3, h4⟩
  have HPP := pop_turns h1 (by omega)
  have e0 : f' n = f 0 := by rw [h4 n (Nat.le_refl n), xch_j]
  rw [e0] at HPP
  have H3 : Hid (HeapF (lessT em dp) f' n ∧ Perm0 n (xchF f 0 n) f') := ⟨h2, h3⟩
  clear h1 h2 h3 h4 e0 HDN
  go_wp2_with fail
  refine HPP.mono ?_
  rintro e w4 ⟨rfl, h5⟩
  go_wp2
  go_ret
  exact ⟨rfl, f', h5, H3.out.1, H3.out.2⟩
def ZT : Value := .agg #[.int .i64 0, .int .i64 0, .int .i64 0, .int .i64 0, .int .i64 0, .int .i64 0, .string ⟨#[]⟩, .slice none 0 0, .int .i64 0, .bool false, .int .i64 0]
set_option maxHeartbeats 4000000 in
set_option maxRecDepth 100000 in
theorem next_none (h : Tq w0 KK em dp hb g cap 0 f W) :
    Calls Tryz.prog 80 #[.pointer (some ⟨hb, 0, none⟩)] W fun e W' => e = .returned (.tuple #[ZT, .bool false]) ∧ Tq w0 KK em dp hb g cap 0 f W' := by
  have hbx := h.cell
  have hlt : hb < W.heap.size := (Array.getElem?_eq_some_iff.1 h.box).1
  have hne : ¬ hb = W.heap.size := by omega
  have HT0 : Hid (∀ o, Tq w0 KK em dp hb g cap 0 f (W.alloc o)) := fun o => h.on ((Below.refl _ _).alloc (Nat.le_refl _) o)
  unfold ZT
  clear h
  go_enter Tryz.func80, Tryz.ntmps80
  go_wp2_with fail
  refine (len_turns _ 0 cap (some ⟨g, 0, none⟩) rfl _).mono ?_
  rintro e w1 ⟨rfl, rfl⟩
  go_wp2
  exact bodyPost_ret (v := .tuple #[.agg #[.int .i64 0, .int .i64 0, .int .i64 0, .int .i64 0, .int .i64 0, .int .i64 0, .string ⟨#[]⟩, .slice none 0 0, .int .i64 0, .bool false, .int .i64 0], .bool false]) (by simp [results, Tryz.results80, go_sem]) rfl ⟨rfl, HT0.out _⟩
set_option maxHeartbeats 4000000 in
set_option maxRecDepth 100000 in
theorem next_some (O : Ord (lessT em dp) S) (h : Tq w0 KK em dp hb g cap (n + 1) f W) (hS : ∀ k, k < n + 1 → S (f k)) (hp : HeapF (lessT em dp) f (n + 1)) (hn : n ≤ 20000000) :
    Calls Tryz.prog 80 #[.pointer (some ⟨hb, 0, none⟩)] W fun e W' => e = .returned (.tuple #[.agg (tcell em dp (f 0)).toArray, .bool true]) ∧ ∃ f', Tq w0 KK em dp hb g cap n f' W' ∧ HeapF (lessT em dp) f' n ∧ Perm0 n (xchF f 0 n) f' := by
  obtain ⟨v, p, c, hh, d, e⟩ := tcell_lit em dp (f 0)
  have hbx := h.cell
  have hlt : hb < W.heap.size := (Array.getElem?_eq_some_iff.1 h.box).1
  have hne : ¬ hb = W.heap.size := by omega
  have hlg : g < W.heap.size := h.lts.2
  have hng : ¬ W.heap.size = g := by omega
  have hnh : ¬ W.heap.size = hb := by omega
  have HPO := fun o => heapPop O ((h.on ((Below.refl _ _).alloc (Nat.le_refl _) o)).base) hS hp hn
  have HH : Hid (Tq w0 KK em dp hb g cap (n + 1) f W) := h
  rw [e] at HPO ⊢
  have hz : ((n : Int) + 1 == 0) = false := by simp; omega
  have hta := assert_turn
  clear h hS hp O e
  go_enter Tryz.func80, Tryz.ntmps80
  go_wp2_with fail
  refine (len_turns _ (n + 1) cap (some ⟨g, 0, none⟩) rfl _).mono ?_
  rintro e w1 ⟨rfl, rfl⟩
  go_wp2_with fail
  refine (HPO _).mono ?_
  rintro e w2 ⟨rfl, f', h1, h2, h3⟩
  have hr : w2.heap[W.heap.size]? = some (.cells #[.int .i64 0, .int .i64 0, .int .i64 0, .int .i64 0, .int .i64 0, .int .i64 0, .string ⟨#[]⟩, .slice none 0 0, .int .i64 0, .bool false, .int .i64 0] 140 (0, 0)) := (h1.far (by simp) hnh hng).trans (MapKept.heap_alloc W _).1
  have HEND : Hid (Tq w0 KK em dp hb g cap n f' w2 ∧ HeapF (lessT em dp) f' n ∧ Perm0 n (xchF f 0 n) f') := ⟨(HH.out.on ((Below.refl _ _).alloc (Nat.le_refl _) _)).back h1, h2, h3⟩
  have hrc : ∀ k, w2.cell? ⟨W.heap.size, k, none⟩ = #[.int .i64 0, .int .i64 0, .int .i64 0, .int .i64 0, .int .i64 0, .int .i64 0, .string ⟨#[]⟩, .slice none 0 0, .int .i64 0, .bool false, .int .i64 0][k]? := fun _ => cell_of_heap hr
  have hrf : ∀ k, w2.frozen? ⟨W.heap.size, k, none⟩ = false := fun _ => frozen_of_heap hr
  have hsz : W.heap.size < w2.heap.size := (Array.getElem?_eq_some_iff.1 hr).1
  have hn2 : ¬ W.heap.size = w2.heap.size := by omega
  have HK0 : Hid (W.heap.size < w0.heap.size → ¬ KK W.heap.size) := fun k => absurd k (Nat.not_lt.2 HH.out.fr.size)
  clear h1 h2 h3 HPO hlt hlg
  have HR0 : Hid (w2.heap[W.heap.size]? = some (.cells #[.int .i64 0, .int .i64 0, .int .i64 0, .int .i64 0, .int .i64 0, .int .i64 0, .string ⟨#[]⟩, .slice none 0 0, .int .i64 0, .bool false, .int .i64 0] 140 (0, 0))) := hr
  clear hr
  go_wp2
  have hr := HR0.out
  have k0 := heap_set (i := 0) hr (.int .i64 v.id)
  have k1 := heap_set (i := 1) k0 (.int .i64 v.room)
  have k2 := heap_set (i := 2) k1 (.int .i64 v.author)
  have k3 := heap_set (i := 3) k2 (.int .i64 v.kind)
  have k4 := heap_set (i := 4) k3 (.int .i64 v.key)
  have k5 := heap_set (i := 5) k4 (.int .i64 v.n)
  have k6 := heap_set (i := 6) k5 (.string v.text)
  have k7 := heap_set (i := 7) k6 (.slice p v.prev.length c)
  have k8 := heap_set (i := 8) k7 (.int .i64 v.time)
  have k9 := heap_set (i := 9) k8 (.bool hh)
  have k10 := heap_set (i := 10) k9 (.int .i64 d)
  simp only [List.setIfInBounds_toArray, List.set_cons_zero, List.set_cons_succ] at k10
  have HT3 : Hid (Tq w0 KK em dp hb g cap n f' ((((((((((((w2.setCell ⟨W.heap.size, 0, none⟩ (.int .i64 v.id)).setCell ⟨W.heap.size, 1, none⟩ (.int .i64 v.room)).setCell ⟨W.heap.size, 2, none⟩ (.int .i64 v.author)).setCell ⟨W.heap.size, 3, none⟩ (.int .i64 v.kind)).setCell ⟨W.heap.size, 4, none⟩ (.int .i64 v.key)).setCell ⟨W.heap.size, 5, none⟩ (.int .i64 v.n)).setCell ⟨W.heap.size, 6, none⟩ (.string v.text)).setCell ⟨W.heap.size, 7, none⟩ (.slice p v.prev.length c)).setCell ⟨W.heap.size, 8, none⟩ (.int .i64 v.time)).setCell ⟨W.heap.size, 9, none⟩ (.bool hh)).setCell ⟨W.heap.size, 10, none⟩ (.int .i64 d)).alloc (.cells #[.int .i64 v.id, .int .i64 v.room, .int .i64 v.author, .int .i64 v.kind, .int .i64 v.key, .int .i64 v.n, .string v.text, .slice p v.prev.length c, .int .i64 v.time, .bool hh, .int .i64 d] 140))) := by
    refine Tq.on ?_ ((Below.refl _ _).alloc (Nat.le_refl _) _)
    repeat refine Tq.setFar ?_ hnh hng HK0.out _ _
    exact HEND.out.1
  have k11 : ((((((((((((w2.setCell ⟨W.heap.size, 0, none⟩ (.int .i64 v.id)).setCell ⟨W.heap.size, 1, none⟩ (.int .i64 v.room)).setCell ⟨W.heap.size, 2, none⟩ (.int .i64 v.author)).setCell ⟨W.heap.size, 3, none⟩ (.int .i64 v.kind)).setCell ⟨W.heap.size, 4, none⟩ (.int .i64 v.key)).setCell ⟨W.heap.size, 5, none⟩ (.int .i64 v.n)).setCell ⟨W.heap.size, 6, none⟩ (.string v.text)).setCell ⟨W.heap.size, 7, none⟩ (.slice p v.prev.length c)).setCell ⟨W.heap.size, 8, none⟩ (.int .i64 v.time)).setCell ⟨W.heap.size, 9, none⟩ (.bool hh)).setCell ⟨W.heap.size, 10, none⟩ (.int .i64 d)).alloc (.cells #[.int .i64 v.id, .int .i64 v.room, .int .i64 v.author, .int .i64 v.kind, .int .i64 v.key, .int .i64 v.n, .string v.text, .slice p v.prev.length c, .int .i64 v.time, .bool hh, .int .i64 d] 140)).heap[W.heap.size]? = some (.cells #[.int .i64 v.id, .int .i64 v.room, .int .i64 v.author, .int .i64 v.kind, .int .i64 v.key, .int .i64 v.n, .string v.text, .slice p v.prev.length c, .int .i64 v.time, .bool hh, .int .i64 d] 140 (0, 0)) := (Below.heap_alloc _ _ _ (by simpa using hsz)).trans k10
  clear k0 k1 k2 k3 k4 k5 k6 k7 k8 k9 k10
  generalize (((((((((((w2.setCell ⟨W.heap.size, 0, none⟩ (.int .i64 v.id)).setCell ⟨W.heap.size, 1, none⟩ (.int .i64 v.room)).setCell ⟨W.heap.size, 2, none⟩ (.int .i64 v.author)).setCell ⟨W.heap.size, 3, none⟩ (.int .i64 v.kind)).setCell ⟨W.heap.size, 4, none⟩ (.int .i64 v.key)).setCell ⟨W.heap.size, 5, none⟩ (.int .i64 v.n)).setCell ⟨W.heap.size, 6, none⟩ (.string v.text)).setCell ⟨W.heap.size, 7, none⟩ (.slice p v.prev.length c)).setCell ⟨W.heap.size, 8, none⟩ (.int .i64 v.time)).setCell ⟨W.heap.size, 9, none⟩ (.bool hh)).setCell ⟨W.heap.size, 10, none⟩ (.int .i64 d)).alloc (.cells #[.int .i64 v.id, .int .i64 v.room, .int .i64 v.author, .int .i64 v.kind, .int .i64 v.key, .int .i64 v.n, .string v.text, .slice p v.prev.length c, .int .i64 v.time, .bool hh, .int .i64 d] 140) = w3 at k11 HT3 ⊢
  have hc : ∀ k, w3.cell? ⟨W.heap.size, k, none⟩ = #[.int .i64 v.id, .int .i64 v.room, .int .i64 v.author, .int .i64 v.kind, .int .i64 v.key, .int .i64 v.n, .string v.text, .slice p v.prev.length c, .int .i64 v.time, .bool hh, .int .i64 d][k]? := fun _ => cell_of_heap k11
  exact bodyPost_ret (v := .tuple #[.agg #[.int .i64 v.id, .int .i64 v.room, .int .i64 v.author, .int .i64 v.kind, .int .i64 v.key, .int .i64 v.n, .string v.text, .slice p v.prev.length c, .int .i64 v.time, .bool hh, .int .i64 d], .bool true]) (by simp [results, Tryz.results80, go_sem, hc]) rfl ⟨rfl, f', HT3.out, HEND.out.2.1, HEND.out.2.2⟩
end Go.Proofs.YteajcmkaoahbeaaGreatDoor
namespace Go.Proofs.YteajcmkaoahbeaaGreatDoor
open Go.RowKit

/-- What DepthOf answers. -/
def depG (g : Gr) (id : Int) : Int := if rightG g = true ∧ id ∈ idsOf g.evs then (dep (pvOf g.evs) (idsOf g.evs).length id : Int) else 0
theorem depG_bad {g : Gr} {id : Int} (h : rightG g = false) : depG g id = 0 := if_neg (by simp [h])
theorem depG_out {g : Gr} {id : Int} (h : id ∉ idsOf g.evs) : depG g id = 0 := if_neg (fun x => h x.2)
theorem depG_in {g : Gr} {id : Int} (h : rightG g = true) (hi : id ∈ idsOf g.evs) : depG g id = dep (pvOf g.evs) (idsOf g.evs).length id := if_pos ⟨h, hi⟩
theorem depG_same {g h : Gr} (hr : g.room = h.room) (he : g.evs.map (·.v) = h.evs.map (·.v)) (hp : g.pk.map (·.v) = h.pk.map (·.v)) (id : Int) : depG g id = depG h id := by
  have ei : idsOf g.evs = idsOf h.evs := by rw [idsOf_v, idsOf_v, he]
  have ep : pvOf g.evs = pvOf h.evs := funext fun id => by rw [pvOf_v, pvOf_v, he]
  unfold depG
  rw [rightG_same hr he hp, ei, ep]
/-- What is right: the parts. -/
theorem right_parts {g : Gr} (h : rightG g = true) : rowB g.evs g.room 60 = true ∧ rowB g.pk g.room 20 = true ∧ evsB g = true ∧ pkB g = true ∧ depB g = true := by
  unfold rightG at h
  simp only [Bool.and_eq_true] at h
  exact ⟨h.1.1.1.1.2, h.1.1.1.2, h.1.1.2, h.1.2, h.2⟩
/-- A look into the table, without 'ok'. -/
theorem look_tab1 {w : World} {b n : Nat} {l : List (Int × Int)} (h : w.ownsMap Tryz.prog 2 heldR b n (putL l)) {id : Int} (hid : -9223372036854775808 ≤ id ∧ id ≤ 9223372036854775807) :
    (Instr.lookup 173 (.map (some b)) (.int .i64 id) false).run Tryz.prog w = .ok (.int .i64 ((look l id).getD 0)) w := by
  obtain ⟨v, ps, hrun, hv⟩ := h.lookup (Maps.int_keyed (P := Tryz.prog) Tryz.underlying2) Tryz.underlying173 (zero_i64 w) (zd := .held (.int .i64 0)) (zp := []) rfl (Maps.keyOf_int_mk Tryz.underlying2 (WalkArith.wf_i64 hid))
  rw [at_putL] at hv
  have hvz : v = .int .i64 ((look l id).getD 0) := by
    cases c : look l id with
    | none =>
      rw [c] at hv
      simp only [heldR, Option.some.injEq, Prod.mk.injEq, DataW.held.injEq] at hv
      exact hv.1
    | some x =>
      rw [c] at hv
      simp only [heldR, Option.some.injEq, Prod.mk.injEq, DataW.held.injEq] at hv
      exact hv.1
  rw [hrun, hvz]
theorem Chart.depth {w W : World} {g : Gr} {bc be bp bt : Nat} {l : List (Int × Int)} (h : Chart w g bc be bp bt l W) (hr : rightG g = true) (id : Int) : (look l id).getD 0 = depG g id := by
  have hap : AllPos (pvOf g.evs) (idsOf g.evs) := fun x hx => of_decide_eq_true (List.all_eq_true.1 (right_parts hr).2.2.2.2 x hx)
  by_cases hi : id ∈ idsOf g.evs
  · rw [h.done.depth hap hi, depG_in hr hi]
    rfl
  · rw [depG_out hi]
    cases c : look l id with
    | none => rfl
    | some v => exact absurd (h.done.tab.dom id v c) hi
end Go.Proofs.YteajcmkaoahbeaaGreatDoor
namespace Go.Proofs.YteajcmkaoahbeaaGreatDoor
open Go.RowKit

def dpT (tl : List (Int × Int)) (n : Int) : Int := (look tl n).getD 0
/-- The story: the chart, and what it stands on. -/
structure StoAt (W : World) (g : Gr) (by_ bc be bp bt bo : Nat) (tl : List (Int × Int)) : Prop where
  sy : W.heap[by_]? = some (.cells #[.pointer (some ⟨bc, 0, none⟩), .map (some bo)] 156 (0, 0))
  ch : ChAt W bc be bp 1 0 (.map (some bt))
  evs : W.ownsMap Tryz.prog 2 heldR be g.evs.length (putAll g.evs)
  tab : W.ownsMap Tryz.prog 2 heldR bt tl.length (putL tl)
theorem StoAt.kept {W W' : World} {g : Gr} {by_ bc be bp bt bo : Nat} {tl : List (Int × Int)} (h : StoAt W g by_ bc be bp bt bo tl) (hb : Below W.heap.size W W') : StoAt W' g by_ bc be bp bt bo tl :=
  ⟨(hb.block _ (Array.getElem?_eq_some_iff.1 h.sy).1).trans h.sy, (hb.block _ (Array.getElem?_eq_some_iff.1 h.ch).1).trans h.ch, ownsMap_below h.evs hb, ownsMap_below h.tab hb⟩
theorem at_out : ∀ (l : List Int) (x : Int), x ∉ l → ∀ z : DataW Value, (putU l).atKey (.int .i64 x) z = z
  | [], _, _, _ => rfl
  | k :: l, x, hx, z => by
    unfold putU
    have h1 : x ≠ k := fun e => hx (by rw [e]; exact List.mem_cons_self)
    exact (Maps.atKey_put_other (lit_ne h1) _ _).trans (at_out l x (fun h => hx (List.mem_cons_of_mem _ h)) z)
/-- One step of a range over a map of Ids alone. -/
theorem wpList_next_U {w : World} {ops : Array Oper} {rest : List Oper} {o : Oper} {a : Act} {Q : Exit → Act → World → Prop} (hg : o.guard = none) (it : Operand) (hop : o.op = Op.next it false) (b r n : Nat) (l : List Int) (left : Lit → Bool) (cnt : Nat)
    (hit : a.eval it = .pointer (some ⟨r, 0, none⟩)) (h : w.ranges Tryz.prog 2 heldR b r n (putU l) left cnt)
    (hDone : cnt = 0 → (∀ kl, left kl = false) → wpList Tryz.prog ops Q rest (a.put o.dst (.tuple #[.bool false])) w)
    (hMore : ∀ (id : Int) (v : Value) (w' : World) (cnt' : Nat), id ∈ l → left (.int .i64 id) = true → w'.ranges Tryz.prog 2 heldR b r n (putU l) (fun z => left z && !z.sameKey (.int .i64 id)) cnt' → cnt' < cnt → w.grownBy w' (some r) → w'.heap.size = w.heap.size →
      (Instr.entry (.pointer (some ⟨r, 0, none⟩))).run Tryz.prog w' = .ok (.tuple #[.int .i64 id, v]) w' → wpList Tryz.prog ops Q rest (a.put o.dst (.tuple #[.bool true, .int .i64 id, v])) w') :
    wpList Tryz.prog ops Q (o :: rest) a w :=
  wpList_next_ranges w hg it hop 2 (Maps.int_keyed (P := Tryz.prog) Tryz.underlying2) heldR (Value.int .i64) id (fun key kl hkey => by
      obtain ⟨x, rfl, _⟩ := Maps.keyOf_int_inv Tryz.underlying2 hkey
      exact ⟨x, rfl⟩) (fun v _ _ => ⟨v, rfl⟩) b r n (putU l) left cnt hit h hDone (fun x c kl y w' cnt' hkey hlk hv hat hrg hlt hgr hsz hen => by
    obtain ⟨x', ex, rfl, _⟩ := Maps.keyOf_int_inv Tryz.underlying2 hkey
    cases ex
    have hin : x ∈ l := by
      have h1 := hat (.held (.bool true))
      have h2 := hat (.held (.bool false))
      have h3 := has_putU l x
      by_cases hx : x ∈ l
      · exact hx
      · exfalso
        have e1 := at_out l x hx (.held (.bool true))
        have e2 := at_out l x hx (.held (.bool false))
        rw [e1] at h1
        rw [e2] at h2
        have := h1.trans h2.symm
        simp at this
    exact hMore x c w' cnt' hin hlk hrg hlt hgr hsz hen)
theorem ranges_same {w w' : World} {k : TypeId} {R : Value → Option (DataW Value × List MemPlace)} {b r n : Nat} {D : DataW Value} {left : Lit → Bool} {cnt : Nat} (h : w.ranges Tryz.prog k R b r n D left cnt) (h1 : w'.heap[b]? = w.heap[b]?) (h2 : w'.heap[r]? = w.heap[r]?) : w'.ranges Tryz.prog k R b r n D left cnt := by
  obtain ⟨es, clock, since, seen, c0, hb, F, hs, hD, hr, rest⟩ := h
  exact ⟨es, clock, since, seen, c0, h1.trans hb, F, hs, hD, h2.trans hr, rest⟩
theorem ranges_far {w : World} {k : TypeId} {R : Value → Option (DataW Value × List MemPlace)} {b r n g : Nat} {D : DataW Value} {left : Lit → Bool} {cnt : Nat} {C : Array Value} {t : TypeId} {fr : Nat × Nat} (h : w.ranges Tryz.prog k R b r n D left cnt) (hg : w.heap[g]? = some (.cells C t fr)) : r ≠ g ∧ b ≠ g := by
  obtain ⟨es, clock, since, seen, c0, hb, F, hs, hD, hr, rest⟩ := h
  exact ⟨fun e => (by rw [e, hg] at hr; cases hr), fun e => (by rw [e, hg] at hb; cases hb)⟩
end Go.Proofs.YteajcmkaoahbeaaGreatDoor
