/- States as maps, and as rows: what is alike and what is disputed are the same; the heap emptied in order. Plain. The program's scene: whether a state is one of a graph; how it is made. The program's scene of a story, and the entry that an event makes. What states come to where ways meet: the program's resolve. -/
import Derived.Test.YteajcmkaoahbeaaGreatDoorZRsTu
import Derived.Test.YteajcmkaoahbeaaGreatDoorZRl4
import Derived.Test.YteajcmkaoahbeaaGreatDoorZGrAt
import Derived.Test.YteajcmkaoahbeaaGreatDoorZSt5
import Derived.Test.YteajcmkaoahbeaaGreatDoorZAlI5
import Derived.Deep.LoopGhost
namespace Go.Proofs.YteajcmkaoahbeaaGreatDoor
open Go.RowKit

theorem rowIs_stAt {f : Slots} {xs : List En} (h : RowIs f xs) (k y : Int) : stAt xs k y = (f k y).getD 0 := by
  unfold stAt
  cases c : xs.find? (fun x => (x.kind == k) && (x.key == y)) with
  | none =>
    cases e : f k y with
    | none => rfl
    | some v =>
      have hm := (h.mem ⟨k, y, v⟩).2 e
      rw [List.find?_eq_none] at c
      exact absurd (by simp) (c _ hm)
  | some x =>
    have hq := List.find?_some c
    simp only [Bool.and_eq_true, beq_iff_eq] at hq
    have := (h.mem x).1 (List.mem_of_find?_eq_some c)
    rw [hq.1, hq.2] at this
    rw [this]
    rfl
/-- Maps, and the rows that they are. -/
structure MsRow (ms : List (Nat × Slots)) (L : List (List En)) : Prop where
  len : ms.length = L.length
  row : ∀ i (h : i < ms.length) (h2 : i < L.length), RowIs ms[i].2 L[i]
theorem MsRow.of_map {ms : List (Nat × Slots)} {L : List (List En)} (h : MsRow ms L) {m : Nat × Slots} (hm : m ∈ ms) : ∃ s ∈ L, RowIs m.2 s := by
  obtain ⟨i, hi, rfl⟩ := List.getElem_of_mem hm
  have h2 : i < L.length := by rw [← h.len]; exact hi
  exact ⟨L[i], List.getElem_mem h2, h.row i hi h2⟩
theorem MsRow.of_row {ms : List (Nat × Slots)} {L : List (List En)} (h : MsRow ms L) {s : List En} (hs : s ∈ L) : ∃ m ∈ ms, RowIs m.2 s := by
  obtain ⟨i, hi, rfl⟩ := List.getElem_of_mem hs
  have h2 : i < ms.length := by rw [h.len]; exact hi
  exact ⟨ms[i], List.getElem_mem h2, h.row i h2 hi⟩
theorem part_alike {ms : List (Nat × Slots)} {L : List (List En)} (h : MsRow ms L) (x : En) : partB ms x.kind x.key x.id = !alikeB L x := by
  rw [Bool.eq_iff_iff]
  unfold partB alikeB
  rw [List.any_eq_true, Bool.not_eq_true', List.all_eq_false]
  constructor
  · rintro ⟨m, hm, e⟩
    obtain ⟨s, hs, hr⟩ := h.of_map hm
    exact ⟨s, hs, by rw [rowIs_stAt hr]; simpa using e⟩
  · rintro ⟨s, hs, e⟩
    obtain ⟨m, hm, hr⟩ := h.of_row hs
    exact ⟨m, hm, by rw [rowIs_stAt hr] at e; simpa using e⟩
theorem agF_row {ms : List (Nat × Slots)} {L : List (List En)} (h : MsRow ms L) : RowIs (agF ms) (agrR L) := by
  cases ms with
  | nil =>
    have : L = [] := List.eq_nil_of_length_eq_zero (by rw [← h.len]; rfl)
    subst this
    exact ⟨List.Pairwise.nil, fun e => by
      constructor
      · intro h; cases h
      · intro h; cases h⟩
  | cons m r =>
    cases L with
    | nil => exact absurd h.len (by simp)
    | cons s q =>
      have h0 : RowIs m.2 s := h.row 0 (by simp) (by simp)
      refine ⟨List.Pairwise.filter _ h0.rises, fun e => ?_⟩
      rw [mem_agrR]
      show e ∈ s ∧ _ ↔ _
      rw [h0.mem]
      have hp := part_alike h e
      constructor
      · rintro ⟨h1, h2⟩
        rw [agF_cons m r h1, hp, h2]
        rfl
      · intro h1
        cases c : m.2 e.kind e.key with
        | none => rw [agF_none m r c] at h1; cases h1
        | some v =>
          rw [agF_cons m r c] at h1
          by_cases hv : partB (m :: r) e.kind e.key v = true
          · rw [if_pos hv] at h1; cases h1
          · rw [if_neg hv] at h1
            cases h1
            refine ⟨rfl, ?_⟩
            have hv2 : partB (m :: r) e.kind e.key e.id = false := by simpa using hv
            rw [hp] at hv2
            simpa using hv2
theorem agF_alike {ms : List (Nat × Slots)} {L : List (List En)} (h : MsRow ms L) {s : List En} {x : En} (hs : s ∈ L) (hx : x ∈ s) (h0 : x.id ≠ 0) : (agF ms x.kind x.key).getD 0 = x.id ↔ alikeB L x = true := by
  have hr := agF_row h
  rw [← rowIs_stAt hr]
  constructor
  · intro e
    obtain ⟨z, hz, z1, z2, z3⟩ := stAt_found (xs := agrR L) (k := x.kind) (y := x.key) (by rw [e]; exact h0)
    have := (mem_agrR.1 hz).2
    rw [e] at z3
    have : z = x := by cases z; cases x; simp only at z1 z2 z3; subst z1 z2 z3; rfl
    rw [← this]
    exact (mem_agrR.1 hz).2
  · intro e
    have hm : x ∈ agrR L := by
      refine mem_agrR.2 ⟨?_, e⟩
      cases L with
      | nil => cases hs
      | cons s0 q =>
        have e1 := alike_of e (List.mem_cons_self (a := s0) (l := q))
        obtain ⟨z, hz, z1, z2, z3⟩ := stAt_found (xs := s0) (k := x.kind) (y := x.key) (by rw [e1]; exact h0)
        rw [e1] at z3
        have : z = x := by cases z; cases x; simp only at z1 z2 z3; subst z1 z2 z3; rfl
        rw [← this]
        exact hz
    rw [rowIs_stAt hr, (hr.mem x).1 hm]
    rfl
theorem disp_same {ms : List (Nat × Slots)} {L : List (List En)} (h : MsRow ms L) (h0 : ∀ s ∈ L, ∀ x ∈ s, x.id ≠ 0) (n : Int) : DispF ms (agF ms) n ↔ Disp L n := by
  constructor
  · rintro ⟨m, hm, k, y, e1, e2⟩
    obtain ⟨s, hs, hr⟩ := h.of_map hm
    have hx := (hr.mem ⟨k, y, n⟩).2 e1
    refine ⟨s, hs, _, hx, ?_, rfl⟩
    cases c : alikeB L ⟨k, y, n⟩
    · rfl
    · exact absurd ((agF_alike h hs hx (h0 s hs _ hx)).2 c) e2
  · rintro ⟨s, hs, x, hx, e1, rfl⟩
    obtain ⟨m, hm, hr⟩ := h.of_row hs
    refine ⟨m, hm, x.kind, x.key, (hr.mem x).1 hx, fun e => ?_⟩
    rw [(agF_alike h hs hx (h0 s hs x hx)).1 e] at e1
    cases e1
/-- The heap while it is emptied: s is what has come out, in order. -/
structure Emp (lt : Int → Int → Bool) (P : Int → Prop) (s : List Int) (n : Nat) (f : Nat → Int) : Prop where
  srt : Srt lt s
  heap : HeapF lt f n
  inj : ∀ i j, i < n → j < n → f i = f j → i = j
  mem : ∀ e, P e ↔ e ∈ s ∨ ∃ k, k < n ∧ f k = e
  less : ∀ a ∈ s, ∀ k, k < n → lt a (f k) = true
theorem Emp.pop {lt : Int → Int → Bool} {P S : Int → Prop} (O : Ord lt S) (hPS : ∀ e, P e → S e) {s : List Int} {n : Nat} {f f' : Nat → Int} (h : Emp lt P s (n + 1) f) (hh : HeapF lt f' n) (hp : Perm0 n (xchF f 0 n) f') : Emp lt P (s ++ [f 0]) n f' := by
  have hS : ∀ k, k < n + 1 → S (f k) := fun k hk => hPS _ ((h.mem _).2 (.inr ⟨k, hk, rfl⟩))
  have hm : ∀ e, (∃ k, k < n ∧ f' k = e) ↔ ∃ k, 0 < k ∧ k < n + 1 ∧ f k = e := fun e => by
    rw [hp.mem]
    constructor
    · rintro ⟨k, hk, rfl⟩
      obtain ⟨q, hq, c⟩ := xch_cases f 0 n k
      exact ⟨q, by omega, by omega, hq.symm⟩
    · rintro ⟨k, k0, hk, rfl⟩
      by_cases c : k = n
      · exact ⟨0, by omega, by rw [xch_i, c]⟩
      · exact ⟨k, by omega, xch_o (by omega) c⟩
  have hinj : ∀ i j, i < n → j < n → f' i = f' j → i = j := hp.inj fun i j hi hj hij => by
    obtain ⟨q, hq, c⟩ := xch_cases f 0 n i
    obtain ⟨r, hr, d⟩ := xch_cases f 0 n j
    rw [hq, hr] at hij
    have := h.inj q r (by omega) (by omega) hij
    omega
  refine ⟨?_, hh, hinj, fun e => ?_, fun a ha k hk => ?_⟩
  · refine List.pairwise_append.2 ⟨h.srt, List.pairwise_singleton _ _, fun a ha b hb => ?_⟩
    rw [List.mem_singleton] at hb
    rw [hb]
    exact h.less a ha 0 (by omega)
  · rw [h.mem, List.mem_append, List.mem_singleton, hm]
    constructor
    · rintro (h1 | ⟨k, hk, rfl⟩)
      · exact .inl (.inl h1)
      · by_cases c : k = 0
        · exact .inl (.inr (by rw [c]))
        · exact .inr ⟨k, by omega, hk, rfl⟩
    · rintro ((h1 | h1) | ⟨k, _, hk, h1⟩)
      · exact .inl h1
      · exact .inr ⟨0, by omega, h1.symm⟩
      · exact .inr ⟨k, hk, h1⟩
  · obtain ⟨q, q0, hq, e⟩ := (hm (f' k)).1 ⟨k, hk, rfl⟩
    rw [← e]
    rcases List.mem_append.1 ha with h1 | h1
    · exact h.less a h1 q hq
    · rw [List.mem_singleton] at h1
      rw [h1]
      have h2 := h.heap.first O hS q hq q0
      exact O.lt_of (hS 0 (by omega)) (hS q hq) (fun c => absurd (h.inj 0 q (by omega) hq c) (by omega)) h2
theorem Emp.end {g : Gr} {dp : Int → Int} {L : List (List En)} {s : List Int} {f : Nat → Int} (hd : (idsOf g.evs).Nodup) (hD : ∀ n, Disp L n → n ∈ idsOf g.evs) (h : Emp (lessT (emI g.evs) dp) (Disp L) s 0 f) : Meets g.evs dp L (s.foldl (mtS g.evs) (agrR L)) := by
  have hm : ∀ e, e ∈ s ↔ Disp L e := fun e => by
    rw [h.mem]
    constructor
    · exact .inl
    · rintro (h | ⟨k, hk, _⟩)
      · exact h
      · exact absurd hk (Nat.not_lt_zero _)
  refine ⟨s, List.Pairwise.imp_of_mem (fun {a b} ha hb k => ?_) h.srt, hm, rfl⟩
  have h1 := hD a ((hm a).1 ha)
  have h2 := hD b ((hm b).1 hb)
  unfold lessE
  unfold lessT at k
  rwa [emI_v hd h1, emI_v hd h2] at k
end Go.Proofs.YteajcmkaoahbeaaGreatDoor
namespace Go.Proofs.YteajcmkaoahbeaaGreatDoor
open Go.RowKit

theorem eqin_slot (k1 y1 k2 y2 : Int) (W : World) : (Op.equalIn 10000 149 (.agg #[.int .i64 k1, .int .i64 y1]) (.agg #[.int .i64 k2, .int .i64 y2])).run Tryz.prog W = .ok (k1 == k2 && y1 == y2) W := by
  cases h1 : k1 == k2
  · go_simp
  · go_simp
    split <;> simp_all
set_option maxHeartbeats 8000000 in
set_option maxRecDepth 100000 in
theorem fits_impl (g : Gr) (xs : List En) (be bs : Nat) (w : World) (h : ScAt w g xs be bs) (hr : rightG g = true) (hx : rowE false xs = true) :
    Calls Tryz.prog 76 #[.agg #[.map (some be), .map (some bs)]] w fun e w' => e = .returned (.bool (fitsB g.evs xs)) ∧ Below w.heap.size w w' := by
  have H : Hid (ScAt w g xs be bs) := h
  have HI : Hid (∀ x ∈ xs.reverse, EnIn x) := fun x hx' => ((rowE_in hx).2.2 x (by simpa using hx')).1
  have HR : Hid (riseB xs = true) := (rowE_in hx).2.1
  have HD : Hid ((idsOf g.evs).Nodup) := right_dup hr
  have HK : Hid (∀ x ∈ xs, -9223372036854775808 ≤ x.id ∧ x.id ≤ 9223372036854775807) := fun x hx' => by have := rowE_kind hx hx'; omega
  obtain ⟨nn, D, hown, hDD⟩ := h.st
  have hbs := hown.lt
  have HST : Hid (w.ownsMap Tryz.prog 149 heldS bs nn D) := hown
  have HDM : Hid (MapIs D (lookS xs.reverse)) := hDD
  have HE1 : Hid ((w.alloc (.cells #[.map (some be), .map (some bs)] 132)).heap.size = w.heap.size + 1) := by unfold Hid; simp
  clear h hr hx hown hDD
  have heq := eqin_slot
  go_enter Tryz.func76, Tryz.ntmps76
  go_wp2_with (at_range; refine wpList_range_own _ rfl _ 68 rfl 149 2 slot_keyed Tryz.underlying68 heldS bs nn D rfl (HST.out.alloc _) ?_; intro w0 hrg0 hg0 hs0)
  go_frame
  rw [HE1.out] at hrg0 hs0 ⊢
  have HB0 : Hid (SBox w be bs w0) := ⟨((Below.refl _ _).alloc (Nat.le_refl _) _).grown hg0 (by simp) (fun j hj => by cases hj), (hg0.block _ (by simp) (by simp)).trans (MapKept.heap_alloc w _).1⟩
  go_loopw [3, 4, 5] (fun _ _ _ wr => ∃ (left : Lit → Bool) (cnt : Nat), wr.ranges Tryz.prog 149 heldS bs (w.heap.size + 1) nn D left cnt ∧ Hid (∀ x ∈ xs, left (slotLit x.kind x.key) = false → fitB g.evs x = true) ∧ Hid (SBox w be bs wr)) (fun _ _ _ wr => wr.rangeLeft bs (w.heap.size + 1))
  case atStart =>
    have h0 : ∀ x ∈ xs, Maps.has D (slotLit x.kind x.key) = false → fitB g.evs x = true := fun x hx hf => by
      have hi := HI.out x (by simpa using hx)
      rw [HDM.out.has hi.1 hi.2, lookS_mem HR.out hx] at hf
      cases hf
    exact ⟨_, _, hrg0, h0, HB0⟩
  case round =>
    clear HB0 hrg0 hg0 hs0
    obtain ⟨left, cnt, hrg, HL, HB⟩ := hrel
    go_wp2_with (at_next; refine wpList_next_M rfl _ rfl bs (w.heap.size + 1) nn D _ HDM.out _ _ rfl hrg ?_ ?_)
    · intro hc0 hl0
      have HS : Hid (fitsB g.evs xs = true) := List.all_eq_true.2 fun x hx => HL.out x hx (hl0 _)
      clear hc0 hl0 HL hrg
      go_wp2
      go_ret
      exact ⟨ret_bool HS.out.symm, HB.out.1⟩
    · intro k y v w1 cnt1 wk wy hlk hlm hrg1 hlt hg1 hs1 hen
      obtain ⟨x, hx, e1, e2, e3⟩ := lookS_some hlk
      have hx : x ∈ xs := by simpa using hx
      subst e1 e2 e3
      have HB1 : Hid (SBox w be bs w1) := ⟨HB.out.1.grown hg1 HB.out.1.size (fun j hj => by cases hj; omega), (hg1.block _ HB.out.lt (by simp)).trans HB.out.2⟩
      have hc0 : w1.cell? ⟨w.heap.size, 0, none⟩ = some (.map (some be)) := cell_of_heap HB1.out.2
      have HR1 : Hid (w1.ranges Tryz.prog 149 heldS bs (w.heap.size + 1) nn D (fun z => left z && !z.sameKey (slotLit x.kind x.key)) cnt1) := hrg1
      have HRO : Hid (wr.ranges Tryz.prog 149 heldS bs (w.heap.size + 1) nn D left cnt) := hrg
      have hz0 : w.heap.size < w1.heap.size := HB1.out.lt
      have hn0 : ¬ w.heap.size = w1.heap.size := by omega
      obtain ⟨q, c, hlook⟩ := look_evIn g.evs HD.out x.id (HK.out x hx)
      obtain ⟨ev, HV⟩ : ∃ v, Hid (v = evIn g.evs x.id) := ⟨evIn g.evs x.id, (rfl : evIn g.evs x.id = _)⟩
      rw [← HV.out] at hlook
      have hrun := hlook (w1.alloc (.cells #[.int .i64 x.kind, .int .i64 x.key] 149)) be _ ((H.out.kept HB1.out.1).evs.alloc _)
      have HF : Hid (fitB g.evs x = ((ev.kind == x.kind) && (ev.key == x.key))) := by unfold Hid fitB; rw [HV.out]
      have HBB : Hid (∀ o1 o2, SBox w be bs ((w1.alloc o1).alloc o2)) := fun o1 o2 => (HB1.out.on ((Below.refl _ _).alloc (Nat.le_refl _) o1)).on ((Below.refl _ _).alloc (Nat.le_refl _) o2)
      have HXX : Hid (x ∈ xs) := hx
      clear hrg1 hrg hg1 hs1 hlm hlk hlook hx wk wy
      have hne : (x.kind == ev.kind && x.key == ev.key) = fitB g.evs x := by
        rw [HF.out, Bool.eq_iff_iff]
        simp only [Bool.and_eq_true, beq_iff_eq]
        exact ⟨fun h => ⟨h.1.symm, h.2.symm⟩, fun h => ⟨h.1.symm, h.2.symm⟩⟩
      cases hf : fitB g.evs x
      · have HS : Hid (fitsB g.evs xs = false) := List.all_eq_false.2 ⟨x, HXX.out, by simp [hf]⟩
        rw [hf] at hne
        go_wp2
        go_ret
        exact ⟨ret_bool HS.out.symm, (HBB.out _ _).1⟩
      · have HL2 : Hid (∀ u ∈ xs, (left (slotLit u.kind u.key) && !(slotLit u.kind u.key).sameKey (slotLit x.kind x.key)) = false → fitB g.evs u = true) := fun u hu hfu => by
          by_cases e : u = x
          · rw [e]; exact hf
          · refine HL.out u hu ?_
            have h2 : (slotLit u.kind u.key).sameKey (slotLit x.kind x.key) = false := by
              cases h3 : (slotLit u.kind u.key).sameKey (slotLit x.kind x.key)
              · rfl
              · have hi := HI.out u (by simpa using hu)
                have hj := HI.out x (by simpa using HXX.out)
                have h4 := slotLit_inj hi.1 hi.2 hj.1 hj.2 (WideAt.sameKey_eq h3)
                exact absurd (rise_uniq HR.out hu HXX.out h4.1 h4.2) e
            rw [h2] at hfu
            simpa using hfu
        have HR2 : Hid (∀ o1 o2, ((w1.alloc o1).alloc o2).ranges Tryz.prog 149 heldS bs (w.heap.size + 1) nn D (fun z => left z && !z.sameKey (slotLit x.kind x.key)) cnt1) := fun o1 o2 => (HR1.out.alloc _).alloc _
        rw [hf] at hne
        go_wp2
        go_roundw
        case rel => exact ⟨_, cnt1, HR2.out _ _, HL2, HBB.out _ _⟩
        case measure => rw [(HR2.out _ _).left_eq, HRO.out.left_eq]; exact hlt
def ScenePost (w : World) (g : Gr) (xs : List En) (e : Ending) (w' : World) : Prop := (sceneB g xs = false ∧ e = .returned (.tuple #[.agg #[.map none, .map none], .bool false]) ∧ Below w.heap.size w w') ∨ (sceneB g xs = true ∧ ∃ be bs, e = .returned (.tuple #[.agg #[.map (some be), .map (some bs)], .bool true]) ∧ ScAt w' g xs be bs ∧ Below w.heap.size w w')
theorem scene_bad {g : Gr} {xs : List En} (h : (rightG g && rowE false xs) = false) : sceneB g xs = false := by
  unfold sceneB stateB
  rw [← Bool.and_assoc, h]
  rfl
theorem scene_fits {g : Gr} {xs : List En} (h : rightG g = true) (h2 : rowE false xs = true) : sceneB g xs = fitsB g.evs xs := by
  unfold sceneB stateB
  rw [h, h2]
  rfl
/-- The two variables of the making, and all that lay before. -/
structure MkAt (w : World) (g : Gr) (a : Option Addr) (cap : Nat) (p : Option Addr) (cp : Nat) (W : World) : Prop where
  below : Below w.heap.size w W
  box : W.heap[w.heap.size]? = some (.cells #[.int .i64 g.room, .slice a g.evs.length cap, .slice p g.pk.length cp] 32 (0, 0))
  res : W.heap[w.heap.size + 1]? = some (.cells #[.map none, .map none] 132 (0, 0))
theorem MkAt.on {w : World} {g : Gr} {a : Option Addr} {cap : Nat} {p : Option Addr} {cp : Nat} {W W' : World} (h : MkAt w g a cap p cp W) (hb : Below W.heap.size W W') : MkAt w g a cap p cp W' := ⟨h.below.trans (hb.mono h.below.size), (hb.block _ (Array.getElem?_eq_some_iff.1 h.box).1).trans h.box, (hb.block _ (Array.getElem?_eq_some_iff.1 h.res).1).trans h.res⟩
theorem MkAt.start (w : World) (g : Gr) (a : Option Addr) (cap : Nat) (p : Option Addr) (cp : Nat) : MkAt w g a cap p cp ((w.alloc (.cells #[.int .i64 g.room, .slice a g.evs.length cap, .slice p g.pk.length cp] 32)).alloc (.cells #[.map none, .map none] 132)) :=
  ⟨((Below.refl _ _).alloc (Nat.le_refl _) _).alloc (by simp) _, (Below.heap_alloc _ _ _ (by simp)).trans (MapKept.heap_alloc w _).1, by have := (MapKept.heap_alloc (w.alloc (.cells #[.int .i64 g.room, .slice a g.evs.length cap, .slice p g.pk.length cp] 32)) (.cells #[.map none, .map none] 132)).1; simpa using this⟩
theorem evIn_same {es fs : List Em} (h : es.map (·.v) = fs.map (·.v)) (id : Int) : evIn es id = evIn fs id := by unfold evIn; rw [h]
theorem fitsB_same {es fs : List Em} (h : es.map (·.v) = fs.map (·.v)) (xs : List En) : fitsB es xs = fitsB fs xs := by
  have : fitB es = fitB fs := funext fun x => by unfold fitB; rw [evIn_same h]
  unfold fitsB
  rw [this]
theorem sceneB_same {g h : Gr} (hr : g.room = h.room) (he : g.evs.map (·.v) = h.evs.map (·.v)) (hp : g.pk.map (·.v) = h.pk.map (·.v)) (xs : List En) : sceneB g xs = sceneB h xs := by
  unfold sceneB stateB
  rw [rightG_same hr he hp, fitsB_same he]
theorem lastE_same {es fs : List Em} (h : es.map (·.v) = fs.map (·.v)) (xs : List En) (k y : Int) : lastE es xs k y = lastE fs xs k y := evIn_same h _
/-- The law's own variable, and all that lay before. -/
def LBox (w : World) (g : Gr) (a : Option Addr) (cap : Nat) (p : Option Addr) (cp : Nat) (W : World) : Prop := Below w.heap.size w W ∧ W.heap[w.heap.size]? = some (.cells #[.int .i64 g.room, .slice a g.evs.length cap, .slice p g.pk.length cp] 24 (0, 0))
theorem LBox.start (w : World) (g : Gr) (a : Option Addr) (cap : Nat) (p : Option Addr) (cp : Nat) : LBox w g a cap p cp (w.alloc (.cells #[.int .i64 g.room, .slice a g.evs.length cap, .slice p g.pk.length cp] 24)) := ⟨(Below.refl _ _).alloc (Nat.le_refl _) _, (MapKept.heap_alloc w _).1⟩
theorem LBox.on {w : World} {g : Gr} {a : Option Addr} {cap : Nat} {p : Option Addr} {cp : Nat} {W W' : World} (h : LBox w g a cap p cp W) (hb : Below W.heap.size W W') : LBox w g a cap p cp W' := ⟨h.1.trans (hb.mono h.1.size), (hb.block _ (Array.getElem?_eq_some_iff.1 h.2).1).trans h.2⟩
theorem LBox.lt {w : World} {g : Gr} {a : Option Addr} {cap : Nat} {p : Option Addr} {cp : Nat} {W : World} (h : LBox w g a cap p cp W) : w.heap.size < W.heap.size := (Array.getElem?_eq_some_iff.1 h.2).1
theorem LBox.cells {w : World} {g : Gr} {a : Option Addr} {cap : Nat} {p : Option Addr} {cp : Nat} {W : World} (h : LBox w g a cap p cp W) : W.cell? ⟨w.heap.size, 0, none⟩ = some (.int .i64 g.room) ∧ W.cell? ⟨w.heap.size, 1, none⟩ = some (.slice a g.evs.length cap) ∧ W.cell? ⟨w.heap.size, 2, none⟩ = some (.slice p g.pk.length cp) := ⟨cell_of_heap h.2, cell_of_heap h.2, cell_of_heap h.2⟩
/-- A copy of a graph, told by what it holds. -/
structure GCopy (g g' : Gr) (a' p' : Option Addr) (W : World) : Prop where
  room : g'.room = g.room
  el : g'.evs.length = g.evs.length
  pl : g'.pk.length = g.pk.length
  es : g'.evs.map (·.v) = g.evs.map (·.v)
  ps : g'.pk.map (·.v) = g.pk.map (·.v)
  evs : EvsAt W a' g'.evs
  pk : EvsAt W p' g'.pk
theorem GrNew.copy {w W : World} {g g' : Gr} {a' p' : Option Addr} (h : GrNew w g g' a' p' W) : GCopy g g' a' p' W := ⟨h.room, h.evs.len, h.pk.len, h.evs.same, h.pk.same, h.evs.row.at, h.pk.row.at⟩
theorem GCopy.kept {w W : World} {g g' : Gr} {a' p' : Option Addr} (h : GCopy g g' a' p' w) (hb : Below w.heap.size w W) : GCopy g g' a' p' W := ⟨h.room, h.el, h.pl, h.es, h.ps, h.evs.kept hb, h.pk.kept hb⟩
end Go.Proofs.YteajcmkaoahbeaaGreatDoor
namespace Go.Proofs.YteajcmkaoahbeaaGreatDoor
open Go.RowKit

set_option maxHeartbeats 4000000 in
set_option maxRecDepth 100000 in
theorem sceneIn_impl (g : Gr) (by_ bc be bp bt bo bs : Nat) (tl : List (Int × Int)) (w : World) (h : StoAt w g by_ bc be bp bt bo tl) :
    Calls Tryz.prog 75 #[.pointer (some ⟨by_, 0, none⟩), .map (some bs)] w fun e w' => e = .returned (.agg #[.map (some be), .map (some bs)]) ∧ Below w.heap.size w w' := by
  have hs0 : w.cell? ⟨by_, 0, none⟩ = some (.pointer (some ⟨bc, 0, none⟩)) := cell_of_heap h.sy
  have hc0 : w.cell? ⟨bc, 0, none⟩ = some (.map (some be)) := cell_of_heap h.ch
  have h1 : by_ < w.heap.size := (Array.getElem?_eq_some_iff.1 h.sy).1
  have h2 : bc < w.heap.size := (Array.getElem?_eq_some_iff.1 h.ch).1
  have n1 : ¬ by_ = w.heap.size := by omega
  have n2 : ¬ bc = w.heap.size := by omega
  clear h
  go_enter Tryz.func75, Tryz.ntmps75
  go_wp2
  exact bodyPost_ret (v := .agg #[.map (some be), .map (some bs)]) (by simp [results, Tryz.results75, go_sem]) rfl ⟨rfl, (Below.refl _ _).alloc (Nat.le_refl _) _⟩
set_option maxHeartbeats 4000000 in
set_option maxRecDepth 100000 in
theorem entryOf_impl (v : Ev) (q : Option Addr) (c : Nat) (w : World) :
    Calls Tryz.prog 83 #[.agg #[.int .i64 v.id, .int .i64 v.room, .int .i64 v.author, .int .i64 v.kind, .int .i64 v.key, .int .i64 v.n, .string v.text, .slice q v.prev.length c, .int .i64 v.time]] w fun e w' => e = .returned (.agg #[.int .i64 v.kind, .int .i64 v.key, .int .i64 v.id]) ∧ Below w.heap.size w w' := by
  go_enter Tryz.func83, Tryz.ntmps83
  go_wp2
  exact bodyPost_ret (v := .agg #[.int .i64 v.kind, .int .i64 v.key, .int .i64 v.id]) (by simp [results, Tryz.results83, go_sem]) rfl ⟨rfl, ((Below.refl _ _).alloc (Nat.le_refl _) _).alloc (by simp) _⟩
/-- While states are put together: the heap, what is put together so far. -/
structure RI (w wd : World) (em : Int → Em) (dp : Int → Int) (be bo xb hb gg cap n : Nat) (f : Nat → Int) (F : Slots) (nF : Nat) (W : World) : Prop where
  tq : Tq wd (fun q => q ≠ bo) em dp hb gg cap n f W
  out : SMap W bo nF F
  h1 : Below w.heap.size w wd
  h2 : w.heap.size ≤ bo
  h3 : bo < wd.heap.size
  h4 : wd.heap.size ≤ hb ∧ wd.heap.size ≤ gg
  h5 : wd.heap[xb]? = some (.cells #[.map (some be), .map (some bo)] 132 (0, 0))
  h6 : xb ≠ bo
variable {w wd : World} {em : Int → Em} {dp : Int → Int} {be bo xb hb gg cap n nF : Nat} {f : Nat → Int} {F : Slots} {W W' : World}
theorem RI.on (h : RI w wd em dp be bo xb hb gg cap n f F nF W) (hW : Below W.heap.size W W') : RI w wd em dp be bo xb hb gg cap n f F nF W' := ⟨h.tq.on hW, h.out.kept hW, h.h1, h.h2, h.h3, h.h4, h.h5, h.h6⟩
theorem RI.below (h : RI w wd em dp be bo xb hb gg cap n f F nF W) : Below w.heap.size w W :=
  ⟨h.tq.fr.os.trans h.h1.os, h.tq.fr.tape.trans h.h1.tape, h.tq.fr.output.trans h.h1.output, Nat.le_trans h.h1.size h.tq.fr.size, fun q hq => (h.tq.fr.keep q (Nat.lt_of_lt_of_le hq h.h1.size) (by have := h.h2; omega)).trans (h.h1.block q hq)⟩
theorem RI.scene (h : RI w wd em dp be bo xb hb gg cap n f F nF W) : W.heap[xb]? = some (.cells #[.map (some be), .map (some bo)] 132 (0, 0)) := (h.tq.fr.keep xb (Array.getElem?_eq_some_iff.1 h.h5).1 h.h6).trans h.h5
end Go.Proofs.YteajcmkaoahbeaaGreatDoor
namespace Go.Proofs.YteajcmkaoahbeaaGreatDoor
open Go.RowKit

theorem nodup_le : ∀ (s t : List Int), s.Nodup → (∀ x ∈ s, x ∈ t) → s.length ≤ t.length
  | [], _, _, _ => Nat.zero_le _
  | x :: s, t, hd, h => by
    obtain ⟨h1, h2⟩ := List.nodup_cons.1 hd
    have hx := h x List.mem_cons_self
    have ih := nodup_le s (t.erase x) h2 fun y hy => (List.mem_erase_of_ne (fun e => h1 (by rw [← e]; exact hy))).2 (h y (List.mem_cons_of_mem _ hy))
    rw [List.length_erase_of_mem hx] at ih
    have := List.length_pos_of_mem hx
    rw [List.length_cons]
    omega
variable {w wd : World} {em : Int → Em} {dp : Int → Int} {be bo xb hb gg cap n nF : Nat} {f : Nat → Int} {F : Slots} {W W' : World}
theorem RI.setFar (h : RI w wd em dp be bo xb hb gg cap n f F nF W) {b : Nat} (h1 : b ≠ hb) (h2 : b ≠ gg) (h3 : wd.heap.size ≤ b) (i : Nat) (v : Value) : RI w wd em dp be bo xb hb gg cap n f F nF (W.setCell ⟨b, i, none⟩ v) :=
  ⟨h.tq.setFar h1 h2 (fun k => absurd k (Nat.not_lt.2 h3)) i v, h.out.elim fun D hD => ⟨D, hD.1.setCell (by show bo ≠ b; have := h.h3; omega) _, hD.2⟩, h.h1, h.h2, h.h3, h.h4, h.h5, h.h6⟩
theorem RI.put {F' : Slots} {nF' : Nat} (h : RI w wd em dp be bo xb hb gg cap n f F nF W) (hg : W.grownBy W' (some bo)) (hs : SMap W' bo nF' F') : RI w wd em dp be bo xb hb gg cap n f F' nF' W' :=
  ⟨h.tq.grownFar hg (by have := h.h3; have := h.h4; omega) (by have := h.h3; have := h.h4; omega) (fun _ k => k rfl), hs, h.h1, h.h2, h.h3, h.h4, h.h5, h.h6⟩
theorem RI.next {n2 : Nat} {f2 : Nat → Int} (h : RI w wd em dp be bo xb hb gg cap n f F nF W) (h2 : Tq W (Far hb gg) em dp hb gg cap n2 f2 W') : RI w wd em dp be bo xb hb gg cap n2 f2 F nF W' := by
  have a1 := h.h3
  have a2 := h.h4
  refine ⟨h.tq.back h2, h.out.elim fun D hD => ⟨D, ?_, hD.2⟩, h.h1, h.h2, h.h3, h.h4, h.h5, h.h6⟩
  obtain ⟨es, ck, k1, r⟩ := hD.1
  exact ⟨es, ck, (h2.far (Array.getElem?_eq_some_iff.1 k1).1 (by omega) (by omega)).trans k1, r⟩
/-- The variable of the turn at hand. -/
def TB (wd : World) (hb gg tb : Nat) (C : Array Value) (W : World) : Prop := wd.heap.size ≤ tb ∧ tb ≠ hb ∧ tb ≠ gg ∧ W.heap[tb]? = some (.cells C 140 (0, 0))
theorem TB.on {tb : Nat} {C : Array Value} (h : TB wd hb gg tb C W) (hW : Below W.heap.size W W') : TB wd hb gg tb C W' := ⟨h.1, h.2.1, h.2.2.1, (hW.block _ (Array.getElem?_eq_some_iff.1 h.2.2.2).1).trans h.2.2.2⟩
theorem TB.put {tb : Nat} {C : Array Value} (h : TB wd hb gg tb C W) (hg : W.grownBy W' (some bo)) (hlt : bo < wd.heap.size) : TB wd hb gg tb C W' := ⟨h.1, h.2.1, h.2.2.1, (hg.block _ (Array.getElem?_eq_some_iff.1 h.2.2.2).1 (fun e => by cases e; have := h.1; omega)).trans h.2.2.2⟩
theorem TB.next {tb cap2 n2 : Nat} {f2 : Nat → Int} {C : Array Value} (h : TB wd hb gg tb C W) (h2 : Tq W (Far hb gg) em dp hb gg cap2 n2 f2 W') : TB wd hb gg tb C W' := ⟨h.1, h.2.1, h.2.2.1, (h2.far (Array.getElem?_eq_some_iff.1 h.2.2.2).1 h.2.1 h.2.2.1).trans h.2.2.2⟩
theorem tcell_lit2 (em : Int → Em) (dp : Int → Int) (x : Int) : ∃ (v : Ev) (p : Option Addr) (c : Nat) (hh : Bool) (d : Int), tcell em dp x = [.int .i64 v.id, .int .i64 v.room, .int .i64 v.author, .int .i64 v.kind, .int .i64 v.key, .int .i64 v.n, .string v.text, .slice p v.prev.length c, .int .i64 v.time, .bool hh, .int .i64 d] ∧ v = (em x).v := ⟨(em x).v, (em x).p, (em x).c, heavyB (em x).v, dp x, rfl, rfl⟩
theorem set_turn {tb : Nat} {c0 c1 c2 c3 c4 c5 c6 c7 c8 c9 c10 : Value} (h : RI w wd em dp be bo xb hb gg cap n f F nF W) (ht : TB wd hb gg tb #[c0, c1, c2, c3, c4, c5, c6, c7, c8, c9, c10] W) (u0 u1 u2 u3 u4 u5 u6 u7 u8 u9 u10 : Value) : RI w wd em dp be bo xb hb gg cap n f F nF (((((((((((W.setCell ⟨tb, 0, none⟩ u0).setCell ⟨tb, 1, none⟩ u1).setCell ⟨tb, 2, none⟩ u2).setCell ⟨tb, 3, none⟩ u3).setCell ⟨tb, 4, none⟩ u4).setCell ⟨tb, 5, none⟩ u5).setCell ⟨tb, 6, none⟩ u6).setCell ⟨tb, 7, none⟩ u7).setCell ⟨tb, 8, none⟩ u8).setCell ⟨tb, 9, none⟩ u9).setCell ⟨tb, 10, none⟩ u10) ∧ TB wd hb gg tb #[u0, u1, u2, u3, u4, u5, u6, u7, u8, u9, u10] (((((((((((W.setCell ⟨tb, 0, none⟩ u0).setCell ⟨tb, 1, none⟩ u1).setCell ⟨tb, 2, none⟩ u2).setCell ⟨tb, 3, none⟩ u3).setCell ⟨tb, 4, none⟩ u4).setCell ⟨tb, 5, none⟩ u5).setCell ⟨tb, 6, none⟩ u6).setCell ⟨tb, 7, none⟩ u7).setCell ⟨tb, 8, none⟩ u8).setCell ⟨tb, 9, none⟩ u9).setCell ⟨tb, 10, none⟩ u10) := by
  constructor
  · repeat refine RI.setFar ?_ ht.2.1 ht.2.2.1 ht.1 _ _
    exact h
  · refine ⟨ht.1, ht.2.1, ht.2.2.1, ?_⟩
    have k0 := heap_set (i := 0) ht.2.2.2 u0
    have k1 := heap_set (i := 1) k0 u1
    have k2 := heap_set (i := 2) k1 u2
    have k3 := heap_set (i := 3) k2 u3
    have k4 := heap_set (i := 4) k3 u4
    have k5 := heap_set (i := 5) k4 u5
    have k6 := heap_set (i := 6) k5 u6
    have k7 := heap_set (i := 7) k6 u7
    have k8 := heap_set (i := 8) k7 u8
    have k9 := heap_set (i := 9) k8 u9
    have k10 := heap_set (i := 10) k9 u10
    simp only [List.setIfInBounds_toArray, List.set_cons_zero, List.set_cons_succ] at k10
    exact k10
theorem next_call {w0 : World} {KK : Nat → Prop} {P S : Int → Prop} {s : List Int} (O : Ord (lessT em dp) S) (hPS : ∀ e, P e → S e) (h : Tq w0 KK em dp hb gg cap n f W) (he : Emp (lessT em dp) P s n f) (hn : n ≤ 10000000) :
    Calls Tryz.prog 80 #[.pointer (some ⟨hb, 0, none⟩)] W fun e W' => (n = 0 ∧ e = .returned (.tuple #[ZT, .bool false]) ∧ Tq W (Far hb gg) em dp hb gg cap 0 f W') ∨ ∃ m f', n = m + 1 ∧ e = .returned (.tuple #[.agg (tcell em dp (f 0)).toArray, .bool true]) ∧ Tq W (Far hb gg) em dp hb gg cap m f' W' ∧ Emp (lessT em dp) P (s ++ [f 0]) m f' := by
  cases n with
  | zero =>
    refine (next_none h.base).mono ?_
    rintro e w' ⟨rfl, h1⟩
    exact .inl ⟨rfl, rfl, h1⟩
  | succ m =>
    refine (next_some O h.base (fun k hk => hPS _ ((he.mem _).2 (.inr ⟨k, hk, rfl⟩))) he.heap (by omega)).mono ?_
    rintro e w' ⟨rfl, f', h1, h2, h3⟩
    exact .inr ⟨m, f', rfl, rfl, h1, he.pop O hPS h2 h3⟩
def ResI (w : World) (g : Gr) (dp : Int → Int) (L : List (List En)) (e : Ending) (W' : World) : Prop := ∃ b n F r, e = .returned (.map (some b)) ∧ w.heap.size ≤ b ∧ SMap W' b n F ∧ RowIs F r ∧ Meets g.evs dp L r ∧ n ≤ 20000 ∧ Below w.heap.size w W'
set_option maxHeartbeats 16000000 in
set_option maxRecDepth 100000 in
theorem resolve_impl (g : Gr) (hg : rightG g = true) (E : Errs) (by_ bc be bp bt bq : Nat) (tl : List (Int × Int)) (ms : List (Nat × Slots)) (L : List (List En)) (a : Option Addr) (cp : Nat) (w : World) (hst : StoAt w g by_ bc be bp bt bq tl) (hE : LE E w) (hms : MsAt w a ms) (hR : MsRow ms L) (hS : ∀ s ∈ L, Sc g s) :
    Calls Tryz.prog 45 #[.pointer (some ⟨by_, 0, none⟩), .slice a ms.length cp] w (ResI w g (dpT tl) L) := by
  have HD : Hid ((idsOf g.evs).Nodup) := right_dup hg
  have HDI : Hid (∀ n, Disp L n → n ∈ idsOf g.evs) := fun n ⟨s, hs, x, hx, _, e⟩ => by
    obtain ⟨m, hm, e2, _⟩ := (hS s hs).mem hx
    exact List.mem_map.2 ⟨m, hm, e2.trans e⟩
  have h0 : ∀ s ∈ L, ∀ x ∈ s, x.id ≠ 0 := fun s hs x hx => by have := rowE_kind (hS s hs).row hx; omega
  have HDS : Hid (∀ n, DispF ms (agF ms) n ↔ Disp L n) := fun n => disp_same hR h0 n
  have HLEN : Hid (∀ s : List Int, s.Nodup → (∀ x ∈ s, Disp L x) → s.length ≤ 60) := fun s hn hm => Nat.le_trans (nodup_le s (idsOf g.evs) hn fun x hx => HDI.out x (hm x hx)) (by have := rowB_len (right_rows hg); simpa [idsOf] using this)
  have HV : Hid (∀ n ∈ idsOf g.evs, rightB (emI g.evs n).v = true ∧ (emI g.evs n).v.id = n ∧ (emI g.evs n).v = evIn g.evs n) := fun n hn => by
    obtain ⟨m, hm, rfl⟩ := List.mem_map.1 hn
    rw [emI_in HD.out hm, evIn_some HD.out hm]
    exact ⟨(rowB_each (right_rows hg) hm).1, rfl, rfl⟩
  have HO : Hid (Ord (lessT (emI g.evs) (dpT tl)) (fun n => n ∈ idsOf g.evs)) := lessT_ord HD.out (dpT tl)
  have HAG : Hid (RowIs (agF ms) (agrR L) ∧ Sc g (agrR L)) := ⟨agF_row hR, sc_agr hg hS⟩
  have HST : Hid (StoAt w g by_ bc be bp bt bq tl ∧ LE E w ∧ (∀ s ∈ L, Sc g s) ∧ rightG g = true) := ⟨hst, hE, hS, hg⟩
  have HMS : Hid (MsAt w a ms ∧ ∀ m ∈ ms, ∀ k y v, m.2 k y = some v → -9223372036854775808 ≤ v ∧ v ≤ 9223372036854775807) := ⟨hms, fun m hm k y v e => by
    obtain ⟨s, hs, hr⟩ := hR.of_map hm
    have := rowE_kind (hS s hs).row ((hr.mem ⟨k, y, v⟩).2 e)
    simp only at this
    omega⟩
  have HA := agreed_impl ms a cp w hms
  clear hst hE hms hR hS h0 hg
  go_enter Tryz.func45, Tryz.ntmps45
  go_wp2_with fail
  refine HA.mono ?_
  rintro e w1 ⟨bo, nA, rfl, hbo, hnA, hsm, hb1⟩
  have HB1 : Hid (Below w.heap.size w w1 ∧ SMap w1 bo nA (agF ms) ∧ nA ≤ 10000 ∧ w.heap.size ≤ bo ∧ bo < w1.heap.size) := ⟨hb1, hsm, hnA, hbo, hsm.lt⟩
  clear hbo hnA hsm hb1 HA
  go_wp2_with fail
  refine (sceneIn_impl g by_ bc be bp bt bq bo tl w1 (HST.out.1.kept HB1.out.1)).mono ?_
  rintro e w2 ⟨rfl, hb2⟩
  have HB2 : Hid (Below w1.heap.size w1 w2) := hb2
  obtain ⟨w3, HW3⟩ : ∃ w3, Hid (w3 = w2.alloc (.cells #[.map (some be), .map (some bo)] 132)) := ⟨_, (rfl : w2.alloc (.cells #[.map (some be), .map (some bo)] 132) = _)⟩
  have HB3 : Hid (Below w1.heap.size w1 w3 ∧ Below w.heap.size w w3 ∧ w3.heap[w2.heap.size]? = some (.cells #[.map (some be), .map (some bo)] 132 (0, 0))) := by
    have h1 : Below w1.heap.size w1 w3 := by rw [HW3.out]; exact hb2.alloc hb2.size _
    exact ⟨h1, HB1.out.1.trans (h1.mono HB1.out.1.size), by rw [HW3.out]; exact (MapKept.heap_alloc w2 _).1⟩
  have HDP := disputed_impl ms (agF ms) bo nA a cp w3 (HMS.out.1.kept HB3.out.2.1) (HB1.out.2.1.kept HB3.out.1) HMS.out.2
  rw [HW3.out] at HDP
  clear hb2
  go_wp2_with fail
  refine HDP.mono ?_
  rintro e w4 ⟨bi, l, rfl, hbi, hown, hmem, hlen, hb4⟩
  rw [← HW3.out] at hb4
  have HB4 : Hid (Below w3.heap.size w3 w4) := hb4
  have HTU := turnsOf_impl g HST.out.2.2.2 by_ bc be bp bt bq tl bi l w4 (HST.out.1.kept (HB3.out.2.1.trans (hb4.mono HB3.out.2.1.size))) hown (fun n hn => HDI.out n ((HDS.out n).1 ((hmem n).1 hn))) hlen
  have HML : Hid (∀ n, n ∈ l ↔ Disp L n) := fun n => (hmem n).trans (HDS.out n)
  clear hbi hown hmem hlen hb4 HDP
  go_wp2_with fail
  refine HTU.mono ?_
  rintro e w5 ⟨hb, gg, cap, n, f, rfl, ht5, hp5, hm5, hi5, hn5⟩
  have HR5 : Hid (RI w w4 (emI g.evs) (dpT tl) be bo w2.heap.size hb gg cap n f (agF ms) nA w5) := by
    have hbl := ht5.fr.below
    have hs1 := HB1.out.2.2.2.2
    have hs3 := HB3.out.1.size
    have hs4 := HB4.out.size
    have h34 : Below w.heap.size w w4 := HB3.out.2.1.trans (HB4.out.mono HB3.out.2.1.size)
    refine ⟨⟨⟨ht5.fr.os, ht5.fr.tape, ht5.fr.output, ht5.fr.size, fun q hq _ => ht5.fr.keep q hq trivial⟩, ht5.box, fun k => absurd trivial (ht5.lob k), fun k => absurd trivial (ht5.log k), ht5.ne, ht5.le, ht5.cm, ht5.row⟩, ?_, h34, HB1.out.2.2.2.1, by omega, ⟨?_, ?_⟩, (HB4.out.block _ (Array.getElem?_eq_some_iff.1 HB3.out.2.2).1).trans HB3.out.2.2, ?_⟩
    · exact (((HB1.out.2.1.kept HB3.out.1).kept HB4.out).kept hbl)
    · rcases Nat.lt_or_ge hb w4.heap.size with c | c
      · exact absurd trivial (ht5.lob c)
      · exact c
    · rcases Nat.lt_or_ge gg w4.heap.size with c | c
      · exact absurd trivial (ht5.log c)
      · exact c
    · have := HB2.out.size
      omega
  have HE5 : Hid (Emp (lessT (emI g.evs) (dpT tl)) (Disp L) [] n f ∧ n ≤ 10000000) := ⟨⟨List.Pairwise.nil, hp5, hi5, fun e => by rw [← HML.out, ← hm5]; simp, fun a ha => by cases ha⟩, hn5⟩
  clear ht5 hp5 hm5 hi5 hn5 HTU HML HB2 HMS HDS
  have hlts := HR5.out.tq.lts
  obtain ⟨wd, HWD⟩ : ∃ wd, Hid (wd = w4) := ⟨w4, (rfl : w4 = _)⟩
  rw [← HWD.out] at HR5
  clear HWD
  have hbu := HR5.out.h4
  go_upto_region 4 with fail
  go_cut [8, 9] (fun tp mv W => ∃ k, k ≤ 10000001 ∧ ∃ (tb : Nat) (s done : List Int) (n : Nat) (f : Nat → Int) (F : Slots) (nF : Nat) (o : List En) (v : Ev) (p : Option Addr) (c : Nat) (hh : Bool) (d : Int), tp = .pointer (some ⟨tb, 0, none⟩) ∧ Hid (RI w wd (emI g.evs) (dpT tl) be bo w2.heap.size hb gg cap n f F nF W ∧ TB wd hb gg tb #[.int .i64 v.id, .int .i64 v.room, .int .i64 v.author, .int .i64 v.kind, .int .i64 v.key, .int .i64 v.n, .string v.text, .slice p v.prev.length c, .int .i64 v.time, .bool hh, .int .i64 d] W ∧ Emp (lessT (emI g.evs) (dpT tl)) (Disp L) s n f ∧ RowIs F o ∧ Sc g o ∧ o = done.foldl (mtS g.evs) (agrR L) ∧ nF ≤ 10000 + done.length) ∧ ((mv = .bool true ∧ n < k ∧ Hid (∃ x, s = done ++ [x] ∧ v = (emI g.evs x).v)) ∨ (mv = .bool false ∧ n = 0 ∧ Hid (s = done))))
  case first =>
    go_wp2_with fail
    refine (next_call HO.out HDI.out HR5.out.tq HE5.out.1 HE5.out.2).mono ?_
    rintro e w6 (⟨rfl, rfl, ht6⟩ | ⟨m, f', rfl, rfl, ht6, he6⟩)
    · have HR6 : Hid (RI w wd (emI g.evs) (dpT tl) be bo w2.heap.size hb gg cap 0 f (agF ms) nA w6 ∧ Emp (lessT (emI g.evs) (dpT tl)) (Disp L) [] 0 f ∧ hb < w6.heap.size ∧ gg < w6.heap.size) := ⟨HR5.out.next ht6, HE5.out.1, ht6.lts⟩
      have hz6 := ht6.lts
      clear ht6 HE5 HR5
      unfold ZT
      go_wp2
      go_meet
      case rel => exact ⟨0, Nat.zero_le _, w6.heap.size, [], [], 0, f, agF ms, nA, agrR L, zeroEv, none, 0, false, 0, rfl, ⟨HR6.out.1.on ((Below.refl _ _).alloc (Nat.le_refl _) _), ⟨by have := HR6.out.1.tq.fr.size; omega, by omega, by omega, (MapKept.heap_alloc w6 _).1⟩, HR6.out.2.1, HAG.out.1, HAG.out.2, rfl, by have := HB1.out.2.2.1; omega⟩, .inr ⟨rfl, rfl, rfl⟩⟩
    · obtain ⟨v, p, c, hh, d, e, hvx⟩ := tcell_lit2 (emI g.evs) (dpT tl) (f 0)
      have HX : Hid (v = (emI g.evs (f 0)).v) := hvx
      have HR6 : Hid (RI w wd (emI g.evs) (dpT tl) be bo w2.heap.size hb gg cap m f' (agF ms) nA w6 ∧ Emp (lessT (emI g.evs) (dpT tl)) (Disp L) ([] ++ [f 0]) m f') := ⟨HR5.out.next ht6, he6⟩
      have hz6 := ht6.lts
      have hm6 : m + 1 ≤ 10000000 := HE5.out.2
      rw [e]
      clear ht6 he6 e HE5 HR5 hvx
      go_wp2
      go_meet
      case rel => exact ⟨m + 1, by omega, w6.heap.size, [] ++ [f 0], [], m, f', agF ms, nA, agrR L, v, p, c, hh, d, rfl, ⟨HR6.out.1.on ((Below.refl _ _).alloc (Nat.le_refl _) _), ⟨by have := HR6.out.1.tq.fr.size; omega, by omega, by omega, (MapKept.heap_alloc w6 _).1⟩, HR6.out.2, HAG.out.1, HAG.out.2, rfl, by have := HB1.out.2.2.1; omega⟩, .inl ⟨rfl, by omega, f 0, rfl, HX.out⟩⟩
  case rest =>
    obtain ⟨k0, hk0, hcut⟩ := hcut
    clear HE5 HR5 hlts
    go_wp2
    go_loopg [8, 9] (k0) (fun k tp mv wr => k ≤ 10000001 ∧ ∃ (tb : Nat) (s done : List Int) (n : Nat) (f : Nat → Int) (F : Slots) (nF : Nat) (o : List En) (v : Ev) (p : Option Addr) (c : Nat) (hh : Bool) (d : Int), tp = .pointer (some ⟨tb, 0, none⟩) ∧ Hid (RI w wd (emI g.evs) (dpT tl) be bo w2.heap.size hb gg cap n f F nF wr ∧ TB wd hb gg tb #[.int .i64 v.id, .int .i64 v.room, .int .i64 v.author, .int .i64 v.kind, .int .i64 v.key, .int .i64 v.n, .string v.text, .slice p v.prev.length c, .int .i64 v.time, .bool hh, .int .i64 d] wr ∧ Emp (lessT (emI g.evs) (dpT tl)) (Disp L) s n f ∧ RowIs F o ∧ Sc g o ∧ o = done.foldl (mtS g.evs) (agrR L) ∧ nF ≤ 10000 + done.length) ∧ ((mv = .bool true ∧ n < k ∧ Hid (∃ x, s = done ++ [x] ∧ v = (emI g.evs x).v)) ∨ (mv = .bool false ∧ n = 0 ∧ Hid (s = done))))
    case atStart => exact ⟨hk0, hcut⟩
    case round =>
      clear hcut
      obtain ⟨hkk, tb, s, done, n, f, F, nF, o, v, p, c, hh, d, rfl, HI, hcase⟩ := hrel
      rcases hcase with ⟨rfl, hnk, HX⟩ | ⟨rfl, rfl, HX⟩
      · obtain ⟨x, HXS⟩ : ∃ x, Hid (s = done ++ [x] ∧ v = (emI g.evs x).v) := HX.out.elim fun x h => ⟨x, h⟩
        clear HX
        obtain rfl := HXS.out.1
        have HEM : Hid (Emp (lessT (emI g.evs) (dpT tl)) (Disp L) (done ++ [x]) n f) := HI.out.2.2.1
        have HXD : Hid (Disp L x ∧ x ∈ idsOf g.evs) := by
          have := (HEM.out.mem x).2 (.inl (by simp))
          exact ⟨this, HDI.out x this⟩
        have HVX : Hid (rightB v = true ∧ v.id = x ∧ v = evIn g.evs x) := by
          have := HV.out x HXD.out.2
          rw [← HXS.out.2] at this
          exact this
        have HDL : Hid (done.length ≤ 60) := by
          have h1 := HLEN.out (done ++ [x]) (List.nodup_iff_pairwise_ne.2 (List.Pairwise.imp_of_mem (fun {a b} ha hb k e => by
            have hA := HDI.out a ((HEM.out.mem a).2 (.inl ha))
            subst e
            have := HO.out.asymm hA hA k
            rw [k] at this
            cases this) HEM.out.srt)) fun y hy => (HEM.out.mem y).2 (.inl hy)
          simp at h1
          unfold Hid
          omega
        have hn : n ≤ 10000000 := by omega
        have hsc : ∀ k, wr.cell? ⟨w2.heap.size, k, none⟩ = #[.map (some be), .map (some bo)][k]? := fun _ => cell_of_heap HI.out.1.scene
        have htb : ∀ k, wr.cell? ⟨tb, k, none⟩ = #[.int .i64 v.id, .int .i64 v.room, .int .i64 v.author, .int .i64 v.kind, .int .i64 v.key, .int .i64 v.n, .string v.text, .slice p v.prev.length c, .int .i64 v.time, .bool hh, .int .i64 d][k]? := fun _ => cell_of_heap HI.out.2.1.2.2.2
        have HHI := hinders_impl g o E be bo v p c wr (ScAt.of_row (HST.out.1.kept HI.out.1.below).evs HI.out.1.out HI.out.2.2.2.1 (rowE_in HI.out.2.2.2.2.1.row).2.1) HI.out.2.2.2.2.1 (HST.out.2.1.kept HI.out.1.below) HVX.out.1
        have HMT : Hid (alwE g.evs o v = 0 → (done ++ [x]).foldl (mtS g.evs) (agrR L) = putE o ⟨v.kind, v.key, v.id⟩ ∧ Sc g (putE o ⟨v.kind, v.key, v.id⟩)) := fun hk => by
          have hm : mtS g.evs o x = putE o ⟨v.kind, v.key, v.id⟩ := by
            rw [mtS_yes (by rw [← HVX.out.2.2]; exact hk), ← HVX.out.2.2]
          refine ⟨by rw [List.foldl_append, ← HI.out.2.2.2.2.2.1]; exact hm, ?_⟩
          obtain ⟨s, hs, z, hz, e⟩ := disp_in HXD.out.1
          have h2 := sc_mtS HI.out.2.2.2.2.1 (HST.out.2.2.1 s hs) hz
          rw [e, hm] at h2
          exact h2
        have HMN : Hid (alwE g.evs o v ≠ 0 → (done ++ [x]).foldl (mtS g.evs) (agrR L) = o) := fun hk => by
          rw [List.foldl_append, ← HI.out.2.2.2.2.2.1]
          exact mtS_no (by rw [← HVX.out.2.2]; exact hk)
        go_wp2_with fail
        refine HHI.mono ?_
        rintro e w6 (⟨hk, rfl, hb6⟩ | ⟨hk, pb, -, rfl, -, hb6⟩)
        · have HI6 : Hid (RI w wd (emI g.evs) (dpT tl) be bo w2.heap.size hb gg cap n f F nF w6 ∧ TB wd hb gg tb #[.int .i64 v.id, .int .i64 v.room, .int .i64 v.author, .int .i64 v.kind, .int .i64 v.key, .int .i64 v.n, .string v.text, .slice p v.prev.length c, .int .i64 v.time, .bool hh, .int .i64 d] w6) := ⟨HI.out.1.on hb6, HI.out.2.1.on hb6⟩
          have htb6 : ∀ k, w6.cell? ⟨tb, k, none⟩ = #[.int .i64 v.id, .int .i64 v.room, .int .i64 v.author, .int .i64 v.kind, .int .i64 v.key, .int .i64 v.n, .string v.text, .slice p v.prev.length c, .int .i64 v.time, .bool hh, .int .i64 d][k]? := fun _ => cell_of_heap HI6.out.2.2.2.2
          have hmt := HMT.out hk
          have HPU : Hid (RowIs (upd F ⟨v.kind, v.key, v.id⟩ (some v.id)) (putE o ⟨v.kind, v.key, v.id⟩)) := HI.out.2.2.2.1.put ⟨v.kind, v.key, v.id⟩
          have HOO : Hid (RowIs (upd F ⟨v.kind, v.key, v.id⟩ (some v.id)) (putE o ⟨v.kind, v.key, v.id⟩) ∧ Sc g (putE o ⟨v.kind, v.key, v.id⟩) ∧ putE o ⟨v.kind, v.key, v.id⟩ = (done ++ [x]).foldl (mtS g.evs) (agrR L) ∧ nF + 1 ≤ 10000 + (done ++ [x]).length) := ⟨HPU.out, hmt.2, hmt.1.symm, by have := HI.out.2.2.2.2.2.2; simp; omega⟩
          have hEn : EnIn ⟨v.kind, v.key, v.id⟩ := ((rowE_in hmt.2.row).2.2 ⟨v.kind, v.key, v.id⟩ (mem_putE.2 (.inl rfl))).1
          have hid0 : (v.id == 0) = false := ((rowE_in hmt.2.row).2.2 ⟨v.kind, v.key, v.id⟩ (mem_putE.2 (.inl rfl))).2
          have hnl : nF < maxLen := by have := HI.out.2.2.2.2.2.2; have := HDL.out; unfold maxLen; omega
          clear hb6 hk hsc htb HHI hmt HMT HMN HPU
          go_wp2_with fail
          refine (entryOf_impl v p c w6).mono ?_
          rintro e w7 ⟨rfl, hb7⟩
          have HI7 : Hid (RI w wd (emI g.evs) (dpT tl) be bo w2.heap.size hb gg cap n f F nF w7 ∧ TB wd hb gg tb #[.int .i64 v.id, .int .i64 v.room, .int .i64 v.author, .int .i64 v.kind, .int .i64 v.key, .int .i64 v.n, .string v.text, .slice p v.prev.length c, .int .i64 v.time, .bool hh, .int .i64 d] w7) := ⟨HI6.out.1.on hb7, HI6.out.2.on hb7⟩
          clear hb7 htb6
          go_wp2_with fail
          refine (smap_put ⟨v.kind, v.key, v.id⟩ F bo nF w7 HI7.out.1.out hnl hEn hid0).mono ?_
          rintro e w8 ⟨rfl, hs8, hg8⟩
          have HI8 : Hid (RI w wd (emI g.evs) (dpT tl) be bo w2.heap.size hb gg cap n f (upd F ⟨v.kind, v.key, v.id⟩ (some v.id)) (nF + 1) w8 ∧ TB wd hb gg tb #[.int .i64 v.id, .int .i64 v.room, .int .i64 v.author, .int .i64 v.kind, .int .i64 v.key, .int .i64 v.n, .string v.text, .slice p v.prev.length c, .int .i64 v.time, .bool hh, .int .i64 d] w8) := ⟨HI7.out.1.put hg8 hs8, HI7.out.2.put hg8 HI7.out.1.h3⟩
          clear hs8 hg8 hEn hid0
          have hzt : wd.heap.size ≤ w8.heap.size := Nat.le_trans (Nat.le_refl _) HI8.out.1.tq.fr.size
          have hl8 := HI8.out.1.tq.lts
          have HRA : Hid (RI w wd (emI g.evs) (dpT tl) be bo w2.heap.size hb gg cap n f (upd F ⟨v.kind, v.key, v.id⟩ (some v.id)) (nF + 1) (w8.alloc (.cells #[.int .i64 v.id, .int .i64 v.room, .int .i64 v.author, .int .i64 v.kind, .int .i64 v.key, .int .i64 v.n, .string v.text, .slice p v.prev.length c, .int .i64 v.time, .bool hh, .int .i64 d] 140)) ∧ TB wd hb gg w8.heap.size #[.int .i64 v.id, .int .i64 v.room, .int .i64 v.author, .int .i64 v.kind, .int .i64 v.key, .int .i64 v.n, .string v.text, .slice p v.prev.length c, .int .i64 v.time, .bool hh, .int .i64 d] (w8.alloc (.cells #[.int .i64 v.id, .int .i64 v.room, .int .i64 v.author, .int .i64 v.kind, .int .i64 v.key, .int .i64 v.n, .string v.text, .slice p v.prev.length c, .int .i64 v.time, .bool hh, .int .i64 d] 140))) := ⟨HI8.out.1.on ((Below.refl _ _).alloc (Nat.le_refl _) _), hzt, by omega, by omega, (MapKept.heap_alloc w8 _).1⟩
          have htc : ∀ k, w8.cell? ⟨tb, k, none⟩ = #[.int .i64 v.id, .int .i64 v.room, .int .i64 v.author, .int .i64 v.kind, .int .i64 v.key, .int .i64 v.n, .string v.text, .slice p v.prev.length c, .int .i64 v.time, .bool hh, .int .i64 d][k]? := fun _ => cell_of_heap HI8.out.2.2.2.2
          have hfb : ∀ k, w8.frozen? ⟨tb, k, none⟩ = false := fun _ => frozen_of_heap HI8.out.2.2.2.2
          go_wp2_with fail
          refine (next_call HO.out HDI.out HRA.out.1.tq HEM.out hn).mono ?_
          rintro e w10 (⟨rfl, rfl, ht6⟩ | ⟨m, f', rfl, rfl, ht6, he6⟩)
          · have HRB : Hid (RI w wd (emI g.evs) (dpT tl) be bo w2.heap.size hb gg cap 0 f (upd F ⟨v.kind, v.key, v.id⟩ (some v.id)) (nF + 1) w10 ∧ TB wd hb gg w8.heap.size #[.int .i64 v.id, .int .i64 v.room, .int .i64 v.author, .int .i64 v.kind, .int .i64 v.key, .int .i64 v.n, .string v.text, .slice p v.prev.length c, .int .i64 v.time, .bool hh, .int .i64 d] w10) := ⟨HRA.out.1.next ht6, HRA.out.2.next ht6⟩
            have htd : ∀ k, w10.cell? ⟨w8.heap.size, k, none⟩ = #[.int .i64 v.id, .int .i64 v.room, .int .i64 v.author, .int .i64 v.kind, .int .i64 v.key, .int .i64 v.n, .string v.text, .slice p v.prev.length c, .int .i64 v.time, .bool hh, .int .i64 d][k]? := fun _ => cell_of_heap HRB.out.2.2.2.2
            have hfd : ∀ k, w10.frozen? ⟨w8.heap.size, k, none⟩ = false := fun _ => frozen_of_heap HRB.out.2.2.2.2
            have hsd : w8.heap.size < w10.heap.size := (Array.getElem?_eq_some_iff.1 HRB.out.2.2.2.2).1
            unfold ZT
            clear ht6 htc hfb HRA
            go_wp2
            go_roundg 0
            case measure => omega
            case rel => exact ⟨by omega, w8.heap.size, done ++ [x], done ++ [x], 0, f, upd F ⟨v.kind, v.key, v.id⟩ (some v.id), nF + 1, putE o ⟨v.kind, v.key, v.id⟩, zeroEv, none, 0, false, 0, rfl, ⟨(set_turn HRB.out.1 HRB.out.2 _ _ _ _ _ _ _ _ _ _ _).1, (set_turn HRB.out.1 HRB.out.2 _ _ _ _ _ _ _ _ _ _ _).2, HEM.out, HOO.out⟩, .inr ⟨rfl, rfl, rfl⟩⟩
          · obtain ⟨v2, p2, c2, hh2, d2, e, hvx⟩ := tcell_lit2 (emI g.evs) (dpT tl) (f 0)
            have HX2 : Hid (v2 = (emI g.evs (f 0)).v ∧ Emp (lessT (emI g.evs) (dpT tl)) (Disp L) (done ++ [x] ++ [f 0]) m f') := ⟨hvx, he6⟩
            have HRB : Hid (RI w wd (emI g.evs) (dpT tl) be bo w2.heap.size hb gg cap m f' (upd F ⟨v.kind, v.key, v.id⟩ (some v.id)) (nF + 1) w10 ∧ TB wd hb gg w8.heap.size #[.int .i64 v.id, .int .i64 v.room, .int .i64 v.author, .int .i64 v.kind, .int .i64 v.key, .int .i64 v.n, .string v.text, .slice p v.prev.length c, .int .i64 v.time, .bool hh, .int .i64 d] w10) := ⟨HRA.out.1.next ht6, HRA.out.2.next ht6⟩
            have htd : ∀ k, w10.cell? ⟨w8.heap.size, k, none⟩ = #[.int .i64 v.id, .int .i64 v.room, .int .i64 v.author, .int .i64 v.kind, .int .i64 v.key, .int .i64 v.n, .string v.text, .slice p v.prev.length c, .int .i64 v.time, .bool hh, .int .i64 d][k]? := fun _ => cell_of_heap HRB.out.2.2.2.2
            have hfd : ∀ k, w10.frozen? ⟨w8.heap.size, k, none⟩ = false := fun _ => frozen_of_heap HRB.out.2.2.2.2
            have hsd : w8.heap.size < w10.heap.size := (Array.getElem?_eq_some_iff.1 HRB.out.2.2.2.2).1
            rw [e]
            clear ht6 he6 e hvx htc hfb HRA
            go_wp2
            go_roundg (m + 1)
            case measure => omega
            case rel => exact ⟨by omega, w8.heap.size, done ++ [x] ++ [f 0], done ++ [x], m, f', upd F ⟨v.kind, v.key, v.id⟩ (some v.id), nF + 1, putE o ⟨v.kind, v.key, v.id⟩, v2, p2, c2, hh2, d2, rfl, ⟨(set_turn HRB.out.1 HRB.out.2 _ _ _ _ _ _ _ _ _ _ _).1, (set_turn HRB.out.1 HRB.out.2 _ _ _ _ _ _ _ _ _ _ _).2, HX2.out.2, HOO.out⟩, .inl ⟨rfl, by omega, f 0, rfl, HX2.out.1⟩⟩
        · have HI6 : Hid (RI w wd (emI g.evs) (dpT tl) be bo w2.heap.size hb gg cap n f F nF w6 ∧ TB wd hb gg tb #[.int .i64 v.id, .int .i64 v.room, .int .i64 v.author, .int .i64 v.kind, .int .i64 v.key, .int .i64 v.n, .string v.text, .slice p v.prev.length c, .int .i64 v.time, .bool hh, .int .i64 d] w6) := ⟨HI.out.1.on hb6, HI.out.2.1.on hb6⟩
          have HOO : Hid (RowIs F o ∧ Sc g o ∧ o = (done ++ [x]).foldl (mtS g.evs) (agrR L) ∧ nF ≤ 10000 + (done ++ [x]).length) := ⟨HI.out.2.2.2.1, HI.out.2.2.2.2.1, (HMN.out hk).symm, by have := HI.out.2.2.2.2.2.2; simp; omega⟩
          clear hb6 hk hsc htb HHI HMT HMN
          have hzt : wd.heap.size ≤ w6.heap.size := Nat.le_trans (Nat.le_refl _) HI6.out.1.tq.fr.size
          have hl8 := HI6.out.1.tq.lts
          have HRA : Hid (RI w wd (emI g.evs) (dpT tl) be bo w2.heap.size hb gg cap n f (F) (nF) (w6.alloc (.cells #[.int .i64 v.id, .int .i64 v.room, .int .i64 v.author, .int .i64 v.kind, .int .i64 v.key, .int .i64 v.n, .string v.text, .slice p v.prev.length c, .int .i64 v.time, .bool hh, .int .i64 d] 140)) ∧ TB wd hb gg w6.heap.size #[.int .i64 v.id, .int .i64 v.room, .int .i64 v.author, .int .i64 v.kind, .int .i64 v.key, .int .i64 v.n, .string v.text, .slice p v.prev.length c, .int .i64 v.time, .bool hh, .int .i64 d] (w6.alloc (.cells #[.int .i64 v.id, .int .i64 v.room, .int .i64 v.author, .int .i64 v.kind, .int .i64 v.key, .int .i64 v.n, .string v.text, .slice p v.prev.length c, .int .i64 v.time, .bool hh, .int .i64 d] 140))) := ⟨HI6.out.1.on ((Below.refl _ _).alloc (Nat.le_refl _) _), hzt, by omega, by omega, (MapKept.heap_alloc w6 _).1⟩
          have htc : ∀ k, w6.cell? ⟨tb, k, none⟩ = #[.int .i64 v.id, .int .i64 v.room, .int .i64 v.author, .int .i64 v.kind, .int .i64 v.key, .int .i64 v.n, .string v.text, .slice p v.prev.length c, .int .i64 v.time, .bool hh, .int .i64 d][k]? := fun _ => cell_of_heap HI6.out.2.2.2.2
          have hfb : ∀ k, w6.frozen? ⟨tb, k, none⟩ = false := fun _ => frozen_of_heap HI6.out.2.2.2.2
          go_wp2_with fail
          refine (next_call HO.out HDI.out HRA.out.1.tq HEM.out hn).mono ?_
          rintro e w10 (⟨rfl, rfl, ht6⟩ | ⟨m, f', rfl, rfl, ht6, he6⟩)
          · have HRB : Hid (RI w wd (emI g.evs) (dpT tl) be bo w2.heap.size hb gg cap 0 f (F) (nF) w10 ∧ TB wd hb gg w6.heap.size #[.int .i64 v.id, .int .i64 v.room, .int .i64 v.author, .int .i64 v.kind, .int .i64 v.key, .int .i64 v.n, .string v.text, .slice p v.prev.length c, .int .i64 v.time, .bool hh, .int .i64 d] w10) := ⟨HRA.out.1.next ht6, HRA.out.2.next ht6⟩
            have htd : ∀ k, w10.cell? ⟨w6.heap.size, k, none⟩ = #[.int .i64 v.id, .int .i64 v.room, .int .i64 v.author, .int .i64 v.kind, .int .i64 v.key, .int .i64 v.n, .string v.text, .slice p v.prev.length c, .int .i64 v.time, .bool hh, .int .i64 d][k]? := fun _ => cell_of_heap HRB.out.2.2.2.2
            have hfd : ∀ k, w10.frozen? ⟨w6.heap.size, k, none⟩ = false := fun _ => frozen_of_heap HRB.out.2.2.2.2
            have hsd : w6.heap.size < w10.heap.size := (Array.getElem?_eq_some_iff.1 HRB.out.2.2.2.2).1
            unfold ZT
            clear ht6 htc hfb HRA
            go_wp2
            go_roundg 0
            case measure => omega
            case rel => exact ⟨by omega, w6.heap.size, done ++ [x], done ++ [x], 0, f, F, nF, o, zeroEv, none, 0, false, 0, rfl, ⟨(set_turn HRB.out.1 HRB.out.2 _ _ _ _ _ _ _ _ _ _ _).1, (set_turn HRB.out.1 HRB.out.2 _ _ _ _ _ _ _ _ _ _ _).2, HEM.out, HOO.out⟩, .inr ⟨rfl, rfl, rfl⟩⟩
          · obtain ⟨v2, p2, c2, hh2, d2, e, hvx⟩ := tcell_lit2 (emI g.evs) (dpT tl) (f 0)
            have HX2 : Hid (v2 = (emI g.evs (f 0)).v ∧ Emp (lessT (emI g.evs) (dpT tl)) (Disp L) (done ++ [x] ++ [f 0]) m f') := ⟨hvx, he6⟩
            have HRB : Hid (RI w wd (emI g.evs) (dpT tl) be bo w2.heap.size hb gg cap m f' (F) (nF) w10 ∧ TB wd hb gg w6.heap.size #[.int .i64 v.id, .int .i64 v.room, .int .i64 v.author, .int .i64 v.kind, .int .i64 v.key, .int .i64 v.n, .string v.text, .slice p v.prev.length c, .int .i64 v.time, .bool hh, .int .i64 d] w10) := ⟨HRA.out.1.next ht6, HRA.out.2.next ht6⟩
            have htd : ∀ k, w10.cell? ⟨w6.heap.size, k, none⟩ = #[.int .i64 v.id, .int .i64 v.room, .int .i64 v.author, .int .i64 v.kind, .int .i64 v.key, .int .i64 v.n, .string v.text, .slice p v.prev.length c, .int .i64 v.time, .bool hh, .int .i64 d][k]? := fun _ => cell_of_heap HRB.out.2.2.2.2
            have hfd : ∀ k, w10.frozen? ⟨w6.heap.size, k, none⟩ = false := fun _ => frozen_of_heap HRB.out.2.2.2.2
            have hsd : w6.heap.size < w10.heap.size := (Array.getElem?_eq_some_iff.1 HRB.out.2.2.2.2).1
            rw [e]
            clear ht6 he6 e hvx htc hfb HRA
            go_wp2
            go_roundg (m + 1)
            case measure => omega
            case rel => exact ⟨by omega, w6.heap.size, done ++ [x] ++ [f 0], done ++ [x], m, f', F, nF, o, v2, p2, c2, hh2, d2, rfl, ⟨(set_turn HRB.out.1 HRB.out.2 _ _ _ _ _ _ _ _ _ _ _).1, (set_turn HRB.out.1 HRB.out.2 _ _ _ _ _ _ _ _ _ _ _).2, HX2.out.2, HOO.out⟩, .inl ⟨rfl, by omega, f 0, rfl, HX2.out.1⟩⟩
      · have hds : s = done := HX.out
        have HM : Hid (Meets g.evs (dpT tl) L o) := by
          have := Emp.end HD.out HDI.out HI.out.2.2.1
          rw [hds, ← HI.out.2.2.2.2.2.1] at this
          exact this
        have HDL : Hid (done.length ≤ 60) := by
          rw [← hds]
          exact HLEN.out s (List.nodup_iff_pairwise_ne.2 (List.Pairwise.imp_of_mem (fun {a b} ha hb k e => by
            have hA := HDI.out a ((HI.out.2.2.1.mem a).2 (.inl ha))
            subst e
            have := HO.out.asymm hA hA k
            rw [k] at this
            cases this) HI.out.2.2.1.srt)) fun y hy => (HI.out.2.2.1.mem y).2 (.inl hy)
        go_wp2
        go_ret
        exact ⟨bo, nF, F, o, rfl, HI.out.1.h2, HI.out.1.out, HI.out.2.2.2.1, HM.out, by have := HI.out.2.2.2.2.2.2; have := HDL.out; omega, HI.out.1.below⟩
end Go.Proofs.YteajcmkaoahbeaaGreatDoor
