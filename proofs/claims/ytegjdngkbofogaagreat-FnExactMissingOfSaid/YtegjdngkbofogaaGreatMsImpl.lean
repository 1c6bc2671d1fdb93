/- MissingOf of the program. -/
import Derived.Test.YtegjdngkbofogaaGreatMsSort
namespace Go.Proofs.YtegjdngkbofogaaGreat
open Go.RowKit

def heldB (g : Gr) (p : Int) : Bool := decide (p ∈ idsOf g.evs) || decide (p ∈ idsOf g.pk)
theorem lack_held (g : Gr) (p : Int) : lackB g p = !heldB g p := by
  have key : ∀ ids : List Int, decide (atI ids p < 0) = !decide (p ∈ ids) := fun ids => by
    by_cases h : p ∈ ids
    · have := atI_mem.2 h
      rw [decide_eq_true h, decide_eq_false (by omega)]
      rfl
    · have : ¬ 0 ≤ atI ids p := fun c => h (atI_mem.1 c)
      rw [decide_eq_false h, decide_eq_true (by omega)]
      rfl
  unfold lackB heldB
  rw [key, key]
  cases decide (p ∈ idsOf g.evs) <;> cases decide (p ∈ idsOf g.pk) <;> rfl
theorem look_any {w : World} {b n : Nat} {es : List Em} (h : w.ownsMap Tryz.prog 2 heldR b n (putAll es)) {id : Int} (hid : -9223372036854775808 ≤ id ∧ id ≤ 9223372036854775807) :
    ∃ e : Ev, ∃ (p : Option Addr) (c : Nat), (Instr.lookup 59 (.map (some b)) (.int .i64 id) true).run Tryz.prog w = .ok (.tuple #[.agg #[.int .i64 e.id, .int .i64 e.room, .int .i64 e.author, .int .i64 e.kind, .int .i64 e.key, .int .i64 e.n, .string e.text, .slice p e.prev.length c, .int .i64 e.time], .bool (decide (id ∈ idsOf es))]) w := by
  rcases look_ev h hid with ⟨h1, h2⟩ | ⟨m, hm, h1, h2⟩
  · refine ⟨⟨0, 0, 0, 0, 0, 0, ⟨#[]⟩, [], 0⟩, none, 0, ?_⟩
    rw [h2, decide_eq_false h1]
    rfl
  · refine ⟨m.v, m.p, m.c, ?_⟩
    have hin : id ∈ idsOf es := List.mem_map.2 ⟨m, hm, h1⟩
    rw [h2, decide_eq_true hin]
    rfl
set_option maxHeartbeats 2000000 in
set_option maxRecDepth 100000 in
theorem holds_impl (g : Gr) (be bp ne np : Nat) (id : Int) (hid : -9223372036854775808 ≤ id ∧ id ≤ 9223372036854775807) (w : World) (h1 : w.ownsMap Tryz.prog 2 heldR be ne (putAll g.evs)) (h2 : w.ownsMap Tryz.prog 2 heldR bp np (putAll g.pk)) :
    Calls Tryz.prog 64 #[.agg #[.map (some be), .map (some bp)], .int .i64 id] w fun e w' => e = .returned (.bool (heldB g id)) ∧ Below w.heap.size w w' := by
  have HB : Hid (∀ o1 o2 o3, Below w.heap.size w (((w.alloc o1).alloc o2).alloc o3)) := fun o1 o2 o3 => (((Below.refl _ _).alloc (Nat.le_refl _) o1).alloc (by simp) o2).alloc (by simp; omega) o3
  have L1 := fun o1 => look_any (h1.alloc o1) hid
  have L2 := fun o1 o2 => look_any ((h2.alloc o1).alloc o2) hid
  obtain ⟨e1, p1, c1, hl1⟩ := L1 (.cells #[.map (some be), .map (some bp)] 61)
  obtain ⟨e2, p2, c2, hl2⟩ := L2 (.cells #[.map (some be), .map (some bp)] 61) (.cells #[.int .i64 e1.id, .int .i64 e1.room, .int .i64 e1.author, .int .i64 e1.kind, .int .i64 e1.key, .int .i64 e1.n, .string e1.text, .slice p1 e1.prev.length c1, .int .i64 e1.time] 28)
  clear h1 h2 L1 L2
  cases ha : decide (id ∈ idsOf g.evs)
  · have HS : Hid (heldB g id = decide (id ∈ idsOf g.pk)) := by unfold Hid heldB; rw [ha]; rfl
    rw [ha] at hl1
    obtain ⟨r, HR⟩ : ∃ r, Hid (r = decide (id ∈ idsOf g.pk)) := ⟨decide (id ∈ idsOf g.pk), (rfl : decide (id ∈ idsOf g.pk) = _)⟩
    rw [← HR.out] at hl2
    go_enter Tryz.func64, Tryz.ntmps64
    go_wp2
    go_ret
    exact ⟨ret_bool (HR.out.trans HS.out.symm), HB.out _ _ _⟩
  · have HS : Hid (heldB g id = true) := by unfold Hid heldB; rw [ha]; rfl
    rw [ha] at hl1
    obtain ⟨r, HR⟩ : ∃ r, Hid (r = decide (id ∈ idsOf g.pk)) := ⟨decide (id ∈ idsOf g.pk), (rfl : decide (id ∈ idsOf g.pk) = _)⟩
    rw [← HR.out] at hl2
    go_enter Tryz.func64, Tryz.ntmps64
    go_wp2
    go_ret
    exact ⟨ret_bool HS.out.symm, HB.out _ _ _⟩
/-- What is found when some of the parked ones have been looked at. -/
structure MInv (w : World) (g : Gr) (be bp : Nat) (left : Lit → Bool) (cnt : Nat) (ms : List Int) (V : Value) (W : World) : Prop where
  row : NumsOwn W (w.heap.size + 1 + 1) V ms
  mem : ∀ p, p ∈ ms ↔ ∃ m ∈ g.pk, left (.int .i64 m.v.id) = false ∧ p ∈ m.v.prev ∧ lackB g p = true
  cost : ms.length + cnt * 4 ≤ g.pk.length * 4
  box : W.heap[w.heap.size]? = some (.cells #[.map (some be), .map (some bp)] 61 (0, 0))
  below : Below w.heap.size w W
structure MsIn (w : World) (g : Gr) (be bp : Nat) : Prop where
  evs : w.ownsMap Tryz.prog 2 heldR be g.evs.length (putAll g.evs)
  pk : w.ownsMap Tryz.prog 2 heldR bp g.pk.length (putAll g.pk)
  nums : ∀ m ∈ g.pk, NumsAt w m.p m.v.prev
  small : ∀ m ∈ g.pk, m.v.prev.length ≤ 4 ∧ ∀ p ∈ m.v.prev, 1 ≤ p ∧ p ≤ 1000000
  dup : (idsOf g.pk).Nodup
  len : g.pk.length ≤ 20
theorem MInv.next {w : World} {g : Gr} {be bp : Nat} {left : Lit → Bool} {cnt cnt1 : Nat} {ms : List Int} {V V' : Value} {W W' : World} (h : MInv w g be bp left cnt ms V W) (hi : MsIn w g be bp) {m : Em} (hm : m ∈ g.pk) (hlt : cnt1 < cnt) (hrow : NumsOwn W' (w.heap.size + 1 + 1) V' (ms ++ m.v.prev.filter (lackB g))) (hbox : W'.heap[w.heap.size]? = some (.cells #[.map (some be), .map (some bp)] 61 (0, 0))) (hb : Below w.heap.size w W') :
    MInv w g be bp (fun z => left z && !z.sameKey (.int .i64 m.v.id)) cnt1 (ms ++ m.v.prev.filter (lackB g)) V' W' := by
  refine ⟨hrow, fun p => ?_, ?_, hbox, hb⟩
  · rw [List.mem_append, h.mem, List.mem_filter]
    constructor
    · rintro (⟨m', hm', hl, hp, hk⟩ | ⟨hp, hk⟩)
      · exact ⟨m', hm', by simp [hl], hp, hk⟩
      · have self : (Lit.int .i64 m.v.id).sameKey (.int .i64 m.v.id) = true := WideAt.sameKey_self (by trivial)
        exact ⟨m, hm, by simp [self], hp, hk⟩
    · rintro ⟨m', hm', hl, hp, hk⟩
      rcases left_strike hl with e | e
      · rw [em_same hi.dup hm' hm e] at hp
        exact .inr ⟨hp, hk⟩
      · exact .inl ⟨m', hm', e, hp, hk⟩
  · have h1 := h.cost
    have h2 := (hi.small m hm).1
    have h3 := List.length_filter_le (lackB g) m.v.prev
    rw [List.length_append]
    omega
theorem filt_take {f : Int → Bool} {ps : List Int} {j : Nat} (hj : j < ps.length) : (ps.take (j + 1)).filter f = (ps.take j).filter f ++ (if f ps[j] = true then [ps[j]] else []) := by
  rw [List.take_succ_eq_append_getElem hj, List.filter_append]
  congr 1
  by_cases c : f ps[j] = true
  · rw [if_pos c, List.filter_cons, if_pos c]
    rfl
  · rw [if_neg c, List.filter_cons, if_neg c]
    rfl
theorem ranges_low {w w' : World} {base b r n cnt : Nat} {k : TypeId} {P : Program} {R : Value → Option (DataW Value × List MemPlace)} {D : DataW Value} {left : Lit → Bool} (h : w.ranges P k R b r n D left cnt) (hb : Below base w w') (h1 : b < base) (h2 : r < base) : w'.ranges P k R b r n D left cnt := by
  obtain ⟨es, clock, since, seen, c0, hbb, F, hs, hD, hr, rest⟩ := h
  exact ⟨es, clock, since, seen, c0, (hb.block b h1).trans hbb, F, hs, hD, (hb.block r h2).trans hr, rest⟩
set_option maxHeartbeats 8000000 in
set_option maxRecDepth 100000 in
theorem missing_impl (g : Gr) (be bp : Nat) (w : World) (h : MsIn w g be bp) :
    Calls Tryz.prog 40 #[.agg #[.map (some be), .map (some bp)]] w fun e w' => ∃ v, e = .returned v ∧ NumsRow w' w.heap.size v (misL g) ∧ Below w.heap.size w w' := by
  obtain ⟨i0, hi, hz0, hz1, hz2i⟩ := info_parts Tryz.info2
  have H : Hid (MsIn w g be bp) := h
  have hbp := h.pk.lt
  have hbe := h.evs.lt
  have hln := h.len
  have HX : Hid ((w.alloc (.cells #[.map (some be), .map (some bp)] 61)).heap[w.heap.size]? = some (.cells #[.map (some be), .map (some bp)] 61 (0, 0)) ∧ Below w.heap.size w (w.alloc (.cells #[.map (some be), .map (some bp)] 61))) := ⟨(MapKept.heap_alloc w _).1, (Below.refl _ _).alloc (Nat.le_refl _) _⟩
  clear h
  go_enter Tryz.func40, Tryz.ntmps40
  go_wp2_with (at_range; refine wpList_range_own _ rfl _ 59 rfl 2 28 (Maps.int_keyed (P := Tryz.prog) Tryz.underlying2) Tryz.underlying59 heldR bp g.pk.length (putAll g.pk) rfl (H.out.pk.alloc _) ?_; intro w5 hrg5 hg5 hs5)
  go_frame
  have HM0 : Hid (MInv w g be bp (Maps.has (putAll g.pk)) (Maps.size (putAll g.pk)) [] (.slice none 0 0) w5) := by
    refine ⟨NumsOwn.nil _ _, fun p => ⟨fun h => (by cases h), ?_⟩, ?_, (hg5.block _ (by simp) (by simp)).trans HX.out.1, HX.out.2.grown hg5 (by simp) (fun k h => by cases h)⟩
    · rintro ⟨m, hm, hl, _⟩
      have h1 := has_putAll g.pk m.v.id
      rw [hl, decide_eq_true (show m.v.id ∈ idsOf g.pk from List.mem_map.2 ⟨m, hm, rfl⟩)] at h1
      cases h1
    · have := (H.out.pk.alloc (.cells #[] 2)).size_le
      simp
      omega
  obtain ⟨r, HR⟩ : ∃ r, Hid (r = w.heap.size + 1) := ⟨w.heap.size + 1, (rfl : w.heap.size + 1 = _)⟩
  have hr1a : w.heap.size + 1 ≤ r := by rw [HR.out]; exact Nat.le_refl _
  have hr1b : r ≤ w.heap.size + 1 := by rw [HR.out]; exact Nat.le_refl _
  have hszA : (w.alloc (.cells #[.map (some be), .map (some bp)] 61)).heap.size = w.heap.size + 1 := by simp
  rw [hszA] at hrg5 hs5 ⊢
  rw [← HR.out] at hrg5 ⊢
  go_loopw [3, 5, 7] (fun v _ _ wr => ∃ (left : Lit → Bool) (cnt : Nat) (ms : List Int) (V : Value), V = v ∧ wr.ranges Tryz.prog 2 heldR bp r g.pk.length (putAll g.pk) left cnt ∧ Hid (MInv w g be bp left cnt ms V wr)) (fun _ _ _ wr => wr.rangeLeft bp r)
  case atStart => exact ⟨_, _, _, _, rfl, hrg5, HM0⟩
  case round =>
    clear HM0 hrg5 hg5 hs5 HX hszA
    obtain ⟨left, cnt, ms, V, rfl, hrg, HI⟩ := hrel
    have hzz : w.heap.size + 1 + 1 ≤ wr.heap.size := by have := hrg.lt; omega
    have hml : ms.length ≤ 80 := by have := HI.out.cost; omega
    go_wp2_with (at_next; refine wpList_next_ev rfl _ rfl bp r g.pk.length g.pk _ _ rfl hrg ?_ ?_)
    · intro hc0 hl0
      have HMR : Hid (∀ e, e ∈ ms ↔ e ∈ misL g) := fun e => by
        rw [HI.out.mem, mem_misL]
        constructor
        · rintro ⟨m, hm, _, h1⟩
          exact ⟨m, hm, h1⟩
        · rintro ⟨m, hm, h1⟩
          exact ⟨m, hm, hl0 _, h1⟩
      have HRW := HI.out.row.row (by omega)
      have HBW : Hid (Below w.heap.size w wr) := HI.out.below
      clear hc0 hl0 hrg HI
      go_wp2_with fail
      refine (sort_nums ms (w.heap.size + 1 + 1) V wr HRW hzz (by omega)).mono ?_
      rintro e w6 ⟨rfl, hr6, hb6⟩
      have hz6 : w.heap.size + 1 + 1 ≤ w6.heap.size := Nat.le_trans hzz hb6.size
      have HB6 : Hid (Below w.heap.size w w6) := HBW.out.trans (hb6.mono (by omega))
      have hCN := compact_nums _ (w.heap.size + 1 + 1) V w6 hr6 hz6 (by rw [List.length_mergeSort]; omega)
      clear hr6 hb6 HRW
      go_wp2_with fail
      refine hCN.mono ?_
      rintro e w7 ⟨v7, rfl, hr7, hb7⟩
      have HE : Hid (Go.Lib.compact (ms.mergeSort fun x y => decide (x ≤ y)) = misL g) := risesI_ext (sorted_uniq ms).1 (misL_rises g) (fun e => ((sorted_uniq ms).2 e).trans (HMR.out e))
      have H7 : Hid (NumsRow w7 w.heap.size v7 (misL g) ∧ Below w.heap.size w w7) := ⟨by rw [← HE.out]; exact hr7.low (by omega), HB6.out.trans (hb7.mono (by omega))⟩
      clear hr7 hb7 hCN
      go_wp2
      go_ret
      exact ⟨v7, rfl, H7.out.1, H7.out.2⟩
    · intro m w1' cnt1 hm hlm hrg1 hlt hg1 hs1 hen
      unfold emVal emCells at hen ⊢
      have HLE : Hid (wr.rangeLeft bp r = cnt) := hrg.left_eq
      have hzr := HI.out.below.size
      have hb1w : Below w.heap.size w w1' := HI.out.below.grown hg1 hzr (fun q e => by cases e; omega)
      have hown1 : NumsOwn w1' (w.heap.size + 1 + 1) V ms := by
        refine ⟨HI.out.row.1, ?_⟩
        rcases HI.out.row.2 with h0 | ⟨q, cap, cur, h1, h2, h3, r'⟩
        · exact .inl h0
        · exact .inr ⟨q, cap, cur, h1, h2, (hg1.block q (Array.getElem?_eq_some_iff.1 h3).1 (fun e => by have e2 : q = r := (by simpa using e); omega)).trans h3, r'⟩
      have hbx1 : w1'.heap[w.heap.size]? = some (.cells #[.map (some be), .map (some bp)] 61 (0, 0)) := (hg1.block _ (by omega) (fun e => by have e2 : w.heap.size = r := (by simpa using e); omega)).trans HI.out.box
      have HST : Hid (∀ o, NumsOwn (w1'.alloc o) (w.heap.size + 1 + 1) V (ms ++ (m.v.prev.take 0).filter (lackB g)) ∧ (w1'.alloc o).heap[w.heap.size]? = some (.cells #[.map (some be), .map (some bp)] 61 (0, 0)) ∧ Below w.heap.size w (w1'.alloc o) ∧ (w1'.alloc o).ranges Tryz.prog 2 heldR bp r g.pk.length (putAll g.pk) (fun z => left z && !z.sameKey (.int .i64 m.v.id)) cnt1) := fun o => ⟨by simpa using hown1.kept ((Below.refl _ _).alloc (Nat.le_refl _) o), (Below.heap_alloc _ _ _ (by omega)).trans hbx1, hb1w.alloc hb1w.size o, hrg1.alloc o⟩
      have HMM : Hid (m ∈ g.pk) := hm
      have HII : Hid (MInv w g be bp left cnt ms V wr) := HI
      have hp4 := (H.out.small m hm).1
      clear hrg hrg1 hg1 hs1 hlm hown1 hbx1 hb1w hm HI
      go_wp2
      go_loopw [3, 7, 18] (fun v _ i wl => ∃ (j : Nat) (V' : Value), j ≤ m.v.prev.length ∧ i = .int .i64 j ∧ V' = v ∧ Hid (NumsOwn wl (w.heap.size + 1 + 1) V' (ms ++ (m.v.prev.take j).filter (lackB g)) ∧ wl.heap[w.heap.size]? = some (.cells #[.map (some be), .map (some bp)] 61 (0, 0)) ∧ Below w.heap.size w wl ∧ wl.ranges Tryz.prog 2 heldR bp r g.pk.length (putAll g.pk) (fun z => left z && !z.sameKey (.int .i64 m.v.id)) cnt1)) (fun _ _ i _ => m.v.prev.length - (intOf i).toNat)
      case atStart => exact ⟨0, V, Nat.zero_le _, rfl, rfl, HST.out _⟩
      case round =>
        clear HST hen
        obtain ⟨j, V', hj, rfl, rfl, HJ⟩ := hrel
        by_cases hjl : j < m.v.prev.length
        · obtain ⟨b3, off3, hp3, hbb3, hcell3⟩ := ((H.out.nums m HMM.out).kept HJ.out.2.2.1).2 (by omega)
          have hd8 := hcell3 j hjl
          have hbx0 : wr.cell? ⟨w.heap.size, 0, none⟩ = some (.map (some be)) := cell_of_heap HJ.out.2.1
          have hbx1 : wr.cell? ⟨w.heap.size, 1, none⟩ = some (.map (some bp)) := cell_of_heap HJ.out.2.1
          have hpr := (H.out.small m HMM.out).2 _ (List.getElem_mem hjl)
          have HHO := holds_impl g be bp g.evs.length g.pk.length m.v.prev[j] ⟨by omega, by omega⟩ wr (ownsMap_below H.out.evs HJ.out.2.2.1) (ownsMap_below H.out.pk HJ.out.2.2.1)
          have HFT := filt_take (f := lackB g) hjl
          have hfl : ((m.v.prev.take j).filter (lackB g)).length ≤ 4 := by
            have h1 := List.length_filter_le (lackB g) (m.v.prev.take j)
            rw [List.length_take] at h1
            omega
          have hz2 : w.heap.size + 1 + 1 ≤ wr.heap.size := by have := HJ.out.2.2.2.lt; omega
          rw [hp3]
          clear hcell3 hp3
          cases hh : heldB g m.v.prev[j]
          · have HLK : Hid ((m.v.prev.take (j + 1)).filter (lackB g) = (m.v.prev.take j).filter (lackB g) ++ [m.v.prev[j]]) := by
              unfold Hid
              rw [HFT, if_pos (by rw [lack_held, hh]; rfl)]
            rw [hh] at HHO
            clear HFT
            go_wp2_with fail
            refine HHO.mono ?_
            rintro e w6 ⟨rfl, hb6⟩
            have H6 : Hid (∀ o, NumsOwn (w6.alloc o) (w.heap.size + 1 + 1) V' (ms ++ (m.v.prev.take j).filter (lackB g)) ∧ (w6.alloc o).heap[w.heap.size]? = some (.cells #[.map (some be), .map (some bp)] 61 (0, 0)) ∧ Below w.heap.size w (w6.alloc o) ∧ (w6.alloc o).ranges Tryz.prog 2 heldR bp r g.pk.length (putAll g.pk) (fun z => left z && !z.sameKey (.int .i64 m.v.id)) cnt1 ∧ w.heap.size + 1 + 1 ≤ (w6.alloc o).heap.size) := fun o => by
              have hz6 := hb6.size
              have hba : Below wr.heap.size wr (w6.alloc o) := hb6.alloc hz6 o
              refine ⟨HJ.out.1.kept hba, (hba.block _ (by omega)).trans HJ.out.2.1, HJ.out.2.2.1.trans (hba.mono HJ.out.2.2.1.size), ?_, by simp; omega⟩
              exact HJ.out.2.2.2.kept (row := none) ⟨hba.os, hba.tape, hba.output, hba.size, fun k hk _ => hba.block k hk⟩ (by simp) (by simp)
            clear hb6 HHO HJ
            go_wp2_with (at_builtin; refine wpList_append_ns rfl _ _ 26 rfl i0 _ Tryz.underlying26 hi hz0 hz1 hz2i rfl (w.heap.size + 1 + 1) _ (ms ++ (m.v.prev.take j).filter (lackB g)) rfl (H6.out _).1 _ _ [m.v.prev[j]] (numsAt_one (MapKept.heap_alloc _ _).1) rfl (by simp; omega) (H6.out _).2.2.2.2 ?_; intro v7 w7 hO7 hb7; have H7 : Hid (NumsOwn w7 (w.heap.size + 1 + 1) v7 (ms ++ (m.v.prev.take (j + 1)).filter (lackB g)) ∧ w7.heap[w.heap.size]? = some (.cells #[.map (some be), .map (some bp)] 61 (0, 0)) ∧ Below w.heap.size w w7 ∧ w7.ranges Tryz.prog 2 heldR bp r g.pk.length (putAll g.pk) (fun z => left z && !z.sameKey (.int .i64 m.v.id)) cnt1) := ⟨(by rw [HLK.out, ← List.append_assoc]; exact hO7), (hb7.block _ (by omega)).trans (H6.out _).2.1, (H6.out _).2.2.1.trans (hb7.mono (by omega)), ranges_low (H6.out _).2.2.2.1 hb7 (by omega) (by omega)⟩; clear hO7 hb7)
            go_roundw
            case rel => exact ⟨j + 1, v7, by omega, by go_num, rfl, H7⟩
            case measure => simp [intOf]; omega
          · have HLK : Hid ((m.v.prev.take (j + 1)).filter (lackB g) = (m.v.prev.take j).filter (lackB g)) := by
              unfold Hid
              rw [HFT, if_neg (by rw [lack_held, hh]; simp), List.append_nil]
            rw [hh] at HHO
            clear HFT
            go_wp2_with fail
            refine HHO.mono ?_
            rintro e w6 ⟨rfl, hb6⟩
            have H6 : Hid (NumsOwn w6 (w.heap.size + 1 + 1) V' (ms ++ (m.v.prev.take (j + 1)).filter (lackB g)) ∧ w6.heap[w.heap.size]? = some (.cells #[.map (some be), .map (some bp)] 61 (0, 0)) ∧ Below w.heap.size w w6 ∧ w6.ranges Tryz.prog 2 heldR bp r g.pk.length (putAll g.pk) (fun z => left z && !z.sameKey (.int .i64 m.v.id)) cnt1) := by
              rw [HLK.out]
              exact ⟨HJ.out.1.kept hb6, (hb6.block _ (by omega)).trans HJ.out.2.1, HJ.out.2.2.1.trans (hb6.mono HJ.out.2.2.1.size), ranges_low HJ.out.2.2.2 hb6 (by omega) (by omega)⟩
            clear hb6 HHO HJ
            go_wp2
            go_roundw
            case rel => exact ⟨j + 1, V', by omega, by go_num, rfl, H6⟩
            case measure => simp [intOf]; omega
        · have HN : Hid (MInv w g be bp (fun z => left z && !z.sameKey (.int .i64 m.v.id)) cnt1 (ms ++ m.v.prev.filter (lackB g)) V' wr ∧ wr.ranges Tryz.prog 2 heldR bp r g.pk.length (putAll g.pk) (fun z => left z && !z.sameKey (.int .i64 m.v.id)) cnt1) := by
            have e : j = m.v.prev.length := by omega
            have h1 := HJ.out.1
            rw [e, List.take_length] at h1
            exact ⟨HII.out.next H.out HMM.out hlt h1 HJ.out.2.1 HJ.out.2.2.1, HJ.out.2.2.2⟩
          clear HJ HII
          go_wp2
          go_roundw
          case rel => exact ⟨_, _, _, _, rfl, HN.out.2, HN.out.1⟩
          case measure => rw [HN.out.2.left_eq, HLE.out]; exact hlt
end Go.Proofs.YtegjdngkbofogaaGreat
