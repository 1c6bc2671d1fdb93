/- The specification's way to sort by depth: plain. SortOf of the specification. -/
import Derived.Test.YtobkinocaomcmaaGreatZSsPlain
import Derived.Test.YtobkinocaomcmaaGreatZSsKeys
import Derived.Test.YtobkinocaomcmaaGreatZMsSet
namespace Go.Proofs.YtobkinocaomcmaaGreat

/-- When all of a lesser depth than n are in, and of depth n those of the first i. -/
structure LvI (dp : Int → Int) (ids : List Int) (n : Int) (i : Nat) (L : List Int) : Prop where
  pw : L.Pairwise (Lx dp)
  mem : ∀ x ∈ L, x ∈ ids ∧ (dp x < n ∨ (dp x = n ∧ x ∈ ids.take i))
  low : ∀ x ∈ ids, dp x < n → x ∈ L
  cur : ∀ x ∈ ids.take i, dp x = n → x ∈ L
  cnt : L.length = ids.countP (fun x => decide (dp x < n)) + (ids.take i).countP (fun x => decide (dp x = n))
theorem LvI.start {dp : Int → Int} {ids : List Int} (h : ∀ x ∈ ids, 1 ≤ dp x) : LvI dp ids 1 0 [] :=
  ⟨List.Pairwise.nil, fun x hx => absurd hx (by simp), fun x hx hl => by have := h x hx; omega, fun x hx => absurd hx (by simp), by
    have : ids.countP (fun x => decide (dp x < 1)) = 0 := List.countP_eq_zero.2 fun x hx => by have := h x hx; simp; omega
    rw [this]
    simp⟩
theorem LvI.yes {dp : Int → Int} {ids : List Int} {n : Int} {i : Nat} {L : List Int} (h : LvI dp ids n i L) (hi : i < ids.length) (hr : ids.Pairwise (· < ·)) (hd : dp ids[i] = n) : LvI dp ids n (i + 1) (L ++ [ids[i]]) := by
  have ht : ids.take (i + 1) = ids.take i ++ [ids[i]] := List.take_succ_eq_append_getElem hi
  refine ⟨List.pairwise_append.2 ⟨h.pw, List.pairwise_singleton _ _, fun x hx y hy => ?_⟩, fun x hx => ?_, fun x hx hl => by rw [List.mem_append]; exact .inl (h.low x hx hl), fun x hx hl => ?_, ?_⟩
  · rw [List.mem_singleton] at hy
    subst hy
    rcases (h.mem x hx).2 with h1 | ⟨h1, h2⟩
    · exact .inl (by omega)
    · refine .inr ⟨by omega, ?_⟩
      obtain ⟨j, hj, rfl⟩ := List.getElem_of_mem h2
      rw [List.length_take] at hj
      rw [List.getElem_take]
      exact List.pairwise_iff_getElem.1 hr j i (by omega) hi (by omega)
  · rcases List.mem_append.1 hx with hx | hx
    · refine ⟨(h.mem x hx).1, ?_⟩
      rcases (h.mem x hx).2 with h1 | ⟨h1, h2⟩
      · exact .inl h1
      · exact .inr ⟨h1, by rw [ht, List.mem_append]; exact .inl h2⟩
    · rw [List.mem_singleton] at hx
      subst hx
      exact ⟨List.getElem_mem hi, .inr ⟨hd, by rw [ht, List.mem_append]; exact .inr (by simp)⟩⟩
  · rw [ht, List.mem_append] at hx
    rw [List.mem_append]
    rcases hx with hx | hx
    · exact .inl (h.cur x hx hl)
    · exact .inr hx
  · rw [List.length_append, h.cnt, ht, List.countP_append]
    simp [hd]
    omega
theorem LvI.no {dp : Int → Int} {ids : List Int} {n : Int} {i : Nat} {L : List Int} (h : LvI dp ids n i L) (hi : i < ids.length) (hd : ¬ dp ids[i] = n) : LvI dp ids n (i + 1) L := by
  have ht : ids.take (i + 1) = ids.take i ++ [ids[i]] := List.take_succ_eq_append_getElem hi
  refine ⟨h.pw, fun x hx => ⟨(h.mem x hx).1, ?_⟩, h.low, fun x hx hl => ?_, ?_⟩
  · rcases (h.mem x hx).2 with h1 | ⟨h1, h2⟩
    · exact .inl h1
    · exact .inr ⟨h1, by rw [ht, List.mem_append]; exact .inl h2⟩
  · rw [ht, List.mem_append] at hx
    rcases hx with hx | hx
    · exact h.cur x hx hl
    · rw [List.mem_singleton] at hx
      subst hx
      exact absurd hl hd
  · rw [h.cnt, ht, List.countP_append]
    simp [hd]
theorem count_more (dp : Int → Int) (n : Int) : ∀ ids : List Int, ids.countP (fun x => decide (dp x < n + 1)) = ids.countP (fun x => decide (dp x < n)) + ids.countP (fun x => decide (dp x = n))
  | [] => rfl
  | x :: ids => by
    have ih := count_more dp n ids
    rw [List.countP_cons, List.countP_cons, List.countP_cons, ih]
    have key : (if decide (dp x < n + 1) = true then 1 else 0) = (if decide (dp x < n) = true then 1 else 0) + (if decide (dp x = n) = true then 1 else 0) := by
      rcases Int.lt_trichotomy (dp x) n with h | h | h
      · rw [decide_eq_true (show dp x < n + 1 by omega), decide_eq_true h, decide_eq_false (show ¬ dp x = n by omega)]
        rfl
      · rw [decide_eq_true (show dp x < n + 1 by omega), decide_eq_false (show ¬ dp x < n by omega), decide_eq_true h]
        rfl
      · rw [decide_eq_false (show ¬ dp x < n + 1 by omega), decide_eq_false (show ¬ dp x < n by omega), decide_eq_false (show ¬ dp x = n by omega)]
        rfl
    omega
theorem LvI.next {dp : Int → Int} {ids : List Int} {n : Int} {L : List Int} (h : LvI dp ids n ids.length L) : LvI dp ids (n + 1) 0 L := by
  refine ⟨h.pw, fun x hx => ⟨(h.mem x hx).1, .inl ?_⟩, fun x hx hl => ?_, fun x hx => absurd hx (by simp), ?_⟩
  · rcases (h.mem x hx).2 with h1 | ⟨h1, _⟩ <;> omega
  · by_cases c : dp x < n
    · exact h.low x hx c
    · exact h.cur x (by rw [List.take_length]; exact hx) (by omega)
  · rw [h.cnt, List.take_length, count_more]
    simp
theorem LvI.len {dp : Int → Int} {ids : List Int} {n : Int} {i : Nat} {L : List Int} (h : LvI dp ids n i L) : L.length ≤ ids.length + ids.length := by
  rw [h.cnt]
  have h1 := List.countP_le_length (p := fun x => decide (dp x < n)) (l := ids)
  have h2 := List.countP_le_length (p := fun x => decide (dp x = n)) (l := ids.take i)
  have h3 : (ids.take i).length ≤ ids.length := by rw [List.length_take]; omega
  omega
/-- Not all are in: n is no greater than how many there are. -/
theorem LvI.more {dp : Int → Int} {ids : List Int} {n : Int} {L : List Int} (h : LvI dp ids n 0 L) (hb : ∀ x ∈ ids, dp x ≤ ids.length) (hl : L.length < ids.length) : n ≤ ids.length := by
  by_cases c : (ids.length : Int) < n
  · have h1 : ids.countP (fun x => decide (dp x < n)) = ids.length := List.countP_eq_length.2 fun x hx => by have := hb x hx; simp; omega
    have h2 := h.cnt
    rw [h1] at h2
    simp at h2
    omega
  · omega
/-- All are in. -/
theorem LvI.end {dp : Int → Int} {ids : List Int} {n : Int} {L : List Int} (h : LvI dp ids n 0 L) (hl : ids.length ≤ L.length) : ∀ x, x ∈ L ↔ x ∈ ids := by
  intro x
  refine ⟨fun hx => (h.mem x hx).1, fun hx => h.low x hx ?_⟩
  have h1 := h.cnt
  simp only [List.take_zero, List.countP_nil, Nat.add_zero] at h1
  have h2 : ids.countP (fun x => decide (dp x < n)) = ids.length := Nat.le_antisymm List.countP_le_length (by omega)
  simpa using List.countP_eq_length.1 h2 x hx
end Go.Proofs.YtobkinocaomcmaaGreat
namespace Go.Proofs.YtobkinocaomcmaaGreat
open Go.RowKit

theorem right_prevs {g : Gr} (h : rightG g = true) : evsB g = true := by
  unfold rightG at h
  simp only [Bool.and_eq_true] at h
  exact h.1.1.2
set_option maxHeartbeats 8000000 in
set_option maxRecDepth 100000 in
theorem sort_spec (g : Gr) (a : Option Addr) (cap : Nat) (p : Option Addr) (cp : Nat) (w : World) (h : EvsAt w a g.evs) (hr : rightG g = true) :
    Calls Tryz.prog 58 #[.agg #[.int .i64 g.room, .slice a g.evs.length cap, .slice p g.pk.length cp]] w fun e w' => ∃ v, e = .returned v ∧ NumsOwn w' w.heap.size v (srtG g) ∧ Below w.heap.size w w' := by
  obtain ⟨i0, hi, hz0, hz1, hz2⟩ := info_parts Tryz.info2
  have hev := right_evs hr
  have hl60 : g.evs.length ≤ 60 := rowB_len hev.1
  have hlen : (idsOf g.evs).length = g.evs.length := by simp [idsOf]
  have HB : Hid (∀ o, Below w.heap.size w (w.alloc o)) := fun o => (Below.refl _ _).alloc (Nat.le_refl _) o
  have HDP := fun o => depths_spec g.evs a cap (w.alloc o) (h.kept (HB.out o)) (rowB_nodup hev.1) (evsB_prevs (right_prevs hr))
  have HE : Hid (∀ V, Below w.heap.size w V → EvsAt V a g.evs) := fun V hb => h.kept hb
  have HRI : Hid ((idsOf g.evs).Pairwise (· < ·)) := row_rises hev.1
  have HPOS : Hid (∀ x ∈ idsOf g.evs, 1 ≤ dpG g x ∧ dpG g x ≤ (idsOf g.evs).length) := fun x hx => by
    have h1 : AllPos (pvOf g.evs) (idsOf g.evs) := fun y hy => of_decide_eq_true (List.all_eq_true.1 hev.2 y hy)
    have h2 := h1 x hx
    have h3 := dep_bound (pv := pvOf g.evs) (idsOf g.evs).length x
    unfold dpG
    omega
  have HEND : Hid (∀ n L, LvI (dpG g) (idsOf g.evs) n 0 L → g.evs.length ≤ L.length → L = srtG g) := fun n L hL hl => by
    rw [srtG_good hr]
    exact srt_unique (rowB_nodup hev.1) hL.pw (hL.end (by omega))
  have HLN : Hid ((idsOf g.evs).length = g.evs.length) := hlen
  clear h hr hev hlen
  go_enter Tryz.func58, Tryz.ntmps58
  go_wp2_with fail
  refine (HDP _).mono ?_
  rintro e w1 ⟨rfl, htab⟩
  have hsz : (w.alloc (.cells #[.int .i64 g.room, .slice a g.evs.length cap, .slice p g.pk.length cp] 32)).heap.size = w.heap.size + 1 := by simp
  rw [hsz] at htab ⊢
  have HT : Hid (Below w.heap.size w w1 ∧ w1.heap[w.heap.size]? = some (.cells #[.int .i64 g.room, .slice a g.evs.length cap, .slice p g.pk.length cp] 32 (0, 0)) ∧ w.heap.size + 1 < w1.heap.size ∧ ∀ j, j < g.evs.length → w1.cell? ⟨w.heap.size + 1, j, none⟩ = some (.int .i64 (dpG g ((idsOf g.evs).getD j 0)))) := by
    have hb := htab.below
    refine ⟨(HB.out _).trans (hb.mono (by simp)), (hb.block _ (by simp)).trans (MapKept.heap_alloc w _).1, ?_, fun j hj => ?_⟩
    · rcases htab.own.2 with ⟨h1, _⟩ | ⟨q, cp', cur, h1, _, h3, _⟩
      · cases h1
      · cases h1
        exact (Array.getElem?_eq_some_iff.1 h3).1
    · have hj' : j < (idsOf g.evs).length := by have := HLN.out; omega
      rw [htab.cell hj, getD_map _ _ _ hj']
      simp [dpG, List.getD_eq_getElem?_getD, hj']
  have hzw1 := HT.out.2.2.1
  have HB1 : Hid (∀ V, Below w1.heap.size w1 V → Below w.heap.size w V) := fun V hb => HT.out.1.trans (hb.mono HT.out.1.size)
  have HBX : Hid (∀ V, Below w1.heap.size w1 V → V.cell? ⟨w.heap.size, 1, none⟩ = some (.slice a g.evs.length cap)) := fun V hb => (hb.cell (p := ⟨w.heap.size, 1, none⟩) (by show w.heap.size < _; omega)).trans (cell_of_heap HT.out.2.1)
  have HDC : Hid (∀ V, Below w1.heap.size w1 V → ∀ j, j < g.evs.length → V.cell? ⟨w.heap.size + 1, j, none⟩ = some (.int .i64 (dpG g ((idsOf g.evs).getD j 0)))) := fun V hb j hj => (hb.cell (p := ⟨w.heap.size + 1, j, none⟩) hzw1).trans (HT.out.2.2.2 j hj)
  have HS0 : Hid (NumsOwn (w1.alloc (.cells #[] 2)) w1.heap.size (.slice (some ⟨w1.heap.size, 0, none⟩) 0 0) [] ∧ Below w1.heap.size w1 (w1.alloc (.cells #[] 2)) ∧ LvI (dpG g) (idsOf g.evs) 1 0 []) := ⟨NumsOwn.made _ (Nat.le_refl _), (Below.refl _ _).alloc (Nat.le_refl _) _, LvI.start fun x hx => (HPOS.out x hx).1⟩
  clear htab HT
  go_wp2
  go_loopw [4, 5, 6] (fun v nn _ wr => ∃ (ao : Option Addr) (c N : Nat) (L : List Int), v = .slice ao L.length c ∧ nn = .int .i64 (N : Int) ∧ N ≤ 61 ∧ L.length ≤ 120 ∧ Hid (NumsOwn wr w1.heap.size (.slice ao L.length c) L ∧ Below w1.heap.size w1 wr ∧ LvI (dpG g) (idsOf g.evs) N 0 L)) (fun _ nn _ _ => 100 - (intOf nn).toNat)
  case atStart => exact ⟨_, 0, 1, [], rfl, rfl, by omega, by simp, HS0.out⟩
  case round =>
    obtain ⟨ao, c, N, L, rfl, rfl, hN61, hL120, HI⟩ := hrel
    have hx1 := HBX.out wr HI.out.2.1
    by_cases hlt : L.length < g.evs.length
    · have hd1 : decide ((L.length : Int) < (g.evs.length : Int)) = true := decide_eq_true (by omega)
      have hN60 : N ≤ 60 := by
        have := HI.out.2.2.more (fun x hx => (HPOS.out x hx).2) (by have := HLN.out; omega)
        have := HLN.out
        omega
      clear hN61
      go_wp2
      go_loopw [4, 6] (fun v ii wr => ∃ (ao : Option Addr) (c i : Nat) (L : List Int), v = .slice ao L.length c ∧ ii = .int .i64 (i : Int) ∧ i ≤ g.evs.length ∧ L.length ≤ 120 ∧ Hid (NumsOwn wr w1.heap.size (.slice ao L.length c) L ∧ Below w1.heap.size w1 wr ∧ LvI (dpG g) (idsOf g.evs) N i L)) (fun _ ii _ => g.evs.length - (intOf ii).toNat)
      case atStart => exact ⟨ao, c, 0, L, rfl, rfl, Nat.zero_le _, hL120, HI.out⟩
      case round =>
        clear HI hlt hd1 hx1 hL120
        obtain ⟨ao, c, i, L, rfl, rfl, hil, hL120, HI⟩ := hrel
        have hx1 := HBX.out wr HI.out.2.1
        by_cases hie : i < g.evs.length
        · have hd2 : decide ((i : Int) < (g.evs.length : Int)) = true := decide_eq_true (by omega)
          obtain ⟨dv, HDV⟩ : ∃ dv : Int, Hid (dv = dpG g ((idsOf g.evs).getD i 0)) := ⟨dpG g ((idsOf g.evs).getD i 0), (rfl : dpG g ((idsOf g.evs).getD i 0) = _)⟩
          have hdc : wr.cell? ⟨w.heap.size + 1, i, none⟩ = some (.int .i64 dv) := by rw [HDV.out]; exact HDC.out wr HI.out.2.1 i hie
          have hii : i < (idsOf g.evs).length := by have := HLN.out; omega
          have hgd : (idsOf g.evs).getD i 0 = (idsOf g.evs)[i] := by simp [List.getD_eq_getElem?_getD, hii]
          have hide : (idsOf g.evs)[i] = g.evs[i].v.id := by simp [idsOf]
          by_cases hq : dv = (N : Int)
          · have hq' : (dv == (N : Int)) = true := by simp [hq]
            obtain ⟨b, off, rfl, hbb, hcell⟩ := (HE.out wr (HB1.out wr HI.out.2.1)).row (by omega)
            have hci : wr.cell? ⟨b, off + i * 9, none⟩ = some (.int .i64 g.evs[i].v.id) := by have := hcell i hie 0 (by omega); rwa [Nat.add_zero] at this
            have HY : Hid (LvI (dpG g) (idsOf g.evs) N (i + 1) (L ++ [g.evs[i].v.id])) := by
              have := HI.out.2.2.yes hii HRI.out (by rw [← hgd, ← HDV.out]; exact hq)
              rwa [hide] at this
            have HO : Hid (∀ o, NumsOwn (wr.alloc o) w1.heap.size (.slice ao L.length c) L ∧ Below w1.heap.size w1 (wr.alloc o)) := fun o => ⟨HI.out.1.kept ((Below.refl _ _).alloc (Nat.le_refl _) o), HI.out.2.1.alloc HI.out.2.1.size o⟩
            have hzr : w1.heap.size ≤ wr.heap.size := HI.out.2.1.size
            have hL60 : L.length + 1 ≤ 120 := by
              have := HY.out.len
              rw [List.length_append] at this
              have := HLN.out
              simp at *
              omega
            clear HI hcell hgd hide hii HDV hq
            go_wp2_with (at_builtin; refine wpList_append_ns rfl _ _ 25 rfl i0 _ Tryz.underlying25 hi hz0 hz1 hz2 rfl w1.heap.size _ L rfl (HO.out _).1 _ _ [g.evs[i].v.id] (numsAt_one (MapKept.heap_alloc _ _).1) rfl (by simp; omega) (by simp; omega) ?_; intro v4 w4 hO hb; have H4 : Hid (NumsOwn w4 w1.heap.size v4 (L ++ [g.evs[i].v.id]) ∧ Below w1.heap.size w1 w4) := ⟨hO, (HO.out _).2.trans hb⟩; clear hO hb)
            obtain ⟨a5, c5, hv5, -, -, -⟩ := H4.out.1.at (by simp; omega)
            subst hv5
            go_wp2
            go_roundw
            case rel => exact ⟨a5, c5, i + 1, L ++ [g.evs[i].v.id], rfl, by go_num, by omega, by simp; omega, H4.out.1, H4.out.2, HY.out⟩
            case measure => simp [intOf]; omega
          · have hq' : (dv == (N : Int)) = false := by simp [hq]
            have HY : Hid (NumsOwn wr w1.heap.size (.slice ao L.length c) L ∧ Below w1.heap.size w1 wr ∧ LvI (dpG g) (idsOf g.evs) N (i + 1) L) := ⟨HI.out.1, HI.out.2.1, HI.out.2.2.no hii (by rw [← hgd, ← HDV.out]; exact hq)⟩
            clear HI hgd hide hii HDV hq
            go_wp2
            go_roundw
            case rel => exact ⟨ao, c, i + 1, L, rfl, by go_num, by omega, hL120, HY.out⟩
            case measure => simp [intOf]; omega
        · have hd2 : decide ((i : Int) < (g.evs.length : Int)) = false := decide_eq_false (by omega)
          have HN : Hid (NumsOwn wr w1.heap.size (.slice ao L.length c) L ∧ Below w1.heap.size w1 wr ∧ LvI (dpG g) (idsOf g.evs) ((N + 1 : Nat) : Int) 0 L) := ⟨HI.out.1, HI.out.2.1, by
            have h1 := HI.out.2.2
            rw [show i = (idsOf g.evs).length by have := HLN.out; omega] at h1
            exact h1.next⟩
          clear HI
          go_wp2
          go_roundw
          case rel => exact ⟨ao, c, N + 1, L, rfl, by go_num, by omega, hL120, HN.out⟩
          case measure => simp [intOf]; omega
    · have hd1 : decide ((L.length : Int) < (g.evs.length : Int)) = false := decide_eq_false (by omega)
      have HF : Hid (NumsOwn wr w.heap.size (.slice ao L.length c) (srtG g) ∧ Below w.heap.size w wr) := by
        have hs := HEND.out _ L HI.out.2.2 (by omega)
        refine ⟨?_, HB1.out _ HI.out.2.1⟩
        rw [← hs]
        exact owns_baseC HI.out.1 (by omega)
      clear HI
      go_wp2
      go_ret
      exact ⟨_, rfl, HF.out.1, HF.out.2⟩
set_option maxHeartbeats 4000000 in
set_option maxRecDepth 100000 in
theorem sortOf_spec (g : Gr) (a : Option Addr) (cap : Nat) (p : Option Addr) (cp : Nat) (w : World) (h : EvsAt w a g.evs) (h2 : EvsAt w p g.pk) :
    Calls Tryz.prog 19 #[.agg #[.int .i64 g.room, .slice a g.evs.length cap, .slice p g.pk.length cp]] w fun e w' => ∃ v, e = .returned v ∧ NumsOwn w' w.heap.size v (srtG g) ∧ Below w.heap.size w w' := by
  have HB : Hid (∀ o, Below w.heap.size w (w.alloc o)) := fun o => (Below.refl _ _).alloc (Nat.le_refl _) o
  have HG := fun o => graph_spec g a cap p cp (w.alloc o) (h.kept (HB.out o)) (h2.kept (HB.out o))
  have HE : Hid (∀ V, Below w.heap.size w V → EvsAt V a g.evs) := fun V hb => h.kept hb
  clear h h2
  cases hr : rightG g
  · have HS : Hid (srtG g = []) := srtG_bad hr
    rw [hr] at HG
    rw [HS.out]
    go_enter Tryz.func19, Tryz.ntmps19
    go_wp2_with fail
    refine (HG _).mono ?_
    rintro e w1 ⟨rfl, hb1⟩
    have HW : Hid (Below w.heap.size w w1) := (HB.out _).trans (hb1.mono (by simp))
    have HF : Hid (NumsOwn (w1.alloc (.cells #[] 2)) w.heap.size (.slice (some ⟨w1.heap.size, 0, none⟩) 0 0) [] ∧ Below w.heap.size w (w1.alloc (.cells #[] 2))) := ⟨NumsOwn.made _ HW.out.size, HW.out.alloc HW.out.size _⟩
    clear hb1 HG
    go_wp2
    go_ret
    exact ⟨_, rfl, HF.out.1, HF.out.2⟩
  · have HR : Hid (rightG g = true) := hr
    rw [hr] at HG
    go_enter Tryz.func19, Tryz.ntmps19
    go_wp2_with fail
    refine (HG _).mono ?_
    rintro e w1 ⟨rfl, hb1⟩
    obtain ⟨hc1, hf1⟩ := bcell hb1
    have HW : Hid (Below w.heap.size w w1) := (HB.out _).trans (hb1.mono (by simp))
    have HSS := sort_spec g a cap p cp w1 (HE.out _ HW.out) HR.out
    clear hb1 HG
    go_wp2_with fail
    refine HSS.mono ?_
    rintro e w2 ⟨v, rfl, hrow, hb2⟩
    have H2 : Hid (NumsOwn w2 w.heap.size v (srtG g) ∧ Below w.heap.size w w2) := ⟨owns_baseC hrow HW.out.size, HW.out.trans (hb2.mono HW.out.size)⟩
    clear hrow hb2 HSS
    go_wp2
    go_ret
    exact ⟨v, rfl, H2.out.1, H2.out.2⟩
end Go.Proofs.YtobkinocaomcmaaGreat
