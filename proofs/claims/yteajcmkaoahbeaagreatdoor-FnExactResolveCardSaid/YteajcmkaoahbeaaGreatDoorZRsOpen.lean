/- What the laws do with rows of rows of entries: their size, a copy, whether two are alike, marks. A row of entries that came in, opened. Rows of rows of entries that came in, opened. -/
import Derived.Test.YteajcmkaoahbeaaGreatDoorZRsAg
import Derived.Test.YteajcmkaoahbeaaGreatDoorZSt5
import Derived.Test.YteajcmkaoahbeaaGreatDoorZSuKeys
import Derived.ProofKit
import Derived.OpenShut
import Derived.ShutString
import Derived.ChangeOld
import Derived.Below
import Derived.Deep.Slices
namespace Go.Proofs.YteajcmkaoahbeaaGreatDoor
open Go.RowKit

/-- How many entries lie in the first k rows. -/
def sumT (ls : List Sl) (k : Nat) : Nat := ((ls.take k).map fun s => s.xs.length).sum
theorem sumT_zero (ls : List Sl) : sumT ls 0 = 0 := rfl
theorem sumT_next {ls : List Sl} {k : Nat} (h : k < ls.length) : sumT ls (k + 1) = sumT ls k + ls[k].xs.length := by
  unfold sumT
  rw [List.take_succ_eq_append_getElem h]
  simp only [List.map_append, List.sum_append, List.map_cons, List.map_nil, List.sum_cons, List.sum_nil, Nat.add_zero]
theorem sumT_le (ls : List Sl) (k : Nat) : sumT ls k ≤ sumT ls ls.length := by
  unfold sumT
  rw [List.take_length]
  have e : ((ls.take k) ++ (ls.drop k)) = ls := List.take_append_drop k ls
  have e2 : (ls.map fun s => s.xs.length).sum = ((ls.take k).map fun s => s.xs.length).sum + ((ls.drop k).map fun s => s.xs.length).sum := by
    rw [← List.sum_append, ← List.map_append, e]
  omega
theorem sumT_one {ls : List Sl} {k : Nat} (h : k < ls.length) : ls[k].xs.length ≤ sumT ls ls.length := by
  have h1 := sumT_next h
  have h2 := sumT_le ls (k + 1)
  omega
/-- What they weigh. -/
def wSS (ls : List Sl) : Nat := ls.length + sumT ls ls.length
/-- Rows that came in: as long as they may be. -/
structure SlsRaw (w : World) (a : Option Addr) (ls : List Sl) : Prop where
  len : ls.length ≤ maxLen
  row : 0 < ls.length → ∃ b off, a = some ⟨b, off, none⟩ ∧ b < w.heap.size ∧ ∀ i (h : i < ls.length), w.cell? ⟨b, off + i, none⟩ = some (.slice ls[i].a ls[i].xs.length ls[i].c)
  each : ∀ s ∈ ls, EnsRaw w s.a s.xs
theorem SlsRaw.kept {w w' : World} {a : Option Addr} {ls : List Sl} (h : SlsRaw w a ls) (hb : Below w.heap.size w w') : SlsRaw w' a ls := by
  refine ⟨h.len, fun hl => ?_, fun s hs => (h.each s hs).kept hb⟩
  obtain ⟨b, off, ha, hlt, hc⟩ := h.row hl
  exact ⟨b, off, ha, Nat.lt_of_lt_of_le hlt hb.size, fun i hi => (hb.cell (p := ⟨b, off + i, none⟩) hlt).trans (hc i hi)⟩
theorem SlsRaw.at {w : World} {a : Option Addr} {ls : List Sl} (h : SlsRaw w a ls) (hw : wSS ls ≤ 1048576) : SlsAt w a ls := by
  unfold wSS at hw
  refine ⟨by omega, h.row, fun s hs => (h.each s hs).at ?_⟩
  obtain ⟨i, hi, rfl⟩ := List.getElem_of_mem hs
  have := sumT_one hi
  omega
set_option maxHeartbeats 4000000 in
set_option maxRecDepth 100000 in
theorem sz_SS (ls : List Sl) (a : Option Addr) (cap : Nat) (left : Int) (w : World) (h : SlsRaw w a ls) (h0 : 0 ≤ left) (h1 : left ≤ 1048576) :
    Calls Tryz.prog 10 #[.slice a ls.length cap, .int .i64 left] w fun e w' => e = .returned (.int .i64 (szN (wSS ls) left)) ∧ w = w' := by
  have hl := h.len
  unfold maxLen at hl
  have H : Hid (SlsRaw w a ls) := h
  have HW : Hid (wSS ls = ls.length + sumT ls ls.length) := rfl
  clear h
  by_cases c0 : (ls.length : Int) ≤ left
  · go_enter Tryz.func10, Tryz.ntmps10
    go_wp2
    go_loopw [1, 5] (fun v i wr => ∃ k : Nat, k ≤ ls.length ∧ i = .int .i64 k ∧ (ls.length + sumT ls k : Int) ≤ left ∧ v = .int .i64 (left - ls.length - sumT ls k) ∧ wr = w) (fun _ i _ => ls.length - (intOf i).toNat)
    case atStart => exact ⟨0, Nat.zero_le _, rfl, by rw [sumT_zero]; omega, by rw [sumT_zero]; simp, rfl⟩
    case round =>
      obtain ⟨k, hk, rfl, hsum, rfl, rfl⟩ := hrel
      by_cases hlt : k < ls.length
      · obtain ⟨b, off, rfl, hbb, hcell⟩ := H.out.row (by omega)
        have hck := hcell k hlt
        obtain ⟨s, HSS⟩ : ∃ s, Hid (s = ls[k]) := ⟨ls[k], (rfl : ls[k] = _)⟩
        rw [← HSS.out] at hck
        have hsl : s.xs.length ≤ maxLen := by rw [HSS.out]; exact (H.out.each _ (List.getElem_mem hlt)).len
        obtain ⟨L, HL⟩ : ∃ L : Int, Hid (L = left - ls.length - sumT ls k) := ⟨_, (rfl : left - ls.length - sumT ls k = _)⟩
        have hL0 : 0 ≤ L := by rw [HL.out]; omega
        have hL1 : L ≤ 1048576 := by rw [HL.out]; omega
        have HSZ := sz_entries s.xs s.a s.c L wr hsl hL0 hL1
        rw [← HL.out]
        clear hcell
        by_cases c : (s.xs.length : Int) ≤ L
        · have HV : Hid (szN s.xs.length L = L - s.xs.length) := szN_yes c
          have HX : Hid ((ls.length + sumT ls (k + 1) : Int) ≤ left ∧ L - s.xs.length = left - ls.length - sumT ls (k + 1)) := by
            have e := sumT_next hlt
            rw [← HSS.out] at e
            have e2 := HL.out
            constructor <;> (rw [e]; push_cast; omega)
          obtain ⟨M, HM⟩ : ∃ M : Int, Hid (M = L - s.xs.length) := ⟨_, (rfl : L - (s.xs.length : Int) = _)⟩
          have hM0 : 0 ≤ M := by rw [HM.out]; omega
          rw [HV.out, ← HM.out] at HSZ
          clear HV
          go_wp2_with fail
          refine HSZ.mono ?_
          clear HSZ
          rintro e wz ⟨rfl, rfl⟩
          go_wp2
          go_roundw
          case rel => exact ⟨k + 1, by omega, by go_num, HX.out.1, by rw [HM.out, HX.out.2], trivial⟩
          case measure => simp [intOf]; omega
        · have HV : Hid (szN s.xs.length L = -1) := szN_no c
          have HX : Hid (szN (wSS ls) left = -1) := by
            refine szN_no ?_
            have e := sumT_next hlt
            rw [← HSS.out] at e
            have e3 := sumT_le ls (k + 1)
            have e2 := HL.out
            rw [HW.out]
            omega
          rw [HV.out] at HSZ
          clear HV
          go_wp2_with fail
          refine HSZ.mono ?_
          clear HSZ
          rintro e wz ⟨rfl, rfl⟩
          go_wp2
          go_ret
          exact ⟨ret_int HX.out.symm, rfl⟩
      · have HX : Hid (szN (wSS ls) left = left - ls.length - sumT ls k) := by
          have e : k = ls.length := by omega
          subst e
          have := HW.out
          refine (szN_yes (by omega)).trans ?_
          omega
        go_wp2
        go_ret
        exact ⟨ret_int HX.out.symm, rfl⟩
  · have HX : Hid (szN (wSS ls) left = -1) := szN_no (by rw [HW.out]; omega)
    go_enter Tryz.func10, Tryz.ntmps10
    go_wp2
    go_ret
    exact ⟨ret_int HX.out.symm, rfl⟩
set_option maxHeartbeats 4000000 in
set_option maxRecDepth 100000 in
theorem eq_SS (ls ms : List Sl) (a1 a2 : Option Addr) (cap1 cap2 : Nat) (w : World) (h1 : SlsAt w a1 ls) (h2 : SlsAt w a2 ms) (he : rowsOf ls = rowsOf ms) :
    Calls Tryz.prog 17 #[.slice a1 ls.length cap1, .slice a2 ms.length cap2] w fun e w' => e = .returned (.bool true) ∧ Below w.heap.size w w' := by
  have hl := h1.len
  have hlen : ms.length = ls.length := by have := congrArg List.length he; simp [rowsOf] at this; omega
  have H : Hid (∀ W, Below w.heap.size w W → SlsAt W a1 ls ∧ SlsAt W a2 ms) := fun W hW => ⟨h1.kept hW, h2.kept hW⟩
  have HX : Hid (∀ i (h : i < ls.length) (h2 : i < ms.length), ms[i].xs = ls[i].xs) := fun i h h2 => by
    have e1 : (rowsOf ls)[i]? = some ls[i].xs := by simp [rowsOf, h]
    have e2 : (rowsOf ms)[i]? = some ms[i].xs := by simp [rowsOf, h2]
    rw [he, e2] at e1
    exact Option.some.inj e1
  have HLE : Hid (ms.length = ls.length) := hlen
  clear h1 h2 he
  rw [hlen]
  go_enter Tryz.func17, Tryz.ntmps17
  go_wp2
  go_loopw [5] (fun i wr => ∃ k : Nat, k ≤ ls.length ∧ i = .int .i64 k ∧ Hid (Below w.heap.size w wr)) (fun i _ => ls.length - (intOf i).toNat)
  case atStart => exact ⟨0, Nat.zero_le _, rfl, Below.refl _ _⟩
  case round =>
    obtain ⟨k, hk, rfl, HB⟩ := hrel
    by_cases hlt : k < ls.length
    · have hlt2 : k < ms.length := by rw [hlen]; exact hlt
      obtain ⟨b1, off1, rfl, hbb1, hcell1⟩ := (H.out _ HB.out).1.row (by omega)
      obtain ⟨b2, off2, rfl, hbb2, hcell2⟩ := (H.out _ HB.out).2.row (by omega)
      have hc1 := hcell1 k hlt
      have hc2 := hcell2 k hlt2
      have HQ : Hid (∀ W, Below wr.heap.size wr W → EnsAt W ls[k].a ls[k].xs ∧ EnsAt W ms[k].a ls[k].xs) := fun W hW => by
        have hbW := HB.out.trans (hW.mono HB.out.size)
        refine ⟨(H.out _ hbW).1.each _ (List.getElem_mem hlt), ?_⟩
        rw [← HX.out k hlt hlt2]
        exact (H.out _ hbW).2.each _ (List.getElem_mem hlt2)
      rw [HX.out k hlt hlt2] at hc2
      obtain ⟨s, HSS⟩ : ∃ s, Hid (s = ls[k]) := ⟨ls[k], (rfl : ls[k] = _)⟩
      obtain ⟨t, HTT⟩ : ∃ t, Hid (t = ms[k]) := ⟨ms[k], (rfl : ms[k] = _)⟩
      rw [← HSS.out] at hc1 hc2 HQ
      rw [← HTT.out] at hc2 HQ
      clear hcell1 hcell2
      go_wp2
      refine wp_region_held_drew (S := (fun W => Below wr.heap.size wr W)) (by kernel_rfl) (Below.drew (Below.refl _ _)) (fun hHeld => ?_)
      refine wpAnyH_take (i := 0) (v := (.slice (some ⟨b1, off1, none⟩) ls.length cap1)) rfl (by kernel_rfl) (by kernel_rfl) (by kernel_rfl) (fun _ _ _ h => h) (Or.inl ⟨by kernel_rfl, ?_⟩) hHeld ?_
      · intro W hW
        go_simp
      refine wpAnyH_take (i := 1) (v := (.int .i64 k)) rfl (by kernel_rfl) (by kernel_rfl) (by kernel_rfl) (fun _ _ _ h => h) (Or.inl ⟨by kernel_rfl, ?_⟩) hHeld ?_
      · intro W hW
        go_simp
      refine wpAnyH_take (i := 2) (v := (.pointer (some ⟨b1, off1 + k, none⟩))) rfl (by kernel_rfl) (by kernel_rfl) (by kernel_rfl) (fun _ _ _ h => h) (Or.inl ⟨by kernel_rfl, ?_⟩) hHeld ?_
      · intro W hW
        go_simp
      refine wpAnyH_take (i := 3) (v := (.slice s.a s.xs.length s.c)) rfl (by kernel_rfl) (by kernel_rfl) (by kernel_rfl) (fun _ _ _ h => h) (Or.inl ⟨by kernel_rfl, ?_⟩) hHeld ?_
      · intro W hW
        have f0 := (hW.cell (p := ⟨b1, off1 + k, none⟩) hbb1).trans hc1
        go_simp
      refine wpAnyH_take (i := 4) (v := (.slice (some ⟨b2, off2, none⟩) ls.length cap2)) rfl (by kernel_rfl) (by kernel_rfl) (by kernel_rfl) (fun _ _ _ h => h) (Or.inl ⟨by kernel_rfl, ?_⟩) hHeld ?_
      · intro W hW
        go_simp
      refine wpAnyH_take (i := 5) (v := (.int .i64 k)) rfl (by kernel_rfl) (by kernel_rfl) (by kernel_rfl) (fun _ _ _ h => h) (Or.inl ⟨by kernel_rfl, ?_⟩) hHeld ?_
      · intro W hW
        go_simp
      refine wpAnyH_take (i := 6) (v := (.pointer (some ⟨b2, off2 + k, none⟩))) rfl (by kernel_rfl) (by kernel_rfl) (by kernel_rfl) (fun _ _ _ h => h) (Or.inl ⟨by kernel_rfl, ?_⟩) hHeld ?_
      · intro W hW
        go_simp
      refine wpAnyH_take (i := 7) (v := (.slice t.a s.xs.length t.c)) rfl (by kernel_rfl) (by kernel_rfl) (by kernel_rfl) (fun _ _ _ h => h) (Or.inl ⟨by kernel_rfl, ?_⟩) hHeld ?_
      · intro W hW
        have f0 := (hW.cell (p := ⟨b2, off2 + k, none⟩) hbb2).trans hc2
        go_simp
      refine wpAnyH_ready (rs := [8]) (by kernel_rfl) (by simp) ?_
      refine AllReadyH.cons rfl (fun K hK => ?_) AllReadyH.nil
      go_simp
      refine (eq_entries s.xs s.a t.a s.c t.c _ (HQ.out _ hHeld).1 (HQ.out _ hHeld).2).mono ?_
      rintro e w1 ⟨rfl, hb1⟩
      have hd1 : Below wr.heap.size wr w1 := hHeld.trans (hb1.mono hHeld.size)
      clear hb1
      refine hK.out _ _ hd1 (fun hH1 => ?_)
      clear hK K
      refine wpAnyH_take (i := 9) (v := (.bool false)) rfl (by kernel_rfl) (by kernel_rfl) (by kernel_rfl) (fun _ _ _ h => h) (Or.inl ⟨by kernel_rfl, ?_⟩) hH1 ?_
      · intro W hW
        go_simp
      refine wpAnyH_done (by kernel_rfl) ?_ _
      simp only [Act.put, List.setIfInBounds_toArray, List.set_cons_zero, List.set_cons_succ, List.getElem_toArray, List.getElem_cons_zero, List.getElem_cons_succ]
      have HB2 : Hid (Below w.heap.size w w1) := HB.out.trans (hd1.mono HB.out.size)
      clear hH1 hd1
      go_wp2
      go_roundw
      case rel => exact ⟨k + 1, by omega, by go_num, HB2⟩
      case measure => simp [intOf]; omega
    · go_wp2
      go_ret
      exact ⟨rfl, HB.out⟩
theorem Tryz.infoEns : (Tryz.prog.info? 28).map (fun i => (i.zero, i.size, i.bytes)) = some (some (.slice none 0 0), 1, 24) := by kernel_rfl
theorem ens_parts : ∃ i, Tryz.prog.info? 28 = some i ∧ i.zero = some (.slice none 0 0) ∧ i.size = 1 ∧ i.bytes = 24 := by
  have h := Tryz.infoEns
  cases hi : Tryz.prog.info? 28 with
  | none => rw [hi] at h; cases h
  | some i =>
    rw [hi] at h
    simp only [Option.map_some, Option.some.injEq, Prod.mk.injEq] at h
    exact ⟨i, rfl, h.1, h.2.1, h.2.2⟩
/-- A copy, when k rows are laid in. -/
structure TI (w : World) (ls : List Sl) (k : Nat) (ms : List Sl) (W : World) : Prop where
  len : ms.length = k
  same : ∀ i (h : i < ms.length) (h2 : i < ls.length), ms[i].xs = ls[i].xs
  box : ∃ C : Array Value, W.heap[w.heap.size]? = some (.cells C 28 (0, 0)) ∧ C.size = ls.length ∧ ∀ i (h : i < ms.length), C[i]? = some (.slice ms[i].a ms[i].xs.length ms[i].c)
  each : ∀ s ∈ ms, ∃ b, s.a = some ⟨b, 0, none⟩ ∧ w.heap.size < b ∧ b < W.heap.size ∧ Spot W s.a s.xs.length ∧ EnsAt W s.a s.xs
  apart : ms.Pairwise fun s t => s.a ≠ t.a
  below : Below w.heap.size w W
theorem Spot.set {W : World} {b n B o : Nat} {u : Value} (h : Spot W (some ⟨b, 0, none⟩) n) (hne : b ≠ B) : Spot (W.setCell ⟨B, o, none⟩ u) (some ⟨b, 0, none⟩) n := by
  rcases h with h0 | ⟨b', ha, hlt, hc, hf⟩
  · exact .inl h0
  · cases ha
    have hblk : (W.setCell ⟨B, o, none⟩ u).heap[b]? = W.heap[b]? := heap_setCell_other W ⟨B, o, none⟩ b u (by show b ≠ B; exact hne)
    exact .inr ⟨b, rfl, by simpa using hlt, fun q hq => by rw [World.cell?_of_block (a := ⟨b, q, none⟩) hblk]; exact hc q hq, fun q => by rw [World.frozen?_of_block (a := ⟨b, q, none⟩) hblk]; exact hf q⟩
theorem EnsAt.set {W : World} {b B o : Nat} {u : Value} {xs : List En} (h : EnsAt W (some ⟨b, 0, none⟩) xs) (hne : b ≠ B) : EnsAt (W.setCell ⟨B, o, none⟩ u) (some ⟨b, 0, none⟩) xs := by
  refine ⟨h.len, fun hp => ?_⟩
  obtain ⟨b', off, ha, hlt, hc⟩ := h.row hp
  cases ha
  have hblk : (W.setCell ⟨B, o, none⟩ u).heap[b]? = W.heap[b]? := heap_setCell_other W ⟨B, o, none⟩ b u (by show b ≠ B; exact hne)
  exact ⟨b, 0, rfl, by simpa using hlt, fun i hi j hj => by rw [World.cell?_of_block (a := ⟨b, 0 + (i * 3 + j), none⟩) hblk]; exact hc i hi j hj⟩
theorem TI.next {w : World} {ls : List Sl} {k : Nat} {ms : List Sl} {W W1 : World} (h : TI w ls k ms W) (hk : k < ls.length) {a' : Option Addr} {c' : Nat} (hn : EnsNew W ls[k].xs a' W1) (hl : ls[k].xs.length ≤ 1048576) :
    TI w ls (k + 1) (ms ++ [⟨a', c', ls[k].xs⟩]) (W1.setCell ⟨w.heap.size, k, none⟩ (.slice a' ls[k].xs.length c')) := by
  obtain ⟨C, hC, hsz, hcell⟩ := h.box
  obtain ⟨b, rfl, hb1, hb2, _, _⟩ := hn.row
  have hlen := h.len
  have hw : w.heap.size < W.heap.size := (Array.getElem?_eq_some_iff.1 hC).1
  have hC1 : W1.heap[w.heap.size]? = some (.cells C 28 (0, 0)) := (hn.below.block _ hw).trans hC
  refine ⟨by simp [hlen], fun i hi h2 => ?_, ?_, fun s hs => ?_, ?_, ?_⟩
  · by_cases c : i < ms.length
    · rw [List.getElem_append_left c]
      exact h.same i c h2
    · have e : i = k := by simp only [List.length_append, List.length_singleton] at hi; omega
      subst e
      rw [List.getElem_append_right (by omega)]
      simp only [hlen, Nat.sub_self, List.getElem_cons_zero]
  · refine ⟨C.setIfInBounds k (.slice (some ⟨b, 0, none⟩) ls[k].xs.length c'), heap_set hC1 _, by simpa using hsz, fun i hi => ?_⟩
    by_cases c : i < ms.length
    · rw [Array.getElem?_setIfInBounds_ne (by omega), List.getElem_append_left c]
      exact hcell i c
    · have e : i = k := by simp only [List.length_append, List.length_singleton] at hi; omega
      subst e
      rw [Array.getElem?_setIfInBounds_self_of_lt (by omega), List.getElem_append_right (by omega)]
      simp only [hlen, Nat.sub_self, List.getElem_cons_zero]
  · rcases List.mem_append.1 hs with hs | hs
    · obtain ⟨q, e, h1, h2, h3, h4⟩ := h.each s hs
      rw [e] at h3 h4 ⊢
      exact ⟨q, rfl, h1, by have := hn.below.size; simp; omega, (h3.kept hn.below).set (by omega), (h4.kept hn.below).set (by omega)⟩
    · simp only [List.mem_singleton] at hs
      subst hs
      exact ⟨b, rfl, by omega, by simpa using hb2, hn.spot.set (by omega), (hn.at hl).set (by omega)⟩
  · refine List.pairwise_append.2 ⟨h.apart, List.pairwise_singleton _ _, fun s hs t ht => ?_⟩
    simp only [List.mem_singleton] at ht
    subst ht
    obtain ⟨q, e, h1, h2, _⟩ := h.each s hs
    rw [e]
    intro e2
    simp only [Option.some.injEq, Addr.mk.injEq, and_true] at e2
    omega
  · exact ((h.below.trans (hn.below.mono h.below.size))).setCell (Nat.le_refl _) _
/-- A copy of rows of rows. -/
structure SlsNew (w : World) (ls ms : List Sl) (W : World) : Prop where
  rows : rowsOf ms = rowsOf ls
  len : ms.length = ls.length
  ti : TI w ls ls.length ms W
theorem SlsNew.at {w W : World} {ls ms : List Sl} (h : SlsNew w ls ms W) (hl : ls.length ≤ 1048576) : SlsAt W (some ⟨w.heap.size, 0, none⟩) ms := by
  obtain ⟨C, hC, hsz, hcell⟩ := h.ti.box
  refine ⟨by rw [h.len]; exact hl, fun _ => ⟨_, 0, rfl, (Array.getElem?_eq_some_iff.1 hC).1, fun i hi => ?_⟩, fun s hs => ?_⟩
  · rw [Nat.zero_add, cell_of_heap hC]
    exact hcell i hi
  · obtain ⟨_, _, _, _, _, h4⟩ := h.ti.each s hs
    exact h4
set_option maxHeartbeats 4000000 in
set_option maxRecDepth 100000 in
theorem to_SS (ls : List Sl) (a : Option Addr) (cap : Nat) (w : World) (h : SlsAt w a ls) :
    Calls Tryz.prog 13 #[.slice a ls.length cap] w fun e w' => ∃ ms, e = .returned (.slice (some ⟨w.heap.size, 0, none⟩) ls.length ls.length) ∧ SlsNew w ls ms w' := by
  obtain ⟨i0, hi, hz0, hz1, hz2⟩ := ens_parts
  have hl := h.len
  have H : Hid (SlsAt w a ls) := h
  clear h
  go_enter Tryz.func13, Tryz.ntmps13
  go_wp2_with (at_make; refine wpList_make_full _ rfl _ _ 34 rfl w.heap.size 28 i0 _ 1 Tryz.underlying34 hi hz0 hz1 .i64 .i64 _ _ ls.length rfl rfl (by omega) (by omega) (by rw [hz2]; omega) (by unfold maxLen; omega) (Nat.le_refl _) ?_; intro w0 hown0 hgrow0)
  have HI0 : Hid (TI w ls 0 [] w0) := by
    refine ⟨rfl, fun i h => (by simp at h), ?_, fun s h => (by cases h), List.Pairwise.nil, (Below.refl _ _).grown hgrow0 (Nat.le_refl _) (fun k h => by cases h)⟩
    rcases hown0.2 with ⟨h1, _⟩ | ⟨q, c, cur, h1, _, h2, _, _, h3, _⟩
    · cases h1
    · cases h1
      exact ⟨cur, h2, by simpa using h3, fun i h => (by simp at h)⟩
  clear hown0 hgrow0
  go_wp2
  go_loopw [4] (fun i wr => ∃ (k : Nat) (ms : List Sl), k ≤ ls.length ∧ i = .int .i64 k ∧ Hid (TI w ls k ms wr)) (fun i _ => ls.length - (intOf i).toNat)
  case atStart => exact ⟨0, [], Nat.zero_le _, rfl, HI0⟩
  case round =>
    clear HI0
    obtain ⟨k, ms, hk, rfl, HI⟩ := hrel
    by_cases hlt : k < ls.length
    · have HE : Hid (SlsAt wr a ls) := H.out.kept HI.out.below
      obtain ⟨b, off, rfl, hbb, hcell⟩ := HE.out.row (by omega)
      have hck := hcell k hlt
      have HEA := HE.out.each _ (List.getElem_mem hlt)
      have HLK : Hid (ls[k].xs.length ≤ 1048576) := HEA.len
      obtain ⟨C, hC, hCs, hCc⟩ := HI.out.box
      have HC : Hid (wr.heap[w.heap.size]? = some (.cells C 28 (0, 0)) ∧ C.size = ls.length) := ⟨hC, hCs⟩
      have HN : Hid (∀ a' c' W1, EnsNew wr ls[k].xs a' W1 → TI w ls (k + 1) (ms ++ [⟨a', c', ls[k].xs⟩]) (W1.setCell ⟨w.heap.size, k, none⟩ (.slice a' ls[k].xs.length c'))) := fun a' c' W1 hn => HI.out.next hlt hn HLK.out
      obtain ⟨s, HSS⟩ : ∃ s, Hid (s = ls[k]) := ⟨ls[k], (rfl : ls[k] = _)⟩
      rw [← HSS.out] at hck HEA HN
      have HTE := to_entries s.xs s.a s.c wr HEA
      clear hcell HEA hC hCs hCc
      go_wp2_with fail
      refine HTE.mono ?_
      clear HTE
      rintro e w1 ⟨a', rfl, hn1⟩
      have hwz : w.heap.size < wr.heap.size := (Array.getElem?_eq_some_iff.1 HC.out.1).1
      have hC1 : w1.heap[w.heap.size]? = some (.cells C 28 (0, 0)) := (hn1.below.block _ hwz).trans HC.out.1
      obtain ⟨u, hu⟩ : ∃ u, w1.cell? ⟨w.heap.size, k, none⟩ = some u := by
        rw [cell_of_heap hC1]
        exact ⟨C[k]'(by have := HC.out.2; omega), Array.getElem?_eq_getElem _⟩
      have hf : w1.frozen? ⟨w.heap.size, k, none⟩ = false := frozen_of_heap hC1
      have HI1 : Hid (TI w ls (k + 1) (ms ++ [⟨a', s.xs.length, s.xs⟩]) (w1.setCell ⟨w.heap.size, k, none⟩ (.slice a' s.xs.length s.xs.length))) := HN.out a' _ w1 hn1
      clear hn1 hC1 hck
      go_wp2
      go_roundw
      case rel => exact ⟨k + 1, _, by omega, by go_num, HI1⟩
      case measure => simp [intOf]; omega
    · have e : k = ls.length := by omega
      subst e
      have HF : Hid (SlsNew w ls ms wr) := by
        refine ⟨?_, HI.out.len, HI.out⟩
        have hlen := HI.out.len
        unfold rowsOf
        refine List.ext_getElem (by simp [hlen]) fun i h1 h2 => ?_
        simp only [List.getElem_map]
        exact HI.out.same i (by simpa using h1) (by simpa using h2)
      go_wp2
      go_ret
      exact ⟨ms, rfl, HF.out⟩
/-- Only blocks from lo to hi are written. -/
structure WS (lo hi : Nat) (W W' : World) : Prop where
  os : W'.os = W.os
  tape : W'.tape = W.tape
  output : W'.output = W.output
  size : W'.heap.size = W.heap.size
  block : ∀ b, (b < lo ∨ hi ≤ b) → W'.heap[b]? = W.heap[b]?
theorem WS.refl (lo hi : Nat) (W : World) : WS lo hi W W := ⟨rfl, rfl, rfl, rfl, fun _ _ => rfl⟩
theorem WS.only {lo hi b : Nat} {W W1 W2 : World} (h : WS lo hi W W1) (ho : OnlyB b W1 W2) (h1 : lo ≤ b) (h2 : b < hi) : WS lo hi W W2 :=
  ⟨ho.os.trans h.os, ho.tape.trans h.tape, ho.output.trans h.output, ho.size.trans h.size, fun q hq => (ho.block q (by omega)).trans (h.block q hq)⟩
theorem WS.below {lo hi : Nat} {W W' : World} (h : WS lo hi W W') : Below lo W W' := ⟨h.os, h.tape, h.output, Nat.le_of_eq h.size.symm, fun k hk => h.block k (.inl hk)⟩
theorem Spot.onlyS {w w' : World} {b g n : Nat} (h : Spot w (some ⟨g, 0, none⟩) n) (ho : OnlyB b w w') (hne : g ≠ b) : Spot w' (some ⟨g, 0, none⟩) n := by
  rcases h with h0 | ⟨b', ha, hlt, hc, hf⟩
  · exact .inl h0
  · cases ha
    exact .inr ⟨g, rfl, by rw [ho.size]; exact hlt, fun q hq => by rw [World.cell?_of_block (a := ⟨g, q, none⟩) (ho.block g hne)]; exact hc q hq, fun q => by rw [World.frozen?_of_block (a := ⟨g, q, none⟩) (ho.block g hne)]; exact hf q⟩
/-- In the midst of marking. -/
structure MSI (B hi : Nat) (ms : List Sl) (k : Nat) (w W : World) : Prop where
  wr : WS (B + 1) hi w W
  rest : ∀ i (h : i < ms.length), k ≤ i → Spot W ms[i].a ms[i].xs.length
set_option maxHeartbeats 4000000 in
set_option maxRecDepth 100000 in
theorem mark_SS (ms : List Sl) (B hi cap : Nat) (k0 : Int) (hk0 : 0 ≤ k0 ∧ k0 ≤ 10000000) (w : World) (hw : wSS ms ≤ 1048576) (hB : ∀ i (h : i < ms.length), w.cell? ⟨B, i, none⟩ = some (.slice ms[i].a ms[i].xs.length ms[i].c)) (he : ∀ s ∈ ms, ∃ b, s.a = some ⟨b, 0, none⟩ ∧ B < b ∧ b < hi ∧ Spot w s.a s.xs.length) (hap : ms.Pairwise fun s t => s.a ≠ t.a) :
    Calls Tryz.prog 19 #[.slice (some ⟨B, 0, none⟩) ms.length cap, .int .i64 k0] w fun e w' => ∃ K : Int, e = .returned (.int .i64 K) ∧ 0 ≤ K ∧ K ≤ 100000000 ∧ WS (B + 1) hi w w' := by
  have HW : Hid (wSS ms = ms.length + sumT ms ms.length) := rfl
  have hl : ms.length ≤ 1048576 := by rw [HW.out] at hw; omega
  have HB : Hid (∀ i (h : i < ms.length), w.cell? ⟨B, i, none⟩ = some (.slice ms[i].a ms[i].xs.length ms[i].c)) := hB
  have HE : Hid (∀ s ∈ ms, ∃ b, s.a = some ⟨b, 0, none⟩ ∧ B < b ∧ b < hi ∧ Spot w s.a s.xs.length) := he
  have HAP : Hid (ms.Pairwise fun s t => s.a ≠ t.a) := hap
  have H0 : Hid (MSI B hi ms 0 w w) := ⟨WS.refl _ _ _, fun i h _ => by obtain ⟨_, _, _, _, q⟩ := he _ (List.getElem_mem h); exact q⟩
  clear hB he hap
  go_enter Tryz.func19, Tryz.ntmps19
  go_wp2
  go_loopw [1, 5] (fun v i wr => ∃ k : Nat, k ≤ ms.length ∧ i = .int .i64 k ∧ v = .int .i64 (k0 + sumT ms k * 3) ∧ Hid (MSI B hi ms k w wr)) (fun _ i _ => ms.length - (intOf i).toNat)
  case atStart => exact ⟨0, Nat.zero_le _, rfl, by rw [sumT_zero]; simp, H0⟩
  case round =>
    clear H0
    obtain ⟨k, hk, rfl, rfl, HI⟩ := hrel
    have hsk : sumT ms k ≤ 1048576 := by have := sumT_le ms k; have := HW.out; omega
    by_cases hlt : k < ms.length
    · have hck := (World.cell?_of_block (a := ⟨B, k, none⟩) (HI.out.wr.block B (.inl (Nat.lt_succ_self B)))).trans (HB.out k hlt)
      have hsp := HI.out.rest k hlt (Nat.le_refl _)
      obtain ⟨b, hba, hb1, hb2, _⟩ := HE.out _ (List.getElem_mem hlt)
      obtain ⟨M, HM⟩ : ∃ M : Int, Hid (M = k0 + sumT ms k * 3) := ⟨_, (rfl : k0 + (sumT ms k : Int) * 3 = _)⟩
      have hM : 0 ≤ M ∧ M ≤ 100000000 := by rw [HM.out]; omega
      have h1 := sumT_next hlt
      have h2 := sumT_le ms (k + 1)
      have hle1 : ms[k].xs.length ≤ 1048576 := by have := HW.out; omega
      have HNXT : Hid (M + ms[k].xs.length * 3 = k0 + sumT ms (k + 1) * 3) := by have e := HM.out; unfold Hid; omega
      have HMK := mark_ens ms[k].xs.length ms[k].a ms[k].c M hM (by omega) wr hsp
      have HST : Hid (∀ w', MarkPost wr ms[k].a ms[k].xs.length M w' → MSI B hi ms (k + 1) w w') := fun w' hm => by
        rcases hm with ⟨_, rfl⟩ | ⟨b', ha', hon, _, _⟩
        · exact ⟨HI.out.wr, fun i h hi => HI.out.rest i h (by omega)⟩
        · rw [hba] at ha'
          cases ha'
          refine ⟨HI.out.wr.only hon hb1 hb2, fun i h hi => ?_⟩
          have hs := HI.out.rest i h (by omega)
          obtain ⟨q, hq, _⟩ := HE.out _ (List.getElem_mem h)
          have hne : ms[k].a ≠ ms[i].a := List.pairwise_iff_getElem.1 HAP.out k i hlt h (by omega)
          rw [hq] at hs ⊢
          refine hs.onlyS hon fun e => hne ?_
          rw [hba, hq, e]
      rw [← HM.out]
      obtain ⟨s, HSS⟩ : ∃ s, Hid (s = ms[k]) := ⟨ms[k], (rfl : ms[k] = _)⟩
      rw [← HSS.out] at hck HMK HST HNXT hle1
      clear hsp hba hb1 hb2 h1 h2
      go_wp2_with fail
      refine HMK.mono ?_
      clear HMK
      rintro e w1 ⟨rfl, hm⟩
      have HI1 : Hid (MSI B hi ms (k + 1) w w1) := HST.out w1 hm
      clear hm hck
      go_wp2
      go_roundw
      case rel => exact ⟨k + 1, by omega, by go_num, by rw [HNXT.out], HI1⟩
      case measure => simp [intOf]; omega
    · go_wp2
      go_ret
      exact ⟨_, rfl, by omega, by omega, HI.out.wr⟩
end Go.Proofs.YteajcmkaoahbeaaGreatDoor
namespace Go.Proofs.YteajcmkaoahbeaaGreatDoor
open Go.ChangeShapes Go.WideShapes Go.ChangeAt Go.RowKit Go.Deep

theorem some_at {α : Type} {x : Option α} {xs : List α} {i : Nat} (h : x = xs[i]?) (hi : i < xs.length) : ∃ y, x = some y := ⟨xs[i], by rw [h, List.getElem?_eq_getElem hi]⟩
theorem Tryz.cellsEn : Tryz.prog.cellsOf 123 = 3 := by kernel_rfl
theorem Tryz.cellsI : Tryz.prog.cellsOf 2 = 1 := by kernel_rfl
theorem list3 {α : Type} {l : List α} (h : l.length = 3) : ∃ c0 c1 c2, l = [c0, c1, c2] := by
  match l, h with
  | [c0, c1, c2], _ => exact ⟨c0, c1, c2, rfl⟩
set_option maxRecDepth 100000 in
theorem open_en_cells {H : Type} {enc : TypeId × Value → H} {W : World} {fuel : Nat} {cs : List Value} {x0 : DataW H × List MemPlace} (hl3 : cs.length = 3) (hf : DataW.trod enc Tryz.prog W 0 (fun _ => true) true fuel 123 cs = some x0) : ∃ x : En, cs = enCells x := by
  obtain ⟨c0, c1, c2, rfl⟩ := list3 hl3
  obtain ⟨xs, n, _, _, _, hlen, hf⟩ := DataW.trod_struct Tryz.underlying123 hf
  have hlen3 : xs.length = 3 := hlen
  have g0 : DataW.trod enc Tryz.prog W 0 (fun _ => true) true n 2 [c0] = xs[0]? := by have := hf 0 _ rfl; simpa [Tryz.cellsI] using this
  have g1 : DataW.trod enc Tryz.prog W 0 (fun _ => true) true n 2 [c1] = xs[1]? := by have := hf 1 _ rfl; simpa [Tryz.cellsI] using this
  have g2 : DataW.trod enc Tryz.prog W 0 (fun _ => true) true n 2 [c2] = xs[2]? := by have := hf 2 _ rfl; simpa [Tryz.cellsI] using this
  obtain ⟨y0, k0⟩ := some_at g0 (by omega)
  obtain ⟨y1, k1⟩ := some_at g1 (by omega)
  obtain ⟨y2, k2⟩ := some_at g2 (by omega)
  obtain ⟨n0, e0, _, _⟩ := DataW.trod_int Tryz.underlying2 k0
  obtain ⟨n1, e1, _, _⟩ := DataW.trod_int Tryz.underlying2 k1
  obtain ⟨n2, e2, _, _⟩ := DataW.trod_int Tryz.underlying2 k2
  simp only [List.cons.injEq, and_true] at e0 e1 e2
  subst e0 e1 e2
  exact ⟨⟨n0, n1, n2⟩, rfl⟩
set_option maxRecDepth 100000 in
theorem open_entries {H : Type} {enc : TypeId × Value → H} {W : World} {r : Reach} {b0 : Nat} {v : Value} {d : DataW H} {p : List MemPlace} (hv : Value.okWide Tryz.prog W r b0 54 v) (h : DataW.Trod enc Tryz.prog W 0 (fun _ => true) true 54 v d p) :
    ∃ (xs : List En) (a : Option Addr) (cap : Nat), v = .slice a xs.length cap ∧ EnsRaw W a xs := by
  obtain ⟨a0, len0, cap0, rfl⟩ := okWide_slice Tryz.underlying54 hv
  obtain ⟨fuel, hf⟩ := h
  have hf' : DataW.trod enc Tryz.prog W 0 (fun _ => true) true fuel 54 [.slice a0 len0 cap0] = some (d, p) := hf
  rcases open_slice Tryz.underlying54 hf' with ⟨h0, _⟩ | ⟨a, len, cap, m, n, D, Pl, hcs, _, hl, hm, hmm, _, hx⟩
  · simp only [List.cons.injEq, and_true] at h0
    exact ⟨[], none, 0, h0, ⟨by simp, fun h => absurd h (Nat.lt_irrefl 0)⟩⟩
  · simp only [List.cons.injEq, and_true] at hcs
    simp only [if_true] at hmm
    have each : ∀ i, i < len → ∃ e : En, ∀ j, j < 3 → W.cell? (a.add (i * 3 + j)) = (enCells e)[j]? := fun i hi => by
      obtain ⟨cs', h1, h2⟩ := hx i (by omega)
      rw [Tryz.cellsEn] at h1
      obtain ⟨_, hlen, hcell⟩ := World.cells?_some h1
      obtain ⟨e, rfl⟩ := open_en_cells hlen h2
      refine ⟨e, fun j hj => ?_⟩
      have := hcell j hj
      rwa [add_add] at this
    haveI : Inhabited En := ⟨⟨0, 0, 0⟩⟩
    obtain ⟨q, hq⟩ := choose_lt each
    have hlq : ((List.range len).map q).length = len := by simp
    have hgq : ∀ i (h : i < ((List.range len).map q).length), ((List.range len).map q)[i] = q i := fun i h => by simp
    refine ⟨(List.range len).map q, some a, cap, by rw [hlq]; exact hcs, ⟨by rw [hlq]; omega, fun hpos => ?_⟩⟩
    rw [hlq] at hpos
    obtain ⟨b, off, spot⟩ := a
    have h0 := hq 0 hpos 0 (by omega)
    have hspot : spot = none := by simpa [Addr.add] using World.cell?_spot h0
    subst hspot
    refine ⟨b, off, rfl, ?_, fun i hi j hj => ?_⟩
    · have := World.block_lt_of_cell? _ _ h0
      simpa [Addr.add] using this
    · rw [hgq]
      have := hq i (by rw [hlq] at hi; exact hi) j hj
      rwa [Addr.add_lit] at this
end Go.Proofs.YteajcmkaoahbeaaGreatDoor
namespace Go.Proofs.YteajcmkaoahbeaaGreatDoor
open Go.ChangeShapes Go.WideShapes Go.ChangeAt Go.RowKit Go.Deep

theorem Tryz.cellsEnS : Tryz.prog.cellsOf 54 = 1 := by kernel_rfl
set_option maxRecDepth 100000 in
theorem open_ens_cells {H : Type} {enc : TypeId × Value → H} {W : World} {fuel : Nat} {cs : List Value} {x0 : DataW H × List MemPlace} (hf' : DataW.trod enc Tryz.prog W 0 (fun _ => true) true fuel 54 cs = some x0) :
    ∃ (xs : List En) (a : Option Addr) (cap : Nat), cs = [.slice a xs.length cap] ∧ EnsRaw W a xs := by
  rcases open_slice Tryz.underlying54 hf' with ⟨h0, _⟩ | ⟨a, len, cap, m, n, D, Pl, hcs, _, hl, hm, hmm, _, hx⟩
  · exact ⟨[], none, 0, h0, ⟨by simp, fun h => absurd h (Nat.lt_irrefl 0)⟩⟩
  · simp only [if_true] at hmm
    have each : ∀ i, i < len → ∃ e : En, ∀ j, j < 3 → W.cell? (a.add (i * 3 + j)) = (enCells e)[j]? := fun i hi => by
      obtain ⟨cs', h1, h2⟩ := hx i (by omega)
      rw [Tryz.cellsEn] at h1
      obtain ⟨_, hlen, hcell⟩ := World.cells?_some h1
      obtain ⟨e, rfl⟩ := open_en_cells hlen h2
      refine ⟨e, fun j hj => ?_⟩
      have := hcell j hj
      rwa [add_add] at this
    haveI : Inhabited En := ⟨⟨0, 0, 0⟩⟩
    obtain ⟨q, hq⟩ := choose_lt each
    have hlq : ((List.range len).map q).length = len := by simp
    have hgq : ∀ i (h : i < ((List.range len).map q).length), ((List.range len).map q)[i] = q i := fun i h => by simp
    refine ⟨(List.range len).map q, some a, cap, by rw [hlq]; exact hcs, ⟨by rw [hlq]; omega, fun hpos => ?_⟩⟩
    rw [hlq] at hpos
    obtain ⟨b, off, spot⟩ := a
    have h0 := hq 0 hpos 0 (by omega)
    have hspot : spot = none := by simpa [Addr.add] using World.cell?_spot h0
    subst hspot
    refine ⟨b, off, rfl, ?_, fun i hi j hj => ?_⟩
    · have := World.block_lt_of_cell? _ _ h0
      simpa [Addr.add] using this
    · rw [hgq]
      have := hq i (by rw [hlq] at hi; exact hi) j hj
      rwa [Addr.add_lit] at this
set_option maxRecDepth 100000 in
theorem open_slists {H : Type} {enc : TypeId × Value → H} {W : World} {r : Reach} {b0 : Nat} {v : Value} {d : DataW H} {p : List MemPlace} (hv : Value.okWide Tryz.prog W r b0 25 v) (h : DataW.Trod enc Tryz.prog W 0 (fun _ => true) true 25 v d p) :
    ∃ (ls : List Sl) (a : Option Addr) (cap : Nat), v = .slice a ls.length cap ∧ SlsRaw W a ls := by
  obtain ⟨a0, len0, cap0, rfl⟩ := okWide_slice Tryz.underlying25 hv
  obtain ⟨fuel, hf⟩ := h
  have hf' : DataW.trod enc Tryz.prog W 0 (fun _ => true) true fuel 25 [.slice a0 len0 cap0] = some (d, p) := hf
  rcases open_slice Tryz.underlying25 hf' with ⟨h0, _⟩ | ⟨a, len, cap, m, n, D, Pl, hcs, _, hl, hm, hmm, _, hx⟩
  · simp only [List.cons.injEq, and_true] at h0
    exact ⟨[], none, 0, h0, ⟨by simp, fun h => absurd h (Nat.lt_irrefl 0), fun s h => (by cases h)⟩⟩
  · simp only [List.cons.injEq, and_true] at hcs
    simp only [if_true] at hmm
    have each : ∀ i, i < len → ∃ s : Sl, W.cell? (a.add i) = some (.slice s.a s.xs.length s.c) ∧ EnsRaw W s.a s.xs := fun i hi => by
      obtain ⟨cs', h1, h2⟩ := hx i (by omega)
      rw [Tryz.cellsEnS, Nat.mul_one] at h1
      obtain ⟨_, hlen, hcell⟩ := World.cells?_some h1
      obtain ⟨xs, a', cap', rfl, hr⟩ := open_ens_cells h2
      refine ⟨⟨a', cap', xs⟩, ?_, hr⟩
      have := hcell 0 (by omega)
      rw [add_add] at this
      simpa using this
    haveI : Inhabited Sl := ⟨⟨none, 0, []⟩⟩
    obtain ⟨q, hq⟩ := choose_lt each
    have hlq : ((List.range len).map q).length = len := by simp
    have hgq : ∀ i (h : i < ((List.range len).map q).length), ((List.range len).map q)[i] = q i := fun i h => by simp
    refine ⟨(List.range len).map q, some a, cap, by rw [hlq]; exact hcs, ⟨by rw [hlq]; omega, fun hpos => ?_, fun s hs => ?_⟩⟩
    · rw [hlq] at hpos
      obtain ⟨b, off, spot⟩ := a
      have h0 := (hq 0 hpos).1
      have hspot : spot = none := by simpa [Addr.add] using World.cell?_spot h0
      subst hspot
      refine ⟨b, off, rfl, ?_, fun i hi => ?_⟩
      · have := World.block_lt_of_cell? _ _ h0
        simpa [Addr.add] using this
      · rw [hgq]
        have := (hq i (by rw [hlq] at hi; exact hi)).1
        rwa [Addr.add_lit] at this
    · obtain ⟨i, hi, rfl⟩ := List.getElem_of_mem hs
      rw [hgq]
      exact (hq i (by rw [hlq] at hi; exact hi)).2
end Go.Proofs.YteajcmkaoahbeaaGreatDoor
