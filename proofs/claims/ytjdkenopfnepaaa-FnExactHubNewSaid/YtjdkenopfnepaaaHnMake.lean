/- HubNew, of the specification and of the program. -/
import Derived.Test.YtjdkenopfnepaaaHnRow
import Derived.Deep.RegionHeld3
namespace Go.Proofs.Ytjdkenopfnepaaa
open Go.RowKit

theorem Try.infoGr : (Try.prog.info? 117).map (fun i => (i.zero, i.size, i.bytes)) = some (some (.agg #[.int .i64 0, .slice none 0 0, .slice none 0 0]), 3, 56) := by kernel_rfl
/-- A house without anything. -/
def HubPost (w : World) (e : Ending) (w' : World) : Prop := ∃ a c, e = .returned (.agg #[.slice a 3 c, .slice none 0 0]) ∧ HnOwn w' w.heap.size (.slice a 3 c) (roomsTo 3) ∧ Below w.heap.size w w'
theorem one3 {u : Value} {r : Int} : u ∈ [Value.int .i64 r, .slice none 0 0, .slice none 0 0] → u.oneCell' = true := fun hu => by
  simp only [List.mem_cons, List.not_mem_nil, or_false] at hu
  rcases hu with rfl | rfl | rfl <;> rfl
theorem HnOwn.base {w : World} {b b' : Nat} {v : Value} {rs : List Int} (h : HnOwn w b v rs) (hb : b' ≤ b) : HnOwn w b' v rs := owns_baseC h hb
set_option maxHeartbeats 4000000 in
set_option maxRecDepth 100000 in
theorem hubNew_spec (w : World) : Calls Try.prog 37 #[] w (HubPost w) := by
  obtain ⟨i0, hi, hz0, hz1, hz2⟩ := info_parts Try.infoGr
  go_enter Try.func37, Try.ntmps37
  have H0 : Hid (HB w (.slice none 0 0) 0 ((w.alloc (.cells #[.slice none 0 0, .slice none 0 0] 59)).alloc (.cells #[.slice none 0 0, .slice none 0 0] 59))) := HB.start w
  go_wp2
  go_loopw [2] (fun i wr => ∃ (k : Nat) (v : Value), k ≤ 3 ∧ i = .int .i64 ((k : Int) + 1) ∧ Hid (HB w v k wr)) (fun i _ => 4 - (intOf i).toNat)
  case atStart => exact ⟨0, _, by omega, rfl, H0⟩
  case round =>
    clear H0
    obtain ⟨k, v, hk, rfl, HR⟩ := hrel
    obtain ⟨a0, c0, rfl⟩ := HR.out.slice
    have hc0 : wr.cell? ⟨w.heap.size + 1, 0, none⟩ = some (.slice a0 k c0) := cell_of_heap HR.out.box
    by_cases hlt : k < 3
    · have hle : decide ((k : Int) + 1 ≤ 3) = true := decide_eq_true (by omega)
      have hzr : w.heap.size + 1 < wr.heap.size := HR.out.lt
      have HA : Hid (∀ o, Below wr.heap.size wr (wr.alloc o)) := fun o => (Below.refl _ _).alloc (Nat.le_refl _) o
      have HW : Hid (∀ o, (wr.alloc o).ownsRow (w.heap.size + 2) 117 3 (.slice a0 k c0) k (hcs (roomsTo k))) := fun o => HR.out.row (HA.out o)
      go_wp2_with (at_builtin; refine wpList_append_own _ rfl (.tmp 9) (.tmp 12) 56 rfl (w.heap.size + 2) 117 i0 _ 3 56 Try.underlying56 hi hz0 hz1 hz2 rfl (by decide) _ _ _ rfl (HW.out _) ⟨wr.heap.size, 0, none⟩ 1 1 [.int .i64 ((k : Int) + 1), .slice none 0 0, .slice none 0 0] rfl rfl (cells_atH (MapKept.heap_alloc _ _).1) (fun u hu => one3 hu) (by unfold maxLen; omega) (by omega) (by simp; omega) ?_; intro v1 w2 hO hg hn; have HM : Hid (HB w v1 (k + 1) (w2.setCell ⟨w.heap.size + 1, 0, none⟩ v1)) := HR.out.more (HA.out _) hg hO; have hbx := HR.out.kept2 (HA.out _) hg; have hc2 : w2.cell? ⟨w.heap.size + 1, 0, none⟩ = some (.slice a0 k c0) := cell_of_heap hbx; have hf2 : w2.frozen? ⟨w.heap.size + 1, 0, none⟩ = false := frozen_of_heap hbx; obtain ⟨a1, c1, rfl⟩ := HM.out.slice; clear hO hg hn hbx)
      go_roundw
      case rel => exact ⟨k + 1, _, by omega, by go_num, HM⟩
      case measure => simp [intOf]; omega
    · have e : k = 3 := by omega
      subst e
      have hle : decide (((3 : Nat) : Int) + 1 ≤ 3) = false := decide_eq_false (by omega)
      have hc1 : wr.cell? ⟨w.heap.size + 1, 1, none⟩ = some (.slice none 0 0) := cell_of_heap HR.out.box
      have hr0 : wr.cell? ⟨w.heap.size, 0, none⟩ = some (.slice none 0 0) := cell_of_heap HR.out.res
      have hr1 : wr.cell? ⟨w.heap.size, 1, none⟩ = some (.slice none 0 0) := cell_of_heap HR.out.res
      have hf : ∀ q, wr.frozen? ⟨w.heap.size, q, none⟩ = false := fun q => frozen_of_heap HR.out.res
      go_wp2
      refine bodyPost_ret (v := .agg #[.slice a0 3 c0, .slice none 0 0]) (by simp [results, Try.results37, go_sem, hr0, hr1]) rfl ⟨a0, c0, rfl, ((HR.out.own.setCell (by omega)).setCell (by omega)).base (by omega), (HR.out.below.setCell (Nat.le_refl _) _).setCell (Nat.le_refl _) _⟩
set_option maxHeartbeats 1000000 in
theorem roomAt_impl (i : Nat) (w : World) (hi : (i : Int) ≤ 100) : Calls Try.prog 88 #[.int .i64 i] w fun e w' => e = .returned (.int .i64 ((i : Int) + 1)) ∧ w' = w := by
  go_enter Try.func88, Try.ntmps88
  go_wp2
  go_ret
  exact ⟨rfl, rfl⟩
set_option maxHeartbeats 4000000 in
set_option maxRecDepth 100000 in
theorem hubNew_impl (w : World) : Calls Try.prog 38 #[] w (HubPost w) := by
  obtain ⟨i0, hi, hz0, hz1, hz2⟩ := info_parts Try.infoGr
  go_enter Try.func38, Try.ntmps38
  have H0 : Hid (HB w (.slice none 0 0) 0 ((w.alloc (.cells #[.slice none 0 0, .slice none 0 0] 59)).alloc (.cells #[.slice none 0 0, .slice none 0 0] 59))) := HB.start w
  go_wp2
  go_loopw [2, 3] (fun _ i wr => ∃ (k : Nat) (v : Value), k ≤ 3 ∧ i = .int .i64 k ∧ Hid (HB w v k wr)) (fun _ i _ => 3 - (intOf i).toNat)
  case atStart => exact ⟨0, _, by omega, rfl, H0⟩
  case round =>
    clear H0
    obtain ⟨k, v, hk, rfl, HR⟩ := hrel
    obtain ⟨a0, c0, rfl⟩ := HR.out.slice
    by_cases hlt : k < 3
    · have hle : decide ((k : Int) < 3) = true := decide_eq_true (by omega)
      have hzr : w.heap.size + 1 < wr.heap.size := HR.out.lt
      have hcd : wr.cell? ⟨w.heap.size + 1, 0, none⟩ = some (.slice a0 k c0) := cell_of_heap HR.out.box
      have HA : Hid (∀ o, Below wr.heap.size wr (wr.drew.alloc o)) := fun o => ((Below.refl _ _).drew).alloc (Nat.le_refl _) o
      have HW : Hid (∀ o, (wr.drew.alloc o).ownsRow (w.heap.size + 2) 117 3 (.slice a0 k c0) k (hcs (roomsTo k))) := fun o => HR.out.row (HA.out o)
      go_wp2
      refine wp_region_any (by kernel_rfl) ?_
      change wpAny _ _ _ _ _ _ _ (World.drew _)
      refine wpAny_take (i := 0) (v := (.pointer (some ⟨w.heap.size + 1, 0, none⟩))) rfl (by kernel_rfl) (by kernel_rfl) (by kernel_rfl) (fun _ _ _ h => h) (Or.inl ⟨by kernel_rfl, ?_⟩) ?_
      · intro w
        go_simp
      refine wpAny_take (i := 2) (v := (.int .i64 k)) rfl (by kernel_rfl) (by kernel_rfl) (by kernel_rfl) (fun _ _ _ h => h) (Or.inl ⟨by kernel_rfl, ?_⟩) ?_
      · intro w
        go_simp
      refine wpAny_ready (rs := [1, 3]) (by kernel_rfl) (by simp) ?_
      refine AllReady.cons rfl (fun K hK => ?_) (AllReady.cons rfl (fun K hK => ?_) AllReady.nil)
      · go_simp
        refine hK _ _ ?_
        clear hK K
        refine wpAny_ready (rs := [3]) (by kernel_rfl) (by simp) ?_
        refine AllReady.cons rfl (fun K hK => ?_) AllReady.nil
        go_simp
        refine (roomAt_impl k _ (by omega)).mono ?_
        rintro e w1 ⟨rfl, rfl⟩
        refine hK _ _ ?_
        clear hK K
        refine wpAny_take (i := 4) (v := (.agg #[.int .i64 ((k : Int) + 1), .slice none 0 0, .slice none 0 0])) rfl (by kernel_rfl) (by kernel_rfl) (by kernel_rfl) (fun _ _ _ h => h) (Or.inl ⟨by kernel_rfl, ?_⟩) ?_
        · intro w
          go_simp
        refine wpAny_ready (rs := [5]) (by kernel_rfl) (by simp) ?_
        refine AllReady.cons rfl (fun K hK => ?_) AllReady.nil
        go_simp
        refine hK _ _ ?_
        clear hK K
        refine wpAny_ready (rs := [6]) (by kernel_rfl) (by simp) ?_
        refine AllReady.cons rfl (fun K hK => ?_) AllReady.nil
        refine wp_append_own _ (.tmp 7) (.tmp 11) 56 rfl (w.heap.size + 2) 117 i0 _ 3 56 Try.underlying56 hi hz0 hz1 hz2 rfl (by decide) (.slice a0 k c0) k (hcs (roomsTo k)) rfl (HW.out _) ⟨wr.heap.size, 0, none⟩ 1 1 [.int .i64 ((k : Int) + 1), .slice none 0 0, .slice none 0 0] rfl rfl (cells_atH (MapKept.heap_alloc _ _).1) (fun u hu => one3 hu) (by unfold maxLen; omega) (by omega) (by simp; omega) (fun v1 w2 hO hg hn => ?_)
        have HM : Hid (HB w v1 (k + 1) (w2.setCell ⟨w.heap.size + 1, 0, none⟩ v1)) := HR.out.more (HA.out _) hg hO
        have hbx := HR.out.kept2 (HA.out _) hg
        obtain ⟨a1, c1, rfl⟩ := HM.out.slice
        clear hO hg hn
        refine hK _ _ ?_
        clear hK K
        have hc2 : w2.cell? ⟨w.heap.size + 1, 0, none⟩ = some (.slice a0 k c0) := cell_of_heap hbx
        have hf2 : w2.frozen? ⟨w.heap.size + 1, 0, none⟩ = false := frozen_of_heap hbx
        refine wpAny_take (i := 7) (v := (.pointer (some ⟨w.heap.size + 1, 0, none⟩))) rfl (by kernel_rfl) (by kernel_rfl) (by kernel_rfl) (fun _ _ _ h => h) (Or.inl ⟨by kernel_rfl, ?_⟩) ?_
        · intro w
          go_simp
        refine wpAny_ready (rs := [8]) (by kernel_rfl) (by simp) ?_
        refine AllReady.cons rfl (fun K hK => ?_) AllReady.nil
        go_simp
        refine hK _ _ ?_
        clear hK K
        refine wpAny_done (by kernel_rfl) ?_ _
        go_wp2
        go_roundw
        case rel => exact ⟨k + 1, _, by omega, by go_num, HM⟩
        case measure => simp [intOf]; omega
      · go_simp
        refine (roomAt_impl k _ (by omega)).mono ?_
        rintro e w1 ⟨rfl, rfl⟩
        refine hK _ _ ?_
        clear hK K
        refine wpAny_take (i := 4) (v := (.agg #[.int .i64 ((k : Int) + 1), .slice none 0 0, .slice none 0 0])) rfl (by kernel_rfl) (by kernel_rfl) (by kernel_rfl) (fun _ _ _ h => h) (Or.inl ⟨by kernel_rfl, ?_⟩) ?_
        · intro w
          go_simp
        refine wpAny_ready (rs := [1, 5]) (by kernel_rfl) (by simp) ?_
        refine AllReady.cons rfl (fun K hK => ?_) (AllReady.cons rfl (fun K hK => ?_) AllReady.nil)
        · go_simp
          refine hK _ _ ?_
          clear hK K
          refine wpAny_ready (rs := [5]) (by kernel_rfl) (by simp) ?_
          refine AllReady.cons rfl (fun K hK => ?_) AllReady.nil
          go_simp
          refine hK _ _ ?_
          clear hK K
          refine wpAny_ready (rs := [6]) (by kernel_rfl) (by simp) ?_
          refine AllReady.cons rfl (fun K hK => ?_) AllReady.nil
          refine wp_append_own _ (.tmp 7) (.tmp 11) 56 rfl (w.heap.size + 2) 117 i0 _ 3 56 Try.underlying56 hi hz0 hz1 hz2 rfl (by decide) (.slice a0 k c0) k (hcs (roomsTo k)) rfl (HW.out _) ⟨wr.heap.size, 0, none⟩ 1 1 [.int .i64 ((k : Int) + 1), .slice none 0 0, .slice none 0 0] rfl rfl (cells_atH (MapKept.heap_alloc _ _).1) (fun u hu => one3 hu) (by unfold maxLen; omega) (by omega) (by simp; omega) (fun v1 w2 hO hg hn => ?_)
          have HM : Hid (HB w v1 (k + 1) (w2.setCell ⟨w.heap.size + 1, 0, none⟩ v1)) := HR.out.more (HA.out _) hg hO
          have hbx := HR.out.kept2 (HA.out _) hg
          obtain ⟨a1, c1, rfl⟩ := HM.out.slice
          clear hO hg hn
          refine hK _ _ ?_
          clear hK K
          have hc2 : w2.cell? ⟨w.heap.size + 1, 0, none⟩ = some (.slice a0 k c0) := cell_of_heap hbx
          have hf2 : w2.frozen? ⟨w.heap.size + 1, 0, none⟩ = false := frozen_of_heap hbx
          refine wpAny_take (i := 7) (v := (.pointer (some ⟨w.heap.size + 1, 0, none⟩))) rfl (by kernel_rfl) (by kernel_rfl) (by kernel_rfl) (fun _ _ _ h => h) (Or.inl ⟨by kernel_rfl, ?_⟩) ?_
          · intro w
            go_simp
          refine wpAny_ready (rs := [8]) (by kernel_rfl) (by simp) ?_
          refine AllReady.cons rfl (fun K hK => ?_) AllReady.nil
          go_simp
          refine hK _ _ ?_
          clear hK K
          refine wpAny_done (by kernel_rfl) ?_ _
          go_wp2
          go_roundw
          case rel => exact ⟨k + 1, _, by omega, by go_num, HM⟩
          case measure => simp [intOf]; omega
        · go_simp
          refine hK _ _ ?_
          clear hK K
          refine wpAny_ready (rs := [1]) (by kernel_rfl) (by simp) ?_
          refine AllReady.cons rfl (fun K hK => ?_) AllReady.nil
          go_simp
          refine hK _ _ ?_
          clear hK K
          refine wpAny_ready (rs := [6]) (by kernel_rfl) (by simp) ?_
          refine AllReady.cons rfl (fun K hK => ?_) AllReady.nil
          refine wp_append_own _ (.tmp 7) (.tmp 11) 56 rfl (w.heap.size + 2) 117 i0 _ 3 56 Try.underlying56 hi hz0 hz1 hz2 rfl (by decide) (.slice a0 k c0) k (hcs (roomsTo k)) rfl (HW.out _) ⟨wr.heap.size, 0, none⟩ 1 1 [.int .i64 ((k : Int) + 1), .slice none 0 0, .slice none 0 0] rfl rfl (cells_atH (MapKept.heap_alloc _ _).1) (fun u hu => one3 hu) (by unfold maxLen; omega) (by omega) (by simp; omega) (fun v1 w2 hO hg hn => ?_)
          have HM : Hid (HB w v1 (k + 1) (w2.setCell ⟨w.heap.size + 1, 0, none⟩ v1)) := HR.out.more (HA.out _) hg hO
          have hbx := HR.out.kept2 (HA.out _) hg
          obtain ⟨a1, c1, rfl⟩ := HM.out.slice
          clear hO hg hn
          refine hK _ _ ?_
          clear hK K
          have hc2 : w2.cell? ⟨w.heap.size + 1, 0, none⟩ = some (.slice a0 k c0) := cell_of_heap hbx
          have hf2 : w2.frozen? ⟨w.heap.size + 1, 0, none⟩ = false := frozen_of_heap hbx
          refine wpAny_take (i := 7) (v := (.pointer (some ⟨w.heap.size + 1, 0, none⟩))) rfl (by kernel_rfl) (by kernel_rfl) (by kernel_rfl) (fun _ _ _ h => h) (Or.inl ⟨by kernel_rfl, ?_⟩) ?_
          · intro w
            go_simp
          refine wpAny_ready (rs := [8]) (by kernel_rfl) (by simp) ?_
          refine AllReady.cons rfl (fun K hK => ?_) AllReady.nil
          go_simp
          refine hK _ _ ?_
          clear hK K
          refine wpAny_done (by kernel_rfl) ?_ _
          go_wp2
          go_roundw
          case rel => exact ⟨k + 1, _, by omega, by go_num, HM⟩
          case measure => simp [intOf]; omega
    · have e : k = 3 := by omega
      subst e
      have hle : decide (((3 : Nat) : Int) < 3) = false := decide_eq_false (by omega)
      have hc0 : wr.cell? ⟨w.heap.size + 1, 0, none⟩ = some (.slice a0 3 c0) := cell_of_heap HR.out.box
      have hc1 : wr.cell? ⟨w.heap.size + 1, 1, none⟩ = some (.slice none 0 0) := cell_of_heap HR.out.box
      have hr0 : wr.cell? ⟨w.heap.size, 0, none⟩ = some (.slice none 0 0) := cell_of_heap HR.out.res
      have hr1 : wr.cell? ⟨w.heap.size, 1, none⟩ = some (.slice none 0 0) := cell_of_heap HR.out.res
      have hf : ∀ q, wr.frozen? ⟨w.heap.size, q, none⟩ = false := fun q => frozen_of_heap HR.out.res
      go_wp2
      refine bodyPost_ret (v := .agg #[.slice a0 3 c0, .slice none 0 0]) (by simp [results, Try.results38, go_sem, hr0, hr1]) rfl ⟨a0, c0, rfl, ((HR.out.own.setCell (by omega)).setCell (by omega)).base (by omega), (HR.out.below.setCell (Nat.le_refl _) _).setCell (Nat.le_refl _) _⟩
end Go.Proofs.Ytjdkenopfnepaaa
