/- MissingOf of the specification. -/
import Derived.Test.YtegjdngkbofogaaGreatMsSet2
import Derived.Test.YtegjdngkbofogaaGreatGrChart
namespace Go.Proofs.YtegjdngkbofogaaGreat
open Go.RowKit

/-- What MissingOf answers. -/
def mgL (g : Gr) : List Int := if rightG g = true then misL g else []
theorem mgL_bad {g : Gr} (h : rightG g = false) : mgL g = [] := if_neg (by simp [h])
theorem mgL_good {g : Gr} (h : rightG g = true) : mgL g = misL g := if_pos h
theorem pk_prev {g : Gr} (hr : rightG g = true) {m : Em} (hm : m ∈ g.pk) : m.v.prev.length ≤ 4 := by
  unfold rightG at hr
  simp only [Bool.and_eq_true] at hr
  have h1 := (rowB_each hr.1.1.1.2 hm).1
  unfold rightB prevB at h1
  simp only [Bool.and_eq_true] at h1
  exact of_decide_eq_true h1.1.2.1.1
theorem pk_len {g : Gr} (hr : rightG g = true) : g.pk.length ≤ 20 := by
  unfold rightG at hr
  simp only [Bool.and_eq_true] at hr
  exact rowB_len hr.1.1.1.2
theorem part_len {g : Gr} (hr : rightG g = true) (i : Nat) : ((g.pk.take i).foldl (rowN g) []).length ≤ 80 := by
  have h1 := rowN_length (g := g) (B := 4) (g.pk.take i) [] fun m hm => pk_prev hr (List.mem_of_mem_take hm)
  have h2 := pk_len hr
  rw [List.length_take] at h1
  simp at h1
  omega
def NilPost (w : World) (L : List Int) (e : Ending) (w' : World) : Prop := ∃ v, e = .returned v ∧ NumsOwn w' w.heap.size v L ∧ Below w.heap.size w w'
set_option maxHeartbeats 8000000 in
set_option maxRecDepth 100000 in
theorem missing_spec (g : Gr) (a : Option Addr) (cap : Nat) (p : Option Addr) (cp : Nat) (w : World) (h : EvsAt w a g.evs) (h2 : EvsAt w p g.pk) :
    Calls Tryz.prog 16 #[.agg #[.int .i64 g.room, .slice a g.evs.length cap, .slice p g.pk.length cp]] w (NilPost w (mgL g)) := by
  have hl := h.len
  have hl2 := h2.len
  have HG0 : Hid (GAt w g a cap p cp (w.alloc (.cells #[.int .i64 g.room, .slice a g.evs.length cap, .slice p g.pk.length cp] 32))) := ⟨(MapKept.heap_alloc w _).1, h.kept ((Below.refl _ _).alloc (Nat.le_refl _) _), h2.kept ((Below.refl _ _).alloc (Nat.le_refl _) _), (Below.refl _ _).alloc (Nat.le_refl _) _⟩
  have HS0 : Hid (GAt w g a cap p cp ((w.alloc (.cells #[.int .i64 g.room, .slice a g.evs.length cap, .slice p g.pk.length cp] 32)).alloc (.cells #[] 2)) ∧ NumsOwn ((w.alloc (.cells #[.int .i64 g.room, .slice a g.evs.length cap, .slice p g.pk.length cp] 32)).alloc (.cells #[] 2)) (w.heap.size + 1) (.slice (some ⟨w.heap.size + 1, 0, none⟩) 0 0) []) := by
    refine ⟨HG0.out.on ((Below.refl _ _).alloc (Nat.le_refl _) _), ?_⟩
    have := NumsOwn.made (base := w.heap.size + 1) (w.alloc (.cells #[.int .i64 g.room, .slice a g.evs.length cap, .slice p g.pk.length cp] 32)) (by simp)
    simpa using this
  clear h h2 HG0
  cases hr : rightG g
  · have HS : Hid (mgL g = []) := mgL_bad hr
    rw [HS.out]
    go_enter Tryz.func16, Tryz.ntmps16
    go_wp2
    go_loopw [3, 4, 5, 6] (fun v i _ _ wr => v = .slice (some ⟨w.heap.size + 1, 0, none⟩) 0 0 ∧ i = .int .i64 (0 : Nat) ∧ Hid (GAt w g a cap p cp wr ∧ NumsOwn wr (w.heap.size + 1) (.slice (some ⟨w.heap.size + 1, 0, none⟩) 0 0) [])) (fun _ _ _ _ _ => 0)
    case atStart => exact ⟨rfl, rfl, HS0⟩
    case round =>
      clear HS0
      obtain ⟨rfl, rfl, HI⟩ := hrel
      have hx0 : wr.cell? ⟨w.heap.size, 0, none⟩ = some (.int .i64 g.room) := cell_of_heap HI.out.1.box
      have hx1 : wr.cell? ⟨w.heap.size, 1, none⟩ = some (.slice a g.evs.length cap) := cell_of_heap HI.out.1.box
      have hx2 : wr.cell? ⟨w.heap.size, 2, none⟩ = some (.slice p g.pk.length cp) := cell_of_heap HI.out.1.box
      by_cases hp : 0 < g.pk.length
      · go_wp2_with fail
        refine (graph_spec g a cap p cp wr HI.out.1.evs HI.out.1.pk).mono ?_
        rintro e w1 ⟨rfl, hb1⟩
        rw [hr]
        have H1 : Hid (GAt w g a cap p cp w1 ∧ NumsOwn w1 (w.heap.size + 1) (.slice (some ⟨w.heap.size + 1, 0, none⟩) 0 0) []) := ⟨HI.out.1.on hb1, HI.out.2.kept hb1⟩
        clear hb1 HI
        go_wp2
        go_ret
        exact ⟨_, rfl, owns_baseC H1.out.2 (by omega), H1.out.1.below⟩
      · have hp0 : g.pk.length = 0 := by omega
        go_wp2
        go_ret
        exact ⟨_, rfl, owns_baseC HI.out.2 (by omega), HI.out.1.below⟩
  · have HS : Hid (mgL g = misL g) := mgL_good hr
    have HR : Hid (rightG g = true) := hr
    rw [HS.out]
    go_enter Tryz.func16, Tryz.ntmps16
    go_wp2
    go_loopw [3, 4, 5, 6] (fun v i _ _ wr => ∃ (k q c : Nat) (l : List Int), k ≤ g.pk.length ∧ i = .int .i64 k ∧ v = .slice (some ⟨q, 0, none⟩) l.length c ∧ Hid (l = (g.pk.take k).foldl (rowN g) [] ∧ GAt w g a cap p cp wr ∧ NumsOwn wr (w.heap.size + 1) (.slice (some ⟨q, 0, none⟩) l.length c) l)) (fun _ i _ _ _ => g.pk.length - (intOf i).toNat)
    case atStart => exact ⟨0, w.heap.size + 1, 0, [], Nat.zero_le _, rfl, rfl, rfl, HS0.out.1, HS0.out.2⟩
    case round =>
      clear HS0
      obtain ⟨k, q, c, l, hk, rfl, rfl, HI⟩ := hrel
      have hx0 : wr.cell? ⟨w.heap.size, 0, none⟩ = some (.int .i64 g.room) := cell_of_heap HI.out.2.1.box
      have hx1 : wr.cell? ⟨w.heap.size, 1, none⟩ = some (.slice a g.evs.length cap) := cell_of_heap HI.out.2.1.box
      have hx2 : wr.cell? ⟨w.heap.size, 2, none⟩ = some (.slice p g.pk.length cp) := cell_of_heap HI.out.2.1.box
      by_cases hlt : k < g.pk.length
      · have hll : l.length ≤ 80 := by rw [HI.out.1]; exact part_len HR.out k
        have hp4 : g.pk[k].v.prev.length ≤ 4 := pk_prev HR.out (List.getElem_mem hlt)
        go_wp2_with fail
        refine (graph_spec g a cap p cp wr HI.out.2.1.evs HI.out.2.1.pk).mono ?_
        rintro e w1 ⟨rfl, hb1⟩
        rw [hr]
        have HL : Hid (l = (g.pk.take k).foldl (rowN g) []) := HI.out.1
        have H1 : Hid (GAt w g a cap p cp w1 ∧ NumsOwn w1 (w.heap.size + 1) (.slice (some ⟨q, 0, none⟩) l.length c) l) := ⟨HI.out.2.1.on hb1, HI.out.2.2.kept hb1⟩
        clear hb1 HI hx0 hx1 hx2
        go_wp2
        go_loopw [3, 5, 6] (fun v i _ wl => ∃ (j q c : Nat) (l' : List Int), j ≤ g.pk[k].v.prev.length ∧ i = .int .i64 j ∧ v = .slice (some ⟨q, 0, none⟩) l'.length c ∧ Hid (l' = (g.pk[k].v.prev.take j).foldl (stepN g) l ∧ GAt w g a cap p cp wl ∧ NumsOwn wl (w.heap.size + 1) (.slice (some ⟨q, 0, none⟩) l'.length c) l')) (fun _ i _ _ => g.pk[k].v.prev.length - (intOf i).toNat)
        case atStart => exact ⟨0, q, c, l, Nat.zero_le _, rfl, rfl, rfl, H1.out.1, H1.out.2⟩
        case round =>
          clear H1
          obtain ⟨j, q1, c1, l1, hj, rfl, rfl, HJ⟩ := hrel
          have hy1 : wr.cell? ⟨w.heap.size, 1, none⟩ = some (.slice a g.evs.length cap) := cell_of_heap HJ.out.2.1.box
          have hy2 : wr.cell? ⟨w.heap.size, 2, none⟩ = some (.slice p g.pk.length cp) := cell_of_heap HJ.out.2.1.box
          obtain ⟨b2, off2, hp2, hbb2, hcell2⟩ := HJ.out.2.1.pk.row (by omega)
          have hd7 : wr.cell? ⟨b2, off2 + k * 9 + 7, none⟩ = some (.slice g.pk[k].p g.pk[k].v.prev.length g.pk[k].c) := by
            have := hcell2 k hlt 7 (by omega)
            rwa [← Nat.add_assoc] at this
          subst hp2
          by_cases hjl : j < g.pk[k].v.prev.length
          · obtain ⟨b3, off3, hp3, hbb3, hcell3⟩ := (HJ.out.2.1.pk.nums _ (List.getElem_mem hlt)).2 (by omega)
            have hd8 := hcell3 j hjl
            rw [hp3] at hd7
            have hl1 : l1.length ≤ 90 := by
              have := stepN_length (g := g) (g.pk[k].v.prev.take j) l
              rw [← HJ.out.1, List.length_take] at this
              omega
            obtain ⟨z1, HZ1⟩ : ∃ z, Hid (z = atI (idsOf g.evs) g.pk[k].v.prev[j]) := ⟨atI (idsOf g.evs) g.pk[k].v.prev[j], (rfl : atI (idsOf g.evs) g.pk[k].v.prev[j] = _)⟩
            obtain ⟨z2, HZ2⟩ : ∃ z, Hid (z = atI (idsOf g.pk) g.pk[k].v.prev[j]) := ⟨atI (idsOf g.pk) g.pk[k].v.prev[j], (rfl : atI (idsOf g.pk) g.pk[k].v.prev[j] = _)⟩
            have HNX : Hid ((g.pk[k].v.prev.take (j + 1)).foldl (stepN g) l = stepN g l1 g.pk[k].v.prev[j]) := by
              unfold Hid
              rw [foldN_take hjl, HJ.out.1]
            have HGW : Hid (GAt w g a cap (some ⟨b2, off2, none⟩) cp wr ∧ NumsOwn wr (w.heap.size + 1) (.slice (some ⟨q1, 0, none⟩) l1.length c1) l1) := HJ.out.2
            have HZW : Hid (w.heap.size + 1 ≤ wr.heap.size) := (Array.getElem?_eq_some_iff.1 HJ.out.2.1.box).1
            clear hcell2 hcell3 hp3 HJ
            cases c1' : decide (z1 < 0)
            · have HLK : Hid (lackB g g.pk[k].v.prev[j] = false) := by unfold Hid lackB; rw [← HZ1.out, c1']; rfl
              go_wp2_with fail
              refine (at_spec g.evs _ a cap wr HGW.out.1.evs).mono ?_
              rintro e wz ⟨rfl, rfl⟩
              rw [← HZ1.out]
              go_wp2
              go_roundw
              case rel => exact ⟨j + 1, q1, c1, l1, by omega, by go_num, rfl, by rw [HNX.out, stepN_no HLK.out], HGW.out.1, HGW.out.2⟩
              case measure => simp [intOf]; omega
            · cases c2' : decide (z2 < 0)
              · have HLK : Hid (lackB g g.pk[k].v.prev[j] = false) := by unfold Hid lackB; rw [← HZ1.out, ← HZ2.out, c1', c2']; rfl
                go_wp2_with fail
                refine (at_spec g.evs _ a cap wr HGW.out.1.evs).mono ?_
                rintro e wz ⟨rfl, rfl⟩
                rw [← HZ1.out]
                go_wp2_with fail
                refine (at_spec g.pk _ _ cp wr HGW.out.1.pk).mono ?_
                rintro e wz ⟨rfl, rfl⟩
                rw [← HZ2.out]
                go_wp2
                go_roundw
                case rel => exact ⟨j + 1, q1, c1, l1, by omega, by go_num, rfl, by rw [HNX.out, stepN_no HLK.out], HGW.out.1, HGW.out.2⟩
                case measure => simp [intOf]; omega
              · have HLK : Hid (lackB g g.pk[k].v.prev[j] = true) := by unfold Hid lackB; rw [← HZ1.out, ← HZ2.out, c1', c2']; rfl
                go_wp2_with fail
                refine (at_spec g.evs _ a cap wr HGW.out.1.evs).mono ?_
                rintro e wz ⟨rfl, rfl⟩
                rw [← HZ1.out]
                go_wp2_with fail
                refine (at_spec g.pk _ _ cp wr HGW.out.1.pk).mono ?_
                rintro e wz ⟨rfl, rfl⟩
                rw [← HZ2.out]
                go_wp2_with fail
                refine (set_spec l1 g.pk[k].v.prev[j] q1 c1 (w.heap.size + 1) wr HGW.out.2 (by omega) HZW.out).mono ?_
                rintro e w5 ⟨q5, c5, rfl, ho5, hb5⟩
                have H5 : Hid (GAt w g a cap (some ⟨b2, off2, none⟩) cp w5 ∧ NumsOwn w5 (w.heap.size + 1) (.slice (some ⟨q5, 0, none⟩) (setN l1 g.pk[k].v.prev[j]).length c5) (setN l1 g.pk[k].v.prev[j])) := ⟨HGW.out.1.on hb5, ho5⟩
                clear ho5 hb5 HGW
                go_wp2
                go_roundw
                case rel => exact ⟨j + 1, q5, c5, setN l1 g.pk[k].v.prev[j], by omega, by go_num, rfl, by rw [HNX.out, stepN_yes HLK.out], H5.out.1, H5.out.2⟩
                case measure => simp [intOf]; omega
          · have HNX : Hid ((g.pk.take (k + 1)).foldl (rowN g) [] = l1) := by
              have e : j = g.pk[k].v.prev.length := by omega
              have h1 := HJ.out.1
              rw [e, List.take_length] at h1
              unfold Hid
              rw [foldN_take hlt, ← HL.out, h1]
              rfl
            have HGW : Hid (GAt w g a cap (some ⟨b2, off2, none⟩) cp wr ∧ NumsOwn wr (w.heap.size + 1) (.slice (some ⟨q1, 0, none⟩) l1.length c1) l1) := HJ.out.2
            clear hcell2 HJ
            go_wp2
            go_roundw
            case rel => exact ⟨k + 1, q1, c1, l1, by omega, by go_num, rfl, HNX.out.symm, HGW.out.1, HGW.out.2⟩
            case measure => simp [intOf]; omega
      · have HF : Hid (NumsOwn wr w.heap.size (.slice (some ⟨q, 0, none⟩) l.length c) (misL g)) := by
          have e : k = g.pk.length := by omega
          have h1 := HI.out.1
          rw [e, List.take_length] at h1
          have h2 := HI.out.2.2
          unfold misL
          rw [← h1]
          exact owns_baseC h2 (by omega)
        go_wp2
        go_ret
        exact ⟨_, rfl, HF.out, HI.out.2.1.below⟩
end Go.Proofs.YtegjdngkbofogaaGreat
