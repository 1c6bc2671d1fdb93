/- Two rows of events, and two graphs, held against each other; what is right of a graph is right of its copies. -/
import Derived.Test.YtjdkenopfnepaaaGreatGrTo2
import Derived.Deep.RegionHeld
namespace Go.Proofs.YtjdkenopfnepaaaGreat
open Go.RowKit

set_option maxHeartbeats 4000000 in
set_option maxRecDepth 100000 in
theorem eq_events (es fs : List Em) (a1 a2 : Option Addr) (cap1 cap2 : Nat) (w : World) (h1 : EvsAt w a1 es) (h2 : EvsAt w a2 fs) (hs : es.map (·.v) = fs.map (·.v)) :
    Calls Tryz.prog 52 #[.slice a1 es.length cap1, .slice a2 es.length cap2] w fun e w' => e = .returned (.bool true) ∧ Below w.heap.size w w' := by
  have hl := h1.len
  have hlen : es.length = fs.length := by have := congrArg List.length hs; simpa using this
  have HV : Hid (∀ k (h : k < es.length) (h' : k < fs.length), es[k].v = fs[k].v) := fun k h h' => by
    have : (es.map (·.v))[k]'(by simpa using h) = (fs.map (·.v))[k]'(by simpa using h') := by simp only [hs]
    simpa using this
  have H1 : Hid (EvsAt w a1 es) := h1
  have H2 : Hid (EvsAt w a2 fs) := h2
  have HLN : Hid (es.length = fs.length) := hlen
  clear h1 h2 hs hlen
  go_enter Tryz.func52, Tryz.ntmps52
  go_wp2
  go_loopw [5] (fun i wr => ∃ k : Nat, k ≤ es.length ∧ i = .int .i64 k ∧ Below w.heap.size w wr) (fun i _ => es.length - (intOf i).toNat)
  case atStart => exact ⟨0, Nat.zero_le _, rfl, Below.refl _ _⟩
  case round =>
    obtain ⟨k, hk, rfl, hbw⟩ := hrel
    by_cases hlt : k < es.length
    · have hlf : k < fs.length := by rw [← HLN.out]; exact hlt
      have HE1 : Hid (EvsAt wr a1 es) := H1.out.kept hbw
      have HE2 : Hid (EvsAt wr a2 fs) := H2.out.kept hbw
      obtain ⟨b1, off1, rfl, hbb1, hcell1⟩ := HE1.out.row (by omega)
      obtain ⟨b2, off2, rfl, hbb2, hcell2⟩ := HE2.out.row (by omega)
      have hv := HV.out k hlt hlf
      have hc0 : wr.cell? ⟨b1, off1 + k * 9, none⟩ = some (.int .i64 es[k].v.id) := by
        have := hcell1 k hlt 0 (by omega)
        exact this
      have hc1 : wr.cell? ⟨b1, off1 + k * 9 + 1, none⟩ = some (.int .i64 es[k].v.room) := by
        have := hcell1 k hlt 1 (by omega)
        rwa [← Nat.add_assoc] at this
      have hc2 : wr.cell? ⟨b1, off1 + k * 9 + 2, none⟩ = some (.int .i64 es[k].v.author) := by
        have := hcell1 k hlt 2 (by omega)
        rwa [← Nat.add_assoc] at this
      have hc3 : wr.cell? ⟨b1, off1 + k * 9 + 3, none⟩ = some (.int .i64 es[k].v.kind) := by
        have := hcell1 k hlt 3 (by omega)
        rwa [← Nat.add_assoc] at this
      have hc4 : wr.cell? ⟨b1, off1 + k * 9 + 4, none⟩ = some (.int .i64 es[k].v.key) := by
        have := hcell1 k hlt 4 (by omega)
        rwa [← Nat.add_assoc] at this
      have hc5 : wr.cell? ⟨b1, off1 + k * 9 + 5, none⟩ = some (.int .i64 es[k].v.n) := by
        have := hcell1 k hlt 5 (by omega)
        rwa [← Nat.add_assoc] at this
      have hc6 : wr.cell? ⟨b1, off1 + k * 9 + 6, none⟩ = some (.string es[k].v.text) := by
        have := hcell1 k hlt 6 (by omega)
        rwa [← Nat.add_assoc] at this
      have hc7 : wr.cell? ⟨b1, off1 + k * 9 + 7, none⟩ = some (.slice es[k].p es[k].v.prev.length es[k].c) := by
        have := hcell1 k hlt 7 (by omega)
        rwa [← Nat.add_assoc] at this
      have hc8 : wr.cell? ⟨b1, off1 + k * 9 + 8, none⟩ = some (.int .i64 es[k].v.time) := by
        have := hcell1 k hlt 8 (by omega)
        rwa [← Nat.add_assoc] at this
      obtain ⟨q2, c2, HQ⟩ : ∃ q2 c2, Hid (emCells fs[k] = [.int .i64 es[k].v.id, .int .i64 es[k].v.room, .int .i64 es[k].v.author, .int .i64 es[k].v.kind, .int .i64 es[k].v.key, .int .i64 es[k].v.n, .string es[k].v.text, .slice q2 es[k].v.prev.length c2, .int .i64 es[k].v.time]) := ⟨fs[k].p, fs[k].c, by unfold Hid emCells; rw [hv]⟩
      have HN2 : Hid (NumsAt wr q2 es[k].v.prev) := by
        have h1 := HE2.out.nums _ (List.getElem_mem hlf)
        have h2 := HQ.out
        unfold emCells at h2
        simp only [List.cons.injEq, Value.slice.injEq] at h2
        rw [hv, ← h2.2.2.2.2.2.2.2.1.1]
        exact h1
      have hg0 : wr.cell? ⟨b2, off2 + k * 9, none⟩ = some (.int .i64 es[k].v.id) := by
        have := hcell2 k hlf 0 (by omega)
        rw [HQ.out] at this
        exact this
      have hg1 : wr.cell? ⟨b2, off2 + k * 9 + 1, none⟩ = some (.int .i64 es[k].v.room) := by
        have := hcell2 k hlf 1 (by omega)
        rw [HQ.out] at this
        rwa [← Nat.add_assoc] at this
      have hg2 : wr.cell? ⟨b2, off2 + k * 9 + 2, none⟩ = some (.int .i64 es[k].v.author) := by
        have := hcell2 k hlf 2 (by omega)
        rw [HQ.out] at this
        rwa [← Nat.add_assoc] at this
      have hg3 : wr.cell? ⟨b2, off2 + k * 9 + 3, none⟩ = some (.int .i64 es[k].v.kind) := by
        have := hcell2 k hlf 3 (by omega)
        rw [HQ.out] at this
        rwa [← Nat.add_assoc] at this
      have hg4 : wr.cell? ⟨b2, off2 + k * 9 + 4, none⟩ = some (.int .i64 es[k].v.key) := by
        have := hcell2 k hlf 4 (by omega)
        rw [HQ.out] at this
        rwa [← Nat.add_assoc] at this
      have hg5 : wr.cell? ⟨b2, off2 + k * 9 + 5, none⟩ = some (.int .i64 es[k].v.n) := by
        have := hcell2 k hlf 5 (by omega)
        rw [HQ.out] at this
        rwa [← Nat.add_assoc] at this
      have hg6 : wr.cell? ⟨b2, off2 + k * 9 + 6, none⟩ = some (.string es[k].v.text) := by
        have := hcell2 k hlf 6 (by omega)
        rw [HQ.out] at this
        rwa [← Nat.add_assoc] at this
      have hg7 : wr.cell? ⟨b2, off2 + k * 9 + 7, none⟩ = some (.slice q2 es[k].v.prev.length c2) := by
        have := hcell2 k hlf 7 (by omega)
        rw [HQ.out] at this
        rwa [← Nat.add_assoc] at this
      have hg8 : wr.cell? ⟨b2, off2 + k * 9 + 8, none⟩ = some (.int .i64 es[k].v.time) := by
        have := hcell2 k hlf 8 (by omega)
        rw [HQ.out] at this
        rwa [← Nat.add_assoc] at this
      clear hcell1 hcell2 hv
      go_wp2
      refine wp_region_held_drew (S := (fun W => Below wr.heap.size wr W)) (by kernel_rfl) (Below.drew (Below.refl _ _)) (fun hHeld => ?_)
      refine wpAnyH_take (i := 0) (v := (.slice (some ⟨b1, off1, none⟩) es.length cap1)) rfl (by kernel_rfl) (by kernel_rfl) (by kernel_rfl) (fun _ _ _ h => h) (Or.inl ⟨by kernel_rfl, ?_⟩) hHeld ?_
      · intro W hW
        go_simp
      refine wpAnyH_take (i := 1) (v := (.int .i64 k)) rfl (by kernel_rfl) (by kernel_rfl) (by kernel_rfl) (fun _ _ _ h => h) (Or.inl ⟨by kernel_rfl, ?_⟩) hHeld ?_
      · intro W hW
        go_simp
      refine wpAnyH_take (i := 2) (v := (.pointer (some ⟨b1, off1 + k * 9, none⟩))) rfl (by kernel_rfl) (by kernel_rfl) (by kernel_rfl) (fun _ _ _ h => h) (Or.inl ⟨by kernel_rfl, ?_⟩) hHeld ?_
      · intro W hW
        go_simp
      refine wpAnyH_take (i := 3) (v := (.agg #[.int .i64 es[k].v.id, .int .i64 es[k].v.room, .int .i64 es[k].v.author, .int .i64 es[k].v.kind, .int .i64 es[k].v.key, .int .i64 es[k].v.n, .string es[k].v.text, .slice es[k].p es[k].v.prev.length es[k].c, .int .i64 es[k].v.time])) rfl (by kernel_rfl) (by kernel_rfl) (by kernel_rfl) (fun _ _ _ h => h) (Or.inl ⟨by kernel_rfl, ?_⟩) hHeld ?_
      · intro W hW
        have f0 := (hW.cell (p := ⟨b1, off1 + k * 9, none⟩) hbb1).trans hc0
        have f1 := (hW.cell (p := ⟨b1, off1 + k * 9 + 1, none⟩) hbb1).trans hc1
        have f2 := (hW.cell (p := ⟨b1, off1 + k * 9 + 2, none⟩) hbb1).trans hc2
        have f3 := (hW.cell (p := ⟨b1, off1 + k * 9 + 3, none⟩) hbb1).trans hc3
        have f4 := (hW.cell (p := ⟨b1, off1 + k * 9 + 4, none⟩) hbb1).trans hc4
        have f5 := (hW.cell (p := ⟨b1, off1 + k * 9 + 5, none⟩) hbb1).trans hc5
        have f6 := (hW.cell (p := ⟨b1, off1 + k * 9 + 6, none⟩) hbb1).trans hc6
        have f7 := (hW.cell (p := ⟨b1, off1 + k * 9 + 7, none⟩) hbb1).trans hc7
        have f8 := (hW.cell (p := ⟨b1, off1 + k * 9 + 8, none⟩) hbb1).trans hc8
        go_simp
      refine wpAnyH_take (i := 4) (v := (.slice (some ⟨b2, off2, none⟩) es.length cap2)) rfl (by kernel_rfl) (by kernel_rfl) (by kernel_rfl) (fun _ _ _ h => h) (Or.inl ⟨by kernel_rfl, ?_⟩) hHeld ?_
      · intro W hW
        go_simp
      refine wpAnyH_take (i := 5) (v := (.int .i64 k)) rfl (by kernel_rfl) (by kernel_rfl) (by kernel_rfl) (fun _ _ _ h => h) (Or.inl ⟨by kernel_rfl, ?_⟩) hHeld ?_
      · intro W hW
        go_simp
      refine wpAnyH_take (i := 6) (v := (.pointer (some ⟨b2, off2 + k * 9, none⟩))) rfl (by kernel_rfl) (by kernel_rfl) (by kernel_rfl) (fun _ _ _ h => h) (Or.inl ⟨by kernel_rfl, ?_⟩) hHeld ?_
      · intro W hW
        go_simp
      refine wpAnyH_take (i := 7) (v := (.agg #[.int .i64 es[k].v.id, .int .i64 es[k].v.room, .int .i64 es[k].v.author, .int .i64 es[k].v.kind, .int .i64 es[k].v.key, .int .i64 es[k].v.n, .string es[k].v.text, .slice q2 es[k].v.prev.length c2, .int .i64 es[k].v.time])) rfl (by kernel_rfl) (by kernel_rfl) (by kernel_rfl) (fun _ _ _ h => h) (Or.inl ⟨by kernel_rfl, ?_⟩) hHeld ?_
      · intro W hW
        have f0 := (hW.cell (p := ⟨b2, off2 + k * 9, none⟩) hbb2).trans hg0
        have f1 := (hW.cell (p := ⟨b2, off2 + k * 9 + 1, none⟩) hbb2).trans hg1
        have f2 := (hW.cell (p := ⟨b2, off2 + k * 9 + 2, none⟩) hbb2).trans hg2
        have f3 := (hW.cell (p := ⟨b2, off2 + k * 9 + 3, none⟩) hbb2).trans hg3
        have f4 := (hW.cell (p := ⟨b2, off2 + k * 9 + 4, none⟩) hbb2).trans hg4
        have f5 := (hW.cell (p := ⟨b2, off2 + k * 9 + 5, none⟩) hbb2).trans hg5
        have f6 := (hW.cell (p := ⟨b2, off2 + k * 9 + 6, none⟩) hbb2).trans hg6
        have f7 := (hW.cell (p := ⟨b2, off2 + k * 9 + 7, none⟩) hbb2).trans hg7
        have f8 := (hW.cell (p := ⟨b2, off2 + k * 9 + 8, none⟩) hbb2).trans hg8
        go_simp
      refine wpAnyH_ready (rs := [8]) (by kernel_rfl) (by simp) ?_
      refine AllReadyH.cons rfl (fun K hK => ?_) AllReadyH.nil
      go_simp
      refine (eq_event es[k].v es[k].p q2 es[k].c c2 _ ((HE1.out.nums _ (List.getElem_mem hlt)).kept hHeld) (HN2.out.kept hHeld)).mono ?_
      rintro e w1 ⟨rfl, hb1⟩
      have hd1 : Below wr.heap.size wr w1 := hHeld.trans (hb1.mono hHeld.size)
      clear hb1
      refine hK.out _ _ hd1 (fun hH1 => ?_)
      clear hK K
      refine wpAnyH_take (i := 9) (v := (.bool false)) rfl (by kernel_rfl) (by kernel_rfl) (by kernel_rfl) (fun _ _ _ h => h) (Or.inl ⟨by kernel_rfl, ?_⟩) hH1 ?_
      · intro W hW
        go_simp
      refine wpAnyH_done (by kernel_rfl) ?_ _
      simp only [Act.put, List.setIfInBounds_toArray, List.set_cons_zero, List.set_cons_succ, List.getElem_toArray, List.getElem_cons_zero, List.getElem_cons_succ]
      go_wp2
      go_roundw
      case rel => exact ⟨k + 1, by omega, by go_num, hbw.trans (hH1.mono hbw.size)⟩
      case measure => simp [intOf]; omega
    · go_wp2
      go_ret
      exact ⟨rfl, hbw⟩
end Go.Proofs.YtjdkenopfnepaaaGreat
