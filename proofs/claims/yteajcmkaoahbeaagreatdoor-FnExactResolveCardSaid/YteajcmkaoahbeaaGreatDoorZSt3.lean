/- StateRight, of the specification and of the program. -/
import Derived.Test.YteajcmkaoahbeaaGreatDoorZSt2
namespace Go.Proofs.YteajcmkaoahbeaaGreatDoor
open Go.RowKit

set_option maxHeartbeats 2000000 in
set_option maxRecDepth 100000 in
theorem ent_spec (gone : Bool) (x : En) (w : World) : Calls Tryz.prog 143 #[.agg #[.int .i64 x.kind, .int .i64 x.key, .int .i64 x.id], .bool gone] w fun e w' => e = .returned (.bool (entB gone x)) ∧ Below w.heap.size w w' := by
  have HB : Hid (∀ o, Below w.heap.size w (w.alloc o)) := fun o => (Below.refl _ _).alloc (Nat.le_refl _) o
  obtain ⟨r, HR⟩ : ∃ r, Hid (r = entB gone x) := ⟨entB gone x, (rfl : entB gone x = _)⟩
  rw [← HR.out]
  cases h1 : isB x.kind 1 6
  · have HS : Hid (r = false) := by rw [HR.out]; unfold Hid entB slotB; rw [h1]; rfl
    go_enter Tryz.func143, Tryz.ntmps143
    go_wp2_with (go_at_call 61; refine (is_spec _ _ _ _).mono ?_; rintro e w' ⟨rfl, rfl⟩; rw [h1])
    go_ret
    exact ⟨ret_bool HS.out.symm, HB.out _⟩
  cases h2 : isB x.key 0 6
  · have HS : Hid (r = false) := by rw [HR.out]; unfold Hid entB slotB; rw [h1, h2]; rfl
    go_enter Tryz.func143, Tryz.ntmps143
    go_wp2_with (go_at_call 61; refine (is_spec _ _ _ _).mono ?_; rintro e w' ⟨rfl, rfl⟩; first | rw [h1] | rw [h2])
    go_ret
    exact ⟨ret_bool HS.out.symm, HB.out _⟩
  cases h3 : isB x.id 1 1000000
  · cases gone
    · have HS : Hid (r = false) := by rw [HR.out]; unfold Hid entB slotB; rw [h1, h2, h3]; rfl
      go_enter Tryz.func143, Tryz.ntmps143
      go_wp2_with (first
        | (go_at_call 61; refine (is_spec _ _ _ _).mono ?_; rintro e w' ⟨rfl, rfl⟩; first | rw [h1] | rw [h2])
        | (go_at_call 138; refine (id_spec _ _).mono ?_; rintro e w' ⟨rfl, rfl⟩; rw [h3]))
      go_ret
      exact ⟨ret_bool HS.out.symm, HB.out _⟩
    · cases h4 : (x.id == 0)
      · have HS : Hid (r = false) := by rw [HR.out]; unfold Hid entB slotB; rw [h1, h2, h3, h4]; rfl
        go_enter Tryz.func143, Tryz.ntmps143
        go_wp2_with (first
          | (go_at_call 61; refine (is_spec _ _ _ _).mono ?_; rintro e w' ⟨rfl, rfl⟩; first | rw [h1] | rw [h2])
          | (go_at_call 138; refine (id_spec _ _).mono ?_; rintro e w' ⟨rfl, rfl⟩; rw [h3]))
        go_ret
        exact ⟨ret_bool HS.out.symm, HB.out _⟩
      · have HS : Hid (r = true) := by rw [HR.out]; unfold Hid entB slotB; rw [h1, h2, h3, h4]; rfl
        go_enter Tryz.func143, Tryz.ntmps143
        go_wp2_with (first
          | (go_at_call 61; refine (is_spec _ _ _ _).mono ?_; rintro e w' ⟨rfl, rfl⟩; first | rw [h1] | rw [h2])
          | (go_at_call 138; refine (id_spec _ _).mono ?_; rintro e w' ⟨rfl, rfl⟩; rw [h3]))
        go_ret
        exact ⟨ret_bool HS.out.symm, HB.out _⟩
  · have HS : Hid (r = true) := by rw [HR.out]; unfold Hid entB slotB; rw [h1, h2, h3]; rfl
    go_enter Tryz.func143, Tryz.ntmps143
    go_wp2_with (first
      | (go_at_call 61; refine (is_spec _ _ _ _).mono ?_; rintro e w' ⟨rfl, rfl⟩; first | rw [h1] | rw [h2])
      | (go_at_call 138; refine (id_spec _ _).mono ?_; rintro e w' ⟨rfl, rfl⟩; rw [h3]))
    go_ret
    exact ⟨ret_bool HS.out.symm, HB.out _⟩
set_option maxHeartbeats 2000000 in
set_option maxRecDepth 100000 in
theorem less_spec (x y : En) (w : World) : Calls Tryz.prog 100 #[.agg #[.int .i64 x.kind, .int .i64 x.key, .int .i64 x.id], .agg #[.int .i64 y.kind, .int .i64 y.key, .int .i64 y.id]] w fun e w' => e = .returned (.bool (lessB x y)) ∧ Below w.heap.size w w' := by
  have HB : Hid (∀ o1 o2, Below w.heap.size w ((w.alloc o1).alloc o2)) := fun o1 o2 => ((Below.refl _ _).alloc (Nat.le_refl _) _).alloc (by simp) _
  obtain ⟨r, HR⟩ : ∃ r, Hid (r = lessB x y) := ⟨lessB x y, (rfl : lessB x y = _)⟩
  rw [← HR.out]
  cases h1 : decide (x.kind < y.kind)
  · cases h2 : (x.kind == y.kind)
    · have HS : Hid (r = false) := by rw [HR.out]; unfold Hid lessB; rw [h1, h2]; rfl
      go_enter Tryz.func100, Tryz.ntmps100
      go_wp2
      go_ret
      exact ⟨ret_bool HS.out.symm, HB.out _ _⟩
    · have HS : Hid (r = decide (x.key < y.key)) := by rw [HR.out]; unfold Hid lessB; rw [h1, h2]; rfl
      go_enter Tryz.func100, Tryz.ntmps100
      go_wp2
      go_ret
      exact ⟨ret_bool HS.out.symm, HB.out _ _⟩
  · have HS : Hid (r = true) := by rw [HR.out]; unfold Hid lessB; rw [h1]; rfl
    go_enter Tryz.func100, Tryz.ntmps100
    go_wp2
    go_ret
    exact ⟨ret_bool HS.out.symm, HB.out _ _⟩
theorem rowE_rise {gone : Bool} {xs : List En} (h : riseB xs = false) : rowE gone xs = false := by simp [rowE, h]
theorem rowE_ent {gone : Bool} {xs : List En} {k : Nat} (hk : k < xs.length) (h : entB gone xs[k] = false) : rowE gone xs = false := by
  have : xs.all (entB gone) = false := List.all_eq_false.2 ⟨xs[k], List.getElem_mem hk, by simp [h]⟩
  simp [rowE, this]
theorem rowE_big {gone : Bool} {xs : List En} (h : ¬ xs.length ≤ 400) : rowE gone xs = false := by simp [rowE, h]
theorem rowE_yes {gone : Bool} {xs : List En} (h0 : xs.length ≤ 400) (h1 : riseB xs = true) (h2 : ∀ j (h : j < xs.length), entB gone xs[j] = true) : rowE gone xs = true := by
  have : xs.all (entB gone) = true := List.all_eq_true.2 fun x hx => by
    obtain ⟨j, hj, rfl⟩ := List.getElem_of_mem hx
    exact h2 j hj
  simp [rowE, this, h0, h1]
set_option maxHeartbeats 8000000 in
set_option maxRecDepth 100000 in
theorem srow_spec (gone : Bool) (xs : List En) (a : Option Addr) (cap : Nat) (w : World) (h : EnsAt w a xs) :
    Calls Tryz.prog 97 #[.slice a xs.length cap, .bool gone] w fun e w' => e = .returned (.bool (rowE gone xs)) ∧ Below w.heap.size w w' := by
  have hl := h.len
  have H : Hid (EnsAt w a xs) := h
  clear h
  by_cases hbig : xs.length ≤ 400
  · have bb : decide (400 < xs.length) = false := decide_eq_false (by omega)
    go_enter Tryz.func97, Tryz.ntmps97
    go_wp2
    go_loopw [5] (fun i wr => ∃ k : Nat, k ≤ xs.length ∧ i = .int .i64 k ∧ Hid ((∀ q, q < k → riseAt xs q = true) ∧ ∀ q (h : q < xs.length), q < k → entB gone xs[q] = true) ∧ Below w.heap.size w wr) (fun i _ => xs.length - (intOf i).toNat)
    case atStart => exact ⟨0, Nat.zero_le _, rfl, ⟨fun _ h => absurd h (Nat.not_lt_zero _), fun _ _ h => absurd h (Nat.not_lt_zero _)⟩, Below.refl _ _⟩
    case round =>
      obtain ⟨k, hk, rfl, HO, hbw⟩ := hrel
      by_cases hlt : k < xs.length
      · have HE : Hid (EnsAt wr a xs) := H.out.kept hbw
        obtain ⟨b, off, rfl, hbb, hcell⟩ := HE.out.row (by omega)
        cases hent : entB gone xs[k]
        · have HS : Hid (rowE gone xs = false) := rowE_ent hlt hent
          have hc0 : wr.cell? ⟨b, off + k * 3, none⟩ = some (.int .i64 xs[k].kind) := by
            have := hcell k hlt 0 (by omega)
            exact this
          have hc1 : wr.cell? ⟨b, off + k * 3 + 1, none⟩ = some (.int .i64 xs[k].key) := by
            have := hcell k hlt 1 (by omega)
            rwa [← Nat.add_assoc] at this
          have hc2 : wr.cell? ⟨b, off + k * 3 + 2, none⟩ = some (.int .i64 xs[k].id) := by
            have := hcell k hlt 2 (by omega)
            rwa [← Nat.add_assoc] at this
          clear hcell
          go_wp2
          refine wp_region_held_drew (S := (fun W => Below wr.heap.size wr W)) (by kernel_rfl) (Below.drew (Below.refl _ _)) (fun hHeld => ?_)
          refine wpAnyH_take (i := 0) (v := (.slice (some ⟨b, off, none⟩) xs.length cap)) rfl (by kernel_rfl) (by kernel_rfl) (by kernel_rfl) (fun _ _ _ h => h) (Or.inl ⟨by kernel_rfl, ?_⟩) hHeld ?_
          · intro W hW
            go_simp
          refine wpAnyH_take (i := 1) (v := (.int .i64 k)) rfl (by kernel_rfl) (by kernel_rfl) (by kernel_rfl) (fun _ _ _ h => h) (Or.inl ⟨by kernel_rfl, ?_⟩) hHeld ?_
          · intro W hW
            go_simp
          refine wpAnyH_take (i := 2) (v := (.pointer (some ⟨b, off + k * 3, none⟩))) rfl (by kernel_rfl) (by kernel_rfl) (by kernel_rfl) (fun _ _ _ h => h) (Or.inl ⟨by kernel_rfl, ?_⟩) hHeld ?_
          · intro W hW
            go_simp
          refine wpAnyH_take (i := 3) (v := (.agg #[.int .i64 xs[k].kind, .int .i64 xs[k].key, .int .i64 xs[k].id])) rfl (by kernel_rfl) (by kernel_rfl) (by kernel_rfl) (fun _ _ _ h => h) (Or.inl ⟨by kernel_rfl, ?_⟩) hHeld ?_
          · intro W hW
            have f0 := (hW.cell (p := ⟨b, off + k * 3, none⟩) hbb).trans hc0
            have f1 := (hW.cell (p := ⟨b, off + k * 3 + 1, none⟩) hbb).trans hc1
            have f2 := (hW.cell (p := ⟨b, off + k * 3 + 2, none⟩) hbb).trans hc2
            go_simp
          refine wpAnyH_take (i := 4) (v := (.bool gone)) rfl (by kernel_rfl) (by kernel_rfl) (by kernel_rfl) (fun _ _ _ h => h) (Or.inl ⟨by kernel_rfl, ?_⟩) hHeld ?_
          · intro W hW
            go_simp
          refine wpAnyH_ready (rs := [5]) (by kernel_rfl) (by simp) ?_
          refine AllReadyH.cons rfl (fun K hK => ?_) AllReadyH.nil
          go_simp
          refine (ent_spec gone xs[k] _).mono ?_
          rintro e w1 ⟨rfl, hb1⟩
          rw [hent]
          have hd1 : Below wr.heap.size wr w1 := hHeld.trans (hb1.mono hHeld.size)
          clear hb1
          refine hK.out _ _ hd1 (fun hH1 => ?_)
          clear hK K
          refine wpAnyH_take (i := 6) (v := (.bool true)) rfl (by kernel_rfl) (by kernel_rfl) (by kernel_rfl) (fun _ _ _ h => h) (Or.inl ⟨by kernel_rfl, ?_⟩) hH1 ?_
          · intro W hW
            go_simp
          refine wpAnyH_take (i := 7) (v := (.bool true)) rfl (by kernel_rfl) (by kernel_rfl) (by kernel_rfl) (fun _ _ _ h => h) (Or.inl ⟨by kernel_rfl, ?_⟩) hH1 ?_
          · intro W hW
            go_simp
          refine wpAnyH_take (i := 8) (v := undef) rfl (by kernel_rfl) (by kernel_rfl) (by kernel_rfl) (fun _ _ _ h => h) (Or.inr ⟨by kernel_rfl, rfl⟩) hH1 ?_
          refine wpAnyH_take (i := 9) (v := undef) rfl (by kernel_rfl) (by kernel_rfl) (by kernel_rfl) (fun _ _ _ h => h) (Or.inr ⟨by kernel_rfl, rfl⟩) hH1 ?_
          refine wpAnyH_take (i := 10) (v := undef) rfl (by kernel_rfl) (by kernel_rfl) (by kernel_rfl) (fun _ _ _ h => h) (Or.inr ⟨by kernel_rfl, rfl⟩) hH1 ?_
          refine wpAnyH_take (i := 11) (v := undef) rfl (by kernel_rfl) (by kernel_rfl) (by kernel_rfl) (fun _ _ _ h => h) (Or.inr ⟨by kernel_rfl, rfl⟩) hH1 ?_
          refine wpAnyH_take (i := 12) (v := undef) rfl (by kernel_rfl) (by kernel_rfl) (by kernel_rfl) (fun _ _ _ h => h) (Or.inr ⟨by kernel_rfl, rfl⟩) hH1 ?_
          refine wpAnyH_take (i := 13) (v := undef) rfl (by kernel_rfl) (by kernel_rfl) (by kernel_rfl) (fun _ _ _ h => h) (Or.inr ⟨by kernel_rfl, rfl⟩) hH1 ?_
          refine wpAnyH_take (i := 14) (v := undef) rfl (by kernel_rfl) (by kernel_rfl) (by kernel_rfl) (fun _ _ _ h => h) (Or.inr ⟨by kernel_rfl, rfl⟩) hH1 ?_
          refine wpAnyH_take (i := 15) (v := undef) rfl (by kernel_rfl) (by kernel_rfl) (by kernel_rfl) (fun _ _ _ h => h) (Or.inr ⟨by kernel_rfl, rfl⟩) hH1 ?_
          refine wpAnyH_take (i := 16) (v := undef) rfl (by kernel_rfl) (by kernel_rfl) (by kernel_rfl) (fun _ _ _ h => h) (Or.inr ⟨by kernel_rfl, rfl⟩) hH1 ?_
          refine wpAnyH_take (i := 17) (v := undef) rfl (by kernel_rfl) (by kernel_rfl) (by kernel_rfl) (fun _ _ _ h => h) (Or.inr ⟨by kernel_rfl, rfl⟩) hH1 ?_
          refine wpAnyH_take (i := 18) (v := undef) rfl (by kernel_rfl) (by kernel_rfl) (by kernel_rfl) (fun _ _ _ h => h) (Or.inr ⟨by kernel_rfl, rfl⟩) hH1 ?_
          refine wpAnyH_take (i := 19) (v := undef) rfl (by kernel_rfl) (by kernel_rfl) (by kernel_rfl) (fun _ _ _ h => h) (Or.inr ⟨by kernel_rfl, rfl⟩) hH1 ?_
          refine wpAnyH_take (i := 20) (v := undef) rfl (by kernel_rfl) (by kernel_rfl) (by kernel_rfl) (fun _ _ _ h => h) (Or.inr ⟨by kernel_rfl, rfl⟩) hH1 ?_
          refine wpAnyH_take (i := 21) (v := undef) rfl (by kernel_rfl) (by kernel_rfl) (by kernel_rfl) (fun _ _ _ h => h) (Or.inr ⟨by kernel_rfl, rfl⟩) hH1 ?_
          refine wpAnyH_take (i := 22) (v := undef) rfl (by kernel_rfl) (by kernel_rfl) (by kernel_rfl) (fun _ _ _ h => h) (Or.inr ⟨by kernel_rfl, rfl⟩) hH1 ?_
          refine wpAnyH_take (i := 23) (v := (.bool true)) rfl (by kernel_rfl) (by kernel_rfl) (by kernel_rfl) (fun _ _ _ h => h) (Or.inl ⟨by kernel_rfl, ?_⟩) hH1 ?_
          · intro W hW
            go_simp
          refine wpAnyH_done (by kernel_rfl) ?_ _
          simp only [Act.put, List.setIfInBounds_toArray, List.set_cons_zero, List.set_cons_succ, List.getElem_toArray, List.getElem_cons_zero, List.getElem_cons_succ]
          go_wp2
          go_ret
          exact ⟨ret_bool HS.out.symm, hbw.trans (hH1.mono hbw.size)⟩
        · have HN : Hid (∀ q (h : q < xs.length), q < k + 1 → entB gone xs[q] = true) := fun q h hq => by
            by_cases e : q = k
            · subst e
              exact hent
            · exact HO.out.2 q h (by omega)
          cases k with
          | zero =>
            have HS : Hid (∀ q, q < 0 + 1 → riseAt xs q = true) := fun q hq => (by have : q = 0 := (by omega); subst this; rfl)
            have hc0 : wr.cell? ⟨b, off, none⟩ = some (.int .i64 xs[0].kind) := hcell 0 hlt 0 (by omega)
            have hc1 : wr.cell? ⟨b, off + 1, none⟩ = some (.int .i64 xs[0].key) := hcell 0 hlt 1 (by omega)
            have hc2 : wr.cell? ⟨b, off + 2, none⟩ = some (.int .i64 xs[0].id) := hcell 0 hlt 2 (by omega)
            clear hcell
            go_wp2
            refine wp_region_held_drew (S := (fun W => Below wr.heap.size wr W)) (by kernel_rfl) (Below.drew (Below.refl _ _)) (fun hHeld => ?_)
            refine wpAnyH_take (i := 0) (v := (.slice (some ⟨b, off, none⟩) xs.length cap)) rfl (by kernel_rfl) (by kernel_rfl) (by kernel_rfl) (fun _ _ _ h => h) (Or.inl ⟨by kernel_rfl, ?_⟩) hHeld ?_
            · intro W hW
              go_simp
            refine wpAnyH_take (i := 1) (v := (.int .i64 0)) rfl (by kernel_rfl) (by kernel_rfl) (by kernel_rfl) (fun _ _ _ h => h) (Or.inl ⟨by kernel_rfl, ?_⟩) hHeld ?_
            · intro W hW
              go_simp
            refine wpAnyH_take (i := 2) (v := (.pointer (some ⟨b, off, none⟩))) rfl (by kernel_rfl) (by kernel_rfl) (by kernel_rfl) (fun _ _ _ h => h) (Or.inl ⟨by kernel_rfl, ?_⟩) hHeld ?_
            · intro W hW
              go_simp
            refine wpAnyH_take (i := 3) (v := (.agg #[.int .i64 xs[0].kind, .int .i64 xs[0].key, .int .i64 xs[0].id])) rfl (by kernel_rfl) (by kernel_rfl) (by kernel_rfl) (fun _ _ _ h => h) (Or.inl ⟨by kernel_rfl, ?_⟩) hHeld ?_
            · intro W hW
              have f0 := (hW.cell (p := ⟨b, off, none⟩) hbb).trans hc0
              have f1 := (hW.cell (p := ⟨b, off + 1, none⟩) hbb).trans hc1
              have f2 := (hW.cell (p := ⟨b, off + 2, none⟩) hbb).trans hc2
              go_simp
            refine wpAnyH_take (i := 4) (v := (.bool gone)) rfl (by kernel_rfl) (by kernel_rfl) (by kernel_rfl) (fun _ _ _ h => h) (Or.inl ⟨by kernel_rfl, ?_⟩) hHeld ?_
            · intro W hW
              go_simp
            refine wpAnyH_ready (rs := [5]) (by kernel_rfl) (by simp) ?_
            refine AllReadyH.cons rfl (fun K hK => ?_) AllReadyH.nil
            go_simp
            refine (ent_spec gone xs[0] _).mono ?_
            rintro e w1 ⟨rfl, hb1⟩
            rw [hent]
            have hd1 : Below wr.heap.size wr w1 := hHeld.trans (hb1.mono hHeld.size)
            clear hb1
            refine hK.out _ _ hd1 (fun hH1 => ?_)
            clear hK K
            refine wpAnyH_take (i := 6) (v := (.bool false)) rfl (by kernel_rfl) (by kernel_rfl) (by kernel_rfl) (fun _ _ _ h => h) (Or.inl ⟨by kernel_rfl, ?_⟩) hH1 ?_
            · intro W hW
              go_simp
            refine wpAnyH_take (i := 7) (v := (.bool false)) rfl (by kernel_rfl) (by kernel_rfl) (by kernel_rfl) (fun _ _ _ h => h) (Or.inl ⟨by kernel_rfl, ?_⟩) hH1 ?_
            · intro W hW
              go_simp
            refine wpAnyH_take (i := 8) (v := (.int .i64 0)) rfl (by kernel_rfl) (by kernel_rfl) (by kernel_rfl) (fun _ _ _ h => h) (Or.inl ⟨by kernel_rfl, ?_⟩) hH1 ?_
            · intro W hW
              go_simp
            refine wpAnyH_take (i := 9) (v := (.bool false)) rfl (by kernel_rfl) (by kernel_rfl) (by kernel_rfl) (fun _ _ _ h => h) (Or.inl ⟨by kernel_rfl, ?_⟩) hH1 ?_
            · intro W hW
              go_simp
            refine wpAnyH_take (i := 10) (v := (.bool false)) rfl (by kernel_rfl) (by kernel_rfl) (by kernel_rfl) (fun _ _ _ h => h) (Or.inl ⟨by kernel_rfl, ?_⟩) hH1 ?_
            · intro W hW
              go_simp
            refine wpAnyH_take (i := 11) (v := undef) rfl (by kernel_rfl) (by kernel_rfl) (by kernel_rfl) (fun _ _ _ h => h) (Or.inr ⟨by kernel_rfl, rfl⟩) hH1 ?_
            refine wpAnyH_take (i := 12) (v := undef) rfl (by kernel_rfl) (by kernel_rfl) (by kernel_rfl) (fun _ _ _ h => h) (Or.inr ⟨by kernel_rfl, rfl⟩) hH1 ?_
            refine wpAnyH_take (i := 13) (v := undef) rfl (by kernel_rfl) (by kernel_rfl) (by kernel_rfl) (fun _ _ _ h => h) (Or.inr ⟨by kernel_rfl, rfl⟩) hH1 ?_
            refine wpAnyH_take (i := 14) (v := undef) rfl (by kernel_rfl) (by kernel_rfl) (by kernel_rfl) (fun _ _ _ h => h) (Or.inr ⟨by kernel_rfl, rfl⟩) hH1 ?_
            refine wpAnyH_take (i := 15) (v := undef) rfl (by kernel_rfl) (by kernel_rfl) (by kernel_rfl) (fun _ _ _ h => h) (Or.inr ⟨by kernel_rfl, rfl⟩) hH1 ?_
            refine wpAnyH_take (i := 16) (v := undef) rfl (by kernel_rfl) (by kernel_rfl) (by kernel_rfl) (fun _ _ _ h => h) (Or.inr ⟨by kernel_rfl, rfl⟩) hH1 ?_
            refine wpAnyH_take (i := 17) (v := undef) rfl (by kernel_rfl) (by kernel_rfl) (by kernel_rfl) (fun _ _ _ h => h) (Or.inr ⟨by kernel_rfl, rfl⟩) hH1 ?_
            refine wpAnyH_take (i := 18) (v := undef) rfl (by kernel_rfl) (by kernel_rfl) (by kernel_rfl) (fun _ _ _ h => h) (Or.inr ⟨by kernel_rfl, rfl⟩) hH1 ?_
            refine wpAnyH_take (i := 19) (v := undef) rfl (by kernel_rfl) (by kernel_rfl) (by kernel_rfl) (fun _ _ _ h => h) (Or.inr ⟨by kernel_rfl, rfl⟩) hH1 ?_
            refine wpAnyH_take (i := 20) (v := undef) rfl (by kernel_rfl) (by kernel_rfl) (by kernel_rfl) (fun _ _ _ h => h) (Or.inr ⟨by kernel_rfl, rfl⟩) hH1 ?_
            refine wpAnyH_take (i := 21) (v := undef) rfl (by kernel_rfl) (by kernel_rfl) (by kernel_rfl) (fun _ _ _ h => h) (Or.inr ⟨by kernel_rfl, rfl⟩) hH1 ?_
            refine wpAnyH_take (i := 22) (v := (.bool false)) rfl (by kernel_rfl) (by kernel_rfl) (by kernel_rfl) (fun _ _ _ h => h) (Or.inl ⟨by kernel_rfl, ?_⟩) hH1 ?_
            · intro W hW
              go_simp
            refine wpAnyH_take (i := 23) (v := (.bool false)) rfl (by kernel_rfl) (by kernel_rfl) (by kernel_rfl) (fun _ _ _ h => h) (Or.inl ⟨by kernel_rfl, ?_⟩) hH1 ?_
            · intro W hW
              go_simp
            refine wpAnyH_done (by kernel_rfl) ?_ _
            simp only [Act.put, List.setIfInBounds_toArray, List.set_cons_zero, List.set_cons_succ, List.getElem_toArray, List.getElem_cons_zero, List.getElem_cons_succ]
            go_wp2
            go_roundw
            case rel => exact ⟨1, by omega, by go_num, ⟨HS.out, HN.out⟩, hbw.trans (hH1.mono hbw.size)⟩
            case measure => simp [intOf]; omega
          | succ j =>
            have hg0 : wr.cell? ⟨b, off + j * 3, none⟩ = some (.int .i64 xs[j].kind) := by
              have := hcell j (by omega) 0 (by omega)
              exact this
            have hg1 : wr.cell? ⟨b, off + j * 3 + 1, none⟩ = some (.int .i64 xs[j].key) := by
              have := hcell j (by omega) 1 (by omega)
              rwa [← Nat.add_assoc] at this
            have hg2 : wr.cell? ⟨b, off + j * 3 + 2, none⟩ = some (.int .i64 xs[j].id) := by
              have := hcell j (by omega) 2 (by omega)
              rwa [← Nat.add_assoc] at this
            have hc0 : wr.cell? ⟨b, off + (j + 1) * 3, none⟩ = some (.int .i64 xs[j + 1].kind) := by
              have := hcell (j + 1) hlt 0 (by omega)
              exact this
            have hc1 : wr.cell? ⟨b, off + (j + 1) * 3 + 1, none⟩ = some (.int .i64 xs[j + 1].key) := by
              have := hcell (j + 1) hlt 1 (by omega)
              rwa [← Nat.add_assoc] at this
            have hc2 : wr.cell? ⟨b, off + (j + 1) * 3 + 2, none⟩ = some (.int .i64 xs[j + 1].id) := by
              have := hcell (j + 1) hlt 2 (by omega)
              rwa [← Nat.add_assoc] at this
            clear hcell
            cases hless : lessB xs[j] xs[j + 1]
            · have HS : Hid (rowE gone xs = false) := rowE_rise (riseB_no hlt (by rw [riseAt_succ hlt]; exact hless))
              go_wp2
              refine wp_region_held_drew (S := (fun W => Below wr.heap.size wr W)) (by kernel_rfl) (Below.drew (Below.refl _ _)) (fun hHeld => ?_)
              refine wpAnyH_take (i := 0) (v := (.slice (some ⟨b, off, none⟩) xs.length cap)) rfl (by kernel_rfl) (by kernel_rfl) (by kernel_rfl) (fun _ _ _ h => h) (Or.inl ⟨by kernel_rfl, ?_⟩) hHeld ?_
              · intro W hW
                go_simp
              refine wpAnyH_take (i := 1) (v := (.int .i64 (j + 1 : Nat))) rfl (by kernel_rfl) (by kernel_rfl) (by kernel_rfl) (fun _ _ _ h => h) (Or.inl ⟨by kernel_rfl, ?_⟩) hHeld ?_
              · intro W hW
                go_simp
              refine wpAnyH_take (i := 2) (v := (.pointer (some ⟨b, off + (j + 1) * 3, none⟩))) rfl (by kernel_rfl) (by kernel_rfl) (by kernel_rfl) (fun _ _ _ h => h) (Or.inl ⟨by kernel_rfl, ?_⟩) hHeld ?_
              · intro W hW
                go_simp
                intro hbad
                exact absurd hbad (by omega)
              refine wpAnyH_take (i := 3) (v := (.agg #[.int .i64 xs[j + 1].kind, .int .i64 xs[j + 1].key, .int .i64 xs[j + 1].id])) rfl (by kernel_rfl) (by kernel_rfl) (by kernel_rfl) (fun _ _ _ h => h) (Or.inl ⟨by kernel_rfl, ?_⟩) hHeld ?_
              · intro W hW
                have f0 := (hW.cell (p := ⟨b, off + (j + 1) * 3, none⟩) hbb).trans hc0
                have f1 := (hW.cell (p := ⟨b, off + (j + 1) * 3 + 1, none⟩) hbb).trans hc1
                have f2 := (hW.cell (p := ⟨b, off + (j + 1) * 3 + 2, none⟩) hbb).trans hc2
                go_simp
              refine wpAnyH_take (i := 4) (v := (.bool gone)) rfl (by kernel_rfl) (by kernel_rfl) (by kernel_rfl) (fun _ _ _ h => h) (Or.inl ⟨by kernel_rfl, ?_⟩) hHeld ?_
              · intro W hW
                go_simp
              refine wpAnyH_ready (rs := [5]) (by kernel_rfl) (by simp) ?_
              refine AllReadyH.cons rfl (fun K hK => ?_) AllReadyH.nil
              go_simp
              refine (ent_spec gone xs[j + 1] _).mono ?_
              rintro e w1 ⟨rfl, hb1⟩
              rw [hent]
              have hd1 : Below wr.heap.size wr w1 := hHeld.trans (hb1.mono hHeld.size)
              clear hb1
              refine hK.out _ _ hd1 (fun hH1 => ?_)
              clear hK K
              refine wpAnyH_take (i := 6) (v := (.bool false)) rfl (by kernel_rfl) (by kernel_rfl) (by kernel_rfl) (fun _ _ _ h => h) (Or.inl ⟨by kernel_rfl, ?_⟩) hH1 ?_
              · intro W hW
                go_simp
              refine wpAnyH_take (i := 7) (v := (.bool false)) rfl (by kernel_rfl) (by kernel_rfl) (by kernel_rfl) (fun _ _ _ h => h) (Or.inl ⟨by kernel_rfl, ?_⟩) hH1 ?_
              · intro W hW
                go_simp
              refine wpAnyH_take (i := 8) (v := (.int .i64 (j + 1 : Nat))) rfl (by kernel_rfl) (by kernel_rfl) (by kernel_rfl) (fun _ _ _ h => h) (Or.inl ⟨by kernel_rfl, ?_⟩) hH1 ?_
              · intro W hW
                go_simp
              refine wpAnyH_take (i := 9) (v := (.bool true)) rfl (by kernel_rfl) (by kernel_rfl) (by kernel_rfl) (fun _ _ _ h => h) (Or.inl ⟨by kernel_rfl, ?_⟩) hH1 ?_
              · intro W hW
                go_simp
              refine wpAnyH_take (i := 10) (v := (.bool true)) rfl (by kernel_rfl) (by kernel_rfl) (by kernel_rfl) (fun _ _ _ h => h) (Or.inl ⟨by kernel_rfl, ?_⟩) hH1 ?_
              · intro W hW
                go_simp
              refine wpAnyH_take (i := 11) (v := (.slice (some ⟨b, off, none⟩) xs.length cap)) rfl (by kernel_rfl) (by kernel_rfl) (by kernel_rfl) (fun _ _ _ h => h) (Or.inl ⟨by kernel_rfl, ?_⟩) hH1 ?_
              · intro W hW
                go_simp
              refine wpAnyH_take (i := 12) (v := (.int .i64 (j + 1 : Nat))) rfl (by kernel_rfl) (by kernel_rfl) (by kernel_rfl) (fun _ _ _ h => h) (Or.inl ⟨by kernel_rfl, ?_⟩) hH1 ?_
              · intro W hW
                go_simp
              refine wpAnyH_take (i := 13) (v := (.int .i64 (j : Nat))) rfl (by kernel_rfl) (by kernel_rfl) (by kernel_rfl) (fun _ _ _ h => h) (Or.inl ⟨by kernel_rfl, ?_⟩) hH1 ?_
              · intro W hW
                go_simp
                rw [IntKind.wrap_i64] <;> omega
              refine wpAnyH_take (i := 14) (v := (.pointer (some ⟨b, off + j * 3, none⟩))) rfl (by kernel_rfl) (by kernel_rfl) (by kernel_rfl) (fun _ _ _ h => h) (Or.inl ⟨by kernel_rfl, ?_⟩) hH1 ?_
              · intro W hW
                go_simp
                intro hbad
                exact absurd hbad (by omega)
              refine wpAnyH_take (i := 15) (v := (.agg #[.int .i64 xs[j].kind, .int .i64 xs[j].key, .int .i64 xs[j].id])) rfl (by kernel_rfl) (by kernel_rfl) (by kernel_rfl) (fun _ _ _ h => h) (Or.inl ⟨by kernel_rfl, ?_⟩) hH1 ?_
              · intro W hW
                have f0 := (hW.cell (p := ⟨b, off + j * 3, none⟩) hbb).trans hg0
                have f1 := (hW.cell (p := ⟨b, off + j * 3 + 1, none⟩) hbb).trans hg1
                have f2 := (hW.cell (p := ⟨b, off + j * 3 + 2, none⟩) hbb).trans hg2
                go_simp
              refine wpAnyH_take (i := 16) (v := (.slice (some ⟨b, off, none⟩) xs.length cap)) rfl (by kernel_rfl) (by kernel_rfl) (by kernel_rfl) (fun _ _ _ h => h) (Or.inl ⟨by kernel_rfl, ?_⟩) hH1 ?_
              · intro W hW
                go_simp
              refine wpAnyH_take (i := 17) (v := (.int .i64 (j + 1 : Nat))) rfl (by kernel_rfl) (by kernel_rfl) (by kernel_rfl) (fun _ _ _ h => h) (Or.inl ⟨by kernel_rfl, ?_⟩) hH1 ?_
              · intro W hW
                go_simp
              refine wpAnyH_take (i := 18) (v := (.pointer (some ⟨b, off + (j + 1) * 3, none⟩))) rfl (by kernel_rfl) (by kernel_rfl) (by kernel_rfl) (fun _ _ _ h => h) (Or.inl ⟨by kernel_rfl, ?_⟩) hH1 ?_
              · intro W hW
                go_simp
                intro hbad
                exact absurd hbad (by omega)
              refine wpAnyH_take (i := 19) (v := (.agg #[.int .i64 xs[j + 1].kind, .int .i64 xs[j + 1].key, .int .i64 xs[j + 1].id])) rfl (by kernel_rfl) (by kernel_rfl) (by kernel_rfl) (fun _ _ _ h => h) (Or.inl ⟨by kernel_rfl, ?_⟩) hH1 ?_
              · intro W hW
                have f0 := (hW.cell (p := ⟨b, off + (j + 1) * 3, none⟩) hbb).trans hc0
                have f1 := (hW.cell (p := ⟨b, off + (j + 1) * 3 + 1, none⟩) hbb).trans hc1
                have f2 := (hW.cell (p := ⟨b, off + (j + 1) * 3 + 2, none⟩) hbb).trans hc2
                go_simp
              refine wpAnyH_ready (rs := [20]) (by kernel_rfl) (by simp) ?_
              refine AllReadyH.cons rfl (fun K hK => ?_) AllReadyH.nil
              go_simp
              refine (less_spec xs[j] xs[j + 1] _).mono ?_
              rintro e w2 ⟨rfl, hb2⟩
              rw [hless]
              have hd2 : Below wr.heap.size wr w2 := hH1.trans (hb2.mono hH1.size)
              clear hb2
              refine hK.out _ _ hd2 (fun hH2 => ?_)
              clear hK K
              refine wpAnyH_take (i := 21) (v := (.bool true)) rfl (by kernel_rfl) (by kernel_rfl) (by kernel_rfl) (fun _ _ _ h => h) (Or.inl ⟨by kernel_rfl, ?_⟩) hH2 ?_
              · intro W hW
                go_simp
              refine wpAnyH_take (i := 22) (v := (.bool true)) rfl (by kernel_rfl) (by kernel_rfl) (by kernel_rfl) (fun _ _ _ h => h) (Or.inl ⟨by kernel_rfl, ?_⟩) hH2 ?_
              · intro W hW
                go_simp
              refine wpAnyH_take (i := 23) (v := (.bool true)) rfl (by kernel_rfl) (by kernel_rfl) (by kernel_rfl) (fun _ _ _ h => h) (Or.inl ⟨by kernel_rfl, ?_⟩) hH2 ?_
              · intro W hW
                go_simp
              refine wpAnyH_done (by kernel_rfl) ?_ _
              simp only [Act.put, List.setIfInBounds_toArray, List.set_cons_zero, List.set_cons_succ, List.getElem_toArray, List.getElem_cons_zero, List.getElem_cons_succ]
              go_wp2
              go_ret
              exact ⟨ret_bool HS.out.symm, hbw.trans (hH2.mono hbw.size)⟩
            · have HS : Hid (∀ q, q < j + 1 + 1 → riseAt xs q = true) := fun q hq => by
                by_cases e : q = j + 1
                · subst e
                  rw [riseAt_succ hlt]
                  exact hless
                · exact HO.out.1 q (by omega)
              go_wp2
              refine wp_region_held_drew (S := (fun W => Below wr.heap.size wr W)) (by kernel_rfl) (Below.drew (Below.refl _ _)) (fun hHeld => ?_)
              refine wpAnyH_take (i := 0) (v := (.slice (some ⟨b, off, none⟩) xs.length cap)) rfl (by kernel_rfl) (by kernel_rfl) (by kernel_rfl) (fun _ _ _ h => h) (Or.inl ⟨by kernel_rfl, ?_⟩) hHeld ?_
              · intro W hW
                go_simp
              refine wpAnyH_take (i := 1) (v := (.int .i64 (j + 1 : Nat))) rfl (by kernel_rfl) (by kernel_rfl) (by kernel_rfl) (fun _ _ _ h => h) (Or.inl ⟨by kernel_rfl, ?_⟩) hHeld ?_
              · intro W hW
                go_simp
              refine wpAnyH_take (i := 2) (v := (.pointer (some ⟨b, off + (j + 1) * 3, none⟩))) rfl (by kernel_rfl) (by kernel_rfl) (by kernel_rfl) (fun _ _ _ h => h) (Or.inl ⟨by kernel_rfl, ?_⟩) hHeld ?_
              · intro W hW
                go_simp
                intro hbad
                exact absurd hbad (by omega)
              refine wpAnyH_take (i := 3) (v := (.agg #[.int .i64 xs[j + 1].kind, .int .i64 xs[j + 1].key, .int .i64 xs[j + 1].id])) rfl (by kernel_rfl) (by kernel_rfl) (by kernel_rfl) (fun _ _ _ h => h) (Or.inl ⟨by kernel_rfl, ?_⟩) hHeld ?_
              · intro W hW
                have f0 := (hW.cell (p := ⟨b, off + (j + 1) * 3, none⟩) hbb).trans hc0
                have f1 := (hW.cell (p := ⟨b, off + (j + 1) * 3 + 1, none⟩) hbb).trans hc1
                have f2 := (hW.cell (p := ⟨b, off + (j + 1) * 3 + 2, none⟩) hbb).trans hc2
                go_simp
              refine wpAnyH_take (i := 4) (v := (.bool gone)) rfl (by kernel_rfl) (by kernel_rfl) (by kernel_rfl) (fun _ _ _ h => h) (Or.inl ⟨by kernel_rfl, ?_⟩) hHeld ?_
              · intro W hW
                go_simp
              refine wpAnyH_ready (rs := [5]) (by kernel_rfl) (by simp) ?_
              refine AllReadyH.cons rfl (fun K hK => ?_) AllReadyH.nil
              go_simp
              refine (ent_spec gone xs[j + 1] _).mono ?_
              rintro e w1 ⟨rfl, hb1⟩
              rw [hent]
              have hd1 : Below wr.heap.size wr w1 := hHeld.trans (hb1.mono hHeld.size)
              clear hb1
              refine hK.out _ _ hd1 (fun hH1 => ?_)
              clear hK K
              refine wpAnyH_take (i := 6) (v := (.bool false)) rfl (by kernel_rfl) (by kernel_rfl) (by kernel_rfl) (fun _ _ _ h => h) (Or.inl ⟨by kernel_rfl, ?_⟩) hH1 ?_
              · intro W hW
                go_simp
              refine wpAnyH_take (i := 7) (v := (.bool false)) rfl (by kernel_rfl) (by kernel_rfl) (by kernel_rfl) (fun _ _ _ h => h) (Or.inl ⟨by kernel_rfl, ?_⟩) hH1 ?_
              · intro W hW
                go_simp
              refine wpAnyH_take (i := 8) (v := (.int .i64 (j + 1 : Nat))) rfl (by kernel_rfl) (by kernel_rfl) (by kernel_rfl) (fun _ _ _ h => h) (Or.inl ⟨by kernel_rfl, ?_⟩) hH1 ?_
              · intro W hW
                go_simp
              refine wpAnyH_take (i := 9) (v := (.bool true)) rfl (by kernel_rfl) (by kernel_rfl) (by kernel_rfl) (fun _ _ _ h => h) (Or.inl ⟨by kernel_rfl, ?_⟩) hH1 ?_
              · intro W hW
                go_simp
              refine wpAnyH_take (i := 10) (v := (.bool true)) rfl (by kernel_rfl) (by kernel_rfl) (by kernel_rfl) (fun _ _ _ h => h) (Or.inl ⟨by kernel_rfl, ?_⟩) hH1 ?_
              · intro W hW
                go_simp
              refine wpAnyH_take (i := 11) (v := (.slice (some ⟨b, off, none⟩) xs.length cap)) rfl (by kernel_rfl) (by kernel_rfl) (by kernel_rfl) (fun _ _ _ h => h) (Or.inl ⟨by kernel_rfl, ?_⟩) hH1 ?_
              · intro W hW
                go_simp
              refine wpAnyH_take (i := 12) (v := (.int .i64 (j + 1 : Nat))) rfl (by kernel_rfl) (by kernel_rfl) (by kernel_rfl) (fun _ _ _ h => h) (Or.inl ⟨by kernel_rfl, ?_⟩) hH1 ?_
              · intro W hW
                go_simp
              refine wpAnyH_take (i := 13) (v := (.int .i64 (j : Nat))) rfl (by kernel_rfl) (by kernel_rfl) (by kernel_rfl) (fun _ _ _ h => h) (Or.inl ⟨by kernel_rfl, ?_⟩) hH1 ?_
              · intro W hW
                go_simp
                rw [IntKind.wrap_i64] <;> omega
              refine wpAnyH_take (i := 14) (v := (.pointer (some ⟨b, off + j * 3, none⟩))) rfl (by kernel_rfl) (by kernel_rfl) (by kernel_rfl) (fun _ _ _ h => h) (Or.inl ⟨by kernel_rfl, ?_⟩) hH1 ?_
              · intro W hW
                go_simp
                intro hbad
                exact absurd hbad (by omega)
              refine wpAnyH_take (i := 15) (v := (.agg #[.int .i64 xs[j].kind, .int .i64 xs[j].key, .int .i64 xs[j].id])) rfl (by kernel_rfl) (by kernel_rfl) (by kernel_rfl) (fun _ _ _ h => h) (Or.inl ⟨by kernel_rfl, ?_⟩) hH1 ?_
              · intro W hW
                have f0 := (hW.cell (p := ⟨b, off + j * 3, none⟩) hbb).trans hg0
                have f1 := (hW.cell (p := ⟨b, off + j * 3 + 1, none⟩) hbb).trans hg1
                have f2 := (hW.cell (p := ⟨b, off + j * 3 + 2, none⟩) hbb).trans hg2
                go_simp
              refine wpAnyH_take (i := 16) (v := (.slice (some ⟨b, off, none⟩) xs.length cap)) rfl (by kernel_rfl) (by kernel_rfl) (by kernel_rfl) (fun _ _ _ h => h) (Or.inl ⟨by kernel_rfl, ?_⟩) hH1 ?_
              · intro W hW
                go_simp
              refine wpAnyH_take (i := 17) (v := (.int .i64 (j + 1 : Nat))) rfl (by kernel_rfl) (by kernel_rfl) (by kernel_rfl) (fun _ _ _ h => h) (Or.inl ⟨by kernel_rfl, ?_⟩) hH1 ?_
              · intro W hW
                go_simp
              refine wpAnyH_take (i := 18) (v := (.pointer (some ⟨b, off + (j + 1) * 3, none⟩))) rfl (by kernel_rfl) (by kernel_rfl) (by kernel_rfl) (fun _ _ _ h => h) (Or.inl ⟨by kernel_rfl, ?_⟩) hH1 ?_
              · intro W hW
                go_simp
                intro hbad
                exact absurd hbad (by omega)
              refine wpAnyH_take (i := 19) (v := (.agg #[.int .i64 xs[j + 1].kind, .int .i64 xs[j + 1].key, .int .i64 xs[j + 1].id])) rfl (by kernel_rfl) (by kernel_rfl) (by kernel_rfl) (fun _ _ _ h => h) (Or.inl ⟨by kernel_rfl, ?_⟩) hH1 ?_
              · intro W hW
                have f0 := (hW.cell (p := ⟨b, off + (j + 1) * 3, none⟩) hbb).trans hc0
                have f1 := (hW.cell (p := ⟨b, off + (j + 1) * 3 + 1, none⟩) hbb).trans hc1
                have f2 := (hW.cell (p := ⟨b, off + (j + 1) * 3 + 2, none⟩) hbb).trans hc2
                go_simp
              refine wpAnyH_ready (rs := [20]) (by kernel_rfl) (by simp) ?_
              refine AllReadyH.cons rfl (fun K hK => ?_) AllReadyH.nil
              go_simp
              refine (less_spec xs[j] xs[j + 1] _).mono ?_
              rintro e w2 ⟨rfl, hb2⟩
              rw [hless]
              have hd2 : Below wr.heap.size wr w2 := hH1.trans (hb2.mono hH1.size)
              clear hb2
              refine hK.out _ _ hd2 (fun hH2 => ?_)
              clear hK K
              refine wpAnyH_take (i := 21) (v := (.bool false)) rfl (by kernel_rfl) (by kernel_rfl) (by kernel_rfl) (fun _ _ _ h => h) (Or.inl ⟨by kernel_rfl, ?_⟩) hH2 ?_
              · intro W hW
                go_simp
              refine wpAnyH_take (i := 22) (v := (.bool false)) rfl (by kernel_rfl) (by kernel_rfl) (by kernel_rfl) (fun _ _ _ h => h) (Or.inl ⟨by kernel_rfl, ?_⟩) hH2 ?_
              · intro W hW
                go_simp
              refine wpAnyH_take (i := 23) (v := (.bool false)) rfl (by kernel_rfl) (by kernel_rfl) (by kernel_rfl) (fun _ _ _ h => h) (Or.inl ⟨by kernel_rfl, ?_⟩) hH2 ?_
              · intro W hW
                go_simp
              refine wpAnyH_done (by kernel_rfl) ?_ _
              simp only [Act.put, List.setIfInBounds_toArray, List.set_cons_zero, List.set_cons_succ, List.getElem_toArray, List.getElem_cons_zero, List.getElem_cons_succ]
              go_wp2
              go_roundw
              case rel => exact ⟨j + 1 + 1, by omega, by go_num, ⟨HS.out, HN.out⟩, hbw.trans (hH2.mono hbw.size)⟩
              case measure => simp [intOf]; omega
      · have HS : Hid (rowE gone xs = true) := rowE_yes hbig (riseB_yes fun q hq => HO.out.1 q (by omega)) fun q hq => HO.out.2 q hq (by omega)
        go_wp2
        go_ret
        exact ⟨ret_bool HS.out.symm, hbw⟩
  · have bb : decide (400 < xs.length) = true := decide_eq_true (by omega)
    have HS : Hid (rowE gone xs = false) := rowE_big hbig
    go_enter Tryz.func97, Tryz.ntmps97
    go_wp2
    go_ret
    exact ⟨ret_bool HS.out.symm, Below.refl _ _⟩
end Go.Proofs.YteajcmkaoahbeaaGreatDoor
