/- StateDiff, of the specification and of the program. -/
import Derived.Test.YtjdkenopfnepaaaSuDifI
import Derived.Test.YtjdkenopfnepaaaSuSpec
namespace Go.Proofs.Ytjdkenopfnepaaa
open Go.RowKit

theorem fold_take {α : Type} {f : α → En → α} {a : α} {ds : List En} {k : Nat} (hk : k < ds.length) : (ds.take (k + 1)).foldl f a = f ((ds.take k).foldl f a) ds[k] := by
  rw [List.take_succ_eq_append_getElem hk, List.foldl_append]
  rfl
theorem putIf_yes {c : En → Bool} {v : En → Int} {out : List En} {x : En} (h : c x = true) : putIf c v out x = putE out ⟨x.kind, x.key, v x⟩ := if_pos h
theorem putIf_no {c : En → Bool} {v : En → Int} {out : List En} {x : En} (h : c x = false) : putIf c v out x = out := if_neg (by simp [h])
set_option maxHeartbeats 4000000 in
set_option maxRecDepth 100000 in
theorem diff_spec (xs ys : List En) (a d : Option Addr) (cap cd : Nat) (w : World) (h : EnsAt w a xs) (hd : EnsAt w d ys) (hl : xs.length + ys.length ≤ 800000) :
    Calls Try.prog 82 #[.slice a xs.length cap, .slice d ys.length cd] w fun e w' => ∃ v, e = .returned v ∧ EnsOwn w' w.heap.size v (difE xs ys) ∧ Below w.heap.size w w' := by
  have HA : Hid (∀ w', Below w.heap.size w w' → EnsAt w' a xs) := fun w' hb => h.kept hb
  have HDS : Hid (∀ w', Below w.heap.size w w' → EnsAt w' d ys) := fun w' hb => hd.kept hb
  have H0 : Hid (EnsOwn (w.alloc (.cells #[] 40)) w.heap.size (.slice (some ⟨w.heap.size, 0, none⟩) 0 0) [] ∧ Below w.heap.size w (w.alloc (.cells #[] 40))) := ⟨EnsOwn.made w (Nat.le_refl _), (Below.refl _ _).alloc (Nat.le_refl _) _⟩
  clear h hd
  go_enter Try.func82, Try.ntmps82
  go_wp2
  go_loopw [5, 6] (fun v i wr => ∃ (k : Nat) (V : Value), k ≤ ys.length ∧ i = .int .i64 k ∧ V = v ∧ Hid (EnsOwn wr w.heap.size V ((ys.take k).foldl (putIf (difC xs) (·.id)) []) ∧ Below w.heap.size w wr)) (fun _ i _ => ys.length - (intOf i).toNat)
  case atStart => exact ⟨0, _, Nat.zero_le _, rfl, rfl, H0⟩
  case round =>
    clear H0
    obtain ⟨k, V, hk, rfl, rfl, HI⟩ := hrel
    by_cases hlt : k < ys.length
    · obtain ⟨b, off, rfl, hbb, hcell⟩ := (HDS.out _ HI.out.2).row (by omega)
      have hc0 : wr.cell? ⟨b, off + k * 3, none⟩ = some (.int .i64 ys[k].kind) := hcell k hlt 0 (by omega)
      have hc1 : wr.cell? ⟨b, off + k * 3 + 1, none⟩ = some (.int .i64 ys[k].key) := by
        have := hcell k hlt 1 (by omega)
        rwa [← Nat.add_assoc] at this
      have hc2 : wr.cell? ⟨b, off + k * 3 + 2, none⟩ = some (.int .i64 ys[k].id) := by
        have := hcell k hlt 2 (by omega)
        rwa [← Nat.add_assoc] at this
      obtain ⟨l, HLT⟩ : ∃ l, Hid (l = (ys.take k).foldl (putIf (difC xs) (·.id)) []) := ⟨(ys.take k).foldl (putIf (difC xs) (·.id)) [], (rfl : (ys.take k).foldl (putIf (difC xs) (·.id)) [] = _)⟩
      have hll : l.length ≤ 800000 := by
        have := putIf_length (difC xs) (·.id) (ys.take k) []
        rw [← HLT.out, List.length_take] at this
        simp at this
        omega
      have HOL : Hid (EnsOwn wr w.heap.size V l) := by rw [HLT.out]; exact HI.out.1
      have HNX : Hid ((ys.take (k + 1)).foldl (putIf (difC xs) (·.id)) [] = putIf (difC xs) (·.id) l ys[k]) := by
        unfold Hid
        rw [fold_take hlt, HLT.out]
      obtain ⟨al, cl, rfl, -, hal, -⟩ := HOL.out.at (by omega)
      have HAL : Hid (∀ n, EnsAt (wr.drewN n) al l) := fun n => hal.kept (below_drewN' (Below.refl _ _) n)
      have HBW : Hid (∀ n, Below w.heap.size w (wr.drewN n)) := fun n => below_drewN' HI.out.2 n
      have HOD : Hid (∀ n, EnsOwn (wr.drewN n) w.heap.size (.slice al l.length cl) l) := fun n => HOL.out.kept (below_drewN' (Below.refl _ _) n)
      obtain ⟨s, HSV⟩ : ∃ s, Hid (s = stAt xs ys[k].kind ys[k].key) := ⟨stAt xs ys[k].kind ys[k].key, (rfl : stAt xs ys[k].kind ys[k].key = _)⟩
      have HAT := fun n => sat_spec xs ys[k].kind ys[k].key a cap (wr.drewN n) (HA.out _ (HBW.out n))
      rw [← HSV.out] at HAT
      clear hcell hal HI HOL
      cases hne : (s != ys[k].id)
      · have HCC : Hid (difC xs ys[k] = false) := by unfold Hid difC; rw [← HSV.out]; exact hne
        go_wp2
        go_quiet ((go_at_call 87; exact quiet_sym (HAT _)))
        go_wp2
        go_roundw
        case rel => exact ⟨k + 1, _, by omega, by go_num, rfl, by rw [HNX.out, putIf_no HCC.out]; exact ⟨HOD.out _, HBW.out _⟩⟩
        case measure => simp [intOf]; omega
      · have HCC : Hid (difC xs ys[k] = true) := by unfold Hid difC; rw [← HSV.out]; exact hne
        go_wp2
        go_quiet ((go_at_call 87; exact quiet_sym (HAT _)))
        go_wp2_with fail
        refine (put_spec l ys[k] al cl _ (HAL.out _) (by omega)).mono ?_
        rintro e w2 ⟨v2, rfl, ho2, hb2⟩
        have H2 : Hid (EnsOwn w2 w.heap.size v2 ((ys.take (k + 1)).foldl (putIf (difC xs) (·.id)) []) ∧ Below w.heap.size w w2) := ⟨by rw [HNX.out, putIf_yes HCC.out]; exact owns_baseC ho2 (HBW.out _).size, (HBW.out _).trans (hb2.mono (HBW.out _).size)⟩
        clear ho2 hb2 HAT
        go_wp2
        go_roundw
        case rel => exact ⟨k + 1, v2, by omega, by go_num, rfl, H2⟩
        case measure => simp [intOf]; omega
    · have H1 : Hid (EnsOwn wr w.heap.size V (ys.foldl (putIf (difC xs) (·.id)) []) ∧ Below w.heap.size w wr) := by
        have e : k = ys.length := by omega
        have h1 := HI.out
        rw [e, List.take_length] at h1
        exact h1
      have hV1 : ∃ V1, V1 = V := ⟨V, rfl⟩
      obtain ⟨w1, HW1⟩ : ∃ q, Hid (q = wr) := ⟨wr, (rfl : wr = _)⟩
      clear HI
      go_wp2
      go_loopw [5, 7] (fun v i wr => ∃ (k : Nat) (V : Value), k ≤ xs.length ∧ i = .int .i64 k ∧ V = v ∧ Hid (EnsOwn wr w.heap.size V ((xs.take k).foldl (putIf (difZ ys) (fun _ => 0)) (ys.foldl (putIf (difC xs) (·.id)) [])) ∧ Below w.heap.size w wr)) (fun _ i _ => xs.length - (intOf i).toNat)
      case atStart => exact ⟨0, _, Nat.zero_le _, rfl, rfl, H1⟩
      case round =>
        clear H1 hV1 HW1
        obtain ⟨k, V, hk, rfl, rfl, HI⟩ := hrel
        by_cases hlt : k < xs.length
        · obtain ⟨b, off, rfl, hbb, hcell⟩ := (HA.out _ HI.out.2).row (by omega)
          have hc0 : wr.cell? ⟨b, off + k * 3, none⟩ = some (.int .i64 xs[k].kind) := hcell k hlt 0 (by omega)
          have hc1 : wr.cell? ⟨b, off + k * 3 + 1, none⟩ = some (.int .i64 xs[k].key) := by
            have := hcell k hlt 1 (by omega)
            rwa [← Nat.add_assoc] at this
          have hc2 : wr.cell? ⟨b, off + k * 3 + 2, none⟩ = some (.int .i64 xs[k].id) := by
            have := hcell k hlt 2 (by omega)
            rwa [← Nat.add_assoc] at this
          obtain ⟨l, HLT⟩ : ∃ l, Hid (l = (xs.take k).foldl (putIf (difZ ys) (fun _ => 0)) (ys.foldl (putIf (difC xs) (·.id)) [])) := ⟨(xs.take k).foldl (putIf (difZ ys) (fun _ => 0)) (ys.foldl (putIf (difC xs) (·.id)) []), (rfl : (xs.take k).foldl (putIf (difZ ys) (fun _ => 0)) (ys.foldl (putIf (difC xs) (·.id)) []) = _)⟩
          have hll : l.length ≤ 800000 := by
            have h1 := putIf_length (difZ ys) (fun _ => 0) (xs.take k) (ys.foldl (putIf (difC xs) (·.id)) [])
            have h2 := putIf_length (difC xs) (·.id) ys []
            rw [← HLT.out, List.length_take] at h1
            simp at h2
            omega
          have HOL : Hid (EnsOwn wr w.heap.size V l) := by rw [HLT.out]; exact HI.out.1
          have HNX : Hid ((xs.take (k + 1)).foldl (putIf (difZ ys) (fun _ => 0)) (ys.foldl (putIf (difC xs) (·.id)) []) = putIf (difZ ys) (fun _ => 0) l xs[k]) := by
            unfold Hid
            rw [fold_take hlt, HLT.out]
          obtain ⟨al, cl, rfl, -, hal, -⟩ := HOL.out.at (by omega)
          have HAL : Hid (∀ n, EnsAt (wr.drewN n) al l) := fun n => hal.kept (below_drewN' (Below.refl _ _) n)
          have HBW : Hid (∀ n, Below w.heap.size w (wr.drewN n)) := fun n => below_drewN' HI.out.2 n
          have HOD : Hid (∀ n, EnsOwn (wr.drewN n) w.heap.size (.slice al l.length cl) l) := fun n => HOL.out.kept (below_drewN' (Below.refl _ _) n)
          obtain ⟨s, HSV⟩ : ∃ s, Hid (s = stAt ys xs[k].kind xs[k].key) := ⟨stAt ys xs[k].kind xs[k].key, (rfl : stAt ys xs[k].kind xs[k].key = _)⟩
          have HAT := fun n => sat_spec ys xs[k].kind xs[k].key d cd (wr.drewN n) (HDS.out _ (HBW.out n))
          rw [← HSV.out] at HAT
          clear hcell hal HI HOL
          cases hne : (s == 0)
          · have HCC : Hid (difZ ys xs[k] = false) := by unfold Hid difZ; rw [← HSV.out]; exact hne
            go_wp2
            go_quiet ((go_at_call 87; exact quiet_sym (HAT _)))
            go_wp2
            go_roundw
            case rel => exact ⟨k + 1, _, by omega, by go_num, rfl, by rw [HNX.out, putIf_no HCC.out]; exact ⟨HOD.out _, HBW.out _⟩⟩
            case measure => simp [intOf]; omega
          have HCC : Hid (difZ ys xs[k] = true) := by unfold Hid difZ; rw [← HSV.out]; exact hne
          obtain rfl : s = 0 := by simpa using hne
          clear hne
          go_wp2
          go_quiet ((go_at_call 87; exact quiet_sym (HAT _)))
          go_wp2
          obtain ⟨W9, HW9⟩ : ∃ W, Hid (W = wr.drewN nq) := ⟨wr.drewN nq, (rfl : wr.drewN nq = _)⟩
          have HAL9 : Hid (EnsAt W9 al l) := by rw [HW9.out]; exact HAL.out nq
          have HBW9 : Hid (Below w.heap.size w W9) := by rw [HW9.out]; exact HBW.out nq
          have hc0 : W9.cell? ⟨b, off + k * 3, none⟩ = some (.int .i64 xs[k].kind) := by rw [HW9.out]; exact hc0
          have hc1 : W9.cell? ⟨b, off + k * 3 + 1, none⟩ = some (.int .i64 xs[k].key) := by rw [HW9.out]; exact hc1
          have hbb : b < W9.heap.size := by rw [HW9.out]; exact hbb
          rw [← HW9.out]
          clear HAL HBW HOD HAT HW9 hc2
          refine wp_region_held_drew (S := (fun W => Below W9.heap.size W9 W)) (by kernel_rfl) (Below.drew (Below.refl _ _)) (fun hHeld => ?_)
          refine wpAnyH_take (i := 0) (v := (.slice al l.length cl)) rfl (by kernel_rfl) (by kernel_rfl) (by kernel_rfl) (fun _ _ _ h => h) (Or.inl ⟨by kernel_rfl, ?_⟩) hHeld ?_
          · intro W hW
            go_simp
          refine wpAnyH_take (i := 1) (v := (.slice (some ⟨b, off, none⟩) xs.length cap)) rfl (by kernel_rfl) (by kernel_rfl) (by kernel_rfl) (fun _ _ _ h => h) (Or.inl ⟨by kernel_rfl, ?_⟩) hHeld ?_
          · intro W hW
            go_simp
          refine wpAnyH_take (i := 2) (v := (.int .i64 k)) rfl (by kernel_rfl) (by kernel_rfl) (by kernel_rfl) (fun _ _ _ h => h) (Or.inl ⟨by kernel_rfl, ?_⟩) hHeld ?_
          · intro W hW
            go_simp
          refine wpAnyH_take (i := 3) (v := (.pointer (some ⟨b, off + k * 3, none⟩))) rfl (by kernel_rfl) (by kernel_rfl) (by kernel_rfl) (fun _ _ _ h => h) (Or.inl ⟨by kernel_rfl, ?_⟩) hHeld ?_
          · intro W hW
            go_simp
          refine wpAnyH_take (i := 4) (v := (.pointer (some ⟨b, off + k * 3, none⟩))) rfl (by kernel_rfl) (by kernel_rfl) (by kernel_rfl) (fun _ _ _ h => h) (Or.inl ⟨by kernel_rfl, ?_⟩) hHeld ?_
          · intro W hW
            go_simp
          refine wpAnyH_take (i := 5) (v := (.int .i64 xs[k].kind)) rfl (by kernel_rfl) (by kernel_rfl) (by kernel_rfl) (fun _ _ _ h => h) (Or.inl ⟨by kernel_rfl, ?_⟩) hHeld ?_
          · intro W hW
            have f0 := (hW.cell (p := ⟨b, off + k * 3, none⟩) hbb).trans hc0
            go_simp
          refine wpAnyH_take (i := 6) (v := (.slice (some ⟨b, off, none⟩) xs.length cap)) rfl (by kernel_rfl) (by kernel_rfl) (by kernel_rfl) (fun _ _ _ h => h) (Or.inl ⟨by kernel_rfl, ?_⟩) hHeld ?_
          · intro W hW
            go_simp
          refine wpAnyH_take (i := 7) (v := (.int .i64 k)) rfl (by kernel_rfl) (by kernel_rfl) (by kernel_rfl) (fun _ _ _ h => h) (Or.inl ⟨by kernel_rfl, ?_⟩) hHeld ?_
          · intro W hW
            go_simp
          refine wpAnyH_take (i := 8) (v := (.pointer (some ⟨b, off + k * 3, none⟩))) rfl (by kernel_rfl) (by kernel_rfl) (by kernel_rfl) (fun _ _ _ h => h) (Or.inl ⟨by kernel_rfl, ?_⟩) hHeld ?_
          · intro W hW
            go_simp
          refine wpAnyH_take (i := 9) (v := (.pointer (some ⟨b, off + k * 3 + 1, none⟩))) rfl (by kernel_rfl) (by kernel_rfl) (by kernel_rfl) (fun _ _ _ h => h) (Or.inl ⟨by kernel_rfl, ?_⟩) hHeld ?_
          · intro W hW
            go_simp
          refine wpAnyH_take (i := 10) (v := (.int .i64 xs[k].key)) rfl (by kernel_rfl) (by kernel_rfl) (by kernel_rfl) (fun _ _ _ h => h) (Or.inl ⟨by kernel_rfl, ?_⟩) hHeld ?_
          · intro W hW
            have f1 := (hW.cell (p := ⟨b, off + k * 3 + 1, none⟩) hbb).trans hc1
            go_simp
          refine wpAnyH_take (i := 11) (v := (.agg #[.int .i64 xs[k].kind, .int .i64 xs[k].key, .int .i64 0])) rfl (by kernel_rfl) (by kernel_rfl) (by kernel_rfl) (fun _ _ _ h => h) (Or.inl ⟨by kernel_rfl, ?_⟩) hHeld ?_
          · intro W hW
            go_simp
          refine wpAnyH_ready (rs := [12]) (by kernel_rfl) (by simp) ?_
          refine AllReadyH.cons rfl (fun K hK => ?_) AllReadyH.nil
          go_simp
          refine (put_spec l ⟨xs[k].kind, xs[k].key, 0⟩ al cl _ (HAL9.out.kept hHeld) (by omega)).mono ?_
          rintro e w2 ⟨v2, rfl, ho2, hb2⟩
          have hd2 : Below W9.heap.size W9 w2 := hHeld.trans (hb2.mono hHeld.size)
          have H2 : Hid (EnsOwn w2 w.heap.size v2 ((xs.take (k + 1)).foldl (putIf (difZ ys) (fun _ => 0)) (ys.foldl (putIf (difC xs) (·.id)) [])) ∧ Below w.heap.size w w2) := ⟨by rw [HNX.out, putIf_yes HCC.out]; exact owns_baseC ho2 (Nat.le_trans HBW9.out.size hHeld.size), HBW9.out.trans (hd2.mono HBW9.out.size)⟩
          clear ho2 hb2
          refine hK.out _ _ hd2 (fun hH2 => ?_)
          clear hK K
          refine wpAnyH_take (i := 13) (v := v2) rfl (by kernel_rfl) (by kernel_rfl) (by kernel_rfl) (fun _ _ _ h => h) (Or.inl ⟨by kernel_rfl, ?_⟩) hH2 ?_
          · intro W hW
            go_simp
          refine wpAnyH_done (by kernel_rfl) ?_ _
          simp only [Act.put, List.setIfInBounds_toArray, List.set_cons_zero, List.set_cons_succ, List.getElem_toArray, List.getElem_cons_zero, List.getElem_cons_succ]
          go_wp2
          go_roundw
          case rel => exact ⟨k + 1, v2, by omega, by go_num, rfl, H2⟩
          case measure => simp [intOf]; omega
        · have HF : Hid (EnsOwn wr w.heap.size V (difE xs ys)) := by
            have e : k = xs.length := by omega
            have h1 := HI.out.1
            rw [e, List.take_length] at h1
            exact h1
          go_wp2
          go_ret
          exact ⟨_, rfl, HF.out, HI.out.2⟩
end Go.Proofs.Ytjdkenopfnepaaa
