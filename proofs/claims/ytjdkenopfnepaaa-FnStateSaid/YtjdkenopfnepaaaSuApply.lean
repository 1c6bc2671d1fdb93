/- StateApply, of the specification and of the program. -/
import Derived.Test.YtjdkenopfnepaaaSuPut
namespace Go.Proofs.Ytjdkenopfnepaaa
open Go.RowKit

set_option maxHeartbeats 1000000 in
set_option maxRecDepth 100000 in
theorem canChange_impl (x : En) (w : World) : Calls Try.prog 84 #[.agg #[.int .i64 x.kind, .int .i64 x.key, .int .i64 x.id]] w fun e w' => e = .returned (.bool (entB true x)) ∧ Below w.heap.size w w' := by
  have HB : Hid (∀ o w', Below (w.alloc o).heap.size (w.alloc o) w' → Below w.heap.size w w') := fun o w' hb => ((Below.refl _ _).alloc (Nat.le_refl _) o).trans (hb.mono (by simp))
  cases h1 : slotB x
  · have HS : Hid (entB true x = false) := by unfold Hid entB; rw [h1]; rfl
    go_enter Try.func84, Try.ntmps84
    go_wp2_with (go_at_call 113; refine (slotRight_impl x _).mono ?_; rintro e w1 ⟨rfl, hb1⟩; rw [h1]; have HW : Hid (Below w.heap.size w w1) := HB.out _ _ hb1; clear hb1)
    go_ret
    exact ⟨ret_bool HS.out.symm, HW.out⟩
  · cases h2 : (x.id == 0)
    · have HS : Hid (entB true x = isB x.id 1 1000000) := by unfold Hid entB; rw [h1, h2]; simp
      go_enter Try.func84, Try.ntmps84
      go_wp2_with (first
        | (go_at_call 113; refine (slotRight_impl x _).mono ?_; rintro e w1 ⟨rfl, hb1⟩; rw [h1]; obtain ⟨hc1, hf1⟩ := bcell hb1; have HW : Hid (Below w.heap.size w w1) := HB.out _ _ hb1; clear hb1)
        | (go_at_call 109; refine (isId_impl _ _).mono ?_; rintro e w2 ⟨rfl, rfl⟩))
      go_ret
      exact ⟨ret_bool HS.out.symm, HW.out⟩
    · have HS : Hid (entB true x = true) := by unfold Hid entB; rw [h1, h2]; simp
      have hx0 : x.id = 0 := by simpa using h2
      have HSR : ∀ W, Calls Try.prog 113 #[.agg #[.int .i64 x.kind, .int .i64 x.key, .int .i64 0]] W fun e w' => e = .returned (.bool (slotB x)) ∧ Below W.heap.size W w' := fun W => by
        have := slotRight_impl x W
        rwa [hx0] at this
      go_enter Try.func84, Try.ntmps84
      go_wp2_with fail
      refine (HSR _).mono ?_
      rintro e w1 ⟨rfl, hb1⟩
      rw [h1]
      obtain ⟨hc1, hf1⟩ := bcell hb1
      have HW : Hid (Below w.heap.size w w1) := HB.out _ _ hb1
      clear hb1
      go_wp2
      go_ret
      exact ⟨ret_bool HS.out.symm, HW.out⟩
set_option maxHeartbeats 4000000 in
set_option maxRecDepth 100000 in
theorem entries_change (xs : List En) (a : Option Addr) (cap : Nat) (w : World) (h : EnsAt w a xs) :
    Calls Try.prog 83 #[.slice a xs.length cap, .func (.func 84) #[] #[]] w fun e w' => e = .returned (.bool (rowE true xs)) ∧ Below w.heap.size w w' := by
  have hl := h.len
  have H : Hid (EnsAt w a xs) := h
  clear h
  by_cases hbig : xs.length ≤ 400
  · have bb : decide (400 < xs.length) = false := decide_eq_false (by omega)
    cases hrise : riseB xs
    · have HS : Hid (rowE true xs = false) := rowE_rise hrise
      go_enter Try.func83, Try.ntmps83
      go_wp2_with (go_at_call 120; refine (rise_impl xs a cap _ H.out).mono ?_; rintro e w1 ⟨rfl, hb1⟩; rw [hrise])
      go_ret
      exact ⟨ret_bool HS.out.symm, hb1⟩
    · go_enter Try.func83, Try.ntmps83
      go_wp2_with (go_at_call 120; refine (rise_impl xs a cap _ H.out).mono ?_; rintro e w1 ⟨rfl, hb1⟩; rw [hrise]; have HB1 : Hid (Below w.heap.size w w1) := hb1; clear hb1)
      go_loopw [17] (fun i wr => ∃ k : Nat, k ≤ xs.length ∧ i = .int .i64 k ∧ Hid (∀ q (h : q < xs.length), q < k → entB true xs[q] = true) ∧ Below w.heap.size w wr) (fun i _ => xs.length - (intOf i).toNat)
      case atStart => exact ⟨0, Nat.zero_le _, rfl, fun _ _ h => absurd h (Nat.not_lt_zero _), HB1.out⟩
      case round =>
        clear HB1
        obtain ⟨k, hk, rfl, HO, hbw⟩ := hrel
        by_cases hlt : k < xs.length
        · have HE : Hid (EnsAt wr a xs) := H.out.kept hbw
          obtain ⟨b, off, rfl, hbb, hcell⟩ := HE.out.row (by omega)
          have hc0 : wr.cell? ⟨b, off + k * 3, none⟩ = some (.int .i64 xs[k].kind) := hcell k hlt 0 (by omega)
          have hc1 : wr.cell? ⟨b, off + k * 3 + 1, none⟩ = some (.int .i64 xs[k].key) := by
            have := hcell k hlt 1 (by omega)
            rwa [← Nat.add_assoc] at this
          have hc2 : wr.cell? ⟨b, off + k * 3 + 2, none⟩ = some (.int .i64 xs[k].id) := by
            have := hcell k hlt 2 (by omega)
            rwa [← Nat.add_assoc] at this
          have HA : Hid (∀ o, Below w.heap.size w (wr.alloc o)) := fun o => hbw.alloc hbw.size o
          clear hcell
          go_wp2_with fail
          refine (canChange_impl xs[k] _).mono ?_
          rintro e w2 ⟨rfl, hb2⟩
          have HW : Hid (Below w.heap.size w w2) := (HA.out _).trans (hb2.mono (HA.out _).size)
          clear hb2
          cases hent : entB true xs[k]
          · have HS : Hid (rowE true xs = false) := rowE_ent hlt hent
            go_wp2
            go_ret
            exact ⟨ret_bool HS.out.symm, HW.out⟩
          · have HN : Hid (∀ q (h : q < xs.length), q < k + 1 → entB true xs[q] = true) := fun q h hq => by
              by_cases e : q = k
              · subst e
                exact hent
              · exact HO.out q h (by omega)
            go_wp2
            go_roundw
            case rel => exact ⟨k + 1, by omega, by go_num, HN, HW.out⟩
            case measure => simp [intOf]; omega
        · have HS : Hid (rowE true xs = true) := rowE_yes hbig hrise fun q hq => HO.out q hq (by omega)
          go_wp2
          go_ret
          exact ⟨ret_bool HS.out.symm, hbw⟩
  · have bb : decide (400 < xs.length) = true := decide_eq_true (by omega)
    have HS : Hid (rowE true xs = false) := rowE_big hbig
    go_enter Try.func83, Try.ntmps83
    go_wp2
    go_ret
    exact ⟨ret_bool HS.out.symm, Below.refl _ _⟩
theorem chgE_length (xs : List En) (x : En) : (chgE xs x).length ≤ xs.length + 1 := by
  unfold chgE
  split
  · have := woS_length xs x
    omega
  · exact putE_length xs x
theorem chgs_length : ∀ (ds xs : List En), (ds.foldl chgE xs).length ≤ xs.length + ds.length
  | [], _ => Nat.le_refl _
  | d :: ds, xs => by
    have h1 := chgs_length ds (chgE xs d)
    have h2 := chgE_length xs d
    show (ds.foldl chgE (chgE xs d)).length ≤ xs.length + (ds.length + 1)
    omega
theorem chg_take {α : Type} {f : α → En → α} {a : α} {ds : List En} {k : Nat} (hk : k < ds.length) : (ds.take (k + 1)).foldl f a = f ((ds.take k).foldl f a) ds[k] := by
  rw [List.take_succ_eq_append_getElem hk, List.foldl_append]
  rfl
set_option maxHeartbeats 4000000 in
set_option maxRecDepth 100000 in
theorem apply_spec (xs ds : List En) (a d : Option Addr) (cap cd : Nat) (w : World) (h : EnsAt w a xs) (hd : EnsAt w d ds) (hl : xs.length + ds.length ≤ 800000) :
    Calls Try.prog 86 #[.slice a xs.length cap, .slice d ds.length cd] w fun e w' => ∃ v, e = .returned v ∧ EnsOwn w' w.heap.size v (ds.foldl chgE xs) ∧ Below w.heap.size w w' := by
  obtain ⟨i0, hi, hz0, hz1, hz2⟩ := info_parts Try.infoEn
  have HA : Hid (EnsAt (w.alloc (.cells #[] 40)) a xs) := h.kept ((Below.refl _ _).alloc (Nat.le_refl _) _)
  have HDS : Hid (∀ w', Below w.heap.size w w' → EnsAt w' d ds) := fun w' hb => hd.kept hb
  have HB0 : Hid (Below w.heap.size w (w.alloc (.cells #[] 40))) := (Below.refl _ _).alloc (Nat.le_refl _) _
  have HM0 : Hid (EnsOwn (w.alloc (.cells #[] 40)) w.heap.size (.slice (some ⟨w.heap.size, 0, none⟩) 0 0) []) := EnsOwn.made w (Nat.le_refl _)
  clear h hd
  go_enter Try.func86, Try.ntmps86
  go_wp2_with (at_builtin; refine wpList_append_ens rfl _ _ 38 rfl i0 _ Try.underlying38 hi hz0 hz1 hz2 rfl w.heap.size _ [] rfl HM0.out a cap xs HA.out rfl (by simp; omega) (by simp) ?_; intro v1 w1 hO1 hb1 _; have H1 : Hid (EnsOwn w1 w.heap.size v1 xs ∧ Below w.heap.size w w1) := ⟨by simpa using hO1, HB0.out.trans hb1⟩; clear hO1 hb1)
  go_loopw [5, 6] (fun v i wr => ∃ (k : Nat) (V : Value), k ≤ ds.length ∧ i = .int .i64 k ∧ V = v ∧ Hid (EnsOwn wr w.heap.size V ((ds.take k).foldl chgE xs) ∧ Below w.heap.size w wr)) (fun _ i _ => ds.length - (intOf i).toNat)
  case atStart => exact ⟨0, _, Nat.zero_le _, rfl, rfl, H1⟩
  case round =>
    clear H1 HA HM0 HB0
    obtain ⟨k, V, hk, rfl, rfl, HI⟩ := hrel
    by_cases hlt : k < ds.length
    · obtain ⟨b, off, rfl, hbb, hcell⟩ := (HDS.out _ HI.out.2).row (by omega)
      have hc0 : wr.cell? ⟨b, off + k * 3, none⟩ = some (.int .i64 ds[k].kind) := hcell k hlt 0 (by omega)
      have hc1 : wr.cell? ⟨b, off + k * 3 + 1, none⟩ = some (.int .i64 ds[k].key) := by
        have := hcell k hlt 1 (by omega)
        rwa [← Nat.add_assoc] at this
      have hc2 : wr.cell? ⟨b, off + k * 3 + 2, none⟩ = some (.int .i64 ds[k].id) := by
        have := hcell k hlt 2 (by omega)
        rwa [← Nat.add_assoc] at this
      obtain ⟨l, HLT⟩ : ∃ l, Hid (l = (ds.take k).foldl chgE xs) := ⟨(ds.take k).foldl chgE xs, (rfl : (ds.take k).foldl chgE xs = _)⟩
      have hll : l.length ≤ 800000 := by
        have := chgs_length (ds.take k) xs
        rw [← HLT.out, List.length_take] at this
        omega
      have HOL : Hid (EnsOwn wr w.heap.size V l) := by rw [HLT.out]; exact HI.out.1
      have HNX : Hid ((ds.take (k + 1)).foldl chgE xs = chgE l ds[k]) := by
        unfold Hid
        rw [chg_take hlt, HLT.out]
      obtain ⟨al, cl, rfl, -, hal, -⟩ := HOL.out.at (by omega)
      have HAL : Hid (EnsAt wr al l) := hal
      have HBW : Hid (Below w.heap.size w wr) := HI.out.2
      clear hcell hal HI HOL
      cases hid : (ds[k].id == 0)
      · have HCG : Hid (chgE l ds[k] = putE l ds[k]) := if_neg (by simpa using hid)
        go_wp2_with fail
        refine (put_spec l ds[k] al cl wr HAL.out (by omega)).mono ?_
        rintro e w2 ⟨v2, rfl, ho2, hb2⟩
        have H2 : Hid (EnsOwn w2 w.heap.size v2 ((ds.take (k + 1)).foldl chgE xs) ∧ Below w.heap.size w w2) := ⟨by rw [HNX.out, HCG.out]; exact owns_baseC ho2 HBW.out.size, HBW.out.trans (hb2.mono HBW.out.size)⟩
        clear ho2 hb2
        go_wp2
        go_roundw
        case rel => exact ⟨k + 1, v2, by omega, by go_num, rfl, H2⟩
        case measure => simp [intOf]; omega
      · have hx0 : ds[k].id = 0 := by simpa using hid
        have HCG : Hid (chgE l ds[k] = woS l ds[k]) := if_pos hx0
        rw [hx0] at hc2
        have HWS := without_spec l ds[k] al cl wr HAL.out (by omega)
        rw [hx0] at HWS
        go_wp2_with fail
        refine HWS.mono ?_
        rintro e w2 ⟨v2, rfl, ho2, -, hb2⟩
        have H2 : Hid (EnsOwn w2 w.heap.size v2 ((ds.take (k + 1)).foldl chgE xs) ∧ Below w.heap.size w w2) := ⟨by rw [HNX.out, HCG.out]; exact owns_baseC ho2 HBW.out.size, HBW.out.trans (hb2.mono HBW.out.size)⟩
        clear ho2 hb2 HWS
        go_wp2
        go_roundw
        case rel => exact ⟨k + 1, v2, by omega, by go_num, rfl, H2⟩
        case measure => simp [intOf]; omega
    · have HF : Hid (EnsOwn wr w.heap.size V (ds.foldl chgE xs)) := by
        have e : k = ds.length := by omega
        have h1 := HI.out.1
        rw [e, List.take_length] at h1
        exact h1
      go_wp2
      go_ret
      exact ⟨_, rfl, HF.out, HI.out.2⟩
end Go.Proofs.Ytjdkenopfnepaaa
