/- The contracts of l02Prev and prevRight: whether what an event stands behind may be so. -/
import Derived.Test.YtdldblfopcbfeaaGreatDoorZEvOpen
import Derived.WalkSmall
namespace Go.Proofs.YtdldblfopcbfeaaGreatDoor
open Go.RowKit

/-- The number ahead of place k. -/
def lastAt (zs : List Int) (k : Nat) : Int := if k = 0 then 0 else zs.getD (k - 1) 0
theorem lastAt_next {zs : List Int} {k : Nat} (h : k < zs.length) : lastAt zs (k + 1) = zs[k] := by simp [lastAt, h]

set_option maxHeartbeats 1000000 in
theorem prev_spec (zs : List Int) (a : Option Addr) (cap : Nat) (id : Int) (w : World) (hn : NumsAt w a zs) :
    Calls Tryz.prog 40 #[.slice a zs.length cap, .int .i64 id] w fun e w' => e = .returned (.bool (decide (zs.length ≤ 4) && prevOk id 0 zs)) ∧ Below w.heap.size w w' := by
  have hl := hn.1
  have HN : Hid (NumsAt w a zs) := hn
  clear hn
  by_cases h4 : zs.length ≤ 4
  · have HE : Hid ((decide (zs.length ≤ 4) && prevOk id 0 zs) = prevOk id 0 zs) := by unfold Hid; simp [h4]
    go_enter Tryz.func40, Tryz.ntmps40
    go_wp2
    go_loopw [5] (fun i wr => ∃ k : Nat, k ≤ zs.length ∧ i = .int .i64 k ∧ Hid (prevOk id 0 zs = prevOk id (lastAt zs k) (zs.drop k)) ∧ Below w.heap.size w wr) (fun i _ => zs.length - (intOf i).toNat)
    case atStart => exact ⟨0, Nat.zero_le _, rfl, rfl, Below.refl _ _⟩
    case round =>
      obtain ⟨k, hk, rfl, HP, hbw⟩ := hrel
      by_cases hlt : k < zs.length
      · obtain ⟨b, off, rfl, hbb, hcell⟩ := HN.out.2 (by omega)
        have hck : wr.cell? ⟨b, off + k, none⟩ = some (.int .i64 zs[k]) := (hbw.cell (p := ⟨b, off + k, none⟩) hbb).trans (hcell k hlt)
        have HS : Hid (prevOk id 0 zs = (decide (lastAt zs k < zs[k]) && isB zs[k] 1 1000000 && !(zs[k] == id) && prevOk id zs[k] (zs.drop (k + 1)))) := HP.out.trans (prevOk_drop hlt)
        have HL : Hid (lastAt zs (k + 1) = zs[k]) := lastAt_next hlt
        have HQ : Hid (∀ n, Below w.heap.size w (wr.drewN n)) := fun n => below_drewN hbw n
        cases h1 : isB zs[k] 1 1000000
        · go_wp2
          go_quiet ((go_at_call 37; exact quiet_sym (id_spec _ _)))
          go_wp2
          go_ret
          exact ⟨ret_bool (by rw [HE.out, HS.out, h1]; simp), HQ.out _⟩
        cases h2 : zs[k] == id
        · rcases k with _ | m
          · have hc0 : wr.cell? ⟨b, off, none⟩ = some (.int .i64 zs[0]) := hck
            clear hck
            go_wp2
            go_quiet ((go_at_call 37; exact quiet_sym (id_spec _ _)))
            go_wp2
            go_roundw
            case rel => exact ⟨1, by omega, rfl, (by unfold Hid; rw [HS.out, h1, h2, HL.out]; have := (isB_yes h1).1; simp [lastAt]; intro _; omega), HQ.out _⟩
            case measure => simp [intOf]; omega
          · have hcm : wr.cell? ⟨b, off + m, none⟩ = some (.int .i64 zs[m]) := (hbw.cell (p := ⟨b, off + m, none⟩) hbb).trans (hcell m (by omega))
            have HM : Hid (lastAt zs (m + 1) = zs[m]) := lastAt_next (by omega)
            cases h3 : decide (zs[m + 1] ≤ zs[m])
            · go_wp2
              go_quiet ((go_at_call 37; exact quiet_sym (id_spec _ _)))
              go_wp2
              go_roundw
              case rel => exact ⟨m + 2, by omega, by go_num, (by unfold Hid; rw [HS.out, h1, h2, HL.out, HM.out]; have := of_decide_eq_false h3; simp; intro _; omega), HQ.out _⟩
              case measure => simp [intOf]; omega
            · go_wp2
              go_quiet ((go_at_call 37; exact quiet_sym (id_spec _ _)))
              go_wp2
              go_ret
              exact ⟨ret_bool (by rw [HE.out, HS.out, HM.out]; have := of_decide_eq_true h3; simp; omega), HQ.out _⟩
        · go_wp2
          go_quiet ((go_at_call 37; exact quiet_sym (id_spec _ _)))
          go_wp2
          go_ret
          exact ⟨ret_bool (by rw [HE.out, HS.out, h2]; simp), HQ.out _⟩
      · have HX : Hid (prevOk id 0 zs = true) := by unfold Hid; rw [HP.out, List.drop_eq_nil_of_le (by omega)]; rfl
        go_wp2
        go_ret
        exact ⟨ret_bool (by rw [HE.out, HX.out]), hbw⟩
  · go_enter Tryz.func40, Tryz.ntmps40
    go_wp2
    go_ret
    exact ⟨ret_bool (by simp [h4]), Below.refl _ _⟩

set_option maxHeartbeats 1000000 in
theorem prev_impl_same (v : Ev) (a : Option Addr) (cap : Nat) (w : World) (hn : NumsAt w a v.prev) (c : Bool) (h1 : (v.kind == 1) = c) (h0 : ((v.prev.length : Int) == 0) = c) :
    Calls Tryz.prog 52 #[.agg #[.int .i64 v.id, .int .i64 v.room, .int .i64 v.author, .int .i64 v.kind, .int .i64 v.key, .int .i64 v.n, .string v.text, .slice a v.prev.length cap, .int .i64 v.time]] w fun e w' => e = .returned (.bool (decide (v.prev.length ≤ 4) && prevOk v.id 0 v.prev)) ∧ Below w.heap.size w w' := by
  have hl := hn.1
  have HN : Hid (NumsAt w a v.prev) := hn
  clear hn
  by_cases h4 : v.prev.length ≤ 4
  · have HE : Hid ((decide (v.prev.length ≤ 4) && prevOk v.id 0 v.prev) = prevOk v.id 0 v.prev) := by unfold Hid; simp [h4]
    have b4 : decide (4 < (v.prev.length : Int)) = false := by simp; omega
    go_enter Tryz.func52, Tryz.ntmps52
    go_wp2
    go_loop [4, 25] (fun l i => ∃ k : Nat, k ≤ v.prev.length ∧ i = .int .i64 k ∧ l = .int .i64 (lastAt v.prev k) ∧ Hid (prevOk v.id 0 v.prev = prevOk v.id (lastAt v.prev k) (v.prev.drop k))) (fun _ i => v.prev.length - (intOf i).toNat)
    case atStart => exact ⟨0, Nat.zero_le _, rfl, rfl, rfl⟩
    case round =>
      obtain ⟨k, hk, rfl, rfl, HP⟩ := hrel
      by_cases hlt : k < v.prev.length
      · obtain ⟨b, off, rfl, hbb, hcell⟩ := HN.out.2 (by omega)
        have hck := hcell k hlt
        have HS : Hid (prevOk v.id 0 v.prev = (decide (lastAt v.prev k < v.prev[k]) && isB v.prev[k] 1 1000000 && !(v.prev[k] == v.id) && prevOk v.id v.prev[k] (v.prev.drop (k + 1)))) := HP.out.trans (prevOk_drop hlt)
        have HL : Hid (lastAt v.prev (k + 1) = v.prev[k]) := lastAt_next hlt
        clear hcell
        cases h3 : decide (v.prev[k] ≤ lastAt v.prev k)
        · cases h5 : isB v.prev[k] 1 1000000
          · go_wp2_with (go_at_call 66; refine (id_impl _ _).mono ?_; rintro e w' ⟨rfl, rfl⟩)
            go_ret
            exact ⟨ret_bool (by rw [HE.out, HS.out, h5]; simp), (Below.refl _ _).alloc (Nat.le_refl _) _⟩
          · cases h2 : v.prev[k] == v.id
            · go_wp2_with (go_at_call 66; refine (id_impl _ _).mono ?_; rintro e w' ⟨rfl, rfl⟩)
              go_round
              case rel => exact ⟨k + 1, by omega, by go_num, by rw [HL.out], (by unfold Hid; rw [HS.out, h5, h2, HL.out]; have := of_decide_eq_false h3; simp; intro _; omega)⟩
              case measure => simp [intOf]; omega
            · go_wp2_with (go_at_call 66; refine (id_impl _ _).mono ?_; rintro e w' ⟨rfl, rfl⟩)
              go_ret
              exact ⟨ret_bool (by rw [HE.out, HS.out, h2]; simp), (Below.refl _ _).alloc (Nat.le_refl _) _⟩
        · go_wp2
          go_ret
          exact ⟨ret_bool (by (first | rw [HE.out, HS.out] | rw [HS.out]); have := of_decide_eq_true h3; simp; omega), (Below.refl _ _).alloc (Nat.le_refl _) _⟩
      · have HX : Hid (prevOk v.id 0 v.prev = true) := by unfold Hid; rw [HP.out, List.drop_eq_nil_of_le (by omega)]; rfl
        go_wp2
        go_ret
        exact ⟨ret_bool (by first | rw [HE.out, HX.out] | rw [HX.out]), (Below.refl _ _).alloc (Nat.le_refl _) _⟩
  · have b4 : decide (4 < (v.prev.length : Int)) = true := by simp; omega
    go_enter Tryz.func52, Tryz.ntmps52
    go_wp2
    go_ret
    exact ⟨ret_bool (by simp [h4]), (Below.refl _ _).alloc (Nat.le_refl _) _⟩

set_option maxHeartbeats 1000000 in
theorem prev_impl (v : Ev) (a : Option Addr) (cap : Nat) (w : World) (hn : NumsAt w a v.prev) :
    Calls Tryz.prog 52 #[.agg #[.int .i64 v.id, .int .i64 v.room, .int .i64 v.author, .int .i64 v.kind, .int .i64 v.key, .int .i64 v.n, .string v.text, .slice a v.prev.length cap, .int .i64 v.time]] w fun e w' => e = .returned (.bool (prevB v)) ∧ Below w.heap.size w w' := by
  have hl := hn.1
  have HN : Hid (NumsAt w a v.prev) := hn
  have HE : Hid (prevB v = (decide (v.prev.length ≤ 4) && ((v.kind == 1) == (v.prev.length == 0)) && prevOk v.id 0 v.prev)) := rfl
  have hi : ((v.prev.length : Int) == 0) = (v.prev.length == 0) := by rw [Bool.eq_iff_iff]; simp
  clear hn
  cases h1 : v.kind == 1
  all_goals cases h0 : v.prev.length == 0
  all_goals rw [h0] at hi
  · rw [show prevB v = (decide (v.prev.length ≤ 4) && prevOk v.id 0 v.prev) by rw [HE.out, h1, h0]; simp]
    exact prev_impl_same v a cap w HN.out false h1 hi
  · have HX : Hid (prevB v = false) := by unfold Hid; rw [HE.out, h1, h0]; simp
    clear h0
    go_enter Tryz.func52, Tryz.ntmps52
    go_wp2
    go_ret
    exact ⟨ret_bool HX.out.symm, (Below.refl _ _).alloc (Nat.le_refl _) _⟩
  · have HX : Hid (prevB v = false) := by unfold Hid; rw [HE.out, h1, h0]; simp
    clear h0
    go_enter Tryz.func52, Tryz.ntmps52
    go_wp2
    go_ret
    exact ⟨ret_bool HX.out.symm, (Below.refl _ _).alloc (Nat.le_refl _) _⟩
  · rw [show prevB v = (decide (v.prev.length ≤ 4) && prevOk v.id 0 v.prev) by rw [HE.out, h1, h0]; simp]
    exact prev_impl_same v a cap w HN.out true h1 hi
end Go.Proofs.YtdldblfopcbfeaaGreatDoor
