/- Entries: right ones, which is less; what the specification and the program tell of one, and of two. -/
import Derived.Test.YtdldblfopcbfeaaGreatDoorZEvOpen
import Derived.WalkSmall
import Derived.Deep.RegionHeld3
namespace Go.Proofs.YtdldblfopcbfeaaGreatDoor
open Go.RowKit

/-- An Entry. -/
structure En where
  kind : Int
  key : Int
  id : Int
def enCells (x : En) : List Value := [.int .i64 x.kind, .int .i64 x.key, .int .i64 x.id]
def slotB (x : En) : Bool := isB x.kind 1 6 && isB x.key 0 6
def entB (gone : Bool) (x : En) : Bool := slotB x && (isB x.id 1 1000000 || (gone && (x.id == 0)))
def lessB (x y : En) : Bool := decide (x.kind < y.kind) || ((x.kind == y.kind) && decide (x.key < y.key))
/-- Three ways. -/
def cmpI (x y : Int) : Int := if x < y then -1 else if y < x then 1 else 0
def cmpS (x y : En) : Int := if cmpI x.kind y.kind = 0 then cmpI x.key y.key else cmpI x.kind y.kind
theorem cmpI_cases (x y : Int) : (x < y ∧ cmpI x y = -1) ∨ (y < x ∧ cmpI x y = 1) ∨ (x = y ∧ cmpI x y = 0) := by
  unfold cmpI
  by_cases h : x < y
  · exact .inl ⟨h, if_pos h⟩
  · by_cases h2 : y < x
    · exact .inr (.inl ⟨h2, by rw [if_neg h, if_pos h2]⟩)
    · exact .inr (.inr ⟨by omega, by rw [if_neg h, if_neg h2]⟩)
theorem cmpI_bound (x y : Int) : -1 ≤ cmpI x y ∧ cmpI x y ≤ 1 := by
  rcases cmpI_cases x y with ⟨_, h⟩ | ⟨_, h⟩ | ⟨_, h⟩ <;> omega
theorem cmpS_less (x y : En) : decide (0 ≤ cmpS x y) = !lessB x y := by
  unfold cmpS lessB
  rcases cmpI_cases x.kind y.kind with ⟨h1, h⟩ | ⟨h1, h⟩ | ⟨h1, h⟩
  · rw [h, if_neg (by decide), decide_eq_true h1]
    rfl
  · have e1 : (x.kind == y.kind) = false := by simp; omega
    rw [h, if_neg (by decide), decide_eq_false (show ¬ x.kind < y.kind by omega), e1]
    rfl
  · have e1 : (x.kind == y.kind) = true := by simp [h1]
    rw [h, if_pos rfl, decide_eq_false (show ¬ x.kind < y.kind by omega), e1]
    rcases cmpI_cases x.key y.key with ⟨h2, h3⟩ | ⟨h2, h3⟩ | ⟨h2, h3⟩
    · rw [h3, decide_eq_true h2]; rfl
    · rw [h3, decide_eq_false (show ¬ x.key < y.key by omega)]; rfl
    · rw [h3, decide_eq_false (show ¬ x.key < y.key by omega)]; rfl
theorem cmpS_bound (x y : En) : -1 ≤ cmpS x y ∧ cmpS x y ≤ 1 := by
  unfold cmpS
  split <;> exact cmpI_bound _ _
set_option maxHeartbeats 1000000 in
set_option maxRecDepth 100000 in
theorem compare_impl (x y : Int) (w : World) : Calls Tryz.prog 102 #[.int .i64 x, .int .i64 y] w fun e w' => e = .returned (.int .i64 (cmpI x y)) ∧ w = w' := by
  rcases cmpI_cases x y with ⟨h1, h⟩ | ⟨h1, h⟩ | ⟨h1, h⟩
  · have HS : Hid (cmpI x y = -1) := h
    clear h
    go_enter Tryz.func102, Tryz.ntmps102
    go_wp2
    go_ret
    exact ⟨ret_int HS.out.symm, rfl⟩
  · have HS : Hid (cmpI x y = 1) := h
    have hb : decide (x < y) = false := decide_eq_false (by omega)
    clear h
    go_enter Tryz.func102, Tryz.ntmps102
    go_wp2
    go_ret
    exact ⟨ret_int HS.out.symm, rfl⟩
  · have HS : Hid (cmpI x y = 0) := h
    subst h1
    clear h
    go_enter Tryz.func102, Tryz.ntmps102
    go_wp2
    go_ret
    exact ⟨ret_int HS.out.symm, rfl⟩
set_option maxHeartbeats 1000000 in
set_option maxRecDepth 100000 in
theorem or_impl (c d : Int) (b : Nat) (w : World) (h0 : w.cell? ⟨b, 0, none⟩ = some (.int .i64 c)) (h1 : w.cell? ⟨b, 1, none⟩ = some (.int .i64 d)) :
    Calls Tryz.prog 101 #[.slice (some ⟨b, 0, none⟩) 2 2] w fun e w' => e = .returned (.int .i64 (if c = 0 then d else c)) ∧ w = w' := by
  obtain ⟨r, HR⟩ : ∃ r, Hid (r = if c = 0 then d else c) := ⟨if c = 0 then d else c, (rfl : (if c = 0 then d else c) = _)⟩
  rw [← HR.out]
  go_enter Tryz.func101, Tryz.ntmps101
  go_wp2
  go_loop [8] (fun i => ∃ k : Nat, k ≤ 2 ∧ i = .int .i64 k ∧ Hid ((0 < k → c = 0) ∧ (1 < k → d = 0))) (fun i => 2 - (intOf i).toNat)
  case atStart => exact ⟨0, Nat.zero_le _, rfl, fun h => absurd h (Nat.lt_irrefl 0), fun h => absurd h (by decide)⟩
  case round =>
    obtain ⟨k, hk, rfl, HK⟩ := hrel
    match k, hk with
    | 0, _ =>
      by_cases hc : c = 0
      · subst hc
        go_wp2
        exact ⟨⟨1, by omega, by go_num, by simp [Hid]⟩, by simp [intOf]⟩
      · have HS : Hid (r = c) := by rw [HR.out, if_neg hc]; rfl
        have hb : (c == 0) = false := by simpa using hc
        have hb2 : (c != 0) = true := by simpa using hc
        clear hc
        go_wp2
        go_ret
        exact ⟨ret_int HS.out.symm, rfl⟩
    | 1, _ =>
      have hc0 : c = 0 := HK.out.1 (by omega)
      by_cases hd : d = 0
      · have HN : Hid ((0 < 2 → c = 0) ∧ (1 < 2 → d = 0)) := ⟨fun _ => hc0, fun _ => hd⟩
        subst hd
        go_wp2
        exact ⟨⟨2, by omega, by go_num, by have := HN.out; simpa [Hid] using this⟩, by simp [intOf]⟩
      · have HS : Hid (r = d) := by rw [HR.out, if_pos hc0]; rfl
        have hb : (d == 0) = false := by simpa using hd
        have hb2 : (d != 0) = true := by simpa using hd
        clear hd
        go_wp2
        go_ret
        exact ⟨ret_int HS.out.symm, rfl⟩
    | 2, _ =>
      have HS : Hid (r = 0) := by rw [HR.out, if_pos (HK.out.1 (by omega)), HK.out.2 (by omega)]; rfl
      go_wp2
      go_ret
      exact ⟨ret_int HS.out.symm, rfl⟩
set_option maxHeartbeats 2000000 in
set_option maxRecDepth 100000 in
theorem slots_impl (x y : En) (w : World) : Calls Tryz.prog 96 #[.agg #[.int .i64 x.kind, .int .i64 x.key], .agg #[.int .i64 y.kind, .int .i64 y.key]] w fun e w' => e = .returned (.int .i64 (cmpS x y)) ∧ Below w.heap.size w w' := by
  have HB : Hid (∀ o1 o2 o3, Below w.heap.size w ((((w.alloc o1).alloc o2).drew).alloc o3)) := fun o1 o2 o3 => ((((Below.refl _ _).alloc (Nat.le_refl _) _).alloc (by simp) _).drew).alloc (by simp; omega) _
  have HS : Hid ((if cmpI x.kind y.kind = 0 then cmpI x.key y.key else cmpI x.kind y.kind) = cmpS x y) := rfl
  go_enter Tryz.func96, Tryz.ntmps96
  go_wp2
  go_region_held3 (fun W => W.cell? ⟨w.heap.size, 0, none⟩ = some (.int .i64 x.kind) ∧ W.cell? ⟨w.heap.size, 1, none⟩ = some (.int .i64 x.key) ∧ W.cell? ⟨w.heap.size + 1, 0, none⟩ = some (.int .i64 y.kind) ∧ W.cell? ⟨w.heap.size + 1, 1, none⟩ = some (.int .i64 y.key)) (simp [go_sem, *]) (first
    | (go_at_call_of 102 (Value.int .i64 x.kind); refine (compare_impl x.kind y.kind _).mono ?_; rintro e w1 ⟨rfl, rfl⟩)
    | (go_at_call_of 102 (Value.int .i64 x.key); refine (compare_impl x.key y.key _).mono ?_; rintro e w2 ⟨rfl, rfl⟩)
    | (go_at_call 101; refine (or_impl (cmpI x.kind y.kind) (cmpI x.key y.key) (w.heap.size + 1 + 1) _ (by simp [go_sem]) (by simp [go_sem])).mono ?_; rintro e w3 ⟨rfl, rfl⟩; rw [HS.out]))
  all_goals go_wp2
  all_goals go_ret
  all_goals exact ⟨rfl, HB.out _ _ _⟩
set_option maxHeartbeats 1000000 in
set_option maxRecDepth 100000 in
theorem slotOf_impl (x : En) (w : World) : Calls Tryz.prog 87 #[.agg #[.int .i64 x.kind, .int .i64 x.key, .int .i64 x.id]] w fun e w' => e = .returned (.agg #[.int .i64 x.kind, .int .i64 x.key]) ∧ Below w.heap.size w w' := by
  go_enter Tryz.func87, Tryz.ntmps87
  go_wp2
  refine bodyPost_ret (v := .agg #[.int .i64 x.kind, .int .i64 x.key]) (by simp [results, Tryz.results87, go_sem]) rfl ⟨rfl, ?_⟩
  exact ((Below.refl _ _).alloc (Nat.le_refl _) _).alloc (by simp) _
set_option maxHeartbeats 1000000 in
set_option maxRecDepth 100000 in
theorem slotRight_impl (x : En) (w : World) : Calls Tryz.prog 86 #[.agg #[.int .i64 x.kind, .int .i64 x.key, .int .i64 x.id]] w fun e w' => e = .returned (.bool (slotB x)) ∧ Below w.heap.size w w' := by
  have HB : Hid (∀ o, Below w.heap.size w (w.alloc o)) := fun o => (Below.refl _ _).alloc (Nat.le_refl _) o
  cases h1 : isB x.kind 1 6
  · have HS : Hid (slotB x = false) := by unfold Hid slotB; rw [h1]; rfl
    go_enter Tryz.func86, Tryz.ntmps86
    go_wp2_with (go_at_call 82; refine (between_impl _ _ _ _).mono ?_; rintro e w' ⟨rfl, rfl⟩; rw [h1])
    go_ret
    exact ⟨ret_bool HS.out.symm, HB.out _⟩
  · have HS : Hid (slotB x = isB x.key 0 6) := by unfold Hid slotB; rw [h1]; rfl
    go_enter Tryz.func86, Tryz.ntmps86
    go_wp2_with (go_at_call 82; refine (between_impl _ _ _ _).mono ?_; rintro e w' ⟨rfl, rfl⟩; try rw [h1])
    go_ret
    exact ⟨ret_bool HS.out.symm, HB.out _⟩
set_option maxHeartbeats 1000000 in
set_option maxRecDepth 100000 in
theorem isId_impl (n : Int) (w : World) : Calls Tryz.prog 66 #[.int .i64 n] w fun e w' => e = .returned (.bool (isB n 1 1000000)) ∧ w = w' := by
  go_enter Tryz.func66, Tryz.ntmps66
  go_wp2_with (go_at_call 82; refine (between_impl _ _ _ _).mono ?_; rintro e w' ⟨rfl, rfl⟩)
  go_ret
  exact ⟨rfl, rfl⟩
set_option maxHeartbeats 1000000 in
set_option maxRecDepth 100000 in
theorem canStand_impl (x : En) (w : World) : Calls Tryz.prog 64 #[.agg #[.int .i64 x.kind, .int .i64 x.key, .int .i64 x.id]] w fun e w' => e = .returned (.bool (entB false x)) ∧ Below w.heap.size w w' := by
  have HB : Hid (∀ o w', Below (w.alloc o).heap.size (w.alloc o) w' → Below w.heap.size w w') := fun o w' hb => ((Below.refl _ _).alloc (Nat.le_refl _) o).trans (hb.mono (by simp))
  cases h1 : slotB x
  · have HS : Hid (entB false x = false) := by unfold Hid entB; rw [h1]; rfl
    go_enter Tryz.func64, Tryz.ntmps64
    go_wp2_with (go_at_call 86; refine (slotRight_impl x _).mono ?_; rintro e w1 ⟨rfl, hb1⟩; rw [h1]; have HW : Hid (Below w.heap.size w w1) := HB.out _ _ hb1; clear hb1)
    go_ret
    exact ⟨ret_bool HS.out.symm, HW.out⟩
  · have HS : Hid (entB false x = isB x.id 1 1000000) := by unfold Hid entB; rw [h1]; simp
    go_enter Tryz.func64, Tryz.ntmps64
    go_wp2_with (first
      | (go_at_call 86; refine (slotRight_impl x _).mono ?_; rintro e w1 ⟨rfl, hb1⟩; rw [h1]; obtain ⟨hc1, hf1⟩ := bcell hb1; have HW : Hid (Below w.heap.size w w1) := HB.out _ _ hb1; clear hb1)
      | (go_at_call 66; refine (isId_impl _ _).mono ?_; rintro e w2 ⟨rfl, rfl⟩))
    go_ret
    exact ⟨ret_bool HS.out.symm, HW.out⟩
end Go.Proofs.YtdldblfopcbfeaaGreatDoor
