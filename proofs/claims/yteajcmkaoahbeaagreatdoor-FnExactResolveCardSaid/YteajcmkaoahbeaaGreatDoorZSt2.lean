/- Entries: right ones, which is less; what the specification and the program tell of one, and of two. Rows of entries: what the specification and the program tell of them. -/
import Derived.Test.YteajcmkaoahbeaaGreatDoorZGrPlain
import Derived.WalkSmall
import Derived.Deep.RegionHeld3
import Derived.Deep.RegionHeld
namespace Go.Proofs.YteajcmkaoahbeaaGreatDoor
open Go.RowKit

/-- An Entry. -/
structure En where
  kind : Int
  key : Int
  id : Int
def enCells (x : En) : List Value := [.int .i64 x.kind, .int .i64 x.key, .int .i64 x.id]
def slotB (x : En) : Bool := isB x.kind 1 6 && isB x.key 0 6
def entB (gone : Bool) (x : En) : Bool := slotB x && (isB x.id 1 1000000 || (gone && (x.id == 0)))
def lessB (x y : En) : Bool := decide (x.kind < y.kind) || ((x.kind == y.kind) && decide (x.key < y.key))
/-- Three ways. -/
def cmpI (x y : Int) : Int := if x < y then -1 else if y < x then 1 else 0
def cmpS (x y : En) : Int := if cmpI x.kind y.kind = 0 then cmpI x.key y.key else cmpI x.kind y.kind
theorem cmpI_cases (x y : Int) : (x < y ∧ cmpI x y = -1) ∨ (y < x ∧ cmpI x y = 1) ∨ (x = y ∧ cmpI x y = 0) := by
  unfold cmpI
  by_cases h : x < y
  · exact .inl ⟨h, if_pos h⟩
  · by_cases h2 : y < x
    · exact .inr (.inl ⟨h2, by rw [if_neg h, if_pos h2]⟩)
    · exact .inr (.inr ⟨by omega, by rw [if_neg h, if_neg h2]⟩)
theorem cmpI_bound (x y : Int) : -1 ≤ cmpI x y ∧ cmpI x y ≤ 1 := by
  rcases cmpI_cases x y with ⟨_, h⟩ | ⟨_, h⟩ | ⟨_, h⟩ <;> omega
theorem cmpS_less (x y : En) : decide (0 ≤ cmpS x y) = !lessB x y := by
  unfold cmpS lessB
  rcases cmpI_cases x.kind y.kind with ⟨h1, h⟩ | ⟨h1, h⟩ | ⟨h1, h⟩
  · rw [h, if_neg (by decide), decide_eq_true h1]
    rfl
  · have e1 : (x.kind == y.kind) = false := by simp; omega
    rw [h, if_neg (by decide), decide_eq_false (show ¬ x.kind < y.kind by omega), e1]
    rfl
  · have e1 : (x.kind == y.kind) = true := by simp [h1]
    rw [h, if_pos rfl, decide_eq_false (show ¬ x.kind < y.kind by omega), e1]
    rcases cmpI_cases x.key y.key with ⟨h2, h3⟩ | ⟨h2, h3⟩ | ⟨h2, h3⟩
    · rw [h3, decide_eq_true h2]; rfl
    · rw [h3, decide_eq_false (show ¬ x.key < y.key by omega)]; rfl
    · rw [h3, decide_eq_false (show ¬ x.key < y.key by omega)]; rfl
theorem cmpS_bound (x y : En) : -1 ≤ cmpS x y ∧ cmpS x y ≤ 1 := by
  unfold cmpS
  split <;> exact cmpI_bound _ _
set_option maxHeartbeats 1000000 in
set_option maxRecDepth 100000 in
theorem compare_impl (x y : Int) (w : World) : Calls Tryz.prog 127 #[.int .i64 x, .int .i64 y] w fun e w' => e = .returned (.int .i64 (cmpI x y)) ∧ w = w' := by
  rcases cmpI_cases x y with ⟨h1, h⟩ | ⟨h1, h⟩ | ⟨h1, h⟩
  · have HS : Hid (cmpI x y = -1) := h
    clear h
    go_enter Tryz.func127, Tryz.ntmps127
    go_wp2
    go_ret
    exact ⟨ret_int HS.out.symm, rfl⟩
  · have HS : Hid (cmpI x y = 1) := h
    have hb : decide (x < y) = false := decide_eq_false (by omega)
    clear h
    go_enter Tryz.func127, Tryz.ntmps127
    go_wp2
    go_ret
    exact ⟨ret_int HS.out.symm, rfl⟩
  · have HS : Hid (cmpI x y = 0) := h
    subst h1
    clear h
    go_enter Tryz.func127, Tryz.ntmps127
    go_wp2
    go_ret
    exact ⟨ret_int HS.out.symm, rfl⟩
set_option maxHeartbeats 1000000 in
set_option maxRecDepth 100000 in
theorem or_impl (c d : Int) (b : Nat) (w : World) (h0 : w.cell? ⟨b, 0, none⟩ = some (.int .i64 c)) (h1 : w.cell? ⟨b, 1, none⟩ = some (.int .i64 d)) :
    Calls Tryz.prog 126 #[.slice (some ⟨b, 0, none⟩) 2 2] w fun e w' => e = .returned (.int .i64 (if c = 0 then d else c)) ∧ w = w' := by
  obtain ⟨r, HR⟩ : ∃ r, Hid (r = if c = 0 then d else c) := ⟨if c = 0 then d else c, (rfl : (if c = 0 then d else c) = _)⟩
  rw [← HR.out]
  go_enter Tryz.func126, Tryz.ntmps126
  go_wp2
  go_loop [8] (fun i => ∃ k : Nat, k ≤ 2 ∧ i = .int .i64 k ∧ Hid ((0 < k → c = 0) ∧ (1 < k → d = 0))) (fun i => 2 - (intOf i).toNat)
  case atStart => exact ⟨0, Nat.zero_le _, rfl, fun h => absurd h (Nat.lt_irrefl 0), fun h => absurd h (by decide)⟩
  case round =>
    obtain ⟨k, hk, rfl, HK⟩ := hrel
    match k, hk with
    | 0, _ =>
      by_cases hc : c = 0
      · subst hc
        go_wp2
        exact ⟨⟨1, by omega, by go_num, by simp [Hid]⟩, by simp [intOf]⟩
      · have HS : Hid (r = c) := by rw [HR.out, if_neg hc]; rfl
        have hb : (c == 0) = false := by simpa using hc
        have hb2 : (c != 0) = true := by simpa using hc
        clear hc
        go_wp2
        go_ret
        exact ⟨ret_int HS.out.symm, rfl⟩
    | 1, _ =>
      have hc0 : c = 0 := HK.out.1 (by omega)
      by_cases hd : d = 0
      · have HN : Hid ((0 < 2 → c = 0) ∧ (1 < 2 → d = 0)) := ⟨fun _ => hc0, fun _ => hd⟩
        subst hd
        go_wp2
        exact ⟨⟨2, by omega, by go_num, by have := HN.out; simpa [Hid] using this⟩, by simp [intOf]⟩
      · have HS : Hid (r = d) := by rw [HR.out, if_pos hc0]; rfl
        have hb : (d == 0) = false := by simpa using hd
        have hb2 : (d != 0) = true := by simpa using hd
        clear hd
        go_wp2
        go_ret
        exact ⟨ret_int HS.out.symm, rfl⟩
    | 2, _ =>
      have HS : Hid (r = 0) := by rw [HR.out, if_pos (HK.out.1 (by omega)), HK.out.2 (by omega)]; rfl
      go_wp2
      go_ret
      exact ⟨ret_int HS.out.symm, rfl⟩
set_option maxHeartbeats 2000000 in
set_option maxRecDepth 100000 in
theorem slots_impl (x y : En) (w : World) : Calls Tryz.prog 85 #[.agg #[.int .i64 x.kind, .int .i64 x.key], .agg #[.int .i64 y.kind, .int .i64 y.key]] w fun e w' => e = .returned (.int .i64 (cmpS x y)) ∧ Below w.heap.size w w' := by
  have HB : Hid (∀ o1 o2 o3, Below w.heap.size w ((((w.alloc o1).alloc o2).drew).alloc o3)) := fun o1 o2 o3 => ((((Below.refl _ _).alloc (Nat.le_refl _) _).alloc (by simp) _).drew).alloc (by simp; omega) _
  have HS : Hid ((if cmpI x.kind y.kind = 0 then cmpI x.key y.key else cmpI x.kind y.kind) = cmpS x y) := rfl
  go_enter Tryz.func85, Tryz.ntmps85
  go_wp2
  go_region_held3 (fun W => W.cell? ⟨w.heap.size, 0, none⟩ = some (.int .i64 x.kind) ∧ W.cell? ⟨w.heap.size, 1, none⟩ = some (.int .i64 x.key) ∧ W.cell? ⟨w.heap.size + 1, 0, none⟩ = some (.int .i64 y.kind) ∧ W.cell? ⟨w.heap.size + 1, 1, none⟩ = some (.int .i64 y.key)) (simp [go_sem, *]) (first
    | (go_at_call_of 127 (Value.int .i64 x.kind); refine (compare_impl x.kind y.kind _).mono ?_; rintro e w1 ⟨rfl, rfl⟩)
    | (go_at_call_of 127 (Value.int .i64 x.key); refine (compare_impl x.key y.key _).mono ?_; rintro e w2 ⟨rfl, rfl⟩)
    | (go_at_call 126; refine (or_impl (cmpI x.kind y.kind) (cmpI x.key y.key) (w.heap.size + 1 + 1) _ (by simp [go_sem]) (by simp [go_sem])).mono ?_; rintro e w3 ⟨rfl, rfl⟩; rw [HS.out]))
  all_goals go_wp2
  all_goals go_ret
  all_goals exact ⟨rfl, HB.out _ _ _⟩
set_option maxHeartbeats 1000000 in
set_option maxRecDepth 100000 in
theorem slotOf_impl (x : En) (w : World) : Calls Tryz.prog 124 #[.agg #[.int .i64 x.kind, .int .i64 x.key, .int .i64 x.id]] w fun e w' => e = .returned (.agg #[.int .i64 x.kind, .int .i64 x.key]) ∧ Below w.heap.size w w' := by
  go_enter Tryz.func124, Tryz.ntmps124
  go_wp2
  refine bodyPost_ret (v := .agg #[.int .i64 x.kind, .int .i64 x.key]) (by simp [results, Tryz.results124, go_sem]) rfl ⟨rfl, ?_⟩
  exact ((Below.refl _ _).alloc (Nat.le_refl _) _).alloc (by simp) _
set_option maxHeartbeats 1000000 in
set_option maxRecDepth 100000 in
theorem slotRight_impl (x : En) (w : World) : Calls Tryz.prog 149 #[.agg #[.int .i64 x.kind, .int .i64 x.key, .int .i64 x.id]] w fun e w' => e = .returned (.bool (slotB x)) ∧ Below w.heap.size w w' := by
  have HB : Hid (∀ o, Below w.heap.size w (w.alloc o)) := fun o => (Below.refl _ _).alloc (Nat.le_refl _) o
  cases h1 : isB x.kind 1 6
  · have HS : Hid (slotB x = false) := by unfold Hid slotB; rw [h1]; rfl
    go_enter Tryz.func149, Tryz.ntmps149
    go_wp2_with (go_at_call 145; refine (between_impl _ _ _ _).mono ?_; rintro e w' ⟨rfl, rfl⟩; rw [h1])
    go_ret
    exact ⟨ret_bool HS.out.symm, HB.out _⟩
  · have HS : Hid (slotB x = isB x.key 0 6) := by unfold Hid slotB; rw [h1]; rfl
    go_enter Tryz.func149, Tryz.ntmps149
    go_wp2_with (go_at_call 145; refine (between_impl _ _ _ _).mono ?_; rintro e w' ⟨rfl, rfl⟩; try rw [h1])
    go_ret
    exact ⟨ret_bool HS.out.symm, HB.out _⟩
set_option maxHeartbeats 1000000 in
set_option maxRecDepth 100000 in
theorem isId_impl (n : Int) (w : World) : Calls Tryz.prog 150 #[.int .i64 n] w fun e w' => e = .returned (.bool (isB n 1 1000000)) ∧ w = w' := by
  go_enter Tryz.func150, Tryz.ntmps150
  go_wp2_with (go_at_call 145; refine (between_impl _ _ _ _).mono ?_; rintro e w' ⟨rfl, rfl⟩)
  go_ret
  exact ⟨rfl, rfl⟩
set_option maxHeartbeats 1000000 in
set_option maxRecDepth 100000 in
theorem canStand_impl (x : En) (w : World) : Calls Tryz.prog 114 #[.agg #[.int .i64 x.kind, .int .i64 x.key, .int .i64 x.id]] w fun e w' => e = .returned (.bool (entB false x)) ∧ Below w.heap.size w w' := by
  have HB : Hid (∀ o w', Below (w.alloc o).heap.size (w.alloc o) w' → Below w.heap.size w w') := fun o w' hb => ((Below.refl _ _).alloc (Nat.le_refl _) o).trans (hb.mono (by simp))
  cases h1 : slotB x
  · have HS : Hid (entB false x = false) := by unfold Hid entB; rw [h1]; rfl
    go_enter Tryz.func114, Tryz.ntmps114
    go_wp2_with (go_at_call 149; refine (slotRight_impl x _).mono ?_; rintro e w1 ⟨rfl, hb1⟩; rw [h1]; have HW : Hid (Below w.heap.size w w1) := HB.out _ _ hb1; clear hb1)
    go_ret
    exact ⟨ret_bool HS.out.symm, HW.out⟩
  · have HS : Hid (entB false x = isB x.id 1 1000000) := by unfold Hid entB; rw [h1]; simp
    go_enter Tryz.func114, Tryz.ntmps114
    go_wp2_with (first
      | (go_at_call 149; refine (slotRight_impl x _).mono ?_; rintro e w1 ⟨rfl, hb1⟩; rw [h1]; obtain ⟨hc1, hf1⟩ := bcell hb1; have HW : Hid (Below w.heap.size w w1) := HB.out _ _ hb1; clear hb1)
      | (go_at_call 150; refine (isId_impl _ _).mono ?_; rintro e w2 ⟨rfl, rfl⟩))
    go_ret
    exact ⟨ret_bool HS.out.symm, HW.out⟩
end Go.Proofs.YteajcmkaoahbeaaGreatDoor
namespace Go.Proofs.YteajcmkaoahbeaaGreatDoor
open Go.RowKit

/-- A row of entries in memory. -/
structure EnsAt (w : World) (a : Option Addr) (xs : List En) : Prop where
  len : xs.length ≤ 1048576
  row : 0 < xs.length → ∃ b off, a = some ⟨b, off, none⟩ ∧ b < w.heap.size ∧ ∀ i (h : i < xs.length) j, j < 3 → w.cell? ⟨b, off + (i * 3 + j), none⟩ = (enCells xs[i])[j]?
theorem EnsAt.kept {w w' : World} {a : Option Addr} {xs : List En} (h : EnsAt w a xs) (hb : Below w.heap.size w w') : EnsAt w' a xs := by
  refine ⟨h.len, fun hl => ?_⟩
  obtain ⟨b, off, ha, hbb, hc⟩ := h.row hl
  exact ⟨b, off, ha, Nat.lt_of_lt_of_le hbb hb.size, fun i hi j hj => (hb.cell (p := ⟨b, off + (i * 3 + j), none⟩) hbb).trans (hc i hi j hj)⟩
/-- The row rises at a place. -/
def riseAt (xs : List En) (i : Nat) : Bool := match i with
  | 0 => true
  | j + 1 => match xs[j]?, xs[j + 1]? with
    | some x, some y => lessB x y
    | _, _ => true
def riseB (xs : List En) : Bool := (List.range xs.length).all (riseAt xs)
def rowE (gone : Bool) (xs : List En) : Bool := decide (xs.length ≤ 400) && riseB xs && xs.all (entB gone)
theorem riseAt_succ {xs : List En} {j : Nat} (h : j + 1 < xs.length) : riseAt xs (j + 1) = lessB xs[j] xs[j + 1] := by
  simp [riseAt, List.getElem?_eq_getElem h, List.getElem?_eq_getElem (show j < xs.length by omega)]
theorem riseB_no {xs : List En} {k : Nat} (hk : k < xs.length) (h : riseAt xs k = false) : riseB xs = false := List.all_eq_false.2 ⟨k, List.mem_range.2 hk, by simp [h]⟩
theorem riseB_yes {xs : List En} (h : ∀ j, j < xs.length → riseAt xs j = true) : riseB xs = true := List.all_eq_true.2 fun j hj => h j (List.mem_range.1 hj)
set_option maxHeartbeats 4000000 in
set_option maxRecDepth 100000 in
theorem rise_impl (xs : List En) (a : Option Addr) (cap : Nat) (w : World) (h : EnsAt w a xs) :
    Calls Tryz.prog 148 #[.slice a xs.length cap] w fun e w' => e = .returned (.bool (riseB xs)) ∧ Below w.heap.size w w' := by
  have hl := h.len
  have H : Hid (EnsAt w a xs) := h
  clear h
  go_enter Tryz.func148, Tryz.ntmps148
  go_wp2
  go_loopw [3] (fun i wr => ∃ j : Nat, j ≤ xs.length ∧ i = .int .i64 (j + 1 : Nat) ∧ Hid (∀ q, q < j + 1 → riseAt xs q = true) ∧ Below w.heap.size w wr) (fun i _ => xs.length + 1 - (intOf i).toNat)
  case atStart => exact ⟨0, Nat.zero_le _, rfl, fun q hq => (by have : q = 0 := (by omega); subst this; rfl), Below.refl _ _⟩
  case round =>
    obtain ⟨j, hj, rfl, HO, hbw⟩ := hrel
    by_cases hlt : j + 1 < xs.length
    · have HE : Hid (EnsAt wr a xs) := H.out.kept hbw
      obtain ⟨b, off, rfl, hbb, hcell⟩ := HE.out.row (by omega)
      have hg0 : wr.cell? ⟨b, off + j * 3, none⟩ = some (.int .i64 xs[j].kind) := by
        have := hcell j (by omega) 0 (by omega)
        exact this
      have hg1 : wr.cell? ⟨b, off + j * 3 + 1, none⟩ = some (.int .i64 xs[j].key) := by
        have := hcell j (by omega) 1 (by omega)
        rwa [← Nat.add_assoc] at this
      have hg2 : wr.cell? ⟨b, off + j * 3 + 2, none⟩ = some (.int .i64 xs[j].id) := by
        have := hcell j (by omega) 2 (by omega)
        rwa [← Nat.add_assoc] at this
      have hc0 : wr.cell? ⟨b, off + (j + 1) * 3, none⟩ = some (.int .i64 xs[j + 1].kind) := by
        have := hcell (j + 1) hlt 0 (by omega)
        exact this
      have hc1 : wr.cell? ⟨b, off + (j + 1) * 3 + 1, none⟩ = some (.int .i64 xs[j + 1].key) := by
        have := hcell (j + 1) hlt 1 (by omega)
        rwa [← Nat.add_assoc] at this
      have hc2 : wr.cell? ⟨b, off + (j + 1) * 3 + 2, none⟩ = some (.int .i64 xs[j + 1].id) := by
        have := hcell (j + 1) hlt 2 (by omega)
        rwa [← Nat.add_assoc] at this
      clear hcell
      have HC := cmpS_less xs[j] xs[j + 1]
      cases hless : lessB xs[j] xs[j + 1]
      · have HS : Hid (riseB xs = false) := riseB_no hlt (by rw [riseAt_succ hlt]; exact hless)
        have HLE : Hid (0 ≤ cmpS xs[j] xs[j + 1]) := by rw [hless] at HC; simpa [Hid] using HC
        clear HC hless
        go_wp2
        refine wp_region_held_drew (S := (fun W => Below wr.heap.size wr W)) (by kernel_rfl) (Below.drew (Below.refl _ _)) (fun hHeld => ?_)
        refine wpAnyH_take (i := 0) (v := (.slice (some ⟨b, off, none⟩) xs.length cap)) rfl (by kernel_rfl) (by kernel_rfl) (by kernel_rfl) (fun _ _ _ h => h) (Or.inl ⟨by kernel_rfl, ?_⟩) hHeld ?_
        · intro W hW
          go_simp
        refine wpAnyH_take (i := 1) (v := (.int .i64 (j + 1 : Nat))) rfl (by kernel_rfl) (by kernel_rfl) (by kernel_rfl) (fun _ _ _ h => h) (Or.inl ⟨by kernel_rfl, ?_⟩) hHeld ?_
        · intro W hW
          go_simp
        refine wpAnyH_take (i := 2) (v := (.int .i64 (j : Nat))) rfl (by kernel_rfl) (by kernel_rfl) (by kernel_rfl) (fun _ _ _ h => h) (Or.inl ⟨by kernel_rfl, ?_⟩) hHeld ?_
        · intro W hW
          go_simp
          rw [IntKind.wrap_i64] <;> omega
        refine wpAnyH_take (i := 3) (v := (.pointer (some ⟨b, off + j * 3, none⟩))) rfl (by kernel_rfl) (by kernel_rfl) (by kernel_rfl) (fun _ _ _ h => h) (Or.inl ⟨by kernel_rfl, ?_⟩) hHeld ?_
        · intro W hW
          go_simp
          intro hbad
          exact absurd hbad (by omega)
        refine wpAnyH_take (i := 4) (v := (.agg #[.int .i64 xs[j].kind, .int .i64 xs[j].key, .int .i64 xs[j].id])) rfl (by kernel_rfl) (by kernel_rfl) (by kernel_rfl) (fun _ _ _ h => h) (Or.inl ⟨by kernel_rfl, ?_⟩) hHeld ?_
        · intro W hW
          have f0 := (hW.cell (p := ⟨b, off + j * 3, none⟩) hbb).trans hg0
          have f1 := (hW.cell (p := ⟨b, off + j * 3 + 1, none⟩) hbb).trans hg1
          have f2 := (hW.cell (p := ⟨b, off + j * 3 + 2, none⟩) hbb).trans hg2
          go_simp
        refine wpAnyH_take (i := 6) (v := (.slice (some ⟨b, off, none⟩) xs.length cap)) rfl (by kernel_rfl) (by kernel_rfl) (by kernel_rfl) (fun _ _ _ h => h) (Or.inl ⟨by kernel_rfl, ?_⟩) hHeld ?_
        · intro W hW
          go_simp
        refine wpAnyH_take (i := 7) (v := (.int .i64 (j + 1 : Nat))) rfl (by kernel_rfl) (by kernel_rfl) (by kernel_rfl) (fun _ _ _ h => h) (Or.inl ⟨by kernel_rfl, ?_⟩) hHeld ?_
        · intro W hW
          go_simp
        refine wpAnyH_take (i := 8) (v := (.pointer (some ⟨b, off + (j + 1) * 3, none⟩))) rfl (by kernel_rfl) (by kernel_rfl) (by kernel_rfl) (fun _ _ _ h => h) (Or.inl ⟨by kernel_rfl, ?_⟩) hHeld ?_
        · intro W hW
          go_simp
          intro hbad
          exact absurd hbad (by omega)
        refine wpAnyH_take (i := 9) (v := (.agg #[.int .i64 xs[j + 1].kind, .int .i64 xs[j + 1].key, .int .i64 xs[j + 1].id])) rfl (by kernel_rfl) (by kernel_rfl) (by kernel_rfl) (fun _ _ _ h => h) (Or.inl ⟨by kernel_rfl, ?_⟩) hHeld ?_
        · intro W hW
          have f0 := (hW.cell (p := ⟨b, off + (j + 1) * 3, none⟩) hbb).trans hc0
          have f1 := (hW.cell (p := ⟨b, off + (j + 1) * 3 + 1, none⟩) hbb).trans hc1
          have f2 := (hW.cell (p := ⟨b, off + (j + 1) * 3 + 2, none⟩) hbb).trans hc2
          go_simp
        refine wpAnyH_ready (rs := [5]) (by kernel_rfl) (by simp) ?_
        refine AllReadyH.cons rfl (fun K hK => ?_) AllReadyH.nil
        go_simp
        refine (slotOf_impl xs[j] _).mono ?_
        rintro e w1 ⟨rfl, hb1⟩
        have hd1 : Below wr.heap.size wr w1 := hHeld.trans (hb1.mono hHeld.size)
        clear hb1
        refine hK.out _ _ hd1 (fun hH1 => ?_)
        clear hK K
        refine wpAnyH_ready (rs := [10]) (by kernel_rfl) (by simp) ?_
        refine AllReadyH.cons rfl (fun K hK => ?_) AllReadyH.nil
        go_simp
        refine (slotOf_impl xs[j + 1] _).mono ?_
        rintro e w2 ⟨rfl, hb2⟩
        have hd2 : Below wr.heap.size wr w2 := hH1.trans (hb2.mono hH1.size)
        clear hb2
        refine hK.out _ _ hd2 (fun hH2 => ?_)
        clear hK K
        refine wpAnyH_ready (rs := [11]) (by kernel_rfl) (by simp) ?_
        refine AllReadyH.cons rfl (fun K hK => ?_) AllReadyH.nil
        go_simp
        refine (slots_impl xs[j] xs[j + 1] _).mono ?_
        rintro e w3 ⟨rfl, hb3⟩
        have hd3 : Below wr.heap.size wr w3 := hH2.trans (hb3.mono hH2.size)
        clear hb3
        refine hK.out _ _ hd3 (fun hH3 => ?_)
        clear hK K
        refine wpAnyH_take (i := 12) (v := (.bool true)) rfl (by kernel_rfl) (by kernel_rfl) (by kernel_rfl) (fun _ _ _ h => h) (Or.inl ⟨by kernel_rfl, ?_⟩) hH3 ?_
        · intro W hW
          have hle := HLE.out
          go_simp
        refine wpAnyH_done (by kernel_rfl) ?_ _
        simp only [Act.put, List.setIfInBounds_toArray, List.set_cons_zero, List.set_cons_succ, List.getElem_toArray, List.getElem_cons_zero, List.getElem_cons_succ]
        go_wp2
        go_ret
        exact ⟨ret_bool HS.out.symm, hbw.trans (hH3.mono hbw.size)⟩
      · have HS : Hid (∀ q, q < j + 1 + 1 → riseAt xs q = true) := fun q hq => by
          by_cases e : q = j + 1
          · subst e
            rw [riseAt_succ hlt]
            exact hless
          · exact HO.out q (by omega)
        have HLE : Hid (cmpS xs[j] xs[j + 1] < 0) := by
          rw [hless] at HC
          simpa [Hid] using HC
        clear HC hless
        go_wp2
        refine wp_region_held_drew (S := (fun W => Below wr.heap.size wr W)) (by kernel_rfl) (Below.drew (Below.refl _ _)) (fun hHeld => ?_)
        refine wpAnyH_take (i := 0) (v := (.slice (some ⟨b, off, none⟩) xs.length cap)) rfl (by kernel_rfl) (by kernel_rfl) (by kernel_rfl) (fun _ _ _ h => h) (Or.inl ⟨by kernel_rfl, ?_⟩) hHeld ?_
        · intro W hW
          go_simp
        refine wpAnyH_take (i := 1) (v := (.int .i64 (j + 1 : Nat))) rfl (by kernel_rfl) (by kernel_rfl) (by kernel_rfl) (fun _ _ _ h => h) (Or.inl ⟨by kernel_rfl, ?_⟩) hHeld ?_
        · intro W hW
          go_simp
        refine wpAnyH_take (i := 2) (v := (.int .i64 (j : Nat))) rfl (by kernel_rfl) (by kernel_rfl) (by kernel_rfl) (fun _ _ _ h => h) (Or.inl ⟨by kernel_rfl, ?_⟩) hHeld ?_
        · intro W hW
          go_simp
          rw [IntKind.wrap_i64] <;> omega
        refine wpAnyH_take (i := 3) (v := (.pointer (some ⟨b, off + j * 3, none⟩))) rfl (by kernel_rfl) (by kernel_rfl) (by kernel_rfl) (fun _ _ _ h => h) (Or.inl ⟨by kernel_rfl, ?_⟩) hHeld ?_
        · intro W hW
          go_simp
          intro hbad
          exact absurd hbad (by omega)
        refine wpAnyH_take (i := 4) (v := (.agg #[.int .i64 xs[j].kind, .int .i64 xs[j].key, .int .i64 xs[j].id])) rfl (by kernel_rfl) (by kernel_rfl) (by kernel_rfl) (fun _ _ _ h => h) (Or.inl ⟨by kernel_rfl, ?_⟩) hHeld ?_
        · intro W hW
          have f0 := (hW.cell (p := ⟨b, off + j * 3, none⟩) hbb).trans hg0
          have f1 := (hW.cell (p := ⟨b, off + j * 3 + 1, none⟩) hbb).trans hg1
          have f2 := (hW.cell (p := ⟨b, off + j * 3 + 2, none⟩) hbb).trans hg2
          go_simp
        refine wpAnyH_take (i := 6) (v := (.slice (some ⟨b, off, none⟩) xs.length cap)) rfl (by kernel_rfl) (by kernel_rfl) (by kernel_rfl) (fun _ _ _ h => h) (Or.inl ⟨by kernel_rfl, ?_⟩) hHeld ?_
        · intro W hW
          go_simp
        refine wpAnyH_take (i := 7) (v := (.int .i64 (j + 1 : Nat))) rfl (by kernel_rfl) (by kernel_rfl) (by kernel_rfl) (fun _ _ _ h => h) (Or.inl ⟨by kernel_rfl, ?_⟩) hHeld ?_
        · intro W hW
          go_simp
        refine wpAnyH_take (i := 8) (v := (.pointer (some ⟨b, off + (j + 1) * 3, none⟩))) rfl (by kernel_rfl) (by kernel_rfl) (by kernel_rfl) (fun _ _ _ h => h) (Or.inl ⟨by kernel_rfl, ?_⟩) hHeld ?_
        · intro W hW
          go_simp
          intro hbad
          exact absurd hbad (by omega)
        refine wpAnyH_take (i := 9) (v := (.agg #[.int .i64 xs[j + 1].kind, .int .i64 xs[j + 1].key, .int .i64 xs[j + 1].id])) rfl (by kernel_rfl) (by kernel_rfl) (by kernel_rfl) (fun _ _ _ h => h) (Or.inl ⟨by kernel_rfl, ?_⟩) hHeld ?_
        · intro W hW
          have f0 := (hW.cell (p := ⟨b, off + (j + 1) * 3, none⟩) hbb).trans hc0
          have f1 := (hW.cell (p := ⟨b, off + (j + 1) * 3 + 1, none⟩) hbb).trans hc1
          have f2 := (hW.cell (p := ⟨b, off + (j + 1) * 3 + 2, none⟩) hbb).trans hc2
          go_simp
        refine wpAnyH_ready (rs := [5]) (by kernel_rfl) (by simp) ?_
        refine AllReadyH.cons rfl (fun K hK => ?_) AllReadyH.nil
        go_simp
        refine (slotOf_impl xs[j] _).mono ?_
        rintro e w1 ⟨rfl, hb1⟩
        have hd1 : Below wr.heap.size wr w1 := hHeld.trans (hb1.mono hHeld.size)
        clear hb1
        refine hK.out _ _ hd1 (fun hH1 => ?_)
        clear hK K
        refine wpAnyH_ready (rs := [10]) (by kernel_rfl) (by simp) ?_
        refine AllReadyH.cons rfl (fun K hK => ?_) AllReadyH.nil
        go_simp
        refine (slotOf_impl xs[j + 1] _).mono ?_
        rintro e w2 ⟨rfl, hb2⟩
        have hd2 : Below wr.heap.size wr w2 := hH1.trans (hb2.mono hH1.size)
        clear hb2
        refine hK.out _ _ hd2 (fun hH2 => ?_)
        clear hK K
        refine wpAnyH_ready (rs := [11]) (by kernel_rfl) (by simp) ?_
        refine AllReadyH.cons rfl (fun K hK => ?_) AllReadyH.nil
        go_simp
        refine (slots_impl xs[j] xs[j + 1] _).mono ?_
        rintro e w3 ⟨rfl, hb3⟩
        have hd3 : Below wr.heap.size wr w3 := hH2.trans (hb3.mono hH2.size)
        clear hb3
        refine hK.out _ _ hd3 (fun hH3 => ?_)
        clear hK K
        refine wpAnyH_take (i := 12) (v := (.bool false)) rfl (by kernel_rfl) (by kernel_rfl) (by kernel_rfl) (fun _ _ _ h => h) (Or.inl ⟨by kernel_rfl, ?_⟩) hH3 ?_
        · intro W hW
          have hle := HLE.out
          go_simp
        refine wpAnyH_done (by kernel_rfl) ?_ _
        simp only [Act.put, List.setIfInBounds_toArray, List.set_cons_zero, List.set_cons_succ, List.getElem_toArray, List.getElem_cons_zero, List.getElem_cons_succ]
        go_wp2
        go_roundw
        case rel => exact ⟨j + 1, by omega, by go_num, HS, hbw.trans (hH3.mono hbw.size)⟩
        case measure => simp [intOf]; omega
    · have HS : Hid (riseB xs = true) := riseB_yes fun q hq => HO.out q (by omega)
      go_wp2
      go_ret
      exact ⟨ret_bool HS.out.symm, hbw⟩
end Go.Proofs.YteajcmkaoahbeaaGreatDoor
