/- Which of two turns comes first: the program's. What container/heap asks of a row of turns: how many, which is less, two changed for each other, one more, one less. -/
import Derived.Test.YteajcmkaoahbeaaGreatDoorZHpAt
import Derived.Test.YteajcmkaoahbeaaGreatDoorZSt2
import Derived.Test.YteajcmkaoahbeaaGreatDoorZGrPlain
import Derived.Deep.RegionHeld3
namespace Go.Proofs.YteajcmkaoahbeaaGreatDoor
open Go.RowKit

def or3 (c d e : Int) : Int := if c = 0 then (if d = 0 then e else d) else c
set_option maxHeartbeats 1000000 in
set_option maxRecDepth 100000 in
theorem or3_impl (c d e : Int) (b : Nat) (w : World) (h0 : w.cell? ⟨b, 0, none⟩ = some (.int .i64 c)) (h1 : w.cell? ⟨b, 1, none⟩ = some (.int .i64 d)) (h2 : w.cell? ⟨b, 2, none⟩ = some (.int .i64 e)) :
    Calls Tryz.prog 126 #[.slice (some ⟨b, 0, none⟩) 3 3] w fun e' w' => e' = .returned (.int .i64 (or3 c d e)) ∧ w = w' := by
  obtain ⟨r, HR⟩ : ∃ r, Hid (r = or3 c d e) := ⟨or3 c d e, (rfl : or3 c d e = _)⟩
  rw [← HR.out]
  go_enter Tryz.func126, Tryz.ntmps126
  go_wp2
  go_loop [8] (fun i => ∃ k : Nat, k ≤ 3 ∧ i = .int .i64 k ∧ Hid ((0 < k → c = 0) ∧ (1 < k → d = 0) ∧ (2 < k → e = 0))) (fun i => 3 - (intOf i).toNat)
  case atStart => exact ⟨0, Nat.zero_le _, rfl, fun h => absurd h (Nat.lt_irrefl 0), fun h => absurd h (by decide), fun h => absurd h (by decide)⟩
  case round =>
    obtain ⟨k, hk, rfl, HK⟩ := hrel
    match k, hk with
    | 0, _ =>
      by_cases hc : c = 0
      · subst hc
        go_wp2
        exact ⟨⟨1, by omega, by go_num, by simp [Hid]⟩, by simp [intOf]⟩
      · have HS : Hid (r = c) := by rw [HR.out]; unfold or3; rw [if_neg hc]; rfl
        have hb : (c == 0) = false := by simpa using hc
        have hb2 : (c != 0) = true := by simpa using hc
        clear hc
        go_wp2
        go_ret
        exact ⟨ret_int HS.out.symm, rfl⟩
    | 1, _ =>
      have hc0 : c = 0 := HK.out.1 (by omega)
      by_cases hd : d = 0
      · have HN : Hid ((0 < 2 → c = 0) ∧ (1 < 2 → d = 0) ∧ (2 < 2 → e = 0)) := ⟨fun _ => hc0, fun _ => hd, fun h => absurd h (by decide)⟩
        subst hd
        go_wp2
        exact ⟨⟨2, by omega, by go_num, by have := HN.out; simpa [Hid] using this⟩, by simp [intOf]⟩
      · have HS : Hid (r = d) := by rw [HR.out]; unfold or3; rw [if_pos hc0, if_neg hd]; rfl
        have hb : (d == 0) = false := by simpa using hd
        have hb2 : (d != 0) = true := by simpa using hd
        clear hd
        go_wp2
        go_ret
        exact ⟨ret_int HS.out.symm, rfl⟩
    | 2, _ =>
      have hc0 : c = 0 := HK.out.1 (by omega)
      have hd0 : d = 0 := HK.out.2.1 (by omega)
      by_cases he : e = 0
      · have HN : Hid ((0 < 3 → c = 0) ∧ (1 < 3 → d = 0) ∧ (2 < 3 → e = 0)) := ⟨fun _ => hc0, fun _ => hd0, fun _ => he⟩
        subst he
        clear hc0 hd0
        go_wp2
        exact ⟨⟨3, by omega, by go_num, by have := HN.out; simpa [Hid] using this⟩, by simp [intOf]⟩
      · have HS : Hid (r = e) := by rw [HR.out]; unfold or3; rw [if_pos hc0, if_pos hd0]; rfl
        have hb : (e == 0) = false := by simpa using he
        have hb2 : (e != 0) = true := by simpa using he
        clear he hc0 hd0
        go_wp2
        go_ret
        exact ⟨ret_int HS.out.symm, rfl⟩
    | 3, _ =>
      have HS : Hid (r = 0) := by rw [HR.out]; unfold or3; rw [if_pos (HK.out.1 (by omega)), if_pos (HK.out.2.1 (by omega)), HK.out.2.2 (by omega)]; rfl
      go_wp2
      go_ret
      exact ⟨ret_int HS.out.symm, rfl⟩
theorem or3_less (x y : Ev) (dx dy : Int) (h : (heavyB x == heavyB y) = true) : lessV x y dx dy = decide (or3 (cmpI dx dy) (cmpI x.time y.time) (cmpI x.id y.id) < 0) := by
  unfold lessV or3
  rw [if_neg (show ¬ (heavyB x != heavyB y) = true by simpa using h)]
  rcases cmpI_cases dx dy with ⟨h1, e1⟩ | ⟨h1, e1⟩ | ⟨h1, e1⟩
  · rw [if_pos (show (dx != dy) = true by simp; omega), e1, if_neg (show ¬ (-1 : Int) = 0 by decide), decide_eq_true h1]; rfl
  · rw [if_pos (show (dx != dy) = true by simp; omega), e1, if_neg (show ¬ (1 : Int) = 0 by decide), decide_eq_false (show ¬ dx < dy by omega)]; rfl
  · rw [if_neg (show ¬ (dx != dy) = true by simp [h1]), e1, if_pos rfl]
    rcases cmpI_cases x.time y.time with ⟨h2, e2⟩ | ⟨h2, e2⟩ | ⟨h2, e2⟩
    · rw [if_pos (show (x.time != y.time) = true by simp; omega), e2, if_neg (show ¬ (-1 : Int) = 0 by decide), decide_eq_true h2]; rfl
    · rw [if_pos (show (x.time != y.time) = true by simp; omega), e2, if_neg (show ¬ (1 : Int) = 0 by decide), decide_eq_false (show ¬ x.time < y.time by omega)]; rfl
    · rw [if_neg (show ¬ (x.time != y.time) = true by simp [h2]), e2, if_pos rfl]
      rcases cmpI_cases x.id y.id with ⟨h3, e3⟩ | ⟨h3, e3⟩ | ⟨h3, e3⟩
      · rw [e3, decide_eq_true h3]; rfl
      · rw [e3, decide_eq_false (show ¬ x.id < y.id by omega)]; rfl
      · rw [e3, decide_eq_false (show ¬ x.id < y.id by omega)]; rfl
set_option maxHeartbeats 4000000 in
set_option maxRecDepth 100000 in
theorem before_impl (x y : Ev) (px py : Option Addr) (cx cy : Nat) (dx dy : Int) (w : World) :
    Calls Tryz.prog 266 #[.agg #[.int .i64 x.id, .int .i64 x.room, .int .i64 x.author, .int .i64 x.kind, .int .i64 x.key, .int .i64 x.n, .string x.text, .slice px x.prev.length cx, .int .i64 x.time, .bool (heavyB x), .int .i64 dx], .agg #[.int .i64 y.id, .int .i64 y.room, .int .i64 y.author, .int .i64 y.kind, .int .i64 y.key, .int .i64 y.n, .string y.text, .slice py y.prev.length cy, .int .i64 y.time, .bool (heavyB y), .int .i64 dy]] w fun e w' => e = .returned (.bool (lessV x y dx dy)) ∧ Below w.heap.size w w' := by
  obtain ⟨hx, HX⟩ : ∃ r, Hid (r = heavyB x) := ⟨_, (rfl : heavyB x = _)⟩
  obtain ⟨hy, HY⟩ : ∃ r, Hid (r = heavyB y) := ⟨_, (rfl : heavyB y = _)⟩
  obtain ⟨R, HR⟩ : ∃ r, Hid (r = lessV x y dx dy) := ⟨_, (rfl : lessV x y dx dy = _)⟩
  rw [← HX.out, ← HY.out, ← HR.out]
  have HB2 : Hid (∀ o1 o2, Below w.heap.size w ((w.alloc o1).alloc o2)) := fun o1 o2 => ((Below.refl _ _).alloc (Nat.le_refl _) _).alloc (by simp) _
  have HB3 : Hid (∀ o1 o2 o3, Below w.heap.size w (((w.alloc o1).alloc o2).alloc o3)) := fun o1 o2 o3 => (HB2.out _ _).alloc (by simp; omega) _
  cases e : (hx == hy)
  · have HE : Hid (R = hx) := by
      rw [HR.out]
      unfold lessV
      rw [if_pos (by rw [← HX.out, ← HY.out]; simpa using e), HX.out]; rfl
    go_enter Tryz.func266, Tryz.ntmps266
    go_wp2
    go_ret
    exact ⟨ret_bool HE.out.symm, HB2.out _ _⟩
  · have HE : Hid (R = decide (or3 (cmpI dx dy) (cmpI x.time y.time) (cmpI x.id y.id) < 0)) := by
      rw [HR.out]
      exact or3_less x y dx dy (by rw [← HX.out, ← HY.out]; exact e)
    obtain ⟨c1, HC1⟩ : ∃ r, Hid (r = cmpI dx dy) := ⟨_, (rfl : cmpI dx dy = _)⟩
    obtain ⟨c2, HC2⟩ : ∃ r, Hid (r = cmpI x.time y.time) := ⟨_, (rfl : cmpI x.time y.time = _)⟩
    obtain ⟨c3, HC3⟩ : ∃ r, Hid (r = cmpI x.id y.id) := ⟨_, (rfl : cmpI x.id y.id = _)⟩
    have k1 := fun W => compare_impl dx dy W
    have k2 := fun W => compare_impl x.time y.time W
    have k3 := fun W => compare_impl x.id y.id W
    rw [← HC1.out, ← HC2.out, ← HC3.out] at HE
    rw [← HC1.out] at k1
    rw [← HC2.out] at k2
    rw [← HC3.out] at k3
    obtain ⟨r, HRR⟩ : ∃ r, Hid (r = or3 c1 c2 c3) := ⟨_, (rfl : or3 c1 c2 c3 = _)⟩
    have ko := fun b W h0 h1 h2 => or3_impl c1 c2 c3 b W h0 h1 h2
    rw [← HRR.out] at ko HE
    go_enter Tryz.func266, Tryz.ntmps266
    go_wp2_with fail
    refine (k1 _).mono ?_
    rintro e w1 ⟨rfl, rfl⟩
    go_wp2_with fail
    refine (k2 _).mono ?_
    rintro e w1 ⟨rfl, rfl⟩
    go_wp2_with fail
    refine (k3 _).mono ?_
    rintro e w1 ⟨rfl, rfl⟩
    go_wp2_with fail
    refine (ko _ _ (by simp [go_sem]) (by simp [go_sem]) (by simp [go_sem])).mono ?_
    rintro e w1 ⟨rfl, rfl⟩
    go_wp2
    go_ret
    exact ⟨ret_bool HE.out.symm, HB3.out _ _ _⟩
end Go.Proofs.YteajcmkaoahbeaaGreatDoor
namespace Go.Proofs.YteajcmkaoahbeaaGreatDoor
open Go.RowKit

variable {w0 : World} {KK : Nat → Prop} {em : Int → Em} {dp : Int → Int} {hb g cap n : Nat} {f : Nat → Int} {W W' : World}
theorem tcell_size (z : Int) : (tcell em dp z).toArray.size = 11 := by simp [tcell_len]
theorem turn_info : (Tryz.prog.info? 140).map (·.size) = some 11 := by kernel_rfl
theorem load_any {ops : Array Oper} {op : Oper} {a : Act} (hw : Region.wanted op (yielded ops a.tmps) = true) {k : Nat} (hk : k < n) (x : Operand) (ho : op.op = .load 140 x) (hx : a.eval x = .pointer (some ⟨g, k * 11, none⟩)) : YieldsIf Tryz.prog ops (fun W => Tq w0 KK em dp hb g cap n f W) op (.agg (tcell em dp (f k)).toArray) a :=
  yieldsIf_load_mid hw 140 x ho g (k * 11) hx (tcell em dp (f k)) _ (fun _ h => h.range hk) Tryz.underlying140 rfl (by rw [tcell_len]; exact turn_info)
theorem ready_load_turn {ops : Array Oper} {Q : Exit → Act → World → Prop} {md : Region.Mode} {S : World → Prop} {fuel : Nat} {listed : Array Bool} {a : Act} {i : Nat} {x : Operand} {d : Option Nat} {rs : List Nat} {k : Nat}
    (h1 : (ops[i]?).map (fun o => (o.op, o.dst, o.guard)) = some (.load 140 x, d, none)) (h : Tq w0 KK em dp hb g cap n f W) (hk : k < n) (hx : a.eval x = .pointer (some ⟨g, k * 11, none⟩)) (hS : S W)
    (hn : wpAnyH Tryz.prog md ops Q S fuel (listed.setIfInBounds i true) (a.put d (.agg (tcell em dp (f k)).toArray)) W) (hs : AllReadyH Tryz.prog md ops Q S fuel listed a W rs) : AllReadyH Tryz.prog md ops Q S fuel listed a W (i :: rs) := by
  cases ho : ops[i]? with
  | none => rw [ho] at h1; cases h1
  | some o =>
    rw [ho] at h1
    simp only [Option.map_some, Option.some.injEq, Prod.mk.injEq] at h1
    obtain ⟨e1, e2, e3⟩ := h1
    refine AllReadyH.cons ho (fun K hK => ?_) hs
    rw [if_pos (by simp [Region.wanted, e3])]
    exact wp_load_mid 140 x e1 g (k * 11) hx (tcell em dp (f k)) _ (h.range hk) Tryz.underlying140 rfl (by rw [tcell_len]; exact turn_info) (hK.out _ _ hS fun _ => by rw [e2]; exact hn)
theorem ready_store_turn {ops : Array Oper} {Q : Exit → Act → World → Prop} {md : Region.Mode} {S : World → Prop} {fuel : Nat} {listed : Array Bool} {a : Act} {i : Nat} {x y : Operand} {d : Option Nat} {rs : List Nat} {k : Nat} (z : Int)
    (h1 : (ops[i]?).map (fun o => (o.op, o.dst, o.guard)) = some (.store 140 x y, d, none)) (h : Tq w0 KK em dp hb g cap n f W) (hk : k < n) (hx : a.eval x = .pointer (some ⟨g, k * 11, none⟩)) (hy : a.eval y = .agg (tcell em dp z).toArray) (hS : ∀ W', S W')
    (hn : ∀ W', Tq w0 KK em dp hb g cap n (putF f k z) W' → wpAnyH Tryz.prog md ops Q S fuel (listed.setIfInBounds i true) (a.put d undef) W') (hs : AllReadyH Tryz.prog md ops Q S fuel listed a W rs) : AllReadyH Tryz.prog md ops Q S fuel listed a W (i :: rs) := by
  cases ho : ops[i]? with
  | none => rw [ho] at h1; cases h1
  | some o =>
    rw [ho] at h1
    simp only [Option.map_some, Option.some.injEq, Prod.mk.injEq] at h1
    obtain ⟨e1, e2, e3⟩ := h1
    refine AllReadyH.cons ho (fun K hK => ?_) hs
    rw [if_pos (by simp [Region.wanted, e3])]
    exact wp_store_mid 140 x y e1 g (k * 11) (tcell em dp z).toArray hx hy (by rw [tcell_size]; exact h.there hk) (by rw [tcell_size]; exact turn_info) (all_oneCell_toArray (tcell_one em dp z)) (hK.out _ _ (hS _) fun _ => by rw [e2]; exact hn _ (h.put hk z))
theorem before_turn (a b : Int) (w : World) : Calls Tryz.prog 266 #[.agg (tcell em dp a).toArray, .agg (tcell em dp b).toArray] w fun e w' => e = .returned (.bool (lessT em dp a b)) ∧ Below w.heap.size w w' := by
  have := before_impl (em a).v (em b).v (em a).p (em b).p (em a).c (em b).c (dp a) (dp b) w
  simpa [tcell, emCells, lessT] using this
set_option maxHeartbeats 1000000 in
set_option maxRecDepth 100000 in
theorem len_turns (v : Value) (m cp : Nat) (a : Option Addr) (hv : v = .slice a m cp) (w : World) : Calls Tryz.prog 120 #[v] w fun e w' => e = .returned (.int .i64 m) ∧ w' = w := by
  subst hv
  go_enter Tryz.func120, Tryz.ntmps120
  go_wp2
  go_ret
  exact ⟨rfl, rfl⟩
set_option maxHeartbeats 4000000 in
set_option maxRecDepth 100000 in
theorem less_turns (i j : Nat) (h : Tq w0 KK em dp hb g cap n f W) (hi : i < n) (hj : j < n) : Calls Tryz.prog 262 #[.slice (some ⟨g, 0, none⟩) n cap, .int .i64 i, .int .i64 j] W fun e W' => e = .returned (.bool (lessT em dp (f i) (f j))) ∧ Tq w0 KK em dp hb g cap n f W' := by
  have HT : Hid (Tq w0 KK em dp hb g cap n f W.drew) := h.drew
  clear h
  go_enter Tryz.func262, Tryz.ntmps262
  go_wp2
  refine wp_region_held_drew (S := (fun W => Tq w0 KK em dp hb g cap n f W)) (by kernel_rfl) HT.out (fun hHeld => ?_)
  refine wpAnyH_take (i := 0) (v := (.slice (some ⟨g, 0, none⟩) n cap)) rfl (by kernel_rfl) (by kernel_rfl) (by kernel_rfl) (fun _ _ _ h => h) (Or.inl ⟨by kernel_rfl, ?_⟩) hHeld ?_
  · intro W hW
    go_simp
  refine wpAnyH_take (i := 1) (v := (.int .i64 i)) rfl (by kernel_rfl) (by kernel_rfl) (by kernel_rfl) (fun _ _ _ h => h) (Or.inl ⟨by kernel_rfl, ?_⟩) hHeld ?_
  · intro W hW
    go_simp
  refine wpAnyH_take (i := 2) (v := (.pointer (some ⟨g, i * 11, none⟩))) rfl (by kernel_rfl) (by kernel_rfl) (by kernel_rfl) (fun _ _ _ h => h) (Or.inl ⟨by kernel_rfl, ?_⟩) hHeld ?_
  · intro W hW
    go_simp
  refine wpAnyH_take (i := 3) (v := .agg (tcell em dp (f i)).toArray) rfl (by kernel_rfl) (by kernel_rfl) (by kernel_rfl) (fun _ _ _ h => h) (load_any (by kernel_rfl) hi (.tmp 9) rfl (by kernel_rfl)) hHeld ?_
  refine wpAnyH_take (i := 4) (v := (.slice (some ⟨g, 0, none⟩) n cap)) rfl (by kernel_rfl) (by kernel_rfl) (by kernel_rfl) (fun _ _ _ h => h) (Or.inl ⟨by kernel_rfl, ?_⟩) hHeld ?_
  · intro W hW
    go_simp
  refine wpAnyH_take (i := 5) (v := (.int .i64 j)) rfl (by kernel_rfl) (by kernel_rfl) (by kernel_rfl) (fun _ _ _ h => h) (Or.inl ⟨by kernel_rfl, ?_⟩) hHeld ?_
  · intro W hW
    go_simp
  refine wpAnyH_take (i := 6) (v := (.pointer (some ⟨g, j * 11, none⟩))) rfl (by kernel_rfl) (by kernel_rfl) (by kernel_rfl) (fun _ _ _ h => h) (Or.inl ⟨by kernel_rfl, ?_⟩) hHeld ?_
  · intro W hW
    go_simp
  refine wpAnyH_take (i := 7) (v := .agg (tcell em dp (f j)).toArray) rfl (by kernel_rfl) (by kernel_rfl) (by kernel_rfl) (fun _ _ _ h => h) (load_any (by kernel_rfl) hj (.tmp 13) rfl (by kernel_rfl)) hHeld ?_
  refine wpAnyH_ready (rs := [8]) (by kernel_rfl) (by simp) ?_
  refine AllReadyH.cons rfl (fun K hK => ?_) AllReadyH.nil
  go_simp
  refine (before_turn (f i) (f j) _).mono ?_
  rintro e w1 ⟨rfl, hb1⟩
  have HT1 : Hid (Tq w0 KK em dp hb g cap n f w1) := HT.out.on hb1
  clear hb1
  refine hK.out _ _ HT1.out (fun hH2 => ?_)
  clear hK K
  refine wpAnyH_ready (rs := [9]) (by kernel_rfl) (by simp) ?_
  refine AllReadyH.cons rfl (fun K hK => ?_) AllReadyH.nil
  go_simp
  refine hK.out _ _ HT1.out (fun _ => ?_)
  clear hK K
  refine wpAnyH_done (by kernel_rfl) ?_ _
  go_wp2
  go_ret
  exact ⟨rfl, HT1.out⟩
set_option maxHeartbeats 4000000 in
set_option maxRecDepth 100000 in
theorem swap_turns (i j : Nat) (h : Tq w0 KK em dp hb g cap n f W) (hi : i < n) (hj : j < n) : Calls Tryz.prog 265 #[.slice (some ⟨g, 0, none⟩) n cap, .int .i64 i, .int .i64 j] W fun e W' => e = .returned (.tuple #[]) ∧ Tq w0 KK em dp hb g cap n (xchF f i j) W' := by
  have HT : Hid (Tq w0 KK em dp hb g cap n f W.drew) := h.drew
  clear h
  go_enter Tryz.func265, Tryz.ntmps265
  go_wp2
  refine wp_region_held_drew (S := (fun _ => True)) (by kernel_rfl) trivial (fun _ => ?_)
  refine wpAnyH_take (i := 0) (v := (.slice (some ⟨g, 0, none⟩) n cap)) rfl (by kernel_rfl) (by kernel_rfl) (by kernel_rfl) (fun _ _ _ h => h) (Or.inl ⟨by kernel_rfl, ?_⟩) trivial ?_
  · intro W hW
    go_simp
  refine wpAnyH_take (i := 1) (v := (.int .i64 i)) rfl (by kernel_rfl) (by kernel_rfl) (by kernel_rfl) (fun _ _ _ h => h) (Or.inl ⟨by kernel_rfl, ?_⟩) trivial ?_
  · intro W hW
    go_simp
  refine wpAnyH_take (i := 2) (v := (.slice (some ⟨g, 0, none⟩) n cap)) rfl (by kernel_rfl) (by kernel_rfl) (by kernel_rfl) (fun _ _ _ h => h) (Or.inl ⟨by kernel_rfl, ?_⟩) trivial ?_
  · intro W hW
    go_simp
  refine wpAnyH_take (i := 3) (v := (.int .i64 j)) rfl (by kernel_rfl) (by kernel_rfl) (by kernel_rfl) (fun _ _ _ h => h) (Or.inl ⟨by kernel_rfl, ?_⟩) trivial ?_
  · intro W hW
    go_simp
  refine wpAnyH_take (i := 4) (v := (.slice (some ⟨g, 0, none⟩) n cap)) rfl (by kernel_rfl) (by kernel_rfl) (by kernel_rfl) (fun _ _ _ h => h) (Or.inl ⟨by kernel_rfl, ?_⟩) trivial ?_
  · intro W hW
    go_simp
  refine wpAnyH_take (i := 5) (v := (.int .i64 j)) rfl (by kernel_rfl) (by kernel_rfl) (by kernel_rfl) (fun _ _ _ h => h) (Or.inl ⟨by kernel_rfl, ?_⟩) trivial ?_
  · intro W hW
    go_simp
  refine wpAnyH_take (i := 6) (v := (.pointer (some ⟨g, j * 11, none⟩))) rfl (by kernel_rfl) (by kernel_rfl) (by kernel_rfl) (fun _ _ _ h => h) (Or.inl ⟨by kernel_rfl, ?_⟩) trivial ?_
  · intro W hW
    go_simp
  refine wpAnyH_take (i := 8) (v := (.slice (some ⟨g, 0, none⟩) n cap)) rfl (by kernel_rfl) (by kernel_rfl) (by kernel_rfl) (fun _ _ _ h => h) (Or.inl ⟨by kernel_rfl, ?_⟩) trivial ?_
  · intro W hW
    go_simp
  refine wpAnyH_take (i := 9) (v := (.int .i64 i)) rfl (by kernel_rfl) (by kernel_rfl) (by kernel_rfl) (fun _ _ _ h => h) (Or.inl ⟨by kernel_rfl, ?_⟩) trivial ?_
  · intro W hW
    go_simp
  refine wpAnyH_take (i := 10) (v := (.pointer (some ⟨g, i * 11, none⟩))) rfl (by kernel_rfl) (by kernel_rfl) (by kernel_rfl) (fun _ _ _ h => h) (Or.inl ⟨by kernel_rfl, ?_⟩) trivial ?_
  · intro W hW
    go_simp
  refine wpAnyH_ready (rs := [7, 11]) (by kernel_rfl) (by simp) ?_
  refine ready_load_turn (i := 7) (x := .tmp 12) (d := some 13) (by kernel_rfl) HT.out hj (by kernel_rfl) trivial ?_ (ready_load_turn (i := 11) (x := .tmp 16) (d := some 17) (by kernel_rfl) HT.out hi (by kernel_rfl) trivial ?_ AllReadyH.nil)
  · refine wpAnyH_ready (rs := [11]) (by kernel_rfl) (by simp) ?_
    refine ready_load_turn (i := 11) (x := .tmp 16) (d := some 17) (by kernel_rfl) HT.out hi (by kernel_rfl) trivial ?_ AllReadyH.nil
    refine wpAnyH_take (i := 12) (v := (.pointer (some ⟨g, i * 11, none⟩))) rfl (by kernel_rfl) (by kernel_rfl) (by kernel_rfl) (fun _ _ _ h => h) (Or.inl ⟨by kernel_rfl, ?_⟩) trivial ?_
    · intro W hW
      go_simp
    refine wpAnyH_ready (rs := [13]) (by kernel_rfl) (by simp) ?_
    refine ready_store_turn (f j) (i := 13) (x := .tmp 18) (y := .tmp 13) (d := none) (by kernel_rfl) HT.out hi (by kernel_rfl) (by kernel_rfl) (fun _ => trivial) (fun W1 HT1 => ?_) AllReadyH.nil
    refine wpAnyH_take (i := 14) (v := (.pointer (some ⟨g, j * 11, none⟩))) rfl (by kernel_rfl) (by kernel_rfl) (by kernel_rfl) (fun _ _ _ h => h) (Or.inl ⟨by kernel_rfl, ?_⟩) trivial ?_
    · intro W hW
      go_simp
    refine wpAnyH_ready (rs := [15]) (by kernel_rfl) (by simp) ?_
    refine ready_store_turn (f i) (i := 15) (x := .tmp 19) (y := .tmp 17) (d := none) (by kernel_rfl) HT1 hj (by kernel_rfl) (by kernel_rfl) (fun _ => trivial) (fun W2 HT2 => ?_) AllReadyH.nil
    refine wpAnyH_done (by kernel_rfl) ?_ _
    go_wp2
    go_end0
    exact ⟨rfl, by rw [← xch_put]; exact HT2⟩
  · refine wpAnyH_ready (rs := [7]) (by kernel_rfl) (by simp) ?_
    refine ready_load_turn (i := 7) (x := .tmp 12) (d := some 13) (by kernel_rfl) HT.out hj (by kernel_rfl) trivial ?_ AllReadyH.nil
    refine wpAnyH_take (i := 12) (v := (.pointer (some ⟨g, i * 11, none⟩))) rfl (by kernel_rfl) (by kernel_rfl) (by kernel_rfl) (fun _ _ _ h => h) (Or.inl ⟨by kernel_rfl, ?_⟩) trivial ?_
    · intro W hW
      go_simp
    refine wpAnyH_ready (rs := [13]) (by kernel_rfl) (by simp) ?_
    refine ready_store_turn (f j) (i := 13) (x := .tmp 18) (y := .tmp 13) (d := none) (by kernel_rfl) HT.out hi (by kernel_rfl) (by kernel_rfl) (fun _ => trivial) (fun W1 HT1 => ?_) AllReadyH.nil
    refine wpAnyH_take (i := 14) (v := (.pointer (some ⟨g, j * 11, none⟩))) rfl (by kernel_rfl) (by kernel_rfl) (by kernel_rfl) (fun _ _ _ h => h) (Or.inl ⟨by kernel_rfl, ?_⟩) trivial ?_
    · intro W hW
      go_simp
    refine wpAnyH_ready (rs := [15]) (by kernel_rfl) (by simp) ?_
    refine ready_store_turn (f i) (i := 15) (x := .tmp 19) (y := .tmp 17) (d := none) (by kernel_rfl) HT1 hj (by kernel_rfl) (by kernel_rfl) (fun _ => trivial) (fun W2 HT2 => ?_) AllReadyH.nil
    refine wpAnyH_done (by kernel_rfl) ?_ _
    go_wp2
    go_end0
    exact ⟨rfl, by rw [← xch_put]; exact HT2⟩
end Go.Proofs.YteajcmkaoahbeaaGreatDoor
