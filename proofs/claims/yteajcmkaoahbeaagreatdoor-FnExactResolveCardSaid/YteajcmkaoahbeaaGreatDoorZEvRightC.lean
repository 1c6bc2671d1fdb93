/- The contracts of l02Prev and prevRight: whether what an event stands behind may be so. The contracts of EventRight, the specification's and the program's. An event's body, kind by kind, as the program's deeds have it. The program's EventRight, kind by kind. -/
import Derived.Test.YteajcmkaoahbeaaGreatDoorZGrPlain
import Derived.WalkSmall
import Derived.Test.YteajcmkaoahbeaaGreatDoorZEvBody
import Derived.Test.YteajcmkaoahbeaaGreatDoorZEvDeed
namespace Go.Proofs.YteajcmkaoahbeaaGreatDoor
open Go.RowKit

/-- The number ahead of place k. -/
def lastAt (zs : List Int) (k : Nat) : Int := if k = 0 then 0 else zs.getD (k - 1) 0
theorem lastAt_next {zs : List Int} {k : Nat} (h : k < zs.length) : lastAt zs (k + 1) = zs[k] := by simp [lastAt, h]

set_option maxHeartbeats 1000000 in
theorem prev_spec (zs : List Int) (a : Option Addr) (cap : Nat) (id : Int) (w : World) (hn : NumsAt w a zs) :
    Calls Tryz.prog 141 #[.slice a zs.length cap, .int .i64 id] w fun e w' => e = .returned (.bool (decide (zs.length ≤ 4) && prevOk id 0 zs)) ∧ Below w.heap.size w w' := by
  have hl := hn.1
  have HN : Hid (NumsAt w a zs) := hn
  clear hn
  by_cases h4 : zs.length ≤ 4
  · have HE : Hid ((decide (zs.length ≤ 4) && prevOk id 0 zs) = prevOk id 0 zs) := by unfold Hid; simp [h4]
    go_enter Tryz.func141, Tryz.ntmps141
    go_wp2
    go_loopw [5] (fun i wr => ∃ k : Nat, k ≤ zs.length ∧ i = .int .i64 k ∧ Hid (prevOk id 0 zs = prevOk id (lastAt zs k) (zs.drop k)) ∧ Below w.heap.size w wr) (fun i _ => zs.length - (intOf i).toNat)
    case atStart => exact ⟨0, Nat.zero_le _, rfl, rfl, Below.refl _ _⟩
    case round =>
      obtain ⟨k, hk, rfl, HP, hbw⟩ := hrel
      by_cases hlt : k < zs.length
      · obtain ⟨b, off, rfl, hbb, hcell⟩ := HN.out.2 (by omega)
        have hck : wr.cell? ⟨b, off + k, none⟩ = some (.int .i64 zs[k]) := (hbw.cell (p := ⟨b, off + k, none⟩) hbb).trans (hcell k hlt)
        have HS : Hid (prevOk id 0 zs = (decide (lastAt zs k < zs[k]) && isB zs[k] 1 1000000 && !(zs[k] == id) && prevOk id zs[k] (zs.drop (k + 1)))) := HP.out.trans (prevOk_drop hlt)
        have HL : Hid (lastAt zs (k + 1) = zs[k]) := lastAt_next hlt
        have HQ : Hid (∀ n, Below w.heap.size w (wr.drewN n)) := fun n => below_drewN hbw n
        cases h1 : isB zs[k] 1 1000000
        · go_wp2
          go_quiet ((go_at_call 138; exact quiet_sym (id_spec _ _)))
          go_wp2
          go_ret
          exact ⟨ret_bool (by rw [HE.out, HS.out, h1]; simp), HQ.out _⟩
        cases h2 : zs[k] == id
        · rcases k with _ | m
          · have hc0 : wr.cell? ⟨b, off, none⟩ = some (.int .i64 zs[0]) := hck
            clear hck
            go_wp2
            go_quiet ((go_at_call 138; exact quiet_sym (id_spec _ _)))
            go_wp2
            go_roundw
            case rel => exact ⟨1, by omega, rfl, (by unfold Hid; rw [HS.out, h1, h2, HL.out]; have := (isB_yes h1).1; simp [lastAt]; intro _; omega), HQ.out _⟩
            case measure => simp [intOf]; omega
          · have hcm : wr.cell? ⟨b, off + m, none⟩ = some (.int .i64 zs[m]) := (hbw.cell (p := ⟨b, off + m, none⟩) hbb).trans (hcell m (by omega))
            have HM : Hid (lastAt zs (m + 1) = zs[m]) := lastAt_next (by omega)
            cases h3 : decide (zs[m + 1] ≤ zs[m])
            · go_wp2
              go_quiet ((go_at_call 138; exact quiet_sym (id_spec _ _)))
              go_wp2
              go_roundw
              case rel => exact ⟨m + 2, by omega, by go_num, (by unfold Hid; rw [HS.out, h1, h2, HL.out, HM.out]; have := of_decide_eq_false h3; simp; intro _; omega), HQ.out _⟩
              case measure => simp [intOf]; omega
            · go_wp2
              go_quiet ((go_at_call 138; exact quiet_sym (id_spec _ _)))
              go_wp2
              go_ret
              exact ⟨ret_bool (by rw [HE.out, HS.out, HM.out]; have := of_decide_eq_true h3; simp; omega), HQ.out _⟩
        · go_wp2
          go_quiet ((go_at_call 138; exact quiet_sym (id_spec _ _)))
          go_wp2
          go_ret
          exact ⟨ret_bool (by rw [HE.out, HS.out, h2]; simp), HQ.out _⟩
      · have HX : Hid (prevOk id 0 zs = true) := by unfold Hid; rw [HP.out, List.drop_eq_nil_of_le (by omega)]; rfl
        go_wp2
        go_ret
        exact ⟨ret_bool (by rw [HE.out, HX.out]), hbw⟩
  · go_enter Tryz.func141, Tryz.ntmps141
    go_wp2
    go_ret
    exact ⟨ret_bool (by simp [h4]), Below.refl _ _⟩

set_option maxHeartbeats 1000000 in
theorem prev_impl_same (v : Ev) (a : Option Addr) (cap : Nat) (w : World) (hn : NumsAt w a v.prev) (c : Bool) (h1 : (v.kind == 1) = c) (h0 : ((v.prev.length : Int) == 0) = c) :
    Calls Tryz.prog 177 #[.agg #[.int .i64 v.id, .int .i64 v.room, .int .i64 v.author, .int .i64 v.kind, .int .i64 v.key, .int .i64 v.n, .string v.text, .slice a v.prev.length cap, .int .i64 v.time]] w fun e w' => e = .returned (.bool (decide (v.prev.length ≤ 4) && prevOk v.id 0 v.prev)) ∧ Below w.heap.size w w' := by
  have hl := hn.1
  have HN : Hid (NumsAt w a v.prev) := hn
  clear hn
  by_cases h4 : v.prev.length ≤ 4
  · have HE : Hid ((decide (v.prev.length ≤ 4) && prevOk v.id 0 v.prev) = prevOk v.id 0 v.prev) := by unfold Hid; simp [h4]
    have b4 : decide (4 < (v.prev.length : Int)) = false := by simp; omega
    go_enter Tryz.func177, Tryz.ntmps177
    go_wp2
    go_loop [4, 25] (fun l i => ∃ k : Nat, k ≤ v.prev.length ∧ i = .int .i64 k ∧ l = .int .i64 (lastAt v.prev k) ∧ Hid (prevOk v.id 0 v.prev = prevOk v.id (lastAt v.prev k) (v.prev.drop k))) (fun _ i => v.prev.length - (intOf i).toNat)
    case atStart => exact ⟨0, Nat.zero_le _, rfl, rfl, rfl⟩
    case round =>
      obtain ⟨k, hk, rfl, rfl, HP⟩ := hrel
      by_cases hlt : k < v.prev.length
      · obtain ⟨b, off, rfl, hbb, hcell⟩ := HN.out.2 (by omega)
        have hck := hcell k hlt
        have HS : Hid (prevOk v.id 0 v.prev = (decide (lastAt v.prev k < v.prev[k]) && isB v.prev[k] 1 1000000 && !(v.prev[k] == v.id) && prevOk v.id v.prev[k] (v.prev.drop (k + 1)))) := HP.out.trans (prevOk_drop hlt)
        have HL : Hid (lastAt v.prev (k + 1) = v.prev[k]) := lastAt_next hlt
        clear hcell
        cases h3 : decide (v.prev[k] ≤ lastAt v.prev k)
        · cases h5 : isB v.prev[k] 1 1000000
          · go_wp2_with (go_at_call 150; refine (id_impl _ _).mono ?_; rintro e w' ⟨rfl, rfl⟩)
            go_ret
            exact ⟨ret_bool (by rw [HE.out, HS.out, h5]; simp), (Below.refl _ _).alloc (Nat.le_refl _) _⟩
          · cases h2 : v.prev[k] == v.id
            · go_wp2_with (go_at_call 150; refine (id_impl _ _).mono ?_; rintro e w' ⟨rfl, rfl⟩)
              go_round
              case rel => exact ⟨k + 1, by omega, by go_num, by rw [HL.out], (by unfold Hid; rw [HS.out, h5, h2, HL.out]; have := of_decide_eq_false h3; simp; intro _; omega)⟩
              case measure => simp [intOf]; omega
            · go_wp2_with (go_at_call 150; refine (id_impl _ _).mono ?_; rintro e w' ⟨rfl, rfl⟩)
              go_ret
              exact ⟨ret_bool (by rw [HE.out, HS.out, h2]; simp), (Below.refl _ _).alloc (Nat.le_refl _) _⟩
        · go_wp2
          go_ret
          exact ⟨ret_bool (by (first | rw [HE.out, HS.out] | rw [HS.out]); have := of_decide_eq_true h3; simp; omega), (Below.refl _ _).alloc (Nat.le_refl _) _⟩
      · have HX : Hid (prevOk v.id 0 v.prev = true) := by unfold Hid; rw [HP.out, List.drop_eq_nil_of_le (by omega)]; rfl
        go_wp2
        go_ret
        exact ⟨ret_bool (by first | rw [HE.out, HX.out] | rw [HX.out]), (Below.refl _ _).alloc (Nat.le_refl _) _⟩
  · have b4 : decide (4 < (v.prev.length : Int)) = true := by simp; omega
    go_enter Tryz.func177, Tryz.ntmps177
    go_wp2
    go_ret
    exact ⟨ret_bool (by simp [h4]), (Below.refl _ _).alloc (Nat.le_refl _) _⟩

set_option maxHeartbeats 1000000 in
theorem prev_impl (v : Ev) (a : Option Addr) (cap : Nat) (w : World) (hn : NumsAt w a v.prev) :
    Calls Tryz.prog 177 #[.agg #[.int .i64 v.id, .int .i64 v.room, .int .i64 v.author, .int .i64 v.kind, .int .i64 v.key, .int .i64 v.n, .string v.text, .slice a v.prev.length cap, .int .i64 v.time]] w fun e w' => e = .returned (.bool (prevB v)) ∧ Below w.heap.size w w' := by
  have hl := hn.1
  have HN : Hid (NumsAt w a v.prev) := hn
  have HE : Hid (prevB v = (decide (v.prev.length ≤ 4) && ((v.kind == 1) == (v.prev.length == 0)) && prevOk v.id 0 v.prev)) := rfl
  have hi : ((v.prev.length : Int) == 0) = (v.prev.length == 0) := by rw [Bool.eq_iff_iff]; simp
  clear hn
  cases h1 : v.kind == 1
  all_goals cases h0 : v.prev.length == 0
  all_goals rw [h0] at hi
  · rw [show prevB v = (decide (v.prev.length ≤ 4) && prevOk v.id 0 v.prev) by rw [HE.out, h1, h0]; simp]
    exact prev_impl_same v a cap w HN.out false h1 hi
  · have HX : Hid (prevB v = false) := by unfold Hid; rw [HE.out, h1, h0]; simp
    clear h0
    go_enter Tryz.func177, Tryz.ntmps177
    go_wp2
    go_ret
    exact ⟨ret_bool HX.out.symm, (Below.refl _ _).alloc (Nat.le_refl _) _⟩
  · have HX : Hid (prevB v = false) := by unfold Hid; rw [HE.out, h1, h0]; simp
    clear h0
    go_enter Tryz.func177, Tryz.ntmps177
    go_wp2
    go_ret
    exact ⟨ret_bool HX.out.symm, (Below.refl _ _).alloc (Nat.le_refl _) _⟩
  · rw [show prevB v = (decide (v.prev.length ≤ 4) && prevOk v.id 0 v.prev) by rw [HE.out, h1, h0]; simp]
    exact prev_impl_same v a cap w HN.out true h1 hi
end Go.Proofs.YteajcmkaoahbeaaGreatDoor
namespace Go.Proofs.YteajcmkaoahbeaaGreatDoor
open Go.RowKit

theorem len_zero (l : List Int) : ((l.length : Int) == 0) = (l.length == 0) := by rw [Bool.eq_iff_iff]; simp
theorem rightB_eq (v : Ev) : rightB v = (isB v.id 1 1000000 && isB v.room 1 3 && isB v.author 1 6 && isB v.time 0 1000000 && (decide (v.prev.length ≤ 4) && prevOk v.id 0 v.prev) && ((v.kind == 1) == (v.prev.length == 0)) && bodyB v) := by
  unfold rightB headB prevB
  generalize decide (v.prev.length ≤ 4) = a
  generalize prevOk v.id 0 v.prev = b
  generalize ((v.kind == 1) == (v.prev.length == 0)) = c
  cases a <;> cases b <;> cases c <;> simp

set_option maxHeartbeats 2000000 in
theorem right_spec (v : Ev) (a : Option Addr) (cap : Nat) (w : World) (hn : NumsAt w a v.prev) :
    Calls Tryz.prog 96 #[.agg #[.int .i64 v.id, .int .i64 v.room, .int .i64 v.author, .int .i64 v.kind, .int .i64 v.key, .int .i64 v.n, .string v.text, .slice a v.prev.length cap, .int .i64 v.time]] w fun e w' => e = .returned (.bool (rightB v)) ∧ Below w.heap.size w w' := by
  have hl := hn.1
  have HN : Hid (∀ o, NumsAt (w.alloc o) a v.prev) := fun o => hn.kept ((Below.refl _ _).alloc (Nat.le_refl _) _)
  have HR := rightB_eq v
  have HE : Hid (rightB v = (isB v.id 1 1000000 && isB v.room 1 3 && isB v.author 1 6 && isB v.time 0 1000000 && (decide (v.prev.length ≤ 4) && prevOk v.id 0 v.prev) && ((v.kind == 1) == (v.prev.length == 0)) && bodyB v)) := HR
  have hi := len_zero v.prev
  clear hn HR
  go_enter Tryz.func96, Tryz.ntmps96
  go_wp2_with fail
  refine (id_spec _ _).mono ?_
  rintro e w' ⟨rfl, rfl⟩
  cases c1 : isB v.id 1 1000000
  · go_wp2
    go_ret
    exact ⟨ret_bool (by rw [HE.out, c1]; simp), (Below.refl _ _).alloc (Nat.le_refl _) _⟩
  go_wp2_with fail
  refine (is_spec _ _ _ _).mono ?_
  rintro e w' ⟨rfl, rfl⟩
  cases c2 : isB v.room 1 3
  · go_wp2
    go_ret
    exact ⟨ret_bool (by rw [HE.out, c2]; simp), (Below.refl _ _).alloc (Nat.le_refl _) _⟩
  go_wp2_with fail
  refine (user_spec _ _).mono ?_
  rintro e w' ⟨rfl, rfl⟩
  cases c3 : isB v.author 1 6
  · go_wp2
    go_ret
    exact ⟨ret_bool (by rw [HE.out, c3]; simp), (Below.refl _ _).alloc (Nat.le_refl _) _⟩
  go_wp2_with fail
  refine (time_spec _ _).mono ?_
  rintro e w' ⟨rfl, rfl⟩
  cases c4 : isB v.time 0 1000000
  · go_wp2
    go_ret
    exact ⟨ret_bool (by rw [HE.out, c4]; simp), (Below.refl _ _).alloc (Nat.le_refl _) _⟩
  go_wp2_with fail
  refine (prev_spec v.prev a cap v.id _ (HN.out _)).mono ?_
  rintro e w1 ⟨rfl, hb1⟩
  obtain ⟨hc1, hf1⟩ := bcell hb1
  have HB : Hid (Below w.heap.size w w1) := ((Below.refl _ _).alloc (Nat.le_refl _) _).trans (hb1.mono (by simp))
  have hz1 : w.heap.size < w1.heap.size := by have := hb1.size; simp at this; omega
  cases c5 : (decide (v.prev.length ≤ 4) && prevOk v.id 0 v.prev)
  · go_wp2
    go_ret
    exact ⟨ret_bool (by rw [HE.out, c5]; simp), HB.out⟩
  have C5 : Hid ((decide (v.prev.length ≤ 4) && prevOk v.id 0 v.prev) = true) := c5
  clear c5
  cases c6 : v.kind == 1
  all_goals cases c7 : v.prev.length == 0
  all_goals rw [c7] at hi
  · go_wp2_with fail
    refine (body_spec v a v.prev.length cap _).mono ?_
    rintro e w2 ⟨rfl, hb2⟩
    go_wp2
    go_ret
    exact ⟨ret_bool (by rw [HE.out, c1, c2, c3, c4, C5.out, c6, c7]; simp), HB.out.trans (hb2.mono (by omega))⟩
  · go_wp2
    go_ret
    exact ⟨ret_bool (by rw [HE.out, c6, c7]; simp), HB.out⟩
  · go_wp2
    go_ret
    exact ⟨ret_bool (by rw [HE.out, c6, c7]; simp), HB.out⟩
  · go_wp2_with fail
    refine (body_spec v a v.prev.length cap _).mono ?_
    rintro e w2 ⟨rfl, hb2⟩
    go_wp2
    go_ret
    exact ⟨ret_bool (by rw [HE.out, c1, c2, c3, c4, C5.out, c6, c7]; simp), HB.out.trans (hb2.mono (by omega))⟩
end Go.Proofs.YteajcmkaoahbeaaGreatDoor
namespace Go.Proofs.YteajcmkaoahbeaaGreatDoor
open Go.RowKit

theorem body_creation (v : Ev) (hk : v.kind = 1) : bodyB v = ((v.key == 0) && (v.n == 0) && (v.text.size == 0)) := by simp [bodyB, hk]
theorem body_coming (v : Ev) (hk : v.kind = 2) : bodyB v = ((isB v.key 1 6) && (isB v.n 1 4) && (v.text.size == 0)) := by simp [bodyB, hk]
theorem body_might (v : Ev) (hk : v.kind = 3) : bodyB v = ((isB v.key 1 6) && (isB v.n 0 100) && (v.text.size == 0)) := by simp [bodyB, hk]
theorem body_topic (v : Ev) (hk : v.kind = 4) : bodyB v = ((v.key == 0) && (v.n == 0) && (decide (v.text.size ≤ 30))) := by simp [bodyB, hk]
theorem body_door (v : Ev) (hk : v.kind = 5) : bodyB v = ((v.key == 0) && (isB v.n 1 2) && (v.text.size == 0)) := by simp [bodyB, hk]
theorem body_sight (v : Ev) (hk : v.kind = 6) : bodyB v = ((v.key == 0) && (isB v.n 1 3) && (v.text.size == 0)) := by simp [bodyB, hk]
theorem body_saying (v : Ev) (hk : v.kind = 7) : bodyB v = ((v.key == 0) && (v.n == 0) && (decide (1 ≤ v.text.size) && decide (v.text.size ≤ 30))) := by simp [bodyB, hk, Bool.and_assoc]
theorem body_hiding (v : Ev) (hk : v.kind = 8) : bodyB v = ((isB v.key 1 1000000) && (v.n == 0) && (v.text.size == 0)) := by simp [bodyB, hk]
theorem body_unknown (v : Ev) (k1 : (v.kind == 1) = false) (k2 : (v.kind == 2) = false) (k3 : (v.kind == 3) = false) (k4 : (v.kind == 4) = false) (k5 : (v.kind == 5) = false) (k6 : (v.kind == 6) = false) (k7 : (v.kind == 7) = false) (k8 : (v.kind == 8) = false) : bodyB v = false := by
  simp only [beq_eq_false_iff_ne, ne_eq] at k1 k2 k3 k4 k5 k6 k7 k8
  simp [bodyB, k1, k2, k3, k4, k5, k6, k7, k8]
theorem of_topic {v : Ev} {b : Bool} (h : decide ((v.text.size : Int) ≤ 30) = b) : decide (v.text.size ≤ 30) = b := by rw [← h]; exact decide_eq_decide.2 (by omega)
theorem eqin_details (k1 n1 k2 n2 : Int) (t1 t2 : ByteArray) (W : World) : (Op.equalIn 10000 271 (.agg #[.int .i64 k1, .int .i64 n1, .string t1]) (.agg #[.int .i64 k2, .int .i64 n2, .string t2])).run Tryz.prog W = .ok (k1 == k2 && n1 == n2 && t1.toList == t2.toList) W := by
  cases h1 : k1 == k2
  · go_simp
  · cases h2 : n1 == n2
    · go_simp
    · go_simp
      split <;> simp_all
theorem zero_eq (x : Int) : (0 == x) = (x == 0) := by rw [Bool.eq_iff_iff]; simp; omega
theorem of_saying {v : Ev} {b : Bool} (h : ((!v.text.toList.isEmpty) && decide ((v.text.size : Int) ≤ 30)) = b) : (decide (1 ≤ v.text.size) && decide (v.text.size ≤ 30)) = b := by
  rw [← h, empty_size, Bool.eq_iff_iff]
  simp only [Bool.and_eq_true, decide_eq_true_eq, Bool.not_eq_true', beq_eq_false_iff_ne, ne_eq]
  omega
end Go.Proofs.YteajcmkaoahbeaaGreatDoor
namespace Go.Proofs.YteajcmkaoahbeaaGreatDoor
open Go.RowKit

set_option maxHeartbeats 2000000 in
theorem deed_right_saying (v : Ev) (a : Option Addr) (cap : Nat) (w : World) (hk : v.kind = 7) (c1 : isB v.id 1 1000000 = true) (c2 : isB v.room 1 3 = true) (c3 : isB v.author 1 6 = true) (c4 : isB v.time 0 1000000 = true) :
    Calls Tryz.prog 176 #[.agg #[.int .i64 v.id, .int .i64 v.room, .int .i64 v.author, .int .i64 v.kind, .int .i64 v.key, .int .i64 v.n, .string v.text, .slice a v.prev.length cap, .int .i64 v.time]] w fun e w' => e = .returned (.bool (bodyB v)) ∧ Below w.heap.size w w' := by
  have HB : Hid (bodyB v = ((v.key == 0) && (v.n == 0) && (decide (1 ≤ v.text.size) && decide (v.text.size ≤ 30)))) := body_saying v hk
  have HK : Hid (v.kind = 7) := hk
  clear hk
  have hm1 : ∀ W, (method 459 295 (.agg #[.string v.text]) "loop.example/g00683/impl.right").run Tryz.prog W = .ok (296, .agg #[.string v.text]) W := fun _ => by kernel_rfl
  have hm2 : ∀ W, (method 459 295 (.agg #[.string v.text]) "loop.example/g00683/impl.tells").run Tryz.prog W = .ok (297, .agg #[.string v.text]) W := fun _ => by kernel_rfl
  go_enter Tryz.func176, Tryz.ntmps176
  go_wp2_with (first
    | (go_at_call 150; refine (id_impl _ _).mono ?_; rintro e w' ⟨rfl, rfl⟩)
    | (go_at_call 108; refine (room_impl _ _).mono ?_; rintro e w' ⟨rfl, rfl⟩)
    | (go_at_call 203; refine (user_impl _ _).mono ?_; rintro e w' ⟨rfl, rfl⟩)
    | (go_at_call 204; refine (time_impl _ _).mono ?_; rintro e w' ⟨rfl, rfl⟩)
    | (go_at_call 200; refine (deed_saying _ _ _ _ _ _ _ _ _ _ _ _ HK.out).mono ?_; rintro e w2 ⟨rfl, hb2⟩; obtain ⟨hc2, hf2⟩ := bcell hb2; have HC : Hid (Below w.heap.size w w2) := ((Below.refl _ _).alloc (Nat.le_refl _) _).trans (hb2.mono (by simp)); have hz2 : w.heap.size < w2.heap.size := by have := hb2.size; simp at this; omega))
  cases c0 : ((!v.text.toList.isEmpty) && decide ((v.text.size : Int) ≤ 30))
  · first | (go_region_with (first
        | (go_at_call 296; refine (right_saying _ _).mono ?_; rintro e w3 ⟨he, hb3⟩; rw [c0] at he; subst he; have hc3 : ∀ b o, b < w2.heap.size → w3.cell? ⟨b, o, none⟩ = w2.cell? ⟨b, o, none⟩ := (bcell hb3).1; have hz3 : w.heap.size < w3.heap.size := Nat.lt_of_lt_of_le hz2 hb3.size)
        | (go_at_call 297; refine (tells_saying _ _).mono ?_; rintro e w4 ⟨rfl, hb4⟩; obtain ⟨hc4, hf4⟩ := bcell hb4; have hz4 : w.heap.size < w4.heap.size := Nat.lt_of_lt_of_le hz3 hb4.size)
        | (go_at_call 205; refine (details_impl _ _ _ _ _ _ _ _ _ _ _ _).mono ?_; rintro e w5 ⟨rfl, hb5⟩; obtain ⟨hc5, hf5⟩ := bcell hb5))) | fail
    all_goals go_wp2
    all_goals go_ret
    all_goals exact ⟨ret_bool (by rw [HB.out, of_saying c0]; simp), HC.out.trans (Below.drew (Below.refl _ _) |>.trans (hb3.mono (Nat.le_of_lt hz2)))⟩
  have heq : ∀ k1 n1 k2 n2 t1 t2 W, (Op.equalIn 10000 271 (.agg #[.int .i64 k1, .int .i64 n1, .string t1]) (.agg #[.int .i64 k2, .int .i64 n2, .string t2])).run Tryz.prog W = .ok (k1 == k2 && n1 == n2 && t1.toList == t2.toList) W := eqin_details
  first | (go_region_with (first
      | (go_at_call 296; refine (right_saying _ _).mono ?_; rintro e w3 ⟨he, hb3⟩; rw [c0] at he; subst he; have hc3 : ∀ b o, b < w2.heap.size → w3.cell? ⟨b, o, none⟩ = w2.cell? ⟨b, o, none⟩ := (bcell hb3).1; have hz3 : w.heap.size < w3.heap.size := Nat.lt_of_lt_of_le hz2 hb3.size)
      | (go_at_call 297; refine (tells_saying _ _).mono ?_; rintro e w4 ⟨rfl, hb4⟩; obtain ⟨hc4, hf4⟩ := bcell hb4; have hz4 : w.heap.size < w4.heap.size := Nat.lt_of_lt_of_le hz3 hb4.size)
      | (go_at_call 205; refine (details_impl _ _ _ _ _ _ _ _ _ _ _ _).mono ?_; rintro e w5 ⟨rfl, hb5⟩; obtain ⟨hc5, hf5⟩ := bcell hb5))) | fail
  all_goals go_wp2
  all_goals go_ret
  all_goals refine ⟨ret_bool ?_, HC.out.trans (Below.drew (Below.refl _ _) |>.trans ((hb3.mono (Nat.le_of_lt hz2)).trans ((hb4.mono (Nat.le_of_lt hz3)).trans (hb5.mono (Nat.le_of_lt hz4)))))⟩
  all_goals rw [HB.out, of_saying c0]
  all_goals rw [zero_eq v.key, zero_eq v.n, Bool.and_true]
set_option maxHeartbeats 2000000 in
theorem deed_right_hiding (v : Ev) (a : Option Addr) (cap : Nat) (w : World) (hk : v.kind = 8) (c1 : isB v.id 1 1000000 = true) (c2 : isB v.room 1 3 = true) (c3 : isB v.author 1 6 = true) (c4 : isB v.time 0 1000000 = true) :
    Calls Tryz.prog 176 #[.agg #[.int .i64 v.id, .int .i64 v.room, .int .i64 v.author, .int .i64 v.kind, .int .i64 v.key, .int .i64 v.n, .string v.text, .slice a v.prev.length cap, .int .i64 v.time]] w fun e w' => e = .returned (.bool (bodyB v)) ∧ Below w.heap.size w w' := by
  have HB : Hid (bodyB v = ((isB v.key 1 1000000) && (v.n == 0) && (v.text.size == 0))) := body_hiding v hk
  have HK : Hid (v.kind = 8) := hk
  clear hk
  have hm1 : ∀ W, (method 459 297 (.agg #[.int .i64 v.key]) "loop.example/g00683/impl.right").run Tryz.prog W = .ok (298, .agg #[.int .i64 v.key]) W := fun _ => by kernel_rfl
  have hm2 : ∀ W, (method 459 297 (.agg #[.int .i64 v.key]) "loop.example/g00683/impl.tells").run Tryz.prog W = .ok (299, .agg #[.int .i64 v.key]) W := fun _ => by kernel_rfl
  go_enter Tryz.func176, Tryz.ntmps176
  go_wp2_with (first
    | (go_at_call 150; refine (id_impl _ _).mono ?_; rintro e w' ⟨rfl, rfl⟩)
    | (go_at_call 108; refine (room_impl _ _).mono ?_; rintro e w' ⟨rfl, rfl⟩)
    | (go_at_call 203; refine (user_impl _ _).mono ?_; rintro e w' ⟨rfl, rfl⟩)
    | (go_at_call 204; refine (time_impl _ _).mono ?_; rintro e w' ⟨rfl, rfl⟩)
    | (go_at_call 200; refine (deed_hiding _ _ _ _ _ _ _ _ _ _ _ _ HK.out).mono ?_; rintro e w2 ⟨rfl, hb2⟩; obtain ⟨hc2, hf2⟩ := bcell hb2; have HC : Hid (Below w.heap.size w w2) := ((Below.refl _ _).alloc (Nat.le_refl _) _).trans (hb2.mono (by simp)); have hz2 : w.heap.size < w2.heap.size := by have := hb2.size; simp at this; omega))
  cases c0 : (isB v.key 1 1000000)
  · first | (go_region_with (first
        | (go_at_call 298; refine (right_hiding _ _).mono ?_; rintro e w3 ⟨he, hb3⟩; rw [c0] at he; subst he; have hc3 : ∀ b o, b < w2.heap.size → w3.cell? ⟨b, o, none⟩ = w2.cell? ⟨b, o, none⟩ := (bcell hb3).1; have hz3 : w.heap.size < w3.heap.size := Nat.lt_of_lt_of_le hz2 hb3.size)
        | (go_at_call 299; refine (tells_hiding _ _).mono ?_; rintro e w4 ⟨rfl, hb4⟩; obtain ⟨hc4, hf4⟩ := bcell hb4; have hz4 : w.heap.size < w4.heap.size := Nat.lt_of_lt_of_le hz3 hb4.size)
        | (go_at_call 205; refine (details_impl _ _ _ _ _ _ _ _ _ _ _ _).mono ?_; rintro e w5 ⟨rfl, hb5⟩; obtain ⟨hc5, hf5⟩ := bcell hb5))) | fail
    all_goals go_wp2
    all_goals go_ret
    all_goals exact ⟨ret_bool (by rw [HB.out, c0]; simp), HC.out.trans (Below.drew (Below.refl _ _) |>.trans (hb3.mono (Nat.le_of_lt hz2)))⟩
  have heq : ∀ k1 n1 k2 n2 t1 t2 W, (Op.equalIn 10000 271 (.agg #[.int .i64 k1, .int .i64 n1, .string t1]) (.agg #[.int .i64 k2, .int .i64 n2, .string t2])).run Tryz.prog W = .ok (k1 == k2 && n1 == n2 && t1.toList == t2.toList) W := eqin_details
  first | (go_region_with (first
      | (go_at_call 298; refine (right_hiding _ _).mono ?_; rintro e w3 ⟨he, hb3⟩; rw [c0] at he; subst he; have hc3 : ∀ b o, b < w2.heap.size → w3.cell? ⟨b, o, none⟩ = w2.cell? ⟨b, o, none⟩ := (bcell hb3).1; have hz3 : w.heap.size < w3.heap.size := Nat.lt_of_lt_of_le hz2 hb3.size)
      | (go_at_call 299; refine (tells_hiding _ _).mono ?_; rintro e w4 ⟨rfl, hb4⟩; obtain ⟨hc4, hf4⟩ := bcell hb4; have hz4 : w.heap.size < w4.heap.size := Nat.lt_of_lt_of_le hz3 hb4.size)
      | (go_at_call 205; refine (details_impl _ _ _ _ _ _ _ _ _ _ _ _).mono ?_; rintro e w5 ⟨rfl, hb5⟩; obtain ⟨hc5, hf5⟩ := bcell hb5))) | fail
  all_goals go_wp2
  all_goals go_ret
  all_goals refine ⟨ret_bool ?_, HC.out.trans (Below.drew (Below.refl _ _) |>.trans ((hb3.mono (Nat.le_of_lt hz2)).trans ((hb4.mono (Nat.le_of_lt hz3)).trans (hb5.mono (Nat.le_of_lt hz4)))))⟩
  all_goals rw [HB.out, c0]
  all_goals rw [zero_eq, empty_size, Bool.true_and]
set_option maxHeartbeats 2000000 in
theorem deed_right_unknown (v : Ev) (a : Option Addr) (cap : Nat) (w : World) (k1 : (v.kind == 1) = false) (k2 : (v.kind == 2) = false) (k3 : (v.kind == 3) = false) (k4 : (v.kind == 4) = false) (k5 : (v.kind == 5) = false) (k6 : (v.kind == 6) = false) (k7 : (v.kind == 7) = false) (k8 : (v.kind == 8) = false) (c1 : isB v.id 1 1000000 = true) (c2 : isB v.room 1 3 = true) (c3 : isB v.author 1 6 = true) (c4 : isB v.time 0 1000000 = true) :
    Calls Tryz.prog 176 #[.agg #[.int .i64 v.id, .int .i64 v.room, .int .i64 v.author, .int .i64 v.kind, .int .i64 v.key, .int .i64 v.n, .string v.text, .slice a v.prev.length cap, .int .i64 v.time]] w fun e w' => e = .returned (.bool (bodyB v)) ∧ Below w.heap.size w w' := by
  have HB : Hid (bodyB v = false) := body_unknown v k1 k2 k3 k4 k5 k6 k7 k8
  have K1 : Hid ((v.kind == 1) = false) := k1
  have K2 : Hid ((v.kind == 2) = false) := k2
  have K3 : Hid ((v.kind == 3) = false) := k3
  have K4 : Hid ((v.kind == 4) = false) := k4
  have K5 : Hid ((v.kind == 5) = false) := k5
  have K6 : Hid ((v.kind == 6) = false) := k6
  have K7 : Hid ((v.kind == 7) = false) := k7
  have K8 : Hid ((v.kind == 8) = false) := k8
  clear k1 k2 k3 k4 k5 k6 k7 k8
  have hm1 : ∀ W, (method 459 298 (.agg #[]) "loop.example/g00683/impl.right").run Tryz.prog W = .ok (300, .agg #[]) W := fun _ => by kernel_rfl
  have hm2 : ∀ W, (method 459 298 (.agg #[]) "loop.example/g00683/impl.tells").run Tryz.prog W = .ok (301, .agg #[]) W := fun _ => by kernel_rfl
  go_enter Tryz.func176, Tryz.ntmps176
  go_wp2_with (first
    | (go_at_call 150; refine (id_impl _ _).mono ?_; rintro e w' ⟨rfl, rfl⟩)
    | (go_at_call 108; refine (room_impl _ _).mono ?_; rintro e w' ⟨rfl, rfl⟩)
    | (go_at_call 203; refine (user_impl _ _).mono ?_; rintro e w' ⟨rfl, rfl⟩)
    | (go_at_call 204; refine (time_impl _ _).mono ?_; rintro e w' ⟨rfl, rfl⟩)
    | (go_at_call 200; refine (deed_unknown _ _ _ _ _ _ _ _ _ _ _ _ K1.out K2.out K3.out K4.out K5.out K6.out K7.out K8.out).mono ?_; rintro e w2 ⟨rfl, hb2⟩; obtain ⟨hc2, hf2⟩ := bcell hb2; have HC : Hid (Below w.heap.size w w2) := ((Below.refl _ _).alloc (Nat.le_refl _) _).trans (hb2.mono (by simp)); have hz2 : w.heap.size < w2.heap.size := by have := hb2.size; simp at this; omega))
  first | (go_region_with (first
      | (go_at_call 300; refine (right_unknown _).mono ?_; rintro e w3 ⟨he, hb3⟩; subst he; have hc3 : ∀ b o, b < w2.heap.size → w3.cell? ⟨b, o, none⟩ = w2.cell? ⟨b, o, none⟩ := (bcell hb3).1; have hz3 : w.heap.size < w3.heap.size := Nat.lt_of_lt_of_le hz2 hb3.size)
      | (go_at_call 301; refine (tells_unknown _).mono ?_; rintro e w4 ⟨rfl, hb4⟩; obtain ⟨hc4, hf4⟩ := bcell hb4; have hz4 : w.heap.size < w4.heap.size := Nat.lt_of_lt_of_le hz3 hb4.size)
      | (go_at_call 205; refine (details_impl _ _ _ _ _ _ _ _ _ _ _ _).mono ?_; rintro e w5 ⟨rfl, hb5⟩; obtain ⟨hc5, hf5⟩ := bcell hb5))) | fail
  all_goals go_wp2
  all_goals go_ret
  all_goals exact ⟨ret_bool (HB.out.symm), HC.out.trans (Below.drew (Below.refl _ _) |>.trans (hb3.mono (Nat.le_of_lt hz2)))⟩
end Go.Proofs.YteajcmkaoahbeaaGreatDoor
