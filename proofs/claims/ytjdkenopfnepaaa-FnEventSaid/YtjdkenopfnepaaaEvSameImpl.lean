/- The contract of SameEvent, the program's. -/
import Derived.Test.YtjdkenopfnepaaaEvSame
namespace Go.Proofs.Ytjdkenopfnepaaa
open Go.RowKit

set_option maxHeartbeats 4000000 in
theorem same_impl (v u : Ev) (a1 a2 : Option Addr) (cap1 cap2 : Nat) (w : World) (h1 : NumsAt w a1 v.prev) (h2 : NumsAt w a2 u.prev) :
    Calls Try.prog 14 #[.agg #[.int .i64 v.id, .int .i64 v.room, .int .i64 v.author, .int .i64 v.kind, .int .i64 v.key, .int .i64 v.n, .string v.text, .slice a1 v.prev.length cap1, .int .i64 v.time], .agg #[.int .i64 u.id, .int .i64 u.room, .int .i64 u.author, .int .i64 u.kind, .int .i64 u.key, .int .i64 u.n, .string u.text, .slice a2 u.prev.length cap2, .int .i64 u.time]] w fun e w' => e = .returned (.bool (sameB v u)) ∧ Below w.heap.size w w' := by
  have H1 : Hid (∀ w', Below w.heap.size w w' → NumsAt w' a1 v.prev) := fun w' hb => h1.kept hb
  have H2 : Hid (∀ w', Below w.heap.size w w' → NumsAt w' a2 u.prev) := fun w' hb => h2.kept hb
  have HE : Hid (sameB v u = (hdB v u && decide (v.prev = u.prev))) := rfl
  have heq : ∀ W, (Op.equalIn 10000 92 (.agg #[.int .i64 v.id, .int .i64 v.room, .int .i64 v.author, .int .i64 v.kind, .int .i64 v.time, .int .i64 v.key, .int .i64 v.n, .string v.text]) (.agg #[.int .i64 u.id, .int .i64 u.room, .int .i64 u.author, .int .i64 u.kind, .int .i64 u.time, .int .i64 u.key, .int .i64 u.n, .string u.text])).run Try.prog W = .ok (hdB v u) W := eqin_outline v u
  clear h1 h2
  go_enter Try.func14, Try.ntmps14
  go_wp2_with fail
  generalize hW : World.alloc (World.alloc w _) _ = W0
  have hz0 : w.heap.size < W0.heap.size := by rw [← hW]; simp; omega
  have hz : w.heap.size + 1 < W0.heap.size := by rw [← hW]; simp
  have HW : Hid (Below w.heap.size w W0) := by rw [← hW]; exact ((Below.refl _ _).alloc (Nat.le_refl _) _).alloc (by simp) _
  have p0 : W0.cell? ⟨w.heap.size, 0, none⟩ = some (.int .i64 v.id) := by rw [← hW]; simp [go_sem]
  have p1 : W0.cell? ⟨w.heap.size, 1, none⟩ = some (.int .i64 v.room) := by rw [← hW]; simp [go_sem]
  have p2 : W0.cell? ⟨w.heap.size, 2, none⟩ = some (.int .i64 v.author) := by rw [← hW]; simp [go_sem]
  have p3 : W0.cell? ⟨w.heap.size, 3, none⟩ = some (.int .i64 v.kind) := by rw [← hW]; simp [go_sem]
  have p4 : W0.cell? ⟨w.heap.size, 4, none⟩ = some (.int .i64 v.key) := by rw [← hW]; simp [go_sem]
  have p5 : W0.cell? ⟨w.heap.size, 5, none⟩ = some (.int .i64 v.n) := by rw [← hW]; simp [go_sem]
  have p6 : W0.cell? ⟨w.heap.size, 6, none⟩ = some (.string v.text) := by rw [← hW]; simp [go_sem]
  have p7 : W0.cell? ⟨w.heap.size, 7, none⟩ = some (.slice a1 v.prev.length cap1) := by rw [← hW]; simp [go_sem]
  have p8 : W0.cell? ⟨w.heap.size, 8, none⟩ = some (.int .i64 v.time) := by rw [← hW]; simp [go_sem]
  have q0 : W0.cell? ⟨w.heap.size + 1, 0, none⟩ = some (.int .i64 u.id) := by rw [← hW]; simp [go_sem]
  have q1 : W0.cell? ⟨w.heap.size + 1, 1, none⟩ = some (.int .i64 u.room) := by rw [← hW]; simp [go_sem]
  have q2 : W0.cell? ⟨w.heap.size + 1, 2, none⟩ = some (.int .i64 u.author) := by rw [← hW]; simp [go_sem]
  have q3 : W0.cell? ⟨w.heap.size + 1, 3, none⟩ = some (.int .i64 u.kind) := by rw [← hW]; simp [go_sem]
  have q4 : W0.cell? ⟨w.heap.size + 1, 4, none⟩ = some (.int .i64 u.key) := by rw [← hW]; simp [go_sem]
  have q5 : W0.cell? ⟨w.heap.size + 1, 5, none⟩ = some (.int .i64 u.n) := by rw [← hW]; simp [go_sem]
  have q6 : W0.cell? ⟨w.heap.size + 1, 6, none⟩ = some (.string u.text) := by rw [← hW]; simp [go_sem]
  have q7 : W0.cell? ⟨w.heap.size + 1, 7, none⟩ = some (.slice a2 u.prev.length cap2) := by rw [← hW]; simp [go_sem]
  have q8 : W0.cell? ⟨w.heap.size + 1, 8, none⟩ = some (.int .i64 u.time) := by rw [← hW]; simp [go_sem]
  clear hW
  cases c : hdB v u
  · first | (go_region_with (first
        | (go_at_call 60; refine (outline_impl _ _ _ _).mono ?_; rintro e w1 ⟨rfl, hb1⟩; obtain ⟨hc1, hf1⟩ := bcell hb1; have p0 : w1.cell? ⟨w.heap.size, 0, none⟩ = some (.int .i64 v.id) := (hc1 _ _ hz0).trans p0; have p1 : w1.cell? ⟨w.heap.size, 1, none⟩ = some (.int .i64 v.room) := (hc1 _ _ hz0).trans p1; have p2 : w1.cell? ⟨w.heap.size, 2, none⟩ = some (.int .i64 v.author) := (hc1 _ _ hz0).trans p2; have p3 : w1.cell? ⟨w.heap.size, 3, none⟩ = some (.int .i64 v.kind) := (hc1 _ _ hz0).trans p3; have p4 : w1.cell? ⟨w.heap.size, 4, none⟩ = some (.int .i64 v.key) := (hc1 _ _ hz0).trans p4; have p5 : w1.cell? ⟨w.heap.size, 5, none⟩ = some (.int .i64 v.n) := (hc1 _ _ hz0).trans p5; have p6 : w1.cell? ⟨w.heap.size, 6, none⟩ = some (.string v.text) := (hc1 _ _ hz0).trans p6; have p7 : w1.cell? ⟨w.heap.size, 7, none⟩ = some (.slice a1 v.prev.length cap1) := (hc1 _ _ hz0).trans p7; have p8 : w1.cell? ⟨w.heap.size, 8, none⟩ = some (.int .i64 v.time) := (hc1 _ _ hz0).trans p8; have q0 : w1.cell? ⟨w.heap.size + 1, 0, none⟩ = some (.int .i64 u.id) := (hc1 _ _ hz).trans q0; have q1 : w1.cell? ⟨w.heap.size + 1, 1, none⟩ = some (.int .i64 u.room) := (hc1 _ _ hz).trans q1; have q2 : w1.cell? ⟨w.heap.size + 1, 2, none⟩ = some (.int .i64 u.author) := (hc1 _ _ hz).trans q2; have q3 : w1.cell? ⟨w.heap.size + 1, 3, none⟩ = some (.int .i64 u.kind) := (hc1 _ _ hz).trans q3; have q4 : w1.cell? ⟨w.heap.size + 1, 4, none⟩ = some (.int .i64 u.key) := (hc1 _ _ hz).trans q4; have q5 : w1.cell? ⟨w.heap.size + 1, 5, none⟩ = some (.int .i64 u.n) := (hc1 _ _ hz).trans q5; have q6 : w1.cell? ⟨w.heap.size + 1, 6, none⟩ = some (.string u.text) := (hc1 _ _ hz).trans q6; have q7 : w1.cell? ⟨w.heap.size + 1, 7, none⟩ = some (.slice a2 u.prev.length cap2) := (hc1 _ _ hz).trans q7; have q8 : w1.cell? ⟨w.heap.size + 1, 8, none⟩ = some (.int .i64 u.time) := (hc1 _ _ hz).trans q8; clear hc1 hf1; have HW : Hid (Below w.heap.size w w1) := (by first | exact HW.out.trans (hb1.mono (Nat.le_of_lt hz0)) | exact HW.out.drew.trans (hb1.mono (Nat.le_of_lt hz0))); have hz0 : w.heap.size < w1.heap.size := Nat.lt_of_lt_of_le hz0 hb1.size; have hz : w.heap.size + 1 < w1.heap.size := Nat.lt_of_lt_of_le hz hb1.size)
        | (go_at_call 61; refine (nums_impl v.prev u.prev a1 a2 cap1 cap2 _ (H1.out _ HW.out) (H2.out _ HW.out)).mono ?_; rintro e w2 ⟨rfl, hb2⟩; obtain ⟨hc2, hf2⟩ := bcell hb2; have HV : Hid (Below w.heap.size w w2) := HW.out.trans (hb2.mono (Nat.le_of_lt hz0))))) | fail
    all_goals go_wp2
    all_goals go_ret
    all_goals exact ⟨ret_bool (by rw [HE.out, c]; simp), HW.out⟩
  · first | (go_region_with (first
        | (go_at_call 60; refine (outline_impl _ _ _ _).mono ?_; rintro e w1 ⟨rfl, hb1⟩; obtain ⟨hc1, hf1⟩ := bcell hb1; have p0 : w1.cell? ⟨w.heap.size, 0, none⟩ = some (.int .i64 v.id) := (hc1 _ _ hz0).trans p0; have p1 : w1.cell? ⟨w.heap.size, 1, none⟩ = some (.int .i64 v.room) := (hc1 _ _ hz0).trans p1; have p2 : w1.cell? ⟨w.heap.size, 2, none⟩ = some (.int .i64 v.author) := (hc1 _ _ hz0).trans p2; have p3 : w1.cell? ⟨w.heap.size, 3, none⟩ = some (.int .i64 v.kind) := (hc1 _ _ hz0).trans p3; have p4 : w1.cell? ⟨w.heap.size, 4, none⟩ = some (.int .i64 v.key) := (hc1 _ _ hz0).trans p4; have p5 : w1.cell? ⟨w.heap.size, 5, none⟩ = some (.int .i64 v.n) := (hc1 _ _ hz0).trans p5; have p6 : w1.cell? ⟨w.heap.size, 6, none⟩ = some (.string v.text) := (hc1 _ _ hz0).trans p6; have p7 : w1.cell? ⟨w.heap.size, 7, none⟩ = some (.slice a1 v.prev.length cap1) := (hc1 _ _ hz0).trans p7; have p8 : w1.cell? ⟨w.heap.size, 8, none⟩ = some (.int .i64 v.time) := (hc1 _ _ hz0).trans p8; have q0 : w1.cell? ⟨w.heap.size + 1, 0, none⟩ = some (.int .i64 u.id) := (hc1 _ _ hz).trans q0; have q1 : w1.cell? ⟨w.heap.size + 1, 1, none⟩ = some (.int .i64 u.room) := (hc1 _ _ hz).trans q1; have q2 : w1.cell? ⟨w.heap.size + 1, 2, none⟩ = some (.int .i64 u.author) := (hc1 _ _ hz).trans q2; have q3 : w1.cell? ⟨w.heap.size + 1, 3, none⟩ = some (.int .i64 u.kind) := (hc1 _ _ hz).trans q3; have q4 : w1.cell? ⟨w.heap.size + 1, 4, none⟩ = some (.int .i64 u.key) := (hc1 _ _ hz).trans q4; have q5 : w1.cell? ⟨w.heap.size + 1, 5, none⟩ = some (.int .i64 u.n) := (hc1 _ _ hz).trans q5; have q6 : w1.cell? ⟨w.heap.size + 1, 6, none⟩ = some (.string u.text) := (hc1 _ _ hz).trans q6; have q7 : w1.cell? ⟨w.heap.size + 1, 7, none⟩ = some (.slice a2 u.prev.length cap2) := (hc1 _ _ hz).trans q7; have q8 : w1.cell? ⟨w.heap.size + 1, 8, none⟩ = some (.int .i64 u.time) := (hc1 _ _ hz).trans q8; clear hc1 hf1; have HW : Hid (Below w.heap.size w w1) := (by first | exact HW.out.trans (hb1.mono (Nat.le_of_lt hz0)) | exact HW.out.drew.trans (hb1.mono (Nat.le_of_lt hz0))); have hz0 : w.heap.size < w1.heap.size := Nat.lt_of_lt_of_le hz0 hb1.size; have hz : w.heap.size + 1 < w1.heap.size := Nat.lt_of_lt_of_le hz hb1.size)
        | (go_at_call 61; refine (nums_impl v.prev u.prev a1 a2 cap1 cap2 _ (H1.out _ HW.out) (H2.out _ HW.out)).mono ?_; rintro e w2 ⟨rfl, hb2⟩; obtain ⟨hc2, hf2⟩ := bcell hb2; have HV : Hid (Below w.heap.size w w2) := HW.out.trans (hb2.mono (Nat.le_of_lt hz0))))) | fail
    all_goals go_wp2
    all_goals go_ret
    all_goals exact ⟨ret_bool (by rw [HE.out, c]; simp), HV.out⟩
end Go.Proofs.Ytjdkenopfnepaaa
