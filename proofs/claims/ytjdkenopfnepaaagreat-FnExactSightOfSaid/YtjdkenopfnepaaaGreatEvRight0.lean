/- An event's body, kind by kind, as the program's deeds have it. -/
import Derived.Test.YtjdkenopfnepaaaGreatEvRight
namespace Go.Proofs.YtjdkenopfnepaaaGreat
open Go.RowKit

theorem body_creation (v : Ev) (hk : v.kind = 1) : bodyB v = ((v.key == 0) && (v.n == 0) && (v.text.size == 0)) := by simp [bodyB, hk]
theorem body_coming (v : Ev) (hk : v.kind = 2) : bodyB v = ((isB v.key 1 6) && (isB v.n 1 4) && (v.text.size == 0)) := by simp [bodyB, hk]
theorem body_might (v : Ev) (hk : v.kind = 3) : bodyB v = ((isB v.key 1 6) && (isB v.n 0 100) && (v.text.size == 0)) := by simp [bodyB, hk]
theorem body_topic (v : Ev) (hk : v.kind = 4) : bodyB v = ((v.key == 0) && (v.n == 0) && (decide (v.text.size ≤ 30))) := by simp [bodyB, hk]
theorem body_door (v : Ev) (hk : v.kind = 5) : bodyB v = ((v.key == 0) && (isB v.n 1 2) && (v.text.size == 0)) := by simp [bodyB, hk]
theorem body_sight (v : Ev) (hk : v.kind = 6) : bodyB v = ((v.key == 0) && (isB v.n 1 3) && (v.text.size == 0)) := by simp [bodyB, hk]
theorem body_saying (v : Ev) (hk : v.kind = 7) : bodyB v = ((v.key == 0) && (v.n == 0) && (decide (1 ≤ v.text.size) && decide (v.text.size ≤ 30))) := by simp [bodyB, hk, Bool.and_assoc]
theorem body_hiding (v : Ev) (hk : v.kind = 8) : bodyB v = ((isB v.key 1 1000000) && (v.n == 0) && (v.text.size == 0)) := by simp [bodyB, hk]
theorem body_unknown (v : Ev) (k1 : (v.kind == 1) = false) (k2 : (v.kind == 2) = false) (k3 : (v.kind == 3) = false) (k4 : (v.kind == 4) = false) (k5 : (v.kind == 5) = false) (k6 : (v.kind == 6) = false) (k7 : (v.kind == 7) = false) (k8 : (v.kind == 8) = false) : bodyB v = false := by
  simp only [beq_eq_false_iff_ne, ne_eq] at k1 k2 k3 k4 k5 k6 k7 k8
  simp [bodyB, k1, k2, k3, k4, k5, k6, k7, k8]
theorem of_topic {v : Ev} {b : Bool} (h : decide ((v.text.size : Int) ≤ 30) = b) : decide (v.text.size ≤ 30) = b := by rw [← h]; exact decide_eq_decide.2 (by omega)
theorem eqin_details (k1 n1 k2 n2 : Int) (t1 t2 : ByteArray) (W : World) : (Op.equalIn 10000 177 (.agg #[.int .i64 k1, .int .i64 n1, .string t1]) (.agg #[.int .i64 k2, .int .i64 n2, .string t2])).run Tryz.prog W = .ok (k1 == k2 && n1 == n2 && t1.toList == t2.toList) W := by
  cases h1 : k1 == k2
  · go_simp
  · cases h2 : n1 == n2
    · go_simp
    · go_simp
      split <;> simp_all
theorem zero_eq (x : Int) : (0 == x) = (x == 0) := by rw [Bool.eq_iff_iff]; simp; omega
theorem of_saying {v : Ev} {b : Bool} (h : ((!v.text.toList.isEmpty) && decide ((v.text.size : Int) ≤ 30)) = b) : (decide (1 ≤ v.text.size) && decide (v.text.size ≤ 30)) = b := by
  rw [← h, empty_size, Bool.eq_iff_iff]
  simp only [Bool.and_eq_true, decide_eq_true_eq, Bool.not_eq_true', beq_eq_false_iff_ne, ne_eq]
  omega
end Go.Proofs.YtjdkenopfnepaaaGreat
