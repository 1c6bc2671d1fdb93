/- Plain facts on a right event: its numbers are small, its bytes are few. -/
import Derived.Test.YtjdkenopfnepaaaEv
import Derived.Test.YtjdkenopfnepaaaPutText
import Derived.Test.YtjdkenopfnepaaaSeal
namespace Go.Proofs.Ytjdkenopfnepaaa
open Go.RowKit

theorem prevOk_in {id : Int} : ∀ {last : Int} {zs : List Int}, prevOk id last zs = true → ∀ z ∈ zs, 1 ≤ z ∧ z ≤ 1000000
  | _, [], _ => by simp
  | last, x :: r, h => by
    simp only [prevOk, Bool.and_eq_true] at h
    intro z hz
    rcases List.mem_cons.1 hz with rfl | hz
    · exact isB_yes h.1.1.2
    · exact prevOk_in h.2 z hz
/-- What a right event's fields are. -/
structure Small (v : Ev) : Prop where
  id : 0 ≤ v.id ∧ v.id ≤ 1000000
  room : 0 ≤ v.room ∧ v.room ≤ 1000000
  author : 0 ≤ v.author ∧ v.author ≤ 1000000
  kind : 0 ≤ v.kind ∧ v.kind ≤ 1000000
  key : 0 ≤ v.key ∧ v.key ≤ 1000000
  n : 0 ≤ v.n ∧ v.n ≤ 1000000
  time : 0 ≤ v.time ∧ v.time ≤ 1000000
  text : v.text.size ≤ 30
  prev : v.prev.length ≤ 4
  each : ∀ z ∈ v.prev, 1 ≤ z ∧ z ≤ 1000000
theorem body_small {v : Ev} (h : bodyB v = true) : (0 ≤ v.kind ∧ v.kind ≤ 1000000) ∧ (0 ≤ v.key ∧ v.key ≤ 1000000) ∧ (0 ≤ v.n ∧ v.n ≤ 1000000) ∧ v.text.size ≤ 30 := by
  unfold bodyB at h
  by_cases h1 : v.kind = 1
  · rw [if_pos h1] at h
    simp only [Bool.and_eq_true, beq_iff_eq] at h
    omega
  rw [if_neg h1] at h
  by_cases h2 : v.kind = 2
  · rw [if_pos h2] at h
    simp only [Bool.and_eq_true, beq_iff_eq] at h
    have a := isB_yes h.1.1
    have b := isB_yes h.1.2
    omega
  rw [if_neg h2] at h
  by_cases h3 : v.kind = 3
  · rw [if_pos h3] at h
    simp only [Bool.and_eq_true, beq_iff_eq] at h
    have a := isB_yes h.1.1
    have b := isB_yes h.1.2
    omega
  rw [if_neg h3] at h
  by_cases h4 : v.kind = 4
  · rw [if_pos h4] at h
    simp only [Bool.and_eq_true, beq_iff_eq, decide_eq_true_eq] at h
    omega
  rw [if_neg h4] at h
  by_cases h5 : v.kind = 5
  · rw [if_pos h5] at h
    simp only [Bool.and_eq_true, beq_iff_eq] at h
    have b := isB_yes h.1.2
    omega
  rw [if_neg h5] at h
  by_cases h6 : v.kind = 6
  · rw [if_pos h6] at h
    simp only [Bool.and_eq_true, beq_iff_eq] at h
    have b := isB_yes h.1.2
    omega
  rw [if_neg h6] at h
  by_cases h7 : v.kind = 7
  · rw [if_pos h7] at h
    simp only [Bool.and_eq_true, beq_iff_eq, decide_eq_true_eq] at h
    omega
  rw [if_neg h7] at h
  by_cases h8 : v.kind = 8
  · rw [if_pos h8] at h
    simp only [Bool.and_eq_true, beq_iff_eq] at h
    have a := isB_yes h.1.1
    omega
  rw [if_neg h8] at h
  cases h
theorem right_small {v : Ev} (h : rightB v = true) : Small v := by
  unfold rightB headB prevB at h
  simp only [Bool.and_eq_true, decide_eq_true_eq] at h
  obtain ⟨⟨⟨⟨⟨h1, h2⟩, h3⟩, h4⟩, ⟨h5, _⟩, h6⟩, h7⟩ := h
  have a1 := isB_yes h1
  have a2 := isB_yes h2
  have a3 := isB_yes h3
  have a4 := isB_yes h4
  obtain ⟨b1, b2, b3, b4⟩ := body_small h7
  exact ⟨by omega, by omega, by omega, b1, b2, b3, by omega, b4, h5, prevOk_in h6⟩

/-- An event's bytes, ahead of the numbers that it stands behind, and whole (not sealed). -/
def headL (v : Ev) : List UInt8 := putB v.id ++ putB v.room ++ putB v.author ++ putB v.kind ++ putB v.key ++ putB v.n ++ (putB v.text.size ++ v.text.data.toList) ++ putB v.prev.length
def evL (v : Ev) : List UInt8 := headL v ++ v.prev.flatMap putB ++ putB v.time
def evBytes (v : Ev) : ByteArray := ⟨(sealB (evL v)).toArray⟩
def bytesOf (v : Ev) : ByteArray := if rightB v = true then evBytes v else ⟨#[]⟩
theorem putB_len (n : Int) : (putB n).length ≤ 10 := vb_len 9 _
theorem nums_len : ∀ zs : List Int, (zs.flatMap putB).length ≤ 10 * zs.length
  | [] => by simp
  | z :: r => by
    have h1 := nums_len r
    have h2 := putB_len z
    simp only [List.flatMap_cons, List.length_append, List.length_cons] at *
    omega
theorem headL_len {v : Ev} (h : Small v) : (headL v).length ≤ 110 := by
  have := putB_len v.id; have := putB_len v.room; have := putB_len v.author; have := putB_len v.kind; have := putB_len v.key; have := putB_len v.n; have := putB_len v.text.size; have := putB_len v.prev.length
  have e : v.text.data.toList.length = v.text.size := rfl
  have := h.text
  simp only [headL, List.length_append, e]
  omega
theorem evL_len {v : Ev} (h : Small v) : (evL v).length ≤ 160 := by
  have := headL_len h; have := nums_len v.prev; have := h.prev; have := putB_len v.time
  simp only [evL, List.length_append]
  omega
theorem add_bytes {P : Program} (a b : List UInt8) (W : World) (ha : a.length ≤ 1000) (hb : b.length ≤ 1000) : (Op.stringOp .add ⟨a.toArray⟩ ⟨b.toArray⟩).run P W = .ok (.string ⟨(a ++ b).toArray⟩) W := by
  have e1 : (⟨a.toArray⟩ : ByteArray).size = a.length := by show a.toArray.size = _; simp
  have e2 : (⟨b.toArray⟩ : ByteArray).size = b.length := by show b.toArray.size = _; simp
  rw [run_string_add _ _ _ (by rw [e1]; omega) (by rw [e2]; omega)]
  congr 2
/-- The pieces of an event's head, named, and what their sums are. -/
theorem head_parts (P : Program) (v : Ev) (h : Small v) : ∃ p1 p2 p3 p4 p5 p6 p7 p8 q2 q3 q4 q5 q6 q7 q8 : ByteArray,
    (p1 = ⟨(putB v.id).toArray⟩ ∧ p2 = ⟨(putB v.room).toArray⟩ ∧ p3 = ⟨(putB v.author).toArray⟩ ∧ p4 = ⟨(putB v.kind).toArray⟩ ∧ p5 = ⟨(putB v.key).toArray⟩ ∧ p6 = ⟨(putB v.n).toArray⟩ ∧ p7 = ⟨(putB v.text.size ++ v.text.data.toList).toArray⟩ ∧ p8 = ⟨(putB v.prev.length).toArray⟩) ∧ q8 = ⟨(headL v).toArray⟩ ∧
    (∀ W, (Op.stringOp .add p1 p2).run P W = .ok (.string q2) W) ∧ (∀ W, (Op.stringOp .add q2 p3).run P W = .ok (.string q3) W) ∧ (∀ W, (Op.stringOp .add q3 p4).run P W = .ok (.string q4) W) ∧ (∀ W, (Op.stringOp .add q4 p5).run P W = .ok (.string q5) W) ∧ (∀ W, (Op.stringOp .add q5 p6).run P W = .ok (.string q6) W) ∧ (∀ W, (Op.stringOp .add q6 p7).run P W = .ok (.string q7) W) ∧ (∀ W, (Op.stringOp .add q7 p8).run P W = .ok (.string q8) W) := by
  have := putB_len v.id; have := putB_len v.room; have := putB_len v.author; have := putB_len v.kind; have := putB_len v.key; have := putB_len v.n; have := putB_len v.text.size; have := putB_len v.prev.length
  have e : v.text.data.toList.length = v.text.size := rfl
  have := h.text
  refine ⟨_, _, _, _, _, _, _, _, _, _, _, _, _, _, _, ⟨rfl, rfl, rfl, rfl, rfl, rfl, rfl, rfl⟩, rfl, fun W => add_bytes _ _ W ?_ ?_, fun W => add_bytes _ _ W ?_ ?_, fun W => add_bytes _ _ W ?_ ?_, fun W => add_bytes _ _ W ?_ ?_, fun W => add_bytes _ _ W ?_ ?_, fun W => add_bytes _ _ W ?_ ?_, fun W => add_bytes _ _ W ?_ ?_⟩
  all_goals ((try simp only [List.length_append, e]); omega)
theorem next_part (P : Program) (v : Ev) (h : Small v) {k : Nat} (hk : k < v.prev.length) {T : ByteArray} (hT : T = ⟨(headL v ++ (v.prev.take k).flatMap putB).toArray⟩) :
    ∃ p T2 : ByteArray, p = ⟨(putB v.prev[k]).toArray⟩ ∧ T2 = ⟨(headL v ++ (v.prev.take (k + 1)).flatMap putB).toArray⟩ ∧ ∀ W, (Op.stringOp .add T p).run P W = .ok (.string T2) W := by
  have h1 := headL_len h; have h2 := nums_len (v.prev.take k); have h3 := h.prev; have h4 := putB_len v.prev[k]
  have h5 : (v.prev.take k).length ≤ v.prev.length := List.length_take_le' k _
  refine ⟨_, _, rfl, rfl, fun W => ?_⟩
  rw [hT, add_bytes _ _ W (by simp only [List.length_append]; omega) (by omega), List.take_succ_eq_append_getElem hk]
  simp only [List.flatMap_append, List.flatMap_cons, List.flatMap_nil, List.append_nil, List.append_assoc]
theorem last_part (P : Program) (v : Ev) (h : Small v) {k : Nat} (hk : k = v.prev.length) {T : ByteArray} (hT : T = ⟨(headL v ++ (v.prev.take k).flatMap putB).toArray⟩) :
    ∃ p T2 : ByteArray, p = ⟨(putB v.time).toArray⟩ ∧ T2 = ⟨(evL v).toArray⟩ ∧ (∀ W, (Op.stringOp .add T p).run P W = .ok (.string T2) W) ∧ (T2.size : Int) ≤ 7996 := by
  have h1 := headL_len h; have h2 := nums_len v.prev; have h3 := h.prev; have h4 := putB_len v.time; have h5 := evL_len h
  refine ⟨_, _, rfl, rfl, fun W => ?_, ?_⟩
  · rw [hT, hk, List.take_length, add_bytes _ _ W (by simp only [List.length_append]; omega) (by omega)]
    rfl
  · have e : (⟨(evL v).toArray⟩ : ByteArray).size = (evL v).length := by show (evL v).toArray.size = _; simp
    rw [e]
    omega
end Go.Proofs.Ytjdkenopfnepaaa
