/- What EventRead hands back, said plainly: it hangs on the text alone. -/
import Derived.Test.YtjdkenopfnepaaaEvReadPlain
import Derived.Test.YtjdkenopfnepaaaUnsealImpl
namespace Go.Proofs.Ytjdkenopfnepaaa
open Go.RowKit

def zeroEv : Ev := ⟨0, 0, 0, 0, 0, 0, ⟨#[]⟩, [], 0⟩
/-- The event and the code for a text. -/
def Out (text : ByteArray) (v : Ev) (c : Int) : Prop :=
  ((text.size : Int) > 8000 ∧ v = zeroEv ∧ c = 2) ∨ ((text.size : Int) < 4 ∧ v = zeroEv ∧ c = 4) ∨
  ((4 ≤ (text.size : Int) ∧ (text.size : Int) ≤ 8000) ∧ ((okS text = false ∧ v = zeroEv ∧ c = 5) ∨
    (okS text = true ∧ ((v = zeroEv ∧ c = 3 ∧ ¬ ∃ u, rightB u = true ∧ evBytes u = text) ∨ (c = 0 ∧ rightB v = true ∧ evBytes v = text)))))
theorem seal_len (l : List UInt8) : (sealB l).length = l.length + 4 := by simp [sealB, fourB]
/-- The body of an event's bytes is what was sealed. -/
theorem body_of {u : Ev} {text s : ByteArray} (h : evBytes u = text) (hs : s = text.extract 0 (text.size - 4)) : s.data.toList = evL u := by
  subst h hs
  rw [Lib.extract_data]
  have hz : (evBytes u).size = (evL u).length + 4 := by
    show (sealB (evL u)).toArray.size = _
    simp [seal_len]
  rw [hz]
  show ((sealB (evL u)).drop 0).take _ = _
  simp [sealB]
theorem inj_ev {u v : Ev} (hu : rightB u = true) (hv : rightB v = true) (h : evBytes u = evBytes v) : u = v := by
  have b1 := body_of (s := (evBytes v).extract 0 ((evBytes v).size - 4)) h rfl
  have b2 := body_of (u := v) (s := (evBytes v).extract 0 ((evBytes v).size - 4)) rfl rfl
  generalize (evBytes v).extract 0 ((evBytes v).size - 4) = s at b1 b2
  obtain ⟨n1, s1, q1⟩ : ∃ n st, stepI s (0, false) = (n, st) := ⟨_, _, rfl⟩
  obtain ⟨n2, s2, q2⟩ : ∃ n st, stepI s s1 = (n, st) := ⟨_, _, rfl⟩
  obtain ⟨n3, s3, q3⟩ : ∃ n st, stepI s s2 = (n, st) := ⟨_, _, rfl⟩
  obtain ⟨n4, s4, q4⟩ : ∃ n st, stepI s s3 = (n, st) := ⟨_, _, rfl⟩
  obtain ⟨n5, s5, q5⟩ : ∃ n st, stepI s s4 = (n, st) := ⟨_, _, rfl⟩
  obtain ⟨n6, s6, q6⟩ : ∃ n st, stepI s s5 = (n, st) := ⟨_, _, rfl⟩
  obtain ⟨t, s7, q7⟩ : ∃ n st, wordI s s6 = (n, st) := ⟨_, _, rfl⟩
  obtain ⟨m, s8, q8⟩ : ∃ n st, stepI s s7 = (n, st) := ⟨_, _, rfl⟩
  obtain ⟨zs, s9, q9⟩ : ∃ n st, numsR stepI s u.prev.length s8 = (n, st) := ⟨_, _, rfl⟩
  obtain ⟨tm, s10, q10⟩ : ∃ n st, stepI s s9 = (n, st) := ⟨_, _, rfl⟩
  have r1 := read_back reads_I readsT_I (right_small hu) b1 q1 q2 q3 q4 q5 q6 q7 q8 q9 q10
  have r2 := read_back reads_I readsT_I (right_small hv) b2 q1 q2 q3 q4 q5 q6 q7 q8 q9 q10
  have e1 := r1.1
  have e2 := r2.1
  have e : u.prev.length = v.prev.length := by omega
  exact (r1.2.2.2 rfl).1.symm.trans (r2.2.2.2 e).1
theorem Out.same {text : ByteArray} {v u : Ev} {c d : Int} (h : Out text v c) (k : Out text u d) : v = u ∧ c = d := by
  rcases h with ⟨h1, h2, h3⟩ | ⟨h1, h2, h3⟩ | ⟨h1, (⟨h0, h2, h3⟩ | ⟨h0, (⟨h2, h3, h4⟩ | ⟨h2, h3, h4⟩)⟩)⟩ <;> rcases k with ⟨k1, k2, k3⟩ | ⟨k1, k2, k3⟩ | ⟨k1, (⟨k0, k2, k3⟩ | ⟨k0, (⟨k2, k3, k4⟩ | ⟨k2, k3, k4⟩)⟩)⟩
  all_goals first
    | omega
    | exact ⟨h2.trans k2.symm, h3.trans k3.symm⟩
    | exact Bool.noConfusion (h0.symm.trans k0)
    | exact absurd ⟨u, k3, k4⟩ h4
    | exact absurd ⟨v, h3, h4⟩ k4
    | exact ⟨inj_ev h3 k3 (h4.trans k4.symm), h2.trans k2.symm⟩
theorem bytes_yes {v : Ev} {text : ByteArray} (h4 : 4 ≤ (text.size : Int)) (h : bytesOf v = text) : rightB v = true ∧ evBytes v = text := by
  unfold bytesOf at h
  cases c : rightB v
  · rw [c, if_neg (by decide)] at h
    rw [← h] at h4
    exact absurd h4 (by decide)
  · rw [c, if_pos rfl] at h
    exact ⟨rfl, h⟩
theorem bytes_of_right {v : Ev} (h : rightB v = true) : bytesOf v = evBytes v := by unfold bytesOf; rw [h]; rfl
theorem prev_zero (v : Ev) (h : v = zeroEv) : v.prev.length = 0 := by rw [h]; rfl
end Go.Proofs.Ytjdkenopfnepaaa
