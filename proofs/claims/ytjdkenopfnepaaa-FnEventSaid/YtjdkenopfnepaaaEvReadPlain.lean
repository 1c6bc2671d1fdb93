/- Plain facts: what is read of an event's bytes, number by number. -/
import Derived.Test.YtjdkenopfnepaaaNumsPlain
import Derived.Test.YtjdkenopfnepaaaEvPlain
namespace Go.Proofs.Ytjdkenopfnepaaa
open Go.RowKit

/-- A text at place p: the text, the place behind it, the code. -/
def H (s : ByteArray) (p : Nat) : ByteArray × Int × Int :=
  if (G s p 10 0 0).2.2 ≠ 0 then (⟨#[]⟩, 0, (G s p 10 0 0).2.2)
  else if (G s p 10 0 0).1 < 0 ∨ 8000 < (G s p 10 0 0).1 then (⟨#[]⟩, 0, 3)
  else if (s.size : Int) - (G s p 10 0 0).1 < (G s p 10 0 0).2.1 then (⟨#[]⟩, 0, 4)
  else (s.extract (G s p 10 0 0).2.1.toNat ((G s p 10 0 0).2.1.toNat + (G s p 10 0 0).1.toNat), (G s p 10 0 0).2.1 + (G s p 10 0 0).1, 0)
theorem G_in (s : ByteArray) (p : Nat) : 0 ≤ (G s p 10 0 0).2.1 ∧ (G s p 10 0 0).2.1 ≤ s.size := by
  obtain ⟨⟨a, b, c⟩, hR⟩ : ∃ R, G s p 10 0 0 = R := ⟨_, rfl⟩
  rw [hR]
  by_cases hc : c = 0
  · subst hc; exact G_place s p 10 0 0 a b hR
  · have := (G_fault s p 10 0 0 a b c hR hc).2
    simp only [this]
    omega
theorem H_in (s : ByteArray) (p : Nat) : 0 ≤ (H s p).2.1 ∧ (H s p).2.1 ≤ s.size := by
  have h := G_in s p
  unfold H
  split
  · simp
  · split
    · simp
    · split
      · simp
      · simp only []; omega
theorem H_size (s : ByteArray) (p : Nat) : (H s p).1.size ≤ s.size := by
  unfold H
  split
  · show 0 ≤ _; omega
  · split
    · show 0 ≤ _; omega
    · split
      · show 0 ≤ _; omega
      · simp only [ByteArray.size_extract]; omega

/-- Where a reader stands: its place, and whether something was wrong. -/
def stepI (s : ByteArray) (st : Nat × Bool) : Int × Nat × Bool := if st.2 = true then (0, st) else ((G s st.1 10 0 0).1, (G s st.1 10 0 0).2.1.toNat, (G s st.1 10 0 0).2.2 != 0)
def wordI (s : ByteArray) (st : Nat × Bool) : ByteArray × Nat × Bool := if st.2 = true then (⟨#[]⟩, st) else ((H s st.1).1, (H s st.1).2.1.toNat, (H s st.1).2.2 != 0)
def stepS (s : ByteArray) (st : Nat × Bool) : Int × Nat × Bool := if (st.2 || (G s st.1 10 0 0).2.2 != 0) = true then (0, st.1, true) else ((G s st.1 10 0 0).1, (G s st.1 10 0 0).2.1.toNat, false)
def wordS (s : ByteArray) (st : Nat × Bool) : ByteArray × Nat × Bool := if (st.2 || (H s st.1).2.2 != 0) = true then (⟨#[]⟩, st.1, true) else ((H s st.1).1, (H s st.1).2.1.toNat, false)
def numsR (step : ByteArray → Nat × Bool → Int × Nat × Bool) (s : ByteArray) : Nat → Nat × Bool → List Int × Nat × Bool
  | 0, st => ([], st)
  | k + 1, st => ((numsR step s k st).1 ++ [(step s (numsR step s k st).2).1], (step s (numsR step s k st).2).2)
theorem numsR_len {step : ByteArray → Nat × Bool → Int × Nat × Bool} {s : ByteArray} {st : Nat × Bool} : ∀ k, (numsR step s k st).1.length = k
  | 0 => rfl
  | k + 1 => by simp [numsR, numsR_len k]

/-- A reader that reads back what was put. -/
def Reads (step : ByteArray → Nat × Bool → Int × Nat × Bool) : Prop := ∀ (s : ByteArray) (pre post : List UInt8) (n : Int), s.data.toList = pre ++ (putB n ++ post) → -9223372036854775808 ≤ n → n ≤ 9223372036854775807 → step s (pre.length, false) = (n, (pre ++ putB n).length, false)
def ReadsT (word : ByteArray → Nat × Bool → ByteArray × Nat × Bool) : Prop := ∀ (s : ByteArray) (pre post : List UInt8) (t : ByteArray), s.data.toList = pre ++ ((putB t.size ++ t.data.toList) ++ post) → t.size ≤ 30 → word s (pre.length, false) = (t, (pre ++ (putB t.size ++ t.data.toList)).length, false)
theorem G_back (s : ByteArray) (pre post : List UInt8) (n : Int) (hs : s.data.toList = pre ++ (putB n ++ post)) (h1 : -9223372036854775808 ≤ n) (h2 : n ≤ 9223372036854775807) : G s pre.length 10 0 0 = (n, (pre.length : Int) + (putB n).length, 0) := by
  have e : s = ⟨(pre ++ putB n ++ post).toArray⟩ := by
    apply ByteArray.ext
    apply Array.ext'
    rw [hs]
    simp
  rw [e]
  exact G_num pre post n h1 h2
theorem reads_I : Reads stepI := by
  intro s pre post n hs h1 h2
  unfold stepI
  rw [G_back s pre post n hs h1 h2]
  simp
  omega
theorem reads_S : Reads stepS := by
  intro s pre post n hs h1 h2
  unfold stepS
  simp only [Bool.false_or]
  rw [G_back s pre post n hs h1 h2]
  simp
  omega
theorem H_back (s : ByteArray) (pre post : List UInt8) (t : ByteArray) (hs : s.data.toList = pre ++ ((putB t.size ++ t.data.toList) ++ post)) (ht : t.size ≤ 30) : H s pre.length = (t, (pre.length : Int) + (putB t.size ++ t.data.toList).length, 0) := by
  have hg := G_back s pre (t.data.toList ++ post) t.size (by rw [hs]; simp) (by omega) (by omega)
  have hl : s.size = pre.length + ((putB t.size).length + (t.size + post.length)) := by
    have e : s.size = s.data.toList.length := rfl
    have e2 : t.data.toList.length = t.size := rfl
    rw [e, hs]
    simp only [List.length_append, e2]
    omega
  unfold H
  rw [hg]
  simp only [ne_eq, not_true_eq_false, if_false]
  rw [if_neg (by omega), if_neg (by omega)]
  have e2 : t.data.toList.length = t.size := rfl
  refine Prod.ext ?_ (Prod.ext ?_ rfl)
  · apply ByteArray.ext
    apply Array.ext'
    simp only []
    rw [Lib.extract_data, hs]
    have ha : ((pre.length : Int) + (putB t.size).length).toNat = pre.length + (putB t.size).length := by omega
    rw [ha, Int.toNat_natCast, Nat.add_sub_cancel_left]
    rw [show pre ++ ((putB t.size ++ t.data.toList) ++ post) = (pre ++ putB t.size) ++ (t.data.toList ++ post) by simp, ← List.length_append, List.drop_left, ← e2, List.take_left]
  · simp only [List.length_append, e2]
    omega
theorem readsT_I : ReadsT wordI := by
  intro s pre post t hs ht
  unfold wordI
  rw [H_back s pre post t hs ht]
  simp
  omega
theorem readsT_S : ReadsT wordS := by
  intro s pre post t hs ht
  unfold wordS
  simp only [Bool.false_or]
  rw [H_back s pre post t hs ht]
  simp
  omega
theorem reads_nums {step : ByteArray → Nat × Bool → Int × Nat × Bool} (hR : Reads step) (s : ByteArray) (pre post : List UInt8) (zs : List Int) (hs : s.data.toList = pre ++ (zs.flatMap putB ++ post)) (hz : ∀ z ∈ zs, 1 ≤ z ∧ z ≤ 1000000) :
    ∀ k, k ≤ zs.length → numsR step s k (pre.length, false) = (zs.take k, (pre ++ (zs.take k).flatMap putB).length, false)
  | 0, _ => by simp [numsR]
  | k + 1, hk => by
    have ih := reads_nums hR s pre post zs hs hz k (by omega)
    have hlt : k < zs.length := by omega
    have hb := hz zs[k] (List.getElem_mem hlt)
    have hd : zs = zs.take k ++ (zs[k] :: zs.drop (k + 1)) := by rw [← List.drop_eq_getElem_cons hlt, List.take_append_drop]
    have h := hR s (pre ++ (zs.take k).flatMap putB) ((zs.drop (k + 1)).flatMap putB ++ post) zs[k] (by
      rw [hs]
      conv => lhs; rw [hd]
      simp only [List.flatMap_append, List.flatMap_cons, List.append_assoc]) (by omega) (by omega)
    unfold numsR
    rw [ih]
    simp only []
    rw [h, List.take_succ_eq_append_getElem hlt]
    simp only [List.flatMap_append, List.flatMap_cons, List.flatMap_nil, List.append_nil, List.append_assoc]
/-- Of an event's bytes just that event is read. -/
theorem read_back {step : ByteArray → Nat × Bool → Int × Nat × Bool} {word : ByteArray → Nat × Bool → ByteArray × Nat × Bool} (hR : Reads step) (hT : ReadsT word) {v : Ev} (sm : Small v) {s : ByteArray} (hs : s.data.toList = evL v)
    {n1 n2 n3 n4 n5 n6 m tm : Int} {t : ByteArray} {zs : List Int} {s1 s2 s3 s4 s5 s6 s7 s8 s9 s10 : Nat × Bool} {k : Nat} (e1 : step s (0, false) = (n1, s1)) (e2 : step s s1 = (n2, s2)) (e3 : step s s2 = (n3, s3)) (e4 : step s s3 = (n4, s4)) (e5 : step s s4 = (n5, s5)) (e6 : step s s5 = (n6, s6))
    (e7 : word s s6 = (t, s7)) (e8 : step s s7 = (m, s8)) (e9 : numsR step s k s8 = (zs, s9)) (e10 : step s s9 = (tm, s10)) :
    m = v.prev.length ∧ s8.2 = false ∧ (∀ j, j ≤ v.prev.length → (numsR step s j s8).2.2 = false) ∧ (k = v.prev.length → (⟨n1, n2, n3, n4, n5, n6, t, zs, tm⟩ : Ev) = v ∧ s10.2 = false) := by
  have b1 := sm.id; have b2 := sm.room; have b3 := sm.author; have b4 := sm.kind; have b5 := sm.key; have b6 := sm.n; have b7 := sm.time; have b8 := sm.prev
  have E : s.data.toList = putB v.id ++ (putB v.room ++ (putB v.author ++ (putB v.kind ++ (putB v.key ++ (putB v.n ++ ((putB v.text.size ++ v.text.data.toList) ++ (putB v.prev.length ++ (v.prev.flatMap putB ++ putB v.time)))))))) := by
    rw [hs]; simp only [evL, headL, List.append_assoc]
  have r1 := hR s [] (putB v.room ++ (putB v.author ++ (putB v.kind ++ (putB v.key ++ (putB v.n ++ ((putB v.text.size ++ v.text.data.toList) ++ (putB v.prev.length ++ (v.prev.flatMap putB ++ putB v.time)))))))) v.id (by rw [E]; rfl) (by omega) (by omega)
  rw [show (([] : List UInt8).length, false) = (0, false) from rfl, e1] at r1
  simp only [Prod.mk.injEq, List.nil_append] at r1
  obtain ⟨rfl, rfl⟩ := r1
  have r2 := hR s (putB v.id) (putB v.author ++ (putB v.kind ++ (putB v.key ++ (putB v.n ++ ((putB v.text.size ++ v.text.data.toList) ++ (putB v.prev.length ++ (v.prev.flatMap putB ++ putB v.time))))))) v.room E (by omega) (by omega)
  rw [e2] at r2
  obtain ⟨rfl, rfl⟩ := Prod.mk.inj r2
  have r3 := hR s (putB v.id ++ putB v.room) (putB v.kind ++ (putB v.key ++ (putB v.n ++ ((putB v.text.size ++ v.text.data.toList) ++ (putB v.prev.length ++ (v.prev.flatMap putB ++ putB v.time)))))) v.author (by rw [E]; simp only [List.append_assoc]) (by omega) (by omega)
  rw [e3] at r3
  obtain ⟨rfl, rfl⟩ := Prod.mk.inj r3
  have r4 := hR s (putB v.id ++ putB v.room ++ putB v.author) (putB v.key ++ (putB v.n ++ ((putB v.text.size ++ v.text.data.toList) ++ (putB v.prev.length ++ (v.prev.flatMap putB ++ putB v.time))))) v.kind (by rw [E]; simp only [List.append_assoc]) (by omega) (by omega)
  rw [e4] at r4
  obtain ⟨rfl, rfl⟩ := Prod.mk.inj r4
  have r5 := hR s (putB v.id ++ putB v.room ++ putB v.author ++ putB v.kind) (putB v.n ++ ((putB v.text.size ++ v.text.data.toList) ++ (putB v.prev.length ++ (v.prev.flatMap putB ++ putB v.time)))) v.key (by rw [E]; simp only [List.append_assoc]) (by omega) (by omega)
  rw [e5] at r5
  obtain ⟨rfl, rfl⟩ := Prod.mk.inj r5
  have r6 := hR s (putB v.id ++ putB v.room ++ putB v.author ++ putB v.kind ++ putB v.key) ((putB v.text.size ++ v.text.data.toList) ++ (putB v.prev.length ++ (v.prev.flatMap putB ++ putB v.time))) v.n (by rw [E]; simp only [List.append_assoc]) (by omega) (by omega)
  rw [e6] at r6
  obtain ⟨rfl, rfl⟩ := Prod.mk.inj r6
  have r7 := hT s (putB v.id ++ putB v.room ++ putB v.author ++ putB v.kind ++ putB v.key ++ putB v.n) (putB v.prev.length ++ (v.prev.flatMap putB ++ putB v.time)) v.text (by rw [E]; simp only [List.append_assoc]) sm.text
  rw [e7] at r7
  obtain ⟨rfl, rfl⟩ := Prod.mk.inj r7
  have r8 := hR s (putB v.id ++ putB v.room ++ putB v.author ++ putB v.kind ++ putB v.key ++ putB v.n ++ (putB v.text.size ++ v.text.data.toList)) (v.prev.flatMap putB ++ putB v.time) v.prev.length (by rw [E]; simp only [List.append_assoc]) (by omega) (by omega)
  rw [e8] at r8
  obtain ⟨rfl, rfl⟩ := Prod.mk.inj r8
  have r9 := reads_nums hR s (headL v) (putB v.time) v.prev (by rw [E]; simp only [headL, List.append_assoc]) sm.each
  have hh : ((putB v.id ++ putB v.room ++ putB v.author ++ putB v.kind ++ putB v.key ++ putB v.n ++ (putB v.text.size ++ v.text.data.toList) ++ putB v.prev.length).length, false) = ((headL v).length, false) := rfl
  rw [hh] at e9 ⊢
  refine ⟨rfl, rfl, fun j hj => by rw [r9 j hj], fun hk => ?_⟩
  subst hk
  have q := r9 v.prev.length (Nat.le_refl _)
  rw [e9, List.take_length] at q
  obtain ⟨rfl, rfl⟩ := Prod.mk.inj q
  have r10 := hR s (headL v ++ v.prev.flatMap putB) [] v.time (by rw [hs]; simp only [evL, List.append_nil]) (by omega) (by omega)
  rw [e10] at r10
  obtain ⟨rfl, rfl⟩ := Prod.mk.inj r10
  exact ⟨rfl, rfl⟩
end Go.Proofs.Ytjdkenopfnepaaa
