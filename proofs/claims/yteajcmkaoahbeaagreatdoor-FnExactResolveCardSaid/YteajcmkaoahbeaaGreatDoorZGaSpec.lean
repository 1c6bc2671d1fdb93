/- What stands ahead of what, as plain functions: what a call of the function that calls itself leaves, and a list of what is still to do. A row of numbers of one's own from which the first is taken, and to which others are put. AheadOf of the specification. -/
import Derived.Test.YteajcmkaoahbeaaGreatDoorZGrDepth
import Derived.Test.YteajcmkaoahbeaaGreatDoorZMsSet2
import Derived.ArgAppend
import Derived.Test.YteajcmkaoahbeaaGreatDoorZGrAt
namespace Go.Proofs.YteajcmkaoahbeaaGreatDoor

/-- From b one comes to a. -/
inductive Way (pv : Int → Option (List Int)) : Int → Int → Prop
  | one {b p : Int} {ps : List Int} (h : pv b = some ps) (hp : p ∈ ps) : Way pv b p
  | more {b p a : Int} {ps : List Int} (h : pv b = some ps) (hp : p ∈ ps) (hw : Way pv p a) : Way pv b a
theorem Way.on {pv : Int → Option (List Int)} {b x p : Int} {ps : List Int} (h : Way pv b x) (hx : pv x = some ps) (hp : p ∈ ps) : Way pv b p := by
  induction h with
  | one h1 h2 => exact .more h1 h2 (.one hx hp)
  | more h1 h2 _ ih => exact .more h1 h2 (ih hx)
/-- What holds all that is next to b, and with each what is next to it, holds all to which one comes. -/
theorem Way.within {pv : Int → Option (List Int)} {P : Int → Prop} (hc : ∀ x, P x → ∀ ps, pv x = some ps → ∀ p ∈ ps, P p) {b a : Int} (h : Way pv b a) (hb : ∀ ps, pv b = some ps → ∀ p ∈ ps, P p) : P a := by
  induction h with
  | one h1 h2 => exact hb _ h1 _ h2
  | more h1 h2 _ ih => exact ih (hc _ (hb _ h1 _ h2))
theorem Way.from {pv : Int → Option (List Int)} {b a : Int} (h : Way pv b a) : ∃ ps, pv b = some ps := by
  cases h with
  | one h1 _ => exact ⟨_, h1⟩
  | more h1 _ _ => exact ⟨_, h1⟩
def lacks (ids l : List Int) : Nat := ids.countP fun id => !l.contains id
theorem lacks_none (ids : List Int) : lacks ids [] = ids.length := by
  unfold lacks
  rw [List.countP_eq_length]
  intro x _
  rfl
theorem lacks_le {ids l l' : List Int} (h : ∀ x ∈ l, x ∈ l') : lacks ids l' ≤ lacks ids l := by
  refine countP_le fun x _ hx => ?_
  simp only [Bool.not_eq_true', List.contains_eq_mem, decide_eq_false_iff_not] at hx ⊢
  exact fun hm => hx (h x hm)
theorem lacks_lt {ids l : List Int} {p : Int} (hp : p ∈ ids) (hn : p ∉ l) : lacks ids (p :: l) < lacks ids l := by
  refine countP_lt (fun x _ hx => ?_) ⟨p, hp, by simpa using hn, by simp⟩
  simp only [Bool.not_eq_true', List.contains_eq_mem, decide_eq_false_iff_not, List.mem_cons, not_or] at hx ⊢
  exact hx.2
/-- What a call at an Id leaves. -/
structure WLeft (pv : Int → Option (List Int)) (ids : List Int) (id : Int) (l l' : List Int) : Prop where
  old : ∀ x ∈ l, x ∈ l'
  dom : ∀ x ∈ l', x ∈ ids
  sound : ∀ x ∈ l', x ∈ l ∨ Way pv id x
  here : ∀ ps, pv id = some ps → ∀ p ∈ ps, p ∈ l'
  clo : ∀ x ∈ l', x ∉ l → ∀ ps, pv x = some ps → ∀ p ∈ ps, p ∈ l'
  cost : l'.length + lacks ids l' ≤ l.length + lacks ids l
/-- What is there in mid-call, when j of the numbers have been looked at. -/
structure WMid (pv : Int → Option (List Int)) (ids : List Int) (id : Int) (ps : List Int) (j : Nat) (l lj : List Int) : Prop where
  old : ∀ x ∈ l, x ∈ lj
  dom : ∀ x ∈ lj, x ∈ ids
  sound : ∀ x ∈ lj, x ∈ l ∨ Way pv id x
  here : ∀ i (h : i < ps.length), i < j → ps[i] ∈ lj
  clo : ∀ x ∈ lj, x ∉ l → ∀ qs, pv x = some qs → ∀ p ∈ qs, p ∈ lj
  cost : lj.length + lacks ids lj ≤ l.length + lacks ids l
theorem WMid.start {pv : Int → Option (List Int)} {ids : List Int} {id : Int} {ps l : List Int} (hd : ∀ x ∈ l, x ∈ ids) : WMid pv ids id ps 0 l l :=
  ⟨fun _ h => h, hd, fun _ h => .inl h, fun _ _ h => absurd h (Nat.not_lt_zero _), fun _ hx hn => absurd hx hn, Nat.le_refl _⟩
theorem WMid.skip {pv : Int → Option (List Int)} {ids : List Int} {id : Int} {ps : List Int} {j : Nat} {l lj : List Int} (h : WMid pv ids id ps j l lj) (hj : j < ps.length) (hin : ps[j] ∈ lj) : WMid pv ids id ps (j + 1) l lj :=
  ⟨h.old, h.dom, h.sound, fun i hi hij => by
    by_cases e : i = j
    · subst e; exact hin
    · exact h.here i hi (by omega), h.clo, h.cost⟩
theorem WMid.next {pv : Int → Option (List Int)} {ids : List Int} {id : Int} {ps : List Int} {j : Nat} {l lj l' : List Int} (h : WMid pv ids id ps j l lj) (hpv : pv id = some ps) (hj : j < ps.length) (hin : ps[j] ∈ ids) (hno : ps[j] ∉ lj) (hl : WLeft pv ids ps[j] (ps[j] :: lj) l') : WMid pv ids id ps (j + 1) l l' := by
  have hw : Way pv id ps[j] := .one hpv (List.getElem_mem hj)
  refine ⟨fun x hx => hl.old x (List.mem_cons_of_mem _ (h.old x hx)), hl.dom, fun x hx => ?_, fun i hi hij => ?_, fun x hx hn qs hq p hp => ?_, ?_⟩
  · rcases hl.sound x hx with h1 | h1
    · rcases List.mem_cons.1 h1 with rfl | h1
      · exact .inr hw
      · exact h.sound x h1
    · exact .inr (.more hpv (List.getElem_mem hj) h1)
  · by_cases e : i = j
    · subst e; exact hl.old _ List.mem_cons_self
    · exact hl.old _ (List.mem_cons_of_mem _ (h.here i hi (by omega)))
  · by_cases e : x = ps[j]
    · subst e
      exact hl.here qs hq p hp
    · by_cases hx2 : x ∈ lj
      · exact hl.old _ (List.mem_cons_of_mem _ (h.clo x hx2 hn qs hq p hp))
      · exact hl.clo x hx (fun hm => by
          rcases List.mem_cons.1 hm with h1 | h1
          · exact e h1
          · exact hx2 h1) qs hq p hp
  · have h1 := h.cost
    have h2 := hl.cost
    have h3 := lacks_lt hin hno
    simp only [List.length_cons] at h2
    omega
theorem WMid.less {pv : Int → Option (List Int)} {ids : List Int} {id : Int} {ps : List Int} {j : Nat} {l lj : List Int} (h : WMid pv ids id ps j l lj) (hin : ps.getD j 0 ∈ ids) (hno : ps.getD j 0 ∉ lj) : lacks ids (ps.getD j 0 :: lj) < lacks ids l := Nat.lt_of_lt_of_le (lacks_lt hin hno) (lacks_le h.old)
theorem WMid.end {pv : Int → Option (List Int)} {ids : List Int} {id : Int} {ps l lj : List Int} (h : WMid pv ids id ps ps.length l lj) (hpv : pv id = some ps) : WLeft pv ids id l lj :=
  ⟨h.old, h.dom, h.sound, fun qs hq p hp => by
    rw [hpv] at hq
    cases hq
    obtain ⟨i, hi, rfl⟩ := List.getElem_of_mem hp
    exact h.here i hi hi, h.clo, h.cost⟩
/-- An Id that is not there: nothing is next to it. -/
theorem WLeft.none {pv : Int → Option (List Int)} {ids : List Int} {id : Int} {l : List Int} (hd : ∀ x ∈ l, x ∈ ids) (h : pv id = none) : WLeft pv ids id l l :=
  ⟨fun _ h => h, hd, fun _ h => .inl h, fun ps hps => (by rw [h] at hps; cases hps), fun _ hx hn => absurd hx hn, Nat.le_refl _⟩
theorem WLeft.all {pv : Int → Option (List Int)} {ids : List Int} {id : Int} {l : List Int} (h : WLeft pv ids id [] l) (a : Int) : a ∈ l ↔ Way pv id a := by
  constructor
  · intro ha
    rcases h.sound a ha with h1 | h1
    · cases h1
    · exact h1
  · exact fun hw => hw.within (P := fun x => x ∈ l) (fun x hx => h.clo x hx (fun hn => by cases hn)) h.here
/-- What is marked, and what is still to do. -/
structure Todo (pv : Int → Option (List Int)) (ids : List Int) (a b : Int) (marks : List Bool) (todo : List Int) : Prop where
  len : marks.length = ids.length
  soundT : ∀ x ∈ todo, Way pv b x
  inT : ∀ x ∈ todo, x ∈ ids
  notA : ∀ i (h : i < ids.length), marks.getD i false = true → ids[i] ≠ a
  start : ∀ ps, pv b = some ps → ∀ p ∈ ps, p ∈ todo ∨ ∃ i, ∃ h : i < ids.length, marks.getD i false = true ∧ ids[i] = p
  clo : ∀ i (h : i < ids.length), marks.getD i false = true → ∀ ps, pv ids[i] = some ps → ∀ p ∈ ps, p ∈ todo ∨ ∃ i, ∃ h : i < ids.length, marks.getD i false = true ∧ ids[i] = p
def open' (marks : List Bool) : Nat := marks.countP fun m => !m
theorem Todo.begin {pv : Int → Option (List Int)} {ids : List Int} {a b : Int} {ps : List Int} (hpv : pv b = some ps) (hin : ∀ p ∈ ps, p ∈ ids) : Todo pv ids a b (List.replicate ids.length false) ps :=
  ⟨by simp, fun x hx => .one hpv hx, hin, fun i h hm => by simp [List.getD, h] at hm, fun qs hq p hp => by rw [hpv] at hq; cases hq; exact .inl hp, fun i h hm => by simp [List.getD, h] at hm⟩
theorem Todo.end {pv : Int → Option (List Int)} {ids : List Int} {a b : Int} {marks : List Bool} (h : Todo pv ids a b marks []) : ¬ Way pv b a := fun hw => by
  have := hw.within (P := fun x => ∃ i, ∃ h : i < ids.length, marks.getD i false = true ∧ ids[i] = x) (fun x hx ps hps p hp => by
    obtain ⟨i, hi, hm, rfl⟩ := hx
    rcases h.clo i hi hm ps hps p hp with h1 | h1
    · cases h1
    · exact h1) (fun ps hps p hp => by
    rcases h.start ps hps p hp with h1 | h1
    · cases h1
    · exact h1)
  obtain ⟨i, hi, hm, he⟩ := this
  exact h.notA i hi hm he
theorem Todo.hit {pv : Int → Option (List Int)} {ids : List Int} {a b : Int} {marks : List Bool} {r : List Int} (h : Todo pv ids a b marks (a :: r)) : Way pv b a := h.soundT a List.mem_cons_self
theorem Todo.skip {pv : Int → Option (List Int)} {ids : List Int} {a b x : Int} {marks : List Bool} {r : List Int} (h : Todo pv ids a b marks (x :: r)) {k : Nat} (hk : k < ids.length) (hx : ids[k] = x) (hm : marks.getD k false = true) : Todo pv ids a b marks r := by
  have key : ∀ p, (p ∈ x :: r ∨ ∃ i, ∃ h : i < ids.length, marks.getD i false = true ∧ ids[i] = p) → p ∈ r ∨ ∃ i, ∃ h : i < ids.length, marks.getD i false = true ∧ ids[i] = p := fun p hp => by
    rcases hp with h1 | h1
    · rcases List.mem_cons.1 h1 with rfl | h1
      · exact .inr ⟨k, hk, hm, hx⟩
      · exact .inl h1
    · exact .inr h1
  exact ⟨h.len, fun y hy => h.soundT y (List.mem_cons_of_mem _ hy), fun y hy => h.inT y (List.mem_cons_of_mem _ hy), h.notA, fun ps hps p hp => key p (h.start ps hps p hp), fun i hi hmi ps hps p hp => key p (h.clo i hi hmi ps hps p hp)⟩
theorem getD_set_of {marks : List Bool} {k i : Nat} (h : marks.getD i false = true) : (marks.set k true).getD i false = true := by
  by_cases e : k = i
  · subst e
    by_cases hl : k < marks.length
    · simp [hl]
    · rw [List.set_eq_of_length_le (by omega)]; exact h
  · simpa [List.getD, List.getElem?_set_ne e] using h
theorem Todo.next {pv : Int → Option (List Int)} {ids : List Int} {a b x : Int} {marks : List Bool} {r ps : List Int} (h : Todo pv ids a b marks (x :: r)) {k : Nat} (hk : k < ids.length) (hx : ids[k] = x) (hxa : x ≠ a) (hpv : pv x = some ps) (hin : ∀ p ∈ ps, p ∈ ids) : Todo pv ids a b (marks.set k true) (r ++ ps) := by
  have hset : (marks.set k true).getD k false = true := by simp [h.len, hk]
  have key : ∀ p, (p ∈ x :: r ∨ ∃ i, ∃ h : i < ids.length, marks.getD i false = true ∧ ids[i] = p) → p ∈ r ++ ps ∨ ∃ i, ∃ h : i < ids.length, (marks.set k true).getD i false = true ∧ ids[i] = p := fun p hp => by
    rcases hp with h1 | ⟨i, hi, hm, he⟩
    · rcases List.mem_cons.1 h1 with rfl | h1
      · exact .inr ⟨k, hk, hset, hx⟩
      · exact .inl (List.mem_append_left _ h1)
    · exact .inr ⟨i, hi, getD_set_of hm, he⟩
  have old : ∀ i (h : i < ids.length), (marks.set k true).getD i false = true → i = k ∨ marks.getD i false = true := fun i hi hm => by
    by_cases e : k = i
    · exact .inl e.symm
    · right
      simpa [List.getD, List.getElem?_set_ne e] using hm
  refine ⟨by simpa using h.len, fun y hy => ?_, fun y hy => ?_, fun i hi hm => ?_, fun qs hq p hp => key p (h.start qs hq p hp), fun i hi hm qs hq p hp => ?_⟩
  · rcases List.mem_append.1 hy with h1 | h1
    · exact h.soundT y (List.mem_cons_of_mem _ h1)
    · exact (h.soundT x List.mem_cons_self).on hpv h1
  · rcases List.mem_append.1 hy with h1 | h1
    · exact h.inT y (List.mem_cons_of_mem _ h1)
    · exact hin y h1
  · rcases old i hi hm with rfl | h1
    · rw [hx]; exact hxa
    · exact h.notA i hi h1
  · rcases old i hi hm with rfl | h1
    · rw [hx, hpv] at hq
      cases hq
      exact .inl (List.mem_append_right _ hp)
    · exact key p (h.clo i hi h1 qs hq p hp)
theorem open_set {marks : List Bool} {k : Nat} (hk : k < marks.length) (hm : marks.getD k false = false) : open' (marks.set k true) + 1 = open' marks := by
  unfold open'
  have hk2 : marks[k] = false := by simpa [List.getD, hk] using hm
  rw [List.countP_set hk]
  have : 0 < marks.countP fun m => !m := List.countP_pos_iff.2 ⟨marks[k], List.getElem_mem hk, by simp [hk2]⟩
  simp [hk2]
  omega
end Go.Proofs.YteajcmkaoahbeaaGreatDoor
namespace Go.Proofs.YteajcmkaoahbeaaGreatDoor
open Go.RowKit

/-- Such a row, in a block from lo on. -/
structure TodoAt (W : World) (lo : Nat) (q : Option Addr) (c : Nat) (zs : List Int) : Prop where
  le : zs.length ≤ c
  row : 0 < c → ∃ b off C, q = some ⟨b, off, none⟩ ∧ lo ≤ b ∧ W.heap[b]? = some (.cells C 2 (0, 0)) ∧ off + c ≤ C.size ∧ ∀ j (h : j < zs.length), C[off + j]? = some (.int .i64 zs[j])
theorem TodoAt.ofOwn {W : World} {lo n : Nat} {v : Value} {zs : List Int} (h : W.ownsRow lo 2 1 v n (nv zs)) : ∃ q c, v = .slice q n c ∧ n = zs.length ∧ TodoAt W lo q c zs := by
  have hn : n = zs.length := by have := h.1; simpa [nv] using this.symm
  subst hn
  rcases h.2 with ⟨rfl, h0⟩ | ⟨g, cap, cur, rfl, hb, hg, hle, _, hsz, ht⟩
  · exact ⟨none, 0, by rw [h0], rfl, by omega, fun h => absurd h (Nat.lt_irrefl 0)⟩
  · refine ⟨_, cap, rfl, rfl, hle, fun _ => ⟨g, 0, cur, rfl, hb, hg, by omega, fun j hj => ?_⟩⟩
    have h1 : (cur.toList.take (zs.length * 1))[j]? = (nv zs)[j]? := by rw [ht]
    rw [List.getElem?_take_of_lt (by omega)] at h1
    rw [Nat.zero_add, ← Array.getElem?_toList, h1]
    simp [nv, hj]
theorem TodoAt.kept {W W' : World} {lo : Nat} {q : Option Addr} {c : Nat} {zs : List Int} (h : TodoAt W lo q c zs) (hk : ∀ b, lo ≤ b → b < W.heap.size → W'.heap[b]? = W.heap[b]?) : TodoAt W' lo q c zs := by
  refine ⟨h.le, fun hc => ?_⟩
  obtain ⟨b, off, C, hq, hb, hC, r⟩ := h.row hc
  exact ⟨b, off, C, hq, hb, (hk b hb (Array.getElem?_eq_some_iff.1 hC).1).trans hC, r⟩
theorem setCells_heap {t : TypeId} (b : Nat) : ∀ (vs : List Value) (o : Nat) (w : World) (C : Array Value), w.heap[b]? = some (.cells C t (0, 0)) → (∃ C', (w.setCells b o vs).heap[b]? = some (.cells C' t (0, 0)) ∧ C'.size = C.size) ∧ (∀ lo, lo ≤ b → Below lo w (w.setCells b o vs))
  | [], _, w, C, h => ⟨⟨C, h, rfl⟩, fun lo _ => Below.refl _ _⟩
  | v :: r, o, w, C, h => by
    have h1 := heap_set (i := o) h v
    obtain ⟨⟨C', e1, e2⟩, e3⟩ := setCells_heap b r (o + 1) _ _ h1
    rw [World.setCells]
    exact ⟨⟨C', e1, by simpa using e2⟩, fun lo hlo => ((Below.refl lo w).setCell hlo v).trans (e3 lo hlo)⟩
theorem grown_below {w w' : World} {lo : Nat} (h : w.grownBy w' none) (hlo : lo ≤ w.heap.size) : Below lo w w' := ⟨h.os, h.tape, h.output, h.size, fun k hk => h.block k (by omega) (by simp)⟩
theorem wpList_append_todo {w : World} {ops : Array Oper} {rest : List Oper} {o : Oper} {a : Act} {Q : Exit → Act → World → Prop} (hgd : o.guard = none) (s x : Operand) (t : TypeId)
    (ho : o.op = .call { callee := .builtin .append, args := #[s, x], argTypes := #[t, t] })
    (i : TypeInfo) (z : Value) (ht : Tryz.prog.underlying t = some (.slice 2)) (hi : Tryz.prog.info? 2 = some i) (hz : i.zero = some z)
    (hsize : i.size = 1) (hby : i.bytes = 8) (hzs : z.cells.size = 1)
    (lo : Nat) (q : Option Addr) (c : Nat) (zs : List Int) (hs : a.eval s = .slice q zs.length c) (hq : TodoAt w lo q c zs) (hlo : lo ≤ w.heap.size)
    (p : Option Addr) (cap : Nat) (ps : List Int) (hn : NumsAt w p ps) (hx : a.eval x = .slice p ps.length cap)
    (hb : zs.length + ps.length ≤ 1000000)
    (h : ∀ q' c' w', TodoAt w' lo q' c' (zs ++ ps) → Below lo w w' → wpList Tryz.prog ops Q rest (a.put o.dst (.slice q' (zs ++ ps).length c')) w') : wpList Tryz.prog ops Q (o :: rest) a w := by
  by_cases hp : 0 < ps.length
  · obtain ⟨pb, poff, rfl, hpb, hpc⟩ := hn.2 hp
    have hsrc : ∀ j u, (nv ps)[j]? = some u → w.cell? ((⟨pb, poff, none⟩ : Addr).add j) = some u := fun j u hj => by
      rw [Addr.add_lit]
      have hjl : j < ps.length := by
        rcases Nat.lt_or_ge j ps.length with h | h
        · exact h
        · rw [List.getElem?_eq_none (by rw [nv_lenC]; exact h)] at hj; cases hj
      rw [hpc j hjl, ← hj]
      simp [nv, hjl]
    have grows : ∀ v' w', w'.ownsRow w.heap.size 2 1 v' (zs.length + ps.length) (nv zs ++ nv ps) → w.grownBy w' none → wpList Tryz.prog ops Q rest (a.put o.dst v') w' := fun v' w' hown hg => by
      have e : nv zs ++ nv ps = nv (zs ++ ps) := by simp [nv]
      rw [e] at hown
      obtain ⟨q', c', rfl, hl, hT⟩ := TodoAt.ofOwn hown
      rw [hl]
      refine h q' c' w' ⟨hT.le, fun hc => ?_⟩ (grown_below hg hlo)
      obtain ⟨b, off, C, hq', hb', r⟩ := hT.row hc
      exact ⟨b, off, C, hq', Nat.le_trans hlo hb', r⟩
    by_cases hc : 0 < c
    · obtain ⟨b, off, C, rfl, hbl, hC, hsz, hcell⟩ := hq.row hc
      refine wpList_append_arg w hgd s x t ho 2 i z 1 8 ht hi hz hsize hby hzs (by decide) b off zs.length c (nv zs) hs (by simp [nv]) (fun j u hj => ?_) ⟨pb, poff, none⟩ ps.length cap (nv ps) hx (by simp [nv]) hsrc (nv_oneC ps) (fun hr j hj => ?_) (by unfold maxLen; omega) (by omega) (fun hr => ?_) (fun hr v' w' hown hg => grows v' w' hown hg)
      · rw [cell_of_heap hC]
        have hjl : j < zs.length := by
          rcases Nat.lt_or_ge j zs.length with h | h
          · exact h
          · rw [List.getElem?_eq_none (by rw [nv_lenC]; exact h)] at hj; cases hj
        rw [hcell j hjl, ← hj]
        simp [nv, hjl]
      · rw [nv_lenC] at hj
        refine ⟨?_, frozen_of_heap hC⟩
        rw [cell_of_heap hC, Array.getElem?_eq_getElem (by omega)]
        rfl
      · obtain ⟨⟨C', e1, e2⟩, e3⟩ := setCells_heap b (nv ps) (off + zs.length * 1) w C hC
        have el : (zs ++ ps).length = zs.length + ps.length := by simp
        rw [← el]
        refine h _ c _ ⟨by rw [el]; exact hr, fun _ => ⟨b, off, C', rfl, hbl, e1, by rw [e2]; exact hsz, fun j hj => ?_⟩⟩ (e3 lo hbl)
        rw [← cell_of_heap e1]
        by_cases hjz : j < zs.length
        · rw [World.cell?_setCells_out b (nv ps) _ w _ (fun _ _ => .inl (by simp; omega)), cell_of_heap hC, hcell j hjz, List.getElem_append_left hjz]
        · have hj2 : j - zs.length < ps.length := by omega
          have := World.cell?_setCells_in b (nv ps) (off + zs.length * 1) w (fun k hk => by
            rw [nv_lenC] at hk
            rw [cell_of_heap hC, Array.getElem?_eq_getElem (by omega)]
            rfl) (j - zs.length) (by rw [nv_lenC]; exact hj2)
          rw [show off + j = off + zs.length * 1 + (j - zs.length) by omega, this, List.getElem_append_right (by omega)]
          simp [nv]
    · have hz0 : zs = [] := List.eq_nil_of_length_eq_zero (by have := hq.le; omega)
      subst hz0
      obtain rfl : c = 0 := by omega
      exact wpList_append_grows w hgd s x t ho 2 i z 1 8 ht hi hz hsize hby hzs (by decide) q 0 0 [] hs (fun _ => ⟨rfl, rfl⟩) rfl (fun _ _ j u hj => by cases hj) ⟨pb, poff, none⟩ ps.length cap (nv ps) hx (by simp [nv]) hsrc (nv_oneC ps) (by omega) (by unfold maxLen; omega) (by omega) (fun v' w' hown hg => grows v' w' hown hg)
  · have h0 : ps = [] := List.eq_nil_of_length_eq_zero (by omega)
    subst h0
    refine wpList_plain hgd fun K hK => ?_
    have hrun : (Builtin.append_ #[t, t] o.type #[.slice q zs.length c, .slice p 0 cap]).run Tryz.prog w = .ok (.slice q zs.length c) w := by
      cases p
      · exact run_append_nothing w t t o.type 2 i ht hi q _ c hq.le _ (Src.ofNil w ht cap)
      · exact run_append_nothing w t t o.type 2 i ht hi q _ c hq.le _ (Src.ofSlice w ht _ 0 cap [] (by simp) (fun j u h => by simp at h) (fun u h => by cases h))
    unfold Oper.wp
    simp [execOp, ho, resolve, invoke, builtin, hs, hx, hrun, Result.andThen]
    have := h q c w (by simpa using hq) (Below.refl _ _)
    exact hK _ _ (by simpa using this)
end Go.Proofs.YteajcmkaoahbeaaGreatDoor
namespace Go.Proofs.YteajcmkaoahbeaaGreatDoor
open Go.RowKit

def bvs (d : List Bool) : List Value := d.map Value.bool
/-- The marks in memory: block g of one's own. -/
structure MkTab (w0 : World) (g n : Nat) (d : List Bool) (w : World) : Prop where
  row : w.heap[g]? = some (.cells (bvs d).toArray 4 (0, 0))
  len : d.length = n
theorem MkTab.cell {w0 : World} {g n : Nat} {d : List Bool} {w : World} (h : MkTab w0 g n d w) {j : Nat} (hj : j < n) : w.cell? ⟨g, j, none⟩ = some (.bool (d.getD j false)) := by
  rw [cell_of_heap h.row]
  have : j < d.length := by rw [h.len]; exact hj
  simp [bvs, this]
theorem MkTab.put {w0 : World} {g n : Nat} {d : List Bool} {w : World} (h : MkTab w0 g n d w) (j : Nat) : MkTab w0 g n (d.set j true) (w.setCell ⟨g, j, none⟩ (.bool true)) := by
  refine ⟨?_, by simpa using h.len⟩
  rw [heap_set h.row]
  simp [bvs, List.map_set]
/-- All that the loop holds: the graph's variable, the marks, what is to do. -/
structure AhAt (w : World) (g : Gr) (a : Option Addr) (cap : Nat) (p : Option Addr) (cp : Nat) (marks : List Bool) (q : Option Addr) (c : Nat) (todo : List Int) (W : World) : Prop where
  below : Below w.heap.size w W
  box : W.heap[w.heap.size]? = some (.cells #[.int .i64 g.room, .slice a g.evs.length cap, .slice p g.pk.length cp] 32 (0, 0))
  tab : MkTab w (w.heap.size + 1) g.evs.length marks W
  todo : TodoAt W (w.heap.size + 2) q c todo
  lt : w.heap.size + 1 < W.heap.size
theorem AhAt.on {w : World} {g : Gr} {a : Option Addr} {cap : Nat} {p : Option Addr} {cp : Nat} {marks : List Bool} {q : Option Addr} {c : Nat} {todo : List Int} {W W' : World} (h : AhAt w g a cap p cp marks q c todo W) {q' : Option Addr} {c' : Nat} {todo' : List Int} (hb : Below (w.heap.size + 2) W W') (ht : TodoAt W' (w.heap.size + 2) q' c' todo') : AhAt w g a cap p cp marks q' c' todo' W' :=
  ⟨h.below.trans (hb.mono (by omega)), (hb.block _ (by omega)).trans h.box, ⟨(hb.block _ (by omega)).trans h.tab.row, h.tab.len⟩, ht, Nat.lt_of_lt_of_le h.lt hb.size⟩
theorem AhAt.mark {w : World} {g : Gr} {a : Option Addr} {cap : Nat} {p : Option Addr} {cp : Nat} {marks : List Bool} {q : Option Addr} {c : Nat} {todo : List Int} {W : World} (h : AhAt w g a cap p cp marks q c todo W) (j : Nat) : AhAt w g a cap p cp (marks.set j true) q c todo (W.setCell ⟨w.heap.size + 1, j, none⟩ (.bool true)) :=
  ⟨h.below.setCell (by simp) _, (heap_setCell_other W ⟨w.heap.size + 1, j, none⟩ w.heap.size (.bool true) (by simp)).trans h.box, h.tab.put j, h.todo.kept fun b hb _ => heap_setCell_other W ⟨w.heap.size + 1, j, none⟩ b (.bool true) (by simp; omega), by simpa using h.lt⟩
theorem TodoAt.tail {W : World} {lo : Nat} {q : Option Addr} {c : Nat} {z : Int} {zs : List Int} (h : TodoAt W lo q c (z :: zs)) : ∃ b off, q = some ⟨b, off, none⟩ ∧ W.cell? ⟨b, off, none⟩ = some (.int .i64 z) ∧ TodoAt W lo (some ⟨b, off + 1, none⟩) (c - 1) zs ∧ (c = 1 → TodoAt W lo q 0 zs) := by
  have hle := h.le
  simp at hle
  obtain ⟨b, off, C, hq, hb, hC, hsz, hc⟩ := h.row (by omega)
  have h0 := hc 0 (by simp)
  simp at h0
  refine ⟨b, off, hq, (cell_of_heap hC).trans h0, ⟨by omega, fun _ => ⟨b, off + 1, C, rfl, hb, hC, by omega, fun j hj => ?_⟩⟩, fun e => ⟨by omega, fun h => absurd h (Nat.lt_irrefl 0)⟩⟩
  have := hc (j + 1) (by simp; omega)
  rw [Nat.add_assoc, Nat.add_comm 1 j]
  simpa using this
theorem prevs_right {g : Gr} (hr : rightG g = true) {m : Em} (hm : m ∈ g.evs) : (∀ x ∈ m.v.prev, x ∈ idsOf g.evs) ∧ m.v.prev.length ≤ 4 := by
  have hr' := hr
  unfold rightG at hr'
  simp only [Bool.and_eq_true] at hr'
  have h1 := (rowB_each hr'.1.1.1.1.2 hm).1
  unfold rightB prevB at h1
  simp only [Bool.and_eq_true] at h1
  exact ⟨evsB_prevs hr'.1.1.2 m hm, of_decide_eq_true h1.1.2.1.1⟩
theorem right_nd {g : Gr} (hr : rightG g = true) : (idsOf g.evs).Nodup ∧ g.evs.length ≤ 60 := by
  unfold rightG at hr
  simp only [Bool.and_eq_true] at hr
  exact ⟨rowB_nodup hr.1.1.1.1.2, rowB_len hr.1.1.1.1.2⟩
theorem way_in {g : Gr} (hr : rightG g = true) {b x : Int} (h : Way (pvOf g.evs) b x) : b ∈ idsOf g.evs ∧ x ∈ idsOf g.evs := by
  have key : ∀ c ps, pvOf g.evs c = some ps → ∀ p ∈ ps, p ∈ idsOf g.evs := fun c ps hps p hp => by
    obtain ⟨m, hm, rfl, hpv⟩ := mem_of_pv (pvOf_mem hps) (right_nd hr).1
    rw [hpv] at hps
    cases hps
    exact (prevs_right hr hm).1 p hp
  obtain ⟨ps, hps⟩ := h.from
  exact ⟨pvOf_mem hps, h.within (P := fun x => x ∈ idsOf g.evs) (fun c _ => key c) (key b)⟩
theorem pv_at {es : List Em} (hd : (idsOf es).Nodup) {k : Nat} (hk : k < es.length) : pvOf es (idsOf es)[k]! = some es[k].v.prev := by
  have : (idsOf es)[k]! = es[k].v.id := by
    rw [getElem!_pos (idsOf es) k (by simpa [idsOf] using hk)]
    simp [idsOf]
  rw [this]
  exact pvOf_at hd hk
theorem made_bools (n : Nat) : (madeCells (Value.bool false).cells (n * 1)).toList = bvs (List.replicate n false) := by
  simp [madeCells, Value.cells, Nat.mod_one, List.map_const', bvs]
theorem own_cells {w : World} {base g n : Nat} {e : TypeId} {xs : List Value} (h : w.ownsRow base e 1 (.slice (some ⟨g, 0, none⟩) n n) n xs) : w.heap[g]? = some (.cells xs.toArray e (0, 0)) := by
  rcases h.2 with ⟨h1, _⟩ | ⟨g', cap, cur, h1, _, hg, _, _, hsz, ht⟩
  · cases h1
  · cases h1
    rw [hg, ← ht, List.take_of_length_le (by simp; omega)]
theorem owns_nums {w : World} {base n cap : Nat} {a : Option Addr} {zs : List Int} (h : w.ownsRow base 2 1 (.slice a n cap) n (nv zs)) (hz : zs.length ≤ 1048576) : NumsAt w a zs := by
  refine ⟨hz, fun hp => ?_⟩
  have hn : n = zs.length := by have := h.1; simpa [nv] using this.symm
  obtain ⟨q, c, hv, _, hT⟩ := TodoAt.ofOwn h
  cases hv
  have := hT.le
  obtain ⟨b, off, C, hq, _, hC, _, hc⟩ := hT.row (by omega)
  exact ⟨b, off, hq, (Array.getElem?_eq_some_iff.1 hC).1, fun j hj => (cell_of_heap hC).trans (hc j hj)⟩
def isF : Value → Bool
  | .bool false => true
  | _ => false
/-- How many are not marked yet. -/
def openW (W : World) (g : Nat) : Nat := match W.heap[g]? with
  | some (.cells C _ _) => C.toList.countP isF
  | _ => 0
def lenOf : Value → Nat
  | .slice _ n _ => n
  | _ => 0
theorem MkTab.open {w0 : World} {g n : Nat} {d : List Bool} {w : World} (h : MkTab w0 g n d w) : openW w g = open' d := by
  unfold openW open'
  rw [h.row]
  simp only [bvs, List.countP_map]
  refine List.countP_congr fun b _ => ?_
  cases b <;> simp [isF]
theorem Tryz.infoBo : (Tryz.prog.info? 4).map (fun i => (i.zero, i.size, i.bytes)) = some (some (.bool false), 1, 1) := by kernel_rfl
end Go.Proofs.YteajcmkaoahbeaaGreatDoor
