/- The event of an Id in a row. What a state of a graph tells, as plain functions. What of several states is alike, and what is disputed: the specification's first loops, plain. The shelf's contract of slices.SortFunc, laid at this program. Kinds and keys put in order: slices.SortFunc at them. -/
import Derived.Test.YteajcmkaoahbeaaGreatDoorZGrPlaced
import Derived.Test.YteajcmkaoahbeaaGreatDoorZGrChart
import Derived.Test.YteajcmkaoahbeaaGreatDoorZSuMap
import Derived.Test.YteajcmkaoahbeaaGreatDoorZRsAg
import Derived.Shelf.SlSortCmp.WholeK
import Derived.Test.YteajcmkaoahbeaaGreatDoorProg
namespace Go.Proofs.YteajcmkaoahbeaaGreatDoor
open Go.RowKit

def zeroEv : Ev := ⟨0, 0, 0, 0, 0, 0, ⟨#[]⟩, [], 0⟩
/-- The event of an Id in a row. -/
def evIn (es : List Em) (id : Int) : Ev := match (es.map (·.v)).find? (fun v => v.id == id) with
  | some v => v
  | none => zeroEv
theorem evIn_none {es : List Em} {id : Int} (h : id ∉ idsOf es) : evIn es id = zeroEv := by
  have : (es.map (·.v)).find? (fun v => v.id == id) = none := by
    rw [List.find?_eq_none]
    intro v hv hb
    obtain ⟨m, hm, rfl⟩ := List.mem_map.1 hv
    exact h (List.mem_map.2 ⟨m, hm, by simpa using hb⟩)
  unfold evIn
  rw [this]
theorem evIn_some {es : List Em} (hd : (idsOf es).Nodup) {m : Em} (hm : m ∈ es) : evIn es m.v.id = m.v := by
  unfold evIn
  cases c : (es.map (·.v)).find? (fun v => v.id == m.v.id) with
  | none =>
    rw [List.find?_eq_none] at c
    exact absurd (by simp) (c m.v (List.mem_map.2 ⟨m, hm, rfl⟩))
  | some v =>
    obtain ⟨m', hm', rfl⟩ := List.mem_map.1 (List.mem_of_find?_eq_some c)
    have h1 := List.find?_some c
    rw [em_same hd hm' hm (by simpa using h1)]
end Go.Proofs.YteajcmkaoahbeaaGreatDoor
namespace Go.Proofs.YteajcmkaoahbeaaGreatDoor
open Go.RowKit

/-- The event by which it stands so at a kind and a key. -/
def lastE (es : List Em) (xs : List En) (k y : Int) : Ev := evIn es (stAt xs k y)
def fitB (es : List Em) (x : En) : Bool := ((evIn es x.id).kind == x.kind) && ((evIn es x.id).key == x.key)
def fitsB (es : List Em) (xs : List En) : Bool := xs.all (fitB es)
def stateB (g : Gr) (xs : List En) : Bool := rowE false xs && fitsB g.evs xs
def sceneB (g : Gr) (xs : List En) : Bool := rightG g && stateB g xs
def memR (es : List Em) (xs : List En) (u : Int) : Int := (lastE es xs 2 u).n
def levR (es : List Em) (xs : List En) (u : Int) : Int := if stAt xs 3 u = 0 then (if (lastE es xs 1 0).author = u then 100 else 0) else (lastE es xs 3 u).n
def sigR (es : List Em) (xs : List En) : Int := if stAt xs 6 0 = 0 then 2 else (lastE es xs 6 0).n
theorem fitsB_no {es : List Em} {xs : List En} {k : Nat} (hk : k < xs.length) (h : fitB es xs[k] = false) : fitsB es xs = false := List.all_eq_false.2 ⟨xs[k], List.getElem_mem hk, by simp [h]⟩
theorem fitsB_yes {es : List Em} {xs : List En} (h : ∀ j (h : j < xs.length), fitB es xs[j] = true) : fitsB es xs = true := List.all_eq_true.2 fun x hx => by
  obtain ⟨j, hj, rfl⟩ := List.getElem_of_mem hx
  exact h j hj
theorem rowE_kind {xs : List En} (h : rowE false xs = true) {x : En} (hx : x ∈ xs) : 1 ≤ x.kind ∧ x.kind ≤ 6 ∧ 0 ≤ x.key ∧ x.key ≤ 6 ∧ 1 ≤ x.id ∧ x.id ≤ 1000000 := by
  simp only [rowE, Bool.and_eq_true] at h
  have h1 := List.all_eq_true.1 h.2 x hx
  simp only [entB, slotB, Bool.and_eq_true, Bool.false_and, Bool.or_false] at h1
  have hk := isB_yes h1.1.1
  have hy := isB_yes h1.1.2
  have hi := isB_yes h1.2
  exact ⟨hk.1, hk.2, hy.1, hy.2, hi.1, hi.2⟩
theorem fitB_out {es : List Em} {x : En} (h : x.id ∉ idsOf es) (hk : 1 ≤ x.kind) : fitB es x = false := by
  unfold fitB
  rw [evIn_none h]
  have : ((0 : Int) == x.kind) = false := by simp; omega
  simp [zeroEv, this]
theorem stAt_found {xs : List En} {k y : Int} (h : stAt xs k y ≠ 0) : ∃ x ∈ xs, x.kind = k ∧ x.key = y ∧ x.id = stAt xs k y := by
  unfold stAt at h ⊢
  cases c : xs.find? (fun x => (x.kind == k) && (x.key == y)) with
  | none => rw [c] at h; exact absurd rfl h
  | some x =>
    have hq := List.find?_some c
    simp only [Bool.and_eq_true, beq_iff_eq] at hq
    exact ⟨x, List.mem_of_find?_eq_some c, hq.1, hq.2, rfl⟩
structure Sc (g : Gr) (xs : List En) : Prop where
  right : rightG g = true
  row : rowE false xs = true
  fits : fitsB g.evs xs = true
theorem sceneB_yes {g : Gr} {xs : List En} (h : sceneB g xs = true) : Sc g xs := by
  simp only [sceneB, stateB, Bool.and_eq_true] at h
  exact ⟨h.1, h.2.1, h.2.2⟩
theorem right_rows {g : Gr} (h : rightG g = true) : rowB g.evs g.room 60 = true := by
  unfold rightG at h
  simp only [Bool.and_eq_true] at h
  exact h.1.1.1.1.2
theorem right_dup {g : Gr} (h : rightG g = true) : (idsOf g.evs).Nodup := rowB_nodup (right_rows h)
theorem right_ids {g : Gr} (h : rightG g = true) {m : Em} (hm : m ∈ g.evs) : IdIn m := (right_in (rowB_each (right_rows h) hm).1).1
theorem Sc.some {g : Gr} {xs : List En} (h : Sc g xs) {k y : Int} (hs : stAt xs k y ≠ 0) : ∃ m ∈ g.evs, m.v.id = stAt xs k y ∧ lastE g.evs xs k y = m.v ∧ m.v.kind = k ∧ m.v.key = y := by
  obtain ⟨x, hx, h1, h2, h3⟩ := stAt_found hs
  have hf := List.all_eq_true.1 h.fits x hx
  by_cases hin : x.id ∈ idsOf g.evs
  · obtain ⟨m, hm, he⟩ := List.mem_map.1 hin
    have hv : evIn g.evs x.id = m.v := by rw [← he]; exact evIn_some (right_dup h.right) hm
    unfold fitB at hf
    rw [hv] at hf
    simp only [Bool.and_eq_true, beq_iff_eq] at hf
    exact ⟨m, hm, he.trans h3, by unfold lastE; rw [← h3, hv], hf.1.trans h1, hf.2.trans h2⟩
  · rw [fitB_out hin (rowE_kind h.row hx).1] at hf
    cases hf
theorem Sc.zero {g : Gr} {xs : List En} (h : Sc g xs) {k y : Int} (hs : stAt xs k y = 0) : (0 : Int) ∉ idsOf g.evs ∧ lastE g.evs xs k y = zeroEv := by
  have h0 : (0 : Int) ∉ idsOf g.evs := fun hin => by
    obtain ⟨m, hm, he⟩ := List.mem_map.1 hin
    have := (right_ids h.right hm).1
    omega
  refine ⟨h0, ?_⟩
  unfold lastE
  rw [hs]
  exact evIn_none h0
theorem Sc.id {g : Gr} {xs : List En} (h : Sc g xs) (k y : Int) : (lastE g.evs xs k y).id = stAt xs k y := by
  by_cases hs : stAt xs k y = 0
  · rw [(h.zero hs).2, hs]
    rfl
  · obtain ⟨m, _, h1, h2, _⟩ := h.some hs
    rw [h2, h1]
theorem Sc.bound {g : Gr} {xs : List En} (h : Sc g xs) (k y : Int) : 0 ≤ stAt xs k y ∧ stAt xs k y ≤ 1000000 := by
  by_cases hs : stAt xs k y = 0
  · omega
  · obtain ⟨x, hx, _, _, h3⟩ := stAt_found hs
    have := rowE_kind h.row hx
    omega
/-- What stands for sight is never 0. -/
theorem Sc.sight {g : Gr} {xs : List En} (h : Sc g xs) (hs : stAt xs 6 0 ≠ 0) : (lastE g.evs xs 6 0).n ≠ 0 := by
  obtain ⟨m, hm, _, h2, h3, _⟩ := h.some hs
  rw [h2]
  have hr := (rowB_each (right_rows h.right) hm).1
  unfold rightB bodyB at hr
  rw [h3] at hr
  simp only [Bool.and_eq_true] at hr
  simp at hr
  have := isB_yes hr.2.1.2
  omega
theorem scene_nog {g : Gr} {xs : List En} (h : rightG g = false) : sceneB g xs = false := by simp [sceneB, h]
theorem scene_nos {g : Gr} {xs : List En} (h : stateB g xs = false) : sceneB g xs = false := by simp [sceneB, h]
theorem scene_yes {g : Gr} {xs : List En} (h : rightG g = true) (h2 : stateB g xs = true) : sceneB g xs = true := by simp [sceneB, h, h2]
end Go.Proofs.YteajcmkaoahbeaaGreatDoor
namespace Go.Proofs.YteajcmkaoahbeaaGreatDoor
open Go.RowKit

theorem mem_putE {xs : List En} {x e : En} : e ∈ putE xs x ↔ e = x ∨ (e ∈ xs ∧ ¬ (x.kind = e.kind ∧ x.key = e.key)) := by
  unfold putE
  rw [mem_insS, mem_woS]
theorem putE_rises {xs : List En} {x : En} (h : Rises xs) : Rises (putE xs x) :=
  insS_rises (List.Pairwise.filter _ h) fun _ he c => (mem_woS.1 he).2 ⟨c.1.symm, c.2.symm⟩
/-- One more entry of one of the states. -/
def fstS (L : List (List En)) (s : List En × List Int) (x : En) : List En × List Int := if alikeB L x = true then (putE s.1 x, s.2) else (s.1, setN s.2 x.id)
theorem fstS_yes {L : List (List En)} {s : List En × List Int} {x : En} (h : alikeB L x = true) : fstS L s x = (putE s.1 x, s.2) := if_pos h
theorem fstS_no {L : List (List En)} {s : List En × List Int} {x : En} (h : alikeB L x = false) : fstS L s x = (s.1, setN s.2 x.id) := if_neg (by simp [h])
def fstV (L : List (List En)) (es : List En) : List En × List Int := es.foldl (fstS L) ([], [])
theorem fstV_more (L : List (List En)) (es : List En) (x : En) : fstV L (es ++ [x]) = fstS L (fstV L es) x := by unfold fstV; rw [List.foldl_append]; rfl
theorem fst_len {L : List (List En)} : ∀ (es : List En) (s : List En × List Int), (es.foldl (fstS L) s).1.length ≤ s.1.length + es.length ∧ (es.foldl (fstS L) s).2.length ≤ s.2.length + es.length
  | [], s => ⟨Nat.le_refl _, Nat.le_refl _⟩
  | x :: es, s => by
    have ih := fst_len (L := L) es (fstS L s x)
    have h1 := putE_length s.1 x
    have h2 := setN_length s.2 x.id
    rw [List.foldl_cons, List.length_cons]
    cases ha : alikeB L x
    · rw [fstS_no ha] at ih ⊢
      simp only at ih
      exact ⟨by omega, by omega⟩
    · rw [fstS_yes ha] at ih ⊢
      simp only at ih
      exact ⟨by omega, by omega⟩
theorem fst_all {L : List (List En)} (h0 : ∀ x y : En, alikeB L x = true → alikeB L y = true → x.kind = y.kind → x.key = y.key → x = y) :
    ∀ {es : List En} {s : List En × List Int}, Rises s.1 → (∀ e ∈ s.1, alikeB L e = true) → RisesI s.2 →
      Rises (es.foldl (fstS L) s).1 ∧ (∀ e, e ∈ (es.foldl (fstS L) s).1 ↔ e ∈ s.1 ∨ (e ∈ es ∧ alikeB L e = true)) ∧ RisesI (es.foldl (fstS L) s).2 ∧ ∀ n, n ∈ (es.foldl (fstS L) s).2 ↔ n ∈ s.2 ∨ ∃ x ∈ es, alikeB L x = false ∧ x.id = n
  | [], s, h1, _, h3 => ⟨h1, fun e => by simp, h3, fun n => by simp⟩
  | x :: es, s, h1, h2, h3 => by
    rw [List.foldl_cons]
    cases ha : alikeB L x
    · rw [fstS_no ha]
      obtain ⟨a, b, c, d⟩ := fst_all h0 (es := es) (s := (s.1, setN s.2 x.id)) h1 h2 (setN_rises h3)
      refine ⟨a, fun e => (b e).trans ?_, c, fun n => (d n).trans ?_⟩
      · simp only [List.mem_cons]
        constructor
        · rintro (h | ⟨h, k⟩)
          · exact .inl h
          · exact .inr ⟨.inr h, k⟩
        · rintro (h | ⟨h | h, k⟩)
          · exact .inl h
          · subst h
            rw [ha] at k
            cases k
          · exact .inr ⟨h, k⟩
      · simp only [mem_setN]
        constructor
        · rintro ((h | h) | ⟨y, hy, k⟩)
          · exact .inr ⟨x, List.mem_cons_self, ha, h.symm⟩
          · exact .inl h
          · exact .inr ⟨y, List.mem_cons_of_mem _ hy, k⟩
        · rintro (h | ⟨y, hy, k1, k2⟩)
          · exact .inl (.inr h)
          · rcases List.mem_cons.1 hy with e | hy
            · rw [e] at k2
              exact .inl (.inl k2.symm)
            · exact .inr ⟨y, hy, k1, k2⟩
    · rw [fstS_yes ha]
      obtain ⟨a, b, c, d⟩ := fst_all h0 (es := es) (s := (putE s.1 x, s.2)) (putE_rises h1) (fun e he => by
        rcases mem_putE.1 he with e1 | ⟨e1, _⟩
        · rw [e1]; exact ha
        · exact h2 e e1) h3
      refine ⟨a, fun e => (b e).trans ?_, c, fun n => (d n).trans ?_⟩
      · simp only [List.mem_cons, mem_putE]
        constructor
        · rintro ((h | ⟨h, _⟩) | ⟨h, k⟩)
          · exact .inr ⟨.inl h, h ▸ ha⟩
          · exact .inl h
          · exact .inr ⟨.inr h, k⟩
        · rintro (h | ⟨h | h, k⟩)
          · by_cases hs : x.kind = e.kind ∧ x.key = e.key
            · exact .inl (.inl (h0 x e ha (h2 e h) hs.1 hs.2).symm)
            · exact .inl (.inr ⟨h, hs⟩)
          · exact .inl (.inl h)
          · exact .inr ⟨h, k⟩
      · constructor
        · rintro (h | ⟨y, hy, k⟩)
          · exact .inl h
          · exact .inr ⟨y, List.mem_cons_of_mem _ hy, k⟩
        · rintro (h | ⟨y, hy, k1, k2⟩)
          · exact .inl h
          · rcases List.mem_cons.1 hy with e | hy
            · rw [e, ha] at k1
              cases k1
            · exact .inr ⟨y, hy, k1, k2⟩
theorem alike_of {L : List (List En)} {x : En} (h : alikeB L x = true) {s : List En} (hs : s ∈ L) : stAt s x.kind x.key = x.id := by
  have := List.all_eq_true.1 h s hs
  simpa using this
/-- What the specification's first loops come to: what all have alike, and the disputed Ids in order. -/
theorem fst_spec {L : List (List En)} (hr : ∀ s ∈ L, Rises s) (hid : ∀ s ∈ L, ∀ x ∈ s, x.id ≠ 0) :
    (fstV L L.flatten).1 = agrR L ∧ RisesI (fstV L L.flatten).2 ∧ ∀ n, n ∈ (fstV L L.flatten).2 ↔ ∃ s ∈ L, ∃ x ∈ s, alikeB L x = false ∧ x.id = n := by
  cases L with
  | nil => exact ⟨rfl, List.Pairwise.nil, fun n => by simp [fstV]⟩
  | cons s r =>
    have h0 : ∀ x y : En, alikeB (s :: r) x = true → alikeB (s :: r) y = true → x.kind = y.kind → x.key = y.key → x = y := fun x y hx hy h1 h2 => by
      have ex := alike_of hx (List.mem_cons_self (a := s) (l := r))
      have ey := alike_of hy (List.mem_cons_self (a := s) (l := r))
      cases x
      cases y
      simp only at h1 h2 ex ey
      subst h1 h2
      rw [ex] at ey
      subst ey
      rfl
    obtain ⟨a, b, c, d⟩ := fst_all h0 (es := (s :: r).flatten) (s := ([], [])) List.Pairwise.nil (fun e he => by cases he) List.Pairwise.nil
    refine ⟨rises_ext a (agrR_rises hr) fun e => (b e).trans ?_, c, fun n => (d n).trans ?_⟩
    · rw [mem_agrR]
      constructor
      · rintro (h | ⟨h, k⟩)
        · cases h
        · obtain ⟨t, ht, he⟩ := List.mem_flatten.1 h
          have e1 := alike_of k (List.mem_cons_self (a := s) (l := r))
          have hne := hid t ht e he
          obtain ⟨z, hz, z1, z2, z3⟩ := stAt_found (xs := s) (k := e.kind) (y := e.key) (by rw [e1]; exact hne)
          have : z = e := by
            cases z
            cases e
            simp only at z1 z2 z3 e1
            rw [e1] at z3
            subst z1 z2 z3
            rfl
          exact ⟨this ▸ hz, k⟩
      · rintro ⟨h, k⟩
        exact .inr ⟨List.mem_flatten.2 ⟨s, List.mem_cons_self, h⟩, k⟩
    · constructor
      · rintro (h | ⟨x, hx, k⟩)
        · cases h
        · obtain ⟨t, ht, he⟩ := List.mem_flatten.1 hx
          exact ⟨t, ht, x, he, k⟩
      · rintro ⟨t, ht, x, he, k⟩
        exact .inr ⟨x, List.mem_flatten.2 ⟨t, ht, he⟩, k⟩
end Go.Proofs.YteajcmkaoahbeaaGreatDoor
namespace Go.Proofs
open Go.Shelf
def Tryz.sortSlot_ren : Go.Shelf.Ren := ⟨fun | 6 => 125 | 15 => 164 | 14 => 163 | 28 => 192 | 29 => 193 | 20 => 184 | 21 => 185 | 22 => 186 | 23 => 187 | 24 => 188 | 25 => 189 | 26 => 190 | 27 => 191 | 46 => 207 | 47 => 208 | 48 => 209 | 49 => 210 | 50 => 211 | 57 => 226 | n => n, fun | 22 => 146 | 24 => 149 | 25 => 150 | 3 => 3 | 39 => 224 | 0 => 0 | 53 => 88 | 55 => 257 | 4 => 4 | 46 => 249 | 45 => 248 | 50 => 253 | 5 => 5 | 9 => 9 | 66 => 275 | 70 => 279 | 76 => 305 | 77 => 306 | n => n, fun | n => n⟩
theorem Tryz.sortSlot : Go.Proofs.SlLaysF0.n6 Tryz.prog Tryz.sortSlot_ren := {
  mixed := by kernel_rfl
  f6 := ⟨Tryz.f125.name, by decide, Tryz.func125.trans (congrArg some (by kernel_rfl))⟩
  f14 := ⟨Tryz.f163.name, by decide, Tryz.func163.trans (congrArg some (by kernel_rfl))⟩
  f15 := Tryz.func164.trans (congrArg some (by kernel_rfl))
  f20 := ⟨Tryz.f184.name, by decide, Tryz.func184.trans (congrArg some (by kernel_rfl))⟩
  f21 := ⟨Tryz.f185.name, by decide, Tryz.func185.trans (congrArg some (by kernel_rfl))⟩
  f22 := ⟨Tryz.f186.name, by decide, Tryz.func186.trans (congrArg some (by kernel_rfl))⟩
  f23 := ⟨Tryz.f187.name, by decide, Tryz.func187.trans (congrArg some (by kernel_rfl))⟩
  f24 := ⟨Tryz.f188.name, by decide, Tryz.func188.trans (congrArg some (by kernel_rfl))⟩
  f25 := ⟨Tryz.f189.name, by decide, Tryz.func189.trans (congrArg some (by kernel_rfl))⟩
  f26 := ⟨Tryz.f190.name, by decide, Tryz.func190.trans (congrArg some (by kernel_rfl))⟩
  f27 := ⟨Tryz.f191.name, by decide, Tryz.func191.trans (congrArg some (by kernel_rfl))⟩
  f28 := Tryz.func192.trans (congrArg some (by kernel_rfl))
  f29 := Tryz.func193.trans (congrArg some (by kernel_rfl))
  f46 := ⟨Tryz.f207.name, by decide, Tryz.func207.trans (congrArg some (by kernel_rfl))⟩
  f47 := Tryz.func208.trans (congrArg some (by kernel_rfl))
  f48 := Tryz.func209.trans (congrArg some (by kernel_rfl))
  f49 := ⟨Tryz.f210.name, by decide, Tryz.func210.trans (congrArg some (by kernel_rfl))⟩
  f50 := ⟨Tryz.f211.name, by decide, Tryz.func211.trans (congrArg some (by kernel_rfl))⟩
  f57 := ⟨Tryz.f226.name, by decide, Tryz.func226.trans (congrArg some (by kernel_rfl))⟩
  t0 := Tryz.underlying0
  a0 := Tryz.isAgg0
  z0 := Tryz.sizeOf0
  v0 := Tryz.zeroValue0
  t3 := Tryz.underlying3
  a3 := Tryz.isAgg3
  z3 := Tryz.sizeOf3
  v3 := Tryz.zeroValue3
  t4 := Tryz.underlying4
  a4 := Tryz.isAgg4
  z4 := Tryz.sizeOf4
  v4 := Tryz.zeroValue4
  t5 := Tryz.underlying5
  a5 := Tryz.isAgg5
  z5 := Tryz.sizeOf5
  v5 := Tryz.zeroValue5
  t9 := Tryz.underlying9
  a9 := Tryz.isAgg9
  z9 := Tryz.sizeOf9
  v9 := Tryz.zeroValue9
  t22 := Tryz.underlying146
  a22 := Tryz.isAgg146
  z22 := Tryz.sizeOf146
  v22 := Tryz.zeroValue146
  t25 := Tryz.underlying150
  a25 := Tryz.isAgg150
  z25 := Tryz.sizeOf150
  v25 := Tryz.zeroValue150
  t39 := Tryz.underlying224
  a39 := Tryz.isAgg224
  z39 := Tryz.sizeOf224
  v39 := Tryz.zeroValue224
  t45 := Tryz.underlying248
  a45 := Tryz.isAgg248
  z45 := Tryz.sizeOf248
  v45 := Tryz.zeroValue248
  t46 := Tryz.underlying249
  a46 := Tryz.isAgg249
  z46 := Tryz.sizeOf249
  v46 := Tryz.zeroValue249
  t50 := Tryz.underlying253
  a50 := Tryz.isAgg253
  z50 := Tryz.sizeOf253
  v50 := Tryz.zeroValue253
  t53 := Tryz.underlying88
  a53 := Tryz.isAgg88
  z53 := Tryz.sizeOf88
  v53 := Tryz.zeroValue88
  t55 := Tryz.underlying257
  a55 := Tryz.isAgg257
  z55 := Tryz.sizeOf257
  v55 := Tryz.zeroValue257
  t66 := Tryz.underlying275
  a66 := Tryz.isAgg275
  z66 := Tryz.sizeOf275
  v66 := Tryz.zeroValue275
  t70 := Tryz.underlying279
  a70 := Tryz.isAgg279
  z70 := Tryz.sizeOf279
  v70 := Tryz.zeroValue279
  t76 := Tryz.underlying305
  a76 := Tryz.isAgg305
  z76 := Tryz.sizeOf305
  v76 := Tryz.zeroValue305
  t77 := Tryz.underlying306
  a77 := Tryz.isAgg306
  z77 := Tryz.sizeOf306
  v77 := Tryz.zeroValue306 }
end Go.Proofs
namespace Go.Proofs.YteajcmkaoahbeaaGreatDoor
open Go.Shelf Go.RowKit Go.Lib Go.Sort

/-- A kind and a key. -/
def slotVs (p : Int × Int) : List Value := [.int .i64 p.1, .int .i64 p.2]
def slotE (p : Int × Int) : En := ⟨p.1, p.2, 0⟩
def cmpP (x y : Int × Int) : Int := cmpS (slotE x) (slotE y)
def lessP (x y : Int × Int) : Bool := lessB (slotE x) (slotE y)
theorem ltOf_cmpP (x y : Int × Int) : ltOf cmpP x y = lessP x y := by
  have h := cmpS_less (slotE x) (slotE y)
  unfold ltOf cmpP lessP
  cases c : lessB (slotE x) (slotE y)
  · rw [c] at h
    have h2 : (0 : Int) ≤ cmpS (slotE x) (slotE y) := by simpa using h
    exact decide_eq_false (by omega)
  · rw [c] at h
    have h2 : ¬ (0 : Int) ≤ cmpS (slotE x) (slotE y) := by simpa using h
    exact decide_eq_true (by omega)
theorem lessP_iff {x y : Int × Int} : lessP x y = true ↔ x.1 < y.1 ∨ (x.1 = y.1 ∧ x.2 < y.2) := lessB_iff
theorem swoP : SWO (ltOf cmpP) where
  irrefl x := by
    rw [ltOf_cmpP]
    cases c : lessP x x
    · rfl
    · have := lessP_iff.1 c
      omega
  trans x y z h1 h2 := by
    rw [ltOf_cmpP] at *
    have h3 := lessP_iff.1 h1
    have h4 := lessP_iff.1 h2
    exact lessP_iff.2 (by omega)
  ntrans x y z h1 h2 := by
    rw [ltOf_cmpP] at *
    cases c : lessP x z
    · rfl
    · have h3 := lessP_iff.1 c
      have h4 : ¬ (x.1 < y.1 ∨ (x.1 = y.1 ∧ x.2 < y.2)) := fun e => by rw [lessP_iff.2 e] at h1; cases h1
      have h5 : ¬ (y.1 < z.1 ∨ (y.1 = z.1 ∧ y.2 < z.2)) := fun e => by rw [lessP_iff.2 e] at h2; cases h2
      omega
theorem grow3 (w : World) (a b c : Obj) : ∃ q os', (((w.alloc a).alloc b).drew).alloc c = grow (w.drewN q) os' := by
  refine ⟨1, #[a] ++ #[b] ++ #[c], ?_⟩
  rw [alloc_eq_grow, alloc_eq_grow, alloc_eq_grow]
  show grow (grow (grow (w.drewN 1) #[a]) #[b]) #[c] = _
  rw [grow_grow, grow_grow, Array.append_assoc]
set_option maxHeartbeats 2000000 in
set_option maxRecDepth 100000 in
theorem slots_grow (x y : En) (w : World) : Calls Tryz.prog 85 #[.agg #[.int .i64 x.kind, .int .i64 x.key], .agg #[.int .i64 y.kind, .int .i64 y.key]] w fun e w' => e = .returned (.int .i64 (cmpS x y)) ∧ ∃ q os', w' = grow (w.drewN q) os' := by
  have HB : Hid (∀ o1 o2 o3, ∃ q os', (((w.alloc o1).alloc o2).drew).alloc o3 = grow (w.drewN q) os') := fun o1 o2 o3 => grow3 w o1 o2 o3
  have HS : Hid ((if cmpI x.kind y.kind = 0 then cmpI x.key y.key else cmpI x.kind y.kind) = cmpS x y) := rfl
  go_enter Tryz.func85, Tryz.ntmps85
  go_wp2
  go_region_held3 (fun W => W.cell? ⟨w.heap.size, 0, none⟩ = some (.int .i64 x.kind) ∧ W.cell? ⟨w.heap.size, 1, none⟩ = some (.int .i64 x.key) ∧ W.cell? ⟨w.heap.size + 1, 0, none⟩ = some (.int .i64 y.kind) ∧ W.cell? ⟨w.heap.size + 1, 1, none⟩ = some (.int .i64 y.key)) (simp [go_sem, *]) (first
    | (go_at_call_of 127 (Value.int .i64 x.kind); refine (compare_impl x.kind y.kind _).mono ?_; rintro e w1 ⟨rfl, rfl⟩)
    | (go_at_call_of 127 (Value.int .i64 x.key); refine (compare_impl x.key y.key _).mono ?_; rintro e w2 ⟨rfl, rfl⟩)
    | (go_at_call 126; refine (or_impl (cmpI x.kind y.kind) (cmpI x.key y.key) (w.heap.size + 1 + 1) _ (by simp [go_sem]) (by simp [go_sem])).mono ?_; rintro e w3 ⟨rfl, rfl⟩; rw [HS.out]))
  all_goals go_wp2
  all_goals go_ret
  all_goals exact ⟨rfl, HB.out _ _ _⟩
/-- Kinds and keys in a row. -/
def SlotsIn (w : World) (b : Nat) (ks : List (Int × Int)) : Prop := ∀ i (h : i < ks.length) j, j < 2 → w.cell? ⟨b, i * 2 + j, none⟩ = (slotVs ks[i])[j]?
theorem holds_slots {w : World} {b : Nat} {ks : List (Int × Int)} (h : SlotsIn w b ks) (hf : ∀ q, w.frozen? ⟨b, q, none⟩ = false) : HoldsK slotVs 2 w b 0 ks.toArray := by
  intro t ht
  rw [size_flatK] at ht
  have ht' : t < ks.length * 2 := by simpa using ht
  rw [get_flatK _ _ _ _ ht, Nat.zero_add]
  refine ⟨?_, hf t⟩
  have hi : t / 2 < ks.length := by omega
  have e : t = t / 2 * 2 + t % 2 := by omega
  have h1 := h (t / 2) hi (t % 2) (by omega)
  rw [← e] at h1
  rw [h1, getElem!_pos ks.toArray (t / 2) (by simpa using hi)]
  have h2 : t % 2 < (slotVs ks.toArray[t / 2]).length := by simp [slotVs]; omega
  simp only [List.getElem_toArray] at h2 ⊢
  rw [List.getElem!_eq_getElem?_getD, List.getElem?_eq_getElem h2]
  rfl
theorem slots_holds {w : World} {b : Nat} {d : Array (Int × Int)} (h : HoldsK slotVs 2 w b 0 d) : SlotsIn w b d.toList := by
  intro i hi j hj
  have hi' : i < d.size := by simpa using hi
  have h1 := (h.cell hi' hj).1
  rw [Nat.zero_add, getElem!_pos d i hi'] at h1
  rw [h1]
  have h2 : j < (slotVs d[i]).length := by simp [slotVs]; omega
  simp only [Array.getElem_toList]
  rw [List.getElem!_eq_getElem?_getD, List.getElem?_eq_getElem h2]
  rfl
theorem sortWorld_other {w : World} {b n : Nat} {d : Array (Int × Int)} {os : Array Obj} : (sortWorldK slotVs 2 w b 0 n d os).os = w.os ∧ (sortWorldK slotVs 2 w b 0 n d os).tape = w.tape ∧ (sortWorldK slotVs 2 w b 0 n d os).output = w.output ∧ w.heap.size ≤ (sortWorldK slotVs 2 w b 0 n d os).heap.size ∧ ∀ k, k < w.heap.size → k ≠ b → (sortWorldK slotVs 2 w b 0 n d os).heap[k]? = w.heap[k]? := by
  refine ⟨rfl, rfl, rfl, ?_, fun k hk hne => ?_⟩
  · show w.heap.size ≤ ((w.heap.modify b _) ++ os).size
    simp
  · show ((w.heap.modify b _) ++ os)[k]? = w.heap[k]?
    rw [Array.getElem?_append_left (by simpa using hk), Array.getElem?_modify, if_neg (fun e => hne e.symm)]
/-- In order, and each once. -/
def Ordered (ks : List (Int × Int)) : Prop := ks.Pairwise fun a b => lessP a b = true
set_option maxRecDepth 100000 in
theorem Tryz.isAggSlot (w : World) : (isAgg 149).run Tryz.prog w = .ok true w := by kernel_rfl
set_option maxRecDepth 100000 in
theorem Tryz.sizeSlot (w : World) : (Go.sizeOf 149).run Tryz.prog w = .ok 2 w := by kernel_rfl
theorem sort_slots (ks : List (Int × Int)) (hd : ks.Nodup) (b cap : Nat) (w : World) (h : SlotsIn w b ks) (hf : ∀ q, w.frozen? ⟨b, q, none⟩ = false) (hb : b < w.heap.size) (hl : ks.length ≤ 1000000) :
    Calls Tryz.prog 125 #[.slice (some ⟨b, 0, none⟩) ks.length cap, .func (.func 85) #[] #[]] w fun e w' => e = .returned (.tuple #[]) ∧ ∃ ks', ks'.length = ks.length ∧ Ordered ks' ∧ (∀ p, p ∈ ks' ↔ p ∈ ks) ∧ SlotsIn w' b ks' ∧ (∀ m, m ≤ b → m ≤ w.heap.size → Go.RowKit.Below m w w') := by
  have eg : ∀ args w, (callFunc 85 args).run Tryz.prog w = .ok (.enter 85 args) w := enters_of Tryz.func85 (by kernel_rfl) rfl
  have hH := holds_slots h hf
  have hcon := AnyQ.slices_SortFunc Tryz.sortSlot 2 Tryz.isAggSlot Tryz.sizeSlot slotVs (fun _ => rfl) (fun x v hv => by simp [slotVs] at hv; rcases hv with rfl | rfl <;> rfl) cmpP swoP 85 #[] b 0 cap ks.toArray w eg (fun _ _ _ _ x y => slots_grow (slotE x) (slotE y) _) hH hb (by simp; omega)
  change Calls Tryz.prog 125 _ _ _ at hcon
  rw [List.size_toArray] at hcon
  refine hcon.mono ?_
  rintro e w' ⟨rfl, d', n, os, hp, hs, rfl⟩
  have hsz : d'.size = ks.length := by simpa using hp.1
  have hperm : d'.toList.Perm ks := by
    have h1 := hp.2.2
    have e1 : d'.extract 0 ks.length = d' := by rw [← hsz]; simp
    have e2 : ks.toArray.extract 0 ks.length = ks.toArray := by simp
    rw [e1, e2] at h1
    simpa using h1
  refine ⟨rfl, d'.toList, by simpa using hsz, ?_, fun p => hperm.mem_iff, slots_holds (holdsK_sortWorldK_c slotVs 2 w b 0 ks.toArray d' n os hH hb (by simpa using hsz)), fun m hm hm2 => ?_⟩
  · have hnd : d'.toList.Nodup := hperm.nodup_iff.2 hd
    refine List.pairwise_iff_getElem.2 fun i j hi hj hij => ?_
    have hi' : i < d'.size := by simpa using hi
    have hj' : j < d'.size := by simpa using hj
    have h1 := hs i j (Nat.zero_le _) hij (by omega)
    rw [ltOf_cmpP, getElem!_pos d' i hi', getElem!_pos d' j hj'] at h1
    have hne : d'.toList[i] ≠ d'.toList[j] := fun e => by
      have := (List.pairwise_iff_getElem.1 hnd) i j hi hj hij
      exact this e
    simp only [Array.getElem_toList] at hne ⊢
    cases c : lessP d'[i] d'[j]
    · exfalso
      apply hne
      have h2 : ¬ (d'[i].1 < d'[j].1 ∨ (d'[i].1 = d'[j].1 ∧ d'[i].2 < d'[j].2)) := fun e => by rw [lessP_iff.2 e] at c; cases c
      have h3 : ¬ (d'[j].1 < d'[i].1 ∨ (d'[j].1 = d'[i].1 ∧ d'[j].2 < d'[i].2)) := fun e => by rw [lessP_iff.2 e] at h1; cases h1
      exact Prod.ext (by omega) (by omega)
    · rfl
  · obtain ⟨q1, q2, q3, q4, q5⟩ := sortWorld_other (w := w) (b := b) (n := n) (d := d') (os := os)
    exact ⟨q1, q2, q3, q4, fun k hk => q5 k (by omega) (by omega)⟩
end Go.Proofs.YteajcmkaoahbeaaGreatDoor
