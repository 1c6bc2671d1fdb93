/- The order in which disputed events are put, and what states come to where ways meet: plain. The state that ways come to is one of the graph's at each step: plain. The disputed events put into the heap: the program's turnsOf. -/
import Derived.Test.YteajcmkaoahbeaaGreatDoorZSuSort
import Derived.Test.YteajcmkaoahbeaaGreatDoorZRsLess
import Derived.Test.YteajcmkaoahbeaaGreatDoorZRsHv
import Derived.Test.YteajcmkaoahbeaaGreatDoorZRsTu0
namespace Go.Proofs.YteajcmkaoahbeaaGreatDoor
open Go.RowKit

theorem lessV_iff {x y : Ev} {dx dy : Int} : lessV x y dx dy = true ↔ (heavyB x = true ∧ heavyB y = false) ∨ (heavyB x = heavyB y ∧ (dx < dy ∨ (dx = dy ∧ (x.time < y.time ∨ (x.time = y.time ∧ x.id < y.id))))) := by
  unfold lessV
  by_cases hd : dx = dy
  · by_cases ht : x.time = y.time
    · cases heavyB x <;> cases heavyB y <;> simp [hd, ht]
    · cases heavyB x <;> cases heavyB y <;> simp [hd, ht]
  · cases heavyB x <;> cases heavyB y <;> simp [hd]
theorem lessE_ord (es : List Em) (dp : Int → Int) (S : Int → Prop) (hS : ∀ n, S n → (evIn es n).id = n) : Ord (lessE es dp) S where
  asymm := fun {a b} _ _ h => by
    unfold lessE at h ⊢
    rw [lessV_iff] at h
    refine Bool.eq_false_iff.2 fun h2 => ?_
    rw [lessV_iff] at h2
    rcases h with ⟨h, k⟩ | ⟨h, k⟩ <;> rcases h2 with ⟨h2, k2⟩ | ⟨h2, k2⟩
    · rw [h] at k2; cases k2
    · rw [h, k] at h2; cases h2
    · rw [h2, k2] at h; cases h
    · omega
  trans := fun {a b c} _ _ _ h h2 => by
    unfold lessE at h h2 ⊢
    rw [lessV_iff] at h h2 ⊢
    rcases h with ⟨h, k⟩ | ⟨h, k⟩ <;> rcases h2 with ⟨h2, k2⟩ | ⟨h2, k2⟩
    · rw [k] at h2; cases h2
    · exact .inl ⟨h, h2 ▸ k⟩
    · exact .inl ⟨h.trans h2, k2⟩
    · exact .inr ⟨h.trans h2, by omega⟩
  total := fun {a b} ha hb hne => by
    have ea := hS a ha
    have eb := hS b hb
    unfold lessE
    rw [lessV_iff, lessV_iff, ea, eb]
    cases hx : heavyB (evIn es a) <;> cases hy : heavyB (evIn es b)
    · simp only [Bool.false_eq_true, false_and, true_and, false_or]
      omega
    · exact .inr (.inl ⟨rfl, rfl⟩)
    · exact .inl (.inl ⟨rfl, rfl⟩)
    · simp only [Bool.true_eq_false, and_false, true_and, false_or]
      omega
/-- One disputed event put, where it may. -/
def mtS (es : List Em) (o : List En) (n : Int) : List En := if alwE es o (evIn es n) = 0 then putE o ⟨(evIn es n).kind, (evIn es n).key, (evIn es n).id⟩ else o
theorem mtS_yes {es : List Em} {o : List En} {n : Int} (h : alwE es o (evIn es n) = 0) : mtS es o n = putE o ⟨(evIn es n).kind, (evIn es n).key, (evIn es n).id⟩ := if_pos h
theorem mtS_no {es : List Em} {o : List En} {n : Int} (h : alwE es o (evIn es n) ≠ 0) : mtS es o n = o := if_neg h
theorem mtS_rises {es : List Em} {o : List En} (h : Rises o) (n : Int) : Rises (mtS es o n) := by
  by_cases k : alwE es o (evIn es n) = 0
  · rw [mtS_yes k]; exact putE_rises h
  · rw [mtS_no k]; exact h
theorem mtS_len (es : List Em) : ∀ (l : List Int) (o : List En), (l.foldl (mtS es) o).length ≤ o.length + l.length
  | [], o => Nat.le_refl _
  | n :: l, o => by
    have ih := mtS_len es l (mtS es o n)
    have h1 : (mtS es o n).length ≤ o.length + 1 := by
      by_cases k : alwE es o (evIn es n) = 0
      · rw [mtS_yes k]; exact putE_length _ _
      · rw [mtS_no k]; exact Nat.le_succ _
    rw [List.foldl_cons, List.length_cons]
    omega
theorem mts_rises {es : List Em} : ∀ (l : List Int) {o : List En}, Rises o → Rises (l.foldl (mtS es) o)
  | [], _, h => h
  | n :: l, _, h => mts_rises l (mtS_rises h n)
def Disp (L : List (List En)) (n : Int) : Prop := ∃ s ∈ L, ∃ x ∈ s, alikeB L x = false ∧ x.id = n
/-- What states come to where ways meet. -/
def Meets (es : List Em) (dp : Int → Int) (L : List (List En)) (r : List En) : Prop := ∃ l : List Int, Srt (lessE es dp) l ∧ (∀ n, n ∈ l ↔ Disp L n) ∧ r = l.foldl (mtS es) (agrR L)
theorem Meets.uniq {es : List Em} {dp : Int → Int} {L : List (List En)} {r r2 : List En} (hS : ∀ n, Disp L n → (evIn es n).id = n) (h : Meets es dp L r) (h2 : Meets es dp L r2) : r = r2 := by
  obtain ⟨l, h1, h3, rfl⟩ := h
  obtain ⟨l2, h4, h5, rfl⟩ := h2
  rw [srt_ext (lessE_ord es dp (Disp L) hS) (fun x hx => (h3 x).1 hx) (fun x hx => (h5 x).1 hx) h1 h4 fun e => (h3 e).trans (h5 e).symm]
theorem Meets.rises {es : List Em} {dp : Int → Int} {L : List (List En)} {r : List En} (hr : ∀ s ∈ L, Rises s) (h : Meets es dp L r) : Rises r := by
  obtain ⟨l, _, _, rfl⟩ := h
  exact mts_rises l (agrR_rises hr)
end Go.Proofs.YteajcmkaoahbeaaGreatDoor
namespace Go.Proofs.YteajcmkaoahbeaaGreatDoor
open Go.RowKit

theorem riseB_of {xs : List En} (h : Rises xs) : riseB xs = true := by
  refine riseB_yes fun j hj => ?_
  cases j with
  | zero => simp [riseAt]
  | succ j =>
    rw [riseAt_succ hj]
    exact List.pairwise_iff_getElem.1 h j (j + 1) (by omega) hj (by omega)
theorem codes_len : ∀ (xs : List En) (lo : Int), lo ≤ 48 → (∀ x ∈ xs, lo < x.kind * 7 + x.key ∧ x.kind * 7 + x.key ≤ 48) → xs.Pairwise (fun a b => a.kind * 7 + a.key < b.kind * 7 + b.key) → (xs.length : Int) ≤ 48 - lo
  | [], lo, h, _, _ => by simp; omega
  | x :: xs, lo, h, h1, h2 => by
    obtain ⟨p1, p2⟩ := List.pairwise_cons.1 h2
    have hx := h1 x List.mem_cons_self
    have ih := codes_len xs (x.kind * 7 + x.key) hx.2 (fun y hy => ⟨p1 y hy, (h1 y (List.mem_cons_of_mem _ hy)).2⟩) p2
    rw [List.length_cons]
    omega
/-- A row that rises has an entry at most of each kind and key. -/
theorem rises_len {xs : List En} (h : Rises xs) (hs : ∀ x ∈ xs, 1 ≤ x.kind ∧ x.kind ≤ 6 ∧ 0 ≤ x.key ∧ x.key ≤ 6) : xs.length ≤ 48 := by
  have := codes_len xs 0 (by omega) (fun x hx => by have := hs x hx; omega) ((List.Pairwise.and_mem.1 h).imp fun {a b} ⟨ha, hb, k⟩ => by
    have h1 := hs a ha
    have h2 := hs b hb
    have h3 := lessB_iff.1 k
    omega)
  omega
theorem rowE_of {xs : List En} (h : Rises xs) (hs : ∀ x ∈ xs, 1 ≤ x.kind ∧ x.kind ≤ 6 ∧ 0 ≤ x.key ∧ x.key ≤ 6 ∧ 1 ≤ x.id ∧ x.id ≤ 1000000) : rowE false xs = true := by
  have hl := rises_len h fun x hx => by have := hs x hx; omega
  unfold rowE
  simp only [Bool.and_eq_true]
  refine ⟨⟨decide_eq_true (by omega), riseB_of h⟩, List.all_eq_true.2 fun x hx => ?_⟩
  have := hs x hx
  simp only [entB, slotB, Bool.and_eq_true, Bool.false_and, Bool.or_false]
  exact ⟨⟨decide_eq_true ⟨by omega, by omega⟩, decide_eq_true ⟨by omega, by omega⟩⟩, decide_eq_true ⟨by omega, by omega⟩⟩
theorem Sc.rises {g : Gr} {xs : List En} (h : Sc g xs) : Rises xs := rises_of (by have := h.row; simp only [rowE, Bool.and_eq_true] at this; exact this.1.2)
theorem Sc.mem {g : Gr} {xs : List En} (h : Sc g xs) {x : En} (hx : x ∈ xs) : ∃ m ∈ g.evs, m.v.id = x.id ∧ m.v.kind = x.kind ∧ m.v.key = x.key := by
  have hf := List.all_eq_true.1 h.fits x hx
  by_cases hin : x.id ∈ idsOf g.evs
  · obtain ⟨m, hm, he⟩ := List.mem_map.1 hin
    have hv : evIn g.evs x.id = m.v := by rw [← he]; exact evIn_some (right_dup h.right) hm
    unfold fitB at hf
    rw [hv] at hf
    simp only [Bool.and_eq_true, beq_iff_eq] at hf
    exact ⟨m, hm, he, hf.1, hf.2⟩
  · rw [fitB_out hin (rowE_kind h.row hx).1] at hf
    cases hf
theorem Sc.sub {g : Gr} {xs ys : List En} (h : Sc g xs) (hr : Rises ys) (hs : ∀ y ∈ ys, y ∈ xs) : Sc g ys :=
  ⟨h.right, rowE_of hr fun y hy => rowE_kind h.row (hs y hy), List.all_eq_true.2 fun y hy => List.all_eq_true.1 h.fits y (hs y hy)⟩
theorem Sc.nil {g : Gr} (h : rightG g = true) : Sc g [] := ⟨h, by decide, rfl⟩
/-- What all have alike is a state. -/
theorem sc_agr {g : Gr} {L : List (List En)} (hg : rightG g = true) (h : ∀ s ∈ L, Sc g s) : Sc g (agrR L) := by
  cases L with
  | nil => exact Sc.nil hg
  | cons s r => exact (h s List.mem_cons_self).sub (agrR_rises fun t ht => (h t ht).rises) fun y hy => (mem_agrR.1 hy).1
/-- One disputed event put leaves a state. -/
theorem sc_mtS {g : Gr} {o s : List En} {x : En} (h : Sc g o) (hs : Sc g s) (hx : x ∈ s) : Sc g (mtS g.evs o x.id) := by
  by_cases k : alwE g.evs o (evIn g.evs x.id) = 0
  · rw [mtS_yes k]
    obtain ⟨m, hm, h1, h2, h3⟩ := hs.mem hx
    have hv : evIn g.evs x.id = m.v := by rw [← h1]; exact evIn_some (right_dup h.right) hm
    have hk := rowE_kind hs.row hx
    rw [hv]
    refine ⟨h.right, rowE_of (putE_rises h.rises) fun y hy => ?_, List.all_eq_true.2 fun y hy => ?_⟩
    · rcases mem_putE.1 hy with e | ⟨hy, _⟩
      · rw [e]
        simp only
        omega
      · exact rowE_kind h.row hy
    · rcases mem_putE.1 hy with e | ⟨hy, _⟩
      · rw [e]
        unfold fitB
        simp only
        rw [h1, hv]
        simp
      · exact List.all_eq_true.1 h.fits y hy
  · rw [mtS_no k]
    exact h
theorem sc_mts {g : Gr} {L : List (List En)} (hL : ∀ s ∈ L, Sc g s) : ∀ (l : List Int) {o : List En}, Sc g o → (∀ n ∈ l, ∃ s ∈ L, ∃ x ∈ s, x.id = n) → Sc g (l.foldl (mtS g.evs) o)
  | [], _, h, _ => h
  | n :: l, _, h, hl => by
    obtain ⟨s, hs, x, hx, e⟩ := hl n List.mem_cons_self
    exact sc_mts hL l (e ▸ sc_mtS h (hL s hs) hx) fun k hk => hl k (List.mem_cons_of_mem _ hk)
theorem disp_in {L : List (List En)} {n : Int} (h : Disp L n) : ∃ s ∈ L, ∃ x ∈ s, x.id = n := by
  obtain ⟨s, hs, x, hx, _, e⟩ := h
  exact ⟨s, hs, x, hx, e⟩
theorem Meets.sc {g : Gr} {dp : Int → Int} {L : List (List En)} {r : List En} (hg : rightG g = true) (hL : ∀ s ∈ L, Sc g s) (h : Meets g.evs dp L r) : Sc g r := by
  obtain ⟨l, _, h3, rfl⟩ := h
  exact sc_mts hL l (sc_agr hg hL) fun n hn => disp_in ((h3 n).1 hn)
end Go.Proofs.YteajcmkaoahbeaaGreatDoor
namespace Go.Proofs.YteajcmkaoahbeaaGreatDoor
open Go.RowKit

theorem Fr.below {w W : World} (h : Fr w (fun _ => True) W) : Below w.heap.size w W := ⟨h.os, h.tape, h.output, h.size, fun q hq => h.keep q hq trivial⟩
theorem below_grown0 {w w' : World} (h : w.grownBy w' none) : Below w.heap.size w w' := ⟨h.os, h.tape, h.output, h.size, fun k hk => h.block k hk (by simp)⟩
theorem Tq.grownFar {w0 : World} {K : Nat → Prop} {em : Int → Em} {dp : Int → Int} {hb g cap n b : Nat} {f : Nat → Int} {W W' : World} (h : Tq w0 K em dp hb g cap n f W) (hg : W.grownBy W' (some b)) (h1 : b ≠ hb) (h2 : b ≠ g) (hk : b < w0.heap.size → ¬ K b) : Tq w0 K em dp hb g cap n f W' := by
  have hl := h.lts
  obtain ⟨cur, k1, k2, k3⟩ := h.row
  exact ⟨h.fr.grown hg hk, (hg.block _ hl.1 (fun e => h1 (by cases e; rfl))).trans h.box, h.lob, h.log, h.ne, h.le, h.cm, cur, (hg.block _ hl.2 (fun e => h2 (by cases e; rfl))).trans k1, k2, k3⟩
theorem Ord.congr {lt lt' : Int → Int → Bool} {S : Int → Prop} (h : ∀ a b, S a → S b → lt a b = lt' a b) (O : Ord lt' S) : Ord lt S :=
  ⟨fun {a b} ha hb k => by rw [h b a hb ha]; rw [h a b ha hb] at k; exact O.asymm ha hb k, fun {a b c} ha hb hc k1 k2 => by rw [h a c ha hc]; rw [h a b ha hb] at k1; rw [h b c hb hc] at k2; exact O.trans ha hb hc k1 k2, fun {a b} ha hb hne => by rw [h a b ha hb, h b a hb ha]; exact O.total ha hb hne⟩
theorem lessT_ord {g : Gr} (hd : (idsOf g.evs).Nodup) (dp : Int → Int) : Ord (lessT (emI g.evs) dp) (fun n => n ∈ idsOf g.evs) :=
  Ord.congr (lt' := lessE g.evs dp) (fun a b ha hb => by unfold lessT lessE; rw [emI_v hd ha, emI_v hd hb]) (lessE_ord g.evs dp _ fun n hn => by
    obtain ⟨m, hm, rfl⟩ := List.mem_map.1 hn
    rw [evIn_some hd hm])
/-- The heap in the making. -/
structure TuInv (w : World) (g : Gr) (tl : List (Int × Int)) (l : List Int) (hb gg cap n : Nat) (f : Nat → Int) (left : Lit → Bool) (cnt : Nat) (W : World) : Prop where
  tq : Tq w (fun _ => True) (emI g.evs) (dpT tl) hb gg cap n f W
  hp : HeapF (lessT (emI g.evs) (dpT tl)) f n
  mem : ∀ e, (∃ k, k < n ∧ f k = e) ↔ e ∈ l ∧ left (.int .i64 e) = false
  inj : ∀ i j, i < n → j < n → f i = f j → i = j
  cnt : n + cnt ≤ Maps.size (putU l)
theorem TuInv.more {w : World} {g : Gr} {tl : List (Int × Int)} {l : List Int} {hb gg gg' cap cap' n cnt cnt' : Nat} {f f' : Nat → Int} {left : Lit → Bool} {W W' : World} {id : Int} (h : TuInv w g tl l hb gg cap n f left cnt W) (hl : id ∈ l) (hk : left (.int .i64 id) = true) (hc : cnt' < cnt)
    (ht : Tq w (fun _ => True) (emI g.evs) (dpT tl) hb gg' cap' (n + 1) f' W') (hh : HeapF (lessT (emI g.evs) (dpT tl)) f' (n + 1)) (hp : Perm0 (n + 1) (putF f n id) f') : TuInv w g tl l hb gg' cap' (n + 1) f' (fun z => left z && !z.sameKey (.int .i64 id)) cnt' W' := by
  have self : (Lit.int .i64 id).sameKey (.int .i64 id) = true := WideAt.sameKey_self (by trivial)
  have hnew : ∀ k, k < n → f k ≠ id := fun k hk2 e => by
    have := ((h.mem id).1 ⟨k, hk2, e⟩).2
    rw [hk] at this
    cases this
  have hmem0 : ∀ e, (∃ k, k < n + 1 ∧ putF f n id k = e) ↔ e = id ∨ (e ∈ l ∧ left (.int .i64 e) = false) := fun e => by
    rw [← h.mem]
    constructor
    · rintro ⟨k, hk2, he⟩
      by_cases c : k = n
      · rw [c, putF_same] at he
        exact .inl he.symm
      · rw [putF_other c] at he
        exact .inr ⟨k, by omega, he⟩
    · rintro (rfl | ⟨k, hk2, he⟩)
      · exact ⟨n, by omega, putF_same⟩
      · exact ⟨k, by omega, by rw [putF_other (by omega)]; exact he⟩
  refine ⟨ht, hh, fun e => ?_, hp.inj fun i j hi hj hij => ?_, by have := h.cnt; omega⟩
  · rw [hp.mem, hmem0]
    constructor
    · rintro (rfl | ⟨h1, h2⟩)
      · exact ⟨hl, by rw [self]; simp⟩
      · exact ⟨h1, by rw [h2]; rfl⟩
    · rintro ⟨h1, h2⟩
      by_cases c : e = id
      · exact .inl c
      · rcases left_strike h2 with c2 | c2
        · exact absurd c2 c
        · exact .inr ⟨h1, c2⟩
  · by_cases c1 : i = n <;> by_cases c2 : j = n
    · omega
    · rw [c1, putF_same, putF_other c2] at hij
      exact absurd hij.symm (hnew j (by omega))
    · rw [c2, putF_same, putF_other c1] at hij
      exact absurd hij (hnew i (by omega))
    · rw [putF_other c1, putF_other c2] at hij
      exact h.inj i j (by omega) (by omega) hij
def TuPost (w : World) (g : Gr) (tl : List (Int × Int)) (l : List Int) (e : Ending) (W : World) : Prop := ∃ hb gg cap n f, e = .returned (.pointer (some ⟨hb, 0, none⟩)) ∧ Tq w (fun _ => True) (emI g.evs) (dpT tl) hb gg cap n f W ∧ HeapF (lessT (emI g.evs) (dpT tl)) f n ∧ (∀ e, (∃ k, k < n ∧ f k = e) ↔ e ∈ l) ∧ (∀ i j, i < n → j < n → f i = f j → i = j) ∧ n ≤ 10000000
theorem tq_made (w w1 : World) (em : Int → Em) (dp : Int → Int) (h : Below w.heap.size w w1) : Tq w (fun _ => True) em dp (w1.heap.size + 1) w1.heap.size 0 0 (fun _ => 0) ((w1.alloc (.cells #[] 140)).alloc (.cells #[.slice (some ⟨w1.heap.size, 0, none⟩) 0 0] 182)) := by
  have hs := h.size
  refine ⟨Fr.of_below ((h.alloc hs _).alloc (by simp; omega) _), ?_, fun k => by omega, fun k => by omega, by omega, Nat.le_refl _, by unfold maxLen; omega, #[], ?_, rfl, fun k hk => absurd hk (Nat.not_lt_zero _)⟩
  · have := (MapKept.heap_alloc (w1.alloc (.cells #[] 140)) (.cells #[.slice (some ⟨w1.heap.size, 0, none⟩) 0 0] 182)).1
    simpa using this
  · exact (Below.heap_alloc _ _ _ (by simp)).trans (MapKept.heap_alloc w1 _).1
set_option maxHeartbeats 8000000 in
set_option maxRecDepth 100000 in
theorem turnsOf_impl (g : Gr) (hg : rightG g = true) (by_ bc be bp bt bo : Nat) (tl : List (Int × Int)) (bi : Nat) (l : List Int) (w : World) (hst : StoAt w g by_ bc be bp bt bo tl) (hids : w.ownsMap Tryz.prog 2 heldR bi l.length (putU l)) (hin : ∀ n ∈ l, n ∈ idsOf g.evs) (hl : l.length ≤ 10000000) :
    Calls Tryz.prog 78 #[.pointer (some ⟨by_, 0, none⟩), .map (some bi)] w (TuPost w g tl l) := by
  have HST : Hid (StoAt w g by_ bc be bp bt bo tl) := hst
  have HSZ : Hid (Maps.size (putU l) ≤ 10000000) := Nat.le_trans hids.size_le hl
  have HIN : Hid (∀ n ∈ l, n ∈ idsOf g.evs ∧ 1 ≤ n ∧ n ≤ 1000000) := fun n hn => ⟨hin n hn, by
    obtain ⟨m, hm, rfl⟩ := List.mem_map.1 (hin n hn)
    exact right_ids hg hm⟩
  have HD : Hid ((idsOf g.evs).Nodup) := right_dup hg
  have HIDS : Hid (∀ W, Below w.heap.size w W → W.ownsMap Tryz.prog 2 heldR bi l.length (putU l)) := fun W hW => ownsMap_below hids hW
  have hbl := hids.lt
  have hs0 : w.cell? ⟨by_, 0, none⟩ = some (.pointer (some ⟨bc, 0, none⟩)) := cell_of_heap hst.sy
  have HTA := table_again be bp bc bt w hst.ch
  clear hst hids hin hl hg
  go_enter Tryz.func78, Tryz.ntmps78
  go_wp2_with fail
  refine HTA.mono ?_
  rintro e w1 ⟨rfl, hb1⟩
  have HB1 : Hid (Below w.heap.size w w1) := hb1
  have HW2 : Hid (Below w.heap.size w ((w1.alloc (.cells #[] 140)).alloc (.cells #[.slice (some ⟨w1.heap.size, 0, none⟩) 0 0] 182))) := ((hb1.alloc hb1.size _).alloc (by have := hb1.size; simp; omega) _)
  clear hb1 HTA hs0
  go_wp2_with (at_range; refine wpList_range_own _ rfl _ 137 rfl 2 85 (Maps.int_keyed (P := Tryz.prog) Tryz.underlying2) Tryz.underlying137 heldR bi l.length (putU l) rfl (HIDS.out _ HW2.out) ?_; intro w5 hrg5 hg5 hs5)
  go_frame
  have HI0 : Hid (TuInv w g tl l (w1.heap.size + 1) w1.heap.size 0 0 (fun _ => 0) (Maps.has (putU l)) (Maps.size (putU l)) w5) := ⟨(tq_made w w1 (emI g.evs) (dpT tl) HB1.out).on (below_grown0 hg5), fun k _ hk => absurd hk (Nat.not_lt_zero _), fun e => by
    rw [has_putU]
    constructor
    · rintro ⟨k, hk, _⟩
      exact absurd hk (Nat.not_lt_zero _)
    · rintro ⟨h1, h2⟩
      simp [h1] at h2, fun i _ hi => absurd hi (Nat.not_lt_zero _), by omega⟩
  obtain ⟨rr, HR⟩ : ∃ rr, Hid (rr = w1.heap.size + 1 + 1) := ⟨_, (rfl : w1.heap.size + 1 + 1 = _)⟩
  have hrw : w.heap.size < rr := by rw [HR.out]; have := HB1.out.size; omega
  have hrr : w1.heap.size + 1 < rr := by rw [HR.out]; omega
  have hsz2 : ((w1.alloc (.cells #[] 140)).alloc (.cells #[.slice (some ⟨w1.heap.size, 0, none⟩) 0 0] 182)).heap.size = rr := by rw [HR.out]; simp
  rw [hsz2] at hrg5 ⊢
  go_loopw [7, 8] (fun _ _ wr => ∃ (left : Lit → Bool) (cnt gg cap n : Nat) (f : Nat → Int), wr.ranges Tryz.prog 2 heldR bi rr l.length (putU l) left cnt ∧ Hid (TuInv w g tl l (w1.heap.size + 1) gg cap n f left cnt wr)) (fun _ _ wr => wr.rangeLeft bi rr)
  case atStart => exact ⟨_, _, _, _, _, _, hrg5, HI0⟩
  case round =>
    clear HI0 hrg5 hg5 hs5
    obtain ⟨left, cnt, gg, cap, n, f, hrg, HI⟩ := hrel
    go_wp2_with (at_next; refine wpList_next_U rfl _ rfl bi rr l.length l _ _ rfl hrg ?_ ?_)
    · intro hc0 hl0
      have HE : Hid (TuPost w g tl l (.returned (.pointer (some ⟨w1.heap.size + 1, 0, none⟩))) wr) := ⟨_, gg, cap, n, f, rfl, HI.out.tq, HI.out.hp, fun e => by rw [HI.out.mem, hl0]; simp, HI.out.inj, by have := HI.out.cnt; have := HSZ.out; omega⟩
      clear hc0 hl0 hrg HI
      go_wp2
      go_ret
      exact HE.out
    · intro id v w1' cnt1 hidl hlk hrg1 hlt hg1 hs1 hen
      obtain ⟨cur0, hcur0, _⟩ := HI.out.tq.row
      have hgg := ranges_far hrg hcur0
      clear hcur0
      have hT1 : Tq w (fun _ => True) (emI g.evs) (dpT tl) (w1.heap.size + 1) gg cap n f w1' := HI.out.tq.grownFar hg1 (by omega) hgg.1 (fun k => by omega)
      have hlt1 := hT1.lts
      have hbw := hT1.fr.below
      have hsto := HST.out.kept hbw
      have hs0 : w1'.cell? ⟨by_, 0, none⟩ = some (.pointer (some ⟨bc, 0, none⟩)) := cell_of_heap hsto.sy
      have hch0 : w1'.cell? ⟨bc, 0, none⟩ = some (.map (some be)) := cell_of_heap hsto.ch
      have hidr := HIN.out id hidl
      have hlke := look_emI hsto.evs HD.out hidr.1 ⟨by omega, by omega⟩
      obtain ⟨m, HM⟩ : ∃ m, Hid (m = emI g.evs id) := ⟨_, (rfl : emI g.evs id = _)⟩
      rw [← HM.out] at hlke
      unfold emCells at hlke
      obtain ⟨hv, HHV0⟩ : ∃ h, Hid (h = heavyB m.v) := ⟨_, (rfl : heavyB m.v = _)⟩
      obtain ⟨dv, HDV0⟩ : ∃ d, Hid (d = dpT tl id) := ⟨_, (rfl : dpT tl id = _)⟩
      have HTC : Hid (tcell (emI g.evs) (dpT tl) id = [.int .i64 m.v.id, .int .i64 m.v.room, .int .i64 m.v.author, .int .i64 m.v.kind, .int .i64 m.v.key, .int .i64 m.v.n, .string m.v.text, .slice m.p m.v.prev.length m.c, .int .i64 m.v.time, .bool hv, .int .i64 dv]) := by rw [HHV0.out, HDV0.out, HM.out]; rfl
      have HHV := fun W => isHeavy_impl m.v m.p m.c W
      rw [← HHV0.out] at HHV
      have HDV : Hid (∀ W, W.ownsMap Tryz.prog 2 heldR bt tl.length (putL tl) → (Instr.lookup 173 (.map (some bt)) (.int .i64 id) false).run Tryz.prog W = .ok (.int .i64 dv) W) := fun W hW => by rw [HDV0.out]; exact look_tab1 hW ⟨by omega, by omega⟩
      obtain ⟨W3, HW3⟩ : ∃ W3, Hid (W3 = w1'.alloc (.cells #[.int .i64 m.v.id, .int .i64 m.v.room, .int .i64 m.v.author, .int .i64 m.v.kind, .int .i64 m.v.key, .int .i64 m.v.n, .string m.v.text, .slice m.p m.v.prev.length m.c, .int .i64 m.v.time] 114)) := ⟨_, (rfl : w1'.alloc (.cells #[.int .i64 m.v.id, .int .i64 m.v.room, .int .i64 m.v.author, .int .i64 m.v.kind, .int .i64 m.v.key, .int .i64 m.v.n, .string m.v.text, .slice m.p m.v.prev.length m.c, .int .i64 m.v.time] 114) = _)⟩
      have HB3 : Hid (Below w1'.heap.size w1' W3) := by rw [HW3.out]; exact (Below.refl _ _).alloc (Nat.le_refl _) _
      have HQ : Hid (∀ W4, Below W3.heap.size W3 W4 → Tq w (fun _ => True) (emI g.evs) (dpT tl) (w1.heap.size + 1) gg cap n f W4) := fun W4 hW => (hT1.on HB3.out).on hW
      have HS : Hid (∀ W4, Below W3.heap.size W3 W4 → (fun W4 => StoAt W4 g by_ bc be bp bt bo tl ∧ W4.heap[w1'.heap.size]? = some (.cells #[.int .i64 m.v.id, .int .i64 m.v.room, .int .i64 m.v.author, .int .i64 m.v.kind, .int .i64 m.v.key, .int .i64 m.v.n, .string m.v.text, .slice m.p m.v.prev.length m.c, .int .i64 m.v.time] 114 (0, 0))) W4) := fun W4 hW => ⟨(hsto.kept HB3.out).kept hW, by
        have h1 : W3.heap[w1'.heap.size]? = some (.cells #[.int .i64 m.v.id, .int .i64 m.v.room, .int .i64 m.v.author, .int .i64 m.v.kind, .int .i64 m.v.key, .int .i64 m.v.n, .string m.v.text, .slice m.p m.v.prev.length m.c, .int .i64 m.v.time] 114 (0, 0)) := by rw [HW3.out]; exact (MapKept.heap_alloc w1' _).1
        exact (hW.block _ (Array.getElem?_eq_some_iff.1 h1).1).trans h1⟩
      have hne1 : ¬ w1'.heap.size = w1.heap.size + 1 := by omega
      have HNG : Hid (¬ w1'.heap.size = gg) := fun e => by omega
      have HRG : Hid (∀ W4, Below W3.heap.size W3 W4 → W4.ranges Tryz.prog 2 heldR bi rr l.length (putU l) (fun z => left z && !z.sameKey (.int .i64 id)) cnt1) := fun W4 hW => (hrg1.kept (grown_of HB3.out) (by simp) (by simp)).kept (grown_of hW) (by simp) (by simp)
      have HPU : Hid (∀ W4, Below W3.heap.size W3 W4 → Calls Tryz.prog 118 #[.iface 135 (.pointer (some ⟨w1.heap.size + 1, 0, none⟩)), .iface 140 (.agg #[.int .i64 m.v.id, .int .i64 m.v.room, .int .i64 m.v.author, .int .i64 m.v.kind, .int .i64 m.v.key, .int .i64 m.v.n, .string m.v.text, .slice m.p m.v.prev.length m.c, .int .i64 m.v.time, .bool hv, .int .i64 dv])] W4 fun e W' => e = .returned (.tuple #[]) ∧ ∃ g' cap' f', Tq W4 (Far (w1.heap.size + 1) gg) (emI g.evs) (dpT tl) (w1.heap.size + 1) g' cap' (n + 1) f' W' ∧ HeapF (lessT (emI g.evs) (dpT tl)) f' (n + 1) ∧ Perm0 (n + 1) (putF f n id) f') := fun W4 hW => by
        have h2 := heapPush (lessT_ord HD.out (dpT tl)) id (HQ.out W4 hW).base (fun k hk => (HIN.out _ ((HI.out.mem _).1 ⟨k, hk, rfl⟩).1).1) hidr.1 HI.out.hp (by have := HI.out.cnt; have := HSZ.out; omega)
        rw [HTC.out] at h2
        exact h2
      have HLE : Hid (wr.rangeLeft bi rr = cnt ∧ cnt1 < cnt ∧ id ∈ l ∧ left (.int .i64 id) = true) := ⟨hrg.left_eq, hlt, hidl, hlk⟩
      have HRR : Hid (rr < w1'.heap.size ∧ rr ≠ gg ∧ bi ≠ gg) := ⟨hrg1.lt, hgg.1, hgg.2⟩
      clear hrg hrg1 hg1 hs1 hlk hidl hlt hT1 hbw hsto hidr hgg hlt1
      go_wp2
      have hW3e : w1'.alloc (.cells #[.int .i64 m.v.id, .int .i64 m.v.room, .int .i64 m.v.author, .int .i64 m.v.kind, .int .i64 m.v.key, .int .i64 m.v.n, .string m.v.text, .slice m.p m.v.prev.length m.c, .int .i64 m.v.time] 114) = W3 := HW3.out.symm
      rw [hW3e]
      clear hW3e hs0 hch0 hlke
      refine wp_region_held_drew (S := (fun W4 => StoAt W4 g by_ bc be bp bt bo tl ∧ W4.heap[w1'.heap.size]? = some (.cells #[.int .i64 m.v.id, .int .i64 m.v.room, .int .i64 m.v.author, .int .i64 m.v.kind, .int .i64 m.v.key, .int .i64 m.v.n, .string m.v.text, .slice m.p m.v.prev.length m.c, .int .i64 m.v.time] 114 (0, 0)))) (by kernel_rfl) (HS.out _ (Below.refl _ _).drew) (fun hHeld => ?_)
      refine wpAnyH_take (i := 0) (v := (.pointer (some ⟨w1.heap.size + 1, 0, none⟩))) rfl (by kernel_rfl) (by kernel_rfl) (by kernel_rfl) (fun _ _ _ h => h) (Or.inl ⟨by kernel_rfl, ?_⟩) hHeld ?_
      · intro W hW
        go_simp
      refine wpAnyH_take (i := 1) (v := (.iface 135 (.pointer (some ⟨w1.heap.size + 1, 0, none⟩)))) rfl (by kernel_rfl) (by kernel_rfl) (by kernel_rfl) (fun _ _ _ h => h) (Or.inl ⟨by kernel_rfl, ?_⟩) hHeld ?_
      · intro W hW
        go_simp
      refine wpAnyH_take (i := 2) (v := (.agg #[.int .i64 m.v.id, .int .i64 m.v.room, .int .i64 m.v.author, .int .i64 m.v.kind, .int .i64 m.v.key, .int .i64 m.v.n, .string m.v.text, .slice m.p m.v.prev.length m.c, .int .i64 m.v.time])) rfl (by kernel_rfl) (by kernel_rfl) (by kernel_rfl) (fun _ _ _ h => h) (Or.inl ⟨by kernel_rfl, ?_⟩) hHeld ?_
      · intro W hW
        have f0 : ∀ k, W.cell? ⟨w1'.heap.size, k, none⟩ = #[.int .i64 m.v.id, .int .i64 m.v.room, .int .i64 m.v.author, .int .i64 m.v.kind, .int .i64 m.v.key, .int .i64 m.v.n, .string m.v.text, .slice m.p m.v.prev.length m.c, .int .i64 m.v.time][k]? := fun _ => cell_of_heap hW.2
        go_simp
      refine wpAnyH_take (i := 3) (v := (.agg #[.int .i64 m.v.id, .int .i64 m.v.room, .int .i64 m.v.author, .int .i64 m.v.kind, .int .i64 m.v.key, .int .i64 m.v.n, .string m.v.text, .slice m.p m.v.prev.length m.c, .int .i64 m.v.time])) rfl (by kernel_rfl) (by kernel_rfl) (by kernel_rfl) (fun _ _ _ h => h) (Or.inl ⟨by kernel_rfl, ?_⟩) hHeld ?_
      · intro W hW
        have f0 : ∀ k, W.cell? ⟨w1'.heap.size, k, none⟩ = #[.int .i64 m.v.id, .int .i64 m.v.room, .int .i64 m.v.author, .int .i64 m.v.kind, .int .i64 m.v.key, .int .i64 m.v.n, .string m.v.text, .slice m.p m.v.prev.length m.c, .int .i64 m.v.time][k]? := fun _ => cell_of_heap hW.2
        go_simp
      refine wpAnyH_take (i := 5) (v := (.map (some bt))) rfl (by kernel_rfl) (by kernel_rfl) (by kernel_rfl) (fun _ _ _ h => h) (Or.inl ⟨by kernel_rfl, ?_⟩) hHeld ?_
      · intro W hW
        go_simp
      refine wpAnyH_take (i := 6) (v := (.int .i64 id)) rfl (by kernel_rfl) (by kernel_rfl) (by kernel_rfl) (fun _ _ _ h => h) (Or.inl ⟨by kernel_rfl, ?_⟩) hHeld ?_
      · intro W hW
        go_simp
      refine wpAnyH_take (i := 7) (v := (.int .i64 dv)) rfl (by kernel_rfl) (by kernel_rfl) (by kernel_rfl) (fun _ _ _ h => h) (Or.inl ⟨by kernel_rfl, ?_⟩) hHeld ?_
      · intro W hW
        have f0 := HDV.out W hW.1.tab
        go_simp
      refine wpAnyH_ready (rs := [4]) (by kernel_rfl) (by simp) ?_
      refine AllReadyH.cons rfl (fun K hK => ?_) AllReadyH.nil
      go_simp
      refine (HHV _).mono ?_
      rintro e w7 ⟨rfl, hb7⟩
      have HB7 : Hid (Below W3.heap.size W3 w7) := ((Below.refl _ _).drew).trans (hb7.mono (by simp))
      clear hb7
      refine hK.out _ _ (HS.out _ HB7.out) (fun hH2 => ?_)
      clear hK K
      refine wpAnyH_take (i := 8) (v := (.agg #[.int .i64 m.v.id, .int .i64 m.v.room, .int .i64 m.v.author, .int .i64 m.v.kind, .int .i64 m.v.key, .int .i64 m.v.n, .string m.v.text, .slice m.p m.v.prev.length m.c, .int .i64 m.v.time, .bool hv, .int .i64 dv])) rfl (by kernel_rfl) (by kernel_rfl) (by kernel_rfl) (fun _ _ _ h => h) (Or.inl ⟨by kernel_rfl, ?_⟩) hH2 ?_
      · intro W hW
        go_simp
      refine wpAnyH_take (i := 9) (v := (.iface 140 (.agg #[.int .i64 m.v.id, .int .i64 m.v.room, .int .i64 m.v.author, .int .i64 m.v.kind, .int .i64 m.v.key, .int .i64 m.v.n, .string m.v.text, .slice m.p m.v.prev.length m.c, .int .i64 m.v.time, .bool hv, .int .i64 dv]))) rfl (by kernel_rfl) (by kernel_rfl) (by kernel_rfl) (fun _ _ _ h => h) (Or.inl ⟨by kernel_rfl, ?_⟩) hH2 ?_
      · intro W hW
        go_simp
      refine wpAnyH_ready (rs := [10]) (by kernel_rfl) (by simp) ?_
      refine AllReadyH.cons rfl (fun K hK => ?_) AllReadyH.nil
      go_simp
      refine (HPU.out _ HB7.out).mono ?_
      rintro e w9 ⟨rfl, g9, cap9, f9, ht9, hp9, hm9⟩
      have HT9 : Hid (Tq w7 (Far (w1.heap.size + 1) gg) (emI g.evs) (dpT tl) (w1.heap.size + 1) g9 cap9 (n + 1) f9 w9 ∧ HeapF (lessT (emI g.evs) (dpT tl)) f9 (n + 1) ∧ Perm0 (n + 1) (putF f n id) f9) := ⟨ht9, hp9, hm9⟩
      have HTB : Hid (Tq w (fun _ => True) (emI g.evs) (dpT tl) (w1.heap.size + 1) g9 cap9 (n + 1) f9 w9) := (HQ.out _ HB7.out).back ht9
      have HS9 : Hid ((fun W4 => StoAt W4 g by_ bc be bp bt bo tl ∧ W4.heap[w1'.heap.size]? = some (.cells #[.int .i64 m.v.id, .int .i64 m.v.room, .int .i64 m.v.author, .int .i64 m.v.kind, .int .i64 m.v.key, .int .i64 m.v.n, .string m.v.text, .slice m.p m.v.prev.length m.c, .int .i64 m.v.time] 114 (0, 0))) w9) := ⟨HST.out.kept HTB.out.fr.below, (ht9.far (Nat.lt_of_lt_of_le (Array.getElem?_eq_some_iff.1 (HS.out _ (Below.refl _ _)).2).1 HB7.out.size) hne1 (HNG.out)).trans (HS.out _ HB7.out).2⟩
      clear ht9 hp9 hm9
      refine hK.out _ _ HS9.out (fun _ => ?_)
      clear hK K
      refine wpAnyH_done (by kernel_rfl) ?_ _
      have HR9 : Hid (w9.ranges Tryz.prog 2 heldR bi rr l.length (putU l) (fun z => left z && !z.sameKey (.int .i64 id)) cnt1) := by
        have h7 := HRG.out _ HB7.out
        have hs7 := HB7.out.size
        have hs3 := HB3.out.size
        have hr1 := HRR.out.1
        refine ranges_same h7 (HT9.out.1.far (h7.owns.lt) (by have := HB1.out.size; omega) HRR.out.2.2) (HT9.out.1.far (by omega) (by omega) HRR.out.2.1)
      have HI9 : Hid (TuInv w g tl l (w1.heap.size + 1) g9 cap9 (n + 1) f9 (fun z => left z && !z.sameKey (.int .i64 id)) cnt1 w9) := HI.out.more HLE.out.2.2.1 HLE.out.2.2.2 HLE.out.2.1 HTB.out HT9.out.2.1 HT9.out.2.2
      go_wp2
      go_roundw
      case rel => exact ⟨_, _, _, _, _, _, HR9.out, HI9⟩
      case measure => rw [HR9.out.left_eq, HLE.out.1]; exact HLE.out.2.1
end Go.Proofs.YteajcmkaoahbeaaGreatDoor
