/- Rows put in order by inserting; what several states come to, as plain functions. Rows of rows of entries; whether all of some states have an entry: the specification's side. Several states in the program's memory; whether one of them has another entry. What several states have alike: the program's. -/
import Derived.Test.YteajcmkaoahbeaaGreatDoorZSuMap
import Derived.Test.YteajcmkaoahbeaaGreatDoorZMsPlain
import Derived.Deep.QuietTactic
import Derived.BigQuiet
namespace Go.Proofs.YteajcmkaoahbeaaGreatDoor
open Go.RowKit

/-- A strict order that parts any two of a row. -/
structure Ord (lt : Int → Int → Bool) (S : Int → Prop) : Prop where
  asymm : ∀ {a b}, S a → S b → lt a b = true → lt b a = false
  trans : ∀ {a b c}, S a → S b → S c → lt a b = true → lt b c = true → lt a c = true
  total : ∀ {a b}, S a → S b → a ≠ b → lt a b = true ∨ lt b a = true
def Srt (lt : Int → Int → Bool) (l : List Int) : Prop := l.Pairwise fun a b => lt a b = true
/-- Two rows in order that hold the same are one. -/
theorem srt_ext {lt : Int → Int → Bool} {S : Int → Prop} (O : Ord lt S) : ∀ {xs ys : List Int}, (∀ x ∈ xs, S x) → (∀ y ∈ ys, S y) → Srt lt xs → Srt lt ys → (∀ e, e ∈ xs ↔ e ∈ ys) → xs = ys
  | [], [], _, _, _, _, _ => rfl
  | [], y :: ys, _, _, _, _, h => absurd ((h y).2 List.mem_cons_self) (by simp)
  | x :: xs, [], _, _, _, _, h => absurd ((h x).1 List.mem_cons_self) (by simp)
  | x :: xs, y :: ys, hx, hy, h1, h2, h => by
    obtain ⟨h1a, h1b⟩ := List.pairwise_cons.1 h1
    obtain ⟨h2a, h2b⟩ := List.pairwise_cons.1 h2
    have sx := hx x List.mem_cons_self
    have sy := hy y List.mem_cons_self
    have irr : ∀ {a}, S a → lt a a = true → False := fun sa h => by
      have := O.asymm sa sa h
      rw [h] at this
      cases this
    have e : x = y := by
      rcases List.mem_cons.1 ((h x).1 List.mem_cons_self) with e | m1
      · exact e
      · rcases List.mem_cons.1 ((h y).2 List.mem_cons_self) with e | m2
        · exact e.symm
        · have := O.asymm sy sx (h2a x m1)
          rw [h1a y m2] at this
          cases this
    subst e
    refine congrArg (x :: ·) (srt_ext O (fun z hz => hx z (List.mem_cons_of_mem _ hz)) (fun z hz => hy z (List.mem_cons_of_mem _ hz)) h1b h2b fun e => ⟨fun m => ?_, fun m => ?_⟩)
    · rcases List.mem_cons.1 ((h e).1 (List.mem_cons_of_mem _ m)) with r | r
      · subst r
        exact absurd (h1a _ m) (fun c => irr sx c)
      · exact r
    · rcases List.mem_cons.1 ((h e).2 (List.mem_cons_of_mem _ m)) with r | r
      · subst r
        exact absurd (h2a _ m) (fun c => irr sx c)
      · exact r
/-- Where one is put: behind the last that does not come behind it. -/
def Stops (lt : Int → Int → Bool) (l : List Int) (x : Int) (k : Nat) : Prop := k ≤ l.length ∧ (∀ j (h : j < l.length), k ≤ j → lt x l[j] = true) ∧ (∀ h : 0 < k, ∀ h2 : k - 1 < l.length, lt x l[k - 1] = false)
theorem ins_srt {lt : Int → Int → Bool} {S : Int → Prop} (O : Ord lt S) {l : List Int} {x : Int} {k : Nat} (hl : ∀ y ∈ l, S y) (hx : S x) (hn : x ∉ l) (hs : Srt lt l) (hk : Stops lt l x k) : Srt lt (l.take k ++ x :: l.drop k) := by
  obtain ⟨h1, h2, h3⟩ := hk
  have hsplit : Srt lt (l.take k ++ l.drop k) := by rw [List.take_append_drop]; exact hs
  obtain ⟨p1, p2, p3⟩ := List.pairwise_append.1 hsplit
  refine List.pairwise_append.2 ⟨p1, List.pairwise_cons.2 ⟨fun b hb => ?_, p2⟩, fun a ha b hb => ?_⟩
  · obtain ⟨j, hj, rfl⟩ := List.getElem_of_mem hb
    rw [List.getElem_drop]
    exact h2 _ (by rw [List.length_drop] at hj; omega) (by omega)
  · rcases List.mem_cons.1 hb with rfl | hb
    · obtain ⟨j, hj, rfl⟩ := List.getElem_of_mem ha
      rw [List.getElem_take]
      rw [List.length_take] at hj
      have hk0 : 0 < k := by omega
      have hk1 : k - 1 < l.length := by omega
      have hlast := h3 hk0 hk1
      have sl := hl _ (List.getElem_mem hk1)
      have hne : b ≠ l[k - 1] := fun e => hn (e ▸ List.getElem_mem hk1)
      have hlt : lt l[k - 1] b = true := by
        rcases O.total hx sl hne with h | h
        · rw [h] at hlast; cases hlast
        · exact h
      by_cases e : j = k - 1
      · subst e
        exact hlt
      · exact O.trans (hl _ (List.getElem_mem _)) sl hx (List.pairwise_iff_getElem.1 hs j (k - 1) (by omega) hk1 (by omega)) hlt
    · exact p3 a ha b hb
theorem mem_ins {l : List Int} {x e : Int} (k : Nat) : e ∈ l.take k ++ x :: l.drop k ↔ e = x ∨ e ∈ l := by
  rw [List.mem_append, List.mem_cons]
  constructor
  · rintro (h | h | h)
    · exact .inr (List.mem_of_mem_take h)
    · exact .inl h
    · exact .inr (List.mem_of_mem_drop h)
  · rintro (h | h)
    · exact .inr (.inl h)
    · rw [← List.take_append_drop k l, List.mem_append] at h
      rcases h with h | h
      · exact .inl h
      · exact .inr (.inr h)
/-- A row put in order. -/
structure InOrd (lt : Int → Int → Bool) (ids l : List Int) : Prop where
  srt : Srt lt l
  mem : ∀ e, e ∈ l ↔ e ∈ ids
theorem InOrd.uniq {lt : Int → Int → Bool} {S : Int → Prop} (O : Ord lt S) {ids l1 l2 : List Int} (hS : ∀ x ∈ ids, S x) (h1 : InOrd lt ids l1) (h2 : InOrd lt ids l2) : l1 = l2 :=
  srt_ext O (fun x hx => hS x ((h1.mem x).1 hx)) (fun x hx => hS x ((h2.mem x).1 hx)) h1.srt h2.srt fun e => (h1.mem e).trans (h2.mem e).symm
/-- One more of a row that has no two alike. -/
theorem InOrd.more {lt : Int → Int → Bool} {S : Int → Prop} (O : Ord lt S) {ids l : List Int} {i k : Nat} (hi : i < ids.length) (hd : ids.Nodup) (hS : ∀ x ∈ ids, S x) (h : InOrd lt (ids.take i) l) (hk : Stops lt l ids[i] k) : InOrd lt (ids.take (i + 1)) (l.take k ++ ids[i] :: l.drop k) := by
  have hnot : ids[i] ∉ l := fun hm => by
    obtain ⟨j, hj, e⟩ := List.getElem_of_mem ((h.mem _).1 hm)
    rw [List.length_take] at hj
    rw [List.getElem_take] at e
    have := (List.nodup_iff_pairwise_ne.1 hd)
    exact (List.pairwise_iff_getElem.1 this j i (by omega) hi (by omega)) e
  refine ⟨ins_srt O (fun y hy => hS y (List.mem_of_mem_take ((h.mem y).1 hy))) (hS _ (List.getElem_mem hi)) hnot h.srt hk, fun e => ?_⟩
  rw [mem_ins, h.mem, List.take_add_one, List.getElem?_eq_getElem hi, List.mem_append]
  constructor
  · rintro (h | h)
    · exact .inr (by simp [h])
    · exact .inl h
  · rintro (h | h)
    · exact .inr h
    · exact .inl (by simpa using h)
/-- Whether all of some states have an entry. -/
def alikeB (ls : List (List En)) (x : En) : Bool := ls.all fun s => stAt s x.kind x.key == x.id
/-- What all have alike: a part of the first. -/
def agrR (ls : List (List En)) : List En := (ls.headD []).filter (alikeB ls)
theorem mem_agrR {ls : List (List En)} {x : En} : x ∈ agrR ls ↔ x ∈ ls.headD [] ∧ alikeB ls x = true := List.mem_filter
theorem agrR_rises {ls : List (List En)} (h : ∀ s ∈ ls, Rises s) : Rises (agrR ls) := by
  refine List.Pairwise.filter _ ?_
  cases ls with
  | nil => exact List.Pairwise.nil
  | cons s r => exact h s List.mem_cons_self
end Go.Proofs.YteajcmkaoahbeaaGreatDoor
namespace Go.Proofs.YteajcmkaoahbeaaGreatDoor
open Go.RowKit

theorem below_drewN9 {k : Nat} {w W : World} (h : Below k w W) (n : Nat) : Below k w (W.drewN n) := ⟨h.os, h.tape, h.output, h.size, h.block⟩
/-- A row of rows, where each lies. -/
structure Sl where
  a : Option Addr
  c : Nat
  xs : List En
def rowsOf (ls : List Sl) : List (List En) := ls.map (·.xs)
structure SlsAt (w : World) (a : Option Addr) (ls : List Sl) : Prop where
  len : ls.length ≤ 1048576
  row : 0 < ls.length → ∃ b off, a = some ⟨b, off, none⟩ ∧ b < w.heap.size ∧ ∀ i (h : i < ls.length), w.cell? ⟨b, off + i, none⟩ = some (.slice ls[i].a ls[i].xs.length ls[i].c)
  each : ∀ s ∈ ls, EnsAt w s.a s.xs
theorem SlsAt.kept {w w' : World} {a : Option Addr} {ls : List Sl} (h : SlsAt w a ls) (hb : Below w.heap.size w w') : SlsAt w' a ls := by
  refine ⟨h.len, fun hl => ?_, fun s hs => (h.each s hs).kept hb⟩
  obtain ⟨b, off, ha, hlt, hc⟩ := h.row hl
  exact ⟨b, off, ha, Nat.lt_of_lt_of_le hlt hb.size, fun i hi => (hb.cell (p := ⟨b, off + i, none⟩) hlt).trans (hc i hi)⟩
theorem alikeB_yes {ls : List Sl} {x : En} (h : ∀ j (h : j < ls.length), stAt ls[j].xs x.kind x.key = x.id) : alikeB (rowsOf ls) x = true := by
  refine List.all_eq_true.2 fun s hs => ?_
  obtain ⟨t, ht, rfl⟩ := List.mem_map.1 hs
  obtain ⟨j, hj, rfl⟩ := List.getElem_of_mem ht
  simpa using h j hj
theorem alikeB_no {ls : List Sl} {x : En} {j : Nat} (hj : j < ls.length) (h : ¬ stAt ls[j].xs x.kind x.key = x.id) : alikeB (rowsOf ls) x = false :=
  List.all_eq_false.2 ⟨ls[j].xs, List.mem_map.2 ⟨_, List.getElem_mem hj, rfl⟩, by simpa using h⟩
set_option maxHeartbeats 8000000 in
set_option maxRecDepth 100000 in
theorem alike_spec (ls : List Sl) (x : En) (a : Option Addr) (cap : Nat) (w : World) (h : SlsAt w a ls) :
    Calls Tryz.prog 65 #[.slice a ls.length cap, .agg #[.int .i64 x.kind, .int .i64 x.key, .int .i64 x.id]] w fun e w' => e = .returned (.bool (alikeB (rowsOf ls) x)) ∧ Below w.heap.size w w' := by
  have hl := h.len
  have H : Hid (SlsAt w a ls) := h
  have HB : Hid (Below w.heap.size w (w.alloc (.cells #[.int .i64 x.kind, .int .i64 x.key, .int .i64 x.id] 73))) := (Below.refl _ _).alloc (Nat.le_refl _) _
  have HX : Hid ((w.alloc (.cells #[.int .i64 x.kind, .int .i64 x.key, .int .i64 x.id] 73)).heap[w.heap.size]? = some (.cells #[.int .i64 x.kind, .int .i64 x.key, .int .i64 x.id] 73 (0, 0))) := (MapKept.heap_alloc w _).1
  clear h
  go_enter Tryz.func65, Tryz.ntmps65
  go_wp2
  go_loopw [5] (fun i wr => ∃ k : Nat, k ≤ ls.length ∧ i = .int .i64 k ∧ Hid (∀ j (h : j < ls.length), j < k → stAt ls[j].xs x.kind x.key = x.id) ∧ Hid (Below w.heap.size w wr) ∧ Hid (wr.heap[w.heap.size]? = some (.cells #[.int .i64 x.kind, .int .i64 x.key, .int .i64 x.id] 73 (0, 0)))) (fun i _ => ls.length - (intOf i).toNat)
  case atStart => exact ⟨0, Nat.zero_le _, rfl, fun _ _ h => absurd h (Nat.not_lt_zero _), HB, HX⟩
  case round =>
    clear HB HX
    obtain ⟨k, hk, rfl, HO, HW, HX⟩ := hrel
    by_cases hlt : k < ls.length
    · have hc : ∀ i, wr.cell? ⟨w.heap.size, i, none⟩ = #[Value.int .i64 x.kind, .int .i64 x.key, .int .i64 x.id][i]? := fun i => cell_of_heap HX.out
      obtain ⟨b, off, rfl, hbb, hcell⟩ := (H.out.kept HW.out).row (by omega)
      have hck := hcell k hlt
      have HS := fun n => sat_spec ls[k].xs x.kind x.key ls[k].a ls[k].c (wr.drewN n) ((H.out.each _ (List.getElem_mem hlt)).kept (below_drewN9 HW.out n))
      have HQ : Hid (∀ n, Below w.heap.size w (wr.drewN n) ∧ (wr.drewN n).heap[w.heap.size]? = some (.cells #[.int .i64 x.kind, .int .i64 x.key, .int .i64 x.id] 73 (0, 0))) := fun n => ⟨below_drewN9 HW.out n, HX.out⟩
      obtain ⟨s, HSS⟩ : ∃ s, Hid (s = ls[k]) := ⟨ls[k], (rfl : ls[k] = _)⟩
      rw [← HSS.out] at HS hck
      obtain ⟨z, HZ⟩ : ∃ z, Hid (z = stAt s.xs x.kind x.key) := ⟨stAt s.xs x.kind x.key, (rfl : stAt s.xs x.kind x.key = _)⟩
      rw [← HZ.out] at HS
      clear hcell
      cases hz : (z != x.id)
      · have HO2 : Hid (∀ j (h : j < ls.length), j < k + 1 → stAt ls[j].xs x.kind x.key = x.id) := fun j h hj => by
          by_cases e : j = k
          · subst e
            rw [← HSS.out, ← HZ.out]
            simpa using hz
          · exact HO.out j h (by omega)
        go_wp2
        go_quiet ((go_at_call 98; exact quiet_sym (HS _)))
        go_wp2
        go_roundw
        case rel => exact ⟨k + 1, by omega, by go_num, HO2, (HQ.out _).1, (HQ.out _).2⟩
        case measure => simp [intOf]; omega
      · have HV : Hid (alikeB (rowsOf ls) x = false) := alikeB_no hlt (by rw [← HSS.out, ← HZ.out]; simpa using hz)
        go_wp2
        go_quiet ((go_at_call 98; exact quiet_sym (HS _)))
        go_wp2
        go_ret
        exact ⟨ret_bool HV.out.symm, (HQ.out _).1⟩
    · have HV : Hid (alikeB (rowsOf ls) x = true) := alikeB_yes fun j h => HO.out j h (by omega)
      go_wp2
      go_ret
      exact ⟨ret_bool HV.out.symm, HW.out⟩
end Go.Proofs.YteajcmkaoahbeaaGreatDoor
namespace Go.Proofs.YteajcmkaoahbeaaGreatDoor
open Go.RowKit

/-- A row of maps, where each lies, and what each holds. -/
structure MsAt (w : World) (a : Option Addr) (ms : List (Nat × Slots)) : Prop where
  len : ms.length ≤ 1000
  row : 0 < ms.length → ∃ b off, a = some ⟨b, off, none⟩ ∧ b < w.heap.size ∧ ∀ i (h : i < ms.length), w.cell? ⟨b, off + i, none⟩ = some (.map (some ms[i].1))
  each : ∀ m ∈ ms, ∃ n, n ≤ 10000 ∧ SMap w m.1 n m.2
theorem MsAt.kept {w w' : World} {a : Option Addr} {ms : List (Nat × Slots)} (h : MsAt w a ms) (hb : Below w.heap.size w w') : MsAt w' a ms := by
  refine ⟨h.len, fun hl => ?_, fun m hm => ?_⟩
  · obtain ⟨b, off, ha, hlt, hc⟩ := h.row hl
    exact ⟨b, off, ha, Nat.lt_of_lt_of_le hlt hb.size, fun i hi => (hb.cell (p := ⟨b, off + i, none⟩) hlt).trans (hc i hi)⟩
  · obtain ⟨n, hn, hm⟩ := h.each m hm
    exact ⟨n, hn, hm.kept hb⟩
/-- Has one of them another Id there? -/
def partB (ms : List (Nat × Slots)) (k y v : Int) : Bool := ms.any fun m => (m.2 k y).getD 0 != v
theorem partB_yes {ms : List (Nat × Slots)} {k y v : Int} {i : Nat} (hi : i < ms.length) (h : ((ms[i].2 k y).getD 0 != v) = true) : partB ms k y v = true := List.any_eq_true.2 ⟨ms[i], List.getElem_mem hi, h⟩
theorem partB_no {ms : List (Nat × Slots)} {k y v : Int} (h : ∀ i (hi : i < ms.length), ((ms[i].2 k y).getD 0 != v) = false) : partB ms k y v = false := List.any_eq_false.2 fun m hm => by
  obtain ⟨i, hi, rfl⟩ := List.getElem_of_mem hm
  rw [h i hi]
  decide
theorem below_drewNA {k : Nat} {w W : World} (h : Below k w W) (n : Nat) : Below k w (W.drewN n) := ⟨h.os, h.tape, h.output, h.size, h.block⟩
abbrev agFn (p1 p2 : Nat) : Value := .func (.func 116) #[] #[.pointer (some ⟨p1, 0, none⟩), .pointer (some ⟨p2, 0, none⟩)]
set_option maxHeartbeats 4000000 in
set_option maxRecDepth 100000 in
theorem part_call (f : Slots) (b n p1 p2 : Nat) (k y v : Int) (wk : (Lit.int .i64 k).wf = true) (wy : (Lit.int .i64 y).wf = true) (w : World) (h : SMap w b n f) (h0 : w.cell? ⟨p1, 0, none⟩ = some (.int .i64 k)) (h1 : w.cell? ⟨p1, 1, none⟩ = some (.int .i64 y)) (h2 : w.cell? ⟨p2, 0, none⟩ = some (.int .i64 v)) :
    Calls Tryz.prog 116 #[.map (some b), .pointer (some ⟨p1, 0, none⟩), .pointer (some ⟨p2, 0, none⟩)] w fun e w' => e = .returned (.bool ((f k y).getD 0 != v)) ∧ Below w.heap.size w w' := by
  obtain ⟨z, HZ⟩ : ∃ z, Hid (z = (f k y).getD 0) := ⟨_, (rfl : (f k y).getD 0 = _)⟩
  have hlk : ∀ q, (Instr.lookup 68 (.map (some b)) (.agg #[.int .i64 k, .int .i64 y]) false).run Tryz.prog (w.drewN q) = .ok (.int .i64 z) (w.drewN q) := fun q => by
    rw [HZ.out]
    have h9 : SMap (w.drewN q) b n f := h
    exact h9.look wk wy
  rw [← HZ.out]
  clear h
  go_enter Tryz.func116, Tryz.ntmps116
  go_wp2
  go_quiet (fail)
  go_wp2
  go_ret
  exact ⟨rfl, below_drewNA (Below.refl _ _) _⟩
/-- The closure's variables, and all that lay before. -/
structure PB (w : World) (p1 p2 : Nat) (k y v : Int) (W : World) : Prop where
  below : Below w.heap.size w W
  c0 : W.cell? ⟨p1, 0, none⟩ = some (.int .i64 k)
  c1 : W.cell? ⟨p1, 1, none⟩ = some (.int .i64 y)
  c2 : W.cell? ⟨p2, 0, none⟩ = some (.int .i64 v)
theorem PB.on {w W W' : World} {p1 p2 : Nat} {k y v : Int} (h : PB w p1 p2 k y v W) (hW : Below W.heap.size W W') (l1 : p1 < w.heap.size) (l2 : p2 < w.heap.size) : PB w p1 p2 k y v W' := by
  have hs := h.below.size
  exact ⟨h.below.trans (hW.mono hs), (hW.cell (p := ⟨p1, 0, none⟩) (by show p1 < _; omega)).trans h.c0, (hW.cell (p := ⟨p1, 1, none⟩) (by show p1 < _; omega)).trans h.c1, (hW.cell (p := ⟨p2, 0, none⟩) (by show p2 < _; omega)).trans h.c2⟩
set_option maxHeartbeats 4000000 in
set_option maxRecDepth 100000 in
theorem index_call (ms : List (Nat × Slots)) (p1 p2 : Nat) (k y v : Int) (wk : (Lit.int .i64 k).wf = true) (wy : (Lit.int .i64 y).wf = true) (a : Option Addr) (cp : Nat) (w : World) (h : MsAt w a ms) (l1 : p1 < w.heap.size) (l2 : p2 < w.heap.size) (h0 : w.cell? ⟨p1, 0, none⟩ = some (.int .i64 k)) (h1 : w.cell? ⟨p1, 1, none⟩ = some (.int .i64 y)) (h2 : w.cell? ⟨p2, 0, none⟩ = some (.int .i64 v)) :
    Calls Tryz.prog 151 #[.slice a ms.length cp, agFn p1 p2] w fun e w' => ∃ z : Int, e = .returned (.int .i64 z) ∧ decide (0 ≤ z) = partB ms k y v ∧ Below w.heap.size w w' := by
  have hl := h.len
  have H0 : Hid (PB w p1 p2 k y v w) := ⟨Below.refl _ _, h0, h1, h2⟩
  have HM : Hid (MsAt w a ms ∧ (Lit.int .i64 k).wf = true ∧ (Lit.int .i64 y).wf = true) := ⟨h, wk, wy⟩
  clear h h0 h1 h2 wk wy
  go_enter Tryz.func151, Tryz.ntmps151
  go_wp2
  go_loopw [5, 8] (fun _ i wr => ∃ q : Nat, q ≤ ms.length ∧ i = .int .i64 q ∧ Hid (∀ j (h : j < ms.length), j < q → ((ms[j].2 k y).getD 0 != v) = false) ∧ Hid (PB w p1 p2 k y v wr)) (fun _ i _ => ms.length - (intOf i).toNat)
  case atStart => exact ⟨0, Nat.zero_le _, rfl, fun _ _ h => absurd h (Nat.not_lt_zero _), H0⟩
  case round =>
    clear H0
    obtain ⟨q, hq, rfl, HN, HI⟩ := hrel
    by_cases hlt : q < ms.length
    · obtain ⟨b, off, rfl, hbb, hcell⟩ := HM.out.1.row (by omega)
      have hck := (HI.out.below.cell (p := ⟨b, off + q, none⟩) hbb).trans (hcell q hlt)
      obtain ⟨n, hn, hm⟩ := HM.out.1.each _ (List.getElem_mem hlt)
      have HP := part_call ms[q].2 ms[q].1 n p1 p2 k y v HM.out.2.1 HM.out.2.2 wr (hm.kept HI.out.below) HI.out.c0 HI.out.c1 HI.out.c2
      obtain ⟨r, HR⟩ : ∃ r, Hid (r = ((ms[q].2 k y).getD 0 != v)) := ⟨_, (rfl : ((ms[q].2 k y).getD 0 != v) = _)⟩
      rw [← HR.out] at HP
      clear hcell hm hn
      cases hr : r
      · rw [hr] at HP
        have HN2 : Hid (∀ j (h : j < ms.length), j < q + 1 → ((ms[j].2 k y).getD 0 != v) = false) := fun j h hj => by
          by_cases e : j = q
          · subst e
            rw [← HR.out, hr]
          · exact HN.out j h (by omega)
        go_wp2_with fail
        refine HP.mono ?_
        rintro e w1 ⟨rfl, hb1⟩
        have HI1 : Hid (PB w p1 p2 k y v w1) := HI.out.on hb1 l1 l2
        clear hb1 HP HI hck
        go_wp2
        go_roundw
        case rel => exact ⟨q + 1, by omega, by go_num, HN2, HI1⟩
        case measure => simp [intOf]; omega
      · rw [hr] at HP
        have HS : Hid (decide ((0 : Int) ≤ (q : Int)) = partB ms k y v) := by
          rw [Hid, partB_yes hlt (by rw [← HR.out, hr])]
          exact decide_eq_true (by omega)
        go_wp2_with fail
        refine HP.mono ?_
        rintro e w1 ⟨rfl, hb1⟩
        have HI1 : Hid (PB w p1 p2 k y v w1) := HI.out.on hb1 l1 l2
        clear hb1 HP HI hck
        go_wp2
        go_ret
        exact ⟨_, rfl, HS.out, HI1.out.below⟩
    · have HS : Hid (decide ((0 : Int) ≤ -1) = partB ms k y v) := by
        rw [Hid, partB_no fun i hi => HN.out i hi (by omega)]
        decide
      go_wp2
      go_ret
      exact ⟨_, rfl, HS.out, HI.out.below⟩
set_option maxHeartbeats 4000000 in
set_option maxRecDepth 100000 in
theorem contains_call (ms : List (Nat × Slots)) (p1 p2 : Nat) (k y v : Int) (wk : (Lit.int .i64 k).wf = true) (wy : (Lit.int .i64 y).wf = true) (a : Option Addr) (cp : Nat) (w : World) (h : MsAt w a ms) (l1 : p1 < w.heap.size) (l2 : p2 < w.heap.size) (h0 : w.cell? ⟨p1, 0, none⟩ = some (.int .i64 k)) (h1 : w.cell? ⟨p1, 1, none⟩ = some (.int .i64 y)) (h2 : w.cell? ⟨p2, 0, none⟩ = some (.int .i64 v)) :
    Calls Tryz.prog 115 #[.slice a ms.length cp, agFn p1 p2] w fun e w' => e = .returned (.bool (partB ms k y v)) ∧ Below w.heap.size w w' := by
  have HX := index_call ms p1 p2 k y v wk wy a cp w h l1 l2 h0 h1 h2
  clear h h0 h1 h2
  go_enter Tryz.func115, Tryz.ntmps115
  go_wp2_with fail
  refine HX.mono ?_
  rintro e w1 ⟨z, rfl, hz, hb1⟩
  have HZ : Hid (decide (0 ≤ z) = partB ms k y v ∧ Below w.heap.size w w1) := ⟨hz, hb1⟩
  clear hz hb1 HX
  go_wp2
  go_ret
  exact ⟨congrArg (fun b => Ending.returned (.bool b)) HZ.out.1, HZ.out.2⟩
end Go.Proofs.YteajcmkaoahbeaaGreatDoor
namespace Go.Proofs.YteajcmkaoahbeaaGreatDoor
open Go.RowKit

/-- What all have alike. -/
def agF (ms : List (Nat × Slots)) : Slots := fun k y => match ms with
  | [] => none
  | m :: _ => match m.2 k y with
    | some v => if partB ms k y v = true then none else some v
    | none => none
theorem agF_cons (m : Nat × Slots) (r : List (Nat × Slots)) {k y v : Int} (h : m.2 k y = some v) : agF (m :: r) k y = if partB (m :: r) k y v = true then none else some v := by
  unfold agF
  simp only [h]
theorem agF_none (m : Nat × Slots) (r : List (Nat × Slots)) {k y : Int} (h : m.2 k y = none) : agF (m :: r) k y = none := by
  unfold agF
  simp only [h]
/-- A map in the making: what has been looked at is done. -/
theorem inv_step {f F G h : Slots} {left : Lit → Bool} {k y : Int} {x : En} {u : Option Int} (hf : (f k y).isSome = true) (hx : x.kind = k ∧ x.key = y) (hu : u = F k y) (hwf : ∀ k' y' v, f k' y' = some v → (Lit.int .i64 k').wf = true ∧ (Lit.int .i64 y').wf = true)
    (hh : ∀ k' y', h k' y' = if (f k' y').isSome = true ∧ left (slotLit k' y') = false then F k' y' else G k' y') :
    ∀ k' y', upd h x u k' y' = if (f k' y').isSome = true ∧ (left (slotLit k' y') && !(slotLit k' y').sameKey (slotLit k y)) = false then F k' y' else G k' y' := by
  intro k' y'
  obtain ⟨v, hv⟩ := Option.isSome_iff_exists.1 hf
  have hw := hwf _ _ _ hv
  by_cases e : x.kind = k' ∧ x.key = y'
  · obtain ⟨rfl, rfl⟩ : k = k' ∧ y = y' := ⟨hx.1.symm.trans e.1, hx.2.symm.trans e.2⟩
    have self : (slotLit k y).sameKey (slotLit k y) = true := WideAt.sameKey_self (by trivial)
    rw [if_pos ⟨hf, by rw [self]; simp⟩, ← hu, ← e.1, ← e.2, upd_same]
  · rw [upd_other _ _ _ e, hh]
    by_cases hs : (f k' y').isSome = true
    · obtain ⟨v', hv'⟩ := Option.isSome_iff_exists.1 hs
      have hw' := hwf _ _ _ hv'
      have h3 : (slotLit k' y').sameKey (slotLit k y) = false := by
        cases c : (slotLit k' y').sameKey (slotLit k y)
        · rfl
        · obtain ⟨rfl, rfl⟩ := slotLit_inj hw'.1 hw'.2 hw.1 hw.2 (WideAt.sameKey_eq c)
          exact absurd hx e
      rw [h3]
      simp
    · rw [if_neg (fun c => hs c.1), if_neg (fun c => hs c.1)]
theorem inv_skip {f F G h : Slots} {left : Lit → Bool} {k y : Int} (hf : (f k y).isSome = true) (hu : G k y = F k y) (hl : left (slotLit k y) = true) (hwf : ∀ k' y' v, f k' y' = some v → (Lit.int .i64 k').wf = true ∧ (Lit.int .i64 y').wf = true)
    (hh : ∀ k' y', h k' y' = if (f k' y').isSome = true ∧ left (slotLit k' y') = false then F k' y' else G k' y') :
    ∀ k' y', h k' y' = if (f k' y').isSome = true ∧ (left (slotLit k' y') && !(slotLit k' y').sameKey (slotLit k y)) = false then F k' y' else G k' y' := by
  have h1 : h k y = F k y := by
    rw [hh, if_neg (fun c => by rw [hl] at c; cases c.2), hu]
  have h2 := inv_step (x := ⟨k, y, 0⟩) (u := F k y) hf ⟨rfl, rfl⟩ rfl hwf hh
  intro k' y'
  rw [← h2 k' y']
  by_cases e : k = k' ∧ y = y'
  · obtain ⟨rfl, rfl⟩ := e
    rw [h1]
    exact (upd_same h ⟨k, y, 0⟩ _).symm
  · exact (upd_other h ⟨k, y, 0⟩ _ e).symm
theorem grown_of {w W : World} (h : Below w.heap.size w W) : w.grownBy W none := ⟨h.os, h.tape, h.output, h.size, fun k hk _ => h.block k hk⟩
/-- What is there when some of the first one's keys have been looked at. -/
structure AInv (w : World) (f F : Slots) (Df : DataW Value) (b3 : Nat) (left : Lit → Bool) (cnt : Nat) (W : World) : Prop where
  map : ∃ h n, SMap W b3 n h ∧ n + cnt ≤ Maps.size Df ∧ ∀ k y, h k y = if (f k y).isSome = true ∧ left (slotLit k y) = false then F k y else none
  below : Below w.heap.size w W
def AgPost (w : World) (F : Slots) (e : Ending) (w' : World) : Prop := ∃ b n, e = .returned (.map (some b)) ∧ w.heap.size ≤ b ∧ n ≤ 10000 ∧ SMap w' b n F ∧ Below w.heap.size w w'
theorem smap_made (w : World) : SMap (w.alloc (.map #[] 0)) w.heap.size 0 (fun _ _ => none) := ⟨_, World.ownsMap_made w _ _ _, ⟨[], rfl⟩, fun _ _ _ => rfl, fun _ _ => by simp [Maps.has_eq], fun _ _ _ h => by cases h⟩
set_option maxHeartbeats 8000000 in
set_option maxRecDepth 100000 in
theorem agreed_impl (ms : List (Nat × Slots)) (a : Option Addr) (cp : Nat) (w : World) (h : MsAt w a ms) : Calls Tryz.prog 77 #[.slice a ms.length cp] w (AgPost w (agF ms)) := by
  have hmm : ∀ W : World, (Instr.makeMap 68 none).run Tryz.prog W = .ok (.map (some W.heap.size)) (W.alloc (.map #[] 0)) := fun _ => rfl
  have hl := h.len
  cases ms with
  | nil =>
    clear h hl
    go_enter Tryz.func77, Tryz.ntmps77
    go_wp2
    go_ret
    exact ⟨_, 0, rfl, Nat.le_refl _, Nat.zero_le _, smap_made w, (Below.refl _ _).alloc (Nat.le_refl _) _⟩
  | cons m r =>
    obtain ⟨b, off, rfl, hbb, hcell⟩ := h.row (by simp)
    have hc0 := hcell 0 (by simp)
    obtain ⟨n1, hn1, D1, hown1, hD1⟩ := h.each m List.mem_cons_self
    have HM : Hid (∀ W, Below w.heap.size w W → MsAt W (some ⟨b, off, none⟩) (m :: r)) := fun W hW => h.kept hW
    have H1 : Hid (w.ownsMap Tryz.prog 149 heldS m.1 n1 D1) := hown1
    have HD1 : Hid (MapIs D1 m.2) := hD1
    have HSZ : Hid (Maps.size D1 ≤ n1 ∧ n1 ≤ 10000) := ⟨hown1.size_le, hn1⟩
    have hb1l := hown1.lt
    have hc1 : w.cell? ⟨b, off, none⟩ = some (.map (some m.1)) := by simpa using hc0
    have hln : ((r.length : Int) + 1 == 0) = false := by simp; omega
    clear h hcell hc0 hown1 hD1 hn1
    go_enter Tryz.func77, Tryz.ntmps77
    go_wp2_with (at_range; refine wpList_range_own _ rfl _ 68 rfl 149 2 slot_keyed Tryz.underlying68 heldS m.1 n1 D1 rfl (H1.out.alloc _) ?_; intro w5 hrg5 hg5 hs5)
    go_frame
    have HI0 : Hid (AInv w m.2 (agF (m :: r)) D1 w.heap.size (Maps.has D1) (Maps.size D1) w5) := by
      refine ⟨⟨_, 0, (smap_made w).elim fun D hD => ⟨D, hD.1.kept hg5 (by simp), hD.2⟩, by omega, fun k y => ?_⟩, ((Below.refl _ _).alloc (Nat.le_refl _) _).grown hg5 (by simp) (fun k h => by cases h)⟩
      rw [if_neg]
      rintro ⟨c1, c2⟩
      obtain ⟨v, hv⟩ := Option.isSome_iff_exists.1 c1
      have hw := HD1.out.dom _ _ _ hv
      rw [HD1.out.has hw.1 hw.2, c1] at c2
      cases c2
    have hrw : w.heap.size < (w.alloc (.map #[] 0)).heap.size := by simp
    obtain ⟨rr, HR⟩ : ∃ rr, Hid (rr = (w.alloc (.map #[] 0)).heap.size) := ⟨_, (rfl : (w.alloc (.map #[] 0)).heap.size = _)⟩
    rw [← HR.out] at hrg5 ⊢
    rw [← HR.out] at hrw
    go_loopw [4, 5] (fun _ _ wr => ∃ (left : Lit → Bool) (cnt : Nat), wr.ranges Tryz.prog 149 heldS m.1 rr n1 D1 left cnt ∧ Hid (AInv w m.2 (agF (m :: r)) D1 w.heap.size left cnt wr)) (fun _ _ wr => wr.rangeLeft m.1 rr)
    case atStart => exact ⟨_, _, hrg5, HI0⟩
    case round =>
      clear HI0 hrg5 hg5 hs5 H1
      obtain ⟨left, cnt, hrg, HI⟩ := hrel
      go_wp2_with (at_next; refine wpList_next_M rfl _ rfl m.1 rr n1 D1 m.2 HD1.out _ _ rfl hrg ?_ ?_)
      · intro hcz hl0
        have HF : Hid (∃ n, n ≤ 10000 ∧ SMap wr w.heap.size n (agF (m :: r))) := by
          obtain ⟨h, n, hm, hnn, hh⟩ := HI.out.map
          have e : h = agF (m :: r) := by
            funext k y
            rw [hh]
            by_cases c : (m.2 k y).isSome = true
            · rw [if_pos ⟨c, hl0 _⟩]
            · rw [if_neg (fun q => c q.1)]
              have c2 : m.2 k y = none := by simpa using c
              rw [agF_none m r c2]
          rw [← e]
          exact ⟨n, by have := HSZ.out; omega, hm⟩
        clear hcz hl0 hrg
        go_wp2
        go_ret
        obtain ⟨n, hn, hm⟩ := HF.out
        exact ⟨_, n, rfl, Nat.le_refl _, hn, hm, HI.out.below⟩
      · intro k y v w1' cnt1 wk wy hlv hlk hrg1 hlt hg1 hs1 hen
        obtain ⟨h, n, ⟨D3, hown3, hD3⟩, hnn, hh⟩ := HI.out.map
        have hzr := HI.out.below.size
        have hb1w : Below w.heap.size w w1' := HI.out.below.grown hg1 hzr (fun q e => by cases e; omega)
        have HBA : Hid (Below w.heap.size w w1') := hb1w
        have HOA : Hid (∀ W, Below w1'.heap.size w1' W → W.ownsMap Tryz.prog 149 heldS w.heap.size n D3) := fun W hW => ownsMap_below' (hown3.kept hg1 (fun e => by cases e; omega)) hW
        have HRG : Hid (∀ W, Below w1'.heap.size w1' W → W.ranges Tryz.prog 149 heldS m.1 rr n1 D1 (fun z => left z && !z.sameKey (slotLit k y)) cnt1) := fun W hW => hrg1.kept (grown_of hW) (by simp) (by simp)
        have HKEY : Hid (keyOf Tryz.prog 149 (.agg #[.int .i64 k, .int .i64 y]) = some (slotLit k y)) := keyOf_slot wk wy
        have HXI : Hid ((Lit.int .i64 k).wf = true ∧ (Lit.int .i64 y).wf = true) := ⟨wk, wy⟩
        have HLE : Hid (wr.rangeLeft m.1 rr = cnt) := hrg.left_eq
        have HFK : Hid (m.2 k y = some v ∧ (m.2 k y).isSome = true ∧ left (slotLit k y) = true) := ⟨hlv, by rw [hlv]; rfl, hlk⟩
        have HHD : Hid (MapIs D3 h ∧ n + cnt ≤ Maps.size D1 ∧ ∀ k' y', h k' y' = if (m.2 k' y').isSome = true ∧ left (slotLit k' y') = false then agF (m :: r) k' y' else none) := ⟨hD3, hnn, hh⟩
        have hnl : n < maxLen := by have := HSZ.out; unfold maxLen; omega
        have hw1z : w.heap.size < w1'.heap.size := by have := hown3.lt; omega
        obtain ⟨W2, HW2⟩ : ∃ W2, Hid (W2 = (w1'.alloc (.cells #[.int .i64 k, .int .i64 y] 149)).alloc (.cells #[.int .i64 v] 2)) := ⟨_, (rfl : (w1'.alloc (.cells #[.int .i64 k, .int .i64 y] 149)).alloc (.cells #[.int .i64 v] 2) = _)⟩
        have HB2 : Hid (Below w1'.heap.size w1' W2 ∧ W2.heap[w1'.heap.size]? = some (.cells #[.int .i64 k, .int .i64 y] 149 (0, 0)) ∧ W2.heap[w1'.heap.size + 1]? = some (.cells #[.int .i64 v] 2 (0, 0))) := by
          rw [HW2.out]
          refine ⟨((Below.refl _ _).alloc (Nat.le_refl _) _).alloc (by simp) _, (Below.heap_alloc _ _ _ (by simp)).trans (MapKept.heap_alloc w1' _).1, ?_⟩
          have := (MapKept.heap_alloc (w1'.alloc (.cells #[.int .i64 k, .int .i64 y] 149)) (.cells #[.int .i64 v] 2)).1
          simpa using this
        have HCC := contains_call (m :: r) w1'.heap.size (w1'.heap.size + 1) k y v wk wy (some ⟨b, off, none⟩) cp W2 (HM.out _ (hb1w.trans (HB2.out.1.mono hb1w.size))) (Array.getElem?_eq_some_iff.1 HB2.out.2.1).1 (Array.getElem?_eq_some_iff.1 HB2.out.2.2).1 (cell_of_heap HB2.out.2.1) (cell_of_heap HB2.out.2.1) (cell_of_heap HB2.out.2.2)
        rw [HW2.out] at HCC
        clear hrg hrg1 hg1 hs1 hlv hlk wk wy hown3 hD3 hnn hh hb1w
        cases hp : partB (m :: r) k y v
        · rw [hp] at HCC
          go_wp2_with fail
          refine HCC.mono ?_
          rintro e w3 ⟨rfl, hb3⟩
          rw [← HW2.out] at hb3
          have HB3 : Hid (Below w1'.heap.size w1' w3 ∧ w3.heap[w1'.heap.size]? = some (.cells #[.int .i64 k, .int .i64 y] 149 (0, 0)) ∧ w3.heap[w1'.heap.size + 1]? = some (.cells #[.int .i64 v] 2 (0, 0))) := ⟨HB2.out.1.trans (hb3.mono HB2.out.1.size), (hb3.block _ (Array.getElem?_eq_some_iff.1 HB2.out.2.1).1).trans HB2.out.2.1, (hb3.block _ (Array.getElem?_eq_some_iff.1 HB2.out.2.2).1).trans HB2.out.2.2⟩
          have q0 : w3.cell? ⟨w1'.heap.size, 0, none⟩ = some (.int .i64 k) := cell_of_heap HB3.out.2.1
          have q1 : w3.cell? ⟨w1'.heap.size, 1, none⟩ = some (.int .i64 y) := cell_of_heap HB3.out.2.1
          have q2 : w3.cell? ⟨w1'.heap.size + 1, 0, none⟩ = some (.int .i64 v) := cell_of_heap HB3.out.2.2
          have HO3 : Hid (w3.ownsMap Tryz.prog 149 heldS w.heap.size n D3) := HOA.out _ HB3.out.1
          have HPU : Hid (MapIs (D3.put (slotLit k y) (.held (.int .i64 v))) (upd h ⟨k, y, v⟩ (some v)) ∧ ∀ k' y', upd h ⟨k, y, v⟩ (some v) k' y' = if (m.2 k' y').isSome = true ∧ (left (slotLit k' y') && !(slotLit k' y').sameKey (slotLit k y)) = false then agF (m :: r) k' y' else none) := ⟨HHD.out.1.put (x := ⟨k, y, v⟩) HXI.out, inv_step (x := ⟨k, y, v⟩) (G := fun _ _ => none) HFK.out.2.1 ⟨rfl, rfl⟩ (by rw [agF_cons m r HFK.out.1, hp]; rfl) HD1.out.dom HHD.out.2.2⟩
          have HW3 : Hid (Below w.heap.size w w3) := HBA.out.trans (HB3.out.1.mono HBA.out.size)
          clear hb3 HCC
          go_wp2_with (at_mapUpdate; refine wpList_mapUpdate_own _ rfl _ _ _ 68 rfl 149 2 slot_keyed Tryz.underlying68 heldS w.heap.size n D3 rfl HO3.out hnl _ _ _ rfl rfl HKEY.out (.held (.int .i64 v)) [] rfl ?_; intro w4 ho4 hg4; have H4 : Hid (AInv w m.2 (agF (m :: r)) D1 w.heap.size (fun z => left z && !z.sameKey (slotLit k y)) cnt1 w4 ∧ w4.ranges Tryz.prog 149 heldS m.1 rr n1 D1 (fun z => left z && !z.sameKey (slotLit k y)) cnt1) := ⟨⟨⟨upd h ⟨k, y, v⟩ (some v), n + 1, ⟨_, ho4, HPU.out.1⟩, (by have := HHD.out.2.1; omega), HPU.out.2⟩, HW3.out.grown hg4 HW3.out.size (fun q e => by cases e; exact Nat.le_refl _)⟩, (HRG.out _ HB3.out.1).kept hg4 (by simp; omega) (by simp; omega)⟩; clear ho4 hg4; go_frame)
          go_roundw
          case rel => exact ⟨_, _, H4.out.2, H4.out.1⟩
          case measure => rw [H4.out.2.left_eq, HLE.out]; exact hlt
        · rw [hp] at HCC
          have HU : Hid (none = agF (m :: r) k y) := by rw [Hid, agF_cons m r HFK.out.1, hp]; rfl
          go_wp2_with fail
          refine HCC.mono ?_
          rintro e w3 ⟨rfl, hb3⟩
          rw [← HW2.out] at hb3
          have HB3 : Hid (Below w1'.heap.size w1' w3) := HB2.out.1.trans (hb3.mono HB2.out.1.size)
          have H4 : Hid (AInv w m.2 (agF (m :: r)) D1 w.heap.size (fun z => left z && !z.sameKey (slotLit k y)) cnt1 w3 ∧ w3.ranges Tryz.prog 149 heldS m.1 rr n1 D1 (fun z => left z && !z.sameKey (slotLit k y)) cnt1) := ⟨⟨⟨h, n, ⟨D3, HOA.out _ HB3.out, HHD.out.1⟩, (by have := HHD.out.2.1; omega), inv_skip (G := fun _ _ => none) HFK.out.2.1 HU.out HFK.out.2.2 HD1.out.dom HHD.out.2.2⟩, HBA.out.trans (HB3.out.mono HBA.out.size)⟩, HRG.out _ HB3.out⟩
          clear hb3 HCC
          go_wp2
          go_roundw
          case rel => exact ⟨_, _, H4.out.2, H4.out.1⟩
          case measure => rw [H4.out.2.left_eq, HLE.out]; exact hlt
end Go.Proofs.YteajcmkaoahbeaaGreatDoor
