/- The program's keys of a map in order. -/
import Derived.Test.YtjdkenopfnepaaaSuMap
import Derived.Test.YtjdkenopfnepaaaSuSort
import Derived.Test.YtjdkenopfnepaaaSuRow
namespace Go.Proofs.Ytjdkenopfnepaaa
open Go.RowKit

def kcs (ks : List (Int × Int)) : List Value := ks.flatMap slotVs
theorem kcs_append (xs ys : List (Int × Int)) : kcs (xs ++ ys) = kcs xs ++ kcs ys := by simp [kcs]
theorem kcs_len : ∀ xs : List (Int × Int), (kcs xs).length = xs.length * 2
  | [] => rfl
  | x :: xs => by
    have := kcs_len xs
    simp only [kcs, List.flatMap_cons, List.length_append, List.length_cons] at this ⊢
    simp only [slotVs, List.length_cons, List.length_nil]
    omega
theorem kcs_get : ∀ {xs : List (Int × Int)} {i : Nat} (h : i < xs.length) {j : Nat}, j < 2 → (kcs xs)[i * 2 + j]? = (slotVs xs[i])[j]?
  | x :: xs, 0, _, j, hj => by
    simp only [kcs, List.flatMap_cons, Nat.zero_mul, Nat.zero_add, List.getElem_cons_zero]
    rw [List.getElem?_append_left (by simpa [slotVs] using hj)]
  | x :: xs, i + 1, h, j, hj => by
    have ih := kcs_get (xs := xs) (i := i) (by simpa using h) hj
    simp only [kcs, List.flatMap_cons, List.getElem_cons_succ] at ih ⊢
    rw [List.getElem?_append_right (by simp [slotVs]; omega), ← ih]
    congr 1
    simp [slotVs]
    omega
theorem slots_own {w : World} {base : Nat} {v : Value} {ks : List (Int × Int)} (h : w.ownsRow base 114 2 v ks.length (kcs ks)) (hn : v ≠ .slice none 0 0) : ∃ g c, v = .slice (some ⟨g, 0, none⟩) ks.length c ∧ ks.length ≤ c ∧ base ≤ g ∧ g < w.heap.size ∧ SlotsIn w g ks ∧ ∀ q, w.frozen? ⟨g, q, none⟩ = false := by
  rcases h.2 with ⟨h1, _⟩ | ⟨g, cap, cur, rfl, hb, hg, hle, _, hsz, ht⟩
  · exact absurd h1 hn
  · refine ⟨g, cap, rfl, hle, hb, (Array.getElem?_eq_some_iff.1 hg).1, fun i hi j hj => ?_, fun q => frozen_of_heap hg⟩
    rw [cell_of_heap hg, ← kcs_get hi hj, ← ht, List.getElem?_take_of_lt (by omega), Array.getElem?_toList]
theorem own_ne {w : World} {base size n0 b r n cnt : Nat} {e k : TypeId} {v : Value} {xs : List Value} {P : Program} {R : Value → Option (DataW Value × List MemPlace)} {D : DataW Value} {left : Lit → Bool} (h : w.ranges P k R b r n D left cnt) (ho : w.ownsRow base e size v n0 xs) : some b ≠ v.ownBlock ∧ some r ≠ v.ownBlock := by
  obtain ⟨es, clock, since, seen, c0, hb, _, _, _, hr, _⟩ := h
  rcases ho.2 with ⟨rfl, _⟩ | ⟨g, cap, cur, rfl, _, hg, _⟩
  · exact ⟨fun e => (by cases e), fun e => (by cases e)⟩
  · refine ⟨fun e => ?_, fun e => ?_⟩
    · have e2 : b = g := by simpa [Value.ownBlock] using e
      rw [e2, hg] at hb
      cases hb
    · have e2 : r = g := by simpa [Value.ownBlock] using e
      rw [e2, hg] at hr
      cases hr
theorem own_below {w w' : World} {base size n : Nat} {e : TypeId} {v : Value} {xs : List Value} (h : w.ownsRow base e size v n xs) (hg : w.grownBy w' v.ownBlock) (hbase : base ≤ w.heap.size) : Below base w w' := by
  refine ⟨hg.os, hg.tape, hg.output, hg.size, fun k hk => hg.block k (by omega) ?_⟩
  rcases h.2 with ⟨rfl, _⟩ | ⟨g, cap, cur, rfl, hb, _⟩
  · exact fun e => by cases e
  · intro e
    have e2 : k = g := by simpa [Value.ownBlock] using e
    omega
theorem own_but {w w' : World} {base size n r : Nat} {e : TypeId} {v : Value} {xs : List Value} (h : w.ownsRow base e size v n xs) (hg : w.grownBy w' (some r)) (hne : some r ≠ v.ownBlock) : w'.ownsRow base e size v n xs := by
  refine ⟨h.1, ?_⟩
  rcases h.2 with h0 | ⟨g, cap, cur, h1, h2, h3, r'⟩
  · exact .inl h0
  · refine .inr ⟨g, cap, cur, h1, h2, (hg.block g (Array.getElem?_eq_some_iff.1 h3).1 (fun e => hne ?_)).trans h3, r'⟩
    rw [h1]
    exact e.symm
theorem own_alloc {w : World} {base size n : Nat} {e : TypeId} {v : Value} {xs : List Value} (h : w.ownsRow base e size v n xs) (o : Obj) : (w.alloc o).ownsRow base e size v n xs := by
  refine ⟨h.1, ?_⟩
  rcases h.2 with h0 | ⟨g, cap, cur, h1, h2, h3, r'⟩
  · exact .inl h0
  · exact .inr ⟨g, cap, cur, h1, h2, (Below.heap_alloc _ _ _ (Array.getElem?_eq_some_iff.1 h3).1).trans h3, r'⟩
theorem cells_at {w : World} {b : Nat} {vs : List Value} {t : TypeId} (h : w.heap[b]? = some (.cells vs.toArray t (0, 0))) : ∀ j u, vs[j]? = some u → w.cell? ((⟨b, 0, none⟩ : Addr).add j) = some u := fun j u hj => by
  rw [Addr.add_lit, cell_of_heap h, Nat.zero_add, List.getElem?_toArray]
  exact hj
/-- What holds when some of the keys have come. -/
structure KInv (w : World) (f : Slots) (D : DataW Value) (left : Lit → Bool) (cnt : Nat) (ks : List (Int × Int)) (V : Value) (W : World) : Prop where
  row : W.ownsRow w.heap.size 114 2 V ks.length (kcs ks)
  nn : V ≠ .slice none 0 0
  nd : ks.Nodup
  mem : ∀ k y, (k, y) ∈ ks ↔ (f k y).isSome = true ∧ left (slotLit k y) = false
  cost : ks.length + cnt ≤ Maps.size D
  below : Below w.heap.size w W
theorem KInv.next {w : World} {f : Slots} {D : DataW Value} {left : Lit → Bool} {cnt cnt' : Nat} {ks : List (Int × Int)} {V V' : Value} {W W' : World} (h : KInv w f D left cnt ks V W) (hD : MapIs D f) {k y v : Int} (hk : (Lit.int .i64 k).wf = true) (hy : (Lit.int .i64 y).wf = true) (hf : f k y = some v) (hl : left (slotLit k y) = true) (hc : cnt' < cnt)
    (hrow : W'.ownsRow w.heap.size 114 2 V' (ks.length + 1) (kcs ks ++ kcs [(k, y)])) (hnn : V' ≠ .slice none 0 0) (hb : Below w.heap.size w W') : KInv w f D (fun z => left z && !z.sameKey (slotLit k y)) cnt' (ks ++ [(k, y)]) V' W' := by
  have hno : (k, y) ∉ ks := fun hm => by
    have := ((h.mem k y).1 hm).2
    rw [hl] at this
    cases this
  refine ⟨by rw [kcs_append, List.length_append]; exact hrow, hnn, ?_, fun k' y' => ?_, ?_, hb⟩
  · exact List.nodup_append.2 ⟨h.nd, by simp, fun a ha b hb e => by
      have : b = (k, y) := by simpa using hb
      rw [e, this] at ha
      exact hno ha⟩
  · have self : (slotLit k y).sameKey (slotLit k y) = true := WideAt.sameKey_self (by trivial)
    rw [List.mem_append, h.mem]
    by_cases e : k' = k ∧ y' = y
    · obtain ⟨rfl, rfl⟩ := e
      simp [hf, self]
    · have hne : ¬ (k', y') = (k, y) := fun c => e (by simpa using c)
      constructor
      · rintro (h1 | h1)
        · exact ⟨h1.1, by simp [h1.2]⟩
        · exact absurd (by simpa using h1) e
      · rintro ⟨h1, h2⟩
        refine .inl ⟨h1, ?_⟩
        obtain ⟨v', hv'⟩ := Option.isSome_iff_exists.1 h1
        have hw := hD.dom _ _ _ hv'
        have h3 : (slotLit k' y').sameKey (slotLit k y) = false := by
          cases c : (slotLit k' y').sameKey (slotLit k y)
          · rfl
          · exact absurd (slotLit_inj hw.1 hw.2 hk hy (WideAt.sameKey_eq c)) e
        rw [h3] at h2
        simpa using h2
  · have := h.cost
    simp
    omega
/-- 'append(v, at)'. -/
theorem wpList_append_slot {w : World} {ops : Array Oper} {rest : List Oper} {o : Oper} {a : Act} {Q : Exit → Act → World → Prop} (hgd : o.guard = none) (s x : Operand) (t : TypeId)
    (ho : o.op = .call { callee := .builtin .append, args := #[s, x], argTypes := #[t, t] })
    (i : TypeInfo) (z : Value) (ht : Try.prog.underlying t = some (.slice 114)) (hi : Try.prog.info? 114 = some i) (hz : i.zero = some z)
    (hsize : i.size = 2) (hby : i.bytes = 16) (hzs : z.cells.size = 2)
    (base : Nat) (v : Value) (ks : List (Int × Int)) (hs : a.eval s = v) (hown : w.ownsRow base 114 2 v ks.length (kcs ks))
    (b : Nat) (k y : Int) (t2 : TypeId) (hx : a.eval x = .slice (some ⟨b, 0, none⟩) 1 1) (hc : w.heap[b]? = some (.cells #[.int .i64 k, .int .i64 y] t2 (0, 0)))
    (hb : ks.length ≤ 1000000) (hbase : base ≤ w.heap.size)
    (h : ∀ v' w', w'.ownsRow base 114 2 v' (ks.length + 1) (kcs ks ++ kcs [(k, y)]) → w.grownBy w' v.ownBlock → v' ≠ .slice none 0 0 → wpList Try.prog ops Q rest (a.put o.dst v') w') : wpList Try.prog ops Q (o :: rest) a w := by
  refine wpList_append_own w hgd s x t ho base _ i z 2 16 ht hi hz hsize hby hzs (by decide) v ks.length (kcs ks) hs hown ⟨b, 0, none⟩ 1 1 (kcs [(k, y)]) hx rfl (cells_at (vs := kcs [(k, y)]) hc) (fun u hu => ?_) (by unfold maxLen; omega) (by omega) hbase (fun v' w' h1 h2 h3 => h v' w' h1 h2 (fun e => ?_))
  · simp [kcs, slotVs] at hu
    rcases hu with rfl | rfl <;> rfl
  · have := (h3.1 e).2
    cases this
theorem Try.infoSlot : (Try.prog.info? 114).map (fun i => (i.zero, i.size, i.bytes)) = some (some (.agg #[.int .i64 0, .int .i64 0]), 2, 16) := by kernel_rfl
def KeysPost (w : World) (f : Slots) (n : Nat) (e : Ending) (w' : World) : Prop := ∃ g c ks, e = .returned (.slice (some ⟨g, 0, none⟩) ks.length c) ∧ ks.length ≤ n ∧ g < w'.heap.size ∧ SlotsIn w' g ks ∧ Ordered ks ∧ (∀ k y, (k, y) ∈ ks ↔ (f k y).isSome = true) ∧ Below w.heap.size w w'
set_option maxHeartbeats 4000000 in
set_option maxRecDepth 100000 in
theorem keys_impl (f : Slots) (b n : Nat) (w : World) (h : SMap w b n f) (hn : n ≤ 100000) :
    Calls Try.prog 115 #[.map (some b), .func (.func 116) #[] #[]] w (KeysPost w f n) := by
  obtain ⟨i0, hi, hz0, hz1, hz2⟩ := info_parts Try.infoSlot
  obtain ⟨D, hown, hD⟩ := h
  have H : Hid (w.ownsMap Try.prog 114 heldS b n D) := hown
  have HD : Hid (MapIs D f) := hD
  obtain ⟨m, HM⟩ : ∃ m, Hid (m = Maps.size D) := ⟨Maps.size D, (rfl : Maps.size D = _)⟩
  have hmn : m ≤ n := by rw [HM.out]; exact hown.size_le
  have hbl := hown.lt
  clear hown hD
  go_enter Try.func115, Try.ntmps115
  go_wp2_with (first
    | (at_len; refine wpList_len_own _ rfl _ 102 rfl 114 2 Try.underlying102 heldS b n D rfl H.out ?_; rw [← HM.out])
    | (at_make; refine wpList_make_own _ rfl _ _ 152 rfl w.heap.size 114 i0 _ 2 Try.underlying152 hi hz0 hz1 .i64 .i64 _ m rfl rfl rfl (by rw [hz2]; omega) (by unfold maxLen; omega) (Nat.le_refl _) ?_; intro w1 hown1 hg1; have HO1 : Hid (w1.ownsRow w.heap.size 114 2 (.slice (some ⟨w.heap.size, 0, none⟩) 0 m) 0 []) := hown1; have HG1 : Hid (w.grownBy w1 none) := hg1; clear hown1 hg1)
    | (at_range; refine wpList_range_own _ rfl _ 102 rfl 114 2 slot_keyed Try.underlying102 heldS b n D rfl (H.out.kept HG1.out (by simp)) ?_; intro w5 hrg5 hg5 hs5))
  go_frame
  have HK0 : Hid (KInv w f D (Maps.has D) (Maps.size D) [] (.slice (some ⟨w.heap.size, 0, none⟩) 0 m) w5) := by
    refine ⟨?_, by simp, List.nodup_nil, fun k y => ?_, by simp, ?_⟩
    · have h1 := HO1.out
      rcases h1.2 with ⟨h2, _⟩ | ⟨g, cap, cur, h2, h3, h4, r⟩
      · cases h2
      · exact ⟨rfl, .inr ⟨g, cap, cur, h2, h3, (hg5.block g (Array.getElem?_eq_some_iff.1 h4).1 (by simp)).trans h4, r⟩⟩
    · constructor
      · intro h; cases h
      · rintro ⟨h1, h2⟩
        obtain ⟨v, hv⟩ := Option.isSome_iff_exists.1 h1
        have hw := HD.out.dom _ _ _ hv
        rw [HD.out.has hw.1 hw.2, h1] at h2
        cases h2
    · exact ((Below.refl _ _).grown HG1.out (Nat.le_refl _) (fun k h => by cases h)).grown hg5 (HG1.out.size) (fun k h => by cases h)
  have hr1 : w.heap.size ≤ w1.heap.size := HG1.out.size
  obtain ⟨r, HR⟩ : ∃ r, Hid (r = w1.heap.size) := ⟨w1.heap.size, (rfl : w1.heap.size = _)⟩
  rw [← HR.out] at hrg5 ⊢
  rw [← HR.out] at hr1
  go_loopw [5, 6] (fun v _ wr => ∃ (left : Lit → Bool) (cnt : Nat) (ks : List (Int × Int)) (V : Value), V = v ∧ wr.ranges Try.prog 114 heldS b r n D left cnt ∧ Hid (KInv w f D left cnt ks V wr)) (fun _ _ wr => wr.rangeLeft b r)
  case atStart => exact ⟨_, _, _, _, rfl, hrg5, HK0⟩
  case round =>
    clear HK0 hrg5 hg5 hs5 HO1 HG1
    obtain ⟨left, cnt, ks, V, rfl, hrg, HI⟩ := hrel
    go_wp2_with (at_next; refine wpList_next_M rfl _ rfl b r n D f HD.out _ _ rfl hrg ?_ ?_)
    · intro hc0 hl0
      obtain ⟨g, c, hV, hgc, hwg, hgw, hsl, hfr⟩ := slots_own HI.out.row HI.out.nn
      have hcst := HI.out.cost
      rw [← HM.out] at hcst
      have HST := sort_slots ks HI.out.nd g c wr hsl hfr hgw (by omega)
      have HME : Hid (∀ k y, (k, y) ∈ ks ↔ (f k y).isSome = true) := fun k y => (HI.out.mem k y).trans ⟨fun h => h.1, fun h => ⟨h, hl0 _⟩⟩
      have HBW : Hid (Below w.heap.size w wr) := HI.out.below
      subst hV
      clear hc0 hl0 hrg hsl hfr HI
      go_wp2_with fail
      refine HST.mono ?_
      rintro e w6 ⟨rfl, ks', hlen, hord, hmem, hsl6, hb6⟩
      have HB6 : Hid (Below w.heap.size w w6) := HBW.out.trans (hb6 w.heap.size hwg HBW.out.size)
      have hg6 : g < w6.heap.size := Nat.lt_of_lt_of_le hgw (hb6 w.heap.size hwg HBW.out.size).size
      have HS6 : Hid (SlotsIn w6 g ks' ∧ Ordered ks' ∧ (∀ k y, (k, y) ∈ ks' ↔ (f k y).isSome = true)) := ⟨hsl6, hord, fun k y => (hmem _).trans (HME.out k y)⟩
      have HLL : Hid (ks'.length = ks.length) := hlen
      clear hlen hord hmem hsl6 hb6 HST
      go_wp2
      go_ret
      exact ⟨g, c, ks', by rw [HLL.out]; rfl, by rw [HLL.out]; omega, hg6, HS6.out.1, HS6.out.2.1, HS6.out.2.2, HB6.out⟩
    · intro k y v w1' cnt1 wk wy hlv hlk hrg1 hlt hg1 hs1 hen
      have hne := own_ne hrg HI.out.row
      have HNE : Hid (some b ≠ V.ownBlock ∧ some r ≠ V.ownBlock) := hne
      have HLE := hrg.left_eq
      have hwr := HI.out.below.size
      have HB1 : Hid (Below w.heap.size w w1') := HI.out.below.grown hg1 hwr (fun q e => by cases e; exact hr1)
      have HRW : Hid (∀ o1 o2, ((w1'.alloc o1).alloc o2).ownsRow w.heap.size 114 2 V ks.length (kcs ks)) := fun o1 o2 => own_alloc (own_alloc (own_but HI.out.row hg1 hne.2) o1) o2
      have HB2 : Hid (∀ o1 o2, Below w.heap.size w ((w1'.alloc o1).alloc o2)) := fun o1 o2 => (HB1.out.alloc HB1.out.size o1).alloc (by have := HB1.out.size; simp; omega) o2
      have HRG : Hid (∀ o1 o2, ((w1'.alloc o1).alloc o2).ranges Try.prog 114 heldS b r n D (fun z => left z && !z.sameKey (slotLit k y)) cnt1) := fun o1 o2 => (hrg1.alloc o1).alloc o2
      have HNX : Hid (f k y = some v ∧ left (slotLit k y) = true ∧ (Lit.int .i64 k).wf = true ∧ (Lit.int .i64 y).wf = true ∧ wr.rangeLeft b r = cnt) := ⟨hlv, hlk, wk, wy, HLE⟩
      have hks : ks.length ≤ 100000 := by have := HI.out.cost; rw [← HM.out] at this; omega
      have hzw := HB1.out.size
      clear hrg hrg1 hg1 hs1 hlv hlk wk wy HLE hne
      go_wp2_with (at_builtin; refine wpList_append_slot rfl _ _ 152 rfl i0 _ Try.underlying152 hi hz0 hz1 hz2 rfl w.heap.size _ ks rfl (HRW.out _ _) _ k y _ rfl (new_blockC _ _ _ (by simp)) (by omega) (by simp; omega) ?_; intro V2 w2 hO2 hg2 hn2; have H2 : Hid (KInv w f D (fun z => left z && !z.sameKey (slotLit k y)) cnt1 (ks ++ [(k, y)]) V2 w2 ∧ w2.ranges Try.prog 114 heldS b r n D (fun z => left z && !z.sameKey (slotLit k y)) cnt1) := ⟨HI.out.next HD.out HNX.out.2.2.1 HNX.out.2.2.2.1 HNX.out.1 HNX.out.2.1 hlt hO2 hn2 ((HB2.out _ _).trans (own_below (HRW.out _ _) hg2 (HB2.out _ _).size)), (HRG.out _ _).kept hg2 HNE.out.1 HNE.out.2⟩; clear hO2 hg2 hn2)
      go_roundw
      case rel => exact ⟨_, _, _, _, rfl, H2.out.2, H2.out.1⟩
      case measure => rw [H2.out.2.left_eq, HNX.out.2.2.2.2]; exact hlt
end Go.Proofs.Ytjdkenopfnepaaa
