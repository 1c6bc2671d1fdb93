/- Kinds and keys put in order: slices.SortFunc at them. -/
import Derived.Test.YtjdkenopfnepaaaSuPlain
import Derived.Test.YtjdkenopfnepaaaSuLay
namespace Go.Proofs.Ytjdkenopfnepaaa
open Go.Shelf Go.RowKit Go.Lib Go.Sort

/-- A kind and a key. -/
def slotVs (p : Int × Int) : List Value := [.int .i64 p.1, .int .i64 p.2]
def slotE (p : Int × Int) : En := ⟨p.1, p.2, 0⟩
def cmpP (x y : Int × Int) : Int := cmpS (slotE x) (slotE y)
def lessP (x y : Int × Int) : Bool := lessB (slotE x) (slotE y)
theorem ltOf_cmpP (x y : Int × Int) : ltOf cmpP x y = lessP x y := by
  have h := cmpS_less (slotE x) (slotE y)
  unfold ltOf cmpP lessP
  cases c : lessB (slotE x) (slotE y)
  · rw [c] at h
    have h2 : (0 : Int) ≤ cmpS (slotE x) (slotE y) := by simpa using h
    exact decide_eq_false (by omega)
  · rw [c] at h
    have h2 : ¬ (0 : Int) ≤ cmpS (slotE x) (slotE y) := by simpa using h
    exact decide_eq_true (by omega)
theorem lessP_iff {x y : Int × Int} : lessP x y = true ↔ x.1 < y.1 ∨ (x.1 = y.1 ∧ x.2 < y.2) := lessB_iff
theorem swoP : SWO (ltOf cmpP) where
  irrefl x := by
    rw [ltOf_cmpP]
    cases c : lessP x x
    · rfl
    · have := lessP_iff.1 c
      omega
  trans x y z h1 h2 := by
    rw [ltOf_cmpP] at *
    have h3 := lessP_iff.1 h1
    have h4 := lessP_iff.1 h2
    exact lessP_iff.2 (by omega)
  ntrans x y z h1 h2 := by
    rw [ltOf_cmpP] at *
    cases c : lessP x z
    · rfl
    · have h3 := lessP_iff.1 c
      have h4 : ¬ (x.1 < y.1 ∨ (x.1 = y.1 ∧ x.2 < y.2)) := fun e => by rw [lessP_iff.2 e] at h1; cases h1
      have h5 : ¬ (y.1 < z.1 ∨ (y.1 = z.1 ∧ y.2 < z.2)) := fun e => by rw [lessP_iff.2 e] at h2; cases h2
      omega
theorem grow3 (w : World) (a b c : Obj) : ∃ q os', (((w.alloc a).alloc b).drew).alloc c = grow (w.drewN q) os' := by
  refine ⟨1, #[a] ++ #[b] ++ #[c], ?_⟩
  rw [alloc_eq_grow, alloc_eq_grow, alloc_eq_grow]
  show grow (grow (grow (w.drewN 1) #[a]) #[b]) #[c] = _
  rw [grow_grow, grow_grow, Array.append_assoc]
set_option maxHeartbeats 2000000 in
set_option maxRecDepth 100000 in
theorem slots_grow (x y : En) (w : World) : Calls Try.prog 116 #[.agg #[.int .i64 x.kind, .int .i64 x.key], .agg #[.int .i64 y.kind, .int .i64 y.key]] w fun e w' => e = .returned (.int .i64 (cmpS x y)) ∧ ∃ q os', w' = grow (w.drewN q) os' := by
  have HB : Hid (∀ o1 o2 o3, ∃ q os', (((w.alloc o1).alloc o2).drew).alloc o3 = grow (w.drewN q) os') := fun o1 o2 o3 => grow3 w o1 o2 o3
  have HS : Hid ((if cmpI x.kind y.kind = 0 then cmpI x.key y.key else cmpI x.kind y.kind) = cmpS x y) := rfl
  go_enter Try.func116, Try.ntmps116
  go_wp2
  go_region_held3 (fun W => W.cell? ⟨w.heap.size, 0, none⟩ = some (.int .i64 x.kind) ∧ W.cell? ⟨w.heap.size, 1, none⟩ = some (.int .i64 x.key) ∧ W.cell? ⟨w.heap.size + 1, 0, none⟩ = some (.int .i64 y.kind) ∧ W.cell? ⟨w.heap.size + 1, 1, none⟩ = some (.int .i64 y.key)) (simp [go_sem, *]) (first
    | (go_at_call_of 134 (Value.int .i64 x.kind); refine (compare_impl x.kind y.kind _).mono ?_; rintro e w1 ⟨rfl, rfl⟩)
    | (go_at_call_of 134 (Value.int .i64 x.key); refine (compare_impl x.key y.key _).mono ?_; rintro e w2 ⟨rfl, rfl⟩)
    | (go_at_call 133; refine (or_impl (cmpI x.kind y.kind) (cmpI x.key y.key) (w.heap.size + 1 + 1) _ (by simp [go_sem]) (by simp [go_sem])).mono ?_; rintro e w3 ⟨rfl, rfl⟩; rw [HS.out]))
  all_goals go_wp2
  all_goals go_ret
  all_goals exact ⟨rfl, HB.out _ _ _⟩
/-- Kinds and keys in a row. -/
def SlotsIn (w : World) (b : Nat) (ks : List (Int × Int)) : Prop := ∀ i (h : i < ks.length) j, j < 2 → w.cell? ⟨b, i * 2 + j, none⟩ = (slotVs ks[i])[j]?
theorem holds_slots {w : World} {b : Nat} {ks : List (Int × Int)} (h : SlotsIn w b ks) (hf : ∀ q, w.frozen? ⟨b, q, none⟩ = false) : HoldsK slotVs 2 w b 0 ks.toArray := by
  intro t ht
  rw [size_flatK] at ht
  have ht' : t < ks.length * 2 := by simpa using ht
  rw [get_flatK _ _ _ _ ht, Nat.zero_add]
  refine ⟨?_, hf t⟩
  have hi : t / 2 < ks.length := by omega
  have e : t = t / 2 * 2 + t % 2 := by omega
  have h1 := h (t / 2) hi (t % 2) (by omega)
  rw [← e] at h1
  rw [h1, getElem!_pos ks.toArray (t / 2) (by simpa using hi)]
  have h2 : t % 2 < (slotVs ks.toArray[t / 2]).length := by simp [slotVs]; omega
  simp only [List.getElem_toArray] at h2 ⊢
  rw [List.getElem!_eq_getElem?_getD, List.getElem?_eq_getElem h2]
  rfl
theorem slots_holds {w : World} {b : Nat} {d : Array (Int × Int)} (h : HoldsK slotVs 2 w b 0 d) : SlotsIn w b d.toList := by
  intro i hi j hj
  have hi' : i < d.size := by simpa using hi
  have h1 := (h.cell hi' hj).1
  rw [Nat.zero_add, getElem!_pos d i hi'] at h1
  rw [h1]
  have h2 : j < (slotVs d[i]).length := by simp [slotVs]; omega
  simp only [Array.getElem_toList]
  rw [List.getElem!_eq_getElem?_getD, List.getElem?_eq_getElem h2]
  rfl
theorem sortWorld_other {w : World} {b n : Nat} {d : Array (Int × Int)} {os : Array Obj} : (sortWorldK slotVs 2 w b 0 n d os).os = w.os ∧ (sortWorldK slotVs 2 w b 0 n d os).tape = w.tape ∧ (sortWorldK slotVs 2 w b 0 n d os).output = w.output ∧ w.heap.size ≤ (sortWorldK slotVs 2 w b 0 n d os).heap.size ∧ ∀ k, k < w.heap.size → k ≠ b → (sortWorldK slotVs 2 w b 0 n d os).heap[k]? = w.heap[k]? := by
  refine ⟨rfl, rfl, rfl, ?_, fun k hk hne => ?_⟩
  · show w.heap.size ≤ ((w.heap.modify b _) ++ os).size
    simp
  · show ((w.heap.modify b _) ++ os)[k]? = w.heap[k]?
    rw [Array.getElem?_append_left (by simpa using hk), Array.getElem?_modify, if_neg (fun e => hne e.symm)]
/-- In order, and each once. -/
def Ordered (ks : List (Int × Int)) : Prop := ks.Pairwise fun a b => lessP a b = true
set_option maxRecDepth 100000 in
theorem Try.isAggSlot (w : World) : (isAgg 114).run Try.prog w = .ok true w := by kernel_rfl
set_option maxRecDepth 100000 in
theorem Try.sizeSlot (w : World) : (Go.sizeOf 114).run Try.prog w = .ok 2 w := by kernel_rfl
theorem sort_slots (ks : List (Int × Int)) (hd : ks.Nodup) (b cap : Nat) (w : World) (h : SlotsIn w b ks) (hf : ∀ q, w.frozen? ⟨b, q, none⟩ = false) (hb : b < w.heap.size) (hl : ks.length ≤ 1000000) :
    Calls Try.prog 132 #[.slice (some ⟨b, 0, none⟩) ks.length cap, .func (.func 116) #[] #[]] w fun e w' => e = .returned (.tuple #[]) ∧ ∃ ks', ks'.length = ks.length ∧ Ordered ks' ∧ (∀ p, p ∈ ks' ↔ p ∈ ks) ∧ SlotsIn w' b ks' ∧ (∀ m, m ≤ b → m ≤ w.heap.size → Go.RowKit.Below m w w') := by
  have eg : ∀ args w, (callFunc 116 args).run Try.prog w = .ok (.enter 116 args) w := enters_of Try.func116 (by kernel_rfl) rfl
  have hH := holds_slots h hf
  have hcon := AnyQ.slices_SortFunc Try.sortSlot 2 Try.isAggSlot Try.sizeSlot slotVs (fun _ => rfl) (fun x v hv => by simp [slotVs] at hv; rcases hv with rfl | rfl <;> rfl) cmpP swoP 116 #[] b 0 cap ks.toArray w eg (fun _ _ _ _ x y => slots_grow (slotE x) (slotE y) _) hH hb (by simp; omega)
  change Calls Try.prog 132 _ _ _ at hcon
  rw [List.size_toArray] at hcon
  refine hcon.mono ?_
  rintro e w' ⟨rfl, d', n, os, hp, hs, rfl⟩
  have hsz : d'.size = ks.length := by simpa using hp.1
  have hperm : d'.toList.Perm ks := by
    have h1 := hp.2.2
    have e1 : d'.extract 0 ks.length = d' := by rw [← hsz]; simp
    have e2 : ks.toArray.extract 0 ks.length = ks.toArray := by simp
    rw [e1, e2] at h1
    simpa using h1
  refine ⟨rfl, d'.toList, by simpa using hsz, ?_, fun p => hperm.mem_iff, slots_holds (holdsK_sortWorldK_c slotVs 2 w b 0 ks.toArray d' n os hH hb (by simpa using hsz)), fun m hm hm2 => ?_⟩
  · have hnd : d'.toList.Nodup := hperm.nodup_iff.2 hd
    refine List.pairwise_iff_getElem.2 fun i j hi hj hij => ?_
    have hi' : i < d'.size := by simpa using hi
    have hj' : j < d'.size := by simpa using hj
    have h1 := hs i j (Nat.zero_le _) hij (by omega)
    rw [ltOf_cmpP, getElem!_pos d' i hi', getElem!_pos d' j hj'] at h1
    have hne : d'.toList[i] ≠ d'.toList[j] := fun e => by
      have := (List.pairwise_iff_getElem.1 hnd) i j hi hj hij
      exact this e
    simp only [Array.getElem_toList] at hne ⊢
    cases c : lessP d'[i] d'[j]
    · exfalso
      apply hne
      have h2 : ¬ (d'[i].1 < d'[j].1 ∨ (d'[i].1 = d'[j].1 ∧ d'[i].2 < d'[j].2)) := fun e => by rw [lessP_iff.2 e] at c; cases c
      have h3 : ¬ (d'[j].1 < d'[i].1 ∨ (d'[j].1 = d'[i].1 ∧ d'[j].2 < d'[i].2)) := fun e => by rw [lessP_iff.2 e] at h1; cases h1
      exact Prod.ext (by omega) (by omega)
    · rfl
  · obtain ⟨q1, q2, q3, q4, q5⟩ := sortWorld_other (w := w) (b := b) (n := n) (d := d') (os := os)
    exact ⟨q1, q2, q3, q4, fun k hk => q5 k (by omega) (by omega)⟩
end Go.Proofs.Ytjdkenopfnepaaa
