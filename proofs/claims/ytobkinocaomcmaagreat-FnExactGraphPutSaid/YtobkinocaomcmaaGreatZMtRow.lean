/- Marks in a row of events: what stands while it is marked. markEventS: each event of a row is marked. heldEventS: whether each event of a row is still marked so. Marks in a row of events of one's own: what is written, and whether it is held. -/
import Derived.Test.YtobkinocaomcmaaGreatZMtText
import Derived.Test.YtobkinocaomcmaaGreatZGpGraph
import Derived.Test.YtobkinocaomcmaaGreatZMark3
namespace Go.Proofs.YtobkinocaomcmaaGreat
open Go.RowKit

/-- From which number on the i-th event is marked. -/
def kAt (k : Nat) (es : List Em) (i : Nat) : Nat := k + ((es.take i).map fun m => m.v.prev.length + 8).sum
theorem kAt_zero (k : Nat) (es : List Em) : kAt k es 0 = k := rfl
theorem kAt_succ {k : Nat} {es : List Em} {i : Nat} (h : i < es.length) : kAt k es (i + 1) = kAt k es i + (es[i].v.prev.length + 8) := by
  unfold kAt
  rw [List.take_succ_eq_append_getElem h, List.map_append, List.sum_append]
  simp
  omega
/-- What the j-th field of an event is marked with; Prev is marked on its own. -/
def fvT (k n j : Nat) : Value :=
  if j = 6 then .string (textT (k + 6)) else if j = 8 then .int .i64 ((k + 7 + n : Nat) : Int) else .int .i64 ((k + j : Nat) : Int)
/-- The row's block, and those of its Prevs, can be written, and are apart. -/
structure SpotE (b : Nat) (es : List Em) (W : World) : Prop where
  lt : b < W.heap.size
  any : ∀ i, i < es.length → ∀ j, j < 9 → ∃ u, W.cell? ⟨b, i * 9 + j, none⟩ = some u
  prev : ∀ i (h : i < es.length), W.cell? ⟨b, i * 9 + 7, none⟩ = some (.slice es[i].p es[i].v.prev.length es[i].c)
  spot : ∀ i (h : i < es.length), SpotI W es[i].p es[i].v.prev.length
  froz : ∀ q, W.frozen? ⟨b, q, none⟩ = false
/-- While it is marked: i events are, and of the next one the first j fields. -/
structure MF (w : World) (b : Nat) (es : List Em) (k : Nat) (i j : Nat) (W : World) : Prop where
  spot : SpotE b es W
  size : w.heap.size ≤ W.heap.size
  os : W.os = w.os
  tape : W.tape = w.tape
  output : W.output = w.output
  keep : ∀ q, q < w.heap.size → q ≠ b → (∀ m ∈ es, 0 < m.v.prev.length → blkM m ≠ some q) → W.heap[q]? = w.heap[q]?
  done : ∀ i' (h : i' < es.length), ∀ j', j' < 9 → j' ≠ 7 → (i' < i ∨ (i' = i ∧ j' < j)) → W.cell? ⟨b, i' * 9 + j', none⟩ = some (fvT (kAt k es i') es[i'].v.prev.length j')
  nums : ∀ i' (h : i' < es.length), (i' < i ∨ (i' = i ∧ 7 < j)) → MarksI W es[i'].p es[i'].v.prev.length ((kAt k es i' + 7 : Nat) : Int)
theorem MF.set {w : World} {b : Nat} {es : List Em} {k i j : Nat} {W : World} (h : MF w b es k i j W) (hi : i < es.length) (hj : j < 9) (h7 : j ≠ 7) (hb : ∀ m ∈ es, blkM m ≠ some b) : MF w b es k i (j + 1) (W.setCell ⟨b, i * 9 + j, none⟩ (fvT (kAt k es i) es[i].v.prev.length j)) := by
  have other : ∀ q, q ≠ b → (W.setCell ⟨b, i * 9 + j, none⟩ (fvT (kAt k es i) es[i].v.prev.length j)).heap[q]? = W.heap[q]? := fun q hq => Below.heap_setCell _ _ _ _ hq
  have oc : ∀ q o, q ≠ b → (W.setCell ⟨b, i * 9 + j, none⟩ (fvT (kAt k es i) es[i].v.prev.length j)).cell? ⟨q, o, none⟩ = W.cell? ⟨q, o, none⟩ := fun q o hq => World.cell?_of_block (other q hq)
  have oo : ∀ o, o ≠ i * 9 + j → (W.setCell ⟨b, i * 9 + j, none⟩ (fvT (kAt k es i) es[i].v.prev.length j)).cell? ⟨b, o, none⟩ = W.cell? ⟨b, o, none⟩ := fun o ho => World.cell?_setCell_other _ ⟨b, i * 9 + j, none⟩ ⟨b, o, none⟩ _ (fun e => ho (congrArg Addr.off e).symm)
  obtain ⟨u0, h0⟩ := h.spot.any i hi j hj
  have same : (W.setCell ⟨b, i * 9 + j, none⟩ (fvT (kAt k es i) es[i].v.prev.length j)).cell? ⟨b, i * 9 + j, none⟩ = some (fvT (kAt k es i) es[i].v.prev.length j) := World.cell?_setCell_same _ _ _ h0
  have far : ∀ i' (h' : i' < es.length) q, es[i'].p = some ⟨q, 0, none⟩ → q ≠ b := fun i' h' q hq e => hb es[i'] (List.getElem_mem h') (by unfold blkM; rw [hq, ← e]; rfl)
  refine ⟨⟨by simpa using h.spot.lt, fun i' hi' j' hj' => ?_, fun i' hi' => ?_, fun i' hi' => ?_, fun q => by rw [World.frozen?_setCell]; exact h.spot.froz q⟩, by simpa using h.size, h.os, h.tape, h.output, fun q hq hqb hm => (other q hqb).trans (h.keep q hq hqb hm), fun i' hi' j' hj' hj7 hc => ?_, fun i' hi' hc => ?_⟩
  · by_cases e : i' * 9 + j' = i * 9 + j
    · rw [e]
      exact ⟨_, same⟩
    · rw [oo _ e]
      exact h.spot.any i' hi' j' hj'
  · rw [oo _ (by omega)]
    exact h.spot.prev i' hi'
  · rcases h.spot.spot i' hi' with h1 | ⟨q, hp, hlt, hcl, hfz⟩
    · exact .inl h1
    · have hq := far i' hi' q hp
      exact .inr ⟨q, hp, by simpa using hlt, fun o ho => by rw [oc q o hq]; exact hcl o ho, fun o => by rw [World.frozen?_setCell]; exact hfz o⟩
  · by_cases e : i' * 9 + j' = i * 9 + j
    · obtain ⟨rfl, rfl⟩ : i' = i ∧ j' = j := by omega
      exact same
    · rw [oo _ e]
      exact h.done i' hi' j' hj' hj7 (by omega)
  · rcases h.nums i' hi' (by omega) with h1 | ⟨q, hp, hlt, hcl⟩
    · exact .inl h1
    · have hq := far i' hi' q hp
      exact .inr ⟨q, hp, by simpa using hlt, fun o ho => by rw [oc q o hq]; exact hcl o ho⟩
/-- A call that writes nothing that was there. -/
theorem MF.on {w : World} {b : Nat} {es : List Em} {k i j : Nat} {W W' : World} (h : MF w b es k i j W) (hb : Below W.heap.size W W') : MF w b es k i j W' := by
  have oc : ∀ q o, q < W.heap.size → W'.cell? ⟨q, o, none⟩ = W.cell? ⟨q, o, none⟩ := fun q o hq => World.cell?_of_block (hb.block q hq)
  have of : ∀ q o, q < W.heap.size → W'.frozen? ⟨q, o, none⟩ = W.frozen? ⟨q, o, none⟩ := fun q o hq => World.frozen?_of_block (hb.block q hq)
  refine ⟨⟨Nat.lt_of_lt_of_le h.spot.lt hb.size, fun i' hi' j' hj' => by rw [oc _ _ h.spot.lt]; exact h.spot.any i' hi' j' hj', fun i' hi' => by rw [oc _ _ h.spot.lt]; exact h.spot.prev i' hi', fun i' hi' => ?_, fun q => by rw [of _ _ h.spot.lt]; exact h.spot.froz q⟩, Nat.le_trans h.size hb.size, hb.os.trans h.os, hb.tape.trans h.tape, hb.output.trans h.output, fun q hq hqb hm => (hb.block q (Nat.lt_of_lt_of_le hq h.size)).trans (h.keep q hq hqb hm), fun i' hi' j' hj' hj7 hc => by rw [oc _ _ h.spot.lt]; exact h.done i' hi' j' hj' hj7 hc, fun i' hi' hc => (h.nums i' hi' hc).kept hb⟩
  rcases h.spot.spot i' hi' with h1 | ⟨q, hp, hlt, hcl, hfz⟩
  · exact .inl h1
  · exact .inr ⟨q, hp, Nat.lt_of_lt_of_le hlt hb.size, fun o ho => by rw [oc q o hlt]; exact hcl o ho, fun o => by rw [of q o hlt]; exact hfz o⟩
/-- All nine fields: the next event. -/
theorem MF.next {w : World} {b : Nat} {es : List Em} {k i : Nat} {W : World} (h : MF w b es k i 9 W) : MF w b es k (i + 1) 0 W :=
  ⟨h.spot, h.size, h.os, h.tape, h.output, h.keep, fun i' hi' j' hj' hj7 hc => h.done i' hi' j' hj' hj7 (by omega), fun i' hi' hc => h.nums i' hi' (by omega)⟩
theorem MF.prev {w : World} {b : Nat} {es : List Em} {k i : Nat} {W W' : World} (h : MF w b es k i 7 W) (hi : i < es.length) (hb : ∀ m ∈ es, blkM m ≠ some b) (hap : ∀ i1 (h1 : i1 < es.length) i2 (h2 : i2 < es.length), i1 ≠ i2 → 0 < es[i1].v.prev.length → 0 < es[i2].v.prev.length → blkM es[i1] ≠ blkM es[i2])
    (hm : MarkPostI W es[i].p es[i].v.prev.length ((kAt k es i + 7 : Nat) : Int) W') (hmz : es[i].v.prev.length = 0 → W' = W) : MF w b es k i 8 W' := by
  have hm2 : (es[i].v.prev.length = 0 ∧ W' = W) ∨ ∃ q, es[i].p = some ⟨q, 0, none⟩ ∧ OnlyI q W W' ∧ q < W'.heap.size ∧ 0 < es[i].v.prev.length ∧ ∀ o, o < es[i].v.prev.length → W'.cell? ⟨q, o, none⟩ = some (.int .i64 (((kAt k es i + 7 : Nat) : Int) + o)) := by
    by_cases hz : es[i].v.prev.length = 0
    · exact .inl ⟨hz, hmz hz⟩
    · obtain ⟨q, h1, h2, h3, h4⟩ := hm.resolve_left (fun c => hz c.1)
      exact .inr ⟨q, h1, h2, h3, by omega, h4⟩
  rcases hm2 with ⟨h0, rfl⟩ | ⟨q, hp, hO, hlt, hpos, hcl⟩
  · refine ⟨h.spot, h.size, h.os, h.tape, h.output, h.keep, fun i' hi' j' hj' hj7 hc => h.done i' hi' j' hj' hj7 (by omega), fun i' hi' hc => ?_⟩
    by_cases e : i' = i
    · subst e
      exact .inl h0
    · exact h.nums i' hi' (by omega)
  · have hbq : blkM es[i] = some q := by unfold blkM; rw [hp]; rfl
    have hqb : b ≠ q := fun e => hb _ (List.getElem_mem hi) (by rw [hbq, e])
    have oc : ∀ o, W'.cell? ⟨b, o, none⟩ = W.cell? ⟨b, o, none⟩ := fun o => World.cell?_of_block (hO.block b hqb)
    have far : ∀ i' (h' : i' < es.length) q', i' ≠ i → es[i'].p = some ⟨q', 0, none⟩ → es[i'].v.prev.length = 0 ∨ es[i].v.prev.length = 0 ∨ q' ≠ q := fun i' h' q' hne hp' => by
      by_cases z1 : 0 < es[i'].v.prev.length
      · by_cases z2 : 0 < es[i].v.prev.length
        · refine .inr (.inr fun e => hap i' h' i hi hne z1 z2 ?_)
          rw [hbq, ← e]
          unfold blkM
          rw [hp']
          rfl
        · exact .inr (.inl (by omega))
      · exact .inl (by omega)
    have hn0 : ¬ es[i].v.prev.length = 0 := by omega
    · refine ⟨⟨by rw [hO.size]; exact h.spot.lt, fun i' hi' j' hj' => by rw [oc]; exact h.spot.any i' hi' j' hj', fun i' hi' => by rw [oc]; exact h.spot.prev i' hi', fun i' hi' => ?_, fun o => by rw [World.frozen?_of_block (hO.block b hqb)]; exact h.spot.froz o⟩, by rw [hO.size]; exact h.size, hO.os.trans h.os, hO.tape.trans h.tape, hO.output.trans h.output, fun r hr hrb hm => (hO.block r (fun e => hm _ (List.getElem_mem hi) hpos (by rw [hbq, e]))).trans (h.keep r hr hrb hm), fun i' hi' j' hj' hj7 hc => by rw [oc]; exact h.done i' hi' j' hj' hj7 (by omega), fun i' hi' hc => ?_⟩
      · rcases h.spot.spot i' hi' with h1 | ⟨q', hp', hlt', hcl', hfz'⟩
        · exact .inl h1
        · by_cases e : i' = i
          · subst e
            exact .inr ⟨q, hp, hlt, fun o ho => ⟨_, hcl o ho⟩, fun o => by
              have e1 : q' = q := by
                rw [hp] at hp'
                injection hp' with hp'
                injection hp' with e1
                exact e1.symm
              rw [hO.froz, ← e1]
              exact hfz' o⟩
          · rcases far i' hi' q' e hp' with z | z | z
            · exact .inl z
            · exact absurd z hn0
            · exact .inr ⟨q', hp', by rw [hO.size]; exact hlt', fun o ho => by rw [World.cell?_of_block (hO.block q' z)]; exact hcl' o ho, fun o => by rw [World.frozen?_of_block (hO.block q' z)]; exact hfz' o⟩
      · by_cases e : i' = i
        · subst e
          exact .inr ⟨q, hp, hlt, hcl⟩
        · rcases h.nums i' hi' (by omega) with h1 | ⟨q', hp', hlt', hcl'⟩
          · exact .inl h1
          · rcases far i' hi' q' e hp' with z | z | z
            · exact .inl z
            · exact absurd z hn0
            · exact .inr ⟨q', hp', by rw [hO.size]; exact hlt', fun o ho => by rw [World.cell?_of_block (hO.block q' z)]; exact hcl' o ho⟩
theorem kAt_le (k : Nat) (es : List Em) (i n : Nat) : kAt k es i ≤ kAt k es (i + n) := by
  unfold kAt
  have e : es.take (i + n) = es.take i ++ (es.drop i).take n := List.take_add
  rw [e, List.map_append, List.sum_append]
  omega
theorem kAt_mono {k : Nat} {es : List Em} : ∀ {i : Nat}, i ≤ es.length → kAt k es i ≤ kAt k es es.length := by
  intro i hi
  have h := kAt_le k es i (es.length - i)
  rwa [show i + (es.length - i) = es.length by omega] at h
theorem fvT_lt {k n j : Nat} (h : j < 6) : fvT k n j = .int .i64 ((k + j : Nat) : Int) := by
  unfold fvT
  rw [if_neg (by omega), if_neg (by omega)]
theorem fvT_text (k n : Nat) : fvT k n 6 = .string (textT (k + 6)) := by
  unfold fvT
  rw [if_pos rfl]
theorem fvT_time (k n : Nat) : fvT k n 8 = .int .i64 ((k + 7 + n : Nat) : Int) := by
  unfold fvT
  rw [if_neg (by omega), if_pos rfl]
theorem fvT_n {K : Nat} {k n j : Nat} (hK : K = k) {z : Int} (h : j < 6) (hz : z = (K : Int) + j) : fvT k n j = .int .i64 z := by
  rw [fvT_lt h, hz, hK]
  congr 1
theorem MF.six {w : World} {b : Nat} {es : List Em} {k i K : Nat} {W : World} (h : MF w b es k i 0 W) (hK : K = kAt k es i) (hi : i < es.length) (hb : ∀ m ∈ es, blkM m ≠ some b) :
    MF w b es k i 6 (set6 W b (i * 9) (.int .i64 (K : Int)) (.int .i64 ((K : Int) + 1)) (.int .i64 ((K : Int) + 1 + 1)) (.int .i64 ((K : Int) + 1 + 1 + 1)) (.int .i64 ((K : Int) + 1 + 1 + 1 + 1)) (.int .i64 ((K : Int) + 1 + 1 + 1 + 1 + 1))) := by
  have h6 := (((((h.set hi (j := 0) (by omega) (by omega) hb).set hi (by omega) (by omega) hb).set hi (by omega) (by omega) hb).set hi (by omega) (by omega) hb).set hi (by omega) (by omega) hb).set hi (by omega) (by omega) hb
  simp only [Nat.zero_add, Nat.reduceAdd, Nat.add_zero] at h6
  rw [fvT_n (z := (K : Int)) hK (by omega) (by simp), fvT_n (z := (K : Int) + 1) hK (by omega) (by simp), fvT_n (z := (K : Int) + 1 + 1) hK (by omega) (by omega), fvT_n (z := (K : Int) + 1 + 1 + 1) hK (by omega) (by omega), fvT_n (z := (K : Int) + 1 + 1 + 1 + 1) hK (by omega) (by omega), fvT_n (z := (K : Int) + 1 + 1 + 1 + 1 + 1) hK (by omega) (by omega)] at h6
  exact h6
end Go.Proofs.YtobkinocaomcmaaGreat
namespace Go.Proofs.YtobkinocaomcmaaGreat
open Go.RowKit

set_option maxHeartbeats 8000000 in
set_option maxRecDepth 100000 in
theorem mark_eventsK (es : List Em) (k b cap : Nat) (w : World) (h : SpotE b es w) (hk : kAt k es es.length ≤ 1000000) (hb : ∀ m ∈ es, blkM m ≠ some b)
    (hap : ∀ i1 (h1 : i1 < es.length) i2 (h2 : i2 < es.length), i1 ≠ i2 → 0 < es[i1].v.prev.length → 0 < es[i2].v.prev.length → blkM es[i1] ≠ blkM es[i2]) :
    Calls Tryz.prog 56 #[.slice (some ⟨b, 0, none⟩) es.length cap, .int .i64 k] w fun e w' => e = .returned (.int .i64 (kAt k es es.length : Nat)) ∧ MF w b es k es.length 0 w' := by
  have HI0 : Hid (MF w b es k 0 0 w) := ⟨h, Nat.le_refl _, rfl, rfl, rfl, fun _ _ _ _ => rfl, fun _ _ _ _ _ hc => by omega, fun _ _ hc => by omega⟩
  have HB : Hid (∀ m ∈ es, blkM m ≠ some b) := hb
  have HAP : Hid (∀ i1 (h1 : i1 < es.length) i2 (h2 : i2 < es.length), i1 ≠ i2 → 0 < es[i1].v.prev.length → 0 < es[i2].v.prev.length → blkM es[i1] ≠ blkM es[i2]) := hap
  have hlk : es.length ≤ kAt k es es.length := by
    have key : ∀ n, n ≤ es.length → n ≤ kAt k es n := fun n => by
      induction n with
      | zero => exact fun _ => Nat.zero_le _
      | succ n ih =>
        intro hn
        have h1 := ih (by omega)
        have h2 := kAt_succ (k := k) (es := es) (i := n) (by omega)
        omega
    exact key _ (Nat.le_refl _)
  clear h hb hap
  go_enter Tryz.func56, Tryz.ntmps56
  go_wp2
  go_loopw [1, 5] (fun kk ii wr => ∃ i K : Nat, i ≤ es.length ∧ kk = .int .i64 (K : Int) ∧ ii = .int .i64 i ∧ Hid (K = kAt k es i ∧ MF w b es k i 0 wr)) (fun _ i _ => es.length - (intOf i).toNat)
  case atStart => exact ⟨0, k, Nat.zero_le _, rfl, rfl, rfl, HI0.out⟩
  case round =>
    obtain ⟨i, K, hil, rfl, rfl, HI⟩ := hrel
    by_cases hlt : i < es.length
    · obtain ⟨x0, hx0⟩ := HI.out.2.spot.any i hlt 0 (by omega)
      obtain ⟨x1, hx1⟩ := HI.out.2.spot.any i hlt 1 (by omega)
      obtain ⟨x2, hx2⟩ := HI.out.2.spot.any i hlt 2 (by omega)
      obtain ⟨x3, hx3⟩ := HI.out.2.spot.any i hlt 3 (by omega)
      obtain ⟨x4, hx4⟩ := HI.out.2.spot.any i hlt 4 (by omega)
      obtain ⟨x5, hx5⟩ := HI.out.2.spot.any i hlt 5 (by omega)
      rw [Nat.add_zero] at hx0
      have hf := HI.out.2.spot.froz
      have hkb : K ≤ 1000000 := by have h1 := HI.out.1; have h2 := kAt_mono (k := k) (es := es) (Nat.le_of_lt hlt); omega
      have HKS : Hid (kAt k es (i + 1) = K + (es[i].v.prev.length + 8)) := by rw [HI.out.1]; exact kAt_succ hlt
      have hpl : K + (es[i].v.prev.length + 8) ≤ 1000000 := by have h1 := HKS.out; have h2 := kAt_mono (k := k) (es := es) (i := i + 1) hlt; omega
      have HKE : Hid (K = kAt k es i) := HI.out.1
      have H6 : Hid (MF w b es k i 6 (set6 wr b (i * 9) (.int .i64 (K : Int)) (.int .i64 ((K : Int) + 1)) (.int .i64 ((K : Int) + 1 + 1)) (.int .i64 ((K : Int) + 1 + 1 + 1)) (.int .i64 ((K : Int) + 1 + 1 + 1 + 1)) (.int .i64 ((K : Int) + 1 + 1 + 1 + 1 + 1)))) := HI.out.2.six HI.out.1 hlt HB.out
      clear HI
      go_wp2_with fail
      refine (mark_textZ ((K : Int) + 1 + 1 + 1 + 1 + 1 + 1) (K + 6) (by omega) _ (by omega)).mono ?_
      rintro e w2 ⟨rfl, hb2⟩
      have hbx : Below (set6 wr b (i * 9) (.int .i64 (K : Int)) (.int .i64 ((K : Int) + 1)) (.int .i64 ((K : Int) + 1 + 1)) (.int .i64 ((K : Int) + 1 + 1 + 1)) (.int .i64 ((K : Int) + 1 + 1 + 1 + 1)) (.int .i64 ((K : Int) + 1 + 1 + 1 + 1 + 1))).heap.size (set6 wr b (i * 9) (.int .i64 (K : Int)) (.int .i64 ((K : Int) + 1)) (.int .i64 ((K : Int) + 1 + 1)) (.int .i64 ((K : Int) + 1 + 1 + 1)) (.int .i64 ((K : Int) + 1 + 1 + 1 + 1)) (.int .i64 ((K : Int) + 1 + 1 + 1 + 1 + 1))) w2 := hb2
      have H7 : Hid (MF w b es k i 6 w2) := H6.out.on hbx
      obtain ⟨x6, hx6⟩ := H7.out.spot.any i hlt 6 (by omega)
      have hx7 := H7.out.spot.prev i hlt
      have hf2 := H7.out.spot.froz
      clear hb2 hbx H6 hx0 hx1 hx2 hx3 hx4 hx5 hf
      have H8 : Hid (MF w b es k i 7 (w2.setCell ⟨b, i * 9 + 6, none⟩ (.string (textT (K + 6))))) := by have h7 := H7.out.set hlt (by omega) (by omega) HB.out; rw [fvT_text, ← HKE.out] at h7; exact h7
      have hsp := H8.out.spot.spot i hlt
      clear H7
      go_wp2_with fail
      refine (mark_intsZ ((K : Int) + 1 + 1 + 1 + 1 + 1 + 1 + 1) (K + 7) _ (by omega) _ _ (by omega) _ hsp).mono ?_
      rintro e w3 ⟨rfl, hm3, hz3⟩
      have H9 : Hid (MF w b es k i 8 w3) := H8.out.prev hlt HB.out HAP.out (by rw [← HKE.out]; exact hm3) hz3
      obtain ⟨x8, hx8⟩ := H9.out.spot.any i hlt 8 (by omega)
      have hf3 := H9.out.spot.froz
      have HN : Hid (kAt k es (i + 1) = K + 8 + es[i].v.prev.length ∧ MF w b es k (i + 1) 0 (w3.setCell ⟨b, i * 9 + 8, none⟩ (.int .i64 ((K : Int) + 1 + 1 + 1 + 1 + 1 + 1 + 1 + (es[i].v.prev.length : Int))))) := by
        refine ⟨by have := HKS.out; omega, ?_⟩
        have h9 := (H9.out.set hlt (by omega) (by omega) HB.out).next
        rw [fvT_time, ← HKE.out] at h9
        have e1 : ((K + 7 + es[i].v.prev.length : Nat) : Int) = (K : Int) + 1 + 1 + 1 + 1 + 1 + 1 + 1 + (es[i].v.prev.length : Int) := by omega
        rw [e1] at h9
        exact h9
      clear hm3 hz3 H8 H9 hsp hx6 hx7 hf2
      go_wp2
      go_roundw
      case rel => exact ⟨i + 1, K + 8 + es[i].v.prev.length, by omega, by congr 1; omega, by go_num, HN.out.1.symm, HN.out.2⟩
      case measure => simp [intOf]; omega
    · have e : i = es.length := by omega
      have HE : Hid ((K : Int) = ((kAt k es es.length : Nat) : Int)) := by have h1 := HI.out.1; rw [e] at h1; unfold Hid; omega
      have HF : Hid (MF w b es k es.length 0 wr) := by rw [← e]; exact HI.out.2
      have hd : decide ((i : Int) < (es.length : Int)) = false := decide_eq_false (by omega)
      clear HI e
      go_wp2
      go_ret
      exact ⟨ret_int HE.out, HF.out⟩
end Go.Proofs.YtobkinocaomcmaaGreat
namespace Go.Proofs.YtobkinocaomcmaaGreat
open Go.RowKit

/-- A row that is marked from k on. -/
structure HeldE (b : Nat) (es : List Em) (k : Nat) (W : World) : Prop where
  lt : b < W.heap.size
  done : ∀ i (h : i < es.length), ∀ j, j < 9 → j ≠ 7 → W.cell? ⟨b, i * 9 + j, none⟩ = some (fvT (kAt k es i) es[i].v.prev.length j)
  prev : ∀ i (h : i < es.length), W.cell? ⟨b, i * 9 + 7, none⟩ = some (.slice es[i].p es[i].v.prev.length es[i].c)
  nums : ∀ i (h : i < es.length), MarksI W es[i].p es[i].v.prev.length ((kAt k es i + 7 : Nat) : Int)
theorem MF.held {w : World} {b : Nat} {es : List Em} {k : Nat} {W : World} (h : MF w b es k es.length 0 W) : HeldE b es k W :=
  ⟨h.spot.lt, fun i hi j hj h7 => h.done i hi j hj h7 (.inl hi), h.spot.prev, fun i hi => h.nums i hi (.inl hi)⟩
theorem HeldE.kept {b : Nat} {es : List Em} {k : Nat} {W W' : World} (h : HeldE b es k W) (hb : Below W.heap.size W W') : HeldE b es k W' := by
  have oc : ∀ o, W'.cell? ⟨b, o, none⟩ = W.cell? ⟨b, o, none⟩ := fun o => World.cell?_of_block (hb.block b h.lt)
  exact ⟨Nat.lt_of_lt_of_le h.lt hb.size, fun i hi j hj h7 => by rw [oc]; exact h.done i hi j hj h7, fun i hi => by rw [oc]; exact h.prev i hi, fun i hi => (h.nums i hi).kept hb⟩
set_option maxHeartbeats 8000000 in
set_option maxRecDepth 100000 in
theorem held_eventsK (es : List Em) (k b cap : Nat) (w : World) (h : HeldE b es k w) (hk : kAt k es es.length ≤ 1000000) :
    Calls Tryz.prog 101 #[.slice (some ⟨b, 0, none⟩) es.length cap, .int .i64 k] w fun e w' => e = .returned (.int .i64 (kAt k es es.length : Nat)) ∧ Below w.heap.size w w' := by
  have H : Hid (∀ W, Below w.heap.size w W → HeldE b es k W) := fun W hb => h.kept hb
  have hlk : es.length ≤ kAt k es es.length := by
    have key : ∀ n, n ≤ es.length → n ≤ kAt k es n := fun n => by
      induction n with
      | zero => exact fun _ => Nat.zero_le _
      | succ n ih =>
        intro hn
        have h1 := ih (by omega)
        have h2 := kAt_succ (k := k) (es := es) (i := n) (by omega)
        omega
    exact key _ (Nat.le_refl _)
  clear h
  go_enter Tryz.func101, Tryz.ntmps101
  go_wp2
  go_loopw [1, 5] (fun kk ii wr => ∃ i K : Nat, i ≤ es.length ∧ kk = .int .i64 (K : Int) ∧ ii = .int .i64 i ∧ Hid (K = kAt k es i) ∧ Below w.heap.size w wr) (fun _ i _ => es.length - (intOf i).toNat)
  case atStart => exact ⟨0, k, Nat.zero_le _, rfl, rfl, rfl, Below.refl _ _⟩
  case round =>
    obtain ⟨i, K, hil, rfl, rfl, HK, hbw⟩ := hrel
    by_cases hlt : i < es.length
    · have HD := (H.out wr hbw)
      have hx0 : wr.cell? ⟨b, i * 9, none⟩ = some (.int .i64 (K : Int)) := by rw [HK.out]; have := HD.done i hlt 0 (by omega) (by omega); rw [fvT_lt (by omega)] at this; exact this
      have hx1 : wr.cell? ⟨b, i * 9 + 1, none⟩ = some (.int .i64 ((K : Int) + 1)) := by have := HD.done i hlt 1 (by omega) (by omega); rw [fvT_n (z := (K : Int) + 1) HK.out (by omega) (by omega)] at this; exact this
      have hx2 : wr.cell? ⟨b, i * 9 + 2, none⟩ = some (.int .i64 ((K : Int) + 1 + 1)) := by have := HD.done i hlt 2 (by omega) (by omega); rw [fvT_n (z := (K : Int) + 1 + 1) HK.out (by omega) (by omega)] at this; exact this
      have hx3 : wr.cell? ⟨b, i * 9 + 3, none⟩ = some (.int .i64 ((K : Int) + 1 + 1 + 1)) := by have := HD.done i hlt 3 (by omega) (by omega); rw [fvT_n (z := (K : Int) + 1 + 1 + 1) HK.out (by omega) (by omega)] at this; exact this
      have hx4 : wr.cell? ⟨b, i * 9 + 4, none⟩ = some (.int .i64 ((K : Int) + 1 + 1 + 1 + 1)) := by have := HD.done i hlt 4 (by omega) (by omega); rw [fvT_n (z := (K : Int) + 1 + 1 + 1 + 1) HK.out (by omega) (by omega)] at this; exact this
      have hx5 : wr.cell? ⟨b, i * 9 + 5, none⟩ = some (.int .i64 ((K : Int) + 1 + 1 + 1 + 1 + 1)) := by have := HD.done i hlt 5 (by omega) (by omega); rw [fvT_n (z := (K : Int) + 1 + 1 + 1 + 1 + 1) HK.out (by omega) (by omega)] at this; exact this
      have HX6 : Hid (∀ W, Below w.heap.size w W → W.cell? ⟨b, i * 9 + 6, none⟩ = some (.string (textT (K + 6))) ∧ W.cell? ⟨b, i * 9 + 7, none⟩ = some (.slice es[i].p es[i].v.prev.length es[i].c) ∧ W.cell? ⟨b, i * 9 + 8, none⟩ = some (.int .i64 ((K : Int) + 1 + 1 + 1 + 1 + 1 + 1 + 1 + (es[i].v.prev.length : Int))) ∧ MarksI W es[i].p es[i].v.prev.length ((K + 7 : Nat) : Int)) := fun W hW => by
        have HW := H.out W hW
        have h6 := HW.done i hlt 6 (by omega) (by omega)
        have h8 := HW.done i hlt 8 (by omega) (by omega)
        have hn := HW.nums i hlt
        rw [fvT_text, ← HK.out] at h6
        rw [fvT_time, ← HK.out] at h8
        rw [← HK.out] at hn
        have e1 : ((K + 7 + es[i].v.prev.length : Nat) : Int) = (K : Int) + 1 + 1 + 1 + 1 + 1 + 1 + 1 + (es[i].v.prev.length : Int) := by omega
        rw [e1] at h8
        exact ⟨h6, HW.prev i hlt, h8, hn⟩
      have hkb : K ≤ 1000000 := by have h1 := HK.out; have h2 := kAt_mono (k := k) (es := es) (Nat.le_of_lt hlt); omega
      have HKS : Hid (kAt k es (i + 1) = K + 8 + es[i].v.prev.length) := by have h1 := HK.out; have := kAt_succ (k := k) (es := es) hlt; unfold Hid; omega
      have hpl : K + (es[i].v.prev.length + 8) ≤ 1000000 := by have h1 := HKS.out; have h2 := kAt_mono (k := k) (es := es) (i := i + 1) hlt; omega
      have hx6 : wr.cell? ⟨b, i * 9 + 6, none⟩ = some (.string (textT (K + 6))) := (HX6.out wr hbw).1
      have hblt : b < wr.heap.size := HD.lt
      have HBW : Hid (Below w.heap.size w wr) := hbw
      clear HD hbw
      go_wp2_with fail
      go_region_held3 (fun W => W.cell? ⟨b, i * 9 + 6, none⟩ = some (.string (textT (K + 6)))) (simp [go_sem, *]) (first
        | (go_at_call 100; refine (mark_textZ ((K : Int) + 1 + 1 + 1 + 1 + 1 + 1) (K + 6) (by omega) _ (by omega)).mono ?_; rintro e w1 ⟨rfl, hb1⟩; have hb1 : Below wr.heap.size wr w1 := (Below.drew (Below.refl _ _)).trans hb1; have hw6 : w1.cell? ⟨b, i * 9 + 6, none⟩ = some (.string (textT (K + 6))) := (hb1.cell (p := ⟨b, i * 9 + 6, none⟩) hblt).trans hx6))
      have HB1 : Hid (Below w.heap.size w w1) := HBW.out.trans (hb1.mono HBW.out.size)
      obtain ⟨-, hx7, hx8, hnm⟩ := HX6.out w1 HB1.out
      clear hx0 hx1 hx2 hx3 hx4 hx5 hx6 hw6 hb1 HX6
      go_wp2_with fail
      refine (held_intsZ ((K : Int) + 1 + 1 + 1 + 1 + 1 + 1 + 1) (K + 7) _ (by omega) _ _ (by omega) _ hnm).mono ?_
      rintro e wz ⟨rfl, rfl⟩
      have HN : Hid (K + 8 + es[i].v.prev.length = kAt k es (i + 1)) := HKS.out.symm
      have hb2 : Below w.heap.size w w1 := HB1.out
      clear hnm hx7 HB1
      go_wp2
      go_roundw
      case rel => exact ⟨i + 1, K + 8 + es[i].v.prev.length, by omega, by congr 1; omega, by go_num, HN, hb2⟩
      case measure => simp [intOf]; omega
    · have e : i = es.length := by omega
      have HE : Hid ((K : Int) = ((kAt k es es.length : Nat) : Int)) := by have h1 := HK.out; rw [e] at h1; unfold Hid; omega
      have hd : decide ((i : Int) < (es.length : Int)) = false := decide_eq_false (by omega)
      clear HK e
      go_wp2
      go_ret
      exact ⟨ret_int HE.out, hbw⟩
end Go.Proofs.YtobkinocaomcmaaGreat
namespace Go.Proofs.YtobkinocaomcmaaGreat
open Go.RowKit

/-- What has been written lies in blocks from lo on, ahead of hi. -/
structure Wk (lo hi : Nat) (W W' : World) : Prop where
  os : W'.os = W.os
  tape : W'.tape = W.tape
  output : W'.output = W.output
  size : W.heap.size ≤ W'.heap.size
  block : ∀ b, b < W.heap.size → (b < lo ∨ hi ≤ b) → W'.heap[b]? = W.heap[b]?
theorem Wk.refl (lo hi : Nat) (W : World) : Wk lo hi W W := ⟨rfl, rfl, rfl, Nat.le_refl _, fun _ _ _ => rfl⟩
theorem Wk.trans {lo hi : Nat} {W W1 W2 : World} (h : Wk lo hi W W1) (k : Wk lo hi W1 W2) : Wk lo hi W W2 :=
  ⟨k.os.trans h.os, k.tape.trans h.tape, k.output.trans h.output, Nat.le_trans h.size k.size, fun b hb hr => (k.block b (Nat.lt_of_lt_of_le hb h.size) hr).trans (h.block b hb hr)⟩
theorem Wk.mono {lo hi lo' hi' : Nat} {W W' : World} (h : Wk lo hi W W') (h1 : lo' ≤ lo) (h2 : hi ≤ hi') : Wk lo' hi' W W' := ⟨h.os, h.tape, h.output, h.size, fun b hb hr => h.block b hb (by omega)⟩
theorem Wk.below {lo hi : Nat} {W W' : World} (h : Below W.heap.size W W') : Wk lo hi W W' := ⟨h.os, h.tape, h.output, h.size, fun b hb _ => h.block b hb⟩
theorem Wk.toBelow {lo hi : Nat} {W W' : World} (h : Wk lo hi W W') {w : World} (hb : Below w.heap.size w W) (hl : w.heap.size ≤ lo) : Below w.heap.size w W' :=
  ⟨h.os.trans hb.os, h.tape.trans hb.tape, h.output.trans hb.output, Nat.le_trans hb.size h.size, fun b hlt => (h.block b (Nat.lt_of_lt_of_le hlt hb.size) (.inl (Nat.lt_of_lt_of_le hlt hl))).trans (hb.block b hlt)⟩
theorem Wr.wk {lo hi : Nat} {W W' : World} (h : Wr lo hi W W') : Wk lo hi W W' := ⟨h.os, h.tape, h.output, h.size, h.block⟩
theorem OnlyI.wk {b : Nat} {W W' : World} (h : OnlyI b W W') : Wk b (b + 1) W W' := ⟨h.os, h.tape, h.output, Nat.le_of_eq h.size.symm, fun q _ hr => h.block q (by omega)⟩
theorem MF.wk {w : World} {b : Nat} {es : List Em} {k i j : Nat} {W : World} (h : MF w b es k i j W) {lo hi : Nat} (hb : lo ≤ b ∧ b < hi) (hm : ∀ m ∈ es, 0 < m.v.prev.length → ∀ q, blkM m = some q → lo ≤ q ∧ q < hi) : Wk lo hi w W :=
  ⟨h.os, h.tape, h.output, h.size, fun q hq hr => h.keep q hq (by omega) (fun m hmm hp e => by have := hm m hmm hp q e; omega)⟩
theorem spot_of {W : World} {base c : Nat} {p : Option Addr} {zs : List Int} (h : W.ownsRow base 2 1 (.slice p zs.length c) zs.length (nv zs)) : SpotI W p zs.length := by
  rcases h.2 with ⟨_, h0⟩ | ⟨g, cap, cur, hv, hb, hg, hle, _, hsz, ht⟩
  · exact .inl h0
  · refine .inr ⟨g, by injection hv, (Array.getElem?_eq_some_iff.1 hg).1, fun q hq => ?_, fun q => frozen_of_heap hg⟩
    rw [cell_of_heap hg]
    exact ⟨_, Array.getElem?_eq_getElem (by omega)⟩
theorem EvOut.spotE {base cap : Nat} {W : World} {a : Option Addr} {es : List Em} (h : EvOut base W (.slice a es.length cap) es) (hl : es.length ≤ 1048576) (hp : 0 < es.length) : ∃ b, a = some ⟨b, 0, none⟩ ∧ base ≤ b ∧ SpotE b es W ∧ ∀ m ∈ es, blkM m ≠ some b := by
  obtain ⟨a', c', hv, _, hrow, _⟩ := h.own.at hl
  cases hv
  rcases h.own.2 with ⟨_, h0⟩ | ⟨g, cp, cur, hv, hb, hg, hle, _, hsz, ht⟩
  · omega
  · cases hv
    obtain ⟨b', off, hab, hlt, hc⟩ := hrow.row hp
    cases hab
    have cell : ∀ i (hi : i < es.length) j, j < 9 → W.cell? ⟨g, i * 9 + j, none⟩ = (emCells es[i])[j]? := fun i hi j hj => by have := hc i hi j hj; rwa [Nat.zero_add] at this
    refine ⟨g, rfl, hb, ⟨hlt, fun i hi j hj => ?_, fun i hi => cell i hi 7 (by omega), fun i hi => spot_of (h.nums _ (List.getElem_mem hi)), fun q => frozen_of_heap hg⟩, fun m hm e => ?_⟩
    · rw [cell i hi j hj]
      exact ⟨_, List.getElem?_eq_getElem (by simpa [emCells] using hj)⟩
    · rcases (h.nums m hm).2 with ⟨hv2, _⟩ | ⟨g2, c2, cur2, hv2, hb2, hg2, _⟩
      · injection hv2 with hp2
        unfold blkM at e
        rw [hp2] at e
        cases e
      · injection hv2 with hp2
        unfold blkM at e
        rw [hp2] at e
        have e2 : g2 = g := by simpa using e
        rw [e2, hg] at hg2
        simp at hg2
theorem EvOut.hap {base : Nat} {W : World} {v : Value} {es : List Em} (h : EvOut base W v es) : ∀ i1 (h1 : i1 < es.length) i2 (h2 : i2 < es.length), i1 ≠ i2 → 0 < es[i1].v.prev.length → 0 < es[i2].v.prev.length → blkM es[i1] ≠ blkM es[i2] := by
  intro i1 h1 i2 h2 hne p1 p2
  have key := List.pairwise_iff_getElem.1 h.apart
  rcases Nat.lt_or_ge i1 i2 with hlt | hge
  · exact key i1 i2 h1 h2 hlt p1 p2
  · exact fun e => key i2 i1 h2 h1 (by omega) p2 p1 e.symm
/-- A row that is marked from k on; where its blocks lie. -/
def HeldR (lo hi : Nat) (a : Option Addr) (es : List Em) (k : Nat) (W : World) : Prop :=
  es.length = 0 ∨ ∃ b, a = some ⟨b, 0, none⟩ ∧ lo ≤ b ∧ b < hi ∧ (∀ m ∈ es, 0 < m.v.prev.length → ∀ q, blkM m = some q → lo ≤ q ∧ q < hi) ∧ HeldE b es k W
theorem HeldR.kept {lo hi : Nat} {a : Option Addr} {es : List Em} {k : Nat} {W W' : World} (h : HeldR lo hi a es k W) (hb : Below W.heap.size W W') : HeldR lo hi a es k W' := by
  rcases h with h0 | ⟨b, h1, h2, h3, h4, h5⟩
  · exact .inl h0
  · exact .inr ⟨b, h1, h2, h3, h4, h5.kept hb⟩
theorem HeldR.wk {lo hi l2 h2 : Nat} {a : Option Addr} {es : List Em} {k : Nat} {W W' : World} (h : HeldR lo hi a es k W) (hw : Wk l2 h2 W W') (hr : hi ≤ l2 ∨ h2 ≤ lo) : HeldR lo hi a es k W' := by
  rcases h with h0 | ⟨b, h1, h3, h4, h5, h6⟩
  · exact .inl h0
  · have oc : ∀ q o, q < W.heap.size → lo ≤ q → q < hi → W'.cell? ⟨q, o, none⟩ = W.cell? ⟨q, o, none⟩ := fun q o hq q1 q2 => World.cell?_of_block (a := ⟨q, o, none⟩) (hw.block q hq (by omega))
    refine .inr ⟨b, h1, h3, h4, h5, ⟨Nat.lt_of_lt_of_le h6.lt hw.size, fun i hi j hj h7 => by rw [oc b _ h6.lt h3 h4]; exact h6.done i hi j hj h7, fun i hi => by rw [oc b _ h6.lt h3 h4]; exact h6.prev i hi, fun i hi => ?_⟩⟩
    rcases h6.nums i hi with h0 | ⟨q, hp, hlt, hc⟩
    · exact .inl h0
    · by_cases hz : es[i].v.prev.length = 0
      · exact .inl hz
      · have hq := h5 _ (List.getElem_mem hi) (by omega) q (by unfold blkM; rw [hp]; rfl)
        exact .inr ⟨q, hp, Nat.lt_of_lt_of_le hlt hw.size, fun o ho => by rw [oc q o hlt hq.1 hq.2]; exact hc o ho⟩
set_option maxHeartbeats 4000000 in
set_option maxRecDepth 100000 in
theorem mark_noneE (a : Option Addr) (cap : Nat) (z : Int) (w : World) :
    Calls Tryz.prog 56 #[.slice a 0 cap, .int .i64 z] w fun e w' => e = .returned (.int .i64 z) ∧ w' = w := by
  go_enter Tryz.func56, Tryz.ntmps56
  go_wp2
  go_loopw [1, 5] (fun k i wr => k = .int .i64 z ∧ i = .int .i64 (0 : Nat) ∧ Hid (wr = w)) (fun _ _ _ => 0)
  case atStart => exact ⟨rfl, rfl, (rfl : w = w)⟩
  case round =>
    obtain ⟨rfl, rfl, HW⟩ := hrel
    go_wp2
    go_ret
    exact ⟨rfl, HW.out⟩
set_option maxHeartbeats 4000000 in
set_option maxRecDepth 100000 in
theorem held_noneE (a : Option Addr) (cap : Nat) (z : Int) (w : World) :
    Calls Tryz.prog 101 #[.slice a 0 cap, .int .i64 z] w fun e w' => e = .returned (.int .i64 z) ∧ w' = w := by
  go_enter Tryz.func101, Tryz.ntmps101
  go_wp2
  go_loopw [1, 5] (fun k i wr => k = .int .i64 z ∧ i = .int .i64 (0 : Nat) ∧ Hid (wr = w)) (fun _ _ _ => 0)
  case atStart => exact ⟨rfl, rfl, (rfl : w = w)⟩
  case round =>
    obtain ⟨rfl, rfl, HW⟩ := hrel
    go_wp2
    go_ret
    exact ⟨rfl, HW.out⟩
theorem mark_rowsK (es : List Em) (k : Nat) (z : Int) (hz : z = (k : Int)) (a : Option Addr) (cap base hi : Nat) (w : World) (h : EvOut base w (.slice a es.length cap) es) (hu : OutUnder hi (.slice a es.length cap) es) (hl : es.length ≤ 1048576) (hk : kAt k es es.length ≤ 1000000) :
    Calls Tryz.prog 56 #[.slice a es.length cap, .int .i64 z] w fun e w' => e = .returned (.int .i64 (kAt k es es.length : Nat)) ∧ Wk base hi w w' ∧ HeldR base hi a es k w' := by
  subst hz
  by_cases h0 : es.length = 0
  · obtain rfl : es = [] := List.eq_nil_of_length_eq_zero h0
    refine (mark_noneE a cap k w).mono ?_
    rintro e w' ⟨rfl, rfl⟩
    exact ⟨rfl, Wk.refl _ _ _, .inl rfl⟩
  · obtain ⟨b, rfl, hb, hs, hm⟩ := h.spotE hl (by omega)
    have hbh : b < hi := hu.1 b rfl
    have hin : ∀ m ∈ es, 0 < m.v.prev.length → ∀ q, blkM m = some q → base ≤ q ∧ q < hi := fun m hmm hp q hq => by
      obtain ⟨g, hg, hg1, _⟩ := h.blk hmm hp
      have e : g = q := by unfold blkM at hq; rw [hg] at hq; simpa using hq
      exact ⟨by omega, hu.2 m hmm hp q hq⟩
    refine (mark_eventsK es k b cap w hs hk hm h.hap).mono ?_
    rintro e w' ⟨rfl, hM⟩
    exact ⟨rfl, hM.wk ⟨hb, hbh⟩ hin, .inr ⟨b, rfl, hb, hbh, hin, hM.held⟩⟩
theorem held_rowsK (es : List Em) (k : Nat) (z : Int) (hz : z = (k : Int)) (a : Option Addr) (cap lo hi : Nat) (w : World) (h : HeldR lo hi a es k w) (hk : kAt k es es.length ≤ 1000000) :
    Calls Tryz.prog 101 #[.slice a es.length cap, .int .i64 z] w fun e w' => e = .returned (.int .i64 (kAt k es es.length : Nat)) ∧ Below w.heap.size w w' := by
  subst hz
  rcases h with h0 | ⟨b, rfl, _, _, _, h5⟩
  · obtain rfl : es = [] := List.eq_nil_of_length_eq_zero h0
    refine (held_noneE a cap k w).mono ?_
    rintro e w' ⟨rfl, rfl⟩
    exact ⟨rfl, Below.refl _ _⟩
  · exact held_eventsK es k b cap w h5 hk
end Go.Proofs.YtobkinocaomcmaaGreat
