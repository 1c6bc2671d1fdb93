/- The program's events by their Ids, in a map. -/
import Derived.Test.YtobkinocaomcmaaGreatZGrRowI
import Derived.Maps.OwnSet
import Derived.Maps.Range
import Derived.WalkArith
namespace Go.Proofs.YtobkinocaomcmaaGreat
open Go.RowKit

/-- An element of a map reads as itself. -/
def heldR (v : Value) : Option (DataW Value × List MemPlace) := some (.held v, [])
def emVal (m : Em) : Value := .agg (emCells m).toArray
/-- A map with a row's events put in, one by one. -/
def putAll (es : List Em) : DataW Value := es.foldl (fun D m => D.put (.int .i64 m.v.id) (.held (emVal m))) (.map [])
theorem putAll_snoc {es : List Em} {k : Nat} (h : k < es.length) : putAll (es.take (k + 1)) = (putAll (es.take k)).put (.int .i64 es[k].v.id) (.held (emVal es[k])) := by
  unfold putAll
  rw [List.take_succ_eq_append_getElem h, List.foldl_append]
  rfl
def IdIn (m : Em) : Prop := 1 ≤ m.v.id ∧ m.v.id ≤ 1000000
theorem idIn_wf {m : Em} (h : IdIn m) : (Lit.int .i64 m.v.id).wf = true := by
  obtain ⟨h1, h2⟩ := h
  exact WalkArith.wf_i64 ⟨by omega, by omega⟩
theorem run_makeMap_hint {P : Program} {t k e : TypeId} (ht : P.underlying t = some (.map k e)) (n : Int) (w : World) : (Instr.makeMap t (some (.int .i64 n))).run P w = .ok (.map (some w.heap.size)) (w.alloc (.map #[] 0)) := by
  simp [Instr.makeMap, run_underlying ht, asInt]
  rfl
set_option maxHeartbeats 4000000 in
set_option maxRecDepth 100000 in
theorem byId_impl (es : List Em) (a : Option Addr) (cap : Nat) (w : World) (h : EvsAt w a es) (hid : ∀ m ∈ es, IdIn m) (hl : es.length ≤ 60) :
    Calls Tryz.prog 91 #[.slice a es.length cap] w fun e w' => e = .returned (.map (some w.heap.size)) ∧ w'.ownsMap Tryz.prog 2 heldR w.heap.size es.length (putAll es) ∧ Below w.heap.size w w' := by
  have H : Hid (EvsAt w a es ∧ ∀ m ∈ es, IdIn m) := ⟨h, hid⟩
  clear h hid
  have hmm := @run_makeMap_hint Tryz.prog 74 _ _ Tryz.underlying74
  have K := Maps.int_keyed (P := Tryz.prog) Tryz.underlying2
  go_enter Tryz.func91, Tryz.ntmps91
  go_wp2
  go_loopw [11] (fun i wr => ∃ k : Nat, k ≤ es.length ∧ i = .int .i64 k ∧ Hid (wr.ownsMap Tryz.prog 2 heldR w.heap.size k (putAll (es.take k)) ∧ Below w.heap.size w wr)) (fun i _ => es.length - (intOf i).toNat)
  case atStart => exact ⟨0, Nat.zero_le _, rfl, World.ownsMap_made w _ _ _, (Below.refl _ _).alloc (Nat.le_refl _) _⟩
  case round =>
    obtain ⟨k, hk, rfl, HM⟩ := hrel
    by_cases hlt : k < es.length
    · have HE : Hid (EvsAt wr a es) := H.out.1.kept HM.out.2
      obtain ⟨b, off, rfl, hbb, hcell⟩ := HE.out.row (by omega)
      have hc0 : wr.cell? ⟨b, off + k * 9, none⟩ = some (.int .i64 es[k].v.id) := hcell k hlt 0 (by omega)
      have hc1 : wr.cell? ⟨b, off + k * 9 + 1, none⟩ = some (.int .i64 es[k].v.room) := by rw [Nat.add_assoc]; exact hcell k hlt 1 (by omega)
      have hc2 : wr.cell? ⟨b, off + k * 9 + 2, none⟩ = some (.int .i64 es[k].v.author) := by rw [Nat.add_assoc]; exact hcell k hlt 2 (by omega)
      have hc3 : wr.cell? ⟨b, off + k * 9 + 3, none⟩ = some (.int .i64 es[k].v.kind) := by rw [Nat.add_assoc]; exact hcell k hlt 3 (by omega)
      have hc4 : wr.cell? ⟨b, off + k * 9 + 4, none⟩ = some (.int .i64 es[k].v.key) := by rw [Nat.add_assoc]; exact hcell k hlt 4 (by omega)
      have hc5 : wr.cell? ⟨b, off + k * 9 + 5, none⟩ = some (.int .i64 es[k].v.n) := by rw [Nat.add_assoc]; exact hcell k hlt 5 (by omega)
      have hc6 : wr.cell? ⟨b, off + k * 9 + 6, none⟩ = some (.string es[k].v.text) := by rw [Nat.add_assoc]; exact hcell k hlt 6 (by omega)
      have hc7 : wr.cell? ⟨b, off + k * 9 + 7, none⟩ = some (.slice es[k].p es[k].v.prev.length es[k].c) := by rw [Nat.add_assoc]; exact hcell k hlt 7 (by omega)
      have hc8 : wr.cell? ⟨b, off + k * 9 + 8, none⟩ = some (.int .i64 es[k].v.time) := by rw [Nat.add_assoc]; exact hcell k hlt 8 (by omega)
      clear hcell
      have HK : Hid (keyOf Tryz.prog 2 (.int .i64 es[k].v.id) = some (.int .i64 es[k].v.id)) := Maps.keyOf_int_mk Tryz.underlying2 (idIn_wf (H.out.2 _ (List.getElem_mem hlt)))
      go_wp2_with (at_mapUpdate; refine wpList_mapUpdate_own _ rfl _ _ _ 74 rfl 2 37 K Tryz.underlying74 heldR w.heap.size k (putAll (es.take k)) rfl (HM.out.1.alloc _) (by unfold maxLen; omega) _ _ _ rfl rfl HK.out _ [] rfl ?_; intro w2 hown2 hgrow2; have HM2 : Hid (w2.ownsMap Tryz.prog 2 heldR w.heap.size (k + 1) (putAll (es.take (k + 1))) ∧ Below w.heap.size w w2) := ⟨(by rw [putAll_snoc hlt]; exact hown2), (HM.out.2.alloc HM.out.2.size _).grown hgrow2 (by have := HM.out.2.size; simp; omega) (fun q hq => by cases hq; omega)⟩; clear hown2 hgrow2)
      exact ⟨⟨k + 1, by omega, by go_num, HM2⟩, by simp [intOf]; omega⟩
    · have HS : Hid (wr.ownsMap Tryz.prog 2 heldR w.heap.size es.length (putAll es)) := by
        have e : k = es.length := by omega
        have h1 := HM.out.1
        rw [e, List.take_length] at h1
        exact h1
      go_wp2
      go_ret
      exact ⟨rfl, HS.out, HM.out.2⟩
end Go.Proofs.YtobkinocaomcmaaGreat
