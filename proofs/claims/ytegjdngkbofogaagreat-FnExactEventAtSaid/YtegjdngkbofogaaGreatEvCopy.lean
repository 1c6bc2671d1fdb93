/- Copies of events: the program. -/
import Derived.Test.YtegjdngkbofogaaGreatEvCopyS
import Derived.Test.YtegjdngkbofogaaGreatJoin
namespace Go.Proofs.YtegjdngkbofogaaGreat
open Go.RowKit

set_option maxHeartbeats 2000000 in
set_option maxRecDepth 100000 in
theorem copy_impl (v : Ev) (a : Option Addr) (cap : Nat) (w : World) (hn : NumsAt w a v.prev) (ht : v.text.size ≤ 1000000000) :
    Calls Tryz.prog 35 #[.agg #[.int .i64 v.id, .int .i64 v.room, .int .i64 v.author, .int .i64 v.kind, .int .i64 v.key, .int .i64 v.n, .string v.text, .slice a v.prev.length cap, .int .i64 v.time]] w (CopyPostC v w) := by
  obtain ⟨i0, hi, hz0, hz1, hz2⟩ := info_parts Tryz.info2
  have HN : Hid (∀ w', Below w.heap.size w w' → NumsAt w' a v.prev) := fun w' hb => hn.kept hb
  have hl := hn.1
  have HB0 : Hid (∀ o1 o2 o3, Below w.heap.size w (((w.alloc o1).alloc o2).alloc o3)) := fun o1 o2 o3 => (((Below.refl _ _).alloc (Nat.le_refl _) _).alloc (by simp) _).alloc (by simp; omega) _
  clear hn
  have HJ := joined_one v.text 9 ((w.alloc (.cells #[.int .i64 v.id, .int .i64 v.room, .int .i64 v.author, .int .i64 v.kind, .int .i64 v.key, .int .i64 v.n, .string v.text, .slice a v.prev.length cap, .int .i64 v.time] 28)).alloc (.cells #[.int .i64 0, .int .i64 0, .int .i64 0, .int .i64 0, .int .i64 0, .int .i64 0, .string ⟨#[]⟩, .slice none 0 0, .int .i64 0] 28)) ht
  rw [show ((w.alloc (.cells #[.int .i64 v.id, .int .i64 v.room, .int .i64 v.author, .int .i64 v.kind, .int .i64 v.key, .int .i64 v.n, .string v.text, .slice a v.prev.length cap, .int .i64 v.time] 28)).alloc (.cells #[.int .i64 0, .int .i64 0, .int .i64 0, .int .i64 0, .int .i64 0, .int .i64 0, .string ⟨#[]⟩, .slice none 0 0, .int .i64 0] 28)).heap.size = w.heap.size + 1 + 1 by simp] at HJ
  go_enter Tryz.func35, Tryz.ntmps35
  go_wp2_with fail
  refine HJ.mono ?_
  rintro e w1 ⟨rfl, hb1⟩
  clear HJ
  have e0 : w1.heap[w.heap.size]? = some (.cells #[.int .i64 v.id, .int .i64 v.room, .int .i64 v.author, .int .i64 v.kind, .int .i64 v.key, .int .i64 v.n, .string v.text, .slice a v.prev.length cap, .int .i64 v.time] 28 (0, 0)) := (hb1.block _ (by omega)).trans ((Below.heap_alloc _ _ _ (by simp)).trans (MapKept.heap_alloc w _).1)
  have e1 : w1.heap[w.heap.size + 1]? = some (.cells #[.int .i64 0, .int .i64 0, .int .i64 0, .int .i64 0, .int .i64 0, .int .i64 0, .string ⟨#[]⟩, .slice none 0 0, .int .i64 0] 28 (0, 0)) := (hb1.block _ (by omega)).trans (new_blockC _ _ _ (by simp))
  have HW1 : Hid (Below w.heap.size w w1) := (((Below.refl _ _).alloc (Nat.le_refl _) _).alloc (by simp) _).trans (hb1.mono (by omega))
  have hzz : w.heap.size + 1 < w1.heap.size := (Array.getElem?_eq_some_iff.1 e1).1
  have HE : Hid (w1.heap[w.heap.size]? = some (.cells #[.int .i64 v.id, .int .i64 v.room, .int .i64 v.author, .int .i64 v.kind, .int .i64 v.key, .int .i64 v.n, .string v.text, .slice a v.prev.length cap, .int .i64 v.time] 28 (0, 0)) ∧ w1.heap[w.heap.size + 1]? = some (.cells #[.int .i64 0, .int .i64 0, .int .i64 0, .int .i64 0, .int .i64 0, .int .i64 0, .string ⟨#[]⟩, .slice none 0 0, .int .i64 0] 28 (0, 0))) := ⟨e0, e1⟩
  have hc0 : ∀ k, w1.cell? ⟨w.heap.size, k, none⟩ = _ := fun k => cell_of_heap e0
  have hf0 : ∀ k, w1.frozen? ⟨w.heap.size, k, none⟩ = false := fun k => frozen_of_heap e0
  have HS : Hid ((w1.setCell ⟨w.heap.size, 6, none⟩ (.string v.text)).heap[w.heap.size]? = some (.cells #[.int .i64 v.id, .int .i64 v.room, .int .i64 v.author, .int .i64 v.kind, .int .i64 v.key, .int .i64 v.n, .string v.text, .slice a v.prev.length cap, .int .i64 v.time] 28 (0, 0))) := by
    have := heap_set (i := 6) e0 (.string v.text)
    simpa [Hid] using this
  clear hb1 e0 e1
  go_wp2_with (at_builtin; refine wpList_append_numsC rfl (.const (.slice none 0 0)) (.tmp 9) 26 rfl w1.heap.size 2 i0 (.int .i64 0) 8 Tryz.underlying26 hi hz0 hz1 hz2 rfl (.slice none 0 0) 0 [] rfl ⟨rfl, .inl ⟨rfl, rfl⟩⟩ a cap v.prev (HN.out _ (HW1.out.setCell (Nat.le_refl _) _)) rfl (by unfold maxLen; omega) (by omega) (by simp) ?_; intro v1 w2 ho hg; rw [Nat.zero_add, List.nil_append] at ho; obtain ⟨a1, cap1, rfl⟩ := own_sliceC ho; have g0 : w2.heap[w.heap.size]? = some (.cells #[.int .i64 v.id, .int .i64 v.room, .int .i64 v.author, .int .i64 v.kind, .int .i64 v.key, .int .i64 v.n, .string v.text, .slice a v.prev.length cap, .int .i64 v.time] 28 (0, 0)) := (hg.block _ (by simp; omega) (by simp [Value.ownBlock])).trans HS.out; have g1 : w2.heap[w.heap.size + 1]? = some (.cells #[.int .i64 0, .int .i64 0, .int .i64 0, .int .i64 0, .int .i64 0, .int .i64 0, .string ⟨#[]⟩, .slice none 0 0, .int .i64 0] 28 (0, 0)) := ((hg.block _ (by simp; omega) (by simp [Value.ownBlock])).trans (Below.heap_setCell _ _ _ _ (by simp))).trans HE.out.2; have HB : Hid (Below w.heap.size w w2) := (HW1.out.setCell (Nat.le_refl _) _).grown hg (by simp; omega) (fun k hk => by cases hk); have HO : Hid (w2.ownsRow (w.heap.size + 2) 2 1 (.slice a1 v.prev.length cap1) v.prev.length (nv v.prev)) := owns_baseC ho (by omega); have hd0 : ∀ k, w2.cell? ⟨w.heap.size, k, none⟩ = _ := (fun k => cell_of_heap g0); have hd1 : ∀ k, w2.cell? ⟨w.heap.size + 1, k, none⟩ = _ := (fun k => cell_of_heap g1); have hg0 : ∀ k, w2.frozen? ⟨w.heap.size, k, none⟩ = false := (fun k => frozen_of_heap g0); have hg1 : ∀ k, w2.frozen? ⟨w.heap.size + 1, k, none⟩ = false := (fun k => frozen_of_heap g1); clear g0 g1 ho hg)
  refine bodyPost_ret (v := .agg #[.int .i64 v.id, .int .i64 v.room, .int .i64 v.author, .int .i64 v.kind, .int .i64 v.key, .int .i64 v.n, .string v.text, .slice a1 v.prev.length cap1, .int .i64 v.time]) (by simp [results, Tryz.results35, go_sem, hd1]) rfl ⟨a1, cap1, rfl, ?_, ?_⟩
  · have h0 : w.heap.size < w.heap.size + 2 := by omega
    have h1 : w.heap.size + 1 < w.heap.size + 2 := by omega
    refine owns_baseC (base := w.heap.size + 2) ?_ (by omega)
    repeat refine ownsRow_setCell_below ?_ (by simp) _
    exact HO.out
  · repeat refine Below.setCell ?_ (by simp) _
    exact HB.out
end Go.Proofs.YtegjdngkbofogaaGreat
