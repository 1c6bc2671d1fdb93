/- The contract of the program's 'joined': the parts' bytes, one behind the other; in new memory. Copies of events: the program. The program's row of a map of events: copies, in the order of their Ids. -/
import Derived.Test.YtobkinocaomcmaaGreatZBytes
import Derived.Test.YtobkinocaomcmaaGreatZGpPut
import Derived.Test.YtobkinocaomcmaaGreatZGpAdd
namespace Go.Proofs.YtobkinocaomcmaaGreat
open Go.RowKit

/-- How many bytes, and which. -/
def sz (ps : List ByteArray) : Nat := (ps.map ByteArray.size).sum
def flat (ps : List ByteArray) : List UInt8 := ps.flatMap fun p => p.data.toList
theorem sz_snoc (ps : List ByteArray) (p : ByteArray) : sz (ps ++ [p]) = sz ps + p.size := by simp [sz]
theorem flat_snoc (ps : List ByteArray) (p : ByteArray) : flat (ps ++ [p]) = flat ps ++ p.data.toList := by simp [flat]
theorem flat_len : ∀ ps : List ByteArray, (flat ps).length = sz ps
  | [] => rfl
  | p :: r => by
    have h := flat_len r
    have e : p.data.toList.length = p.size := rfl
    simp only [flat, sz, List.flatMap_cons, List.map_cons, List.sum_cons, List.length_append] at h ⊢
    omega
theorem take_next {ps : List ByteArray} {k : Nat} (h : k < ps.length) : ps.take (k + 1) = ps.take k ++ [ps[k]] := by
  rw [List.take_succ_eq_append_getElem h]
theorem sz_take_le : ∀ (ps : List ByteArray) (k : Nat), sz (ps.take k) ≤ sz ps
  | [], k => by simp [sz]
  | p :: r, 0 => by simp [sz]
  | p :: r, k + 1 => by
    have h := sz_take_le r k
    simp only [sz, List.take_succ_cons, List.map_cons, List.sum_cons] at h ⊢
    omega
/-- The row when k parts are laid in. -/
def laidRow (ps : List ByteArray) (k : Nat) : List Value := bv (flat (ps.take k)) ++ List.replicate (sz ps - sz (ps.take k)) (.int .u8 0)
theorem laidRow_len (ps : List ByteArray) (k : Nat) : (laidRow ps k).length = sz ps := by
  have h := sz_take_le ps k
  simp only [laidRow, List.length_append, bv_len, flat_len, List.length_replicate]
  omega
theorem laidRow_zero (ps : List ByteArray) : laidRow ps 0 = List.replicate (sz ps) (.int .u8 0) := by simp [laidRow, flat, sz, bv]
theorem laidRow_end (ps : List ByteArray) : laidRow ps ps.length = bv (flat ps) := by simp [laidRow]
theorem laidRow_next {ps : List ByteArray} {k : Nat} (h : k < ps.length) : splice (laidRow ps k) (sz (ps.take k)) (bv ps[k].data.toList) = laidRow ps (k + 1) := by
  have h1 : (bv (flat (ps.take k))).length = sz (ps.take k) := by rw [bv_len, flat_len]
  have e : ps[k].data.toList.length = ps[k].size := rfl
  unfold splice laidRow
  rw [take_next h, flat_snoc, sz_snoc, bv_append, List.append_assoc]
  congr 1
  · rw [← h1]; exact List.take_left
  · congr 1
    rw [bv_len, e, ← h1, List.drop_append, List.drop_eq_nil_of_le (by omega), List.nil_append, List.drop_replicate]
    congr 1
    omega


set_option maxHeartbeats 1000000 in
theorem joined_any (b off cap : Nat) (ps : List ByteArray) (w : World) (hsum : sz ps ≤ 1000000000) (hl : ps.length ≤ 1000000) (hb : b < w.heap.size)
    (hc : ∀ i (h : i < ps.length), w.cell? ⟨b, off + i, none⟩ = some (.string ps[i])) :
    Calls Tryz.prog 118 #[.slice (some ⟨b, off, none⟩) ps.length cap] w fun e w' => e = .returned (.string ⟨(flat ps).toArray⟩) ∧ Below w.heap.size w w' := by
  obtain ⟨i0, hi, hz0, hz1, hz2⟩ := info_parts Tryz.info5
  have HC : Hid (∀ i (h : i < ps.length), w.cell? ⟨b, off + i, none⟩ = some (.string ps[i])) := hc
  clear hc
  go_enter Tryz.func118, Tryz.ntmps118
  go_wp2
  go_loop [3, 12] (fun s i => ∃ k : Nat, k ≤ ps.length ∧ i = .int .i64 k ∧ s = .int .i64 (sz (ps.take k))) (fun _ i => ps.length - (intOf i).toNat)
  case atStart => exact ⟨0, Nat.zero_le _, rfl, by simp [sz]⟩
  case round =>
    obtain ⟨k, hk, rfl, rfl⟩ := hrel
    have hle := sz_take_le ps k
    by_cases hlt : k < ps.length
    · have hck := HC.out k hlt
      have hle1 := sz_take_le ps (k + 1)
      have HS : Hid (sz (ps.take (k + 1)) = sz (ps.take k) + ps[k].size) := by unfold Hid; rw [take_next hlt, sz_snoc]
      have hp : sz (ps.take k) + ps[k].size ≤ 1000000000 := by rw [← HS.out]; omega
      go_wp2
      go_round
      case rel => exact ⟨k + 1, by omega, by go_num, by rw [HS.out]; go_num⟩
      case measure => simp [intOf]; omega
    · have HE : Hid (k = ps.length) := by unfold Hid; omega
      have hE : sz (ps.take k) = sz ps := by rw [HE.out, List.take_length]
      go_wp2_with (at_make; refine wpList_make_full _ rfl _ _ 50 rfl w.heap.size 5 i0 (.int .u8 0) 1 Tryz.underlying50 hi hz0 hz1 .i64 .i64 _ _ (sz ps) rfl rfl (by omega) (by omega) (by rw [hz2]; omega) (by unfold maxLen; omega) (Nat.le_refl _) ?_; intro w0 hown0 hgrow0)
      rw [made_zeros] at hown0
      have hg0 : Hid (w0.heap[w.heap.size]? = some (.cells (laidRow ps 0).toArray 5 (0, 0))) := by
        rcases hown0.2 with ⟨h, _⟩ | ⟨g, c, cur, h, _, h2, _, _, h3, h4⟩
        · cases h
        · cases h
          rw [laidRow_zero, ← h4, List.take_of_length_le (by simp; omega)]
          exact h2
      have hb0 : Below w.heap.size w w0 := (Below.refl _ _).grown hgrow0 (Nat.le_refl _) (fun k h => by cases h)
      have hs0 := hgrow0.size
      clear hown0 hgrow0
      go_wp2
      go_loopw [7, 25] (fun s i wr => ∃ k : Nat, k ≤ ps.length ∧ i = .int .i64 k ∧ s = .int .i64 (sz (ps.take k)) ∧ Hid (wr.heap[w.heap.size]? = some (.cells (laidRow ps k).toArray 5 (0, 0))) ∧ Below w.heap.size w wr) (fun _ i _ => ps.length - (intOf i).toNat)
      case atStart => exact ⟨0, Nat.zero_le _, rfl, by simp [sz], hg0, hb0⟩
      case round =>
        clear hE hle hlt hk
        obtain ⟨m, hm, rfl, rfl, hgm, hbm⟩ := hrel
        have hle := sz_take_le ps m
        by_cases hlt : m < ps.length
        · have hck : wr.cell? ⟨b, off + m, none⟩ = some (.string ps[m]) := by rw [hbm.cell hb]; exact HC.out m hlt
          have hle1 := sz_take_le ps (m + 1)
          have HS : Hid (sz (ps.take (m + 1)) = sz (ps.take m) + ps[m].size) := by unfold Hid; rw [take_next hlt, sz_snoc]
          have hp : sz (ps.take m) + ps[m].size ≤ sz ps := by rw [← HS.out]; omega
          by_cases hz : ps[m].size = 0
          · have hx : ps[m].data.toList = [] := List.eq_nil_of_length_eq_zero hz
            have hg2 : Hid (wr.heap[w.heap.size]? = some (.cells (laidRow ps (m + 1)).toArray 5 (0, 0))) := by
              have h := laidRow_next hlt
              rw [hx] at h
              unfold Hid
              rw [← h]
              simpa [splice, bv] using hgm.out
            have HZ : Hid (ps[m].size = 0) := hz
            have hrun := fun d dLen dCap => run_copy_str0 (P := Tryz.prog) wr 50 9 3 5 d dLen dCap ps[m] Tryz.underlying50 Tryz.one5 hz
            clear hz hx
            go_wp2
            all_goals
              go_roundw
              case rel => exact ⟨m + 1, by omega, by go_num, by rw [HS.out, HZ.out]; go_num, hg2, hbm⟩
              case measure => simp [intOf]; omega
          · have hrun := run_copy_str (P := Tryz.prog) wr 50 9 3 5 w.heap.size (sz (ps.take m)) (sz ps - sz (ps.take m)) (sz ps - sz (ps.take m)) ps[m] (laidRow ps m) 5 Tryz.underlying50 Tryz.one5 hgm.out (by omega) (by rw [laidRow_len]; omega)
            rw [laidRow_next hlt] at hrun
            have hg2 : Hid ((wr.setRow w.heap.size (laidRow ps (m + 1)).toArray).heap[w.heap.size]? = some (.cells (laidRow ps (m + 1)).toArray 5 (0, 0))) := setRow_heap wr w.heap.size _ _ 5 _ hgm.out
            go_wp2
            all_goals
              go_roundw
              case rel => exact ⟨m + 1, by omega, by go_num, by rw [HS.out]; go_num, hg2, below_setRow hbm (Nat.le_refl _) _⟩
              case measure => simp [intOf]; omega
        · have hE : m = ps.length := by omega
          have hg3 := hgm.out
          rw [hE, laidRow_end] at hg3
          have hcv := row_string (P := Tryz.prog) (cap := sz ps) (flat ps) Tryz.underlying50 Tryz.underlying5 Tryz.underlying9 (flat_len ps) hg3
          clear hE hg3
          go_wp2
          go_ret
          exact ⟨rfl, hbm⟩

/-- Two parts, laid out just ahead of the call; and one. -/
theorem joined_two (p q : ByteArray) (T : TypeId) (w : World) (hs : p.size + q.size ≤ 1000000000) :
    Calls Tryz.prog 118 #[.slice (some ⟨w.heap.size, 0, none⟩) 2 2] (w.alloc (.cells #[.string p, .string q] T)) fun e w' => e = .returned (.string ⟨(p.data.toList ++ q.data.toList).toArray⟩) ∧ Below w.heap.size w w' := by
  refine (joined_any w.heap.size 0 2 [p, q] (w.alloc (.cells #[.string p, .string q] T)) (by simpa [sz] using hs) (by simp) (by simp) ?_).mono ?_
  · intro i h
    match i, h with
    | 0, _ => exact World.cell?_alloc_at _ _ _ _ rfl
    | 1, _ => exact World.cell?_alloc_at _ _ _ _ rfl
  · rintro e w' ⟨rfl, hb⟩
    exact ⟨by simp [flat], ((Below.refl _ _).alloc (Nat.le_refl _) _).trans (hb.mono (by simp))⟩
theorem joined_one (p : ByteArray) (T : TypeId) (w : World) (hs : p.size ≤ 1000000000) :
    Calls Tryz.prog 118 #[.slice (some ⟨w.heap.size, 0, none⟩) 1 1] (w.alloc (.cells #[.string p] T)) fun e w' => e = .returned (.string p) ∧ Below w.heap.size w w' := by
  refine (joined_any w.heap.size 0 1 [p] (w.alloc (.cells #[.string p] T)) (by simpa [sz] using hs) (by simp) (by simp) ?_).mono ?_
  · intro i h
    match i, h with
    | 0, _ => exact World.cell?_alloc_at _ _ _ _ rfl
  · rintro e w' ⟨rfl, hb⟩
    exact ⟨by simp [flat], ((Below.refl _ _).alloc (Nat.le_refl _) _).trans (hb.mono (by simp))⟩
end Go.Proofs.YtobkinocaomcmaaGreat
namespace Go.Proofs.YtobkinocaomcmaaGreat
open Go.RowKit

set_option maxHeartbeats 2000000 in
set_option maxRecDepth 100000 in
theorem copy_impl (v : Ev) (a : Option Addr) (cap : Nat) (w : World) (hn : NumsAt w a v.prev) (ht : v.text.size ≤ 1000000000) :
    Calls Tryz.prog 76 #[.agg #[.int .i64 v.id, .int .i64 v.room, .int .i64 v.author, .int .i64 v.kind, .int .i64 v.key, .int .i64 v.n, .string v.text, .slice a v.prev.length cap, .int .i64 v.time]] w (CopyPostC v w) := by
  obtain ⟨i0, hi, hz0, hz1, hz2⟩ := info_parts Tryz.info2
  have HN : Hid (∀ w', Below w.heap.size w w' → NumsAt w' a v.prev) := fun w' hb => hn.kept hb
  have hl := hn.1
  have HB0 : Hid (∀ o1 o2 o3, Below w.heap.size w (((w.alloc o1).alloc o2).alloc o3)) := fun o1 o2 o3 => (((Below.refl _ _).alloc (Nat.le_refl _) _).alloc (by simp) _).alloc (by simp; omega) _
  clear hn
  have HJ := joined_one v.text 9 ((w.alloc (.cells #[.int .i64 v.id, .int .i64 v.room, .int .i64 v.author, .int .i64 v.kind, .int .i64 v.key, .int .i64 v.n, .string v.text, .slice a v.prev.length cap, .int .i64 v.time] 37)).alloc (.cells #[.int .i64 0, .int .i64 0, .int .i64 0, .int .i64 0, .int .i64 0, .int .i64 0, .string ⟨#[]⟩, .slice none 0 0, .int .i64 0] 37)) ht
  rw [show ((w.alloc (.cells #[.int .i64 v.id, .int .i64 v.room, .int .i64 v.author, .int .i64 v.kind, .int .i64 v.key, .int .i64 v.n, .string v.text, .slice a v.prev.length cap, .int .i64 v.time] 37)).alloc (.cells #[.int .i64 0, .int .i64 0, .int .i64 0, .int .i64 0, .int .i64 0, .int .i64 0, .string ⟨#[]⟩, .slice none 0 0, .int .i64 0] 37)).heap.size = w.heap.size + 1 + 1 by simp] at HJ
  go_enter Tryz.func76, Tryz.ntmps76
  go_wp2_with fail
  refine HJ.mono ?_
  rintro e w1 ⟨rfl, hb1⟩
  clear HJ
  have e0 : w1.heap[w.heap.size]? = some (.cells #[.int .i64 v.id, .int .i64 v.room, .int .i64 v.author, .int .i64 v.kind, .int .i64 v.key, .int .i64 v.n, .string v.text, .slice a v.prev.length cap, .int .i64 v.time] 37 (0, 0)) := (hb1.block _ (by omega)).trans ((Below.heap_alloc _ _ _ (by simp)).trans (MapKept.heap_alloc w _).1)
  have e1 : w1.heap[w.heap.size + 1]? = some (.cells #[.int .i64 0, .int .i64 0, .int .i64 0, .int .i64 0, .int .i64 0, .int .i64 0, .string ⟨#[]⟩, .slice none 0 0, .int .i64 0] 37 (0, 0)) := (hb1.block _ (by omega)).trans (new_blockC _ _ _ (by simp))
  have HW1 : Hid (Below w.heap.size w w1) := (((Below.refl _ _).alloc (Nat.le_refl _) _).alloc (by simp) _).trans (hb1.mono (by omega))
  have hzz : w.heap.size + 1 < w1.heap.size := (Array.getElem?_eq_some_iff.1 e1).1
  have HE : Hid (w1.heap[w.heap.size]? = some (.cells #[.int .i64 v.id, .int .i64 v.room, .int .i64 v.author, .int .i64 v.kind, .int .i64 v.key, .int .i64 v.n, .string v.text, .slice a v.prev.length cap, .int .i64 v.time] 37 (0, 0)) ∧ w1.heap[w.heap.size + 1]? = some (.cells #[.int .i64 0, .int .i64 0, .int .i64 0, .int .i64 0, .int .i64 0, .int .i64 0, .string ⟨#[]⟩, .slice none 0 0, .int .i64 0] 37 (0, 0))) := ⟨e0, e1⟩
  have hc0 : ∀ k, w1.cell? ⟨w.heap.size, k, none⟩ = _ := fun k => cell_of_heap e0
  have hf0 : ∀ k, w1.frozen? ⟨w.heap.size, k, none⟩ = false := fun k => frozen_of_heap e0
  have HS : Hid ((w1.setCell ⟨w.heap.size, 6, none⟩ (.string v.text)).heap[w.heap.size]? = some (.cells #[.int .i64 v.id, .int .i64 v.room, .int .i64 v.author, .int .i64 v.kind, .int .i64 v.key, .int .i64 v.n, .string v.text, .slice a v.prev.length cap, .int .i64 v.time] 37 (0, 0))) := by
    have := heap_set (i := 6) e0 (.string v.text)
    simpa [Hid] using this
  clear hb1 e0 e1
  go_wp2_with (at_builtin; refine wpList_append_numsC rfl (.const (.slice none 0 0)) (.tmp 9) 25 rfl w1.heap.size 2 i0 (.int .i64 0) 8 Tryz.underlying25 hi hz0 hz1 hz2 rfl (.slice none 0 0) 0 [] rfl ⟨rfl, .inl ⟨rfl, rfl⟩⟩ a cap v.prev (HN.out _ (HW1.out.setCell (Nat.le_refl _) _)) rfl (by unfold maxLen; omega) (by omega) (by simp) ?_; intro v1 w2 ho hg; rw [Nat.zero_add, List.nil_append] at ho; obtain ⟨a1, cap1, rfl⟩ := own_sliceC ho; have g0 : w2.heap[w.heap.size]? = some (.cells #[.int .i64 v.id, .int .i64 v.room, .int .i64 v.author, .int .i64 v.kind, .int .i64 v.key, .int .i64 v.n, .string v.text, .slice a v.prev.length cap, .int .i64 v.time] 37 (0, 0)) := (hg.block _ (by simp; omega) (by simp [Value.ownBlock])).trans HS.out; have g1 : w2.heap[w.heap.size + 1]? = some (.cells #[.int .i64 0, .int .i64 0, .int .i64 0, .int .i64 0, .int .i64 0, .int .i64 0, .string ⟨#[]⟩, .slice none 0 0, .int .i64 0] 37 (0, 0)) := ((hg.block _ (by simp; omega) (by simp [Value.ownBlock])).trans (Below.heap_setCell _ _ _ _ (by simp))).trans HE.out.2; have HB : Hid (Below w.heap.size w w2) := (HW1.out.setCell (Nat.le_refl _) _).grown hg (by simp; omega) (fun k hk => by cases hk); have HO : Hid (w2.ownsRow (w.heap.size + 2) 2 1 (.slice a1 v.prev.length cap1) v.prev.length (nv v.prev)) := owns_baseC ho (by omega); have hd0 : ∀ k, w2.cell? ⟨w.heap.size, k, none⟩ = _ := (fun k => cell_of_heap g0); have hd1 : ∀ k, w2.cell? ⟨w.heap.size + 1, k, none⟩ = _ := (fun k => cell_of_heap g1); have hg0 : ∀ k, w2.frozen? ⟨w.heap.size, k, none⟩ = false := (fun k => frozen_of_heap g0); have hg1 : ∀ k, w2.frozen? ⟨w.heap.size + 1, k, none⟩ = false := (fun k => frozen_of_heap g1); clear g0 g1 ho hg)
  refine bodyPost_ret (v := .agg #[.int .i64 v.id, .int .i64 v.room, .int .i64 v.author, .int .i64 v.kind, .int .i64 v.key, .int .i64 v.n, .string v.text, .slice a1 v.prev.length cap1, .int .i64 v.time]) (by simp [results, Tryz.results76, go_sem, hd1]) rfl ⟨a1, cap1, rfl, ?_, ?_⟩
  · have h0 : w.heap.size < w.heap.size + 2 := by omega
    have h1 : w.heap.size + 1 < w.heap.size + 2 := by omega
    refine owns_baseC (base := w.heap.size + 2) ?_ (by omega)
    repeat refine ownsRow_setCell_below ?_ (by simp) _
    exact HO.out
  · repeat refine Below.setCell ?_ (by simp) _
    exact HB.out
end Go.Proofs.YtobkinocaomcmaaGreat
namespace Go.Proofs.YtobkinocaomcmaaGreat
open Go.RowKit

def blkM (m : Em) : Option Nat := m.p.map (·.block)
/-- A row of events of one's own, each with numbers of its own, all apart. -/
structure EvOut (base : Nat) (W : World) (v : Value) (rs : List Em) : Prop where
  own : EmsOwn W base v rs
  nums : ∀ m ∈ rs, W.ownsRow base 2 1 (.slice m.p m.v.prev.length m.c) m.v.prev.length (nv m.v.prev)
  apart : rs.Pairwise fun x y => 0 < x.v.prev.length → 0 < y.v.prev.length → blkM x ≠ blkM y
theorem EvOut.kept {base : Nat} {W W' : World} {v : Value} {rs : List Em} (h : EvOut base W v rs) (hb : Below W.heap.size W W') : EvOut base W' v rs :=
  ⟨h.own.kept hb, fun m hm => rowI_kept (h.nums m hm) hb, h.apart⟩
theorem rowI_at {w : World} {base c : Nat} {a : Option Addr} {zs : List Int} (h : w.ownsRow base 2 1 (.slice a zs.length c) zs.length (nv zs)) (hl : zs.length ≤ 1048576) : NumsAt w a zs := by
  obtain ⟨a', c', e, _, h1, _⟩ := NumsOwn.at (zs := zs) h hl
  cases e
  exact h1
theorem EvOut.at {base : Nat} {W : World} {v : Value} {rs : List Em} (h : EvOut base W v rs) (hl : rs.length ≤ 1000) (hp : ∀ m ∈ rs, m.v.prev.length ≤ 1000) : ∃ a c, v = .slice a rs.length c ∧ EvsAt W a rs := by
  obtain ⟨a, c, e, _, h1, _⟩ := h.own.at (by omega)
  exact ⟨a, c, e, h1.evs fun m hm => rowI_at (h.nums m hm) (by have := hp m hm; omega)⟩
/-- Where the numbers of an event lie. -/
theorem EvOut.blk {base : Nat} {W : World} {v : Value} {rs : List Em} (h : EvOut base W v rs) {m : Em} (hm : m ∈ rs) (hp : 0 < m.v.prev.length) : ∃ g, m.p = some ⟨g, 0, none⟩ ∧ base ≤ g ∧ g < W.heap.size := by
  rcases (h.nums m hm).2 with ⟨h1, h0⟩ | ⟨g, cap, cur, h1, h2, h3, _⟩
  · omega
  · exact ⟨g, by injection h1, h2, (Array.getElem?_eq_some_iff.1 h3).1⟩
theorem wpList_append_ems2 {w : World} {ops : Array Oper} {rest : List Oper} {o : Oper} {a : Act} {Q : Exit → Act → World → Prop} (hgd : o.guard = none) (s x : Operand) (t : TypeId)
    (ho : o.op = .call { callee := .builtin .append, args := #[s, x], argTypes := #[t, t] })
    (i : TypeInfo) (z : Value) (ht : Tryz.prog.underlying t = some (.slice 37)) (hi : Tryz.prog.info? 37 = some i) (hz : i.zero = some z)
    (hsize : i.size = 9) (hby : i.bytes = 96) (hzs : z.cells.size = 9)
    (base : Nat) (v : Value) (xs : List Em) (hs : a.eval s = v) (hown : EmsOwn w base v xs)
    (b : Nat) (cap : Nat) (y : Em) (hn : w.heap[b]? = some (.cells (emCells y).toArray 37 (0, 0))) (hx : a.eval x = .slice (some ⟨b, 0, none⟩) 1 cap)
    (hb : xs.length + 1 ≤ 1000000) (hbase : base ≤ w.heap.size)
    (h : ∀ v' w', EmsOwn w' base v' (xs ++ [y]) → w.grownBy w' v.ownBlock → wpList Tryz.prog ops Q rest (a.put o.dst v') w') : wpList Tryz.prog ops Q (o :: rest) a w := by
  refine wpList_append_own w hgd s x t ho base _ i z 9 96 ht hi hz hsize hby hzs (by decide) v xs.length (mcs xs) hs hown ⟨b, 0, none⟩ 1 cap (mcs [y]) hx (mcs_len [y]) (fun j u hj => ?_) (mcs_one [y]) (by unfold maxLen; omega) (by omega) hbase (fun v' w' h1 h2 _ => h v' w' ?_ h2)
  · rw [Addr.add_lit, cell_of_heap hn]
    rw [mcs_one_cons] at hj
    simpa using hj
  · unfold EmsOwn
    rw [mcs_append, List.length_append]
    exact h1
/-- While the row is made. -/
structure RO (w : World) (b n : Nat) (es : List Em) (a : Option Addr) (c k : Nat) (v : Value) (rs : List Em) (W : World) : Prop where
  below : Below w.heap.size w W
  map : EMap W b n es
  nums : ∀ m ∈ es, NumsAt W m.p m.v.prev
  ids : W.ownsRow (w.heap.size + 1) 2 1 (.slice a es.length c) es.length (nv (idsOf es))
  low : ∀ m ∈ es, LowM w.heap.size m
  mlt : b < w.heap.size
  own : EmsOwn W w.heap.size v rs
  rows : ∀ m ∈ rs, W.ownsRow w.heap.size 2 1 (.slice m.p m.v.prev.length m.c) m.v.prev.length (nv m.v.prev)
  apart : rs.Pairwise fun x y => 0 < x.v.prev.length → 0 < y.v.prev.length → blkM x ≠ blkM y
  same : vs rs = vs (es.take k)
theorem RO.on {w : World} {b n : Nat} {es : List Em} {a : Option Addr} {c k : Nat} {v : Value} {rs : List Em} {W W' : World} (h : RO w b n es a c k v rs W) (hb : Below W.heap.size W W') : RO w b n es a c k v rs W' :=
  ⟨h.below.trans (hb.mono h.below.size), h.map.kept hb, fun m hm => (h.nums m hm).kept hb, rowI_kept h.ids hb, h.low, h.mlt, h.own.kept hb, fun m hm => rowI_kept (h.rows m hm) hb, h.apart, h.same⟩
theorem blk_some {w : World} {base c : Nat} {a : Option Addr} {zs : List Int} (h : w.ownsRow base 2 1 (.slice a zs.length c) zs.length (nv zs)) (hp : 0 < zs.length) : ∃ g, a = some ⟨g, 0, none⟩ ∧ base ≤ g ∧ g < w.heap.size := by
  rcases h.2 with ⟨h1, h0⟩ | ⟨g, cap, cur, h1, h2, h3, _⟩
  · omega
  · exact ⟨g, by injection h1, h2, (Array.getElem?_eq_some_iff.1 h3).1⟩
/-- One event more. -/
theorem RO.more {w : World} {b n : Nat} {es : List Em} {a : Option Addr} {c k : Nat} {v v' : Value} {rs : List Em} {W W1 W2 W3 : World} {a4 : Option Addr} {c4 : Nat} (h : RO w b n es a c k v rs W) (hk : k < es.length)
    (hb1 : Below W.heap.size W W1) (ho : W1.ownsRow W.heap.size 2 1 (.slice a4 es[k].v.prev.length c4) es[k].v.prev.length (nv es[k].v.prev)) (hb2 : Below W1.heap.size W1 W2) (hown : EmsOwn W3 w.heap.size v' (rs ++ [Em.mk es[k].v a4 c4])) (hg : W2.grownBy W3 v.ownBlock) : RO w b n es a c (k + 1) v' (rs ++ [Em.mk es[k].v a4 c4]) W3 := by
  have h2 := (h.on hb1).on hb2
  have ho2 := rowI_kept ho hb2
  have hz := h.below.size
  have hvb : ∀ g, v.ownBlock = some g → w.heap.size ≤ g ∧ g < W2.heap.size := fun g hg => by
    rcases h2.own.2 with ⟨rfl, _⟩ | ⟨q, cap, cur, rfl, q2, q3, _⟩
    · cases hg
    · have e2 : q = g := by simpa [Value.ownBlock] using hg
      subst e2
      exact ⟨q2, (Array.getElem?_eq_some_iff.1 q3).1⟩
  have hbe : Below w.heap.size W2 W3 := ⟨hg.os, hg.tape, hg.output, hg.size, fun q hq => hg.block q (Nat.lt_of_lt_of_le hq h2.below.size) (fun e => by have := (hvb q e.symm).1; omega)⟩
  have hlen : (vs es).length = es.length := vs_length es
  refine ⟨h2.below.trans hbe, h2.map.block (hbe.block _ h.mlt), fun m hm => (h2.nums m hm).low (h.low m hm) hbe (Nat.le_refl _), rowI_grown h2.ids hg fun g hgg => rowI_far h2.own h2.ids hgg, h.low, h.mlt, hown, fun m hm => ?_, ?_, ?_⟩
  · rcases List.mem_append.1 hm with hm | hm
    · exact rowI_grown (h2.rows m hm) hg fun g hgg => rowI_far h2.own (h2.rows m hm) hgg
    · obtain rfl : m = Em.mk es[k].v a4 c4 := by simpa using hm
      exact rowI_grown (owns_baseC ho2 hz) hg fun g hgg => rowI_far h2.own ho2 hgg
  · refine List.pairwise_append.2 ⟨h.apart, List.pairwise_singleton _ _, fun x hx y hy px py => ?_⟩
    obtain rfl : y = Em.mk es[k].v a4 c4 := by simpa using hy
    obtain ⟨g1, e1, _, l1⟩ := blk_some (h.rows x hx) px
    obtain ⟨g2, e2, l2, _⟩ := blk_some ho py
    unfold blkM
    rw [e1]
    simp only
    rw [e2]
    simp
    omega
  · have hs := h.same
    unfold vs at hs ⊢
    rw [List.map_append, hs, List.take_succ_eq_append_getElem hk, List.map_append]
    rfl
set_option maxHeartbeats 8000000 in
set_option maxRecDepth 100000 in
theorem rowOf_impl (b n : Nat) (es : List Em) (w : World) (h : EMap w b n es) (hn : ∀ m ∈ es, NumsAt w m.p m.v.prev) (hok : ∀ m ∈ es, OkM m) (hl : es.length ≤ 60) :
    Calls Tryz.prog 99 #[.map (some b)] w fun e w' => ∃ v rs, e = .returned v ∧ vs rs = vs es ∧ EvOut w.heap.size w' v rs ∧ Below w.heap.size w w' := by
  obtain ⟨i0, hi, hz0, hz1, hz2⟩ := info_parts Tryz.infoEv
  have H : Hid (EMap w b n es ∧ (∀ m ∈ es, NumsAt w m.p m.v.prev) ∧ ∀ m ∈ es, OkM m) := ⟨h, hn, hok⟩
  clear h hn hok
  go_enter Tryz.func99, Tryz.ntmps99
  go_wp2_with fail
  refine (keys_call (some b) w).mono ?_
  rintro e wk ⟨rfl, rfl⟩
  go_wp2_with fail
  refine (sorted_rows b n es w H.out.1 (by omega)).mono ?_
  rintro e w3 ⟨a, c, rfl, hr3, hb3⟩
  have HR3 : Hid (RO w b n es a c 0 (.slice none 0 0) [] w3) := by
    have hb : Below w.heap.size w w3 := ((Below.refl _ _).alloc (Nat.le_refl _) _).trans (hb3.mono (by omega))
    exact ⟨hb, H.out.1.kept hb, fun m hm => (H.out.2.1 m hm).kept hb, hr3, fun m hm => lowM_of (H.out.2.1 m hm), H.out.1.lt, EmsOwn.nil _ _, fun m hm => absurd hm (by simp), List.Pairwise.nil, by simp [vs]⟩
  clear hr3 hb3
  go_wp2
  go_loopw [3, 5, 10] (fun v _ i wr => ∃ (k : Nat) (rs : List Em), k ≤ es.length ∧ i = .int .i64 k ∧ Hid (RO w b n es a c k v rs wr)) (fun _ _ i _ => es.length - (intOf i).toNat)
  case atStart => exact ⟨0, [], Nat.zero_le _, rfl, HR3⟩
  case round =>
    clear HR3
    obtain ⟨k, rs, hk, rfl, HR⟩ := hrel
    by_cases hlt : k < es.length
    · have hd : decide ((k : Int) < (es.length : Int)) = true := decide_eq_true (by omega)
      have hin : es[k] ∈ es := List.getElem_mem hlt
      have hidl : (idsOf es).length = es.length := by simp [idsOf]
      have hids : NumsAt wr a (idsOf es) := rowI_at (zs := idsOf es) (c := c) (base := w.heap.size + 1) (by rw [hidl]; exact HR.out.ids) (by omega)
      obtain ⟨g, off, rfl, hg, hcell⟩ := hids.2 (by omega)
      have hc0 : wr.cell? ⟨g, off + k, none⟩ = some (.int .i64 es[k].v.id) := by
        have := hcell k (by omega)
        rw [this]
        simp [idsOf]
      have hlk : (Instr.lookup 74 (.map (some b)) (.int .i64 es[k].v.id) false).run Tryz.prog wr = .ok (.agg #[.int .i64 es[k].v.id, .int .i64 es[k].v.room, .int .i64 es[k].v.author, .int .i64 es[k].v.kind, .int .i64 es[k].v.key, .int .i64 es[k].v.n, .string es[k].v.text, .slice es[k].p es[k].v.prev.length es[k].c, .int .i64 es[k].v.time]) wr := HR.out.map.look hin (H.out.2.2 _ hin).1
      have hrl : rs.length = k := by
        have := congrArg List.length HR.out.same
        rw [vs_length, vs_length, List.length_take] at this
        omega
      clear hcell hids
      go_wp2_with fail
      refine (copy_impl es[k].v es[k].p es[k].c wr (HR.out.nums _ hin) (by have := (H.out.2.2 _ hin).2.2.1; omega)).mono ?_
      rintro e w4 ⟨a4, c4, rfl, ho4, hb4⟩
      have H4 : Hid (w4.ownsRow wr.heap.size 2 1 (.slice a4 es[k].v.prev.length c4) es[k].v.prev.length (nv es[k].v.prev) ∧ Below wr.heap.size wr w4 ∧ ∀ o, RO w b n es (some ⟨g, off, none⟩) c k u3 rs (w4.alloc o)) := ⟨ho4, hb4, fun o => (HR.out.on hb4).on ((Below.refl _ _).alloc (Nat.le_refl _) _)⟩
      have hz4 : w.heap.size ≤ w4.heap.size := Nat.le_trans HR.out.below.size hb4.size
      clear ho4 hb4 hlk hc0
      go_wp2_with (at_builtin; refine wpList_append_ems2 rfl _ _ 30 rfl i0 _ Tryz.underlying30 hi hz0 hz1 hz2 rfl w.heap.size _ rs rfl (H4.out.2.2 _).own _ _ (Em.mk es[k].v a4 c4) (MapKept.heap_alloc _ _).1 rfl (by omega) (by simp; omega) ?_; intro v5 w5 hO5 hg5; have H5 : Hid (RO w b n es (some ⟨g, off, none⟩) c (k + 1) v5 (rs ++ [Em.mk es[k].v a4 c4]) w5) := HR.out.more hlt H4.out.2.1 H4.out.1 ((Below.refl _ _).alloc (Nat.le_refl _) _) hO5 hg5; clear hO5 hg5)
      go_roundw
      case rel => exact ⟨k + 1, _, by omega, by go_num, H5⟩
      case measure => simp [intOf]; omega
    · have e : k = es.length := by omega
      subst e
      have hd : decide ((es.length : Int) < (es.length : Int)) = false := decide_eq_false (by omega)
      go_wp2
      go_ret
      exact ⟨_, rs, rfl, by rw [HR.out.same, List.take_length], ⟨HR.out.own, HR.out.rows, HR.out.apart⟩, HR.out.below⟩
end Go.Proofs.YtobkinocaomcmaaGreat
