/- The contract of the program's 'joined': the parts' bytes, one behind the other; in new memory. -/
import Derived.Test.YtjdkenopfnepaaaBytes
namespace Go.Proofs.Ytjdkenopfnepaaa
open Go.RowKit

/-- How many bytes, and which. -/
def sz (ps : List ByteArray) : Nat := (ps.map ByteArray.size).sum
def flat (ps : List ByteArray) : List UInt8 := ps.flatMap fun p => p.data.toList
theorem sz_snoc (ps : List ByteArray) (p : ByteArray) : sz (ps ++ [p]) = sz ps + p.size := by simp [sz]
theorem flat_snoc (ps : List ByteArray) (p : ByteArray) : flat (ps ++ [p]) = flat ps ++ p.data.toList := by simp [flat]
theorem flat_len : ∀ ps : List ByteArray, (flat ps).length = sz ps
  | [] => rfl
  | p :: r => by
    have h := flat_len r
    have e : p.data.toList.length = p.size := rfl
    simp only [flat, sz, List.flatMap_cons, List.map_cons, List.sum_cons, List.length_append] at h ⊢
    omega
theorem take_next {ps : List ByteArray} {k : Nat} (h : k < ps.length) : ps.take (k + 1) = ps.take k ++ [ps[k]] := by
  rw [List.take_succ_eq_append_getElem h]
theorem sz_take_le : ∀ (ps : List ByteArray) (k : Nat), sz (ps.take k) ≤ sz ps
  | [], k => by simp [sz]
  | p :: r, 0 => by simp [sz]
  | p :: r, k + 1 => by
    have h := sz_take_le r k
    simp only [sz, List.take_succ_cons, List.map_cons, List.sum_cons] at h ⊢
    omega
/-- The row when k parts are laid in. -/
def laidRow (ps : List ByteArray) (k : Nat) : List Value := bv (flat (ps.take k)) ++ List.replicate (sz ps - sz (ps.take k)) (.int .u8 0)
theorem laidRow_len (ps : List ByteArray) (k : Nat) : (laidRow ps k).length = sz ps := by
  have h := sz_take_le ps k
  simp only [laidRow, List.length_append, bv_len, flat_len, List.length_replicate]
  omega
theorem laidRow_zero (ps : List ByteArray) : laidRow ps 0 = List.replicate (sz ps) (.int .u8 0) := by simp [laidRow, flat, sz, bv]
theorem laidRow_end (ps : List ByteArray) : laidRow ps ps.length = bv (flat ps) := by simp [laidRow]
theorem laidRow_next {ps : List ByteArray} {k : Nat} (h : k < ps.length) : splice (laidRow ps k) (sz (ps.take k)) (bv ps[k].data.toList) = laidRow ps (k + 1) := by
  have h1 : (bv (flat (ps.take k))).length = sz (ps.take k) := by rw [bv_len, flat_len]
  have e : ps[k].data.toList.length = ps[k].size := rfl
  unfold splice laidRow
  rw [take_next h, flat_snoc, sz_snoc, bv_append, List.append_assoc]
  congr 1
  · rw [← h1]; exact List.take_left
  · congr 1
    rw [bv_len, e, ← h1, List.drop_append, List.drop_eq_nil_of_le (by omega), List.nil_append, List.drop_replicate]
    congr 1
    omega


set_option maxHeartbeats 1000000 in
theorem joined_any (b off cap : Nat) (ps : List ByteArray) (w : World) (hsum : sz ps ≤ 1000000000) (hl : ps.length ≤ 1000000) (hb : b < w.heap.size)
    (hc : ∀ i (h : i < ps.length), w.cell? ⟨b, off + i, none⟩ = some (.string ps[i])) :
    Calls Try.prog 47 #[.slice (some ⟨b, off, none⟩) ps.length cap] w fun e w' => e = .returned (.string ⟨(flat ps).toArray⟩) ∧ Below w.heap.size w w' := by
  obtain ⟨i0, hi, hz0, hz1, hz2⟩ := info_parts Try.info5
  have HC : Hid (∀ i (h : i < ps.length), w.cell? ⟨b, off + i, none⟩ = some (.string ps[i])) := hc
  clear hc
  go_enter Try.func47, Try.ntmps47
  go_wp2
  go_loop [3, 12] (fun s i => ∃ k : Nat, k ≤ ps.length ∧ i = .int .i64 k ∧ s = .int .i64 (sz (ps.take k))) (fun _ i => ps.length - (intOf i).toNat)
  case atStart => exact ⟨0, Nat.zero_le _, rfl, by simp [sz]⟩
  case round =>
    obtain ⟨k, hk, rfl, rfl⟩ := hrel
    have hle := sz_take_le ps k
    by_cases hlt : k < ps.length
    · have hck := HC.out k hlt
      have hle1 := sz_take_le ps (k + 1)
      have HS : Hid (sz (ps.take (k + 1)) = sz (ps.take k) + ps[k].size) := by unfold Hid; rw [take_next hlt, sz_snoc]
      have hp : sz (ps.take k) + ps[k].size ≤ 1000000000 := by rw [← HS.out]; omega
      go_wp2
      go_round
      case rel => exact ⟨k + 1, by omega, by go_num, by rw [HS.out]; go_num⟩
      case measure => simp [intOf]; omega
    · have HE : Hid (k = ps.length) := by unfold Hid; omega
      have hE : sz (ps.take k) = sz ps := by rw [HE.out, List.take_length]
      go_wp2_with (at_make; refine wpList_make_full _ rfl _ _ 22 rfl w.heap.size 5 i0 (.int .u8 0) 1 Try.underlying22 hi hz0 hz1 .i64 .i64 _ _ (sz ps) rfl rfl (by omega) (by omega) (by rw [hz2]; omega) (by unfold maxLen; omega) (Nat.le_refl _) ?_; intro w0 hown0 hgrow0)
      rw [made_zeros] at hown0
      have hg0 : Hid (w0.heap[w.heap.size]? = some (.cells (laidRow ps 0).toArray 5 (0, 0))) := by
        rcases hown0.2 with ⟨h, _⟩ | ⟨g, c, cur, h, _, h2, _, _, h3, h4⟩
        · cases h
        · cases h
          rw [laidRow_zero, ← h4, List.take_of_length_le (by simp; omega)]
          exact h2
      have hb0 : Below w.heap.size w w0 := (Below.refl _ _).grown hgrow0 (Nat.le_refl _) (fun k h => by cases h)
      have hs0 := hgrow0.size
      clear hown0 hgrow0
      go_wp2
      go_loopw [7, 25] (fun s i wr => ∃ k : Nat, k ≤ ps.length ∧ i = .int .i64 k ∧ s = .int .i64 (sz (ps.take k)) ∧ Hid (wr.heap[w.heap.size]? = some (.cells (laidRow ps k).toArray 5 (0, 0))) ∧ Below w.heap.size w wr) (fun _ i _ => ps.length - (intOf i).toNat)
      case atStart => exact ⟨0, Nat.zero_le _, rfl, by simp [sz], hg0, hb0⟩
      case round =>
        clear hE hle hlt hk
        obtain ⟨m, hm, rfl, rfl, hgm, hbm⟩ := hrel
        have hle := sz_take_le ps m
        by_cases hlt : m < ps.length
        · have hck : wr.cell? ⟨b, off + m, none⟩ = some (.string ps[m]) := by rw [hbm.cell hb]; exact HC.out m hlt
          have hle1 := sz_take_le ps (m + 1)
          have HS : Hid (sz (ps.take (m + 1)) = sz (ps.take m) + ps[m].size) := by unfold Hid; rw [take_next hlt, sz_snoc]
          have hp : sz (ps.take m) + ps[m].size ≤ sz ps := by rw [← HS.out]; omega
          by_cases hz : ps[m].size = 0
          · have hx : ps[m].data.toList = [] := List.eq_nil_of_length_eq_zero hz
            have hg2 : Hid (wr.heap[w.heap.size]? = some (.cells (laidRow ps (m + 1)).toArray 5 (0, 0))) := by
              have h := laidRow_next hlt
              rw [hx] at h
              unfold Hid
              rw [← h]
              simpa [splice, bv] using hgm.out
            have HZ : Hid (ps[m].size = 0) := hz
            have hrun := fun d dLen dCap => run_copy_str0 (P := Try.prog) wr 22 9 3 5 d dLen dCap ps[m] Try.underlying22 Try.one5 hz
            clear hz hx
            go_wp2
            all_goals
              go_roundw
              case rel => exact ⟨m + 1, by omega, by go_num, by rw [HS.out, HZ.out]; go_num, hg2, hbm⟩
              case measure => simp [intOf]; omega
          · have hrun := run_copy_str (P := Try.prog) wr 22 9 3 5 w.heap.size (sz (ps.take m)) (sz ps - sz (ps.take m)) (sz ps - sz (ps.take m)) ps[m] (laidRow ps m) 5 Try.underlying22 Try.one5 hgm.out (by omega) (by rw [laidRow_len]; omega)
            rw [laidRow_next hlt] at hrun
            have hg2 : Hid ((wr.setRow w.heap.size (laidRow ps (m + 1)).toArray).heap[w.heap.size]? = some (.cells (laidRow ps (m + 1)).toArray 5 (0, 0))) := setRow_heap wr w.heap.size _ _ 5 _ hgm.out
            go_wp2
            all_goals
              go_roundw
              case rel => exact ⟨m + 1, by omega, by go_num, by rw [HS.out]; go_num, hg2, below_setRow hbm (Nat.le_refl _) _⟩
              case measure => simp [intOf]; omega
        · have hE : m = ps.length := by omega
          have hg3 := hgm.out
          rw [hE, laidRow_end] at hg3
          have hcv := row_string (P := Try.prog) (cap := sz ps) (flat ps) Try.underlying22 Try.underlying5 Try.underlying9 (flat_len ps) hg3
          clear hE hg3
          go_wp2
          go_ret
          exact ⟨rfl, hbm⟩

/-- Two parts, laid out just ahead of the call; and one. -/
theorem joined_two (p q : ByteArray) (T : TypeId) (w : World) (hs : p.size + q.size ≤ 1000000000) :
    Calls Try.prog 47 #[.slice (some ⟨w.heap.size, 0, none⟩) 2 2] (w.alloc (.cells #[.string p, .string q] T)) fun e w' => e = .returned (.string ⟨(p.data.toList ++ q.data.toList).toArray⟩) ∧ Below w.heap.size w w' := by
  refine (joined_any w.heap.size 0 2 [p, q] (w.alloc (.cells #[.string p, .string q] T)) (by simpa [sz] using hs) (by simp) (by simp) ?_).mono ?_
  · intro i h
    match i, h with
    | 0, _ => exact World.cell?_alloc_at _ _ _ _ rfl
    | 1, _ => exact World.cell?_alloc_at _ _ _ _ rfl
  · rintro e w' ⟨rfl, hb⟩
    exact ⟨by simp [flat], ((Below.refl _ _).alloc (Nat.le_refl _) _).trans (hb.mono (by simp))⟩
theorem joined_one (p : ByteArray) (T : TypeId) (w : World) (hs : p.size ≤ 1000000000) :
    Calls Try.prog 47 #[.slice (some ⟨w.heap.size, 0, none⟩) 1 1] (w.alloc (.cells #[.string p] T)) fun e w' => e = .returned (.string p) ∧ Below w.heap.size w w' := by
  refine (joined_any w.heap.size 0 1 [p] (w.alloc (.cells #[.string p] T)) (by simpa [sz] using hs) (by simp) (by simp) ?_).mono ?_
  · intro i h
    match i, h with
    | 0, _ => exact World.cell?_alloc_at _ _ _ _ rfl
  · rintro e w' ⟨rfl, hb⟩
    exact ⟨by simp [flat], ((Below.refl _ _).alloc (Nat.le_refl _) _).trans (hb.mono (by simp))⟩
end Go.Proofs.Ytjdkenopfnepaaa
