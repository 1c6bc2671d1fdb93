/- What is read of a token: both sides. -/
import Derived.Test.YtdldblfopcbfeaaDoorTkPlain
import Derived.Test.YtdldblfopcbfeaaDoorTkText
namespace Go.Proofs.YtdldblfopcbfeaaDoor
open Go.RowKit

theorem ret_in {a b : Int} (h : a = b) : Ending.returned (.int .i64 a) = .returned (.int .i64 b) := by rw [h]
set_option maxHeartbeats 4000000 in
set_option maxRecDepth 100000 in
theorem place_impl (t : ByteArray) (w : World) :
    Calls Tryd.prog 16 #[.string t] w fun e w' => e = .returned (.int .i64 (plc t t.size 0 0)) ∧ Below w.heap.size w w' := by
  go_enter Tryd.func16, Tryd.ntmps16
  go_wp2
  go_loopw [3, 5] (fun n _ w' => ∃ (pos b : Nat) (acc : Int), w' = w.iter t pos ∧ n = .int .i64 acc ∧ Hid (plc t b pos acc = plc t t.size 0 0) ∧ t.size ≤ pos + b) (fun _ _ w' => t.size - w'.iterPos w.heap.size)
  case atStart => exact ⟨0, t.size, 0, rfl, rfl, (rfl : plc t t.size 0 0 = _), by omega⟩
  case round =>
    obtain ⟨pos, b, acc, rfl, rfl, HC, hb⟩ := hrel
    by_cases hp : pos < t.size
    · have hnx : ∀ ty, (Instr.next (.pointer (some ⟨w.heap.size, 0, none⟩)) true ty).run Tryd.prog (w.iter t pos) = _ := fun ty => run_next_any w t pos ty hp
      have hwd := width_pos' t pos hp
      obtain ⟨b, rfl⟩ : ∃ m, b = m + 1 := ⟨b - 1, by omega⟩
      have HS : Hid (plc t b (pos + (Utf8.decode t pos).2) (stepP acc (Utf8.decode t pos).1) = plc t t.size 0 0) := by
        unfold Hid
        rw [← HC.out, plc, if_pos hp]
      obtain ⟨r, HR⟩ : ∃ r, Hid (r = (Utf8.decode t pos).1) := ⟨(Utf8.decode t pos).1, (rfl : (Utf8.decode t pos).1 = _)⟩
      obtain ⟨wd, HW⟩ : ∃ r, Hid (r = (Utf8.decode t pos).2) := ⟨(Utf8.decode t pos).2, (rfl : (Utf8.decode t pos).2 = _)⟩
      rw [← HR.out, ← HW.out] at hnx
      rw [← HR.out, ← HW.out] at HS
      rw [← HW.out] at hwd
      clear HC
      cases h1 : decide ((r : Int) < 48)
      · cases h2 : decide ((57 : Int) < (r : Int))
        · have h1' : ¬ (r : Int) < 48 := of_decide_eq_false h1
          have h2' : ¬ (57 : Int) < (r : Int) := of_decide_eq_false h2
          have HE : Hid (stepP acc r = wrap64 (wrap64 (10 * acc) + ((r : Int) - 48))) := if_neg (by omega)
          have hw32 : wrap32 ((r : Int) - 48) = (r : Int) - 48 := by unfold wrap32; omega
          have hw64 : wrap64 ((r : Int) - 48) = (r : Int) - 48 := by unfold wrap64; omega
          go_wp2
          go_roundw
          case rel => exact ⟨pos + wd, b, _, rfl, rfl, by rw [HE.out] at HS; exact HS, by omega⟩
          case measure => simp; omega
        · have h2' : (57 : Int) < (r : Int) := of_decide_eq_true h2
          have HE : Hid (stepP acc r = 0) := if_pos (by omega)
          go_wp2
          go_roundw
          case rel => exact ⟨pos + wd, b, _, rfl, rfl, by rw [HE.out] at HS; exact HS, by omega⟩
          case measure => simp; omega
      · have h1' : (r : Int) < 48 := of_decide_eq_true h1
        have HE : Hid (stepP acc r = 0) := if_pos (by omega)
        go_wp2
        go_roundw
        case rel => exact ⟨pos + wd, b, _, rfl, rfl, by rw [HE.out] at HS; exact HS, by omega⟩
        case measure => simp; omega
    · have hnx : ∀ ty, (Instr.next (.pointer (some ⟨w.heap.size, 0, none⟩)) true ty).run Tryd.prog (w.iter t pos) = _ := fun ty => run_next_end w t pos ty hp
      have HS : Hid (acc = plc t t.size 0 0) := by unfold Hid; rw [← HC.out, plc_end t b pos acc hp]
      go_wp2
      go_ret
      exact ⟨ret_in HS.out, (Below.refl _ _).alloc (Nat.le_refl _) _⟩
def rdC (u : Int) (t : ByteArray) : Int := if decide (8000 < (t.size : Int)) = true then 2 else if isB u 1 6 = true then (if t.toList.isEmpty = true then 0 else if rdT u t = true then 0 else 3) else 1
def rdN (u : Int) (t : ByteArray) : Int := if decide (8000 < (t.size : Int)) = true then 0 else if isB u 1 6 = true then (if t.toList.isEmpty = true then 0 else if rdT u t = true then plc t t.size 0 0 else 0) else 0
def rdV (u : Int) (t : ByteArray) : Value := .agg #[.int .i64 (rdN u t), .int .i64 0, .int .i64 (rdC u t)]
theorem rdV_of {u : Int} {t : ByteArray} {n c : Int} (h1 : rdN u t = n) (h2 : rdC u t = c) : Ending.returned (.agg #[.int .i64 n, .int .i64 0, .int .i64 c]) = .returned (rdV u t) := by rw [rdV, h1, h2]
set_option maxHeartbeats 8000000 in
set_option maxRecDepth 100000 in
theorem read_impl (u : Int) (t : ByteArray) (w : World) (ht : TabL w) :
    Calls Tryd.prog 8 #[.int .i64 u, .string t] w fun e w' => e = .returned (rdV u t) ∧ Below w.heap.size w w' := by
  have HB : Hid (∀ o, Below w.heap.size w (w.alloc o)) := fun o => (Below.refl _ _).alloc (Nat.le_refl _) o
  have HT := fun p W (hW : Below w.heap.size w W) => token_impl u p W (ht.kept hW)
  clear ht
  cases h8 : decide (8000 < (t.size : Int))
  · cases hu : isB u 1 6
    · have h1 : Hid (rdN u t = 0) := by unfold Hid rdN; rw [h8, hu]; rfl
      have h2 : Hid (rdC u t = 1) := by unfold Hid rdC; rw [h8, hu]; rfl
      go_enter Tryd.func8, Tryd.ntmps8
      go_wp2_with (go_at_call 13; refine (user_impl _ _).mono ?_; rintro e w' ⟨rfl, rfl⟩; rw [hu])
      refine bodyPost_ret (v := .agg #[.int .i64 0, .int .i64 0, .int .i64 1]) (by simp [results, Tryd.results8, go_sem]) rfl ⟨rdV_of h1.out h2.out, ?_⟩
      repeat refine Below.setCell ?_ (by simp) _
      exact HB.out _
    cases he : t.toList.isEmpty
    · obtain ⟨P, HP⟩ : ∃ P : Int, Hid (P = plc t t.size 0 0) := ⟨plc t t.size 0 0, (rfl : plc t t.size 0 0 = _)⟩
      have HR : Hid (rdT u t = ((tokS u P).toList == t.toList)) := by unfold Hid rdT; rw [HP.out]
      have HPL := fun W => place_impl t W
      rw [← HP.out] at HPL
      cases hr : ((tokS u P).toList == t.toList)
      · have hr' : ((tokS u P).toList != t.toList) = true := by simp only [bne, hr]; rfl
        have h1 : Hid (rdN u t = 0) := by unfold Hid rdN; rw [h8, hu, he, HR.out, hr]; rfl
        have h2 : Hid (rdC u t = 3) := by unfold Hid rdC; rw [h8, hu, he, HR.out, hr]; rfl
        go_enter Tryd.func8, Tryd.ntmps8
        go_wp2_with (first
          | (go_at_call 13; refine (user_impl _ _).mono ?_; rintro e w' ⟨rfl, rfl⟩; rw [hu])
          | (go_at_call 16; refine (HPL _).mono ?_; rintro e w1 ⟨rfl, hb1⟩; have HB1 : Hid (Below w.heap.size w w1) := (HB.out _).trans (hb1.mono (by simp)); have hc1 := (bcell hb1).1; have hf1 := (bcell hb1).2; have hz1 : w.heap.size < w1.heap.size := (by have := hb1.size; simp at this; omega); clear hb1)
          | (go_at_call 6; refine (HT P _ HB1.out).mono ?_; rintro e w2 ⟨rfl, hb2⟩; have HB2 : Hid (Below w.heap.size w w2) := HB1.out.trans (hb2.mono HB1.out.size); have hc2 := (bcell hb2).1; have hf2 := (bcell hb2).2; have hz2 : w.heap.size < w2.heap.size := Nat.lt_of_lt_of_le hz1 hb2.size; clear hb2))
        refine bodyPost_ret (v := .agg #[.int .i64 0, .int .i64 0, .int .i64 3]) (by simp [results, Tryd.results8, go_sem, *]) rfl ⟨rdV_of h1.out h2.out, ?_⟩
        repeat refine Below.setCell ?_ (by simp) _
        exact HB2.out
      · have hr' : ((tokS u P).toList != t.toList) = false := by simp only [bne, hr]; rfl
        have h1 : Hid (rdN u t = P) := by unfold Hid rdN; rw [h8, hu, he, HR.out, hr, HP.out]; rfl
        have h2 : Hid (rdC u t = 0) := by unfold Hid rdC; rw [h8, hu, he, HR.out, hr]; rfl
        go_enter Tryd.func8, Tryd.ntmps8
        go_wp2_with (first
          | (go_at_call 13; refine (user_impl _ _).mono ?_; rintro e w' ⟨rfl, rfl⟩; rw [hu])
          | (go_at_call 16; refine (HPL _).mono ?_; rintro e w1 ⟨rfl, hb1⟩; have HB1 : Hid (Below w.heap.size w w1) := (HB.out _).trans (hb1.mono (by simp)); have hc1 := (bcell hb1).1; have hf1 := (bcell hb1).2; have hz1 : w.heap.size < w1.heap.size := (by have := hb1.size; simp at this; omega); clear hb1)
          | (go_at_call 6; refine (HT P _ HB1.out).mono ?_; rintro e w2 ⟨rfl, hb2⟩; have HB2 : Hid (Below w.heap.size w w2) := HB1.out.trans (hb2.mono HB1.out.size); have hc2 := (bcell hb2).1; have hf2 := (bcell hb2).2; have hz2 : w.heap.size < w2.heap.size := Nat.lt_of_lt_of_le hz1 hb2.size; clear hb2))
        refine bodyPost_ret (v := .agg #[.int .i64 P, .int .i64 0, .int .i64 0]) (by simp [results, Tryd.results8, go_sem, *]) rfl ⟨rdV_of h1.out h2.out, ?_⟩
        repeat refine Below.setCell ?_ (by simp) _
        exact HB2.out
    · have h1 : Hid (rdN u t = 0) := by unfold Hid rdN; rw [h8, hu, he]; rfl
      have h2 : Hid (rdC u t = 0) := by unfold Hid rdC; rw [h8, hu, he]; rfl
      go_enter Tryd.func8, Tryd.ntmps8
      go_wp2_with (go_at_call 13; refine (user_impl _ _).mono ?_; rintro e w' ⟨rfl, rfl⟩; rw [hu])
      refine bodyPost_ret (v := .agg #[.int .i64 0, .int .i64 0, .int .i64 0]) (by simp [results, Tryd.results8, go_sem]) rfl ⟨rdV_of h1.out h2.out, ?_⟩
      repeat refine Below.setCell ?_ (by simp) _
      exact HB.out _
  · have h1 : Hid (rdN u t = 0) := by unfold Hid rdN; rw [h8]; rfl
    have h2 : Hid (rdC u t = 2) := by unfold Hid rdC; rw [h8]; rfl
    go_enter Tryd.func8, Tryd.ntmps8
    go_wp2
    refine bodyPost_ret (v := .agg #[.int .i64 0, .int .i64 0, .int .i64 2]) (by simp [results, Tryd.results8, go_sem]) rfl ⟨rdV_of h1.out h2.out, ?_⟩
    repeat refine Below.setCell ?_ (by simp) _
    exact HB.out _
set_option maxHeartbeats 8000000 in
set_option maxRecDepth 100000 in
theorem read_spec (u : Int) (t : ByteArray) (w : World) :
    Calls Tryd.prog 7 #[.int .i64 u, .string t] w fun e w' => e = .returned (rdV u t) ∧ Below w.heap.size w w' := by
  have HB : Hid (∀ o, Below w.heap.size w (w.alloc o)) := fun o => (Below.refl _ _).alloc (Nat.le_refl _) o
  cases h8 : decide (8000 < (t.size : Int))
  · cases hu : isB u 1 6
    · have h1 : Hid (rdN u t = 0) := by unfold Hid rdN; rw [h8, hu]; rfl
      have h2 : Hid (rdC u t = 1) := by unfold Hid rdC; rw [h8, hu]; rfl
      go_enter Tryd.func7, Tryd.ntmps7
      go_wp2_with (go_at_call 10; refine (user_spec _ _).mono ?_; rintro e w' ⟨rfl, rfl⟩; rw [hu])
      refine bodyPost_ret (v := .agg #[.int .i64 0, .int .i64 0, .int .i64 1]) (by simp [results, Tryd.results7, go_sem]) rfl ⟨rdV_of h1.out h2.out, ?_⟩
      repeat refine Below.setCell ?_ (by simp) _
      exact HB.out _
    cases he : t.toList.isEmpty
    · have HH : Hid (decide (8000 < (t.size : Int)) = false ∧ isB u 1 6 = true ∧ t.toList.isEmpty = false) := ⟨h8, hu, he⟩
      have HC0 : Hid ((w.alloc (.cells #[.int .i64 0, .int .i64 0, .int .i64 0] 25)).heap[w.heap.size]? = some (.cells #[.int .i64 0, .int .i64 0, .int .i64 0] 25 (0, 0))) := (MapKept.heap_alloc w _).1
      go_enter Tryd.func7, Tryd.ntmps7
      go_wp2_with (go_at_call 10; refine (user_spec _ _).mono ?_; rintro e w' ⟨rfl, rfl⟩; rw [hu])
      go_loopw [5] (fun i wr => ∃ k : Nat, k ≤ 121 ∧ i = .int .i64 k ∧ Hid (∀ j : Nat, j < k → ((tokS u j).toList == t.toList) = false) ∧ Hid (Below w.heap.size w wr) ∧ Hid (wr.heap[w.heap.size]? = some (.cells #[.int .i64 0, .int .i64 0, .int .i64 0] 25 (0, 0)))) (fun i _ => 121 - (intOf i).toNat)
      case atStart => exact ⟨0, by omega, rfl, fun j h => absurd h (Nat.not_lt_zero _), HB.out _, HC0⟩
      case round =>
        clear h8 he HB HC0
        obtain ⟨k, hk, rfl, HN, HW, HC⟩ := hrel
        have hc : ∀ i, wr.cell? ⟨w.heap.size, i, none⟩ = #[Value.int .i64 0, .int .i64 0, .int .i64 0][i]? := fun i => cell_of_heap HC.out
        have hf : ∀ i, wr.frozen? ⟨w.heap.size, i, none⟩ = false := fun i => frozen_of_heap HC.out
        have hz : w.heap.size < wr.heap.size := (Array.getElem?_eq_some_iff.1 HC.out).1
        cases hle : decide ((k : Int) ≤ 120)
        · have hk' : ¬ (k : Int) ≤ 120 := of_decide_eq_false hle
          have hr := rdT_no HH.out.2.2 (fun j hj => HN.out j (by omega))
          have h1 : Hid (rdN u t = 0) := by unfold Hid rdN; rw [HH.out.1, HH.out.2.1, HH.out.2.2, hr]; rfl
          have h2 : Hid (rdC u t = 3) := by unfold Hid rdC; rw [HH.out.1, HH.out.2.1, HH.out.2.2, hr]; rfl
          clear hr hk
          go_wp2
          refine bodyPost_ret (v := .agg #[.int .i64 0, .int .i64 0, .int .i64 3]) (by simp [results, Tryd.results7, go_sem, hc]) rfl ⟨rdV_of h1.out h2.out, ?_⟩
          repeat refine Below.setCell ?_ (by simp) _
          exact HW.out
        · have hk' : (k : Int) ≤ 120 := of_decide_eq_true hle
          cases hr : ((tokS u k).toList == t.toList)
          · have HN2 : Hid (∀ j : Nat, j < k + 1 → ((tokS u j).toList == t.toList) = false) := fun j hj => by
              by_cases e : j = k
              · rw [e]; exact hr
              · exact HN.out j (by omega)
            clear hk
            go_wp2_with (go_at_call 5; refine (token_spec u k wr).mono ?_; rintro e w1 ⟨rfl, hb1⟩; have HW1 : Hid (Below w.heap.size w w1) := HW.out.trans (hb1.mono HW.out.size); have HC1 : Hid (w1.heap[w.heap.size]? = some (.cells #[.int .i64 0, .int .i64 0, .int .i64 0] 25 (0, 0))) := (hb1.block _ hz).trans HC.out; clear hb1)
            go_roundw
            case rel => exact ⟨k + 1, by omega, by go_num, HN2, HW1, HC1⟩
            case measure => simp [intOf]; omega
          · obtain ⟨e1, e2⟩ := rdT_of HH.out.2.1 (by omega : k ≤ 120) hr
            have h1 : Hid (rdN u t = k) := by unfold Hid rdN; rw [HH.out.1, HH.out.2.1, HH.out.2.2, e2, e1]; rfl
            have h2 : Hid (rdC u t = 0) := by unfold Hid rdC; rw [HH.out.1, HH.out.2.1, HH.out.2.2, e2]; rfl
            clear e1 e2 hk HN
            go_wp2_with (go_at_call 5; refine (token_spec u k wr).mono ?_; rintro e w1 ⟨rfl, hb1⟩; have HW1 : Hid (Below w.heap.size w w1) := HW.out.trans (hb1.mono HW.out.size); have hc1 : ∀ i, w1.cell? ⟨w.heap.size, i, none⟩ = #[Value.int .i64 0, .int .i64 0, .int .i64 0][i]? := (fun i => cell_of_heap ((hb1.block _ hz).trans HC.out)); have hf1 : ∀ i, w1.frozen? ⟨w.heap.size, i, none⟩ = false := (fun i => frozen_of_heap ((hb1.block _ hz).trans HC.out)); have hz1 : w.heap.size < w1.heap.size := Nat.lt_of_lt_of_le hz hb1.size; clear hb1)
            refine bodyPost_ret (v := .agg #[.int .i64 k, .int .i64 0, .int .i64 0]) (by simp [results, Tryd.results7, go_sem, hc1]) rfl ⟨rdV_of h1.out h2.out, ?_⟩
            repeat refine Below.setCell ?_ (by simp) _
            exact HW1.out
    · have h1 : Hid (rdN u t = 0) := by unfold Hid rdN; rw [h8, hu, he]; rfl
      have h2 : Hid (rdC u t = 0) := by unfold Hid rdC; rw [h8, hu, he]; rfl
      go_enter Tryd.func7, Tryd.ntmps7
      go_wp2_with (go_at_call 10; refine (user_spec _ _).mono ?_; rintro e w' ⟨rfl, rfl⟩; rw [hu])
      refine bodyPost_ret (v := .agg #[.int .i64 0, .int .i64 0, .int .i64 0]) (by simp [results, Tryd.results7, go_sem]) rfl ⟨rdV_of h1.out h2.out, ?_⟩
      repeat refine Below.setCell ?_ (by simp) _
      exact HB.out _
  · have h1 : Hid (rdN u t = 0) := by unfold Hid rdN; rw [h8]; rfl
    have h2 : Hid (rdC u t = 2) := by unfold Hid rdC; rw [h8]; rfl
    go_enter Tryd.func7, Tryd.ntmps7
    go_wp2
    refine bodyPost_ret (v := .agg #[.int .i64 0, .int .i64 0, .int .i64 2]) (by simp [results, Tryd.results7, go_sem]) rfl ⟨rdV_of h1.out h2.out, ?_⟩
    repeat refine Below.setCell ?_ (by simp) _
    exact HB.out _
end Go.Proofs.YtdldblfopcbfeaaDoor
