/- The law on SameEvent walked: for every two events the call returns true. -/
import Derived.Test.YtaonnjcfpklkfagEvTo
import Derived.Test.YtaonnjcfpklkfagEvSameImpl
import Derived.Deep.DeepCutAuto
namespace Go.Proofs.Ytaonnjcfpklkfag
open Go.RowKit

theorem len_sum {x y : Nat} {l : Int} (h : (x : Int) + y ≤ l) (h0 : l ≤ 1048576) : y ≤ 1048576 := by omega
set_option maxHeartbeats 4000000 in
theorem walk_fnExactSameEvent_ev (v : Ev) (a1 : Option Addr) (cap1 : Nat) (u : Ev) (a2 : Option Addr) (cap2 : Nat) (w : World) (ht1 : v.text.size ≤ maxLen) (hp1 : v.prev.length ≤ maxLen) (hn1 : v.prev.length ≤ 1048576 → NumsAt w a1 v.prev)
    (ht2 : u.text.size ≤ maxLen) (hp2 : u.prev.length ≤ maxLen) (hn2 : u.prev.length ≤ 1048576 → NumsAt w a2 u.prev) :
    Calls Try.prog 5 #[.agg #[.int .i64 v.id, .int .i64 v.room, .int .i64 v.author, .int .i64 v.kind, .int .i64 v.key, .int .i64 v.n, .string v.text, .slice a1 v.prev.length cap1, .int .i64 v.time], .agg #[.int .i64 u.id, .int .i64 u.room, .int .i64 u.author, .int .i64 u.kind, .int .i64 u.key, .int .i64 u.n, .string u.text, .slice a2 u.prev.length cap2, .int .i64 u.time]] w fun e w' => e = .returned (.bool true) ∧ Below w.heap.size w w' := by
  have HB0 : Hid (∀ o1 o2, Below w.heap.size w ((w.alloc o1).alloc o2)) := fun o1 o2 => ((Below.refl _ _).alloc (Nat.le_refl _) _).alloc (by simp) _
  by_cases hs1 : (v.text.size : Int) + v.prev.length ≤ 1048576
  · have HSZ : Hid ((if (v.text.size : Int) + v.prev.length ≤ 1048576 then (1048576 : Int) - v.text.size - v.prev.length else -1) = 1048576 - v.text.size - v.prev.length) := if_pos hs1
    have l0 : 0 ≤ (1048576 : Int) - v.text.size - v.prev.length := by omega
    have l1 : (1048576 : Int) - v.text.size - v.prev.length ≤ 1048576 := by omega
    by_cases hs2 : (u.text.size : Int) + u.prev.length ≤ 1048576 - v.text.size - v.prev.length
    · have HS2 : Hid ((if (u.text.size : Int) + u.prev.length ≤ 1048576 - v.text.size - v.prev.length then (1048576 : Int) - v.text.size - v.prev.length - u.text.size - u.prev.length else -1) = 1048576 - v.text.size - v.prev.length - u.text.size - u.prev.length) := if_pos hs2
      have hl1 : v.prev.length ≤ 1048576 := by omega
      have hl2 : u.prev.length ≤ 1048576 := by omega
      have H1 : Hid (∀ w', Below w.heap.size w w' → NumsAt w' a1 v.prev) := fun w' hb => (hn1 hl1).kept hb
      have H2 : Hid (∀ w', Below w.heap.size w w' → NumsAt w' a2 u.prev) := fun w' hb => (hn2 hl2).kept hb
      clear hn1 hn2
      go_enter Try.func5, Try.ntmps5
      go_wp2_with fail
      refine (sz_event v a1 cap1 1048576 _ (by omega) (by omega) ht1 hp1).mono ?_
      rintro e w1 ⟨rfl, hb1⟩
      rw [HSZ.out]
      obtain ⟨hc1, hf1⟩ := bcell hb1
      have hz1 : w.heap.size + 1 < w1.heap.size := by have := hb1.size; simp at this; omega
      have hy1 : w.heap.size < w1.heap.size := by omega
      have HW1 : Hid (Below w.heap.size w w1) := (HB0.out _ _).trans (hb1.mono (by simp; omega))
      clear hb1
      go_wp2_with fail
      refine (sz_event u a2 cap2 _ _ l0 l1 ht2 hp2).mono ?_
      rintro e w2 ⟨rfl, hb2⟩
      rw [HS2.out]
      obtain ⟨hc2, hf2⟩ := bcell hb2
      have hz2 : w.heap.size + 1 < w2.heap.size := Nat.lt_of_lt_of_le hz1 hb2.size
      have hy2 : w.heap.size < w2.heap.size := by omega
      have HW2 : Hid (Below w.heap.size w w2) := HW1.out.trans (hb2.mono (by omega))
      clear hb2
      go_wp2_with fail
      go_cut [6] (fun r wx => r = .bool (sameB v u) ∧ Below w2.heap.size w2 wx)
      case first =>
        first
          | (go_region_with (first
              | (go_at_call_of 15 (Value.slice a1 v.prev.length cap1); refine (to_event v a1 cap1 _ (H1.out _ HW2.out.drew)).mono ?_; rintro e w3 ⟨a3, rfl, hn3, hb3⟩; have hc3 : ∀ b o, b < w2.heap.size → w3.cell? ⟨b, o, none⟩ = w2.cell? ⟨b, o, none⟩ := (bcell hb3).1; have HW3 : Hid (Below w2.heap.size w2 w3) := (Below.drew (Below.refl _ _)).trans hb3)
              | (go_at_call_of 15 (Value.slice a2 u.prev.length cap2); refine (to_event u a2 cap2 _ (H2.out _ (HW2.out.trans (HW3.out.mono (Nat.le_of_lt hy2))))).mono ?_; rintro e w4 ⟨a4, rfl, hn4, hb4⟩; have HW4 : Hid (Below w2.heap.size w2 w4) := HW3.out.trans (hb4.mono HW3.out.size))
              | (go_at_call 18; refine (same_spec v u a3 a4 v.prev.length u.prev.length _ ((hn3.at hl1).kept hb4) (hn4.at hl2)).mono ?_; rintro e w5 ⟨rfl, hb5⟩; have HW5 : Hid (Below w2.heap.size w2 w5) := HW4.out.trans (hb5.mono HW4.out.size))))
          | fail
        all_goals go_wp2_with fail
        all_goals go_meet
        all_goals exact ⟨rfl, HW5.out⟩
      case rest =>
        obtain ⟨rfl, hb5⟩ := hcut
        obtain ⟨hc5, hf5⟩ := bcell hb5
        have hz5 : w.heap.size + 1 < wc.heap.size := Nat.lt_of_lt_of_le hz2 hb5.size
        have hy5 : w.heap.size < wc.heap.size := by omega
        have HW5 : Hid (Below w.heap.size w wc) := HW2.out.trans (hb5.mono (Nat.le_of_lt hy2))
        clear hb5
        go_wp2_with fail
        refine (to_event v a1 cap1 _ (H1.out _ HW5.out)).mono ?_
        rintro e w6 ⟨a6, rfl, hn6, hb6⟩
        obtain ⟨hc6, hf6⟩ := bcell hb6
        have HN6 : Hid (∀ w', Below w6.heap.size w6 w' → NumsAt w' a6 v.prev) := fun w' hb => (hn6.at hl1).kept hb
        have hz6 : w.heap.size + 1 < w6.heap.size := Nat.lt_of_lt_of_le hz5 hb6.size
        have hy6 : w.heap.size < w6.heap.size := by omega
        have HW6 : Hid (∀ o, Below w.heap.size w (w6.alloc o)) := fun o => (HW5.out.trans (hb6.mono (Nat.le_of_lt hy5))).alloc (Nat.le_of_lt hy6) o
        clear hn6 hb6
        go_wp2_with fail
        refine (to_event u a2 cap2 _ (H2.out _ (HW6.out _))).mono ?_
        rintro e w7 ⟨a7, rfl, hn7, hb7⟩
        obtain ⟨hc7, hf7⟩ := bcell hb7
        have HX7 : Hid (Below w6.heap.size w6 w7) := ((Below.refl _ _).alloc (Nat.le_refl _) _).trans (hb7.mono (by simp))
        have HN7 : Hid (∀ w', Below w7.heap.size w7 w' → NumsAt w' a7 u.prev) := fun w' hb => (hn7.at hl2).kept hb
        have hx7 : w6.heap.size < w7.heap.size := by have := hb7.size; simp at this; omega
        have hz7 : w.heap.size + 1 < w7.heap.size := by omega
        have hy7 : w.heap.size < w7.heap.size := by omega
        have HW7 : Hid (∀ o, Below w.heap.size w (w7.alloc o)) := fun o => ((HW6.out _).trans (hb7.mono (by simp; omega))).alloc (Nat.le_of_lt hy7) o
        clear hn7 hb7
        go_wp2_with fail
        refine (same_impl v u a6 a7 v.prev.length u.prev.length _ (HN6.out _ (HX7.out.alloc (Nat.le_of_lt hx7) _)) (HN7.out _ ((Below.refl _ _).alloc (Nat.le_refl _) _))).mono ?_
        rintro e w8 ⟨rfl, hb8⟩
        obtain ⟨hc8, hf8⟩ := bcell hb8
        have HY8 : Hid (Below w7.heap.size w7 w8) := ((Below.refl _ _).alloc (Nat.le_refl _) _).trans (hb8.mono (by simp))
        have HX8 : Hid (Below w6.heap.size w6 w8) := HX7.out.trans (HY8.out.mono (Nat.le_of_lt hx7))
        have hv8 : w7.heap.size < w8.heap.size := by have := hb8.size; simp at this; omega
        have hx8 : w6.heap.size < w8.heap.size := by omega
        have hz8 : w.heap.size + 1 < w8.heap.size := by omega
        have hy8 : w.heap.size < w8.heap.size := by omega
        have HW8 : Hid (Below w.heap.size w w8) := (HW7.out _).trans (hb8.mono (by simp; omega))
        clear hb8
        go_wp2_with fail
        go_cut [39] (fun r wx => r = .bool false ∧ Below w8.heap.size w8 wx)
        case first =>
          first
            | (go_region_with (first
                | (go_at_call 15; refine (to_event v a1 cap1 _ (H1.out _ HW8.out.drew)).mono ?_; rintro e w9 ⟨a9, rfl, hn9, hb9⟩; have hc9 : ∀ b o, b < w8.heap.size → w9.cell? ⟨b, o, none⟩ = w8.cell? ⟨b, o, none⟩ := (bcell hb9).1; have HW9 : Hid (Below w8.heap.size w8 w9) := (Below.drew (Below.refl _ _)).trans hb9)
                | (go_at_call 17; refine (eq_event v a6 a9 v.prev.length v.prev.length _ (HN6.out _ (HX8.out.trans (HW9.out.mono (Nat.le_of_lt hx8)))) (hn9.at hl1)).mono ?_; rintro e w10 ⟨rfl, hb10⟩; have HW10 : Hid (Below w8.heap.size w8 w10) := HW9.out.trans (hb10.mono HW9.out.size))))
            | fail
          all_goals go_wp2_with fail
          all_goals go_meet
          all_goals exact ⟨rfl, HW10.out⟩
        case rest =>
          obtain ⟨rfl, hb11⟩ := hcut
          obtain ⟨hc11, hf11⟩ := bcell hb11
          have HY11 : Hid (Below w7.heap.size w7 wc) := HY8.out.trans (hb11.mono (Nat.le_of_lt hv8))
          have hv11 : w7.heap.size < wc.heap.size := Nat.lt_of_lt_of_le hv8 hb11.size
          have hy11 : w.heap.size < wc.heap.size := Nat.lt_of_lt_of_le hy8 hb11.size
          have hz11 : w.heap.size + 1 < wc.heap.size := Nat.lt_of_lt_of_le hz8 hb11.size
          have HW11 : Hid (Below w.heap.size w wc) := HW8.out.trans (hb11.mono (Nat.le_of_lt hy8))
          clear hb11
          go_wp2_with fail
          first
            | (go_region_with (first
                | (go_at_call 15; refine (to_event u a2 cap2 _ (H2.out _ HW11.out.drew)).mono ?_; rintro e w12 ⟨a12, rfl, hn12, hb12⟩; have hc12 : ∀ b o, b < wc.heap.size → w12.cell? ⟨b, o, none⟩ = wc.cell? ⟨b, o, none⟩ := (bcell hb12).1; have HW12 : Hid (Below wc.heap.size wc w12) := (Below.drew (Below.refl _ _)).trans hb12)
                | (go_at_call 17; refine (eq_event u a7 a12 u.prev.length u.prev.length _ (HN7.out _ (HY11.out.trans (HW12.out.mono (Nat.le_of_lt hv11)))) (hn12.at hl2)).mono ?_; rintro e w13 ⟨rfl, hb13⟩; have HW13 : Hid (Below w.heap.size w w13) := HW11.out.trans ((HW12.out.mono (Nat.le_of_lt hy11)).trans (hb13.mono (Nat.le_trans (Nat.le_of_lt hy11) HW12.out.size))))))
            | fail
          all_goals go_wp2
          all_goals go_ret
          all_goals exact ⟨rfl, HW13.out⟩
    · have HS2 : Hid ((if (u.text.size : Int) + u.prev.length ≤ 1048576 - v.text.size - v.prev.length then (1048576 : Int) - v.text.size - v.prev.length - u.text.size - u.prev.length else -1) = -1) := if_neg hs2
      clear hn1 hn2
      go_enter Try.func5, Try.ntmps5
      go_wp2_with fail
      refine (sz_event v a1 cap1 1048576 _ (by omega) (by omega) ht1 hp1).mono ?_
      rintro e w1 ⟨rfl, hb1⟩
      rw [HSZ.out]
      obtain ⟨hc1, hf1⟩ := bcell hb1
      have hz1 : w.heap.size + 1 < w1.heap.size := by have := hb1.size; simp at this; omega
      have HW1 : Hid (Below w.heap.size w w1) := (HB0.out _ _).trans (hb1.mono (by simp; omega))
      clear hb1
      go_wp2_with fail
      refine (sz_event u a2 cap2 _ _ l0 l1 ht2 hp2).mono ?_
      rintro e w2 ⟨rfl, hb2⟩
      rw [HS2.out]
      go_wp2
      go_ret
      exact ⟨rfl, HW1.out.trans (hb2.mono (by omega))⟩
  · have HSZ : Hid ((if (v.text.size : Int) + v.prev.length ≤ 1048576 then (1048576 : Int) - v.text.size - v.prev.length else -1) = -1) := if_neg hs1
    clear hn1 hn2
    go_enter Try.func5, Try.ntmps5
    go_wp2_with fail
    refine (sz_event v a1 cap1 1048576 _ (by omega) (by omega) ht1 hp1).mono ?_
    rintro e w1 ⟨rfl, hb1⟩
    rw [HSZ.out]
    go_wp2
    go_ret
    exact ⟨rfl, (HB0.out _ _).trans (hb1.mono (by simp; omega))⟩
end Go.Proofs.Ytaonnjcfpklkfag
