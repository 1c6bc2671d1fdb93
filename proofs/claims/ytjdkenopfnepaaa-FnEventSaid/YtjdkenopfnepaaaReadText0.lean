/- The program's readText, out of its readNum. -/
import Derived.Test.YtjdkenopfnepaaaRead
import Derived.Test.YtjdkenopfnepaaaJoin
namespace Go.Proofs.Ytjdkenopfnepaaa
open Go.RowKit

/-- What readText hands back: the text and the place; or an error that bears the code, in new memory. -/
def textPost (w : World) (t : ByteArray) (b c : Int) (e : Ending) (w' : World) : Prop :=
  Below w.heap.size w w' ∧ ((c = 0 ∧ e = .returned (.tuple #[.string t, .int .i64 b, .nilIface])) ∨
    (c ≠ 0 ∧ t = ⟨#[]⟩ ∧ b = 0 ∧ ∃ N, w.heap.size ≤ N ∧ N < w'.heap.size ∧ e = .returned (.tuple #[.string ⟨#[]⟩, .int .i64 0, .iface 175 (.pointer (some ⟨N, 0, none⟩))]) ∧ w'.cell? ⟨N, 0, none⟩ = some (.int .i64 c)))

section
variable (s : ByteArray) (at_ : Int) (w : World)

set_option maxHeartbeats 1000000 in
theorem readtext_err (c : Int) (hc0 : c ≠ 0) (h1 : ∀ w, Calls Try.prog 128 #[.string s, .int .i64 at_] w (readPost w 0 0 c)) :
    Calls Try.prog 129 #[.string s, .int .i64 at_] w (textPost w ⟨#[]⟩ 0 c) := by
  have H1 : Hid (∀ w, Calls Try.prog 128 #[.string s, .int .i64 at_] w (readPost w 0 0 c)) := h1
  clear h1
  go_enter Try.func129, Try.ntmps129
  go_wp2_with fail
  refine (H1.out _).mono ?_
  rintro e w1 ⟨hb1, (⟨h0, rfl⟩ | ⟨hc, ha, hb, N, hN, hN2, rfl, hcell⟩)⟩
  · exact absurd h0 (by omega)
  · go_wp2
    go_ret3
    exact ⟨hb1, .inr ⟨hc0, rfl, rfl, N, hN, hN2, rfl, hcell⟩⟩

set_option maxHeartbeats 1000000 in
theorem readtext_neg (a b : Int) (ha0 : a < 0) (h1 : ∀ w, Calls Try.prog 128 #[.string s, .int .i64 at_] w (readPost w a b 0)) :
    Calls Try.prog 129 #[.string s, .int .i64 at_] w (textPost w ⟨#[]⟩ 0 3) := by
  have ba : decide (a < 0) = true := by simpa using ha0
  have H1 : Hid (∀ w, Calls Try.prog 128 #[.string s, .int .i64 at_] w (readPost w a b 0)) := h1
  clear h1
  go_enter Try.func129, Try.ntmps129
  go_wp2_with fail
  refine (H1.out _).mono ?_
  rintro e w1 ⟨hb1, (⟨h0, rfl⟩ | ⟨hc, ha, hb, N, hN, hN2, rfl, hcell⟩)⟩
  · clear h0
    go_wp2
    go_ret3
    exact ⟨hb1.alloc hb1.size _, .inr ⟨by decide, rfl, rfl, w1.heap.size, hb1.size, by simp, rfl, by simp⟩⟩
  · exact absurd rfl hc

set_option maxHeartbeats 1000000 in
theorem readtext_big (a b : Int) (ha0 : 8000 < a) (h1 : ∀ w, Calls Try.prog 128 #[.string s, .int .i64 at_] w (readPost w a b 0)) :
    Calls Try.prog 129 #[.string s, .int .i64 at_] w (textPost w ⟨#[]⟩ 0 3) := by
  have ba : decide (a < 0) = false := by simp; omega
  have bb : decide (8000 < a) = true := by simpa using ha0
  have H1 : Hid (∀ w, Calls Try.prog 128 #[.string s, .int .i64 at_] w (readPost w a b 0)) := h1
  clear h1
  go_enter Try.func129, Try.ntmps129
  go_wp2_with fail
  refine (H1.out _).mono ?_
  rintro e w1 ⟨hb1, (⟨h0, rfl⟩ | ⟨hc, ha, hb, N, hN, hN2, rfl, hcell⟩)⟩
  · clear h0
    go_wp2
    go_ret3
    exact ⟨hb1.alloc hb1.size _, .inr ⟨by decide, rfl, rfl, w1.heap.size, hb1.size, by simp, rfl, by simp⟩⟩
  · exact absurd rfl hc

set_option maxHeartbeats 1000000 in
theorem readtext_short (m q : Nat) (hs : (s.size : Int) ≤ 8000) (ha0 : (m : Int) ≤ 8000) (hq : (q : Int) ≤ s.size) (hq2 : (s.size : Int) - m < q) (h1 : ∀ w, Calls Try.prog 128 #[.string s, .int .i64 at_] w (readPost w m q 0)) :
    Calls Try.prog 129 #[.string s, .int .i64 at_] w (textPost w ⟨#[]⟩ 0 4) := by
  have ba : decide ((m : Int) < 0) = false := by simp
  have bb : decide (8000 < (m : Int)) = false := by simp; omega
  have H1 : Hid (∀ w, Calls Try.prog 128 #[.string s, .int .i64 at_] w (readPost w m q 0)) := h1
  clear h1
  go_enter Try.func129, Try.ntmps129
  go_wp2_with fail
  refine (H1.out _).mono ?_
  rintro e w1 ⟨hb1, (⟨h0, rfl⟩ | ⟨hc, ha, hb, N, hN, hN2, rfl, hcell⟩)⟩
  · clear h0
    go_wp2
    go_ret3
    exact ⟨hb1.alloc hb1.size _, .inr ⟨by decide, rfl, rfl, w1.heap.size, hb1.size, by simp, rfl, by simp⟩⟩
  · exact absurd rfl hc

set_option maxHeartbeats 1000000 in
theorem readtext_ok (m q : Nat) (hs : (s.size : Int) ≤ 8000) (ha0 : (m : Int) ≤ 8000) (hq : (q : Int) ≤ s.size) (hq2 : (q : Int) ≤ s.size - m) (h1 : ∀ w, Calls Try.prog 128 #[.string s, .int .i64 at_] w (readPost w m q 0)) :
    Calls Try.prog 129 #[.string s, .int .i64 at_] w (textPost w (s.extract q (q + m)) (q + m) 0) := by
  have ba : decide ((m : Int) < 0) = false := by simp
  have bb : decide (8000 < (m : Int)) = false := by simp; omega
  have hbs : (s.extract q (q + m)).size ≤ 1000000000 := by simp only [ByteArray.size_extract]; omega
  have H1 : Hid (∀ w, Calls Try.prog 128 #[.string s, .int .i64 at_] w (readPost w m q 0)) := h1
  clear h1
  go_enter Try.func129, Try.ntmps129
  go_wp2_with fail
  refine (H1.out _).mono ?_
  rintro e w1 ⟨hb1, (⟨h0, rfl⟩ | ⟨hc, ha, hb, N, hN, hN2, rfl, hcell⟩)⟩
  · clear h0
    go_wp2_with fail
    refine (joined_one _ _ _ hbs).mono ?_
    rintro e w2 ⟨rfl, hb2⟩
    go_wp2
    go_ret3
    exact ⟨hb1.trans (hb2.mono hb1.size), .inl ⟨rfl, rfl⟩⟩
  · exact absurd rfl hc
end
end Go.Proofs.Ytjdkenopfnepaaa
