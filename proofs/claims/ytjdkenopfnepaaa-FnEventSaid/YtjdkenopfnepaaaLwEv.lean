/- The contracts of lwNums and lwEvent, by which the laws hold two events against each other. -/
import Derived.Test.YtjdkenopfnepaaaEvSame
namespace Go.Proofs.Ytjdkenopfnepaaa
open Go.RowKit

set_option maxHeartbeats 1000000 in
theorem nums_law (zs us : List Int) (a1 a2 : Option Addr) (cap1 cap2 : Nat) (w : World) (h1 : NumsAt w a1 zs) (h2 : NumsAt w a2 us) :
    Calls Try.prog 59 #[.slice a1 zs.length cap1, .slice a2 us.length cap2] w fun e w' => e = .returned (.bool (decide (zs = us))) ∧ Below w.heap.size w w' := by
  have hl := h1.1
  have hl2 := h2.1
  have H1 : Hid (NumsAt w a1 zs) := h1
  have H2 : Hid (NumsAt w a2 us) := h2
  clear h1 h2
  by_cases hE : zs.length = us.length
  · have HE : Hid (zs.length = us.length) := hE
    have bE : ((zs.length : Int) != (us.length : Int)) = false := by simp [hE]
    clear hE
    go_enter Try.func59, Try.ntmps59
    go_wp2
    go_loopw [5] (fun i wr => ∃ k : Nat, k ≤ zs.length ∧ i = .int .i64 k ∧ Hid (zs.take k = us.take k) ∧ Below w.heap.size w wr) (fun i _ => zs.length - (intOf i).toNat)
    case atStart => exact ⟨0, Nat.zero_le _, rfl, rfl, Below.refl _ _⟩
    case round =>
      obtain ⟨k, hk, rfl, HT, hbw⟩ := hrel
      by_cases hlt : k < zs.length
      · have hlt2 : k < us.length := by rw [← HE.out]; exact hlt
        obtain ⟨b, off, rfl, hbb, hcell⟩ := H1.out.2 (by omega)
        obtain ⟨b2, off2, rfl, hbb2, hcell2⟩ := H2.out.2 (by omega)
        have hck : wr.cell? ⟨b, off + k, none⟩ = some (.int .i64 zs[k]) := (hbw.cell (p := ⟨b, off + k, none⟩) hbb).trans (hcell k hlt)
        have hck2 : wr.cell? ⟨b2, off2 + k, none⟩ = some (.int .i64 us[k]) := (hbw.cell (p := ⟨b2, off2 + k, none⟩) hbb2).trans (hcell2 k hlt2)
        have HQ : Hid (∀ n, Below w.heap.size w (wr.drewN n)) := fun n => below_drewN hbw n
        clear hcell hcell2
        cases c : zs[k] != us[k]
        · have HS : Hid (zs.take (k + 1) = us.take (k + 1)) := take_step hlt hlt2 HT.out (by simpa using c)
          go_wp2
          go_quiet (fail)
          go_wp2
          go_roundw
          case rel => exact ⟨k + 1, by omega, by go_num, HS, HQ.out _⟩
          case measure => simp [intOf]; omega
        · have HS : Hid (decide (zs = us) = false) := take_ne hlt hlt2 (by simpa using c)
          go_wp2
          go_quiet (fail)
          go_wp2
          go_ret
          exact ⟨ret_bool HS.out.symm, HQ.out _⟩
      · have HS : Hid (decide (zs = us) = true) := take_end (by omega) HE.out HT.out
        go_wp2
        go_ret
        exact ⟨ret_bool HS.out.symm, hbw⟩
  · have bE : ((zs.length : Int) != (us.length : Int)) = true := by simp; omega
    have HS : Hid (decide (zs = us) = false) := decide_eq_false fun e => hE (by rw [e])
    clear hE
    go_enter Try.func59, Try.ntmps59
    go_wp2
    go_ret
    exact ⟨ret_bool HS.out.symm, Below.refl _ _⟩

set_option maxHeartbeats 2000000 in
theorem same_law (v u : Ev) (a1 a2 : Option Addr) (cap1 cap2 : Nat) (w : World) (h1 : NumsAt w a1 v.prev) (h2 : NumsAt w a2 u.prev) :
    Calls Try.prog 13 #[.agg #[.int .i64 v.id, .int .i64 v.room, .int .i64 v.author, .int .i64 v.kind, .int .i64 v.key, .int .i64 v.n, .string v.text, .slice a1 v.prev.length cap1, .int .i64 v.time], .agg #[.int .i64 u.id, .int .i64 u.room, .int .i64 u.author, .int .i64 u.kind, .int .i64 u.key, .int .i64 u.n, .string u.text, .slice a2 u.prev.length cap2, .int .i64 u.time]] w fun e w' => e = .returned (.bool (sameB v u)) ∧ Below w.heap.size w w' := by
  have H1 : Hid (∀ w', Below w.heap.size w w' → NumsAt w' a1 v.prev) := fun w' hb => h1.kept hb
  have H2 : Hid (∀ w', Below w.heap.size w w' → NumsAt w' a2 u.prev) := fun w' hb => h2.kept hb
  have HE : Hid (sameB v u = (v.id == u.id && v.room == u.room && v.author == u.author && v.kind == u.kind && v.time == u.time && (v.key == u.key && v.n == u.n && v.text.toList == u.text.toList) && decide (v.prev = u.prev))) := rfl
  have HB : Hid (∀ o1 o2, Below w.heap.size w ((w.alloc o1).alloc o2)) := fun o1 o2 => ((Below.refl _ _).alloc (Nat.le_refl _) _).alloc (by simp) _
  clear h1 h2
  cases c_id : v.id == u.id
  · go_enter Try.func13, Try.ntmps13
    go_wp2
    go_ret
    exact ⟨ret_bool (by rw [HE.out, c_id]; simp), HB.out _ _⟩
  cases c_room : v.room == u.room
  · go_enter Try.func13, Try.ntmps13
    go_wp2
    go_ret
    exact ⟨ret_bool (by rw [HE.out, c_room]; simp), HB.out _ _⟩
  cases c_author : v.author == u.author
  · go_enter Try.func13, Try.ntmps13
    go_wp2
    go_ret
    exact ⟨ret_bool (by rw [HE.out, c_author]; simp), HB.out _ _⟩
  cases c_kind : v.kind == u.kind
  · go_enter Try.func13, Try.ntmps13
    go_wp2
    go_ret
    exact ⟨ret_bool (by rw [HE.out, c_kind]; simp), HB.out _ _⟩
  cases c_key : v.key == u.key
  · go_enter Try.func13, Try.ntmps13
    go_wp2
    go_ret
    exact ⟨ret_bool (by rw [HE.out, c_key]; simp), HB.out _ _⟩
  cases c_n : v.n == u.n
  · go_enter Try.func13, Try.ntmps13
    go_wp2
    go_ret
    exact ⟨ret_bool (by rw [HE.out, c_n]; simp), HB.out _ _⟩
  cases c_text : v.text.toList == u.text.toList
  · go_enter Try.func13, Try.ntmps13
    go_wp2
    go_ret
    exact ⟨ret_bool (by rw [HE.out, c_text]; simp), HB.out _ _⟩
  cases c_time : v.time == u.time
  · go_enter Try.func13, Try.ntmps13
    go_wp2
    go_ret
    exact ⟨ret_bool (by rw [HE.out, c_time]; simp), HB.out _ _⟩
  have HX : Hid (sameB v u = decide (v.prev = u.prev)) := by unfold Hid; rw [HE.out, c_id, c_room, c_author, c_kind, c_time, c_key, c_n, c_text]; simp
  go_enter Try.func13, Try.ntmps13
  go_wp2_with fail
  refine (nums_law v.prev u.prev a1 a2 cap1 cap2 _ (H1.out _ (HB.out _ _)) (H2.out _ (HB.out _ _))).mono ?_
  rintro e w1 ⟨rfl, hb1⟩
  have HW : Hid (Below w.heap.size w w1) := (HB.out _ _).trans (hb1.mono (by simp; omega))
  clear hb1
  go_wp2
  go_ret
  exact ⟨ret_bool HX.out.symm, HW.out⟩
end Go.Proofs.Ytjdkenopfnepaaa
