/- The contracts of SameEvent, the specification's and the program's. -/
import Derived.Test.YtjdkenopfnepaaaEvDeed
import Derived.Deep.RegionHeld3
namespace Go.Proofs.Ytjdkenopfnepaaa
open Go.RowKit

/-- Are all fields but Prev alike? -/
def hdB (v u : Ev) : Bool := v.id == u.id && v.room == u.room && v.author == u.author && v.kind == u.kind && v.time == u.time && (v.key == u.key && v.n == u.n && v.text.toList == u.text.toList)
def sameB (v u : Ev) : Bool := hdB v u && decide (v.prev = u.prev)
theorem take_ne {zs us : List Int} {k : Nat} (h1 : k < zs.length) (h2 : k < us.length) (h : ¬ zs[k] = us[k]) : decide (zs = us) = false := by
  refine decide_eq_false fun e => h ?_
  subst e
  rfl
theorem take_step {zs us : List Int} {k : Nat} (h1 : k < zs.length) (h2 : k < us.length) (h : zs.take k = us.take k) (he : zs[k] = us[k]) : zs.take (k + 1) = us.take (k + 1) := by
  rw [List.take_succ_eq_append_getElem h1, List.take_succ_eq_append_getElem h2, h, he]
theorem take_end {zs us : List Int} {k : Nat} (h1 : k = zs.length) (h2 : zs.length = us.length) (h : zs.take k = us.take k) : decide (zs = us) = true := by
  subst h1
  rw [List.take_length, List.take_of_length_le (by omega)] at h
  exact decide_eq_true h

set_option maxHeartbeats 1000000 in
theorem nums_spec (zs us : List Int) (a1 a2 : Option Addr) (cap1 cap2 : Nat) (w : World) (h1 : NumsAt w a1 zs) (h2 : NumsAt w a2 us) :
    Calls Try.prog 62 #[.slice a1 zs.length cap1, .slice a2 us.length cap2] w fun e w' => e = .returned (.bool (decide (zs = us))) ∧ Below w.heap.size w w' := by
  have hl := h1.1
  have hl2 := h2.1
  have H1 : Hid (NumsAt w a1 zs) := h1
  have H2 : Hid (NumsAt w a2 us) := h2
  clear h1 h2
  by_cases hE : zs.length = us.length
  · have HE : Hid (zs.length = us.length) := hE
    have bE : ((zs.length : Int) != (us.length : Int)) = false := by simp [hE]
    clear hE
    go_enter Try.func62, Try.ntmps62
    go_wp2
    go_loopw [5] (fun i wr => ∃ k : Nat, k ≤ zs.length ∧ i = .int .i64 k ∧ Hid (zs.take k = us.take k) ∧ Below w.heap.size w wr) (fun i _ => zs.length - (intOf i).toNat)
    case atStart => exact ⟨0, Nat.zero_le _, rfl, rfl, Below.refl _ _⟩
    case round =>
      obtain ⟨k, hk, rfl, HT, hbw⟩ := hrel
      by_cases hlt : k < zs.length
      · have hlt2 : k < us.length := by rw [← HE.out]; exact hlt
        obtain ⟨b, off, rfl, hbb, hcell⟩ := H1.out.2 (by omega)
        obtain ⟨b2, off2, rfl, hbb2, hcell2⟩ := H2.out.2 (by omega)
        have hck : wr.cell? ⟨b, off + k, none⟩ = some (.int .i64 zs[k]) := (hbw.cell (p := ⟨b, off + k, none⟩) hbb).trans (hcell k hlt)
        have hck2 : wr.cell? ⟨b2, off2 + k, none⟩ = some (.int .i64 us[k]) := (hbw.cell (p := ⟨b2, off2 + k, none⟩) hbb2).trans (hcell2 k hlt2)
        have HQ : Hid (∀ n, Below w.heap.size w (wr.drewN n)) := fun n => below_drewN hbw n
        clear hcell hcell2
        cases c : zs[k] != us[k]
        · have HS : Hid (zs.take (k + 1) = us.take (k + 1)) := take_step hlt hlt2 HT.out (by simpa using c)
          go_wp2
          go_quiet (fail)
          go_wp2
          go_roundw
          case rel => exact ⟨k + 1, by omega, by go_num, HS, HQ.out _⟩
          case measure => simp [intOf]; omega
        · have HS : Hid (decide (zs = us) = false) := take_ne hlt hlt2 (by simpa using c)
          go_wp2
          go_quiet (fail)
          go_wp2
          go_ret
          exact ⟨ret_bool HS.out.symm, HQ.out _⟩
      · have HS : Hid (decide (zs = us) = true) := take_end (by omega) HE.out HT.out
        go_wp2
        go_ret
        exact ⟨ret_bool HS.out.symm, hbw⟩
  · have bE : ((zs.length : Int) != (us.length : Int)) = true := by simp; omega
    have HS : Hid (decide (zs = us) = false) := decide_eq_false fun e => hE (by rw [e])
    clear hE
    go_enter Try.func62, Try.ntmps62
    go_wp2
    go_ret
    exact ⟨ret_bool HS.out.symm, Below.refl _ _⟩

set_option maxHeartbeats 1000000 in
theorem nums_impl (zs us : List Int) (a1 a2 : Option Addr) (cap1 cap2 : Nat) (w : World) (h1 : NumsAt w a1 zs) (h2 : NumsAt w a2 us) :
    Calls Try.prog 61 #[.slice a1 zs.length cap1, .slice a2 us.length cap2] w fun e w' => e = .returned (.bool (decide (zs = us))) ∧ Below w.heap.size w w' := by
  have hl := h1.1
  have hl2 := h2.1
  have H1 : Hid (NumsAt w a1 zs) := h1
  have H2 : Hid (NumsAt w a2 us) := h2
  clear h1 h2
  by_cases hE : zs.length = us.length
  · have HE : Hid (zs.length = us.length) := hE
    have bE : ((zs.length : Int) != (us.length : Int)) = false := by simp [hE]
    clear hE
    go_enter Try.func61, Try.ntmps61
    go_wp2
    go_loopw [13] (fun i wr => ∃ k : Nat, k ≤ zs.length ∧ i = .int .i64 k ∧ Hid (zs.take k = us.take k) ∧ Below w.heap.size w wr) (fun i _ => zs.length - (intOf i).toNat)
    case atStart => exact ⟨0, Nat.zero_le _, rfl, rfl, Below.refl _ _⟩
    case round =>
      obtain ⟨k, hk, rfl, HT, hbw⟩ := hrel
      by_cases hlt : k < zs.length
      · have hlt2 : k < us.length := by rw [← HE.out]; exact hlt
        obtain ⟨b, off, rfl, hbb, hcell⟩ := H1.out.2 (by omega)
        obtain ⟨b2, off2, rfl, hbb2, hcell2⟩ := H2.out.2 (by omega)
        have hck : wr.cell? ⟨b, off + k, none⟩ = some (.int .i64 zs[k]) := (hbw.cell (p := ⟨b, off + k, none⟩) hbb).trans (hcell k hlt)
        have hck2 : wr.cell? ⟨b2, off2 + k, none⟩ = some (.int .i64 us[k]) := (hbw.cell (p := ⟨b2, off2 + k, none⟩) hbb2).trans (hcell2 k hlt2)
        have HQ : Hid (∀ n, Below w.heap.size w (wr.drewN n)) := fun n => below_drewN hbw n
        clear hcell hcell2
        cases c : zs[k] != us[k]
        · have HS : Hid (zs.take (k + 1) = us.take (k + 1)) := take_step hlt hlt2 HT.out (by simpa using c)
          go_wp2
          go_quiet (fail)
          go_wp2
          go_roundw
          case rel => exact ⟨k + 1, by omega, by go_num, HS, HQ.out _⟩
          case measure => simp [intOf]; omega
        · have HS : Hid (decide (zs = us) = false) := take_ne hlt hlt2 (by simpa using c)
          go_wp2
          go_quiet (fail)
          go_wp2
          go_ret
          exact ⟨ret_bool HS.out.symm, HQ.out _⟩
      · have HS : Hid (decide (zs = us) = true) := take_end (by omega) HE.out HT.out
        go_wp2
        go_ret
        exact ⟨ret_bool HS.out.symm, hbw⟩
  · have bE : ((zs.length : Int) != (us.length : Int)) = true := by simp; omega
    have HS : Hid (decide (zs = us) = false) := decide_eq_false fun e => hE (by rw [e])
    clear hE
    go_enter Try.func61, Try.ntmps61
    go_wp2
    go_ret
    exact ⟨ret_bool HS.out.symm, Below.refl _ _⟩

set_option maxHeartbeats 2000000 in
theorem outline_impl (v : Ev) (a : Option Addr) (cap : Nat) (w : World) :
    Calls Try.prog 60 #[.agg #[.int .i64 v.id, .int .i64 v.room, .int .i64 v.author, .int .i64 v.kind, .int .i64 v.key, .int .i64 v.n, .string v.text, .slice a v.prev.length cap, .int .i64 v.time]] w fun e w' => e = .returned (.agg #[.int .i64 v.id, .int .i64 v.room, .int .i64 v.author, .int .i64 v.kind, .int .i64 v.time, .int .i64 v.key, .int .i64 v.n, .string v.text]) ∧ Below w.heap.size w w' := by
  go_enter Try.func60, Try.ntmps60
  go_wp2
  go_region_held3 (fun w' => w'.cell? ⟨w.heap.size, 0, none⟩ = some (.int .i64 v.id) ∧ w'.cell? ⟨w.heap.size, 1, none⟩ = some (.int .i64 v.room) ∧ w'.cell? ⟨w.heap.size, 2, none⟩ = some (.int .i64 v.author) ∧ w'.cell? ⟨w.heap.size, 3, none⟩ = some (.int .i64 v.kind) ∧ w'.cell? ⟨w.heap.size, 4, none⟩ = some (.int .i64 v.key) ∧ w'.cell? ⟨w.heap.size, 5, none⟩ = some (.int .i64 v.n) ∧ w'.cell? ⟨w.heap.size, 6, none⟩ = some (.string v.text) ∧ w'.cell? ⟨w.heap.size, 7, none⟩ = some (.slice a v.prev.length cap) ∧ w'.cell? ⟨w.heap.size, 8, none⟩ = some (.int .i64 v.time)) (simp [go_sem, *]) (first | (go_at_call 108; refine (details_impl _ _ _ _ _ _ _ _ _ _ _ _).mono ?_; rintro e w1 ⟨rfl, hb1⟩; obtain ⟨hc1, hf1⟩ := bcell hb1))
  all_goals go_wp2
  refine bodyPost_ret (v := .agg #[.int .i64 v.id, .int .i64 v.room, .int .i64 v.author, .int .i64 v.kind, .int .i64 v.time, .int .i64 v.key, .int .i64 v.n, .string v.text]) (by simp [results, Try.results60, go_sem, hc1]) rfl ⟨rfl, ?_⟩
  repeat refine Below.setCell ?_ (by simp) _
  exact (((Below.refl _ _).alloc (Nat.le_refl _) _).alloc (by simp) _).drew.trans (hb1.mono (by simp; omega))

set_option maxHeartbeats 2000000 in
theorem same_spec (v u : Ev) (a1 a2 : Option Addr) (cap1 cap2 : Nat) (w : World) (h1 : NumsAt w a1 v.prev) (h2 : NumsAt w a2 u.prev) :
    Calls Try.prog 15 #[.agg #[.int .i64 v.id, .int .i64 v.room, .int .i64 v.author, .int .i64 v.kind, .int .i64 v.key, .int .i64 v.n, .string v.text, .slice a1 v.prev.length cap1, .int .i64 v.time], .agg #[.int .i64 u.id, .int .i64 u.room, .int .i64 u.author, .int .i64 u.kind, .int .i64 u.key, .int .i64 u.n, .string u.text, .slice a2 u.prev.length cap2, .int .i64 u.time]] w fun e w' => e = .returned (.bool (sameB v u)) ∧ Below w.heap.size w w' := by
  have H1 : Hid (∀ w', Below w.heap.size w w' → NumsAt w' a1 v.prev) := fun w' hb => h1.kept hb
  have H2 : Hid (∀ w', Below w.heap.size w w' → NumsAt w' a2 u.prev) := fun w' hb => h2.kept hb
  have HE : Hid (sameB v u = (v.id == u.id && v.room == u.room && v.author == u.author && v.kind == u.kind && v.time == u.time && (v.key == u.key && v.n == u.n && v.text.toList == u.text.toList) && decide (v.prev = u.prev))) := rfl
  have HB : Hid (∀ o1 o2, Below w.heap.size w ((w.alloc o1).alloc o2)) := fun o1 o2 => ((Below.refl _ _).alloc (Nat.le_refl _) _).alloc (by simp) _
  clear h1 h2
  cases c_id : v.id == u.id
  · go_enter Try.func15, Try.ntmps15
    go_wp2
    go_ret
    exact ⟨ret_bool (by rw [HE.out, c_id]; simp), HB.out _ _⟩
  cases c_room : v.room == u.room
  · go_enter Try.func15, Try.ntmps15
    go_wp2
    go_ret
    exact ⟨ret_bool (by rw [HE.out, c_room]; simp), HB.out _ _⟩
  cases c_author : v.author == u.author
  · go_enter Try.func15, Try.ntmps15
    go_wp2
    go_ret
    exact ⟨ret_bool (by rw [HE.out, c_author]; simp), HB.out _ _⟩
  cases c_kind : v.kind == u.kind
  · go_enter Try.func15, Try.ntmps15
    go_wp2
    go_ret
    exact ⟨ret_bool (by rw [HE.out, c_kind]; simp), HB.out _ _⟩
  cases c_key : v.key == u.key
  · go_enter Try.func15, Try.ntmps15
    go_wp2
    go_ret
    exact ⟨ret_bool (by rw [HE.out, c_key]; simp), HB.out _ _⟩
  cases c_n : v.n == u.n
  · go_enter Try.func15, Try.ntmps15
    go_wp2
    go_ret
    exact ⟨ret_bool (by rw [HE.out, c_n]; simp), HB.out _ _⟩
  cases c_text : v.text.toList == u.text.toList
  · go_enter Try.func15, Try.ntmps15
    go_wp2
    go_ret
    exact ⟨ret_bool (by rw [HE.out, c_text]; simp), HB.out _ _⟩
  cases c_time : v.time == u.time
  · go_enter Try.func15, Try.ntmps15
    go_wp2
    go_ret
    exact ⟨ret_bool (by rw [HE.out, c_time]; simp), HB.out _ _⟩
  have HX : Hid (sameB v u = decide (v.prev = u.prev)) := by unfold Hid; rw [HE.out, c_id, c_room, c_author, c_kind, c_time, c_key, c_n, c_text]; simp
  go_enter Try.func15, Try.ntmps15
  go_wp2_with fail
  refine (nums_spec v.prev u.prev a1 a2 cap1 cap2 _ (H1.out _ (HB.out _ _)) (H2.out _ (HB.out _ _))).mono ?_
  rintro e w1 ⟨rfl, hb1⟩
  have HW : Hid (Below w.heap.size w w1) := (HB.out _ _).trans (hb1.mono (by simp; omega))
  clear hb1
  go_wp2
  go_ret
  exact ⟨ret_bool HX.out.symm, HW.out⟩
theorem eqin_outline (v u : Ev) (W : World) : (Op.equalIn 10000 92 (.agg #[.int .i64 v.id, .int .i64 v.room, .int .i64 v.author, .int .i64 v.kind, .int .i64 v.time, .int .i64 v.key, .int .i64 v.n, .string v.text]) (.agg #[.int .i64 u.id, .int .i64 u.room, .int .i64 u.author, .int .i64 u.kind, .int .i64 u.time, .int .i64 u.key, .int .i64 u.n, .string u.text])).run Try.prog W = .ok (hdB v u) W := by
  unfold hdB
  cases c_id : v.id == u.id
  · go_simp
  cases c_room : v.room == u.room
  · go_simp
  cases c_author : v.author == u.author
  · go_simp
  cases c_kind : v.kind == u.kind
  · go_simp
  cases c_time : v.time == u.time
  · go_simp
  cases c_key : v.key == u.key
  · go_simp
  cases c_n : v.n == u.n
  · go_simp
  go_simp
  split <;> simp_all
end Go.Proofs.Ytjdkenopfnepaaa
