/- The contract of the program's readNum: a loop of jumps. -/
import Derived.Test.YtjdkenopfnepaaaGetPlain
import Derived.Test.YtjdkenopfnepaaaJumps
import Derived.WalkMore
namespace Go.Proofs.Ytjdkenopfnepaaa
open Go.RowKit

theorem unfold_impl (y : Nat) (w : World) (hy : y ≤ 18446744073709551615) :
    Calls Try.prog 141 #[.int .u64 y] w fun e w' => e = .returned (.int .i64 (unfZ y)) ∧ w = w' := by
  cases hpar : ((y : Int) % 2 == 1)
  · have HU : Hid (unfZ y = (y : Int) / 2) := unfZ_even hpar
    go_enter Try.func141, Try.ntmps141
    go_wp2
    go_ret
    exact ⟨ret_int HU.out.symm, rfl⟩
  · have HU : Hid (unfZ y = -((y : Int) / 2) - 1) := unfZ_odd hpar
    go_enter Try.func141, Try.ntmps141
    go_wp2
    go_ret
    exact ⟨ret_int HU.out.symm, rfl⟩

/-- What readNum hands back: the number and the place; or an error that bears the code, in new memory. -/
def readPost (w : World) (a b c : Int) (e : Ending) (w' : World) : Prop :=
  Below w.heap.size w w' ∧ ((c = 0 ∧ e = .returned (.tuple #[.int .i64 a, .int .i64 b, .nilIface])) ∨
    (c ≠ 0 ∧ a = 0 ∧ b = 0 ∧ ∃ N, w.heap.size ≤ N ∧ N < w'.heap.size ∧ e = .returned (.tuple #[.int .i64 0, .int .i64 0, .iface 175 (.pointer (some ⟨N, 0, none⟩))]) ∧ w'.cell? ⟨N, 0, none⟩ = some (.int .i64 c)))

/-- What holds at the labels: more, last, wrong. -/
def RJ1 (s : ByteArray) (p : Nat) (R : Int × Int × Int) (a : Act) : Prop :=
  ∃ (k z : Nat) (q sh : Int) (b : Value) (u11 u12 u13 u14 u15 u16 u17 u18 u19 u20 u21 u22 u23 u24 u25 u26 u27 u28 u29 u30 u31 u32 u33 u34 u35 u36 u37 u38 u39 u40 u41 u42 u43 u44 u45 u46 u47 u48 u49 u50 u51 u52 u53 u54 u55 u56 u57 u58 u59 u60 : Value), k ≤ 9 ∧ q = (p : Int) + k ∧ sh = 7 * (k : Int) ∧ (0 < k → q ≤ 8000) ∧ (z < 128 ^ k ∧ R = G s p (9 - k + 1) k z) ∧ a = { tmps := #[.string s, .int .i64 q, undef, undef, .int .i64 0, .int .i64 0, .nilIface, .int .u64 z, .int .u64 sh, b, .int .i64 4, u11, u12, u13, u14, u15, u16, u17, u18, u19, u20, u21, u22, u23, u24, u25, u26, u27, u28, u29, u30, u31, u32, u33, u34, u35, u36, u37, u38, u39, u40, u41, u42, u43, u44, u45, u46, u47, u48, u49, u50, u51, u52, u53, u54, u55, u56, u57, u58, u59, u60], defers := [] }
def RJ2 (s : ByteArray) (p : Nat) (R : Int × Int × Int) (a : Act) : Prop :=
  ∃ (k y c : Nat) (q sh : Int) (u11 u12 u13 u14 u15 u16 u17 u18 u19 u20 u21 u22 u23 u24 u25 u26 u27 u28 u29 u30 u31 u32 u33 u34 u35 u36 u37 u38 u39 u40 u41 u42 u43 u44 u45 u46 u47 u48 u49 u50 u51 u52 u53 u54 u55 u56 u57 u58 u59 u60 : Value), k ≤ 9 ∧ q = (p : Int) + k + 1 ∧ sh = 7 * (k : Int) ∧ c < 128 ∧ y ≤ 18446744073709551615 ∧ (c = 0 ∧ 0 < k → R = (0, 0, 3)) ∧ (¬ (c = 0 ∧ 0 < k) → R = (unfZ y, (p : Int) + k + 1, 0)) ∧ a = { tmps := #[.string s, .int .i64 q, undef, undef, .int .i64 0, .int .i64 0, .nilIface, .int .u64 y, .int .u64 sh, .int .u8 c, .int .i64 4, u11, u12, u13, u14, u15, u16, u17, u18, u19, u20, u21, u22, u23, u24, u25, u26, u27, u28, u29, u30, u31, u32, u33, u34, u35, u36, u37, u38, u39, u40, u41, u42, u43, u44, u45, u46, u47, u48, u49, u50, u51, u52, u53, u54, u55, u56, u57, u58, u59, u60], defers := [] }
def RJ0 (s : ByteArray) (R : Int × Int × Int) (a : Act) : Prop :=
  ∃ (c : Int) (x1 x7 x8 x9 : Value) (u11 u12 u13 u14 u15 u16 u17 u18 u19 u20 u21 u22 u23 u24 u25 u26 u27 u28 u29 u30 u31 u32 u33 u34 u35 u36 u37 u38 u39 u40 u41 u42 u43 u44 u45 u46 u47 u48 u49 u50 u51 u52 u53 u54 u55 u56 u57 u58 u59 u60 : Value), c ≠ 0 ∧ R = (0, 0, c) ∧ a = { tmps := #[.string s, x1, undef, undef, .int .i64 0, .int .i64 0, .nilIface, x7, x8, x9, .int .i64 c, u11, u12, u13, u14, u15, u16, u17, u18, u19, u20, u21, u22, u23, u24, u25, u26, u27, u28, u29, u30, u31, u32, u33, u34, u35, u36, u37, u38, u39, u40, u41, u42, u43, u44, u45, u46, u47, u48, u49, u50, u51, u52, u53, u54, u55, u56, u57, u58, u59, u60], defers := [] }
def RJ (s : ByteArray) (p : Nat) (R : Int × Int × Int) (w0 : World) (l : Nat) (a : Act) (w : World) : Prop :=
  w = w0 ∧ ((l = 1 ∧ RJ1 s p R a) ∨ (l = 2 ∧ RJ2 s p R a) ∨ (l = 0 ∧ RJ0 s R a))
def Rμ (l : Nat) (a : Act) (_ : World) : Nat := if l = 1 then 100 - (intOf (a.tmps.getD 8 undef)).toNat else if l = 2 then 5 else 1

set_option maxHeartbeats 2000000 in
set_option maxRecDepth 100000 in
theorem pass1 (s : ByteArray) (p : Nat) (w : World) (hs : (s.size : Int) ≤ 8000) (h1 : (p : Int) ≤ 9223372036854775807) (R : Int × Int × Int) (Q : Exit → Act → World → Prop) (a : Act) (hJ : RJ1 s p R a) (rest r0 c0 : Code)
    (hb : Try.f128.body = some (.seq r0 (.scope c0))) (hr : findLabel c0 1 = some (Code.skip.seq rest)) :
    rest.wp Try.prog (jumps (fun l' a' w' => RJ s p R w l' a' w' ∧ Rμ l' a' w' < Rμ 1 a w) Q) a w := by
  obtain rfl : c0 = _ := Code.scope.inj (Code.seq.inj (Option.some.inj (hb.symm.trans rfl))).2
  obtain rfl : rest = _ := (Code.seq.inj (Option.some.inj (hr.symm.trans rfl))).2
  clear hb hr
  obtain ⟨k, z, q, sh, b, u11, u12, u13, u14, u15, u16, u17, u18, u19, u20, u21, u22, u23, u24, u25, u26, u27, u28, u29, u30, u31, u32, u33, u34, u35, u36, u37, u38, u39, u40, u41, u42, u43, u44, u45, u46, u47, u48, u49, u50, u51, u52, u53, u54, u55, u56, u57, u58, u59, u60, hk, hq, hsh, hq8, hZ, rfl⟩ := hJ
  have HZ : Hid (z < 128 ^ k ∧ R = G s p (9 - k + 1) k z) := hZ
  have hz := z_64 hZ.1 hk
  clear hZ
  subst hq hsh
  by_cases hlt : p + k < s.size
  · have hb2 : (s[p + k].toNat : Int) ≤ 255 := by have := s[p + k].toNat_lt; omega
    by_cases hB1 : 9 ≤ k ∧ 1 < s[p + k].toNat
    · have HE : Hid (R = (0, 0, 3)) := by unfold Hid; rw [HZ.out.2, G_big s p _ k z hlt (by omega) hB1.2]
      have b9 : (7 * (k : Int) == 63) = true := by simp; omega
      have b1 : decide (1 < (s[p + k].toNat : Int)) = true := by simp; omega
      clear hB1
      go_wp2
      go_step3
      exact ⟨⟨rfl, .inr (.inr ⟨rfl, 3, _, _, _, _, _, _, _, _, _, _, _, _, _, _, _, _, _, _, _, _, _, _, _, _, _, _, _, _, _, _, _, _, _, _, _, _, _, _, _, _, _, _, _, _, _, _, _, _, _, _, _, _, _, _, by decide, HE.out, rfl⟩)⟩, by simp [Rμ, intOf]; omega⟩
    have h9 : k = 9 → s[p + k].toNat ≤ 1 := by intro h; omega
    have hor := or_nx HZ.out.1 hk h9
    have hy := nx_64 HZ.out.1 hk h9
    by_cases hc : 128 ≤ s[p + k].toNat
    · have hnl := nx_lt (c := s[p + k].toNat) HZ.out.1
      have HE : Hid (R = G s p (9 - (k + 1) + 1) (k + 1) (nx z s[p + k].toNat k)) := by
        unfold Hid
        rw [HZ.out.2, G_more s p _ k z hlt (by omega) hc]
        congr 1
        omega
      generalize hyv : nx z s[p + k].toNat k = y at hor hy HE hnl
      have HN : Hid (y < 128 ^ (k + 1)) := hnl
      have b9 : (7 * (k : Int) == 63) = false := by simp; omega
      have hc' : 128 ≤ (s[p + k].toNat : Int) := by omega
      have hk8 : k ≤ 8 := by omega
      clear hnl hyv h9 hB1 hc
      go_wp2
      go_step3
      exact ⟨⟨rfl, .inl ⟨rfl, k + 1, y, _, _, _, _, _, _, _, _, _, _, _, _, _, _, _, _, _, _, _, _, _, _, _, _, _, _, _, _, _, _, _, _, _, _, _, _, _, _, _, _, _, _, _, _, _, _, _, _, _, _, _, _, _, by omega, by omega, by omega, by omega, ⟨HN.out, HE.out⟩, rfl⟩⟩, by simp [Rμ, intOf]; omega⟩
    · have hc' : (s[p + k].toNat : Int) < 128 := by omega
      have HE1 : Hid (s[p + k].toNat = 0 ∧ 0 < k → R = (0, 0, 3)) := fun h => by rw [HZ.out.2, G_zero s p _ k z hlt h.2 h.1]
      have HE2 : Hid (¬ (s[p + k].toNat = 0 ∧ 0 < k) → R = (unfZ (nx z s[p + k].toNat k), (p : Int) + k + 1, 0)) := fun h => by
        rw [HZ.out.2, G_done s p _ k z hlt (by omega) (by omega) h]
      generalize hyv : nx z s[p + k].toNat k = y at hor hy HE2
      clear hyv hc
      by_cases hn : 9 ≤ k
      · have b9 : (7 * (k : Int) == 63) = true := by simp; omega
        have b1 : decide (1 < (s[p + k].toNat : Int)) = false := by simp; omega
        clear hB1 h9
        go_wp2
        go_step3
        exact ⟨⟨rfl, .inr (.inl ⟨rfl, k, y, s[p + k].toNat, _, _, _, _, _, _, _, _, _, _, _, _, _, _, _, _, _, _, _, _, _, _, _, _, _, _, _, _, _, _, _, _, _, _, _, _, _, _, _, _, _, _, _, _, _, _, _, _, _, _, _, _, hk, rfl, rfl, by omega, hy, HE1.out, HE2.out, rfl⟩)⟩, by simp [Rμ, intOf]; omega⟩
      · have b9 : (7 * (k : Int) == 63) = false := by simp; omega
        clear hB1 h9
        go_wp2
        go_step3
        exact ⟨⟨rfl, .inr (.inl ⟨rfl, k, y, s[p + k].toNat, _, _, _, _, _, _, _, _, _, _, _, _, _, _, _, _, _, _, _, _, _, _, _, _, _, _, _, _, _, _, _, _, _, _, _, _, _, _, _, _, _, _, _, _, _, _, _, _, _, _, _, _, hk, rfl, rfl, by omega, hy, HE1.out, HE2.out, rfl⟩)⟩, by simp [Rμ, intOf]; omega⟩
  · have HE : Hid (R = (0, 0, 4)) := by unfold Hid; rw [HZ.out.2, G_short s p _ k z (by omega)]
    go_wp2
    go_step3
    exact ⟨⟨rfl, .inr (.inr ⟨rfl, 4, _, _, _, _, _, _, _, _, _, _, _, _, _, _, _, _, _, _, _, _, _, _, _, _, _, _, _, _, _, _, _, _, _, _, _, _, _, _, _, _, _, _, _, _, _, _, _, _, _, _, _, _, _, _, by decide, HE.out, rfl⟩)⟩, by simp [Rμ, intOf]; omega⟩

set_option maxHeartbeats 2000000 in
set_option maxRecDepth 100000 in
theorem pass2 (s : ByteArray) (p : Nat) (w w0 : World) (R : Int × Int × Int) (a : Act) (hJ : RJ2 s p R a) (rest r0 c0 : Code)
    (hb : Try.f128.body = some (.seq r0 (.scope c0))) (hr : findLabel c0 2 = some rest) (hw : Below w0.heap.size w0 w) :
    rest.wp Try.prog (jumps (fun l' a' w' => RJ s p R w l' a' w' ∧ Rμ l' a' w' < Rμ 2 a w) (bodyPost Try.prog Try.f128 (readPost w0 R.1 R.2.1 R.2.2))) a w := by
  obtain rfl : c0 = _ := Code.scope.inj (Code.seq.inj (Option.some.inj (hb.symm.trans rfl))).2
  obtain rfl : rest = _ := Option.some.inj (hr.symm.trans rfl)
  clear hb hr
  obtain ⟨k, y, c, q, sh, u11, u12, u13, u14, u15, u16, u17, u18, u19, u20, u21, u22, u23, u24, u25, u26, u27, u28, u29, u30, u31, u32, u33, u34, u35, u36, u37, u38, u39, u40, u41, u42, u43, u44, u45, u46, u47, u48, u49, u50, u51, u52, u53, u54, u55, u56, u57, u58, u59, u60, hk, hq, hsh, hc, hy, hE1, hE2, rfl⟩ := hJ
  subst hq hsh
  by_cases hB : c = 0 ∧ 0 < k
  · have HE : Hid (R = (0, 0, 3)) := hE1 hB
    have b0 : ((c : Int) == 0) = true := by simp; omega
    have hkp : 0 < k := hB.2
    clear hB hE1 hE2
    go_wp2
    go_step3
    exact ⟨⟨rfl, .inr (.inr ⟨rfl, 3, _, _, _, _, _, _, _, _, _, _, _, _, _, _, _, _, _, _, _, _, _, _, _, _, _, _, _, _, _, _, _, _, _, _, _, _, _, _, _, _, _, _, _, _, _, _, _, _, _, _, _, _, _, _, by decide, HE.out, rfl⟩)⟩, by simp [Rμ]⟩
  · have HE : Hid (R = (unfZ y, (p : Int) + k + 1, 0)) := hE2 hB
    clear hE1 hE2
    by_cases hcz : c < 1
    · have b0 : ((c : Int) == 0) = true := by simp; omega
      have hkn : ¬ 0 < k := by omega
      clear hB hcz
      go_wp2_with (go_at_call 141; refine (unfold_impl y _ hy).mono ?_; rintro e w' ⟨rfl, rfl⟩)
      simp only [jumps]
      go_ret3
      rw [HE.out]
      exact ⟨hw, .inl ⟨rfl, rfl⟩⟩
    · have b0 : ((c : Int) == 0) = false := by simp; omega
      clear hB hcz
      go_wp2_with (go_at_call 141; refine (unfold_impl y _ hy).mono ?_; rintro e w' ⟨rfl, rfl⟩)
      simp only [jumps]
      go_ret3
      rw [HE.out]
      exact ⟨hw, .inl ⟨rfl, rfl⟩⟩

set_option maxHeartbeats 2000000 in
set_option maxRecDepth 100000 in
theorem pass0 (s : ByteArray) (p : Nat) (w w0 : World) (R : Int × Int × Int) (a : Act) (hJ : RJ0 s R a) (rest r0 c0 : Code)
    (hb : Try.f128.body = some (.seq r0 (.scope c0))) (hr : findLabel c0 0 = some rest) (hw : Below w0.heap.size w0 w) :
    rest.wp Try.prog (jumps (fun l' a' w' => RJ s p R w l' a' w' ∧ Rμ l' a' w' < Rμ 0 a w) (bodyPost Try.prog Try.f128 (readPost w0 R.1 R.2.1 R.2.2))) a w := by
  obtain rfl : c0 = _ := Code.scope.inj (Code.seq.inj (Option.some.inj (hb.symm.trans rfl))).2
  obtain rfl : rest = _ := Option.some.inj (hr.symm.trans rfl)
  clear hb hr
  obtain ⟨c, x1, x7, x8, x9, u11, u12, u13, u14, u15, u16, u17, u18, u19, u20, u21, u22, u23, u24, u25, u26, u27, u28, u29, u30, u31, u32, u33, u34, u35, u36, u37, u38, u39, u40, u41, u42, u43, u44, u45, u46, u47, u48, u49, u50, u51, u52, u53, u54, u55, u56, u57, u58, u59, u60, hc, hE, rfl⟩ := hJ
  have HE : Hid (R = (0, 0, c)) := hE
  clear hE
  go_wp2
  simp only [jumps]
  go_ret3
  rw [HE.out]
  exact ⟨hw.alloc hw.size _, .inr ⟨hc, rfl, rfl, w.heap.size, hw.size, by simp, rfl, by simp⟩⟩

theorem use_pass {P : Program} {c : Code} {Q : Exit → Act → World → Prop} {w : World} {J : Act → Prop} (h : ∀ a, J a → c.wp P Q a w) {a : Act} (hj : J a) : c.wp P Q a w := h a hj
set_option maxHeartbeats 2000000 in
set_option maxRecDepth 100000 in
theorem read_impl (s : ByteArray) (p : Nat) (w : World) (hs : (s.size : Int) ≤ 8000) (h1 : (p : Int) ≤ 9223372036854775807) (R : Int × Int × Int) (hR : R = G s p 10 0 0) :
    Calls Try.prog 128 #[.string s, .int .i64 p] w (readPost w R.1 R.2.1 R.2.2) := by
  have HR : Hid (R = G s p 10 0 0) := hR
  clear hR
  go_enter Try.func128, Try.ntmps128
  go_wp2
  refine wp_scope_many (RJ s p R w) Rμ ?_ ?_
  · rintro l a w1 ⟨rfl, (⟨rfl, hJ⟩ | ⟨rfl, hJ⟩ | ⟨rfl, hJ⟩)⟩
    · exact ⟨_, rfl, wp_seq (wp_skip (pass1 s p w1 hs h1 R _ a hJ _ _ _ rfl rfl))⟩
    · exact ⟨_, rfl, pass2 s p w1 w1 R a hJ _ _ _ rfl rfl (Below.refl _ _)⟩
    · exact ⟨_, rfl, pass0 s p w1 w1 R a hJ _ _ _ rfl rfl (Below.refl _ _)⟩
  · intro _
    go_wp2
    refine wp_label ?_
    rename_i hK
    refine hK _ _ ?_
    refine use_pass (J := RJ1 s p R) ?_ ?_
    · intro a hJ
      exact wp_mono (pass1 s p w hs h1 R _ a hJ _ _ _ rfl rfl) (jumps_mono fun _ _ _ h => h.1)
    · exact ⟨0, 0, (p : Int), 0, _, _, _, _, _, _, _, _, _, _, _, _, _, _, _, _, _, _, _, _, _, _, _, _, _, _, _, _, _, _, _, _, _, _, _, _, _, _, _, _, _, _, _, _, _, _, _, _, _, _, _, by omega, by simp, by simp, by omega, ⟨by decide, HR.out⟩, rfl⟩

set_option maxHeartbeats 1000000 in
theorem read_big (s : ByteArray) (at_ : Int) (w : World) (hs : (s.size : Int) > 8000) :
    Calls Try.prog 128 #[.string s, .int .i64 at_] w (readPost w 0 0 2) := by
  go_enter Try.func128, Try.ntmps128
  go_wp2
  go_step3
  go_wp2
  simp only [Exit.noGoto]
  go_ret3
  exact ⟨(Below.refl _ _).alloc (Nat.le_refl _) _, .inr ⟨by decide, rfl, rfl, w.heap.size, Nat.le_refl _, by simp, rfl, by simp⟩⟩
set_option maxHeartbeats 1000000 in
theorem read_neg (s : ByteArray) (at_ : Int) (w : World) (hs : (s.size : Int) ≤ 8000) (h0 : at_ < 0) :
    Calls Try.prog 128 #[.string s, .int .i64 at_] w (readPost w 0 0 1) := by
  go_enter Try.func128, Try.ntmps128
  go_wp2
  go_step3
  go_wp2
  simp only [Exit.noGoto]
  go_ret3
  exact ⟨(Below.refl _ _).alloc (Nat.le_refl _) _, .inr ⟨by decide, rfl, rfl, w.heap.size, Nat.le_refl _, by simp, rfl, by simp⟩⟩
end Go.Proofs.Ytjdkenopfnepaaa
