/- The source that the specification's draws read from: its object in memory, and what one draw of it does. -/
import Derived.Test.YtjdkenopfnepaaaBytes
import Derived.RegionTactic
import Derived.BigRegion
import Derived.OpenShut
import Derived.BigQuiet
namespace Go.Proofs.Ytjdkenopfnepaaa
open Go.RowKit

/-- A slice of bytes that came in (or is empty), its cells below block 'base'. -/
def CodeAt (w : World) (base : Nat) (a : Option Addr) (len : Nat) : Prop :=
  len ≤ 1048576 ∧ (0 < len → ∃ b off, a = some ⟨b, off, none⟩ ∧ b < base ∧ b < w.heap.size ∧ ∀ j, j < len → ∃ c : Int, 0 ≤ c ∧ c ≤ 255 ∧ w.cell? ⟨b, off + j, none⟩ = some (.int .u8 c))
theorem CodeAt.kept {w w' : World} {base : Nat} {a : Option Addr} {len : Nat} (h : CodeAt w base a len) (hb : Below base w w') : CodeAt w' base a len := by
  refine ⟨h.1, fun hl => ?_⟩
  obtain ⟨b, off, ha, hbb, hbs, hc⟩ := h.2 hl
  refine ⟨b, off, ha, hbb, Nat.lt_of_lt_of_le hbs hb.size, fun j hj => ?_⟩
  obtain ⟨c, h0, h1, h2⟩ := hc j hj
  exact ⟨c, h0, h1, (hb.cell (p := ⟨b, off + j, none⟩) hbb).trans h2⟩
/-- The source's object: block g, of one's own. -/
def SrcAt (w : World) (base g : Nat) : Prop :=
  base ≤ g ∧ ∃ (a : Option Addr) (len cap at_ : Nat) (mix size : Int), w.heap[g]? = some (.cells #[.slice a len cap, .int .i64 at_, .int .u64 mix, .int .i64 size] 125 (0, 0)) ∧ at_ ≤ len ∧ 0 ≤ mix ∧ mix ≤ 18446744073709551615 ∧ CodeAt w base a len
theorem SrcAt.kept {w w' : World} {base g : Nat} (h : SrcAt w base g) (hb : Below base w w') (hg : w'.heap[g]? = w.heap[g]?) : SrcAt w' base g := by
  obtain ⟨hB, a, len, cap, at_, mix, size, hh, h1, h2, h3, hc⟩ := h
  exact ⟨hB, a, len, cap, at_, mix, size, hg.trans hh, h1, h2, h3, hc.kept hb⟩
theorem SrcAt.lt {w : World} {base g : Nat} (h : SrcAt w base g) : g < w.heap.size := by
  obtain ⟨_, _, _, _, _, _, _, hh, _⟩ := h
  exact (Array.getElem?_eq_some_iff.1 hh).1
/-- What one draw does: a number below 'most', and only the source's object has turned. -/
def Drawn (base g : Nat) (most : Int) (w : World) (e : Ending) (w' : World) : Prop :=
  ∃ r : Int, e = .returned (.int .i64 r) ∧ 0 ≤ r ∧ (1 < most → r < most) ∧ (most ≤ 1 → r = 0) ∧ SrcAt w' base g ∧ w.grownBy w' (some g) ∧ w'.heap.size = w.heap.size
theorem xor64 (a b : Int) : 0 ≤ bits .xor .u64 a b ∧ bits .xor .u64 a b ≤ 18446744073709551615 := bounds_u64 (wf_bits _ _ _ _)

theorem set_twice (W : World) (a : Addr) (v1 v2 : Value) : (W.setCell a v1).setCell a v2 = W.setCell a v2 := by
  unfold World.setCell
  simp only [World.mk.injEq, and_true]
  apply Array.ext
  · simp
  · intro i h1 h2
    simp only [Array.getElem_modify]
    split
    · have hi : i < W.heap.size := by simpa using h2
      cases W.heap[i] <;> simp
      split <;> simp
    · rfl
theorem mod_ok {Y most : Int} (hY : 0 ≤ Y) (h1 : 1 < most) (h2 : most ≤ 9223372036854775807) : 0 ≤ wrap64 (Y.tmod most) ∧ wrap64 (Y.tmod most) < most := by
  have e : Y.tmod most = Y % most := Int.tmod_eq_emod_of_nonneg hY
  have a := Int.emod_nonneg Y (show most ≠ 0 by omega)
  have b := Int.emod_lt_of_pos Y (show 0 < most by omega)
  rw [e]
  unfold wrap64
  omega
theorem wrap_pos (X : Int) : 0 ≤ IntKind.u64.wrap X := by rw [IntKind.wrap_u64]; omega
theorem wrap_le (X : Int) : IntKind.u64.wrap X ≤ 18446744073709551615 := by rw [IntKind.wrap_u64]; omega
theorem grown_set (w : World) (g i : Nat) (v : Value) : w.grownBy (w.setCell ⟨g, i, none⟩ v) (some g) :=
  ⟨rfl, rfl, rfl, by simp [World.setCell], fun k _ hk => Below.heap_setCell _ _ _ _ (fun e => hk (by simp [e]))⟩
theorem grown_below {w w' : World} {base g : Nat} (hg : w.grownBy w' (some g)) (hB : base ≤ g) (hgs : g < w.heap.size) : Below base w w' :=
  ⟨hg.os, hg.tape, hg.output, hg.size, fun k hk => hg.block k (by omega) (by simp; omega)⟩
theorem drawn_of {base g len cap at2 : Nat} {most Y mix2 size : Int} {a : Option Addr} {w W : World} (hB : base ≤ g) (hgs : g < w.heap.size) (h1 : 1 < most) (hm : most ≤ 9223372036854775807) (hY : 0 ≤ Y) (hx : 0 ≤ mix2 ∧ mix2 ≤ 18446744073709551615)
    (hat : at2 ≤ len) (hc : CodeAt w base a len) (hW : W.heap[g]? = some (.cells #[.slice a len cap, .int .i64 at2, .int .u64 mix2, .int .i64 size] 125 (0, 0))) (hG : w.grownBy W (some g)) (hz : W.heap.size = w.heap.size) :
    Drawn base g most w (.returned (.int .i64 (wrap64 (Y.tmod most)))) W :=
  ⟨_, rfl, (mod_ok hY h1 hm).1, fun _ => (mod_ok hY h1 hm).2, fun h => by omega, ⟨hB, a, len, cap, at2, mix2, size, hW, hat, hx.1, hx.2, hc.kept (grown_below hG hB hgs)⟩, hG, hz⟩

theorem drawn_drew {base g : Nat} {most : Int} {w W : World} {e : Ending} (h : Drawn base g most w e W) : Drawn base g most w e W.drew := by
  obtain ⟨r, h1, h2, h3, h4, h5, h6, h7⟩ := h
  exact ⟨r, h1, h2, h3, h4, h5, ⟨h6.os, h6.tape, h6.output, h6.size, h6.block⟩, h7⟩

set_option maxHeartbeats 1000000 in
theorem draw_n (base g : Nat) (most : Int) (w : World) (hs : SrcAt w base g) (hm : most ≤ 9223372036854775807) :
    Calls Try.prog 48 #[.pointer (some ⟨g, 0, none⟩), .int .i64 most] w (Drawn base g most w) := by
  by_cases h1 : most ≤ 1
  · have HS : Hid (SrcAt w base g) := hs
    clear hs
    go_enter Try.func48, Try.ntmps48
    go_wp2
    go_ret
    exact ⟨0, rfl, by omega, by omega, fun _ => rfl, HS.out, World.grownBy.refl _ _, rfl⟩
  obtain ⟨hB, a, len, cap, at_, mix, size, hh, hat, hm0, hm1, hc⟩ := hs
  have c0 : w.cell? ⟨g, 0, none⟩ = some (.slice a len cap) := cell_of_heap hh
  have c1 : w.cell? ⟨g, 1, none⟩ = some (.int .i64 at_) := cell_of_heap hh
  have c2 : w.cell? ⟨g, 2, none⟩ = some (.int .u64 mix) := cell_of_heap hh
  have f1 : w.frozen? ⟨g, 1, none⟩ = false := frozen_of_heap hh
  have f2 : w.frozen? ⟨g, 2, none⟩ = false := frozen_of_heap hh
  have HH : Hid (w.heap[g]? = some (.cells #[.slice a len cap, .int .i64 at_, .int .u64 mix, .int .i64 size] 125 (0, 0))) := hh
  have hlen := hc.1
  have HC : Hid (CodeAt w base a len) := hc
  have hss : ∀ W v1 v2, (World.setCell W ⟨g, 2, none⟩ v1).setCell ⟨g, 2, none⟩ v2 = W.setCell ⟨g, 2, none⟩ v2 := fun W v1 v2 => set_twice W _ v1 v2
  clear hh hc
  have hgs : g < w.heap.size := World.block_lt_of_cell? _ _ c0
  by_cases hlt : at_ < len
  · obtain ⟨b, off, rfl, hbb, hbs, hcell⟩ := HC.out.2 (by omega)
    obtain ⟨c, hc0, hc1, hck⟩ := hcell at_ hlt
    clear hcell
    go_enter Try.func48, Try.ntmps48
    go_wp2
    go_region
    go_wp2
    go_region
    go_wp2
    go_region
    go_wp2
    go_region
    go_wp2
    go_region
    go_wp2
    go_ret
    repeat refine drawn_drew ?_
    exact drawn_of (at2 := at_ + 1) (cap := cap) (size := size) hB hgs (by omega) hm (wrap_pos _) (xor64 _ _) hlt HC.out (by rw [heap_set (heap_set HH.out _), Int.natCast_add]; rfl) ((grown_set w g 1 _).trans (grown_set _ g 2 _)) (by simp [World.setCell])
  · go_enter Try.func48, Try.ntmps48
    go_wp2
    go_region
    go_wp2
    go_region
    go_wp2
    go_region
    go_wp2
    go_region
    go_wp2
    go_ret
    repeat refine drawn_drew ?_
    exact drawn_of (cap := cap) (size := size) hB hgs (by omega) hm (wrap_pos _) (xor64 _ _) hat HC.out (by rw [heap_set HH.out]; rfl) (grown_set w g 2 _) (by simp [World.setCell])

/-- 'one': whether a draw is 0. -/
def DrawnB (base g : Nat) (w : World) (e : Ending) (w' : World) : Prop :=
  ∃ b : Bool, e = .returned (.bool b) ∧ SrcAt w' base g ∧ w.grownBy w' (some g) ∧ w'.heap.size = w.heap.size
set_option maxHeartbeats 400000 in
theorem draw_one (base g : Nat) (most : Int) (w : World) (hs : SrcAt w base g) (hm : most ≤ 9223372036854775807) :
    Calls Try.prog 57 #[.pointer (some ⟨g, 0, none⟩), .int .i64 most] w (DrawnB base g w) := by
  have HS : Hid (SrcAt w base g) := hs
  clear hs
  go_enter Try.func57, Try.ntmps57
  go_wp2_with fail
  refine (draw_n base g most _ HS.out hm).mono ?_
  rintro e w1 ⟨r, rfl, h0, h1, h2, hs1, hg1, hz1⟩
  have HD : Hid (SrcAt w1 base g ∧ w.grownBy w1 (some g) ∧ w1.heap.size = w.heap.size) := ⟨hs1, hg1, hz1⟩
  clear h0 h1 h2 hs1 hg1 hz1
  go_wp2
  go_ret
  exact ⟨_, rfl, HD.out.1, HD.out.2.1, HD.out.2.2⟩

theorem nil_string {P : Program} {src dst e : TypeId} (hs : P.underlying src = some (.slice e)) (he : P.underlying e = some (.int .u8)) (hd : P.underlying dst = some .string) (w : World) :
    (convert src dst (.slice none 0 0)).run P w = .ok (.string ⟨#[]⟩) w := by
  rw [run_convert_bytes_string w src dst e none 0 0 hs he hd]
  simp [Conv.bytesToString]
  rfl
/-- 'bytes': a text of so many bytes. -/
def DrawnT (base g : Nat) (n : Nat) (w : World) (e : Ending) (w' : World) : Prop :=
  ∃ l : List UInt8, e = .returned (.string ⟨l.toArray⟩) ∧ l.length = n ∧ SrcAt w' base g ∧ Below base w w'
theorem u8_same (r : Int) (h0 : 0 ≤ r) (h1 : r < 256) : r = (r.toNat.toUInt8.toNat : Int) := by
  have : r.toNat.toUInt8.toNat = r.toNat % 256 := rfl
  omega
set_option maxHeartbeats 1000000 in
theorem draw_bytes (base g : Nat) (n : Nat) (w : World) (hs : SrcAt w base g) (hn : n ≤ 1000) :
    Calls Try.prog 125 #[.pointer (some ⟨g, 0, none⟩), .int .i64 n] w (DrawnT base g n w) := by
  obtain ⟨i0, hi, hz0, hz1, hz2⟩ := info_parts Try.info5
  have HS : Hid (SrcAt w base g) := hs
  have hgl := hs.lt
  have hB := hs.1
  clear hs
  go_enter Try.func125, Try.ntmps125
  go_wp2
  go_loopw [5, 6] (fun v i wr => ∃ (k : Nat) (acc : List UInt8), k ≤ n ∧ i = .int .i64 k ∧ acc.length = k ∧ Hid (wr.ownsRow w.heap.size 5 1 v acc.length (bv acc) ∧ SrcAt wr base g ∧ Below base w wr) ∧ w.heap.size ≤ wr.heap.size) (fun _ i _ => n - (intOf i).toNat)
  case atStart =>
    refine ⟨0, [], Nat.zero_le _, rfl, rfl, ⟨?_, HS.out.kept ((Below.refl _ _).alloc (by omega) _) (Below.heap_alloc _ _ _ hgl), (Below.refl _ _).alloc (by omega) _⟩, by simp⟩
    exact ⟨rfl, .inr ⟨w.heap.size, 0, #[], rfl, Nat.le_refl _, (MapKept.heap_alloc w _).1, Nat.le_refl _, by decide, rfl, rfl⟩⟩
  case round =>
    obtain ⟨k, acc, hk, rfl, hak, HR, hsz⟩ := hrel
    have HK : Hid (acc.length = k) := hak
    have hal : acc.length ≤ 1000 := by omega
    clear hak
    by_cases hlt : k < n
    · go_wp2_with fail
      refine (draw_n base g 256 _ HR.out.2.1 (by omega)).mono ?_
      rintro e w1 ⟨r, rfl, h0, h1, h2, hs1, hg1, hz1⟩
      have hr : r < 256 := h1 (by omega)
      have hown : w1.ownsRow w.heap.size 5 1 u5 acc.length (bv acc) := HR.out.1.kept hg1 (.inr fun h => by have := (HR.out.1.lt g h).1; omega)
      have HD : Hid (SrcAt w1 base g ∧ Below base w w1) := ⟨hs1, HR.out.2.2.trans (grown_below hg1 hB (HR.out.2.1.lt))⟩
      have hsz1 : w.heap.size ≤ w1.heap.size := by omega
      clear h1 h2 hs1 hg1 hz1
      go_wp2_with (at_builtin; refine wpList_append_own _ rfl (.tmp 13) (.tmp 17) 22 rfl w.heap.size 5 i0 (.int .u8 0) 1 1 Try.underlying22 hi hz0 hz1 hz2 rfl (by decide) _ _ _ rfl (hown.alloc _) ⟨w1.heap.size, 0, none⟩ 1 1 [.int .u8 r] rfl rfl (cell_one_new _ _ _) (by intro u hu; simp at hu; subst hu; rfl) (by unfold maxLen; omega) (by omega) (by simp; omega) ?_; intro v1 w2 hown1 hgrow1 hnil1)
      go_roundw
      case rel =>
        have hne : ∀ q, u5.ownBlock = some q → w.heap.size ≤ q := fun q hq => (hown.lt q hq).1
        have hgb : ∀ q, q < w.heap.size → w2.heap[q]? = w1.heap[q]? := fun q hq => by
          rw [hgrow1.block q (by simp; omega) (fun h => by have := hne q h.symm; omega), Below.heap_alloc _ _ _ (by omega)]
        have hbb : Below base w1 w2 := ((Below.refl _ _).alloc (by omega) _).grown hgrow1 (by simp; omega) (fun q hq => by have := hne q hq; omega)
        refine ⟨k + 1, acc ++ [r.toNat.toUInt8], by omega, by go_num, by simp [HK.out], ⟨?_, HD.out.1.kept hbb (hgb g hgl), HD.out.2.trans hbb⟩, Nat.le_trans hsz1 hbb.size⟩
        rw [bv_snoc, ← u8_same r h0 hr]
        simpa using hown1
      case measure => simp [intOf]; omega
    · have hke : k = n := by omega
      have HE : Hid (acc.length = n) := by unfold Hid; rw [← hke]; exact HK.out
      clear hke
      rcases HR.out.1.2 with ⟨rfl, hl0⟩ | ⟨q, cap, cur, rfl, _⟩
      · have hcv := nil_string (P := Try.prog) Try.underlying22 Try.underlying5 Try.underlying9
        have HL : Hid (acc = []) := List.eq_nil_of_length_eq_zero hl0
        clear hl0
        go_wp2
        go_ret
        exact ⟨acc, by rw [HL.out]; rfl, HE.out, HR.out.2.1, HR.out.2.2⟩
      · have hcv := own_string (P := Try.prog) (n := acc.length) acc Try.underlying22 Try.underlying5 Try.underlying9 rfl HR.out.1
        go_wp2
        go_ret
        exact ⟨acc, rfl, HE.out, HR.out.2.1, HR.out.2.2⟩

/-- A new source over bytes that came in. -/
def Made (base : Nat) (w : World) (e : Ending) (w' : World) : Prop :=
  ∃ g, e = .returned (.pointer (some ⟨g, 0, none⟩)) ∧ SrcAt w' base g ∧ Below base w w'
set_option maxHeartbeats 1000000 in
theorem draw_source (base : Nat) (a : Option Addr) (len cap : Nat) (w : World) (hb : base ≤ w.heap.size) (hc : CodeAt w base a len) :
    Calls Try.prog 42 #[.slice a len cap] w (Made base w) := by
  have hlen := hc.1
  have HC : Hid (CodeAt w base a len) := hc
  clear hc
  go_enter Try.func42, Try.ntmps42
  go_wp2
  go_loopw [4] (fun i wr => ∃ (k : Nat) (mix : Int), k ≤ len ∧ k ≤ 64 ∧ i = .int .i64 k ∧ 0 ≤ mix ∧ mix ≤ 18446744073709551615 ∧ Hid (wr.heap[w.heap.size]? = some (.cells #[.slice a len cap, .int .i64 0, .int .u64 mix, .int .i64 0] 125 (0, 0))) ∧ Below base w wr) (fun i _ => 64 - (intOf i).toNat)
  case atStart => exact ⟨0, _, by omega, by omega, rfl, by omega, by omega, (MapKept.heap_alloc w _).1, (Below.refl _ _).alloc hb _⟩
  case round =>
    obtain ⟨k, mix, hk, hk64, rfl, hm0, hm1, HH, hbw⟩ := hrel
    have c2 : wr.cell? ⟨w.heap.size, 2, none⟩ = some (.int .u64 mix) := cell_of_heap HH.out
    have c3 : wr.cell? ⟨w.heap.size, 3, none⟩ = some (.int .i64 0) := cell_of_heap HH.out
    have f2 : wr.frozen? ⟨w.heap.size, 2, none⟩ = false := frozen_of_heap HH.out
    have f3 : wr.frozen? ⟨w.heap.size, 3, none⟩ = false := frozen_of_heap HH.out
    have HC2 : Hid (CodeAt wr base a len) := HC.out.kept hbw
    by_cases hlt : k < len ∧ k < 64
    · obtain ⟨b, off, rfl, hbb, hbs, hcell⟩ := HC2.out.2 (by omega)
      obtain ⟨c, hc0, hc1, hck⟩ := hcell k hlt.1
      have b1 : decide ((k : Int) < (len : Int)) = true := by simp; omega
      have b2 : decide ((k : Int) < 64) = true := by simp; omega
      obtain ⟨hl1, hl2⟩ := hlt
      clear hcell
      go_wp2
      go_region
      go_wp2
      go_roundw
      case rel => exact ⟨k + 1, _, by omega, by omega, by go_num, wrap_pos _, wrap_le _, (by show (wr.setCell ⟨w.heap.size, 2, none⟩ _).heap[w.heap.size]? = _; rw [heap_set HH.out]; rfl), (hbw.setCell hb _).drew⟩
      case measure => simp [intOf]; omega
    · have hss : ∀ W v1 v2, (World.setCell W ⟨w.heap.size, 3, none⟩ v1).setCell ⟨w.heap.size, 3, none⟩ v2 = W.setCell ⟨w.heap.size, 3, none⟩ v2 := fun W v1 v2 => set_twice W _ v1 v2
      have fin : ∀ v : Int, Made base w (.returned (.pointer (some ⟨w.heap.size, 0, none⟩))) (wr.setCell ⟨w.heap.size, 3, none⟩ (.int .i64 v)) := fun v =>
        ⟨_, rfl, ⟨hb, a, len, cap, 0, mix, v, by rw [heap_set HH.out]; rfl, Nat.zero_le _, hm0, hm1, HC2.out.kept ((Below.refl _ _).setCell hb _)⟩, hbw.setCell hb _⟩
      have HF : Hid (∀ v : Int, Made base w (.returned (.pointer (some ⟨w.heap.size, 0, none⟩))) (wr.setCell ⟨w.heap.size, 3, none⟩ (.int .i64 v))) := fin
      clear fin
      by_cases hl : k < len
      · have b1 : decide ((k : Int) < (len : Int)) = true := by simp; omega
        have b2 : decide ((k : Int) < 64) = false := by simp; omega
        by_cases h12 : 12 < (len : Int) / 20
        · go_wp2
          go_ret
          exact HF.out _
        · go_wp2
          go_ret
          exact HF.out _
      · have b1 : decide ((k : Int) < (len : Int)) = false := by simp; omega
        by_cases h12 : 12 < (len : Int) / 20
        · omega
        · go_wp2
          go_ret
          exact HF.out _

/-- 'edge': some number of int64. -/
def DrawnI (base g : Nat) (w : World) (e : Ending) (w' : World) : Prop :=
  ∃ r : Int, e = .returned (.int .i64 r) ∧ -9223372036854775808 ≤ r ∧ r ≤ 9223372036854775807 ∧ SrcAt w' base g ∧ Below base w w'
set_option maxHeartbeats 1000000 in
theorem draw_edge (base g : Nat) (w : World) (hs : SrcAt w base g) :
    Calls Try.prog 96 #[.pointer (some ⟨g, 0, none⟩)] w (DrawnI base g w) := by
  have hgl := hs.lt
  have hB := hs.1
  have HS : Hid (∀ o, SrcAt (w.alloc o) base g) := fun o => hs.kept ((Below.refl _ _).alloc (by omega) _) (Below.heap_alloc _ _ _ hgl)
  clear hs
  go_enter Try.func96, Try.ntmps96
  go_wp2_with fail
  refine (draw_n base g 14 _ (HS.out _) (by omega)).mono ?_
  rintro e w1 ⟨r, rfl, h0, h1, h2, hs1, hg1, hz1⟩
  have hr : r < 14 := h1 (by omega)
  have hne : some w.heap.size ≠ some g := by simp; omega
  have hck : ∀ i, w1.cell? ⟨w.heap.size, i, none⟩ = (w.alloc (.cells _ _)).cell? ⟨w.heap.size, i, none⟩ := fun i => World.cell?_of_block (hg1.block w.heap.size (by simp) hne)
  have HD : Hid (SrcAt w1 base g ∧ Below base w w1) := ⟨hs1, ((Below.refl _ _).alloc (by omega) _).trans (grown_below hg1 hB (by simp; omega))⟩
  clear h1 h2 hs1 hg1 hz1
  obtain ⟨n, rfl⟩ := Int.eq_ofNat_of_zero_le h0
  rcases (show n = 0 ∨ n = 1 ∨ n = 2 ∨ n = 3 ∨ n = 4 ∨ n = 5 ∨ n = 6 ∨ n = 7 ∨ n = 8 ∨ n = 9 ∨ n = 10 ∨ n = 11 ∨ n = 12 ∨ n = 13 by omega) with rfl | rfl | rfl | rfl | rfl | rfl | rfl | rfl | rfl | rfl | rfl | rfl | rfl | rfl
  all_goals
    go_wp2
    go_ret
    exact ⟨_, rfl, by omega, by omega, HD.out.1, HD.out.2⟩
end Go.Proofs.Ytjdkenopfnepaaa
