/- The draws of events: what kind of thing they hand back, and that they touch their source alone. -/
import Derived.Test.YtjdkenopfnepaaaSrc
import Derived.Test.YtjdkenopfnepaaaEv
import Derived.WalkSmall
namespace Go.Proofs.Ytjdkenopfnepaaa
open Go.RowKit

theorem SrcAt.set {w : World} {base g : Nat} (h : SrcAt w base g) {p : Addr} (hp : base ≤ p.block) (hne : g ≠ p.block) (u : Value) : SrcAt (w.setCell p u) base g := h.kept ((Below.refl _ _).setCell hp u) (Below.heap_setCell _ _ _ _ hne)
theorem SrcAt.alloc {w : World} {base g : Nat} (h : SrcAt w base g) (o : Obj) : SrcAt (w.alloc o) base g := h.kept ((Below.refl _ _).alloc (Nat.le_trans h.1 (Nat.le_of_lt h.lt)) o) (Below.heap_alloc _ _ _ h.lt)
theorem grown_cells {w w1 : World} {g : Nat} (h : w.grownBy w1 (some g)) : (∀ b o, b < w.heap.size → b ≠ g → w1.cell? ⟨b, o, none⟩ = w.cell? ⟨b, o, none⟩) ∧ (∀ b o, b < w.heap.size → b ≠ g → w1.frozen? ⟨b, o, none⟩ = w.frozen? ⟨b, o, none⟩) :=
  ⟨fun b _ hb hn => World.cell?_of_block (h.block b hb (by simpa using hn)), fun b _ hb hn => World.frozen?_of_block (h.block b hb (by simpa using hn))⟩


set_option maxHeartbeats 400000 in
theorem draw_pick (base g b : Nat) (t0 t1 t2 t3 : ByteArray) (w : World) (hs : SrcAt w base g) (hb : b < w.heap.size) (hbg : b ≠ g)
    (c0 : w.cell? ⟨b, 0, none⟩ = some (.string t0)) (c1 : w.cell? ⟨b, 1, none⟩ = some (.string t1)) (c2 : w.cell? ⟨b, 2, none⟩ = some (.string t2)) (c3 : w.cell? ⟨b, 3, none⟩ = some (.string t3)) :
    Calls Try.prog 126 #[.pointer (some ⟨g, 0, none⟩), .slice (some ⟨b, 0, none⟩) 4 4] w fun e w' => ∃ t : ByteArray, e = .returned (.string t) ∧ (t = t0 ∨ t = t1 ∨ t = t2 ∨ t = t3) ∧ SrcAt w' base g ∧ w.grownBy w' (some g) ∧ w'.heap.size = w.heap.size := by
  have HS : Hid (SrcAt w base g) := hs
  clear hs
  go_enter Try.func126, Try.ntmps126
  go_wp2_with fail
  refine (draw_n base g 4 _ HS.out (by omega)).mono ?_
  rintro e w1 ⟨r, rfl, h0, h1, h2, hs1, hg1, hz1⟩
  have hr : r < 4 := h1 (by omega)
  have HD : Hid (SrcAt w1 base g ∧ w.grownBy w1 (some g) ∧ w1.heap.size = w.heap.size) := ⟨hs1, hg1, hz1⟩
  obtain ⟨hc1, hf1⟩ := grown_cells hg1
  clear h1 h2 hs1 hg1 hz1
  obtain ⟨n, rfl⟩ := Int.eq_ofNat_of_zero_le h0
  rcases (show n = 0 ∨ n = 1 ∨ n = 2 ∨ n = 3 by omega) with rfl | rfl | rfl | rfl
  all_goals
    go_wp2
    go_ret
    exact ⟨_, rfl, by simp, HD.out⟩

theorem grown_far {w W w1 : World} {g : Nat} (h : w.grownBy W (some g)) (hg : W.grownBy w1 none) : w.grownBy w1 (some g) :=
  h.trans ⟨hg.os, hg.tape, hg.output, hg.size, fun k hk _ => hg.block k hk (by simp)⟩
/-- 'bytes', and what it leaves alone. -/
def DrawnT2 (base g : Nat) (n : Nat) (w : World) (e : Ending) (w' : World) : Prop :=
  ∃ l : List UInt8, e = .returned (.string ⟨l.toArray⟩) ∧ l.length = n ∧ SrcAt w' base g ∧ w.grownBy w' (some g)
set_option maxHeartbeats 1000000 in
theorem draw_bytes2 (base g : Nat) (n : Nat) (w : World) (hs : SrcAt w base g) (hn : n ≤ 1000) :
    Calls Try.prog 125 #[.pointer (some ⟨g, 0, none⟩), .int .i64 n] w (DrawnT2 base g n w) := by
  obtain ⟨i0, hi, hz0, hz1, hz2⟩ := info_parts Try.info5
  have HS : Hid (SrcAt w base g) := hs
  have hgl := hs.lt
  have hB := hs.1
  clear hs
  go_enter Try.func125, Try.ntmps125
  go_wp2
  go_loopw [5, 6] (fun v i wr => ∃ (k : Nat) (acc : List UInt8), k ≤ n ∧ i = .int .i64 k ∧ acc.length = k ∧ Hid (wr.ownsRow w.heap.size 5 1 v acc.length (bv acc) ∧ SrcAt wr base g ∧ w.grownBy wr (some g)) ∧ w.heap.size ≤ wr.heap.size) (fun _ i _ => n - (intOf i).toNat)
  case atStart =>
    refine ⟨0, [], Nat.zero_le _, rfl, rfl, ⟨?_, HS.out.alloc _, World.grownBy_alloc _ _ _⟩, by simp⟩
    exact ⟨rfl, .inr ⟨w.heap.size, 0, #[], rfl, Nat.le_refl _, (MapKept.heap_alloc w _).1, Nat.le_refl _, by decide, rfl, rfl⟩⟩
  case round =>
    obtain ⟨k, acc, hk, rfl, hak, HR, hsz⟩ := hrel
    have HK : Hid (acc.length = k) := hak
    have hal : acc.length ≤ 1000 := by omega
    clear hak
    by_cases hlt : k < n
    · go_wp2_with fail
      refine (draw_n base g 256 _ HR.out.2.1 (by omega)).mono ?_
      rintro e w1 ⟨r, rfl, h0, h1, h2, hs1, hg1, hz1⟩
      have hr : r < 256 := h1 (by omega)
      have hown : w1.ownsRow w.heap.size 5 1 u5 acc.length (bv acc) := HR.out.1.kept hg1 (.inr fun h => by have := (HR.out.1.lt g h).1; omega)
      have HD : Hid (SrcAt w1 base g ∧ w.grownBy w1 (some g)) := ⟨hs1, HR.out.2.2.trans hg1⟩
      have hsz1 : w.heap.size ≤ w1.heap.size := by omega
      clear h1 h2 hs1 hg1 hz1
      go_wp2_with (at_builtin; refine wpList_append_own _ rfl (.tmp 13) (.tmp 17) 22 rfl w.heap.size 5 i0 (.int .u8 0) 1 1 Try.underlying22 hi hz0 hz1 hz2 rfl (by decide) _ _ _ rfl (hown.alloc _) ⟨w1.heap.size, 0, none⟩ 1 1 [.int .u8 r] rfl rfl (cell_one_new _ _ _) (by intro u hu; simp at hu; subst hu; rfl) (by unfold maxLen; omega) (by omega) (by simp; omega) ?_; intro v1 w2 hown1 hgrow1 hnil1)
      go_roundw
      case rel =>
        have hne : ∀ q, u5.ownBlock = some q → w.heap.size ≤ q := fun q hq => (hown.lt q hq).1
        have hG : w.grownBy w2 (some g) := ⟨hgrow1.os.trans HD.out.2.os, hgrow1.tape.trans HD.out.2.tape, hgrow1.output.trans HD.out.2.output, Nat.le_trans hsz1 (by have := hgrow1.size; simp at this; omega), fun q hq hq2 => (hgrow1.block q (by simp; omega) (fun h => by have := hne q h.symm; omega)).trans ((Below.heap_alloc _ _ _ (by omega)).trans (HD.out.2.block q hq hq2))⟩
        have hgb : w2.heap[g]? = w1.heap[g]? := (hgrow1.block g (by simp; omega) (fun h => by have := hne g h.symm; omega)).trans (Below.heap_alloc _ _ _ (by omega))
        have hbb : Below base w1 w2 := ((Below.refl _ _).alloc (by omega) _).grown hgrow1 (by simp; omega) (fun q hq => by have := hne q hq; omega)
        refine ⟨k + 1, acc ++ [r.toNat.toUInt8], by omega, by go_num, by simp [HK.out], ⟨?_, HD.out.1.kept hbb hgb, hG⟩, Nat.le_trans hsz1 hbb.size⟩
        rw [bv_snoc, ← u8_same r h0 hr]
        simpa using hown1
      case measure => simp [intOf]; omega
    · have hke : k = n := by omega
      have HE : Hid (acc.length = n) := by unfold Hid; rw [← hke]; exact HK.out
      clear hke
      rcases HR.out.1.2 with ⟨rfl, hl0⟩ | ⟨q, cap, cur, rfl, _⟩
      · have hcv := nil_string (P := Try.prog) Try.underlying22 Try.underlying5 Try.underlying9
        have HL : Hid (acc = []) := List.eq_nil_of_length_eq_zero hl0
        clear hl0
        go_wp2
        go_ret
        exact ⟨acc, by rw [HL.out]; rfl, HE.out, HR.out.2.1, HR.out.2.2⟩
      · have hcv := own_string (P := Try.prog) (n := acc.length) acc Try.underlying22 Try.underlying5 Try.underlying9 rfl HR.out.1
        go_wp2
        go_ret
        exact ⟨acc, rfl, HE.out, HR.out.2.1, HR.out.2.2⟩
end Go.Proofs.Ytjdkenopfnepaaa
