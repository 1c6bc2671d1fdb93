/- The draw of a state. -/
import Derived.Test.YtjdkenopfnepaaaFsEnt
namespace Go.Proofs.Ytjdkenopfnepaaa
open Go.RowKit

theorem grown_on {w W W' : World} {g n : Nat} (h : w.grownBy W (some g)) (hb : Below n W W') (hn : w.heap.size ≤ n) : w.grownBy W' (some g) :=
  ⟨hb.os.trans h.os, hb.tape.trans h.tape, hb.output.trans h.output, Nat.le_trans h.size hb.size, fun k hk hk2 => (hb.block k (by omega)).trans (h.block k hk hk2)⟩
theorem SrcAt.on {w w' : World} {base g n : Nat} (h : SrcAt w base g) (hb : Below n w w') (hn : base ≤ n) (hg : g < n) : SrcAt w' base g := h.kept (hb.mono hn) (hb.block g hg)
theorem EnsOwn.keptBut {w w' : World} {base g : Nat} {v : Value} {xs : List En} (h : EnsOwn w base v xs) (hg : w.grownBy w' (some g)) (hl : g < base) : EnsOwn w' base v xs := by
  refine ⟨h.1, ?_⟩
  rcases h.2 with h0 | ⟨q, cap, cur, h1, h2, h3, r⟩
  · exact .inl h0
  · exact .inr ⟨q, cap, cur, h1, h2, (hg.block q (Array.getElem?_eq_some_iff.1 h3).1 (by simp; omega)).trans h3, r⟩
/-- A state that is drawn. -/
def StPost (base g : Nat) (w : World) (e : Ending) (w' : World) : Prop :=
  ∃ v xs, e = .returned v ∧ EnsOwn w' w.heap.size v xs ∧ xs.length ≤ 8 ∧ (∀ x ∈ xs, EnD x) ∧ SrcAt w' base g ∧ w.grownBy w' (some g)
/-- While a state is drawn. -/
structure SD (w : World) (base g n : Nat) (v : Value) (xs : List En) (W : World) : Prop where
  own : EnsOwn W w.heap.size v xs
  small : ∀ x ∈ xs, EnD x
  src : SrcAt W base g
  grown : w.grownBy W (some g)
  lt : g < w.heap.size
  len : xs.length ≤ n
theorem SD.size {w : World} {base g n : Nat} {v : Value} {xs : List En} {W : World} (h : SD w base g n v xs W) : w.heap.size ≤ W.heap.size := h.grown.size
theorem SD.num {w : World} {base g n : Nat} {v : Value} {xs : List En} {W w1 : World} (h : SD w base g n v xs W) (hs : SrcAt w1 base g) (hg : W.grownBy w1 (some g)) : SD w base g n v xs w1 := ⟨h.own.keptBut hg h.lt, h.small, hs, h.grown.trans hg, h.lt, h.len⟩
theorem SD.on {w : World} {base g n : Nat} {v : Value} {xs : List En} {W w1 : World} (h : SD w base g n v xs W) (hb : Below W.heap.size W w1) : SD w base g n v xs w1 := by
  have hz := h.size
  have hl := h.lt
  have hB := h.src.1
  exact ⟨h.own.kept hb, h.small, h.src.on hb (by omega) (by omega), grown_on h.grown hb hz, h.lt, h.len⟩
theorem SD.start {w W : World} {base g : Nat} (hs : SrcAt W base g) (hg : (w.alloc (.cells #[] 40)).grownBy W (some g)) (hl : g < w.heap.size) : SD w base g 0 (.slice (some ⟨w.heap.size, 0, none⟩) 0 0) [] W :=
  ⟨(EnsOwn.made w (Nat.le_refl _)).keptBut hg hl, fun _ h => absurd h (by simp), hs, (World.grownBy_alloc w _ _).trans hg, hl, by simp⟩
theorem SD.more {w : World} {base g n m : Nat} {v : Value} {xs : List En} {W : World} (h : SD w base g n v xs W) (hm : n ≤ m) : SD w base g m v xs W := ⟨h.own, h.small, h.src, h.grown, h.lt, Nat.le_trans h.len hm⟩
theorem mem_putE {xs : List En} {x e : En} (h : e ∈ putE xs x) : e = x ∨ e ∈ xs := by
  rcases mem_insS.1 h with h | h
  · exact .inl h
  · exact .inr (mem_woS.1 h).1
/-- What is put to it, or not. -/
theorem SD.put {w : World} {base g n : Nat} {v v' : Value} {xs : List En} {x : En} {W w1 : World} (h : SD w base g n v xs W) (hx : EnD x) (hb : Below W.heap.size W w1) (ho : EnsOwn w1 W.heap.size v' (putE xs x)) : SD w base g (n + 1) v' (putE xs x) w1 := by
  have h2 := h.on hb
  refine ⟨owns_baseC ho h.size, fun e he => ?_, h2.src, h2.grown, h2.lt, Nat.le_trans (putE_length xs x) (Nat.succ_le_succ h.len)⟩
  rcases mem_putE he with rfl | he
  · exact hx
  · exact h.small e he
theorem SD.add {w : World} {base g n : Nat} {v v' : Value} {xs : List En} {x : En} {W w1 : World} (h : SD w base g n v xs W) (hx : EnD x) (hb : Below w.heap.size W w1) (ho : EnsOwn w1 w.heap.size v' (xs ++ [x])) : SD w base g (n + 1) v' (xs ++ [x]) w1 := by
  have hB := h.src.1
  have hl := h.lt
  refine ⟨ho, fun e he => ?_, h.src.on hb (by omega) hl, grown_on h.grown hb (Nat.le_refl _), h.lt, by have := h.len; simp; omega⟩
  rcases List.mem_append.1 he with he | he
  · exact h.small e he
  · obtain rfl : e = x := by simpa using he
    exact hx
theorem sp_len (xs : List En) (x : En) : (spL xs x).length ≤ xs.length + 1 := by
  unfold spL
  split
  · simp
  · split
    · exact putE_length xs x
    · simp
set_option maxHeartbeats 4000000 in
set_option maxRecDepth 100000 in
theorem draw_state (base g : Nat) (w : World) (hs : SrcAt w base g) :
    Calls Try.prog 73 #[.pointer (some ⟨g, 0, none⟩)] w (StPost base g w) := by
  obtain ⟨i0, hi, hz0, hz1, hz2⟩ := info_parts Try.infoEn
  have hgl := hs.lt
  have HS : Hid (∀ o, SrcAt (w.alloc o) base g) := fun o => hs.alloc o
  clear hs
  go_enter Try.func73, Try.ntmps73
  go_wp2_with fail
  refine (draw_n base g 8 _ (HS.out _) (by omega)).mono ?_
  rintro e w1 ⟨r, rfl, p0, p1, -, hs1, hg1, hz1⟩
  have q1 : r < 8 := p1 (by omega)
  have HD1 : Hid (SD w base g 0 (.slice (some ⟨w.heap.size, 0, none⟩) 0 0) [] w1) := SD.start hs1 hg1 hgl
  clear hs1 hg1 hz1 p1 HS
  obtain ⟨n0, rfl⟩ := Int.eq_ofNat_of_zero_le p0
  go_wp2
  go_loopw [3, 4, 5] (fun v k y wr => ∃ (q : Nat) (xs : List En), q ≤ 7 ∧ k = .int .i64 q ∧ Hid (SD w base g (7 - q) v xs wr)) (fun _ k _ _ => (intOf k).toNat)
  case atStart => exact ⟨n0, [], by omega, rfl, HD1.out.more (Nat.zero_le _)⟩
  case round =>
    clear HD1
    obtain ⟨q, xs, hq, rfl, HD⟩ := hrel
    by_cases hlt : 0 < q
    · have hpos : decide ((0 : Int) < (q : Int)) = true := decide_eq_true (by omega)
      have hl8 : xs.length ≤ 7 := Nat.le_trans HD.out.len (by omega)
      obtain ⟨a, c, rfl, -, -, -⟩ := HD.out.own.at (by omega)
      go_wp2_with fail
      refine (draw_entry base g _ HD.out.src).mono ?_
      rintro e w2 ⟨x, rfl, hx, hs2, hg2⟩
      have HX : Hid (EnD x) := hx
      have HD2 : Hid (SD w base g (7 - q) (.slice a xs.length c) xs w2) := HD.out.num hs2 hg2
      clear hs2 hg2 hx
      have hE : EnsAt w2 a xs := by
        obtain ⟨a', c', e, _, h1, _⟩ := HD2.out.own.at (by omega)
        cases e
        exact h1
      have HE : Hid (EnsAt w2 a xs) := hE
      clear hE
      go_wp2_with fail
      refine (statePut_spec xs x a c w2 HE.out).mono ?_
      rintro e w3 ⟨v3, rfl, ho3, hb3⟩
      have hsl := sp_len xs x
      obtain ⟨a3, c3, rfl, -, -, -⟩ := ho3.at (by omega)
      have HO : Hid (EnsOwn w3 w2.heap.size (.slice a3 (spL xs x).length c3) (spL xs x) ∧ Below w2.heap.size w2 w3) := ⟨ho3, hb3⟩
      clear ho3 hb3
      by_cases hr : rowE false xs = true ∧ entB false x = true
      · obtain ⟨h1, h2⟩ := sp_ok (xs := xs) (x := x) (by omega) hr.1 hr.2
        rw [h1]
        have HD3 : Hid (∀ o, SD w base g (7 - (q - 1)) (.slice a3 (spL xs x).length c3) (putE xs x) (w3.alloc o)) := fun o => ((HD2.out.put HX.out HO.out.2 (by rw [← h2]; exact HO.out.1)).on ((Below.refl _ _).alloc (Nat.le_refl _) _)).more (by omega)
        clear h1 h2 hr
        go_wp2
        go_roundw
        case rel => exact ⟨q - 1, putE xs x, by omega, by go_num, HD3.out _⟩
        case measure => simp [intOf]; omega
      · obtain ⟨h1, h2⟩ := sp_bad (xs := xs) (x := x) (by omega) hr
        rw [h1]
        have HD3 : Hid (∀ o, SD w base g (7 - (q - 1)) (.slice a xs.length c) xs (w3.alloc o)) := fun o => ((HD2.out.on HO.out.2).on ((Below.refl _ _).alloc (Nat.le_refl _) _)).more (by omega)
        clear h1 h2 hr
        go_wp2
        go_roundw
        case rel => exact ⟨q - 1, xs, by omega, by go_num, HD3.out _⟩
        case measure => simp [intOf]; omega
    · obtain rfl : q = 0 := by omega
      have hpos : decide ((0 : Int) < ((0 : Nat) : Int)) = false := decide_eq_false (by omega)
      have hl8 : xs.length ≤ 7 := HD.out.len
      go_wp2_with fail
      refine (draw_one base g 15 _ HD.out.src (by omega)).mono ?_
      rintro e w2 ⟨b2, rfl, hs2, hg2, -⟩
      have HD2 : Hid (SD w base g 7 u3 xs w2) := HD.out.num hs2 hg2
      clear hs2 hg2
      cases b2
      · go_wp2
        go_ret
        exact ⟨_, xs, rfl, HD2.out.own, by omega, HD2.out.small, HD2.out.src, HD2.out.grown⟩
      · go_wp2_with fail
        refine (draw_entry base g _ HD2.out.src).mono ?_
        rintro e w3 ⟨x, rfl, hx, hs3, hg3⟩
        have HD3 : Hid (SD w base g 7 u3 xs w3 ∧ EnD x ∧ ∀ o, SD w base g 7 u3 xs (w3.alloc o)) := ⟨HD2.out.num hs3 hg3, hx, fun o => (HD2.out.num hs3 hg3).on ((Below.refl _ _).alloc (Nat.le_refl _) _)⟩
        have hz3 : w.heap.size ≤ w3.heap.size := HD3.out.1.size
        clear hs3 hg3 hx
        go_wp2_with (at_builtin; refine wpList_append_ens rfl _ _ 38 rfl i0 _ Try.underlying38 hi hz0 hz1 hz2 rfl w.heap.size _ xs rfl (HD3.out.2.2 _).own _ _ [x] (ensAt_one (MapKept.heap_alloc _ _).1) rfl (by simp; omega) (by simp; omega) ?_; intro v4 w4 hO4 hb4 _; have HD4 : Hid (SD w base g 8 v4 (xs ++ [x]) w4) := (HD3.out.2.2 _).add HD3.out.2.1 hb4 hO4; clear hO4 hb4)
        go_ret
        exact ⟨_, _, rfl, HD4.out.own, HD4.out.len, HD4.out.small, HD4.out.src, HD4.out.grown⟩
end Go.Proofs.Ytjdkenopfnepaaa
