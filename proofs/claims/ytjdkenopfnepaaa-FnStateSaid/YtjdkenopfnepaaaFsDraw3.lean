/- What is drawn for the law on states: two rows, one out of the other. -/
import Derived.Test.YtjdkenopfnepaaaFsDraw2
namespace Go.Proofs.Ytjdkenopfnepaaa
open Go.RowKit

theorem FR.top {W : World} {a : Option Addr} {xs : List En} {t u g : Nat} (h : FR a xs t g W) (hu : t ≤ u) : FR a xs u g W := ⟨h.row, fun hp => by
  obtain ⟨q, off, h1, h2, h3⟩ := h.blk hp
  exact ⟨q, off, h1, Nat.lt_of_lt_of_le h2 hu, h3⟩⟩
set_option maxHeartbeats 8000000 in
set_option maxRecDepth 100000 in
theorem draw_stateDiff (a : Option Addr) (len cap : Nat) (w : World) (hc : CodeAt w w.heap.size a len) :
    Calls Try.prog 23 #[.slice a len cap] w (DRows w) := by
  obtain ⟨i0, hi, hz0, hz1, hz2⟩ := info_parts Try.infoEn
  have HC : Hid (CodeAt w w.heap.size a len) := hc
  clear hc
  go_enter Try.func23, Try.ntmps23
  go_wp2_with fail
  refine (draw_source w.heap.size a len cap _ (Nat.le_refl _) HC.out).mono ?_
  rintro e w1 ⟨g, rfl, hs1, hb1⟩
  have H1 : Hid (SrcAt w1 w.heap.size g ∧ Below w.heap.size w w1) := ⟨hs1, hb1⟩
  clear hs1 hb1
  go_wp2_with fail
  refine (draw_state w.heap.size g _ H1.out.1).mono ?_
  rintro e w2 ⟨v, xs, rfl, ho, hl, hsm, hs2, hg2⟩
  obtain ⟨b, c, rfl, -, -, -⟩ := ho.at (by omega)
  have hsd : SD w1 w.heap.size g 8 (.slice b xs.length c) xs w2 := ⟨ho, hsm, hs2, hg2, H1.out.1.lt, hl⟩
  have H2 : Hid (SrcAt w2 w.heap.size g ∧ Below w.heap.size w w2 ∧ FR b xs w2.heap.size g w2) := ⟨hs2, H1.out.2.trans hsd.below, FR.of hsd (by omega)⟩
  clear ho hsm hs2 hg2 hsd
  go_wp2_with fail
  refine (draw_one w.heap.size g 2 _ H2.out.1 (by omega)).mono ?_
  rintro e w3 ⟨b3, rfl, hs3, hg3, -⟩
  have H3 : Hid (SrcAt w3 w.heap.size g ∧ Below w.heap.size w w3 ∧ FR b xs w3.heap.size g w3) := ⟨hs3, H2.out.2.1.trans (grown_below2 hg3 H2.out.1.1 H2.out.2.1.size), (H2.out.2.2.num hg3).top hg3.size⟩
  clear hs3 hg3
  have hzw : w.heap.size ≤ w3.heap.size := H3.out.2.1.size
  have hgl : g < w3.heap.size := H3.out.1.lt
  cases b3
  · go_wp2_with fail
    refine (draw_state w.heap.size g _ H3.out.1).mono ?_
    rintro e w4 ⟨v4, ys, rfl, ho4, hl4, hsm4, hs4, hg4⟩
    obtain ⟨d, q, rfl, -, -, -⟩ := ho4.at (by omega)
    have H4 : Hid (BR w w3 w.heap.size g 8 b xs (.slice d ys.length q) ys w4) := ⟨H3.out.2.2.num hg4, ⟨ho4, hs4, hg4, hgl⟩, hl4⟩
    clear ho4 hsm4 hs4 hg4
    go_wp2
    go_ret2
    exact ⟨b, c, xs, d, q, ys, rfl, H4.out.fst.row, H4.out.snd.own.row (by omega), hl, by omega, H3.out.2.1.trans H4.out.below⟩
  · have HM : Hid (EnsOwn (w3.alloc (.cells #[] 40)) w3.heap.size (.slice (some ⟨w3.heap.size, 0, none⟩) 0 0) [] ∧ EnsAt (w3.alloc (.cells #[] 40)) b xs ∧ Below w3.heap.size w3 (w3.alloc (.cells #[] 40))) := ⟨EnsOwn.made w3 (Nat.le_refl _), H3.out.2.2.row.kept ((Below.refl _ _).alloc (Nat.le_refl _) _), (Below.refl _ _).alloc (Nat.le_refl _) _⟩
    go_wp2_with (first
      | (at_builtin; refine wpList_append_ens rfl _ _ 38 rfl i0 _ Try.underlying38 hi hz0 hz1 hz2 rfl w3.heap.size _ [] rfl HM.out.1 b c xs HM.out.2.1 rfl (by simp; omega) (by simp) ?_; intro v4 w4 hO4 hb4 _; have H4 : Hid (BR w w3 w.heap.size g 8 b xs v4 xs w4) := (have hb : Below w3.heap.size w3 w4 := HM.out.2.2.trans hb4; ⟨H3.out.2.2.on hb (Nat.le_refl _), ⟨by simpa using hO4, H3.out.1.on hb hzw hgl, ⟨hb.os, hb.tape, hb.output, hb.size, fun k hk _ => hb.block k hk⟩, hgl⟩, hl⟩); clear hO4 hb4))
    clear HM
    refine (draw_n w.heap.size g 4 _ H4.out.snd.src (by omega)).mono ?_
    rintro e w5 ⟨r, rfl, p0, p1, -, hs5, hg5, hz5⟩
    have q5 : r < 4 := p1 (by omega)
    have H5 : Hid (BR w w3 w.heap.size g 8 b xs v4 xs w5) := H4.out.num hs5 hg5
    clear hs5 hg5 hz5 p1 H4
    obtain ⟨n0, rfl⟩ := Int.eq_ofNat_of_zero_le p0
    go_wp2
    go_loopw [6, 7, 8] (fun v k y wr => ∃ (q : Nat) (ys : List En), q ≤ 3 ∧ k = .int .i64 q ∧ Hid (BR w w3 w.heap.size g (11 - q) b xs v ys wr)) (fun _ k _ _ => (intOf k).toNat)
    case atStart => exact ⟨n0, xs, by omega, rfl, H5.out.more (by omega)⟩
    case round =>
      clear H5
      obtain ⟨q, ys, hq, rfl, HD⟩ := hrel
      have hl11 : ys.length ≤ 11 := Nat.le_trans HD.out.len (by omega)
      by_cases hlt : 0 < q
      · have hpos : decide ((0 : Int) < (q : Int)) = true := decide_eq_true (by omega)
        obtain ⟨d, qc, rfl, -, -, -⟩ := HD.out.snd.own.at (by omega)
        go_wp2_with fail
        refine (draw_entry w.heap.size g _ HD.out.snd.src).mono ?_
        rintro e w6 ⟨x, rfl, hx, hs6, hg6⟩
        have HD2 : Hid (BR w w3 w.heap.size g (11 - q) b xs (.slice d ys.length qc) ys w6) := HD.out.num hs6 hg6
        clear hs6 hg6 hx
        have HE : Hid (EnsAt w6 d ys) := HD2.out.snd.own.row (by omega)
        go_wp2_with fail
        refine (statePut_spec ys x d qc w6 HE.out).mono ?_
        rintro e w7 ⟨v7, rfl, ho7, hb7⟩
        have hsl := sp_len ys x
        obtain ⟨a7, c7, rfl, -, -, -⟩ := ho7.at (by omega)
        have HO : Hid (EnsOwn w7 w6.heap.size (.slice a7 (spL ys x).length c7) (spL ys x) ∧ Below w6.heap.size w6 w7) := ⟨ho7, hb7⟩
        clear ho7 hb7
        by_cases hr : rowE false ys = true ∧ entB false x = true
        · obtain ⟨h1, h2⟩ := sp_ok (xs := ys) (x := x) (by omega) hr.1 hr.2
          rw [h1]
          have HD3 : Hid (∀ o, BR w w3 w.heap.size g (11 - (q - 1)) b xs (.slice a7 (spL ys x).length c7) (putE ys x) (w7.alloc o)) := fun o => ((HD2.out.put HO.out.2 (by rw [← h2]; exact HO.out.1)).on ((Below.refl _ _).alloc (Nat.le_refl _) _)).more (by omega)
          clear h1 h2 hr
          go_wp2
          go_roundw
          case rel => exact ⟨q - 1, putE ys x, by omega, by go_num, HD3.out _⟩
          case measure => simp [intOf]; omega
        · obtain ⟨h1, h2⟩ := sp_bad (xs := ys) (x := x) (by omega) hr
          rw [h1]
          have HD3 : Hid (∀ o, BR w w3 w.heap.size g (11 - (q - 1)) b xs (.slice d ys.length qc) ys (w7.alloc o)) := fun o => ((HD2.out.on HO.out.2).on ((Below.refl _ _).alloc (Nat.le_refl _) _)).more (by omega)
          clear h1 h2 hr
          go_wp2
          go_roundw
          case rel => exact ⟨q - 1, ys, by omega, by go_num, HD3.out _⟩
          case measure => simp [intOf]; omega
      · obtain rfl : q = 0 := by omega
        have hpos : decide ((0 : Int) < ((0 : Nat) : Int)) = false := decide_eq_false (by omega)
        obtain ⟨d, qc, rfl, hqc, -, hdd⟩ := HD.out.snd.own.at (by omega)
        by_cases hp : 0 < ys.length
        · have hpb : decide ((0 : Int) < (ys.length : Int)) = true := decide_eq_true (by omega)
          go_wp2_with fail
          refine (draw_one w.heap.size g 2 _ HD.out.snd.src (by omega)).mono ?_
          rintro e w6 ⟨b6, rfl, hs6, hg6, -⟩
          have H6 : Hid (BR w w3 w.heap.size g 11 b xs (.slice d ys.length qc) ys w6) := HD.out.num hs6 hg6
          clear hs6 hg6
          cases b6
          · go_wp2
            go_ret2
            exact ⟨b, c, xs, d, qc, ys, rfl, H6.out.fst.row, H6.out.snd.own.row (by omega), hl, by omega, H3.out.2.1.trans H6.out.below⟩
          · obtain ⟨k6, rfl, -⟩ : ∃ g6, d = some ⟨g6, 0, none⟩ ∧ w3.heap.size ≤ g6 := by
              rcases hdd with ⟨_, h0⟩ | h
              · omega
              · exact h
            have h1l : 1 ≤ ys.length := hp
            have hdl : (ys.drop 1).length = ys.length - 1 := by simp
            have HE6 : Hid (EnsAt w6 (some ⟨k6, 0, none⟩) ys) := H6.out.snd.own.row (by omega)
            by_cases hq1 : qc = 1
            · subst hq1
              go_wp2
              go_ret2
              exact ⟨b, c, xs, some ⟨k6, 0, none⟩, 0, [], by simp, H6.out.fst.row, EnsAt.empty _, hl, by simp, H3.out.2.1.trans H6.out.below⟩
            · have hq2 : ¬ qc - 1 = 0 := by omega
              go_wp2
              go_ret2
              exact ⟨b, c, xs, some ⟨k6, 0 + 1 * 3, none⟩, qc - 1, ys.drop 1, by simp, H6.out.fst.row, HE6.out.drop 1, hl, by simp; omega, H3.out.2.1.trans H6.out.below⟩
        · have hpb : decide ((0 : Int) < (ys.length : Int)) = false := decide_eq_false (by omega)
          go_wp2
          go_ret2
          exact ⟨b, c, xs, d, qc, ys, rfl, HD.out.fst.row, HD.out.snd.own.row (by omega), hl, by omega, H3.out.2.1.trans HD.out.below⟩
end Go.Proofs.Ytjdkenopfnepaaa
