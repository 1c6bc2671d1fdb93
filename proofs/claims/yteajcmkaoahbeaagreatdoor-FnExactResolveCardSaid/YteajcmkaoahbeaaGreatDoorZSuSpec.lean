/- The specification's functions that take an entry out of a row, and put one into it. -/
import Derived.Test.YteajcmkaoahbeaaGreatDoorZSuKeys
import Derived.Deep.RegionHeld3
namespace Go.Proofs.YteajcmkaoahbeaaGreatDoor
open Go.RowKit

/-- The entry's variable, in mid-call. -/
structure EBox (w : World) (x : En) (W : World) : Prop where
  below : Below w.heap.size w W
  box : W.heap[w.heap.size]? = some (.cells #[.int .i64 x.kind, .int .i64 x.key, .int .i64 x.id] 73 (0, 0))
theorem EBox.start (w : World) (x : En) : EBox w x (w.alloc (.cells #[.int .i64 x.kind, .int .i64 x.key, .int .i64 x.id] 73)) := ⟨(Below.refl _ _).alloc (Nat.le_refl _) _, (MapKept.heap_alloc w _).1⟩
theorem EBox.lt {w : World} {x : En} {W : World} (h : EBox w x W) : w.heap.size < W.heap.size := (Array.getElem?_eq_some_iff.1 h.box).1
theorem EBox.on {w : World} {x : En} {W W' : World} (h : EBox w x W) (hb : Below (w.heap.size + 1) W W') : EBox w x W' := ⟨h.below.trans (hb.mono (by omega)), (hb.block _ (by omega)).trans h.box⟩
theorem below_drewN' {k : Nat} {w W : World} (h : Below k w W) (n : Nat) : Below k w (W.drewN n) := ⟨h.os, h.tape, h.output, h.size, h.block⟩
theorem woS_take {xs : List En} {x : En} {k : Nat} (hk : k < xs.length) : woS (xs.take (k + 1)) x = woS (xs.take k) x ++ (if ((xs[k].kind != x.kind) || (xs[k].key != x.key)) = true then [xs[k]] else []) := by
  rw [List.take_succ_eq_append_getElem hk]
  unfold woS
  rw [List.filter_append]
  congr 1
  by_cases c : ((xs[k].kind != x.kind) || (xs[k].key != x.key)) = true
  · rw [if_pos c, List.filter_cons, if_pos c]
    rfl
  · rw [if_neg c, List.filter_cons, if_neg c]
    rfl
theorem woS_keep {xs : List En} {x : En} {k : Nat} (hk : k < xs.length) (h : ((xs[k].kind != x.kind) || (xs[k].key != x.key)) = true) : woS (xs.take (k + 1)) x = woS (xs.take k) x ++ [xs[k]] := by rw [woS_take hk, if_pos h]
theorem woS_drop {xs : List En} {x : En} {k : Nat} (hk : k < xs.length) (h : ((xs[k].kind != x.kind) || (xs[k].key != x.key)) = false) : woS (xs.take (k + 1)) x = woS (xs.take k) x := by rw [woS_take hk, if_neg (by simp [h]), List.append_nil]
set_option maxHeartbeats 4000000 in
set_option maxRecDepth 100000 in
theorem without_spec (xs : List En) (x : En) (a : Option Addr) (cap : Nat) (w : World) (h : EnsAt w a xs) (hl : xs.length ≤ 900000) :
    Calls Tryz.prog 99 #[.slice a xs.length cap, .agg #[.int .i64 x.kind, .int .i64 x.key, .int .i64 x.id]] w fun e w' => ∃ v, e = .returned v ∧ EnsOwn w' w.heap.size v (woS xs x) ∧ v ≠ .slice none 0 0 ∧ Below w.heap.size w w' := by
  obtain ⟨i0, hi, hz0, hz1, hz2⟩ := info_parts Tryz.infoEn
  have H : Hid (EnsAt w a xs) := h
  have HB0 := EBox.start w x
  have H0 : Hid (EBox w x ((w.alloc (.cells #[.int .i64 x.kind, .int .i64 x.key, .int .i64 x.id] 73)).alloc (.cells #[] 73)) ∧ EnsOwn ((w.alloc (.cells #[.int .i64 x.kind, .int .i64 x.key, .int .i64 x.id] 73)).alloc (.cells #[] 73)) (w.heap.size + 1) (.slice (some ⟨w.heap.size + 1, 0, none⟩) 0 0) []) := by
    refine ⟨HB0.on ((Below.refl _ _).alloc (by simp) _), ?_⟩
    have := EnsOwn.made (base := w.heap.size + 1) (w.alloc (.cells #[.int .i64 x.kind, .int .i64 x.key, .int .i64 x.id] 73)) (by simp)
    simpa using this
  clear h HB0
  go_enter Tryz.func99, Tryz.ntmps99
  go_wp2
  go_loopw [5, 6] (fun v i wr => ∃ (k : Nat) (V : Value), k ≤ xs.length ∧ i = .int .i64 k ∧ V = v ∧ V ≠ .slice none 0 0 ∧ Hid (EBox w x wr ∧ EnsOwn wr (w.heap.size + 1) V (woS (xs.take k) x))) (fun _ i _ => xs.length - (intOf i).toNat)
  case atStart => exact ⟨0, _, Nat.zero_le _, rfl, rfl, (by simp), H0⟩
  case round =>
    clear H0
    obtain ⟨k, V, hk, rfl, rfl, hvn, HI⟩ := hrel
    have HVN : Hid (V ≠ .slice none 0 0) := hvn
    clear hvn
    by_cases hlt : k < xs.length
    · obtain ⟨b, off, rfl, hbb, hcell⟩ := (H.out.kept HI.out.1.below).row (by omega)
      have hc0 : wr.cell? ⟨b, off + k * 3, none⟩ = some (.int .i64 xs[k].kind) := hcell k hlt 0 (by omega)
      have hc1 : wr.cell? ⟨b, off + k * 3 + 1, none⟩ = some (.int .i64 xs[k].key) := by
        have := hcell k hlt 1 (by omega)
        rwa [← Nat.add_assoc] at this
      have hc2 : wr.cell? ⟨b, off + k * 3 + 2, none⟩ = some (.int .i64 xs[k].id) := by
        have := hcell k hlt 2 (by omega)
        rwa [← Nat.add_assoc] at this
      have hq0 : wr.cell? ⟨w.heap.size, 0, none⟩ = some (.int .i64 x.kind) := cell_of_heap HI.out.1.box
      have hq1 : wr.cell? ⟨w.heap.size, 1, none⟩ = some (.int .i64 x.key) := cell_of_heap HI.out.1.box
      have hzb := HI.out.1.lt
      have HD : Hid (∀ n, EBox w x (wr.drewN n) ∧ EnsOwn (wr.drewN n) (w.heap.size + 1) V (woS (xs.take k) x)) := fun n => ⟨HI.out.1.on (below_drewN' (Below.refl _ _) n), HI.out.2.kept (below_drewN' (Below.refl _ _) n)⟩
      have HA : Hid (∀ n o, EBox w x ((wr.drewN n).alloc o) ∧ EnsOwn ((wr.drewN n).alloc o) (w.heap.size + 1) V (woS (xs.take k) x)) := fun n o => ⟨(HD.out n).1.on ((Below.refl _ (wr.drewN n)).alloc (show w.heap.size + 1 ≤ (wr.drewN n).heap.size from hzb) _), (HD.out n).2.kept ((Below.refl _ (wr.drewN n)).alloc (Nat.le_refl _) _)⟩
      have HLW : Hid ((woS (xs.take k) x).length ≤ 900000) := Nat.le_trans (woS_length _ _) (Nat.le_trans (List.length_take_le' _ _) hl)
      clear hcell
      cases h1 : (xs[k].kind != x.kind)
      · cases h2 : (xs[k].key != x.key)
        · have HN : Hid (woS (xs.take (k + 1)) x = woS (xs.take k) x) := woS_drop hlt (by rw [h1, h2]; rfl)
          go_wp2
          go_quiet (fail)
          go_wp2
          go_roundw
          case rel => exact ⟨k + 1, V, by omega, by go_num, rfl, HVN.out, by rw [HN.out]; exact HD.out _⟩
          case measure => simp [intOf]; omega
        · have HN : Hid (woS (xs.take (k + 1)) x = woS (xs.take k) x ++ [xs[k]]) := woS_keep hlt (by rw [h1, h2]; rfl)
          go_wp2
          go_quiet (fail)
          go_wp2_with (at_builtin; refine wpList_append_ens rfl _ _ 28 rfl i0 _ Tryz.underlying28 hi hz0 hz1 hz2 rfl (w.heap.size + 1) _ (woS (xs.take k) x) rfl (HA.out _ _).2 _ _ [xs[k]] (ensAt_one (MapKept.heap_alloc _ _).1) rfl (by have := HLW.out; simp; omega) (by simp; omega) ?_; intro v2 w2 hO2 hb2 hn2; have HN2 : Hid (v2 ≠ .slice none 0 0) := hn2 HVN.out; have H2 : Hid (EBox w x w2 ∧ EnsOwn w2 (w.heap.size + 1) v2 (woS (xs.take (k + 1)) x)) := ⟨(HA.out _ _).1.on hb2, by rw [HN.out]; exact hO2⟩; clear hO2 hb2 hn2)
          go_roundw
          case rel => exact ⟨k + 1, v2, by omega, by go_num, rfl, HN2.out, H2⟩
          case measure => simp [intOf]; omega
      · have HN : Hid (woS (xs.take (k + 1)) x = woS (xs.take k) x ++ [xs[k]]) := woS_keep hlt (by rw [h1]; rfl)
        go_wp2
        go_quiet (fail)
        go_wp2_with (at_builtin; refine wpList_append_ens rfl _ _ 28 rfl i0 _ Tryz.underlying28 hi hz0 hz1 hz2 rfl (w.heap.size + 1) _ (woS (xs.take k) x) rfl (HA.out _ _).2 _ _ [xs[k]] (ensAt_one (MapKept.heap_alloc _ _).1) rfl (by have := HLW.out; simp; omega) (by simp; omega) ?_; intro v2 w2 hO2 hb2 hn2; have HN2 : Hid (v2 ≠ .slice none 0 0) := hn2 HVN.out; have H2 : Hid (EBox w x w2 ∧ EnsOwn w2 (w.heap.size + 1) v2 (woS (xs.take (k + 1)) x)) := ⟨(HA.out _ _).1.on hb2, by rw [HN.out]; exact hO2⟩; clear hO2 hb2 hn2)
        go_roundw
        case rel => exact ⟨k + 1, v2, by omega, by go_num, rfl, HN2.out, H2⟩
        case measure => simp [intOf]; omega
    · have HF : Hid (EnsOwn wr w.heap.size V (woS xs x)) := by
        have e : k = xs.length := by omega
        have h1 := HI.out.2
        rw [e, List.take_length] at h1
        exact owns_baseC h1 (by omega)
      go_wp2
      go_ret
      exact ⟨_, rfl, HF.out, HVN.out, HI.out.1.below⟩
/-- What l04Put holds in mid-call: the entry, and the row without it. -/
structure PutIn (w : World) (x : En) (a : Option Addr) (c : Nat) (l : List En) (W : World) : Prop where
  box : EBox w x W
  row : EnsAt W a l
theorem PutIn.on {w : World} {x : En} {a : Option Addr} {c : Nat} {l : List En} {W W' : World} (h : PutIn w x a c l W) (hb : Below W.heap.size W W') : PutIn w x a c l W' := ⟨h.box.on (hb.mono h.box.lt), h.row.kept hb⟩
set_option maxHeartbeats 4000000 in
set_option maxRecDepth 100000 in
theorem put_spec (xs : List En) (x : En) (a : Option Addr) (cap : Nat) (w : World) (h : EnsAt w a xs) (hl : xs.length ≤ 900000) :
    Calls Tryz.prog 66 #[.slice a xs.length cap, .agg #[.int .i64 x.kind, .int .i64 x.key, .int .i64 x.id]] w fun e w' => ∃ v, e = .returned v ∧ EnsOwn w' w.heap.size v (putE xs x) ∧ Below w.heap.size w w' := by
  obtain ⟨i0, hi, hz0, hz1, hz2⟩ := info_parts Tryz.infoEn
  have H0 := EBox.start w x
  have HWS := without_spec xs x a cap _ (h.kept H0.below) hl
  have HB0 : Hid (EBox w x (w.alloc (.cells #[.int .i64 x.kind, .int .i64 x.key, .int .i64 x.id] 73))) := H0
  have HLW : Hid ((woS xs x).length ≤ 900000) := Nat.le_trans (woS_length _ _) hl
  clear h H0
  go_enter Tryz.func66, Tryz.ntmps66
  go_wp2_with fail
  refine HWS.mono ?_
  rintro e w1 ⟨v1, rfl, ho1, hvn1, hb1⟩
  obtain ⟨l, HL⟩ : ∃ l, Hid (l = woS xs x) := ⟨woS xs x, (rfl : woS xs x = _)⟩
  rw [← HL.out] at ho1 HLW
  obtain ⟨a1, c1, rfl, hc1, hr1, hrow1⟩ := ho1.at (by have := HLW.out; omega)
  have hl1 := HLW.out
  have HI1 : Hid (PutIn w x a1 c1 l w1) := ⟨HB0.out.on (hb1.mono (by simp)), hr1⟩
  have HR1 : Hid (∃ g, a1 = some ⟨g, 0, none⟩) := hrow1.elim (fun hh => absurd (by rw [hh.1, hh.2]; have h5 : l.length = 0 := (by omega); rw [h5]) hvn1) fun ⟨g, hg, _⟩ => ⟨g, hg⟩
  clear ho1 hb1 hr1 HWS hrow1 HB0 hvn1
  go_wp2
  go_loopw [6] (fun i wr => ∃ k : Nat, k ≤ l.length ∧ i = .int .i64 k ∧ Hid ((∀ q (h : q < l.length), q < k → lessB l[q] x = true) ∧ PutIn w x a1 c1 l wr)) (fun i _ => l.length - (intOf i).toNat)
  case atStart => exact ⟨0, Nat.zero_le _, rfl, fun _ _ h => absurd h (Nat.not_lt_zero _), HI1.out⟩
  case round =>
    clear HI1
    obtain ⟨k, hk, rfl, HI⟩ := hrel
    by_cases hlt : k < l.length
    · have hkl : decide ((k : Int) < (l.length : Int)) = true := decide_eq_true (by omega)
      obtain ⟨g1, ha1⟩ := HR1.out
      subst ha1
      obtain ⟨b, off, hbo, hbb, hcell⟩ := HI.out.2.row.row (by omega)
      obtain ⟨rfl, rfl⟩ : g1 = b ∧ 0 = off := by simpa using hbo
      have hc0 : wr.cell? ⟨g1, k * 3, none⟩ = some (.int .i64 l[k].kind) := by have := hcell k hlt 0 (by omega); rwa [Nat.zero_add] at this
      have hc1' : wr.cell? ⟨g1, k * 3 + 1, none⟩ = some (.int .i64 l[k].key) := by have := hcell k hlt 1 (by omega); rwa [Nat.zero_add] at this
      have hc2 : wr.cell? ⟨g1, k * 3 + 2, none⟩ = some (.int .i64 l[k].id) := by have := hcell k hlt 2 (by omega); rwa [Nat.zero_add] at this
      have hq0 : wr.cell? ⟨w.heap.size, 0, none⟩ = some (.int .i64 x.kind) := cell_of_heap HI.out.2.box.box
      have hq1 : wr.cell? ⟨w.heap.size, 1, none⟩ = some (.int .i64 x.key) := cell_of_heap HI.out.2.box.box
      have hq2 : wr.cell? ⟨w.heap.size, 2, none⟩ = some (.int .i64 x.id) := cell_of_heap HI.out.2.box.box
      clear hcell
      have hzb := HI.out.2.box.lt
      cases hless : lessB l[k] x
      · have HK : Hid (placeS l x = k) := placeS_eq hk HI.out.1 (fun _ => hless)
        go_wp2
        go_region_held3 (fun W => W.cell? ⟨g1, k * 3, none⟩ = some (.int .i64 l[k].kind) ∧ W.cell? ⟨g1, k * 3 + 1, none⟩ = some (.int .i64 l[k].key) ∧ W.cell? ⟨g1, k * 3 + 2, none⟩ = some (.int .i64 l[k].id) ∧ W.cell? ⟨w.heap.size, 0, none⟩ = some (.int .i64 x.kind) ∧ W.cell? ⟨w.heap.size, 1, none⟩ = some (.int .i64 x.key) ∧ W.cell? ⟨w.heap.size, 2, none⟩ = some (.int .i64 x.id)) (simp [go_sem, *]) (first | (go_at_call 100; refine (less_spec l[k] x _).mono ?_; rintro e w2 ⟨rfl, hb2⟩; rw [hless]; have hb2 : Below wr.heap.size wr w2 := (Below.drew (Below.refl _ _)).trans hb2; have gg0 : w2.cell? ⟨g1, k * 3, none⟩ = some (.int .i64 l[k].kind) := (hb2.cell (p := ⟨g1, k * 3, none⟩) hbb).trans hc0; have gg1 : w2.cell? ⟨g1, k * 3 + 1, none⟩ = some (.int .i64 l[k].key) := (hb2.cell (p := ⟨g1, k * 3 + 1, none⟩) hbb).trans hc1'; have gg2 : w2.cell? ⟨g1, k * 3 + 2, none⟩ = some (.int .i64 l[k].id) := (hb2.cell (p := ⟨g1, k * 3 + 2, none⟩) hbb).trans hc2; have gg3 : w2.cell? ⟨w.heap.size, 0, none⟩ = some (.int .i64 x.kind) := (hb2.cell (p := ⟨w.heap.size, 0, none⟩) hzb).trans hq0; have gg4 : w2.cell? ⟨w.heap.size, 1, none⟩ = some (.int .i64 x.key) := (hb2.cell (p := ⟨w.heap.size, 1, none⟩) hzb).trans hq1; have gg5 : w2.cell? ⟨w.heap.size, 2, none⟩ = some (.int .i64 x.id) := (hb2.cell (p := ⟨w.heap.size, 2, none⟩) hzb).trans hq2; have HP : Hid (PutIn w x (some ⟨g1, 0, none⟩) c1 l w2) := HI.out.2.on hb2; clear hb2))
        have hfull : ¬ k = c1 := by omega
        have HPT : Hid (putE xs x = l.take k ++ [x] ++ l.drop k) := by unfold Hid putE insS; rw [← HL.out, HK.out]; simp
        have hzw : w.heap.size < w2.heap.size := HP.out.box.lt
        have hq0 : w2.cell? ⟨w.heap.size, 0, none⟩ = some (.int .i64 x.kind) := cell_of_heap HP.out.box.box
        have hq1 : w2.cell? ⟨w.heap.size, 1, none⟩ = some (.int .i64 x.key) := cell_of_heap HP.out.box.box
        have hq2 : w2.cell? ⟨w.heap.size, 2, none⟩ = some (.int .i64 x.id) := cell_of_heap HP.out.box.box
        have HM : Hid (PutIn w x (some ⟨g1, 0, none⟩) c1 l (w2.alloc (.cells #[] 73)) ∧ EnsOwn (w2.alloc (.cells #[] 73)) w2.heap.size (.slice (some ⟨w2.heap.size, 0, none⟩) 0 0) [] ∧ Below w2.heap.size w2 (w2.alloc (.cells #[] 73))) := ⟨HP.out.on ((Below.refl _ _).alloc (Nat.le_refl _) _), EnsOwn.made _ (Nat.le_refl _), (Below.refl _ _).alloc (Nat.le_refl _) _⟩
        have htk : (l.take k).length = k := by simp; omega
        have hdk : (l.drop k).length = l.length - k := by simp
        have hck1 : ¬ c1 - k = 0 := by omega
        have HPW : Hid (∀ W, Below w2.heap.size w2 W → PutIn w x (some ⟨g1, 0, none⟩) c1 l W) := fun W hW => HP.out.on hW
        go_wp2_with (first | (have hq := H2; clear hq; at_builtin; refine wpList_append_ens rfl _ _ 28 rfl i0 _ Tryz.underlying28 hi hz0 hz1 hz2 rfl w2.heap.size _ ([] ++ (l.take k) ++ [x]) rfl H2.out.1 (some ⟨g1, k * 3, none⟩) (c1 - k) (l.drop k) (by have := ((HPW.out _ H2.out.2).row).drop k; rwa [Nat.zero_add] at this) (by rw [hdk]; rfl) (by simp; omega) (by omega) ?_; intro v5 w5 hO hb _; have H3 : Hid (EnsOwn w5 w2.heap.size v5 ([] ++ (l.take k) ++ [x] ++ (l.drop k)) ∧ Below w2.heap.size w2 w5) := ⟨hO, H2.out.2.trans hb⟩; clear hO hb) | (have hq := H1; clear hq; at_builtin; refine wpList_append_ens rfl _ _ 28 rfl i0 _ Tryz.underlying28 hi hz0 hz1 hz2 rfl w2.heap.size _ ([] ++ (l.take k)) rfl (HA3.out _).1 _ _ [x] (ensAt_one (MapKept.heap_alloc _ _).1) rfl (by simp; omega) (by simp; omega) ?_; intro v4 w4 hO hb _; have H2 : Hid (EnsOwn w4 w2.heap.size v4 ([] ++ (l.take k) ++ [x]) ∧ Below w2.heap.size w2 w4) := ⟨hO, (HA3.out _).2.trans hb⟩; have hs4 := H2.out.2.size; clear hO hb) | (at_builtin; refine wpList_append_ens rfl _ _ 28 rfl i0 _ Tryz.underlying28 hi hz0 hz1 hz2 rfl w2.heap.size _ [] rfl HM.out.2.1 (some ⟨g1, 0, none⟩) c1 (l.take k) (HM.out.1.row.take k) (by rw [htk]; rfl) (by simp; omega) (by simp) ?_; intro v3 w3 hO hb _; have H1 : Hid (EnsOwn w3 w2.heap.size v3 ([] ++ (l.take k)) ∧ Below w2.heap.size w2 w3) := ⟨hO, HM.out.2.2.trans hb⟩; have hp3 := HPW.out _ H1.out.2; have hz3 : w.heap.size < w3.heap.size := hp3.box.lt; have hs3 := H1.out.2.size; have hr0 : w3.cell? ⟨w.heap.size, 0, none⟩ = some (.int .i64 x.kind) := cell_of_heap hp3.box.box; have hr1 : w3.cell? ⟨w.heap.size, 1, none⟩ = some (.int .i64 x.key) := cell_of_heap hp3.box.box; have hr2 : w3.cell? ⟨w.heap.size, 2, none⟩ = some (.int .i64 x.id) := cell_of_heap hp3.box.box; have HA3 : Hid (∀ o, EnsOwn (w3.alloc o) w2.heap.size v3 ([] ++ (l.take k)) ∧ Below w2.heap.size w2 (w3.alloc o)) := fun o => ⟨H1.out.1.kept ((Below.refl _ _).alloc (Nat.le_refl _) _), H1.out.2.alloc H1.out.2.size _⟩; clear hO hb))
        go_ret
        exact ⟨_, rfl, by rw [HPT.out]; exact owns_baseC H3.out.1 (by omega), HP.out.box.below.trans (H3.out.2.mono (by omega))⟩
      · have HN : Hid (∀ q (h : q < l.length), q < k + 1 → lessB l[q] x = true) := fun q h hq => by
          by_cases e : q = k
          · subst e
            exact hless
          · exact HI.out.1 q h (by omega)
        go_wp2
        go_region_held3 (fun W => W.cell? ⟨g1, k * 3, none⟩ = some (.int .i64 l[k].kind) ∧ W.cell? ⟨g1, k * 3 + 1, none⟩ = some (.int .i64 l[k].key) ∧ W.cell? ⟨g1, k * 3 + 2, none⟩ = some (.int .i64 l[k].id) ∧ W.cell? ⟨w.heap.size, 0, none⟩ = some (.int .i64 x.kind) ∧ W.cell? ⟨w.heap.size, 1, none⟩ = some (.int .i64 x.key) ∧ W.cell? ⟨w.heap.size, 2, none⟩ = some (.int .i64 x.id)) (simp [go_sem, *]) (first | (go_at_call 100; refine (less_spec l[k] x _).mono ?_; rintro e w2 ⟨rfl, hb2⟩; rw [hless]; have hb2 : Below wr.heap.size wr w2 := (Below.drew (Below.refl _ _)).trans hb2; have gg0 : w2.cell? ⟨g1, k * 3, none⟩ = some (.int .i64 l[k].kind) := (hb2.cell (p := ⟨g1, k * 3, none⟩) hbb).trans hc0; have gg1 : w2.cell? ⟨g1, k * 3 + 1, none⟩ = some (.int .i64 l[k].key) := (hb2.cell (p := ⟨g1, k * 3 + 1, none⟩) hbb).trans hc1'; have gg2 : w2.cell? ⟨g1, k * 3 + 2, none⟩ = some (.int .i64 l[k].id) := (hb2.cell (p := ⟨g1, k * 3 + 2, none⟩) hbb).trans hc2; have gg3 : w2.cell? ⟨w.heap.size, 0, none⟩ = some (.int .i64 x.kind) := (hb2.cell (p := ⟨w.heap.size, 0, none⟩) hzb).trans hq0; have gg4 : w2.cell? ⟨w.heap.size, 1, none⟩ = some (.int .i64 x.key) := (hb2.cell (p := ⟨w.heap.size, 1, none⟩) hzb).trans hq1; have gg5 : w2.cell? ⟨w.heap.size, 2, none⟩ = some (.int .i64 x.id) := (hb2.cell (p := ⟨w.heap.size, 2, none⟩) hzb).trans hq2; have HP : Hid (PutIn w x (some ⟨g1, 0, none⟩) c1 l w2) := HI.out.2.on hb2; clear hb2))
        all_goals go_wp2
        all_goals go_roundw
        case rel => exact ⟨k + 1, by omega, by go_num, HN.out, HP.out⟩
        case measure => simp [intOf]; omega
    · have HK : Hid (placeS l x = k) := placeS_eq hk HI.out.1 (fun h => absurd h hlt)
      have hkl : decide ((k : Int) < (l.length : Int)) = false := decide_eq_false (by omega)
      have HQ : Hid (∀ n, PutIn w x a1 c1 l (wr.drewN n)) := fun n => HI.out.2.on (below_drewN' (Below.refl _ _) n)
      go_wp2
      go_quiet (fail)
      obtain ⟨W9, HW9⟩ : ∃ W, Hid (W = wr.drewN nq) := ⟨wr.drewN nq, (rfl : wr.drewN nq = _)⟩
      have HP : Hid (PutIn w x a1 c1 l W9) := by rw [HW9.out]; exact HQ.out nq
      rw [← HW9.out]
      · obtain ⟨g1, rfl⟩ := HR1.out
        by_cases hfull : k = c1
        · subst hfull
          have HPT : Hid (putE xs x = l.take k ++ [x] ++ l.drop k) := by unfold Hid putE insS; rw [← HL.out, HK.out]; simp
          have hzw : w.heap.size < W9.heap.size := HP.out.box.lt
          have hq0 : W9.cell? ⟨w.heap.size, 0, none⟩ = some (.int .i64 x.kind) := cell_of_heap HP.out.box.box
          have hq1 : W9.cell? ⟨w.heap.size, 1, none⟩ = some (.int .i64 x.key) := cell_of_heap HP.out.box.box
          have hq2 : W9.cell? ⟨w.heap.size, 2, none⟩ = some (.int .i64 x.id) := cell_of_heap HP.out.box.box
          have HM : Hid (PutIn w x (some ⟨g1, 0, none⟩) k l (W9.alloc (.cells #[] 73)) ∧ EnsOwn (W9.alloc (.cells #[] 73)) W9.heap.size (.slice (some ⟨W9.heap.size, 0, none⟩) 0 0) [] ∧ Below W9.heap.size W9 (W9.alloc (.cells #[] 73))) := ⟨HP.out.on ((Below.refl _ _).alloc (Nat.le_refl _) _), EnsOwn.made _ (Nat.le_refl _), (Below.refl _ _).alloc (Nat.le_refl _) _⟩
          have htk : (l.take k).length = k := by simp; omega
          have hdk : (l.drop k).length = l.length - k := by simp
          have hck0 : k - k = 0 := by omega
          have HPW : Hid (∀ W, Below W9.heap.size W9 W → PutIn w x (some ⟨g1, 0, none⟩) k l W) := fun W hW => HP.out.on hW
          go_wp2_with (first | (have hq := H2; clear hq; at_builtin; refine wpList_append_ens rfl _ _ 28 rfl i0 _ Tryz.underlying28 hi hz0 hz1 hz2 rfl W9.heap.size _ ([] ++ (l.take k) ++ [x]) rfl H2.out.1 (some ⟨g1, 0, none⟩) 0 (l.drop k) (by rw [List.drop_eq_nil_of_le (by omega)]; exact EnsAt.empty _) (by rw [hdk, show l.length - k = 0 by omega]; rfl) (by simp; omega) (by omega) ?_; intro v5 w5 hO hb _; have H3 : Hid (EnsOwn w5 W9.heap.size v5 ([] ++ (l.take k) ++ [x] ++ (l.drop k)) ∧ Below W9.heap.size W9 w5) := ⟨hO, H2.out.2.trans hb⟩; clear hO hb) | (have hq := H1; clear hq; at_builtin; refine wpList_append_ens rfl _ _ 28 rfl i0 _ Tryz.underlying28 hi hz0 hz1 hz2 rfl W9.heap.size _ ([] ++ (l.take k)) rfl (HA3.out _).1 _ _ [x] (ensAt_one (MapKept.heap_alloc _ _).1) rfl (by simp; omega) (by simp; omega) ?_; intro v4 w4 hO hb _; have H2 : Hid (EnsOwn w4 W9.heap.size v4 ([] ++ (l.take k) ++ [x]) ∧ Below W9.heap.size W9 w4) := ⟨hO, (HA3.out _).2.trans hb⟩; have hs4 := H2.out.2.size; clear hO hb) | (at_builtin; refine wpList_append_ens rfl _ _ 28 rfl i0 _ Tryz.underlying28 hi hz0 hz1 hz2 rfl W9.heap.size _ [] rfl HM.out.2.1 (some ⟨g1, 0, none⟩) k (l.take k) (HM.out.1.row.take k) (by rw [htk]; rfl) (by simp; omega) (by simp) ?_; intro v3 w3 hO hb _; have H1 : Hid (EnsOwn w3 W9.heap.size v3 ([] ++ (l.take k)) ∧ Below W9.heap.size W9 w3) := ⟨hO, HM.out.2.2.trans hb⟩; have hp3 := HPW.out _ H1.out.2; have hz3 : w.heap.size < w3.heap.size := hp3.box.lt; have hs3 := H1.out.2.size; have hr0 : w3.cell? ⟨w.heap.size, 0, none⟩ = some (.int .i64 x.kind) := cell_of_heap hp3.box.box; have hr1 : w3.cell? ⟨w.heap.size, 1, none⟩ = some (.int .i64 x.key) := cell_of_heap hp3.box.box; have hr2 : w3.cell? ⟨w.heap.size, 2, none⟩ = some (.int .i64 x.id) := cell_of_heap hp3.box.box; have HA3 : Hid (∀ o, EnsOwn (w3.alloc o) W9.heap.size v3 ([] ++ (l.take k)) ∧ Below W9.heap.size W9 (w3.alloc o)) := fun o => ⟨H1.out.1.kept ((Below.refl _ _).alloc (Nat.le_refl _) _), H1.out.2.alloc H1.out.2.size _⟩; clear hO hb))
          go_ret
          exact ⟨_, rfl, by rw [HPT.out]; exact owns_baseC H3.out.1 (by omega), HP.out.box.below.trans (H3.out.2.mono (by omega))⟩
        · have HPT : Hid (putE xs x = l.take k ++ [x] ++ l.drop k) := by unfold Hid putE insS; rw [← HL.out, HK.out]; simp
          have hzw : w.heap.size < W9.heap.size := HP.out.box.lt
          have hq0 : W9.cell? ⟨w.heap.size, 0, none⟩ = some (.int .i64 x.kind) := cell_of_heap HP.out.box.box
          have hq1 : W9.cell? ⟨w.heap.size, 1, none⟩ = some (.int .i64 x.key) := cell_of_heap HP.out.box.box
          have hq2 : W9.cell? ⟨w.heap.size, 2, none⟩ = some (.int .i64 x.id) := cell_of_heap HP.out.box.box
          have HM : Hid (PutIn w x (some ⟨g1, 0, none⟩) c1 l (W9.alloc (.cells #[] 73)) ∧ EnsOwn (W9.alloc (.cells #[] 73)) W9.heap.size (.slice (some ⟨W9.heap.size, 0, none⟩) 0 0) [] ∧ Below W9.heap.size W9 (W9.alloc (.cells #[] 73))) := ⟨HP.out.on ((Below.refl _ _).alloc (Nat.le_refl _) _), EnsOwn.made _ (Nat.le_refl _), (Below.refl _ _).alloc (Nat.le_refl _) _⟩
          have htk : (l.take k).length = k := by simp; omega
          have hdk : (l.drop k).length = l.length - k := by simp
          have hck1 : ¬ c1 - k = 0 := by omega
          have HPW : Hid (∀ W, Below W9.heap.size W9 W → PutIn w x (some ⟨g1, 0, none⟩) c1 l W) := fun W hW => HP.out.on hW
          go_wp2_with (first | (have hq := H2; clear hq; at_builtin; refine wpList_append_ens rfl _ _ 28 rfl i0 _ Tryz.underlying28 hi hz0 hz1 hz2 rfl W9.heap.size _ ([] ++ (l.take k) ++ [x]) rfl H2.out.1 (some ⟨g1, k * 3, none⟩) (c1 - k) (l.drop k) (by have := ((HPW.out _ H2.out.2).row).drop k; rwa [Nat.zero_add] at this) (by rw [hdk]; rfl) (by simp; omega) (by omega) ?_; intro v5 w5 hO hb _; have H3 : Hid (EnsOwn w5 W9.heap.size v5 ([] ++ (l.take k) ++ [x] ++ (l.drop k)) ∧ Below W9.heap.size W9 w5) := ⟨hO, H2.out.2.trans hb⟩; clear hO hb) | (have hq := H1; clear hq; at_builtin; refine wpList_append_ens rfl _ _ 28 rfl i0 _ Tryz.underlying28 hi hz0 hz1 hz2 rfl W9.heap.size _ ([] ++ (l.take k)) rfl (HA3.out _).1 _ _ [x] (ensAt_one (MapKept.heap_alloc _ _).1) rfl (by simp; omega) (by simp; omega) ?_; intro v4 w4 hO hb _; have H2 : Hid (EnsOwn w4 W9.heap.size v4 ([] ++ (l.take k) ++ [x]) ∧ Below W9.heap.size W9 w4) := ⟨hO, (HA3.out _).2.trans hb⟩; have hs4 := H2.out.2.size; clear hO hb) | (at_builtin; refine wpList_append_ens rfl _ _ 28 rfl i0 _ Tryz.underlying28 hi hz0 hz1 hz2 rfl W9.heap.size _ [] rfl HM.out.2.1 (some ⟨g1, 0, none⟩) c1 (l.take k) (HM.out.1.row.take k) (by rw [htk]; rfl) (by simp; omega) (by simp) ?_; intro v3 w3 hO hb _; have H1 : Hid (EnsOwn w3 W9.heap.size v3 ([] ++ (l.take k)) ∧ Below W9.heap.size W9 w3) := ⟨hO, HM.out.2.2.trans hb⟩; have hp3 := HPW.out _ H1.out.2; have hz3 : w.heap.size < w3.heap.size := hp3.box.lt; have hs3 := H1.out.2.size; have hr0 : w3.cell? ⟨w.heap.size, 0, none⟩ = some (.int .i64 x.kind) := cell_of_heap hp3.box.box; have hr1 : w3.cell? ⟨w.heap.size, 1, none⟩ = some (.int .i64 x.key) := cell_of_heap hp3.box.box; have hr2 : w3.cell? ⟨w.heap.size, 2, none⟩ = some (.int .i64 x.id) := cell_of_heap hp3.box.box; have HA3 : Hid (∀ o, EnsOwn (w3.alloc o) W9.heap.size v3 ([] ++ (l.take k)) ∧ Below W9.heap.size W9 (w3.alloc o)) := fun o => ⟨H1.out.1.kept ((Below.refl _ _).alloc (Nat.le_refl _) _), H1.out.2.alloc H1.out.2.size _⟩; clear hO hb))
          go_ret
          exact ⟨_, rfl, by rw [HPT.out]; exact owns_baseC H3.out.1 (by omega), HP.out.box.below.trans (H3.out.2.mono (by omega))⟩
end Go.Proofs.YteajcmkaoahbeaaGreatDoor
