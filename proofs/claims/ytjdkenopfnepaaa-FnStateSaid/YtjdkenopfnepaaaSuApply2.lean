/- StateApply whole, of the specification and of the program. -/
import Derived.Test.YtjdkenopfnepaaaSuApply
namespace Go.Proofs.Ytjdkenopfnepaaa
open Go.RowKit

/-- What StateApply answers: a code, and a row. -/
def saC (xs ds : List En) : Int := if 400 < xs.length ∨ 400 < ds.length then 2 else if rowE false xs = true ∧ rowE true ds = true then 0 else 1
def saL (xs ds : List En) : List En := if 400 < xs.length ∨ 400 < ds.length then [] else if rowE false xs = true ∧ rowE true ds = true then ds.foldl chgE xs else []
theorem sa_big {xs ds : List En} (h : 400 < xs.length ∨ 400 < ds.length) : saC xs ds = 2 ∧ saL xs ds = [] := ⟨if_pos h, if_pos h⟩
theorem sa_bad {xs ds : List En} (h1 : ¬ 400 < xs.length) (h2 : ¬ 400 < ds.length) (h3 : ¬ (rowE false xs = true ∧ rowE true ds = true)) : saC xs ds = 1 ∧ saL xs ds = [] := by
  have h : ¬ (400 < xs.length ∨ 400 < ds.length) := by omega
  unfold saC saL
  rw [if_neg h, if_neg h, if_neg h3, if_neg h3]
  exact ⟨rfl, rfl⟩
theorem sa_ok {xs ds : List En} (h1 : ¬ 400 < xs.length) (h2 : ¬ 400 < ds.length) (h3 : rowE false xs = true) (h4 : rowE true ds = true) : saC xs ds = 0 ∧ saL xs ds = ds.foldl chgE xs := by
  have h : ¬ (400 < xs.length ∨ 400 < ds.length) := by omega
  unfold saC saL
  rw [if_neg h, if_neg h, if_pos ⟨h3, h4⟩, if_pos ⟨h3, h4⟩]
  exact ⟨rfl, rfl⟩
theorem saL_length (xs ds : List En) (h : xs.length + ds.length ≤ 1048576) : (saL xs ds).length ≤ 1048576 := by
  by_cases c : 400 < xs.length ∨ 400 < ds.length
  · rw [(sa_big c).2]
    simp
  · by_cases c2 : rowE false xs = true ∧ rowE true ds = true
    · rw [(sa_ok (by omega) (by omega) c2.1 c2.2).2]
      have := chgs_length ds xs
      omega
    · rw [(sa_bad (by omega) (by omega) c2).2]
      simp
theorem rowE_any {g : Bool} {xs : List En} (h : rowE g xs = true) : ∀ x ∈ xs, EnIn x := by
  simp only [rowE, Bool.and_eq_true] at h
  intro x hx
  have h1 := List.all_eq_true.1 h.2 x hx
  simp only [entB, slotB, Bool.and_eq_true] at h1
  have hk := isB_yes h1.1.1
  have hy := isB_yes h1.1.2
  exact ⟨wf_small ⟨by omega, by omega⟩, wf_small ⟨by omega, by omega⟩⟩
def lookF (xs : List En) : Slots := lookS xs.reverse
theorem rowIs_lookF {xs : List En} (h : riseB xs = true) : RowIs (lookF xs) xs := rowIs_of h
/-- The result's variable, in mid-call. -/
structure RB (w W : World) : Prop where
  below : Below w.heap.size w W
  res : W.heap[w.heap.size]? = some (.cells #[.slice none 0 0, .int .i64 0] 44 (0, 0))
theorem RB.start (w : World) : RB w (w.alloc (.cells #[.slice none 0 0, .int .i64 0] 44)) := ⟨(Below.refl _ _).alloc (Nat.le_refl _) _, (MapKept.heap_alloc w _).1⟩
theorem RB.on {w W W' : World} (h : RB w W) (hb : Below (w.heap.size + 1) W W') : RB w W' := ⟨h.below.trans (hb.mono (by omega)), (hb.block _ (by omega)).trans h.res⟩
theorem RB.lt {w W : World} (h : RB w W) : w.heap.size + 1 ≤ W.heap.size := (Array.getElem?_eq_some_iff.1 h.res).1
theorem SMap.mono {w : World} {b n m : Nat} {f : Slots} (h : SMap w b n f) (hm : n ≤ m) : SMap w b m f := h.elim fun D h => ⟨D, h.1.mono hm, h.2⟩
set_option maxHeartbeats 4000000 in
set_option maxRecDepth 100000 in
theorem stateApply_spec (xs ds : List En) (a d : Option Addr) (cap cd : Nat) (w : World) (h : EnsAt w a xs) (hd : EnsAt w d ds) :
    Calls Try.prog 32 #[.slice a xs.length cap, .slice d ds.length cd] w (OutPost w (saC xs ds) (saL xs ds)) := by
  have hl := h.len
  have hld := hd.len
  have HE : Hid (∀ w', Below w.heap.size w w' → EnsAt w' a xs) := fun w' hb => h.kept hb
  have HDE : Hid (∀ w', Below w.heap.size w w' → EnsAt w' d ds) := fun w' hb => hd.kept hb
  have H0 : Hid (RB w (w.alloc (.cells #[.slice none 0 0, .int .i64 0] 44))) := RB.start w
  clear h hd
  by_cases hb1 : 400 < xs.length
  · have HS : Hid (saC xs ds = 2 ∧ saL xs ds = []) := sa_big (.inl hb1)
    rw [HS.out.1, HS.out.2]
    go_enter Try.func32, Try.ntmps32
    go_wp2
    refine bodyPost_ret (v := .agg #[.slice none 0 0, .int .i64 2]) (by simp [results, Try.results32, go_sem]) rfl ⟨_, rfl, EnsOwn.nil _ _, ?_⟩
    exact (Below.refl _ _).alloc (Nat.le_refl _) _
  have hc1 : decide ((400 : Int) < (xs.length : Int)) = false := decide_eq_false (by omega)
  by_cases hb2 : 400 < ds.length
  · have HS : Hid (saC xs ds = 2 ∧ saL xs ds = []) := sa_big (.inr hb2)
    have hc2 : decide ((400 : Int) < (ds.length : Int)) = true := decide_eq_true (by omega)
    rw [HS.out.1, HS.out.2]
    go_enter Try.func32, Try.ntmps32
    go_wp2
    refine bodyPost_ret (v := .agg #[.slice none 0 0, .int .i64 2]) (by simp [results, Try.results32, go_sem]) rfl ⟨_, rfl, EnsOwn.nil _ _, ?_⟩
    exact (Below.refl _ _).alloc (Nat.le_refl _) _
  have hc2 : decide ((400 : Int) < (ds.length : Int)) = false := decide_eq_false (by omega)
  have HST := state_spec_ xs a cap _ (HE.out _ H0.out.below)
  cases hr : rowE false xs
  · have HS : Hid (saC xs ds = 1 ∧ saL xs ds = []) := sa_bad hb1 hb2 (by rw [hr]; simp)
    rw [HS.out.1, HS.out.2]
    go_enter Try.func32, Try.ntmps32
    go_wp2_with fail
    refine HST.mono ?_
    rintro e w1 ⟨rfl, hbb1⟩
    rw [hr]
    have H1 : Hid (RB w w1) := H0.out.on (hbb1.mono (by simp))
    have hq0 : w1.cell? ⟨w.heap.size, 0, none⟩ = some (.slice none 0 0) := cell_of_heap H1.out.res
    have hq1 : w1.cell? ⟨w.heap.size, 1, none⟩ = some (.int .i64 0) := cell_of_heap H1.out.res
    have hf : ∀ q, w1.frozen? ⟨w.heap.size, q, none⟩ = false := fun q => frozen_of_heap H1.out.res
    clear hbb1 HST
    go_wp2
    refine bodyPost_ret (v := .agg #[.slice none 0 0, .int .i64 1]) (by simp [results, Try.results32, go_sem, hq0, hq1]) rfl ⟨_, rfl, EnsOwn.nil _ _, ?_⟩
    exact (H1.out.below.setCell (by simp) _).setCell (by simp) _
  · cases hr2 : rowE true ds
    · have HS : Hid (saC xs ds = 1 ∧ saL xs ds = []) := sa_bad hb1 hb2 (by rw [hr2]; simp)
      rw [HS.out.1, HS.out.2]
      go_enter Try.func32, Try.ntmps32
      go_wp2_with fail
      refine HST.mono ?_
      rintro e w1 ⟨rfl, hbb1⟩
      rw [hr]
      have H1 : Hid (RB w w1) := H0.out.on (hbb1.mono (by simp))
      clear hbb1 HST
      go_wp2_with fail
      refine (srow_spec true ds d cd w1 (HDE.out _ H1.out.below)).mono ?_
      rintro e w2 ⟨rfl, hbb2⟩
      rw [hr2]
      have H2 : Hid (RB w w2) := H1.out.on (hbb2.mono H1.out.lt)
      have hq0 : w2.cell? ⟨w.heap.size, 0, none⟩ = some (.slice none 0 0) := cell_of_heap H2.out.res
      have hq1 : w2.cell? ⟨w.heap.size, 1, none⟩ = some (.int .i64 0) := cell_of_heap H2.out.res
      have hf : ∀ q, w2.frozen? ⟨w.heap.size, q, none⟩ = false := fun q => frozen_of_heap H2.out.res
      clear hbb2
      go_wp2
      refine bodyPost_ret (v := .agg #[.slice none 0 0, .int .i64 1]) (by simp [results, Try.results32, go_sem, hq0, hq1]) rfl ⟨_, rfl, EnsOwn.nil _ _, ?_⟩
      exact (H2.out.below.setCell (by simp) _).setCell (by simp) _
    · have HS : Hid (saC xs ds = 0 ∧ saL xs ds = ds.foldl chgE xs) := sa_ok hb1 hb2 hr hr2
      rw [HS.out.1, HS.out.2]
      go_enter Try.func32, Try.ntmps32
      go_wp2_with fail
      refine HST.mono ?_
      rintro e w1 ⟨rfl, hbb1⟩
      rw [hr]
      have H1 : Hid (RB w w1) := H0.out.on (hbb1.mono (by simp))
      clear hbb1 HST
      go_wp2_with fail
      refine (srow_spec true ds d cd w1 (HDE.out _ H1.out.below)).mono ?_
      rintro e w2 ⟨rfl, hbb2⟩
      rw [hr2]
      have H2 : Hid (RB w w2) := H1.out.on (hbb2.mono H1.out.lt)
      clear hbb2
      go_wp2_with fail
      refine (apply_spec xs ds a d cap cd w2 (HE.out _ H2.out.below) (HDE.out _ H2.out.below) (by omega)).mono ?_
      rintro e w3 ⟨v, rfl, ho3, hbb3⟩
      have H3 : Hid (RB w w3) := H2.out.on (hbb3.mono H2.out.lt)
      have hz2 := H2.out.lt
      have HO3 : Hid (EnsOwn w3 (w.heap.size + 1) v (ds.foldl chgE xs)) := owns_baseC ho3 hz2
      have hq0 : w3.cell? ⟨w.heap.size, 0, none⟩ = some (.slice none 0 0) := cell_of_heap H3.out.res
      have hq1 : w3.cell? ⟨w.heap.size, 1, none⟩ = some (.int .i64 0) := cell_of_heap H3.out.res
      have hf : ∀ q, w3.frozen? ⟨w.heap.size, q, none⟩ = false := fun q => frozen_of_heap H3.out.res
      obtain ⟨a3, c3, rfl, -, -, -⟩ := ho3.at (by have := chgs_length ds xs; omega)
      clear hbb3 ho3
      go_wp2
      refine bodyPost_ret (v := .agg #[.slice a3 (ds.foldl chgE xs).length c3, .int .i64 0]) (by simp [results, Try.results32, go_sem, hq0, hq1]) rfl ⟨_, rfl, owns_baseC ((HO3.out.setCell (by omega)).setCell (by omega)) (by omega), ?_⟩
      exact (H3.out.below.setCell (by simp) _).setCell (by simp) _
set_option maxHeartbeats 4000000 in
set_option maxRecDepth 100000 in
theorem stateApply_impl (xs ds : List En) (a d : Option Addr) (cap cd : Nat) (w : World) (h : EnsAt w a xs) (hd : EnsAt w d ds) :
    Calls Try.prog 31 #[.slice a xs.length cap, .slice d ds.length cd] w (OutPost w (saC xs ds) (saL xs ds)) := by
  have hl := h.len
  have hld := hd.len
  have HE : Hid (∀ w', Below w.heap.size w w' → EnsAt w' a xs) := fun w' hb => h.kept hb
  have HDE : Hid (∀ w', Below w.heap.size w w' → EnsAt w' d ds) := fun w' hb => hd.kept hb
  have H0 : Hid (RB w (w.alloc (.cells #[.slice none 0 0, .int .i64 0] 44))) := RB.start w
  clear h hd
  by_cases hb1 : 400 < xs.length
  · have HS : Hid (saC xs ds = 2 ∧ saL xs ds = []) := sa_big (.inl hb1)
    rw [HS.out.1, HS.out.2]
    go_enter Try.func31, Try.ntmps31
    go_wp2
    refine bodyPost_ret (v := .agg #[.slice none 0 0, .int .i64 2]) (by simp [results, Try.results31, go_sem]) rfl ⟨_, rfl, EnsOwn.nil _ _, ?_⟩
    exact (Below.refl _ _).alloc (Nat.le_refl _) _
  have hc1 : decide ((400 : Int) < (xs.length : Int)) = false := decide_eq_false (by omega)
  by_cases hb2 : 400 < ds.length
  · have HS : Hid (saC xs ds = 2 ∧ saL xs ds = []) := sa_big (.inr hb2)
    have hc2 : decide ((400 : Int) < (ds.length : Int)) = true := decide_eq_true (by omega)
    rw [HS.out.1, HS.out.2]
    go_enter Try.func31, Try.ntmps31
    go_wp2
    refine bodyPost_ret (v := .agg #[.slice none 0 0, .int .i64 2]) (by simp [results, Try.results31, go_sem]) rfl ⟨_, rfl, EnsOwn.nil _ _, ?_⟩
    exact (Below.refl _ _).alloc (Nat.le_refl _) _
  have hc2 : decide ((400 : Int) < (ds.length : Int)) = false := decide_eq_false (by omega)
  have HST := standing_impl xs a cap _ (HE.out _ H0.out.below)
  cases hr : rowE false xs
  · have HS : Hid (saC xs ds = 1 ∧ saL xs ds = []) := sa_bad hb1 hb2 (by rw [hr]; simp)
    rw [HS.out.1, HS.out.2]
    go_enter Try.func31, Try.ntmps31
    go_wp2_with fail
    refine HST.mono ?_
    rintro e w1 (⟨_, rfl, hbb1⟩ | ⟨h1, _⟩)
    · have H1 : Hid (RB w w1) := H0.out.on (hbb1.mono (by simp))
      have hq0 : w1.cell? ⟨w.heap.size, 0, none⟩ = some (.slice none 0 0) := cell_of_heap H1.out.res
      have hq1 : w1.cell? ⟨w.heap.size, 1, none⟩ = some (.int .i64 0) := cell_of_heap H1.out.res
      have hf : ∀ q, w1.frozen? ⟨w.heap.size, q, none⟩ = false := fun q => frozen_of_heap H1.out.res
      clear hbb1 HST
      go_wp2
      refine bodyPost_ret (v := .agg #[.slice none 0 0, .int .i64 1]) (by simp [results, Try.results31, go_sem, hq0, hq1]) rfl ⟨_, rfl, EnsOwn.nil _ _, ?_⟩
      exact (H1.out.below.setCell (by simp) _).setCell (by simp) _
    · rw [hr] at h1
      cases h1
  · have HRI : Hid (xs.length ≤ 400 ∧ riseB xs = true ∧ ∀ x ∈ xs, EnIn x ∧ (x.id == 0) = false) := rowE_in hr
    cases hr2 : rowE true ds
    · have HS : Hid (saC xs ds = 1 ∧ saL xs ds = []) := sa_bad hb1 hb2 (by rw [hr2]; simp)
      rw [HS.out.1, HS.out.2]
      go_enter Try.func31, Try.ntmps31
      go_wp2_with fail
      refine HST.mono ?_
      rintro e w1 (⟨h1, _⟩ | ⟨_, b, rfl, hbn, hown, hbb1⟩)
      · rw [hr] at h1
        cases h1
      · have H1 : Hid (RB w w1) := H0.out.on (hbb1.mono (by simp))
        clear hbb1 HST hown
        go_wp2_with fail
        refine (entries_change ds d cd w1 (HDE.out _ H1.out.below)).mono ?_
        rintro e w2 ⟨rfl, hbb2⟩
        rw [hr2]
        have H2 : Hid (RB w w2) := H1.out.on (hbb2.mono H1.out.lt)
        have hq0 : w2.cell? ⟨w.heap.size, 0, none⟩ = some (.slice none 0 0) := cell_of_heap H2.out.res
        have hq1 : w2.cell? ⟨w.heap.size, 1, none⟩ = some (.int .i64 0) := cell_of_heap H2.out.res
        have hf : ∀ q, w2.frozen? ⟨w.heap.size, q, none⟩ = false := fun q => frozen_of_heap H2.out.res
        clear hbb2
        go_wp2
        refine bodyPost_ret (v := .agg #[.slice none 0 0, .int .i64 1]) (by simp [results, Try.results31, go_sem, hq0, hq1]) rfl ⟨_, rfl, EnsOwn.nil _ _, ?_⟩
        exact (H2.out.below.setCell (by simp) _).setCell (by simp) _
    · have HS : Hid (saC xs ds = 0 ∧ saL xs ds = ds.foldl chgE xs) := sa_ok hb1 hb2 hr hr2
      have HDI : Hid (∀ x ∈ ds, EnIn x) := rowE_any hr2
      rw [HS.out.1, HS.out.2]
      go_enter Try.func31, Try.ntmps31
      go_wp2_with fail
      refine HST.mono ?_
      rintro e w1 (⟨h1, _⟩ | ⟨_, b, rfl, hbn, hown, hbb1⟩)
      · rw [hr] at h1
        cases h1
      · have H1 : Hid (RB w w1) := H0.out.on (hbb1.mono (by simp))
        have HM1 : Hid (SMap w1 b xs.length (lookF xs)) := ⟨_, hown, mapIs_putS fun u hu => (HRI.out.2.2 u (by simpa using hu)).1⟩
        have hbw : w.heap.size + 1 ≤ b := by simpa using hbn
        clear hbb1 HST hown hbn
        go_wp2_with fail
        refine (entries_change ds d cd w1 (HDE.out _ H1.out.below)).mono ?_
        rintro e w2 ⟨rfl, hbb2⟩
        rw [hr2]
        have H2 : Hid (RB w w2 ∧ SMap w2 b xs.length (lookF xs)) := ⟨H1.out.on (hbb2.mono H1.out.lt), HM1.out.kept hbb2⟩
        clear hbb2 HM1 H1
        go_wp2
        go_loopw [8, 33] (fun _ i wr => ∃ k : Nat, k ≤ ds.length ∧ i = .int .i64 k ∧ Hid (RB w wr ∧ SMap wr b (xs.length + k) ((ds.take k).foldl chgF (lookF xs)))) (fun _ i _ => ds.length - (intOf i).toNat)
        case atStart => exact ⟨0, Nat.zero_le _, rfl, H2⟩
        case round =>
          clear H2
          obtain ⟨k, hk, rfl, HI⟩ := hrel
          by_cases hlt : k < ds.length
          · obtain ⟨b2, off, rfl, hb2b, hcell⟩ := (HDE.out _ HI.out.1.below).row (by omega)
            have hc0 : wr.cell? ⟨b2, off + k * 3, none⟩ = some (.int .i64 ds[k].kind) := hcell k hlt 0 (by omega)
            have hc1' : wr.cell? ⟨b2, off + k * 3 + 1, none⟩ = some (.int .i64 ds[k].key) := by
              have := hcell k hlt 1 (by omega)
              rwa [← Nat.add_assoc] at this
            have hc2' : wr.cell? ⟨b2, off + k * 3 + 2, none⟩ = some (.int .i64 ds[k].id) := by
              have := hcell k hlt 2 (by omega)
              rwa [← Nat.add_assoc] at this
            have hin := HDI.out _ (List.getElem_mem hlt)
            have HSA : Hid (∀ o, SMap (wr.alloc o) b (xs.length + k) ((ds.take k).foldl chgF (lookF xs))) := fun o => HI.out.2.kept ((Below.refl _ _).alloc (Nat.le_refl _) o)
            have HRA : Hid (∀ o, RB w (wr.alloc o)) := fun o => HI.out.1.on ((Below.refl _ _).alloc HI.out.1.lt o)
            have HPC : Hid (∀ o, Calls Try.prog 77 #[.map (some b), .agg #[.int .i64 ds[k].kind, .int .i64 ds[k].key, .int .i64 ds[k].id]] (wr.alloc o) fun e w' => e = .returned (.tuple #[]) ∧ SMap w' b (xs.length + (k + 1)) ((ds.take (k + 1)).foldl chgF (lookF xs)) ∧ (wr.alloc o).grownBy w' (some b)) := fun o => by
              rw [chg_take hlt]
              cases hid : (ds[k].id == 0)
              · have e1 : chgF ((ds.take k).foldl chgF (lookF xs)) ds[k] = upd ((ds.take k).foldl chgF (lookF xs)) ds[k] (some ds[k].id) := by unfold chgF; rw [if_neg (by simpa using hid)]
                rw [e1]
                exact smap_put ds[k] _ b (xs.length + k) _ (HSA.out o) (by unfold maxLen; omega) hin hid
              · have e1 : chgF ((ds.take k).foldl chgF (lookF xs)) ds[k] = upd ((ds.take k).foldl chgF (lookF xs)) ds[k] none := by unfold chgF; rw [if_pos (by simpa using hid)]
                rw [e1]
                refine (smap_del ds[k] _ b _ _ (HSA.out o) hin hid).mono ?_
                rintro e w' ⟨rfl, h1, h2⟩
                exact ⟨rfl, h1.mono (by omega), h2⟩
            clear hcell hin
            go_wp2_with fail
            refine (HPC.out _).mono ?_
            rintro e w3 ⟨rfl, hm3, hg3⟩
            have H3 : Hid (RB w w3 ∧ SMap w3 b (xs.length + (k + 1)) ((ds.take (k + 1)).foldl chgF (lookF xs))) := ⟨(HRA.out _).on ((Below.refl _ _).grown hg3 (by have := HI.out.1.lt; simp; omega) (fun q e => by cases e; exact hbw)), hm3⟩
            clear hm3 hg3
            go_wp2
            go_roundw
            case rel => exact ⟨k + 1, by omega, by go_num, H3⟩
            case measure => simp [intOf]; omega
          · have HF : Hid (SMap wr b (xs.length + ds.length) (ds.foldl chgF (lookF xs))) := by
              have e : k = ds.length := by omega
              have h1 := HI.out.2
              rw [e, List.take_length] at h1
              exact h1
            have HR3 := row_of_impl _ b _ wr HF.out (by omega)
            go_wp2_with fail
            refine HR3.mono ?_
            rintro e w4 ⟨v, zs, rfl, hz, ho4, hln4, hb4⟩
            obtain rfl : zs = ds.foldl chgE xs := hz.uniq (rowIs_lookF HRI.out.2.1).chgs
            have H4 : Hid (RB w w4) := HI.out.1.on (hb4.mono HI.out.1.lt)
            have hz3 := HI.out.1.lt
            have HO4 : Hid (EnsOwn w4 (w.heap.size + 1) v (ds.foldl chgE xs)) := owns_baseC ho4 hz3
            have hq0 : w4.cell? ⟨w.heap.size, 0, none⟩ = some (.slice none 0 0) := cell_of_heap H4.out.res
            have hq1 : w4.cell? ⟨w.heap.size, 1, none⟩ = some (.int .i64 0) := cell_of_heap H4.out.res
            have hf : ∀ q, w4.frozen? ⟨w.heap.size, q, none⟩ = false := fun q => frozen_of_heap H4.out.res
            obtain ⟨a3, c3, rfl, -, -, -⟩ := ho4.at (by omega)
            clear hb4 ho4 HR3 hz
            go_wp2
            refine bodyPost_ret (v := .agg #[.slice a3 (ds.foldl chgE xs).length c3, .int .i64 0]) (by simp [results, Try.results31, go_sem, hq0, hq1]) rfl ⟨_, rfl, owns_baseC ((HO4.out.setCell (by omega)).setCell (by omega)) (by omega), ?_⟩
            exact (H4.out.below.setCell (by simp) _).setCell (by simp) _
end Go.Proofs.Ytjdkenopfnepaaa
