/- The law on states, walked. -/
import Derived.Test.YtjdkenopfnepaaaFsPlain
import Derived.Test.YtjdkenopfnepaaaFsDraw3
import Derived.Test.YtjdkenopfnepaaaFsCmp
import Derived.Test.YtjdkenopfnepaaaStWalk
import Derived.Deep.RegionHeld3
import Derived.Deep.DeepCutAuto
namespace Go.Proofs.Ytjdkenopfnepaaa
open Go.RowKit

/-- What the law holds: objects at blocks, and rows. -/
structure FL (w : World) (bx : List (Nat × Obj)) (l : List (Option Addr × List En)) (V : World) : Prop where
  below : Below w.heap.size w V
  box : ∀ p ∈ bx, V.heap[p.1]? = some p.2
  row : ∀ p ∈ l, EnsAt V p.1 p.2
theorem FL.on {w : World} {bx : List (Nat × Obj)} {l : List (Option Addr × List En)} {V V' : World} (h : FL w bx l V) (hb : Below V.heap.size V V') : FL w bx l V' :=
  ⟨h.below.trans (hb.mono h.below.size), fun p hp => (hb.block _ (Array.getElem?_eq_some_iff.1 (h.box p hp)).1).trans (h.box p hp), fun p hp => (h.row p hp).kept hb⟩
theorem FL.add {w : World} {bx : List (Nat × Obj)} {l : List (Option Addr × List En)} {V : World} (h : FL w bx l V) {a : Option Addr} {xs : List En} (hr : EnsAt V a xs) : FL w bx ((a, xs) :: l) V :=
  ⟨h.below, h.box, fun p hp => by
    rcases List.mem_cons.1 hp with rfl | hp
    · exact hr
    · exact h.row p hp⟩
theorem FL.addBox {w : World} {bx : List (Nat × Obj)} {l : List (Option Addr × List En)} {V : World} (h : FL w bx l V) (o : Obj) : FL w ((V.heap.size, o) :: bx) l (V.alloc o) := by
  have h2 := h.on ((Below.refl V.heap.size V).alloc (Nat.le_refl _) o)
  refine ⟨h2.below, fun p hp => ?_, h2.row⟩
  rcases List.mem_cons.1 hp with rfl | hp
  · exact (MapKept.heap_alloc V o).1
  · exact h2.box p hp
theorem FL.drew {w : World} {bx : List (Nat × Obj)} {l : List (Option Addr × List En)} {V : World} (h : FL w bx l V) : FL w bx l V.drew := h.on (Below.refl _ _).drew
theorem FL.drewN {w : World} {bx : List (Nat × Obj)} {l : List (Option Addr × List En)} {V : World} (h : FL w bx l V) (n : Nat) : FL w bx l (V.drewN n) := h.on (below_drewN8 (Below.refl _ _) n)
theorem FL.one {w : World} {V : World} (hb : Below w.heap.size w V) {a : Option Addr} {xs : List En} (hr : EnsAt V a xs) : FL w [] [(a, xs)] V :=
  ⟨hb, fun _ h => absurd h (by simp), fun p hp => by
    rcases List.mem_cons.1 hp with rfl | hp
    · exact hr
    · exact absurd hp (by simp)⟩
theorem FL.cells {w : World} {l : List (Option Addr × List En)} {V : World} {b2 b1 : Nat} {c2 c1 : Array Value} {t2 t1 : TypeId} (h : FL w [(b2, .cells c2 t2 (0, 0)), (b1, .cells c1 t1 (0, 0))] l V) : (∀ k, V.cell? ⟨b2, k, none⟩ = c2[k]?) ∧ ∀ k, V.cell? ⟨b1, k, none⟩ = c1[k]? :=
  ⟨fun _ => cell_of_heap (h.box (b2, .cells c2 t2 (0, 0)) (by simp)), fun _ => cell_of_heap (h.box (b1, .cells c1 t1 (0, 0)) (by simp))⟩
theorem code_on {w w' : World} {a : Option Addr} {len : Nat} (h : CodeAt w w.heap.size a len) (hb : Below w.heap.size w w') : CodeAt w' w'.heap.size a len := (h.kept hb).mono hb.size

set_option maxHeartbeats 8000000 in
set_option maxRecDepth 100000 in
theorem state_law_small (a0 a1 : Option Addr) (len0 cap0 len1 cap1 : Nat) (w : World) (h0 : CodeAt w w.heap.size a0 len0) (h1 : CodeAt w w.heap.size a1 len1) :
    Calls Try.prog 4 #[.slice a0 len0 cap0, .slice a1 len1 cap1] w fun e w' => e = .returned (.bool true) ∧ Below w.heap.size w w' := by
  have hl0 := h0.1
  have hl1 := h1.1
  have H0 : Hid (CodeAt w w.heap.size a0 len0 ∧ CodeAt w w.heap.size a1 len1) := ⟨h0, h1⟩
  clear h0 h1
  have b0 : decide (1048576 < (len0 : Int)) = false := by simp; omega
  have b1 : decide (1048576 < (len1 : Int)) = false := by simp; omega
  go_enter Try.func4, Try.ntmps4
  go_wp2_with fail
  refine (draw_statePut a0 len0 cap0 _ H0.out.1).mono ?_
  rintro e w1 ⟨a5, c5, xs, x, rfl, hE, hlx, hsm, hx, hb⟩
  have HSM : Hid ((∀ e ∈ xs, EnD e) ∧ EnD x) := ⟨hsm, hx⟩
  have HC1 : Hid (∀ o, CodeAt (w1.alloc o) (w1.alloc o).heap.size a0 len0 ∧ CodeAt (w1.alloc o) (w1.alloc o).heap.size a1 len1) := fun o => ⟨code_on (code_on H0.out.1 hb) ((Below.refl _ _).alloc (Nat.le_refl _) _), code_on (code_on H0.out.2 hb) ((Below.refl _ _).alloc (Nat.le_refl _) _)⟩
  have HF1 : Hid (FL w [(w1.heap.size, .cells #[.int .i64 x.kind, .int .i64 x.key, .int .i64 x.id] 40 (0, 0))] [(a5, xs)] (w1.alloc (.cells #[.int .i64 x.kind, .int .i64 x.key, .int .i64 x.id] 40))) := by
    have hz : FL w [] [(a5, xs)] w1 := FL.one hb hE
    exact hz.addBox _
  clear hE hsm hx hb
  go_wp2_with fail
  refine (statePut_impl xs x a5 c5 _ (HF1.out.row (a5, xs) (by simp))).mono ?_
  rintro e w2 ⟨v7, rfl, ho7, hb7⟩
  have hl7 := sp_len xs x
  obtain ⟨a7, c7, rfl, -, hE7, -⟩ := ho7.at (by omega)
  have HC2 : Hid (∀ o, CodeAt (w2.alloc o) (w2.alloc o).heap.size a0 len0 ∧ CodeAt (w2.alloc o) (w2.alloc o).heap.size a1 len1) := fun o => ⟨code_on (code_on (HC1.out _).1 hb7) ((Below.refl _ _).alloc (Nat.le_refl _) _), code_on (code_on (HC1.out _).2 hb7) ((Below.refl _ _).alloc (Nat.le_refl _) _)⟩
  have HF2 : Hid (FL w [(w2.heap.size, .cells #[.slice a7 (spL xs x).length c7, .int .i64 (spC xs x)] 44 (0, 0)), (w1.heap.size, .cells #[.int .i64 x.kind, .int .i64 x.key, .int .i64 x.id] 40 (0, 0))] [(a7, spL xs x), (a5, xs)] (w2.alloc (.cells #[.slice a7 (spL xs x).length c7, .int .i64 (spC xs x)] 44))) := ((HF1.out.on hb7).add hE7).addBox _
  clear ho7 hE7 hb7 HC1 HF1
  go_wp2_with fail
  refine (draw_stateDiff a1 len1 cap1 _ (HC2.out _).2).mono ?_
  rintro e w3 ⟨a8, c8, us, a9, c9, bs, rfl, hE8, hE9, hl8, hl9, hb⟩
  have HC3 : Hid (CodeAt w3 w3.heap.size a0 len0 ∧ CodeAt w3 w3.heap.size a1 len1) := ⟨code_on (HC2.out _).1 hb, code_on (HC2.out _).2 hb⟩
  have HF3 : Hid (FL w [(w2.heap.size, .cells #[.slice a7 (spL xs x).length c7, .int .i64 (spC xs x)] 44 (0, 0)), (w1.heap.size, .cells #[.int .i64 x.kind, .int .i64 x.key, .int .i64 x.id] 40 (0, 0))] [(a9, bs), (a8, us), (a7, spL xs x), (a5, xs)] w3) := ((HF2.out.on hb).add hE8).add hE9
  clear hE8 hE9 hb HC2 HF2
  go_wp2_with fail
  refine (stateDiff_impl us bs a8 a9 c8 c9 w3 (HF3.out.row (a8, us) (by simp)) (HF3.out.row (a9, bs) (by simp))).mono ?_
  rintro e w4 ⟨v10, rfl, ho10, hb10⟩
  have hl10 := sd_len us bs
  obtain ⟨a10, c10, rfl, -, hE10, -⟩ := ho10.at (by omega)
  have HC4 : Hid (CodeAt w4 w4.heap.size a0 len0 ∧ CodeAt w4 w4.heap.size a1 len1) := ⟨code_on HC3.out.1 hb10, code_on HC3.out.2 hb10⟩
  have HF4 : Hid (FL w [(w2.heap.size, .cells #[.slice a7 (spL xs x).length c7, .int .i64 (spC xs x)] 44 (0, 0)), (w1.heap.size, .cells #[.int .i64 x.kind, .int .i64 x.key, .int .i64 x.id] 40 (0, 0))] [(a10, sdL us bs), (a9, bs), (a8, us), (a7, spL xs x), (a5, xs)] w4) := (HF3.out.on hb10).add hE10
  clear ho10 hE10 hb10 HC3 HF3
  go_wp2_with fail
  refine (draw_stateApply a0 len0 cap0 _ HC4.out.1).mono ?_
  rintro e w5 ⟨a11, c11, cs, a12, c12, ds, rfl, hE11, hE12, hl11, hl12, hb⟩
  have HC5 : Hid (CodeAt w5 w5.heap.size a1 len1) := code_on HC4.out.2 hb
  have HF5 : Hid (FL w [(w2.heap.size, .cells #[.slice a7 (spL xs x).length c7, .int .i64 (spC xs x)] 44 (0, 0)), (w1.heap.size, .cells #[.int .i64 x.kind, .int .i64 x.key, .int .i64 x.id] 40 (0, 0))] [(a12, ds), (a11, cs), (a10, sdL us bs), (a9, bs), (a8, us), (a7, spL xs x), (a5, xs)] w5) := ((HF4.out.on hb).add hE11).add hE12
  clear hE11 hE12 hb HC4 HF4
  go_wp2_with fail
  refine (draw_stateAt a1 len1 cap1 _ HC5.out).mono ?_
  rintro e w6 ⟨a13, c13, ls, k13, y13, rfl, hE13, hl13, hk13, hy13, hb⟩
  have HK : Hid ((Lit.int .i64 k13).wf = true ∧ (Lit.int .i64 y13).wf = true) := ⟨hk13, hy13⟩
  have HF6 : Hid (FL w [(w2.heap.size, .cells #[.slice a7 (spL xs x).length c7, .int .i64 (spC xs x)] 44 (0, 0)), (w1.heap.size, .cells #[.int .i64 x.kind, .int .i64 x.key, .int .i64 x.id] 40 (0, 0))] [(a13, ls), (a12, ds), (a11, cs), (a10, sdL us bs), (a9, bs), (a8, us), (a7, spL xs x), (a5, xs)] w6) := (HF5.out.on hb).add hE13
  clear hE13 hb HC5 HF5 hk13 hy13 H0
  obtain ⟨LC, HLC⟩ : ∃ n : Int, Hid (n = spC xs x) := ⟨spC xs x, (rfl : spC xs x = _)⟩
  have hsa := sa_len cs ds
  have hsa2 := sa_len us (sdL us bs)
  go_wp2_with fail
  go_cut [93] (fun s W => s = .bool false ∧ Hid (FL w [(w2.heap.size, .cells #[.slice a7 (spL xs x).length c7, .int .i64 (spC xs x)] 44 (0, 0)), (w1.heap.size, .cells #[.int .i64 x.kind, .int .i64 x.key, .int .i64 x.id] 40 (0, 0))] [(a13, ls), (a12, ds), (a11, cs), (a10, sdL us bs), (a9, bs), (a8, us), (a7, spL xs x), (a5, xs)] W))
  case first =>
    go_region_held3 (fun W => (∀ k, W.cell? ⟨w2.heap.size, k, none⟩ = #[.slice a7 (spL xs x).length c7, .int .i64 (spC xs x)][k]?) ∧ (∀ k, W.cell? ⟨w1.heap.size, k, none⟩ = #[.int .i64 x.kind, .int .i64 x.key, .int .i64 x.id][k]?)) (first | exact FL.cells HF17.out | exact FL.cells HF16.out | exact FL.cells HF15.out | exact FL.cells HF14.out | exact FL.cells HF13.out | exact FL.cells HF12.out | exact FL.cells HF11.out | exact FL.cells HF10.out | exact FL.cells HF9.out | exact FL.cells HF8.out | exact FL.cells HF7.out | exact FL.cells HF6.out.drew) (first
      | (go_at_call 36; refine (state_spec_ xs a5 c5 _ (HF16.out.row (a5, xs) (by simp))).mono ?_; rintro e w17 ⟨rfl, hb17⟩; have HF17 : Hid (FL w [(w2.heap.size, .cells #[.slice a7 (spL xs x).length c7, .int .i64 (spC xs x)] 44 (0, 0)), (w1.heap.size, .cells #[.int .i64 x.kind, .int .i64 x.key, .int .i64 x.id] 40 (0, 0))] [(a13, ls), (a12, ds), (a11, cs), (a10, sdL us bs), (a9, bs), (a8, us), (a7, spL xs x), (a5, xs)] w17) := HF16.out.on hb17; clear hb17)
      | (go_at_call 35; refine (state_impl xs a5 c5 _ (HF15.out.row (a5, xs) (by simp))).mono ?_; rintro e w16 ⟨rfl, hb16⟩; have HF16 : Hid (FL w [(w2.heap.size, .cells #[.slice a7 (spL xs x).length c7, .int .i64 (spC xs x)] 44 (0, 0)), (w1.heap.size, .cells #[.int .i64 x.kind, .int .i64 x.key, .int .i64 x.id] 40 (0, 0))] [(a13, ls), (a12, ds), (a11, cs), (a10, sdL us bs), (a9, bs), (a8, us), (a7, spL xs x), (a5, xs)] w16) := HF15.out.on hb16; clear hb16)
      | (go_at_call 34; refine (stateAt_spec ls k13 y13 a13 c13 _ (HF14.out.row (a13, ls) (by simp))).mono ?_; rintro e w15 ⟨rfl, hb15⟩; have HF15 : Hid (FL w [(w2.heap.size, .cells #[.slice a7 (spL xs x).length c7, .int .i64 (spC xs x)] 44 (0, 0)), (w1.heap.size, .cells #[.int .i64 x.kind, .int .i64 x.key, .int .i64 x.id] 40 (0, 0))] [(a13, ls), (a12, ds), (a11, cs), (a10, sdL us bs), (a9, bs), (a8, us), (a7, spL xs x), (a5, xs)] w15) := HF14.out.on hb15; clear hb15)
      | (go_at_call 33; refine (stateAt_impl ls k13 y13 HK.out.1 HK.out.2 a13 c13 _ (HF13.out.row (a13, ls) (by simp))).mono ?_; rintro e w14 ⟨rfl, hb14⟩; have HF14 : Hid (FL w [(w2.heap.size, .cells #[.slice a7 (spL xs x).length c7, .int .i64 (spC xs x)] 44 (0, 0)), (w1.heap.size, .cells #[.int .i64 x.kind, .int .i64 x.key, .int .i64 x.id] 40 (0, 0))] [(a13, ls), (a12, ds), (a11, cs), (a10, sdL us bs), (a9, bs), (a8, us), (a7, spL xs x), (a5, xs)] w14) := HF13.out.on hb14; clear hb14)
      | (go_at_call 27; refine (lw_states (saL cs ds) (saC cs ds) va vb ca cb _ HV12.out.1 HV12.out.2 (fun h => sa_right (by omega) h)).mono ?_; rintro e w13 ⟨rfl, hb13⟩; have HF13 : Hid (FL w [(w2.heap.size, .cells #[.slice a7 (spL xs x).length c7, .int .i64 (spC xs x)] 44 (0, 0)), (w1.heap.size, .cells #[.int .i64 x.kind, .int .i64 x.key, .int .i64 x.id] 40 (0, 0))] [(a13, ls), (a12, ds), (a11, cs), (a10, sdL us bs), (a9, bs), (a8, us), (a7, spL xs x), (a5, xs)] w13) := HF12.out.on hb13; clear hb13)
      | (go_at_call 32; refine (stateApply_spec cs ds a11 a12 c11 c12 _ (HF11.out.row (a11, cs) (by simp)) (HF11.out.row (a12, ds) (by simp))).mono ?_; rintro e w12 ⟨v12, rfl, ho12, hb12⟩; obtain ⟨vb, cb, rfl, -, hEb, -⟩ := ho12.at (by omega); have HF12 : Hid (FL w [(w2.heap.size, .cells #[.slice a7 (spL xs x).length c7, .int .i64 (spC xs x)] 44 (0, 0)), (w1.heap.size, .cells #[.int .i64 x.kind, .int .i64 x.key, .int .i64 x.id] 40 (0, 0))] [(a13, ls), (a12, ds), (a11, cs), (a10, sdL us bs), (a9, bs), (a8, us), (a7, spL xs x), (a5, xs)] w12) := HF11.out.on hb12; have HV12 : Hid (EnsAt w12 va (saL cs ds) ∧ EnsAt w12 vb (saL cs ds)) := ⟨HV11.out.kept hb12, hEb⟩; clear hb12 ho12 hEb)
      | (go_at_call 31; refine (stateApply_impl cs ds a11 a12 c11 c12 _ (HF10.out.row (a11, cs) (by simp)) (HF10.out.row (a12, ds) (by simp))).mono ?_; rintro e w11 ⟨v11, rfl, ho11, hb11⟩; obtain ⟨va, ca, rfl, -, hEa, -⟩ := ho11.at (by omega); have HF11 : Hid (FL w [(w2.heap.size, .cells #[.slice a7 (spL xs x).length c7, .int .i64 (spC xs x)] 44 (0, 0)), (w1.heap.size, .cells #[.int .i64 x.kind, .int .i64 x.key, .int .i64 x.id] 40 (0, 0))] [(a13, ls), (a12, ds), (a11, cs), (a10, sdL us bs), (a9, bs), (a8, us), (a7, spL xs x), (a5, xs)] w11) := HF10.out.on hb11; have HV11 : Hid (EnsAt w11 va (saL cs ds)) := hEa; clear hb11 ho11 hEa)
      | (go_at_call 29; refine (lw_state (sdL us bs) a10 vd c10 cd _ (HF9.out.row (a10, sdL us bs) (by simp)) HV9.out).mono ?_; rintro e w10 ⟨rfl, hb10⟩; have HF10 : Hid (FL w [(w2.heap.size, .cells #[.slice a7 (spL xs x).length c7, .int .i64 (spC xs x)] 44 (0, 0)), (w1.heap.size, .cells #[.int .i64 x.kind, .int .i64 x.key, .int .i64 x.id] 40 (0, 0))] [(a13, ls), (a12, ds), (a11, cs), (a10, sdL us bs), (a9, bs), (a8, us), (a7, spL xs x), (a5, xs)] w10) := HF9.out.on hb10; clear hb10)
      | (go_at_call 30; refine (stateDiff_spec us bs a8 a9 c8 c9 _ (HF8.out.row (a8, us) (by simp)) (HF8.out.row (a9, bs) (by simp))).mono ?_; rintro e w9 ⟨v9, rfl, ho9, hb9⟩; obtain ⟨vd, cd, rfl, -, hEd, -⟩ := ho9.at (by omega); have HF9 : Hid (FL w [(w2.heap.size, .cells #[.slice a7 (spL xs x).length c7, .int .i64 (spC xs x)] 44 (0, 0)), (w1.heap.size, .cells #[.int .i64 x.kind, .int .i64 x.key, .int .i64 x.id] 40 (0, 0))] [(a13, ls), (a12, ds), (a11, cs), (a10, sdL us bs), (a9, bs), (a8, us), (a7, spL xs x), (a5, xs)] w9) := HF8.out.on hb9; have HV9 : Hid (EnsAt w9 vd (sdL us bs)) := hEd; clear hb9 ho9 hEd)
      | (go_at_call 27; refine (lw_states (spL xs x) (spC xs x) a7 vp c7 cp _ (HF7.out.row (a7, spL xs x) (by simp)) HV7.out (fun h => sp_right (by omega) h)).mono ?_; rintro e w8 ⟨rfl, hb8⟩; have HF8 : Hid (FL w [(w2.heap.size, .cells #[.slice a7 (spL xs x).length c7, .int .i64 (spC xs x)] 44 (0, 0)), (w1.heap.size, .cells #[.int .i64 x.kind, .int .i64 x.key, .int .i64 x.id] 40 (0, 0))] [(a13, ls), (a12, ds), (a11, cs), (a10, sdL us bs), (a9, bs), (a8, us), (a7, spL xs x), (a5, xs)] w8) := HF7.out.on hb8; clear hb8)
      | (go_at_call 28; refine (statePut_spec xs x a5 c5 _ (HF6.out.drew.row (a5, xs) (by simp))).mono ?_; rintro e w7 ⟨v8, rfl, ho8, hb8⟩; obtain ⟨vp, cp, rfl, -, hEp, -⟩ := ho8.at (by omega); have HF7 : Hid (FL w [(w2.heap.size, .cells #[.slice a7 (spL xs x).length c7, .int .i64 (spC xs x)] 44 (0, 0)), (w1.heap.size, .cells #[.int .i64 x.kind, .int .i64 x.key, .int .i64 x.id] 40 (0, 0))] [(a13, ls), (a12, ds), (a11, cs), (a10, sdL us bs), (a9, bs), (a8, us), (a7, spL xs x), (a5, xs)] w7) := HF6.out.drew.on hb8; have HV7 : Hid (EnsAt w7 vp (spL xs x)) := hEp; clear hb8 ho8 hEp))
    all_goals
      go_wp2_with fail
      go_meet
      case rel => exact ⟨rfl, HF17⟩
  case rest =>
    obtain ⟨rfl, HF⟩ := hcut
    go_upto_region 11 with fail
    go_cut [115] (fun s W => s = .bool false ∧ Hid (FL w [(w2.heap.size, .cells #[.slice a7 (spL xs x).length c7, .int .i64 (spC xs x)] 44 (0, 0)), (w1.heap.size, .cells #[.int .i64 x.kind, .int .i64 x.key, .int .i64 x.id] 40 (0, 0))] [(a13, ls), (a12, ds), (a11, cs), (a10, sdL us bs), (a9, bs), (a8, us), (a7, spL xs x), (a5, xs)] W))
    case first =>
      cases ha : rowE false us
      · go_wp2_with fail
        refine (state_spec_ us a8 c8 _ (HF.out.row (a8, us) (by simp))).mono ?_
        rintro e w20 ⟨rfl, hb⟩
        have HF20 : Hid (FL w [(w2.heap.size, .cells #[.slice a7 (spL xs x).length c7, .int .i64 (spC xs x)] 44 (0, 0)), (w1.heap.size, .cells #[.int .i64 x.kind, .int .i64 x.key, .int .i64 x.id] 40 (0, 0))] [(a13, ls), (a12, ds), (a11, cs), (a10, sdL us bs), (a9, bs), (a8, us), (a7, spL xs x), (a5, xs)] w20) := HF.out.on hb
        rw [ha]
        clear hb
        go_wp2_with fail
        go_meet
        exact ⟨rfl, HF20⟩
      · have HA : Hid (rowE false us = true) := ha
        go_wp2_with fail
        refine (state_spec_ us a8 c8 _ (HF.out.row (a8, us) (by simp))).mono ?_
        rintro e w20 ⟨rfl, hb⟩
        have HF20 : Hid (FL w [(w2.heap.size, .cells #[.slice a7 (spL xs x).length c7, .int .i64 (spC xs x)] 44 (0, 0)), (w1.heap.size, .cells #[.int .i64 x.kind, .int .i64 x.key, .int .i64 x.id] 40 (0, 0))] [(a13, ls), (a12, ds), (a11, cs), (a10, sdL us bs), (a9, bs), (a8, us), (a7, spL xs x), (a5, xs)] w20) := HF.out.on hb
        rw [ha]
        clear hb ha
        cases hbr : rowE false bs
        · go_wp2_with fail
          refine (state_spec_ bs a9 c9 _ (HF20.out.row (a9, bs) (by simp))).mono ?_
          rintro e w21 ⟨rfl, hb⟩
          have HF21 : Hid (FL w [(w2.heap.size, .cells #[.slice a7 (spL xs x).length c7, .int .i64 (spC xs x)] 44 (0, 0)), (w1.heap.size, .cells #[.int .i64 x.kind, .int .i64 x.key, .int .i64 x.id] 40 (0, 0))] [(a13, ls), (a12, ds), (a11, cs), (a10, sdL us bs), (a9, bs), (a8, us), (a7, spL xs x), (a5, xs)] w21) := HF20.out.on hb
          rw [hbr]
          clear hb
          go_wp2_with fail
          go_meet
          exact ⟨rfl, HF21⟩
        · have HB : Hid (rowE false bs = true) := hbr
          have hfld : ∀ (v c : Value) W, (Instr.field 44 (.agg #[v, c]) 0).run Try.prog W = .ok v W := fun _ _ _ => by kernel_rfl
          go_wp2_with fail
          refine (state_spec_ bs a9 c9 _ (HF20.out.row (a9, bs) (by simp))).mono ?_
          rintro e w21 ⟨rfl, hb⟩
          have HF21 : Hid (FL w [(w2.heap.size, .cells #[.slice a7 (spL xs x).length c7, .int .i64 (spC xs x)] 44 (0, 0)), (w1.heap.size, .cells #[.int .i64 x.kind, .int .i64 x.key, .int .i64 x.id] 40 (0, 0))] [(a13, ls), (a12, ds), (a11, cs), (a10, sdL us bs), (a9, bs), (a8, us), (a7, spL xs x), (a5, xs)] w21) := HF20.out.on hb
          rw [hbr]
          clear hb hbr
          go_wp2_with fail
          refine (stateApply_impl us (sdL us bs) a8 a10 c8 c10 _ (HF21.out.row (a8, us) (by simp)) (HF21.out.row (a10, sdL us bs) (by simp))).mono ?_
          rintro e w22 ⟨v22, rfl, ho22, hb22⟩
          rw [sa_back (by omega) HA.out HB.out] at ho22
          obtain ⟨a22, c22, rfl, -, hE22, -⟩ := ho22.at (by omega)
          have HF22 : Hid (FL w [(w2.heap.size, .cells #[.slice a7 (spL xs x).length c7, .int .i64 (spC xs x)] 44 (0, 0)), (w1.heap.size, .cells #[.int .i64 x.kind, .int .i64 x.key, .int .i64 x.id] 40 (0, 0))] [(a13, ls), (a12, ds), (a11, cs), (a10, sdL us bs), (a9, bs), (a8, us), (a7, spL xs x), (a5, xs)] w22) := HF21.out.on hb22
          have HE22 : Hid (EnsAt w22 a22 bs) := hE22
          clear ho22 hE22 hb22
          go_wp2_with fail
          refine (lw_state bs a22 a9 c22 c9 _ HE22.out (HF22.out.row (a9, bs) (by simp))).mono ?_
          rintro e w23 ⟨rfl, hb⟩
          have HF23 : Hid (FL w [(w2.heap.size, .cells #[.slice a7 (spL xs x).length c7, .int .i64 (spC xs x)] 44 (0, 0)), (w1.heap.size, .cells #[.int .i64 x.kind, .int .i64 x.key, .int .i64 x.id] 40 (0, 0))] [(a13, ls), (a12, ds), (a11, cs), (a10, sdL us bs), (a9, bs), (a8, us), (a7, spL xs x), (a5, xs)] w23) := HF22.out.on hb
          clear hb
          go_wp2_with fail
          refine (stateDiff_impl bs bs a9 a9 c9 c9 _ (HF23.out.row (a9, bs) (by simp)) (HF23.out.row (a9, bs) (by simp))).mono ?_
          rintro e w24 ⟨v24, rfl, ho24, hb24⟩
          rw [sd_self HB.out] at ho24
          obtain ⟨a24, c24, rfl, -, -, -⟩ := ho24.at (by simp)
          have HF24 : Hid (FL w [(w2.heap.size, .cells #[.slice a7 (spL xs x).length c7, .int .i64 (spC xs x)] 44 (0, 0)), (w1.heap.size, .cells #[.int .i64 x.kind, .int .i64 x.key, .int .i64 x.id] 40 (0, 0))] [(a13, ls), (a12, ds), (a11, cs), (a10, sdL us bs), (a9, bs), (a8, us), (a7, spL xs x), (a5, xs)] w24) := HF23.out.on hb24
          clear ho24 hb24
          go_wp2_with fail
          go_meet
          exact ⟨rfl, HF24⟩
    case rest =>
      clear HF
      obtain ⟨rfl, HF⟩ := hcut
      obtain ⟨m1, m2⟩ := HF.out.cells
      by_cases hc0 : spC xs x = 0
      · have hcb : (spC xs x != 0) = false := by simp [hc0]
        have HC0 : Hid (spC xs x = 0) := hc0
        clear hc0
        go_wp2
        go_loopw [16] (fun i wr => ∃ k : Nat, k ≤ xs.length ∧ i = .int .i64 k ∧ Hid (FL w [(w2.heap.size, .cells #[.slice a7 (spL xs x).length c7, .int .i64 (spC xs x)] 44 (0, 0)), (w1.heap.size, .cells #[.int .i64 x.kind, .int .i64 x.key, .int .i64 x.id] 40 (0, 0))] [(a13, ls), (a12, ds), (a11, cs), (a10, sdL us bs), (a9, bs), (a8, us), (a7, spL xs x), (a5, xs)] wr)) (fun i _ => xs.length - (intOf i).toNat)
        case atStart => exact ⟨0, Nat.zero_le _, rfl, HF⟩
        case round =>
          clear HF m1 m2
          obtain ⟨k, hk, rfl, HF⟩ := hrel
          obtain ⟨m1, m2⟩ := HF.out.cells
          by_cases hlt : k < xs.length
          · obtain ⟨b5, off5, rfl, hbb5, hcell⟩ := (show EnsAt wr a5 xs from HF.out.row (a5, xs) (by simp)).row (by omega)
            have HCEW : Hid (∀ W, Below wr.heap.size wr W → W.cell? ⟨b5, off5 + k * 3, none⟩ = some (.int .i64 xs[k].kind) ∧ W.cell? ⟨b5, off5 + k * 3 + 1, none⟩ = some (.int .i64 xs[k].key) ∧ W.cell? ⟨b5, off5 + k * 3 + 2, none⟩ = some (.int .i64 xs[k].id)) := fun W hW => by
              have q0 := (hW.cell (p := ⟨b5, off5 + (k * 3 + 0), none⟩) hbb5).trans (hcell k hlt 0 (by omega))
              have q1 := (hW.cell (p := ⟨b5, off5 + (k * 3 + 1), none⟩) hbb5).trans (hcell k hlt 1 (by omega))
              have q2 := (hW.cell (p := ⟨b5, off5 + (k * 3 + 2), none⟩) hbb5).trans (hcell k hlt 2 (by omega))
              rw [← Nat.add_assoc] at q0 q1 q2
              exact ⟨q0, q1, q2⟩
            obtain ⟨n0, n1, n2⟩ := HCEW.out wr (Below.refl _ _)
            have HD : Hid (EnD xs[k]) := HSM.out.1 _ (List.getElem_mem hlt)
            clear hcell
            have KEEPS : Hid (∀ W, Below wr.heap.size wr W → (∀ q, W.cell? ⟨w2.heap.size, q, none⟩ = #[.slice a7 (spL xs x).length c7, .int .i64 (spC xs x)][q]?) ∧ (∀ q, W.cell? ⟨w1.heap.size, q, none⟩ = #[.int .i64 x.kind, .int .i64 x.key, .int .i64 x.id][q]?) ∧ W.cell? ⟨b5, off5 + k * 3, none⟩ = some (.int .i64 xs[k].kind) ∧ W.cell? ⟨b5, off5 + k * 3 + 1, none⟩ = some (.int .i64 xs[k].key) ∧ W.cell? ⟨b5, off5 + k * 3 + 2, none⟩ = some (.int .i64 xs[k].id)) := fun W hW => by
              obtain ⟨z1, z2⟩ := (HF.out.on hW).cells
              exact ⟨z1, z2, HCEW.out W hW⟩
            have HDN : Hid (∀ n, FL w [(w2.heap.size, .cells #[.slice a7 (spL xs x).length c7, .int .i64 (spC xs x)] 44 (0, 0)), (w1.heap.size, .cells #[.int .i64 x.kind, .int .i64 x.key, .int .i64 x.id] 40 (0, 0))] [(a13, ls), (a12, ds), (a11, cs), (a10, sdL us bs), (a9, bs), (a8, us), (a7, spL xs x), (some ⟨b5, off5, none⟩, xs)] (wr.drewN n)) := fun n => HF.out.drewN n
            cases h1 : (xs[k].kind != x.kind)
            · cases h2 : (xs[k].key != x.key)
              · go_wp2
                go_quiet (fail)
                go_wp2
                go_roundw
                case rel => exact ⟨k + 1, by omega, by go_num, HDN.out _⟩
                case measure => simp [intOf]; omega
              · have hne : ¬ (xs[k].kind = x.kind ∧ xs[k].key = x.key) := fun h => by simp [h.2] at h2
                have HO : Hid (atE (spL xs x) xs[k].kind xs[k].key = xs[k].id) := sp_other (by omega) HC0.out hlt hne
                have HKX : Hid ((Lit.int .i64 xs[k].kind).wf = true ∧ (Lit.int .i64 xs[k].key).wf = true) := ⟨small_wf HD.out.1.1 HD.out.1.2, small_wf HD.out.2.1.1 HD.out.2.1.2⟩
                clear hne
                go_wp2
                go_region_held3 (fun W => (∀ k, W.cell? ⟨w2.heap.size, k, none⟩ = #[.slice a7 (spL xs x).length c7, .int .i64 (spC xs x)][k]?) ∧ (∀ k, W.cell? ⟨w1.heap.size, k, none⟩ = #[.int .i64 x.kind, .int .i64 x.key, .int .i64 x.id][k]?) ∧ W.cell? ⟨b5, off5 + k * 3, none⟩ = some (.int .i64 xs[k].kind) ∧ W.cell? ⟨b5, off5 + k * 3 + 1, none⟩ = some (.int .i64 xs[k].key) ∧ W.cell? ⟨b5, off5 + k * 3 + 2, none⟩ = some (.int .i64 xs[k].id)) (first | exact KEEPS.out _ HB31.out | exact KEEPS.out _ (Below.refl _ _).drew) (first
                  | (go_at_call 33; refine (stateAt_impl (spL xs x) xs[k].kind xs[k].key HKX.out.1 HKX.out.2 a7 c7 _ (HF.out.drew.row (a7, spL xs x) (by simp))).mono ?_; rintro e w31 ⟨rfl, hb31⟩; rw [HO.out]; have HB31 : Hid (Below wr.heap.size wr w31) := (Below.refl _ _).drew.trans hb31; have HF31 : Hid (FL w [(w2.heap.size, .cells #[.slice a7 (spL xs x).length c7, .int .i64 (spC xs x)] 44 (0, 0)), (w1.heap.size, .cells #[.int .i64 x.kind, .int .i64 x.key, .int .i64 x.id] 40 (0, 0))] [(a13, ls), (a12, ds), (a11, cs), (a10, sdL us bs), (a9, bs), (a8, us), (a7, spL xs x), (some ⟨b5, off5, none⟩, xs)] w31) := HF.out.drew.on hb31; clear hb31))
                all_goals
                  go_wp2
                  go_roundw
                  case rel => exact ⟨k + 1, by omega, by go_num, HF31⟩
                  case measure => simp [intOf]; omega
            · have hne : ¬ (xs[k].kind = x.kind ∧ xs[k].key = x.key) := fun h => by simp [h.1] at h1
              have HO : Hid (atE (spL xs x) xs[k].kind xs[k].key = xs[k].id) := sp_other (by omega) HC0.out hlt hne
              have HKX : Hid ((Lit.int .i64 xs[k].kind).wf = true ∧ (Lit.int .i64 xs[k].key).wf = true) := ⟨small_wf HD.out.1.1 HD.out.1.2, small_wf HD.out.2.1.1 HD.out.2.1.2⟩
              clear hne
              go_wp2
              refine wp_region_held_drew (S := (fun W => (∀ k, W.cell? ⟨w2.heap.size, k, none⟩ = #[.slice a7 (spL xs x).length c7, .int .i64 (spC xs x)][k]?) ∧ (∀ k, W.cell? ⟨w1.heap.size, k, none⟩ = #[.int .i64 x.kind, .int .i64 x.key, .int .i64 x.id][k]?) ∧ W.cell? ⟨b5, off5 + k * 3, none⟩ = some (.int .i64 xs[k].kind) ∧ W.cell? ⟨b5, off5 + k * 3 + 1, none⟩ = some (.int .i64 xs[k].key) ∧ W.cell? ⟨b5, off5 + k * 3 + 2, none⟩ = some (.int .i64 xs[k].id))) (by kernel_rfl) (KEEPS.out _ (Below.refl _ _).drew) (fun hHeld => ?_)
              refine wpAnyH_take (i := 0) (v := (.slice (some ⟨b5, off5, none⟩) xs.length c5)) rfl (by kernel_rfl) (by kernel_rfl) (by kernel_rfl) (fun _ _ _ h => h) (Or.inl ⟨by kernel_rfl, ?_⟩) hHeld ?_
              · intro W hW
                go_simp
              refine wpAnyH_take (i := 1) (v := (.int .i64 k)) rfl (by kernel_rfl) (by kernel_rfl) (by kernel_rfl) (fun _ _ _ h => h) (Or.inl ⟨by kernel_rfl, ?_⟩) hHeld ?_
              · intro W hW
                go_simp
              refine wpAnyH_take (i := 2) (v := (.pointer (some ⟨b5, off5 + k * 3, none⟩))) rfl (by kernel_rfl) (by kernel_rfl) (by kernel_rfl) (fun _ _ _ h => h) (Or.inl ⟨by kernel_rfl, ?_⟩) hHeld ?_
              · intro W hW
                go_simp
              refine wpAnyH_take (i := 3) (v := (.pointer (some ⟨b5, off5 + k * 3, none⟩))) rfl (by kernel_rfl) (by kernel_rfl) (by kernel_rfl) (fun _ _ _ h => h) (Or.inl ⟨by kernel_rfl, ?_⟩) hHeld ?_
              · intro W hW
                go_simp
              refine wpAnyH_take (i := 4) (v := (.int .i64 xs[k].kind)) rfl (by kernel_rfl) (by kernel_rfl) (by kernel_rfl) (fun _ _ _ h => h) (Or.inl ⟨by kernel_rfl, ?_⟩) hHeld ?_
              · intro W hW
                obtain ⟨z1, z2, z3, z4, z5⟩ := hW
                go_simp
              refine wpAnyH_take (i := 5) (v := (.pointer (some ⟨w1.heap.size, 0, none⟩))) rfl (by kernel_rfl) (by kernel_rfl) (by kernel_rfl) (fun _ _ _ h => h) (Or.inl ⟨by kernel_rfl, ?_⟩) hHeld ?_
              · intro W hW
                go_simp
              refine wpAnyH_take (i := 6) (v := (.int .i64 x.kind)) rfl (by kernel_rfl) (by kernel_rfl) (by kernel_rfl) (fun _ _ _ h => h) (Or.inl ⟨by kernel_rfl, ?_⟩) hHeld ?_
              · intro W hW
                obtain ⟨z1, z2, z3, z4, z5⟩ := hW
                go_simp
              refine wpAnyH_take (i := 7) (v := (.bool true)) rfl (by kernel_rfl) (by kernel_rfl) (by kernel_rfl) (fun _ _ _ h => h) (Or.inl ⟨by kernel_rfl, ?_⟩) hHeld ?_
              · intro W hW
                go_simp
              refine wpAnyH_take (i := 8) (v := (.bool true)) rfl (by kernel_rfl) (by kernel_rfl) (by kernel_rfl) (fun _ _ _ h => h) (Or.inl ⟨by kernel_rfl, ?_⟩) hHeld ?_
              · intro W hW
                go_simp
              refine wpAnyH_take (i := 9) (v := undef) rfl (by kernel_rfl) (by kernel_rfl) (by kernel_rfl) (fun _ _ _ h => h) (Or.inr ⟨by kernel_rfl, rfl⟩) hHeld ?_
              refine wpAnyH_take (i := 10) (v := undef) rfl (by kernel_rfl) (by kernel_rfl) (by kernel_rfl) (fun _ _ _ h => h) (Or.inr ⟨by kernel_rfl, rfl⟩) hHeld ?_
              refine wpAnyH_take (i := 11) (v := undef) rfl (by kernel_rfl) (by kernel_rfl) (by kernel_rfl) (fun _ _ _ h => h) (Or.inr ⟨by kernel_rfl, rfl⟩) hHeld ?_
              refine wpAnyH_take (i := 12) (v := undef) rfl (by kernel_rfl) (by kernel_rfl) (by kernel_rfl) (fun _ _ _ h => h) (Or.inr ⟨by kernel_rfl, rfl⟩) hHeld ?_
              refine wpAnyH_take (i := 13) (v := undef) rfl (by kernel_rfl) (by kernel_rfl) (by kernel_rfl) (fun _ _ _ h => h) (Or.inr ⟨by kernel_rfl, rfl⟩) hHeld ?_
              refine wpAnyH_take (i := 14) (v := undef) rfl (by kernel_rfl) (by kernel_rfl) (by kernel_rfl) (fun _ _ _ h => h) (Or.inr ⟨by kernel_rfl, rfl⟩) hHeld ?_
              refine wpAnyH_take (i := 15) (v := undef) rfl (by kernel_rfl) (by kernel_rfl) (by kernel_rfl) (fun _ _ _ h => h) (Or.inr ⟨by kernel_rfl, rfl⟩) hHeld ?_
              refine wpAnyH_take (i := 16) (v := undef) rfl (by kernel_rfl) (by kernel_rfl) (by kernel_rfl) (fun _ _ _ h => h) (Or.inr ⟨by kernel_rfl, rfl⟩) hHeld ?_
              refine wpAnyH_take (i := 17) (v := (.bool true)) rfl (by kernel_rfl) (by kernel_rfl) (by kernel_rfl) (fun _ _ _ h => h) (Or.inl ⟨by kernel_rfl, ?_⟩) hHeld ?_
              · intro W hW
                go_simp
              refine wpAnyH_take (i := 18) (v := (.bool true)) rfl (by kernel_rfl) (by kernel_rfl) (by kernel_rfl) (fun _ _ _ h => h) (Or.inl ⟨by kernel_rfl, ?_⟩) hHeld ?_
              · intro W hW
                go_simp
              refine wpAnyH_take (i := 19) (v := (.pointer (some ⟨w2.heap.size, 0, none⟩))) rfl (by kernel_rfl) (by kernel_rfl) (by kernel_rfl) (fun _ _ _ h => h) (Or.inl ⟨by kernel_rfl, ?_⟩) hHeld ?_
              · intro W hW
                go_simp
              refine wpAnyH_take (i := 20) (v := (.slice a7 (spL xs x).length c7)) rfl (by kernel_rfl) (by kernel_rfl) (by kernel_rfl) (fun _ _ _ h => h) (Or.inl ⟨by kernel_rfl, ?_⟩) hHeld ?_
              · intro W hW
                obtain ⟨z1, z2, z3, z4, z5⟩ := hW
                go_simp
              refine wpAnyH_take (i := 21) (v := (.slice (some ⟨b5, off5, none⟩) xs.length c5)) rfl (by kernel_rfl) (by kernel_rfl) (by kernel_rfl) (fun _ _ _ h => h) (Or.inl ⟨by kernel_rfl, ?_⟩) hHeld ?_
              · intro W hW
                go_simp
              refine wpAnyH_take (i := 22) (v := (.int .i64 k)) rfl (by kernel_rfl) (by kernel_rfl) (by kernel_rfl) (fun _ _ _ h => h) (Or.inl ⟨by kernel_rfl, ?_⟩) hHeld ?_
              · intro W hW
                go_simp
              refine wpAnyH_take (i := 23) (v := (.pointer (some ⟨b5, off5 + k * 3, none⟩))) rfl (by kernel_rfl) (by kernel_rfl) (by kernel_rfl) (fun _ _ _ h => h) (Or.inl ⟨by kernel_rfl, ?_⟩) hHeld ?_
              · intro W hW
                go_simp
              refine wpAnyH_take (i := 24) (v := (.pointer (some ⟨b5, off5 + k * 3, none⟩))) rfl (by kernel_rfl) (by kernel_rfl) (by kernel_rfl) (fun _ _ _ h => h) (Or.inl ⟨by kernel_rfl, ?_⟩) hHeld ?_
              · intro W hW
                go_simp
              refine wpAnyH_take (i := 25) (v := (.int .i64 xs[k].kind)) rfl (by kernel_rfl) (by kernel_rfl) (by kernel_rfl) (fun _ _ _ h => h) (Or.inl ⟨by kernel_rfl, ?_⟩) hHeld ?_
              · intro W hW
                obtain ⟨z1, z2, z3, z4, z5⟩ := hW
                go_simp
              refine wpAnyH_take (i := 26) (v := (.slice (some ⟨b5, off5, none⟩) xs.length c5)) rfl (by kernel_rfl) (by kernel_rfl) (by kernel_rfl) (fun _ _ _ h => h) (Or.inl ⟨by kernel_rfl, ?_⟩) hHeld ?_
              · intro W hW
                go_simp
              refine wpAnyH_take (i := 27) (v := (.int .i64 k)) rfl (by kernel_rfl) (by kernel_rfl) (by kernel_rfl) (fun _ _ _ h => h) (Or.inl ⟨by kernel_rfl, ?_⟩) hHeld ?_
              · intro W hW
                go_simp
              refine wpAnyH_take (i := 28) (v := (.pointer (some ⟨b5, off5 + k * 3, none⟩))) rfl (by kernel_rfl) (by kernel_rfl) (by kernel_rfl) (fun _ _ _ h => h) (Or.inl ⟨by kernel_rfl, ?_⟩) hHeld ?_
              · intro W hW
                go_simp
              refine wpAnyH_take (i := 29) (v := (.pointer (some ⟨b5, off5 + k * 3 + 1, none⟩))) rfl (by kernel_rfl) (by kernel_rfl) (by kernel_rfl) (fun _ _ _ h => h) (Or.inl ⟨by kernel_rfl, ?_⟩) hHeld ?_
              · intro W hW
                go_simp
              refine wpAnyH_take (i := 30) (v := (.int .i64 xs[k].key)) rfl (by kernel_rfl) (by kernel_rfl) (by kernel_rfl) (fun _ _ _ h => h) (Or.inl ⟨by kernel_rfl, ?_⟩) hHeld ?_
              · intro W hW
                obtain ⟨z1, z2, z3, z4, z5⟩ := hW
                go_simp
              refine wpAnyH_take (i := 32) (v := (.slice (some ⟨b5, off5, none⟩) xs.length c5)) rfl (by kernel_rfl) (by kernel_rfl) (by kernel_rfl) (fun _ _ _ h => h) (Or.inl ⟨by kernel_rfl, ?_⟩) hHeld ?_
              · intro W hW
                go_simp
              refine wpAnyH_take (i := 33) (v := (.int .i64 k)) rfl (by kernel_rfl) (by kernel_rfl) (by kernel_rfl) (fun _ _ _ h => h) (Or.inl ⟨by kernel_rfl, ?_⟩) hHeld ?_
              · intro W hW
                go_simp
              refine wpAnyH_take (i := 34) (v := (.pointer (some ⟨b5, off5 + k * 3, none⟩))) rfl (by kernel_rfl) (by kernel_rfl) (by kernel_rfl) (fun _ _ _ h => h) (Or.inl ⟨by kernel_rfl, ?_⟩) hHeld ?_
              · intro W hW
                go_simp
              refine wpAnyH_take (i := 35) (v := (.pointer (some ⟨b5, off5 + k * 3 + 2, none⟩))) rfl (by kernel_rfl) (by kernel_rfl) (by kernel_rfl) (fun _ _ _ h => h) (Or.inl ⟨by kernel_rfl, ?_⟩) hHeld ?_
              · intro W hW
                go_simp
              refine wpAnyH_take (i := 36) (v := (.int .i64 xs[k].id)) rfl (by kernel_rfl) (by kernel_rfl) (by kernel_rfl) (fun _ _ _ h => h) (Or.inl ⟨by kernel_rfl, ?_⟩) hHeld ?_
              · intro W hW
                obtain ⟨z1, z2, z3, z4, z5⟩ := hW
                go_simp
              refine wpAnyH_ready (rs := [31]) (by kernel_rfl) (by simp) ?_
              refine AllReadyH.cons rfl (fun K hK => ?_) AllReadyH.nil
              go_simp
              refine (stateAt_impl (spL xs x) xs[k].kind xs[k].key HKX.out.1 HKX.out.2 a7 c7 _ (HF.out.drew.row (a7, spL xs x) (by simp))).mono ?_
              rintro e w31 ⟨rfl, hb31⟩
              rw [HO.out]
              have HB31 : Hid (Below wr.heap.size wr w31) := (Below.refl _ _).drew.trans hb31
              have HF31 : Hid (FL w [(w2.heap.size, .cells #[.slice a7 (spL xs x).length c7, .int .i64 (spC xs x)] 44 (0, 0)), (w1.heap.size, .cells #[.int .i64 x.kind, .int .i64 x.key, .int .i64 x.id] 40 (0, 0))] [(a13, ls), (a12, ds), (a11, cs), (a10, sdL us bs), (a9, bs), (a8, us), (a7, spL xs x), (some ⟨b5, off5, none⟩, xs)] w31) := HF.out.drew.on hb31
              clear hb31
              refine hK.out _ _ (KEEPS.out _ HB31.out) (fun hH1 => ?_)
              clear hK K
              refine wpAnyH_take (i := 37) (v := (.bool false)) rfl (by kernel_rfl) (by kernel_rfl) (by kernel_rfl) (fun _ _ _ h => h) (Or.inl ⟨by kernel_rfl, ?_⟩) hH1 ?_
              · intro W hW
                go_simp
              refine wpAnyH_take (i := 38) (v := (.bool false)) rfl (by kernel_rfl) (by kernel_rfl) (by kernel_rfl) (fun _ _ _ h => h) (Or.inl ⟨by kernel_rfl, ?_⟩) hH1 ?_
              · intro W hW
                go_simp
              refine wpAnyH_done (by kernel_rfl) ?_ _
              simp only [Act.put, List.setIfInBounds_toArray, List.set_cons_zero, List.set_cons_succ, List.getElem_toArray, List.getElem_cons_zero, List.getElem_cons_succ]
              go_wp2
              go_roundw
              case rel => exact ⟨k + 1, by omega, by go_num, HF31⟩
              case measure => simp [intOf]; omega
          · have hke : k = xs.length := by omega
            have HSX : Hid (atE (spL xs x) x.kind x.key = x.id) := sp_at (by omega) HC0.out
            have HKX : Hid ((Lit.int .i64 x.kind).wf = true ∧ (Lit.int .i64 x.key).wf = true) := ⟨small_wf HSM.out.2.1.1 HSM.out.2.1.2, small_wf HSM.out.2.2.1.1 HSM.out.2.2.1.2⟩
            subst hke
            go_wp2
            go_region_held3 (fun W => (∀ k, W.cell? ⟨w2.heap.size, k, none⟩ = #[.slice a7 (spL xs x).length c7, .int .i64 (spC xs x)][k]?) ∧ (∀ k, W.cell? ⟨w1.heap.size, k, none⟩ = #[.int .i64 x.kind, .int .i64 x.key, .int .i64 x.id][k]?)) (first | exact FL.cells HF30.out | exact FL.cells HF.out.drew) (first
              | (go_at_call 33; refine (stateAt_impl (spL xs x) x.kind x.key HKX.out.1 HKX.out.2 a7 c7 _ (HF.out.drew.row (a7, spL xs x) (by simp))).mono ?_; rintro e w30 ⟨rfl, hb30⟩; rw [HSX.out]; have HF30 : Hid (FL w [(w2.heap.size, .cells #[.slice a7 (spL xs x).length c7, .int .i64 (spC xs x)] 44 (0, 0)), (w1.heap.size, .cells #[.int .i64 x.kind, .int .i64 x.key, .int .i64 x.id] 40 (0, 0))] [(a13, ls), (a12, ds), (a11, cs), (a10, sdL us bs), (a9, bs), (a8, us), (a7, spL xs x), (a5, xs)] w30) := HF.out.drew.on hb30; clear hb30))
            all_goals
              go_wp2
              go_ret
              exact ⟨ret_bool (by simp), HF30.out.below⟩
      · have hcb : (spC xs x != 0) = true := by simp [hc0]
        go_wp2
        go_ret
        exact ⟨rfl, HF.out.below⟩
end Go.Proofs.Ytjdkenopfnepaaa
