/- The law on Allowed walked. -/
import Derived.Test.YtdldblfopcbfeaaGreatDoorZAlBoth
import Derived.Test.YtdldblfopcbfeaaGreatDoorZEvOpen
import Derived.Deep.DeepCutAuto
namespace Go.Proofs.YtdldblfopcbfeaaGreatDoor
open Go.RowKit

/-- The law's two variables, and all that lay before. -/
structure LA (w : World) (g : Gr) (a : Option Addr) (cap : Nat) (p : Option Addr) (cp : Nat) (v : Ev) (q : Option Addr) (c : Nat) (W : World) : Prop where
  below : Below w.heap.size w W
  gx : W.heap[w.heap.size]? = some (.cells #[.int .i64 g.room, .slice a g.evs.length cap, .slice p g.pk.length cp] 24 (0, 0))
  ev : W.heap[w.heap.size + 1]? = some (.cells #[.int .i64 v.id, .int .i64 v.room, .int .i64 v.author, .int .i64 v.kind, .int .i64 v.key, .int .i64 v.n, .string v.text, .slice q v.prev.length c, .int .i64 v.time] 28 (0, 0))
theorem LA.start (w : World) (g : Gr) (a : Option Addr) (cap : Nat) (p : Option Addr) (cp : Nat) (v : Ev) (q : Option Addr) (c : Nat) : LA w g a cap p cp v q c ((w.alloc (.cells #[.int .i64 g.room, .slice a g.evs.length cap, .slice p g.pk.length cp] 24)).alloc (.cells #[.int .i64 v.id, .int .i64 v.room, .int .i64 v.author, .int .i64 v.kind, .int .i64 v.key, .int .i64 v.n, .string v.text, .slice q v.prev.length c, .int .i64 v.time] 28)) :=
  ⟨((Below.refl _ _).alloc (Nat.le_refl _) _).alloc (by simp) _, (Below.heap_alloc _ _ _ (by simp)).trans (MapKept.heap_alloc w _).1, by have := (MapKept.heap_alloc (w.alloc (.cells #[.int .i64 g.room, .slice a g.evs.length cap, .slice p g.pk.length cp] 24)) (.cells #[.int .i64 v.id, .int .i64 v.room, .int .i64 v.author, .int .i64 v.kind, .int .i64 v.key, .int .i64 v.n, .string v.text, .slice q v.prev.length c, .int .i64 v.time] 28)).1; simpa using this⟩
theorem LA.on {w : World} {g : Gr} {a : Option Addr} {cap : Nat} {p : Option Addr} {cp : Nat} {v : Ev} {q : Option Addr} {c : Nat} {W W' : World} (h : LA w g a cap p cp v q c W) (hb : Below W.heap.size W W') : LA w g a cap p cp v q c W' :=
  ⟨h.below.trans (hb.mono h.below.size), (hb.block _ (Array.getElem?_eq_some_iff.1 h.gx).1).trans h.gx, (hb.block _ (Array.getElem?_eq_some_iff.1 h.ev).1).trans h.ev⟩
theorem LA.drew {w : World} {g : Gr} {a : Option Addr} {cap : Nat} {p : Option Addr} {cp : Nat} {v : Ev} {q : Option Addr} {c : Nat} {W : World} (h : LA w g a cap p cp v q c W) : LA w g a cap p cp v q c W.drew := h.on (Below.drew (Below.refl _ _))
theorem LA.lt {w : World} {g : Gr} {a : Option Addr} {cap : Nat} {p : Option Addr} {cp : Nat} {v : Ev} {q : Option Addr} {c : Nat} {W : World} (h : LA w g a cap p cp v q c W) : w.heap.size < W.heap.size ∧ w.heap.size + 1 < W.heap.size := ⟨(Array.getElem?_eq_some_iff.1 h.gx).1, (Array.getElem?_eq_some_iff.1 h.ev).1⟩
theorem LA.cells {w : World} {g : Gr} {a : Option Addr} {cap : Nat} {p : Option Addr} {cp : Nat} {v : Ev} {q : Option Addr} {c : Nat} {W : World} (h : LA w g a cap p cp v q c W) :
    (∀ k, W.cell? ⟨w.heap.size, k, none⟩ = #[.int .i64 g.room, .slice a g.evs.length cap, .slice p g.pk.length cp][k]?) ∧ (∀ k, W.cell? ⟨w.heap.size + 1, k, none⟩ = #[.int .i64 v.id, .int .i64 v.room, .int .i64 v.author, .int .i64 v.kind, .int .i64 v.key, .int .i64 v.n, .string v.text, .slice q v.prev.length c, .int .i64 v.time][k]?) :=
  ⟨fun _ => cell_of_heap h.gx, fun _ => cell_of_heap h.ev⟩
/-- The copies that the program was handed, and where they stand. -/
structure LK (w : World) (g : Gr) (a : Option Addr) (cap : Nat) (p : Option Addr) (cp : Nat) (v : Ev) (q : Option Addr) (c : Nat) (xs : List En) (g5 : Gr) (a5 p5 s6 q7 : Option Addr) (B9 B11 : Nat) (W : World) : Prop where
  la : LA w g a cap p cp v q c W
  b9 : W.heap[B9]? = some (.cells #[.int .i64 g.room, .slice a5 g.evs.length g.evs.length, .slice p5 g.pk.length g.pk.length] 35 (0, 0))
  b11 : W.heap[B11]? = some (.cells #[.int .i64 v.id, .int .i64 v.room, .int .i64 v.author, .int .i64 v.kind, .int .i64 v.key, .int .i64 v.n, .string v.text, .slice q7 v.prev.length v.prev.length, .int .i64 v.time] 39 (0, 0))
  gc : GCopy g g5 a5 p5 W
  es : EnsAt W s6 xs
  nv : NumsAt W q7 v.prev
theorem LK.on {w : World} {g : Gr} {a : Option Addr} {cap : Nat} {p : Option Addr} {cp : Nat} {v : Ev} {q : Option Addr} {c : Nat} {xs : List En} {g5 : Gr} {a5 p5 s6 q7 : Option Addr} {B9 B11 : Nat} {W W' : World} (h : LK w g a cap p cp v q c xs g5 a5 p5 s6 q7 B9 B11 W) (hb : Below W.heap.size W W') : LK w g a cap p cp v q c xs g5 a5 p5 s6 q7 B9 B11 W' :=
  ⟨h.la.on hb, (hb.block _ (Array.getElem?_eq_some_iff.1 h.b9).1).trans h.b9, (hb.block _ (Array.getElem?_eq_some_iff.1 h.b11).1).trans h.b11, h.gc.kept hb, h.es.kept hb, h.nv.kept hb⟩
set_option maxHeartbeats 32000000 in
set_option maxRecDepth 100000 in
theorem walk_fnExactAllowed_gr (g : Gr) (a : Option Addr) (cap : Nat) (p : Option Addr) (cp : Nat) (xs : List En) (s : Option Addr) (cs : Nat) (v : Ev) (q : Option Addr) (c : Nat) (w : World) (h : EvsRaw w a g.evs) (h2 : EvsRaw w p g.pk) (hx : EnsRaw w s xs) (ht : v.text.size ≤ maxLen) (hp : v.prev.length ≤ maxLen) (hn : v.prev.length ≤ 1048576 → NumsAt w q v.prev) (hE : ∃ E, LE E w) :
    Calls Tryz.prog 3 #[.agg #[.int .i64 g.room, .slice a g.evs.length cap, .slice p g.pk.length cp], .slice s xs.length cs, .agg #[.int .i64 v.id, .int .i64 v.room, .int .i64 v.author, .int .i64 v.kind, .int .i64 v.key, .int .i64 v.n, .string v.text, .slice q v.prev.length c, .int .i64 v.time]] w fun e w' => e = .returned (.bool true) ∧ Below w.heap.size w w' := by
  obtain ⟨E, hE⟩ := hE
  have hlx := hx.len
  have HLE : Hid (∀ W, Below w.heap.size w W → LE E W) := fun W hW => hE.kept hW
  have HL0 : Hid (LA w g a cap p cp v q c ((w.alloc (.cells #[.int .i64 g.room, .slice a g.evs.length cap, .slice p g.pk.length cp] 24)).alloc (.cells #[.int .i64 v.id, .int .i64 v.room, .int .i64 v.author, .int .i64 v.kind, .int .i64 v.key, .int .i64 v.n, .string v.text, .slice q v.prev.length c, .int .i64 v.time] 28))) := LA.start w g a cap p cp v q c
  have HR : Hid (∀ w', Below w.heap.size w w' → EvsRaw w' a g.evs ∧ EvsRaw w' p g.pk) := fun w' hb => ⟨h.kept hb, h2.kept hb⟩
  obtain ⟨m1, m2⟩ := HL0.out.cells
  by_cases hs : ((wt g.evs + wt g.pk : Nat) : Int) ≤ 1048576
  · have HS : Hid (szB (wt g.evs + wt g.pk) 1048576 = 1048576 - (wt g.evs + wt g.pk : Nat)) := szB_yes hs
    obtain ⟨L, HL⟩ : ∃ L : Int, Hid (L = szB (wt g.evs + wt g.pk) 1048576) := ⟨szB (wt g.evs + wt g.pk) 1048576, (rfl : (szB (wt g.evs + wt g.pk) 1048576 : Int) = _)⟩
    have hL : 0 ≤ L := by rw [HL.out, HS.out]; omega
    have hL2 : L ≤ 1048576 := by rw [HL.out, HS.out]; omega
    have HE : Hid (∀ w', Below w.heap.size w w' → EvsAt w' a g.evs ∧ EvsAt w' p g.pk) := fun w' hb => ⟨(h.kept hb).at (by omega), (h2.kept hb).at (by omega)⟩
    by_cases hs2 : (xs.length : Int) ≤ L
    · have hle : xs.length ≤ 1048576 := by omega
      have HX : Hid (∀ w', Below w.heap.size w w' → EnsAt w' s xs) := fun w' hb => (hx.kept hb).at hle
      have HS2 : Hid (szN xs.length L = L - xs.length) := szN_yes hs2
      obtain ⟨M, HM⟩ : ∃ M : Int, Hid (M = szN xs.length L) := ⟨szN xs.length L, (rfl : (szN xs.length L : Int) = _)⟩
      have hM : 0 ≤ M := by rw [HM.out, HS2.out]; omega
      have hM2 : M ≤ 1048576 := by rw [HM.out, HS2.out]; omega
      by_cases hs3 : (v.text.size : Int) + v.prev.length ≤ M
      · have hlv : v.prev.length ≤ 1048576 := by omega
        have HN : Hid (∀ w', Below w.heap.size w w' → NumsAt w' q v.prev) := fun w' hb => (hn hlv).kept hb
        have HS3 : Hid ((if (v.text.size : Int) + v.prev.length ≤ M then M - v.text.size - v.prev.length else -1) = M - v.text.size - v.prev.length) := if_pos hs3
        obtain ⟨J, HJ⟩ : ∃ J : Int, Hid (J = M - v.text.size - v.prev.length) := ⟨M - v.text.size - v.prev.length, (rfl : M - v.text.size - v.prev.length = _)⟩
        have hJ : 0 ≤ J := by rw [HJ.out]; omega
        obtain ⟨R, HRR⟩ : ∃ R : Int, Hid (R = alwG g xs v) := ⟨alwG g xs v, (rfl : alwG g xs v = _)⟩
        have hbr : (R != R) = false := by simp
        clear h h2 hx hs hs2 hs3 hn HS HS2
        go_enter Tryz.func3, Tryz.ntmps3
        go_wp2_with fail
        refine (sz_graph g a cap p cp 1048576 _ (HR.out _ HL0.out.below).1 (HR.out _ HL0.out.below).2 (by omega) (by omega)).mono ?_
        rintro e w1 ⟨rfl, hb1⟩
        rw [← HL.out]
        have HL1 : Hid (LA w g a cap p cp v q c w1) := HL0.out.on hb1
        clear hb1 m1 m2 HL0
        obtain ⟨m1, m2⟩ := HL1.out.cells
        go_wp2_with fail
        refine (sz_entries xs s cs L _ hlx hL hL2).mono ?_
        rintro e w1' ⟨rfl, rfl⟩
        rw [← HM.out]
        go_wp2_with fail
        refine (sz_event v q c M _ hM hM2 ht hp).mono ?_
        rintro e w2 ⟨rfl, hb2⟩
        rw [HS3.out, ← HJ.out]
        have HL2 : Hid (LA w g a cap p cp v q c w2) := HL1.out.on hb2
        clear hb2 m1 m2 HL1 HS3
        go_wp2
        go_cut [8] (fun r W => r = .int .i64 R ∧ Hid (LA w g a cap p cp v q c W))
        case first =>
          refine wp_region_held_drew (S := (fun W => LA w g a cap p cp v q c W)) (by kernel_rfl) HL2.out.drew (fun hHeld => ?_)
          refine wpAnyH_take (i := 0) (v := (.agg #[.int .i64 g.room, .slice a g.evs.length cap, .slice p g.pk.length cp])) rfl (by kernel_rfl) (by kernel_rfl) (by kernel_rfl) (fun _ _ _ h => h) (Or.inl ⟨by kernel_rfl, ?_⟩) hHeld ?_
          · intro W hW
            have f1 := (LA.cells hW).1
            have f2 := (LA.cells hW).2
            go_simp
          refine wpAnyH_take (i := 2) (v := (.slice s xs.length cs)) rfl (by kernel_rfl) (by kernel_rfl) (by kernel_rfl) (fun _ _ _ h => h) (Or.inl ⟨by kernel_rfl, ?_⟩) hHeld ?_
          · intro W hW
            go_simp
          refine wpAnyH_take (i := 4) (v := (.agg #[.int .i64 v.id, .int .i64 v.room, .int .i64 v.author, .int .i64 v.kind, .int .i64 v.key, .int .i64 v.n, .string v.text, .slice q v.prev.length c, .int .i64 v.time])) rfl (by kernel_rfl) (by kernel_rfl) (by kernel_rfl) (fun _ _ _ h => h) (Or.inl ⟨by kernel_rfl, ?_⟩) hHeld ?_
          · intro W hW
            have f1 := (LA.cells hW).1
            have f2 := (LA.cells hW).2
            go_simp
          refine wpAnyH_ready (rs := [1]) (by kernel_rfl) (by simp) ?_
          refine AllReadyH.cons rfl (fun K hK => ?_) AllReadyH.nil
          go_simp
          refine (to_graph g a cap p cp _ (HE.out _ HL2.out.drew.below).1 (HE.out _ HL2.out.drew.below).2).mono ?_
          rintro e v1 ⟨g2, a2, p2, rfl, hn2⟩
          have hb := hn2.evs.below
          have FG1 : Hid (GCopy g g2 a2 p2 v1) := hn2.copy
          clear hn2
          have HV1 : Hid (LA w g a cap p cp v q c v1) := (HL2.out.drew).on hb
          clear hb
          refine hK.out _ _ HV1.out (fun _ => ?_)
          clear hK K
          refine wpAnyH_ready (rs := [3]) (by kernel_rfl) (by simp) ?_
          refine AllReadyH.cons rfl (fun K hK => ?_) AllReadyH.nil
          go_simp
          refine (to_entries xs s cs _ (HX.out _ HV1.out.below)).mono ?_
          rintro e v2 ⟨s3, rfl, hn3⟩
          have hb := hn3.below
          have FX2 : Hid (EnsAt v2 s3 xs) := hn3.at hle
          clear hn3
          have FG2 : Hid (GCopy g g2 a2 p2 v2) := FG1.out.kept hb
          have HV2 : Hid (LA w g a cap p cp v q c v2) := (HV1.out).on hb
          clear hb
          refine hK.out _ _ HV2.out (fun _ => ?_)
          clear hK K
          refine wpAnyH_ready (rs := [5]) (by kernel_rfl) (by simp) ?_
          refine AllReadyH.cons rfl (fun K hK => ?_) AllReadyH.nil
          go_simp
          refine (to_event v q c _ (HN.out _ HV2.out.below)).mono ?_
          rintro e v3 ⟨q4, rfl, hn4, hb⟩
          have FV3 : Hid (NumsAt v3 q4 v.prev) := hn4.at hlv
          clear hn4
          have FG3 : Hid (GCopy g g2 a2 p2 v3) := FG2.out.kept hb
          have FX3 : Hid (EnsAt v3 s3 xs) := FX2.out.kept hb
          have HV3 : Hid (LA w g a cap p cp v q c v3) := (HV2.out).on hb
          clear hb
          refine hK.out _ _ HV3.out (fun _ => ?_)
          clear hK K
          refine wpAnyH_ready (rs := [6]) (by kernel_rfl) (by simp) ?_
          refine AllReadyH.cons rfl (fun K hK => ?_) AllReadyH.nil
          go_simp
          have HQ := allowed_spec g2 xs v q4 v.prev.length a2 g.evs.length p2 g.pk.length s3 xs.length v3 ⟨FG3.out.evs, FX3.out⟩ FG3.out.pk FV3.out
          rw [FG3.out.room, FG3.out.el, FG3.out.pl, alwG_same FG3.out.room FG3.out.es FG3.out.ps, ← HRR.out] at HQ
          refine HQ.mono ?_
          rintro e v9 ⟨rfl, hb⟩
          have HV9 : Hid (LA w g a cap p cp v q c v9) := HV3.out.on hb
          clear hb HQ
          refine hK.out _ _ HV9.out (fun _ => ?_)
          clear hK K
          refine wpAnyH_ready (rs := [7]) (by kernel_rfl) (by simp) ?_
          refine AllReadyH.cons rfl (fun K hK => ?_) AllReadyH.nil
          go_simp
          refine hK.out _ _ HV9.out (fun _ => ?_)
          clear hK K
          refine wpAnyH_done (by kernel_rfl) ?_ _
          go_wp2
          go_meet
          case rel => exact ⟨rfl, HV9⟩
        case rest =>
          clear HL2
          obtain ⟨rfl, HL3⟩ := hcut
          obtain ⟨m1, m2⟩ := HL3.out.cells
          go_wp2_with fail
          refine (to_graph g a cap p cp _ (HE.out _ HL3.out.below).1 (HE.out _ HL3.out.below).2).mono ?_
          rintro e w5 ⟨g5, a5, p5, rfl, hn5⟩
          have HL5 : Hid (∀ o, LA w g a cap p cp v q c (w5.alloc o)) := fun o => (HL3.out.on hn5.evs.below).on ((Below.refl _ _).alloc (Nat.le_refl _) o)
          have HC5 : Hid (∀ o, GCopy g g5 a5 p5 (w5.alloc o)) := fun o => hn5.copy.kept ((Below.refl _ _).alloc (Nat.le_refl _) o)
          have HX5 : Hid (∀ o, (w5.alloc o).heap[w5.heap.size]? = some o) := fun o => (MapKept.heap_alloc w5 o).1
          obtain ⟨z5, z5'⟩ := (HL3.out.on hn5.evs.below).lt
          clear hn5 m1 m2 HL3
          go_wp2_with fail
          refine (to_entries xs s cs _ (HX.out _ (HL5.out _).below)).mono ?_
          rintro e w6 ⟨s6, rfl, hn6⟩
          have HL6 : Hid (LA w g a cap p cp v q c w6) := (HL5.out _).on hn6.below
          have HC6 : Hid (GCopy g g5 a5 p5 w6) := (HC5.out _).kept hn6.below
          have HX6 : Hid (w6.heap[w5.heap.size]? = some (.cells #[.int .i64 g.room, .slice a5 g.evs.length g.evs.length, .slice p5 g.pk.length g.pk.length] 35 (0, 0))) := (hn6.below.block _ (by simp)).trans (HX5.out _)
          have HS6 : Hid (EnsAt w6 s6 xs) := hn6.at hle
          obtain ⟨m1, m2⟩ := HL6.out.cells
          clear hn6 HL5 HC5 HX5
          go_wp2_with fail
          refine (to_event v q c _ (HN.out _ HL6.out.below)).mono ?_
          rintro e w7 ⟨q7, rfl, hn7, hb7⟩
          have HK7 : Hid (∀ o, o = .cells #[.int .i64 v.id, .int .i64 v.room, .int .i64 v.author, .int .i64 v.kind, .int .i64 v.key, .int .i64 v.n, .string v.text, .slice q7 v.prev.length v.prev.length, .int .i64 v.time] 39 (0, 0) → LK w g a cap p cp v q c xs g5 a5 p5 s6 q7 w5.heap.size w7.heap.size (w7.alloc o)) := by
            rintro o rfl
            have hba : Below w7.heap.size w7 (w7.alloc (.cells #[.int .i64 v.id, .int .i64 v.room, .int .i64 v.author, .int .i64 v.kind, .int .i64 v.key, .int .i64 v.n, .string v.text, .slice q7 v.prev.length v.prev.length, .int .i64 v.time] 39)) := (Below.refl _ _).alloc (Nat.le_refl _) _
            exact ⟨(HL6.out.on hb7).on hba, (hba.block _ (Array.getElem?_eq_some_iff.1 ((hb7.block _ (Array.getElem?_eq_some_iff.1 HX6.out).1).trans HX6.out)).1).trans ((hb7.block _ (Array.getElem?_eq_some_iff.1 HX6.out).1).trans HX6.out), (MapKept.heap_alloc w7 _).1, (HC6.out.kept hb7).kept hba, (HS6.out.kept hb7).kept hba, (hn7.at hlv).kept hba⟩
          have z7 : w5.heap.size < w7.heap.size := Nat.lt_of_lt_of_le (Array.getElem?_eq_some_iff.1 HX6.out).1 hb7.size
          have c7 : ∀ k, w7.cell? ⟨w5.heap.size, k, none⟩ = #[.int .i64 g.room, .slice a5 g.evs.length g.evs.length, .slice p5 g.pk.length g.pk.length][k]? := fun k => cell_of_heap ((hb7.block _ (Array.getElem?_eq_some_iff.1 HX6.out).1).trans HX6.out)
          have n7 : ¬ w5.heap.size = w7.heap.size := by omega
          clear hn7 hb7 m1 m2 HL6 HC6 HX6 HS6
          go_wp2_with fail
          have HQ := allowed_impl E g5 xs v q7 v.prev.length a5 g.evs.length p5 g.pk.length s6 xs.length _ ⟨(HK7.out _ rfl).gc.evs, (HK7.out _ rfl).es⟩ (HK7.out _ rfl).gc.pk (HK7.out _ rfl).nv (HLE.out _ (HK7.out _ rfl).la.below)
          rw [(HK7.out _ rfl).gc.room, (HK7.out _ rfl).gc.el, (HK7.out _ rfl).gc.pl, alwG_same (HK7.out _ rfl).gc.room (HK7.out _ rfl).gc.es (HK7.out _ rfl).gc.ps, ← HRR.out] at HQ
          refine HQ.mono ?_
          rintro e w8 ⟨rfl, hb8⟩
          have HK8 : Hid (LK w g a cap p cp v q c xs g5 a5 p5 s6 q7 w5.heap.size w7.heap.size w8) := (HK7.out _ rfl).on hb8
          clear hb8 HQ HK7 z7 c7 n7
          go_wp2
          go_cut [52] (fun r W => r = .bool false ∧ Hid (LK w g a cap p cp v q c xs g5 a5 p5 s6 q7 w5.heap.size w7.heap.size W))
          case first =>
            refine wp_region_held_drew (S := (fun W => LK w g a cap p cp v q c xs g5 a5 p5 s6 q7 w5.heap.size w7.heap.size W)) (by kernel_rfl) (HK8.out.on (Below.drew (Below.refl _ _))) (fun hHeld => ?_)
            refine wpAnyH_take (i := 0) (v := (.agg #[.int .i64 g.room, .slice a5 g.evs.length g.evs.length, .slice p5 g.pk.length g.pk.length])) rfl (by kernel_rfl) (by kernel_rfl) (by kernel_rfl) (fun _ _ _ h => h) (Or.inl ⟨by kernel_rfl, ?_⟩) hHeld ?_
            · intro W hW
              have f1 : ∀ k, W.cell? ⟨w5.heap.size, k, none⟩ = #[.int .i64 g.room, .slice a5 g.evs.length g.evs.length, .slice p5 g.pk.length g.pk.length][k]? := fun _ => cell_of_heap hW.b9
              go_simp
            refine wpAnyH_take (i := 1) (v := (.agg #[.int .i64 g.room, .slice a g.evs.length cap, .slice p g.pk.length cp])) rfl (by kernel_rfl) (by kernel_rfl) (by kernel_rfl) (fun _ _ _ h => h) (Or.inl ⟨by kernel_rfl, ?_⟩) hHeld ?_
            · intro W hW
              have f1 := (LA.cells hW.la).1
              go_simp
            refine wpAnyH_ready (rs := [2]) (by kernel_rfl) (by simp) ?_
            refine AllReadyH.cons rfl (fun K hK => ?_) AllReadyH.nil
            go_simp
            refine (to_graph g a cap p cp _ (HE.out _ hHeld.la.below).1 (HE.out _ hHeld.la.below).2).mono ?_
            rintro e w9 ⟨g9, a9, p9, rfl, hn9⟩
            have HK9 : Hid (LK w g a cap p cp v q c xs g5 a5 p5 s6 q7 w5.heap.size w7.heap.size w9) := hHeld.on hn9.evs.below
            have HQ9 := eq_graph g5 g9 a5 p5 a9 p9 g.evs.length g.pk.length g.evs.length g.pk.length w9 HK9.out.gc.evs HK9.out.gc.pk hn9.evs.row.at hn9.pk.row.at (HK9.out.gc.es.trans hn9.evs.same.symm) (HK9.out.gc.ps.trans hn9.pk.same.symm)
            rw [HK9.out.gc.room, HK9.out.gc.el, HK9.out.gc.pl] at HQ9
            clear hn9
            refine hK.out _ _ HK9.out (fun hH2 => ?_)
            clear hK K
            refine wpAnyH_ready (rs := [3]) (by kernel_rfl) (by simp) ?_
            refine AllReadyH.cons rfl (fun K hK => ?_) AllReadyH.nil
            go_simp
            refine HQ9.mono ?_
            rintro e w10 ⟨rfl, hb10⟩
            have HK10 : Hid (LK w g a cap p cp v q c xs g5 a5 p5 s6 q7 w5.heap.size w7.heap.size w10) := HK9.out.on hb10
            clear hb10
            refine hK.out _ _ HK10.out (fun hH3 => ?_)
            clear hK K
            refine wpAnyH_take (i := 4) (v := (.bool false)) rfl (by kernel_rfl) (by kernel_rfl) (by kernel_rfl) (fun _ _ _ h => h) (Or.inl ⟨by kernel_rfl, ?_⟩) hH3 ?_
            · intro W hW
              go_simp
            refine wpAnyH_done (by kernel_rfl) ?_ _
            go_wp2
            go_meet
            case rel => exact ⟨rfl, HK10⟩
          case rest =>
            clear HK8
            obtain ⟨rfl, HK10⟩ := hcut
            go_wp2_with fail
            refine (to_entries xs s cs _ (HX.out _ HK10.out.la.below)).mono ?_
            rintro e w11 ⟨s11, rfl, hn11⟩
            have HK11 : Hid (LK w g a cap p cp v q c xs g5 a5 p5 s6 q7 w5.heap.size w7.heap.size w11) := HK10.out.on hn11.below
            have HQ11 := eq_entries xs s6 s11 xs.length xs.length w11 HK11.out.es (hn11.at hle)
            clear hn11
            go_wp2_with fail
            refine HQ11.mono ?_
            rintro e w12 ⟨rfl, hb12⟩
            have HK12 : Hid (LK w g a cap p cp v q c xs g5 a5 p5 s6 q7 w5.heap.size w7.heap.size w12) := HK11.out.on hb12
            clear hb12 HQ11
            go_wp2
            go_cut [62] (fun r W => r = .bool false ∧ Hid (LK w g a cap p cp v q c xs g5 a5 p5 s6 q7 w5.heap.size w7.heap.size W))
            case first =>
              refine wp_region_held_drew (S := (fun W => LK w g a cap p cp v q c xs g5 a5 p5 s6 q7 w5.heap.size w7.heap.size W)) (by kernel_rfl) (HK12.out.on (Below.drew (Below.refl _ _))) (fun hHeld => ?_)
              refine wpAnyH_take (i := 0) (v := (.agg #[.int .i64 v.id, .int .i64 v.room, .int .i64 v.author, .int .i64 v.kind, .int .i64 v.key, .int .i64 v.n, .string v.text, .slice q7 v.prev.length v.prev.length, .int .i64 v.time])) rfl (by kernel_rfl) (by kernel_rfl) (by kernel_rfl) (fun _ _ _ h => h) (Or.inl ⟨by kernel_rfl, ?_⟩) hHeld ?_
              · intro W hW
                have f1 : ∀ k, W.cell? ⟨w7.heap.size, k, none⟩ = #[.int .i64 v.id, .int .i64 v.room, .int .i64 v.author, .int .i64 v.kind, .int .i64 v.key, .int .i64 v.n, .string v.text, .slice q7 v.prev.length v.prev.length, .int .i64 v.time][k]? := fun _ => cell_of_heap hW.b11
                go_simp
              refine wpAnyH_take (i := 1) (v := (.agg #[.int .i64 v.id, .int .i64 v.room, .int .i64 v.author, .int .i64 v.kind, .int .i64 v.key, .int .i64 v.n, .string v.text, .slice q v.prev.length c, .int .i64 v.time])) rfl (by kernel_rfl) (by kernel_rfl) (by kernel_rfl) (fun _ _ _ h => h) (Or.inl ⟨by kernel_rfl, ?_⟩) hHeld ?_
              · intro W hW
                have f1 := (LA.cells hW.la).2
                go_simp
              refine wpAnyH_ready (rs := [2]) (by kernel_rfl) (by simp) ?_
              refine AllReadyH.cons rfl (fun K hK => ?_) AllReadyH.nil
              go_simp
              refine (to_event v q c _ (HN.out _ hHeld.la.below)).mono ?_
              rintro e w13 ⟨q13, rfl, hn13, hb13⟩
              have HK13 : Hid (LK w g a cap p cp v q c xs g5 a5 p5 s6 q7 w5.heap.size w7.heap.size w13) := hHeld.on hb13
              have HQ13 := eq_event v q7 q13 v.prev.length v.prev.length w13 HK13.out.nv (hn13.at hlv)
              clear hn13 hb13
              refine hK.out _ _ HK13.out (fun hH2 => ?_)
              clear hK K
              refine wpAnyH_ready (rs := [3]) (by kernel_rfl) (by simp) ?_
              refine AllReadyH.cons rfl (fun K hK => ?_) AllReadyH.nil
              go_simp
              refine HQ13.mono ?_
              rintro e w14 ⟨rfl, hb14⟩
              have HK14 : Hid (LK w g a cap p cp v q c xs g5 a5 p5 s6 q7 w5.heap.size w7.heap.size w14) := HK13.out.on hb14
              clear hb14
              refine hK.out _ _ HK14.out (fun hH3 => ?_)
              clear hK K
              refine wpAnyH_take (i := 4) (v := (.bool false)) rfl (by kernel_rfl) (by kernel_rfl) (by kernel_rfl) (fun _ _ _ h => h) (Or.inl ⟨by kernel_rfl, ?_⟩) hH3 ?_
              · intro W hW
                go_simp
              refine wpAnyH_done (by kernel_rfl) ?_ _
              go_wp2
              go_meet
              case rel => exact ⟨rfl, HK14⟩
            case rest =>
              clear HK12
              obtain ⟨rfl, HK14⟩ := hcut
              go_wp2
              go_ret
              exact ⟨rfl, HK14.out.la.below⟩
      · have HS3 : Hid ((if (v.text.size : Int) + v.prev.length ≤ M then M - v.text.size - v.prev.length else -1) = -1) := if_neg hs3
        clear h h2 hx hs hs2 hs3 hn HS HS2
        go_enter Tryz.func3, Tryz.ntmps3
        go_wp2_with fail
        refine (sz_graph g a cap p cp 1048576 _ (HR.out _ HL0.out.below).1 (HR.out _ HL0.out.below).2 (by omega) (by omega)).mono ?_
        rintro e w1 ⟨rfl, hb1⟩
        rw [← HL.out]
        have HL1 : Hid (LA w g a cap p cp v q c w1) := HL0.out.on hb1
        clear hb1 m1 m2 HL0
        obtain ⟨m1, m2⟩ := HL1.out.cells
        go_wp2_with fail
        refine (sz_entries xs s cs L _ hlx hL hL2).mono ?_
        rintro e w1' ⟨rfl, rfl⟩
        rw [← HM.out]
        go_wp2_with fail
        refine (sz_event v q c M _ hM hM2 ht hp).mono ?_
        rintro e w2 ⟨rfl, hb2⟩
        rw [HS3.out]
        have HL2 : Hid (LA w g a cap p cp v q c w2) := HL1.out.on hb2
        clear hb2
        go_wp2
        go_ret
        exact ⟨rfl, HL2.out.below⟩
    · have HS2 : Hid (szN xs.length L = -1) := szN_no hs2
      clear h h2 hx hs hs2 hn HS
      go_enter Tryz.func3, Tryz.ntmps3
      go_wp2_with fail
      refine (sz_graph g a cap p cp 1048576 _ (HR.out _ HL0.out.below).1 (HR.out _ HL0.out.below).2 (by omega) (by omega)).mono ?_
      rintro e w1 ⟨rfl, hb1⟩
      rw [← HL.out]
      have HL1 : Hid (LA w g a cap p cp v q c w1) := HL0.out.on hb1
      clear hb1
      go_wp2_with fail
      refine (sz_entries xs s cs L _ hlx hL hL2).mono ?_
      rintro e w1' ⟨rfl, rfl⟩
      rw [HS2.out]
      go_wp2
      go_ret
      exact ⟨rfl, HL1.out.below⟩
  · have HS : Hid (szB (wt g.evs + wt g.pk) 1048576 = -1) := szB_no hs
    clear h h2 hx hs hn
    go_enter Tryz.func3, Tryz.ntmps3
    go_wp2_with fail
    refine (sz_graph g a cap p cp 1048576 _ (HR.out _ HL0.out.below).1 (HR.out _ HL0.out.below).2 (by omega) (by omega)).mono ?_
    rintro e w1 ⟨rfl, hb1⟩
    rw [HS.out]
    have HL1 : Hid (LA w g a cap p cp v q c w1) := HL0.out.on hb1
    clear hb1
    go_wp2
    go_ret
    exact ⟨rfl, HL1.out.below⟩
end Go.Proofs.YtdldblfopcbfeaaGreatDoor
