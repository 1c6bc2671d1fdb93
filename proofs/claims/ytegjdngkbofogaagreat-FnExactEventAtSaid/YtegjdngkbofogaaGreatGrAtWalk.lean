/- The law on EventAt walked. -/
import Derived.Test.YtegjdngkbofogaaGreatGrAtLaw
namespace Go.Proofs.YtegjdngkbofogaaGreat
open Go.RowKit

theorem owns_below {w w' : World} {base n : Nat} {e : TypeId} {u : Value} {xs : List Value} (h : w.ownsRow base e 1 u n xs) (hb : Below w.heap.size w w') : w'.ownsRow base e 1 u n xs := by
  rcases h.2 with h1 | ⟨g, cap, cur, hv, hbg, hh, r⟩
  · exact ⟨h.1, .inl h1⟩
  · exact ⟨h.1, .inr ⟨g, cap, cur, hv, hbg, (hb.block g (Array.getElem?_eq_some_iff.1 hh).1).trans hh, r⟩⟩
theorem owns_wr {w w' : World} {lo hi base n : Nat} {e : TypeId} {u : Value} {xs : List Value} (h : w.ownsRow base e 1 u n xs) (hw : Wr lo hi w w') (hb : hi ≤ base) : w'.ownsRow base e 1 u n xs := by
  rcases h.2 with h1 | ⟨g, cap, cur, hv, hbg, hh, r⟩
  · exact ⟨h.1, .inl h1⟩
  · exact ⟨h.1, .inr ⟨g, cap, cur, hv, hbg, (hw.block g (Array.getElem?_eq_some_iff.1 hh).1 (by omega)).trans hh, r⟩⟩
theorem LA.own {w : World} {g : Gr} {a : Option Addr} {cap : Nat} {p : Option Addr} {cp : Nat} {v : Ev} {B6 B7 B8 : Nat} {q3 : Option Addr} {c3 : Nat} {a4 p4 q5 : Option Addr} {c5 : Nat} {V V' : World} (h : LA w g a cap p cp v B6 B7 B8 q3 c3 a4 p4 q5 c5 V) {row : Option Nat} (hg : V.grownBy V' row) (hr : ∀ j, row = some j → w.heap.size < j ∧ B6 < j ∧ j ≠ B7 ∧ j ≠ B8) : LA w g a cap p cp v B6 B7 B8 q3 c3 a4 p4 q5 c5 V' := by
  have blk : ∀ b o, V.heap[b]? = some o → (∀ j, row = some j → b ≠ j) → V'.heap[b]? = some o := fun b o hb hn => (hg.block b (Array.getElem?_eq_some_iff.1 hb).1 (fun e => hn b e.symm rfl)).trans hb
  refine ⟨blk _ _ h.b0 (fun j hj => by have := hr j hj; omega), blk _ _ h.b6 (fun j hj => by have := hr j hj; omega), blk _ _ h.b7 (fun j hj => by have := hr j hj; omega), blk _ _ h.b8 (fun j hj => by have := hr j hj; omega), ⟨h.n3.1, fun hp => ?_⟩, h.u3, h.below.grown hg h.below.size (fun j hj => by have := hr j hj; omega)⟩
  obtain ⟨b, off, hq, hb, hc⟩ := h.n3.2 hp
  have hbl := h.u3 hp _ hq
  simp at hbl
  refine ⟨b, off, hq, Nat.lt_of_lt_of_le hb hg.size, fun j hj => ?_⟩
  rw [World.cell?_of_block (a := ⟨b, off + j, none⟩) (hg.block b hb (fun e => by have := hr b e.symm; omega))]
  exact hc j hj
set_option maxHeartbeats 8000000 in
set_option maxRecDepth 100000 in
theorem walk_fnExactEventAt_gr (g : Gr) (a : Option Addr) (cap : Nat) (p : Option Addr) (cp : Nat) (id : Int) (w : World) (h : EvsRaw w a g.evs) (h2 : EvsRaw w p g.pk) (hwid : (Lit.int .i64 id).wf = true) :
    Calls Tryz.prog 3 #[.agg #[.int .i64 g.room, .slice a g.evs.length cap, .slice p g.pk.length cp], .int .i64 id] w fun e w' => e = .returned (.bool true) ∧ Below w.heap.size w w' := by
  have HB0 : Hid (∀ o, Below w.heap.size w (w.alloc o)) := fun o => (Below.refl _ _).alloc (Nat.le_refl _) o
  have HR : Hid (∀ w', Below w.heap.size w w' → EvsRaw w' a g.evs ∧ EvsRaw w' p g.pk) := fun w' hb => ⟨h.kept hb, h2.kept hb⟩
  by_cases hs : ((wt g.evs + wt g.pk : Nat) : Int) ≤ 1048576
  · have HE : Hid (∀ w', Below w.heap.size w w' → EvsAt w' a g.evs ∧ EvsAt w' p g.pk) := fun w' hb => ⟨(h.kept hb).at (by omega), (h2.kept hb).at (by omega)⟩
    have HSW : Hid (wt g.evs + wt g.pk ≤ 1048576) := by unfold Hid; omega
    have HS : Hid (szB (wt g.evs + wt g.pk) 1048576 = 1048576 - (wt g.evs + wt g.pk : Nat)) := szB_yes hs
    obtain ⟨L, HL⟩ : ∃ L : Int, Hid (L = szB (wt g.evs + wt g.pk) 1048576) := ⟨szB (wt g.evs + wt g.pk) 1048576, (rfl : (szB (wt g.evs + wt g.pk) 1048576 : Int) = _)⟩
    have hL : 0 ≤ L := by rw [HL.out, HS.out]; omega
    obtain ⟨v, HV⟩ : ∃ v, Hid (v = evG g id) := ⟨evG g id, (rfl : evG g id = _)⟩
    have hv4 : v.prev.length ≤ 4 := by rw [HV.out]; exact (evG_short g id).1
    have hv20 : v.prev.length ≤ 1048576 := by omega
    clear h h2 hs
    go_enter Tryz.func3, Tryz.ntmps3
    go_wp2_with fail
    refine (sz_graph g a cap p cp 1048576 _ (HR.out _ (HB0.out _)).1 (HR.out _ (HB0.out _)).2 (by omega) (by omega)).mono ?_
    rintro e w1 ⟨rfl, hb1⟩
    rw [← HL.out]
    obtain ⟨hc1, hf1⟩ := bcell hb1
    have hz1 : w.heap.size < w1.heap.size := by have := hb1.size; simp at this; omega
    have e1 : Hid (w1.heap[w.heap.size]? = some (.cells #[.int .i64 g.room, .slice a g.evs.length cap, .slice p g.pk.length cp] 24 (0, 0))) := (hb1.block _ (by simp)).trans (MapKept.heap_alloc w _).1
    have HW1 : Hid (Below w.heap.size w w1) := (HB0.out _).trans (hb1.mono (by simp))
    clear hb1
    go_wp2_with fail
    refine (to_graph g a cap p cp _ (HE.out _ HW1.out).1 (HE.out _ HW1.out).2).mono ?_
    rintro e w2 ⟨g2, a2, p2, rfl, hn2⟩
    have hz2 : w.heap.size < w2.heap.size := Nat.lt_of_lt_of_le hz1 hn2.evs.below.size
    have e2 : Hid (w2.heap[w.heap.size]? = some (.cells #[.int .i64 g.room, .slice a g.evs.length cap, .slice p g.pk.length cp] 24 (0, 0))) := (hn2.evs.below.block _ hz1).trans e1.out
    have HW2 : Hid (Below w.heap.size w w2) := HW1.out.trans (hn2.evs.below.mono HW1.out.size)
    have HG2 := eventAt_spec g2 id a2 g.evs.length p2 g.pk.length w2 hn2.evs.row.at hn2.pk.row.at
    rw [hn2.room, hn2.evs.len, hn2.pk.len, evG_same hn2.room hn2.evs.same hn2.pk.same, ← HV.out] at HG2
    clear hn2 hc1 hf1
    go_wp2_with fail
    refine HG2.mono ?_
    rintro e w3 ⟨q3, c3, rfl, ho3, hb3⟩
    have hz3 : w.heap.size < w3.heap.size := Nat.lt_of_lt_of_le hz2 hb3.size
    have e3 : Hid (w3.heap[w.heap.size]? = some (.cells #[.int .i64 g.room, .slice a g.evs.length cap, .slice p g.pk.length cp] 24 (0, 0))) := (hb3.block _ hz2).trans e2.out
    have h03 : ∀ k, w3.cell? ⟨w.heap.size, k, none⟩ = _ := fun k => cell_of_heap e3.out
    have HW3 : Hid (Below w.heap.size w w3) := HW2.out.trans (hb3.mono HW2.out.size)
    have HN3 : Hid (NumsAt w3 q3 v.prev) := numsAt_of ho3 hv20
    clear ho3 hb3 HG2
    have HX3 : Hid (∀ o, Below w.heap.size w (w3.alloc o)) := fun o => HW3.out.alloc (Nat.le_of_lt hz3) o
    go_wp2_with fail
    refine (to_graph g a cap p cp _ (HE.out _ (HX3.out _)).1 (HE.out _ (HX3.out _)).2).mono ?_
    rintro e w4 ⟨g4, a4, p4, rfl, hn4⟩
    have hb4 := hn4.evs.below
    have s3 : (w3.alloc (.cells #[.int .i64 v.id, .int .i64 v.room, .int .i64 v.author, .int .i64 v.kind, .int .i64 v.key, .int .i64 v.n, .string v.text, .slice q3 v.prev.length c3, .int .i64 v.time] 28)).heap.size = w3.heap.size + 1 := by simp
    have hz4 : w3.heap.size < w4.heap.size := by have := hb4.size; omega
    have e40 : Hid (w4.heap[w.heap.size]? = some (.cells #[.int .i64 g.room, .slice a g.evs.length cap, .slice p g.pk.length cp] 24 (0, 0))) := (hb4.block _ (by omega)).trans ((Below.heap_alloc _ _ _ hz3).trans e3.out)
    have e46 : Hid (w4.heap[w3.heap.size]? = some (.cells #[.int .i64 v.id, .int .i64 v.room, .int .i64 v.author, .int .i64 v.kind, .int .i64 v.key, .int .i64 v.n, .string v.text, .slice q3 v.prev.length c3, .int .i64 v.time] 28 (0, 0))) := (hb4.block _ (by omega)).trans (MapKept.heap_alloc w3 _).1
    have HW4 : Hid (Below w.heap.size w w4) := (HX3.out _).trans (hb4.mono (HX3.out _).size)
    have HN4 : Hid (NumsAt w4 q3 v.prev) := (HN3.out.kept ((Below.refl _ _).alloc (Nat.le_refl _) _)).kept hb4
    have HU3 : Hid (0 < v.prev.length → ∀ x, q3 = some x → x.block < w3.heap.size) := fun hp x hx => by
      obtain ⟨b, off, hq, hb, _⟩ := HN3.out.2 hp
      rw [hq] at hx
      cases hx
      exact hb
    have HGN : Hid (GrNew (w3.alloc (.cells #[.int .i64 v.id, .int .i64 v.room, .int .i64 v.author, .int .i64 v.kind, .int .i64 v.key, .int .i64 v.n, .string v.text, .slice q3 v.prev.length c3, .int .i64 v.time] 28)) g g4 a4 p4 w4) := hn4
    have HG5 : ∀ o, Calls Tryz.prog 10 #[.agg #[.int .i64 g.room, .slice a4 g.evs.length g.evs.length, .slice p4 g.pk.length g.pk.length], .int .i64 id] (w4.alloc o) (EvPost v (w4.alloc o)) := fun o => by
      have := eventAt_impl g4 id (bounds_i64 hwid) a4 g.evs.length p4 g.pk.length (w4.alloc o) (hn4.evs.row.at.kept ((Below.refl _ _).alloc (Nat.le_refl _) _)) (hn4.pk.row.at.kept ((Below.refl _ _).alloc (Nat.le_refl _) _))
      rwa [hn4.room, hn4.evs.len, hn4.pk.len, evG_same hn4.room hn4.evs.same hn4.pk.same, ← HV.out] at this
    clear hn4 hb4 h03 e3
    go_wp2_with fail
    refine (HG5 _).mono ?_
    rintro e w5 ⟨q5, c5, rfl, ho5, hb5⟩
    have s4 : (w4.alloc (.cells #[.int .i64 g.room, .slice a4 g.evs.length g.evs.length, .slice p4 g.pk.length g.pk.length] 32)).heap.size = w4.heap.size + 1 := by simp
    rw [s4] at ho5
    have hz5 : w4.heap.size < w5.heap.size := by have := hb5.size; omega
    have hz35 : w3.heap.size < w5.heap.size := by omega
    have hz05 : w.heap.size < w5.heap.size := by omega
    have e50 : Hid (w5.heap[w.heap.size]? = some (.cells #[.int .i64 g.room, .slice a g.evs.length cap, .slice p g.pk.length cp] 24 (0, 0))) := (hb5.block _ (by omega)).trans ((Below.heap_alloc _ _ _ (by omega)).trans e40.out)
    have e56 : Hid (w5.heap[w3.heap.size]? = some (.cells #[.int .i64 v.id, .int .i64 v.room, .int .i64 v.author, .int .i64 v.kind, .int .i64 v.key, .int .i64 v.n, .string v.text, .slice q3 v.prev.length c3, .int .i64 v.time] 28 (0, 0))) := (hb5.block _ (by omega)).trans ((Below.heap_alloc _ _ _ hz4).trans e46.out)
    have e57 : Hid (w5.heap[w4.heap.size]? = some (.cells #[.int .i64 g.room, .slice a4 g.evs.length g.evs.length, .slice p4 g.pk.length g.pk.length] 32 (0, 0))) := (hb5.block _ (by omega)).trans (MapKept.heap_alloc w4 _).1
    have HB45 : Hid (Below w4.heap.size w4 w5) := ((Below.refl _ _).alloc (Nat.le_refl _) _).trans (hb5.mono (by simp))
    have HL5 : Hid (LA w g a cap p cp v w3.heap.size w4.heap.size w5.heap.size q3 c3 a4 p4 q5 c5 (w5.alloc (.cells #[.int .i64 v.id, .int .i64 v.room, .int .i64 v.author, .int .i64 v.kind, .int .i64 v.key, .int .i64 v.n, .string v.text, .slice q5 v.prev.length c5, .int .i64 v.time] 28))) := ⟨(Below.heap_alloc _ _ _ hz05).trans e50.out, (Below.heap_alloc _ _ _ hz35).trans e56.out, (Below.heap_alloc _ _ _ hz5).trans e57.out, (MapKept.heap_alloc w5 _).1, (HN4.out.kept HB45.out).kept ((Below.refl _ _).alloc (Nat.le_refl _) _), HU3.out, (HW4.out.trans (HB45.out.mono HW4.out.size)).alloc (by omega) _⟩
    have HO5 : Hid ((w5.alloc (.cells #[.int .i64 v.id, .int .i64 v.room, .int .i64 v.author, .int .i64 v.kind, .int .i64 v.key, .int .i64 v.n, .string v.text, .slice q5 v.prev.length c5, .int .i64 v.time] 28)).ownsRow (w4.heap.size + 1) 2 1 (.slice q5 v.prev.length c5) v.prev.length (nv v.prev)) := owns_below ho5 ((Below.refl _ _).alloc (Nat.le_refl _) _)
    have h65 : ∀ k, w5.cell? ⟨w3.heap.size, k, none⟩ = _ := fun k => cell_of_heap e56.out
    clear ho5 hb5 HG5 s4 s3 e40 e46
    go_wp2_with fail
    refine (eq_event v q5 q3 c5 c3 _ (numsAt_of HO5.out hv20) HL5.out.n3).mono ?_
    rintro e w6 ⟨rfl, hb6⟩
    have HL6 : Hid (LA w g a cap p cp v w3.heap.size w4.heap.size w5.heap.size q3 c3 a4 p4 q5 c5 w6) := HL5.out.on hb6
    have HO6 : Hid (w6.ownsRow (w4.heap.size + 1) 2 1 (.slice q5 v.prev.length c5) v.prev.length (nv v.prev)) := owns_below HO5.out hb6
    have HB46 : Hid (Below w4.heap.size w4 w6) := (HB45.out.alloc (Nat.le_of_lt hz5) _).trans (hb6.mono (by simp; omega))
    have hz56 : w5.heap.size < w6.heap.size := by have := hb6.size; simp at this; omega
    have hz46 : w4.heap.size < w6.heap.size := by omega
    have hz36 : w3.heap.size < w6.heap.size := by omega
    have hz06 : w.heap.size < w6.heap.size := by omega
    have h0w6 : ∀ k, w6.cell? ⟨w.heap.size, k, none⟩ = _ := (fun k => cell_of_heap HL6.out.b0); have h6w6 : ∀ k, w6.cell? ⟨w3.heap.size, k, none⟩ = _ := (fun k => cell_of_heap HL6.out.b6); have h7w6 : ∀ k, w6.cell? ⟨w4.heap.size, k, none⟩ = _ := (fun k => cell_of_heap HL6.out.b7); have h8w6 : ∀ k, w6.cell? ⟨w5.heap.size, k, none⟩ = _ := (fun k => cell_of_heap HL6.out.b8)
    clear hb6 h65
    go_wp2_with fail
    go_cut [35] (fun r wx => r = .bool false ∧ Below w6.heap.size w6 wx)
    case first =>
      first
        | (go_region_with (first
            | (go_at_call 9; refine (to_graph g a cap p cp _ (HE.out _ HL6.out.below.drew).1 (HE.out _ HL6.out.below.drew).2).mono ?_; rintro e w7 ⟨g7, a7, p7, rfl, hn7⟩; have hc7 : ∀ b o, b < w6.heap.size → w7.cell? ⟨b, o, none⟩ = w6.cell? ⟨b, o, none⟩ := (bcell hn7.evs.below).1; have HW7 : Hid (Below w6.heap.size w6 w7) := (Below.drew (Below.refl _ _)).trans hn7.evs.below; have HY7 : Hid (Below w4.heap.size w4 w7) := HB46.out.trans (HW7.out.mono (Nat.le_of_lt hz46)); have HQ7 := eq_graph g4 g7 a4 p4 a7 p7 g.evs.length g.pk.length g.evs.length g.pk.length w7 (HGN.out.evs.row.at.kept HY7.out) (HGN.out.pk.row.at.kept HY7.out) hn7.evs.row.at hn7.pk.row.at (HGN.out.evs.same.trans hn7.evs.same.symm) (HGN.out.pk.same.trans hn7.pk.same.symm); rw [HGN.out.room, HGN.out.evs.len, HGN.out.pk.len] at HQ7)
            | (go_at_call 12; refine HQ7.mono ?_; rintro e w8 ⟨rfl, hb8⟩; have HW8 : Hid (Below w6.heap.size w6 w8) := HW7.out.trans (hb8.mono HW7.out.size))))
        | fail
      all_goals go_wp2_with fail
      all_goals go_meet
      all_goals exact ⟨rfl, HW8.out⟩
    case rest =>
      obtain ⟨rfl, hb8⟩ := hcut
      have HL8 : Hid (LA w g a cap p cp v w3.heap.size w4.heap.size w5.heap.size q3 c3 a4 p4 q5 c5 wc) := HL6.out.on hb8
      have HO8 : Hid (wc.ownsRow (w4.heap.size + 1) 2 1 (.slice q5 v.prev.length c5) v.prev.length (nv v.prev)) := owns_below HO6.out hb8
      have HB48 : Hid (Below w4.heap.size w4 wc) := HB46.out.trans (hb8.mono (Nat.le_of_lt hz46))
      have HMK := mark_graph (w3.alloc (.cells #[.int .i64 v.id, .int .i64 v.room, .int .i64 v.author, .int .i64 v.kind, .int .i64 v.key, .int .i64 v.n, .string v.text, .slice q3 v.prev.length c3, .int .i64 v.time] 28)) w4 wc g g4 a4 p4 g.evs.length g.pk.length g.room HGN.out HB48.out (by rw [wt_same HGN.out.evs.same, wt_same HGN.out.pk.same]; exact HSW.out)
      rw [HGN.out.evs.len, HGN.out.pk.len] at HMK
      have h0wc : ∀ k, wc.cell? ⟨w.heap.size, k, none⟩ = _ := (fun k => cell_of_heap HL8.out.b0); have h6wc : ∀ k, wc.cell? ⟨w3.heap.size, k, none⟩ = _ := (fun k => cell_of_heap HL8.out.b6); have h7wc : ∀ k, wc.cell? ⟨w4.heap.size, k, none⟩ = _ := (fun k => cell_of_heap HL8.out.b7); have h8wc : ∀ k, wc.cell? ⟨w5.heap.size, k, none⟩ = _ := (fun k => cell_of_heap HL8.out.b8)
      clear hb8
      go_wp2_with fail
      refine HMK.mono ?_
      rintro e w9 ⟨K, rfl, hK, hw9⟩
      have HL9 : Hid (LA w g a cap p cp v w3.heap.size w4.heap.size w5.heap.size q3 c3 a4 p4 q5 c5 w9) := HL8.out.far hw9 (Nat.le_of_lt hz3) (by simp) (Nat.le_refl _) (Nat.le_of_lt hz5)
      have HO9 : Hid (w9.ownsRow (w4.heap.size + 1) 2 1 (.slice q5 v.prev.length c5) v.prev.length (nv v.prev)) := owns_wr HO8.out hw9 (Nat.le_succ _)
      have h0w9 : ∀ k, w9.cell? ⟨w.heap.size, k, none⟩ = _ := (fun k => cell_of_heap HL9.out.b0); have h6w9 : ∀ k, w9.cell? ⟨w3.heap.size, k, none⟩ = _ := (fun k => cell_of_heap HL9.out.b6); have h7w9 : ∀ k, w9.cell? ⟨w4.heap.size, k, none⟩ = _ := (fun k => cell_of_heap HL9.out.b7); have h8w9 : ∀ k, w9.cell? ⟨w5.heap.size, k, none⟩ = _ := (fun k => cell_of_heap HL9.out.b8)
      clear hw9 HMK
      go_wp2_with fail
      refine (eq_event v q5 q3 c5 c3 _ (numsAt_of HO9.out hv20) HL9.out.n3).mono ?_
      rintro e w10 ⟨rfl, hb10⟩
      have HL10 : Hid (LA w g a cap p cp v w3.heap.size w4.heap.size w5.heap.size q3 c3 a4 p4 q5 c5 w10) := HL9.out.on hb10
      have HO10 : Hid (w10.ownsRow (w4.heap.size + 1) 2 1 (.slice q5 v.prev.length c5) v.prev.length (nv v.prev)) := owns_below HO9.out hb10
      have h0w10 : ∀ k, w10.cell? ⟨w.heap.size, k, none⟩ = _ := (fun k => cell_of_heap HL10.out.b0); have h6w10 : ∀ k, w10.cell? ⟨w3.heap.size, k, none⟩ = _ := (fun k => cell_of_heap HL10.out.b6); have h7w10 : ∀ k, w10.cell? ⟨w4.heap.size, k, none⟩ = _ := (fun k => cell_of_heap HL10.out.b7); have h8w10 : ∀ k, w10.cell? ⟨w5.heap.size, k, none⟩ = _ := (fun k => cell_of_heap HL10.out.b8)
      clear hb10
      go_wp2_with fail
      refine (mark_event (w4.heap.size + 1) v q5 c5 1 _ HO10.out hv4 (by omega) (by omega)).mono ?_
      rintro e w11 ⟨rfl, ho11, hg11⟩
      have HL11 : Hid (LA w g a cap p cp v w3.heap.size w4.heap.size w5.heap.size q3 c3 a4 p4 q5 c5 w11) := by
        refine HL10.out.own hg11 (fun j hj => ?_)
        rcases HO10.out.2 with ⟨h1, _⟩ | ⟨g5, cp5, cur5, h1, hb5, hh5, _⟩
        · rw [h1] at hj
          cases hj
        · rw [h1] at hj
          cases hj
          refine ⟨by show w.heap.size < g5; omega, by show w3.heap.size < g5; omega, by show g5 ≠ _; omega, fun e => ?_⟩
          have h8 := HL10.out.b8
          rw [← e] at h8
          rw [hh5] at h8
          simp at h8
      have HNM11 : Hid (NumsAt w11 q5 (marks 1 v.prev.length)) := numsAt_of (zs := marks 1 v.prev.length) (by rw [marks_len]; exact ho11) (by rw [marks_len]; omega)
      have h0w11 : ∀ k, w11.cell? ⟨w.heap.size, k, none⟩ = _ := (fun k => cell_of_heap HL11.out.b0); have h6w11 : ∀ k, w11.cell? ⟨w3.heap.size, k, none⟩ = _ := (fun k => cell_of_heap HL11.out.b6); have h7w11 : ∀ k, w11.cell? ⟨w4.heap.size, k, none⟩ = _ := (fun k => cell_of_heap HL11.out.b7); have h8w11 : ∀ k, w11.cell? ⟨w5.heap.size, k, none⟩ = _ := (fun k => cell_of_heap HL11.out.b8)
      clear ho11 hg11
      go_wp2_with fail
      refine (held_event v q5 c5 1 _ HNM11.out hv4 (by omega) (by omega)).mono ?_
      rintro e w12 ⟨rfl, hb12⟩
      have HL12 : Hid (LA w g a cap p cp v w3.heap.size w4.heap.size w5.heap.size q3 c3 a4 p4 q5 c5 w12) := HL11.out.on hb12
      have HNM12 : Hid (NumsAt w12 q5 (marks 1 v.prev.length)) := HNM11.out.kept hb12
      have h0w12 : ∀ k, w12.cell? ⟨w.heap.size, k, none⟩ = _ := (fun k => cell_of_heap HL12.out.b0); have h6w12 : ∀ k, w12.cell? ⟨w3.heap.size, k, none⟩ = _ := (fun k => cell_of_heap HL12.out.b6); have h7w12 : ∀ k, w12.cell? ⟨w4.heap.size, k, none⟩ = _ := (fun k => cell_of_heap HL12.out.b7); have h8w12 : ∀ k, w12.cell? ⟨w5.heap.size, k, none⟩ = _ := (fun k => cell_of_heap HL12.out.b8)
      clear hb12
      go_wp2_with fail
      refine (to_graph g a cap p cp _ (HE.out _ HL12.out.below).1 (HE.out _ HL12.out.below).2).mono ?_
      rintro e w13 ⟨g13, a13, p13, rfl, hn13⟩
      have HL13 : Hid (LA w g a cap p cp v w3.heap.size w4.heap.size w5.heap.size q3 c3 a4 p4 q5 c5 w13) := HL12.out.on hn13.evs.below
      have HNM13 : Hid (NumsAt w13 q5 (marks 1 v.prev.length)) := HNM12.out.kept hn13.evs.below
      have HG14 := eventAt_impl g13 id (bounds_i64 hwid) a13 g.evs.length p13 g.pk.length w13 hn13.evs.row.at hn13.pk.row.at
      rw [hn13.room, hn13.evs.len, hn13.pk.len, evG_same hn13.room hn13.evs.same hn13.pk.same, ← HV.out] at HG14
      clear hn13
      go_wp2_with fail
      refine HG14.mono ?_
      rintro e w14 ⟨q14, c14, rfl, ho14, hb14⟩
      have HL14 : Hid (LA w g a cap p cp v w3.heap.size w4.heap.size w5.heap.size q3 c3 a4 p4 q5 c5 w14) := HL13.out.on hb14
      have HV14 : Hid (∀ o, LA w g a cap p cp v w3.heap.size w4.heap.size w5.heap.size q3 c3 a4 p4 q5 c5 (w14.alloc o)) := fun o => HL14.out.on ((Below.refl _ _).alloc (Nat.le_refl _) _)
      have HNM14 : Hid (∀ o, NumsAt (w14.alloc o) q5 (marks 1 v.prev.length)) := fun o => (HNM13.out.kept hb14).kept ((Below.refl _ _).alloc (Nat.le_refl _) _)
      have HQ14 : Hid (∀ o, NumsAt (w14.alloc o) q14 v.prev) := fun o => (numsAt_of ho14 hv20).kept ((Below.refl _ _).alloc (Nat.le_refl _) _)
      have hz314 : w3.heap.size < w14.heap.size := (Array.getElem?_eq_some_iff.1 HL14.out.b6).1
      have h0w14 : ∀ k, w14.cell? ⟨w.heap.size, k, none⟩ = _ := (fun k => cell_of_heap HL14.out.b0); have h6w14 : ∀ k, w14.cell? ⟨w3.heap.size, k, none⟩ = _ := (fun k => cell_of_heap HL14.out.b6); have h7w14 : ∀ k, w14.cell? ⟨w4.heap.size, k, none⟩ = _ := (fun k => cell_of_heap HL14.out.b7); have h8w14 : ∀ k, w14.cell? ⟨w5.heap.size, k, none⟩ = _ := (fun k => cell_of_heap HL14.out.b8)
      clear ho14 hb14 HG14
      go_wp2_with fail
      refine (eq_event v q14 q3 c14 c3 _ (HQ14.out _) (HV14.out _).n3).mono ?_
      rintro e w15 ⟨rfl, hb15⟩
      have HL15 : Hid (LA w g a cap p cp v w3.heap.size w4.heap.size w5.heap.size q3 c3 a4 p4 q5 c5 w15) := (HV14.out _).on hb15
      have HNM15 : Hid (NumsAt w15 q5 (marks 1 v.prev.length)) := (HNM14.out _).kept hb15
      have h0w15 : ∀ k, w15.cell? ⟨w.heap.size, k, none⟩ = _ := (fun k => cell_of_heap HL15.out.b0); have h6w15 : ∀ k, w15.cell? ⟨w3.heap.size, k, none⟩ = _ := (fun k => cell_of_heap HL15.out.b6); have h7w15 : ∀ k, w15.cell? ⟨w4.heap.size, k, none⟩ = _ := (fun k => cell_of_heap HL15.out.b7); have h8w15 : ∀ k, w15.cell? ⟨w5.heap.size, k, none⟩ = _ := (fun k => cell_of_heap HL15.out.b8)
      clear hb15
      go_wp2_with fail
      refine (held_event v q5 c5 1 _ HNM15.out hv4 (by omega) (by omega)).mono ?_
      rintro e w16 ⟨rfl, hb16⟩
      have HW16 : Hid (Below w.heap.size w w16) := HL15.out.below.trans (hb16.mono HL15.out.below.size)
      clear hb16
      go_wp2
      go_ret
      exact ⟨rfl, HW16.out⟩
  · have HS : Hid (szB (wt g.evs + wt g.pk) 1048576 = -1) := szB_no hs
    clear h h2 hs
    go_enter Tryz.func3, Tryz.ntmps3
    go_wp2_with fail
    refine (sz_graph g a cap p cp 1048576 _ (HR.out _ (HB0.out _)).1 (HR.out _ (HB0.out _)).2 (by omega) (by omega)).mono ?_
    rintro e w1 ⟨rfl, hb1⟩
    rw [HS.out]
    have HW1 : Hid (Below w.heap.size w w1) := (HB0.out _).trans (hb1.mono (by simp))
    clear hb1
    go_wp2
    go_ret
    exact ⟨rfl, HW1.out⟩
end Go.Proofs.YtegjdngkbofogaaGreat
