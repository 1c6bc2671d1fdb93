/- The law on GraphPut walked. -/
import Derived.Test.YtobkinocaomcmaaGreatZGpLaw
import Derived.Deep.DeepCutAuto
namespace Go.Proofs.YtobkinocaomcmaaGreat
open Go.RowKit

set_option maxHeartbeats 16000000 in
set_option maxRecDepth 100000 in
theorem walk_put (g : Gr) (a : Option Addr) (cap : Nat) (p : Option Addr) (cp : Nat) (x : Em) (w : World) (h : EvsRaw w a g.evs) (h2 : EvsRaw w p g.pk) (ht : x.v.text.size ≤ maxLen) (hpl : x.v.prev.length ≤ maxLen) (hn : x.v.prev.length ≤ 1048576 → NumsAt w x.p x.v.prev) :
    Calls Tryz.prog 3 #[.agg #[.int .i64 g.room, .slice a g.evs.length cap, .slice p g.pk.length cp], .agg #[.int .i64 x.v.id, .int .i64 x.v.room, .int .i64 x.v.author, .int .i64 x.v.kind, .int .i64 x.v.key, .int .i64 x.v.n, .string x.v.text, .slice x.p x.v.prev.length x.c, .int .i64 x.v.time]] w fun e w' => e = .returned (.bool true) ∧ Below w.heap.size w w' := by
  have HLB := LB.start w g a cap p cp x
  have HR : Hid (∀ w', Below w.heap.size w w' → EvsRaw w' a g.evs ∧ EvsRaw w' p g.pk) := fun w' hb => ⟨h.kept hb, h2.kept hb⟩
  by_cases hs : ((wt g.evs + wt g.pk : Nat) : Int) ≤ 1048576
  · have HE : Hid (∀ w', Below w.heap.size w w' → EvsAt w' a g.evs ∧ EvsAt w' p g.pk) := fun w' hb => ⟨(h.kept hb).at (by omega), (h2.kept hb).at (by omega)⟩
    have HSW : Hid (wt g.evs + wt g.pk ≤ 1048576) := by unfold Hid; omega
    have HS : Hid (szB (wt g.evs + wt g.pk) 1048576 = 1048576 - (wt g.evs + wt g.pk : Nat)) := szB_yes hs
    obtain ⟨L, HL⟩ : ∃ L : Int, Hid (L = szB (wt g.evs + wt g.pk) 1048576) := ⟨szB (wt g.evs + wt g.pk) 1048576, (rfl : (szB (wt g.evs + wt g.pk) 1048576 : Int) = _)⟩
    have hL : 0 ≤ L := by rw [HL.out, HS.out]; omega
    have hL2 : L ≤ 1048576 := by rw [HL.out, HS.out]; omega
    by_cases hs2 : (x.v.text.size : Int) + x.v.prev.length ≤ L
    · have hxl : x.v.prev.length ≤ 1048576 := by omega
      have HX : Hid (∀ w', Below w.heap.size w w' → NumsAt w' x.p x.v.prev) := fun w' hb => (hn hxl).kept hb
      obtain ⟨L2, HL2⟩ : ∃ L2 : Int, Hid (L2 = if (x.v.text.size : Int) + x.v.prev.length ≤ L then L - x.v.text.size - x.v.prev.length else -1) := ⟨_, rfl⟩
      have hL20 : 0 ≤ L2 := by rw [HL2.out, if_pos hs2]; omega
      obtain ⟨P, n1, n2, n3, room, code, HPV⟩ : ∃ P n1 n2 n3 room code, Hid (PV P g x n1 n2 n3 room code) := ⟨gpV g x, _, _, _, _, _, ⟨rfl, rfl, rfl, rfl, rfl, rfl⟩⟩
      clear h h2 hs hs2 hn
      go_enter Tryz.func3, Tryz.ntmps3
      go_wp2_with fail
      refine (sz_graph g a cap p cp 1048576 _ (HR.out _ HLB.below).1 (HR.out _ HLB.below).2 (by omega) (by omega)).mono ?_
      rintro e w1 ⟨rfl, hb1⟩
      rw [← HL.out]
      have HB1 : Hid (LB w g a cap p cp x w1) := HLB.on hb1
      have h1w1 : ∀ k, w1.cell? ⟨w.heap.size + 1, k, none⟩ = _ := fun k => cell_of_heap HB1.out.b1
      clear hb1 HLB
      go_wp2_with fail
      refine (sz_event x.v x.p x.c L _ hL hL2 ht hpl).mono ?_
      rintro e w2 ⟨rfl, hb2⟩
      rw [← HL2.out]
      have HBX : Hid (LB w g a cap p cp x w2) := HB1.out.on hb2
      clear hb2 HB1 h1w1
      go_wp2
      go_cut [6] (fun r wx => ∃ B b1 b2 b3 k1 k2 k3 r1 r2, r = .pointer (some ⟨B, 0, none⟩) ∧ Hid (OG w2 P n1 n2 n3 room code B b1 b2 b3 k1 k2 k3 r1 r2 wx))
      case first =>
        refine wp_region_held_drew (S := (fun W => LB w g a cap p cp x W ∧ Below w2.heap.size w2 W)) (by kernel_rfl) ⟨HBX.out.drew, (Below.refl _ _).drew⟩ (fun h0 => ?_)
        refine wpAnyH_take (i := 0) (v := (.agg #[.int .i64 g.room, .slice a g.evs.length cap, .slice p g.pk.length cp])) rfl (by kernel_rfl) (by kernel_rfl) (by kernel_rfl) (fun _ _ _ h => h) (Or.inl ⟨by kernel_rfl, ?_⟩) h0 ?_
        · intro W hW
          have f0 : W.cell? ⟨w.heap.size, 0, none⟩ = some (.int .i64 g.room) := cell_of_heap hW.1.b0
          have f1 : W.cell? ⟨w.heap.size, 1, none⟩ = some (.slice a g.evs.length cap) := cell_of_heap hW.1.b0
          have f2 : W.cell? ⟨w.heap.size, 2, none⟩ = some (.slice p g.pk.length cp) := cell_of_heap hW.1.b0
          go_simp
        refine wpAnyH_take (i := 2) (v := (.agg #[.int .i64 x.v.id, .int .i64 x.v.room, .int .i64 x.v.author, .int .i64 x.v.kind, .int .i64 x.v.key, .int .i64 x.v.n, .string x.v.text, .slice x.p x.v.prev.length x.c, .int .i64 x.v.time])) rfl (by kernel_rfl) (by kernel_rfl) (by kernel_rfl) (fun _ _ _ h => h) (Or.inl ⟨by kernel_rfl, ?_⟩) h0 ?_
        · intro W hW
          have f0 : W.cell? ⟨w.heap.size + 1, 0, none⟩ = some (.int .i64 x.v.id) := cell_of_heap hW.1.b1
          have f1 : W.cell? ⟨w.heap.size + 1, 1, none⟩ = some (.int .i64 x.v.room) := cell_of_heap hW.1.b1
          have f2 : W.cell? ⟨w.heap.size + 1, 2, none⟩ = some (.int .i64 x.v.author) := cell_of_heap hW.1.b1
          have f3 : W.cell? ⟨w.heap.size + 1, 3, none⟩ = some (.int .i64 x.v.kind) := cell_of_heap hW.1.b1
          have f4 : W.cell? ⟨w.heap.size + 1, 4, none⟩ = some (.int .i64 x.v.key) := cell_of_heap hW.1.b1
          have f5 : W.cell? ⟨w.heap.size + 1, 5, none⟩ = some (.int .i64 x.v.n) := cell_of_heap hW.1.b1
          have f6 : W.cell? ⟨w.heap.size + 1, 6, none⟩ = some (.string x.v.text) := cell_of_heap hW.1.b1
          have f7 : W.cell? ⟨w.heap.size + 1, 7, none⟩ = some (.slice x.p x.v.prev.length x.c) := cell_of_heap hW.1.b1
          have f8 : W.cell? ⟨w.heap.size + 1, 8, none⟩ = some (.int .i64 x.v.time) := cell_of_heap hW.1.b1
          go_simp
        refine wpAnyH_ready (rs := [1, 5]) (by kernel_rfl) (by simp) ?_
        refine AllReadyH.cons rfl (fun K hK => ?_) (AllReadyH.cons rfl (fun K hK => ?_) AllReadyH.nil)
        · go_simp
          refine (to_graph g a cap p cp _ (HE.out _ h0.1.below).1 (HE.out _ h0.1.below).2).mono ?_
          rintro e v1 ⟨g2, a2, p2, rfl, hn1⟩
          have hr1 : EvsAt v1 a2 g2.evs ∧ EvsAt v1 p2 g2.pk := ⟨hn1.evs.row.at, hn1.pk.row.at⟩
          have hb1 := hn1.evs.below
          have HS : Hid (g2.room = g.room ∧ g2.evs.map (·.v) = g.evs.map (·.v) ∧ g2.pk.map (·.v) = g.pk.map (·.v)) := ⟨hn1.room, hn1.evs.same, hn1.pk.same⟩
          clear hn1
          have h1 : LB w g a cap p cp x v1 ∧ Below w2.heap.size w2 v1 := ⟨h0.1.on hb1, h0.2.trans (hb1.mono h0.2.size)⟩
          refine hK.out _ _ h1 (fun _ => ?_)
          clear hK K
          refine wpAnyH_ready (rs := [3, 5]) (by kernel_rfl) (by simp) ?_
          refine AllReadyH.cons rfl (fun K hK => ?_) (AllReadyH.cons rfl (fun K hK => ?_) AllReadyH.nil)
          · go_simp
            refine (to_event x.v x.p x.c _ (HX.out _ h1.1.below)).mono ?_
            rintro e v2 ⟨q2, rfl, hn2, hb2⟩
            have hr2 : EvsAt v2 a2 g2.evs ∧ EvsAt v2 p2 g2.pk ∧ NumsAt v2 q2 x.v.prev := ⟨hr1.1.kept hb2, hr1.2.kept hb2, hn2.at hxl⟩
            clear hn2
            have h2 : LB w g a cap p cp x v2 ∧ Below w2.heap.size w2 v2 := ⟨h1.1.on hb2, h1.2.trans (hb2.mono h1.2.size)⟩
            refine hK.out _ _ h2 (fun _ => ?_)
            clear hK K
            refine wpAnyH_ready (rs := [4, 5]) (by kernel_rfl) (by simp) ?_
            refine AllReadyH.cons rfl (fun K hK => ?_) (AllReadyH.cons rfl (fun K hK => ?_) AllReadyH.nil)
            · go_simp
              refine (put_specN HPV.out g2 a2 p2 q2 _ hr2.1 hr2.2.1 hr2.2.2 HS.out.1 HS.out.2.1 HS.out.2.2).mono ?_
              rintro e v3 ⟨b1, b2, b3, k1, k2, k3, r1, r2, rfl, hr3, hb3⟩
              have h3 : LB w g a cap p cp x v3 ∧ Below w2.heap.size w2 v3 := ⟨h2.1.on hb3, h2.2.trans (hb3.mono h2.2.size)⟩
              refine hK.out _ _ h3 (fun _ => ?_)
              clear hK K
              refine wpAnyH_ready (rs := [5]) (by kernel_rfl) (by simp) ?_
              refine AllReadyH.cons rfl (fun K hK => ?_) AllReadyH.nil
              go_simp
              have h4 : LB w g a cap p cp x (v3.alloc (.cells #[.int .i64 0, .slice none 0 0, .slice none 0 0, .slice none 0 0, .int .i64 0] 34)) ∧ Below w2.heap.size w2 (v3.alloc (.cells #[.int .i64 0, .slice none 0 0, .slice none 0 0, .slice none 0 0, .int .i64 0] 34)) := ⟨h3.1.on ((Below.refl _ _).alloc (Nat.le_refl _) _), h3.2.alloc h3.2.size _⟩
              have al4 : (v3.alloc (.cells #[.int .i64 0, .slice none 0 0, .slice none 0 0, .slice none 0 0, .int .i64 0] 34)).heap[v3.heap.size]? = some (.cells #[.int .i64 0, .slice none 0 0, .slice none 0 0, .slice none 0 0, .int .i64 0] 34 (0, 0)) := (MapKept.heap_alloc _ _).1
              have lo4 : w2.heap.size ≤ v3.heap.size := h3.2.size
              refine hK.out _ _ h4 (fun _ => ?_)
              clear hK K
              have HF : Hid (OG w2 P n1 n2 n3 room code (v3.heap.size) b1 b2 b3 k1 k2 k3 r1 r2 (v3.alloc (.cells #[.int .i64 room, .slice b1 n1 k1, .slice b2 n2 k2, .slice b3 n3 k3, .int .i64 code] 34))) := og_last h3.2 hr3
              have hS : LB w g a cap p cp x (v3.alloc (.cells #[.int .i64 room, .slice b1 n1 k1, .slice b2 n2 k2, .slice b3 n3 k3, .int .i64 code] 34)) := h3.1.on ((Below.refl _ _).alloc (Nat.le_refl _) _)
              refine wpAnyH_ready (rs := [6]) (by kernel_rfl) (by simp) ?_
              refine AllReadyH.cons rfl (fun K hK => ?_) AllReadyH.nil
              go_simp
              refine hK.out _ _ ⟨hS, HF.out.below⟩ (fun _ => ?_)
              clear hK K
              refine wpAnyH_done (by kernel_rfl) ?_ _
              go_wp2_with fail
              go_meet
              exact ⟨_, b1, b2, b3, k1, k2, k3, r1, r2, rfl, HF⟩
            · go_simp
              have h5 : LB w g a cap p cp x (v2.alloc (.cells #[.int .i64 0, .slice none 0 0, .slice none 0 0, .slice none 0 0, .int .i64 0] 34)) ∧ Below w2.heap.size w2 (v2.alloc (.cells #[.int .i64 0, .slice none 0 0, .slice none 0 0, .slice none 0 0, .int .i64 0] 34)) := ⟨h2.1.on ((Below.refl _ _).alloc (Nat.le_refl _) _), h2.2.alloc h2.2.size _⟩
              have al5 : (v2.alloc (.cells #[.int .i64 0, .slice none 0 0, .slice none 0 0, .slice none 0 0, .int .i64 0] 34)).heap[v2.heap.size]? = some (.cells #[.int .i64 0, .slice none 0 0, .slice none 0 0, .slice none 0 0, .int .i64 0] 34 (0, 0)) := (MapKept.heap_alloc _ _).1
              have lo5 : w2.heap.size ≤ v2.heap.size := h2.2.size
              have hr5 := And.intro (hr2.1.kept ((Below.refl _ _).alloc (Nat.le_refl _) (.cells #[.int .i64 0, .slice none 0 0, .slice none 0 0, .slice none 0 0, .int .i64 0] 34))) (And.intro (hr2.2.1.kept ((Below.refl _ _).alloc (Nat.le_refl _) (.cells #[.int .i64 0, .slice none 0 0, .slice none 0 0, .slice none 0 0, .int .i64 0] 34))) (hr2.2.2.kept ((Below.refl _ _).alloc (Nat.le_refl _) (.cells #[.int .i64 0, .slice none 0 0, .slice none 0 0, .slice none 0 0, .int .i64 0] 34))))
              refine hK.out _ _ h5 (fun _ => ?_)
              clear hK K
              refine wpAnyH_ready (rs := [4]) (by kernel_rfl) (by simp) ?_
              refine AllReadyH.cons rfl (fun K hK => ?_) AllReadyH.nil
              go_simp
              have lt6 : v2.heap.size < (v2.alloc (.cells #[.int .i64 0, .slice none 0 0, .slice none 0 0, .slice none 0 0, .int .i64 0] 34)).heap.size := (Array.getElem?_eq_some_iff.1 al5).1
              refine (put_specN HPV.out g2 a2 p2 q2 _ hr5.1 hr5.2.1 hr5.2.2 HS.out.1 HS.out.2.1 HS.out.2.2).mono ?_
              rintro e v6 ⟨b1, b2, b3, k1, k2, k3, r1, r2, rfl, hr6, hb6⟩
              have h6 : LB w g a cap p cp x v6 ∧ Below w2.heap.size w2 v6 := ⟨h5.1.on hb6, h5.2.trans (hb6.mono h5.2.size)⟩
              have al6 : v6.heap[v2.heap.size]? = some (.cells #[.int .i64 0, .slice none 0 0, .slice none 0 0, .slice none 0 0, .int .i64 0] 34 (0, 0)) := (hb6.block _ (Array.getElem?_eq_some_iff.1 al5).1).trans al5
              refine hK.out _ _ h6 (fun _ => ?_)
              clear hK K
              have hq0 : v6.cell? ⟨v2.heap.size, 0, none⟩ = some (.int .i64 0) := cell_of_heap al6
              have hq1 : v6.cell? ⟨v2.heap.size, 1, none⟩ = some (.slice none 0 0) := cell_of_heap al6
              have hq2 : v6.cell? ⟨v2.heap.size, 2, none⟩ = some (.slice none 0 0) := cell_of_heap al6
              have hq3 : v6.cell? ⟨v2.heap.size, 3, none⟩ = some (.slice none 0 0) := cell_of_heap al6
              have hq4 : v6.cell? ⟨v2.heap.size, 4, none⟩ = some (.int .i64 0) := cell_of_heap al6
              have hfr : ∀ q, v6.frozen? ⟨v2.heap.size, q, none⟩ = false := fun q => frozen_of_heap al6
              have HF : Hid (OG w2 P n1 n2 n3 room code (v2.heap.size) b1 b2 b3 k1 k2 k3 r1 r2 (((((v6.setCell ⟨v2.heap.size, 0, none⟩ (.int .i64 room)).setCell ⟨v2.heap.size, 1, none⟩ (.slice b1 n1 k1)).setCell ⟨v2.heap.size, 2, none⟩ (.slice b2 n2 k2)).setCell ⟨v2.heap.size, 3, none⟩ (.slice b3 n3 k3)).setCell ⟨v2.heap.size, 4, none⟩ (.int .i64 code))) := og_leaf h6.2 al6 hr6 lt6 lo5
              have hbl : w.heap.size + 1 < v2.heap.size := Nat.lt_of_lt_of_le HBX.out.lt lo5
              have hS : LB w g a cap p cp x (((((v6.setCell ⟨v2.heap.size, 0, none⟩ (.int .i64 room)).setCell ⟨v2.heap.size, 1, none⟩ (.slice b1 n1 k1)).setCell ⟨v2.heap.size, 2, none⟩ (.slice b2 n2 k2)).setCell ⟨v2.heap.size, 3, none⟩ (.slice b3 n3 k3)).setCell ⟨v2.heap.size, 4, none⟩ (.int .i64 code)) := ((((h6.1.setCell hbl).setCell hbl).setCell hbl).setCell hbl).setCell hbl
              refine wpAnyH_ready (rs := [6]) (by kernel_rfl) (by simp) ?_
              refine AllReadyH.cons rfl (fun K hK => ?_) AllReadyH.nil
              go_simp
              refine hK.out _ _ ⟨hS, HF.out.below⟩ (fun _ => ?_)
              clear hK K
              refine wpAnyH_done (by kernel_rfl) ?_ _
              go_wp2_with fail
              go_meet
              exact ⟨_, b1, b2, b3, k1, k2, k3, r1, r2, rfl, HF⟩
          · go_simp
            have h7 : LB w g a cap p cp x (v1.alloc (.cells #[.int .i64 0, .slice none 0 0, .slice none 0 0, .slice none 0 0, .int .i64 0] 34)) ∧ Below w2.heap.size w2 (v1.alloc (.cells #[.int .i64 0, .slice none 0 0, .slice none 0 0, .slice none 0 0, .int .i64 0] 34)) := ⟨h1.1.on ((Below.refl _ _).alloc (Nat.le_refl _) _), h1.2.alloc h1.2.size _⟩
            have al7 : (v1.alloc (.cells #[.int .i64 0, .slice none 0 0, .slice none 0 0, .slice none 0 0, .int .i64 0] 34)).heap[v1.heap.size]? = some (.cells #[.int .i64 0, .slice none 0 0, .slice none 0 0, .slice none 0 0, .int .i64 0] 34 (0, 0)) := (MapKept.heap_alloc _ _).1
            have lo7 : w2.heap.size ≤ v1.heap.size := h1.2.size
            have hr7 := And.intro (hr1.1.kept ((Below.refl _ _).alloc (Nat.le_refl _) (.cells #[.int .i64 0, .slice none 0 0, .slice none 0 0, .slice none 0 0, .int .i64 0] 34))) (hr1.2.kept ((Below.refl _ _).alloc (Nat.le_refl _) (.cells #[.int .i64 0, .slice none 0 0, .slice none 0 0, .slice none 0 0, .int .i64 0] 34)))
            refine hK.out _ _ h7 (fun _ => ?_)
            clear hK K
            refine wpAnyH_ready (rs := [3]) (by kernel_rfl) (by simp) ?_
            refine AllReadyH.cons rfl (fun K hK => ?_) AllReadyH.nil
            go_simp
            refine (to_event x.v x.p x.c _ (HX.out _ h7.1.below)).mono ?_
            rintro e v8 ⟨q2, rfl, hn8, hb8⟩
            have hr8 : EvsAt v8 a2 g2.evs ∧ EvsAt v8 p2 g2.pk ∧ NumsAt v8 q2 x.v.prev := ⟨hr7.1.kept hb8, hr7.2.kept hb8, hn8.at hxl⟩
            clear hn8
            have h8 : LB w g a cap p cp x v8 ∧ Below w2.heap.size w2 v8 := ⟨h7.1.on hb8, h7.2.trans (hb8.mono h7.2.size)⟩
            have al8 : v8.heap[v1.heap.size]? = some (.cells #[.int .i64 0, .slice none 0 0, .slice none 0 0, .slice none 0 0, .int .i64 0] 34 (0, 0)) := (hb8.block _ (Array.getElem?_eq_some_iff.1 al7).1).trans al7
            refine hK.out _ _ h8 (fun _ => ?_)
            clear hK K
            refine wpAnyH_ready (rs := [4]) (by kernel_rfl) (by simp) ?_
            refine AllReadyH.cons rfl (fun K hK => ?_) AllReadyH.nil
            go_simp
            have lt9 : v1.heap.size < v8.heap.size := (Array.getElem?_eq_some_iff.1 al8).1
            refine (put_specN HPV.out g2 a2 p2 q2 _ hr8.1 hr8.2.1 hr8.2.2 HS.out.1 HS.out.2.1 HS.out.2.2).mono ?_
            rintro e v9 ⟨b1, b2, b3, k1, k2, k3, r1, r2, rfl, hr9, hb9⟩
            have h9 : LB w g a cap p cp x v9 ∧ Below w2.heap.size w2 v9 := ⟨h8.1.on hb9, h8.2.trans (hb9.mono h8.2.size)⟩
            have al9 : v9.heap[v1.heap.size]? = some (.cells #[.int .i64 0, .slice none 0 0, .slice none 0 0, .slice none 0 0, .int .i64 0] 34 (0, 0)) := (hb9.block _ (Array.getElem?_eq_some_iff.1 al8).1).trans al8
            refine hK.out _ _ h9 (fun _ => ?_)
            clear hK K
            have hq0 : v9.cell? ⟨v1.heap.size, 0, none⟩ = some (.int .i64 0) := cell_of_heap al9
            have hq1 : v9.cell? ⟨v1.heap.size, 1, none⟩ = some (.slice none 0 0) := cell_of_heap al9
            have hq2 : v9.cell? ⟨v1.heap.size, 2, none⟩ = some (.slice none 0 0) := cell_of_heap al9
            have hq3 : v9.cell? ⟨v1.heap.size, 3, none⟩ = some (.slice none 0 0) := cell_of_heap al9
            have hq4 : v9.cell? ⟨v1.heap.size, 4, none⟩ = some (.int .i64 0) := cell_of_heap al9
            have hfr : ∀ q, v9.frozen? ⟨v1.heap.size, q, none⟩ = false := fun q => frozen_of_heap al9
            have HF : Hid (OG w2 P n1 n2 n3 room code (v1.heap.size) b1 b2 b3 k1 k2 k3 r1 r2 (((((v9.setCell ⟨v1.heap.size, 0, none⟩ (.int .i64 room)).setCell ⟨v1.heap.size, 1, none⟩ (.slice b1 n1 k1)).setCell ⟨v1.heap.size, 2, none⟩ (.slice b2 n2 k2)).setCell ⟨v1.heap.size, 3, none⟩ (.slice b3 n3 k3)).setCell ⟨v1.heap.size, 4, none⟩ (.int .i64 code))) := og_leaf h9.2 al9 hr9 lt9 lo7
            have hbl : w.heap.size + 1 < v1.heap.size := Nat.lt_of_lt_of_le HBX.out.lt lo7
            have hS : LB w g a cap p cp x (((((v9.setCell ⟨v1.heap.size, 0, none⟩ (.int .i64 room)).setCell ⟨v1.heap.size, 1, none⟩ (.slice b1 n1 k1)).setCell ⟨v1.heap.size, 2, none⟩ (.slice b2 n2 k2)).setCell ⟨v1.heap.size, 3, none⟩ (.slice b3 n3 k3)).setCell ⟨v1.heap.size, 4, none⟩ (.int .i64 code)) := ((((h9.1.setCell hbl).setCell hbl).setCell hbl).setCell hbl).setCell hbl
            refine wpAnyH_ready (rs := [6]) (by kernel_rfl) (by simp) ?_
            refine AllReadyH.cons rfl (fun K hK => ?_) AllReadyH.nil
            go_simp
            refine hK.out _ _ ⟨hS, HF.out.below⟩ (fun _ => ?_)
            clear hK K
            refine wpAnyH_done (by kernel_rfl) ?_ _
            go_wp2_with fail
            go_meet
            exact ⟨_, b1, b2, b3, k1, k2, k3, r1, r2, rfl, HF⟩
        · go_simp
          have h10 : LB w g a cap p cp x (w2.drew.alloc (.cells #[.int .i64 0, .slice none 0 0, .slice none 0 0, .slice none 0 0, .int .i64 0] 34)) ∧ Below w2.heap.size w2 (w2.drew.alloc (.cells #[.int .i64 0, .slice none 0 0, .slice none 0 0, .slice none 0 0, .int .i64 0] 34)) := ⟨h0.1.on ((Below.refl _ _).alloc (Nat.le_refl _) _), h0.2.alloc h0.2.size _⟩
          have al10 : (w2.drew.alloc (.cells #[.int .i64 0, .slice none 0 0, .slice none 0 0, .slice none 0 0, .int .i64 0] 34)).heap[w2.heap.size]? = some (.cells #[.int .i64 0, .slice none 0 0, .slice none 0 0, .slice none 0 0, .int .i64 0] 34 (0, 0)) := (MapKept.heap_alloc _ _).1
          have lo10 : w2.heap.size ≤ w2.heap.size := h0.2.size
          refine hK.out _ _ h10 (fun _ => ?_)
          clear hK K
          refine wpAnyH_ready (rs := [1]) (by kernel_rfl) (by simp) ?_
          refine AllReadyH.cons rfl (fun K hK => ?_) AllReadyH.nil
          go_simp
          refine (to_graph g a cap p cp _ (HE.out _ h10.1.below).1 (HE.out _ h10.1.below).2).mono ?_
          rintro e v11 ⟨g2, a2, p2, rfl, hn11⟩
          have hr11 : EvsAt v11 a2 g2.evs ∧ EvsAt v11 p2 g2.pk := ⟨hn11.evs.row.at, hn11.pk.row.at⟩
          have hb11 := hn11.evs.below
          have HS : Hid (g2.room = g.room ∧ g2.evs.map (·.v) = g.evs.map (·.v) ∧ g2.pk.map (·.v) = g.pk.map (·.v)) := ⟨hn11.room, hn11.evs.same, hn11.pk.same⟩
          clear hn11
          have h11 : LB w g a cap p cp x v11 ∧ Below w2.heap.size w2 v11 := ⟨h10.1.on hb11, h10.2.trans (hb11.mono h10.2.size)⟩
          have al11 : v11.heap[w2.heap.size]? = some (.cells #[.int .i64 0, .slice none 0 0, .slice none 0 0, .slice none 0 0, .int .i64 0] 34 (0, 0)) := (hb11.block _ (Array.getElem?_eq_some_iff.1 al10).1).trans al10
          refine hK.out _ _ h11 (fun _ => ?_)
          clear hK K
          refine wpAnyH_ready (rs := [3]) (by kernel_rfl) (by simp) ?_
          refine AllReadyH.cons rfl (fun K hK => ?_) AllReadyH.nil
          go_simp
          refine (to_event x.v x.p x.c _ (HX.out _ h11.1.below)).mono ?_
          rintro e v12 ⟨q2, rfl, hn12, hb12⟩
          have hr12 : EvsAt v12 a2 g2.evs ∧ EvsAt v12 p2 g2.pk ∧ NumsAt v12 q2 x.v.prev := ⟨hr11.1.kept hb12, hr11.2.kept hb12, hn12.at hxl⟩
          clear hn12
          have h12 : LB w g a cap p cp x v12 ∧ Below w2.heap.size w2 v12 := ⟨h11.1.on hb12, h11.2.trans (hb12.mono h11.2.size)⟩
          have al12 : v12.heap[w2.heap.size]? = some (.cells #[.int .i64 0, .slice none 0 0, .slice none 0 0, .slice none 0 0, .int .i64 0] 34 (0, 0)) := (hb12.block _ (Array.getElem?_eq_some_iff.1 al11).1).trans al11
          refine hK.out _ _ h12 (fun _ => ?_)
          clear hK K
          refine wpAnyH_ready (rs := [4]) (by kernel_rfl) (by simp) ?_
          refine AllReadyH.cons rfl (fun K hK => ?_) AllReadyH.nil
          go_simp
          have lt13 : w2.heap.size < v12.heap.size := (Array.getElem?_eq_some_iff.1 al12).1
          refine (put_specN HPV.out g2 a2 p2 q2 _ hr12.1 hr12.2.1 hr12.2.2 HS.out.1 HS.out.2.1 HS.out.2.2).mono ?_
          rintro e v13 ⟨b1, b2, b3, k1, k2, k3, r1, r2, rfl, hr13, hb13⟩
          have h13 : LB w g a cap p cp x v13 ∧ Below w2.heap.size w2 v13 := ⟨h12.1.on hb13, h12.2.trans (hb13.mono h12.2.size)⟩
          have al13 : v13.heap[w2.heap.size]? = some (.cells #[.int .i64 0, .slice none 0 0, .slice none 0 0, .slice none 0 0, .int .i64 0] 34 (0, 0)) := (hb13.block _ (Array.getElem?_eq_some_iff.1 al12).1).trans al12
          refine hK.out _ _ h13 (fun _ => ?_)
          clear hK K
          have hq0 : v13.cell? ⟨w2.heap.size, 0, none⟩ = some (.int .i64 0) := cell_of_heap al13
          have hq1 : v13.cell? ⟨w2.heap.size, 1, none⟩ = some (.slice none 0 0) := cell_of_heap al13
          have hq2 : v13.cell? ⟨w2.heap.size, 2, none⟩ = some (.slice none 0 0) := cell_of_heap al13
          have hq3 : v13.cell? ⟨w2.heap.size, 3, none⟩ = some (.slice none 0 0) := cell_of_heap al13
          have hq4 : v13.cell? ⟨w2.heap.size, 4, none⟩ = some (.int .i64 0) := cell_of_heap al13
          have hfr : ∀ q, v13.frozen? ⟨w2.heap.size, q, none⟩ = false := fun q => frozen_of_heap al13
          have HF : Hid (OG w2 P n1 n2 n3 room code (w2.heap.size) b1 b2 b3 k1 k2 k3 r1 r2 (((((v13.setCell ⟨w2.heap.size, 0, none⟩ (.int .i64 room)).setCell ⟨w2.heap.size, 1, none⟩ (.slice b1 n1 k1)).setCell ⟨w2.heap.size, 2, none⟩ (.slice b2 n2 k2)).setCell ⟨w2.heap.size, 3, none⟩ (.slice b3 n3 k3)).setCell ⟨w2.heap.size, 4, none⟩ (.int .i64 code))) := og_leaf h13.2 al13 hr13 lt13 lo10
          have hbl : w.heap.size + 1 < w2.heap.size := Nat.lt_of_lt_of_le HBX.out.lt lo10
          have hS : LB w g a cap p cp x (((((v13.setCell ⟨w2.heap.size, 0, none⟩ (.int .i64 room)).setCell ⟨w2.heap.size, 1, none⟩ (.slice b1 n1 k1)).setCell ⟨w2.heap.size, 2, none⟩ (.slice b2 n2 k2)).setCell ⟨w2.heap.size, 3, none⟩ (.slice b3 n3 k3)).setCell ⟨w2.heap.size, 4, none⟩ (.int .i64 code)) := ((((h13.1.setCell hbl).setCell hbl).setCell hbl).setCell hbl).setCell hbl
          refine wpAnyH_ready (rs := [6]) (by kernel_rfl) (by simp) ?_
          refine AllReadyH.cons rfl (fun K hK => ?_) AllReadyH.nil
          go_simp
          refine hK.out _ _ ⟨hS, HF.out.below⟩ (fun _ => ?_)
          clear hK K
          refine wpAnyH_done (by kernel_rfl) ?_ _
          go_wp2_with fail
          go_meet
          exact ⟨_, b1, b2, b3, k1, k2, k3, r1, r2, rfl, HF⟩
      case rest =>
      obtain ⟨B6, z1, z2, z3, y1, y2, y3, t1, t2, rfl, HO⟩ := hcut
      obtain ⟨w8, hw8⟩ : ∃ w8, w8 = wc := ⟨wc, rfl⟩
      subst hw8
      have HBW : Hid (LB w g a cap p cp x w8) := HBX.out.on HO.out.below
      have hlt6 : B6 < w8.heap.size := (Array.getElem?_eq_some_iff.1 HO.out.box).1
      have hlt1 : w.heap.size + 1 < w8.heap.size := HBW.out.lt
      have hlt0 : w.heap.size < w8.heap.size := by omega
      have HB8 : Hid (∀ V, Below w8.heap.size w8 V → LB w g a cap p cp x V) := fun V hb => HBW.out.on hb
      have HO8 : Hid (∀ V, Below w8.heap.size w8 V → OG w2 P n1 n2 n3 room code B6 z1 z2 z3 y1 y2 y3 t1 t2 V) := fun V hb => ⟨HO.out.below.trans (hb.mono HO.out.below.size), (hb.block _ hlt6).trans HO.out.box, HO.out.gs.kept hb, HO.out.lo⟩
      have h0w8 : ∀ k, w8.cell? ⟨w.heap.size, k, none⟩ = _ := fun k => cell_of_heap HBW.out.b0
      have HXB : Hid (∀ V, Below w8.heap.size w8 V → Below w.heap.size w V) := fun V hb => (HB8.out V hb).below
      clear HBX HO HBW
      go_wp2_with fail
      refine (to_graph g a cap p cp _ (HE.out _ (HXB.out _ (Below.refl _ _))).1 (HE.out _ (HXB.out _ (Below.refl _ _))).2).mono ?_
      rintro e w9 ⟨g9, a9, p9, rfl, hn9⟩
      have HG9 : Hid (GrNew w8 g g9 a9 p9 w9) := hn9
      have HB9 : Hid (Below w8.heap.size w8 w9) := hn9.evs.below
      have hz9 : w8.heap.size ≤ w9.heap.size := hn9.evs.below.size
      have HB9o : Hid (∀ o, Below w8.heap.size w8 (w9.alloc o)) := fun o => HB9.out.alloc hz9 o
      have h1w9 : ∀ k, w9.cell? ⟨w.heap.size + 1, k, none⟩ = _ := fun k => cell_of_heap (HB8.out _ HB9.out).b1
      have hy91 : w.heap.size + 1 < w9.heap.size := by omega
      clear hn9 h0w8
      go_wp2_with fail
      refine (to_event x.v x.p x.c _ (HX.out _ (HXB.out _ (HB9o.out _)))).mono ?_
      rintro e w10 ⟨q10, rfl, hn10, hb10⟩
      have hz10 : w9.heap.size < w10.heap.size := by have := hb10.size; simp at this; omega
      have HB10 : Hid (Below w8.heap.size w8 w10) := (HB9o.out _).trans (hb10.mono (by simp; omega))
      have HB90 : Hid (Below w9.heap.size w9 w10) := ((Below.refl _ _).alloc (Nat.le_refl _) _).trans (hb10.mono (by simp))
      have HN10 : Hid (NumsNew (w9.heap.size + 1) w10 q10 x.v.prev) := by unfold Hid; simpa using hn10
      have HQ10 : Hid (w10.heap[w9.heap.size]? = some (.cells #[.int .i64 g.room, .slice a9 g.evs.length g.evs.length, .slice p9 g.pk.length g.pk.length] 32 (0, 0))) := (hb10.block _ (by simp)).trans (MapKept.heap_alloc w9 _).1
      have h7w10 : ∀ k, w10.cell? ⟨w9.heap.size, k, none⟩ = _ := fun k => cell_of_heap HQ10.out
      have HC11 : ∀ o, Calls Tryz.prog 11 _ (w10.alloc o) _ := fun o => put_implN HPV.out g9 a9 p9 q10 (w10.alloc o) (HG9.out.evs.row.at.kept (HB90.out.alloc (Nat.le_of_lt hz10) o)) (HG9.out.pk.row.at.kept (HB90.out.alloc (Nat.le_of_lt hz10) o)) ((HN10.out.at hxl).kept ((Below.refl _ _).alloc (Nat.le_refl _) o)) HG9.out.room HG9.out.evs.same HG9.out.pk.same
      clear hn10 hb10 h1w9
      go_wp2_with fail
      refine (HC11 _).mono ?_
      rintro e w11 ⟨c1, c2, c3, l1, l2, l3, s1, s2, mid, mid2, rfl, hga, hb11⟩
      have hz11 : w10.heap.size < w11.heap.size := by have := hb11.size; simp at this; omega
      have HGA : Hid (GA P n1 n2 n3 (w10.heap.size + 1) mid mid2 w11.heap.size c1 c2 c3 l1 l2 l3 s1 s2 w11) := by unfold Hid; simpa using hga
      have HB11 : Hid (Below w10.heap.size w10 w11) := ((Below.refl _ _).alloc (Nat.le_refl _) _).trans (hb11.mono (by simp))
      have HQ11 : Hid (w11.heap[w10.heap.size]? = some (.cells #[.int .i64 x.v.id, .int .i64 x.v.room, .int .i64 x.v.author, .int .i64 x.v.kind, .int .i64 x.v.key, .int .i64 x.v.n, .string x.v.text, .slice q10 x.v.prev.length x.v.prev.length, .int .i64 x.v.time] 37 (0, 0))) := (hb11.block _ (by simp)).trans (MapKept.heap_alloc w10 _).1
      have HLP : Hid (LP w8 g x.v room code n1 n2 n3 w9.heap.size a9 p9 w10.heap.size q10 w11.heap.size c1 c2 c3 l1 l2 l3 (w11.alloc (.cells #[.int .i64 room, .slice c1 n1 l1, .slice c2 n2 l2, .slice c3 n3 l3, .int .i64 code] 34))) := by
        refine ⟨(HB10.out.trans (HB11.out.mono HB10.out.size)).alloc (by omega) _, ?_, ?_, (MapKept.heap_alloc w11 _).1⟩
        · exact (Below.heap_alloc _ _ _ (by omega)).trans ((HB11.out.block _ hz10).trans HQ10.out)
        · exact (Below.heap_alloc _ _ _ hz11).trans HQ11.out
      have hz89 : w8.heap.size < w11.heap.size := by omega
      have h6w11 : ∀ k, w11.cell? ⟨B6, k, none⟩ = _ := fun k => cell_of_heap (HO8.out _ (HB10.out.trans (HB11.out.mono HB10.out.size))).box
      have hy116 : B6 < w11.heap.size := by omega
      clear hga hb11 HC11 h7w10
      go_wp2_with fail
      refine (eq_graphOut P n1 n2 n3 room code c1 c2 c3 z1 z2 z3 s1 s2 t1 t2 l1 l2 l3 y1 y2 y3 _ ((HGA.out.kept ((Below.refl _ _).alloc (Nat.le_refl _) _)).gs HPV.out.lim) (HO8.out _ HLP.out.k8).gs).mono ?_
      rintro e w13 ⟨rfl, hb13⟩
      have HL13 : Hid (LP w8 g x.v room code n1 n2 n3 w9.heap.size a9 p9 w10.heap.size q10 w11.heap.size c1 c2 c3 l1 l2 l3 w13) := HLP.out.on hb13
      have HK13 : Hid (Below w11.heap.size w11 w13) := ((Below.refl _ _).alloc (Nat.le_refl _) _).trans (hb13.mono (by simp))
      have HZ13 : Hid (Below w10.heap.size w10 w13) := HB11.out.trans (HK13.out.mono (Nat.le_of_lt hz11))
      have HY13 : Hid (Below w9.heap.size w9 w13) := HB90.out.trans (HZ13.out.mono (Nat.le_of_lt hz10))
      have hsl : s1.length = n1 ∧ s2.length = n2 := ⟨HGA.out.l1, HGA.out.l2⟩
      have HG13 : Hid (GA P n1 n2 n3 (w10.heap.size + 1) mid mid2 w11.heap.size c1 c2 c3 l1 l2 l3 s1 s2 w13) := (HGA.out.kept ((Below.refl _ _).alloc (Nat.le_refl _) _)).kept hb13
      clear hb13 HGA HLP h6w11 HQ10 HQ11
      have h0w13 : ∀ k, w13.cell? ⟨w.heap.size, k, none⟩ = _ := fun k => cell_of_heap (HB8.out _ HL13.out.k8).b0
      have h1w13 : ∀ k, w13.cell? ⟨w.heap.size + 1, k, none⟩ = _ := fun k => cell_of_heap (HB8.out _ HL13.out.k8).b1
      have h6w13 : ∀ k, w13.cell? ⟨B6, k, none⟩ = _ := fun k => cell_of_heap (HO8.out _ HL13.out.k8).box
      have h7w13 : ∀ k, w13.cell? ⟨w9.heap.size, k, none⟩ = _ := fun k => cell_of_heap HL13.out.b7
      have h8w13 : ∀ k, w13.cell? ⟨w10.heap.size, k, none⟩ = _ := fun k => cell_of_heap HL13.out.b8
      have h9w13 : ∀ k, w13.cell? ⟨w11.heap.size, k, none⟩ = _ := fun k => cell_of_heap HL13.out.b9
      have hz13 : w11.heap.size < w13.heap.size := (Array.getElem?_eq_some_iff.1 HL13.out.b9).1
      have hza13 : w.heap.size < w13.heap.size := by omega
      have hzb13 : w9.heap.size < w13.heap.size := by omega
      go_wp2_with fail
      go_cut [44] (fun r wx => r = .bool false ∧ Below w13.heap.size w13 wx)
      case first =>
        first
          | (go_region_with (first
              | (go_at_call 9; refine (to_graph g a cap p cp _ (HE.out _ (HXB.out _ HL13.out.k8).drew).1 (HE.out _ (HXB.out _ HL13.out.k8).drew).2).mono ?_; rintro e w14 ⟨g14, a14, p14, rfl, hn14⟩; have hc14 : ∀ b o, b < w13.heap.size → w14.cell? ⟨b, o, none⟩ = w13.cell? ⟨b, o, none⟩ := (bcell hn14.evs.below).1; have HW14 : Hid (Below w13.heap.size w13 w14) := (Below.drew (Below.refl _ _)).trans hn14.evs.below; have HY14 : Hid (Below w9.heap.size w9 w14) := HY13.out.trans (HW14.out.mono (Nat.le_of_lt hzb13)); have HQ14 := eq_graph g9 g14 a9 p9 a14 p14 g.evs.length g.pk.length g.evs.length g.pk.length w14 (HG9.out.evs.row.at.kept HY14.out) (HG9.out.pk.row.at.kept HY14.out) hn14.evs.row.at hn14.pk.row.at (HG9.out.evs.same.trans hn14.evs.same.symm) (HG9.out.pk.same.trans hn14.pk.same.symm); rw [HG9.out.room, HG9.out.evs.len, HG9.out.pk.len] at HQ14)
              | (go_at_call 13; refine HQ14.mono ?_; rintro e w15 ⟨rfl, hb15⟩; have HW15 : Hid (Below w13.heap.size w13 w15) := HW14.out.trans (hb15.mono HW14.out.size))))
          | fail
        all_goals go_wp2_with fail
        all_goals go_meet
        all_goals exact ⟨rfl, HW15.out⟩
      case rest =>
      obtain ⟨w15, hw15⟩ : ∃ q, q = wc := ⟨wc, rfl⟩
      subst hw15
      obtain ⟨rfl, hb15⟩ := hcut
      have HL15 : Hid (LP w8 g x.v room code n1 n2 n3 w9.heap.size a9 p9 w10.heap.size q10 w11.heap.size c1 c2 c3 l1 l2 l3 w15) := HL13.out.on hb15
      have HG15 : Hid (GA P n1 n2 n3 (w10.heap.size + 1) mid mid2 w11.heap.size c1 c2 c3 l1 l2 l3 s1 s2 w15) := HG13.out.kept hb15
      have HZ15 : Hid (Below w10.heap.size w10 w15) := HZ13.out.trans (hb15.mono HZ13.out.size)
      have HY15 : Hid (Below w9.heap.size w9 w15) := HY13.out.trans (hb15.mono HY13.out.size)
      clear hb15 HL13 HG13 HZ13 HY13 HK13
      clear h0w13 h1w13 h6w13 h7w13 h8w13 h9w13
      have h0w15 : ∀ k, w15.cell? ⟨w.heap.size, k, none⟩ = _ := fun k => cell_of_heap (HB8.out _ HL15.out.k8).b0
      have h1w15 : ∀ k, w15.cell? ⟨w.heap.size + 1, k, none⟩ = _ := fun k => cell_of_heap (HB8.out _ HL15.out.k8).b1
      have h6w15 : ∀ k, w15.cell? ⟨B6, k, none⟩ = _ := fun k => cell_of_heap (HO8.out _ HL15.out.k8).box
      have h7w15 : ∀ k, w15.cell? ⟨w9.heap.size, k, none⟩ = _ := fun k => cell_of_heap HL15.out.b7
      have h8w15 : ∀ k, w15.cell? ⟨w10.heap.size, k, none⟩ = _ := fun k => cell_of_heap HL15.out.b8
      have h9w15 : ∀ k, w15.cell? ⟨w11.heap.size, k, none⟩ = _ := fun k => cell_of_heap HL15.out.b9
      have hz15 : w11.heap.size < w15.heap.size := (Array.getElem?_eq_some_iff.1 HL15.out.b9).1
      have hza15 : w.heap.size + 1 < w15.heap.size := by omega
      have hzb15 : w10.heap.size < w15.heap.size := by omega
      clear hz13 hza13 hzb13
      go_wp2_with fail
      go_cut [49] (fun r wx => r = .bool false ∧ Below w15.heap.size w15 wx)
      case first =>
        first
          | (go_region_with (first
              | (go_at_call 10; refine (to_event x.v x.p x.c _ (HX.out _ (HXB.out _ HL15.out.k8).drew)).mono ?_; rintro e w16 ⟨q16, rfl, hn16, hb16⟩; have hc16 : ∀ b o, b < w15.heap.size → w16.cell? ⟨b, o, none⟩ = w15.cell? ⟨b, o, none⟩ := (bcell hb16).1; have HW16 : Hid (Below w15.heap.size w15 w16) := (Below.drew (Below.refl _ _)).trans hb16; have HQ16 := eq_event x.v q10 q16 x.v.prev.length x.v.prev.length w16 ((HN10.out.at hxl).kept (HZ15.out.trans (HW16.out.mono (Nat.le_of_lt hzb15)))) (hn16.at hxl))
              | (go_at_call 14; refine HQ16.mono ?_; rintro e w17 ⟨rfl, hb17⟩; have HW17 : Hid (Below w15.heap.size w15 w17) := HW16.out.trans (hb17.mono HW16.out.size))))
          | fail
        all_goals go_wp2_with fail
        all_goals go_meet
        all_goals exact ⟨rfl, HW17.out⟩
      case rest =>
      obtain ⟨w17, hw17⟩ : ∃ q, q = wc := ⟨wc, rfl⟩
      subst hw17
      obtain ⟨rfl, hb17⟩ := hcut
      have HL17 : Hid (LP w8 g x.v room code n1 n2 n3 w9.heap.size a9 p9 w10.heap.size q10 w11.heap.size c1 c2 c3 l1 l2 l3 w17) := HL15.out.on hb17
      have HG17 : Hid (GA P n1 n2 n3 (w10.heap.size + 1) mid mid2 w11.heap.size c1 c2 c3 l1 l2 l3 s1 s2 w17) := HG15.out.kept hb17
      have HZ17 : Hid (Below w10.heap.size w10 w17) := HZ15.out.trans (hb17.mono HZ15.out.size)
      have HY17 : Hid (Below w9.heap.size w9 w17) := HY15.out.trans (hb17.mono HY15.out.size)
      clear hb17 HL15 HG15 HZ15 HY15 hza15 hzb15 hz15
      clear h0w15 h1w15 h6w15 h7w15 h8w15 h9w15
      have h0w17 : ∀ k, w17.cell? ⟨w.heap.size, k, none⟩ = _ := fun k => cell_of_heap (HB8.out _ HL17.out.k8).b0
      have h1w17 : ∀ k, w17.cell? ⟨w.heap.size + 1, k, none⟩ = _ := fun k => cell_of_heap (HB8.out _ HL17.out.k8).b1
      have h6w17 : ∀ k, w17.cell? ⟨B6, k, none⟩ = _ := fun k => cell_of_heap (HO8.out _ HL17.out.k8).box
      have h7w17 : ∀ k, w17.cell? ⟨w9.heap.size, k, none⟩ = _ := fun k => cell_of_heap HL17.out.b7
      have h8w17 : ∀ k, w17.cell? ⟨w10.heap.size, k, none⟩ = _ := fun k => cell_of_heap HL17.out.b8
      have h9w17 : ∀ k, w17.cell? ⟨w11.heap.size, k, none⟩ = _ := fun k => cell_of_heap HL17.out.b9
      have HMK := mark_graphB w8 w9 w17 g g9 a9 p9 g.evs.length g.pk.length g.room HG9.out HY17.out (by rw [wt_same HG9.out.evs.same, wt_same HG9.out.pk.same]; exact HSW.out)
      rw [HG9.out.evs.len, HG9.out.pk.len] at HMK
      go_wp2_with fail
      refine HMK.mono ?_
      rintro e w18 ⟨K, rfl, hK0, hKm, hw18⟩
      have HL18 : Hid (LP w8 g x.v room code n1 n2 n3 w9.heap.size a9 p9 w10.heap.size q10 w11.heap.size c1 c2 c3 l1 l2 l3 w18) := HL17.out.wk hw18.wk (Nat.le_refl _) (.inr (Nat.le_refl _)) (.inr (Nat.le_of_lt hz10)) (.inr (by omega))
      have HG18 : Hid (GA P n1 n2 n3 (w10.heap.size + 1) mid mid2 w11.heap.size c1 c2 c3 l1 l2 l3 s1 s2 w18) := HG17.out.wk hw18.wk (by omega)
      have HRM : Hid (Room (w9.heap.size + 1) w10.heap.size w18 q10 x.v.prev.length) := by
        obtain ⟨b, hb1, hb2, hb3⟩ := HN10.out
        have hb4 := (Array.getElem?_eq_some_iff.1 hb3).1
        exact ⟨b, _, _, hb1, hb2, hb4, (hw18.block b (Nat.lt_of_lt_of_le hb4 HZ17.out.size) (.inr (by omega))).trans ((HZ17.out.block b hb4).trans hb3), by simp [nv]⟩
      clear hw18 HMK HL17 HG17 HZ17 HY17
      clear h0w17 h1w17 h6w17 h7w17 h8w17 h9w17
      have h0w18 : ∀ k, w18.cell? ⟨w.heap.size, k, none⟩ = _ := fun k => cell_of_heap (HB8.out _ HL18.out.k8).b0
      have h1w18 : ∀ k, w18.cell? ⟨w.heap.size + 1, k, none⟩ = _ := fun k => cell_of_heap (HB8.out _ HL18.out.k8).b1
      have h6w18 : ∀ k, w18.cell? ⟨B6, k, none⟩ = _ := fun k => cell_of_heap (HO8.out _ HL18.out.k8).box
      have h7w18 : ∀ k, w18.cell? ⟨w9.heap.size, k, none⟩ = _ := fun k => cell_of_heap HL18.out.b7
      have h8w18 : ∀ k, w18.cell? ⟨w10.heap.size, k, none⟩ = _ := fun k => cell_of_heap HL18.out.b8
      have h9w18 : ∀ k, w18.cell? ⟨w11.heap.size, k, none⟩ = _ := fun k => cell_of_heap HL18.out.b9
      go_wp2_with fail
      refine (mark_eventW (w9.heap.size + 1) w10.heap.size x.v q10 x.v.prev.length K _ HRM.out hxl (by omega) (by omega)).mono ?_
      rintro e w19 ⟨rfl, hw19⟩
      have HL19 : Hid (LP w8 g x.v room code n1 n2 n3 w9.heap.size a9 p9 w10.heap.size q10 w11.heap.size c1 c2 c3 l1 l2 l3 w19) := HL18.out.wk hw19 (by omega) (.inl (Nat.lt_succ_self _)) (.inr (Nat.le_refl _)) (.inr (Nat.le_of_lt hz11))
      have HG19 : Hid (GA P n1 n2 n3 (w10.heap.size + 1) mid mid2 w11.heap.size c1 c2 c3 l1 l2 l3 s1 s2 w19) := HG18.out.wk hw19 (Nat.le_succ _)
      clear hw19 HRM HL18 HG18
      clear h0w18 h1w18 h6w18 h7w18 h8w18 h9w18
      have h0w19 : ∀ k, w19.cell? ⟨w.heap.size, k, none⟩ = _ := fun k => cell_of_heap (HB8.out _ HL19.out.k8).b0
      have h1w19 : ∀ k, w19.cell? ⟨w.heap.size + 1, k, none⟩ = _ := fun k => cell_of_heap (HB8.out _ HL19.out.k8).b1
      have h6w19 : ∀ k, w19.cell? ⟨B6, k, none⟩ = _ := fun k => cell_of_heap (HO8.out _ HL19.out.k8).box
      have h7w19 : ∀ k, w19.cell? ⟨w9.heap.size, k, none⟩ = _ := fun k => cell_of_heap HL19.out.b7
      have h8w19 : ∀ k, w19.cell? ⟨w10.heap.size, k, none⟩ = _ := fun k => cell_of_heap HL19.out.b8
      have h9w19 : ∀ k, w19.cell? ⟨w11.heap.size, k, none⟩ = _ := fun k => cell_of_heap HL19.out.b9
      go_wp2_with fail
      refine (eq_graphOut P n1 n2 n3 room code c1 c2 c3 z1 z2 z3 s1 s2 t1 t2 l1 l2 l3 y1 y2 y3 w19 (HG19.out.gs HPV.out.lim) (HO8.out _ HL19.out.k8).gs).mono ?_
      rintro e w20 ⟨rfl, hb20⟩
      have HL20 : Hid (LP w8 g x.v room code n1 n2 n3 w9.heap.size a9 p9 w10.heap.size q10 w11.heap.size c1 c2 c3 l1 l2 l3 w20) := HL19.out.on hb20
      have HG20 : Hid (GA P n1 n2 n3 (w10.heap.size + 1) mid mid2 w11.heap.size c1 c2 c3 l1 l2 l3 s1 s2 w20) := HG19.out.kept hb20
      clear hb20 HL19 HG19
      clear h0w19 h1w19 h6w19 h7w19 h8w19 h9w19
      have h0w20 : ∀ k, w20.cell? ⟨w.heap.size, k, none⟩ = _ := fun k => cell_of_heap (HB8.out _ HL20.out.k8).b0
      have h1w20 : ∀ k, w20.cell? ⟨w.heap.size + 1, k, none⟩ = _ := fun k => cell_of_heap (HB8.out _ HL20.out.k8).b1
      have h6w20 : ∀ k, w20.cell? ⟨B6, k, none⟩ = _ := fun k => cell_of_heap (HO8.out _ HL20.out.k8).box
      have h7w20 : ∀ k, w20.cell? ⟨w9.heap.size, k, none⟩ = _ := fun k => cell_of_heap HL20.out.b7
      have h8w20 : ∀ k, w20.cell? ⟨w10.heap.size, k, none⟩ = _ := fun k => cell_of_heap HL20.out.b8
      have h9w20 : ∀ k, w20.cell? ⟨w11.heap.size, k, none⟩ = _ := fun k => cell_of_heap HL20.out.b9
      go_wp2_with fail
      refine (mark_graphOutK P n1 n2 n3 (w10.heap.size + 1) mid mid2 w11.heap.size room code c1 c2 c3 l1 l2 l3 s1 s2 w20 HG20.out HPV.out.lim).mono ?_
      rintro e w21 ⟨K1, K2, rfl, hk21, hw21⟩
      have HL21 : Hid (LP w8 g x.v room code n1 n2 n3 w9.heap.size a9 p9 w10.heap.size q10 w11.heap.size c1 c2 c3 l1 l2 l3 w21) := HL20.out.wk hw21 (by omega) (.inl (by omega)) (.inl (Nat.lt_succ_self _)) (.inr (Nat.le_refl _))
      have HK21 : Hid (GK (w10.heap.size + 1) mid mid2 w11.heap.size n3 c1 c2 c3 s1 s2 K1 K2 w21) := hk21
      obtain ⟨M, HM⟩ : ∃ M : Int, Hid (M = (K2 : Int) + (n3 : Int)) := ⟨(K2 : Int) + (n3 : Int), (rfl : (K2 : Int) + (n3 : Int) = _)⟩
      have hM0 : 0 ≤ M := by rw [HM.out]; omega
      rw [← HM.out]
      clear hk21 hw21 HL20 HG20
      clear h0w20 h1w20 h6w20 h7w20 h8w20 h9w20
      have h0w21 : ∀ k, w21.cell? ⟨w.heap.size, k, none⟩ = _ := fun k => cell_of_heap (HB8.out _ HL21.out.k8).b0
      have h1w21 : ∀ k, w21.cell? ⟨w.heap.size + 1, k, none⟩ = _ := fun k => cell_of_heap (HB8.out _ HL21.out.k8).b1
      have h6w21 : ∀ k, w21.cell? ⟨B6, k, none⟩ = _ := fun k => cell_of_heap (HO8.out _ HL21.out.k8).box
      have h7w21 : ∀ k, w21.cell? ⟨w9.heap.size, k, none⟩ = _ := fun k => cell_of_heap HL21.out.b7
      have h8w21 : ∀ k, w21.cell? ⟨w10.heap.size, k, none⟩ = _ := fun k => cell_of_heap HL21.out.b8
      have h9w21 : ∀ k, w21.cell? ⟨w11.heap.size, k, none⟩ = _ := fun k => cell_of_heap HL21.out.b9
      go_wp2_with fail
      refine (held_graphOutK n1 n2 n3 (w10.heap.size + 1) mid mid2 w11.heap.size room code c1 c2 c3 l1 l2 l3 s1 s2 K1 K2 w21 hsl.1 hsl.2 HK21.out).mono ?_
      rintro e w22 ⟨rfl, hb22⟩
      rw [← HM.out]
      have HL22 : Hid (LP w8 g x.v room code n1 n2 n3 w9.heap.size a9 p9 w10.heap.size q10 w11.heap.size c1 c2 c3 l1 l2 l3 w22) := HL21.out.on hb22
      have HK22 : Hid (GK (w10.heap.size + 1) mid mid2 w11.heap.size n3 c1 c2 c3 s1 s2 K1 K2 w22) := HK21.out.kept hb22
      have HBX : Hid (LB w g a cap p cp x w22) := HB8.out _ HL22.out.k8
      clear hb22 HL21 HK21
      clear h0w21 h1w21 h6w21 h7w21 h8w21 h9w21
      go_wp2
      go_cut [13] (fun r wx => ∃ B b1 b2 b3 k1 k2 k3 r1 r2, r = .pointer (some ⟨B, 0, none⟩) ∧ Hid (OG w22 P n1 n2 n3 room code B b1 b2 b3 k1 k2 k3 r1 r2 wx))
      case first =>
        refine wp_region_held_drew (S := (fun W => LB w g a cap p cp x W ∧ Below w22.heap.size w22 W)) (by kernel_rfl) ⟨HBX.out.drew, (Below.refl _ _).drew⟩ (fun h0 => ?_)
        refine wpAnyH_take (i := 0) (v := (.agg #[.int .i64 g.room, .slice a g.evs.length cap, .slice p g.pk.length cp])) rfl (by kernel_rfl) (by kernel_rfl) (by kernel_rfl) (fun _ _ _ h => h) (Or.inl ⟨by kernel_rfl, ?_⟩) h0 ?_
        · intro W hW
          have f0 : W.cell? ⟨w.heap.size, 0, none⟩ = some (.int .i64 g.room) := cell_of_heap hW.1.b0
          have f1 : W.cell? ⟨w.heap.size, 1, none⟩ = some (.slice a g.evs.length cap) := cell_of_heap hW.1.b0
          have f2 : W.cell? ⟨w.heap.size, 2, none⟩ = some (.slice p g.pk.length cp) := cell_of_heap hW.1.b0
          go_simp
        refine wpAnyH_take (i := 2) (v := (.agg #[.int .i64 x.v.id, .int .i64 x.v.room, .int .i64 x.v.author, .int .i64 x.v.kind, .int .i64 x.v.key, .int .i64 x.v.n, .string x.v.text, .slice x.p x.v.prev.length x.c, .int .i64 x.v.time])) rfl (by kernel_rfl) (by kernel_rfl) (by kernel_rfl) (fun _ _ _ h => h) (Or.inl ⟨by kernel_rfl, ?_⟩) h0 ?_
        · intro W hW
          have f0 : W.cell? ⟨w.heap.size + 1, 0, none⟩ = some (.int .i64 x.v.id) := cell_of_heap hW.1.b1
          have f1 : W.cell? ⟨w.heap.size + 1, 1, none⟩ = some (.int .i64 x.v.room) := cell_of_heap hW.1.b1
          have f2 : W.cell? ⟨w.heap.size + 1, 2, none⟩ = some (.int .i64 x.v.author) := cell_of_heap hW.1.b1
          have f3 : W.cell? ⟨w.heap.size + 1, 3, none⟩ = some (.int .i64 x.v.kind) := cell_of_heap hW.1.b1
          have f4 : W.cell? ⟨w.heap.size + 1, 4, none⟩ = some (.int .i64 x.v.key) := cell_of_heap hW.1.b1
          have f5 : W.cell? ⟨w.heap.size + 1, 5, none⟩ = some (.int .i64 x.v.n) := cell_of_heap hW.1.b1
          have f6 : W.cell? ⟨w.heap.size + 1, 6, none⟩ = some (.string x.v.text) := cell_of_heap hW.1.b1
          have f7 : W.cell? ⟨w.heap.size + 1, 7, none⟩ = some (.slice x.p x.v.prev.length x.c) := cell_of_heap hW.1.b1
          have f8 : W.cell? ⟨w.heap.size + 1, 8, none⟩ = some (.int .i64 x.v.time) := cell_of_heap hW.1.b1
          go_simp
        refine wpAnyH_ready (rs := [1, 5]) (by kernel_rfl) (by simp) ?_
        refine AllReadyH.cons rfl (fun K hK => ?_) (AllReadyH.cons rfl (fun K hK => ?_) AllReadyH.nil)
        · go_simp
          refine (to_graph g a cap p cp _ (HE.out _ h0.1.below).1 (HE.out _ h0.1.below).2).mono ?_
          rintro e v1 ⟨g2, a2, p2, rfl, hn1⟩
          have hr1 : EvsAt v1 a2 g2.evs ∧ EvsAt v1 p2 g2.pk := ⟨hn1.evs.row.at, hn1.pk.row.at⟩
          have hb1 := hn1.evs.below
          have HS : Hid (g2.room = g.room ∧ g2.evs.map (·.v) = g.evs.map (·.v) ∧ g2.pk.map (·.v) = g.pk.map (·.v)) := ⟨hn1.room, hn1.evs.same, hn1.pk.same⟩
          clear hn1
          have h1 : LB w g a cap p cp x v1 ∧ Below w22.heap.size w22 v1 := ⟨h0.1.on hb1, h0.2.trans (hb1.mono h0.2.size)⟩
          refine hK.out _ _ h1 (fun _ => ?_)
          clear hK K
          refine wpAnyH_ready (rs := [3, 5]) (by kernel_rfl) (by simp) ?_
          refine AllReadyH.cons rfl (fun K hK => ?_) (AllReadyH.cons rfl (fun K hK => ?_) AllReadyH.nil)
          · go_simp
            refine (to_event x.v x.p x.c _ (HX.out _ h1.1.below)).mono ?_
            rintro e v2 ⟨q2, rfl, hn2, hb2⟩
            have hr2 : EvsAt v2 a2 g2.evs ∧ EvsAt v2 p2 g2.pk ∧ NumsAt v2 q2 x.v.prev := ⟨hr1.1.kept hb2, hr1.2.kept hb2, hn2.at hxl⟩
            clear hn2
            have h2 : LB w g a cap p cp x v2 ∧ Below w22.heap.size w22 v2 := ⟨h1.1.on hb2, h1.2.trans (hb2.mono h1.2.size)⟩
            refine hK.out _ _ h2 (fun _ => ?_)
            clear hK K
            refine wpAnyH_ready (rs := [4, 5]) (by kernel_rfl) (by simp) ?_
            refine AllReadyH.cons rfl (fun K hK => ?_) (AllReadyH.cons rfl (fun K hK => ?_) AllReadyH.nil)
            · go_simp
              refine (put_implS HPV.out g2 a2 p2 q2 _ hr2.1 hr2.2.1 hr2.2.2 HS.out.1 HS.out.2.1 HS.out.2.2).mono ?_
              rintro e v3 ⟨b1, b2, b3, k1, k2, k3, r1, r2, rfl, hr3, hb3⟩
              have h3 : LB w g a cap p cp x v3 ∧ Below w22.heap.size w22 v3 := ⟨h2.1.on hb3, h2.2.trans (hb3.mono h2.2.size)⟩
              refine hK.out _ _ h3 (fun _ => ?_)
              clear hK K
              refine wpAnyH_ready (rs := [5]) (by kernel_rfl) (by simp) ?_
              refine AllReadyH.cons rfl (fun K hK => ?_) AllReadyH.nil
              go_simp
              have h4 : LB w g a cap p cp x (v3.alloc (.cells #[.int .i64 0, .slice none 0 0, .slice none 0 0, .slice none 0 0, .int .i64 0] 34)) ∧ Below w22.heap.size w22 (v3.alloc (.cells #[.int .i64 0, .slice none 0 0, .slice none 0 0, .slice none 0 0, .int .i64 0] 34)) := ⟨h3.1.on ((Below.refl _ _).alloc (Nat.le_refl _) _), h3.2.alloc h3.2.size _⟩
              have al4 : (v3.alloc (.cells #[.int .i64 0, .slice none 0 0, .slice none 0 0, .slice none 0 0, .int .i64 0] 34)).heap[v3.heap.size]? = some (.cells #[.int .i64 0, .slice none 0 0, .slice none 0 0, .slice none 0 0, .int .i64 0] 34 (0, 0)) := (MapKept.heap_alloc _ _).1
              have lo4 : w22.heap.size ≤ v3.heap.size := h3.2.size
              refine hK.out _ _ h4 (fun _ => ?_)
              clear hK K
              have HF : Hid (OG w22 P n1 n2 n3 room code (v3.heap.size) b1 b2 b3 k1 k2 k3 r1 r2 (v3.alloc (.cells #[.int .i64 room, .slice b1 n1 k1, .slice b2 n2 k2, .slice b3 n3 k3, .int .i64 code] 34))) := og_last h3.2 hr3
              have hS : LB w g a cap p cp x (v3.alloc (.cells #[.int .i64 room, .slice b1 n1 k1, .slice b2 n2 k2, .slice b3 n3 k3, .int .i64 code] 34)) := h3.1.on ((Below.refl _ _).alloc (Nat.le_refl _) _)
              refine wpAnyH_ready (rs := [6]) (by kernel_rfl) (by simp) ?_
              refine AllReadyH.cons rfl (fun K hK => ?_) AllReadyH.nil
              go_simp
              refine hK.out _ _ ⟨hS, HF.out.below⟩ (fun _ => ?_)
              clear hK K
              refine wpAnyH_done (by kernel_rfl) ?_ _
              go_wp2_with fail
              go_meet
              exact ⟨_, b1, b2, b3, k1, k2, k3, r1, r2, rfl, HF⟩
            · go_simp
              have h5 : LB w g a cap p cp x (v2.alloc (.cells #[.int .i64 0, .slice none 0 0, .slice none 0 0, .slice none 0 0, .int .i64 0] 34)) ∧ Below w22.heap.size w22 (v2.alloc (.cells #[.int .i64 0, .slice none 0 0, .slice none 0 0, .slice none 0 0, .int .i64 0] 34)) := ⟨h2.1.on ((Below.refl _ _).alloc (Nat.le_refl _) _), h2.2.alloc h2.2.size _⟩
              have al5 : (v2.alloc (.cells #[.int .i64 0, .slice none 0 0, .slice none 0 0, .slice none 0 0, .int .i64 0] 34)).heap[v2.heap.size]? = some (.cells #[.int .i64 0, .slice none 0 0, .slice none 0 0, .slice none 0 0, .int .i64 0] 34 (0, 0)) := (MapKept.heap_alloc _ _).1
              have lo5 : w22.heap.size ≤ v2.heap.size := h2.2.size
              have hr5 := And.intro (hr2.1.kept ((Below.refl _ _).alloc (Nat.le_refl _) (.cells #[.int .i64 0, .slice none 0 0, .slice none 0 0, .slice none 0 0, .int .i64 0] 34))) (And.intro (hr2.2.1.kept ((Below.refl _ _).alloc (Nat.le_refl _) (.cells #[.int .i64 0, .slice none 0 0, .slice none 0 0, .slice none 0 0, .int .i64 0] 34))) (hr2.2.2.kept ((Below.refl _ _).alloc (Nat.le_refl _) (.cells #[.int .i64 0, .slice none 0 0, .slice none 0 0, .slice none 0 0, .int .i64 0] 34))))
              refine hK.out _ _ h5 (fun _ => ?_)
              clear hK K
              refine wpAnyH_ready (rs := [4]) (by kernel_rfl) (by simp) ?_
              refine AllReadyH.cons rfl (fun K hK => ?_) AllReadyH.nil
              go_simp
              have lt6 : v2.heap.size < (v2.alloc (.cells #[.int .i64 0, .slice none 0 0, .slice none 0 0, .slice none 0 0, .int .i64 0] 34)).heap.size := (Array.getElem?_eq_some_iff.1 al5).1
              refine (put_implS HPV.out g2 a2 p2 q2 _ hr5.1 hr5.2.1 hr5.2.2 HS.out.1 HS.out.2.1 HS.out.2.2).mono ?_
              rintro e v6 ⟨b1, b2, b3, k1, k2, k3, r1, r2, rfl, hr6, hb6⟩
              have h6 : LB w g a cap p cp x v6 ∧ Below w22.heap.size w22 v6 := ⟨h5.1.on hb6, h5.2.trans (hb6.mono h5.2.size)⟩
              have al6 : v6.heap[v2.heap.size]? = some (.cells #[.int .i64 0, .slice none 0 0, .slice none 0 0, .slice none 0 0, .int .i64 0] 34 (0, 0)) := (hb6.block _ (Array.getElem?_eq_some_iff.1 al5).1).trans al5
              refine hK.out _ _ h6 (fun _ => ?_)
              clear hK K
              have hq0 : v6.cell? ⟨v2.heap.size, 0, none⟩ = some (.int .i64 0) := cell_of_heap al6
              have hq1 : v6.cell? ⟨v2.heap.size, 1, none⟩ = some (.slice none 0 0) := cell_of_heap al6
              have hq2 : v6.cell? ⟨v2.heap.size, 2, none⟩ = some (.slice none 0 0) := cell_of_heap al6
              have hq3 : v6.cell? ⟨v2.heap.size, 3, none⟩ = some (.slice none 0 0) := cell_of_heap al6
              have hq4 : v6.cell? ⟨v2.heap.size, 4, none⟩ = some (.int .i64 0) := cell_of_heap al6
              have hfr : ∀ q, v6.frozen? ⟨v2.heap.size, q, none⟩ = false := fun q => frozen_of_heap al6
              have HF : Hid (OG w22 P n1 n2 n3 room code (v2.heap.size) b1 b2 b3 k1 k2 k3 r1 r2 (((((v6.setCell ⟨v2.heap.size, 0, none⟩ (.int .i64 room)).setCell ⟨v2.heap.size, 1, none⟩ (.slice b1 n1 k1)).setCell ⟨v2.heap.size, 2, none⟩ (.slice b2 n2 k2)).setCell ⟨v2.heap.size, 3, none⟩ (.slice b3 n3 k3)).setCell ⟨v2.heap.size, 4, none⟩ (.int .i64 code))) := og_leaf h6.2 al6 hr6 lt6 lo5
              have hbl : w.heap.size + 1 < v2.heap.size := Nat.lt_of_lt_of_le HBX.out.lt lo5
              have hS : LB w g a cap p cp x (((((v6.setCell ⟨v2.heap.size, 0, none⟩ (.int .i64 room)).setCell ⟨v2.heap.size, 1, none⟩ (.slice b1 n1 k1)).setCell ⟨v2.heap.size, 2, none⟩ (.slice b2 n2 k2)).setCell ⟨v2.heap.size, 3, none⟩ (.slice b3 n3 k3)).setCell ⟨v2.heap.size, 4, none⟩ (.int .i64 code)) := ((((h6.1.setCell hbl).setCell hbl).setCell hbl).setCell hbl).setCell hbl
              refine wpAnyH_ready (rs := [6]) (by kernel_rfl) (by simp) ?_
              refine AllReadyH.cons rfl (fun K hK => ?_) AllReadyH.nil
              go_simp
              refine hK.out _ _ ⟨hS, HF.out.below⟩ (fun _ => ?_)
              clear hK K
              refine wpAnyH_done (by kernel_rfl) ?_ _
              go_wp2_with fail
              go_meet
              exact ⟨_, b1, b2, b3, k1, k2, k3, r1, r2, rfl, HF⟩
          · go_simp
            have h7 : LB w g a cap p cp x (v1.alloc (.cells #[.int .i64 0, .slice none 0 0, .slice none 0 0, .slice none 0 0, .int .i64 0] 34)) ∧ Below w22.heap.size w22 (v1.alloc (.cells #[.int .i64 0, .slice none 0 0, .slice none 0 0, .slice none 0 0, .int .i64 0] 34)) := ⟨h1.1.on ((Below.refl _ _).alloc (Nat.le_refl _) _), h1.2.alloc h1.2.size _⟩
            have al7 : (v1.alloc (.cells #[.int .i64 0, .slice none 0 0, .slice none 0 0, .slice none 0 0, .int .i64 0] 34)).heap[v1.heap.size]? = some (.cells #[.int .i64 0, .slice none 0 0, .slice none 0 0, .slice none 0 0, .int .i64 0] 34 (0, 0)) := (MapKept.heap_alloc _ _).1
            have lo7 : w22.heap.size ≤ v1.heap.size := h1.2.size
            have hr7 := And.intro (hr1.1.kept ((Below.refl _ _).alloc (Nat.le_refl _) (.cells #[.int .i64 0, .slice none 0 0, .slice none 0 0, .slice none 0 0, .int .i64 0] 34))) (hr1.2.kept ((Below.refl _ _).alloc (Nat.le_refl _) (.cells #[.int .i64 0, .slice none 0 0, .slice none 0 0, .slice none 0 0, .int .i64 0] 34)))
            refine hK.out _ _ h7 (fun _ => ?_)
            clear hK K
            refine wpAnyH_ready (rs := [3]) (by kernel_rfl) (by simp) ?_
            refine AllReadyH.cons rfl (fun K hK => ?_) AllReadyH.nil
            go_simp
            refine (to_event x.v x.p x.c _ (HX.out _ h7.1.below)).mono ?_
            rintro e v8 ⟨q2, rfl, hn8, hb8⟩
            have hr8 : EvsAt v8 a2 g2.evs ∧ EvsAt v8 p2 g2.pk ∧ NumsAt v8 q2 x.v.prev := ⟨hr7.1.kept hb8, hr7.2.kept hb8, hn8.at hxl⟩
            clear hn8
            have h8 : LB w g a cap p cp x v8 ∧ Below w22.heap.size w22 v8 := ⟨h7.1.on hb8, h7.2.trans (hb8.mono h7.2.size)⟩
            have al8 : v8.heap[v1.heap.size]? = some (.cells #[.int .i64 0, .slice none 0 0, .slice none 0 0, .slice none 0 0, .int .i64 0] 34 (0, 0)) := (hb8.block _ (Array.getElem?_eq_some_iff.1 al7).1).trans al7
            refine hK.out _ _ h8 (fun _ => ?_)
            clear hK K
            refine wpAnyH_ready (rs := [4]) (by kernel_rfl) (by simp) ?_
            refine AllReadyH.cons rfl (fun K hK => ?_) AllReadyH.nil
            go_simp
            have lt9 : v1.heap.size < v8.heap.size := (Array.getElem?_eq_some_iff.1 al8).1
            refine (put_implS HPV.out g2 a2 p2 q2 _ hr8.1 hr8.2.1 hr8.2.2 HS.out.1 HS.out.2.1 HS.out.2.2).mono ?_
            rintro e v9 ⟨b1, b2, b3, k1, k2, k3, r1, r2, rfl, hr9, hb9⟩
            have h9 : LB w g a cap p cp x v9 ∧ Below w22.heap.size w22 v9 := ⟨h8.1.on hb9, h8.2.trans (hb9.mono h8.2.size)⟩
            have al9 : v9.heap[v1.heap.size]? = some (.cells #[.int .i64 0, .slice none 0 0, .slice none 0 0, .slice none 0 0, .int .i64 0] 34 (0, 0)) := (hb9.block _ (Array.getElem?_eq_some_iff.1 al8).1).trans al8
            refine hK.out _ _ h9 (fun _ => ?_)
            clear hK K
            have hq0 : v9.cell? ⟨v1.heap.size, 0, none⟩ = some (.int .i64 0) := cell_of_heap al9
            have hq1 : v9.cell? ⟨v1.heap.size, 1, none⟩ = some (.slice none 0 0) := cell_of_heap al9
            have hq2 : v9.cell? ⟨v1.heap.size, 2, none⟩ = some (.slice none 0 0) := cell_of_heap al9
            have hq3 : v9.cell? ⟨v1.heap.size, 3, none⟩ = some (.slice none 0 0) := cell_of_heap al9
            have hq4 : v9.cell? ⟨v1.heap.size, 4, none⟩ = some (.int .i64 0) := cell_of_heap al9
            have hfr : ∀ q, v9.frozen? ⟨v1.heap.size, q, none⟩ = false := fun q => frozen_of_heap al9
            have HF : Hid (OG w22 P n1 n2 n3 room code (v1.heap.size) b1 b2 b3 k1 k2 k3 r1 r2 (((((v9.setCell ⟨v1.heap.size, 0, none⟩ (.int .i64 room)).setCell ⟨v1.heap.size, 1, none⟩ (.slice b1 n1 k1)).setCell ⟨v1.heap.size, 2, none⟩ (.slice b2 n2 k2)).setCell ⟨v1.heap.size, 3, none⟩ (.slice b3 n3 k3)).setCell ⟨v1.heap.size, 4, none⟩ (.int .i64 code))) := og_leaf h9.2 al9 hr9 lt9 lo7
            have hbl : w.heap.size + 1 < v1.heap.size := Nat.lt_of_lt_of_le HBX.out.lt lo7
            have hS : LB w g a cap p cp x (((((v9.setCell ⟨v1.heap.size, 0, none⟩ (.int .i64 room)).setCell ⟨v1.heap.size, 1, none⟩ (.slice b1 n1 k1)).setCell ⟨v1.heap.size, 2, none⟩ (.slice b2 n2 k2)).setCell ⟨v1.heap.size, 3, none⟩ (.slice b3 n3 k3)).setCell ⟨v1.heap.size, 4, none⟩ (.int .i64 code)) := ((((h9.1.setCell hbl).setCell hbl).setCell hbl).setCell hbl).setCell hbl
            refine wpAnyH_ready (rs := [6]) (by kernel_rfl) (by simp) ?_
            refine AllReadyH.cons rfl (fun K hK => ?_) AllReadyH.nil
            go_simp
            refine hK.out _ _ ⟨hS, HF.out.below⟩ (fun _ => ?_)
            clear hK K
            refine wpAnyH_done (by kernel_rfl) ?_ _
            go_wp2_with fail
            go_meet
            exact ⟨_, b1, b2, b3, k1, k2, k3, r1, r2, rfl, HF⟩
        · go_simp
          have h10 : LB w g a cap p cp x (w22.drew.alloc (.cells #[.int .i64 0, .slice none 0 0, .slice none 0 0, .slice none 0 0, .int .i64 0] 34)) ∧ Below w22.heap.size w22 (w22.drew.alloc (.cells #[.int .i64 0, .slice none 0 0, .slice none 0 0, .slice none 0 0, .int .i64 0] 34)) := ⟨h0.1.on ((Below.refl _ _).alloc (Nat.le_refl _) _), h0.2.alloc h0.2.size _⟩
          have al10 : (w22.drew.alloc (.cells #[.int .i64 0, .slice none 0 0, .slice none 0 0, .slice none 0 0, .int .i64 0] 34)).heap[w22.heap.size]? = some (.cells #[.int .i64 0, .slice none 0 0, .slice none 0 0, .slice none 0 0, .int .i64 0] 34 (0, 0)) := (MapKept.heap_alloc _ _).1
          have lo10 : w22.heap.size ≤ w22.heap.size := h0.2.size
          refine hK.out _ _ h10 (fun _ => ?_)
          clear hK K
          refine wpAnyH_ready (rs := [1]) (by kernel_rfl) (by simp) ?_
          refine AllReadyH.cons rfl (fun K hK => ?_) AllReadyH.nil
          go_simp
          refine (to_graph g a cap p cp _ (HE.out _ h10.1.below).1 (HE.out _ h10.1.below).2).mono ?_
          rintro e v11 ⟨g2, a2, p2, rfl, hn11⟩
          have hr11 : EvsAt v11 a2 g2.evs ∧ EvsAt v11 p2 g2.pk := ⟨hn11.evs.row.at, hn11.pk.row.at⟩
          have hb11 := hn11.evs.below
          have HS : Hid (g2.room = g.room ∧ g2.evs.map (·.v) = g.evs.map (·.v) ∧ g2.pk.map (·.v) = g.pk.map (·.v)) := ⟨hn11.room, hn11.evs.same, hn11.pk.same⟩
          clear hn11
          have h11 : LB w g a cap p cp x v11 ∧ Below w22.heap.size w22 v11 := ⟨h10.1.on hb11, h10.2.trans (hb11.mono h10.2.size)⟩
          have al11 : v11.heap[w22.heap.size]? = some (.cells #[.int .i64 0, .slice none 0 0, .slice none 0 0, .slice none 0 0, .int .i64 0] 34 (0, 0)) := (hb11.block _ (Array.getElem?_eq_some_iff.1 al10).1).trans al10
          refine hK.out _ _ h11 (fun _ => ?_)
          clear hK K
          refine wpAnyH_ready (rs := [3]) (by kernel_rfl) (by simp) ?_
          refine AllReadyH.cons rfl (fun K hK => ?_) AllReadyH.nil
          go_simp
          refine (to_event x.v x.p x.c _ (HX.out _ h11.1.below)).mono ?_
          rintro e v12 ⟨q2, rfl, hn12, hb12⟩
          have hr12 : EvsAt v12 a2 g2.evs ∧ EvsAt v12 p2 g2.pk ∧ NumsAt v12 q2 x.v.prev := ⟨hr11.1.kept hb12, hr11.2.kept hb12, hn12.at hxl⟩
          clear hn12
          have h12 : LB w g a cap p cp x v12 ∧ Below w22.heap.size w22 v12 := ⟨h11.1.on hb12, h11.2.trans (hb12.mono h11.2.size)⟩
          have al12 : v12.heap[w22.heap.size]? = some (.cells #[.int .i64 0, .slice none 0 0, .slice none 0 0, .slice none 0 0, .int .i64 0] 34 (0, 0)) := (hb12.block _ (Array.getElem?_eq_some_iff.1 al11).1).trans al11
          refine hK.out _ _ h12 (fun _ => ?_)
          clear hK K
          refine wpAnyH_ready (rs := [4]) (by kernel_rfl) (by simp) ?_
          refine AllReadyH.cons rfl (fun K hK => ?_) AllReadyH.nil
          go_simp
          have lt13 : w22.heap.size < v12.heap.size := (Array.getElem?_eq_some_iff.1 al12).1
          refine (put_implS HPV.out g2 a2 p2 q2 _ hr12.1 hr12.2.1 hr12.2.2 HS.out.1 HS.out.2.1 HS.out.2.2).mono ?_
          rintro e v13 ⟨b1, b2, b3, k1, k2, k3, r1, r2, rfl, hr13, hb13⟩
          have h13 : LB w g a cap p cp x v13 ∧ Below w22.heap.size w22 v13 := ⟨h12.1.on hb13, h12.2.trans (hb13.mono h12.2.size)⟩
          have al13 : v13.heap[w22.heap.size]? = some (.cells #[.int .i64 0, .slice none 0 0, .slice none 0 0, .slice none 0 0, .int .i64 0] 34 (0, 0)) := (hb13.block _ (Array.getElem?_eq_some_iff.1 al12).1).trans al12
          refine hK.out _ _ h13 (fun _ => ?_)
          clear hK K
          have hq0 : v13.cell? ⟨w22.heap.size, 0, none⟩ = some (.int .i64 0) := cell_of_heap al13
          have hq1 : v13.cell? ⟨w22.heap.size, 1, none⟩ = some (.slice none 0 0) := cell_of_heap al13
          have hq2 : v13.cell? ⟨w22.heap.size, 2, none⟩ = some (.slice none 0 0) := cell_of_heap al13
          have hq3 : v13.cell? ⟨w22.heap.size, 3, none⟩ = some (.slice none 0 0) := cell_of_heap al13
          have hq4 : v13.cell? ⟨w22.heap.size, 4, none⟩ = some (.int .i64 0) := cell_of_heap al13
          have hfr : ∀ q, v13.frozen? ⟨w22.heap.size, q, none⟩ = false := fun q => frozen_of_heap al13
          have HF : Hid (OG w22 P n1 n2 n3 room code (w22.heap.size) b1 b2 b3 k1 k2 k3 r1 r2 (((((v13.setCell ⟨w22.heap.size, 0, none⟩ (.int .i64 room)).setCell ⟨w22.heap.size, 1, none⟩ (.slice b1 n1 k1)).setCell ⟨w22.heap.size, 2, none⟩ (.slice b2 n2 k2)).setCell ⟨w22.heap.size, 3, none⟩ (.slice b3 n3 k3)).setCell ⟨w22.heap.size, 4, none⟩ (.int .i64 code))) := og_leaf h13.2 al13 hr13 lt13 lo10
          have hbl : w.heap.size + 1 < w22.heap.size := Nat.lt_of_lt_of_le HBX.out.lt lo10
          have hS : LB w g a cap p cp x (((((v13.setCell ⟨w22.heap.size, 0, none⟩ (.int .i64 room)).setCell ⟨w22.heap.size, 1, none⟩ (.slice b1 n1 k1)).setCell ⟨w22.heap.size, 2, none⟩ (.slice b2 n2 k2)).setCell ⟨w22.heap.size, 3, none⟩ (.slice b3 n3 k3)).setCell ⟨w22.heap.size, 4, none⟩ (.int .i64 code)) := ((((h13.1.setCell hbl).setCell hbl).setCell hbl).setCell hbl).setCell hbl
          refine wpAnyH_ready (rs := [6]) (by kernel_rfl) (by simp) ?_
          refine AllReadyH.cons rfl (fun K hK => ?_) AllReadyH.nil
          go_simp
          refine hK.out _ _ ⟨hS, HF.out.below⟩ (fun _ => ?_)
          clear hK K
          refine wpAnyH_done (by kernel_rfl) ?_ _
          go_wp2_with fail
          go_meet
          exact ⟨_, b1, b2, b3, k1, k2, k3, r1, r2, rfl, HF⟩
      case rest =>
      obtain ⟨B13, d1, d2, d3, e1, e2, e3, u1, u2, rfl, HO13⟩ := hcut
      obtain ⟨w23, hw23⟩ : ∃ q, q = wc := ⟨wc, rfl⟩
      subst hw23
      have HL23 : Hid (LP w8 g x.v room code n1 n2 n3 w9.heap.size a9 p9 w10.heap.size q10 w11.heap.size c1 c2 c3 l1 l2 l3 w23) := HL22.out.on HO13.out.below
      have HK23 : Hid (GK (w10.heap.size + 1) mid mid2 w11.heap.size n3 c1 c2 c3 s1 s2 K1 K2 w23) := HK22.out.kept HO13.out.below
      have h13w23 : ∀ k, w23.cell? ⟨B13, k, none⟩ = _ := fun k => cell_of_heap HO13.out.box
      have h0w23 : ∀ k, w23.cell? ⟨w.heap.size, k, none⟩ = _ := fun k => cell_of_heap (HB8.out _ HL23.out.k8).b0
      have h1w23 : ∀ k, w23.cell? ⟨w.heap.size + 1, k, none⟩ = _ := fun k => cell_of_heap (HB8.out _ HL23.out.k8).b1
      have h6w23 : ∀ k, w23.cell? ⟨B6, k, none⟩ = _ := fun k => cell_of_heap (HO8.out _ HL23.out.k8).box
      have h7w23 : ∀ k, w23.cell? ⟨w9.heap.size, k, none⟩ = _ := fun k => cell_of_heap HL23.out.b7
      have h8w23 : ∀ k, w23.cell? ⟨w10.heap.size, k, none⟩ = _ := fun k => cell_of_heap HL23.out.b8
      have h9w23 : ∀ k, w23.cell? ⟨w11.heap.size, k, none⟩ = _ := fun k => cell_of_heap HL23.out.b9
      go_wp2_with fail
      refine (eq_graphOut P n1 n2 n3 room code d1 d2 d3 z1 z2 z3 u1 u2 t1 t2 e1 e2 e3 y1 y2 y3 w23 HO13.out.gs (HO8.out _ HL23.out.k8).gs).mono ?_
      rintro e w24 ⟨rfl, hb24⟩
      have HL24 : Hid (LP w8 g x.v room code n1 n2 n3 w9.heap.size a9 p9 w10.heap.size q10 w11.heap.size c1 c2 c3 l1 l2 l3 w24) := HL23.out.on hb24
      have HK24 : Hid (GK (w10.heap.size + 1) mid mid2 w11.heap.size n3 c1 c2 c3 s1 s2 K1 K2 w24) := HK23.out.kept hb24
      clear hb24 HL23 HK23 h13w23
      clear h0w23 h1w23 h6w23 h7w23 h8w23 h9w23
      have h0w24 : ∀ k, w24.cell? ⟨w.heap.size, k, none⟩ = _ := fun k => cell_of_heap (HB8.out _ HL24.out.k8).b0
      have h1w24 : ∀ k, w24.cell? ⟨w.heap.size + 1, k, none⟩ = _ := fun k => cell_of_heap (HB8.out _ HL24.out.k8).b1
      have h6w24 : ∀ k, w24.cell? ⟨B6, k, none⟩ = _ := fun k => cell_of_heap (HO8.out _ HL24.out.k8).box
      have h7w24 : ∀ k, w24.cell? ⟨w9.heap.size, k, none⟩ = _ := fun k => cell_of_heap HL24.out.b7
      have h8w24 : ∀ k, w24.cell? ⟨w10.heap.size, k, none⟩ = _ := fun k => cell_of_heap HL24.out.b8
      have h9w24 : ∀ k, w24.cell? ⟨w11.heap.size, k, none⟩ = _ := fun k => cell_of_heap HL24.out.b9
      go_wp2_with fail
      refine (held_graphOutK n1 n2 n3 (w10.heap.size + 1) mid mid2 w11.heap.size room code c1 c2 c3 l1 l2 l3 s1 s2 K1 K2 w24 hsl.1 hsl.2 HK24.out).mono ?_
      rintro e w25 ⟨rfl, hb25⟩
      rw [← HM.out]
      have HF : Hid (Below w.heap.size w w25) := HXB.out _ (HL24.out.k8.trans (hb25.mono HL24.out.k8.size))
      clear hb25 HL24 HK24
      clear h0w24 h1w24 h6w24 h7w24 h8w24 h9w24
      go_wp2
      go_ret
      exact ⟨rfl, HF.out⟩
    · have HL2 : Hid ((if (x.v.text.size : Int) + x.v.prev.length ≤ L then L - x.v.text.size - x.v.prev.length else -1) = -1) := if_neg hs2
      clear h h2 hs hs2 hn
      go_enter Tryz.func3, Tryz.ntmps3
      go_wp2_with fail
      refine (sz_graph g a cap p cp 1048576 _ (HR.out _ HLB.below).1 (HR.out _ HLB.below).2 (by omega) (by omega)).mono ?_
      rintro e w1 ⟨rfl, hb1⟩
      rw [← HL.out]
      have HB1 : Hid (LB w g a cap p cp x w1) := HLB.on hb1
      have h1w1 : ∀ k, w1.cell? ⟨w.heap.size + 1, k, none⟩ = _ := fun k => cell_of_heap HB1.out.b1
      clear hb1 HLB
      go_wp2_with fail
      refine (sz_event x.v x.p x.c L _ hL hL2 ht hpl).mono ?_
      rintro e w2 ⟨rfl, hb2⟩
      rw [HL2.out]
      have HF : Hid (Below w.heap.size w w2) := (HB1.out.on hb2).below
      clear hb2 HB1 h1w1
      go_wp2
      go_ret
      exact ⟨rfl, HF.out⟩
  · have HS : Hid (szB (wt g.evs + wt g.pk) 1048576 = -1) := szB_no hs
    clear h h2 hs hn
    go_enter Tryz.func3, Tryz.ntmps3
    go_wp2_with fail
    refine (sz_graph g a cap p cp 1048576 _ (HR.out _ HLB.below).1 (HR.out _ HLB.below).2 (by omega) (by omega)).mono ?_
    rintro e w1 ⟨rfl, hb1⟩
    rw [HS.out]
    have HF : Hid (Below w.heap.size w w1) := (HLB.on hb1).below
    clear hb1 HLB
    go_wp2
    go_ret
    exact ⟨rfl, HF.out⟩
theorem walk_fnExactGraphPut_gr (g : Gr) (a : Option Addr) (cap : Nat) (p : Option Addr) (cp : Nat) (v : Ev) (q : Option Addr) (c : Nat) (w : World) (h : EvsRaw w a g.evs) (h2 : EvsRaw w p g.pk) (ht : v.text.size ≤ maxLen) (hpl : v.prev.length ≤ maxLen) (hn : v.prev.length ≤ 1048576 → NumsAt w q v.prev) :
    Calls Tryz.prog 3 #[.agg #[.int .i64 g.room, .slice a g.evs.length cap, .slice p g.pk.length cp], .agg #[.int .i64 v.id, .int .i64 v.room, .int .i64 v.author, .int .i64 v.kind, .int .i64 v.key, .int .i64 v.n, .string v.text, .slice q v.prev.length c, .int .i64 v.time]] w fun e w' => e = .returned (.bool true) ∧ Below w.heap.size w w' :=
  walk_put g a cap p cp ⟨v, q, c⟩ w h h2 ht hpl hn
end Go.Proofs.YtobkinocaomcmaaGreat
