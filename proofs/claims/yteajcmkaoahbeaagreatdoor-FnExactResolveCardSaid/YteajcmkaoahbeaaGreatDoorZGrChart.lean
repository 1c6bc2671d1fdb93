/- The program's chart of a right graph. -/
import Derived.Test.YteajcmkaoahbeaaGreatDoorZGrLoops
import Derived.Deep.DeepCutAuto
import Derived.Deep.RegionHeld3
namespace Go.Proofs.YteajcmkaoahbeaaGreatDoor
open Go.RowKit

theorem rowB_each {es : List Em} {room : Int} {most : Nat} (h : rowB es room most = true) {m : Em} (hm : m ∈ es) : rightB m.v = true ∧ m.v.room = room := by
  obtain ⟨i, hi, rfl⟩ := List.getElem_of_mem hm
  simp only [rowB, Bool.and_eq_true] at h
  have h1 := List.all_eq_true.1 h.2 i (List.mem_range.2 hi)
  cases i with
  | zero =>
    rw [okAt_zero hi] at h1
    simp only [Bool.and_eq_true] at h1
    exact ⟨h1.1, by simpa using h1.2⟩
  | succ j =>
    rw [okAt_succ hi] at h1
    simp only [Bool.and_eq_true] at h1
    exact ⟨h1.1.1, by simpa using h1.1.2⟩
theorem rowB_len {es : List Em} {room : Int} {most : Nat} (h : rowB es room most = true) : es.length ≤ most := by
  simp only [rowB, Bool.and_eq_true] at h
  exact of_decide_eq_true h.1
theorem prevOk_mem {id : Int} : ∀ {zs : List Int} {last : Int}, prevOk id last zs = true → ∀ p ∈ zs, 1 ≤ p ∧ p ≤ 1000000
  | [], _, _, _, hp => by cases hp
  | x :: r, last, h, p, hp => by
    unfold prevOk at h
    simp only [Bool.and_eq_true] at h
    rcases List.mem_cons.1 hp with rfl | hp
    · exact isB_yes h.1.1.2
    · exact prevOk_mem h.2 p hp
theorem right_in {m : Em} (h : rightB m.v = true) : IdIn m ∧ ∀ p ∈ m.v.prev, 1 ≤ p ∧ p ≤ 1000000 := by
  unfold rightB headB prevB at h
  simp only [Bool.and_eq_true] at h
  exact ⟨isB_yes h.1.1.1.1.1, prevOk_mem h.1.2.2⟩
theorem evsB_prevs {g : Gr} (h : evsB g = true) : ∀ m ∈ g.evs, ∀ p ∈ m.v.prev, p ∈ idsOf g.evs := fun m hm p hp => by
  have h1 := List.all_eq_true.1 h m hm
  simp only [Bool.and_eq_true] at h1
  have h2 := List.all_eq_true.1 h1.1 p hp
  exact atI_mem.1 (of_decide_eq_true h2)
/-- The chart, and what it stands on. -/
structure Chart (w : World) (g : Gr) (bc be bp bt : Nat) (l : List (Int × Int)) (W : World) : Prop where
  ch : ChAt W bc be bp 1 0 (.map (some bt))
  evs : W.ownsMap Tryz.prog 2 heldR be g.evs.length (putAll g.evs)
  pk : W.ownsMap Tryz.prog 2 heldR bp g.pk.length (putAll g.pk)
  tab : W.ownsMap Tryz.prog 2 heldR bt l.length (putL l)
  done : Done (pvOf g.evs) (idsOf g.evs) l
  below : Below w.heap.size w W
  nc : w.heap.size ≤ bc
  ne : w.heap.size ≤ be
  np : w.heap.size ≤ bp
  nt : w.heap.size ≤ bt
  two : be ≠ bp
def ChartPost (w : World) (g : Gr) (e : Ending) (w' : World) : Prop := (rightG g = false ∧ e = .returned (.tuple #[.pointer none, .bool false]) ∧ Below w.heap.size w w') ∨ (rightG g = true ∧ ∃ bc be bp bt l, e = .returned (.tuple #[.pointer (some ⟨bc, 0, none⟩), .bool true]) ∧ Chart w g bc be bp bt l w')
/-- The two maps, and the variable that holds them. -/
structure StAt (w : World) (g : Gr) (bs be bp : Nat) (W : World) : Prop where
  box : W.heap[bs]? = some (.cells #[.map (some be), .map (some bp)] 172 (0, 0))
  evs : W.ownsMap Tryz.prog 2 heldR be g.evs.length (putAll g.evs)
  pk : W.ownsMap Tryz.prog 2 heldR bp g.pk.length (putAll g.pk)
  below : Below w.heap.size w W
  ne : w.heap.size ≤ be
  np : w.heap.size ≤ bp
  two : be ≠ bp
theorem st_last {w2 w3 w4 : World} {g : Gr} {b3 b4 : Nat} (h3 : w3.ownsMap Tryz.prog 2 heldR b3 g.evs.length (putAll g.evs)) (h4 : w4.ownsMap Tryz.prog 2 heldR b4 g.pk.length (putAll g.pk)) (hb4 : Below w3.heap.size w3 w4) (hw : Below w2.heap.size w2 w4) (hn : w2.heap.size ≤ b3) (hp : w2.heap.size ≤ b4) (ht : b3 ≠ b4) :
    StAt w2 g w4.heap.size b3 b4 (w4.alloc (.cells #[.map (some b3), .map (some b4)] 172)) :=
  ⟨(MapKept.heap_alloc w4 _).1, (ownsMap_below h3 hb4).alloc _, h4.alloc _, hw.alloc hw.size _, hn, hp, ht⟩
theorem st_mid {w2 w4 : World} {g : Gr} {bs b3 b4 : Nat} {x y : Value} (hbox : w4.heap[bs]? = some (.cells #[x, y] 172 (0, 0))) (h3 : w4.ownsMap Tryz.prog 2 heldR b3 g.evs.length (putAll g.evs)) (h4 : w4.ownsMap Tryz.prog 2 heldR b4 g.pk.length (putAll g.pk)) (hw : Below w2.heap.size w2 w4) (hs : w2.heap.size ≤ bs) (hn : w2.heap.size ≤ b3) (hp : w2.heap.size ≤ b4) (ht : b3 ≠ b4) :
    StAt w2 g bs b3 b4 ((w4.setCell ⟨bs, 0, none⟩ (.map (some b3))).setCell ⟨bs, 1, none⟩ (.map (some b4))) := by
  have n3 : b3 ≠ bs := fun e => map_ne_cells h3 hbox e.symm
  have n4 : b4 ≠ bs := fun e => map_ne_cells h4 hbox e.symm
  have hb := heap_set (i := 1) (heap_set (i := 0) hbox (.map (some b3))) (.map (some b4))
  exact ⟨by simpa using hb, (h3.setCell n3 _).setCell n3 _, (h4.setCell n4 _).setCell n4 _, (hw.setCell hs _).setCell hs _, hn, hp, ht⟩
set_option maxHeartbeats 8000000 in
set_option maxRecDepth 100000 in
theorem chart_impl (g : Gr) (a : Option Addr) (cap : Nat) (p : Option Addr) (cp : Nat) (w : World) (h : EvsAt w a g.evs) (h2 : EvsAt w p g.pk) :
    Calls Tryz.prog 72 #[.agg #[.int .i64 g.room, .slice a g.evs.length cap, .slice p g.pk.length cp]] w (ChartPost w g) := by
  obtain ⟨room, evs, pk⟩ := g
  simp only at h h2 ⊢
  have hl := h.len
  have hl2 := h2.len
  have HG : Hid (GAt w ⟨room, evs, pk⟩ a cap p cp (w.alloc (.cells #[.int .i64 room, .slice a evs.length cap, .slice p pk.length cp] 32))) := ⟨(MapKept.heap_alloc w _).1, h.kept ((Below.refl _ _).alloc (Nat.le_refl _) _), h2.kept ((Below.refl _ _).alloc (Nat.le_refl _) _), (Below.refl _ _).alloc (Nat.le_refl _) _⟩
  clear h h2
  cases c1 : isB room 1 3
  · have HS : Hid (rightG ⟨room, evs, pk⟩ = false) := by unfold Hid; simp [rightG, c1]
    go_enter Tryz.func72, Tryz.ntmps72
    go_wp2_with (go_at_call 108; refine (room_impl _ _).mono ?_; rintro e w' ⟨rfl, rfl⟩; rw [c1])
    go_ret2
    exact .inl ⟨HS.out, rfl, HG.out.below⟩
  cases c2 : rowB evs room 60
  · have HS : Hid (rightG ⟨room, evs, pk⟩ = false) := by unfold Hid; simp [rightG, c2]
    go_enter Tryz.func72, Tryz.ntmps72
    go_wp2_with (first
      | (go_at_call 108; refine (room_impl _ _).mono ?_; rintro e w' ⟨rfl, rfl⟩; rw [c1])
      | (go_at_call 109; refine (row_impl evs room 60 a cap _ HG.out.evs (by omega)).mono ?_; rintro e w1 ⟨rfl, hb1⟩; rw [c2]; have HG1 : Hid (GAt w ⟨room, evs, pk⟩ a cap p cp w1) := HG.out.on hb1; clear hb1))
    go_ret2
    exact .inl ⟨HS.out, rfl, HG1.out.below⟩
  cases c3 : rowB pk room 20
  · have HS : Hid (rightG ⟨room, evs, pk⟩ = false) := by unfold Hid; simp [rightG, c3]
    go_enter Tryz.func72, Tryz.ntmps72
    go_wp2_with (first
        | (go_at_call 108; refine (room_impl _ _).mono ?_; rintro e w' ⟨rfl, rfl⟩; rw [c1])
        | (go_at_call 109; have hq := HG1; refine (row_impl pk room 20 p cp _ HG1.out.pk (by omega)).mono ?_; rintro e w2 ⟨rfl, hb2⟩; rw [c3]; have HG2 : Hid (GAt w ⟨room, evs, pk⟩ a cap p cp w2) := HG1.out.on hb2; clear hb2 hq)
        | (go_at_call 109; refine (row_impl evs room 60 a cap _ HG.out.evs (by omega)).mono ?_; rintro e w1 ⟨rfl, hb1⟩; rw [c2]; have HG1 : Hid (GAt w ⟨room, evs, pk⟩ a cap p cp w1) := HG.out.on hb1; have hy0 : w1.cell? ⟨w.heap.size, 0, none⟩ = some (.int .i64 room) := cell_of_heap HG1.out.box; have hy2 : w1.cell? ⟨w.heap.size, 2, none⟩ = some (.slice p pk.length cp) := cell_of_heap HG1.out.box; clear hb1))
    go_ret2
    exact .inl ⟨HS.out, rfl, HG2.out.below⟩
  have he60 := rowB_len c2
  have hp20 := rowB_len c3
  have HI : Hid ((∀ m ∈ evs, IdIn m) ∧ (∀ m ∈ pk, IdIn m) ∧ (∀ m ∈ evs, ∀ p ∈ m.v.prev, 1 ≤ p ∧ p ≤ 1000000) ∧ (∀ m ∈ pk, ∀ p ∈ m.v.prev, 1 ≤ p ∧ p ≤ 1000000) ∧ (idsOf evs).Nodup ∧ (idsOf pk).Nodup) := ⟨fun m hm => (right_in (rowB_each c2 hm).1).1, fun m hm => (right_in (rowB_each c3 hm).1).1, fun m hm => (right_in (rowB_each c2 hm).1).2, fun m hm => (right_in (rowB_each c3 hm).1).2, rowB_nodup c2, rowB_nodup c3⟩
  have HR3 : Hid (rightG ⟨room, evs, pk⟩ = (evsB ⟨room, evs, pk⟩ && pkB ⟨room, evs, pk⟩ && depB ⟨room, evs, pk⟩)) := by unfold Hid; simp [rightG, c1, c2, c3]
  go_enter Tryz.func72, Tryz.ntmps72
  go_wp2_with (first
      | (go_at_call 108; refine (room_impl _ _).mono ?_; rintro e w' ⟨rfl, rfl⟩; rw [c1])
      | (go_at_call 109; have hq := HG1; refine (row_impl pk room 20 p cp _ HG1.out.pk (by omega)).mono ?_; rintro e w2 ⟨rfl, hb2⟩; rw [c3]; have HG2 : Hid (GAt w ⟨room, evs, pk⟩ a cap p cp w2) := HG1.out.on hb2; clear hb2 hq)
      | (go_at_call 109; refine (row_impl evs room 60 a cap _ HG.out.evs (by omega)).mono ?_; rintro e w1 ⟨rfl, hb1⟩; rw [c2]; have HG1 : Hid (GAt w ⟨room, evs, pk⟩ a cap p cp w1) := HG.out.on hb1; have hy0 : w1.cell? ⟨w.heap.size, 0, none⟩ = some (.int .i64 room) := cell_of_heap HG1.out.box; have hy2 : w1.cell? ⟨w.heap.size, 2, none⟩ = some (.slice p pk.length cp) := cell_of_heap HG1.out.box; clear hb1))
  clear hy0 hy2 HG HG1
  have hx1 : w2.cell? ⟨w.heap.size, 1, none⟩ = some (.slice a evs.length cap) := cell_of_heap HG2.out.box
  have hx2 : w2.cell? ⟨w.heap.size, 2, none⟩ = some (.slice p pk.length cp) := cell_of_heap HG2.out.box
  have hz : w.heap.size < w2.heap.size := (Array.getElem?_eq_some_iff.1 HG2.out.box).1
  go_cut [4] (fun r wx => ∃ bs be bp, r = .pointer (some ⟨bs, 0, none⟩) ∧ Hid (StAt w2 ⟨room, evs, pk⟩ bs be bp wx))
  case first =>
    have hn2 : ¬ w2.heap.size = w.heap.size := by omega
    have hn2' : ¬ w.heap.size = w2.heap.size := by omega
    go_region_held3 (fun W => W.cell? ⟨w.heap.size, 1, none⟩ = some (.slice a evs.length cap) ∧ W.cell? ⟨w.heap.size, 2, none⟩ = some (.slice p pk.length cp)) (simp [go_sem, *]) (first
          | (go_at_call_of 110 (Value.slice a evs.length cap); refine (byId_impl evs a cap _ (HG2.out.evs.kept (by first | exact Below.drew (Below.refl _ _) | exact (Below.drew (Below.refl _ _)).alloc (Nat.le_refl _) _)) HI.out.1 he60).mono ?_; rintro e w3 ⟨rfl, hown3, hb3⟩; have hz3 : w2.heap.size < w3.heap.size := (by have := hown3.lt; have := hb3.size; simp at *; omega); have hz13 : w.heap.size < w3.heap.size := Nat.lt_trans hz hz3; have hn3 : ¬ w3.heap.size = w.heap.size := (by omega); have hn3' : ¬ w.heap.size = w3.heap.size := (by omega); have HW3 : Hid (Below w2.heap.size w2 w3) := (by first | exact (Below.drew (Below.refl _ _)).trans hb3 | exact ((Below.drew (Below.refl _ _)).alloc (Nat.le_refl _) _).trans (hb3.mono (by simp))); have hx31 : w3.cell? ⟨w.heap.size, 1, none⟩ = some (.slice a evs.length cap) := (HW3.out.cell (p := ⟨w.heap.size, 1, none⟩) hz).trans hx1; have hx32 : w3.cell? ⟨w.heap.size, 2, none⟩ = some (.slice p pk.length cp) := (HW3.out.cell (p := ⟨w.heap.size, 2, none⟩) hz).trans hx2; obtain ⟨hc3, hf3⟩ := bcell hb3)
          | (go_at_call_of 110 (Value.slice p pk.length cp); refine (byId_impl pk p cp _ (HG2.out.pk.kept (by first | exact HW3.out | exact HW3.out.alloc HW3.out.size _)) HI.out.2.1 (by omega)).mono ?_; rintro e w4 ⟨rfl, hown4, hb4⟩; have hz4 : w3.heap.size < w4.heap.size := (by have := hown4.lt; have := hb4.size; simp at *; omega); have hz24 : w2.heap.size < w4.heap.size := Nat.lt_trans hz3 hz4; have hz14 : w.heap.size < w4.heap.size := Nat.lt_trans hz13 hz4; have hn4 : ¬ w4.heap.size = w.heap.size := (by omega); have hn4' : ¬ w.heap.size = w4.heap.size := (by omega); have HW4 : Hid (Below w2.heap.size w2 w4) := (by first | exact HW3.out.trans (hb4.mono HW3.out.size) | exact (HW3.out.alloc HW3.out.size _).trans (hb4.mono (by simp; omega))); have hx41 : w4.cell? ⟨w.heap.size, 1, none⟩ = some (.slice a evs.length cap) := (HW4.out.cell (p := ⟨w.heap.size, 1, none⟩) hz).trans hx1; have hx42 : w4.cell? ⟨w.heap.size, 2, none⟩ = some (.slice p pk.length cp) := (HW4.out.cell (p := ⟨w.heap.size, 2, none⟩) hz).trans hx2; obtain ⟨hc4, hf4⟩ := bcell hb4))
    all_goals go_wp2_with fail
    all_goals go_meet
    · exact ⟨_, _, _, rfl, st_last hown3 hown4 hb4 HW4.out (Nat.le_refl _) (Nat.le_of_lt hz3) (Nat.ne_of_lt hz3)⟩
    · exact ⟨_, _, _, rfl, st_mid (g := ⟨room, evs, pk⟩) ((hb4.block _ (by simp)).trans (MapKept.heap_alloc w3 _).1) (ownsMap_below (hown3.alloc _) hb4) (by simpa using hown4) HW4.out (Nat.le_of_lt hz3) (Nat.le_refl _) (by omega) (by omega)⟩
    · exact ⟨_, _, _, rfl, st_mid (g := ⟨room, evs, pk⟩) ((hb4.block _ hz3).trans ((hb3.block _ (by simp)).trans (MapKept.heap_alloc w2.drew _).1)) (ownsMap_below (by simpa using hown3) hb4) hown4 HW4.out (Nat.le_refl _) (by omega) (Nat.le_of_lt hz3) (by have := hown3.lt; simp at this; omega)⟩
  case rest =>
    obtain ⟨bs, be, bp, rfl, HST⟩ := hcut
    have hs0 : wc.cell? ⟨bs, 0, none⟩ = some (.map (some be)) := cell_of_heap HST.out.box
    have hs1 : wc.cell? ⟨bs, 1, none⟩ = some (.map (some bp)) := cell_of_heap HST.out.box
    have HPL : Hid (PlIn wc ⟨room, evs, pk⟩ be bp evs.length pk.length) := ⟨HST.out.evs, HST.out.pk, fun m hm => (HG2.out.evs.nums m hm).kept HST.out.below, fun m hm => (HG2.out.pk.nums m hm).kept HST.out.below, HI.out.2.2.1, HI.out.2.2.2.1, HI.out.2.2.2.2.1, HI.out.2.2.2.2.2, HI.out.2.1⟩
    have HWC : Hid (Below w.heap.size w wc) := HG2.out.below.trans (HST.out.below.mono HG2.out.below.size)
    have hbs : bs < wc.heap.size := (Array.getElem?_eq_some_iff.1 HST.out.box).1
    clear hx1 hx2
    cases hpl : (evsB ⟨room, evs, pk⟩ && pkB ⟨room, evs, pk⟩)
    · have HS : Hid (rightG ⟨room, evs, pk⟩ = false) := by unfold Hid; rw [HR3.out, hpl]; rfl
      go_wp2_with (go_at_call 111; refine (placed_impl ⟨room, evs, pk⟩ be bp evs.length pk.length _ HPL.out).mono ?_; rintro e w5 ⟨rfl, hb5⟩; rw [hpl]; have HW5 : Hid (Below w.heap.size w w5) := HWC.out.trans (hb5.mono HWC.out.size); clear hb5)
      go_ret2
      exact .inl ⟨HS.out, rfl, HW5.out⟩
    · have HRK : Hid (∀ W, Below wc.heap.size wc W → RkIn W evs be evs.length) := fun W hW => by
        have h1 : evsB ⟨room, evs, pk⟩ = true := by simp only [Bool.and_eq_true] at hpl; exact hpl.1
        exact ⟨ownsMap_below HST.out.evs hW, fun m hm => (HPL.out.ne m hm).kept hW, HI.out.2.2.2.2.1, HI.out.1, evsB_prevs h1, he60⟩
      have HPK : Hid (∀ W, Below wc.heap.size wc W → W.ownsMap Tryz.prog 2 heldR bp pk.length (putAll pk)) := fun W hW => ownsMap_below HST.out.pk hW
      go_wp2_with (go_at_call 111; refine (placed_impl ⟨room, evs, pk⟩ be bp evs.length pk.length _ HPL.out).mono ?_; rintro e w5 ⟨rfl, hb5⟩; rw [hpl]; have HW5 : Hid (Below w.heap.size w w5 ∧ Below wc.heap.size wc w5) := ⟨HWC.out.trans (hb5.mono HWC.out.size), hb5⟩; have hs50 : w5.cell? ⟨bs, 0, none⟩ = some (.map (some be)) := (hb5.cell (p := ⟨bs, 0, none⟩) hbs).trans hs0; have hs51 : w5.cell? ⟨bs, 1, none⟩ = some (.map (some bp)) := (hb5.cell (p := ⟨bs, 1, none⟩) hbs).trans hs1; clear hb5)
      refine (loops_impl ⟨room, evs, pk⟩ be bp evs.length w5.heap.size (.map none) w5 _ (HRK.out _ HW5.out.2) ((Below.refl _ _).alloc (Nat.le_refl _) _) (Nat.le_refl _) (MapKept.heap_alloc w5 _).1).mono ?_
      rintro e w6 ⟨bt, l, rfl, hleft⟩
      have HL : Hid (ChAt w6 w5.heap.size be bp 1 0 (.map (some bt)) ∧ w5.heap.size ≤ bt ∧ w6.ownsMap Tryz.prog 2 heldR bt l.length (putL l) ∧ Done (pvOf evs) (idsOf evs) l) := ⟨hleft.ch, Nat.le_trans (by simp) hleft.new, hleft.tab, hleft.done⟩
      have HB6 : Hid (Below wc.heap.size wc w6 ∧ Below w.heap.size w w6) := by
        have h1 := HW5.out.2.size
        have h2 := HW5.out.1.size
        exact ⟨(HW5.out.2.alloc h1 _).grown hleft.grown (by simp; omega) (fun k hk => by cases hk; exact h1), (HW5.out.1.alloc h2 _).grown hleft.grown (by simp; omega) (fun k hk => by cases hk; exact h2)⟩
      clear hleft
      cases hdp : depB ⟨room, evs, pk⟩
      · have HS : Hid (rightG ⟨room, evs, pk⟩ = false) := by unfold Hid; rw [HR3.out, hpl, hdp]; rfl
        go_wp2
        go_ret2
        exact .inl ⟨HS.out, rfl, HB6.out.2⟩
      · have HS : Hid (rightG ⟨room, evs, pk⟩ = true) := by unfold Hid; rw [HR3.out, hpl, hdp]; rfl
        go_wp2
        go_ret2
        have q1 := HG2.out.below.size
        have q2 := HST.out.below.size
        have q3 := HST.out.ne
        have q4 := HST.out.np
        have q5 := HW5.out.1.size
        have q6 := HL.out.2.1
        exact .inr ⟨HS.out, w5.heap.size, be, bp, bt, l, rfl, ⟨HL.out.1, (HRK.out w6 HB6.out.1).map, HPK.out w6 HB6.out.1, HL.out.2.2.1, HL.out.2.2.2, HB6.out.2, q5, by omega, by omega, by omega, HST.out.two⟩⟩
end Go.Proofs.YteajcmkaoahbeaaGreatDoor
