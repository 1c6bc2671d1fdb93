/- The program's standingsOf: the rows of states as maps, or none. The program's story of a right graph: its chart, and an outcome for each event, none reckoned yet. What stands, as a row: the program's. The program's Resolve. -/
import Derived.Test.YteajcmkaoahbeaaGreatDoorZRsIm
import Derived.Test.YteajcmkaoahbeaaGreatDoorZRsAg
import Derived.Test.YteajcmkaoahbeaaGreatDoorZGrChart
import Derived.Test.YteajcmkaoahbeaaGreatDoorZGrLoops
import Derived.Test.YteajcmkaoahbeaaGreatDoorZSuKeys
import Derived.Test.YteajcmkaoahbeaaGreatDoorZRsTu0
namespace Go.Proofs.YteajcmkaoahbeaaGreatDoor
open Go.RowKit

theorem Tryz.infoStanding : (Tryz.prog.info? 68).map (fun i => (i.zero, i.size, i.bytes)) = some (some (.map none), 1, 8) := by kernel_rfl
theorem standing_parts : ∃ i, Tryz.prog.info? 68 = some i ∧ i.zero = some (.map none) ∧ i.size = 1 ∧ i.bytes = 8 := by
  have h := Tryz.infoStanding
  cases hi : Tryz.prog.info? 68 with
  | none => rw [hi] at h; cases h
  | some i =>
    rw [hi] at h
    simp only [Option.map_some, Option.some.injEq, Prod.mk.injEq] at h
    exact ⟨i, rfl, h.1, h.2.1, h.2.2⟩
theorem row_belowM {w w' : World} {base size n : Nat} {e : TypeId} {v : Value} {xs : List Value} (h : w.ownsRow base e size v n xs) (hb : Below w.heap.size w w') : w'.ownsRow base e size v n xs := by
  refine ⟨h.1, ?_⟩
  rcases h.2 with h0 | ⟨g, cap, cur, rfl, hbg, hg, rest⟩
  · exact .inl h0
  · exact .inr ⟨g, cap, cur, rfl, hbg, (hb.block g (Array.getElem?_eq_some_iff.1 hg).1).trans hg, rest⟩
def mpv (ms : List (Nat × Slots)) : List Value := ms.map fun m => .map (some m.1)
theorem mpv_len (ms : List (Nat × Slots)) : (mpv ms).length = ms.length := by simp [mpv]
/-- What is there when q states have been read. -/
structure NI (w : World) (g : Gr) (ls : List Sl) (gg cap q : Nat) (ms : List (Nat × Slots)) (W : World) : Prop where
  row : W.ownsRow w.heap.size 68 1 (.slice (some ⟨gg, 0, none⟩) q cap) q (mpv ms)
  each : ∀ m ∈ ms, m.1 ≠ gg ∧ ∃ n, n ≤ 10000 ∧ SMap W m.1 n m.2
  len : ms.length = q
  rows : ∀ i (h : i < ms.length) (h2 : i < ls.length), RowIs ms[i].2 ls[i].xs
  ok : ∀ i (h2 : i < ls.length), i < q → stateB g ls[i].xs = true
  below : Below w.heap.size w W
  lt : gg < W.heap.size
variable {w : World} {g : Gr} {ls : List Sl} {gg cap q : Nat} {ms : List (Nat × Slots)} {W W' : World}
theorem NI.on (h : NI w g ls gg cap q ms W) (hW : Below W.heap.size W W') : NI w g ls gg cap q ms W' :=
  ⟨row_belowM h.row hW, fun m hm => ⟨(h.each m hm).1, (h.each m hm).2.elim fun n e => ⟨n, e.1, e.2.kept hW⟩⟩, h.len, h.rows, h.ok, h.below.trans (hW.mono h.below.size), Nat.lt_of_lt_of_le h.lt hW.size⟩
theorem SMap.keptG {b n : Nat} {f : Slots} {r : Option Nat} (h : SMap W b n f) (hg : W.grownBy W' r) (hne : some b ≠ r) : SMap W' b n f := h.elim fun D h => ⟨D, h.1.kept hg hne, h.2⟩
theorem NI.start (hown : W.ownsRow w.heap.size 68 1 (.slice (some ⟨gg, 0, none⟩) 0 cap) 0 []) (hb : Below w.heap.size w W) : NI w g ls gg cap 0 [] W := by
  refine ⟨hown, fun m hm => (by cases hm), rfl, fun i h => (by simp at h), fun i _ h => (by omega), hb, ?_⟩
  rcases hown.2 with ⟨h, _⟩ | ⟨q, c, cur, h1, h2, h3, _⟩
  · cases h
  · cases h1
    exact (Array.getElem?_eq_some_iff.1 h3).1
theorem NI.next (h : NI w g ls gg cap q ms W) {b n : Nat} {f : Slots} (hm : SMap W b n f) (hn : n ≤ 10000) (hne : b ≠ gg) (hq : q < ls.length) (hf : RowIs f ls[q].xs) (hok : stateB g ls[q].xs = true)
    (hown : W'.ownsRow w.heap.size 68 1 (.slice (some ⟨gg, 0, none⟩) (q + 1) cap) (q + 1) (mpv ms ++ [.map (some b)])) (hg : W.grownBy W' (some gg)) : NI w g ls gg cap (q + 1) (ms ++ [(b, f)]) W' := by
  have hlen := h.len
  refine ⟨?_, fun m hmm => ?_, by simp [h.len], fun i hi h2 => ?_, fun i h2 hi => ?_, ?_, Nat.lt_of_lt_of_le h.lt hg.size⟩
  · have e : mpv (ms ++ [(b, f)]) = mpv ms ++ [.map (some b)] := by simp [mpv]
    rw [e]
    exact hown
  · rcases List.mem_append.1 hmm with hm' | hm'
    · obtain ⟨h1, k, hk, hs⟩ := h.each m hm'
      exact ⟨h1, k, hk, hs.keptG hg (by simpa using h1)⟩
    · simp only [List.mem_singleton] at hm'
      subst hm'
      exact ⟨hne, n, hn, hm.keptG hg (by simpa using hne)⟩
  · by_cases c : i < ms.length
    · rw [List.getElem_append_left c]
      exact h.rows i c h2
    · have e : i = q := by simp only [List.length_append, List.length_singleton] at hi; omega
      subst e
      rw [List.getElem_append_right (by omega)]
      simp only [hlen, Nat.sub_self, List.getElem_cons_zero]
      exact hf
  · by_cases c : i < q
    · exact h.ok i h2 c
    · have e : i = q := by omega
      subst e
      exact hok
  · have hgg : w.heap.size ≤ gg := by
      rcases h.row.2 with ⟨h1, _⟩ | ⟨g2, c, cur, h1, h2, h3, _⟩
      · cases h1
      · cases h1
        exact h2
    exact h.below.grown hg h.below.size (fun k e => by cases e; exact hgg)
theorem NI.end_ (h : NI w g ls gg cap ls.length ms W) (hl : ls.length ≤ 1000) : MsAt W (some ⟨gg, 0, none⟩) ms ∧ MsRow ms (rowsOf ls) ∧ ms.length = ls.length ∧ ∀ s ∈ rowsOf ls, stateB g s = true := by
  have hlen := h.len
  refine ⟨⟨by omega, fun hp => ⟨gg, 0, rfl, h.lt, fun i hi => ?_⟩, fun m hm => (h.each m hm).2⟩, ⟨by simp [rowsOf, hlen], fun i h1 h2 => ?_⟩, hlen, fun s hs => ?_⟩
  · rcases h.row.2 with ⟨h1, _⟩ | ⟨g2, c, cur, h1, h2, h3, h4, h5, h6, h7⟩
    · cases h1
    · cases h1
      have e : cur.toList[i]? = some (.map (some ms[i].1)) := by
        have e2 : (cur.toList.take (ls.length * 1))[i]? = some (.map (some ms[i].1)) := by
          rw [h7]
          simp [mpv, hi]
        rw [List.getElem?_take_of_lt (by omega)] at e2
        exact e2
      have e3 : cur[i]? = some (.map (some ms[i].1)) := by simpa using e
      show W.cell? ⟨gg, 0 + i, none⟩ = _
      rw [Nat.zero_add, cell_of_heap h3]
      exact e3
  · have h3 : i < ls.length := by omega
    have := h.rows i h1 h3
    simpa [rowsOf] using this
  · obtain ⟨x, hx, rfl⟩ := List.mem_map.1 hs
    obtain ⟨i, hi, rfl⟩ := List.getElem_of_mem hx
    exact h.ok i hi hi
/-- What standingsOf answers. -/
def StnPost (w : World) (g : Gr) (ls : List Sl) (e : Ending) (w' : World) : Prop := ((∃ s ∈ rowsOf ls, stateB g s = false) ∧ e = .returned (.tuple #[.slice none 0 0, .bool false]) ∧ Below w.heap.size w w') ∨ ((∀ s ∈ rowsOf ls, stateB g s = true) ∧ ∃ gg c ms, e = .returned (.tuple #[.slice (some ⟨gg, 0, none⟩) ms.length c, .bool true]) ∧ MsAt w' (some ⟨gg, 0, none⟩) ms ∧ MsRow ms (rowsOf ls) ∧ Below w.heap.size w w')
set_option maxHeartbeats 4000000 in
set_option maxRecDepth 100000 in
theorem standings_impl (g : Gr) (hr : rightG g = true) (by_ bc be bp bt bo : Nat) (tl : List (Int × Int)) (ls : List Sl) (a : Option Addr) (cp : Nat) (w : World) (hst : StoAt w g by_ bc be bp bt bo tl) (h : SlsAt w a ls) (hl : ls.length ≤ 60) :
    Calls Tryz.prog 44 #[.pointer (some ⟨by_, 0, none⟩), .slice a ls.length cp] w (StnPost w g ls) := by
  obtain ⟨i0, hi, hz0, hz1, hz2⟩ := standing_parts
  have HST : Hid (StoAt w g by_ bc be bp bt bo tl) := hst
  have HL : Hid (SlsAt w a ls) := h
  have HR : Hid (rightG g = true) := hr
  clear hst h hr
  go_enter Tryz.func44, Tryz.ntmps44
  go_wp2_with (at_make; refine wpList_make_own _ rfl _ _ 64 rfl w.heap.size 68 i0 _ 1 Tryz.underlying64 hi hz0 hz1 .i64 .i64 _ ls.length rfl rfl rfl (by rw [hz2]; omega) (by unfold maxLen; omega) (Nat.le_refl _) ?_; intro w1 hown1 hg1; have HO1 : Hid (w1.ownsRow w.heap.size 68 1 (.slice (some ⟨w.heap.size, 0, none⟩) 0 ls.length) 0 []) := hown1; have HG1 : Hid (w.grownBy w1 none) := hg1; clear hown1 hg1)
  have H0 : Hid (NI w g ls w.heap.size ls.length 0 [] w1) := NI.start HO1.out ((Below.refl _ _).grown HG1.out (Nat.le_refl _) (fun k h => by cases h))
  obtain ⟨gg, HGG⟩ : ∃ gg, Hid (gg = w.heap.size) := ⟨w.heap.size, (rfl : w.heap.size = _)⟩
  clear HO1 HG1
  rw [← HGG.out]
  have H1 : Hid (NI w g ls gg ls.length 0 [] w1) := by
    have := H0.out
    rw [← HGG.out] at this
    exact this
  clear H0 HGG
  go_loopw [6, 8, 9, 10, 16] (fun v _ _ _ i wr => ∃ (q : Nat) (ms : List (Nat × Slots)), q ≤ ls.length ∧ i = .int .i64 q ∧ v = .slice (some ⟨gg, 0, none⟩) q ls.length ∧ Hid (NI w g ls gg ls.length q ms wr)) (fun _ _ _ _ i _ => ls.length - (intOf i).toNat)
  case atStart => exact ⟨0, [], Nat.zero_le _, rfl, rfl, H1⟩
  case round =>
    clear H1
    obtain ⟨q, ms, hq, rfl, rfl, HI⟩ := hrel
    by_cases hlt : q < ls.length
    · obtain ⟨b, off, rfl, hbb, hcell⟩ := HL.out.row (by omega)
      have hck := (HI.out.below.cell (p := ⟨b, off + q, none⟩) hbb).trans (hcell q hlt)
      have HP := standing_impl ls[q].xs ls[q].a ls[q].c wr ((HL.out.each _ (List.getElem_mem hlt)).kept HI.out.below)
      obtain ⟨S, HS⟩ : ∃ S, Hid (S = ls[q]) := ⟨ls[q], (rfl : ls[q] = _)⟩
      rw [← HS.out] at hck HP
      clear hcell
      go_wp2_with fail
      refine HP.mono ?_
      clear HP hck
      rintro e w2 (⟨hrow, rfl, hb2⟩ | ⟨hrow, bm, rfl, hbm, hom, hb2⟩)
      · have HN : Hid (∃ s ∈ rowsOf ls, stateB g s = false) := ⟨ls[q].xs, List.mem_map.2 ⟨_, List.getElem_mem hlt, rfl⟩, by rw [← HS.out]; unfold stateB; rw [hrow]; rfl⟩
        have HB : Hid (Below w.heap.size w w2) := HI.out.below.trans (hb2.mono HI.out.below.size)
        clear hrow hb2 HI HS
        go_wp2
        go_ret2
        exact .inl ⟨HN.out, rfl, HB.out⟩
      · have HROW : Hid (rowE false S.xs = true) := hrow
        have HRI : Hid (RowIs (lookS S.xs.reverse) S.xs) := rowIs_of (rowE_in hrow).2.1
        have HM : Hid (SMap w2 bm S.xs.length (lookS S.xs.reverse)) := ⟨_, hom, mapIs_putS fun x hx' => ((rowE_in hrow).2.2 x (by simpa using hx')).1⟩
        have HLN : Hid (S.xs.length ≤ 400) := (rowE_in hrow).1
        have HNE : Hid (bm ≠ gg) := by
          have := HI.out.lt
          unfold Hid
          omega
        have HI2 : Hid (NI w g ls gg ls.length q ms w2) := HI.out.on hb2
        clear hrow hom hb2 hbm HI
        have HSC := sceneIn_impl g by_ bc be bp bt bo bm tl w2 (HST.out.kept HI2.out.below)
        go_wp2_with fail
        refine HSC.mono ?_
        clear HSC
        rintro e w3 ⟨rfl, hb3⟩
        have HM3 : Hid (SMap w3 bm S.xs.length (lookS S.xs.reverse)) := HM.out.kept hb3
        have HI3 : Hid (NI w g ls gg ls.length q ms w3) := HI2.out.on hb3
        clear HM HI2 hb3
        have HFT := fits_impl g S.xs be bm w3 (ScAt.of_row (HST.out.kept HI3.out.below).evs HM3.out HRI.out (rowE_in HROW.out).2.1) HR.out HROW.out
        go_wp2_with fail
        refine HFT.mono ?_
        clear HFT
        rintro e w4 ⟨rfl, hb4⟩
        have HM4 : Hid (SMap w4 bm S.xs.length (lookS S.xs.reverse)) := HM3.out.kept hb4
        have HI4 : Hid (NI w g ls gg ls.length q ms w4) := HI3.out.on hb4
        clear HM3 HI3 hb4
        cases hfit : fitsB g.evs S.xs
        · have HN : Hid (∃ s ∈ rowsOf ls, stateB g s = false) := ⟨ls[q].xs, List.mem_map.2 ⟨_, List.getElem_mem hlt, rfl⟩, by rw [← HS.out]; unfold stateB; rw [hfit, Bool.and_false]⟩
          clear HS HM4
          go_wp2
          go_ret2
          exact .inl ⟨HN.out, rfl, HI4.out.below⟩
        · have HOK : Hid (stateB g ls[q].xs = true) := by
            unfold Hid stateB
            rw [← HS.out, HROW.out, hfit]
            rfl
          clear hfit
          go_wp2_with (at_builtin; refine wpList_append_fits _ rfl _ _ 64 rfl w.heap.size 68 i0 1 Tryz.underlying64 hi hz1 gg q ls.length (mpv ms) rfl (HI4.out.on ((Below.refl _ _).alloc (Nat.le_refl _) _)).row _ 1 1 [.map (some bm)] rfl rfl (fun j u hj => ?_) (fun u hu => ?_) (by omega) ?_)
          · cases j with
            | zero =>
              cases hj
              rw [Addr.add_lit]
              exact (cell_of_heap (new_blockC _ _ _ rfl)).trans rfl
            | succ j => simp at hj
          · simp only [List.mem_singleton] at hu
            subst hu
            rfl
          · intro w5 hown5 hg5
            have HI5 : Hid (NI w g ls gg ls.length (q + 1) (ms ++ [((bm, lookS S.xs.reverse) : Nat × Slots)]) w5) := (HI4.out.on ((Below.refl _ _).alloc (Nat.le_refl _) _)).next (HM4.out.kept ((Below.refl _ _).alloc (Nat.le_refl _) _)) (by have := HLN.out; omega) HNE.out hlt (by rw [← HS.out]; exact HRI.out) HOK.out hown5 hg5
            clear hown5 hg5 HI4 HM4 HS
            go_wp2
            go_roundw
            case rel => exact ⟨q + 1, _, by omega, by go_num, rfl, HI5⟩
            case measure => simp [intOf]; omega
    · have e : q = ls.length := by omega
      subst e
      have HEND : Hid (MsAt wr (some ⟨gg, 0, none⟩) ms ∧ MsRow ms (rowsOf ls) ∧ ms.length = ls.length ∧ ∀ s ∈ rowsOf ls, stateB g s = true) := HI.out.end_ (by omega)
      have HB : Hid (Below w.heap.size w wr) := HI.out.below
      clear HI
      go_wp2
      go_ret2
      refine .inr ⟨HEND.out.2.2.2, gg, ls.length, ms, ?_, HEND.out.1, HEND.out.2.1, HB.out⟩
      rw [HEND.out.2.2.1]
      rfl
end Go.Proofs.YteajcmkaoahbeaaGreatDoor
namespace Go.Proofs.YteajcmkaoahbeaaGreatDoor
open Go.RowKit

/-- A map of Ids to pointers. -/
def putO : List (Int × Nat) → DataW Value
  | [] => .map []
  | (k, b) :: l => (putO l).put (.int .i64 k) (.held (.pointer (some ⟨b, 0, none⟩)))
abbrev out0 : Obj := .cells #[.int .u32 0, .int .i32 0, .int .u32 0, .map none, .map none, .nilIface] 100
/-- The outcomes, as long as only some have been laid. -/
structure OI (w : World) (es : List Em) (bo : Nat) (left : Lit → Bool) (ol : List (Int × Nat)) (W : World) : Prop where
  map : W.ownsMap Tryz.prog 2 heldR bo ol.length (putO ol)
  keys : ∀ id, id ∈ ol.map (·.1) ↔ id ∈ idsOf es ∧ left (.int .i64 id) = false
  nd : (ol.map (·.1)).Nodup
  ndb : (ol.map (·.2)).Nodup
  blk : ∀ p ∈ ol, bo + 2 < p.2 ∧ W.heap[p.2]? = some out0
  below : Below w.heap.size w W
  bo_ : w.heap.size = bo
theorem OI.len {w W : World} {es : List Em} {bo : Nat} {left : Lit → Bool} {ol : List (Int × Nat)} (h : OI w es bo left ol W) : ol.length ≤ es.length := by
  have := nodup_le (ol.map (·.1)) (idsOf es) h.nd fun x hx => ((h.keys x).1 hx).1
  simpa [idsOf] using this
theorem OI.step {w W W' : World} {es : List Em} {bo : Nat} {left : Lit → Bool} {ol : List (Int × Nat)} (h : OI w es bo left ol W) (hg : W.grownBy W' (some (bo + 2))) : OI w es bo left ol W' := by
  have hb := h.bo_
  refine ⟨h.map.kept hg (by simp), h.keys, h.nd, h.ndb, fun p hp => ?_, h.below.grown hg h.below.size (fun k e => by cases e; omega), hb⟩
  have := h.blk p hp
  refine ⟨this.1, (hg.block _ (Array.getElem?_eq_some_iff.1 this.2).1 ?_).trans this.2⟩
  intro e
  simp only [Option.some.injEq] at e
  omega
theorem OI.next {w W W' : World} {es : List Em} {bo : Nat} {left : Lit → Bool} {ol : List (Int × Nat)} (h : OI w es bo left ol W) (hs : bo + 2 < W.heap.size) {m : Em} (hm : m ∈ es) (hl : left (.int .i64 m.v.id) = true)
    (hown : W'.ownsMap Tryz.prog 2 heldR bo (ol.length + 1) ((putO ol).put (.int .i64 m.v.id) (.held (.pointer (some ⟨W.heap.size, 0, none⟩))))) (hg : (W.alloc out0).grownBy W' (some bo)) :
    OI w es bo (fun z => left z && !z.sameKey (.int .i64 m.v.id)) ((m.v.id, W.heap.size) :: ol) W' := by
  have hbo := h.bo_
  have hnk : m.v.id ∉ ol.map (·.1) := fun h2 => by
    have := ((h.keys _).1 h2).2
    rw [hl] at this
    cases this
  have hblt : ∀ p ∈ ol, p.2 < W.heap.size := fun p hp => (Array.getElem?_eq_some_iff.1 (h.blk p hp).2).1
  refine ⟨hown, fun id => ?_, ?_, ?_, fun p hp => ?_, ?_, hbo⟩
  · simp only [List.map_cons, List.mem_cons]
    rw [h.keys]
    constructor
    · rintro (rfl | ⟨h1, h2⟩)
      · refine ⟨List.mem_map.2 ⟨m, hm, rfl⟩, ?_⟩
        have self : (Lit.int .i64 m.v.id).sameKey (.int .i64 m.v.id) = true := WideAt.sameKey_self (by trivial)
        rw [self]
        simp
      · exact ⟨h1, by rw [h2]; rfl⟩
    · rintro ⟨h1, h2⟩
      rcases left_strike h2 with h3 | h3
      · exact .inl h3
      · exact .inr ⟨h1, h3⟩
  · exact List.nodup_cons.2 ⟨hnk, h.nd⟩
  · refine List.nodup_cons.2 ⟨fun h2 => ?_, h.ndb⟩
    obtain ⟨p, hp, e⟩ := List.mem_map.1 h2
    have := hblt p hp
    have e' : p.2 = W.heap.size := e
    omega
  · rcases List.mem_cons.1 hp with rfl | hp
    · refine ⟨hs, ?_⟩
      have := (MapKept.heap_alloc W out0).1
      exact (hg.block W.heap.size (by simp) (by simp; omega)).trans this
    · have := h.blk p hp
      have hlt := hblt p hp
      exact ⟨this.1, (hg.block p.2 (by simp; omega) (by simp; omega)).trans ((Below.heap_alloc _ _ _ hlt).trans this.2)⟩
  · exact (h.below.alloc h.below.size _).grown hg (by have := h.below.size; simp; omega) (fun k e => by cases e; omega)
theorem StoAt.grown {W W' : World} {g : Gr} {by_ bc be bp bt bo : Nat} {tl : List (Int × Int)} {row : Option Nat} (h : StoAt W g by_ bc be bp bt bo tl) (hg : W.grownBy W' row) (n1 : some by_ ≠ row) (n2 : some bc ≠ row) (n3 : some be ≠ row) (n4 : some bt ≠ row) : StoAt W' g by_ bc be bp bt bo tl :=
  ⟨(hg.block _ (Array.getElem?_eq_some_iff.1 h.sy).1 n1).trans h.sy, (hg.block _ (Array.getElem?_eq_some_iff.1 h.ch).1 n2).trans h.ch, h.evs.kept hg n3, h.tab.kept hg n4⟩
/-- What a story is: the chart's, and the outcomes of all events. -/
structure NewSto (w : World) (g : Gr) (by_ bc be bp bt bo : Nat) (tl : List (Int × Int)) (ol : List (Int × Nat)) (W : World) : Prop where
  sto : StoAt W g by_ bc be bp bt bo tl
  outs : OI w g.evs bo (fun _ => false) ol W
set_option maxHeartbeats 4000000 in
set_option maxRecDepth 100000 in
theorem newStory_impl (g : Gr) (hg : g.evs.length ≤ 60) (hids : ∀ m ∈ g.evs, -9223372036854775808 ≤ m.v.id ∧ m.v.id ≤ 9223372036854775807) (bc be bp bt : Nat) (tl : List (Int × Int)) (w : World) (hch : ChAt w bc be bp 1 0 (.map (some bt))) (hev : w.ownsMap Tryz.prog 2 heldR be g.evs.length (putAll g.evs)) (htab : w.ownsMap Tryz.prog 2 heldR bt tl.length (putL tl)) :
    Calls Tryz.prog 73 #[.pointer (some ⟨bc, 0, none⟩)] w fun e w' => ∃ by_ bo ol, e = .returned (.pointer (some ⟨by_, 0, none⟩)) ∧ NewSto w g by_ bc be bp bt bo tl ol w' := by
  have hc0 : w.cell? ⟨bc, 0, none⟩ = some (.map (some be)) := cell_of_heap hch
  have hmm := @run_makeMap_some Tryz.prog 154 _ _ Tryz.underlying154
  have hz : bc < w.heap.size := (Array.getElem?_eq_some_iff.1 hch).1
  have HCH : Hid (ChAt w bc be bp 1 0 (.map (some bt)) ∧ w.ownsMap Tryz.prog 2 heldR be g.evs.length (putAll g.evs) ∧ w.ownsMap Tryz.prog 2 heldR bt tl.length (putL tl)) := ⟨hch, hev, htab⟩
  have hzbe := hev.lt
  have n1 : ¬ bc = w.heap.size := by omega
  have n2 : ¬ bc = w.heap.size + 1 := by omega
  clear hch hev htab
  go_enter Tryz.func73, Tryz.ntmps73
  go_wp2_with (first
    | (at_len; refine wpList_len_own _ rfl _ 130 rfl 2 114 Tryz.underlying130 heldR be g.evs.length (putAll g.evs) rfl HCH.out.2.1 ?_)
    | (at_range; refine wpList_range_own _ rfl _ 130 rfl 2 114 (Maps.int_keyed (P := Tryz.prog) Tryz.underlying2) Tryz.underlying130 heldR be g.evs.length (putAll g.evs) rfl ((HCH.out.2.1.alloc _).alloc _) ?_; intro w5 hrg5 hg5 hs5))
  go_frame
  have hs5' : w5.heap.size = w.heap.size + 3 := by rw [hs5]; simp
  have H0 : Hid (OI w g.evs w.heap.size (Maps.has (putAll g.evs)) [] w5) := by
    refine ⟨?_, fun id => ?_, List.nodup_nil, List.nodup_nil, fun p h => (by cases h), ?_, rfl⟩
    · exact ((World.ownsMap_made (H := Value) w Tryz.prog 2 heldR).alloc _).kept hg5 (by simp)
    · rw [has_putAll]
      simp
    · exact (((Below.refl _ _).alloc (Nat.le_refl _) _).alloc (by simp) _).grown hg5 (by simp; omega) (fun k h => by cases h)
  have HS0 : Hid (StoAt w5 g (w.heap.size + 1) bc be bp bt w.heap.size tl) := by
    refine ⟨?_, ?_, ?_, ?_⟩
    · have := (MapKept.heap_alloc (w.alloc (.map #[] 0)) (.cells #[.pointer (some ⟨bc, 0, none⟩), .map (some w.heap.size)] 156)).1
      exact (hg5.block (w.heap.size + 1) (by simp) (by simp)).trans (by simpa using this)
    · exact (hg5.block bc (by simp; omega) (by simp)).trans ((Below.heap_alloc _ _ _ (by simp; omega)).trans ((Below.heap_alloc _ _ _ hz).trans HCH.out.1))
    · exact ((HCH.out.2.1.alloc _).alloc _).kept hg5 (by simp)
    · exact ((HCH.out.2.2.alloc _).alloc _).kept hg5 (by simp)
  obtain ⟨r, HR⟩ : ∃ r, Hid (r = w.heap.size + 2) := ⟨_, (rfl : w.heap.size + 2 = _)⟩
  have hrr : ((w.alloc (.map #[] 0)).alloc (.cells #[.pointer (some ⟨bc, 0, none⟩), .map (some w.heap.size)] 156)).heap.size = r := by rw [HR.out]; simp
  rw [hrr] at hrg5 ⊢
  have hzbt := HCH.out.2.2.lt
  have HS1 : Hid (OI w g.evs w.heap.size (Maps.has (putAll g.evs)) [] w5 ∧ StoAt w5 g (w.heap.size + 1) bc be bp bt w.heap.size tl ∧ w.heap.size + 3 ≤ w5.heap.size) := ⟨H0.out, HS0.out, by omega⟩
  clear H0 HS0 hg5 hs5 hs5' HCH hrr
  go_loopw [4] (fun _ wr => ∃ (left : Lit → Bool) (cnt : Nat) (ol : List (Int × Nat)), wr.ranges Tryz.prog 2 heldR be r g.evs.length (putAll g.evs) left cnt ∧ Hid (OI w g.evs w.heap.size left ol wr ∧ StoAt wr g (w.heap.size + 1) bc be bp bt w.heap.size tl ∧ w.heap.size + 3 ≤ wr.heap.size)) (fun _ wr => wr.rangeLeft be r)
  case atStart => exact ⟨_, _, _, hrg5, HS1⟩
  case round =>
    clear HS1 hrg5
    obtain ⟨left, cnt, ol, hrg, HI⟩ := hrel
    go_wp2_with (at_next; refine wpList_next_ev rfl _ rfl be r g.evs.length g.evs _ _ rfl hrg ?_ ?_)
    · intro hc0' hl0
      have HF : Hid (OI w g.evs w.heap.size (fun _ => false) ol wr) := by
        have e : left = fun _ => false := funext hl0
        rw [← e]
        exact HI.out.1
      clear hc0' hl0 hrg
      go_wp2
      go_ret
      exact ⟨_, _, ol, rfl, HI.out.2.1, HF.out⟩
    · intro m w1 cnt1 hm hlk hrg1 hlt hg1 hs1 hen
      have hr2 := HR.out
      have HO1 : Hid (OI w g.evs w.heap.size left ol w1) := HI.out.1.step (by rw [← hr2]; exact hg1)
      have HST1 : Hid (StoAt w1 g (w.heap.size + 1) bc be bp bt w.heap.size tl) := HI.out.2.1.grown hg1 (by simp; omega) (by simp; omega) (by simp; omega) (by simp; omega)
      have HZ1 : Hid (w.heap.size + 3 ≤ w1.heap.size) := by have := HI.out.2.2; unfold Hid; omega
      have HRG : Hid (w1.ranges Tryz.prog 2 heldR be r g.evs.length (putAll g.evs) (fun z => left z && !z.sameKey (.int .i64 m.v.id)) cnt1) := hrg1
      have HLE : Hid (wr.rangeLeft be r = cnt ∧ cnt1 < cnt) := ⟨hrg.left_eq, hlt⟩
      have HMM : Hid (m ∈ g.evs ∧ left (.int .i64 m.v.id) = true) := ⟨hm, hlk⟩
      have hll : ol.length < maxLen := by have := HO1.out.len; unfold maxLen; omega
      have hcy : w1.cell? ⟨w.heap.size + 1, 1, none⟩ = some (.map (some w.heap.size)) := cell_of_heap HST1.out.sy
      have HK : Hid (keyOf Tryz.prog 2 (.int .i64 m.v.id) = some (.int .i64 m.v.id)) := Maps.keyOf_int_mk Tryz.underlying2 (WalkArith.wf_i64 (hids m hm))
      unfold emVal emCells at hen ⊢
      clear hrg hrg1 hg1 hs1 hm hlk hlt hr2
      go_wp2_with (at_mapUpdate; refine wpList_mapUpdate_own _ rfl _ _ _ 154 rfl 2 82 (Maps.int_keyed (P := Tryz.prog) Tryz.underlying2) Tryz.underlying154 heldR w.heap.size ol.length (putO ol) rfl (HO1.out.map.alloc _) hll _ _ _ rfl rfl HK.out (.held (.pointer (some ⟨w1.heap.size, 0, none⟩))) [] rfl ?_; intro w4 ho4 hg4; have HO4 : Hid (OI w g.evs w.heap.size (fun z => left z && !z.sameKey (.int .i64 m.v.id)) ((m.v.id, w1.heap.size) :: ol) w4) := HO1.out.next (by have := HZ1.out; omega) HMM.out.1 HMM.out.2 ho4 hg4; have HS4 : Hid (StoAt w4 g (w.heap.size + 1) bc be bp bt w.heap.size tl ∧ w.heap.size + 3 ≤ w4.heap.size) := ⟨(HST1.out.kept ((Below.refl _ _).alloc (Nat.le_refl _) _)).grown hg4 (by simp) (by simp; omega) (by simp; omega) (by simp; omega), by have h1 := hg4.size; have h2 := HZ1.out; simp at h1; omega⟩; have HR4 : Hid (w4.ranges Tryz.prog 2 heldR be r g.evs.length (putAll g.evs) (fun z => left z && !z.sameKey (.int .i64 m.v.id)) cnt1) := (HRG.out.alloc _).kept hg4 (by simp; omega) (by have := HR.out; simp; omega); clear ho4 hg4; go_frame)
      go_roundw
      case rel => exact ⟨_, _, _, HR4.out, HO4.out, HS4.out.1, HS4.out.2⟩
      case measure => rw [HR4.out.left_eq, HLE.out.1]; exact HLE.out.2
end Go.Proofs.YteajcmkaoahbeaaGreatDoor
namespace Go.Proofs.YteajcmkaoahbeaaGreatDoor
open Go.RowKit

/-- The entries of some kinds and keys. -/
def entsOf (f : Slots) (ks : List (Int × Int)) : List En := ks.map fun p => ⟨p.1, p.2, (f p.1 p.2).getD 0⟩
theorem entsOf_take {f : Slots} {ks : List (Int × Int)} {k : Nat} (hk : k < ks.length) : entsOf f (ks.take (k + 1)) = entsOf f (ks.take k) ++ [⟨ks[k].1, ks[k].2, (f ks[k].1 ks[k].2).getD 0⟩] := by
  rw [List.take_succ_eq_append_getElem hk]
  simp only [entsOf, List.map_append, List.map_cons, List.map_nil]
theorem rowIs_ents {f : Slots} {ks : List (Int × Int)} (ho : Ordered ks) (hm : ∀ k y, (k, y) ∈ ks ↔ (f k y).isSome = true) : RowIs f (entsOf f ks) := by
  refine ⟨?_, fun e => ?_⟩
  · unfold Rises entsOf
    rw [List.pairwise_map]
    exact ho.imp fun h => lessB_iff.2 (lessP_iff.1 h)
  · unfold entsOf
    rw [List.mem_map]
    constructor
    · rintro ⟨⟨k, y⟩, hp, rfl⟩
      obtain ⟨v, hv⟩ := Option.isSome_iff_exists.1 ((hm k y).1 hp)
      simp [hv]
    · intro h
      refine ⟨(e.kind, e.key), (hm _ _).2 (by rw [h]; rfl), ?_⟩
      cases e
      simp_all
theorem SMap.keptw {w w' : World} {b n m : Nat} {f : Slots} (h : SMap w b n f) (hb : Below m w w') (hm : b < m) : SMap w' b n f := h.elim fun D h => ⟨D, by
  obtain ⟨es, clock, h1, r⟩ := h.1
  exact ⟨es, clock, (hb.block b hm).trans h1, r⟩, h.2⟩
def RowPost (w : World) (f : Slots) (n : Nat) (e : Ending) (w' : World) : Prop := ∃ v xs, e = .returned v ∧ RowIs f xs ∧ EnsOwn w' w.heap.size v xs ∧ xs.length ≤ n ∧ Below w.heap.size w w'
set_option maxHeartbeats 4000000 in
set_option maxRecDepth 100000 in
theorem row_of_impl (f : Slots) (b n : Nat) (w : World) (h : SMap w b n f) (hn : n ≤ 100000) :
    Calls Tryz.prog 46 #[.map (some b)] w (RowPost w f n) := by
  obtain ⟨i0, hi, hz0, hz1, hz2⟩ := info_parts Tryz.infoEn
  have HK := keys_impl f b n w h hn
  have hbl := h.lt
  have H : Hid (SMap w b n f) := h
  clear h
  go_enter Tryz.func46, Tryz.ntmps46
  go_wp2_with fail
  refine HK.mono ?_
  rintro e w1 ⟨g, c, ks, rfl, hlen, hg1, hsl, hord, hmem, hb1⟩
  have HSL : Hid (SlotsIn w1 g ks) := hsl
  have HOM : Hid (Ordered ks ∧ ∀ k y, (k, y) ∈ ks ↔ (f k y).isSome = true) := ⟨hord, hmem⟩
  have HB1 : Hid (Below w.heap.size w w1) := hb1
  have hz : w.heap.size ≤ w1.heap.size := hb1.size
  have HSM : Hid (∀ W, Below w1.heap.size w1 W → SMap W b n f) := fun W hW => (H.out.keptw hb1 hbl).kept hW
  have HDM : Hid (∀ k y v, f k y = some v → (Lit.int .i64 k).wf = true ∧ (Lit.int .i64 y).wf = true) := H.out.elim fun D hD => hD.2.dom
  clear hsl hord hmem hb1 HK
  go_wp2
  go_loopw [3, 5, 9] (fun v _ i wr => ∃ (k : Nat) (V : Value), k ≤ ks.length ∧ i = .int .i64 k ∧ V = v ∧ Hid (EnsOwn wr w1.heap.size V (entsOf f (ks.take k)) ∧ Below w1.heap.size w1 wr)) (fun _ _ i _ => ks.length - (intOf i).toNat)
  case atStart => exact ⟨0, _, Nat.zero_le _, rfl, rfl, EnsOwn.nil _ _, Below.refl _ _⟩
  case round =>
    obtain ⟨k, V, hk, rfl, rfl, HI⟩ := hrel
    by_cases hlt : k < ks.length
    · obtain ⟨kk, HKK⟩ : ∃ kk, Hid (kk = ks[k].1) := ⟨ks[k].1, (rfl : ks[k].1 = _)⟩
      obtain ⟨yy, HYY⟩ : ∃ yy, Hid (yy = ks[k].2) := ⟨ks[k].2, (rfl : ks[k].2 = _)⟩
      obtain ⟨zz, HZ⟩ : ∃ zz, Hid (zz = (f kk yy).getD 0) := ⟨(f kk yy).getD 0, (rfl : (f kk yy).getD 0 = _)⟩
      have hc0 : wr.cell? ⟨g, k * 2, none⟩ = some (.int .i64 kk) := by
        rw [HI.out.2.cell (p := ⟨g, k * 2, none⟩) hg1, HKK.out]
        exact HSL.out k hlt 0 (by omega)
      have hc1 : wr.cell? ⟨g, k * 2 + 1, none⟩ = some (.int .i64 yy) := by
        rw [HI.out.2.cell (p := ⟨g, k * 2 + 1, none⟩) hg1, HYY.out]
        exact HSL.out k hlt 1 (by omega)
      have HTK : Hid (entsOf f (ks.take (k + 1)) = entsOf f (ks.take k) ++ [⟨kk, yy, zz⟩]) := by
        unfold Hid
        rw [entsOf_take hlt, HZ.out, HKK.out, HYY.out]
      have HWF : Hid ((Lit.int .i64 kk).wf = true ∧ (Lit.int .i64 yy).wf = true) := by
        have h1 : (kk, yy) ∈ ks := by rw [HKK.out, HYY.out]; exact List.getElem_mem hlt
        obtain ⟨v, hv⟩ := Option.isSome_iff_exists.1 ((HOM.out.2 kk yy).1 h1)
        exact HDM.out _ _ _ hv
      have hzr : w1.heap.size ≤ wr.heap.size := HI.out.2.size
      have HSA : Hid (∀ o, SMap (wr.alloc o).drew b n f) := fun o => HSM.out _ ((HI.out.2.alloc hzr o).drew)
      have HBA : Hid (∀ o1 o2, Below w1.heap.size w1 (((wr.alloc o1).drew).alloc o2)) := fun o1 o2 => ((HI.out.2.alloc hzr o1).drew).alloc (by simp; omega) o2
      have HOA : Hid (∀ o1 o2, EnsOwn (((wr.alloc o1).drew).alloc o2) w1.heap.size V (entsOf f (ks.take k))) := fun o1 o2 => (HI.out.1.kept ((Below.refl _ _).alloc (Nat.le_refl _) o1)).kept (((Below.refl _ (wr.alloc o1)).drew).alloc (Nat.le_refl _) o2)
      have HEL : Hid ((entsOf f (ks.take k)).length ≤ 100000) := by unfold Hid entsOf; simp; omega
      have HVB : Hid (some wr.heap.size ≠ V.ownBlock) := by
        intro e
        rcases HI.out.1.2 with ⟨h1, _⟩ | ⟨q, _, _, h1, _, h2, _⟩
        · rw [h1] at e
          cases e
        · rw [h1] at e
          have e2 : wr.heap.size = q := by simpa [Value.ownBlock] using e
          have := (Array.getElem?_eq_some_iff.1 h2).1
          omega
      go_wp2
      refine wp_region_held_drew (S := (fun W => W.heap[wr.heap.size]? = some (.cells #[.int .i64 kk, .int .i64 yy] 149 (0, 0)) ∧ SMap W b n f)) (by kernel_rfl) ⟨(MapKept.heap_alloc wr _).1, HSA.out _⟩ (fun hHeld => ?_)
      refine wpAnyH_take (i := 0) (v := V) rfl (by kernel_rfl) (by kernel_rfl) (by kernel_rfl) (fun _ _ _ h => h) (Or.inl ⟨by kernel_rfl, ?_⟩) hHeld ?_
      · intro W hW
        go_simp
      refine wpAnyH_take (i := 1) (v := (.pointer (some ⟨wr.heap.size, 0, none⟩))) rfl (by kernel_rfl) (by kernel_rfl) (by kernel_rfl) (fun _ _ _ h => h) (Or.inl ⟨by kernel_rfl, ?_⟩) hHeld ?_
      · intro W hW
        go_simp
      refine wpAnyH_take (i := 2) (v := (.int .i64 kk)) rfl (by kernel_rfl) (by kernel_rfl) (by kernel_rfl) (fun _ _ _ h => h) (Or.inl ⟨by kernel_rfl, ?_⟩) hHeld ?_
      · intro W hW
        have f0 : W.cell? ⟨wr.heap.size, 0, none⟩ = some (.int .i64 kk) := cell_of_heap hW.1
        go_simp
      refine wpAnyH_take (i := 3) (v := (.pointer (some ⟨wr.heap.size, 1, none⟩))) rfl (by kernel_rfl) (by kernel_rfl) (by kernel_rfl) (fun _ _ _ h => h) (Or.inl ⟨by kernel_rfl, ?_⟩) hHeld ?_
      · intro W hW
        go_simp
      refine wpAnyH_take (i := 4) (v := (.int .i64 yy)) rfl (by kernel_rfl) (by kernel_rfl) (by kernel_rfl) (fun _ _ _ h => h) (Or.inl ⟨by kernel_rfl, ?_⟩) hHeld ?_
      · intro W hW
        have f1 : W.cell? ⟨wr.heap.size, 1, none⟩ = some (.int .i64 yy) := cell_of_heap hW.1
        go_simp
      refine wpAnyH_take (i := 5) (v := (.map (some b))) rfl (by kernel_rfl) (by kernel_rfl) (by kernel_rfl) (fun _ _ _ h => h) (Or.inl ⟨by kernel_rfl, ?_⟩) hHeld ?_
      · intro W hW
        go_simp
      refine wpAnyH_take (i := 6) (v := (.agg #[.int .i64 kk, .int .i64 yy])) rfl (by kernel_rfl) (by kernel_rfl) (by kernel_rfl) (fun _ _ _ h => h) (Or.inl ⟨by kernel_rfl, ?_⟩) hHeld ?_
      · intro W hW
        have f0 : W.cell? ⟨wr.heap.size, 0, none⟩ = some (.int .i64 kk) := cell_of_heap hW.1
        have f1 : W.cell? ⟨wr.heap.size, 1, none⟩ = some (.int .i64 yy) := cell_of_heap hW.1
        go_simp
      refine wpAnyH_take (i := 7) (v := (.int .i64 zz)) rfl (by kernel_rfl) (by kernel_rfl) (by kernel_rfl) (fun _ _ _ h => h) (Or.inl ⟨by kernel_rfl, ?_⟩) hHeld ?_
      · intro W hW
        have hlk := hW.2.look HWF.out.1 HWF.out.2
        rw [← HZ.out] at hlk
        go_simp
      refine wpAnyH_take (i := 8) (v := (.agg #[.int .i64 kk, .int .i64 yy, .int .i64 zz])) rfl (by kernel_rfl) (by kernel_rfl) (by kernel_rfl) (fun _ _ _ h => h) (Or.inl ⟨by kernel_rfl, ?_⟩) hHeld ?_
      · intro W hW
        go_simp
      refine wpAnyH_ready (rs := [9]) (by kernel_rfl) (by simp) ?_
      refine AllReadyH.cons rfl (fun K hK => ?_) AllReadyH.nil
      go_simp
      refine hK.out _ _ ⟨(Below.heap_alloc _ _ _ (by simp)).trans hHeld.1, hHeld.2.kept ((Below.refl _ _).alloc (Nat.le_refl _) _)⟩ (fun hH1 => ?_)
      clear hK K
      have hnb : (((wr.alloc (.cells #[.int .i64 kk, .int .i64 yy] 149)).drew).alloc (.cells #[.int .i64 kk, .int .i64 yy, .int .i64 zz] 73)).heap[wr.heap.size + 1]? = some (.cells #[.int .i64 kk, .int .i64 yy, .int .i64 zz] 73 (0, 0)) := new_blockC _ _ _ (by simp)
      refine wpAnyH_ready (rs := [10]) (by kernel_rfl) (by simp) ?_
      refine AllReadyH.cons rfl (fun K hK => ?_) AllReadyH.nil
      refine wp_append_own _ (.tmp 13) (.tmp 22) 28 rfl w1.heap.size 73 i0 _ 3 24 Tryz.underlying28 hi hz0 hz1 hz2 rfl (by decide) V (entsOf f (ks.take k)).length (ecs (entsOf f (ks.take k))) rfl (HOA.out _ _) ⟨wr.heap.size + 1, 0, none⟩ 1 1 (enCells ⟨kk, yy, zz⟩) rfl rfl (cells_at (vs := enCells ⟨kk, yy, zz⟩) hnb) (fun u hu => by simp [enCells] at hu; rcases hu with rfl | rfl | rfl <;> rfl) (by have := HEL.out; unfold maxLen; omega) (by have := HEL.out; omega) (by simp; omega) (fun V2 w2 hO2 hg2 hn2 => ?_)
      have HN2 : Hid (EnsOwn w2 w1.heap.size V2 (entsOf f (ks.take (k + 1))) ∧ Below w1.heap.size w1 w2) := ⟨by rw [HTK.out]; unfold EnsOwn; rw [ecs_append, List.length_append, ecs_one_cons]; exact hO2, (HBA.out _ _).trans (EnsOwn.below (HOA.out _ _) hg2 (HBA.out _ _).size)⟩
      have hs2 : w2.heap[wr.heap.size]? = some (.cells #[.int .i64 kk, .int .i64 yy] 149 (0, 0)) ∧ SMap w2 b n f := ⟨(hg2.block _ (by simp; omega) HVB.out).trans hH1.1, HSM.out _ HN2.out.2⟩
      clear hO2 hg2 hn2
      refine hK.out _ _ hs2 (fun hH2 => ?_)
      clear hK K
      refine wpAnyH_take (i := 11) (v := V2) rfl (by kernel_rfl) (by kernel_rfl) (by kernel_rfl) (fun _ _ _ h => h) (Or.inl ⟨by kernel_rfl, ?_⟩) hH2 ?_
      · intro W hW
        go_simp
      refine wpAnyH_done (by kernel_rfl) ?_ _
      simp only [Act.put, List.setIfInBounds_toArray, List.set_cons_zero, List.set_cons_succ, List.getElem_toArray, List.getElem_cons_zero, List.getElem_cons_succ]
      go_wp2
      go_roundw
      case rel => exact ⟨k + 1, V2, by omega, by go_num, rfl, HN2.out.1, HN2.out.2⟩
      case measure => simp [intOf]; omega
    · have HE : Hid (EnsOwn wr w.heap.size V (entsOf f ks)) := by
        have e : k = ks.length := by omega
        have h1 := HI.out.1
        rw [e, List.take_length] at h1
        exact owns_baseC h1 hz
      go_wp2
      go_ret
      exact ⟨_, entsOf f ks, rfl, rowIs_ents HOM.out.1 HOM.out.2, HE.out, by unfold entsOf; simpa using hlen, HB1.out.trans (HI.out.2.mono hz)⟩
end Go.Proofs.YteajcmkaoahbeaaGreatDoor
namespace Go.Proofs.YteajcmkaoahbeaaGreatDoor
open Go.RowKit

theorem Chart.on {w W W' : World} {g : Gr} {bc be bp bt : Nat} {l : List (Int × Int)} (h : Chart w g bc be bp bt l W) (hb : Below W.heap.size W W') : Chart w g bc be bp bt l W' :=
  ⟨(hb.block _ (Array.getElem?_eq_some_iff.1 h.ch).1).trans h.ch, ownsMap_below h.evs hb, ownsMap_below h.pk hb, ownsMap_below h.tab hb, h.done, h.below.trans (hb.mono h.below.size), h.nc, h.ne, h.np, h.nt, h.two⟩
theorem OI.below' {w W : World} {es : List Em} {bo : Nat} {left : Lit → Bool} {ol : List (Int × Nat)} (h : OI w es bo left ol W) : Below w.heap.size w W := h.below
/-- The story of a right graph, just made. -/
structure Story (w : World) (g : Gr) (by_ bc be bp bt bo : Nat) (tl : List (Int × Int)) (ol : List (Int × Nat)) (W : World) : Prop where
  ch : Chart w g bc be bp bt tl W
  sto : StoAt W g by_ bc be bp bt bo tl
  outs : ∃ w1, Below w.heap.size w w1 ∧ OI w1 g.evs bo (fun _ => false) ol W
theorem Story.below {w W : World} {g : Gr} {by_ bc be bp bt bo : Nat} {tl : List (Int × Int)} {ol : List (Int × Nat)} (h : Story w g by_ bc be bp bt bo tl ol W) : Below w.heap.size w W := h.ch.below
def StoryPost (w : World) (g : Gr) (e : Ending) (w' : World) : Prop := (rightG g = false ∧ e = .returned (.tuple #[.pointer none, .bool false]) ∧ Below w.heap.size w w') ∨ (rightG g = true ∧ ∃ by_ bc be bp bt bo tl ol, e = .returned (.tuple #[.pointer (some ⟨by_, 0, none⟩), .bool true]) ∧ Story w g by_ bc be bp bt bo tl ol w')
theorem Chart.from {w w1 W : World} {g : Gr} {bc be bp bt : Nat} {l : List (Int × Int)} (h : Chart w1 g bc be bp bt l W) (hb : Below w.heap.size w w1) : Chart w g bc be bp bt l W :=
  ⟨h.ch, h.evs, h.pk, h.tab, h.done, hb.trans (h.below.mono hb.size), Nat.le_trans hb.size h.nc, Nat.le_trans hb.size h.ne, Nat.le_trans hb.size h.np, Nat.le_trans hb.size h.nt, h.two⟩
set_option maxHeartbeats 4000000 in
set_option maxRecDepth 100000 in
theorem storyOf_impl (g : Gr) (a : Option Addr) (cap : Nat) (p : Option Addr) (cp : Nat) (w : World) (h : EvsAt w a g.evs) (h2 : EvsAt w p g.pk) :
    Calls Tryz.prog 43 #[.agg #[.int .i64 g.room, .slice a g.evs.length cap, .slice p g.pk.length cp]] w (StoryPost w g) := by
  have HB : Hid (∀ o, Below w.heap.size w (w.alloc o)) := fun o => (Below.refl _ _).alloc (Nat.le_refl _) o
  have HC := fun o => chart_impl g a cap p cp (w.alloc o) (h.kept (HB.out o)) (h2.kept (HB.out o))
  clear h h2
  cases hr : rightG g
  · have HR : Hid (rightG g = false) := hr
    go_enter Tryz.func43, Tryz.ntmps43
    go_wp2_with fail
    refine (HC _).mono ?_
    rintro e w1 (⟨_, rfl, hb1⟩ | ⟨h1, _⟩)
    · have HW : Hid (Below w.heap.size w w1) := (HB.out _).trans (hb1.mono (by simp))
      clear hb1
      go_wp2
      go_ret2
      exact .inl ⟨HR.out, rfl, HW.out⟩
    · rw [hr] at h1
      cases h1
  · have HR : Hid (rightG g = true) := hr
    go_enter Tryz.func43, Tryz.ntmps43
    go_wp2_with fail
    refine (HC _).mono ?_
    rintro e w1 (⟨h1, _⟩ | ⟨_, bc, be, bp, bt, l, rfl, hch⟩)
    · rw [hr] at h1
      cases h1
    · have HCH : Hid (Chart w g bc be bp bt l w1) := hch.from (HB.out _)
      have HN := newStory_impl g (rowB_len (right_rows HR.out)) (fun m hm => by have := right_ids HR.out hm; unfold IdIn at this; omega) bc be bp bt l w1 hch.ch hch.evs hch.tab
      clear hch HC
      go_wp2_with fail
      refine HN.mono ?_
      clear HN
      rintro e w2 ⟨by_, bo, ol, rfl, hns⟩
      have HS : Hid (Story w g by_ bc be bp bt bo l ol w2) := ⟨HCH.out.on hns.outs.below, hns.sto, w1, HCH.out.below, hns.outs⟩
      clear hns
      go_wp2
      go_ret2
      exact .inr ⟨HR.out, _, _, _, _, _, _, _, _, rfl, HS.out⟩
/-- What Resolve is asked of: a right graph, at most 60 states of it. -/
def rsOk (g : Gr) (L : List (List En)) : Prop := rightG g = true ∧ L.length ≤ 60 ∧ ∀ s ∈ L, stateB g s = true
def RpPost (w : World) (g : Gr) (L : List (List En)) (e : Ending) (w' : World) : Prop := (¬ rsOk g L ∧ e = .returned (.slice none 0 0) ∧ Below w.heap.size w w') ∨ (rsOk g L ∧ ∃ r v, e = .returned v ∧ Meets g.evs (depG g) L r ∧ EnsOwn w' w.heap.size v r ∧ Below w.heap.size w w')
theorem stateB_sc {g : Gr} {s : List En} (hr : rightG g = true) (h : stateB g s = true) : Sc g s := by
  simp only [stateB, Bool.and_eq_true] at h
  exact ⟨hr, h.1, h.2⟩
theorem EnsOwn.mono {W : World} {b b' : Nat} {v : Value} {xs : List En} (h : EnsOwn W b v xs) (hb : b' ≤ b) : EnsOwn W b' v xs := owns_baseC h hb
set_option maxHeartbeats 4000000 in
set_option maxRecDepth 100000 in
theorem resolveP_impl (g : Gr) (E : Errs) (ls : List Sl) (a : Option Addr) (cap : Nat) (p : Option Addr) (cp : Nat) (q : Option Addr) (cq : Nat) (w : World) (h : EvsAt w a g.evs) (h2 : EvsAt w p g.pk) (hE : LE E w) (hL : SlsAt w q ls) :
    Calls Tryz.prog 14 #[.agg #[.int .i64 g.room, .slice a g.evs.length cap, .slice p g.pk.length cp], .slice q ls.length cq] w (RpPost w g (rowsOf ls)) := by
  have HB : Hid (∀ o, Below w.heap.size w (w.alloc o)) := fun o => (Below.refl _ _).alloc (Nat.le_refl _) o
  have HC := fun o => storyOf_impl g a cap p cp (w.alloc o) (h.kept (HB.out o)) (h2.kept (HB.out o))
  have HLL : Hid (SlsAt w q ls ∧ LE E w) := ⟨hL, hE⟩
  have hlen := hL.len
  have HLN : Hid ((rowsOf ls).length = ls.length) := by simp [Hid, rowsOf]
  clear h h2 hE hL
  go_enter Tryz.func14, Tryz.ntmps14
  go_wp2_with fail
  refine (HC _).mono ?_
  clear HC
  rintro e w1 (⟨hr, rfl, hb1⟩ | ⟨hr, by_, bc, be, bp, bt, bo, tl, ol, rfl, hs⟩)
  · have HW : Hid (Below w.heap.size w w1) := (HB.out _).trans (hb1.mono (by simp))
    have HN : Hid (¬ rsOk g (rowsOf ls)) := fun h => by have := h.1; rw [hr] at this; cases this
    clear hb1 hr
    go_wp2
    go_ret
    exact .inl ⟨HN.out, rfl, HW.out⟩
  · have HR : Hid (rightG g = true) := hr
    have HW1 : Hid (Below w.heap.size w w1) := (HB.out _).trans (hs.below.mono (by simp))
    have HST : Hid (StoAt w1 g by_ bc be bp bt bo tl) := hs.sto
    have HDP : Hid (dpT tl = depG g) := funext fun id => hs.ch.depth hr id
    clear hs hr
    by_cases hl : ls.length ≤ 60
    · have HSN := standings_impl g HR.out by_ bc be bp bt bo tl ls q cq w1 HST.out (HLL.out.1.kept HW1.out) hl
      go_wp2_with fail
      refine HSN.mono ?_
      clear HSN
      rintro e w2 (⟨hn, rfl, hb2⟩ | ⟨hall, gg, c, ms, rfl, hms, hmr, hb2⟩)
      · have HN : Hid (¬ rsOk g (rowsOf ls)) := fun h => by
          obtain ⟨s, hs, hf⟩ := hn
          have := h.2.2 s hs
          rw [hf] at this
          cases this
        have HW : Hid (Below w.heap.size w w2) := HW1.out.trans (hb2.mono HW1.out.size)
        clear hb2 hn
        go_wp2
        go_ret
        exact .inl ⟨HN.out, rfl, HW.out⟩
      · have HOK : Hid (rsOk g (rowsOf ls)) := ⟨HR.out, by rw [HLN.out]; exact hl, hall⟩
        have HW2 : Hid (Below w.heap.size w w2) := HW1.out.trans (hb2.mono HW1.out.size)
        have HRS := resolve_impl g HR.out E by_ bc be bp bt bo tl ms (rowsOf ls) (some ⟨gg, 0, none⟩) c w2 (HST.out.kept hb2) (HLL.out.2.kept HW2.out) hms hmr (fun s hs => stateB_sc HR.out (hall s hs))
        clear hb2 hall hms hmr
        go_wp2_with fail
        refine HRS.mono ?_
        clear HRS
        rintro e w3 ⟨b, n, F, r, rfl, hbb, hsm, hri, hme, hn, hb3⟩
        have HRW := row_of_impl F b n w3 hsm (by omega)
        have HW3 : Hid (Below w.heap.size w w3) := HW2.out.trans (hb3.mono HW2.out.size)
        have HM : Hid (RowIs F r ∧ Meets g.evs (depG g) (rowsOf ls) r) := ⟨hri, by rw [← HDP.out]; exact hme⟩
        clear hb3 hsm hri hme hbb
        go_wp2_with fail
        refine HRW.mono ?_
        clear HRW
        rintro e w4 ⟨v, xs, rfl, hrx, hown, hxl, hb4⟩
        have HA : Hid (Meets g.evs (depG g) (rowsOf ls) xs ∧ EnsOwn w4 w.heap.size v xs ∧ Below w.heap.size w w4) := by
          have e := RowIs.uniq HM.out.1 hrx
          exact ⟨e ▸ HM.out.2, hown.mono HW3.out.size, HW3.out.trans (hb4.mono HW3.out.size)⟩
        clear hrx hown hb4
        go_wp2
        go_ret
        exact .inr ⟨HOK.out, xs, v, rfl, HA.out⟩
    · have HN : Hid (¬ rsOk g (rowsOf ls)) := fun h => by have := h.2.1; rw [HLN.out] at this; omega
      go_wp2
      go_ret
      exact .inl ⟨HN.out, rfl, HW1.out⟩
end Go.Proofs.YteajcmkaoahbeaaGreatDoor
