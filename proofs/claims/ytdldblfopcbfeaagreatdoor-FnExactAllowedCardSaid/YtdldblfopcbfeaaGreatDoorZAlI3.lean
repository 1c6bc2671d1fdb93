/- What hinders arranging and hiding, the program's side. -/
import Derived.Test.YtdldblfopcbfeaaGreatDoorZAlI0
namespace Go.Proofs.YtdldblfopcbfeaaGreatDoor
open Go.RowKit

/-- Of the kinds that arrange. -/
def mightK (es : List Em) (xs : List En) (v : Ev) (pl : Int) : Int := if (v.kind == 3) = true then mightE v.n pl (levR es xs v.key) (v.key != v.author) else ifE (decide (pl < 50))
set_option maxHeartbeats 16000000 in
set_option maxRecDepth 100000 in
theorem asksOfMight_impl (g : Gr) (xs : List En) (E : Errs) (be bs : Nat) (v : Ev) (q : Option Addr) (c : Nat) (w : World) (h : ScAt w g xs be bs) (hs : Sc g xs) (hE : LE E w) (hwa : (Lit.int .i64 v.author).wf = true) (hwk : (Lit.int .i64 v.key).wf = true) (hk : (v.kind == 3 || v.kind == 4 || v.kind == 5 || v.kind == 6) = true) :
    Calls Tryz.prog 78 #[.agg #[.map (some be), .map (some bs)], .agg #[.int .i64 v.id, .int .i64 v.room, .int .i64 v.author, .int .i64 v.kind, .int .i64 v.key, .int .i64 v.n, .string v.text, .slice q v.prev.length c, .int .i64 v.time]] w fun e w' => e = .returned (errV E (mightK g.evs xs v (levR g.evs xs v.author))) ∧ Below w.heap.size w w' := by
  have HA0 : Hid (IB w E be bs v q c ((w.alloc (.cells #[.map (some be), .map (some bs)] 60)).alloc (.cells #[.int .i64 v.id, .int .i64 v.room, .int .i64 v.author, .int .i64 v.kind, .int .i64 v.key, .int .i64 v.n, .string v.text, .slice q v.prev.length c, .int .i64 v.time] 39))) := IB.start w E hE be bs v q c
  obtain ⟨m1, m2, m3, m4, m5, m6⟩ := HA0.out.cells
  obtain ⟨z1, z2⟩ := HA0.out.lt
  have HL := fun W (hW : Below w.heap.size w W) => level_impl g xs be bs v.author hwa W (h.kept hW) hs
  have HK := fun W (hW : Below w.heap.size w W) => level_impl g xs be bs v.key hwk W (h.kept hW) hs
  obtain ⟨lk, HQ⟩ : ∃ u, Hid (u = levR g.evs xs v.key) := ⟨levR g.evs xs v.key, (rfl : levR g.evs xs v.key = _)⟩
  obtain ⟨l, HP⟩ : ∃ u, Hid (u = levR g.evs xs v.author) := ⟨levR g.evs xs v.author, (rfl : levR g.evs xs v.author = _)⟩
  rw [← HP.out]
  obtain ⟨R, HR⟩ : ∃ R, Hid (R = mightK g.evs xs v l) := ⟨mightK g.evs xs v l, (rfl : mightK g.evs xs v l = _)⟩
  rw [← HR.out]
  rw [← HP.out] at HL
  rw [← HQ.out] at HK
  have HKK : Hid ((v.kind == 3 || v.kind == 4 || v.kind == 5 || v.kind == 6) = true) := hk
  clear h hs hE hwa hwk hk
  go_enter Tryz.func78, Tryz.ntmps78
  go_wp2_with fail
  refine (HL _ HA0.out.below).mono ?_
  rintro e w1 ⟨rfl, hb1⟩
  have HA1 : Hid (IB w E be bs v q c w1) := HA0.out.on hb1
  clear hb1 HA0 HL m1 m2 m3 m4 m5 m6 z1 z2
  obtain ⟨m1, m2, m3, m4, m5, m6⟩ := HA1.out.cells
  cases hk3 : (v.kind == 3)
  · cases hk4 : (v.kind == 4)
    · cases hk5 : (v.kind == 5)
      · cases hk6 : (v.kind == 6)
        · exact absurd HKK.out (by simp [hk3, hk4, hk5, hk6])
        · cases p5 : (decide (l < 50))
          · go_wp2
            go_ret
            exact ⟨ret_0 (by rw [HR.out]; simp [mightK, ifE, hk3, p5]), HA1.out.below⟩
          · go_wp2
            go_ret
            exact ⟨ret_d (by rw [HR.out]; simp [mightK, ifE, hk3, p5]), HA1.out.below⟩
      · cases p5 : (decide (l < 50))
        · go_wp2
          go_ret
          exact ⟨ret_0 (by rw [HR.out]; simp [mightK, ifE, hk3, p5]), HA1.out.below⟩
        · go_wp2
          go_ret
          exact ⟨ret_d (by rw [HR.out]; simp [mightK, ifE, hk3, p5]), HA1.out.below⟩
    · cases p5 : (decide (l < 50))
      · go_wp2
        go_ret
        exact ⟨ret_0 (by rw [HR.out]; simp [mightK, ifE, hk3, p5]), HA1.out.below⟩
      · go_wp2
        go_ret
        exact ⟨ret_d (by rw [HR.out]; simp [mightK, ifE, hk3, p5]), HA1.out.below⟩
  · cases pn : (decide (l < v.n))
    · cases ko : (v.key != v.author)
      · cases p5 : (decide (l < 50))
        · go_wp2
          go_ret
          exact ⟨ret_0 (by rw [HR.out]; simp [mightK, mightE, ifE, ← HQ.out, hk3, pn, ko, p5]), HA1.out.below⟩
        · go_wp2
          go_ret
          exact ⟨ret_d (by rw [HR.out]; simp [mightK, mightE, ifE, ← HQ.out, hk3, pn, ko, p5]), HA1.out.below⟩
      · cases hlk : (decide (l ≤ lk))
        · cases p5 : (decide (l < 50))
          · go_wp2_with fail
            refine (HK _ HA1.out.below).mono ?_
            rintro e w2 ⟨rfl, hb2⟩
            have HA2 : Hid (IB w E be bs v q c w2) := HA1.out.on hb2
            clear hb2 m1 m2 m3 m4 m5 m6
            obtain ⟨m1, m2, m3, m4, m5, m6⟩ := HA2.out.cells
            go_wp2
            go_ret
            exact ⟨ret_0 (by rw [HR.out]; simp [mightK, mightE, ifE, ← HQ.out, hk3, pn, ko, hlk, p5]), HA2.out.below⟩
          · go_wp2_with fail
            refine (HK _ HA1.out.below).mono ?_
            rintro e w2 ⟨rfl, hb2⟩
            have HA2 : Hid (IB w E be bs v q c w2) := HA1.out.on hb2
            clear hb2 m1 m2 m3 m4 m5 m6
            obtain ⟨m1, m2, m3, m4, m5, m6⟩ := HA2.out.cells
            go_wp2
            go_ret
            exact ⟨ret_d (by rw [HR.out]; simp [mightK, mightE, ifE, ← HQ.out, hk3, pn, ko, hlk, p5]), HA2.out.below⟩
        · go_wp2_with fail
          refine (HK _ HA1.out.below).mono ?_
          rintro e w2 ⟨rfl, hb2⟩
          have HA2 : Hid (IB w E be bs v q c w2) := HA1.out.on hb2
          clear hb2 m1 m2 m3 m4 m5 m6
          obtain ⟨m1, m2, m3, m4, m5, m6⟩ := HA2.out.cells
          go_wp2
          go_ret
          exact ⟨ret_d (by rw [HR.out]; simp [mightK, mightE, ifE, ← HQ.out, hk3, pn, ko, hlk]), HA2.out.below⟩
    · go_wp2
      go_ret
      exact ⟨ret_d (by rw [HR.out]; simp [mightK, mightE, ifE, ← HQ.out, hk3, pn]), HA1.out.below⟩
set_option maxHeartbeats 16000000 in
set_option maxRecDepth 100000 in
theorem asksOfHiding_impl (g : Gr) (xs : List En) (E : Errs) (be bs : Nat) (v : Ev) (q : Option Addr) (c : Nat) (w : World) (h : ScAt w g xs be bs) (hs : Sc g xs) (hE : LE E w) (hwa : (Lit.int .i64 v.author).wf = true) (hki : -9223372036854775808 ≤ v.key ∧ v.key ≤ 9223372036854775807) :
    Calls Tryz.prog 79 #[.agg #[.map (some be), .map (some bs)], .agg #[.int .i64 v.id, .int .i64 v.room, .int .i64 v.author, .int .i64 v.kind, .int .i64 v.key, .int .i64 v.n, .string v.text, .slice q v.prev.length c, .int .i64 v.time]] w fun e w' => e = .returned (errV E (hideE g.evs v (levR g.evs xs v.author))) ∧ Below w.heap.size w w' := by
  have HA0 : Hid (IB w E be bs v q c ((w.alloc (.cells #[.map (some be), .map (some bs)] 60)).alloc (.cells #[.int .i64 v.id, .int .i64 v.room, .int .i64 v.author, .int .i64 v.kind, .int .i64 v.key, .int .i64 v.n, .string v.text, .slice q v.prev.length c, .int .i64 v.time] 39))) := IB.start w E hE be bs v q c
  obtain ⟨m1, m2, m3, m4, m5, m6⟩ := HA0.out.cells
  obtain ⟨z1, z2⟩ := HA0.out.lt
  have HL := fun W (hW : Below w.heap.size w W) => level_impl g xs be bs v.author hwa W (h.kept hW) hs
  have HLK := look_ev (h.kept HA0.out.below).evs hki
  have HD : Hid ((idsOf g.evs).Nodup) := right_dup hs.right
  obtain ⟨l, HP⟩ : ∃ u, Hid (u = levR g.evs xs v.author) := ⟨levR g.evs xs v.author, (rfl : levR g.evs xs v.author = _)⟩
  rw [← HP.out]
  obtain ⟨R, HR⟩ : ∃ R, Hid (R = hideE g.evs v l) := ⟨hideE g.evs v l, (rfl : hideE g.evs v l = _)⟩
  rw [← HR.out]
  rw [← HP.out] at HL
  clear h hs hE hwa hki
  have HA1 : Hid (∀ o, IB w E be bs v q c (((w.alloc (.cells #[.map (some be), .map (some bs)] 60)).alloc (.cells #[.int .i64 v.id, .int .i64 v.room, .int .i64 v.author, .int .i64 v.kind, .int .i64 v.key, .int .i64 v.n, .string v.text, .slice q v.prev.length c, .int .i64 v.time] 39)).alloc o)) := fun o => HA0.out.on ((Below.refl _ _).alloc (Nat.le_refl _) o)
  have HX : Hid (∀ o, (((w.alloc (.cells #[.map (some be), .map (some bs)] 60)).alloc (.cells #[.int .i64 v.id, .int .i64 v.room, .int .i64 v.author, .int .i64 v.kind, .int .i64 v.key, .int .i64 v.n, .string v.text, .slice q v.prev.length c, .int .i64 v.time] 39)).alloc o).heap[w.heap.size + 1 + 1]? = some o) := fun o => by
    have := (MapKept.heap_alloc ((w.alloc (.cells #[.map (some be), .map (some bs)] 60)).alloc (.cells #[.int .i64 v.id, .int .i64 v.room, .int .i64 v.author, .int .i64 v.kind, .int .i64 v.key, .int .i64 v.n, .string v.text, .slice q v.prev.length c, .int .i64 v.time] 39)) o).1
    simpa using this
  have n5 : ∀ o, (((w.alloc (.cells #[.map (some be), .map (some bs)] 60)).alloc (.cells #[.int .i64 v.id, .int .i64 v.room, .int .i64 v.author, .int .i64 v.kind, .int .i64 v.key, .int .i64 v.n, .string v.text, .slice q v.prev.length c, .int .i64 v.time] 39)).alloc o).cell? ⟨2, 0, none⟩ = some (.iface 189 (.pointer (some E.x))) := fun o => (HA1.out o).cells.2.2.2.2.1
  rcases HLK with ⟨hno, hrun⟩ | ⟨mm, hm, hid, hrun⟩
  · have HV : Hid (R = 6) := by unfold Hid; rw [HR.out]; exact if_neg hno
    have hrun' := hrun.trans (show _ = Result.ok (.tuple #[.agg #[.int .i64 0, .int .i64 0, .int .i64 0, .int .i64 0, .int .i64 0, .int .i64 0, .string ⟨#[]⟩, .slice none 0 0, .int .i64 0], .bool false]) ((w.alloc (.cells #[.map (some be), .map (some bs)] 60)).alloc (.cells #[.int .i64 v.id, .int .i64 v.room, .int .i64 v.author, .int .i64 v.kind, .int .i64 v.key, .int .i64 v.n, .string v.text, .slice q v.prev.length c, .int .i64 v.time] 39)) from rfl)
    clear hno hrun HR HL HX
    go_enter Tryz.func79, Tryz.ntmps79
    go_wp2
    go_ret
    exact ⟨ret_x HV.out, (HA1.out _).below⟩
  · have HV : Hid (R = ifE (decide (l < 50) && (mm.v.author != v.author))) := by
      unfold Hid
      rw [HR.out, hideE, if_pos (show v.key ∈ idsOf g.evs from List.mem_map.2 ⟨mm, hm, hid⟩), ← hid, evIn_some HD.out hm]
    have hrun' := hrun.trans (show _ = Result.ok (.tuple #[.agg #[.int .i64 mm.v.id, .int .i64 mm.v.room, .int .i64 mm.v.author, .int .i64 mm.v.kind, .int .i64 mm.v.key, .int .i64 mm.v.n, .string mm.v.text, .slice mm.p mm.v.prev.length mm.c, .int .i64 mm.v.time], .bool true]) ((w.alloc (.cells #[.map (some be), .map (some bs)] 60)).alloc (.cells #[.int .i64 v.id, .int .i64 v.room, .int .i64 v.author, .int .i64 v.kind, .int .i64 v.key, .int .i64 v.n, .string v.text, .slice q v.prev.length c, .int .i64 v.time] 39)) from rfl)
    obtain ⟨ma, HMA⟩ : ∃ u, Hid (u = mm.v.author) := ⟨mm.v.author, (rfl : mm.v.author = _)⟩
    rw [← HMA.out] at hrun' HV
    clear hrun HR hid hm
    go_enter Tryz.func79, Tryz.ntmps79
    go_wp2_with fail
    refine (HL _ (HA1.out _).below).mono ?_
    rintro e w1 ⟨rfl, hb1⟩
    have HA2 : Hid (IB w E be bs v q c w1) := (HA1.out _).on hb1
    have hc3 : ∀ i, w1.cell? ⟨w.heap.size + 1 + 1, i, none⟩ = #[.int .i64 mm.v.id, .int .i64 mm.v.room, .int .i64 ma, .int .i64 mm.v.kind, .int .i64 mm.v.key, .int .i64 mm.v.n, .string mm.v.text, .slice mm.p mm.v.prev.length mm.c, .int .i64 mm.v.time][i]? := fun i => cell_of_heap ((hb1.block _ (by simp)).trans (HX.out _))
    clear hb1 HA1 HX n5 m1 m2 m3 m4 m5 m6 z1 z2
    obtain ⟨m1, m2, m3, m4, m5, m6⟩ := HA2.out.cells
    cases p5 : (decide (l < 50))
    · go_wp2
      go_ret
      exact ⟨ret_0 (by rw [HV.out]; simp [ifE, p5]), HA2.out.below⟩
    · cases hau : (ma != v.author)
      · go_wp2
        go_ret
        exact ⟨ret_0 (by rw [HV.out]; simp [ifE, p5, hau]), HA2.out.below⟩
      · go_wp2
        go_ret
        exact ⟨ret_d (by rw [HV.out]; simp [ifE, p5, hau]), HA2.out.below⟩
end Go.Proofs.YtdldblfopcbfeaaGreatDoor
