/- Numbers in memory: as cells, as a row of their own. A row of events in memory; where an event of an Id stands in a row. What the laws do with an event: its size, a copy of it, and whether two are alike. -/
import Derived.Test.YteajcmkaoahbeaaGreatDoorZGrPlain
import Derived.WalkSmall
namespace Go.Proofs.YteajcmkaoahbeaaGreatDoor
open Go.RowKit

/-- Numbers as cells. -/
def nv (zs : List Int) : List Value := zs.map fun n => .int .i64 n
/-- A row of numbers in a block of its own, laid behind 'base'. -/
def NumsNew (base : Nat) (w : World) (a : Option Addr) (zs : List Int) : Prop :=
  ∃ b, a = some ⟨b, 0, none⟩ ∧ base ≤ b ∧ w.heap[b]? = some (.cells (nv zs).toArray 2 (0, 0))
theorem NumsNew.at {base : Nat} {w : World} {a : Option Addr} {zs : List Int} (h : NumsNew base w a zs) (hl : zs.length ≤ 1048576) : NumsAt w a zs := by
  obtain ⟨b, rfl, _, hb⟩ := h
  refine ⟨hl, fun _ => ⟨b, 0, rfl, (Array.getElem?_eq_some_iff.1 hb).1, fun j hj => ?_⟩⟩
  rw [cell_of_heap hb]
  simp [nv, hj]
theorem NumsNew.kept {base : Nat} {w w' : World} {a : Option Addr} {zs : List Int} (h : NumsNew base w a zs) (hb : Below w.heap.size w w') : NumsNew base w' a zs := by
  obtain ⟨b, ha, hg, hh⟩ := h
  exact ⟨b, ha, hg, (hb.block b (Array.getElem?_eq_some_iff.1 hh).1).trans hh⟩
theorem NumsNew.set {base : Nat} {w : World} {a : Option Addr} {zs : List Int} (h : NumsNew base w a zs) {p : Addr} (hp : p.block < base) (u : Value) : NumsNew base (w.setCell p u) a zs := by
  obtain ⟨b, ha, hg, hh⟩ := h
  exact ⟨b, ha, hg, (Below.heap_setCell _ _ _ _ (by omega)).trans hh⟩
theorem NumsNew.mono {base base' : Nat} {w : World} {a : Option Addr} {zs : List Int} (h : NumsNew base w a zs) (hb : base' ≤ base) : NumsNew base' w a zs := by
  obtain ⟨b, ha, hg, hh⟩ := h
  exact ⟨b, ha, by omega, hh⟩
theorem Tryz.info2 : (Tryz.prog.info? 2).map (fun i => (i.zero, i.size, i.bytes)) = some (some (.int .i64 0), 1, 8) := by kernel_rfl
theorem made_nums (n : Nat) : (madeCells (Value.int .i64 0).cells (n * 1)).toList = List.replicate n (.int .i64 0) := by
  simp [madeCells, Value.cells, Nat.mod_one, List.map_const']
/-- The copy when k numbers are laid in. -/
def copyRow (zs : List Int) (k : Nat) : List Value := nv (zs.take k) ++ List.replicate (zs.length - k) (.int .i64 0)
theorem copyRow_zero (zs : List Int) : copyRow zs 0 = List.replicate zs.length (.int .i64 0) := by simp [copyRow, nv]
theorem copyRow_end (zs : List Int) : copyRow zs zs.length = nv zs := by simp [copyRow]
theorem copyRow_len (zs : List Int) (k : Nat) (h : k ≤ zs.length) : (copyRow zs k).length = zs.length := by simp [copyRow, nv]; omega
theorem copyRow_next {zs : List Int} {k : Nat} (h : k < zs.length) : (copyRow zs k).set k (.int .i64 zs[k]) = copyRow zs (k + 1) := by
  have hl : (nv (zs.take k)).length = k := by simp [nv]; omega
  unfold copyRow
  rw [List.set_append_right _ _ (by omega), hl, Nat.sub_self, List.take_succ_eq_append_getElem h, show zs.length - k = zs.length - (k + 1) + 1 by omega, List.replicate_succ]
  simp only [nv, List.map_append, List.map_cons, List.map_nil, List.append_assoc, List.singleton_append, List.set_cons_zero]
theorem array9 {α : Type} {cs : Array α} (h : cs.size = 9) : ∃ c0 c1 c2 c3 c4 c5 c6 c7 c8, cs = #[c0, c1, c2, c3, c4, c5, c6, c7, c8] := by
  obtain ⟨l⟩ := cs
  match l, h with
  | [c0, c1, c2, c3, c4, c5, c6, c7, c8], _ => exact ⟨c0, c1, c2, c3, c4, c5, c6, c7, c8, rfl⟩
theorem numsAt_of {w : World} {base cap : Nat} {a : Option Addr} {zs : List Int} (h : w.ownsRow base 2 1 (.slice a zs.length cap) zs.length (nv zs)) (hl : zs.length ≤ 1048576) : NumsAt w a zs := by
  refine ⟨hl, fun hpos => ?_⟩
  rcases h.2 with ⟨h1, h2⟩ | ⟨g, c, cur, h1, _, hh, _⟩
  · omega
  · cases h1
    refine ⟨g, 0, rfl, (Array.getElem?_eq_some_iff.1 hh).1, fun j hj => ?_⟩
    have := h.cells (g := g) rfl j (.int .i64 zs[j]) (by simp [nv, hj])
    rwa [Addr.add_lit] at this
end Go.Proofs.YteajcmkaoahbeaaGreatDoor
namespace Go.Proofs.YteajcmkaoahbeaaGreatDoor
open Go.RowKit

/-- An event of a row, with the place of its numbers. -/
structure Em where
  v : Ev
  p : Option Addr
  c : Nat
def emCells (m : Em) : List Value := [.int .i64 m.v.id, .int .i64 m.v.room, .int .i64 m.v.author, .int .i64 m.v.kind, .int .i64 m.v.key, .int .i64 m.v.n, .string m.v.text, .slice m.p m.v.prev.length m.c, .int .i64 m.v.time]
/-- A row of events in memory (an empty one lies anywhere). -/
structure EvsAt (w : World) (a : Option Addr) (es : List Em) : Prop where
  len : es.length ≤ 1048576
  row : 0 < es.length → ∃ b off, a = some ⟨b, off, none⟩ ∧ b < w.heap.size ∧ ∀ i (h : i < es.length) j, j < 9 → w.cell? ⟨b, off + (i * 9 + j), none⟩ = (emCells es[i])[j]?
  nums : ∀ m ∈ es, NumsAt w m.p m.v.prev
theorem EvsAt.kept {w w' : World} {a : Option Addr} {es : List Em} (h : EvsAt w a es) (hb : Below w.heap.size w w') : EvsAt w' a es := by
  refine ⟨h.len, fun hl => ?_, fun m hm => (h.nums m hm).kept hb⟩
  obtain ⟨b, off, ha, hbb, hc⟩ := h.row hl
  exact ⟨b, off, ha, Nat.lt_of_lt_of_le hbb hb.size, fun i hi j hj => (hb.cell (p := ⟨b, off + (i * 9 + j), none⟩) hbb).trans (hc i hi j hj)⟩
def idsOf (es : List Em) : List Int := es.map (·.v.id)
set_option maxHeartbeats 1000000 in
theorem at_spec (es : List Em) (id : Int) (a : Option Addr) (cap : Nat) (w : World) (h : EvsAt w a es) :
    Calls Tryz.prog 52 #[.slice a es.length cap, .int .i64 id] w fun e w' => e = .returned (.int .i64 (atI (idsOf es) id)) ∧ w = w' := by
  have hl := h.len
  have H : Hid (EvsAt w a es) := h
  clear h
  go_enter Tryz.func52, Tryz.ntmps52
  go_wp2
  go_loop [5] (fun i => ∃ k : Nat, k ≤ es.length ∧ i = .int .i64 k ∧ Hid (∀ j (h : j < (idsOf es).length), j < k → (idsOf es)[j] ≠ id)) (fun i => es.length - (intOf i).toNat)
  case atStart => exact ⟨0, Nat.zero_le _, rfl, fun _ _ h => absurd h (Nat.not_lt_zero _)⟩
  case round =>
    obtain ⟨k, hk, rfl, HN⟩ := hrel
    by_cases hlt : k < es.length
    · obtain ⟨b, off, rfl, hbb, hcell⟩ := H.out.row (by omega)
      have hc0 : w.cell? ⟨b, off + k * 9, none⟩ = some (.int .i64 es[k].v.id) := hcell k hlt 0 (by omega)
      clear hcell
      cases c : es[k].v.id == id
      · have HS : Hid (∀ j (h : j < (idsOf es).length), j < k + 1 → (idsOf es)[j] ≠ id) := fun j h hj => by
          by_cases e : j = k
          · subst e
            simpa [idsOf] using c
          · exact HN.out j h (by omega)
        go_wp2
        exact ⟨⟨k + 1, by omega, by go_num, HS⟩, by simp [intOf]; omega⟩
      · have HS : Hid (atI (idsOf es) id = k) := atI_found (by simpa [idsOf] using hlt) (by simpa [idsOf] using c) HN.out
        go_wp2
        go_ret
        exact ⟨ret_int HS.out.symm, rfl⟩
    · have HS : Hid (atI (idsOf es) id = -1) := atI_none fun j h => HN.out j h (by have : (idsOf es).length = es.length := by simp [idsOf]
                                                                                   omega)
      go_wp2
      go_ret
      exact ⟨ret_int HS.out.symm, rfl⟩

/-- Are all these Ids in a row? -/
def allIn (ids : List Int) (ps : List Int) : Bool := ps.all fun p => decide (0 ≤ atI ids p)
theorem allIn_no {ids ps : List Int} {k : Nat} (hk : k < ps.length) (h : atI ids ps[k] < 0) : allIn ids ps = false := by
  rw [allIn, List.all_eq_false]
  exact ⟨ps[k], List.getElem_mem hk, by simp; omega⟩
theorem allIn_yes {ids ps : List Int} (h : ∀ j (h : j < ps.length), 0 ≤ atI ids ps[j]) : allIn ids ps = true := by
  rw [allIn, List.all_eq_true]
  intro p hp
  obtain ⟨j, hj, rfl⟩ := List.getElem_of_mem hp
  have := h j hj
  simp; omega
set_option maxHeartbeats 1000000 in
set_option maxRecDepth 100000 in
theorem all_spec (es : List Em) (m : Em) (a : Option Addr) (cap : Nat) (w : World) (h : EvsAt w a es) (hm : NumsAt w m.p m.v.prev) :
    Calls Tryz.prog 63 #[.slice a es.length cap, .agg (emCells m).toArray] w fun e w' => e = .returned (.bool (allIn (idsOf es) m.v.prev)) ∧ Below w.heap.size w w' := by
  have hl := h.len
  have hlp := hm.1
  unfold emCells
  have H : Hid (∀ o, EvsAt (w.alloc o) a es) := fun o => h.kept ((Below.refl _ _).alloc (Nat.le_refl _) _)
  have HM : Hid (NumsAt w m.p m.v.prev) := hm
  have HB : Hid (∀ o, Below w.heap.size w (w.alloc o)) := fun o => (Below.refl _ _).alloc (Nat.le_refl _) _
  clear h hm
  go_enter Tryz.func63, Tryz.ntmps63
  go_wp2
  go_loopw [5] (fun i wr => ∃ k : Nat, k ≤ m.v.prev.length ∧ i = .int .i64 k ∧ Hid (∀ j (h : j < m.v.prev.length), j < k → 0 ≤ atI (idsOf es) m.v.prev[j]) ∧ wr = w.alloc (.cells (emCells m).toArray 114)) (fun i _ => m.v.prev.length - (intOf i).toNat)
  case atStart => exact ⟨0, Nat.zero_le _, rfl, fun _ _ h => absurd h (Nat.not_lt_zero _), rfl⟩
  case round =>
    obtain ⟨k, hk, rfl, HN, rfl⟩ := hrel
    unfold emCells
    by_cases hlt : k < m.v.prev.length
    · obtain ⟨b, off, hp, hbb, hcell⟩ := HM.out.2 (by omega)
      have hck := hcell k hlt
      rw [hp]
      clear hcell hp
      go_wp2_with fail
      refine (at_spec es m.v.prev[k] a cap _ (H.out _)).mono ?_
      rintro e w1 ⟨rfl, rfl⟩
      cases c : decide (atI (idsOf es) m.v.prev[k] < 0)
      · have HS : Hid (∀ j (h : j < m.v.prev.length), j < k + 1 → 0 ≤ atI (idsOf es) m.v.prev[j]) := fun j h hj => by
          by_cases e : j = k
          · subst e
            simpa using c
          · exact HN.out j h (by omega)
        go_wp2
        go_roundw
        case rel => exact ⟨k + 1, by omega, by go_num, HS, trivial⟩
        case measure => simp [intOf]; omega
      · have HS : Hid (allIn (idsOf es) m.v.prev = false) := allIn_no hlt (by simpa using c)
        go_wp2
        go_ret
        exact ⟨ret_bool HS.out.symm, HB.out _⟩
    · have HS : Hid (allIn (idsOf es) m.v.prev = true) := allIn_yes fun j h => HN.out j h (by omega)
      go_wp2
      go_ret
      exact ⟨ret_bool HS.out.symm, HB.out _⟩
end Go.Proofs.YteajcmkaoahbeaaGreatDoor
namespace Go.Proofs.YteajcmkaoahbeaaGreatDoor
open Go.RowKit

set_option maxHeartbeats 1000000 in
theorem to_nums (zs : List Int) (a : Option Addr) (cap : Nat) (w : World) (hn : NumsAt w a zs) :
    Calls Tryz.prog 107 #[.slice a zs.length cap] w fun e w' => ∃ a', e = .returned (.slice a' zs.length zs.length) ∧ NumsNew w.heap.size w' a' zs ∧ Below w.heap.size w w' := by
  obtain ⟨i0, hi, hz0, hz1, hz2⟩ := info_parts Tryz.info2
  have hl := hn.1
  have HN : Hid (NumsAt w a zs) := hn
  clear hn
  go_enter Tryz.func107, Tryz.ntmps107
  go_wp2_with (at_make; refine wpList_make_full _ rfl _ _ 46 rfl w.heap.size 2 i0 (.int .i64 0) 1 Tryz.underlying46 hi hz0 hz1 .i64 .i64 _ _ zs.length rfl rfl (by omega) (by omega) (by rw [hz2]; omega) (by unfold maxLen; omega) (Nat.le_refl _) ?_; intro w0 hown0 hgrow0)
  rw [made_nums] at hown0
  have hg0 : Hid (w0.heap[w.heap.size]? = some (.cells (copyRow zs 0).toArray 2 (0, 0))) := by
    rcases hown0.2 with ⟨h, _⟩ | ⟨g, c, cur, h, _, h2, _, _, h3, h4⟩
    · cases h
    · cases h
      rw [copyRow_zero, ← h4, List.take_of_length_le (by simp; omega)]
      exact h2
  have hb0 : Below w.heap.size w w0 := (Below.refl _ _).grown hgrow0 (Nat.le_refl _) (fun k h => by cases h)
  clear hown0 hgrow0
  go_wp2
  go_loopw [4] (fun i wr => ∃ k : Nat, k ≤ zs.length ∧ i = .int .i64 k ∧ Hid (wr.heap[w.heap.size]? = some (.cells (copyRow zs k).toArray 2 (0, 0))) ∧ Below w.heap.size w wr) (fun i _ => zs.length - (intOf i).toNat)
  case atStart => exact ⟨0, Nat.zero_le _, rfl, hg0, hb0⟩
  case round =>
    obtain ⟨k, hk, rfl, HG, hbw⟩ := hrel
    by_cases hlt : k < zs.length
    · obtain ⟨b, off, rfl, hbb, hcell⟩ := HN.out.2 (by omega)
      have hck : wr.cell? ⟨b, off + k, none⟩ = some (.int .i64 zs[k]) := (hbw.cell (p := ⟨b, off + k, none⟩) hbb).trans (hcell k hlt)
      have hc2 : ∃ u, wr.cell? ⟨w.heap.size, k, none⟩ = some u := ⟨(copyRow zs k)[k]'(by rw [copyRow_len _ _ hk]; exact hlt), by rw [cell_of_heap HG.out]; simp⟩
      obtain ⟨u, hu⟩ := hc2
      have hfz : wr.frozen? ⟨w.heap.size, k, none⟩ = false := frozen_of_heap HG.out
      clear hcell
      go_wp2
      go_roundw
      case rel =>
        refine ⟨k + 1, by omega, by go_num, ?_, hbw.setCell (Nat.le_refl _) _⟩
        unfold Hid
        rw [heap_set HG.out]
        simp [copyRow_next hlt]
      case measure => simp [intOf]; omega
    · have hE : k = zs.length := by omega
      have hg := HG.out
      rw [hE, copyRow_end] at hg
      have HF : Hid (wr.heap[w.heap.size]? = some (.cells (nv zs).toArray 2 (0, 0))) := hg
      clear hE hg
      go_wp2
      go_ret
      exact ⟨_, rfl, ⟨_, rfl, Nat.le_refl _, HF.out⟩, hbw⟩

set_option maxHeartbeats 1000000 in
theorem to_event (v : Ev) (a : Option Addr) (cap : Nat) (w : World) (hn : NumsAt w a v.prev) :
    Calls Tryz.prog 70 #[.agg #[.int .i64 v.id, .int .i64 v.room, .int .i64 v.author, .int .i64 v.kind, .int .i64 v.key, .int .i64 v.n, .string v.text, .slice a v.prev.length cap, .int .i64 v.time]] w fun e w' =>
      ∃ a', e = .returned (.agg #[.int .i64 v.id, .int .i64 v.room, .int .i64 v.author, .int .i64 v.kind, .int .i64 v.key, .int .i64 v.n, .string v.text, .slice a' v.prev.length v.prev.length, .int .i64 v.time]) ∧ NumsNew w.heap.size w' a' v.prev ∧ Below w.heap.size w w' := by
  have HN : Hid (∀ w', Below w.heap.size w w' → NumsAt w' a v.prev) := fun w' hb => hn.kept hb
  clear hn
  go_enter Tryz.func70, Tryz.ntmps70
  go_wp2_with fail
  refine (to_nums v.prev a cap _ (HN.out _ ?_)).mono ?_
  · exact (((Below.refl _ _).alloc (Nat.le_refl _) _).alloc (by simp) _).alloc (by simp; omega) _
  rintro e w1 ⟨a', rfl, hn1, hb1⟩
  obtain ⟨hc1, hf1⟩ := bcell hb1
  have hz1 : w.heap.size + 1 + 1 < w1.heap.size := by have := hb1.size; simp at this; omega
  have HW : Hid (NumsNew (w.heap.size + 1 + 1 + 1) w1 a' v.prev ∧ Below w.heap.size w w1) := ⟨by simpa using hn1, ((((Below.refl _ _).alloc (Nat.le_refl _) _).alloc (by simp) _).alloc (by simp; omega) _).trans (hb1.mono (by simp; omega))⟩
  clear hn1 hb1
  go_wp2
  refine bodyPost_ret (v := .agg #[.int .i64 v.id, .int .i64 v.room, .int .i64 v.author, .int .i64 v.kind, .int .i64 v.key, .int .i64 v.n, .string v.text, .slice a' v.prev.length v.prev.length, .int .i64 v.time]) (by simp [results, Tryz.results70, go_sem, hc1]) rfl ⟨a', rfl, ?_, ?_⟩
  · refine NumsNew.mono (base := w.heap.size + 1 + 1 + 1) ?_ (by omega)
    repeat refine NumsNew.set ?_ (by simp) _
    exact HW.out.1
  · repeat refine Below.setCell ?_ (by simp; try omega) _
    exact HW.out.2

set_option maxHeartbeats 1000000 in
theorem eq_nums (zs : List Int) (a1 a2 : Option Addr) (cap1 cap2 : Nat) (w : World) (h1 : NumsAt w a1 zs) (h2 : NumsAt w a2 zs) :
    Calls Tryz.prog 30 #[.slice a1 zs.length cap1, .slice a2 zs.length cap2] w fun e w' => e = .returned (.bool true) ∧ Below w.heap.size w w' := by
  have hl := h1.1
  have H1 : Hid (NumsAt w a1 zs) := h1
  have H2 : Hid (NumsAt w a2 zs) := h2
  clear h1 h2
  go_enter Tryz.func30, Tryz.ntmps30
  go_wp2
  go_loopw [5] (fun i wr => ∃ k : Nat, k ≤ zs.length ∧ i = .int .i64 k ∧ Below w.heap.size w wr) (fun i _ => zs.length - (intOf i).toNat)
  case atStart => exact ⟨0, Nat.zero_le _, rfl, Below.refl _ _⟩
  case round =>
    obtain ⟨k, hk, rfl, hbw⟩ := hrel
    by_cases hlt : k < zs.length
    · obtain ⟨b, off, rfl, hbb, hcell⟩ := H1.out.2 (by omega)
      obtain ⟨b2, off2, rfl, hbb2, hcell2⟩ := H2.out.2 (by omega)
      have hck : wr.cell? ⟨b, off + k, none⟩ = some (.int .i64 zs[k]) := (hbw.cell (p := ⟨b, off + k, none⟩) hbb).trans (hcell k hlt)
      have hck2 : wr.cell? ⟨b2, off2 + k, none⟩ = some (.int .i64 zs[k]) := (hbw.cell (p := ⟨b2, off2 + k, none⟩) hbb2).trans (hcell2 k hlt)
      have HQ : Hid (∀ n, Below w.heap.size w (wr.drewN n)) := fun n => below_drewN hbw n
      clear hcell hcell2
      go_wp2
      go_quiet (fail)
      go_wp2
      go_roundw
      case rel => exact ⟨k + 1, by omega, by go_num, HQ.out _⟩
      case measure => simp [intOf]; omega
    · go_wp2
      go_ret
      exact ⟨rfl, hbw⟩
set_option maxHeartbeats 1000000 in
theorem eq_event (v : Ev) (a1 a2 : Option Addr) (cap1 cap2 : Nat) (w : World) (h1 : NumsAt w a1 v.prev) (h2 : NumsAt w a2 v.prev) :
    Calls Tryz.prog 86 #[.agg #[.int .i64 v.id, .int .i64 v.room, .int .i64 v.author, .int .i64 v.kind, .int .i64 v.key, .int .i64 v.n, .string v.text, .slice a1 v.prev.length cap1, .int .i64 v.time], .agg #[.int .i64 v.id, .int .i64 v.room, .int .i64 v.author, .int .i64 v.kind, .int .i64 v.key, .int .i64 v.n, .string v.text, .slice a2 v.prev.length cap2, .int .i64 v.time]] w fun e w' => e = .returned (.bool true) ∧ Below w.heap.size w w' := by
  have H1 : Hid (∀ w', Below w.heap.size w w' → NumsAt w' a1 v.prev) := fun w' hb => h1.kept hb
  have H2 : Hid (∀ w', Below w.heap.size w w' → NumsAt w' a2 v.prev) := fun w' hb => h2.kept hb
  clear h1 h2
  go_enter Tryz.func86, Tryz.ntmps86
  go_wp2_with fail
  have hB : ∀ o1 o2, Below w.heap.size w ((w.alloc o1).alloc o2) := fun o1 o2 => ((Below.refl _ _).alloc (Nat.le_refl _) _).alloc (by simp) _
  refine (eq_nums v.prev a1 a2 cap1 cap2 _ (H1.out _ (hB _ _)) (H2.out _ (hB _ _))).mono ?_
  rintro e w1 ⟨rfl, hb1⟩
  obtain ⟨hc1, hf1⟩ := bcell hb1
  have HW : Hid (Below w.heap.size w w1) := (hB _ _).trans (hb1.mono (by simp; omega))
  clear hb1 hB
  go_wp2
  go_ret
  exact ⟨rfl, HW.out⟩

set_option maxHeartbeats 400000 in
theorem sz_event (v : Ev) (a : Option Addr) (cap : Nat) (left : Int) (w : World) (h0 : 0 ≤ left) (h1 : left ≤ 1048576) (ht : v.text.size ≤ maxLen) (hp : v.prev.length ≤ maxLen) :
    Calls Tryz.prog 60 #[.agg #[.int .i64 v.id, .int .i64 v.room, .int .i64 v.author, .int .i64 v.kind, .int .i64 v.key, .int .i64 v.n, .string v.text, .slice a v.prev.length cap, .int .i64 v.time], .int .i64 left] w fun e w' =>
      e = .returned (.int .i64 (if (v.text.size : Int) + v.prev.length ≤ left then left - v.text.size - v.prev.length else -1)) ∧ Below w.heap.size w w' := by
  unfold maxLen at ht hp
  by_cases c1 : (v.text.size : Int) ≤ left
  · by_cases c2 : (v.text.size : Int) + v.prev.length ≤ left
    · rw [if_pos c2]
      go_enter Tryz.func60, Tryz.ntmps60
      go_wp2
      go_ret
      exact ⟨rfl, (Below.refl _ _).alloc (Nat.le_refl _) _⟩
    · rw [if_neg c2]
      go_enter Tryz.func60, Tryz.ntmps60
      go_wp2
      go_ret
      exact ⟨rfl, (Below.refl _ _).alloc (Nat.le_refl _) _⟩
  · rw [if_neg (by omega)]
    go_enter Tryz.func60, Tryz.ntmps60
    go_wp2
    go_ret
    exact ⟨rfl, (Below.refl _ _).alloc (Nat.le_refl _) _⟩
end Go.Proofs.YteajcmkaoahbeaaGreatDoor
