/- A row of events in memory; where an event of an Id stands in a row. -/
import Derived.Test.YtjdkenopfnepaaaGreatEvNums
import Derived.Test.YtjdkenopfnepaaaGreatGrPlain
namespace Go.Proofs.YtjdkenopfnepaaaGreat
open Go.RowKit

/-- An event of a row, with the place of its numbers. -/
structure Em where
  v : Ev
  p : Option Addr
  c : Nat
def emCells (m : Em) : List Value := [.int .i64 m.v.id, .int .i64 m.v.room, .int .i64 m.v.author, .int .i64 m.v.kind, .int .i64 m.v.key, .int .i64 m.v.n, .string m.v.text, .slice m.p m.v.prev.length m.c, .int .i64 m.v.time]
/-- A row of events in memory (an empty one lies anywhere). -/
structure EvsAt (w : World) (a : Option Addr) (es : List Em) : Prop where
  len : es.length ≤ 1048576
  row : 0 < es.length → ∃ b off, a = some ⟨b, off, none⟩ ∧ b < w.heap.size ∧ ∀ i (h : i < es.length) j, j < 9 → w.cell? ⟨b, off + (i * 9 + j), none⟩ = (emCells es[i])[j]?
  nums : ∀ m ∈ es, NumsAt w m.p m.v.prev
theorem EvsAt.kept {w w' : World} {a : Option Addr} {es : List Em} (h : EvsAt w a es) (hb : Below w.heap.size w w') : EvsAt w' a es := by
  refine ⟨h.len, fun hl => ?_, fun m hm => (h.nums m hm).kept hb⟩
  obtain ⟨b, off, ha, hbb, hc⟩ := h.row hl
  exact ⟨b, off, ha, Nat.lt_of_lt_of_le hbb hb.size, fun i hi j hj => (hb.cell (p := ⟨b, off + (i * 9 + j), none⟩) hbb).trans (hc i hi j hj)⟩
def idsOf (es : List Em) : List Int := es.map (·.v.id)
set_option maxHeartbeats 1000000 in
theorem at_spec (es : List Em) (id : Int) (a : Option Addr) (cap : Nat) (w : World) (h : EvsAt w a es) :
    Calls Tryz.prog 77 #[.slice a es.length cap, .int .i64 id] w fun e w' => e = .returned (.int .i64 (atI (idsOf es) id)) ∧ w = w' := by
  have hl := h.len
  have H : Hid (EvsAt w a es) := h
  clear h
  go_enter Tryz.func77, Tryz.ntmps77
  go_wp2
  go_loop [5] (fun i => ∃ k : Nat, k ≤ es.length ∧ i = .int .i64 k ∧ Hid (∀ j (h : j < (idsOf es).length), j < k → (idsOf es)[j] ≠ id)) (fun i => es.length - (intOf i).toNat)
  case atStart => exact ⟨0, Nat.zero_le _, rfl, fun _ _ h => absurd h (Nat.not_lt_zero _)⟩
  case round =>
    obtain ⟨k, hk, rfl, HN⟩ := hrel
    by_cases hlt : k < es.length
    · obtain ⟨b, off, rfl, hbb, hcell⟩ := H.out.row (by omega)
      have hc0 : w.cell? ⟨b, off + k * 9, none⟩ = some (.int .i64 es[k].v.id) := hcell k hlt 0 (by omega)
      clear hcell
      cases c : es[k].v.id == id
      · have HS : Hid (∀ j (h : j < (idsOf es).length), j < k + 1 → (idsOf es)[j] ≠ id) := fun j h hj => by
          by_cases e : j = k
          · subst e
            simpa [idsOf] using c
          · exact HN.out j h (by omega)
        go_wp2
        exact ⟨⟨k + 1, by omega, by go_num, HS⟩, by simp [intOf]; omega⟩
      · have HS : Hid (atI (idsOf es) id = k) := atI_found (by simpa [idsOf] using hlt) (by simpa [idsOf] using c) HN.out
        go_wp2
        go_ret
        exact ⟨ret_int HS.out.symm, rfl⟩
    · have HS : Hid (atI (idsOf es) id = -1) := atI_none fun j h => HN.out j h (by have : (idsOf es).length = es.length := by simp [idsOf]
                                                                                   omega)
      go_wp2
      go_ret
      exact ⟨ret_int HS.out.symm, rfl⟩

/-- Are all these Ids in a row? -/
def allIn (ids : List Int) (ps : List Int) : Bool := ps.all fun p => decide (0 ≤ atI ids p)
theorem allIn_no {ids ps : List Int} {k : Nat} (hk : k < ps.length) (h : atI ids ps[k] < 0) : allIn ids ps = false := by
  rw [allIn, List.all_eq_false]
  exact ⟨ps[k], List.getElem_mem hk, by simp; omega⟩
theorem allIn_yes {ids ps : List Int} (h : ∀ j (h : j < ps.length), 0 ≤ atI ids ps[j]) : allIn ids ps = true := by
  rw [allIn, List.all_eq_true]
  intro p hp
  obtain ⟨j, hj, rfl⟩ := List.getElem_of_mem hp
  have := h j hj
  simp; omega
set_option maxHeartbeats 1000000 in
set_option maxRecDepth 100000 in
theorem all_spec (es : List Em) (m : Em) (a : Option Addr) (cap : Nat) (w : World) (h : EvsAt w a es) (hm : NumsAt w m.p m.v.prev) :
    Calls Tryz.prog 87 #[.slice a es.length cap, .agg (emCells m).toArray] w fun e w' => e = .returned (.bool (allIn (idsOf es) m.v.prev)) ∧ Below w.heap.size w w' := by
  have hl := h.len
  have hlp := hm.1
  unfold emCells
  have H : Hid (∀ o, EvsAt (w.alloc o) a es) := fun o => h.kept ((Below.refl _ _).alloc (Nat.le_refl _) _)
  have HM : Hid (NumsAt w m.p m.v.prev) := hm
  have HB : Hid (∀ o, Below w.heap.size w (w.alloc o)) := fun o => (Below.refl _ _).alloc (Nat.le_refl _) _
  clear h hm
  go_enter Tryz.func87, Tryz.ntmps87
  go_wp2
  go_loopw [5] (fun i wr => ∃ k : Nat, k ≤ m.v.prev.length ∧ i = .int .i64 k ∧ Hid (∀ j (h : j < m.v.prev.length), j < k → 0 ≤ atI (idsOf es) m.v.prev[j]) ∧ wr = w.alloc (.cells (emCells m).toArray 43)) (fun i _ => m.v.prev.length - (intOf i).toNat)
  case atStart => exact ⟨0, Nat.zero_le _, rfl, fun _ _ h => absurd h (Nat.not_lt_zero _), rfl⟩
  case round =>
    obtain ⟨k, hk, rfl, HN, rfl⟩ := hrel
    unfold emCells
    by_cases hlt : k < m.v.prev.length
    · obtain ⟨b, off, hp, hbb, hcell⟩ := HM.out.2 (by omega)
      have hck := hcell k hlt
      rw [hp]
      clear hcell hp
      go_wp2_with fail
      refine (at_spec es m.v.prev[k] a cap _ (H.out _)).mono ?_
      rintro e w1 ⟨rfl, rfl⟩
      cases c : decide (atI (idsOf es) m.v.prev[k] < 0)
      · have HS : Hid (∀ j (h : j < m.v.prev.length), j < k + 1 → 0 ≤ atI (idsOf es) m.v.prev[j]) := fun j h hj => by
          by_cases e : j = k
          · subst e
            simpa using c
          · exact HN.out j h (by omega)
        go_wp2
        go_roundw
        case rel => exact ⟨k + 1, by omega, by go_num, HS, trivial⟩
        case measure => simp [intOf]; omega
      · have HS : Hid (allIn (idsOf es) m.v.prev = false) := allIn_no hlt (by simpa using c)
        go_wp2
        go_ret
        exact ⟨ret_bool HS.out.symm, HB.out _⟩
    · have HS : Hid (allIn (idsOf es) m.v.prev = true) := allIn_yes fun j h => HN.out j h (by omega)
      go_wp2
      go_ret
      exact ⟨ret_bool HS.out.symm, HB.out _⟩
end Go.Proofs.YtjdkenopfnepaaaGreat
