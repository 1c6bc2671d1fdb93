/- An event as plain data, when it is right, and where its row of numbers lies. Numbers in memory: as cells, as a row of their own. What the laws do with an event: its size, a copy of it, and whether two are alike. An event that came in by value, opened: its numbers, its text, and its row of numbers. -/
import Derived.Test.YtdldblfopcbfeaaGreatDoorZBytes
import Derived.RegionTactic
import Derived.BigRegion
import Derived.BigQuiet
import Derived.Deep.QuietTactic
import Derived.Deep.RegionWith
import Derived.OpenShut
import Derived.WalkSmall
import Derived.ProofKit
import Derived.ShutString
import Derived.ChangeOld
import Derived.Below
namespace Go.Proofs.YtdldblfopcbfeaaGreatDoor
open Go.RowKit

/-- An event. -/
structure Ev where
  id : Int
  room : Int
  author : Int
  kind : Int
  key : Int
  n : Int
  text : ByteArray
  prev : List Int
  time : Int

/-- A row of numbers in memory (an empty one lies anywhere). -/
def NumsAt (w : World) (a : Option Addr) (zs : List Int) : Prop :=
  zs.length ≤ 1048576 ∧ (0 < zs.length → ∃ b off, a = some ⟨b, off, none⟩ ∧ b < w.heap.size ∧ ∀ j (h : j < zs.length), w.cell? ⟨b, off + j, none⟩ = some (.int .i64 zs[j]))
theorem NumsAt.kept {w w' : World} {a : Option Addr} {zs : List Int} (h : NumsAt w a zs) (hb : Below w.heap.size w w') : NumsAt w' a zs := by
  refine ⟨h.1, fun hl => ?_⟩
  obtain ⟨b, off, ha, hbb, hc⟩ := h.2 hl
  exact ⟨b, off, ha, Nat.lt_of_lt_of_le hbb hb.size, fun j hj => (hb.cell (p := ⟨b, off + j, none⟩) hbb).trans (hc j hj)⟩

theorem ret_bool {a b : Bool} (h : a = b) : Ending.returned (.bool a) = .returned (.bool b) := by rw [h]
def isB (n lo hi : Int) : Bool := decide (lo ≤ n ∧ n ≤ hi)
theorem isB_yes {n lo hi : Int} (h : isB n lo hi = true) : lo ≤ n ∧ n ≤ hi := by simpa [isB] using h
theorem isB_no {n lo hi : Int} (h : isB n lo hi = false) : ¬ (lo ≤ n ∧ n ≤ hi) := by simpa [isB] using h
/-- The numbers rise behind 'last', each an Id, none of them 'id'. -/
def prevOk (id : Int) : Int → List Int → Bool
  | _, [] => true
  | last, x :: r => decide (last < x) && isB x 1 1000000 && !(x == id) && prevOk id x r
def prevB (e : Ev) : Bool := decide (e.prev.length ≤ 4) && ((e.kind == 1) == (e.prev.length == 0)) && prevOk e.id 0 e.prev
def bodyB (e : Ev) : Bool :=
  if e.kind = 1 then e.key == 0 && e.n == 0 && e.text.size == 0
  else if e.kind = 2 then isB e.key 1 6 && isB e.n 1 4 && e.text.size == 0
  else if e.kind = 3 then isB e.key 1 6 && isB e.n 0 100 && e.text.size == 0
  else if e.kind = 4 then e.key == 0 && e.n == 0 && decide (e.text.size ≤ 30)
  else if e.kind = 5 then e.key == 0 && isB e.n 1 2 && e.text.size == 0
  else if e.kind = 6 then e.key == 0 && isB e.n 1 3 && e.text.size == 0
  else if e.kind = 7 then e.key == 0 && e.n == 0 && decide (1 ≤ e.text.size) && decide (e.text.size ≤ 30)
  else if e.kind = 8 then isB e.key 1 1000000 && e.n == 0 && e.text.size == 0
  else false
def headB (e : Ev) : Bool := isB e.id 1 1000000 && isB e.room 1 3 && isB e.author 1 6 && isB e.time 0 1000000
def rightB (e : Ev) : Bool := headB e && prevB e && bodyB e
theorem prevOk_drop {id last : Int} {zs : List Int} {k : Nat} (h : k < zs.length) : prevOk id last (zs.drop k) = (decide (last < zs[k]) && isB zs[k] 1 1000000 && !(zs[k] == id) && prevOk id zs[k] (zs.drop (k + 1))) := by
  rw [List.drop_eq_getElem_cons h]
  rfl

set_option maxHeartbeats 400000 in
theorem is_spec (n lo hi : Int) (w : World) : Calls Tryz.prog 31 #[.int .i64 n, .int .i64 lo, .int .i64 hi] w fun e w' => e = .returned (.bool (isB n lo hi)) ∧ w = w' := by
  by_cases h1 : lo ≤ n
  · by_cases h2 : n ≤ hi
    · have b1 : decide (lo ≤ n) = true := by simpa using h1
      have b2 : decide (n ≤ hi) = true := by simpa using h2
      have H : Hid (isB n lo hi = true) := by unfold Hid; simp [isB, h1, h2]
      go_enter Tryz.func31, Tryz.ntmps31
      go_wp2
      go_ret
      exact ⟨ret_bool H.out.symm, rfl⟩
    · have b1 : decide (lo ≤ n) = true := by simpa using h1
      have b2 : decide (n ≤ hi) = false := by simpa using h2
      have H : Hid (isB n lo hi = false) := by unfold Hid; simp [isB, h2]
      clear h2
      go_enter Tryz.func31, Tryz.ntmps31
      go_wp2
      go_ret
      exact ⟨ret_bool H.out.symm, rfl⟩
  · have b1 : decide (lo ≤ n) = false := by simpa using h1
    have H : Hid (isB n lo hi = false) := by unfold Hid; simp [isB, h1]
    clear h1
    go_enter Tryz.func31, Tryz.ntmps31
    go_wp2
    go_ret
    exact ⟨ret_bool H.out.symm, rfl⟩
set_option maxHeartbeats 400000 in
theorem between_impl (n lo hi : Int) (w : World) : Calls Tryz.prog 82 #[.int .i64 n, .int .i64 lo, .int .i64 hi] w fun e w' => e = .returned (.bool (isB n lo hi)) ∧ w = w' := by
  by_cases h1 : lo ≤ n
  · by_cases h2 : n ≤ hi
    · have b1 : decide (lo ≤ n) = true := by simpa using h1
      have b2 : decide (n ≤ hi) = true := by simpa using h2
      have H : Hid (isB n lo hi = true) := by unfold Hid; simp [isB, h1, h2]
      go_enter Tryz.func82, Tryz.ntmps82
      go_wp2
      go_ret
      exact ⟨ret_bool H.out.symm, rfl⟩
    · have b1 : decide (lo ≤ n) = true := by simpa using h1
      have b2 : decide (n ≤ hi) = false := by simpa using h2
      have H : Hid (isB n lo hi = false) := by unfold Hid; simp [isB, h2]
      clear h2
      go_enter Tryz.func82, Tryz.ntmps82
      go_wp2
      go_ret
      exact ⟨ret_bool H.out.symm, rfl⟩
  · have b1 : decide (lo ≤ n) = false := by simpa using h1
    have H : Hid (isB n lo hi = false) := by unfold Hid; simp [isB, h1]
    clear h1
    go_enter Tryz.func82, Tryz.ntmps82
    go_wp2
    go_ret
    exact ⟨ret_bool H.out.symm, rfl⟩
theorem id_spec (n : Int) (w : World) : Calls Tryz.prog 37 #[.int .i64 n] w fun e w' => e = .returned (.bool (isB n 1 1000000)) ∧ w = w' := by
  go_enter Tryz.func37, Tryz.ntmps37
  go_wp2_with (go_at_call 31; refine (is_spec _ _ _ _).mono ?_; rintro e w' ⟨rfl, rfl⟩)
  go_ret
  exact ⟨rfl, rfl⟩
theorem user_spec (n : Int) (w : World) : Calls Tryz.prog 38 #[.int .i64 n] w fun e w' => e = .returned (.bool (isB n 1 6)) ∧ w = w' := by
  go_enter Tryz.func38, Tryz.ntmps38
  go_wp2_with (go_at_call 31; refine (is_spec _ _ _ _).mono ?_; rintro e w' ⟨rfl, rfl⟩)
  go_ret
  exact ⟨rfl, rfl⟩
theorem time_spec (n : Int) (w : World) : Calls Tryz.prog 39 #[.int .i64 n] w fun e w' => e = .returned (.bool (isB n 0 1000000)) ∧ w = w' := by
  go_enter Tryz.func39, Tryz.ntmps39
  go_wp2_with (go_at_call 31; refine (is_spec _ _ _ _).mono ?_; rintro e w' ⟨rfl, rfl⟩)
  go_ret
  exact ⟨rfl, rfl⟩
theorem id_impl (n : Int) (w : World) : Calls Tryz.prog 66 #[.int .i64 n] w fun e w' => e = .returned (.bool (isB n 1 1000000)) ∧ w = w' := by
  go_enter Tryz.func66, Tryz.ntmps66
  go_wp2_with (go_at_call 82; refine (between_impl _ _ _ _).mono ?_; rintro e w' ⟨rfl, rfl⟩)
  go_ret
  exact ⟨rfl, rfl⟩
theorem user_impl (n : Int) (w : World) : Calls Tryz.prog 67 #[.int .i64 n] w fun e w' => e = .returned (.bool (isB n 1 6)) ∧ w = w' := by
  go_enter Tryz.func67, Tryz.ntmps67
  go_wp2_with (go_at_call 82; refine (between_impl _ _ _ _).mono ?_; rintro e w' ⟨rfl, rfl⟩)
  go_ret
  exact ⟨rfl, rfl⟩
theorem room_impl (n : Int) (w : World) : Calls Tryz.prog 58 #[.int .i64 n] w fun e w' => e = .returned (.bool (isB n 1 3)) ∧ w = w' := by
  go_enter Tryz.func58, Tryz.ntmps58
  go_wp2_with (go_at_call 82; refine (between_impl _ _ _ _).mono ?_; rintro e w' ⟨rfl, rfl⟩)
  go_ret
  exact ⟨rfl, rfl⟩
theorem time_impl (n : Int) (w : World) : Calls Tryz.prog 68 #[.int .i64 n] w fun e w' => e = .returned (.bool (isB n 0 1000000)) ∧ w = w' := by
  go_enter Tryz.func68, Tryz.ntmps68
  go_wp2_with (go_at_call 82; refine (between_impl _ _ _ _).mono ?_; rintro e w' ⟨rfl, rfl⟩)
  go_ret
  exact ⟨rfl, rfl⟩
theorem quiet_sym {P : Program} {f : FuncId} {args : Array Value} {w : World} {n : Nat} {v : Value} (h : Calls P f args (w.drewN n) fun e w' => e = .returned v ∧ w.drewN n = w') :
    Calls P f args (w.drewN n) fun e w'' => e = .returned v ∧ ∃ m, w'' = w.drewN m := h.mono fun _ _ ⟨he, hm⟩ => ⟨he, n, hm.symm⟩
end Go.Proofs.YtdldblfopcbfeaaGreatDoor
namespace Go.Proofs.YtdldblfopcbfeaaGreatDoor
open Go.RowKit

/-- Numbers as cells. -/
def nv (zs : List Int) : List Value := zs.map fun n => .int .i64 n
/-- A row of numbers in a block of its own, laid behind 'base'. -/
def NumsNew (base : Nat) (w : World) (a : Option Addr) (zs : List Int) : Prop :=
  ∃ b, a = some ⟨b, 0, none⟩ ∧ base ≤ b ∧ w.heap[b]? = some (.cells (nv zs).toArray 2 (0, 0))
theorem NumsNew.at {base : Nat} {w : World} {a : Option Addr} {zs : List Int} (h : NumsNew base w a zs) (hl : zs.length ≤ 1048576) : NumsAt w a zs := by
  obtain ⟨b, rfl, _, hb⟩ := h
  refine ⟨hl, fun _ => ⟨b, 0, rfl, (Array.getElem?_eq_some_iff.1 hb).1, fun j hj => ?_⟩⟩
  rw [cell_of_heap hb]
  simp [nv, hj]
theorem NumsNew.kept {base : Nat} {w w' : World} {a : Option Addr} {zs : List Int} (h : NumsNew base w a zs) (hb : Below w.heap.size w w') : NumsNew base w' a zs := by
  obtain ⟨b, ha, hg, hh⟩ := h
  exact ⟨b, ha, hg, (hb.block b (Array.getElem?_eq_some_iff.1 hh).1).trans hh⟩
theorem NumsNew.set {base : Nat} {w : World} {a : Option Addr} {zs : List Int} (h : NumsNew base w a zs) {p : Addr} (hp : p.block < base) (u : Value) : NumsNew base (w.setCell p u) a zs := by
  obtain ⟨b, ha, hg, hh⟩ := h
  exact ⟨b, ha, hg, (Below.heap_setCell _ _ _ _ (by omega)).trans hh⟩
theorem NumsNew.mono {base base' : Nat} {w : World} {a : Option Addr} {zs : List Int} (h : NumsNew base w a zs) (hb : base' ≤ base) : NumsNew base' w a zs := by
  obtain ⟨b, ha, hg, hh⟩ := h
  exact ⟨b, ha, by omega, hh⟩
theorem Tryz.info2 : (Tryz.prog.info? 2).map (fun i => (i.zero, i.size, i.bytes)) = some (some (.int .i64 0), 1, 8) := by kernel_rfl
theorem made_nums (n : Nat) : (madeCells (Value.int .i64 0).cells (n * 1)).toList = List.replicate n (.int .i64 0) := by
  simp [madeCells, Value.cells, Nat.mod_one, List.map_const']
/-- The copy when k numbers are laid in. -/
def copyRow (zs : List Int) (k : Nat) : List Value := nv (zs.take k) ++ List.replicate (zs.length - k) (.int .i64 0)
theorem copyRow_zero (zs : List Int) : copyRow zs 0 = List.replicate zs.length (.int .i64 0) := by simp [copyRow, nv]
theorem copyRow_end (zs : List Int) : copyRow zs zs.length = nv zs := by simp [copyRow]
theorem copyRow_len (zs : List Int) (k : Nat) (h : k ≤ zs.length) : (copyRow zs k).length = zs.length := by simp [copyRow, nv]; omega
theorem copyRow_next {zs : List Int} {k : Nat} (h : k < zs.length) : (copyRow zs k).set k (.int .i64 zs[k]) = copyRow zs (k + 1) := by
  have hl : (nv (zs.take k)).length = k := by simp [nv]; omega
  unfold copyRow
  rw [List.set_append_right _ _ (by omega), hl, Nat.sub_self, List.take_succ_eq_append_getElem h, show zs.length - k = zs.length - (k + 1) + 1 by omega, List.replicate_succ]
  simp only [nv, List.map_append, List.map_cons, List.map_nil, List.append_assoc, List.singleton_append, List.set_cons_zero]
theorem array9 {α : Type} {cs : Array α} (h : cs.size = 9) : ∃ c0 c1 c2 c3 c4 c5 c6 c7 c8, cs = #[c0, c1, c2, c3, c4, c5, c6, c7, c8] := by
  obtain ⟨l⟩ := cs
  match l, h with
  | [c0, c1, c2, c3, c4, c5, c6, c7, c8], _ => exact ⟨c0, c1, c2, c3, c4, c5, c6, c7, c8, rfl⟩
theorem numsAt_of {w : World} {base cap : Nat} {a : Option Addr} {zs : List Int} (h : w.ownsRow base 2 1 (.slice a zs.length cap) zs.length (nv zs)) (hl : zs.length ≤ 1048576) : NumsAt w a zs := by
  refine ⟨hl, fun hpos => ?_⟩
  rcases h.2 with ⟨h1, h2⟩ | ⟨g, c, cur, h1, _, hh, _⟩
  · omega
  · cases h1
    refine ⟨g, 0, rfl, (Array.getElem?_eq_some_iff.1 hh).1, fun j hj => ?_⟩
    have := h.cells (g := g) rfl j (.int .i64 zs[j]) (by simp [nv, hj])
    rwa [Addr.add_lit] at this
end Go.Proofs.YtdldblfopcbfeaaGreatDoor
namespace Go.Proofs.YtdldblfopcbfeaaGreatDoor
open Go.RowKit

set_option maxHeartbeats 1000000 in
theorem to_nums (zs : List Int) (a : Option Addr) (cap : Nat) (w : World) (hn : NumsAt w a zs) :
    Calls Tryz.prog 23 #[.slice a zs.length cap] w fun e w' => ∃ a', e = .returned (.slice a' zs.length zs.length) ∧ NumsNew w.heap.size w' a' zs ∧ Below w.heap.size w w' := by
  obtain ⟨i0, hi, hz0, hz1, hz2⟩ := info_parts Tryz.info2
  have hl := hn.1
  have HN : Hid (NumsAt w a zs) := hn
  clear hn
  go_enter Tryz.func23, Tryz.ntmps23
  go_wp2_with (at_make; refine wpList_make_full _ rfl _ _ 26 rfl w.heap.size 2 i0 (.int .i64 0) 1 Tryz.underlying26 hi hz0 hz1 .i64 .i64 _ _ zs.length rfl rfl (by omega) (by omega) (by rw [hz2]; omega) (by unfold maxLen; omega) (Nat.le_refl _) ?_; intro w0 hown0 hgrow0)
  rw [made_nums] at hown0
  have hg0 : Hid (w0.heap[w.heap.size]? = some (.cells (copyRow zs 0).toArray 2 (0, 0))) := by
    rcases hown0.2 with ⟨h, _⟩ | ⟨g, c, cur, h, _, h2, _, _, h3, h4⟩
    · cases h
    · cases h
      rw [copyRow_zero, ← h4, List.take_of_length_le (by simp; omega)]
      exact h2
  have hb0 : Below w.heap.size w w0 := (Below.refl _ _).grown hgrow0 (Nat.le_refl _) (fun k h => by cases h)
  clear hown0 hgrow0
  go_wp2
  go_loopw [4] (fun i wr => ∃ k : Nat, k ≤ zs.length ∧ i = .int .i64 k ∧ Hid (wr.heap[w.heap.size]? = some (.cells (copyRow zs k).toArray 2 (0, 0))) ∧ Below w.heap.size w wr) (fun i _ => zs.length - (intOf i).toNat)
  case atStart => exact ⟨0, Nat.zero_le _, rfl, hg0, hb0⟩
  case round =>
    obtain ⟨k, hk, rfl, HG, hbw⟩ := hrel
    by_cases hlt : k < zs.length
    · obtain ⟨b, off, rfl, hbb, hcell⟩ := HN.out.2 (by omega)
      have hck : wr.cell? ⟨b, off + k, none⟩ = some (.int .i64 zs[k]) := (hbw.cell (p := ⟨b, off + k, none⟩) hbb).trans (hcell k hlt)
      have hc2 : ∃ u, wr.cell? ⟨w.heap.size, k, none⟩ = some u := ⟨(copyRow zs k)[k]'(by rw [copyRow_len _ _ hk]; exact hlt), by rw [cell_of_heap HG.out]; simp⟩
      obtain ⟨u, hu⟩ := hc2
      have hfz : wr.frozen? ⟨w.heap.size, k, none⟩ = false := frozen_of_heap HG.out
      clear hcell
      go_wp2
      go_roundw
      case rel =>
        refine ⟨k + 1, by omega, by go_num, ?_, hbw.setCell (Nat.le_refl _) _⟩
        unfold Hid
        rw [heap_set HG.out]
        simp [copyRow_next hlt]
      case measure => simp [intOf]; omega
    · have hE : k = zs.length := by omega
      have hg := HG.out
      rw [hE, copyRow_end] at hg
      have HF : Hid (wr.heap[w.heap.size]? = some (.cells (nv zs).toArray 2 (0, 0))) := hg
      clear hE hg
      go_wp2
      go_ret
      exact ⟨_, rfl, ⟨_, rfl, Nat.le_refl _, HF.out⟩, hbw⟩

set_option maxHeartbeats 1000000 in
theorem to_event (v : Ev) (a : Option Addr) (cap : Nat) (w : World) (hn : NumsAt w a v.prev) :
    Calls Tryz.prog 10 #[.agg #[.int .i64 v.id, .int .i64 v.room, .int .i64 v.author, .int .i64 v.kind, .int .i64 v.key, .int .i64 v.n, .string v.text, .slice a v.prev.length cap, .int .i64 v.time]] w fun e w' =>
      ∃ a', e = .returned (.agg #[.int .i64 v.id, .int .i64 v.room, .int .i64 v.author, .int .i64 v.kind, .int .i64 v.key, .int .i64 v.n, .string v.text, .slice a' v.prev.length v.prev.length, .int .i64 v.time]) ∧ NumsNew w.heap.size w' a' v.prev ∧ Below w.heap.size w w' := by
  have HN : Hid (∀ w', Below w.heap.size w w' → NumsAt w' a v.prev) := fun w' hb => hn.kept hb
  clear hn
  go_enter Tryz.func10, Tryz.ntmps10
  go_wp2_with fail
  refine (to_nums v.prev a cap _ (HN.out _ ?_)).mono ?_
  · exact (((Below.refl _ _).alloc (Nat.le_refl _) _).alloc (by simp) _).alloc (by simp; omega) _
  rintro e w1 ⟨a', rfl, hn1, hb1⟩
  obtain ⟨hc1, hf1⟩ := bcell hb1
  have hz1 : w.heap.size + 1 + 1 < w1.heap.size := by have := hb1.size; simp at this; omega
  have HW : Hid (NumsNew (w.heap.size + 1 + 1 + 1) w1 a' v.prev ∧ Below w.heap.size w w1) := ⟨by simpa using hn1, ((((Below.refl _ _).alloc (Nat.le_refl _) _).alloc (by simp) _).alloc (by simp; omega) _).trans (hb1.mono (by simp; omega))⟩
  clear hn1 hb1
  go_wp2
  refine bodyPost_ret (v := .agg #[.int .i64 v.id, .int .i64 v.room, .int .i64 v.author, .int .i64 v.kind, .int .i64 v.key, .int .i64 v.n, .string v.text, .slice a' v.prev.length v.prev.length, .int .i64 v.time]) (by simp [results, Tryz.results10, go_sem, hc1]) rfl ⟨a', rfl, ?_, ?_⟩
  · refine NumsNew.mono (base := w.heap.size + 1 + 1 + 1) ?_ (by omega)
    repeat refine NumsNew.set ?_ (by simp) _
    exact HW.out.1
  · repeat refine Below.setCell ?_ (by simp; try omega) _
    exact HW.out.2

set_option maxHeartbeats 1000000 in
theorem eq_nums (zs : List Int) (a1 a2 : Option Addr) (cap1 cap2 : Nat) (w : World) (h1 : NumsAt w a1 zs) (h2 : NumsAt w a2 zs) :
    Calls Tryz.prog 30 #[.slice a1 zs.length cap1, .slice a2 zs.length cap2] w fun e w' => e = .returned (.bool true) ∧ Below w.heap.size w w' := by
  have hl := h1.1
  have H1 : Hid (NumsAt w a1 zs) := h1
  have H2 : Hid (NumsAt w a2 zs) := h2
  clear h1 h2
  go_enter Tryz.func30, Tryz.ntmps30
  go_wp2
  go_loopw [5] (fun i wr => ∃ k : Nat, k ≤ zs.length ∧ i = .int .i64 k ∧ Below w.heap.size w wr) (fun i _ => zs.length - (intOf i).toNat)
  case atStart => exact ⟨0, Nat.zero_le _, rfl, Below.refl _ _⟩
  case round =>
    obtain ⟨k, hk, rfl, hbw⟩ := hrel
    by_cases hlt : k < zs.length
    · obtain ⟨b, off, rfl, hbb, hcell⟩ := H1.out.2 (by omega)
      obtain ⟨b2, off2, rfl, hbb2, hcell2⟩ := H2.out.2 (by omega)
      have hck : wr.cell? ⟨b, off + k, none⟩ = some (.int .i64 zs[k]) := (hbw.cell (p := ⟨b, off + k, none⟩) hbb).trans (hcell k hlt)
      have hck2 : wr.cell? ⟨b2, off2 + k, none⟩ = some (.int .i64 zs[k]) := (hbw.cell (p := ⟨b2, off2 + k, none⟩) hbb2).trans (hcell2 k hlt)
      have HQ : Hid (∀ n, Below w.heap.size w (wr.drewN n)) := fun n => below_drewN hbw n
      clear hcell hcell2
      go_wp2
      go_quiet (fail)
      go_wp2
      go_roundw
      case rel => exact ⟨k + 1, by omega, by go_num, HQ.out _⟩
      case measure => simp [intOf]; omega
    · go_wp2
      go_ret
      exact ⟨rfl, hbw⟩
set_option maxHeartbeats 1000000 in
theorem eq_event (v : Ev) (a1 a2 : Option Addr) (cap1 cap2 : Nat) (w : World) (h1 : NumsAt w a1 v.prev) (h2 : NumsAt w a2 v.prev) :
    Calls Tryz.prog 14 #[.agg #[.int .i64 v.id, .int .i64 v.room, .int .i64 v.author, .int .i64 v.kind, .int .i64 v.key, .int .i64 v.n, .string v.text, .slice a1 v.prev.length cap1, .int .i64 v.time], .agg #[.int .i64 v.id, .int .i64 v.room, .int .i64 v.author, .int .i64 v.kind, .int .i64 v.key, .int .i64 v.n, .string v.text, .slice a2 v.prev.length cap2, .int .i64 v.time]] w fun e w' => e = .returned (.bool true) ∧ Below w.heap.size w w' := by
  have H1 : Hid (∀ w', Below w.heap.size w w' → NumsAt w' a1 v.prev) := fun w' hb => h1.kept hb
  have H2 : Hid (∀ w', Below w.heap.size w w' → NumsAt w' a2 v.prev) := fun w' hb => h2.kept hb
  clear h1 h2
  go_enter Tryz.func14, Tryz.ntmps14
  go_wp2_with fail
  have hB : ∀ o1 o2, Below w.heap.size w ((w.alloc o1).alloc o2) := fun o1 o2 => ((Below.refl _ _).alloc (Nat.le_refl _) _).alloc (by simp) _
  refine (eq_nums v.prev a1 a2 cap1 cap2 _ (H1.out _ (hB _ _)) (H2.out _ (hB _ _))).mono ?_
  rintro e w1 ⟨rfl, hb1⟩
  obtain ⟨hc1, hf1⟩ := bcell hb1
  have HW : Hid (Below w.heap.size w w1) := (hB _ _).trans (hb1.mono (by simp; omega))
  clear hb1 hB
  go_wp2
  go_ret
  exact ⟨rfl, HW.out⟩

set_option maxHeartbeats 400000 in
theorem sz_event (v : Ev) (a : Option Addr) (cap : Nat) (left : Int) (w : World) (h0 : 0 ≤ left) (h1 : left ≤ 1048576) (ht : v.text.size ≤ maxLen) (hp : v.prev.length ≤ maxLen) :
    Calls Tryz.prog 6 #[.agg #[.int .i64 v.id, .int .i64 v.room, .int .i64 v.author, .int .i64 v.kind, .int .i64 v.key, .int .i64 v.n, .string v.text, .slice a v.prev.length cap, .int .i64 v.time], .int .i64 left] w fun e w' =>
      e = .returned (.int .i64 (if (v.text.size : Int) + v.prev.length ≤ left then left - v.text.size - v.prev.length else -1)) ∧ Below w.heap.size w w' := by
  unfold maxLen at ht hp
  by_cases c1 : (v.text.size : Int) ≤ left
  · by_cases c2 : (v.text.size : Int) + v.prev.length ≤ left
    · rw [if_pos c2]
      go_enter Tryz.func6, Tryz.ntmps6
      go_wp2
      go_ret
      exact ⟨rfl, (Below.refl _ _).alloc (Nat.le_refl _) _⟩
    · rw [if_neg c2]
      go_enter Tryz.func6, Tryz.ntmps6
      go_wp2
      go_ret
      exact ⟨rfl, (Below.refl _ _).alloc (Nat.le_refl _) _⟩
  · rw [if_neg (by omega)]
    go_enter Tryz.func6, Tryz.ntmps6
    go_wp2
    go_ret
    exact ⟨rfl, (Below.refl _ _).alloc (Nat.le_refl _) _⟩
end Go.Proofs.YtdldblfopcbfeaaGreatDoor
namespace Go.Proofs.YtdldblfopcbfeaaGreatDoor
open Go.ChangeShapes Go.WideShapes Go.ChangeAt Go.RowKit

theorem some_of {α : Type} {x : Option α} {xs : List α} {i : Nat} (h : x = xs[i]?) (hi : i < xs.length) : ∃ y, x = some y := ⟨xs[i], by rw [h, List.getElem?_eq_getElem hi]⟩
/-- All numbers fit. -/
def EvIn (e : Ev) : Prop := (∀ z ∈ [e.id, e.room, e.author, e.kind, e.key, e.n, e.time], -9223372036854775808 ≤ z ∧ z ≤ 9223372036854775807) ∧ ∀ z ∈ e.prev, -9223372036854775808 ≤ z ∧ z ≤ 9223372036854775807
theorem i64_of {n : Int} (h : (Lit.int .i64 n).wf = true) : -9223372036854775808 ≤ n ∧ n ≤ 9223372036854775807 := bounds_i64 h
theorem Tryz.cellsEv : Tryz.prog.cellsOf 28 = 9 := by kernel_rfl
theorem Tryz.cellsInt : Tryz.prog.cellsOf 2 = 1 := by kernel_rfl
theorem Tryz.cellsStr : Tryz.prog.cellsOf 9 = 1 := by kernel_rfl
theorem Tryz.cellsNums : Tryz.prog.cellsOf 26 = 1 := by kernel_rfl
set_option maxHeartbeats 400000 in
set_option maxRecDepth 100000 in
theorem open_event {H : Type} {enc : TypeId × Value → H} {W : World} {r : Reach} {b0 : Nat} {v : Value} {d : DataW H} {p : List MemPlace} (hv : Value.okWide Tryz.prog W r b0 28 v) (h : DataW.Trod enc Tryz.prog W 0 (fun _ => true) true 28 v d p) :
    ∃ (e : Ev) (a : Option Addr) (cap : Nat), v = .agg #[.int .i64 e.id, .int .i64 e.room, .int .i64 e.author, .int .i64 e.kind, .int .i64 e.key, .int .i64 e.n, .string e.text, .slice a e.prev.length cap, .int .i64 e.time] ∧ e.text.size ≤ maxLen ∧ e.prev.length ≤ maxLen ∧ EvIn e ∧ (e.prev.length ≤ 1048576 → NumsAt W a e.prev) := by
  obtain ⟨cs, rfl, hsz⟩ := okWide_struct Tryz.underlying28 hv
  rw [Tryz.cellsEv] at hsz
  obtain ⟨c0, c1, c2, c3, c4, c5, c6, c7, c8, rfl⟩ := array9 hsz
  obtain ⟨fuel, hf⟩ := h
  obtain ⟨xs, n, _, _, _, hlen, hf⟩ := DataW.trod_struct Tryz.underlying28 hf
  have hlen9 : xs.length = 9 := hlen
  clear hv hsz hlen
  have g0 : DataW.trod enc Tryz.prog W 0 (fun _ => true) true n 2 [c0] = xs[0]? := by have := hf 0 _ rfl; simpa [Value.cells, Tryz.cellsInt] using this
  have g1 : DataW.trod enc Tryz.prog W 0 (fun _ => true) true n 2 [c1] = xs[1]? := by have := hf 1 _ rfl; simpa [Value.cells, Tryz.cellsInt] using this
  have g2 : DataW.trod enc Tryz.prog W 0 (fun _ => true) true n 2 [c2] = xs[2]? := by have := hf 2 _ rfl; simpa [Value.cells, Tryz.cellsInt] using this
  have g3 : DataW.trod enc Tryz.prog W 0 (fun _ => true) true n 2 [c3] = xs[3]? := by have := hf 3 _ rfl; simpa [Value.cells, Tryz.cellsInt] using this
  have g4 : DataW.trod enc Tryz.prog W 0 (fun _ => true) true n 2 [c4] = xs[4]? := by have := hf 4 _ rfl; simpa [Value.cells, Tryz.cellsInt] using this
  have g5 : DataW.trod enc Tryz.prog W 0 (fun _ => true) true n 2 [c5] = xs[5]? := by have := hf 5 _ rfl; simpa [Value.cells, Tryz.cellsInt] using this
  have g6 : DataW.trod enc Tryz.prog W 0 (fun _ => true) true n 9 [c6] = xs[6]? := by have := hf 6 _ rfl; simpa [Value.cells, Tryz.cellsStr] using this
  have g7 : DataW.trod enc Tryz.prog W 0 (fun _ => true) true n 26 [c7] = xs[7]? := by have := hf 7 _ rfl; simpa [Value.cells, Tryz.cellsNums] using this
  have g8 : DataW.trod enc Tryz.prog W 0 (fun _ => true) true n 2 [c8] = xs[8]? := by have := hf 8 _ rfl; simpa [Value.cells, Tryz.cellsInt] using this
  obtain ⟨y0, k0⟩ := some_of g0 (by omega)
  obtain ⟨y1, k1⟩ := some_of g1 (by omega)
  obtain ⟨y2, k2⟩ := some_of g2 (by omega)
  obtain ⟨y3, k3⟩ := some_of g3 (by omega)
  obtain ⟨y4, k4⟩ := some_of g4 (by omega)
  obtain ⟨y5, k5⟩ := some_of g5 (by omega)
  obtain ⟨y6, k6⟩ := some_of g6 (by omega)
  obtain ⟨y7, k7⟩ := some_of g7 (by omega)
  obtain ⟨y8, k8⟩ := some_of g8 (by omega)
  obtain ⟨n0, e0, _, w0⟩ := DataW.trod_int Tryz.underlying2 k0
  obtain ⟨n1, e1, _, w1⟩ := DataW.trod_int Tryz.underlying2 k1
  obtain ⟨n2, e2, _, w2⟩ := DataW.trod_int Tryz.underlying2 k2
  obtain ⟨n3, e3, _, w3⟩ := DataW.trod_int Tryz.underlying2 k3
  obtain ⟨n4, e4, _, w4⟩ := DataW.trod_int Tryz.underlying2 k4
  obtain ⟨n5, e5, _, w5⟩ := DataW.trod_int Tryz.underlying2 k5
  obtain ⟨n8, e8, _, w8⟩ := DataW.trod_int Tryz.underlying2 k8
  obtain ⟨t6, e6, _, w6⟩ := DataW.trod_string Tryz.underlying9 k6
  simp only [List.cons.injEq, and_true] at e0 e1 e2 e3 e4 e5 e8 e6
  subst e0 e1 e2 e3 e4 e5 e8 e6
  have hb : ∀ z ∈ [n0, n1, n2, n3, n4, n5, n8], -9223372036854775808 ≤ z ∧ z ≤ 9223372036854775807 := by
    intro z hz
    simp only [List.mem_cons, List.not_mem_nil, or_false] at hz
    rcases hz with rfl | rfl | rfl | rfl | rfl | rfl | rfl
    · exact i64_of w0
    · exact i64_of w1
    · exact i64_of w2
    · exact i64_of w3
    · exact i64_of w4
    · exact i64_of w5
    · exact i64_of w8
  rcases open_ints Tryz.underlying26 Tryz.underlying2 (by kernel_rfl) k7 with ⟨hcs, _⟩ | ⟨x, l, c, zs, hcs, _, hl, hm, hz, _, hcell, hwz⟩
  · simp only [List.cons.injEq, and_true] at hcs
    subst hcs
    exact ⟨⟨n0, n1, n2, n3, n4, n5, t6, [], n8⟩, none, 0, rfl, w6, by simp [maxLen], ⟨hb, by simp⟩, fun _ => ⟨by simp, fun h => by simp at h⟩⟩
  · simp only [List.cons.injEq, and_true] at hcs
    subst hcs
    have hz' : zs.length = c := by simpa using hz
    have hlen : (zs.take l).length = l := by rw [List.length_take]; omega
    refine ⟨⟨n0, n1, n2, n3, n4, n5, t6, zs.take l, n8⟩, some x, c, ?_, w6, ?_, ⟨hb, fun z hz => ?_⟩, fun hle => ⟨hle, fun hpos => ?_⟩⟩
    · simp only [hlen]
    · show (zs.take l).length ≤ maxLen
      omega
    · exact i64_of (hwz z (List.mem_of_mem_take hz))
    · simp only [hlen] at hpos
      obtain ⟨b, off, rfl, hb⟩ := ints_at hcell (by omega)
      have hbs : b < W.heap.size := by
        have := hcell 0 (by omega)
        exact World.block_lt_of_cell? _ _ (by simpa using this)
      refine ⟨b, off, rfl, hbs, fun j hj => ?_⟩
      have hj2 : j < l := by simpa only [hlen] using hj
      have h1 := hcell j (by omega)
      rw [Addr.add_lit] at h1
      rw [h1]
      simp [show j < zs.length by omega]
end Go.Proofs.YtdldblfopcbfeaaGreatDoor
