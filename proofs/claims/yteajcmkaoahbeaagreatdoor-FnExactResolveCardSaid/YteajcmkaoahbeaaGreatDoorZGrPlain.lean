/- Plain facts on bytes and rows that the call itself made; a law for 'copy' out of a text. An event as plain data, when it is right, and where its row of numbers lies. Depths as plain functions: by rounds, and that a table filled by rounds in place comes to them. The methods that container/heap asks of a row of turns: which function each is. -/
import Derived.Test.YteajcmkaoahbeaaGreatDoorRows
import Derived.WalkKit
import Derived.WalkSpells
import Derived.WalkLawsBesides
import Derived.Laws.IdiomStrings
import Derived.Laws.CopyOwn
import Derived.RegionTactic
import Derived.BigRegion
import Derived.BigQuiet
import Derived.Deep.QuietTactic
import Derived.Deep.RegionWith
import Derived.OpenShut
import Derived.Deep.MidRow
namespace Go.Proofs.YteajcmkaoahbeaaGreatDoor
open Go.RowKit

/-- Bytes as cells. -/
def bv (l : List UInt8) : List Value := l.map fun b => .int .u8 (b.toNat : Int)
theorem bv_len (l : List UInt8) : (bv l).length = l.length := by simp [bv]
theorem bv_snoc (l : List UInt8) (b : UInt8) : bv (l ++ [b]) = bv l ++ [.int .u8 (b.toNat : Int)] := by simp [bv]
theorem bv_append (l m : List UInt8) : bv (l ++ m) = bv l ++ bv m := by simp [bv]
theorem bv_one (l : List UInt8) : ∀ v ∈ bv l, v.oneCell' = true := by
  intro v hv
  obtain ⟨b, _, rfl⟩ := List.mem_map.1 hv
  rfl
theorem ret_int {k : IntKind} {a b : Int} (h : a = b) : Ending.returned (.int k a) = .returned (.int k b) := by rw [h]
theorem ret_str {a b : List UInt8} (h : a = b) : Ending.returned (.string ⟨a.toArray⟩) = .returned (.string ⟨b.toArray⟩) := by rw [h]
theorem ret_bytes {a b : ByteArray} (h : a.data.toList = b.data.toList) : Ending.returned (.string a) = .returned (.string b) := by
  cases a; cases b; simp_all
theorem bcell {W w1 : World} (hb : Below W.heap.size W w1) : (∀ b o, b < W.heap.size → w1.cell? ⟨b, o, none⟩ = W.cell? ⟨b, o, none⟩) ∧ (∀ b o, b < W.heap.size → w1.frozen? ⟨b, o, none⟩ = W.frozen? ⟨b, o, none⟩) :=
  ⟨fun b o h => hb.cell (p := ⟨b, o, none⟩) h, fun b o h => hb.frozen (p := ⟨b, o, none⟩) h⟩
theorem own_form {w : World} {base size n : Nat} {e : TypeId} {v : Value} {xs : List Value} (h : w.ownsRow base e size v n xs) (hn : 0 < n) : ∃ g cap, v = .slice (some ⟨g, 0, none⟩) n cap := by
  rcases h.2 with ⟨_, h0⟩ | ⟨g, cap, _, hv, _⟩
  · omega
  · exact ⟨g, cap, hv⟩
/-- 'string(b)' of a row of one's own. -/
theorem own_string {P : Program} {w : World} {src dst e : TypeId} {base g cap n : Nat} (l : List UInt8) (hs : P.underlying src = some (.slice e)) (he : P.underlying e = some (.int .u8)) (hd : P.underlying dst = some .string)
    (hn : l.length = n) (hown : w.ownsRow base e 1 (.slice (some ⟨g, 0, none⟩) n cap) n (bv l)) :
    (convert src dst (.slice (some ⟨g, 0, none⟩) n cap)).run P w = .ok (.string ⟨l.toArray⟩) w := by
  subst hn
  refine run_convert_bytes_back w src dst e _ cap l hs he hd fun j hj => ?_
  exact hown.cells (g := g) rfl j _ (by simp [bv, hj])
/-- .. of a row whose cells are known. -/
theorem row_string {P : Program} {w : World} {src dst e : TypeId} {g n cap : Nat} {ty : TypeId} {fr : Nat × Nat} (l : List UInt8) (hs : P.underlying src = some (.slice e)) (he : P.underlying e = some (.int .u8)) (hd : P.underlying dst = some .string)
    (hn : l.length = n) (hg : w.heap[g]? = some (.cells (bv l).toArray ty fr)) :
    (convert src dst (.slice (some ⟨g, 0, none⟩) n cap)).run P w = .ok (.string ⟨l.toArray⟩) w := by
  subst hn
  refine run_convert_bytes_back w src dst e _ cap l hs he hd fun j hj => ?_
  rw [Addr.add_lit]
  simp [World.cell?, hg, bv, hj]

/-- 'copy(dst, t)' out of a text t that fits, dst lying in a row that is known whole. -/
theorem run_copy_str {P : Program} (w : World) (dT sT ty elem : TypeId) (g off dLen dCap : Nat) (s : ByteArray) (cur : List Value) (t : TypeId)
    (hu : P.underlying dT = some (.slice elem)) (hs : (P.info? elem).map (·.size) = some 1) (hg : w.heap[g]? = some (.cells cur.toArray t (0, 0))) (hle : s.size ≤ dLen) (hfit : off + s.size ≤ cur.length) :
    (Builtin.copy_ #[dT, sT] ty #[.slice (some ⟨g, off, none⟩) dLen dCap, .string s]).run P w =
      .ok (goInt s.size) (w.setRow g (splice cur off (bv s.data.toList)).toArray) := by
  have hsz : s.data.toList.length = s.size := rfl
  have hlen : (bv s.data.toList).length = s.size := by rw [bv_len, hsz]
  have hst := run_storeCells_at P g off t (bv s.data.toList) 0 cur.toArray w hg (by rw [hlen]; simpa using hfit) (bv_one _)
  have hmin : Nat.min s.size dLen = s.size := Nat.min_eq_left hle
  have htk : List.take s.size (List.map (fun b : UInt8 => Value.int IntKind.u8 (b.toNat : Int)) s.data.toList) = bv s.data.toList := by
    rw [List.take_of_length_le (by rw [List.length_map, hsz]; exact Nat.le_refl _)]
    rfl
  rw [hlen] at hst
  simp only [Nat.add_zero] at hst
  cases hq : P.info? elem with
  | none => simp [hq] at hs
  | some i =>
    simp [Builtin.copy_, run_underlying hu, Builtin.lenOf, Builtin.firstCells, sizeOf, typeInfo, hq, hmin]
    rw [htk, hst]
    simp [Result.andThen, splice, hlen]

theorem run_copy_str0 {P : Program} (w : World) (dT sT ty elem : TypeId) (d : Option Addr) (dLen dCap : Nat) (s : ByteArray)
    (hu : P.underlying dT = some (.slice elem)) (hs : (P.info? elem).map (·.size) = some 1) (h0 : s.size = 0) :
    (Builtin.copy_ #[dT, sT] ty #[.slice d dLen dCap, .string s]).run P w = .ok (goInt 0) w := by
  cases hq : P.info? elem with
  | none => simp [hq] at hs
  | some i => cases d <;> simp [Builtin.copy_, run_underlying hu, Builtin.lenOf, Builtin.firstCells, sizeOf, typeInfo, hq, h0, storeCells]

theorem Tryz.info5 : (Tryz.prog.info? 5).map (fun i => (i.zero, i.size, i.bytes)) = some (some (.int .u8 0), 1, 1) := by kernel_rfl
theorem Tryz.one5 : (Tryz.prog.info? 5).map (·.size) = some 1 := by kernel_rfl
theorem made_zeros (n : Nat) : (madeCells (Value.int .u8 0).cells (n * 1)).toList = List.replicate n (.int .u8 0) := by
  simp [madeCells, Value.cells, Nat.mod_one, List.map_const']
theorem cell_of_heap {w : World} {g i : Nat} {C : Array Value} {t : TypeId} {fr : Nat × Nat} (h : w.heap[g]? = some (.cells C t fr)) : w.cell? ⟨g, i, none⟩ = C[i]? := by
  simp [World.cell?, h]
theorem frozen_of_heap {w : World} {g i : Nat} {C : Array Value} {t : TypeId} (h : w.heap[g]? = some (.cells C t (0, 0))) : w.frozen? ⟨g, i, none⟩ = false := by
  simp [World.frozen?, h]
theorem heap_set {w : World} {g i : Nat} {C : Array Value} {t : TypeId} {fr : Nat × Nat} (h : w.heap[g]? = some (.cells C t fr)) (v : Value) : (w.setCell ⟨g, i, none⟩ v).heap[g]? = some (.cells (C.setIfInBounds i v) t fr) := by
  simp [World.setCell, Array.getElem?_modify, h]
end Go.Proofs.YteajcmkaoahbeaaGreatDoor
namespace Go.Proofs.YteajcmkaoahbeaaGreatDoor
open Go.RowKit

/-- An event. -/
structure Ev where
  id : Int
  room : Int
  author : Int
  kind : Int
  key : Int
  n : Int
  text : ByteArray
  prev : List Int
  time : Int

/-- A row of numbers in memory (an empty one lies anywhere). -/
def NumsAt (w : World) (a : Option Addr) (zs : List Int) : Prop :=
  zs.length ≤ 1048576 ∧ (0 < zs.length → ∃ b off, a = some ⟨b, off, none⟩ ∧ b < w.heap.size ∧ ∀ j (h : j < zs.length), w.cell? ⟨b, off + j, none⟩ = some (.int .i64 zs[j]))
theorem NumsAt.kept {w w' : World} {a : Option Addr} {zs : List Int} (h : NumsAt w a zs) (hb : Below w.heap.size w w') : NumsAt w' a zs := by
  refine ⟨h.1, fun hl => ?_⟩
  obtain ⟨b, off, ha, hbb, hc⟩ := h.2 hl
  exact ⟨b, off, ha, Nat.lt_of_lt_of_le hbb hb.size, fun j hj => (hb.cell (p := ⟨b, off + j, none⟩) hbb).trans (hc j hj)⟩

theorem ret_bool {a b : Bool} (h : a = b) : Ending.returned (.bool a) = .returned (.bool b) := by rw [h]
def isB (n lo hi : Int) : Bool := decide (lo ≤ n ∧ n ≤ hi)
theorem isB_yes {n lo hi : Int} (h : isB n lo hi = true) : lo ≤ n ∧ n ≤ hi := by simpa [isB] using h
theorem isB_no {n lo hi : Int} (h : isB n lo hi = false) : ¬ (lo ≤ n ∧ n ≤ hi) := by simpa [isB] using h
/-- The numbers rise behind 'last', each an Id, none of them 'id'. -/
def prevOk (id : Int) : Int → List Int → Bool
  | _, [] => true
  | last, x :: r => decide (last < x) && isB x 1 1000000 && !(x == id) && prevOk id x r
def prevB (e : Ev) : Bool := decide (e.prev.length ≤ 4) && ((e.kind == 1) == (e.prev.length == 0)) && prevOk e.id 0 e.prev
def bodyB (e : Ev) : Bool :=
  if e.kind = 1 then e.key == 0 && e.n == 0 && e.text.size == 0
  else if e.kind = 2 then isB e.key 1 6 && isB e.n 1 4 && e.text.size == 0
  else if e.kind = 3 then isB e.key 1 6 && isB e.n 0 100 && e.text.size == 0
  else if e.kind = 4 then e.key == 0 && e.n == 0 && decide (e.text.size ≤ 30)
  else if e.kind = 5 then e.key == 0 && isB e.n 1 2 && e.text.size == 0
  else if e.kind = 6 then e.key == 0 && isB e.n 1 3 && e.text.size == 0
  else if e.kind = 7 then e.key == 0 && e.n == 0 && decide (1 ≤ e.text.size) && decide (e.text.size ≤ 30)
  else if e.kind = 8 then isB e.key 1 1000000 && e.n == 0 && e.text.size == 0
  else false
def headB (e : Ev) : Bool := isB e.id 1 1000000 && isB e.room 1 3 && isB e.author 1 6 && isB e.time 0 1000000
def rightB (e : Ev) : Bool := headB e && prevB e && bodyB e
theorem prevOk_drop {id last : Int} {zs : List Int} {k : Nat} (h : k < zs.length) : prevOk id last (zs.drop k) = (decide (last < zs[k]) && isB zs[k] 1 1000000 && !(zs[k] == id) && prevOk id zs[k] (zs.drop (k + 1))) := by
  rw [List.drop_eq_getElem_cons h]
  rfl

set_option maxHeartbeats 400000 in
theorem is_spec (n lo hi : Int) (w : World) : Calls Tryz.prog 61 #[.int .i64 n, .int .i64 lo, .int .i64 hi] w fun e w' => e = .returned (.bool (isB n lo hi)) ∧ w = w' := by
  by_cases h1 : lo ≤ n
  · by_cases h2 : n ≤ hi
    · have b1 : decide (lo ≤ n) = true := by simpa using h1
      have b2 : decide (n ≤ hi) = true := by simpa using h2
      have H : Hid (isB n lo hi = true) := by unfold Hid; simp [isB, h1, h2]
      go_enter Tryz.func61, Tryz.ntmps61
      go_wp2
      go_ret
      exact ⟨ret_bool H.out.symm, rfl⟩
    · have b1 : decide (lo ≤ n) = true := by simpa using h1
      have b2 : decide (n ≤ hi) = false := by simpa using h2
      have H : Hid (isB n lo hi = false) := by unfold Hid; simp [isB, h2]
      clear h2
      go_enter Tryz.func61, Tryz.ntmps61
      go_wp2
      go_ret
      exact ⟨ret_bool H.out.symm, rfl⟩
  · have b1 : decide (lo ≤ n) = false := by simpa using h1
    have H : Hid (isB n lo hi = false) := by unfold Hid; simp [isB, h1]
    clear h1
    go_enter Tryz.func61, Tryz.ntmps61
    go_wp2
    go_ret
    exact ⟨ret_bool H.out.symm, rfl⟩
set_option maxHeartbeats 400000 in
theorem between_impl (n lo hi : Int) (w : World) : Calls Tryz.prog 145 #[.int .i64 n, .int .i64 lo, .int .i64 hi] w fun e w' => e = .returned (.bool (isB n lo hi)) ∧ w = w' := by
  by_cases h1 : lo ≤ n
  · by_cases h2 : n ≤ hi
    · have b1 : decide (lo ≤ n) = true := by simpa using h1
      have b2 : decide (n ≤ hi) = true := by simpa using h2
      have H : Hid (isB n lo hi = true) := by unfold Hid; simp [isB, h1, h2]
      go_enter Tryz.func145, Tryz.ntmps145
      go_wp2
      go_ret
      exact ⟨ret_bool H.out.symm, rfl⟩
    · have b1 : decide (lo ≤ n) = true := by simpa using h1
      have b2 : decide (n ≤ hi) = false := by simpa using h2
      have H : Hid (isB n lo hi = false) := by unfold Hid; simp [isB, h2]
      clear h2
      go_enter Tryz.func145, Tryz.ntmps145
      go_wp2
      go_ret
      exact ⟨ret_bool H.out.symm, rfl⟩
  · have b1 : decide (lo ≤ n) = false := by simpa using h1
    have H : Hid (isB n lo hi = false) := by unfold Hid; simp [isB, h1]
    clear h1
    go_enter Tryz.func145, Tryz.ntmps145
    go_wp2
    go_ret
    exact ⟨ret_bool H.out.symm, rfl⟩
theorem id_spec (n : Int) (w : World) : Calls Tryz.prog 138 #[.int .i64 n] w fun e w' => e = .returned (.bool (isB n 1 1000000)) ∧ w = w' := by
  go_enter Tryz.func138, Tryz.ntmps138
  go_wp2_with (go_at_call 61; refine (is_spec _ _ _ _).mono ?_; rintro e w' ⟨rfl, rfl⟩)
  go_ret
  exact ⟨rfl, rfl⟩
theorem user_spec (n : Int) (w : World) : Calls Tryz.prog 139 #[.int .i64 n] w fun e w' => e = .returned (.bool (isB n 1 6)) ∧ w = w' := by
  go_enter Tryz.func139, Tryz.ntmps139
  go_wp2_with (go_at_call 61; refine (is_spec _ _ _ _).mono ?_; rintro e w' ⟨rfl, rfl⟩)
  go_ret
  exact ⟨rfl, rfl⟩
theorem time_spec (n : Int) (w : World) : Calls Tryz.prog 140 #[.int .i64 n] w fun e w' => e = .returned (.bool (isB n 0 1000000)) ∧ w = w' := by
  go_enter Tryz.func140, Tryz.ntmps140
  go_wp2_with (go_at_call 61; refine (is_spec _ _ _ _).mono ?_; rintro e w' ⟨rfl, rfl⟩)
  go_ret
  exact ⟨rfl, rfl⟩
theorem id_impl (n : Int) (w : World) : Calls Tryz.prog 150 #[.int .i64 n] w fun e w' => e = .returned (.bool (isB n 1 1000000)) ∧ w = w' := by
  go_enter Tryz.func150, Tryz.ntmps150
  go_wp2_with (go_at_call 145; refine (between_impl _ _ _ _).mono ?_; rintro e w' ⟨rfl, rfl⟩)
  go_ret
  exact ⟨rfl, rfl⟩
theorem user_impl (n : Int) (w : World) : Calls Tryz.prog 203 #[.int .i64 n] w fun e w' => e = .returned (.bool (isB n 1 6)) ∧ w = w' := by
  go_enter Tryz.func203, Tryz.ntmps203
  go_wp2_with (go_at_call 145; refine (between_impl _ _ _ _).mono ?_; rintro e w' ⟨rfl, rfl⟩)
  go_ret
  exact ⟨rfl, rfl⟩
theorem room_impl (n : Int) (w : World) : Calls Tryz.prog 108 #[.int .i64 n] w fun e w' => e = .returned (.bool (isB n 1 3)) ∧ w = w' := by
  go_enter Tryz.func108, Tryz.ntmps108
  go_wp2_with (go_at_call 145; refine (between_impl _ _ _ _).mono ?_; rintro e w' ⟨rfl, rfl⟩)
  go_ret
  exact ⟨rfl, rfl⟩
theorem time_impl (n : Int) (w : World) : Calls Tryz.prog 204 #[.int .i64 n] w fun e w' => e = .returned (.bool (isB n 0 1000000)) ∧ w = w' := by
  go_enter Tryz.func204, Tryz.ntmps204
  go_wp2_with (go_at_call 145; refine (between_impl _ _ _ _).mono ?_; rintro e w' ⟨rfl, rfl⟩)
  go_ret
  exact ⟨rfl, rfl⟩
theorem quiet_sym {P : Program} {f : FuncId} {args : Array Value} {w : World} {n : Nat} {v : Value} (h : Calls P f args (w.drewN n) fun e w' => e = .returned v ∧ w.drewN n = w') :
    Calls P f args (w.drewN n) fun e w'' => e = .returned v ∧ ∃ m, w'' = w.drewN m := h.mono fun _ _ ⟨he, hm⟩ => ⟨he, n, hm.symm⟩
end Go.Proofs.YteajcmkaoahbeaaGreatDoor
namespace Go.Proofs.YteajcmkaoahbeaaGreatDoor

/-- The place of an Id in a row, or -1. -/
def atI (ids : List Int) (id : Int) : Int := match ids.idxOf? id with
  | some k => k
  | none => -1
theorem atI_found {ids : List Int} {id : Int} {k : Nat} (hk : k < ids.length) (h : ids[k] = id) (hno : ∀ j (h : j < ids.length), j < k → ids[j] ≠ id) : atI ids id = k := by
  have : ids.idxOf? id = some k := by
    rw [List.idxOf?, List.findIdx?_eq_some_iff_getElem]
    exact ⟨hk, by simp [h], fun j hj => by simpa using hno j (by omega) hj⟩
  simp [atI, this]
theorem atI_none {ids : List Int} {id : Int} (hno : ∀ j (h : j < ids.length), ids[j] ≠ id) : atI ids id = -1 := by
  have : ids.idxOf? id = none := by
    rw [List.idxOf?, List.findIdx?_eq_none_iff]
    intro x hx
    obtain ⟨j, hj, rfl⟩ := List.getElem_of_mem hx
    simpa using hno j hj
  simp [atI, this]
theorem atI_cases (ids : List Int) (id : Int) : (∃ k, ∃ h : k < ids.length, atI ids id = (k : Int) ∧ ids[k] = id) ∨ (atI ids id = -1 ∧ id ∉ ids) := by
  cases c : ids.idxOf? id with
  | none =>
    right
    refine ⟨by simp [atI, c], fun hm => ?_⟩
    rw [List.idxOf?, List.findIdx?_eq_none_iff] at c
    simpa using c id hm
  | some k =>
    left
    rw [List.idxOf?, List.findIdx?_eq_some_iff_getElem] at c
    obtain ⟨h, h1, _⟩ := c
    have h2 : ids.idxOf? id = some k := by
      rw [List.idxOf?, List.findIdx?_eq_some_iff_getElem]
      exact ⟨h, h1, by assumption⟩
    exact ⟨k, h, by simp [atI, h2], by simpa using h1⟩
theorem atI_mem {ids : List Int} {id : Int} : 0 ≤ atI ids id ↔ id ∈ ids := by
  rcases atI_cases ids id with ⟨k, h, h1, h2⟩ | ⟨h1, h2⟩
  · rw [h1]
    exact ⟨fun _ => h2 ▸ List.getElem_mem h, fun _ => by omega⟩
  · rw [h1]
    exact ⟨fun h => by omega, fun h => absurd h h2⟩
/-- One round: what stands behind numbers that are all known is one more than the greatest. -/
def step (pv : Int → Option (List Int)) (f : Int → Nat) (id : Int) : Nat := match pv id with
  | none => 0
  | some ps => if ps.all (fun p => decide (0 < f p)) = true then (ps.map f).foldl max 0 + 1 else 0
def dep (pv : Int → Option (List Int)) : Nat → Int → Nat
  | 0, _ => 0
  | k + 1, id => step pv (dep pv k) id
theorem step_congr {pv : Int → Option (List Int)} {f g : Int → Nat} {id : Int} (h : ∀ ps, pv id = some ps → ∀ p ∈ ps, f p = g p) : step pv f id = step pv g id := by
  unfold step
  cases c : pv id with
  | none => rfl
  | some ps =>
    have hp := h ps c
    have e1 : ps.all (fun p => decide (0 < f p)) = ps.all (fun p => decide (0 < g p)) := by
      rw [Bool.eq_iff_iff, List.all_eq_true, List.all_eq_true]
      constructor <;> intro hh p hm
      · rw [← hp p hm]; exact hh p hm
      · rw [hp p hm]; exact hh p hm
    have e2 : ps.map f = ps.map g := List.map_congr_left hp
    simp only [e1, e2]
theorem step_pos {pv : Int → Option (List Int)} {f : Int → Nat} {id : Int} (h : 0 < step pv f id) : ∃ ps, pv id = some ps ∧ ∀ p ∈ ps, 0 < f p := by
  unfold step at h
  cases c : pv id with
  | none => rw [c] at h; exact absurd h (Nat.lt_irrefl 0)
  | some ps =>
    rw [c] at h
    by_cases ha : ps.all (fun p => decide (0 < f p)) = true
    · exact ⟨ps, rfl, fun p hp => by simpa using List.all_eq_true.1 ha p hp⟩
    · simp only [if_neg ha] at h
      exact absurd h (Nat.lt_irrefl 0)
theorem dep_mono {pv : Int → Option (List Int)} : ∀ (k : Nat) (id : Int), 0 < dep pv k id → dep pv (k + 1) id = dep pv k id
  | 0, id, h => absurd h (Nat.lt_irrefl 0)
  | k + 1, id, h => by
    show step pv (dep pv (k + 1)) id = step pv (dep pv k) id
    obtain ⟨ps, h1, h2⟩ := step_pos h
    refine step_congr fun qs hq p hp => ?_
    rw [h1] at hq
    cases hq
    exact dep_mono k p (h2 p hp)
theorem stable_on {pv : Int → Option (List Int)} {k : Nat} (h : ∀ id, dep pv (k + 1) id = dep pv k id) : ∀ m id, dep pv (k + m) id = dep pv k id
  | 0, _ => rfl
  | m + 1, id => by
    show step pv (dep pv (k + m)) id = dep pv k id
    rw [← h id]
    exact step_congr fun _ _ p _ => stable_on h m p
theorem countP_le {α : Type} {p q : α → Bool} : ∀ {l : List α}, (∀ x ∈ l, p x = true → q x = true) → l.countP p ≤ l.countP q
  | [], _ => Nat.le_refl _
  | x :: l, h => by
    have ih := countP_le (l := l) fun y hy => h y (List.mem_cons_of_mem _ hy)
    have hx := h x List.mem_cons_self
    rw [List.countP_cons, List.countP_cons]
    cases hp : p x
    · simp; omega
    · simp [hx hp]; omega
theorem countP_lt {α : Type} {p q : α → Bool} : ∀ {l : List α}, (∀ x ∈ l, p x = true → q x = true) → (∃ x ∈ l, q x = true ∧ p x = false) → l.countP p < l.countP q
  | [], _, h => by obtain ⟨x, hx, _⟩ := h; cases hx
  | x :: l, h, he => by
    have hx := h x List.mem_cons_self
    have hl := fun y hy => h y (List.mem_cons_of_mem _ hy)
    rw [List.countP_cons, List.countP_cons]
    obtain ⟨y, hy, h1, h2⟩ := he
    rcases List.mem_cons.1 hy with rfl | hy
    · have := countP_le hl
      simp [h1, h2]; omega
    · have := countP_lt hl ⟨y, hy, h1, h2⟩
      cases hp : p x
      · simp; omega
      · simp [hx hp]; omega
/-- After as many rounds as there are Ids nothing turns any more. -/
theorem dep_stable {pv : Int → Option (List Int)} {ids : List Int} (hd : ∀ id ps, pv id = some ps → id ∈ ids) (id : Int) : dep pv (ids.length + 1) id = dep pv ids.length id := by
  have key : ∀ k, (∃ j, j ≤ k ∧ ∀ id, dep pv (j + 1) id = dep pv j id) ∨ k + 1 ≤ ids.countP (fun x => decide (0 < dep pv (k + 1) x)) := by
    intro k
    induction k with
    | zero =>
      by_cases h : ∀ id, dep pv 1 id = dep pv 0 id
      · exact .inl ⟨0, Nat.le_refl _, h⟩
      · right
        obtain ⟨x, hx⟩ := Classical.not_forall.1 h
        have hpos : 0 < dep pv 1 x := by
          have : dep pv 0 x = 0 := rfl
          omega
        obtain ⟨ps, h1, _⟩ := step_pos hpos
        exact List.countP_pos_iff.2 ⟨x, hd x ps h1, by simpa using hpos⟩
    | succ k ih =>
      rcases ih with ⟨j, hj, hs⟩ | ih
      · exact .inl ⟨j, by omega, hs⟩
      · by_cases h : ∀ id, dep pv (k + 1 + 1) id = dep pv (k + 1) id
        · exact .inl ⟨k + 1, Nat.le_refl _, h⟩
        · right
          obtain ⟨x, hx⟩ := Classical.not_forall.1 h
          have h0 : dep pv (k + 1) x = 0 := by
            rcases Nat.eq_zero_or_pos (dep pv (k + 1) x) with h | h
            · exact h
            · exact absurd (dep_mono _ _ h) hx
          have hpos : 0 < dep pv (k + 1 + 1) x := by omega
          obtain ⟨ps, h1, _⟩ := step_pos hpos
          have := countP_lt (p := fun x => decide (0 < dep pv (k + 1) x)) (q := fun x => decide (0 < dep pv (k + 1 + 1) x)) (l := ids) (fun y _ hy => by
            have : 0 < dep pv (k + 1) y := by simpa using hy
            rw [← dep_mono _ _ this] at this
            simpa using this) ⟨x, hd x ps h1, by simpa using hpos, by simp [h0]⟩
          omega
  rcases key ids.length with ⟨j, hj, hs⟩ | h
  · have e1 := stable_on hs (ids.length - j) id
    have e2 := stable_on hs (ids.length - j + 1) id
    rw [show j + (ids.length - j) = ids.length by omega] at e1
    rw [show j + (ids.length - j + 1) = ids.length + 1 by omega] at e2
    rw [e1, e2]
  · have := List.countP_le_length (p := fun x => decide (0 < dep pv (ids.length + 1) x)) (l := ids)
    omega
/-- What a table of depths, by place, holds of an Id. -/
def val (ids : List Int) (d : List Int) (p : Int) : Int := d.getD (atI ids p).toNat 0
/-- The table in round k + 1, the first i places of which have been looked at. -/
def Inv (pv : Int → Option (List Int)) (ids : List Int) (k i : Nat) (d : List Int) : Prop :=
  d.length = ids.length ∧ ∀ j (h : j < ids.length), (d.getD j 0 = 0 ∨ d.getD j 0 = (dep pv ids.length ids[j] : Int)) ∧ (0 < dep pv (if j < i then k + 1 else k) ids[j] → 0 < d.getD j 0)
theorem Inv.zero (pv : Int → Option (List Int)) (ids : List Int) : Inv pv ids 0 0 (List.replicate ids.length 0) := by
  refine ⟨by simp, fun j h => ⟨.inl (by simp [h]), fun h2 => ?_⟩⟩
  rw [if_neg (Nat.not_lt_zero _)] at h2
  exact absurd h2 (Nat.lt_irrefl 0)
theorem Inv.round {pv : Int → Option (List Int)} {ids : List Int} {k : Nat} {d : List Int} (h : Inv pv ids k ids.length d) : Inv pv ids (k + 1) 0 d := by
  refine ⟨h.1, fun j hj => ⟨(h.2 j hj).1, fun h2 => (h.2 j hj).2 ?_⟩⟩
  rw [if_pos hj]
  simpa using h2
theorem dep_le {pv : Int → Option (List Int)} {k : Nat} {id : Int} (h : 0 < dep pv k id) : 0 < dep pv (k + 1) id := by rw [dep_mono k id h]; exact h
theorem Inv.val_or {pv : Int → Option (List Int)} {ids : List Int} {k i : Nat} {d : List Int} (h : Inv pv ids k i d) {p : Int} (hp : p ∈ ids) : (val ids d p = 0 ∨ val ids d p = (dep pv ids.length p : Int)) ∧ (0 < dep pv k p → 0 < val ids d p) := by
  rcases atI_cases ids p with ⟨j, hj, h1, h2⟩ | ⟨_, h2⟩
  · have hh := h.2 j hj
    unfold val
    rw [h1, Int.toNat_natCast]
    rw [h2] at hh
    refine ⟨hh.1, fun h3 => hh.2 ?_⟩
    split
    · exact dep_le h3
    · exact h3
  · exact absurd hp h2
theorem Inv.skip {pv : Int → Option (List Int)} {ids : List Int} {k i : Nat} {d : List Int} (h : Inv pv ids k i d) (hi : 0 < d.getD i 0) : Inv pv ids k (i + 1) d := by
  refine ⟨h.1, fun j hj => ⟨(h.2 j hj).1, fun h2 => ?_⟩⟩
  by_cases e : j = i
  · rw [e]; exact hi
  · refine (h.2 j hj).2 ?_
    by_cases hl : j < i
    · rw [if_pos hl]; rwa [if_pos (by omega)] at h2
    · rw [if_neg hl]; rwa [if_neg (by omega)] at h2
theorem Inv.no {pv : Int → Option (List Int)} {ids : List Int} {k i : Nat} {d : List Int} (h : Inv pv ids k i d) (hi : i < ids.length) {ps : List Int} (hpv : pv ids[i] = some ps) (hin : ∀ p ∈ ps, p ∈ ids) (hno : ∃ p ∈ ps, ¬ 0 < val ids d p) : Inv pv ids k (i + 1) d := by
  refine ⟨h.1, fun j hj => ⟨(h.2 j hj).1, fun h2 => ?_⟩⟩
  by_cases e : j = i
  · subst e
    rw [if_pos (by omega)] at h2
    obtain ⟨qs, h3, h4⟩ := step_pos h2
    rw [hpv] at h3
    cases h3
    obtain ⟨p, hp, hnp⟩ := hno
    exact absurd ((h.val_or (hin p hp)).2 (h4 p hp)) hnp
  · refine (h.2 j hj).2 ?_
    by_cases hl : j < i
    · rw [if_pos hl]; rwa [if_pos (by omega)] at h2
    · rw [if_neg hl]; rwa [if_neg (by omega)] at h2
theorem max_cast : ∀ (l : List Int) (f : Int → Nat) (g : Int → Int) (m : Nat), (∀ p ∈ l, g p = (f p : Int)) → (l.map g).foldl max (m : Int) = (((l.map f).foldl max m : Nat) : Int)
  | [], _, _, _, _ => rfl
  | p :: l, f, g, m, h => by
    rw [List.map_cons, List.map_cons, List.foldl_cons, List.foldl_cons, h p List.mem_cons_self, show max (m : Int) (f p : Int) = ((max m (f p) : Nat) : Int) by omega]
    exact max_cast l f g _ fun q hq => h q (List.mem_cons_of_mem _ hq)
theorem Inv.set {pv : Int → Option (List Int)} {ids : List Int} (hd : ∀ id ps, pv id = some ps → id ∈ ids) {k i : Nat} {d : List Int} (h : Inv pv ids k i d) (hi : i < ids.length) {ps : List Int} (hpv : pv ids[i] = some ps) (hin : ∀ p ∈ ps, p ∈ ids) (hyes : ∀ p ∈ ps, 0 < val ids d p) :
    Inv pv ids k (i + 1) (d.set i ((ps.map (val ids d)).foldl max 0 + 1)) := by
  have hv : ∀ p ∈ ps, val ids d p = (dep pv ids.length p : Int) := fun p hp => by
    have h1 := hyes p hp
    rcases (h.val_or (hin p hp)).1 with h0 | h0
    · omega
    · exact h0
  have hN : dep pv ids.length ids[i] = (ps.map (dep pv ids.length)).foldl max 0 + 1 := by
    rw [← dep_stable hd]
    show step pv (dep pv ids.length) ids[i] = _
    unfold step
    rw [hpv]
    have ha : ps.all (fun p => decide (0 < dep pv ids.length p)) = true := List.all_eq_true.2 fun p hp => by
      have h1 := hyes p hp
      rw [hv p hp] at h1
      simpa using h1
    simp only [ha, if_true]
  have hm := max_cast ps (dep pv ids.length) (val ids d) 0 hv
  have hD : (dep pv ids.length ids[i] : Int) = (ps.map (val ids d)).foldl max 0 + 1 := by
    rw [hN]
    simp only [Int.natCast_zero] at hm
    rw [hm, Int.natCast_add]
    rfl
  refine ⟨by rw [List.length_set]; exact h.1, fun j hj => ?_⟩
  by_cases e : j = i
  · subst e
    have hg : (d.set j ((ps.map (val ids d)).foldl max 0 + 1)).getD j 0 = (ps.map (val ids d)).foldl max 0 + 1 := by
      have : j < d.length := by rw [h.1]; exact hj
      simp [this]
    rw [hg]
    have hnn : 0 < (ps.map (val ids d)).foldl max 0 + 1 := by rw [← hD, hN]; omega
    exact ⟨.inr hD.symm, fun _ => hnn⟩
  · have hg : (d.set i ((ps.map (val ids d)).foldl max 0 + 1)).getD j 0 = d.getD j 0 := by
      simp [List.getD, List.getElem?_set_ne (fun h => e h.symm)]
    rw [hg]
    refine ⟨(h.2 j hj).1, fun h2 => (h.2 j hj).2 ?_⟩
    by_cases hl : j < i
    · rw [if_pos hl]; rwa [if_pos (by omega)] at h2
    · rw [if_neg hl]; rwa [if_neg (by omega)] at h2
/-- After as many rounds as there are Ids the table holds the depths. -/
theorem Inv.end {pv : Int → Option (List Int)} {ids : List Int} {d : List Int} (h : Inv pv ids ids.length 0 d) {j : Nat} (hj : j < ids.length) : d.getD j 0 = (dep pv ids.length ids[j] : Int) := by
  obtain ⟨h1, h2⟩ := h.2 j hj
  rcases h1 with h1 | h1
  · rw [if_neg (Nat.not_lt_zero _)] at h2
    rcases Nat.eq_zero_or_pos (dep pv ids.length ids[j]) with h3 | h3
    · rw [h1, h3]; rfl
    · have := h2 h3
      omega
  · exact h1
end Go.Proofs.YteajcmkaoahbeaaGreatDoor
namespace Go.Proofs.YteajcmkaoahbeaaGreatDoor
open Go.RowKit

theorem load_turns {w : World} {a : Addr} {v : Value} (h : w.cell? a = some v) : (loadVar 182 a).run Tryz.prog w = .ok v w := by
  have hu := Tryz.underlying182
  simp [loadVar, isAgg, underlying, go_sem, h]
theorem wrap_turns (a : Addr) (m : String) (w : World) : (Builtin.ssaWrapNilChk_ #[135] 135 #[.pointer (some a), strVal "", strVal m]).run Tryz.prog w = .ok (.pointer (some a)) w := by kernel_rfl
theorem at_turns {w : World} {a : Addr} {v : Value} (h : w.cell? a = some v) (m : String) : (receiverAt 135 (.val (.pointer (some a))) false (some m)).run Tryz.prog w = .ok v w := by
  have hu := run_underlying Tryz.underlying135
  unfold receiverAt
  simp only [Sem.run_bind, hu, Result.andThen_ok, Place.get, Sem.run_pure, wrap_turns, asAddr]
  exact load_turns h
theorem run_methodX {P : Program} {t : TypeId} {i : TypeInfo} {name : String} {m : Method} {f : FuncId} {pr : Bool} (hi : P.info? t = some i) (hm : i.methods.find? (fun x => x.name == name) = some m) (hp : m.path = #[]) (hf : m.func = some (f, pr)) (fuel : Nat) (v : Value) (w : World) :
    (Go.method (fuel + 1) t v name).run P w = ((receiverAt t (.val v) pr (some ((name.splitOn ".").getLastD name))).run P w).andThen fun r w' => .ok (f, r) w' := by
  unfold Go.method
  simp [typeInfo, hi, hm, hp, hf, follow]
theorem has_method {P : Program} {t : TypeId} {name : String} {f : FuncId} {pr : Bool} (h : ((P.info? t).bind fun i => (i.methods.find? (fun x => x.name == name)).map fun m => (m.path.size, m.func)) = some (0, some (f, pr))) : ∃ i m, P.info? t = some i ∧ i.methods.find? (fun x => x.name == name) = some m ∧ m.path = #[] ∧ m.func = some (f, pr) := by
  cases hi : P.info? t with
  | none => rw [hi] at h; cases h
  | some i =>
    rw [hi] at h
    simp only [Option.bind_some] at h
    cases hm : i.methods.find? (fun x => x.name == name) with
    | none => rw [hm] at h; cases h
    | some m =>
      rw [hm] at h
      simp only [Option.map_some, Option.some.injEq, Prod.mk.injEq] at h
      exact ⟨i, m, rfl, hm, Array.eq_empty_of_size_eq_zero h.1, h.2⟩
theorem meth_len {w : World} {a : Addr} {v : Value} (h : w.cell? a = some v) : (Go.method 459 135 (.pointer (some a)) "Len").run Tryz.prog w = .ok (120, v) w := by
  obtain ⟨i, m, hi, hm, hp, hf⟩ := has_method (P := Tryz.prog) (t := 135) (name := "Len") (f := 120) (pr := false) (by kernel_rfl)
  rw [run_methodX hi hm hp hf, at_turns h]
  rfl
theorem meth_less {w : World} {a : Addr} {v : Value} (h : w.cell? a = some v) : (Go.method 459 135 (.pointer (some a)) "Less").run Tryz.prog w = .ok (262, v) w := by
  obtain ⟨i, m, hi, hm, hp, hf⟩ := has_method (P := Tryz.prog) (t := 135) (name := "Less") (f := 262) (pr := false) (by kernel_rfl)
  rw [run_methodX hi hm hp hf, at_turns h]
  rfl
theorem meth_swap {w : World} {a : Addr} {v : Value} (h : w.cell? a = some v) : (Go.method 459 135 (.pointer (some a)) "Swap").run Tryz.prog w = .ok (265, v) w := by
  obtain ⟨i, m, hi, hm, hp, hf⟩ := has_method (P := Tryz.prog) (t := 135) (name := "Swap") (f := 265) (pr := false) (by kernel_rfl)
  rw [run_methodX hi hm hp hf, at_turns h]
  rfl
theorem meth_push (v : Value) (w : World) : (Go.method 459 135 v "Push").run Tryz.prog w = .ok (264, v) w := by kernel_rfl
theorem meth_pop (v : Value) (w : World) : (Go.method 459 135 v "Pop").run Tryz.prog w = .ok (263, v) w := by kernel_rfl
end Go.Proofs.YteajcmkaoahbeaaGreatDoor
