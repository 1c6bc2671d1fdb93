/- Marks in rows of events: their texts, their numbers. Marks in rows of numbers: what they write, and where. Marks in rows of events, and in graphs. Marks in graphs. -/
import Derived.Test.YteajcmkaoahbeaaGreatDoorZGrTo2
namespace Go.Proofs.YteajcmkaoahbeaaGreatDoor
open Go.RowKit

theorem digit_lt (z : Nat) : 48 + z % 10 < 256 := by omega
set_option maxHeartbeats 2000000 in
set_option maxRecDepth 100000 in
theorem mark_text (n : Nat) (w : World) (h0 : 0 < n) (h1 : n < 10 ^ 10) :
    Calls Tryz.prog 87 #[.int .i64 n] w fun e w' => ∃ u : ByteArray, e = .returned (.string u) ∧ u.size ≤ 30 ∧ Below w.heap.size w w' := by
  go_enter Tryz.func87, Tryz.ntmps87
  go_wp2
  go_loopw [0, 3] (fun k s wr => ∃ (z : Nat) (u : ByteArray) (d : Nat), k = .int .i64 z ∧ s = .string u ∧ z ≤ n ∧ Hid (z < 10 ^ d) ∧ u.size + d ≤ 20 ∧ Below w.heap.size w wr) (fun k _ _ => (intOf k).toNat)
  case atStart => exact ⟨n, ⟨#[]⟩, 10, rfl, rfl, Nat.le_refl _, h1, by decide, Below.refl _ _⟩
  case round =>
    obtain ⟨z, u, d, rfl, rfl, hzn, HZ, hud, hbw⟩ := hrel
    have hz10 : z < 10000000000 := Nat.lt_of_le_of_lt hzn (by simpa using h1)
    by_cases hz : 0 < z
    · obtain ⟨c, hc⟩ : ∃ c : UInt8, (c.toNat : Int) = 48 + (z : Int) % 10 := ⟨UInt8.ofNat (48 + z % 10), by
        rw [UInt8.toNat_ofNat', Nat.mod_eq_of_lt (by have := digit_lt z; omega)]
        omega⟩
      have hcv : (convert 195 9 (.slice (some ⟨wr.heap.size, 0, none⟩) 1 1)).run Tryz.prog (wr.alloc (.cells #[.int .u8 (48 + (z : Int) % 10)] 5)) = .ok (.string ⟨#[c]⟩) (wr.alloc (.cells #[.int .u8 (48 + (z : Int) % 10)] 5)) := by
        refine row_string (n := 1) (ty := 5) (fr := (0, 0)) [c] Tryz.underlying195 Tryz.underlying5 Tryz.underlying9 rfl ?_
        rw [(MapKept.heap_alloc wr _).1]
        simp [bv, hc]
      have hd1 : 0 < d := by
        rcases Nat.eq_zero_or_pos d with h | h
        · have := HZ.out
          rw [h] at this
          omega
        · exact h
      have HN : Hid (z / 10 < 10 ^ (d - 1)) := by
        have h2 := HZ.out
        obtain ⟨m, rfl⟩ : ∃ m, d = m + 1 := ⟨d - 1, by omega⟩
        rw [Nat.pow_succ] at h2
        unfold Hid
        rw [Nat.add_sub_cancel]
        omega
      have HB : Hid (∀ o, Below w.heap.size w (wr.alloc o)) := fun o => hbw.alloc hbw.size o
      have hsz : (⟨#[c]⟩ ++ u : ByteArray).size + (d - 1) ≤ 20 := by
        rw [ByteArray.size_append]
        have : (⟨#[c]⟩ : ByteArray).size = 1 := rfl
        omega
      go_wp2
      go_roundw
      case rel => exact ⟨z / 10, ⟨#[c]⟩ ++ u, d - 1, by go_num, rfl, by omega, HN, hsz, HB.out _⟩
      case measure => simp [intOf]; omega
    · have HS : Hid ((⟨#[109]⟩ ++ u : ByteArray).size ≤ 30) := by
        have : (⟨#[109]⟩ : ByteArray).size = 1 := rfl
        unfold Hid
        rw [ByteArray.size_append]
        omega
      go_wp2
      go_ret
      exact ⟨_, rfl, HS.out, hbw⟩
end Go.Proofs.YteajcmkaoahbeaaGreatDoor
namespace Go.Proofs.YteajcmkaoahbeaaGreatDoor
open Go.RowKit

/-- What has been written lies in blocks from lo on, ahead of hi; blocks of cells keep their size. -/
structure Wr (lo hi : Nat) (W W' : World) : Prop where
  os : W'.os = W.os
  tape : W'.tape = W.tape
  output : W'.output = W.output
  size : W.heap.size ≤ W'.heap.size
  block : ∀ b, b < W.heap.size → (b < lo ∨ hi ≤ b) → W'.heap[b]? = W.heap[b]?
  cells : ∀ (b : Nat) (C : Array Value) (t : TypeId), W.heap[b]? = some (Obj.cells C t (0, 0)) → ∃ C' : Array Value, W'.heap[b]? = some (Obj.cells C' t (0, 0)) ∧ C'.size = C.size
theorem Wr.refl (lo hi : Nat) (W : World) : Wr lo hi W W := ⟨rfl, rfl, rfl, Nat.le_refl _, fun _ _ _ => rfl, fun _ C _ h => ⟨C, h, rfl⟩⟩
theorem Wr.trans {lo hi : Nat} {W W1 W2 : World} (h : Wr lo hi W W1) (k : Wr lo hi W1 W2) : Wr lo hi W W2 := by
  refine ⟨k.os.trans h.os, k.tape.trans h.tape, k.output.trans h.output, Nat.le_trans h.size k.size, fun b hb hr => (k.block b (Nat.lt_of_lt_of_le hb h.size) hr).trans (h.block b hb hr), fun b C t hc => ?_⟩
  obtain ⟨C1, h1, e1⟩ := h.cells b C t hc
  obtain ⟨C2, h2, e2⟩ := k.cells b C1 t h1
  exact ⟨C2, h2, e2.trans e1⟩
theorem Wr.below {lo hi : Nat} {W W' : World} (h : Below W.heap.size W W') : Wr lo hi W W' :=
  ⟨h.os, h.tape, h.output, h.size, fun b hb _ => h.block b hb, fun b C _ hc => ⟨C, (h.block b (Array.getElem?_eq_some_iff.1 hc).1).trans hc, rfl⟩⟩
theorem Wr.set {lo hi : Nat} {W W1 : World} (h : Wr lo hi W W1) {b j : Nat} (h1 : lo ≤ b) (h2 : b < hi) (v : Value) : Wr lo hi W (W1.setCell ⟨b, j, none⟩ v) := by
  refine h.trans ⟨rfl, rfl, rfl, by simp, fun c _ hr => Below.heap_setCell _ _ _ _ (by show c ≠ b; omega), fun c C t hc => ?_⟩
  by_cases e : c = b
  · subst e
    exact ⟨C.setIfInBounds j v, heap_set hc v, by simp⟩
  · exact ⟨C, (Below.heap_setCell _ _ _ _ e).trans hc, rfl⟩
/-- A row of numbers that may be written. -/
def Room (lo hi : Nat) (W : World) (p : Option Addr) (n : Nat) : Prop := ∃ (b : Nat) (C : Array Value) (t : TypeId), p = some ⟨b, 0, none⟩ ∧ lo ≤ b ∧ b < hi ∧ W.heap[b]? = some (.cells C t (0, 0)) ∧ n ≤ C.size
theorem Room.kept {lo hi : Nat} {W W' : World} {p : Option Addr} {n : Nat} (h : Room lo hi W p n) (hw : Wr lo hi W W') : Room lo hi W' p n := by
  obtain ⟨b, C, t, hp, h1, h2, hc, hn⟩ := h
  obtain ⟨C', h3, h4⟩ := hw.cells b C t hc
  exact ⟨b, C', t, hp, h1, h2, h3, by omega⟩
set_option maxHeartbeats 2000000 in
set_option maxRecDepth 100000 in
theorem mark_row (lo hi : Nat) (p : Option Addr) (n cap : Nat) (k : Int) (W : World) (h : Room lo hi W p n) (hn : n ≤ 1048576) (h0 : 0 ≤ k) (h1 : k ≤ 1000000000) :
    Calls Tryz.prog 31 #[.slice p n cap, .int .i64 k] W fun e W' => e = .returned (.int .i64 (k + (n : Int))) ∧ Wr lo hi W W' := by
  have H : Hid (Room lo hi W p n) := h
  obtain ⟨b, C, t, rfl, hb1, hb2, _, _⟩ := h
  go_enter Tryz.func31, Tryz.ntmps31
  go_wp2
  go_loopw [1, 5] (fun kk i wr => ∃ j : Nat, j ≤ n ∧ i = .int .i64 j ∧ kk = .int .i64 (k + (j : Int)) ∧ Hid (Wr lo hi W wr)) (fun _ i _ => n - (intOf i).toNat)
  case atStart => exact ⟨0, Nat.zero_le _, rfl, by simp, Wr.refl _ _ _⟩
  case round =>
    obtain ⟨j, hj, rfl, rfl, HW⟩ := hrel
    by_cases hlt : j < n
    · obtain ⟨b', C', t', hp, _, _, hc, hsz⟩ := H.out.kept HW.out
      obtain rfl : b = b' := by simpa using hp
      have hcell : ∃ u, wr.cell? ⟨b, j, none⟩ = some u := ⟨C'[j]'(by omega), by rw [cell_of_heap hc]; exact Array.getElem?_eq_getElem _⟩
      obtain ⟨u, hu⟩ := hcell
      have hfz : wr.frozen? ⟨b, j, none⟩ = false := frozen_of_heap hc
      have HN : Hid (∀ v, Wr lo hi W (wr.setCell ⟨b, j, none⟩ v)) := fun v => HW.out.set hb1 hb2 v
      clear hc hp
      go_wp2
      go_roundw
      case rel => exact ⟨j + 1, by omega, by go_num, by go_num, HN.out _⟩
      case measure => simp [intOf]; omega
    · have HS : Hid (k + (j : Int) = k + (n : Int)) := by unfold Hid; omega
      go_wp2
      go_ret
      exact ⟨ret_int HS.out, HW.out⟩
end Go.Proofs.YteajcmkaoahbeaaGreatDoor
namespace Go.Proofs.YteajcmkaoahbeaaGreatDoor
open Go.RowKit

theorem Wr.mono {lo hi lo' hi' : Nat} {W W' : World} (h : Wr lo hi W W') (h1 : lo' ≤ lo) (h2 : hi ≤ hi') : Wr lo' hi' W W' :=
  ⟨h.os, h.tape, h.output, h.size, fun b hb hr => h.block b hb (by omega), h.cells⟩
theorem Wr.cell {lo hi : Nat} {W W' : World} (h : Wr lo hi W W') {b q : Nat} (hb : b < W.heap.size) (hr : b < lo ∨ hi ≤ b) : W'.cell? ⟨b, q, none⟩ = W.cell? ⟨b, q, none⟩ := World.cell?_of_block (a := ⟨b, q, none⟩) (h.block b hb hr)
theorem Wr.frozen {lo hi : Nat} {W W' : World} (h : Wr lo hi W W') {b q : Nat} (hb : b < W.heap.size) (hr : b < lo ∨ hi ≤ b) : W'.frozen? ⟨b, q, none⟩ = W.frozen? ⟨b, q, none⟩ := World.frozen?_of_block (a := ⟨b, q, none⟩) (h.block b hb hr)
/-- A row's own block is none of its numbers' blocks. -/
theorem EvsFresh.ne {base : Nat} {W : World} {b : Nat} {es : List Em} (h : EvsFresh base W (some ⟨b, 0, none⟩) es) {m : Em} (hm : m ∈ es) {c : Nat} (hc : m.p = some ⟨c, 0, none⟩) : c ≠ b := by
  rintro rfl
  obtain ⟨b', hb', _, _, ⟨C, h1, _⟩, _⟩ := h.row
  cases hb'
  obtain ⟨d, hd, _, h2⟩ := (h.nums m hm).1
  rw [hc] at hd
  cases hd
  rw [h1] at h2
  simp at h2
/-- Six cells set, one behind the other. -/
def set6 (w : World) (G o : Nat) (v0 v1 v2 v3 v4 v5 : Value) : World := ((((((w.setCell ⟨G, o, none⟩ v0).setCell ⟨G, o + 1, none⟩ v1).setCell ⟨G, o + 2, none⟩ v2).setCell ⟨G, o + 3, none⟩ v3).setCell ⟨G, o + 4, none⟩ v4).setCell ⟨G, o + 5, none⟩ v5)
theorem set6_other (w : World) (G o : Nat) (v0 v1 v2 v3 v4 v5 : Value) (q : Nat) (h : q < o ∨ o + 6 ≤ q) : (set6 w G o v0 v1 v2 v3 v4 v5).cell? ⟨G, q, none⟩ = w.cell? ⟨G, q, none⟩ := by
  unfold set6
  rw [World.cell?_setCell_other _ ⟨G, o + 5, none⟩ ⟨G, q, none⟩ _ (fun e => by have := congrArg Addr.off e; simp at this; omega)]
  rw [World.cell?_setCell_other _ ⟨G, o + 4, none⟩ ⟨G, q, none⟩ _ (fun e => by have := congrArg Addr.off e; simp at this; omega)]
  rw [World.cell?_setCell_other _ ⟨G, o + 3, none⟩ ⟨G, q, none⟩ _ (fun e => by have := congrArg Addr.off e; simp at this; omega)]
  rw [World.cell?_setCell_other _ ⟨G, o + 2, none⟩ ⟨G, q, none⟩ _ (fun e => by have := congrArg Addr.off e; simp at this; omega)]
  rw [World.cell?_setCell_other _ ⟨G, o + 1, none⟩ ⟨G, q, none⟩ _ (fun e => by have := congrArg Addr.off e; simp at this; omega)]
  rw [World.cell?_setCell_other _ ⟨G, o, none⟩ ⟨G, q, none⟩ _ (fun e => by have := congrArg Addr.off e; simp at this; omega)]
theorem set6_frozen (w : World) (G o : Nat) (v0 v1 v2 v3 v4 v5 : Value) (p : Addr) : (set6 w G o v0 v1 v2 v3 v4 v5).frozen? p = w.frozen? p := by
  unfold set6
  simp
theorem set6_size (w : World) (G o : Nat) (v0 v1 v2 v3 v4 v5 : Value) : (set6 w G o v0 v1 v2 v3 v4 v5).heap.size = w.heap.size := by
  unfold set6
  simp
theorem Wr.set6 {lo hi : Nat} {W W1 : World} (h : Wr lo hi W W1) {G : Nat} (h1 : lo ≤ G) (h2 : G < hi) (o : Nat) (v0 v1 v2 v3 v4 v5 : Value) : Wr lo hi W (set6 W1 G o v0 v1 v2 v3 v4 v5) := by
  unfold Proofs.YteajcmkaoahbeaaGreatDoor.set6
  exact (((((h.set h1 h2 _).set h1 h2 _).set h1 h2 _).set h1 h2 _).set h1 h2 _).set h1 h2 _
/-- The row when i events are marked. -/
structure MkInv (lo hi b : Nat) (es : List Em) (i : Nat) (W V : World) : Prop where
  wr : Wr lo hi W V
  prev : ∀ q (h : q < es.length), i ≤ q → V.cell? ⟨b, q * 9 + 7, none⟩ = some (.slice es[q].p es[q].v.prev.length es[q].c)
theorem wtE_prev (m : Em) : m.v.prev.length ≤ wtE m := by unfold wtE; omega
set_option maxHeartbeats 8000000 in
set_option maxRecDepth 100000 in
theorem mark_events (lo hi : Nat) (es : List Em) (a : Option Addr) (cap : Nat) (k : Nat) (W : World) (h : EvsFresh lo W a es) (hu : EvsUnder hi a es) (hw : wt es ≤ 1048576) (h0 : 0 < k) (h1 : k ≤ 100000000) :
    Calls Tryz.prog 49 #[.slice a es.length cap, .int .i64 k] W fun e W' => ∃ K : Nat, e = .returned (.int .i64 K) ∧ 0 < K ∧ K ≤ k + 8 * wt es ∧ Wr lo hi W W' := by
  have hl := h.len
  have H : Hid (EvsFresh lo W a es ∧ EvsUnder hi a es) := ⟨h, hu⟩
  obtain ⟨b, rfl, hlb, hbs, ⟨C, hC, hCs⟩, hcell⟩ := h.row
  have hbh : b < hi := hu.1 _ rfl
  have HC : Hid (W.heap[b]? = some (.cells C 114 (0, 0)) ∧ C.size = es.length * 9) := ⟨hC, hCs⟩
  have HP : Hid (∀ q (h : q < es.length), W.cell? ⟨b, q * 9 + 7, none⟩ = some (.slice es[q].p es[q].v.prev.length es[q].c)) := fun q hq => hcell q hq 7 (by omega)
  have hlw : es.length ≤ wt es := by unfold wt; omega
  clear h hu hC hCs hcell
  go_enter Tryz.func49, Tryz.ntmps49
  go_wp2
  go_loopw [1, 5] (fun kk ii wr => ∃ (i K : Nat), i ≤ es.length ∧ ii = .int .i64 i ∧ kk = .int .i64 K ∧ 0 < K ∧ K ≤ k + 8 * i + wtL (es.take i) ∧ K ≤ 200000000 ∧ Hid (MkInv lo hi b es i W wr)) (fun _ ii _ => es.length - (intOf ii).toNat)
  case atStart => exact ⟨0, k, Nat.zero_le _, rfl, rfl, h0, by omega, by omega, Wr.refl _ _ _, fun q hq _ => HP.out q hq⟩
  case round =>
    obtain ⟨i, K, hi1, rfl, rfl, hK0, hK1, hK2, HI⟩ := hrel
    by_cases hlt : i < es.length
    · obtain ⟨C', hC', hCs'⟩ : ∃ C' : Array Value, wr.heap[b]? = some (Obj.cells C' 114 (0, 0)) ∧ C'.size = es.length * 9 := by
        obtain ⟨C', q1, q2⟩ := HI.out.wr.cells b _ _ HC.out.1
        exact ⟨C', q1, q2.trans HC.out.2⟩
      have hbw : b < wr.heap.size := (Array.getElem?_eq_some_iff.1 hC').1
      have hex : ∀ j, j < 9 → ∃ u, wr.cell? ⟨b, i * 9 + j, none⟩ = some u := fun j hj => ⟨C'[i * 9 + j]'(by omega), by rw [cell_of_heap hC']; exact Array.getElem?_eq_getElem _⟩
      have hf : ∀ q, wr.frozen? ⟨b, q, none⟩ = false := fun q => frozen_of_heap hC'
      obtain ⟨y0, hy0⟩ := hex 0 (by omega)
      obtain ⟨y1, hy1⟩ := hex 1 (by omega)
      obtain ⟨y2, hy2⟩ := hex 2 (by omega)
      obtain ⟨y3, hy3⟩ := hex 3 (by omega)
      obtain ⟨y4, hy4⟩ := hex 4 (by omega)
      obtain ⟨y5, hy5⟩ := hex 5 (by omega)
      obtain ⟨y6, hy6⟩ := hex 6 (by omega)
      obtain ⟨y8, hy8⟩ := hex 8 (by omega)
      rw [Nat.add_zero] at hy0
      have hy7 := HI.out.prev i hlt (Nat.le_refl _)
      obtain ⟨c, hc, hlc, hcc⟩ := (H.out.1.nums es[i] (List.getElem_mem hlt)).1
      have hn := (H.out.1.nums es[i] (List.getElem_mem hlt)).2
      have hch : c < hi := H.out.2.2 es[i] (List.getElem_mem hlt) _ hc
      have hne : c ≠ b := H.out.1.ne (List.getElem_mem hlt) hc
      have hwt := wtL_take hlt
      have hwe := wtE_prev es[i]
      have hwl := wtL_le (es := es) (k := i + 1)
      have HWT : Hid (wtL (es.take (i + 1)) = wtL (es.take i) + wtE es[i] ∧ es[i].v.prev.length ≤ wtE es[i] ∧ wtL (es.take (i + 1)) ≤ wtL es) := ⟨hwt, hwe, hwl⟩
      have HCC : Hid (W.heap[c]? = some (.cells (nv es[i].v.prev).toArray 2 (0, 0))) := hcc
      have HCP : Hid (es[i].p = some ⟨c, 0, none⟩) := hc
      have HBW : Hid (wr.heap[b]? = some (Obj.cells C' 114 (0, 0))) := hC'
      rw [hc] at hy7
      clear hex hcc hc hwt hwe hwl hC'
      go_wp2_with fail
      refine (mark_text (K + 6) _ (by omega) (by omega)).mono ?_
      rintro e w2 ⟨u, rfl, _, hb2⟩
      have hbx : Below (set6 wr b (i * 9) (.int .i64 K) (.int .i64 (K + 1)) (.int .i64 (K + 1 + 1)) (.int .i64 (K + 1 + 1 + 1)) (.int .i64 (K + 1 + 1 + 1 + 1)) (.int .i64 (K + 1 + 1 + 1 + 1 + 1))).heap.size (set6 wr b (i * 9) (.int .i64 K) (.int .i64 (K + 1)) (.int .i64 (K + 1 + 1)) (.int .i64 (K + 1 + 1 + 1)) (.int .i64 (K + 1 + 1 + 1 + 1)) (.int .i64 (K + 1 + 1 + 1 + 1 + 1))) w2 := hb2
      have HW2 : Hid (Wr lo hi W w2) := (HI.out.wr.set6 hlb hbh _ _ _ _ _ _ _).trans (Wr.below hbx)
      have hb6 : b < (set6 wr b (i * 9) (.int .i64 K) (.int .i64 (K + 1)) (.int .i64 (K + 1 + 1)) (.int .i64 (K + 1 + 1 + 1)) (.int .i64 (K + 1 + 1 + 1 + 1)) (.int .i64 (K + 1 + 1 + 1 + 1 + 1))).heap.size := by rw [set6_size]; exact hbw
      have HOT : Hid (∀ q, (q < i * 9 ∨ i * 9 + 6 ≤ q) → w2.cell? ⟨b, q, none⟩ = wr.cell? ⟨b, q, none⟩) := fun q hq => (hbx.cell (p := ⟨b, q, none⟩) hb6).trans (set6_other _ _ _ _ _ _ _ _ _ _ hq)
      have hf2 : ∀ q, w2.frozen? ⟨b, q, none⟩ = false := fun q => by rw [hbx.frozen (p := ⟨b, q, none⟩) hb6, set6_frozen]; exact hf q
      have hz6 : w2.cell? ⟨b, i * 9 + 6, none⟩ = some y6 := (HOT.out _ (by omega)).trans hy6
      have hz7 : w2.cell? ⟨b, i * 9 + 7, none⟩ = some (.slice (some ⟨c, 0, none⟩) es[i].v.prev.length es[i].c) := (HOT.out _ (by omega)).trans hy7
      have hz8 : w2.cell? ⟨b, i * 9 + 8, none⟩ = some y8 := (HOT.out _ (by omega)).trans hy8
      have hbw2 : b < w2.heap.size := Nat.lt_of_lt_of_le hb6 hbx.size
      have HRM : Hid (Room c (c + 1) (w2.setCell ⟨b, i * 9 + 6, none⟩ (.string u)) (some ⟨c, 0, none⟩) es[i].v.prev.length) := by
        obtain ⟨C2, q1, q2⟩ := (HW2.out.set (j := i * 9 + 6) hlb hbh (.string u)).cells c _ _ HCC.out
        exact ⟨c, C2, _, rfl, Nat.le_refl _, Nat.lt_succ_self _, q1, by rw [q2]; simp [nv]⟩
      clear hb2 hbx hb6 hy0 hy1 hy2 hy3 hy4 hy5 hy6 hy7 hy8 hf
      go_wp2_with fail
      refine (mark_row c (c + 1) (some ⟨c, 0, none⟩) es[i].v.prev.length es[i].c ((K : Int) + 1 + 1 + 1 + 1 + 1 + 1 + 1) _ HRM.out hn (by omega) (by omega)).mono ?_
      rintro e w3 ⟨rfl, hw3⟩
      have HW3 : Hid (Wr lo hi W w3) := (HW2.out.set (j := i * 9 + 6) hlb hbh (.string u)).trans (hw3.mono hlc hch)
      have hbr : b < c ∨ c + 1 ≤ b := by omega
      have HOT3 : Hid (∀ q, q ≠ i * 9 + 6 → w3.cell? ⟨b, q, none⟩ = w2.cell? ⟨b, q, none⟩) := fun q hq => (hw3.cell (b := b) (q := q) (by simpa using hbw2) hbr).trans (World.cell?_setCell_other _ _ _ _ (fun e => hq (by have := congrArg Addr.off e; simp at this; omega)))
      have hv8 : w3.cell? ⟨b, i * 9 + 8, none⟩ = some y8 := (HOT3.out _ (by omega)).trans hz8
      have hf3 : w3.frozen? ⟨b, i * 9 + 8, none⟩ = false := by rw [hw3.frozen (b := b) (by simpa using hbw2) hbr]; simpa using hf2 (i * 9 + 8)
      clear hw3 hz6 hz7 hz8 hf2
      go_wp2
      go_roundw
      case rel =>
        refine ⟨i + 1, K + 8 + es[i].v.prev.length, by omega, by go_num, ?_, by omega, ?_, ?_, HW3.out.set hlb hbh _, fun q hq hiq => ?_⟩
        · congr 1
          omega
        · have := HWT.out
          omega
        · have := HWT.out
          unfold wt at hw
          omega
        · rw [World.cell?_setCell_other _ _ _ _ (fun e => by have := congrArg Addr.off e; simp at this; omega), HOT3.out _ (by omega), HOT.out _ (by omega)]
          exact HI.out.prev q hq (by omega)
      case measure => simp [intOf]; omega
    · have HE : Hid (K ≤ k + 8 * wt es) := by
        have e : i = es.length := by omega
        rw [e, List.take_length] at hK1
        unfold Hid wt
        omega
      go_wp2
      go_ret
      exact ⟨K, rfl, hK0, HE.out, HI.out.wr⟩
end Go.Proofs.YteajcmkaoahbeaaGreatDoor
namespace Go.Proofs.YteajcmkaoahbeaaGreatDoor
open Go.RowKit

theorem wt_same {es fs : List Em} (h : es.map (·.v) = fs.map (·.v)) : wt es = wt fs := by
  have hl : es.length = fs.length := by have := congrArg List.length h; simpa using this
  have key : ∀ l : List Em, wtL l = ((l.map (·.v)).map fun v => v.text.size + v.prev.length).sum := fun l => by
    unfold wtL
    rw [List.map_map]
    rfl
  unfold wt
  rw [hl, key, key, h]
theorem NumsNew.wr {base lo hi : Nat} {W W' : World} {a : Option Addr} {zs : List Int} (h : NumsNew base W a zs) (hw : Wr lo hi W W') (hb : hi ≤ base) : NumsNew base W' a zs := by
  obtain ⟨b, ha, hg, hh⟩ := h
  exact ⟨b, ha, hg, (hw.block b (Array.getElem?_eq_some_iff.1 hh).1 (by omega)).trans hh⟩
theorem EvsFresh.wr {base lo hi : Nat} {W W' : World} {a : Option Addr} {es : List Em} (h : EvsFresh base W a es) (hw : Wr lo hi W W') (hb : hi ≤ base) : EvsFresh base W' a es := by
  obtain ⟨b, ha, h1, h2, ⟨C, h4, h5⟩, hc⟩ := h.row
  exact ⟨h.len, ⟨b, ha, h1, Nat.lt_of_lt_of_le h2 hw.size, ⟨C, (hw.block b h2 (by omega)).trans h4, h5⟩, fun i hi j hj => (hw.cell (b := b) (q := i * 9 + j) h2 (by omega)).trans (hc i hi j hj)⟩, fun m hm => ⟨(h.nums m hm).1.wr hw hb, (h.nums m hm).2⟩⟩
set_option maxHeartbeats 4000000 in
set_option maxRecDepth 100000 in
theorem mark_graphB (w W Wc : World) (g g' : Gr) (a p : Option Addr) (c1 c2 : Nat) (r : Int) (hn : GrNew w g g' a p W) (hb : Below W.heap.size W Wc) (hw : wt g'.evs + wt g'.pk ≤ 1048576) :
    Calls Tryz.prog 18 #[.agg #[.int .i64 r, .slice a g'.evs.length c1, .slice p g'.pk.length c2], .int .i64 1] Wc fun e W' => ∃ K : Nat, e = .returned (.int .i64 K) ∧ 0 < K ∧ K ≤ 10000000 ∧ Wr w.heap.size W.heap.size Wc W' := by
  obtain ⟨mid, hmu, hmf⟩ := hn.apart
  have hml : mid ≤ W.heap.size := by
    obtain ⟨b, _, h1, h2, _⟩ := hmf.row
    omega
  have hwm : w.heap.size ≤ mid := by
    obtain ⟨b, hb1, h1, _, _⟩ := hn.evs.row.row
    have := hmu.1 _ hb1
    simp at this
    omega
  have HA : Hid (∀ o, Below W.heap.size W (Wc.alloc o)) := fun o => hb.alloc hb.size o
  have HF : Hid (∀ V, Below W.heap.size W V → EvsFresh w.heap.size V a g'.evs ∧ EvsFresh mid V p g'.pk) := fun V hV => ⟨hn.evs.row.kept hV, hmf.kept hV⟩
  have HU : Hid (EvsUnder mid a g'.evs ∧ EvsUnder W.heap.size p g'.pk) := ⟨hmu, hmf.under⟩
  have HZ : Hid (Wc.heap.size ≥ W.heap.size) := hb.size
  clear hn hb hmu hmf
  go_enter Tryz.func18, Tryz.ntmps18
  go_wp2_with fail
  refine (mark_events w.heap.size mid g'.evs a c1 1 _ (HF.out _ (HA.out _)).1 HU.out.1 (by omega) (by omega) (by omega)).mono ?_
  rintro e w1 ⟨K1, rfl, hK0, hK1, hw1⟩
  have hzc : mid ≤ Wc.heap.size := Nat.le_trans hml HZ.out
  have hc2 : w1.cell? ⟨Wc.heap.size, 2, none⟩ = some (.slice p g'.pk.length c2) := by
    rw [hw1.cell (b := Wc.heap.size) (by simp) (.inr hzc)]
    simp [go_sem]
  have HP : Hid (EvsFresh mid w1 p g'.pk) := (HF.out _ (HA.out _)).2.wr hw1 (Nat.le_refl _)
  have HW1 : Hid (Wr w.heap.size W.heap.size Wc w1) := by
    have h1 : Wr w.heap.size W.heap.size Wc (Wc.alloc (.cells #[.int .i64 r, .slice a g'.evs.length c1, .slice p g'.pk.length c2] 32)) := Wr.below ((Below.refl _ _).alloc (Nat.le_refl _) _)
    exact h1.trans (hw1.mono (Nat.le_refl _) hml)
  clear hw1
  go_wp2_with fail
  refine (mark_events mid W.heap.size g'.pk p c2 K1 _ HP.out HU.out.2 (by omega) hK0 (by omega)).mono ?_
  rintro e w2 ⟨K2, rfl, hK2, hK3, hw2⟩
  have hK4 : K2 ≤ 10000000 := by omega
  have HW2 : Hid (Wr w.heap.size W.heap.size Wc w2) := HW1.out.trans (hw2.mono hwm (Nat.le_refl _))
  clear hw2
  go_wp2
  go_ret
  exact ⟨K2, rfl, hK2, hK4, HW2.out⟩
theorem mark_graph (w W Wc : World) (g g' : Gr) (a p : Option Addr) (c1 c2 : Nat) (r : Int) (hn : GrNew w g g' a p W) (hb : Below W.heap.size W Wc) (hw : wt g'.evs + wt g'.pk ≤ 1048576) :
    Calls Tryz.prog 18 #[.agg #[.int .i64 r, .slice a g'.evs.length c1, .slice p g'.pk.length c2], .int .i64 1] Wc fun e W' => ∃ K : Nat, e = .returned (.int .i64 K) ∧ 0 < K ∧ Wr w.heap.size W.heap.size Wc W' :=
  (mark_graphB w W Wc g g' a p c1 c2 r hn hb hw).mono fun _ _ ⟨K, h1, h2, _, h3⟩ => ⟨K, h1, h2, h3⟩
end Go.Proofs.YteajcmkaoahbeaaGreatDoor
