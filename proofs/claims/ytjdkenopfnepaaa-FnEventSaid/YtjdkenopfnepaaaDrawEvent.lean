/- An event that is drawn. -/
import Derived.Test.YtjdkenopfnepaaaDrawFill
import Derived.Test.YtjdkenopfnepaaaEvNums
import Derived.Deep.AppendLies
import Derived.Deep.RegionLaw
namespace Go.Proofs.Ytjdkenopfnepaaa
open Go.RowKit

/-- While an event is drawn: the source, the event's variable, the result's variable. -/
def EE (w : World) (base g rb eb : Nat) (cs : Array Value) (W : World) : Prop :=
  SrcAt W base g ∧ W.heap[eb]? = some (.cells cs 25 (0, 0)) ∧ (∃ c0 : Array Value, c0.size = 9 ∧ W.heap[rb]? = some (.cells c0 25 (0, 0))) ∧ w.grownBy W (some g) ∧ g < w.heap.size ∧ w.heap.size ≤ rb ∧ rb < eb
theorem EE.lt {w : World} {base g rb eb : Nat} {cs : Array Value} {W : World} (h : EE w base g rb eb cs W) : eb < W.heap.size := (Array.getElem?_eq_some_iff.1 h.2.1).1
theorem EE.num {w : World} {base g rb eb : Nat} {cs : Array Value} {W w1 : World} (h : EE w base g rb eb cs W) (hs : SrcAt w1 base g) (hg : W.grownBy w1 (some g)) : EE w base g rb eb cs w1 := by
  obtain ⟨_, h2, ⟨c0, hc0, h3⟩, h4, h5, h6, h7⟩ := h
  have l2 := (Array.getElem?_eq_some_iff.1 h2).1
  have l3 := (Array.getElem?_eq_some_iff.1 h3).1
  exact ⟨hs, (hg.block _ l2 (by simp; omega)).trans h2, ⟨c0, hc0, (hg.block _ l3 (by simp; omega)).trans h3⟩, h4.trans hg, h5, h6, h7⟩
theorem EE.set {w : World} {base g rb eb : Nat} {cs : Array Value} {W : World} (h : EE w base g rb eb cs W) (k : Nat) (v : Value) : EE w base g rb eb (cs.setIfInBounds k v) (W.setCell ⟨eb, k, none⟩ v) := by
  obtain ⟨h1, h2, ⟨c0, hc0, h3⟩, h4, h5, h6, h7⟩ := h
  have hb : base ≤ w.heap.size := Nat.le_trans h1.1 (Nat.le_of_lt h5)
  exact ⟨h1.set (by simp; omega) (by simp; omega) v, heap_set h2 v, ⟨c0, hc0, (Below.heap_setCell _ _ _ _ (by simp; omega)).trans h3⟩, ⟨h4.os, h4.tape, h4.output, by simpa [World.setCell] using h4.size, fun q hq hq2 => (Below.heap_setCell _ _ _ _ (by simp; omega)).trans (h4.block q hq hq2)⟩, h5, h6, h7⟩
theorem EE.res {w : World} {base g rb eb : Nat} {cs : Array Value} {W : World} (h : EE w base g rb eb cs W) (k : Nat) (v : Value) : EE w base g rb eb cs (W.setCell ⟨rb, k, none⟩ v) := by
  obtain ⟨h1, h2, ⟨c0, hc0, h3⟩, h4, h5, h6, h7⟩ := h
  have hb : base ≤ w.heap.size := Nat.le_trans h1.1 (Nat.le_of_lt h5)
  exact ⟨h1.set (by simp; omega) (by simp; omega) v, (Below.heap_setCell _ _ _ _ (by simp; omega)).trans h2, ⟨c0.setIfInBounds k v, by simp [hc0], heap_set h3 v⟩, ⟨h4.os, h4.tape, h4.output, by simpa [World.setCell] using h4.size, fun q hq hq2 => (Below.heap_setCell _ _ _ _ (by simp; omega)).trans (h4.block q hq hq2)⟩, h5, h6, h7⟩
theorem EE.alloc {w : World} {base g rb eb : Nat} {cs : Array Value} {W : World} (h : EE w base g rb eb cs W) (o : Obj) : EE w base g rb eb cs (W.alloc o) := by
  obtain ⟨h1, h2, ⟨c0, hc0, h3⟩, h4, h5, h6, h7⟩ := h
  exact ⟨h1.alloc o, (Below.heap_alloc _ _ _ (Array.getElem?_eq_some_iff.1 h2).1).trans h2, ⟨c0, hc0, (Below.heap_alloc _ _ _ (Array.getElem?_eq_some_iff.1 h3).1).trans h3⟩, h4.trans (World.grownBy_alloc _ _ _), h5, h6, h7⟩
/-- A row laid behind the event's variable grows. -/
theorem EE.grown {w : World} {base g rb eb : Nat} {cs : Array Value} {W w1 : World} (h : EE w base g rb eb cs W) {x : Option Nat} (hg : W.grownBy w1 x) (hx : ∀ q, x = some q → eb + 1 ≤ q) : EE w base g rb eb cs w1 := by
  obtain ⟨h1, h2, ⟨c0, hc0, h3⟩, h4, h5, h6, h7⟩ := h
  have l1 := h1.lt
  have l2 := (Array.getElem?_eq_some_iff.1 h2).1
  have l3 := (Array.getElem?_eq_some_iff.1 h3).1
  have hB := h1.1
  have ne : ∀ b, b ≤ eb → some b ≠ x := fun b hb hc => by have := hx b hc.symm; omega
  have hbl : Below base W w1 := (Below.refl _ _).grown hg (by omega) (fun q hq => by have := hx q hq; omega)
  refine ⟨h1.kept hbl (hg.block g l1 (ne g (by omega))), (hg.block _ l2 (ne _ (by omega))).trans h2, ⟨c0, hc0, (hg.block _ l3 (ne _ (by omega))).trans h3⟩, ⟨hg.os.trans h4.os, hg.tape.trans h4.tape, hg.output.trans h4.output, Nat.le_trans h4.size hg.size, fun q hq hq2 => (hg.block q (by have := h4.size; omega) (ne q (by omega))).trans (h4.block q hq hq2)⟩, h5, h6, h7⟩
theorem EE.drew {w : World} {base g rb eb : Nat} {cs : Array Value} {W : World} (h : EE w base g rb eb cs W) : EE w base g rb eb cs W.drew := by
  obtain ⟨h1, h2, h3, h4, h5, h6, h7⟩ := h
  exact ⟨h1.kept (Below.drew (Below.refl _ _)) rfl, h2, h3, ⟨h4.os, h4.tape, h4.output, h4.size, h4.block⟩, h5, h6, h7⟩
theorem EE.cell {w : World} {base g rb eb : Nat} {cs : Array Value} {W : World} (h : EE w base g rb eb cs W) (k : Nat) : W.cell? ⟨eb, k, none⟩ = cs[k]? := cell_of_heap h.2.1
theorem EE.frozen {w : World} {base g rb eb : Nat} {cs : Array Value} {W : World} (h : EE w base g rb eb cs W) (k : Nat) : W.frozen? ⟨eb, k, none⟩ = false := frozen_of_heap h.2.1

theorem zeros_bv (n : Nat) : bv (List.replicate n 0) = List.replicate n (.int .u8 0) := by simp [bv]
theorem owns_base {w : World} {base base' size n : Nat} {e : TypeId} {v : Value} {xs : List Value} (h : w.ownsRow base e size v n xs) (hb : base' ≤ base) : w.ownsRow base' e size v n xs := by
  refine ⟨h.1, ?_⟩
  rcases h.2 with h0 | ⟨g, cap, cur, h1, h2, r⟩
  · exact .inl h0
  · exact .inr ⟨g, cap, cur, h1, Nat.le_trans hb h2, r⟩
theorem zeros_size {n : Nat} (h : n ≤ 1000) : (⟨(List.replicate n 0).toArray⟩ : ByteArray).size ≤ 1000 := by
  show (List.replicate n (0 : UInt8)).toArray.size ≤ 1000
  simpa using h
/-- What is drawn. -/
def EventPost (base g : Nat) (w : World) (e : Ending) (w' : World) : Prop :=
  ∃ (v : Ev) (a : Option Addr) (cap : Nat), e = .returned (.agg #[.int .i64 v.id, .int .i64 v.room, .int .i64 v.author, .int .i64 v.kind, .int .i64 v.key, .int .i64 v.n, .string v.text, .slice a v.prev.length cap, .int .i64 v.time]) ∧ w'.ownsRow w.heap.size 2 1 (.slice a v.prev.length cap) v.prev.length (nv v.prev) ∧ v.prev.length ≤ 3 ∧ v.text.size ≤ 1000 ∧ SrcAt w' base g ∧ w.grownBy w' (some g)
theorem own_slice {w : World} {base n : Nat} {e : TypeId} {v : Value} {xs : List Value} (h : w.ownsRow base e 1 v n xs) : ∃ a cap, v = .slice a n cap := by
  rcases h.2 with ⟨h1, h2⟩ | ⟨q, cp, _, h1, _⟩
  · exact ⟨none, 0, by rw [h1, h2]⟩
  · exact ⟨_, _, h1⟩
theorem event_end {w : World} {base g rb eb : Nat} {cs : Array Value} {W : World} {a : Option Addr} {cap n : Nat} {zs : List Int} (h : EE w base g rb eb cs W) (ho : W.ownsRow (eb + 1) 2 1 (.slice a n cap) n (nv zs)) (hn : zs.length = n) (hl : n ≤ 3) (v0 v1 v2 v3 v4 v5 v6 v7 v8 : Value) (i1 i2 i3 i4 i5 i6 i8 : Int) (tx : ByteArray) (htx : tx.size ≤ 1000) :
    EventPost base g w (.returned (.agg #[.int .i64 i1, .int .i64 i2, .int .i64 i3, .int .i64 i4, .int .i64 i5, .int .i64 i6, .string tx, .slice a n cap, .int .i64 i8])) (((((((((W.setCell ⟨rb, 0, none⟩ v0).setCell ⟨rb, 1, none⟩ v1).setCell ⟨rb, 2, none⟩ v2).setCell ⟨rb, 3, none⟩ v3).setCell ⟨rb, 4, none⟩ v4).setCell ⟨rb, 5, none⟩ v5).setCell ⟨rb, 6, none⟩ v6).setCell ⟨rb, 7, none⟩ v7).setCell ⟨rb, 8, none⟩ v8) := by
  subst hn
  have hr : rb < eb + 1 := by have := h.2.2.2.2.2.2; omega
  have X := ((((((((h.res 0 v0).res 1 v1).res 2 v2).res 3 v3).res 4 v4).res 5 v5).res 6 v6).res 7 v7).res 8 v8
  have O := ownsRow_setCell_below (ownsRow_setCell_below (ownsRow_setCell_below (ownsRow_setCell_below (ownsRow_setCell_below (ownsRow_setCell_below (ownsRow_setCell_below (ownsRow_setCell_below (ownsRow_setCell_below ho (a := ⟨rb, 0, none⟩) hr v0) (a := ⟨rb, 1, none⟩) hr v1) (a := ⟨rb, 2, none⟩) hr v2) (a := ⟨rb, 3, none⟩) hr v3) (a := ⟨rb, 4, none⟩) hr v4) (a := ⟨rb, 5, none⟩) hr v5) (a := ⟨rb, 6, none⟩) hr v6) (a := ⟨rb, 7, none⟩) hr v7) (a := ⟨rb, 8, none⟩) hr v8
  exact ⟨⟨i1, i2, i3, i4, i5, i6, tx, zs, i8⟩, a, cap, rfl, owns_base O (by have := h.2.2.2.2.2.1; omega), hl, htx, X.1, X.2.2.2.1⟩

set_option maxHeartbeats 40000000 in
set_option maxRecDepth 100000 in
theorem draw_event (base g : Nat) (w : World) (hs : SrcAt w base g) :
    Calls Try.prog 43 #[.pointer (some ⟨g, 0, none⟩)] w (EventPost base g w) := by
  obtain ⟨i0, hi, hz0, hz1, hz2⟩ := info_parts Try.info2
  have hgl := hs.lt
  have HS : Hid (SrcAt (w.alloc (.cells #[.int .i64 0, .int .i64 0, .int .i64 0, .int .i64 0, .int .i64 0, .int .i64 0, .string ⟨#[]⟩, .slice none 0 0, .int .i64 0] 25)) base g) := hs.alloc _
  have HG : Hid (w.grownBy (w.alloc (.cells #[.int .i64 0, .int .i64 0, .int .i64 0, .int .i64 0, .int .i64 0, .int .i64 0, .string ⟨#[]⟩, .slice none 0 0, .int .i64 0] 25)) (some g)) := World.grownBy_alloc _ _ _
  have HR : Hid ((w.alloc (.cells #[.int .i64 0, .int .i64 0, .int .i64 0, .int .i64 0, .int .i64 0, .int .i64 0, .string ⟨#[]⟩, .slice none 0 0, .int .i64 0] 25)).heap[w.heap.size]? = some (.cells #[.int .i64 0, .int .i64 0, .int .i64 0, .int .i64 0, .int .i64 0, .int .i64 0, .string ⟨#[]⟩, .slice none 0 0, .int .i64 0] 25 (0, 0))) := (MapKept.heap_alloc w _).1
  clear hs
  go_enter Try.func43, Try.ntmps43
  go_wp2_with fail
  refine (draw_n base g 12 _ HS.out (by omega)).mono ?_
  rintro e w1 ⟨r1, rfl, p1, q1, -, hs, hg, -⟩
  have q1 : r1 < 12 := q1 (by omega)
  have HR : Hid (w1.heap[w.heap.size]? = some (.cells #[.int .i64 0, .int .i64 0, .int .i64 0, .int .i64 0, .int .i64 0, .int .i64 0, .string ⟨#[]⟩, .slice none 0 0, .int .i64 0] 25 (0, 0))) := (hg.block w.heap.size (Array.getElem?_eq_some_iff.1 HR.out).1 (by simp; omega)).trans HR.out
  have HG : Hid (w.grownBy w1 (some g)) := HG.out.trans hg
  have HS : Hid (SrcAt w1 base g) := hs
  clear hs hg
  go_wp2_with fail
  refine (draw_n base g 2 _ HS.out (by omega)).mono ?_
  rintro e w2 ⟨r2, rfl, p2, q2, -, hs, hg, -⟩
  have q2 : r2 < 2 := q2 (by omega)
  have HR : Hid (w2.heap[w.heap.size]? = some (.cells #[.int .i64 0, .int .i64 0, .int .i64 0, .int .i64 0, .int .i64 0, .int .i64 0, .string ⟨#[]⟩, .slice none 0 0, .int .i64 0] 25 (0, 0))) := (hg.block w.heap.size (Array.getElem?_eq_some_iff.1 HR.out).1 (by simp; omega)).trans HR.out
  have HG : Hid (w.grownBy w2 (some g)) := HG.out.trans hg
  have HS : Hid (SrcAt w2 base g) := hs
  clear hs hg
  go_wp2_with fail
  refine (draw_n base g 4 _ HS.out (by omega)).mono ?_
  rintro e w3 ⟨r3, rfl, p3, q3, -, hs, hg, -⟩
  have q3 : r3 < 4 := q3 (by omega)
  have HR : Hid (w3.heap[w.heap.size]? = some (.cells #[.int .i64 0, .int .i64 0, .int .i64 0, .int .i64 0, .int .i64 0, .int .i64 0, .string ⟨#[]⟩, .slice none 0 0, .int .i64 0] 25 (0, 0))) := (hg.block w.heap.size (Array.getElem?_eq_some_iff.1 HR.out).1 (by simp; omega)).trans HR.out
  have HG : Hid (w.grownBy w3 (some g)) := HG.out.trans hg
  have HS : Hid (SrcAt w3 base g) := hs
  clear hs hg
  go_wp2_with fail
  refine (draw_n base g 9 _ HS.out (by omega)).mono ?_
  rintro e w4 ⟨r4, rfl, p4, q4, -, hs, hg, -⟩
  have q4 : r4 < 9 := q4 (by omega)
  have HR : Hid (w4.heap[w.heap.size]? = some (.cells #[.int .i64 0, .int .i64 0, .int .i64 0, .int .i64 0, .int .i64 0, .int .i64 0, .string ⟨#[]⟩, .slice none 0 0, .int .i64 0] 25 (0, 0))) := (hg.block w.heap.size (Array.getElem?_eq_some_iff.1 HR.out).1 (by simp; omega)).trans HR.out
  have HG : Hid (w.grownBy w4 (some g)) := HG.out.trans hg
  have HS : Hid (SrcAt w4 base g) := hs
  clear hs hg
  go_wp2_with fail
  refine (draw_fill base g (2 + r1) (1 + r2) (1 + r3) r4 _ HS.out).mono ?_
  rintro e w5 ⟨kd, ky, nn, tx, rfl, htx, hs, hg⟩
  have HTX : Hid (tx.size ≤ 1000) := htx
  clear htx
  have hl5 : w.heap.size < w5.heap.size := Nat.lt_of_lt_of_le (by simpa using (Array.getElem?_eq_some_iff.1 HR.out).1) hg.size
  have hE : EE w base g w.heap.size w5.heap.size #[.int .i64 (2 + r1), .int .i64 (1 + r2), .int .i64 (1 + r3), .int .i64 kd, .int .i64 ky, .int .i64 nn, .string tx, .slice none 0 0, .int .i64 r4] (w5.alloc (.cells #[.int .i64 (2 + r1), .int .i64 (1 + r2), .int .i64 (1 + r3), .int .i64 kd, .int .i64 ky, .int .i64 nn, .string tx, .slice none 0 0, .int .i64 r4] 25)) := by
    have hr5 : w5.heap[w.heap.size]? = _ := (hg.block w.heap.size (Array.getElem?_eq_some_iff.1 HR.out).1 (by simp; omega)).trans HR.out
    exact ⟨hs.alloc _, (MapKept.heap_alloc w5 _).1, ⟨#[.int .i64 0, .int .i64 0, .int .i64 0, .int .i64 0, .int .i64 0, .int .i64 0, .string ⟨#[]⟩, .slice none 0 0, .int .i64 0], rfl, (Below.heap_alloc _ _ _ hl5).trans hr5⟩, (HG.out.trans hg).trans (World.grownBy_alloc _ _ _), hgl, Nat.le_refl _, hl5⟩
  have HE : Hid (EE w base g w.heap.size w5.heap.size #[.int .i64 (2 + r1), .int .i64 (1 + r2), .int .i64 (1 + r3), .int .i64 kd, .int .i64 ky, .int .i64 nn, .string tx, .slice none 0 0, .int .i64 r4] (w5.alloc (.cells #[.int .i64 (2 + r1), .int .i64 (1 + r2), .int .i64 (1 + r3), .int .i64 kd, .int .i64 ky, .int .i64 nn, .string tx, .slice none 0 0, .int .i64 r4] 25))) := hE
  clear hE hs hg HS HG HR
  go_wp2_with fail
  go_loopw [4] (fun i wr => ∃ (k : Nat) (pv : Value) (zs : List Int), 1 ≤ k ∧ k ≤ 8 ∧ zs.length ≤ 2 ∧ i = .int .i64 k ∧ Hid (EE w base g w.heap.size w5.heap.size #[.int .i64 (2 + r1), .int .i64 (1 + r2), .int .i64 (1 + r3), .int .i64 kd, .int .i64 ky, .int .i64 nn, .string tx, pv, .int .i64 r4] wr) ∧ Hid (wr.ownsRow (w5.heap.size + 1) 2 1 pv zs.length (nv zs))) (fun i _ => 8 - (intOf i).toNat)
  case atStart => exact ⟨1, .slice none 0 0, [], by omega, by omega, by simp, rfl, HE, World.ownsRow_nil _ _ _ _⟩
  case round =>
    clear HE
    obtain ⟨k, pv, zs, hk1, hk8, hzl, rfl, HE, OW⟩ := hrel
    obtain ⟨a, cap, rfl⟩ := own_slice OW.out
    have c0 : wr.cell? ⟨w5.heap.size, 0, none⟩ = some (.int .i64 (2 + r1)) := HE.out.cell 0
    have c7 : wr.cell? ⟨w5.heap.size, 7, none⟩ = some (.slice a zs.length cap) := HE.out.cell 7
    have l5 : w5.heap.size < wr.heap.size := HE.out.lt
    by_cases hlt : k < 8
    · by_cases hid : (k : Int) = 2 + r1
      · have t1 : ((k : Int) != 2 + r1) = false := by simp [hid]
        go_wp2
        go_roundw
        case rel => exact ⟨k + 1, _, zs, by omega, by omega, hzl, by go_num, HE, OW⟩
        case measure => simp [intOf]; omega
      · have t1 : ((k : Int) != 2 + r1) = true := by simp [hid]
        by_cases hzz : zs.length < 2
        · have t2 : decide ((zs.length : Int) < 2) = true := by simp; omega
          go_wp2_with fail
          refine (draw_one base g 4 _ HE.out.1 (by omega)).mono ?_
          rintro e w6 ⟨b4, rfl, hs, hg, -⟩
          have OW : Hid (w6.ownsRow (w5.heap.size + 1) 2 1 (.slice a zs.length cap) zs.length (nv zs)) := OW.out.kept hg (.inr fun h => by have := (OW.out.lt g h).1; have := HE.out.2.2.2.2; omega)
          have HE : Hid (EE w base g w.heap.size w5.heap.size #[.int .i64 (2 + r1), .int .i64 (1 + r2), .int .i64 (1 + r3), .int .i64 kd, .int .i64 ky, .int .i64 nn, .string tx, .slice a zs.length cap, .int .i64 r4] w6) := HE.out.num hs hg
          clear hs hg
          cases b4
          · go_wp2
            go_roundw
            case rel => exact ⟨k + 1, _, zs, by omega, by omega, hzl, by go_num, HE, OW⟩
            case measure => simp [intOf]; omega
          · have c7 : w6.cell? ⟨w5.heap.size, 7, none⟩ = some (.slice a zs.length cap) := HE.out.cell 7
            have l6 : w5.heap.size < w6.heap.size := HE.out.lt
            clear t1 t2
            go_wp2_with (at_builtin; refine wpList_append_own _ rfl (.tmp 38) (.tmp 40) 23 rfl (w5.heap.size + 1) 2 i0 (.int .i64 0) 1 8 Try.underlying23 hi hz0 hz1 hz2 rfl (by decide) _ _ _ rfl (OW.out.alloc _) ⟨w6.heap.size, 0, none⟩ 1 1 [.int .i64 k] rfl rfl (cell_one_new _ _ _) (by intro u hu; simp at hu; subst hu; rfl) (by unfold maxLen; omega) (by omega) (by simp; omega) ?_; intro v1 w7 hown1 hgrow1 hnil1; obtain ⟨a1, cap1, rfl⟩ := own_slice hown1; have HE7 : Hid (EE w base g w.heap.size w5.heap.size #[.int .i64 (2 + r1), .int .i64 (1 + r2), .int .i64 (1 + r3), .int .i64 kd, .int .i64 ky, .int .i64 nn, .string tx, .slice a zs.length cap, .int .i64 r4] w7) := (HE.out.alloc _).grown hgrow1 (fun q hq => (OW.out.lt q hq).1); have f7 := HE7.out.frozen 7; have c77 : w7.cell? ⟨w5.heap.size, 7, none⟩ = some (.slice a zs.length cap) := HE7.out.cell 7; have HO7 : Hid (w7.ownsRow (w5.heap.size + 1) 2 1 (.slice a1 (zs.length + 1) cap1) (zs.length + 1) (nv zs ++ [.int .i64 k])) := hown1; clear hown1 hgrow1 hnil1)
            have HE : Hid (EE w base g w.heap.size w5.heap.size #[.int .i64 (2 + r1), .int .i64 (1 + r2), .int .i64 (1 + r3), .int .i64 kd, .int .i64 ky, .int .i64 nn, .string tx, .slice a1 (zs.length + 1) cap1, .int .i64 r4] (w7.setCell ⟨w5.heap.size, 7, none⟩ (.slice a1 (zs.length + 1) cap1))) := HE7.out.set 7 _
            have OW : Hid ((w7.setCell ⟨w5.heap.size, 7, none⟩ (.slice a1 (zs.length + 1) cap1)).ownsRow (w5.heap.size + 1) 2 1 (.slice a1 (zs.length + 1) cap1) (zs ++ [(k : Int)]).length (nv (zs ++ [(k : Int)]))) := by
              have := ownsRow_setCell_below HO7.out (a := ⟨w5.heap.size, 7, none⟩) (by simp) (.slice a1 (zs.length + 1) cap1)
              unfold Hid
              simpa [nv] using this
            go_roundw
            case rel => exact ⟨k + 1, (.slice a1 (zs.length + 1) cap1), zs ++ [(k : Int)], by omega, by omega, by simp; omega, by go_num, HE, OW⟩
            case measure => simp [intOf]; omega
        · have t2 : decide ((zs.length : Int) < 2) = false := by simp; omega
          go_wp2
          go_roundw
          case rel => exact ⟨k + 1, _, zs, by omega, by omega, hzl, by go_num, HE, OW⟩
          case measure => simp [intOf]; omega
    · by_cases hz9 : zs.length = 0
      · have t3 : (((zs.length : Nat) : Int) == 0) = true := by simp [hz9]
        have f7 : ∀ o, wr.frozen? ⟨w5.heap.size, o, none⟩ = false := fun o => HE.out.frozen o
        have OW : Hid (((wr.setCell ⟨w5.heap.size, 7, none⟩ (.slice (some ⟨wr.heap.size, 0, none⟩) 1 1)).alloc (.cells #[.int .i64 1] 2)).ownsRow (w5.heap.size + 1) 2 1 (.slice (some ⟨wr.heap.size, 0, none⟩) 1 1) 1 (nv [(1 : Int)])) := ⟨rfl, .inr ⟨wr.heap.size, 1, #[.int .i64 1], rfl, by omega, (by simpa using (MapKept.heap_alloc (wr.setCell ⟨w5.heap.size, 7, none⟩ (.slice (some ⟨wr.heap.size, 0, none⟩) 1 1)) (.cells #[.int .i64 1] 2)).1), by omega, by decide, rfl, rfl⟩⟩
        have HE : Hid (EE w base g w.heap.size w5.heap.size #[.int .i64 (2 + r1), .int .i64 (1 + r2), .int .i64 (1 + r3), .int .i64 kd, .int .i64 ky, .int .i64 nn, .string tx, .slice (some ⟨wr.heap.size, 0, none⟩) 1 1, .int .i64 r4] ((wr.setCell ⟨w5.heap.size, 7, none⟩ (.slice (some ⟨wr.heap.size, 0, none⟩) 1 1)).alloc (.cells #[.int .i64 1] 2))) := (HE.out.set 7 _).alloc _
        go_wp2_with fail
        refine (draw_one base g 8 _ HE.out.1 (by omega)).mono ?_
        rintro e w6 ⟨b8, rfl, hs, hg, -⟩
        have OW : Hid (w6.ownsRow (w5.heap.size + 1) 2 1 (.slice (some ⟨wr.heap.size, 0, none⟩) 1 1) 1 (nv [(1 : Int)])) := OW.out.kept hg (.inr fun h => by have := (OW.out.lt g h).1; have := HE.out.2.2.2.2; omega)
        have HE : Hid (EE w base g w.heap.size w5.heap.size #[.int .i64 (2 + r1), .int .i64 (1 + r2), .int .i64 (1 + r3), .int .i64 kd, .int .i64 ky, .int .i64 nn, .string tx, .slice (some ⟨wr.heap.size, 0, none⟩) 1 1, .int .i64 r4] w6) := HE.out.num hs hg
        clear hs hg
        cases b8
        · go_wp2_with fail
          refine (draw_one base g 15 _ HE.out.1 (by omega)).mono ?_
          rintro e w8 ⟨b15, rfl, hs, hg, -⟩
          have OW : Hid (w8.ownsRow (w5.heap.size + 1) 2 1 (.slice (some ⟨wr.heap.size, 0, none⟩) 1 1) 1 (nv [(1 : Int)])) := OW.out.kept hg (.inr fun h => by have := (OW.out.lt g h).1; have := HE.out.2.2.2.2; omega)
          have HE : Hid (EE w base g w.heap.size w5.heap.size #[.int .i64 (2 + r1), .int .i64 (1 + r2), .int .i64 (1 + r3), .int .i64 kd, .int .i64 ky, .int .i64 nn, .string tx, .slice (some ⟨wr.heap.size, 0, none⟩) 1 1, .int .i64 r4] w8) := HE.out.num hs hg
          clear hs hg
          cases b15
          · have a0 : w8.cell? ⟨w5.heap.size, 0, none⟩ = some (.int .i64 (2 + r1)) := HE.out.cell 0
            have a1 : w8.cell? ⟨w5.heap.size, 1, none⟩ = some (.int .i64 (1 + r2)) := HE.out.cell 1
            have a2 : w8.cell? ⟨w5.heap.size, 2, none⟩ = some (.int .i64 (1 + r3)) := HE.out.cell 2
            have a3 : w8.cell? ⟨w5.heap.size, 3, none⟩ = some (.int .i64 kd) := HE.out.cell 3
            have a4 : w8.cell? ⟨w5.heap.size, 4, none⟩ = some (.int .i64 ky) := HE.out.cell 4
            have a5 : w8.cell? ⟨w5.heap.size, 5, none⟩ = some (.int .i64 nn) := HE.out.cell 5
            have a6 : w8.cell? ⟨w5.heap.size, 6, none⟩ = some (.string tx) := HE.out.cell 6
            have a7 : w8.cell? ⟨w5.heap.size, 7, none⟩ = some (.slice (some ⟨wr.heap.size, 0, none⟩) 1 1) := HE.out.cell 7
            have a8 : w8.cell? ⟨w5.heap.size, 8, none⟩ = some (.int .i64 r4) := HE.out.cell 8
            obtain ⟨cz, hcz, hh⟩ := HE.out.2.2.1
            obtain ⟨u0, u1, u2, u3, u4, u5, u6, u7, u8, rfl⟩ := array9 hcz
            have fr : ∀ o, w8.frozen? ⟨w.heap.size, o, none⟩ = false := fun o => frozen_of_heap hh
            have b0 : w8.cell? ⟨w.heap.size, 0, none⟩ = some u0 := cell_of_heap hh
            have b1 : w8.cell? ⟨w.heap.size, 1, none⟩ = some u1 := cell_of_heap hh
            have b2 : w8.cell? ⟨w.heap.size, 2, none⟩ = some u2 := cell_of_heap hh
            have b3 : w8.cell? ⟨w.heap.size, 3, none⟩ = some u3 := cell_of_heap hh
            have b4 : w8.cell? ⟨w.heap.size, 4, none⟩ = some u4 := cell_of_heap hh
            have b5 : w8.cell? ⟨w.heap.size, 5, none⟩ = some u5 := cell_of_heap hh
            have b6 : w8.cell? ⟨w.heap.size, 6, none⟩ = some u6 := cell_of_heap hh
            have b7 : w8.cell? ⟨w.heap.size, 7, none⟩ = some u7 := cell_of_heap hh
            have b8 : w8.cell? ⟨w.heap.size, 8, none⟩ = some u8 := cell_of_heap hh
            clear hh hcz
            go_wp2
            refine bodyPost_ret (v := .agg #[.int .i64 (2 + r1), .int .i64 (1 + r2), .int .i64 (1 + r3), .int .i64 kd, .int .i64 ky, .int .i64 nn, .string tx, .slice (some ⟨wr.heap.size, 0, none⟩) 1 1, .int .i64 r4]) (by simp [results, Try.results43, go_sem, b0, b1, b2, b3, b4, b5, b6, b7, b8]) rfl ?_
            exact event_end HE.out OW.out rfl (by omega) _ _ _ _ _ _ _ _ _ _ _ _ _ _ _ _ _ (by first | exact HTX.out | exact Nat.zero_le _ | exact zeros_size (by omega))
          · go_wp2_with fail
            refine (draw_n base g 7 _ HE.out.1 (by omega)).mono ?_
            rintro e w9 ⟨r9, rfl, pr9, qr9, -, hs, hg, -⟩
            have qr9 : r9 < 7 := qr9 (by omega)
            have OW : Hid (w9.ownsRow (w5.heap.size + 1) 2 1 (.slice (some ⟨wr.heap.size, 0, none⟩) 1 1) 1 (nv [(1 : Int)])) := OW.out.kept hg (.inr fun h => by have := (OW.out.lt g h).1; have := HE.out.2.2.2.2; omega)
            have HE : Hid (EE w base g w.heap.size w5.heap.size #[.int .i64 (2 + r1), .int .i64 (1 + r2), .int .i64 (1 + r3), .int .i64 kd, .int .i64 ky, .int .i64 nn, .string tx, .slice (some ⟨wr.heap.size, 0, none⟩) 1 1, .int .i64 r4] w9) := HE.out.num hs hg
            clear hs hg
            obtain ⟨m, rfl⟩ := Int.eq_ofNat_of_zero_le pr9
            rcases (show m = 0 ∨ m = 1 ∨ m = 2 ∨ m = 3 ∨ m = 4 ∨ m = 5 ∨ m = 6 by omega) with rfl | rfl | rfl | rfl | rfl | rfl | rfl
            · go_wp2_with fail
              refine (draw_n base g 4 _ (HE.out.alloc _).1 (by omega)).mono ?_
              rintro e w10 ⟨r10, rfl, pr10, qr10, -, hs, hg, -⟩
              have qr10 : r10 < 4 := qr10 (by omega)
              obtain ⟨i10, rfl⟩ := Int.eq_ofNat_of_zero_le pr10
              obtain ⟨y, hy⟩ : ∃ y : Int, w10.cell? ⟨w9.heap.size, i10, none⟩ = some (.int .i64 y) := by
                have hb := World.cell?_of_block (a := ⟨w9.heap.size, i10, none⟩) (hg.block w9.heap.size (by simp) (by simp; have := HE.out.lt; have := HE.out.2.2.2.2; omega))
                rw [hb]
                rcases (show i10 = 0 ∨ i10 = 1 ∨ i10 = 2 ∨ i10 = 3 by omega) with rfl | rfl | rfl | rfl
                · exact ⟨0, by simp [go_sem]⟩
                · exact ⟨1, by simp [go_sem]⟩
                · exact ⟨1000000, by simp [go_sem]⟩
                · exact ⟨1000001, by simp [go_sem]⟩
              have hL10 : w9.heap.size < w10.heap.size := by have := hg.size; simp at this; omega
              have OW : Hid (w10.ownsRow (w5.heap.size + 1) 2 1 (.slice (some ⟨wr.heap.size, 0, none⟩) 1 1) 1 (nv [(1 : Int)])) := OW.out.kept ((World.grownBy_alloc _ _ _).trans hg) (.inr fun h => by have := (OW.out.lt g h).1; have := HE.out.2.2.2.2; omega)
              have HE : Hid (EE w base g w.heap.size w5.heap.size #[.int .i64 (2 + r1), .int .i64 (1 + r2), .int .i64 (1 + r3), .int .i64 kd, .int .i64 ky, .int .i64 nn, .string tx, .slice (some ⟨wr.heap.size, 0, none⟩) 1 1, .int .i64 r4] w10) := (HE.out.alloc _).num hs hg
              clear hs hg
              have fe : ∀ o, w10.frozen? ⟨w5.heap.size, o, none⟩ = false := fun o => HE.out.frozen o
              have a0 : w10.cell? ⟨w5.heap.size, 0, none⟩ = some (.int .i64 (2 + r1)) := HE.out.cell 0
              have a1 : w10.cell? ⟨w5.heap.size, 1, none⟩ = some (.int .i64 (1 + r2)) := HE.out.cell 1
              have a2 : w10.cell? ⟨w5.heap.size, 2, none⟩ = some (.int .i64 (1 + r3)) := HE.out.cell 2
              have a3 : w10.cell? ⟨w5.heap.size, 3, none⟩ = some (.int .i64 kd) := HE.out.cell 3
              have a4 : w10.cell? ⟨w5.heap.size, 4, none⟩ = some (.int .i64 ky) := HE.out.cell 4
              have a5 : w10.cell? ⟨w5.heap.size, 5, none⟩ = some (.int .i64 nn) := HE.out.cell 5
              have a6 : w10.cell? ⟨w5.heap.size, 6, none⟩ = some (.string tx) := HE.out.cell 6
              have a7 : w10.cell? ⟨w5.heap.size, 7, none⟩ = some (.slice (some ⟨wr.heap.size, 0, none⟩) 1 1) := HE.out.cell 7
              have a8 : w10.cell? ⟨w5.heap.size, 8, none⟩ = some (.int .i64 r4) := HE.out.cell 8
              obtain ⟨cz, hcz, hh⟩ := HE.out.2.2.1
              obtain ⟨u0, u1, u2, u3, u4, u5, u6, u7, u8, rfl⟩ := array9 hcz
              have fr : ∀ o, w10.frozen? ⟨w.heap.size, o, none⟩ = false := fun o => frozen_of_heap hh
              have b0 : w10.cell? ⟨w.heap.size, 0, none⟩ = some u0 := cell_of_heap hh
              have b1 : w10.cell? ⟨w.heap.size, 1, none⟩ = some u1 := cell_of_heap hh
              have b2 : w10.cell? ⟨w.heap.size, 2, none⟩ = some u2 := cell_of_heap hh
              have b3 : w10.cell? ⟨w.heap.size, 3, none⟩ = some u3 := cell_of_heap hh
              have b4 : w10.cell? ⟨w.heap.size, 4, none⟩ = some u4 := cell_of_heap hh
              have b5 : w10.cell? ⟨w.heap.size, 5, none⟩ = some u5 := cell_of_heap hh
              have b6 : w10.cell? ⟨w.heap.size, 6, none⟩ = some u6 := cell_of_heap hh
              have b7 : w10.cell? ⟨w.heap.size, 7, none⟩ = some u7 := cell_of_heap hh
              have b8 : w10.cell? ⟨w.heap.size, 8, none⟩ = some u8 := cell_of_heap hh
              clear hh hcz
              have OW : Hid ((w10.setCell ⟨w5.heap.size, 0, none⟩ (.int .i64 y)).ownsRow (w5.heap.size + 1) 2 1 (.slice (some ⟨wr.heap.size, 0, none⟩) 1 1) 1 (nv [(1 : Int)])) := ownsRow_setCell_below OW.out (by simp) _
              have HE : Hid (EE w base g w.heap.size w5.heap.size #[.int .i64 y, .int .i64 (1 + r2), .int .i64 (1 + r3), .int .i64 kd, .int .i64 ky, .int .i64 nn, .string tx, .slice (some ⟨wr.heap.size, 0, none⟩) 1 1, .int .i64 r4] (w10.setCell ⟨w5.heap.size, 0, none⟩ (.int .i64 y))) := HE.out.set 0 _
              go_wp2
              refine bodyPost_ret (v := .agg #[.int .i64 y, .int .i64 (1 + r2), .int .i64 (1 + r3), .int .i64 kd, .int .i64 ky, .int .i64 nn, .string tx, .slice (some ⟨wr.heap.size, 0, none⟩) 1 1, .int .i64 r4]) (by simp [results, Try.results43, go_sem, b0, b1, b2, b3, b4, b5, b6, b7, b8]) rfl ?_
              exact event_end HE.out OW.out rfl (by omega) _ _ _ _ _ _ _ _ _ _ _ _ _ _ _ _ _ (by first | exact HTX.out | exact Nat.zero_le _ | exact zeros_size (by omega))
            · go_wp2_with fail
              refine (draw_n base g 5 _ HE.out.1 (by omega)).mono ?_
              rintro e w10 ⟨r10, rfl, pr10, qr10, -, hs, hg, -⟩
              have qr10 : r10 < 5 := qr10 (by omega)
              have OW : Hid (w10.ownsRow (w5.heap.size + 1) 2 1 (.slice (some ⟨wr.heap.size, 0, none⟩) 1 1) 1 (nv [(1 : Int)])) := OW.out.kept hg (.inr fun h => by have := (OW.out.lt g h).1; have := HE.out.2.2.2.2; omega)
              have HE : Hid (EE w base g w.heap.size w5.heap.size #[.int .i64 (2 + r1), .int .i64 (1 + r2), .int .i64 (1 + r3), .int .i64 kd, .int .i64 ky, .int .i64 nn, .string tx, .slice (some ⟨wr.heap.size, 0, none⟩) 1 1, .int .i64 r4] w10) := HE.out.num hs hg
              clear hs hg
              have fe : ∀ o, w10.frozen? ⟨w5.heap.size, o, none⟩ = false := fun o => HE.out.frozen o
              have a0 : w10.cell? ⟨w5.heap.size, 0, none⟩ = some (.int .i64 (2 + r1)) := HE.out.cell 0
              have a1 : w10.cell? ⟨w5.heap.size, 1, none⟩ = some (.int .i64 (1 + r2)) := HE.out.cell 1
              have a2 : w10.cell? ⟨w5.heap.size, 2, none⟩ = some (.int .i64 (1 + r3)) := HE.out.cell 2
              have a3 : w10.cell? ⟨w5.heap.size, 3, none⟩ = some (.int .i64 kd) := HE.out.cell 3
              have a4 : w10.cell? ⟨w5.heap.size, 4, none⟩ = some (.int .i64 ky) := HE.out.cell 4
              have a5 : w10.cell? ⟨w5.heap.size, 5, none⟩ = some (.int .i64 nn) := HE.out.cell 5
              have a6 : w10.cell? ⟨w5.heap.size, 6, none⟩ = some (.string tx) := HE.out.cell 6
              have a7 : w10.cell? ⟨w5.heap.size, 7, none⟩ = some (.slice (some ⟨wr.heap.size, 0, none⟩) 1 1) := HE.out.cell 7
              have a8 : w10.cell? ⟨w5.heap.size, 8, none⟩ = some (.int .i64 r4) := HE.out.cell 8
              obtain ⟨cz, hcz, hh⟩ := HE.out.2.2.1
              obtain ⟨u0, u1, u2, u3, u4, u5, u6, u7, u8, rfl⟩ := array9 hcz
              have fr : ∀ o, w10.frozen? ⟨w.heap.size, o, none⟩ = false := fun o => frozen_of_heap hh
              have b0 : w10.cell? ⟨w.heap.size, 0, none⟩ = some u0 := cell_of_heap hh
              have b1 : w10.cell? ⟨w.heap.size, 1, none⟩ = some u1 := cell_of_heap hh
              have b2 : w10.cell? ⟨w.heap.size, 2, none⟩ = some u2 := cell_of_heap hh
              have b3 : w10.cell? ⟨w.heap.size, 3, none⟩ = some u3 := cell_of_heap hh
              have b4 : w10.cell? ⟨w.heap.size, 4, none⟩ = some u4 := cell_of_heap hh
              have b5 : w10.cell? ⟨w.heap.size, 5, none⟩ = some u5 := cell_of_heap hh
              have b6 : w10.cell? ⟨w.heap.size, 6, none⟩ = some u6 := cell_of_heap hh
              have b7 : w10.cell? ⟨w.heap.size, 7, none⟩ = some u7 := cell_of_heap hh
              have b8 : w10.cell? ⟨w.heap.size, 8, none⟩ = some u8 := cell_of_heap hh
              clear hh hcz
              have OW : Hid ((w10.setCell ⟨w5.heap.size, 1, none⟩ (.int .i64 r10)).ownsRow (w5.heap.size + 1) 2 1 (.slice (some ⟨wr.heap.size, 0, none⟩) 1 1) 1 (nv [(1 : Int)])) := ownsRow_setCell_below OW.out (by simp) _
              have HE : Hid (EE w base g w.heap.size w5.heap.size #[.int .i64 (2 + r1), .int .i64 r10, .int .i64 (1 + r3), .int .i64 kd, .int .i64 ky, .int .i64 nn, .string tx, .slice (some ⟨wr.heap.size, 0, none⟩) 1 1, .int .i64 r4] (w10.setCell ⟨w5.heap.size, 1, none⟩ (.int .i64 r10))) := HE.out.set 1 _
              go_wp2
              refine bodyPost_ret (v := .agg #[.int .i64 (2 + r1), .int .i64 r10, .int .i64 (1 + r3), .int .i64 kd, .int .i64 ky, .int .i64 nn, .string tx, .slice (some ⟨wr.heap.size, 0, none⟩) 1 1, .int .i64 r4]) (by simp [results, Try.results43, go_sem, b0, b1, b2, b3, b4, b5, b6, b7, b8]) rfl ?_
              exact event_end HE.out OW.out rfl (by omega) _ _ _ _ _ _ _ _ _ _ _ _ _ _ _ _ _ (by first | exact HTX.out | exact Nat.zero_le _ | exact zeros_size (by omega))
            · go_wp2_with fail
              refine (draw_n base g 8 _ HE.out.1 (by omega)).mono ?_
              rintro e w10 ⟨r10, rfl, pr10, qr10, -, hs, hg, -⟩
              have qr10 : r10 < 8 := qr10 (by omega)
              have OW : Hid (w10.ownsRow (w5.heap.size + 1) 2 1 (.slice (some ⟨wr.heap.size, 0, none⟩) 1 1) 1 (nv [(1 : Int)])) := OW.out.kept hg (.inr fun h => by have := (OW.out.lt g h).1; have := HE.out.2.2.2.2; omega)
              have HE : Hid (EE w base g w.heap.size w5.heap.size #[.int .i64 (2 + r1), .int .i64 (1 + r2), .int .i64 (1 + r3), .int .i64 kd, .int .i64 ky, .int .i64 nn, .string tx, .slice (some ⟨wr.heap.size, 0, none⟩) 1 1, .int .i64 r4] w10) := HE.out.num hs hg
              clear hs hg
              have fe : ∀ o, w10.frozen? ⟨w5.heap.size, o, none⟩ = false := fun o => HE.out.frozen o
              have a0 : w10.cell? ⟨w5.heap.size, 0, none⟩ = some (.int .i64 (2 + r1)) := HE.out.cell 0
              have a1 : w10.cell? ⟨w5.heap.size, 1, none⟩ = some (.int .i64 (1 + r2)) := HE.out.cell 1
              have a2 : w10.cell? ⟨w5.heap.size, 2, none⟩ = some (.int .i64 (1 + r3)) := HE.out.cell 2
              have a3 : w10.cell? ⟨w5.heap.size, 3, none⟩ = some (.int .i64 kd) := HE.out.cell 3
              have a4 : w10.cell? ⟨w5.heap.size, 4, none⟩ = some (.int .i64 ky) := HE.out.cell 4
              have a5 : w10.cell? ⟨w5.heap.size, 5, none⟩ = some (.int .i64 nn) := HE.out.cell 5
              have a6 : w10.cell? ⟨w5.heap.size, 6, none⟩ = some (.string tx) := HE.out.cell 6
              have a7 : w10.cell? ⟨w5.heap.size, 7, none⟩ = some (.slice (some ⟨wr.heap.size, 0, none⟩) 1 1) := HE.out.cell 7
              have a8 : w10.cell? ⟨w5.heap.size, 8, none⟩ = some (.int .i64 r4) := HE.out.cell 8
              obtain ⟨cz, hcz, hh⟩ := HE.out.2.2.1
              obtain ⟨u0, u1, u2, u3, u4, u5, u6, u7, u8, rfl⟩ := array9 hcz
              have fr : ∀ o, w10.frozen? ⟨w.heap.size, o, none⟩ = false := fun o => frozen_of_heap hh
              have b0 : w10.cell? ⟨w.heap.size, 0, none⟩ = some u0 := cell_of_heap hh
              have b1 : w10.cell? ⟨w.heap.size, 1, none⟩ = some u1 := cell_of_heap hh
              have b2 : w10.cell? ⟨w.heap.size, 2, none⟩ = some u2 := cell_of_heap hh
              have b3 : w10.cell? ⟨w.heap.size, 3, none⟩ = some u3 := cell_of_heap hh
              have b4 : w10.cell? ⟨w.heap.size, 4, none⟩ = some u4 := cell_of_heap hh
              have b5 : w10.cell? ⟨w.heap.size, 5, none⟩ = some u5 := cell_of_heap hh
              have b6 : w10.cell? ⟨w.heap.size, 6, none⟩ = some u6 := cell_of_heap hh
              have b7 : w10.cell? ⟨w.heap.size, 7, none⟩ = some u7 := cell_of_heap hh
              have b8 : w10.cell? ⟨w.heap.size, 8, none⟩ = some u8 := cell_of_heap hh
              clear hh hcz
              have OW : Hid ((w10.setCell ⟨w5.heap.size, 2, none⟩ (.int .i64 r10)).ownsRow (w5.heap.size + 1) 2 1 (.slice (some ⟨wr.heap.size, 0, none⟩) 1 1) 1 (nv [(1 : Int)])) := ownsRow_setCell_below OW.out (by simp) _
              have HE : Hid (EE w base g w.heap.size w5.heap.size #[.int .i64 (2 + r1), .int .i64 (1 + r2), .int .i64 r10, .int .i64 kd, .int .i64 ky, .int .i64 nn, .string tx, .slice (some ⟨wr.heap.size, 0, none⟩) 1 1, .int .i64 r4] (w10.setCell ⟨w5.heap.size, 2, none⟩ (.int .i64 r10))) := HE.out.set 2 _
              go_wp2
              refine bodyPost_ret (v := .agg #[.int .i64 (2 + r1), .int .i64 (1 + r2), .int .i64 r10, .int .i64 kd, .int .i64 ky, .int .i64 nn, .string tx, .slice (some ⟨wr.heap.size, 0, none⟩) 1 1, .int .i64 r4]) (by simp [results, Try.results43, go_sem, b0, b1, b2, b3, b4, b5, b6, b7, b8]) rfl ?_
              exact event_end HE.out OW.out rfl (by omega) _ _ _ _ _ _ _ _ _ _ _ _ _ _ _ _ _ (by first | exact HTX.out | exact Nat.zero_le _ | exact zeros_size (by omega))
            · go_wp2_with fail
              refine (draw_n base g 10 _ HE.out.1 (by omega)).mono ?_
              rintro e w10 ⟨r10, rfl, pr10, qr10, -, hs, hg, -⟩
              have qr10 : r10 < 10 := qr10 (by omega)
              have OW : Hid (w10.ownsRow (w5.heap.size + 1) 2 1 (.slice (some ⟨wr.heap.size, 0, none⟩) 1 1) 1 (nv [(1 : Int)])) := OW.out.kept hg (.inr fun h => by have := (OW.out.lt g h).1; have := HE.out.2.2.2.2; omega)
              have HE : Hid (EE w base g w.heap.size w5.heap.size #[.int .i64 (2 + r1), .int .i64 (1 + r2), .int .i64 (1 + r3), .int .i64 kd, .int .i64 ky, .int .i64 nn, .string tx, .slice (some ⟨wr.heap.size, 0, none⟩) 1 1, .int .i64 r4] w10) := HE.out.num hs hg
              clear hs hg
              have fe : ∀ o, w10.frozen? ⟨w5.heap.size, o, none⟩ = false := fun o => HE.out.frozen o
              have a0 : w10.cell? ⟨w5.heap.size, 0, none⟩ = some (.int .i64 (2 + r1)) := HE.out.cell 0
              have a1 : w10.cell? ⟨w5.heap.size, 1, none⟩ = some (.int .i64 (1 + r2)) := HE.out.cell 1
              have a2 : w10.cell? ⟨w5.heap.size, 2, none⟩ = some (.int .i64 (1 + r3)) := HE.out.cell 2
              have a3 : w10.cell? ⟨w5.heap.size, 3, none⟩ = some (.int .i64 kd) := HE.out.cell 3
              have a4 : w10.cell? ⟨w5.heap.size, 4, none⟩ = some (.int .i64 ky) := HE.out.cell 4
              have a5 : w10.cell? ⟨w5.heap.size, 5, none⟩ = some (.int .i64 nn) := HE.out.cell 5
              have a6 : w10.cell? ⟨w5.heap.size, 6, none⟩ = some (.string tx) := HE.out.cell 6
              have a7 : w10.cell? ⟨w5.heap.size, 7, none⟩ = some (.slice (some ⟨wr.heap.size, 0, none⟩) 1 1) := HE.out.cell 7
              have a8 : w10.cell? ⟨w5.heap.size, 8, none⟩ = some (.int .i64 r4) := HE.out.cell 8
              obtain ⟨cz, hcz, hh⟩ := HE.out.2.2.1
              obtain ⟨u0, u1, u2, u3, u4, u5, u6, u7, u8, rfl⟩ := array9 hcz
              have fr : ∀ o, w10.frozen? ⟨w.heap.size, o, none⟩ = false := fun o => frozen_of_heap hh
              have b0 : w10.cell? ⟨w.heap.size, 0, none⟩ = some u0 := cell_of_heap hh
              have b1 : w10.cell? ⟨w.heap.size, 1, none⟩ = some u1 := cell_of_heap hh
              have b2 : w10.cell? ⟨w.heap.size, 2, none⟩ = some u2 := cell_of_heap hh
              have b3 : w10.cell? ⟨w.heap.size, 3, none⟩ = some u3 := cell_of_heap hh
              have b4 : w10.cell? ⟨w.heap.size, 4, none⟩ = some u4 := cell_of_heap hh
              have b5 : w10.cell? ⟨w.heap.size, 5, none⟩ = some u5 := cell_of_heap hh
              have b6 : w10.cell? ⟨w.heap.size, 6, none⟩ = some u6 := cell_of_heap hh
              have b7 : w10.cell? ⟨w.heap.size, 7, none⟩ = some u7 := cell_of_heap hh
              have b8 : w10.cell? ⟨w.heap.size, 8, none⟩ = some u8 := cell_of_heap hh
              clear hh hcz
              have OW : Hid ((w10.setCell ⟨w5.heap.size, 3, none⟩ (.int .i64 r10)).ownsRow (w5.heap.size + 1) 2 1 (.slice (some ⟨wr.heap.size, 0, none⟩) 1 1) 1 (nv [(1 : Int)])) := ownsRow_setCell_below OW.out (by simp) _
              have HE : Hid (EE w base g w.heap.size w5.heap.size #[.int .i64 (2 + r1), .int .i64 (1 + r2), .int .i64 (1 + r3), .int .i64 r10, .int .i64 ky, .int .i64 nn, .string tx, .slice (some ⟨wr.heap.size, 0, none⟩) 1 1, .int .i64 r4] (w10.setCell ⟨w5.heap.size, 3, none⟩ (.int .i64 r10))) := HE.out.set 3 _
              go_wp2
              refine bodyPost_ret (v := .agg #[.int .i64 (2 + r1), .int .i64 (1 + r2), .int .i64 (1 + r3), .int .i64 r10, .int .i64 ky, .int .i64 nn, .string tx, .slice (some ⟨wr.heap.size, 0, none⟩) 1 1, .int .i64 r4]) (by simp [results, Try.results43, go_sem, b0, b1, b2, b3, b4, b5, b6, b7, b8]) rfl ?_
              exact event_end HE.out OW.out rfl (by omega) _ _ _ _ _ _ _ _ _ _ _ _ _ _ _ _ _ (by first | exact HTX.out | exact Nat.zero_le _ | exact zeros_size (by omega))
            · have c7 : w9.cell? ⟨w5.heap.size, 7, none⟩ = some (.slice (some ⟨wr.heap.size, 0, none⟩) 1 1) := HE.out.cell 7
              have l9 : w5.heap.size < w9.heap.size := HE.out.lt
              go_wp2_with fail
              go_region_law (first
                | (refine step_append_lies _ rfl (.tmp 93) (.tmp 96) 23 rfl (w5.heap.size + 1) 2 i0 (.int .i64 0) 1 8 Try.underlying23 hi hz0 hz1 hz2 rfl (by decide) (.slice (some ⟨wr.heap.size, 0, none⟩) 1 1) 1 (nv [(1 : Int)]) rfl (OW10.out.alloc _) ⟨w10.heap.size, 0, none⟩ 1 1 [.int .i64 r10] rfl rfl (cell_one_new _ _ _) (by intro u hu; simp at hu; subst hu; rfl) (by decide) (by unfold maxLen; omega) (by omega) (by have := HE10.out.lt; simp; omega) _ rfl ?_; intro g3 cap3 w11 hown9 hgrow9 hat9 hlt9; have HE11 : Hid (EE w base g w.heap.size w5.heap.size #[.int .i64 (2 + r1), .int .i64 (1 + r2), .int .i64 (1 + r3), .int .i64 kd, .int .i64 ky, .int .i64 nn, .string tx, .slice (some ⟨wr.heap.size, 0, none⟩) 1 1, .int .i64 r4] w11) := (HE10.out.alloc _).grown hgrow9 (fun q hq => (OW10.out.lt q hq).1); have OW11 : Hid (w11.ownsRow (w5.heap.size + 1) 2 1 (.slice (some ⟨g3, 0, none⟩) 2 cap3) 2 (nv [(1 : Int)] ++ [.int .i64 r10])) := hown9; have fe : (∀ o, w11.frozen? ⟨w5.heap.size, o, none⟩ = false) := (fun o => HE11.out.frozen o); have a0 : w11.cell? ⟨w5.heap.size, 0, none⟩ = some (.int .i64 (2 + r1)) := HE11.out.cell 0; have a1 : w11.cell? ⟨w5.heap.size, 1, none⟩ = some (.int .i64 (1 + r2)) := HE11.out.cell 1; have a2 : w11.cell? ⟨w5.heap.size, 2, none⟩ = some (.int .i64 (1 + r3)) := HE11.out.cell 2; have a3 : w11.cell? ⟨w5.heap.size, 3, none⟩ = some (.int .i64 kd) := HE11.out.cell 3; have a4 : w11.cell? ⟨w5.heap.size, 4, none⟩ = some (.int .i64 ky) := HE11.out.cell 4; have a5 : w11.cell? ⟨w5.heap.size, 5, none⟩ = some (.int .i64 nn) := HE11.out.cell 5; have a6 : w11.cell? ⟨w5.heap.size, 6, none⟩ = some (.string tx) := HE11.out.cell 6; have a7 : w11.cell? ⟨w5.heap.size, 7, none⟩ = some (.slice (some ⟨wr.heap.size, 0, none⟩) 1 1) := HE11.out.cell 7; have a8 : w11.cell? ⟨w5.heap.size, 8, none⟩ = some (.int .i64 r4) := HE11.out.cell 8; obtain ⟨cz, hcz, hh⟩ := HE11.out.2.2.1; obtain ⟨u0, u1, u2, u3, u4, u5, u6, u7, u8, rfl⟩ := array9 hcz; have fr : ∀ o, w11.frozen? ⟨w.heap.size, o, none⟩ = false := fun o => frozen_of_heap hh; have b0 : w11.cell? ⟨w.heap.size, 0, none⟩ = some u0 := cell_of_heap hh; have b1 : w11.cell? ⟨w.heap.size, 1, none⟩ = some u1 := cell_of_heap hh; have b2 : w11.cell? ⟨w.heap.size, 2, none⟩ = some u2 := cell_of_heap hh; have b3 : w11.cell? ⟨w.heap.size, 3, none⟩ = some u3 := cell_of_heap hh; have b4 : w11.cell? ⟨w.heap.size, 4, none⟩ = some u4 := cell_of_heap hh; have b5 : w11.cell? ⟨w.heap.size, 5, none⟩ = some u5 := cell_of_heap hh; have b6 : w11.cell? ⟨w.heap.size, 6, none⟩ = some u6 := cell_of_heap hh; have b7 : w11.cell? ⟨w.heap.size, 7, none⟩ = some u7 := cell_of_heap hh; have b8 : w11.cell? ⟨w.heap.size, 8, none⟩ = some u8 := cell_of_heap hh; clear hh hcz; clear hown9 hgrow9 hat9 hlt9)
                | (go_simp; go_at_call 48; refine (draw_n base g 9 w9.drew HE.out.drew.1 (by omega)).mono ?_; rintro e w10 ⟨r10, rfl, p10, q10, -, hs, hg, -⟩; have hg : w9.grownBy w10 (some g) := ⟨hg.os, hg.tape, hg.output, hg.size, hg.block⟩; have HE10 : Hid (EE w base g w.heap.size w5.heap.size #[.int .i64 (2 + r1), .int .i64 (1 + r2), .int .i64 (1 + r3), .int .i64 kd, .int .i64 ky, .int .i64 nn, .string tx, .slice (some ⟨wr.heap.size, 0, none⟩) 1 1, .int .i64 r4] w10) := HE.out.num hs hg; have OW10 : Hid (w10.ownsRow (w5.heap.size + 1) 2 1 (.slice (some ⟨wr.heap.size, 0, none⟩) 1 1) 1 (nv [(1 : Int)])) := OW.out.kept hg (.inr fun h => (by have := (OW.out.lt g h).1; have := HE.out.2.2.2.2; omega)); have c10 : w10.cell? ⟨w5.heap.size, 7, none⟩ = some (.slice (some ⟨wr.heap.size, 0, none⟩) 1 1) := HE10.out.cell 7; have l10 : w5.heap.size < w10.heap.size := HE10.out.lt; clear hs hg p10 q10))
              all_goals
                have OW : Hid ((w11.setCell ⟨w5.heap.size, 7, none⟩ (.slice (some ⟨g3, 0, none⟩) 2 cap3)).ownsRow (w5.heap.size + 1) 2 1 (.slice (some ⟨g3, 0, none⟩) 2 cap3) 2 (nv ([(1 : Int)] ++ [r10]))) := by
                  have := ownsRow_setCell_below OW11.out (a := ⟨w5.heap.size, 7, none⟩) (by simp) (.slice (some ⟨g3, 0, none⟩) 2 cap3)
                  unfold Hid
                  simpa [nv] using this
                have HE : Hid (EE w base g w.heap.size w5.heap.size #[.int .i64 (2 + r1), .int .i64 (1 + r2), .int .i64 (1 + r3), .int .i64 kd, .int .i64 ky, .int .i64 nn, .string tx, .slice (some ⟨g3, 0, none⟩) 2 cap3, .int .i64 r4] (w11.setCell ⟨w5.heap.size, 7, none⟩ (.slice (some ⟨g3, 0, none⟩) 2 cap3))) := HE11.out.set 7 _
                go_wp2
                refine bodyPost_ret (v := .agg #[.int .i64 (2 + r1), .int .i64 (1 + r2), .int .i64 (1 + r3), .int .i64 kd, .int .i64 ky, .int .i64 nn, .string tx, .slice (some ⟨g3, 0, none⟩) 2 cap3, .int .i64 r4]) (by simp [results, Try.results43, go_sem, b0, b1, b2, b3, b4, b5, b6, b7, b8]) rfl ?_
                exact event_end HE.out OW.out (by simp) (by omega) _ _ _ _ _ _ _ _ _ _ _ _ _ _ _ _ _ (by first | exact HTX.out | exact Nat.zero_le _ | exact zeros_size (by omega))
            · go_wp2_with fail
              refine (draw_n base g 3 _ HE.out.1 (by omega)).mono ?_
              rintro e w10 ⟨r10, rfl, pr10, qr10, -, hs, hg, -⟩
              have qr10 : r10 < 3 := qr10 (by omega)
              have OW : Hid (w10.ownsRow (w5.heap.size + 1) 2 1 (.slice (some ⟨wr.heap.size, 0, none⟩) 1 1) 1 (nv [(1 : Int)])) := OW.out.kept hg (.inr fun h => by have := (OW.out.lt g h).1; have := HE.out.2.2.2.2; omega)
              have HE : Hid (EE w base g w.heap.size w5.heap.size #[.int .i64 (2 + r1), .int .i64 (1 + r2), .int .i64 (1 + r3), .int .i64 kd, .int .i64 ky, .int .i64 nn, .string tx, .slice (some ⟨wr.heap.size, 0, none⟩) 1 1, .int .i64 r4] w10) := HE.out.num hs hg
              clear hs hg
              obtain ⟨m10, rfl⟩ := Int.eq_ofNat_of_zero_le pr10
              obtain ⟨j0, hj, hy0, hy1, hy2⟩ := info_parts Try.info5
              go_wp2_with (at_make; refine wpList_make_full _ rfl _ _ 22 rfl w10.heap.size 5 j0 (.int .u8 0) 1 Try.underlying22 hj hy0 hy1 .i64 .i64 _ _ (29 + m10) rfl rfl (by omega) (by omega) (by rw [hy2]; omega) (by unfold maxLen; omega) (Nat.le_refl _) ?_; intro w11 hown hgrow; rw [made_zeros, ← zeros_bv] at hown; have hcv := own_string (P := Try.prog) (n := 29 + m10) (List.replicate (29 + m10) 0) Try.underlying22 Try.underlying5 Try.underlying9 (by simp) hown; have OW : Hid (w11.ownsRow (w5.heap.size + 1) 2 1 (.slice (some ⟨wr.heap.size, 0, none⟩) 1 1) 1 (nv [(1 : Int)])) := OW.out.kept hgrow (Classical.em _); have HE : Hid (EE w base g w.heap.size w5.heap.size #[.int .i64 (2 + r1), .int .i64 (1 + r2), .int .i64 (1 + r3), .int .i64 kd, .int .i64 ky, .int .i64 nn, .string tx, .slice (some ⟨wr.heap.size, 0, none⟩) 1 1, .int .i64 r4] w11) := HE.out.grown hgrow (fun q hq => (by cases hq)); have fe : (∀ o, w11.frozen? ⟨w5.heap.size, o, none⟩ = false) := (fun o => HE.out.frozen o); have a0 : w11.cell? ⟨w5.heap.size, 0, none⟩ = some (.int .i64 (2 + r1)) := HE.out.cell 0; have a1 : w11.cell? ⟨w5.heap.size, 1, none⟩ = some (.int .i64 (1 + r2)) := HE.out.cell 1; have a2 : w11.cell? ⟨w5.heap.size, 2, none⟩ = some (.int .i64 (1 + r3)) := HE.out.cell 2; have a3 : w11.cell? ⟨w5.heap.size, 3, none⟩ = some (.int .i64 kd) := HE.out.cell 3; have a4 : w11.cell? ⟨w5.heap.size, 4, none⟩ = some (.int .i64 ky) := HE.out.cell 4; have a5 : w11.cell? ⟨w5.heap.size, 5, none⟩ = some (.int .i64 nn) := HE.out.cell 5; have a6 : w11.cell? ⟨w5.heap.size, 6, none⟩ = some (.string tx) := HE.out.cell 6; have a7 : w11.cell? ⟨w5.heap.size, 7, none⟩ = some (.slice (some ⟨wr.heap.size, 0, none⟩) 1 1) := HE.out.cell 7; have a8 : w11.cell? ⟨w5.heap.size, 8, none⟩ = some (.int .i64 r4) := HE.out.cell 8; obtain ⟨cz, hcz, hh⟩ := HE.out.2.2.1; obtain ⟨u0, u1, u2, u3, u4, u5, u6, u7, u8, rfl⟩ := array9 hcz; have fr : ∀ o, w11.frozen? ⟨w.heap.size, o, none⟩ = false := fun o => frozen_of_heap hh; have b0 : w11.cell? ⟨w.heap.size, 0, none⟩ = some u0 := cell_of_heap hh; have b1 : w11.cell? ⟨w.heap.size, 1, none⟩ = some u1 := cell_of_heap hh; have b2 : w11.cell? ⟨w.heap.size, 2, none⟩ = some u2 := cell_of_heap hh; have b3 : w11.cell? ⟨w.heap.size, 3, none⟩ = some u3 := cell_of_heap hh; have b4 : w11.cell? ⟨w.heap.size, 4, none⟩ = some u4 := cell_of_heap hh; have b5 : w11.cell? ⟨w.heap.size, 5, none⟩ = some u5 := cell_of_heap hh; have b6 : w11.cell? ⟨w.heap.size, 6, none⟩ = some u6 := cell_of_heap hh; have b7 : w11.cell? ⟨w.heap.size, 7, none⟩ = some u7 := cell_of_heap hh; have b8 : w11.cell? ⟨w.heap.size, 8, none⟩ = some u8 := cell_of_heap hh; clear hh hcz; clear hown hgrow)
              have OW : Hid ((w11.setCell ⟨w5.heap.size, 6, none⟩ (.string ⟨(List.replicate (29 + m10) 0).toArray⟩)).ownsRow (w5.heap.size + 1) 2 1 (.slice (some ⟨wr.heap.size, 0, none⟩) 1 1) 1 (nv [(1 : Int)])) := ownsRow_setCell_below OW.out (by simp) _
              have HE : Hid (EE w base g w.heap.size w5.heap.size #[.int .i64 (2 + r1), .int .i64 (1 + r2), .int .i64 (1 + r3), .int .i64 kd, .int .i64 ky, .int .i64 nn, .string ⟨(List.replicate (29 + m10) 0).toArray⟩, .slice (some ⟨wr.heap.size, 0, none⟩) 1 1, .int .i64 r4] (w11.setCell ⟨w5.heap.size, 6, none⟩ (.string ⟨(List.replicate (29 + m10) 0).toArray⟩))) := HE.out.set 6 _
              refine bodyPost_ret (v := .agg #[.int .i64 (2 + r1), .int .i64 (1 + r2), .int .i64 (1 + r3), .int .i64 kd, .int .i64 ky, .int .i64 nn, .string ⟨(List.replicate (29 + m10) 0).toArray⟩, .slice (some ⟨wr.heap.size, 0, none⟩) 1 1, .int .i64 r4]) (by simp [results, Try.results43, go_sem, b0, b1, b2, b3, b4, b5, b6, b7, b8]) rfl ?_
              exact event_end HE.out OW.out rfl (by omega) _ _ _ _ _ _ _ _ _ _ _ _ _ _ _ _ _ (by first | exact HTX.out | exact Nat.zero_le _ | exact zeros_size (by omega))
            · go_wp2_with fail
              refine (draw_edge2 base g _ HE.out.1).mono ?_
              rintro e w10 ⟨r10, rfl, -, -, hs, hg⟩
              have OW : Hid (w10.ownsRow (w5.heap.size + 1) 2 1 (.slice (some ⟨wr.heap.size, 0, none⟩) 1 1) 1 (nv [(1 : Int)])) := OW.out.kept hg (.inr fun h => by have := (OW.out.lt g h).1; have := HE.out.2.2.2.2; omega)
              have HE : Hid (EE w base g w.heap.size w5.heap.size #[.int .i64 (2 + r1), .int .i64 (1 + r2), .int .i64 (1 + r3), .int .i64 kd, .int .i64 ky, .int .i64 nn, .string tx, .slice (some ⟨wr.heap.size, 0, none⟩) 1 1, .int .i64 r4] w10) := HE.out.num hs hg
              clear hs hg
              have fe : ∀ o, w10.frozen? ⟨w5.heap.size, o, none⟩ = false := fun o => HE.out.frozen o
              have a0 : w10.cell? ⟨w5.heap.size, 0, none⟩ = some (.int .i64 (2 + r1)) := HE.out.cell 0
              have a1 : w10.cell? ⟨w5.heap.size, 1, none⟩ = some (.int .i64 (1 + r2)) := HE.out.cell 1
              have a2 : w10.cell? ⟨w5.heap.size, 2, none⟩ = some (.int .i64 (1 + r3)) := HE.out.cell 2
              have a3 : w10.cell? ⟨w5.heap.size, 3, none⟩ = some (.int .i64 kd) := HE.out.cell 3
              have a4 : w10.cell? ⟨w5.heap.size, 4, none⟩ = some (.int .i64 ky) := HE.out.cell 4
              have a5 : w10.cell? ⟨w5.heap.size, 5, none⟩ = some (.int .i64 nn) := HE.out.cell 5
              have a6 : w10.cell? ⟨w5.heap.size, 6, none⟩ = some (.string tx) := HE.out.cell 6
              have a7 : w10.cell? ⟨w5.heap.size, 7, none⟩ = some (.slice (some ⟨wr.heap.size, 0, none⟩) 1 1) := HE.out.cell 7
              have a8 : w10.cell? ⟨w5.heap.size, 8, none⟩ = some (.int .i64 r4) := HE.out.cell 8
              obtain ⟨cz, hcz, hh⟩ := HE.out.2.2.1
              obtain ⟨u0, u1, u2, u3, u4, u5, u6, u7, u8, rfl⟩ := array9 hcz
              have fr : ∀ o, w10.frozen? ⟨w.heap.size, o, none⟩ = false := fun o => frozen_of_heap hh
              have b0 : w10.cell? ⟨w.heap.size, 0, none⟩ = some u0 := cell_of_heap hh
              have b1 : w10.cell? ⟨w.heap.size, 1, none⟩ = some u1 := cell_of_heap hh
              have b2 : w10.cell? ⟨w.heap.size, 2, none⟩ = some u2 := cell_of_heap hh
              have b3 : w10.cell? ⟨w.heap.size, 3, none⟩ = some u3 := cell_of_heap hh
              have b4 : w10.cell? ⟨w.heap.size, 4, none⟩ = some u4 := cell_of_heap hh
              have b5 : w10.cell? ⟨w.heap.size, 5, none⟩ = some u5 := cell_of_heap hh
              have b6 : w10.cell? ⟨w.heap.size, 6, none⟩ = some u6 := cell_of_heap hh
              have b7 : w10.cell? ⟨w.heap.size, 7, none⟩ = some u7 := cell_of_heap hh
              have b8 : w10.cell? ⟨w.heap.size, 8, none⟩ = some u8 := cell_of_heap hh
              clear hh hcz
              have OW : Hid ((w10.setCell ⟨w5.heap.size, 5, none⟩ (.int .i64 r10)).ownsRow (w5.heap.size + 1) 2 1 (.slice (some ⟨wr.heap.size, 0, none⟩) 1 1) 1 (nv [(1 : Int)])) := ownsRow_setCell_below OW.out (by simp) _
              have HE : Hid (EE w base g w.heap.size w5.heap.size #[.int .i64 (2 + r1), .int .i64 (1 + r2), .int .i64 (1 + r3), .int .i64 kd, .int .i64 ky, .int .i64 r10, .string tx, .slice (some ⟨wr.heap.size, 0, none⟩) 1 1, .int .i64 r4] (w10.setCell ⟨w5.heap.size, 5, none⟩ (.int .i64 r10))) := HE.out.set 5 _
              go_wp2
              refine bodyPost_ret (v := .agg #[.int .i64 (2 + r1), .int .i64 (1 + r2), .int .i64 (1 + r3), .int .i64 kd, .int .i64 ky, .int .i64 r10, .string tx, .slice (some ⟨wr.heap.size, 0, none⟩) 1 1, .int .i64 r4]) (by simp [results, Try.results43, go_sem, b0, b1, b2, b3, b4, b5, b6, b7, b8]) rfl ?_
              exact event_end HE.out OW.out rfl (by omega) _ _ _ _ _ _ _ _ _ _ _ _ _ _ _ _ _ (by first | exact HTX.out | exact Nat.zero_le _ | exact zeros_size (by omega))
        · go_wp2_with fail
          refine (draw_n base g 2 _ HE.out.1 (by omega)).mono ?_
          rintro e w7 ⟨r7, rfl, pr7, qr7, -, hs, hg, -⟩
          have qr7 : r7 < 2 := qr7 (by omega)
          have OW : Hid (w7.ownsRow (w5.heap.size + 1) 2 1 (.slice (some ⟨wr.heap.size, 0, none⟩) 1 1) 1 (nv [(1 : Int)])) := OW.out.kept hg (.inr fun h => by have := (OW.out.lt g h).1; have := HE.out.2.2.2.2; omega)
          have HE : Hid (EE w base g w.heap.size w5.heap.size #[.int .i64 (2 + r1), .int .i64 (1 + r2), .int .i64 (1 + r3), .int .i64 kd, .int .i64 ky, .int .i64 nn, .string tx, .slice (some ⟨wr.heap.size, 0, none⟩) 1 1, .int .i64 r4] w7) := HE.out.num hs hg
          clear hs hg
          have fe : ∀ o, w7.frozen? ⟨w5.heap.size, o, none⟩ = false := fun o => HE.out.frozen o
          have d0 : w7.cell? ⟨w5.heap.size, 0, none⟩ = some (.int .i64 (2 + r1)) := HE.out.cell 0
          have d1 : w7.cell? ⟨w5.heap.size, 1, none⟩ = some (.int .i64 (1 + r2)) := HE.out.cell 1
          have d2 : w7.cell? ⟨w5.heap.size, 2, none⟩ = some (.int .i64 (1 + r3)) := HE.out.cell 2
          have d3 : w7.cell? ⟨w5.heap.size, 3, none⟩ = some (.int .i64 kd) := HE.out.cell 3
          have d4 : w7.cell? ⟨w5.heap.size, 4, none⟩ = some (.int .i64 ky) := HE.out.cell 4
          have d5 : w7.cell? ⟨w5.heap.size, 5, none⟩ = some (.int .i64 nn) := HE.out.cell 5
          have d6 : w7.cell? ⟨w5.heap.size, 6, none⟩ = some (.string tx) := HE.out.cell 6
          have d7 : w7.cell? ⟨w5.heap.size, 7, none⟩ = some (.slice (some ⟨wr.heap.size, 0, none⟩) 1 1) := HE.out.cell 7
          have d8 : w7.cell? ⟨w5.heap.size, 8, none⟩ = some (.int .i64 r4) := HE.out.cell 8
          have HE0 : Hid (EE w base g w.heap.size w5.heap.size #[.int .i64 1, .int .i64 (1 + r2), .int .i64 (1 + r3), .int .i64 kd, .int .i64 ky, .int .i64 nn, .string tx, .slice (some ⟨wr.heap.size, 0, none⟩) 1 1, .int .i64 r4] (w7.setCell ⟨w5.heap.size, 0, none⟩ (.int .i64 1))) := HE.out.set 0 _
          have HE1 : Hid (EE w base g w.heap.size w5.heap.size #[.int .i64 1, .int .i64 1, .int .i64 (1 + r3), .int .i64 kd, .int .i64 ky, .int .i64 nn, .string tx, .slice (some ⟨wr.heap.size, 0, none⟩) 1 1, .int .i64 r4] ((w7.setCell ⟨w5.heap.size, 0, none⟩ (.int .i64 1)).setCell ⟨w5.heap.size, 1, none⟩ (.int .i64 1))) := HE0.out.set 1 _
          have HE2 : Hid (EE w base g w.heap.size w5.heap.size #[.int .i64 1, .int .i64 1, .int .i64 (1 + r7), .int .i64 kd, .int .i64 ky, .int .i64 nn, .string tx, .slice (some ⟨wr.heap.size, 0, none⟩) 1 1, .int .i64 r4] (((w7.setCell ⟨w5.heap.size, 0, none⟩ (.int .i64 1)).setCell ⟨w5.heap.size, 1, none⟩ (.int .i64 1)).setCell ⟨w5.heap.size, 2, none⟩ (.int .i64 (1 + r7)))) := HE1.out.set 2 _
          have HE3 : Hid (EE w base g w.heap.size w5.heap.size #[.int .i64 1, .int .i64 1, .int .i64 (1 + r7), .int .i64 1, .int .i64 ky, .int .i64 nn, .string tx, .slice (some ⟨wr.heap.size, 0, none⟩) 1 1, .int .i64 r4] ((((w7.setCell ⟨w5.heap.size, 0, none⟩ (.int .i64 1)).setCell ⟨w5.heap.size, 1, none⟩ (.int .i64 1)).setCell ⟨w5.heap.size, 2, none⟩ (.int .i64 (1 + r7))).setCell ⟨w5.heap.size, 3, none⟩ (.int .i64 1))) := HE2.out.set 3 _
          have HE4 : Hid (EE w base g w.heap.size w5.heap.size #[.int .i64 1, .int .i64 1, .int .i64 (1 + r7), .int .i64 1, .int .i64 0, .int .i64 nn, .string tx, .slice (some ⟨wr.heap.size, 0, none⟩) 1 1, .int .i64 r4] (((((w7.setCell ⟨w5.heap.size, 0, none⟩ (.int .i64 1)).setCell ⟨w5.heap.size, 1, none⟩ (.int .i64 1)).setCell ⟨w5.heap.size, 2, none⟩ (.int .i64 (1 + r7))).setCell ⟨w5.heap.size, 3, none⟩ (.int .i64 1)).setCell ⟨w5.heap.size, 4, none⟩ (.int .i64 0))) := HE3.out.set 4 _
          have HE5 : Hid (EE w base g w.heap.size w5.heap.size #[.int .i64 1, .int .i64 1, .int .i64 (1 + r7), .int .i64 1, .int .i64 0, .int .i64 0, .string tx, .slice (some ⟨wr.heap.size, 0, none⟩) 1 1, .int .i64 r4] ((((((w7.setCell ⟨w5.heap.size, 0, none⟩ (.int .i64 1)).setCell ⟨w5.heap.size, 1, none⟩ (.int .i64 1)).setCell ⟨w5.heap.size, 2, none⟩ (.int .i64 (1 + r7))).setCell ⟨w5.heap.size, 3, none⟩ (.int .i64 1)).setCell ⟨w5.heap.size, 4, none⟩ (.int .i64 0)).setCell ⟨w5.heap.size, 5, none⟩ (.int .i64 0))) := HE4.out.set 5 _
          have HE6 : Hid (EE w base g w.heap.size w5.heap.size #[.int .i64 1, .int .i64 1, .int .i64 (1 + r7), .int .i64 1, .int .i64 0, .int .i64 0, .string ⟨#[]⟩, .slice (some ⟨wr.heap.size, 0, none⟩) 1 1, .int .i64 r4] (((((((w7.setCell ⟨w5.heap.size, 0, none⟩ (.int .i64 1)).setCell ⟨w5.heap.size, 1, none⟩ (.int .i64 1)).setCell ⟨w5.heap.size, 2, none⟩ (.int .i64 (1 + r7))).setCell ⟨w5.heap.size, 3, none⟩ (.int .i64 1)).setCell ⟨w5.heap.size, 4, none⟩ (.int .i64 0)).setCell ⟨w5.heap.size, 5, none⟩ (.int .i64 0)).setCell ⟨w5.heap.size, 6, none⟩ (.string ⟨#[]⟩))) := HE5.out.set 6 _
          have HE7 : Hid (EE w base g w.heap.size w5.heap.size #[.int .i64 1, .int .i64 1, .int .i64 (1 + r7), .int .i64 1, .int .i64 0, .int .i64 0, .string ⟨#[]⟩, .slice none 0 0, .int .i64 r4] ((((((((w7.setCell ⟨w5.heap.size, 0, none⟩ (.int .i64 1)).setCell ⟨w5.heap.size, 1, none⟩ (.int .i64 1)).setCell ⟨w5.heap.size, 2, none⟩ (.int .i64 (1 + r7))).setCell ⟨w5.heap.size, 3, none⟩ (.int .i64 1)).setCell ⟨w5.heap.size, 4, none⟩ (.int .i64 0)).setCell ⟨w5.heap.size, 5, none⟩ (.int .i64 0)).setCell ⟨w5.heap.size, 6, none⟩ (.string ⟨#[]⟩)).setCell ⟨w5.heap.size, 7, none⟩ (.slice none 0 0))) := HE6.out.set 7 _
          have HE8 : Hid (EE w base g w.heap.size w5.heap.size #[.int .i64 1, .int .i64 1, .int .i64 (1 + r7), .int .i64 1, .int .i64 0, .int .i64 0, .string ⟨#[]⟩, .slice none 0 0, .int .i64 0] (((((((((w7.setCell ⟨w5.heap.size, 0, none⟩ (.int .i64 1)).setCell ⟨w5.heap.size, 1, none⟩ (.int .i64 1)).setCell ⟨w5.heap.size, 2, none⟩ (.int .i64 (1 + r7))).setCell ⟨w5.heap.size, 3, none⟩ (.int .i64 1)).setCell ⟨w5.heap.size, 4, none⟩ (.int .i64 0)).setCell ⟨w5.heap.size, 5, none⟩ (.int .i64 0)).setCell ⟨w5.heap.size, 6, none⟩ (.string ⟨#[]⟩)).setCell ⟨w5.heap.size, 7, none⟩ (.slice none 0 0)).setCell ⟨w5.heap.size, 8, none⟩ (.int .i64 0))) := HE7.out.set 8 _
          have OW : Hid ((((((((((w7.setCell ⟨w5.heap.size, 0, none⟩ (.int .i64 1)).setCell ⟨w5.heap.size, 1, none⟩ (.int .i64 1)).setCell ⟨w5.heap.size, 2, none⟩ (.int .i64 (1 + r7))).setCell ⟨w5.heap.size, 3, none⟩ (.int .i64 1)).setCell ⟨w5.heap.size, 4, none⟩ (.int .i64 0)).setCell ⟨w5.heap.size, 5, none⟩ (.int .i64 0)).setCell ⟨w5.heap.size, 6, none⟩ (.string ⟨#[]⟩)).setCell ⟨w5.heap.size, 7, none⟩ (.slice none 0 0)).setCell ⟨w5.heap.size, 8, none⟩ (.int .i64 0)).ownsRow (w5.heap.size + 1) 2 1 (.slice none 0 0) 0 (nv [])) := World.ownsRow_nil _ _ _ _
          have HE : Hid (EE w base g w.heap.size w5.heap.size #[.int .i64 1, .int .i64 1, .int .i64 (1 + r7), .int .i64 1, .int .i64 0, .int .i64 0, .string ⟨#[]⟩, .slice none 0 0, .int .i64 0] (((((((((w7.setCell ⟨w5.heap.size, 0, none⟩ (.int .i64 1)).setCell ⟨w5.heap.size, 1, none⟩ (.int .i64 1)).setCell ⟨w5.heap.size, 2, none⟩ (.int .i64 (1 + r7))).setCell ⟨w5.heap.size, 3, none⟩ (.int .i64 1)).setCell ⟨w5.heap.size, 4, none⟩ (.int .i64 0)).setCell ⟨w5.heap.size, 5, none⟩ (.int .i64 0)).setCell ⟨w5.heap.size, 6, none⟩ (.string ⟨#[]⟩)).setCell ⟨w5.heap.size, 7, none⟩ (.slice none 0 0)).setCell ⟨w5.heap.size, 8, none⟩ (.int .i64 0))) := HE8
          clear HE0 HE1 HE2 HE3 HE4 HE5 HE6 HE7 HE8
          go_wp2_with fail
          refine (draw_one base g 15 _ HE.out.1 (by omega)).mono ?_
          rintro e w8 ⟨b15, rfl, hs, hg, -⟩
          have OW : Hid (w8.ownsRow (w5.heap.size + 1) 2 1 (.slice none 0 0) 0 (nv [])) := OW.out.kept hg (.inr fun h => by have := (OW.out.lt g h).1; have := HE.out.2.2.2.2; omega)
          have HE : Hid (EE w base g w.heap.size w5.heap.size #[.int .i64 1, .int .i64 1, .int .i64 (1 + r7), .int .i64 1, .int .i64 0, .int .i64 0, .string ⟨#[]⟩, .slice none 0 0, .int .i64 0] w8) := HE.out.num hs hg
          clear hs hg
          cases b15
          · have a0 : w8.cell? ⟨w5.heap.size, 0, none⟩ = some (.int .i64 1) := HE.out.cell 0
            have a1 : w8.cell? ⟨w5.heap.size, 1, none⟩ = some (.int .i64 1) := HE.out.cell 1
            have a2 : w8.cell? ⟨w5.heap.size, 2, none⟩ = some (.int .i64 (1 + r7)) := HE.out.cell 2
            have a3 : w8.cell? ⟨w5.heap.size, 3, none⟩ = some (.int .i64 1) := HE.out.cell 3
            have a4 : w8.cell? ⟨w5.heap.size, 4, none⟩ = some (.int .i64 0) := HE.out.cell 4
            have a5 : w8.cell? ⟨w5.heap.size, 5, none⟩ = some (.int .i64 0) := HE.out.cell 5
            have a6 : w8.cell? ⟨w5.heap.size, 6, none⟩ = some (.string ⟨#[]⟩) := HE.out.cell 6
            have a7 : w8.cell? ⟨w5.heap.size, 7, none⟩ = some (.slice none 0 0) := HE.out.cell 7
            have a8 : w8.cell? ⟨w5.heap.size, 8, none⟩ = some (.int .i64 0) := HE.out.cell 8
            obtain ⟨cz, hcz, hh⟩ := HE.out.2.2.1
            obtain ⟨u0, u1, u2, u3, u4, u5, u6, u7, u8, rfl⟩ := array9 hcz
            have fr : ∀ o, w8.frozen? ⟨w.heap.size, o, none⟩ = false := fun o => frozen_of_heap hh
            have b0 : w8.cell? ⟨w.heap.size, 0, none⟩ = some u0 := cell_of_heap hh
            have b1 : w8.cell? ⟨w.heap.size, 1, none⟩ = some u1 := cell_of_heap hh
            have b2 : w8.cell? ⟨w.heap.size, 2, none⟩ = some u2 := cell_of_heap hh
            have b3 : w8.cell? ⟨w.heap.size, 3, none⟩ = some u3 := cell_of_heap hh
            have b4 : w8.cell? ⟨w.heap.size, 4, none⟩ = some u4 := cell_of_heap hh
            have b5 : w8.cell? ⟨w.heap.size, 5, none⟩ = some u5 := cell_of_heap hh
            have b6 : w8.cell? ⟨w.heap.size, 6, none⟩ = some u6 := cell_of_heap hh
            have b7 : w8.cell? ⟨w.heap.size, 7, none⟩ = some u7 := cell_of_heap hh
            have b8 : w8.cell? ⟨w.heap.size, 8, none⟩ = some u8 := cell_of_heap hh
            clear hh hcz
            go_wp2
            refine bodyPost_ret (v := .agg #[.int .i64 1, .int .i64 1, .int .i64 (1 + r7), .int .i64 1, .int .i64 0, .int .i64 0, .string ⟨#[]⟩, .slice none 0 0, .int .i64 0]) (by simp [results, Try.results43, go_sem, b0, b1, b2, b3, b4, b5, b6, b7, b8]) rfl ?_
            exact event_end HE.out OW.out rfl (by omega) _ _ _ _ _ _ _ _ _ _ _ _ _ _ _ _ _ (by first | exact HTX.out | exact Nat.zero_le _ | exact zeros_size (by omega))
          · go_wp2_with fail
            refine (draw_n base g 7 _ HE.out.1 (by omega)).mono ?_
            rintro e w9 ⟨r9, rfl, pr9, qr9, -, hs, hg, -⟩
            have qr9 : r9 < 7 := qr9 (by omega)
            have OW : Hid (w9.ownsRow (w5.heap.size + 1) 2 1 (.slice none 0 0) 0 (nv [])) := OW.out.kept hg (.inr fun h => by have := (OW.out.lt g h).1; have := HE.out.2.2.2.2; omega)
            have HE : Hid (EE w base g w.heap.size w5.heap.size #[.int .i64 1, .int .i64 1, .int .i64 (1 + r7), .int .i64 1, .int .i64 0, .int .i64 0, .string ⟨#[]⟩, .slice none 0 0, .int .i64 0] w9) := HE.out.num hs hg
            clear hs hg
            obtain ⟨m, rfl⟩ := Int.eq_ofNat_of_zero_le pr9
            rcases (show m = 0 ∨ m = 1 ∨ m = 2 ∨ m = 3 ∨ m = 4 ∨ m = 5 ∨ m = 6 by omega) with rfl | rfl | rfl | rfl | rfl | rfl | rfl
            · go_wp2_with fail
              refine (draw_n base g 4 _ (HE.out.alloc _).1 (by omega)).mono ?_
              rintro e w10 ⟨r10, rfl, pr10, qr10, -, hs, hg, -⟩
              have qr10 : r10 < 4 := qr10 (by omega)
              obtain ⟨i10, rfl⟩ := Int.eq_ofNat_of_zero_le pr10
              obtain ⟨y, hy⟩ : ∃ y : Int, w10.cell? ⟨w9.heap.size, i10, none⟩ = some (.int .i64 y) := by
                have hb := World.cell?_of_block (a := ⟨w9.heap.size, i10, none⟩) (hg.block w9.heap.size (by simp) (by simp; have := HE.out.lt; have := HE.out.2.2.2.2; omega))
                rw [hb]
                rcases (show i10 = 0 ∨ i10 = 1 ∨ i10 = 2 ∨ i10 = 3 by omega) with rfl | rfl | rfl | rfl
                · exact ⟨0, by simp [go_sem]⟩
                · exact ⟨1, by simp [go_sem]⟩
                · exact ⟨1000000, by simp [go_sem]⟩
                · exact ⟨1000001, by simp [go_sem]⟩
              have hL10 : w9.heap.size < w10.heap.size := by have := hg.size; simp at this; omega
              have OW : Hid (w10.ownsRow (w5.heap.size + 1) 2 1 (.slice none 0 0) 0 (nv [])) := OW.out.kept ((World.grownBy_alloc _ _ _).trans hg) (.inr fun h => by have := (OW.out.lt g h).1; have := HE.out.2.2.2.2; omega)
              have HE : Hid (EE w base g w.heap.size w5.heap.size #[.int .i64 1, .int .i64 1, .int .i64 (1 + r7), .int .i64 1, .int .i64 0, .int .i64 0, .string ⟨#[]⟩, .slice none 0 0, .int .i64 0] w10) := (HE.out.alloc _).num hs hg
              clear hs hg
              have fe : ∀ o, w10.frozen? ⟨w5.heap.size, o, none⟩ = false := fun o => HE.out.frozen o
              have a0 : w10.cell? ⟨w5.heap.size, 0, none⟩ = some (.int .i64 1) := HE.out.cell 0
              have a1 : w10.cell? ⟨w5.heap.size, 1, none⟩ = some (.int .i64 1) := HE.out.cell 1
              have a2 : w10.cell? ⟨w5.heap.size, 2, none⟩ = some (.int .i64 (1 + r7)) := HE.out.cell 2
              have a3 : w10.cell? ⟨w5.heap.size, 3, none⟩ = some (.int .i64 1) := HE.out.cell 3
              have a4 : w10.cell? ⟨w5.heap.size, 4, none⟩ = some (.int .i64 0) := HE.out.cell 4
              have a5 : w10.cell? ⟨w5.heap.size, 5, none⟩ = some (.int .i64 0) := HE.out.cell 5
              have a6 : w10.cell? ⟨w5.heap.size, 6, none⟩ = some (.string ⟨#[]⟩) := HE.out.cell 6
              have a7 : w10.cell? ⟨w5.heap.size, 7, none⟩ = some (.slice none 0 0) := HE.out.cell 7
              have a8 : w10.cell? ⟨w5.heap.size, 8, none⟩ = some (.int .i64 0) := HE.out.cell 8
              obtain ⟨cz, hcz, hh⟩ := HE.out.2.2.1
              obtain ⟨u0, u1, u2, u3, u4, u5, u6, u7, u8, rfl⟩ := array9 hcz
              have fr : ∀ o, w10.frozen? ⟨w.heap.size, o, none⟩ = false := fun o => frozen_of_heap hh
              have b0 : w10.cell? ⟨w.heap.size, 0, none⟩ = some u0 := cell_of_heap hh
              have b1 : w10.cell? ⟨w.heap.size, 1, none⟩ = some u1 := cell_of_heap hh
              have b2 : w10.cell? ⟨w.heap.size, 2, none⟩ = some u2 := cell_of_heap hh
              have b3 : w10.cell? ⟨w.heap.size, 3, none⟩ = some u3 := cell_of_heap hh
              have b4 : w10.cell? ⟨w.heap.size, 4, none⟩ = some u4 := cell_of_heap hh
              have b5 : w10.cell? ⟨w.heap.size, 5, none⟩ = some u5 := cell_of_heap hh
              have b6 : w10.cell? ⟨w.heap.size, 6, none⟩ = some u6 := cell_of_heap hh
              have b7 : w10.cell? ⟨w.heap.size, 7, none⟩ = some u7 := cell_of_heap hh
              have b8 : w10.cell? ⟨w.heap.size, 8, none⟩ = some u8 := cell_of_heap hh
              clear hh hcz
              have OW : Hid ((w10.setCell ⟨w5.heap.size, 0, none⟩ (.int .i64 y)).ownsRow (w5.heap.size + 1) 2 1 (.slice none 0 0) 0 (nv [])) := ownsRow_setCell_below OW.out (by simp) _
              have HE : Hid (EE w base g w.heap.size w5.heap.size #[.int .i64 y, .int .i64 1, .int .i64 (1 + r7), .int .i64 1, .int .i64 0, .int .i64 0, .string ⟨#[]⟩, .slice none 0 0, .int .i64 0] (w10.setCell ⟨w5.heap.size, 0, none⟩ (.int .i64 y))) := HE.out.set 0 _
              go_wp2
              refine bodyPost_ret (v := .agg #[.int .i64 y, .int .i64 1, .int .i64 (1 + r7), .int .i64 1, .int .i64 0, .int .i64 0, .string ⟨#[]⟩, .slice none 0 0, .int .i64 0]) (by simp [results, Try.results43, go_sem, b0, b1, b2, b3, b4, b5, b6, b7, b8]) rfl ?_
              exact event_end HE.out OW.out rfl (by omega) _ _ _ _ _ _ _ _ _ _ _ _ _ _ _ _ _ (by first | exact HTX.out | exact Nat.zero_le _ | exact zeros_size (by omega))
            · go_wp2_with fail
              refine (draw_n base g 5 _ HE.out.1 (by omega)).mono ?_
              rintro e w10 ⟨r10, rfl, pr10, qr10, -, hs, hg, -⟩
              have qr10 : r10 < 5 := qr10 (by omega)
              have OW : Hid (w10.ownsRow (w5.heap.size + 1) 2 1 (.slice none 0 0) 0 (nv [])) := OW.out.kept hg (.inr fun h => by have := (OW.out.lt g h).1; have := HE.out.2.2.2.2; omega)
              have HE : Hid (EE w base g w.heap.size w5.heap.size #[.int .i64 1, .int .i64 1, .int .i64 (1 + r7), .int .i64 1, .int .i64 0, .int .i64 0, .string ⟨#[]⟩, .slice none 0 0, .int .i64 0] w10) := HE.out.num hs hg
              clear hs hg
              have fe : ∀ o, w10.frozen? ⟨w5.heap.size, o, none⟩ = false := fun o => HE.out.frozen o
              have a0 : w10.cell? ⟨w5.heap.size, 0, none⟩ = some (.int .i64 1) := HE.out.cell 0
              have a1 : w10.cell? ⟨w5.heap.size, 1, none⟩ = some (.int .i64 1) := HE.out.cell 1
              have a2 : w10.cell? ⟨w5.heap.size, 2, none⟩ = some (.int .i64 (1 + r7)) := HE.out.cell 2
              have a3 : w10.cell? ⟨w5.heap.size, 3, none⟩ = some (.int .i64 1) := HE.out.cell 3
              have a4 : w10.cell? ⟨w5.heap.size, 4, none⟩ = some (.int .i64 0) := HE.out.cell 4
              have a5 : w10.cell? ⟨w5.heap.size, 5, none⟩ = some (.int .i64 0) := HE.out.cell 5
              have a6 : w10.cell? ⟨w5.heap.size, 6, none⟩ = some (.string ⟨#[]⟩) := HE.out.cell 6
              have a7 : w10.cell? ⟨w5.heap.size, 7, none⟩ = some (.slice none 0 0) := HE.out.cell 7
              have a8 : w10.cell? ⟨w5.heap.size, 8, none⟩ = some (.int .i64 0) := HE.out.cell 8
              obtain ⟨cz, hcz, hh⟩ := HE.out.2.2.1
              obtain ⟨u0, u1, u2, u3, u4, u5, u6, u7, u8, rfl⟩ := array9 hcz
              have fr : ∀ o, w10.frozen? ⟨w.heap.size, o, none⟩ = false := fun o => frozen_of_heap hh
              have b0 : w10.cell? ⟨w.heap.size, 0, none⟩ = some u0 := cell_of_heap hh
              have b1 : w10.cell? ⟨w.heap.size, 1, none⟩ = some u1 := cell_of_heap hh
              have b2 : w10.cell? ⟨w.heap.size, 2, none⟩ = some u2 := cell_of_heap hh
              have b3 : w10.cell? ⟨w.heap.size, 3, none⟩ = some u3 := cell_of_heap hh
              have b4 : w10.cell? ⟨w.heap.size, 4, none⟩ = some u4 := cell_of_heap hh
              have b5 : w10.cell? ⟨w.heap.size, 5, none⟩ = some u5 := cell_of_heap hh
              have b6 : w10.cell? ⟨w.heap.size, 6, none⟩ = some u6 := cell_of_heap hh
              have b7 : w10.cell? ⟨w.heap.size, 7, none⟩ = some u7 := cell_of_heap hh
              have b8 : w10.cell? ⟨w.heap.size, 8, none⟩ = some u8 := cell_of_heap hh
              clear hh hcz
              have OW : Hid ((w10.setCell ⟨w5.heap.size, 1, none⟩ (.int .i64 r10)).ownsRow (w5.heap.size + 1) 2 1 (.slice none 0 0) 0 (nv [])) := ownsRow_setCell_below OW.out (by simp) _
              have HE : Hid (EE w base g w.heap.size w5.heap.size #[.int .i64 1, .int .i64 r10, .int .i64 (1 + r7), .int .i64 1, .int .i64 0, .int .i64 0, .string ⟨#[]⟩, .slice none 0 0, .int .i64 0] (w10.setCell ⟨w5.heap.size, 1, none⟩ (.int .i64 r10))) := HE.out.set 1 _
              go_wp2
              refine bodyPost_ret (v := .agg #[.int .i64 1, .int .i64 r10, .int .i64 (1 + r7), .int .i64 1, .int .i64 0, .int .i64 0, .string ⟨#[]⟩, .slice none 0 0, .int .i64 0]) (by simp [results, Try.results43, go_sem, b0, b1, b2, b3, b4, b5, b6, b7, b8]) rfl ?_
              exact event_end HE.out OW.out rfl (by omega) _ _ _ _ _ _ _ _ _ _ _ _ _ _ _ _ _ (by first | exact HTX.out | exact Nat.zero_le _ | exact zeros_size (by omega))
            · go_wp2_with fail
              refine (draw_n base g 8 _ HE.out.1 (by omega)).mono ?_
              rintro e w10 ⟨r10, rfl, pr10, qr10, -, hs, hg, -⟩
              have qr10 : r10 < 8 := qr10 (by omega)
              have OW : Hid (w10.ownsRow (w5.heap.size + 1) 2 1 (.slice none 0 0) 0 (nv [])) := OW.out.kept hg (.inr fun h => by have := (OW.out.lt g h).1; have := HE.out.2.2.2.2; omega)
              have HE : Hid (EE w base g w.heap.size w5.heap.size #[.int .i64 1, .int .i64 1, .int .i64 (1 + r7), .int .i64 1, .int .i64 0, .int .i64 0, .string ⟨#[]⟩, .slice none 0 0, .int .i64 0] w10) := HE.out.num hs hg
              clear hs hg
              have fe : ∀ o, w10.frozen? ⟨w5.heap.size, o, none⟩ = false := fun o => HE.out.frozen o
              have a0 : w10.cell? ⟨w5.heap.size, 0, none⟩ = some (.int .i64 1) := HE.out.cell 0
              have a1 : w10.cell? ⟨w5.heap.size, 1, none⟩ = some (.int .i64 1) := HE.out.cell 1
              have a2 : w10.cell? ⟨w5.heap.size, 2, none⟩ = some (.int .i64 (1 + r7)) := HE.out.cell 2
              have a3 : w10.cell? ⟨w5.heap.size, 3, none⟩ = some (.int .i64 1) := HE.out.cell 3
              have a4 : w10.cell? ⟨w5.heap.size, 4, none⟩ = some (.int .i64 0) := HE.out.cell 4
              have a5 : w10.cell? ⟨w5.heap.size, 5, none⟩ = some (.int .i64 0) := HE.out.cell 5
              have a6 : w10.cell? ⟨w5.heap.size, 6, none⟩ = some (.string ⟨#[]⟩) := HE.out.cell 6
              have a7 : w10.cell? ⟨w5.heap.size, 7, none⟩ = some (.slice none 0 0) := HE.out.cell 7
              have a8 : w10.cell? ⟨w5.heap.size, 8, none⟩ = some (.int .i64 0) := HE.out.cell 8
              obtain ⟨cz, hcz, hh⟩ := HE.out.2.2.1
              obtain ⟨u0, u1, u2, u3, u4, u5, u6, u7, u8, rfl⟩ := array9 hcz
              have fr : ∀ o, w10.frozen? ⟨w.heap.size, o, none⟩ = false := fun o => frozen_of_heap hh
              have b0 : w10.cell? ⟨w.heap.size, 0, none⟩ = some u0 := cell_of_heap hh
              have b1 : w10.cell? ⟨w.heap.size, 1, none⟩ = some u1 := cell_of_heap hh
              have b2 : w10.cell? ⟨w.heap.size, 2, none⟩ = some u2 := cell_of_heap hh
              have b3 : w10.cell? ⟨w.heap.size, 3, none⟩ = some u3 := cell_of_heap hh
              have b4 : w10.cell? ⟨w.heap.size, 4, none⟩ = some u4 := cell_of_heap hh
              have b5 : w10.cell? ⟨w.heap.size, 5, none⟩ = some u5 := cell_of_heap hh
              have b6 : w10.cell? ⟨w.heap.size, 6, none⟩ = some u6 := cell_of_heap hh
              have b7 : w10.cell? ⟨w.heap.size, 7, none⟩ = some u7 := cell_of_heap hh
              have b8 : w10.cell? ⟨w.heap.size, 8, none⟩ = some u8 := cell_of_heap hh
              clear hh hcz
              have OW : Hid ((w10.setCell ⟨w5.heap.size, 2, none⟩ (.int .i64 r10)).ownsRow (w5.heap.size + 1) 2 1 (.slice none 0 0) 0 (nv [])) := ownsRow_setCell_below OW.out (by simp) _
              have HE : Hid (EE w base g w.heap.size w5.heap.size #[.int .i64 1, .int .i64 1, .int .i64 r10, .int .i64 1, .int .i64 0, .int .i64 0, .string ⟨#[]⟩, .slice none 0 0, .int .i64 0] (w10.setCell ⟨w5.heap.size, 2, none⟩ (.int .i64 r10))) := HE.out.set 2 _
              go_wp2
              refine bodyPost_ret (v := .agg #[.int .i64 1, .int .i64 1, .int .i64 r10, .int .i64 1, .int .i64 0, .int .i64 0, .string ⟨#[]⟩, .slice none 0 0, .int .i64 0]) (by simp [results, Try.results43, go_sem, b0, b1, b2, b3, b4, b5, b6, b7, b8]) rfl ?_
              exact event_end HE.out OW.out rfl (by omega) _ _ _ _ _ _ _ _ _ _ _ _ _ _ _ _ _ (by first | exact HTX.out | exact Nat.zero_le _ | exact zeros_size (by omega))
            · go_wp2_with fail
              refine (draw_n base g 10 _ HE.out.1 (by omega)).mono ?_
              rintro e w10 ⟨r10, rfl, pr10, qr10, -, hs, hg, -⟩
              have qr10 : r10 < 10 := qr10 (by omega)
              have OW : Hid (w10.ownsRow (w5.heap.size + 1) 2 1 (.slice none 0 0) 0 (nv [])) := OW.out.kept hg (.inr fun h => by have := (OW.out.lt g h).1; have := HE.out.2.2.2.2; omega)
              have HE : Hid (EE w base g w.heap.size w5.heap.size #[.int .i64 1, .int .i64 1, .int .i64 (1 + r7), .int .i64 1, .int .i64 0, .int .i64 0, .string ⟨#[]⟩, .slice none 0 0, .int .i64 0] w10) := HE.out.num hs hg
              clear hs hg
              have fe : ∀ o, w10.frozen? ⟨w5.heap.size, o, none⟩ = false := fun o => HE.out.frozen o
              have a0 : w10.cell? ⟨w5.heap.size, 0, none⟩ = some (.int .i64 1) := HE.out.cell 0
              have a1 : w10.cell? ⟨w5.heap.size, 1, none⟩ = some (.int .i64 1) := HE.out.cell 1
              have a2 : w10.cell? ⟨w5.heap.size, 2, none⟩ = some (.int .i64 (1 + r7)) := HE.out.cell 2
              have a3 : w10.cell? ⟨w5.heap.size, 3, none⟩ = some (.int .i64 1) := HE.out.cell 3
              have a4 : w10.cell? ⟨w5.heap.size, 4, none⟩ = some (.int .i64 0) := HE.out.cell 4
              have a5 : w10.cell? ⟨w5.heap.size, 5, none⟩ = some (.int .i64 0) := HE.out.cell 5
              have a6 : w10.cell? ⟨w5.heap.size, 6, none⟩ = some (.string ⟨#[]⟩) := HE.out.cell 6
              have a7 : w10.cell? ⟨w5.heap.size, 7, none⟩ = some (.slice none 0 0) := HE.out.cell 7
              have a8 : w10.cell? ⟨w5.heap.size, 8, none⟩ = some (.int .i64 0) := HE.out.cell 8
              obtain ⟨cz, hcz, hh⟩ := HE.out.2.2.1
              obtain ⟨u0, u1, u2, u3, u4, u5, u6, u7, u8, rfl⟩ := array9 hcz
              have fr : ∀ o, w10.frozen? ⟨w.heap.size, o, none⟩ = false := fun o => frozen_of_heap hh
              have b0 : w10.cell? ⟨w.heap.size, 0, none⟩ = some u0 := cell_of_heap hh
              have b1 : w10.cell? ⟨w.heap.size, 1, none⟩ = some u1 := cell_of_heap hh
              have b2 : w10.cell? ⟨w.heap.size, 2, none⟩ = some u2 := cell_of_heap hh
              have b3 : w10.cell? ⟨w.heap.size, 3, none⟩ = some u3 := cell_of_heap hh
              have b4 : w10.cell? ⟨w.heap.size, 4, none⟩ = some u4 := cell_of_heap hh
              have b5 : w10.cell? ⟨w.heap.size, 5, none⟩ = some u5 := cell_of_heap hh
              have b6 : w10.cell? ⟨w.heap.size, 6, none⟩ = some u6 := cell_of_heap hh
              have b7 : w10.cell? ⟨w.heap.size, 7, none⟩ = some u7 := cell_of_heap hh
              have b8 : w10.cell? ⟨w.heap.size, 8, none⟩ = some u8 := cell_of_heap hh
              clear hh hcz
              have OW : Hid ((w10.setCell ⟨w5.heap.size, 3, none⟩ (.int .i64 r10)).ownsRow (w5.heap.size + 1) 2 1 (.slice none 0 0) 0 (nv [])) := ownsRow_setCell_below OW.out (by simp) _
              have HE : Hid (EE w base g w.heap.size w5.heap.size #[.int .i64 1, .int .i64 1, .int .i64 (1 + r7), .int .i64 r10, .int .i64 0, .int .i64 0, .string ⟨#[]⟩, .slice none 0 0, .int .i64 0] (w10.setCell ⟨w5.heap.size, 3, none⟩ (.int .i64 r10))) := HE.out.set 3 _
              go_wp2
              refine bodyPost_ret (v := .agg #[.int .i64 1, .int .i64 1, .int .i64 (1 + r7), .int .i64 r10, .int .i64 0, .int .i64 0, .string ⟨#[]⟩, .slice none 0 0, .int .i64 0]) (by simp [results, Try.results43, go_sem, b0, b1, b2, b3, b4, b5, b6, b7, b8]) rfl ?_
              exact event_end HE.out OW.out rfl (by omega) _ _ _ _ _ _ _ _ _ _ _ _ _ _ _ _ _ (by first | exact HTX.out | exact Nat.zero_le _ | exact zeros_size (by omega))
            · have c7 : w9.cell? ⟨w5.heap.size, 7, none⟩ = some (.slice none 0 0) := HE.out.cell 7
              have l9 : w5.heap.size < w9.heap.size := HE.out.lt
              go_wp2_with fail
              go_region_law (first
                | (refine step_append_lies _ rfl (.tmp 93) (.tmp 96) 23 rfl (w5.heap.size + 1) 2 i0 (.int .i64 0) 1 8 Try.underlying23 hi hz0 hz1 hz2 rfl (by decide) (.slice none 0 0) 0 (nv []) rfl (OW10.out.alloc _) ⟨w10.heap.size, 0, none⟩ 1 1 [.int .i64 r10] rfl rfl (cell_one_new _ _ _) (by intro u hu; simp at hu; subst hu; rfl) (by decide) (by unfold maxLen; omega) (by omega) (by have := HE10.out.lt; simp; omega) _ rfl ?_; intro g3 cap3 w11 hown9 hgrow9 hat9 hlt9; have HE11 : Hid (EE w base g w.heap.size w5.heap.size #[.int .i64 1, .int .i64 1, .int .i64 (1 + r7), .int .i64 1, .int .i64 0, .int .i64 0, .string ⟨#[]⟩, .slice none 0 0, .int .i64 0] w11) := (HE10.out.alloc _).grown hgrow9 (fun q hq => (OW10.out.lt q hq).1); have OW11 : Hid (w11.ownsRow (w5.heap.size + 1) 2 1 (.slice (some ⟨g3, 0, none⟩) 1 cap3) 1 (nv [] ++ [.int .i64 r10])) := hown9; have fe : (∀ o, w11.frozen? ⟨w5.heap.size, o, none⟩ = false) := (fun o => HE11.out.frozen o); have a0 : w11.cell? ⟨w5.heap.size, 0, none⟩ = some (.int .i64 1) := HE11.out.cell 0; have a1 : w11.cell? ⟨w5.heap.size, 1, none⟩ = some (.int .i64 1) := HE11.out.cell 1; have a2 : w11.cell? ⟨w5.heap.size, 2, none⟩ = some (.int .i64 (1 + r7)) := HE11.out.cell 2; have a3 : w11.cell? ⟨w5.heap.size, 3, none⟩ = some (.int .i64 1) := HE11.out.cell 3; have a4 : w11.cell? ⟨w5.heap.size, 4, none⟩ = some (.int .i64 0) := HE11.out.cell 4; have a5 : w11.cell? ⟨w5.heap.size, 5, none⟩ = some (.int .i64 0) := HE11.out.cell 5; have a6 : w11.cell? ⟨w5.heap.size, 6, none⟩ = some (.string ⟨#[]⟩) := HE11.out.cell 6; have a7 : w11.cell? ⟨w5.heap.size, 7, none⟩ = some (.slice none 0 0) := HE11.out.cell 7; have a8 : w11.cell? ⟨w5.heap.size, 8, none⟩ = some (.int .i64 0) := HE11.out.cell 8; obtain ⟨cz, hcz, hh⟩ := HE11.out.2.2.1; obtain ⟨u0, u1, u2, u3, u4, u5, u6, u7, u8, rfl⟩ := array9 hcz; have fr : ∀ o, w11.frozen? ⟨w.heap.size, o, none⟩ = false := fun o => frozen_of_heap hh; have b0 : w11.cell? ⟨w.heap.size, 0, none⟩ = some u0 := cell_of_heap hh; have b1 : w11.cell? ⟨w.heap.size, 1, none⟩ = some u1 := cell_of_heap hh; have b2 : w11.cell? ⟨w.heap.size, 2, none⟩ = some u2 := cell_of_heap hh; have b3 : w11.cell? ⟨w.heap.size, 3, none⟩ = some u3 := cell_of_heap hh; have b4 : w11.cell? ⟨w.heap.size, 4, none⟩ = some u4 := cell_of_heap hh; have b5 : w11.cell? ⟨w.heap.size, 5, none⟩ = some u5 := cell_of_heap hh; have b6 : w11.cell? ⟨w.heap.size, 6, none⟩ = some u6 := cell_of_heap hh; have b7 : w11.cell? ⟨w.heap.size, 7, none⟩ = some u7 := cell_of_heap hh; have b8 : w11.cell? ⟨w.heap.size, 8, none⟩ = some u8 := cell_of_heap hh; clear hh hcz; clear hown9 hgrow9 hat9 hlt9)
                | (go_simp; go_at_call 48; refine (draw_n base g 9 w9.drew HE.out.drew.1 (by omega)).mono ?_; rintro e w10 ⟨r10, rfl, p10, q10, -, hs, hg, -⟩; have hg : w9.grownBy w10 (some g) := ⟨hg.os, hg.tape, hg.output, hg.size, hg.block⟩; have HE10 : Hid (EE w base g w.heap.size w5.heap.size #[.int .i64 1, .int .i64 1, .int .i64 (1 + r7), .int .i64 1, .int .i64 0, .int .i64 0, .string ⟨#[]⟩, .slice none 0 0, .int .i64 0] w10) := HE.out.num hs hg; have OW10 : Hid (w10.ownsRow (w5.heap.size + 1) 2 1 (.slice none 0 0) 0 (nv [])) := OW.out.kept hg (.inr fun h => (by have := (OW.out.lt g h).1; have := HE.out.2.2.2.2; omega)); have c10 : w10.cell? ⟨w5.heap.size, 7, none⟩ = some (.slice none 0 0) := HE10.out.cell 7; have l10 : w5.heap.size < w10.heap.size := HE10.out.lt; clear hs hg p10 q10))
              all_goals
                have OW : Hid ((w11.setCell ⟨w5.heap.size, 7, none⟩ (.slice (some ⟨g3, 0, none⟩) 1 cap3)).ownsRow (w5.heap.size + 1) 2 1 (.slice (some ⟨g3, 0, none⟩) 1 cap3) 1 (nv ([] ++ [r10]))) := by
                  have := ownsRow_setCell_below OW11.out (a := ⟨w5.heap.size, 7, none⟩) (by simp) (.slice (some ⟨g3, 0, none⟩) 1 cap3)
                  unfold Hid
                  simpa [nv] using this
                have HE : Hid (EE w base g w.heap.size w5.heap.size #[.int .i64 1, .int .i64 1, .int .i64 (1 + r7), .int .i64 1, .int .i64 0, .int .i64 0, .string ⟨#[]⟩, .slice (some ⟨g3, 0, none⟩) 1 cap3, .int .i64 0] (w11.setCell ⟨w5.heap.size, 7, none⟩ (.slice (some ⟨g3, 0, none⟩) 1 cap3))) := HE11.out.set 7 _
                go_wp2
                refine bodyPost_ret (v := .agg #[.int .i64 1, .int .i64 1, .int .i64 (1 + r7), .int .i64 1, .int .i64 0, .int .i64 0, .string ⟨#[]⟩, .slice (some ⟨g3, 0, none⟩) 1 cap3, .int .i64 0]) (by simp [results, Try.results43, go_sem, b0, b1, b2, b3, b4, b5, b6, b7, b8]) rfl ?_
                exact event_end HE.out OW.out (by simp) (by omega) _ _ _ _ _ _ _ _ _ _ _ _ _ _ _ _ _ (by first | exact HTX.out | exact Nat.zero_le _ | exact zeros_size (by omega))
            · go_wp2_with fail
              refine (draw_n base g 3 _ HE.out.1 (by omega)).mono ?_
              rintro e w10 ⟨r10, rfl, pr10, qr10, -, hs, hg, -⟩
              have qr10 : r10 < 3 := qr10 (by omega)
              have OW : Hid (w10.ownsRow (w5.heap.size + 1) 2 1 (.slice none 0 0) 0 (nv [])) := OW.out.kept hg (.inr fun h => by have := (OW.out.lt g h).1; have := HE.out.2.2.2.2; omega)
              have HE : Hid (EE w base g w.heap.size w5.heap.size #[.int .i64 1, .int .i64 1, .int .i64 (1 + r7), .int .i64 1, .int .i64 0, .int .i64 0, .string ⟨#[]⟩, .slice none 0 0, .int .i64 0] w10) := HE.out.num hs hg
              clear hs hg
              obtain ⟨m10, rfl⟩ := Int.eq_ofNat_of_zero_le pr10
              obtain ⟨j0, hj, hy0, hy1, hy2⟩ := info_parts Try.info5
              go_wp2_with (at_make; refine wpList_make_full _ rfl _ _ 22 rfl w10.heap.size 5 j0 (.int .u8 0) 1 Try.underlying22 hj hy0 hy1 .i64 .i64 _ _ (29 + m10) rfl rfl (by omega) (by omega) (by rw [hy2]; omega) (by unfold maxLen; omega) (Nat.le_refl _) ?_; intro w11 hown hgrow; rw [made_zeros, ← zeros_bv] at hown; have hcv := own_string (P := Try.prog) (n := 29 + m10) (List.replicate (29 + m10) 0) Try.underlying22 Try.underlying5 Try.underlying9 (by simp) hown; have OW : Hid (w11.ownsRow (w5.heap.size + 1) 2 1 (.slice none 0 0) 0 (nv [])) := OW.out.kept hgrow (Classical.em _); have HE : Hid (EE w base g w.heap.size w5.heap.size #[.int .i64 1, .int .i64 1, .int .i64 (1 + r7), .int .i64 1, .int .i64 0, .int .i64 0, .string ⟨#[]⟩, .slice none 0 0, .int .i64 0] w11) := HE.out.grown hgrow (fun q hq => (by cases hq)); have fe : (∀ o, w11.frozen? ⟨w5.heap.size, o, none⟩ = false) := (fun o => HE.out.frozen o); have a0 : w11.cell? ⟨w5.heap.size, 0, none⟩ = some (.int .i64 1) := HE.out.cell 0; have a1 : w11.cell? ⟨w5.heap.size, 1, none⟩ = some (.int .i64 1) := HE.out.cell 1; have a2 : w11.cell? ⟨w5.heap.size, 2, none⟩ = some (.int .i64 (1 + r7)) := HE.out.cell 2; have a3 : w11.cell? ⟨w5.heap.size, 3, none⟩ = some (.int .i64 1) := HE.out.cell 3; have a4 : w11.cell? ⟨w5.heap.size, 4, none⟩ = some (.int .i64 0) := HE.out.cell 4; have a5 : w11.cell? ⟨w5.heap.size, 5, none⟩ = some (.int .i64 0) := HE.out.cell 5; have a6 : w11.cell? ⟨w5.heap.size, 6, none⟩ = some (.string ⟨#[]⟩) := HE.out.cell 6; have a7 : w11.cell? ⟨w5.heap.size, 7, none⟩ = some (.slice none 0 0) := HE.out.cell 7; have a8 : w11.cell? ⟨w5.heap.size, 8, none⟩ = some (.int .i64 0) := HE.out.cell 8; obtain ⟨cz, hcz, hh⟩ := HE.out.2.2.1; obtain ⟨u0, u1, u2, u3, u4, u5, u6, u7, u8, rfl⟩ := array9 hcz; have fr : ∀ o, w11.frozen? ⟨w.heap.size, o, none⟩ = false := fun o => frozen_of_heap hh; have b0 : w11.cell? ⟨w.heap.size, 0, none⟩ = some u0 := cell_of_heap hh; have b1 : w11.cell? ⟨w.heap.size, 1, none⟩ = some u1 := cell_of_heap hh; have b2 : w11.cell? ⟨w.heap.size, 2, none⟩ = some u2 := cell_of_heap hh; have b3 : w11.cell? ⟨w.heap.size, 3, none⟩ = some u3 := cell_of_heap hh; have b4 : w11.cell? ⟨w.heap.size, 4, none⟩ = some u4 := cell_of_heap hh; have b5 : w11.cell? ⟨w.heap.size, 5, none⟩ = some u5 := cell_of_heap hh; have b6 : w11.cell? ⟨w.heap.size, 6, none⟩ = some u6 := cell_of_heap hh; have b7 : w11.cell? ⟨w.heap.size, 7, none⟩ = some u7 := cell_of_heap hh; have b8 : w11.cell? ⟨w.heap.size, 8, none⟩ = some u8 := cell_of_heap hh; clear hh hcz; clear hown hgrow)
              have OW : Hid ((w11.setCell ⟨w5.heap.size, 6, none⟩ (.string ⟨(List.replicate (29 + m10) 0).toArray⟩)).ownsRow (w5.heap.size + 1) 2 1 (.slice none 0 0) 0 (nv [])) := ownsRow_setCell_below OW.out (by simp) _
              have HE : Hid (EE w base g w.heap.size w5.heap.size #[.int .i64 1, .int .i64 1, .int .i64 (1 + r7), .int .i64 1, .int .i64 0, .int .i64 0, .string ⟨(List.replicate (29 + m10) 0).toArray⟩, .slice none 0 0, .int .i64 0] (w11.setCell ⟨w5.heap.size, 6, none⟩ (.string ⟨(List.replicate (29 + m10) 0).toArray⟩))) := HE.out.set 6 _
              refine bodyPost_ret (v := .agg #[.int .i64 1, .int .i64 1, .int .i64 (1 + r7), .int .i64 1, .int .i64 0, .int .i64 0, .string ⟨(List.replicate (29 + m10) 0).toArray⟩, .slice none 0 0, .int .i64 0]) (by simp [results, Try.results43, go_sem, b0, b1, b2, b3, b4, b5, b6, b7, b8]) rfl ?_
              exact event_end HE.out OW.out rfl (by omega) _ _ _ _ _ _ _ _ _ _ _ _ _ _ _ _ _ (by first | exact HTX.out | exact Nat.zero_le _ | exact zeros_size (by omega))
            · go_wp2_with fail
              refine (draw_edge2 base g _ HE.out.1).mono ?_
              rintro e w10 ⟨r10, rfl, -, -, hs, hg⟩
              have OW : Hid (w10.ownsRow (w5.heap.size + 1) 2 1 (.slice none 0 0) 0 (nv [])) := OW.out.kept hg (.inr fun h => by have := (OW.out.lt g h).1; have := HE.out.2.2.2.2; omega)
              have HE : Hid (EE w base g w.heap.size w5.heap.size #[.int .i64 1, .int .i64 1, .int .i64 (1 + r7), .int .i64 1, .int .i64 0, .int .i64 0, .string ⟨#[]⟩, .slice none 0 0, .int .i64 0] w10) := HE.out.num hs hg
              clear hs hg
              have fe : ∀ o, w10.frozen? ⟨w5.heap.size, o, none⟩ = false := fun o => HE.out.frozen o
              have a0 : w10.cell? ⟨w5.heap.size, 0, none⟩ = some (.int .i64 1) := HE.out.cell 0
              have a1 : w10.cell? ⟨w5.heap.size, 1, none⟩ = some (.int .i64 1) := HE.out.cell 1
              have a2 : w10.cell? ⟨w5.heap.size, 2, none⟩ = some (.int .i64 (1 + r7)) := HE.out.cell 2
              have a3 : w10.cell? ⟨w5.heap.size, 3, none⟩ = some (.int .i64 1) := HE.out.cell 3
              have a4 : w10.cell? ⟨w5.heap.size, 4, none⟩ = some (.int .i64 0) := HE.out.cell 4
              have a5 : w10.cell? ⟨w5.heap.size, 5, none⟩ = some (.int .i64 0) := HE.out.cell 5
              have a6 : w10.cell? ⟨w5.heap.size, 6, none⟩ = some (.string ⟨#[]⟩) := HE.out.cell 6
              have a7 : w10.cell? ⟨w5.heap.size, 7, none⟩ = some (.slice none 0 0) := HE.out.cell 7
              have a8 : w10.cell? ⟨w5.heap.size, 8, none⟩ = some (.int .i64 0) := HE.out.cell 8
              obtain ⟨cz, hcz, hh⟩ := HE.out.2.2.1
              obtain ⟨u0, u1, u2, u3, u4, u5, u6, u7, u8, rfl⟩ := array9 hcz
              have fr : ∀ o, w10.frozen? ⟨w.heap.size, o, none⟩ = false := fun o => frozen_of_heap hh
              have b0 : w10.cell? ⟨w.heap.size, 0, none⟩ = some u0 := cell_of_heap hh
              have b1 : w10.cell? ⟨w.heap.size, 1, none⟩ = some u1 := cell_of_heap hh
              have b2 : w10.cell? ⟨w.heap.size, 2, none⟩ = some u2 := cell_of_heap hh
              have b3 : w10.cell? ⟨w.heap.size, 3, none⟩ = some u3 := cell_of_heap hh
              have b4 : w10.cell? ⟨w.heap.size, 4, none⟩ = some u4 := cell_of_heap hh
              have b5 : w10.cell? ⟨w.heap.size, 5, none⟩ = some u5 := cell_of_heap hh
              have b6 : w10.cell? ⟨w.heap.size, 6, none⟩ = some u6 := cell_of_heap hh
              have b7 : w10.cell? ⟨w.heap.size, 7, none⟩ = some u7 := cell_of_heap hh
              have b8 : w10.cell? ⟨w.heap.size, 8, none⟩ = some u8 := cell_of_heap hh
              clear hh hcz
              have OW : Hid ((w10.setCell ⟨w5.heap.size, 5, none⟩ (.int .i64 r10)).ownsRow (w5.heap.size + 1) 2 1 (.slice none 0 0) 0 (nv [])) := ownsRow_setCell_below OW.out (by simp) _
              have HE : Hid (EE w base g w.heap.size w5.heap.size #[.int .i64 1, .int .i64 1, .int .i64 (1 + r7), .int .i64 1, .int .i64 0, .int .i64 r10, .string ⟨#[]⟩, .slice none 0 0, .int .i64 0] (w10.setCell ⟨w5.heap.size, 5, none⟩ (.int .i64 r10))) := HE.out.set 5 _
              go_wp2
              refine bodyPost_ret (v := .agg #[.int .i64 1, .int .i64 1, .int .i64 (1 + r7), .int .i64 1, .int .i64 0, .int .i64 r10, .string ⟨#[]⟩, .slice none 0 0, .int .i64 0]) (by simp [results, Try.results43, go_sem, b0, b1, b2, b3, b4, b5, b6, b7, b8]) rfl ?_
              exact event_end HE.out OW.out rfl (by omega) _ _ _ _ _ _ _ _ _ _ _ _ _ _ _ _ _ (by first | exact HTX.out | exact Nat.zero_le _ | exact zeros_size (by omega))
      · have t3 : (((zs.length : Nat) : Int) == 0) = false := beq_eq_false_iff_ne.2 (by omega)
        go_wp2_with fail
        refine (draw_one base g 8 _ HE.out.1 (by omega)).mono ?_
        rintro e w6 ⟨b8, rfl, hs, hg, -⟩
        have OW : Hid (w6.ownsRow (w5.heap.size + 1) 2 1 (.slice a zs.length cap) zs.length (nv zs)) := OW.out.kept hg (.inr fun h => by have := (OW.out.lt g h).1; have := HE.out.2.2.2.2; omega)
        have HE : Hid (EE w base g w.heap.size w5.heap.size #[.int .i64 (2 + r1), .int .i64 (1 + r2), .int .i64 (1 + r3), .int .i64 kd, .int .i64 ky, .int .i64 nn, .string tx, .slice a zs.length cap, .int .i64 r4] w6) := HE.out.num hs hg
        clear hs hg
        cases b8
        · go_wp2_with fail
          refine (draw_one base g 15 _ HE.out.1 (by omega)).mono ?_
          rintro e w8 ⟨b15, rfl, hs, hg, -⟩
          have OW : Hid (w8.ownsRow (w5.heap.size + 1) 2 1 (.slice a zs.length cap) zs.length (nv zs)) := OW.out.kept hg (.inr fun h => by have := (OW.out.lt g h).1; have := HE.out.2.2.2.2; omega)
          have HE : Hid (EE w base g w.heap.size w5.heap.size #[.int .i64 (2 + r1), .int .i64 (1 + r2), .int .i64 (1 + r3), .int .i64 kd, .int .i64 ky, .int .i64 nn, .string tx, .slice a zs.length cap, .int .i64 r4] w8) := HE.out.num hs hg
          clear hs hg
          cases b15
          · have a0 : w8.cell? ⟨w5.heap.size, 0, none⟩ = some (.int .i64 (2 + r1)) := HE.out.cell 0
            have a1 : w8.cell? ⟨w5.heap.size, 1, none⟩ = some (.int .i64 (1 + r2)) := HE.out.cell 1
            have a2 : w8.cell? ⟨w5.heap.size, 2, none⟩ = some (.int .i64 (1 + r3)) := HE.out.cell 2
            have a3 : w8.cell? ⟨w5.heap.size, 3, none⟩ = some (.int .i64 kd) := HE.out.cell 3
            have a4 : w8.cell? ⟨w5.heap.size, 4, none⟩ = some (.int .i64 ky) := HE.out.cell 4
            have a5 : w8.cell? ⟨w5.heap.size, 5, none⟩ = some (.int .i64 nn) := HE.out.cell 5
            have a6 : w8.cell? ⟨w5.heap.size, 6, none⟩ = some (.string tx) := HE.out.cell 6
            have a7 : w8.cell? ⟨w5.heap.size, 7, none⟩ = some (.slice a zs.length cap) := HE.out.cell 7
            have a8 : w8.cell? ⟨w5.heap.size, 8, none⟩ = some (.int .i64 r4) := HE.out.cell 8
            obtain ⟨cz, hcz, hh⟩ := HE.out.2.2.1
            obtain ⟨u0, u1, u2, u3, u4, u5, u6, u7, u8, rfl⟩ := array9 hcz
            have fr : ∀ o, w8.frozen? ⟨w.heap.size, o, none⟩ = false := fun o => frozen_of_heap hh
            have b0 : w8.cell? ⟨w.heap.size, 0, none⟩ = some u0 := cell_of_heap hh
            have b1 : w8.cell? ⟨w.heap.size, 1, none⟩ = some u1 := cell_of_heap hh
            have b2 : w8.cell? ⟨w.heap.size, 2, none⟩ = some u2 := cell_of_heap hh
            have b3 : w8.cell? ⟨w.heap.size, 3, none⟩ = some u3 := cell_of_heap hh
            have b4 : w8.cell? ⟨w.heap.size, 4, none⟩ = some u4 := cell_of_heap hh
            have b5 : w8.cell? ⟨w.heap.size, 5, none⟩ = some u5 := cell_of_heap hh
            have b6 : w8.cell? ⟨w.heap.size, 6, none⟩ = some u6 := cell_of_heap hh
            have b7 : w8.cell? ⟨w.heap.size, 7, none⟩ = some u7 := cell_of_heap hh
            have b8 : w8.cell? ⟨w.heap.size, 8, none⟩ = some u8 := cell_of_heap hh
            clear hh hcz
            go_wp2
            refine bodyPost_ret (v := .agg #[.int .i64 (2 + r1), .int .i64 (1 + r2), .int .i64 (1 + r3), .int .i64 kd, .int .i64 ky, .int .i64 nn, .string tx, .slice a zs.length cap, .int .i64 r4]) (by simp [results, Try.results43, go_sem, b0, b1, b2, b3, b4, b5, b6, b7, b8]) rfl ?_
            exact event_end HE.out OW.out rfl (by omega) _ _ _ _ _ _ _ _ _ _ _ _ _ _ _ _ _ (by first | exact HTX.out | exact Nat.zero_le _ | exact zeros_size (by omega))
          · go_wp2_with fail
            refine (draw_n base g 7 _ HE.out.1 (by omega)).mono ?_
            rintro e w9 ⟨r9, rfl, pr9, qr9, -, hs, hg, -⟩
            have qr9 : r9 < 7 := qr9 (by omega)
            have OW : Hid (w9.ownsRow (w5.heap.size + 1) 2 1 (.slice a zs.length cap) zs.length (nv zs)) := OW.out.kept hg (.inr fun h => by have := (OW.out.lt g h).1; have := HE.out.2.2.2.2; omega)
            have HE : Hid (EE w base g w.heap.size w5.heap.size #[.int .i64 (2 + r1), .int .i64 (1 + r2), .int .i64 (1 + r3), .int .i64 kd, .int .i64 ky, .int .i64 nn, .string tx, .slice a zs.length cap, .int .i64 r4] w9) := HE.out.num hs hg
            clear hs hg
            obtain ⟨m, rfl⟩ := Int.eq_ofNat_of_zero_le pr9
            rcases (show m = 0 ∨ m = 1 ∨ m = 2 ∨ m = 3 ∨ m = 4 ∨ m = 5 ∨ m = 6 by omega) with rfl | rfl | rfl | rfl | rfl | rfl | rfl
            · go_wp2_with fail
              refine (draw_n base g 4 _ (HE.out.alloc _).1 (by omega)).mono ?_
              rintro e w10 ⟨r10, rfl, pr10, qr10, -, hs, hg, -⟩
              have qr10 : r10 < 4 := qr10 (by omega)
              obtain ⟨i10, rfl⟩ := Int.eq_ofNat_of_zero_le pr10
              obtain ⟨y, hy⟩ : ∃ y : Int, w10.cell? ⟨w9.heap.size, i10, none⟩ = some (.int .i64 y) := by
                have hb := World.cell?_of_block (a := ⟨w9.heap.size, i10, none⟩) (hg.block w9.heap.size (by simp) (by simp; have := HE.out.lt; have := HE.out.2.2.2.2; omega))
                rw [hb]
                rcases (show i10 = 0 ∨ i10 = 1 ∨ i10 = 2 ∨ i10 = 3 by omega) with rfl | rfl | rfl | rfl
                · exact ⟨0, by simp [go_sem]⟩
                · exact ⟨1, by simp [go_sem]⟩
                · exact ⟨1000000, by simp [go_sem]⟩
                · exact ⟨1000001, by simp [go_sem]⟩
              have hL10 : w9.heap.size < w10.heap.size := by have := hg.size; simp at this; omega
              have OW : Hid (w10.ownsRow (w5.heap.size + 1) 2 1 (.slice a zs.length cap) zs.length (nv zs)) := OW.out.kept ((World.grownBy_alloc _ _ _).trans hg) (.inr fun h => by have := (OW.out.lt g h).1; have := HE.out.2.2.2.2; omega)
              have HE : Hid (EE w base g w.heap.size w5.heap.size #[.int .i64 (2 + r1), .int .i64 (1 + r2), .int .i64 (1 + r3), .int .i64 kd, .int .i64 ky, .int .i64 nn, .string tx, .slice a zs.length cap, .int .i64 r4] w10) := (HE.out.alloc _).num hs hg
              clear hs hg
              have fe : ∀ o, w10.frozen? ⟨w5.heap.size, o, none⟩ = false := fun o => HE.out.frozen o
              have a0 : w10.cell? ⟨w5.heap.size, 0, none⟩ = some (.int .i64 (2 + r1)) := HE.out.cell 0
              have a1 : w10.cell? ⟨w5.heap.size, 1, none⟩ = some (.int .i64 (1 + r2)) := HE.out.cell 1
              have a2 : w10.cell? ⟨w5.heap.size, 2, none⟩ = some (.int .i64 (1 + r3)) := HE.out.cell 2
              have a3 : w10.cell? ⟨w5.heap.size, 3, none⟩ = some (.int .i64 kd) := HE.out.cell 3
              have a4 : w10.cell? ⟨w5.heap.size, 4, none⟩ = some (.int .i64 ky) := HE.out.cell 4
              have a5 : w10.cell? ⟨w5.heap.size, 5, none⟩ = some (.int .i64 nn) := HE.out.cell 5
              have a6 : w10.cell? ⟨w5.heap.size, 6, none⟩ = some (.string tx) := HE.out.cell 6
              have a7 : w10.cell? ⟨w5.heap.size, 7, none⟩ = some (.slice a zs.length cap) := HE.out.cell 7
              have a8 : w10.cell? ⟨w5.heap.size, 8, none⟩ = some (.int .i64 r4) := HE.out.cell 8
              obtain ⟨cz, hcz, hh⟩ := HE.out.2.2.1
              obtain ⟨u0, u1, u2, u3, u4, u5, u6, u7, u8, rfl⟩ := array9 hcz
              have fr : ∀ o, w10.frozen? ⟨w.heap.size, o, none⟩ = false := fun o => frozen_of_heap hh
              have b0 : w10.cell? ⟨w.heap.size, 0, none⟩ = some u0 := cell_of_heap hh
              have b1 : w10.cell? ⟨w.heap.size, 1, none⟩ = some u1 := cell_of_heap hh
              have b2 : w10.cell? ⟨w.heap.size, 2, none⟩ = some u2 := cell_of_heap hh
              have b3 : w10.cell? ⟨w.heap.size, 3, none⟩ = some u3 := cell_of_heap hh
              have b4 : w10.cell? ⟨w.heap.size, 4, none⟩ = some u4 := cell_of_heap hh
              have b5 : w10.cell? ⟨w.heap.size, 5, none⟩ = some u5 := cell_of_heap hh
              have b6 : w10.cell? ⟨w.heap.size, 6, none⟩ = some u6 := cell_of_heap hh
              have b7 : w10.cell? ⟨w.heap.size, 7, none⟩ = some u7 := cell_of_heap hh
              have b8 : w10.cell? ⟨w.heap.size, 8, none⟩ = some u8 := cell_of_heap hh
              clear hh hcz
              have OW : Hid ((w10.setCell ⟨w5.heap.size, 0, none⟩ (.int .i64 y)).ownsRow (w5.heap.size + 1) 2 1 (.slice a zs.length cap) zs.length (nv zs)) := ownsRow_setCell_below OW.out (by simp) _
              have HE : Hid (EE w base g w.heap.size w5.heap.size #[.int .i64 y, .int .i64 (1 + r2), .int .i64 (1 + r3), .int .i64 kd, .int .i64 ky, .int .i64 nn, .string tx, .slice a zs.length cap, .int .i64 r4] (w10.setCell ⟨w5.heap.size, 0, none⟩ (.int .i64 y))) := HE.out.set 0 _
              go_wp2
              refine bodyPost_ret (v := .agg #[.int .i64 y, .int .i64 (1 + r2), .int .i64 (1 + r3), .int .i64 kd, .int .i64 ky, .int .i64 nn, .string tx, .slice a zs.length cap, .int .i64 r4]) (by simp [results, Try.results43, go_sem, b0, b1, b2, b3, b4, b5, b6, b7, b8]) rfl ?_
              exact event_end HE.out OW.out rfl (by omega) _ _ _ _ _ _ _ _ _ _ _ _ _ _ _ _ _ (by first | exact HTX.out | exact Nat.zero_le _ | exact zeros_size (by omega))
            · go_wp2_with fail
              refine (draw_n base g 5 _ HE.out.1 (by omega)).mono ?_
              rintro e w10 ⟨r10, rfl, pr10, qr10, -, hs, hg, -⟩
              have qr10 : r10 < 5 := qr10 (by omega)
              have OW : Hid (w10.ownsRow (w5.heap.size + 1) 2 1 (.slice a zs.length cap) zs.length (nv zs)) := OW.out.kept hg (.inr fun h => by have := (OW.out.lt g h).1; have := HE.out.2.2.2.2; omega)
              have HE : Hid (EE w base g w.heap.size w5.heap.size #[.int .i64 (2 + r1), .int .i64 (1 + r2), .int .i64 (1 + r3), .int .i64 kd, .int .i64 ky, .int .i64 nn, .string tx, .slice a zs.length cap, .int .i64 r4] w10) := HE.out.num hs hg
              clear hs hg
              have fe : ∀ o, w10.frozen? ⟨w5.heap.size, o, none⟩ = false := fun o => HE.out.frozen o
              have a0 : w10.cell? ⟨w5.heap.size, 0, none⟩ = some (.int .i64 (2 + r1)) := HE.out.cell 0
              have a1 : w10.cell? ⟨w5.heap.size, 1, none⟩ = some (.int .i64 (1 + r2)) := HE.out.cell 1
              have a2 : w10.cell? ⟨w5.heap.size, 2, none⟩ = some (.int .i64 (1 + r3)) := HE.out.cell 2
              have a3 : w10.cell? ⟨w5.heap.size, 3, none⟩ = some (.int .i64 kd) := HE.out.cell 3
              have a4 : w10.cell? ⟨w5.heap.size, 4, none⟩ = some (.int .i64 ky) := HE.out.cell 4
              have a5 : w10.cell? ⟨w5.heap.size, 5, none⟩ = some (.int .i64 nn) := HE.out.cell 5
              have a6 : w10.cell? ⟨w5.heap.size, 6, none⟩ = some (.string tx) := HE.out.cell 6
              have a7 : w10.cell? ⟨w5.heap.size, 7, none⟩ = some (.slice a zs.length cap) := HE.out.cell 7
              have a8 : w10.cell? ⟨w5.heap.size, 8, none⟩ = some (.int .i64 r4) := HE.out.cell 8
              obtain ⟨cz, hcz, hh⟩ := HE.out.2.2.1
              obtain ⟨u0, u1, u2, u3, u4, u5, u6, u7, u8, rfl⟩ := array9 hcz
              have fr : ∀ o, w10.frozen? ⟨w.heap.size, o, none⟩ = false := fun o => frozen_of_heap hh
              have b0 : w10.cell? ⟨w.heap.size, 0, none⟩ = some u0 := cell_of_heap hh
              have b1 : w10.cell? ⟨w.heap.size, 1, none⟩ = some u1 := cell_of_heap hh
              have b2 : w10.cell? ⟨w.heap.size, 2, none⟩ = some u2 := cell_of_heap hh
              have b3 : w10.cell? ⟨w.heap.size, 3, none⟩ = some u3 := cell_of_heap hh
              have b4 : w10.cell? ⟨w.heap.size, 4, none⟩ = some u4 := cell_of_heap hh
              have b5 : w10.cell? ⟨w.heap.size, 5, none⟩ = some u5 := cell_of_heap hh
              have b6 : w10.cell? ⟨w.heap.size, 6, none⟩ = some u6 := cell_of_heap hh
              have b7 : w10.cell? ⟨w.heap.size, 7, none⟩ = some u7 := cell_of_heap hh
              have b8 : w10.cell? ⟨w.heap.size, 8, none⟩ = some u8 := cell_of_heap hh
              clear hh hcz
              have OW : Hid ((w10.setCell ⟨w5.heap.size, 1, none⟩ (.int .i64 r10)).ownsRow (w5.heap.size + 1) 2 1 (.slice a zs.length cap) zs.length (nv zs)) := ownsRow_setCell_below OW.out (by simp) _
              have HE : Hid (EE w base g w.heap.size w5.heap.size #[.int .i64 (2 + r1), .int .i64 r10, .int .i64 (1 + r3), .int .i64 kd, .int .i64 ky, .int .i64 nn, .string tx, .slice a zs.length cap, .int .i64 r4] (w10.setCell ⟨w5.heap.size, 1, none⟩ (.int .i64 r10))) := HE.out.set 1 _
              go_wp2
              refine bodyPost_ret (v := .agg #[.int .i64 (2 + r1), .int .i64 r10, .int .i64 (1 + r3), .int .i64 kd, .int .i64 ky, .int .i64 nn, .string tx, .slice a zs.length cap, .int .i64 r4]) (by simp [results, Try.results43, go_sem, b0, b1, b2, b3, b4, b5, b6, b7, b8]) rfl ?_
              exact event_end HE.out OW.out rfl (by omega) _ _ _ _ _ _ _ _ _ _ _ _ _ _ _ _ _ (by first | exact HTX.out | exact Nat.zero_le _ | exact zeros_size (by omega))
            · go_wp2_with fail
              refine (draw_n base g 8 _ HE.out.1 (by omega)).mono ?_
              rintro e w10 ⟨r10, rfl, pr10, qr10, -, hs, hg, -⟩
              have qr10 : r10 < 8 := qr10 (by omega)
              have OW : Hid (w10.ownsRow (w5.heap.size + 1) 2 1 (.slice a zs.length cap) zs.length (nv zs)) := OW.out.kept hg (.inr fun h => by have := (OW.out.lt g h).1; have := HE.out.2.2.2.2; omega)
              have HE : Hid (EE w base g w.heap.size w5.heap.size #[.int .i64 (2 + r1), .int .i64 (1 + r2), .int .i64 (1 + r3), .int .i64 kd, .int .i64 ky, .int .i64 nn, .string tx, .slice a zs.length cap, .int .i64 r4] w10) := HE.out.num hs hg
              clear hs hg
              have fe : ∀ o, w10.frozen? ⟨w5.heap.size, o, none⟩ = false := fun o => HE.out.frozen o
              have a0 : w10.cell? ⟨w5.heap.size, 0, none⟩ = some (.int .i64 (2 + r1)) := HE.out.cell 0
              have a1 : w10.cell? ⟨w5.heap.size, 1, none⟩ = some (.int .i64 (1 + r2)) := HE.out.cell 1
              have a2 : w10.cell? ⟨w5.heap.size, 2, none⟩ = some (.int .i64 (1 + r3)) := HE.out.cell 2
              have a3 : w10.cell? ⟨w5.heap.size, 3, none⟩ = some (.int .i64 kd) := HE.out.cell 3
              have a4 : w10.cell? ⟨w5.heap.size, 4, none⟩ = some (.int .i64 ky) := HE.out.cell 4
              have a5 : w10.cell? ⟨w5.heap.size, 5, none⟩ = some (.int .i64 nn) := HE.out.cell 5
              have a6 : w10.cell? ⟨w5.heap.size, 6, none⟩ = some (.string tx) := HE.out.cell 6
              have a7 : w10.cell? ⟨w5.heap.size, 7, none⟩ = some (.slice a zs.length cap) := HE.out.cell 7
              have a8 : w10.cell? ⟨w5.heap.size, 8, none⟩ = some (.int .i64 r4) := HE.out.cell 8
              obtain ⟨cz, hcz, hh⟩ := HE.out.2.2.1
              obtain ⟨u0, u1, u2, u3, u4, u5, u6, u7, u8, rfl⟩ := array9 hcz
              have fr : ∀ o, w10.frozen? ⟨w.heap.size, o, none⟩ = false := fun o => frozen_of_heap hh
              have b0 : w10.cell? ⟨w.heap.size, 0, none⟩ = some u0 := cell_of_heap hh
              have b1 : w10.cell? ⟨w.heap.size, 1, none⟩ = some u1 := cell_of_heap hh
              have b2 : w10.cell? ⟨w.heap.size, 2, none⟩ = some u2 := cell_of_heap hh
              have b3 : w10.cell? ⟨w.heap.size, 3, none⟩ = some u3 := cell_of_heap hh
              have b4 : w10.cell? ⟨w.heap.size, 4, none⟩ = some u4 := cell_of_heap hh
              have b5 : w10.cell? ⟨w.heap.size, 5, none⟩ = some u5 := cell_of_heap hh
              have b6 : w10.cell? ⟨w.heap.size, 6, none⟩ = some u6 := cell_of_heap hh
              have b7 : w10.cell? ⟨w.heap.size, 7, none⟩ = some u7 := cell_of_heap hh
              have b8 : w10.cell? ⟨w.heap.size, 8, none⟩ = some u8 := cell_of_heap hh
              clear hh hcz
              have OW : Hid ((w10.setCell ⟨w5.heap.size, 2, none⟩ (.int .i64 r10)).ownsRow (w5.heap.size + 1) 2 1 (.slice a zs.length cap) zs.length (nv zs)) := ownsRow_setCell_below OW.out (by simp) _
              have HE : Hid (EE w base g w.heap.size w5.heap.size #[.int .i64 (2 + r1), .int .i64 (1 + r2), .int .i64 r10, .int .i64 kd, .int .i64 ky, .int .i64 nn, .string tx, .slice a zs.length cap, .int .i64 r4] (w10.setCell ⟨w5.heap.size, 2, none⟩ (.int .i64 r10))) := HE.out.set 2 _
              go_wp2
              refine bodyPost_ret (v := .agg #[.int .i64 (2 + r1), .int .i64 (1 + r2), .int .i64 r10, .int .i64 kd, .int .i64 ky, .int .i64 nn, .string tx, .slice a zs.length cap, .int .i64 r4]) (by simp [results, Try.results43, go_sem, b0, b1, b2, b3, b4, b5, b6, b7, b8]) rfl ?_
              exact event_end HE.out OW.out rfl (by omega) _ _ _ _ _ _ _ _ _ _ _ _ _ _ _ _ _ (by first | exact HTX.out | exact Nat.zero_le _ | exact zeros_size (by omega))
            · go_wp2_with fail
              refine (draw_n base g 10 _ HE.out.1 (by omega)).mono ?_
              rintro e w10 ⟨r10, rfl, pr10, qr10, -, hs, hg, -⟩
              have qr10 : r10 < 10 := qr10 (by omega)
              have OW : Hid (w10.ownsRow (w5.heap.size + 1) 2 1 (.slice a zs.length cap) zs.length (nv zs)) := OW.out.kept hg (.inr fun h => by have := (OW.out.lt g h).1; have := HE.out.2.2.2.2; omega)
              have HE : Hid (EE w base g w.heap.size w5.heap.size #[.int .i64 (2 + r1), .int .i64 (1 + r2), .int .i64 (1 + r3), .int .i64 kd, .int .i64 ky, .int .i64 nn, .string tx, .slice a zs.length cap, .int .i64 r4] w10) := HE.out.num hs hg
              clear hs hg
              have fe : ∀ o, w10.frozen? ⟨w5.heap.size, o, none⟩ = false := fun o => HE.out.frozen o
              have a0 : w10.cell? ⟨w5.heap.size, 0, none⟩ = some (.int .i64 (2 + r1)) := HE.out.cell 0
              have a1 : w10.cell? ⟨w5.heap.size, 1, none⟩ = some (.int .i64 (1 + r2)) := HE.out.cell 1
              have a2 : w10.cell? ⟨w5.heap.size, 2, none⟩ = some (.int .i64 (1 + r3)) := HE.out.cell 2
              have a3 : w10.cell? ⟨w5.heap.size, 3, none⟩ = some (.int .i64 kd) := HE.out.cell 3
              have a4 : w10.cell? ⟨w5.heap.size, 4, none⟩ = some (.int .i64 ky) := HE.out.cell 4
              have a5 : w10.cell? ⟨w5.heap.size, 5, none⟩ = some (.int .i64 nn) := HE.out.cell 5
              have a6 : w10.cell? ⟨w5.heap.size, 6, none⟩ = some (.string tx) := HE.out.cell 6
              have a7 : w10.cell? ⟨w5.heap.size, 7, none⟩ = some (.slice a zs.length cap) := HE.out.cell 7
              have a8 : w10.cell? ⟨w5.heap.size, 8, none⟩ = some (.int .i64 r4) := HE.out.cell 8
              obtain ⟨cz, hcz, hh⟩ := HE.out.2.2.1
              obtain ⟨u0, u1, u2, u3, u4, u5, u6, u7, u8, rfl⟩ := array9 hcz
              have fr : ∀ o, w10.frozen? ⟨w.heap.size, o, none⟩ = false := fun o => frozen_of_heap hh
              have b0 : w10.cell? ⟨w.heap.size, 0, none⟩ = some u0 := cell_of_heap hh
              have b1 : w10.cell? ⟨w.heap.size, 1, none⟩ = some u1 := cell_of_heap hh
              have b2 : w10.cell? ⟨w.heap.size, 2, none⟩ = some u2 := cell_of_heap hh
              have b3 : w10.cell? ⟨w.heap.size, 3, none⟩ = some u3 := cell_of_heap hh
              have b4 : w10.cell? ⟨w.heap.size, 4, none⟩ = some u4 := cell_of_heap hh
              have b5 : w10.cell? ⟨w.heap.size, 5, none⟩ = some u5 := cell_of_heap hh
              have b6 : w10.cell? ⟨w.heap.size, 6, none⟩ = some u6 := cell_of_heap hh
              have b7 : w10.cell? ⟨w.heap.size, 7, none⟩ = some u7 := cell_of_heap hh
              have b8 : w10.cell? ⟨w.heap.size, 8, none⟩ = some u8 := cell_of_heap hh
              clear hh hcz
              have OW : Hid ((w10.setCell ⟨w5.heap.size, 3, none⟩ (.int .i64 r10)).ownsRow (w5.heap.size + 1) 2 1 (.slice a zs.length cap) zs.length (nv zs)) := ownsRow_setCell_below OW.out (by simp) _
              have HE : Hid (EE w base g w.heap.size w5.heap.size #[.int .i64 (2 + r1), .int .i64 (1 + r2), .int .i64 (1 + r3), .int .i64 r10, .int .i64 ky, .int .i64 nn, .string tx, .slice a zs.length cap, .int .i64 r4] (w10.setCell ⟨w5.heap.size, 3, none⟩ (.int .i64 r10))) := HE.out.set 3 _
              go_wp2
              refine bodyPost_ret (v := .agg #[.int .i64 (2 + r1), .int .i64 (1 + r2), .int .i64 (1 + r3), .int .i64 r10, .int .i64 ky, .int .i64 nn, .string tx, .slice a zs.length cap, .int .i64 r4]) (by simp [results, Try.results43, go_sem, b0, b1, b2, b3, b4, b5, b6, b7, b8]) rfl ?_
              exact event_end HE.out OW.out rfl (by omega) _ _ _ _ _ _ _ _ _ _ _ _ _ _ _ _ _ (by first | exact HTX.out | exact Nat.zero_le _ | exact zeros_size (by omega))
            · have c7 : w9.cell? ⟨w5.heap.size, 7, none⟩ = some (.slice a zs.length cap) := HE.out.cell 7
              have l9 : w5.heap.size < w9.heap.size := HE.out.lt
              go_wp2_with fail
              go_region_law (first
                | (refine step_append_lies _ rfl (.tmp 93) (.tmp 96) 23 rfl (w5.heap.size + 1) 2 i0 (.int .i64 0) 1 8 Try.underlying23 hi hz0 hz1 hz2 rfl (by decide) (.slice a zs.length cap) zs.length (nv zs) rfl (OW10.out.alloc _) ⟨w10.heap.size, 0, none⟩ 1 1 [.int .i64 r10] rfl rfl (cell_one_new _ _ _) (by intro u hu; simp at hu; subst hu; rfl) (by decide) (by unfold maxLen; omega) (by omega) (by have := HE10.out.lt; simp; omega) _ rfl ?_; intro g3 cap3 w11 hown9 hgrow9 hat9 hlt9; have HE11 : Hid (EE w base g w.heap.size w5.heap.size #[.int .i64 (2 + r1), .int .i64 (1 + r2), .int .i64 (1 + r3), .int .i64 kd, .int .i64 ky, .int .i64 nn, .string tx, .slice a zs.length cap, .int .i64 r4] w11) := (HE10.out.alloc _).grown hgrow9 (fun q hq => (OW10.out.lt q hq).1); have OW11 : Hid (w11.ownsRow (w5.heap.size + 1) 2 1 (.slice (some ⟨g3, 0, none⟩) (zs.length + 1) cap3) (zs.length + 1) (nv zs ++ [.int .i64 r10])) := hown9; have fe : (∀ o, w11.frozen? ⟨w5.heap.size, o, none⟩ = false) := (fun o => HE11.out.frozen o); have a0 : w11.cell? ⟨w5.heap.size, 0, none⟩ = some (.int .i64 (2 + r1)) := HE11.out.cell 0; have a1 : w11.cell? ⟨w5.heap.size, 1, none⟩ = some (.int .i64 (1 + r2)) := HE11.out.cell 1; have a2 : w11.cell? ⟨w5.heap.size, 2, none⟩ = some (.int .i64 (1 + r3)) := HE11.out.cell 2; have a3 : w11.cell? ⟨w5.heap.size, 3, none⟩ = some (.int .i64 kd) := HE11.out.cell 3; have a4 : w11.cell? ⟨w5.heap.size, 4, none⟩ = some (.int .i64 ky) := HE11.out.cell 4; have a5 : w11.cell? ⟨w5.heap.size, 5, none⟩ = some (.int .i64 nn) := HE11.out.cell 5; have a6 : w11.cell? ⟨w5.heap.size, 6, none⟩ = some (.string tx) := HE11.out.cell 6; have a7 : w11.cell? ⟨w5.heap.size, 7, none⟩ = some (.slice a zs.length cap) := HE11.out.cell 7; have a8 : w11.cell? ⟨w5.heap.size, 8, none⟩ = some (.int .i64 r4) := HE11.out.cell 8; obtain ⟨cz, hcz, hh⟩ := HE11.out.2.2.1; obtain ⟨u0, u1, u2, u3, u4, u5, u6, u7, u8, rfl⟩ := array9 hcz; have fr : ∀ o, w11.frozen? ⟨w.heap.size, o, none⟩ = false := fun o => frozen_of_heap hh; have b0 : w11.cell? ⟨w.heap.size, 0, none⟩ = some u0 := cell_of_heap hh; have b1 : w11.cell? ⟨w.heap.size, 1, none⟩ = some u1 := cell_of_heap hh; have b2 : w11.cell? ⟨w.heap.size, 2, none⟩ = some u2 := cell_of_heap hh; have b3 : w11.cell? ⟨w.heap.size, 3, none⟩ = some u3 := cell_of_heap hh; have b4 : w11.cell? ⟨w.heap.size, 4, none⟩ = some u4 := cell_of_heap hh; have b5 : w11.cell? ⟨w.heap.size, 5, none⟩ = some u5 := cell_of_heap hh; have b6 : w11.cell? ⟨w.heap.size, 6, none⟩ = some u6 := cell_of_heap hh; have b7 : w11.cell? ⟨w.heap.size, 7, none⟩ = some u7 := cell_of_heap hh; have b8 : w11.cell? ⟨w.heap.size, 8, none⟩ = some u8 := cell_of_heap hh; clear hh hcz; clear hown9 hgrow9 hat9 hlt9)
                | (go_simp; go_at_call 48; refine (draw_n base g 9 w9.drew HE.out.drew.1 (by omega)).mono ?_; rintro e w10 ⟨r10, rfl, p10, q10, -, hs, hg, -⟩; have hg : w9.grownBy w10 (some g) := ⟨hg.os, hg.tape, hg.output, hg.size, hg.block⟩; have HE10 : Hid (EE w base g w.heap.size w5.heap.size #[.int .i64 (2 + r1), .int .i64 (1 + r2), .int .i64 (1 + r3), .int .i64 kd, .int .i64 ky, .int .i64 nn, .string tx, .slice a zs.length cap, .int .i64 r4] w10) := HE.out.num hs hg; have OW10 : Hid (w10.ownsRow (w5.heap.size + 1) 2 1 (.slice a zs.length cap) zs.length (nv zs)) := OW.out.kept hg (.inr fun h => (by have := (OW.out.lt g h).1; have := HE.out.2.2.2.2; omega)); have c10 : w10.cell? ⟨w5.heap.size, 7, none⟩ = some (.slice a zs.length cap) := HE10.out.cell 7; have l10 : w5.heap.size < w10.heap.size := HE10.out.lt; clear hs hg p10 q10))
              all_goals
                have OW : Hid ((w11.setCell ⟨w5.heap.size, 7, none⟩ (.slice (some ⟨g3, 0, none⟩) (zs.length + 1) cap3)).ownsRow (w5.heap.size + 1) 2 1 (.slice (some ⟨g3, 0, none⟩) (zs.length + 1) cap3) (zs.length + 1) (nv (zs ++ [r10]))) := by
                  have := ownsRow_setCell_below OW11.out (a := ⟨w5.heap.size, 7, none⟩) (by simp) (.slice (some ⟨g3, 0, none⟩) (zs.length + 1) cap3)
                  unfold Hid
                  simpa [nv] using this
                have HE : Hid (EE w base g w.heap.size w5.heap.size #[.int .i64 (2 + r1), .int .i64 (1 + r2), .int .i64 (1 + r3), .int .i64 kd, .int .i64 ky, .int .i64 nn, .string tx, .slice (some ⟨g3, 0, none⟩) (zs.length + 1) cap3, .int .i64 r4] (w11.setCell ⟨w5.heap.size, 7, none⟩ (.slice (some ⟨g3, 0, none⟩) (zs.length + 1) cap3))) := HE11.out.set 7 _
                go_wp2
                refine bodyPost_ret (v := .agg #[.int .i64 (2 + r1), .int .i64 (1 + r2), .int .i64 (1 + r3), .int .i64 kd, .int .i64 ky, .int .i64 nn, .string tx, .slice (some ⟨g3, 0, none⟩) (zs.length + 1) cap3, .int .i64 r4]) (by simp [results, Try.results43, go_sem, b0, b1, b2, b3, b4, b5, b6, b7, b8]) rfl ?_
                exact event_end HE.out OW.out (by simp) (by omega) _ _ _ _ _ _ _ _ _ _ _ _ _ _ _ _ _ (by first | exact HTX.out | exact Nat.zero_le _ | exact zeros_size (by omega))
            · go_wp2_with fail
              refine (draw_n base g 3 _ HE.out.1 (by omega)).mono ?_
              rintro e w10 ⟨r10, rfl, pr10, qr10, -, hs, hg, -⟩
              have qr10 : r10 < 3 := qr10 (by omega)
              have OW : Hid (w10.ownsRow (w5.heap.size + 1) 2 1 (.slice a zs.length cap) zs.length (nv zs)) := OW.out.kept hg (.inr fun h => by have := (OW.out.lt g h).1; have := HE.out.2.2.2.2; omega)
              have HE : Hid (EE w base g w.heap.size w5.heap.size #[.int .i64 (2 + r1), .int .i64 (1 + r2), .int .i64 (1 + r3), .int .i64 kd, .int .i64 ky, .int .i64 nn, .string tx, .slice a zs.length cap, .int .i64 r4] w10) := HE.out.num hs hg
              clear hs hg
              obtain ⟨m10, rfl⟩ := Int.eq_ofNat_of_zero_le pr10
              obtain ⟨j0, hj, hy0, hy1, hy2⟩ := info_parts Try.info5
              go_wp2_with (at_make; refine wpList_make_full _ rfl _ _ 22 rfl w10.heap.size 5 j0 (.int .u8 0) 1 Try.underlying22 hj hy0 hy1 .i64 .i64 _ _ (29 + m10) rfl rfl (by omega) (by omega) (by rw [hy2]; omega) (by unfold maxLen; omega) (Nat.le_refl _) ?_; intro w11 hown hgrow; rw [made_zeros, ← zeros_bv] at hown; have hcv := own_string (P := Try.prog) (n := 29 + m10) (List.replicate (29 + m10) 0) Try.underlying22 Try.underlying5 Try.underlying9 (by simp) hown; have OW : Hid (w11.ownsRow (w5.heap.size + 1) 2 1 (.slice a zs.length cap) zs.length (nv zs)) := OW.out.kept hgrow (Classical.em _); have HE : Hid (EE w base g w.heap.size w5.heap.size #[.int .i64 (2 + r1), .int .i64 (1 + r2), .int .i64 (1 + r3), .int .i64 kd, .int .i64 ky, .int .i64 nn, .string tx, .slice a zs.length cap, .int .i64 r4] w11) := HE.out.grown hgrow (fun q hq => (by cases hq)); have fe : (∀ o, w11.frozen? ⟨w5.heap.size, o, none⟩ = false) := (fun o => HE.out.frozen o); have a0 : w11.cell? ⟨w5.heap.size, 0, none⟩ = some (.int .i64 (2 + r1)) := HE.out.cell 0; have a1 : w11.cell? ⟨w5.heap.size, 1, none⟩ = some (.int .i64 (1 + r2)) := HE.out.cell 1; have a2 : w11.cell? ⟨w5.heap.size, 2, none⟩ = some (.int .i64 (1 + r3)) := HE.out.cell 2; have a3 : w11.cell? ⟨w5.heap.size, 3, none⟩ = some (.int .i64 kd) := HE.out.cell 3; have a4 : w11.cell? ⟨w5.heap.size, 4, none⟩ = some (.int .i64 ky) := HE.out.cell 4; have a5 : w11.cell? ⟨w5.heap.size, 5, none⟩ = some (.int .i64 nn) := HE.out.cell 5; have a6 : w11.cell? ⟨w5.heap.size, 6, none⟩ = some (.string tx) := HE.out.cell 6; have a7 : w11.cell? ⟨w5.heap.size, 7, none⟩ = some (.slice a zs.length cap) := HE.out.cell 7; have a8 : w11.cell? ⟨w5.heap.size, 8, none⟩ = some (.int .i64 r4) := HE.out.cell 8; obtain ⟨cz, hcz, hh⟩ := HE.out.2.2.1; obtain ⟨u0, u1, u2, u3, u4, u5, u6, u7, u8, rfl⟩ := array9 hcz; have fr : ∀ o, w11.frozen? ⟨w.heap.size, o, none⟩ = false := fun o => frozen_of_heap hh; have b0 : w11.cell? ⟨w.heap.size, 0, none⟩ = some u0 := cell_of_heap hh; have b1 : w11.cell? ⟨w.heap.size, 1, none⟩ = some u1 := cell_of_heap hh; have b2 : w11.cell? ⟨w.heap.size, 2, none⟩ = some u2 := cell_of_heap hh; have b3 : w11.cell? ⟨w.heap.size, 3, none⟩ = some u3 := cell_of_heap hh; have b4 : w11.cell? ⟨w.heap.size, 4, none⟩ = some u4 := cell_of_heap hh; have b5 : w11.cell? ⟨w.heap.size, 5, none⟩ = some u5 := cell_of_heap hh; have b6 : w11.cell? ⟨w.heap.size, 6, none⟩ = some u6 := cell_of_heap hh; have b7 : w11.cell? ⟨w.heap.size, 7, none⟩ = some u7 := cell_of_heap hh; have b8 : w11.cell? ⟨w.heap.size, 8, none⟩ = some u8 := cell_of_heap hh; clear hh hcz; clear hown hgrow)
              have OW : Hid ((w11.setCell ⟨w5.heap.size, 6, none⟩ (.string ⟨(List.replicate (29 + m10) 0).toArray⟩)).ownsRow (w5.heap.size + 1) 2 1 (.slice a zs.length cap) zs.length (nv zs)) := ownsRow_setCell_below OW.out (by simp) _
              have HE : Hid (EE w base g w.heap.size w5.heap.size #[.int .i64 (2 + r1), .int .i64 (1 + r2), .int .i64 (1 + r3), .int .i64 kd, .int .i64 ky, .int .i64 nn, .string ⟨(List.replicate (29 + m10) 0).toArray⟩, .slice a zs.length cap, .int .i64 r4] (w11.setCell ⟨w5.heap.size, 6, none⟩ (.string ⟨(List.replicate (29 + m10) 0).toArray⟩))) := HE.out.set 6 _
              refine bodyPost_ret (v := .agg #[.int .i64 (2 + r1), .int .i64 (1 + r2), .int .i64 (1 + r3), .int .i64 kd, .int .i64 ky, .int .i64 nn, .string ⟨(List.replicate (29 + m10) 0).toArray⟩, .slice a zs.length cap, .int .i64 r4]) (by simp [results, Try.results43, go_sem, b0, b1, b2, b3, b4, b5, b6, b7, b8]) rfl ?_
              exact event_end HE.out OW.out rfl (by omega) _ _ _ _ _ _ _ _ _ _ _ _ _ _ _ _ _ (by first | exact HTX.out | exact Nat.zero_le _ | exact zeros_size (by omega))
            · go_wp2_with fail
              refine (draw_edge2 base g _ HE.out.1).mono ?_
              rintro e w10 ⟨r10, rfl, -, -, hs, hg⟩
              have OW : Hid (w10.ownsRow (w5.heap.size + 1) 2 1 (.slice a zs.length cap) zs.length (nv zs)) := OW.out.kept hg (.inr fun h => by have := (OW.out.lt g h).1; have := HE.out.2.2.2.2; omega)
              have HE : Hid (EE w base g w.heap.size w5.heap.size #[.int .i64 (2 + r1), .int .i64 (1 + r2), .int .i64 (1 + r3), .int .i64 kd, .int .i64 ky, .int .i64 nn, .string tx, .slice a zs.length cap, .int .i64 r4] w10) := HE.out.num hs hg
              clear hs hg
              have fe : ∀ o, w10.frozen? ⟨w5.heap.size, o, none⟩ = false := fun o => HE.out.frozen o
              have a0 : w10.cell? ⟨w5.heap.size, 0, none⟩ = some (.int .i64 (2 + r1)) := HE.out.cell 0
              have a1 : w10.cell? ⟨w5.heap.size, 1, none⟩ = some (.int .i64 (1 + r2)) := HE.out.cell 1
              have a2 : w10.cell? ⟨w5.heap.size, 2, none⟩ = some (.int .i64 (1 + r3)) := HE.out.cell 2
              have a3 : w10.cell? ⟨w5.heap.size, 3, none⟩ = some (.int .i64 kd) := HE.out.cell 3
              have a4 : w10.cell? ⟨w5.heap.size, 4, none⟩ = some (.int .i64 ky) := HE.out.cell 4
              have a5 : w10.cell? ⟨w5.heap.size, 5, none⟩ = some (.int .i64 nn) := HE.out.cell 5
              have a6 : w10.cell? ⟨w5.heap.size, 6, none⟩ = some (.string tx) := HE.out.cell 6
              have a7 : w10.cell? ⟨w5.heap.size, 7, none⟩ = some (.slice a zs.length cap) := HE.out.cell 7
              have a8 : w10.cell? ⟨w5.heap.size, 8, none⟩ = some (.int .i64 r4) := HE.out.cell 8
              obtain ⟨cz, hcz, hh⟩ := HE.out.2.2.1
              obtain ⟨u0, u1, u2, u3, u4, u5, u6, u7, u8, rfl⟩ := array9 hcz
              have fr : ∀ o, w10.frozen? ⟨w.heap.size, o, none⟩ = false := fun o => frozen_of_heap hh
              have b0 : w10.cell? ⟨w.heap.size, 0, none⟩ = some u0 := cell_of_heap hh
              have b1 : w10.cell? ⟨w.heap.size, 1, none⟩ = some u1 := cell_of_heap hh
              have b2 : w10.cell? ⟨w.heap.size, 2, none⟩ = some u2 := cell_of_heap hh
              have b3 : w10.cell? ⟨w.heap.size, 3, none⟩ = some u3 := cell_of_heap hh
              have b4 : w10.cell? ⟨w.heap.size, 4, none⟩ = some u4 := cell_of_heap hh
              have b5 : w10.cell? ⟨w.heap.size, 5, none⟩ = some u5 := cell_of_heap hh
              have b6 : w10.cell? ⟨w.heap.size, 6, none⟩ = some u6 := cell_of_heap hh
              have b7 : w10.cell? ⟨w.heap.size, 7, none⟩ = some u7 := cell_of_heap hh
              have b8 : w10.cell? ⟨w.heap.size, 8, none⟩ = some u8 := cell_of_heap hh
              clear hh hcz
              have OW : Hid ((w10.setCell ⟨w5.heap.size, 5, none⟩ (.int .i64 r10)).ownsRow (w5.heap.size + 1) 2 1 (.slice a zs.length cap) zs.length (nv zs)) := ownsRow_setCell_below OW.out (by simp) _
              have HE : Hid (EE w base g w.heap.size w5.heap.size #[.int .i64 (2 + r1), .int .i64 (1 + r2), .int .i64 (1 + r3), .int .i64 kd, .int .i64 ky, .int .i64 r10, .string tx, .slice a zs.length cap, .int .i64 r4] (w10.setCell ⟨w5.heap.size, 5, none⟩ (.int .i64 r10))) := HE.out.set 5 _
              go_wp2
              refine bodyPost_ret (v := .agg #[.int .i64 (2 + r1), .int .i64 (1 + r2), .int .i64 (1 + r3), .int .i64 kd, .int .i64 ky, .int .i64 r10, .string tx, .slice a zs.length cap, .int .i64 r4]) (by simp [results, Try.results43, go_sem, b0, b1, b2, b3, b4, b5, b6, b7, b8]) rfl ?_
              exact event_end HE.out OW.out rfl (by omega) _ _ _ _ _ _ _ _ _ _ _ _ _ _ _ _ _ (by first | exact HTX.out | exact Nat.zero_le _ | exact zeros_size (by omega))
        · go_wp2_with fail
          refine (draw_n base g 2 _ HE.out.1 (by omega)).mono ?_
          rintro e w7 ⟨r7, rfl, pr7, qr7, -, hs, hg, -⟩
          have qr7 : r7 < 2 := qr7 (by omega)
          have OW : Hid (w7.ownsRow (w5.heap.size + 1) 2 1 (.slice a zs.length cap) zs.length (nv zs)) := OW.out.kept hg (.inr fun h => by have := (OW.out.lt g h).1; have := HE.out.2.2.2.2; omega)
          have HE : Hid (EE w base g w.heap.size w5.heap.size #[.int .i64 (2 + r1), .int .i64 (1 + r2), .int .i64 (1 + r3), .int .i64 kd, .int .i64 ky, .int .i64 nn, .string tx, .slice a zs.length cap, .int .i64 r4] w7) := HE.out.num hs hg
          clear hs hg
          have fe : ∀ o, w7.frozen? ⟨w5.heap.size, o, none⟩ = false := fun o => HE.out.frozen o
          have d0 : w7.cell? ⟨w5.heap.size, 0, none⟩ = some (.int .i64 (2 + r1)) := HE.out.cell 0
          have d1 : w7.cell? ⟨w5.heap.size, 1, none⟩ = some (.int .i64 (1 + r2)) := HE.out.cell 1
          have d2 : w7.cell? ⟨w5.heap.size, 2, none⟩ = some (.int .i64 (1 + r3)) := HE.out.cell 2
          have d3 : w7.cell? ⟨w5.heap.size, 3, none⟩ = some (.int .i64 kd) := HE.out.cell 3
          have d4 : w7.cell? ⟨w5.heap.size, 4, none⟩ = some (.int .i64 ky) := HE.out.cell 4
          have d5 : w7.cell? ⟨w5.heap.size, 5, none⟩ = some (.int .i64 nn) := HE.out.cell 5
          have d6 : w7.cell? ⟨w5.heap.size, 6, none⟩ = some (.string tx) := HE.out.cell 6
          have d7 : w7.cell? ⟨w5.heap.size, 7, none⟩ = some (.slice a zs.length cap) := HE.out.cell 7
          have d8 : w7.cell? ⟨w5.heap.size, 8, none⟩ = some (.int .i64 r4) := HE.out.cell 8
          have HE0 : Hid (EE w base g w.heap.size w5.heap.size #[.int .i64 1, .int .i64 (1 + r2), .int .i64 (1 + r3), .int .i64 kd, .int .i64 ky, .int .i64 nn, .string tx, .slice a zs.length cap, .int .i64 r4] (w7.setCell ⟨w5.heap.size, 0, none⟩ (.int .i64 1))) := HE.out.set 0 _
          have HE1 : Hid (EE w base g w.heap.size w5.heap.size #[.int .i64 1, .int .i64 1, .int .i64 (1 + r3), .int .i64 kd, .int .i64 ky, .int .i64 nn, .string tx, .slice a zs.length cap, .int .i64 r4] ((w7.setCell ⟨w5.heap.size, 0, none⟩ (.int .i64 1)).setCell ⟨w5.heap.size, 1, none⟩ (.int .i64 1))) := HE0.out.set 1 _
          have HE2 : Hid (EE w base g w.heap.size w5.heap.size #[.int .i64 1, .int .i64 1, .int .i64 (1 + r7), .int .i64 kd, .int .i64 ky, .int .i64 nn, .string tx, .slice a zs.length cap, .int .i64 r4] (((w7.setCell ⟨w5.heap.size, 0, none⟩ (.int .i64 1)).setCell ⟨w5.heap.size, 1, none⟩ (.int .i64 1)).setCell ⟨w5.heap.size, 2, none⟩ (.int .i64 (1 + r7)))) := HE1.out.set 2 _
          have HE3 : Hid (EE w base g w.heap.size w5.heap.size #[.int .i64 1, .int .i64 1, .int .i64 (1 + r7), .int .i64 1, .int .i64 ky, .int .i64 nn, .string tx, .slice a zs.length cap, .int .i64 r4] ((((w7.setCell ⟨w5.heap.size, 0, none⟩ (.int .i64 1)).setCell ⟨w5.heap.size, 1, none⟩ (.int .i64 1)).setCell ⟨w5.heap.size, 2, none⟩ (.int .i64 (1 + r7))).setCell ⟨w5.heap.size, 3, none⟩ (.int .i64 1))) := HE2.out.set 3 _
          have HE4 : Hid (EE w base g w.heap.size w5.heap.size #[.int .i64 1, .int .i64 1, .int .i64 (1 + r7), .int .i64 1, .int .i64 0, .int .i64 nn, .string tx, .slice a zs.length cap, .int .i64 r4] (((((w7.setCell ⟨w5.heap.size, 0, none⟩ (.int .i64 1)).setCell ⟨w5.heap.size, 1, none⟩ (.int .i64 1)).setCell ⟨w5.heap.size, 2, none⟩ (.int .i64 (1 + r7))).setCell ⟨w5.heap.size, 3, none⟩ (.int .i64 1)).setCell ⟨w5.heap.size, 4, none⟩ (.int .i64 0))) := HE3.out.set 4 _
          have HE5 : Hid (EE w base g w.heap.size w5.heap.size #[.int .i64 1, .int .i64 1, .int .i64 (1 + r7), .int .i64 1, .int .i64 0, .int .i64 0, .string tx, .slice a zs.length cap, .int .i64 r4] ((((((w7.setCell ⟨w5.heap.size, 0, none⟩ (.int .i64 1)).setCell ⟨w5.heap.size, 1, none⟩ (.int .i64 1)).setCell ⟨w5.heap.size, 2, none⟩ (.int .i64 (1 + r7))).setCell ⟨w5.heap.size, 3, none⟩ (.int .i64 1)).setCell ⟨w5.heap.size, 4, none⟩ (.int .i64 0)).setCell ⟨w5.heap.size, 5, none⟩ (.int .i64 0))) := HE4.out.set 5 _
          have HE6 : Hid (EE w base g w.heap.size w5.heap.size #[.int .i64 1, .int .i64 1, .int .i64 (1 + r7), .int .i64 1, .int .i64 0, .int .i64 0, .string ⟨#[]⟩, .slice a zs.length cap, .int .i64 r4] (((((((w7.setCell ⟨w5.heap.size, 0, none⟩ (.int .i64 1)).setCell ⟨w5.heap.size, 1, none⟩ (.int .i64 1)).setCell ⟨w5.heap.size, 2, none⟩ (.int .i64 (1 + r7))).setCell ⟨w5.heap.size, 3, none⟩ (.int .i64 1)).setCell ⟨w5.heap.size, 4, none⟩ (.int .i64 0)).setCell ⟨w5.heap.size, 5, none⟩ (.int .i64 0)).setCell ⟨w5.heap.size, 6, none⟩ (.string ⟨#[]⟩))) := HE5.out.set 6 _
          have HE7 : Hid (EE w base g w.heap.size w5.heap.size #[.int .i64 1, .int .i64 1, .int .i64 (1 + r7), .int .i64 1, .int .i64 0, .int .i64 0, .string ⟨#[]⟩, .slice none 0 0, .int .i64 r4] ((((((((w7.setCell ⟨w5.heap.size, 0, none⟩ (.int .i64 1)).setCell ⟨w5.heap.size, 1, none⟩ (.int .i64 1)).setCell ⟨w5.heap.size, 2, none⟩ (.int .i64 (1 + r7))).setCell ⟨w5.heap.size, 3, none⟩ (.int .i64 1)).setCell ⟨w5.heap.size, 4, none⟩ (.int .i64 0)).setCell ⟨w5.heap.size, 5, none⟩ (.int .i64 0)).setCell ⟨w5.heap.size, 6, none⟩ (.string ⟨#[]⟩)).setCell ⟨w5.heap.size, 7, none⟩ (.slice none 0 0))) := HE6.out.set 7 _
          have HE8 : Hid (EE w base g w.heap.size w5.heap.size #[.int .i64 1, .int .i64 1, .int .i64 (1 + r7), .int .i64 1, .int .i64 0, .int .i64 0, .string ⟨#[]⟩, .slice none 0 0, .int .i64 0] (((((((((w7.setCell ⟨w5.heap.size, 0, none⟩ (.int .i64 1)).setCell ⟨w5.heap.size, 1, none⟩ (.int .i64 1)).setCell ⟨w5.heap.size, 2, none⟩ (.int .i64 (1 + r7))).setCell ⟨w5.heap.size, 3, none⟩ (.int .i64 1)).setCell ⟨w5.heap.size, 4, none⟩ (.int .i64 0)).setCell ⟨w5.heap.size, 5, none⟩ (.int .i64 0)).setCell ⟨w5.heap.size, 6, none⟩ (.string ⟨#[]⟩)).setCell ⟨w5.heap.size, 7, none⟩ (.slice none 0 0)).setCell ⟨w5.heap.size, 8, none⟩ (.int .i64 0))) := HE7.out.set 8 _
          have OW : Hid ((((((((((w7.setCell ⟨w5.heap.size, 0, none⟩ (.int .i64 1)).setCell ⟨w5.heap.size, 1, none⟩ (.int .i64 1)).setCell ⟨w5.heap.size, 2, none⟩ (.int .i64 (1 + r7))).setCell ⟨w5.heap.size, 3, none⟩ (.int .i64 1)).setCell ⟨w5.heap.size, 4, none⟩ (.int .i64 0)).setCell ⟨w5.heap.size, 5, none⟩ (.int .i64 0)).setCell ⟨w5.heap.size, 6, none⟩ (.string ⟨#[]⟩)).setCell ⟨w5.heap.size, 7, none⟩ (.slice none 0 0)).setCell ⟨w5.heap.size, 8, none⟩ (.int .i64 0)).ownsRow (w5.heap.size + 1) 2 1 (.slice none 0 0) 0 (nv [])) := World.ownsRow_nil _ _ _ _
          have HE : Hid (EE w base g w.heap.size w5.heap.size #[.int .i64 1, .int .i64 1, .int .i64 (1 + r7), .int .i64 1, .int .i64 0, .int .i64 0, .string ⟨#[]⟩, .slice none 0 0, .int .i64 0] (((((((((w7.setCell ⟨w5.heap.size, 0, none⟩ (.int .i64 1)).setCell ⟨w5.heap.size, 1, none⟩ (.int .i64 1)).setCell ⟨w5.heap.size, 2, none⟩ (.int .i64 (1 + r7))).setCell ⟨w5.heap.size, 3, none⟩ (.int .i64 1)).setCell ⟨w5.heap.size, 4, none⟩ (.int .i64 0)).setCell ⟨w5.heap.size, 5, none⟩ (.int .i64 0)).setCell ⟨w5.heap.size, 6, none⟩ (.string ⟨#[]⟩)).setCell ⟨w5.heap.size, 7, none⟩ (.slice none 0 0)).setCell ⟨w5.heap.size, 8, none⟩ (.int .i64 0))) := HE8
          clear HE0 HE1 HE2 HE3 HE4 HE5 HE6 HE7 HE8
          go_wp2_with fail
          refine (draw_one base g 15 _ HE.out.1 (by omega)).mono ?_
          rintro e w8 ⟨b15, rfl, hs, hg, -⟩
          have OW : Hid (w8.ownsRow (w5.heap.size + 1) 2 1 (.slice none 0 0) 0 (nv [])) := OW.out.kept hg (.inr fun h => by have := (OW.out.lt g h).1; have := HE.out.2.2.2.2; omega)
          have HE : Hid (EE w base g w.heap.size w5.heap.size #[.int .i64 1, .int .i64 1, .int .i64 (1 + r7), .int .i64 1, .int .i64 0, .int .i64 0, .string ⟨#[]⟩, .slice none 0 0, .int .i64 0] w8) := HE.out.num hs hg
          clear hs hg
          cases b15
          · have a0 : w8.cell? ⟨w5.heap.size, 0, none⟩ = some (.int .i64 1) := HE.out.cell 0
            have a1 : w8.cell? ⟨w5.heap.size, 1, none⟩ = some (.int .i64 1) := HE.out.cell 1
            have a2 : w8.cell? ⟨w5.heap.size, 2, none⟩ = some (.int .i64 (1 + r7)) := HE.out.cell 2
            have a3 : w8.cell? ⟨w5.heap.size, 3, none⟩ = some (.int .i64 1) := HE.out.cell 3
            have a4 : w8.cell? ⟨w5.heap.size, 4, none⟩ = some (.int .i64 0) := HE.out.cell 4
            have a5 : w8.cell? ⟨w5.heap.size, 5, none⟩ = some (.int .i64 0) := HE.out.cell 5
            have a6 : w8.cell? ⟨w5.heap.size, 6, none⟩ = some (.string ⟨#[]⟩) := HE.out.cell 6
            have a7 : w8.cell? ⟨w5.heap.size, 7, none⟩ = some (.slice none 0 0) := HE.out.cell 7
            have a8 : w8.cell? ⟨w5.heap.size, 8, none⟩ = some (.int .i64 0) := HE.out.cell 8
            obtain ⟨cz, hcz, hh⟩ := HE.out.2.2.1
            obtain ⟨u0, u1, u2, u3, u4, u5, u6, u7, u8, rfl⟩ := array9 hcz
            have fr : ∀ o, w8.frozen? ⟨w.heap.size, o, none⟩ = false := fun o => frozen_of_heap hh
            have b0 : w8.cell? ⟨w.heap.size, 0, none⟩ = some u0 := cell_of_heap hh
            have b1 : w8.cell? ⟨w.heap.size, 1, none⟩ = some u1 := cell_of_heap hh
            have b2 : w8.cell? ⟨w.heap.size, 2, none⟩ = some u2 := cell_of_heap hh
            have b3 : w8.cell? ⟨w.heap.size, 3, none⟩ = some u3 := cell_of_heap hh
            have b4 : w8.cell? ⟨w.heap.size, 4, none⟩ = some u4 := cell_of_heap hh
            have b5 : w8.cell? ⟨w.heap.size, 5, none⟩ = some u5 := cell_of_heap hh
            have b6 : w8.cell? ⟨w.heap.size, 6, none⟩ = some u6 := cell_of_heap hh
            have b7 : w8.cell? ⟨w.heap.size, 7, none⟩ = some u7 := cell_of_heap hh
            have b8 : w8.cell? ⟨w.heap.size, 8, none⟩ = some u8 := cell_of_heap hh
            clear hh hcz
            go_wp2
            refine bodyPost_ret (v := .agg #[.int .i64 1, .int .i64 1, .int .i64 (1 + r7), .int .i64 1, .int .i64 0, .int .i64 0, .string ⟨#[]⟩, .slice none 0 0, .int .i64 0]) (by simp [results, Try.results43, go_sem, b0, b1, b2, b3, b4, b5, b6, b7, b8]) rfl ?_
            exact event_end HE.out OW.out rfl (by omega) _ _ _ _ _ _ _ _ _ _ _ _ _ _ _ _ _ (by first | exact HTX.out | exact Nat.zero_le _ | exact zeros_size (by omega))
          · go_wp2_with fail
            refine (draw_n base g 7 _ HE.out.1 (by omega)).mono ?_
            rintro e w9 ⟨r9, rfl, pr9, qr9, -, hs, hg, -⟩
            have qr9 : r9 < 7 := qr9 (by omega)
            have OW : Hid (w9.ownsRow (w5.heap.size + 1) 2 1 (.slice none 0 0) 0 (nv [])) := OW.out.kept hg (.inr fun h => by have := (OW.out.lt g h).1; have := HE.out.2.2.2.2; omega)
            have HE : Hid (EE w base g w.heap.size w5.heap.size #[.int .i64 1, .int .i64 1, .int .i64 (1 + r7), .int .i64 1, .int .i64 0, .int .i64 0, .string ⟨#[]⟩, .slice none 0 0, .int .i64 0] w9) := HE.out.num hs hg
            clear hs hg
            obtain ⟨m, rfl⟩ := Int.eq_ofNat_of_zero_le pr9
            rcases (show m = 0 ∨ m = 1 ∨ m = 2 ∨ m = 3 ∨ m = 4 ∨ m = 5 ∨ m = 6 by omega) with rfl | rfl | rfl | rfl | rfl | rfl | rfl
            · go_wp2_with fail
              refine (draw_n base g 4 _ (HE.out.alloc _).1 (by omega)).mono ?_
              rintro e w10 ⟨r10, rfl, pr10, qr10, -, hs, hg, -⟩
              have qr10 : r10 < 4 := qr10 (by omega)
              obtain ⟨i10, rfl⟩ := Int.eq_ofNat_of_zero_le pr10
              obtain ⟨y, hy⟩ : ∃ y : Int, w10.cell? ⟨w9.heap.size, i10, none⟩ = some (.int .i64 y) := by
                have hb := World.cell?_of_block (a := ⟨w9.heap.size, i10, none⟩) (hg.block w9.heap.size (by simp) (by simp; have := HE.out.lt; have := HE.out.2.2.2.2; omega))
                rw [hb]
                rcases (show i10 = 0 ∨ i10 = 1 ∨ i10 = 2 ∨ i10 = 3 by omega) with rfl | rfl | rfl | rfl
                · exact ⟨0, by simp [go_sem]⟩
                · exact ⟨1, by simp [go_sem]⟩
                · exact ⟨1000000, by simp [go_sem]⟩
                · exact ⟨1000001, by simp [go_sem]⟩
              have hL10 : w9.heap.size < w10.heap.size := by have := hg.size; simp at this; omega
              have OW : Hid (w10.ownsRow (w5.heap.size + 1) 2 1 (.slice none 0 0) 0 (nv [])) := OW.out.kept ((World.grownBy_alloc _ _ _).trans hg) (.inr fun h => by have := (OW.out.lt g h).1; have := HE.out.2.2.2.2; omega)
              have HE : Hid (EE w base g w.heap.size w5.heap.size #[.int .i64 1, .int .i64 1, .int .i64 (1 + r7), .int .i64 1, .int .i64 0, .int .i64 0, .string ⟨#[]⟩, .slice none 0 0, .int .i64 0] w10) := (HE.out.alloc _).num hs hg
              clear hs hg
              have fe : ∀ o, w10.frozen? ⟨w5.heap.size, o, none⟩ = false := fun o => HE.out.frozen o
              have a0 : w10.cell? ⟨w5.heap.size, 0, none⟩ = some (.int .i64 1) := HE.out.cell 0
              have a1 : w10.cell? ⟨w5.heap.size, 1, none⟩ = some (.int .i64 1) := HE.out.cell 1
              have a2 : w10.cell? ⟨w5.heap.size, 2, none⟩ = some (.int .i64 (1 + r7)) := HE.out.cell 2
              have a3 : w10.cell? ⟨w5.heap.size, 3, none⟩ = some (.int .i64 1) := HE.out.cell 3
              have a4 : w10.cell? ⟨w5.heap.size, 4, none⟩ = some (.int .i64 0) := HE.out.cell 4
              have a5 : w10.cell? ⟨w5.heap.size, 5, none⟩ = some (.int .i64 0) := HE.out.cell 5
              have a6 : w10.cell? ⟨w5.heap.size, 6, none⟩ = some (.string ⟨#[]⟩) := HE.out.cell 6
              have a7 : w10.cell? ⟨w5.heap.size, 7, none⟩ = some (.slice none 0 0) := HE.out.cell 7
              have a8 : w10.cell? ⟨w5.heap.size, 8, none⟩ = some (.int .i64 0) := HE.out.cell 8
              obtain ⟨cz, hcz, hh⟩ := HE.out.2.2.1
              obtain ⟨u0, u1, u2, u3, u4, u5, u6, u7, u8, rfl⟩ := array9 hcz
              have fr : ∀ o, w10.frozen? ⟨w.heap.size, o, none⟩ = false := fun o => frozen_of_heap hh
              have b0 : w10.cell? ⟨w.heap.size, 0, none⟩ = some u0 := cell_of_heap hh
              have b1 : w10.cell? ⟨w.heap.size, 1, none⟩ = some u1 := cell_of_heap hh
              have b2 : w10.cell? ⟨w.heap.size, 2, none⟩ = some u2 := cell_of_heap hh
              have b3 : w10.cell? ⟨w.heap.size, 3, none⟩ = some u3 := cell_of_heap hh
              have b4 : w10.cell? ⟨w.heap.size, 4, none⟩ = some u4 := cell_of_heap hh
              have b5 : w10.cell? ⟨w.heap.size, 5, none⟩ = some u5 := cell_of_heap hh
              have b6 : w10.cell? ⟨w.heap.size, 6, none⟩ = some u6 := cell_of_heap hh
              have b7 : w10.cell? ⟨w.heap.size, 7, none⟩ = some u7 := cell_of_heap hh
              have b8 : w10.cell? ⟨w.heap.size, 8, none⟩ = some u8 := cell_of_heap hh
              clear hh hcz
              have OW : Hid ((w10.setCell ⟨w5.heap.size, 0, none⟩ (.int .i64 y)).ownsRow (w5.heap.size + 1) 2 1 (.slice none 0 0) 0 (nv [])) := ownsRow_setCell_below OW.out (by simp) _
              have HE : Hid (EE w base g w.heap.size w5.heap.size #[.int .i64 y, .int .i64 1, .int .i64 (1 + r7), .int .i64 1, .int .i64 0, .int .i64 0, .string ⟨#[]⟩, .slice none 0 0, .int .i64 0] (w10.setCell ⟨w5.heap.size, 0, none⟩ (.int .i64 y))) := HE.out.set 0 _
              go_wp2
              refine bodyPost_ret (v := .agg #[.int .i64 y, .int .i64 1, .int .i64 (1 + r7), .int .i64 1, .int .i64 0, .int .i64 0, .string ⟨#[]⟩, .slice none 0 0, .int .i64 0]) (by simp [results, Try.results43, go_sem, b0, b1, b2, b3, b4, b5, b6, b7, b8]) rfl ?_
              exact event_end HE.out OW.out rfl (by omega) _ _ _ _ _ _ _ _ _ _ _ _ _ _ _ _ _ (by first | exact HTX.out | exact Nat.zero_le _ | exact zeros_size (by omega))
            · go_wp2_with fail
              refine (draw_n base g 5 _ HE.out.1 (by omega)).mono ?_
              rintro e w10 ⟨r10, rfl, pr10, qr10, -, hs, hg, -⟩
              have qr10 : r10 < 5 := qr10 (by omega)
              have OW : Hid (w10.ownsRow (w5.heap.size + 1) 2 1 (.slice none 0 0) 0 (nv [])) := OW.out.kept hg (.inr fun h => by have := (OW.out.lt g h).1; have := HE.out.2.2.2.2; omega)
              have HE : Hid (EE w base g w.heap.size w5.heap.size #[.int .i64 1, .int .i64 1, .int .i64 (1 + r7), .int .i64 1, .int .i64 0, .int .i64 0, .string ⟨#[]⟩, .slice none 0 0, .int .i64 0] w10) := HE.out.num hs hg
              clear hs hg
              have fe : ∀ o, w10.frozen? ⟨w5.heap.size, o, none⟩ = false := fun o => HE.out.frozen o
              have a0 : w10.cell? ⟨w5.heap.size, 0, none⟩ = some (.int .i64 1) := HE.out.cell 0
              have a1 : w10.cell? ⟨w5.heap.size, 1, none⟩ = some (.int .i64 1) := HE.out.cell 1
              have a2 : w10.cell? ⟨w5.heap.size, 2, none⟩ = some (.int .i64 (1 + r7)) := HE.out.cell 2
              have a3 : w10.cell? ⟨w5.heap.size, 3, none⟩ = some (.int .i64 1) := HE.out.cell 3
              have a4 : w10.cell? ⟨w5.heap.size, 4, none⟩ = some (.int .i64 0) := HE.out.cell 4
              have a5 : w10.cell? ⟨w5.heap.size, 5, none⟩ = some (.int .i64 0) := HE.out.cell 5
              have a6 : w10.cell? ⟨w5.heap.size, 6, none⟩ = some (.string ⟨#[]⟩) := HE.out.cell 6
              have a7 : w10.cell? ⟨w5.heap.size, 7, none⟩ = some (.slice none 0 0) := HE.out.cell 7
              have a8 : w10.cell? ⟨w5.heap.size, 8, none⟩ = some (.int .i64 0) := HE.out.cell 8
              obtain ⟨cz, hcz, hh⟩ := HE.out.2.2.1
              obtain ⟨u0, u1, u2, u3, u4, u5, u6, u7, u8, rfl⟩ := array9 hcz
              have fr : ∀ o, w10.frozen? ⟨w.heap.size, o, none⟩ = false := fun o => frozen_of_heap hh
              have b0 : w10.cell? ⟨w.heap.size, 0, none⟩ = some u0 := cell_of_heap hh
              have b1 : w10.cell? ⟨w.heap.size, 1, none⟩ = some u1 := cell_of_heap hh
              have b2 : w10.cell? ⟨w.heap.size, 2, none⟩ = some u2 := cell_of_heap hh
              have b3 : w10.cell? ⟨w.heap.size, 3, none⟩ = some u3 := cell_of_heap hh
              have b4 : w10.cell? ⟨w.heap.size, 4, none⟩ = some u4 := cell_of_heap hh
              have b5 : w10.cell? ⟨w.heap.size, 5, none⟩ = some u5 := cell_of_heap hh
              have b6 : w10.cell? ⟨w.heap.size, 6, none⟩ = some u6 := cell_of_heap hh
              have b7 : w10.cell? ⟨w.heap.size, 7, none⟩ = some u7 := cell_of_heap hh
              have b8 : w10.cell? ⟨w.heap.size, 8, none⟩ = some u8 := cell_of_heap hh
              clear hh hcz
              have OW : Hid ((w10.setCell ⟨w5.heap.size, 1, none⟩ (.int .i64 r10)).ownsRow (w5.heap.size + 1) 2 1 (.slice none 0 0) 0 (nv [])) := ownsRow_setCell_below OW.out (by simp) _
              have HE : Hid (EE w base g w.heap.size w5.heap.size #[.int .i64 1, .int .i64 r10, .int .i64 (1 + r7), .int .i64 1, .int .i64 0, .int .i64 0, .string ⟨#[]⟩, .slice none 0 0, .int .i64 0] (w10.setCell ⟨w5.heap.size, 1, none⟩ (.int .i64 r10))) := HE.out.set 1 _
              go_wp2
              refine bodyPost_ret (v := .agg #[.int .i64 1, .int .i64 r10, .int .i64 (1 + r7), .int .i64 1, .int .i64 0, .int .i64 0, .string ⟨#[]⟩, .slice none 0 0, .int .i64 0]) (by simp [results, Try.results43, go_sem, b0, b1, b2, b3, b4, b5, b6, b7, b8]) rfl ?_
              exact event_end HE.out OW.out rfl (by omega) _ _ _ _ _ _ _ _ _ _ _ _ _ _ _ _ _ (by first | exact HTX.out | exact Nat.zero_le _ | exact zeros_size (by omega))
            · go_wp2_with fail
              refine (draw_n base g 8 _ HE.out.1 (by omega)).mono ?_
              rintro e w10 ⟨r10, rfl, pr10, qr10, -, hs, hg, -⟩
              have qr10 : r10 < 8 := qr10 (by omega)
              have OW : Hid (w10.ownsRow (w5.heap.size + 1) 2 1 (.slice none 0 0) 0 (nv [])) := OW.out.kept hg (.inr fun h => by have := (OW.out.lt g h).1; have := HE.out.2.2.2.2; omega)
              have HE : Hid (EE w base g w.heap.size w5.heap.size #[.int .i64 1, .int .i64 1, .int .i64 (1 + r7), .int .i64 1, .int .i64 0, .int .i64 0, .string ⟨#[]⟩, .slice none 0 0, .int .i64 0] w10) := HE.out.num hs hg
              clear hs hg
              have fe : ∀ o, w10.frozen? ⟨w5.heap.size, o, none⟩ = false := fun o => HE.out.frozen o
              have a0 : w10.cell? ⟨w5.heap.size, 0, none⟩ = some (.int .i64 1) := HE.out.cell 0
              have a1 : w10.cell? ⟨w5.heap.size, 1, none⟩ = some (.int .i64 1) := HE.out.cell 1
              have a2 : w10.cell? ⟨w5.heap.size, 2, none⟩ = some (.int .i64 (1 + r7)) := HE.out.cell 2
              have a3 : w10.cell? ⟨w5.heap.size, 3, none⟩ = some (.int .i64 1) := HE.out.cell 3
              have a4 : w10.cell? ⟨w5.heap.size, 4, none⟩ = some (.int .i64 0) := HE.out.cell 4
              have a5 : w10.cell? ⟨w5.heap.size, 5, none⟩ = some (.int .i64 0) := HE.out.cell 5
              have a6 : w10.cell? ⟨w5.heap.size, 6, none⟩ = some (.string ⟨#[]⟩) := HE.out.cell 6
              have a7 : w10.cell? ⟨w5.heap.size, 7, none⟩ = some (.slice none 0 0) := HE.out.cell 7
              have a8 : w10.cell? ⟨w5.heap.size, 8, none⟩ = some (.int .i64 0) := HE.out.cell 8
              obtain ⟨cz, hcz, hh⟩ := HE.out.2.2.1
              obtain ⟨u0, u1, u2, u3, u4, u5, u6, u7, u8, rfl⟩ := array9 hcz
              have fr : ∀ o, w10.frozen? ⟨w.heap.size, o, none⟩ = false := fun o => frozen_of_heap hh
              have b0 : w10.cell? ⟨w.heap.size, 0, none⟩ = some u0 := cell_of_heap hh
              have b1 : w10.cell? ⟨w.heap.size, 1, none⟩ = some u1 := cell_of_heap hh
              have b2 : w10.cell? ⟨w.heap.size, 2, none⟩ = some u2 := cell_of_heap hh
              have b3 : w10.cell? ⟨w.heap.size, 3, none⟩ = some u3 := cell_of_heap hh
              have b4 : w10.cell? ⟨w.heap.size, 4, none⟩ = some u4 := cell_of_heap hh
              have b5 : w10.cell? ⟨w.heap.size, 5, none⟩ = some u5 := cell_of_heap hh
              have b6 : w10.cell? ⟨w.heap.size, 6, none⟩ = some u6 := cell_of_heap hh
              have b7 : w10.cell? ⟨w.heap.size, 7, none⟩ = some u7 := cell_of_heap hh
              have b8 : w10.cell? ⟨w.heap.size, 8, none⟩ = some u8 := cell_of_heap hh
              clear hh hcz
              have OW : Hid ((w10.setCell ⟨w5.heap.size, 2, none⟩ (.int .i64 r10)).ownsRow (w5.heap.size + 1) 2 1 (.slice none 0 0) 0 (nv [])) := ownsRow_setCell_below OW.out (by simp) _
              have HE : Hid (EE w base g w.heap.size w5.heap.size #[.int .i64 1, .int .i64 1, .int .i64 r10, .int .i64 1, .int .i64 0, .int .i64 0, .string ⟨#[]⟩, .slice none 0 0, .int .i64 0] (w10.setCell ⟨w5.heap.size, 2, none⟩ (.int .i64 r10))) := HE.out.set 2 _
              go_wp2
              refine bodyPost_ret (v := .agg #[.int .i64 1, .int .i64 1, .int .i64 r10, .int .i64 1, .int .i64 0, .int .i64 0, .string ⟨#[]⟩, .slice none 0 0, .int .i64 0]) (by simp [results, Try.results43, go_sem, b0, b1, b2, b3, b4, b5, b6, b7, b8]) rfl ?_
              exact event_end HE.out OW.out rfl (by omega) _ _ _ _ _ _ _ _ _ _ _ _ _ _ _ _ _ (by first | exact HTX.out | exact Nat.zero_le _ | exact zeros_size (by omega))
            · go_wp2_with fail
              refine (draw_n base g 10 _ HE.out.1 (by omega)).mono ?_
              rintro e w10 ⟨r10, rfl, pr10, qr10, -, hs, hg, -⟩
              have qr10 : r10 < 10 := qr10 (by omega)
              have OW : Hid (w10.ownsRow (w5.heap.size + 1) 2 1 (.slice none 0 0) 0 (nv [])) := OW.out.kept hg (.inr fun h => by have := (OW.out.lt g h).1; have := HE.out.2.2.2.2; omega)
              have HE : Hid (EE w base g w.heap.size w5.heap.size #[.int .i64 1, .int .i64 1, .int .i64 (1 + r7), .int .i64 1, .int .i64 0, .int .i64 0, .string ⟨#[]⟩, .slice none 0 0, .int .i64 0] w10) := HE.out.num hs hg
              clear hs hg
              have fe : ∀ o, w10.frozen? ⟨w5.heap.size, o, none⟩ = false := fun o => HE.out.frozen o
              have a0 : w10.cell? ⟨w5.heap.size, 0, none⟩ = some (.int .i64 1) := HE.out.cell 0
              have a1 : w10.cell? ⟨w5.heap.size, 1, none⟩ = some (.int .i64 1) := HE.out.cell 1
              have a2 : w10.cell? ⟨w5.heap.size, 2, none⟩ = some (.int .i64 (1 + r7)) := HE.out.cell 2
              have a3 : w10.cell? ⟨w5.heap.size, 3, none⟩ = some (.int .i64 1) := HE.out.cell 3
              have a4 : w10.cell? ⟨w5.heap.size, 4, none⟩ = some (.int .i64 0) := HE.out.cell 4
              have a5 : w10.cell? ⟨w5.heap.size, 5, none⟩ = some (.int .i64 0) := HE.out.cell 5
              have a6 : w10.cell? ⟨w5.heap.size, 6, none⟩ = some (.string ⟨#[]⟩) := HE.out.cell 6
              have a7 : w10.cell? ⟨w5.heap.size, 7, none⟩ = some (.slice none 0 0) := HE.out.cell 7
              have a8 : w10.cell? ⟨w5.heap.size, 8, none⟩ = some (.int .i64 0) := HE.out.cell 8
              obtain ⟨cz, hcz, hh⟩ := HE.out.2.2.1
              obtain ⟨u0, u1, u2, u3, u4, u5, u6, u7, u8, rfl⟩ := array9 hcz
              have fr : ∀ o, w10.frozen? ⟨w.heap.size, o, none⟩ = false := fun o => frozen_of_heap hh
              have b0 : w10.cell? ⟨w.heap.size, 0, none⟩ = some u0 := cell_of_heap hh
              have b1 : w10.cell? ⟨w.heap.size, 1, none⟩ = some u1 := cell_of_heap hh
              have b2 : w10.cell? ⟨w.heap.size, 2, none⟩ = some u2 := cell_of_heap hh
              have b3 : w10.cell? ⟨w.heap.size, 3, none⟩ = some u3 := cell_of_heap hh
              have b4 : w10.cell? ⟨w.heap.size, 4, none⟩ = some u4 := cell_of_heap hh
              have b5 : w10.cell? ⟨w.heap.size, 5, none⟩ = some u5 := cell_of_heap hh
              have b6 : w10.cell? ⟨w.heap.size, 6, none⟩ = some u6 := cell_of_heap hh
              have b7 : w10.cell? ⟨w.heap.size, 7, none⟩ = some u7 := cell_of_heap hh
              have b8 : w10.cell? ⟨w.heap.size, 8, none⟩ = some u8 := cell_of_heap hh
              clear hh hcz
              have OW : Hid ((w10.setCell ⟨w5.heap.size, 3, none⟩ (.int .i64 r10)).ownsRow (w5.heap.size + 1) 2 1 (.slice none 0 0) 0 (nv [])) := ownsRow_setCell_below OW.out (by simp) _
              have HE : Hid (EE w base g w.heap.size w5.heap.size #[.int .i64 1, .int .i64 1, .int .i64 (1 + r7), .int .i64 r10, .int .i64 0, .int .i64 0, .string ⟨#[]⟩, .slice none 0 0, .int .i64 0] (w10.setCell ⟨w5.heap.size, 3, none⟩ (.int .i64 r10))) := HE.out.set 3 _
              go_wp2
              refine bodyPost_ret (v := .agg #[.int .i64 1, .int .i64 1, .int .i64 (1 + r7), .int .i64 r10, .int .i64 0, .int .i64 0, .string ⟨#[]⟩, .slice none 0 0, .int .i64 0]) (by simp [results, Try.results43, go_sem, b0, b1, b2, b3, b4, b5, b6, b7, b8]) rfl ?_
              exact event_end HE.out OW.out rfl (by omega) _ _ _ _ _ _ _ _ _ _ _ _ _ _ _ _ _ (by first | exact HTX.out | exact Nat.zero_le _ | exact zeros_size (by omega))
            · have c7 : w9.cell? ⟨w5.heap.size, 7, none⟩ = some (.slice none 0 0) := HE.out.cell 7
              have l9 : w5.heap.size < w9.heap.size := HE.out.lt
              go_wp2_with fail
              go_region_law (first
                | (refine step_append_lies _ rfl (.tmp 93) (.tmp 96) 23 rfl (w5.heap.size + 1) 2 i0 (.int .i64 0) 1 8 Try.underlying23 hi hz0 hz1 hz2 rfl (by decide) (.slice none 0 0) 0 (nv []) rfl (OW10.out.alloc _) ⟨w10.heap.size, 0, none⟩ 1 1 [.int .i64 r10] rfl rfl (cell_one_new _ _ _) (by intro u hu; simp at hu; subst hu; rfl) (by decide) (by unfold maxLen; omega) (by omega) (by have := HE10.out.lt; simp; omega) _ rfl ?_; intro g3 cap3 w11 hown9 hgrow9 hat9 hlt9; have HE11 : Hid (EE w base g w.heap.size w5.heap.size #[.int .i64 1, .int .i64 1, .int .i64 (1 + r7), .int .i64 1, .int .i64 0, .int .i64 0, .string ⟨#[]⟩, .slice none 0 0, .int .i64 0] w11) := (HE10.out.alloc _).grown hgrow9 (fun q hq => (OW10.out.lt q hq).1); have OW11 : Hid (w11.ownsRow (w5.heap.size + 1) 2 1 (.slice (some ⟨g3, 0, none⟩) 1 cap3) 1 (nv [] ++ [.int .i64 r10])) := hown9; have fe : (∀ o, w11.frozen? ⟨w5.heap.size, o, none⟩ = false) := (fun o => HE11.out.frozen o); have a0 : w11.cell? ⟨w5.heap.size, 0, none⟩ = some (.int .i64 1) := HE11.out.cell 0; have a1 : w11.cell? ⟨w5.heap.size, 1, none⟩ = some (.int .i64 1) := HE11.out.cell 1; have a2 : w11.cell? ⟨w5.heap.size, 2, none⟩ = some (.int .i64 (1 + r7)) := HE11.out.cell 2; have a3 : w11.cell? ⟨w5.heap.size, 3, none⟩ = some (.int .i64 1) := HE11.out.cell 3; have a4 : w11.cell? ⟨w5.heap.size, 4, none⟩ = some (.int .i64 0) := HE11.out.cell 4; have a5 : w11.cell? ⟨w5.heap.size, 5, none⟩ = some (.int .i64 0) := HE11.out.cell 5; have a6 : w11.cell? ⟨w5.heap.size, 6, none⟩ = some (.string ⟨#[]⟩) := HE11.out.cell 6; have a7 : w11.cell? ⟨w5.heap.size, 7, none⟩ = some (.slice none 0 0) := HE11.out.cell 7; have a8 : w11.cell? ⟨w5.heap.size, 8, none⟩ = some (.int .i64 0) := HE11.out.cell 8; obtain ⟨cz, hcz, hh⟩ := HE11.out.2.2.1; obtain ⟨u0, u1, u2, u3, u4, u5, u6, u7, u8, rfl⟩ := array9 hcz; have fr : ∀ o, w11.frozen? ⟨w.heap.size, o, none⟩ = false := fun o => frozen_of_heap hh; have b0 : w11.cell? ⟨w.heap.size, 0, none⟩ = some u0 := cell_of_heap hh; have b1 : w11.cell? ⟨w.heap.size, 1, none⟩ = some u1 := cell_of_heap hh; have b2 : w11.cell? ⟨w.heap.size, 2, none⟩ = some u2 := cell_of_heap hh; have b3 : w11.cell? ⟨w.heap.size, 3, none⟩ = some u3 := cell_of_heap hh; have b4 : w11.cell? ⟨w.heap.size, 4, none⟩ = some u4 := cell_of_heap hh; have b5 : w11.cell? ⟨w.heap.size, 5, none⟩ = some u5 := cell_of_heap hh; have b6 : w11.cell? ⟨w.heap.size, 6, none⟩ = some u6 := cell_of_heap hh; have b7 : w11.cell? ⟨w.heap.size, 7, none⟩ = some u7 := cell_of_heap hh; have b8 : w11.cell? ⟨w.heap.size, 8, none⟩ = some u8 := cell_of_heap hh; clear hh hcz; clear hown9 hgrow9 hat9 hlt9)
                | (go_simp; go_at_call 48; refine (draw_n base g 9 w9.drew HE.out.drew.1 (by omega)).mono ?_; rintro e w10 ⟨r10, rfl, p10, q10, -, hs, hg, -⟩; have hg : w9.grownBy w10 (some g) := ⟨hg.os, hg.tape, hg.output, hg.size, hg.block⟩; have HE10 : Hid (EE w base g w.heap.size w5.heap.size #[.int .i64 1, .int .i64 1, .int .i64 (1 + r7), .int .i64 1, .int .i64 0, .int .i64 0, .string ⟨#[]⟩, .slice none 0 0, .int .i64 0] w10) := HE.out.num hs hg; have OW10 : Hid (w10.ownsRow (w5.heap.size + 1) 2 1 (.slice none 0 0) 0 (nv [])) := OW.out.kept hg (.inr fun h => (by have := (OW.out.lt g h).1; have := HE.out.2.2.2.2; omega)); have c10 : w10.cell? ⟨w5.heap.size, 7, none⟩ = some (.slice none 0 0) := HE10.out.cell 7; have l10 : w5.heap.size < w10.heap.size := HE10.out.lt; clear hs hg p10 q10))
              all_goals
                have OW : Hid ((w11.setCell ⟨w5.heap.size, 7, none⟩ (.slice (some ⟨g3, 0, none⟩) 1 cap3)).ownsRow (w5.heap.size + 1) 2 1 (.slice (some ⟨g3, 0, none⟩) 1 cap3) 1 (nv ([] ++ [r10]))) := by
                  have := ownsRow_setCell_below OW11.out (a := ⟨w5.heap.size, 7, none⟩) (by simp) (.slice (some ⟨g3, 0, none⟩) 1 cap3)
                  unfold Hid
                  simpa [nv] using this
                have HE : Hid (EE w base g w.heap.size w5.heap.size #[.int .i64 1, .int .i64 1, .int .i64 (1 + r7), .int .i64 1, .int .i64 0, .int .i64 0, .string ⟨#[]⟩, .slice (some ⟨g3, 0, none⟩) 1 cap3, .int .i64 0] (w11.setCell ⟨w5.heap.size, 7, none⟩ (.slice (some ⟨g3, 0, none⟩) 1 cap3))) := HE11.out.set 7 _
                go_wp2
                refine bodyPost_ret (v := .agg #[.int .i64 1, .int .i64 1, .int .i64 (1 + r7), .int .i64 1, .int .i64 0, .int .i64 0, .string ⟨#[]⟩, .slice (some ⟨g3, 0, none⟩) 1 cap3, .int .i64 0]) (by simp [results, Try.results43, go_sem, b0, b1, b2, b3, b4, b5, b6, b7, b8]) rfl ?_
                exact event_end HE.out OW.out (by simp) (by omega) _ _ _ _ _ _ _ _ _ _ _ _ _ _ _ _ _ (by first | exact HTX.out | exact Nat.zero_le _ | exact zeros_size (by omega))
            · go_wp2_with fail
              refine (draw_n base g 3 _ HE.out.1 (by omega)).mono ?_
              rintro e w10 ⟨r10, rfl, pr10, qr10, -, hs, hg, -⟩
              have qr10 : r10 < 3 := qr10 (by omega)
              have OW : Hid (w10.ownsRow (w5.heap.size + 1) 2 1 (.slice none 0 0) 0 (nv [])) := OW.out.kept hg (.inr fun h => by have := (OW.out.lt g h).1; have := HE.out.2.2.2.2; omega)
              have HE : Hid (EE w base g w.heap.size w5.heap.size #[.int .i64 1, .int .i64 1, .int .i64 (1 + r7), .int .i64 1, .int .i64 0, .int .i64 0, .string ⟨#[]⟩, .slice none 0 0, .int .i64 0] w10) := HE.out.num hs hg
              clear hs hg
              obtain ⟨m10, rfl⟩ := Int.eq_ofNat_of_zero_le pr10
              obtain ⟨j0, hj, hy0, hy1, hy2⟩ := info_parts Try.info5
              go_wp2_with (at_make; refine wpList_make_full _ rfl _ _ 22 rfl w10.heap.size 5 j0 (.int .u8 0) 1 Try.underlying22 hj hy0 hy1 .i64 .i64 _ _ (29 + m10) rfl rfl (by omega) (by omega) (by rw [hy2]; omega) (by unfold maxLen; omega) (Nat.le_refl _) ?_; intro w11 hown hgrow; rw [made_zeros, ← zeros_bv] at hown; have hcv := own_string (P := Try.prog) (n := 29 + m10) (List.replicate (29 + m10) 0) Try.underlying22 Try.underlying5 Try.underlying9 (by simp) hown; have OW : Hid (w11.ownsRow (w5.heap.size + 1) 2 1 (.slice none 0 0) 0 (nv [])) := OW.out.kept hgrow (Classical.em _); have HE : Hid (EE w base g w.heap.size w5.heap.size #[.int .i64 1, .int .i64 1, .int .i64 (1 + r7), .int .i64 1, .int .i64 0, .int .i64 0, .string ⟨#[]⟩, .slice none 0 0, .int .i64 0] w11) := HE.out.grown hgrow (fun q hq => (by cases hq)); have fe : (∀ o, w11.frozen? ⟨w5.heap.size, o, none⟩ = false) := (fun o => HE.out.frozen o); have a0 : w11.cell? ⟨w5.heap.size, 0, none⟩ = some (.int .i64 1) := HE.out.cell 0; have a1 : w11.cell? ⟨w5.heap.size, 1, none⟩ = some (.int .i64 1) := HE.out.cell 1; have a2 : w11.cell? ⟨w5.heap.size, 2, none⟩ = some (.int .i64 (1 + r7)) := HE.out.cell 2; have a3 : w11.cell? ⟨w5.heap.size, 3, none⟩ = some (.int .i64 1) := HE.out.cell 3; have a4 : w11.cell? ⟨w5.heap.size, 4, none⟩ = some (.int .i64 0) := HE.out.cell 4; have a5 : w11.cell? ⟨w5.heap.size, 5, none⟩ = some (.int .i64 0) := HE.out.cell 5; have a6 : w11.cell? ⟨w5.heap.size, 6, none⟩ = some (.string ⟨#[]⟩) := HE.out.cell 6; have a7 : w11.cell? ⟨w5.heap.size, 7, none⟩ = some (.slice none 0 0) := HE.out.cell 7; have a8 : w11.cell? ⟨w5.heap.size, 8, none⟩ = some (.int .i64 0) := HE.out.cell 8; obtain ⟨cz, hcz, hh⟩ := HE.out.2.2.1; obtain ⟨u0, u1, u2, u3, u4, u5, u6, u7, u8, rfl⟩ := array9 hcz; have fr : ∀ o, w11.frozen? ⟨w.heap.size, o, none⟩ = false := fun o => frozen_of_heap hh; have b0 : w11.cell? ⟨w.heap.size, 0, none⟩ = some u0 := cell_of_heap hh; have b1 : w11.cell? ⟨w.heap.size, 1, none⟩ = some u1 := cell_of_heap hh; have b2 : w11.cell? ⟨w.heap.size, 2, none⟩ = some u2 := cell_of_heap hh; have b3 : w11.cell? ⟨w.heap.size, 3, none⟩ = some u3 := cell_of_heap hh; have b4 : w11.cell? ⟨w.heap.size, 4, none⟩ = some u4 := cell_of_heap hh; have b5 : w11.cell? ⟨w.heap.size, 5, none⟩ = some u5 := cell_of_heap hh; have b6 : w11.cell? ⟨w.heap.size, 6, none⟩ = some u6 := cell_of_heap hh; have b7 : w11.cell? ⟨w.heap.size, 7, none⟩ = some u7 := cell_of_heap hh; have b8 : w11.cell? ⟨w.heap.size, 8, none⟩ = some u8 := cell_of_heap hh; clear hh hcz; clear hown hgrow)
              have OW : Hid ((w11.setCell ⟨w5.heap.size, 6, none⟩ (.string ⟨(List.replicate (29 + m10) 0).toArray⟩)).ownsRow (w5.heap.size + 1) 2 1 (.slice none 0 0) 0 (nv [])) := ownsRow_setCell_below OW.out (by simp) _
              have HE : Hid (EE w base g w.heap.size w5.heap.size #[.int .i64 1, .int .i64 1, .int .i64 (1 + r7), .int .i64 1, .int .i64 0, .int .i64 0, .string ⟨(List.replicate (29 + m10) 0).toArray⟩, .slice none 0 0, .int .i64 0] (w11.setCell ⟨w5.heap.size, 6, none⟩ (.string ⟨(List.replicate (29 + m10) 0).toArray⟩))) := HE.out.set 6 _
              refine bodyPost_ret (v := .agg #[.int .i64 1, .int .i64 1, .int .i64 (1 + r7), .int .i64 1, .int .i64 0, .int .i64 0, .string ⟨(List.replicate (29 + m10) 0).toArray⟩, .slice none 0 0, .int .i64 0]) (by simp [results, Try.results43, go_sem, b0, b1, b2, b3, b4, b5, b6, b7, b8]) rfl ?_
              exact event_end HE.out OW.out rfl (by omega) _ _ _ _ _ _ _ _ _ _ _ _ _ _ _ _ _ (by first | exact HTX.out | exact Nat.zero_le _ | exact zeros_size (by omega))
            · go_wp2_with fail
              refine (draw_edge2 base g _ HE.out.1).mono ?_
              rintro e w10 ⟨r10, rfl, -, -, hs, hg⟩
              have OW : Hid (w10.ownsRow (w5.heap.size + 1) 2 1 (.slice none 0 0) 0 (nv [])) := OW.out.kept hg (.inr fun h => by have := (OW.out.lt g h).1; have := HE.out.2.2.2.2; omega)
              have HE : Hid (EE w base g w.heap.size w5.heap.size #[.int .i64 1, .int .i64 1, .int .i64 (1 + r7), .int .i64 1, .int .i64 0, .int .i64 0, .string ⟨#[]⟩, .slice none 0 0, .int .i64 0] w10) := HE.out.num hs hg
              clear hs hg
              have fe : ∀ o, w10.frozen? ⟨w5.heap.size, o, none⟩ = false := fun o => HE.out.frozen o
              have a0 : w10.cell? ⟨w5.heap.size, 0, none⟩ = some (.int .i64 1) := HE.out.cell 0
              have a1 : w10.cell? ⟨w5.heap.size, 1, none⟩ = some (.int .i64 1) := HE.out.cell 1
              have a2 : w10.cell? ⟨w5.heap.size, 2, none⟩ = some (.int .i64 (1 + r7)) := HE.out.cell 2
              have a3 : w10.cell? ⟨w5.heap.size, 3, none⟩ = some (.int .i64 1) := HE.out.cell 3
              have a4 : w10.cell? ⟨w5.heap.size, 4, none⟩ = some (.int .i64 0) := HE.out.cell 4
              have a5 : w10.cell? ⟨w5.heap.size, 5, none⟩ = some (.int .i64 0) := HE.out.cell 5
              have a6 : w10.cell? ⟨w5.heap.size, 6, none⟩ = some (.string ⟨#[]⟩) := HE.out.cell 6
              have a7 : w10.cell? ⟨w5.heap.size, 7, none⟩ = some (.slice none 0 0) := HE.out.cell 7
              have a8 : w10.cell? ⟨w5.heap.size, 8, none⟩ = some (.int .i64 0) := HE.out.cell 8
              obtain ⟨cz, hcz, hh⟩ := HE.out.2.2.1
              obtain ⟨u0, u1, u2, u3, u4, u5, u6, u7, u8, rfl⟩ := array9 hcz
              have fr : ∀ o, w10.frozen? ⟨w.heap.size, o, none⟩ = false := fun o => frozen_of_heap hh
              have b0 : w10.cell? ⟨w.heap.size, 0, none⟩ = some u0 := cell_of_heap hh
              have b1 : w10.cell? ⟨w.heap.size, 1, none⟩ = some u1 := cell_of_heap hh
              have b2 : w10.cell? ⟨w.heap.size, 2, none⟩ = some u2 := cell_of_heap hh
              have b3 : w10.cell? ⟨w.heap.size, 3, none⟩ = some u3 := cell_of_heap hh
              have b4 : w10.cell? ⟨w.heap.size, 4, none⟩ = some u4 := cell_of_heap hh
              have b5 : w10.cell? ⟨w.heap.size, 5, none⟩ = some u5 := cell_of_heap hh
              have b6 : w10.cell? ⟨w.heap.size, 6, none⟩ = some u6 := cell_of_heap hh
              have b7 : w10.cell? ⟨w.heap.size, 7, none⟩ = some u7 := cell_of_heap hh
              have b8 : w10.cell? ⟨w.heap.size, 8, none⟩ = some u8 := cell_of_heap hh
              clear hh hcz
              have OW : Hid ((w10.setCell ⟨w5.heap.size, 5, none⟩ (.int .i64 r10)).ownsRow (w5.heap.size + 1) 2 1 (.slice none 0 0) 0 (nv [])) := ownsRow_setCell_below OW.out (by simp) _
              have HE : Hid (EE w base g w.heap.size w5.heap.size #[.int .i64 1, .int .i64 1, .int .i64 (1 + r7), .int .i64 1, .int .i64 0, .int .i64 r10, .string ⟨#[]⟩, .slice none 0 0, .int .i64 0] (w10.setCell ⟨w5.heap.size, 5, none⟩ (.int .i64 r10))) := HE.out.set 5 _
              go_wp2
              refine bodyPost_ret (v := .agg #[.int .i64 1, .int .i64 1, .int .i64 (1 + r7), .int .i64 1, .int .i64 0, .int .i64 r10, .string ⟨#[]⟩, .slice none 0 0, .int .i64 0]) (by simp [results, Try.results43, go_sem, b0, b1, b2, b3, b4, b5, b6, b7, b8]) rfl ?_
              exact event_end HE.out OW.out rfl (by omega) _ _ _ _ _ _ _ _ _ _ _ _ _ _ _ _ _ (by first | exact HTX.out | exact Nat.zero_le _ | exact zeros_size (by omega))
end Go.Proofs.Ytjdkenopfnepaaa
