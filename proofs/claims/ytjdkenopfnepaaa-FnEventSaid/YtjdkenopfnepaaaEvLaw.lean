/- The law on events walked: for all bytes that are drawn from the call returns true. -/
import Derived.Test.YtjdkenopfnepaaaDrawSame
import Derived.Test.YtjdkenopfnepaaaEvReadSpec
import Derived.Test.YtjdkenopfnepaaaEvState
import Derived.Test.YtjdkenopfnepaaaEvSameImpl
import Derived.Test.YtjdkenopfnepaaaLwEv
import Derived.Test.YtjdkenopfnepaaaLwAt
import Derived.Deep.DeepCutAuto
import Derived.Deep.RegionHeld3
namespace Go.Proofs.Ytjdkenopfnepaaa
open Go.RowKit

theorem hk {W W' : World} {b : Nat} {o : Obj} (h : W.heap[b]? = some o) (hb : Below W.heap.size W W') : W'.heap[b]? = some o := (hb.block b (Array.getElem?_eq_some_iff.1 h).1).trans h
theorem bt {a b c : World} (h1 : Below a.heap.size a b) (h2 : Below b.heap.size b c) : Below a.heap.size a c := h1.trans (h2.mono h1.size)
theorem ba (w : World) (o : Obj) : Below w.heap.size w (w.alloc o) := (Below.refl _ _).alloc (Nat.le_refl _) o
theorem CodeAt.on {w w' : World} {a : Option Addr} {len : Nat} (h : CodeAt w w.heap.size a len) (hb : Below w.heap.size w w') : CodeAt w' w'.heap.size a len := (h.kept hb).mono hb.size
/-- The first event: its variable, its row, the bytes to be drawn from. -/
structure LA (w : World) (E : Nat) (v : Ev) (p : Option Addr) (cp : Nat) (a : Option Addr) (len : Nat) (W : World) : Prop where
  e : W.heap[E]? = some (.cells #[.int .i64 v.id, .int .i64 v.room, .int .i64 v.author, .int .i64 v.kind, .int .i64 v.key, .int .i64 v.n, .string v.text, .slice p v.prev.length cp, .int .i64 v.time] 25 (0, 0))
  n : NumsAt W p v.prev
  code : CodeAt W W.heap.size a len
  below : Below w.heap.size w W
theorem LA.on {w : World} {E : Nat} {v : Ev} {p : Option Addr} {cp : Nat} {a : Option Addr} {len : Nat} {W W' : World} (h : LA w E v p cp a len W) (hb : Below W.heap.size W W') : LA w E v p cp a len W' := ⟨hk h.e hb, h.n.kept hb, h.code.on hb, bt h.below hb⟩
/-- An answer of EventRead: its variable, its row. -/
structure LX (X : Nat) (v : Ev) (p : Option Addr) (cp : Nat) (c : Int) (W : World) : Prop where
  e : W.heap[X]? = some (.cells #[.int .i64 v.id, .int .i64 v.room, .int .i64 v.author, .int .i64 v.kind, .int .i64 v.key, .int .i64 v.n, .string v.text, .slice p v.prev.length cp, .int .i64 v.time, .int .i64 c] 30 (0, 0))
  n : NumsAt W p v.prev
theorem LX.on {X : Nat} {v : Ev} {p : Option Addr} {cp : Nat} {c : Int} {W W' : World} (h : LX X v p cp c W) (hb : Below W.heap.size W W') : LX X v p cp c W' := ⟨hk h.e hb, h.n.kept hb⟩
/-- An event: its variable, its row. -/
structure LE (X : Nat) (v : Ev) (p : Option Addr) (cp : Nat) (W : World) : Prop where
  e : W.heap[X]? = some (.cells #[.int .i64 v.id, .int .i64 v.room, .int .i64 v.author, .int .i64 v.kind, .int .i64 v.key, .int .i64 v.n, .string v.text, .slice p v.prev.length cp, .int .i64 v.time] 25 (0, 0))
  n : NumsAt W p v.prev
theorem LE.on {X : Nat} {v : Ev} {p : Option Addr} {cp : Nat} {W W' : World} (h : LE X v p cp W) (hb : Below W.heap.size W W') : LE X v p cp W' := ⟨hk h.e hb, h.n.kept hb⟩

/-- All that the law holds in memory. -/
structure LS (w : World) (E X : Nat) (v : Ev) (p : Option Addr) (cp : Nat) (a : Option Addr) (len : Nat) (vx : Ev) (px : Option Addr) (cx : Nat) (py : Option Addr) (cy : Nat) (kx : Int) (A : Nat) (va : Ev) (pa : Option Addr) (ca : Nat) (vb : Ev) (pb : Option Addr) (cb : Nat) (W : World) : Prop where
  e : LA w E v p cp a len W
  x : LX X vx px cx kx W
  y : LX (X + 1) vx py cy kx W
  a : LE A va pa ca W
  b : LE (A + 1) vb pb cb W
theorem LS.on {w : World} {E X : Nat} {v : Ev} {p : Option Addr} {cp : Nat} {a : Option Addr} {len : Nat} {vx : Ev} {px : Option Addr} {cx : Nat} {py : Option Addr} {cy : Nat} {kx : Int} {A : Nat} {va : Ev} {pa : Option Addr} {ca : Nat} {vb : Ev} {pb : Option Addr} {cb : Nat} {W W' : World} (h : LS w E X v p cp a len vx px cx py cy kx A va pa ca vb pb cb W) (hb : Below W.heap.size W W') : LS w E X v p cp a len vx px cx py cy kx A va pa ca vb pb cb W' := ⟨h.e.on hb, h.x.on hb, h.y.on hb, h.a.on hb, h.b.on hb⟩

theorem LS.cells {w : World} {E X : Nat} {v : Ev} {p : Option Addr} {cp : Nat} {a : Option Addr} {len : Nat} {vx : Ev} {px : Option Addr} {cx : Nat} {py : Option Addr} {cy : Nat} {kx : Int} {A : Nat} {va : Ev} {pa : Option Addr} {ca : Nat} {vb : Ev} {pb : Option Addr} {cb : Nat} {W : World} (h : LS w E X v p cp a len vx px cx py cy kx A va pa ca vb pb cb W) : (∀ k, W.cell? ⟨E, k, none⟩ = #[.int .i64 v.id, .int .i64 v.room, .int .i64 v.author, .int .i64 v.kind, .int .i64 v.key, .int .i64 v.n, .string v.text, .slice p v.prev.length cp, .int .i64 v.time][k]?) ∧ (∀ k, W.cell? ⟨X, k, none⟩ = #[.int .i64 vx.id, .int .i64 vx.room, .int .i64 vx.author, .int .i64 vx.kind, .int .i64 vx.key, .int .i64 vx.n, .string vx.text, .slice px vx.prev.length cx, .int .i64 vx.time, .int .i64 kx][k]?) ∧ (∀ k, W.cell? ⟨X + 1, k, none⟩ = #[.int .i64 vx.id, .int .i64 vx.room, .int .i64 vx.author, .int .i64 vx.kind, .int .i64 vx.key, .int .i64 vx.n, .string vx.text, .slice py vx.prev.length cy, .int .i64 vx.time, .int .i64 kx][k]?) ∧ (∀ k, W.cell? ⟨A, k, none⟩ = #[.int .i64 va.id, .int .i64 va.room, .int .i64 va.author, .int .i64 va.kind, .int .i64 va.key, .int .i64 va.n, .string va.text, .slice pa va.prev.length ca, .int .i64 va.time][k]?) ∧ (∀ k, W.cell? ⟨A + 1, k, none⟩ = #[.int .i64 vb.id, .int .i64 vb.room, .int .i64 vb.author, .int .i64 vb.kind, .int .i64 vb.key, .int .i64 vb.n, .string vb.text, .slice pb vb.prev.length cb, .int .i64 vb.time][k]?) := ⟨fun _ => cell_of_heap h.e.e, fun _ => cell_of_heap h.x.e, fun _ => cell_of_heap h.y.e, fun _ => cell_of_heap h.a.e, fun _ => cell_of_heap h.b.e⟩
theorem LS.drew {w : World} {E X : Nat} {v : Ev} {p : Option Addr} {cp : Nat} {a : Option Addr} {len : Nat} {vx : Ev} {px : Option Addr} {cx : Nat} {py : Option Addr} {cy : Nat} {kx : Int} {A : Nat} {va : Ev} {pa : Option Addr} {ca : Nat} {vb : Ev} {pb : Option Addr} {cb : Nat} {W : World} (h : LS w E X v p cp a len vx px cx py cy kx A va pa ca vb pb cb W) : LS w E X v p cp a len vx px cx py cy kx A va pa ca vb pb cb W.drew := h.on (Below.drew (Below.refl _ _))

theorem out_zero {u : ByteArray} {v : Ev} (h : Out u v 0) : bytesOf v = u := by
  rcases h with ⟨_, _, h⟩ | ⟨_, _, h⟩ | ⟨_, (⟨_, _, h⟩ | ⟨_, (⟨_, h, _⟩ | ⟨_, h1, h2⟩)⟩)⟩
  · omega
  · omega
  · omega
  · omega
  · rw [bytes_of_right h1]
    exact h2
theorem out_right {v : Ev} (h : rightB v = true) : Out (evBytes v) v 0 := by
  have hl := evL_len (right_small h)
  have hz : (evBytes v).size = (evL v).length + 4 := by
    show (sealB (evL v)).toArray.size = _
    simp [seal_len]
  exact .inr (.inr ⟨⟨by omega, by omega⟩, .inr ⟨ok_seal _, .inr ⟨rfl, h, rfl⟩⟩⟩)
theorem out_bad {t : ByteArray} (h4 : 4 ≤ (t.size : Int)) (h8 : (t.size : Int) ≤ 8000) (h : okS t = false) : Out t zeroEv 5 := .inr (.inr ⟨⟨h4, h8⟩, .inl ⟨h, rfl, rfl⟩⟩)

theorem sameB_self (v : Ev) : sameB v v = true := by simp [sameB, hdB]
theorem same_law_self (v : Ev) (a1 a2 : Option Addr) (cap1 cap2 : Nat) (w : World) (h1 : NumsAt w a1 v.prev) (h2 : NumsAt w a2 v.prev) :
    Calls Try.prog 13 #[.agg #[.int .i64 v.id, .int .i64 v.room, .int .i64 v.author, .int .i64 v.kind, .int .i64 v.key, .int .i64 v.n, .string v.text, .slice a1 v.prev.length cap1, .int .i64 v.time], .agg #[.int .i64 v.id, .int .i64 v.room, .int .i64 v.author, .int .i64 v.kind, .int .i64 v.key, .int .i64 v.n, .string v.text, .slice a2 v.prev.length cap2, .int .i64 v.time]] w fun e w' => e = .returned (.bool true) ∧ Below w.heap.size w w' := by
  have h := same_law v v a1 a2 cap1 cap2 w h1 h2
  rw [sameB_self] at h
  exact h

/-- At the end: the first event, and the turned bytes. -/
structure LF (w : World) (E : Nat) (v : Ev) (p : Option Addr) (cp : Nat) (R : Nat) (bs : List UInt8) (W : World) : Prop where
  e : LE E v p cp W
  row : ∀ j (h : j < bs.length), W.cell? ⟨R, j, none⟩ = some (.int .u8 (bs[j].toNat : Int))
  lt : R < W.heap.size
  below : Below w.heap.size w W
theorem LF.on {w : World} {E : Nat} {v : Ev} {p : Option Addr} {cp : Nat} {R : Nat} {bs : List UInt8} {W W' : World} (h : LF w E v p cp R bs W) (hb : Below W.heap.size W W') : LF w E v p cp R bs W' := ⟨h.e.on hb, fun j hj => (hb.cell (p := ⟨R, j, none⟩) h.lt).trans (h.row j hj), Nat.lt_of_lt_of_le h.lt hb.size, bt h.below hb⟩
theorem LF.drew {w : World} {E : Nat} {v : Ev} {p : Option Addr} {cp : Nat} {R : Nat} {bs : List UInt8} {W : World} (h : LF w E v p cp R bs W) : LF w E v p cp R bs W.drew := h.on (Below.drew (Below.refl _ _))
theorem LF.cells {w : World} {E : Nat} {v : Ev} {p : Option Addr} {cp : Nat} {R : Nat} {bs : List UInt8} {W : World} (h : LF w E v p cp R bs W) {n : Nat} (hn : bs.length = n) (cap : Nat) : (∀ k, W.cell? ⟨E, k, none⟩ = #[.int .i64 v.id, .int .i64 v.room, .int .i64 v.author, .int .i64 v.kind, .int .i64 v.key, .int .i64 v.n, .string v.text, .slice p v.prev.length cp, .int .i64 v.time][k]?) ∧ (convert 22 9 (.slice (some ⟨R, 0, none⟩) n cap)).run Try.prog W = .ok (.string ⟨bs.toArray⟩) W := by
  subst hn
  refine ⟨fun _ => cell_of_heap h.e.e, ?_⟩
  exact run_convert_bytes_back (P := Try.prog) W 22 9 5 ⟨R, 0, none⟩ cap bs Try.underlying22 Try.underlying5 Try.underlying9 (fun j hj => by
    rw [Addr.add_lit, Nat.zero_add]
    exact h.row j hj)
theorem out_event (v : Ev) (a : Option Addr) (cap : Nat) (c : Int) (W : World) : (Instr.field 30 (.agg #[.int .i64 v.id, .int .i64 v.room, .int .i64 v.author, .int .i64 v.kind, .int .i64 v.key, .int .i64 v.n, .string v.text, .slice a v.prev.length cap, .int .i64 v.time, .int .i64 c]) 0).run Try.prog W = .ok (.agg #[.int .i64 v.id, .int .i64 v.room, .int .i64 v.author, .int .i64 v.kind, .int .i64 v.key, .int .i64 v.n, .string v.text, .slice a v.prev.length cap, .int .i64 v.time]) W := by kernel_rfl
theorem out_code (v : Ev) (a : Option Addr) (cap : Nat) (c : Int) (W : World) : (Instr.field 30 (.agg #[.int .i64 v.id, .int .i64 v.room, .int .i64 v.author, .int .i64 v.kind, .int .i64 v.key, .int .i64 v.n, .string v.text, .slice a v.prev.length cap, .int .i64 v.time, .int .i64 c]) 1).run Try.prog W = .ok (.int .i64 c) W := by kernel_rfl

theorem bytes_none {v : Ev} (h : rightB v = false) : bytesOf v = ⟨#[]⟩ := by unfold bytesOf; rw [h]; rfl

theorem same_bytes {v u : Ev} (hv : rightB v = true) (hu : rightB u = true) : ((bytesOf v).toList == (bytesOf u).toList) = sameB v u := by
  rw [bytes_of_right hv, bytes_of_right hu, Bool.eq_iff_iff]
  constructor
  · intro h
    have h1 : (evBytes v).toList = (evBytes u).toList := by simpa using h
    have h2 : evBytes v = evBytes u := by
      rw [ByteArray.toList_eq, ByteArray.toList_eq] at h1
      exact ba_ext h1
    rw [inj_ev hv hu h2]
    exact sameB_self u
  · intro h
    have e : v = u := by
      cases v
      cases u
      simp only [sameB, hdB, Bool.and_eq_true, beq_iff_eq, decide_eq_true_eq] at h
      obtain ⟨⟨⟨⟨⟨⟨h1, h2⟩, h3⟩, h4⟩, h5⟩, ⟨h6, h7⟩, h8⟩, h9⟩ := h
      rw [ByteArray.toList_eq, ByteArray.toList_eq] at h8
      rw [h1, h2, h3, h4, h5, h6, h7, ba_ext h8, h9]
    rw [e]
    simp

set_option maxHeartbeats 8000000 in
set_option maxRecDepth 100000 in
theorem event_law_small (a0 a1 : Option Addr) (len0 cap0 len1 cap1 : Nat) (w : World) (h0 : CodeAt w w.heap.size a0 len0) (h1 : CodeAt w w.heap.size a1 len1) :
    Calls Try.prog 3 #[.slice a0 len0 cap0, .slice a1 len1 cap1] w fun e w' => e = .returned (.bool true) ∧ Below w.heap.size w w' := by
  have hl0 := h0.1
  have hl1 := h1.1
  have H0 : Hid (CodeAt w w.heap.size a0 len0 ∧ CodeAt w w.heap.size a1 len1) := ⟨h0, h1⟩
  clear h0 h1
  have b0 : decide (1048576 < (len0 : Int)) = false := by simp; omega
  have b1 : decide (1048576 < (len1 : Int)) = false := by simp; omega
  go_enter Try.func3, Try.ntmps3
  go_wp2_with fail
  refine (draw_eventbytes a0 len0 cap0 _ H0.out.1).mono ?_
  rintro e w1 ⟨v, p, cp, rfl, hn, hl, hb⟩
  have HA : Hid (LA w w1.heap.size v p cp a1 len1 (w1.alloc (.cells #[.int .i64 v.id, .int .i64 v.room, .int .i64 v.author, .int .i64 v.kind, .int .i64 v.key, .int .i64 v.n, .string v.text, .slice p v.prev.length cp, .int .i64 v.time] 25))) := ⟨(MapKept.heap_alloc w1 _).1, (numsAt_of hn (by omega)).kept (ba _ _), (H0.out.2.on hb).on (ba _ _), bt hb (ba _ _)⟩
  clear hn hb hl
  go_wp2_with fail
  refine (bytes_impl v p cp _ HA.out.n).mono ?_
  rintro e w2 ⟨rfl, hb⟩
  have HA : Hid (LA w w1.heap.size v p cp a1 len1 w2) := HA.out.on hb
  clear hb
  go_wp2_with fail
  refine (draw_eventread _ a1 len1 cap1 _ (Nat.le_refl _) HA.out.code).mono ?_
  rintro e w3 ⟨u, rfl, hb⟩
  have HA : Hid (LA w w1.heap.size v p cp a1 len1 w3) := HA.out.on hb
  clear hb
  go_wp2_with fail
  refine (eventread_impl u _).mono ?_
  rintro e w4 ⟨vx, px, cx, kx, rfl, hox, hlx, hnx, hb⟩
  have HA : Hid (LA w w1.heap.size v p cp a1 len1 w4) := HA.out.on hb
  have HX : Hid (Out u vx kx ∧ vx.prev.length ≤ 4 ∧ NumsAt w4 px vx.prev) := ⟨hox, hlx, numsAt_of hnx (by omega)⟩
  clear hb hox hlx hnx
  unfold outV
  go_wp2_with fail
  refine (eventread_spec u _).mono ?_
  rintro e w5 ⟨vy, py, cy, ky, rfl, hoy, hly, hny, hb⟩
  obtain ⟨rfl, rfl⟩ := Out.same HX.out.1 hoy
  have HA : Hid (LA w w1.heap.size v p cp a1 len1 w5) := HA.out.on hb
  have HX : Hid (Out u vx kx ∧ NumsAt w5 px vx.prev ∧ NumsAt w5 py vx.prev) := ⟨HX.out.1, HX.out.2.2.kept hb, numsAt_of hny (by omega)⟩
  clear hb hoy hly hny
  unfold outV
  go_wp2_with fail
  refine (draw_same a1 len1 cap1 _ ((HA.out.code.on (ba _ _)).on (ba _ _))).mono ?_
  rintro e w6 ⟨va, vb, pa, pb, ca, cb, rfl, hna, hnb, hb⟩
  have HS : Hid (LS w w1.heap.size w5.heap.size v p cp a1 len1 vx px cx py cy kx w6.heap.size va pa ca vb pb cb ((w6.alloc (.cells #[.int .i64 va.id, .int .i64 va.room, .int .i64 va.author, .int .i64 va.kind, .int .i64 va.key, .int .i64 va.n, .string va.text, .slice pa va.prev.length ca, .int .i64 va.time] 25)).alloc (.cells #[.int .i64 vb.id, .int .i64 vb.room, .int .i64 vb.author, .int .i64 vb.kind, .int .i64 vb.key, .int .i64 vb.n, .string vb.text, .slice pb vb.prev.length cb, .int .i64 vb.time] 25))) := by
    have hx : ((w5.alloc (.cells #[.int .i64 vx.id, .int .i64 vx.room, .int .i64 vx.author, .int .i64 vx.kind, .int .i64 vx.key, .int .i64 vx.n, .string vx.text, .slice px vx.prev.length cx, .int .i64 vx.time, .int .i64 kx] 30)).alloc (.cells #[.int .i64 vx.id, .int .i64 vx.room, .int .i64 vx.author, .int .i64 vx.kind, .int .i64 vx.key, .int .i64 vx.n, .string vx.text, .slice py vx.prev.length cy, .int .i64 vx.time, .int .i64 kx] 30)).heap[w5.heap.size + 1]? = some (.cells #[.int .i64 vx.id, .int .i64 vx.room, .int .i64 vx.author, .int .i64 vx.kind, .int .i64 vx.key, .int .i64 vx.n, .string vx.text, .slice py vx.prev.length cy, .int .i64 vx.time, .int .i64 kx] 30 (0, 0)) := new_block _ _ _ (by simp)
    have hA : (w6.alloc (.cells #[.int .i64 va.id, .int .i64 va.room, .int .i64 va.author, .int .i64 va.kind, .int .i64 va.key, .int .i64 va.n, .string va.text, .slice pa va.prev.length ca, .int .i64 va.time] 25)).heap.size = w6.heap.size + 1 := by simp
    exact ⟨((((HA.out.on (ba _ _)).on (ba _ _)).on hb).on (ba _ _)).on (ba _ _), ⟨hk (hk (hk (hk (MapKept.heap_alloc w5 _).1 (ba _ _)) hb) (ba _ _)) (ba _ _), (((((HX.out.2.1.kept (ba _ _)).kept (ba _ _)).kept hb).kept (ba _ _)).kept (ba _ _))⟩, ⟨hk (hk (hk hx hb) (ba _ _)) (ba _ _), (((((HX.out.2.2.kept (ba _ _)).kept (ba _ _)).kept hb).kept (ba _ _)).kept (ba _ _))⟩, ⟨hk (MapKept.heap_alloc w6 _).1 (ba _ _), (hna.kept (ba _ _)).kept (ba _ _)⟩, ⟨new_block _ _ _ hA, (hnb.kept (ba _ _)).kept (ba _ _)⟩⟩
  have HX : Hid (Out u vx kx) := HX.out.1
  clear hb hna hnb HA
  go_wp2_with fail
  go_cut [78] (fun s W => s = .bool false ∧ Hid (LS w w1.heap.size w5.heap.size v p cp a1 len1 vx px cx py cy kx w6.heap.size va pa ca vb pb cb W))
  case first =>
    go_region_held3 (fun W => (∀ k, W.cell? ⟨w1.heap.size, k, none⟩ = #[.int .i64 v.id, .int .i64 v.room, .int .i64 v.author, .int .i64 v.kind, .int .i64 v.key, .int .i64 v.n, .string v.text, .slice p v.prev.length cp, .int .i64 v.time][k]?) ∧ (∀ k, W.cell? ⟨w5.heap.size, k, none⟩ = #[.int .i64 vx.id, .int .i64 vx.room, .int .i64 vx.author, .int .i64 vx.kind, .int .i64 vx.key, .int .i64 vx.n, .string vx.text, .slice px vx.prev.length cx, .int .i64 vx.time, .int .i64 kx][k]?) ∧ (∀ k, W.cell? ⟨w5.heap.size + 1, k, none⟩ = #[.int .i64 vx.id, .int .i64 vx.room, .int .i64 vx.author, .int .i64 vx.kind, .int .i64 vx.key, .int .i64 vx.n, .string vx.text, .slice py vx.prev.length cy, .int .i64 vx.time, .int .i64 kx][k]?) ∧ (∀ k, W.cell? ⟨w6.heap.size, k, none⟩ = #[.int .i64 va.id, .int .i64 va.room, .int .i64 va.author, .int .i64 va.kind, .int .i64 va.key, .int .i64 va.n, .string va.text, .slice pa va.prev.length ca, .int .i64 va.time][k]?) ∧ (∀ k, W.cell? ⟨w6.heap.size + 1, k, none⟩ = #[.int .i64 vb.id, .int .i64 vb.room, .int .i64 vb.author, .int .i64 vb.kind, .int .i64 vb.key, .int .i64 vb.n, .string vb.text, .slice pb vb.prev.length cb, .int .i64 vb.time][k]?)) (first | exact LS.cells HS14.out | exact LS.cells HS13.out | exact LS.cells HS12.out | exact LS.cells HS11.out | exact LS.cells HS10.out | exact LS.cells HS9.out | exact LS.cells HS8.out | exact LS.cells HS7.out | exact LS.cells (LS.drew HS.out)) (first
      | (go_at_call 12; refine (bytes_spec v p cp _ (LS.drew HS.out).e.n).mono ?_; rintro e w7 ⟨rfl, hb7⟩; have HS7 : Hid (LS w w1.heap.size w5.heap.size v p cp a1 len1 vx px cx py cy kx w6.heap.size va pa ca vb pb cb w7) := (LS.drew HS.out).on hb7; clear hb7)
      | (go_at_call 13; refine (same_law_self vx px py cx cy _ HS7.out.x.n HS7.out.y.n).mono ?_; rintro e w8 ⟨rfl, hb8⟩; have HS8 : Hid (LS w w1.heap.size w5.heap.size v p cp a1 len1 vx px cx py cy kx w6.heap.size va pa ca vb pb cb w8) := HS7.out.on hb8; clear hb8)
      | (go_at_call 14; refine (same_impl va vb pa pb ca cb _ HS8.out.a.n HS8.out.b.n).mono ?_; rintro e w9 ⟨rfl, hb9⟩; have HS9 : Hid (LS w w1.heap.size w5.heap.size v p cp a1 len1 vx px cx py cy kx w6.heap.size va pa ca vb pb cb w9) := HS8.out.on hb9; clear hb9)
      | (go_at_call 15; refine (same_spec va vb pa pb ca cb _ HS9.out.a.n HS9.out.b.n).mono ?_; rintro e w10 ⟨rfl, hb10⟩; have HS10 : Hid (LS w w1.heap.size w5.heap.size v p cp a1 len1 vx px cx py cy kx w6.heap.size va pa ca vb pb cb w10) := HS9.out.on hb10; clear hb10)
      | (go_at_call 16; refine (right_impl v p cp _ HS10.out.e.n).mono ?_; rintro e w11 ⟨rfl, hb11⟩; have HS11 : Hid (LS w w1.heap.size w5.heap.size v p cp a1 len1 vx px cx py cy kx w6.heap.size va pa ca vb pb cb w11) := HS10.out.on hb11; clear hb11)
      | (go_at_call 17; refine (right_spec v p cp _ HS11.out.e.n).mono ?_; rintro e w12 ⟨rfl, hb12⟩; have HS12 : Hid (LS w w1.heap.size w5.heap.size v p cp a1 len1 vx px cx py cy kx w6.heap.size va pa ca vb pb cb w12) := HS11.out.on hb12; clear hb12)
      | (go_at_call 18; refine (state_impl v p cp _ HS12.out.e.n).mono ?_; rintro e w13 ⟨rfl, hb13⟩; have HS13 : Hid (LS w w1.heap.size w5.heap.size v p cp a1 len1 vx px cx py cy kx w6.heap.size va pa ca vb pb cb w13) := HS12.out.on hb13; clear hb13)
      | (go_at_call 19; refine (state_spec v p cp _ HS13.out.e.n).mono ?_; rintro e w14 ⟨rfl, hb14⟩; have HS14 : Hid (LS w w1.heap.size w5.heap.size v p cp a1 len1 vx px cx py cy kx w6.heap.size va pa ca vb pb cb w14) := HS13.out.on hb14; clear hb14))
    all_goals
      go_wp2_with fail
      go_meet
      case rel => exact ⟨rfl, HS14⟩
  case rest =>
    clear HS
    obtain ⟨rfl, HS⟩ := hcut
    obtain ⟨m1, m2, m3, m4, m5⟩ := HS.out.cells
    go_upto_region 10 with fail
    clear m1 m2 m3 m4 m5
    go_cut [88] (fun s W => s = .bool false ∧ Hid (LS w w1.heap.size w5.heap.size v p cp a1 len1 vx px cx py cy kx w6.heap.size va pa ca vb pb cb W))
    case first =>
      obtain ⟨m1, m2, m3, m4, m5⟩ := HS.out.cells
      by_cases hkx : kx = 0
      · have bk : (kx == 0) = true := by simp [hkx]
        have HK : Hid (bytesOf vx = u) := out_zero (by rw [← hkx]; exact HX.out)
        clear hkx
        go_wp2_with fail
        refine (bytes_impl vx px cx _ HS.out.x.n).mono ?_
        rintro e w15 ⟨rfl, hb⟩
        have HS15 : Hid (LS w w1.heap.size w5.heap.size v p cp a1 len1 vx px cx py cy kx w6.heap.size va pa ca vb pb cb w15) := HS.out.on hb
        rw [HK.out]
        clear hb
        go_wp2_with fail
        go_meet
        case rel => exact ⟨rfl, HS15⟩
      · have bk : (kx == 0) = false := by simp [hkx]
        clear hkx
        go_wp2_with fail
        go_meet
        case rel => exact ⟨rfl, HS⟩
    case rest =>
      clear HS
      obtain ⟨rfl, HS⟩ := hcut
      go_upto_region 12 with fail
      go_cut [105] (fun s W => s = .bool false ∧ Hid (LS w w1.heap.size w5.heap.size v p cp a1 len1 vx px cx py cy kx w6.heap.size va pa ca vb pb cb W))
      case first =>
        obtain ⟨m1, m2, m3, m4, m5⟩ := HS.out.cells
        cases hra : rightB va
        · refine wp_region_any (by kernel_rfl) ?_
          change wpAny _ _ _ _ _ _ _ (World.drew _)
          refine wpAny_ready (rs := [0]) (by kernel_rfl) (by simp) ?_
          refine AllReady.cons rfl (fun K hK => ?_) AllReady.nil
          go_simp
          refine hK _ _ ?_
          clear hK K
          refine wpAny_ready (rs := [1]) (by kernel_rfl) (by simp) ?_
          refine AllReady.cons rfl (fun K hK => ?_) AllReady.nil
          go_simp
          go_wp2_with (go_at_call 17; refine (right_spec va pa ca _ (LS.drew HS.out).a.n).mono ?_; rintro e w16 ⟨rfl, hb16⟩; rw [hra]; have HS16 : Hid (LS w w1.heap.size w5.heap.size v p cp a1 len1 vx px cx py cy kx w6.heap.size va pa ca vb pb cb w16) := (LS.drew HS.out).on hb16; obtain ⟨n1, n2, n3, n4, n5⟩ := HS16.out.cells; clear hb16)
          refine wpAny_take (i := 2) (v := .bool false) rfl (by kernel_rfl) (by kernel_rfl) (by kernel_rfl) (fun _ _ _ h => h) (Or.inl ⟨by kernel_rfl, ?_⟩) ?_
          · intro w
            go_simp
          refine wpAny_take (i := 3) (v := undef) rfl (by kernel_rfl) (by kernel_rfl) (by kernel_rfl) (fun _ _ _ h => h) (Or.inr ⟨by kernel_rfl, rfl⟩) ?_
          refine wpAny_take (i := 4) (v := undef) rfl (by kernel_rfl) (by kernel_rfl) (by kernel_rfl) (fun _ _ _ h => h) (Or.inr ⟨by kernel_rfl, rfl⟩) ?_
          refine wpAny_take (i := 5) (v := .bool false) rfl (by kernel_rfl) (by kernel_rfl) (by kernel_rfl) (fun _ _ _ h => h) (Or.inl ⟨by kernel_rfl, ?_⟩) ?_
          · intro w
            go_simp
          refine wpAny_take (i := 6) (v := .bool false) rfl (by kernel_rfl) (by kernel_rfl) (by kernel_rfl) (fun _ _ _ h => h) (Or.inl ⟨by kernel_rfl, ?_⟩) ?_
          · intro w
            go_simp
          refine wpAny_take (i := 7) (v := undef) rfl (by kernel_rfl) (by kernel_rfl) (by kernel_rfl) (fun _ _ _ h => h) (Or.inr ⟨by kernel_rfl, rfl⟩) ?_
          refine wpAny_take (i := 8) (v := undef) rfl (by kernel_rfl) (by kernel_rfl) (by kernel_rfl) (fun _ _ _ h => h) (Or.inr ⟨by kernel_rfl, rfl⟩) ?_
          refine wpAny_take (i := 9) (v := undef) rfl (by kernel_rfl) (by kernel_rfl) (by kernel_rfl) (fun _ _ _ h => h) (Or.inr ⟨by kernel_rfl, rfl⟩) ?_
          refine wpAny_take (i := 10) (v := undef) rfl (by kernel_rfl) (by kernel_rfl) (by kernel_rfl) (fun _ _ _ h => h) (Or.inr ⟨by kernel_rfl, rfl⟩) ?_
          refine wpAny_take (i := 11) (v := undef) rfl (by kernel_rfl) (by kernel_rfl) (by kernel_rfl) (fun _ _ _ h => h) (Or.inr ⟨by kernel_rfl, rfl⟩) ?_
          refine wpAny_take (i := 12) (v := undef) rfl (by kernel_rfl) (by kernel_rfl) (by kernel_rfl) (fun _ _ _ h => h) (Or.inr ⟨by kernel_rfl, rfl⟩) ?_
          refine wpAny_take (i := 13) (v := undef) rfl (by kernel_rfl) (by kernel_rfl) (by kernel_rfl) (fun _ _ _ h => h) (Or.inr ⟨by kernel_rfl, rfl⟩) ?_
          refine wpAny_take (i := 14) (v := undef) rfl (by kernel_rfl) (by kernel_rfl) (by kernel_rfl) (fun _ _ _ h => h) (Or.inr ⟨by kernel_rfl, rfl⟩) ?_
          refine wpAny_take (i := 15) (v := undef) rfl (by kernel_rfl) (by kernel_rfl) (by kernel_rfl) (fun _ _ _ h => h) (Or.inr ⟨by kernel_rfl, rfl⟩) ?_
          refine wpAny_take (i := 16) (v := .bool false) rfl (by kernel_rfl) (by kernel_rfl) (by kernel_rfl) (fun _ _ _ h => h) (Or.inl ⟨by kernel_rfl, ?_⟩) ?_
          · intro w
            go_simp
          refine wpAny_done (by kernel_rfl) ?_ _
          go_wp2_with fail
          go_simp
          go_meet
          case rel => exact ⟨rfl, HS16⟩
        cases hrb : rightB vb
        · refine wp_region_any (by kernel_rfl) ?_
          change wpAny _ _ _ _ _ _ _ (World.drew _)
          refine wpAny_ready (rs := [0]) (by kernel_rfl) (by simp) ?_
          refine AllReady.cons rfl (fun K hK => ?_) AllReady.nil
          go_simp
          refine hK _ _ ?_
          clear hK K
          refine wpAny_ready (rs := [1]) (by kernel_rfl) (by simp) ?_
          refine AllReady.cons rfl (fun K hK => ?_) AllReady.nil
          go_simp
          go_wp2_with (go_at_call 17; refine (right_spec va pa ca _ (LS.drew HS.out).a.n).mono ?_; rintro e w16 ⟨rfl, hb16⟩; rw [hra]; have HS16 : Hid (LS w w1.heap.size w5.heap.size v p cp a1 len1 vx px cx py cy kx w6.heap.size va pa ca vb pb cb w16) := (LS.drew HS.out).on hb16; obtain ⟨n1, n2, n3, n4, n5⟩ := HS16.out.cells; clear hb16)
          refine wpAny_take (i := 2) (v := .bool true) rfl (by kernel_rfl) (by kernel_rfl) (by kernel_rfl) (fun _ _ _ h => h) (Or.inl ⟨by kernel_rfl, ?_⟩) ?_
          · intro w
            go_simp
          refine wpAny_ready (rs := [3]) (by kernel_rfl) (by simp) ?_
          refine AllReady.cons rfl (fun K hK => ?_) AllReady.nil
          go_simp
          refine hK _ _ ?_
          clear hK K
          refine wpAny_ready (rs := [4]) (by kernel_rfl) (by simp) ?_
          refine AllReady.cons rfl (fun K hK => ?_) AllReady.nil
          go_simp
          go_wp2_with (go_at_call 17; have hq := HS16; refine (right_spec vb pb cb _ HS16.out.b.n).mono ?_; rintro e w17 ⟨rfl, hb17⟩; rw [hrb]; have HS17 : Hid (LS w w1.heap.size w5.heap.size v p cp a1 len1 vx px cx py cy kx w6.heap.size va pa ca vb pb cb w17) := HS16.out.on hb17; clear hb17 hq)
          refine wpAny_take (i := 5) (v := .bool false) rfl (by kernel_rfl) (by kernel_rfl) (by kernel_rfl) (fun _ _ _ h => h) (Or.inl ⟨by kernel_rfl, ?_⟩) ?_
          · intro w
            go_simp
          refine wpAny_take (i := 6) (v := .bool false) rfl (by kernel_rfl) (by kernel_rfl) (by kernel_rfl) (fun _ _ _ h => h) (Or.inl ⟨by kernel_rfl, ?_⟩) ?_
          · intro w
            go_simp
          refine wpAny_take (i := 7) (v := undef) rfl (by kernel_rfl) (by kernel_rfl) (by kernel_rfl) (fun _ _ _ h => h) (Or.inr ⟨by kernel_rfl, rfl⟩) ?_
          refine wpAny_take (i := 8) (v := undef) rfl (by kernel_rfl) (by kernel_rfl) (by kernel_rfl) (fun _ _ _ h => h) (Or.inr ⟨by kernel_rfl, rfl⟩) ?_
          refine wpAny_take (i := 9) (v := undef) rfl (by kernel_rfl) (by kernel_rfl) (by kernel_rfl) (fun _ _ _ h => h) (Or.inr ⟨by kernel_rfl, rfl⟩) ?_
          refine wpAny_take (i := 10) (v := undef) rfl (by kernel_rfl) (by kernel_rfl) (by kernel_rfl) (fun _ _ _ h => h) (Or.inr ⟨by kernel_rfl, rfl⟩) ?_
          refine wpAny_take (i := 11) (v := undef) rfl (by kernel_rfl) (by kernel_rfl) (by kernel_rfl) (fun _ _ _ h => h) (Or.inr ⟨by kernel_rfl, rfl⟩) ?_
          refine wpAny_take (i := 12) (v := undef) rfl (by kernel_rfl) (by kernel_rfl) (by kernel_rfl) (fun _ _ _ h => h) (Or.inr ⟨by kernel_rfl, rfl⟩) ?_
          refine wpAny_take (i := 13) (v := undef) rfl (by kernel_rfl) (by kernel_rfl) (by kernel_rfl) (fun _ _ _ h => h) (Or.inr ⟨by kernel_rfl, rfl⟩) ?_
          refine wpAny_take (i := 14) (v := undef) rfl (by kernel_rfl) (by kernel_rfl) (by kernel_rfl) (fun _ _ _ h => h) (Or.inr ⟨by kernel_rfl, rfl⟩) ?_
          refine wpAny_take (i := 15) (v := undef) rfl (by kernel_rfl) (by kernel_rfl) (by kernel_rfl) (fun _ _ _ h => h) (Or.inr ⟨by kernel_rfl, rfl⟩) ?_
          refine wpAny_take (i := 16) (v := .bool false) rfl (by kernel_rfl) (by kernel_rfl) (by kernel_rfl) (fun _ _ _ h => h) (Or.inl ⟨by kernel_rfl, ?_⟩) ?_
          · intro w
            go_simp
          refine wpAny_done (by kernel_rfl) ?_ _
          go_wp2_with fail
          go_simp
          go_meet
          case rel => exact ⟨rfl, HS17⟩
        have hsame := same_bytes hra hrb
        go_region_held3 (fun W => (∀ k, W.cell? ⟨w1.heap.size, k, none⟩ = #[.int .i64 v.id, .int .i64 v.room, .int .i64 v.author, .int .i64 v.kind, .int .i64 v.key, .int .i64 v.n, .string v.text, .slice p v.prev.length cp, .int .i64 v.time][k]?) ∧ (∀ k, W.cell? ⟨w5.heap.size, k, none⟩ = #[.int .i64 vx.id, .int .i64 vx.room, .int .i64 vx.author, .int .i64 vx.kind, .int .i64 vx.key, .int .i64 vx.n, .string vx.text, .slice px vx.prev.length cx, .int .i64 vx.time, .int .i64 kx][k]?) ∧ (∀ k, W.cell? ⟨w5.heap.size + 1, k, none⟩ = #[.int .i64 vx.id, .int .i64 vx.room, .int .i64 vx.author, .int .i64 vx.kind, .int .i64 vx.key, .int .i64 vx.n, .string vx.text, .slice py vx.prev.length cy, .int .i64 vx.time, .int .i64 kx][k]?) ∧ (∀ k, W.cell? ⟨w6.heap.size, k, none⟩ = #[.int .i64 va.id, .int .i64 va.room, .int .i64 va.author, .int .i64 va.kind, .int .i64 va.key, .int .i64 va.n, .string va.text, .slice pa va.prev.length ca, .int .i64 va.time][k]?) ∧ (∀ k, W.cell? ⟨w6.heap.size + 1, k, none⟩ = #[.int .i64 vb.id, .int .i64 vb.room, .int .i64 vb.author, .int .i64 vb.kind, .int .i64 vb.key, .int .i64 vb.n, .string vb.text, .slice pb vb.prev.length cb, .int .i64 vb.time][k]?)) (first | exact LS.cells HS20.out | exact LS.cells HS19.out | exact LS.cells HS18.out | exact LS.cells HS17.out | exact LS.cells HS16.out | exact LS.cells (LS.drew HS.out)) (first
          | (go_at_call 17; have hq := HS16; refine (right_spec vb pb cb _ HS16.out.b.n).mono ?_; rintro e w17 ⟨rfl, hb17⟩; rw [hrb]; have HS17 : Hid (LS w w1.heap.size w5.heap.size v p cp a1 len1 vx px cx py cy kx w6.heap.size va pa ca vb pb cb w17) := HS16.out.on hb17; clear hb17 hq)
          | (go_at_call 17; refine (right_spec va pa ca _ (LS.drew HS.out).a.n).mono ?_; rintro e w16 ⟨rfl, hb16⟩; rw [hra]; have HS16 : Hid (LS w w1.heap.size w5.heap.size v p cp a1 len1 vx px cx py cy kx w6.heap.size va pa ca vb pb cb w16) := (LS.drew HS.out).on hb16; obtain ⟨n1, n2, n3, n4, n5⟩ := HS16.out.cells; clear hb16)
          | (go_at_call 14; refine (same_impl va vb pa pb ca cb _ HS17.out.a.n HS17.out.b.n).mono ?_; rintro e w18 ⟨rfl, hb18⟩; have HS18 : Hid (LS w w1.heap.size w5.heap.size v p cp a1 len1 vx px cx py cy kx w6.heap.size va pa ca vb pb cb w18) := HS17.out.on hb18; clear hb18)
          | (go_at_call 7; have hq := HS19; refine (bytes_impl vb pb cb _ HS19.out.b.n).mono ?_; rintro e w20 ⟨rfl, hb20⟩; have HS20 : Hid (LS w w1.heap.size w5.heap.size v p cp a1 len1 vx px cx py cy kx w6.heap.size va pa ca vb pb cb w20) := HS19.out.on hb20; clear hb20 hq)
          | (go_at_call 7; refine (bytes_impl va pa ca _ HS18.out.a.n).mono ?_; rintro e w19 ⟨rfl, hb19⟩; have HS19 : Hid (LS w w1.heap.size w5.heap.size v p cp a1 len1 vx px cx py cy kx w6.heap.size va pa ca vb pb cb w19) := HS18.out.on hb19; clear hb19))
        all_goals
          go_wp2_with fail
          go_meet
          case rel => exact ⟨rfl, HS20⟩
      case rest =>
        clear HS
        obtain ⟨rfl, HS⟩ := hcut
        clear HX
        cases hr : rightB v
        · have hT : bytesOf v = ⟨#[]⟩ := bytes_none hr
          rw [hT]
          clear hr hT
          go_wp2
          go_ret
          exact ⟨rfl, HS.out.e.below⟩
        have HR : Hid (rightB v = true) := hr
        have hT : bytesOf v = ⟨(sealB (evL v)).toArray⟩ := bytes_of_right hr
        rw [hT]
        have hlen : (sealB (evL v)).length = (evL v).length + 4 := by simp [sealB, fourB]
        have hl8 := evL_len (right_small hr)
        have hne : ((sealB (evL v)).isEmpty) = false := by simp [sealB, fourB]
        have hlo : 4 ≤ (sealB (evL v)).length := by omega
        have hhi : (sealB (evL v)).length ≤ 8000 := by omega
        clear hlen hr hl8 hT
        obtain ⟨capc, w21, hcv, hb21, hz21, hrow⟩ := to_bytes (P := Try.prog) wc 9 22 5 (sealB (evL v)) Try.underlying9 Try.underlying22 Try.underlying5
        have HROW : Hid (∀ j (h : j < (sealB (evL v)).length), w21.cell? ⟨wc.heap.size, j, none⟩ = some (.int .u8 ((sealB (evL v))[j].toNat : Int)) ∧ w21.frozen? ⟨wc.heap.size, j, none⟩ = false) := hrow
        have HL : Hid (LA w w1.heap.size v p cp a1 len1 wc) := HS.out.e
        have HB : Hid (Below wc.heap.size wc w21) := hb21
        clear hrow hb21 HS
        go_wp2_with fail
        refine (lw_at _ a1 len1 cap1 0 _ _ (by omega) (by omega) (by omega) (HL.out.on HB.out).code).mono ?_
        rintro e w22 ⟨k, rfl, hk0, hk1, rfl⟩
        obtain ⟨k, rfl⟩ := Int.eq_ofNat_of_zero_le hk0
        have hkl : k < (sealB (evL v)).length := by omega
        obtain ⟨hck, hfk⟩ := HROW.out k hkl
        go_wp2_with fail
        have HC1 : Hid (LA w w1.heap.size v p cp a1 len1 w21.drew) := HL.out.on HB.out.drew
        go_region_with (go_at_call 20; refine (lw_at _ a1 len1 cap1 1 255 _ (by omega) (by omega) (by omega) HC1.out.code).mono ?_; rintro e w5 ⟨r, rfl, hr0, hr1, rfl⟩)
        all_goals
          obtain ⟨y, hy, hyn⟩ := turned_byte (sealB (evL v))[k] r hr0 hr1
          have HO2 : Hid (okS ⟨((sealB (evL v)).set k y).toArray⟩ = false) := ok_turned (evL v) k hkl y hyn
          rw [hy]
          obtain ⟨bs, HBS⟩ : ∃ bs, Hid (bs = (sealB (evL v)).set k y) := ⟨_, rfl⟩
          obtain ⟨W5, hW5⟩ : ∃ W5, W5 = (w21.setCell ⟨wc.heap.size, k, none⟩ (.int .u8 (y.toNat : Int))).drew := ⟨_, rfl⟩
          rw [← hW5]
          have HW : Hid (W5 = (w21.setCell ⟨wc.heap.size, k, none⟩ (.int .u8 (y.toNat : Int))).drew) := hW5
          have HOB : Hid (Out ⟨bs.toArray⟩ zeroEv 5 ∧ bs.length = (sealB (evL v)).length) := by
            have e : bs.length = (sealB (evL v)).length := by rw [HBS.out, List.length_set]
            have ez : (⟨bs.toArray⟩ : ByteArray).size = bs.length := by show bs.toArray.size = _; simp
            exact ⟨out_bad (by omega) (by omega) (by rw [HBS.out]; exact HO2.out), e⟩
          have HF : Hid (LF w w1.heap.size v p cp wc.heap.size bs W5) := by
            have hbw : Below wc.heap.size wc W5 := by rw [HW.out]; exact (HB.out.setCell (Nat.le_refl _) _).drew
            refine ⟨⟨(HL.out.on hbw).e, (HL.out.on hbw).n⟩, fun j h => ?_, ?_, (HL.out.on hbw).below⟩
            · have hj : j < (sealB (evL v)).length := by have := HOB.out.2; omega
              have h1 := (HROW.out j hj).1
              have e1 : bs[j] = ((sealB (evL v)).set k y)[j]'(by simpa using hj) := by simp only [HBS.out]
              rw [HW.out, e1]
              show (w21.setCell ⟨wc.heap.size, k, none⟩ (.int .u8 (y.toNat : Int))).cell? ⟨wc.heap.size, j, none⟩ = _
              by_cases e : k = j
              · subst e
                rw [World.cell?_setCell_same' w21 _ _ (by rw [h1]; rfl)]; simp
              · rw [List.getElem_set_ne e]
                refine Eq.trans ?_ h1
                apply World.cell?_setCell_other
                simp
            · rw [HW.out]; show _ < (w21.setCell _ _).heap.size; simpa [World.setCell] using hz21
          clear hW5 hyn hy hck hfk hr0 hr1 hcv
          have hf0 := out_event
          have hf1 := out_code
          go_wp2_with fail
          go_region_held3 (fun W => (∀ k, W.cell? ⟨w1.heap.size, k, none⟩ = #[.int .i64 v.id, .int .i64 v.room, .int .i64 v.author, .int .i64 v.kind, .int .i64 v.key, .int .i64 v.n, .string v.text, .slice p v.prev.length cp, .int .i64 v.time][k]?) ∧ (convert 22 9 (.slice (some ⟨wc.heap.size, 0, none⟩) (sealB (evL v)).length capc)).run Try.prog W = .ok (.string ⟨bs.toArray⟩) W) (first | exact LF.cells HF3.out HOB.out.2 capc | exact LF.cells HF2.out HOB.out.2 capc | exact LF.cells HF1.out.1 HOB.out.2 capc | exact LF.cells (LF.drew HF.out) HOB.out.2 capc) (first
            | (go_at_call 9; have hq := HF2; refine (eventread_impl ⟨bs.toArray⟩ _).mono ?_; rintro e w25 ⟨vz, pz2, cz2, kz, rfl, hoz, -, -, hb25⟩; obtain ⟨rfl, rfl⟩ := Out.same HOB.out.1 hoz; unfold outV; have HF3 : Hid (LF w w1.heap.size v p cp wc.heap.size bs w25) := HF2.out.on hb25; clear hb25 hoz hq)
            | (go_at_call 9; refine (eventread_impl ⟨(sealB (evL v)).toArray⟩ _).mono ?_; rintro e w23 ⟨vz, pz, cz, kz, rfl, hoz, hlz, hnz, hb23⟩; obtain ⟨rfl, rfl⟩ := Out.same (out_right HR.out) hoz; unfold outV; have HF1 : Hid (LF w w1.heap.size v p cp wc.heap.size bs w23 ∧ NumsAt w23 pz v.prev) := ⟨(LF.drew HF.out).on hb23, numsAt_of hnz (by omega)⟩; clear hb23 hoz hlz hnz)
            | (go_at_call 13; refine (same_law_self v pz p cz cp _ HF1.out.2 HF1.out.1.e.n).mono ?_; rintro e w24 ⟨rfl, hb24⟩; have HF2 : Hid (LF w w1.heap.size v p cp wc.heap.size bs w24) := HF1.out.1.on hb24; clear hb24))
          all_goals
            go_wp2
            go_ret
            exact ⟨rfl, HF3.out.below⟩

end Go.Proofs.Ytjdkenopfnepaaa
