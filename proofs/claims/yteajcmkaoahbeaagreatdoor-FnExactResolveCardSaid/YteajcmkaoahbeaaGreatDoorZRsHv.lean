/- Which events go ahead where ways meet: the specification's side. What hinders an event, as plain functions; the two variables of the walks. What hinders an event of another one, on the specification's side. The walks' variables: scene, event, errors; the small askings. Which events go ahead: the program's; an event of the graph looked up. -/
import Derived.Test.YteajcmkaoahbeaaGreatDoorZGrPlain
import Derived.Test.YteajcmkaoahbeaaGreatDoorZRl4
import Derived.Deep.DeepCutAuto
import Derived.Deep.RegionHeld3
import Derived.Test.YteajcmkaoahbeaaGreatDoorZAlIs
namespace Go.Proofs.YteajcmkaoahbeaaGreatDoor
open Go.RowKit

def heavyB (v : Ev) : Bool := v.kind == 1 || v.kind == 3 || v.kind == 5 || (v.kind == 2 && v.key != v.author)
set_option maxHeartbeats 4000000 in
set_option maxRecDepth 100000 in
theorem heavy_spec (v : Ev) (q : Option Addr) (c : Nat) (w : World) : Calls Tryz.prog 101 #[.agg #[.int .i64 v.id, .int .i64 v.room, .int .i64 v.author, .int .i64 v.kind, .int .i64 v.key, .int .i64 v.n, .string v.text, .slice q v.prev.length c, .int .i64 v.time]] w fun e w' => e = .returned (.bool (heavyB v)) ∧ Below w.heap.size w w' := by
  have HB : Hid (∀ o, Below w.heap.size w (w.alloc o)) := fun o => (Below.refl _ _).alloc (Nat.le_refl _) o
  obtain ⟨R, HR⟩ : ∃ R, Hid (R = heavyB v) := ⟨heavyB v, (rfl : heavyB v = _)⟩
  rw [← HR.out]
  cases k1 : (v.kind == 1)
  · cases k3 : (v.kind == 3)
    · cases k5 : (v.kind == 5)
      · cases k2 : (v.kind == 2)
        · go_enter Tryz.func101, Tryz.ntmps101
          go_wp2
          go_ret
          exact ⟨ret_bool (by rw [HR.out]; simp [heavyB, k1, k3, k5, k2]), HB.out _⟩
        · cases ko : (v.key != v.author)
          · go_enter Tryz.func101, Tryz.ntmps101
            go_wp2
            go_ret
            exact ⟨ret_bool (by rw [HR.out]; simp [heavyB, k1, k3, k5, k2, ko]), HB.out _⟩
          · go_enter Tryz.func101, Tryz.ntmps101
            go_wp2
            go_ret
            exact ⟨ret_bool (by rw [HR.out]; simp [heavyB, k1, k3, k5, k2, ko]), HB.out _⟩
      · go_enter Tryz.func101, Tryz.ntmps101
        go_wp2
        go_ret
        exact ⟨ret_bool (by rw [HR.out]; simp [heavyB, k1, k3, k5]), HB.out _⟩
    · go_enter Tryz.func101, Tryz.ntmps101
      go_wp2
      go_ret
      exact ⟨ret_bool (by rw [HR.out]; simp [heavyB, k1, k3]), HB.out _⟩
  · go_enter Tryz.func101, Tryz.ntmps101
    go_wp2
    go_ret
    exact ⟨ret_bool (by rw [HR.out]; simp [heavyB, k1]), HB.out _⟩
end Go.Proofs.YteajcmkaoahbeaaGreatDoor
namespace Go.Proofs.YteajcmkaoahbeaaGreatDoor
open Go.RowKit

def ifE (b : Bool) : Int := if b = true then 11 else 0
/-- Of itself. -/
def ownE (es : List Em) (xs : List En) (v : Ev) (m : Int) : Int :=
  if (v.n == 1) = true then ifE (m == 3 || (!(m == 1 || m == 4) && !((lastE es xs 5 0).n == 1 || (lastE es xs 1 0).author == v.author)))
  else if (v.n == 2) = true then ifE (!(m == 1 || m == 4)) else 11
/-- Of another one: t is what it is, l its level, pl the author's. -/
def otherP (n t l pl : Int) : Int :=
  if (n == 4) = true then ifE (t == 1 || t == 3)
  else if (n == 2) = true then ifE (decide (pl < 50) || decide (pl ≤ l) || t == 0 || t == 2)
  else if (n == 3) = true then ifE (decide (pl < 50) || decide (pl ≤ l) || t == 3) else 11
def otherE (es : List Em) (xs : List En) (v : Ev) (pl : Int) : Int := otherP v.n (memR es xs v.key) (levR es xs v.key) pl
/-- What is arranged. -/
def mightE (n pl l : Int) (other : Bool) : Int := ifE (decide (pl < 50) || decide (pl < n) || (other && decide (pl ≤ l)))
def hideE (es : List Em) (v : Ev) (pl : Int) : Int := if v.key ∈ idsOf es then ifE (decide (pl < 50) && ((evIn es v.key).author != v.author)) else 6
/-- By kind, of one who is in. -/
def kindE (es : List Em) (xs : List En) (v : Ev) (pl : Int) : Int :=
  if (v.kind == 2) = true then otherE es xs v pl
  else if (v.kind == 3) = true then mightE v.n pl (levR es xs v.key) (v.key != v.author)
  else if (v.kind == 4) = true then ifE (decide (pl < 50))
  else if (v.kind == 5) = true then ifE (decide (pl < 50))
  else if (v.kind == 6) = true then ifE (decide (pl < 50))
  else if (v.kind == 8) = true then hideE es v pl
  else 0
def alwE (es : List Em) (xs : List En) (v : Ev) : Int :=
  if (v.kind == 1) = true then (if decide (0 < stAt xs 1 0) = true then 7 else 0)
  else if decide (0 < stAt xs 1 0) = true then
    (if (v.kind == 2 && v.key == v.author) = true then ownE es xs v (memR es xs v.author)
     else if (memR es xs v.author != 1) = true then 11 else kindE es xs v (levR es xs v.author))
  else 10
/-- The graph's and the event's variable, and all that lay before. -/
structure AB (w : World) (g : Gr) (a : Option Addr) (cap : Nat) (p : Option Addr) (cp : Nat) (v : Ev) (q : Option Addr) (c : Nat) (W : World) : Prop where
  below : Below w.heap.size w W
  gx : W.heap[w.heap.size]? = some (.cells #[.int .i64 g.room, .slice a g.evs.length cap, .slice p g.pk.length cp] 32 (0, 0))
  ev : W.heap[w.heap.size + 1]? = some (.cells #[.int .i64 v.id, .int .i64 v.room, .int .i64 v.author, .int .i64 v.kind, .int .i64 v.key, .int .i64 v.n, .string v.text, .slice q v.prev.length c, .int .i64 v.time] 114 (0, 0))
theorem AB.start (w : World) (g : Gr) (a : Option Addr) (cap : Nat) (p : Option Addr) (cp : Nat) (v : Ev) (q : Option Addr) (c : Nat) : AB w g a cap p cp v q c ((w.alloc (.cells #[.int .i64 g.room, .slice a g.evs.length cap, .slice p g.pk.length cp] 32)).alloc (.cells #[.int .i64 v.id, .int .i64 v.room, .int .i64 v.author, .int .i64 v.kind, .int .i64 v.key, .int .i64 v.n, .string v.text, .slice q v.prev.length c, .int .i64 v.time] 114)) :=
  ⟨((Below.refl _ _).alloc (Nat.le_refl _) _).alloc (by simp) _, (Below.heap_alloc _ _ _ (by simp)).trans (MapKept.heap_alloc w _).1, by have := (MapKept.heap_alloc (w.alloc (.cells #[.int .i64 g.room, .slice a g.evs.length cap, .slice p g.pk.length cp] 32)) (.cells #[.int .i64 v.id, .int .i64 v.room, .int .i64 v.author, .int .i64 v.kind, .int .i64 v.key, .int .i64 v.n, .string v.text, .slice q v.prev.length c, .int .i64 v.time] 114)).1; simpa using this⟩
theorem AB.on {w : World} {g : Gr} {a : Option Addr} {cap : Nat} {p : Option Addr} {cp : Nat} {v : Ev} {q : Option Addr} {c : Nat} {W W' : World} (h : AB w g a cap p cp v q c W) (hb : Below W.heap.size W W') : AB w g a cap p cp v q c W' :=
  ⟨h.below.trans (hb.mono h.below.size), (hb.block _ (Array.getElem?_eq_some_iff.1 h.gx).1).trans h.gx, (hb.block _ (Array.getElem?_eq_some_iff.1 h.ev).1).trans h.ev⟩
theorem AB.drew {w : World} {g : Gr} {a : Option Addr} {cap : Nat} {p : Option Addr} {cp : Nat} {v : Ev} {q : Option Addr} {c : Nat} {W : World} (h : AB w g a cap p cp v q c W) : AB w g a cap p cp v q c W.drew := h.on (Below.drew (Below.refl _ _))
theorem AB.cells {w : World} {g : Gr} {a : Option Addr} {cap : Nat} {p : Option Addr} {cp : Nat} {v : Ev} {q : Option Addr} {c : Nat} {W : World} (h : AB w g a cap p cp v q c W) :
    (∀ k, W.cell? ⟨w.heap.size, k, none⟩ = #[.int .i64 g.room, .slice a g.evs.length cap, .slice p g.pk.length cp][k]?) ∧ (∀ k, W.cell? ⟨w.heap.size + 1, k, none⟩ = #[.int .i64 v.id, .int .i64 v.room, .int .i64 v.author, .int .i64 v.kind, .int .i64 v.key, .int .i64 v.n, .string v.text, .slice q v.prev.length c, .int .i64 v.time][k]?) :=
  ⟨fun _ => cell_of_heap h.gx, fun _ => cell_of_heap h.ev⟩
set_option maxHeartbeats 1000000 in
theorem if_spec (b : Bool) (w : World) : Calls Tryz.prog 106 #[.bool b] w fun e w' => e = .returned (.int .i64 (ifE b)) ∧ w' = w := by
  cases b
  · go_enter Tryz.func106, Tryz.ntmps106
    go_wp2
    go_ret
    exact ⟨rfl, rfl⟩
  · go_enter Tryz.func106, Tryz.ntmps106
    go_wp2
    go_ret
    exact ⟨rfl, rfl⟩
end Go.Proofs.YteajcmkaoahbeaaGreatDoor
namespace Go.Proofs.YteajcmkaoahbeaaGreatDoor
open Go.RowKit

set_option maxHeartbeats 16000000 in
set_option maxRecDepth 100000 in
theorem other_spec (g : Gr) (xs : List En) (v : Ev) (q : Option Addr) (c : Nat) (a : Option Addr) (cap : Nat) (p : Option Addr) (cp : Nat) (s : Option Addr) (cs : Nat) (w : World) (h : RIn w g xs a s) (hs : Sc g xs) (pl : Int) :
    Calls Tryz.prog 105 #[.agg #[.int .i64 g.room, .slice a g.evs.length cap, .slice p g.pk.length cp], .slice s xs.length cs, .agg #[.int .i64 v.id, .int .i64 v.room, .int .i64 v.author, .int .i64 v.kind, .int .i64 v.key, .int .i64 v.n, .string v.text, .slice q v.prev.length c, .int .i64 v.time], .int .i64 pl] w fun e w' => e = .returned (.int .i64 (otherE g.evs xs v pl)) ∧ Below w.heap.size w w' := by
  have HA0 : Hid (AB w g a cap p cp v q c ((w.alloc (.cells #[.int .i64 g.room, .slice a g.evs.length cap, .slice p g.pk.length cp] 32)).alloc (.cells #[.int .i64 v.id, .int .i64 v.room, .int .i64 v.author, .int .i64 v.kind, .int .i64 v.key, .int .i64 v.n, .string v.text, .slice q v.prev.length c, .int .i64 v.time] 114))) := AB.start w g a cap p cp v q c
  have HM := fun W (hW : Below w.heap.size w W) => member05_spec g xs v.key a cap p cp s cs W (h.kept hW) hs
  have HL := fun W (hW : Below w.heap.size w W) => level05_spec g xs v.key a cap p cp s cs W (h.kept hW) hs
  obtain ⟨t, HT⟩ : ∃ u, Hid (u = memR g.evs xs v.key) := ⟨memR g.evs xs v.key, (rfl : memR g.evs xs v.key = _)⟩
  obtain ⟨l, HQ⟩ : ∃ u, Hid (u = levR g.evs xs v.key) := ⟨levR g.evs xs v.key, (rfl : levR g.evs xs v.key = _)⟩
  obtain ⟨R, HR⟩ : ∃ R, Hid (R = otherP v.n t l pl) := ⟨otherP v.n t l pl, (rfl : otherP v.n t l pl = _)⟩
  have HX : Hid (otherE g.evs xs v pl = R) := by unfold Hid otherE; rw [HR.out, HT.out, HQ.out]
  rw [HX.out]
  rw [← HT.out] at HM
  rw [← HQ.out] at HL
  clear h hs
  go_enter Tryz.func105, Tryz.ntmps105
  go_wp2
  go_cut [9, 10] (fun r1 r2 W => r1 = .int .i64 t ∧ r2 = .int .i64 l ∧ Hid (AB w g a cap p cp v q c W))
  case first =>
    go_region_held3 (fun W => (∀ k, W.cell? ⟨w.heap.size, k, none⟩ = #[.int .i64 g.room, .slice a g.evs.length cap, .slice p g.pk.length cp][k]?) ∧ (∀ k, W.cell? ⟨w.heap.size + 1, k, none⟩ = #[.int .i64 v.id, .int .i64 v.room, .int .i64 v.author, .int .i64 v.kind, .int .i64 v.key, .int .i64 v.n, .string v.text, .slice q v.prev.length c, .int .i64 v.time][k]?)) (first | exact AB.cells HA2.out | exact AB.cells HA1.out | exact AB.cells HA0.out.drew) (first
      | (go_at_call 102; refine (HM _ HA0.out.drew.below).mono ?_; rintro e w1 ⟨rfl, hb1⟩; have HA1 : Hid (AB w g a cap p cp v q c w1) := HA0.out.drew.on hb1; clear hb1)
      | (go_at_call 103; refine (HL _ HA1.out.below).mono ?_; rintro e w2 ⟨rfl, hb2⟩; have HA2 : Hid (AB w g a cap p cp v q c w2) := HA1.out.on hb2; clear hb2)
      | (go_at_call 103; refine (HL _ HA0.out.drew.below).mono ?_; rintro e w1 ⟨rfl, hb1⟩; have HA1 : Hid (AB w g a cap p cp v q c w1) := HA0.out.drew.on hb1; clear hb1)
      | (go_at_call 102; refine (HM _ HA1.out.below).mono ?_; rintro e w2 ⟨rfl, hb2⟩; have HA2 : Hid (AB w g a cap p cp v q c w2) := HA1.out.on hb2; clear hb2))
    all_goals
      go_wp2_with fail
      go_meet
      case rel => exact ⟨rfl, rfl, HA2⟩
  case rest =>
    clear HA0
    obtain ⟨rfl, rfl, HA⟩ := hcut
    obtain ⟨m1, m2⟩ := HA.out.cells
    cases hn4 : (v.n == 4)
    · cases hn2 : (v.n == 2)
      · cases hn3 : (v.n == 3)
        · go_wp2
          go_ret
          exact ⟨ret_int' (by rw [HR.out]; simp [otherP, hn4, hn2, hn3]), HA.out.below⟩
        · cases p5 : (decide (pl < 50))
          · cases pq : (decide (pl ≤ l))
            · cases t3 : (t == 3)
              · go_wp2_with (go_at_call 106; refine (if_spec _ _).mono ?_; rintro e w9 ⟨rfl, rfl⟩)
                go_ret
                exact ⟨ret_int' (by rw [HR.out]; simp [otherP, ifE, hn4, hn2, hn3, p5, pq, t3]), HA.out.below⟩
              · go_wp2_with (go_at_call 106; refine (if_spec _ _).mono ?_; rintro e w9 ⟨rfl, rfl⟩)
                go_ret
                exact ⟨ret_int' (by rw [HR.out]; simp [otherP, ifE, hn4, hn2, hn3, p5, pq, t3]), HA.out.below⟩
            · go_wp2_with (go_at_call 106; refine (if_spec _ _).mono ?_; rintro e w9 ⟨rfl, rfl⟩)
              go_ret
              exact ⟨ret_int' (by rw [HR.out]; simp [otherP, ifE, hn4, hn2, hn3, p5, pq]), HA.out.below⟩
          · go_wp2_with (go_at_call 106; refine (if_spec _ _).mono ?_; rintro e w9 ⟨rfl, rfl⟩)
            go_ret
            exact ⟨ret_int' (by rw [HR.out]; simp [otherP, ifE, hn4, hn2, hn3, p5]), HA.out.below⟩
      · cases p5 : (decide (pl < 50))
        · cases pq : (decide (pl ≤ l))
          · cases t0 : (t == 0)
            · cases t2 : (t == 2)
              · go_wp2_with (go_at_call 106; refine (if_spec _ _).mono ?_; rintro e w9 ⟨rfl, rfl⟩)
                go_ret
                exact ⟨ret_int' (by rw [HR.out]; simp [otherP, ifE, hn4, hn2, p5, pq, t0, t2]), HA.out.below⟩
              · go_wp2_with (go_at_call 106; refine (if_spec _ _).mono ?_; rintro e w9 ⟨rfl, rfl⟩)
                go_ret
                exact ⟨ret_int' (by rw [HR.out]; simp [otherP, ifE, hn4, hn2, p5, pq, t0, t2]), HA.out.below⟩
            · go_wp2_with (go_at_call 106; refine (if_spec _ _).mono ?_; rintro e w9 ⟨rfl, rfl⟩)
              go_ret
              exact ⟨ret_int' (by rw [HR.out]; simp [otherP, ifE, hn4, hn2, p5, pq, t0]), HA.out.below⟩
          · go_wp2_with (go_at_call 106; refine (if_spec _ _).mono ?_; rintro e w9 ⟨rfl, rfl⟩)
            go_ret
            exact ⟨ret_int' (by rw [HR.out]; simp [otherP, ifE, hn4, hn2, p5, pq]), HA.out.below⟩
        · go_wp2_with (go_at_call 106; refine (if_spec _ _).mono ?_; rintro e w9 ⟨rfl, rfl⟩)
          go_ret
          exact ⟨ret_int' (by rw [HR.out]; simp [otherP, ifE, hn4, hn2, p5]), HA.out.below⟩
    · cases t1 : (t == 1)
      · cases t3 : (t == 3)
        · go_wp2_with (go_at_call 106; refine (if_spec _ _).mono ?_; rintro e w9 ⟨rfl, rfl⟩)
          go_ret
          exact ⟨ret_int' (by rw [HR.out]; simp [otherP, ifE, hn4, t1, t3]), HA.out.below⟩
        · go_wp2_with (go_at_call 106; refine (if_spec _ _).mono ?_; rintro e w9 ⟨rfl, rfl⟩)
          go_ret
          exact ⟨ret_int' (by rw [HR.out]; simp [otherP, ifE, hn4, t1, t3]), HA.out.below⟩
      · go_wp2_with (go_at_call 106; refine (if_spec _ _).mono ?_; rintro e w9 ⟨rfl, rfl⟩)
        go_ret
        exact ⟨ret_int' (by rw [HR.out]; simp [otherP, ifE, hn4, t1]), HA.out.below⟩
end Go.Proofs.YteajcmkaoahbeaaGreatDoor
namespace Go.Proofs.YteajcmkaoahbeaaGreatDoor
open Go.RowKit

/-- The scene's and the event's variable, the errors, and all that lay before. -/
structure IB (w : World) (E : Errs) (be bs : Nat) (v : Ev) (q : Option Addr) (c : Nat) (W : World) : Prop where
  below : Below w.heap.size w W
  er : LE E W
  sc : W.heap[w.heap.size]? = some (.cells #[.map (some be), .map (some bs)] 132 (0, 0))
  ev : W.heap[w.heap.size + 1]? = some (.cells #[.int .i64 v.id, .int .i64 v.room, .int .i64 v.author, .int .i64 v.kind, .int .i64 v.key, .int .i64 v.n, .string v.text, .slice q v.prev.length c, .int .i64 v.time] 114 (0, 0))
theorem IB.start (w : World) (E : Errs) (h : LE E w) (be bs : Nat) (v : Ev) (q : Option Addr) (c : Nat) : IB w E be bs v q c ((w.alloc (.cells #[.map (some be), .map (some bs)] 132)).alloc (.cells #[.int .i64 v.id, .int .i64 v.room, .int .i64 v.author, .int .i64 v.kind, .int .i64 v.key, .int .i64 v.n, .string v.text, .slice q v.prev.length c, .int .i64 v.time] 114)) :=
  have hb := ((Below.refl w.heap.size w).alloc (Nat.le_refl _) (.cells #[.map (some be), .map (some bs)] 132)).alloc (by simp) (.cells #[.int .i64 v.id, .int .i64 v.room, .int .i64 v.author, .int .i64 v.kind, .int .i64 v.key, .int .i64 v.n, .string v.text, .slice q v.prev.length c, .int .i64 v.time] 114)
  ⟨hb, h.kept hb, (Below.heap_alloc _ _ _ (by simp)).trans (MapKept.heap_alloc w _).1, by have := (MapKept.heap_alloc (w.alloc (.cells #[.map (some be), .map (some bs)] 132)) (.cells #[.int .i64 v.id, .int .i64 v.room, .int .i64 v.author, .int .i64 v.kind, .int .i64 v.key, .int .i64 v.n, .string v.text, .slice q v.prev.length c, .int .i64 v.time] 114)).1; simpa using this⟩
theorem IB.on {w : World} {E : Errs} {be bs : Nat} {v : Ev} {q : Option Addr} {c : Nat} {W W' : World} (h : IB w E be bs v q c W) (hb : Below W.heap.size W W') : IB w E be bs v q c W' :=
  ⟨h.below.trans (hb.mono h.below.size), h.er.kept hb, (hb.block _ (Array.getElem?_eq_some_iff.1 h.sc).1).trans h.sc, (hb.block _ (Array.getElem?_eq_some_iff.1 h.ev).1).trans h.ev⟩
theorem IB.drew {w : World} {E : Errs} {be bs : Nat} {v : Ev} {q : Option Addr} {c : Nat} {W : World} (h : IB w E be bs v q c W) : IB w E be bs v q c W.drew := h.on (Below.drew (Below.refl _ _))
theorem IB.lt {w : World} {E : Errs} {be bs : Nat} {v : Ev} {q : Option Addr} {c : Nat} {W : World} (h : IB w E be bs v q c W) : w.heap.size < W.heap.size ∧ w.heap.size + 1 < W.heap.size := ⟨(Array.getElem?_eq_some_iff.1 h.sc).1, (Array.getElem?_eq_some_iff.1 h.ev).1⟩
theorem IB.cells {w : World} {E : Errs} {be bs : Nat} {v : Ev} {q : Option Addr} {c : Nat} {W : World} (h : IB w E be bs v q c W) :
    (∀ k, W.cell? ⟨w.heap.size, k, none⟩ = #[.map (some be), .map (some bs)][k]?) ∧ (∀ k, W.cell? ⟨w.heap.size + 1, k, none⟩ = #[.int .i64 v.id, .int .i64 v.room, .int .i64 v.author, .int .i64 v.kind, .int .i64 v.key, .int .i64 v.n, .string v.text, .slice q v.prev.length c, .int .i64 v.time][k]?) ∧
    W.cell? ⟨0, 0, none⟩ = some (.iface 321 (.pointer (some E.b))) ∧ W.cell? ⟨1, 0, none⟩ = some (.iface 321 (.pointer (some E.n))) ∧ W.cell? ⟨2, 0, none⟩ = some (.iface 321 (.pointer (some E.x))) ∧ W.cell? ⟨3, 0, none⟩ = some (.iface 321 (.pointer (some E.d))) :=
  ⟨fun _ => cell_of_heap h.sc, fun _ => cell_of_heap h.ev, h.er.cb, h.er.cn, h.er.cx, h.er.cd⟩
def selfB (v : Ev) : Bool := v.kind == 2 && v.key == v.author
set_option maxHeartbeats 1000000 in
theorem ofItself_impl (v : Ev) (q : Option Addr) (c : Nat) (w : World) : Calls Tryz.prog 155 #[.agg #[.int .i64 v.id, .int .i64 v.room, .int .i64 v.author, .int .i64 v.kind, .int .i64 v.key, .int .i64 v.n, .string v.text, .slice q v.prev.length c, .int .i64 v.time]] w fun e w' => e = .returned (.bool (selfB v)) ∧ Below w.heap.size w w' := by
  have HB : Hid (∀ o, Below w.heap.size w (w.alloc o)) := fun o => (Below.refl _ _).alloc (Nat.le_refl _) o
  cases h1 : (v.kind == 2)
  · have HS : Hid (selfB v = false) := by unfold Hid selfB; rw [h1]; rfl
    go_enter Tryz.func155, Tryz.ntmps155
    go_wp2
    go_ret
    exact ⟨ret_bool HS.out.symm, HB.out _⟩
  · have HS : Hid (selfB v = (v.key == v.author)) := by unfold Hid selfB; rw [h1]; rfl
    go_enter Tryz.func155, Tryz.ntmps155
    go_wp2
    go_ret
    exact ⟨ret_bool HS.out.symm, HB.out _⟩
set_option maxHeartbeats 4000000 in
set_option maxRecDepth 100000 in
theorem isIn_impl (g : Gr) (xs : List En) (be bs : Nat) (u : Int) (hu : (Lit.int .i64 u).wf = true) (w : World) (h : ScAt w g xs be bs) (hs : Sc g xs) :
    Calls Tryz.prog 158 #[.agg #[.map (some be), .map (some bs)], .int .i64 u] w fun e w' => e = .returned (.bool (memR g.evs xs u == 1)) ∧ Below w.heap.size w w' := by
  have HB : Hid (∀ o, Below w.heap.size w (w.alloc o)) := fun o => (Below.refl _ _).alloc (Nat.le_refl _) o
  have HM := fun W (hW : Below w.heap.size w W) => member_impl g xs be bs u hu W (h.kept hW) hs
  clear h hs hu
  go_enter Tryz.func158, Tryz.ntmps158
  go_wp2_with (go_at_call 180; refine (HM _ (HB.out _)).mono ?_; rintro e w1 ⟨rfl, hb1⟩; have HW1 : Hid (Below w.heap.size w w1) := (HB.out _).trans (hb1.mono (by simp)); clear hb1)
  go_ret
  exact ⟨rfl, HW1.out⟩
theorem field_id (v : Ev) (q : Option Addr) (c : Nat) (W : World) : (Instr.field 114 (.agg #[.int .i64 v.id, .int .i64 v.room, .int .i64 v.author, .int .i64 v.kind, .int .i64 v.key, .int .i64 v.n, .string v.text, .slice q v.prev.length c, .int .i64 v.time]) 0).run Tryz.prog W = .ok (.int .i64 v.id) W := by kernel_rfl
set_option maxHeartbeats 4000000 in
set_option maxRecDepth 100000 in
theorem begun_impl (g : Gr) (xs : List En) (be bs : Nat) (w : World) (h : ScAt w g xs be bs) (hs : Sc g xs) :
    Calls Tryz.prog 157 #[.agg #[.map (some be), .map (some bs)]] w fun e w' => e = .returned (.bool (decide (0 < stAt xs 1 0))) ∧ Below w.heap.size w w' := by
  have HB : Hid (∀ o, Below w.heap.size w (w.alloc o)) := fun o => (Below.refl _ _).alloc (Nat.le_refl _) o
  have HO := fun W (hW : Below w.heap.size w W) => last_impl g xs be bs 1 0 (by decide) (by decide) W (h.kept hW) hs
  obtain ⟨v, HV⟩ : ∃ v, Hid (v = lastE g.evs xs 1 0) := ⟨lastE g.evs xs 1 0, (rfl : lastE g.evs xs 1 0 = _)⟩
  have HZ : Hid ((v.id != 0) = decide (0 < stAt xs 1 0)) := by
    unfold Hid
    have h1 := hs.id 1 0
    have h2 := hs.bound 1 0
    rw [HV.out, h1, Bool.eq_iff_iff]
    simp
    omega
  have hfd := field_id v
  clear h hs
  go_enter Tryz.func157, Tryz.ntmps157
  go_wp2_with (go_at_call 179; refine (HO _ (HB.out _)).mono ?_; rw [← HV.out]; rintro e w1 ⟨q, c, rfl, hb1⟩; have HW1 : Hid (Below w.heap.size w w1) := (HB.out _).trans (hb1.mono (by simp)); clear hb1)
  go_ret
  exact ⟨ret_bool HZ.out, HW1.out⟩
set_option maxHeartbeats 1000000 in
theorem asksNothing_impl (E : Errs) (be bs : Nat) (v : Ev) (q : Option Addr) (c : Nat) (w : World) : Calls Tryz.prog 159 #[.agg #[.map (some be), .map (some bs)], .agg #[.int .i64 v.id, .int .i64 v.room, .int .i64 v.author, .int .i64 v.kind, .int .i64 v.key, .int .i64 v.n, .string v.text, .slice q v.prev.length c, .int .i64 v.time]] w fun e w' => e = .returned (errV E 0) ∧ Below w.heap.size w w' := by
  have HB : Hid (∀ o1 o2, Below w.heap.size w ((w.alloc o1).alloc o2)) := fun o1 o2 => ((Below.refl _ _).alloc (Nat.le_refl _) _).alloc (by simp) _
  go_enter Tryz.func159, Tryz.ntmps159
  go_wp2
  go_ret
  exact ⟨ret_0 rfl, HB.out _ _⟩
end Go.Proofs.YteajcmkaoahbeaaGreatDoor
namespace Go.Proofs.YteajcmkaoahbeaaGreatDoor
open Go.RowKit

set_option maxHeartbeats 4000000 in
set_option maxRecDepth 100000 in
theorem isHeavy_impl (v : Ev) (q : Option Addr) (c : Nat) (w : World) : Calls Tryz.prog 119 #[.agg #[.int .i64 v.id, .int .i64 v.room, .int .i64 v.author, .int .i64 v.kind, .int .i64 v.key, .int .i64 v.n, .string v.text, .slice q v.prev.length c, .int .i64 v.time]] w fun e w' => e = .returned (.bool (heavyB v)) ∧ Below w.heap.size w w' := by
  have HB : Hid (∀ o, Below w.heap.size w (w.alloc o)) := fun o => (Below.refl _ _).alloc (Nat.le_refl _) o
  have HO := fun W => ofItself_impl v q c W
  obtain ⟨R, HR⟩ : ∃ R, Hid (R = heavyB v) := ⟨heavyB v, (rfl : heavyB v = _)⟩
  obtain ⟨s, HS⟩ : ∃ s, Hid (s = selfB v) := ⟨selfB v, (rfl : selfB v = _)⟩
  rw [← HR.out]
  rw [← HS.out] at HO
  cases k1 : (v.kind == 1)
  · cases k3 : (v.kind == 3)
    · cases k5 : (v.kind == 5)
      · cases k2 : (v.kind == 2)
        · go_enter Tryz.func119, Tryz.ntmps119
          go_wp2
          go_ret
          exact ⟨ret_bool (by rw [HR.out]; simp [heavyB, k1, k3, k5, k2]), HB.out _⟩
        · go_enter Tryz.func119, Tryz.ntmps119
          go_wp2_with fail
          refine (HO _).mono ?_
          rintro e w1 ⟨rfl, hb1⟩
          have HW : Hid (Below w.heap.size w w1) := (HB.out _).trans (hb1.mono (by simp))
          clear hb1 HO
          go_wp2
          go_ret
          exact ⟨ret_bool (by rw [HR.out, HS.out]; simp [heavyB, selfB, bne, k1, k3, k5, k2]), HW.out⟩
      · go_enter Tryz.func119, Tryz.ntmps119
        go_wp2
        go_ret
        exact ⟨ret_bool (by rw [HR.out]; simp [heavyB, k1, k3, k5]), HB.out _⟩
    · go_enter Tryz.func119, Tryz.ntmps119
      go_wp2
      go_ret
      exact ⟨ret_bool (by rw [HR.out]; simp [heavyB, k1, k3]), HB.out _⟩
  · go_enter Tryz.func119, Tryz.ntmps119
    go_wp2
    go_ret
    exact ⟨ret_bool (by rw [HR.out]; simp [heavyB, k1]), HB.out _⟩
/-- The event of an Id, with the place of its numbers. -/
def emI (es : List Em) (n : Int) : Em := (es.find? fun m => m.v.id == n).getD ⟨zeroEv, none, 0⟩
theorem emI_in {es : List Em} (hd : (idsOf es).Nodup) {m : Em} (hm : m ∈ es) : emI es m.v.id = m := by
  unfold emI
  cases c : es.find? fun x => x.v.id == m.v.id with
  | none =>
    rw [List.find?_eq_none] at c
    exact absurd (by simp) (c m hm)
  | some x =>
    have h1 := List.find?_some c
    exact em_same hd (List.mem_of_find?_eq_some c) hm (by simpa using h1)
theorem emI_v {es : List Em} (hd : (idsOf es).Nodup) {n : Int} (hn : n ∈ idsOf es) : (emI es n).v = evIn es n := by
  obtain ⟨m, hm, rfl⟩ := List.mem_map.1 hn
  rw [emI_in hd hm, evIn_some hd hm]
theorem look_emI {W : World} {b n : Nat} {es : List Em} (h : W.ownsMap Tryz.prog 2 heldR b n (putAll es)) (hd : (idsOf es).Nodup) {id : Int} (hin : id ∈ idsOf es) (hid : -9223372036854775808 ≤ id ∧ id ≤ 9223372036854775807) :
    (Instr.lookup 130 (.map (some b)) (.int .i64 id) false).run Tryz.prog W = .ok (.agg (emCells (emI es id)).toArray) W := by
  obtain ⟨m, hm, rfl⟩ := List.mem_map.1 hin
  obtain ⟨v, ps, hrun, hv⟩ := h.lookup (Maps.int_keyed (P := Tryz.prog) Tryz.underlying2) Tryz.underlying130 (zero_event W) (zd := .held zeroVal) (zp := []) rfl (Maps.keyOf_int_mk Tryz.underlying2 (WalkArith.wf_i64 hid))
  rcases at_fold_putAll m.v.id es (.map []) ⟨[], rfl⟩ with ⟨h1, _⟩ | ⟨m', hm', h1, h2⟩
  · exact absurd hin h1
  · have e : (putAll es).atKey (.int .i64 m.v.id) (.held zeroVal) = .held (emVal m') := h2 _
    rw [e] at hv
    have hvz : v = emVal m' := by
      simp only [heldR, Option.some.injEq, Prod.mk.injEq, DataW.held.injEq] at hv
      exact hv.1
    rw [hrun, hvz, em_same hd hm' hm h1, emI_in hd hm]
    rfl
end Go.Proofs.YteajcmkaoahbeaaGreatDoor
