/- What hinders an event, as plain functions; the two variables of the walks. What hinders an event of another one, on the specification's side. -/
import Derived.Test.YtdldblfopcbfeaaGreatDoorZRl2
import Derived.Deep.DeepCutAuto
import Derived.Deep.RegionHeld3
namespace Go.Proofs.YtdldblfopcbfeaaGreatDoor
open Go.RowKit

def ifE (b : Bool) : Int := if b = true then 11 else 0
/-- Of itself. -/
def ownE (es : List Em) (xs : List En) (v : Ev) (m : Int) : Int :=
  if (v.n == 1) = true then ifE (m == 3 || (!(m == 1 || m == 4) && !((lastE es xs 5 0).n == 1 || (lastE es xs 1 0).author == v.author)))
  else if (v.n == 2) = true then ifE (!(m == 1 || m == 4)) else 11
/-- Of another one: t is what it is, l its level, pl the author's. -/
def otherP (n t l pl : Int) : Int :=
  if (n == 4) = true then ifE (t == 1 || t == 3)
  else if (n == 2) = true then ifE (decide (pl < 50) || decide (pl ≤ l) || t == 0 || t == 2)
  else if (n == 3) = true then ifE (decide (pl < 50) || decide (pl ≤ l) || t == 3) else 11
def otherE (es : List Em) (xs : List En) (v : Ev) (pl : Int) : Int := otherP v.n (memR es xs v.key) (levR es xs v.key) pl
/-- What is arranged. -/
def mightE (n pl l : Int) (other : Bool) : Int := ifE (decide (pl < 50) || decide (pl < n) || (other && decide (pl ≤ l)))
def hideE (es : List Em) (v : Ev) (pl : Int) : Int := if v.key ∈ idsOf es then ifE (decide (pl < 50) && ((evIn es v.key).author != v.author)) else 6
/-- By kind, of one who is in. -/
def kindE (es : List Em) (xs : List En) (v : Ev) (pl : Int) : Int :=
  if (v.kind == 2) = true then otherE es xs v pl
  else if (v.kind == 3) = true then mightE v.n pl (levR es xs v.key) (v.key != v.author)
  else if (v.kind == 4) = true then ifE (decide (pl < 50))
  else if (v.kind == 5) = true then ifE (decide (pl < 50))
  else if (v.kind == 6) = true then ifE (decide (pl < 50))
  else if (v.kind == 8) = true then hideE es v pl
  else 0
def alwE (es : List Em) (xs : List En) (v : Ev) : Int :=
  if (v.kind == 1) = true then (if decide (0 < stAt xs 1 0) = true then 7 else 0)
  else if decide (0 < stAt xs 1 0) = true then
    (if (v.kind == 2 && v.key == v.author) = true then ownE es xs v (memR es xs v.author)
     else if (memR es xs v.author != 1) = true then 11 else kindE es xs v (levR es xs v.author))
  else 10
/-- The graph's and the event's variable, and all that lay before. -/
structure AB (w : World) (g : Gr) (a : Option Addr) (cap : Nat) (p : Option Addr) (cp : Nat) (v : Ev) (q : Option Addr) (c : Nat) (W : World) : Prop where
  below : Below w.heap.size w W
  gx : W.heap[w.heap.size]? = some (.cells #[.int .i64 g.room, .slice a g.evs.length cap, .slice p g.pk.length cp] 35 (0, 0))
  ev : W.heap[w.heap.size + 1]? = some (.cells #[.int .i64 v.id, .int .i64 v.room, .int .i64 v.author, .int .i64 v.kind, .int .i64 v.key, .int .i64 v.n, .string v.text, .slice q v.prev.length c, .int .i64 v.time] 39 (0, 0))
theorem AB.start (w : World) (g : Gr) (a : Option Addr) (cap : Nat) (p : Option Addr) (cp : Nat) (v : Ev) (q : Option Addr) (c : Nat) : AB w g a cap p cp v q c ((w.alloc (.cells #[.int .i64 g.room, .slice a g.evs.length cap, .slice p g.pk.length cp] 35)).alloc (.cells #[.int .i64 v.id, .int .i64 v.room, .int .i64 v.author, .int .i64 v.kind, .int .i64 v.key, .int .i64 v.n, .string v.text, .slice q v.prev.length c, .int .i64 v.time] 39)) :=
  ⟨((Below.refl _ _).alloc (Nat.le_refl _) _).alloc (by simp) _, (Below.heap_alloc _ _ _ (by simp)).trans (MapKept.heap_alloc w _).1, by have := (MapKept.heap_alloc (w.alloc (.cells #[.int .i64 g.room, .slice a g.evs.length cap, .slice p g.pk.length cp] 35)) (.cells #[.int .i64 v.id, .int .i64 v.room, .int .i64 v.author, .int .i64 v.kind, .int .i64 v.key, .int .i64 v.n, .string v.text, .slice q v.prev.length c, .int .i64 v.time] 39)).1; simpa using this⟩
theorem AB.on {w : World} {g : Gr} {a : Option Addr} {cap : Nat} {p : Option Addr} {cp : Nat} {v : Ev} {q : Option Addr} {c : Nat} {W W' : World} (h : AB w g a cap p cp v q c W) (hb : Below W.heap.size W W') : AB w g a cap p cp v q c W' :=
  ⟨h.below.trans (hb.mono h.below.size), (hb.block _ (Array.getElem?_eq_some_iff.1 h.gx).1).trans h.gx, (hb.block _ (Array.getElem?_eq_some_iff.1 h.ev).1).trans h.ev⟩
theorem AB.drew {w : World} {g : Gr} {a : Option Addr} {cap : Nat} {p : Option Addr} {cp : Nat} {v : Ev} {q : Option Addr} {c : Nat} {W : World} (h : AB w g a cap p cp v q c W) : AB w g a cap p cp v q c W.drew := h.on (Below.drew (Below.refl _ _))
theorem AB.cells {w : World} {g : Gr} {a : Option Addr} {cap : Nat} {p : Option Addr} {cp : Nat} {v : Ev} {q : Option Addr} {c : Nat} {W : World} (h : AB w g a cap p cp v q c W) :
    (∀ k, W.cell? ⟨w.heap.size, k, none⟩ = #[.int .i64 g.room, .slice a g.evs.length cap, .slice p g.pk.length cp][k]?) ∧ (∀ k, W.cell? ⟨w.heap.size + 1, k, none⟩ = #[.int .i64 v.id, .int .i64 v.room, .int .i64 v.author, .int .i64 v.kind, .int .i64 v.key, .int .i64 v.n, .string v.text, .slice q v.prev.length c, .int .i64 v.time][k]?) :=
  ⟨fun _ => cell_of_heap h.gx, fun _ => cell_of_heap h.ev⟩
set_option maxHeartbeats 1000000 in
theorem if_spec (b : Bool) (w : World) : Calls Tryz.prog 47 #[.bool b] w fun e w' => e = .returned (.int .i64 (ifE b)) ∧ w' = w := by
  cases b
  · go_enter Tryz.func47, Tryz.ntmps47
    go_wp2
    go_ret
    exact ⟨rfl, rfl⟩
  · go_enter Tryz.func47, Tryz.ntmps47
    go_wp2
    go_ret
    exact ⟨rfl, rfl⟩
end Go.Proofs.YtdldblfopcbfeaaGreatDoor
namespace Go.Proofs.YtdldblfopcbfeaaGreatDoor
open Go.RowKit

set_option maxHeartbeats 16000000 in
set_option maxRecDepth 100000 in
theorem other_spec (g : Gr) (xs : List En) (v : Ev) (q : Option Addr) (c : Nat) (a : Option Addr) (cap : Nat) (p : Option Addr) (cp : Nat) (s : Option Addr) (cs : Nat) (w : World) (h : RIn w g xs a s) (hs : Sc g xs) (pl : Int) :
    Calls Tryz.prog 46 #[.agg #[.int .i64 g.room, .slice a g.evs.length cap, .slice p g.pk.length cp], .slice s xs.length cs, .agg #[.int .i64 v.id, .int .i64 v.room, .int .i64 v.author, .int .i64 v.kind, .int .i64 v.key, .int .i64 v.n, .string v.text, .slice q v.prev.length c, .int .i64 v.time], .int .i64 pl] w fun e w' => e = .returned (.int .i64 (otherE g.evs xs v pl)) ∧ Below w.heap.size w w' := by
  have HA0 : Hid (AB w g a cap p cp v q c ((w.alloc (.cells #[.int .i64 g.room, .slice a g.evs.length cap, .slice p g.pk.length cp] 35)).alloc (.cells #[.int .i64 v.id, .int .i64 v.room, .int .i64 v.author, .int .i64 v.kind, .int .i64 v.key, .int .i64 v.n, .string v.text, .slice q v.prev.length c, .int .i64 v.time] 39))) := AB.start w g a cap p cp v q c
  have HM := fun W (hW : Below w.heap.size w W) => member05_spec g xs v.key a cap p cp s cs W (h.kept hW) hs
  have HL := fun W (hW : Below w.heap.size w W) => level05_spec g xs v.key a cap p cp s cs W (h.kept hW) hs
  obtain ⟨t, HT⟩ : ∃ u, Hid (u = memR g.evs xs v.key) := ⟨memR g.evs xs v.key, (rfl : memR g.evs xs v.key = _)⟩
  obtain ⟨l, HQ⟩ : ∃ u, Hid (u = levR g.evs xs v.key) := ⟨levR g.evs xs v.key, (rfl : levR g.evs xs v.key = _)⟩
  obtain ⟨R, HR⟩ : ∃ R, Hid (R = otherP v.n t l pl) := ⟨otherP v.n t l pl, (rfl : otherP v.n t l pl = _)⟩
  have HX : Hid (otherE g.evs xs v pl = R) := by unfold Hid otherE; rw [HR.out, HT.out, HQ.out]
  rw [HX.out]
  rw [← HT.out] at HM
  rw [← HQ.out] at HL
  clear h hs
  go_enter Tryz.func46, Tryz.ntmps46
  go_wp2
  go_cut [9, 10] (fun r1 r2 W => r1 = .int .i64 t ∧ r2 = .int .i64 l ∧ Hid (AB w g a cap p cp v q c W))
  case first =>
    go_region_held3 (fun W => (∀ k, W.cell? ⟨w.heap.size, k, none⟩ = #[.int .i64 g.room, .slice a g.evs.length cap, .slice p g.pk.length cp][k]?) ∧ (∀ k, W.cell? ⟨w.heap.size + 1, k, none⟩ = #[.int .i64 v.id, .int .i64 v.room, .int .i64 v.author, .int .i64 v.kind, .int .i64 v.key, .int .i64 v.n, .string v.text, .slice q v.prev.length c, .int .i64 v.time][k]?)) (first | exact AB.cells HA2.out | exact AB.cells HA1.out | exact AB.cells HA0.out.drew) (first
      | (go_at_call 43; refine (HM _ HA0.out.drew.below).mono ?_; rintro e w1 ⟨rfl, hb1⟩; have HA1 : Hid (AB w g a cap p cp v q c w1) := HA0.out.drew.on hb1; clear hb1)
      | (go_at_call 44; refine (HL _ HA1.out.below).mono ?_; rintro e w2 ⟨rfl, hb2⟩; have HA2 : Hid (AB w g a cap p cp v q c w2) := HA1.out.on hb2; clear hb2)
      | (go_at_call 44; refine (HL _ HA0.out.drew.below).mono ?_; rintro e w1 ⟨rfl, hb1⟩; have HA1 : Hid (AB w g a cap p cp v q c w1) := HA0.out.drew.on hb1; clear hb1)
      | (go_at_call 43; refine (HM _ HA1.out.below).mono ?_; rintro e w2 ⟨rfl, hb2⟩; have HA2 : Hid (AB w g a cap p cp v q c w2) := HA1.out.on hb2; clear hb2))
    all_goals
      go_wp2_with fail
      go_meet
      case rel => exact ⟨rfl, rfl, HA2⟩
  case rest =>
    clear HA0
    obtain ⟨rfl, rfl, HA⟩ := hcut
    obtain ⟨m1, m2⟩ := HA.out.cells
    cases hn4 : (v.n == 4)
    · cases hn2 : (v.n == 2)
      · cases hn3 : (v.n == 3)
        · go_wp2
          go_ret
          exact ⟨ret_int' (by rw [HR.out]; simp [otherP, hn4, hn2, hn3]), HA.out.below⟩
        · cases p5 : (decide (pl < 50))
          · cases pq : (decide (pl ≤ l))
            · cases t3 : (t == 3)
              · go_wp2_with (go_at_call 47; refine (if_spec _ _).mono ?_; rintro e w9 ⟨rfl, rfl⟩)
                go_ret
                exact ⟨ret_int' (by rw [HR.out]; simp [otherP, ifE, hn4, hn2, hn3, p5, pq, t3]), HA.out.below⟩
              · go_wp2_with (go_at_call 47; refine (if_spec _ _).mono ?_; rintro e w9 ⟨rfl, rfl⟩)
                go_ret
                exact ⟨ret_int' (by rw [HR.out]; simp [otherP, ifE, hn4, hn2, hn3, p5, pq, t3]), HA.out.below⟩
            · go_wp2_with (go_at_call 47; refine (if_spec _ _).mono ?_; rintro e w9 ⟨rfl, rfl⟩)
              go_ret
              exact ⟨ret_int' (by rw [HR.out]; simp [otherP, ifE, hn4, hn2, hn3, p5, pq]), HA.out.below⟩
          · go_wp2_with (go_at_call 47; refine (if_spec _ _).mono ?_; rintro e w9 ⟨rfl, rfl⟩)
            go_ret
            exact ⟨ret_int' (by rw [HR.out]; simp [otherP, ifE, hn4, hn2, hn3, p5]), HA.out.below⟩
      · cases p5 : (decide (pl < 50))
        · cases pq : (decide (pl ≤ l))
          · cases t0 : (t == 0)
            · cases t2 : (t == 2)
              · go_wp2_with (go_at_call 47; refine (if_spec _ _).mono ?_; rintro e w9 ⟨rfl, rfl⟩)
                go_ret
                exact ⟨ret_int' (by rw [HR.out]; simp [otherP, ifE, hn4, hn2, p5, pq, t0, t2]), HA.out.below⟩
              · go_wp2_with (go_at_call 47; refine (if_spec _ _).mono ?_; rintro e w9 ⟨rfl, rfl⟩)
                go_ret
                exact ⟨ret_int' (by rw [HR.out]; simp [otherP, ifE, hn4, hn2, p5, pq, t0, t2]), HA.out.below⟩
            · go_wp2_with (go_at_call 47; refine (if_spec _ _).mono ?_; rintro e w9 ⟨rfl, rfl⟩)
              go_ret
              exact ⟨ret_int' (by rw [HR.out]; simp [otherP, ifE, hn4, hn2, p5, pq, t0]), HA.out.below⟩
          · go_wp2_with (go_at_call 47; refine (if_spec _ _).mono ?_; rintro e w9 ⟨rfl, rfl⟩)
            go_ret
            exact ⟨ret_int' (by rw [HR.out]; simp [otherP, ifE, hn4, hn2, p5, pq]), HA.out.below⟩
        · go_wp2_with (go_at_call 47; refine (if_spec _ _).mono ?_; rintro e w9 ⟨rfl, rfl⟩)
          go_ret
          exact ⟨ret_int' (by rw [HR.out]; simp [otherP, ifE, hn4, hn2, p5]), HA.out.below⟩
    · cases t1 : (t == 1)
      · cases t3 : (t == 3)
        · go_wp2_with (go_at_call 47; refine (if_spec _ _).mono ?_; rintro e w9 ⟨rfl, rfl⟩)
          go_ret
          exact ⟨ret_int' (by rw [HR.out]; simp [otherP, ifE, hn4, t1, t3]), HA.out.below⟩
        · go_wp2_with (go_at_call 47; refine (if_spec _ _).mono ?_; rintro e w9 ⟨rfl, rfl⟩)
          go_ret
          exact ⟨ret_int' (by rw [HR.out]; simp [otherP, ifE, hn4, t1, t3]), HA.out.below⟩
      · go_wp2_with (go_at_call 47; refine (if_spec _ _).mono ?_; rintro e w9 ⟨rfl, rfl⟩)
        go_ret
        exact ⟨ret_int' (by rw [HR.out]; simp [otherP, ifE, hn4, t1]), HA.out.below⟩
end Go.Proofs.YtdldblfopcbfeaaGreatDoor
