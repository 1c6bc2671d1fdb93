/- Marks laid into an event's row of numbers; are they still there? -/
import Derived.Test.YtegjdngkbofogaaGreatEvTo
import Derived.LoopN
import Derived.Maps.AppendAt
namespace Go.Proofs.YtegjdngkbofogaaGreat
open Go.RowKit

def marks (k : Int) (n : Nat) : List Int := (List.range n).map fun (i : Nat) => k + (i : Int)
theorem marks_len (k : Int) (n : Nat) : (marks k n).length = n := by simp [marks]
theorem marks_succ (k : Int) (n : Nat) : marks k (n + 1) = marks k n ++ [k + (n : Int)] := by simp [marks, List.range_succ]
theorem marks_get (k : Int) (n j : Nat) (h : j < (marks k n).length) : (marks k n)[j] = k + (j : Int) := by simp [marks]
theorem nv_set (zs : List Int) (k : Int) (j : Nat) (h : j < zs.length) : (nv (marks k j ++ zs.drop j)).set j (.int .i64 (k + (j : Int))) = nv (marks k (j + 1) ++ zs.drop (j + 1)) := by
  have hl : (nv (marks k j)).length = j := by simp [nv, marks]
  have e : nv (marks k j ++ zs.drop j) = nv (marks k j) ++ nv (zs.drop j) := by simp [nv]
  rw [e, List.set_append_right _ _ (by omega), hl, Nat.sub_self, List.drop_eq_getElem_cons h, marks_succ]
  simp only [nv, List.map_append, List.map_cons, List.set_cons_zero, List.append_assoc, List.singleton_append]
theorem owns_put {w : World} {base g cap n j : Nat} {e : TypeId} {xs : List Value} (h : w.ownsRow base e 1 (.slice (some ⟨g, 0, none⟩) n cap) n xs) (v : Value) : (w.setCell ⟨g, j, none⟩ v).ownsRow base e 1 (.slice (some ⟨g, 0, none⟩) n cap) n (xs.set j v) := by
  refine ⟨by simpa using h.1, ?_⟩
  rcases h.2 with ⟨h1, _⟩ | ⟨g', cap', cur, h1, h2, h3, h4, h5, h6, h7⟩
  · cases h1
  · cases h1
    refine .inr ⟨g, cap, cur.setIfInBounds j v, rfl, h2, heap_set h3 v, h4, h5, by simpa using h6, ?_⟩
    rw [Array.toList_setIfInBounds, List.take_set, h7]
theorem grown_own {w : World} {g j : Nat} {W : World} (h : w.grownBy W (some g)) (v : Value) : w.grownBy (W.setCell ⟨g, j, none⟩ v) (some g) := h.trans (by
  exact ⟨rfl, rfl, rfl, by simp [World.setCell], fun k _ hk => Below.heap_setCell _ _ _ _ (fun e => hk (by simp [e]))⟩)

def MarkPost (base : Nat) (a : Option Addr) (n cap : Nat) (k : Int) (w : World) (e : Ending) (w' : World) : Prop :=
  e = .returned (.int .i64 (k + (n : Int))) ∧ w'.ownsRow base 2 1 (.slice a n cap) n (nv (marks k n)) ∧ w.grownBy w' (Value.ownBlock (.slice a n cap))
set_option maxHeartbeats 1000000 in
theorem mark_nums (base : Nat) (a : Option Addr) (cap : Nat) (k : Int) (zs : List Int) (w : World) (h : w.ownsRow base 2 1 (.slice a zs.length cap) zs.length (nv zs)) (hl : zs.length ≤ 4) (h0 : 0 ≤ k) (h1 : k ≤ 100) :
    Calls Tryz.prog 19 #[.slice a zs.length cap, .int .i64 k] w (MarkPost base a zs.length cap k w) := by
  rcases h.2 with ⟨hn, hz⟩ | ⟨g, cp, cur, hv, hbg, hh, hc⟩
  · obtain rfl : zs = [] := List.eq_nil_of_length_eq_zero hz
    simp only [Value.slice.injEq] at hn
    obtain ⟨rfl, _, rfl⟩ := hn
    show Calls _ _ #[.slice none 0 0, .int .i64 k] w (MarkPost base none 0 0 k w)
    have HO : Hid (w.ownsRow base 2 1 (.slice none 0 0) 0 (nv (marks k 0))) := World.ownsRow_nil _ _ _ _
    clear h hz
    go_enter Tryz.func19, Tryz.ntmps19
    go_wp2
    refine wp_loop_rounds 1 ?_
    rw [rounds_succ]
    go_wp2
    go_ret
    exact ⟨by simp, HO.out, World.grownBy.refl _ _⟩
  · cases hv
    have HO : Hid (w.ownsRow base 2 1 (.slice (some ⟨g, 0, none⟩) zs.length cap) zs.length (nv zs)) := h
    have HGL : Hid (g < w.heap.size) := (Array.getElem?_eq_some_iff.1 hh).1
    clear h hh hc hbg
    go_enter Tryz.func19, Tryz.ntmps19
    go_wp2
    go_loopw [1, 5] (fun kk i wr => ∃ j : Nat, j ≤ zs.length ∧ i = .int .i64 j ∧ kk = .int .i64 (k + (j : Int)) ∧ Hid (wr.ownsRow base 2 1 (.slice (some ⟨g, 0, none⟩) zs.length cap) zs.length (nv (marks k j ++ zs.drop j))) ∧ Hid (w.grownBy wr (some g))) (fun _ i _ => zs.length - (intOf i).toNat)
    case atStart => exact ⟨0, Nat.zero_le _, rfl, by simp, HO, World.grownBy.refl _ _⟩
    case round =>
      obtain ⟨j, hj, rfl, rfl, OW, HG⟩ := hrel
      by_cases hlt : j < zs.length
      · have hcell : ∃ u, wr.cell? ⟨g, j, none⟩ = some u := by
          have hx : j < (nv (marks k j ++ zs.drop j)).length := by simp [nv, marks]; omega
          have := OW.out.cells (g := g) rfl j _ (List.getElem?_eq_getElem hx)
          rw [Addr.add_lit, Nat.zero_add] at this
          exact ⟨_, this⟩
        obtain ⟨u, hu⟩ := hcell
        have hf : wr.frozen? ⟨g, j, none⟩ = false := by
          rcases OW.out.2 with ⟨h1, _⟩ | ⟨g', _, _, h1, _, h3, _⟩
          · cases h1
          · cases h1; exact frozen_of_heap h3
        have HN : Hid ((nv (marks k j ++ zs.drop j)).set j (.int .i64 (k + (j : Int))) = nv (marks k (j + 1) ++ zs.drop (j + 1))) := nv_set zs k j hlt
        go_wp2
        have OW2 : Hid ((wr.setCell ⟨g, j, none⟩ (.int .i64 (k + (j : Int)))).ownsRow base 2 1 (.slice (some ⟨g, 0, none⟩) zs.length cap) zs.length (nv (marks k (j + 1) ++ zs.drop (j + 1)))) := by unfold Hid; rw [← HN.out]; exact owns_put OW.out _
        go_roundw
        case rel => exact ⟨j + 1, by omega, by go_num, by go_num, OW2, grown_own HG.out _⟩
        case measure => simp [intOf]; omega
      · obtain rfl : j = zs.length := by omega
        have HE : Hid (marks k zs.length ++ zs.drop zs.length = marks k zs.length) := by unfold Hid; simp
        go_wp2
        go_ret
        exact ⟨rfl, by have h := OW.out; rw [HE.out] at h; exact h, HG.out⟩
set_option maxHeartbeats 1000000 in
theorem held_nums (a : Option Addr) (n cap : Nat) (k : Int) (w : World) (h : NumsAt w a (marks k n)) (hl : n ≤ 4) (h0 : 0 ≤ k) (h1 : k ≤ 100) :
    Calls Tryz.prog 20 #[.slice a n cap, .int .i64 k] w fun e w' => e = .returned (.int .i64 (k + (n : Int))) ∧ w = w' := by
  have HN : Hid (NumsAt w a (marks k n)) := h
  clear h
  go_enter Tryz.func20, Tryz.ntmps20
  go_wp2
  go_loop [1, 5] (fun kk i => ∃ j : Nat, j ≤ n ∧ i = .int .i64 j ∧ kk = .int .i64 (k + (j : Int))) (fun _ i => n - (intOf i).toNat)
  case atStart => exact ⟨0, Nat.zero_le _, rfl, by simp⟩
  case round =>
    obtain ⟨j, hj, rfl, rfl⟩ := hrel
    by_cases hlt : j < n
    · obtain ⟨b, off, rfl, hbb, hcell⟩ := HN.out.2 (by rw [marks_len]; omega)
      have hck := hcell j (by rw [marks_len]; exact hlt)
      rw [marks_get] at hck
      clear hcell
      go_wp2
      go_round
      case rel => exact ⟨j + 1, by omega, by go_num, by go_num⟩
      case measure => simp [intOf]; omega
    · obtain rfl : j = n := by omega
      go_wp2
      go_ret
      exact ⟨rfl, rfl⟩
set_option maxHeartbeats 1000000 in
theorem mark_event (base : Nat) (v : Ev) (a : Option Addr) (cap : Nat) (k : Int) (w : World) (h : w.ownsRow base 2 1 (.slice a v.prev.length cap) v.prev.length (nv v.prev)) (hl : v.prev.length ≤ 4) (h0 : 0 ≤ k) (h1 : k ≤ 100) :
    Calls Tryz.prog 14 #[.agg #[.int .i64 v.id, .int .i64 v.room, .int .i64 v.author, .int .i64 v.kind, .int .i64 v.key, .int .i64 v.n, .string v.text, .slice a v.prev.length cap, .int .i64 v.time], .int .i64 k] w (MarkPost base a v.prev.length cap k w) := by
  have HO : Hid (w.ownsRow base 2 1 (.slice a v.prev.length cap) v.prev.length (nv v.prev)) := h
  clear h
  go_enter Tryz.func14, Tryz.ntmps14
  go_wp2_with fail
  refine (mark_nums base a cap k v.prev _ (HO.out.alloc _) hl h0 h1).mono ?_
  rintro e w1 ⟨rfl, ho1, hg1⟩
  have HP : Hid (w1.ownsRow base 2 1 (.slice a v.prev.length cap) v.prev.length (nv (marks k v.prev.length)) ∧ w.grownBy w1 (Value.ownBlock (.slice a v.prev.length cap))) := ⟨ho1, (World.grownBy_alloc w _ _).trans hg1⟩
  clear ho1 hg1
  go_wp2
  go_ret
  exact ⟨rfl, HP.out.1, HP.out.2⟩
set_option maxHeartbeats 1000000 in
theorem held_event (v : Ev) (a : Option Addr) (cap : Nat) (k : Int) (w : World) (h : NumsAt w a (marks k v.prev.length)) (hl : v.prev.length ≤ 4) (h0 : 0 ≤ k) (h1 : k ≤ 100) :
    Calls Tryz.prog 15 #[.agg #[.int .i64 v.id, .int .i64 v.room, .int .i64 v.author, .int .i64 v.kind, .int .i64 v.key, .int .i64 v.n, .string v.text, .slice a v.prev.length cap, .int .i64 v.time], .int .i64 k] w fun e w' => e = .returned (.int .i64 (k + (v.prev.length : Int))) ∧ Below w.heap.size w w' := by
  have HO : Hid (∀ w', Below w.heap.size w w' → NumsAt w' a (marks k v.prev.length)) := fun w' hb => h.kept hb
  have HA : Hid (∀ o, Below w.heap.size w (w.alloc o)) := fun o => (Below.refl _ _).alloc (Nat.le_refl _) _
  clear h
  go_enter Tryz.func15, Tryz.ntmps15
  go_wp2_with fail
  refine (held_nums a v.prev.length cap k _ (HO.out _ (HA.out _)) hl h0 h1).mono ?_
  rintro e w1 ⟨rfl, rfl⟩
  go_wp2
  go_ret
  exact ⟨rfl, HA.out _⟩
end Go.Proofs.YtegjdngkbofogaaGreat
