/- What one state differs from another one by: plain functions. -/
import Derived.Test.YtjdkenopfnepaaaSuPlain
namespace Go.Proofs.Ytjdkenopfnepaaa

/-- A row put together, entry by entry, where something holds. -/
def putIf (c : En → Bool) (v : En → Int) (out : List En) (x : En) : List En := if c x = true then putE out ⟨x.kind, x.key, v x⟩ else out
def updIf (c : En → Bool) (v : En → Int) (f : Slots) (x : En) : Slots := if c x = true then upd f ⟨x.kind, x.key, v x⟩ (some (v x)) else f
theorem rowIs_putIf (c : En → Bool) (v : En → Int) : ∀ (xs : List En) {f : Slots} {zs : List En}, RowIs f zs → RowIs (xs.foldl (updIf c v) f) (xs.foldl (putIf c v) zs)
  | [], _, _, h => h
  | x :: xs, f, zs, h => by
    refine rowIs_putIf c v xs (f := updIf c v f x) (zs := putIf c v zs x) ?_
    unfold updIf putIf
    by_cases e : c x = true
    · rw [if_pos e, if_pos e]
      exact h.put ⟨x.kind, x.key, v x⟩
    · rw [if_neg e, if_neg e]
      exact h
theorem updIf_other {c : En → Bool} {v : En → Int} {f : Slots} {x : En} {k y : Int} (h : ¬ (x.kind = k ∧ x.key = y)) : updIf c v f x k y = f k y := by
  unfold updIf
  by_cases e : c x = true
  · rw [if_pos e]
    exact upd_other _ _ _ h
  · rw [if_neg e]
theorem updIf_same {c : En → Bool} {v : En → Int} {f : Slots} {x : En} : updIf c v f x x.kind x.key = if c x = true then some (v x) else f x.kind x.key := by
  unfold updIf
  by_cases e : c x = true
  · rw [if_pos e, if_pos e]
    exact upd_same f ⟨x.kind, x.key, v x⟩ _
  · rw [if_neg e, if_neg e]
theorem putIf_out {c : En → Bool} {v : En → Int} {k y : Int} : ∀ {xs : List En} {f : Slots}, (∀ x ∈ xs, ¬ (x.kind = k ∧ x.key = y)) → xs.foldl (updIf c v) f k y = f k y
  | [], _, _ => rfl
  | x :: xs, f, h => by
    rw [List.foldl_cons, putIf_out (fun u hu => h u (List.mem_cons_of_mem _ hu)), updIf_other (h x List.mem_cons_self)]
theorem putIf_in {c : En → Bool} {v : En → Int} : ∀ {xs : List En} {f : Slots} {x : En}, Rises xs → x ∈ xs → xs.foldl (updIf c v) f x.kind x.key = if c x = true then some (v x) else f x.kind x.key
  | u :: xs, f, x, hr, hx => by
    have hr' := List.pairwise_cons.1 hr
    rcases List.mem_cons.1 hx with rfl | hx
    · rw [List.foldl_cons, putIf_out (fun q hq => fun e => lessB_ne (hr'.1 q hq) ⟨e.1.symm, e.2.symm⟩), updIf_same]
    · rw [List.foldl_cons, putIf_in hr'.2 hx, updIf_other (lessB_ne (hr'.1 x hx))]
/-- What one state differs from another one by, kind and key by kind and key. -/
def diffF (f g : Slots) : Slots := fun k y => match g k y with
  | some v => if f k y = some v then none else some v
  | none => if (f k y).isSome = true then some 0 else none
def noneF : Slots := fun _ _ => none
def difC (a : List En) (x : En) : Bool := stAt a x.kind x.key != x.id
def difZ (b : List En) (x : En) : Bool := stAt b x.kind x.key == 0
def difE (a b : List En) : List En := a.foldl (putIf (difZ b) (fun _ => 0)) (b.foldl (putIf (difC a) (·.id)) [])
theorem stAt_look {xs : List En} (h : riseB xs = true) (k y : Int) : stAt xs k y = (lookS xs.reverse k y).getD 0 := (look_rev h k y).symm
theorem rowIs_none : RowIs noneF [] := ⟨List.Pairwise.nil, fun e => by simp [noneF]⟩
theorem rowIs_dif {a b : List En} (ha : riseB a = true) (hb : riseB b = true) (hnb : ∀ x ∈ b, x.id ≠ 0) : RowIs (diffF (lookS a.reverse) (lookS b.reverse)) (difE a b) := by
  have h := rowIs_putIf (difZ b) (fun _ => 0) a (rowIs_putIf (difC a) (·.id) b rowIs_none)
  have e : a.foldl (updIf (difZ b) (fun _ => 0)) (b.foldl (updIf (difC a) (·.id)) noneF) = diffF (lookS a.reverse) (lookS b.reverse) := by
    funext k y
    -- the first fold
    have h1 : b.foldl (updIf (difC a) (·.id)) noneF k y = match lookS b.reverse k y with | some v => (if lookS a.reverse k y = some v then none else some v) | none => none := by
      cases c : lookS b.reverse k y with
      | none => exact putIf_out fun x hx => lookS_none c x (by simpa using hx)
      | some v =>
        obtain ⟨x, hx, rfl, rfl, rfl⟩ := lookS_some c
        have hx' : x ∈ b := by simpa using hx
        rw [putIf_in (rises_of hb) hx']
        have hne := hnb x hx'
        have hc : difC a x = true ↔ ¬ lookS a.reverse x.kind x.key = some x.id := by
          unfold difC
          rw [stAt_look ha]
          cases c2 : lookS a.reverse x.kind x.key with
          | none => simp; exact fun e => hne e.symm
          | some u => simp
        by_cases e : lookS a.reverse x.kind x.key = some x.id
        · rw [if_neg (fun q => hc.1 q e)]
          simp [e, noneF]
        · rw [if_pos (hc.2 e)]
          simp [e]
    cases c : lookS a.reverse k y with
    | none =>
      rw [putIf_out fun x hx => lookS_none c x (by simpa using hx), h1]
      unfold diffF
      rw [c]
      cases lookS b.reverse k y <;> simp
    | some v =>
      obtain ⟨x, hx, rfl, rfl, rfl⟩ := lookS_some c
      have hx' : x ∈ a := by simpa using hx
      rw [putIf_in (rises_of ha) hx', h1]
      unfold diffF difZ
      rw [stAt_look hb, c]
      cases c2 : lookS b.reverse x.kind x.key with
      | none => simp
      | some u =>
        obtain ⟨z, hz, _, _, rfl⟩ := lookS_some c2
        have := hnb z (by simpa using hz)
        simp [this]
  rw [e] at h
  exact h
theorem putIf_length (c : En → Bool) (v : En → Int) : ∀ (xs zs : List En), (xs.foldl (putIf c v) zs).length ≤ zs.length + xs.length
  | [], _ => Nat.le_refl _
  | x :: xs, zs => by
    have h1 := putIf_length c v xs (putIf c v zs x)
    have h2 : (putIf c v zs x).length ≤ zs.length + 1 := by
      unfold putIf
      split
      · exact putE_length _ _
      · omega
    show (xs.foldl (putIf c v) (putIf c v zs x)).length ≤ zs.length + (xs.length + 1)
    omega
end Go.Proofs.Ytjdkenopfnepaaa
