/- What one state differs from another one by makes the other one of it: plain. -/
import Derived.Test.YtjdkenopfnepaaaSuDiff2
import Derived.Test.YtjdkenopfnepaaaSuApply2
namespace Go.Proofs.Ytjdkenopfnepaaa

theorem chg_out {k y : Int} : ∀ {ds : List En} {f : Slots}, (∀ x ∈ ds, ¬ (x.kind = k ∧ x.key = y)) → ds.foldl chgF f k y = f k y
  | [], _, _ => rfl
  | x :: ds, f, h => by
    rw [List.foldl_cons, chg_out fun q hq => h q (List.mem_cons_of_mem _ hq)]
    exact upd_other _ _ _ (h x List.mem_cons_self)
theorem chg_in : ∀ {ds : List En} {f : Slots} {x : En}, Rises ds → x ∈ ds → ds.foldl chgF f x.kind x.key = if x.id = 0 then none else some x.id
  | [], _, _, _, hx => absurd hx (by simp)
  | z :: ds, f, x, hr, hx => by
    have hr' := List.pairwise_cons.1 hr
    rcases List.mem_cons.1 hx with rfl | hx
    · rw [List.foldl_cons, chg_out (fun q hq => fun e => lessB_ne (hr'.1 q hq) ⟨e.1.symm, e.2.symm⟩)]
      exact upd_same _ _ _
    · rw [List.foldl_cons, chg_in hr'.2 hx]
theorem chg_row {D f : Slots} {ds : List En} (h : RowIs D ds) (k y : Int) : ds.foldl chgF f k y = match D k y with | some v => (if v = 0 then none else some v) | none => f k y := by
  cases c : D k y with
  | none =>
    refine chg_out fun x hx e => ?_
    have := (h.mem x).1 hx
    rw [e.1, e.2, c] at this
    cases this
  | some v => exact chg_in (f := f) h.rises ((h.mem ⟨k, y, v⟩).2 c)
theorem look_ne {b : List En} (hnb : ∀ x ∈ b, x.id ≠ 0) {k y v : Int} (h : lookS b.reverse k y = some v) : v ≠ 0 := by
  obtain ⟨x, hx, _, _, rfl⟩ := lookS_some h
  exact hnb x (by simpa using hx)
/-- There and back. -/
theorem dif_back {a b : List En} (ha : riseB a = true) (hb : riseB b = true) (hnb : ∀ x ∈ b, x.id ≠ 0) : (difE a b).foldl chgE a = b := by
  have h := RowIs.chgs (ds := difE a b) (rowIs_of ha)
  have e : (difE a b).foldl chgF (lookS a.reverse) = lookS b.reverse := by
    funext k y
    refine (chg_row (rowIs_dif ha hb hnb) k y).trans ?_
    unfold diffF
    cases cb : lookS b.reverse k y with
    | some v =>
      have := look_ne hnb cb
      by_cases c : lookS a.reverse k y = some v <;> simp [c, this]
    | none =>
      cases ca : lookS a.reverse k y <;> simp
  rw [e] at h
  exact h.uniq (rowIs_of hb)
theorem dif_self {b : List En} (hb : riseB b = true) (hnb : ∀ x ∈ b, x.id ≠ 0) : difE b b = [] := by
  have h := rowIs_dif hb hb hnb
  have e : diffF (lookS b.reverse) (lookS b.reverse) = noneF := by
    funext k y
    unfold diffF noneF
    cases lookS b.reverse k y <;> simp
  rw [e] at h
  exact h.uniq rowIs_none
theorem rise_of_rises {xs : List En} (h : Rises xs) : riseB xs = true := riseB_yes fun j hj => by
  cases j with
  | zero => simp [riseAt]
  | succ j =>
    rw [riseAt_succ hj]
    exact List.pairwise_iff_getElem.1 h j (j + 1) (by omega) hj (by omega)
theorem RowIs.slots {f g : Slots} {xs : List En} (h : RowIs f xs) (h2 : RowIs g xs) : f = g := by
  funext k y
  have key : ∀ v, f k y = some v ↔ g k y = some v := fun v => ((h.mem ⟨k, y, v⟩).symm.trans (h2.mem ⟨k, y, v⟩))
  cases c : f k y with
  | some v => exact ((key v).1 c).symm
  | none =>
    cases c2 : g k y with
    | none => rfl
    | some v => rw [(key v).2 c2] at c; cases c
theorem rowE_parts {g : Bool} {xs : List En} (h : rowE g xs = true) : xs.length ≤ 400 ∧ riseB xs = true ∧ ∀ x ∈ xs, entB g x = true := by
  unfold rowE at h
  simp only [Bool.and_eq_true, decide_eq_true_eq, List.all_eq_true] at h
  exact ⟨h.1.1, h.1.2, h.2⟩
theorem rowE_make {g : Bool} {xs : List En} (h0 : xs.length ≤ 400) (h1 : Rises xs) (h2 : ∀ x ∈ xs, entB g x = true) : rowE g xs = true := by
  unfold rowE
  simp only [Bool.and_eq_true, decide_eq_true_eq, List.all_eq_true]
  exact ⟨⟨h0, rise_of_rises h1⟩, h2⟩
/-- What stands after a put. -/
theorem put_at {xs : List En} {x : En} (h : riseB xs = true) (k y : Int) : stAt (putE xs x) k y = if x.kind = k ∧ x.key = y then x.id else stAt xs k y := by
  have hp := (rowIs_of h).put x
  have hr := rise_of_rises hp.rises
  rw [stAt_look hr, (rowIs_of hr).slots hp, stAt_look h]
  unfold upd
  split <;> simp
theorem put_right {xs : List En} {x : En} (h : rowE false xs = true) (hx : entB false x = true) (hl : xs.length < 400) : rowE false (putE xs x) = true := by
  obtain ⟨_, h1, h2⟩ := rowE_parts h
  have hp := (rowIs_of h1).put x
  refine rowE_make (by have := putE_length xs x; omega) hp.rises fun e he => ?_
  rcases mem_insS.1 he with rfl | he
  · exact hx
  · exact h2 e (mem_woS.1 he).1
theorem chg_right {xs : List En} {x : En} (h : Rises xs ∧ ∀ e ∈ xs, entB false e = true) (hx : entB true x = true) : Rises (chgE xs x) ∧ ∀ e ∈ chgE xs x, entB false e = true := by
  unfold chgE
  split
  · exact ⟨h.1.filter _, fun e he => h.2 e (mem_woS.1 he).1⟩
  · rename_i h0
    refine ⟨insS_rises (h.1.filter _) (fun e he c => (mem_woS.1 he).2 ⟨c.1.symm, c.2.symm⟩), fun e he => ?_⟩
    rcases mem_insS.1 he with rfl | he
    · unfold entB at hx ⊢
      simpa [h0] using hx
    · exact h.2 e (mem_woS.1 he).1
theorem chgs_right : ∀ {ds xs : List En}, (Rises xs ∧ ∀ e ∈ xs, entB false e = true) → (∀ x ∈ ds, entB true x = true) → Rises (ds.foldl chgE xs) ∧ ∀ e ∈ ds.foldl chgE xs, entB false e = true
  | [], _, h, _ => h
  | x :: ds, xs, h, hd => by
    rw [List.foldl_cons]
    exact chgs_right (chg_right h (hd x List.mem_cons_self)) fun q hq => hd q (List.mem_cons_of_mem _ hq)
theorem apply_right {xs ds : List En} (h : rowE false xs = true) (hd : rowE true ds = true) (hl : xs.length + ds.length ≤ 400) : rowE false (ds.foldl chgE xs) = true := by
  obtain ⟨_, h1, h2⟩ := rowE_parts h
  have hc := chgs_right (ds := ds) ⟨rises_of h1, h2⟩ (rowE_parts hd).2.2
  exact rowE_make (Nat.le_trans (chgs_length ds xs) hl) hc.1 hc.2
theorem ent_nz {x : En} (h : entB false x = true) : x.id ≠ 0 := fun c => by
  unfold entB at h
  simp [c, isB] at h
theorem dif_right {a b : List En} (h : rowE false a = true) (h2 : rowE false b = true) (hl : a.length + b.length ≤ 400) : rowE true (difE a b) = true := by
  obtain ⟨_, ha, hea⟩ := rowE_parts h
  obtain ⟨_, hb, heb⟩ := rowE_parts h2
  have hr := rowIs_dif ha hb fun x hx => ent_nz (heb x hx)
  refine rowE_make (Nat.le_trans (difE_length a b) hl) hr.rises fun e he => ?_
  have hf := (hr.mem e).1 he
  unfold diffF at hf
  cases cb : lookS b.reverse e.kind e.key with
  | some v =>
    rw [cb] at hf
    obtain ⟨x, hx, e1, e2, e3⟩ := lookS_some cb
    have hv : v = e.id := by
      by_cases c : lookS a.reverse e.kind e.key = some v
      · simp [c] at hf
      · simpa [c] using hf
    have hx' := heb x (by simpa using hx)
    have : x = e := by
      cases x
      cases e
      simp_all
    rw [this] at hx'
    unfold entB at hx' ⊢
    simp at hx' ⊢
    exact ⟨hx'.1, .inl hx'.2⟩
  | none =>
    rw [cb] at hf
    cases ca : lookS a.reverse e.kind e.key with
    | none => simp [ca] at hf
    | some v =>
      obtain ⟨x, hx, e1, e2, e3⟩ := lookS_some ca
      have hx' := hea x (by simpa using hx)
      have h0 : e.id = 0 := by
        simp [ca] at hf
        exact hf.symm
      have hs : slotB e = slotB x := by
        unfold slotB
        rw [e1, e2]
      unfold entB at hx' ⊢
      simp at hx' ⊢
      exact ⟨by rw [hs]; exact hx'.1, .inr h0⟩
end Go.Proofs.Ytjdkenopfnepaaa
