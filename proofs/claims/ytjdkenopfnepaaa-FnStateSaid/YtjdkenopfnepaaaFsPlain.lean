/- Plain facts for the law on states. -/
import Derived.Test.YtjdkenopfnepaaaSuBack
import Derived.Test.YtjdkenopfnepaaaFsSt
import Derived.Test.YtjdkenopfnepaaaSt8
namespace Go.Proofs.Ytjdkenopfnepaaa

theorem sd_len (xs ys : List En) : (sdL xs ys).length ≤ xs.length + ys.length := by
  unfold sdL
  split
  · exact difE_length xs ys
  · simp
theorem sa_len (xs ds : List En) : (saL xs ds).length ≤ xs.length + ds.length := by
  unfold saL
  split
  · simp
  · split
    · exact chgs_length ds xs
    · simp
/-- An outcome that is right is a right state. -/
theorem sp_right {xs : List En} {x : En} (hl : xs.length ≤ 100) (h : spC xs x = 0) : rowE false (spL xs x) = true := by
  by_cases hr : rowE false xs = true ∧ entB false x = true
  · rw [(sp_ok (by omega) hr.1 hr.2).2]
    exact put_right hr.1 hr.2 (by omega)
  · rw [(sp_bad (by omega) hr).1] at h
    cases h
theorem sa_right {xs ds : List En} (hl : xs.length + ds.length ≤ 100) (h : saC xs ds = 0) : rowE false (saL xs ds) = true := by
  by_cases hr : rowE false xs = true ∧ rowE true ds = true
  · rw [(sa_ok (by omega) (by omega) hr.1 hr.2).2]
    exact apply_right hr.1 hr.2 (by omega)
  · rw [(sa_bad (by omega) (by omega) hr).1] at h
    cases h
theorem row_nz {b : List En} (h : rowE false b = true) : ∀ x ∈ b, x.id ≠ 0 := fun x hx => ent_nz ((rowE_parts h).2.2 x hx)
/-- There and back, in the law's words. -/
theorem sa_back {a b : List En} (hl : a.length + b.length ≤ 100) (ha : rowE false a = true) (hb : rowE false b = true) : saL a (sdL a b) = b := by
  rw [sd_ok ha hb]
  have h1 := dif_right ha hb (by omega)
  have h2 := difE_length a b
  rw [(sa_ok (by omega) (by omega) ha h1).2]
  exact dif_back (rowE_parts ha).2.1 (rowE_parts hb).2.1 (row_nz hb)
theorem sd_self {b : List En} (hb : rowE false b = true) : sdL b b = [] := by
  rw [sd_ok hb hb]
  exact dif_self (rowE_parts hb).2.1 (row_nz hb)
/-- What is put is there, and nothing else is turned. -/
theorem sp_at {xs : List En} {x : En} (hl : xs.length ≤ 100) (h : spC xs x = 0) : atE (spL xs x) x.kind x.key = x.id := by
  rw [atE_good (sp_right hl h)]
  by_cases hr : rowE false xs = true ∧ entB false x = true
  · rw [(sp_ok (by omega) hr.1 hr.2).2, put_at (rowE_parts hr.1).2.1]
    simp
  · rw [(sp_bad (by omega) hr).1] at h
    cases h
theorem sp_other {xs : List En} {x : En} (hl : xs.length ≤ 100) (h : spC xs x = 0) {k : Nat} (hk : k < xs.length) (hne : ¬ (xs[k].kind = x.kind ∧ xs[k].key = x.key)) : atE (spL xs x) xs[k].kind xs[k].key = xs[k].id := by
  rw [atE_good (sp_right hl h)]
  by_cases hr : rowE false xs = true ∧ entB false x = true
  · have h1 := (rowE_parts hr.1).2.1
    rw [(sp_ok (by omega) hr.1 hr.2).2, put_at h1, if_neg (fun c => hne ⟨c.1.symm, c.2.symm⟩), stAt_look h1, lookS_mem h1 (List.getElem_mem hk)]
    rfl
  · rw [(sp_bad (by omega) hr).1] at h
    cases h
end Go.Proofs.Ytjdkenopfnepaaa
