/- The event of an Id in a row. -/
import Derived.Test.YtdldblfopcbfeaaGreatDoorZGrPlaced
namespace Go.Proofs.YtdldblfopcbfeaaGreatDoor
open Go.RowKit

def zeroEv : Ev := ⟨0, 0, 0, 0, 0, 0, ⟨#[]⟩, [], 0⟩
/-- The event of an Id in a row. -/
def evIn (es : List Em) (id : Int) : Ev := match (es.map (·.v)).find? (fun v => v.id == id) with
  | some v => v
  | none => zeroEv
theorem evIn_none {es : List Em} {id : Int} (h : id ∉ idsOf es) : evIn es id = zeroEv := by
  have : (es.map (·.v)).find? (fun v => v.id == id) = none := by
    rw [List.find?_eq_none]
    intro v hv hb
    obtain ⟨m, hm, rfl⟩ := List.mem_map.1 hv
    exact h (List.mem_map.2 ⟨m, hm, by simpa using hb⟩)
  unfold evIn
  rw [this]
theorem evIn_some {es : List Em} (hd : (idsOf es).Nodup) {m : Em} (hm : m ∈ es) : evIn es m.v.id = m.v := by
  unfold evIn
  cases c : (es.map (·.v)).find? (fun v => v.id == m.v.id) with
  | none =>
    rw [List.find?_eq_none] at c
    exact absurd (by simp) (c m.v (List.mem_map.2 ⟨m, hm, rfl⟩))
  | some v =>
    obtain ⟨m', hm', rfl⟩ := List.mem_map.1 (List.mem_of_find?_eq_some c)
    have h1 := List.find?_some c
    rw [em_same hd hm' hm (by simpa using h1)]
end Go.Proofs.YtdldblfopcbfeaaGreatDoor
