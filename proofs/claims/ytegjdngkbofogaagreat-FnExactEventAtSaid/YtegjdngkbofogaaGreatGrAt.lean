/- EventAt, of the specification and of the program. -/
import Derived.Test.YtegjdngkbofogaaGreatEvCopyS
import Derived.Test.YtegjdngkbofogaaGreatGrEvIn
import Derived.Test.YtegjdngkbofogaaGreatGrWalk
import Derived.Test.YtegjdngkbofogaaGreatGrChart
namespace Go.Proofs.YtegjdngkbofogaaGreat
open Go.RowKit

def evG (g : Gr) (id : Int) : Ev := if rightG g = true then evIn g.evs id else zeroEv
theorem evG_same {g h : Gr} (hr : g.room = h.room) (he : g.evs.map (·.v) = h.evs.map (·.v)) (hp : g.pk.map (·.v) = h.pk.map (·.v)) (id : Int) : evG g id = evG h id := by
  unfold evG evIn
  rw [rightG_same hr he hp, he]
/-- An event handed back: its numbers in a row of its own. -/
def EvPost (v : Ev) (w : World) (e : Ending) (w' : World) : Prop :=
  ∃ (a : Option Addr) (cap : Nat), e = .returned (.agg #[.int .i64 v.id, .int .i64 v.room, .int .i64 v.author, .int .i64 v.kind, .int .i64 v.key, .int .i64 v.n, .string v.text, .slice a v.prev.length cap, .int .i64 v.time]) ∧ w'.ownsRow w.heap.size 2 1 (.slice a v.prev.length cap) v.prev.length (nv v.prev) ∧ Below w.heap.size w w'
theorem evPost_zero {w w' : World} (hb : Below w.heap.size w w') : EvPost zeroEv w (.returned (.agg #[.int .i64 0, .int .i64 0, .int .i64 0, .int .i64 0, .int .i64 0, .int .i64 0, .string ⟨#[]⟩, .slice none 0 0, .int .i64 0])) w' :=
  ⟨none, 0, rfl, ⟨rfl, .inl ⟨rfl, rfl⟩⟩, hb⟩
theorem ownsRow_above {w : World} {base base' n : Nat} {e : TypeId} {v : Value} {xs : List Value} (h : w.ownsRow base e 1 v n xs) (hb : base' ≤ base) : w.ownsRow base' e 1 v n xs := owns_baseC h hb
set_option maxHeartbeats 4000000 in
set_option maxRecDepth 100000 in
theorem event_spec (g : Gr) (id : Int) (a : Option Addr) (cap : Nat) (p : Option Addr) (cp : Nat) (w : World) (h : EvsAt w a g.evs) (hd : (idsOf g.evs).Nodup) :
    Calls Tryz.prog 32 #[.agg #[.int .i64 g.room, .slice a g.evs.length cap, .slice p g.pk.length cp], .int .i64 id] w (EvPost (evIn g.evs id) w) := by
  have hl := h.len
  have HB : Hid (∀ o1 o2, Below w.heap.size w ((w.alloc o1).alloc o2)) := fun o1 o2 => ((Below.refl _ _).alloc (Nat.le_refl _) _).alloc (by simp) _
  have HE : Hid (∀ w', Below w.heap.size w w' → EvsAt w' a g.evs) := fun w' hb => h.kept hb
  clear h
  rcases atI_cases (idsOf g.evs) id with ⟨k, hk, hat, hkk⟩ | ⟨hat, hno⟩
  · have hlt : k < g.evs.length := by simpa [idsOf] using hk
    have hv : evIn g.evs id = g.evs[k].v := by
      have e : id = g.evs[k].v.id := by rw [← hkk]; simp [idsOf]
      rw [e]
      exact evIn_some hd (List.getElem_mem hlt)
    rw [hv]
    have HAT : Hid (atI (idsOf g.evs) id = k) := hat
    clear hk hat hkk hv
    have HE2 : Hid (EvsAt ((w.alloc (.cells #[.int .i64 g.room, .slice a g.evs.length cap, .slice p g.pk.length cp] 32)).alloc (.cells #[.int .i64 0, .int .i64 0, .int .i64 0, .int .i64 0, .int .i64 0, .int .i64 0, .string ⟨#[]⟩, .slice none 0 0, .int .i64 0] 28)) a g.evs) := HE.out _ (HB.out _ _)
    obtain ⟨b, off, ha, hbb, hcell⟩ := HE2.out.row (by omega)
    have hc0 : ((w.alloc (.cells #[.int .i64 g.room, .slice a g.evs.length cap, .slice p g.pk.length cp] 32)).alloc (.cells #[.int .i64 0, .int .i64 0, .int .i64 0, .int .i64 0, .int .i64 0, .int .i64 0, .string ⟨#[]⟩, .slice none 0 0, .int .i64 0] 28)).cell? ⟨b, off + k * 9, none⟩ = some (.int .i64 g.evs[k].v.id) := by
      have := hcell k hlt 0 (by omega)
      exact this
    have hc1 : ((w.alloc (.cells #[.int .i64 g.room, .slice a g.evs.length cap, .slice p g.pk.length cp] 32)).alloc (.cells #[.int .i64 0, .int .i64 0, .int .i64 0, .int .i64 0, .int .i64 0, .int .i64 0, .string ⟨#[]⟩, .slice none 0 0, .int .i64 0] 28)).cell? ⟨b, off + k * 9 + 1, none⟩ = some (.int .i64 g.evs[k].v.room) := by
      have := hcell k hlt 1 (by omega)
      rwa [← Nat.add_assoc] at this
    have hc2 : ((w.alloc (.cells #[.int .i64 g.room, .slice a g.evs.length cap, .slice p g.pk.length cp] 32)).alloc (.cells #[.int .i64 0, .int .i64 0, .int .i64 0, .int .i64 0, .int .i64 0, .int .i64 0, .string ⟨#[]⟩, .slice none 0 0, .int .i64 0] 28)).cell? ⟨b, off + k * 9 + 2, none⟩ = some (.int .i64 g.evs[k].v.author) := by
      have := hcell k hlt 2 (by omega)
      rwa [← Nat.add_assoc] at this
    have hc3 : ((w.alloc (.cells #[.int .i64 g.room, .slice a g.evs.length cap, .slice p g.pk.length cp] 32)).alloc (.cells #[.int .i64 0, .int .i64 0, .int .i64 0, .int .i64 0, .int .i64 0, .int .i64 0, .string ⟨#[]⟩, .slice none 0 0, .int .i64 0] 28)).cell? ⟨b, off + k * 9 + 3, none⟩ = some (.int .i64 g.evs[k].v.kind) := by
      have := hcell k hlt 3 (by omega)
      rwa [← Nat.add_assoc] at this
    have hc4 : ((w.alloc (.cells #[.int .i64 g.room, .slice a g.evs.length cap, .slice p g.pk.length cp] 32)).alloc (.cells #[.int .i64 0, .int .i64 0, .int .i64 0, .int .i64 0, .int .i64 0, .int .i64 0, .string ⟨#[]⟩, .slice none 0 0, .int .i64 0] 28)).cell? ⟨b, off + k * 9 + 4, none⟩ = some (.int .i64 g.evs[k].v.key) := by
      have := hcell k hlt 4 (by omega)
      rwa [← Nat.add_assoc] at this
    have hc5 : ((w.alloc (.cells #[.int .i64 g.room, .slice a g.evs.length cap, .slice p g.pk.length cp] 32)).alloc (.cells #[.int .i64 0, .int .i64 0, .int .i64 0, .int .i64 0, .int .i64 0, .int .i64 0, .string ⟨#[]⟩, .slice none 0 0, .int .i64 0] 28)).cell? ⟨b, off + k * 9 + 5, none⟩ = some (.int .i64 g.evs[k].v.n) := by
      have := hcell k hlt 5 (by omega)
      rwa [← Nat.add_assoc] at this
    have hc6 : ((w.alloc (.cells #[.int .i64 g.room, .slice a g.evs.length cap, .slice p g.pk.length cp] 32)).alloc (.cells #[.int .i64 0, .int .i64 0, .int .i64 0, .int .i64 0, .int .i64 0, .int .i64 0, .string ⟨#[]⟩, .slice none 0 0, .int .i64 0] 28)).cell? ⟨b, off + k * 9 + 6, none⟩ = some (.string g.evs[k].v.text) := by
      have := hcell k hlt 6 (by omega)
      rwa [← Nat.add_assoc] at this
    have hc7 : ((w.alloc (.cells #[.int .i64 g.room, .slice a g.evs.length cap, .slice p g.pk.length cp] 32)).alloc (.cells #[.int .i64 0, .int .i64 0, .int .i64 0, .int .i64 0, .int .i64 0, .int .i64 0, .string ⟨#[]⟩, .slice none 0 0, .int .i64 0] 28)).cell? ⟨b, off + k * 9 + 7, none⟩ = some (.slice g.evs[k].p g.evs[k].v.prev.length g.evs[k].c) := by
      have := hcell k hlt 7 (by omega)
      rwa [← Nat.add_assoc] at this
    have hc8 : ((w.alloc (.cells #[.int .i64 g.room, .slice a g.evs.length cap, .slice p g.pk.length cp] 32)).alloc (.cells #[.int .i64 0, .int .i64 0, .int .i64 0, .int .i64 0, .int .i64 0, .int .i64 0, .string ⟨#[]⟩, .slice none 0 0, .int .i64 0] 28)).cell? ⟨b, off + k * 9 + 8, none⟩ = some (.int .i64 g.evs[k].v.time) := by
      have := hcell k hlt 8 (by omega)
      rwa [← Nat.add_assoc] at this
    have HN : Hid (NumsAt ((w.alloc (.cells #[.int .i64 g.room, .slice a g.evs.length cap, .slice p g.pk.length cp] 32)).alloc (.cells #[.int .i64 0, .int .i64 0, .int .i64 0, .int .i64 0, .int .i64 0, .int .i64 0, .string ⟨#[]⟩, .slice none 0 0, .int .i64 0] 28)) g.evs[k].p g.evs[k].v.prev) := HE2.out.nums _ (List.getElem_mem hlt)
    have HA : Hid (a = some ⟨b, off, none⟩) := ha
    clear hcell
    subst ha
    go_enter Tryz.func32, Tryz.ntmps32
    go_wp2_with (first
      | (go_at_call 38; refine (at_spec g.evs id (some ⟨b, off, none⟩) cap _ HE2.out).mono ?_; rintro e w2 ⟨rfl, rfl⟩; rw [HAT.out])
      | (go_at_call 56; refine (copy_specC g.evs[k].v g.evs[k].p g.evs[k].c _ HN.out).mono ?_; rintro e w3 ⟨a3, cap3, rfl, ho3, hb3⟩; obtain ⟨hd3, hf3⟩ := bcell hb3; have HO3 : Hid (w3.ownsRow (w.heap.size + 2) 2 1 (.slice a3 g.evs[k].v.prev.length cap3) g.evs[k].v.prev.length (nv g.evs[k].v.prev) ∧ Below w.heap.size w w3) := ⟨by simpa using ho3, (HB.out _ _).trans (hb3.mono (by simp; omega))⟩; clear ho3 hb3))
    refine bodyPost_ret (v := .agg #[.int .i64 g.evs[k].v.id, .int .i64 g.evs[k].v.room, .int .i64 g.evs[k].v.author, .int .i64 g.evs[k].v.kind, .int .i64 g.evs[k].v.key, .int .i64 g.evs[k].v.n, .string g.evs[k].v.text, .slice a3 g.evs[k].v.prev.length cap3, .int .i64 g.evs[k].v.time]) (by simp [results, Tryz.results32, go_sem, hd3]) rfl ⟨a3, cap3, rfl, ?_, ?_⟩
    · refine owns_baseC (base := w.heap.size + 2) ?_ (by omega)
      repeat refine ownsRow_setCell_below ?_ (by simp) _
      exact HO3.out.1
    · repeat refine Below.setCell ?_ (by simp) _
      exact HO3.out.2
  · rw [evIn_none hno]
    have HE2 : Hid (EvsAt ((w.alloc (.cells #[.int .i64 g.room, .slice a g.evs.length cap, .slice p g.pk.length cp] 32)).alloc (.cells #[.int .i64 0, .int .i64 0, .int .i64 0, .int .i64 0, .int .i64 0, .int .i64 0, .string ⟨#[]⟩, .slice none 0 0, .int .i64 0] 28)) a g.evs) := HE.out _ (HB.out _ _)
    clear hno
    go_enter Tryz.func32, Tryz.ntmps32
    go_wp2_with (go_at_call 38; refine (at_spec g.evs id a cap _ HE2.out).mono ?_; rintro e w2 ⟨rfl, rfl⟩; rw [hat])
    refine bodyPost_ret (v := .agg #[.int .i64 0, .int .i64 0, .int .i64 0, .int .i64 0, .int .i64 0, .int .i64 0, .string ⟨#[]⟩, .slice none 0 0, .int .i64 0]) (by simp [results, Tryz.results32, go_sem]) rfl (evPost_zero (HB.out _ _))
end Go.Proofs.YtegjdngkbofogaaGreat
