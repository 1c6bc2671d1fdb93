/- What l03Add of the specification answers; its variables while it runs. -/
import Derived.Test.YtobkinocaomcmaaGreatZGpSPut
import Derived.Test.YtobkinocaomcmaaGreatZGpSCopy
import Derived.Test.YtobkinocaomcmaaGreatZGpImpl
namespace Go.Proofs.YtobkinocaomcmaaGreat
open Go.RowKit

set_option maxHeartbeats 1000000 in
set_option maxRecDepth 100000 in
theorem ill_spec (c : Int) (w : World) : Calls Tryz.prog 47 #[.int .i64 c] w fun e w' => e = .returned (.agg #[.int .i64 0, .slice none 0 0, .slice none 0 0, .slice none 0 0, .int .i64 c]) ∧ Below w.heap.size w w' := by
  go_enter Tryz.func47, Tryz.ntmps47
  go_wp2
  refine bodyPost_ret (v := .agg #[.int .i64 0, .slice none 0 0, .slice none 0 0, .slice none 0 0, .int .i64 c]) (by simp [results, Tryz.results47, go_sem]) rfl ⟨rfl, ?_⟩
  repeat refine Below.setCell ?_ (by simp) _
  exact (Below.refl _ _).alloc (Nat.le_refl _) _
def GSPost (g : Gr) (P : Int × List Ev × List Ev × List Int) (w : World) (e : Ending) (w' : World) : Prop :=
  Below w.heap.size w w' ∧ ((∃ c, (c == 0) = false ∧ P = (c, [], [], []) ∧ e = .returned (.agg #[.int .i64 0, .slice none 0 0, .slice none 0 0, .slice none 0 0, .int .i64 c])) ∨
    ∃ es ps ad a1 c1 a2 c2 a3 c3 r1 r2, P = (0, es, ps, ad) ∧ e = .returned (.agg #[.int .i64 g.room, .slice a1 r1.length c1, .slice a2 r2.length c2, .slice a3 ad.length c3, .int .i64 0]) ∧ vs r1 = es ∧ vs r2 = ps ∧ SOut w.heap.size w' (.slice a1 r1.length c1) r1 ∧ SOut w.heap.size w' (.slice a2 r2.length c2) r2 ∧ NumsOwn w' w.heap.size (.slice a3 ad.length c3) ad)
/-- The variables, once the answer is being made. -/
structure SA (w : World) (g : Gr) (x : Em) (B : Nat) (v1 v2 v3 : Value) (W : World) : Prop where
  below : Below w.heap.size w W
  ebox : W.heap[w.heap.size + 1]? = some (.cells #[.int .i64 x.v.id, .int .i64 x.v.room, .int .i64 x.v.author, .int .i64 x.v.kind, .int .i64 x.v.key, .int .i64 x.v.n, .string x.v.text, .slice x.p x.v.prev.length x.c, .int .i64 x.v.time] 37 (0, 0))
  rbox : W.heap[w.heap.size + 2]? = some (.cells #[.int .i64 0, .slice none 0 0, .slice none 0 0, .slice none 0 0, .int .i64 0] 34 (0, 0))
  out : W.heap[B]? = some (.cells #[.int .i64 g.room, v1, v2, v3, .int .i64 0] 34 (0, 0))
  lo : w.heap.size + 3 ≤ B
variable {w : World} {g : Gr} {x : Em} {B : Nat} {v1 v2 v3 : Value} {W W' : World}
theorem SA.lt (h : SA w g x B v1 v2 v3 W) : B < W.heap.size := (Array.getElem?_eq_some_iff.1 h.out).1
theorem SA.on (h : SA w g x B v1 v2 v3 W) (hb : Below W.heap.size W W') : SA w g x B v1 v2 v3 W' := by
  have := h.lt
  have := h.lo
  exact ⟨h.below.trans (hb.mono h.below.size), (hb.block _ (by omega)).trans h.ebox, (hb.block _ (by omega)).trans h.rbox, (hb.block _ h.lt).trans h.out, h.lo⟩
/-- Behind an append into a row of one's own. -/
theorem SA.app (h : SA w g x B v1 v2 v3 W) {base : Nat} {v : Value} {zs : List Int} (ho : NumsOwn W base v zs) (hbase : base = w.heap.size) (hg : W.grownBy W' v.ownBlock) : SA w g x B v1 v2 v3 W' := by
  subst hbase
  have hlt := h.lt
  have hlo := h.lo
  have far : ∀ (k : Nat) (C : Array Value) (T : TypeId), W.heap[k]? = some (Obj.cells C T (0, 0)) → T ≠ 2 → W'.heap[k]? = W.heap[k]? := fun k C T hk hT => by
    refine hg.block k (Array.getElem?_eq_some_iff.1 hk).1 fun e => ?_
    rcases ho.2 with ⟨h1, _⟩ | ⟨q, cap, cur, h1, _, h3, _⟩
    · rw [h1] at e
      cases e
    · rw [h1] at e
      have e2 : k = q := by simpa [Value.ownBlock] using e
      subst e2
      rw [hk] at h3
      simp only [Option.some.injEq, Obj.cells.injEq] at h3
      exact hT h3.2.1
  exact ⟨h.below.trans (ho.below hg h.below.size), (far _ _ _ h.ebox (by decide)).trans h.ebox, (far _ _ _ h.rbox (by decide)).trans h.rbox, (far _ _ _ h.out (by decide)).trans h.out, h.lo⟩
theorem SA.put (h : SA w g x B v1 v2 v3 W) {k : Nat} (hk : k = 1 ∨ k = 2 ∨ k = 3) (u : Value) : SA w g x B (if k = 1 then u else v1) (if k = 2 then u else v2) (if k = 3 then u else v3) (W.setCell ⟨B, k, none⟩ u) := by
  have hlo := h.lo
  have st : ∀ q, q ≠ B → (W.setCell ⟨B, k, none⟩ u).heap[q]? = W.heap[q]? := fun q hq => Below.heap_setCell _ _ _ _ hq
  refine ⟨h.below.setCell (by simp; omega) _, (st _ (by omega)).trans h.ebox, (st _ (by omega)).trans h.rbox, ?_, h.lo⟩
  rw [heap_set h.out]
  rcases hk with rfl | rfl | rfl <;> rfl
theorem SA.put1 (h : SA w g x B v1 v2 v3 W) (u : Value) : SA w g x B u v2 v3 (W.setCell ⟨B, 1, none⟩ u) := h.put (.inl rfl) u
theorem SA.put2 (h : SA w g x B v1 v2 v3 W) (u : Value) : SA w g x B v1 u v3 (W.setCell ⟨B, 2, none⟩ u) := h.put (.inr (.inl rfl)) u
theorem SA.put3 (h : SA w g x B v1 v2 v3 W) (u : Value) : SA w g x B v1 v2 u (W.setCell ⟨B, 3, none⟩ u) := h.put (.inr (.inr rfl)) u
theorem SOut.set5 {base b : Nat} {v : Value} {rs : List Em} {C : Array Value} (h : SOut base W v rs) (hB : W.heap[b]? = some (.cells C 34 (0, 0))) (c0 c1 c2 c3 c4 : Value) :
    SOut base (((((W.setCell ⟨b, 0, none⟩ c0).setCell ⟨b, 1, none⟩ c1).setCell ⟨b, 2, none⟩ c2).setCell ⟨b, 3, none⟩ c3).setCell ⟨b, 4, none⟩ c4) v rs :=
  ((((h.setX hB c0).setX (heap_set hB _) c1).setX (heap_set (heap_set hB _) _) c2).setX (heap_set (heap_set (heap_set hB _) _) _) c3).setX (heap_set (heap_set (heap_set (heap_set hB _) _) _) _) c4
theorem NumsOwn.set5 {base b : Nat} {v : Value} {rs : List Int} {C : Array Value} (h : NumsOwn W base v rs) (hB : W.heap[b]? = some (.cells C 34 (0, 0))) (c0 c1 c2 c3 c4 : Value) :
    NumsOwn (((((W.setCell ⟨b, 0, none⟩ c0).setCell ⟨b, 1, none⟩ c1).setCell ⟨b, 2, none⟩ c2).setCell ⟨b, 3, none⟩ c3).setCell ⟨b, 4, none⟩ c4) base v rs :=
  ((((h.setX hB c0).setX (heap_set hB _) c1).setX (heap_set (heap_set hB _) _) c2).setX (heap_set (heap_set (heap_set hB _) _) _) c3).setX (heap_set (heap_set (heap_set (heap_set hB _) _) _) _) c4
/-- What stands of the answer. -/
structure SR (base : Nat) (es ps : List Em) (ad : List Int) (v1 v2 v3 : Value) (W : World) : Prop where
  o1 : SOut base W v1 es
  o2 : SOut base W v2 ps
  o3 : NumsOwn W base v3 ad
  far : ∀ m, m ∈ es ∨ m ∈ ps → ∀ q, blkM m = some q → v3.ownBlock ≠ some q
  small : ∀ m, m ∈ es ∨ m ∈ ps → m.v.prev.length ≤ 1000
  el : es.length ≤ 60
  pl : ps.length ≤ 21
variable {base : Nat} {es ps : List Em} {ad : List Int}
theorem SR.on (h : SR base es ps ad v1 v2 v3 W) (hb : Below W.heap.size W W') : SR base es ps ad v1 v2 v3 W' := ⟨h.o1.kept hb, h.o2.kept hb, h.o3.kept hb, h.far, h.small, h.el, h.pl⟩
theorem SR.setX (h : SR base es ps ad v1 v2 v3 W) {o : Nat} {C : Array Value} (hB : W.heap[B]? = some (.cells C 34 (0, 0))) (u : Value) : SR base es ps ad v1 v2 v3 (W.setCell ⟨B, o, none⟩ u) := ⟨h.o1.setX hB u, h.o2.setX hB u, h.o3.setX hB u, h.far, h.small, h.el, h.pl⟩
theorem SR.rows (h : SR base es ps ad v1 v2 v3 W) {m : Em} (hm : m ∈ es ∨ m ∈ ps) : W.ownsRow base 2 1 (.slice m.p m.v.prev.length m.c) m.v.prev.length (nv m.v.prev) := by
  rcases hm with hm | hm
  · exact h.o1.2 m hm
  · exact h.o2.2 m hm
theorem SR.blk (h : SR base es ps ad v1 v2 v3 W) {m : Em} (hm : m ∈ es ∨ m ∈ ps) {q : Nat} (hq : blkM m = some q) : q < W.heap.size := (blk_in (h.rows hm) hq).2
theorem SR.lt3 (h : SR base es ps ad v1 v2 v3 W) {q : Nat} (hq : v3.ownBlock = some q) : q < W.heap.size := by
  rcases h.o3.2 with ⟨h1, _⟩ | ⟨g, cap, cur, h1, _, h3, _⟩
  · rw [h1] at hq
    cases hq
  · rw [h1] at hq
    have e2 : g = q := by simpa [Value.ownBlock] using hq
    subst e2
    exact (Array.getElem?_eq_some_iff.1 h3).1
/-- A row of its own grows by one number. -/
theorem SR.app {v3' : Value} {k : Int} (h : SR base es ps ad v1 v2 v3 W) (ho : NumsOwn W' base v3' (ad ++ [k])) (hg : W.grownBy W' v3.ownBlock) (hn : v3'.ownBlock = v3.ownBlock ∨ v3'.ownBlock = some W.heap.size) : SR base es ps (ad ++ [k]) v1 v2 v3' W' := by
  have nums : ∀ m, m ∈ es ∨ m ∈ ps → W'.ownsRow base 2 1 (.slice m.p m.v.prev.length m.c) m.v.prev.length (nv m.v.prev) := fun m hm => by
    refine rowI_grown (h.rows hm) hg fun q hq => h.far m hm q ?_
    unfold blkM
    cases hp : m.p with
    | none => rw [hp] at hq; cases hq
    | some p0 => rw [hp] at hq; simpa [Value.ownBlock] using hq
  have evs : ∀ v xs, EmsOwn W base v xs → EmsOwn W' base v xs := fun v xs ho1 => by
    refine ⟨ho1.1, ?_⟩
    rcases ho1.2 with h0 | ⟨g, cap, cur, h1, h2, h3, r⟩
    · exact .inl h0
    · refine .inr ⟨g, cap, cur, h1, h2, (hg.block g (Array.getElem?_eq_some_iff.1 h3).1 (fun e => ?_)).trans h3, r⟩
      rcases h.o3.2 with ⟨k1, _⟩ | ⟨q, cap2, cur2, k1, _, k3, _⟩
      · rw [k1] at e
        cases e
      · rw [k1] at e
        have e2 : g = q := by simpa [Value.ownBlock] using e
        subst e2
        rw [h3] at k3
        simp at k3
  refine ⟨⟨evs _ _ h.o1.1, fun m hm => nums m (.inl hm)⟩, ⟨evs _ _ h.o2.1, fun m hm => nums m (.inr hm)⟩, ho, fun m hm q hq => ?_, h.small, h.el, h.pl⟩
  rcases hn with hn | hn
  · rw [hn]
    exact h.far m hm q hq
  · rw [hn]
    have := h.blk hm hq
    intro e
    injection e with e
    omega
/-- An event more in Events. -/
theorem SR.put1 {v1' : Value} {m : Em} (h : SR base es ps ad v1 v2 v3 W) (ho : SOut base W' v1' (insE es m)) (hf : ∀ q, blkM m = some q → W.heap.size ≤ q) (hs : m.v.prev.length ≤ 1000) (hl : es.length < 60) (hb : Below W.heap.size W W') : SR base (insE es m) ps ad v1' v2 v3 W' := by
  have h2 := h.on hb
  refine ⟨ho, h2.o2, h2.o3, fun k hk q hq e => ?_, fun k hk => ?_, ?_, h.pl⟩
  · rcases hk with hk | hk
    · rcases mem_insE.1 hk with rfl | hk
      · have := hf q hq
        have := h.lt3 e
        omega
      · exact h.far k (.inl hk) q hq e
    · exact h.far k (.inr hk) q hq e
  · rcases hk with hk | hk
    · rcases mem_insE.1 hk with rfl | hk
      · exact hs
      · exact h.small k (.inl hk)
    · exact h.small k (.inr hk)
  · have := congrArg List.length (vs_insE es m)
    rw [vs_length, insV_length, vs_length] at this
    omega
/-- An event more in Parked. -/
theorem SR.put2 {v2' : Value} {m : Em} (h : SR base es ps ad v1 v2 v3 W) (ho : SOut base W' v2' (insE ps m)) (hf : ∀ q, blkM m = some q → W.heap.size ≤ q) (hs : m.v.prev.length ≤ 1000) (hl : ps.length < 21) (hb : Below W.heap.size W W') : SR base es (insE ps m) ad v1 v2' v3 W' := by
  have h2 := h.on hb
  refine ⟨h2.o1, ho, h2.o3, fun k hk q hq e => ?_, fun k hk => ?_, h.el, ?_⟩
  · rcases hk with hk | hk
    · exact h.far k (.inl hk) q hq e
    · rcases mem_insE.1 hk with rfl | hk
      · have := hf q hq
        have := h.lt3 e
        omega
      · exact h.far k (.inr hk) q hq e
  · rcases hk with hk | hk
    · exact h.small k (.inl hk)
    · rcases mem_insE.1 hk with rfl | hk
      · exact hs
      · exact h.small k (.inr hk)
  · have := congrArg List.length (vs_insE ps m)
    rw [vs_length, insV_length, vs_length] at this
    omega
theorem SOut.evs {a : Option Addr} {c : Nat} {rs : List Em} (h : SOut base W (.slice a rs.length c) rs) (hl : rs.length ≤ 1000) (hs : ∀ m ∈ rs, m.v.prev.length ≤ 1000) : EvsAt W a rs := by
  obtain ⟨a', c', e, _, h1, _⟩ := h.at (by omega) (fun m hm => Nat.le_trans (hs m hm) (by decide))
  injection e with e1
  rw [e1]
  exact h1
/-- The first number of Added. -/
theorem SR.first {k : Int} (h : SR base es ps [] v1 v2 (.slice none 0 0) W) (hb : base ≤ W.heap.size) : SR base es ps [k] v1 v2 (.slice (some ⟨W.heap.size, 0, none⟩) 1 1) (W.alloc (.cells #[.int .i64 k] 2)) := by
  have h2 := h.on ((Below.refl W.heap.size W).alloc (Nat.le_refl _) (.cells #[.int .i64 k] 2))
  refine ⟨h2.o1, h2.o2, ⟨rfl, .inr ⟨W.heap.size, 1, #[.int .i64 k], rfl, hb, (MapKept.heap_alloc W _).1, Nat.le_refl _, by unfold maxLen; omega, rfl, rfl⟩⟩, fun m hm q hq e => ?_, h.small, h.el, h.pl⟩
  have := h.blk hm hq
  have e2 : W.heap.size = q := by simpa [Value.ownBlock] using e
  omega
/-- Parked without some. -/
theorem SR.rest {v2' : Value} {ps' : List Em} (h : SR base es ps ad v1 v2 v3 W) (hb : Below W.heap.size W W') (ho : EmsOwn W' base v2' ps') (hs : ∀ m ∈ ps', m ∈ ps) (hl : ps'.length ≤ 21) : SR base es ps' ad v1 v2' v3 W' := by
  have h2 := h.on hb
  refine ⟨h2.o1, ⟨ho, fun m hm => h2.o2.2 m (hs m hm)⟩, h2.o3, fun m hm => ?_, fun m hm => ?_, h.el, hl⟩
  · rcases hm with hm | hm
    · exact h.far m (.inl hm)
    · exact h.far m (.inr (hs m hm))
  · rcases hm with hm | hm
    · exact h.small m (.inl hm)
    · exact h.small m (.inr (hs m hm))
/-- What is still to come. -/
def restV (n : Nat) (es ps : List Ev) (ad : List Int) : List Ev × List Ev × List Int :=
  match freeV es ps with
  | none => (es, ps, ad)
  | some k => match ps[k]? with
    | none => (es, ps, ad)
    | some y => takeV n y es ps ad
theorem takeV_rest (n : Nat) (e : Ev) (es ps : List Ev) (ad : List Int) : takeV (n + 1) e es ps ad = restV n (if es.length < 60 then insV es e else es) (woV ps e.id) (if es.length < 60 then ad ++ [e.id] else ad) := rfl
theorem restV_none {n : Nat} {es ps : List Ev} {ad : List Int} (h : freeV es ps = none) : restV n es ps ad = (es, ps, ad) := by
  unfold restV
  rw [h]
theorem restV_some {n k : Nat} {es ps : List Ev} {ad : List Int} (h : freeV es ps = some k) (hk : k < ps.length) : restV n es ps ad = takeV n ps[k] es ps ad := by
  unfold restV
  rw [h]
  simp only [List.getElem?_eq_getElem hk]
theorem SOut.cap {a : Option Addr} {c : Nat} {rs : List Em} (h : SOut base W (.slice a rs.length c) rs) : rs.length ≤ c := by
  rcases h.1.2 with ⟨h1, h0⟩ | ⟨g, cap, cur, h1, _, _, h4, _⟩
  · omega
  · injection h1 with _ _ e
    omega
/-- While they come in. -/
structure LI (w : World) (g : Gr) (x : Em) (B : Nat) (FIN : List Ev × List Ev × List Int) (es ps : List Em) (ad : List Int) (v1 v2 v3 : Value) (n : Nat) (W : World) : Prop where
  sa : SA w g x B v1 v2 v3 W
  sr : SR w.heap.size es ps ad v1 v2 v3 W
  ris : RisM ps
  fin : restV n (vs es) (vs ps) ad = FIN
  adl : ad.length ≤ es.length
end Go.Proofs.YtobkinocaomcmaaGreat
