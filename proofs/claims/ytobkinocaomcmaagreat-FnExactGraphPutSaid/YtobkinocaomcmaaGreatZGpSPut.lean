/- The specification's rows of events: of one's own, with numbers of their own. l03Put at rows of one's own; a store into a variable of another type; an append of a number, and where its answer lies. -/
import Derived.Test.YtobkinocaomcmaaGreatZGpPut
import Derived.Test.YtobkinocaomcmaaGreatZGpPlain
import Derived.Test.YtobkinocaomcmaaGreatZGpGraph
namespace Go.Proofs.YtobkinocaomcmaaGreat
open Go.RowKit

/-- A row of events of one's own, each with numbers of its own. -/
def SOut (base : Nat) (W : World) (v : Value) (rs : List Em) : Prop :=
  EmsOwn W base v rs ∧ ∀ m ∈ rs, W.ownsRow base 2 1 (.slice m.p m.v.prev.length m.c) m.v.prev.length (nv m.v.prev)
theorem owns_agree {w w' : World} {base size n : Nat} {e : TypeId} {v : Value} {xs : List Value} (h : w.ownsRow base e size v n xs) (ha : ∀ q, base ≤ q → q < w.heap.size → w'.heap[q]? = w.heap[q]?) : w'.ownsRow base e size v n xs := by
  refine ⟨h.1, ?_⟩
  rcases h.2 with h0 | ⟨g, cap, cur, h1, h2, h3, r⟩
  · exact .inl h0
  · exact .inr ⟨g, cap, cur, h1, h2, (ha g h2 (Array.getElem?_eq_some_iff.1 h3).1).trans h3, r⟩
theorem SOut.agree {base : Nat} {W W' : World} {v : Value} {rs : List Em} (h : SOut base W v rs) (ha : ∀ q, base ≤ q → q < W.heap.size → W'.heap[q]? = W.heap[q]?) : SOut base W' v rs :=
  ⟨owns_agree h.1 ha, fun m hm => owns_agree (h.2 m hm) ha⟩
theorem SOut.kept {base : Nat} {W W' : World} {v : Value} {rs : List Em} (h : SOut base W v rs) (hb : Below W.heap.size W W') : SOut base W' v rs := h.agree fun q _ hq => hb.block q hq
theorem SOut.set {base : Nat} {W : World} {v : Value} {rs : List Em} (h : SOut base W v rs) {b o : Nat} (hb : b < base) (u : Value) : SOut base (W.setCell ⟨b, o, none⟩ u) v rs := h.agree fun q hq _ => Below.heap_setCell _ _ _ _ (by simp; omega)
theorem SOut.low {base base2 : Nat} {W : World} {v : Value} {rs : List Em} (h : SOut base W v rs) (hb : base2 ≤ base) : SOut base2 W v rs := ⟨owns_baseC h.1 hb, fun m hm => owns_baseC (h.2 m hm) hb⟩
theorem SOut.nil (W : World) (base : Nat) : SOut base W (.slice none 0 0) [] := ⟨EmsOwn.nil _ _, fun _ hm => absurd hm (by simp)⟩
/-- One event more. -/
theorem SOut.more {base : Nat} {v v' : Value} {rs : List Em} {W W1 W2 W3 : World} {x : Ev} {a4 : Option Addr} {c4 : Nat} (h : SOut base W v rs) (hz : base ≤ W.heap.size)
    (hb1 : Below W.heap.size W W1) (ho : W1.ownsRow W.heap.size 2 1 (.slice a4 x.prev.length c4) x.prev.length (nv x.prev)) (hb2 : Below W1.heap.size W1 W2) (hown : EmsOwn W3 base v' (rs ++ [Em.mk x a4 c4])) (hg : W2.grownBy W3 v.ownBlock) :
    SOut base W3 v' (rs ++ [Em.mk x a4 c4]) ∧ Below base W W3 := by
  have h2 := (h.kept hb1).kept hb2
  have ho2 := rowI_kept ho hb2
  have hz2 : base ≤ W2.heap.size := Nat.le_trans hz (Nat.le_trans hb1.size hb2.size)
  refine ⟨⟨hown, fun m hm => ?_⟩, ((hb1.mono hz).trans (hb2.mono (Nat.le_trans hz hb1.size))).trans (h2.1.below hg hz2)⟩
  rcases List.mem_append.1 hm with hm | hm
  · exact rowI_grown (h2.2 m hm) hg fun g hgg => rowI_far h2.1 (h2.2 m hm) hgg
  · obtain rfl : m = Em.mk x a4 c4 := by simpa using hm
    exact rowI_grown (owns_baseC ho2 hz) hg fun g hgg => rowI_far h2.1 ho2 hgg
theorem SOut.at {base : Nat} {W : World} {v : Value} {rs : List Em} (h : SOut base W v rs) (hl : rs.length ≤ 1048576) (hp : ∀ m ∈ rs, m.v.prev.length ≤ 1048576) : ∃ a c, v = .slice a rs.length c ∧ rs.length ≤ c ∧ EvsAt W a rs ∧ ((a = none ∧ c = 0) ∨ ∃ g, a = some ⟨g, 0, none⟩ ∧ base ≤ g) := by
  obtain ⟨a, c, e, hle, h1, h2⟩ := h.1.at hl
  exact ⟨a, c, e, hle, h1.evs fun m hm => rowI_at (h.2 m hm) (hp m hm), h2⟩
theorem SOut.slice {base : Nat} {W : World} {v : Value} {rs : List Em} (h : SOut base W v rs) : ∃ a c, v = .slice a rs.length c := by
  rcases h.1.2 with ⟨h1, h2⟩ | ⟨q, cp, _, h1, _⟩
  · exact ⟨none, 0, by rw [h1, h2]⟩
  · exact ⟨_, _, h1⟩
/-- While a graph is copied: the three variables. -/
structure CO (w : World) (g : Gr) (a : Option Addr) (cap : Nat) (p : Option Addr) (cp : Nat) (W1 : World) (base : Nat) (c1 c2 : Value) (W : World) : Prop where
  below : Below w.heap.size w W
  gbox : W.heap[w.heap.size]? = some (.cells #[.int .i64 g.room, .slice a g.evs.length cap, .slice p g.pk.length cp] 32 (0, 0))
  rbox : W.heap[w.heap.size + 1]? = some (.cells #[.int .i64 0, .slice none 0 0, .slice none 0 0] 32 (0, 0))
  obox : W.heap[w.heap.size + 2]? = some (.cells #[.int .i64 g.room, c1, c2] 32 (0, 0))
  lo : w.heap.size + 3 ≤ base
  hi : base ≤ W.heap.size
  agree : ∀ q, w.heap.size + 3 ≤ q → q < base → W.heap[q]? = W1.heap[q]?
variable {w : World} {g : Gr} {a : Option Addr} {cap : Nat} {p : Option Addr} {cp : Nat} {W1 : World} {base : Nat} {c1 c2 : Value} {W W' : World}
theorem CO.on (h : CO w g a cap p cp W1 base c1 c2 W) (hb : Below base W W') : CO w g a cap p cp W1 base c1 c2 W' := by
  have := h.lo
  exact ⟨h.below.trans (hb.mono (by omega)), (hb.block _ (by omega)).trans h.gbox, (hb.block _ (by omega)).trans h.rbox, (hb.block _ (by omega)).trans h.obox, h.lo, Nat.le_trans h.hi hb.size, fun q h1 h2 => (hb.block q h2).trans (h.agree q h1 h2)⟩
theorem CO.put (h : CO w g a cap p cp W1 base c1 c2 W) {k : Nat} (hk : k = 1 ∨ k = 2) (u : Value) : CO w g a cap p cp W1 base (if k = 1 then u else c1) (if k = 2 then u else c2) (W.setCell ⟨w.heap.size + 2, k, none⟩ u) := by
  have st : ∀ q, q ≠ w.heap.size + 2 → (W.setCell ⟨w.heap.size + 2, k, none⟩ u).heap[q]? = W.heap[q]? := fun q hq => Below.heap_setCell _ _ _ _ hq
  refine ⟨h.below.setCell (by simp) _, (st _ (by omega)).trans h.gbox, (st _ (by omega)).trans h.rbox, ?_, h.lo, by simpa using h.hi, fun q h1 h2 => (st q (by omega)).trans (h.agree q h1 h2)⟩
  rw [heap_set h.obox]
  rcases hk with rfl | rfl <;> rfl
theorem CO.put1 (h : CO w g a cap p cp W1 base c1 c2 W) (u : Value) : CO w g a cap p cp W1 base u c2 (W.setCell ⟨w.heap.size + 2, 1, none⟩ u) := h.put (.inl rfl) u
theorem CO.put2 (h : CO w g a cap p cp W1 base c1 c2 W) (u : Value) : CO w g a cap p cp W1 base c1 u (W.setCell ⟨w.heap.size + 2, 2, none⟩ u) := h.put (.inr rfl) u
theorem vs_more {es rs : List Em} {k : Nat} (hk : k < es.length) (h : vs rs = vs (es.take k)) (a4 : Option Addr) (c4 : Nat) : vs (rs ++ [Em.mk es[k].v a4 c4]) = vs (es.take (k + 1)) := by
  unfold vs at h ⊢
  rw [List.map_append, h, List.take_succ_eq_append_getElem hk, List.map_append]
  rfl
end Go.Proofs.YtobkinocaomcmaaGreat
namespace Go.Proofs.YtobkinocaomcmaaGreat
open Go.RowKit

theorem owns_setX {w : World} {base size n : Nat} {e T : TypeId} {v u : Value} {xs : List Value} {B o : Nat} {C : Array Value} (h : w.ownsRow base e size v n xs) (hB : w.heap[B]? = some (.cells C T (0, 0))) (hT : T ≠ e) : (w.setCell ⟨B, o, none⟩ u).ownsRow base e size v n xs := by
  refine ⟨h.1, ?_⟩
  rcases h.2 with h0 | ⟨g, cap, cur, h1, h2, h3, r⟩
  · exact .inl h0
  · refine .inr ⟨g, cap, cur, h1, h2, (Below.heap_setCell _ _ _ _ (fun e => ?_)).trans h3, r⟩
    simp only at e
    subst e
    rw [hB] at h3
    simp only [Option.some.injEq, Obj.cells.injEq] at h3
    exact hT h3.2.1
theorem SOut.setX {base : Nat} {W : World} {v : Value} {rs : List Em} (h : SOut base W v rs) {B o : Nat} {C : Array Value} (hB : W.heap[B]? = some (.cells C 34 (0, 0))) (u : Value) : SOut base (W.setCell ⟨B, o, none⟩ u) v rs :=
  ⟨owns_setX h.1 hB (by decide), fun m hm => owns_setX (h.2 m hm) hB (by decide)⟩
theorem NumsOwn.setX {base : Nat} {W : World} {v : Value} {zs : List Int} (h : NumsOwn W base v zs) {B o : Nat} {C : Array Value} (hB : W.heap[B]? = some (.cells C 34 (0, 0))) (u : Value) : NumsOwn (W.setCell ⟨B, o, none⟩ u) base v zs := owns_setX h hB (by decide)
theorem blk_in {w : World} {base : Nat} {m : Em} (h : w.ownsRow base 2 1 (.slice m.p m.v.prev.length m.c) m.v.prev.length (nv m.v.prev)) {q : Nat} (hq : blkM m = some q) : base ≤ q ∧ q < w.heap.size := by
  unfold blkM at hq
  rcases h.2 with ⟨h1, _⟩ | ⟨g, cap, cur, h1, h2, h3, _⟩
  · injection h1 with h1
    rw [h1] at hq
    cases hq
  · injection h1 with h1
    rw [h1] at hq
    have : g = q := by simpa using hq
    subst this
    exact ⟨h2, (Array.getElem?_eq_some_iff.1 h3).1⟩
/-- An event put into a row of one's own. -/
theorem put03_S (base : Nat) (v : Value) (rs : List Em) (x : Em) (w : World) (h : SOut base w v rs) (hx : NumsAt w x.p x.v.prev) (hl : rs.length ≤ 900000) (hb : base ≤ w.heap.size) :
    Calls Tryz.prog 87 #[v, .agg #[.int .i64 x.v.id, .int .i64 x.v.room, .int .i64 x.v.author, .int .i64 x.v.kind, .int .i64 x.v.key, .int .i64 x.v.n, .string x.v.text, .slice x.p x.v.prev.length x.c, .int .i64 x.v.time]] w fun e w' => ∃ v' a6 c6, e = .returned v' ∧ SOut base w' v' (insE rs (Em.mk x.v a6 c6)) ∧ (∀ q, blkM (Em.mk x.v a6 c6) = some q → w.heap.size ≤ q) ∧ Below w.heap.size w w' := by
  obtain ⟨a, c, rfl, hle, hr, hac⟩ := h.1.at (by omega)
  have far : ∀ (w' : World) (a6 : Option Addr) (c6 : Nat), w'.ownsRow w.heap.size 2 1 (.slice a6 x.v.prev.length c6) x.v.prev.length (nv x.v.prev) → ∀ q, blkM (Em.mk x.v a6 c6) = some q → w.heap.size ≤ q := fun w' a6 c6 ho q hq => (blk_in (m := Em.mk x.v a6 c6) ho hq).1
  rcases hac with ⟨rfl, rfl⟩ | ⟨g, rfl, hg⟩
  · have h0 : rs = [] := List.eq_nil_of_length_eq_zero (by omega)
    subst h0
    refine (put03_nil x w hx).mono ?_
    rintro e w' ⟨v, a6, c6, rfl, h1, h2, h3⟩
    exact ⟨v, a6, c6, rfl, ⟨owns_baseC h1 hb, fun m hm => by
      have e : m = Em.mk x.v a6 c6 := by simpa [insE] using hm
      subst e
      exact owns_baseC h3 hb⟩, far w' a6 c6 h3, h2⟩
  · refine (put03_some rs x g c w hr hx hl hle).mono ?_
    rintro e w' ⟨v, a6, c6, rfl, h1, h2, h3⟩
    refine ⟨v, a6, c6, rfl, ⟨?_, fun m hm => ?_⟩, far w' a6 c6 h3, h2⟩
    · unfold insE
      rw [List.append_cons]
      exact owns_baseC h1 hb
    · rcases mem_insE.1 hm with rfl | hm
      · exact owns_baseC h3 hb
      · exact rowI_kept (h.2 m hm) h2
theorem append_block {w : World} (base : Nat) (t ty e : TypeId) (i : TypeInfo) (z : Value) (bytes : Nat) (ht : Tryz.prog.underlying t = some (.slice e)) (hi : Tryz.prog.info? e = some i) (hz : i.zero = some z)
    (hsize : i.size = 1) (hby : i.bytes = bytes) 
    (v : Value) (n : Nat) (xs : List Value) (hown : w.ownsRow base e 1 v n xs)
    (a : Addr) (c : Nat) (u : Value) (hnews : ∀ j u', [u][j]? = some u' → w.cell? (a.add j) = some u') (h1 : ∀ u' ∈ [u], u'.oneCell' = true)
    (h63 : n + 1 ≤ maxLen) (hbytes : (n + 1) * bytes ≤ 140737488355328) (v' : Value) (w' : World) (hr : (Builtin.append_ #[t, t] ty #[v, .slice (some a) 1 c]).run Tryz.prog w = .ok v' w') :
    v'.ownBlock = v.ownBlock ∨ v'.ownBlock = some w.heap.size := by
  subst hby
  have hsmall : n + 1 ≤ 9223372036854775807 := by simp only [maxLen] at h63; omega
  have hl : [u].length = 1 * i.size := by rw [hsize]; rfl
  rcases hown.2 with ⟨rfl, rfl⟩ | ⟨g, cap, cur, rfl, hbg, hg, hnc, hcm, hcs, htake⟩
  · have hr2 := run_append_nil (P := Tryz.prog) w t ty e i z ht hi hz a 1 c [u] hl hnews (by omega) (by omega) (by have hb := hbytes; simp only [Nat.zero_add] at hb; omega)
    rw [hr2] at hr
    injection hr with hr _
    subst hr
    exact .inr rfl
  · by_cases hroom : n + 1 ≤ cap
    · have hfit : n * i.size + [u].length ≤ cur.size := by rw [hl, hcs, hsize]; omega
      have hr2 := run_append_room (P := Tryz.prog) w t ty e i ht hi g n cap cur hg a 1 c [u] hl hnews h1 hroom hfit
      rw [hr2] at hr
      injection hr with hr _
      subst hr
      exact .inl rfl
    · have holds : ∀ j u', xs[j]? = some u' → w.cell? ((⟨g, 0, none⟩ : Addr).add j) = some u' := hown.cells (g := g) rfl
      have hr2 := run_append_grow (P := Tryz.prog) w t ty e i z ht hi hz ⟨g, 0, none⟩ n cap xs (by rw [hsize]; exact hown.1) holds a 1 c [u] hl hnews (by omega) (by omega) (growslice_fits (by omega) hbytes)
      rw [hr2] at hr
      injection hr with hr _
      subst hr
      exact .inr rfl
theorem wpList_append_intF {w : World} {ops : Array Oper} {rest : List Oper} {o : Oper} {a : Act} {Q : Exit → Act → World → Prop} (hgd : o.guard = none) (s x : Operand) (t : TypeId)
    (ho : o.op = .call { callee := .builtin .append, args := #[s, x], argTypes := #[t, t] })
    (base : Nat) (i : TypeInfo) (z : Value) (ht : Tryz.prog.underlying t = some (.slice 2)) (hi : Tryz.prog.info? 2 = some i) (hz : i.zero = some z)
    (hsize : i.size = 1) (hby : i.bytes = 8) (hzs : z.cells.size = 1)
    (v : Value) (zs : List Int) (hs : a.eval s = v) (hown : NumsOwn w base v zs)
    (b c : Nat) (k : Int) (hx : a.eval x = .slice (some ⟨b, 0, none⟩) 1 c) (hc : w.cell? ⟨b, 0, none⟩ = some (.int .i64 k)) (hl : zs.length ≤ 100000) (hbase : base ≤ w.heap.size)
    (h : ∀ v' w', NumsOwn w' base v' (zs ++ [k]) → w.grownBy w' v.ownBlock → (v'.ownBlock = v.ownBlock ∨ v'.ownBlock = some w.heap.size) → wpList Tryz.prog ops Q rest (a.put o.dst v') w') : wpList Tryz.prog ops Q (o :: rest) a w := by
  have hnews : ∀ j u', [Value.int .i64 k][j]? = some u' → w.cell? ((⟨b, 0, none⟩ : Addr).add j) = some u' := fun j u' hj => by
    obtain ⟨rfl, rfl⟩ : j = 0 ∧ .int .i64 k = u' := by
      rcases j with _ | j
      · exact ⟨rfl, by simpa using hj⟩
      · simp at hj
    rw [Addr.add_lit]
    exact hc
  have h1 : ∀ u' ∈ [Value.int .i64 k], u'.oneCell' = true := fun u' hu => by obtain rfl := List.mem_singleton.1 hu; rfl
  refine wpList_plain hgd fun K hK => ?_
  obtain ⟨v', w', hr, h2, h3, -⟩ := run_append_own (P := Tryz.prog) w base t o.type 2 i z 1 8 ht hi hz hsize hby hzs (by decide) v zs.length (nv zs) hown ⟨b, 0, none⟩ 1 c [.int .i64 k] rfl hnews h1 (by unfold maxLen; omega) (by omega) hbase
  have h4 := append_block base t o.type 2 i z 8 ht hi hz hsize hby v zs.length (nv zs) hown ⟨b, 0, none⟩ c (.int .i64 k) hnews h1 (by unfold maxLen; omega) (by omega) v' w' hr
  unfold Oper.wp
  simp [execOp, ho, resolve, invoke, builtin, hs, hx, hr, Result.andThen]
  exact hK _ _ (h v' w' (by unfold NumsOwn; simpa [nv] using h2) h3 h4)
end Go.Proofs.YtobkinocaomcmaaGreat
