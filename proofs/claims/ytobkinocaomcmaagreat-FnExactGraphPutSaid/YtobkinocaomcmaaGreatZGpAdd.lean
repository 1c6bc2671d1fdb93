/- What comes in with an event that is ready. What comes in with an event that is ready: walked. An event put into the program's stock. -/
import Derived.Test.YtobkinocaomcmaaGreatZGpStock
import Derived.Test.YtobkinocaomcmaaGreatZMsSet
import Derived.Deep.LoopGhost
namespace Go.Proofs.YtobkinocaomcmaaGreat
open Go.RowKit

theorem NumsAt.turn {w w' : World} {p : Option Addr} {zs : List Int} {b n : Nat} {D : DataW Value} (h : NumsAt w p zs) (hown : w.ownsMap Tryz.prog 2 heldR b n D) (hg : w.grownBy w' (some b)) : NumsAt w' p zs := by
  refine ⟨h.1, fun hp => ?_⟩
  obtain ⟨q, off, ha, hq, hc⟩ := h.2 hp
  have hne : q ≠ b := by
    rintro rfl
    have h0 := hc 0 hp
    obtain ⟨es, clock, hm, _⟩ := hown
    simp [World.cell?, hm] at h0
  refine ⟨q, off, ha, Nat.lt_of_lt_of_le hq hg.size, fun j hj => ?_⟩
  rw [World.cell?_of_block (a := ⟨q, off + j, none⟩) (hg.block q hq (by simpa using hne))]
  exact hc j hj
/-- What an event is to be like. -/
def OkM (m : Em) : Prop := IdIn m ∧ (∀ q ∈ m.v.prev, 1 ≤ q ∧ q ≤ 1000000) ∧ m.v.text.size ≤ 30 ∧ m.v.prev.length ≤ 4
theorem ESt.putE {w w' : World} {be bp ne np : Nat} {es ps : List Em} {x : Em} (h : ESt w be bp ne np es ps) (hne : be ≠ bp) (hx : OkM x) (hn : NumsAt w x.p x.v.prev) (hno : ∀ m ∈ es, m.v.id ≠ x.v.id) (hl : es.length < 60)
    (ho : w'.ownsMap Tryz.prog 2 heldR be (ne + 1) ((putAll es).put (.int .i64 x.v.id) (.held (emVal x)))) (hg : w.grownBy w' (some be)) : ESt w' be bp (ne + 1) np (insE es x) ps := by
  have hln : (insE es x).length = es.length + 1 := by rw [← vs_length, vs_insE, insV_length, vs_length]
  refine ⟨h.e.put hno ho, ⟨h.p.1.kept hg (by simpa using fun e => hne e.symm), h.p.2⟩, fun m hm => ?_, fun m hm => ?_, by omega, h.pl⟩
  · rcases hm with hm | hm
    · rcases mem_insE.1 hm with rfl | hm
      · exact hn.turn h.e.1 hg
      · exact (h.nums m (.inl hm)).turn h.e.1 hg
    · exact (h.nums m (.inr hm)).turn h.e.1 hg
  · rcases hm with hm | hm
    · rcases mem_insE.1 hm with rfl | hm
      · exact hx
      · exact h.ok m (.inl hm)
    · exact h.ok m (.inr hm)
theorem ESt.putP {w w' : World} {be bp ne np : Nat} {es ps : List Em} {x : Em} (h : ESt w be bp ne np es ps) (hne : be ≠ bp) (hx : OkM x) (hn : NumsAt w x.p x.v.prev) (hno : ∀ m ∈ ps, m.v.id ≠ x.v.id) (hl : ps.length < 20)
    (ho : w'.ownsMap Tryz.prog 2 heldR bp (np + 1) ((putAll ps).put (.int .i64 x.v.id) (.held (emVal x)))) (hg : w.grownBy w' (some bp)) : ESt w' be bp ne (np + 1) es (insE ps x) := by
  have hln : (insE ps x).length = ps.length + 1 := by rw [← vs_length, vs_insE, insV_length, vs_length]
  refine ⟨⟨h.e.1.kept hg (by simpa using hne), h.e.2⟩, h.p.put hno ho, fun m hm => ?_, fun m hm => ?_, h.el, by omega⟩
  · rcases hm with hm | hm
    · exact (h.nums m (.inl hm)).turn h.p.1 hg
    · rcases mem_insE.1 hm with rfl | hm
      · exact hn.turn h.p.1 hg
      · exact (h.nums m (.inr hm)).turn h.p.1 hg
  · rcases hm with hm | hm
    · exact h.ok m (.inl hm)
    · rcases mem_insE.1 hm with rfl | hm
      · exact hx
      · exact h.ok m (.inr hm)
theorem ESt.delP {w w' : World} {be bp ne np : Nat} {es ps : List Em} {id : Int} (h : ESt w be bp ne np es ps) (hne : be ≠ bp)
    (ho : w'.ownsMap Tryz.prog 2 heldR bp np ((putAll ps).del (.int .i64 id))) (hg : w.grownBy w' (some bp)) : ESt w' be bp ne np es (woE ps id) := by
  refine ⟨⟨h.e.1.kept hg (by simpa using hne), h.e.2⟩, h.p.del ho, fun m hm => ?_, fun m hm => ?_, h.el, Nat.le_trans (List.length_filter_le _ _) h.pl⟩
  · rcases hm with hm | hm
    · exact (h.nums m (.inl hm)).turn h.p.1 hg
    · exact (h.nums m (.inr (mem_woE.1 hm).1)).turn h.p.1 hg
  · rcases hm with hm | hm
    · exact h.ok m (.inl hm)
    · exact h.ok m (.inr (mem_woE.1 hm).1)
/-- Where an event's numbers lie. -/
def LowM (n : Nat) (m : Em) : Prop := 0 < m.v.prev.length → ∀ q off, m.p = some ⟨q, off, none⟩ → q < n
theorem lowM_of {w : World} {m : Em} (h : NumsAt w m.p m.v.prev) : LowM w.heap.size m := fun hp q off e => by
  obtain ⟨q', off', ha, hq, _⟩ := h.2 hp
  rw [ha] at e
  cases e
  exact hq
theorem NumsAt.low {w w' : World} {m : Em} {n k : Nat} (h : NumsAt w m.p m.v.prev) (hl : LowM n m) (hb : Below k w w') (hk : n ≤ k) : NumsAt w' m.p m.v.prev := by
  refine ⟨h.1, fun hp => ?_⟩
  obtain ⟨q, off, ha, hq, hc⟩ := h.2 hp
  have := hl hp q off ha
  exact ⟨q, off, ha, Nat.lt_of_lt_of_le hq hb.size, fun j hj => (World.cell?_of_block (a := ⟨q, off + j, none⟩) (hb.block q (by omega))).trans (hc j hj)⟩
theorem EMap.block {w w' : World} {b n : Nat} {es : List Em} (h : EMap w b n es) (hk : w'.heap[b]? = w.heap[b]?) : EMap w' b n es := by
  obtain ⟨⟨xs, clock, hb, F, hs, hD⟩, h2⟩ := h
  exact ⟨⟨xs, clock, hk.trans hb, F, hs, hD⟩, h2⟩
theorem ESt.low {w w' : World} {be bp ne np n k : Nat} {es ps : List Em} (h : ESt w be bp ne np es ps) (hl : ∀ m, m ∈ es ∨ m ∈ ps → LowM n m) (hb : Below k w w') (hk : n ≤ k) (h1 : be < k) (h2 : bp < k) : ESt w' be bp ne np es ps :=
  ⟨h.e.block (hb.block _ h1), h.p.block (hb.block _ h2), fun m hm => (h.nums m hm).low (hl m hm) hb hk, h.ok, h.el, h.pl⟩
/-- Of what lay there, two blocks alone have turned. -/
structure Two (be bp : Nat) (w w' : World) : Prop where
  os : w'.os = w.os
  tape : w'.tape = w.tape
  output : w'.output = w.output
  size : w.heap.size ≤ w'.heap.size
  block : ∀ k, k < w.heap.size → k ≠ be → k ≠ bp → w'.heap[k]? = w.heap[k]?
theorem Two.of {be bp : Nat} {w w' : World} (h : Below w.heap.size w w') : Two be bp w w' := ⟨h.os, h.tape, h.output, h.size, fun k hk _ _ => h.block k hk⟩
theorem Two.below {be bp n : Nat} {w W W' : World} (h : Two be bp w W) (hb : Below n W W') (hn : w.heap.size ≤ n) : Two be bp w W' :=
  ⟨hb.os.trans h.os, hb.tape.trans h.tape, hb.output.trans h.output, Nat.le_trans h.size hb.size, fun k hk h1 h2 => (hb.block k (by omega)).trans (h.block k hk h1 h2)⟩
theorem Two.grown {be bp b : Nat} {w W W' : World} (h : Two be bp w W) (hg : W.grownBy W' (some b)) (hb : b = be ∨ b = bp) : Two be bp w W' :=
  ⟨hg.os.trans h.os, hg.tape.trans h.tape, hg.output.trans h.output, Nat.le_trans h.size hg.size, fun k hk h1 h2 => (hg.block k (Nat.lt_of_lt_of_le hk h.size) (by simp; omega)).trans (h.block k hk h1 h2)⟩
theorem Two.trans {be bp : Nat} {w W W' : World} (h : Two be bp w W) (k : Two be bp W W') : Two be bp w W' :=
  ⟨k.os.trans h.os, k.tape.trans h.tape, k.output.trans h.output, Nat.le_trans h.size k.size, fun q hq h1 h2 => (k.block q (Nat.lt_of_lt_of_le hq h.size) h1 h2).trans (h.block q hq h1 h2)⟩
theorem Two.toBelow {be bp base : Nat} {w W : World} (h : Two be bp w W) (h1 : base ≤ be) (h2 : base ≤ bp) (hb : base ≤ w.heap.size) : Below base w W :=
  ⟨h.os, h.tape, h.output, h.size, fun k hk => h.block k (by omega) (by omega) (by omega)⟩
/-- While events come in: the stock's variable, the event's, and the row of what came. -/
structure TK (w : World) (base be bp ne np : Nat) (es ps : List Em) (x : Em) (ad : List Int) (v : Value) (W : World) : Prop where
  below : Two be bp w W
  sbox : W.heap[w.heap.size]? = some (.cells #[.map (some be), .map (some bp)] 76 (0, 0))
  ebox : W.heap[w.heap.size + 1]? = some (.cells #[.int .i64 x.v.id, .int .i64 x.v.room, .int .i64 x.v.author, .int .i64 x.v.kind, .int .i64 x.v.key, .int .i64 x.v.n, .string x.v.text, .slice x.p x.v.prev.length x.c, .int .i64 x.v.time] 37 (0, 0))
  st : ESt W be bp ne np es ps
  own : NumsOwn W (w.heap.size + 2) v ad
  dis : ∀ m ∈ es, ∀ q ∈ ps, m.v.id ≠ q.v.id
  adl : ad.length ≤ es.length
  low : ∀ m, m ∈ es ∨ m ∈ ps → LowM w.heap.size m
  far : base ≤ be ∧ base ≤ bp ∧ be < w.heap.size ∧ bp < w.heap.size ∧ be ≠ bp ∧ base ≤ w.heap.size
theorem TK.on {w : World} {base be bp ne np : Nat} {es ps : List Em} {x : Em} {ad : List Int} {v : Value} {W W' : World} (h : TK w base be bp ne np es ps x ad v W) (hb : Below W.heap.size W W') : TK w base be bp ne np es ps x ad v W' := by
  obtain ⟨f1, f2, f3, f4, f5, f6⟩ := h.far
  exact ⟨h.below.below hb h.below.size, (hb.block _ (Array.getElem?_eq_some_iff.1 h.sbox).1).trans h.sbox, (hb.block _ (Array.getElem?_eq_some_iff.1 h.ebox).1).trans h.ebox, h.st.kept hb, h.own.kept hb, h.dis, h.adl, h.low, h.far⟩
theorem grown_belowG {w w' : World} {base b : Nat} (hg : w.grownBy w' (some b)) (hB : base ≤ b) (hb : base ≤ w.heap.size) : Below base w w' :=
  ⟨hg.os, hg.tape, hg.output, hg.size, fun k hk => hg.block k (by omega) (by simp; omega)⟩
theorem TK.keep {w : World} {base be bp ne np : Nat} {es ps : List Em} {x : Em} {ad : List Int} {v : Value} {W W' : World} {b : Nat} (h : TK w base be bp ne np es ps x ad v W) (hg : W.grownBy W' (some b)) (hb : b < w.heap.size) (hB : b = be ∨ b = bp) :
    Two be bp w W' ∧ W'.heap[w.heap.size]? = some (.cells #[.map (some be), .map (some bp)] 76 (0, 0)) ∧ W'.heap[w.heap.size + 1]? = some (.cells #[.int .i64 x.v.id, .int .i64 x.v.room, .int .i64 x.v.author, .int .i64 x.v.kind, .int .i64 x.v.key, .int .i64 x.v.n, .string x.v.text, .slice x.p x.v.prev.length x.c, .int .i64 x.v.time] 37 (0, 0)) ∧ NumsOwn W' (w.heap.size + 2) v ad := by
  obtain ⟨f1, f2, f3, f4, f5, f6⟩ := h.far
  refine ⟨h.below.grown hg hB, (hg.block _ (Array.getElem?_eq_some_iff.1 h.sbox).1 (by simp; omega)).trans h.sbox, (hg.block _ (Array.getElem?_eq_some_iff.1 h.ebox).1 (by simp; omega)).trans h.ebox, h.own.1, ?_⟩
  rcases h.own.2 with h0 | ⟨q, cap, cur, h1, h2, h3, r⟩
  · exact .inl h0
  · exact .inr ⟨q, cap, cur, h1, h2, (hg.block q (Array.getElem?_eq_some_iff.1 h3).1 (by simp; omega)).trans h3, r⟩
theorem TK.delP {w : World} {base be bp ne np : Nat} {es ps : List Em} {x : Em} {ad : List Int} {v : Value} {W W' : World} (h : TK w base be bp ne np es ps x ad v W) {id : Int}
    (ho : W'.ownsMap Tryz.prog 2 heldR bp np ((putAll ps).del (.int .i64 id))) (hg : W.grownBy W' (some bp)) : TK w base be bp ne np es (woE ps id) x ad v W' := by
  obtain ⟨f1, f2, f3, f4, f5, f6⟩ := h.far
  obtain ⟨k1, k2, k3, k4⟩ := h.keep hg f4 (.inr rfl)
  exact ⟨k1, k2, k3, h.st.delP f5 ho hg, k4, fun m hm q hq => h.dis m hm q (mem_woE.1 hq).1, h.adl, fun m hm => h.low m (hm.imp (fun c => c) fun c => (mem_woE.1 c).1), h.far⟩
theorem TK.putE {w : World} {base be bp ne np : Nat} {es ps : List Em} {x : Em} {ad : List Int} {v : Value} {W W' : World} (h : TK w base be bp ne np es ps x ad v W) (hx : OkM x) (hn : NumsAt W x.p x.v.prev) (hno : ∀ m ∈ es, m.v.id ≠ x.v.id) (hno2 : ∀ m ∈ ps, m.v.id ≠ x.v.id) (hl : es.length < 60) (hlow : LowM w.heap.size x)
    (ho : W'.ownsMap Tryz.prog 2 heldR be (ne + 1) ((putAll es).put (.int .i64 x.v.id) (.held (emVal x)))) (hg : W.grownBy W' (some be)) : TK w base be bp (ne + 1) np (insE es x) ps x ad v W' := by
  obtain ⟨f1, f2, f3, f4, f5, f6⟩ := h.far
  obtain ⟨k1, k2, k3, k4⟩ := h.keep hg f3 (.inl rfl)
  refine ⟨k1, k2, k3, h.st.putE f5 hx hn hno hl ho hg, k4, fun m hm q hq => ?_, by rw [← vs_length (insE es x), vs_insE, insV_length, vs_length]; exact Nat.le_succ_of_le h.adl, fun m hm => ?_, h.far⟩
  · rcases mem_insE.1 hm with rfl | hm
    · exact fun e => hno2 q hq e.symm
    · exact h.dis m hm q hq
  · rcases hm with hm | hm
    · rcases mem_insE.1 hm with rfl | hm
      · exact hlow
      · exact h.low m (.inl hm)
    · exact h.low m (.inr hm)
theorem TK.add {w : World} {base be bp ne np : Nat} {es ps : List Em} {x : Em} {ad : List Int} {v v' : Value} {n : Int} {W W' : World} (h : TK w base be bp ne np es ps x ad v W) (hb : Below (w.heap.size + 2) W W') (ho : NumsOwn W' (w.heap.size + 2) v' (ad ++ [n])) (hl : ad.length < es.length) : TK w base be bp ne np es ps x (ad ++ [n]) v' W' := by
  obtain ⟨f1, f2, f3, f4, f5, f6⟩ := h.far
  exact ⟨h.below.below hb (by omega), (hb.block _ (by omega)).trans h.sbox, (hb.block _ (by omega)).trans h.ebox, h.st.low h.low hb (by omega) (by omega) (by omega), ho, h.dis, by simp; omega, h.low, h.far⟩
end Go.Proofs.YtobkinocaomcmaaGreat
namespace Go.Proofs.YtobkinocaomcmaaGreat
open Go.RowKit

theorem vs_get {ps : List Em} {k : Nat} (hk : k < ps.length) : (vs ps)[k]'(by rw [vs_length]; exact hk) = ps[k].v := by simp [vs]
theorem woE_less {ps : List Em} {k : Nat} (hk : k < ps.length) : (woE ps ps[k].v.id).length < ps.length := by
  unfold woE
  refine List.length_filter_lt_length_iff_exists.2 ⟨ps[k], List.getElem_mem hk, by simp⟩
theorem TK.store {w : World} {base be bp ne np : Nat} {es ps : List Em} {x : Em} {ad : List Int} {v : Value} {w5 : World} (h : TK w base be bp ne np es ps x ad v w5) (m : Em) : TK w base be bp ne np es ps m ad v (((((((((w5.setCell ⟨w.heap.size + 1, 0, none⟩ (.int .i64 m.v.id)).setCell ⟨w.heap.size + 1, 1, none⟩ (.int .i64 m.v.room)).setCell ⟨w.heap.size + 1, 2, none⟩ (.int .i64 m.v.author)).setCell ⟨w.heap.size + 1, 3, none⟩ (.int .i64 m.v.kind)).setCell ⟨w.heap.size + 1, 4, none⟩ (.int .i64 m.v.key)).setCell ⟨w.heap.size + 1, 5, none⟩ (.int .i64 m.v.n)).setCell ⟨w.heap.size + 1, 6, none⟩ (.string m.v.text)).setCell ⟨w.heap.size + 1, 7, none⟩ (.slice m.p m.v.prev.length m.c)).setCell ⟨w.heap.size + 1, 8, none⟩ (.int .i64 m.v.time)) := by
  obtain ⟨f1, f2, f3, f4, f5, f6⟩ := h.far
  have b0 := heap_set (i := 0) h.ebox (.int .i64 m.v.id)
  have b1 := heap_set (i := 1) b0 (.int .i64 m.v.room)
  have b2 := heap_set (i := 2) b1 (.int .i64 m.v.author)
  have b3 := heap_set (i := 3) b2 (.int .i64 m.v.kind)
  have b4 := heap_set (i := 4) b3 (.int .i64 m.v.key)
  have b5 := heap_set (i := 5) b4 (.int .i64 m.v.n)
  have b6 := heap_set (i := 6) b5 (.string m.v.text)
  have b7 := heap_set (i := 7) b6 (.slice m.p m.v.prev.length m.c)
  have b8 := heap_set (i := 8) b7 (.int .i64 m.v.time)
  have g0 : Below (w.heap.size + 1) w5 w5 := Below.refl _ _
  have g1 := g0.setCell (p := ⟨w.heap.size + 1, 0, none⟩) (Nat.le_refl _) (.int .i64 m.v.id)
  have g2 := g1.setCell (p := ⟨w.heap.size + 1, 1, none⟩) (Nat.le_refl _) (.int .i64 m.v.room)
  have g3 := g2.setCell (p := ⟨w.heap.size + 1, 2, none⟩) (Nat.le_refl _) (.int .i64 m.v.author)
  have g4 := g3.setCell (p := ⟨w.heap.size + 1, 3, none⟩) (Nat.le_refl _) (.int .i64 m.v.kind)
  have g5 := g4.setCell (p := ⟨w.heap.size + 1, 4, none⟩) (Nat.le_refl _) (.int .i64 m.v.key)
  have g6 := g5.setCell (p := ⟨w.heap.size + 1, 5, none⟩) (Nat.le_refl _) (.int .i64 m.v.n)
  have g7 := g6.setCell (p := ⟨w.heap.size + 1, 6, none⟩) (Nat.le_refl _) (.string m.v.text)
  have g8 := g7.setCell (p := ⟨w.heap.size + 1, 7, none⟩) (Nat.le_refl _) (.slice m.p m.v.prev.length m.c)
  have g9 := g8.setCell (p := ⟨w.heap.size + 1, 8, none⟩) (Nat.le_refl _) (.int .i64 m.v.time)
  have hb : Below (w.heap.size + 1) w5 (((((((((w5.setCell ⟨w.heap.size + 1, 0, none⟩ (.int .i64 m.v.id)).setCell ⟨w.heap.size + 1, 1, none⟩ (.int .i64 m.v.room)).setCell ⟨w.heap.size + 1, 2, none⟩ (.int .i64 m.v.author)).setCell ⟨w.heap.size + 1, 3, none⟩ (.int .i64 m.v.kind)).setCell ⟨w.heap.size + 1, 4, none⟩ (.int .i64 m.v.key)).setCell ⟨w.heap.size + 1, 5, none⟩ (.int .i64 m.v.n)).setCell ⟨w.heap.size + 1, 6, none⟩ (.string m.v.text)).setCell ⟨w.heap.size + 1, 7, none⟩ (.slice m.p m.v.prev.length m.c)).setCell ⟨w.heap.size + 1, 8, none⟩ (.int .i64 m.v.time)) := g9
  clear g0 g1 g2 g3 g4 g5 g6 g7 g8 g9
  refine ⟨h.below.below hb (by omega), (hb.block _ (by omega)).trans h.sbox, by simpa using b8, h.st.low h.low hb (by omega) (by omega) (by omega), ?_, h.dis, h.adl, h.low, h.far⟩
  have hk : ∀ q, q ≠ w.heap.size + 1 → ((((((((((w5.setCell ⟨w.heap.size + 1, 0, none⟩ (.int .i64 m.v.id)).setCell ⟨w.heap.size + 1, 1, none⟩ (.int .i64 m.v.room)).setCell ⟨w.heap.size + 1, 2, none⟩ (.int .i64 m.v.author)).setCell ⟨w.heap.size + 1, 3, none⟩ (.int .i64 m.v.kind)).setCell ⟨w.heap.size + 1, 4, none⟩ (.int .i64 m.v.key)).setCell ⟨w.heap.size + 1, 5, none⟩ (.int .i64 m.v.n)).setCell ⟨w.heap.size + 1, 6, none⟩ (.string m.v.text)).setCell ⟨w.heap.size + 1, 7, none⟩ (.slice m.p m.v.prev.length m.c)).setCell ⟨w.heap.size + 1, 8, none⟩ (.int .i64 m.v.time))).heap[q]? = w5.heap[q]? := fun q hq => by
    have st : ∀ (W : World) (o : Nat) (u : Value), (W.setCell ⟨w.heap.size + 1, o, none⟩ u).heap[q]? = W.heap[q]? := fun W o u => Below.heap_setCell _ _ _ _ hq
    rw [st, st, st, st, st, st, st, st, st]
  refine ⟨h.own.1, ?_⟩
  rcases h.own.2 with h0 | ⟨q, cap, cur, h1, h2, h3, r⟩
  · exact .inl h0
  · exact .inr ⟨q, cap, cur, h1, h2, (hk q (by omega)).trans h3, r⟩
/-- No event. -/
def zM : Em := ⟨⟨0, 0, 0, 0, 0, 0, ⟨#[]⟩, [], 0⟩, none, 0⟩
/-- What is known of the event that is to come next. -/
structure NX (w : World) (FIN : List Ev × List Ev × List Int) (es ps : List Em) (x : Em) (ad : List Int) (n : Nat) (W : World) : Prop where
  fin : takeV n x.v (vs es) (vs ps) ad = FIN
  ok : OkM x
  nums : NumsAt W x.p x.v.prev
  new : ∀ m ∈ es, m.v.id ≠ x.v.id
  fuel : (woE ps x.v.id).length < n
  low : LowM w.heap.size x
def TakePost (be bp : Nat) (es0 ps0 : List Em) (x0 : Em) (w : World) (e : Ending) (w' : World) : Prop :=
  ∃ v es ps ne np ad, e = .returned v ∧ takeV (ps0.length + 1) x0.v (vs es0) (vs ps0) [] = (vs es, vs ps, ad) ∧ ESt w' be bp ne np es ps ∧ NumsOwn w' w.heap.size v ad ∧ Two be bp w w' ∧ RisM es ∧ RisM ps ∧ ad.length ≤ 60
set_option maxHeartbeats 16000000 in
set_option maxRecDepth 100000 in
theorem take_impl (base be bp ne0 np0 : Nat) (es0 ps0 : List Em) (x0 : Em) (w : World) (h : ESt w be bp ne0 np0 es0 ps0) (hx : OkM x0) (hn : NumsAt w x0.p x0.v.prev) (hno : ∀ m ∈ es0, m.v.id ≠ x0.v.id) (hdis : ∀ m ∈ es0, ∀ q ∈ ps0, m.v.id ≠ q.v.id)
    (hbe : base ≤ be) (hbp : base ≤ bp) (hne : be ≠ bp) (hb : base ≤ w.heap.size) (hne0 : ne0 ≤ 60) :
    Calls Tryz.prog 98 #[.agg #[.map (some be), .map (some bp)], .agg #[.int .i64 x0.v.id, .int .i64 x0.v.room, .int .i64 x0.v.author, .int .i64 x0.v.kind, .int .i64 x0.v.key, .int .i64 x0.v.n, .string x0.v.text, .slice x0.p x0.v.prev.length x0.c, .int .i64 x0.v.time]] w (TakePost be bp es0 ps0 x0 w) := by
  obtain ⟨i0, hi, hz0, hz1, hz2⟩ := info_parts Tryz.info2
  have K := Maps.int_keyed (P := Tryz.prog) Tryz.underlying2
  have hpl0 := h.pl
  have hbel : be < w.heap.size := h.e.lt
  have hbpl : bp < w.heap.size := h.p.lt
  have HT0 : Hid (TK w base be bp ne0 np0 es0 ps0 x0 [] (.slice none 0 0) ((w.alloc (.cells #[.map (some be), .map (some bp)] 76)).alloc (.cells #[.int .i64 x0.v.id, .int .i64 x0.v.room, .int .i64 x0.v.author, .int .i64 x0.v.kind, .int .i64 x0.v.key, .int .i64 x0.v.n, .string x0.v.text, .slice x0.p x0.v.prev.length x0.c, .int .i64 x0.v.time] 37)) ∧ NX w (takeV (ps0.length + 1) x0.v (vs es0) (vs ps0) []) es0 ps0 x0 [] (ps0.length + 1) ((w.alloc (.cells #[.map (some be), .map (some bp)] 76)).alloc (.cells #[.int .i64 x0.v.id, .int .i64 x0.v.room, .int .i64 x0.v.author, .int .i64 x0.v.kind, .int .i64 x0.v.key, .int .i64 x0.v.n, .string x0.v.text, .slice x0.p x0.v.prev.length x0.c, .int .i64 x0.v.time] 37))) := by
    have hbw : Below w.heap.size w ((w.alloc (.cells #[.map (some be), .map (some bp)] 76)).alloc (.cells #[.int .i64 x0.v.id, .int .i64 x0.v.room, .int .i64 x0.v.author, .int .i64 x0.v.kind, .int .i64 x0.v.key, .int .i64 x0.v.n, .string x0.v.text, .slice x0.p x0.v.prev.length x0.c, .int .i64 x0.v.time] 37)) := ((Below.refl _ _).alloc (Nat.le_refl _) _).alloc (by simp) _
    exact ⟨⟨Two.of hbw, (Below.heap_alloc _ _ _ (by simp)).trans (MapKept.heap_alloc w _).1, new_blockC _ _ _ (by simp), h.kept hbw, NumsOwn.nil _ _, hdis, Nat.zero_le _, fun m hm => lowM_of (h.nums m hm), ⟨hbe, hbp, hbel, hbpl, hne, hb⟩⟩, ⟨rfl, hx, hn.kept hbw, hno, Nat.lt_succ_of_le (List.length_filter_le _ _), lowM_of hn⟩⟩
  clear h hx hn hno hdis
  go_enter Tryz.func98, Tryz.ntmps98
  go_wp2
  go_loopg [5, 6] (ps0.length + 1) (fun n v f wr => ∃ (ne np : Nat) (es ps : List Em) (x : Em) (ad : List Int), ne + n ≤ 200 ∧ Hid (TK w base be bp ne np es ps x ad v wr) ∧ ((f = .bool true ∧ Hid (NX w (takeV (ps0.length + 1) x0.v (vs es0) (vs ps0) []) es ps x ad n wr)) ∨ (f = .bool false ∧ Hid (takeV (ps0.length + 1) x0.v (vs es0) (vs ps0) [] = (vs es, vs ps, ad)))))
  case atStart => exact ⟨ne0, np0, es0, ps0, x0, [], by omega, HT0.out.1, .inl ⟨rfl, HT0.out.2⟩⟩
  case round =>
    clear HT0
    obtain ⟨ne, np, es, ps, x, ad, hnn, HT, hcase⟩ := hrel
    rcases hcase with ⟨rfl, HX⟩ | ⟨rfl, HF⟩
    · have hid := HX.out.ok.1
      have HK : Hid (keyOf Tryz.prog 2 (.int .i64 x.v.id) = some (.int .i64 x.v.id)) := Maps.keyOf_int_mk Tryz.underlying2 (idIn_wf hid)
      clear hid
      have s0 : wr.cell? ⟨w.heap.size, 0, none⟩ = some (.map (some be)) := cell_of_heap HT.out.sbox
      have s1 : wr.cell? ⟨w.heap.size, 1, none⟩ = some (.map (some bp)) := cell_of_heap HT.out.sbox
      have q0 : wr.cell? ⟨w.heap.size + 1, 0, none⟩ = some (.int .i64 x.v.id) := cell_of_heap HT.out.ebox
      have q1 : wr.cell? ⟨w.heap.size + 1, 1, none⟩ = some (.int .i64 x.v.room) := cell_of_heap HT.out.ebox
      have q2 : wr.cell? ⟨w.heap.size + 1, 2, none⟩ = some (.int .i64 x.v.author) := cell_of_heap HT.out.ebox
      have q3 : wr.cell? ⟨w.heap.size + 1, 3, none⟩ = some (.int .i64 x.v.kind) := cell_of_heap HT.out.ebox
      have q4 : wr.cell? ⟨w.heap.size + 1, 4, none⟩ = some (.int .i64 x.v.key) := cell_of_heap HT.out.ebox
      have q5 : wr.cell? ⟨w.heap.size + 1, 5, none⟩ = some (.int .i64 x.v.n) := cell_of_heap HT.out.ebox
      have q6 : wr.cell? ⟨w.heap.size + 1, 6, none⟩ = some (.string x.v.text) := cell_of_heap HT.out.ebox
      have q7 : wr.cell? ⟨w.heap.size + 1, 7, none⟩ = some (.slice x.p x.v.prev.length x.c) := cell_of_heap HT.out.ebox
      have q8 : wr.cell? ⟨w.heap.size + 1, 8, none⟩ = some (.int .i64 x.v.time) := cell_of_heap HT.out.ebox
      obtain ⟨n, rfl⟩ : ∃ n, gk = n + 1 := ⟨gk - 1, by have := HX.out.fuel; omega⟩
      by_cases hl : es.length < 60
      · have hd : decide ((es.length : Int) < 60) = true := decide_eq_true (by omega)
        go_wp2_with (first
          | (at_delete; refine wpList_delete_own _ rfl _ _ 74 2 rfl 37 K Tryz.underlying74 heldR bp np (putAll ps) rfl HT.out.st.p.1 _ _ rfl HK.out ?_; intro w2 hown2 hturn2; have HT2 : Hid (TK w base be bp ne np es (woE ps x.v.id) x ad u5 w2) := HT.out.delP hown2 hturn2.grown; have HN2 : Hid (NumsAt w2 x.p x.v.prev) := HX.out.nums.turn HT.out.st.p.1 hturn2.grown; clear hown2 hturn2; have t0 : w2.cell? ⟨w.heap.size, 0, none⟩ = some (.map (some be)) := cell_of_heap HT2.out.sbox; have t1 : w2.cell? ⟨w.heap.size, 1, none⟩ = some (.map (some bp)) := cell_of_heap HT2.out.sbox; have t10 : w2.cell? ⟨w.heap.size + 1, 0, none⟩ = some (.int .i64 x.v.id) := cell_of_heap HT2.out.ebox; have t11 : w2.cell? ⟨w.heap.size + 1, 1, none⟩ = some (.int .i64 x.v.room) := cell_of_heap HT2.out.ebox; have t12 : w2.cell? ⟨w.heap.size + 1, 2, none⟩ = some (.int .i64 x.v.author) := cell_of_heap HT2.out.ebox; have t13 : w2.cell? ⟨w.heap.size + 1, 3, none⟩ = some (.int .i64 x.v.kind) := cell_of_heap HT2.out.ebox; have t14 : w2.cell? ⟨w.heap.size + 1, 4, none⟩ = some (.int .i64 x.v.key) := cell_of_heap HT2.out.ebox; have t15 : w2.cell? ⟨w.heap.size + 1, 5, none⟩ = some (.int .i64 x.v.n) := cell_of_heap HT2.out.ebox; have t16 : w2.cell? ⟨w.heap.size + 1, 6, none⟩ = some (.string x.v.text) := cell_of_heap HT2.out.ebox; have t17 : w2.cell? ⟨w.heap.size + 1, 7, none⟩ = some (.slice x.p x.v.prev.length x.c) := cell_of_heap HT2.out.ebox; have t18 : w2.cell? ⟨w.heap.size + 1, 8, none⟩ = some (.int .i64 x.v.time) := cell_of_heap HT2.out.ebox)
          | (at_len; refine wpList_len_own _ rfl _ 74 rfl 2 37 Tryz.underlying74 heldR be ne (putAll es) rfl HT2.out.st.e.1 ?_; rw [HT2.out.st.e.size])
          | (at_mapUpdate; refine wpList_mapUpdate_own _ rfl _ _ _ 74 rfl 2 37 K Tryz.underlying74 heldR be ne (putAll es) rfl HT2.out.st.e.1 (by unfold maxLen; omega) _ _ _ rfl rfl HK.out _ [] rfl ?_; intro w3 hown3 hgrow3; have HT3 : Hid (TK w base be bp (ne + 1) np (insE es x) (woE ps x.v.id) x ad u5 w3) := HT2.out.putE HX.out.ok HN2.out HX.out.new (fun m hm => (mem_woE.1 hm).2) hl HX.out.low hown3 hgrow3; clear hown3 hgrow3; have y0 : w3.cell? ⟨w.heap.size, 0, none⟩ = some (.map (some be)) := cell_of_heap HT3.out.sbox; have y1 : w3.cell? ⟨w.heap.size, 1, none⟩ = some (.map (some bp)) := cell_of_heap HT3.out.sbox; have y10 : w3.cell? ⟨w.heap.size + 1, 0, none⟩ = some (.int .i64 x.v.id) := cell_of_heap HT3.out.ebox; have y11 : w3.cell? ⟨w.heap.size + 1, 1, none⟩ = some (.int .i64 x.v.room) := cell_of_heap HT3.out.ebox; have y12 : w3.cell? ⟨w.heap.size + 1, 2, none⟩ = some (.int .i64 x.v.author) := cell_of_heap HT3.out.ebox; have y13 : w3.cell? ⟨w.heap.size + 1, 3, none⟩ = some (.int .i64 x.v.kind) := cell_of_heap HT3.out.ebox; have y14 : w3.cell? ⟨w.heap.size + 1, 4, none⟩ = some (.int .i64 x.v.key) := cell_of_heap HT3.out.ebox; have y15 : w3.cell? ⟨w.heap.size + 1, 5, none⟩ = some (.int .i64 x.v.n) := cell_of_heap HT3.out.ebox; have y16 : w3.cell? ⟨w.heap.size + 1, 6, none⟩ = some (.string x.v.text) := cell_of_heap HT3.out.ebox; have y17 : w3.cell? ⟨w.heap.size + 1, 7, none⟩ = some (.slice x.p x.v.prev.length x.c) := cell_of_heap HT3.out.ebox; have y18 : w3.cell? ⟨w.heap.size + 1, 8, none⟩ = some (.int .i64 x.v.time) := cell_of_heap HT3.out.ebox; have HA3 : Hid (∀ o, TK w base be bp (ne + 1) np (insE es x) (woE ps x.v.id) x ad u5 (w3.alloc o)) := (fun o => HT3.out.on ((Below.refl _ _).alloc (Nat.le_refl _) o)); have hz3 : w.heap.size + 1 < w3.heap.size := (Array.getElem?_eq_some_iff.1 HT3.out.ebox).1; have hadl : ad.length ≤ 60 := Nat.le_trans HT.out.adl (by omega))
          | (at_builtin; refine wpList_append_ns rfl _ _ 25 rfl i0 _ Tryz.underlying25 hi hz0 hz1 hz2 rfl (w.heap.size + 2) _ ad rfl (HA3.out _).own _ _ [x.v.id] (numsAt_one (MapKept.heap_alloc _ _).1) rfl (by simp; omega) (by simp; omega) ?_; intro v4 w4 hO4 hb4; have HT4 : Hid (TK w base be bp (ne + 1) np (insE es x) (woE ps x.v.id) x (ad ++ [x.v.id]) v4 w4) := (HA3.out _).add hb4 hO4 (Nat.lt_of_le_of_lt HT.out.adl (by rw [← vs_length (insE es x), vs_insE, insV_length, vs_length]; omega)); clear hO4 hb4; have v0 : w4.cell? ⟨w.heap.size, 0, none⟩ = some (.map (some be)) := cell_of_heap HT4.out.sbox; have v1 : w4.cell? ⟨w.heap.size, 1, none⟩ = some (.map (some bp)) := cell_of_heap HT4.out.sbox))
        refine (next_impl be bp (ne + 1) np (insE es x) (woE ps x.v.id) _ HT4.out.st).mono ?_
        rintro e w5 ⟨hb5, hcase⟩
        have HT5 : Hid (TK w base be bp (ne + 1) np (insE es x) (woE ps x.v.id) x (ad ++ [x.v.id]) v4 w5) := HT4.out.on hb5
        have e1 : (if (vs es).length < 60 then insV (vs es) x.v else vs es) = vs (insE es x) := by rw [vs_length, if_pos hl, vs_insE]
        have e2 : (if (vs es).length < 60 then ad ++ [x.v.id] else ad) = ad ++ [x.v.id] := by rw [vs_length, if_pos hl]
        have e3 : woV (vs ps) x.v.id = vs (woE ps x.v.id) := (vs_woE ps x.v.id).symm
        clear hb5 HT HT2 HT3 HT4 HA3 HN2 hd
        rcases hcase with ⟨hf, rfl⟩ | ⟨k, hk, hf, rfl⟩
        · have HF : Hid (takeV (ps0.length + 1) x0.v (vs es0) (vs ps0) [] = (vs (insE es x), vs (woE ps x.v.id), ad ++ [x.v.id])) := by
            have := HX.out.fin
            rw [takeV_end (by rw [e1, e3]; exact hf), e1, e2, e3] at this
            exact this.symm
          have HS : Hid (TK w base be bp (ne + 1) np (insE es x) (woE ps x.v.id) zM (ad ++ [x.v.id]) v4 ((((((((((w5.setCell ⟨w.heap.size + 1, 0, none⟩ (.int .i64 0)).setCell ⟨w.heap.size + 1, 1, none⟩ (.int .i64 0)).setCell ⟨w.heap.size + 1, 2, none⟩ (.int .i64 0)).setCell ⟨w.heap.size + 1, 3, none⟩ (.int .i64 0)).setCell ⟨w.heap.size + 1, 4, none⟩ (.int .i64 0)).setCell ⟨w.heap.size + 1, 5, none⟩ (.int .i64 0)).setCell ⟨w.heap.size + 1, 6, none⟩ (.string ⟨#[]⟩)).setCell ⟨w.heap.size + 1, 7, none⟩ (.slice none 0 0)).setCell ⟨w.heap.size + 1, 8, none⟩ (.int .i64 0)))) := HT5.out.store zM
          have z0 : w5.cell? ⟨w.heap.size + 1, 0, none⟩ = some (.int .i64 x.v.id) := cell_of_heap HT5.out.ebox
          have z1 : w5.cell? ⟨w.heap.size + 1, 1, none⟩ = some (.int .i64 x.v.room) := cell_of_heap HT5.out.ebox
          have z2 : w5.cell? ⟨w.heap.size + 1, 2, none⟩ = some (.int .i64 x.v.author) := cell_of_heap HT5.out.ebox
          have z3 : w5.cell? ⟨w.heap.size + 1, 3, none⟩ = some (.int .i64 x.v.kind) := cell_of_heap HT5.out.ebox
          have z4 : w5.cell? ⟨w.heap.size + 1, 4, none⟩ = some (.int .i64 x.v.key) := cell_of_heap HT5.out.ebox
          have z5 : w5.cell? ⟨w.heap.size + 1, 5, none⟩ = some (.int .i64 x.v.n) := cell_of_heap HT5.out.ebox
          have z6 : w5.cell? ⟨w.heap.size + 1, 6, none⟩ = some (.string x.v.text) := cell_of_heap HT5.out.ebox
          have z7 : w5.cell? ⟨w.heap.size + 1, 7, none⟩ = some (.slice x.p x.v.prev.length x.c) := cell_of_heap HT5.out.ebox
          have z8 : w5.cell? ⟨w.heap.size + 1, 8, none⟩ = some (.int .i64 x.v.time) := cell_of_heap HT5.out.ebox
          have fr : ∀ o, w5.frozen? ⟨w.heap.size + 1, o, none⟩ = false := fun o => frozen_of_heap HT5.out.ebox
          have sz : w.heap.size + 1 < w5.heap.size := (Array.getElem?_eq_some_iff.1 HT5.out.ebox).1
          clear hf e1 e2 e3 HX HT5
          go_wp2
          go_roundg n
          case measure => omega
          case rel => exact ⟨ne + 1, np, _, _, zM, _, by omega, HS, .inr ⟨rfl, HF⟩⟩
        · have HN : Hid (NX w (takeV (ps0.length + 1) x0.v (vs es0) (vs ps0) []) (insE es x) (woE ps x.v.id) (woE ps x.v.id)[k] (ad ++ [x.v.id]) n w5) := by
            have hf2 := HX.out.fin
            rw [takeV_more (k := k) (by rw [e1, e3]; exact hf) (by rw [e3, vs_length]; exact hk)] at hf2
            simp only [e1, e2, e3] at hf2
            have hm := List.getElem_mem hk
            have hfu := HX.out.fuel
            have hle := woE_less hk
            exact ⟨by rw [← vs_get hk]; exact hf2, HT5.out.st.ok _ (.inr hm), HT5.out.st.nums _ (.inr hm), fun m hm2 => HT5.out.dis m hm2 _ hm, by omega, HT5.out.low _ (.inr hm)⟩
          have HS : Hid (TK w base be bp (ne + 1) np (insE es x) (woE ps x.v.id) (woE ps x.v.id)[k] (ad ++ [x.v.id]) v4 ((((((((((w5.setCell ⟨w.heap.size + 1, 0, none⟩ (.int .i64 (woE ps x.v.id)[k].v.id)).setCell ⟨w.heap.size + 1, 1, none⟩ (.int .i64 (woE ps x.v.id)[k].v.room)).setCell ⟨w.heap.size + 1, 2, none⟩ (.int .i64 (woE ps x.v.id)[k].v.author)).setCell ⟨w.heap.size + 1, 3, none⟩ (.int .i64 (woE ps x.v.id)[k].v.kind)).setCell ⟨w.heap.size + 1, 4, none⟩ (.int .i64 (woE ps x.v.id)[k].v.key)).setCell ⟨w.heap.size + 1, 5, none⟩ (.int .i64 (woE ps x.v.id)[k].v.n)).setCell ⟨w.heap.size + 1, 6, none⟩ (.string (woE ps x.v.id)[k].v.text)).setCell ⟨w.heap.size + 1, 7, none⟩ (.slice (woE ps x.v.id)[k].p (woE ps x.v.id)[k].v.prev.length (woE ps x.v.id)[k].c)).setCell ⟨w.heap.size + 1, 8, none⟩ (.int .i64 (woE ps x.v.id)[k].v.time)))) := HT5.out.store _
          have HN2 : Hid (NX w (takeV (ps0.length + 1) x0.v (vs es0) (vs ps0) []) (insE es x) (woE ps x.v.id) (woE ps x.v.id)[k] (ad ++ [x.v.id]) n ((((((((((w5.setCell ⟨w.heap.size + 1, 0, none⟩ (.int .i64 (woE ps x.v.id)[k].v.id)).setCell ⟨w.heap.size + 1, 1, none⟩ (.int .i64 (woE ps x.v.id)[k].v.room)).setCell ⟨w.heap.size + 1, 2, none⟩ (.int .i64 (woE ps x.v.id)[k].v.author)).setCell ⟨w.heap.size + 1, 3, none⟩ (.int .i64 (woE ps x.v.id)[k].v.kind)).setCell ⟨w.heap.size + 1, 4, none⟩ (.int .i64 (woE ps x.v.id)[k].v.key)).setCell ⟨w.heap.size + 1, 5, none⟩ (.int .i64 (woE ps x.v.id)[k].v.n)).setCell ⟨w.heap.size + 1, 6, none⟩ (.string (woE ps x.v.id)[k].v.text)).setCell ⟨w.heap.size + 1, 7, none⟩ (.slice (woE ps x.v.id)[k].p (woE ps x.v.id)[k].v.prev.length (woE ps x.v.id)[k].c)).setCell ⟨w.heap.size + 1, 8, none⟩ (.int .i64 (woE ps x.v.id)[k].v.time)))) := ⟨HN.out.fin, HN.out.ok, HS.out.st.nums _ (.inr (List.getElem_mem hk)), HN.out.new, HN.out.fuel, HN.out.low⟩
          have z0 : w5.cell? ⟨w.heap.size + 1, 0, none⟩ = some (.int .i64 x.v.id) := cell_of_heap HT5.out.ebox
          have z1 : w5.cell? ⟨w.heap.size + 1, 1, none⟩ = some (.int .i64 x.v.room) := cell_of_heap HT5.out.ebox
          have z2 : w5.cell? ⟨w.heap.size + 1, 2, none⟩ = some (.int .i64 x.v.author) := cell_of_heap HT5.out.ebox
          have z3 : w5.cell? ⟨w.heap.size + 1, 3, none⟩ = some (.int .i64 x.v.kind) := cell_of_heap HT5.out.ebox
          have z4 : w5.cell? ⟨w.heap.size + 1, 4, none⟩ = some (.int .i64 x.v.key) := cell_of_heap HT5.out.ebox
          have z5 : w5.cell? ⟨w.heap.size + 1, 5, none⟩ = some (.int .i64 x.v.n) := cell_of_heap HT5.out.ebox
          have z6 : w5.cell? ⟨w.heap.size + 1, 6, none⟩ = some (.string x.v.text) := cell_of_heap HT5.out.ebox
          have z7 : w5.cell? ⟨w.heap.size + 1, 7, none⟩ = some (.slice x.p x.v.prev.length x.c) := cell_of_heap HT5.out.ebox
          have z8 : w5.cell? ⟨w.heap.size + 1, 8, none⟩ = some (.int .i64 x.v.time) := cell_of_heap HT5.out.ebox
          have fr : ∀ o, w5.frozen? ⟨w.heap.size + 1, o, none⟩ = false := fun o => frozen_of_heap HT5.out.ebox
          have sz : w.heap.size + 1 < w5.heap.size := (Array.getElem?_eq_some_iff.1 HT5.out.ebox).1
          clear hf e1 e2 e3 HX HT5 HN
          go_wp2
          go_roundg n
          case measure => omega
          case rel => exact ⟨ne + 1, np, _, _, _, _, by omega, HS, .inl ⟨rfl, HN2⟩⟩
      · have hd : decide ((es.length : Int) < 60) = false := decide_eq_false (by omega)
        go_wp2_with (first
          | (at_delete; refine wpList_delete_own _ rfl _ _ 74 2 rfl 37 K Tryz.underlying74 heldR bp np (putAll ps) rfl HT.out.st.p.1 _ _ rfl HK.out ?_; intro w2 hown2 hturn2; have HT2 : Hid (TK w base be bp ne np es (woE ps x.v.id) x ad u5 w2) := HT.out.delP hown2 hturn2.grown; clear hown2 hturn2; have t0 : w2.cell? ⟨w.heap.size, 0, none⟩ = some (.map (some be)) := cell_of_heap HT2.out.sbox; have t1 : w2.cell? ⟨w.heap.size, 1, none⟩ = some (.map (some bp)) := cell_of_heap HT2.out.sbox; have t10 : w2.cell? ⟨w.heap.size + 1, 0, none⟩ = some (.int .i64 x.v.id) := cell_of_heap HT2.out.ebox; have t11 : w2.cell? ⟨w.heap.size + 1, 1, none⟩ = some (.int .i64 x.v.room) := cell_of_heap HT2.out.ebox; have t12 : w2.cell? ⟨w.heap.size + 1, 2, none⟩ = some (.int .i64 x.v.author) := cell_of_heap HT2.out.ebox; have t13 : w2.cell? ⟨w.heap.size + 1, 3, none⟩ = some (.int .i64 x.v.kind) := cell_of_heap HT2.out.ebox; have t14 : w2.cell? ⟨w.heap.size + 1, 4, none⟩ = some (.int .i64 x.v.key) := cell_of_heap HT2.out.ebox; have t15 : w2.cell? ⟨w.heap.size + 1, 5, none⟩ = some (.int .i64 x.v.n) := cell_of_heap HT2.out.ebox; have t16 : w2.cell? ⟨w.heap.size + 1, 6, none⟩ = some (.string x.v.text) := cell_of_heap HT2.out.ebox; have t17 : w2.cell? ⟨w.heap.size + 1, 7, none⟩ = some (.slice x.p x.v.prev.length x.c) := cell_of_heap HT2.out.ebox; have t18 : w2.cell? ⟨w.heap.size + 1, 8, none⟩ = some (.int .i64 x.v.time) := cell_of_heap HT2.out.ebox)
          | (at_len; refine wpList_len_own _ rfl _ 74 rfl 2 37 Tryz.underlying74 heldR be ne (putAll es) rfl HT2.out.st.e.1 ?_; rw [HT2.out.st.e.size]))
        refine (next_impl be bp ne np es (woE ps x.v.id) _ HT2.out.st).mono ?_
        rintro e w5 ⟨hb5, hcase⟩
        have HT5 : Hid (TK w base be bp ne np es (woE ps x.v.id) x ad u5 w5) := HT2.out.on hb5
        have e1 : (if (vs es).length < 60 then insV (vs es) x.v else vs es) = vs es := by rw [vs_length, if_neg hl]
        have e2 : (if (vs es).length < 60 then ad ++ [x.v.id] else ad) = ad := by rw [vs_length, if_neg hl]
        have e3 : woV (vs ps) x.v.id = vs (woE ps x.v.id) := (vs_woE ps x.v.id).symm
        clear hb5 HT HT2 hd
        rcases hcase with ⟨hf, rfl⟩ | ⟨k, hk, hf, rfl⟩
        · have HF : Hid (takeV (ps0.length + 1) x0.v (vs es0) (vs ps0) [] = (vs es, vs (woE ps x.v.id), ad)) := by
            have := HX.out.fin
            rw [takeV_end (by rw [e1, e3]; exact hf), e1, e2, e3] at this
            exact this.symm
          have HS : Hid (TK w base be bp ne np es (woE ps x.v.id) zM ad u5 ((((((((((w5.setCell ⟨w.heap.size + 1, 0, none⟩ (.int .i64 0)).setCell ⟨w.heap.size + 1, 1, none⟩ (.int .i64 0)).setCell ⟨w.heap.size + 1, 2, none⟩ (.int .i64 0)).setCell ⟨w.heap.size + 1, 3, none⟩ (.int .i64 0)).setCell ⟨w.heap.size + 1, 4, none⟩ (.int .i64 0)).setCell ⟨w.heap.size + 1, 5, none⟩ (.int .i64 0)).setCell ⟨w.heap.size + 1, 6, none⟩ (.string ⟨#[]⟩)).setCell ⟨w.heap.size + 1, 7, none⟩ (.slice none 0 0)).setCell ⟨w.heap.size + 1, 8, none⟩ (.int .i64 0)))) := HT5.out.store zM
          have z0 : w5.cell? ⟨w.heap.size + 1, 0, none⟩ = some (.int .i64 x.v.id) := cell_of_heap HT5.out.ebox
          have z1 : w5.cell? ⟨w.heap.size + 1, 1, none⟩ = some (.int .i64 x.v.room) := cell_of_heap HT5.out.ebox
          have z2 : w5.cell? ⟨w.heap.size + 1, 2, none⟩ = some (.int .i64 x.v.author) := cell_of_heap HT5.out.ebox
          have z3 : w5.cell? ⟨w.heap.size + 1, 3, none⟩ = some (.int .i64 x.v.kind) := cell_of_heap HT5.out.ebox
          have z4 : w5.cell? ⟨w.heap.size + 1, 4, none⟩ = some (.int .i64 x.v.key) := cell_of_heap HT5.out.ebox
          have z5 : w5.cell? ⟨w.heap.size + 1, 5, none⟩ = some (.int .i64 x.v.n) := cell_of_heap HT5.out.ebox
          have z6 : w5.cell? ⟨w.heap.size + 1, 6, none⟩ = some (.string x.v.text) := cell_of_heap HT5.out.ebox
          have z7 : w5.cell? ⟨w.heap.size + 1, 7, none⟩ = some (.slice x.p x.v.prev.length x.c) := cell_of_heap HT5.out.ebox
          have z8 : w5.cell? ⟨w.heap.size + 1, 8, none⟩ = some (.int .i64 x.v.time) := cell_of_heap HT5.out.ebox
          have fr : ∀ o, w5.frozen? ⟨w.heap.size + 1, o, none⟩ = false := fun o => frozen_of_heap HT5.out.ebox
          have sz : w.heap.size + 1 < w5.heap.size := (Array.getElem?_eq_some_iff.1 HT5.out.ebox).1
          clear hf e1 e2 e3 HX HT5
          go_wp2
          go_roundg n
          case measure => omega
          case rel => exact ⟨ne, np, _, _, zM, _, by omega, HS, .inr ⟨rfl, HF⟩⟩
        · have HN : Hid (NX w (takeV (ps0.length + 1) x0.v (vs es0) (vs ps0) []) es (woE ps x.v.id) (woE ps x.v.id)[k] ad n w5) := by
            have hf2 := HX.out.fin
            rw [takeV_more (k := k) (by rw [e1, e3]; exact hf) (by rw [e3, vs_length]; exact hk)] at hf2
            simp only [e1, e2, e3] at hf2
            have hm := List.getElem_mem hk
            have hfu := HX.out.fuel
            have hle := woE_less hk
            exact ⟨by rw [← vs_get hk]; exact hf2, HT5.out.st.ok _ (.inr hm), HT5.out.st.nums _ (.inr hm), fun m hm2 => HT5.out.dis m hm2 _ hm, by omega, HT5.out.low _ (.inr hm)⟩
          have HS : Hid (TK w base be bp ne np es (woE ps x.v.id) (woE ps x.v.id)[k] ad u5 ((((((((((w5.setCell ⟨w.heap.size + 1, 0, none⟩ (.int .i64 (woE ps x.v.id)[k].v.id)).setCell ⟨w.heap.size + 1, 1, none⟩ (.int .i64 (woE ps x.v.id)[k].v.room)).setCell ⟨w.heap.size + 1, 2, none⟩ (.int .i64 (woE ps x.v.id)[k].v.author)).setCell ⟨w.heap.size + 1, 3, none⟩ (.int .i64 (woE ps x.v.id)[k].v.kind)).setCell ⟨w.heap.size + 1, 4, none⟩ (.int .i64 (woE ps x.v.id)[k].v.key)).setCell ⟨w.heap.size + 1, 5, none⟩ (.int .i64 (woE ps x.v.id)[k].v.n)).setCell ⟨w.heap.size + 1, 6, none⟩ (.string (woE ps x.v.id)[k].v.text)).setCell ⟨w.heap.size + 1, 7, none⟩ (.slice (woE ps x.v.id)[k].p (woE ps x.v.id)[k].v.prev.length (woE ps x.v.id)[k].c)).setCell ⟨w.heap.size + 1, 8, none⟩ (.int .i64 (woE ps x.v.id)[k].v.time)))) := HT5.out.store _
          have HN2 : Hid (NX w (takeV (ps0.length + 1) x0.v (vs es0) (vs ps0) []) es (woE ps x.v.id) (woE ps x.v.id)[k] ad n ((((((((((w5.setCell ⟨w.heap.size + 1, 0, none⟩ (.int .i64 (woE ps x.v.id)[k].v.id)).setCell ⟨w.heap.size + 1, 1, none⟩ (.int .i64 (woE ps x.v.id)[k].v.room)).setCell ⟨w.heap.size + 1, 2, none⟩ (.int .i64 (woE ps x.v.id)[k].v.author)).setCell ⟨w.heap.size + 1, 3, none⟩ (.int .i64 (woE ps x.v.id)[k].v.kind)).setCell ⟨w.heap.size + 1, 4, none⟩ (.int .i64 (woE ps x.v.id)[k].v.key)).setCell ⟨w.heap.size + 1, 5, none⟩ (.int .i64 (woE ps x.v.id)[k].v.n)).setCell ⟨w.heap.size + 1, 6, none⟩ (.string (woE ps x.v.id)[k].v.text)).setCell ⟨w.heap.size + 1, 7, none⟩ (.slice (woE ps x.v.id)[k].p (woE ps x.v.id)[k].v.prev.length (woE ps x.v.id)[k].c)).setCell ⟨w.heap.size + 1, 8, none⟩ (.int .i64 (woE ps x.v.id)[k].v.time)))) := ⟨HN.out.fin, HN.out.ok, HS.out.st.nums _ (.inr (List.getElem_mem hk)), HN.out.new, HN.out.fuel, HN.out.low⟩
          have z0 : w5.cell? ⟨w.heap.size + 1, 0, none⟩ = some (.int .i64 x.v.id) := cell_of_heap HT5.out.ebox
          have z1 : w5.cell? ⟨w.heap.size + 1, 1, none⟩ = some (.int .i64 x.v.room) := cell_of_heap HT5.out.ebox
          have z2 : w5.cell? ⟨w.heap.size + 1, 2, none⟩ = some (.int .i64 x.v.author) := cell_of_heap HT5.out.ebox
          have z3 : w5.cell? ⟨w.heap.size + 1, 3, none⟩ = some (.int .i64 x.v.kind) := cell_of_heap HT5.out.ebox
          have z4 : w5.cell? ⟨w.heap.size + 1, 4, none⟩ = some (.int .i64 x.v.key) := cell_of_heap HT5.out.ebox
          have z5 : w5.cell? ⟨w.heap.size + 1, 5, none⟩ = some (.int .i64 x.v.n) := cell_of_heap HT5.out.ebox
          have z6 : w5.cell? ⟨w.heap.size + 1, 6, none⟩ = some (.string x.v.text) := cell_of_heap HT5.out.ebox
          have z7 : w5.cell? ⟨w.heap.size + 1, 7, none⟩ = some (.slice x.p x.v.prev.length x.c) := cell_of_heap HT5.out.ebox
          have z8 : w5.cell? ⟨w.heap.size + 1, 8, none⟩ = some (.int .i64 x.v.time) := cell_of_heap HT5.out.ebox
          have fr : ∀ o, w5.frozen? ⟨w.heap.size + 1, o, none⟩ = false := fun o => frozen_of_heap HT5.out.ebox
          have sz : w.heap.size + 1 < w5.heap.size := (Array.getElem?_eq_some_iff.1 HT5.out.ebox).1
          clear hf e1 e2 e3 HX HT5 HN
          go_wp2
          go_roundg n
          case measure => omega
          case rel => exact ⟨ne, np, _, _, _, _, by omega, HS, .inl ⟨rfl, HN2⟩⟩
    · go_wp2
      go_ret
      exact ⟨u5, es, ps, ne, np, ad, rfl, HF.out, HT.out.st, owns_baseC HT.out.own (by omega), HT.out.below, HT.out.st.e.2, HT.out.st.p.2, Nat.le_trans HT.out.adl HT.out.st.el⟩
end Go.Proofs.YtobkinocaomcmaaGreat
namespace Go.Proofs.YtobkinocaomcmaaGreat
open Go.RowKit

/-- What putting an event into the stock comes to. -/
def StockPost (be bp : Nat) (es0 ps0 : List Em) (x : Em) (w : World) (e : Ending) (w' : World) : Prop :=
  Two be bp w w' ∧ ∃ v c, e = .returned (.tuple #[v, .int .i64 c]) ∧ ((c ≠ 0 ∧ (c == 0) = false ∧ putV (vs es0) (vs ps0) x.v = (c, [], [], [])) ∨ (c = 0 ∧ ∃ es ps ne np ad, putV (vs es0) (vs ps0) x.v = (0, vs es, vs ps, ad) ∧ ESt w' be bp ne np es ps ∧ NumsOwn w' w.heap.size v ad ∧ ad.length ≤ 60))
theorem held_mem {es ps : List Em} {id : Int} : heldV es ps id = true ↔ id ∈ idsV (vs es) ∨ id ∈ idsV (vs ps) := by
  unfold heldV
  rw [ids_vs, ids_vs]
  simp
set_option maxHeartbeats 16000000 in
set_option maxRecDepth 100000 in
theorem stockPut_impl (base be bp ne0 np0 : Nat) (es ps : List Em) (x : Em) (w : World) (h : ESt w be bp ne0 np0 es ps) (hx : OkM x) (hn : NumsAt w x.p x.v.prev) (hdis : ∀ m ∈ es, ∀ q ∈ ps, m.v.id ≠ q.v.id)
    (hbe : base ≤ be) (hbp : base ≤ bp) (hne : be ≠ bp) (hb : base ≤ w.heap.size) (hne0 : ne0 ≤ 60) (hnp0 : np0 ≤ 60) :
    Calls Tryz.prog 53 #[.agg #[.map (some be), .map (some bp)], .agg #[.int .i64 x.v.id, .int .i64 x.v.room, .int .i64 x.v.author, .int .i64 x.v.kind, .int .i64 x.v.key, .int .i64 x.v.n, .string x.v.text, .slice x.p x.v.prev.length x.c, .int .i64 x.v.time]] w (StockPost be bp es ps x w) := by
  have K := Maps.int_keyed (P := Tryz.prog) Tryz.underlying2
  have hel := h.el
  have hpl := h.pl
  have hbel : be < w.heap.size := h.e.lt
  have hbpl : bp < w.heap.size := h.p.lt
  have HX : Hid (OkM x ∧ LowM w.heap.size x ∧ (keyOf Tryz.prog 2 (.int .i64 x.v.id) = some (.int .i64 x.v.id)) ∧ (-9223372036854775808 ≤ x.v.id ∧ x.v.id ≤ 9223372036854775807)) := ⟨hx, lowM_of hn, Maps.keyOf_int_mk Tryz.underlying2 (idIn_wf hx.1), by have := hx.1; unfold IdIn at this; omega⟩
  have HD : Hid (∀ m ∈ es, ∀ q ∈ ps, m.v.id ≠ q.v.id) := hdis
  have HT0 : Hid (TK w base be bp ne0 np0 es ps x [] (.slice none 0 0) ((w.alloc (.cells #[.map (some be), .map (some bp)] 76)).alloc (.cells #[.int .i64 x.v.id, .int .i64 x.v.room, .int .i64 x.v.author, .int .i64 x.v.kind, .int .i64 x.v.key, .int .i64 x.v.n, .string x.v.text, .slice x.p x.v.prev.length x.c, .int .i64 x.v.time] 37)) ∧ NumsAt ((w.alloc (.cells #[.map (some be), .map (some bp)] 76)).alloc (.cells #[.int .i64 x.v.id, .int .i64 x.v.room, .int .i64 x.v.author, .int .i64 x.v.kind, .int .i64 x.v.key, .int .i64 x.v.n, .string x.v.text, .slice x.p x.v.prev.length x.c, .int .i64 x.v.time] 37)) x.p x.v.prev) := by
    have hbw : Below w.heap.size w ((w.alloc (.cells #[.map (some be), .map (some bp)] 76)).alloc (.cells #[.int .i64 x.v.id, .int .i64 x.v.room, .int .i64 x.v.author, .int .i64 x.v.kind, .int .i64 x.v.key, .int .i64 x.v.n, .string x.v.text, .slice x.p x.v.prev.length x.c, .int .i64 x.v.time] 37)) := ((Below.refl _ _).alloc (Nat.le_refl _) _).alloc (by simp) _
    exact ⟨⟨Two.of hbw, (Below.heap_alloc _ _ _ (by simp)).trans (MapKept.heap_alloc w _).1, new_blockC _ _ _ (by simp), h.kept hbw, NumsOwn.nil _ _, hdis, Nat.zero_le _, fun m hm => lowM_of (h.nums m hm), ⟨hbe, hbp, hbel, hbpl, hne, hb⟩⟩, hn.kept hbw⟩
  clear h hx hn hdis
  go_enter Tryz.func53, Tryz.ntmps53
  go_wp2_with fail
  refine (holds_implG es ps be bp ne0 np0 x.v.id HX.out.2.2.2 _ HT0.out.1.st.e HT0.out.1.st.p).mono ?_
  rintro e w1 ⟨rfl, hb1⟩
  have HT1 : Hid (TK w base be bp ne0 np0 es ps x [] (.slice none 0 0) w1 ∧ NumsAt w1 x.p x.v.prev) := ⟨HT0.out.1.on hb1, HT0.out.2.kept hb1⟩
  clear hb1 HT0
  cases hh : heldV es ps x.v.id
  · have HH : Hid (¬ (x.v.id ∈ idsV (vs es) ∨ x.v.id ∈ idsV (vs ps))) := fun c => by rw [held_mem.2 c] at hh; cases hh
    have a0 : w1.cell? ⟨w.heap.size, 0, none⟩ = some (.map (some be)) := cell_of_heap HT1.out.1.sbox
    have a1 : w1.cell? ⟨w.heap.size, 1, none⟩ = some (.map (some bp)) := cell_of_heap HT1.out.1.sbox
    have a10 : w1.cell? ⟨w.heap.size + 1, 0, none⟩ = some (.int .i64 x.v.id) := cell_of_heap HT1.out.1.ebox
    have a11 : w1.cell? ⟨w.heap.size + 1, 1, none⟩ = some (.int .i64 x.v.room) := cell_of_heap HT1.out.1.ebox
    have a12 : w1.cell? ⟨w.heap.size + 1, 2, none⟩ = some (.int .i64 x.v.author) := cell_of_heap HT1.out.1.ebox
    have a13 : w1.cell? ⟨w.heap.size + 1, 3, none⟩ = some (.int .i64 x.v.kind) := cell_of_heap HT1.out.1.ebox
    have a14 : w1.cell? ⟨w.heap.size + 1, 4, none⟩ = some (.int .i64 x.v.key) := cell_of_heap HT1.out.1.ebox
    have a15 : w1.cell? ⟨w.heap.size + 1, 5, none⟩ = some (.int .i64 x.v.n) := cell_of_heap HT1.out.1.ebox
    have a16 : w1.cell? ⟨w.heap.size + 1, 6, none⟩ = some (.string x.v.text) := cell_of_heap HT1.out.1.ebox
    have a17 : w1.cell? ⟨w.heap.size + 1, 7, none⟩ = some (.slice x.p x.v.prev.length x.c) := cell_of_heap HT1.out.1.ebox
    have a18 : w1.cell? ⟨w.heap.size + 1, 8, none⟩ = some (.int .i64 x.v.time) := cell_of_heap HT1.out.1.ebox
    go_wp2_with fail
    refine (ready_impl es x be ne0 (.map (some bp)) w1 HT1.out.1.st.e.1 HT1.out.2 HX.out.1.2.1 ⟨_, rfl⟩).mono ?_
    rintro e w2 ⟨rfl, hb2⟩
    have HT2 : Hid (TK w base be bp ne0 np0 es ps x [] (.slice none 0 0) w2 ∧ NumsAt w2 x.p x.v.prev) := ⟨HT1.out.1.on hb2, HT1.out.2.kept hb2⟩
    clear hb2 hh HT1 a0 a1 a10 a11 a12 a13 a14 a15 a16 a17 a18
    have b0 : w2.cell? ⟨w.heap.size, 0, none⟩ = some (.map (some be)) := cell_of_heap HT2.out.1.sbox
    have b1 : w2.cell? ⟨w.heap.size, 1, none⟩ = some (.map (some bp)) := cell_of_heap HT2.out.1.sbox
    have b10 : w2.cell? ⟨w.heap.size + 1, 0, none⟩ = some (.int .i64 x.v.id) := cell_of_heap HT2.out.1.ebox
    have b11 : w2.cell? ⟨w.heap.size + 1, 1, none⟩ = some (.int .i64 x.v.room) := cell_of_heap HT2.out.1.ebox
    have b12 : w2.cell? ⟨w.heap.size + 1, 2, none⟩ = some (.int .i64 x.v.author) := cell_of_heap HT2.out.1.ebox
    have b13 : w2.cell? ⟨w.heap.size + 1, 3, none⟩ = some (.int .i64 x.v.kind) := cell_of_heap HT2.out.1.ebox
    have b14 : w2.cell? ⟨w.heap.size + 1, 4, none⟩ = some (.int .i64 x.v.key) := cell_of_heap HT2.out.1.ebox
    have b15 : w2.cell? ⟨w.heap.size + 1, 5, none⟩ = some (.int .i64 x.v.n) := cell_of_heap HT2.out.1.ebox
    have b16 : w2.cell? ⟨w.heap.size + 1, 6, none⟩ = some (.string x.v.text) := cell_of_heap HT2.out.1.ebox
    have b17 : w2.cell? ⟨w.heap.size + 1, 7, none⟩ = some (.slice x.p x.v.prev.length x.c) := cell_of_heap HT2.out.1.ebox
    have b18 : w2.cell? ⟨w.heap.size + 1, 8, none⟩ = some (.int .i64 x.v.time) := cell_of_heap HT2.out.1.ebox
    by_cases hl : es.length < 60
    · have hd : decide ((60 : Int) ≤ (es.length : Int)) = false := decide_eq_false (by omega)
      have hlp : ∀ ty, (Builtin.len_ #[74] ty #[.map (some bp)]).run Tryz.prog w2 = .ok (.int .i64 ps.length) w2 := fun ty => by have := HT2.out.1.st.p.1.len Tryz.underlying74 ty; rwa [HT2.out.1.st.p.size] at this
      cases hr : allIn (idsOf es) x.v.prev
      · by_cases hp : ps.length < 20
        · have hd2 : decide ((20 : Int) ≤ (ps.length : Int)) = false := decide_eq_false (by omega)
          have HP : Hid (putV (vs es) (vs ps) x.v = (0, vs es, vs (insE ps x), [])) := by
            unfold Hid putV
            rw [if_neg HH.out, if_neg (by rw [vs_length, vs_length]; omega), if_pos (by rw [← ids_vs]; exact hr), vs_insE]
          clear hr
          go_wp2_with (first
            | (at_len; refine wpList_len_own _ rfl _ 74 rfl 2 37 Tryz.underlying74 heldR be ne0 (putAll es) rfl HT2.out.1.st.e.1 ?_; rw [HT2.out.1.st.e.size])
            | (at_mapUpdate; refine wpList_mapUpdate_own _ rfl _ _ _ 74 rfl 2 37 K Tryz.underlying74 heldR bp np0 (putAll ps) rfl HT2.out.1.st.p.1 (by unfold maxLen; omega) _ _ _ rfl rfl HX.out.2.2.1 _ [] rfl ?_; intro w3 hown3 hgrow3; have H3 : Hid (ESt w3 be bp ne0 (np0 + 1) es (insE ps x) ∧ Two be bp w w3) := ⟨HT2.out.1.st.putP hne HX.out.1 HT2.out.2 (fun m hm e => HH.out (.inr (List.mem_map.2 ⟨m.v, List.mem_map.2 ⟨m, hm, rfl⟩, e⟩))) hp hown3 hgrow3, HT2.out.1.below.grown hgrow3 (.inr rfl)⟩; clear hown3 hgrow3))
          go_ret2
          exact ⟨H3.out.2, _, _, rfl, .inr ⟨rfl, _, _, _, _, _, HP.out, H3.out.1, NumsOwn.nil _ _, by simp⟩⟩
        · have hd2 : decide ((20 : Int) ≤ (ps.length : Int)) = true := decide_eq_true (by omega)
          have HP : Hid (putV (vs es) (vs ps) x.v = (9, [], [], [])) := by
            unfold Hid putV
            rw [if_neg HH.out, if_pos (.inr ⟨by rw [← ids_vs]; exact hr, by rw [vs_length]; omega⟩)]
          clear hr
          go_wp2_with (first
            | (at_len; refine wpList_len_own _ rfl _ 74 rfl 2 37 Tryz.underlying74 heldR be ne0 (putAll es) rfl HT2.out.1.st.e.1 ?_; rw [HT2.out.1.st.e.size]))
          go_ret2
          exact ⟨HT2.out.1.below, _, _, rfl, .inl ⟨by decide, by decide, HP.out⟩⟩
      · have HP : Hid (putV (vs es) (vs ps) x.v = (0, takeV (ps.length + 1) x.v (vs es) (vs ps) [])) := by
          unfold Hid putV
          have hr2 : allIn (idsV (vs es)) x.v.prev = true := by rw [← ids_vs]; exact hr
          rw [if_neg HH.out, if_neg (by rw [vs_length, hr2]; simp; omega), if_neg (by rw [hr2]; simp), vs_length]
        clear hr
        go_wp2_with (first
          | (at_len; refine wpList_len_own _ rfl _ 74 rfl 2 37 Tryz.underlying74 heldR be ne0 (putAll es) rfl HT2.out.1.st.e.1 ?_; rw [HT2.out.1.st.e.size]))
        refine (take_impl base be bp ne0 np0 es ps x w2 HT2.out.1.st HX.out.1 HT2.out.2 (fun m hm e => HH.out (.inl (List.mem_map.2 ⟨m.v, List.mem_map.2 ⟨m, hm, rfl⟩, e⟩))) HD.out hbe hbp hne (Nat.le_trans hb HT2.out.1.below.size) hne0).mono ?_
        rintro e w3 ⟨v3, es3, ps3, ne3, np3, ad3, rfl, hf3, hst3, hown3, hb3, -, -, hadl⟩
        have H3 : Hid (ESt w3 be bp ne3 np3 es3 ps3 ∧ NumsOwn w3 w2.heap.size v3 ad3 ∧ Two be bp w w3 ∧ putV (vs es) (vs ps) x.v = (0, vs es3, vs ps3, ad3)) := ⟨hst3, hown3, HT2.out.1.below.trans hb3, by rw [HP.out, hf3]⟩
        have hz2 : w.heap.size ≤ w2.heap.size := HT2.out.1.below.size
        clear hf3 hst3 hown3 hb3
        go_wp2
        go_ret2
        exact ⟨H3.out.2.2.1, _, _, rfl, .inr ⟨rfl, _, _, _, _, _, H3.out.2.2.2, H3.out.1, owns_baseC H3.out.2.1 hz2, hadl⟩⟩
    · have hd : decide ((60 : Int) ≤ (es.length : Int)) = true := decide_eq_true (by omega)
      have HP : Hid (putV (vs es) (vs ps) x.v = (9, [], [], [])) := by
        unfold Hid putV
        rw [if_neg HH.out, if_pos (.inl (by rw [vs_length]; omega))]
      go_wp2_with (first
        | (at_len; refine wpList_len_own _ rfl _ 74 rfl 2 37 Tryz.underlying74 heldR be ne0 (putAll es) rfl HT2.out.1.st.e.1 ?_; rw [HT2.out.1.st.e.size]))
      go_ret2
      exact ⟨HT2.out.1.below, _, _, rfl, .inl ⟨by decide, by decide, HP.out⟩⟩
  · have HP : Hid (putV (vs es) (vs ps) x.v = (7, [], [], [])) := by
      unfold Hid putV
      rw [if_pos (held_mem.1 hh)]
    clear hh
    go_wp2
    go_ret2
    exact ⟨HT1.out.1.below, _, _, rfl, .inl ⟨by decide, by decide, HP.out⟩⟩
end Go.Proofs.YtobkinocaomcmaaGreat
