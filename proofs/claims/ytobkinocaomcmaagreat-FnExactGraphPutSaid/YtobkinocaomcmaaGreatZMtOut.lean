/- How much GraphPut answers at most: plain. Marks in what GraphPut answers, and two answers held against each other. -/
import Derived.Test.YtobkinocaomcmaaGreatZGpImpl
import Derived.Test.YtobkinocaomcmaaGreatZGrOpen
import Derived.Test.YtobkinocaomcmaaGreatZMtRow
namespace Go.Proofs.YtobkinocaomcmaaGreat

theorem takeV_lim : ∀ (n : Nat) (e : Ev) (es ps : List Ev) (ad : List Int), es.length ≤ 60 →
    (takeV n e es ps ad).1.length ≤ 60 ∧ (takeV n e es ps ad).2.1.length ≤ ps.length ∧ (takeV n e es ps ad).2.2.length ≤ ad.length + n ∧ ∀ v, v ∈ (takeV n e es ps ad).1 ∨ v ∈ (takeV n e es ps ad).2.1 → v = e ∨ v ∈ es ∨ v ∈ ps
  | 0, e, es, ps, ad, h => by
    rw [takeV]
    exact ⟨h, Nat.le_refl _, by simp, fun v hv => .inr hv⟩
  | n + 1, e, es, ps, ad, h => by
    have h1 : (if es.length < 60 then insV es e else es).length ≤ 60 := by
      split
      · rw [insV_length]; omega
      · exact h
    have h2 : (woV ps e.id).length ≤ ps.length := woV_length _ _
    have h3 : (if es.length < 60 then ad ++ [e.id] else ad).length ≤ ad.length + 1 := by
      split
      · simp
      · omega
    have h4 : ∀ v, v ∈ (if es.length < 60 then insV es e else es) ∨ v ∈ woV ps e.id → v = e ∨ v ∈ es ∨ v ∈ ps := fun v hv => by
      rcases hv with hv | hv
      · split at hv
        · rcases mem_insV.1 hv with rfl | h5
          · exact .inl rfl
          · exact .inr (.inl h5)
        · exact .inr (.inl hv)
      · exact .inr (.inr (mem_woV.1 hv).1)
    cases hf : freeV (if es.length < 60 then insV es e else es) (woV ps e.id) with
    | none =>
      rw [takeV_end hf]
      exact ⟨h1, h2, by have := h3; simp only; omega, h4⟩
    | some k =>
      have hk := freeV_lt hf
      rw [takeV_more hf hk]
      obtain ⟨i1, i2, i3, i4⟩ := takeV_lim n (woV ps e.id)[k] _ (woV ps e.id) (if es.length < 60 then ad ++ [e.id] else ad) h1
      refine ⟨i1, by omega, by omega, fun v hv => ?_⟩
      rcases i4 v hv with rfl | h5 | h5
      · exact .inr (.inr (mem_woV.1 (List.getElem_mem hk)).1)
      · exact h4 v (.inl h5)
      · exact h4 v (.inr h5)
theorem gpV_lim (g : Gr) (x : Em) : (gpV g x).2.1.length ≤ 60 ∧ (gpV g x).2.2.1.length ≤ 20 ∧ (gpV g x).2.2.2.length ≤ 21 ∧ ∀ v, v ∈ (gpV g x).2.1 ∨ v ∈ (gpV g x).2.2.1 → v.prev.length ≤ 4 := by
  by_cases hg : rightG g = true ∧ rightB x.v = true ∧ x.v.room = g.room
  · rw [gp_good hg.1 hg.2.1 hg.2.2]
    obtain ⟨_, _, hok, hl1, hl2, _⟩ := right_parts hg.1
    have hx : x.v.prev.length ≤ 4 := (right_ok hg.2.1).2.2.2
    have ho : ∀ v, v = x.v ∨ v ∈ vs g.evs ∨ v ∈ vs g.pk → v.prev.length ≤ 4 := fun v hv => by
      rcases hv with rfl | hv | hv
      · exact hx
      · obtain ⟨m, hm, rfl⟩ := List.mem_map.1 hv
        exact (hok m (.inl hm)).2.2.2
      · obtain ⟨m, hm, rfl⟩ := List.mem_map.1 hv
        exact (hok m (.inr hm)).2.2.2
    have l1 := vs_length g.evs
    have l2 := vs_length g.pk
    unfold putV
    split
    · simp
    · split
      · simp
      · rename_i hc
        split
        · rename_i ha
          refine ⟨by simp only; omega, ?_, by simp, fun v hv => ?_⟩
          · simp only [insV_length]
            have : ¬ 20 ≤ (vs g.pk).length := fun c => hc (.inr ⟨ha, c⟩)
            omega
          · rcases hv with hv | hv
            · exact ho v (.inr (.inl hv))
            · rcases mem_insV.1 hv with rfl | h5
              · exact ho _ (.inl rfl)
              · exact ho v (.inr (.inr h5))
        · obtain ⟨i1, i2, i3, i4⟩ := takeV_lim ((vs g.pk).length + 1) x.v (vs g.evs) (vs g.pk) [] (by omega)
          exact ⟨i1, by simp only; omega, by simp only [List.length_nil] at i3; simp only; omega, fun v hv => ho v (i4 v hv)⟩
  · rw [gp_bad hg]
    simp
theorem gpV_same {g g' : Gr} {x x' : Em} (hr : g'.room = g.room) (he : g'.evs.map (·.v) = g.evs.map (·.v)) (hp : g'.pk.map (·.v) = g.pk.map (·.v)) (hx : x'.v = x.v) : gpV g' x' = gpV g x := by
  unfold gpV
  rw [rightG_same hr he hp, hx, hr]
  unfold vs
  rw [he, hp]
end Go.Proofs.YtobkinocaomcmaaGreat
namespace Go.Proofs.YtobkinocaomcmaaGreat
open Go.RowKit

/-- An answer in memory: its two rows of events, and what was added. -/
structure GS (P : Int × List Ev × List Ev × List Int) (n1 n2 n3 : Nat) (a1 a2 a3 : Option Addr) (r1 r2 : List Em) (V : World) : Prop where
  e1 : EvsAt V a1 r1
  e2 : EvsAt V a2 r2
  n : NumsAt V a3 P.2.2.2
  s1 : vs r1 = P.2.1
  s2 : vs r2 = P.2.2.1
  l1 : r1.length = n1
  l2 : r2.length = n2
  l3 : P.2.2.2.length = n3
theorem GS.kept {P : Int × List Ev × List Ev × List Int} {n1 n2 n3 : Nat} {a1 a2 a3 : Option Addr} {r1 r2 : List Em} {V V' : World} (h : GS P n1 n2 n3 a1 a2 a3 r1 r2 V) (hb : Below V.heap.size V V') : GS P n1 n2 n3 a1 a2 a3 r1 r2 V' :=
  ⟨h.e1.kept hb, h.e2.kept hb, h.n.kept hb, h.s1, h.s2, h.l1, h.l2, h.l3⟩
set_option maxHeartbeats 4000000 in
set_option maxRecDepth 100000 in
theorem eq_graphOut (P : Int × List Ev × List Ev × List Int) (n1 n2 n3 : Nat) (room code : Int) (a1 a2 a3 b1 b2 b3 : Option Addr) (r1 r2 q1 q2 : List Em) (c1 c2 c3 d1 d2 d3 : Nat) (w : World) (h : GS P n1 n2 n3 a1 a2 a3 r1 r2 w) (k : GS P n1 n2 n3 b1 b2 b3 q1 q2 w) :
    Calls Tryz.prog 12 #[.agg #[.int .i64 room, .slice a1 n1 c1, .slice a2 n2 c2, .slice a3 n3 c3, .int .i64 code], .agg #[.int .i64 room, .slice b1 n1 d1, .slice b2 n2 d2, .slice b3 n3 d3, .int .i64 code]] w fun e w' => e = .returned (.bool true) ∧ Below w.heap.size w w' := by
  have HE : Hid (∀ w', Below w.heap.size w w' → GS P n1 n2 n3 a1 a2 a3 r1 r2 w' ∧ GS P n1 n2 n3 b1 b2 b3 q1 q2 w') := fun w' hb => ⟨h.kept hb, k.kept hb⟩
  have HB : Hid (∀ o1 o2, Below w.heap.size w ((w.alloc o1).alloc o2)) := fun o1 o2 => ((Below.refl _ _).alloc (Nat.le_refl _) _).alloc (by simp) _
  have HQ : ∀ W, Below w.heap.size w W → Calls Tryz.prog 13 #[.agg #[.int .i64 room, .slice a1 n1 c1, .slice a2 n2 c2], .agg #[.int .i64 room, .slice b1 n1 d1, .slice b2 n2 d2]] W fun e w' => e = .returned (.bool true) ∧ Below W.heap.size W w' := fun W hb => by
    obtain ⟨g1, g2⟩ := HE.out W hb
    have hs1 : r1.map (·.v) = q1.map (·.v) := g1.s1.trans g2.s1.symm
    have hs2 : r2.map (·.v) = q2.map (·.v) := g1.s2.trans g2.s2.symm
    have := eq_graph ⟨room, r1, r2⟩ ⟨room, q1, q2⟩ a1 a2 b1 b2 c1 c2 d1 d2 W g1.e1 g1.e2 g2.e1 g2.e2 hs1 hs2
    simp only [g1.l1, g1.l2] at this
    exact this
  have HQN : ∀ W, Below w.heap.size w W → Calls Tryz.prog 21 #[.slice a3 n3 c3, .slice b3 n3 d3] W fun e w' => e = .returned (.bool true) ∧ Below W.heap.size W w' := fun W hb => by
    obtain ⟨g1, g2⟩ := HE.out W hb
    have := eq_nums P.2.2.2 a3 b3 c3 d3 W g1.n g2.n
    rw [g1.l3] at this
    exact this
  clear h k
  go_enter Tryz.func12, Tryz.ntmps12
  go_wp2_with fail
  refine (HQ _ (HB.out _ _)).mono ?_
  rintro e w1 ⟨rfl, hb1⟩
  obtain ⟨hc1, hf1⟩ := bcell hb1
  have hz1 : w.heap.size + 1 < w1.heap.size := by have := hb1.size; simp at this; omega
  have hy1 : w.heap.size < w1.heap.size := by omega
  have HW1 : Hid (Below w.heap.size w w1) := (HB.out _ _).trans (hb1.mono (by simp; omega))
  clear hb1
  go_wp2_with fail
  refine (HQN _ HW1.out).mono ?_
  rintro e w2 ⟨rfl, hb2⟩
  obtain ⟨hc2, hf2⟩ := bcell hb2
  have HW2 : Hid (Below w.heap.size w w2) := HW1.out.trans (hb2.mono HW1.out.size)
  clear hb2
  go_wp2
  go_ret
  exact ⟨rfl, HW2.out⟩
/-- An answer that owns its memory: where its rows lie. -/
structure GA (P : Int × List Ev × List Ev × List Int) (n1 n2 n3 : Nat) (base mid mid2 hi : Nat) (a1 a2 a3 : Option Addr) (k1 k2 k3 : Nat) (r1 r2 : List Em) (V : World) : Prop where
  lo : base ≤ mid
  mm : mid ≤ mid2
  m3 : mid2 ≤ hi
  m4 : hi ≤ V.heap.size
  o1 : EvOut mid V (.slice a1 r1.length k1) r1
  u1 : OutUnder mid2 (.slice a1 r1.length k1) r1
  o2 : EvOut mid2 V (.slice a2 r2.length k2) r2
  u2 : OutUnder hi (.slice a2 r2.length k2) r2
  o3 : NumsOwn V base (.slice a3 P.2.2.2.length k3) P.2.2.2
  u3 : ∀ q, (Value.slice a3 P.2.2.2.length k3).ownBlock = some q → q < mid
  s1 : vs r1 = P.2.1
  s2 : vs r2 = P.2.2.1
  l1 : r1.length = n1
  l2 : r2.length = n2
  l3 : P.2.2.2.length = n3
theorem GA.kept {P : Int × List Ev × List Ev × List Int} {n1 n2 n3 base mid mid2 hi : Nat} {a1 a2 a3 : Option Addr} {k1 k2 k3 : Nat} {r1 r2 : List Em} {V V' : World} (h : GA P n1 n2 n3 base mid mid2 hi a1 a2 a3 k1 k2 k3 r1 r2 V) (hb : Below V.heap.size V V') : GA P n1 n2 n3 base mid mid2 hi a1 a2 a3 k1 k2 k3 r1 r2 V' :=
  ⟨h.lo, h.mm, h.m3, Nat.le_trans h.m4 hb.size, h.o1.kept hb, h.u1, h.o2.kept hb, h.u2, rowI_kept h.o3 hb, h.u3, h.s1, h.s2, h.l1, h.l2, h.l3⟩
theorem owns_wk {w w' : World} {lo hi base n k : Nat} {e : TypeId} {u : Value} {xs : List Value} (h : w.ownsRow base e k u n xs) (hw : Wk lo hi w w') (hb : hi ≤ base) : w'.ownsRow base e k u n xs := by
  rcases h.2 with h1 | ⟨g, cap, cur, hv, hbg, hh, r⟩
  · exact ⟨h.1, .inl h1⟩
  · exact ⟨h.1, .inr ⟨g, cap, cur, hv, hbg, (hw.block g (Array.getElem?_eq_some_iff.1 hh).1 (by omega)).trans hh, r⟩⟩
theorem EvOut.wk {base lo hi : Nat} {W W' : World} {v : Value} {rs : List Em} (h : EvOut base W v rs) (hw : Wk lo hi W W') (hb : hi ≤ base) : EvOut base W' v rs :=
  ⟨owns_wk h.own hw hb, fun m hm => owns_wk (h.nums m hm) hw hb, h.apart⟩
theorem GA.wk {P : Int × List Ev × List Ev × List Int} {n1 n2 n3 base mid mid2 hi lo h2 : Nat} {a1 a2 a3 : Option Addr} {k1 k2 k3 : Nat} {r1 r2 : List Em} {V V' : World} (h : GA P n1 n2 n3 base mid mid2 hi a1 a2 a3 k1 k2 k3 r1 r2 V) (hw : Wk lo h2 V V') (hb : h2 ≤ base) : GA P n1 n2 n3 base mid mid2 hi a1 a2 a3 k1 k2 k3 r1 r2 V' := by
  have h3 := h.lo
  have h4 := h.mm
  exact ⟨h.lo, h.mm, h.m3, Nat.le_trans h.m4 hw.size, h.o1.wk hw (by omega), h.u1, h.o2.wk hw (by omega), h.u2, owns_wk h.o3 hw hb, h.u3, h.s1, h.s2, h.l1, h.l2, h.l3⟩
/-- Of at most so many, with rows of at most four numbers. -/
structure Lim (P : Int × List Ev × List Ev × List Int) : Prop where
  l1 : P.2.1.length ≤ 60
  l2 : P.2.2.1.length ≤ 20
  l3 : P.2.2.2.length ≤ 21
  prev : ∀ v, v ∈ P.2.1 ∨ v ∈ P.2.2.1 → v.prev.length ≤ 4
theorem gpV_Lim (g : Gr) (x : Em) : Lim (gpV g x) := ⟨(gpV_lim g x).1, (gpV_lim g x).2.1, (gpV_lim g x).2.2.1, (gpV_lim g x).2.2.2⟩
theorem lim_prev {l : List Ev} {r : List Em} (h : vs r = l) (hp : ∀ v ∈ l, v.prev.length ≤ 4) : ∀ m ∈ r, m.v.prev.length ≤ 4 := fun m hm => hp _ (by rw [← h]; exact List.mem_map.2 ⟨m, hm, rfl⟩)
theorem GA.gs {P : Int × List Ev × List Ev × List Int} {n1 n2 n3 base mid mid2 hi : Nat} {a1 a2 a3 : Option Addr} {k1 k2 k3 : Nat} {r1 r2 : List Em} {V : World} (h : GA P n1 n2 n3 base mid mid2 hi a1 a2 a3 k1 k2 k3 r1 r2 V) (hl : Lim P) : GS P n1 n2 n3 a1 a2 a3 r1 r2 V := by
  have p1 := lim_prev h.s1 (fun v hv => hl.prev v (.inl hv))
  have p2 := lim_prev h.s2 (fun v hv => hl.prev v (.inr hv))
  have e1 : r1.length ≤ 60 := by rw [← vs_length, h.s1]; exact hl.l1
  have e2 : r2.length ≤ 20 := by rw [← vs_length, h.s2]; exact hl.l2
  have e3 := hl.l3
  obtain ⟨b1, d1, hv1, q1⟩ := h.o1.at (by omega) (fun m hm => by have := p1 m hm; omega)
  obtain ⟨b2, d2, hv2, q2⟩ := h.o2.at (by omega) (fun m hm => by have := p2 m hm; omega)
  obtain ⟨b3, d3, hv3, _, q3, _⟩ := h.o3.at (by omega)
  cases hv1
  cases hv2
  cases hv3
  exact ⟨q1, q2, q3, h.s1, h.s2, h.l1, h.l2, h.l3⟩
theorem kAt_lim {k : Nat} {es : List Em} (hp : ∀ m ∈ es, m.v.prev.length ≤ 4) : kAt k es es.length ≤ k + 12 * es.length := by
  have key : ∀ l : List Em, (∀ m ∈ l, m.v.prev.length ≤ 4) → (l.map fun m => m.v.prev.length + 8).sum ≤ 12 * l.length := fun l => by
    induction l with
    | nil => intro _; simp
    | cons m l ih =>
      intro h
      have h1 := h m (by simp)
      have h2 := ih fun q hq => h q (by simp [hq])
      simp only [List.map_cons, List.sum_cons, List.length_cons]
      omega
  unfold kAt
  rw [List.take_length]
  have := key es hp
  omega
/-- An answer that is marked. -/
structure GK (base mid mid2 hi : Nat) (n3 : Nat) (a1 a2 a3 : Option Addr) (r1 r2 : List Em) (K1 K2 : Nat) (V : World) : Prop where
  k1 : K1 = kAt 1 r1 r1.length
  k2 : K2 = kAt K1 r2 r2.length
  b1 : K1 ≤ 1000
  b2 : K2 ≤ 2000
  b3 : n3 ≤ 21
  h1 : HeldR mid mid2 a1 r1 1 V
  h2 : HeldR mid2 hi a2 r2 K1 V
  h3 : MarksI V a3 n3 (K2 : Nat)
theorem GK.kept {base mid mid2 hi n3 : Nat} {a1 a2 a3 : Option Addr} {r1 r2 : List Em} {K1 K2 : Nat} {V V' : World} (h : GK base mid mid2 hi n3 a1 a2 a3 r1 r2 K1 K2 V) (hb : Below V.heap.size V V') : GK base mid mid2 hi n3 a1 a2 a3 r1 r2 K1 K2 V' :=
  ⟨h.k1, h.k2, h.b1, h.b2, h.b3, h.h1.kept hb, h.h2.kept hb, h.h3.kept hb⟩
set_option maxHeartbeats 8000000 in
set_option maxRecDepth 100000 in
theorem mark_graphR (n1 n2 : Nat) (room : Int) (a1 a2 : Option Addr) (k1 k2 : Nat) (r1 r2 : List Em) (mid mid2 hi : Nat) (w : World) (o1 : EvOut mid w (.slice a1 r1.length k1) r1) (u1 : OutUnder mid2 (.slice a1 r1.length k1) r1) (o2 : EvOut mid2 w (.slice a2 r2.length k2) r2) (u2 : OutUnder hi (.slice a2 r2.length k2) r2) (hh : hi ≤ w.heap.size) (hm : mid ≤ mid2) (hm2 : mid2 ≤ hi)
    (l1 : r1.length = n1) (l2 : r2.length = n2) (hl1 : r1.length ≤ 60) (hl2 : r2.length ≤ 20) (hp1 : ∀ m ∈ r1, m.v.prev.length ≤ 4) (hp2 : ∀ m ∈ r2, m.v.prev.length ≤ 4) :
    Calls Tryz.prog 15 #[.agg #[.int .i64 room, .slice a1 n1 k1, .slice a2 n2 k2], .int .i64 1] w fun e w' => ∃ K1 K2, e = .returned (.int .i64 (K2 : Nat)) ∧ K1 = kAt 1 r1 r1.length ∧ K2 = kAt K1 r2 r2.length ∧ K1 ≤ 1000 ∧ K2 ≤ 2000 ∧ HeldR mid mid2 a1 r1 1 w' ∧ HeldR mid2 hi a2 r2 K1 w' ∧ Wk mid hi w w' := by
  have hz : w.heap.size ≥ hi := hh
  have HA : Hid (∀ o, EvOut mid (w.alloc o) (.slice a1 r1.length k1) r1 ∧ EvOut mid2 (w.alloc o) (.slice a2 r2.length k2) r2) := fun o => ⟨o1.kept ((Below.refl _ _).alloc (Nat.le_refl _) o), o2.kept ((Below.refl _ _).alloc (Nat.le_refl _) o)⟩
  have HU : Hid (OutUnder mid2 (.slice a1 r1.length k1) r1 ∧ OutUnder hi (.slice a2 r2.length k2) r2) := ⟨u1, u2⟩
  obtain ⟨K1, HK1⟩ : ∃ K1, Hid (K1 = kAt 1 r1 r1.length) := ⟨_, rfl⟩
  obtain ⟨K2, HK2⟩ : ∃ K2, Hid (K2 = kAt K1 r2 r2.length) := ⟨_, rfl⟩
  have hK1 : K1 ≤ 1000 := by have := kAt_lim (k := 1) hp1; have := HK1.out; omega
  have hK2 : K2 ≤ 2000 := by have := kAt_lim (k := K1) hp2; have := HK2.out; omega
  have HC1 : ∀ o, Calls Tryz.prog 56 #[.slice a1 n1 k1, .int .i64 1] (w.alloc o) fun e w' => e = .returned (.int .i64 (K1 : Nat)) ∧ Wk mid mid2 (w.alloc o) w' ∧ HeldR mid mid2 a1 r1 1 w' := fun o => by
    have := mark_rowsK r1 1 1 rfl a1 k1 mid mid2 (w.alloc o) (HA.out o).1 HU.out.1 (by omega) (by have := HK1.out; omega)
    rw [l1, ← l1, ← HK1.out] at this
    rw [← l1]
    exact this
  have HC2 : ∀ W, EvOut mid2 W (.slice a2 r2.length k2) r2 → Calls Tryz.prog 56 #[.slice a2 n2 k2, .int .i64 (K1 : Nat)] W fun e w' => e = .returned (.int .i64 (K2 : Nat)) ∧ Wk mid2 hi W w' ∧ HeldR mid2 hi a2 r2 K1 w' := fun W hW => by
    have := mark_rowsK r2 K1 K1 rfl a2 k2 mid2 hi W hW HU.out.2 (by omega) (by have := HK2.out; omega)
    rw [← HK2.out] at this
    rw [← l2]
    exact this
  clear o1 u1 o2 u2 hp1 hp2
  go_enter Tryz.func15, Tryz.ntmps15
  go_wp2_with fail
  refine (HC1 _).mono ?_
  rintro e w1 ⟨rfl, hw1, hh1⟩
  have hx2 : w1.cell? ⟨w.heap.size, 2, none⟩ = some (.slice a2 n2 k2) := by
    rw [World.cell?_of_block (a := ⟨w.heap.size, 2, none⟩) (hw1.block w.heap.size (by simp) (.inr (by omega)))]
    simp [go_sem]
  have H1 : Hid (EvOut mid2 w1 (.slice a2 r2.length k2) r2 ∧ HeldR mid mid2 a1 r1 1 w1 ∧ Wk mid hi w w1) := ⟨(HA.out _).2.wk hw1 (Nat.le_refl _), hh1, (Wk.below ((Below.refl _ _).alloc (Nat.le_refl _) _)).trans (hw1.mono (Nat.le_refl _) hm2)⟩
  clear hw1 hh1
  go_wp2_with fail
  refine (HC2 _ H1.out.1).mono ?_
  rintro e w2 ⟨rfl, hw2, hh2⟩
  have H2 : Hid (HeldR mid mid2 a1 r1 1 w2 ∧ HeldR mid2 hi a2 r2 K1 w2 ∧ Wk mid hi w w2) := ⟨H1.out.2.1.wk hw2 (.inl (Nat.le_refl _)), hh2, H1.out.2.2.trans (hw2.mono hm (Nat.le_refl _))⟩
  clear hw2 hh2 H1
  go_wp2
  go_ret
  exact ⟨K1, K2, rfl, HK1.out, HK2.out, hK1, hK2, H2.out.1, H2.out.2.1, H2.out.2.2⟩
set_option maxHeartbeats 8000000 in
set_option maxRecDepth 100000 in
theorem held_graphR (n1 n2 : Nat) (room : Int) (a1 a2 : Option Addr) (k1 k2 : Nat) (r1 r2 : List Em) (mid mid2 hi K1 K2 : Nat) (w : World) (l1 : r1.length = n1) (l2 : r2.length = n2) (e1 : K1 = kAt 1 r1 r1.length) (e2 : K2 = kAt K1 r2 r2.length) (b1 : K1 ≤ 1000) (b2 : K2 ≤ 2000) (h1 : HeldR mid mid2 a1 r1 1 w) (h2 : HeldR mid2 hi a2 r2 K1 w) :
    Calls Tryz.prog 57 #[.agg #[.int .i64 room, .slice a1 n1 k1, .slice a2 n2 k2], .int .i64 1] w fun e w' => e = .returned (.int .i64 (K2 : Nat)) ∧ Below w.heap.size w w' := by
  have HB : Hid (∀ o, Below w.heap.size w (w.alloc o)) := fun o => (Below.refl _ _).alloc (Nat.le_refl _) o
  have HC1 : ∀ W, Below w.heap.size w W → Calls Tryz.prog 101 #[.slice a1 n1 k1, .int .i64 1] W fun e w' => e = .returned (.int .i64 (K1 : Nat)) ∧ Below W.heap.size W w' := fun W hb => by
    have := held_rowsK r1 1 1 rfl a1 k1 mid mid2 W (h1.kept hb) (by omega)
    rw [← e1] at this
    rw [← l1]
    exact this
  have HC2 : ∀ W, Below w.heap.size w W → Calls Tryz.prog 101 #[.slice a2 n2 k2, .int .i64 (K1 : Nat)] W fun e w' => e = .returned (.int .i64 (K2 : Nat)) ∧ Below W.heap.size W w' := fun W hb => by
    have := held_rowsK r2 K1 K1 rfl a2 k2 mid2 hi W (h2.kept hb) (by omega)
    rw [← e2] at this
    rw [← l2]
    exact this
  clear h1 h2 e1 e2
  go_enter Tryz.func57, Tryz.ntmps57
  go_wp2_with fail
  refine (HC1 _ (HB.out _)).mono ?_
  rintro e w1 ⟨rfl, hb1⟩
  obtain ⟨hc1, hf1⟩ := bcell hb1
  have hz1 : w.heap.size < w1.heap.size := by have := hb1.size; simp at this; omega
  have HW1 : Hid (Below w.heap.size w w1) := (HB.out _).trans (hb1.mono (by simp))
  clear hb1
  go_wp2_with fail
  refine (HC2 _ HW1.out).mono ?_
  rintro e w2 ⟨rfl, hb2⟩
  have HW2 : Hid (Below w.heap.size w w2) := HW1.out.trans (hb2.mono HW1.out.size)
  clear hb2
  go_wp2
  go_ret
  exact ⟨rfl, HW2.out⟩
set_option maxHeartbeats 8000000 in
set_option maxRecDepth 100000 in
theorem mark_graphOutK (P : Int × List Ev × List Ev × List Int) (n1 n2 n3 : Nat) (base mid mid2 hi : Nat) (room code : Int) (a1 a2 a3 : Option Addr) (k1 k2 k3 : Nat) (r1 r2 : List Em) (w : World) (h : GA P n1 n2 n3 base mid mid2 hi a1 a2 a3 k1 k2 k3 r1 r2 w) (hl : Lim P) :
    Calls Tryz.prog 17 #[.agg #[.int .i64 room, .slice a1 n1 k1, .slice a2 n2 k2, .slice a3 n3 k3, .int .i64 code], .int .i64 1] w fun e w' => ∃ K1 K2 : Nat, e = .returned (.int .i64 ((K2 : Int) + (n3 : Int))) ∧ GK base mid mid2 hi n3 a1 a2 a3 r1 r2 K1 K2 w' ∧ Wk base hi w w' := by
  have H : Hid (∀ o, GA P n1 n2 n3 base mid mid2 hi a1 a2 a3 k1 k2 k3 r1 r2 (w.alloc o)) := fun o => h.kept ((Below.refl _ _).alloc (Nat.le_refl _) o)
  have hz := h.m4
  have hm1 := h.lo
  have hm2 := h.mm
  have hm3 := h.m3
  have HN3 : Hid (P.2.2.2.length = n3) := h.l3
  have hn3 : n3 ≤ 21 := by rw [← h.l3]; exact hl.l3
  have HCG : ∀ W, GA P n1 n2 n3 base mid mid2 hi a1 a2 a3 k1 k2 k3 r1 r2 W → _ := fun W hW => mark_graphR n1 n2 room a1 a2 k1 k2 r1 r2 mid mid2 hi W hW.o1 hW.u1 hW.o2 hW.u2 hW.m4 hW.mm hW.m3 hW.l1 hW.l2 (by rw [← vs_length, hW.s1]; exact hl.l1) (by rw [← vs_length, hW.s2]; exact hl.l2) (lim_prev hW.s1 fun v hv => hl.prev v (.inl hv)) (lim_prev hW.s2 fun v hv => hl.prev v (.inr hv))
  clear h hl
  go_enter Tryz.func17, Tryz.ntmps17
  go_wp2_with fail
  refine (HCG _ (H.out _)).mono ?_
  rintro e w1 ⟨K1, K2, rfl, hk1, hk2, hb1, hb2, hh1, hh2, hw1⟩
  have hx3 : w1.cell? ⟨w.heap.size, 3, none⟩ = some (.slice a3 n3 k3) := by
    rw [World.cell?_of_block (a := ⟨w.heap.size, 3, none⟩) (hw1.block w.heap.size (by simp) (.inr hz))]
    simp [go_sem]
  have HO : Hid (∀ W, W.heap.size ≥ w1.heap.size → (∀ b, b < w1.heap.size → b < mid → W.heap[b]? = w1.heap[b]?) → NumsOwn W base (.slice a3 P.2.2.2.length k3) P.2.2.2) := fun W _ hW => by
    have h3 := (H.out (.cells #[.int .i64 room, .slice a1 n1 k1, .slice a2 n2 k2, .slice a3 n3 k3, .int .i64 code] 34)).o3
    have u3 := (H.out (.cells #[.int .i64 room, .slice a1 n1 k1, .slice a2 n2 k2, .slice a3 n3 k3, .int .i64 code] 34)).u3
    refine ⟨h3.1, ?_⟩
    rcases h3.2 with hn | ⟨g, cp, cur, hv, hbg, hg, r⟩
    · exact .inl hn
    · have hgm : g < mid := u3 g (by rw [hv]; rfl)
      have hgs := (Array.getElem?_eq_some_iff.1 hg).1
      exact .inr ⟨g, cp, cur, hv, hbg, (hW g (Nat.lt_of_lt_of_le hgs hw1.size) hgm).trans ((hw1.block g hgs (.inl hgm)).trans hg), r⟩
  have HB1 : Hid (K1 = kAt 1 r1 r1.length ∧ K2 = kAt K1 r2 r2.length ∧ HeldR mid mid2 a1 r1 1 w1 ∧ HeldR mid2 hi a2 r2 K1 w1 ∧ Wk base hi w w1) := ⟨hk1, hk2, hh1, hh2, (Wk.below ((Below.refl _ _).alloc (Nat.le_refl _) _)).trans (hw1.mono hm1 (Nat.le_refl _))⟩
  have hno : NumsOwn w1 base (.slice a3 P.2.2.2.length k3) P.2.2.2 := HO.out w1 (Nat.le_refl _) (fun _ _ _ => rfl)
  have HBK : Hid (∀ q, a3 = some ⟨q, 0, none⟩ → base ≤ q ∧ q < mid) := fun q hq => by
    have h3 := hno
    have u3 := (H.out (.cells #[.int .i64 room, .slice a1 n1 k1, .slice a2 n2 k2, .slice a3 n3 k3, .int .i64 code] 34)).u3
    rcases h3.2 with ⟨hn, _⟩ | ⟨g, cp, cur, hv, hbg, hg, r⟩
    · injection hn with hp
      rw [hp] at hq
      cases hq
    · injection hv with hp
      rw [hp] at hq
      have e : g = q := by simpa using hq
      rw [← e]
      exact ⟨hbg, u3 g (by rw [hp]; rfl)⟩
  have hsp : SpotI w1 a3 n3 := by rw [← HN3.out]; exact spot_of hno
  clear hk1 hk2 hh1 hh2 hw1 hno HO
  go_wp2_with fail
  refine (mark_intsZ (K2 : Int) K2 n3 rfl a3 k3 (by omega) w1 hsp).mono ?_
  rintro e w2 ⟨rfl, hm, hmz⟩
  have HF : Hid (GK base mid mid2 hi n3 a1 a2 a3 r1 r2 K1 K2 w2 ∧ Wk base hi w w2) := by
    obtain ⟨q1, q2, q3, q4, q5⟩ := HB1.out
    have hmk := hm.marks
    rcases hm with ⟨_, rfl⟩ | ⟨b, hb, ho, _⟩
    · exact ⟨⟨q1, q2, hb1, hb2, hn3, q3, q4, hmk⟩, q5⟩
    · have hbb := HBK.out b hb
      have hwk := ho.wk
      exact ⟨⟨q1, q2, hb1, hb2, hn3, q3.wk hwk (.inr (by omega)), q4.wk hwk (.inr (by omega)), hmk⟩, q5.trans (hwk.mono (by omega) (by omega))⟩
  clear hm hmz hsp HB1
  go_wp2
  go_ret
  exact ⟨K1, K2, rfl, HF.out.1, HF.out.2⟩
set_option maxHeartbeats 8000000 in
set_option maxRecDepth 100000 in
theorem held_graphOutK (n1 n2 n3 : Nat) (base mid mid2 hi : Nat) (room code : Int) (a1 a2 a3 : Option Addr) (k1 k2 k3 : Nat) (r1 r2 : List Em) (K1 K2 : Nat) (w : World) (l1 : r1.length = n1) (l2 : r2.length = n2) (h : GK base mid mid2 hi n3 a1 a2 a3 r1 r2 K1 K2 w) :
    Calls Tryz.prog 18 #[.agg #[.int .i64 room, .slice a1 n1 k1, .slice a2 n2 k2, .slice a3 n3 k3, .int .i64 code], .int .i64 1] w fun e w' => e = .returned (.int .i64 ((K2 : Int) + (n3 : Int))) ∧ Below w.heap.size w w' := by
  have HB : Hid (∀ o, Below w.heap.size w (w.alloc o)) := fun o => (Below.refl _ _).alloc (Nat.le_refl _) o
  have H : Hid (∀ W, Below w.heap.size w W → GK base mid mid2 hi n3 a1 a2 a3 r1 r2 K1 K2 W) := fun W hb => h.kept hb
  have hb2 := h.b2
  have hb3 := h.b3
  have HCG : ∀ W, Below w.heap.size w W → _ := fun W hW => held_graphR n1 n2 room a1 a2 k1 k2 r1 r2 mid mid2 hi K1 K2 W l1 l2 (H.out W hW).k1 (H.out W hW).k2 (H.out W hW).b1 (H.out W hW).b2 (H.out W hW).h1 (H.out W hW).h2
  clear h
  go_enter Tryz.func18, Tryz.ntmps18
  go_wp2_with fail
  refine (HCG _ (HB.out _)).mono ?_
  rintro e w1 ⟨rfl, hb1⟩
  obtain ⟨hc1, hf1⟩ := bcell hb1
  have HW1 : Hid (Below w.heap.size w w1) := (HB.out _).trans (hb1.mono (by simp))
  have hmk : MarksI w1 a3 n3 (K2 : Nat) := (H.out w1 HW1.out).h3
  clear hb1
  go_wp2_with fail
  refine (held_intsZ (K2 : Int) K2 n3 rfl a3 k3 (by omega) w1 hmk).mono ?_
  rintro e wz ⟨rfl, rfl⟩
  clear hmk
  go_wp2
  go_ret
  exact ⟨rfl, HW1.out⟩
end Go.Proofs.YtobkinocaomcmaaGreat
