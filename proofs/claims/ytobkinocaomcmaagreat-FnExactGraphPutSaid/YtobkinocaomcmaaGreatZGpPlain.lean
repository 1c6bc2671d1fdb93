/- The first parked event that is free. What comes to a graph: plain. -/
import Derived.Test.YtobkinocaomcmaaGreatZGrSpec
namespace Go.Proofs.YtobkinocaomcmaaGreat
open Go.RowKit

def freeO (g : Gr) : Option Nat := g.pk.findIdx? fun m => allIn (idsOf g.evs) m.v.prev
def freeI (g : Gr) : Int := match freeO g with
  | some i => i
  | none => -1
theorem free_some {g : Gr} {k : Nat} (hk : k < g.pk.length) (h : allIn (idsOf g.evs) g.pk[k].v.prev = true) (hn : ∀ j (h : j < g.pk.length), j < k → allIn (idsOf g.evs) g.pk[j].v.prev = false) : freeI g = k := by
  have : freeO g = some k := by
    unfold freeO
    rw [List.findIdx?_eq_some_iff_getElem]
    exact ⟨hk, h, fun j hj => by simp [hn j (by omega) hj]⟩
  unfold freeI
  rw [this]
theorem free_none {g : Gr} (hn : ∀ j (h : j < g.pk.length), allIn (idsOf g.evs) g.pk[j].v.prev = false) : freeI g = -1 := by
  have : freeO g = none := by
    unfold freeO
    rw [List.findIdx?_eq_none_iff]
    intro m hm
    obtain ⟨j, hj, rfl⟩ := List.getElem_of_mem hm
    exact hn j hj
  unfold freeI
  rw [this]
set_option maxHeartbeats 4000000 in
set_option maxRecDepth 100000 in
theorem free_spec (g : Gr) (a : Option Addr) (cap : Nat) (p : Option Addr) (cp : Nat) (w : World) (h : EvsAt w a g.evs) (h2 : EvsAt w p g.pk) :
    Calls Tryz.prog 88 #[.agg #[.int .i64 g.room, .slice a g.evs.length cap, .slice p g.pk.length cp]] w fun e w' => e = .returned (.int .i64 (freeI g)) ∧ Below w.heap.size w w' := by
  have hl2 := h2.len
  have HG0 : Hid (GAt w g a cap p cp (w.alloc (.cells #[.int .i64 g.room, .slice a g.evs.length cap, .slice p g.pk.length cp] 32))) := ⟨(MapKept.heap_alloc w _).1, h.kept ((Below.refl _ _).alloc (Nat.le_refl _) _), h2.kept ((Below.refl _ _).alloc (Nat.le_refl _) _), (Below.refl _ _).alloc (Nat.le_refl _) _⟩
  clear h h2
  obtain ⟨room, evs, pk⟩ := g
  simp only at hl2 ⊢
  go_enter Tryz.func88, Tryz.ntmps88
  go_wp2
  go_loopw [3] (fun i wr => ∃ k : Nat, k ≤ pk.length ∧ i = .int .i64 k ∧ Hid (∀ j (h : j < pk.length), j < k → allIn (idsOf evs) pk[j].v.prev = false) ∧ Hid (GAt w ⟨room, evs, pk⟩ a cap p cp wr)) (fun i _ => pk.length - (intOf i).toNat)
  case atStart => exact ⟨0, Nat.zero_le _, rfl, fun _ _ h => absurd h (Nat.not_lt_zero _), HG0⟩
  case round =>
    clear HG0
    obtain ⟨q, hq, rfl, HO, HG⟩ := hrel
    have hx1 : wr.cell? ⟨w.heap.size, 1, none⟩ = some (.slice a evs.length cap) := cell_of_heap HG.out.box
    have hx2 : wr.cell? ⟨w.heap.size, 2, none⟩ = some (.slice p pk.length cp) := cell_of_heap HG.out.box
    have hz : w.heap.size < wr.heap.size := (Array.getElem?_eq_some_iff.1 HG.out.box).1
    by_cases hqt : q < pk.length
    · have HE : Hid (EvsAt wr a evs) := HG.out.evs
      have HP : Hid (EvsAt wr p pk) := HG.out.pk
      obtain ⟨b, off, rfl, hbb, hcell⟩ := HP.out.row (by omega)
      have hc0 : wr.cell? ⟨b, off + q * 9, none⟩ = some (.int .i64 pk[q].v.id) := hcell q hqt 0 (by omega)
      have hc1 : wr.cell? ⟨b, off + q * 9 + 1, none⟩ = some (.int .i64 pk[q].v.room) := by rw [Nat.add_assoc]; exact hcell q hqt 1 (by omega)
      have hc2 : wr.cell? ⟨b, off + q * 9 + 2, none⟩ = some (.int .i64 pk[q].v.author) := by rw [Nat.add_assoc]; exact hcell q hqt 2 (by omega)
      have hc3 : wr.cell? ⟨b, off + q * 9 + 3, none⟩ = some (.int .i64 pk[q].v.kind) := by rw [Nat.add_assoc]; exact hcell q hqt 3 (by omega)
      have hc4 : wr.cell? ⟨b, off + q * 9 + 4, none⟩ = some (.int .i64 pk[q].v.key) := by rw [Nat.add_assoc]; exact hcell q hqt 4 (by omega)
      have hc5 : wr.cell? ⟨b, off + q * 9 + 5, none⟩ = some (.int .i64 pk[q].v.n) := by rw [Nat.add_assoc]; exact hcell q hqt 5 (by omega)
      have hc6 : wr.cell? ⟨b, off + q * 9 + 6, none⟩ = some (.string pk[q].v.text) := by rw [Nat.add_assoc]; exact hcell q hqt 6 (by omega)
      have hc7 : wr.cell? ⟨b, off + q * 9 + 7, none⟩ = some (.slice pk[q].p pk[q].v.prev.length pk[q].c) := by rw [Nat.add_assoc]; exact hcell q hqt 7 (by omega)
      have hc8 : wr.cell? ⟨b, off + q * 9 + 8, none⟩ = some (.int .i64 pk[q].v.time) := by rw [Nat.add_assoc]; exact hcell q hqt 8 (by omega)
      clear hcell
      cases ha : allIn (idsOf evs) pk[q].v.prev
      · have HS : Hid (∀ j (h : j < pk.length), j < q + 1 → allIn (idsOf evs) pk[j].v.prev = false) := fun j h hj => by
          by_cases e : j = q
          · subst e
            exact ha
          · exact HO.out j h (by omega)
        go_wp2
        refine wp_region_held_drew (S := (fun W => Below wr.heap.size wr W)) (by kernel_rfl) (Below.drew (Below.refl _ _)) (fun hHeld => ?_)
        refine wpAnyH_take (i := 0) (v := (.pointer (some ⟨w.heap.size, 1, none⟩))) rfl (by kernel_rfl) (by kernel_rfl) (by kernel_rfl) (fun _ _ _ h => h) (Or.inl ⟨by kernel_rfl, ?_⟩) hHeld ?_
        · intro W hW
          go_simp
        refine wpAnyH_take (i := 1) (v := (.slice a evs.length cap)) rfl (by kernel_rfl) (by kernel_rfl) (by kernel_rfl) (fun _ _ _ h => h) (Or.inl ⟨by kernel_rfl, ?_⟩) hHeld ?_
        · intro W hW
          have f := (hW.cell (p := ⟨w.heap.size, 1, none⟩) hz).trans hx1
          go_simp
        refine wpAnyH_take (i := 2) (v := (.pointer (some ⟨w.heap.size, 2, none⟩))) rfl (by kernel_rfl) (by kernel_rfl) (by kernel_rfl) (fun _ _ _ h => h) (Or.inl ⟨by kernel_rfl, ?_⟩) hHeld ?_
        · intro W hW
          go_simp
        refine wpAnyH_take (i := 3) (v := (.slice (some ⟨b, off, none⟩) pk.length cp)) rfl (by kernel_rfl) (by kernel_rfl) (by kernel_rfl) (fun _ _ _ h => h) (Or.inl ⟨by kernel_rfl, ?_⟩) hHeld ?_
        · intro W hW
          have f := (hW.cell (p := ⟨w.heap.size, 2, none⟩) hz).trans hx2
          go_simp
        refine wpAnyH_take (i := 4) (v := (.int .i64 q)) rfl (by kernel_rfl) (by kernel_rfl) (by kernel_rfl) (fun _ _ _ h => h) (Or.inl ⟨by kernel_rfl, ?_⟩) hHeld ?_
        · intro W hW
          go_simp
        refine wpAnyH_take (i := 5) (v := (.pointer (some ⟨b, off + q * 9, none⟩))) rfl (by kernel_rfl) (by kernel_rfl) (by kernel_rfl) (fun _ _ _ h => h) (Or.inl ⟨by kernel_rfl, ?_⟩) hHeld ?_
        · intro W hW
          go_simp
        refine wpAnyH_take (i := 6) (v := (.agg #[.int .i64 pk[q].v.id, .int .i64 pk[q].v.room, .int .i64 pk[q].v.author, .int .i64 pk[q].v.kind, .int .i64 pk[q].v.key, .int .i64 pk[q].v.n, .string pk[q].v.text, .slice pk[q].p pk[q].v.prev.length pk[q].c, .int .i64 pk[q].v.time])) rfl (by kernel_rfl) (by kernel_rfl) (by kernel_rfl) (fun _ _ _ h => h) (Or.inl ⟨by kernel_rfl, ?_⟩) hHeld ?_
        · intro W hW
          have f0 := (hW.cell (p := ⟨b, off + q * 9, none⟩) hbb).trans hc0
          have f1 := (hW.cell (p := ⟨b, off + q * 9 + 1, none⟩) hbb).trans hc1
          have f2 := (hW.cell (p := ⟨b, off + q * 9 + 2, none⟩) hbb).trans hc2
          have f3 := (hW.cell (p := ⟨b, off + q * 9 + 3, none⟩) hbb).trans hc3
          have f4 := (hW.cell (p := ⟨b, off + q * 9 + 4, none⟩) hbb).trans hc4
          have f5 := (hW.cell (p := ⟨b, off + q * 9 + 5, none⟩) hbb).trans hc5
          have f6 := (hW.cell (p := ⟨b, off + q * 9 + 6, none⟩) hbb).trans hc6
          have f7 := (hW.cell (p := ⟨b, off + q * 9 + 7, none⟩) hbb).trans hc7
          have f8 := (hW.cell (p := ⟨b, off + q * 9 + 8, none⟩) hbb).trans hc8
          go_simp
        refine wpAnyH_ready (rs := [7]) (by kernel_rfl) (by simp) ?_
        refine AllReadyH.cons rfl (fun K hK => ?_) AllReadyH.nil
        go_simp
        refine (all_spec evs pk[q] a cap _ (HE.out.kept hHeld) ((HP.out.nums _ (List.getElem_mem hqt)).kept hHeld)).mono ?_
        rintro e w1 ⟨rfl, hb1⟩
        rw [ha]
        have hd1 : Below wr.heap.size wr w1 := hHeld.trans (hb1.mono hHeld.size)
        clear hb1
        refine hK.out _ _ hd1 (fun hH1 => ?_)
        clear hK K
        refine wpAnyH_done (by kernel_rfl) ?_ _
        go_wp2
        exact ⟨⟨q + 1, by omega, by go_num, HS, HG.out.on hH1⟩, by simp [intOf]; omega⟩
      · have HS : Hid (freeI ⟨room, evs, pk⟩ = q) := free_some (g := ⟨room, evs, pk⟩) hqt ha HO.out
        go_wp2
        refine wp_region_held_drew (S := (fun W => Below wr.heap.size wr W)) (by kernel_rfl) (Below.drew (Below.refl _ _)) (fun hHeld => ?_)
        refine wpAnyH_take (i := 0) (v := (.pointer (some ⟨w.heap.size, 1, none⟩))) rfl (by kernel_rfl) (by kernel_rfl) (by kernel_rfl) (fun _ _ _ h => h) (Or.inl ⟨by kernel_rfl, ?_⟩) hHeld ?_
        · intro W hW
          go_simp
        refine wpAnyH_take (i := 1) (v := (.slice a evs.length cap)) rfl (by kernel_rfl) (by kernel_rfl) (by kernel_rfl) (fun _ _ _ h => h) (Or.inl ⟨by kernel_rfl, ?_⟩) hHeld ?_
        · intro W hW
          have f := (hW.cell (p := ⟨w.heap.size, 1, none⟩) hz).trans hx1
          go_simp
        refine wpAnyH_take (i := 2) (v := (.pointer (some ⟨w.heap.size, 2, none⟩))) rfl (by kernel_rfl) (by kernel_rfl) (by kernel_rfl) (fun _ _ _ h => h) (Or.inl ⟨by kernel_rfl, ?_⟩) hHeld ?_
        · intro W hW
          go_simp
        refine wpAnyH_take (i := 3) (v := (.slice (some ⟨b, off, none⟩) pk.length cp)) rfl (by kernel_rfl) (by kernel_rfl) (by kernel_rfl) (fun _ _ _ h => h) (Or.inl ⟨by kernel_rfl, ?_⟩) hHeld ?_
        · intro W hW
          have f := (hW.cell (p := ⟨w.heap.size, 2, none⟩) hz).trans hx2
          go_simp
        refine wpAnyH_take (i := 4) (v := (.int .i64 q)) rfl (by kernel_rfl) (by kernel_rfl) (by kernel_rfl) (fun _ _ _ h => h) (Or.inl ⟨by kernel_rfl, ?_⟩) hHeld ?_
        · intro W hW
          go_simp
        refine wpAnyH_take (i := 5) (v := (.pointer (some ⟨b, off + q * 9, none⟩))) rfl (by kernel_rfl) (by kernel_rfl) (by kernel_rfl) (fun _ _ _ h => h) (Or.inl ⟨by kernel_rfl, ?_⟩) hHeld ?_
        · intro W hW
          go_simp
        refine wpAnyH_take (i := 6) (v := (.agg #[.int .i64 pk[q].v.id, .int .i64 pk[q].v.room, .int .i64 pk[q].v.author, .int .i64 pk[q].v.kind, .int .i64 pk[q].v.key, .int .i64 pk[q].v.n, .string pk[q].v.text, .slice pk[q].p pk[q].v.prev.length pk[q].c, .int .i64 pk[q].v.time])) rfl (by kernel_rfl) (by kernel_rfl) (by kernel_rfl) (fun _ _ _ h => h) (Or.inl ⟨by kernel_rfl, ?_⟩) hHeld ?_
        · intro W hW
          have f0 := (hW.cell (p := ⟨b, off + q * 9, none⟩) hbb).trans hc0
          have f1 := (hW.cell (p := ⟨b, off + q * 9 + 1, none⟩) hbb).trans hc1
          have f2 := (hW.cell (p := ⟨b, off + q * 9 + 2, none⟩) hbb).trans hc2
          have f3 := (hW.cell (p := ⟨b, off + q * 9 + 3, none⟩) hbb).trans hc3
          have f4 := (hW.cell (p := ⟨b, off + q * 9 + 4, none⟩) hbb).trans hc4
          have f5 := (hW.cell (p := ⟨b, off + q * 9 + 5, none⟩) hbb).trans hc5
          have f6 := (hW.cell (p := ⟨b, off + q * 9 + 6, none⟩) hbb).trans hc6
          have f7 := (hW.cell (p := ⟨b, off + q * 9 + 7, none⟩) hbb).trans hc7
          have f8 := (hW.cell (p := ⟨b, off + q * 9 + 8, none⟩) hbb).trans hc8
          go_simp
        refine wpAnyH_ready (rs := [7]) (by kernel_rfl) (by simp) ?_
        refine AllReadyH.cons rfl (fun K hK => ?_) AllReadyH.nil
        go_simp
        refine (all_spec evs pk[q] a cap _ (HE.out.kept hHeld) ((HP.out.nums _ (List.getElem_mem hqt)).kept hHeld)).mono ?_
        rintro e w1 ⟨rfl, hb1⟩
        rw [ha]
        have hd1 : Below wr.heap.size wr w1 := hHeld.trans (hb1.mono hHeld.size)
        clear hb1
        refine hK.out _ _ hd1 (fun hH1 => ?_)
        clear hK K
        refine wpAnyH_done (by kernel_rfl) ?_ _
        go_wp2
        go_ret
        exact ⟨ret_int HS.out.symm, (HG.out.on hH1).below⟩
    · have HS : Hid (freeI ⟨room, evs, pk⟩ = -1) := free_none (g := ⟨room, evs, pk⟩) fun j hj => HO.out j hj (by have : j < pk.length := hj; omega)
      have e : q = pk.length := by omega
      subst e
      go_wp2
      go_ret
      exact ⟨ret_int HS.out.symm, HG.out.below⟩
end Go.Proofs.YtobkinocaomcmaaGreat
namespace Go.Proofs.YtobkinocaomcmaaGreat

/-- Rising by Id. -/
def RisE (l : List Ev) : Prop := l.Pairwise fun a b => a.id < b.id
def vs (l : List Em) : List Ev := l.map (·.v)
def idsV (l : List Ev) : List Int := l.map (·.id)
theorem ids_vs (l : List Em) : idsOf l = idsV (vs l) := by simp [idsOf, idsV, vs]
theorem vs_length (l : List Em) : (vs l).length = l.length := by simp [vs]
def placeV (l : List Ev) (id : Int) : Nat := (l.takeWhile fun e => decide (e.id < id)).length
def insV (l : List Ev) (x : Ev) : List Ev := l.take (placeV l x.id) ++ x :: l.drop (placeV l x.id)
def woV (l : List Ev) (id : Int) : List Ev := l.filter fun m => m.id != id
theorem insV_length (l : List Ev) (x : Ev) : (insV l x).length = l.length + 1 := by
  unfold insV
  simp only [List.length_append, List.length_cons, List.length_take, List.length_drop]
  omega
theorem woV_length (l : List Ev) (id : Int) : (woV l id).length ≤ l.length := List.length_filter_le _ _
theorem insV_nil (x : Ev) : insV [] x = [x] := rfl
theorem insV_cons (y : Ev) (l : List Ev) (x : Ev) : insV (y :: l) x = if y.id < x.id then y :: insV l x else x :: y :: l := by
  unfold insV placeV
  by_cases h : y.id < x.id
  · rw [List.takeWhile_cons_of_pos (by simpa using h), if_pos h]
    simp
  · rw [List.takeWhile_cons_of_neg (by simpa using h), if_neg h]
    simp
theorem mem_insV {l : List Ev} {x e : Ev} : e ∈ insV l x ↔ e = x ∨ e ∈ l := by
  induction l with
  | nil => simp [insV_nil]
  | cons y l ih =>
    rw [insV_cons]
    split
    · simp only [List.mem_cons, ih]
      constructor
      · rintro (h | h | h)
        · exact .inr (.inl h)
        · exact .inl h
        · exact .inr (.inr h)
      · rintro (h | h | h)
        · exact .inr (.inl h)
        · exact .inl h
        · exact .inr (.inr h)
    · simp only [List.mem_cons]
theorem mem_woV {l : List Ev} {id : Int} {e : Ev} : e ∈ woV l id ↔ e ∈ l ∧ e.id ≠ id := by simp [woV]
theorem insV_rises {l : List Ev} {x : Ev} (h : RisE l) (hn : ∀ e ∈ l, e.id ≠ x.id) : RisE (insV l x) := by
  induction l with
  | nil => simp [insV_nil, RisE]
  | cons y l ih =>
    have hc := List.pairwise_cons.1 h
    rw [insV_cons]
    split
    · rename_i hlt
      refine List.pairwise_cons.2 ⟨fun e he => ?_, ih hc.2 fun e he => hn e (List.mem_cons_of_mem _ he)⟩
      rcases mem_insV.1 he with rfl | he
      · exact hlt
      · exact hc.1 e he
    · rename_i hge
      have hne := hn y List.mem_cons_self
      refine List.pairwise_cons.2 ⟨fun e he => ?_, h⟩
      rcases List.mem_cons.1 he with rfl | he
      · omega
      · have := hc.1 e he
        omega
theorem woV_rises {l : List Ev} {id : Int} (h : RisE l) : RisE (woV l id) := h.filter _
theorem woV_none {l : List Ev} {id : Int} (h : ∀ e ∈ l, e.id ≠ id) : woV l id = l := List.filter_eq_self.2 fun e he => by simpa using h e he
theorem rises_inj {l : List Ev} (h : RisE l) {i j : Nat} (hi : i < l.length) (hj : j < l.length) (e : l[i].id = l[j].id) : i = j := by
  rcases Nat.lt_trichotomy i j with hlt | rfl | hlt
  · have := List.pairwise_iff_getElem.1 h i j hi hj hlt
    omega
  · rfl
  · have := List.pairwise_iff_getElem.1 h j i hj hi hlt
    omega
/-- To take out by place is to take out by Id. -/
theorem eraseIdx_wo : ∀ {l : List Ev} (_ : RisE l) {k : Nat} (hk : k < l.length), l.take k ++ l.drop (k + 1) = woV l l[k].id
  | y :: l, h, 0, _ => by
    have hc := List.pairwise_cons.1 h
    have : woV l y.id = l := woV_none fun e he => by have := hc.1 e he; omega
    simp only [List.take_zero, List.nil_append, Nat.zero_add, List.drop_succ_cons, List.drop_zero, List.getElem_cons_zero]
    unfold woV at this ⊢
    rw [List.filter_cons_of_neg (by simp), this]
  | y :: l, h, k + 1, hk => by
    have hc := List.pairwise_cons.1 h
    have hk' : k < l.length := by simpa using hk
    have ih := eraseIdx_wo hc.2 hk'
    have hne := hc.1 _ (List.getElem_mem hk')
    simp only [List.take_succ_cons, List.cons_append, List.drop_succ_cons, List.getElem_cons_succ]
    rw [ih]
    unfold woV
    rw [List.filter_cons_of_pos (by simp; omega)]
/-- The first one that is free. -/
def freeV (es ps : List Ev) : Option Nat := ps.findIdx? fun m => allIn (idsV es) m.prev
theorem freeO_eq (g : Gr) : freeO g = freeV (vs g.evs) (vs g.pk) := by
  unfold freeO freeV
  rw [ids_vs, vs, vs, List.findIdx?_map]
  rfl
theorem freeV_lt {es ps : List Ev} {k : Nat} (h : freeV es ps = some k) : k < ps.length := by
  unfold freeV at h
  rw [List.findIdx?_eq_some_iff_getElem] at h
  exact h.1
/-- What comes in, one after the other: an event that is ready, and what waited for it. -/
def takeV : Nat → Ev → List Ev → List Ev → List Int → List Ev × List Ev × List Int
  | 0, _, es, ps, ad => (es, ps, ad)
  | n + 1, e, es, ps, ad =>
    match freeV (if es.length < 60 then insV es e else es) (woV ps e.id) with
    | none => (if es.length < 60 then insV es e else es, woV ps e.id, if es.length < 60 then ad ++ [e.id] else ad)
    | some k => match (woV ps e.id)[k]? with
      | none => (if es.length < 60 then insV es e else es, woV ps e.id, if es.length < 60 then ad ++ [e.id] else ad)
      | some x => takeV n x (if es.length < 60 then insV es e else es) (woV ps e.id) (if es.length < 60 then ad ++ [e.id] else ad)
theorem takeV_end {n : Nat} {e : Ev} {es ps : List Ev} {ad : List Int} (h : freeV (if es.length < 60 then insV es e else es) (woV ps e.id) = none) :
    takeV (n + 1) e es ps ad = (if es.length < 60 then insV es e else es, woV ps e.id, if es.length < 60 then ad ++ [e.id] else ad) := by
  rw [takeV, h]
theorem takeV_more {n k : Nat} {e : Ev} {es ps : List Ev} {ad : List Int} (h : freeV (if es.length < 60 then insV es e else es) (woV ps e.id) = some k) (hk : k < (woV ps e.id).length) :
    takeV (n + 1) e es ps ad = takeV n (woV ps e.id)[k] (if es.length < 60 then insV es e else es) (woV ps e.id) (if es.length < 60 then ad ++ [e.id] else ad) := by
  rw [takeV, h]
  simp only [List.getElem?_eq_getElem hk]
/-- What putting an event comes to: the code, Events, Parked, and what was added. -/
def putV (es ps : List Ev) (e : Ev) : Int × List Ev × List Ev × List Int :=
  if e.id ∈ idsV es ∨ e.id ∈ idsV ps then (7, [], [], [])
  else if 60 ≤ es.length ∨ (allIn (idsV es) e.prev = false ∧ 20 ≤ ps.length) then (9, [], [], [])
  else if allIn (idsV es) e.prev = false then (0, es, insV ps e, [])
  else (0, takeV (ps.length + 1) e es ps [])
end Go.Proofs.YtobkinocaomcmaaGreat
