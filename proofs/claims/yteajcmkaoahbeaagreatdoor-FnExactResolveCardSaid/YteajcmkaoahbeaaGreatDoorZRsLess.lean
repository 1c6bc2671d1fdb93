/- Which of two goes first where ways meet. -/
import Derived.Test.YteajcmkaoahbeaaGreatDoorZRsHv
import Derived.Test.YteajcmkaoahbeaaGreatDoorZRl4
import Derived.Test.YteajcmkaoahbeaaGreatDoorZGrDepth
import Derived.Deep.DeepCutAuto
import Derived.Deep.QuietTactic
import Derived.BigQuiet
namespace Go.Proofs.YteajcmkaoahbeaaGreatDoor
open Go.RowKit

def lessV (x y : Ev) (dx dy : Int) : Bool :=
  if (heavyB x != heavyB y) = true then heavyB x else if (dx != dy) = true then decide (dx < dy) else if (x.time != y.time) = true then decide (x.time < y.time) else decide (x.id < y.id)
def lessE (es : List Em) (dp : Int → Int) (m n : Int) : Bool := lessV (evIn es m) (evIn es n) (dp m) (dp n)
theorem EvsAt.nine {W : World} {b off : Nat} {es : List Em} (h : EvsAt W (some ⟨b, off, none⟩) es) {i : Nat} (hi : i < es.length) : W.cell? ⟨b, off + i * 9, none⟩ = some (.int .i64 es[i].v.id) ∧ W.cell? ⟨b, off + i * 9 + 1, none⟩ = some (.int .i64 es[i].v.room) ∧ W.cell? ⟨b, off + i * 9 + 2, none⟩ = some (.int .i64 es[i].v.author) ∧ W.cell? ⟨b, off + i * 9 + 3, none⟩ = some (.int .i64 es[i].v.kind) ∧ W.cell? ⟨b, off + i * 9 + 4, none⟩ = some (.int .i64 es[i].v.key) ∧ W.cell? ⟨b, off + i * 9 + 5, none⟩ = some (.int .i64 es[i].v.n) ∧ W.cell? ⟨b, off + i * 9 + 6, none⟩ = some (.string es[i].v.text) ∧ W.cell? ⟨b, off + i * 9 + 7, none⟩ = some (.slice es[i].p es[i].v.prev.length es[i].c) ∧ W.cell? ⟨b, off + i * 9 + 8, none⟩ = some (.int .i64 es[i].v.time) := by
  obtain ⟨b', off', ha, hbb, hcell⟩ := h.row (by omega)
  simp only [Option.some.injEq, Addr.mk.injEq, and_true] at ha
  obtain ⟨rfl, rfl⟩ := ha
  refine ⟨hcell i hi 0 (by omega), ?_, ?_, ?_, ?_, ?_, ?_, ?_, ?_⟩
  · rw [Nat.add_assoc]; exact hcell i hi 1 (by omega)
  · rw [Nat.add_assoc]; exact hcell i hi 2 (by omega)
  · rw [Nat.add_assoc]; exact hcell i hi 3 (by omega)
  · rw [Nat.add_assoc]; exact hcell i hi 4 (by omega)
  · rw [Nat.add_assoc]; exact hcell i hi 5 (by omega)
  · rw [Nat.add_assoc]; exact hcell i hi 6 (by omega)
  · rw [Nat.add_assoc]; exact hcell i hi 7 (by omega)
  · rw [Nat.add_assoc]; exact hcell i hi 8 (by omega)
/-- The graph's variable and the two events'. -/
structure XY (w : World) (g : Gr) (a : Option Addr) (cap : Nat) (p : Option Addr) (cp : Nat) (X Y : Array Value) (bx bz : Nat) (W : World) : Prop where
  g : GBox w g a cap p cp W
  x : W.heap[bx]? = some (.cells X 114 (0, 0))
  y : W.heap[bz]? = some (.cells Y 114 (0, 0))
theorem XY.on {w : World} {g : Gr} {a : Option Addr} {cap : Nat} {p : Option Addr} {cp : Nat} {X Y : Array Value} {bx bz : Nat} {W W' : World} (h : XY w g a cap p cp X Y bx bz W) (hb : Below W.heap.size W W') : XY w g a cap p cp X Y bx bz W' :=
  ⟨h.g.on hb, (hb.block _ (Array.getElem?_eq_some_iff.1 h.x).1).trans h.x, (hb.block _ (Array.getElem?_eq_some_iff.1 h.y).1).trans h.y⟩
theorem XY.cells {w : World} {g : Gr} {a : Option Addr} {cap : Nat} {p : Option Addr} {cp : Nat} {X Y : Array Value} {bx bz : Nat} {W : World} (h : XY w g a cap p cp X Y bx bz W) : (∀ k, W.cell? ⟨bx, k, none⟩ = X[k]?) ∧ (∀ k, W.cell? ⟨bz, k, none⟩ = Y[k]?) := ⟨fun _ => cell_of_heap h.x, fun _ => cell_of_heap h.y⟩
theorem two_alloc (w : World) (o x y : Obj) : (((w.alloc o).alloc x).alloc y).heap[w.heap.size + 1]? = some x ∧ (((w.alloc o).alloc x).alloc y).heap[w.heap.size + 1 + 1]? = some y := by
  have e1 := (MapKept.heap_alloc (w.alloc o) x).1
  have e2 := (MapKept.heap_alloc ((w.alloc o).alloc x) y).1
  refine ⟨(Below.heap_alloc _ _ _ (by simp)).trans (by simpa using e1), by simpa using e2⟩
theorem below_drewN1 {k : Nat} {w W : World} (h : Below k w W) (n : Nat) : Below k w (W.drewN n) := ⟨h.os, h.tape, h.output, h.size, h.block⟩
set_option maxHeartbeats 16000000 in
set_option maxRecDepth 100000 in
theorem lessE_spec (g : Gr) (ds : List Int) (i j : Nat) (hi : i < g.evs.length) (hj : j < g.evs.length) (m n : Int) (hm : g.evs[i].v.id = m) (hn2 : g.evs[j].v.id = n) (b off : Nat) (cap : Nat) (p : Option Addr) (cp : Nat) (d : Option Addr) (cd : Nat) (w : World) (h : EvsAt w (some ⟨b, off, none⟩) g.evs) (hd : NumsAt w d ds) (hl : ds.length = g.evs.length) (hn : (idsOf g.evs).Nodup) :
    Calls Tryz.prog 68 #[.agg #[.int .i64 g.room, .slice (some ⟨b, off, none⟩) g.evs.length cap, .slice p g.pk.length cp], .slice d ds.length cd, .int .i64 m, .int .i64 n] w fun e w' => e = .returned (.bool (lessV g.evs[i].v g.evs[j].v (ds.getD i 0) (ds.getD j 0))) ∧ Below w.heap.size w w' := by
  have hle := h.len
  have HG0 : Hid (GBox w g (some ⟨b, off, none⟩) cap p cp (w.alloc (.cells #[.int .i64 g.room, .slice (some ⟨b, off, none⟩) g.evs.length cap, .slice p g.pk.length cp] 32))) := GBox.start w g (some ⟨b, off, none⟩) cap p cp
  have HAI := fun W (hW : Below w.heap.size w W) => at_spec g.evs m (some ⟨b, off, none⟩) cap W (h.kept hW)
  have HAJ := fun W (hW : Below w.heap.size w W) => at_spec g.evs n (some ⟨b, off, none⟩) cap W (h.kept hW)
  have ai : ∀ k (hk : k < g.evs.length), atI (idsOf g.evs) g.evs[k].v.id = k := fun k hk => by
    have hin : g.evs[k].v.id ∈ idsOf g.evs := List.mem_map.2 ⟨_, List.getElem_mem hk, rfl⟩
    rcases atI_cases (idsOf g.evs) g.evs[k].v.id with ⟨q, hq, hat, hqq⟩ | ⟨_, hno⟩
    · rw [hat]
      have hq' : q < g.evs.length := by simpa [idsOf] using hq
      have hk' : k < (idsOf g.evs).length := by simpa [idsOf] using hk
      have e : (idsOf g.evs)[q] = (idsOf g.evs)[k] := by rw [hqq]; simp [idsOf]
      have hp := List.pairwise_iff_getElem.1 (List.nodup_iff_pairwise_ne.1 hn)
      rcases Nat.lt_trichotomy q k with c | c | c
      · exact absurd e (hp q k hq hk' c)
      · rw [c]
      · exact absurd e.symm (hp k q hk' hq c)
    · exact absurd hin hno
  rw [← hm, ai i hi, hm] at HAI
  rw [← hn2, ai j hj, hn2] at HAJ
  have HNI : Hid (∀ W, Below w.heap.size w W → _) := fun W hW => (h.kept hW).nine hi
  have HNJ : Hid (∀ W, Below w.heap.size w W → _) := fun W hW => (h.kept hW).nine hj
  obtain ⟨bd, od, rfl, hbd, hdc⟩ := hd.2 (by omega)
  have hi2 : i < ds.length := by omega
  have hj2 : j < ds.length := by omega
  have hld : ds.length ≤ 1048576 := by omega
  obtain ⟨dI, HdI⟩ : ∃ x, Hid (x = ds.getD i 0) := ⟨_, (rfl : ds.getD i 0 = _)⟩
  obtain ⟨dJ, HdJ⟩ : ∃ x, Hid (x = ds.getD j 0) := ⟨_, (rfl : ds.getD j 0 = _)⟩
  have HDS : Hid (∀ W, Below w.heap.size w W → W.cell? ⟨bd, od + i, none⟩ = some (.int .i64 dI) ∧ W.cell? ⟨bd, od + j, none⟩ = some (.int .i64 dJ)) := fun W hW =>
    ⟨(hW.cell (p := ⟨bd, od + i, none⟩) hbd).trans ((hdc i hi2).trans (by rw [HdI.out]; simp [hi2])), (hW.cell (p := ⟨bd, od + j, none⟩) hbd).trans ((hdc j hj2).trans (by rw [HdJ.out]; simp [hj2]))⟩
  obtain ⟨hX, HhX⟩ : ∃ x, Hid (x = heavyB g.evs[i].v) := ⟨_, (rfl : heavyB g.evs[i].v = _)⟩
  obtain ⟨hY, HhY⟩ : ∃ x, Hid (x = heavyB g.evs[j].v) := ⟨_, (rfl : heavyB g.evs[j].v = _)⟩
  have HHI := fun W => heavy_spec g.evs[i].v g.evs[i].p g.evs[i].c W
  have HHJ := fun W => heavy_spec g.evs[j].v g.evs[j].p g.evs[j].c W
  rw [← HhX.out] at HHI
  rw [← HhY.out] at HHJ
  obtain ⟨R, HR⟩ : ∃ R, Hid (R = lessV g.evs[i].v g.evs[j].v (ds.getD i 0) (ds.getD j 0)) := ⟨lessV g.evs[i].v g.evs[j].v (ds.getD i 0) (ds.getD j 0), (rfl : lessV g.evs[i].v g.evs[j].v (ds.getD i 0) (ds.getD j 0) = _)⟩
  rw [← HR.out]
  have HID : Hid (g.evs[i].v.id = m ∧ g.evs[j].v.id = n) := ⟨hm, hn2⟩
  clear h hd hl hn ai hm hn2 hdc
  go_enter Tryz.func68, Tryz.ntmps68
  go_wp2
  refine wp_region_held_drew (S := (fun W => GBox w g (some ⟨b, off, none⟩) cap p cp W)) (by kernel_rfl) (HG0.out.on (Below.refl _ _).drew) (fun hHeld => ?_)
  refine wpAnyH_take (i := 0) (v := (.pointer (some ⟨w.heap.size, 1, none⟩))) rfl (by kernel_rfl) (by kernel_rfl) (by kernel_rfl) (fun _ _ _ h => h) (Or.inl ⟨by kernel_rfl, ?_⟩) hHeld ?_
  · intro W hW
    go_simp
  refine wpAnyH_take (i := 1) (v := (.slice (some ⟨b, off, none⟩) g.evs.length cap)) rfl (by kernel_rfl) (by kernel_rfl) (by kernel_rfl) (fun _ _ _ h => h) (Or.inl ⟨by kernel_rfl, ?_⟩) hHeld ?_
  · intro W hW
    have x0 : ∀ k, W.cell? ⟨w.heap.size, k, none⟩ = #[.int .i64 g.room, .slice (some ⟨b, off, none⟩) g.evs.length cap, .slice p g.pk.length cp][k]? := fun _ => cell_of_heap hW.2
    go_simp
  refine wpAnyH_take (i := 2) (v := (.int .i64 m)) rfl (by kernel_rfl) (by kernel_rfl) (by kernel_rfl) (fun _ _ _ h => h) (Or.inl ⟨by kernel_rfl, ?_⟩) hHeld ?_
  · intro W hW
    go_simp
  refine wpAnyH_take (i := 4) (v := (.pointer (some ⟨w.heap.size, 1, none⟩))) rfl (by kernel_rfl) (by kernel_rfl) (by kernel_rfl) (fun _ _ _ h => h) (Or.inl ⟨by kernel_rfl, ?_⟩) hHeld ?_
  · intro W hW
    go_simp
  refine wpAnyH_take (i := 5) (v := (.slice (some ⟨b, off, none⟩) g.evs.length cap)) rfl (by kernel_rfl) (by kernel_rfl) (by kernel_rfl) (fun _ _ _ h => h) (Or.inl ⟨by kernel_rfl, ?_⟩) hHeld ?_
  · intro W hW
    have x0 : ∀ k, W.cell? ⟨w.heap.size, k, none⟩ = #[.int .i64 g.room, .slice (some ⟨b, off, none⟩) g.evs.length cap, .slice p g.pk.length cp][k]? := fun _ => cell_of_heap hW.2
    go_simp
  refine wpAnyH_take (i := 6) (v := (.int .i64 n)) rfl (by kernel_rfl) (by kernel_rfl) (by kernel_rfl) (fun _ _ _ h => h) (Or.inl ⟨by kernel_rfl, ?_⟩) hHeld ?_
  · intro W hW
    go_simp
  refine wpAnyH_ready (rs := [3]) (by kernel_rfl) (by simp) ?_
  refine AllReadyH.cons rfl (fun K hK => ?_) AllReadyH.nil
  go_simp
  refine (HAI _ hHeld.1).mono ?_
  rintro e w1 ⟨rfl, rfl⟩
  refine hK.out _ _ hHeld (fun _ => ?_)
  clear hK K
  refine wpAnyH_ready (rs := [7]) (by kernel_rfl) (by simp) ?_
  refine AllReadyH.cons rfl (fun K hK => ?_) AllReadyH.nil
  go_simp
  refine (HAJ _ hHeld.1).mono ?_
  rintro e w1 ⟨rfl, rfl⟩
  refine hK.out _ _ hHeld (fun _ => ?_)
  clear hK K
  refine wpAnyH_ready (rs := [8]) (by kernel_rfl) (by simp) ?_
  refine AllReadyH.cons rfl (fun K hK => ?_) AllReadyH.nil
  go_simp
  refine hK.out _ _ hHeld (fun _ => ?_)
  clear hK K
  refine wpAnyH_ready (rs := [9]) (by kernel_rfl) (by simp) ?_
  refine AllReadyH.cons rfl (fun K hK => ?_) AllReadyH.nil
  go_simp
  refine hK.out _ _ hHeld (fun _ => ?_)
  clear hK K
  refine wpAnyH_done (by kernel_rfl) ?_ _
  go_wp2
  go_cut [11, 12] (fun r1 r2 W => ∃ bx bz : Nat, r1 = .pointer (some ⟨bx, 0, none⟩) ∧ r2 = .pointer (some ⟨bz, 0, none⟩) ∧ Hid (XY w g (some ⟨b, off, none⟩) cap p cp #[.int .i64 g.evs[i].v.id, .int .i64 g.evs[i].v.room, .int .i64 g.evs[i].v.author, .int .i64 g.evs[i].v.kind, .int .i64 g.evs[i].v.key, .int .i64 g.evs[i].v.n, .string g.evs[i].v.text, .slice g.evs[i].p g.evs[i].v.prev.length g.evs[i].c, .int .i64 g.evs[i].v.time] #[.int .i64 g.evs[j].v.id, .int .i64 g.evs[j].v.room, .int .i64 g.evs[j].v.author, .int .i64 g.evs[j].v.kind, .int .i64 g.evs[j].v.key, .int .i64 g.evs[j].v.n, .string g.evs[j].v.text, .slice g.evs[j].p g.evs[j].v.prev.length g.evs[j].c, .int .i64 g.evs[j].v.time] bx bz W))
  case first =>
    refine wp_region_held_drew (S := (fun W => GBox w g (some ⟨b, off, none⟩) cap p cp W)) (by kernel_rfl) (HG0.out.on (Below.refl _ _).drew.drew) (fun hHeld => ?_)
    refine wpAnyH_take (i := 0) (v := (.pointer (some ⟨w.heap.size, 1, none⟩))) rfl (by kernel_rfl) (by kernel_rfl) (by kernel_rfl) (fun _ _ _ h => h) (Or.inl ⟨by kernel_rfl, ?_⟩) hHeld ?_
    · intro W hW
      go_simp
    refine wpAnyH_take (i := 1) (v := (.slice (some ⟨b, off, none⟩) g.evs.length cap)) rfl (by kernel_rfl) (by kernel_rfl) (by kernel_rfl) (fun _ _ _ h => h) (Or.inl ⟨by kernel_rfl, ?_⟩) hHeld ?_
    · intro W hW
      have x0 : ∀ k, W.cell? ⟨w.heap.size, k, none⟩ = #[.int .i64 g.room, .slice (some ⟨b, off, none⟩) g.evs.length cap, .slice p g.pk.length cp][k]? := fun _ => cell_of_heap hW.2
      go_simp
    refine wpAnyH_take (i := 2) (v := (.int .i64 i)) rfl (by kernel_rfl) (by kernel_rfl) (by kernel_rfl) (fun _ _ _ h => h) (Or.inl ⟨by kernel_rfl, ?_⟩) hHeld ?_
    · intro W hW
      go_simp
    refine wpAnyH_take (i := 3) (v := (.pointer (some ⟨b, off + i * 9, none⟩))) rfl (by kernel_rfl) (by kernel_rfl) (by kernel_rfl) (fun _ _ _ h => h) (Or.inl ⟨by kernel_rfl, ?_⟩) hHeld ?_
    · intro W hW
      go_simp
    refine wpAnyH_take (i := 4) (v := (.agg #[.int .i64 g.evs[i].v.id, .int .i64 g.evs[i].v.room, .int .i64 g.evs[i].v.author, .int .i64 g.evs[i].v.kind, .int .i64 g.evs[i].v.key, .int .i64 g.evs[i].v.n, .string g.evs[i].v.text, .slice g.evs[i].p g.evs[i].v.prev.length g.evs[i].c, .int .i64 g.evs[i].v.time])) rfl (by kernel_rfl) (by kernel_rfl) (by kernel_rfl) (fun _ _ _ h => h) (Or.inl ⟨by kernel_rfl, ?_⟩) hHeld ?_
    · intro W hW
      obtain ⟨f0, f1, f2, f3, f4, f5, f6, f7, f8⟩ := HNI.out W hW.1
      go_simp
    refine wpAnyH_take (i := 5) (v := (.pointer (some ⟨w.heap.size, 1, none⟩))) rfl (by kernel_rfl) (by kernel_rfl) (by kernel_rfl) (fun _ _ _ h => h) (Or.inl ⟨by kernel_rfl, ?_⟩) hHeld ?_
    · intro W hW
      go_simp
    refine wpAnyH_take (i := 6) (v := (.slice (some ⟨b, off, none⟩) g.evs.length cap)) rfl (by kernel_rfl) (by kernel_rfl) (by kernel_rfl) (fun _ _ _ h => h) (Or.inl ⟨by kernel_rfl, ?_⟩) hHeld ?_
    · intro W hW
      have x0 : ∀ k, W.cell? ⟨w.heap.size, k, none⟩ = #[.int .i64 g.room, .slice (some ⟨b, off, none⟩) g.evs.length cap, .slice p g.pk.length cp][k]? := fun _ => cell_of_heap hW.2
      go_simp
    refine wpAnyH_take (i := 7) (v := (.int .i64 j)) rfl (by kernel_rfl) (by kernel_rfl) (by kernel_rfl) (fun _ _ _ h => h) (Or.inl ⟨by kernel_rfl, ?_⟩) hHeld ?_
    · intro W hW
      go_simp
    refine wpAnyH_take (i := 8) (v := (.pointer (some ⟨b, off + j * 9, none⟩))) rfl (by kernel_rfl) (by kernel_rfl) (by kernel_rfl) (fun _ _ _ h => h) (Or.inl ⟨by kernel_rfl, ?_⟩) hHeld ?_
    · intro W hW
      go_simp
    refine wpAnyH_take (i := 9) (v := (.agg #[.int .i64 g.evs[j].v.id, .int .i64 g.evs[j].v.room, .int .i64 g.evs[j].v.author, .int .i64 g.evs[j].v.kind, .int .i64 g.evs[j].v.key, .int .i64 g.evs[j].v.n, .string g.evs[j].v.text, .slice g.evs[j].p g.evs[j].v.prev.length g.evs[j].c, .int .i64 g.evs[j].v.time])) rfl (by kernel_rfl) (by kernel_rfl) (by kernel_rfl) (fun _ _ _ h => h) (Or.inl ⟨by kernel_rfl, ?_⟩) hHeld ?_
    · intro W hW
      obtain ⟨f0, f1, f2, f3, f4, f5, f6, f7, f8⟩ := HNJ.out W hW.1
      go_simp
    refine wpAnyH_ready (rs := [10, 11]) (by kernel_rfl) (by simp) ?_
    refine AllReadyH.cons rfl (fun K hK => ?_) (AllReadyH.cons rfl (fun K hK => ?_) AllReadyH.nil)
    · go_simp
      refine hK.out _ _ (hHeld.on ((Below.refl _ _).alloc (Nat.le_refl _) _)) (fun _ => ?_)
      clear hK K
      refine wpAnyH_ready (rs := [11]) (by kernel_rfl) (by simp) ?_
      refine AllReadyH.cons rfl (fun K hK => ?_) AllReadyH.nil
      go_simp
      refine hK.out _ _ (hHeld.on (((Below.refl _ _).alloc (Nat.le_refl _) _).alloc (by simp) _)) (fun _ => ?_)
      clear hK K
      refine wpAnyH_ready (rs := [12]) (by kernel_rfl) (by simp) ?_
      refine AllReadyH.cons rfl (fun K hK => ?_) AllReadyH.nil
      go_simp
      refine hK.out _ _ (hHeld.on (((Below.refl _ _).alloc (Nat.le_refl _) _).alloc (by simp) _)) (fun _ => ?_)
      clear hK K
      refine wpAnyH_ready (rs := [13]) (by kernel_rfl) (by simp) ?_
      refine AllReadyH.cons rfl (fun K hK => ?_) AllReadyH.nil
      go_simp
      refine hK.out _ _ (hHeld.on (((Below.refl _ _).alloc (Nat.le_refl _) _).alloc (by simp) _)) (fun _ => ?_)
      clear hK K
      refine wpAnyH_done (by kernel_rfl) ?_ _
      go_wp2
      go_meet
      case rel => exact ⟨_, _, rfl, rfl, ⟨hHeld.on (((Below.refl _ _).alloc (Nat.le_refl _) _).alloc (by simp) _), (two_alloc w _ _ _).1, (two_alloc w _ _ _).2⟩⟩
    · go_simp
      refine hK.out _ _ (hHeld.on ((Below.refl _ _).alloc (Nat.le_refl _) _)) (fun _ => ?_)
      clear hK K
      refine wpAnyH_ready (rs := [10]) (by kernel_rfl) (by simp) ?_
      refine AllReadyH.cons rfl (fun K hK => ?_) AllReadyH.nil
      go_simp
      refine hK.out _ _ (hHeld.on (((Below.refl _ _).alloc (Nat.le_refl _) _).alloc (by simp) _)) (fun _ => ?_)
      clear hK K
      refine wpAnyH_ready (rs := [12]) (by kernel_rfl) (by simp) ?_
      refine AllReadyH.cons rfl (fun K hK => ?_) AllReadyH.nil
      go_simp
      refine hK.out _ _ (hHeld.on (((Below.refl _ _).alloc (Nat.le_refl _) _).alloc (by simp) _)) (fun _ => ?_)
      clear hK K
      refine wpAnyH_ready (rs := [13]) (by kernel_rfl) (by simp) ?_
      refine AllReadyH.cons rfl (fun K hK => ?_) AllReadyH.nil
      go_simp
      refine hK.out _ _ (hHeld.on (((Below.refl _ _).alloc (Nat.le_refl _) _).alloc (by simp) _)) (fun _ => ?_)
      clear hK K
      refine wpAnyH_done (by kernel_rfl) ?_ _
      go_wp2
      go_meet
      case rel => exact ⟨_, _, rfl, rfl, ⟨hHeld.on (((Below.refl _ _).alloc (Nat.le_refl _) _).alloc (by simp) _), (two_alloc w _ _ _).2, (two_alloc w _ _ _).1⟩⟩
  case rest =>
    clear HG0 HAI HAJ HNI HNJ
    obtain ⟨bx, bz, rfl, rfl, HX⟩ := hcut
    go_wp2
    cases e : (hX != hY)
    · refine wp_region_held_drew (S := (fun W => (∀ k, W.cell? ⟨bx, k, none⟩ = #[.int .i64 g.evs[i].v.id, .int .i64 g.evs[i].v.room, .int .i64 g.evs[i].v.author, .int .i64 g.evs[i].v.kind, .int .i64 g.evs[i].v.key, .int .i64 g.evs[i].v.n, .string g.evs[i].v.text, .slice g.evs[i].p g.evs[i].v.prev.length g.evs[i].c, .int .i64 g.evs[i].v.time][k]?) ∧ (∀ k, W.cell? ⟨bz, k, none⟩ = #[.int .i64 g.evs[j].v.id, .int .i64 g.evs[j].v.room, .int .i64 g.evs[j].v.author, .int .i64 g.evs[j].v.kind, .int .i64 g.evs[j].v.key, .int .i64 g.evs[j].v.n, .string g.evs[j].v.text, .slice g.evs[j].p g.evs[j].v.prev.length g.evs[j].c, .int .i64 g.evs[j].v.time][k]?))) (by kernel_rfl) (HX.out.on (Below.refl _ _).drew).cells (fun hHeld => ?_)
      refine wpAnyH_take (i := 0) (v := (.agg #[.int .i64 g.evs[i].v.id, .int .i64 g.evs[i].v.room, .int .i64 g.evs[i].v.author, .int .i64 g.evs[i].v.kind, .int .i64 g.evs[i].v.key, .int .i64 g.evs[i].v.n, .string g.evs[i].v.text, .slice g.evs[i].p g.evs[i].v.prev.length g.evs[i].c, .int .i64 g.evs[i].v.time])) rfl (by kernel_rfl) (by kernel_rfl) (by kernel_rfl) (fun _ _ _ h => h) (Or.inl ⟨by kernel_rfl, ?_⟩) hHeld ?_
      · intro W hW
        obtain ⟨x0, x1⟩ := hW
        go_simp
      refine wpAnyH_take (i := 2) (v := (.agg #[.int .i64 g.evs[j].v.id, .int .i64 g.evs[j].v.room, .int .i64 g.evs[j].v.author, .int .i64 g.evs[j].v.kind, .int .i64 g.evs[j].v.key, .int .i64 g.evs[j].v.n, .string g.evs[j].v.text, .slice g.evs[j].p g.evs[j].v.prev.length g.evs[j].c, .int .i64 g.evs[j].v.time])) rfl (by kernel_rfl) (by kernel_rfl) (by kernel_rfl) (fun _ _ _ h => h) (Or.inl ⟨by kernel_rfl, ?_⟩) hHeld ?_
      · intro W hW
        obtain ⟨x0, x1⟩ := hW
        go_simp
      refine wpAnyH_ready (rs := [1]) (by kernel_rfl) (by simp) ?_
      refine AllReadyH.cons rfl (fun K hK => ?_) AllReadyH.nil
      go_simp
      refine (HHI _).mono ?_
      rintro e w2 ⟨rfl, hb2⟩
      have HX2 : Hid (XY w g (some ⟨b, off, none⟩) cap p cp #[.int .i64 g.evs[i].v.id, .int .i64 g.evs[i].v.room, .int .i64 g.evs[i].v.author, .int .i64 g.evs[i].v.kind, .int .i64 g.evs[i].v.key, .int .i64 g.evs[i].v.n, .string g.evs[i].v.text, .slice g.evs[i].p g.evs[i].v.prev.length g.evs[i].c, .int .i64 g.evs[i].v.time] #[.int .i64 g.evs[j].v.id, .int .i64 g.evs[j].v.room, .int .i64 g.evs[j].v.author, .int .i64 g.evs[j].v.kind, .int .i64 g.evs[j].v.key, .int .i64 g.evs[j].v.n, .string g.evs[j].v.text, .slice g.evs[j].p g.evs[j].v.prev.length g.evs[j].c, .int .i64 g.evs[j].v.time] bx bz w2) := (HX.out.on (Below.refl _ _).drew).on hb2
      clear hb2
      refine hK.out _ _ HX2.out.cells (fun hH2 => ?_)
      clear hK K
      refine wpAnyH_ready (rs := [3]) (by kernel_rfl) (by simp) ?_
      refine AllReadyH.cons rfl (fun K hK => ?_) AllReadyH.nil
      go_simp
      refine (HHJ _).mono ?_
      rintro e w3 ⟨rfl, hb3⟩
      have HX3 : Hid (XY w g (some ⟨b, off, none⟩) cap p cp #[.int .i64 g.evs[i].v.id, .int .i64 g.evs[i].v.room, .int .i64 g.evs[i].v.author, .int .i64 g.evs[i].v.kind, .int .i64 g.evs[i].v.key, .int .i64 g.evs[i].v.n, .string g.evs[i].v.text, .slice g.evs[i].p g.evs[i].v.prev.length g.evs[i].c, .int .i64 g.evs[i].v.time] #[.int .i64 g.evs[j].v.id, .int .i64 g.evs[j].v.room, .int .i64 g.evs[j].v.author, .int .i64 g.evs[j].v.kind, .int .i64 g.evs[j].v.key, .int .i64 g.evs[j].v.n, .string g.evs[j].v.text, .slice g.evs[j].p g.evs[j].v.prev.length g.evs[j].c, .int .i64 g.evs[j].v.time] bx bz w3) := HX2.out.on hb3
      clear hb3
      refine hK.out _ _ HX3.out.cells (fun hH3 => ?_)
      clear hK K
      refine wpAnyH_take (i := 4) (v := (.bool false)) rfl (by kernel_rfl) (by kernel_rfl) (by kernel_rfl) (fun _ _ _ h => h) (Or.inl ⟨by kernel_rfl, ?_⟩) hH3 ?_
      · intro W hW
        go_simp
        simpa using e
      refine wpAnyH_ready (rs := [5]) (by kernel_rfl) (by simp) ?_
      refine AllReadyH.cons rfl (fun K hK => ?_) AllReadyH.nil
      go_simp
      refine hK.out _ _ HX3.out.cells (fun hH4 => ?_)
      clear hK K
      refine wpAnyH_done (by kernel_rfl) ?_ _
      clear hH4 hH3 hH2 hHeld HX2 HX
      go_wp2
      cases k2 : (dI != dJ)
      · refine wp_region_held_drew (S := (fun W => W.cell? ⟨bd, od + i, none⟩ = some (.int .i64 dI) ∧ W.cell? ⟨bd, od + j, none⟩ = some (.int .i64 dJ))) (by kernel_rfl) (HDS.out _ (HX3.out.on (Below.refl _ _).drew).g.1) (fun hHeld => ?_)
        refine wpAnyH_take (i := 0) (v := (.slice (some ⟨bd, od, none⟩) ds.length cd)) rfl (by kernel_rfl) (by kernel_rfl) (by kernel_rfl) (fun _ _ _ h => h) (Or.inl ⟨by kernel_rfl, ?_⟩) hHeld ?_
        · intro W hW
          go_simp
        refine wpAnyH_take (i := 1) (v := (.int .i64 i)) rfl (by kernel_rfl) (by kernel_rfl) (by kernel_rfl) (fun _ _ _ h => h) (Or.inl ⟨by kernel_rfl, ?_⟩) hHeld ?_
        · intro W hW
          go_simp
        refine wpAnyH_take (i := 2) (v := (.pointer (some ⟨bd, od + i, none⟩))) rfl (by kernel_rfl) (by kernel_rfl) (by kernel_rfl) (fun _ _ _ h => h) (Or.inl ⟨by kernel_rfl, ?_⟩) hHeld ?_
        · intro W hW
          go_simp
        refine wpAnyH_take (i := 3) (v := (.int .i64 dI)) rfl (by kernel_rfl) (by kernel_rfl) (by kernel_rfl) (fun _ _ _ h => h) (Or.inl ⟨by kernel_rfl, ?_⟩) hHeld ?_
        · intro W hW
          obtain ⟨x0, x1⟩ := hW
          go_simp
        refine wpAnyH_take (i := 4) (v := (.slice (some ⟨bd, od, none⟩) ds.length cd)) rfl (by kernel_rfl) (by kernel_rfl) (by kernel_rfl) (fun _ _ _ h => h) (Or.inl ⟨by kernel_rfl, ?_⟩) hHeld ?_
        · intro W hW
          go_simp
        refine wpAnyH_take (i := 5) (v := (.int .i64 j)) rfl (by kernel_rfl) (by kernel_rfl) (by kernel_rfl) (fun _ _ _ h => h) (Or.inl ⟨by kernel_rfl, ?_⟩) hHeld ?_
        · intro W hW
          go_simp
        refine wpAnyH_take (i := 6) (v := (.pointer (some ⟨bd, od + j, none⟩))) rfl (by kernel_rfl) (by kernel_rfl) (by kernel_rfl) (fun _ _ _ h => h) (Or.inl ⟨by kernel_rfl, ?_⟩) hHeld ?_
        · intro W hW
          go_simp
        refine wpAnyH_take (i := 7) (v := (.int .i64 dJ)) rfl (by kernel_rfl) (by kernel_rfl) (by kernel_rfl) (fun _ _ _ h => h) (Or.inl ⟨by kernel_rfl, ?_⟩) hHeld ?_
        · intro W hW
          obtain ⟨x0, x1⟩ := hW
          go_simp
        refine wpAnyH_take (i := 8) (v := (.bool false)) rfl (by kernel_rfl) (by kernel_rfl) (by kernel_rfl) (fun _ _ _ h => h) (Or.inl ⟨by kernel_rfl, ?_⟩) hHeld ?_
        · intro W hW
          go_simp
        refine wpAnyH_ready (rs := [9]) (by kernel_rfl) (by simp) ?_
        refine AllReadyH.cons rfl (fun K hK => ?_) AllReadyH.nil
        go_simp
        refine hK.out _ _ hHeld (fun _ => ?_)
        clear hK K
        refine wpAnyH_done (by kernel_rfl) ?_ _
        clear hHeld
        obtain ⟨x0, x1⟩ := (HX3.out.on (Below.refl _ _).drew).cells
        cases k3 : (g.evs[i].v.time != g.evs[j].v.time)
        · go_wp2
          go_ret
          exact ⟨ret_bool (by rw [HR.out]; unfold lessV; rw [← HhX.out, ← HhY.out, ← HdI.out, ← HdJ.out]; simp [e, k2, k3]), (HX3.out.on (Below.refl _ _).drew).g.1⟩
        · go_wp2
          go_ret
          exact ⟨ret_bool (by rw [HR.out]; unfold lessV; rw [← HhX.out, ← HhY.out, ← HdI.out, ← HdJ.out]; simp [e, k2, k3]), (HX3.out.on (Below.refl _ _).drew).g.1⟩
      · refine wp_region_held_drew (S := (fun W => W.cell? ⟨bd, od + i, none⟩ = some (.int .i64 dI) ∧ W.cell? ⟨bd, od + j, none⟩ = some (.int .i64 dJ))) (by kernel_rfl) (HDS.out _ (HX3.out.on (Below.refl _ _).drew).g.1) (fun hHeld => ?_)
        refine wpAnyH_take (i := 0) (v := (.slice (some ⟨bd, od, none⟩) ds.length cd)) rfl (by kernel_rfl) (by kernel_rfl) (by kernel_rfl) (fun _ _ _ h => h) (Or.inl ⟨by kernel_rfl, ?_⟩) hHeld ?_
        · intro W hW
          go_simp
        refine wpAnyH_take (i := 1) (v := (.int .i64 i)) rfl (by kernel_rfl) (by kernel_rfl) (by kernel_rfl) (fun _ _ _ h => h) (Or.inl ⟨by kernel_rfl, ?_⟩) hHeld ?_
        · intro W hW
          go_simp
        refine wpAnyH_take (i := 2) (v := (.pointer (some ⟨bd, od + i, none⟩))) rfl (by kernel_rfl) (by kernel_rfl) (by kernel_rfl) (fun _ _ _ h => h) (Or.inl ⟨by kernel_rfl, ?_⟩) hHeld ?_
        · intro W hW
          go_simp
        refine wpAnyH_take (i := 3) (v := (.int .i64 dI)) rfl (by kernel_rfl) (by kernel_rfl) (by kernel_rfl) (fun _ _ _ h => h) (Or.inl ⟨by kernel_rfl, ?_⟩) hHeld ?_
        · intro W hW
          obtain ⟨x0, x1⟩ := hW
          go_simp
        refine wpAnyH_take (i := 4) (v := (.slice (some ⟨bd, od, none⟩) ds.length cd)) rfl (by kernel_rfl) (by kernel_rfl) (by kernel_rfl) (fun _ _ _ h => h) (Or.inl ⟨by kernel_rfl, ?_⟩) hHeld ?_
        · intro W hW
          go_simp
        refine wpAnyH_take (i := 5) (v := (.int .i64 j)) rfl (by kernel_rfl) (by kernel_rfl) (by kernel_rfl) (fun _ _ _ h => h) (Or.inl ⟨by kernel_rfl, ?_⟩) hHeld ?_
        · intro W hW
          go_simp
        refine wpAnyH_take (i := 6) (v := (.pointer (some ⟨bd, od + j, none⟩))) rfl (by kernel_rfl) (by kernel_rfl) (by kernel_rfl) (fun _ _ _ h => h) (Or.inl ⟨by kernel_rfl, ?_⟩) hHeld ?_
        · intro W hW
          go_simp
        refine wpAnyH_take (i := 7) (v := (.int .i64 dJ)) rfl (by kernel_rfl) (by kernel_rfl) (by kernel_rfl) (fun _ _ _ h => h) (Or.inl ⟨by kernel_rfl, ?_⟩) hHeld ?_
        · intro W hW
          obtain ⟨x0, x1⟩ := hW
          go_simp
        refine wpAnyH_take (i := 8) (v := (.bool true)) rfl (by kernel_rfl) (by kernel_rfl) (by kernel_rfl) (fun _ _ _ h => h) (Or.inl ⟨by kernel_rfl, ?_⟩) hHeld ?_
        · intro W hW
          go_simp
        refine wpAnyH_ready (rs := [9]) (by kernel_rfl) (by simp) ?_
        refine AllReadyH.cons rfl (fun K hK => ?_) AllReadyH.nil
        go_simp
        refine hK.out _ _ hHeld (fun _ => ?_)
        clear hK K
        refine wpAnyH_done (by kernel_rfl) ?_ _
        clear hHeld
        have HX4 : Hid (XY w g (some ⟨b, off, none⟩) cap p cp #[.int .i64 g.evs[i].v.id, .int .i64 g.evs[i].v.room, .int .i64 g.evs[i].v.author, .int .i64 g.evs[i].v.kind, .int .i64 g.evs[i].v.key, .int .i64 g.evs[i].v.n, .string g.evs[i].v.text, .slice g.evs[i].p g.evs[i].v.prev.length g.evs[i].c, .int .i64 g.evs[i].v.time] #[.int .i64 g.evs[j].v.id, .int .i64 g.evs[j].v.room, .int .i64 g.evs[j].v.author, .int .i64 g.evs[j].v.kind, .int .i64 g.evs[j].v.key, .int .i64 g.evs[j].v.n, .string g.evs[j].v.text, .slice g.evs[j].p g.evs[j].v.prev.length g.evs[j].c, .int .i64 g.evs[j].v.time] bx bz _) := HX3.out.on (Below.refl _ _).drew
        go_wp2
        refine wp_region_held_drew (S := (fun W => W.cell? ⟨bd, od + i, none⟩ = some (.int .i64 dI) ∧ W.cell? ⟨bd, od + j, none⟩ = some (.int .i64 dJ))) (by kernel_rfl) (HDS.out _ (HX4.out.on (Below.refl _ _).drew).g.1) (fun hHeld => ?_)
        refine wpAnyH_take (i := 0) (v := (.slice (some ⟨bd, od, none⟩) ds.length cd)) rfl (by kernel_rfl) (by kernel_rfl) (by kernel_rfl) (fun _ _ _ h => h) (Or.inl ⟨by kernel_rfl, ?_⟩) hHeld ?_
        · intro W hW
          go_simp
        refine wpAnyH_take (i := 1) (v := (.int .i64 i)) rfl (by kernel_rfl) (by kernel_rfl) (by kernel_rfl) (fun _ _ _ h => h) (Or.inl ⟨by kernel_rfl, ?_⟩) hHeld ?_
        · intro W hW
          go_simp
        refine wpAnyH_take (i := 2) (v := (.pointer (some ⟨bd, od + i, none⟩))) rfl (by kernel_rfl) (by kernel_rfl) (by kernel_rfl) (fun _ _ _ h => h) (Or.inl ⟨by kernel_rfl, ?_⟩) hHeld ?_
        · intro W hW
          go_simp
        refine wpAnyH_take (i := 3) (v := (.int .i64 dI)) rfl (by kernel_rfl) (by kernel_rfl) (by kernel_rfl) (fun _ _ _ h => h) (Or.inl ⟨by kernel_rfl, ?_⟩) hHeld ?_
        · intro W hW
          obtain ⟨x0, x1⟩ := hW
          go_simp
        refine wpAnyH_take (i := 4) (v := (.slice (some ⟨bd, od, none⟩) ds.length cd)) rfl (by kernel_rfl) (by kernel_rfl) (by kernel_rfl) (fun _ _ _ h => h) (Or.inl ⟨by kernel_rfl, ?_⟩) hHeld ?_
        · intro W hW
          go_simp
        refine wpAnyH_take (i := 5) (v := (.int .i64 j)) rfl (by kernel_rfl) (by kernel_rfl) (by kernel_rfl) (fun _ _ _ h => h) (Or.inl ⟨by kernel_rfl, ?_⟩) hHeld ?_
        · intro W hW
          go_simp
        refine wpAnyH_take (i := 6) (v := (.pointer (some ⟨bd, od + j, none⟩))) rfl (by kernel_rfl) (by kernel_rfl) (by kernel_rfl) (fun _ _ _ h => h) (Or.inl ⟨by kernel_rfl, ?_⟩) hHeld ?_
        · intro W hW
          go_simp
        refine wpAnyH_take (i := 7) (v := (.int .i64 dJ)) rfl (by kernel_rfl) (by kernel_rfl) (by kernel_rfl) (fun _ _ _ h => h) (Or.inl ⟨by kernel_rfl, ?_⟩) hHeld ?_
        · intro W hW
          obtain ⟨x0, x1⟩ := hW
          go_simp
        refine wpAnyH_take (i := 8) (v := (.bool (decide (dI < dJ)))) rfl (by kernel_rfl) (by kernel_rfl) (by kernel_rfl) (fun _ _ _ h => h) (Or.inl ⟨by kernel_rfl, ?_⟩) hHeld ?_
        · intro W hW
          go_simp
        refine wpAnyH_ready (rs := [9]) (by kernel_rfl) (by simp) ?_
        refine AllReadyH.cons rfl (fun K hK => ?_) AllReadyH.nil
        go_simp
        refine hK.out _ _ hHeld (fun _ => ?_)
        clear hK K
        refine wpAnyH_done (by kernel_rfl) ?_ _
        clear hHeld
        go_wp2
        go_ret
        exact ⟨ret_bool (by rw [HR.out]; unfold lessV; rw [← HhX.out, ← HhY.out, ← HdI.out, ← HdJ.out]; simp [e, k2]), (HX4.out.on (Below.refl _ _).drew).g.1⟩
    · refine wp_region_held_drew (S := (fun W => (∀ k, W.cell? ⟨bx, k, none⟩ = #[.int .i64 g.evs[i].v.id, .int .i64 g.evs[i].v.room, .int .i64 g.evs[i].v.author, .int .i64 g.evs[i].v.kind, .int .i64 g.evs[i].v.key, .int .i64 g.evs[i].v.n, .string g.evs[i].v.text, .slice g.evs[i].p g.evs[i].v.prev.length g.evs[i].c, .int .i64 g.evs[i].v.time][k]?) ∧ (∀ k, W.cell? ⟨bz, k, none⟩ = #[.int .i64 g.evs[j].v.id, .int .i64 g.evs[j].v.room, .int .i64 g.evs[j].v.author, .int .i64 g.evs[j].v.kind, .int .i64 g.evs[j].v.key, .int .i64 g.evs[j].v.n, .string g.evs[j].v.text, .slice g.evs[j].p g.evs[j].v.prev.length g.evs[j].c, .int .i64 g.evs[j].v.time][k]?))) (by kernel_rfl) (HX.out.on (Below.refl _ _).drew).cells (fun hHeld => ?_)
      refine wpAnyH_take (i := 0) (v := (.agg #[.int .i64 g.evs[i].v.id, .int .i64 g.evs[i].v.room, .int .i64 g.evs[i].v.author, .int .i64 g.evs[i].v.kind, .int .i64 g.evs[i].v.key, .int .i64 g.evs[i].v.n, .string g.evs[i].v.text, .slice g.evs[i].p g.evs[i].v.prev.length g.evs[i].c, .int .i64 g.evs[i].v.time])) rfl (by kernel_rfl) (by kernel_rfl) (by kernel_rfl) (fun _ _ _ h => h) (Or.inl ⟨by kernel_rfl, ?_⟩) hHeld ?_
      · intro W hW
        obtain ⟨x0, x1⟩ := hW
        go_simp
      refine wpAnyH_take (i := 2) (v := (.agg #[.int .i64 g.evs[j].v.id, .int .i64 g.evs[j].v.room, .int .i64 g.evs[j].v.author, .int .i64 g.evs[j].v.kind, .int .i64 g.evs[j].v.key, .int .i64 g.evs[j].v.n, .string g.evs[j].v.text, .slice g.evs[j].p g.evs[j].v.prev.length g.evs[j].c, .int .i64 g.evs[j].v.time])) rfl (by kernel_rfl) (by kernel_rfl) (by kernel_rfl) (fun _ _ _ h => h) (Or.inl ⟨by kernel_rfl, ?_⟩) hHeld ?_
      · intro W hW
        obtain ⟨x0, x1⟩ := hW
        go_simp
      refine wpAnyH_ready (rs := [1]) (by kernel_rfl) (by simp) ?_
      refine AllReadyH.cons rfl (fun K hK => ?_) AllReadyH.nil
      go_simp
      refine (HHI _).mono ?_
      rintro e w2 ⟨rfl, hb2⟩
      have HX2 : Hid (XY w g (some ⟨b, off, none⟩) cap p cp #[.int .i64 g.evs[i].v.id, .int .i64 g.evs[i].v.room, .int .i64 g.evs[i].v.author, .int .i64 g.evs[i].v.kind, .int .i64 g.evs[i].v.key, .int .i64 g.evs[i].v.n, .string g.evs[i].v.text, .slice g.evs[i].p g.evs[i].v.prev.length g.evs[i].c, .int .i64 g.evs[i].v.time] #[.int .i64 g.evs[j].v.id, .int .i64 g.evs[j].v.room, .int .i64 g.evs[j].v.author, .int .i64 g.evs[j].v.kind, .int .i64 g.evs[j].v.key, .int .i64 g.evs[j].v.n, .string g.evs[j].v.text, .slice g.evs[j].p g.evs[j].v.prev.length g.evs[j].c, .int .i64 g.evs[j].v.time] bx bz w2) := (HX.out.on (Below.refl _ _).drew).on hb2
      clear hb2
      refine hK.out _ _ HX2.out.cells (fun hH2 => ?_)
      clear hK K
      refine wpAnyH_ready (rs := [3]) (by kernel_rfl) (by simp) ?_
      refine AllReadyH.cons rfl (fun K hK => ?_) AllReadyH.nil
      go_simp
      refine (HHJ _).mono ?_
      rintro e w3 ⟨rfl, hb3⟩
      have HX3 : Hid (XY w g (some ⟨b, off, none⟩) cap p cp #[.int .i64 g.evs[i].v.id, .int .i64 g.evs[i].v.room, .int .i64 g.evs[i].v.author, .int .i64 g.evs[i].v.kind, .int .i64 g.evs[i].v.key, .int .i64 g.evs[i].v.n, .string g.evs[i].v.text, .slice g.evs[i].p g.evs[i].v.prev.length g.evs[i].c, .int .i64 g.evs[i].v.time] #[.int .i64 g.evs[j].v.id, .int .i64 g.evs[j].v.room, .int .i64 g.evs[j].v.author, .int .i64 g.evs[j].v.kind, .int .i64 g.evs[j].v.key, .int .i64 g.evs[j].v.n, .string g.evs[j].v.text, .slice g.evs[j].p g.evs[j].v.prev.length g.evs[j].c, .int .i64 g.evs[j].v.time] bx bz w3) := HX2.out.on hb3
      clear hb3
      refine hK.out _ _ HX3.out.cells (fun hH3 => ?_)
      clear hK K
      refine wpAnyH_take (i := 4) (v := (.bool true)) rfl (by kernel_rfl) (by kernel_rfl) (by kernel_rfl) (fun _ _ _ h => h) (Or.inl ⟨by kernel_rfl, ?_⟩) hH3 ?_
      · intro W hW
        go_simp
        simpa using e
      refine wpAnyH_ready (rs := [5]) (by kernel_rfl) (by simp) ?_
      refine AllReadyH.cons rfl (fun K hK => ?_) AllReadyH.nil
      go_simp
      refine hK.out _ _ HX3.out.cells (fun hH4 => ?_)
      clear hK K
      refine wpAnyH_done (by kernel_rfl) ?_ _
      clear hH4 hH3 hH2 hHeld HX2 HX
      obtain ⟨x0, x1⟩ := HX3.out.cells
      go_wp2_with (go_at_call 101; refine (HHI _).mono ?_; rintro e4 w4 ⟨rfl, hb4⟩; have HX4 : Hid (XY w g (some ⟨b, off, none⟩) cap p cp #[.int .i64 g.evs[i].v.id, .int .i64 g.evs[i].v.room, .int .i64 g.evs[i].v.author, .int .i64 g.evs[i].v.kind, .int .i64 g.evs[i].v.key, .int .i64 g.evs[i].v.n, .string g.evs[i].v.text, .slice g.evs[i].p g.evs[i].v.prev.length g.evs[i].c, .int .i64 g.evs[i].v.time] #[.int .i64 g.evs[j].v.id, .int .i64 g.evs[j].v.room, .int .i64 g.evs[j].v.author, .int .i64 g.evs[j].v.kind, .int .i64 g.evs[j].v.key, .int .i64 g.evs[j].v.n, .string g.evs[j].v.text, .slice g.evs[j].p g.evs[j].v.prev.length g.evs[j].c, .int .i64 g.evs[j].v.time] bx bz w4) := HX3.out.on hb4; clear hb4)
      go_ret
      exact ⟨ret_bool (by rw [HR.out]; unfold lessV; rw [← HhX.out, ← HhY.out, ← HdI.out, ← HdJ.out]; simp [e]), HX4.out.g.1⟩
end Go.Proofs.YteajcmkaoahbeaaGreatDoor
