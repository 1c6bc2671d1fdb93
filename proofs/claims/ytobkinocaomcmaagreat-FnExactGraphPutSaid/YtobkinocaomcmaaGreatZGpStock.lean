/- The keys of a map of events, in order. What the program's stock of events is asked: what is there, and which one is ready. -/
import Derived.Test.YtobkinocaomcmaaGreatZGpMap
import Derived.Test.YtobkinocaomcmaaGreatZGpLay
namespace Go.Proofs.YtobkinocaomcmaaGreat
open Go.RowKit Go.Maps Go.Sort Go.Shelf

/-- slices.Sort's two contracts here, at the fence that asks nothing. -/
theorem sortsG (m : Nat) : AnyZI.SortsIn Tryz.prog Tryz.sortedI_ren Fence.wide m :=
  ⟨fun blk off cap ss W hH hblk hsz => callsIn_wide.2 (AnyM.slices_Sort_int Tryz.sortG blk off cap ss W hH hblk hsz),
   fun p cap W => callsIn_wide.2 (AnyM.slices_Sort_int_none Tryz.sortG p cap W)⟩
theorem keys_call (mb : Option Nat) (W : World) : Calls Tryz.prog 127 #[.map mb] W fun e w' => e = .returned (.func (.func 137) #[] #[.pointer (some ⟨W.heap.size, 0, none⟩)]) ∧ w' = W.alloc (.cells #[.map mb] 74) :=
  (callsIn_wide (n := 5)).1 (AnyZI.keys_in Tryz.keysE Fence.wide 5 trivial rfl mb W)
theorem sorted_call {H : Type} (b nn : Nat) (D0 : DataW H) (R : Value → Option (DataW H × List MemPlace)) (w : World) (hown : w.ownsMap Tryz.prog 2 R b nn D0) (hmax : Maps.size D0 ≤ maxLen) (hbytes : Maps.size D0 * 8 ≤ 140737488355328) :
    Calls Tryz.prog 102 #[.func (.func 137) #[] #[.pointer (some ⟨w.heap.size, 0, none⟩)]] (w.alloc (.cells #[.map (some b)] 74)) fun e w' => ∃ (v : Value) (ss : List Int), e = .returned v ∧ ss.Perm (intKeys D0) ∧
      w'.ownsRow (w.heap.size + 1) 2 1 v ss.length ((ss.mergeSort (fun x y => decide (x ≤ y))).map encZ) ∧ (v = .slice none 0 0 ↔ ss = []) ∧ Below (w.heap.size + 1) (w.alloc (.cells #[.map (some b)] 74)) w' := by
  have hbl := hown.lt
  have hseq : SeqGives Fence.wide 2 Tryz.prog 137 #[.pointer (some ⟨w.heap.size, 0, none⟩)] encZ (fun ss => ss.Perm (intKeys D0)) (Maps.size D0) (w.alloc (.cells #[.map (some b)] 74)) :=
    AnyZI.keys_gives (ρ := Tryz.keysE_ren) { Tryz.keysE with } Fence.wide _ trivial rfl (by omega) w.heap.size b nn D0 _ (by simp) (by simp) (by
      obtain ⟨es, clock, hb, Ft, hs, hD⟩ := hown
      exact ⟨es, clock, (Below.heap_alloc _ _ b hbl).trans hb, Ft, hs, hD⟩)
  have cS := AnyZI.sorted_in Tryz.sortedI Fence.wide 5 trivial trivial trivial trivial rfl (by omega) (sortsG _) (enters_of Tryz.func112 (by kernel_rfl) rfl) 137 #[.pointer (some ⟨w.heap.size, 0, none⟩)] trivial (enters_of Tryz.func137 (by kernel_rfl) rfl) _ _ hmax hbytes _ hseq
  change CallsIn _ _ Tryz.prog 102 _ _ _ at cS
  refine ((callsIn_wide (n := 5)).1 cS).mono ?_
  rintro e w' ⟨v, ss, rfl, hS, hrow, hnil, hb⟩
  have hz : (w.alloc (.cells #[.map (some b)] 74)).heap.size = w.heap.size + 1 := by simp
  rw [hz] at hrow hb
  exact ⟨v, ss, rfl, hS, hrow, hnil, hb⟩
theorem rises_sorted {ids ss : List Int} (hr : ids.Pairwise (· < ·)) (hp : ss.Perm ids) : ss.mergeSort (fun x y => decide (x ≤ y)) = ids := by
  have h1 : (ss.mergeSort (fun x y => decide (x ≤ y))).Perm ids := (List.mergeSort_perm ss _).trans hp
  have h2 : (ss.mergeSort (fun x y => decide (x ≤ y))).Pairwise (fun x y => decide (x ≤ y) = true) :=
    List.pairwise_mergeSort (fun a b c h1 h2 => by simp at h1 h2 ⊢; omega) (fun a b => by simp; omega) ss
  refine List.Perm.eq_of_pairwise (le := fun x y => decide (x ≤ y) = true) (fun a b _ _ h1 h2 => by simp at h1 h2; omega) h2 (hr.imp fun h => by simp; omega) h1
theorem risM_ids {es : List Em} (h : RisM es) : (idsOf es).Pairwise (· < ·) := by
  unfold RisM RisE vs at h
  unfold idsOf
  rw [List.pairwise_map] at h ⊢
  exact h
/-- The Ids of the events of a map, in order. -/
theorem sorted_events (b n : Nat) (es : List Em) (w : World) (h : EMap w b n es) (hl : es.length ≤ 1000) :
    Calls Tryz.prog 102 #[.func (.func 137) #[] #[.pointer (some ⟨w.heap.size, 0, none⟩)]] (w.alloc (.cells #[.map (some b)] 74)) fun e w' => ∃ a c, e = .returned (.slice a es.length c) ∧ NumsAt w' a (idsOf es) ∧ Below (w.heap.size + 1) (w.alloc (.cells #[.map (some b)] 74)) w' := by
  have hs := h.size
  refine (sorted_call b n (putAll es) heldR w h.1 (by rw [hs]; unfold maxLen; omega) (by rw [hs]; omega)).mono ?_
  rintro e w' ⟨v, ss, rfl, hS, hrow, -, hb⟩
  rw [h.keys] at hS
  have hid : (idsOf es).length = es.length := by simp [idsOf]
  have hlen : ss.length = es.length := hS.length_eq.trans hid
  rw [rises_sorted (risM_ids h.2) hS, hlen] at hrow
  rcases hrow.2 with ⟨rfl, h0⟩ | ⟨g, cap, cur, rfl, h2, h3, h4, h5, h6, h7⟩
  · exact ⟨none, 0, by rw [h0], ⟨by omega, fun hp => by omega⟩, hb⟩
  · refine ⟨some ⟨g, 0, none⟩, cap, rfl, ⟨by omega, fun hp => ⟨g, 0, rfl, (Array.getElem?_eq_some_iff.1 h3).1, fun j hj => ?_⟩⟩, hb⟩
    rw [Nat.zero_add, cell_of_heap h3, ← Array.getElem?_toList]
    have e1 : (cur.toList.take (es.length * 1))[j]? = ((idsOf es).map encZ)[j]? := by rw [h7]
    rw [List.getElem?_take_of_lt (by omega)] at e1
    rw [e1]
    simp [encZ, hj]
/-- The same, as a row of one's own. -/
theorem sorted_rows (b n : Nat) (es : List Em) (w : World) (h : EMap w b n es) (hl : es.length ≤ 1000) :
    Calls Tryz.prog 102 #[.func (.func 137) #[] #[.pointer (some ⟨w.heap.size, 0, none⟩)]] (w.alloc (.cells #[.map (some b)] 74)) fun e w' => ∃ a c, e = .returned (.slice a es.length c) ∧ w'.ownsRow (w.heap.size + 1) 2 1 (.slice a es.length c) es.length (nv (idsOf es)) ∧ Below (w.heap.size + 1) (w.alloc (.cells #[.map (some b)] 74)) w' := by
  have hs := h.size
  refine (sorted_call b n (putAll es) heldR w h.1 (by rw [hs]; unfold maxLen; omega) (by rw [hs]; omega)).mono ?_
  rintro e w' ⟨v, ss, rfl, hS, hrow, -, hb⟩
  rw [h.keys] at hS
  have hid : (idsOf es).length = es.length := by simp [idsOf]
  have hlen : ss.length = es.length := hS.length_eq.trans hid
  rw [rises_sorted (risM_ids h.2) hS, hlen] at hrow
  rcases hrow.2 with ⟨rfl, h0⟩ | ⟨g, cap, cur, rfl, _⟩
  · exact ⟨none, 0, by rw [h0], by rw [h0] at hrow ⊢; exact hrow, hb⟩
  · exact ⟨_, cap, rfl, hrow, hb⟩
end Go.Proofs.YtobkinocaomcmaaGreat
namespace Go.Proofs.YtobkinocaomcmaaGreat
open Go.RowKit

def heldV (es ps : List Em) (p : Int) : Bool := decide (p ∈ idsOf es) || decide (p ∈ idsOf ps)
theorem look_anyG {w : World} {b n : Nat} {es : List Em} (h : w.ownsMap Tryz.prog 2 heldR b n (putAll es)) {id : Int} (hid : -9223372036854775808 ≤ id ∧ id ≤ 9223372036854775807) :
    ∃ e : Ev, ∃ (p : Option Addr) (c : Nat), (Instr.lookup 74 (.map (some b)) (.int .i64 id) true).run Tryz.prog w = .ok (.tuple #[.agg #[.int .i64 e.id, .int .i64 e.room, .int .i64 e.author, .int .i64 e.kind, .int .i64 e.key, .int .i64 e.n, .string e.text, .slice p e.prev.length c, .int .i64 e.time], .bool (decide (id ∈ idsOf es))]) w := by
  rcases look_ev h hid with ⟨h1, h2⟩ | ⟨m, hm, h1, h2⟩
  · refine ⟨⟨0, 0, 0, 0, 0, 0, ⟨#[]⟩, [], 0⟩, none, 0, ?_⟩
    rw [h2, decide_eq_false h1]
    rfl
  · refine ⟨m.v, m.p, m.c, ?_⟩
    have hin : id ∈ idsOf es := List.mem_map.2 ⟨m, hm, h1⟩
    rw [h2, decide_eq_true hin]
    rfl
set_option maxHeartbeats 2000000 in
set_option maxRecDepth 100000 in
theorem holds_implG (es ps : List Em) (be bp ne np : Nat) (id : Int) (hid : -9223372036854775808 ≤ id ∧ id ≤ 9223372036854775807) (w : World) (h1 : EMap w be ne es) (h2 : EMap w bp np ps) :
    Calls Tryz.prog 96 #[.agg #[.map (some be), .map (some bp)], .int .i64 id] w fun e w' => e = .returned (.bool (heldV es ps id)) ∧ Below w.heap.size w w' := by
  have HB : Hid (∀ o1 o2 o3, Below w.heap.size w (((w.alloc o1).alloc o2).alloc o3)) := fun o1 o2 o3 => (((Below.refl _ _).alloc (Nat.le_refl _) o1).alloc (by simp) o2).alloc (by simp; omega) o3
  have L1 := fun o1 => look_anyG (h1.1.alloc o1) hid
  have L2 := fun o1 o2 => look_anyG ((h2.1.alloc o1).alloc o2) hid
  obtain ⟨e1, p1, c1, hl1⟩ := L1 (.cells #[.map (some be), .map (some bp)] 76)
  obtain ⟨e2, p2, c2, hl2⟩ := L2 (.cells #[.map (some be), .map (some bp)] 76) (.cells #[.int .i64 e1.id, .int .i64 e1.room, .int .i64 e1.author, .int .i64 e1.kind, .int .i64 e1.key, .int .i64 e1.n, .string e1.text, .slice p1 e1.prev.length c1, .int .i64 e1.time] 37)
  clear h1 h2 L1 L2
  cases ha : decide (id ∈ idsOf es)
  · have HS : Hid (heldV es ps id = decide (id ∈ idsOf ps)) := by unfold Hid heldV; rw [ha]; rfl
    rw [ha] at hl1
    obtain ⟨r, HR⟩ : ∃ r, Hid (r = decide (id ∈ idsOf ps)) := ⟨decide (id ∈ idsOf ps), (rfl : decide (id ∈ idsOf ps) = _)⟩
    rw [← HR.out] at hl2
    go_enter Tryz.func96, Tryz.ntmps96
    go_wp2
    go_ret
    exact ⟨ret_bool (HR.out.trans HS.out.symm), HB.out _ _ _⟩
  · have HS : Hid (heldV es ps id = true) := by unfold Hid heldV; rw [ha]; rfl
    rw [ha] at hl1
    obtain ⟨r, HR⟩ : ∃ r, Hid (r = decide (id ∈ idsOf ps)) := ⟨decide (id ∈ idsOf ps), (rfl : decide (id ∈ idsOf ps) = _)⟩
    rw [← HR.out] at hl2
    go_enter Tryz.func96, Tryz.ntmps96
    go_wp2
    go_ret
    exact ⟨ret_bool HS.out.symm, HB.out _ _ _⟩
theorem risM_uniq {es : List Em} (h : RisM es) {m x : Em} (hm : m ∈ es) (hx : x ∈ es) (e : m.v.id = x.v.id) : m = x := by
  obtain ⟨i, hi, rfl⟩ := List.getElem_of_mem hm
  obtain ⟨j, hj, rfl⟩ := List.getElem_of_mem hx
  have := rises_inj h (i := i) (j := j) (by simpa [vs] using hi) (by simpa [vs] using hj) (by simpa [vs] using e)
  subst this
  rfl
/-- A look into the events by the Id of one that is there. -/
theorem EMap.look {w : World} {b n : Nat} {es : List Em} (h : EMap w b n es) {m : Em} (hm : m ∈ es) (hid : IdIn m) :
    (Instr.lookup 74 (.map (some b)) (.int .i64 m.v.id) false).run Tryz.prog w = .ok (.agg #[.int .i64 m.v.id, .int .i64 m.v.room, .int .i64 m.v.author, .int .i64 m.v.kind, .int .i64 m.v.key, .int .i64 m.v.n, .string m.v.text, .slice m.p m.v.prev.length m.c, .int .i64 m.v.time]) w := by
  obtain ⟨v, ps, hrun, hv⟩ := h.1.lookup (Maps.int_keyed (P := Tryz.prog) Tryz.underlying2) Tryz.underlying74 (zero_event w) (zd := .held zeroVal) (zp := []) rfl (Maps.keyOf_int_mk Tryz.underlying2 (idIn_wf hid))
  rcases at_fold_putAll m.v.id es (.map []) ⟨[], rfl⟩ with ⟨h1, _⟩ | ⟨x, hx, h1, h2⟩
  · exact absurd (List.mem_map.2 ⟨m, hm, rfl⟩) h1
  · obtain rfl := risM_uniq h.2 hx hm h1
    have e : (putAll es).atKey (.int .i64 x.v.id) (.held zeroVal) = .held (emVal x) := h2 _
    rw [e] at hv
    have hvz : v = emVal x := by
      simp only [heldR, Option.some.injEq, Prod.mk.injEq, DataW.held.injEq] at hv
      exact hv.1
    rw [hrun, hvz]
    rfl
/-- What all events of a stock are like. -/
structure ESt (w : World) (be bp ne np : Nat) (es ps : List Em) : Prop where
  e : EMap w be ne es
  p : EMap w bp np ps
  nums : ∀ m, m ∈ es ∨ m ∈ ps → NumsAt w m.p m.v.prev
  ok : ∀ m, m ∈ es ∨ m ∈ ps → IdIn m ∧ (∀ q ∈ m.v.prev, 1 ≤ q ∧ q ≤ 1000000) ∧ m.v.text.size ≤ 30 ∧ m.v.prev.length ≤ 4
  el : es.length ≤ 60
  pl : ps.length ≤ 20
theorem ESt.kept {w w' : World} {be bp ne np : Nat} {es ps : List Em} (h : ESt w be bp ne np es ps) (hb : Below w.heap.size w w') : ESt w' be bp ne np es ps :=
  ⟨h.e.kept hb, h.p.kept hb, fun m hm => (h.nums m hm).kept hb, h.ok, h.el, h.pl⟩
theorem freeV_some {es ps : List Em} {k : Nat} (hk : k < ps.length) (h : allIn (idsOf es) ps[k].v.prev = true) (hn : ∀ j (h : j < ps.length), j < k → allIn (idsOf es) ps[j].v.prev = false) : freeV (vs es) (vs ps) = some k := by
  unfold freeV
  rw [List.findIdx?_eq_some_iff_getElem]
  refine ⟨by simpa [vs] using hk, by rw [← ids_vs]; simpa [vs] using h, fun j hj => ?_⟩
  have := hn j (by omega) hj
  rw [← ids_vs]
  simp [vs, this]
theorem freeV_none {es ps : List Em} (hn : ∀ j (h : j < ps.length), allIn (idsOf es) ps[j].v.prev = false) : freeV (vs es) (vs ps) = none := by
  unfold freeV
  rw [List.findIdx?_eq_none_iff]
  intro m hm
  obtain ⟨x, hx, rfl⟩ := List.mem_map.1 hm
  obtain ⟨j, hj, rfl⟩ := List.getElem_of_mem hx
  rw [← ids_vs]
  exact hn j hj
/-- In mid-call: the stock's variable, the result's. -/
structure NR (w : World) (be bp ne np : Nat) (es ps : List Em) (a : Option Addr) (W : World) : Prop where
  below : Below w.heap.size w W
  box : W.heap[w.heap.size]? = some (.cells #[.map (some be), .map (some bp)] 76 (0, 0))
  res : W.heap[w.heap.size + 1]? = some (.cells #[.int .i64 0, .int .i64 0, .int .i64 0, .int .i64 0, .int .i64 0, .int .i64 0, .string ⟨#[]⟩, .slice none 0 0, .int .i64 0] 37 (0, 0))
  st : ESt W be bp ne np es ps
  ids : NumsAt W a (idsOf ps)
theorem NR.on {w : World} {be bp ne np : Nat} {es ps : List Em} {a : Option Addr} {W W' : World} (h : NR w be bp ne np es ps a W) (hb : Below W.heap.size W W') : NR w be bp ne np es ps a W' :=
  ⟨h.below.trans (hb.mono h.below.size), (hb.block _ (Array.getElem?_eq_some_iff.1 h.box).1).trans h.box, (hb.block _ (Array.getElem?_eq_some_iff.1 h.res).1).trans h.res, h.st.kept hb, h.ids.kept hb⟩
/-- What is ready, if anything is. -/
def NextPost (w : World) (es ps : List Em) (e : Ending) (w' : World) : Prop :=
  Below w.heap.size w w' ∧ ((freeV (vs es) (vs ps) = none ∧ e = .returned (.tuple #[.agg #[.int .i64 0, .int .i64 0, .int .i64 0, .int .i64 0, .int .i64 0, .int .i64 0, .string ⟨#[]⟩, .slice none 0 0, .int .i64 0], .bool false])) ∨ ∃ k, ∃ hk : k < ps.length, freeV (vs es) (vs ps) = some k ∧ e = .returned (.tuple #[.agg #[.int .i64 ps[k].v.id, .int .i64 ps[k].v.room, .int .i64 ps[k].v.author, .int .i64 ps[k].v.kind, .int .i64 ps[k].v.key, .int .i64 ps[k].v.n, .string ps[k].v.text, .slice ps[k].p ps[k].v.prev.length ps[k].c, .int .i64 ps[k].v.time], .bool true]))
set_option maxHeartbeats 8000000 in
set_option maxRecDepth 100000 in
theorem next_impl (be bp ne np : Nat) (es ps : List Em) (w : World) (h : ESt w be bp ne np es ps) :
    Calls Tryz.prog 126 #[.agg #[.map (some be), .map (some bp)]] w (NextPost w es ps) := by
  have hpl := h.pl
  have HS : Hid (∀ o1 o2, ESt ((w.alloc o1).alloc o2) be bp ne np es ps ∧ Below w.heap.size w ((w.alloc o1).alloc o2)) := fun o1 o2 => (have hb : Below w.heap.size w ((w.alloc o1).alloc o2) := ((Below.refl _ _).alloc (Nat.le_refl _) o1).alloc (by simp) o2; ⟨h.kept hb, hb⟩)
  clear h
  go_enter Tryz.func126, Tryz.ntmps126
  go_wp2_with fail
  obtain ⟨w2, HW2⟩ : ∃ q, Hid (q = (w.alloc (.cells #[.map (some be), .map (some bp)] 76)).alloc (.cells #[.int .i64 0, .int .i64 0, .int .i64 0, .int .i64 0, .int .i64 0, .int .i64 0, .string ⟨#[]⟩, .slice none 0 0, .int .i64 0] 37)) := ⟨_, rfl⟩
  have H2 : Hid (ESt w2 be bp ne np es ps ∧ Below w.heap.size w w2 ∧ w2.heap[w.heap.size]? = some (.cells #[.map (some be), .map (some bp)] 76 (0, 0)) ∧ w2.heap[w.heap.size + 1]? = some (.cells #[.int .i64 0, .int .i64 0, .int .i64 0, .int .i64 0, .int .i64 0, .int .i64 0, .string ⟨#[]⟩, .slice none 0 0, .int .i64 0] 37 (0, 0))) := by
    rw [HW2.out]
    exact ⟨(HS.out _ _).1, (HS.out _ _).2, (Below.heap_alloc _ _ _ (by simp)).trans (MapKept.heap_alloc w _).1, new_blockC _ _ _ (by simp)⟩
  have hzw : w.heap.size + 1 < w2.heap.size := (Array.getElem?_eq_some_iff.1 H2.out.2.2.2).1
  rw [← HW2.out]
  refine (keys_call (some bp) w2).mono ?_
  rintro e wk ⟨rfl, rfl⟩
  go_wp2_with fail
  refine (sorted_events bp np ps w2 H2.out.1.p (by omega)).mono ?_
  rintro e w3 ⟨a, c, rfl, hn3, hb3⟩
  have HN3 : Hid (NR w be bp ne np es ps a w3) := by
    have hb : Below w2.heap.size w2 w3 := ((Below.refl _ _).alloc (Nat.le_refl _) _).trans (hb3.mono (by omega))
    exact ⟨H2.out.2.1.trans (hb.mono H2.out.2.1.size), (hb.block _ (by omega)).trans H2.out.2.2.1, (hb.block _ hzw).trans H2.out.2.2.2, H2.out.1.kept hb, hn3⟩
  clear hn3 hb3 H2 HS
  go_wp2
  go_loopw [5, 11] (fun _ i wr => ∃ k : Nat, k ≤ ps.length ∧ i = .int .i64 k ∧ Hid (∀ j (h : j < ps.length), j < k → allIn (idsOf es) ps[j].v.prev = false) ∧ Hid (NR w be bp ne np es ps a wr)) (fun _ i _ => ps.length - (intOf i).toNat)
  case atStart => exact ⟨0, Nat.zero_le _, rfl, fun _ _ h => absurd h (Nat.not_lt_zero _), HN3⟩
  case round =>
    clear HN3
    obtain ⟨k, hk, rfl, HO, HN⟩ := hrel
    have hx0 : wr.cell? ⟨w.heap.size, 0, none⟩ = some (.map (some be)) := cell_of_heap HN.out.box
    have hx1 : wr.cell? ⟨w.heap.size, 1, none⟩ = some (.map (some bp)) := cell_of_heap HN.out.box
    by_cases hlt : k < ps.length
    · have hd : decide ((k : Int) < (ps.length : Int)) = true := decide_eq_true (by omega)
      have hin : ps[k] ∈ ps := List.getElem_mem hlt
      have hidl : (idsOf ps).length = ps.length := by simp [idsOf]
      obtain ⟨g, off, rfl, hg, hcell⟩ := HN.out.ids.2 (by omega)
      have hc0 : wr.cell? ⟨g, off + k, none⟩ = some (.int .i64 ps[k].v.id) := by
        have := hcell k (by omega)
        rw [this]
        simp [idsOf]
      have hlk : (Instr.lookup 74 (.map (some bp)) (.int .i64 ps[k].v.id) false).run Tryz.prog wr = .ok (.agg #[.int .i64 ps[k].v.id, .int .i64 ps[k].v.room, .int .i64 ps[k].v.author, .int .i64 ps[k].v.kind, .int .i64 ps[k].v.key, .int .i64 ps[k].v.n, .string ps[k].v.text, .slice ps[k].p ps[k].v.prev.length ps[k].c, .int .i64 ps[k].v.time]) wr := HN.out.st.p.look hin (HN.out.st.ok _ (.inr hin)).1
      clear hcell hidl
      go_wp2_with fail
      refine (ready_impl es ps[k] be ne (.map (some bp)) wr HN.out.st.e.1 (HN.out.st.nums _ (.inr hin)) (HN.out.st.ok _ (.inr hin)).2.1 ⟨_, rfl⟩).mono ?_
      rintro e w4 ⟨rfl, hb4⟩
      have HN4 : Hid (NR w be bp ne np es ps (some ⟨g, off, none⟩) w4) := HN.out.on hb4
      clear hb4 hlk hx0 hx1 hc0
      cases ha : allIn (idsOf es) ps[k].v.prev
      · have HO2 : Hid (∀ j (h : j < ps.length), j < k + 1 → allIn (idsOf es) ps[j].v.prev = false) := fun j h hj => by
          by_cases e : j = k
          · subst e
            exact ha
          · exact HO.out j h (by omega)
        clear ha
        go_wp2
        go_roundw
        case rel => exact ⟨k + 1, by omega, by go_num, HO2, HN4⟩
        case measure => simp [intOf]; omega
      · have HF : Hid (freeV (vs es) (vs ps) = some k) := freeV_some hlt ha HO.out
        have hx1 : w4.cell? ⟨w.heap.size, 1, none⟩ = some (.map (some bp)) := cell_of_heap HN4.out.box
        have hlk : (Instr.lookup 74 (.map (some bp)) (.int .i64 ps[k].v.id) false).run Tryz.prog w4 = .ok (.agg #[.int .i64 ps[k].v.id, .int .i64 ps[k].v.room, .int .i64 ps[k].v.author, .int .i64 ps[k].v.kind, .int .i64 ps[k].v.key, .int .i64 ps[k].v.n, .string ps[k].v.text, .slice ps[k].p ps[k].v.prev.length ps[k].c, .int .i64 ps[k].v.time]) w4 := HN4.out.st.p.look hin (HN4.out.st.ok _ (.inr hin)).1
        have r0 : w4.cell? ⟨w.heap.size + 1, 0, none⟩ = some (.int .i64 0) := cell_of_heap HN4.out.res
        have r1 : w4.cell? ⟨w.heap.size + 1, 1, none⟩ = some (.int .i64 0) := cell_of_heap HN4.out.res
        have r2 : w4.cell? ⟨w.heap.size + 1, 2, none⟩ = some (.int .i64 0) := cell_of_heap HN4.out.res
        have r3 : w4.cell? ⟨w.heap.size + 1, 3, none⟩ = some (.int .i64 0) := cell_of_heap HN4.out.res
        have r4 : w4.cell? ⟨w.heap.size + 1, 4, none⟩ = some (.int .i64 0) := cell_of_heap HN4.out.res
        have r5 : w4.cell? ⟨w.heap.size + 1, 5, none⟩ = some (.int .i64 0) := cell_of_heap HN4.out.res
        have r6 : w4.cell? ⟨w.heap.size + 1, 6, none⟩ = some (.string ⟨#[]⟩) := cell_of_heap HN4.out.res
        have r7 : w4.cell? ⟨w.heap.size + 1, 7, none⟩ = some (.slice none 0 0) := cell_of_heap HN4.out.res
        have r8 : w4.cell? ⟨w.heap.size + 1, 8, none⟩ = some (.int .i64 0) := cell_of_heap HN4.out.res
        have fr : ∀ o, w4.frozen? ⟨w.heap.size + 1, o, none⟩ = false := fun o => frozen_of_heap HN4.out.res
        clear ha
        go_wp2
        refine bodyPost_ret (v := .tuple #[.agg #[.int .i64 ps[k].v.id, .int .i64 ps[k].v.room, .int .i64 ps[k].v.author, .int .i64 ps[k].v.kind, .int .i64 ps[k].v.key, .int .i64 ps[k].v.n, .string ps[k].v.text, .slice ps[k].p ps[k].v.prev.length ps[k].c, .int .i64 ps[k].v.time], .bool true]) (by simp [results, Tryz.results126, go_sem, r0, r1, r2, r3, r4, r5, r6, r7, r8]) rfl ⟨(((((((((HN4.out.below.setCell (by simp) _).setCell (by simp) _).setCell (by simp) _).setCell (by simp) _).setCell (by simp) _).setCell (by simp) _).setCell (by simp) _).setCell (by simp) _).setCell (by simp) _), .inr ⟨k, hlt, HF.out, rfl⟩⟩
    · have hd : decide ((k : Int) < (ps.length : Int)) = false := decide_eq_false (by omega)
      have HF : Hid (freeV (vs es) (vs ps) = none) := freeV_none fun j hj => HO.out j hj (by omega)
      have r0 : wr.cell? ⟨w.heap.size + 1, 0, none⟩ = some (.int .i64 0) := cell_of_heap HN.out.res
      have r1 : wr.cell? ⟨w.heap.size + 1, 1, none⟩ = some (.int .i64 0) := cell_of_heap HN.out.res
      have r2 : wr.cell? ⟨w.heap.size + 1, 2, none⟩ = some (.int .i64 0) := cell_of_heap HN.out.res
      have r3 : wr.cell? ⟨w.heap.size + 1, 3, none⟩ = some (.int .i64 0) := cell_of_heap HN.out.res
      have r4 : wr.cell? ⟨w.heap.size + 1, 4, none⟩ = some (.int .i64 0) := cell_of_heap HN.out.res
      have r5 : wr.cell? ⟨w.heap.size + 1, 5, none⟩ = some (.int .i64 0) := cell_of_heap HN.out.res
      have r6 : wr.cell? ⟨w.heap.size + 1, 6, none⟩ = some (.string ⟨#[]⟩) := cell_of_heap HN.out.res
      have r7 : wr.cell? ⟨w.heap.size + 1, 7, none⟩ = some (.slice none 0 0) := cell_of_heap HN.out.res
      have r8 : wr.cell? ⟨w.heap.size + 1, 8, none⟩ = some (.int .i64 0) := cell_of_heap HN.out.res
      have fr : ∀ o, wr.frozen? ⟨w.heap.size + 1, o, none⟩ = false := fun o => frozen_of_heap HN.out.res
      go_wp2
      refine bodyPost_ret (v := .tuple #[.agg #[.int .i64 0, .int .i64 0, .int .i64 0, .int .i64 0, .int .i64 0, .int .i64 0, .string ⟨#[]⟩, .slice none 0 0, .int .i64 0], .bool false]) (by simp [results, Tryz.results126, go_sem, r0, r1, r2, r3, r4, r5, r6, r7, r8]) rfl ⟨(((((((((HN.out.below.setCell (by simp) _).setCell (by simp) _).setCell (by simp) _).setCell (by simp) _).setCell (by simp) _).setCell (by simp) _).setCell (by simp) _).setCell (by simp) _).setCell (by simp) _), .inl ⟨HF.out, rfl⟩⟩
end Go.Proofs.YtobkinocaomcmaaGreat
