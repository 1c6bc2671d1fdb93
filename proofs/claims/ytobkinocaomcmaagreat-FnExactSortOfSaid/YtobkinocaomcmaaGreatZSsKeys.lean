/- The Ids of a table of depths, in order. -/
import Derived.Test.YtobkinocaomcmaaGreatZSsStable
import Derived.Test.YtobkinocaomcmaaGreatZSsLay
import Derived.Test.YtobkinocaomcmaaGreatZGrChart
namespace Go.Proofs.YtobkinocaomcmaaGreat
open Go.RowKit Go.Maps Go.Sort Go.Shelf

/-- slices.Sort's two contracts here, at the fence that asks nothing. -/
theorem sortsT (m : Nat) : AnyZI.SortsIn Tryz.prog Tryz.sortedT_ren Fence.wide m :=
  ⟨fun blk off cap ss W hH hblk hsz => callsIn_wide.2 (AnyM.slices_Sort_int Tryz.sortT blk off cap ss W hH hblk hsz),
   fun p cap W => callsIn_wide.2 (AnyM.slices_Sort_int_none Tryz.sortT p cap W)⟩
theorem keys_callT (mb : Option Nat) (W : World) : Calls Tryz.prog 103 #[.map mb] W fun e w' => e = .returned (.func (.func 129) #[] #[.pointer (some ⟨W.heap.size, 0, none⟩)]) ∧ w' = W.alloc (.cells #[.map mb] 89) :=
  (callsIn_wide (n := 5)).1 (AnyZI.keys_in Tryz.keysT Fence.wide 5 trivial rfl mb W)
theorem sorted_callT {H : Type} (b nn : Nat) (D0 : DataW H) (R : Value → Option (DataW H × List MemPlace)) (w : World) (hown : w.ownsMap Tryz.prog 2 R b nn D0) (hmax : Maps.size D0 ≤ maxLen) (hbytes : Maps.size D0 * 8 ≤ 140737488355328) :
    Calls Tryz.prog 102 #[.func (.func 129) #[] #[.pointer (some ⟨w.heap.size, 0, none⟩)]] (w.alloc (.cells #[.map (some b)] 89)) fun e w' => ∃ (v : Value) (ss : List Int), e = .returned v ∧ ss.Perm (intKeys D0) ∧
      w'.ownsRow (w.heap.size + 1) 2 1 v ss.length ((ss.mergeSort (fun x y => decide (x ≤ y))).map encZ) ∧ (v = .slice none 0 0 ↔ ss = []) ∧ Below (w.heap.size + 1) (w.alloc (.cells #[.map (some b)] 89)) w' := by
  have hbl := hown.lt
  have hseq : SeqGives Fence.wide 2 Tryz.prog 129 #[.pointer (some ⟨w.heap.size, 0, none⟩)] encZ (fun ss => ss.Perm (intKeys D0)) (Maps.size D0) (w.alloc (.cells #[.map (some b)] 89)) :=
    AnyZI.keys_gives (ρ := Tryz.keysT_ren) { Tryz.keysT with } Fence.wide _ trivial rfl (by omega) w.heap.size b nn D0 _ (by simp) (by simp) (by
      obtain ⟨es, clock, hb, Ft, hs, hD⟩ := hown
      exact ⟨es, clock, (Below.heap_alloc _ _ b hbl).trans hb, Ft, hs, hD⟩)
  have cS := AnyZI.sorted_in Tryz.sortedT Fence.wide 5 trivial trivial trivial trivial rfl (by omega) (sortsT _) (enters_of Tryz.func112 (by kernel_rfl) rfl) 129 #[.pointer (some ⟨w.heap.size, 0, none⟩)] trivial (enters_of Tryz.func129 (by kernel_rfl) rfl) _ _ hmax hbytes _ hseq
  change CallsIn _ _ Tryz.prog 102 _ _ _ at cS
  refine ((callsIn_wide (n := 5)).1 cS).mono ?_
  rintro e w' ⟨v, ss, rfl, hS, hrow, hnil, hb⟩
  have hz : (w.alloc (.cells #[.map (some b)] 89)).heap.size = w.heap.size + 1 := by simp
  rw [hz] at hrow hb
  exact ⟨v, ss, rfl, hS, hrow, hnil, hb⟩
theorem rises_sortedT {ids ss : List Int} (hr : ids.Pairwise (· < ·)) (hp : ss.Perm ids) : ss.mergeSort (fun x y => decide (x ≤ y)) = ids := by
  have h1 : (ss.mergeSort (fun x y => decide (x ≤ y))).Perm ids := (List.mergeSort_perm ss _).trans hp
  have h2 : (ss.mergeSort (fun x y => decide (x ≤ y))).Pairwise (fun x y => decide (x ≤ y) = true) :=
    List.pairwise_mergeSort (fun a b c h1 h2 => by simp at h1 h2 ⊢; omega) (fun a b => by simp; omega) ss
  refine List.Perm.eq_of_pairwise (le := fun x y => decide (x ≤ y) = true) (fun a b _ _ h1 h2 => by simp at h1 h2; omega) h2 (hr.imp fun h => by simp; omega) h1
theorem row_rises {es : List Em} {room : Int} {most : Nat} (h : rowB es room most = true) : (idsOf es).Pairwise (· < ·) := by
  refine List.pairwise_iff_getElem.2 fun i j hi hj hij => ?_
  obtain ⟨d, rfl⟩ : ∃ d, j = i + d + 1 := ⟨j - i - 1, by omega⟩
  have h1 := rowB_rise h d i (by simpa [idsOf] using hj)
  simp only [idsOf, List.getElem_map]
  omega
theorem right_evs {g : Gr} (h : rightG g = true) : rowB g.evs g.room 60 = true ∧ depB g = true := by
  unfold rightG at h
  simp only [Bool.and_eq_true] at h
  exact ⟨h.1.1.1.1.2, h.2⟩
theorem ids_perm {w : World} {bt nt : Nat} {l : List (Int × Int)} {g : Gr} (hr : rightG g = true) (hown : w.ownsMap Tryz.prog 2 heldR bt nt (putL l)) (hd : Done (pvOf g.evs) (idsOf g.evs) l) : (idsOf g.evs).Perm (intKeys (putL l)) := by
  refine CollectedI.perm (left := fun _ => false) ⟨rowB_nodup (right_evs hr).1, fun x => ?_⟩ hown (Maps.int_keyed (P := Tryz.prog) Tryz.underlying2) Tryz.underlying2 (fun _ => rfl)
  rw [has_putL]
  constructor
  · intro hx
    obtain ⟨v, hv⟩ := hd.all x hx
    exact ⟨by rw [hv]; rfl, rfl⟩
  · rintro ⟨h1, _⟩
    cases c : look l x with
    | none => rw [c] at h1; cases h1
    | some v => exact hd.tab.dom x v c
/-- The Ids, as a row of one's own. -/
theorem sorted_ids (bt nt : Nat) (l : List (Int × Int)) (g : Gr) (hr : rightG g = true) (w : World) (h : w.ownsMap Tryz.prog 2 heldR bt nt (putL l)) (hd : Done (pvOf g.evs) (idsOf g.evs) l) :
    Calls Tryz.prog 102 #[.func (.func 129) #[] #[.pointer (some ⟨w.heap.size, 0, none⟩)]] (w.alloc (.cells #[.map (some bt)] 89)) fun e w' => ∃ a c, e = .returned (.slice a g.evs.length c) ∧ w'.ownsRow (w.heap.size + 1) 2 1 (.slice a g.evs.length c) g.evs.length (nv (idsOf g.evs)) ∧ Below (w.heap.size + 1) (w.alloc (.cells #[.map (some bt)] 89)) w' := by
  have hp := ids_perm hr h hd
  have hid : (idsOf g.evs).length = g.evs.length := by simp [idsOf]
  have hl60 : g.evs.length ≤ 60 := rowB_len (right_evs hr).1
  have hs : Maps.size (putL l) = g.evs.length := by
    obtain ⟨es, he⟩ := putL_isMap l
    rw [he] at hp ⊢
    have h1 := hp.length_eq
    rw [hid] at h1
    simp only [intKeys, List.length_map] at h1
    rw [h1]
    rfl
  refine (sorted_callT bt nt (putL l) heldR w h (by rw [hs]; unfold maxLen; omega) (by rw [hs]; omega)).mono ?_
  rintro e w' ⟨v, ss, rfl, hS, hrow, -, hb⟩
  have hS2 : ss.Perm (idsOf g.evs) := hS.trans hp.symm
  have hlen : ss.length = g.evs.length := hS2.length_eq.trans hid
  rw [rises_sortedT (row_rises (right_evs hr).1) hS2, hlen] at hrow
  rcases hrow.2 with ⟨rfl, h0⟩ | ⟨q, cap, cur, rfl, _⟩
  · exact ⟨none, 0, by rw [h0], by rw [h0] at hrow ⊢; exact hrow, hb⟩
  · exact ⟨_, cap, rfl, hrow, hb⟩
/-- How deep an event stands. -/
def dpG (g : Gr) (id : Int) : Int := (dep (pvOf g.evs) (idsOf g.evs).length id : Int)
def lxB (dp : Int → Int) (x y : Int) : Bool := decide (dp x < dp y) || (decide (dp x = dp y) && decide (x ≤ y))
/-- What SortOf answers. -/
def srtG (g : Gr) : List Int := if rightG g = true then (idsOf g.evs).mergeSort (lxB (dpG g)) else []
theorem srt_unique {dp : Int → Int} {ids L : List Int} (hn : ids.Nodup) (hL : L.Pairwise (Lx dp)) (hm : ∀ x, x ∈ L ↔ x ∈ ids) : L = ids.mergeSort (lxB dp) := by
  have nd : L.Nodup := hL.imp fun h e => by rw [e] at h; exact h.irrefl
  have hp : L.Perm ids := (List.perm_ext_iff_of_nodup nd hn).2 hm
  have tr : ∀ a b c : Int, lxB dp a b = true → lxB dp b c = true → lxB dp a c = true := fun a b c h1 h2 => by
    simp only [lxB, Bool.or_eq_true, Bool.and_eq_true, decide_eq_true_eq] at *
    omega
  have tot : ∀ a b : Int, (lxB dp a b || lxB dp b a) = true := fun a b => by
    simp only [lxB, Bool.or_eq_true, Bool.and_eq_true, decide_eq_true_eq]
    omega
  refine List.Perm.eq_of_pairwise (le := fun a b => lxB dp a b = true) (fun a b _ _ h1 h2 => ?_) (hL.imp fun h => ?_) (List.pairwise_mergeSort tr tot ids) (hp.trans (List.mergeSort_perm ids _).symm)
  · simp only [lxB, Bool.or_eq_true, Bool.and_eq_true, decide_eq_true_eq] at h1 h2
    omega
  · simp only [lxB, Bool.or_eq_true, Bool.and_eq_true, decide_eq_true_eq]
    unfold Lx at h
    omega
theorem srtG_bad {g : Gr} (h : rightG g = false) : srtG g = [] := if_neg (by simp [h])
theorem srtG_good {g : Gr} (h : rightG g = true) : srtG g = (idsOf g.evs).mergeSort (lxB (dpG g)) := if_pos h
theorem srtG_len {g : Gr} (h : rightG g = true) : (srtG g).length = g.evs.length := by
  rw [srtG_good h, List.length_mergeSort]
  simp [idsOf]
theorem dpL_dpG {g : Gr} {l : List (Int × Int)} (hr : rightG g = true) (hd : Done (pvOf g.evs) (idsOf g.evs) l) {x : Int} (hx : x ∈ idsOf g.evs) : dpL l x = dpG g x := by
  have hap : AllPos (pvOf g.evs) (idsOf g.evs) := fun y hy => of_decide_eq_true (List.all_eq_true.1 (right_evs hr).2 y hy)
  unfold dpL
  rw [hd.depth hap hx]
  rfl
/-- What the sort leaves is that row. -/
theorem sdone_srt {g : Gr} {l : List (Int × Int)} {d : Nat → Int} (hr : rightG g = true) (hd : Done (pvOf g.evs) (idsOf g.evs) l) (h : SDone (dpL l) g.evs.length (fun j => (idsOf g.evs).getD j 0) d) : (List.range g.evs.length).map d = srtG g := by
  have hid : (idsOf g.evs).length = g.evs.length := by simp [idsOf]
  have mem : ∀ j, j < g.evs.length → d j ∈ idsOf g.evs := fun j hj => by
    obtain ⟨q, q1, q2⟩ := h.old j hj
    rw [q2]
    have hq : q < (idsOf g.evs).length := by omega
    simp only [List.getD_eq_getElem?_getD, List.getElem?_eq_getElem hq, Option.getD_some]
    exact List.getElem_mem hq
  rw [srtG_good hr]
  refine srt_unique (rowB_nodup (right_evs hr).1) (List.pairwise_iff_getElem.2 fun i j hi hj hij => ?_) fun x => ?_
  · simp only [List.getElem_map, List.getElem_range]
    have hi' : i < g.evs.length := by simpa using hi
    have hj' : j < g.evs.length := by simpa using hj
    have := h.srt i j (Nat.zero_le _) hij hj'
    unfold Lx at this ⊢
    rw [dpL_dpG hr hd (mem i hi'), dpL_dpG hr hd (mem j hj')] at this
    exact this
  · rw [List.mem_map]
    constructor
    · rintro ⟨j, hj, rfl⟩
      exact mem j (List.mem_range.1 hj)
    · intro hx
      obtain ⟨q, hq, rfl⟩ := List.getElem_of_mem hx
      obtain ⟨p, p1, p2⟩ := h.all q (by omega)
      refine ⟨p, List.mem_range.2 p1, ?_⟩
      rw [p2]
      simp [hq]
end Go.Proofs.YtobkinocaomcmaaGreat
