/- The specification's table of depths. -/
import Derived.Test.YteajcmkaoahbeaaGreatDoorZEvTo
namespace Go.Proofs.YteajcmkaoahbeaaGreatDoor
open Go.RowKit

/-- What an event of a row stands behind, by its Id. -/
def pvOf (es : List Em) (id : Int) : Option (List Int) := (es.find? fun m => m.v.id == id).map (·.v.prev)
theorem pvOf_mem {es : List Em} {id : Int} {ps : List Int} (h : pvOf es id = some ps) : id ∈ idsOf es := by
  unfold pvOf at h
  cases c : es.find? (fun m => m.v.id == id) with
  | none => rw [c] at h; cases h
  | some m =>
    have h1 := List.find?_some c
    exact List.mem_map.2 ⟨m, List.mem_of_find?_eq_some c, by simpa using h1⟩
theorem pvOf_at {es : List Em} (hn : (idsOf es).Nodup) {i : Nat} (hi : i < es.length) : pvOf es es[i].v.id = some es[i].v.prev := by
  unfold pvOf
  have : es.find? (fun m => m.v.id == es[i].v.id) = some es[i] := by
    rw [List.find?_eq_some_iff_getElem]
    refine ⟨by simp, i, hi, rfl, fun j hj => ?_⟩
    have hne := (List.pairwise_iff_getElem.1 hn) j i (by simp [idsOf]; omega) (by simpa [idsOf] using hi) hj
    simpa [idsOf] using hne
  rw [this]
  rfl
theorem foldl_max_le {m : Nat} : ∀ (l : List Nat) (a : Nat), a ≤ m → (∀ x ∈ l, x ≤ m) → l.foldl max a ≤ m
  | [], _, ha, _ => ha
  | x :: l, a, ha, h => foldl_max_le l (max a x) (Nat.max_le.2 ⟨ha, h x List.mem_cons_self⟩) fun y hy => h y (List.mem_cons_of_mem _ hy)
theorem dep_bound {pv : Int → Option (List Int)} : ∀ (k : Nat) (id : Int), dep pv k id ≤ k
  | 0, _ => Nat.le_refl _
  | k + 1, id => by
    show step pv (dep pv k) id ≤ k + 1
    unfold step
    split
    · omega
    · split
      · have := foldl_max_le (m := k) ((‹List Int›).map (dep pv k)) 0 (Nat.zero_le _) (fun x hx => by
          obtain ⟨p, _, rfl⟩ := List.mem_map.1 hx
          exact dep_bound k p)
        omega
      · omega
theorem Inv.bound {pv : Int → Option (List Int)} {ids : List Int} {k i : Nat} {d : List Int} (h : Inv pv ids k i d) {j : Nat} (hj : j < ids.length) : 0 ≤ d.getD j 0 ∧ d.getD j 0 ≤ ids.length := by
  have := dep_bound (pv := pv) ids.length ids[j]
  rcases (h.2 j hj).1 with h1 | h1 <;> rw [h1] <;> omega
theorem owns_put2 {w : World} {base g cap n j : Nat} {e : TypeId} {xs : List Value} (h : w.ownsRow base e 1 (.slice (some ⟨g, 0, none⟩) n cap) n xs) (v : Value) : (w.setCell ⟨g, j, none⟩ v).ownsRow base e 1 (.slice (some ⟨g, 0, none⟩) n cap) n (xs.set j v) := by
  refine ⟨by simpa using h.1, ?_⟩
  rcases h.2 with ⟨h1, _⟩ | ⟨g', cap', cur, h1, h2, h3, h4, h5, h6, h7⟩
  · cases h1
  · cases h1
    refine .inr ⟨g, cap, cur.setIfInBounds j v, rfl, h2, heap_set h3 v, h4, h5, by simpa using h6, ?_⟩
    rw [Array.toList_setIfInBounds, List.take_set, h7]
/-- The table in memory: block g of one's own. -/
structure TabAt (w0 : World) (g n cap : Nat) (d : List Int) (w : World) : Prop where
  own : w.ownsRow w0.heap.size 2 1 (.slice (some ⟨g, 0, none⟩) n cap) n (nv d)
  len : d.length = n
  below : Below w0.heap.size w0 w
theorem TabAt.cell {w0 : World} {g n cap : Nat} {d : List Int} {w : World} (h : TabAt w0 g n cap d w) {j : Nat} (hj : j < n) : w.cell? ⟨g, j, none⟩ = some (.int .i64 (d.getD j 0)) := by
  have := h.own.cells (g := g) rfl j (.int .i64 (d.getD j 0)) (by have := h.len; simp [nv, List.getElem?_eq_getElem (show j < d.length by omega)])
  rwa [Addr.add_lit, Nat.zero_add] at this
theorem TabAt.frozen {w0 : World} {g n cap : Nat} {d : List Int} {w : World} (h : TabAt w0 g n cap d w) (j : Nat) : w.frozen? ⟨g, j, none⟩ = false := by
  rcases h.own.2 with ⟨h1, _⟩ | ⟨g', cap', cur, h1, h2, h3, _⟩
  · cases h1
  · cases h1
    exact frozen_of_heap h3
theorem TabAt.put {w0 : World} {g n cap : Nat} {d : List Int} {w : World} (h : TabAt w0 g n cap d w) (j : Nat) (z : Int) : TabAt w0 g n cap (d.set j z) (w.setCell ⟨g, j, none⟩ (.int .i64 z)) := by
  refine ⟨?_, by rw [List.length_set]; exact h.len, h.below.setCell (h.own.lt g rfl).1 _⟩
  have := owns_put2 (j := j) h.own (.int .i64 z)
  have e : nv (d.set j z) = (nv d).set j (.int .i64 z) := by simp [nv, List.map_set]
  rw [e]
  exact this
/-- In the innermost loop: the greatest so far, and whether all are known. -/
def Loop3 (ids d ps : List Int) (x y i : Value) : Prop :=
  ∃ (j : Nat) (b : Bool) (m : Int), j ≤ ps.length ∧ i = .int .i64 j ∧ x = .int .i64 m ∧ y = .bool b ∧ m = ((ps.take j).map (val ids d)).foldl max 0 ∧ b = (ps.take j).all (fun p => decide (0 < val ids d p))
theorem Loop3.zero (ids d ps : List Int) : Loop3 ids d ps (.int .i64 0) (.bool true) (.int .i64 0) := ⟨0, true, 0, Nat.zero_le _, rfl, rfl, rfl, rfl, rfl⟩
theorem fold_snoc (ids d ps : List Int) {j : Nat} (h : j < ps.length) : ((ps.take (j + 1)).map (val ids d)).foldl max 0 = max (((ps.take j).map (val ids d)).foldl max 0) (val ids d ps[j]) := by
  rw [List.take_succ_eq_append_getElem h, List.map_append, List.foldl_append]
  rfl
theorem all_snoc (ids d ps : List Int) {j : Nat} (h : j < ps.length) : (ps.take (j + 1)).all (fun p => decide (0 < val ids d p)) = ((ps.take j).all (fun p => decide (0 < val ids d p)) && decide (0 < val ids d ps[j])) := by
  rw [List.take_succ_eq_append_getElem h, List.all_append]
  simp
theorem Loop3.next {ids d ps : List Int} {j : Nat} {b : Bool} {m y : Int} (hj : j < ps.length) (hm : m = ((ps.take j).map (val ids d)).foldl max 0) (hb : b = (ps.take j).all (fun p => decide (0 < val ids d p))) (hy : y = val ids d ps[j]) {x z : Int} {c : Bool} (hx : x = max m y) (hc : c = (b && decide (0 < y))) (hz : z = (j : Int) + 1) : Loop3 ids d ps (.int .i64 x) (.bool c) (.int .i64 z) := by
  refine ⟨j + 1, c, x, hj, by rw [hz]; rfl, rfl, rfl, ?_, ?_⟩
  · rw [fold_snoc ids d ps hj, ← hm, ← hy, hx]
  · rw [all_snoc ids d ps hj, ← hb, ← hy, hc]
theorem foldl_max_bound {N : Int} : ∀ (l : List Int) (a : Int), 0 ≤ a → a ≤ N → (∀ x ∈ l, x ≤ N) → 0 ≤ l.foldl max a ∧ l.foldl max a ≤ N
  | [], _, h0, h1, _ => ⟨h0, h1⟩
  | x :: l, a, h0, h1, h => foldl_max_bound l (max a x) (by omega) (by have := h x List.mem_cons_self; omega) fun y hy => h y (List.mem_cons_of_mem _ hy)
theorem Inv.val_bound {pv : Int → Option (List Int)} {ids : List Int} {k i : Nat} {d : List Int} (h : Inv pv ids k i d) {p : Int} (hp : p ∈ ids) : 0 ≤ val ids d p ∧ val ids d p ≤ ids.length := by
  have := dep_bound (pv := pv) ids.length p
  rcases (h.val_or hp).1 with h1 | h1 <;> rw [h1] <;> omega
theorem Inv.fold_bound {pv : Int → Option (List Int)} {ids : List Int} {k i : Nat} {d : List Int} (h : Inv pv ids k i d) {ps : List Int} (hp : ∀ p ∈ ps, p ∈ ids) (j : Nat) : 0 ≤ ((ps.take j).map (val ids d)).foldl max 0 ∧ ((ps.take j).map (val ids d)).foldl max 0 ≤ ids.length :=
  foldl_max_bound _ 0 (Int.le_refl _) (by omega) fun x hx => by
    obtain ⟨p, hm, rfl⟩ := List.mem_map.1 hx
    exact (h.val_bound (hp p (List.mem_of_mem_take hm))).2
theorem EvsAt.tab {w : World} {a : Option Addr} {es : List Em} (h : EvsAt w a es) {g n cap : Nat} {d : List Int} {W : World} (t : TabAt w g n cap d W) : EvsAt W a es := h.kept t.below
theorem getD_map {α : Type} (l : List α) (f : α → Int) (j : Nat) (hj : j < l.length) : (l.map f).getD j 0 = f l[j] := by simp [hj]
theorem list_ext0 {l m : List Int} (hl : l.length = m.length) (h : ∀ j, j < l.length → l.getD j 0 = m.getD j 0) : l = m := by
  apply List.ext_getElem hl
  intro j h1 h2
  have := h j h1
  simpa [h1, h2] using this
set_option maxHeartbeats 4000000 in
set_option maxRecDepth 100000 in
theorem depths_spec (es : List Em) (a : Option Addr) (cap : Nat) (w : World) (h : EvsAt w a es) (hn : (idsOf es).Nodup) (hin : ∀ m ∈ es, ∀ p ∈ m.v.prev, p ∈ idsOf es) :
    Calls Tryz.prog 40 #[.slice a es.length cap] w fun e w' => e = .returned (.slice (some ⟨w.heap.size, 0, none⟩) es.length es.length) ∧ TabAt w w.heap.size es.length es.length ((idsOf es).map fun id => (dep (pvOf es) (idsOf es).length id : Int)) w' := by
  obtain ⟨i0, hi, hz0, hz1, hz2⟩ := info_parts Tryz.info2
  have hl := h.len
  have hlen : (idsOf es).length = es.length := by simp [idsOf]
  have HL : Hid ((idsOf es).length = es.length) := hlen
  have H : Hid (EvsAt w a es ∧ (idsOf es).Nodup ∧ ∀ m ∈ es, ∀ p ∈ m.v.prev, p ∈ idsOf es) := ⟨h, hn, hin⟩
  clear h hn hin hlen
  go_enter Tryz.func40, Tryz.ntmps40
  go_wp2_with (at_make; refine wpList_make_full _ rfl _ _ 46 rfl w.heap.size 2 i0 (.int .i64 0) 1 Tryz.underlying46 hi hz0 hz1 .i64 .i64 _ _ es.length rfl rfl (by omega) (by omega) (by rw [hz2]; omega) (by unfold maxLen; omega) (Nat.le_refl _) ?_; intro w1 hown hgrow; rw [made_nums] at hown; have HT : Hid (TabAt w w.heap.size es.length es.length (List.replicate es.length 0) w1) := ⟨(by simpa [nv] using hown), (by simp), (Below.refl _ _).grown hgrow (Nat.le_refl _) (fun k hk => by cases hk)⟩; clear hown hgrow)
  go_loopw [4] (fun i wr => ∃ (k : Nat) (d : List Int), k ≤ es.length ∧ i = .int .i64 k ∧ Hid (TabAt w w.heap.size es.length es.length d wr ∧ Inv (pvOf es) (idsOf es) k 0 d)) (fun i _ => es.length - (intOf i).toNat)
  case atStart => exact ⟨0, _, Nat.zero_le _, rfl, HT.out, by rw [← HL.out]; exact Inv.zero _ _⟩
  case round =>
    clear HT
    obtain ⟨k, d, hk, rfl, HI⟩ := hrel
    by_cases hlt : k < es.length
    · go_wp2
      go_loopw [5] (fun i wr => ∃ (q : Nat) (d : List Int), q ≤ es.length ∧ i = .int .i64 q ∧ Hid (TabAt w w.heap.size es.length es.length d wr ∧ Inv (pvOf es) (idsOf es) k q d)) (fun i _ => es.length - (intOf i).toNat)
      case atStart => exact ⟨0, d, Nat.zero_le _, rfl, HI⟩
      case round =>
        clear HI
        obtain ⟨q, d, hq, rfl, HI⟩ := hrel
        by_cases hqt : q < es.length
        · obtain ⟨z, HZ, hcd⟩ : ∃ z, Hid (z = d.getD q 0) ∧ wr.cell? ⟨w.heap.size, q, none⟩ = some (.int .i64 z) := ⟨_, rfl, HI.out.1.cell hqt⟩
          by_cases c : 0 < z
          · go_wp2
            go_roundw
            case rel => exact ⟨q + 1, d, by omega, by go_num, HI.out.1, HI.out.2.skip (by rw [← HZ.out]; exact c)⟩
            case measure => simp [intOf]; omega
          · have HEV : Hid (EvsAt wr a es) := H.out.1.tab HI.out.1
            obtain ⟨b, off, rfl, hbb, hcell⟩ := HEV.out.row (by omega)
            have hc7 : wr.cell? ⟨b, off + q * 9 + 7, none⟩ = some (.slice es[q].p es[q].v.prev.length es[q].c) := by
              rw [Nat.add_assoc]
              exact hcell q hqt 7 (by omega)
            have HNM : Hid (NumsAt wr es[q].p es[q].v.prev) := HEV.out.nums _ (List.getElem_mem hqt)
            have hpl := HNM.out.1
            have HIN : Hid (∀ p ∈ es[q].v.prev, p ∈ idsOf es) := H.out.2.2 _ (List.getElem_mem hqt)
            clear hcell
            go_wp2
            go_loopw [6, 7, 8] (fun x y i wl => Loop3 (idsOf es) d es[q].v.prev x y i ∧ wl = wr) (fun _ _ i _ => es[q].v.prev.length - (intOf i).toNat)
            case atStart => exact ⟨Loop3.zero _ _ _, rfl⟩
            case round =>
              obtain ⟨⟨j, bo, m, hj, rfl, rfl, rfl, hm, hbo⟩, rfl⟩ := hrel
              have HM : Hid (m = ((es[q].v.prev.take j).map (val (idsOf es) d)).foldl max 0) := hm
              have HBO : Hid (bo = (es[q].v.prev.take j).all (fun p => decide (0 < val (idsOf es) d p))) := hbo
              have hm0 : 0 ≤ m := by rw [hm]; exact (HI.out.2.fold_bound HIN.out j).1
              have hm1 : m ≤ 1048576 := by have := (HI.out.2.fold_bound HIN.out j).2; rw [← hm, HL.out] at this; omega
              clear hm hbo
              by_cases hjt : j < es[q].v.prev.length
              · obtain ⟨b2, off2, hp, hbb2, hcell2⟩ := HNM.out.2 (by omega)
                have hcp := hcell2 j hjt
                have hc8 := hc7
                rw [hp] at hc8
                have hmem := HIN.out _ (List.getElem_mem hjt)
                obtain ⟨t, ht, h1, h2⟩ : ∃ t, ∃ h : t < (idsOf es).length, atI (idsOf es) es[q].v.prev[j] = (t : Int) ∧ (idsOf es)[t] = es[q].v.prev[j] := by
                  rcases atI_cases (idsOf es) es[q].v.prev[j] with h | ⟨_, h⟩
                  · exact h
                  · exact absurd hmem h
                obtain ⟨y, HY, hcy⟩ : ∃ y, Hid (y = val (idsOf es) d es[q].v.prev[j]) ∧ wr.cell? ⟨w.heap.size, t, none⟩ = some (.int .i64 y) := ⟨val (idsOf es) d es[q].v.prev[j], rfl, by
                  unfold val
                  rw [h1, Int.toNat_natCast]
                  exact HI.out.1.cell (by rw [← HL.out]; exact ht)⟩
                have hy := HI.out.2.val_bound hmem
                rw [← HY.out, HL.out] at hy
                obtain ⟨hy0, hy1⟩ := hy
                have ht2 : t < es.length := by rw [← HL.out]; exact ht
                have HT1 : Hid (atI (idsOf es) es[q].v.prev[j] = (t : Int)) := h1
                clear hcell2 hp hmem h1 h2 ht hc7
                go_wp2_with fail
                refine (at_spec es es[q].v.prev[j] _ cap _ HEV.out).mono ?_
                rintro e w2 ⟨rfl, rfl⟩
                rw [HT1.out]
                cases bo
                · by_cases c2 : m < y
                  · go_wp2
                    go_roundw
                    case rel => exact ⟨Loop3.next hjt HM.out HBO.out HY.out (by omega) (by simp) (by go_num), trivial⟩
                    case measure => simp [intOf]; omega
                  · go_wp2
                    go_roundw
                    case rel => exact ⟨Loop3.next hjt HM.out HBO.out HY.out (by omega) (by simp) (by go_num), trivial⟩
                    case measure => simp [intOf]; omega
                · by_cases c1 : 0 < y
                  · by_cases c2 : m < y
                    · go_wp2
                      go_roundw
                      case rel => exact ⟨Loop3.next hjt HM.out HBO.out HY.out (by omega) (by simp [c1]) (by go_num), trivial⟩
                      case measure => simp [intOf]; omega
                    · go_wp2
                      go_roundw
                      case rel => exact ⟨Loop3.next hjt HM.out HBO.out HY.out (by omega) (by simp [c1]) (by go_num), trivial⟩
                      case measure => simp [intOf]; omega
                  · by_cases c2 : m < y
                    · omega
                    · go_wp2
                      go_roundw
                      case rel => exact ⟨Loop3.next hjt HM.out HBO.out HY.out (by omega) (by simp) (by go_num), trivial⟩
                      case measure => simp [intOf]; omega
              · have htk : es[q].v.prev.take j = es[q].v.prev := List.take_of_length_le (by omega)
                have hm := HM.out
                have hbo := HBO.out
                rw [htk] at hm hbo
                have hqi : q < (idsOf es).length := by rw [HL.out]; exact hqt
                have hpv : pvOf es (idsOf es)[q] = some es[q].v.prev := by
                  have := pvOf_at H.out.2.1 hqt
                  simpa [idsOf] using this
                cases bo
                · have HE : Hid (Inv (pvOf es) (idsOf es) k (q + 1) d) := HI.out.2.no hqi hpv HIN.out (by
                    have := List.all_eq_false.1 hbo.symm
                    simpa using this)
                  clear hm hbo htk hqi hpv
                  go_wp2
                  go_roundw
                  case rel => exact ⟨q + 1, d, by omega, by go_num, HI.out.1, HE.out⟩
                  case measure => simp [intOf]; omega
                · have HE : Hid (Inv (pvOf es) (idsOf es) k (q + 1) (d.set q (m + 1))) := by
                    rw [hm]
                    exact HI.out.2.set (fun _ _ => pvOf_mem) hqi hpv HIN.out (by
                      have := List.all_eq_true.1 hbo.symm
                      simpa using this)
                  have hfz := HI.out.1.frozen q
                  have HT2 : Hid (TabAt w w.heap.size es.length es.length (d.set q (m + 1)) (wr.setCell ⟨w.heap.size, q, none⟩ (.int .i64 (m + 1)))) := HI.out.1.put q (m + 1)
                  clear hm hbo htk hqi hpv
                  go_wp2
                  go_roundw
                  case rel => exact ⟨q + 1, _, by omega, by go_num, HT2.out, HE.out⟩
                  case measure => simp [intOf]; omega
        · have HE : Hid (Inv (pvOf es) (idsOf es) (k + 1) 0 d) := by
            have e : q = (idsOf es).length := by rw [HL.out]; omega
            exact Inv.round (by rw [← e]; exact HI.out.2)
          go_wp2
          go_roundw
          case rel => exact ⟨k + 1, d, by omega, by go_num, HI.out.1, HE.out⟩
          case measure => simp [intOf]; omega
    · have HE : Hid (d = (idsOf es).map fun id => (dep (pvOf es) (idsOf es).length id : Int)) := by
        have e : k = (idsOf es).length := by rw [HL.out]; omega
        have h2 := HI.out.2
        rw [e] at h2
        refine list_ext0 (by rw [List.length_map]; exact h2.1) fun j hj => ?_
        have hj2 : j < (idsOf es).length := by rw [← h2.1]; exact hj
        rw [h2.end hj2, getD_map _ _ _ hj2]
      go_wp2
      go_ret
      exact ⟨rfl, by rw [← HE.out]; exact HI.out.1⟩
end Go.Proofs.YteajcmkaoahbeaaGreatDoor
