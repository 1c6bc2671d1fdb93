/- The program's look whether each event stands where it belongs. -/
import Derived.Test.YteajcmkaoahbeaaGreatDoorZGrTab
import Derived.Test.YteajcmkaoahbeaaGreatDoorZGrSpec
namespace Go.Proofs.YteajcmkaoahbeaaGreatDoor
open Go.RowKit

/-- What placed is handed: two maps, and the rows behind them. -/
structure PlIn (w : World) (g : Gr) (be bp ne np : Nat) : Prop where
  evs : w.ownsMap Tryz.prog 2 heldR be ne (putAll g.evs)
  pk : w.ownsMap Tryz.prog 2 heldR bp np (putAll g.pk)
  ne : ∀ m ∈ g.evs, NumsAt w m.p m.v.prev
  np : ∀ m ∈ g.pk, NumsAt w m.p m.v.prev
  ie : ∀ m ∈ g.evs, ∀ p ∈ m.v.prev, 1 ≤ p ∧ p ≤ 1000000
  ip : ∀ m ∈ g.pk, ∀ p ∈ m.v.prev, 1 ≤ p ∧ p ≤ 1000000
  de : (idsOf g.evs).Nodup
  dp : (idsOf g.pk).Nodup
  jp : ∀ m ∈ g.pk, IdIn m
theorem below_grown {w w' : World} (h : Below w.heap.size w w') : w.grownBy w' none := ⟨h.os, h.tape, h.output, h.size, fun k hk _ => h.block k hk⟩
theorem em_same {es : List Em} (hn : (idsOf es).Nodup) {m m' : Em} (h : m ∈ es) (h' : m' ∈ es) (e : m.v.id = m'.v.id) : m = m' := by
  obtain ⟨i, hi, rfl⟩ := List.getElem_of_mem h
  obtain ⟨j, hj, rfl⟩ := List.getElem_of_mem h'
  have hi2 : i < (idsOf es).length := by simpa [idsOf] using hi
  have hj2 : j < (idsOf es).length := by simpa [idsOf] using hj
  have e2 : (idsOf es)[i] = (idsOf es)[j] := by simpa [idsOf] using e
  rcases Nat.lt_trichotomy i j with h1 | h1 | h1
  · exact absurd e2 ((List.pairwise_iff_getElem.1 hn) i j hi2 hj2 h1)
  · subst h1
    rfl
  · exact absurd e2.symm ((List.pairwise_iff_getElem.1 hn) j i hj2 hi2 h1)
set_option maxHeartbeats 4000000 in
set_option maxRecDepth 100000 in
theorem placed_impl (g : Gr) (be bp ne np : Nat) (w : World) (h : PlIn w g be bp ne np) :
    Calls Tryz.prog 111 #[.agg #[.map (some be), .map (some bp)]] w fun e w' => e = .returned (.bool (evsB g && pkB g)) ∧ Below w.heap.size w w' := by
  have H : Hid (PlIn w g be bp ne np) := h
  have hbe := h.evs.lt
  clear h
  have e1 : (w.alloc (.cells #[.map (some be), .map (some bp)] 172)).heap.size = w.heap.size + 1 := by simp
  have HE1 : Hid ((w.alloc (.cells #[.map (some be), .map (some bp)] 172)).heap.size = w.heap.size + 1) := e1
  clear e1
  go_enter Tryz.func111, Tryz.ntmps111
  go_wp2_with (at_range; refine wpList_range_own _ rfl _ 130 rfl 2 114 (Maps.int_keyed (P := Tryz.prog) Tryz.underlying2) Tryz.underlying130 heldR be ne (putAll g.evs) rfl (H.out.evs.alloc _) ?_; intro w0 hrg0 hg0 hs0)
  go_frame
  rw [HE1.out] at hrg0 hs0 ⊢
  have HB0 : Hid (Below w.heap.size w w0 ∧ w0.heap[w.heap.size]? = some (.cells #[.map (some be), .map (some bp)] 172 (0, 0))) := ⟨((Below.refl _ _).alloc (Nat.le_refl _) _).grown hg0 (by simp) (fun j hj => by cases hj), (hg0.block _ (by simp) (by simp)).trans (MapKept.heap_alloc w _).1⟩
  go_loopw [4] (fun _ wr => ∃ (left : Lit → Bool) (cnt : Nat), wr.ranges Tryz.prog 2 heldR be (w.heap.size + 1) ne (putAll g.evs) left cnt ∧ Hid (∀ m ∈ g.evs, left (.int .i64 m.v.id) = false → allIn (idsOf g.evs) m.v.prev = true) ∧ Hid (Below w.heap.size w wr ∧ wr.heap[w.heap.size]? = some (.cells #[.map (some be), .map (some bp)] 172 (0, 0)))) (fun _ wr => wr.rangeLeft be (w.heap.size + 1))
  case atStart =>
    have h0 : ∀ m ∈ g.evs, Maps.has (putAll g.evs) (.int .i64 m.v.id) = false → allIn (idsOf g.evs) m.v.prev = true := fun m hm hf => by
      have h1 := has_putAll g.evs m.v.id
      rw [hf, decide_eq_true (show m.v.id ∈ idsOf g.evs from List.mem_map.2 ⟨m, hm, rfl⟩)] at h1
      cases h1
    exact ⟨_, _, hrg0, h0, HB0⟩
  case round =>
    clear HB0 hrg0 hg0 hs0
    obtain ⟨left, cnt, hrg, HL, HB⟩ := hrel
    go_wp2_with (at_next; refine wpList_next_ev rfl _ rfl be (w.heap.size + 1) ne g.evs _ _ rfl hrg ?_ ?_)
    · intro hc0 hl0
      have HALL : Hid (∀ m ∈ g.evs, allIn (idsOf g.evs) m.v.prev = true) := fun m hm => HL.out m hm (hl0 _)
      have hx0 : wr.cell? ⟨w.heap.size, 0, none⟩ = some (.map (some be)) := cell_of_heap HB.out.2
      have hx1 : wr.cell? ⟨w.heap.size, 1, none⟩ = some (.map (some bp)) := cell_of_heap HB.out.2
      have HWR : Hid (Below w.heap.size w wr ∧ wr.heap[w.heap.size]? = some (.cells #[.map (some be), .map (some bp)] 172 (0, 0))) := HB
      obtain ⟨r2, HR2⟩ : ∃ r2, Hid (r2 = wr.heap.size) := ⟨_, rfl⟩
      have hr2 : w.heap.size < r2 := by rw [HR2.out]; exact (Array.getElem?_eq_some_iff.1 HB.out.2).1
      clear hc0 hl0 HL hrg
      go_wp2_with (at_range; refine wpList_range_own _ rfl _ 130 rfl 2 114 (Maps.int_keyed (P := Tryz.prog) Tryz.underlying2) Tryz.underlying130 heldR bp np (putAll g.pk) rfl (ownsMap_below H.out.pk HB.out.1) ?_; intro w3 hrg3 hg3 hs3; rw [← HR2.out] at hrg3 ⊢)
      go_frame
      have HB3 : Hid (Below w.heap.size w w3 ∧ w3.heap[w.heap.size]? = some (.cells #[.map (some be), .map (some bp)] 172 (0, 0))) := ⟨HWR.out.1.grown hg3 HWR.out.1.size (fun j hj => by cases hj), (hg3.block _ (Array.getElem?_eq_some_iff.1 HWR.out.2).1 (by simp)).trans HWR.out.2⟩
      clear HB HWR hx0 hx1 HR2 hg3 hs3
      go_loopw [5, 6, 7, 8] (fun _ _ _ _ wl => ∃ (left : Lit → Bool) (cnt : Nat), wl.ranges Tryz.prog 2 heldR bp r2 np (putAll g.pk) left cnt ∧ Hid (∀ m ∈ g.pk, left (.int .i64 m.v.id) = false → m.v.id ∉ idsOf g.evs ∧ allIn (idsOf g.evs) m.v.prev = false) ∧ Hid (Below w.heap.size w wl ∧ wl.heap[w.heap.size]? = some (.cells #[.map (some be), .map (some bp)] 172 (0, 0)))) (fun _ _ _ _ wl => wl.rangeLeft bp r2)
      case atStart =>
        have h0 : ∀ m ∈ g.pk, Maps.has (putAll g.pk) (.int .i64 m.v.id) = false → m.v.id ∉ idsOf g.evs ∧ allIn (idsOf g.evs) m.v.prev = false := fun m hm hf => by
          have h1 := has_putAll g.pk m.v.id
          rw [hf, decide_eq_true (show m.v.id ∈ idsOf g.pk from List.mem_map.2 ⟨m, hm, rfl⟩)] at h1
          cases h1
        exact ⟨_, _, hrg3, h0, HB3⟩
      case round =>
        clear HB3 hrg3
        obtain ⟨left, cnt, hrg, HL, HB⟩ := hrel
        go_wp2_with (at_next; refine wpList_next_ev rfl _ rfl bp r2 np g.pk _ _ rfl hrg ?_ ?_)
        · intro hc0 hl0
          have HS : Hid ((evsB g && pkB g) = true) := by
            have h1 : evsB g = true := List.all_eq_true.2 fun m hm => by
              rw [HALL.out m hm]
              have h2 : m.v.id ∉ idsOf g.pk := fun hin => by
                obtain ⟨x, hx, hxe⟩ := List.mem_map.1 hin
                exact (HL.out x hx (hl0 _)).1 (by rw [hxe]; exact List.mem_map.2 ⟨m, hm, rfl⟩)
              have h3 : ¬ 0 ≤ atI (idsOf g.pk) m.v.id := fun h => h2 (atI_mem.1 h)
              simp
              omega
            have h4 : pkB g = true := List.all_eq_true.2 fun m hm => by rw [(HL.out m hm (hl0 _)).2]; rfl
            unfold Hid
            rw [h1, h4]
            rfl
          clear hl0 hc0
          go_wp2
          go_ret
          exact ⟨ret_bool HS.out.symm, HB.out.1⟩
        · intro m w1 cnt1 hm hlm hrg1 hlt hg1 hs1 hen
          unfold emVal emCells at hen ⊢
          have HB1 : Hid (Below w.heap.size w w1 ∧ w1.heap[w.heap.size]? = some (.cells #[.map (some be), .map (some bp)] 172 (0, 0))) := ⟨HB.out.1.grown hg1 HB.out.1.size (fun j hj => by cases hj; omega), (hg1.block _ (Array.getElem?_eq_some_iff.1 HB.out.2).1 (by simp; omega)).trans HB.out.2⟩
          have hc0 : w1.cell? ⟨w.heap.size, 0, none⟩ = some (.map (some be)) := cell_of_heap HB1.out.2
          have hc1 : w1.cell? ⟨w.heap.size, 1, none⟩ = some (.map (some bp)) := cell_of_heap HB1.out.2
          have HR : Hid (w1.ranges Tryz.prog 2 heldR bp r2 np (putAll g.pk) (fun z => left z && !z.sameKey (.int .i64 m.v.id)) cnt1) := hrg1
          have HRO : Hid (wr.ranges Tryz.prog 2 heldR bp r2 np (putAll g.pk) left cnt) := hrg
          have hz1 : r2 < w1.heap.size := hrg1.lt
          have hz0 : w.heap.size < w1.heap.size := by omega
          have HME : Hid (∀ o, (w1.alloc o).ownsMap Tryz.prog 2 heldR be ne (putAll g.evs)) := fun o => (ownsMap_below H.out.evs HB1.out.1).alloc o
          clear hrg1 hrg hg1 hs1 hlm
          have hji := H.out.jp m hm
          rcases look_ev (HME.out (.cells #[.int .i64 m.v.id, .int .i64 m.v.room, .int .i64 m.v.author, .int .i64 m.v.kind, .int .i64 m.v.key, .int .i64 m.v.n, .string m.v.text, .slice m.p m.v.prev.length m.c, .int .i64 m.v.time] 114)) (id := m.v.id) ⟨by have := hji.1; omega, by have := hji.2; omega⟩ with ⟨hno, hrun⟩ | ⟨x, hx, hxi, hrun⟩
          · unfold zeroVal at hrun
            have HNO : Hid (m.v.id ∉ idsOf g.evs) := hno
            clear hno hji
            go_wp2_with fail
            refine (ready_impl g.evs m be ne (.map (some bp)) _ ((HME.out _).alloc _) ((H.out.np m hm).kept ((HB1.out.1.alloc HB1.out.1.size _).alloc (by have := HB1.out.1.size; simp; omega) _)) (H.out.ip m hm) ⟨_, rfl⟩).mono ?_
            rintro e w2 ⟨rfl, hb2⟩
            have HB2 : Hid (Below w.heap.size w w2 ∧ w2.heap[w.heap.size]? = some (.cells #[.map (some be), .map (some bp)] 172 (0, 0))) := ⟨((HB1.out.1.alloc HB1.out.1.size _).alloc (by have := HB1.out.1.size; simp; omega) _).trans (hb2.mono (by have := HB1.out.1.size; simp; omega)), (hb2.block _ (by simp; omega)).trans ((Below.heap_alloc _ _ _ (by simp; omega)).trans ((Below.heap_alloc _ _ _ hz0).trans HB1.out.2))⟩
            have HR2 : Hid (w2.ranges Tryz.prog 2 heldR bp r2 np (putAll g.pk) (fun z => left z && !z.sameKey (.int .i64 m.v.id)) cnt1) := ((HR.out.alloc _).alloc _).kept (below_grown hb2) (by simp) (by simp)
            clear hb2 hrun
            cases ha : allIn (idsOf g.evs) m.v.prev
            · have HL2 : Hid (∀ m' ∈ g.pk, (left (.int .i64 m'.v.id) && !(Lit.int .i64 m'.v.id).sameKey (.int .i64 m.v.id)) = false → m'.v.id ∉ idsOf g.evs ∧ allIn (idsOf g.evs) m'.v.prev = false) := fun m' hm' hf => by
                by_cases e : m'.v.id = m.v.id
                · rw [em_same H.out.dp hm' hm e]
                  exact ⟨HNO.out, ha⟩
                · refine HL.out m' hm' ?_
                  have h2 : (Lit.int .i64 m'.v.id).sameKey (.int .i64 m.v.id) = false := by
                    cases h3 : (Lit.int .i64 m'.v.id).sameKey (.int .i64 m.v.id)
                    · rfl
                    · exact absurd (WideAt.sameKey_eq h3) (lit_ne e)
                  rw [h2] at hf
                  simpa using hf
              go_wp2
              go_roundw
              case rel => exact ⟨_, cnt1, HR2.out, HL2, HB2⟩
              case measure => rw [HR2.out.left_eq, HRO.out.left_eq]; exact hlt
            · have HS : Hid ((evsB g && pkB g) = false) := by
                have h1 : pkB g = false := List.all_eq_false.2 ⟨m, hm, by simp [ha]⟩
                unfold Hid
                rw [h1]
                simp
              go_wp2
              go_ret
              exact ⟨ret_bool HS.out.symm, HB2.out.1⟩
          · unfold emVal emCells at hrun
            have HS : Hid ((evsB g && pkB g) = false) := by
              have h1 : evsB g = false := List.all_eq_false.2 ⟨x, hx, by
                have h2 : 0 ≤ atI (idsOf g.pk) x.v.id := atI_mem.2 (by rw [hxi]; exact List.mem_map.2 ⟨m, hm, rfl⟩)
                simp
                omega⟩
              unfold Hid
              rw [h1]
              rfl
            clear hji hx hxi
            go_wp2
            go_ret
            exact ⟨ret_bool HS.out.symm, (HB1.out.1.alloc HB1.out.1.size _).alloc (by have := HB1.out.1.size; simp; omega) _⟩
    · intro m w1 cnt1 hm hlm hrg1 hlt hg1 hs1 hen
      unfold emVal emCells at hen ⊢
      have HB1 : Hid (Below w.heap.size w w1 ∧ w1.heap[w.heap.size]? = some (.cells #[.map (some be), .map (some bp)] 172 (0, 0))) := ⟨HB.out.1.grown hg1 HB.out.1.size (fun j hj => by cases hj; omega), (hg1.block _ (Array.getElem?_eq_some_iff.1 HB.out.2).1 (by simp)).trans HB.out.2⟩
      have hc0 : w1.cell? ⟨w.heap.size, 0, none⟩ = some (.map (some be)) := cell_of_heap HB1.out.2
      have hc1 : w1.cell? ⟨w.heap.size, 1, none⟩ = some (.map (some bp)) := cell_of_heap HB1.out.2
      have HR : Hid (w1.ranges Tryz.prog 2 heldR be (w.heap.size + 1) ne (putAll g.evs) (fun z => left z && !z.sameKey (.int .i64 m.v.id)) cnt1) := hrg1
      have HRO : Hid (wr.ranges Tryz.prog 2 heldR be (w.heap.size + 1) ne (putAll g.evs) left cnt) := hrg
      have hz1 : w.heap.size + 1 < w1.heap.size := hrg1.lt
      clear hrg1 hrg hg1 hs1 hlm
      have hz0 : w.heap.size < w1.heap.size := by omega
      go_wp2_with fail
      refine (ready_impl g.evs m be ne (.map (some bp)) _ (HR.out.owns.alloc _) ((H.out.ne m hm).kept (HB1.out.1.alloc HB1.out.1.size _)) (H.out.ie m hm) ⟨_, rfl⟩).mono ?_
      rintro e w2 ⟨rfl, hb2⟩
      have HB2 : Hid (Below w.heap.size w w2 ∧ w2.heap[w.heap.size]? = some (.cells #[.map (some be), .map (some bp)] 172 (0, 0))) := ⟨(HB1.out.1.alloc HB1.out.1.size _).trans (hb2.mono (by have := HB1.out.1.size; simp; omega)), (hb2.block _ (by simp; omega)).trans ((Below.heap_alloc _ _ _ hz0).trans HB1.out.2)⟩
      have HR2 : Hid (w2.ranges Tryz.prog 2 heldR be (w.heap.size + 1) ne (putAll g.evs) (fun z => left z && !z.sameKey (.int .i64 m.v.id)) cnt1) := (HR.out.alloc _).kept (below_grown hb2) (by simp) (by simp)
      clear hb2
      cases ha : allIn (idsOf g.evs) m.v.prev
      · have HS : Hid ((evsB g && pkB g) = false) := by
          have h1 : evsB g = false := List.all_eq_false.2 ⟨m, hm, by simp [ha]⟩
          unfold Hid
          rw [h1]
          rfl
        go_wp2
        go_ret
        exact ⟨ret_bool HS.out.symm, HB2.out.1⟩
      · have HL2 : Hid (∀ m' ∈ g.evs, (left (.int .i64 m'.v.id) && !(Lit.int .i64 m'.v.id).sameKey (.int .i64 m.v.id)) = false → allIn (idsOf g.evs) m'.v.prev = true) := fun m' hm' hf => by
          by_cases e : m'.v.id = m.v.id
          · rw [em_same H.out.de hm' hm e]
            exact ha
          · refine HL.out m' hm' ?_
            have h2 : (Lit.int .i64 m'.v.id).sameKey (.int .i64 m.v.id) = false := by
              cases h3 : (Lit.int .i64 m'.v.id).sameKey (.int .i64 m.v.id)
              · rfl
              · exact absurd (WideAt.sameKey_eq h3) (lit_ne e)
            rw [h2] at hf
            simpa using hf
        go_wp2
        go_roundw
        case rel => exact ⟨_, cnt1, HR2.out, HL2, HB2⟩
        case measure => rw [HR2.out.left_eq, HRO.out.left_eq]; exact hlt
end Go.Proofs.YteajcmkaoahbeaaGreatDoor
