/- AheadOf of the specification, walked. -/
import Derived.Test.YtegjdngkbofogaaGaSpec
namespace Go.Proofs.Ytegjdngkbofogaa
open Go.RowKit

/-- Behind the making of the marks. -/
structure Ah1 (w : World) (g : Gr) (a : Option Addr) (cap : Nat) (p : Option Addr) (cp : Nat) (W : World) : Prop where
  below : Below w.heap.size w W
  box : W.heap[w.heap.size]? = some (.cells #[.int .i64 g.room, .slice a g.evs.length cap, .slice p g.pk.length cp] 45 (0, 0))
  tab : MkTab w (w.heap.size + 1) g.evs.length (List.replicate g.evs.length false) W
  lt : w.heap.size + 1 < W.heap.size
theorem Ah1.on {w : World} {g : Gr} {a : Option Addr} {cap : Nat} {p : Option Addr} {cp : Nat} {W W' : World} (h : Ah1 w g a cap p cp W) (hb : Below (w.heap.size + 2) W W') : Ah1 w g a cap p cp W' :=
  ⟨h.below.trans (hb.mono (by omega)), (hb.block _ (by omega)).trans h.box, ⟨(hb.block _ (by omega)).trans h.tab.row, h.tab.len⟩, Nat.lt_of_lt_of_le h.lt hb.size⟩
theorem bool_no {r : Bool} {P : Prop} (h : r = true ↔ P) (hn : ¬ P) : r = false := by
  cases r
  · rfl
  · exact absurd (h.1 rfl) hn
theorem bool_yes {r : Bool} {P : Prop} (h : r = true ↔ P) (hp : P) : r = true := h.2 hp
/-- What the walk begins with. -/
structure Ah0 (w : World) (g : Gr) (a : Option Addr) (cap : Nat) (p : Option Addr) (cp : Nat) (W : World) : Prop where
  below : Below w.heap.size w W
  box : W.heap[w.heap.size]? = some (.cells #[.int .i64 g.room, .slice a g.evs.length cap, .slice p g.pk.length cp] 45 (0, 0))
set_option maxHeartbeats 4000000 in
set_option maxRecDepth 100000 in
theorem ahead03_spec (g : Gr) (x y : Int) (r : Bool) (hw : r = true ↔ Way (pvOf g.evs) y x) (a : Option Addr) (cap : Nat) (p : Option Addr) (cp : Nat) (w : World) (h : EvsAt w a g.evs) (hr : rightG g = true) :
    Calls Try.prog 67 #[.agg #[.int .i64 g.room, .slice a g.evs.length cap, .slice p g.pk.length cp], .int .i64 x, .int .i64 y] w fun e w' => e = .returned (.bool r) ∧ Below w.heap.size w w' := by
  have hle := h.len
  have H0 : Hid (Ah0 w g a cap p cp (w.alloc (.cells #[.int .i64 g.room, .slice a g.evs.length cap, .slice p g.pk.length cp] 45))) := ⟨(Below.refl _ _).alloc (Nat.le_refl _) _, (MapKept.heap_alloc w _).1⟩
  have HE : Hid (∀ W, Below w.heap.size w W → EvsAt W a g.evs) := fun W hW => h.kept hW
  have HR : Hid (rightG g = true) := hr
  have HWY : Hid (r = true ↔ Way (pvOf g.evs) y x) := hw
  clear h hw hr
  rcases atI_cases (idsOf g.evs) x with ⟨kx, hkx, hatx, -⟩ | ⟨hatx, hnox⟩
  · rcases atI_cases (idsOf g.evs) y with ⟨ky, hky, haty, hkky⟩ | ⟨haty, hnoy⟩
    · have hx0 : decide ((kx : Int) < 0) = false := by simp
      have hy0 : decide ((ky : Int) < 0) = false := by simp
      have HKY : Hid (ky < g.evs.length) := by unfold Hid; simpa [idsOf] using hky
      have HVY : Hid (evIn g.evs y = (g.evs[ky]'HKY.out).v) := by
        have e : y = (g.evs[ky]'HKY.out).v.id := by rw [← hkky]; simp [idsOf]
        unfold Hid
        rw [e]
        exact evIn_some (right_nd HR.out).1 (List.getElem_mem HKY.out)
      obtain ⟨v, HV⟩ : ∃ v, Hid (v = evIn g.evs y) := ⟨evIn g.evs y, (rfl : evIn g.evs y = _)⟩
      have HPV : Hid (pvOf g.evs y = some v.prev ∧ (∀ q ∈ v.prev, q ∈ idsOf g.evs) ∧ v.prev.length ≤ 4) := by
        have e : y = (g.evs[ky]'HKY.out).v.id := by rw [← hkky]; simp [idsOf]
        have h1 := pvOf_at (right_nd HR.out).1 HKY.out
        rw [← e] at h1
        rw [HV.out, HVY.out]
        exact ⟨h1, prevs_right HR.out (List.getElem_mem _)⟩
      have HATX : Hid (atI (idsOf g.evs) x = kx) := hatx
      have HATY : Hid (atI (idsOf g.evs) y = ky) := haty
      obtain ⟨i0, hi, hz0, hz1, hz2⟩ := info_parts Try.info2
      obtain ⟨i1, hi1, hb0, hb1, hb2⟩ := info_parts Try.infoBo
      have hl4 := HPV.out.2.2
      have hfd : ∀ (q : Option Addr) (c : Nat) (W : World), (Instr.field 27 (.agg #[.int .i64 v.id, .int .i64 v.room, .int .i64 v.author, .int .i64 v.kind, .int .i64 v.key, .int .i64 v.n, .string v.text, .slice q v.prev.length c, .int .i64 v.time]) 7).run Try.prog W = .ok (.slice q v.prev.length c) W := fun q c W => (by kernel_rfl)
      clear hatx haty hkx hky hkky
      have HE1 : Hid ((w.alloc (.cells #[.int .i64 g.room, .slice a g.evs.length cap, .slice p g.pk.length cp] 45)).heap.size = w.heap.size + 1) := by unfold Hid; simp
      go_enter Try.func67, Try.ntmps67
      go_wp2_with fail
      refine (at_spec g.evs x a cap _ (HE.out _ H0.out.below)).mono ?_
      rintro e w2 ⟨rfl, rfl⟩
      rw [HATX.out]
      go_wp2_with fail
      refine (at_spec g.evs y a cap _ (HE.out _ H0.out.below)).mono ?_
      rintro e w2 ⟨rfl, rfl⟩
      rw [HATY.out]
      go_wp2_with (at_make; refine wpList_make_full _ rfl _ _ 145 rfl w.heap.size 4 i1 (.bool false) 1 Try.underlying145 hi1 hb0 hb1 .i64 .i64 _ _ g.evs.length rfl rfl (by omega) (by omega) (by rw [hb2]; omega) (by unfold maxLen; omega) (by simp) ?_; intro w1 hown hgrow; rw [HE1.out] at hown ⊢; rw [made_bools] at hown; have H1 : Hid (Ah1 w g a cap p cp w1) := ⟨H0.out.below.grown hgrow (by simp) (fun k hk => by cases hk), (hgrow.block _ (by simp) (by simp)).trans H0.out.box, ⟨own_cells hown, by simp⟩, (Array.getElem?_eq_some_iff.1 (own_cells hown)).1⟩; have q0 : w1.cell? ⟨w.heap.size, 0, none⟩ = some (.int .i64 g.room) := cell_of_heap H1.out.box; have q1 : w1.cell? ⟨w.heap.size, 1, none⟩ = some (.slice a g.evs.length cap) := cell_of_heap H1.out.box; have q2 : w1.cell? ⟨w.heap.size, 2, none⟩ = some (.slice p g.pk.length cp) := cell_of_heap H1.out.box; have hw1 : w.heap.size < w1.heap.size := (by have := H1.out.lt; omega); clear hown hgrow; go_frame)
      have HA1 : Hid (∀ o, Ah1 w g a cap p cp (w1.alloc o)) := fun o => H1.out.on ((Below.refl _ _).alloc (by have := H1.out.lt; omega) o)
      have hz2' : w.heap.size + 2 ≤ w1.heap.size := by have := H1.out.lt; omega
      refine (event_spec g y a cap p cp _ (HE.out _ (HA1.out _).below) (right_nd HR.out).1).mono ?_
      rw [← HV.out]
      rintro e w3 ⟨q3, c3, rfl, ho3, hb3⟩
      have H3 : Hid (Ah1 w g a cap p cp w3) := (HA1.out _).on (hb3.mono (by simp; omega))
      have HN3 : Hid (NumsAt w3 q3 v.prev) := owns_nums ho3 (by omega)
      have HB3 : Hid (w.heap.size + 2 ≤ w3.heap.size) := by have := H3.out.lt; unfold Hid; omega
      clear ho3 hb3
      go_wp2_with (at_builtin; refine wpList_append_todo rfl _ _ 22 rfl i0 (.int .i64 0) Try.underlying22 hi hz0 hz1 hz2 rfl (w.heap.size + 2) _ 0 [] rfl ⟨by simp, fun h => absurd h (Nat.lt_irrefl 0)⟩ HB3.out q3 c3 v.prev HN3.out rfl (by simp; omega) ?_; intro q4 c4 w4 hT4 hb4; have H4 : Hid (AhAt w g a cap p cp (List.replicate g.evs.length false) q4 c4 v.prev w4) := ⟨(H3.out.on hb4).below, (H3.out.on hb4).box, (H3.out.on hb4).tab, hT4, (H3.out.on hb4).lt⟩; clear hT4 hb4)
      have HLN : Hid ((idsOf g.evs).length = g.evs.length) := by unfold Hid; simp [idsOf]
      have H60 : Hid (g.evs.length ≤ 60) := (right_nd HR.out).2
      have HOP : Hid (open' (List.replicate g.evs.length false) = g.evs.length) := by
        unfold Hid open'
        rw [List.countP_eq_length.2 (fun b hb => by rw [(List.mem_replicate.1 hb).2]; rfl), List.length_replicate]
      have HTD : Hid (Todo (pvOf g.evs) (idsOf g.evs) x y (List.replicate g.evs.length false) v.prev) := by have := Todo.begin (a := x) HPV.out.1 HPV.out.2.1; rw [HLN.out] at this; exact this
      clear H0 H1 HA1 H3 HN3 HB3 hx0 hy0 q0 q1 q2
      go_loopw [8, 9, 10] (fun t _ _ wr => ∃ (marks : List Bool) (q : Option Addr) (c : Nat) (zs : List Int), t = .slice q zs.length c ∧ zs.length ≤ 1000 ∧ Hid (AhAt w g a cap p cp marks q c zs wr ∧ Todo (pvOf g.evs) (idsOf g.evs) x y marks zs ∧ 5 * open' marks + zs.length ≤ 5 * g.evs.length + 4)) (fun t _ _ wr => 5 * openW wr (w.heap.size + 1) + lenOf t)
      case atStart => exact ⟨_, q4, c4, v.prev, rfl, by omega, H4.out, HTD.out, by rw [HOP.out]; omega⟩
      case round =>
        clear H4 HTD
        obtain ⟨marks, q, c, zs, rfl, hzl, HI⟩ := hrel
        have HOW : Hid (openW wr (w.heap.size + 1) = open' marks) := HI.out.1.tab.open
        cases zs with
        | nil =>
          have HX : Hid (r = false) := bool_no HWY.out HI.out.2.1.end
          go_wp2
          go_ret
          exact ⟨ret_bool HX.out.symm, HI.out.1.below⟩
        | cons z zr =>
          obtain ⟨b, off, rfl, hc0, HT1, HT2⟩ := HI.out.1.todo.tail
          have hq1 : wr.cell? ⟨w.heap.size, 1, none⟩ = some (.slice a g.evs.length cap) := cell_of_heap HI.out.1.box
          have HT1 : Hid (TodoAt wr (w.heap.size + 2) (some ⟨b, off + 1, none⟩) (c - 1) zr) := HT1
          have HT2 : Hid (c = 1 → TodoAt wr (w.heap.size + 2) (some ⟨b, off, none⟩) 0 zr) := HT2
          have hcl : zr.length + 1 ≤ c := by have := HI.out.1.todo.le; simpa using this
          have hzb : zr.length ≤ 303 := by have h1 := HI.out.2.2; have h2 := H60.out; simp at h1; omega
          clear hzl
          obtain ⟨k, hki, hat, hkk⟩ : ∃ k, ∃ hk : k < (idsOf g.evs).length, atI (idsOf g.evs) z = k ∧ (idsOf g.evs)[k] = z := by
            rcases atI_cases (idsOf g.evs) z with ⟨k, hk, hat, hkk⟩ | ⟨_, hno⟩
            · exact ⟨k, hk, hat, hkk⟩
            · exact absurd (HI.out.2.1.inT z List.mem_cons_self) hno
          have hk : k < g.evs.length := by simpa [idsOf] using hki
          have HKI : Hid (k < (idsOf g.evs).length) := hki
          have HKK : Hid ((idsOf g.evs)[k] = z) := hkk
          have HATZ : Hid (atI (idsOf g.evs) z = k) := hat
          have HPK : Hid (pvOf g.evs z = some g.evs[k].v.prev ∧ (∀ q ∈ g.evs[k].v.prev, q ∈ idsOf g.evs) ∧ g.evs[k].v.prev.length ≤ 4) := by
            have h1 := pvOf_at (right_nd HR.out).1 hk
            have e : g.evs[k].v.id = z := by rw [← hkk]; simp [idsOf]
            rw [e] at h1
            exact ⟨h1, prevs_right HR.out (List.getElem_mem _)⟩
          have hp4 := HPK.out.2.2
          obtain ⟨m, HMM⟩ : ∃ m, Hid (m = marks.getD k false) := ⟨marks.getD k false, (rfl : marks.getD k false = _)⟩
          have hcm : wr.cell? ⟨w.heap.size + 1, k, none⟩ = some (.bool m) := by rw [HMM.out]; exact HI.out.1.tab.cell hk
          have hfm : wr.frozen? ⟨w.heap.size + 1, k, none⟩ = false := frozen_of_heap HI.out.1.tab.row
          have HOS : Hid (m = false → open' (marks.set k true) + 1 = open' marks) := fun e => open_set (by rw [HI.out.1.tab.len]; exact hk) (by rw [← HMM.out]; exact e)
          have HOS' := HOS
          obtain ⟨b2, off2, ha2, hbb2, hcell2⟩ := (HE.out w (Below.refl _ _)).row (by omega)
          have hc7 : wr.cell? ⟨b2, off2 + k * 9 + 7, none⟩ = some (.slice g.evs[k].p g.evs[k].v.prev.length g.evs[k].c) := by
            rw [Nat.add_assoc, HI.out.1.below.cell (p := ⟨b2, off2 + (k * 9 + 7), none⟩) hbb2]
            exact hcell2 k hk 7 (by omega)
          have hbn : ¬ b2 = w.heap.size + 1 := by omega
          clear hcell2 hki hkk hat HOS'
          subst ha2
          by_cases hc1 : c = 1
          · subst hc1
            obtain rfl : zr = [] := List.eq_nil_of_length_eq_zero (by omega)
            have HTT : Hid (TodoAt wr (w.heap.size + 2) (some ⟨b, off, none⟩) 0 []) := HT2.out rfl
            clear HT1 HT2
            go_wp2_with fail
            refine (at_spec g.evs z (some ⟨b2, off2, none⟩) cap _ (HE.out _ HI.out.1.below)).mono ?_
            rintro e w5 ⟨rfl, rfl⟩
            rw [HATZ.out]
            cases hzx : (z == x)
            · have HZX : Hid (z ≠ x) := by unfold Hid; simpa using hzx
              cases hm : m
              · have HAM : Hid (AhAt w g (some ⟨b2, off2, none⟩) cap p cp (marks.set k true) (some ⟨b, off, none⟩) 0 [] (wr.setCell ⟨w.heap.size + 1, k, none⟩ (.bool true))) := (HI.out.1.on (Below.refl _ _) HTT.out).mark k
                have HNM : Hid (NumsAt (wr.setCell ⟨w.heap.size + 1, k, none⟩ (.bool true)) g.evs[k].p g.evs[k].v.prev) := (HE.out _ HAM.out.below).nums _ (List.getElem_mem hk)
                have HLO : Hid (w.heap.size + 2 ≤ (wr.setCell ⟨w.heap.size + 1, k, none⟩ (.bool true)).heap.size) := by unfold Hid; have := HAM.out.lt; omega
                subst hm
                have HO2 : Hid (open' (marks.set k true) + 1 = open' marks) := HOS.out rfl
                clear HOS
                go_wp2_with (at_builtin; refine wpList_append_todo rfl _ _ 22 rfl i0 (.int .i64 0) Try.underlying22 hi hz0 hz1 hz2 rfl (w.heap.size + 2) _ _ [] rfl HAM.out.todo HLO.out g.evs[k].p g.evs[k].c g.evs[k].v.prev HNM.out rfl (by simp; omega) ?_; intro q6 c6 w6 hT6 hb6; have H6 : Hid (AhAt w g (some ⟨b2, off2, none⟩) cap p cp (marks.set k true) q6 c6 ([] ++ g.evs[k].v.prev) w6) := HAM.out.on hb6 hT6; clear hT6 hb6)
                go_roundw
                case rel => exact ⟨marks.set k true, q6, c6, [] ++ g.evs[k].v.prev, rfl, by simp; omega, H6.out, HI.out.2.1.next HKI.out HKK.out HZX.out HPK.out.1 HPK.out.2.1, by have h1 := HO2.out; have h2 := HI.out.2.2; simp at h2 ⊢; omega⟩
                case measure =>
                  have h1 := HO2.out
                  have h3 := H6.out.tab.open
                  have h4 := HOW.out
                  simp only [lenOf, List.length_cons]
                  omega
              · have HMK : Hid (marks.getD k false = true) := by unfold Hid; rw [← HMM.out]; exact hm
                subst hm
                go_wp2
                go_roundw
                case rel => exact ⟨marks, _, _, [], rfl, by simp, HI.out.1.on (Below.refl _ _) HTT.out, HI.out.2.1.skip HKI.out HKK.out HMK.out, by have h2 := HI.out.2.2; simp at h2 ⊢; omega⟩
                case measure => simp only [lenOf, List.length_cons]; omega
            · have HX : Hid (r = true) := by
                have e : z = x := by simpa using hzx
                have h1 := HI.out.2.1
                rw [e] at h1
                exact bool_yes HWY.out h1.hit
              go_wp2
              go_ret
              exact ⟨ret_bool HX.out.symm, HI.out.1.below⟩
          · clear HT2
            have hc2 : ¬ c - 1 = 0 := by omega
            go_wp2_with fail
            refine (at_spec g.evs z (some ⟨b2, off2, none⟩) cap _ (HE.out _ HI.out.1.below)).mono ?_
            rintro e w5 ⟨rfl, rfl⟩
            rw [HATZ.out]
            cases hzx : (z == x)
            · have HZX : Hid (z ≠ x) := by unfold Hid; simpa using hzx
              cases hm : m
              · have HAM : Hid (AhAt w g (some ⟨b2, off2, none⟩) cap p cp (marks.set k true) (some ⟨b, off + 1, none⟩) (c - 1) zr (wr.setCell ⟨w.heap.size + 1, k, none⟩ (.bool true))) := (HI.out.1.on (Below.refl _ _) HT1.out).mark k
                have HNM : Hid (NumsAt (wr.setCell ⟨w.heap.size + 1, k, none⟩ (.bool true)) g.evs[k].p g.evs[k].v.prev) := (HE.out _ HAM.out.below).nums _ (List.getElem_mem hk)
                have HLO : Hid (w.heap.size + 2 ≤ (wr.setCell ⟨w.heap.size + 1, k, none⟩ (.bool true)).heap.size) := by unfold Hid; have := HAM.out.lt; omega
                subst hm
                have HO2 : Hid (open' (marks.set k true) + 1 = open' marks) := HOS.out rfl
                clear HOS
                go_wp2_with (at_builtin; refine wpList_append_todo rfl _ _ 22 rfl i0 (.int .i64 0) Try.underlying22 hi hz0 hz1 hz2 rfl (w.heap.size + 2) _ _ zr rfl HAM.out.todo HLO.out g.evs[k].p g.evs[k].c g.evs[k].v.prev HNM.out rfl (by omega) ?_; intro q6 c6 w6 hT6 hb6; have H6 : Hid (AhAt w g (some ⟨b2, off2, none⟩) cap p cp (marks.set k true) q6 c6 (zr ++ g.evs[k].v.prev) w6) := HAM.out.on hb6 hT6; clear hT6 hb6)
                go_roundw
                case rel => exact ⟨marks.set k true, q6, c6, zr ++ g.evs[k].v.prev, by simp, by simp; omega, H6.out, HI.out.2.1.next HKI.out HKK.out HZX.out HPK.out.1 HPK.out.2.1, by have h1 := HO2.out; have h2 := HI.out.2.2; simp at h2 ⊢; omega⟩
                case measure =>
                  have h1 := HO2.out
                  have h3 := H6.out.tab.open
                  have h4 := HOW.out
                  simp only [lenOf, List.length_cons]
                  omega
              · have HMK : Hid (marks.getD k false = true) := by unfold Hid; rw [← HMM.out]; exact hm
                subst hm
                go_wp2
                go_roundw
                case rel => exact ⟨marks, _, _, zr, rfl, by omega, HI.out.1.on (Below.refl _ _) HT1.out, HI.out.2.1.skip HKI.out HKK.out HMK.out, by have h2 := HI.out.2.2; simp at h2 ⊢; omega⟩
                case measure => simp only [lenOf, List.length_cons]; omega
            · have HX : Hid (r = true) := by
                have e : z = x := by simpa using hzx
                have h1 := HI.out.2.1
                rw [e] at h1
                exact bool_yes HWY.out h1.hit
              go_wp2
              go_ret
              exact ⟨ret_bool HX.out.symm, HI.out.1.below⟩
    · have HX : Hid (r = false) := bool_no HWY.out (fun hw => hnoy (way_in HR.out hw).1)
      have hx0 : decide ((kx : Int) < 0) = false := by simp
      have HATX : Hid (atI (idsOf g.evs) x = kx) := hatx
      have HATY : Hid (atI (idsOf g.evs) y = -1) := haty
      clear hatx haty hnoy hkx
      go_enter Try.func67, Try.ntmps67
      go_wp2_with fail
      refine (at_spec g.evs x a cap _ (HE.out _ H0.out.below)).mono ?_
      rintro e w2 ⟨rfl, rfl⟩
      rw [HATX.out]
      go_wp2_with fail
      refine (at_spec g.evs y a cap _ (HE.out _ H0.out.below)).mono ?_
      rintro e w2 ⟨rfl, rfl⟩
      rw [HATY.out]
      go_wp2
      go_ret
      exact ⟨ret_bool HX.out.symm, H0.out.below⟩
  · have HX : Hid (r = false) := bool_no HWY.out (fun hw => hnox (way_in HR.out hw).2)
    have HATX : Hid (atI (idsOf g.evs) x = -1) := hatx
    clear hatx hnox
    go_enter Try.func67, Try.ntmps67
    go_wp2_with fail
    refine (at_spec g.evs x a cap _ (HE.out _ H0.out.below)).mono ?_
    rintro e w2 ⟨rfl, rfl⟩
    rw [HATX.out]
    go_wp2
    go_ret
    exact ⟨ret_bool HX.out.symm, H0.out.below⟩
end Go.Proofs.Ytegjdngkbofogaa
