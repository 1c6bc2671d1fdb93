/- Resolve of the specification, walked. -/
import Derived.Test.YteajcmkaoahbeaaGreatDoorZRsTu
import Derived.Test.YteajcmkaoahbeaaGreatDoorZRsAg
import Derived.Test.YteajcmkaoahbeaaGreatDoorZAlSpec
import Derived.Test.YteajcmkaoahbeaaGreatDoorZSuSpec
import Derived.Test.YteajcmkaoahbeaaGreatDoorZMsSet2
namespace Go.Proofs.YteajcmkaoahbeaaGreatDoor
open Go.RowKit

def dpI (g : Gr) (ds : List Int) (n : Int) : Int := ds.getD (atI (idsOf g.evs) n).toNat 0
/-- Which of two goes first, by Ids. -/
theorem meetLess_spec (g : Gr) (ds : List Int) (m n : Int) (hm : m ∈ idsOf g.evs) (hn2 : n ∈ idsOf g.evs) (a : Option Addr) (cap : Nat) (p : Option Addr) (cp : Nat) (d : Option Addr) (cd : Nat) (w : World) (h : EvsAt w a g.evs) (hd : NumsAt w d ds) (hl : ds.length = g.evs.length) (hn : (idsOf g.evs).Nodup) :
    Calls Tryz.prog 68 #[.agg #[.int .i64 g.room, .slice a g.evs.length cap, .slice p g.pk.length cp], .slice d ds.length cd, .int .i64 m, .int .i64 n] w fun e w' => e = .returned (.bool (lessE g.evs (dpI g ds) m n)) ∧ Below w.heap.size w w' := by
  rcases atI_cases (idsOf g.evs) m with ⟨i, hi, ei, ri⟩ | ⟨_, c⟩
  · rcases atI_cases (idsOf g.evs) n with ⟨j, hj, ej, rj⟩ | ⟨_, c⟩
    · have hi' : i < g.evs.length := by simpa [idsOf] using hi
      have hj' : j < g.evs.length := by simpa [idsOf] using hj
      have ri' : g.evs[i].v.id = m := by rw [← ri]; simp [idsOf]
      have rj' : g.evs[j].v.id = n := by rw [← rj]; simp [idsOf]
      obtain ⟨b, off, rfl, _⟩ := h.row (by omega)
      have := lessE_spec g ds i j hi' hj' m n ri' rj' b off cap p cp d cd w h hd hl hn
      have e1 : evIn g.evs m = g.evs[i].v := by rw [← ri']; exact evIn_some hn (List.getElem_mem hi')
      have e2 : evIn g.evs n = g.evs[j].v := by rw [← rj']; exact evIn_some hn (List.getElem_mem hj')
      unfold lessE dpI
      rw [e1, e2, ei, ej, Int.toNat_natCast, Int.toNat_natCast]
      exact this
    · exact absurd hn2 c
  · exact absurd hm c
/-- The graph's variable, the state so far, the disputed Ids so far. -/
structure RR (w : World) (g : Gr) (a : Option Addr) (cap : Nat) (p : Option Addr) (cp : Nat) (o : List En) (d : List Int) (v : Value) (q c : Nat) (W : World) : Prop where
  g : GBox w g a cap p cp W
  out : EnsOwn W (w.heap.size + 1) v o
  ids : NumsOwn W (w.heap.size + 1) (.slice (some ⟨q, 0, none⟩) d.length c) d
theorem RR.on {w : World} {g : Gr} {a : Option Addr} {cap : Nat} {p : Option Addr} {cp : Nat} {o : List En} {d : List Int} {v : Value} {q c : Nat} {W W' : World} (h : RR w g a cap p cp o d v q c W) (hb : Below W.heap.size W W') : RR w g a cap p cp o d v q c W' := ⟨h.g.on hb, h.out.kept hb, h.ids.kept hb⟩
theorem rows_at {ls : List Sl} {k : Nat} (hk : k < ls.length) : (rowsOf ls).take (k + 1) = (rowsOf ls).take k ++ [ls[k].xs] := by
  rw [List.take_succ_eq_append_getElem (by simpa [rowsOf] using hk)]
  simp [rowsOf]
theorem pre_next {ls : List Sl} {k : Nat} (hk : k < ls.length) : ((rowsOf ls).take (k + 1)).flatten = ((rowsOf ls).take k).flatten ++ ls[k].xs := by
  rw [rows_at hk, List.flatten_append]
  simp
theorem pre_len {ls : List Sl} {k : Nat} (hk : k < ls.length) (t : Nat) : (((rowsOf ls).take k).flatten ++ ls[k].xs.take t).length ≤ (rowsOf ls).flatten.length := by
  have h1 : (rowsOf ls).flatten = ((rowsOf ls).take (k + 1)).flatten ++ ((rowsOf ls).drop (k + 1)).flatten := by rw [← List.flatten_append, List.take_append_drop]
  rw [h1, pre_next hk, List.length_append, List.length_append, List.length_append]
  have := List.length_take_le' t ls[k].xs
  omega
theorem ft_next {L : List (List En)} {pre xs : List En} {t : Nat} (ht : t < xs.length) : fstV L (pre ++ xs.take (t + 1)) = fstS L (fstV L (pre ++ xs.take t)) xs[t] := by
  rw [List.take_succ_eq_append_getElem ht, ← List.append_assoc, fstV_more]
theorem flat_len : ∀ (L : List (List En)), (∀ s ∈ L, s.length ≤ 48) → L.flatten.length ≤ 48 * L.length
  | [], _ => by simp
  | s :: L, h => by
    have h1 := h s List.mem_cons_self
    have ih := flat_len L fun t ht => h t (List.mem_cons_of_mem _ ht)
    rw [List.flatten_cons, List.length_append, List.length_cons]
    omega
theorem mid_ord {lt : Int → Int → Bool} {S : Int → Prop} (O : Ord lt S) {dd l : List Int} {i k : Nat} {x : Int} (hd : RisesI dd) (hS : ∀ z ∈ dd, S z) (hi : i < dd.length) (ho : InOrd lt (dd.take i) l) (hl : l.length = i) (hx : x = dd[i]) (hk : Stops lt l x k) : InOrd lt (dd.take (i + 1)) (l.take k ++ x :: l.drop k) ∧ (l.take k ++ x :: l.drop k).length = i + 1 := by
  subst hx
  refine ⟨InOrd.more O hi (List.nodup_iff_pairwise_ne.2 (List.Pairwise.imp (fun h => Int.ne_of_lt h) hd)) hS ho hk, ?_⟩
  have := hk.1
  simp
  omega
theorem mid_next {W0 w5 : World} {base k : Nat} {l : List Int} {x : Int} {v : Value} (ho : NumsOwn w5 W0.heap.size v ([] ++ l.take k ++ [x] ++ l.drop k)) (hb : base ≤ W0.heap.size) : ∃ q c, v = .slice (some ⟨q, 0, none⟩) (l.take k ++ x :: l.drop k).length c ∧ NumsOwn w5 base (.slice (some ⟨q, 0, none⟩) (l.take k ++ x :: l.drop k).length c) (l.take k ++ x :: l.drop k) := by
  have e : [] ++ l.take k ++ [x] ++ l.drop k = l.take k ++ x :: l.drop k := by simp
  rw [e] at ho
  rcases ho.2 with ⟨_, h0⟩ | ⟨g, cap, cur, h1, _⟩
  · simp at h0
  · subst h1
    exact ⟨g, cap, rfl, owns_baseC ho hb⟩
theorem fold_next {es : List Em} {o : List En} {l : List Int} {j : Nat} (h : j < l.length) : (l.take (j + 1)).foldl (mtS es) o = mtS es ((l.take j).foldl (mtS es) o) l[j] := by
  rw [List.take_succ_eq_append_getElem h, List.foldl_append]
  rfl
theorem sc_len {g : Gr} {o : List En} (h : Sc g o) : o.length ≤ 48 := rises_len h.rises fun x hx => by
  have := rowE_kind h.row hx
  omega
/-- What resolving leaves. -/
def ResPost (w : World) (g : Gr) (ds : List Int) (L : List (List En)) (e : Ending) (w' : World) : Prop := ∃ v r, e = .returned v ∧ Meets g.evs (dpI g ds) L r ∧ EnsOwn w' w.heap.size v r ∧ Below w.heap.size w w'
set_option maxHeartbeats 16000000 in
set_option maxRecDepth 100000 in
theorem resolve_spec (g : Gr) (ds : List Int) (ls : List Sl) (a : Option Addr) (cap : Nat) (p : Option Addr) (cp : Nat) (d : Option Addr) (cd : Nat) (la : Option Addr) (lc : Nat) (w : World) (h : EvsAt w a g.evs) (hd : NumsAt w d ds) (hl : ds.length = g.evs.length) (hg : rightG g = true) (hls : SlsAt w la ls) (hmany : ls.length ≤ 60) (hS : ∀ s ∈ rowsOf ls, Sc g s) :
    Calls Tryz.prog 39 #[.agg #[.int .i64 g.room, .slice a g.evs.length cap, .slice p g.pk.length cp], .slice d ds.length cd, .slice la ls.length lc] w (ResPost w g ds (rowsOf ls)) := by
  have HG : Hid (rightG g = true ∧ ∀ s ∈ rowsOf ls, Sc g s) := ⟨hg, hS⟩
  have hn := right_dup hg
  have hr : ∀ s ∈ rowsOf ls, Rises s := fun s hs => (hS s hs).rises
  have hin : ∀ s ∈ rowsOf ls, ∀ x ∈ s, x.id ∈ idsOf g.evs := fun s hs x hx => by
    obtain ⟨m, hm, e, _⟩ := (hS s hs).mem hx
    exact List.mem_map.2 ⟨m, hm, e⟩
  have hpos : ∀ n ∈ idsOf g.evs, n ≠ 0 := fun n hn => by
    obtain ⟨m, hm, rfl⟩ := List.mem_map.1 hn
    have := (right_ids hg hm).1
    omega
  have hT : (rowsOf ls).flatten.length ≤ 800000 := by
    have h1 := flat_len (rowsOf ls) fun s hs => rises_len (hS s hs).rises fun x hx => by
      have := rowE_kind (hS s hs).row hx
      omega
    have h2 : (rowsOf ls).length = ls.length := by simp [rowsOf]
    omega
  have hle := h.len
  have hll := hls.len
  have HL : Hid (SlsAt w la ls) := hls
  have HT : Hid ((rowsOf ls).flatten.length ≤ 800000) := hT
  have H0 : Hid (RR w g a cap p cp [] [] (.slice (some ⟨w.heap.size + 1, 0, none⟩) 0 0) (w.heap.size + 1 + 1) 0 (((w.alloc (.cells #[.int .i64 g.room, .slice a g.evs.length cap, .slice p g.pk.length cp] 32)).alloc (.cells #[] 73)).alloc (.cells #[] 2))) := by
    refine ⟨(GBox.start w g a cap p cp).on (((Below.refl _ _).alloc (Nat.le_refl _) _).alloc (by simp) _), ?_, ?_⟩
    · have h1 := EnsOwn.made (base := w.heap.size + 1) (w.alloc (.cells #[.int .i64 g.room, .slice a g.evs.length cap, .slice p g.pk.length cp] 32)) (by simp)
      have h2 := h1.kept ((Below.refl _ _).alloc (Nat.le_refl _) (.cells #[] 2))
      simpa using h2
    · have h1 := NumsOwn.made (base := w.heap.size + 1) ((w.alloc (.cells #[.int .i64 g.room, .slice a g.evs.length cap, .slice p g.pk.length cp] 32)).alloc (.cells #[] 73)) (by simp)
      simpa using h1
  have HH : Hid (EvsAt w a g.evs ∧ NumsAt w d ds ∧ ds.length = g.evs.length ∧ (idsOf g.evs).Nodup) := ⟨h, hd, hl, hn⟩
  have HDS : Hid (∀ n, Disp (rowsOf ls) n → n ∈ idsOf g.evs) := fun n ⟨s, hs, x, hx, _, e⟩ => e ▸ hin s hs x hx
  have HFS : Hid ((fstV (rowsOf ls) (rowsOf ls).flatten).1 = agrR (rowsOf ls) ∧ RisesI (fstV (rowsOf ls) (rowsOf ls).flatten).2 ∧ ∀ n, n ∈ (fstV (rowsOf ls) (rowsOf ls).flatten).2 ↔ Disp (rowsOf ls) n) := fst_spec hr fun s hs x hx => hpos _ (hin s hs x hx)
  have HOR : Hid (Ord (lessE g.evs (dpI g ds)) (Disp (rowsOf ls))) := lessE_ord g.evs (dpI g ds) (Disp (rowsOf ls)) fun n hn' => by
    obtain ⟨m, hm, e⟩ := List.mem_map.1 (HDS.out n hn')
    rw [← e, evIn_some hn hm]
  have HFL : Hid ((fstV (rowsOf ls) (rowsOf ls).flatten).1.length ≤ 800000 ∧ (fstV (rowsOf ls) (rowsOf ls).flatten).2.length ≤ 800000) := by
    have h1 := fst_len (L := rowsOf ls) (rowsOf ls).flatten ([], [])
    simp only [List.length_nil, Nat.zero_add] at h1
    exact ⟨Nat.le_trans h1.1 hT, Nat.le_trans h1.2 hT⟩
  obtain ⟨i0, hi, hz0, hz1, hz2⟩ := info_parts Tryz.info2
  clear h hd hl hn hls hT hr hin hpos hg hS
  go_enter Tryz.func39, Tryz.ntmps39
  go_wp2
  go_loopw [7, 8, 9, 10] (fun v u i _ wr => ∃ (k q c : Nat) (oa : Option Addr) (oc : Nat) (o : List En) (dd : List Int), k ≤ ls.length ∧ i = .int .i64 k ∧ v = .slice oa o.length oc ∧ u = .slice (some ⟨q, 0, none⟩) dd.length c ∧ Hid ((o, dd) = fstV (rowsOf ls) ((rowsOf ls).take k).flatten) ∧ Hid (RR w g a cap p cp o dd (.slice oa o.length oc) q c wr)) (fun _ _ i _ _ => ls.length - (intOf i).toNat)
  case atStart => exact ⟨0, w.heap.size + 1 + 1, 0, some ⟨w.heap.size + 1, 0, none⟩, 0, [], [], Nat.zero_le _, rfl, rfl, rfl, rfl, H0⟩
  case round =>
    clear H0
    obtain ⟨k, q, c, oa, oc, o, dd, hk, rfl, rfl, rfl, HE, HI⟩ := hrel
    by_cases hlt : k < ls.length
    · obtain ⟨b1, off1, rfl, hbb1, hcell1⟩ := HL.out.row (by omega)
      obtain ⟨s, HSS⟩ : ∃ s, Hid (s = ls[k]) := ⟨ls[k], (rfl : ls[k] = _)⟩
      have HC1 : Hid (∀ W, Below w.heap.size w W → W.cell? ⟨b1, off1 + k, none⟩ = some (.slice s.a s.xs.length s.c)) := fun W hW => by
        rw [HSS.out]
        exact (hW.cell (p := ⟨b1, off1 + k, none⟩) hbb1).trans (hcell1 k hlt)
      have HEA : Hid (EnsAt w s.a s.xs) := by rw [HSS.out]; exact HL.out.each _ (List.getElem_mem hlt)
      have hsl : s.xs.length ≤ 1048576 := HEA.out.len
      clear hcell1
      go_wp2
      go_loopw [7, 8, 10] (fun v u j wl => ∃ (t q c : Nat) (oa : Option Addr) (oc : Nat) (o : List En) (dd : List Int), t ≤ s.xs.length ∧ j = .int .i64 t ∧ v = .slice oa o.length oc ∧ u = .slice (some ⟨q, 0, none⟩) dd.length c ∧ Hid ((o, dd) = fstV (rowsOf ls) (((rowsOf ls).take k).flatten ++ s.xs.take t)) ∧ Hid (RR w g a cap p cp o dd (.slice oa o.length oc) q c wl)) (fun _ _ j _ => s.xs.length - (intOf j).toNat)
      case atStart => exact ⟨0, q, c, oa, oc, o, dd, Nat.zero_le _, rfl, rfl, rfl, (by rw [List.take_zero, List.append_nil]; exact HE.out : _ = _), HI⟩
      case round =>
        clear HE HI
        obtain ⟨t, q, c, oa, oc, o, dd, ht, rfl, rfl, rfl, HE, HJ⟩ := hrel
        have hck := HC1.out _ HJ.out.g.1
        by_cases htl : t < s.xs.length
        · obtain ⟨b2, off2, ha2, hbb2, hc2⟩ := HEA.out.row (by omega)
          rw [ha2] at hck
          have HX : Hid (∀ W, Below w.heap.size w W → W.cell? ⟨b1, off1 + k, none⟩ = some (.slice (some ⟨b2, off2, none⟩) s.xs.length s.c) ∧ W.cell? ⟨b2, off2 + t * 3, none⟩ = some (.int .i64 s.xs[t].kind) ∧ W.cell? ⟨b2, off2 + t * 3 + 1, none⟩ = some (.int .i64 s.xs[t].key) ∧ W.cell? ⟨b2, off2 + t * 3 + 2, none⟩ = some (.int .i64 s.xs[t].id)) := fun W hW => by
            refine ⟨by rw [HC1.out W hW, ha2], (hW.cell (p := ⟨b2, off2 + t * 3, none⟩) hbb2).trans (hc2 t htl 0 (by omega)), (hW.cell (p := ⟨b2, off2 + t * 3 + 1, none⟩) hbb2).trans ?_, (hW.cell (p := ⟨b2, off2 + t * 3 + 2, none⟩) hbb2).trans ?_⟩
            · have := hc2 t htl 1 (by omega)
              rwa [← Nat.add_assoc] at this
            · have := hc2 t htl 2 (by omega)
              rwa [← Nat.add_assoc] at this
          have hlen : o.length ≤ 800000 ∧ dd.length ≤ 800000 := by
            have h1 := fst_len (L := rowsOf ls) (((rowsOf ls).take k).flatten ++ s.xs.take t) ([], [])
            have h2 := pre_len hlt t
            rw [← HSS.out] at h2
            have h3 := HE.out
            unfold fstV at h3
            rw [← h3] at h1
            have h4 := HT.out
            simp only [List.length_nil, Nat.zero_add] at h1
            exact ⟨by omega, by omega⟩
          obtain ⟨x, HXX⟩ : ∃ x, Hid (x = s.xs[t]) := ⟨s.xs[t], (rfl : s.xs[t] = _)⟩
          have HNX : Hid (fstV (rowsOf ls) (((rowsOf ls).take k).flatten ++ s.xs.take (t + 1)) = fstS (rowsOf ls) (o, dd) x) := by
            unfold Hid
            rw [ft_next htl, HXX.out, HE.out]
          rw [← HXX.out] at HX
          have HAK := alike_spec ls x (some ⟨b1, off1, none⟩) lc wr (HL.out.kept HJ.out.g.1)
          obtain ⟨y0, y1, y2, y3⟩ := HX.out _ HJ.out.g.1
          clear hck hc2 ha2 HC1
          cases hal : alikeB (rowsOf ls) x
          · rw [hal] at HAK
            go_wp2_with fail
            refine HAK.mono ?_
            rintro e w1 ⟨rfl, hb1⟩
            have HJ1 : Hid (RR w g a cap p cp o dd (.slice oa o.length oc) q c w1) := HJ.out.on hb1
            clear hb1 HJ y0 y1 y2 y3 HAK
            obtain ⟨y0, y1, y2, y3⟩ := HX.out _ HJ1.out.g.1
            go_wp2_with fail
            refine (set_spec dd x.id q c (w.heap.size + 1) w1 HJ1.out.ids (by omega) HJ1.out.g.lt).mono ?_
            rintro e w2 ⟨q2, c2, rfl, ho2, hb2⟩
            have HJ2 : Hid (RR w g a cap p cp o (setN dd x.id) (.slice oa o.length oc) q2 c2 w2) := ⟨HJ1.out.g.on hb2, HJ1.out.out.kept hb2, ho2⟩
            clear ho2 hb2 HJ1 y0 y1 y2 y3
            go_wp2
            go_roundw
            case rel => exact ⟨t + 1, q2, c2, oa, oc, o, setN dd x.id, by omega, by go_num, rfl, rfl, (by rw [HNX.out, fstS_no hal] : _ = _), HJ2⟩
            case measure => simp [intOf]; omega
          · rw [hal] at HAK
            go_wp2_with fail
            refine HAK.mono ?_
            rintro e w1 ⟨rfl, hb1⟩
            have HJ1 : Hid (RR w g a cap p cp o dd (.slice oa o.length oc) q c w1) := HJ.out.on hb1
            clear hb1 HJ y0 y1 y2 y3 HAK
            obtain ⟨y0, y1, y2, y3⟩ := HX.out _ HJ1.out.g.1
            have HOA : Hid (EnsAt w1 oa o) := by
              obtain ⟨a', c', e', _, hat, -⟩ := HJ1.out.out.at (by omega)
              cases e'
              exact hat
            go_wp2_with fail
            refine (put_spec o x oa oc w1 HOA.out (by omega)).mono ?_
            rintro e w2 ⟨v2, rfl, ho2, hb2⟩
            have hpl := putE_length o x
            obtain ⟨oa2, oc2, rfl, -, -, -⟩ := ho2.at (by omega)
            have HJ2 : Hid (RR w g a cap p cp (putE o x) dd (.slice oa2 (putE o x).length oc2) q c w2) := ⟨HJ1.out.g.on hb2, owns_baseC ho2 HJ1.out.g.lt, HJ1.out.ids.kept hb2⟩
            clear ho2 hb2 HJ1 y0 y1 y2 y3 hpl HOA
            go_wp2
            go_roundw
            case rel => exact ⟨t + 1, q, c, oa2, oc2, putE o x, dd, by omega, by go_num, rfl, rfl, (by rw [HNX.out, fstS_yes hal] : _ = _), HJ2⟩
            case measure => simp [intOf]; omega
        · have HNX : Hid ((o, dd) = fstV (rowsOf ls) ((rowsOf ls).take (k + 1)).flatten) := by
            unfold Hid
            rw [pre_next hlt, ← HSS.out, HE.out, List.take_of_length_le (l := s.xs) (by omega)]
          go_wp2
          go_roundw
          case rel => exact ⟨k + 1, q, c, oa, oc, o, dd, by omega, by go_num, rfl, rfl, HNX, HJ⟩
          case measure => simp [intOf]; omega
    · have HNX : Hid ((o, dd) = fstV (rowsOf ls) (rowsOf ls).flatten) := by
        have := HE.out
        rwa [List.take_of_length_le (by simp [rowsOf]; omega)] at this
      have HO : Hid (o = agrR (rowsOf ls)) := by have := HFS.out.1; rw [← HNX.out] at this; exact this
      have HD : Hid (RisesI dd ∧ ∀ n, n ∈ dd ↔ Disp (rowsOf ls) n) := by have := HFS.out.2; rw [← HNX.out] at this; exact this
      have HLN : Hid (o.length ≤ 800000 ∧ dd.length ≤ 800000) := by have := HFL.out; rw [← HNX.out] at this; exact this
      have hdl := HLN.out.2
      have HI0 : Hid (RR w g a cap p cp o dd (.slice oa o.length oc) q c (wr.alloc (.cells #[] 2)) ∧ NumsOwn (wr.alloc (.cells #[] 2)) (w.heap.size + 1) (.slice (some ⟨wr.heap.size, 0, none⟩) 0 0) []) := ⟨HI.out.on ((Below.refl _ _).alloc (Nat.le_refl _) _), NumsOwn.made wr HI.out.g.lt⟩
      clear HE HNX HFS HFL HI
      go_wp2
      go_loopw [11, 12, 13, 14] (fun l0 i _ _ wr => ∃ (i' q2 c2 : Nat) (l : List Int), i' ≤ dd.length ∧ i = .int .i64 i' ∧ l0 = .slice (some ⟨q2, 0, none⟩) l.length c2 ∧ Hid (InOrd (lessE g.evs (dpI g ds)) (dd.take i') l ∧ l.length = i') ∧ Hid (RR w g a cap p cp o dd (.slice oa o.length oc) q c wr ∧ NumsOwn wr (w.heap.size + 1) (.slice (some ⟨q2, 0, none⟩) l.length c2) l)) (fun _ i _ _ _ => dd.length - (intOf i).toNat)
      case atStart => exact ⟨0, _, 0, [], Nat.zero_le _, rfl, rfl, ⟨⟨List.Pairwise.nil, fun e => by simp⟩, rfl⟩, HI0.out.1, HI0.out.2⟩
      case round =>
        clear HI0
        obtain ⟨i', q2, c2, l, hi', rfl, rfl, HO2, HI⟩ := hrel
        by_cases hlt2 : i' < dd.length
        · have hll2 : l.length ≤ 800000 := by rw [HO2.out.2]; omega
          have hlc : l.length ≤ c2 := by
            obtain ⟨a', c', e', hcl, _⟩ := HI.out.2.at (by omega)
            cases e'
            exact hcl
          obtain ⟨x, HXX⟩ : ∃ x, Hid (x = dd[i']) := ⟨dd[i'], (rfl : dd[i'] = _)⟩
          have HXD : Hid (Disp (rowsOf ls) x) := by rw [HXX.out]; exact (HD.out.2 _).1 (List.getElem_mem hlt2)
          have HIX : Hid (∀ W, RR w g a cap p cp o dd (.slice oa o.length oc) q c W → W.cell? ⟨q, i', none⟩ = some (.int .i64 x)) := fun W hW => by
            obtain ⟨a', c', e', _, hat, -⟩ := hW.ids.at (by omega)
            cases e'
            obtain ⟨b, off, e', _, hc⟩ := hat.2 (by omega)
            cases e'
            have := hc i' hlt2
            rw [Nat.zero_add] at this
            rw [HXX.out]
            exact this
          go_wp2
          go_loopw [13] (fun kk wl => ∃ k : Nat, k ≤ l.length ∧ kk = .int .i64 k ∧ Hid (∀ j (h : j < l.length), k ≤ j → lessE g.evs (dpI g ds) x l[j] = true) ∧ Hid (RR w g a cap p cp o dd (.slice oa o.length oc) q c wl ∧ NumsOwn wl (w.heap.size + 1) (.slice (some ⟨q2, 0, none⟩) l.length c2) l)) (fun kk _ => (intOf kk).toNat)
          case atStart => exact ⟨l.length, Nat.le_refl _, rfl, fun j h hj => by omega, HI⟩
          case round =>
            clear HI
            obtain ⟨k, hk2, rfl, HM, HJ⟩ := hrel
            by_cases hk0 : 0 < k
            · have hk1 : k - 1 < l.length := by omega
              have hkp : ¬ k = 0 := by omega
              obtain ⟨y, HYY⟩ : ∃ y, Hid (y = l[k - 1]) := ⟨l[k - 1], (rfl : l[k - 1] = _)⟩
              have HSR : Hid (∀ W, (RR w g a cap p cp o dd (.slice oa o.length oc) q c W ∧ NumsOwn W (w.heap.size + 1) (.slice (some ⟨q2, 0, none⟩) l.length c2) l) → (fun W => (∀ k, W.cell? ⟨w.heap.size, k, none⟩ = #[.int .i64 g.room, .slice a g.evs.length cap, .slice p g.pk.length cp][k]?) ∧ W.cell? ⟨q, i', none⟩ = some (.int .i64 x) ∧ W.cell? ⟨q2, k - 1, none⟩ = some (.int .i64 y)) W) := fun W hW => by
                refine ⟨fun _ => cell_of_heap hW.1.g.2, HIX.out _ hW.1, ?_⟩
                obtain ⟨a', c', e', _, hat, -⟩ := hW.2.at (by omega)
                cases e'
                obtain ⟨b, off, e', _, hc⟩ := hat.2 (by omega)
                cases e'
                have := hc (k - 1) hk1
                rw [Nat.zero_add] at this
                rw [HYY.out]
                exact this
              have HYD : Hid (Disp (rowsOf ls) y) := by
                have := (HO2.out.1.mem y).1 (by rw [HYY.out]; exact List.getElem_mem hk1)
                exact (HD.out.2 _).1 (List.mem_of_mem_take this)
              have HLS := fun W (hW : Below w.heap.size w W) => meetLess_spec g ds x y (HDS.out _ HXD.out) (HDS.out _ HYD.out) a cap p cp d cd W (HH.out.1.kept hW) (HH.out.2.1.kept hW) HH.out.2.2.1 HH.out.2.2.2
              cases hv : lessE g.evs (dpI g ds) x y
              · rw [hv] at HLS
                go_wp2
                refine wp_region_held_drew (S := (fun W => (∀ k, W.cell? ⟨w.heap.size, k, none⟩ = #[.int .i64 g.room, .slice a g.evs.length cap, .slice p g.pk.length cp][k]?) ∧ W.cell? ⟨q, i', none⟩ = some (.int .i64 x) ∧ W.cell? ⟨q2, k - 1, none⟩ = some (.int .i64 y))) (by kernel_rfl) (HSR.out _ ⟨HJ.out.1.on (Below.refl _ _).drew, HJ.out.2.kept (Below.refl _ _).drew⟩) (fun hHeld => ?_)
                refine wpAnyH_take (i := 0) (v := (.int .i64 k)) rfl (by kernel_rfl) (by kernel_rfl) (by kernel_rfl) (fun _ _ _ h => h) (Or.inl ⟨by kernel_rfl, ?_⟩) hHeld ?_
                · intro W hW
                  go_simp
                refine wpAnyH_take (i := 1) (v := (.bool true)) rfl (by kernel_rfl) (by kernel_rfl) (by kernel_rfl) (fun _ _ _ h => h) (Or.inl ⟨by kernel_rfl, ?_⟩) hHeld ?_
                · intro W hW
                  go_simp
                refine wpAnyH_take (i := 2) (v := (.bool true)) rfl (by kernel_rfl) (by kernel_rfl) (by kernel_rfl) (fun _ _ _ h => h) (Or.inl ⟨by kernel_rfl, ?_⟩) hHeld ?_
                · intro W hW
                  go_simp
                refine wpAnyH_take (i := 3) (v := (.agg #[.int .i64 g.room, .slice a g.evs.length cap, .slice p g.pk.length cp])) rfl (by kernel_rfl) (by kernel_rfl) (by kernel_rfl) (fun _ _ _ h => h) (Or.inl ⟨by kernel_rfl, ?_⟩) hHeld ?_
                · intro W hW
                  obtain ⟨x0, x1, x2⟩ := hW
                  go_simp
                refine wpAnyH_take (i := 4) (v := (.slice d ds.length cd)) rfl (by kernel_rfl) (by kernel_rfl) (by kernel_rfl) (fun _ _ _ h => h) (Or.inl ⟨by kernel_rfl, ?_⟩) hHeld ?_
                · intro W hW
                  go_simp
                refine wpAnyH_take (i := 5) (v := (.slice (some ⟨q, 0, none⟩) dd.length c)) rfl (by kernel_rfl) (by kernel_rfl) (by kernel_rfl) (fun _ _ _ h => h) (Or.inl ⟨by kernel_rfl, ?_⟩) hHeld ?_
                · intro W hW
                  go_simp
                refine wpAnyH_take (i := 6) (v := (.int .i64 i')) rfl (by kernel_rfl) (by kernel_rfl) (by kernel_rfl) (fun _ _ _ h => h) (Or.inl ⟨by kernel_rfl, ?_⟩) hHeld ?_
                · intro W hW
                  go_simp
                refine wpAnyH_take (i := 7) (v := (.pointer (some ⟨q, i', none⟩))) rfl (by kernel_rfl) (by kernel_rfl) (by kernel_rfl) (fun _ _ _ h => h) (Or.inl ⟨by kernel_rfl, ?_⟩) hHeld ?_
                · intro W hW
                  go_simp
                refine wpAnyH_take (i := 8) (v := (.int .i64 x)) rfl (by kernel_rfl) (by kernel_rfl) (by kernel_rfl) (fun _ _ _ h => h) (Or.inl ⟨by kernel_rfl, ?_⟩) hHeld ?_
                · intro W hW
                  obtain ⟨x0, x1, x2⟩ := hW
                  go_simp
                refine wpAnyH_take (i := 9) (v := (.slice (some ⟨q2, 0, none⟩) l.length c2)) rfl (by kernel_rfl) (by kernel_rfl) (by kernel_rfl) (fun _ _ _ h => h) (Or.inl ⟨by kernel_rfl, ?_⟩) hHeld ?_
                · intro W hW
                  go_simp
                refine wpAnyH_take (i := 10) (v := (.int .i64 k)) rfl (by kernel_rfl) (by kernel_rfl) (by kernel_rfl) (fun _ _ _ h => h) (Or.inl ⟨by kernel_rfl, ?_⟩) hHeld ?_
                · intro W hW
                  go_simp
                refine wpAnyH_take (i := 11) (v := (.int .i64 (k - 1 : Nat))) rfl (by kernel_rfl) (by kernel_rfl) (by kernel_rfl) (fun _ _ _ h => h) (Or.inl ⟨by kernel_rfl, ?_⟩) hHeld ?_
                · intro W hW
                  go_simp
                  rw [IntKind.wrap_i64]
                  omega
                refine wpAnyH_take (i := 12) (v := (.pointer (some ⟨q2, k - 1, none⟩))) rfl (by kernel_rfl) (by kernel_rfl) (by kernel_rfl) (fun _ _ _ h => h) (Or.inl ⟨by kernel_rfl, ?_⟩) hHeld ?_
                · intro W hW
                  go_simp
                refine wpAnyH_take (i := 13) (v := (.int .i64 y)) rfl (by kernel_rfl) (by kernel_rfl) (by kernel_rfl) (fun _ _ _ h => h) (Or.inl ⟨by kernel_rfl, ?_⟩) hHeld ?_
                · intro W hW
                  obtain ⟨x0, x1, x2⟩ := hW
                  go_simp
                refine wpAnyH_ready (rs := [14]) (by kernel_rfl) (by simp) ?_
                refine AllReadyH.cons rfl (fun K hK => ?_) AllReadyH.nil
                go_simp
                refine (HLS _ (HJ.out.1.on (Below.refl _ _).drew).g.1).mono ?_
                rintro e w1 ⟨rfl, hb1⟩
                have HJ1 : Hid (RR w g a cap p cp o dd (.slice oa o.length oc) q c w1 ∧ NumsOwn w1 (w.heap.size + 1) (.slice (some ⟨q2, 0, none⟩) l.length c2) l) := ⟨(HJ.out.1.on (Below.refl _ _).drew).on hb1, (HJ.out.2.kept (Below.refl _ _).drew).kept hb1⟩
                clear hb1
                refine hK.out _ _ (HSR.out _ HJ1.out) (fun hH2 => ?_)
                clear hK K
                refine wpAnyH_take (i := 15) (v := (.bool false)) rfl (by kernel_rfl) (by kernel_rfl) (by kernel_rfl) (fun _ _ _ h => h) (Or.inl ⟨by kernel_rfl, ?_⟩) hH2 ?_
                · intro W hW
                  go_simp
                refine wpAnyH_done (by kernel_rfl) ?_ _
                clear hH2 hHeld HJ HSR
                have HST : Hid (Stops (lessE g.evs (dpI g ds)) l x k) := ⟨hk2, HM.out, fun _ h2 => by rw [← HYY.out]; exact hv⟩
                clear HLS HM
                have HAT : Hid (∀ W, Below w1.heap.size w1 W → NumsAt W (some ⟨q2, 0, none⟩) l) := fun W hW => by
                  obtain ⟨a', c', e', _, hat, -⟩ := HJ1.out.2.at (by omega)
                  cases e'
                  exact hat.kept hW
                have HCX : Hid (∀ W, Below w1.heap.size w1 W → W.cell? ⟨q, i', none⟩ = some (.int .i64 x)) := fun W hW => HIX.out _ (HJ1.out.1.on hW)
                have HM : Hid (NumsOwn (w1.alloc (.cells #[] 2)) w1.heap.size (.slice (some ⟨w1.heap.size, 0, none⟩) 0 0) [] ∧ Below w1.heap.size w1 (w1.alloc (.cells #[] 2))) := ⟨NumsOwn.made _ (Nat.le_refl _), (Below.refl _ _).alloc (Nat.le_refl _) _⟩
                have HMO : Hid (InOrd (lessE g.evs (dpI g ds)) (dd.take (i' + 1)) (l.take k ++ x :: l.drop k) ∧ (l.take k ++ x :: l.drop k).length = i' + 1) := mid_ord HOR.out HD.out.1 (fun z hz => (HD.out.2 z).1 hz) hlt2 HO2.out.1 HO2.out.2 HXX.out HST.out
                have HBS : Hid (w.heap.size + 1 ≤ w1.heap.size) := HJ1.out.1.g.lt
                have htk : (l.take k).length = k := by simp; omega
                have hdk : (l.drop k).length = l.length - k := by simp
                clear HST
                by_cases hfull : k = c2
                · subst hfull
                  have hck : k - k = 0 := by omega
                  go_wp2_with (first | (have hq := H2; clear hq; at_builtin; refine wpList_append_ns rfl _ _ 46 rfl i0 _ Tryz.underlying46 hi hz0 hz1 hz2 rfl w1.heap.size _ ([] ++ l.take k ++ [x]) rfl H2.out.1 (some ⟨q2, 0, none⟩) 0 (l.drop k) (by rw [List.drop_eq_nil_of_le (by omega)]; exact NumsAt.empty _) (by rw [hdk, show l.length - k = 0 by omega]; rfl) (by simp; omega) (by omega) ?_; intro v5 w5 hO hb; have H3 : Hid (NumsOwn w5 w1.heap.size v5 ([] ++ l.take k ++ [x] ++ l.drop k) ∧ Below w1.heap.size w1 w5) := ⟨hO, H2.out.2.trans hb⟩; clear hO hb) | (have hq := H1; clear hq; at_builtin; refine wpList_append_ns rfl _ _ 46 rfl i0 _ Tryz.underlying46 hi hz0 hz1 hz2 rfl w1.heap.size _ ([] ++ l.take k) rfl (HA3.out _).1 _ _ [x] (numsAt_one (MapKept.heap_alloc _ _).1) rfl (by simp; omega) (by simp; omega) ?_; intro v4 w4 hO hb; have H2 : Hid (NumsOwn w4 w1.heap.size v4 ([] ++ l.take k ++ [x]) ∧ Below w1.heap.size w1 w4) := ⟨hO, (HA3.out _).2.trans hb⟩; have hs4 := H2.out.2.size; clear hO hb) | (at_builtin; refine wpList_append_ns rfl _ _ 46 rfl i0 _ Tryz.underlying46 hi hz0 hz1 hz2 rfl w1.heap.size _ [] rfl HM.out.1 (some ⟨q2, 0, none⟩) k (l.take k) ((HAT.out _ HM.out.2).take k) (by rw [htk]; rfl) (by simp; omega) (by simp) ?_; intro v3 w3 hO hb; have H1 : Hid (NumsOwn w3 w1.heap.size v3 ([] ++ l.take k) ∧ Below w1.heap.size w1 w3) := ⟨hO, HM.out.2.trans hb⟩; have hs3 := H1.out.2.size; have hcx3 := HCX.out _ H1.out.2; have HA3 : Hid (∀ o, NumsOwn (w3.alloc o) w1.heap.size v3 ([] ++ l.take k) ∧ Below w1.heap.size w1 (w3.alloc o)) := fun o => ⟨H1.out.1.kept ((Below.refl _ _).alloc (Nat.le_refl _) _), H1.out.2.alloc H1.out.2.size _⟩; clear hO hb))
                  obtain ⟨q5, c5, rfl, ho5⟩ := mid_next H3.out.1 HBS.out
                  go_roundw
                  case rel => exact ⟨i' + 1, q5, c5, l.take k ++ x :: l.drop k, by omega, by go_num, rfl, HMO.out, HJ1.out.1.on H3.out.2, ho5⟩
                  case measure => simp [intOf]; omega
                · have hck : ¬ c2 - k = 0 := by omega
                  go_wp2_with (first | (have hq := H2; clear hq; at_builtin; refine wpList_append_ns rfl _ _ 46 rfl i0 _ Tryz.underlying46 hi hz0 hz1 hz2 rfl w1.heap.size _ ([] ++ l.take k ++ [x]) rfl H2.out.1 (some ⟨q2, k, none⟩) (c2 - k) (l.drop k) (by have := (HAT.out _ H2.out.2).drop k; rwa [Nat.zero_add] at this) (by rw [hdk]; rfl) (by simp; omega) (by omega) ?_; intro v5 w5 hO hb; have H3 : Hid (NumsOwn w5 w1.heap.size v5 ([] ++ l.take k ++ [x] ++ l.drop k) ∧ Below w1.heap.size w1 w5) := ⟨hO, H2.out.2.trans hb⟩; clear hO hb) | (have hq := H1; clear hq; at_builtin; refine wpList_append_ns rfl _ _ 46 rfl i0 _ Tryz.underlying46 hi hz0 hz1 hz2 rfl w1.heap.size _ ([] ++ l.take k) rfl (HA3.out _).1 _ _ [x] (numsAt_one (MapKept.heap_alloc _ _).1) rfl (by simp; omega) (by simp; omega) ?_; intro v4 w4 hO hb; have H2 : Hid (NumsOwn w4 w1.heap.size v4 ([] ++ l.take k ++ [x]) ∧ Below w1.heap.size w1 w4) := ⟨hO, (HA3.out _).2.trans hb⟩; have hs4 := H2.out.2.size; clear hO hb) | (at_builtin; refine wpList_append_ns rfl _ _ 46 rfl i0 _ Tryz.underlying46 hi hz0 hz1 hz2 rfl w1.heap.size _ [] rfl HM.out.1 (some ⟨q2, 0, none⟩) c2 (l.take k) ((HAT.out _ HM.out.2).take k) (by rw [htk]; rfl) (by simp; omega) (by simp) ?_; intro v3 w3 hO hb; have H1 : Hid (NumsOwn w3 w1.heap.size v3 ([] ++ l.take k) ∧ Below w1.heap.size w1 w3) := ⟨hO, HM.out.2.trans hb⟩; have hs3 := H1.out.2.size; have hcx3 := HCX.out _ H1.out.2; have HA3 : Hid (∀ o, NumsOwn (w3.alloc o) w1.heap.size v3 ([] ++ l.take k) ∧ Below w1.heap.size w1 (w3.alloc o)) := fun o => ⟨H1.out.1.kept ((Below.refl _ _).alloc (Nat.le_refl _) _), H1.out.2.alloc H1.out.2.size _⟩; clear hO hb))
                  obtain ⟨q5, c5, rfl, ho5⟩ := mid_next H3.out.1 HBS.out
                  go_roundw
                  case rel => exact ⟨i' + 1, q5, c5, l.take k ++ x :: l.drop k, by omega, by go_num, rfl, HMO.out, HJ1.out.1.on H3.out.2, ho5⟩
                  case measure => simp [intOf]; omega
              · rw [hv] at HLS
                go_wp2
                refine wp_region_held_drew (S := (fun W => (∀ k, W.cell? ⟨w.heap.size, k, none⟩ = #[.int .i64 g.room, .slice a g.evs.length cap, .slice p g.pk.length cp][k]?) ∧ W.cell? ⟨q, i', none⟩ = some (.int .i64 x) ∧ W.cell? ⟨q2, k - 1, none⟩ = some (.int .i64 y))) (by kernel_rfl) (HSR.out _ ⟨HJ.out.1.on (Below.refl _ _).drew, HJ.out.2.kept (Below.refl _ _).drew⟩) (fun hHeld => ?_)
                refine wpAnyH_take (i := 0) (v := (.int .i64 k)) rfl (by kernel_rfl) (by kernel_rfl) (by kernel_rfl) (fun _ _ _ h => h) (Or.inl ⟨by kernel_rfl, ?_⟩) hHeld ?_
                · intro W hW
                  go_simp
                refine wpAnyH_take (i := 1) (v := (.bool true)) rfl (by kernel_rfl) (by kernel_rfl) (by kernel_rfl) (fun _ _ _ h => h) (Or.inl ⟨by kernel_rfl, ?_⟩) hHeld ?_
                · intro W hW
                  go_simp
                refine wpAnyH_take (i := 2) (v := (.bool true)) rfl (by kernel_rfl) (by kernel_rfl) (by kernel_rfl) (fun _ _ _ h => h) (Or.inl ⟨by kernel_rfl, ?_⟩) hHeld ?_
                · intro W hW
                  go_simp
                refine wpAnyH_take (i := 3) (v := (.agg #[.int .i64 g.room, .slice a g.evs.length cap, .slice p g.pk.length cp])) rfl (by kernel_rfl) (by kernel_rfl) (by kernel_rfl) (fun _ _ _ h => h) (Or.inl ⟨by kernel_rfl, ?_⟩) hHeld ?_
                · intro W hW
                  obtain ⟨x0, x1, x2⟩ := hW
                  go_simp
                refine wpAnyH_take (i := 4) (v := (.slice d ds.length cd)) rfl (by kernel_rfl) (by kernel_rfl) (by kernel_rfl) (fun _ _ _ h => h) (Or.inl ⟨by kernel_rfl, ?_⟩) hHeld ?_
                · intro W hW
                  go_simp
                refine wpAnyH_take (i := 5) (v := (.slice (some ⟨q, 0, none⟩) dd.length c)) rfl (by kernel_rfl) (by kernel_rfl) (by kernel_rfl) (fun _ _ _ h => h) (Or.inl ⟨by kernel_rfl, ?_⟩) hHeld ?_
                · intro W hW
                  go_simp
                refine wpAnyH_take (i := 6) (v := (.int .i64 i')) rfl (by kernel_rfl) (by kernel_rfl) (by kernel_rfl) (fun _ _ _ h => h) (Or.inl ⟨by kernel_rfl, ?_⟩) hHeld ?_
                · intro W hW
                  go_simp
                refine wpAnyH_take (i := 7) (v := (.pointer (some ⟨q, i', none⟩))) rfl (by kernel_rfl) (by kernel_rfl) (by kernel_rfl) (fun _ _ _ h => h) (Or.inl ⟨by kernel_rfl, ?_⟩) hHeld ?_
                · intro W hW
                  go_simp
                refine wpAnyH_take (i := 8) (v := (.int .i64 x)) rfl (by kernel_rfl) (by kernel_rfl) (by kernel_rfl) (fun _ _ _ h => h) (Or.inl ⟨by kernel_rfl, ?_⟩) hHeld ?_
                · intro W hW
                  obtain ⟨x0, x1, x2⟩ := hW
                  go_simp
                refine wpAnyH_take (i := 9) (v := (.slice (some ⟨q2, 0, none⟩) l.length c2)) rfl (by kernel_rfl) (by kernel_rfl) (by kernel_rfl) (fun _ _ _ h => h) (Or.inl ⟨by kernel_rfl, ?_⟩) hHeld ?_
                · intro W hW
                  go_simp
                refine wpAnyH_take (i := 10) (v := (.int .i64 k)) rfl (by kernel_rfl) (by kernel_rfl) (by kernel_rfl) (fun _ _ _ h => h) (Or.inl ⟨by kernel_rfl, ?_⟩) hHeld ?_
                · intro W hW
                  go_simp
                refine wpAnyH_take (i := 11) (v := (.int .i64 (k - 1 : Nat))) rfl (by kernel_rfl) (by kernel_rfl) (by kernel_rfl) (fun _ _ _ h => h) (Or.inl ⟨by kernel_rfl, ?_⟩) hHeld ?_
                · intro W hW
                  go_simp
                  rw [IntKind.wrap_i64]
                  omega
                refine wpAnyH_take (i := 12) (v := (.pointer (some ⟨q2, k - 1, none⟩))) rfl (by kernel_rfl) (by kernel_rfl) (by kernel_rfl) (fun _ _ _ h => h) (Or.inl ⟨by kernel_rfl, ?_⟩) hHeld ?_
                · intro W hW
                  go_simp
                refine wpAnyH_take (i := 13) (v := (.int .i64 y)) rfl (by kernel_rfl) (by kernel_rfl) (by kernel_rfl) (fun _ _ _ h => h) (Or.inl ⟨by kernel_rfl, ?_⟩) hHeld ?_
                · intro W hW
                  obtain ⟨x0, x1, x2⟩ := hW
                  go_simp
                refine wpAnyH_ready (rs := [14]) (by kernel_rfl) (by simp) ?_
                refine AllReadyH.cons rfl (fun K hK => ?_) AllReadyH.nil
                go_simp
                refine (HLS _ (HJ.out.1.on (Below.refl _ _).drew).g.1).mono ?_
                rintro e w1 ⟨rfl, hb1⟩
                have HJ1 : Hid (RR w g a cap p cp o dd (.slice oa o.length oc) q c w1 ∧ NumsOwn w1 (w.heap.size + 1) (.slice (some ⟨q2, 0, none⟩) l.length c2) l) := ⟨(HJ.out.1.on (Below.refl _ _).drew).on hb1, (HJ.out.2.kept (Below.refl _ _).drew).kept hb1⟩
                clear hb1
                refine hK.out _ _ (HSR.out _ HJ1.out) (fun hH2 => ?_)
                clear hK K
                refine wpAnyH_take (i := 15) (v := (.bool true)) rfl (by kernel_rfl) (by kernel_rfl) (by kernel_rfl) (fun _ _ _ h => h) (Or.inl ⟨by kernel_rfl, ?_⟩) hH2 ?_
                · intro W hW
                  go_simp
                refine wpAnyH_done (by kernel_rfl) ?_ _
                clear hH2 hHeld HJ HSR
                have HM2 : Hid (∀ j (h : j < l.length), k - 1 ≤ j → lessE g.evs (dpI g ds) x l[j] = true) := fun j h hj => by
                  by_cases e : j = k - 1
                  · subst e
                    rw [← HYY.out]
                    exact hv
                  · exact HM.out j h (by omega)
                go_wp2
                go_roundw
                case rel => exact ⟨k - 1, by omega, by go_num, HM2, HJ1⟩
                case measure => simp [intOf]; omega
            · have HST : Hid (Stops (lessE g.evs (dpI g ds)) l x k) := ⟨hk2, HM.out, fun h _ => absurd h hk0⟩
              have HJ1 : Hid (RR w g a cap p cp o dd (.slice oa o.length oc) q c wr.drew ∧ NumsOwn wr.drew (w.heap.size + 1) (.slice (some ⟨q2, 0, none⟩) l.length c2) l) := ⟨HJ.out.1.on (Below.refl _ _).drew, HJ.out.2.kept (Below.refl _ _).drew⟩
              have hdk0 : decide (0 < (k : Int)) = false := decide_eq_false (by omega)
              clear HM HJ
              go_wp2
              refine wp_region_held_drew (S := (fun _ => True)) (by kernel_rfl) trivial (fun hHeld => ?_)
              refine wpAnyH_take (i := 0) (v := (.int .i64 k)) rfl (by kernel_rfl) (by kernel_rfl) (by kernel_rfl) (fun _ _ _ h => h) (Or.inl ⟨by kernel_rfl, ?_⟩) hHeld ?_
              · intro W hW
                go_simp
              refine wpAnyH_take (i := 1) (v := (.bool false)) rfl (by kernel_rfl) (by kernel_rfl) (by kernel_rfl) (fun _ _ _ h => h) (Or.inl ⟨by kernel_rfl, ?_⟩) hHeld ?_
              · intro W hW
                go_simp
              refine wpAnyH_take (i := 2) (v := (.bool false)) rfl (by kernel_rfl) (by kernel_rfl) (by kernel_rfl) (fun _ _ _ h => h) (Or.inl ⟨by kernel_rfl, ?_⟩) hHeld ?_
              · intro W hW
                go_simp
              refine wpAnyH_take (i := 3) (v := undef) rfl (by kernel_rfl) (by kernel_rfl) (by kernel_rfl) (fun _ _ _ h => h) (Or.inr ⟨by kernel_rfl, rfl⟩) hHeld ?_
              refine wpAnyH_take (i := 4) (v := undef) rfl (by kernel_rfl) (by kernel_rfl) (by kernel_rfl) (fun _ _ _ h => h) (Or.inr ⟨by kernel_rfl, rfl⟩) hHeld ?_
              refine wpAnyH_take (i := 5) (v := undef) rfl (by kernel_rfl) (by kernel_rfl) (by kernel_rfl) (fun _ _ _ h => h) (Or.inr ⟨by kernel_rfl, rfl⟩) hHeld ?_
              refine wpAnyH_take (i := 6) (v := undef) rfl (by kernel_rfl) (by kernel_rfl) (by kernel_rfl) (fun _ _ _ h => h) (Or.inr ⟨by kernel_rfl, rfl⟩) hHeld ?_
              refine wpAnyH_take (i := 7) (v := undef) rfl (by kernel_rfl) (by kernel_rfl) (by kernel_rfl) (fun _ _ _ h => h) (Or.inr ⟨by kernel_rfl, rfl⟩) hHeld ?_
              refine wpAnyH_take (i := 8) (v := undef) rfl (by kernel_rfl) (by kernel_rfl) (by kernel_rfl) (fun _ _ _ h => h) (Or.inr ⟨by kernel_rfl, rfl⟩) hHeld ?_
              refine wpAnyH_take (i := 9) (v := undef) rfl (by kernel_rfl) (by kernel_rfl) (by kernel_rfl) (fun _ _ _ h => h) (Or.inr ⟨by kernel_rfl, rfl⟩) hHeld ?_
              refine wpAnyH_take (i := 10) (v := undef) rfl (by kernel_rfl) (by kernel_rfl) (by kernel_rfl) (fun _ _ _ h => h) (Or.inr ⟨by kernel_rfl, rfl⟩) hHeld ?_
              refine wpAnyH_take (i := 11) (v := undef) rfl (by kernel_rfl) (by kernel_rfl) (by kernel_rfl) (fun _ _ _ h => h) (Or.inr ⟨by kernel_rfl, rfl⟩) hHeld ?_
              refine wpAnyH_take (i := 12) (v := undef) rfl (by kernel_rfl) (by kernel_rfl) (by kernel_rfl) (fun _ _ _ h => h) (Or.inr ⟨by kernel_rfl, rfl⟩) hHeld ?_
              refine wpAnyH_take (i := 13) (v := undef) rfl (by kernel_rfl) (by kernel_rfl) (by kernel_rfl) (fun _ _ _ h => h) (Or.inr ⟨by kernel_rfl, rfl⟩) hHeld ?_
              refine wpAnyH_take (i := 14) (v := undef) rfl (by kernel_rfl) (by kernel_rfl) (by kernel_rfl) (fun _ _ _ h => h) (Or.inr ⟨by kernel_rfl, rfl⟩) hHeld ?_
              refine wpAnyH_take (i := 15) (v := (.bool false)) rfl (by kernel_rfl) (by kernel_rfl) (by kernel_rfl) (fun _ _ _ h => h) (Or.inl ⟨by kernel_rfl, ?_⟩) hHeld ?_
              · intro W hW
                go_simp
              refine wpAnyH_done (by kernel_rfl) ?_ _
              simp only [Act.put, List.setIfInBounds_toArray, List.set_cons_zero, List.set_cons_succ, List.getElem_toArray, List.getElem_cons_zero, List.getElem_cons_succ]
              clear hHeld hdk0 hk0
              generalize wr.drew = w1 at HJ1 ⊢
              have HAT : Hid (∀ W, Below w1.heap.size w1 W → NumsAt W (some ⟨q2, 0, none⟩) l) := fun W hW => by
                obtain ⟨a', c', e', _, hat, -⟩ := HJ1.out.2.at (by omega)
                cases e'
                exact hat.kept hW
              have HCX : Hid (∀ W, Below w1.heap.size w1 W → W.cell? ⟨q, i', none⟩ = some (.int .i64 x)) := fun W hW => HIX.out _ (HJ1.out.1.on hW)
              have HM : Hid (NumsOwn (w1.alloc (.cells #[] 2)) w1.heap.size (.slice (some ⟨w1.heap.size, 0, none⟩) 0 0) [] ∧ Below w1.heap.size w1 (w1.alloc (.cells #[] 2))) := ⟨NumsOwn.made _ (Nat.le_refl _), (Below.refl _ _).alloc (Nat.le_refl _) _⟩
              have HMO : Hid (InOrd (lessE g.evs (dpI g ds)) (dd.take (i' + 1)) (l.take k ++ x :: l.drop k) ∧ (l.take k ++ x :: l.drop k).length = i' + 1) := mid_ord HOR.out HD.out.1 (fun z hz => (HD.out.2 z).1 hz) hlt2 HO2.out.1 HO2.out.2 HXX.out HST.out
              have HBS : Hid (w.heap.size + 1 ≤ w1.heap.size) := HJ1.out.1.g.lt
              have htk : (l.take k).length = k := by simp; omega
              have hdk : (l.drop k).length = l.length - k := by simp
              clear HST
              by_cases hfull : k = c2
              · subst hfull
                have hck : k - k = 0 := by omega
                go_wp2_with (first | (have hq := H2; clear hq; at_builtin; refine wpList_append_ns rfl _ _ 46 rfl i0 _ Tryz.underlying46 hi hz0 hz1 hz2 rfl w1.heap.size _ ([] ++ l.take k ++ [x]) rfl H2.out.1 (some ⟨q2, 0, none⟩) 0 (l.drop k) (by rw [List.drop_eq_nil_of_le (by omega)]; exact NumsAt.empty _) (by rw [hdk, show l.length - k = 0 by omega]; rfl) (by simp; omega) (by omega) ?_; intro v5 w5 hO hb; have H3 : Hid (NumsOwn w5 w1.heap.size v5 ([] ++ l.take k ++ [x] ++ l.drop k) ∧ Below w1.heap.size w1 w5) := ⟨hO, H2.out.2.trans hb⟩; clear hO hb) | (have hq := H1; clear hq; at_builtin; refine wpList_append_ns rfl _ _ 46 rfl i0 _ Tryz.underlying46 hi hz0 hz1 hz2 rfl w1.heap.size _ ([] ++ l.take k) rfl (HA3.out _).1 _ _ [x] (numsAt_one (MapKept.heap_alloc _ _).1) rfl (by simp; omega) (by simp; omega) ?_; intro v4 w4 hO hb; have H2 : Hid (NumsOwn w4 w1.heap.size v4 ([] ++ l.take k ++ [x]) ∧ Below w1.heap.size w1 w4) := ⟨hO, (HA3.out _).2.trans hb⟩; have hs4 := H2.out.2.size; clear hO hb) | (at_builtin; refine wpList_append_ns rfl _ _ 46 rfl i0 _ Tryz.underlying46 hi hz0 hz1 hz2 rfl w1.heap.size _ [] rfl HM.out.1 (some ⟨q2, 0, none⟩) k (l.take k) ((HAT.out _ HM.out.2).take k) (by rw [htk]; rfl) (by simp; omega) (by simp) ?_; intro v3 w3 hO hb; have H1 : Hid (NumsOwn w3 w1.heap.size v3 ([] ++ l.take k) ∧ Below w1.heap.size w1 w3) := ⟨hO, HM.out.2.trans hb⟩; have hs3 := H1.out.2.size; have hcx3 := HCX.out _ H1.out.2; have HA3 : Hid (∀ o, NumsOwn (w3.alloc o) w1.heap.size v3 ([] ++ l.take k) ∧ Below w1.heap.size w1 (w3.alloc o)) := fun o => ⟨H1.out.1.kept ((Below.refl _ _).alloc (Nat.le_refl _) _), H1.out.2.alloc H1.out.2.size _⟩; clear hO hb))
                obtain ⟨q5, c5, rfl, ho5⟩ := mid_next H3.out.1 HBS.out
                go_roundw
                case rel => exact ⟨i' + 1, q5, c5, l.take k ++ x :: l.drop k, by omega, by go_num, rfl, HMO.out, HJ1.out.1.on H3.out.2, ho5⟩
                case measure => simp [intOf]; omega
              · have hck : ¬ c2 - k = 0 := by omega
                go_wp2_with (first | (have hq := H2; clear hq; at_builtin; refine wpList_append_ns rfl _ _ 46 rfl i0 _ Tryz.underlying46 hi hz0 hz1 hz2 rfl w1.heap.size _ ([] ++ l.take k ++ [x]) rfl H2.out.1 (some ⟨q2, k, none⟩) (c2 - k) (l.drop k) (by have := (HAT.out _ H2.out.2).drop k; rwa [Nat.zero_add] at this) (by rw [hdk]; rfl) (by simp; omega) (by omega) ?_; intro v5 w5 hO hb; have H3 : Hid (NumsOwn w5 w1.heap.size v5 ([] ++ l.take k ++ [x] ++ l.drop k) ∧ Below w1.heap.size w1 w5) := ⟨hO, H2.out.2.trans hb⟩; clear hO hb) | (have hq := H1; clear hq; at_builtin; refine wpList_append_ns rfl _ _ 46 rfl i0 _ Tryz.underlying46 hi hz0 hz1 hz2 rfl w1.heap.size _ ([] ++ l.take k) rfl (HA3.out _).1 _ _ [x] (numsAt_one (MapKept.heap_alloc _ _).1) rfl (by simp; omega) (by simp; omega) ?_; intro v4 w4 hO hb; have H2 : Hid (NumsOwn w4 w1.heap.size v4 ([] ++ l.take k ++ [x]) ∧ Below w1.heap.size w1 w4) := ⟨hO, (HA3.out _).2.trans hb⟩; have hs4 := H2.out.2.size; clear hO hb) | (at_builtin; refine wpList_append_ns rfl _ _ 46 rfl i0 _ Tryz.underlying46 hi hz0 hz1 hz2 rfl w1.heap.size _ [] rfl HM.out.1 (some ⟨q2, 0, none⟩) c2 (l.take k) ((HAT.out _ HM.out.2).take k) (by rw [htk]; rfl) (by simp; omega) (by simp) ?_; intro v3 w3 hO hb; have H1 : Hid (NumsOwn w3 w1.heap.size v3 ([] ++ l.take k) ∧ Below w1.heap.size w1 w3) := ⟨hO, HM.out.2.trans hb⟩; have hs3 := H1.out.2.size; have hcx3 := HCX.out _ H1.out.2; have HA3 : Hid (∀ o, NumsOwn (w3.alloc o) w1.heap.size v3 ([] ++ l.take k) ∧ Below w1.heap.size w1 (w3.alloc o)) := fun o => ⟨H1.out.1.kept ((Below.refl _ _).alloc (Nat.le_refl _) _), H1.out.2.alloc H1.out.2.size _⟩; clear hO hb))
                obtain ⟨q5, c5, rfl, ho5⟩ := mid_next H3.out.1 HBS.out
                go_roundw
                case rel => exact ⟨i' + 1, q5, c5, l.take k ++ x :: l.drop k, by omega, by go_num, rfl, HMO.out, HJ1.out.1.on H3.out.2, ho5⟩
                case measure => simp [intOf]; omega
        · have HEND : Hid (InOrd (lessE g.evs (dpI g ds)) dd l) := by have := HO2.out.1; rwa [List.take_of_length_le (by omega)] at this
          have HO9 : Hid (RR w g a cap p cp o l (.slice oa o.length oc) q2 c2 wr) := ⟨HI.out.1.g, HI.out.1.out, HI.out.2⟩
          have hll : l.length ≤ 800000 := by rw [HO2.out.2]; omega
          clear HI HO2
          go_wp2
          go_loopw [7, 15, 16] (fun v i _ wr => ∃ (j : Nat) (oa' : Option Addr) (oc' : Nat) (o' : List En), j ≤ l.length ∧ i = .int .i64 j ∧ v = .slice oa' o'.length oc' ∧ Hid (o' = (l.take j).foldl (mtS g.evs) (agrR (rowsOf ls)) ∧ Sc g o') ∧ Hid (RR w g a cap p cp o' l (.slice oa' o'.length oc') q2 c2 wr)) (fun _ i _ _ => l.length - (intOf i).toNat)
          case atStart => exact ⟨0, oa, oc, o, Nat.zero_le _, rfl, rfl, ⟨by rw [List.take_zero]; exact HO.out, by rw [HO.out]; exact sc_agr HG.out.1 HG.out.2⟩, HO9⟩
          case round =>
            clear HO9
            obtain ⟨j, oa', oc', o', hj, rfl, rfl, HOJ, HI⟩ := hrel
            by_cases hlt3 : j < l.length
            · obtain ⟨n, HN⟩ : ∃ n, Hid (n = l[j]) := ⟨l[j], (rfl : l[j] = _)⟩
              have HND : Hid (Disp (rowsOf ls) n) := by rw [HN.out]; exact (HD.out.2 _).1 ((HEND.out.mem _).1 (List.getElem_mem hlt3))
              have HNI0 : Hid (n ∈ idsOf g.evs) := HDS.out _ HND.out
              obtain ⟨kn, hkn, hat, hid⟩ : ∃ kn, ∃ h : kn < g.evs.length, atI (idsOf g.evs) n = kn ∧ g.evs[kn].v.id = n := by
                rcases atI_cases (idsOf g.evs) n with ⟨q, hq, hat, hqq⟩ | ⟨_, hno⟩
                · have hq' : q < g.evs.length := by simpa [idsOf] using hq
                  exact ⟨q, hq', hat, by rw [← hqq]; simp [idsOf]⟩
                · exact absurd HNI0.out hno
              have HEV : Hid (evIn g.evs n = g.evs[kn].v) := by rw [← hid]; exact evIn_some HH.out.2.2.2 (List.getElem_mem hkn)
              obtain ⟨b, off, rfl, -, -⟩ := HH.out.1.row (by omega)
              have HAI := fun W (hW : Below w.heap.size w W) => at_spec g.evs n (some ⟨b, off, none⟩) cap W (HH.out.1.kept hW)
              rw [hat] at HAI
              have HNI : Hid (∀ W, Below w.heap.size w W → _) := fun W hW => (HH.out.1.kept hW).nine hkn
              obtain ⟨v, HV⟩ : ∃ v, Hid (v = g.evs[kn].v) := ⟨_, (rfl : g.evs[kn].v = _)⟩
              obtain ⟨vp, HVP⟩ : ∃ v, Hid (v = g.evs[kn].p) := ⟨_, (rfl : g.evs[kn].p = _)⟩
              obtain ⟨vc, HVC⟩ : ∃ v, Hid (v = g.evs[kn].c) := ⟨_, (rfl : g.evs[kn].c = _)⟩
              have HVE : Hid (evIn g.evs n = v ∧ v.id = n) := by rw [HV.out]; exact ⟨HEV.out, hid⟩
              rw [← HV.out, ← HVP.out, ← HVC.out] at HNI
              clear hat hid HEV HV HVP HVC
              have HS25 : Hid (∀ W, Below wr.heap.size wr W → (fun W => Below w.heap.size w W ∧ (∀ k, W.cell? ⟨w.heap.size, k, none⟩ = #[.int .i64 g.room, .slice (some ⟨b, off, none⟩) g.evs.length cap, .slice p g.pk.length cp][k]?) ∧ W.cell? ⟨q2, j, none⟩ = some (.int .i64 n)) W) := fun W hW => by
                have h1 := HI.out.on hW
                refine ⟨h1.g.1, fun _ => cell_of_heap h1.g.2, ?_⟩
                obtain ⟨a', c', e', _, hat, -⟩ := h1.ids.at (by omega)
                cases e'
                obtain ⟨b', off', e', _, hc⟩ := hat.2 (by omega)
                cases e'
                have := hc j hlt3
                rw [Nat.zero_add] at this
                rw [HN.out]
                exact this
              go_wp2
              go_cut [16] (fun r W => r = .pointer (some ⟨wr.heap.size, 0, none⟩) ∧ W = wr.drew.alloc (.cells #[.int .i64 v.id, .int .i64 v.room, .int .i64 v.author, .int .i64 v.kind, .int .i64 v.key, .int .i64 v.n, .string v.text, .slice vp v.prev.length vc, .int .i64 v.time] 114))
              case first =>
                refine wp_region_held_drew (S := (fun W => Below w.heap.size w W ∧ (∀ k, W.cell? ⟨w.heap.size, k, none⟩ = #[.int .i64 g.room, .slice (some ⟨b, off, none⟩) g.evs.length cap, .slice p g.pk.length cp][k]?) ∧ W.cell? ⟨q2, j, none⟩ = some (.int .i64 n))) (by kernel_rfl) (HS25.out _ (Below.refl _ _).drew) (fun hHeld => ?_)
                refine wpAnyH_take (i := 0) (v := (.pointer (some ⟨w.heap.size, 1, none⟩))) rfl (by kernel_rfl) (by kernel_rfl) (by kernel_rfl) (fun _ _ _ h => h) (Or.inl ⟨by kernel_rfl, ?_⟩) hHeld ?_
                · intro W hW
                  go_simp
                refine wpAnyH_take (i := 1) (v := (.slice (some ⟨b, off, none⟩) g.evs.length cap)) rfl (by kernel_rfl) (by kernel_rfl) (by kernel_rfl) (fun _ _ _ h => h) (Or.inl ⟨by kernel_rfl, ?_⟩) hHeld ?_
                · intro W hW
                  obtain ⟨xb, x0, x1⟩ := hW
                  go_simp
                refine wpAnyH_take (i := 2) (v := (.pointer (some ⟨w.heap.size, 1, none⟩))) rfl (by kernel_rfl) (by kernel_rfl) (by kernel_rfl) (fun _ _ _ h => h) (Or.inl ⟨by kernel_rfl, ?_⟩) hHeld ?_
                · intro W hW
                  go_simp
                refine wpAnyH_take (i := 3) (v := (.slice (some ⟨b, off, none⟩) g.evs.length cap)) rfl (by kernel_rfl) (by kernel_rfl) (by kernel_rfl) (fun _ _ _ h => h) (Or.inl ⟨by kernel_rfl, ?_⟩) hHeld ?_
                · intro W hW
                  obtain ⟨xb, x0, x1⟩ := hW
                  go_simp
                refine wpAnyH_take (i := 4) (v := (.slice (some ⟨q2, 0, none⟩) l.length c2)) rfl (by kernel_rfl) (by kernel_rfl) (by kernel_rfl) (fun _ _ _ h => h) (Or.inl ⟨by kernel_rfl, ?_⟩) hHeld ?_
                · intro W hW
                  go_simp
                refine wpAnyH_take (i := 5) (v := (.int .i64 j)) rfl (by kernel_rfl) (by kernel_rfl) (by kernel_rfl) (fun _ _ _ h => h) (Or.inl ⟨by kernel_rfl, ?_⟩) hHeld ?_
                · intro W hW
                  go_simp
                refine wpAnyH_take (i := 6) (v := (.pointer (some ⟨q2, j, none⟩))) rfl (by kernel_rfl) (by kernel_rfl) (by kernel_rfl) (fun _ _ _ h => h) (Or.inl ⟨by kernel_rfl, ?_⟩) hHeld ?_
                · intro W hW
                  go_simp
                refine wpAnyH_take (i := 7) (v := (.int .i64 n)) rfl (by kernel_rfl) (by kernel_rfl) (by kernel_rfl) (fun _ _ _ h => h) (Or.inl ⟨by kernel_rfl, ?_⟩) hHeld ?_
                · intro W hW
                  obtain ⟨xb, x0, x1⟩ := hW
                  go_simp
                refine wpAnyH_ready (rs := [8, 11]) (by kernel_rfl) (by simp) ?_
                refine AllReadyH.cons rfl (fun K hK => ?_) (AllReadyH.cons rfl (fun K hK => ?_) AllReadyH.nil)
                · go_simp
                  refine (HAI _ (HS25.out _ (Below.refl _ _).drew).1).mono ?_
                  rintro e w1 ⟨rfl, rfl⟩
                  refine hK.out _ _ (HS25.out _ (Below.refl _ _).drew) (fun hH2 => ?_)
                  clear hK K
                  refine wpAnyH_take (i := 9) (v := (.pointer (some ⟨b, off + kn * 9, none⟩))) rfl (by kernel_rfl) (by kernel_rfl) (by kernel_rfl) (fun _ _ _ h => h) (Or.inl ⟨by kernel_rfl, ?_⟩) hH2 ?_
                  · intro W hW
                    go_simp
                  refine wpAnyH_take (i := 10) (v := (.agg #[.int .i64 v.id, .int .i64 v.room, .int .i64 v.author, .int .i64 v.kind, .int .i64 v.key, .int .i64 v.n, .string v.text, .slice vp v.prev.length vc, .int .i64 v.time])) rfl (by kernel_rfl) (by kernel_rfl) (by kernel_rfl) (fun _ _ _ h => h) (Or.inl ⟨by kernel_rfl, ?_⟩) hH2 ?_
                  · intro W hW
                    obtain ⟨f0, f1, f2, f3, f4, f5, f6, f7, f8⟩ := HNI.out W hW.1
                    go_simp
                  refine wpAnyH_ready (rs := [11]) (by kernel_rfl) (by simp) ?_
                  refine AllReadyH.cons rfl (fun K hK => ?_) AllReadyH.nil
                  go_simp
                  refine hK.out _ _ (HS25.out _ ((Below.refl _ _).drew.alloc (by simp) _)) (fun _ => ?_)
                  clear hK K
                  refine wpAnyH_ready (rs := [12]) (by kernel_rfl) (by simp) ?_
                  refine AllReadyH.cons rfl (fun K hK => ?_) AllReadyH.nil
                  go_simp
                  refine hK.out _ _ (HS25.out _ ((Below.refl _ _).drew.alloc (by simp) _)) (fun _ => ?_)
                  clear hK K
                  refine wpAnyH_done (by kernel_rfl) ?_ _
                  go_wp2
                  go_meet
                  case rel => exact ⟨rfl, rfl⟩
                · go_simp
                  refine hK.out _ _ (HS25.out _ ((Below.refl _ _).drew.alloc (by simp) _)) (fun hH2 => ?_)
                  clear hK K
                  refine wpAnyH_ready (rs := [8]) (by kernel_rfl) (by simp) ?_
                  refine AllReadyH.cons rfl (fun K hK => ?_) AllReadyH.nil
                  go_simp
                  refine (HAI _ (HS25.out _ ((Below.refl _ _).drew.alloc (by simp) _)).1).mono ?_
                  rintro e w1 ⟨rfl, rfl⟩
                  refine hK.out _ _ (HS25.out _ ((Below.refl _ _).drew.alloc (by simp) _)) (fun hH3 => ?_)
                  clear hK K
                  refine wpAnyH_take (i := 9) (v := (.pointer (some ⟨b, off + kn * 9, none⟩))) rfl (by kernel_rfl) (by kernel_rfl) (by kernel_rfl) (fun _ _ _ h => h) (Or.inl ⟨by kernel_rfl, ?_⟩) hH3 ?_
                  · intro W hW
                    go_simp
                  refine wpAnyH_take (i := 10) (v := (.agg #[.int .i64 v.id, .int .i64 v.room, .int .i64 v.author, .int .i64 v.kind, .int .i64 v.key, .int .i64 v.n, .string v.text, .slice vp v.prev.length vc, .int .i64 v.time])) rfl (by kernel_rfl) (by kernel_rfl) (by kernel_rfl) (fun _ _ _ h => h) (Or.inl ⟨by kernel_rfl, ?_⟩) hH3 ?_
                  · intro W hW
                    obtain ⟨f0, f1, f2, f3, f4, f5, f6, f7, f8⟩ := HNI.out W hW.1
                    go_simp
                  refine wpAnyH_ready (rs := [12]) (by kernel_rfl) (by simp) ?_
                  refine AllReadyH.cons rfl (fun K hK => ?_) AllReadyH.nil
                  go_simp
                  refine hK.out _ _ (HS25.out _ ((Below.refl _ _).drew.alloc (by simp) _)) (fun _ => ?_)
                  clear hK K
                  refine wpAnyH_done (by kernel_rfl) ?_ _
                  go_wp2
                  go_meet
                  case rel => exact ⟨rfl, rfl⟩
              case rest =>
                obtain ⟨rfl, rfl⟩ := hcut
                clear HS25 HAI HNI
                have HX : Hid (RR w g (some ⟨b, off, none⟩) cap p cp o' l (.slice oa' o'.length oc') q2 c2 (wr.drew.alloc (.cells #[.int .i64 v.id, .int .i64 v.room, .int .i64 v.author, .int .i64 v.kind, .int .i64 v.key, .int .i64 v.n, .string v.text, .slice vp v.prev.length vc, .int .i64 v.time] 114)) ∧ (wr.drew.alloc (.cells #[.int .i64 v.id, .int .i64 v.room, .int .i64 v.author, .int .i64 v.kind, .int .i64 v.key, .int .i64 v.n, .string v.text, .slice vp v.prev.length vc, .int .i64 v.time] 114)).heap[wr.heap.size]? = some (.cells #[.int .i64 v.id, .int .i64 v.room, .int .i64 v.author, .int .i64 v.kind, .int .i64 v.key, .int .i64 v.n, .string v.text, .slice vp v.prev.length vc, .int .i64 v.time] 114 (0, 0))) := ⟨HI.out.on ((Below.refl _ _).drew.alloc (by simp) _), by have := (MapKept.heap_alloc wr.drew (.cells #[.int .i64 v.id, .int .i64 v.room, .int .i64 v.author, .int .i64 v.kind, .int .i64 v.key, .int .i64 v.n, .string v.text, .slice vp v.prev.length vc, .int .i64 v.time] 114)).1; simpa using this⟩
                have hol : o'.length ≤ 48 := sc_len HOJ.out.2
                clear HI
                generalize (wr.drew.alloc (.cells #[.int .i64 v.id, .int .i64 v.room, .int .i64 v.author, .int .i64 v.kind, .int .i64 v.key, .int .i64 v.n, .string v.text, .slice vp v.prev.length vc, .int .i64 v.time] 114)) = w1 at HX ⊢
                have HOE : Hid (∀ W, Below w1.heap.size w1 W → EnsAt W oa' o') := fun W hW => by
                  obtain ⟨a', c', e', _, hat, -⟩ := HX.out.1.out.at (by omega)
                  cases e'
                  exact hat.kept hW
                have HAL := allowed05_spec g o' v vp vc (some ⟨b, off, none⟩) cap p cp oa' oc' w1 ⟨HH.out.1.kept HX.out.1.g.1, HOE.out _ (Below.refl _ _)⟩ HOJ.out.2
                obtain ⟨r, HR⟩ : ∃ r, Hid (r = alwE g.evs o' v) := ⟨_, (rfl : alwE g.evs o' v = _)⟩
                rw [← HR.out] at HAL
                have hgc : ∀ k, w1.cell? ⟨w.heap.size, k, none⟩ = #[.int .i64 g.room, .slice (some ⟨b, off, none⟩) g.evs.length cap, .slice p g.pk.length cp][k]? := fun _ => cell_of_heap HX.out.1.g.2
                have hec : ∀ k, w1.cell? ⟨wr.heap.size, k, none⟩ = #[.int .i64 v.id, .int .i64 v.room, .int .i64 v.author, .int .i64 v.kind, .int .i64 v.key, .int .i64 v.n, .string v.text, .slice vp v.prev.length vc, .int .i64 v.time][k]? := fun _ => cell_of_heap HX.out.2
                cases hz : (r == 0)
                · go_wp2_with fail
                  refine HAL.mono ?_
                  rintro e w2 ⟨rfl, hb2⟩
                  have HX2 : Hid (RR w g (some ⟨b, off, none⟩) cap p cp o' l (.slice oa' o'.length oc') q2 c2 w2) := HX.out.1.on hb2
                  have HOJ2 : Hid (o' = (l.take (j + 1)).foldl (mtS g.evs) (agrR (rowsOf ls)) ∧ Sc g o') := ⟨by rw [fold_next hlt3, ← HOJ.out.1, ← HN.out]; exact (mtS_no (by rw [HVE.out.1, ← HR.out]; simpa using hz)).symm, HOJ.out.2⟩
                  clear hb2 hgc hec HAL HX HOE
                  go_wp2
                  go_roundw
                  case rel => exact ⟨j + 1, oa', oc', o', by omega, by go_num, rfl, HOJ2, HX2⟩
                  case measure => simp [intOf]; omega
                · go_wp2_with fail
                  refine HAL.mono ?_
                  rintro e w2 ⟨rfl, hb2⟩
                  have HX2 : Hid (RR w g (some ⟨b, off, none⟩) cap p cp o' l (.slice oa' o'.length oc') q2 c2 w2 ∧ w2.heap[wr.heap.size]? = some (.cells #[.int .i64 v.id, .int .i64 v.room, .int .i64 v.author, .int .i64 v.kind, .int .i64 v.key, .int .i64 v.n, .string v.text, .slice vp v.prev.length vc, .int .i64 v.time] 114 (0, 0)) ∧ EnsAt w2 oa' o') := ⟨HX.out.1.on hb2, (hb2.block _ (Array.getElem?_eq_some_iff.1 HX.out.2).1).trans HX.out.2, HOE.out _ hb2⟩
                  clear hb2 hgc hec HAL HX HOE
                  have hec : ∀ k, w2.cell? ⟨wr.heap.size, k, none⟩ = #[.int .i64 v.id, .int .i64 v.room, .int .i64 v.author, .int .i64 v.kind, .int .i64 v.key, .int .i64 v.n, .string v.text, .slice vp v.prev.length vc, .int .i64 v.time][k]? := fun _ => cell_of_heap HX2.out.2.1
                  have hpl := putE_length o' ⟨v.kind, v.key, v.id⟩
                  go_wp2_with fail
                  refine (put_spec o' ⟨v.kind, v.key, v.id⟩ oa' oc' w2 HX2.out.2.2 (by omega)).mono ?_
                  rintro e w3 ⟨v2, rfl, ho3, hb3⟩
                  obtain ⟨oa2, oc2, rfl, -, -, -⟩ := ho3.at (by omega)
                  have HX3 : Hid (RR w g (some ⟨b, off, none⟩) cap p cp (putE o' ⟨v.kind, v.key, v.id⟩) l (.slice oa2 (putE o' ⟨v.kind, v.key, v.id⟩).length oc2) q2 c2 w3) := ⟨HX2.out.1.g.on hb3, owns_baseC ho3 HX2.out.1.g.lt, HX2.out.1.ids.kept hb3⟩
                  have HOJ3 : Hid (putE o' ⟨v.kind, v.key, v.id⟩ = (l.take (j + 1)).foldl (mtS g.evs) (agrR (rowsOf ls)) ∧ Sc g (putE o' ⟨v.kind, v.key, v.id⟩)) := by
                    have hm : mtS g.evs o' n = putE o' ⟨v.kind, v.key, v.id⟩ := by
                      rw [mtS_yes (by rw [HVE.out.1, ← HR.out]; simpa using hz), HVE.out.1]
                    obtain ⟨s, hs, x, hx, e⟩ := disp_in HND.out
                    have h2 := sc_mtS HOJ.out.2 (HG.out.2 s hs) hx
                    rw [e, hm] at h2
                    exact ⟨by rw [fold_next hlt3, ← HOJ.out.1, ← HN.out, hm], h2⟩
                  clear ho3 hb3 HX2 hec hpl
                  go_wp2
                  go_roundw
                  case rel => exact ⟨j + 1, oa2, oc2, putE o' ⟨v.kind, v.key, v.id⟩, by omega, by go_num, rfl, HOJ3, HX3⟩
                  case measure => simp [intOf]; omega
            · have HE2 : Hid (o' = l.foldl (mtS g.evs) (agrR (rowsOf ls))) := by have := HOJ.out.1; rwa [List.take_of_length_le (by omega)] at this
              have HME : Hid (Meets g.evs (dpI g ds) (rowsOf ls) o') := ⟨l, HEND.out.srt, fun n => (HEND.out.mem n).trans (HD.out.2 n), HE2.out⟩
              go_wp2
              go_ret
              exact ⟨_, o', rfl, HME.out, owns_baseC HI.out.out (Nat.le_succ _), HI.out.g.1⟩
end Go.Proofs.YteajcmkaoahbeaaGreatDoor
