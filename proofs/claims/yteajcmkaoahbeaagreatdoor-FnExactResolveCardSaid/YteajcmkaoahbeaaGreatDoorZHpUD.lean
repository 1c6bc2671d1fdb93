/- A turn put at the end of the heap's row, and taken off it. container/heap's up and down, at the row of turns. -/
import Derived.Test.YteajcmkaoahbeaaGreatDoorZHpMeth
import Derived.Deep.AppendSrc
namespace Go.Proofs.YteajcmkaoahbeaaGreatDoor
open Go.RowKit

variable {w0 : World} {KK : Nat → Prop} {em : Int → Em} {dp : Int → Int} {hb g cap n : Nat} {f : Nat → Int} {W W' : World}
theorem Tryz.infoTurn : (Tryz.prog.info? 140).map (fun i => (i.zero, i.size, i.bytes)) = some (some (.agg #[.int .i64 0, .int .i64 0, .int .i64 0, .int .i64 0, .int .i64 0, .int .i64 0, .string ⟨#[]⟩, .slice none 0 0, .int .i64 0, .bool false, .int .i64 0]), 11, 112) := by kernel_rfl
theorem assert_turn (v : Value) (xT : TypeId) (w : World) : (Instr.typeAssert (.iface 140 v) xT 140 true).run Tryz.prog w = .ok (.tuple #[v, .bool true]) w := by kernel_rfl
/-- A turn's cells by name. -/
theorem tcell_lit (em : Int → Em) (dp : Int → Int) (x : Int) : ∃ (v : Ev) (p : Option Addr) (c : Nat) (h : Bool) (d : Int), tcell em dp x = [.int .i64 v.id, .int .i64 v.room, .int .i64 v.author, .int .i64 v.kind, .int .i64 v.key, .int .i64 v.n, .string v.text, .slice p v.prev.length c, .int .i64 v.time, .bool h, .int .i64 d] := ⟨(em x).v, (em x).p, (em x).c, heavyB (em x).v, dp x, rfl⟩
theorem Tq.eleven {m : Nat} (h : Tq w0 KK em dp hb g cap m f W) {k : Nat} (hk : k < m) {v : Ev} {p : Option Addr} {c : Nat} {hh : Bool} {d : Int} (e : tcell em dp (f k) = [.int .i64 v.id, .int .i64 v.room, .int .i64 v.author, .int .i64 v.kind, .int .i64 v.key, .int .i64 v.n, .string v.text, .slice p v.prev.length c, .int .i64 v.time, .bool hh, .int .i64 d]) : W.cell? ⟨g, k * 11, none⟩ = some (.int .i64 v.id) ∧ W.cell? ⟨g, k * 11 + 1, none⟩ = some (.int .i64 v.room) ∧ W.cell? ⟨g, k * 11 + 2, none⟩ = some (.int .i64 v.author) ∧ W.cell? ⟨g, k * 11 + 3, none⟩ = some (.int .i64 v.kind) ∧ W.cell? ⟨g, k * 11 + 4, none⟩ = some (.int .i64 v.key) ∧ W.cell? ⟨g, k * 11 + 5, none⟩ = some (.int .i64 v.n) ∧ W.cell? ⟨g, k * 11 + 6, none⟩ = some (.string v.text) ∧ W.cell? ⟨g, k * 11 + 7, none⟩ = some (.slice p v.prev.length c) ∧ W.cell? ⟨g, k * 11 + 8, none⟩ = some (.int .i64 v.time) ∧ W.cell? ⟨g, k * 11 + 9, none⟩ = some (.bool hh) ∧ W.cell? ⟨g, k * 11 + 10, none⟩ = some (.int .i64 d) := by
  have := h.range hk
  rw [e] at this
  exact ⟨this 0 _ rfl, this 1 _ rfl, this 2 _ rfl, this 3 _ rfl, this 4 _ rfl, this 5 _ rfl, this 6 _ rfl, this 7 _ rfl, this 8 _ rfl, this 9 _ rfl, this 10 _ rfl⟩
set_option maxHeartbeats 4000000 in
set_option maxRecDepth 100000 in
theorem pop_turns (h : Tq w0 KK em dp hb g cap (n + 1) f W) (hn : n ≤ 100000000) : Calls Tryz.prog 263 #[.pointer (some ⟨hb, 0, none⟩)] W fun e W' => e = .returned (.iface 140 (.agg (tcell em dp (f n)).toArray)) ∧ Tq w0 KK em dp hb g cap n f W' := by
  obtain ⟨v, p, c, hh, d, e⟩ := tcell_lit em dp (f n)
  obtain ⟨y0, y1, y2, y3, y4, y5, y6, y7, y8, y9, y10⟩ := h.eleven (Nat.lt_succ_self n) e
  have hbx : W.cell? ⟨hb, 0, none⟩ = some (.slice (some ⟨g, 0, none⟩) (n + 1) cap) := cell_of_heap h.box
  have hfz : W.frozen? ⟨hb, 0, none⟩ = false := frozen_of_heap h.box
  have hlt : hb < W.heap.size := (Array.getElem?_eq_some_iff.1 h.box).1
  have hne : ¬ hb = W.heap.size := by omega
  have hle := h.le
  have HT : Hid (∀ o, Tq w0 KK em dp hb g cap n f ((W.setCell ⟨hb, 0, none⟩ (.slice (some ⟨g, 0, none⟩) n cap)).alloc o)) := fun o => h.cut.on ((Below.refl _ _).alloc (Nat.le_refl _) o)
  rw [e]
  clear h e
  go_enter Tryz.func263, Tryz.ntmps263
  go_wp2
  go_ret
  exact ⟨rfl, HT.out _⟩
theorem flatT_put (em : Int → Em) (dp : Int → Int) (f : Nat → Int) (n : Nat) (x : Int) : flatT em dp f n ++ tcell em dp x = flatT em dp (putF f n x) (n + 1) := by
  have h : ∀ m, m ≤ n → flatT em dp (putF f n x) m = flatT em dp f m := fun m => by
    induction m with
    | zero => intro _; rfl
    | succ m ih =>
      intro hm
      rw [flatT, flatT, ih (by omega), putF_other (show m ≠ n by omega)]
  rw [flatT, h n (Nat.le_refl _), putF_same]
theorem append_blockT {w : World} (base : Nat) (t ty e : TypeId) (i : TypeInfo) (z : Value) (bytes : Nat) (ht : Tryz.prog.underlying t = some (.slice e)) (hi : Tryz.prog.info? e = some i) (hz : i.zero = some z)
    (hsize : i.size = 11) (hby : i.bytes = bytes)
    (v : Value) (n : Nat) (xs : List Value) (hown : w.ownsRow base e 11 v n xs)
    (a : Addr) (c : Nat) (us : List Value) (hus : us.length = 11) (hnews : ∀ j u', us[j]? = some u' → w.cell? (a.add j) = some u') (h1 : ∀ u' ∈ us, u'.oneCell' = true)
    (h63 : n + 1 ≤ maxLen) (hbytes : (n + 1) * bytes ≤ 140737488355328) (v' : Value) (w' : World) (hr : (Builtin.append_ #[t, t] ty #[v, .slice (some a) 1 c]).run Tryz.prog w = .ok v' w') :
    v'.ownBlock = v.ownBlock ∨ v'.ownBlock = some w.heap.size := by
  subst hby
  have hsmall : n + 1 ≤ 9223372036854775807 := by simp only [maxLen] at h63; omega
  have hl : us.length = 1 * i.size := by rw [hsize, hus]
  rcases hown.2 with ⟨rfl, rfl⟩ | ⟨g, cap, cur, rfl, hbg, hg, hnc, hcm, hcs, htake⟩
  · have hr2 := run_append_nil (P := Tryz.prog) w t ty e i z ht hi hz a 1 c us hl hnews (by omega) (by omega) (by have hb := hbytes; simp only [Nat.zero_add] at hb; omega)
    rw [hr2] at hr
    injection hr with hr _
    subst hr
    exact .inr rfl
  · by_cases hroom : n + 1 ≤ cap
    · have hfit : n * i.size + us.length ≤ cur.size := by rw [hl, hcs, hsize]; omega
      have hr2 := run_append_room (P := Tryz.prog) w t ty e i ht hi g n cap cur hg a 1 c us hl hnews h1 hroom hfit
      rw [hr2] at hr
      injection hr with hr _
      subst hr
      exact .inl rfl
    · have holds : ∀ j u', xs[j]? = some u' → w.cell? ((⟨g, 0, none⟩ : Addr).add j) = some u' := hown.cells (g := g) rfl
      have hr2 := run_append_grow (P := Tryz.prog) w t ty e i z ht hi hz ⟨g, 0, none⟩ n cap xs (by rw [hsize]; exact hown.1) holds a 1 c us hl hnews (by omega) (by omega) (growslice_fits (by omega) hbytes)
      rw [hr2] at hr
      injection hr with hr _
      subst hr
      exact .inr rfl
theorem wp_append_turn {w : World} {o : Oper} {a : Act} {K : Act → World → Prop} {Q : Exit → Act → World → Prop} (s x : Operand) (t : TypeId)
    (ho : o.op = .call { callee := .builtin .append, args := #[s, x], argTypes := #[t, t] })
    (i : TypeInfo) (z : Value) (ht : Tryz.prog.underlying t = some (.slice 140)) (hi : Tryz.prog.info? 140 = some i) (hz : i.zero = some z) (hsize : i.size = 11) (hby : i.bytes = 112) (hzs : z.cells.size = 11)
    (v : Value) (n : Nat) (xs : List Value) (hs : a.eval s = v) (hown : w.ownsRow 0 140 11 v n xs)
    (ad : Addr) (c : Nat) (news : List Value) (hx : a.eval x = .slice (some ad) 1 c) (hl : news.length = 11) (hnews : ∀ j u, news[j]? = some u → w.cell? (ad.add j) = some u) (h1 : ∀ u ∈ news, u.oneCell' = true)
    (h63 : n + 1 ≤ maxLen) (hbytes : (n + 1) * 112 ≤ 140737488355328)
    (h : ∀ v' w', w'.ownsRow 0 140 11 v' (n + 1) (xs ++ news) → w.grownBy w' v.ownBlock → (v' = .slice none 0 0 ↔ v = .slice none 0 0 ∧ 1 = 0) → (v'.ownBlock = v.ownBlock ∨ v'.ownBlock = some w.heap.size) → K (a.put o.dst v') w') : o.wp Tryz.prog a w K Q := by
  obtain ⟨v', w', hr, h2, h3, h4⟩ := run_append_own (P := Tryz.prog) w 0 t o.type 140 i z 11 112 ht hi hz hsize hby hzs (by decide) v n xs hown ad 1 c news (by rw [hl]) hnews h1 h63 hbytes (Nat.zero_le _)
  have h5 := append_blockT 0 t o.type 140 i z 112 ht hi hz hsize hby v n xs hown ad c news hl hnews h1 h63 hbytes v' w' hr
  unfold Oper.wp execOp
  simp only [ho, resolve, invoke, builtin, Sem.run_bind, Sem.run_pure, Result.andThen_ok, List.map_toArray, List.map_cons, List.map_nil, hs, hx, hr]
  exact h v' w' h2 h3 h4 h5
theorem cell_grown {w w' : World} {b k g : Nat} (h : w.grownBy w' (some g)) (hb : b < w.heap.size) (hne : b ≠ g) : w'.cell? ⟨b, k, none⟩ = w.cell? ⟨b, k, none⟩ := by
  have := h.block b hb (fun e => hne (by cases e; rfl))
  simp only [World.cell?, this]
/-- What putting at the end leaves, once the row has grown and its variable is set. -/
theorem push_out {w5 : World} {v5 : Value} {x : Int} (h : Tq w0 KK em dp hb g cap n f W) (hown : w5.ownsRow 0 140 11 v5 (n + 1) (flatT em dp f n ++ tcell em dp x)) (hgr : W.grownBy w5 (some g)) (hiff : v5 = .slice none 0 0 → False) (hblk : v5.ownBlock = some g ∨ v5.ownBlock = some W.heap.size) :
    w5.cell? ⟨hb, 0, none⟩ = some (.slice (some ⟨g, 0, none⟩) n cap) ∧ w5.frozen? ⟨hb, 0, none⟩ = false ∧ ∃ g' cap', v5 = .slice (some ⟨g', 0, none⟩) (n + 1) cap' ∧ Tq w0 KK em dp hb g' cap' (n + 1) (putF f n x) (w5.setCell ⟨hb, 0, none⟩ v5) := by
  have hlt : hb < W.heap.size := (Array.getElem?_eq_some_iff.1 h.box).1
  have hbox : w5.heap[hb]? = some (.cells #[.slice (some ⟨g, 0, none⟩) n cap] 182 (0, 0)) := (hgr.block hb hlt (fun e => h.ne (by cases e; rfl))).trans h.box
  refine ⟨cell_of_heap hbox, frozen_of_heap hbox, ?_⟩
  have hb1 := heap_set (i := 0) hbox v5
  rw [flatT_put] at hown
  have hne : v5.ownBlock ≠ some hb := by
    rcases hown.2 with ⟨e, _⟩ | ⟨g', cap', cur, rfl, k1, k2, _⟩
    · exact absurd e hiff
    · intro e
      have e2 : g' = hb := by simpa [Value.ownBlock] using e
      rw [e2, hbox] at k2
      simp at k2
  have hfr : Fr w0 KK w5 := h.fr.grown hgr h.log
  refine Tq.of_own (hfr.setCell h.lob _ _) (ownsRow_setCell_other hown hne _) hiff (by simpa using hb1) h.lob fun q hq hlt2 => ?_
  rcases hblk with e | e
  · rw [e] at hq
    cases hq
    exact h.log hlt2
  · rw [e] at hq
    cases hq
    have := h.fr.size
    omega
set_option maxHeartbeats 8000000 in
set_option maxRecDepth 100000 in
theorem push_turns (x : Int) (h : Tq w0 KK em dp hb g cap n f W) (hn : n ≤ 100000000) : Calls Tryz.prog 264 #[.pointer (some ⟨hb, 0, none⟩), .iface 140 (.agg (tcell em dp x).toArray)] W fun e W' => e = .returned (.tuple #[]) ∧ ∃ g' cap', Tq w0 KK em dp hb g' cap' (n + 1) (putF f n x) W' := by
  obtain ⟨v, p, c, hh, d, e⟩ := tcell_lit em dp x
  obtain ⟨i0, hi, hz0, hz1, hz2⟩ := info_parts Tryz.infoTurn
  have HE : Hid (tcell em dp x = [.int .i64 v.id, .int .i64 v.room, .int .i64 v.author, .int .i64 v.kind, .int .i64 v.key, .int .i64 v.n, .string v.text, .slice p v.prev.length c, .int .i64 v.time, .bool hh, .int .i64 d]) := e
  have HQ : Hid (∀ W', Below W.heap.size W W' → Tq w0 KK em dp hb g cap n f W') := fun W' hW => h.on hW
  have hgW : W.heap.size ≠ g := by
    obtain ⟨cur, h1, _⟩ := h.row
    have := (Array.getElem?_eq_some_iff.1 h1).1
    omega
  have hbW : hb < W.heap.size := (Array.getElem?_eq_some_iff.1 h.box).1
  rw [e]
  have hta := assert_turn
  clear h e
  go_enter Tryz.func264, Tryz.ntmps264
  go_wp2
  have HB1 : Hid (Below W.heap.size W (W.alloc (.cells #[.int .i64 v.id, .int .i64 v.room, .int .i64 v.author, .int .i64 v.kind, .int .i64 v.key, .int .i64 v.n, .string v.text, .slice p v.prev.length c, .int .i64 v.time, .bool hh, .int .i64 d] 140)) ∧ (W.alloc (.cells #[.int .i64 v.id, .int .i64 v.room, .int .i64 v.author, .int .i64 v.kind, .int .i64 v.key, .int .i64 v.n, .string v.text, .slice p v.prev.length c, .int .i64 v.time, .bool hh, .int .i64 d] 140)).heap[W.heap.size]? = some (.cells #[.int .i64 v.id, .int .i64 v.room, .int .i64 v.author, .int .i64 v.kind, .int .i64 v.key, .int .i64 v.n, .string v.text, .slice p v.prev.length c, .int .i64 v.time, .bool hh, .int .i64 d] 140 (0, 0))) := ⟨(Below.refl _ _).alloc (Nat.le_refl _) _, (MapKept.heap_alloc W _).1⟩
  generalize W.alloc (.cells #[.int .i64 v.id, .int .i64 v.room, .int .i64 v.author, .int .i64 v.kind, .int .i64 v.key, .int .i64 v.n, .string v.text, .slice p v.prev.length c, .int .i64 v.time, .bool hh, .int .i64 d] 140) = w1 at HB1 ⊢
  have HS : Hid (∀ W3, Below w1.heap.size w1 W3 → (fun W3 => ∀ k, W3.cell? ⟨W.heap.size, k, none⟩ = #[.int .i64 v.id, .int .i64 v.room, .int .i64 v.author, .int .i64 v.kind, .int .i64 v.key, .int .i64 v.n, .string v.text, .slice p v.prev.length c, .int .i64 v.time, .bool hh, .int .i64 d][k]?) W3) := fun W3 hW k => cell_of_heap ((hW.block _ (Array.getElem?_eq_some_iff.1 HB1.out.2).1).trans HB1.out.2)
  refine wp_region_held_drew (S := (fun W3 => ∀ k, W3.cell? ⟨W.heap.size, k, none⟩ = #[.int .i64 v.id, .int .i64 v.room, .int .i64 v.author, .int .i64 v.kind, .int .i64 v.key, .int .i64 v.n, .string v.text, .slice p v.prev.length c, .int .i64 v.time, .bool hh, .int .i64 d][k]?)) (by kernel_rfl) (HS.out _ (Below.refl _ _).drew) (fun hHeld => ?_)
  refine wpAnyH_take (i := 0) (v := (.pointer (some ⟨hb, 0, none⟩))) rfl (by kernel_rfl) (by kernel_rfl) (by kernel_rfl) (fun _ _ _ h => h) (Or.inl ⟨by kernel_rfl, ?_⟩) hHeld ?_
  · intro W hW
    go_simp
  refine wpAnyH_take (i := 1) (v := (.pointer (some ⟨hb, 0, none⟩))) rfl (by kernel_rfl) (by kernel_rfl) (by kernel_rfl) (fun _ _ _ h => h) (Or.inl ⟨by kernel_rfl, ?_⟩) hHeld ?_
  · intro W hW
    go_simp
  refine wpAnyH_take (i := 2) (v := (.pointer (some ⟨hb, 0, none⟩))) rfl (by kernel_rfl) (by kernel_rfl) (by kernel_rfl) (fun _ _ _ h => h) (Or.inl ⟨by kernel_rfl, ?_⟩) hHeld ?_
  · intro W hW
    go_simp
  refine wpAnyH_take (i := 4) (v := (.agg #[.int .i64 v.id, .int .i64 v.room, .int .i64 v.author, .int .i64 v.kind, .int .i64 v.key, .int .i64 v.n, .string v.text, .slice p v.prev.length c, .int .i64 v.time, .bool hh, .int .i64 d])) rfl (by kernel_rfl) (by kernel_rfl) (by kernel_rfl) (fun _ _ _ h => h) (Or.inl ⟨by kernel_rfl, ?_⟩) hHeld ?_
  · intro W hW
    go_simp
  refine wpAnyH_ready (rs := [3, 5]) (by kernel_rfl) (by simp) ?_
  refine AllReadyH.cons rfl (fun K hK => ?_) (AllReadyH.cons rfl (fun K hK => ?_) AllReadyH.nil)
  · have hbx : (w1.drew).cell? ⟨hb, 0, none⟩ = some (.slice (some ⟨g, 0, none⟩) n cap) := cell_of_heap (HQ.out _ (HB1.out.1.trans ((Below.refl _ _).drew.mono HB1.out.1.size))).box
    go_simp
    refine hK.out _ _ (HS.out _ (Below.refl _ _).drew) (fun hH2 => ?_)
    clear hK K hbx
    refine wpAnyH_ready (rs := [5]) (by kernel_rfl) (by simp) ?_
    refine AllReadyH.cons rfl (fun K hK => ?_) AllReadyH.nil
    go_simp
    refine hK.out _ _ (HS.out _ ((Below.refl _ _).drew.alloc (by simp) _)) (fun hH2 => ?_)
    clear hK K
    refine wpAnyH_ready (rs := [6]) (by kernel_rfl) (by simp) ?_
    refine AllReadyH.cons rfl (fun K hK => ?_) AllReadyH.nil
    refine wp_append_turn (.tmp 15) (.tmp 17) 182 rfl i0 _ Tryz.underlying182 hi hz0 hz1 hz2 rfl (.slice (some ⟨g, 0, none⟩) n cap) n (flatT em dp f n) rfl (HQ.out _ (HB1.out.1.trans (((Below.refl _ _).drew.alloc (by simp) _).mono HB1.out.1.size))).own ⟨w1.heap.size, 0, none⟩ 1 (tcell em dp x) rfl (tcell_len em dp x) (fun j u hu => by rw [Addr.add_lit]; rw [HE.out] at hu; exact (cell_of_heap (w := w1.alloc (.cells #[.int .i64 v.id, .int .i64 v.room, .int .i64 v.author, .int .i64 v.kind, .int .i64 v.key, .int .i64 v.n, .string v.text, .slice p v.prev.length c, .int .i64 v.time, .bool hh, .int .i64 d] 140)) (MapKept.heap_alloc w1 _).1).trans (by simpa using hu)) (tcell_one em dp x) (by unfold maxLen; omega) (by omega) ?_
    intro v5 w5 hown hgr hiff hblk
    obtain ⟨hbx5, hfz5, g5, cap5, rfl, HOUT⟩ := push_out (HQ.out _ (HB1.out.1.trans (((Below.refl _ _).drew.alloc (by simp) _).mono HB1.out.1.size))) hown hgr (fun e => absurd (hiff.1 e).1 (by simp)) hblk
    have hS5 : ∀ k, w5.cell? ⟨W.heap.size, k, none⟩ = #[.int .i64 v.id, .int .i64 v.room, .int .i64 v.author, .int .i64 v.kind, .int .i64 v.key, .int .i64 v.n, .string v.text, .slice p v.prev.length c, .int .i64 v.time, .bool hh, .int .i64 d][k]? := fun k => by rw [← HS.out _ ((Below.refl _ _).drew.alloc (by simp) _) k]; exact cell_grown hgr (by have := HB1.out.1.size; have := (Array.getElem?_eq_some_iff.1 HB1.out.2).1; simp; omega) hgW
    clear hown hgr hiff hblk
    refine hK.out _ _ hS5 (fun hH2 => ?_)
    clear hK K
    refine wpAnyH_take (i := 7) (v := (.pointer (some ⟨hb, 0, none⟩))) rfl (by kernel_rfl) (by kernel_rfl) (by kernel_rfl) (fun _ _ _ h => h) (Or.inl ⟨by kernel_rfl, ?_⟩) hS5 ?_
    · intro W hW
      go_simp
    refine wpAnyH_ready (rs := [8]) (by kernel_rfl) (by simp) ?_
    refine AllReadyH.cons rfl (fun K hK => ?_) AllReadyH.nil
    go_simp
    refine hK.out _ _ (fun k => by rw [World.cell?_setCell_other _ _ _ _ (by simp <;> omega)]; exact hS5 k) (fun hH2 => ?_)
    clear hK K
    refine wpAnyH_done (by kernel_rfl) ?_ _
    go_wp2
    go_end0
    exact ⟨rfl, g5, cap5, HOUT⟩
  · go_simp
    refine hK.out _ _ (HS.out _ ((Below.refl _ _).drew.alloc (by simp) _)) (fun hH2 => ?_)
    clear hK K
    refine wpAnyH_ready (rs := [3]) (by kernel_rfl) (by simp) ?_
    refine AllReadyH.cons rfl (fun K hK => ?_) AllReadyH.nil
    have hbx : ((w1.alloc (.cells #[.int .i64 v.id, .int .i64 v.room, .int .i64 v.author, .int .i64 v.kind, .int .i64 v.key, .int .i64 v.n, .string v.text, .slice p v.prev.length c, .int .i64 v.time, .bool hh, .int .i64 d] 140)).drew).cell? ⟨hb, 0, none⟩ = some (.slice (some ⟨g, 0, none⟩) n cap) := cell_of_heap (HQ.out _ (HB1.out.1.trans (((Below.refl _ _).drew.alloc (by simp) _).mono HB1.out.1.size))).box
    go_simp
    refine hK.out _ _ (HS.out _ ((Below.refl _ _).drew.alloc (by simp) _)) (fun hH2 => ?_)
    clear hK K
    clear hbx
    refine wpAnyH_ready (rs := [6]) (by kernel_rfl) (by simp) ?_
    refine AllReadyH.cons rfl (fun K hK => ?_) AllReadyH.nil
    refine wp_append_turn (.tmp 15) (.tmp 17) 182 rfl i0 _ Tryz.underlying182 hi hz0 hz1 hz2 rfl (.slice (some ⟨g, 0, none⟩) n cap) n (flatT em dp f n) rfl (HQ.out _ (HB1.out.1.trans (((Below.refl _ _).drew.alloc (by simp) _).mono HB1.out.1.size))).own ⟨w1.heap.size, 0, none⟩ 1 (tcell em dp x) rfl (tcell_len em dp x) (fun j u hu => by rw [Addr.add_lit]; rw [HE.out] at hu; exact (cell_of_heap (w := w1.alloc (.cells #[.int .i64 v.id, .int .i64 v.room, .int .i64 v.author, .int .i64 v.kind, .int .i64 v.key, .int .i64 v.n, .string v.text, .slice p v.prev.length c, .int .i64 v.time, .bool hh, .int .i64 d] 140)) (MapKept.heap_alloc w1 _).1).trans (by simpa using hu)) (tcell_one em dp x) (by unfold maxLen; omega) (by omega) ?_
    intro v5 w5 hown hgr hiff hblk
    obtain ⟨hbx5, hfz5, g5, cap5, rfl, HOUT⟩ := push_out (HQ.out _ (HB1.out.1.trans (((Below.refl _ _).drew.alloc (by simp) _).mono HB1.out.1.size))) hown hgr (fun e => absurd (hiff.1 e).1 (by simp)) hblk
    have hS5 : ∀ k, w5.cell? ⟨W.heap.size, k, none⟩ = #[.int .i64 v.id, .int .i64 v.room, .int .i64 v.author, .int .i64 v.kind, .int .i64 v.key, .int .i64 v.n, .string v.text, .slice p v.prev.length c, .int .i64 v.time, .bool hh, .int .i64 d][k]? := fun k => by rw [← HS.out _ ((Below.refl _ _).drew.alloc (by simp) _) k]; exact cell_grown hgr (by have := HB1.out.1.size; have := (Array.getElem?_eq_some_iff.1 HB1.out.2).1; simp; omega) hgW
    clear hown hgr hiff hblk
    refine hK.out _ _ hS5 (fun hH2 => ?_)
    clear hK K
    refine wpAnyH_take (i := 7) (v := (.pointer (some ⟨hb, 0, none⟩))) rfl (by kernel_rfl) (by kernel_rfl) (by kernel_rfl) (fun _ _ _ h => h) (Or.inl ⟨by kernel_rfl, ?_⟩) hS5 ?_
    · intro W hW
      go_simp
    refine wpAnyH_ready (rs := [8]) (by kernel_rfl) (by simp) ?_
    refine AllReadyH.cons rfl (fun K hK => ?_) AllReadyH.nil
    go_simp
    refine hK.out _ _ (fun k => by rw [World.cell?_setCell_other _ _ _ _ (by simp <;> omega)]; exact hS5 k) (fun hH2 => ?_)
    clear hK K
    refine wpAnyH_done (by kernel_rfl) ?_ _
    go_wp2
    go_end0
    exact ⟨rfl, g5, cap5, HOUT⟩
end Go.Proofs.YteajcmkaoahbeaaGreatDoor
namespace Go.Proofs.YteajcmkaoahbeaaGreatDoor
open Go.RowKit

variable {w0 : World} {KK : Nat → Prop} {em : Int → Em} {dp : Int → Int} {hb g cap n : Nat} {f : Nat → Int} {W W' : World} {S : Int → Prop}
theorem less_turnsZ (z1 z2 : Int) (i j : Nat) (e1 : z1 = i) (e2 : z2 = j) (h : Tq w0 KK em dp hb g cap n f W) (hi : i < n) (hj : j < n) (r : Bool) (hr : lessT em dp (f i) (f j) = r) : Calls Tryz.prog 262 #[.slice (some ⟨g, 0, none⟩) n cap, .int .i64 z1, .int .i64 z2] W fun e W' => e = .returned (.bool r) ∧ Tq w0 KK em dp hb g cap n f W' := by
  subst e1 e2 hr
  exact less_turns i j h hi hj
theorem swap_turnsZ (z1 z2 : Int) (i j : Nat) (e1 : z1 = i) (e2 : z2 = j) (h : Tq w0 KK em dp hb g cap n f W) (hi : i < n) (hj : j < n) : Calls Tryz.prog 265 #[.slice (some ⟨g, 0, none⟩) n cap, .int .i64 z1, .int .i64 z2] W fun e W' => e = .returned (.tuple #[]) ∧ Tq w0 KK em dp hb g cap n (xchF f i j) W' := by
  subst e1 e2
  exact swap_turns i j h hi hj
theorem Tq.cell (h : Tq w0 KK em dp hb g cap n f W) : W.cell? ⟨hb, 0, none⟩ = some (.slice (some ⟨g, 0, none⟩) n cap) := cell_of_heap h.box
theorem perm_S {m : Nat} {f' : Nat → Int} (hS : ∀ k, k < m → S (f k)) (hp : Perm0 m f f') : ∀ k, k < m → S (f' k) := fun k hk => by
  obtain ⟨q, hq, e⟩ := (hp.mem (f' k)).1 ⟨k, hk, rfl⟩
  rw [← e]
  exact hS q hq
set_option maxHeartbeats 4000000 in
set_option maxRecDepth 100000 in
theorem up_turns (O : Ord (lessT em dp) S) (j : Nat) (h : Tq w0 KK em dp hb g cap n f W) (hS : ∀ k, k < n → S (f k)) (hu : UpF (lessT em dp) f n j) (hj : j < n) (hn : n ≤ 100000000) :
    Calls Tryz.prog 154 #[.iface 135 (.pointer (some ⟨hb, 0, none⟩)), .int .i64 j] W fun e W' => e = .returned (.tuple #[]) ∧ ∃ f', Tq w0 KK em dp hb g cap n f' W' ∧ HeapF (lessT em dp) f' n ∧ Perm0 n f f' := by
  have H0 : Hid (Tq w0 KK em dp hb g cap n f W ∧ UpF (lessT em dp) f n j ∧ Perm0 n f f) := ⟨h, hu, Perm0.refl _ _⟩
  have HS : Hid (∀ k, k < n → S (f k)) := hS
  have HOO : Hid (Ord (lessT em dp) S) := O
  clear h hu hS O
  go_enter Tryz.func154, Tryz.ntmps154
  go_wp2
  go_loopw [1, 4] (fun jj _ wr => ∃ (j' : Nat) (f' : Nat → Int), j' < n ∧ jj = .int .i64 j' ∧ Hid (Tq w0 KK em dp hb g cap n f' wr ∧ UpF (lessT em dp) f' n j' ∧ Perm0 n f f')) (fun jj _ _ => (intOf jj).toNat)
  case atStart => exact ⟨j, f, hj, rfl, H0⟩
  case round =>
    clear H0
    obtain ⟨j', f', hj', rfl, HI⟩ := hrel
    by_cases h0 : 0 < j'
    · obtain ⟨i, HPI⟩ : ∃ i, Hid (i = upP j') := ⟨upP j', (rfl : upP j' = _)⟩
      have hij : i < j' := by rw [HPI.out]; unfold upP; omega
      have hin : i < n := by omega
      have hq : ((j' : Int) - 1) / 2 = (i : Int) := by
        have h1 := HPI.out
        unfold upP at h1
        omega
      have hne : ((i : Int) == (j' : Int)) = false := by simp; omega
      have hml := meth_less HI.out.1.cell
      cases hv : lessT em dp (f' j') (f' i)
      · go_wp2_with fail
        refine (less_turnsZ _ _ j' i rfl rfl HI.out.1 hj' hin false hv).mono ?_
        rintro e w1 ⟨rfl, ht1⟩
        have HE : Hid (∃ f', Tq w0 KK em dp hb g cap n f' w1 ∧ HeapF (lessT em dp) f' n ∧ Perm0 n f f') := ⟨f', ht1, HI.out.2.1.stop (by rw [← HPI.out]; exact hv), HI.out.2.2⟩
        clear ht1 hml
        go_wp2
        go_end0
        exact ⟨rfl, HE.out⟩
      · go_wp2_with fail
        refine (less_turnsZ _ _ j' i rfl rfl HI.out.1 hj' hin true hv).mono ?_
        rintro e w1 ⟨rfl, ht1⟩
        have HT1 : Hid (Tq w0 KK em dp hb g cap n f' w1) := ht1
        have hms := meth_swap ht1.cell
        clear ht1 hml
        go_wp2_with fail
        refine (swap_turnsZ _ _ i j' rfl rfl HT1.out hin hj').mono ?_
        rintro e w2 ⟨rfl, ht2⟩
        have HI2 : Hid (Tq w0 KK em dp hb g cap n (xchF f' i j') w2 ∧ UpF (lessT em dp) (xchF f' i j') n i ∧ Perm0 n f (xchF f' i j')) := by
          refine ⟨ht2, ?_, HI.out.2.2.trans (xch_perm hin hj')⟩
          have := HI.out.2.1.step HOO.out (perm_S HS.out HI.out.2.2) h0 hj' (by rw [← HPI.out]; exact hv)
          rw [← HPI.out] at this
          exact this
        clear ht2 hms
        go_wp2
        go_roundw
        case rel => exact ⟨i, xchF f' i j', hin, rfl, HI2⟩
        case measure => simp [intOf]; omega
    · have h00 : j' = 0 := by omega
      subst h00
      have HE : Hid (∃ f', Tq w0 KK em dp hb g cap n f' wr ∧ HeapF (lessT em dp) f' n ∧ Perm0 n f f') := ⟨f', HI.out.1, HI.out.2.1.zero, HI.out.2.2⟩
      clear HI
      go_wp2
      go_end0
      exact ⟨rfl, HE.out⟩
set_option maxHeartbeats 8000000 in
set_option maxRecDepth 100000 in
theorem down_turns (O : Ord (lessT em dp) S) (m : Nat) (hm : m ≤ n) (h : Tq w0 KK em dp hb g cap n f W) (hS : ∀ k, k < m → S (f k)) (hd : DnF (lessT em dp) f m 0) (hn : n ≤ 100000000) :
    Calls Tryz.prog 156 #[.iface 135 (.pointer (some ⟨hb, 0, none⟩)), .int .i64 0, .int .i64 m] W fun e W' => ∃ b, e = .returned (.bool b) ∧ ∃ f', Tq w0 KK em dp hb g cap n f' W' ∧ HeapF (lessT em dp) f' m ∧ Perm0 m f f' ∧ ∀ k, m ≤ k → f' k = f k := by
  have H0 : Hid (Tq w0 KK em dp hb g cap n f W ∧ DnF (lessT em dp) f m 0 ∧ Perm0 m f f ∧ ∀ k, m ≤ k → f k = f k) := ⟨h, hd, Perm0.refl _ _, fun _ _ => rfl⟩
  have HS : Hid (∀ k, k < m → S (f k)) := hS
  have HOO : Hid (Ord (lessT em dp) S) := O
  clear h hd hS O
  go_enter Tryz.func156, Tryz.ntmps156
  go_wp2
  go_loopw [7, 8, 9, 10] (fun ii _ _ _ wr => ∃ (i : Nat) (f' : Nat → Int), i ≤ m ∧ ii = .int .i64 i ∧ Hid (Tq w0 KK em dp hb g cap n f' wr ∧ DnF (lessT em dp) f' m i ∧ Perm0 m f f' ∧ ∀ k, m ≤ k → f' k = f k)) (fun ii _ _ _ _ => m - (intOf ii).toNat)
  case atStart => exact ⟨0, f, Nat.zero_le _, rfl, H0.out.1, H0.out.2.1, H0.out.2.2.1, fun _ _ => rfl⟩
  case round =>
    clear H0
    obtain ⟨i, f', him, rfl, HI⟩ := hrel
    by_cases h1 : m ≤ 2 * i + 1
    · have hd1 : decide ((m : Int) ≤ 2 * (i : Int) + 1) = true := decide_eq_true (by omega)
      have HE : Hid (∃ f', Tq w0 KK em dp hb g cap n f' wr ∧ HeapF (lessT em dp) f' m ∧ Perm0 m f f' ∧ ∀ k, m ≤ k → f' k = f k) := ⟨f', HI.out.1, HI.out.2.1.none h1, HI.out.2.2⟩
      clear HI
      go_wp2
      go_ret
      exact ⟨_, rfl, HE.out⟩
    · have hd1 : decide ((m : Int) ≤ 2 * (i : Int) + 1) = false := decide_eq_false (by omega)
      have hd2 : decide (2 * (i : Int) + 1 < 0) = false := decide_eq_false (by omega)
      have hi1 : i < m := by omega
      have hin : i < n := by omega
      have hJ1 : 2 * i + 1 < m := by omega
      have hJ1n : 2 * i + 1 < n := by omega
      have HT0 : Hid (Tq w0 KK em dp hb g cap n f' wr) := HI.out.1
      by_cases h2 : 2 * i + 2 < m
      · have hd3 : decide (2 * (i : Int) + 1 + 1 < (m : Int)) = true := decide_eq_true (by omega)
        have hJ2n : 2 * i + 2 < n := by omega
        have hml := meth_less HI.out.1.cell
        cases hv0 : lessT em dp (f' (2 * i + 2)) (f' (2 * i + 1))
        · go_wp2_with fail
          refine (less_turnsZ _ _ (2 * i + 2) (2 * i + 1) (by omega) (by omega) HT0.out hJ2n hJ1n false hv0).mono ?_
          rintro e w1 ⟨rfl, ht1⟩
          have HT : Hid (Tq w0 KK em dp hb g cap n f' w1) := ht1
          have HC : Hid (∀ k, 0 < k → k < m → upP k = i → k ≠ 2 * i + 1 → lessT em dp (f' k) (f' (2 * i + 1)) = false) := fun k k0 _ ku kn => by
            have : k = 2 * i + 2 := by unfold upP at ku; omega
            rw [this]
            exact hv0
          have hJ : 2 * i + 1 < m := hJ1
          have hJn : 2 * i + 1 < n := hJ1n
          clear ht1 hml hv0
          have hml2 := meth_less HT.out.cell
          cases hv : lessT em dp (f' (2 * i + 1)) (f' i)
          · go_wp2_with fail
            refine (less_turnsZ _ _ (2 * i + 1) i (by omega) rfl HT.out hJn hin false hv).mono ?_
            rintro e w2 ⟨rfl, ht2⟩
            have HE : Hid (∃ f', Tq w0 KK em dp hb g cap n f' w2 ∧ HeapF (lessT em dp) f' m ∧ Perm0 m f f' ∧ ∀ k, m ≤ k → f' k = f k) := ⟨f', ht2, HI.out.2.1.stop HOO.out (perm_S HS.out HI.out.2.2.1) hJ hi1 HC.out hv, HI.out.2.2.1, HI.out.2.2.2⟩
            clear ht2 hml2
            go_wp2
            go_ret
            exact ⟨_, rfl, HE.out⟩
          · go_wp2_with fail
            refine (less_turnsZ _ _ (2 * i + 1) i (by omega) rfl HT.out hJn hin true hv).mono ?_
            rintro e w2 ⟨rfl, ht2⟩
            have HT2 : Hid (Tq w0 KK em dp hb g cap n f' w2) := ht2
            have hms := meth_swap ht2.cell
            clear ht2 hml2
            go_wp2_with fail
            refine (swap_turnsZ _ _ i (2 * i + 1) rfl (by omega) HT2.out hin hJn).mono ?_
            rintro e w3 ⟨rfl, ht3⟩
            have HI3 : Hid (Tq w0 KK em dp hb g cap n (xchF f' i (2 * i + 1)) w3 ∧ DnF (lessT em dp) (xchF f' i (2 * i + 1)) m (2 * i + 1) ∧ Perm0 m f (xchF f' i (2 * i + 1)) ∧ ∀ k, m ≤ k → xchF f' i (2 * i + 1) k = f k) := ⟨ht3, HI.out.2.1.step HOO.out (perm_S HS.out HI.out.2.2.1) hJ (by omega) (by unfold upP; omega) HC.out hv, HI.out.2.2.1.trans (xch_perm hi1 hJ), fun k hk => by rw [xch_o (by omega) (by omega)]; exact HI.out.2.2.2 k hk⟩
            clear ht3 hms
            go_wp2
            go_roundw
            case rel => exact ⟨(2 * i + 1), xchF f' i (2 * i + 1), by omega, congrArg (Value.int .i64) (by omega), HI3⟩
            case measure => simp [intOf]; omega
        · go_wp2_with fail
          refine (less_turnsZ _ _ (2 * i + 2) (2 * i + 1) (by omega) (by omega) HT0.out hJ2n hJ1n true hv0).mono ?_
          rintro e w1 ⟨rfl, ht1⟩
          have HT : Hid (Tq w0 KK em dp hb g cap n f' w1) := ht1
          have HC : Hid (∀ k, 0 < k → k < m → upP k = i → k ≠ 2 * i + 2 → lessT em dp (f' k) (f' (2 * i + 2)) = false) := fun k k0 _ ku kn => by
            have : k = 2 * i + 1 := by unfold upP at ku; omega
            rw [this]
            exact HOO.out.asymm (perm_S HS.out HI.out.2.2.1 _ (by omega)) (perm_S HS.out HI.out.2.2.1 _ (by omega)) hv0
          have hJ : 2 * i + 2 < m := h2
          have hJn : 2 * i + 2 < n := hJ2n
          clear ht1 hml hv0
          have hml2 := meth_less HT.out.cell
          cases hv : lessT em dp (f' (2 * i + 2)) (f' i)
          · go_wp2_with fail
            refine (less_turnsZ _ _ (2 * i + 2) i (by omega) rfl HT.out hJn hin false hv).mono ?_
            rintro e w2 ⟨rfl, ht2⟩
            have HE : Hid (∃ f', Tq w0 KK em dp hb g cap n f' w2 ∧ HeapF (lessT em dp) f' m ∧ Perm0 m f f' ∧ ∀ k, m ≤ k → f' k = f k) := ⟨f', ht2, HI.out.2.1.stop HOO.out (perm_S HS.out HI.out.2.2.1) hJ hi1 HC.out hv, HI.out.2.2.1, HI.out.2.2.2⟩
            clear ht2 hml2
            go_wp2
            go_ret
            exact ⟨_, rfl, HE.out⟩
          · go_wp2_with fail
            refine (less_turnsZ _ _ (2 * i + 2) i (by omega) rfl HT.out hJn hin true hv).mono ?_
            rintro e w2 ⟨rfl, ht2⟩
            have HT2 : Hid (Tq w0 KK em dp hb g cap n f' w2) := ht2
            have hms := meth_swap ht2.cell
            clear ht2 hml2
            go_wp2_with fail
            refine (swap_turnsZ _ _ i (2 * i + 2) rfl (by omega) HT2.out hin hJn).mono ?_
            rintro e w3 ⟨rfl, ht3⟩
            have HI3 : Hid (Tq w0 KK em dp hb g cap n (xchF f' i (2 * i + 2)) w3 ∧ DnF (lessT em dp) (xchF f' i (2 * i + 2)) m (2 * i + 2) ∧ Perm0 m f (xchF f' i (2 * i + 2)) ∧ ∀ k, m ≤ k → xchF f' i (2 * i + 2) k = f k) := ⟨ht3, HI.out.2.1.step HOO.out (perm_S HS.out HI.out.2.2.1) hJ (by omega) (by unfold upP; omega) HC.out hv, HI.out.2.2.1.trans (xch_perm hi1 hJ), fun k hk => by rw [xch_o (by omega) (by omega)]; exact HI.out.2.2.2 k hk⟩
            clear ht3 hms
            go_wp2
            go_roundw
            case rel => exact ⟨(2 * i + 2), xchF f' i (2 * i + 2), by omega, congrArg (Value.int .i64) (by omega), HI3⟩
            case measure => simp [intOf]; omega
      · have hd3 : decide (2 * (i : Int) + 1 + 1 < (m : Int)) = false := decide_eq_false (by omega)
        have HT : Hid (Tq w0 KK em dp hb g cap n f' wr) := HT0.out
        have HC : Hid (∀ k, 0 < k → k < m → upP k = i → k ≠ 2 * i + 1 → lessT em dp (f' k) (f' (2 * i + 1)) = false) := fun k k0 km ku kn => by
          exfalso
          unfold upP at ku
          omega
        have hJ : 2 * i + 1 < m := hJ1
        have hJn : 2 * i + 1 < n := hJ1n
        have hml2 := meth_less HT.out.cell
        cases hv : lessT em dp (f' (2 * i + 1)) (f' i)
        · go_wp2_with fail
          refine (less_turnsZ _ _ (2 * i + 1) i (by omega) rfl HT.out hJn hin false hv).mono ?_
          rintro e w2 ⟨rfl, ht2⟩
          have HE : Hid (∃ f', Tq w0 KK em dp hb g cap n f' w2 ∧ HeapF (lessT em dp) f' m ∧ Perm0 m f f' ∧ ∀ k, m ≤ k → f' k = f k) := ⟨f', ht2, HI.out.2.1.stop HOO.out (perm_S HS.out HI.out.2.2.1) hJ hi1 HC.out hv, HI.out.2.2.1, HI.out.2.2.2⟩
          clear ht2 hml2
          go_wp2
          go_ret
          exact ⟨_, rfl, HE.out⟩
        · go_wp2_with fail
          refine (less_turnsZ _ _ (2 * i + 1) i (by omega) rfl HT.out hJn hin true hv).mono ?_
          rintro e w2 ⟨rfl, ht2⟩
          have HT2 : Hid (Tq w0 KK em dp hb g cap n f' w2) := ht2
          have hms := meth_swap ht2.cell
          clear ht2 hml2
          go_wp2_with fail
          refine (swap_turnsZ _ _ i (2 * i + 1) rfl (by omega) HT2.out hin hJn).mono ?_
          rintro e w3 ⟨rfl, ht3⟩
          have HI3 : Hid (Tq w0 KK em dp hb g cap n (xchF f' i (2 * i + 1)) w3 ∧ DnF (lessT em dp) (xchF f' i (2 * i + 1)) m (2 * i + 1) ∧ Perm0 m f (xchF f' i (2 * i + 1)) ∧ ∀ k, m ≤ k → xchF f' i (2 * i + 1) k = f k) := ⟨ht3, HI.out.2.1.step HOO.out (perm_S HS.out HI.out.2.2.1) hJ (by omega) (by unfold upP; omega) HC.out hv, HI.out.2.2.1.trans (xch_perm hi1 hJ), fun k hk => by rw [xch_o (by omega) (by omega)]; exact HI.out.2.2.2 k hk⟩
          clear ht3 hms
          go_wp2
          go_roundw
          case rel => exact ⟨(2 * i + 1), xchF f' i (2 * i + 1), by omega, congrArg (Value.int .i64) (by omega), HI3⟩
          case measure => simp [intOf]; omega
end Go.Proofs.YteajcmkaoahbeaaGreatDoor
