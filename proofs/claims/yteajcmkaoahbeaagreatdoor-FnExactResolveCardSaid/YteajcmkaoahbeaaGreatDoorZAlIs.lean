/- The four errors as they are laid; an error by its code. errors.Is at what hinders: nil, or a hindrance that wraps one of the errors. The four errors out of what the row lists. -/
import Derived.Test.YteajcmkaoahbeaaGreatDoorZGrPlain
import Derived.LaidEql
import Derived.Stop.Asserts
import Derived.RowKitTokens
import Derived.LaidLaws
import Derived.LaidMore
import Derived.Stop.LaidErr
namespace Go.Proofs.YteajcmkaoahbeaaGreatDoor
open Go.RowKit

structure Errs where
  b : Addr
  n : Addr
  x : Addr
  d : Addr
/-- Each variable holds its error, and no two are one. -/
structure LE (E : Errs) (w : World) : Prop where
  cb : w.cell? ⟨0, 0, none⟩ = some (.iface 321 (.pointer (some E.b)))
  cn : w.cell? ⟨1, 0, none⟩ = some (.iface 321 (.pointer (some E.n)))
  cx : w.cell? ⟨2, 0, none⟩ = some (.iface 321 (.pointer (some E.x)))
  cd : w.cell? ⟨3, 0, none⟩ = some (.iface 321 (.pointer (some E.d)))
  ob : ∃ cs t, w.heap[E.b.block]? = some (.cells cs t (0, 0))
  on : ∃ cs t, w.heap[E.n.block]? = some (.cells cs t (0, 0))
  ox : ∃ cs t, w.heap[E.x.block]? = some (.cells cs t (0, 0))
  od : ∃ cs t, w.heap[E.d.block]? = some (.cells cs t (0, 0))
  bn : E.b ≠ E.n
  bx : E.b ≠ E.x
  bd : E.b ≠ E.d
  nx : E.n ≠ E.x
  nd : E.n ≠ E.d
  xd : E.x ≠ E.d
theorem LE.kept {E : Errs} {w w' : World} (h : LE E w) (hb : Below w.heap.size w w') : LE E w' where
  cb := (hb.cell (p := ⟨0, 0, none⟩) (World.block_lt_of_cell? _ _ h.cb)).trans h.cb
  cn := (hb.cell (p := ⟨1, 0, none⟩) (World.block_lt_of_cell? _ _ h.cn)).trans h.cn
  cx := (hb.cell (p := ⟨2, 0, none⟩) (World.block_lt_of_cell? _ _ h.cx)).trans h.cx
  cd := (hb.cell (p := ⟨3, 0, none⟩) (World.block_lt_of_cell? _ _ h.cd)).trans h.cd
  ob := by
    obtain ⟨cs, t, e⟩ := h.ob
    exact ⟨cs, t, (hb.block _ (Array.getElem?_eq_some_iff.1 e).1).trans e⟩
  on := by
    obtain ⟨cs, t, e⟩ := h.on
    exact ⟨cs, t, (hb.block _ (Array.getElem?_eq_some_iff.1 e).1).trans e⟩
  ox := by
    obtain ⟨cs, t, e⟩ := h.ox
    exact ⟨cs, t, (hb.block _ (Array.getElem?_eq_some_iff.1 e).1).trans e⟩
  od := by
    obtain ⟨cs, t, e⟩ := h.od
    exact ⟨cs, t, (hb.block _ (Array.getElem?_eq_some_iff.1 e).1).trans e⟩
  bn := h.bn
  bx := h.bx
  bd := h.bd
  nx := h.nx
  nd := h.nd
  xd := h.xd
/-- An error by its code; none at 0. -/
def errV (E : Errs) (k : Int) : Value := if k = 7 then .iface 321 (.pointer (some E.b)) else if k = 10 then .iface 321 (.pointer (some E.n)) else if k = 6 then .iface 321 (.pointer (some E.x)) else if k = 11 then .iface 321 (.pointer (some E.d)) else .nilIface
theorem ret_b {E : Errs} {k : Int} (h : k = 7) : Ending.returned (.iface 321 (.pointer (some E.b))) = .returned (errV E k) := by subst h; rfl
theorem ret_n {E : Errs} {k : Int} (h : k = 10) : Ending.returned (.iface 321 (.pointer (some E.n))) = .returned (errV E k) := by subst h; rfl
theorem ret_x {E : Errs} {k : Int} (h : k = 6) : Ending.returned (.iface 321 (.pointer (some E.x))) = .returned (errV E k) := by subst h; rfl
theorem ret_d {E : Errs} {k : Int} (h : k = 11) : Ending.returned (.iface 321 (.pointer (some E.d))) = .returned (errV E k) := by subst h; rfl
theorem ret_0 {E : Errs} {k : Int} (h : k = 0) : Ending.returned .nilIface = .returned (errV E k) := by subst h; rfl
end Go.Proofs.YteajcmkaoahbeaaGreatDoor
namespace Go.Proofs.YteajcmkaoahbeaaGreatDoor
open Go.RowKit Go.Extern.Stop Go.Stop Go.Extern

theorem Tryz.isTypeOf (v : Value) (w : World) : (Extern.ReflectliteType.typeOf #[.iface 321 v]).run Tryz.prog w = .ok (.iface 231 (.agg #[.pointer (some ⟨4, 321, none⟩)])) w := by kernel_rfl
theorem Tryz.isCompCall (w : World) : Sem.run Tryz.prog (callFunc 272 #[.agg #[.pointer (some ⟨4, 321, none⟩)]]) w = Result.ok (Next.value (Value.bool true)) w :=
  (@run_callFunc_extern Tryz.prog 272 _ (Extern.ReflectliteType.method fun t => do Rtype.noPackHeld "Comparable" t; pure (.bool (← typeInfo t).comparable)) Tryz.func272 (by kernel_rfl) (by kernel_rfl) (by kernel_rfl) (by kernel_rfl) _ w).trans (by kernel_rfl)
theorem Tryz.isMethodComparable (v : Value) (w : World) : (Go.method 459 231 v "Comparable").run Tryz.prog w = .ok (272, v) w := by kernel_rfl
theorem Tryz.isComp : (Tryz.prog.info? 321).map (·.comparable) = some true := by kernel_rfl
theorem Tryz.isSize : (Tryz.prog.info? 348).map (·.size) = some 1 := by kernel_rfl
theorem Tryz.noIsE (v : Value) (xT : TypeId) (w : World) : (Instr.typeAssert (.iface 321 v) xT 233 true).run Tryz.prog w = .ok (.tuple #[.nilIface, .bool false]) w := run_typeAssert_lacksB Tryz.underlying233 (by kernel_rfl) (by kernel_rfl) v xT w
theorem Tryz.noUnwrapE (v : Value) (xT : TypeId) (w : World) : (Instr.typeAssert (.iface 321 v) xT 236 true).run Tryz.prog w = .ok (.tuple #[.nilIface, .bool false]) w := run_typeAssert_lacksB Tryz.underlying236 (by kernel_rfl) (by kernel_rfl) v xT w
theorem Tryz.noUnwrapsE (v : Value) (xT : TypeId) (w : World) : (Instr.typeAssert (.iface 321 v) xT 238 true).run Tryz.prog w = .ok (.tuple #[.nilIface, .bool false]) w := run_typeAssert_lacksB Tryz.underlying238 (by kernel_rfl) (by kernel_rfl) v xT w
theorem Tryz.noIsW (v : Value) (xT : TypeId) (w : World) : (Instr.typeAssert (.iface 188 v) xT 233 true).run Tryz.prog w = .ok (.tuple #[.nilIface, .bool false]) w := run_typeAssert_lacksB Tryz.underlying233 (by kernel_rfl) (by kernel_rfl) v xT w
theorem Tryz.hasUnwrapW (v : Value) (xT : TypeId) (w : World) : (Instr.typeAssert (.iface 188 v) xT 236 true).run Tryz.prog w = .ok (.tuple #[.iface 188 v, .bool true]) w := run_typeAssert_hasB Tryz.underlying236 (by kernel_rfl) v xT w
theorem Tryz.methodUnwrap (v : Value) (w : World) : (Go.method 459 188 v "Unwrap").run Tryz.prog w = .ok (268, v) w := by kernel_rfl
theorem is_nil (b : Addr) (w : World) :
    Calls Tryz.prog 91 #[.nilIface, .iface 321 (.pointer (some b))] w fun e w' => e = .returned (.bool false) ∧ w' = w := by
  have hn := run_eql_iface_nil_left (P := Tryz.prog) w 321 (.pointer (some b)) Tryz.underlying98
  go_enter Tryz.func91, Tryz.ntmps91
  go_wp2
  go_ret
  exact ⟨rfl, rfl⟩
set_option maxHeartbeats 2000000 in
theorem is_hin_same (pb : Nat) (b : Addr) (w : World) (h1 : w.cell? ⟨pb, 1, none⟩ = some (.iface 321 (.pointer (some b)))) :
    Calls Tryz.prog 91 #[.iface 188 (.pointer (some ⟨pb, 0, none⟩)), .iface 321 (.pointer (some b))] w fun e w' => e = .returned (.bool true) ∧ w' = w := by
  obtain ⟨i, hi, hcmp⟩ := Option.map_eq_some_iff.1 Tryz.isComp
  obtain ⟨j, hj, hjs⟩ := Option.map_eq_some_iff.1 Tryz.isSize
  have h8 := @run_callFunc_extern Tryz.prog 132 _ Extern.ReflectliteType.typeOf Tryz.func132 (by kernel_rfl) (by kernel_rfl) (by kernel_rfl) (by kernel_rfl)
  have tT := Tryz.isTypeOf
  have cT := Tryz.isCompCall
  have mR := Tryz.isMethodComparable
  have nE := Tryz.noIsE
  have uE := Tryz.noUnwrapE
  have vE := Tryz.noUnwrapsE
  have nW := Tryz.noIsW
  have uW := Tryz.hasUnwrapW
  have mU := Tryz.methodUnwrap
  have heq := run_eql_iface_ptr_same (P := Tryz.prog) w b Tryz.underlying98 Tryz.underlying321 hi hcmp hj
  have hty := run_eql_iface_types (P := Tryz.prog) 188 321 (.pointer (some ⟨pb, 0, none⟩)) (.pointer (some b)) Tryz.underlying98 (by decide) w
  go_enter Tryz.func91, Tryz.ntmps91
  go_wp2
  refine wp_loop_rounds 2 ?_
  rw [rounds_succ]
  go_wp2
  rw [rounds_succ]
  go_wp2
  go_ret
  exact ⟨rfl, rfl⟩
set_option maxHeartbeats 2000000 in
theorem is_hin_other (pb : Nat) (b a : Addr) (w : World) (h1 : w.cell? ⟨pb, 1, none⟩ = some (.iface 321 (.pointer (some a)))) (hne : a ≠ b) (ha' : ∃ cs t, w.heap[a.block]? = some (.cells cs t (0, 0))) (hb' : ∃ cs t, w.heap[b.block]? = some (.cells cs t (0, 0))) :
    Calls Tryz.prog 91 #[.iface 188 (.pointer (some ⟨pb, 0, none⟩)), .iface 321 (.pointer (some b))] w fun e w' => e = .returned (.bool false) ∧ w' = w := by
  obtain ⟨ca, ta, ha⟩ := ha'
  obtain ⟨cb, tb, hb⟩ := hb'
  obtain ⟨i, hi, hcmp⟩ := Option.map_eq_some_iff.1 Tryz.isComp
  obtain ⟨j, hj, hjs⟩ := Option.map_eq_some_iff.1 Tryz.isSize
  have h8 := @run_callFunc_extern Tryz.prog 132 _ Extern.ReflectliteType.typeOf Tryz.func132 (by kernel_rfl) (by kernel_rfl) (by kernel_rfl) (by kernel_rfl)
  have tT := Tryz.isTypeOf
  have cT := Tryz.isCompCall
  have mR := Tryz.isMethodComparable
  have nE := Tryz.noIsE
  have uE := Tryz.noUnwrapE
  have vE := Tryz.noUnwrapsE
  have nW := Tryz.noIsW
  have uW := Tryz.hasUnwrapW
  have mU := Tryz.methodUnwrap
  have heq := run_eql_iface_ptr_other (P := Tryz.prog) w Tryz.underlying98 Tryz.underlying321 hi hcmp hj (by rw [hjs]; decide) hne ha hb
  have hty := run_eql_iface_types (P := Tryz.prog) 188 321 (.pointer (some ⟨pb, 0, none⟩)) (.pointer (some b)) Tryz.underlying98 (by decide) w
  clear ha hb hne
  go_enter Tryz.func91, Tryz.ntmps91
  go_wp2
  refine wp_loop_rounds 2 ?_
  rw [rounds_succ]
  go_wp2
  rw [rounds_succ]
  go_wp2
  go_ret
  exact ⟨rfl, rfl⟩
end Go.Proofs.YteajcmkaoahbeaaGreatDoor
namespace Go.Proofs.YteajcmkaoahbeaaGreatDoor
open Go.RowKit Go.ChangeShapes

theorem Tryz.star : "*" ++ "errors.errorString" = "*errors.errorString" := by decide
theorem Tryz.rowE (u : TypeId) (h : Tryz.prog.typeName? 3 u = some "*errors.errorString") : u = 321 :=
  typeName_ptr_named (nm := "errors.errorString") (by rw [Tryz.star]; kernel_rfl) (by kernel_rfl) (by decide) u (by rw [Tryz.star]; exact h)
set_option maxHeartbeats 2000000 in
set_option maxRecDepth 100000 in
theorem of_laid_list {W : World} (h : laidMet Tryz.prog Rows.fnExactResolveRow.laid W) : ∃ E, LE E W := by
  obtain ⟨ps, ⟨g0, t0, cs0, f0, p0, q0, hg0, ht0, hv0, hd0, ⟨g1, t1, cs1, f1, p1, q1, hg1, ht1, hv1, hd1, ⟨g2, t2, cs2, f2, p2, q2, hg2, ht2, hv2, hd2, ⟨g3, t3, cs3, f3, p3, q3, hg3, ht3, hv3, hd3, hq3, e3⟩, e2⟩, e1⟩, e0⟩, hnd, hrows⟩ := h
  have hk0 : Tryz.prog.globalNamed (Rows.fnExactResolveRow.laid[0]).1 = some 0 := by kernel_rfl
  obtain rfl := Option.some.inj (hk0.symm.trans hg0)
  obtain rfl := Option.some.inj ((show (Tryz.prog.globals[0]?).map (·.type) = some 98 by kernel_rfl).symm.trans ht0)
  have hk1 : Tryz.prog.globalNamed (Rows.fnExactResolveRow.laid[1]).1 = some 1 := by kernel_rfl
  obtain rfl := Option.some.inj (hk1.symm.trans hg1)
  obtain rfl := Option.some.inj ((show (Tryz.prog.globals[1]?).map (·.type) = some 98 by kernel_rfl).symm.trans ht1)
  have hk2 : Tryz.prog.globalNamed (Rows.fnExactResolveRow.laid[2]).1 = some 2 := by kernel_rfl
  obtain rfl := Option.some.inj (hk2.symm.trans hg2)
  obtain rfl := Option.some.inj ((show (Tryz.prog.globals[2]?).map (·.type) = some 98 by kernel_rfl).symm.trans ht2)
  have hk3 : Tryz.prog.globalNamed (Rows.fnExactResolveRow.laid[3]).1 = some 3 := by kernel_rfl
  obtain rfl := Option.some.inj (hk3.symm.trans hg3)
  obtain rfl := Option.some.inj ((show (Tryz.prog.globals[3]?).map (·.type) = some 98 by kernel_rfl).symm.trans ht3)
  have hq3' : q3 = [] := hq3
  subst hq3'
  subst e3
  subst e2
  subst e1
  subst e0
  obtain ⟨l0⟩ := cs0
  have ok0 : ∀ u v, l0 = [.iface u v] → Value.okWide Tryz.prog W .any 0 u v := fun u v e => by
    subst e
    exact (hrows 0 0 (by simp [MemPlace.row])).2 u v (by simpa using World.var?_cell hg0 hv0 0)
  obtain ⟨a0, s0, rfl, hc0, hs0, hz0, rfl⟩ := errorString_of_trod Tryz.underlying98 Tryz.rowE Tryz.underlying321 Tryz.underlying348 rfl rfl Tryz.underlying9 (by kernel_rfl) (by kernel_rfl) hd0 ok0
  obtain ⟨l1⟩ := cs1
  have ok1 : ∀ u v, l1 = [.iface u v] → Value.okWide Tryz.prog W .any 0 u v := fun u v e => by
    subst e
    exact (hrows 1 0 (by simp [MemPlace.row])).2 u v (by simpa using World.var?_cell hg1 hv1 0)
  obtain ⟨a1, s1, rfl, hc1, hs1, hz1, rfl⟩ := errorString_of_trod Tryz.underlying98 Tryz.rowE Tryz.underlying321 Tryz.underlying348 rfl rfl Tryz.underlying9 (by kernel_rfl) (by kernel_rfl) hd1 ok1
  obtain ⟨l2⟩ := cs2
  have ok2 : ∀ u v, l2 = [.iface u v] → Value.okWide Tryz.prog W .any 0 u v := fun u v e => by
    subst e
    exact (hrows 2 0 (by simp [MemPlace.row])).2 u v (by simpa using World.var?_cell hg2 hv2 0)
  obtain ⟨a2, s2, rfl, hc2, hs2, hz2, rfl⟩ := errorString_of_trod Tryz.underlying98 Tryz.rowE Tryz.underlying321 Tryz.underlying348 rfl rfl Tryz.underlying9 (by kernel_rfl) (by kernel_rfl) hd2 ok2
  obtain ⟨l3⟩ := cs3
  have ok3 : ∀ u v, l3 = [.iface u v] → Value.okWide Tryz.prog W .any 0 u v := fun u v e => by
    subst e
    exact (hrows 3 0 (by simp [MemPlace.row])).2 u v (by simpa using World.var?_cell hg3 hv3 0)
  obtain ⟨a3, s3, rfl, hc3, hs3, hz3, rfl⟩ := errorString_of_trod Tryz.underlying98 Tryz.rowE Tryz.underlying321 Tryz.underlying348 rfl rfl Tryz.underlying9 (by kernel_rfl) (by kernel_rfl) hd3 ok3
  obtain ⟨c0, y0, hb0⟩ := (hrows a0.block a0.off (by simp [MemPlace.row])).1
  obtain ⟨c1, y1, hb1⟩ := (hrows a1.block a1.off (by simp [MemPlace.row])).1
  obtain ⟨c2, y2, hb2⟩ := (hrows a2.block a2.off (by simp [MemPlace.row])).1
  obtain ⟨c3, y3, hb3⟩ := (hrows a3.block a3.off (by simp [MemPlace.row])).1
  refine ⟨⟨a0, a1, a2, a3⟩, ?_, ?_, ?_, ?_, ⟨c0, y0, hb0⟩, ⟨c1, y1, hb1⟩, ⟨c2, y2, hb2⟩, ⟨c3, y3, hb3⟩, ?_, ?_, ?_, ?_, ?_, ?_⟩
  · simpa using World.var?_cell hg0 hv0 0
  · simpa using World.var?_cell hg1 hv1 0
  · simpa using World.var?_cell hg2 hv2 0
  · simpa using World.var?_cell hg3 hv3 0
  · rintro (e : a0 = a1)
    subst e
    simp [MemPlace.row] at hnd
  · rintro (e : a0 = a2)
    subst e
    simp [MemPlace.row] at hnd
  · rintro (e : a0 = a3)
    subst e
    simp [MemPlace.row] at hnd
  · rintro (e : a1 = a2)
    subst e
    simp [MemPlace.row] at hnd
  · rintro (e : a1 = a3)
    subst e
    simp [MemPlace.row] at hnd
  · rintro (e : a2 = a3)
    subst e
    simp [MemPlace.row] at hnd
end Go.Proofs.YteajcmkaoahbeaaGreatDoor
