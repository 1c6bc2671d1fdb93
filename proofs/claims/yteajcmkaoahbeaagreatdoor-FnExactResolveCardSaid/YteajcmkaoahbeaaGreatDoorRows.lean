/-
  NARROWER THAN 'FOR EVERY INPUT', by the rows' own cells (each row's printed sentence says how): FnExactResolve: ifaces, laid · FnExactStateAhead: ifaces, laid · FnExactStateBehind: ifaces, laid · FnExactRefused: ifaces, laid · FnExactEndsOf: ifaces, laid · FnExactCurrentOf: ifaces, laid.
  DERIVED. THE GIVEN ROWS OF THIS SEAT. 6 by the template 'for every input the law returns true; each argument reads behind the call as it read before'; 0 by the template 'total and deterministic' (their statements: YteajcmkaoahbeaaGreatDoorTotals.lean).
  GIVEN WITH THE SEED: the statements are not yours to turn. If you find one false, say at which input.
  Laid BY PROGRAM, IN A SANDBOX (cutbox-rows.mjs): the forced cells as the released guide's own fill.sh prints them over the translation 4276ed8eee65ff0a… (all of the seat's roots in one cut). By AI agents, Wed Nov 11 2026. No macro, syntax, notation, axiom, sorry.
-/
import Derived.Test.YteajcmkaoahbeaaGreatDoorChecked
import GoSem.Claim
import GoSem.ClaimJoined
import GoSem.ClaimMapViews
import Derived.JoinedTies
import Derived.KernelRfl
namespace Go.Proofs.YteajcmkaoahbeaaGreatDoor
/- THE CELL 'sum', in the pinned program and in every row, IS THE sha256 OF THE DUMP (.gsa) THAT YteajcmkaoahbeaaGreatDoorProg.lean LOADS. Nothing in Lean hashes anything: it is a label: what it is worth is what the hold of that sum in a sandbox is worth. -/
noncomputable def Tryz.pinned : Pinned := { name := "yteajcmkaoahbeaagreatdoor", sum := "4276ed8eee65ff0aa4e90d18a18820d9255b9fbec15ab90f05c4742d67c52fa9", checked := Tryz.checked }
namespace Rows
def none {H : Type} : Left H := { results := [], args := [] }

/- WHAT THE LISTED PACKAGE-LEVEL VARIABLES READ AS WHEN THE CALL BEGINS. Each datum BY PROGRAM (the guide's laid-datum.mjs) off the statement by which the dump's own 'gosem.cut.vars' lays the variable. In a bare row this is a premise. The card (YteajcmkaoahbeaaGreatDoorCards.lean) ties it to the program's text. -/
def laid_loop_example_g00683_impl_errBegun {H : Type} : DataW H := .iface "*errors.errorString" (.ptr (.agg [.lit (.string [116, 104, 101, 32, 114, 111, 111, 109, 32, 104, 97, 115, 32, 98, 101, 103, 117, 110, 32, 97, 108, 114, 101, 97, 100, 121])]))
def laid_loop_example_g00683_impl_errNotBegun {H : Type} : DataW H := .iface "*errors.errorString" (.ptr (.agg [.lit (.string [116, 104, 101, 32, 114, 111, 111, 109, 32, 104, 97, 115, 32, 110, 111, 116, 32, 98, 101, 103, 117, 110])]))
def laid_loop_example_g00683_impl_errNoEvent {H : Type} : DataW H := .iface "*errors.errorString" (.ptr (.agg [.lit (.string [116, 104, 101, 114, 101, 32, 105, 115, 32, 110, 111, 32, 115, 117, 99, 104, 32, 101, 118, 101, 110, 116])]))
def laid_loop_example_g00683_impl_errDenied {H : Type} : DataW H := .iface "*errors.errorString" (.ptr (.agg [.lit (.string [110, 111, 116, 32, 97, 108, 108, 111, 119, 101, 100])]))

/-- 'laws.FnExactResolve': WHATEVER THE INPUT: true; the input reads as it did. -/
def fnExactResolveSpec : ChangeSpec := { name := "fnExactResolve", vars := ["loop.example/g00683/impl.errBegun", "loop.example/g00683/impl.errNotBegun", "loop.example/g00683/impl.errDenied", "loop.example/g00683/impl.errNoEvent"], fn := fun _ => fun
  | [d1, d2, g1, g2, g3, g4] => { results := [.lit (.bool true)], args := [d1, d2], vars := [g1, g2, g3, g4] }
  | _ => none }
def fnExactResolveRow : OpenClaim := { program := "yteajcmkaoahbeaagreatdoor", sum := "4276ed8eee65ff0aa4e90d18a18820d9255b9fbec15ab90f05c4742d67c52fa9", func := "loop.example/g00683/laws.FnExactResolve", spec := "fnExactResolve", inPlace := ["sync/atomic.LoadUint32", "(*internal/sync.Mutex).Lock", "internal/race.Disable", "sync/atomic.CompareAndSwapInt32", "internal/race.Enable", "internal/race.Acquire", "(*internal/sync.Mutex).lockSlow", "internal/sync.runtime_canSpin", "internal/sync.runtime_doSpin", "internal/sync.throw", "internal/sync.runtime_nanotime", "internal/sync.runtime_SemacquireMutex", "sync/atomic.AddInt32", "(*internal/sync.Mutex).Unlock", "internal/race.ReleaseMerge", "(*internal/sync.Mutex).unlockSlow", "internal/sync.fatal", "internal/sync.runtime_Semrelease", "sync/atomic.StoreUint32"], unfollowed := true, recurses := true, named := ["loop.example/g00683/impl.errBegun", "loop.example/g00683/impl.errNotBegun", "loop.example/g00683/impl.errDenied", "loop.example/g00683/impl.errNoEvent"], ifaces := true, plainKeys := false, apart := false, laid := [("loop.example/g00683/impl.errBegun", laid_loop_example_g00683_impl_errBegun), ("loop.example/g00683/impl.errNotBegun", laid_loop_example_g00683_impl_errNotBegun), ("loop.example/g00683/impl.errNoEvent", laid_loop_example_g00683_impl_errNoEvent), ("loop.example/g00683/impl.errDenied", laid_loop_example_g00683_impl_errDenied)] }
def FnExactResolveSaid : Prop := fnExactResolveRow.holds Tryz.pinned (OpenSpec.ofChange fnExactResolveSpec)

/-- ITS FALSE NEIGHBOUR: 'it returns false'. Refute it at one input. -/
def fnExactResolveWrong : ChangeSpec := { name := "fnExactResolve", vars := ["loop.example/g00683/impl.errBegun", "loop.example/g00683/impl.errNotBegun", "loop.example/g00683/impl.errDenied", "loop.example/g00683/impl.errNoEvent"], fn := fun _ => fun
  | [d1, d2, g1, g2, g3, g4] => { results := [.lit (.bool false)], args := [d1, d2], vars := [g1, g2, g3, g4] }
  | _ => none }
def FnExactResolveWrongFalsely : Prop := fnExactResolveRow.holds Tryz.pinned (OpenSpec.ofChange fnExactResolveWrong)

/-- 'laws.FnExactStateAhead': WHATEVER THE INPUT: true; the input reads as it did. -/
def fnExactStateAheadSpec : ChangeSpec := { name := "fnExactStateAhead", vars := ["loop.example/g00683/impl.errBegun", "loop.example/g00683/impl.errNotBegun", "loop.example/g00683/impl.errDenied", "loop.example/g00683/impl.errNoEvent"], fn := fun _ => fun
  | [d1, d2, g1, g2, g3, g4] => { results := [.lit (.bool true)], args := [d1, d2], vars := [g1, g2, g3, g4] }
  | _ => none }
def fnExactStateAheadRow : OpenClaim := { program := "yteajcmkaoahbeaagreatdoor", sum := "4276ed8eee65ff0aa4e90d18a18820d9255b9fbec15ab90f05c4742d67c52fa9", func := "loop.example/g00683/laws.FnExactStateAhead", spec := "fnExactStateAhead", inPlace := ["sync/atomic.LoadUint32", "(*internal/sync.Mutex).Lock", "internal/race.Disable", "sync/atomic.CompareAndSwapInt32", "internal/race.Enable", "internal/race.Acquire", "(*internal/sync.Mutex).lockSlow", "internal/sync.runtime_canSpin", "internal/sync.runtime_doSpin", "internal/sync.throw", "internal/sync.runtime_nanotime", "internal/sync.runtime_SemacquireMutex", "sync/atomic.AddInt32", "(*internal/sync.Mutex).Unlock", "internal/race.ReleaseMerge", "(*internal/sync.Mutex).unlockSlow", "internal/sync.fatal", "internal/sync.runtime_Semrelease", "sync/atomic.StoreUint32", "maps.clone"], unfollowed := true, recurses := true, named := ["loop.example/g00683/impl.errBegun", "loop.example/g00683/impl.errNotBegun", "loop.example/g00683/impl.errDenied", "loop.example/g00683/impl.errNoEvent"], ifaces := true, plainKeys := false, apart := false, laid := [("loop.example/g00683/impl.errBegun", laid_loop_example_g00683_impl_errBegun), ("loop.example/g00683/impl.errNotBegun", laid_loop_example_g00683_impl_errNotBegun), ("loop.example/g00683/impl.errNoEvent", laid_loop_example_g00683_impl_errNoEvent), ("loop.example/g00683/impl.errDenied", laid_loop_example_g00683_impl_errDenied)] }
def FnExactStateAheadSaid : Prop := fnExactStateAheadRow.holds Tryz.pinned (OpenSpec.ofChange fnExactStateAheadSpec)

/-- ITS FALSE NEIGHBOUR: 'it returns false'. Refute it at one input. -/
def fnExactStateAheadWrong : ChangeSpec := { name := "fnExactStateAhead", vars := ["loop.example/g00683/impl.errBegun", "loop.example/g00683/impl.errNotBegun", "loop.example/g00683/impl.errDenied", "loop.example/g00683/impl.errNoEvent"], fn := fun _ => fun
  | [d1, d2, g1, g2, g3, g4] => { results := [.lit (.bool false)], args := [d1, d2], vars := [g1, g2, g3, g4] }
  | _ => none }
def FnExactStateAheadWrongFalsely : Prop := fnExactStateAheadRow.holds Tryz.pinned (OpenSpec.ofChange fnExactStateAheadWrong)

/-- 'laws.FnExactStateBehind': WHATEVER THE INPUT: true; the input reads as it did. -/
def fnExactStateBehindSpec : ChangeSpec := { name := "fnExactStateBehind", vars := ["loop.example/g00683/impl.errBegun", "loop.example/g00683/impl.errNotBegun", "loop.example/g00683/impl.errDenied", "loop.example/g00683/impl.errNoEvent"], fn := fun _ => fun
  | [d1, d2, g1, g2, g3, g4] => { results := [.lit (.bool true)], args := [d1, d2], vars := [g1, g2, g3, g4] }
  | _ => none }
def fnExactStateBehindRow : OpenClaim := { program := "yteajcmkaoahbeaagreatdoor", sum := "4276ed8eee65ff0aa4e90d18a18820d9255b9fbec15ab90f05c4742d67c52fa9", func := "loop.example/g00683/laws.FnExactStateBehind", spec := "fnExactStateBehind", inPlace := ["sync/atomic.LoadUint32", "(*internal/sync.Mutex).Lock", "internal/race.Disable", "sync/atomic.CompareAndSwapInt32", "internal/race.Enable", "internal/race.Acquire", "(*internal/sync.Mutex).lockSlow", "internal/sync.runtime_canSpin", "internal/sync.runtime_doSpin", "internal/sync.throw", "internal/sync.runtime_nanotime", "internal/sync.runtime_SemacquireMutex", "sync/atomic.AddInt32", "(*internal/sync.Mutex).Unlock", "internal/race.ReleaseMerge", "(*internal/sync.Mutex).unlockSlow", "internal/sync.fatal", "internal/sync.runtime_Semrelease", "sync/atomic.StoreUint32", "maps.clone"], unfollowed := true, recurses := true, named := ["loop.example/g00683/impl.errBegun", "loop.example/g00683/impl.errNotBegun", "loop.example/g00683/impl.errDenied", "loop.example/g00683/impl.errNoEvent"], ifaces := true, plainKeys := false, apart := false, laid := [("loop.example/g00683/impl.errBegun", laid_loop_example_g00683_impl_errBegun), ("loop.example/g00683/impl.errNotBegun", laid_loop_example_g00683_impl_errNotBegun), ("loop.example/g00683/impl.errNoEvent", laid_loop_example_g00683_impl_errNoEvent), ("loop.example/g00683/impl.errDenied", laid_loop_example_g00683_impl_errDenied)] }
def FnExactStateBehindSaid : Prop := fnExactStateBehindRow.holds Tryz.pinned (OpenSpec.ofChange fnExactStateBehindSpec)

/-- ITS FALSE NEIGHBOUR: 'it returns false'. Refute it at one input. -/
def fnExactStateBehindWrong : ChangeSpec := { name := "fnExactStateBehind", vars := ["loop.example/g00683/impl.errBegun", "loop.example/g00683/impl.errNotBegun", "loop.example/g00683/impl.errDenied", "loop.example/g00683/impl.errNoEvent"], fn := fun _ => fun
  | [d1, d2, g1, g2, g3, g4] => { results := [.lit (.bool false)], args := [d1, d2], vars := [g1, g2, g3, g4] }
  | _ => none }
def FnExactStateBehindWrongFalsely : Prop := fnExactStateBehindRow.holds Tryz.pinned (OpenSpec.ofChange fnExactStateBehindWrong)

/-- 'laws.FnExactRefused': WHATEVER THE INPUT: true; the input reads as it did. -/
def fnExactRefusedSpec : ChangeSpec := { name := "fnExactRefused", vars := ["loop.example/g00683/impl.errBegun", "loop.example/g00683/impl.errNotBegun", "loop.example/g00683/impl.errDenied", "loop.example/g00683/impl.errNoEvent"], fn := fun _ => fun
  | [d1, d2, g1, g2, g3, g4] => { results := [.lit (.bool true)], args := [d1, d2], vars := [g1, g2, g3, g4] }
  | _ => none }
def fnExactRefusedRow : OpenClaim := { program := "yteajcmkaoahbeaagreatdoor", sum := "4276ed8eee65ff0aa4e90d18a18820d9255b9fbec15ab90f05c4742d67c52fa9", func := "loop.example/g00683/laws.FnExactRefused", spec := "fnExactRefused", inPlace := ["sync/atomic.LoadUint32", "(*internal/sync.Mutex).Lock", "internal/race.Disable", "sync/atomic.CompareAndSwapInt32", "internal/race.Enable", "internal/race.Acquire", "(*internal/sync.Mutex).lockSlow", "internal/sync.runtime_canSpin", "internal/sync.runtime_doSpin", "internal/sync.throw", "internal/sync.runtime_nanotime", "internal/sync.runtime_SemacquireMutex", "sync/atomic.AddInt32", "(*internal/sync.Mutex).Unlock", "internal/race.ReleaseMerge", "(*internal/sync.Mutex).unlockSlow", "internal/sync.fatal", "internal/sync.runtime_Semrelease", "sync/atomic.StoreUint32", "maps.clone", "internal/reflectlite.TypeOf"], unfollowed := true, recurses := true, named := ["loop.example/g00683/impl.errBegun", "loop.example/g00683/impl.errNotBegun", "loop.example/g00683/impl.errDenied", "loop.example/g00683/impl.errNoEvent"], ifaces := true, plainKeys := false, apart := false, laid := [("loop.example/g00683/impl.errBegun", laid_loop_example_g00683_impl_errBegun), ("loop.example/g00683/impl.errNotBegun", laid_loop_example_g00683_impl_errNotBegun), ("loop.example/g00683/impl.errNoEvent", laid_loop_example_g00683_impl_errNoEvent), ("loop.example/g00683/impl.errDenied", laid_loop_example_g00683_impl_errDenied)] }
def FnExactRefusedSaid : Prop := fnExactRefusedRow.holds Tryz.pinned (OpenSpec.ofChange fnExactRefusedSpec)

/-- ITS FALSE NEIGHBOUR: 'it returns false'. Refute it at one input. -/
def fnExactRefusedWrong : ChangeSpec := { name := "fnExactRefused", vars := ["loop.example/g00683/impl.errBegun", "loop.example/g00683/impl.errNotBegun", "loop.example/g00683/impl.errDenied", "loop.example/g00683/impl.errNoEvent"], fn := fun _ => fun
  | [d1, d2, g1, g2, g3, g4] => { results := [.lit (.bool false)], args := [d1, d2], vars := [g1, g2, g3, g4] }
  | _ => none }
def FnExactRefusedWrongFalsely : Prop := fnExactRefusedRow.holds Tryz.pinned (OpenSpec.ofChange fnExactRefusedWrong)

/-- 'laws.FnExactEndsOf': WHATEVER THE INPUT: true; the input reads as it did. -/
def fnExactEndsOfSpec : ChangeSpec := { name := "fnExactEndsOf", vars := ["loop.example/g00683/impl.errBegun", "loop.example/g00683/impl.errNotBegun", "loop.example/g00683/impl.errDenied", "loop.example/g00683/impl.errNoEvent"], fn := fun _ => fun
  | [d, g1, g2, g3, g4] => { results := [.lit (.bool true)], args := [d], vars := [g1, g2, g3, g4] }
  | _ => none }
def fnExactEndsOfRow : OpenClaim := { program := "yteajcmkaoahbeaagreatdoor", sum := "4276ed8eee65ff0aa4e90d18a18820d9255b9fbec15ab90f05c4742d67c52fa9", func := "loop.example/g00683/laws.FnExactEndsOf", spec := "fnExactEndsOf", inPlace := ["sync/atomic.LoadUint32", "(*internal/sync.Mutex).Lock", "internal/race.Disable", "sync/atomic.CompareAndSwapInt32", "internal/race.Enable", "internal/race.Acquire", "(*internal/sync.Mutex).lockSlow", "internal/sync.runtime_canSpin", "internal/sync.runtime_doSpin", "internal/sync.throw", "internal/sync.runtime_nanotime", "internal/sync.runtime_SemacquireMutex", "sync/atomic.AddInt32", "(*internal/sync.Mutex).Unlock", "internal/race.ReleaseMerge", "(*internal/sync.Mutex).unlockSlow", "internal/sync.fatal", "internal/sync.runtime_Semrelease", "sync/atomic.StoreUint32", "maps.clone"], unfollowed := true, recurses := true, named := ["loop.example/g00683/impl.errBegun", "loop.example/g00683/impl.errNotBegun", "loop.example/g00683/impl.errDenied", "loop.example/g00683/impl.errNoEvent"], ifaces := true, plainKeys := false, apart := false, laid := [("loop.example/g00683/impl.errBegun", laid_loop_example_g00683_impl_errBegun), ("loop.example/g00683/impl.errNotBegun", laid_loop_example_g00683_impl_errNotBegun), ("loop.example/g00683/impl.errNoEvent", laid_loop_example_g00683_impl_errNoEvent), ("loop.example/g00683/impl.errDenied", laid_loop_example_g00683_impl_errDenied)] }
def FnExactEndsOfSaid : Prop := fnExactEndsOfRow.holds Tryz.pinned (OpenSpec.ofChange fnExactEndsOfSpec)

/-- ITS FALSE NEIGHBOUR: 'it returns false'. Refute it at one input. -/
def fnExactEndsOfWrong : ChangeSpec := { name := "fnExactEndsOf", vars := ["loop.example/g00683/impl.errBegun", "loop.example/g00683/impl.errNotBegun", "loop.example/g00683/impl.errDenied", "loop.example/g00683/impl.errNoEvent"], fn := fun _ => fun
  | [d, g1, g2, g3, g4] => { results := [.lit (.bool false)], args := [d], vars := [g1, g2, g3, g4] }
  | _ => none }
def FnExactEndsOfWrongFalsely : Prop := fnExactEndsOfRow.holds Tryz.pinned (OpenSpec.ofChange fnExactEndsOfWrong)

/-- 'laws.FnExactCurrentOf': WHATEVER THE INPUT: true; the input reads as it did. -/
def fnExactCurrentOfSpec : ChangeSpec := { name := "fnExactCurrentOf", vars := ["loop.example/g00683/impl.errBegun", "loop.example/g00683/impl.errNotBegun", "loop.example/g00683/impl.errDenied", "loop.example/g00683/impl.errNoEvent"], fn := fun _ => fun
  | [d, g1, g2, g3, g4] => { results := [.lit (.bool true)], args := [d], vars := [g1, g2, g3, g4] }
  | _ => none }
def fnExactCurrentOfRow : OpenClaim := { program := "yteajcmkaoahbeaagreatdoor", sum := "4276ed8eee65ff0aa4e90d18a18820d9255b9fbec15ab90f05c4742d67c52fa9", func := "loop.example/g00683/laws.FnExactCurrentOf", spec := "fnExactCurrentOf", inPlace := ["sync/atomic.LoadUint32", "(*internal/sync.Mutex).Lock", "internal/race.Disable", "sync/atomic.CompareAndSwapInt32", "internal/race.Enable", "internal/race.Acquire", "(*internal/sync.Mutex).lockSlow", "internal/sync.runtime_canSpin", "internal/sync.runtime_doSpin", "internal/sync.throw", "internal/sync.runtime_nanotime", "internal/sync.runtime_SemacquireMutex", "sync/atomic.AddInt32", "(*internal/sync.Mutex).Unlock", "internal/race.ReleaseMerge", "(*internal/sync.Mutex).unlockSlow", "internal/sync.fatal", "internal/sync.runtime_Semrelease", "sync/atomic.StoreUint32", "maps.clone"], unfollowed := true, recurses := true, named := ["loop.example/g00683/impl.errBegun", "loop.example/g00683/impl.errNotBegun", "loop.example/g00683/impl.errDenied", "loop.example/g00683/impl.errNoEvent"], ifaces := true, plainKeys := false, apart := false, laid := [("loop.example/g00683/impl.errBegun", laid_loop_example_g00683_impl_errBegun), ("loop.example/g00683/impl.errNotBegun", laid_loop_example_g00683_impl_errNotBegun), ("loop.example/g00683/impl.errNoEvent", laid_loop_example_g00683_impl_errNoEvent), ("loop.example/g00683/impl.errDenied", laid_loop_example_g00683_impl_errDenied)] }
def FnExactCurrentOfSaid : Prop := fnExactCurrentOfRow.holds Tryz.pinned (OpenSpec.ofChange fnExactCurrentOfSpec)

/-- ITS FALSE NEIGHBOUR: 'it returns false'. Refute it at one input. -/
def fnExactCurrentOfWrong : ChangeSpec := { name := "fnExactCurrentOf", vars := ["loop.example/g00683/impl.errBegun", "loop.example/g00683/impl.errNotBegun", "loop.example/g00683/impl.errDenied", "loop.example/g00683/impl.errNoEvent"], fn := fun _ => fun
  | [d, g1, g2, g3, g4] => { results := [.lit (.bool false)], args := [d], vars := [g1, g2, g3, g4] }
  | _ => none }
def FnExactCurrentOfWrongFalsely : Prop := fnExactCurrentOfRow.holds Tryz.pinned (OpenSpec.ofChange fnExactCurrentOfWrong)

/- THE SECOND FORM. 'bulk': how many values and letters a reading holds, each counted each time it is reached (what is shared counts as often as it is met; a slice's spare places count too). A statement '..UptoSaid' is the law's where the arguments, and the package variables that the reading takes, are together of bulk at most 1048576: NARROWER than '..Said'. Prove '..Said' where nothing that the law and all that it calls make is longer than what came in: it says more and counts as full. Else prove '..UptoSaid'. A law counts once. -/
mutual
def uptoBulk {H : Type} : DataW H → Nat
  | .lit (.string bytes) => bytes.length + 1
  | .lit _ => 1
  | .nil => 1
  | .ptr d => uptoBulk d + 1
  | .slice elems spare => uptoBulkAll elems + uptoBulkAll spare + 1
  | .agg parts => uptoBulkAll parts + 1
  | .iface _ d => uptoBulk d + 1
  | .map entries => uptoBulkEntries entries + 1
  | .held _ => 1
def uptoBulkAll {H : Type} : List (DataW H) → Nat
  | [] => 0
  | d :: r => uptoBulk d + uptoBulkAll r
def uptoBulkEntries {H : Type} : List (Lit × DataW H) → Nat
  | [] => 0
  | x :: r => uptoBulkEntry x + uptoBulkEntries r
def uptoBulkEntry {H : Type} : Lit × DataW H → Nat
  | (.string bytes, d) => bytes.length + uptoBulk d + 1
  | (_, d) => uptoBulk d + 1
 end
def uptoSmall : (H : Type) → List (DataW H) → Bool := fun _ ds => decide (uptoBulkAll ds ≤ 1048576)
def OpenSpec.upto (s : _root_.Go.ChangeSpec) : _root_.Go.OpenSpec := { _root_.Go.OpenSpec.ofChange s with cond := some uptoSmall }

/-- 'laws.FnExactResolve', WHERE WHAT IT READS IS OF BULK AT MOST 1048576: true; the input reads as it did. -/
def fnExactResolveUptoRow : OpenClaim := { program := "yteajcmkaoahbeaagreatdoor", sum := "4276ed8eee65ff0aa4e90d18a18820d9255b9fbec15ab90f05c4742d67c52fa9", func := "loop.example/g00683/laws.FnExactResolve", spec := "fnExactResolve", inPlace := ["sync/atomic.LoadUint32", "(*internal/sync.Mutex).Lock", "internal/race.Disable", "sync/atomic.CompareAndSwapInt32", "internal/race.Enable", "internal/race.Acquire", "(*internal/sync.Mutex).lockSlow", "internal/sync.runtime_canSpin", "internal/sync.runtime_doSpin", "internal/sync.throw", "internal/sync.runtime_nanotime", "internal/sync.runtime_SemacquireMutex", "sync/atomic.AddInt32", "(*internal/sync.Mutex).Unlock", "internal/race.ReleaseMerge", "(*internal/sync.Mutex).unlockSlow", "internal/sync.fatal", "internal/sync.runtime_Semrelease", "sync/atomic.StoreUint32"], unfollowed := true, recurses := true, named := ["loop.example/g00683/impl.errBegun", "loop.example/g00683/impl.errNotBegun", "loop.example/g00683/impl.errDenied", "loop.example/g00683/impl.errNoEvent"], ifaces := true, plainKeys := false, apart := false, laid := [("loop.example/g00683/impl.errBegun", laid_loop_example_g00683_impl_errBegun), ("loop.example/g00683/impl.errNotBegun", laid_loop_example_g00683_impl_errNotBegun), ("loop.example/g00683/impl.errNoEvent", laid_loop_example_g00683_impl_errNoEvent), ("loop.example/g00683/impl.errDenied", laid_loop_example_g00683_impl_errDenied)], narrowed := true }
def FnExactResolveUptoSaid : Prop := fnExactResolveUptoRow.holds Tryz.pinned (OpenSpec.upto fnExactResolveSpec)

/-- 'laws.FnExactStateAhead', WHERE WHAT IT READS IS OF BULK AT MOST 1048576: true; the input reads as it did. -/
def fnExactStateAheadUptoRow : OpenClaim := { program := "yteajcmkaoahbeaagreatdoor", sum := "4276ed8eee65ff0aa4e90d18a18820d9255b9fbec15ab90f05c4742d67c52fa9", func := "loop.example/g00683/laws.FnExactStateAhead", spec := "fnExactStateAhead", inPlace := ["sync/atomic.LoadUint32", "(*internal/sync.Mutex).Lock", "internal/race.Disable", "sync/atomic.CompareAndSwapInt32", "internal/race.Enable", "internal/race.Acquire", "(*internal/sync.Mutex).lockSlow", "internal/sync.runtime_canSpin", "internal/sync.runtime_doSpin", "internal/sync.throw", "internal/sync.runtime_nanotime", "internal/sync.runtime_SemacquireMutex", "sync/atomic.AddInt32", "(*internal/sync.Mutex).Unlock", "internal/race.ReleaseMerge", "(*internal/sync.Mutex).unlockSlow", "internal/sync.fatal", "internal/sync.runtime_Semrelease", "sync/atomic.StoreUint32", "maps.clone"], unfollowed := true, recurses := true, named := ["loop.example/g00683/impl.errBegun", "loop.example/g00683/impl.errNotBegun", "loop.example/g00683/impl.errDenied", "loop.example/g00683/impl.errNoEvent"], ifaces := true, plainKeys := false, apart := false, laid := [("loop.example/g00683/impl.errBegun", laid_loop_example_g00683_impl_errBegun), ("loop.example/g00683/impl.errNotBegun", laid_loop_example_g00683_impl_errNotBegun), ("loop.example/g00683/impl.errNoEvent", laid_loop_example_g00683_impl_errNoEvent), ("loop.example/g00683/impl.errDenied", laid_loop_example_g00683_impl_errDenied)], narrowed := true }
def FnExactStateAheadUptoSaid : Prop := fnExactStateAheadUptoRow.holds Tryz.pinned (OpenSpec.upto fnExactStateAheadSpec)

/-- 'laws.FnExactStateBehind', WHERE WHAT IT READS IS OF BULK AT MOST 1048576: true; the input reads as it did. -/
def fnExactStateBehindUptoRow : OpenClaim := { program := "yteajcmkaoahbeaagreatdoor", sum := "4276ed8eee65ff0aa4e90d18a18820d9255b9fbec15ab90f05c4742d67c52fa9", func := "loop.example/g00683/laws.FnExactStateBehind", spec := "fnExactStateBehind", inPlace := ["sync/atomic.LoadUint32", "(*internal/sync.Mutex).Lock", "internal/race.Disable", "sync/atomic.CompareAndSwapInt32", "internal/race.Enable", "internal/race.Acquire", "(*internal/sync.Mutex).lockSlow", "internal/sync.runtime_canSpin", "internal/sync.runtime_doSpin", "internal/sync.throw", "internal/sync.runtime_nanotime", "internal/sync.runtime_SemacquireMutex", "sync/atomic.AddInt32", "(*internal/sync.Mutex).Unlock", "internal/race.ReleaseMerge", "(*internal/sync.Mutex).unlockSlow", "internal/sync.fatal", "internal/sync.runtime_Semrelease", "sync/atomic.StoreUint32", "maps.clone"], unfollowed := true, recurses := true, named := ["loop.example/g00683/impl.errBegun", "loop.example/g00683/impl.errNotBegun", "loop.example/g00683/impl.errDenied", "loop.example/g00683/impl.errNoEvent"], ifaces := true, plainKeys := false, apart := false, laid := [("loop.example/g00683/impl.errBegun", laid_loop_example_g00683_impl_errBegun), ("loop.example/g00683/impl.errNotBegun", laid_loop_example_g00683_impl_errNotBegun), ("loop.example/g00683/impl.errNoEvent", laid_loop_example_g00683_impl_errNoEvent), ("loop.example/g00683/impl.errDenied", laid_loop_example_g00683_impl_errDenied)], narrowed := true }
def FnExactStateBehindUptoSaid : Prop := fnExactStateBehindUptoRow.holds Tryz.pinned (OpenSpec.upto fnExactStateBehindSpec)

/-- 'laws.FnExactRefused', WHERE WHAT IT READS IS OF BULK AT MOST 1048576: true; the input reads as it did. -/
def fnExactRefusedUptoRow : OpenClaim := { program := "yteajcmkaoahbeaagreatdoor", sum := "4276ed8eee65ff0aa4e90d18a18820d9255b9fbec15ab90f05c4742d67c52fa9", func := "loop.example/g00683/laws.FnExactRefused", spec := "fnExactRefused", inPlace := ["sync/atomic.LoadUint32", "(*internal/sync.Mutex).Lock", "internal/race.Disable", "sync/atomic.CompareAndSwapInt32", "internal/race.Enable", "internal/race.Acquire", "(*internal/sync.Mutex).lockSlow", "internal/sync.runtime_canSpin", "internal/sync.runtime_doSpin", "internal/sync.throw", "internal/sync.runtime_nanotime", "internal/sync.runtime_SemacquireMutex", "sync/atomic.AddInt32", "(*internal/sync.Mutex).Unlock", "internal/race.ReleaseMerge", "(*internal/sync.Mutex).unlockSlow", "internal/sync.fatal", "internal/sync.runtime_Semrelease", "sync/atomic.StoreUint32", "maps.clone", "internal/reflectlite.TypeOf"], unfollowed := true, recurses := true, named := ["loop.example/g00683/impl.errBegun", "loop.example/g00683/impl.errNotBegun", "loop.example/g00683/impl.errDenied", "loop.example/g00683/impl.errNoEvent"], ifaces := true, plainKeys := false, apart := false, laid := [("loop.example/g00683/impl.errBegun", laid_loop_example_g00683_impl_errBegun), ("loop.example/g00683/impl.errNotBegun", laid_loop_example_g00683_impl_errNotBegun), ("loop.example/g00683/impl.errNoEvent", laid_loop_example_g00683_impl_errNoEvent), ("loop.example/g00683/impl.errDenied", laid_loop_example_g00683_impl_errDenied)], narrowed := true }
def FnExactRefusedUptoSaid : Prop := fnExactRefusedUptoRow.holds Tryz.pinned (OpenSpec.upto fnExactRefusedSpec)

/-- 'laws.FnExactEndsOf', WHERE WHAT IT READS IS OF BULK AT MOST 1048576: true; the input reads as it did. -/
def fnExactEndsOfUptoRow : OpenClaim := { program := "yteajcmkaoahbeaagreatdoor", sum := "4276ed8eee65ff0aa4e90d18a18820d9255b9fbec15ab90f05c4742d67c52fa9", func := "loop.example/g00683/laws.FnExactEndsOf", spec := "fnExactEndsOf", inPlace := ["sync/atomic.LoadUint32", "(*internal/sync.Mutex).Lock", "internal/race.Disable", "sync/atomic.CompareAndSwapInt32", "internal/race.Enable", "internal/race.Acquire", "(*internal/sync.Mutex).lockSlow", "internal/sync.runtime_canSpin", "internal/sync.runtime_doSpin", "internal/sync.throw", "internal/sync.runtime_nanotime", "internal/sync.runtime_SemacquireMutex", "sync/atomic.AddInt32", "(*internal/sync.Mutex).Unlock", "internal/race.ReleaseMerge", "(*internal/sync.Mutex).unlockSlow", "internal/sync.fatal", "internal/sync.runtime_Semrelease", "sync/atomic.StoreUint32", "maps.clone"], unfollowed := true, recurses := true, named := ["loop.example/g00683/impl.errBegun", "loop.example/g00683/impl.errNotBegun", "loop.example/g00683/impl.errDenied", "loop.example/g00683/impl.errNoEvent"], ifaces := true, plainKeys := false, apart := false, laid := [("loop.example/g00683/impl.errBegun", laid_loop_example_g00683_impl_errBegun), ("loop.example/g00683/impl.errNotBegun", laid_loop_example_g00683_impl_errNotBegun), ("loop.example/g00683/impl.errNoEvent", laid_loop_example_g00683_impl_errNoEvent), ("loop.example/g00683/impl.errDenied", laid_loop_example_g00683_impl_errDenied)], narrowed := true }
def FnExactEndsOfUptoSaid : Prop := fnExactEndsOfUptoRow.holds Tryz.pinned (OpenSpec.upto fnExactEndsOfSpec)

/-- 'laws.FnExactCurrentOf', WHERE WHAT IT READS IS OF BULK AT MOST 1048576: true; the input reads as it did. -/
def fnExactCurrentOfUptoRow : OpenClaim := { program := "yteajcmkaoahbeaagreatdoor", sum := "4276ed8eee65ff0aa4e90d18a18820d9255b9fbec15ab90f05c4742d67c52fa9", func := "loop.example/g00683/laws.FnExactCurrentOf", spec := "fnExactCurrentOf", inPlace := ["sync/atomic.LoadUint32", "(*internal/sync.Mutex).Lock", "internal/race.Disable", "sync/atomic.CompareAndSwapInt32", "internal/race.Enable", "internal/race.Acquire", "(*internal/sync.Mutex).lockSlow", "internal/sync.runtime_canSpin", "internal/sync.runtime_doSpin", "internal/sync.throw", "internal/sync.runtime_nanotime", "internal/sync.runtime_SemacquireMutex", "sync/atomic.AddInt32", "(*internal/sync.Mutex).Unlock", "internal/race.ReleaseMerge", "(*internal/sync.Mutex).unlockSlow", "internal/sync.fatal", "internal/sync.runtime_Semrelease", "sync/atomic.StoreUint32", "maps.clone"], unfollowed := true, recurses := true, named := ["loop.example/g00683/impl.errBegun", "loop.example/g00683/impl.errNotBegun", "loop.example/g00683/impl.errDenied", "loop.example/g00683/impl.errNoEvent"], ifaces := true, plainKeys := false, apart := false, laid := [("loop.example/g00683/impl.errBegun", laid_loop_example_g00683_impl_errBegun), ("loop.example/g00683/impl.errNotBegun", laid_loop_example_g00683_impl_errNotBegun), ("loop.example/g00683/impl.errNoEvent", laid_loop_example_g00683_impl_errNoEvent), ("loop.example/g00683/impl.errDenied", laid_loop_example_g00683_impl_errDenied)], narrowed := true }
def FnExactCurrentOfUptoSaid : Prop := fnExactCurrentOfUptoRow.holds Tryz.pinned (OpenSpec.upto fnExactCurrentOfSpec)

end Rows
end Go.Proofs.YteajcmkaoahbeaaGreatDoor
