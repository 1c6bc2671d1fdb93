/-
  NARROWER THAN 'FOR EVERY INPUT', by the rows' own cells (each row's printed sentence says how): FnExactAllowed: ifaces, laid.
  DERIVED. THE GIVEN ROWS OF THIS SEAT. 1 by the template 'for every input the law returns true; each argument reads behind the call as it read before'; 0 by the template 'total and deterministic' (their statements: YtdldblfopcbfeaaGreatDoorTotals.lean).
  GIVEN WITH THE SEED: the statements are not yours to turn. If you find one false, say at which input.
  Laid BY PROGRAM, IN A SANDBOX (cutbox-rows.mjs): the forced cells as the released guide's own fill.sh prints them over the translation 8d16978e370778d9… (all of the seat's roots in one cut). By AI agents, Wed Nov 11 2026. No macro, syntax, notation, axiom, sorry.
-/
import Derived.Test.YtdldblfopcbfeaaGreatDoorChecked
import GoSem.Claim
import GoSem.ClaimJoined
import GoSem.ClaimMapViews
import Derived.JoinedTies
import Derived.KernelRfl
namespace Go.Proofs.YtdldblfopcbfeaaGreatDoor
/- THE CELL 'sum', in the pinned program and in every row, IS THE sha256 OF THE DUMP (.gsa) THAT YtdldblfopcbfeaaGreatDoorProg.lean LOADS. Nothing in Lean hashes anything: it is a label: what it is worth is what the hold of that sum in a sandbox is worth. -/
noncomputable def Tryz.pinned : Pinned := { name := "ytdldblfopcbfeaagreatdoor", sum := "8d16978e370778d94700381af76f5198332845a0e9fb92e0a4156ac40d63fa50", checked := Tryz.checked }
namespace Rows
def none {H : Type} : Left H := { results := [], args := [] }

/- WHAT THE LISTED PACKAGE-LEVEL VARIABLES READ AS WHEN THE CALL BEGINS. Each datum BY PROGRAM (the guide's laid-datum.mjs) off the statement by which the dump's own 'gosem.cut.vars' lays the variable. In a bare row this is a premise. The card (YtdldblfopcbfeaaGreatDoorCards.lean) ties it to the program's text. -/
def laid_loop_example_g00683_impl_errBegun {H : Type} : DataW H := .iface "*errors.errorString" (.ptr (.agg [.lit (.string [116, 104, 101, 32, 114, 111, 111, 109, 32, 104, 97, 115, 32, 98, 101, 103, 117, 110, 32, 97, 108, 114, 101, 97, 100, 121])]))
def laid_loop_example_g00683_impl_errNotBegun {H : Type} : DataW H := .iface "*errors.errorString" (.ptr (.agg [.lit (.string [116, 104, 101, 32, 114, 111, 111, 109, 32, 104, 97, 115, 32, 110, 111, 116, 32, 98, 101, 103, 117, 110])]))
def laid_loop_example_g00683_impl_errNoEvent {H : Type} : DataW H := .iface "*errors.errorString" (.ptr (.agg [.lit (.string [116, 104, 101, 114, 101, 32, 105, 115, 32, 110, 111, 32, 115, 117, 99, 104, 32, 101, 118, 101, 110, 116])]))
def laid_loop_example_g00683_impl_errDenied {H : Type} : DataW H := .iface "*errors.errorString" (.ptr (.agg [.lit (.string [110, 111, 116, 32, 97, 108, 108, 111, 119, 101, 100])]))

/-- 'laws.FnExactAllowed': WHATEVER THE INPUT: true; the input reads as it did. -/
def fnExactAllowedSpec : ChangeSpec := { name := "fnExactAllowed", vars := ["loop.example/g00683/impl.errBegun", "loop.example/g00683/impl.errNotBegun", "loop.example/g00683/impl.errDenied", "loop.example/g00683/impl.errNoEvent"], fn := fun _ => fun
  | [d1, d2, d3, g1, g2, g3, g4] => { results := [.lit (.bool true)], args := [d1, d2, d3], vars := [g1, g2, g3, g4] }
  | _ => none }
def fnExactAllowedRow : OpenClaim := { program := "ytdldblfopcbfeaagreatdoor", sum := "8d16978e370778d94700381af76f5198332845a0e9fb92e0a4156ac40d63fa50", func := "loop.example/g00683/laws.FnExactAllowed", spec := "fnExactAllowed", inPlace := ["sync/atomic.LoadUint32", "(*internal/sync.Mutex).Lock", "internal/race.Disable", "sync/atomic.CompareAndSwapInt32", "internal/race.Enable", "internal/race.Acquire", "(*internal/sync.Mutex).lockSlow", "internal/sync.runtime_canSpin", "internal/sync.runtime_doSpin", "internal/sync.throw", "internal/sync.runtime_nanotime", "internal/sync.runtime_SemacquireMutex", "sync/atomic.AddInt32", "(*internal/sync.Mutex).Unlock", "internal/race.ReleaseMerge", "(*internal/sync.Mutex).unlockSlow", "internal/sync.fatal", "internal/sync.runtime_Semrelease", "sync/atomic.StoreUint32", "internal/reflectlite.TypeOf"], unfollowed := true, recurses := true, named := ["loop.example/g00683/impl.errBegun", "loop.example/g00683/impl.errNotBegun", "loop.example/g00683/impl.errDenied", "loop.example/g00683/impl.errNoEvent"], ifaces := true, plainKeys := false, apart := false, laid := [("loop.example/g00683/impl.errBegun", laid_loop_example_g00683_impl_errBegun), ("loop.example/g00683/impl.errNotBegun", laid_loop_example_g00683_impl_errNotBegun), ("loop.example/g00683/impl.errNoEvent", laid_loop_example_g00683_impl_errNoEvent), ("loop.example/g00683/impl.errDenied", laid_loop_example_g00683_impl_errDenied)] }
def FnExactAllowedSaid : Prop := fnExactAllowedRow.holds Tryz.pinned (OpenSpec.ofChange fnExactAllowedSpec)

/-- ITS FALSE NEIGHBOUR: 'it returns false'. Refute it at one input. -/
def fnExactAllowedWrong : ChangeSpec := { name := "fnExactAllowed", vars := ["loop.example/g00683/impl.errBegun", "loop.example/g00683/impl.errNotBegun", "loop.example/g00683/impl.errDenied", "loop.example/g00683/impl.errNoEvent"], fn := fun _ => fun
  | [d1, d2, d3, g1, g2, g3, g4] => { results := [.lit (.bool false)], args := [d1, d2, d3], vars := [g1, g2, g3, g4] }
  | _ => none }
def FnExactAllowedWrongFalsely : Prop := fnExactAllowedRow.holds Tryz.pinned (OpenSpec.ofChange fnExactAllowedWrong)

/- THE SECOND FORM. 'bulk': how many values and letters a reading holds, each counted each time it is reached (what is shared counts as often as it is met; a slice's spare places count too). A statement '..UptoSaid' is the law's where the arguments, and the package variables that the reading takes, are together of bulk at most 1048576: NARROWER than '..Said'. Prove '..Said' where nothing that the law and all that it calls make is longer than what came in: it says more and counts as full. Else prove '..UptoSaid'. A law counts once. -/
mutual
def uptoBulk {H : Type} : DataW H → Nat
  | .lit (.string bytes) => bytes.length + 1
  | .lit _ => 1
  | .nil => 1
  | .ptr d => uptoBulk d + 1
  | .slice elems spare => uptoBulkAll elems + uptoBulkAll spare + 1
  | .agg parts => uptoBulkAll parts + 1
  | .iface _ d => uptoBulk d + 1
  | .map entries => uptoBulkEntries entries + 1
  | .held _ => 1
def uptoBulkAll {H : Type} : List (DataW H) → Nat
  | [] => 0
  | d :: r => uptoBulk d + uptoBulkAll r
def uptoBulkEntries {H : Type} : List (Lit × DataW H) → Nat
  | [] => 0
  | x :: r => uptoBulkEntry x + uptoBulkEntries r
def uptoBulkEntry {H : Type} : Lit × DataW H → Nat
  | (.string bytes, d) => bytes.length + uptoBulk d + 1
  | (_, d) => uptoBulk d + 1
 end
def uptoSmall : (H : Type) → List (DataW H) → Bool := fun _ ds => decide (uptoBulkAll ds ≤ 1048576)
def OpenSpec.upto (s : _root_.Go.ChangeSpec) : _root_.Go.OpenSpec := { _root_.Go.OpenSpec.ofChange s with cond := some uptoSmall }

/-- 'laws.FnExactAllowed', WHERE WHAT IT READS IS OF BULK AT MOST 1048576: true; the input reads as it did. -/
def fnExactAllowedUptoRow : OpenClaim := { program := "ytdldblfopcbfeaagreatdoor", sum := "8d16978e370778d94700381af76f5198332845a0e9fb92e0a4156ac40d63fa50", func := "loop.example/g00683/laws.FnExactAllowed", spec := "fnExactAllowed", inPlace := ["sync/atomic.LoadUint32", "(*internal/sync.Mutex).Lock", "internal/race.Disable", "sync/atomic.CompareAndSwapInt32", "internal/race.Enable", "internal/race.Acquire", "(*internal/sync.Mutex).lockSlow", "internal/sync.runtime_canSpin", "internal/sync.runtime_doSpin", "internal/sync.throw", "internal/sync.runtime_nanotime", "internal/sync.runtime_SemacquireMutex", "sync/atomic.AddInt32", "(*internal/sync.Mutex).Unlock", "internal/race.ReleaseMerge", "(*internal/sync.Mutex).unlockSlow", "internal/sync.fatal", "internal/sync.runtime_Semrelease", "sync/atomic.StoreUint32", "internal/reflectlite.TypeOf"], unfollowed := true, recurses := true, named := ["loop.example/g00683/impl.errBegun", "loop.example/g00683/impl.errNotBegun", "loop.example/g00683/impl.errDenied", "loop.example/g00683/impl.errNoEvent"], ifaces := true, plainKeys := false, apart := false, laid := [("loop.example/g00683/impl.errBegun", laid_loop_example_g00683_impl_errBegun), ("loop.example/g00683/impl.errNotBegun", laid_loop_example_g00683_impl_errNotBegun), ("loop.example/g00683/impl.errNoEvent", laid_loop_example_g00683_impl_errNoEvent), ("loop.example/g00683/impl.errDenied", laid_loop_example_g00683_impl_errDenied)], narrowed := true }
def FnExactAllowedUptoSaid : Prop := fnExactAllowedUptoRow.holds Tryz.pinned (OpenSpec.upto fnExactAllowedSpec)

end Rows
end Go.Proofs.YtdldblfopcbfeaaGreatDoor
