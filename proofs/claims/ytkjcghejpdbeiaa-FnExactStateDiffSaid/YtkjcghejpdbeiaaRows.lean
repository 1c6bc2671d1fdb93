/-
  No cell of these rows narrows 'for every input' (looked for: loops, veiled, ifaces, maps, wideKeys, modest, calm, conditions, laid).
  DERIVED. THE GIVEN ROWS OF THIS SEAT. 4 by the template 'for every input the law returns true; each argument reads behind the call as it read before'; 0 by the template 'total and deterministic' (their statements: YtkjcghejpdbeiaaTotals.lean).
  GIVEN WITH THE SEED: the statements are not yours to turn. If you find one false, say at which input.
  Laid BY PROGRAM, IN A SANDBOX (cutbox-rows.mjs): the forced cells as the released guide's own fill.sh prints them over the translation 7af7e019558bc607… (all of the seat's roots in one cut). By AI agents, Wed Nov 11 2026. No macro, syntax, notation, axiom, sorry.
-/
import Derived.Test.YtkjcghejpdbeiaaChecked
import GoSem.Claim
import GoSem.ClaimJoined
import GoSem.ClaimMapViews
import Derived.JoinedTies
import Derived.KernelRfl
namespace Go.Proofs.Ytkjcghejpdbeiaa
/- THE CELL 'sum', in the pinned program and in every row, IS THE sha256 OF THE DUMP (.gsa) THAT YtkjcghejpdbeiaaProg.lean LOADS. Nothing in Lean hashes anything: it is a label: what it is worth is what the hold of that sum in a sandbox is worth. -/
noncomputable def Try.pinned : Pinned := { name := "ytkjcghejpdbeiaa", sum := "7af7e019558bc60707a2cfacc9cc9d86381b02ee9c18b78585e019e17f0898e2", checked := Try.checked }
namespace Rows
def none {H : Type} : Left H := { results := [], args := [] }

/-- 'laws.FnExactAheadOf': WHATEVER THE INPUT: true; the input reads as it did. -/
def fnExactAheadOfSpec : ChangeSpec := { name := "fnExactAheadOf", fn := fun _ => fun
  | [d1, d2, d3] => { results := [.lit (.bool true)], args := [d1, d2, d3] }
  | _ => none }
def fnExactAheadOfRow : OpenClaim := { program := "ytkjcghejpdbeiaa", sum := "7af7e019558bc60707a2cfacc9cc9d86381b02ee9c18b78585e019e17f0898e2", func := "loop.example/g00683/laws.FnExactAheadOf", spec := "fnExactAheadOf", inPlace := ["sync/atomic.LoadUint32", "(*internal/sync.Mutex).Lock", "internal/race.Disable", "sync/atomic.CompareAndSwapInt32", "internal/race.Enable", "internal/race.Acquire", "(*internal/sync.Mutex).lockSlow", "internal/sync.runtime_canSpin", "internal/sync.runtime_doSpin", "internal/sync.throw", "internal/sync.runtime_nanotime", "internal/sync.runtime_SemacquireMutex", "sync/atomic.AddInt32", "(*internal/sync.Mutex).Unlock", "internal/race.ReleaseMerge", "(*internal/sync.Mutex).unlockSlow", "internal/sync.fatal", "internal/sync.runtime_Semrelease", "sync/atomic.StoreUint32"], unfollowed := true, recurses := true, plainKeys := false, apart := false }
def FnExactAheadOfSaid : Prop := fnExactAheadOfRow.holds Try.pinned (OpenSpec.ofChange fnExactAheadOfSpec)

/-- ITS FALSE NEIGHBOUR: 'it returns false'. Refute it at one input. -/
def fnExactAheadOfWrong : ChangeSpec := { name := "fnExactAheadOf", fn := fun _ => fun
  | [d1, d2, d3] => { results := [.lit (.bool false)], args := [d1, d2, d3] }
  | _ => none }
def FnExactAheadOfWrongFalsely : Prop := fnExactAheadOfRow.holds Try.pinned (OpenSpec.ofChange fnExactAheadOfWrong)

/-- 'laws.FnExactStatePut': WHATEVER THE INPUT: true; the input reads as it did. -/
def fnExactStatePutSpec : ChangeSpec := { name := "fnExactStatePut", fn := fun _ => fun
  | [d1, d2] => { results := [.lit (.bool true)], args := [d1, d2] }
  | _ => none }
def fnExactStatePutRow : OpenClaim := { program := "ytkjcghejpdbeiaa", sum := "7af7e019558bc60707a2cfacc9cc9d86381b02ee9c18b78585e019e17f0898e2", func := "loop.example/g00683/laws.FnExactStatePut", spec := "fnExactStatePut", unfollowed := true, recurses := true, plainKeys := false, apart := false }
def FnExactStatePutSaid : Prop := fnExactStatePutRow.holds Try.pinned (OpenSpec.ofChange fnExactStatePutSpec)

/-- ITS FALSE NEIGHBOUR: 'it returns false'. Refute it at one input. -/
def fnExactStatePutWrong : ChangeSpec := { name := "fnExactStatePut", fn := fun _ => fun
  | [d1, d2] => { results := [.lit (.bool false)], args := [d1, d2] }
  | _ => none }
def FnExactStatePutWrongFalsely : Prop := fnExactStatePutRow.holds Try.pinned (OpenSpec.ofChange fnExactStatePutWrong)

/-- 'laws.FnExactStateDiff': WHATEVER THE INPUT: true; the input reads as it did. -/
def fnExactStateDiffSpec : ChangeSpec := { name := "fnExactStateDiff", fn := fun _ => fun
  | [d1, d2] => { results := [.lit (.bool true)], args := [d1, d2] }
  | _ => none }
def fnExactStateDiffRow : OpenClaim := { program := "ytkjcghejpdbeiaa", sum := "7af7e019558bc60707a2cfacc9cc9d86381b02ee9c18b78585e019e17f0898e2", func := "loop.example/g00683/laws.FnExactStateDiff", spec := "fnExactStateDiff", inPlace := ["maps.clone"], unfollowed := true, recurses := true, plainKeys := false, apart := false }
def FnExactStateDiffSaid : Prop := fnExactStateDiffRow.holds Try.pinned (OpenSpec.ofChange fnExactStateDiffSpec)

/-- ITS FALSE NEIGHBOUR: 'it returns false'. Refute it at one input. -/
def fnExactStateDiffWrong : ChangeSpec := { name := "fnExactStateDiff", fn := fun _ => fun
  | [d1, d2] => { results := [.lit (.bool false)], args := [d1, d2] }
  | _ => none }
def FnExactStateDiffWrongFalsely : Prop := fnExactStateDiffRow.holds Try.pinned (OpenSpec.ofChange fnExactStateDiffWrong)

/-- 'laws.FnExactStateApply': WHATEVER THE INPUT: true; the input reads as it did. -/
def fnExactStateApplySpec : ChangeSpec := { name := "fnExactStateApply", fn := fun _ => fun
  | [d1, d2] => { results := [.lit (.bool true)], args := [d1, d2] }
  | _ => none }
def fnExactStateApplyRow : OpenClaim := { program := "ytkjcghejpdbeiaa", sum := "7af7e019558bc60707a2cfacc9cc9d86381b02ee9c18b78585e019e17f0898e2", func := "loop.example/g00683/laws.FnExactStateApply", spec := "fnExactStateApply", unfollowed := true, recurses := true, plainKeys := false, apart := false }
def FnExactStateApplySaid : Prop := fnExactStateApplyRow.holds Try.pinned (OpenSpec.ofChange fnExactStateApplySpec)

/-- ITS FALSE NEIGHBOUR: 'it returns false'. Refute it at one input. -/
def fnExactStateApplyWrong : ChangeSpec := { name := "fnExactStateApply", fn := fun _ => fun
  | [d1, d2] => { results := [.lit (.bool false)], args := [d1, d2] }
  | _ => none }
def FnExactStateApplyWrongFalsely : Prop := fnExactStateApplyRow.holds Try.pinned (OpenSpec.ofChange fnExactStateApplyWrong)

/- THE SECOND FORM. 'bulk': how many values and letters a reading holds, each counted each time it is reached (what is shared counts as often as it is met; a slice's spare places count too). A statement '..UptoSaid' is the law's where the arguments, and the package variables that the reading takes, are together of bulk at most 1048576: NARROWER than '..Said'. Prove '..Said' where nothing that the law and all that it calls make is longer than what came in: it says more and counts as full. Else prove '..UptoSaid'. A law counts once. -/
mutual
def uptoBulk {H : Type} : DataW H → Nat
  | .lit (.string bytes) => bytes.length + 1
  | .lit _ => 1
  | .nil => 1
  | .ptr d => uptoBulk d + 1
  | .slice elems spare => uptoBulkAll elems + uptoBulkAll spare + 1
  | .agg parts => uptoBulkAll parts + 1
  | .iface _ d => uptoBulk d + 1
  | .map entries => uptoBulkEntries entries + 1
  | .held _ => 1
def uptoBulkAll {H : Type} : List (DataW H) → Nat
  | [] => 0
  | d :: r => uptoBulk d + uptoBulkAll r
def uptoBulkEntries {H : Type} : List (Lit × DataW H) → Nat
  | [] => 0
  | x :: r => uptoBulkEntry x + uptoBulkEntries r
def uptoBulkEntry {H : Type} : Lit × DataW H → Nat
  | (.string bytes, d) => bytes.length + uptoBulk d + 1
  | (_, d) => uptoBulk d + 1
 end
def uptoSmall : (H : Type) → List (DataW H) → Bool := fun _ ds => decide (uptoBulkAll ds ≤ 1048576)
def OpenSpec.upto (s : _root_.Go.ChangeSpec) : _root_.Go.OpenSpec := { _root_.Go.OpenSpec.ofChange s with cond := some uptoSmall }

/-- 'laws.FnExactAheadOf', WHERE WHAT IT READS IS OF BULK AT MOST 1048576: true; the input reads as it did. -/
def fnExactAheadOfUptoRow : OpenClaim := { program := "ytkjcghejpdbeiaa", sum := "7af7e019558bc60707a2cfacc9cc9d86381b02ee9c18b78585e019e17f0898e2", func := "loop.example/g00683/laws.FnExactAheadOf", spec := "fnExactAheadOf", inPlace := ["sync/atomic.LoadUint32", "(*internal/sync.Mutex).Lock", "internal/race.Disable", "sync/atomic.CompareAndSwapInt32", "internal/race.Enable", "internal/race.Acquire", "(*internal/sync.Mutex).lockSlow", "internal/sync.runtime_canSpin", "internal/sync.runtime_doSpin", "internal/sync.throw", "internal/sync.runtime_nanotime", "internal/sync.runtime_SemacquireMutex", "sync/atomic.AddInt32", "(*internal/sync.Mutex).Unlock", "internal/race.ReleaseMerge", "(*internal/sync.Mutex).unlockSlow", "internal/sync.fatal", "internal/sync.runtime_Semrelease", "sync/atomic.StoreUint32"], unfollowed := true, recurses := true, plainKeys := false, apart := false, narrowed := true }
def FnExactAheadOfUptoSaid : Prop := fnExactAheadOfUptoRow.holds Try.pinned (OpenSpec.upto fnExactAheadOfSpec)

/-- 'laws.FnExactStatePut', WHERE WHAT IT READS IS OF BULK AT MOST 1048576: true; the input reads as it did. -/
def fnExactStatePutUptoRow : OpenClaim := { program := "ytkjcghejpdbeiaa", sum := "7af7e019558bc60707a2cfacc9cc9d86381b02ee9c18b78585e019e17f0898e2", func := "loop.example/g00683/laws.FnExactStatePut", spec := "fnExactStatePut", unfollowed := true, recurses := true, plainKeys := false, apart := false, narrowed := true }
def FnExactStatePutUptoSaid : Prop := fnExactStatePutUptoRow.holds Try.pinned (OpenSpec.upto fnExactStatePutSpec)

/-- 'laws.FnExactStateDiff', WHERE WHAT IT READS IS OF BULK AT MOST 1048576: true; the input reads as it did. -/
def fnExactStateDiffUptoRow : OpenClaim := { program := "ytkjcghejpdbeiaa", sum := "7af7e019558bc60707a2cfacc9cc9d86381b02ee9c18b78585e019e17f0898e2", func := "loop.example/g00683/laws.FnExactStateDiff", spec := "fnExactStateDiff", inPlace := ["maps.clone"], unfollowed := true, recurses := true, plainKeys := false, apart := false, narrowed := true }
def FnExactStateDiffUptoSaid : Prop := fnExactStateDiffUptoRow.holds Try.pinned (OpenSpec.upto fnExactStateDiffSpec)

/-- 'laws.FnExactStateApply', WHERE WHAT IT READS IS OF BULK AT MOST 1048576: true; the input reads as it did. -/
def fnExactStateApplyUptoRow : OpenClaim := { program := "ytkjcghejpdbeiaa", sum := "7af7e019558bc60707a2cfacc9cc9d86381b02ee9c18b78585e019e17f0898e2", func := "loop.example/g00683/laws.FnExactStateApply", spec := "fnExactStateApply", unfollowed := true, recurses := true, plainKeys := false, apart := false, narrowed := true }
def FnExactStateApplyUptoSaid : Prop := fnExactStateApplyUptoRow.holds Try.pinned (OpenSpec.upto fnExactStateApplySpec)

end Rows
end Go.Proofs.Ytkjcghejpdbeiaa
