/-
  No cell of these rows narrows 'for every input' (looked for: loops, veiled, ifaces, maps, wideKeys, modest, calm, conditions, laid).
  DERIVED. THE GIVEN ROWS OF THIS SEAT. 4 by the template 'for every input the law returns true; each argument reads behind the call as it read before'; 0 by the template 'total and deterministic' (their statements: YtelmclbojpbcbaaTotals.lean).
  GIVEN WITH THE SEED: the statements are not yours to turn. If you find one false, say at which input.
  Laid BY PROGRAM, IN A SANDBOX (cutbox-rows.mjs): the forced cells as the released guide's own fill.sh prints them over the translation ea2d2dd8ff1cb43b… (all of the seat's roots in one cut). By AI agents, Wed Nov 11 2026. No macro, syntax, notation, axiom, sorry.
-/
import Derived.Test.YtelmclbojpbcbaaChecked
import GoSem.Claim
import GoSem.ClaimJoined
import GoSem.ClaimMapViews
import Derived.JoinedTies
import Derived.KernelRfl
namespace Go.Proofs.Ytelmclbojpbcbaa
/- THE CELL 'sum', in the pinned program and in every row, IS THE sha256 OF THE DUMP (.gsa) THAT YtelmclbojpbcbaaProg.lean LOADS. Nothing in Lean hashes anything: it is a label: what it is worth is what the hold of that sum in a sandbox is worth. -/
noncomputable def Try.pinned : Pinned := { name := "ytelmclbojpbcbaa", sum := "ea2d2dd8ff1cb43b76315aad3741c8b73dc2c12920310a382a9ce427311f56b9", checked := Try.checked }
namespace Rows
def none {H : Type} : Left H := { results := [], args := [] }

/-- 'laws.FnExactExecAll': WHATEVER THE INPUT: true; the input reads as it did. -/
def fnExactExecAllSpec : ChangeSpec := { name := "fnExactExecAll", fn := fun _ => fun
  | [d] => { results := [.lit (.bool true)], args := [d] }
  | _ => none }
def fnExactExecAllRow : OpenClaim := { program := "ytelmclbojpbcbaa", sum := "ea2d2dd8ff1cb43b76315aad3741c8b73dc2c12920310a382a9ce427311f56b9", func := "loop.example/fathomline/laws.FnExactExecAll", spec := "fnExactExecAll", unfollowed := true, recurses := true, apart := false }
def FnExactExecAllSaid : Prop := fnExactExecAllRow.holds Try.pinned (OpenSpec.ofChange fnExactExecAllSpec)

/-- ITS FALSE NEIGHBOUR: 'it returns false'. Refute it at one input. -/
def fnExactExecAllWrong : ChangeSpec := { name := "fnExactExecAll", fn := fun _ => fun
  | [d] => { results := [.lit (.bool false)], args := [d] }
  | _ => none }
def FnExactExecAllWrongFalsely : Prop := fnExactExecAllRow.holds Try.pinned (OpenSpec.ofChange fnExactExecAllWrong)

/-- 'laws.FnExecOk': WHATEVER THE INPUT: true; the input reads as it did. -/
def fnExecOkSpec : ChangeSpec := { name := "fnExecOk", fn := fun _ => fun
  | [d] => { results := [.lit (.bool true)], args := [d] }
  | _ => none }
def fnExecOkRow : OpenClaim := { program := "ytelmclbojpbcbaa", sum := "ea2d2dd8ff1cb43b76315aad3741c8b73dc2c12920310a382a9ce427311f56b9", func := "loop.example/fathomline/laws.FnExecOk", spec := "fnExecOk", unfollowed := true, recurses := true, apart := false }
def FnExecOkSaid : Prop := fnExecOkRow.holds Try.pinned (OpenSpec.ofChange fnExecOkSpec)

/-- ITS FALSE NEIGHBOUR: 'it returns false'. Refute it at one input. -/
def fnExecOkWrong : ChangeSpec := { name := "fnExecOk", fn := fun _ => fun
  | [d] => { results := [.lit (.bool false)], args := [d] }
  | _ => none }
def FnExecOkWrongFalsely : Prop := fnExecOkRow.holds Try.pinned (OpenSpec.ofChange fnExecOkWrong)

/-- 'laws.FnExecAll': WHATEVER THE INPUT: true; the input reads as it did. -/
def fnExecAllSpec : ChangeSpec := { name := "fnExecAll", fn := fun _ => fun
  | [d] => { results := [.lit (.bool true)], args := [d] }
  | _ => none }
def fnExecAllRow : OpenClaim := { program := "ytelmclbojpbcbaa", sum := "ea2d2dd8ff1cb43b76315aad3741c8b73dc2c12920310a382a9ce427311f56b9", func := "loop.example/fathomline/laws.FnExecAll", spec := "fnExecAll", unfollowed := true, recurses := true, apart := false }
def FnExecAllSaid : Prop := fnExecAllRow.holds Try.pinned (OpenSpec.ofChange fnExecAllSpec)

/-- ITS FALSE NEIGHBOUR: 'it returns false'. Refute it at one input. -/
def fnExecAllWrong : ChangeSpec := { name := "fnExecAll", fn := fun _ => fun
  | [d] => { results := [.lit (.bool false)], args := [d] }
  | _ => none }
def FnExecAllWrongFalsely : Prop := fnExecAllRow.holds Try.pinned (OpenSpec.ofChange fnExecAllWrong)

/-- 'laws.FnExecCount': WHATEVER THE INPUT: true; the input reads as it did. -/
def fnExecCountSpec : ChangeSpec := { name := "fnExecCount", fn := fun _ => fun
  | [d] => { results := [.lit (.bool true)], args := [d] }
  | _ => none }
def fnExecCountRow : OpenClaim := { program := "ytelmclbojpbcbaa", sum := "ea2d2dd8ff1cb43b76315aad3741c8b73dc2c12920310a382a9ce427311f56b9", func := "loop.example/fathomline/laws.FnExecCount", spec := "fnExecCount", unfollowed := true, recurses := true, apart := false }
def FnExecCountSaid : Prop := fnExecCountRow.holds Try.pinned (OpenSpec.ofChange fnExecCountSpec)

/-- ITS FALSE NEIGHBOUR: 'it returns false'. Refute it at one input. -/
def fnExecCountWrong : ChangeSpec := { name := "fnExecCount", fn := fun _ => fun
  | [d] => { results := [.lit (.bool false)], args := [d] }
  | _ => none }
def FnExecCountWrongFalsely : Prop := fnExecCountRow.holds Try.pinned (OpenSpec.ofChange fnExecCountWrong)

/- THE SECOND FORM. 'bulk': how many values and letters a reading holds, each counted each time it is reached (what is shared counts as often as it is met; a slice's spare places count too). A statement '..UptoSaid' is the law's where the arguments, and the package variables that the reading takes, are together of bulk at most 1048576: NARROWER than '..Said'. Prove '..Said' where nothing that the law and all that it calls make is longer than what came in: it says more and counts as full. Else prove '..UptoSaid'. A law counts once. -/
mutual
def uptoBulk {H : Type} : DataW H → Nat
  | .lit (.string bytes) => bytes.length + 1
  | .lit _ => 1
  | .nil => 1
  | .ptr d => uptoBulk d + 1
  | .slice elems spare => uptoBulkAll elems + uptoBulkAll spare + 1
  | .agg parts => uptoBulkAll parts + 1
  | .iface _ d => uptoBulk d + 1
  | .map entries => uptoBulkEntries entries + 1
  | .held _ => 1
def uptoBulkAll {H : Type} : List (DataW H) → Nat
  | [] => 0
  | d :: r => uptoBulk d + uptoBulkAll r
def uptoBulkEntries {H : Type} : List (Lit × DataW H) → Nat
  | [] => 0
  | x :: r => uptoBulkEntry x + uptoBulkEntries r
def uptoBulkEntry {H : Type} : Lit × DataW H → Nat
  | (.string bytes, d) => bytes.length + uptoBulk d + 1
  | (_, d) => uptoBulk d + 1
 end
def uptoSmall : (H : Type) → List (DataW H) → Bool := fun _ ds => decide (uptoBulkAll ds ≤ 1048576)
def OpenSpec.upto (s : _root_.Go.ChangeSpec) : _root_.Go.OpenSpec := { _root_.Go.OpenSpec.ofChange s with cond := some uptoSmall }

/-- 'laws.FnExactExecAll', WHERE WHAT IT READS IS OF BULK AT MOST 1048576: true; the input reads as it did. -/
def fnExactExecAllUptoRow : OpenClaim := { program := "ytelmclbojpbcbaa", sum := "ea2d2dd8ff1cb43b76315aad3741c8b73dc2c12920310a382a9ce427311f56b9", func := "loop.example/fathomline/laws.FnExactExecAll", spec := "fnExactExecAll", unfollowed := true, recurses := true, apart := false, narrowed := true }
def FnExactExecAllUptoSaid : Prop := fnExactExecAllUptoRow.holds Try.pinned (OpenSpec.upto fnExactExecAllSpec)

/-- 'laws.FnExecOk', WHERE WHAT IT READS IS OF BULK AT MOST 1048576: true; the input reads as it did. -/
def fnExecOkUptoRow : OpenClaim := { program := "ytelmclbojpbcbaa", sum := "ea2d2dd8ff1cb43b76315aad3741c8b73dc2c12920310a382a9ce427311f56b9", func := "loop.example/fathomline/laws.FnExecOk", spec := "fnExecOk", unfollowed := true, recurses := true, apart := false, narrowed := true }
def FnExecOkUptoSaid : Prop := fnExecOkUptoRow.holds Try.pinned (OpenSpec.upto fnExecOkSpec)

/-- 'laws.FnExecAll', WHERE WHAT IT READS IS OF BULK AT MOST 1048576: true; the input reads as it did. -/
def fnExecAllUptoRow : OpenClaim := { program := "ytelmclbojpbcbaa", sum := "ea2d2dd8ff1cb43b76315aad3741c8b73dc2c12920310a382a9ce427311f56b9", func := "loop.example/fathomline/laws.FnExecAll", spec := "fnExecAll", unfollowed := true, recurses := true, apart := false, narrowed := true }
def FnExecAllUptoSaid : Prop := fnExecAllUptoRow.holds Try.pinned (OpenSpec.upto fnExecAllSpec)

/-- 'laws.FnExecCount', WHERE WHAT IT READS IS OF BULK AT MOST 1048576: true; the input reads as it did. -/
def fnExecCountUptoRow : OpenClaim := { program := "ytelmclbojpbcbaa", sum := "ea2d2dd8ff1cb43b76315aad3741c8b73dc2c12920310a382a9ce427311f56b9", func := "loop.example/fathomline/laws.FnExecCount", spec := "fnExecCount", unfollowed := true, recurses := true, apart := false, narrowed := true }
def FnExecCountUptoSaid : Prop := fnExecCountUptoRow.holds Try.pinned (OpenSpec.upto fnExecCountSpec)

end Rows
end Go.Proofs.Ytelmclbojpbcbaa
