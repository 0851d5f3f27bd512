/-
  No cell of these rows narrows 'for every input' (looked for: loops, veiled, ifaces, maps, wideKeys, modest, calm, conditions, laid).
  DERIVED. THE GIVEN ROWS OF THIS SEAT. 4 by the template 'for every input the law returns true; each argument reads behind the call as it read before'; 0 by the template 'total and deterministic' (their statements: YtnddmlgnngdaoaaTotals.lean).
  GIVEN WITH THE SEED: the statements are not yours to turn. If you find one false, say at which input.
  Laid BY PROGRAM, IN A SANDBOX (cutbox-rows.mjs): the forced cells as the released guide's own fill.sh prints them over the translation e6c9ffccb4569818… (all of the seat's roots in one cut). By AI agents, Wed Nov 11 2026. No macro, syntax, notation, axiom, sorry.
-/
import Derived.Test.YtnddmlgnngdaoaaChecked
import GoSem.Claim
import GoSem.ClaimJoined
import GoSem.ClaimMapViews
import Derived.JoinedTies
import Derived.KernelRfl
namespace Go.Proofs.Ytnddmlgnngdaoaa
/- THE CELL 'sum', in the pinned program and in every row, IS THE sha256 OF THE DUMP (.gsa) THAT YtnddmlgnngdaoaaProg.lean LOADS. Nothing in Lean hashes anything: it is a label: what it is worth is what the hold of that sum in a sandbox is worth. -/
noncomputable def Try.pinned : Pinned := { name := "ytnddmlgnngdaoaa", sum := "e6c9ffccb4569818a9d19799f4fabd5380494a4b7d62d53bba8a19539252cb39", checked := Try.checked }
namespace Rows
def none {H : Type} : Left H := { results := [], args := [] }

/-- 'laws.FnExactMachSome': WHATEVER THE INPUT: true; the input reads as it did. -/
def fnExactMachSomeSpec : ChangeSpec := { name := "fnExactMachSome", fn := fun _ => fun
  | [d1, d2] => { results := [.lit (.bool true)], args := [d1, d2] }
  | _ => none }
def fnExactMachSomeRow : OpenClaim := { program := "ytnddmlgnngdaoaa", sum := "e6c9ffccb4569818a9d19799f4fabd5380494a4b7d62d53bba8a19539252cb39", func := "loop.example/fathomline/laws.FnExactMachSome", spec := "fnExactMachSome", unfollowed := true, recurses := true, plainKeys := false, apart := false }
def FnExactMachSomeSaid : Prop := fnExactMachSomeRow.holds Try.pinned (OpenSpec.ofChange fnExactMachSomeSpec)

/-- ITS FALSE NEIGHBOUR: 'it returns false'. Refute it at one input. -/
def fnExactMachSomeWrong : ChangeSpec := { name := "fnExactMachSome", fn := fun _ => fun
  | [d1, d2] => { results := [.lit (.bool false)], args := [d1, d2] }
  | _ => none }
def FnExactMachSomeWrongFalsely : Prop := fnExactMachSomeRow.holds Try.pinned (OpenSpec.ofChange fnExactMachSomeWrong)

/-- 'laws.FnExactMachTurns': WHATEVER THE INPUT: true; the input reads as it did. -/
def fnExactMachTurnsSpec : ChangeSpec := { name := "fnExactMachTurns", fn := fun _ => fun
  | [d1, d2] => { results := [.lit (.bool true)], args := [d1, d2] }
  | _ => none }
def fnExactMachTurnsRow : OpenClaim := { program := "ytnddmlgnngdaoaa", sum := "e6c9ffccb4569818a9d19799f4fabd5380494a4b7d62d53bba8a19539252cb39", func := "loop.example/fathomline/laws.FnExactMachTurns", spec := "fnExactMachTurns", unfollowed := true, recurses := true, plainKeys := false, apart := false }
def FnExactMachTurnsSaid : Prop := fnExactMachTurnsRow.holds Try.pinned (OpenSpec.ofChange fnExactMachTurnsSpec)

/-- ITS FALSE NEIGHBOUR: 'it returns false'. Refute it at one input. -/
def fnExactMachTurnsWrong : ChangeSpec := { name := "fnExactMachTurns", fn := fun _ => fun
  | [d1, d2] => { results := [.lit (.bool false)], args := [d1, d2] }
  | _ => none }
def FnExactMachTurnsWrongFalsely : Prop := fnExactMachTurnsRow.holds Try.pinned (OpenSpec.ofChange fnExactMachTurnsWrong)

/-- 'laws.FnMachSome': WHATEVER THE INPUT: true; the input reads as it did. -/
def fnMachSomeSpec : ChangeSpec := { name := "fnMachSome", fn := fun _ => fun
  | [d] => { results := [.lit (.bool true)], args := [d] }
  | _ => none }
def fnMachSomeRow : OpenClaim := { program := "ytnddmlgnngdaoaa", sum := "e6c9ffccb4569818a9d19799f4fabd5380494a4b7d62d53bba8a19539252cb39", func := "loop.example/fathomline/laws.FnMachSome", spec := "fnMachSome", unfollowed := true, recurses := true, plainKeys := false, apart := false }
def FnMachSomeSaid : Prop := fnMachSomeRow.holds Try.pinned (OpenSpec.ofChange fnMachSomeSpec)

/-- ITS FALSE NEIGHBOUR: 'it returns false'. Refute it at one input. -/
def fnMachSomeWrong : ChangeSpec := { name := "fnMachSome", fn := fun _ => fun
  | [d] => { results := [.lit (.bool false)], args := [d] }
  | _ => none }
def FnMachSomeWrongFalsely : Prop := fnMachSomeRow.holds Try.pinned (OpenSpec.ofChange fnMachSomeWrong)

/-- 'laws.FnMachTurns': WHATEVER THE INPUT: true; the input reads as it did. -/
def fnMachTurnsSpec : ChangeSpec := { name := "fnMachTurns", fn := fun _ => fun
  | [d] => { results := [.lit (.bool true)], args := [d] }
  | _ => none }
def fnMachTurnsRow : OpenClaim := { program := "ytnddmlgnngdaoaa", sum := "e6c9ffccb4569818a9d19799f4fabd5380494a4b7d62d53bba8a19539252cb39", func := "loop.example/fathomline/laws.FnMachTurns", spec := "fnMachTurns", unfollowed := true, recurses := true, plainKeys := false, apart := false }
def FnMachTurnsSaid : Prop := fnMachTurnsRow.holds Try.pinned (OpenSpec.ofChange fnMachTurnsSpec)

/-- ITS FALSE NEIGHBOUR: 'it returns false'. Refute it at one input. -/
def fnMachTurnsWrong : ChangeSpec := { name := "fnMachTurns", fn := fun _ => fun
  | [d] => { results := [.lit (.bool false)], args := [d] }
  | _ => none }
def FnMachTurnsWrongFalsely : Prop := fnMachTurnsRow.holds Try.pinned (OpenSpec.ofChange fnMachTurnsWrong)

/- THE SECOND FORM. 'bulk': how many values and letters a reading holds, each counted each time it is reached (what is shared counts as often as it is met; a slice's spare places count too). A statement '..UptoSaid' is the law's where the arguments, and the package variables that the reading takes, are together of bulk at most 1048576: NARROWER than '..Said'. Prove '..Said' where nothing that the law and all that it calls make is longer than what came in: it says more and counts as full. Else prove '..UptoSaid'. A law counts once. -/
mutual
def uptoBulk {H : Type} : DataW H → Nat
  | .lit (.string bytes) => bytes.length + 1
  | .lit _ => 1
  | .nil => 1
  | .ptr d => uptoBulk d + 1
  | .slice elems spare => uptoBulkAll elems + uptoBulkAll spare + 1
  | .agg parts => uptoBulkAll parts + 1
  | .iface _ d => uptoBulk d + 1
  | .map entries => uptoBulkEntries entries + 1
  | .held _ => 1
def uptoBulkAll {H : Type} : List (DataW H) → Nat
  | [] => 0
  | d :: r => uptoBulk d + uptoBulkAll r
def uptoBulkEntries {H : Type} : List (Lit × DataW H) → Nat
  | [] => 0
  | x :: r => uptoBulkEntry x + uptoBulkEntries r
def uptoBulkEntry {H : Type} : Lit × DataW H → Nat
  | (.string bytes, d) => bytes.length + uptoBulk d + 1
  | (_, d) => uptoBulk d + 1
 end
def uptoSmall : (H : Type) → List (DataW H) → Bool := fun _ ds => decide (uptoBulkAll ds ≤ 1048576)
def OpenSpec.upto (s : _root_.Go.ChangeSpec) : _root_.Go.OpenSpec := { _root_.Go.OpenSpec.ofChange s with cond := some uptoSmall }

/-- 'laws.FnExactMachSome', WHERE WHAT IT READS IS OF BULK AT MOST 1048576: true; the input reads as it did. -/
def fnExactMachSomeUptoRow : OpenClaim := { program := "ytnddmlgnngdaoaa", sum := "e6c9ffccb4569818a9d19799f4fabd5380494a4b7d62d53bba8a19539252cb39", func := "loop.example/fathomline/laws.FnExactMachSome", spec := "fnExactMachSome", unfollowed := true, recurses := true, plainKeys := false, apart := false, narrowed := true }
def FnExactMachSomeUptoSaid : Prop := fnExactMachSomeUptoRow.holds Try.pinned (OpenSpec.upto fnExactMachSomeSpec)

/-- 'laws.FnExactMachTurns', WHERE WHAT IT READS IS OF BULK AT MOST 1048576: true; the input reads as it did. -/
def fnExactMachTurnsUptoRow : OpenClaim := { program := "ytnddmlgnngdaoaa", sum := "e6c9ffccb4569818a9d19799f4fabd5380494a4b7d62d53bba8a19539252cb39", func := "loop.example/fathomline/laws.FnExactMachTurns", spec := "fnExactMachTurns", unfollowed := true, recurses := true, plainKeys := false, apart := false, narrowed := true }
def FnExactMachTurnsUptoSaid : Prop := fnExactMachTurnsUptoRow.holds Try.pinned (OpenSpec.upto fnExactMachTurnsSpec)

/-- 'laws.FnMachSome', WHERE WHAT IT READS IS OF BULK AT MOST 1048576: true; the input reads as it did. -/
def fnMachSomeUptoRow : OpenClaim := { program := "ytnddmlgnngdaoaa", sum := "e6c9ffccb4569818a9d19799f4fabd5380494a4b7d62d53bba8a19539252cb39", func := "loop.example/fathomline/laws.FnMachSome", spec := "fnMachSome", unfollowed := true, recurses := true, plainKeys := false, apart := false, narrowed := true }
def FnMachSomeUptoSaid : Prop := fnMachSomeUptoRow.holds Try.pinned (OpenSpec.upto fnMachSomeSpec)

/-- 'laws.FnMachTurns', WHERE WHAT IT READS IS OF BULK AT MOST 1048576: true; the input reads as it did. -/
def fnMachTurnsUptoRow : OpenClaim := { program := "ytnddmlgnngdaoaa", sum := "e6c9ffccb4569818a9d19799f4fabd5380494a4b7d62d53bba8a19539252cb39", func := "loop.example/fathomline/laws.FnMachTurns", spec := "fnMachTurns", unfollowed := true, recurses := true, plainKeys := false, apart := false, narrowed := true }
def FnMachTurnsUptoSaid : Prop := fnMachTurnsUptoRow.holds Try.pinned (OpenSpec.upto fnMachTurnsSpec)

end Rows
end Go.Proofs.Ytnddmlgnngdaoaa
