/-
  No cell of these rows narrows 'for every input' (looked for: loops, veiled, ifaces, maps, wideKeys, modest, calm, conditions, laid).
  DERIVED. THE GIVEN ROWS OF THIS SEAT. 4 by the template 'for every input the law returns true; each argument reads behind the call as it read before'; 0 by the template 'total and deterministic' (their statements: YtoabfiocjjfjeaaTotals.lean).
  GIVEN WITH THE SEED: the statements are not yours to turn. If you find one false, say at which input.
  Laid BY PROGRAM, IN A SANDBOX (cutbox-rows.mjs): the forced cells as the released guide's own fill.sh prints them over the translation 305316dd3ff73eff… (all of the seat's roots in one cut). By AI agents, Wed Nov 11 2026. No macro, syntax, notation, axiom, sorry.
-/
import Derived.Test.YtoabfiocjjfjeaaChecked
import GoSem.Claim
import GoSem.ClaimJoined
import GoSem.ClaimMapViews
import Derived.JoinedTies
import Derived.KernelRfl
namespace Go.Proofs.Ytoabfiocjjfjeaa
/- THE CELL 'sum', in the pinned program and in every row, IS THE sha256 OF THE DUMP (.gsa) THAT YtoabfiocjjfjeaaProg.lean LOADS. Nothing in Lean hashes anything: it is a label: what it is worth is what the hold of that sum in a sandbox is worth. -/
noncomputable def Try.pinned : Pinned := { name := "ytoabfiocjjfjeaa", sum := "305316dd3ff73eff0fa1d345245c47841c5ee9649759d3313e1aa12272907472", checked := Try.checked }
namespace Rows
def none {H : Type} : Left H := { results := [], args := [] }

/-- 'laws.FnWallPut': WHATEVER THE INPUT: true; the input reads as it did. -/
def fnWallPutSpec : ChangeSpec := { name := "fnWallPut", fn := fun _ => fun
  | [d] => { results := [.lit (.bool true)], args := [d] }
  | _ => none }
def fnWallPutRow : OpenClaim := { program := "ytoabfiocjjfjeaa", sum := "305316dd3ff73eff0fa1d345245c47841c5ee9649759d3313e1aa12272907472", func := "loop.example/fathomline/laws.FnWallPut", spec := "fnWallPut", unfollowed := true, recurses := true, apart := false }
def FnWallPutSaid : Prop := fnWallPutRow.holds Try.pinned (OpenSpec.ofChange fnWallPutSpec)

/-- ITS FALSE NEIGHBOUR: 'it returns false'. Refute it at one input. -/
def fnWallPutWrong : ChangeSpec := { name := "fnWallPut", fn := fun _ => fun
  | [d] => { results := [.lit (.bool false)], args := [d] }
  | _ => none }
def FnWallPutWrongFalsely : Prop := fnWallPutRow.holds Try.pinned (OpenSpec.ofChange fnWallPutWrong)

/-- 'laws.FnExactWallAll': WHATEVER THE INPUT: true; the input reads as it did. -/
def fnExactWallAllSpec : ChangeSpec := { name := "fnExactWallAll", fn := fun _ => fun
  | [d] => { results := [.lit (.bool true)], args := [d] }
  | _ => none }
def fnExactWallAllRow : OpenClaim := { program := "ytoabfiocjjfjeaa", sum := "305316dd3ff73eff0fa1d345245c47841c5ee9649759d3313e1aa12272907472", func := "loop.example/fathomline/laws.FnExactWallAll", spec := "fnExactWallAll", unfollowed := true, recurses := true, apart := false }
def FnExactWallAllSaid : Prop := fnExactWallAllRow.holds Try.pinned (OpenSpec.ofChange fnExactWallAllSpec)

/-- ITS FALSE NEIGHBOUR: 'it returns false'. Refute it at one input. -/
def fnExactWallAllWrong : ChangeSpec := { name := "fnExactWallAll", fn := fun _ => fun
  | [d] => { results := [.lit (.bool false)], args := [d] }
  | _ => none }
def FnExactWallAllWrongFalsely : Prop := fnExactWallAllRow.holds Try.pinned (OpenSpec.ofChange fnExactWallAllWrong)

/-- 'laws.FnShapeWallAll': WHATEVER THE INPUT: true; the input reads as it did. -/
def fnShapeWallAllSpec : ChangeSpec := { name := "fnShapeWallAll", fn := fun _ => fun
  | [d] => { results := [.lit (.bool true)], args := [d] }
  | _ => none }
def fnShapeWallAllRow : OpenClaim := { program := "ytoabfiocjjfjeaa", sum := "305316dd3ff73eff0fa1d345245c47841c5ee9649759d3313e1aa12272907472", func := "loop.example/fathomline/laws.FnShapeWallAll", spec := "fnShapeWallAll", unfollowed := true, recurses := true, apart := false }
def FnShapeWallAllSaid : Prop := fnShapeWallAllRow.holds Try.pinned (OpenSpec.ofChange fnShapeWallAllSpec)

/-- ITS FALSE NEIGHBOUR: 'it returns false'. Refute it at one input. -/
def fnShapeWallAllWrong : ChangeSpec := { name := "fnShapeWallAll", fn := fun _ => fun
  | [d] => { results := [.lit (.bool false)], args := [d] }
  | _ => none }
def FnShapeWallAllWrongFalsely : Prop := fnShapeWallAllRow.holds Try.pinned (OpenSpec.ofChange fnShapeWallAllWrong)

/-- 'laws.FnExactShapeOf': WHATEVER THE INPUT: true; the input reads as it did. -/
def fnExactShapeOfSpec : ChangeSpec := { name := "fnExactShapeOf", fn := fun _ => fun
  | [d1, d2] => { results := [.lit (.bool true)], args := [d1, d2] }
  | _ => none }
def fnExactShapeOfRow : OpenClaim := { program := "ytoabfiocjjfjeaa", sum := "305316dd3ff73eff0fa1d345245c47841c5ee9649759d3313e1aa12272907472", func := "loop.example/fathomline/laws.FnExactShapeOf", spec := "fnExactShapeOf", unfollowed := true, recurses := true, apart := false }
def FnExactShapeOfSaid : Prop := fnExactShapeOfRow.holds Try.pinned (OpenSpec.ofChange fnExactShapeOfSpec)

/-- ITS FALSE NEIGHBOUR: 'it returns false'. Refute it at one input. -/
def fnExactShapeOfWrong : ChangeSpec := { name := "fnExactShapeOf", fn := fun _ => fun
  | [d1, d2] => { results := [.lit (.bool false)], args := [d1, d2] }
  | _ => none }
def FnExactShapeOfWrongFalsely : Prop := fnExactShapeOfRow.holds Try.pinned (OpenSpec.ofChange fnExactShapeOfWrong)

/- THE SECOND FORM. 'bulk': how many values and letters a reading holds, each counted each time it is reached (what is shared counts as often as it is met; a slice's spare places count too). A statement '..UptoSaid' is the law's where the arguments, and the package variables that the reading takes, are together of bulk at most 1048576: NARROWER than '..Said'. Prove '..Said' where nothing that the law and all that it calls make is longer than what came in: it says more and counts as full. Else prove '..UptoSaid'. A law counts once. -/
mutual
def uptoBulk {H : Type} : DataW H → Nat
  | .lit (.string bytes) => bytes.length + 1
  | .lit _ => 1
  | .nil => 1
  | .ptr d => uptoBulk d + 1
  | .slice elems spare => uptoBulkAll elems + uptoBulkAll spare + 1
  | .agg parts => uptoBulkAll parts + 1
  | .iface _ d => uptoBulk d + 1
  | .map entries => uptoBulkEntries entries + 1
  | .held _ => 1
def uptoBulkAll {H : Type} : List (DataW H) → Nat
  | [] => 0
  | d :: r => uptoBulk d + uptoBulkAll r
def uptoBulkEntries {H : Type} : List (Lit × DataW H) → Nat
  | [] => 0
  | x :: r => uptoBulkEntry x + uptoBulkEntries r
def uptoBulkEntry {H : Type} : Lit × DataW H → Nat
  | (.string bytes, d) => bytes.length + uptoBulk d + 1
  | (_, d) => uptoBulk d + 1
 end
def uptoSmall : (H : Type) → List (DataW H) → Bool := fun _ ds => decide (uptoBulkAll ds ≤ 1048576)
def OpenSpec.upto (s : _root_.Go.ChangeSpec) : _root_.Go.OpenSpec := { _root_.Go.OpenSpec.ofChange s with cond := some uptoSmall }

/-- 'laws.FnWallPut', WHERE WHAT IT READS IS OF BULK AT MOST 1048576: true; the input reads as it did. -/
def fnWallPutUptoRow : OpenClaim := { program := "ytoabfiocjjfjeaa", sum := "305316dd3ff73eff0fa1d345245c47841c5ee9649759d3313e1aa12272907472", func := "loop.example/fathomline/laws.FnWallPut", spec := "fnWallPut", unfollowed := true, recurses := true, apart := false, narrowed := true }
def FnWallPutUptoSaid : Prop := fnWallPutUptoRow.holds Try.pinned (OpenSpec.upto fnWallPutSpec)

/-- 'laws.FnExactWallAll', WHERE WHAT IT READS IS OF BULK AT MOST 1048576: true; the input reads as it did. -/
def fnExactWallAllUptoRow : OpenClaim := { program := "ytoabfiocjjfjeaa", sum := "305316dd3ff73eff0fa1d345245c47841c5ee9649759d3313e1aa12272907472", func := "loop.example/fathomline/laws.FnExactWallAll", spec := "fnExactWallAll", unfollowed := true, recurses := true, apart := false, narrowed := true }
def FnExactWallAllUptoSaid : Prop := fnExactWallAllUptoRow.holds Try.pinned (OpenSpec.upto fnExactWallAllSpec)

/-- 'laws.FnShapeWallAll', WHERE WHAT IT READS IS OF BULK AT MOST 1048576: true; the input reads as it did. -/
def fnShapeWallAllUptoRow : OpenClaim := { program := "ytoabfiocjjfjeaa", sum := "305316dd3ff73eff0fa1d345245c47841c5ee9649759d3313e1aa12272907472", func := "loop.example/fathomline/laws.FnShapeWallAll", spec := "fnShapeWallAll", unfollowed := true, recurses := true, apart := false, narrowed := true }
def FnShapeWallAllUptoSaid : Prop := fnShapeWallAllUptoRow.holds Try.pinned (OpenSpec.upto fnShapeWallAllSpec)

/-- 'laws.FnExactShapeOf', WHERE WHAT IT READS IS OF BULK AT MOST 1048576: true; the input reads as it did. -/
def fnExactShapeOfUptoRow : OpenClaim := { program := "ytoabfiocjjfjeaa", sum := "305316dd3ff73eff0fa1d345245c47841c5ee9649759d3313e1aa12272907472", func := "loop.example/fathomline/laws.FnExactShapeOf", spec := "fnExactShapeOf", unfollowed := true, recurses := true, apart := false, narrowed := true }
def FnExactShapeOfUptoSaid : Prop := fnExactShapeOfUptoRow.holds Try.pinned (OpenSpec.upto fnExactShapeOfSpec)

end Rows
end Go.Proofs.Ytoabfiocjjfjeaa
