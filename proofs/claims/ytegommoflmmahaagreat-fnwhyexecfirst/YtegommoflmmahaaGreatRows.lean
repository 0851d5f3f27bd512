/-
  No cell of these rows narrows 'for every input' (looked for: loops, veiled, ifaces, maps, wideKeys, modest, calm, conditions, laid).
  DERIVED. THE GIVEN ROWS OF THIS SEAT. 7 by the template 'for every input the law returns true; each argument reads behind the call as it read before'; 0 by the template 'total and deterministic' (their statements: YtegommoflmmahaaGreatTotals.lean).
  GIVEN WITH THE SEED: the statements are not yours to turn. If you find one false, say at which input.
  Laid BY PROGRAM, IN A SANDBOX (cutbox-rows.mjs): the forced cells as the released guide's own fill.sh prints them over the translation b54f5f0b0bc1f75b… (all of the seat's roots in one cut). By AI agents, Wed Nov 11 2026. No macro, syntax, notation, axiom, sorry.
-/
import Derived.Test.YtegommoflmmahaaGreatChecked
import GoSem.Claim
import GoSem.ClaimJoined
import GoSem.ClaimMapViews
import Derived.JoinedTies
import Derived.KernelRfl
namespace Go.Proofs.YtegommoflmmahaaGreat
/- THE CELL 'sum', in the pinned program and in every row, IS THE sha256 OF THE DUMP (.gsa) THAT YtegommoflmmahaaGreatProg.lean LOADS. Nothing in Lean hashes anything: it is a label: what it is worth is what the hold of that sum in a sandbox is worth. -/
noncomputable def Tryz.pinned : Pinned := { name := "ytegommoflmmahaagreat", sum := "b54f5f0b0bc1f75b65ef6649d37b5447cebb7e1586cf0f497c5a0d7a4d9074e0", checked := Tryz.checked }
namespace Rows
def none {H : Type} : Left H := { results := [], args := [] }

/-- 'laws.FnWhyExec': WHATEVER THE INPUT: true; the input reads as it did. -/
def fnWhyExecSpec : ChangeSpec := { name := "fnWhyExec", fn := fun _ => fun
  | [d] => { results := [.lit (.bool true)], args := [d] }
  | _ => none }
def fnWhyExecRow : OpenClaim := { program := "ytegommoflmmahaagreat", sum := "b54f5f0b0bc1f75b65ef6649d37b5447cebb7e1586cf0f497c5a0d7a4d9074e0", func := "loop.example/fathomline/laws.FnWhyExec", spec := "fnWhyExec", unfollowed := true, recurses := true, apart := false }
def FnWhyExecSaid : Prop := fnWhyExecRow.holds Tryz.pinned (OpenSpec.ofChange fnWhyExecSpec)

/-- ITS FALSE NEIGHBOUR: 'it returns false'. Refute it at one input. -/
def fnWhyExecWrong : ChangeSpec := { name := "fnWhyExec", fn := fun _ => fun
  | [d] => { results := [.lit (.bool false)], args := [d] }
  | _ => none }
def FnWhyExecWrongFalsely : Prop := fnWhyExecRow.holds Tryz.pinned (OpenSpec.ofChange fnWhyExecWrong)

/-- 'laws.FnWhyExecIn': WHATEVER THE INPUT: true; the input reads as it did. -/
def fnWhyExecInSpec : ChangeSpec := { name := "fnWhyExecIn", fn := fun _ => fun
  | [d] => { results := [.lit (.bool true)], args := [d] }
  | _ => none }
def fnWhyExecInRow : OpenClaim := { program := "ytegommoflmmahaagreat", sum := "b54f5f0b0bc1f75b65ef6649d37b5447cebb7e1586cf0f497c5a0d7a4d9074e0", func := "loop.example/fathomline/laws.FnWhyExecIn", spec := "fnWhyExecIn", unfollowed := true, recurses := true, apart := false }
def FnWhyExecInSaid : Prop := fnWhyExecInRow.holds Tryz.pinned (OpenSpec.ofChange fnWhyExecInSpec)

/-- ITS FALSE NEIGHBOUR: 'it returns false'. Refute it at one input. -/
def fnWhyExecInWrong : ChangeSpec := { name := "fnWhyExecIn", fn := fun _ => fun
  | [d] => { results := [.lit (.bool false)], args := [d] }
  | _ => none }
def FnWhyExecInWrongFalsely : Prop := fnWhyExecInRow.holds Tryz.pinned (OpenSpec.ofChange fnWhyExecInWrong)

/-- 'laws.FnWhyExecFirst': WHATEVER THE INPUT: true; the input reads as it did. -/
def fnWhyExecFirstSpec : ChangeSpec := { name := "fnWhyExecFirst", fn := fun _ => fun
  | [d] => { results := [.lit (.bool true)], args := [d] }
  | _ => none }
def fnWhyExecFirstRow : OpenClaim := { program := "ytegommoflmmahaagreat", sum := "b54f5f0b0bc1f75b65ef6649d37b5447cebb7e1586cf0f497c5a0d7a4d9074e0", func := "loop.example/fathomline/laws.FnWhyExecFirst", spec := "fnWhyExecFirst", unfollowed := true, recurses := true, apart := false }
def FnWhyExecFirstSaid : Prop := fnWhyExecFirstRow.holds Tryz.pinned (OpenSpec.ofChange fnWhyExecFirstSpec)

/-- ITS FALSE NEIGHBOUR: 'it returns false'. Refute it at one input. -/
def fnWhyExecFirstWrong : ChangeSpec := { name := "fnWhyExecFirst", fn := fun _ => fun
  | [d] => { results := [.lit (.bool false)], args := [d] }
  | _ => none }
def FnWhyExecFirstWrongFalsely : Prop := fnWhyExecFirstRow.holds Tryz.pinned (OpenSpec.ofChange fnWhyExecFirstWrong)

/-- 'laws.FnWhyOrder': WHATEVER THE INPUT: true; the input reads as it did. -/
def fnWhyOrderSpec : ChangeSpec := { name := "fnWhyOrder", fn := fun _ => fun
  | [d] => { results := [.lit (.bool true)], args := [d] }
  | _ => none }
def fnWhyOrderRow : OpenClaim := { program := "ytegommoflmmahaagreat", sum := "b54f5f0b0bc1f75b65ef6649d37b5447cebb7e1586cf0f497c5a0d7a4d9074e0", func := "loop.example/fathomline/laws.FnWhyOrder", spec := "fnWhyOrder", unfollowed := true, recurses := true, apart := false }
def FnWhyOrderSaid : Prop := fnWhyOrderRow.holds Tryz.pinned (OpenSpec.ofChange fnWhyOrderSpec)

/-- ITS FALSE NEIGHBOUR: 'it returns false'. Refute it at one input. -/
def fnWhyOrderWrong : ChangeSpec := { name := "fnWhyOrder", fn := fun _ => fun
  | [d] => { results := [.lit (.bool false)], args := [d] }
  | _ => none }
def FnWhyOrderWrongFalsely : Prop := fnWhyOrderRow.holds Tryz.pinned (OpenSpec.ofChange fnWhyOrderWrong)

/-- 'laws.FnWhyOrderTurn': WHATEVER THE INPUT: true; the input reads as it did. -/
def fnWhyOrderTurnSpec : ChangeSpec := { name := "fnWhyOrderTurn", fn := fun _ => fun
  | [d] => { results := [.lit (.bool true)], args := [d] }
  | _ => none }
def fnWhyOrderTurnRow : OpenClaim := { program := "ytegommoflmmahaagreat", sum := "b54f5f0b0bc1f75b65ef6649d37b5447cebb7e1586cf0f497c5a0d7a4d9074e0", func := "loop.example/fathomline/laws.FnWhyOrderTurn", spec := "fnWhyOrderTurn", unfollowed := true, recurses := true, apart := false }
def FnWhyOrderTurnSaid : Prop := fnWhyOrderTurnRow.holds Tryz.pinned (OpenSpec.ofChange fnWhyOrderTurnSpec)

/-- ITS FALSE NEIGHBOUR: 'it returns false'. Refute it at one input. -/
def fnWhyOrderTurnWrong : ChangeSpec := { name := "fnWhyOrderTurn", fn := fun _ => fun
  | [d] => { results := [.lit (.bool false)], args := [d] }
  | _ => none }
def FnWhyOrderTurnWrongFalsely : Prop := fnWhyOrderTurnRow.holds Tryz.pinned (OpenSpec.ofChange fnWhyOrderTurnWrong)

/-- 'laws.FnExactWhyExec': WHATEVER THE INPUT: true; the input reads as it did. -/
def fnExactWhyExecSpec : ChangeSpec := { name := "fnExactWhyExec", fn := fun _ => fun
  | [d1, d2, d3] => { results := [.lit (.bool true)], args := [d1, d2, d3] }
  | _ => none }
def fnExactWhyExecRow : OpenClaim := { program := "ytegommoflmmahaagreat", sum := "b54f5f0b0bc1f75b65ef6649d37b5447cebb7e1586cf0f497c5a0d7a4d9074e0", func := "loop.example/fathomline/laws.FnExactWhyExec", spec := "fnExactWhyExec", unfollowed := true, recurses := true, apart := false }
def FnExactWhyExecSaid : Prop := fnExactWhyExecRow.holds Tryz.pinned (OpenSpec.ofChange fnExactWhyExecSpec)

/-- ITS FALSE NEIGHBOUR: 'it returns false'. Refute it at one input. -/
def fnExactWhyExecWrong : ChangeSpec := { name := "fnExactWhyExec", fn := fun _ => fun
  | [d1, d2, d3] => { results := [.lit (.bool false)], args := [d1, d2, d3] }
  | _ => none }
def FnExactWhyExecWrongFalsely : Prop := fnExactWhyExecRow.holds Tryz.pinned (OpenSpec.ofChange fnExactWhyExecWrong)

/-- 'laws.FnExactWhyOrder': WHATEVER THE INPUT: true; the input reads as it did. -/
def fnExactWhyOrderSpec : ChangeSpec := { name := "fnExactWhyOrder", fn := fun _ => fun
  | [d1, d2] => { results := [.lit (.bool true)], args := [d1, d2] }
  | _ => none }
def fnExactWhyOrderRow : OpenClaim := { program := "ytegommoflmmahaagreat", sum := "b54f5f0b0bc1f75b65ef6649d37b5447cebb7e1586cf0f497c5a0d7a4d9074e0", func := "loop.example/fathomline/laws.FnExactWhyOrder", spec := "fnExactWhyOrder", unfollowed := true, recurses := true, apart := false }
def FnExactWhyOrderSaid : Prop := fnExactWhyOrderRow.holds Tryz.pinned (OpenSpec.ofChange fnExactWhyOrderSpec)

/-- ITS FALSE NEIGHBOUR: 'it returns false'. Refute it at one input. -/
def fnExactWhyOrderWrong : ChangeSpec := { name := "fnExactWhyOrder", fn := fun _ => fun
  | [d1, d2] => { results := [.lit (.bool false)], args := [d1, d2] }
  | _ => none }
def FnExactWhyOrderWrongFalsely : Prop := fnExactWhyOrderRow.holds Tryz.pinned (OpenSpec.ofChange fnExactWhyOrderWrong)

/- THE SECOND FORM. 'bulk': how many values and letters a reading holds, each counted each time it is reached (what is shared counts as often as it is met; a slice's spare places count too). A statement '..UptoSaid' is the law's where the arguments, and the package variables that the reading takes, are together of bulk at most 1048576: NARROWER than '..Said'. Prove '..Said' where nothing that the law and all that it calls make is longer than what came in: it says more and counts as full. Else prove '..UptoSaid'. A law counts once. -/
mutual
def uptoBulk {H : Type} : DataW H → Nat
  | .lit (.string bytes) => bytes.length + 1
  | .lit _ => 1
  | .nil => 1
  | .ptr d => uptoBulk d + 1
  | .slice elems spare => uptoBulkAll elems + uptoBulkAll spare + 1
  | .agg parts => uptoBulkAll parts + 1
  | .iface _ d => uptoBulk d + 1
  | .map entries => uptoBulkEntries entries + 1
  | .held _ => 1
def uptoBulkAll {H : Type} : List (DataW H) → Nat
  | [] => 0
  | d :: r => uptoBulk d + uptoBulkAll r
def uptoBulkEntries {H : Type} : List (Lit × DataW H) → Nat
  | [] => 0
  | x :: r => uptoBulkEntry x + uptoBulkEntries r
def uptoBulkEntry {H : Type} : Lit × DataW H → Nat
  | (.string bytes, d) => bytes.length + uptoBulk d + 1
  | (_, d) => uptoBulk d + 1
 end
def uptoSmall : (H : Type) → List (DataW H) → Bool := fun _ ds => decide (uptoBulkAll ds ≤ 1048576)
def OpenSpec.upto (s : _root_.Go.ChangeSpec) : _root_.Go.OpenSpec := { _root_.Go.OpenSpec.ofChange s with cond := some uptoSmall }

/-- 'laws.FnWhyExec', WHERE WHAT IT READS IS OF BULK AT MOST 1048576: true; the input reads as it did. -/
def fnWhyExecUptoRow : OpenClaim := { program := "ytegommoflmmahaagreat", sum := "b54f5f0b0bc1f75b65ef6649d37b5447cebb7e1586cf0f497c5a0d7a4d9074e0", func := "loop.example/fathomline/laws.FnWhyExec", spec := "fnWhyExec", unfollowed := true, recurses := true, apart := false, narrowed := true }
def FnWhyExecUptoSaid : Prop := fnWhyExecUptoRow.holds Tryz.pinned (OpenSpec.upto fnWhyExecSpec)

/-- 'laws.FnWhyExecIn', WHERE WHAT IT READS IS OF BULK AT MOST 1048576: true; the input reads as it did. -/
def fnWhyExecInUptoRow : OpenClaim := { program := "ytegommoflmmahaagreat", sum := "b54f5f0b0bc1f75b65ef6649d37b5447cebb7e1586cf0f497c5a0d7a4d9074e0", func := "loop.example/fathomline/laws.FnWhyExecIn", spec := "fnWhyExecIn", unfollowed := true, recurses := true, apart := false, narrowed := true }
def FnWhyExecInUptoSaid : Prop := fnWhyExecInUptoRow.holds Tryz.pinned (OpenSpec.upto fnWhyExecInSpec)

/-- 'laws.FnWhyExecFirst', WHERE WHAT IT READS IS OF BULK AT MOST 1048576: true; the input reads as it did. -/
def fnWhyExecFirstUptoRow : OpenClaim := { program := "ytegommoflmmahaagreat", sum := "b54f5f0b0bc1f75b65ef6649d37b5447cebb7e1586cf0f497c5a0d7a4d9074e0", func := "loop.example/fathomline/laws.FnWhyExecFirst", spec := "fnWhyExecFirst", unfollowed := true, recurses := true, apart := false, narrowed := true }
def FnWhyExecFirstUptoSaid : Prop := fnWhyExecFirstUptoRow.holds Tryz.pinned (OpenSpec.upto fnWhyExecFirstSpec)

/-- 'laws.FnWhyOrder', WHERE WHAT IT READS IS OF BULK AT MOST 1048576: true; the input reads as it did. -/
def fnWhyOrderUptoRow : OpenClaim := { program := "ytegommoflmmahaagreat", sum := "b54f5f0b0bc1f75b65ef6649d37b5447cebb7e1586cf0f497c5a0d7a4d9074e0", func := "loop.example/fathomline/laws.FnWhyOrder", spec := "fnWhyOrder", unfollowed := true, recurses := true, apart := false, narrowed := true }
def FnWhyOrderUptoSaid : Prop := fnWhyOrderUptoRow.holds Tryz.pinned (OpenSpec.upto fnWhyOrderSpec)

/-- 'laws.FnWhyOrderTurn', WHERE WHAT IT READS IS OF BULK AT MOST 1048576: true; the input reads as it did. -/
def fnWhyOrderTurnUptoRow : OpenClaim := { program := "ytegommoflmmahaagreat", sum := "b54f5f0b0bc1f75b65ef6649d37b5447cebb7e1586cf0f497c5a0d7a4d9074e0", func := "loop.example/fathomline/laws.FnWhyOrderTurn", spec := "fnWhyOrderTurn", unfollowed := true, recurses := true, apart := false, narrowed := true }
def FnWhyOrderTurnUptoSaid : Prop := fnWhyOrderTurnUptoRow.holds Tryz.pinned (OpenSpec.upto fnWhyOrderTurnSpec)

/-- 'laws.FnExactWhyExec', WHERE WHAT IT READS IS OF BULK AT MOST 1048576: true; the input reads as it did. -/
def fnExactWhyExecUptoRow : OpenClaim := { program := "ytegommoflmmahaagreat", sum := "b54f5f0b0bc1f75b65ef6649d37b5447cebb7e1586cf0f497c5a0d7a4d9074e0", func := "loop.example/fathomline/laws.FnExactWhyExec", spec := "fnExactWhyExec", unfollowed := true, recurses := true, apart := false, narrowed := true }
def FnExactWhyExecUptoSaid : Prop := fnExactWhyExecUptoRow.holds Tryz.pinned (OpenSpec.upto fnExactWhyExecSpec)

/-- 'laws.FnExactWhyOrder', WHERE WHAT IT READS IS OF BULK AT MOST 1048576: true; the input reads as it did. -/
def fnExactWhyOrderUptoRow : OpenClaim := { program := "ytegommoflmmahaagreat", sum := "b54f5f0b0bc1f75b65ef6649d37b5447cebb7e1586cf0f497c5a0d7a4d9074e0", func := "loop.example/fathomline/laws.FnExactWhyOrder", spec := "fnExactWhyOrder", unfollowed := true, recurses := true, apart := false, narrowed := true }
def FnExactWhyOrderUptoSaid : Prop := fnExactWhyOrderUptoRow.holds Tryz.pinned (OpenSpec.upto fnExactWhyOrderSpec)

end Rows
end Go.Proofs.YtegommoflmmahaaGreat
