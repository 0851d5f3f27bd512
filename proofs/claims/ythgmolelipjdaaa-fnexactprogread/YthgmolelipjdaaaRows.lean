/-
  No cell of these rows narrows 'for every input' (looked for: loops, veiled, ifaces, maps, wideKeys, modest, calm, conditions, laid).
  DERIVED. THE GIVEN ROWS OF THIS SEAT. 5 by the template 'for every input the law returns true; each argument reads behind the call as it read before'; 0 by the template 'total and deterministic' (their statements: YthgmolelipjdaaaTotals.lean).
  GIVEN WITH THE SEED: the statements are not yours to turn. If you find one false, say at which input.
  Laid BY PROGRAM, IN A SANDBOX (cutbox-rows.mjs): the forced cells as the released guide's own fill.sh prints them over the translation 921f31464a3ba86e… (all of the seat's roots in one cut). By AI agents, Wed Nov 11 2026. No macro, syntax, notation, axiom, sorry.
-/
import Derived.Test.YthgmolelipjdaaaChecked
import GoSem.Claim
import GoSem.ClaimJoined
import GoSem.ClaimMapViews
import Derived.JoinedTies
import Derived.KernelRfl
namespace Go.Proofs.Ythgmolelipjdaaa
/- THE CELL 'sum', in the pinned program and in every row, IS THE sha256 OF THE DUMP (.gsa) THAT YthgmolelipjdaaaProg.lean LOADS. Nothing in Lean hashes anything: it is a label: what it is worth is what the hold of that sum in a sandbox is worth. -/
noncomputable def Try.pinned : Pinned := { name := "ythgmolelipjdaaa", sum := "921f31464a3ba86ee8930982d25b76b89f661b94c3e1551af4e560b7cb45ef0e", checked := Try.checked }
namespace Rows
def none {H : Type} : Left H := { results := [], args := [] }

/-- 'laws.FnProgBack': WHATEVER THE INPUT: true; the input reads as it did. -/
def fnProgBackSpec : ChangeSpec := { name := "fnProgBack", fn := fun _ => fun
  | [d] => { results := [.lit (.bool true)], args := [d] }
  | _ => none }
def fnProgBackRow : OpenClaim := { program := "ythgmolelipjdaaa", sum := "921f31464a3ba86ee8930982d25b76b89f661b94c3e1551af4e560b7cb45ef0e", func := "loop.example/fathomline/laws.FnProgBack", spec := "fnProgBack", inPlace := ["internal/abi.NoEscape", "internal/bytealg.IndexByteString", "internal/bytealg.IndexString"], unfollowed := true, recurses := true, named := ["internal/bytealg.MaxLen"], apart := false }
def FnProgBackSaid : Prop := fnProgBackRow.holds Try.pinned (OpenSpec.ofChange fnProgBackSpec)

/-- ITS FALSE NEIGHBOUR: 'it returns false'. Refute it at one input. -/
def fnProgBackWrong : ChangeSpec := { name := "fnProgBack", fn := fun _ => fun
  | [d] => { results := [.lit (.bool false)], args := [d] }
  | _ => none }
def FnProgBackWrongFalsely : Prop := fnProgBackRow.holds Try.pinned (OpenSpec.ofChange fnProgBackWrong)

/-- 'laws.FnProgStrict': WHATEVER THE INPUT: true; the input reads as it did. -/
def fnProgStrictSpec : ChangeSpec := { name := "fnProgStrict", fn := fun _ => fun
  | [d] => { results := [.lit (.bool true)], args := [d] }
  | _ => none }
def fnProgStrictRow : OpenClaim := { program := "ythgmolelipjdaaa", sum := "921f31464a3ba86ee8930982d25b76b89f661b94c3e1551af4e560b7cb45ef0e", func := "loop.example/fathomline/laws.FnProgStrict", spec := "fnProgStrict", inPlace := ["internal/bytealg.IndexByteString", "internal/bytealg.IndexString", "internal/abi.NoEscape"], unfollowed := true, recurses := true, named := ["internal/bytealg.MaxLen"], apart := false }
def FnProgStrictSaid : Prop := fnProgStrictRow.holds Try.pinned (OpenSpec.ofChange fnProgStrictSpec)

/-- ITS FALSE NEIGHBOUR: 'it returns false'. Refute it at one input. -/
def fnProgStrictWrong : ChangeSpec := { name := "fnProgStrict", fn := fun _ => fun
  | [d] => { results := [.lit (.bool false)], args := [d] }
  | _ => none }
def FnProgStrictWrongFalsely : Prop := fnProgStrictRow.holds Try.pinned (OpenSpec.ofChange fnProgStrictWrong)

/-- 'laws.FnProgOne': WHATEVER THE INPUT: true; the input reads as it did. -/
def fnProgOneSpec : ChangeSpec := { name := "fnProgOne", fn := fun _ => fun
  | [d1, d2] => { results := [.lit (.bool true)], args := [d1, d2] }
  | _ => none }
def fnProgOneRow : OpenClaim := { program := "ythgmolelipjdaaa", sum := "921f31464a3ba86ee8930982d25b76b89f661b94c3e1551af4e560b7cb45ef0e", func := "loop.example/fathomline/laws.FnProgOne", spec := "fnProgOne", inPlace := ["internal/abi.NoEscape"], unfollowed := true, recurses := true, apart := false }
def FnProgOneSaid : Prop := fnProgOneRow.holds Try.pinned (OpenSpec.ofChange fnProgOneSpec)

/-- ITS FALSE NEIGHBOUR: 'it returns false'. Refute it at one input. -/
def fnProgOneWrong : ChangeSpec := { name := "fnProgOne", fn := fun _ => fun
  | [d1, d2] => { results := [.lit (.bool false)], args := [d1, d2] }
  | _ => none }
def FnProgOneWrongFalsely : Prop := fnProgOneRow.holds Try.pinned (OpenSpec.ofChange fnProgOneWrong)

/-- 'laws.FnExactProgText': WHATEVER THE INPUT: true; the input reads as it did. -/
def fnExactProgTextSpec : ChangeSpec := { name := "fnExactProgText", fn := fun _ => fun
  | [d] => { results := [.lit (.bool true)], args := [d] }
  | _ => none }
def fnExactProgTextRow : OpenClaim := { program := "ythgmolelipjdaaa", sum := "921f31464a3ba86ee8930982d25b76b89f661b94c3e1551af4e560b7cb45ef0e", func := "loop.example/fathomline/laws.FnExactProgText", spec := "fnExactProgText", inPlace := ["internal/abi.NoEscape"], unfollowed := true, recurses := true, apart := false }
def FnExactProgTextSaid : Prop := fnExactProgTextRow.holds Try.pinned (OpenSpec.ofChange fnExactProgTextSpec)

/-- ITS FALSE NEIGHBOUR: 'it returns false'. Refute it at one input. -/
def fnExactProgTextWrong : ChangeSpec := { name := "fnExactProgText", fn := fun _ => fun
  | [d] => { results := [.lit (.bool false)], args := [d] }
  | _ => none }
def FnExactProgTextWrongFalsely : Prop := fnExactProgTextRow.holds Try.pinned (OpenSpec.ofChange fnExactProgTextWrong)

/-- 'laws.FnExactProgRead': WHATEVER THE INPUT: true; the input reads as it did. -/
def fnExactProgReadSpec : ChangeSpec := { name := "fnExactProgRead", fn := fun _ => fun
  | [d] => { results := [.lit (.bool true)], args := [d] }
  | _ => none }
def fnExactProgReadRow : OpenClaim := { program := "ythgmolelipjdaaa", sum := "921f31464a3ba86ee8930982d25b76b89f661b94c3e1551af4e560b7cb45ef0e", func := "loop.example/fathomline/laws.FnExactProgRead", spec := "fnExactProgRead", inPlace := ["internal/bytealg.IndexByteString", "internal/bytealg.IndexString", "internal/abi.NoEscape"], unfollowed := true, recurses := true, named := ["internal/bytealg.MaxLen"], apart := false }
def FnExactProgReadSaid : Prop := fnExactProgReadRow.holds Try.pinned (OpenSpec.ofChange fnExactProgReadSpec)

/-- ITS FALSE NEIGHBOUR: 'it returns false'. Refute it at one input. -/
def fnExactProgReadWrong : ChangeSpec := { name := "fnExactProgRead", fn := fun _ => fun
  | [d] => { results := [.lit (.bool false)], args := [d] }
  | _ => none }
def FnExactProgReadWrongFalsely : Prop := fnExactProgReadRow.holds Try.pinned (OpenSpec.ofChange fnExactProgReadWrong)

/- THE SECOND FORM. 'bulk': how many values and letters a reading holds, each counted each time it is reached (what is shared counts as often as it is met; a slice's spare places count too). A statement '..UptoSaid' is the law's where the arguments, and the package variables that the reading takes, are together of bulk at most 1048576: NARROWER than '..Said'. Prove '..Said' where nothing that the law and all that it calls make is longer than what came in: it says more and counts as full. Else prove '..UptoSaid'. A law counts once. -/
mutual
def uptoBulk {H : Type} : DataW H → Nat
  | .lit (.string bytes) => bytes.length + 1
  | .lit _ => 1
  | .nil => 1
  | .ptr d => uptoBulk d + 1
  | .slice elems spare => uptoBulkAll elems + uptoBulkAll spare + 1
  | .agg parts => uptoBulkAll parts + 1
  | .iface _ d => uptoBulk d + 1
  | .map entries => uptoBulkEntries entries + 1
  | .held _ => 1
def uptoBulkAll {H : Type} : List (DataW H) → Nat
  | [] => 0
  | d :: r => uptoBulk d + uptoBulkAll r
def uptoBulkEntries {H : Type} : List (Lit × DataW H) → Nat
  | [] => 0
  | x :: r => uptoBulkEntry x + uptoBulkEntries r
def uptoBulkEntry {H : Type} : Lit × DataW H → Nat
  | (.string bytes, d) => bytes.length + uptoBulk d + 1
  | (_, d) => uptoBulk d + 1
 end
def uptoSmall : (H : Type) → List (DataW H) → Bool := fun _ ds => decide (uptoBulkAll ds ≤ 1048576)
def OpenSpec.upto (s : _root_.Go.ChangeSpec) : _root_.Go.OpenSpec := { _root_.Go.OpenSpec.ofChange s with cond := some uptoSmall }

/-- 'laws.FnProgBack', WHERE WHAT IT READS IS OF BULK AT MOST 1048576: true; the input reads as it did. -/
def fnProgBackUptoRow : OpenClaim := { program := "ythgmolelipjdaaa", sum := "921f31464a3ba86ee8930982d25b76b89f661b94c3e1551af4e560b7cb45ef0e", func := "loop.example/fathomline/laws.FnProgBack", spec := "fnProgBack", inPlace := ["internal/abi.NoEscape", "internal/bytealg.IndexByteString", "internal/bytealg.IndexString"], unfollowed := true, recurses := true, named := ["internal/bytealg.MaxLen"], apart := false, narrowed := true }
def FnProgBackUptoSaid : Prop := fnProgBackUptoRow.holds Try.pinned (OpenSpec.upto fnProgBackSpec)

/-- 'laws.FnProgStrict', WHERE WHAT IT READS IS OF BULK AT MOST 1048576: true; the input reads as it did. -/
def fnProgStrictUptoRow : OpenClaim := { program := "ythgmolelipjdaaa", sum := "921f31464a3ba86ee8930982d25b76b89f661b94c3e1551af4e560b7cb45ef0e", func := "loop.example/fathomline/laws.FnProgStrict", spec := "fnProgStrict", inPlace := ["internal/bytealg.IndexByteString", "internal/bytealg.IndexString", "internal/abi.NoEscape"], unfollowed := true, recurses := true, named := ["internal/bytealg.MaxLen"], apart := false, narrowed := true }
def FnProgStrictUptoSaid : Prop := fnProgStrictUptoRow.holds Try.pinned (OpenSpec.upto fnProgStrictSpec)

/-- 'laws.FnProgOne', WHERE WHAT IT READS IS OF BULK AT MOST 1048576: true; the input reads as it did. -/
def fnProgOneUptoRow : OpenClaim := { program := "ythgmolelipjdaaa", sum := "921f31464a3ba86ee8930982d25b76b89f661b94c3e1551af4e560b7cb45ef0e", func := "loop.example/fathomline/laws.FnProgOne", spec := "fnProgOne", inPlace := ["internal/abi.NoEscape"], unfollowed := true, recurses := true, apart := false, narrowed := true }
def FnProgOneUptoSaid : Prop := fnProgOneUptoRow.holds Try.pinned (OpenSpec.upto fnProgOneSpec)

/-- 'laws.FnExactProgText', WHERE WHAT IT READS IS OF BULK AT MOST 1048576: true; the input reads as it did. -/
def fnExactProgTextUptoRow : OpenClaim := { program := "ythgmolelipjdaaa", sum := "921f31464a3ba86ee8930982d25b76b89f661b94c3e1551af4e560b7cb45ef0e", func := "loop.example/fathomline/laws.FnExactProgText", spec := "fnExactProgText", inPlace := ["internal/abi.NoEscape"], unfollowed := true, recurses := true, apart := false, narrowed := true }
def FnExactProgTextUptoSaid : Prop := fnExactProgTextUptoRow.holds Try.pinned (OpenSpec.upto fnExactProgTextSpec)

/-- 'laws.FnExactProgRead', WHERE WHAT IT READS IS OF BULK AT MOST 1048576: true; the input reads as it did. -/
def fnExactProgReadUptoRow : OpenClaim := { program := "ythgmolelipjdaaa", sum := "921f31464a3ba86ee8930982d25b76b89f661b94c3e1551af4e560b7cb45ef0e", func := "loop.example/fathomline/laws.FnExactProgRead", spec := "fnExactProgRead", inPlace := ["internal/bytealg.IndexByteString", "internal/bytealg.IndexString", "internal/abi.NoEscape"], unfollowed := true, recurses := true, named := ["internal/bytealg.MaxLen"], apart := false, narrowed := true }
def FnExactProgReadUptoSaid : Prop := fnExactProgReadUptoRow.holds Try.pinned (OpenSpec.upto fnExactProgReadSpec)

end Rows
end Go.Proofs.Ythgmolelipjdaaa
