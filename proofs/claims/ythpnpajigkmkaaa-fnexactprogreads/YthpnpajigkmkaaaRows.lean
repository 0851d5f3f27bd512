/-
  No cell of these rows narrows 'for every input' (looked for: loops, veiled, ifaces, maps, wideKeys, modest, calm, conditions, laid).
  DERIVED. THE GIVEN ROWS OF THIS SEAT. 6 by the template 'for every input the law returns true; each argument reads behind the call as it read before'; 0 by the template 'total and deterministic' (their statements: YthpnpajigkmkaaaTotals.lean).
  GIVEN WITH THE SEED: the statements are not yours to turn. If you find one false, say at which input.
  Laid BY PROGRAM, IN A SANDBOX (cutbox-rows.mjs): the forced cells as the released guide's own fill.sh prints them over the translation 20d84b83a3a6e1b1… (all of the seat's roots in one cut). By AI agents, Wed Nov 11 2026. No macro, syntax, notation, axiom, sorry.
-/
import Derived.Test.YthpnpajigkmkaaaChecked
import GoSem.Claim
import GoSem.ClaimJoined
import GoSem.ClaimMapViews
import Derived.JoinedTies
import Derived.KernelRfl
namespace Go.Proofs.Ythpnpajigkmkaaa
/- THE CELL 'sum', in the pinned program and in every row, IS THE sha256 OF THE DUMP (.gsa) THAT YthpnpajigkmkaaaProg.lean LOADS. Nothing in Lean hashes anything: it is a label: what it is worth is what the hold of that sum in a sandbox is worth. -/
noncomputable def Try.pinned : Pinned := { name := "ythpnpajigkmkaaa", sum := "20d84b83a3a6e1b1c5bfcd6357c930bca8cd6b231f6c19643f7c67c0399a0160", checked := Try.checked }
namespace Rows
def none {H : Type} : Left H := { results := [], args := [] }

/-- 'laws.FnExactProgOk': WHATEVER THE INPUT: true; the input reads as it did. -/
def fnExactProgOkSpec : ChangeSpec := { name := "fnExactProgOk", fn := fun _ => fun
  | [d] => { results := [.lit (.bool true)], args := [d] }
  | _ => none }
def fnExactProgOkRow : OpenClaim := { program := "ythpnpajigkmkaaa", sum := "20d84b83a3a6e1b1c5bfcd6357c930bca8cd6b231f6c19643f7c67c0399a0160", func := "loop.example/fathomline/laws.FnExactProgOk", spec := "fnExactProgOk", unfollowed := true, recurses := true, apart := false }
def FnExactProgOkSaid : Prop := fnExactProgOkRow.holds Try.pinned (OpenSpec.ofChange fnExactProgOkSpec)

/-- ITS FALSE NEIGHBOUR: 'it returns false'. Refute it at one input. -/
def fnExactProgOkWrong : ChangeSpec := { name := "fnExactProgOk", fn := fun _ => fun
  | [d] => { results := [.lit (.bool false)], args := [d] }
  | _ => none }
def FnExactProgOkWrongFalsely : Prop := fnExactProgOkRow.holds Try.pinned (OpenSpec.ofChange fnExactProgOkWrong)

/-- 'laws.FnExactProgReads': WHATEVER THE INPUT: true; the input reads as it did. -/
def fnExactProgReadsSpec : ChangeSpec := { name := "fnExactProgReads", fn := fun _ => fun
  | [d] => { results := [.lit (.bool true)], args := [d] }
  | _ => none }
def fnExactProgReadsRow : OpenClaim := { program := "ythpnpajigkmkaaa", sum := "20d84b83a3a6e1b1c5bfcd6357c930bca8cd6b231f6c19643f7c67c0399a0160", func := "loop.example/fathomline/laws.FnExactProgReads", spec := "fnExactProgReads", unfollowed := true, recurses := true, apart := false }
def FnExactProgReadsSaid : Prop := fnExactProgReadsRow.holds Try.pinned (OpenSpec.ofChange fnExactProgReadsSpec)

/-- ITS FALSE NEIGHBOUR: 'it returns false'. Refute it at one input. -/
def fnExactProgReadsWrong : ChangeSpec := { name := "fnExactProgReads", fn := fun _ => fun
  | [d] => { results := [.lit (.bool false)], args := [d] }
  | _ => none }
def FnExactProgReadsWrongFalsely : Prop := fnExactProgReadsRow.holds Try.pinned (OpenSpec.ofChange fnExactProgReadsWrong)

/-- 'laws.FnExactProgText': WHATEVER THE INPUT: true; the input reads as it did. -/
def fnExactProgTextSpec : ChangeSpec := { name := "fnExactProgText", fn := fun _ => fun
  | [d] => { results := [.lit (.bool true)], args := [d] }
  | _ => none }
def fnExactProgTextRow : OpenClaim := { program := "ythpnpajigkmkaaa", sum := "20d84b83a3a6e1b1c5bfcd6357c930bca8cd6b231f6c19643f7c67c0399a0160", func := "loop.example/fathomline/laws.FnExactProgText", spec := "fnExactProgText", inPlace := ["internal/abi.NoEscape"], unfollowed := true, recurses := true, apart := false }
def FnExactProgTextSaid : Prop := fnExactProgTextRow.holds Try.pinned (OpenSpec.ofChange fnExactProgTextSpec)

/-- ITS FALSE NEIGHBOUR: 'it returns false'. Refute it at one input. -/
def fnExactProgTextWrong : ChangeSpec := { name := "fnExactProgText", fn := fun _ => fun
  | [d] => { results := [.lit (.bool false)], args := [d] }
  | _ => none }
def FnExactProgTextWrongFalsely : Prop := fnExactProgTextRow.holds Try.pinned (OpenSpec.ofChange fnExactProgTextWrong)

/-- 'laws.FnExactProgRead': WHATEVER THE INPUT: true; the input reads as it did. -/
def fnExactProgReadSpec : ChangeSpec := { name := "fnExactProgRead", fn := fun _ => fun
  | [d] => { results := [.lit (.bool true)], args := [d] }
  | _ => none }
def fnExactProgReadRow : OpenClaim := { program := "ythpnpajigkmkaaa", sum := "20d84b83a3a6e1b1c5bfcd6357c930bca8cd6b231f6c19643f7c67c0399a0160", func := "loop.example/fathomline/laws.FnExactProgRead", spec := "fnExactProgRead", inPlace := ["internal/bytealg.IndexByteString", "internal/bytealg.IndexString", "internal/abi.NoEscape"], unfollowed := true, recurses := true, named := ["internal/bytealg.MaxLen"], apart := false }
def FnExactProgReadSaid : Prop := fnExactProgReadRow.holds Try.pinned (OpenSpec.ofChange fnExactProgReadSpec)

/-- ITS FALSE NEIGHBOUR: 'it returns false'. Refute it at one input. -/
def fnExactProgReadWrong : ChangeSpec := { name := "fnExactProgRead", fn := fun _ => fun
  | [d] => { results := [.lit (.bool false)], args := [d] }
  | _ => none }
def FnExactProgReadWrongFalsely : Prop := fnExactProgReadRow.holds Try.pinned (OpenSpec.ofChange fnExactProgReadWrong)

/-- 'laws.FnExactSeenOk': WHATEVER THE INPUT: true; the input reads as it did. -/
def fnExactSeenOkSpec : ChangeSpec := { name := "fnExactSeenOk", fn := fun _ => fun
  | [d1, d2] => { results := [.lit (.bool true)], args := [d1, d2] }
  | _ => none }
def fnExactSeenOkRow : OpenClaim := { program := "ythpnpajigkmkaaa", sum := "20d84b83a3a6e1b1c5bfcd6357c930bca8cd6b231f6c19643f7c67c0399a0160", func := "loop.example/fathomline/laws.FnExactSeenOk", spec := "fnExactSeenOk", unfollowed := true, recurses := true, apart := false }
def FnExactSeenOkSaid : Prop := fnExactSeenOkRow.holds Try.pinned (OpenSpec.ofChange fnExactSeenOkSpec)

/-- ITS FALSE NEIGHBOUR: 'it returns false'. Refute it at one input. -/
def fnExactSeenOkWrong : ChangeSpec := { name := "fnExactSeenOk", fn := fun _ => fun
  | [d1, d2] => { results := [.lit (.bool false)], args := [d1, d2] }
  | _ => none }
def FnExactSeenOkWrongFalsely : Prop := fnExactSeenOkRow.holds Try.pinned (OpenSpec.ofChange fnExactSeenOkWrong)

/-- 'laws.FnExactSeenLess': WHATEVER THE INPUT: true; the input reads as it did. -/
def fnExactSeenLessSpec : ChangeSpec := { name := "fnExactSeenLess", fn := fun _ => fun
  | [d1, d2] => { results := [.lit (.bool true)], args := [d1, d2] }
  | _ => none }
def fnExactSeenLessRow : OpenClaim := { program := "ythpnpajigkmkaaa", sum := "20d84b83a3a6e1b1c5bfcd6357c930bca8cd6b231f6c19643f7c67c0399a0160", func := "loop.example/fathomline/laws.FnExactSeenLess", spec := "fnExactSeenLess", apart := false }
def FnExactSeenLessSaid : Prop := fnExactSeenLessRow.holds Try.pinned (OpenSpec.ofChange fnExactSeenLessSpec)

/-- ITS FALSE NEIGHBOUR: 'it returns false'. Refute it at one input. -/
def fnExactSeenLessWrong : ChangeSpec := { name := "fnExactSeenLess", fn := fun _ => fun
  | [d1, d2] => { results := [.lit (.bool false)], args := [d1, d2] }
  | _ => none }
def FnExactSeenLessWrongFalsely : Prop := fnExactSeenLessRow.holds Try.pinned (OpenSpec.ofChange fnExactSeenLessWrong)

/- THE SECOND FORM. 'bulk': how many values and letters a reading holds, each counted each time it is reached (what is shared counts as often as it is met; a slice's spare places count too). A statement '..UptoSaid' is the law's where the arguments, and the package variables that the reading takes, are together of bulk at most 1048576: NARROWER than '..Said'. Prove '..Said' where nothing that the law and all that it calls make is longer than what came in: it says more and counts as full. Else prove '..UptoSaid'. A law counts once. -/
mutual
def uptoBulk {H : Type} : DataW H → Nat
  | .lit (.string bytes) => bytes.length + 1
  | .lit _ => 1
  | .nil => 1
  | .ptr d => uptoBulk d + 1
  | .slice elems spare => uptoBulkAll elems + uptoBulkAll spare + 1
  | .agg parts => uptoBulkAll parts + 1
  | .iface _ d => uptoBulk d + 1
  | .map entries => uptoBulkEntries entries + 1
  | .held _ => 1
def uptoBulkAll {H : Type} : List (DataW H) → Nat
  | [] => 0
  | d :: r => uptoBulk d + uptoBulkAll r
def uptoBulkEntries {H : Type} : List (Lit × DataW H) → Nat
  | [] => 0
  | x :: r => uptoBulkEntry x + uptoBulkEntries r
def uptoBulkEntry {H : Type} : Lit × DataW H → Nat
  | (.string bytes, d) => bytes.length + uptoBulk d + 1
  | (_, d) => uptoBulk d + 1
 end
def uptoSmall : (H : Type) → List (DataW H) → Bool := fun _ ds => decide (uptoBulkAll ds ≤ 1048576)
def OpenSpec.upto (s : _root_.Go.ChangeSpec) : _root_.Go.OpenSpec := { _root_.Go.OpenSpec.ofChange s with cond := some uptoSmall }

/-- 'laws.FnExactProgOk', WHERE WHAT IT READS IS OF BULK AT MOST 1048576: true; the input reads as it did. -/
def fnExactProgOkUptoRow : OpenClaim := { program := "ythpnpajigkmkaaa", sum := "20d84b83a3a6e1b1c5bfcd6357c930bca8cd6b231f6c19643f7c67c0399a0160", func := "loop.example/fathomline/laws.FnExactProgOk", spec := "fnExactProgOk", unfollowed := true, recurses := true, apart := false, narrowed := true }
def FnExactProgOkUptoSaid : Prop := fnExactProgOkUptoRow.holds Try.pinned (OpenSpec.upto fnExactProgOkSpec)

/-- 'laws.FnExactProgReads', WHERE WHAT IT READS IS OF BULK AT MOST 1048576: true; the input reads as it did. -/
def fnExactProgReadsUptoRow : OpenClaim := { program := "ythpnpajigkmkaaa", sum := "20d84b83a3a6e1b1c5bfcd6357c930bca8cd6b231f6c19643f7c67c0399a0160", func := "loop.example/fathomline/laws.FnExactProgReads", spec := "fnExactProgReads", unfollowed := true, recurses := true, apart := false, narrowed := true }
def FnExactProgReadsUptoSaid : Prop := fnExactProgReadsUptoRow.holds Try.pinned (OpenSpec.upto fnExactProgReadsSpec)

/-- 'laws.FnExactProgText', WHERE WHAT IT READS IS OF BULK AT MOST 1048576: true; the input reads as it did. -/
def fnExactProgTextUptoRow : OpenClaim := { program := "ythpnpajigkmkaaa", sum := "20d84b83a3a6e1b1c5bfcd6357c930bca8cd6b231f6c19643f7c67c0399a0160", func := "loop.example/fathomline/laws.FnExactProgText", spec := "fnExactProgText", inPlace := ["internal/abi.NoEscape"], unfollowed := true, recurses := true, apart := false, narrowed := true }
def FnExactProgTextUptoSaid : Prop := fnExactProgTextUptoRow.holds Try.pinned (OpenSpec.upto fnExactProgTextSpec)

/-- 'laws.FnExactProgRead', WHERE WHAT IT READS IS OF BULK AT MOST 1048576: true; the input reads as it did. -/
def fnExactProgReadUptoRow : OpenClaim := { program := "ythpnpajigkmkaaa", sum := "20d84b83a3a6e1b1c5bfcd6357c930bca8cd6b231f6c19643f7c67c0399a0160", func := "loop.example/fathomline/laws.FnExactProgRead", spec := "fnExactProgRead", inPlace := ["internal/bytealg.IndexByteString", "internal/bytealg.IndexString", "internal/abi.NoEscape"], unfollowed := true, recurses := true, named := ["internal/bytealg.MaxLen"], apart := false, narrowed := true }
def FnExactProgReadUptoSaid : Prop := fnExactProgReadUptoRow.holds Try.pinned (OpenSpec.upto fnExactProgReadSpec)

/-- 'laws.FnExactSeenOk', WHERE WHAT IT READS IS OF BULK AT MOST 1048576: true; the input reads as it did. -/
def fnExactSeenOkUptoRow : OpenClaim := { program := "ythpnpajigkmkaaa", sum := "20d84b83a3a6e1b1c5bfcd6357c930bca8cd6b231f6c19643f7c67c0399a0160", func := "loop.example/fathomline/laws.FnExactSeenOk", spec := "fnExactSeenOk", unfollowed := true, recurses := true, apart := false, narrowed := true }
def FnExactSeenOkUptoSaid : Prop := fnExactSeenOkUptoRow.holds Try.pinned (OpenSpec.upto fnExactSeenOkSpec)

/-- 'laws.FnExactSeenLess', WHERE WHAT IT READS IS OF BULK AT MOST 1048576: true; the input reads as it did. -/
def fnExactSeenLessUptoRow : OpenClaim := { program := "ythpnpajigkmkaaa", sum := "20d84b83a3a6e1b1c5bfcd6357c930bca8cd6b231f6c19643f7c67c0399a0160", func := "loop.example/fathomline/laws.FnExactSeenLess", spec := "fnExactSeenLess", apart := false, narrowed := true }
def FnExactSeenLessUptoSaid : Prop := fnExactSeenLessUptoRow.holds Try.pinned (OpenSpec.upto fnExactSeenLessSpec)

end Rows
end Go.Proofs.Ythpnpajigkmkaaa
