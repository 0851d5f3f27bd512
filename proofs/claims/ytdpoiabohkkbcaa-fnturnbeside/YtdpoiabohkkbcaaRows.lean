/-
  No cell of these rows narrows 'for every input' (looked for: loops, veiled, ifaces, maps, wideKeys, modest, calm, conditions, laid).
  DERIVED. THE GIVEN ROWS OF THIS SEAT. 6 by the template 'for every input the law returns true; each argument reads behind the call as it read before'; 0 by the template 'total and deterministic' (their statements: YtdpoiabohkkbcaaTotals.lean).
  GIVEN WITH THE SEED: the statements are not yours to turn. If you find one false, say at which input.
  Laid BY PROGRAM, IN A SANDBOX (cutbox-rows.mjs): the forced cells as the released guide's own fill.sh prints them over the translation ffbf9949921f4e4f… (all of the seat's roots in one cut). By AI agents, Wed Nov 11 2026. No macro, syntax, notation, axiom, sorry.
-/
import Derived.Test.YtdpoiabohkkbcaaChecked
import GoSem.Claim
import GoSem.ClaimJoined
import GoSem.ClaimMapViews
import Derived.JoinedTies
import Derived.KernelRfl
namespace Go.Proofs.Ytdpoiabohkkbcaa
/- THE CELL 'sum', in the pinned program and in every row, IS THE sha256 OF THE DUMP (.gsa) THAT YtdpoiabohkkbcaaProg.lean LOADS. Nothing in Lean hashes anything: it is a label: what it is worth is what the hold of that sum in a sandbox is worth. -/
noncomputable def Try.pinned : Pinned := { name := "ytdpoiabohkkbcaa", sum := "ffbf9949921f4e4fd113af42c9e54cb2502b99a0de184dcf01c410051506d23d", checked := Try.checked }
namespace Rows
def none {H : Type} : Left H := { results := [], args := [] }

/-- 'laws.FnTurnPlain': WHATEVER THE INPUT: true; the input reads as it did. -/
def fnTurnPlainSpec : ChangeSpec := { name := "fnTurnPlain", fn := fun _ => fun
  | [d] => { results := [.lit (.bool true)], args := [d] }
  | _ => none }
def fnTurnPlainRow : OpenClaim := { program := "ytdpoiabohkkbcaa", sum := "ffbf9949921f4e4fd113af42c9e54cb2502b99a0de184dcf01c410051506d23d", func := "loop.example/fathomline/laws.FnTurnPlain", spec := "fnTurnPlain", unfollowed := true, recurses := true, apart := false }
def FnTurnPlainSaid : Prop := fnTurnPlainRow.holds Try.pinned (OpenSpec.ofChange fnTurnPlainSpec)

/-- ITS FALSE NEIGHBOUR: 'it returns false'. Refute it at one input. -/
def fnTurnPlainWrong : ChangeSpec := { name := "fnTurnPlain", fn := fun _ => fun
  | [d] => { results := [.lit (.bool false)], args := [d] }
  | _ => none }
def FnTurnPlainWrongFalsely : Prop := fnTurnPlainRow.holds Try.pinned (OpenSpec.ofChange fnTurnPlainWrong)

/-- 'laws.FnTurnOk': WHATEVER THE INPUT: true; the input reads as it did. -/
def fnTurnOkSpec : ChangeSpec := { name := "fnTurnOk", fn := fun _ => fun
  | [d] => { results := [.lit (.bool true)], args := [d] }
  | _ => none }
def fnTurnOkRow : OpenClaim := { program := "ytdpoiabohkkbcaa", sum := "ffbf9949921f4e4fd113af42c9e54cb2502b99a0de184dcf01c410051506d23d", func := "loop.example/fathomline/laws.FnTurnOk", spec := "fnTurnOk", unfollowed := true, recurses := true, apart := false }
def FnTurnOkSaid : Prop := fnTurnOkRow.holds Try.pinned (OpenSpec.ofChange fnTurnOkSpec)

/-- ITS FALSE NEIGHBOUR: 'it returns false'. Refute it at one input. -/
def fnTurnOkWrong : ChangeSpec := { name := "fnTurnOk", fn := fun _ => fun
  | [d] => { results := [.lit (.bool false)], args := [d] }
  | _ => none }
def FnTurnOkWrongFalsely : Prop := fnTurnOkRow.holds Try.pinned (OpenSpec.ofChange fnTurnOkWrong)

/-- 'laws.FnTurnBeside': WHATEVER THE INPUT: true; the input reads as it did. -/
def fnTurnBesideSpec : ChangeSpec := { name := "fnTurnBeside", fn := fun _ => fun
  | [d] => { results := [.lit (.bool true)], args := [d] }
  | _ => none }
def fnTurnBesideRow : OpenClaim := { program := "ytdpoiabohkkbcaa", sum := "ffbf9949921f4e4fd113af42c9e54cb2502b99a0de184dcf01c410051506d23d", func := "loop.example/fathomline/laws.FnTurnBeside", spec := "fnTurnBeside", unfollowed := true, recurses := true, apart := false }
def FnTurnBesideSaid : Prop := fnTurnBesideRow.holds Try.pinned (OpenSpec.ofChange fnTurnBesideSpec)

/-- ITS FALSE NEIGHBOUR: 'it returns false'. Refute it at one input. -/
def fnTurnBesideWrong : ChangeSpec := { name := "fnTurnBeside", fn := fun _ => fun
  | [d] => { results := [.lit (.bool false)], args := [d] }
  | _ => none }
def FnTurnBesideWrongFalsely : Prop := fnTurnBesideRow.holds Try.pinned (OpenSpec.ofChange fnTurnBesideWrong)

/-- 'laws.FnTurnSame': WHATEVER THE INPUT: true; the input reads as it did. -/
def fnTurnSameSpec : ChangeSpec := { name := "fnTurnSame", fn := fun _ => fun
  | [d] => { results := [.lit (.bool true)], args := [d] }
  | _ => none }
def fnTurnSameRow : OpenClaim := { program := "ytdpoiabohkkbcaa", sum := "ffbf9949921f4e4fd113af42c9e54cb2502b99a0de184dcf01c410051506d23d", func := "loop.example/fathomline/laws.FnTurnSame", spec := "fnTurnSame", unfollowed := true, recurses := true, apart := false }
def FnTurnSameSaid : Prop := fnTurnSameRow.holds Try.pinned (OpenSpec.ofChange fnTurnSameSpec)

/-- ITS FALSE NEIGHBOUR: 'it returns false'. Refute it at one input. -/
def fnTurnSameWrong : ChangeSpec := { name := "fnTurnSame", fn := fun _ => fun
  | [d] => { results := [.lit (.bool false)], args := [d] }
  | _ => none }
def FnTurnSameWrongFalsely : Prop := fnTurnSameRow.holds Try.pinned (OpenSpec.ofChange fnTurnSameWrong)

/-- 'laws.FnExactTurnBeside': WHATEVER THE INPUT: true; the input reads as it did. -/
def fnExactTurnBesideSpec : ChangeSpec := { name := "fnExactTurnBeside", fn := fun _ => fun
  | [d1, d2] => { results := [.lit (.bool true)], args := [d1, d2] }
  | _ => none }
def fnExactTurnBesideRow : OpenClaim := { program := "ytdpoiabohkkbcaa", sum := "ffbf9949921f4e4fd113af42c9e54cb2502b99a0de184dcf01c410051506d23d", func := "loop.example/fathomline/laws.FnExactTurnBeside", spec := "fnExactTurnBeside", unfollowed := true, recurses := true, apart := false }
def FnExactTurnBesideSaid : Prop := fnExactTurnBesideRow.holds Try.pinned (OpenSpec.ofChange fnExactTurnBesideSpec)

/-- ITS FALSE NEIGHBOUR: 'it returns false'. Refute it at one input. -/
def fnExactTurnBesideWrong : ChangeSpec := { name := "fnExactTurnBeside", fn := fun _ => fun
  | [d1, d2] => { results := [.lit (.bool false)], args := [d1, d2] }
  | _ => none }
def FnExactTurnBesideWrongFalsely : Prop := fnExactTurnBesideRow.holds Try.pinned (OpenSpec.ofChange fnExactTurnBesideWrong)

/-- 'laws.FnExactTurnPlain': WHATEVER THE INPUT: true; the input reads as it did. -/
def fnExactTurnPlainSpec : ChangeSpec := { name := "fnExactTurnPlain", fn := fun _ => fun
  | [d] => { results := [.lit (.bool true)], args := [d] }
  | _ => none }
def fnExactTurnPlainRow : OpenClaim := { program := "ytdpoiabohkkbcaa", sum := "ffbf9949921f4e4fd113af42c9e54cb2502b99a0de184dcf01c410051506d23d", func := "loop.example/fathomline/laws.FnExactTurnPlain", spec := "fnExactTurnPlain", unfollowed := true, recurses := true, apart := false }
def FnExactTurnPlainSaid : Prop := fnExactTurnPlainRow.holds Try.pinned (OpenSpec.ofChange fnExactTurnPlainSpec)

/-- ITS FALSE NEIGHBOUR: 'it returns false'. Refute it at one input. -/
def fnExactTurnPlainWrong : ChangeSpec := { name := "fnExactTurnPlain", fn := fun _ => fun
  | [d] => { results := [.lit (.bool false)], args := [d] }
  | _ => none }
def FnExactTurnPlainWrongFalsely : Prop := fnExactTurnPlainRow.holds Try.pinned (OpenSpec.ofChange fnExactTurnPlainWrong)

/- THE SECOND FORM. 'bulk': how many values and letters a reading holds, each counted each time it is reached (what is shared counts as often as it is met; a slice's spare places count too). A statement '..UptoSaid' is the law's where the arguments, and the package variables that the reading takes, are together of bulk at most 1048576: NARROWER than '..Said'. Prove '..Said' where nothing that the law and all that it calls make is longer than what came in: it says more and counts as full. Else prove '..UptoSaid'. A law counts once. -/
mutual
def uptoBulk {H : Type} : DataW H → Nat
  | .lit (.string bytes) => bytes.length + 1
  | .lit _ => 1
  | .nil => 1
  | .ptr d => uptoBulk d + 1
  | .slice elems spare => uptoBulkAll elems + uptoBulkAll spare + 1
  | .agg parts => uptoBulkAll parts + 1
  | .iface _ d => uptoBulk d + 1
  | .map entries => uptoBulkEntries entries + 1
  | .held _ => 1
def uptoBulkAll {H : Type} : List (DataW H) → Nat
  | [] => 0
  | d :: r => uptoBulk d + uptoBulkAll r
def uptoBulkEntries {H : Type} : List (Lit × DataW H) → Nat
  | [] => 0
  | x :: r => uptoBulkEntry x + uptoBulkEntries r
def uptoBulkEntry {H : Type} : Lit × DataW H → Nat
  | (.string bytes, d) => bytes.length + uptoBulk d + 1
  | (_, d) => uptoBulk d + 1
 end
def uptoSmall : (H : Type) → List (DataW H) → Bool := fun _ ds => decide (uptoBulkAll ds ≤ 1048576)
def OpenSpec.upto (s : _root_.Go.ChangeSpec) : _root_.Go.OpenSpec := { _root_.Go.OpenSpec.ofChange s with cond := some uptoSmall }

/-- 'laws.FnTurnPlain', WHERE WHAT IT READS IS OF BULK AT MOST 1048576: true; the input reads as it did. -/
def fnTurnPlainUptoRow : OpenClaim := { program := "ytdpoiabohkkbcaa", sum := "ffbf9949921f4e4fd113af42c9e54cb2502b99a0de184dcf01c410051506d23d", func := "loop.example/fathomline/laws.FnTurnPlain", spec := "fnTurnPlain", unfollowed := true, recurses := true, apart := false, narrowed := true }
def FnTurnPlainUptoSaid : Prop := fnTurnPlainUptoRow.holds Try.pinned (OpenSpec.upto fnTurnPlainSpec)

/-- 'laws.FnTurnOk', WHERE WHAT IT READS IS OF BULK AT MOST 1048576: true; the input reads as it did. -/
def fnTurnOkUptoRow : OpenClaim := { program := "ytdpoiabohkkbcaa", sum := "ffbf9949921f4e4fd113af42c9e54cb2502b99a0de184dcf01c410051506d23d", func := "loop.example/fathomline/laws.FnTurnOk", spec := "fnTurnOk", unfollowed := true, recurses := true, apart := false, narrowed := true }
def FnTurnOkUptoSaid : Prop := fnTurnOkUptoRow.holds Try.pinned (OpenSpec.upto fnTurnOkSpec)

/-- 'laws.FnTurnBeside', WHERE WHAT IT READS IS OF BULK AT MOST 1048576: true; the input reads as it did. -/
def fnTurnBesideUptoRow : OpenClaim := { program := "ytdpoiabohkkbcaa", sum := "ffbf9949921f4e4fd113af42c9e54cb2502b99a0de184dcf01c410051506d23d", func := "loop.example/fathomline/laws.FnTurnBeside", spec := "fnTurnBeside", unfollowed := true, recurses := true, apart := false, narrowed := true }
def FnTurnBesideUptoSaid : Prop := fnTurnBesideUptoRow.holds Try.pinned (OpenSpec.upto fnTurnBesideSpec)

/-- 'laws.FnTurnSame', WHERE WHAT IT READS IS OF BULK AT MOST 1048576: true; the input reads as it did. -/
def fnTurnSameUptoRow : OpenClaim := { program := "ytdpoiabohkkbcaa", sum := "ffbf9949921f4e4fd113af42c9e54cb2502b99a0de184dcf01c410051506d23d", func := "loop.example/fathomline/laws.FnTurnSame", spec := "fnTurnSame", unfollowed := true, recurses := true, apart := false, narrowed := true }
def FnTurnSameUptoSaid : Prop := fnTurnSameUptoRow.holds Try.pinned (OpenSpec.upto fnTurnSameSpec)

/-- 'laws.FnExactTurnBeside', WHERE WHAT IT READS IS OF BULK AT MOST 1048576: true; the input reads as it did. -/
def fnExactTurnBesideUptoRow : OpenClaim := { program := "ytdpoiabohkkbcaa", sum := "ffbf9949921f4e4fd113af42c9e54cb2502b99a0de184dcf01c410051506d23d", func := "loop.example/fathomline/laws.FnExactTurnBeside", spec := "fnExactTurnBeside", unfollowed := true, recurses := true, apart := false, narrowed := true }
def FnExactTurnBesideUptoSaid : Prop := fnExactTurnBesideUptoRow.holds Try.pinned (OpenSpec.upto fnExactTurnBesideSpec)

/-- 'laws.FnExactTurnPlain', WHERE WHAT IT READS IS OF BULK AT MOST 1048576: true; the input reads as it did. -/
def fnExactTurnPlainUptoRow : OpenClaim := { program := "ytdpoiabohkkbcaa", sum := "ffbf9949921f4e4fd113af42c9e54cb2502b99a0de184dcf01c410051506d23d", func := "loop.example/fathomline/laws.FnExactTurnPlain", spec := "fnExactTurnPlain", unfollowed := true, recurses := true, apart := false, narrowed := true }
def FnExactTurnPlainUptoSaid : Prop := fnExactTurnPlainUptoRow.holds Try.pinned (OpenSpec.upto fnExactTurnPlainSpec)

end Rows
end Go.Proofs.Ytdpoiabohkkbcaa
