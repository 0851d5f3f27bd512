/-
  No cell of these rows narrows 'for every input' (looked for: loops, veiled, ifaces, maps, wideKeys, modest, calm, conditions, laid).
  DERIVED. THE GIVEN ROWS OF THIS SEAT. 5 by the template 'for every input the law returns true; each argument reads behind the call as it read before'; 0 by the template 'total and deterministic' (their statements: YtfekeknnphoelabTotals.lean).
  GIVEN WITH THE SEED: the statements are not yours to turn. If you find one false, say at which input.
  Laid BY PROGRAM, IN A SANDBOX (cutbox-rows.mjs): the forced cells as the released guide's own fill.sh prints them over the translation 9d1dcb8ecf2c19e4… (all of the seat's roots in one cut). By AI agents, Wed Nov 11 2026. No macro, syntax, notation, axiom, sorry.
-/
import Derived.Test.YtfekeknnphoelabChecked
import GoSem.Claim
import GoSem.ClaimJoined
import GoSem.ClaimMapViews
import Derived.JoinedTies
import Derived.KernelRfl
namespace Go.Proofs.Ytfekeknnphoelab
/- THE CELL 'sum', in the pinned program and in every row, IS THE sha256 OF THE DUMP (.gsa) THAT YtfekeknnphoelabProg.lean LOADS. Nothing in Lean hashes anything: it is a label: what it is worth is what the hold of that sum in a sandbox is worth. -/
noncomputable def Try.pinned : Pinned := { name := "ytfekeknnphoelab", sum := "9d1dcb8ecf2c19e492f2e43d953c9a7b3600dcb629261ba1575e52fc2d26aec2", checked := Try.checked }
namespace Rows
def none {H : Type} : Left H := { results := [], args := [] }

/-- 'laws.FnSeenSort': WHATEVER THE INPUT: true; the input reads as it did. -/
def fnSeenSortSpec : ChangeSpec := { name := "fnSeenSort", fn := fun _ => fun
  | [d] => { results := [.lit (.bool true)], args := [d] }
  | _ => none }
def fnSeenSortRow : OpenClaim := { program := "ytfekeknnphoelab", sum := "9d1dcb8ecf2c19e492f2e43d953c9a7b3600dcb629261ba1575e52fc2d26aec2", func := "loop.example/fathomline/laws.FnSeenSort", spec := "fnSeenSort", unfollowed := true, recurses := true, apart := false }
def FnSeenSortSaid : Prop := fnSeenSortRow.holds Try.pinned (OpenSpec.ofChange fnSeenSortSpec)

/-- ITS FALSE NEIGHBOUR: 'it returns false'. Refute it at one input. -/
def fnSeenSortWrong : ChangeSpec := { name := "fnSeenSort", fn := fun _ => fun
  | [d] => { results := [.lit (.bool false)], args := [d] }
  | _ => none }
def FnSeenSortWrongFalsely : Prop := fnSeenSortRow.holds Try.pinned (OpenSpec.ofChange fnSeenSortWrong)

/-- 'laws.FnSeenSortTwice': WHATEVER THE INPUT: true; the input reads as it did. -/
def fnSeenSortTwiceSpec : ChangeSpec := { name := "fnSeenSortTwice", fn := fun _ => fun
  | [d] => { results := [.lit (.bool true)], args := [d] }
  | _ => none }
def fnSeenSortTwiceRow : OpenClaim := { program := "ytfekeknnphoelab", sum := "9d1dcb8ecf2c19e492f2e43d953c9a7b3600dcb629261ba1575e52fc2d26aec2", func := "loop.example/fathomline/laws.FnSeenSortTwice", spec := "fnSeenSortTwice", unfollowed := true, recurses := true, apart := false }
def FnSeenSortTwiceSaid : Prop := fnSeenSortTwiceRow.holds Try.pinned (OpenSpec.ofChange fnSeenSortTwiceSpec)

/-- ITS FALSE NEIGHBOUR: 'it returns false'. Refute it at one input. -/
def fnSeenSortTwiceWrong : ChangeSpec := { name := "fnSeenSortTwice", fn := fun _ => fun
  | [d] => { results := [.lit (.bool false)], args := [d] }
  | _ => none }
def FnSeenSortTwiceWrongFalsely : Prop := fnSeenSortTwiceRow.holds Try.pinned (OpenSpec.ofChange fnSeenSortTwiceWrong)

/-- 'laws.FnSeenIn': WHATEVER THE INPUT: true; the input reads as it did. -/
def fnSeenInSpec : ChangeSpec := { name := "fnSeenIn", fn := fun _ => fun
  | [d] => { results := [.lit (.bool true)], args := [d] }
  | _ => none }
def fnSeenInRow : OpenClaim := { program := "ytfekeknnphoelab", sum := "9d1dcb8ecf2c19e492f2e43d953c9a7b3600dcb629261ba1575e52fc2d26aec2", func := "loop.example/fathomline/laws.FnSeenIn", spec := "fnSeenIn", unfollowed := true, recurses := true, apart := false }
def FnSeenInSaid : Prop := fnSeenInRow.holds Try.pinned (OpenSpec.ofChange fnSeenInSpec)

/-- ITS FALSE NEIGHBOUR: 'it returns false'. Refute it at one input. -/
def fnSeenInWrong : ChangeSpec := { name := "fnSeenIn", fn := fun _ => fun
  | [d] => { results := [.lit (.bool false)], args := [d] }
  | _ => none }
def FnSeenInWrongFalsely : Prop := fnSeenInRow.holds Try.pinned (OpenSpec.ofChange fnSeenInWrong)

/-- 'laws.FnSeenThree': WHATEVER THE INPUT: true; the input reads as it did. -/
def fnSeenThreeSpec : ChangeSpec := { name := "fnSeenThree", fn := fun _ => fun
  | [d1, d2] => { results := [.lit (.bool true)], args := [d1, d2] }
  | _ => none }
def fnSeenThreeRow : OpenClaim := { program := "ytfekeknnphoelab", sum := "9d1dcb8ecf2c19e492f2e43d953c9a7b3600dcb629261ba1575e52fc2d26aec2", func := "loop.example/fathomline/laws.FnSeenThree", spec := "fnSeenThree", apart := false }
def FnSeenThreeSaid : Prop := fnSeenThreeRow.holds Try.pinned (OpenSpec.ofChange fnSeenThreeSpec)

/-- ITS FALSE NEIGHBOUR: 'it returns false'. Refute it at one input. -/
def fnSeenThreeWrong : ChangeSpec := { name := "fnSeenThree", fn := fun _ => fun
  | [d1, d2] => { results := [.lit (.bool false)], args := [d1, d2] }
  | _ => none }
def FnSeenThreeWrongFalsely : Prop := fnSeenThreeRow.holds Try.pinned (OpenSpec.ofChange fnSeenThreeWrong)

/-- 'laws.FnProgRoom': WHATEVER THE INPUT: true; the input reads as it did. -/
def fnProgRoomSpec : ChangeSpec := { name := "fnProgRoom", fn := fun _ => fun
  | [d] => { results := [.lit (.bool true)], args := [d] }
  | _ => none }
def fnProgRoomRow : OpenClaim := { program := "ytfekeknnphoelab", sum := "9d1dcb8ecf2c19e492f2e43d953c9a7b3600dcb629261ba1575e52fc2d26aec2", func := "loop.example/fathomline/laws.FnProgRoom", spec := "fnProgRoom", inPlace := ["internal/abi.NoEscape"], unfollowed := true, recurses := true, apart := false }
def FnProgRoomSaid : Prop := fnProgRoomRow.holds Try.pinned (OpenSpec.ofChange fnProgRoomSpec)

/-- ITS FALSE NEIGHBOUR: 'it returns false'. Refute it at one input. -/
def fnProgRoomWrong : ChangeSpec := { name := "fnProgRoom", fn := fun _ => fun
  | [d] => { results := [.lit (.bool false)], args := [d] }
  | _ => none }
def FnProgRoomWrongFalsely : Prop := fnProgRoomRow.holds Try.pinned (OpenSpec.ofChange fnProgRoomWrong)

/- THE SECOND FORM. 'bulk': how many values and letters a reading holds, each counted each time it is reached (what is shared counts as often as it is met; a slice's spare places count too). A statement '..UptoSaid' is the law's where the arguments, and the package variables that the reading takes, are together of bulk at most 1048576: NARROWER than '..Said'. Prove '..Said' where nothing that the law and all that it calls make is longer than what came in: it says more and counts as full. Else prove '..UptoSaid'. A law counts once. -/
mutual
def uptoBulk {H : Type} : DataW H → Nat
  | .lit (.string bytes) => bytes.length + 1
  | .lit _ => 1
  | .nil => 1
  | .ptr d => uptoBulk d + 1
  | .slice elems spare => uptoBulkAll elems + uptoBulkAll spare + 1
  | .agg parts => uptoBulkAll parts + 1
  | .iface _ d => uptoBulk d + 1
  | .map entries => uptoBulkEntries entries + 1
  | .held _ => 1
def uptoBulkAll {H : Type} : List (DataW H) → Nat
  | [] => 0
  | d :: r => uptoBulk d + uptoBulkAll r
def uptoBulkEntries {H : Type} : List (Lit × DataW H) → Nat
  | [] => 0
  | x :: r => uptoBulkEntry x + uptoBulkEntries r
def uptoBulkEntry {H : Type} : Lit × DataW H → Nat
  | (.string bytes, d) => bytes.length + uptoBulk d + 1
  | (_, d) => uptoBulk d + 1
 end
def uptoSmall : (H : Type) → List (DataW H) → Bool := fun _ ds => decide (uptoBulkAll ds ≤ 1048576)
def OpenSpec.upto (s : _root_.Go.ChangeSpec) : _root_.Go.OpenSpec := { _root_.Go.OpenSpec.ofChange s with cond := some uptoSmall }

/-- 'laws.FnSeenSort', WHERE WHAT IT READS IS OF BULK AT MOST 1048576: true; the input reads as it did. -/
def fnSeenSortUptoRow : OpenClaim := { program := "ytfekeknnphoelab", sum := "9d1dcb8ecf2c19e492f2e43d953c9a7b3600dcb629261ba1575e52fc2d26aec2", func := "loop.example/fathomline/laws.FnSeenSort", spec := "fnSeenSort", unfollowed := true, recurses := true, apart := false, narrowed := true }
def FnSeenSortUptoSaid : Prop := fnSeenSortUptoRow.holds Try.pinned (OpenSpec.upto fnSeenSortSpec)

/-- 'laws.FnSeenSortTwice', WHERE WHAT IT READS IS OF BULK AT MOST 1048576: true; the input reads as it did. -/
def fnSeenSortTwiceUptoRow : OpenClaim := { program := "ytfekeknnphoelab", sum := "9d1dcb8ecf2c19e492f2e43d953c9a7b3600dcb629261ba1575e52fc2d26aec2", func := "loop.example/fathomline/laws.FnSeenSortTwice", spec := "fnSeenSortTwice", unfollowed := true, recurses := true, apart := false, narrowed := true }
def FnSeenSortTwiceUptoSaid : Prop := fnSeenSortTwiceUptoRow.holds Try.pinned (OpenSpec.upto fnSeenSortTwiceSpec)

/-- 'laws.FnSeenIn', WHERE WHAT IT READS IS OF BULK AT MOST 1048576: true; the input reads as it did. -/
def fnSeenInUptoRow : OpenClaim := { program := "ytfekeknnphoelab", sum := "9d1dcb8ecf2c19e492f2e43d953c9a7b3600dcb629261ba1575e52fc2d26aec2", func := "loop.example/fathomline/laws.FnSeenIn", spec := "fnSeenIn", unfollowed := true, recurses := true, apart := false, narrowed := true }
def FnSeenInUptoSaid : Prop := fnSeenInUptoRow.holds Try.pinned (OpenSpec.upto fnSeenInSpec)

/-- 'laws.FnSeenThree', WHERE WHAT IT READS IS OF BULK AT MOST 1048576: true; the input reads as it did. -/
def fnSeenThreeUptoRow : OpenClaim := { program := "ytfekeknnphoelab", sum := "9d1dcb8ecf2c19e492f2e43d953c9a7b3600dcb629261ba1575e52fc2d26aec2", func := "loop.example/fathomline/laws.FnSeenThree", spec := "fnSeenThree", apart := false, narrowed := true }
def FnSeenThreeUptoSaid : Prop := fnSeenThreeUptoRow.holds Try.pinned (OpenSpec.upto fnSeenThreeSpec)

/-- 'laws.FnProgRoom', WHERE WHAT IT READS IS OF BULK AT MOST 1048576: true; the input reads as it did. -/
def fnProgRoomUptoRow : OpenClaim := { program := "ytfekeknnphoelab", sum := "9d1dcb8ecf2c19e492f2e43d953c9a7b3600dcb629261ba1575e52fc2d26aec2", func := "loop.example/fathomline/laws.FnProgRoom", spec := "fnProgRoom", inPlace := ["internal/abi.NoEscape"], unfollowed := true, recurses := true, apart := false, narrowed := true }
def FnProgRoomUptoSaid : Prop := fnProgRoomUptoRow.holds Try.pinned (OpenSpec.upto fnProgRoomSpec)

end Rows
end Go.Proofs.Ytfekeknnphoelab
