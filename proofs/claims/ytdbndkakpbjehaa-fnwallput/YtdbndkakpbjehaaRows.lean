/-
  No cell of these rows narrows 'for every input' (looked for: loops, veiled, ifaces, maps, wideKeys, modest, calm, conditions, laid).
  DERIVED. THE GIVEN ROWS OF THIS SEAT. 6 by the template 'for every input the law returns true; each argument reads behind the call as it read before'; 0 by the template 'total and deterministic' (their statements: YtdbndkakpbjehaaTotals.lean).
  GIVEN WITH THE SEED: the statements are not yours to turn. If you find one false, say at which input.
  Laid BY PROGRAM, IN A SANDBOX (cutbox-rows.mjs): the forced cells as the released guide's own fill.sh prints them over the translation c4076bd6bc7f62ac… (all of the seat's roots in one cut). By AI agents, Wed Nov 11 2026. No macro, syntax, notation, axiom, sorry.
-/
import Derived.Test.YtdbndkakpbjehaaChecked
import GoSem.Claim
import GoSem.ClaimJoined
import GoSem.ClaimMapViews
import Derived.JoinedTies
import Derived.KernelRfl
namespace Go.Proofs.Ytdbndkakpbjehaa
/- THE CELL 'sum', in the pinned program and in every row, IS THE sha256 OF THE DUMP (.gsa) THAT YtdbndkakpbjehaaProg.lean LOADS. Nothing in Lean hashes anything: it is a label: what it is worth is what the hold of that sum in a sandbox is worth. -/
noncomputable def Try.pinned : Pinned := { name := "ytdbndkakpbjehaa", sum := "c4076bd6bc7f62ac952dc981e33a0ccb68214be09c0589668edc68439790d895", checked := Try.checked }
namespace Rows
def none {H : Type} : Left H := { results := [], args := [] }

/-- 'laws.FnWallGaps': WHATEVER THE INPUT: true; the input reads as it did. -/
def fnWallGapsSpec : ChangeSpec := { name := "fnWallGaps", fn := fun _ => fun
  | [d] => { results := [.lit (.bool true)], args := [d] }
  | _ => none }
def fnWallGapsRow : OpenClaim := { program := "ytdbndkakpbjehaa", sum := "c4076bd6bc7f62ac952dc981e33a0ccb68214be09c0589668edc68439790d895", func := "loop.example/fathomline/laws.FnWallGaps", spec := "fnWallGaps", unfollowed := true, recurses := true, apart := false }
def FnWallGapsSaid : Prop := fnWallGapsRow.holds Try.pinned (OpenSpec.ofChange fnWallGapsSpec)

/-- ITS FALSE NEIGHBOUR: 'it returns false'. Refute it at one input. -/
def fnWallGapsWrong : ChangeSpec := { name := "fnWallGaps", fn := fun _ => fun
  | [d] => { results := [.lit (.bool false)], args := [d] }
  | _ => none }
def FnWallGapsWrongFalsely : Prop := fnWallGapsRow.holds Try.pinned (OpenSpec.ofChange fnWallGapsWrong)

/-- 'laws.FnWallPut': WHATEVER THE INPUT: true; the input reads as it did. -/
def fnWallPutSpec : ChangeSpec := { name := "fnWallPut", fn := fun _ => fun
  | [d] => { results := [.lit (.bool true)], args := [d] }
  | _ => none }
def fnWallPutRow : OpenClaim := { program := "ytdbndkakpbjehaa", sum := "c4076bd6bc7f62ac952dc981e33a0ccb68214be09c0589668edc68439790d895", func := "loop.example/fathomline/laws.FnWallPut", spec := "fnWallPut", unfollowed := true, recurses := true, apart := false }
def FnWallPutSaid : Prop := fnWallPutRow.holds Try.pinned (OpenSpec.ofChange fnWallPutSpec)

/-- ITS FALSE NEIGHBOUR: 'it returns false'. Refute it at one input. -/
def fnWallPutWrong : ChangeSpec := { name := "fnWallPut", fn := fun _ => fun
  | [d] => { results := [.lit (.bool false)], args := [d] }
  | _ => none }
def FnWallPutWrongFalsely : Prop := fnWallPutRow.holds Try.pinned (OpenSpec.ofChange fnWallPutWrong)

/-- 'laws.FnWallNone': WHATEVER THE INPUT: true; the input reads as it did. -/
def fnWallNoneSpec : ChangeSpec := { name := "fnWallNone", fn := fun _ => fun
  | [d] => { results := [.lit (.bool true)], args := [d] }
  | _ => none }
def fnWallNoneRow : OpenClaim := { program := "ytdbndkakpbjehaa", sum := "c4076bd6bc7f62ac952dc981e33a0ccb68214be09c0589668edc68439790d895", func := "loop.example/fathomline/laws.FnWallNone", spec := "fnWallNone", unfollowed := true, recurses := true, apart := false }
def FnWallNoneSaid : Prop := fnWallNoneRow.holds Try.pinned (OpenSpec.ofChange fnWallNoneSpec)

/-- ITS FALSE NEIGHBOUR: 'it returns false'. Refute it at one input. -/
def fnWallNoneWrong : ChangeSpec := { name := "fnWallNone", fn := fun _ => fun
  | [d] => { results := [.lit (.bool false)], args := [d] }
  | _ => none }
def FnWallNoneWrongFalsely : Prop := fnWallNoneRow.holds Try.pinned (OpenSpec.ofChange fnWallNoneWrong)

/-- 'laws.FnExactWallGaps': WHATEVER THE INPUT: true; the input reads as it did. -/
def fnExactWallGapsSpec : ChangeSpec := { name := "fnExactWallGaps", fn := fun _ => fun
  | [d] => { results := [.lit (.bool true)], args := [d] }
  | _ => none }
def fnExactWallGapsRow : OpenClaim := { program := "ytdbndkakpbjehaa", sum := "c4076bd6bc7f62ac952dc981e33a0ccb68214be09c0589668edc68439790d895", func := "loop.example/fathomline/laws.FnExactWallGaps", spec := "fnExactWallGaps", unfollowed := true, recurses := true, apart := false }
def FnExactWallGapsSaid : Prop := fnExactWallGapsRow.holds Try.pinned (OpenSpec.ofChange fnExactWallGapsSpec)

/-- ITS FALSE NEIGHBOUR: 'it returns false'. Refute it at one input. -/
def fnExactWallGapsWrong : ChangeSpec := { name := "fnExactWallGaps", fn := fun _ => fun
  | [d] => { results := [.lit (.bool false)], args := [d] }
  | _ => none }
def FnExactWallGapsWrongFalsely : Prop := fnExactWallGapsRow.holds Try.pinned (OpenSpec.ofChange fnExactWallGapsWrong)

/-- 'laws.FnExactWallPut': WHATEVER THE INPUT: true; the input reads as it did. -/
def fnExactWallPutSpec : ChangeSpec := { name := "fnExactWallPut", fn := fun _ => fun
  | [d1, d2] => { results := [.lit (.bool true)], args := [d1, d2] }
  | _ => none }
def fnExactWallPutRow : OpenClaim := { program := "ytdbndkakpbjehaa", sum := "c4076bd6bc7f62ac952dc981e33a0ccb68214be09c0589668edc68439790d895", func := "loop.example/fathomline/laws.FnExactWallPut", spec := "fnExactWallPut", unfollowed := true, recurses := true, apart := false }
def FnExactWallPutSaid : Prop := fnExactWallPutRow.holds Try.pinned (OpenSpec.ofChange fnExactWallPutSpec)

/-- ITS FALSE NEIGHBOUR: 'it returns false'. Refute it at one input. -/
def fnExactWallPutWrong : ChangeSpec := { name := "fnExactWallPut", fn := fun _ => fun
  | [d1, d2] => { results := [.lit (.bool false)], args := [d1, d2] }
  | _ => none }
def FnExactWallPutWrongFalsely : Prop := fnExactWallPutRow.holds Try.pinned (OpenSpec.ofChange fnExactWallPutWrong)

/-- 'laws.FnExactWallAll': WHATEVER THE INPUT: true; the input reads as it did. -/
def fnExactWallAllSpec : ChangeSpec := { name := "fnExactWallAll", fn := fun _ => fun
  | [d] => { results := [.lit (.bool true)], args := [d] }
  | _ => none }
def fnExactWallAllRow : OpenClaim := { program := "ytdbndkakpbjehaa", sum := "c4076bd6bc7f62ac952dc981e33a0ccb68214be09c0589668edc68439790d895", func := "loop.example/fathomline/laws.FnExactWallAll", spec := "fnExactWallAll", unfollowed := true, recurses := true, apart := false }
def FnExactWallAllSaid : Prop := fnExactWallAllRow.holds Try.pinned (OpenSpec.ofChange fnExactWallAllSpec)

/-- ITS FALSE NEIGHBOUR: 'it returns false'. Refute it at one input. -/
def fnExactWallAllWrong : ChangeSpec := { name := "fnExactWallAll", fn := fun _ => fun
  | [d] => { results := [.lit (.bool false)], args := [d] }
  | _ => none }
def FnExactWallAllWrongFalsely : Prop := fnExactWallAllRow.holds Try.pinned (OpenSpec.ofChange fnExactWallAllWrong)

/- THE SECOND FORM. 'bulk': how many values and letters a reading holds, each counted each time it is reached (what is shared counts as often as it is met; a slice's spare places count too). A statement '..UptoSaid' is the law's where the arguments, and the package variables that the reading takes, are together of bulk at most 1048576: NARROWER than '..Said'. Prove '..Said' where nothing that the law and all that it calls make is longer than what came in: it says more and counts as full. Else prove '..UptoSaid'. A law counts once. -/
mutual
def uptoBulk {H : Type} : DataW H → Nat
  | .lit (.string bytes) => bytes.length + 1
  | .lit _ => 1
  | .nil => 1
  | .ptr d => uptoBulk d + 1
  | .slice elems spare => uptoBulkAll elems + uptoBulkAll spare + 1
  | .agg parts => uptoBulkAll parts + 1
  | .iface _ d => uptoBulk d + 1
  | .map entries => uptoBulkEntries entries + 1
  | .held _ => 1
def uptoBulkAll {H : Type} : List (DataW H) → Nat
  | [] => 0
  | d :: r => uptoBulk d + uptoBulkAll r
def uptoBulkEntries {H : Type} : List (Lit × DataW H) → Nat
  | [] => 0
  | x :: r => uptoBulkEntry x + uptoBulkEntries r
def uptoBulkEntry {H : Type} : Lit × DataW H → Nat
  | (.string bytes, d) => bytes.length + uptoBulk d + 1
  | (_, d) => uptoBulk d + 1
 end
def uptoSmall : (H : Type) → List (DataW H) → Bool := fun _ ds => decide (uptoBulkAll ds ≤ 1048576)
def OpenSpec.upto (s : _root_.Go.ChangeSpec) : _root_.Go.OpenSpec := { _root_.Go.OpenSpec.ofChange s with cond := some uptoSmall }

/-- 'laws.FnWallGaps', WHERE WHAT IT READS IS OF BULK AT MOST 1048576: true; the input reads as it did. -/
def fnWallGapsUptoRow : OpenClaim := { program := "ytdbndkakpbjehaa", sum := "c4076bd6bc7f62ac952dc981e33a0ccb68214be09c0589668edc68439790d895", func := "loop.example/fathomline/laws.FnWallGaps", spec := "fnWallGaps", unfollowed := true, recurses := true, apart := false, narrowed := true }
def FnWallGapsUptoSaid : Prop := fnWallGapsUptoRow.holds Try.pinned (OpenSpec.upto fnWallGapsSpec)

/-- 'laws.FnWallPut', WHERE WHAT IT READS IS OF BULK AT MOST 1048576: true; the input reads as it did. -/
def fnWallPutUptoRow : OpenClaim := { program := "ytdbndkakpbjehaa", sum := "c4076bd6bc7f62ac952dc981e33a0ccb68214be09c0589668edc68439790d895", func := "loop.example/fathomline/laws.FnWallPut", spec := "fnWallPut", unfollowed := true, recurses := true, apart := false, narrowed := true }
def FnWallPutUptoSaid : Prop := fnWallPutUptoRow.holds Try.pinned (OpenSpec.upto fnWallPutSpec)

/-- 'laws.FnWallNone', WHERE WHAT IT READS IS OF BULK AT MOST 1048576: true; the input reads as it did. -/
def fnWallNoneUptoRow : OpenClaim := { program := "ytdbndkakpbjehaa", sum := "c4076bd6bc7f62ac952dc981e33a0ccb68214be09c0589668edc68439790d895", func := "loop.example/fathomline/laws.FnWallNone", spec := "fnWallNone", unfollowed := true, recurses := true, apart := false, narrowed := true }
def FnWallNoneUptoSaid : Prop := fnWallNoneUptoRow.holds Try.pinned (OpenSpec.upto fnWallNoneSpec)

/-- 'laws.FnExactWallGaps', WHERE WHAT IT READS IS OF BULK AT MOST 1048576: true; the input reads as it did. -/
def fnExactWallGapsUptoRow : OpenClaim := { program := "ytdbndkakpbjehaa", sum := "c4076bd6bc7f62ac952dc981e33a0ccb68214be09c0589668edc68439790d895", func := "loop.example/fathomline/laws.FnExactWallGaps", spec := "fnExactWallGaps", unfollowed := true, recurses := true, apart := false, narrowed := true }
def FnExactWallGapsUptoSaid : Prop := fnExactWallGapsUptoRow.holds Try.pinned (OpenSpec.upto fnExactWallGapsSpec)

/-- 'laws.FnExactWallPut', WHERE WHAT IT READS IS OF BULK AT MOST 1048576: true; the input reads as it did. -/
def fnExactWallPutUptoRow : OpenClaim := { program := "ytdbndkakpbjehaa", sum := "c4076bd6bc7f62ac952dc981e33a0ccb68214be09c0589668edc68439790d895", func := "loop.example/fathomline/laws.FnExactWallPut", spec := "fnExactWallPut", unfollowed := true, recurses := true, apart := false, narrowed := true }
def FnExactWallPutUptoSaid : Prop := fnExactWallPutUptoRow.holds Try.pinned (OpenSpec.upto fnExactWallPutSpec)

/-- 'laws.FnExactWallAll', WHERE WHAT IT READS IS OF BULK AT MOST 1048576: true; the input reads as it did. -/
def fnExactWallAllUptoRow : OpenClaim := { program := "ytdbndkakpbjehaa", sum := "c4076bd6bc7f62ac952dc981e33a0ccb68214be09c0589668edc68439790d895", func := "loop.example/fathomline/laws.FnExactWallAll", spec := "fnExactWallAll", unfollowed := true, recurses := true, apart := false, narrowed := true }
def FnExactWallAllUptoSaid : Prop := fnExactWallAllUptoRow.holds Try.pinned (OpenSpec.upto fnExactWallAllSpec)

end Rows
end Go.Proofs.Ytdbndkakpbjehaa
