/-
  No cell of these rows narrows 'for every input' (looked for: loops, veiled, ifaces, maps, wideKeys, modest, calm, conditions, laid).
  DERIVED. THE GIVEN ROWS OF THIS SEAT. 6 by the template 'for every input the law returns true; each argument reads behind the call as it read before'; 0 by the template 'total and deterministic' (their statements: YtmbhnkdhoffnmaaTotals.lean).
  GIVEN WITH THE SEED: the statements are not yours to turn. If you find one false, say at which input.
  Laid BY PROGRAM, IN A SANDBOX (cutbox-rows.mjs): the forced cells as the released guide's own fill.sh prints them over the translation acca3f8714d74683… (all of the seat's roots in one cut). By AI agents, Wed Nov 11 2026. No macro, syntax, notation, axiom, sorry.
-/
import Derived.Test.YtmbhnkdhoffnmaaChecked
import GoSem.Claim
import GoSem.ClaimJoined
import GoSem.ClaimMapViews
import Derived.JoinedTies
import Derived.KernelRfl
namespace Go.Proofs.Ytmbhnkdhoffnmaa
/- THE CELL 'sum', in the pinned program and in every row, IS THE sha256 OF THE DUMP (.gsa) THAT YtmbhnkdhoffnmaaProg.lean LOADS. Nothing in Lean hashes anything: it is a label: what it is worth is what the hold of that sum in a sandbox is worth. -/
noncomputable def Try.pinned : Pinned := { name := "ytmbhnkdhoffnmaa", sum := "acca3f8714d746831550fe3ab531bea752a1111218ddf2d85bcc111dc97919ec", checked := Try.checked }
namespace Rows
def none {H : Type} : Left H := { results := [], args := [] }

/-- 'laws.FnTurnThreads': WHATEVER THE INPUT: true; the input reads as it did. -/
def fnTurnThreadsSpec : ChangeSpec := { name := "fnTurnThreads", fn := fun _ => fun
  | [d] => { results := [.lit (.bool true)], args := [d] }
  | _ => none }
def fnTurnThreadsRow : OpenClaim := { program := "ytmbhnkdhoffnmaa", sum := "acca3f8714d746831550fe3ab531bea752a1111218ddf2d85bcc111dc97919ec", func := "loop.example/fathomline/laws.FnTurnThreads", spec := "fnTurnThreads", unfollowed := true, recurses := true, apart := false }
def FnTurnThreadsSaid : Prop := fnTurnThreadsRow.holds Try.pinned (OpenSpec.ofChange fnTurnThreadsSpec)

/-- ITS FALSE NEIGHBOUR: 'it returns false'. Refute it at one input. -/
def fnTurnThreadsWrong : ChangeSpec := { name := "fnTurnThreads", fn := fun _ => fun
  | [d] => { results := [.lit (.bool false)], args := [d] }
  | _ => none }
def FnTurnThreadsWrongFalsely : Prop := fnTurnThreadsRow.holds Try.pinned (OpenSpec.ofChange fnTurnThreadsWrong)

/-- 'laws.FnTurnPlaces': WHATEVER THE INPUT: true; the input reads as it did. -/
def fnTurnPlacesSpec : ChangeSpec := { name := "fnTurnPlaces", fn := fun _ => fun
  | [d] => { results := [.lit (.bool true)], args := [d] }
  | _ => none }
def fnTurnPlacesRow : OpenClaim := { program := "ytmbhnkdhoffnmaa", sum := "acca3f8714d746831550fe3ab531bea752a1111218ddf2d85bcc111dc97919ec", func := "loop.example/fathomline/laws.FnTurnPlaces", spec := "fnTurnPlaces", unfollowed := true, recurses := true, apart := false }
def FnTurnPlacesSaid : Prop := fnTurnPlacesRow.holds Try.pinned (OpenSpec.ofChange fnTurnPlacesSpec)

/-- ITS FALSE NEIGHBOUR: 'it returns false'. Refute it at one input. -/
def fnTurnPlacesWrong : ChangeSpec := { name := "fnTurnPlaces", fn := fun _ => fun
  | [d] => { results := [.lit (.bool false)], args := [d] }
  | _ => none }
def FnTurnPlacesWrongFalsely : Prop := fnTurnPlacesRow.holds Try.pinned (OpenSpec.ofChange fnTurnPlacesWrong)

/-- 'laws.FnTurnVals': WHATEVER THE INPUT: true; the input reads as it did. -/
def fnTurnValsSpec : ChangeSpec := { name := "fnTurnVals", fn := fun _ => fun
  | [d] => { results := [.lit (.bool true)], args := [d] }
  | _ => none }
def fnTurnValsRow : OpenClaim := { program := "ytmbhnkdhoffnmaa", sum := "acca3f8714d746831550fe3ab531bea752a1111218ddf2d85bcc111dc97919ec", func := "loop.example/fathomline/laws.FnTurnVals", spec := "fnTurnVals", unfollowed := true, recurses := true, apart := false }
def FnTurnValsSaid : Prop := fnTurnValsRow.holds Try.pinned (OpenSpec.ofChange fnTurnValsSpec)

/-- ITS FALSE NEIGHBOUR: 'it returns false'. Refute it at one input. -/
def fnTurnValsWrong : ChangeSpec := { name := "fnTurnVals", fn := fun _ => fun
  | [d] => { results := [.lit (.bool false)], args := [d] }
  | _ => none }
def FnTurnValsWrongFalsely : Prop := fnTurnValsRow.holds Try.pinned (OpenSpec.ofChange fnTurnValsWrong)

/-- 'laws.FnExactTurnThreads': WHATEVER THE INPUT: true; the input reads as it did. -/
def fnExactTurnThreadsSpec : ChangeSpec := { name := "fnExactTurnThreads", fn := fun _ => fun
  | [d1, d2] => { results := [.lit (.bool true)], args := [d1, d2] }
  | _ => none }
def fnExactTurnThreadsRow : OpenClaim := { program := "ytmbhnkdhoffnmaa", sum := "acca3f8714d746831550fe3ab531bea752a1111218ddf2d85bcc111dc97919ec", func := "loop.example/fathomline/laws.FnExactTurnThreads", spec := "fnExactTurnThreads", unfollowed := true, recurses := true, apart := false }
def FnExactTurnThreadsSaid : Prop := fnExactTurnThreadsRow.holds Try.pinned (OpenSpec.ofChange fnExactTurnThreadsSpec)

/-- ITS FALSE NEIGHBOUR: 'it returns false'. Refute it at one input. -/
def fnExactTurnThreadsWrong : ChangeSpec := { name := "fnExactTurnThreads", fn := fun _ => fun
  | [d1, d2] => { results := [.lit (.bool false)], args := [d1, d2] }
  | _ => none }
def FnExactTurnThreadsWrongFalsely : Prop := fnExactTurnThreadsRow.holds Try.pinned (OpenSpec.ofChange fnExactTurnThreadsWrong)

/-- 'laws.FnExactTurnPlaces': WHATEVER THE INPUT: true; the input reads as it did. -/
def fnExactTurnPlacesSpec : ChangeSpec := { name := "fnExactTurnPlaces", fn := fun _ => fun
  | [d1, d2] => { results := [.lit (.bool true)], args := [d1, d2] }
  | _ => none }
def fnExactTurnPlacesRow : OpenClaim := { program := "ytmbhnkdhoffnmaa", sum := "acca3f8714d746831550fe3ab531bea752a1111218ddf2d85bcc111dc97919ec", func := "loop.example/fathomline/laws.FnExactTurnPlaces", spec := "fnExactTurnPlaces", unfollowed := true, recurses := true, apart := false }
def FnExactTurnPlacesSaid : Prop := fnExactTurnPlacesRow.holds Try.pinned (OpenSpec.ofChange fnExactTurnPlacesSpec)

/-- ITS FALSE NEIGHBOUR: 'it returns false'. Refute it at one input. -/
def fnExactTurnPlacesWrong : ChangeSpec := { name := "fnExactTurnPlaces", fn := fun _ => fun
  | [d1, d2] => { results := [.lit (.bool false)], args := [d1, d2] }
  | _ => none }
def FnExactTurnPlacesWrongFalsely : Prop := fnExactTurnPlacesRow.holds Try.pinned (OpenSpec.ofChange fnExactTurnPlacesWrong)

/-- 'laws.FnExactTurnVals': WHATEVER THE INPUT: true; the input reads as it did. -/
def fnExactTurnValsSpec : ChangeSpec := { name := "fnExactTurnVals", fn := fun _ => fun
  | [d1, d2] => { results := [.lit (.bool true)], args := [d1, d2] }
  | _ => none }
def fnExactTurnValsRow : OpenClaim := { program := "ytmbhnkdhoffnmaa", sum := "acca3f8714d746831550fe3ab531bea752a1111218ddf2d85bcc111dc97919ec", func := "loop.example/fathomline/laws.FnExactTurnVals", spec := "fnExactTurnVals", unfollowed := true, recurses := true, apart := false }
def FnExactTurnValsSaid : Prop := fnExactTurnValsRow.holds Try.pinned (OpenSpec.ofChange fnExactTurnValsSpec)

/-- ITS FALSE NEIGHBOUR: 'it returns false'. Refute it at one input. -/
def fnExactTurnValsWrong : ChangeSpec := { name := "fnExactTurnVals", fn := fun _ => fun
  | [d1, d2] => { results := [.lit (.bool false)], args := [d1, d2] }
  | _ => none }
def FnExactTurnValsWrongFalsely : Prop := fnExactTurnValsRow.holds Try.pinned (OpenSpec.ofChange fnExactTurnValsWrong)

/- THE SECOND FORM. 'bulk': how many values and letters a reading holds, each counted each time it is reached (what is shared counts as often as it is met; a slice's spare places count too). A statement '..UptoSaid' is the law's where the arguments, and the package variables that the reading takes, are together of bulk at most 1048576: NARROWER than '..Said'. Prove '..Said' where nothing that the law and all that it calls make is longer than what came in: it says more and counts as full. Else prove '..UptoSaid'. A law counts once. -/
mutual
def uptoBulk {H : Type} : DataW H → Nat
  | .lit (.string bytes) => bytes.length + 1
  | .lit _ => 1
  | .nil => 1
  | .ptr d => uptoBulk d + 1
  | .slice elems spare => uptoBulkAll elems + uptoBulkAll spare + 1
  | .agg parts => uptoBulkAll parts + 1
  | .iface _ d => uptoBulk d + 1
  | .map entries => uptoBulkEntries entries + 1
  | .held _ => 1
def uptoBulkAll {H : Type} : List (DataW H) → Nat
  | [] => 0
  | d :: r => uptoBulk d + uptoBulkAll r
def uptoBulkEntries {H : Type} : List (Lit × DataW H) → Nat
  | [] => 0
  | x :: r => uptoBulkEntry x + uptoBulkEntries r
def uptoBulkEntry {H : Type} : Lit × DataW H → Nat
  | (.string bytes, d) => bytes.length + uptoBulk d + 1
  | (_, d) => uptoBulk d + 1
 end
def uptoSmall : (H : Type) → List (DataW H) → Bool := fun _ ds => decide (uptoBulkAll ds ≤ 1048576)
def OpenSpec.upto (s : _root_.Go.ChangeSpec) : _root_.Go.OpenSpec := { _root_.Go.OpenSpec.ofChange s with cond := some uptoSmall }

/-- 'laws.FnTurnThreads', WHERE WHAT IT READS IS OF BULK AT MOST 1048576: true; the input reads as it did. -/
def fnTurnThreadsUptoRow : OpenClaim := { program := "ytmbhnkdhoffnmaa", sum := "acca3f8714d746831550fe3ab531bea752a1111218ddf2d85bcc111dc97919ec", func := "loop.example/fathomline/laws.FnTurnThreads", spec := "fnTurnThreads", unfollowed := true, recurses := true, apart := false, narrowed := true }
def FnTurnThreadsUptoSaid : Prop := fnTurnThreadsUptoRow.holds Try.pinned (OpenSpec.upto fnTurnThreadsSpec)

/-- 'laws.FnTurnPlaces', WHERE WHAT IT READS IS OF BULK AT MOST 1048576: true; the input reads as it did. -/
def fnTurnPlacesUptoRow : OpenClaim := { program := "ytmbhnkdhoffnmaa", sum := "acca3f8714d746831550fe3ab531bea752a1111218ddf2d85bcc111dc97919ec", func := "loop.example/fathomline/laws.FnTurnPlaces", spec := "fnTurnPlaces", unfollowed := true, recurses := true, apart := false, narrowed := true }
def FnTurnPlacesUptoSaid : Prop := fnTurnPlacesUptoRow.holds Try.pinned (OpenSpec.upto fnTurnPlacesSpec)

/-- 'laws.FnTurnVals', WHERE WHAT IT READS IS OF BULK AT MOST 1048576: true; the input reads as it did. -/
def fnTurnValsUptoRow : OpenClaim := { program := "ytmbhnkdhoffnmaa", sum := "acca3f8714d746831550fe3ab531bea752a1111218ddf2d85bcc111dc97919ec", func := "loop.example/fathomline/laws.FnTurnVals", spec := "fnTurnVals", unfollowed := true, recurses := true, apart := false, narrowed := true }
def FnTurnValsUptoSaid : Prop := fnTurnValsUptoRow.holds Try.pinned (OpenSpec.upto fnTurnValsSpec)

/-- 'laws.FnExactTurnThreads', WHERE WHAT IT READS IS OF BULK AT MOST 1048576: true; the input reads as it did. -/
def fnExactTurnThreadsUptoRow : OpenClaim := { program := "ytmbhnkdhoffnmaa", sum := "acca3f8714d746831550fe3ab531bea752a1111218ddf2d85bcc111dc97919ec", func := "loop.example/fathomline/laws.FnExactTurnThreads", spec := "fnExactTurnThreads", unfollowed := true, recurses := true, apart := false, narrowed := true }
def FnExactTurnThreadsUptoSaid : Prop := fnExactTurnThreadsUptoRow.holds Try.pinned (OpenSpec.upto fnExactTurnThreadsSpec)

/-- 'laws.FnExactTurnPlaces', WHERE WHAT IT READS IS OF BULK AT MOST 1048576: true; the input reads as it did. -/
def fnExactTurnPlacesUptoRow : OpenClaim := { program := "ytmbhnkdhoffnmaa", sum := "acca3f8714d746831550fe3ab531bea752a1111218ddf2d85bcc111dc97919ec", func := "loop.example/fathomline/laws.FnExactTurnPlaces", spec := "fnExactTurnPlaces", unfollowed := true, recurses := true, apart := false, narrowed := true }
def FnExactTurnPlacesUptoSaid : Prop := fnExactTurnPlacesUptoRow.holds Try.pinned (OpenSpec.upto fnExactTurnPlacesSpec)

/-- 'laws.FnExactTurnVals', WHERE WHAT IT READS IS OF BULK AT MOST 1048576: true; the input reads as it did. -/
def fnExactTurnValsUptoRow : OpenClaim := { program := "ytmbhnkdhoffnmaa", sum := "acca3f8714d746831550fe3ab531bea752a1111218ddf2d85bcc111dc97919ec", func := "loop.example/fathomline/laws.FnExactTurnVals", spec := "fnExactTurnVals", unfollowed := true, recurses := true, apart := false, narrowed := true }
def FnExactTurnValsUptoSaid : Prop := fnExactTurnValsUptoRow.holds Try.pinned (OpenSpec.upto fnExactTurnValsSpec)

end Rows
end Go.Proofs.Ytmbhnkdhoffnmaa
