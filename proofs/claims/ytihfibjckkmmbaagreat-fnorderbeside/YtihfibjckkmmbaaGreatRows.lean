/-
  No cell of these rows narrows 'for every input' (looked for: loops, veiled, ifaces, maps, wideKeys, modest, calm, conditions, laid).
  DERIVED. THE GIVEN ROWS OF THIS SEAT. 5 by the template 'for every input the law returns true; each argument reads behind the call as it read before'; 0 by the template 'total and deterministic' (their statements: YtihfibjckkmmbaaGreatTotals.lean).
  GIVEN WITH THE SEED: the statements are not yours to turn. If you find one false, say at which input.
  Laid BY PROGRAM, IN A SANDBOX (cutbox-rows.mjs): the forced cells as the released guide's own fill.sh prints them over the translation b5d824c2e9e0ebb6… (all of the seat's roots in one cut). By AI agents, Wed Nov 11 2026. No macro, syntax, notation, axiom, sorry.
-/
import Derived.Test.YtihfibjckkmmbaaGreatChecked
import GoSem.Claim
import GoSem.ClaimJoined
import GoSem.ClaimMapViews
import Derived.JoinedTies
import Derived.KernelRfl
namespace Go.Proofs.YtihfibjckkmmbaaGreat
/- THE CELL 'sum', in the pinned program and in every row, IS THE sha256 OF THE DUMP (.gsa) THAT YtihfibjckkmmbaaGreatProg.lean LOADS. Nothing in Lean hashes anything: it is a label: what it is worth is what the hold of that sum in a sandbox is worth. -/
noncomputable def Tryz.pinned : Pinned := { name := "ytihfibjckkmmbaagreat", sum := "b5d824c2e9e0ebb61c4380b21543430723046f4c29a070ffc589b730ef3d7aaf", checked := Tryz.checked }
namespace Rows
def none {H : Type} : Left H := { results := [], args := [] }

/-- 'laws.FnOrderPlaces': WHATEVER THE INPUT: true; the input reads as it did. -/
def fnOrderPlacesSpec : ChangeSpec := { name := "fnOrderPlaces", fn := fun _ => fun
  | [d1, d2] => { results := [.lit (.bool true)], args := [d1, d2] }
  | _ => none }
def fnOrderPlacesRow : OpenClaim := { program := "ytihfibjckkmmbaagreat", sum := "b5d824c2e9e0ebb61c4380b21543430723046f4c29a070ffc589b730ef3d7aaf", func := "loop.example/fathomline/laws.FnOrderPlaces", spec := "fnOrderPlaces", unfollowed := true, recurses := true, apart := false }
def FnOrderPlacesSaid : Prop := fnOrderPlacesRow.holds Tryz.pinned (OpenSpec.ofChange fnOrderPlacesSpec)

/-- ITS FALSE NEIGHBOUR: 'it returns false'. Refute it at one input. -/
def fnOrderPlacesWrong : ChangeSpec := { name := "fnOrderPlaces", fn := fun _ => fun
  | [d1, d2] => { results := [.lit (.bool false)], args := [d1, d2] }
  | _ => none }
def FnOrderPlacesWrongFalsely : Prop := fnOrderPlacesRow.holds Tryz.pinned (OpenSpec.ofChange fnOrderPlacesWrong)

/-- 'laws.FnOrderVals': WHATEVER THE INPUT: true; the input reads as it did. -/
def fnOrderValsSpec : ChangeSpec := { name := "fnOrderVals", fn := fun _ => fun
  | [d1, d2] => { results := [.lit (.bool true)], args := [d1, d2] }
  | _ => none }
def fnOrderValsRow : OpenClaim := { program := "ytihfibjckkmmbaagreat", sum := "b5d824c2e9e0ebb61c4380b21543430723046f4c29a070ffc589b730ef3d7aaf", func := "loop.example/fathomline/laws.FnOrderVals", spec := "fnOrderVals", unfollowed := true, recurses := true, apart := false }
def FnOrderValsSaid : Prop := fnOrderValsRow.holds Tryz.pinned (OpenSpec.ofChange fnOrderValsSpec)

/-- ITS FALSE NEIGHBOUR: 'it returns false'. Refute it at one input. -/
def fnOrderValsWrong : ChangeSpec := { name := "fnOrderVals", fn := fun _ => fun
  | [d1, d2] => { results := [.lit (.bool false)], args := [d1, d2] }
  | _ => none }
def FnOrderValsWrongFalsely : Prop := fnOrderValsRow.holds Tryz.pinned (OpenSpec.ofChange fnOrderValsWrong)

/-- 'laws.FnOrderTurn': WHATEVER THE INPUT: true; the input reads as it did. -/
def fnOrderTurnSpec : ChangeSpec := { name := "fnOrderTurn", fn := fun _ => fun
  | [d1, d2] => { results := [.lit (.bool true)], args := [d1, d2] }
  | _ => none }
def fnOrderTurnRow : OpenClaim := { program := "ytihfibjckkmmbaagreat", sum := "b5d824c2e9e0ebb61c4380b21543430723046f4c29a070ffc589b730ef3d7aaf", func := "loop.example/fathomline/laws.FnOrderTurn", spec := "fnOrderTurn", unfollowed := true, recurses := true, apart := false }
def FnOrderTurnSaid : Prop := fnOrderTurnRow.holds Tryz.pinned (OpenSpec.ofChange fnOrderTurnSpec)

/-- ITS FALSE NEIGHBOUR: 'it returns false'. Refute it at one input. -/
def fnOrderTurnWrong : ChangeSpec := { name := "fnOrderTurn", fn := fun _ => fun
  | [d1, d2] => { results := [.lit (.bool false)], args := [d1, d2] }
  | _ => none }
def FnOrderTurnWrongFalsely : Prop := fnOrderTurnRow.holds Tryz.pinned (OpenSpec.ofChange fnOrderTurnWrong)

/-- 'laws.FnOrderBeside': WHATEVER THE INPUT: true; the input reads as it did. -/
def fnOrderBesideSpec : ChangeSpec := { name := "fnOrderBeside", fn := fun _ => fun
  | [d1, d2] => { results := [.lit (.bool true)], args := [d1, d2] }
  | _ => none }
def fnOrderBesideRow : OpenClaim := { program := "ytihfibjckkmmbaagreat", sum := "b5d824c2e9e0ebb61c4380b21543430723046f4c29a070ffc589b730ef3d7aaf", func := "loop.example/fathomline/laws.FnOrderBeside", spec := "fnOrderBeside", unfollowed := true, recurses := true, apart := false }
def FnOrderBesideSaid : Prop := fnOrderBesideRow.holds Tryz.pinned (OpenSpec.ofChange fnOrderBesideSpec)

/-- ITS FALSE NEIGHBOUR: 'it returns false'. Refute it at one input. -/
def fnOrderBesideWrong : ChangeSpec := { name := "fnOrderBeside", fn := fun _ => fun
  | [d1, d2] => { results := [.lit (.bool false)], args := [d1, d2] }
  | _ => none }
def FnOrderBesideWrongFalsely : Prop := fnOrderBesideRow.holds Tryz.pinned (OpenSpec.ofChange fnOrderBesideWrong)

/-- 'laws.FnOrderBesideIn': WHATEVER THE INPUT: true; the input reads as it did. -/
def fnOrderBesideInSpec : ChangeSpec := { name := "fnOrderBesideIn", fn := fun _ => fun
  | [d1, d2] => { results := [.lit (.bool true)], args := [d1, d2] }
  | _ => none }
def fnOrderBesideInRow : OpenClaim := { program := "ytihfibjckkmmbaagreat", sum := "b5d824c2e9e0ebb61c4380b21543430723046f4c29a070ffc589b730ef3d7aaf", func := "loop.example/fathomline/laws.FnOrderBesideIn", spec := "fnOrderBesideIn", unfollowed := true, recurses := true, apart := false }
def FnOrderBesideInSaid : Prop := fnOrderBesideInRow.holds Tryz.pinned (OpenSpec.ofChange fnOrderBesideInSpec)

/-- ITS FALSE NEIGHBOUR: 'it returns false'. Refute it at one input. -/
def fnOrderBesideInWrong : ChangeSpec := { name := "fnOrderBesideIn", fn := fun _ => fun
  | [d1, d2] => { results := [.lit (.bool false)], args := [d1, d2] }
  | _ => none }
def FnOrderBesideInWrongFalsely : Prop := fnOrderBesideInRow.holds Tryz.pinned (OpenSpec.ofChange fnOrderBesideInWrong)

/- THE SECOND FORM. 'bulk': how many values and letters a reading holds, each counted each time it is reached (what is shared counts as often as it is met; a slice's spare places count too). A statement '..UptoSaid' is the law's where the arguments, and the package variables that the reading takes, are together of bulk at most 1048576: NARROWER than '..Said'. Prove '..Said' where nothing that the law and all that it calls make is longer than what came in: it says more and counts as full. Else prove '..UptoSaid'. A law counts once. -/
mutual
def uptoBulk {H : Type} : DataW H → Nat
  | .lit (.string bytes) => bytes.length + 1
  | .lit _ => 1
  | .nil => 1
  | .ptr d => uptoBulk d + 1
  | .slice elems spare => uptoBulkAll elems + uptoBulkAll spare + 1
  | .agg parts => uptoBulkAll parts + 1
  | .iface _ d => uptoBulk d + 1
  | .map entries => uptoBulkEntries entries + 1
  | .held _ => 1
def uptoBulkAll {H : Type} : List (DataW H) → Nat
  | [] => 0
  | d :: r => uptoBulk d + uptoBulkAll r
def uptoBulkEntries {H : Type} : List (Lit × DataW H) → Nat
  | [] => 0
  | x :: r => uptoBulkEntry x + uptoBulkEntries r
def uptoBulkEntry {H : Type} : Lit × DataW H → Nat
  | (.string bytes, d) => bytes.length + uptoBulk d + 1
  | (_, d) => uptoBulk d + 1
 end
def uptoSmall : (H : Type) → List (DataW H) → Bool := fun _ ds => decide (uptoBulkAll ds ≤ 1048576)
def OpenSpec.upto (s : _root_.Go.ChangeSpec) : _root_.Go.OpenSpec := { _root_.Go.OpenSpec.ofChange s with cond := some uptoSmall }

/-- 'laws.FnOrderPlaces', WHERE WHAT IT READS IS OF BULK AT MOST 1048576: true; the input reads as it did. -/
def fnOrderPlacesUptoRow : OpenClaim := { program := "ytihfibjckkmmbaagreat", sum := "b5d824c2e9e0ebb61c4380b21543430723046f4c29a070ffc589b730ef3d7aaf", func := "loop.example/fathomline/laws.FnOrderPlaces", spec := "fnOrderPlaces", unfollowed := true, recurses := true, apart := false, narrowed := true }
def FnOrderPlacesUptoSaid : Prop := fnOrderPlacesUptoRow.holds Tryz.pinned (OpenSpec.upto fnOrderPlacesSpec)

/-- 'laws.FnOrderVals', WHERE WHAT IT READS IS OF BULK AT MOST 1048576: true; the input reads as it did. -/
def fnOrderValsUptoRow : OpenClaim := { program := "ytihfibjckkmmbaagreat", sum := "b5d824c2e9e0ebb61c4380b21543430723046f4c29a070ffc589b730ef3d7aaf", func := "loop.example/fathomline/laws.FnOrderVals", spec := "fnOrderVals", unfollowed := true, recurses := true, apart := false, narrowed := true }
def FnOrderValsUptoSaid : Prop := fnOrderValsUptoRow.holds Tryz.pinned (OpenSpec.upto fnOrderValsSpec)

/-- 'laws.FnOrderTurn', WHERE WHAT IT READS IS OF BULK AT MOST 1048576: true; the input reads as it did. -/
def fnOrderTurnUptoRow : OpenClaim := { program := "ytihfibjckkmmbaagreat", sum := "b5d824c2e9e0ebb61c4380b21543430723046f4c29a070ffc589b730ef3d7aaf", func := "loop.example/fathomline/laws.FnOrderTurn", spec := "fnOrderTurn", unfollowed := true, recurses := true, apart := false, narrowed := true }
def FnOrderTurnUptoSaid : Prop := fnOrderTurnUptoRow.holds Tryz.pinned (OpenSpec.upto fnOrderTurnSpec)

/-- 'laws.FnOrderBeside', WHERE WHAT IT READS IS OF BULK AT MOST 1048576: true; the input reads as it did. -/
def fnOrderBesideUptoRow : OpenClaim := { program := "ytihfibjckkmmbaagreat", sum := "b5d824c2e9e0ebb61c4380b21543430723046f4c29a070ffc589b730ef3d7aaf", func := "loop.example/fathomline/laws.FnOrderBeside", spec := "fnOrderBeside", unfollowed := true, recurses := true, apart := false, narrowed := true }
def FnOrderBesideUptoSaid : Prop := fnOrderBesideUptoRow.holds Tryz.pinned (OpenSpec.upto fnOrderBesideSpec)

/-- 'laws.FnOrderBesideIn', WHERE WHAT IT READS IS OF BULK AT MOST 1048576: true; the input reads as it did. -/
def fnOrderBesideInUptoRow : OpenClaim := { program := "ytihfibjckkmmbaagreat", sum := "b5d824c2e9e0ebb61c4380b21543430723046f4c29a070ffc589b730ef3d7aaf", func := "loop.example/fathomline/laws.FnOrderBesideIn", spec := "fnOrderBesideIn", unfollowed := true, recurses := true, apart := false, narrowed := true }
def FnOrderBesideInUptoSaid : Prop := fnOrderBesideInUptoRow.holds Tryz.pinned (OpenSpec.upto fnOrderBesideInSpec)

end Rows
end Go.Proofs.YtihfibjckkmmbaaGreat
