/-
  No cell of these rows narrows 'for every input' (looked for: loops, veiled, ifaces, maps, wideKeys, modest, calm, conditions, laid).
  DERIVED. THE GIVEN ROWS OF THIS SEAT. 6 by the template 'for every input the law returns true; each argument reads behind the call as it read before'; 0 by the template 'total and deterministic' (their statements: YtbipmookmhihlaaGreatTotals.lean).
  GIVEN WITH THE SEED: the statements are not yours to turn. If you find one false, say at which input.
  Laid BY PROGRAM, IN A SANDBOX (cutbox-rows.mjs): the forced cells as the released guide's own fill.sh prints them over the translation 39edb917f6799ad6… (all of the seat's roots in one cut). By AI agents, Wed Nov 11 2026. No macro, syntax, notation, axiom, sorry.
-/
import Derived.Test.YtbipmookmhihlaaGreatChecked
import GoSem.Claim
import GoSem.ClaimJoined
import GoSem.ClaimMapViews
import Derived.JoinedTies
import Derived.KernelRfl
namespace Go.Proofs.YtbipmookmhihlaaGreat
/- THE CELL 'sum', in the pinned program and in every row, IS THE sha256 OF THE DUMP (.gsa) THAT YtbipmookmhihlaaGreatProg.lean LOADS. Nothing in Lean hashes anything: it is a label: what it is worth is what the hold of that sum in a sandbox is worth. -/
noncomputable def Tryz.pinned : Pinned := { name := "ytbipmookmhihlaagreat", sum := "39edb917f6799ad6c328a58c1d5d9e6a15ac88b9fe7f7234d479a79fbcca27c5", checked := Tryz.checked }
namespace Rows
def none {H : Type} : Left H := { results := [], args := [] }

/-- 'laws.FnShapeStrict': WHATEVER THE INPUT: true; the input reads as it did. -/
def fnShapeStrictSpec : ChangeSpec := { name := "fnShapeStrict", fn := fun _ => fun
  | [d] => { results := [.lit (.bool true)], args := [d] }
  | _ => none }
def fnShapeStrictRow : OpenClaim := { program := "ytbipmookmhihlaagreat", sum := "39edb917f6799ad6c328a58c1d5d9e6a15ac88b9fe7f7234d479a79fbcca27c5", func := "loop.example/fathomline/laws.FnShapeStrict", spec := "fnShapeStrict", unfollowed := true, recurses := true, apart := false }
def FnShapeStrictSaid : Prop := fnShapeStrictRow.holds Tryz.pinned (OpenSpec.ofChange fnShapeStrictSpec)

/-- ITS FALSE NEIGHBOUR: 'it returns false'. Refute it at one input. -/
def fnShapeStrictWrong : ChangeSpec := { name := "fnShapeStrict", fn := fun _ => fun
  | [d] => { results := [.lit (.bool false)], args := [d] }
  | _ => none }
def FnShapeStrictWrongFalsely : Prop := fnShapeStrictRow.holds Tryz.pinned (OpenSpec.ofChange fnShapeStrictWrong)

/-- 'laws.FnShapeLate': WHATEVER THE INPUT: true; the input reads as it did. -/
def fnShapeLateSpec : ChangeSpec := { name := "fnShapeLate", fn := fun _ => fun
  | [d] => { results := [.lit (.bool true)], args := [d] }
  | _ => none }
def fnShapeLateRow : OpenClaim := { program := "ytbipmookmhihlaagreat", sum := "39edb917f6799ad6c328a58c1d5d9e6a15ac88b9fe7f7234d479a79fbcca27c5", func := "loop.example/fathomline/laws.FnShapeLate", spec := "fnShapeLate", unfollowed := true, recurses := true, apart := false }
def FnShapeLateSaid : Prop := fnShapeLateRow.holds Tryz.pinned (OpenSpec.ofChange fnShapeLateSpec)

/-- ITS FALSE NEIGHBOUR: 'it returns false'. Refute it at one input. -/
def fnShapeLateWrong : ChangeSpec := { name := "fnShapeLate", fn := fun _ => fun
  | [d] => { results := [.lit (.bool false)], args := [d] }
  | _ => none }
def FnShapeLateWrongFalsely : Prop := fnShapeLateRow.holds Tryz.pinned (OpenSpec.ofChange fnShapeLateWrong)

/-- 'laws.FnShapeLoose': WHATEVER THE INPUT: true; the input reads as it did. -/
def fnShapeLooseSpec : ChangeSpec := { name := "fnShapeLoose", fn := fun _ => fun
  | [d] => { results := [.lit (.bool true)], args := [d] }
  | _ => none }
def fnShapeLooseRow : OpenClaim := { program := "ytbipmookmhihlaagreat", sum := "39edb917f6799ad6c328a58c1d5d9e6a15ac88b9fe7f7234d479a79fbcca27c5", func := "loop.example/fathomline/laws.FnShapeLoose", spec := "fnShapeLoose", unfollowed := true, recurses := true, apart := false }
def FnShapeLooseSaid : Prop := fnShapeLooseRow.holds Tryz.pinned (OpenSpec.ofChange fnShapeLooseSpec)

/-- ITS FALSE NEIGHBOUR: 'it returns false'. Refute it at one input. -/
def fnShapeLooseWrong : ChangeSpec := { name := "fnShapeLoose", fn := fun _ => fun
  | [d] => { results := [.lit (.bool false)], args := [d] }
  | _ => none }
def FnShapeLooseWrongFalsely : Prop := fnShapeLooseRow.holds Tryz.pinned (OpenSpec.ofChange fnShapeLooseWrong)

/-- 'laws.FnShapeWalls': WHATEVER THE INPUT: true; the input reads as it did. -/
def fnShapeWallsSpec : ChangeSpec := { name := "fnShapeWalls", fn := fun _ => fun
  | [d1, d2] => { results := [.lit (.bool true)], args := [d1, d2] }
  | _ => none }
def fnShapeWallsRow : OpenClaim := { program := "ytbipmookmhihlaagreat", sum := "39edb917f6799ad6c328a58c1d5d9e6a15ac88b9fe7f7234d479a79fbcca27c5", func := "loop.example/fathomline/laws.FnShapeWalls", spec := "fnShapeWalls", unfollowed := true, recurses := true, apart := false }
def FnShapeWallsSaid : Prop := fnShapeWallsRow.holds Tryz.pinned (OpenSpec.ofChange fnShapeWallsSpec)

/-- ITS FALSE NEIGHBOUR: 'it returns false'. Refute it at one input. -/
def fnShapeWallsWrong : ChangeSpec := { name := "fnShapeWalls", fn := fun _ => fun
  | [d1, d2] => { results := [.lit (.bool false)], args := [d1, d2] }
  | _ => none }
def FnShapeWallsWrongFalsely : Prop := fnShapeWallsRow.holds Tryz.pinned (OpenSpec.ofChange fnShapeWallsWrong)

/-- 'laws.FnShapeWait': WHATEVER THE INPUT: true; the input reads as it did. -/
def fnShapeWaitSpec : ChangeSpec := { name := "fnShapeWait", fn := fun _ => fun
  | [d1, d2] => { results := [.lit (.bool true)], args := [d1, d2] }
  | _ => none }
def fnShapeWaitRow : OpenClaim := { program := "ytbipmookmhihlaagreat", sum := "39edb917f6799ad6c328a58c1d5d9e6a15ac88b9fe7f7234d479a79fbcca27c5", func := "loop.example/fathomline/laws.FnShapeWait", spec := "fnShapeWait", unfollowed := true, recurses := true, apart := false }
def FnShapeWaitSaid : Prop := fnShapeWaitRow.holds Tryz.pinned (OpenSpec.ofChange fnShapeWaitSpec)

/-- ITS FALSE NEIGHBOUR: 'it returns false'. Refute it at one input. -/
def fnShapeWaitWrong : ChangeSpec := { name := "fnShapeWait", fn := fun _ => fun
  | [d1, d2] => { results := [.lit (.bool false)], args := [d1, d2] }
  | _ => none }
def FnShapeWaitWrongFalsely : Prop := fnShapeWaitRow.holds Tryz.pinned (OpenSpec.ofChange fnShapeWaitWrong)

/-- 'laws.FnShapeTwice': WHATEVER THE INPUT: true; the input reads as it did. -/
def fnShapeTwiceSpec : ChangeSpec := { name := "fnShapeTwice", fn := fun _ => fun
  | [d1, d2] => { results := [.lit (.bool true)], args := [d1, d2] }
  | _ => none }
def fnShapeTwiceRow : OpenClaim := { program := "ytbipmookmhihlaagreat", sum := "39edb917f6799ad6c328a58c1d5d9e6a15ac88b9fe7f7234d479a79fbcca27c5", func := "loop.example/fathomline/laws.FnShapeTwice", spec := "fnShapeTwice", unfollowed := true, recurses := true, apart := false }
def FnShapeTwiceSaid : Prop := fnShapeTwiceRow.holds Tryz.pinned (OpenSpec.ofChange fnShapeTwiceSpec)

/-- ITS FALSE NEIGHBOUR: 'it returns false'. Refute it at one input. -/
def fnShapeTwiceWrong : ChangeSpec := { name := "fnShapeTwice", fn := fun _ => fun
  | [d1, d2] => { results := [.lit (.bool false)], args := [d1, d2] }
  | _ => none }
def FnShapeTwiceWrongFalsely : Prop := fnShapeTwiceRow.holds Tryz.pinned (OpenSpec.ofChange fnShapeTwiceWrong)

/- THE SECOND FORM. 'bulk': how many values and letters a reading holds, each counted each time it is reached (what is shared counts as often as it is met; a slice's spare places count too). A statement '..UptoSaid' is the law's where the arguments, and the package variables that the reading takes, are together of bulk at most 1048576: NARROWER than '..Said'. Prove '..Said' where nothing that the law and all that it calls make is longer than what came in: it says more and counts as full. Else prove '..UptoSaid'. A law counts once. -/
mutual
def uptoBulk {H : Type} : DataW H → Nat
  | .lit (.string bytes) => bytes.length + 1
  | .lit _ => 1
  | .nil => 1
  | .ptr d => uptoBulk d + 1
  | .slice elems spare => uptoBulkAll elems + uptoBulkAll spare + 1
  | .agg parts => uptoBulkAll parts + 1
  | .iface _ d => uptoBulk d + 1
  | .map entries => uptoBulkEntries entries + 1
  | .held _ => 1
def uptoBulkAll {H : Type} : List (DataW H) → Nat
  | [] => 0
  | d :: r => uptoBulk d + uptoBulkAll r
def uptoBulkEntries {H : Type} : List (Lit × DataW H) → Nat
  | [] => 0
  | x :: r => uptoBulkEntry x + uptoBulkEntries r
def uptoBulkEntry {H : Type} : Lit × DataW H → Nat
  | (.string bytes, d) => bytes.length + uptoBulk d + 1
  | (_, d) => uptoBulk d + 1
 end
def uptoSmall : (H : Type) → List (DataW H) → Bool := fun _ ds => decide (uptoBulkAll ds ≤ 1048576)
def OpenSpec.upto (s : _root_.Go.ChangeSpec) : _root_.Go.OpenSpec := { _root_.Go.OpenSpec.ofChange s with cond := some uptoSmall }

/-- 'laws.FnShapeStrict', WHERE WHAT IT READS IS OF BULK AT MOST 1048576: true; the input reads as it did. -/
def fnShapeStrictUptoRow : OpenClaim := { program := "ytbipmookmhihlaagreat", sum := "39edb917f6799ad6c328a58c1d5d9e6a15ac88b9fe7f7234d479a79fbcca27c5", func := "loop.example/fathomline/laws.FnShapeStrict", spec := "fnShapeStrict", unfollowed := true, recurses := true, apart := false, narrowed := true }
def FnShapeStrictUptoSaid : Prop := fnShapeStrictUptoRow.holds Tryz.pinned (OpenSpec.upto fnShapeStrictSpec)

/-- 'laws.FnShapeLate', WHERE WHAT IT READS IS OF BULK AT MOST 1048576: true; the input reads as it did. -/
def fnShapeLateUptoRow : OpenClaim := { program := "ytbipmookmhihlaagreat", sum := "39edb917f6799ad6c328a58c1d5d9e6a15ac88b9fe7f7234d479a79fbcca27c5", func := "loop.example/fathomline/laws.FnShapeLate", spec := "fnShapeLate", unfollowed := true, recurses := true, apart := false, narrowed := true }
def FnShapeLateUptoSaid : Prop := fnShapeLateUptoRow.holds Tryz.pinned (OpenSpec.upto fnShapeLateSpec)

/-- 'laws.FnShapeLoose', WHERE WHAT IT READS IS OF BULK AT MOST 1048576: true; the input reads as it did. -/
def fnShapeLooseUptoRow : OpenClaim := { program := "ytbipmookmhihlaagreat", sum := "39edb917f6799ad6c328a58c1d5d9e6a15ac88b9fe7f7234d479a79fbcca27c5", func := "loop.example/fathomline/laws.FnShapeLoose", spec := "fnShapeLoose", unfollowed := true, recurses := true, apart := false, narrowed := true }
def FnShapeLooseUptoSaid : Prop := fnShapeLooseUptoRow.holds Tryz.pinned (OpenSpec.upto fnShapeLooseSpec)

/-- 'laws.FnShapeWalls', WHERE WHAT IT READS IS OF BULK AT MOST 1048576: true; the input reads as it did. -/
def fnShapeWallsUptoRow : OpenClaim := { program := "ytbipmookmhihlaagreat", sum := "39edb917f6799ad6c328a58c1d5d9e6a15ac88b9fe7f7234d479a79fbcca27c5", func := "loop.example/fathomline/laws.FnShapeWalls", spec := "fnShapeWalls", unfollowed := true, recurses := true, apart := false, narrowed := true }
def FnShapeWallsUptoSaid : Prop := fnShapeWallsUptoRow.holds Tryz.pinned (OpenSpec.upto fnShapeWallsSpec)

/-- 'laws.FnShapeWait', WHERE WHAT IT READS IS OF BULK AT MOST 1048576: true; the input reads as it did. -/
def fnShapeWaitUptoRow : OpenClaim := { program := "ytbipmookmhihlaagreat", sum := "39edb917f6799ad6c328a58c1d5d9e6a15ac88b9fe7f7234d479a79fbcca27c5", func := "loop.example/fathomline/laws.FnShapeWait", spec := "fnShapeWait", unfollowed := true, recurses := true, apart := false, narrowed := true }
def FnShapeWaitUptoSaid : Prop := fnShapeWaitUptoRow.holds Tryz.pinned (OpenSpec.upto fnShapeWaitSpec)

/-- 'laws.FnShapeTwice', WHERE WHAT IT READS IS OF BULK AT MOST 1048576: true; the input reads as it did. -/
def fnShapeTwiceUptoRow : OpenClaim := { program := "ytbipmookmhihlaagreat", sum := "39edb917f6799ad6c328a58c1d5d9e6a15ac88b9fe7f7234d479a79fbcca27c5", func := "loop.example/fathomline/laws.FnShapeTwice", spec := "fnShapeTwice", unfollowed := true, recurses := true, apart := false, narrowed := true }
def FnShapeTwiceUptoSaid : Prop := fnShapeTwiceUptoRow.holds Tryz.pinned (OpenSpec.upto fnShapeTwiceSpec)

end Rows
end Go.Proofs.YtbipmookmhihlaaGreat
