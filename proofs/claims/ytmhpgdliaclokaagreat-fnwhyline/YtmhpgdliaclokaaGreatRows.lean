/-
  No cell of these rows narrows 'for every input' (looked for: loops, veiled, ifaces, maps, wideKeys, modest, calm, conditions, laid).
  DERIVED. THE GIVEN ROWS OF THIS SEAT. 6 by the template 'for every input the law returns true; each argument reads behind the call as it read before'; 0 by the template 'total and deterministic' (their statements: YtmhpgdliaclokaaGreatTotals.lean).
  GIVEN WITH THE SEED: the statements are not yours to turn. If you find one false, say at which input.
  Laid BY PROGRAM, IN A SANDBOX (cutbox-rows.mjs): the forced cells as the released guide's own fill.sh prints them over the translation 87d3f865838b5ace… (all of the seat's roots in one cut). By AI agents, Wed Nov 11 2026. No macro, syntax, notation, axiom, sorry.
-/
import Derived.Test.YtmhpgdliaclokaaGreatChecked
import GoSem.Claim
import GoSem.ClaimJoined
import GoSem.ClaimMapViews
import Derived.JoinedTies
import Derived.KernelRfl
namespace Go.Proofs.YtmhpgdliaclokaaGreat
/- THE CELL 'sum', in the pinned program and in every row, IS THE sha256 OF THE DUMP (.gsa) THAT YtmhpgdliaclokaaGreatProg.lean LOADS. Nothing in Lean hashes anything: it is a label: what it is worth is what the hold of that sum in a sandbox is worth. -/
noncomputable def Tryz.pinned : Pinned := { name := "ytmhpgdliaclokaagreat", sum := "87d3f865838b5ace172685a419ec35a71939a257fe6d7c529164662a6d5183e6", checked := Tryz.checked }
namespace Rows
def none {H : Type} : Left H := { results := [], args := [] }

/-- 'laws.FnOrderLine': WHATEVER THE INPUT: true; the input reads as it did. -/
def fnOrderLineSpec : ChangeSpec := { name := "fnOrderLine", fn := fun _ => fun
  | [d] => { results := [.lit (.bool true)], args := [d] }
  | _ => none }
def fnOrderLineRow : OpenClaim := { program := "ytmhpgdliaclokaagreat", sum := "87d3f865838b5ace172685a419ec35a71939a257fe6d7c529164662a6d5183e6", func := "loop.example/fathomline/laws.FnOrderLine", spec := "fnOrderLine", unfollowed := true, recurses := true, apart := false }
def FnOrderLineSaid : Prop := fnOrderLineRow.holds Tryz.pinned (OpenSpec.ofChange fnOrderLineSpec)

/-- ITS FALSE NEIGHBOUR: 'it returns false'. Refute it at one input. -/
def fnOrderLineWrong : ChangeSpec := { name := "fnOrderLine", fn := fun _ => fun
  | [d] => { results := [.lit (.bool false)], args := [d] }
  | _ => none }
def FnOrderLineWrongFalsely : Prop := fnOrderLineRow.holds Tryz.pinned (OpenSpec.ofChange fnOrderLineWrong)

/-- 'laws.FnOrderLineHolds': WHATEVER THE INPUT: true; the input reads as it did. -/
def fnOrderLineHoldsSpec : ChangeSpec := { name := "fnOrderLineHolds", fn := fun _ => fun
  | [d] => { results := [.lit (.bool true)], args := [d] }
  | _ => none }
def fnOrderLineHoldsRow : OpenClaim := { program := "ytmhpgdliaclokaagreat", sum := "87d3f865838b5ace172685a419ec35a71939a257fe6d7c529164662a6d5183e6", func := "loop.example/fathomline/laws.FnOrderLineHolds", spec := "fnOrderLineHolds", unfollowed := true, recurses := true, apart := false }
def FnOrderLineHoldsSaid : Prop := fnOrderLineHoldsRow.holds Tryz.pinned (OpenSpec.ofChange fnOrderLineHoldsSpec)

/-- ITS FALSE NEIGHBOUR: 'it returns false'. Refute it at one input. -/
def fnOrderLineHoldsWrong : ChangeSpec := { name := "fnOrderLineHolds", fn := fun _ => fun
  | [d] => { results := [.lit (.bool false)], args := [d] }
  | _ => none }
def FnOrderLineHoldsWrongFalsely : Prop := fnOrderLineHoldsRow.holds Tryz.pinned (OpenSpec.ofChange fnOrderLineHoldsWrong)

/-- 'laws.FnOrderLineWait': WHATEVER THE INPUT: true; the input reads as it did. -/
def fnOrderLineWaitSpec : ChangeSpec := { name := "fnOrderLineWait", fn := fun _ => fun
  | [d] => { results := [.lit (.bool true)], args := [d] }
  | _ => none }
def fnOrderLineWaitRow : OpenClaim := { program := "ytmhpgdliaclokaagreat", sum := "87d3f865838b5ace172685a419ec35a71939a257fe6d7c529164662a6d5183e6", func := "loop.example/fathomline/laws.FnOrderLineWait", spec := "fnOrderLineWait", unfollowed := true, recurses := true, apart := false }
def FnOrderLineWaitSaid : Prop := fnOrderLineWaitRow.holds Tryz.pinned (OpenSpec.ofChange fnOrderLineWaitSpec)

/-- ITS FALSE NEIGHBOUR: 'it returns false'. Refute it at one input. -/
def fnOrderLineWaitWrong : ChangeSpec := { name := "fnOrderLineWait", fn := fun _ => fun
  | [d] => { results := [.lit (.bool false)], args := [d] }
  | _ => none }
def FnOrderLineWaitWrongFalsely : Prop := fnOrderLineWaitRow.holds Tryz.pinned (OpenSpec.ofChange fnOrderLineWaitWrong)

/-- 'laws.FnWhyLine': WHATEVER THE INPUT: true; the input reads as it did. -/
def fnWhyLineSpec : ChangeSpec := { name := "fnWhyLine", fn := fun _ => fun
  | [d] => { results := [.lit (.bool true)], args := [d] }
  | _ => none }
def fnWhyLineRow : OpenClaim := { program := "ytmhpgdliaclokaagreat", sum := "87d3f865838b5ace172685a419ec35a71939a257fe6d7c529164662a6d5183e6", func := "loop.example/fathomline/laws.FnWhyLine", spec := "fnWhyLine", unfollowed := true, recurses := true, apart := false }
def FnWhyLineSaid : Prop := fnWhyLineRow.holds Tryz.pinned (OpenSpec.ofChange fnWhyLineSpec)

/-- ITS FALSE NEIGHBOUR: 'it returns false'. Refute it at one input. -/
def fnWhyLineWrong : ChangeSpec := { name := "fnWhyLine", fn := fun _ => fun
  | [d] => { results := [.lit (.bool false)], args := [d] }
  | _ => none }
def FnWhyLineWrongFalsely : Prop := fnWhyLineRow.holds Tryz.pinned (OpenSpec.ofChange fnWhyLineWrong)

/-- 'laws.FnOrderSeen': WHATEVER THE INPUT: true; the input reads as it did. -/
def fnOrderSeenSpec : ChangeSpec := { name := "fnOrderSeen", fn := fun _ => fun
  | [d] => { results := [.lit (.bool true)], args := [d] }
  | _ => none }
def fnOrderSeenRow : OpenClaim := { program := "ytmhpgdliaclokaagreat", sum := "87d3f865838b5ace172685a419ec35a71939a257fe6d7c529164662a6d5183e6", func := "loop.example/fathomline/laws.FnOrderSeen", spec := "fnOrderSeen", unfollowed := true, recurses := true, apart := false }
def FnOrderSeenSaid : Prop := fnOrderSeenRow.holds Tryz.pinned (OpenSpec.ofChange fnOrderSeenSpec)

/-- ITS FALSE NEIGHBOUR: 'it returns false'. Refute it at one input. -/
def fnOrderSeenWrong : ChangeSpec := { name := "fnOrderSeen", fn := fun _ => fun
  | [d] => { results := [.lit (.bool false)], args := [d] }
  | _ => none }
def FnOrderSeenWrongFalsely : Prop := fnOrderSeenRow.holds Tryz.pinned (OpenSpec.ofChange fnOrderSeenWrong)

/-- 'laws.FnWhyOrderTurn': WHATEVER THE INPUT: true; the input reads as it did. -/
def fnWhyOrderTurnSpec : ChangeSpec := { name := "fnWhyOrderTurn", fn := fun _ => fun
  | [d] => { results := [.lit (.bool true)], args := [d] }
  | _ => none }
def fnWhyOrderTurnRow : OpenClaim := { program := "ytmhpgdliaclokaagreat", sum := "87d3f865838b5ace172685a419ec35a71939a257fe6d7c529164662a6d5183e6", func := "loop.example/fathomline/laws.FnWhyOrderTurn", spec := "fnWhyOrderTurn", unfollowed := true, recurses := true, apart := false }
def FnWhyOrderTurnSaid : Prop := fnWhyOrderTurnRow.holds Tryz.pinned (OpenSpec.ofChange fnWhyOrderTurnSpec)

/-- ITS FALSE NEIGHBOUR: 'it returns false'. Refute it at one input. -/
def fnWhyOrderTurnWrong : ChangeSpec := { name := "fnWhyOrderTurn", fn := fun _ => fun
  | [d] => { results := [.lit (.bool false)], args := [d] }
  | _ => none }
def FnWhyOrderTurnWrongFalsely : Prop := fnWhyOrderTurnRow.holds Tryz.pinned (OpenSpec.ofChange fnWhyOrderTurnWrong)

/- THE SECOND FORM. 'bulk': how many values and letters a reading holds, each counted each time it is reached (what is shared counts as often as it is met; a slice's spare places count too). A statement '..UptoSaid' is the law's where the arguments, and the package variables that the reading takes, are together of bulk at most 1048576: NARROWER than '..Said'. Prove '..Said' where nothing that the law and all that it calls make is longer than what came in: it says more and counts as full. Else prove '..UptoSaid'. A law counts once. -/
mutual
def uptoBulk {H : Type} : DataW H → Nat
  | .lit (.string bytes) => bytes.length + 1
  | .lit _ => 1
  | .nil => 1
  | .ptr d => uptoBulk d + 1
  | .slice elems spare => uptoBulkAll elems + uptoBulkAll spare + 1
  | .agg parts => uptoBulkAll parts + 1
  | .iface _ d => uptoBulk d + 1
  | .map entries => uptoBulkEntries entries + 1
  | .held _ => 1
def uptoBulkAll {H : Type} : List (DataW H) → Nat
  | [] => 0
  | d :: r => uptoBulk d + uptoBulkAll r
def uptoBulkEntries {H : Type} : List (Lit × DataW H) → Nat
  | [] => 0
  | x :: r => uptoBulkEntry x + uptoBulkEntries r
def uptoBulkEntry {H : Type} : Lit × DataW H → Nat
  | (.string bytes, d) => bytes.length + uptoBulk d + 1
  | (_, d) => uptoBulk d + 1
 end
def uptoSmall : (H : Type) → List (DataW H) → Bool := fun _ ds => decide (uptoBulkAll ds ≤ 1048576)
def OpenSpec.upto (s : _root_.Go.ChangeSpec) : _root_.Go.OpenSpec := { _root_.Go.OpenSpec.ofChange s with cond := some uptoSmall }

/-- 'laws.FnOrderLine', WHERE WHAT IT READS IS OF BULK AT MOST 1048576: true; the input reads as it did. -/
def fnOrderLineUptoRow : OpenClaim := { program := "ytmhpgdliaclokaagreat", sum := "87d3f865838b5ace172685a419ec35a71939a257fe6d7c529164662a6d5183e6", func := "loop.example/fathomline/laws.FnOrderLine", spec := "fnOrderLine", unfollowed := true, recurses := true, apart := false, narrowed := true }
def FnOrderLineUptoSaid : Prop := fnOrderLineUptoRow.holds Tryz.pinned (OpenSpec.upto fnOrderLineSpec)

/-- 'laws.FnOrderLineHolds', WHERE WHAT IT READS IS OF BULK AT MOST 1048576: true; the input reads as it did. -/
def fnOrderLineHoldsUptoRow : OpenClaim := { program := "ytmhpgdliaclokaagreat", sum := "87d3f865838b5ace172685a419ec35a71939a257fe6d7c529164662a6d5183e6", func := "loop.example/fathomline/laws.FnOrderLineHolds", spec := "fnOrderLineHolds", unfollowed := true, recurses := true, apart := false, narrowed := true }
def FnOrderLineHoldsUptoSaid : Prop := fnOrderLineHoldsUptoRow.holds Tryz.pinned (OpenSpec.upto fnOrderLineHoldsSpec)

/-- 'laws.FnOrderLineWait', WHERE WHAT IT READS IS OF BULK AT MOST 1048576: true; the input reads as it did. -/
def fnOrderLineWaitUptoRow : OpenClaim := { program := "ytmhpgdliaclokaagreat", sum := "87d3f865838b5ace172685a419ec35a71939a257fe6d7c529164662a6d5183e6", func := "loop.example/fathomline/laws.FnOrderLineWait", spec := "fnOrderLineWait", unfollowed := true, recurses := true, apart := false, narrowed := true }
def FnOrderLineWaitUptoSaid : Prop := fnOrderLineWaitUptoRow.holds Tryz.pinned (OpenSpec.upto fnOrderLineWaitSpec)

/-- 'laws.FnWhyLine', WHERE WHAT IT READS IS OF BULK AT MOST 1048576: true; the input reads as it did. -/
def fnWhyLineUptoRow : OpenClaim := { program := "ytmhpgdliaclokaagreat", sum := "87d3f865838b5ace172685a419ec35a71939a257fe6d7c529164662a6d5183e6", func := "loop.example/fathomline/laws.FnWhyLine", spec := "fnWhyLine", unfollowed := true, recurses := true, apart := false, narrowed := true }
def FnWhyLineUptoSaid : Prop := fnWhyLineUptoRow.holds Tryz.pinned (OpenSpec.upto fnWhyLineSpec)

/-- 'laws.FnOrderSeen', WHERE WHAT IT READS IS OF BULK AT MOST 1048576: true; the input reads as it did. -/
def fnOrderSeenUptoRow : OpenClaim := { program := "ytmhpgdliaclokaagreat", sum := "87d3f865838b5ace172685a419ec35a71939a257fe6d7c529164662a6d5183e6", func := "loop.example/fathomline/laws.FnOrderSeen", spec := "fnOrderSeen", unfollowed := true, recurses := true, apart := false, narrowed := true }
def FnOrderSeenUptoSaid : Prop := fnOrderSeenUptoRow.holds Tryz.pinned (OpenSpec.upto fnOrderSeenSpec)

/-- 'laws.FnWhyOrderTurn', WHERE WHAT IT READS IS OF BULK AT MOST 1048576: true; the input reads as it did. -/
def fnWhyOrderTurnUptoRow : OpenClaim := { program := "ytmhpgdliaclokaagreat", sum := "87d3f865838b5ace172685a419ec35a71939a257fe6d7c529164662a6d5183e6", func := "loop.example/fathomline/laws.FnWhyOrderTurn", spec := "fnWhyOrderTurn", unfollowed := true, recurses := true, apart := false, narrowed := true }
def FnWhyOrderTurnUptoSaid : Prop := fnWhyOrderTurnUptoRow.holds Tryz.pinned (OpenSpec.upto fnWhyOrderTurnSpec)

end Rows
end Go.Proofs.YtmhpgdliaclokaaGreat
