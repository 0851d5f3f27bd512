/-
  No cell of these rows narrows 'for every input' (looked for: loops, veiled, ifaces, maps, wideKeys, modest, calm, conditions, laid).
  DERIVED. THE GIVEN ROWS OF THIS SEAT. 9 by the template 'for every input the law returns true; each argument reads behind the call as it read before'; 0 by the template 'total and deterministic' (their statements: YtdningnhbplfiaaGreatTotals.lean).
  GIVEN WITH THE SEED: the statements are not yours to turn. If you find one false, say at which input.
  Laid BY PROGRAM, IN A SANDBOX (cutbox-rows.mjs): the forced cells as the released guide's own fill.sh prints them over the translation 6cb53452f5553fe2… (all of the seat's roots in one cut). By AI agents, Wed Nov 11 2026. No macro, syntax, notation, axiom, sorry.
-/
import Derived.Test.YtdningnhbplfiaaGreatChecked
import GoSem.Claim
import GoSem.ClaimJoined
import GoSem.ClaimMapViews
import Derived.JoinedTies
import Derived.KernelRfl
namespace Go.Proofs.YtdningnhbplfiaaGreat
/- THE CELL 'sum', in the pinned program and in every row, IS THE sha256 OF THE DUMP (.gsa) THAT YtdningnhbplfiaaGreatProg.lean LOADS. Nothing in Lean hashes anything: it is a label: what it is worth is what the hold of that sum in a sandbox is worth. -/
noncomputable def Tryz.pinned : Pinned := { name := "ytdningnhbplfiaagreat", sum := "6cb53452f5553fe2d6fedc754b4da9e8dbf289f9898e1660393dbce9c7c6d207", checked := Tryz.checked }
namespace Rows
def none {H : Type} : Left H := { results := [], args := [] }

/-- 'laws.FnExactOrderRing': WHATEVER THE INPUT: true; the input reads as it did. -/
def fnExactOrderRingSpec : ChangeSpec := { name := "fnExactOrderRing", fn := fun _ => fun
  | [d1, d2, d3] => { results := [.lit (.bool true)], args := [d1, d2, d3] }
  | _ => none }
def fnExactOrderRingRow : OpenClaim := { program := "ytdningnhbplfiaagreat", sum := "6cb53452f5553fe2d6fedc754b4da9e8dbf289f9898e1660393dbce9c7c6d207", func := "loop.example/fathomline/laws.FnExactOrderRing", spec := "fnExactOrderRing", unfollowed := true, recurses := true, apart := false }
def FnExactOrderRingSaid : Prop := fnExactOrderRingRow.holds Tryz.pinned (OpenSpec.ofChange fnExactOrderRingSpec)

/-- ITS FALSE NEIGHBOUR: 'it returns false'. Refute it at one input. -/
def fnExactOrderRingWrong : ChangeSpec := { name := "fnExactOrderRing", fn := fun _ => fun
  | [d1, d2, d3] => { results := [.lit (.bool false)], args := [d1, d2, d3] }
  | _ => none }
def FnExactOrderRingWrongFalsely : Prop := fnExactOrderRingRow.holds Tryz.pinned (OpenSpec.ofChange fnExactOrderRingWrong)

/-- 'laws.FnOrderRing': WHATEVER THE INPUT: true; the input reads as it did. -/
def fnOrderRingSpec : ChangeSpec := { name := "fnOrderRing", fn := fun _ => fun
  | [d] => { results := [.lit (.bool true)], args := [d] }
  | _ => none }
def fnOrderRingRow : OpenClaim := { program := "ytdningnhbplfiaagreat", sum := "6cb53452f5553fe2d6fedc754b4da9e8dbf289f9898e1660393dbce9c7c6d207", func := "loop.example/fathomline/laws.FnOrderRing", spec := "fnOrderRing", unfollowed := true, recurses := true, apart := false }
def FnOrderRingSaid : Prop := fnOrderRingRow.holds Tryz.pinned (OpenSpec.ofChange fnOrderRingSpec)

/-- ITS FALSE NEIGHBOUR: 'it returns false'. Refute it at one input. -/
def fnOrderRingWrong : ChangeSpec := { name := "fnOrderRing", fn := fun _ => fun
  | [d] => { results := [.lit (.bool false)], args := [d] }
  | _ => none }
def FnOrderRingWrongFalsely : Prop := fnOrderRingRow.holds Tryz.pinned (OpenSpec.ofChange fnOrderRingWrong)

/-- 'laws.FnExactOrderLine': WHATEVER THE INPUT: true; the input reads as it did. -/
def fnExactOrderLineSpec : ChangeSpec := { name := "fnExactOrderLine", fn := fun _ => fun
  | [d1, d2, d3] => { results := [.lit (.bool true)], args := [d1, d2, d3] }
  | _ => none }
def fnExactOrderLineRow : OpenClaim := { program := "ytdningnhbplfiaagreat", sum := "6cb53452f5553fe2d6fedc754b4da9e8dbf289f9898e1660393dbce9c7c6d207", func := "loop.example/fathomline/laws.FnExactOrderLine", spec := "fnExactOrderLine", unfollowed := true, recurses := true, apart := false }
def FnExactOrderLineSaid : Prop := fnExactOrderLineRow.holds Tryz.pinned (OpenSpec.ofChange fnExactOrderLineSpec)

/-- ITS FALSE NEIGHBOUR: 'it returns false'. Refute it at one input. -/
def fnExactOrderLineWrong : ChangeSpec := { name := "fnExactOrderLine", fn := fun _ => fun
  | [d1, d2, d3] => { results := [.lit (.bool false)], args := [d1, d2, d3] }
  | _ => none }
def FnExactOrderLineWrongFalsely : Prop := fnExactOrderLineRow.holds Tryz.pinned (OpenSpec.ofChange fnExactOrderLineWrong)

/-- 'laws.FnOrderLine': WHATEVER THE INPUT: true; the input reads as it did. -/
def fnOrderLineSpec : ChangeSpec := { name := "fnOrderLine", fn := fun _ => fun
  | [d] => { results := [.lit (.bool true)], args := [d] }
  | _ => none }
def fnOrderLineRow : OpenClaim := { program := "ytdningnhbplfiaagreat", sum := "6cb53452f5553fe2d6fedc754b4da9e8dbf289f9898e1660393dbce9c7c6d207", func := "loop.example/fathomline/laws.FnOrderLine", spec := "fnOrderLine", unfollowed := true, recurses := true, apart := false }
def FnOrderLineSaid : Prop := fnOrderLineRow.holds Tryz.pinned (OpenSpec.ofChange fnOrderLineSpec)

/-- ITS FALSE NEIGHBOUR: 'it returns false'. Refute it at one input. -/
def fnOrderLineWrong : ChangeSpec := { name := "fnOrderLine", fn := fun _ => fun
  | [d] => { results := [.lit (.bool false)], args := [d] }
  | _ => none }
def FnOrderLineWrongFalsely : Prop := fnOrderLineRow.holds Tryz.pinned (OpenSpec.ofChange fnOrderLineWrong)

/-- 'laws.FnOrderLineHolds': WHATEVER THE INPUT: true; the input reads as it did. -/
def fnOrderLineHoldsSpec : ChangeSpec := { name := "fnOrderLineHolds", fn := fun _ => fun
  | [d] => { results := [.lit (.bool true)], args := [d] }
  | _ => none }
def fnOrderLineHoldsRow : OpenClaim := { program := "ytdningnhbplfiaagreat", sum := "6cb53452f5553fe2d6fedc754b4da9e8dbf289f9898e1660393dbce9c7c6d207", func := "loop.example/fathomline/laws.FnOrderLineHolds", spec := "fnOrderLineHolds", unfollowed := true, recurses := true, apart := false }
def FnOrderLineHoldsSaid : Prop := fnOrderLineHoldsRow.holds Tryz.pinned (OpenSpec.ofChange fnOrderLineHoldsSpec)

/-- ITS FALSE NEIGHBOUR: 'it returns false'. Refute it at one input. -/
def fnOrderLineHoldsWrong : ChangeSpec := { name := "fnOrderLineHolds", fn := fun _ => fun
  | [d] => { results := [.lit (.bool false)], args := [d] }
  | _ => none }
def FnOrderLineHoldsWrongFalsely : Prop := fnOrderLineHoldsRow.holds Tryz.pinned (OpenSpec.ofChange fnOrderLineHoldsWrong)

/-- 'laws.FnOrderLineWait': WHATEVER THE INPUT: true; the input reads as it did. -/
def fnOrderLineWaitSpec : ChangeSpec := { name := "fnOrderLineWait", fn := fun _ => fun
  | [d] => { results := [.lit (.bool true)], args := [d] }
  | _ => none }
def fnOrderLineWaitRow : OpenClaim := { program := "ytdningnhbplfiaagreat", sum := "6cb53452f5553fe2d6fedc754b4da9e8dbf289f9898e1660393dbce9c7c6d207", func := "loop.example/fathomline/laws.FnOrderLineWait", spec := "fnOrderLineWait", unfollowed := true, recurses := true, apart := false }
def FnOrderLineWaitSaid : Prop := fnOrderLineWaitRow.holds Tryz.pinned (OpenSpec.ofChange fnOrderLineWaitSpec)

/-- ITS FALSE NEIGHBOUR: 'it returns false'. Refute it at one input. -/
def fnOrderLineWaitWrong : ChangeSpec := { name := "fnOrderLineWait", fn := fun _ => fun
  | [d] => { results := [.lit (.bool false)], args := [d] }
  | _ => none }
def FnOrderLineWaitWrongFalsely : Prop := fnOrderLineWaitRow.holds Tryz.pinned (OpenSpec.ofChange fnOrderLineWaitWrong)

/-- 'laws.FnOrderRingNot': WHATEVER THE INPUT: true; the input reads as it did. -/
def fnOrderRingNotSpec : ChangeSpec := { name := "fnOrderRingNot", fn := fun _ => fun
  | [d] => { results := [.lit (.bool true)], args := [d] }
  | _ => none }
def fnOrderRingNotRow : OpenClaim := { program := "ytdningnhbplfiaagreat", sum := "6cb53452f5553fe2d6fedc754b4da9e8dbf289f9898e1660393dbce9c7c6d207", func := "loop.example/fathomline/laws.FnOrderRingNot", spec := "fnOrderRingNot", unfollowed := true, recurses := true, apart := false }
def FnOrderRingNotSaid : Prop := fnOrderRingNotRow.holds Tryz.pinned (OpenSpec.ofChange fnOrderRingNotSpec)

/-- ITS FALSE NEIGHBOUR: 'it returns false'. Refute it at one input. -/
def fnOrderRingNotWrong : ChangeSpec := { name := "fnOrderRingNot", fn := fun _ => fun
  | [d] => { results := [.lit (.bool false)], args := [d] }
  | _ => none }
def FnOrderRingNotWrongFalsely : Prop := fnOrderRingNotRow.holds Tryz.pinned (OpenSpec.ofChange fnOrderRingNotWrong)

/-- 'laws.FnWhyLine': WHATEVER THE INPUT: true; the input reads as it did. -/
def fnWhyLineSpec : ChangeSpec := { name := "fnWhyLine", fn := fun _ => fun
  | [d] => { results := [.lit (.bool true)], args := [d] }
  | _ => none }
def fnWhyLineRow : OpenClaim := { program := "ytdningnhbplfiaagreat", sum := "6cb53452f5553fe2d6fedc754b4da9e8dbf289f9898e1660393dbce9c7c6d207", func := "loop.example/fathomline/laws.FnWhyLine", spec := "fnWhyLine", unfollowed := true, recurses := true, apart := false }
def FnWhyLineSaid : Prop := fnWhyLineRow.holds Tryz.pinned (OpenSpec.ofChange fnWhyLineSpec)

/-- ITS FALSE NEIGHBOUR: 'it returns false'. Refute it at one input. -/
def fnWhyLineWrong : ChangeSpec := { name := "fnWhyLine", fn := fun _ => fun
  | [d] => { results := [.lit (.bool false)], args := [d] }
  | _ => none }
def FnWhyLineWrongFalsely : Prop := fnWhyLineRow.holds Tryz.pinned (OpenSpec.ofChange fnWhyLineWrong)

/-- 'laws.FnOrderSeen': WHATEVER THE INPUT: true; the input reads as it did. -/
def fnOrderSeenSpec : ChangeSpec := { name := "fnOrderSeen", fn := fun _ => fun
  | [d] => { results := [.lit (.bool true)], args := [d] }
  | _ => none }
def fnOrderSeenRow : OpenClaim := { program := "ytdningnhbplfiaagreat", sum := "6cb53452f5553fe2d6fedc754b4da9e8dbf289f9898e1660393dbce9c7c6d207", func := "loop.example/fathomline/laws.FnOrderSeen", spec := "fnOrderSeen", unfollowed := true, recurses := true, apart := false }
def FnOrderSeenSaid : Prop := fnOrderSeenRow.holds Tryz.pinned (OpenSpec.ofChange fnOrderSeenSpec)

/-- ITS FALSE NEIGHBOUR: 'it returns false'. Refute it at one input. -/
def fnOrderSeenWrong : ChangeSpec := { name := "fnOrderSeen", fn := fun _ => fun
  | [d] => { results := [.lit (.bool false)], args := [d] }
  | _ => none }
def FnOrderSeenWrongFalsely : Prop := fnOrderSeenRow.holds Tryz.pinned (OpenSpec.ofChange fnOrderSeenWrong)

/- THE SECOND FORM. 'bulk': how many values and letters a reading holds, each counted each time it is reached (what is shared counts as often as it is met; a slice's spare places count too). A statement '..UptoSaid' is the law's where the arguments, and the package variables that the reading takes, are together of bulk at most 1048576: NARROWER than '..Said'. Prove '..Said' where nothing that the law and all that it calls make is longer than what came in: it says more and counts as full. Else prove '..UptoSaid'. A law counts once. -/
mutual
def uptoBulk {H : Type} : DataW H → Nat
  | .lit (.string bytes) => bytes.length + 1
  | .lit _ => 1
  | .nil => 1
  | .ptr d => uptoBulk d + 1
  | .slice elems spare => uptoBulkAll elems + uptoBulkAll spare + 1
  | .agg parts => uptoBulkAll parts + 1
  | .iface _ d => uptoBulk d + 1
  | .map entries => uptoBulkEntries entries + 1
  | .held _ => 1
def uptoBulkAll {H : Type} : List (DataW H) → Nat
  | [] => 0
  | d :: r => uptoBulk d + uptoBulkAll r
def uptoBulkEntries {H : Type} : List (Lit × DataW H) → Nat
  | [] => 0
  | x :: r => uptoBulkEntry x + uptoBulkEntries r
def uptoBulkEntry {H : Type} : Lit × DataW H → Nat
  | (.string bytes, d) => bytes.length + uptoBulk d + 1
  | (_, d) => uptoBulk d + 1
 end
def uptoSmall : (H : Type) → List (DataW H) → Bool := fun _ ds => decide (uptoBulkAll ds ≤ 1048576)
def OpenSpec.upto (s : _root_.Go.ChangeSpec) : _root_.Go.OpenSpec := { _root_.Go.OpenSpec.ofChange s with cond := some uptoSmall }

/-- 'laws.FnExactOrderRing', WHERE WHAT IT READS IS OF BULK AT MOST 1048576: true; the input reads as it did. -/
def fnExactOrderRingUptoRow : OpenClaim := { program := "ytdningnhbplfiaagreat", sum := "6cb53452f5553fe2d6fedc754b4da9e8dbf289f9898e1660393dbce9c7c6d207", func := "loop.example/fathomline/laws.FnExactOrderRing", spec := "fnExactOrderRing", unfollowed := true, recurses := true, apart := false, narrowed := true }
def FnExactOrderRingUptoSaid : Prop := fnExactOrderRingUptoRow.holds Tryz.pinned (OpenSpec.upto fnExactOrderRingSpec)

/-- 'laws.FnOrderRing', WHERE WHAT IT READS IS OF BULK AT MOST 1048576: true; the input reads as it did. -/
def fnOrderRingUptoRow : OpenClaim := { program := "ytdningnhbplfiaagreat", sum := "6cb53452f5553fe2d6fedc754b4da9e8dbf289f9898e1660393dbce9c7c6d207", func := "loop.example/fathomline/laws.FnOrderRing", spec := "fnOrderRing", unfollowed := true, recurses := true, apart := false, narrowed := true }
def FnOrderRingUptoSaid : Prop := fnOrderRingUptoRow.holds Tryz.pinned (OpenSpec.upto fnOrderRingSpec)

/-- 'laws.FnExactOrderLine', WHERE WHAT IT READS IS OF BULK AT MOST 1048576: true; the input reads as it did. -/
def fnExactOrderLineUptoRow : OpenClaim := { program := "ytdningnhbplfiaagreat", sum := "6cb53452f5553fe2d6fedc754b4da9e8dbf289f9898e1660393dbce9c7c6d207", func := "loop.example/fathomline/laws.FnExactOrderLine", spec := "fnExactOrderLine", unfollowed := true, recurses := true, apart := false, narrowed := true }
def FnExactOrderLineUptoSaid : Prop := fnExactOrderLineUptoRow.holds Tryz.pinned (OpenSpec.upto fnExactOrderLineSpec)

/-- 'laws.FnOrderLine', WHERE WHAT IT READS IS OF BULK AT MOST 1048576: true; the input reads as it did. -/
def fnOrderLineUptoRow : OpenClaim := { program := "ytdningnhbplfiaagreat", sum := "6cb53452f5553fe2d6fedc754b4da9e8dbf289f9898e1660393dbce9c7c6d207", func := "loop.example/fathomline/laws.FnOrderLine", spec := "fnOrderLine", unfollowed := true, recurses := true, apart := false, narrowed := true }
def FnOrderLineUptoSaid : Prop := fnOrderLineUptoRow.holds Tryz.pinned (OpenSpec.upto fnOrderLineSpec)

/-- 'laws.FnOrderLineHolds', WHERE WHAT IT READS IS OF BULK AT MOST 1048576: true; the input reads as it did. -/
def fnOrderLineHoldsUptoRow : OpenClaim := { program := "ytdningnhbplfiaagreat", sum := "6cb53452f5553fe2d6fedc754b4da9e8dbf289f9898e1660393dbce9c7c6d207", func := "loop.example/fathomline/laws.FnOrderLineHolds", spec := "fnOrderLineHolds", unfollowed := true, recurses := true, apart := false, narrowed := true }
def FnOrderLineHoldsUptoSaid : Prop := fnOrderLineHoldsUptoRow.holds Tryz.pinned (OpenSpec.upto fnOrderLineHoldsSpec)

/-- 'laws.FnOrderLineWait', WHERE WHAT IT READS IS OF BULK AT MOST 1048576: true; the input reads as it did. -/
def fnOrderLineWaitUptoRow : OpenClaim := { program := "ytdningnhbplfiaagreat", sum := "6cb53452f5553fe2d6fedc754b4da9e8dbf289f9898e1660393dbce9c7c6d207", func := "loop.example/fathomline/laws.FnOrderLineWait", spec := "fnOrderLineWait", unfollowed := true, recurses := true, apart := false, narrowed := true }
def FnOrderLineWaitUptoSaid : Prop := fnOrderLineWaitUptoRow.holds Tryz.pinned (OpenSpec.upto fnOrderLineWaitSpec)

/-- 'laws.FnOrderRingNot', WHERE WHAT IT READS IS OF BULK AT MOST 1048576: true; the input reads as it did. -/
def fnOrderRingNotUptoRow : OpenClaim := { program := "ytdningnhbplfiaagreat", sum := "6cb53452f5553fe2d6fedc754b4da9e8dbf289f9898e1660393dbce9c7c6d207", func := "loop.example/fathomline/laws.FnOrderRingNot", spec := "fnOrderRingNot", unfollowed := true, recurses := true, apart := false, narrowed := true }
def FnOrderRingNotUptoSaid : Prop := fnOrderRingNotUptoRow.holds Tryz.pinned (OpenSpec.upto fnOrderRingNotSpec)

/-- 'laws.FnWhyLine', WHERE WHAT IT READS IS OF BULK AT MOST 1048576: true; the input reads as it did. -/
def fnWhyLineUptoRow : OpenClaim := { program := "ytdningnhbplfiaagreat", sum := "6cb53452f5553fe2d6fedc754b4da9e8dbf289f9898e1660393dbce9c7c6d207", func := "loop.example/fathomline/laws.FnWhyLine", spec := "fnWhyLine", unfollowed := true, recurses := true, apart := false, narrowed := true }
def FnWhyLineUptoSaid : Prop := fnWhyLineUptoRow.holds Tryz.pinned (OpenSpec.upto fnWhyLineSpec)

/-- 'laws.FnOrderSeen', WHERE WHAT IT READS IS OF BULK AT MOST 1048576: true; the input reads as it did. -/
def fnOrderSeenUptoRow : OpenClaim := { program := "ytdningnhbplfiaagreat", sum := "6cb53452f5553fe2d6fedc754b4da9e8dbf289f9898e1660393dbce9c7c6d207", func := "loop.example/fathomline/laws.FnOrderSeen", spec := "fnOrderSeen", unfollowed := true, recurses := true, apart := false, narrowed := true }
def FnOrderSeenUptoSaid : Prop := fnOrderSeenUptoRow.holds Tryz.pinned (OpenSpec.upto fnOrderSeenSpec)

end Rows
end Go.Proofs.YtdningnhbplfiaaGreat
