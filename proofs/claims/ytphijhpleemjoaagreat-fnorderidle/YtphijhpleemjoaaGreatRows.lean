/-
  No cell of these rows narrows 'for every input' (looked for: loops, veiled, ifaces, maps, wideKeys, modest, calm, conditions, laid).
  DERIVED. THE GIVEN ROWS OF THIS SEAT. 12 by the template 'for every input the law returns true; each argument reads behind the call as it read before'; 0 by the template 'total and deterministic' (their statements: YtphijhpleemjoaaGreatTotals.lean).
  GIVEN WITH THE SEED: the statements are not yours to turn. If you find one false, say at which input.
  Laid BY PROGRAM, IN A SANDBOX (cutbox-rows.mjs): the forced cells as the released guide's own fill.sh prints them over the translation edff2d2a1ce5dc41… (all of the seat's roots in one cut). By AI agents, Wed Nov 11 2026. No macro, syntax, notation, axiom, sorry.
-/
import Derived.Test.YtphijhpleemjoaaGreatChecked
import GoSem.Claim
import GoSem.ClaimJoined
import GoSem.ClaimMapViews
import Derived.JoinedTies
import Derived.KernelRfl
namespace Go.Proofs.YtphijhpleemjoaaGreat
/- THE CELL 'sum', in the pinned program and in every row, IS THE sha256 OF THE DUMP (.gsa) THAT YtphijhpleemjoaaGreatProg.lean LOADS. Nothing in Lean hashes anything: it is a label: what it is worth is what the hold of that sum in a sandbox is worth. -/
noncomputable def Tryz.pinned : Pinned := { name := "ytphijhpleemjoaagreat", sum := "edff2d2a1ce5dc412bf616514ca1d5ef168fd45817f8750bf71022492d15e6f0", checked := Tryz.checked }
namespace Rows
def none {H : Type} : Left H := { results := [], args := [] }

/-- 'laws.FnOrderMore': WHATEVER THE INPUT: true; the input reads as it did. -/
def fnOrderMoreSpec : ChangeSpec := { name := "fnOrderMore", fn := fun _ => fun
  | [d] => { results := [.lit (.bool true)], args := [d] }
  | _ => none }
def fnOrderMoreRow : OpenClaim := { program := "ytphijhpleemjoaagreat", sum := "edff2d2a1ce5dc412bf616514ca1d5ef168fd45817f8750bf71022492d15e6f0", func := "loop.example/fathomline/laws.FnOrderMore", spec := "fnOrderMore", unfollowed := true, recurses := true, apart := false }
def FnOrderMoreSaid : Prop := fnOrderMoreRow.holds Tryz.pinned (OpenSpec.ofChange fnOrderMoreSpec)

/-- ITS FALSE NEIGHBOUR: 'it returns false'. Refute it at one input. -/
def fnOrderMoreWrong : ChangeSpec := { name := "fnOrderMore", fn := fun _ => fun
  | [d] => { results := [.lit (.bool false)], args := [d] }
  | _ => none }
def FnOrderMoreWrongFalsely : Prop := fnOrderMoreRow.holds Tryz.pinned (OpenSpec.ofChange fnOrderMoreWrong)

/-- 'laws.FnOrderSeen': WHATEVER THE INPUT: true; the input reads as it did. -/
def fnOrderSeenSpec : ChangeSpec := { name := "fnOrderSeen", fn := fun _ => fun
  | [d] => { results := [.lit (.bool true)], args := [d] }
  | _ => none }
def fnOrderSeenRow : OpenClaim := { program := "ytphijhpleemjoaagreat", sum := "edff2d2a1ce5dc412bf616514ca1d5ef168fd45817f8750bf71022492d15e6f0", func := "loop.example/fathomline/laws.FnOrderSeen", spec := "fnOrderSeen", unfollowed := true, recurses := true, apart := false }
def FnOrderSeenSaid : Prop := fnOrderSeenRow.holds Tryz.pinned (OpenSpec.ofChange fnOrderSeenSpec)

/-- ITS FALSE NEIGHBOUR: 'it returns false'. Refute it at one input. -/
def fnOrderSeenWrong : ChangeSpec := { name := "fnOrderSeen", fn := fun _ => fun
  | [d] => { results := [.lit (.bool false)], args := [d] }
  | _ => none }
def FnOrderSeenWrongFalsely : Prop := fnOrderSeenRow.holds Tryz.pinned (OpenSpec.ofChange fnOrderSeenWrong)

/-- 'laws.FnOrderSome': WHATEVER THE INPUT: true; the input reads as it did. -/
def fnOrderSomeSpec : ChangeSpec := { name := "fnOrderSome", fn := fun _ => fun
  | [d] => { results := [.lit (.bool true)], args := [d] }
  | _ => none }
def fnOrderSomeRow : OpenClaim := { program := "ytphijhpleemjoaagreat", sum := "edff2d2a1ce5dc412bf616514ca1d5ef168fd45817f8750bf71022492d15e6f0", func := "loop.example/fathomline/laws.FnOrderSome", spec := "fnOrderSome", unfollowed := true, recurses := true, apart := false }
def FnOrderSomeSaid : Prop := fnOrderSomeRow.holds Tryz.pinned (OpenSpec.ofChange fnOrderSomeSpec)

/-- ITS FALSE NEIGHBOUR: 'it returns false'. Refute it at one input. -/
def fnOrderSomeWrong : ChangeSpec := { name := "fnOrderSome", fn := fun _ => fun
  | [d] => { results := [.lit (.bool false)], args := [d] }
  | _ => none }
def FnOrderSomeWrongFalsely : Prop := fnOrderSomeRow.holds Tryz.pinned (OpenSpec.ofChange fnOrderSomeWrong)

/-- 'laws.FnOrderOne': WHATEVER THE INPUT: true; the input reads as it did. -/
def fnOrderOneSpec : ChangeSpec := { name := "fnOrderOne", fn := fun _ => fun
  | [d] => { results := [.lit (.bool true)], args := [d] }
  | _ => none }
def fnOrderOneRow : OpenClaim := { program := "ytphijhpleemjoaagreat", sum := "edff2d2a1ce5dc412bf616514ca1d5ef168fd45817f8750bf71022492d15e6f0", func := "loop.example/fathomline/laws.FnOrderOne", spec := "fnOrderOne", unfollowed := true, recurses := true, apart := false }
def FnOrderOneSaid : Prop := fnOrderOneRow.holds Tryz.pinned (OpenSpec.ofChange fnOrderOneSpec)

/-- ITS FALSE NEIGHBOUR: 'it returns false'. Refute it at one input. -/
def fnOrderOneWrong : ChangeSpec := { name := "fnOrderOne", fn := fun _ => fun
  | [d] => { results := [.lit (.bool false)], args := [d] }
  | _ => none }
def FnOrderOneWrongFalsely : Prop := fnOrderOneRow.holds Tryz.pinned (OpenSpec.ofChange fnOrderOneWrong)

/-- 'laws.FnOrderIdle': WHATEVER THE INPUT: true; the input reads as it did. -/
def fnOrderIdleSpec : ChangeSpec := { name := "fnOrderIdle", fn := fun _ => fun
  | [d] => { results := [.lit (.bool true)], args := [d] }
  | _ => none }
def fnOrderIdleRow : OpenClaim := { program := "ytphijhpleemjoaagreat", sum := "edff2d2a1ce5dc412bf616514ca1d5ef168fd45817f8750bf71022492d15e6f0", func := "loop.example/fathomline/laws.FnOrderIdle", spec := "fnOrderIdle", unfollowed := true, recurses := true, apart := false }
def FnOrderIdleSaid : Prop := fnOrderIdleRow.holds Tryz.pinned (OpenSpec.ofChange fnOrderIdleSpec)

/-- ITS FALSE NEIGHBOUR: 'it returns false'. Refute it at one input. -/
def fnOrderIdleWrong : ChangeSpec := { name := "fnOrderIdle", fn := fun _ => fun
  | [d] => { results := [.lit (.bool false)], args := [d] }
  | _ => none }
def FnOrderIdleWrongFalsely : Prop := fnOrderIdleRow.holds Tryz.pinned (OpenSpec.ofChange fnOrderIdleWrong)

/-- 'laws.FnOrderAlone': WHATEVER THE INPUT: true; the input reads as it did. -/
def fnOrderAloneSpec : ChangeSpec := { name := "fnOrderAlone", fn := fun _ => fun
  | [d1, d2] => { results := [.lit (.bool true)], args := [d1, d2] }
  | _ => none }
def fnOrderAloneRow : OpenClaim := { program := "ytphijhpleemjoaagreat", sum := "edff2d2a1ce5dc412bf616514ca1d5ef168fd45817f8750bf71022492d15e6f0", func := "loop.example/fathomline/laws.FnOrderAlone", spec := "fnOrderAlone", unfollowed := true, recurses := true, apart := false }
def FnOrderAloneSaid : Prop := fnOrderAloneRow.holds Tryz.pinned (OpenSpec.ofChange fnOrderAloneSpec)

/-- ITS FALSE NEIGHBOUR: 'it returns false'. Refute it at one input. -/
def fnOrderAloneWrong : ChangeSpec := { name := "fnOrderAlone", fn := fun _ => fun
  | [d1, d2] => { results := [.lit (.bool false)], args := [d1, d2] }
  | _ => none }
def FnOrderAloneWrongFalsely : Prop := fnOrderAloneRow.holds Tryz.pinned (OpenSpec.ofChange fnOrderAloneWrong)

/-- 'laws.FnOrderRead': WHATEVER THE INPUT: true; the input reads as it did. -/
def fnOrderReadSpec : ChangeSpec := { name := "fnOrderRead", fn := fun _ => fun
  | [d] => { results := [.lit (.bool true)], args := [d] }
  | _ => none }
def fnOrderReadRow : OpenClaim := { program := "ytphijhpleemjoaagreat", sum := "edff2d2a1ce5dc412bf616514ca1d5ef168fd45817f8750bf71022492d15e6f0", func := "loop.example/fathomline/laws.FnOrderRead", spec := "fnOrderRead", unfollowed := true, recurses := true, apart := false }
def FnOrderReadSaid : Prop := fnOrderReadRow.holds Tryz.pinned (OpenSpec.ofChange fnOrderReadSpec)

/-- ITS FALSE NEIGHBOUR: 'it returns false'. Refute it at one input. -/
def fnOrderReadWrong : ChangeSpec := { name := "fnOrderRead", fn := fun _ => fun
  | [d] => { results := [.lit (.bool false)], args := [d] }
  | _ => none }
def FnOrderReadWrongFalsely : Prop := fnOrderReadRow.holds Tryz.pinned (OpenSpec.ofChange fnOrderReadWrong)

/-- 'laws.FnOrderStore': WHATEVER THE INPUT: true; the input reads as it did. -/
def fnOrderStoreSpec : ChangeSpec := { name := "fnOrderStore", fn := fun _ => fun
  | [d] => { results := [.lit (.bool true)], args := [d] }
  | _ => none }
def fnOrderStoreRow : OpenClaim := { program := "ytphijhpleemjoaagreat", sum := "edff2d2a1ce5dc412bf616514ca1d5ef168fd45817f8750bf71022492d15e6f0", func := "loop.example/fathomline/laws.FnOrderStore", spec := "fnOrderStore", unfollowed := true, recurses := true, apart := false }
def FnOrderStoreSaid : Prop := fnOrderStoreRow.holds Tryz.pinned (OpenSpec.ofChange fnOrderStoreSpec)

/-- ITS FALSE NEIGHBOUR: 'it returns false'. Refute it at one input. -/
def fnOrderStoreWrong : ChangeSpec := { name := "fnOrderStore", fn := fun _ => fun
  | [d] => { results := [.lit (.bool false)], args := [d] }
  | _ => none }
def FnOrderStoreWrongFalsely : Prop := fnOrderStoreRow.holds Tryz.pinned (OpenSpec.ofChange fnOrderStoreWrong)

/-- 'laws.FnOrderGive': WHATEVER THE INPUT: true; the input reads as it did. -/
def fnOrderGiveSpec : ChangeSpec := { name := "fnOrderGive", fn := fun _ => fun
  | [d1, d2] => { results := [.lit (.bool true)], args := [d1, d2] }
  | _ => none }
def fnOrderGiveRow : OpenClaim := { program := "ytphijhpleemjoaagreat", sum := "edff2d2a1ce5dc412bf616514ca1d5ef168fd45817f8750bf71022492d15e6f0", func := "loop.example/fathomline/laws.FnOrderGive", spec := "fnOrderGive", unfollowed := true, recurses := true, apart := false }
def FnOrderGiveSaid : Prop := fnOrderGiveRow.holds Tryz.pinned (OpenSpec.ofChange fnOrderGiveSpec)

/-- ITS FALSE NEIGHBOUR: 'it returns false'. Refute it at one input. -/
def fnOrderGiveWrong : ChangeSpec := { name := "fnOrderGive", fn := fun _ => fun
  | [d1, d2] => { results := [.lit (.bool false)], args := [d1, d2] }
  | _ => none }
def FnOrderGiveWrongFalsely : Prop := fnOrderGiveRow.holds Tryz.pinned (OpenSpec.ofChange fnOrderGiveWrong)

/-- 'laws.FnOrderTake': WHATEVER THE INPUT: true; the input reads as it did. -/
def fnOrderTakeSpec : ChangeSpec := { name := "fnOrderTake", fn := fun _ => fun
  | [d1, d2] => { results := [.lit (.bool true)], args := [d1, d2] }
  | _ => none }
def fnOrderTakeRow : OpenClaim := { program := "ytphijhpleemjoaagreat", sum := "edff2d2a1ce5dc412bf616514ca1d5ef168fd45817f8750bf71022492d15e6f0", func := "loop.example/fathomline/laws.FnOrderTake", spec := "fnOrderTake", unfollowed := true, recurses := true, apart := false }
def FnOrderTakeSaid : Prop := fnOrderTakeRow.holds Tryz.pinned (OpenSpec.ofChange fnOrderTakeSpec)

/-- ITS FALSE NEIGHBOUR: 'it returns false'. Refute it at one input. -/
def fnOrderTakeWrong : ChangeSpec := { name := "fnOrderTake", fn := fun _ => fun
  | [d1, d2] => { results := [.lit (.bool false)], args := [d1, d2] }
  | _ => none }
def FnOrderTakeWrongFalsely : Prop := fnOrderTakeRow.holds Tryz.pinned (OpenSpec.ofChange fnOrderTakeWrong)

/-- 'laws.FnOrderFirst': WHATEVER THE INPUT: true; the input reads as it did. -/
def fnOrderFirstSpec : ChangeSpec := { name := "fnOrderFirst", fn := fun _ => fun
  | [d] => { results := [.lit (.bool true)], args := [d] }
  | _ => none }
def fnOrderFirstRow : OpenClaim := { program := "ytphijhpleemjoaagreat", sum := "edff2d2a1ce5dc412bf616514ca1d5ef168fd45817f8750bf71022492d15e6f0", func := "loop.example/fathomline/laws.FnOrderFirst", spec := "fnOrderFirst", unfollowed := true, recurses := true, apart := false }
def FnOrderFirstSaid : Prop := fnOrderFirstRow.holds Tryz.pinned (OpenSpec.ofChange fnOrderFirstSpec)

/-- ITS FALSE NEIGHBOUR: 'it returns false'. Refute it at one input. -/
def fnOrderFirstWrong : ChangeSpec := { name := "fnOrderFirst", fn := fun _ => fun
  | [d] => { results := [.lit (.bool false)], args := [d] }
  | _ => none }
def FnOrderFirstWrongFalsely : Prop := fnOrderFirstRow.holds Tryz.pinned (OpenSpec.ofChange fnOrderFirstWrong)

/-- 'laws.FnExactOrderAll': WHATEVER THE INPUT: true; the input reads as it did. -/
def fnExactOrderAllSpec : ChangeSpec := { name := "fnExactOrderAll", fn := fun _ => fun
  | [d1, d2] => { results := [.lit (.bool true)], args := [d1, d2] }
  | _ => none }
def fnExactOrderAllRow : OpenClaim := { program := "ytphijhpleemjoaagreat", sum := "edff2d2a1ce5dc412bf616514ca1d5ef168fd45817f8750bf71022492d15e6f0", func := "loop.example/fathomline/laws.FnExactOrderAll", spec := "fnExactOrderAll", unfollowed := true, recurses := true, apart := false }
def FnExactOrderAllSaid : Prop := fnExactOrderAllRow.holds Tryz.pinned (OpenSpec.ofChange fnExactOrderAllSpec)

/-- ITS FALSE NEIGHBOUR: 'it returns false'. Refute it at one input. -/
def fnExactOrderAllWrong : ChangeSpec := { name := "fnExactOrderAll", fn := fun _ => fun
  | [d1, d2] => { results := [.lit (.bool false)], args := [d1, d2] }
  | _ => none }
def FnExactOrderAllWrongFalsely : Prop := fnExactOrderAllRow.holds Tryz.pinned (OpenSpec.ofChange fnExactOrderAllWrong)

/- THE SECOND FORM. 'bulk': how many values and letters a reading holds, each counted each time it is reached (what is shared counts as often as it is met; a slice's spare places count too). A statement '..UptoSaid' is the law's where the arguments, and the package variables that the reading takes, are together of bulk at most 1048576: NARROWER than '..Said'. Prove '..Said' where nothing that the law and all that it calls make is longer than what came in: it says more and counts as full. Else prove '..UptoSaid'. A law counts once. -/
mutual
def uptoBulk {H : Type} : DataW H → Nat
  | .lit (.string bytes) => bytes.length + 1
  | .lit _ => 1
  | .nil => 1
  | .ptr d => uptoBulk d + 1
  | .slice elems spare => uptoBulkAll elems + uptoBulkAll spare + 1
  | .agg parts => uptoBulkAll parts + 1
  | .iface _ d => uptoBulk d + 1
  | .map entries => uptoBulkEntries entries + 1
  | .held _ => 1
def uptoBulkAll {H : Type} : List (DataW H) → Nat
  | [] => 0
  | d :: r => uptoBulk d + uptoBulkAll r
def uptoBulkEntries {H : Type} : List (Lit × DataW H) → Nat
  | [] => 0
  | x :: r => uptoBulkEntry x + uptoBulkEntries r
def uptoBulkEntry {H : Type} : Lit × DataW H → Nat
  | (.string bytes, d) => bytes.length + uptoBulk d + 1
  | (_, d) => uptoBulk d + 1
 end
def uptoSmall : (H : Type) → List (DataW H) → Bool := fun _ ds => decide (uptoBulkAll ds ≤ 1048576)
def OpenSpec.upto (s : _root_.Go.ChangeSpec) : _root_.Go.OpenSpec := { _root_.Go.OpenSpec.ofChange s with cond := some uptoSmall }

/-- 'laws.FnOrderMore', WHERE WHAT IT READS IS OF BULK AT MOST 1048576: true; the input reads as it did. -/
def fnOrderMoreUptoRow : OpenClaim := { program := "ytphijhpleemjoaagreat", sum := "edff2d2a1ce5dc412bf616514ca1d5ef168fd45817f8750bf71022492d15e6f0", func := "loop.example/fathomline/laws.FnOrderMore", spec := "fnOrderMore", unfollowed := true, recurses := true, apart := false, narrowed := true }
def FnOrderMoreUptoSaid : Prop := fnOrderMoreUptoRow.holds Tryz.pinned (OpenSpec.upto fnOrderMoreSpec)

/-- 'laws.FnOrderSeen', WHERE WHAT IT READS IS OF BULK AT MOST 1048576: true; the input reads as it did. -/
def fnOrderSeenUptoRow : OpenClaim := { program := "ytphijhpleemjoaagreat", sum := "edff2d2a1ce5dc412bf616514ca1d5ef168fd45817f8750bf71022492d15e6f0", func := "loop.example/fathomline/laws.FnOrderSeen", spec := "fnOrderSeen", unfollowed := true, recurses := true, apart := false, narrowed := true }
def FnOrderSeenUptoSaid : Prop := fnOrderSeenUptoRow.holds Tryz.pinned (OpenSpec.upto fnOrderSeenSpec)

/-- 'laws.FnOrderSome', WHERE WHAT IT READS IS OF BULK AT MOST 1048576: true; the input reads as it did. -/
def fnOrderSomeUptoRow : OpenClaim := { program := "ytphijhpleemjoaagreat", sum := "edff2d2a1ce5dc412bf616514ca1d5ef168fd45817f8750bf71022492d15e6f0", func := "loop.example/fathomline/laws.FnOrderSome", spec := "fnOrderSome", unfollowed := true, recurses := true, apart := false, narrowed := true }
def FnOrderSomeUptoSaid : Prop := fnOrderSomeUptoRow.holds Tryz.pinned (OpenSpec.upto fnOrderSomeSpec)

/-- 'laws.FnOrderOne', WHERE WHAT IT READS IS OF BULK AT MOST 1048576: true; the input reads as it did. -/
def fnOrderOneUptoRow : OpenClaim := { program := "ytphijhpleemjoaagreat", sum := "edff2d2a1ce5dc412bf616514ca1d5ef168fd45817f8750bf71022492d15e6f0", func := "loop.example/fathomline/laws.FnOrderOne", spec := "fnOrderOne", unfollowed := true, recurses := true, apart := false, narrowed := true }
def FnOrderOneUptoSaid : Prop := fnOrderOneUptoRow.holds Tryz.pinned (OpenSpec.upto fnOrderOneSpec)

/-- 'laws.FnOrderIdle', WHERE WHAT IT READS IS OF BULK AT MOST 1048576: true; the input reads as it did. -/
def fnOrderIdleUptoRow : OpenClaim := { program := "ytphijhpleemjoaagreat", sum := "edff2d2a1ce5dc412bf616514ca1d5ef168fd45817f8750bf71022492d15e6f0", func := "loop.example/fathomline/laws.FnOrderIdle", spec := "fnOrderIdle", unfollowed := true, recurses := true, apart := false, narrowed := true }
def FnOrderIdleUptoSaid : Prop := fnOrderIdleUptoRow.holds Tryz.pinned (OpenSpec.upto fnOrderIdleSpec)

/-- 'laws.FnOrderAlone', WHERE WHAT IT READS IS OF BULK AT MOST 1048576: true; the input reads as it did. -/
def fnOrderAloneUptoRow : OpenClaim := { program := "ytphijhpleemjoaagreat", sum := "edff2d2a1ce5dc412bf616514ca1d5ef168fd45817f8750bf71022492d15e6f0", func := "loop.example/fathomline/laws.FnOrderAlone", spec := "fnOrderAlone", unfollowed := true, recurses := true, apart := false, narrowed := true }
def FnOrderAloneUptoSaid : Prop := fnOrderAloneUptoRow.holds Tryz.pinned (OpenSpec.upto fnOrderAloneSpec)

/-- 'laws.FnOrderRead', WHERE WHAT IT READS IS OF BULK AT MOST 1048576: true; the input reads as it did. -/
def fnOrderReadUptoRow : OpenClaim := { program := "ytphijhpleemjoaagreat", sum := "edff2d2a1ce5dc412bf616514ca1d5ef168fd45817f8750bf71022492d15e6f0", func := "loop.example/fathomline/laws.FnOrderRead", spec := "fnOrderRead", unfollowed := true, recurses := true, apart := false, narrowed := true }
def FnOrderReadUptoSaid : Prop := fnOrderReadUptoRow.holds Tryz.pinned (OpenSpec.upto fnOrderReadSpec)

/-- 'laws.FnOrderStore', WHERE WHAT IT READS IS OF BULK AT MOST 1048576: true; the input reads as it did. -/
def fnOrderStoreUptoRow : OpenClaim := { program := "ytphijhpleemjoaagreat", sum := "edff2d2a1ce5dc412bf616514ca1d5ef168fd45817f8750bf71022492d15e6f0", func := "loop.example/fathomline/laws.FnOrderStore", spec := "fnOrderStore", unfollowed := true, recurses := true, apart := false, narrowed := true }
def FnOrderStoreUptoSaid : Prop := fnOrderStoreUptoRow.holds Tryz.pinned (OpenSpec.upto fnOrderStoreSpec)

/-- 'laws.FnOrderGive', WHERE WHAT IT READS IS OF BULK AT MOST 1048576: true; the input reads as it did. -/
def fnOrderGiveUptoRow : OpenClaim := { program := "ytphijhpleemjoaagreat", sum := "edff2d2a1ce5dc412bf616514ca1d5ef168fd45817f8750bf71022492d15e6f0", func := "loop.example/fathomline/laws.FnOrderGive", spec := "fnOrderGive", unfollowed := true, recurses := true, apart := false, narrowed := true }
def FnOrderGiveUptoSaid : Prop := fnOrderGiveUptoRow.holds Tryz.pinned (OpenSpec.upto fnOrderGiveSpec)

/-- 'laws.FnOrderTake', WHERE WHAT IT READS IS OF BULK AT MOST 1048576: true; the input reads as it did. -/
def fnOrderTakeUptoRow : OpenClaim := { program := "ytphijhpleemjoaagreat", sum := "edff2d2a1ce5dc412bf616514ca1d5ef168fd45817f8750bf71022492d15e6f0", func := "loop.example/fathomline/laws.FnOrderTake", spec := "fnOrderTake", unfollowed := true, recurses := true, apart := false, narrowed := true }
def FnOrderTakeUptoSaid : Prop := fnOrderTakeUptoRow.holds Tryz.pinned (OpenSpec.upto fnOrderTakeSpec)

/-- 'laws.FnOrderFirst', WHERE WHAT IT READS IS OF BULK AT MOST 1048576: true; the input reads as it did. -/
def fnOrderFirstUptoRow : OpenClaim := { program := "ytphijhpleemjoaagreat", sum := "edff2d2a1ce5dc412bf616514ca1d5ef168fd45817f8750bf71022492d15e6f0", func := "loop.example/fathomline/laws.FnOrderFirst", spec := "fnOrderFirst", unfollowed := true, recurses := true, apart := false, narrowed := true }
def FnOrderFirstUptoSaid : Prop := fnOrderFirstUptoRow.holds Tryz.pinned (OpenSpec.upto fnOrderFirstSpec)

/-- 'laws.FnExactOrderAll', WHERE WHAT IT READS IS OF BULK AT MOST 1048576: true; the input reads as it did. -/
def fnExactOrderAllUptoRow : OpenClaim := { program := "ytphijhpleemjoaagreat", sum := "edff2d2a1ce5dc412bf616514ca1d5ef168fd45817f8750bf71022492d15e6f0", func := "loop.example/fathomline/laws.FnExactOrderAll", spec := "fnExactOrderAll", unfollowed := true, recurses := true, apart := false, narrowed := true }
def FnExactOrderAllUptoSaid : Prop := fnExactOrderAllUptoRow.holds Tryz.pinned (OpenSpec.upto fnExactOrderAllSpec)

end Rows
end Go.Proofs.YtphijhpleemjoaaGreat
