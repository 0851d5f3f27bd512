/-
  No cell of these rows narrows 'for every input' (looked for: loops, veiled, ifaces, maps, wideKeys, modest, calm, conditions, laid).
  DERIVED. THE GIVEN ROWS OF THIS SEAT. 11 by the template 'for every input the law returns true; each argument reads behind the call as it read before'; 0 by the template 'total and deterministic' (their statements: YtjjkicffhpcngaaGreatTotals.lean).
  GIVEN WITH THE SEED: the statements are not yours to turn. If you find one false, say at which input.
  Laid BY PROGRAM, IN A SANDBOX (cutbox-rows.mjs): the forced cells as the released guide's own fill.sh prints them over the translation 27e8a1ee78f2831d… (all of the seat's roots in one cut). By AI agents, Wed Nov 11 2026. No macro, syntax, notation, axiom, sorry.
-/
import Derived.Test.YtjjkicffhpcngaaGreatChecked
import GoSem.Claim
import GoSem.ClaimJoined
import GoSem.ClaimMapViews
import Derived.JoinedTies
import Derived.KernelRfl
namespace Go.Proofs.YtjjkicffhpcngaaGreat
/- THE CELL 'sum', in the pinned program and in every row, IS THE sha256 OF THE DUMP (.gsa) THAT YtjjkicffhpcngaaGreatProg.lean LOADS. Nothing in Lean hashes anything: it is a label: what it is worth is what the hold of that sum in a sandbox is worth. -/
noncomputable def Tryz.pinned : Pinned := { name := "ytjjkicffhpcngaagreat", sum := "27e8a1ee78f2831d6291a705c9280b4fe43c7137ed0819f65b98bcfd7c66f19e", checked := Tryz.checked }
namespace Rows
def none {H : Type} : Left H := { results := [], args := [] }

/-- 'laws.FnWallAll': WHATEVER THE INPUT: true; the input reads as it did. -/
def fnWallAllSpec : ChangeSpec := { name := "fnWallAll", fn := fun _ => fun
  | [d] => { results := [.lit (.bool true)], args := [d] }
  | _ => none }
def fnWallAllRow : OpenClaim := { program := "ytjjkicffhpcngaagreat", sum := "27e8a1ee78f2831d6291a705c9280b4fe43c7137ed0819f65b98bcfd7c66f19e", func := "loop.example/fathomline/laws.FnWallAll", spec := "fnWallAll", unfollowed := true, recurses := true, apart := false }
def FnWallAllSaid : Prop := fnWallAllRow.holds Tryz.pinned (OpenSpec.ofChange fnWallAllSpec)

/-- ITS FALSE NEIGHBOUR: 'it returns false'. Refute it at one input. -/
def fnWallAllWrong : ChangeSpec := { name := "fnWallAll", fn := fun _ => fun
  | [d] => { results := [.lit (.bool false)], args := [d] }
  | _ => none }
def FnWallAllWrongFalsely : Prop := fnWallAllRow.holds Tryz.pinned (OpenSpec.ofChange fnWallAllWrong)

/-- 'laws.FnOrderWall': WHATEVER THE INPUT: true; the input reads as it did. -/
def fnOrderWallSpec : ChangeSpec := { name := "fnOrderWall", fn := fun _ => fun
  | [d1, d2] => { results := [.lit (.bool true)], args := [d1, d2] }
  | _ => none }
def fnOrderWallRow : OpenClaim := { program := "ytjjkicffhpcngaagreat", sum := "27e8a1ee78f2831d6291a705c9280b4fe43c7137ed0819f65b98bcfd7c66f19e", func := "loop.example/fathomline/laws.FnOrderWall", spec := "fnOrderWall", unfollowed := true, recurses := true, apart := false }
def FnOrderWallSaid : Prop := fnOrderWallRow.holds Tryz.pinned (OpenSpec.ofChange fnOrderWallSpec)

/-- ITS FALSE NEIGHBOUR: 'it returns false'. Refute it at one input. -/
def fnOrderWallWrong : ChangeSpec := { name := "fnOrderWall", fn := fun _ => fun
  | [d1, d2] => { results := [.lit (.bool false)], args := [d1, d2] }
  | _ => none }
def FnOrderWallWrongFalsely : Prop := fnOrderWallRow.holds Tryz.pinned (OpenSpec.ofChange fnOrderWallWrong)

/-- 'laws.FnOrderPlain': WHATEVER THE INPUT: true; the input reads as it did. -/
def fnOrderPlainSpec : ChangeSpec := { name := "fnOrderPlain", fn := fun _ => fun
  | [d] => { results := [.lit (.bool true)], args := [d] }
  | _ => none }
def fnOrderPlainRow : OpenClaim := { program := "ytjjkicffhpcngaagreat", sum := "27e8a1ee78f2831d6291a705c9280b4fe43c7137ed0819f65b98bcfd7c66f19e", func := "loop.example/fathomline/laws.FnOrderPlain", spec := "fnOrderPlain", unfollowed := true, recurses := true, apart := false }
def FnOrderPlainSaid : Prop := fnOrderPlainRow.holds Tryz.pinned (OpenSpec.ofChange fnOrderPlainSpec)

/-- ITS FALSE NEIGHBOUR: 'it returns false'. Refute it at one input. -/
def fnOrderPlainWrong : ChangeSpec := { name := "fnOrderPlain", fn := fun _ => fun
  | [d] => { results := [.lit (.bool false)], args := [d] }
  | _ => none }
def FnOrderPlainWrongFalsely : Prop := fnOrderPlainRow.holds Tryz.pinned (OpenSpec.ofChange fnOrderPlainWrong)

/-- 'laws.FnOrderReader': WHATEVER THE INPUT: true; the input reads as it did. -/
def fnOrderReaderSpec : ChangeSpec := { name := "fnOrderReader", fn := fun _ => fun
  | [d1, d2] => { results := [.lit (.bool true)], args := [d1, d2] }
  | _ => none }
def fnOrderReaderRow : OpenClaim := { program := "ytjjkicffhpcngaagreat", sum := "27e8a1ee78f2831d6291a705c9280b4fe43c7137ed0819f65b98bcfd7c66f19e", func := "loop.example/fathomline/laws.FnOrderReader", spec := "fnOrderReader", unfollowed := true, recurses := true, apart := false }
def FnOrderReaderSaid : Prop := fnOrderReaderRow.holds Tryz.pinned (OpenSpec.ofChange fnOrderReaderSpec)

/-- ITS FALSE NEIGHBOUR: 'it returns false'. Refute it at one input. -/
def fnOrderReaderWrong : ChangeSpec := { name := "fnOrderReader", fn := fun _ => fun
  | [d1, d2] => { results := [.lit (.bool false)], args := [d1, d2] }
  | _ => none }
def FnOrderReaderWrongFalsely : Prop := fnOrderReaderRow.holds Tryz.pinned (OpenSpec.ofChange fnOrderReaderWrong)

/-- 'laws.FnOrderInside': WHATEVER THE INPUT: true; the input reads as it did. -/
def fnOrderInsideSpec : ChangeSpec := { name := "fnOrderInside", fn := fun _ => fun
  | [d1, d2] => { results := [.lit (.bool true)], args := [d1, d2] }
  | _ => none }
def fnOrderInsideRow : OpenClaim := { program := "ytjjkicffhpcngaagreat", sum := "27e8a1ee78f2831d6291a705c9280b4fe43c7137ed0819f65b98bcfd7c66f19e", func := "loop.example/fathomline/laws.FnOrderInside", spec := "fnOrderInside", unfollowed := true, recurses := true, apart := false }
def FnOrderInsideSaid : Prop := fnOrderInsideRow.holds Tryz.pinned (OpenSpec.ofChange fnOrderInsideSpec)

/-- ITS FALSE NEIGHBOUR: 'it returns false'. Refute it at one input. -/
def fnOrderInsideWrong : ChangeSpec := { name := "fnOrderInside", fn := fun _ => fun
  | [d1, d2] => { results := [.lit (.bool false)], args := [d1, d2] }
  | _ => none }
def FnOrderInsideWrongFalsely : Prop := fnOrderInsideRow.holds Tryz.pinned (OpenSpec.ofChange fnOrderInsideWrong)

/-- 'laws.FnOrderWaitWall': WHATEVER THE INPUT: true; the input reads as it did. -/
def fnOrderWaitWallSpec : ChangeSpec := { name := "fnOrderWaitWall", fn := fun _ => fun
  | [d1, d2] => { results := [.lit (.bool true)], args := [d1, d2] }
  | _ => none }
def fnOrderWaitWallRow : OpenClaim := { program := "ytjjkicffhpcngaagreat", sum := "27e8a1ee78f2831d6291a705c9280b4fe43c7137ed0819f65b98bcfd7c66f19e", func := "loop.example/fathomline/laws.FnOrderWaitWall", spec := "fnOrderWaitWall", unfollowed := true, recurses := true, apart := false }
def FnOrderWaitWallSaid : Prop := fnOrderWaitWallRow.holds Tryz.pinned (OpenSpec.ofChange fnOrderWaitWallSpec)

/-- ITS FALSE NEIGHBOUR: 'it returns false'. Refute it at one input. -/
def fnOrderWaitWallWrong : ChangeSpec := { name := "fnOrderWaitWall", fn := fun _ => fun
  | [d1, d2] => { results := [.lit (.bool false)], args := [d1, d2] }
  | _ => none }
def FnOrderWaitWallWrongFalsely : Prop := fnOrderWaitWallRow.holds Tryz.pinned (OpenSpec.ofChange fnOrderWaitWallWrong)

/-- 'laws.FnOrderWallTwice': WHATEVER THE INPUT: true; the input reads as it did. -/
def fnOrderWallTwiceSpec : ChangeSpec := { name := "fnOrderWallTwice", fn := fun _ => fun
  | [d1, d2] => { results := [.lit (.bool true)], args := [d1, d2] }
  | _ => none }
def fnOrderWallTwiceRow : OpenClaim := { program := "ytjjkicffhpcngaagreat", sum := "27e8a1ee78f2831d6291a705c9280b4fe43c7137ed0819f65b98bcfd7c66f19e", func := "loop.example/fathomline/laws.FnOrderWallTwice", spec := "fnOrderWallTwice", unfollowed := true, recurses := true, apart := false }
def FnOrderWallTwiceSaid : Prop := fnOrderWallTwiceRow.holds Tryz.pinned (OpenSpec.ofChange fnOrderWallTwiceSpec)

/-- ITS FALSE NEIGHBOUR: 'it returns false'. Refute it at one input. -/
def fnOrderWallTwiceWrong : ChangeSpec := { name := "fnOrderWallTwice", fn := fun _ => fun
  | [d1, d2] => { results := [.lit (.bool false)], args := [d1, d2] }
  | _ => none }
def FnOrderWallTwiceWrongFalsely : Prop := fnOrderWallTwiceRow.holds Tryz.pinned (OpenSpec.ofChange fnOrderWallTwiceWrong)

/-- 'laws.FnOrderRead': WHATEVER THE INPUT: true; the input reads as it did. -/
def fnOrderReadSpec : ChangeSpec := { name := "fnOrderRead", fn := fun _ => fun
  | [d] => { results := [.lit (.bool true)], args := [d] }
  | _ => none }
def fnOrderReadRow : OpenClaim := { program := "ytjjkicffhpcngaagreat", sum := "27e8a1ee78f2831d6291a705c9280b4fe43c7137ed0819f65b98bcfd7c66f19e", func := "loop.example/fathomline/laws.FnOrderRead", spec := "fnOrderRead", unfollowed := true, recurses := true, apart := false }
def FnOrderReadSaid : Prop := fnOrderReadRow.holds Tryz.pinned (OpenSpec.ofChange fnOrderReadSpec)

/-- ITS FALSE NEIGHBOUR: 'it returns false'. Refute it at one input. -/
def fnOrderReadWrong : ChangeSpec := { name := "fnOrderRead", fn := fun _ => fun
  | [d] => { results := [.lit (.bool false)], args := [d] }
  | _ => none }
def FnOrderReadWrongFalsely : Prop := fnOrderReadRow.holds Tryz.pinned (OpenSpec.ofChange fnOrderReadWrong)

/-- 'laws.FnOrderStore': WHATEVER THE INPUT: true; the input reads as it did. -/
def fnOrderStoreSpec : ChangeSpec := { name := "fnOrderStore", fn := fun _ => fun
  | [d] => { results := [.lit (.bool true)], args := [d] }
  | _ => none }
def fnOrderStoreRow : OpenClaim := { program := "ytjjkicffhpcngaagreat", sum := "27e8a1ee78f2831d6291a705c9280b4fe43c7137ed0819f65b98bcfd7c66f19e", func := "loop.example/fathomline/laws.FnOrderStore", spec := "fnOrderStore", unfollowed := true, recurses := true, apart := false }
def FnOrderStoreSaid : Prop := fnOrderStoreRow.holds Tryz.pinned (OpenSpec.ofChange fnOrderStoreSpec)

/-- ITS FALSE NEIGHBOUR: 'it returns false'. Refute it at one input. -/
def fnOrderStoreWrong : ChangeSpec := { name := "fnOrderStore", fn := fun _ => fun
  | [d] => { results := [.lit (.bool false)], args := [d] }
  | _ => none }
def FnOrderStoreWrongFalsely : Prop := fnOrderStoreRow.holds Tryz.pinned (OpenSpec.ofChange fnOrderStoreWrong)

/-- 'laws.FnOrderGive': WHATEVER THE INPUT: true; the input reads as it did. -/
def fnOrderGiveSpec : ChangeSpec := { name := "fnOrderGive", fn := fun _ => fun
  | [d1, d2] => { results := [.lit (.bool true)], args := [d1, d2] }
  | _ => none }
def fnOrderGiveRow : OpenClaim := { program := "ytjjkicffhpcngaagreat", sum := "27e8a1ee78f2831d6291a705c9280b4fe43c7137ed0819f65b98bcfd7c66f19e", func := "loop.example/fathomline/laws.FnOrderGive", spec := "fnOrderGive", unfollowed := true, recurses := true, apart := false }
def FnOrderGiveSaid : Prop := fnOrderGiveRow.holds Tryz.pinned (OpenSpec.ofChange fnOrderGiveSpec)

/-- ITS FALSE NEIGHBOUR: 'it returns false'. Refute it at one input. -/
def fnOrderGiveWrong : ChangeSpec := { name := "fnOrderGive", fn := fun _ => fun
  | [d1, d2] => { results := [.lit (.bool false)], args := [d1, d2] }
  | _ => none }
def FnOrderGiveWrongFalsely : Prop := fnOrderGiveRow.holds Tryz.pinned (OpenSpec.ofChange fnOrderGiveWrong)

/-- 'laws.FnOrderTake': WHATEVER THE INPUT: true; the input reads as it did. -/
def fnOrderTakeSpec : ChangeSpec := { name := "fnOrderTake", fn := fun _ => fun
  | [d1, d2] => { results := [.lit (.bool true)], args := [d1, d2] }
  | _ => none }
def fnOrderTakeRow : OpenClaim := { program := "ytjjkicffhpcngaagreat", sum := "27e8a1ee78f2831d6291a705c9280b4fe43c7137ed0819f65b98bcfd7c66f19e", func := "loop.example/fathomline/laws.FnOrderTake", spec := "fnOrderTake", unfollowed := true, recurses := true, apart := false }
def FnOrderTakeSaid : Prop := fnOrderTakeRow.holds Tryz.pinned (OpenSpec.ofChange fnOrderTakeSpec)

/-- ITS FALSE NEIGHBOUR: 'it returns false'. Refute it at one input. -/
def fnOrderTakeWrong : ChangeSpec := { name := "fnOrderTake", fn := fun _ => fun
  | [d1, d2] => { results := [.lit (.bool false)], args := [d1, d2] }
  | _ => none }
def FnOrderTakeWrongFalsely : Prop := fnOrderTakeRow.holds Tryz.pinned (OpenSpec.ofChange fnOrderTakeWrong)

/- THE SECOND FORM. 'bulk': how many values and letters a reading holds, each counted each time it is reached (what is shared counts as often as it is met; a slice's spare places count too). A statement '..UptoSaid' is the law's where the arguments, and the package variables that the reading takes, are together of bulk at most 1048576: NARROWER than '..Said'. Prove '..Said' where nothing that the law and all that it calls make is longer than what came in: it says more and counts as full. Else prove '..UptoSaid'. A law counts once. -/
mutual
def uptoBulk {H : Type} : DataW H → Nat
  | .lit (.string bytes) => bytes.length + 1
  | .lit _ => 1
  | .nil => 1
  | .ptr d => uptoBulk d + 1
  | .slice elems spare => uptoBulkAll elems + uptoBulkAll spare + 1
  | .agg parts => uptoBulkAll parts + 1
  | .iface _ d => uptoBulk d + 1
  | .map entries => uptoBulkEntries entries + 1
  | .held _ => 1
def uptoBulkAll {H : Type} : List (DataW H) → Nat
  | [] => 0
  | d :: r => uptoBulk d + uptoBulkAll r
def uptoBulkEntries {H : Type} : List (Lit × DataW H) → Nat
  | [] => 0
  | x :: r => uptoBulkEntry x + uptoBulkEntries r
def uptoBulkEntry {H : Type} : Lit × DataW H → Nat
  | (.string bytes, d) => bytes.length + uptoBulk d + 1
  | (_, d) => uptoBulk d + 1
 end
def uptoSmall : (H : Type) → List (DataW H) → Bool := fun _ ds => decide (uptoBulkAll ds ≤ 1048576)
def OpenSpec.upto (s : _root_.Go.ChangeSpec) : _root_.Go.OpenSpec := { _root_.Go.OpenSpec.ofChange s with cond := some uptoSmall }

/-- 'laws.FnWallAll', WHERE WHAT IT READS IS OF BULK AT MOST 1048576: true; the input reads as it did. -/
def fnWallAllUptoRow : OpenClaim := { program := "ytjjkicffhpcngaagreat", sum := "27e8a1ee78f2831d6291a705c9280b4fe43c7137ed0819f65b98bcfd7c66f19e", func := "loop.example/fathomline/laws.FnWallAll", spec := "fnWallAll", unfollowed := true, recurses := true, apart := false, narrowed := true }
def FnWallAllUptoSaid : Prop := fnWallAllUptoRow.holds Tryz.pinned (OpenSpec.upto fnWallAllSpec)

/-- 'laws.FnOrderWall', WHERE WHAT IT READS IS OF BULK AT MOST 1048576: true; the input reads as it did. -/
def fnOrderWallUptoRow : OpenClaim := { program := "ytjjkicffhpcngaagreat", sum := "27e8a1ee78f2831d6291a705c9280b4fe43c7137ed0819f65b98bcfd7c66f19e", func := "loop.example/fathomline/laws.FnOrderWall", spec := "fnOrderWall", unfollowed := true, recurses := true, apart := false, narrowed := true }
def FnOrderWallUptoSaid : Prop := fnOrderWallUptoRow.holds Tryz.pinned (OpenSpec.upto fnOrderWallSpec)

/-- 'laws.FnOrderPlain', WHERE WHAT IT READS IS OF BULK AT MOST 1048576: true; the input reads as it did. -/
def fnOrderPlainUptoRow : OpenClaim := { program := "ytjjkicffhpcngaagreat", sum := "27e8a1ee78f2831d6291a705c9280b4fe43c7137ed0819f65b98bcfd7c66f19e", func := "loop.example/fathomline/laws.FnOrderPlain", spec := "fnOrderPlain", unfollowed := true, recurses := true, apart := false, narrowed := true }
def FnOrderPlainUptoSaid : Prop := fnOrderPlainUptoRow.holds Tryz.pinned (OpenSpec.upto fnOrderPlainSpec)

/-- 'laws.FnOrderReader', WHERE WHAT IT READS IS OF BULK AT MOST 1048576: true; the input reads as it did. -/
def fnOrderReaderUptoRow : OpenClaim := { program := "ytjjkicffhpcngaagreat", sum := "27e8a1ee78f2831d6291a705c9280b4fe43c7137ed0819f65b98bcfd7c66f19e", func := "loop.example/fathomline/laws.FnOrderReader", spec := "fnOrderReader", unfollowed := true, recurses := true, apart := false, narrowed := true }
def FnOrderReaderUptoSaid : Prop := fnOrderReaderUptoRow.holds Tryz.pinned (OpenSpec.upto fnOrderReaderSpec)

/-- 'laws.FnOrderInside', WHERE WHAT IT READS IS OF BULK AT MOST 1048576: true; the input reads as it did. -/
def fnOrderInsideUptoRow : OpenClaim := { program := "ytjjkicffhpcngaagreat", sum := "27e8a1ee78f2831d6291a705c9280b4fe43c7137ed0819f65b98bcfd7c66f19e", func := "loop.example/fathomline/laws.FnOrderInside", spec := "fnOrderInside", unfollowed := true, recurses := true, apart := false, narrowed := true }
def FnOrderInsideUptoSaid : Prop := fnOrderInsideUptoRow.holds Tryz.pinned (OpenSpec.upto fnOrderInsideSpec)

/-- 'laws.FnOrderWaitWall', WHERE WHAT IT READS IS OF BULK AT MOST 1048576: true; the input reads as it did. -/
def fnOrderWaitWallUptoRow : OpenClaim := { program := "ytjjkicffhpcngaagreat", sum := "27e8a1ee78f2831d6291a705c9280b4fe43c7137ed0819f65b98bcfd7c66f19e", func := "loop.example/fathomline/laws.FnOrderWaitWall", spec := "fnOrderWaitWall", unfollowed := true, recurses := true, apart := false, narrowed := true }
def FnOrderWaitWallUptoSaid : Prop := fnOrderWaitWallUptoRow.holds Tryz.pinned (OpenSpec.upto fnOrderWaitWallSpec)

/-- 'laws.FnOrderWallTwice', WHERE WHAT IT READS IS OF BULK AT MOST 1048576: true; the input reads as it did. -/
def fnOrderWallTwiceUptoRow : OpenClaim := { program := "ytjjkicffhpcngaagreat", sum := "27e8a1ee78f2831d6291a705c9280b4fe43c7137ed0819f65b98bcfd7c66f19e", func := "loop.example/fathomline/laws.FnOrderWallTwice", spec := "fnOrderWallTwice", unfollowed := true, recurses := true, apart := false, narrowed := true }
def FnOrderWallTwiceUptoSaid : Prop := fnOrderWallTwiceUptoRow.holds Tryz.pinned (OpenSpec.upto fnOrderWallTwiceSpec)

/-- 'laws.FnOrderRead', WHERE WHAT IT READS IS OF BULK AT MOST 1048576: true; the input reads as it did. -/
def fnOrderReadUptoRow : OpenClaim := { program := "ytjjkicffhpcngaagreat", sum := "27e8a1ee78f2831d6291a705c9280b4fe43c7137ed0819f65b98bcfd7c66f19e", func := "loop.example/fathomline/laws.FnOrderRead", spec := "fnOrderRead", unfollowed := true, recurses := true, apart := false, narrowed := true }
def FnOrderReadUptoSaid : Prop := fnOrderReadUptoRow.holds Tryz.pinned (OpenSpec.upto fnOrderReadSpec)

/-- 'laws.FnOrderStore', WHERE WHAT IT READS IS OF BULK AT MOST 1048576: true; the input reads as it did. -/
def fnOrderStoreUptoRow : OpenClaim := { program := "ytjjkicffhpcngaagreat", sum := "27e8a1ee78f2831d6291a705c9280b4fe43c7137ed0819f65b98bcfd7c66f19e", func := "loop.example/fathomline/laws.FnOrderStore", spec := "fnOrderStore", unfollowed := true, recurses := true, apart := false, narrowed := true }
def FnOrderStoreUptoSaid : Prop := fnOrderStoreUptoRow.holds Tryz.pinned (OpenSpec.upto fnOrderStoreSpec)

/-- 'laws.FnOrderGive', WHERE WHAT IT READS IS OF BULK AT MOST 1048576: true; the input reads as it did. -/
def fnOrderGiveUptoRow : OpenClaim := { program := "ytjjkicffhpcngaagreat", sum := "27e8a1ee78f2831d6291a705c9280b4fe43c7137ed0819f65b98bcfd7c66f19e", func := "loop.example/fathomline/laws.FnOrderGive", spec := "fnOrderGive", unfollowed := true, recurses := true, apart := false, narrowed := true }
def FnOrderGiveUptoSaid : Prop := fnOrderGiveUptoRow.holds Tryz.pinned (OpenSpec.upto fnOrderGiveSpec)

/-- 'laws.FnOrderTake', WHERE WHAT IT READS IS OF BULK AT MOST 1048576: true; the input reads as it did. -/
def fnOrderTakeUptoRow : OpenClaim := { program := "ytjjkicffhpcngaagreat", sum := "27e8a1ee78f2831d6291a705c9280b4fe43c7137ed0819f65b98bcfd7c66f19e", func := "loop.example/fathomline/laws.FnOrderTake", spec := "fnOrderTake", unfollowed := true, recurses := true, apart := false, narrowed := true }
def FnOrderTakeUptoSaid : Prop := fnOrderTakeUptoRow.holds Tryz.pinned (OpenSpec.upto fnOrderTakeSpec)

end Rows
end Go.Proofs.YtjjkicffhpcngaaGreat
