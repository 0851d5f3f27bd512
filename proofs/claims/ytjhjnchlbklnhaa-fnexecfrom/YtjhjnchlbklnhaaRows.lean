/-
  No cell of these rows narrows 'for every input' (looked for: loops, veiled, ifaces, maps, wideKeys, modest, calm, conditions, laid).
  DERIVED. THE GIVEN ROWS OF THIS SEAT. 6 by the template 'for every input the law returns true; each argument reads behind the call as it read before'; 0 by the template 'total and deterministic' (their statements: YtjhjnchlbklnhaaTotals.lean).
  GIVEN WITH THE SEED: the statements are not yours to turn. If you find one false, say at which input.
  Laid BY PROGRAM, IN A SANDBOX (cutbox-rows.mjs): the forced cells as the released guide's own fill.sh prints them over the translation fe6a03c3f0207640… (all of the seat's roots in one cut). By AI agents, Wed Nov 11 2026. No macro, syntax, notation, axiom, sorry.
-/
import Derived.Test.YtjhjnchlbklnhaaChecked
import GoSem.Claim
import GoSem.ClaimJoined
import GoSem.ClaimMapViews
import Derived.JoinedTies
import Derived.KernelRfl
namespace Go.Proofs.Ytjhjnchlbklnhaa
/- THE CELL 'sum', in the pinned program and in every row, IS THE sha256 OF THE DUMP (.gsa) THAT YtjhjnchlbklnhaaProg.lean LOADS. Nothing in Lean hashes anything: it is a label: what it is worth is what the hold of that sum in a sandbox is worth. -/
noncomputable def Try.pinned : Pinned := { name := "ytjhjnchlbklnhaa", sum := "fe6a03c3f02076403eb41761a00df7f8539a7a8498564ee9588013fd9f0c5f8e", checked := Try.checked }
namespace Rows
def none {H : Type} : Left H := { results := [], args := [] }

/-- 'laws.FnExecEvents': WHATEVER THE INPUT: true; the input reads as it did. -/
def fnExecEventsSpec : ChangeSpec := { name := "fnExecEvents", fn := fun _ => fun
  | [d] => { results := [.lit (.bool true)], args := [d] }
  | _ => none }
def fnExecEventsRow : OpenClaim := { program := "ytjhjnchlbklnhaa", sum := "fe6a03c3f02076403eb41761a00df7f8539a7a8498564ee9588013fd9f0c5f8e", func := "loop.example/fathomline/laws.FnExecEvents", spec := "fnExecEvents", unfollowed := true, recurses := true, apart := false }
def FnExecEventsSaid : Prop := fnExecEventsRow.holds Try.pinned (OpenSpec.ofChange fnExecEventsSpec)

/-- ITS FALSE NEIGHBOUR: 'it returns false'. Refute it at one input. -/
def fnExecEventsWrong : ChangeSpec := { name := "fnExecEvents", fn := fun _ => fun
  | [d] => { results := [.lit (.bool false)], args := [d] }
  | _ => none }
def FnExecEventsWrongFalsely : Prop := fnExecEventsRow.holds Try.pinned (OpenSpec.ofChange fnExecEventsWrong)

/-- 'laws.FnExecOk': WHATEVER THE INPUT: true; the input reads as it did. -/
def fnExecOkSpec : ChangeSpec := { name := "fnExecOk", fn := fun _ => fun
  | [d] => { results := [.lit (.bool true)], args := [d] }
  | _ => none }
def fnExecOkRow : OpenClaim := { program := "ytjhjnchlbklnhaa", sum := "fe6a03c3f02076403eb41761a00df7f8539a7a8498564ee9588013fd9f0c5f8e", func := "loop.example/fathomline/laws.FnExecOk", spec := "fnExecOk", unfollowed := true, recurses := true, apart := false }
def FnExecOkSaid : Prop := fnExecOkRow.holds Try.pinned (OpenSpec.ofChange fnExecOkSpec)

/-- ITS FALSE NEIGHBOUR: 'it returns false'. Refute it at one input. -/
def fnExecOkWrong : ChangeSpec := { name := "fnExecOk", fn := fun _ => fun
  | [d] => { results := [.lit (.bool false)], args := [d] }
  | _ => none }
def FnExecOkWrongFalsely : Prop := fnExecOkRow.holds Try.pinned (OpenSpec.ofChange fnExecOkWrong)

/-- 'laws.FnExecAll': WHATEVER THE INPUT: true; the input reads as it did. -/
def fnExecAllSpec : ChangeSpec := { name := "fnExecAll", fn := fun _ => fun
  | [d] => { results := [.lit (.bool true)], args := [d] }
  | _ => none }
def fnExecAllRow : OpenClaim := { program := "ytjhjnchlbklnhaa", sum := "fe6a03c3f02076403eb41761a00df7f8539a7a8498564ee9588013fd9f0c5f8e", func := "loop.example/fathomline/laws.FnExecAll", spec := "fnExecAll", unfollowed := true, recurses := true, apart := false }
def FnExecAllSaid : Prop := fnExecAllRow.holds Try.pinned (OpenSpec.ofChange fnExecAllSpec)

/-- ITS FALSE NEIGHBOUR: 'it returns false'. Refute it at one input. -/
def fnExecAllWrong : ChangeSpec := { name := "fnExecAll", fn := fun _ => fun
  | [d] => { results := [.lit (.bool false)], args := [d] }
  | _ => none }
def FnExecAllWrongFalsely : Prop := fnExecAllRow.holds Try.pinned (OpenSpec.ofChange fnExecAllWrong)

/-- 'laws.FnExecSeen': WHATEVER THE INPUT: true; the input reads as it did. -/
def fnExecSeenSpec : ChangeSpec := { name := "fnExecSeen", fn := fun _ => fun
  | [d] => { results := [.lit (.bool true)], args := [d] }
  | _ => none }
def fnExecSeenRow : OpenClaim := { program := "ytjhjnchlbklnhaa", sum := "fe6a03c3f02076403eb41761a00df7f8539a7a8498564ee9588013fd9f0c5f8e", func := "loop.example/fathomline/laws.FnExecSeen", spec := "fnExecSeen", unfollowed := true, recurses := true, apart := false }
def FnExecSeenSaid : Prop := fnExecSeenRow.holds Try.pinned (OpenSpec.ofChange fnExecSeenSpec)

/-- ITS FALSE NEIGHBOUR: 'it returns false'. Refute it at one input. -/
def fnExecSeenWrong : ChangeSpec := { name := "fnExecSeen", fn := fun _ => fun
  | [d] => { results := [.lit (.bool false)], args := [d] }
  | _ => none }
def FnExecSeenWrongFalsely : Prop := fnExecSeenRow.holds Try.pinned (OpenSpec.ofChange fnExecSeenWrong)

/-- 'laws.FnExecFrom': WHATEVER THE INPUT: true; the input reads as it did. -/
def fnExecFromSpec : ChangeSpec := { name := "fnExecFrom", fn := fun _ => fun
  | [d] => { results := [.lit (.bool true)], args := [d] }
  | _ => none }
def fnExecFromRow : OpenClaim := { program := "ytjhjnchlbklnhaa", sum := "fe6a03c3f02076403eb41761a00df7f8539a7a8498564ee9588013fd9f0c5f8e", func := "loop.example/fathomline/laws.FnExecFrom", spec := "fnExecFrom", unfollowed := true, recurses := true, apart := false }
def FnExecFromSaid : Prop := fnExecFromRow.holds Try.pinned (OpenSpec.ofChange fnExecFromSpec)

/-- ITS FALSE NEIGHBOUR: 'it returns false'. Refute it at one input. -/
def fnExecFromWrong : ChangeSpec := { name := "fnExecFrom", fn := fun _ => fun
  | [d] => { results := [.lit (.bool false)], args := [d] }
  | _ => none }
def FnExecFromWrongFalsely : Prop := fnExecFromRow.holds Try.pinned (OpenSpec.ofChange fnExecFromWrong)

/-- 'laws.FnExecLast': WHATEVER THE INPUT: true; the input reads as it did. -/
def fnExecLastSpec : ChangeSpec := { name := "fnExecLast", fn := fun _ => fun
  | [d] => { results := [.lit (.bool true)], args := [d] }
  | _ => none }
def fnExecLastRow : OpenClaim := { program := "ytjhjnchlbklnhaa", sum := "fe6a03c3f02076403eb41761a00df7f8539a7a8498564ee9588013fd9f0c5f8e", func := "loop.example/fathomline/laws.FnExecLast", spec := "fnExecLast", unfollowed := true, recurses := true, apart := false }
def FnExecLastSaid : Prop := fnExecLastRow.holds Try.pinned (OpenSpec.ofChange fnExecLastSpec)

/-- ITS FALSE NEIGHBOUR: 'it returns false'. Refute it at one input. -/
def fnExecLastWrong : ChangeSpec := { name := "fnExecLast", fn := fun _ => fun
  | [d] => { results := [.lit (.bool false)], args := [d] }
  | _ => none }
def FnExecLastWrongFalsely : Prop := fnExecLastRow.holds Try.pinned (OpenSpec.ofChange fnExecLastWrong)

/- THE SECOND FORM. 'bulk': how many values and letters a reading holds, each counted each time it is reached (what is shared counts as often as it is met; a slice's spare places count too). A statement '..UptoSaid' is the law's where the arguments, and the package variables that the reading takes, are together of bulk at most 1048576: NARROWER than '..Said'. Prove '..Said' where nothing that the law and all that it calls make is longer than what came in: it says more and counts as full. Else prove '..UptoSaid'. A law counts once. -/
mutual
def uptoBulk {H : Type} : DataW H → Nat
  | .lit (.string bytes) => bytes.length + 1
  | .lit _ => 1
  | .nil => 1
  | .ptr d => uptoBulk d + 1
  | .slice elems spare => uptoBulkAll elems + uptoBulkAll spare + 1
  | .agg parts => uptoBulkAll parts + 1
  | .iface _ d => uptoBulk d + 1
  | .map entries => uptoBulkEntries entries + 1
  | .held _ => 1
def uptoBulkAll {H : Type} : List (DataW H) → Nat
  | [] => 0
  | d :: r => uptoBulk d + uptoBulkAll r
def uptoBulkEntries {H : Type} : List (Lit × DataW H) → Nat
  | [] => 0
  | x :: r => uptoBulkEntry x + uptoBulkEntries r
def uptoBulkEntry {H : Type} : Lit × DataW H → Nat
  | (.string bytes, d) => bytes.length + uptoBulk d + 1
  | (_, d) => uptoBulk d + 1
 end
def uptoSmall : (H : Type) → List (DataW H) → Bool := fun _ ds => decide (uptoBulkAll ds ≤ 1048576)
def OpenSpec.upto (s : _root_.Go.ChangeSpec) : _root_.Go.OpenSpec := { _root_.Go.OpenSpec.ofChange s with cond := some uptoSmall }

/-- 'laws.FnExecEvents', WHERE WHAT IT READS IS OF BULK AT MOST 1048576: true; the input reads as it did. -/
def fnExecEventsUptoRow : OpenClaim := { program := "ytjhjnchlbklnhaa", sum := "fe6a03c3f02076403eb41761a00df7f8539a7a8498564ee9588013fd9f0c5f8e", func := "loop.example/fathomline/laws.FnExecEvents", spec := "fnExecEvents", unfollowed := true, recurses := true, apart := false, narrowed := true }
def FnExecEventsUptoSaid : Prop := fnExecEventsUptoRow.holds Try.pinned (OpenSpec.upto fnExecEventsSpec)

/-- 'laws.FnExecOk', WHERE WHAT IT READS IS OF BULK AT MOST 1048576: true; the input reads as it did. -/
def fnExecOkUptoRow : OpenClaim := { program := "ytjhjnchlbklnhaa", sum := "fe6a03c3f02076403eb41761a00df7f8539a7a8498564ee9588013fd9f0c5f8e", func := "loop.example/fathomline/laws.FnExecOk", spec := "fnExecOk", unfollowed := true, recurses := true, apart := false, narrowed := true }
def FnExecOkUptoSaid : Prop := fnExecOkUptoRow.holds Try.pinned (OpenSpec.upto fnExecOkSpec)

/-- 'laws.FnExecAll', WHERE WHAT IT READS IS OF BULK AT MOST 1048576: true; the input reads as it did. -/
def fnExecAllUptoRow : OpenClaim := { program := "ytjhjnchlbklnhaa", sum := "fe6a03c3f02076403eb41761a00df7f8539a7a8498564ee9588013fd9f0c5f8e", func := "loop.example/fathomline/laws.FnExecAll", spec := "fnExecAll", unfollowed := true, recurses := true, apart := false, narrowed := true }
def FnExecAllUptoSaid : Prop := fnExecAllUptoRow.holds Try.pinned (OpenSpec.upto fnExecAllSpec)

/-- 'laws.FnExecSeen', WHERE WHAT IT READS IS OF BULK AT MOST 1048576: true; the input reads as it did. -/
def fnExecSeenUptoRow : OpenClaim := { program := "ytjhjnchlbklnhaa", sum := "fe6a03c3f02076403eb41761a00df7f8539a7a8498564ee9588013fd9f0c5f8e", func := "loop.example/fathomline/laws.FnExecSeen", spec := "fnExecSeen", unfollowed := true, recurses := true, apart := false, narrowed := true }
def FnExecSeenUptoSaid : Prop := fnExecSeenUptoRow.holds Try.pinned (OpenSpec.upto fnExecSeenSpec)

/-- 'laws.FnExecFrom', WHERE WHAT IT READS IS OF BULK AT MOST 1048576: true; the input reads as it did. -/
def fnExecFromUptoRow : OpenClaim := { program := "ytjhjnchlbklnhaa", sum := "fe6a03c3f02076403eb41761a00df7f8539a7a8498564ee9588013fd9f0c5f8e", func := "loop.example/fathomline/laws.FnExecFrom", spec := "fnExecFrom", unfollowed := true, recurses := true, apart := false, narrowed := true }
def FnExecFromUptoSaid : Prop := fnExecFromUptoRow.holds Try.pinned (OpenSpec.upto fnExecFromSpec)

/-- 'laws.FnExecLast', WHERE WHAT IT READS IS OF BULK AT MOST 1048576: true; the input reads as it did. -/
def fnExecLastUptoRow : OpenClaim := { program := "ytjhjnchlbklnhaa", sum := "fe6a03c3f02076403eb41761a00df7f8539a7a8498564ee9588013fd9f0c5f8e", func := "loop.example/fathomline/laws.FnExecLast", spec := "fnExecLast", unfollowed := true, recurses := true, apart := false, narrowed := true }
def FnExecLastUptoSaid : Prop := fnExecLastUptoRow.holds Try.pinned (OpenSpec.upto fnExecLastSpec)

end Rows
end Go.Proofs.Ytjhjnchlbklnhaa
