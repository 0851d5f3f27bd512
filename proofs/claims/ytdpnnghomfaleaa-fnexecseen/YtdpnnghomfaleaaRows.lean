/-
  No cell of these rows narrows 'for every input' (looked for: loops, veiled, ifaces, maps, wideKeys, modest, calm, conditions, laid).
  DERIVED. THE GIVEN ROWS OF THIS SEAT. 6 by the template 'for every input the law returns true; each argument reads behind the call as it read before'; 0 by the template 'total and deterministic' (their statements: YtdpnnghomfaleaaTotals.lean).
  GIVEN WITH THE SEED: the statements are not yours to turn. If you find one false, say at which input.
  Laid BY PROGRAM, IN A SANDBOX (cutbox-rows.mjs): the forced cells as the released guide's own fill.sh prints them over the translation 6ad30ea604b64512… (all of the seat's roots in one cut). By AI agents, Wed Nov 11 2026. No macro, syntax, notation, axiom, sorry.
-/
import Derived.Test.YtdpnnghomfaleaaChecked
import GoSem.Claim
import GoSem.ClaimJoined
import GoSem.ClaimMapViews
import Derived.JoinedTies
import Derived.KernelRfl
namespace Go.Proofs.Ytdpnnghomfaleaa
/- THE CELL 'sum', in the pinned program and in every row, IS THE sha256 OF THE DUMP (.gsa) THAT YtdpnnghomfaleaaProg.lean LOADS. Nothing in Lean hashes anything: it is a label: what it is worth is what the hold of that sum in a sandbox is worth. -/
noncomputable def Try.pinned : Pinned := { name := "ytdpnnghomfaleaa", sum := "6ad30ea604b6451223fdf6e82bf36addbbe48da384cc88700d748a1ba81ce781", checked := Try.checked }
namespace Rows
def none {H : Type} : Left H := { results := [], args := [] }

/-- 'laws.FnExactExecOk': WHATEVER THE INPUT: true; the input reads as it did. -/
def fnExactExecOkSpec : ChangeSpec := { name := "fnExactExecOk", fn := fun _ => fun
  | [d1, d2] => { results := [.lit (.bool true)], args := [d1, d2] }
  | _ => none }
def fnExactExecOkRow : OpenClaim := { program := "ytdpnnghomfaleaa", sum := "6ad30ea604b6451223fdf6e82bf36addbbe48da384cc88700d748a1ba81ce781", func := "loop.example/fathomline/laws.FnExactExecOk", spec := "fnExactExecOk", unfollowed := true, recurses := true, apart := false }
def FnExactExecOkSaid : Prop := fnExactExecOkRow.holds Try.pinned (OpenSpec.ofChange fnExactExecOkSpec)

/-- ITS FALSE NEIGHBOUR: 'it returns false'. Refute it at one input. -/
def fnExactExecOkWrong : ChangeSpec := { name := "fnExactExecOk", fn := fun _ => fun
  | [d1, d2] => { results := [.lit (.bool false)], args := [d1, d2] }
  | _ => none }
def FnExactExecOkWrongFalsely : Prop := fnExactExecOkRow.holds Try.pinned (OpenSpec.ofChange fnExactExecOkWrong)

/-- 'laws.FnExactExecSeen': WHATEVER THE INPUT: true; the input reads as it did. -/
def fnExactExecSeenSpec : ChangeSpec := { name := "fnExactExecSeen", fn := fun _ => fun
  | [d1, d2] => { results := [.lit (.bool true)], args := [d1, d2] }
  | _ => none }
def fnExactExecSeenRow : OpenClaim := { program := "ytdpnnghomfaleaa", sum := "6ad30ea604b6451223fdf6e82bf36addbbe48da384cc88700d748a1ba81ce781", func := "loop.example/fathomline/laws.FnExactExecSeen", spec := "fnExactExecSeen", unfollowed := true, recurses := true, apart := false }
def FnExactExecSeenSaid : Prop := fnExactExecSeenRow.holds Try.pinned (OpenSpec.ofChange fnExactExecSeenSpec)

/-- ITS FALSE NEIGHBOUR: 'it returns false'. Refute it at one input. -/
def fnExactExecSeenWrong : ChangeSpec := { name := "fnExactExecSeen", fn := fun _ => fun
  | [d1, d2] => { results := [.lit (.bool false)], args := [d1, d2] }
  | _ => none }
def FnExactExecSeenWrongFalsely : Prop := fnExactExecSeenRow.holds Try.pinned (OpenSpec.ofChange fnExactExecSeenWrong)

/-- 'laws.FnExecSeen': WHATEVER THE INPUT: true; the input reads as it did. -/
def fnExecSeenSpec : ChangeSpec := { name := "fnExecSeen", fn := fun _ => fun
  | [d] => { results := [.lit (.bool true)], args := [d] }
  | _ => none }
def fnExecSeenRow : OpenClaim := { program := "ytdpnnghomfaleaa", sum := "6ad30ea604b6451223fdf6e82bf36addbbe48da384cc88700d748a1ba81ce781", func := "loop.example/fathomline/laws.FnExecSeen", spec := "fnExecSeen", unfollowed := true, recurses := true, apart := false }
def FnExecSeenSaid : Prop := fnExecSeenRow.holds Try.pinned (OpenSpec.ofChange fnExecSeenSpec)

/-- ITS FALSE NEIGHBOUR: 'it returns false'. Refute it at one input. -/
def fnExecSeenWrong : ChangeSpec := { name := "fnExecSeen", fn := fun _ => fun
  | [d] => { results := [.lit (.bool false)], args := [d] }
  | _ => none }
def FnExecSeenWrongFalsely : Prop := fnExecSeenRow.holds Try.pinned (OpenSpec.ofChange fnExecSeenWrong)

/-- 'laws.FnExecFrom': WHATEVER THE INPUT: true; the input reads as it did. -/
def fnExecFromSpec : ChangeSpec := { name := "fnExecFrom", fn := fun _ => fun
  | [d] => { results := [.lit (.bool true)], args := [d] }
  | _ => none }
def fnExecFromRow : OpenClaim := { program := "ytdpnnghomfaleaa", sum := "6ad30ea604b6451223fdf6e82bf36addbbe48da384cc88700d748a1ba81ce781", func := "loop.example/fathomline/laws.FnExecFrom", spec := "fnExecFrom", unfollowed := true, recurses := true, apart := false }
def FnExecFromSaid : Prop := fnExecFromRow.holds Try.pinned (OpenSpec.ofChange fnExecFromSpec)

/-- ITS FALSE NEIGHBOUR: 'it returns false'. Refute it at one input. -/
def fnExecFromWrong : ChangeSpec := { name := "fnExecFrom", fn := fun _ => fun
  | [d] => { results := [.lit (.bool false)], args := [d] }
  | _ => none }
def FnExecFromWrongFalsely : Prop := fnExecFromRow.holds Try.pinned (OpenSpec.ofChange fnExecFromWrong)

/-- 'laws.FnExecLast': WHATEVER THE INPUT: true; the input reads as it did. -/
def fnExecLastSpec : ChangeSpec := { name := "fnExecLast", fn := fun _ => fun
  | [d] => { results := [.lit (.bool true)], args := [d] }
  | _ => none }
def fnExecLastRow : OpenClaim := { program := "ytdpnnghomfaleaa", sum := "6ad30ea604b6451223fdf6e82bf36addbbe48da384cc88700d748a1ba81ce781", func := "loop.example/fathomline/laws.FnExecLast", spec := "fnExecLast", unfollowed := true, recurses := true, apart := false }
def FnExecLastSaid : Prop := fnExecLastRow.holds Try.pinned (OpenSpec.ofChange fnExecLastSpec)

/-- ITS FALSE NEIGHBOUR: 'it returns false'. Refute it at one input. -/
def fnExecLastWrong : ChangeSpec := { name := "fnExecLast", fn := fun _ => fun
  | [d] => { results := [.lit (.bool false)], args := [d] }
  | _ => none }
def FnExecLastWrongFalsely : Prop := fnExecLastRow.holds Try.pinned (OpenSpec.ofChange fnExecLastWrong)

/-- 'laws.FnExactExecEvents': WHATEVER THE INPUT: true; the input reads as it did. -/
def fnExactExecEventsSpec : ChangeSpec := { name := "fnExactExecEvents", fn := fun _ => fun
  | [d] => { results := [.lit (.bool true)], args := [d] }
  | _ => none }
def fnExactExecEventsRow : OpenClaim := { program := "ytdpnnghomfaleaa", sum := "6ad30ea604b6451223fdf6e82bf36addbbe48da384cc88700d748a1ba81ce781", func := "loop.example/fathomline/laws.FnExactExecEvents", spec := "fnExactExecEvents", unfollowed := true, recurses := true, apart := false }
def FnExactExecEventsSaid : Prop := fnExactExecEventsRow.holds Try.pinned (OpenSpec.ofChange fnExactExecEventsSpec)

/-- ITS FALSE NEIGHBOUR: 'it returns false'. Refute it at one input. -/
def fnExactExecEventsWrong : ChangeSpec := { name := "fnExactExecEvents", fn := fun _ => fun
  | [d] => { results := [.lit (.bool false)], args := [d] }
  | _ => none }
def FnExactExecEventsWrongFalsely : Prop := fnExactExecEventsRow.holds Try.pinned (OpenSpec.ofChange fnExactExecEventsWrong)

/- THE SECOND FORM. 'bulk': how many values and letters a reading holds, each counted each time it is reached (what is shared counts as often as it is met; a slice's spare places count too). A statement '..UptoSaid' is the law's where the arguments, and the package variables that the reading takes, are together of bulk at most 1048576: NARROWER than '..Said'. Prove '..Said' where nothing that the law and all that it calls make is longer than what came in: it says more and counts as full. Else prove '..UptoSaid'. A law counts once. -/
mutual
def uptoBulk {H : Type} : DataW H → Nat
  | .lit (.string bytes) => bytes.length + 1
  | .lit _ => 1
  | .nil => 1
  | .ptr d => uptoBulk d + 1
  | .slice elems spare => uptoBulkAll elems + uptoBulkAll spare + 1
  | .agg parts => uptoBulkAll parts + 1
  | .iface _ d => uptoBulk d + 1
  | .map entries => uptoBulkEntries entries + 1
  | .held _ => 1
def uptoBulkAll {H : Type} : List (DataW H) → Nat
  | [] => 0
  | d :: r => uptoBulk d + uptoBulkAll r
def uptoBulkEntries {H : Type} : List (Lit × DataW H) → Nat
  | [] => 0
  | x :: r => uptoBulkEntry x + uptoBulkEntries r
def uptoBulkEntry {H : Type} : Lit × DataW H → Nat
  | (.string bytes, d) => bytes.length + uptoBulk d + 1
  | (_, d) => uptoBulk d + 1
 end
def uptoSmall : (H : Type) → List (DataW H) → Bool := fun _ ds => decide (uptoBulkAll ds ≤ 1048576)
def OpenSpec.upto (s : _root_.Go.ChangeSpec) : _root_.Go.OpenSpec := { _root_.Go.OpenSpec.ofChange s with cond := some uptoSmall }

/-- 'laws.FnExactExecOk', WHERE WHAT IT READS IS OF BULK AT MOST 1048576: true; the input reads as it did. -/
def fnExactExecOkUptoRow : OpenClaim := { program := "ytdpnnghomfaleaa", sum := "6ad30ea604b6451223fdf6e82bf36addbbe48da384cc88700d748a1ba81ce781", func := "loop.example/fathomline/laws.FnExactExecOk", spec := "fnExactExecOk", unfollowed := true, recurses := true, apart := false, narrowed := true }
def FnExactExecOkUptoSaid : Prop := fnExactExecOkUptoRow.holds Try.pinned (OpenSpec.upto fnExactExecOkSpec)

/-- 'laws.FnExactExecSeen', WHERE WHAT IT READS IS OF BULK AT MOST 1048576: true; the input reads as it did. -/
def fnExactExecSeenUptoRow : OpenClaim := { program := "ytdpnnghomfaleaa", sum := "6ad30ea604b6451223fdf6e82bf36addbbe48da384cc88700d748a1ba81ce781", func := "loop.example/fathomline/laws.FnExactExecSeen", spec := "fnExactExecSeen", unfollowed := true, recurses := true, apart := false, narrowed := true }
def FnExactExecSeenUptoSaid : Prop := fnExactExecSeenUptoRow.holds Try.pinned (OpenSpec.upto fnExactExecSeenSpec)

/-- 'laws.FnExecSeen', WHERE WHAT IT READS IS OF BULK AT MOST 1048576: true; the input reads as it did. -/
def fnExecSeenUptoRow : OpenClaim := { program := "ytdpnnghomfaleaa", sum := "6ad30ea604b6451223fdf6e82bf36addbbe48da384cc88700d748a1ba81ce781", func := "loop.example/fathomline/laws.FnExecSeen", spec := "fnExecSeen", unfollowed := true, recurses := true, apart := false, narrowed := true }
def FnExecSeenUptoSaid : Prop := fnExecSeenUptoRow.holds Try.pinned (OpenSpec.upto fnExecSeenSpec)

/-- 'laws.FnExecFrom', WHERE WHAT IT READS IS OF BULK AT MOST 1048576: true; the input reads as it did. -/
def fnExecFromUptoRow : OpenClaim := { program := "ytdpnnghomfaleaa", sum := "6ad30ea604b6451223fdf6e82bf36addbbe48da384cc88700d748a1ba81ce781", func := "loop.example/fathomline/laws.FnExecFrom", spec := "fnExecFrom", unfollowed := true, recurses := true, apart := false, narrowed := true }
def FnExecFromUptoSaid : Prop := fnExecFromUptoRow.holds Try.pinned (OpenSpec.upto fnExecFromSpec)

/-- 'laws.FnExecLast', WHERE WHAT IT READS IS OF BULK AT MOST 1048576: true; the input reads as it did. -/
def fnExecLastUptoRow : OpenClaim := { program := "ytdpnnghomfaleaa", sum := "6ad30ea604b6451223fdf6e82bf36addbbe48da384cc88700d748a1ba81ce781", func := "loop.example/fathomline/laws.FnExecLast", spec := "fnExecLast", unfollowed := true, recurses := true, apart := false, narrowed := true }
def FnExecLastUptoSaid : Prop := fnExecLastUptoRow.holds Try.pinned (OpenSpec.upto fnExecLastSpec)

/-- 'laws.FnExactExecEvents', WHERE WHAT IT READS IS OF BULK AT MOST 1048576: true; the input reads as it did. -/
def fnExactExecEventsUptoRow : OpenClaim := { program := "ytdpnnghomfaleaa", sum := "6ad30ea604b6451223fdf6e82bf36addbbe48da384cc88700d748a1ba81ce781", func := "loop.example/fathomline/laws.FnExactExecEvents", spec := "fnExactExecEvents", unfollowed := true, recurses := true, apart := false, narrowed := true }
def FnExactExecEventsUptoSaid : Prop := fnExactExecEventsUptoRow.holds Try.pinned (OpenSpec.upto fnExactExecEventsSpec)

end Rows
end Go.Proofs.Ytdpnnghomfaleaa
