/- spec.l71Any: a drawn program, some spoilt. -/
import Derived.Test.YtlblmcplbfoegaaGreatDrPr
import Derived.Test.YtlblmcplbfoegaaGreatDrBa
import Derived.Test.YtlblmcplbfoegaaGreatMathN
namespace Go.Proofs.YtlblmcplbfoegaaGreat
open Go.RowKit

/-- A program that was drawn: threads of at most 14 steps, at most three. -/
structure Small (mm : List (List M.D)) (c : Nat) : Prop where
  cap : mm.length ≤ c
  pos : 0 < mm.length
  three : mm.length ≤ 3
  steps : ∀ t ∈ mm, t.length ≤ 14


end Go.Proofs.YtlblmcplbfoegaaGreat
