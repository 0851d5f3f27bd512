/- Small facts for the rows' proofs. No condition. -/
import Derived.Test.YtnddmlgnngdaoaaRows
import Derived.Test.YtnddmlgnngdaoaaQjbr
namespace Go.Proofs.Ytnddmlgnngdaoaa
section
open Go.ChangeShapes Go.WideShapes Go.ChangeAt Go.RowKit Go.Deep
theorem Try.own:ownKnob Try.prog.godebug=none:=by kernel_rfl
theorem Try.laidOut:laidOutB Try.prog=true:=by kernel_rfl
theorem one_of_size {cs:Array Value} (h:cs.size=1):∃ u,cs=#[u]:=by
 obtain ⟨l⟩:=cs
 match l,h with
 | [u],_=>exact ⟨u,rfl⟩
end
section
open Go.ChangeShapes Go.WideShapes Go.ChangeAt Go.RowKit Go.Deep
theorem field_one {H:Type} {enc:TypeId × Value→H} {w:World} {base n:Nat} {spare:Nat→Bool} {held:Bool} {u:Value} {y:DataW H × List MemPlace}
  (h:DataW.trod enc Try.prog w base spare held n 22 (((Value.agg #[u]).cells.toList.drop 0).take (Try.prog.cellsOf 22))=some y):DataW.trod enc Try.prog w base spare held n 22 [u]=some y:=by
 simpa [Value.cells,Try.cells22] using h
end
end Go.Proofs.Ytnddmlgnngdaoaa
