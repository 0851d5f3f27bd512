/- spec.SeenSort: in order, each once. Of at most 1048576, each of at most 1048576 numbers. -/
import Derived.Test.YtegommoflmmahaaGreatRows
import Derived.Test.YtegommoflmmahaaGreatQwbr
namespace Go.Proofs.YtegommoflmmahaaGreat
section
open Go.RowKit
theorem SL.ks {w:World} {g:Nat} {ss:List Sn} (h:SL w g ss):KS w (some ⟨g,0,none⟩) g 0 (kys ss):=by
 refine ⟨fun _=>rfl,fun i hi=>?_⟩
 have hi':i < ss.length:=by simpa [kys] using hi
 obtain ⟨c1,c2⟩:=h.sr.c i hi'
 exact ⟨ss[i],by simp [kys,Sn.ky],by simp [kys,Sn.ky],by rw [Nat.zero_add];exact c1,by rw [Nat.zero_add];exact c2,(h.at_ _ (List.getElem_mem hi')).1⟩
end
end Go.Proofs.YtegommoflmmahaaGreat
