/- spec.ExecAll: all ways are told, each in rows of its own. Of at most 1048576 threads and steps. -/
import Derived.Test.YtjjkicffhpcngaaGreatBWau
import Derived.Test.YtjjkicffhpcngaaGreatBWbc
namespace Go.Proofs.YtjjkicffhpcngaaGreat
open Go.RowKit
theorem Tryz.infoExec:(Tryz.prog.info? 63).map (fun i=>(i.zero,i.size,i.bytes))=some (some (.agg #[.slice none 0 0,.slice none 0 0]),2,48):=by kernel_rfl
namespace M
theorem addPlace_in {rows:List (List Int)} {os:List (List (List Int))} {o:List (List Int)} (h:o∈addPlace rows os):∃ o'∈os,∃ r∈rows,o=o'++[r]:=by
 rw [addPlace,List.mem_flatMap] at h
 obtain ⟨o',h1,h2⟩:=h
 rw [List.mem_map] at h2
 obtain ⟨r,h3,h4⟩:=h2
 exact ⟨o',h1,r,h3,h4.symm⟩
theorem ordK_len6 {ds:List De} (h6:∀ p,(wrs p 0 ds).length≤6):∀ (k:Nat),∀ os∈ordK ds k,∀ r∈os,r.length≤6
 | 0,os,h,r,hr=>by simp [ordK] at h;rw [h] at hr;cases hr
 | k+1,os,h,r,hr=>by
  obtain ⟨o',h1,r',h2,rfl⟩:=addPlace_in h
  rcases List.mem_append.1 hr with h3 | h3
  ·exact ordK_len6 h6 k o' h1 r h3
  ·rw [List.mem_singleton.1 h3]
   have:=rowsOf_each _ _ _ _ h2
   have:=h6 k
   simp at *
   omega
end M
end Go.Proofs.YtjjkicffhpcngaaGreat
