/- What is seen in a way that is ok may be seen of the program: plainly. No condition. -/
import Derived.BigQuiet
import Derived.Deep.AppendLies
import Derived.Deep.Quiet
import Derived.Deep.QuietTactic
import Derived.Deep.RegionHeld3
import Derived.Deep.RegionLaw
import Derived.Deep.RegionWith
import Derived.Shelf.Abstract
import Derived.Sort.Grow
import Derived.WalkKit
import Derived.WalkLawsBesides
import Derived.WalkSpells
import Derived.Deep.OwnRows
import Derived.Test.YtihfibjckkmmbaaGreatRows
import Derived.Test.YtihfibjckkmmbaaGreatQhaz
namespace Go.Proofs.YtihfibjckkmmbaaGreat
namespace M
theorem deed_v3 {ll:List (List D)} (h:prog ll=true):∀ x∈deeds ll,0≤x.d.v∧x.d.v≤3:=by
 intro x hx
 have:=deed_do h x hx
 simp only [doOk,Bool.and_eq_true,valOk] at this
 have hv:=this.2
 split at hv
 ·simp at hv;omega
 ·simp at hv;omega
theorem vl_in {ll:List (List D)} {l:List Int} {rows:List (List Int)} (h:Way ll l rows) (n:Nat) (hn:n < (deeds ll).length):0≤vl (deeds ll) l n∧vl (deeds ll) l n≤3:=by
 obtain ⟨q,hq,_,e⟩:=vl_of h.inn h.len.out h.zero h.fin n hn
 rw [e]
 exact deed_v3 h.prog _ (List.getElem_mem hq)
theorem last_in {ll:List (List D)} {l:List Int} {rows:List (List Int)} (h:Way ll l rows):∀ (rs:List (List Int)),(∀ r∈rs,r∈rows)→vals (seenL (deeds ll) l rs)=true
 | [],_=>by simp [seenL,vals]
 | r::rs,hr=>by
  have ih:=last_in h rs (fun x hx=>hr x (List.mem_cons_of_mem _ hx))
  have hv:0≤lastOf (deeds ll) l r∧lastOf (deeds ll) l r≤3:=by
   rcases Nat.eq_zero_or_pos r.length with h0 | h0
   ·rw [List.length_eq_zero_iff.1 h0,last_nil];omega
   ·rw [last_some _ _ h0]
    obtain ⟨m0,m1⟩:=h.mem r (hr r (List.mem_cons_self ..)) _ (List.getElem_mem (show r.length - 1 < r.length by omega))
    obtain ⟨q,hq⟩:=Int.eq_ofNat_of_zero_le m0
    rw [hq] at m1 ⊢
    exact vl_in h q (by omega)
  simp only [seenL,List.map_cons,vals,List.all_cons,Bool.and_eq_true,decide_eq_true_eq] at ih ⊢
  exact ⟨hv,ih⟩
end M
end Go.Proofs.YtihfibjckkmmbaaGreat
