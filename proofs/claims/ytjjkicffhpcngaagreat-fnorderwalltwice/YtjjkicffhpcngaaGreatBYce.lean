/- Two walls are one; one step turned into another one of the program. Plainly. No condition but what is said. -/
import Derived.Below
import Derived.BigQuiet
import Derived.Deep.AppendLies
import Derived.Deep.CutRange
import Derived.Deep.MidRow
import Derived.Deep.Quiet
import Derived.Deep.QuietTactic
import Derived.Deep.RegionHeld3
import Derived.Deep.RegionLaw
import Derived.Deep.RegionWith
import Derived.Deep.Slices
import Derived.Deep.WholeRow
import Derived.Handy
import Derived.Laws.AppendOwn
import Derived.Laws.AppendOwnNone
import Derived.Laws.EntriesVeiled
import Derived.Laws.IdiomCopy
import Derived.Laws.OwnMore
import Derived.LoopIn
import Derived.LoopN
import Derived.LoopNIn
import Derived.Maps.OwnIn
import Derived.OwnWalkIn
import Derived.RangeFuncBound
import Derived.RangeFuncLeaves
import Derived.RangeFuncNested
import Derived.Shelf.Abstract
import Derived.Shelf.SlSortCmp.NoneTotal
import Derived.Sort.Grow
import Derived.TacticsInMore
import Derived.WalkKit
import Derived.WalkLawsBesides
import Derived.WalkSpells
import Derived.Deep.OwnRows
import Derived.Test.YtjjkicffhpcngaaGreatRows
import Derived.Test.YtjjkicffhpcngaaGreatBYbz
import Derived.Test.YtjjkicffhpcngaaGreatBYcb
namespace Go.Proofs.YtjjkicffhpcngaaGreat
namespace M
theorem FwL.refl (s:Prop):∀ l:List D,FwL s l l
 | []=>.nil
 | _::l=>.same (FwL.refl s l)
theorem FwP.refl (s:Prop):∀ ll:List (List D),FwP s ll ll
 | []=>.nil
 | l::ll=>.cons (FwL.refl s l) (FwP.refl s ll)
theorem has_one {g:Int} {n:Nat}:has [g] (n:Int)=true↔g=n:=by
 unfold has
 simp [eq_comm]
theorem has_one_no {g:Int} {n:Nat} (h:g≠n):has [g] (n:Int)=false:=by
 cases e:has [g] (n:Int)
 ·rfl
 ·exact absurd (has_one.1 e) h
theorem wallR_past {g:Int}:∀ (l:List D) {n:Nat},g < n→wallR [g] n l=l
 | [],n,_=>rfl
 | d::l,n,h=>by rw [wallR,pre_no (has_one_no (by omega)),wallR_past l (by omega)];rfl
theorem wallT_past {g:Int} (l:List D) {n:Nat} (h:g < n):wallT [g] n l=l:=by
 cases l with
 | nil=>rfl
 | cons d l=>rw [wallT,wallR_past l h]
theorem walls_past {g:Int}:∀ (ll:List (List D)) {n:Nat},g < n→walls [g] n ll=ll
 | [],n,_=>rfl
 | t::ll,n,h=>by rw [walls,wallT_past t h,walls_past ll (by omega)]
theorem wallR_twice {g:Int}:∀ (l:List D) (n:Nat),FwL False (wallR [g] n l) (wallR [g] n (wallR [g] n l))∧(wallR [g] n l=l∨(g < n+l.length∧(wallR [g] n l).length=l.length+1))
 | [],n=>⟨.nil,.inl rfl⟩
 | d::l,n=>by
  by_cases h:g=n
  ·have hh:has [g] (n:Int)=true:=has_one.2 h
   have e:wallR [g] n (d::l)=wall::d::l:=by rw [wallR,pre_yes hh,wallR_past l (by omega)];rfl
   refine ⟨?_,.inr ⟨by simp only [List.length_cons];omega,by rw [e];rfl⟩⟩
   have e2:wallR [g] n (wall::d::l)=wall::wall::d::l:=by rw [wallR,pre_yes hh,wallR_past _ (by omega)];rfl
   rw [e,e2]
   exact .twice (FwL.refl _ _)
  ·have hh:=has_one_no h
   obtain ⟨h1,h2⟩:=wallR_twice (g:=g) l (n+1)
   have e:∀ m:List D,wallR [g] n (d::m)=d::wallR [g] (n+1) m:=fun m=>by rw [wallR,pre_no hh];rfl
   rw [e,e]
   refine ⟨.same h1,?_⟩
   rcases h2 with h2 | ⟨h2,h3⟩
   ·exact .inl (by rw [h2])
   ·exact .inr ⟨by simp only [List.length_cons];omega,by simp only [List.length_cons];omega⟩
theorem wallT_twice {g:Int} (l:List D) (n:Nat):FwL False (wallT [g] n l) (wallT [g] n (wallT [g] n l))∧(wallT [g] n l=l∨g < n+(l.length - 1)):=by
 cases l with
 | nil=>exact ⟨.nil,.inl rfl⟩
 | cons d l =>
  obtain ⟨h1,h2⟩:=wallR_twice (g:=g) l n
  refine ⟨.same h1,?_⟩
  rcases h2 with h2 | ⟨h2,_⟩
  ·exact .inl (by rw [wallT,h2])
  ·exact .inr (by simpa using h2)
theorem wallT_more {gs:List Int} (l:List D) (n:Nat):l.length≤(wallT gs n l).length:=by
 have hR:∀ (l:List D) (n:Nat),l.length≤(wallR gs n l).length:=by
  intro l
  induction l with
  | nil=>intro n;simp
  | cons d l ih=>intro n;have:=ih (n+1);simp only [wallR,List.length_append,List.length_cons];omega
 cases l with
 | nil=>simp
 | cons d l=>have:=hR l n;simp only [wallT,List.length_cons];omega
theorem walls_twice {g:Int}:∀ (ll:List (List D)) (n:Nat),FwP False (walls [g] n ll) (walls [g] n (walls [g] n ll))
 | [],n=>.nil
 | t::ll,n=>by
  obtain ⟨h1,h2⟩:=wallT_twice (g:=g) t n
  rw [walls,walls]
  refine .cons h1 ?_
  rcases h2 with h2 | h2
  ·rw [h2];exact walls_twice ll _
  ·have:=wallT_more (gs:=[g]) t n
   rw [walls_past ll (by omega),walls_past ll (by omega)]
   exact FwP.refl _ _
theorem all_twice {ll mm xx:List (List D)} {g:Int} (h1:wallPut ll [g]=some mm) (h2:wallPut mm [g]=some xx) (k:Int):orderAll xx k=orderAll mm k:=by
 obtain ⟨_,_,hq,rfl⟩:=wallPut_some h1
 obtain ⟨_,_,hx,rfl⟩:=wallPut_some h2
 exact all_fold (walls_twice ll 0) hq hx (.inl id) k
end M
end Go.Proofs.YtjjkicffhpcngaaGreat
