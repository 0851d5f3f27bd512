/- What an order allows of small programs: a thread more that does nothing, one place alone, one thread alone, one step of each. Plainly. No condition but what is said. -/
import Derived.Below
import Derived.BigQuiet
import Derived.Deep.AppendLies
import Derived.Deep.CutRange
import Derived.Deep.MidRow
import Derived.Deep.Quiet
import Derived.Deep.QuietTactic
import Derived.Deep.RegionHeld3
import Derived.Deep.RegionLaw
import Derived.Deep.RegionWith
import Derived.Deep.Slices
import Derived.Deep.WholeRow
import Derived.Handy
import Derived.Laws.AppendOwn
import Derived.Laws.AppendOwnNone
import Derived.Laws.EntriesVeiled
import Derived.Laws.IdiomCopy
import Derived.Laws.OwnMore
import Derived.LoopIn
import Derived.LoopN
import Derived.LoopNIn
import Derived.Maps.OwnIn
import Derived.OwnWalkIn
import Derived.RangeFuncBound
import Derived.RangeFuncLeaves
import Derived.RangeFuncNested
import Derived.Shelf.Abstract
import Derived.Shelf.SlSortCmp.NoneTotal
import Derived.Sort.Grow
import Derived.TacticsInMore
import Derived.WalkKit
import Derived.WalkLawsBesides
import Derived.WalkSpells
import Derived.Deep.OwnRows
import Derived.Test.YtjjkicffhpcngaaGreatRows
import Derived.Test.YtjjkicffhpcngaaGreatBYay
import Derived.Test.YtjjkicffhpcngaaGreatBYbj
namespace Go.Proofs.YtjjkicffhpcngaaGreat
namespace M
theorem no_choices {ds:List De} (h:∀ x∈ds,x.d.k≠9):choices ds=[]:=by
 unfold choices
 have:(List.range ds.length).filter (waitsAt ds)=[]:=by
  rw [List.filter_eq_nil_iff]
  intro n hn hw
  unfold waitsAt at hw
  rw [List.getElem?_eq_getElem (List.mem_range.1 hn)] at hw
  simp only [Bool.and_eq_true,beq_iff_eq] at hw
  exact h _ (List.getElem_mem _) hw.1
 rw [this];rfl
theorem own_iff {a b:Nat} {x y:De}:own a b x y=true↔a < b∧x.t=y.t:=by simp [own]
theorem tell_uses {ll:List (List D)} {l:List Int} {rows:List (List Int)} (h:WO (deeds ll) l rows) {a b:Nat} {x y:De} (hx:(deeds ll)[a]?=some x) (hy:(deeds ll)[b]?=some y) (ht:(read l a b||over l rows a b x y)=true):a≠b∧x.uses=true∧y.uses=true∧x.d.p=y.d.p:=by
 rw [Bool.or_eq_true] at ht
 rcases ht with ht | ht
 ·simp only [read,beq_iff_eq] at ht
  have hf:=h.fro b y hy
  cases hr:y.reads
  ·rw [hr,if_neg (by simp)] at hf;omega
  ·rw [if_pos hr] at hf
   rcases hf with e | ⟨c,z,e,hz,hto⟩
   ·omega
   ·have:c=a:=by omega
    subst this
    rw [hx] at hz
    obtain rfl:=Option.some.inj hz
    simp only [De.to,Bool.and_eq_true,beq_iff_eq] at hto
    refine ⟨fun e=>?_,by show (M.reads _||M.writes _)=true;rw [hto.1,Bool.or_true],by show (M.reads _||M.writes _)=true;rw [show M.reads y.d.k=true from hr,Bool.true_or],hto.2⟩
    subst e
    rw [hx] at hy
    obtain rfl:=Option.some.inj hy
    have h9:M.reads x.d.k=true:=hr
    rw [wr_rd hto.1] at h9;cases h9
 ·simp only [over,Bool.and_eq_true,decide_eq_true_eq,onePl,beq_iff_eq] at ht
  obtain ⟨⟨hu,hu2,hp⟩,hw,hlt⟩:=ht
  refine ⟨fun e=>?_,hu,hu2,hp⟩
  subst e
  rw [hx] at hy
  obtain rfl:=Option.some.inj hy
  rw [wrote,wr_rd hw] at hlt
  simp at hlt
end M
end Go.Proofs.YtjjkicffhpcngaaGreat
