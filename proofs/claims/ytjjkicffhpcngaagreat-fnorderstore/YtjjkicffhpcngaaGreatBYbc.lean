/- Cells of literals; a row of steps more; steps as the cells of their row. No condition. And what goes with it: TnB0, TnMm, TnAp, WvMath. -/
import Derived.Below
import Derived.BigQuiet
import Derived.Deep.AppendLies
import Derived.Deep.CutRange
import Derived.Deep.MidRow
import Derived.Deep.Quiet
import Derived.Deep.QuietTactic
import Derived.Deep.RegionHeld3
import Derived.Deep.RegionLaw
import Derived.Deep.RegionWith
import Derived.Deep.Slices
import Derived.Deep.WholeRow
import Derived.Handy
import Derived.Laws.AppendOwn
import Derived.Laws.AppendOwnNone
import Derived.Laws.EntriesVeiled
import Derived.Laws.IdiomCopy
import Derived.Laws.OwnMore
import Derived.LoopIn
import Derived.LoopN
import Derived.LoopNIn
import Derived.Maps.AppendAt
import Derived.Maps.OwnIn
import Derived.OwnWalkIn
import Derived.RangeFuncBound
import Derived.RangeFuncLeaves
import Derived.RangeFuncNested
import Derived.Shelf.Abstract
import Derived.Shelf.SlSortCmp.NoneTotal
import Derived.Sort.Grow
import Derived.TacticsInMore
import Derived.WalkKit
import Derived.WalkLawsBesides
import Derived.WalkSpells
import Derived.Deep.OwnRows
import Derived.Test.YtjjkicffhpcngaaGreatRows
import Derived.Test.YtjjkicffhpcngaaGreatBYaq
namespace Go.Proofs.YtjjkicffhpcngaaGreat
open Go.RowKit
theorem DoS.flat_cells {w:World} {b o:Nat} {l:List M.D} (h:Row w b o l):∀ (j:Nat) (u:Value),(flat l)[j]?=some u→w.cell? ((⟨b,o,none⟩:Addr).add j)=some u:=by
 intro j u hj
 have hjl:=(List.getElem?_eq_some_iff.1 hj).1
 rw [flat_length] at hjl
 rw [Go.WideShapes.add_plain]
 have hi:j / 3 < l.length:=by omega
 obtain ⟨f0,f1,f2⟩:=flat_get l (j / 3) hi
 have hr:=h (j / 3) hi
 have hm:j % 3=0∨j % 3=1∨j % 3=2:=by omega
 rcases hm with hm | hm | hm
 ·have e:j=j / 3 * 3:=by omega
  rw [e,f0] at hj
  rw [← Option.some.inj hj,show o+j=o+j / 3 * 3 from by omega]
  exact hr.k
 ·have e:j=j / 3 * 3+1:=by omega
  rw [e,f1] at hj
  rw [← Option.some.inj hj,show o+j=o+j / 3 * 3+1 from by omega]
  exact hr.p
 ·have e:j=j / 3 * 3+2:=by omega
  rw [e,f2] at hj
  rw [← Option.some.inj hj,show o+j=o+j / 3 * 3+2 from by omega]
  exact hr.v
theorem flat_one' (l:List M.D):∀ y∈flat l,y.oneCell'=true:=by
 induction l with
 | nil=>intro y hy;cases hy
 | cons d l ih =>
  intro y hy
  simp only [flat,List.mem_cons] at hy
  rcases hy with rfl | rfl | rfl | hy
  ·rfl
  ·rfl
  ·rfl
  ·exact ih y hy
end Go.Proofs.YtjjkicffhpcngaaGreat
namespace Go.Proofs.YtjjkicffhpcngaaGreat
open Go.RowKit
namespace M
end M
theorem flat_set0 (l:List M.D):∀ (k:Nat) (h:k < l.length) (d:M.D),d.p=l[k].p→d.v=l[k].v→(flat l).set (k * 3) (.int .i64 d.k)=flat (l.set k d):=by
 induction l with
 | nil=>intro k h;exact absurd h (Nat.not_lt_zero _)
 | cons x l ih =>
  intro k h d h1 h2
  cases k with
  | zero=>simp only [List.getElem_cons_zero] at h1 h2;simp [flat,h1,h2]
  | succ k=>rw [show (k+1) * 3=k * 3+3 from by omega];simpa [flat] using ih k (by simpa using h) d (by simpa using h1) (by simpa using h2)
theorem flat_set1 (l:List M.D):∀ (k:Nat) (h:k < l.length) (d:M.D),d.k=l[k].k→d.v=l[k].v→(flat l).set (k * 3+1) (.int .i64 d.p)=flat (l.set k d):=by
 induction l with
 | nil=>intro k h;exact absurd h (Nat.not_lt_zero _)
 | cons x l ih =>
  intro k h d h1 h2
  cases k with
  | zero=>simp only [List.getElem_cons_zero] at h1 h2;simp [flat,h1,h2]
  | succ k=>rw [show (k+1) * 3+1=k * 3+1+3 from by omega];simpa [flat] using ih k (by simpa using h) d (by simpa using h1) (by simpa using h2)
theorem flat_set2 (l:List M.D):∀ (k:Nat) (h:k < l.length) (d:M.D),d.k=l[k].k→d.p=l[k].p→(flat l).set (k * 3+2) (.int .i64 d.v)=flat (l.set k d):=by
 induction l with
 | nil=>intro k h;exact absurd h (Nat.not_lt_zero _)
 | cons x l ih =>
  intro k h d h1 h2
  cases k with
  | zero=>simp only [List.getElem_cons_zero] at h1 h2;simp [flat,h1,h2]
  | succ k=>rw [show (k+1) * 3+2=k * 3+2+3 from by omega];simpa [flat] using ih k (by simpa using h) d (by simpa using h1) (by simpa using h2)
def Chg (w w':World) (g off:Nat) (d d':M.D):Prop:=∃ q,(w'=w.drewN q∧d'=d)∨(w'=(w.drewN q).setCell ⟨g,off,none⟩ (.int .i64 d'.k)∧d'.p=d.p∧d'.v=d.v)∨(w'=(w.drewN q).setCell ⟨g,off+1,none⟩ (.int .i64 d'.p)∧d'.k=d.k∧d'.v=d.v)∨(w'=(w.drewN q).setCell ⟨g,off+2,none⟩ (.int .i64 d'.v)∧d'.k=d.k∧d'.p=d.p)
theorem drewN_below (w:World) (q:Nat):Below w.heap.size w (w.drewN q):=⟨rfl,rfl,rfl,Nat.le_refl _,fun _ _=>rfl⟩
theorem own_chg {w w':World} {B g n cap k:Nat} {l:List M.D} {d':M.D} (h:w.ownsRow B 43 3 (.slice (some ⟨g,0,none⟩) n cap) n (flat l)) (hk:k < l.length) (hc:Chg w w' g (k * 3) l[k] d') :
  w'.ownsRow B 43 3 (.slice (some ⟨g,0,none⟩) n cap) n (flat (l.set k d'))∧w.grownBy w' (some g):=by
 obtain ⟨q,hc⟩:=hc
 have hq:=ownsRow_below h (drewN_below w q)
 have gq:∀ W,(w.drewN q).grownBy W (some g)→w.grownBy W (some g):=fun W hg=>⟨hg.os,hg.tape,hg.output,hg.size,hg.block⟩
 rcases hc with ⟨rfl,rfl⟩ | ⟨rfl,h1,h2⟩ | ⟨rfl,h1,h2⟩ | ⟨rfl,h1,h2⟩
 ·exact ⟨by rw [List.set_getElem_self];exact hq,⟨rfl,rfl,rfl,Nat.le_refl _,fun _ _ _=>rfl⟩⟩
 ·obtain ⟨ho,hg⟩:=hq.stored (k * 3) (.int .i64 d'.k)
  rw [flat_set0 l k hk d' h1 h2] at ho
  exact ⟨ho,gq _ hg⟩
 ·obtain ⟨ho,hg⟩:=hq.stored (k * 3+1) (.int .i64 d'.p)
  rw [flat_set1 l k hk d' h1 h2] at ho
  exact ⟨ho,gq _ hg⟩
 ·obtain ⟨ho,hg⟩:=hq.stored (k * 3+2) (.int .i64 d'.v)
  rw [flat_set2 l k hk d' h1 h2] at ho
  exact ⟨ho,gq _ hg⟩
end Go.Proofs.YtjjkicffhpcngaaGreat
namespace Go.Proofs.YtjjkicffhpcngaaGreat
open Go.RowKit
theorem run_append_emp0 {P:Program} (w:World) (t ty e:TypeId) (i:TypeInfo) (ht:P.underlying t=some (.slice e)) (hi:P.info? e=some i) (ad:Addr) (a:Option Addr) (c:Nat) :
  (Builtin.append_ #[t,t] ty #[.slice (some ad) 0 0,.slice a 0 c]).run P w=.ok (.slice (some ad) 0 0) w:=by
 cases a
 ·simp [Builtin.append_,run_underlying ht,sizeOf,typeInfo,hi,Builtin.lenOf,Builtin.firstCells,storeCells]
 ·simp [Builtin.append_,run_underlying ht,sizeOf,typeInfo,hi,Builtin.lenOf,Builtin.firstCells,loadCells,loadCellsFrom,storeCells]
theorem grow_refl (w:World) (row:Option Nat):w.grownBy w row:=⟨rfl,rfl,rfl,Nat.le_refl _,fun _ _ _=>rfl⟩
theorem own_emp {X:World} {base g size:Nat} {e:TypeId} (h:X.heap[g]?=some (.cells #[] e (0,0))) (hb:base≤g):X.ownsRow base e size (.slice (some ⟨g,0,none⟩) 0 0) 0 [] :=
 ⟨by simp,.inr ⟨g,0,#[],rfl,hb,h,Nat.le_refl _,Nat.zero_le _,by simp,by simp⟩⟩
theorem wp_append_does {P:Program} {o:Oper} {a:Act} {w:World} {K:Act→World→Prop} {Q:Exit→Act→World→Prop} (s x:Operand) (t:TypeId)
  (ho:o.op=.call { callee:=.builtin .append,args:=#[s,x],argTypes:=#[t,t] }) (d:Option Tmp) (hd:o.dst=d) (base:Nat) (e:TypeId) (i:TypeInfo) (ht:P.underlying t=some (.slice e)) (hi:P.info? e=some i) (hz0:i.zero=some (.agg #[.int .i64 0,.int .i64 0,.int .i64 0])) (hz1:i.size=3) (hz2:i.bytes=24)
  (g:Nat) (hs:a.eval s=.slice (some ⟨g,0,none⟩) 0 0) (hown:w.ownsRow base e 3 (.slice (some ⟨g,0,none⟩) 0 0) 0 []) (hbase:base≤w.heap.size) (sa:Option Addr) (b off c:Nat) (l:List M.D) (hx:a.eval x=.slice sa l.length c) (hI:DoS w sa b off l) (hl:l.length≤1048576)
  (h:∀ v' w',w'.ownsRow base e 3 v' l.length (flat l)→w.grownBy w' (some g)→(v'.ownBlock=some g∨v'.ownBlock=some w.heap.size)→K (a.put d v') w') :
  Oper.wp P o a w K Q:=by
 subst hd
 cases sa with
 | none =>
  have hl0:l=[]:=by
   rcases Nat.eq_zero_or_pos l.length with h0 | h0
   ·exact List.length_eq_zero_iff.1 h0
   ·cases hI.addr h0
  subst hl0
  rw [List.length_nil] at hx
  have hrun:=run_append_emp0 (P:=P) w t o.type e i ht hi ⟨g,0,none⟩ none c
  have hk:=h (.slice (some ⟨g,0,none⟩) 0 0) w hown (grow_refl _ _) (.inl rfl)
  unfold Oper.wp
  simp [execOp,ho,resolve,invoke,builtin,hs,hx,hrun,Result.andThen]
  exact hk
 | some ad =>
  have hn:∀ j u,(flat l)[j]?=some u→w.cell? (ad.add j)=some u:=fun j u hj=>by
   have hjl:=(List.getElem?_eq_some_iff.1 hj).1
   rw [flat_length] at hjl
   obtain ⟨rfl⟩:=hI.addr (by omega)
   exact DoS.flat_cells hI.row j u hj
  obtain ⟨v',w',hrun,h2,h3,_,h5⟩:=run_append_own_at (P:=P) w base t o.type e i (.agg #[.int .i64 0,.int .i64 0,.int .i64 0]) 3 24 ht hi hz0 hz1 hz2 rfl (by decide) (.slice (some ⟨g,0,none⟩) 0 0) 0 [] hown ad l.length c (flat l) (flat_length l) hn (flat_one' l) (by unfold maxLen;omega) (by omega) hbase
  have hk:=h v' w' (by simpa using h2) h3 h5
  unfold Oper.wp
  simp [execOp,ho,resolve,invoke,builtin,hs,hx,hrun,Result.andThen]
  exact hk
theorem wpList_append_does {P:Program} {ops:Array Oper} {rest:List Oper} {o:Oper} {a:Act} {w:World} {Q:Exit→Act→World→Prop} (hgd:o.guard=none) (s x:Operand) (t:TypeId)
  (ho:o.op=.call { callee:=.builtin .append,args:=#[s,x],argTypes:=#[t,t] }) (d:Option Tmp) (hd:o.dst=d) (base:Nat) (e:TypeId) (i:TypeInfo) (ht:P.underlying t=some (.slice e)) (hi:P.info? e=some i) (hz0:i.zero=some (.agg #[.int .i64 0,.int .i64 0,.int .i64 0])) (hz1:i.size=3) (hz2:i.bytes=24)
  (g:Nat) (hs:a.eval s=.slice (some ⟨g,0,none⟩) 0 0) (hown:w.ownsRow base e 3 (.slice (some ⟨g,0,none⟩) 0 0) 0 []) (hbase:base≤w.heap.size) (sa:Option Addr) (b off c:Nat) (l:List M.D) (hx:a.eval x=.slice sa l.length c) (hI:DoS w sa b off l) (hl:l.length≤1048576)
  (h:∀ v' w',w'.ownsRow base e 3 v' l.length (flat l)→w.grownBy w' (some g)→(v'.ownBlock=some g∨v'.ownBlock=some w.heap.size)→wpList P ops Q rest (a.put d v') w') :
  wpList P ops Q (o::rest) a w :=
 wpList_plain hgd fun _ hK=>wp_append_does s x t ho d hd base e i ht hi hz0 hz1 hz2 g hs hown hbase sa b off c l hx hI hl fun v' w' h1 h2 h3=>by
  subst hd
  exact hK _ _ (h v' w' h1 h2 h3)
end Go.Proofs.YtjjkicffhpcngaaGreat
namespace Go.Proofs.YtjjkicffhpcngaaGreat
namespace M
def cntR (fr:Int):List D→Nat
 | []=>0
 | d::l=>(if d.k==fr then 1 else 0)+cntR fr l
end M
end Go.Proofs.YtjjkicffhpcngaaGreat
