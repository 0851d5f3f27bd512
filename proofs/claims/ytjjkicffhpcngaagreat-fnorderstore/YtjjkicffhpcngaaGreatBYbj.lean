/- Numbers, rows of the call's own and boxes of two cells, while other blocks turn. No condition. And what goes with it: SnFar, DoSN, OkFrom, OrMath, SxSeen, SoIn, RvWl, LpXe, WaAns, DrKi, DrOa. -/
import Derived.Below
import Derived.BigQuiet
import Derived.Deep.AppendLies
import Derived.Deep.CutRange
import Derived.Deep.MidRow
import Derived.Deep.Quiet
import Derived.Deep.QuietTactic
import Derived.Deep.RegionHeld3
import Derived.Deep.RegionLaw
import Derived.Deep.RegionWith
import Derived.Deep.Slices
import Derived.Deep.WholeRow
import Derived.Handy
import Derived.Laws.AppendOwn
import Derived.Laws.AppendOwnNone
import Derived.Laws.IdiomCopy
import Derived.Laws.OwnMore
import Derived.LoopIn
import Derived.LoopNIn
import Derived.Maps.OwnIn
import Derived.OwnWalkIn
import Derived.RangeFuncBound
import Derived.RangeFuncLeaves
import Derived.RangeFuncNested
import Derived.Shelf.Abstract
import Derived.Shelf.SlSortCmp.NoneTotal
import Derived.Sort.Grow
import Derived.TacticsInMore
import Derived.WalkKit
import Derived.WalkLawsBesides
import Derived.WalkSpells
import Derived.Deep.OwnRows
import Derived.Test.YtjjkicffhpcngaaGreatRows
import Derived.Test.YtjjkicffhpcngaaGreatBYas
import Derived.Test.YtjjkicffhpcngaaGreatBYav
import Derived.Test.YtjjkicffhpcngaaGreatBYaw
import Derived.Test.YtjjkicffhpcngaaGreatBYbi
namespace Go.Proofs.YtjjkicffhpcngaaGreat
open Go.RowKit
theorem Slot2.grown {w w':World} {b B n:Nat} {x y v:Value} {xs:List Value} (h:Slot2 w b x y) (hg:w.grownBy w' v.ownBlock) (ho:w.ownsRow B 3 1 v n xs):Slot2 w' b x y:=by
 refine h.of (hg.block b h.lt fun e=>?_)
 rcases ho.2 with ⟨hv,_⟩ | ⟨g,cap,cur,hv,_,hh,_⟩
 ·rw [hv] at e;simp [Value.ownBlock] at e
 ·rw [hv] at e
  simp [Value.ownBlock] at e
  subst e
  rw [h.blk] at hh
  simp at hh
theorem own_below {v v':Value} {B2:Nat} (h:∀ k,v.ownBlock=some k→k < B2) (h':∀ k,v'.ownBlock=some k→B2≤k):v.ownBlock=none∨v.ownBlock≠v'.ownBlock:=by
 cases hv:v.ownBlock with
 | none=>exact Or.inl rfl
 | some k =>
  refine Or.inr fun e=>?_
  have h1:=h k hv
  have h2:=h' k e.symm
  omega
end Go.Proofs.YtjjkicffhpcngaaGreat
namespace Go.Proofs.YtjjkicffhpcngaaGreat
open Go.RowKit
theorem DoS.but {w w':World} {a:Option Addr} {rb b o:Nat} {l:List M.D} (h:DoS w a b o l) (hb:But rb w w') (hne:0 < l.length→b≠rb):DoS w' a b o l:=by
 refine ⟨h.addr,fun j hj=>?_⟩
 have hn:=hne (by omega)
 have hr:=h.row j hj
 have hl:=hr.lt
 exact ⟨(hb.cell (p:=⟨b,o+j * 3,none⟩) hl hn).trans hr.k,(hb.cell (p:=⟨b,o+j * 3+1,none⟩) hl hn).trans hr.p,(hb.cell (p:=⟨b,o+j * 3+2,none⟩) hl hn).trans hr.v⟩
theorem DoSN.but {N:Nat} {w w':World} {a:Option Addr} {rb b o:Nat} {ll:List (List M.D)} (h:DoSN N w a b o ll) (hb:But rb w w') (hr:rb < N):DoSN N w' a b o ll:=by
 refine ⟨h.addr,h.ge,fun j hj=>?_⟩
 obtain ⟨a',b',o',c',hc,hd,hg,hq⟩:=h.row j hj
 have:=h.ge (by omega)
 exact ⟨a',b',o',c',(hb.cell (p:=⟨b,o+j,none⟩) (World.block_lt_of_cell? _ _ hc) (by show b≠rb;omega)).trans hc,hd.but hb (fun hl=>by have:=hg hl;omega),hg,hq⟩
end Go.Proofs.YtjjkicffhpcngaaGreat
namespace Go.Proofs.YtjjkicffhpcngaaGreat
open Go.RowKit
namespace M
theorem tell_no {ds:List De} {x:De} {f:Int} (h:x.reads=false):mayTell ds x f=(f==-2):=by simp [mayTell,h]
theorem tell_at {ds:List De} {x:De} {n:Nat} (h:x.reads=true) (hn:n < ds.length):mayTell ds x (n:Int)=(ds[n]).to x.d.p:=by
 have h1:((n:Int)==-1)=false:=by simp
 have h2:decide ((0:Int)≤n)=true:=by simp
 have h3:decide ((n:Int) < ds.length)=true:=by simpa using hn
 simp only [mayTell,h,h1,h2,h3,Int.toNat_natCast,List.getElem?_eq_getElem hn]
 rfl
end M
end Go.Proofs.YtjjkicffhpcngaaGreat
namespace Go.Proofs.YtjjkicffhpcngaaGreat
namespace M
theorem mid_eq {ds:List De} {a b:Nat} (h:run false ds=some false) (hab:a < b) (hb:b < ds.length) (ha7:ds[a].d.k=7) (hb8:ds[b].d.k=8):(∀ q (hq:q < ds.length),a < q→q < b→ds[q].d.k≠8)↔(∀ q (hq:q < ds.length),a < q→q < b→ds[q].d.k≠7):=by
 have hb8':(ds.drop (a+1))[b - (a+1)]'(by rw [List.length_drop];omega)=ds[b]:=by
  rw [List.getElem_drop];congr 1;omega
 obtain ⟨i,j,_,h2,h3⟩:=run_at h (show a < ds.length by omega)
 obtain ⟨_,rfl⟩:=run_one7 h2 ha7
 have hlen:b - (a+1) < (ds.drop (a+1)).length:=by rw [List.length_drop];omega
 have e:ds.drop (a+1)=(ds.drop (a+1)).take (b - (a+1))++([ds[b]]++(ds.drop (a+1)).drop (b - (a+1)+1)):=by
  rw [List.singleton_append,← hb8',List.getElem_cons_drop hlen,List.take_append_drop]
 rw [e,run_append] at h3
 cases h1:run true ((ds.drop (a+1)).take (b - (a+1))) with
 | none=>rw [h1] at h3;simp at h3
 | some i' =>
  rw [h1] at h3
  simp only [Option.bind_some] at h3
  rw [run_append] at h3
  cases h4:run i' [ds[b]] with
  | none=>rw [h4] at h3;simp at h3
  | some j' =>
   obtain ⟨rfl,_⟩:=run_one8 h4 hb8
   have get:∀ x∈(ds.drop (a+1)).take (b - (a+1)),∃ q,∃ hq:q < ds.length,a < q∧q < b∧ds[q]=x:=fun x hx=>by
    obtain ⟨q,hq,rfl⟩:=List.getElem_of_mem hx
    rw [List.length_take,List.length_drop] at hq
    exact ⟨a+1+q,by omega,by omega,by omega,by rw [List.getElem_take,List.getElem_drop]⟩
   have put:∀ q (hq:q < ds.length),a < q→q < b→ds[q]∈(ds.drop (a+1)).take (b - (a+1)):=fun q hq h1 h2=>by
    have hl:q - (a+1) < ((ds.drop (a+1)).take (b - (a+1))).length:=by rw [List.length_take,List.length_drop];omega
    have:((ds.drop (a+1)).take (b - (a+1)))[q - (a+1)]=ds[q]:=by
     rw [List.getElem_take,List.getElem_drop];congr 1;omega
    rw [← this];exact List.getElem_mem hl
   constructor
   ·intro h8 q hq ha hb' e7
    exact (run_no8 _ _ _ h1 (fun x hx e=>by obtain ⟨p,hp,p1,p2,rfl⟩:=get x hx;exact h8 p hp p1 p2 e) rfl).2 _ (put q hq ha hb') e7
   ·intro h7 q hq ha hb' e8
    exact (run_no7 _ _ _ h1 (fun x hx e=>by obtain ⟨p,hp,p1,p2,rfl⟩:=get x hx;exact h7 p hp p1 p2 e) rfl).2 _ (put q hq ha hb') e8
theorem outFrom_ge:∀ (l:List De) (n:Nat),n≤outFrom n l:=by
 intro l
 induction l with
 | nil=>intro n;exact Nat.le_refl _
 | cons x l ih =>
  intro n
  unfold outFrom
  split
  ·exact Nat.le_refl _
  ·have:=ih (n+1);omega
def midFrom (ds:List De) (fr to_:Bool):Nat→Nat→Bool
 | 0,_=>true
 | n+1,k=>if (fr&&kAt ds k==8)||(to_&&kAt ds k==7) then false else midFrom ds fr to_ n (k+1)
theorem mid_iff {ds:List De} {fr to_:Bool}:∀ (n k:Nat),k+n≤ds.length→(midFrom ds fr to_ n k=true↔∀ q (hq:q < ds.length),k≤q→q < k+n→¬ (fr=true∧ds[q].d.k=8)∧¬ (to_=true∧ds[q].d.k=7)):=by
 intro n
 induction n with
 | zero=>intro k _;exact ⟨fun _ q hq h1 h2=>by omega,fun _=>rfl⟩
 | succ n ih =>
  intro k hk
  unfold midFrom
  rw [kAt_eq (show k < ds.length by omega)]
  have step:((fr&&ds[k].d.k==8)||(to_&&ds[k].d.k==7))=true↔((fr=true∧ds[k].d.k=8)∨(to_=true∧ds[k].d.k=7)):=by simp
  by_cases h:((fr&&ds[k].d.k==8)||(to_&&ds[k].d.k==7))=true
  ·rw [if_pos h]
   refine ⟨fun h=>(by cases h),fun hall=>?_⟩
   have:=hall k (by omega) (Nat.le_refl _) (by omega)
   rcases step.1 h with h | h
   ·exact absurd h this.1
   ·exact absurd h this.2
  ·rw [if_neg h,ih (k+1) (by omega)]
   have h':=fun x=>h (step.2 x)
   constructor
   ·intro hall q hq h1 h2
    by_cases e:q=k
    ·subst e;exact ⟨fun x=>h' (Or.inl x),fun x=>h' (Or.inr x)⟩
    ·exact hall q hq (by omega) (by omega)
   ·intro hall q hq h1 h2
    exact hall q hq (by omega) (by omega)
def inside (ds:List De) (a b:Nat) (x y:De):Bool:=(x.d.k==7||y.d.k==8)&&midFrom ds (x.d.k==7) (y.d.k==8) (b - (a+1)) (a+1)
theorem in_out_eq {ds:List De} {a b:Nat} (h:run false ds=some false) (hab:a < b) (hb:b < ds.length):(goesIn ds a b ds[a]||goesOut ds a b ds[b])=inside ds a b ds[a] ds[b]:=by
 have hm:=mid_iff (ds:=ds) (fr:=ds[a].d.k==7) (to_:=ds[b].d.k==8) (b - (a+1)) (a+1) (by omega)
 rw [show a+1+(b - (a+1))=b from by omega] at hm
 have ho:=le_outOf (ds:=ds) (a:=a) (b:=b) (by omega) (by omega)
 have hi:=inOf_le (ds:=ds) (a:=a) (b:=b) hb
 unfold goesIn goesOut inside
 by_cases h7:ds[a].d.k=7
 ·have e7:(ds[a].d.k==7)=true:=by simpa using h7
  rw [e7] at hm ⊢
  have ho':b≤outOf ds a↔∀ q (hq:q < ds.length),a < q→q < b→ds[q].d.k≠8:=by
   rw [ho]
   constructor
   ·intro h q hq h1 h2;exact h q hq (by omega) h2
   ·intro h q hq h1 h2
    by_cases e:q=a
    ·subst e;omega
    ·exact h q hq (by omega) h2
  by_cases h8:ds[b].d.k=8
  ·have e8:(ds[b].d.k==8)=true:=by simpa using h8
   rw [e8] at hm ⊢
   have hmid:=mid_eq h hab hb h7 h8
   have hi':inOf ds b≤a↔∀ q (hq:q < ds.length),a < q→q < b→ds[q].d.k≠7:=by
    rw [hi]
    constructor
    ·intro h q hq h1 h2;exact h q hq h1 (by omega)
    ·intro h q hq h1 h2
     by_cases e:q=b
     ·subst e;omega
     ·exact h q hq h1 (by omega)
   rw [Bool.eq_iff_iff]
   simp only [Bool.true_and,Bool.true_or,Bool.or_eq_true,decide_eq_true_eq]
   rw [hm,ho',hi',← hmid]
   constructor
   ·intro hx q hq h1 h2
    have hx:=hx.elim id id
    exact ⟨fun y=>hx q hq (by omega) h2 y.2,fun y=>hmid.1 hx q hq (by omega) h2 y.2⟩
   ·intro hx
    exact Or.inl fun q hq h1 h2 e=>(hx q hq (by omega) h2).1 ⟨rfl,e⟩
  ·have e8:(ds[b].d.k==8)=false:=by simpa using h8
   rw [e8] at hm ⊢
   rw [Bool.eq_iff_iff]
   simp only [Bool.true_and,Bool.false_and,Bool.or_false,decide_eq_true_eq]
   rw [hm,ho']
   constructor
   ·intro hx q hq h1 h2
    exact ⟨fun y=>hx q hq (by omega) h2 y.2,fun y=>by cases y.1⟩
   ·intro hx q hq h1 h2 e
    exact (hx q hq (by omega) h2).1 ⟨rfl,e⟩
 ·have e7:(ds[a].d.k==7)=false:=by simpa using h7
  rw [e7] at hm ⊢
  by_cases h8:ds[b].d.k=8
  ·have e8:(ds[b].d.k==8)=true:=by simpa using h8
   rw [e8] at hm ⊢
   have hi':inOf ds b≤a↔∀ q (hq:q < ds.length),a < q→q < b→ds[q].d.k≠7:=by
    rw [hi]
    constructor
    ·intro h q hq h1 h2;exact h q hq h1 (by omega)
    ·intro h q hq h1 h2
     by_cases e:q=b
     ·subst e;omega
     ·exact h q hq h1 (by omega)
   rw [Bool.eq_iff_iff]
   simp only [Bool.true_and,Bool.false_and,Bool.false_or,decide_eq_true_eq]
   rw [hm,hi']
   constructor
   ·intro hx q hq h1 h2
    exact ⟨fun y=>(by cases y.1),fun y=>hx q hq (by omega) h2 y.2⟩
   ·intro hx q hq h1 h2 e
    exact (hx q hq (by omega) h2).2 ⟨rfl,e⟩
  ·have e8:(ds[b].d.k==8)=false:=by simpa using h8
   rw [e8]
   simp
def sKeeps (ds:List De) (a b:Nat) (x y:De):Bool:=(isWall x.d.k||(isWall y.d.k||(x.d.k==5||(y.d.k==6||inside ds a b x y))))||copyOf a y
def stays (ds:List De) (kind:Nat) (a b:Nat) (x y:De):Bool :=
 match kind with
 | 0=>own a b x y&&onePl x y
 | 1=>own a b x y
 | 2=>late a b x y
 | _=>own a b x y&&sKeeps ds a b x y
theorem wr_rd {k:Int} (h:writes k=true):reads k=false:=by
 simp only [writes,stores,Bool.or_eq_true,beq_iff_eq] at h
 rcases h with (h | h) | h<;>subst h<;>rfl
theorem read_eq {ds:List De} {l:List Int} (hf:fromOk ds l=true) {a b:Nat} (ha:a < ds.length) (hb:b < ds.length):sRead l a b ds[a] ds[b]=read l a b:=by
 simp only [fromOk,Bool.and_eq_true,decide_eq_true_eq] at hf
 obtain ⟨hb2,ht⟩:=fromAt_get hf.2 b hb
 have hg:l.getD b 0=l[b]:=by simp [hb2]
 unfold sRead read
 rw [hg]
 by_cases e:l[b]=(a:Int)
 ·rw [e] at ht ⊢
  cases hr:ds[b].reads
  ·rw [tell_no hr] at ht;simp at ht
  ·rw [tell_at hr ha] at ht
   have hw:writes ds[a].d.k=true:=by
    simp only [De.to,Bool.and_eq_true] at ht;exact ht.1
   rw [hw,show reads ds[b].d.k=true from hr]
   simp
 ·have:(l[b]==(a:Int))=false:=by simpa using e
  rw [this];simp
theorem over_eq (l:List Int) (rows:List (List Int)) (a b:Nat) {ds:List De} (ha:a < ds.length) (hb:b < ds.length):sOver l rows a b ds[a] ds[b]=over l rows a b ds[a] ds[b]:=by
 unfold sOver over
 cases hw:writes ds[b].d.k
 ·simp
 ·cases ho:onePl ds[a] ds[b]
  ·simp
  ·have ho':=ho
   simp only [onePl,De.uses,M.uses,Bool.and_eq_true,beq_iff_eq] at ho'
   have hrb:rankAt l rows b ds[b]=idx (rows.getD ds[b].d.p.toNat []) (b:Int):=by rw [rankAt,if_pos hw]
   have hra:rankAt l rows a ds[a]=idx (rows.getD ds[b].d.p.toNat []) (wrote l a ds[a]):=by
    rw [rankAt,wrote,ho'.2.2]
    cases hr:reads ds[a].d.k
    ·have:writes ds[a].d.k=true:=by have:=ho'.1;rw [hr] at this;simpa using this
     rw [if_pos this];rfl
    ·have:writes ds[a].d.k=false:=by
      cases hwa:writes ds[a].d.k
      ·rfl
      ·rw [wr_rd hwa] at hr;cases hr
     rw [if_neg (by rw [this];simp)];rfl
   rw [hra,hrb]
   by_cases e:a=b
   ·subst e
    have:wrote l a ds[a]=(a:Int):=by rw [wrote,wr_rd hw];rfl
    rw [this];simp
   ·have:((a:Int)==(b:Int))=false:=by simp;omega
    rw [this];simp
theorem keeps_eq {ds:List De} {a b:Nat} (h:run false ds=some false) (hab:a < b) (hb:b < ds.length):sKeeps ds a b ds[a] ds[b]=keeps ds a b ds[a] ds[b]:=by
 unfold sKeeps keeps
 rw [← in_out_eq h hab hb]
 simp only [Bool.or_assoc]
theorem must_eq {ds:List De} {l:List Int} {rows:List (List Int)} (hf:fromOk ds l=true) (h:run false ds=some false) (kind:Nat) {a b:Nat} (ha:a < ds.length) (hb:b < ds.length):(stays ds kind a b ds[a] ds[b]||told l rows kind a b ds[a] ds[b])=must ds l rows kind a b ds[a] ds[b]:=by
 have hl:(own a b ds[a] ds[b]&&sKeeps ds a b ds[a] ds[b])=loose ds a b ds[a] ds[b]:=by
  unfold loose
  by_cases hab:a < b
  ·rw [keeps_eq h hab hb]
  ·have:own a b ds[a] ds[b]=false:=by simp [own,hab]
   rw [this];rfl
 unfold stays told must
 rw [read_eq hf ha hb,over_eq l rows a b ha hb]
 split
 ·rfl
 ·rfl
 ·rfl
 ·rw [hl]
  repeat' split
  all_goals first|contradiction|(rw [Bool.and_or_distrib_left])|(exfalso;simp_all;done)|rfl
end M
end Go.Proofs.YtjjkicffhpcngaaGreat
namespace Go.Proofs.YtjjkicffhpcngaaGreat
open Go.RowKit
namespace M
theorem rd_len (ds:List De) (l:List Int) (xs:List De):∀ n,(rdAt ds l n xs).length≤xs.length:=by
 induction xs with
 | nil=>intro n;simp [rdAt]
 | cons x xs ih =>
  intro n
  have:=ih (n+1)
  unfold rdAt
  split<;>simp<;>omega
end M
namespace M
end M
end Go.Proofs.YtjjkicffhpcngaaGreat
namespace Go.Proofs.YtjjkicffhpcngaaGreat
open Go.RowKit
theorem flatS_append (l m:List Sn):flatS (l++m)=flatS l++flatS m:=by
 induction l with
 | nil=>rfl
 | cons s l ih=>simp [flatS,ih]
end Go.Proofs.YtjjkicffhpcngaaGreat
namespace Go.Proofs.YtjjkicffhpcngaaGreat
open Go.RowKit
abbrev Y3:=Value × Value × List Value
end Go.Proofs.YtjjkicffhpcngaaGreat
namespace Go.Proofs.YtjjkicffhpcngaaGreat
open Go.RowKit Go.Shelf
structure LW (w:World) (a:Option Addr) (g:Nat) (xs:List M.Wy):Prop where
 addr:0 < xs.length→a=some ⟨g,0,none⟩
 row:∀ i (h:i < xs.length),∃ fa fb fc ra rb rc,w.cell? ⟨g,i * 2,none⟩=some (.slice fa xs[i].1.length fc)∧w.cell? ⟨g,i * 2+1,none⟩=some (.slice ra xs[i].2.length rc)∧IntS w fa fb 0 xs[i].1∧IntSS w ra rb 0 xs[i].2
theorem LW.below {w w':World} {a:Option Addr} {g:Nat} {xs:List M.Wy} (h:LW w a g xs) (hb:Below w.heap.size w w'):LW w' a g xs :=
 ⟨h.addr,fun i hi=>by
  obtain ⟨fa,fb,fc,ra,rb,rc,h1,h2,h3,h4⟩:=h.row i hi
  exact ⟨fa,fb,fc,ra,rb,rc,(hb.cell (p:=⟨g,i * 2,none⟩) (World.block_lt_of_cell? _ _ h1)).trans h1,(hb.cell (p:=⟨g,i * 2+1,none⟩) (World.block_lt_of_cell? _ _ h2)).trans h2,h3.below hb (Nat.le_refl _),h4.below hb (Nat.le_refl _)⟩⟩
end Go.Proofs.YtjjkicffhpcngaaGreat
namespace Go.Proofs.YtjjkicffhpcngaaGreat
open Go.RowKit
theorem M.mem_execAll {ll:List (List M.D)} {x:M.Wy}:x∈M.specAll ll↔M.execOk ll x.1 x.2=true:=by
 unfold M.specAll M.execOk
 cases hp:M.prog ll
 ·simp
 ·rw [if_pos rfl,Bool.true_and]
  exact M.mem_all
structure WyLe (x:M.Wy):Prop where
 a:x.1.length≤1048576
 b:x.2.length≤1048576
 c:∀ r∈x.2,r.length≤1048576
theorem own_two {w:World} {base n:Nat} {e:TypeId} {v:Value} {xs:List Value} (h:w.ownsRow base e 2 v n xs):∃ a g c,v=.slice a n c∧(0 < n→a=some ⟨g,0,none⟩)∧∀ j u,xs[j]?=some u→w.cell? ⟨g,j,none⟩=some u:=by
 rcases h.2 with ⟨hv,hn⟩ | ⟨g,cap,cur,hv,hg,hh,hc,r⟩
 ·have hx:xs=[]:=List.length_eq_zero_iff.1 (by rw [h.1,hn])
  subst hx
  exact ⟨none,0,0,by rw [hv,hn],fun h=>absurd h (by omega),fun j u hj=>(by simp at hj)⟩
 ·refine ⟨_,g,cap,hv,fun _=>rfl,fun j u hj=>?_⟩
  have:=h.cells (g:=g) (by rw [hv];rfl) j u hj
  rwa [Go.WideShapes.add_plain,Nat.zero_add] at this
theorem Xw.lw {W:World} {B:Nat} {fv ov:Value} {x:M.Wy} {cs:List Value} (h:Xw W B fv ov x.1 cs x.2):∃ fa fb fc ra rb rc,fv=.slice fa x.1.length fc∧ov=.slice ra x.2.length rc∧IntS W fa fb 0 x.1∧IntSS W ra rb 0 x.2:=h.reads
theorem RXL.lw {W:World} {base n:Nat} {v:Value} {cs:List Value} {xs:List M.Wy} (h:RXL W base v cs n xs):∃ a g c,v=.slice a xs.length c∧LW W a g xs:=by
 obtain ⟨a,g,c,e1,e2,e3⟩:=own_two h.own
 have hl:=h.len.out
 rw [← hl] at e1 e2
 refine ⟨a,g,c,e1,e2,fun i hi=>?_⟩
 obtain ⟨fv,ov,rc0,c1,c2,hx,_⟩:=h.row i hi
 obtain ⟨fa,fb,fc,ra,rb,rc,f1,f2,f3,f4⟩:=hx.lw
 exact ⟨fa,fb,fc,ra,rb,rc,by rw [← f1];exact e3 _ _ c1,by rw [← f2];exact e3 _ _ c2,f3,f4⟩
theorem SxaAns.lw {w w':World} {ll:List (List M.D)} {v:Value} (h:SxaAns w w' ll v):∃ a g c,v=.slice a (M.specAll ll).length c∧LW w' a g (M.specAll ll):=by
 obtain ⟨cs,n,hw,_⟩:=h.ex
 exact hw.lw
end Go.Proofs.YtjjkicffhpcngaaGreat
namespace Go.Proofs.YtjjkicffhpcngaaGreat
open Go.RowKit
set_option maxHeartbeats 1000000 in
set_option maxRecDepth 100000 in
theorem l71Kind_any (B rb p:Nat) (w:World) (hp:p≤900000) (h:Rdr w B rb p) :
  Calls Tryz.prog 48 #[.pointer (some ⟨rb,0,none⟩)] w fun e w'=>∃ r:Int,e=.returned (.int .i64 r)∧-1≤r∧r≤4∧Rdr w' B rb (p+2)∧But rb w w':=by
 have hlt:=h.lt
 go_enter Tryz.func48,Tryz.ntmps48
 go_wp2_with fail
 refine (pick_rdr B rb p 24 _ (by omega) (by omega) (by omega) h).mono ?_
 rintro e w1 ⟨r1,rfl,r10,r11,hr1,hb1⟩
 by_cases h0:r1=0
 ·subst h0
  have hal:=below1 w1 (.cells #[.int .i64 0,.int .i64 4,.int .i64 (-1)] 3)
  have hr2:=hr1.below hal (Nat.le_refl _)
  have hl1:=hb1.size
  go_wp2_with fail
  refine (pick_rdr B rb (p+1) 3 _ (by omega) (by omega) (by omega) hr2).mono ?_
  rintro e w2 ⟨r2,rfl,r20,r21,hr3,hb2⟩
  have c0:(w1.alloc (.cells #[.int .i64 0,.int .i64 4,.int .i64 (-1)] 3)).cell? ⟨w1.heap.size,0,none⟩=some (.int .i64 0):=by simp
  have c1:(w1.alloc (.cells #[.int .i64 0,.int .i64 4,.int .i64 (-1)] 3)).cell? ⟨w1.heap.size,1,none⟩=some (.int .i64 4):=by simp
  have c2:(w1.alloc (.cells #[.int .i64 0,.int .i64 4,.int .i64 (-1)] 3)).cell? ⟨w1.heap.size,2,none⟩=some (.int .i64 (-1)):=by simp
  have d0:=(hb2.cell (p:=⟨w1.heap.size,0,none⟩) (by simp) (by show w1.heap.size≠rb;omega)).trans c0
  have d1:=(hb2.cell (p:=⟨w1.heap.size,1,none⟩) (by simp) (by show w1.heap.size≠rb;omega)).trans c1
  have d2:=(hb2.cell (p:=⟨w1.heap.size,2,none⟩) (by simp) (by show w1.heap.size≠rb;omega)).trans c2
  have hbw:=(hb1.trans (But.of hal)).trans hb2
  clear c0 c1 c2 hal
  have hr:r2=0∨r2=1∨r2=2:=by omega
  rcases hr with rfl | rfl | rfl
  ·go_wp2_with fail
   go_ret
   exact ⟨_,rfl,by omega,by omega,hr3,hbw⟩
  ·go_wp2_with fail
   go_ret
   exact ⟨_,rfl,by omega,by omega,hr3,hbw⟩
  ·go_wp2_with fail
   go_ret
   exact ⟨_,rfl,by omega,by omega,hr3,hbw⟩
 ·have b0:(r1==0)=false:=by simp [h0]
  go_wp2_with fail
  refine (pick_rdr B rb (p+1) 3 _ (by omega) (by omega) (by omega) hr1).mono ?_
  rintro e w2 ⟨r2,rfl,r20,r21,hr3,hb2⟩
  go_wp2_with fail
  go_ret
  exact ⟨_,rfl,by (try rw [IntKind.wrap_i64]);omega,by (try rw [IntKind.wrap_i64]);omega,hr3,hb1.trans hb2⟩
end Go.Proofs.YtjjkicffhpcngaaGreat
namespace Go.Proofs.YtjjkicffhpcngaaGreat
open Go.RowKit
set_option maxHeartbeats 1000000 in
set_option maxRecDepth 100000 in
theorem DrawOrderAll_any (ca:Option Addr) (cb co L C:Nat) (x:Nat→Int) (w:World) (hL:L≤C) (had:0 < L→ca=some ⟨cb,co,none⟩) (hc:∀ i,i < L→w.cell? ⟨cb,co+i,none⟩=some (.int .u8 (x i))∧0≤x i∧x i≤255) (hLb:L≤1048576) :
  Calls Tryz.prog 19 #[.slice ca L C] w fun e w'=>∃ (a:Option Addr) (g c:Nat) (mm:List (List M.D)) (kind:Int),e=.returned (.tuple #[.agg #[.slice a mm.length c],.int .i64 kind])∧DoSN (w.heap.size+1) w' a g 0 mm∧Small mm c∧-1≤kind∧kind≤4∧Below w.heap.size w w':=by
 go_enter Tryz.func19,Tryz.ntmps19
 go_wp2_with fail
 have hb0:=below1 w (.cells #[.slice none 0 0] 25)
 refine (l6Open_any ca cb co L C x _ hL had (fun i hi=>⟨by rw [hb0.cell (p:=⟨cb,co+i,none⟩) (World.block_lt_of_cell? _ _ (hc i hi).1)];exact (hc i hi).1,(hc i hi).2⟩) hLb).mono ?_
 rintro e w1 ⟨rfl,hr1,hb1⟩
 simp only [World.size_alloc] at hr1 hb1 ⊢
 have hb1w:Below w.heap.size w w1:=hb0.trans (hb1.mono (by omega))
 have hS1:=(Slot1.new w (.slice none 0 0) 25).but (But.of (rb:=w.heap.size+1) (by simpa only [World.size_alloc] using hb1)) (by omega)
 have hlt1:=hr1.lt
 clear hc had hb0 hb1
 go_wp2_with fail
 refine (l71Any_any _ (w.heap.size+1) 0 _ (by omega) hr1).mono ?_
 rintro e w2 ⟨a,g,c,mm,rfl,hsn,hsm,p2,hp2,hr2,hb2⟩
 have hS2:=hS1.but hb2 (by omega)
 have hbw:Below w.heap.size w w2:=But.below hb1w hb2 (by omega)
 have hl2:=hr2.lt
 go_wp2_with fail
 refine (l71Kind_any _ (w.heap.size+1) p2 _ (by omega) hr2).mono ?_
 rintro e w3 ⟨kind,rfl,k0,k1,hr3,hb3⟩
 have hS3:=hS2.but hb3 (by omega)
 have s0:=hS3.c
 have sf:=hS3.fz
 have hsl:=hS3.lt
 have hsn3:=(hsn.mono (N':=w.heap.size+1+1) (by omega)).but hb3 (by omega)
 have hbw3:Below w.heap.size w w3:=But.below hbw hb3 (by omega)
 go_wp2_with fail
 have s4:=(hS3.set (.slice a mm.length c)).c
 refine bodyPost_ret (v:=.tuple #[.agg #[.slice a mm.length c],.int .i64 kind]) (by simp [results,Tryz.results19,go_sem,s4]) rfl ⟨a,g,c,mm,kind,rfl,(hsn3.far (by omega)).mono (by omega),hsm,k0,k1,hbw3.setCell (Nat.le_refl _) _⟩
end Go.Proofs.YtjjkicffhpcngaaGreat
