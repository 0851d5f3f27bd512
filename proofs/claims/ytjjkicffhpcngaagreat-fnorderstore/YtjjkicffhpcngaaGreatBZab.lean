/- laws.lpReaders, lpWaits, lpUses: whether a step of a kind, or of a place, is there. Of at most 1048576 threads and steps. And what goes with it: LpAny, ApSn, RwMath, SrMath, LawSr. -/
import Derived.Below
import Derived.BigQuiet
import Derived.Deep.AppendLies
import Derived.Deep.AppendSrc
import Derived.Deep.CutRange
import Derived.Deep.MidRow
import Derived.Deep.Quiet
import Derived.Deep.QuietTactic
import Derived.Deep.RegionHeld3
import Derived.Deep.RegionLaw
import Derived.Deep.RegionWith
import Derived.Deep.Slices
import Derived.Deep.WholeRow
import Derived.Handy
import Derived.Laws.AppendOwn
import Derived.Laws.AppendOwnNone
import Derived.Laws.EntriesVeiled
import Derived.Laws.IdiomCopy
import Derived.Laws.OwnMore
import Derived.LoopIn
import Derived.LoopN
import Derived.LoopNIn
import Derived.Maps.AppendAt
import Derived.Maps.OwnIn
import Derived.OwnWalkIn
import Derived.RangeFuncBound
import Derived.RangeFuncLeaves
import Derived.RangeFuncNested
import Derived.Shelf.Abstract
import Derived.Shelf.SlSortCmp.NoneTotal
import Derived.Sort.Grow
import Derived.TacticsInMore
import Derived.WalkKit
import Derived.WalkLawsBesides
import Derived.WalkSpells
import Derived.Deep.OwnRows
import Derived.Test.YtjjkicffhpcngaaGreatRows
import Derived.Test.YtjjkicffhpcngaaGreatBYaz
import Derived.Test.YtjjkicffhpcngaaGreatBYbc
import Derived.Test.YtjjkicffhpcngaaGreatBYbt
import Derived.Test.YtjjkicffhpcngaaGreatBYbw
import Derived.Test.YtjjkicffhpcngaaGreatBYbx
import Derived.Test.YtjjkicffhpcngaaGreatBYby
import Derived.Test.YtjjkicffhpcngaaGreatBYca
import Derived.Test.YtjjkicffhpcngaaGreatBYcv
import Derived.Test.YtjjkicffhpcngaaGreatBYcy
import Derived.Test.YtjjkicffhpcngaaGreatBYcz
namespace Go.Proofs.YtjjkicffhpcngaaGreat
open Go.RowKit
namespace M
def usesP (p:Int) (d:D):Bool:=d.p==p&&(d.k != 4&&(d.k != 7&&(d.k != 8&&d.k != 9)))
end M
set_option maxHeartbeats 2000000 in
set_option maxRecDepth 100000 in
theorem lpUses_any (a:Option Addr) (b o c:Nat) (ll:List (List M.D)) (pl:Int) (w:World) (hl:ll.length≤1048576) (hls:∀ t∈ll,t.length≤1048576) (h:DoSS w a b o ll) :
  Calls Tryz.prog 36 #[.agg #[.slice a ll.length c],.int .i64 pl] w fun e w'=>e=.returned (.bool (M.anyK (M.usesP pl) ll))∧Below w.heap.size w w':=by
 have b1:=below1 w (.cells #[.slice a ll.length c] 25)
 have hX:=(Slot1.new w (.slice a ll.length c) 25).c
 have hD:=h.below b1 (Nat.le_refl _)
 go_enter Tryz.func36,Tryz.ntmps36
 go_wp2_with fail
 generalize w.alloc (.cells #[.slice a ll.length c] 25)=W2 at *
 go_loopw [5] (fun s wr=>Below W2.heap.size W2 wr∧∃ n:Nat,s=.int .i64 n∧n≤ll.length∧Hid (∀ i (hi:i < ll.length),i < n→M.anyT (M.usesP pl) ll[i]=false)) (fun s _=>ll.length - (intOf s).toNat)
 case atStart=>exact ⟨Below.refl _ _,0,rfl,Nat.zero_le _,fun i hi h=>absurd h (Nat.not_lt_zero _)⟩
 case round =>
  obtain ⟨hbr,n,rfl,hn,HN⟩:=hrel
  have lX:=World.block_lt_of_cell? _ _ hX
  have hXr:=(hbr.cell (p:=⟨w.heap.size,0,none⟩) lX).trans hX
  have hDr:=hD.below hbr (Nat.le_refl _)
  by_cases hlt:n < ll.length
  ·obtain ⟨rfl⟩:=h.addr (by omega)
   obtain ⟨a',b',o',c',hc0,hd0⟩:=hDr.row n hlt
   have htl:=hls _ (List.getElem_mem hlt)
   have HNX:Hid (M.anyT (M.usesP pl) ll[n]=false→∀ i (hi:i < ll.length),i < n+1→M.anyT (M.usesP pl) ll[i]=false):=fun h0 i hi h1=>by
    rcases Nat.lt_or_ge i n with h2 | h2
    ·exact HN.out i hi h2
    ·obtain rfl:i=n:=by omega
     exact h0
   have HY:Hid (∀ k (hk:k < ll[n].length),(M.usesP pl) ll[n][k]=true→M.anyK (M.usesP pl) ll=true):=fun k hk h0=>M.anyK_yes hlt hk h0
   generalize ll[n]=t at *
   have i1:(n:Int) < ll.length:=by omega
   obtain ⟨W3,hW3⟩:∃ W3,W3=wr:=⟨_,rfl⟩
   subst hW3
   go_wp2_with fail
   go_loopw [6] (fun s wi=>Below W3.heap.size W3 wi∧∃ k:Nat,s=.int .i64 k∧k≤t.length∧Hid (∀ i (hi:i < t.length),i < k→(M.usesP pl) t[i]=false)) (fun s _=>t.length - (intOf s).toNat)
   case atStart=>exact ⟨Below.refl _ _,0,rfl,Nat.zero_le _,fun i hi h=>absurd h (Nat.not_lt_zero _)⟩
   case round =>
    obtain ⟨hbi,k,rfl,hk,HK⟩:=hrel
    have lX3:=World.block_lt_of_cell? _ _ hXr
    have hXi:=(hbi.cell (p:=⟨w.heap.size,0,none⟩) lX3).trans hXr
    have hci:=(hbi.cell (p:=⟨b,o+n,none⟩) (World.block_lt_of_cell? _ _ hc0)).trans hc0
    have hdi:=hd0.below hbi (Nat.le_refl _)
    have hbw:=b1.trans ((hbr.trans (hbi.mono hbr.size)).mono b1.size)
    by_cases hkt:k < t.length
    ·obtain ⟨rfl⟩:=hdi.addr (by omega)
     have hat:=hdi.row k hkt
     have HKX:Hid ((M.usesP pl) t[k]=false→∀ i (hi:i < t.length),i < k+1→(M.usesP pl) t[i]=false):=fun h0 i hi h1=>by
      rcases Nat.lt_or_ge i k with h2 | h2
      ·exact HK.out i hi h2
      ·obtain rfl:i=k:=by omega
       exact h0
     have HYK:Hid ((M.usesP pl) t[k]=true→M.anyK (M.usesP pl) ll=true):=HY.out k hkt
     generalize t[k]=d at *
     obtain ⟨kk,pp,vv⟩:=d
     obtain ⟨ck,cp,cv'⟩:=hat
     have j1:(k:Int) < t.length:=by omega
     have bA:=below1 wr (.cells #[.int .i64 kk,.int .i64 pp,.int .i64 vv] 43)
     have bwA:=hbw.trans (bA.mono hbw.size)
     have biA:=hbi.trans (bA.mono hbi.size)
     cases hf:M.usesP pl ⟨kk,pp,vv⟩
     ·have hfk:=HKX.out hf
      unfold M.usesP at hf
      simp only at hf
      cases h1:(pp==pl)
      ·go_wp2_with fail
       exact ⟨⟨biA,k+1,by go_num,by omega,hfk⟩,by simp [intOf];omega⟩
      ·cases h4:(kk != 4)
       ·go_wp2_with fail
        exact ⟨⟨biA,k+1,by go_num,by omega,hfk⟩,by simp [intOf];omega⟩
       ·cases h7:(kk != 7)
        ·go_wp2_with fail
         exact ⟨⟨biA,k+1,by go_num,by omega,hfk⟩,by simp [intOf];omega⟩
        ·cases h8:(kk != 8)
         ·go_wp2_with fail
          exact ⟨⟨biA,k+1,by go_num,by omega,hfk⟩,by simp [intOf];omega⟩
         ·cases h9:(kk != 9)
          ·go_wp2_with fail
           exact ⟨⟨biA,k+1,by go_num,by omega,hfk⟩,by simp [intOf];omega⟩
          ·simp [h1,h4,h7,h8,h9] at hf
     ·have hy:=HYK.out hf
      unfold M.usesP at hf
      simp only [Bool.and_eq_true] at hf
      obtain ⟨h1,h4,h7,h8,h9⟩:=hf
      go_wp2_with fail
      go_ret
      exact ⟨rfl,bwA⟩
    ·have j1:¬ (k:Int) < t.length:=by omega
     have hT:M.anyT (M.usesP pl) t=false:=M.anyT_all (by omega) HK.out
     go_wp2_with fail
     exact ⟨⟨hbr.trans (hbi.mono hbr.size),n+1,by go_num,by omega,HNX.out hT⟩,by simp [intOf];omega⟩
  ·have hkn':¬ (n:Int) < ll.length:=by omega
   have hF:M.anyK (M.usesP pl) ll=false:=M.anyK_all (by omega) HN.out
   go_wp2_with fail
   go_ret
   exact ⟨rfl,b1.trans (hbr.mono b1.size)⟩
end Go.Proofs.YtjjkicffhpcngaaGreat
namespace Go.Proofs.YtjjkicffhpcngaaGreat
open Go.RowKit
theorem step_append_sn {P:Program} {ops:Array Oper} {o:Oper} {a:Act} {w:World} {K:Act→World→Prop} {Q:Exit→Act→World→Prop} {E:Prop} (hgd:o.guard=none) (s x:Operand) (t:TypeId)
  (ho:o.op=.call { callee:=.builtin .append,args:=#[s,x],argTypes:=#[t,t] }) (d:Option Tmp) (hdst:o.dst=d) (base:Nat) (e:TypeId) (i:TypeInfo) (z:Value) (bytes:Nat) (ht:P.underlying t=some (.slice e)) (hi:P.info? e=some i) (hz0:i.zero=some z) (hz1:i.size=2) (hz2:i.bytes=bytes) (hzs:z.cells.size=2)
  (v:Value) (n:Nat) (xs:List Value) (hs:a.eval s=v) (hown:w.ownsRow base e 2 v n xs) (hbase:base≤w.heap.size) (L:Nat) (y1 y2:Value) (hx:a.eval x=.slice (some ⟨L,0,none⟩) 1 1) (hc1:w.cell? ⟨L,0,none⟩=some y1) (hc2:w.cell? ⟨L,1,none⟩=some y2) (o1:y1.oneCell'=true) (o2:y2.oneCell'=true) (h63:n+1≤maxLen) (hbytes:(n+1) * bytes≤140737488355328)
  (h:∀ v' w',w'.ownsRow base e 2 v' (n+1) (xs++[y1,y2])→w.grownBy w' v.ownBlock→(v'.ownBlock=v.ownBlock∨v'.ownBlock=some w.heap.size)→K (a.put d v') w') :
  if Region.wanted o (yielded ops a.tmps)=true then Oper.wp P o a w K Q else E:=by
 have hw:Region.wanted o (yielded ops a.tmps)=true:=by simp [Region.wanted,hgd]
 rw [if_pos hw]
 subst hdst
 have hn:∀ j u,[y1,y2][j]?=some u→w.cell? ((⟨L,0,none⟩:Addr).add j)=some u:=fun j u hj=>by
  rw [Go.WideShapes.add_plain]
  match j,hj with
  | 0,hj=>obtain rfl:=Option.some.inj hj;exact hc1
  | 1,hj=>obtain rfl:=Option.some.inj hj;exact hc2
  | j+2,hj=>simp at hj
 obtain ⟨v',w',hrun,h2,h3,_,h5⟩:=run_append_own_at (P:=P) w base t o.type e i z 2 bytes ht hi hz0 hz1 hz2 hzs (by decide) v n xs hown ⟨L,0,none⟩ 1 1 [y1,y2] rfl hn (fun y hy=>by
  rcases List.mem_cons.1 hy with rfl | hy
  ·exact o1
  ·rw [List.mem_singleton.1 hy];exact o2) h63 hbytes hbase
 have hk:=h v' w' h2 h3 h5
 unfold Oper.wp
 simp [execOp,ho,resolve,invoke,builtin,hs,hx,hrun,Result.andThen]
 exact hk
theorem intS_three (w:World) (x y z:Int):IntS (w.alloc (.cells #[.int .i64 x,.int .i64 y,.int .i64 z] 3)) (some ⟨w.heap.size,0,none⟩) w.heap.size 0 [x,y,z]:=⟨fun _=>rfl,fun i hi=>by
 match i,hi with
 | 0,_=>simp
 | 1,_=>simp
 | 2,_=>simp⟩
structure PutEnd (W:World) (Q gq n c:Nat) (mm:List (List M.D)) (wc:World):Prop where
 ss:DoSS wc (some ⟨gq,0,none⟩) gq 0 mm
 q:Slot1 wc Q (.slice (some ⟨gq,0,none⟩) n c)
 bel:Below W.heap.size W wc
theorem set_last {m0:List (List M.D)} {l0 l1:List M.D}:(m0++[l0]).set m0.length l1=m0++[l1]:=by simp
end Go.Proofs.YtjjkicffhpcngaaGreat
namespace Go.Proofs.YtjjkicffhpcngaaGreat
namespace M
theorem wrs_app (p:Int):∀ (l m:List De) (n:Nat),wrs p n (l++m)=wrs p n l++wrs p (n+l.length) m
 | [],m,n=>by simp [wrs]
 | x::l,m,n=>by
  rw [List.cons_append,wrs,wrs,wrs_app p l m (n+1),List.length_cons,show n+1+l.length=n+(l.length+1) by omega]
  split<;>simp
theorem leads_cut {E F:List Lk} {n:Nat} (hE:∀ u v,(u,v)∈E→u < n∧(v < n→(u,v)∈F)) {u v:Nat} (h:Leads E u v):u < n∧(v < n→Leads F u v):=by
 induction h with
 | one h1=>exact ⟨(hE _ _ h1).1,fun hv=>.one ((hE _ _ h1).2 hv)⟩
 | more _ h2 ih=>exact ⟨ih.1,fun hv=>.more (ih.2 (hE _ _ h2).1) ((hE _ _ h2).2 hv)⟩
theorem round_cut {E F:List Lk} {n:Nat} (hE:∀ u v,(u,v)∈E→u < n∧(v < n→(u,v)∈F)) (h:Round E):Round F:=by
 obtain ⟨a,ha⟩:=h
 have:=leads_cut hE ha
 exact ⟨a,this.2 this.1⟩
theorem sat_cut {E F:List Lk} {n:Nat} {cs:List Ch} (hE:∀ u v,(u,v)∈E→u < n∧(v < n→(u,v)∈F)) (hc:∀ c∈cs,Inn n c) (h:Sat F cs):Sat E cs:=by
 obtain ⟨S,h1,h2⟩:=sat_iff.1 h
 refine sat_iff.2 ⟨(cs.flatMap fun c=>[c.1,c.2]).filter fun l=>decide (l∈S),fun c hcc=>?_,fun hr=>h2 (round_cut (n:=n) (fun u v hl=>?_) hr)⟩
 ·rcases h1 c hcc with h3 | h3
  ·exact .inl (List.mem_filter.2 ⟨List.mem_flatMap.2 ⟨c,hcc,by simp⟩,by simpa using h3⟩)
  ·exact .inr (List.mem_filter.2 ⟨List.mem_flatMap.2 ⟨c,hcc,by simp⟩,by simpa using h3⟩)
 ·rcases List.mem_append.1 hl with hl | hl
  ·obtain ⟨hm,hS⟩:=List.mem_filter.1 hl
   obtain ⟨c0,hc0,hin⟩:=List.mem_flatMap.1 hm
   have hi:=hc c0 hc0
   have hS':(u,v)∈S:=by simpa using hS
   refine ⟨?_,fun _=>List.mem_append.2 (.inl hS')⟩
   rcases List.mem_cons.1 hin with e | e
   ·have:u=c0.1.1:=congrArg Prod.fst e
    rw [this];exact hi.1.1
   ·have:u=c0.2.1:=congrArg Prod.fst (List.mem_singleton.1 e)
    rw [this];exact hi.2.1
  ·exact ⟨(hE u v hl).1,fun hv=>List.mem_append.2 (.inr ((hE u v hl).2 hv))⟩
structure Cut (n:Nat) (l m:List Int):Prop where
 at_:∀ a,a < n→m.getD a 0=l.getD a 0
section
variable {ds : List De} {x : De}
theorem ext_get {a:Nat} (ha:a < ds.length):(ds++[x])[a]?=ds[a]?:=List.getElem?_append_left ha
theorem ext_val {l m:List Int} (hc:Cut ds.length l m) {a:Nat} (ha:a < ds.length):valFrom (ds++[x]) m a=valFrom ds l a:=by
 unfold valFrom
 rw [ext_get ha,hc.at_ a ha]
theorem ext_orig {l m:List Int} (hc:Cut ds.length l m) (hin:In ds l):∀ (k a:Nat),a < ds.length→M.orig (ds++[x]) m k a=M.orig ds l k a
 | 0,a,_=>rfl
 | k+1,a,ha=>by
  rw [M.orig,M.orig,ext_val hc ha]
  have:=hin a ha
  split
  ·rfl
  ·exact ext_orig hc hin k _ (by omega)
theorem ext_outs {a b:Nat} (ha:a≤ds.length) (hb:b≤ds.length):b≤outOf (ds++[x]) a↔b≤outOf ds a:=by
 rw [le_outOf (by simp;omega) (by simp;omega),le_outOf ha hb]
 constructor
 ·intro h q hq h1 h2
  have:=h q (by simp;omega) h1 h2
  rwa [List.getElem_append_left hq] at this
 ·intro h q hq h1 h2
  rw [List.getElem_append_left (by omega)]
  exact h q (by omega) h1 h2
theorem ext_ins {a b:Nat} (hb:b < ds.length):inOf (ds++[x]) b≤a↔inOf ds b≤a:=by
 rw [inOf_le (by simp;omega),inOf_le hb]
 constructor
 ·intro h q hq h1 h2
  have:=h q (by simp;omega) h1 h2
  rwa [List.getElem_append_left hq] at this
 ·intro h q hq h1 h2
  rw [List.getElem_append_left (by omega)]
  exact h q (by omega) h1 h2
theorem ext_must {l m:List Int} {rows:List (List Int)} (hc:Cut ds.length l m) (k:Nat) {a b:Nat} {s t:De} (ha:a < ds.length) (hb:b < ds.length):M.must (ds++[x]) m rows k a b s t=M.must ds l rows k a b s t:=by
 have hr:read m a b=read l a b:=by unfold read;rw [hc.at_ b hb]
 have hw:wrote m a s=wrote l a s:=by unfold wrote;rw [hc.at_ a ha]
 have ho:over m rows a b s t=over l rows a b s t:=by unfold over;rw [hw]
 have hl:loose (ds++[x]) a b s t=loose ds a b s t:=by
  unfold loose keeps goesIn goesOut
  rw [show decide (b≤outOf (ds++[x]) a)=decide (b≤outOf ds a) by rw [decide_eq_decide];exact ext_outs (by omega) (by omega),show decide (inOf (ds++[x]) b≤a)=decide (inOf ds b≤a) by rw [decide_eq_decide];exact ext_ins hb]
 unfold M.must
 rw [hr,ho,hl]
theorem ext_choices (h7:x.d.k≠7) (h9:x.d.k≠9) (hr:run false ds=some false) (c:Ch):c∈choices (ds++[x])↔c∈choices ds:=by
 have outE:∀ (r:Nat) (hr':r < ds.length),ds[r].d.k=7→outOf (ds++[x]) r=outOf ds r:=fun r hrl hk=>by
  obtain ⟨ho,hk8⟩:=M.out_at hr hrl hk
  have h1:=(ext_outs (x:=x) (a:=r) (b:=outOf ds r) (by omega) (by omega)).2 (Nat.le_refl _)
  have hge:r≤outOf ds r:=(le_outOf (by omega) (by omega)).2 fun q _ a b=>by omega
  apply Nat.le_antisymm _ h1
  apply Classical.byContradiction
  intro hn
  have:=(le_outOf (ds:=ds++[x]) (a:=r) (b:=outOf ds r+1) (by simp;omega) (by simp;omega)).1 (by omega) (outOf ds r) (by simp;omega) hge (by omega)
  rw [List.getElem_append_left ho] at this
  exact this hk8
 rw [mem_choices,mem_choices]
 constructor
 ·rintro ⟨w,r,y,z,hy,h1,h2,hz,h3,rfl⟩
  have hw:w < ds.length:=by
   rcases get_snoc hy with hy | ⟨_,rfl⟩
   ·exact lt_of_get hy
   ·exact absurd h1 h9
  have hrl:r < ds.length:=by
   rcases get_snoc hz with hz | ⟨_,rfl⟩
   ·exact lt_of_get hz
   ·exact absurd h3 h7
  rw [ext_get hw] at hy
  rw [ext_get hrl] at hz
  obtain ⟨_,rfl⟩:=List.getElem?_eq_some_iff.1 hz
  exact ⟨w,r,y,_,hy,h1,h2,hz,h3,by rw [outE r hrl h3]⟩
 ·rintro ⟨w,r,y,z,hy,h1,h2,hz,h3,rfl⟩
  have hw:=lt_of_get hy
  have hrl:=lt_of_get hz
  obtain ⟨_,rfl⟩:=List.getElem?_eq_some_iff.1 hz
  exact ⟨w,r,y,_,by rw [ext_get hw];exact hy,h1,h2,by rw [ext_get hrl];exact hz,h3,by rw [outE r hrl h3]⟩
theorem last_mem {row:List Int}:row.getLastD (-1)=-1∨row.getLastD (-1)∈row:=by
 cases row with
 | nil=>left;rfl
 | cons r rs =>
  right
  rw [List.getLastD_eq_getLast?,List.getLast?_eq_getElem?,List.getElem?_eq_getElem (by simp)]
  exact List.getElem_mem _
theorem ext_vl {l m:List Int} {rows rows2:List (List Int)} (hc:Cut ds.length l m) (hl:WO ds l rows) (hm:WO (ds++[x]) m rows2) (hlo:∀ y∈ds,y.lr < ds.length) (hlo2:∀ y∈ds++[x],y.lr < (ds++[x]).length) (hz:∀ y∈ds++[x],y.reads=true∨y.d.k=3→y.d.v=0) {a:Nat} (ha:a < ds.length):vl (ds++[x]) m (a:Nat)=vl ds l (a:Nat):=by
 have hin:=hl.in_ hlo
 have hin2:=hm.in_ hlo2
 obtain ⟨q,hq,ho,hv⟩:=vl_of hin hl.len (fun y hy=>hz y (List.mem_append.2 (.inl hy))) hl.fin a ha
 obtain ⟨q2,hq2,ho2,hv2⟩:=vl_of hin2 hm.len hz hm.fin a (by simp;omega)
 rw [ext_orig hc hin _ a ha,orig_mono _ _ _ _ (by simp) ho] at ho2
 obtain rfl:=Option.some.inj ho2
 rw [hv,hv2,List.getElem_append_left hq]
theorem rdAt_app (D:List De) (l:List Int) (ys:List De):∀ (xs:List De) (n:Nat),rdAt D l n (xs++ys)=rdAt D l n xs++rdAt D l (n+xs.length) ys
 | [],n=>by simp [rdAt]
 | z::xs,n=>by
  rw [List.cons_append,rdAt,rdAt,rdAt_app D l ys xs (n+1),List.length_cons,show n+1+xs.length=n+(xs.length+1) by omega]
  split<;>simp
theorem rdAt_eq {D D2:List De} {l m:List Int}:∀ (xs:List De) (n:Nat),(∀ i,n≤i→i < n+xs.length→vl D2 m (i:Nat)=vl D l (i:Nat))→rdAt D2 m n xs=rdAt D l n xs
 | [],n,_=>rfl
 | z::xs,n,h=>by
  rw [rdAt,rdAt,rdAt_eq xs (n+1) fun i h1 h2=>h i (by omega) (by simp only [List.length_cons];omega),h n (Nat.le_refl _) (by simp only [List.length_cons];omega)]
end
section
variable {ll mm : List (List D)} {x : De}
end
theorem deeds_snoc (ll:List (List D)) (l:List D) (d:D) (hd:d.k≠9):∃ x:De,x.d=d∧deeds (ll++[l++[d]])=deeds (ll++[l])++[x]:=by
 obtain ⟨x,h1,h2⟩:=deT_snoc (0+ll.length) d hd l 0 (-1) (0+(deF 0 0 ll).length)
 refine ⟨x,h1,?_⟩
 unfold deeds
 rw [deF_append,deF_append]
 simp only [deF,List.append_nil]
 rw [h2,List.append_assoc]
end M
end Go.Proofs.YtjjkicffhpcngaaGreat
namespace Go.Proofs.YtjjkicffhpcngaaGreat
namespace M
section
variable {ds : List De} {x : De}
def Off2 (ds:List De):Prop:=∀ y∈ds,y.uses=true→y.d.p≠2
theorem rows3 {rows:List (List Int)} (h:rows.length=3) (r:List Int):(rows.set 2 r).length=3∧(rows.set 2 r).getD 0 []=rows.getD 0 []∧(rows.set 2 r).getD 1 []=rows.getD 1 []∧(rows.set 2 r).getD 2 []=r:=by
 match rows,h with
 | [a,b,c],_=>exact ⟨rfl,rfl,rfl,rfl⟩
theorem rows_at {rows:List (List Int)} (h:rows.length=3) (r:List Int) {p:Int} (h0:0≤p) (h3:p < 3) (h2:p≠2):(rows.set 2 r).getD p.toNat []=rows.getD p.toNat []:=by
 obtain ⟨_,e0,e1,_⟩:=rows3 h r
 rcases (show p=0∨p=1 by omega) with rfl | rfl
 ·exact e0
 ·exact e1
theorem wrs_off (ho:Off2 ds):wrs 2 0 ds=[]:=by
 rw [List.eq_nil_iff_forall_not_mem]
 intro v hv
 obtain ⟨i,hi,_,ht⟩:=mem_wrs.1 hv
 simp only [De.to,Bool.and_eq_true,beq_iff_eq] at ht
 exact ho _ (List.getElem_mem hi) (by show (M.reads _||M.writes _)=true;rw [ht.1,Bool.or_true]) ht.2
theorem st_wrs (hx:x.d=⟨1,2,3⟩) {p:Int} (hp:p≠2):wrs p 0 (ds++[x])=wrs p 0 ds:=by
 rw [wrs_app]
 have:x.to p=false:=by simp [De.to,hx];omega
 simp [wrs,this]
theorem st_wrs2 (hx:x.d=⟨1,2,3⟩) (ho:Off2 ds):wrs 2 0 (ds++[x])=[(ds.length:Int)]:=by
 rw [wrs_app,wrs_off ho]
 have:x.to 2=true:=by simp [De.to,hx,writes,stores]
 simp [wrs,this]
theorem st_rd (hx:x.d=⟨1,2,3⟩):x.reads=false:=by show M.reads x.d.k=false;rw [hx];rfl
theorem st_over {l:List Int} {rows rows':List (List Int)} (h3:rows.length=3) {r:List Int} (hr:rows'=rows.set 2 r) (hpr:∀ y∈ds,y.uses=true→0≤y.d.p∧y.d.p < 3) (ho:Off2 ds) {a b:Nat} {s t:De} (ht:t∈ds):over l rows' a b s t=over l rows a b s t:=by
 unfold over
 cases hone:onePl s t
 ·rfl
 ·have hu:t.uses=true:=by
   simp only [onePl,Bool.and_eq_true] at hone;exact hone.2.1
  rw [hr,rows_at h3 r (hpr t ht hu).1 (hpr t ht hu).2 (ho t ht hu)]
theorem st_must {l m:List Int} {rows rows':List (List Int)} (hc:Cut ds.length l m) (h3:rows.length=3) {r:List Int} (hr:rows'=rows.set 2 r) (hpr:∀ y∈ds,y.uses=true→0≤y.d.p∧y.d.p < 3) (ho:Off2 ds) (k:Nat) {a b:Nat} {s t:De} (ha:a < ds.length) (hb:ds[b]?=some t):M.must (ds++[x]) m rows' k a b s t=M.must ds l rows k a b s t:=by
 rw [ext_must hc k ha (lt_of_get hb)]
 unfold M.must
 rw [st_over h3 hr hpr ho (mem_of_get hb)]
theorem st_down (hlo:∀ y∈ds,y.lr < ds.length) (hx:x.d=⟨1,2,3⟩) (ho:Off2 ds) {m:List Int} {rows:List (List Int)} (h:WO (ds++[x]) m rows):WO ds (m.take ds.length) (rows.set 2 [])∧Cut ds.length (m.take ds.length) m∧rows.getD 2 []=[(ds.length:Int)]:=by
 have hc:Cut ds.length (m.take ds.length) m:=⟨fun a ha=>by
  rw [List.getD_eq_getElem?_getD,List.getD_eq_getElem?_getD,List.getElem?_take_of_lt ha]⟩
 have hf:Fro ds (m.take ds.length):=fun a y hy=>by
  have ha:=lt_of_get hy
  have:=h.fro a y (by rw [ext_get ha];exact hy)
  rw [← hc.at_ a ha]
  cases hr:y.reads
  ·rw [hr] at this;simpa using this
  ·rw [if_pos hr] at this
   simp only [if_true]
   rcases this with e | ⟨b,z,e,hz,ht⟩
   ·exact .inl e
   ·rcases get_snoc hz with hz | ⟨_,rfl⟩
    ·exact .inr ⟨b,z,e,hz,ht⟩
    ·exfalso
     simp only [De.to,hx,Bool.and_eq_true,beq_iff_eq] at ht
     exact ho y (mem_of_get hy) (by show (M.reads _||M.writes _)=true;rw [show M.reads y.d.k=true from hr,Bool.true_or]) ht.2.symm
 have hin:=fro_in hf hlo
 obtain ⟨r3,r0,r1,r2⟩:=rows3 h.three []
 refine ⟨⟨by rw [List.length_take,h.len];simp,hf,r3,fun p h0 h3=>?_,?_⟩,hc,?_⟩
 ·by_cases hp2:p=2
  ·subst hp2
   rw [wrs_off ho,show (2:Int).toNat=2 from rfl,r2]
  ·rw [rows_at h.three [] h0 h3 hp2,← st_wrs hx hp2]
   exact h.row p h0 h3
 ·rw [ends_iff]
  intro a ha
  have:=(ends_iff _ _).1 h.fin a (by simp;omega)
  rw [ext_orig hc hin _ a ha] at this
  exact orig_any hin ha this
 ·have:=h.row 2 (by omega) (by omega)
  rw [st_wrs2 hx ho] at this
  exact List.perm_singleton.1 this
theorem st_up (hlo:∀ y∈ds,y.lr < ds.length) (hx:x.d=⟨1,2,3⟩) (ho:Off2 ds) {l:List Int} {rows:List (List Int)} (h:WO ds l rows):WO (ds++[x]) (l++[-2]) (rows.set 2 [(ds.length:Int)])∧Cut ds.length l (l++[-2]):=by
 have hlen:=h.len
 have hc:Cut ds.length l (l++[-2]):=⟨fun a ha=>by
  rw [List.getD_eq_getElem?_getD,List.getD_eq_getElem?_getD,List.getElem?_append_left (by omega)]⟩
 have hin:=h.in_ hlo
 have hlast:(l++[-2]).getD ds.length 0=-2:=by
  rw [← hlen,List.getD_eq_getElem?_getD,get_last];rfl
 obtain ⟨r3,r0,r1,r2⟩:=rows3 h.three [(ds.length:Int)]
 refine ⟨⟨by simp [hlen],fun a y hy=>?_,r3,fun p h0 h3=>?_,?_⟩,hc⟩
 ·rcases get_snoc hy with hy | ⟨rfl,rfl⟩
  ·have ha:=lt_of_get hy
   have:=h.fro a y hy
   rw [hc.at_ a ha]
   cases hr:y.reads
   ·rw [hr] at this;simpa using this
   ·rw [if_pos hr] at this
    simp only [if_true]
    exact this.imp id fun ⟨b,z,e,hz,ht⟩=>⟨b,z,e,get_left hz,ht⟩
  ·rw [st_rd hx,hlast];simp
 ·by_cases hp2:p=2
  ·subst hp2
   rw [st_wrs2 hx ho,show (2:Int).toNat=2 from rfl,r2]
  ·rw [rows_at h.three _ h0 h3 hp2,st_wrs hx hp2]
   exact h.row p h0 h3
 ·rw [ends_iff]
  intro a ha
  rw [List.length_append,List.length_singleton] at ha ⊢
  rcases Nat.lt_or_ge a ds.length with h1 | h1
  ·have:=(ends_iff _ _).1 h.fin a h1
   rw [ext_orig hc hin _ a h1]
   obtain ⟨q,hq⟩:=Option.isSome_iff_exists.1 this
   rw [orig_mono _ _ _ _ (by omega) hq];rfl
  ·have:a=ds.length:=by omega
   subst this
   rw [M.orig]
   have hv:valFrom (ds++[x]) (l++[-2]) ds.length < 0:=by
    unfold valFrom
    rw [get_last]
    dsimp only
    rw [st_rd hx]
    have:(x.d.k==3)=false:=by rw [hx];rfl
    rw [this]
    simp
   rw [if_pos hv];rfl
end
section
variable {ll mm : List (List D)} {x : De}
theorem st_links (hp:prog ll=true) (hd:deeds mm=deeds ll++[x]) (ho:Off2 (deeds ll)) {l m:List Int} {rows rows':List (List Int)} (hc:Cut (deeds ll).length l m) (h3:rows.length=3) {r:List Int} (hr:rows'=rows.set 2 r) (k:Nat) {u v:Nat} (hu:u < (deeds ll).length) (hv:v < (deeds ll).length):(u,v)∈linksOf (netOf (deeds mm) m rows' k) (deeds mm).length↔(u,v)∈linksOf (netOf (deeds ll) l rows k) (deeds ll).length:=by
 rw [mem_net,mem_net]
 constructor
 ·rintro ⟨s,t,hs,ht,hm⟩
  rw [hd,ext_get hu] at hs
  rw [hd,ext_get hv] at ht
  rw [hd,st_must hc h3 hr (deed_u hp) ho k hu ht] at hm
  exact ⟨s,t,hs,ht,hm⟩
 ·rintro ⟨s,t,hs,ht,hm⟩
  refine ⟨s,t,by rw [hd,ext_get hu];exact hs,by rw [hd,ext_get hv];exact ht,?_⟩
  rw [hd,st_must hc h3 hr (deed_u hp) ho k hu ht]
  exact hm
def put3 (z:Key):Key:=(z.1,[z.2.getD 0 0,z.2.getD 1 0,3])
theorem st_seen (hq:prog mm=true) (hd:deeds mm=deeds ll++[x]) (hx:x.d=⟨1,2,3⟩) {l m:List Int} {rows rows':List (List Int)} (hc:Cut (deeds ll).length l m) (h1:WO (deeds ll) l rows) (h2:WO (deeds mm) m rows') {r:List Int} (hr:rows'=rows.set 2 r) (hr2:r=[((deeds ll).length:Int)]) (h0:rows.getD 2 []=[]):seenOf mm (m,rows')=put3 (seenOf ll (l,rows))∧(seenOf ll (l,rows)).2.getD 2 0=0∧(seenOf ll (l,rows)).2.length=3:=by
 have hlo2:=lro_deeds mm
 have hz:=deed_zero hq
 rw [hd] at hlo2 hz h2
 have key:=fun (a:Nat) (ha:a < (deeds ll).length)=>ext_vl hc h1 h2 (lro_deeds ll) hlo2 hz ha
 have hR:seenR (deeds ll++[x]) m=seenR (deeds ll) l:=by
  unfold seenR
  rw [rdAt_app,rdAt_eq (deeds ll) 0 fun i _ h=>key i (by omega)]
  simp [rdAt,st_rd hx]
 have hL:∀ p:Int,0≤p→p < 3→lastOf (deeds ll++[x]) m (rows.getD p.toNat [])=lastOf (deeds ll) l (rows.getD p.toNat []):=fun p h0 h3=>by
  have hp:=h1.row p h0 h3
  unfold lastOf
  rcases last_mem (row:=rows.getD p.toNat []) with e | e
  ·rw [e];simp [vl,val]
  ·obtain ⟨j,hj,e2,_⟩:=mem_wrs.1 (hp.mem_iff.1 e)
   rw [e2,Nat.zero_add]
   exact key j hj
 have h3v:lastOf (deeds ll++[x]) m [((deeds ll).length:Int)]=3:=by
  show vl (deeds ll++[x]) m ((deeds ll).length:Int)=3
  obtain ⟨q,hq',ho,hv⟩:=vl_of (h2.in_ hlo2) h2.len hz h2.fin (deeds ll).length (by simp)
  rw [hv]
  have hfirst:M.orig (deeds ll++[x]) m (deeds ll++[x]).length (deeds ll).length=some (deeds ll).length:=by
   rw [List.length_append,List.length_singleton,M.orig]
   have hv:valFrom (deeds ll++[x]) m (deeds ll).length < 0:=by
    unfold valFrom
    rw [get_last]
    dsimp only
    rw [st_rd hx]
    have:(x.d.k==3)=false:=by rw [hx];rfl
    rw [this]
    simp
   rw [if_pos hv]
  rw [hfirst] at ho
  obtain rfl:=Option.some.inj ho
  rw [List.getElem_append_right (Nat.le_refl _)]
  simp [hx]
 match rows,h1.three,hL,h0 with
 | [a,b,c],_,hL,h0 =>
  obtain rfl:c=[]:=h0
  subst hr2
  refine ⟨?_,?_,rfl⟩
  ·unfold seenOf put3
   rw [hd]
   dsimp only
   rw [hR,hr]
   unfold seenL
   have e0:=hL 0 (by omega) (by omega)
   have e1:=hL 1 (by omega) (by omega)
   simp only [List.set,List.map_cons,List.map_nil]
   rw [show lastOf (deeds ll++[x]) m a=lastOf (deeds ll) l a from e0,show lastOf (deeds ll++[x]) m b=lastOf (deeds ll) l b from e1,h3v]
   rfl
  ·show lastOf (deeds ll) l []=0
   exact last_nil _ _
theorem store_down (hp:prog ll=true) (hq:prog mm=true) (hd:deeds mm=deeds ll++[x]) (hx:x.d=⟨1,2,3⟩) (ho:Off2 (deeds ll)) {k:Nat} {y:Wy} (hy:orderHolds mm y.1 y.2 k=true):∃ z:Wy,orderHolds ll z.1 z.2 k=true∧seenOf mm y=put3 (seenOf ll z):=by
 obtain ⟨hkk,he,h0,hs⟩:=holds_iff.1 hy
 have hwo:=(exec_wo.1 he).2
 have hwo':=hwo
 rw [hd] at hwo
 obtain ⟨h1,hc,hrow⟩:=st_down (lro_deeds ll) hx ho hwo
 have h3:=hwo.three
 obtain ⟨r3,_,_,r2⟩:=rows3 h3 []
 have hset:y.2=(y.2.set 2 []).set 2 [((deeds ll).length:Int)]:=by
  match y.2,h3,hrow with
  | [a,b,c],_,hrow =>
   obtain rfl:c=[((deeds ll).length:Int)]:=hrow
   rfl
 have low:∀ (k:Nat) (l:Lk),l∈linksOf (netOf (deeds ll) (y.1.take (deeds ll).length) (y.2.set 2 []) k) (deeds ll).length→l∈linksOf (netOf (deeds mm) y.1 y.2 k) (deeds mm).length:=fun k l hl=>by
  obtain ⟨a,b⟩:=l
  obtain ⟨_,_,ha,hb,_⟩:=mem_net.1 hl
  exact (st_links hp hd ho hc r3 hset k (lt_of_get ha) (lt_of_get hb)).2 hl
 refine ⟨(y.1.take (deeds ll).length,y.2.set 2 []),holds_iff.2 ⟨hkk,exec_wo.2 ⟨hp,h1⟩,fun hr=>h0 (round_map (f:=id) (fun l hl=>.one (low 0 l hl)) hr),sat_map (f:=id) (fun l hl=>.one (low k l hl)) (fun c hcc=>?_) hs⟩,?_⟩
 ·rw [hd]
  exact (ext_choices (by rw [hx];decide) (by rw [hx];decide) (run_of hp) c).2 hcc
 ·exact (st_seen hq hd hx hc h1 hwo' hset rfl r2).1
theorem st_none (hd:deeds mm=deeds ll++[x]) (hx:x.d=⟨1,2,3⟩) (ho:Off2 (deeds ll)) {y:Wy} (hy:WO (deeds mm) y.1 y.2) {k v:Nat}:((deeds ll).length,v)∉linksOf (netOf (deeds mm) y.1 y.2 k) (deeds mm).length:=fun hl=>by
 obtain ⟨s,t,hs,ht,hm⟩:=mem_net.1 hl
 have hv:=lt_of_get ht
 rw [hd] at hv
 simp only [List.length_append,List.length_singleton] at hv
 have es:s=x:=by
  rw [hd,get_last] at hs
  exact (Option.some.inj hs).symm
 have hno:(read y.1 (deeds ll).length v||over y.1 y.2 (deeds ll).length v s t)=false:=by
  cases hc:(read y.1 (deeds ll).length v||over y.1 y.2 (deeds ll).length v s t)
  ·rfl
  ·have hu:=tell_uses hy hs ht hc
   have ht':=ht
   rw [hd] at ht'
   rcases get_snoc ht' with ht' | ⟨e,_⟩
   ·exact absurd (by rw [← hu.2.2.2,es,hx]) (ho t (mem_of_get ht') hu.2.2.1)
   ·exact absurd e.symm hu.1
 rw [Bool.or_eq_false_iff] at hno
 have hown:own (deeds ll).length v s t=false:=by
  unfold own
  rw [show decide ((deeds ll).length < v)=false by simp;omega,Bool.false_and]
 have:M.must (deeds mm) y.1 y.2 k (deeds ll).length v s t=false:=by
  unfold M.must late loose
  rw [hown,hno.1,hno.2]
  split<;>simp
 rw [this] at hm;cases hm
theorem store_up (hp:prog ll=true) (hq:prog mm=true) (hd:deeds mm=deeds ll++[x]) (hx:x.d=⟨1,2,3⟩) (ho:Off2 (deeds ll)) {k:Nat} {z:Wy} (hz:orderHolds ll z.1 z.2 k=true):(∃ y:Wy,orderHolds mm y.1 y.2 k=true∧seenOf mm y=put3 (seenOf ll z))∧(seenOf ll z).2.getD 2 0=0∧(seenOf ll z).2.length=3:=by
 obtain ⟨hkk,he,h0,hs⟩:=holds_iff.1 hz
 have hwo:=(exec_wo.1 he).2
 obtain ⟨h1,hc⟩:=st_up (x:=x) (lro_deeds ll) hx ho hwo
 rw [← hd] at h1
 have h2e:z.2.getD 2 []=[]:=by
  have:=hwo.row 2 (by omega) (by omega)
  rw [wrs_off ho] at this
  exact List.perm_nil.1 this
 have hsn:=st_seen hq hd hx hc hwo h1 rfl rfl h2e
 have hE:∀ (k u v:Nat),(u,v)∈linksOf (netOf (deeds mm) (z.1++[-2]) (z.2.set 2 [((deeds ll).length:Int)]) k) (deeds mm).length→u < (deeds ll).length∧(v < (deeds ll).length→(u,v)∈linksOf (netOf (deeds ll) z.1 z.2 k) (deeds ll).length):=fun k u v hl=>by
  have hu:u < (deeds ll).length:=by
   obtain ⟨s,_,hs,_,_⟩:=mem_net.1 hl
   rw [hd] at hs
   rcases get_snoc hs with hs | ⟨rfl,_⟩
   ·exact lt_of_get hs
   ·exact absurd hl (st_none (y:=(z.1++[-2],z.2.set 2 [((deeds ll).length:Int)])) hd hx ho h1)
  exact ⟨hu,fun hv=>(st_links hp hd ho hc hwo.three rfl k hu hv).1 hl⟩
 refine ⟨⟨(z.1++[-2],z.2.set 2 [((deeds ll).length:Int)]),holds_iff.2 ⟨hkk,exec_wo.2 ⟨hq,h1⟩,fun hr=>h0 (round_cut (hE 0) hr),?_⟩,hsn.1⟩,hsn.2⟩
 obtain ⟨S,h3,h4⟩:=sat_iff.1 (sat_cut (hE k) (fun c hcc=>(choices_ok (run_of hp) c hcc).1) hs)
 refine sat_iff.2 ⟨S,fun c hcc=>h3 c ?_,h4⟩
 rw [hd] at hcc
 exact (ext_choices (by rw [hx];decide) (by rw [hx];decide) (run_of hp) c).1 hcc
theorem cmp_put {a b:Key} (ha:a.2.length=3) (hb:b.2.length=3) (ha0:a.2.getD 2 0=0) (hb0:b.2.getD 2 0=0):cmpK (put3 a) (put3 b)=cmpK a b:=by
 obtain ⟨a1,a2⟩:=a
 obtain ⟨b1,b2⟩:=b
 match a2,ha,ha0 with
 | [p,q,r],_,hr =>
  match b2,hb,hb0 with
  | [p',q',r'],_,hr' =>
   obtain rfl:r=0:=hr
   obtain rfl:r'=0:=hr'
   unfold cmpK cmpS put3
   simp only [comp]
   rfl
theorem store_all (hp:prog ll=true) (hq:prog mm=true) (hd:deeds mm=deeds ll++[x]) (hx:x.d=⟨1,2,3⟩) (ho:Off2 (deeds ll)) (k:Int):orderAll mm k=(orderAll ll k).map put3∧∀ z∈orderAll ll k,z.2.length=3:=by
 have fact:∀ z∈orderAll ll k,(z.2.getD 2 0=0∧z.2.length=3)∧put3 z∈orderAll mm k:=fun z hz=>by
  obtain ⟨y,hy,rfl⟩:=mem_orderAll.1 hz
  obtain ⟨kn,rfl⟩:∃ kn:Nat,k=kn:=⟨k.toNat,by have:=(holds_parts_of hy).1;simp only [Bool.and_eq_true,decide_eq_true_eq] at this;omega⟩
  obtain ⟨⟨w,hw,e⟩,h2⟩:=store_up hp hq hd hx ho hy
  exact ⟨h2,by rw [← e];exact mem_orderAll.2 ⟨w,hw,rfl⟩⟩
 refine ⟨Asc.unique (asc_orderAll mm k) ?_ fun z=>?_,fun z hz=>(fact z hz).1.2⟩
 ·have hA:=asc_orderAll ll k
  unfold Asc at hA ⊢
  rw [List.pairwise_map]
  refine (List.pairwise_iff_forall_sublist.2 fun {a b} hab=>?_)
  have ha:a∈orderAll ll k:=hab.subset (by simp)
  have hb:b∈orderAll ll k:=hab.subset (by simp)
  rw [cmp_put (fact a ha).1.2 (fact b hb).1.2 (fact a ha).1.1 (fact b hb).1.1]
  exact List.pairwise_iff_forall_sublist.1 hA hab
 ·rw [List.mem_map]
  constructor
  ·intro hz
   obtain ⟨y,hy,rfl⟩:=mem_orderAll.1 hz
   obtain ⟨kn,rfl⟩:∃ kn:Nat,k=kn:=⟨k.toNat,by have:=(holds_parts_of hy).1;simp only [Bool.and_eq_true,decide_eq_true_eq] at this;omega⟩
   obtain ⟨w,hw,e⟩:=store_down hp hq hd hx ho hy
   exact ⟨_,mem_orderAll.2 ⟨w,hw,rfl⟩,e.symm⟩
  ·rintro ⟨z',hz,rfl⟩
   exact (fact z' hz).2
end
theorem all_store {ll:List (List D)} {l:List D} (hp:prog (ll++[l])=true) (hq:prog (ll++[l++[⟨1,2,3⟩]])=true) (ho:∀ t∈ll++[l],∀ d∈t,M.uses d.k=true→d.p≠2) (k:Int):orderAll (ll++[l++[⟨1,2,3⟩]]) k=(orderAll (ll++[l]) k).map put3∧∀ z∈orderAll (ll++[l]) k,z.2.length=3:=by
 obtain ⟨x,hx,hd⟩:=deeds_snoc ll l ⟨1,2,3⟩ (by decide)
 refine store_all hp hq hd hx (fun y hy hu=>?_) k
 obtain ⟨t,ht,hdt⟩:=mem_deeds hy
 exact ho t ht _ hdt hu
end M
end Go.Proofs.YtjjkicffhpcngaaGreat
namespace Go.Proofs.YtjjkicffhpcngaaGreat
open Go.RowKit
theorem M.store_law {m0:List (List M.D)} {l0:List M.D} (hp:M.prog (m0++[l0])=true) (h2:M.anyK (M.usesP 2) (m0++[l0])=false) (hq:M.prog (m0++[l0++[⟨1,2,3⟩]])=true) (kind:Int):M.orderAll (m0++[l0++[⟨1,2,3⟩]]) kind=(M.orderAll (m0++[l0]) kind).map M.put3∧∀ z∈M.orderAll (m0++[l0]) kind,z.2.length=3:=by
 refine M.all_store hp hq (fun t ht d hd hu e=>?_) kind
 have h:=M.anyK_no h2 t ht d hd
 have hu':d.k≠4∧d.k≠7∧d.k≠8∧d.k≠9:=by
  refine ⟨?_,?_,?_,?_⟩<;>intro hk<;>rw [hk] at hu<;>simp [M.uses,M.reads,M.writes,M.stores] at hu
 simp [M.usesP,e,hu'.1,hu'.2.1,hu'.2.2.1,hu'.2.2.2] at h
theorem put3_len {ks:List Key} (h:∀ z∈ks,z.1.length≤1048576):KLe (ks.map M.put3) 1048576:=fun z hz=>by
 obtain ⟨y,hy,rfl⟩:=List.mem_map.1 hz
 exact ⟨h y hy,by show 3≤1048576;omega⟩
set_option maxHeartbeats 4000000 in
set_option maxRecDepth 100000 in
set_option linter.unusedSimpArgs false in
theorem lawSr_any (ca:Option Addr) (cb co L C:Nat) (x:Nat→Int) (w:World) (hL:L≤C) (had:0 < L→ca=some ⟨cb,co,none⟩) (hc:∀ i,i < L→w.cell? ⟨cb,co+i,none⟩=some (.int .u8 (x i))∧0≤x i∧x i≤255) :
  Calls Tryz.prog 11 #[.slice ca L C] w fun e w'=>e=.returned (.bool true)∧Below w.heap.size w w':=by
 by_cases hLb:L≤1048576
 ·go_enter Tryz.func11,Tryz.ntmps11
  go_wp2_with fail
  refine (DrawOrderAll_any ca cb co L C x _ hL had hc hLb).mono ?_
  rintro e w1 ⟨a,g,c,mm,kind,rfl,hsn,hsm,hk0,hk1,hb1⟩
  have hls:=hsm.le
  have hl3:mm.length≤1048576:=by have:=hsm.three;omega
  clear had hc
  have bx0:=BoxP.new (c:=c) hb1 hsn.ss
  go_wp2_with fail
  have HB0:∀ (_:Unit),Below w1.heap.size w1 (w1.alloc (.cells #[.slice a mm.length c] 25)):=fun _=>below1 w1 _
  generalize w1.alloc (.cells #[.slice a mm.length c] 25)=W0 at *
  have hpos:=hsm.pos
  have ha0:Hid (a=some ⟨g,0,none⟩):=hsn.addr hpos
  obtain ⟨vs,hT⟩:∃ vs,Thb W0 g vs mm:=by
   obtain ⟨vs,h1⟩:=hsn.thb
   exact ⟨vs,h1.below (HB0 ())⟩
  clear HB0
  generalize w1.heap.size=P at *
  clear hb1
  have hkl:=M.orderAll_len mm kind
  have hkk:=M.orderAll_le mm kind
  have CI:=fun (W:World) (h:BoxP w W P a g c mm)=>iorderAllK a g 0 c mm kind W hl3 hls h.ss
  have CS:=fun (W:World) (h:BoxP w W P a g c mm)=>sorderAllK a g 0 c mm kind W hl3 hls h.ss
  obtain ⟨ks,hks⟩:∃ ks,M.orderAll mm kind=ks:=⟨_,rfl⟩
  have HKS:Hid (M.orderAll mm kind=ks):=hks
  rw [hks] at hkl hkk CI CS
  clear hks
  refine (CI W0 bx0).mono ?_
  rintro e W1 ⟨v1,rfl,hA⟩
  have bx1:=bx0.below hA.bel
  have hT1:=hT.below hA.bel
  obtain ⟨av,gv,cv,rfl,hS1⟩:=hA.ex
  have p1:=bx1.p.c
  clear hA bx0
  go_wp2_with fail
  refine (CS W1 bx1).mono ?_
  rintro e W2 ⟨v2,rfl,hB⟩
  have bx2:=bx1.below hB.bel
  have hT2:=hT1.below hB.bel
  have hS2:=hS1.below hB.bel (Nat.le_refl _)
  obtain ⟨aw,gw,cw,rfl,hT⟩:=hB.ex
  clear hB bx1 p1 hS1
  go_wp2_with fail
  refine (lpList_same av gv 0 cv aw gw 0 cw ks W2 (by omega) hkk hS2 hT).mono ?_
  rintro e W3 ⟨rfl,b3⟩
  have bx3:=bx2.below b3
  have hT3:=hT2.below b3
  have p3:=bx3.p.c
  have hS3:=hS2.below b3 (Nat.le_refl _)
  clear hS2 hT b3 bx2
  obtain rfl:=ha0.out
  have h14:=hsm.steps
  clear hT hT1 hT2 CI hsn hsm
  have CP:=sprog_any (some ⟨g,0,none⟩) g 0 c mm W3 hl3 hls bx3.ss
  obtain ⟨pr,hpr⟩:∃ pr,M.prog mm=pr:=⟨_,rfl⟩
  have HPR:Hid (M.prog mm=pr):=hpr
  rw [hpr] at CP
  clear hpr
  go_wp2_with fail
  refine CP.mono ?_
  rintro e W4 ⟨rfl,b4⟩
  have bx4:=bx3.below b4
  have hS4:=hS3.below b4 (Nat.le_refl _)
  have hT4:=hT3.below b4
  have p4:=bx4.p.c
  clear bx3 hS3 p3 CP b4 hT3
  cases pr
  ·clear HKS
   go_wp2_with fail
   refine (CS W4 bx4).mono ?_
   rintro e X5 ⟨v5,rfl,hB⟩
   have bxX:=bx4.below hB.bel
   have hSX:=hS4.below hB.bel (Nat.le_refl _)
   obtain ⟨ax,gx,cx,rfl,hTX⟩:=hB.ex
   clear hB
   go_wp2_with fail
   refine (lpList_same av gv 0 cv ax gx 0 cx ks X5 (by omega) hkk hSX hTX).mono ?_
   rintro e Y5 ⟨rfl,bY⟩
   have bxY:=bxX.below bY
   go_wp2_with fail
   go_ret
   exact ⟨rfl,bxY.bel⟩
  ·have CR:=lpUses_any (some ⟨g,0,none⟩) g 0 c mm 2 W4 hl3 hls bx4.ss
   obtain ⟨wt,hwt⟩:∃ wt,M.anyK (M.usesP 2) mm=wt:=⟨_,rfl⟩
   have HWT:Hid (M.anyK (M.usesP 2) mm=wt):=hwt
   rw [hwt] at CR
   clear hwt
   have e0:((mm.length:Int)==0)=false:=by rw [beq_eq_false_iff_ne];omega
   have e0':¬ (mm.length:Int)=0:=by omega
   go_wp2_with fail
   refine CR.mono ?_
   rintro e W3 ⟨rfl,b5⟩
   have bx3:=bx4.below b5
   have hS3:=hS4.below b5 (Nat.le_refl _)
   have hT3:=hT4.below b5
   have p3:=bx3.p.c
   clear bx4 hS4 p4 CR b5 hT4
   cases wt
   ·clear CS
    have hPl:=bx3.p.lt
    have hgl:g < W3.heap.size:=World.block_lt_of_cell? _ _ (hT3.cell 0 (by have:=hT3.thr.1;omega))
    have hvl:=hT3.thr.1
    obtain ⟨i0,hi,hz0,hz1,hz2⟩:=info_parts Tryz.info41
    have hown2:(W3.alloc (.cells #[] 41)).ownsRow W3.heap.size 41 1 (.slice (some ⟨W3.heap.size,0,none⟩) 0 0) 0 []:=World.ownsRow_made W3 _ 0 (Nat.le_refl _) (Nat.zero_le _) rfl
    go_wp2_with (at_builtin;refine wpList_append_own _ rfl (.tmp 50) (.tmp 52) 23 rfl W3.heap.size 41 i0 _ 1 24 Tryz.underlying23 hi hz0 hz1 hz2 rfl (by decide) _ _ _ rfl hown2 ⟨g,0,none⟩ mm.length c vs rfl (by omega) ?c1 (fun y hy=>hT3.thr.one y hy) (by unfold maxLen;omega) (by omega) (by simp) ?_)
    case c1 =>
     intro j u hj
     have hjl:=M.lt_of_get hj
     rw [List.getElem?_eq_getElem hjl] at hj
     obtain ⟨rfl⟩:=hj
     rw [Go.WideShapes.add_plain,World.cell?_alloc_past _ _ _ hgl,Nat.zero_add]
     exact hT3.cell j hjl
    intro v5 w5 hown5 hg5 _
    have b5:Below W3.heap.size W3 w5:=below_grown (below1 W3 _) hg5 (fun k hk=>by simp [Value.ownBlock] at hk;omega)
    have hown5':w5.ownsRow W3.heap.size 41 1 v5 mm.length vs:=by simpa using hown5
    have s5:=b5.size
    clear hown5 hg5 hown2
    obtain ⟨a5,c5,rfl⟩:=own_slx hown5'
    obtain ⟨m0,l0,hmm⟩:∃ m0 l0,mm=m0++[l0]:=⟨mm.dropLast,mm.getLast (by intro e;rw [e] at hpos;simp at hpos),(List.dropLast_concat_getLast _).symm⟩
    have HMM:Hid (mm=m0++[l0]):=hmm
    have hk:mm.length=m0.length+1:=by rw [hmm];simp
    obtain ⟨ta,tb,to',tc,et,htD,htc⟩:=hT3.thr.2 m0.length (by omega) (by omega)
    have el:mm[m0.length]'(by omega)=l0:=by simp [hmm]
    rw [el] at et htD htc
    have hll:=h14 l0 (by rw [hmm];simp)
    have ht3:=hT3.cell m0.length (by omega)
    rw [et] at ht3
    obtain ⟨nn,hnn⟩:∃ nn,m0.length=nn:=⟨_,rfl⟩
    have HMS:Hid (∀ l1:List M.D,mm.set nn l1=m0++[l1]):=fun l1=>by rw [← hnn,HMM.out];exact set_last
    rw [hnn] at hk ht3
    simp only [hk] at hown5' hvl ⊢
    obtain ⟨gq,cq,eq5,hgq,hgq2⟩:=hown5'.form (by omega)
    simp only [Value.slice.injEq] at eq5
    obtain ⟨rfl,_,rfl⟩:=eq5
    have b6:=below1 w5 (.cells #[.slice (some ⟨gq,0,none⟩) (nn+1) c5] 25)
    have q9:=Slot1.new w5 (.slice (some ⟨gq,0,none⟩) (nn+1) c5) 25
    have b39:=b5.trans (b6.mono b5.size)
    have bx9:=bx3.below b39
    have pc9:=bx9.p.c
    rw [hk] at pc9
    have tc9:=(b39.cell (p:=⟨g,nn,none⟩) hgl).trans ht3
    have hQ9:=ownsRow_below hown5' b6
    have htD9:=htD.below b39 (Nat.le_refl _)
    clear el hmm htc htD et ht3 hown5' b6
    go_wp2_with fail
    obtain ⟨Q,hQ⟩:∃ Q,w5.heap.size=Q:=⟨_,rfl⟩
    generalize w5.alloc (.cells #[.slice (some ⟨gq,0,none⟩) (nn+1) c5] 25)=W9 at *
    rw [hQ] at q9 hgq2 s5 ⊢
    clear hQ b5
    obtain ⟨d0,hd,hd0,hd1,hd2⟩:=info_parts Tryz.info43
    have hgq3:W3.heap.size≤gq:=hgq
    have hQne:gq≠Q:=by omega
    have lq:=q9.lt
    have lp:P < W9.heap.size:=bx9.p.lt
    have lg:g < W9.heap.size:=World.block_lt_of_cell? _ _ tc9
    have hgp:gq≠P:=by omega
    have hgg:gq≠g:=by omega
    have hnl:nn≤1048576:=by omega
    have iw:IntKind.i64.wrap ((nn:Int)+1 - 1)=nn:=by rw [IntKind.wrap_i64];omega
    have iw2:IntKind.i64.wrap (nn:Int)=nn:=by rw [IntKind.wrap_i64];omega
    have i0':(0:Int)≤nn:=by omega
    have i1':(nn:Int) < (nn:Int)+1:=by omega
    go_cut [6] from 55 (fun s6 wc=>s6=.int .i64 ((nn:Int)+1)∧PutEnd W3 Q gq (nn+1) c5 (m0++[l0++[⟨1,2,3⟩]]) wc)
    case first =>
     have hS9:∀ w',Below W9.heap.size W9 w'→w'.cell? ⟨Q,0,none⟩=some (.slice (some ⟨gq,0,none⟩) (nn+1) c5)∧w'.cell? ⟨P,0,none⟩=some (.slice (some ⟨g,0,none⟩) (nn+1) c)∧w'.cell? ⟨g,nn,none⟩=some (.slice ta l0.length tc):=fun w' hb=>⟨(hb.cell (p:=⟨Q,0,none⟩) lq).trans q9.c,(hb.cell (p:=⟨P,0,none⟩) lp).trans pc9,(hb.cell (p:=⟨g,nn,none⟩) lg).trans tc9⟩
     refine wp_region_held_drew (S:=fun w'=>w'.cell? ⟨Q,0,none⟩=some (.slice (some ⟨gq,0,none⟩) (nn+1) c5)∧w'.cell? ⟨P,0,none⟩=some (.slice (some ⟨g,0,none⟩) (nn+1) c)∧w'.cell? ⟨g,nn,none⟩=some (.slice ta l0.length tc)) (by kernel_rfl) (hS9 W9.drew (Below.refl _ _).drew) (fun hH=>?_)
     refine takeD 0 (some 55) (.pointer (some ⟨Q,0,none⟩)) hH rfl rfl (by kernel_rfl) (by kernel_rfl) (by kernel_rfl) (fun _ _ _ h=>h) (Or.inl ⟨by rfl,by intro w' hSw;go_simp⟩) ?_
     simp only [Act.put,List.setIfInBounds_toArray,List.set_cons_zero,List.set_cons_succ]
     refine takeD 1 (some 56) (.slice (some ⟨gq,0,none⟩) (nn+1) c5) hH rfl rfl (by kernel_rfl) (by kernel_rfl) (by kernel_rfl) (fun _ _ _ h=>h) (Or.inl ⟨by rfl,by intro w' hSw;have hc:=hSw.1;go_simp⟩) ?_
     simp only [Act.put,List.setIfInBounds_toArray,List.set_cons_zero,List.set_cons_succ]
     refine takeD 2 (some 57) (.int .i64 ((nn:Int)+1)) hH rfl rfl (by kernel_rfl) (by kernel_rfl) (by kernel_rfl) (fun _ _ _ h=>h) (Or.inl ⟨by rfl,by intro w' hSw;go_simp⟩) ?_
     simp only [Act.put,List.setIfInBounds_toArray,List.set_cons_zero,List.set_cons_succ]
     refine takeD 3 (some 58) (.int .i64 nn) hH rfl rfl (by kernel_rfl) (by kernel_rfl) (by kernel_rfl) (fun _ _ _ h=>h) (Or.inl ⟨by rfl,by intro w' hSw;go_simp⟩) ?_
     simp only [Act.put,List.setIfInBounds_toArray,List.set_cons_zero,List.set_cons_succ]
     refine takeD 5 (some 60) (.pointer (some ⟨P,0,none⟩)) hH rfl rfl (by kernel_rfl) (by kernel_rfl) (by kernel_rfl) (fun _ _ _ h=>h) (Or.inl ⟨by rfl,by intro w' hSw;go_simp⟩) ?_
     simp only [Act.put,List.setIfInBounds_toArray,List.set_cons_zero,List.set_cons_succ]
     refine takeD 6 (some 61) (.slice (some ⟨g,0,none⟩) (nn+1) c) hH rfl rfl (by kernel_rfl) (by kernel_rfl) (by kernel_rfl) (fun _ _ _ h=>h) (Or.inl ⟨by rfl,by intro w' hSw;have hc:=hSw.2.1;go_simp⟩) ?_
     simp only [Act.put,List.setIfInBounds_toArray,List.set_cons_zero,List.set_cons_succ]
     refine takeD 7 (some 62) (.int .i64 ((nn:Int)+1)) hH rfl rfl (by kernel_rfl) (by kernel_rfl) (by kernel_rfl) (fun _ _ _ h=>h) (Or.inl ⟨by rfl,by intro w' hSw;go_simp⟩) ?_
     simp only [Act.put,List.setIfInBounds_toArray,List.set_cons_zero,List.set_cons_succ]
     refine takeD 8 (some 63) (.int .i64 nn) hH rfl rfl (by kernel_rfl) (by kernel_rfl) (by kernel_rfl) (fun _ _ _ h=>h) (Or.inl ⟨by rfl,by intro w' hSw;go_simp⟩) ?_
     simp only [Act.put,List.setIfInBounds_toArray,List.set_cons_zero,List.set_cons_succ]
     refine takeD 9 (some 64) (.pointer (some ⟨g,nn,none⟩)) hH rfl rfl (by kernel_rfl) (by kernel_rfl) (by kernel_rfl) (fun _ _ _ h=>h) (Or.inl ⟨by rfl,by intro w' hSw;go_simp⟩) ?_
     simp only [Act.put,List.setIfInBounds_toArray,List.set_cons_zero,List.set_cons_succ]
     refine takeD 10 (some 65) (.slice ta l0.length tc) hH rfl rfl (by kernel_rfl) (by kernel_rfl) (by kernel_rfl) (fun _ _ _ h=>h) (Or.inl ⟨by rfl,by intro w' hSw;have hc:=hSw.2.2;go_simp⟩) ?_
     simp only [Act.put,List.setIfInBounds_toArray,List.set_cons_zero,List.set_cons_succ]
     refine takeD 12 (some 67) (.agg #[.int .i64 1,.int .i64 2,.int .i64 3]) hH rfl rfl (by kernel_rfl) (by kernel_rfl) (by kernel_rfl) (fun _ _ _ h=>h) (Or.inl ⟨by rfl,by intro w' hSw;go_simp⟩) ?_
     simp only [Act.put,List.setIfInBounds_toArray,List.set_cons_zero,List.set_cons_succ]
     refine wpAnyH_ready (rs:=[4,13]) (by kernel_rfl) (by simp) ?_
     refine AllReadyH.cons rfl (fun K' hK=>?_) (AllReadyH.cons rfl (fun K' hK=>?_) AllReadyH.nil)
     ·rw [if_pos (by rfl)]
      go_simp
      refine hK.out _ _ (hS9 _ (((Below.refl W9.heap.size W9).drew).alloc ((Below.refl W9.heap.size W9).drew).size (.cells #[] 43))) (fun hHx=>?_)
      clear hK K'
      refine wpAnyH_ready (rs:=[11,13]) (by kernel_rfl) (by simp) ?_
      refine AllReadyH.cons rfl (fun K' hK=>?_) (AllReadyH.cons rfl (fun K' hK=>?_) AllReadyH.nil)
      ·have hE:((W9.drew).alloc (.cells #[] 43)).ownsRow W9.heap.size 43 3 (.slice (some ⟨W9.heap.size,0,none⟩) 0 0) 0 []:=by
        have h0:=own_emp (base:=W9.heap.size) (size:=3) (heap_alloc_new (W9.drew) (.cells #[] 43)) (by first | exact Nat.le_refl _ | (rw [World.size_alloc];exact Nat.le_succ _))
        first | exact h0 | exact h0.alloc _ | (rw [World.size_alloc] at h0;exact h0) | (rw [World.size_alloc] at h0;exact h0.alloc _)
       have bc:Below W9.heap.size W9 ((W9.drew).alloc (.cells #[] 43)):=((Below.refl W9.heap.size W9).drew).alloc ((Below.refl W9.heap.size W9).drew).size (.cells #[] 43)
       refine step_append_do2 (by rfl) (.tmp 59) (.tmp 65) 41 rfl (some 66) rfl W9.heap.size 43 d0 _ 24 Tryz.underlying41 hd hd0 hd1 hd2 rfl (.slice (some ⟨W9.heap.size,0,none⟩) 0 0) 0 [] (by rfl) hE bc.size ta tb to' tc l0 (by rfl) (htD9.below bc (Nat.le_refl _)) (by unfold maxLen;omega) (by omega) ?_
       intro v1 w1 hown1 hg1 _
       have b1:Below W9.heap.size W9 w1:=below_grown bc hg1 (fun j hj=>by have hj':W9.heap.size=j:=Option.some.inj hj;omega) bc.size
       have hown1':w1.ownsRow W9.heap.size 43 3 v1 l0.length (flat l0):=by simpa using hown1
       obtain ⟨a1,c1,rfl⟩:=own_slx hown1'
       clear hown1 hg1 hE bc
       refine hK.out _ _ (hS9 _ (b1)) (fun hHx=>?_)
       clear hK K'
       simp only [Act.put,List.setIfInBounds_toArray,List.set_cons_zero,List.set_cons_succ]
       refine wpAnyH_ready (rs:=[13]) (by kernel_rfl) (by simp) ?_
       refine AllReadyH.cons rfl (fun K' hK=>?_) AllReadyH.nil
       rw [if_pos (by rfl)]
       go_simp
       refine hK.out _ _ (hS9 _ ((b1).alloc (b1).size (.cells #[.int .i64 1,.int .i64 2,.int .i64 3] 43))) (fun hHx=>?_)
       clear hK K'
       refine wpAnyH_ready (rs:=[14]) (by kernel_rfl) (by simp) ?_
       refine AllReadyH.cons rfl (fun K' hK=>?_) AllReadyH.nil
       have bc:Below W9.heap.size W9 ((w1).alloc (.cells #[.int .i64 1,.int .i64 2,.int .i64 3] 43)):=(b1).alloc (b1).size (.cells #[.int .i64 1,.int .i64 2,.int .i64 3] 43)
       have hlb:((w1).alloc (.cells #[.int .i64 1,.int .i64 2,.int .i64 3] 43)).heap[w1.heap.size]?=some (.cells #[.int .i64 1,.int .i64 2,.int .i64 3] 43 (0,0)):=heap_alloc_new (w1) (.cells #[.int .i64 1,.int .i64 2,.int .i64 3] 43)
       have hown1c:((w1).alloc (.cells #[.int .i64 1,.int .i64 2,.int .i64 3] 43)).ownsRow W9.heap.size 43 3 (.slice a1 l0.length c1) l0.length (flat l0):=by first | exact hown1' | exact hown1'.alloc _
       refine step_append_do2 (by rfl) (.tmp 66) (.tmp 68) 41 rfl (some 69) rfl W9.heap.size 43 d0 _ 24 Tryz.underlying41 hd hd0 hd1 hd2 rfl (.slice a1 l0.length c1) l0.length (flat l0) (by rfl) hown1c bc.size (some ⟨w1.heap.size,0,none⟩) (w1.heap.size) 0 1 [(⟨1,2,3⟩:M.D)] (by rfl) (DoS.of_block hlb) (by unfold maxLen;simp;omega) (by simp;omega) ?_
       intro v2 w2 hown2 hg2 _
       have b2:Below W9.heap.size W9 w2:=below_grown bc hg2 (fun j hj=>(hown1c.lt j hj).1) bc.size
       have hown2':w2.ownsRow W9.heap.size 43 3 v2 (l0++[(⟨1,2,3⟩:M.D)]).length (flat (l0++[(⟨1,2,3⟩:M.D)])):=by
        rw [flat_app,List.length_append]
        exact hown2
       obtain ⟨a2,c2,rfl⟩:=own_slx hown2'
       clear hown2 hg2 hown1c hlb bc
       refine hK.out _ _ (hS9 _ (b2)) (fun hHx=>?_)
       clear hK K'
       simp only [Act.put,List.setIfInBounds_toArray,List.set_cons_zero,List.set_cons_succ]
       refine takeD 15 (some 70) (.pointer (some ⟨gq,nn,none⟩)) hHx rfl rfl (by kernel_rfl) (by kernel_rfl) (by kernel_rfl) (fun _ _ _ h=>h) (Or.inl ⟨by rfl,by intro w' hSw;go_simp⟩) ?_
       simp only [Act.put,List.setIfInBounds_toArray,List.set_cons_zero,List.set_cons_succ]
       refine wpAnyH_ready (rs:=[16]) (by kernel_rfl) (by simp) ?_
       refine AllReadyH.cons rfl (fun K' hK=>?_) AllReadyH.nil
       have hQ2:=ownsRow_below hQ9 b2
       have xc:=World.ownsRow.cellAt hQ2 nn (by omega)
       rw [List.getElem?_eq_getElem (by omega)] at xc
       have xz:=World.ownsRow.frozenAt hQ2 nn
       have hln:(l0++[(⟨1,2,3⟩:M.D)]).length=l0.length+1:=by simp
       obtain ⟨ssq,bF⟩:=put_thread (W0:=W3) (W:=w2) (B2:=W9.heap.size) (k:=nn) hT3.thr hk.symm hgq3 (b39.trans (b2.mono b39.size)) hQ2 hown2' (by omega)
       rw [HMS.out,hln] at ssq
       rw [hln] at bF
       have qF:=(q9.bl' b2).far (b':=gq) (i:=nn) hQne (.slice a2 (l0.length+1) c2)
       have h2s:=hS9 w2 b2
       rw [if_pos (by rfl)]
       go_simp
       refine hK.out _ _ ⟨qF.c,(World.cell?_setCell_other _ _ _ _ (by intro h;simp only [Addr.mk.injEq] at h;omega)).trans h2s.2.1,(World.cell?_setCell_other _ _ _ _ (by intro h;simp only [Addr.mk.injEq] at h;omega)).trans h2s.2.2⟩ (fun hHy=>?_)
       clear hK K' xc xz
       refine wpAnyH_done (by kernel_rfl) ?_ _
       go_wp2_with fail
       go_meet
       case rel=>exact ⟨rfl,ssq,qF,bF⟩
      ·rw [if_pos (by rfl)]
       go_simp
       refine hK.out _ _ (hS9 _ ((((Below.refl W9.heap.size W9).drew).alloc ((Below.refl W9.heap.size W9).drew).size (.cells #[] 43)).alloc (((Below.refl W9.heap.size W9).drew).alloc ((Below.refl W9.heap.size W9).drew).size (.cells #[] 43)).size (.cells #[.int .i64 1,.int .i64 2,.int .i64 3] 43))) (fun hHx=>?_)
       clear hK K'
       refine wpAnyH_ready (rs:=[11]) (by kernel_rfl) (by simp) ?_
       refine AllReadyH.cons rfl (fun K' hK=>?_) AllReadyH.nil
       have hE:(((W9.drew).alloc (.cells #[] 43)).alloc (.cells #[.int .i64 1,.int .i64 2,.int .i64 3] 43)).ownsRow W9.heap.size 43 3 (.slice (some ⟨W9.heap.size,0,none⟩) 0 0) 0 []:=by
        have h0:=own_emp (base:=W9.heap.size) (size:=3) (heap_alloc_new (W9.drew) (.cells #[] 43)) (by first | exact Nat.le_refl _ | (rw [World.size_alloc];exact Nat.le_succ _))
        first | exact h0 | exact h0.alloc _ | (rw [World.size_alloc] at h0;exact h0) | (rw [World.size_alloc] at h0;exact h0.alloc _)
       have bc:Below W9.heap.size W9 (((W9.drew).alloc (.cells #[] 43)).alloc (.cells #[.int .i64 1,.int .i64 2,.int .i64 3] 43)):=(((Below.refl W9.heap.size W9).drew).alloc ((Below.refl W9.heap.size W9).drew).size (.cells #[] 43)).alloc (((Below.refl W9.heap.size W9).drew).alloc ((Below.refl W9.heap.size W9).drew).size (.cells #[] 43)).size (.cells #[.int .i64 1,.int .i64 2,.int .i64 3] 43)
       have hlb:(((W9.drew).alloc (.cells #[] 43)).alloc (.cells #[.int .i64 1,.int .i64 2,.int .i64 3] 43)).heap[W9.heap.size+1]?=some (.cells #[.int .i64 1,.int .i64 2,.int .i64 3] 43 (0,0)):=by
        have h0:=heap_alloc_new ((W9.drew).alloc (.cells #[] 43)) (.cells #[.int .i64 1,.int .i64 2,.int .i64 3] 43)
        first | exact h0 | (simp only [World.size_alloc] at h0;exact h0)
       refine step_append_do2 (by rfl) (.tmp 59) (.tmp 65) 41 rfl (some 66) rfl W9.heap.size 43 d0 _ 24 Tryz.underlying41 hd hd0 hd1 hd2 rfl (.slice (some ⟨W9.heap.size,0,none⟩) 0 0) 0 [] (by rfl) hE bc.size ta tb to' tc l0 (by rfl) (htD9.below bc (Nat.le_refl _)) (by unfold maxLen;omega) (by omega) ?_
       intro v1 w1 hown1 hg1 _
       have b1:Below W9.heap.size W9 w1:=below_grown bc hg1 (fun j hj=>by have hj':W9.heap.size=j:=Option.some.inj hj;omega) bc.size
       have hown1':w1.ownsRow W9.heap.size 43 3 v1 l0.length (flat l0):=by simpa using hown1
       obtain ⟨a1,c1,rfl⟩:=own_slx hown1'
       have hl1:w1.heap[W9.heap.size+1]?=some (.cells #[.int .i64 1,.int .i64 2,.int .i64 3] 43 (0,0)):=(hg1.block _ (Array.getElem?_eq_some_iff.1 hlb).1 (fun h=>by have h':W9.heap.size+1=W9.heap.size:=Option.some.inj (by first | exact h | exact h.symm);omega)).trans hlb
       clear hown1 hg1 hE bc
       refine hK.out _ _ (hS9 _ (b1)) (fun hHx=>?_)
       clear hK K'
       simp only [Act.put,List.setIfInBounds_toArray,List.set_cons_zero,List.set_cons_succ]
       refine wpAnyH_ready (rs:=[14]) (by kernel_rfl) (by simp) ?_
       refine AllReadyH.cons rfl (fun K' hK=>?_) AllReadyH.nil
       have bc:Below W9.heap.size W9 (w1):=b1
       have hlb:(w1).heap[W9.heap.size+1]?=some (.cells #[.int .i64 1,.int .i64 2,.int .i64 3] 43 (0,0)):=hl1
       have hown1c:(w1).ownsRow W9.heap.size 43 3 (.slice a1 l0.length c1) l0.length (flat l0):=by first | exact hown1' | exact hown1'.alloc _
       refine step_append_do2 (by rfl) (.tmp 66) (.tmp 68) 41 rfl (some 69) rfl W9.heap.size 43 d0 _ 24 Tryz.underlying41 hd hd0 hd1 hd2 rfl (.slice a1 l0.length c1) l0.length (flat l0) (by rfl) hown1c bc.size (some ⟨W9.heap.size+1,0,none⟩) (W9.heap.size+1) 0 1 [(⟨1,2,3⟩:M.D)] (by rfl) (DoS.of_block hlb) (by unfold maxLen;simp;omega) (by simp;omega) ?_
       intro v2 w2 hown2 hg2 _
       have b2:Below W9.heap.size W9 w2:=below_grown bc hg2 (fun j hj=>(hown1c.lt j hj).1) bc.size
       have hown2':w2.ownsRow W9.heap.size 43 3 v2 (l0++[(⟨1,2,3⟩:M.D)]).length (flat (l0++[(⟨1,2,3⟩:M.D)])):=by
        rw [flat_app,List.length_append]
        exact hown2
       obtain ⟨a2,c2,rfl⟩:=own_slx hown2'
       clear hown2 hg2 hown1c hlb bc
       refine hK.out _ _ (hS9 _ (b2)) (fun hHx=>?_)
       clear hK K'
       simp only [Act.put,List.setIfInBounds_toArray,List.set_cons_zero,List.set_cons_succ]
       refine takeD 15 (some 70) (.pointer (some ⟨gq,nn,none⟩)) hHx rfl rfl (by kernel_rfl) (by kernel_rfl) (by kernel_rfl) (fun _ _ _ h=>h) (Or.inl ⟨by rfl,by intro w' hSw;go_simp⟩) ?_
       simp only [Act.put,List.setIfInBounds_toArray,List.set_cons_zero,List.set_cons_succ]
       refine wpAnyH_ready (rs:=[16]) (by kernel_rfl) (by simp) ?_
       refine AllReadyH.cons rfl (fun K' hK=>?_) AllReadyH.nil
       have hQ2:=ownsRow_below hQ9 b2
       have xc:=World.ownsRow.cellAt hQ2 nn (by omega)
       rw [List.getElem?_eq_getElem (by omega)] at xc
       have xz:=World.ownsRow.frozenAt hQ2 nn
       have hln:(l0++[(⟨1,2,3⟩:M.D)]).length=l0.length+1:=by simp
       obtain ⟨ssq,bF⟩:=put_thread (W0:=W3) (W:=w2) (B2:=W9.heap.size) (k:=nn) hT3.thr hk.symm hgq3 (b39.trans (b2.mono b39.size)) hQ2 hown2' (by omega)
       rw [HMS.out,hln] at ssq
       rw [hln] at bF
       have qF:=(q9.bl' b2).far (b':=gq) (i:=nn) hQne (.slice a2 (l0.length+1) c2)
       have h2s:=hS9 w2 b2
       rw [if_pos (by rfl)]
       go_simp
       refine hK.out _ _ ⟨qF.c,(World.cell?_setCell_other _ _ _ _ (by intro h;simp only [Addr.mk.injEq] at h;omega)).trans h2s.2.1,(World.cell?_setCell_other _ _ _ _ (by intro h;simp only [Addr.mk.injEq] at h;omega)).trans h2s.2.2⟩ (fun hHy=>?_)
       clear hK K' xc xz
       refine wpAnyH_done (by kernel_rfl) ?_ _
       go_wp2_with fail
       go_meet
       case rel=>exact ⟨rfl,ssq,qF,bF⟩
     ·rw [if_pos (by rfl)]
      go_simp
      refine hK.out _ _ (hS9 _ (((Below.refl W9.heap.size W9).drew).alloc ((Below.refl W9.heap.size W9).drew).size (.cells #[.int .i64 1,.int .i64 2,.int .i64 3] 43))) (fun hHx=>?_)
      clear hK K'
      refine wpAnyH_ready (rs:=[4]) (by kernel_rfl) (by simp) ?_
      refine AllReadyH.cons rfl (fun K' hK=>?_) AllReadyH.nil
      rw [if_pos (by rfl)]
      go_simp
      refine hK.out _ _ (hS9 _ ((((Below.refl W9.heap.size W9).drew).alloc ((Below.refl W9.heap.size W9).drew).size (.cells #[.int .i64 1,.int .i64 2,.int .i64 3] 43)).alloc (((Below.refl W9.heap.size W9).drew).alloc ((Below.refl W9.heap.size W9).drew).size (.cells #[.int .i64 1,.int .i64 2,.int .i64 3] 43)).size (.cells #[] 43))) (fun hHx=>?_)
      clear hK K'
      refine wpAnyH_ready (rs:=[11]) (by kernel_rfl) (by simp) ?_
      refine AllReadyH.cons rfl (fun K' hK=>?_) AllReadyH.nil
      have hE:(((W9.drew).alloc (.cells #[.int .i64 1,.int .i64 2,.int .i64 3] 43)).alloc (.cells #[] 43)).ownsRow W9.heap.size 43 3 (.slice (some ⟨W9.heap.size+1,0,none⟩) 0 0) 0 []:=by
       have h0:=own_emp (base:=W9.heap.size) (size:=3) (heap_alloc_new ((W9.drew).alloc (.cells #[.int .i64 1,.int .i64 2,.int .i64 3] 43)) (.cells #[] 43)) (by first | exact Nat.le_refl _ | (rw [World.size_alloc];exact Nat.le_succ _))
       first | exact h0 | exact h0.alloc _ | (rw [World.size_alloc] at h0;exact h0) | (rw [World.size_alloc] at h0;exact h0.alloc _)
      have bc:Below W9.heap.size W9 (((W9.drew).alloc (.cells #[.int .i64 1,.int .i64 2,.int .i64 3] 43)).alloc (.cells #[] 43)):=(((Below.refl W9.heap.size W9).drew).alloc ((Below.refl W9.heap.size W9).drew).size (.cells #[.int .i64 1,.int .i64 2,.int .i64 3] 43)).alloc (((Below.refl W9.heap.size W9).drew).alloc ((Below.refl W9.heap.size W9).drew).size (.cells #[.int .i64 1,.int .i64 2,.int .i64 3] 43)).size (.cells #[] 43)
      have hlb:(((W9.drew).alloc (.cells #[.int .i64 1,.int .i64 2,.int .i64 3] 43)).alloc (.cells #[] 43)).heap[W9.heap.size]?=some (.cells #[.int .i64 1,.int .i64 2,.int .i64 3] 43 (0,0)):=by
       have h0:=(below1 ((W9.drew).alloc (.cells #[.int .i64 1,.int .i64 2,.int .i64 3] 43)) (.cells #[] 43)).block _ (by first | (simp;done) | (simp;omega) | omega) |>.trans (heap_alloc_new (W9.drew) (.cells #[.int .i64 1,.int .i64 2,.int .i64 3] 43))
       first | exact h0 | (simp only [World.size_alloc] at h0;exact h0)
      refine step_append_do2 (by rfl) (.tmp 59) (.tmp 65) 41 rfl (some 66) rfl W9.heap.size 43 d0 _ 24 Tryz.underlying41 hd hd0 hd1 hd2 rfl (.slice (some ⟨W9.heap.size+1,0,none⟩) 0 0) 0 [] (by rfl) hE bc.size ta tb to' tc l0 (by rfl) (htD9.below bc (Nat.le_refl _)) (by unfold maxLen;omega) (by omega) ?_
      intro v1 w1 hown1 hg1 _
      have b1:Below W9.heap.size W9 w1:=below_grown bc hg1 (fun j hj=>by have hj':W9.heap.size+1=j:=Option.some.inj hj;omega) bc.size
      have hown1':w1.ownsRow W9.heap.size 43 3 v1 l0.length (flat l0):=by simpa using hown1
      obtain ⟨a1,c1,rfl⟩:=own_slx hown1'
      have hl1:w1.heap[W9.heap.size]?=some (.cells #[.int .i64 1,.int .i64 2,.int .i64 3] 43 (0,0)):=(hg1.block _ (Array.getElem?_eq_some_iff.1 hlb).1 (fun h=>by have h':W9.heap.size=W9.heap.size+1:=Option.some.inj (by first | exact h | exact h.symm);omega)).trans hlb
      clear hown1 hg1 hE bc
      refine hK.out _ _ (hS9 _ (b1)) (fun hHx=>?_)
      clear hK K'
      simp only [Act.put,List.setIfInBounds_toArray,List.set_cons_zero,List.set_cons_succ]
      refine wpAnyH_ready (rs:=[14]) (by kernel_rfl) (by simp) ?_
      refine AllReadyH.cons rfl (fun K' hK=>?_) AllReadyH.nil
      have bc:Below W9.heap.size W9 (w1):=b1
      have hlb:(w1).heap[W9.heap.size]?=some (.cells #[.int .i64 1,.int .i64 2,.int .i64 3] 43 (0,0)):=hl1
      have hown1c:(w1).ownsRow W9.heap.size 43 3 (.slice a1 l0.length c1) l0.length (flat l0):=by first | exact hown1' | exact hown1'.alloc _
      refine step_append_do2 (by rfl) (.tmp 66) (.tmp 68) 41 rfl (some 69) rfl W9.heap.size 43 d0 _ 24 Tryz.underlying41 hd hd0 hd1 hd2 rfl (.slice a1 l0.length c1) l0.length (flat l0) (by rfl) hown1c bc.size (some ⟨W9.heap.size,0,none⟩) (W9.heap.size) 0 1 [(⟨1,2,3⟩:M.D)] (by rfl) (DoS.of_block hlb) (by unfold maxLen;simp;omega) (by simp;omega) ?_
      intro v2 w2 hown2 hg2 _
      have b2:Below W9.heap.size W9 w2:=below_grown bc hg2 (fun j hj=>(hown1c.lt j hj).1) bc.size
      have hown2':w2.ownsRow W9.heap.size 43 3 v2 (l0++[(⟨1,2,3⟩:M.D)]).length (flat (l0++[(⟨1,2,3⟩:M.D)])):=by
       rw [flat_app,List.length_append]
       exact hown2
      obtain ⟨a2,c2,rfl⟩:=own_slx hown2'
      clear hown2 hg2 hown1c hlb bc
      refine hK.out _ _ (hS9 _ (b2)) (fun hHx=>?_)
      clear hK K'
      simp only [Act.put,List.setIfInBounds_toArray,List.set_cons_zero,List.set_cons_succ]
      refine takeD 15 (some 70) (.pointer (some ⟨gq,nn,none⟩)) hHx rfl rfl (by kernel_rfl) (by kernel_rfl) (by kernel_rfl) (fun _ _ _ h=>h) (Or.inl ⟨by rfl,by intro w' hSw;go_simp⟩) ?_
      simp only [Act.put,List.setIfInBounds_toArray,List.set_cons_zero,List.set_cons_succ]
      refine wpAnyH_ready (rs:=[16]) (by kernel_rfl) (by simp) ?_
      refine AllReadyH.cons rfl (fun K' hK=>?_) AllReadyH.nil
      have hQ2:=ownsRow_below hQ9 b2
      have xc:=World.ownsRow.cellAt hQ2 nn (by omega)
      rw [List.getElem?_eq_getElem (by omega)] at xc
      have xz:=World.ownsRow.frozenAt hQ2 nn
      have hln:(l0++[(⟨1,2,3⟩:M.D)]).length=l0.length+1:=by simp
      obtain ⟨ssq,bF⟩:=put_thread (W0:=W3) (W:=w2) (B2:=W9.heap.size) (k:=nn) hT3.thr hk.symm hgq3 (b39.trans (b2.mono b39.size)) hQ2 hown2' (by omega)
      rw [HMS.out,hln] at ssq
      rw [hln] at bF
      have qF:=(q9.bl' b2).far (b':=gq) (i:=nn) hQne (.slice a2 (l0.length+1) c2)
      have h2s:=hS9 w2 b2
      rw [if_pos (by rfl)]
      go_simp
      refine hK.out _ _ ⟨qF.c,(World.cell?_setCell_other _ _ _ _ (by intro h;simp only [Addr.mk.injEq] at h;omega)).trans h2s.2.1,(World.cell?_setCell_other _ _ _ _ (by intro h;simp only [Addr.mk.injEq] at h;omega)).trans h2s.2.2⟩ (fun hHy=>?_)
      clear hK K' xc xz
      refine wpAnyH_done (by kernel_rfl) ?_ _
      go_wp2_with fail
      go_meet
      case rel=>exact ⟨rfl,ssq,qF,bF⟩
    case rest =>
     obtain ⟨rfl,hPE⟩:=hcut
     obtain ⟨WC,hWC⟩:∃ WC,WC=wc:=⟨_,rfl⟩
     subst hWC
     have bxC:=bx3.below hPE.bel
     have hSC:=hS3.below hPE.bel (Nat.le_refl _)
     have ssC:=hPE.ss
     have qC:=hPE.q
     have qCc:=qC.c
     have hqlen:(m0++[l0++[(⟨1,2,3⟩:M.D)]]).length=nn+1:=by simp [hnn]
     have HST:Hid (M.prog (m0++[l0++[(⟨1,2,3⟩:M.D)]])=true→M.orderAll (m0++[l0++[⟨1,2,3⟩]]) kind=ks.map M.put3∧∀ z∈ks,z.2.length=3):=fun hq=>by
      have h:=M.store_law (HMM.out▸HPR.out) (HMM.out▸HWT.out) hq kind
      rw [← HMM.out,HKS.out] at h
      exact h
     have hqb:∀ t∈m0++[l0++[(⟨1,2,3⟩:M.D)]],t.length≤1048576:=fun t ht=>by
      rcases List.mem_append.1 ht with h | h
      ·exact hls t (by rw [HMM.out];exact List.mem_append.2 (.inl h))
      ·rw [List.mem_singleton.1 h,List.length_append];simp;omega
     clear hPE bx3 hS3 HKS HPR HWT HMM HMS hT3 b39 bx9 pc9 tc9 hQ9 htD9 q9 lq lp lg hgp hgg hgq3 hgq hgq2 hvl hnn
     generalize m0++[l0++[(⟨1,2,3⟩:M.D)]]=qq at *
     have CQ1:=sprog_any (some ⟨gq,0,none⟩) gq 0 c5 qq WC (by omega) hqb ssC
     obtain ⟨pq,hpq⟩:∃ pq,M.prog qq=pq:=⟨_,rfl⟩
     have HPQ:Hid (M.prog qq=pq):=hpq
     have HQL:Hid (qq.length=nn+1):=hqlen
     rw [hpq,hqlen] at CQ1
     have hqx:qq.length≤1048576:=by omega
     clear hpq hqlen
     go_wp2_with fail
     refine CQ1.mono ?_
     rintro e WD ⟨rfl,bG⟩
     have bxD:=bxC.below bG
     have hSD:=hSC.below bG (Nat.le_refl _)
     have ssD:=ssC.below bG (Nat.le_refl _)
     have qD:=qC.bl' bG
     clear CQ1 bxC hSC ssC qC qCc
     cases pq
     ·clear HST
      go_wp2_with fail
      go_ret
      exact ⟨rfl,bxD.bel⟩
     ·obtain ⟨heq,h3⟩:=HST.out HPQ.out
      have HEQ:Hid (M.orderAll qq kind=ks.map M.put3):=heq
      have CQ2:=fun (W:World) (h:DoSS W (some ⟨gq,0,none⟩) gq 0 qq)=>iorderAllK (some ⟨gq,0,none⟩) gq 0 c5 qq kind W hqx hqb h
      simp only [heq,HQL.out] at CQ2
      obtain ⟨j0,hj,hy0,hy1,hy2⟩:=info_parts Tryz.infoSn2
      have hemp:(WD.alloc (.cells #[] 49)).ownsRow WD.heap.size 49 2 (.slice (some ⟨WD.heap.size,0,none⟩) 0 0) 0 []:=own_emp (heap_alloc_new WD _) (Nat.le_refl _)
      have bE:=below1 WD (.cells #[] 49)
      clear HST heq
      go_wp2_with fail
      go_loopw [8,9] (fun s8 s9 wr=>∃ (n:Nat) (v:Value) (ss:List Sn),v=s8∧s9=.int .i64 n∧n≤ks.length∧Hid (ss.length=n)∧SnL wr WD.heap.size v ss∧Hid (kys ss=(ks.take n).map M.put3)∧Below WD.heap.size WD wr) (fun _ s9 _=>ks.length - (intOf s9).toNat)
      case atStart=>exact ⟨0,_,[],rfl,rfl,Nat.zero_le _,rfl,⟨hemp,fun s hs=>(by cases hs),fun s hs=>(by cases hs)⟩,by show _=_;simp [kys],bE⟩
      case round =>
       obtain ⟨n,v,ss,hv8,rfl,hn,HSL,hL,HKY,hb⟩:=hrel
       subst hv8
       clear hemp bE
       by_cases hlt:n < ks.length
       ·have i1:(n:Int) < ks.length:=by omega
        obtain ⟨rfl⟩:=hSD.addr (by omega)
        obtain ⟨s,h1,h2',c1,c2',hsa⟩:=hSD.row n hlt
        have hs3:s.l2.length=3:=by rw [h2'];exact h3 _ (List.getElem_mem hlt)
        obtain ⟨e1,e2⟩:=hkk _ (List.getElem_mem hlt)
        have hadr:=hsa.last.addr (by omega)
        have r0:=hsa.last.row 0 (by omega)
        have r1:=hsa.last.row 1 (by omega)
        rw [Nat.zero_add] at c1 c2'
        rw [Nat.add_zero] at r0
        have HKX:Hid ((ks.take (n+1)).map M.put3=(ks.take n).map M.put3++[M.put3 ks[n]]):=by show _=_;rw [List.take_succ_eq_append_getElem hlt,List.map_append];rfl
        have HPK:Hid (M.put3 ks[n]=(s.l1,[s.l2[0]'(by omega),s.l2[1]'(by omega),3])):=by
         show _=_
         unfold M.put3
         rw [← h1,← h2']
         simp [List.getD_eq_getElem?_getD,List.getElem?_eq_getElem (show 0 < s.l2.length by omega),List.getElem?_eq_getElem (show 1 < s.l2.length by omega)]
        generalize s.l2[0]'(by omega)=x0 at *
        generalize s.l2[1]'(by omega)=x1 at *
        have hSW:∀ w',Below WD.heap.size WD w'→w'.cell? ⟨gv,n * 2,none⟩=some (.slice s.a1 s.l1.length s.c1)∧w'.cell? ⟨gv,n * 2+1,none⟩=some (.slice (some ⟨s.b2,s.o2,none⟩) 3 s.c2)∧w'.cell? ⟨s.b2,s.o2,none⟩=some (.int .i64 x0)∧w'.cell? ⟨s.b2,s.o2+1,none⟩=some (.int .i64 x1):=fun w' hb'=>by
         refine ⟨(hb'.cell (p:=⟨gv,n * 2,none⟩) (World.block_lt_of_cell? _ _ c1)).trans c1,?_,(hb'.cell (p:=⟨s.b2,s.o2,none⟩) (World.block_lt_of_cell? _ _ r0)).trans r0,(hb'.cell (p:=⟨s.b2,s.o2+1,none⟩) (World.block_lt_of_cell? _ _ r1)).trans r1⟩
         rw [(hb'.cell (p:=⟨gv,n * 2+1,none⟩) (World.block_lt_of_cell? _ _ c2')).trans c2',hadr,hs3]
        clear h1 h2' hs3 hadr c1 c2' r0 r1 e1 e2
        go_wp2_with fail
        refine wp_region_held_drew (S:=fun w'=>Below WD.heap.size WD w') (by kernel_rfl) hb.drew (fun hH=>?_)
        refine takeD 0 (some 81) (v) hH rfl rfl (by kernel_rfl) (by kernel_rfl) (by kernel_rfl) (fun _ _ _ h=>h) (Or.inl ⟨by rfl,by intro w' hSw;go_simp⟩) ?_
        simp only [Act.put,List.setIfInBounds_toArray,List.set_cons_zero,List.set_cons_succ]
        refine takeD 1 (some 82) (.slice (some ⟨gv,0,none⟩) ks.length cv) hH rfl rfl (by kernel_rfl) (by kernel_rfl) (by kernel_rfl) (fun _ _ _ h=>h) (Or.inl ⟨by rfl,by intro w' hSw;go_simp⟩) ?_
        simp only [Act.put,List.setIfInBounds_toArray,List.set_cons_zero,List.set_cons_succ]
        refine takeD 2 (some 83) (.int .i64 n) hH rfl rfl (by kernel_rfl) (by kernel_rfl) (by kernel_rfl) (fun _ _ _ h=>h) (Or.inl ⟨by rfl,by intro w' hSw;go_simp⟩) ?_
        simp only [Act.put,List.setIfInBounds_toArray,List.set_cons_zero,List.set_cons_succ]
        refine takeD 3 (some 84) (.pointer (some ⟨gv,n * 2,none⟩)) hH rfl rfl (by kernel_rfl) (by kernel_rfl) (by kernel_rfl) (fun _ _ _ h=>h) (Or.inl ⟨by rfl,by intro w' hSw;go_simp⟩) ?_
        simp only [Act.put,List.setIfInBounds_toArray,List.set_cons_zero,List.set_cons_succ]
        refine takeD 4 (some 85) (.pointer (some ⟨gv,n * 2,none⟩)) hH rfl rfl (by kernel_rfl) (by kernel_rfl) (by kernel_rfl) (fun _ _ _ h=>h) (Or.inl ⟨by rfl,by intro w' hSw;go_simp⟩) ?_
        simp only [Act.put,List.setIfInBounds_toArray,List.set_cons_zero,List.set_cons_succ]
        refine takeD 5 (some 86) (.slice s.a1 s.l1.length s.c1) hH rfl rfl (by kernel_rfl) (by kernel_rfl) (by kernel_rfl) (fun _ _ _ h=>h) (Or.inl ⟨by rfl,by intro w' hSw;have hc:=(hSW w' hSw).1;go_simp⟩) ?_
        simp only [Act.put,List.setIfInBounds_toArray,List.set_cons_zero,List.set_cons_succ]
        refine takeD 6 (some 87) (.slice (some ⟨gv,0,none⟩) ks.length cv) hH rfl rfl (by kernel_rfl) (by kernel_rfl) (by kernel_rfl) (fun _ _ _ h=>h) (Or.inl ⟨by rfl,by intro w' hSw;go_simp⟩) ?_
        simp only [Act.put,List.setIfInBounds_toArray,List.set_cons_zero,List.set_cons_succ]
        refine takeD 7 (some 88) (.int .i64 n) hH rfl rfl (by kernel_rfl) (by kernel_rfl) (by kernel_rfl) (fun _ _ _ h=>h) (Or.inl ⟨by rfl,by intro w' hSw;go_simp⟩) ?_
        simp only [Act.put,List.setIfInBounds_toArray,List.set_cons_zero,List.set_cons_succ]
        refine takeD 8 (some 89) (.pointer (some ⟨gv,n * 2,none⟩)) hH rfl rfl (by kernel_rfl) (by kernel_rfl) (by kernel_rfl) (fun _ _ _ h=>h) (Or.inl ⟨by rfl,by intro w' hSw;go_simp⟩) ?_
        simp only [Act.put,List.setIfInBounds_toArray,List.set_cons_zero,List.set_cons_succ]
        refine takeD 9 (some 90) (.pointer (some ⟨gv,n * 2+1,none⟩)) hH rfl rfl (by kernel_rfl) (by kernel_rfl) (by kernel_rfl) (fun _ _ _ h=>h) (Or.inl ⟨by rfl,by intro w' hSw;go_simp⟩) ?_
        simp only [Act.put,List.setIfInBounds_toArray,List.set_cons_zero,List.set_cons_succ]
        refine takeD 10 (some 91) (.slice (some ⟨s.b2,s.o2,none⟩) 3 s.c2) hH rfl rfl (by kernel_rfl) (by kernel_rfl) (by kernel_rfl) (fun _ _ _ h=>h) (Or.inl ⟨by rfl,by intro w' hSw;have hc:=(hSW w' hSw).2.1;go_simp⟩) ?_
        simp only [Act.put,List.setIfInBounds_toArray,List.set_cons_zero,List.set_cons_succ]
        refine takeD 11 (some 92) (.pointer (some ⟨s.b2,s.o2,none⟩)) hH rfl rfl (by kernel_rfl) (by kernel_rfl) (by kernel_rfl) (fun _ _ _ h=>h) (Or.inl ⟨by rfl,by intro w' hSw;go_simp⟩) ?_
        simp only [Act.put,List.setIfInBounds_toArray,List.set_cons_zero,List.set_cons_succ]
        refine takeD 12 (some 93) (.int .i64 x0) hH rfl rfl (by kernel_rfl) (by kernel_rfl) (by kernel_rfl) (fun _ _ _ h=>h) (Or.inl ⟨by rfl,by intro w' hSw;have hc:=(hSW w' hSw).2.2.1;go_simp⟩) ?_
        simp only [Act.put,List.setIfInBounds_toArray,List.set_cons_zero,List.set_cons_succ]
        refine takeD 13 (some 94) (.slice (some ⟨gv,0,none⟩) ks.length cv) hH rfl rfl (by kernel_rfl) (by kernel_rfl) (by kernel_rfl) (fun _ _ _ h=>h) (Or.inl ⟨by rfl,by intro w' hSw;go_simp⟩) ?_
        simp only [Act.put,List.setIfInBounds_toArray,List.set_cons_zero,List.set_cons_succ]
        refine takeD 14 (some 95) (.int .i64 n) hH rfl rfl (by kernel_rfl) (by kernel_rfl) (by kernel_rfl) (fun _ _ _ h=>h) (Or.inl ⟨by rfl,by intro w' hSw;go_simp⟩) ?_
        simp only [Act.put,List.setIfInBounds_toArray,List.set_cons_zero,List.set_cons_succ]
        refine takeD 15 (some 96) (.pointer (some ⟨gv,n * 2,none⟩)) hH rfl rfl (by kernel_rfl) (by kernel_rfl) (by kernel_rfl) (fun _ _ _ h=>h) (Or.inl ⟨by rfl,by intro w' hSw;go_simp⟩) ?_
        simp only [Act.put,List.setIfInBounds_toArray,List.set_cons_zero,List.set_cons_succ]
        refine takeD 16 (some 97) (.pointer (some ⟨gv,n * 2+1,none⟩)) hH rfl rfl (by kernel_rfl) (by kernel_rfl) (by kernel_rfl) (fun _ _ _ h=>h) (Or.inl ⟨by rfl,by intro w' hSw;go_simp⟩) ?_
        simp only [Act.put,List.setIfInBounds_toArray,List.set_cons_zero,List.set_cons_succ]
        refine takeD 17 (some 98) (.slice (some ⟨s.b2,s.o2,none⟩) 3 s.c2) hH rfl rfl (by kernel_rfl) (by kernel_rfl) (by kernel_rfl) (fun _ _ _ h=>h) (Or.inl ⟨by rfl,by intro w' hSw;have hc:=(hSW w' hSw).2.1;go_simp⟩) ?_
        simp only [Act.put,List.setIfInBounds_toArray,List.set_cons_zero,List.set_cons_succ]
        refine takeD 18 (some 99) (.pointer (some ⟨s.b2,s.o2+1,none⟩)) hH rfl rfl (by kernel_rfl) (by kernel_rfl) (by kernel_rfl) (fun _ _ _ h=>h) (Or.inl ⟨by rfl,by intro w' hSw;go_simp⟩) ?_
        simp only [Act.put,List.setIfInBounds_toArray,List.set_cons_zero,List.set_cons_succ]
        refine takeD 19 (some 100) (.int .i64 x1) hH rfl rfl (by kernel_rfl) (by kernel_rfl) (by kernel_rfl) (fun _ _ _ h=>h) (Or.inl ⟨by rfl,by intro w' hSw;have hc:=(hSW w' hSw).2.2.2;go_simp⟩) ?_
        simp only [Act.put,List.setIfInBounds_toArray,List.set_cons_zero,List.set_cons_succ]
        refine wpAnyH_ready (rs:=[20]) (by kernel_rfl) (by simp) ?_
        refine AllReadyH.cons rfl (fun K' hK=>?_) AllReadyH.nil
        rw [if_pos (by rfl)]
        go_simp
        have bI:Below WD.heap.size WD (wr.drew.alloc (.cells #[.int .i64 x0,.int .i64 x1,.int .i64 3] 3)):=hb.drew.alloc hb.size _
        refine hK.out _ _ bI (fun hHa=>?_)
        clear hK K'
        refine takeD 21 (some 102) (.agg #[.slice s.a1 s.l1.length s.c1,.slice (some ⟨wr.heap.size,0,none⟩) 3 3]) hHa rfl rfl (by kernel_rfl) (by kernel_rfl) (by kernel_rfl) (fun _ _ _ h=>h) (Or.inl ⟨by rfl,by intro w' hSw;go_simp⟩) ?_
        simp only [Act.put,List.setIfInBounds_toArray,List.set_cons_zero,List.set_cons_succ]
        refine wpAnyH_ready (rs:=[22]) (by kernel_rfl) (by simp) ?_
        refine AllReadyH.cons rfl (fun K' hK=>?_) AllReadyH.nil
        rw [if_pos (by rfl)]
        go_simp
        have bJ:Below WD.heap.size WD ((wr.drew.alloc (.cells #[.int .i64 x0,.int .i64 x1,.int .i64 3] 3)).alloc (.cells #[.slice s.a1 s.l1.length s.c1,.slice (some ⟨wr.heap.size,0,none⟩) 3 3] 49)):=bI.alloc bI.size _
        refine hK.out _ _ bJ (fun hHb=>?_)
        clear hK K'
        refine wpAnyH_ready (rs:=[23]) (by kernel_rfl) (by simp) ?_
        refine AllReadyH.cons rfl (fun K' hK=>?_) AllReadyH.nil
        have bIw:Below wr.heap.size wr (wr.drew.alloc (.cells #[.int .i64 x0,.int .i64 x1,.int .i64 3] 3)):=(Below.refl wr.heap.size wr).drew.alloc (Nat.le_refl _) _
        have hLI:=hL.below bIw
        refine step_append_sn (by rfl) (.tmp 81) (.tmp 103) 29 rfl (some 104) rfl WD.heap.size 49 j0 _ 48 Tryz.underlying29 hj hy0 hy1 hy2 rfl v ss.length (cellsS ss) (by rfl) (hLI.own.alloc _) bJ.size (wr.heap.size+1) (.slice s.a1 s.l1.length s.c1) (.slice (some ⟨wr.heap.size,0,none⟩) 3 3) (by rfl) (by simp) (by simp) rfl rfl (by have:=HSL.out;unfold maxLen;omega) (by have:=HSL.out;omega) ?_
        intro v2 w2 hown2 hg2 hat2
        have hsn:(⟨s.a1,s.b1,s.o1,s.c1,s.l1,some ⟨wr.heap.size,0,none⟩,wr.heap.size,0,3,[x0,x1,3]⟩:Sn).At (wr.drew.alloc (.cells #[.int .i64 x0,.int .i64 x1,.int .i64 3] 3)):=⟨(hsa.reads.below hb (Nat.le_refl _)).below bIw (Nat.le_refl _),intS_three wr.drew x0 x1 3⟩
        have hwd:=hb.size
        have hL2:=hLI.snoc (s:=⟨s.a1,s.b1,s.o1,s.c1,s.l1,some ⟨wr.heap.size,0,none⟩,wr.heap.size,0,3,[x0,x1,3]⟩) hsn (fun k hk e=>by
         have hlt2:=hL.own.lt k e
         rcases hk with ⟨h0,h1⟩ | ⟨_,h1⟩
         ·have h5:k < WD.heap.size:=by rw [h1];exact hsa.reads.lt h0
          omega
         ·have h5:k=wr.heap.size:=h1
          omega) hown2 hg2 (by
         rcases hat2 with h | h
         ·exact .inl h
         ·right;rw [h];simp)
        have b2:Below WD.heap.size WD w2:=below_grown bJ hg2 (fun j hj=>(hL.own.lt j hj).1) bJ.size
        clear hown2 hg2 hat2
        refine hK.out _ _ b2 (fun hHc=>?_)
        clear hK K'
        simp only [Act.put,List.setIfInBounds_toArray,List.set_cons_zero,List.set_cons_succ]
        refine takeD 24 (some 8) (v2) hHc rfl rfl (by kernel_rfl) (by kernel_rfl) (by kernel_rfl) (fun _ _ _ h=>h) (Or.inl ⟨by rfl,by intro w' hSw;go_simp⟩) ?_
        simp only [Act.put,List.setIfInBounds_toArray,List.set_cons_zero,List.set_cons_succ]
        refine wpAnyH_done (by kernel_rfl) ?_ _
        go_wp2_with fail
        exact ⟨⟨n+1,v2,_,rfl,by go_num,by omega,by show _=_;rw [List.length_append,HSL.out];rfl,hL2,by show kys _=_;rw [kys,List.map_append,← kys,HKY.out,HKX.out,HPK.out];rfl,b2⟩,by simp [intOf];omega⟩
       ·have i1:¬ (n:Int) < ks.length:=by omega
        obtain ⟨ax,gx,cx,rfl,hKS⟩:=hL.ks
        have htk:ks.take n=ks:=List.take_of_length_le (by omega)
        rw [HKY.out,htk] at hKS
        have hsn:ss.length=(ks.map M.put3).length:=by rw [HSL.out,List.length_map];omega
        have bxr:=bxD.below hb
        have qr:=(qD.bl' hb).c
        have hK3:=put3_len fun z hz=>(hkk z hz).1
        have hK4:(ks.map M.put3).length≤1048576:=by rw [List.length_map];omega
        have CQ3:=CQ2 wr (ssD.below hb (Nat.le_refl _))
        rw [hsn]
        generalize ks.map M.put3=kp at *
        clear CQ2 HKY HEQ hsn
        go_wp2_with fail
        refine CQ3.mono ?_
        rintro e WH ⟨vH,rfl,hB⟩
        have bxH:=bxr.below hB.bel
        have hSH:=hKS.below hB.bel (Nat.le_refl _)
        obtain ⟨aw,gw,cw,rfl,hTw⟩:=hB.ex
        clear hB
        go_wp2_with fail
        refine (lpList_same aw gw 0 cw ax gx 0 cx kp WH hK4 hK3 hTw hSH).mono ?_
        rintro e WI ⟨rfl,bI⟩
        have bxI:=bxH.below bI
        go_wp2_with fail
        go_ret
        exact ⟨rfl,bxI.bel⟩
   ·clear HKS
    go_wp2_with fail
    refine (CS W3 bx3).mono ?_
    rintro e X7 ⟨v7,rfl,hB⟩
    have bxX:=bx3.below hB.bel
    have hSX:=hS3.below hB.bel (Nat.le_refl _)
    obtain ⟨ax,gx,cx,rfl,hTX⟩:=hB.ex
    clear hB
    go_wp2_with fail
    refine (lpList_same av gv 0 cv ax gx 0 cx ks X7 (by omega) hkk hSX hTX).mono ?_
    rintro e Y7 ⟨rfl,bY⟩
    have bxY:=bxX.below bY
    go_wp2_with fail
    go_ret
    exact ⟨rfl,bxY.bel⟩
 ·go_enter Tryz.func11,Tryz.ntmps11
  go_wp2_with fail
  go_ret
  exact ⟨rfl,Below.refl _ _⟩
end Go.Proofs.YtjjkicffhpcngaaGreat
