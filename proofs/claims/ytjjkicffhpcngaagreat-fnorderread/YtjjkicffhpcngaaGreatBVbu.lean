/- spec.l71Thread: a drawn thread. And what goes with it: DrTh, ApDo, ApDo2, ApSn, RwMath. -/
import Derived.Below
import Derived.BigQuiet
import Derived.Deep.AppendLies
import Derived.Deep.CutRange
import Derived.Deep.MidRow
import Derived.Deep.Quiet
import Derived.Deep.QuietTactic
import Derived.Deep.RegionHeld3
import Derived.Deep.RegionLaw
import Derived.Deep.RegionWith
import Derived.Deep.Slices
import Derived.Deep.WholeRow
import Derived.Handy
import Derived.Laws.AppendOwn
import Derived.Laws.AppendOwnNone
import Derived.Laws.EntriesVeiled
import Derived.Laws.IdiomCopy
import Derived.Laws.OwnMore
import Derived.LoopIn
import Derived.LoopN
import Derived.LoopNIn
import Derived.Maps.OwnIn
import Derived.OwnWalkIn
import Derived.RangeFuncBound
import Derived.RangeFuncLeaves
import Derived.RangeFuncNested
import Derived.Shelf.Abstract
import Derived.Shelf.SlSortCmp.NoneTotal
import Derived.Sort.Grow
import Derived.TacticsInMore
import Derived.WalkKit
import Derived.WalkLawsBesides
import Derived.WalkSpells
import Derived.Deep.OwnRows
import Derived.Test.YtjjkicffhpcngaaGreatRows
import Derived.Test.YtjjkicffhpcngaaGreatBVbt
namespace Go.Proofs.YtjjkicffhpcngaaGreat
open Go.RowKit
theorem flat_length (l:List M.D):(flat l).length=l.length * 3:=by
 induction l with
 | nil=>rfl
 | cons d l ih=>simp [flat,ih];omega
end Go.Proofs.YtjjkicffhpcngaaGreat
namespace Go.Proofs.YtjjkicffhpcngaaGreat
open Go.RowKit
theorem none_append {P:Program} (w:World) (base:Nat) (t ty e:TypeId) (i:TypeInfo) (size:Nat) (ht:P.underlying t=some (.slice e)) (hi:P.info? e=some i)
  (v:Value) (n:Nat) (xs:List Value) (hown:w.ownsRow base e size v n xs) (c:Nat) :
  (Builtin.append_ #[t,t] ty #[v,.slice none 0 c]).run P w=.ok v w:=by
 rcases hown.2 with ⟨rfl,rfl⟩ | ⟨g,cap,cur,rfl,_,_,hnc,_⟩
 ·simp [Builtin.append_,run_underlying ht,sizeOf,typeInfo,hi,Builtin.lenOf,Builtin.firstCells]
 ·simp [Builtin.append_,run_underlying ht,sizeOf,typeInfo,hi,Builtin.lenOf,Builtin.firstCells,hnc]
  simp [storeCells,Result.andThen]
theorem DoS.flat {w:World} {a:Option Addr} {b o:Nat} {l:List M.D} (h:DoS w a b o l):∀ j u,(flat l)[j]?=some u→w.cell? ⟨b,o+j,none⟩=some u:=by
 have key:∀ (l:List M.D) (o:Nat),Row w b o l→∀ j u,(Go.Proofs.YtjjkicffhpcngaaGreat.flat l)[j]?=some u→w.cell? ⟨b,o+j,none⟩=some u:=by
  intro l
  induction l with
  | nil=>intro o _ j u hj;simp [Go.Proofs.YtjjkicffhpcngaaGreat.flat] at hj
  | cons d l ih =>
   intro o hr j u hj
   have h0:=hr 0 (by simp)
   rw [show Go.Proofs.YtjjkicffhpcngaaGreat.flat (d::l)=[.int .i64 d.k,.int .i64 d.p,.int .i64 d.v]++Go.Proofs.YtjjkicffhpcngaaGreat.flat l by simp [Go.Proofs.YtjjkicffhpcngaaGreat.flat]] at hj
   match j,hj with
   | 0,hj=>obtain rfl:=Option.some.inj hj;simpa using h0.k
   | 1,hj=>obtain rfl:=Option.some.inj hj;simpa using h0.p
   | 2,hj=>obtain rfl:=Option.some.inj hj;simpa using h0.v
   | j+3,hj =>
    have:=ih (o+3) (fun i hi=>by
     have:=hr (i+1) (by simpa using hi)
     rw [show o+(i+1) * 3=o+3+i * 3 by omega] at this
     simpa using this) j u (by simpa using hj)
    rwa [show o+3+j=o+(j+3) by omega] at this
 exact key l o h.row
theorem flat_oneD (l:List M.D):∀ y∈flat l,y.oneCell'=true:=by
 induction l with
 | nil=>intro y hy;cases hy
 | cons d l ih =>
  intro y hy
  simp only [flat,List.mem_cons] at hy
  rcases hy with rfl | rfl | rfl | hy
  ·rfl
  ·rfl
  ·rfl
  ·exact ih y hy
end Go.Proofs.YtjjkicffhpcngaaGreat
namespace Go.Proofs.YtjjkicffhpcngaaGreat
open Go.RowKit
theorem wp_append_do {P:Program} {o:Oper} {a:Act} {w:World} {K:Act→World→Prop} {Q:Exit→Act→World→Prop} (s x:Operand) (t:TypeId)
  (ho:o.op=.call { callee:=.builtin .append,args:=#[s,x],argTypes:=#[t,t] }) (d:Option Tmp) (hdst:o.dst=d) (base:Nat) (e:TypeId) (i:TypeInfo) (z:Value) (bytes:Nat) (ht:P.underlying t=some (.slice e)) (hi:P.info? e=some i) (hz0:i.zero=some z) (hz1:i.size=3) (hz2:i.bytes=bytes) (hzs:z.cells.size=3)
  (v:Value) (n:Nat) (xs:List Value) (hs:a.eval s=v) (hown:w.ownsRow base e 3 v n xs) (hbase:base≤w.heap.size) (sa:Option Addr) (b off c:Nat) (l:List M.D) (hx:a.eval x=.slice sa l.length c) (hI:DoS w sa b off l) (h63:n+l.length≤maxLen) (hbytes:(n+l.length) * bytes≤140737488355328)
  (h:∀ v' w',w'.ownsRow base e 3 v' (n+l.length) (xs++flat l)→w.grownBy w' v.ownBlock→(v'.ownBlock=v.ownBlock∨v'.ownBlock=some w.heap.size)→K (a.put d v') w') :
  Oper.wp P o a w K Q:=by
 subst hdst
 cases sa with
 | none =>
  have hl0:l=[]:=by
   rcases Nat.eq_zero_or_pos l.length with h0 | h0
   ·exact List.length_eq_zero_iff.1 h0
   ·cases hI.addr h0
  subst hl0
  rw [List.length_nil] at hx
  have hrun:=none_append (P:=P) w base t o.type e i 3 ht hi v n xs hown c
  have hk:=h v w (by simpa [flat] using hown) (grown_refl _ _) (.inl rfl)
  unfold Oper.wp
  simp [execOp,ho,resolve,invoke,builtin,hs,hx,hrun,Result.andThen]
  exact hk
 | some ad =>
  have hn:∀ j u,(flat l)[j]?=some u→w.cell? (ad.add j)=some u:=fun j u hj=>by
   have hl:0 < l.length:=by
    rcases Nat.eq_zero_or_pos l.length with h0 | h0
    ·obtain rfl:=List.length_eq_zero_iff.1 h0;simp [flat] at hj
    ·exact h0
   obtain ⟨rfl⟩:=hI.addr hl
   rw [Go.WideShapes.add_plain]
   exact hI.flat j u hj
  obtain ⟨v',w',hrun,h2,h3,_,h5⟩:=run_append_own_at (P:=P) w base t o.type e i z 3 bytes ht hi hz0 hz1 hz2 hzs (by decide) v n xs hown ad l.length c (flat l) (flat_length l) hn (flat_oneD l) h63 hbytes hbase
  have hk:=h v' w' h2 h3 h5
  unfold Oper.wp
  simp [execOp,ho,resolve,invoke,builtin,hs,hx,hrun,Result.andThen]
  exact hk
theorem step_append_do2 {P:Program} {ops:Array Oper} {o:Oper} {a:Act} {w:World} {K:Act→World→Prop} {Q:Exit→Act→World→Prop} {E:Prop} (hgd:o.guard=none) (s x:Operand) (t:TypeId)
  (ho:o.op=.call { callee:=.builtin .append,args:=#[s,x],argTypes:=#[t,t] }) (d:Option Tmp) (hdst:o.dst=d) (base:Nat) (e:TypeId) (i:TypeInfo) (z:Value) (bytes:Nat) (ht:P.underlying t=some (.slice e)) (hi:P.info? e=some i) (hz0:i.zero=some z) (hz1:i.size=3) (hz2:i.bytes=bytes) (hzs:z.cells.size=3)
  (v:Value) (n:Nat) (xs:List Value) (hs:a.eval s=v) (hown:w.ownsRow base e 3 v n xs) (hbase:base≤w.heap.size) (sa:Option Addr) (b off c:Nat) (l:List M.D) (hx:a.eval x=.slice sa l.length c) (hI:DoS w sa b off l) (h63:n+l.length≤maxLen) (hbytes:(n+l.length) * bytes≤140737488355328)
  (h:∀ v' w',w'.ownsRow base e 3 v' (n+l.length) (xs++flat l)→w.grownBy w' v.ownBlock→(v'.ownBlock=v.ownBlock∨v'.ownBlock=some w.heap.size)→K (a.put d v') w') :
  if Region.wanted o (yielded ops a.tmps)=true then Oper.wp P o a w K Q else E:=by
 have hw:Region.wanted o (yielded ops a.tmps)=true:=by simp [Region.wanted,hgd]
 rw [if_pos hw]
 exact wp_append_do s x t ho d hdst base e i z bytes ht hi hz0 hz1 hz2 hzs v n xs hs hown hbase sa b off c l hx hI h63 hbytes h
theorem flat_app (l m:List M.D):flat (l++m)=flat l++flat m:=by
 induction l with
 | nil=>rfl
 | cons d l ih=>simp [flat,ih]
theorem put_thread {W0 W:World} {B B2 gq n c5 k:Nat} {vs:List Value} {mm:List (List M.D)} {a4:Option Addr} {l:List M.D} {c4:Nat} (hT:Thr W0 vs mm) (hn:n=mm.length) (hB:W0.heap.size≤gq) (hbel:Below W0.heap.size W0 W) (hq:W.ownsRow B 41 1 (.slice (some ⟨gq,0,none⟩) n c5) n vs) (hl:W.ownsRow B2 43 3 (.slice a4 l.length c4) l.length (flat l)) (hk:k < mm.length) :
  DoSS (W.setCell ⟨gq,k,none⟩ (.slice a4 l.length c4)) (some ⟨gq,0,none⟩) gq 0 (mm.set k l)∧Below W0.heap.size W0 (W.setCell ⟨gq,k,none⟩ (.slice a4 l.length c4)):=by
 obtain ⟨s1,s2⟩:=World.ownsRow.stored hq k (.slice a4 l.length c4)
 have hb:=hbel.setCell (p:=⟨gq,k,none⟩) hB (.slice a4 l.length c4)
 have hl2:=hl.kept s2 (own_apart hl hq (by decide))
 have hcap:l.length≤c4:=by
  rcases hl2.2 with ⟨e,h0⟩ | ⟨g,cap,cur,e,_,_,hnc,_⟩
  ·rw [h0];exact Nat.zero_le _
  ·simp only [Value.slice.injEq] at e
   rw [e.2.2];exact hnc
 obtain ⟨a',b',c',e',hd,_⟩:=own_steps hl2
 simp only [Value.slice.injEq] at e'
 obtain ⟨rfl,_,rfl⟩:=e'
 have hT2:=hT.below hb (Nat.le_refl _)
 have hTT:Thr (W.setCell ⟨gq,k,none⟩ (.slice a4 l.length c4)) (vs.set k (.slice a4 l.length c4)) (mm.set k l):=by
  refine ⟨by simp [hT.1],fun i h1 h2=>?_⟩
  by_cases e:i=k
  ·subst e
   rw [List.getElem_set_self,List.getElem_set_self]
   exact ⟨_,_,_,_,rfl,hd,hcap⟩
  ·rw [List.getElem_set_ne (fun h=>e h.symm),List.getElem_set_ne (fun h=>e h.symm)]
   exact hT2.2 i (by simpa using h1) (by simpa using h2)
 obtain ⟨a9,g9,c9,e9,hss⟩:=hTT.ss (B:=B) (by rw [List.length_set];subst hn;exact s1)
 simp only [Value.slice.injEq] at e9
 obtain ⟨e1,_,_⟩:=e9
 refine ⟨?_,hb⟩
 subst e1
 have hpos:0 < (mm.set k l).length:=by rw [List.length_set];omega
 have:=hss.addr hpos
 simp only [Option.some.injEq,Addr.mk.injEq] at this
 obtain ⟨rfl,_⟩:=this
 exact hss
end Go.Proofs.YtjjkicffhpcngaaGreat
namespace Go.Proofs.YtjjkicffhpcngaaGreat
open Go.RowKit
structure PutEnd (W:World) (Q gq n c:Nat) (mm:List (List M.D)) (wc:World):Prop where
 ss:DoSS wc (some ⟨gq,0,none⟩) gq 0 mm
 q:Slot1 wc Q (.slice (some ⟨gq,0,none⟩) n c)
 bel:Below W.heap.size W wc
theorem set_last {m0:List (List M.D)} {l0 l1:List M.D}:(m0++[l0]).set m0.length l1=m0++[l1]:=by simp
end Go.Proofs.YtjjkicffhpcngaaGreat
namespace Go.Proofs.YtjjkicffhpcngaaGreat
namespace M
section
variable {ds : List De} {x : De}
end
section
variable {ll mm : List (List D)} {x : De}
end
theorem deeds_snoc (ll:List (List D)) (l:List D) (d:D) (hd:d.k≠9):∃ x:De,x.d=d∧deeds (ll++[l++[d]])=deeds (ll++[l])++[x]:=by
 obtain ⟨x,h1,h2⟩:=deT_snoc (0+ll.length) d hd l 0 (-1) (0+(deF 0 0 ll).length)
 refine ⟨x,h1,?_⟩
 unfold deeds
 rw [deF_append,deF_append]
 simp only [deF,List.append_nil]
 rw [h2,List.append_assoc]
theorem all_read {ll:List (List D)} {l:List D} {p:Int} (hp:prog (ll++[l])=true) (hq:prog (ll++[l++[⟨2,p,0⟩]])=true) (h0:0≤p) (h3:p < 3) (k:Int):sortK ((orderAll (ll++[l++[⟨2,p,0⟩]]) k).map fun z=>(z.1.dropLast,z.2))=orderAll (ll++[l]) k∧∀ z∈orderAll (ll++[l++[⟨2,p,0⟩]]) k,0 < z.1.length:=by
 obtain ⟨x,h1,h2⟩:=deeds_snoc ll l ⟨2,p,0⟩ (by simp)
 exact ⟨read_all hp hq h2 (by rw [h1]) (by rw [h1];exact ⟨h0,h3⟩) k,read_some hq hp h2 (by rw [h1])⟩
end M
end Go.Proofs.YtjjkicffhpcngaaGreat
