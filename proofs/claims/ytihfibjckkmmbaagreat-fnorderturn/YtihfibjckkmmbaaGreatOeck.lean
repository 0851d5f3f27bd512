/- What an order allows of a program whose threads stand otherwise: what it allows of the program, each thread's reads turned along. Plainly. No condition but what is said. What an order allows of a program whose threads stand otherwise, as the law asks it. Plainly. No condition but what is said. -/
import Derived.Below
import Derived.BigQuiet
import Derived.Deep.AppendLies
import Derived.Deep.MidRow
import Derived.Deep.Quiet
import Derived.Deep.QuietTactic
import Derived.Deep.RegionHeld3
import Derived.Deep.RegionLaw
import Derived.Deep.RegionWith
import Derived.Deep.Slices
import Derived.Deep.WholeRow
import Derived.Handy
import Derived.Laws.AppendOwn
import Derived.Laws.AppendOwnNone
import Derived.Laws.EntriesVeiled
import Derived.Laws.IdiomCopy
import Derived.Laws.OwnMore
import Derived.LoopIn
import Derived.LoopN
import Derived.LoopNIn
import Derived.OwnWalkIn
import Derived.RangeFuncBound
import Derived.RangeFuncLeaves
import Derived.RangeFuncNested
import Derived.Shelf.Abstract
import Derived.Shelf.SlSortCmp.NoneTotal
import Derived.Sort.Grow
import Derived.TacticsInMore
import Derived.WalkKit
import Derived.WalkLawsBesides
import Derived.WalkSpells
import Derived.Deep.OwnRows
import Derived.Test.YtihfibjckkmmbaaGreatRows
import Derived.Test.YtihfibjckkmmbaaGreatOeci
import Derived.Test.YtihfibjckkmmbaaGreatOecj
namespace Go.Proofs.YtihfibjckkmmbaaGreat
namespace M
theorem rdAt_pt {ds es:List De} {l m:List Int}:∀ (xs ys:List De) (n n':Nat),ys.length=xs.length→(∀ i (h:i < xs.length) (h':i < ys.length),ys[i].reads=xs[i].reads)→(∀ i,i < xs.length→vl es m ((n'+i:Nat):Int)=vl ds l ((n+i:Nat):Int))→rdAt es m n' ys=rdAt ds l n xs
 | [],ys,n,n',hl,_,_=>by rw [List.length_eq_zero_iff.1 hl];rfl
 | x::xs,[],n,n',hl,_,_=>by simp at hl
 | x::xs,y::ys,n,n',hl,hr,hv=>by
  have h0:=hr 0 (by simp) (by simp)
  have v0:=hv 0 (by simp)
  have ih:=rdAt_pt xs ys (n+1) (n'+1) (by simpa using hl) (fun i h h'=>by have:=hr (i+1) (by simpa using h) (by simpa using h');simpa using this) (fun i hi=>by
   have:=hv (i+1) (by simpa using hi)
   rw [show n'+1+i=n'+(i+1) by omega,show n+1+i=n+(i+1) by omega]
   exact this)
  simp only [List.getElem_cons_zero,Nat.add_zero] at h0 v0
  unfold rdAt
  rw [h0,v0,ih]
theorem rdAt_len' (ds:List De) (l:List Int):∀ (xs:List De) (n:Nat),(rdAt ds l n xs).length=xs.countP De.reads
 | [],_=>by simp [rdAt]
 | x::xs,n=>by
  have ih:=rdAt_len' ds l xs (n+1)
  unfold rdAt
  cases hx:x.reads
  ·simpa [hx] using ih
  ·simp [hx];exact ih
theorem cp_deD (t i:Nat) (lr:Int) (n:Nat) (d:D):(deD t i lr n d).countP De.reads=if reads d.k then 1 else 0:=by
 unfold deD
 by_cases h:d.k==9
 ·have h9:d.k=9:=by simpa using h
  have hu:reads d.k=false:=by rw [h9];decide
  rw [if_pos h];simp [De.reads,hu]
 ·rw [if_neg h]
  cases hu:reads d.k<;>simp [De.reads,hu]
theorem cp_deT (t:Nat):∀ (l:List D) (i:Nat) (lr:Int) (n:Nat),(deT t i lr n l).countP De.reads=cnt reads l
 | [],_,_,_=>by simp [deT,cnt]
 | d::l,i,lr,n=>by rw [deT,List.countP_append,cp_deD,cp_deT t l,cnt_cons]
theorem cp_deF:∀ (ll:List (List D)) (t n:Nat),(deF t n ll).countP De.reads=tot reads ll
 | [],_,_=>by simp [deF,tot]
 | l::ll,t,n=>by rw [deF,List.countP_append,cp_deT,cp_deF ll,tot]
theorem sw_chunks {ds es P TA TB Q UA UB:List De} {l m:List Int} (hab:ds=P++(TA++(TB++Q))) (hba:es=P++(UB++(UA++Q))) (lA:UA.length=TA.length) (lB:UB.length=TB.length)
  (hv:∀ c,c < ds.length→vl es m ((swA P.length TA.length TB.length c:Nat):Int)=vl ds l (c:Int))
  (hr:∀ (c:Nat) (x y:De),ds[c]?=some x→es[swA P.length TA.length TB.length c]?=some y→y.reads=x.reads) :
  ∃ r0 r1 r2 r3,seenR ds l=r0++(r1++(r2++r3))∧seenR es m=r0++(r2++(r1++r3))∧r0.length=P.countP De.reads∧r1.length=TA.countP De.reads∧r2.length=TB.countP De.reads:=by
 have sR:∀ (ds:List De) (l:List Int) (P Q S T:List De),ds=P++(Q++(S++T))→seenR ds l=rdAt ds l 0 P++(rdAt ds l P.length Q++(rdAt ds l (P.length+Q.length) S++rdAt ds l (P.length+Q.length+S.length) T)):=fun ds l P Q S T e=>by
  show rdAt ds l 0 ds=_
  conv=>lhs;arg 4;rw [e]
  rw [rdAt_app,rdAt_app,rdAt_app,Nat.zero_add]
 have hlen:ds.length=P.length+(TA.length+(TB.length+Q.length)):=by rw [hab];simp
 have hlen2:es.length=P.length+(TA.length+(TB.length+Q.length)):=by rw [hba];simp [lA,lB];omega
 refine ⟨_,_,_,_,sR ds l P TA TB Q hab,?_,rdAt_len' ..,rdAt_len' ..,rdAt_len' ..⟩
 rw [sR es m P UB UA Q hba]
 have key:∀ (n n':Nat) (xs ys:List De) (p1 p2 q1 q2:List De),ds=p1++(xs++q1)→es=p2++(ys++q2)→p1.length=n→p2.length=n'→ys.length=xs.length→(∀ i,i < xs.length→swA P.length TA.length TB.length (n+i)=n'+i)→rdAt es m n' ys=rdAt ds l n xs:=by
  intro n n' xs ys p1 p2 q1 q2 e1 e2 h1 h2 hl hsw
  have hL1:ds.length=n+(xs.length+q1.length):=by rw [e1,← h1];simp
  refine rdAt_pt xs ys n n' hl (fun i h h'=>hr (n+i) (xs[i]'h) (ys[i]'h') ?_ ?_) (fun i hi=>?_)
  ·rw [e1,List.getElem?_append_right (by omega),List.getElem?_append_left (by omega),show n+i - p1.length=i by omega]
   exact List.getElem?_eq_getElem h
  ·rw [hsw i h,e2,List.getElem?_append_right (by omega),List.getElem?_append_left (by omega),show n'+i - p2.length=i by omega]
   exact List.getElem?_eq_getElem h'
  ·rw [← hsw i hi]
   exact hv (n+i) (by omega)
 have sw:=swA_c P.length TA.length TB.length
 have k0:=key 0 0 P P [] [] _ _ (by simpa using hab) (by simpa using hba) rfl rfl rfl (fun i hi=>by have:=sw (0+i);omega)
 have k1:=key P.length (P.length+TB.length) TA UA P (P++UB) _ Q hab (by rw [hba];simp) rfl (by simp [lB]) lA (fun i hi=>by have:=sw (P.length+i);omega)
 have k2:=key (P.length+TA.length) P.length TB UB (P++TA) P Q _ (by rw [hab];simp) hba (by simp) rfl lB (fun i hi=>by have:=sw (P.length+TA.length+i);omega)
 have k3:=key (P.length+TA.length+TB.length) (P.length+TB.length+TA.length) Q Q (P++(TA++TB)) (P++(UB++UA)) [] [] (by rw [hab];simp) (by rw [hba];simp) (by simp;omega) (by simp [lA,lB];omega) rfl (fun i hi=>by have:=sw (P.length+TA.length+TB.length+i);omega)
 rw [k0,lB,k1,k2,lA,k3]
theorem all_swap (pr po:List (List D)) (a b:List D) (hp:prog (pr++a::b::po)=true) (hq:prog (pr++b::a::po)=true) (k:Int) {z:Key} (hz:z∈orderAll (pr++a::b::po) k) {rp ro:List (List Int)} {ra rb:List Int} (h1:Fit pr rp) (h2:ra.length=cnt reads a) (h3:rb.length=cnt reads b) (_h4:Fit po ro) (e:z.1=(rp++ra::rb::ro).flatten) :
  ((rp++rb::ra::ro).flatten,z.2)∈orderAll (pr++b::a::po) k:=by
 obtain ⟨x,hxh,rfl⟩:=mem_orderAll.1 hz
 obtain ⟨kn,rfl⟩:∃ kn:Nat,k=kn:=⟨k.toNat,by have:=(holds_parts_of hxh).1;simp only [Bool.and_eq_true,decide_eq_true_eq] at this;omega⟩
 obtain ⟨A,X,Y,eA,eX,eY,E⟩:=swap_e pr po a b hp
 obtain ⟨y,hyh,R,hx,hy⟩:=E.up hp hq hxh
 have M0:=E.emb (deed_u hp)
 have z1:=deed_zero hp
 have z2:=deed_zero hq
 refine mem_orderAll.2 ⟨y,hyh,?_⟩
 have hv:∀ c,c < (deeds (pr++a::b::po)).length→vl (deeds (pr++b::a::po)) y.1 ((swA A X Y c:Nat):Int)=vl (deeds (pr++a::b::po)) x.1 (c:Int):=fun c hc=>M0.vl R hx hy (lro_deeds _) z1 z2 hc
 have hl:seenL (deeds (pr++b::a::po)) y.1 y.2=seenL (deeds (pr++a::b::po)) x.1 x.2:=by
  have g0:=M0.last R hx hy (lro_deeds _) z1 z2 (p:=0) (by omega) (by omega)
  have g1:=M0.last R hx hy (lro_deeds _) z1 z2 (p:=1) (by omega) (by omega)
  have g2:=M0.last R hx hy (lro_deeds _) z1 z2 (p:=2) (by omega) (by omega)
  unfold seenL
  have t1:=hx.three
  have t2:=hy.three
  generalize x.2=xr at *
  generalize y.2=yr at *
  match xr,t1,yr,t2 with
  | [r0,r1,r2],_,[s0,s1,s2],_ =>
   simp only [id] at g0 g1 g2
   simp only [List.map_cons,List.map_nil]
   have g0':lastOf (deeds (pr++b::a::po)) y.1 s0=lastOf (deeds (pr++a::b::po)) x.1 r0:=g0
   have g1':lastOf (deeds (pr++b::a::po)) y.1 s1=lastOf (deeds (pr++a::b::po)) x.1 r1:=g1
   have g2':lastOf (deeds (pr++b::a::po)) y.1 s2=lastOf (deeds (pr++a::b::po)) x.1 r2:=g2
   rw [g0',g1',g2']
 have hds:∀ (u v:List D),deeds (pr++u::v::po)=deF 0 0 pr++(deT pr.length 0 (-1) (deF 0 0 pr).length u++(deT (pr.length+1) 0 (-1) ((deF 0 0 pr).length+(deT pr.length 0 (-1) (deF 0 0 pr).length u).length) v++deF (pr.length+2) ((deF 0 0 pr).length+(deT pr.length 0 (-1) (deF 0 0 pr).length u).length+(deT (pr.length+1) 0 (-1) ((deF 0 0 pr).length+(deT pr.length 0 (-1) (deF 0 0 pr).length u).length) v).length) po)):=fun u v=>by
  unfold deeds
  rw [deF_append,deF,deF]
  simp [Nat.add_assoc]
 have lenT:∀ (l:List D) (t n t' n':Nat),(deT t 0 (-1) n l).length=(deT t' 0 (-1) n' l).length:=fun l t n t' n'=>by
  have:=(sf_deT (m:=n') (m':=n) t' t l 0 0 (-1) (-1) 0 (.inl ⟨rfl,rfl⟩)).1
  simpa using this
 have hba:=hds b a
 rw [lenT b pr.length (deF 0 0 pr).length (pr.length+1) ((deF 0 0 pr).length+(deT pr.length 0 (-1) (deF 0 0 pr).length a).length)] at hba
 rw [lenT a (pr.length+1) _ pr.length (deF 0 0 pr).length] at hba
 rw [Nat.add_right_comm] at hba
 subst eA eX eY
 obtain ⟨r0,r1,r2,r3,q1,q2,l0,l1,l2⟩:=sw_chunks (l:=x.1) (m:=y.1) (hds a b) hba (lenT _ _ _ _ _) (lenT _ _ _ _ _) hv (fun c u v hu hv=>by
  obtain ⟨w,hw,hd,_⟩:=E.at_ c u hu
  rw [hv] at hw
  obtain rfl:=Option.some.inj hw
  exact congrArg (fun d:D=>M.reads d.k) hd)
 rw [cp_deF,← fit_tot _ _ h1] at l0
 rw [cp_deT,← h2] at l1
 rw [cp_deT,← h3] at l2
 have e':r0++(r1++(r2++r3))=rp.flatten++(ra++(rb++ro.flatten)):=by
  rw [← q1];exact e.trans (by simp)
 obtain ⟨f0,e'⟩:=List.append_inj e' l0
 obtain ⟨f1,e'⟩:=List.append_inj e' l1
 obtain ⟨f2,e'⟩:=List.append_inj e' l2
 show (seenR _ _,seenL _ _ _)=_
 rw [q2,f0,f1,f2,e']
 refine Prod.ext ?_ hl
 simp
end M
end Go.Proofs.YtihfibjckkmmbaaGreat
namespace Go.Proofs.YtihfibjckkmmbaaGreat
namespace M
theorem orderAll_reads {ll:List (List D)} {k:Int} {z:Key} (hz:z∈orderAll ll k):z.1.length=tot reads ll:=by
 obtain ⟨x,_,rfl⟩:=mem_orderAll.1 hz
 show (rdAt (deeds ll) x.1 0 (deeds ll)).length=_
 rw [rdAt_len']
 exact cp_deF ll 0 0
theorem swap3a {x y w:List D} {k:Int} {rx ry rw' l2:List Int} (hp:prog [x,y,w]=true) (hq:prog [y,x,w]=true) (h1:rx.length=cnt reads x) (h2:ry.length=cnt reads y) (h3:rw'.length=cnt reads w) (hz:([rx,ry,rw'].flatten,l2)∈orderAll [x,y,w] k):([ry,rx,rw'].flatten,l2)∈orderAll [y,x,w] k :=
 all_swap [] [w] x y hp hq k hz (rp:=[]) (ro:=[rw']) trivial h1 h2 ⟨h3,trivial⟩ rfl
theorem swap3b {x y w:List D} {k:Int} {rx ry rw' l2:List Int} (hp:prog [x,y,w]=true) (hq:prog [x,w,y]=true) (h1:rx.length=cnt reads x) (h2:ry.length=cnt reads y) (h3:rw'.length=cnt reads w) (hz:([rx,ry,rw'].flatten,l2)∈orderAll [x,y,w] k):([rx,rw',ry].flatten,l2)∈orderAll [x,w,y] k :=
 all_swap [x] [] y w hp hq k hz (rp:=[rx]) (ro:=[]) ⟨h1,trivial⟩ h2 h3 trivial rfl
theorem all_turn1 {ll:List (List D)} {row:List Int} (hp:prog ll=true) (hr:rowN row ll.length=true) (k:Int) {l2:List Int} {rs:List (List Int)} (h:Fit ll rs) (hz:(rs.flatten,l2)∈orderAll ll k):((pick [] row rs).flatten,l2)∈orderAll (pick [] row ll) k:=by
 match ll,rs,(prog_le hp).1,hr,h with
 | [],[],_,hr,_=>obtain rfl:=row0 hr;exact hz
 | [a],[x],_,hr,h=>obtain rfl:=row1 hr;exact hz
 | [a,b],[x,y],_,hr,h =>
  obtain ⟨h1,h2,_⟩:=h
  rcases row2 hr with rfl | rfl
  ·exact hz
  ·exact all_swap [] [] a b hp (threads_back hp hr).1 k hz (rp:=[]) (ro:=[]) trivial h1 h2 trivial rfl
 | [a,b,c],[x,y,z],_,hr,h =>
  obtain ⟨h1,h2,h3,_⟩:=h
  have P1:prog [b,a,c]=true:=(threads_back hp (show rowN [1,0,2] 3=true by decide)).1
  have P2:prog [a,c,b]=true:=(threads_back hp (show rowN [0,2,1] 3=true by decide)).1
  have P3:prog [b,c,a]=true:=(threads_back hp (show rowN [1,2,0] 3=true by decide)).1
  have P4:prog [c,a,b]=true:=(threads_back hp (show rowN [2,0,1] 3=true by decide)).1
  have P5:prog [c,b,a]=true:=(threads_back hp (show rowN [2,1,0] 3=true by decide)).1
  have Z1:=swap3a hp P1 h1 h2 h3 hz
  have Z2:=swap3b hp P2 h1 h2 h3 hz
  have Z3:=swap3b P1 P3 h2 h1 h3 Z1
  have Z4:=swap3a P2 P4 h1 h3 h2 Z2
  have Z5:=swap3a P3 P5 h2 h3 h1 Z3
  rcases row3 hr with rfl | rfl | rfl | rfl | rfl | rfl
  ·exact hz
  ·first | exact Z1 | exact Z2 | exact Z3 | exact Z4 | exact Z5
  ·first | exact Z1 | exact Z2 | exact Z3 | exact Z4 | exact Z5
  ·first | exact Z1 | exact Z2 | exact Z3 | exact Z4 | exact Z5
  ·first | exact Z1 | exact Z2 | exact Z3 | exact Z4 | exact Z5
  ·first | exact Z1 | exact Z2 | exact Z3 | exact Z4 | exact Z5
theorem back_back {row:List Int} {n:Nat} (h3:n≤3) (hr:rowN row n=true):back (back row)=row:=by
 rcases (show n=0∨n=1∨n=2∨n=3 by omega) with rfl | rfl | rfl | rfl
 ·rw [row0 hr];rfl
 ·rw [row1 hr];decide
 ·rcases row2 hr with rfl | rfl<;>decide
 ·rcases row3 hr with rfl | rfl | rfl | rfl | rfl | rfl<;>decide
def turnK (ll:List (List D)) (row:List Int) (z:Key):Key:=((pick [] row (parts ll z.1)).flatten,z.2)
theorem all_turn {ll:List (List D)} {row:List Int} (hp:prog ll=true) (hr:rowN row ll.length=true) (k:Int):sortK ((orderAll ll k).map (turnK ll row))=orderAll (pick [] row ll) k:=by
 obtain ⟨k1,k2,k3,k4⟩:=threads_back hp hr
 refine (sortK_unique (asc_orderAll _ k) fun z'=>?_).symm
 rw [List.mem_map]
 constructor
 ·intro hz
  have hl:=orderAll_reads hz
  have hf:=parts_fit _ z'.1 hl
  have he:=flat_parts _ z'.1 hl
  have h1:=all_turn1 k1 k3 k (l2:=z'.2) hf (by rw [he];exact hz)
  obtain ⟨f1,f2⟩:=fit_pick (parts (pick [] row ll) z'.1) (prog_le k1).1 k3 hf
  rw [k4] at h1 f1
  refine ⟨_,h1,?_⟩
  show ((pick [] row (parts ll _)).flatten,z'.2)=z'
  rw [back_back (prog_le hp).1 hr] at f2
  rw [fit_parts _ _ f1,f2,he]
 ·rintro ⟨z,hz,rfl⟩
  have hl:=orderAll_reads hz
  exact all_turn1 hp hr k (parts_fit _ z.1 hl) (by rw [flat_parts _ z.1 hl];exact hz)
end M
end Go.Proofs.YtihfibjckkmmbaaGreat
