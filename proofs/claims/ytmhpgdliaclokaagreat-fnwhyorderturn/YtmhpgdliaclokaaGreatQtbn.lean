/- What an order allows of a program whose threads stand otherwise: what it allows of the program, each thread's reads turned along. Plainly. No condition but what is said. And what goes with it: TuMath, TuLaw, TwMath, LawTw. -/
import Derived.Deep.OwnRows
import Derived.Test.YtmhpgdliaclokaaGreatRows
import Derived.Test.YtmhpgdliaclokaaGreatQtbm
namespace Go.Proofs.YtmhpgdliaclokaaGreat
section
namespace M
theorem rdAt_pt {ds es:List De} {l m:List Int}:∀ (xs ys:List De) (n n':Nat),ys.length=xs.length→(∀ i (h:i < xs.length) (h':i < ys.length),ys[i].reads=xs[i].reads)→(∀ i,i < xs.length→vl es m ((n'+i:Nat):Int)=vl ds l ((n+i:Nat):Int))→rdAt es m n' ys=rdAt ds l n xs
 | [],ys,n,n',hl,_,_=>by rw [List.length_eq_zero_iff.1 hl];rfl
 | x::xs,[],n,n',hl,_,_=>by simp at hl
 | x::xs,y::ys,n,n',hl,hr,hv=>by
  have h0:=hr 0 (by simp) (by simp)
  have v0:=hv 0 (by simp)
  have ih:=rdAt_pt xs ys (n+1) (n'+1) (by simpa using hl) (fun i h h'=>by have:=hr (i+1) (by simpa using h) (by simpa using h');simpa using this) (fun i hi=>by
   have:=hv (i+1) (by simpa using hi)
   rw [show n'+1+i=n'+(i+1) by omega,show n+1+i=n+(i+1) by omega]
   exact this)
  simp only [List.getElem_cons_zero,Nat.add_zero] at h0 v0
  unfold rdAt
  rw [h0,v0,ih]
theorem rdAt_len' (ds:List De) (l:List Int):∀ (xs:List De) (n:Nat),(rdAt ds l n xs).length=xs.countP De.reads
 | [],_=>by simp [rdAt]
 | x::xs,n=>by
  have ih:=rdAt_len' ds l xs (n+1)
  unfold rdAt
  cases hx:x.reads
  ·simpa [hx] using ih
  ·simp [hx];exact ih
theorem cp_deD (t i:Nat) (lr:Int) (n:Nat) (d:D):(deD t i lr n d).countP De.reads=if reads d.k then 1 else 0:=by
 unfold deD
 by_cases h:d.k==9
 ·have h9:d.k=9:=by simpa using h
  have hu:reads d.k=false:=by rw [h9];decide
  rw [if_pos h];simp [De.reads,hu]
 ·rw [if_neg h]
  cases hu:reads d.k<;>simp [De.reads,hu]
theorem cp_deT (t:Nat):∀ (l:List D) (i:Nat) (lr:Int) (n:Nat),(deT t i lr n l).countP De.reads=cnt reads l
 | [],_,_,_=>by simp [deT,cnt]
 | d::l,i,lr,n=>by rw [deT,List.countP_append,cp_deD,cp_deT t l,cnt_cons]
theorem cp_deF:∀ (ll:List (List D)) (t n:Nat),(deF t n ll).countP De.reads=tot reads ll
 | [],_,_=>by simp [deF,tot]
 | l::ll,t,n=>by rw [deF,List.countP_append,cp_deT,cp_deF ll,tot]
theorem sw_chunks {ds es P TA TB Q UA UB:List De} {l m:List Int} (hab:ds=P++(TA++(TB++Q))) (hba:es=P++(UB++(UA++Q))) (lA:UA.length=TA.length) (lB:UB.length=TB.length)
  (hv:∀ c,c < ds.length→vl es m ((swA P.length TA.length TB.length c:Nat):Int)=vl ds l (c:Int))
  (hr:∀ (c:Nat) (x y:De),ds[c]?=some x→es[swA P.length TA.length TB.length c]?=some y→y.reads=x.reads) :
  ∃ r0 r1 r2 r3,seenR ds l=r0++(r1++(r2++r3))∧seenR es m=r0++(r2++(r1++r3))∧r0.length=P.countP De.reads∧r1.length=TA.countP De.reads∧r2.length=TB.countP De.reads:=by
 have sR:∀ (ds:List De) (l:List Int) (P Q S T:List De),ds=P++(Q++(S++T))→seenR ds l=rdAt ds l 0 P++(rdAt ds l P.length Q++(rdAt ds l (P.length+Q.length) S++rdAt ds l (P.length+Q.length+S.length) T)):=fun ds l P Q S T e=>by
  show rdAt ds l 0 ds=_
  conv=>lhs;arg 4;rw [e]
  rw [rdAt_app,rdAt_app,rdAt_app,Nat.zero_add]
 have hlen:ds.length=P.length+(TA.length+(TB.length+Q.length)):=by rw [hab];simp
 have hlen2:es.length=P.length+(TA.length+(TB.length+Q.length)):=by rw [hba];simp [lA,lB];omega
 refine ⟨_,_,_,_,sR ds l P TA TB Q hab,?_,rdAt_len' ..,rdAt_len' ..,rdAt_len' ..⟩
 rw [sR es m P UB UA Q hba]
 have key:∀ (n n':Nat) (xs ys:List De) (p1 p2 q1 q2:List De),ds=p1++(xs++q1)→es=p2++(ys++q2)→p1.length=n→p2.length=n'→ys.length=xs.length→(∀ i,i < xs.length→swA P.length TA.length TB.length (n+i)=n'+i)→rdAt es m n' ys=rdAt ds l n xs:=by
  intro n n' xs ys p1 p2 q1 q2 e1 e2 h1 h2 hl hsw
  have hL1:ds.length=n+(xs.length+q1.length):=by rw [e1,← h1];simp
  refine rdAt_pt xs ys n n' hl (fun i h h'=>hr (n+i) (xs[i]'h) (ys[i]'h') ?_ ?_) (fun i hi=>?_)
  ·rw [e1,List.getElem?_append_right (by omega),List.getElem?_append_left (by omega),show n+i - p1.length=i by omega]
   exact List.getElem?_eq_getElem h
  ·rw [hsw i h,e2,List.getElem?_append_right (by omega),List.getElem?_append_left (by omega),show n'+i - p2.length=i by omega]
   exact List.getElem?_eq_getElem h'
  ·rw [← hsw i hi]
   exact hv (n+i) (by omega)
 have sw:=swA_c P.length TA.length TB.length
 have k0:=key 0 0 P P [] [] _ _ (by simpa using hab) (by simpa using hba) rfl rfl rfl (fun i hi=>by have:=sw (0+i);omega)
 have k1:=key P.length (P.length+TB.length) TA UA P (P++UB) _ Q hab (by rw [hba];simp) rfl (by simp [lB]) lA (fun i hi=>by have:=sw (P.length+i);omega)
 have k2:=key (P.length+TA.length) P.length TB UB (P++TA) P Q _ (by rw [hab];simp) hba (by simp) rfl lB (fun i hi=>by have:=sw (P.length+TA.length+i);omega)
 have k3:=key (P.length+TA.length+TB.length) (P.length+TB.length+TA.length) Q Q (P++(TA++TB)) (P++(UB++UA)) [] [] (by rw [hab];simp) (by rw [hba];simp) (by simp;omega) (by simp [lA,lB];omega) rfl (fun i hi=>by have:=sw (P.length+TA.length+TB.length+i);omega)
 rw [k0,lB,k1,k2,lA,k3]
theorem all_swap (pr po:List (List D)) (a b:List D) (hp:prog (pr++a::b::po)=true) (hq:prog (pr++b::a::po)=true) (k:Int) {z:Key} (hz:z∈orderAll (pr++a::b::po) k) {rp ro:List (List Int)} {ra rb:List Int} (h1:Fit pr rp) (h2:ra.length=cnt reads a) (h3:rb.length=cnt reads b) (_h4:Fit po ro) (e:z.1=(rp++ra::rb::ro).flatten) :
  ((rp++rb::ra::ro).flatten,z.2)∈orderAll (pr++b::a::po) k:=by
 obtain ⟨x,hxh,rfl⟩:=mem_orderAll.1 hz
 obtain ⟨kn,rfl⟩:∃ kn:Nat,k=kn:=⟨k.toNat,by have:=(holds_parts_of hxh).1;simp only [Bool.and_eq_true,decide_eq_true_eq] at this;omega⟩
 obtain ⟨A,X,Y,eA,eX,eY,E⟩:=swap_e pr po a b hp
 obtain ⟨y,hyh,R,hx,hy⟩:=E.up hp hq hxh
 have M0:=E.emb (deed_u hp)
 have z1:=deed_zero hp
 have z2:=deed_zero hq
 refine mem_orderAll.2 ⟨y,hyh,?_⟩
 have hv:∀ c,c < (deeds (pr++a::b::po)).length→vl (deeds (pr++b::a::po)) y.1 ((swA A X Y c:Nat):Int)=vl (deeds (pr++a::b::po)) x.1 (c:Int):=fun c hc=>M0.vl R hx hy (lro_deeds _) z1 z2 hc
 have hl:seenL (deeds (pr++b::a::po)) y.1 y.2=seenL (deeds (pr++a::b::po)) x.1 x.2:=by
  have g0:=M0.last R hx hy (lro_deeds _) z1 z2 (p:=0) (by omega) (by omega)
  have g1:=M0.last R hx hy (lro_deeds _) z1 z2 (p:=1) (by omega) (by omega)
  have g2:=M0.last R hx hy (lro_deeds _) z1 z2 (p:=2) (by omega) (by omega)
  unfold seenL
  have t1:=hx.three
  have t2:=hy.three
  generalize x.2=xr at *
  generalize y.2=yr at *
  match xr,t1,yr,t2 with
  | [r0,r1,r2],_,[s0,s1,s2],_ =>
   simp only [id] at g0 g1 g2
   simp only [List.map_cons,List.map_nil]
   have g0':lastOf (deeds (pr++b::a::po)) y.1 s0=lastOf (deeds (pr++a::b::po)) x.1 r0:=g0
   have g1':lastOf (deeds (pr++b::a::po)) y.1 s1=lastOf (deeds (pr++a::b::po)) x.1 r1:=g1
   have g2':lastOf (deeds (pr++b::a::po)) y.1 s2=lastOf (deeds (pr++a::b::po)) x.1 r2:=g2
   rw [g0',g1',g2']
 have hds:∀ (u v:List D),deeds (pr++u::v::po)=deF 0 0 pr++(deT pr.length 0 (-1) (deF 0 0 pr).length u++(deT (pr.length+1) 0 (-1) ((deF 0 0 pr).length+(deT pr.length 0 (-1) (deF 0 0 pr).length u).length) v++deF (pr.length+2) ((deF 0 0 pr).length+(deT pr.length 0 (-1) (deF 0 0 pr).length u).length+(deT (pr.length+1) 0 (-1) ((deF 0 0 pr).length+(deT pr.length 0 (-1) (deF 0 0 pr).length u).length) v).length) po)):=fun u v=>by
  unfold deeds
  rw [deF_append,deF,deF]
  simp [Nat.add_assoc]
 have lenT:∀ (l:List D) (t n t' n':Nat),(deT t 0 (-1) n l).length=(deT t' 0 (-1) n' l).length:=fun l t n t' n'=>by
  have:=(sf_deT (m:=n') (m':=n) t' t l 0 0 (-1) (-1) 0 (.inl ⟨rfl,rfl⟩)).1
  simpa using this
 have hba:=hds b a
 rw [lenT b pr.length (deF 0 0 pr).length (pr.length+1) ((deF 0 0 pr).length+(deT pr.length 0 (-1) (deF 0 0 pr).length a).length)] at hba
 rw [lenT a (pr.length+1) _ pr.length (deF 0 0 pr).length] at hba
 rw [Nat.add_right_comm] at hba
 subst eA eX eY
 obtain ⟨r0,r1,r2,r3,q1,q2,l0,l1,l2⟩:=sw_chunks (l:=x.1) (m:=y.1) (hds a b) hba (lenT _ _ _ _ _) (lenT _ _ _ _ _) hv (fun c u v hu hv=>by
  obtain ⟨w,hw,hd,_⟩:=E.at_ c u hu
  rw [hv] at hw
  obtain rfl:=Option.some.inj hw
  exact congrArg (fun d:D=>M.reads d.k) hd)
 rw [cp_deF,← fit_tot _ _ h1] at l0
 rw [cp_deT,← h2] at l1
 rw [cp_deT,← h3] at l2
 have e':r0++(r1++(r2++r3))=rp.flatten++(ra++(rb++ro.flatten)):=by
  rw [← q1];exact e.trans (by simp)
 obtain ⟨f0,e'⟩:=List.append_inj e' l0
 obtain ⟨f1,e'⟩:=List.append_inj e' l1
 obtain ⟨f2,e'⟩:=List.append_inj e' l2
 show (seenR _ _,seenL _ _ _)=_
 rw [q2,f0,f1,f2,e']
 refine Prod.ext ?_ hl
 simp
end M
end
section
namespace M
theorem swap3a {x y w:List D} {k:Int} {rx ry rw' l2:List Int} (hp:prog [x,y,w]=true) (hq:prog [y,x,w]=true) (h1:rx.length=cnt reads x) (h2:ry.length=cnt reads y) (h3:rw'.length=cnt reads w) (hz:([rx,ry,rw'].flatten,l2)∈orderAll [x,y,w] k):([ry,rx,rw'].flatten,l2)∈orderAll [y,x,w] k :=
 all_swap [] [w] x y hp hq k hz (rp:=[]) (ro:=[rw']) trivial h1 h2 ⟨h3,trivial⟩ rfl
theorem swap3b {x y w:List D} {k:Int} {rx ry rw' l2:List Int} (hp:prog [x,y,w]=true) (hq:prog [x,w,y]=true) (h1:rx.length=cnt reads x) (h2:ry.length=cnt reads y) (h3:rw'.length=cnt reads w) (hz:([rx,ry,rw'].flatten,l2)∈orderAll [x,y,w] k):([rx,rw',ry].flatten,l2)∈orderAll [x,w,y] k :=
 all_swap [x] [] y w hp hq k hz (rp:=[rx]) (ro:=[]) ⟨h1,trivial⟩ h2 h3 trivial rfl
theorem all_turn1 {ll:List (List D)} {row:List Int} (hp:prog ll=true) (hr:rowN row ll.length=true) (k:Int) {l2:List Int} {rs:List (List Int)} (h:Fit ll rs) (hz:(rs.flatten,l2)∈orderAll ll k):((pick [] row rs).flatten,l2)∈orderAll (pick [] row ll) k:=by
 match ll,rs,(prog_le hp).1,hr,h with
 | [],[],_,hr,_=>obtain rfl:=row0 hr;exact hz
 | [a],[x],_,hr,h=>obtain rfl:=row1 hr;exact hz
 | [a,b],[x,y],_,hr,h =>
  obtain ⟨h1,h2,_⟩:=h
  rcases row2 hr with rfl | rfl
  ·exact hz
  ·exact all_swap [] [] a b hp (threads_back hp hr).1 k hz (rp:=[]) (ro:=[]) trivial h1 h2 trivial rfl
 | [a,b,c],[x,y,z],_,hr,h =>
  obtain ⟨h1,h2,h3,_⟩:=h
  have P1:prog [b,a,c]=true:=(threads_back hp (show rowN [1,0,2] 3=true by decide)).1
  have P2:prog [a,c,b]=true:=(threads_back hp (show rowN [0,2,1] 3=true by decide)).1
  have P3:prog [b,c,a]=true:=(threads_back hp (show rowN [1,2,0] 3=true by decide)).1
  have P4:prog [c,a,b]=true:=(threads_back hp (show rowN [2,0,1] 3=true by decide)).1
  have P5:prog [c,b,a]=true:=(threads_back hp (show rowN [2,1,0] 3=true by decide)).1
  have Z1:=swap3a hp P1 h1 h2 h3 hz
  have Z2:=swap3b hp P2 h1 h2 h3 hz
  have Z3:=swap3b P1 P3 h2 h1 h3 Z1
  have Z4:=swap3a P2 P4 h1 h3 h2 Z2
  have Z5:=swap3a P3 P5 h2 h3 h1 Z3
  rcases row3 hr with rfl | rfl | rfl | rfl | rfl | rfl
  ·exact hz
  ·first | exact Z1 | exact Z2 | exact Z3 | exact Z4 | exact Z5
  ·first | exact Z1 | exact Z2 | exact Z3 | exact Z4 | exact Z5
  ·first | exact Z1 | exact Z2 | exact Z3 | exact Z4 | exact Z5
  ·first | exact Z1 | exact Z2 | exact Z3 | exact Z4 | exact Z5
  ·first | exact Z1 | exact Z2 | exact Z3 | exact Z4 | exact Z5
def turnK (ll:List (List D)) (row:List Int) (z:Key):Key:=((pick [] row (parts ll z.1)).flatten,z.2)
end M
end
section
namespace M
def revRow (n:Nat):List Int:=(List.range n).map fun (i:Nat)=>(n:Int) - 1 - i
theorem revRow_len (n:Nat):(revRow n).length=n:=by simp [revRow]
theorem revRow_get (n j:Nat) (h:j < n):(revRow n)[j]'(by rw [revRow_len];exact h)=(n:Int) - 1 - j:=by simp [revRow]
theorem revRow_ok {n:Nat} (h:n≤3):rowN (revRow n) n=true:=by
 rcases (show n=0∨n=1∨n=2∨n=3 by omega) with rfl | rfl | rfl | rfl<;>decide
theorem turn_mem {ll:List (List D)} {row:List Int} (hp:prog ll=true) (hr:rowN row ll.length=true) {t1 t2:List Int} (hl:t1.length=tot reads ll) (k:Int):turnK ll row (t1,t2)∈orderAll (pick [] row ll) k↔(t1,t2)∈orderAll ll k:=by
 obtain ⟨k1,k2,k3,k4⟩:=threads_back hp hr
 have hf:=parts_fit ll t1 hl
 obtain ⟨f1,f2⟩:=fit_pick (parts ll t1) (prog_le hp).1 hr hf
 have he:=flat_parts ll t1 hl
 constructor
 ·intro h
  have h1:=all_turn1 k1 k3 k (l2:=t2) f1 h
  rw [k4,f2,he] at h1
  exact h1
 ·intro h
  exact all_turn1 hp hr k hf (by rw [he];exact h)
theorem why_rev {ll:List (List D)} {t1 t2:List Int} (hv:whyOrder ll t1 t2≠0):∃ (qq:List (List D)) (r1:List Int),turnThreads ll (revRow ll.length)=some qq∧turnSeen ll t1 t2 (revRow ll.length)=some (r1,t2)∧whyOrder qq r1 t2=whyOrder ll t1 t2∧(qq.length≤1048576∧∀ t∈qq,t.length≤1048576)∧r1.length≤1048576:=by
 obtain ⟨k,hk⟩:∃ k:Int,(t1,t2)∈orderAll ll k:=by
  unfold whyOrder firstOf at hv
  split at hv
  ·rename_i h;exact ⟨1,(whyExec_iff _ _ _ _).1 h⟩
  ·split at hv
   ·rename_i h;exact ⟨2,(whyExec_iff _ _ _ _).1 h⟩
   ·split at hv
    ·rename_i h;exact ⟨3,(whyExec_iff _ _ _ _).1 h⟩
    ·exact absurd rfl hv
 have hs:=all_seenOkW _ hk
 obtain ⟨hp,hl,_⟩:=seenOk_len hs
 have hr:=revRow_ok (prog_le hp).1
 have hb:=threads_back hp hr
 have hm:=(turn_mem hp hr (t2:=t2) hl k).2 hk
 have hle:=orderAll_le _ _ _ hm
 refine ⟨pick [] (revRow ll.length) ll,(turnK ll (revRow ll.length) (t1,t2)).1,turnThreads_yes hp hr,turnSeen_yes hs hr,?_,?_,hle.1⟩
 ·unfold whyOrder
  congr 1
  funext k
  rw [Bool.eq_iff_iff,whyExec_iff,whyExec_iff]
  exact turn_mem hp hr hl k
 ·have hq:=prog_le hb.1
  exact ⟨by omega,fun t ht=>by have:=hq.2 t ht;omega⟩
end M
end
section
open Go.RowKit Go.Shelf
theorem tsAns_snW {w w':World} {v1 v2:Value} {r1 r2:List Int} (h:TsAns w w' v1 v2 r1 r2):∃ s:Sn,v1=.slice s.a1 s.l1.length s.c1∧v2=.slice s.a2 s.l2.length s.c2∧s.l1=r1∧s.l2=r2∧s.At w':=by
 obtain ⟨a1,g1,c1,e1,i1,_,_⟩:=own_nums h.o1
 obtain ⟨a2,g2,c2,e2,i2,_,_⟩:=own_nums h.o2
 exact ⟨⟨a1,g1,0,c1,r1,a2,g2,0,c2,r2⟩,e1,e2,rfl,rfl,⟨i1,i2⟩⟩
theorem belGrown {w0 w w':World} {row:Option Nat} (h:Below w0.heap.size w0 w) (hg:w.grownBy w' row) (hr:∀ k,row=some k→w0.heap.size≤k):Below w0.heap.size w0 w' :=
 ⟨hg.os.trans h.os,hg.tape.trans h.tape,hg.output.trans h.output,Nat.le_trans h.size hg.size,fun k hk=>(hg.block k (Nat.lt_of_lt_of_le hk h.size) (fun e=>by have:=hr k e.symm;omega)).trans (h.block k hk)⟩
set_option maxHeartbeats 4000000 in
set_option maxRecDepth 100000 in
set_option linter.unusedSimpArgs false in
theorem lawTw_any (ca:Option Addr) (cb co L C:Nat) (x:Nat→Int) (w:World) (hL:L≤C) (had:0 < L→ca=some ⟨cb,co,none⟩) (hc:∀ i,i < L→w.cell? ⟨cb,co+i,none⟩=some (.int .u8 (x i))∧0≤x i∧x i≤255) :
  Calls Tryz.prog 8 #[.slice ca L C] w fun e w'=>e=.returned (.bool true)∧Below w.heap.size w w':=by
 by_cases hLb:L≤1048576
 ·go_enter Tryz.func8,Tryz.ntmps8
  go_wp2_with fail
  refine (DrawWhyOrder_any ca cb co L C x _ hL had hc hLb).mono ?_
  rintro e w1 ⟨a,g,c,mm,s,rfl,hD⟩
  have hls:=hD.sm.le
  have hm3:=hD.sm.three
  have hl3:mm.length≤1048576:=by omega
  have hsl:=hD.le
  have hcap:=hD.b.2.2
  have bx0:=BxY.new hD
  clear had hc hD
  go_wp2_with fail
  generalize (w1.alloc (.cells #[.slice a mm.length c] 25)).alloc (.cells #[.slice s.a1 s.l1.length s.c1,.slice s.a2 s.l2.length s.c2] 45)=W0 at *
  obtain ⟨S,hSe⟩:∃ S,w1.heap.size+1=S:=⟨_,rfl⟩
  rw [hSe] at bx0 ⊢
  clear hSe
  generalize w1.heap.size=P at *
  have CS:=fun (W:World) (h:BxY w W P S a g c mm s)=>swhyOrder_any a g 0 c mm s W hl3 hls hsl h.ss h.sa
  have CI:=fun (W:World) (h:BxY w W P S a g c mm s)=>iwhyOrder_any a g 0 c mm s W hl3 hls hsl h.ss h.sa
  rw [M.swhyOrder_same] at CS
  have HT:Hid (M.whyOrder mm s.l1 s.l2≠0→∃ (qq:List (List M.D)) (r1:List Int),M.turnThreads mm (M.revRow mm.length)=some qq∧M.turnSeen mm s.l1 s.l2 (M.revRow mm.length)=some (r1,s.l2)∧M.whyOrder qq r1 s.l2=M.whyOrder mm s.l1 s.l2∧(qq.length≤1048576∧∀ t∈qq,t.length≤1048576)∧r1.length≤1048576):=M.why_rev
  obtain ⟨v,hv⟩:∃ v,M.whyOrder mm s.l1 s.l2=v:=⟨_,rfl⟩
  rw [hv] at CS CI HT
  clear hv
  have p0:=bx0.p.c
  have q0:=bx0.sb.c0
  have q1:=bx0.sb.c1
  refine (CI W0 bx0).mono ?_
  rintro e W1 ⟨rfl,b1⟩
  have bx1:=bx0.below b1
  clear p0 q0 q1 bx0 b1 CI
  have p0:=bx1.p.c
  have q0:=bx1.sb.c0
  have q1:=bx1.sb.c1
  by_cases h0:v=0
  ·subst h0
   go_wp2_with fail
   refine (CS W1 bx1).mono ?_
   rintro e W2 ⟨rfl,b2⟩
   have bx2:=bx1.below b2
   clear p0 q0 q1 bx1 b2 HT
   have p0:=bx2.p.c
   have q0:=bx2.sb.c0
   have q1:=bx2.sb.c1
   go_wp2_with fail
   refine (CS W2 bx2).mono ?_
   rintro e W3 ⟨rfl,b3⟩
   have bx3:=bx2.below b3
   go_wp2_with fail
   go_ret
   exact ⟨rfl,bx3.bel⟩
  ·have e0:(v==0)=false:=by simpa using h0
   obtain ⟨qq,r1,hq,hr,hw,⟨hql,hqls⟩,hrl⟩:=HT.out h0
   have HW:Hid (M.whyOrder qq r1 s.l2=v):=hw
   go_wp2_with fail
   refine (CS W1 bx1).mono ?_
   rintro e W2 ⟨rfl,b2⟩
   have bx2:=bx1.below b2
   clear p0 q0 q1 bx1 b2 HT CS h0 hw
   have hgl:(M.revRow mm.length).length≤1048576:=by rw [M.revRow_len];omega
   have CT:=fun (ga:Option Addr) (gb gc:Nat) (W:World) (h:Below W2.heap.size W2 W) (hG:IntS W ga gb 0 (M.revRow mm.length))=>iturnThreads_any a g 0 c mm hl3 hls ga gb 0 gc (M.revRow mm.length) hgl W (bx2.below h).ss hG
   have CU:=fun (ga:Option Addr) (gb gc:Nat) (W:World) (h:Below W2.heap.size W2 W) (hG:IntS W ga gb 0 (M.revRow mm.length))=>iturnSeen_any a g 0 c mm hl3 hls s hsl hcap ga gb 0 gc (M.revRow mm.length) hgl W (bx2.below h).ss (bx2.below h).sa hG
   rw [hq] at CT
   rw [hr] at CU
   simp only [Option.isSome_some,Option.getD_some] at CT CU
   obtain ⟨rv,hrv⟩:∃ rv,M.revRow mm.length=rv:=⟨_,rfl⟩
   have HRG:Hid (∀ j (_:j < mm.length),rv[j]?=some ((mm.length:Int) - 1 - j)):=by
    show ∀ j (_:j < mm.length),rv[j]?=some ((mm.length:Int) - 1 - j)
    intro j hj
    rw [← hrv,List.getElem?_eq_getElem (by rw [M.revRow_len];exact hj),M.revRow_get _ _ hj]
   have HRL:Hid (rv.length=mm.length):=by show _=_;rw [← hrv,M.revRow_len]
   rw [hrv] at CT CU
   clear hrv hgl hq hr
   obtain ⟨i0,hi,hz0,hz1,hz2⟩:=info_parts Tryz.infoInt
   have p0:=bx2.p.c
   have hw0:IntKind.i64.wrap ((mm.length:Int) - 1)=(mm.length:Int) - 1:=by rw [IntKind.wrap_i64];omega
   have O0:(W2.alloc (.cells #[] 3)).ownsRow W2.heap.size 3 1 (.slice (some ⟨W2.heap.size,0,none⟩) 0 0) 0 (nums []):=own_emp (heap_alloc_new W2 _) (Nat.le_refl _)
   have b0:=below1 W2 (.cells #[] 3)
   have p00:=(bx2.below b0).p.c
   go_wp2_with fail
   go_loopw [6,7] (fun s6 s7 wr=>∃ (j:Nat) (gs:List Int) (vr:Value),vr=s6∧s7=.int .i64 ((mm.length:Int) - 1 - j)∧j≤mm.length∧Hid (gs=rv.take j)∧Hid (gs.length=j)∧wr.ownsRow W2.heap.size 3 1 vr gs.length (nums gs)∧Below W2.heap.size W2 wr) (fun _ s7 _=>(intOf s7+1).toNat)
   case atStart=>exact ⟨0,[],_,rfl,by simp,Nat.zero_le _,by show _=_;simp,rfl,O0,b0⟩
   case round =>
    clear O0 b0 p0 p00
    obtain ⟨j,gs,vr,hv6,rfl,hj,HG,HL,O,hb⟩:=hrel
    subst hv6
    by_cases hlt:j < mm.length
    ·have i1:(mm.length:Int) - 1 - j ≥ 0:=by omega
     have hgs:gs.length≤3:=by have:=HL.out;omega
     have HG2:Hid (gs++[(mm.length:Int) - 1 - j]=rv.take (j+1)):=by
      show _=_
      rw [HG.out,List.take_add_one,HRG.out j hlt];rfl
     have hqs:(mm.length:Int) - 1 - (j+1:Nat)=(mm.length:Int) - 1 - j - 1:=by push_cast;omega
     obtain ⟨q,hqe⟩:∃ q:Int,(mm.length:Int) - 1 - j=q:=⟨_,rfl⟩
     rw [hqe] at i1 HG2 hqs ⊢
     have hq3:q≤3:=by omega
     have i2:(0:Int)≤q:=by omega
     have hw1:IntKind.i64.wrap (q - 1)=q - 1:=by rw [IntKind.wrap_i64];omega
     have hge:∀ k,vr.ownBlock=some k→W2.heap.size≤k:=fun k hk=>(O.lt k hk).1
     go_wp2_with (at_builtin;refine wpList_append_own _ rfl (.tmp 46) (.tmp 48) 26 rfl _ 3 i0 _ 1 8 Tryz.underlying26 hi hz0 hz1 hz2 rfl (by decide) _ _ _ rfl (O.alloc _) ⟨wr.heap.size,0,none⟩ 1 1 [.int .i64 q] rfl rfl ?c1 ?c2 ?c3 ?c4 ?c5 ?_)
     case c1=>exact cells_new1 _ _ _ _ (by simp)
     case c2=>exact one1 _
     case c3=>unfold maxLen;omega
     case c4=>omega
     case c5=>have:=hb.size;simp;omega
     intro v6 w6 hown6 hg6 _
     have hb6:=belGrown (hb.trans ((below1 wr (.cells #[.int .i64 q] 3)).mono hb.size)) hg6 hge
     have hown7:w6.ownsRow W2.heap.size 3 1 v6 (gs++[q]).length (nums (gs++[q])):=by rw [nums_snoc,List.length_append];exact hown6
     have HL2:Hid ((gs++[q]).length=j+1):=by show _=_;simp [HL.out]
     clear hown6 hg6 O hb HL HG hge
     go_wp2_with fail
     exact ⟨⟨j+1,gs++[q],v6,rfl,by rw [hqs],by omega,HG2,HL2,hown7,hb6⟩,by simp [intOf];omega⟩
    ·obtain rfl:j=mm.length:=by omega
     have i1:¬ ((mm.length:Int) - 1 - (mm.length:Int) ≥ 0):=by omega
     have hgr:gs=rv:=by rw [HG.out,List.take_of_length_le (by rw [HRL.out];exact Nat.le_refl _)]
     obtain ⟨ga,gg,gc,rfl,gi,-,-⟩:=own_nums O
     subst hgr
     have bxr:=bx2.below hb
     have p3:=bxr.p.c
     have q30:=bxr.sb.c0
     have q31:=bxr.sb.c1
     clear O HG HL HRG HRL
     go_wp2_with fail
     refine (CT ga gg gc _ hb gi).mono ?_
     rintro e W5 ⟨v5,rfl,⟨vs,hR⟩,b5⟩
     obtain ⟨ai,gi',ci,rfl,hss⟩:=hR.b.ss
     have b56:=below1 W5 (.cells #[.slice ai qq.length ci] 25)
     have bx6:=(bxr.below b5).below b56
     have hb6:=(hb.trans (b5.mono hb.size)).trans (b56.mono (hb.trans (b5.mono hb.size)).size)
     have gi6:=(gi.below b5 (Nat.le_refl _)).below b56 (Nat.le_refl _)
     have ss6:=hss.below b56 (Nat.le_refl _)
     have sQ:=Slot1.new W5 (.slice ai qq.length ci) 25
     clear CT hR hss b5 b56 bxr hb gi p3 q30 q31
     have p6:=bx6.p.c
     have q60:=bx6.sb.c0
     have q61:=bx6.sb.c1
     go_wp2_with fail
     generalize W5.alloc (.cells #[.slice ai qq.length ci] 25)=W6 at *
     generalize W5.heap.size=Q at *
     refine (CU ga gg gc W6 hb6 gi6).mono ?_
     rintro e W7 ⟨v1,v2,rfl,hT⟩
     obtain ⟨t,rfl,rfl,ht1,ht2,hta⟩:=tsAns_snW hT
     have b7:=hT.bel
     have b78:=below1 W7 (.cells #[.slice t.a1 t.l1.length t.c1,.slice t.a2 t.l2.length t.c2] 45)
     have b8:=b7.trans (b78.mono b7.size)
     have bx8:=bx6.below b8
     have ss8:=ss6.below b8 (Nat.le_refl _)
     have ta8:=hta.below b78 (Nat.le_refl _)
     have sQ8:=sQ.bl' b8
     have sT:Slot2 (W7.alloc (.cells #[.slice t.a1 t.l1.length t.c1,.slice t.a2 t.l2.length t.c2] 45)) W7.heap.size (.slice t.a1 t.l1.length t.c1) (.slice t.a2 t.l2.length t.c2):=⟨alloc_new _ _ _ (by simp)⟩
     have htl:t.Le 1048576:=⟨by rw [ht1];exact hrl,by rw [ht2];exact hsl.last⟩
     have HW8:Hid (M.whyOrder qq t.l1 t.l2=v):=by show _=_;rw [ht1,ht2];exact HW.out
     clear CU hT hta b7 b78 b8 bx6 ss6 sQ p6 q60 q61 gi6 hb6 HW ht1 ht2
     have z0:=sQ8.c
     have z1:=sT.c0
     have z2:=sT.c1
     go_wp2_with fail
     generalize W7.alloc (.cells #[.slice t.a1 t.l1.length t.c1,.slice t.a2 t.l2.length t.c2] 45)=W8 at *
     generalize W7.heap.size=T at *
     have CW:=iwhyOrder_any ai gi' 0 ci qq t W8 hql hqls htl ss8 ta8
     rw [HW8.out] at CW
     refine CW.mono ?_
     rintro e W9 ⟨rfl,b9⟩
     have bx9:=bx8.below b9
     go_wp2_with fail
     go_ret
     exact ⟨rfl,bx9.bel⟩
 ·go_enter Tryz.func8,Tryz.ntmps8
  go_wp2_with fail
  go_ret
  exact ⟨rfl,Below.refl _ _⟩
end
end Go.Proofs.YtmhpgdliaclokaaGreat
