/- impl.OrderAll: what is seen in all ways that hold by an order, in order, each once. Of at most 1048576 threads and steps. -/
import Derived.Deep.OwnRows
import Derived.Test.YtnddmlgnngdaoaaGreatDoorRows
import Derived.Test.YtnddmlgnngdaoaaGreatDoorQsbb
import Derived.Test.YtnddmlgnngdaoaaGreatDoorQsbd
import Derived.Test.YtnddmlgnngdaoaaGreatDoorQsbe
namespace Go.Proofs.YtnddmlgnngdaoaaGreatDoor
section
open Go.RowKit Go.Shelf
attribute [local go_sem] Oper.semAt_some
theorem Tryz.infoSn2:(Tryz.prog.info? 33).map (fun i=>(i.zero,i.size,i.bytes))=some (some (.agg #[.slice none 0 0,.slice none 0 0]),2,48):=by kernel_rfl
namespace M
def seenOf (ll:List (List D)) (x:Wy):Key:=(seenR (deeds ll) x.1,seenL (deeds ll) x.1 x.2)
def orderList (ll:List (List D)) (kind:Int):List Key:=((ways (deeds ll)).filter fun x=>orderHolds ll x.1 x.2 kind).map (seenOf ll)
def orderAll (ll:List (List D)) (kind:Int):List Key:=if (decide (1≤kind)&&decide (kind≤3))&&prog ll then sortK (orderList ll kind) else []
theorem ways_ok {ll:List (List D)} (hp:prog ll=true) {x:Wy} (h:x∈ways (deeds ll)):execOk ll x.1 x.2=true:=by
 unfold execOk
 rw [hp,Bool.true_and]
 exact (mem_all (f:=x.1) (o:=x.2)).1 (by rw [← ways_eq (cop_deeds ll)];exact h)
theorem seenR_len (ds:List De) (l:List Int):(seenR ds l).length≤ds.length:=by
 have key:∀ (n:Nat) (xs:List De),(rdAt ds l n xs).length≤xs.length:=by
  intro n xs
  induction xs generalizing n with
  | nil=>simp [rdAt]
  | cons x xs ih =>
   have:=ih (n+1)
   simp only [rdAt]
   split<;>simp<;>omega
 exact key 0 ds
end M
def BlkS (s:Sn) (k:Nat):Prop:=(0 < s.l1.length∧k=s.b1)∨(0 < s.l2.length∧k=s.b2)
theorem Sn.At.fr {s:Sn} {W W':World} {O:Nat→Prop} (h:s.At W) (hf:Fr O W W') (hO:∀ k,BlkS s k→O k):s.At W' :=
 ⟨h.reads.fr' hf (fun hl=>hO _ (Or.inl ⟨hl,rfl⟩)),h.last.fr' hf (fun hl=>hO _ (Or.inr ⟨hl,rfl⟩))⟩
theorem Sn.At.lt {s:Sn} {W:World} (h:s.At W) {k:Nat} (hk:BlkS s k):k < W.heap.size:=by
 rcases hk with ⟨hl,rfl⟩ | ⟨hl,rfl⟩
 ·exact World.block_lt_of_cell? _ _ (h.reads.row 0 hl)
 ·exact World.block_lt_of_cell? _ _ (h.last.row 0 hl)
def cellsS (ss:List Sn):List Value:=ss.flatMap fun s=>[.slice s.a1 s.l1.length s.c1,.slice s.a2 s.l2.length s.c2]
structure SnL (W:World) (base:Nat) (v:Value) (ss:List Sn):Prop where
 own:W.ownsRow base 33 2 v ss.length (cellsS ss)
 at_:∀ s∈ss,s.At W
 off:∀ s∈ss,∀ k,BlkS s k→v.ownBlock≠some k
theorem SnL.nil (W:World) (base:Nat):SnL W base (.slice none 0 0) []:=⟨World.ownsRow_nil _ _ _ _,(fun s hs=>by cases hs),(fun s hs=>by cases hs)⟩
theorem SnL.fr {W W':World} {O:Nat→Prop} {base:Nat} {v:Value} {ss:List Sn} (h:SnL W base v ss) (hf:Fr O W W') (h1:∀ k,v.ownBlock=some k→O k) (h2:∀ s∈ss,∀ k,BlkS s k→O k):SnL W' base v ss :=
 ⟨own_fr h.own hf h1,fun s hs=>(h.at_ s hs).fr hf (h2 s hs),h.off⟩
theorem SnL.below {W W':World} {base:Nat} {v:Value} {ss:List Sn} (h:SnL W base v ss) (hb:Below W.heap.size W W'):SnL W' base v ss:=h.fr (O:=fun _=>True) (.of_below hb) (fun _ _=>trivial) (fun _ _ _ _=>trivial)
theorem SnL.snoc {W w':World} {base:Nat} {v v':Value} {ss:List Sn} {o:Obj} (h:SnL W base v ss) {s:Sn} (hs:s.At W) (hd:∀ k,BlkS s k→v.ownBlock≠some k)
  (ho:w'.ownsRow base 33 2 v' (ss.length+1) (cellsS ss++[.slice s.a1 s.l1.length s.c1,.slice s.a2 s.l2.length s.c2])) (hg:(W.alloc o).grownBy w' v.ownBlock) (hat:v'.ownBlock=v.ownBlock∨v'.ownBlock=some (W.heap.size+1)):SnL w' base v' (ss++[s]):=by
 have hsz:=hg.size
 have F:Fr (fun k=>v.ownBlock≠some k) W w':=⟨hg.os.trans (below1 W o).os,hg.tape.trans (below1 W o).tape,hg.output.trans (below1 W o).output,by simp at hsz;omega,fun k hk hc=>(hg.block k (by simp;omega) (fun e=>hc e.symm)).trans ((below1 W o).block k hk)⟩
 have offn:∀ k,k < W.heap.size→v.ownBlock≠some k→v'.ownBlock≠some k:=fun k hk hne e=>by
  rcases hat with e1 | e1
  ·exact hne (e1▸e)
  ·rw [e1] at e;have:=Option.some.inj e;omega
 refine ⟨?_,fun t ht=>?_,fun t ht k hk=>?_⟩
 ·rw [List.length_append,show cellsS (ss++[s])=cellsS ss++[.slice s.a1 s.l1.length s.c1,.slice s.a2 s.l2.length s.c2] by simp [cellsS]]
  exact ho
 ·rcases List.mem_append.1 ht with ht | ht
  ·exact (h.at_ t ht).fr F (h.off t ht)
  ·rw [List.mem_singleton.1 ht];exact hs.fr F hd
 ·rcases List.mem_append.1 ht with ht | ht
  ·exact offn k ((h.at_ t ht).lt hk) (h.off t ht k hk)
  ·rw [List.mem_singleton.1 ht] at hk;exact offn k (hs.lt hk) (hd k hk)
theorem cellsS_get (ss:List Sn):∀ i (h:i < ss.length),(cellsS ss)[i * 2]?=some (.slice ss[i].a1 ss[i].l1.length ss[i].c1)∧(cellsS ss)[i * 2+1]?=some (.slice ss[i].a2 ss[i].l2.length ss[i].c2):=by
 induction ss with
 | nil=>intro i h;exact absurd h (Nat.not_lt_zero _)
 | cons y ys ih =>
  intro i h
  have e:cellsS (y::ys)=.slice y.a1 y.l1.length y.c1::.slice y.a2 y.l2.length y.c2::cellsS ys:=by simp [cellsS]
  rw [e]
  cases i with
  | zero=>exact ⟨rfl,rfl⟩
  | succ i =>
   have:=ih i (by simpa using h)
   rw [show (i+1) * 2=(i * 2)+1+1 by omega]
   exact this
theorem SnL.ks {W:World} {base:Nat} {v:Value} {ss:List Sn} (h:SnL W base v ss):∃ a g c,v=.slice a ss.length c∧KS W a g 0 (kys ss):=by
 obtain ⟨a,g,c,e1,e2,e3⟩:=own_twoS h.own
 refine ⟨a,g,c,e1,fun hl=>e2 (by simpa [kys] using hl),fun i hi=>?_⟩
 have hi':i < ss.length:=by simpa [kys] using hi
 obtain ⟨c1,c2⟩:=cellsS_get ss i hi'
 refine ⟨ss[i],by simp [kys,Sn.ky],by simp [kys,Sn.ky],by rw [Nat.zero_add];exact e3 _ _ c1,by rw [Nat.zero_add];exact e3 _ _ c2,h.at_ _ (List.getElem_mem hi')⟩
structure OaI (ll:List (List M.D)) (kind:Int) (base Lb:Nat) (W4:World) (pre:List M.Wy) (C:Nat→Prop) (W:World):Prop where
 ex:∃ v ss,(∀ k,C k↔k=Lb∨v.ownBlock=some k∨∃ s∈ss,BlkS s k)∧Boxed W Lb 78 v∧SnL W base v ss∧v.ownBlock≠some Lb∧(∀ s∈ss,∀ k,BlkS s k→k≠Lb)∧Hid (kys ss=(pre.filter fun x=>M.orderHolds ll x.1 x.2 kind).map (M.seenOf ll))∧ss.length≤pre.length
 fr:Fr (fun k=>k < W4.heap.size∧k≠Lb) W4 W
 bd:∀ k,C k→k=Lb∨W4.heap.size≤k
theorem OaI.frames (ll:List (List M.D)) (kind:Int) (base Lb:Nat) (W4:World):Frames (fun k=>k < W4.heap.size∧k≠Lb) (OaI ll kind base Lb W4):=by
 rintro pre C W W' ⟨⟨v,ss,h1,h2,h3,h4,h5,h6⟩,h7,h8⟩ hf
 exact ⟨⟨v,ss,h1,hf.heap (Or.inl ((h1 _).2 (Or.inl rfl))) h2,h3.fr hf (fun k hk=>Or.inl ((h1 k).2 (Or.inr (Or.inl hk)))) (fun y hy k hk=>Or.inl ((h1 k).2 (Or.inr (Or.inr ⟨y,hy,hk⟩)))),h4,h5,h6⟩,h7.trans (hf.mono fun k _ hk=>Or.inr hk),h8⟩
structure OaAns (w w':World) (ll:List (List M.D)) (kind:Int) (v:Value):Prop where
 ex:∃ a g c,∃ uu:List Sn,v=.slice a uu.length c∧kys uu=M.orderAll ll kind∧NewL w.heap.size w' a g uu∧uu.length≤117649∧uu.length≤c
 bel:Below w.heap.size w w'
theorem NewL.none (B:Nat) (w:World):NewL B w none 0 []:=⟨fun h=>absurd h (Nat.lt_irrefl _),fun h=>absurd h (Nat.lt_irrefl _),fun h=>absurd h (Nat.lt_irrefl _),(fun s hs=>by cases hs),(fun s hs=>by cases hs),⟨fun i _ hi=>absurd hi (Nat.not_lt_zero _),(fun s hs=>by cases hs)⟩,(fun s hs=>by cases hs)⟩
theorem NewL.keep {B B':Nat} {W W':World} {a:Option Addr} {g:Nat} {uu:List Sn} (h:NewL B W a g uu) (hB:B'≤B) (hk:∀ k,B≤k→W'.heap[k]?=W.heap[k]?):NewL B' W' a g uu:=by
 have cc:∀ {p:Addr} {v:Value},B≤p.block→W.cell? p=some v→W'.cell? p=some v:=fun hp hv=>(World.cell?_of_block (hk _ hp)).trans hv
 have ff:∀ {p:Addr},B≤p.block→W'.frozen? p=W.frozen? p:=fun hp=>World.frozen?_of_block (hk _ hp)
 have ii:∀ {a:Option Addr} {b o:Nat} {l:List Int},B≤b→IntS W a b o l→IntS W' a b o l:=fun hb hI=>⟨hI.addr,fun i hi=>cc hb (hI.row i hi)⟩
 refine ⟨h.addr,fun hl=>Nat.le_trans hB (h.ge hl),fun hl=>⟨fun i hi=>?_,fun j=>?_⟩,fun s hs=>?_,fun s hs=>?_,h.sep,fun s hs=>?_⟩
 ·obtain ⟨c1,c2⟩:=(h.sr hl).c i hi
  exact ⟨cc (h.ge hl) c1,cc (h.ge hl) c2⟩
 ·exact (ff (h.ge hl)).trans ((h.sr hl).fz j)
 ·have ho:=h.off s hs
  have hf:=h.fresh s hs
  exact ⟨⟨ii hf.1 ho.at_.reads,ii hf.2 ho.at_.last⟩,ho.le,ho.n1,ho.n2⟩
 ·have hf:=h.fresh s hs
  exact ⟨Nat.le_trans hB hf.1,Nat.le_trans hB hf.2⟩
 ·have ho:=h.own s hs
  have hf:=h.fresh s hs
  refine ⟨ho.ne,fun b hb j=>(ff ?_).trans (ho.fz b hb j)⟩
  rcases hb with ⟨_,e⟩ | ⟨_,e⟩
  ·show B≤b;omega
  ·show B≤b;omega
set_option maxHeartbeats 4000000 in
set_option maxRecDepth 100000 in
set_option linter.unusedSimpArgs false in
theorem iorderAll_any (a:Option Addr) (b o c:Nat) (ll:List (List M.D)) (kind:Int) (w:World) (hl:ll.length≤1048576) (hls:∀ t∈ll,t.length≤1048576) (h:DoSS w a b o ll) :
  Calls Tryz.prog 31 #[.agg #[.slice a ll.length c],.int .i64 kind] w fun e w'=>∃ v,e=.returned v∧OaAns w w' ll kind v:=by
 obtain ⟨i0,hi,hz0,hz1,hz2⟩:=info_parts Tryz.infoSn2
 have b1:=below2 w (.cells #[.slice a ll.length c] 27) (.cells #[.int .i64 kind] 3)
 have k1:((w.alloc (.cells #[.slice a ll.length c] 27)).alloc (.cells #[.int .i64 kind] 3)).cell? ⟨w.heap.size,0,none⟩=some (.slice a ll.length c):=by simp
 have k2:((w.alloc (.cells #[.slice a ll.length c] 27)).alloc (.cells #[.int .i64 kind] 3)).cell? ⟨w.heap.size+1,0,none⟩=some (.int .i64 kind):=by simp
 have sz1:((w.alloc (.cells #[.slice a ll.length c] 27)).alloc (.cells #[.int .i64 kind] 3)).heap.size=w.heap.size+2:=by simp
 have C1:=iprog_any a b o c ll _ hl hls (h.below b1 (Nat.le_refl _))
 refine (callsIn_wide (n:=9)).1 ?_
 refine callsIn_of_wp_marks Tryz.func31 rfl trivial ?_ rfl
 simp only [Tryz.ntmps31,List.size_toArray,List.length_cons,List.length_nil,Nat.reduceAdd,Nat.reduceSub,Array.replicate_succ,Array.replicate_zero,List.push_toArray,List.append_toArray,List.nil_append,List.cons_append]
 gi_wp2_with fail
 generalize (w.alloc (.cells #[.slice a ll.length c] 27)).alloc (.cells #[.int .i64 kind] 3)=W0 at *
 refine ⟨trivial,(callsIn_wide.2 (isOrder_any kind W0)).mono ?_⟩
 cases hk:(decide (1≤kind)&&decide (kind≤3))
 ·rintro e W1 ⟨rfl,e1⟩
  subst e1
  have hx:M.orderAll ll kind=[]:=by simp only [M.orderAll];rw [hk];rfl
  clear hk C1
  gi_wp2_with fail
  refine ⟨trivial,?_⟩
  gi_wp2_with fail
  exact ⟨_,results_tmp rfl _ _ _,_,rfl,⟨none,0,0,[],rfl,hx.symm,NewL.none _ _,by simp,by simp⟩,b1⟩
 ·rintro e W1 ⟨rfl,e1⟩
  subst e1
  gi_wp2_with fail
  refine ⟨trivial,(callsIn_wide.2 C1).mono ?_⟩
  cases hp:M.prog ll
  ·rintro e W1 ⟨rfl,b2⟩
   have hx:M.orderAll ll kind=[]:=by simp only [M.orderAll];rw [hp,Bool.and_false];rfl
   have bw1:=b1.trans (b2.mono (by omega))
   clear hp C1 hk
   gi_wp2_with fail
   exact ⟨_,results_tmp rfl _ _ _,_,rfl,⟨none,0,0,[],rfl,hx.symm,NewL.none _ _,by simp,by simp⟩,bw1⟩
  ·rintro e W1 ⟨rfl,b2⟩
   have HX:Hid (M.orderAll ll kind=M.sortK (M.orderList ll kind)):=by show _=_;simp only [M.orderAll];rw [hk,hp];rfl
   have hpl:=M.prog_le hp
   have hwl:=M.ways_le2 hp
   obtain ⟨kn,rfl⟩:∃ kn:Nat,kind=kn:=⟨kind.toNat,by simp only [Bool.and_eq_true,decide_eq_true_eq] at hk;omega⟩
   have hk13:1≤kn∧kn≤3:=by simp only [Bool.and_eq_true,decide_eq_true_eq] at hk;omega
   have bw1:=b1.trans (b2.mono (by omega))
   have q1:=(b2.cell (p:=⟨w.heap.size,0,none⟩) (by show w.heap.size < _;omega)).trans k1
   have q2:=(b2.cell (p:=⟨w.heap.size+1,0,none⟩) (by show w.heap.size+1 < _;omega)).trans k2
   have s1:=b2.size
   clear C1 hk k1 k2
   gi_wp2_with fail
   have C2:=deedsOf_any a b o c ll W1 hpl.1 hpl.2 (h.below bw1 (Nat.le_refl _))
   refine ⟨trivial,(callsIn_wide.2 C2).mono ?_⟩
   rintro e W2 ⟨v3,rfl,ho3,b4⟩
   obtain ⟨va,g,cc,rfl,hde,hge,_⟩:=own_rs M.De.len ho3
   have hd1:=M.deeds_len hpl.1 hpl.2
   have hdlt:0 < (M.deeds ll).length→g < W2.heap.size:=fun h0=>World.block_lt_of_cell? _ _ ((hde.row 0 h0 0 (by omega)).trans rfl)
   have hq:WyOk (M.deeds ll) (M.firstW (M.deeds ll)):=WyOk.first (fun n x hx=>M.lr_lt2 ll n x hx)
   have s2:=b4.size
   have b5:=below2 W2 (.cells #[.slice va (M.deeds ll).length cc] 116) (.cells #[.slice none 0 0] 78)
   have bA:((W2.alloc (.cells #[.slice va (M.deeds ll).length cc] 116)).alloc (.cells #[.slice none 0 0] 78)).cell? ⟨W2.heap.size,0,none⟩=some (.slice va (M.deeds ll).length cc):=by simp
   have bL:Boxed ((W2.alloc (.cells #[.slice va (M.deeds ll).length cc] 116)).alloc (.cells #[.slice none 0 0] 78)) (W2.heap.size+1) 78 (.slice none 0 0):=by
    have:=Boxed.new (W2.alloc (.cells #[.slice va (M.deeds ll).length cc] 116)) 78 (.slice none 0 0)
    rwa [World.size_alloc] at this
   have szA:((W2.alloc (.cells #[.slice va (M.deeds ll).length cc] 116)).alloc (.cells #[.slice none 0 0] 78)).heap.size=W2.heap.size+2:=by simp
   have b42:=b4.trans (b5.mono b4.size)
   have q2A:=(b42.cell (p:=⟨w.heap.size+1,0,none⟩) (by show w.heap.size+1 < _;omega)).trans q2
   have hdeA:=hde.below M.De.len b5 (Nat.le_refl _)
   clear C2 ho3 q1 q2 hde
   gi_wp2_with fail
   generalize (W2.alloc (.cells #[.slice va (M.deeds ll).length cc] 116)).alloc (.cells #[.slice none 0 0] 78)=W3 at *
   have hc4:=ways_any va g cc (M.deeds ll) W3 (by omega) hdeA
   refine ⟨trivial,(callsIn_wide.2 hc4).mono ?_⟩
   rintro e W4 ⟨f,rfl,hit,b6⟩
   have s4:=b6.size
   have bL4:Boxed W4 (W2.heap.size+1) 78 (.slice none 0 0):=(b6.block _ (by omega)).trans bL
   have qA4:=(b6.cell (p:=⟨W2.heap.size,0,none⟩) (by show W2.heap.size < _;omega)).trans bA
   have qK4:=(b6.cell (p:=⟨w.heap.size+1,0,none⟩) (by show w.heap.size+1 < _;omega)).trans q2A
   have hde4:=hdeA.below M.De.len b6 (Nat.le_refl _)
   obtain ⟨gf,lb,rfl,eg,hseq⟩:=hit.seq hde4 (by omega) hq (D:=fun k=>k < W4.heap.size∧k≠W2.heap.size+1) (fun k hk hk'=>⟨hk',by omega⟩) (fun h0=>⟨by have:=hdlt h0;omega,by have:=hdlt h0;omega⟩) (fun k hk=>hk.1)
   have bw4:Below w.heap.size w W4:=(bw1.trans (b42.mono bw1.size)).trans (b6.mono (by have:=bw1.size;omega))
   have hgD:0 < (M.deeds ll).length→g < W4.heap.size∧g≠W2.heap.size+1:=fun h0=>⟨by have:=hdlt h0;omega,by have:=hdlt h0;omega⟩
   clear hit hc4 hge hdlt bL b2 b4 b5 b6 b42 bw1 hdeA bA q2A
   obtain ⟨Lb,hLb⟩:∃ Lb,W2.heap.size+1=Lb:=⟨_,rfl⟩
   obtain ⟨Ab,hAb⟩:∃ Ab,W2.heap.size=Ab:=⟨_,rfl⟩
   rw [hAb] at hLb qA4 ⊢
   rw [hAb,hLb] at hseq bL4 hgD
   rw [hLb]
   have hAL:Ab≠Lb:=by omega
   have ltL:Lb < W4.heap.size:=bL4.lt
   have ltA:Ab < W4.heap.size:=by omega
   have ltK:w.heap.size+1 < W4.heap.size∧w.heap.size+1≠Lb:=by omega
   have hLw:w.heap.size+2≤Lb:=by omega
   clear hAb szA s4 s2
   gi_wp2_with fail
   refine rv_outer (n:=9) (a:=_) (D:=fun k=>k < W4.heap.size∧k≠Lb) (xs:=M.ways (M.deeds ll)) (w0:=W4) (C0:=fun k=>k=Lb) rfl (by omega) (gf:=gf) (lb:=lb) rfl trivial eg (hseq 8) (Fr.refl _ _) (fun k hk=>hk.1) (V:=WayV (WyOk (M.deeds ll)))
    (fun x vs O W h=>by obtain ⟨⟨_,_,_,rfl,_,_⟩,_⟩:=h;rfl) (fun k hk=>?c0)
    (OaI ll kn w.heap.size Lb W4) (fun _ _ _ _=>False) (OaI.frames _ _ _ _ _) (fun _ _ _ _ _ h=>h.elim) ?h0 ?round ?done ?stop
   case c0=>subst hk;exact ⟨ltL,fun h=>h.2 rfl⟩
   case h0=>exact ⟨⟨_,[],fun k=>⟨Or.inl,fun h=>by rcases h with h | h | ⟨y,hy,_⟩;exact h;cases h;cases hy⟩,bL4,SnL.nil _ _,(fun h=>by cases h),(fun y hy=>by cases hy),(by show _=_;rfl),Nat.le_refl _⟩,Fr.refl _ _,fun k hk=>Or.inl hk⟩
   case stop=>rintro c pre C' W' hp hf hc hfalse;exact hfalse.elim
   case round =>
    rintro l1 pre C1 x vs O W5 hb ⟨r1,hr1⟩ hCl hOl hpx ⟨⟨v,ss,hC,bx,hwl1,hv1,hy1,HKY,hsl⟩,hfr,hbd⟩ hVx hO
    obtain ⟨⟨fv,ov,cs,rfl,hxw,hOb⟩,hqx⟩:=hVx
    have hplen:pre.length+1≤117649:=by have:=hpx.length_le;simp at this;omega
    have hmem:x∈M.ways (M.deeds ll):=by obtain ⟨t,ht⟩:=hpx;rw [← ht];simp
    have hok:M.execOk ll x.1 x.2=true:=M.ways_ok hp hmem
    have hW:=M.wok_of hok
    have hY:=M.way_of hok
    obtain ⟨a1,c1,rfl⟩:=own_slx hxw.from_
    obtain ⟨a2,c2,rfl⟩:=own_slx hxw.ord
    obtain ⟨av,cv,rfl⟩:=own_slx hwl1.own
    have hl1:l1 < W5.heap.size:=(Array.getElem?_eq_some_iff.1 hr1).1
    have hW45:=hfr.size
    gi_wp2
    refine ⟨.of_below ((Below.refl _ W5).alloc (Nat.le_refl _) _),fun Wb hfb=>?_⟩
    intro rb0 hrb
    have hW5b:Fr (fun k=>k≠l1) W5 Wb:=(Fr.of_below ((Below.refl _ W5).alloc (Nat.le_refl _) _)).trans hfb
    have cx0:Wb.cell? ⟨W5.heap.size,0,none⟩=some (.slice a1 x.1.length c1):=hfb.cell (by show W5.heap.size≠l1;omega) (by simp)
    have cx1:Wb.cell? ⟨W5.heap.size,1,none⟩=some (.slice a2 x.2.length c2):=hfb.cell (by show W5.heap.size≠l1;omega) (by simp)
    have hLl:Lb≠l1:=fun e=>hCl ((hC l1).2 (Or.inl e.symm))
    have bxb:Boxed Wb Lb 78 (.slice av ss.length cv):=hW5b.heap hLl bx
    have lbx:=bxb.lt
    have hDl:∀ k,(k < W4.heap.size∧k≠Lb)→k≠l1:=fun k hk=>by omega
    have hfb4:Fr (fun k=>k < W4.heap.size∧k≠Lb) W4 Wb:=hfr.trans (hW5b.mono fun k _ hk=>hDl k hk)
    have cA:=hfb4.cell (p:=⟨Ab,0,none⟩) ⟨ltA,hAL⟩ qA4
    have cK:=hfb4.cell (p:=⟨w.heap.size+1,0,none⟩) ltK qK4
    have hdb:=DeS.fr hde4 hfb4 hgD
    have hwlb:=hwl1.fr hW5b (fun k hk e=>hCl ((hC l1).2 (Or.inr (Or.inl (e▸hk))))) (fun y hy k hk e=>hCl ((hC l1).2 (Or.inr (Or.inr ⟨y,hy,e▸hk⟩))))
    obtain ⟨a1',fb,c1',a2',rb,c2',e1,e2,hF,hR⟩:=(hxw.fr hW5b (fun k hk e=>hOl (e▸(hOb k).2 hk))).reads
    simp only [Value.slice.injEq] at e1 e2
    obtain ⟨rfl,_,rfl⟩:=e1
    obtain ⟨rfl,_,rfl⟩:=e2
    have s5b:=hW5b.size
    have hrl:∀ r∈x.2,r.length≤1048576:=fun r hr=>by have:=hqx.row_le r hr;omega
    have C7:=wayHolds_any kn hk13.1 hk13.2 va g cc ll hp a1 fb 0 c1 x.1 a2 rb 0 c2 x.2 Wb ⟨hdb,hF,hR,M.deeds28 hp,hW.len,hW.three,hrl,hW.run,hW.pl⟩
    have HOH:Hid (M.orderHolds ll x.1 x.2 kn=(M.holdsA (M.netOf (M.deeds ll) x.1 x.2 0) (M.deeds ll).length&&M.waitsA (M.deeds ll).length (M.netOf (M.deeds ll) x.1 x.2 kn) (M.choices (M.deeds ll)))):=by
     show _=_
     unfold M.orderHolds
     rw [hok]
     have e1:decide ((1:Int)≤(kn:Int))=true:=by simpa using (by omega:(1:Int)≤kn)
     have e2:decide ((kn:Int)≤3)=true:=by simpa using (by omega:(kn:Int)≤3)
     rw [e1,e2]
     simp
    rw [← HOH.out] at C7
    clear HOH
    gi_wp2_with fail
    refine ⟨trivial,(CallsIn.inRound l1 (callsIn_wide.2 C7)).mono ?_⟩
    cases hH:M.orderHolds ll x.1 x.2 kn
    ·rintro e W6 ⟨rfl,b7⟩
     have HK2:Hid (kys ss=((pre++[x]).filter fun x=>M.orderHolds ll x.1 x.2 kn).map (M.seenOf ll)):=by show _=_;rw [HKY.out,List.filter_append];simp [hH]
     have FIN:RvBody (OaI ll kn w.heap.size Lb W4) (pre++[x]) C1 O W5 Wb W6:=by
      refine ⟨.of_below b7,C1,fun k hk=>Or.inl hk,⟨⟨_,ss,hC,(b7.block _ lbx).trans bxb,hwlb.below b7,hv1,hy1,HK2,by rw [List.length_append];omega⟩,hfb4.trans (.of_below b7),hbd⟩⟩
     clear C7 hH
     gi_wp2_with fail
     exact FIN
    ·rintro e W6 ⟨rfl,b7⟩
     have hKx:Hid (((pre++[x]).filter fun x=>M.orderHolds ll x.1 x.2 kn).map (M.seenOf ll)=(pre.filter fun x=>M.orderHolds ll x.1 x.2 kn).map (M.seenOf ll)++[M.seenOf ll x]):=by show _=_;rw [List.filter_append];simp [hH]
     have bxb6:Boxed W6 Lb 78 (.slice av ss.length cv):=(b7.block _ lbx).trans bxb
     have s67:=b7.size
     have cA6:=(b7.cell (p:=⟨Ab,0,none⟩) (World.block_lt_of_cell? _ _ cA)).trans cA
     have cx06:=(b7.cell (p:=⟨W5.heap.size,0,none⟩) (World.block_lt_of_cell? _ _ cx0)).trans cx0
     have cx16:=(b7.cell (p:=⟨W5.heap.size,1,none⟩) (World.block_lt_of_cell? _ _ cx1)).trans cx1
     have hwl6:=hwlb.below b7
     have hfr6:=hfb4.trans (.of_below b7)
     have fr6:Fr (fun k=>¬ C1 k∧¬ O k) Wb W6:=.of_below b7
     have hF6:=hF.below b7 (Nat.le_refl _)
     have hR6:=hR.below b7 (Nat.le_refl _)
     have hd6:=hdb.bel b7 (Nat.le_refl _)
     have hbW:Wb.heap.size≤W6.heap.size:=b7.size
     have hvlt:∀ k,(Value.slice av ss.length cv).ownBlock=some k→k < Wb.heap.size:=fun k hk=>(hwlb.own.lt k hk).2
     clear C7 hH cA cx0 cx1 bxb hwlb hF hR hdb hfb4 b7
     have HLC:∀ W:World,Below W6.heap.size W6 W→W.cell? ⟨Lb,0,none⟩=some (.slice av ss.length cv):=fun W hb=>(hb.cell (p:=⟨Lb,0,none⟩) bxb6.lt).trans bxb6.cell
     have HSC:∀ W:World,Below W6.heap.size W6 W→W.cell? ⟨Ab,0,none⟩=some (.slice va (M.deeds ll).length cc)∧W.cell? ⟨W5.heap.size,0,none⟩=some (.slice a1 x.1.length c1)∧W.cell? ⟨W5.heap.size,1,none⟩=some (.slice a2 x.2.length c2):=fun W hb=>⟨(hb.cell (p:=⟨Ab,0,none⟩) (World.block_lt_of_cell? _ _ cA6)).trans cA6,(hb.cell (p:=⟨W5.heap.size,0,none⟩) (World.block_lt_of_cell? _ _ cx06)).trans cx06,(hb.cell (p:=⟨W5.heap.size,1,none⟩) (World.block_lt_of_cell? _ _ cx16)).trans cx16⟩
     have CS:=fun (W:World) (hb:Below W6.heap.size W6 W)=>iseen_any va g cc (M.deeds ll) a1 fb 0 c1 x.1 a2 rb 0 c2 x.2 W hY.len hY.inn hY.zero hY.fin (by omega) hY.three hrl hY.mem (hd6.bel hb (Nat.le_refl _)) (hF6.below hb (Nat.le_refl _)) (hR6.below hb (Nat.le_refl _))
     have hA6l:Ab < W6.heap.size:=World.block_lt_of_cell? _ _ cA6
     have hX6l:W5.heap.size < W6.heap.size:=World.block_lt_of_cell? _ _ cx06
     have hL6l:=bxb6.lt
     have hv5:∀ k,(Value.slice av ss.length cv).ownBlock=some k→k < W5.heap.size∧k≠Ab∧k≠W5.heap.size:=fun k hk=>by
      have h1:=(hwl1.own.lt k hk).2
      have h2:=hbd k ((hC k).2 (Or.inr (Or.inl hk)))
      refine ⟨h1,fun e=>?_,by omega⟩
      subst e
      rcases h2 with h2 | h2
      ·exact hAL h2
      ·omega
     have FIN0:∀ (s:Sn) (W:World),Below W6.heap.size W6 W→s.At W→(∀ k,BlkS s k→W6.heap.size≤k)→s.l1=M.seenR (M.deeds ll) x.1→s.l2=M.seenL (M.deeds ll) x.1 x.2→∀ (v6:Value) (w6:World),w6.ownsRow w.heap.size 33 2 v6 (ss.length+1) (cellsS ss++[.slice s.a1 s.l1.length s.c1,.slice s.a2 s.l2.length s.c2])→(W.alloc (.cells #[.slice s.a1 s.l1.length s.c1,.slice s.a2 s.l2.length s.c2] 33)).grownBy w6 (Value.slice av ss.length cv).ownBlock→(v6.ownBlock=(Value.slice av ss.length cv).ownBlock∨v6.ownBlock=some (W.heap.size+1)) →
       (RvBody (OaI ll kn w.heap.size Lb W4) (pre++[x]) C1 O W5 Wb (w6.setCell ⟨Lb,0,none⟩ v6)∧((w6.setCell ⟨Lb,0,none⟩ v6).cell? ⟨Ab,0,none⟩=some (.slice va (M.deeds ll).length cc)∧(w6.setCell ⟨Lb,0,none⟩ v6).cell? ⟨W5.heap.size,0,none⟩=some (.slice a1 x.1.length c1)∧(w6.setCell ⟨Lb,0,none⟩ v6).cell? ⟨W5.heap.size,1,none⟩=some (.slice a2 x.2.length c2)))∧(w6.cell? ⟨Ab,0,none⟩=some (.slice va (M.deeds ll).length cc)∧w6.cell? ⟨W5.heap.size,0,none⟩=some (.slice a1 x.1.length c1)∧w6.cell? ⟨W5.heap.size,1,none⟩=some (.slice a2 x.2.length c2))∧w6.cell? ⟨Lb,0,none⟩=some (.slice av ss.length cv)∧w6.frozen? ⟨Lb,0,none⟩=false:=by
      intro s W hb hsA hsG hs1 hs2 v6 w6 ho hg hat
      have sW:=hb.size
      have sg:=hg.size
      simp only [World.size_alloc] at sg
      have hal:=below1 W (.cells #[.slice s.a1 s.l1.length s.c1,.slice s.a2 s.l2.length s.c2] 33)
      have hball:=hb.trans (hal.mono hb.size)
      have gne:some Lb≠(Value.slice av ss.length cv).ownBlock:=fun e=>hv1 e.symm
      have bxW:Boxed (W.alloc (.cells #[.slice s.a1 s.l1.length s.c1,.slice s.a2 s.l2.length s.c2] 33)) Lb 78 (.slice av ss.length cv):=(hball.block Lb hL6l).trans bxb6
      have bx6:=bxW.kept hg gne
      have keep:∀ {p:Addr} {u:Value},p.block < W6.heap.size→(Value.slice av ss.length cv).ownBlock≠some p.block→W6.cell? p=some u→w6.cell? p=some u:=fun hp hn hu=>hg.cell ((hball.cell hp).trans hu) (fun e=>hn e.symm)
      have kA:=keep (p:=⟨Ab,0,none⟩) hA6l (fun e=>(hv5 Ab e).2.1 rfl) cA6
      have kX0:=keep (p:=⟨W5.heap.size,0,none⟩) hX6l (fun e=>(hv5 _ e).2.2 rfl) cx06
      have kX1:=keep (p:=⟨W5.heap.size,1,none⟩) hX6l (fun e=>(hv5 _ e).2.2 rfl) cx16
      have hXL:W5.heap.size≠Lb:=by omega
      have hwl9:=(hwl6.below hb).snoc hsA (fun k hk e=>by have:=(hv5 k e).1;have:=hsG k hk;omega) ho hg hat
      have hvL:v6.ownBlock≠some Lb:=fun e=>by
       rcases hat with e1 | e1
       ·exact hv1 (e1▸e)
       ·rw [e1] at e;have:=Option.some.inj e;omega
      have hyL:∀ y∈ss++[s],∀ k,BlkS y k→k≠Lb:=fun y hy k hk=>by
       rcases List.mem_append.1 hy with hy | hy
       ·exact hy1 y hy k hk
       ·rw [List.mem_singleton.1 hy] at hk;have:=hsG k hk;omega
      have hv6l:∀ k,v6.ownBlock=some k→k < w6.heap.size:=fun k hk=>(ho.lt k hk).2
      refine ⟨⟨⟨⟨hg.os.trans (hball.os.trans fr6.os),hg.tape.trans (hball.tape.trans fr6.tape),hg.output.trans (hball.output.trans fr6.output),by simp;omega,fun k hk hc=>?_⟩,fun k=>k=Lb∨v6.ownBlock=some k∨∃ y∈ss++[s],BlkS y k,fun k hk=>?_,⟨v6,ss++[s],fun k=>Iff.rfl,bx6.set v6,?_,hvL,hyL,?_,by simp;omega⟩,?_,fun k hk=>?_⟩,?_,?_,?_⟩,⟨kA,kX0,kX1⟩,bx6.cell,bx6.frozen⟩
      ·rw [Below.heap_setCell _ _ _ _ (fun e=>hc.1 ((hC k).2 (Or.inl e))),hg.block k (by simp;omega) (fun e=>hc.1 ((hC k).2 (Or.inr (Or.inl e.symm)))),hball.block k (by omega)]
       exact fr6.same k hk hc
      ·rcases hk with rfl | hk | ⟨y,hy,hk⟩
       ·exact Or.inl ((hC k).2 (Or.inl rfl))
       ·rcases hat with e1 | e1
        ·exact Or.inl ((hC k).2 (Or.inr (Or.inl (e1▸hk))))
        ·have h1:=hv6l k hk
         rw [e1] at hk
         have h2:=Option.some.inj hk
         exact Or.inr (Or.inr ⟨by omega,by simp;omega⟩)
       ·rcases List.mem_append.1 hy with hy | hy
        ·exact Or.inl ((hC k).2 (Or.inr (Or.inr ⟨y,hy,hk⟩)))
        ·rw [List.mem_singleton.1 hy] at hk
         have h1:=hsG k hk
         have h2:=hsA.lt hk
         exact Or.inr (Or.inr ⟨by omega,by simp;omega⟩)
      ·exact hwl9.fr (O:=fun k=>k≠Lb) ((Fr.refl _ w6).setCell _ (fun h=>h rfl)) (fun k hk e=>hvL (e▸hk)) hyL
      ·show _=_
       rw [hKx.out,← HKY.out]
       simp [kys,Sn.ky,M.seenOf,hs1,hs2]
      ·refine hfr6.trans ⟨hg.os.trans hball.os,hg.tape.trans hball.tape,hg.output.trans hball.output,by simp;omega,fun k hk hc=>?_⟩
       rw [Below.heap_setCell _ _ _ _ (fun e=>hc.2 e),hg.block k (by simp;omega) (fun e=>?_),hball.block k hk]
       rcases hbd k ((hC k).2 (Or.inr (Or.inl e.symm))) with h | h
       ·exact hc.2 h
       ·omega
      ·rcases hk with rfl | hk | ⟨y,hy,hk⟩
       ·exact Or.inl rfl
       ·rcases hat with e1 | e1
        ·exact hbd k ((hC k).2 (Or.inr (Or.inl (e1▸hk))))
        ·rw [e1] at hk;have:=Option.some.inj hk;exact Or.inr (by omega)
       ·rcases List.mem_append.1 hy with hy | hy
        ·exact hbd k ((hC k).2 (Or.inr (Or.inr ⟨y,hy,hk⟩)))
        ·rw [List.mem_singleton.1 hy] at hk;have:=hsG k hk;exact Or.inr (by omega)
      ·rw [World.cell?_setCell_other _ _ _ _ (fun e=>hAL (congrArg Addr.block e).symm)];exact kA
      ·rw [World.cell?_setCell_other _ _ _ _ (fun e=>hXL (congrArg Addr.block e).symm)];exact kX0
      ·rw [World.cell?_setCell_other _ _ _ _ (fun e=>hXL (congrArg Addr.block e).symm)];exact kX1
     gi_wp2_with fail
     refine wpIn_region_round' (S:=fun W=>W.cell? ⟨Ab,0,none⟩=some (.slice va (M.deeds ll).length cc)∧W.cell? ⟨W5.heap.size,0,none⟩=some (.slice a1 x.1.length c1)∧W.cell? ⟨W5.heap.size,1,none⟩=some (.slice a2 x.2.length c2)) (by kernel_rfl) (by rintro ⟨_,_,h⟩;exact h) (by kernel_rfl) (HSC _ (Below.refl _ _).drew) (fun hH=>?_)
     have bn:Below W6.heap.size W6 W6.drew:=(Below.refl _ _).drew
     generalize W6.drew=Wd at *
     refine tk 1 27 (.slice va (M.deeds ll).length cc) hH rfl rfl (by intro w' hSw;obtain ⟨u0,u1,u2⟩:=hSw;go_simp) ?_
     simp only [Act.put,zqa,zqb,zqc]
     refine tk 2 28 (.agg #[.slice a1 x.1.length c1,.slice a2 x.2.length c2]) hH rfl rfl (by intro w' hSw;obtain ⟨u0,u1,u2⟩:=hSw;go_simp) ?_
     simp only [Act.put,zqa,zqb,zqc]
     refine wpAnyH_ready (rs:=[0,3]) (by kernel_rfl) (by simp) ?_
     refine AllReadyH.cons rfl (fun K' hK=>?_) (AllReadyH.cons rfl (fun K' hK=>?_) AllReadyH.nil)
     ·have hLc:=HLC Wd bn
      rw [if_pos (by rfl)]
      go_simp
      refine hK.out _ _ (HSC Wd bn) (fun _=>?_)
      clear hK K' hLc
      refine ry 3 rfl (fun K' hK=>?_)
      refine sg 29 rfl 55 #[.tmp 27,.tmp 28] rfl #[.slice va (M.deeds ll).length cc,.agg #[.slice a1 x.1.length c1,.slice a2 x.2.length c2]] (enters_of Tryz.func55 (by kernel_rfl) rfl) (CS Wd bn) ?_
      rintro e W7 ⟨s,rfl,hs1,hs2,hNS,bN⟩
      have HS1:Hid (s.l1=_):=hs1
      have HS2:Hid (s.l2=_):=hs2
      clear hs1 hs2
      refine ⟨_,rfl,?_⟩
      simp only [Act.put,zqa,zqb,zqc]
      have bm:=bn.trans (bN.mono bn.size)
      refine hK.out _ _ (HSC W7 bm) (fun _=>?_)
      clear hK K'
      have hsA:=hNS.at_
      have hsG:∀ k,BlkS s k→W6.heap.size≤k:=fun k hk=>by have:=bn.size;rcases hk with ⟨_,rfl⟩ | ⟨_,rfl⟩;exact Nat.le_trans this hNS.ge1;exact Nat.le_trans this hNS.ge2
      clear bn bN hNS
      have bn:=bm
      clear bm
      refine ry 4 rfl (fun K' hK=>?_)
      rw [if_pos (by rfl)]
      go_simp
      have bm:=bn.alloc bn.size (.cells #[.slice s.a1 s.l1.length s.c1,.slice s.a2 s.l2.length s.c2] 33)
      refine hK.out _ _ (HSC _ bm) (fun _=>?_)
      clear hK K'
      refine ry 5 rfl (fun K' hK=>?_)
      have hwl5:=hwl6.below bn
      refine step_append_lies _ (by rfl) (.tmp 26) (.tmp 30) 78 (by rfl) w.heap.size 33 i0 _ 2 48 Tryz.underlying78 hi hz0 hz1 hz2 rfl (by decide) (.slice av ss.length cv) ss.length (cellsS ss) (by rfl) (hwl5.own.alloc _) ⟨W7.heap.size,0,none⟩ 1 1 [.slice s.a1 s.l1.length s.c1,.slice s.a2 s.l2.length s.c2] (by rfl) (by rfl) (World.news_of_block (cs:=#[.slice s.a1 s.l1.length s.c1,.slice s.a2 s.l2.length s.c2]) (t:=33) (fr:=(0,0)) (heap_alloc_new W7 _)) (by simp [Value.oneCell']) (by omega) (by unfold maxLen;omega) (by omega) (by have:=bn.size;simp;omega) (W7.heap.size+1) (by simp) ?_
      intro g6 cap6 w6 hown6 hg6 hat6 hlt6
      obtain ⟨FIN,hSC6,c6,z6⟩:=FIN0 s W7 bn hsA hsG HS1.out HS2.out (.slice (some ⟨g6,0,none⟩) (ss.length+1) cap6) w6 hown6 hg6 (hat6.imp (fun e=>e.symm) (fun e=>by rw [e];rfl))
      clear hown6 hg6 hat6 hlt6 hwl5
      go_simp
      refine hK.out _ _ hSC6 (fun _=>?_)
      clear hK K'
      refine ry 6 rfl (fun K' hK=>?_)
      rw [if_pos (by rfl)]
      go_simp
      refine hK.out _ _ FIN.2 (fun _=>?_)
      clear hK K'
      refine wpAnyH_done (by kernel_rfl) ?_ _
      exact FIN.1
     ·refine sg 29 rfl 55 #[.tmp 27,.tmp 28] rfl #[.slice va (M.deeds ll).length cc,.agg #[.slice a1 x.1.length c1,.slice a2 x.2.length c2]] (enters_of Tryz.func55 (by kernel_rfl) rfl) (CS Wd bn) ?_
      rintro e W7 ⟨s,rfl,hs1,hs2,hNS,bN⟩
      have HS1:Hid (s.l1=_):=hs1
      have HS2:Hid (s.l2=_):=hs2
      clear hs1 hs2
      refine ⟨_,rfl,?_⟩
      simp only [Act.put,zqa,zqb,zqc]
      have bm:=bn.trans (bN.mono bn.size)
      refine hK.out _ _ (HSC W7 bm) (fun _=>?_)
      clear hK K'
      have hsA:=hNS.at_
      have hsG:∀ k,BlkS s k→W6.heap.size≤k:=fun k hk=>by have:=bn.size;rcases hk with ⟨_,rfl⟩ | ⟨_,rfl⟩;exact Nat.le_trans this hNS.ge1;exact Nat.le_trans this hNS.ge2
      clear bn bN hNS
      have bn:=bm
      clear bm
      refine wpAnyH_ready (rs:=[0,4]) (by kernel_rfl) (by simp) ?_
      refine AllReadyH.cons rfl (fun K' hK=>?_) (AllReadyH.cons rfl (fun K' hK=>?_) AllReadyH.nil)
      ·have hLc:=HLC W7 bn
       rw [if_pos (by rfl)]
       go_simp
       refine hK.out _ _ (HSC W7 bn) (fun _=>?_)
       clear hK K' hLc
       refine ry 4 rfl (fun K' hK=>?_)
       rw [if_pos (by rfl)]
       go_simp
       have bm:=bn.alloc bn.size (.cells #[.slice s.a1 s.l1.length s.c1,.slice s.a2 s.l2.length s.c2] 33)
       refine hK.out _ _ (HSC _ bm) (fun _=>?_)
       clear hK K'
       refine ry 5 rfl (fun K' hK=>?_)
       have hwl5:=hwl6.below bn
       refine step_append_lies _ (by rfl) (.tmp 26) (.tmp 30) 78 (by rfl) w.heap.size 33 i0 _ 2 48 Tryz.underlying78 hi hz0 hz1 hz2 rfl (by decide) (.slice av ss.length cv) ss.length (cellsS ss) (by rfl) (hwl5.own.alloc _) ⟨W7.heap.size,0,none⟩ 1 1 [.slice s.a1 s.l1.length s.c1,.slice s.a2 s.l2.length s.c2] (by rfl) (by rfl) (World.news_of_block (cs:=#[.slice s.a1 s.l1.length s.c1,.slice s.a2 s.l2.length s.c2]) (t:=33) (fr:=(0,0)) (heap_alloc_new W7 _)) (by simp [Value.oneCell']) (by omega) (by unfold maxLen;omega) (by omega) (by have:=bn.size;simp;omega) (W7.heap.size+1) (by simp) ?_
       intro g6 cap6 w6 hown6 hg6 hat6 hlt6
       obtain ⟨FIN,hSC6,c6,z6⟩:=FIN0 s W7 bn hsA hsG HS1.out HS2.out (.slice (some ⟨g6,0,none⟩) (ss.length+1) cap6) w6 hown6 hg6 (hat6.imp (fun e=>e.symm) (fun e=>by rw [e];rfl))
       clear hown6 hg6 hat6 hlt6 hwl5
       go_simp
       refine hK.out _ _ hSC6 (fun _=>?_)
       clear hK K'
       refine ry 6 rfl (fun K' hK=>?_)
       rw [if_pos (by rfl)]
       go_simp
       refine hK.out _ _ FIN.2 (fun _=>?_)
       clear hK K'
       refine wpAnyH_done (by kernel_rfl) ?_ _
       exact FIN.1
      ·rw [if_pos (by rfl)]
       go_simp
       have bm:=bn.alloc bn.size (.cells #[.slice s.a1 s.l1.length s.c1,.slice s.a2 s.l2.length s.c2] 33)
       refine hK.out _ _ (HSC _ bm) (fun _=>?_)
       clear hK K'
       refine ry 0 rfl (fun K' hK=>?_)
       have hLc:=HLC _ bm
       rw [if_pos (by rfl)]
       go_simp
       refine hK.out _ _ (HSC _ bm) (fun _=>?_)
       clear hK K' hLc
       refine ry 5 rfl (fun K' hK=>?_)
       have hwl5:=hwl6.below bn
       refine step_append_lies _ (by rfl) (.tmp 26) (.tmp 30) 78 (by rfl) w.heap.size 33 i0 _ 2 48 Tryz.underlying78 hi hz0 hz1 hz2 rfl (by decide) (.slice av ss.length cv) ss.length (cellsS ss) (by rfl) (hwl5.own.alloc _) ⟨W7.heap.size,0,none⟩ 1 1 [.slice s.a1 s.l1.length s.c1,.slice s.a2 s.l2.length s.c2] (by rfl) (by rfl) (World.news_of_block (cs:=#[.slice s.a1 s.l1.length s.c1,.slice s.a2 s.l2.length s.c2]) (t:=33) (fr:=(0,0)) (heap_alloc_new W7 _)) (by simp [Value.oneCell']) (by omega) (by unfold maxLen;omega) (by omega) (by have:=bn.size;simp;omega) (W7.heap.size+1) (by simp) ?_
       intro g6 cap6 w6 hown6 hg6 hat6 hlt6
       obtain ⟨FIN,hSC6,c6,z6⟩:=FIN0 s W7 bn hsA hsG HS1.out HS2.out (.slice (some ⟨g6,0,none⟩) (ss.length+1) cap6) w6 hown6 hg6 (hat6.imp (fun e=>e.symm) (fun e=>by rw [e];rfl))
       clear hown6 hg6 hat6 hlt6 hwl5
       go_simp
       refine hK.out _ _ hSC6 (fun _=>?_)
       clear hK K'
       refine ry 6 rfl (fun K' hK=>?_)
       rw [if_pos (by rfl)]
       go_simp
       refine hK.out _ _ FIN.2 (fun _=>?_)
       clear hK K'
       refine wpAnyH_done (by kernel_rfl) ?_ _
       exact FIN.1
   case done =>
    rintro C' W' hf' hb' ⟨⟨v,ss,hC,bx,hwl1,hv1,hy1,HKY,hsl⟩,hfr,hbd⟩ hK
    obtain ⟨av,gv,cv,rfl,hks⟩:=hwl1.ks
    have bc:=bx.cell
    have lbx:=bx.lt
    have sW:=hf'.size
    have HO:Hid (kys ss=M.orderList ll kn):=HKY
    have hKL:KLe (kys ss) 1048576:=fun y hy=>by
     rw [HO.out] at hy
     obtain ⟨x,hx,rfl⟩:=List.mem_map.1 hy
     have hm:=(List.mem_filter.1 hx).1
     have hok:M.execOk ll x.1 x.2=true:=M.ways_ok hp hm
     have hY:=M.way_of hok
     have h1:=M.seenR_len (M.deeds ll) x.1
     have h2:(M.seenL (M.deeds ll) x.1 x.2).length=3:=by rw [M.seenL,List.length_map];exact hY.three.out
     exact ⟨by show (M.seenR _ _).length≤_;omega,by show (M.seenL _ _ _).length≤_;omega⟩
    have CQ:=iseenSort_any av gv 0 cv (kys ss) W' (by rw [kys_len];omega) hKL hks
    rw [kys_len] at CQ
    gi_wp2_with fail
    refine ⟨trivial,(callsIn_wide.2 CQ).mono ?_⟩
    rintro e W6 ⟨a',g',c',uu,rfl,hku,hN,hul,hcap,b6⟩
    have hK6:W6.heap[W4.heap.size]?=some (.deferred (some [])):=(b6.block _ (Array.getElem?_eq_some_iff.1 hK).1).trans hK
    have hlt4:W4.heap.size < W'.heap.size:=(Array.getElem?_eq_some_iff.1 hK).1
    have s6:=b6.size
    have sw4:=bw4.size
    have hNF:NewL w.heap.size (W6.putObj W4.heap.size (.deferred none)) a' g' uu:=hN.keep (by omega) (fun k hk=>World.putObj_heap_other (by omega))
    have bF:Below w.heap.size w (W6.putObj W4.heap.size (.deferred none)):=by
     refine ⟨b6.os.trans (hf'.os.trans bw4.os),b6.tape.trans (hf'.tape.trans bw4.tape),b6.output.trans (hf'.output.trans bw4.output),by simp;omega,fun k hk=>?_⟩
     rw [World.putObj_heap_other (by omega),b6.block k (by omega),hf'.same k (by omega) (by omega)]
     exact bw4.block k hk
    have hkx:kys uu=M.orderAll ll kn:=by rw [hku,HO.out,HX.out]
    clear CQ hN hku
    gi_wp2_with fail
    refine ⟨by simp,.inl ⟨_,_,rfl,run_takeDeferred hK6,?_⟩⟩
    exact ⟨_,results_tmp rfl _ _ _,_,rfl,⟨a',g',c',uu,rfl,hkx,hNF,by omega,hcap⟩,bF⟩
end
end Go.Proofs.YtnddmlgnngdaoaaGreatDoor
