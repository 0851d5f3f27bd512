/- The last read that a program's event tells of stands ahead of it, and reads; how many ways there are at most. No condition. And what goes with it: WaCop, RvWl, RvXa, WaAns, WyAn. -/
import Derived.Deep.AppendSrc
import Derived.Deep.OwnRows
import Derived.Test.YtegommoflmmahaaGreatRows
import Derived.Test.YtegommoflmmahaaGreatQwbf
namespace Go.Proofs.YtegommoflmmahaaGreat
section
namespace M
theorem ways_le {ll:List (List D)} (h:prog ll=true):(ways (deeds ll)).length≤5489031744:=by
 rw [ways_eq (cop_deeds ll)]
 unfold allWays
 have key:∀ (fs:List (List Int)),(fs.flatMap fun f=>if ends (deeds ll) f then (ordersOf (deeds ll)).map fun o=>(f,o) else []).length≤fs.length * 46656:=by
  intro fs
  induction fs with
  | nil=>simp
  | cons f fs ih =>
   rw [List.flatMap_cons,List.length_append,List.length_cons]
   have:=orders6 h
   have h1:(if ends (deeds ll) f then (ordersOf (deeds ll)).map fun o=>(f,o) else []).length≤46656:=by
    split
    ·simpa using this
    ·simp
   omega
 have h2:=froms6 h
 have h3:=key (fromsOf (deeds ll) (deeds ll).length [])
 omega
end M
end
section
open Go.RowKit
def BlkY (y:Y3) (k:Nat):Prop:=Blks y.1 y.2.1 y.2.2 k
def cellsY (ys:List Y3):List Value:=ys.flatMap fun y=>[y.1,y.2.1]
theorem cellsY_append (ys zs:List Y3):cellsY (ys++zs)=cellsY ys++cellsY zs:=by simp [cellsY]
structure WL (W:World) (base:Nat) (v:Value) (ys:List Y3) (xs:List M.Wy):Prop where
 own:W.ownsRow base 33 2 v xs.length (cellsY ys)
 len:Hid (ys.length=xs.length)
 row:∀ i (h:i < xs.length) (h':i < ys.length),Xw W base ys[i].1 ys[i].2.1 xs[i].1 ys[i].2.2 xs[i].2
 off:∀ y∈ys,∀ k,BlkY y k→v.ownBlock≠some k
 each:ys.Pairwise fun y z=>∀ k,BlkY y k→¬ BlkY z k
theorem WL.nil (W:World) (base:Nat):WL W base (.slice none 0 0) [] []:=⟨World.ownsRow_nil _ _ _ _,by show _=_;rfl,fun i h=>absurd h (Nat.not_lt_zero _),(fun y hy=>by cases hy),List.Pairwise.nil⟩
theorem WL.lt {W:World} {base:Nat} {v:Value} {ys:List Y3} {xs:List M.Wy} (h:WL W base v ys xs) {y:Y3} (hy:y∈ys) {k:Nat} (hk:BlkY y k):base≤k∧k < W.heap.size:=by
 obtain ⟨i,hi,rfl⟩:=List.getElem_of_mem hy
 exact (h.row i (by have:=h.len.out;omega) hi).blk_lt hk
theorem WL.fr {W W':World} {O:Nat→Prop} {base:Nat} {v:Value} {ys:List Y3} {xs:List M.Wy} (h:WL W base v ys xs) (hf:Fr O W W') (h1:∀ k,v.ownBlock=some k→O k) (h2:∀ y∈ys,∀ k,BlkY y k→O k):WL W' base v ys xs :=
 ⟨own_fr h.own hf h1,h.len,fun i hi hi'=>(h.row i hi hi').fr hf (h2 _ (List.getElem_mem hi')),h.off,h.each⟩
theorem WL.snoc {W w':World} {base:Nat} {v v':Value} {ys:List Y3} {xs:List M.Wy} {o:Obj} (h:WL W base v ys xs) {fv ov:Value} {x:M.Wy} {cs:List Value} (hx:Xw W base fv ov x.1 cs x.2) (hd:∀ k,Blks fv ov cs k→v.ownBlock≠some k∧∀ y∈ys,¬ BlkY y k)
  (ho:w'.ownsRow base 33 2 v' (xs.length+1) (cellsY ys++[fv,ov])) (hg:(W.alloc o).grownBy w' v.ownBlock) (hat:v'.ownBlock=v.ownBlock∨v'.ownBlock=some (W.alloc o).heap.size):WL w' base v' (ys++[(fv,ov,cs)]) (xs++[x]):=by
 have hs:=hg.size
 have hs':W.heap.size≤w'.heap.size:=by simp at hs;omega
 have F:Fr (fun k=>v.ownBlock≠some k) W w':=⟨hg.os.trans (below1 W o).os,hg.tape.trans (below1 W o).tape,hg.output.trans (below1 W o).output,hs',fun k hk hc=>(hg.block k (by simp;omega) (fun e=>hc e.symm)).trans ((below1 W o).block k hk)⟩
 have hl:=h.len.out
 have offn:∀ k,k < W.heap.size→v.ownBlock≠some k→v'.ownBlock≠some k:=fun k hk hne e=>by
  rcases hat with e1 | e1
  ·exact hne (e1▸e)
  ·rw [e1] at e
   have:=Option.some.inj e
   simp at this
   omega
 refine ⟨?_,by show _=_;simp [hl],fun i hi hi'=>?_,fun y hy k hk=>?_,?_⟩
 ·rw [cellsY_append,List.length_append]
  exact ho
 ·by_cases hlt:i < xs.length
  ·have hlt':i < ys.length:=by omega
   rw [List.getElem_append_left hlt,List.getElem_append_left hlt']
   exact (h.row i hlt hlt').fr F (h.off _ (List.getElem_mem hlt'))
  ·have e:i=xs.length:=by simp at hi;omega
   subst e
   rw [List.getElem_append_right (Nat.le_refl _),List.getElem_append_right (by omega)]
   simp only [Nat.sub_self,List.getElem_cons_zero,hl]
   exact hx.fr F (fun k hk=>(hd k hk).1)
 ·rcases List.mem_append.1 hy with hy | hy
  ·exact offn k (h.lt hy hk).2 (h.off y hy k hk)
  ·rw [List.mem_singleton.1 hy] at hk
   exact offn k (hx.blk_lt hk).2 (hd k hk).1
 ·rw [List.pairwise_append]
  refine ⟨h.each,List.pairwise_singleton _ _,fun y hy z hz k hk hz2=>?_⟩
  rw [List.mem_singleton.1 hz] at hz2
  exact (hd k hz2).2 y hy hk
structure AllI (Q:M.Wy→Prop) (base Lb:Nat) (pre:List M.Wy) (C:Nat→Prop) (W:World):Prop where
 ex:∃ v ys,(∀ k,C k↔k=Lb∨v.ownBlock=some k∨∃ y∈ys,BlkY y k)∧Boxed W Lb 45 v∧WL W base v ys pre∧v.ownBlock≠some Lb∧∀ y∈ys,∀ k,BlkY y k→k≠Lb
 ok:∀ x∈pre,Q x
theorem AllI.frames (Q:M.Wy→Prop) (base Lb:Nat) (D:Nat→Prop):Frames D (AllI Q base Lb):=by
 rintro pre C W W' ⟨⟨v,ys,h1,h2,h3,h4,h5⟩,h6⟩ hf
 exact ⟨⟨v,ys,h1,hf.heap (Or.inl ((h1 _).2 (Or.inl rfl))) h2,h3.fr hf (fun k hk=>Or.inl ((h1 k).2 (Or.inr (Or.inl hk)))) (fun y hy k hk=>Or.inl ((h1 k).2 (Or.inr (Or.inr ⟨y,hy,hk⟩)))),h4,h5⟩,h6⟩
end
section
open Go.RowKit Go.Shelf
attribute [local go_sem] Oper.semAt_some
theorem Tryz.infoExI:(Tryz.prog.info? 33).map (fun i=>(i.zero,i.size,i.bytes))=some (some (.agg #[.slice none 0 0,.slice none 0 0]),2,48):=by kernel_rfl
def M.execAll (ll:List (List M.D)):List M.Wy:=if M.prog ll then M.ways (M.deeds ll) else []
structure XaAns (w w':World) (ll:List (List M.D)) (v:Value):Prop where
 ex:∃ ys,WL w' w.heap.size v ys (M.execAll ll)
 ok:∀ x∈M.execAll ll,WyOk (M.deeds ll) x
 bel:Below w.heap.size w w'
set_option maxHeartbeats 2000000 in
set_option maxRecDepth 100000 in
theorem iexecAll_any (a:Option Addr) (b o c:Nat) (ll:List (List M.D)) (w:World) (hl:ll.length≤1048576) (hls:∀ t∈ll,t.length≤1048576) (h:DoSS w a b o ll) :
  Calls Tryz.prog 19 #[.agg #[.slice a ll.length c]] w fun e w'=>∃ v,e=.returned v∧XaAns w w' ll v:=by
 obtain ⟨i0,hi,hz0,hz1,hz2⟩:=info_parts Tryz.infoExI
 have b1:=below1 w (.cells #[.slice a ll.length c] 25)
 have k1:(w.alloc (.cells #[.slice a ll.length c] 25)).cell? ⟨w.heap.size,0,none⟩=some (.slice a ll.length c):=by simp
 have C1:=iprog_any a b o c ll _ hl hls (h.below b1 (Nat.le_refl _))
 have sz1:(w.alloc (.cells #[.slice a ll.length c] 25)).heap.size=w.heap.size+1:=by simp
 refine (callsIn_wide (n:=9)).1 ?_
 refine callsIn_of_wp_marks Tryz.func19 rfl trivial ?_ rfl
 simp only [Tryz.ntmps19,List.size_toArray,List.length_cons,List.length_nil,Nat.reduceAdd,Nat.reduceSub,Array.replicate_succ,Array.replicate_zero,List.push_toArray,List.append_toArray,List.nil_append,List.cons_append]
 gi_wp2_with fail
 generalize w.alloc (.cells #[.slice a ll.length c] 25)=W0 at *
 refine ⟨trivial,(callsIn_wide.2 C1).mono ?_⟩
 cases hp:M.prog ll
 ·rintro e W1 ⟨rfl,b2⟩
  have hx:M.execAll ll=[]:=by simp [M.execAll,hp]
  have bw1:=b1.trans (b2.mono (by omega))
  clear hp C1
  gi_wp2_with fail
  refine ⟨_,results_tmp rfl _ _ _,_,rfl,⟨[],?_⟩,fun x hxm=>?_,bw1⟩
  ·rw [hx];exact WL.nil _ _
  ·rw [hx] at hxm;cases hxm
 ·rintro e W1 ⟨rfl,b2⟩
  have hx:M.execAll ll=M.ways (M.deeds ll):=by simp [M.execAll,hp]
  have hpl:=M.prog_le hp
  have hwl:=M.ways_le hp
  have bw1:=b1.trans (b2.mono (by omega))
  have k2:=(b2.cell (p:=⟨w.heap.size,0,none⟩) (by show w.heap.size < _;omega)).trans k1
  have b3:=below1 W1 (.cells #[.slice none 0 0] 45)
  have lt1:w.heap.size < W1.heap.size:=by have:=b2.size;omega
  have k3:=(b3.cell (p:=⟨w.heap.size,0,none⟩) lt1).trans k2
  have bL:=Boxed.new W1 45 (.slice none 0 0)
  have bw2:=bw1.trans (b3.mono bw1.size)
  have sz2:(W1.alloc (.cells #[.slice none 0 0] 45)).heap.size=W1.heap.size+1:=by simp
  clear hp C1
  gi_wp2_with fail
  generalize W1.alloc (.cells #[.slice none 0 0] 45)=W2 at *
  have C2:=deedsOf_any a b o c ll W2 hpl.1 hpl.2 (h.below bw2 (Nat.le_refl _))
  refine ⟨trivial,(callsIn_wide.2 C2).mono ?_⟩
  rintro e W3 ⟨v3,rfl,ho3,b4⟩
  obtain ⟨va,g,cc,rfl,hde,hge,_⟩:=own_rs M.De.len ho3
  have hd1:=M.deeds_len hpl.1 hpl.2
  have hdlt:0 < (M.deeds ll).length→g < W3.heap.size:=fun h0=>World.block_lt_of_cell? _ _ ((hde.row 0 h0 0 (by omega)).trans rfl)
  have hq:WyOk (M.deeds ll) (M.firstW (M.deeds ll)):=WyOk.first (fun n x hx=>M.lr_lt2 ll n x hx)
  have hc4:=ways_any va g cc (M.deeds ll) W3 (by omega) hde
  have bL3:Boxed W3 W1.heap.size 45 (.slice none 0 0):=(b4.block _ (by omega)).trans bL
  clear C2 k1 k2 k3 ho3
  gi_wp2_with fail
  refine ⟨trivial,(callsIn_wide.2 hc4).mono ?_⟩
  rintro e W4 ⟨f,rfl,hit,b5⟩
  have s3:=b4.size
  have s4:=b5.size
  have bL4:Boxed W4 W1.heap.size 45 (.slice none 0 0):=(b5.block _ (by omega)).trans bL3
  obtain ⟨gf,lb,rfl,eg,hseq⟩:=hit.seq (hde.below M.De.len b5 (Nat.le_refl _)) (by omega) hq (D:=fun k=>k < W4.heap.size∧k≠W1.heap.size) (fun k hk hk'=>⟨hk',by omega⟩) (fun h0=>⟨by have:=hdlt h0;omega,by have:=hge h0;omega⟩) (fun k hk=>hk.1)
  have bw4:Below w.heap.size w W4:=(bw2.trans (b4.mono bw2.size)).trans (b5.mono (by have:=bw2.size;omega))
  have HX:Hid (M.execAll ll=M.ways (M.deeds ll)):=hx
  have hw1:=bw1.size
  clear hit hc4 hde hge hdlt hx bL bL3 b2 b3 b4 b5 bw1 bw2 hpl
  generalize hds:M.deeds ll=ds at *
  generalize W1.heap.size=Lb at *
  have ltL:Lb < W4.heap.size:=bL4.lt
  gi_wp2_with fail
  refine rv_outer (n:=9) (a:=_) (D:=fun k=>k < W4.heap.size∧k≠Lb) (xs:=M.ways ds) (w0:=W4) (C0:=fun k=>k=Lb) rfl (by omega) (gf:=gf) (lb:=lb) rfl trivial eg (hseq 8) (Fr.refl _ _) (fun k hk=>hk.1) (V:=WayV (WyOk ds))
   (fun x vs O W h=>by obtain ⟨⟨_,_,_,rfl,_,_⟩,_⟩:=h;rfl) (fun k hk=>?c0)
   (AllI (WyOk ds) w.heap.size Lb) (fun _ _ _ _=>False) (AllI.frames _ _ _ _) (fun _ _ _ _ _ h=>h.elim) ?h0 ?round ?done ?stop
  case c0=>subst hk;exact ⟨ltL,fun h=>h.2 rfl⟩
  case h0=>exact ⟨⟨_,[],fun k=>⟨Or.inl,fun h=>by rcases h with h | h | ⟨y,hy,_⟩;exact h;cases h;cases hy⟩,bL4,WL.nil _ _,(fun h=>by cases h),(fun y hy=>by cases hy)⟩,(fun x hxm=>by cases hxm)⟩
  case round =>
   rintro l1 pre C1 x vs O W5 hb ⟨r1,hr1⟩ hCl hOl hpx ⟨⟨v,ys,hC,bx,hwl1,hv1,hy1⟩,hok⟩ hVx hO
   obtain ⟨⟨fv,ov,cs,rfl,hxw,hOb⟩,hqx⟩:=hVx
   have hplen:pre.length+1≤5489031744:=by have:=hpx.length_le;simp at this;omega
   obtain ⟨a1,c1,rfl⟩:=own_slx hxw.from_
   obtain ⟨a2,c2,rfl⟩:=own_slx hxw.ord
   obtain ⟨av,cv,rfl⟩:=own_slx hwl1.own
   have hl1:l1 < W5.heap.size:=(Array.getElem?_eq_some_iff.1 hr1).1
   gi_wp2
   refine ⟨.of_below ((Below.refl _ W5).alloc (Nat.le_refl _) _),fun Wb hfb=>?_⟩
   intro rb hrb
   have hW5b:Fr (fun k=>k≠l1) W5 Wb:=(Fr.of_below ((Below.refl _ W5).alloc (Nat.le_refl _) _)).trans hfb
   have cx0:Wb.cell? ⟨W5.heap.size,0,none⟩=some (.slice a1 x.1.length c1):=hfb.cell (by show W5.heap.size≠l1;omega) (by simp)
   have cx1:Wb.cell? ⟨W5.heap.size,1,none⟩=some (.slice a2 x.2.length c2):=hfb.cell (by show W5.heap.size≠l1;omega) (by simp)
   have hLl:Lb≠l1:=fun e=>hCl ((hC l1).2 (Or.inl e.symm))
   have bxb:Boxed Wb Lb 45 (.slice av pre.length cv):=hW5b.heap hLl bx
   have bc:=bxb.cell
   have bz:=bxb.frozen
   have lbx:=bxb.lt
   have hwlb:=hwl1.fr hW5b (fun k hk e=>hCl ((hC l1).2 (Or.inr (Or.inl (e▸hk))))) (fun y hy k hk e=>hCl ((hC l1).2 (Or.inr (Or.inr ⟨y,hy,e▸hk⟩))))
   have hOge:∀ k,O k→w.heap.size≤k:=fun k hk=>by
    have h1:=hO k hk
    by_cases hlt:k < W4.heap.size
    ·exact absurd ⟨hlt,fun e=>h1.1 ((hC k).2 (Or.inl e))⟩ h1.2
    ·omega
   have hxb:=(hxw.fr hW5b (fun k hk e=>hOl (e▸(hOb k).2 hk))).base (B':=w.heap.size) (fun k hk=>hOge k ((hOb k).2 hk))
   have s5b:=hW5b.size
   have hdis:∀ k,Blks (.slice a1 x.1.length c1) (.slice a2 x.2.length c2) cs k→(Value.slice av pre.length cv).ownBlock≠some k∧∀ y∈ys,¬ BlkY y k:=fun k hk=>⟨fun e=>(hO k ((hOb k).2 hk)).1 ((hC k).2 (Or.inr (Or.inl e))),fun y hy hyk=>(hO k ((hOb k).2 hk)).1 ((hC k).2 (Or.inr (Or.inr ⟨y,hy,hyk⟩)))⟩
   gi_wp2_with (gi_at_builtin;(refine wpListIn_append_own_at _ rfl (.tmp 12) (.tmp 14) 45 rfl w.heap.size 33 i0 _ 2 48 Tryz.underlying45 hi hz0 hz1 hz2 rfl (by decide) _ _ _ rfl (hwlb.own.alloc _) ⟨Wb.heap.size,0,none⟩ 1 1 [.slice a1 x.1.length c1,.slice a2 x.2.length c2] rfl rfl (World.news_of_block (cs:=#[.slice a1 x.1.length c1,.slice a2 x.2.length c2]) (t:=33) (fr:=(0,0)) (heap_alloc_new Wb _)) (by simp [Value.oneCell']) (by unfold maxLen;omega) (by omega) (by simp;omega) ?_))
   intro v6 w6 hown6 hg6 _ hat6
   have hwl6:=hwlb.snoc hxb hdis hown6 hg6 (by rw [World.size_alloc];exact hat6)
   have gne:some Lb≠(Value.slice av pre.length cv).ownBlock:=fun e=>hv1 e.symm
   have bx6:=(bxb.alloc (.cells #[.slice a1 x.1.length c1,.slice a2 x.2.length c2] 33)).kept hg6 gne
   have bc6:=bx6.cell
   have bz6:=bx6.frozen
   have hvL:v6.ownBlock≠some Lb:=fun e=>by
    rcases hat6 with e1 | e1
    ·exact hv1 (e1▸e)
    ·rw [e1] at e;have:=Option.some.inj e;omega
   have hyL:∀ y∈ys++[((Value.slice a1 x.1.length c1,Value.slice a2 x.2.length c2,cs):Y3)],∀ k,BlkY y k→k≠Lb:=fun y hy k hk=>by
    rcases List.mem_append.1 hy with hy | hy
    ·exact hy1 y hy k hk
    ·rw [List.mem_singleton.1 hy] at hk
     intro e
     exact (hO k ((hOb k).2 hk)).1 ((hC k).2 (Or.inl e))
   have hs6:=hg6.size
   have hv6l:∀ k,v6.ownBlock=some k→k < w6.heap.size:=fun k hk=>(hown6.lt k hk).2
   have FIN:RvBody (AllI (WyOk ds) w.heap.size Lb) (pre++[x]) C1 O W5 Wb (w6.setCell ⟨Lb,0,none⟩ v6):=by
    refine ⟨⟨hg6.os,hg6.tape,hg6.output,by simp at hs6 ⊢;omega,fun k hk hc=>?_⟩,fun k=>k=Lb∨v6.ownBlock=some k∨∃ y∈ys++[((Value.slice a1 x.1.length c1,Value.slice a2 x.2.length c2,cs):Y3)],BlkY y k,fun k hk=>?_,⟨⟨v6,_,fun k=>Iff.rfl,bx6.set v6,?_,hvL,hyL⟩,fun y hy=>?_⟩⟩
    ·rw [Below.heap_setCell _ _ _ _ (fun e=>hc.1 ((hC k).2 (Or.inl e))),hg6.block k (by simp;omega) (fun e=>hc.1 ((hC k).2 (Or.inr (Or.inl e.symm))))]
     exact (below1 Wb _).block k hk
    ·rcases hk with rfl | hk | ⟨y,hy,hk⟩
     ·exact Or.inl ((hC k).2 (Or.inl rfl))
     ·rcases hat6 with e1 | e1
      ·exact Or.inl ((hC k).2 (Or.inr (Or.inl (e1▸hk))))
      ·have h1:=hv6l k hk
       rw [e1] at hk
       have h2:=Option.some.inj hk
       exact Or.inr (Or.inr ⟨by omega,by simp;omega⟩)
     ·rcases List.mem_append.1 hy with hy | hy
      ·exact Or.inl ((hC k).2 (Or.inr (Or.inr ⟨y,hy,hk⟩)))
      ·rw [List.mem_singleton.1 hy] at hk
       exact Or.inr (Or.inl ((hOb k).2 hk))
    ·refine hwl6.fr (O:=fun k=>k≠Lb) ((Fr.refl _ w6).setCell _ (fun h=>h rfl)) (fun k hk e=>hvL (e▸hk)) hyL
    ·rcases List.mem_append.1 hy with hy | hy
     ·exact hok y hy
     ·rw [List.mem_singleton.1 hy];exact hqx
   obtain ⟨a6,c6,rfl⟩:=own_slx hown6
   clear hwl6 hown6 hg6 hat6 hwlb hxb hdis bx bxb bx6 hyL hvL
   gi_wp2_with fail
   exact FIN
  case done =>
   rintro C' W' hf' hb' ⟨⟨v,ys,hC,bx,hwl1,hv1,hy1⟩,hok⟩ hK
   have hNo:∀ k,C' k→k≠W4.heap.size:=fun k hk e=>by
    rcases hb' k hk with h | h
    ·omega
    ·omega
   have sW:=hf'.size
   have hwlF:WL (W'.putObj W4.heap.size (.deferred none)) w.heap.size v ys (M.ways ds):=hwl1.fr (O:=fun k=>C' k) ((Fr.refl _ W').putObj _ (fun h=>hNo _ h rfl)) (fun k hk=>(hC k).2 (Or.inr (Or.inl hk))) (fun y hy k hk=>(hC k).2 (Or.inr (Or.inr ⟨y,hy,hk⟩)))
   have bF:Below w.heap.size w (W'.putObj W4.heap.size (.deferred none)):=by
    refine ⟨hf'.os.trans bw4.os,hf'.tape.trans bw4.tape,hf'.output.trans bw4.output,by have:=bw4.size;simp;omega,fun k hk=>?_⟩
    have:=bw4.size
    rw [World.putObj_heap_other (by omega),hf'.same k (by omega) (by omega)]
    exact bw4.block k hk
   have bc:=bx.cell
   have lL:=bx.lt
   obtain ⟨av,cv,rfl⟩:=own_slx hwl1.own
   gi_wp2_with fail
   refine ⟨by simp,.inl ⟨_,_,rfl,run_takeDeferred hK,?_⟩⟩
   refine ⟨_,results_tmp rfl _ _ _,_,rfl,⟨ys,?_⟩,fun x hxm=>?_,bF⟩
   ·rw [HX.out];exact hwlF
   ·rw [HX.out] at hxm;rw [hds];exact hok x hxm
  case stop=>rintro c pre C' W' hp hf hc hfalse;exact hfalse.elim
end
section
open Go.RowKit
theorem M.all_same (ll:List (List M.D)):M.execAll ll=M.specAll ll:=by
 unfold M.execAll M.specAll
 rw [M.ways_eq (M.cop_deeds ll)]
theorem M.all_le {ll:List (List M.D)} (h:∀ x∈M.execAll ll,WyOk (M.deeds ll) x):∀ x∈M.execAll ll,WyLe x:=fun x hx=>by
 have ho:=h x hx
 have hp:M.prog ll=true:=by
  cases hp:M.prog ll
  ·simp [M.execAll,hp] at hx
  ·rfl
 have hb:=M.prog_le hp
 have hl:=M.deeds_len hb.1 hb.2
 exact ⟨by have:=ho.len;omega,by have:=ho.ord;omega,fun r hr=>by have:=ho.row_le r hr;omega⟩
theorem cellsY_get (ys:List Y3):∀ i (h:i < ys.length),(cellsY ys)[i * 2]?=some ys[i].1∧(cellsY ys)[i * 2+1]?=some ys[i].2.1:=by
 induction ys with
 | nil=>intro i h;exact absurd h (Nat.not_lt_zero _)
 | cons y ys ih =>
  intro i h
  have e:cellsY (y::ys)=y.1::y.2.1::cellsY ys:=by simp [cellsY]
  rw [e]
  cases i with
  | zero=>exact ⟨rfl,rfl⟩
  | succ i =>
   have:=ih i (by simpa using h)
   rw [show (i+1) * 2=(i * 2)+1+1 by omega]
   exact this
theorem WL.lw {W:World} {base:Nat} {v:Value} {ys:List Y3} {xs:List M.Wy} (h:WL W base v ys xs):∃ a g c,v=.slice a xs.length c∧LW W a g xs:=by
 obtain ⟨a,g,c,e1,e2,e3⟩:=own_two h.own
 refine ⟨a,g,c,e1,e2,fun i hi=>?_⟩
 have hi':i < ys.length:=by have:=h.len.out;omega
 obtain ⟨c1,c2⟩:=cellsY_get ys i hi'
 obtain ⟨fa,fb,fc,ra,rb,rc,f1,f2,f3,f4⟩:=(h.row i hi hi').lw
 exact ⟨fa,fb,fc,ra,rb,rc,by rw [← f1];exact e3 _ _ c1,by rw [← f2];exact e3 _ _ c2,f3,f4⟩
theorem XaAns.lw {w w':World} {ll:List (List M.D)} {v:Value} (h:XaAns w w' ll v):∃ a g c,v=.slice a (M.specAll ll).length c∧LW w' a g (M.specAll ll)∧(∀ x∈M.specAll ll,WyLe x)∧(M.specAll ll).length≤5489031744:=by
 obtain ⟨ys,hw⟩:=h.ex
 have hle:=M.all_le h.ok
 have hlen:(M.execAll ll).length≤5489031744:=by
  unfold M.execAll
  cases hp:M.prog ll
  ·simp
  ·simpa using M.ways_le hp
 rw [M.all_same] at hw hle hlen
 obtain ⟨a,g,c,e,hl⟩:=hw.lw
 exact ⟨a,g,c,e,hl,hle,hlen⟩
end
section
open Go.RowKit
namespace M
end M
structure SnBox (W:World) (X:Nat) (s:Sn) (w':World):Prop where
 bel:Below W.heap.size W w'
 s0:w'.cell? ⟨X,0,none⟩=some (.slice s.a1 s.l1.length s.c1)
 s1:w'.cell? ⟨X,1,none⟩=some (.slice s.a2 s.l2.length s.c2)
 at_:s.At w'
theorem IntS.farY {w:World} {a:Option Addr} {b o S i:Nat} {l:List Int} {u:Value} (h:IntS w a b o l) (hb:0 < l.length→b≠S):IntS (w.setCell ⟨S,i,none⟩ u) a b o l :=
 ⟨h.addr,fun j hj=>by rw [World.cell?_setCell_other _ _ _ _ (fun e=>hb (by omega) (congrArg Addr.block e).symm)];exact h.row j hj⟩
theorem snbox_stored (wo Wc:World) (t:Sn) (o:Obj) (bT:Below (wo.alloc o).heap.size (wo.alloc o) Wc) {u1 u2:Value} (k0:Wc.cell? ⟨wo.heap.size,0,none⟩=some u1) (k1:Wc.cell? ⟨wo.heap.size,1,none⟩=some u2) (hta:t.At Wc) (g1:(wo.alloc o).heap.size≤t.b1) (g2:(wo.alloc o).heap.size≤t.b2) :
  SnBox wo wo.heap.size t ((Wc.setCell ⟨wo.heap.size,0,none⟩ (.slice t.a1 t.l1.length t.c1)).setCell ⟨wo.heap.size,1,none⟩ (.slice t.a2 t.l2.length t.c2)):=by
 rw [World.size_alloc] at g1 g2
 have b0:Below wo.heap.size wo Wc:=(below1 wo o).trans (bT.mono (by simp))
 refine ⟨(b0.setCell (Nat.le_refl _) _).setCell (Nat.le_refl _) _,?_,?_,⟨(hta.reads.farY fun _=>by omega).farY fun _=>by omega,(hta.last.farY fun _=>by omega).farY fun _=>by omega⟩⟩
 ·rw [World.cell?_setCell_other _ _ _ _ (fun e=>by simp at e)]
  exact World.cell?_setCell_same _ _ _ k0
 ·exact World.cell?_setCell_same _ _ _ ((World.cell?_setCell_other _ _ _ _ (fun e=>by simp at e)).trans k1)
end
end Go.Proofs.YtegommoflmmahaaGreat
