/- What spec and impl tell of why, plainly: they are the same; who is told, and when. No condition. What both WhyExecs tell, read; the boxes of a law on why. No condition. One way marked, and whether the marks still stand: laws.markExec, heldExec. Of a way of at most 64 numbers a row. What is told of why, in rows of its own. -/
import Derived.Deep.OwnRows
import Derived.Test.YtegommoflmmahaaGreatRows
import Derived.Test.YtegommoflmmahaaGreatQuca
import Derived.Test.YtegommoflmmahaaGreatQucb
namespace Go.Proofs.YtegommoflmmahaaGreat
section
namespace M
theorem find_same {α:Type} {p q:α→Bool}:∀ {xs:List α},(∀ x∈xs,p x=q x)→xs.find? p=xs.find? q
 | [],_=>rfl
 | x::xs,h=>by
  rw [List.find?_cons,List.find?_cons,h x (by simp),find_same fun y hy=>h y (by simp [hy])]
theorem swhyGood_eq {ll:List (List D)} {t1 t2:List Int} {k:Int} {x:Wy} (h:execOk ll x.1 x.2=true):swhyGood ll t1 t2 k x=whyGood ll t1 t2 k x:=by
 unfold swhyGood whyGood
 simp [execSeen,h]
theorem swhy_same (ll:List (List D)) (t1 t2:List Int) (k:Int):swhyExec ll t1 t2 k=whyExec ll t1 t2 k:=by
 have hall:∀ x∈specAll ll,swhyGood ll t1 t2 k x=whyGood ll t1 t2 k x:=fun x hx=>swhyGood_eq (mem_execAll.1 hx)
 unfold swhyExec
 rw [find_same hall]
 unfold whyExec
 cases hg:((decide (1≤k)&&decide (k≤3))&&seenOk ll t1 t2)
 ·rw [if_neg (by simp)]
  rw [List.find?_eq_none]
  intro x hx hgood
  obtain ⟨h1,h2,h3⟩:=whyGood_mem hgood
  have hp:=holds_parts_of h1
  have hs:=all_seenOkW _ h3
  rw [hp.1,hs] at hg
  cases hg
 ·rw [if_pos rfl]
  have hp:=(seenOk_len (Bool.and_eq_true_iff.1 hg).2).1
  unfold specAll
  rw [if_pos hp,← ways_eq (cop_deeds ll)]
end M
end
section
open Go.RowKit
namespace M
theorem why_ok {ll:List (List D)} {t1 t2:List Int} {k:Int} {x:Wy} (h:whyExec ll t1 t2 k=some x):execOk ll x.1 x.2=true:=(holds_parts_of (whyGood_mem (whyExec_some h).2).1).2
theorem why_le {ll:List (List D)} {x:Wy} (ho:execOk ll x.1 x.2=true):WyLe x:=by
 have hW:=M.wok_of ho
 have hb:=M.prog_le hW.prog
 have hdl:=M.deeds_len hb.1 hb.2
 refine ⟨by have:=hW.len.out;omega,by have:=hW.three.out;omega,fun r hr=>?_⟩
 simp only [M.execOk,M.wayOk,Bool.and_eq_true] at ho
 exact M.row_len ho.2.2.1 hdl r hr
theorem why_getD_le {ll:List (List D)} {t1 t2:List Int} {k:Int}:WyLe ((whyExec ll t1 t2 k).getD ([],[])):=by
 cases h:whyExec ll t1 t2 k with
 | none=>exact ⟨by simp,by simp,fun r hr=>(by cases hr)⟩
 | some x=>exact why_le (why_ok h)
end M
structure WyR (w w':World) (r:Option M.Wy) (v:Value):Prop where
 ex:∃ fa fb fc ra rb rc,v=.tuple #[.agg #[.slice fa (r.getD ([],[])).1.length fc,.slice ra (r.getD ([],[])).2.length rc],.bool r.isSome]∧IntS w' fa fb 0 (r.getD ([],[])).1∧IntSS w' ra rb 0 (r.getD ([],[])).2
 bel:Below w.heap.size w w'
theorem wyr_none {w w':World} {v:Value} (e:v=.tuple #[.agg #[.slice none 0 0,.slice none 0 0],.bool false]) (hb:Below w.heap.size w w'):WyR w w' none v :=
 ⟨⟨none,0,0,none,0,0,e,⟨fun h=>absurd h (Nat.lt_irrefl _),fun _ hi=>absurd hi (Nat.not_lt_zero _)⟩,⟨fun h=>absurd h (Nat.lt_irrefl _),fun _ hi=>absurd hi (Nat.not_lt_zero _)⟩⟩,hb⟩
theorem WhyAns.r {w w':World} {r:Option M.Wy} {v:Value} (h:WhyAns w w' r v):WyR w w' r v:=by
 cases r with
 | none=>exact wyr_none (h.no rfl) h.bel
 | some x =>
  obtain ⟨fv,ov,cs,rfl,hx⟩:=h.yes x rfl
  obtain ⟨fa,fb,fc,ra,rb,rc,rfl,rfl,i1,i2⟩:=hx.lw
  exact ⟨⟨fa,fb,fc,ra,rb,rc,rfl,i1,i2⟩,h.bel⟩
theorem SWhyAns.r {w w':World} {r:Option M.Wy} {v:Value} (h:SWhyAns w w' r v):WyR w w' r v:=by
 cases r with
 | none=>exact wyr_none (h.no rfl) h.bel
 | some x =>
  obtain ⟨fa,fb,fc,ra,rb,rc,rfl,i1,i2⟩:=h.yes x rfl
  exact ⟨⟨fa,fb,fc,ra,rb,rc,rfl,i1,i2⟩,h.bel⟩
structure SlotV (w:World) (b:Nat) (x y:Value):Prop where
 blk:w.heap[b]?=some (.cells #[x,y] 33 (0,0))
theorem SlotV.lt {w:World} {b:Nat} {x y:Value} (h:SlotV w b x y):b < w.heap.size:=by
 have:=h.blk
 rw [Array.getElem?_eq_some_iff] at this
 exact this.1
theorem SlotV.c0 {w:World} {b:Nat} {x y:Value} (h:SlotV w b x y):w.cell? ⟨b,0,none⟩=some x:=by simp [World.cell?,h.blk]
theorem SlotV.c1 {w:World} {b:Nat} {x y:Value} (h:SlotV w b x y):w.cell? ⟨b,1,none⟩=some y:=by simp [World.cell?,h.blk]
theorem SlotV.fz {w:World} {b:Nat} {x y:Value} (h:SlotV w b x y) (i:Nat):w.frozen? ⟨b,i,none⟩=false:=by simp [World.frozen?,h.blk]
theorem SlotV.of {w w':World} {b:Nat} {x y:Value} (h:SlotV w b x y) (hb:w'.heap[b]?=w.heap[b]?):SlotV w' b x y:=⟨hb.trans h.blk⟩
theorem SlotV.bel {w w':World} {b:Nat} {x y:Value} (h:SlotV w b x y) (hb:Below w.heap.size w w'):SlotV w' b x y:=h.of (hb.block b h.lt)
theorem SlotV.set0 {w:World} {b:Nat} {x y:Value} (h:SlotV w b x y) (u:Value):SlotV (w.setCell ⟨b,0,none⟩ u) b u y:=⟨heap_setCell_same w b 0 #[x,y] _ u h.blk⟩
theorem SlotV.set1 {w:World} {b:Nat} {x y:Value} (h:SlotV w b x y) (u:Value):SlotV (w.setCell ⟨b,1,none⟩ u) b x u:=⟨heap_setCell_same w b 1 #[x,y] _ u h.blk⟩
structure BxWy (W:World) (X:Nat) (fa:Option Addr) (fb fc:Nat) (ra:Option Addr) (rb rc:Nat) (x:M.Wy):Prop where
 xb:SlotV W X (.slice fa x.1.length fc) (.slice ra x.2.length rc)
 f:IntS W fa fb 0 x.1
 o:IntSS W ra rb 0 x.2
theorem BxWy.below {W W':World} {X:Nat} {fa:Option Addr} {fb fc:Nat} {ra:Option Addr} {rb rc:Nat} {x:M.Wy} (h:BxWy W X fa fb fc ra rb rc x) (hb:Below W.heap.size W W'):BxWy W' X fa fb fc ra rb rc x :=
 ⟨h.xb.bel hb,h.f.below hb (Nat.le_refl _),h.o.below hb (Nat.le_refl _)⟩
theorem BxWy.new {W:World} {fa:Option Addr} {fb fc:Nat} {ra:Option Addr} {rb rc:Nat} {x:M.Wy} (h1:IntS W fa fb 0 x.1) (h2:IntSS W ra rb 0 x.2):BxWy (W.alloc (.cells #[.slice fa x.1.length fc,.slice ra x.2.length rc] 33)) W.heap.size fa fb fc ra rb rc x :=
 ⟨⟨heap_alloc_new W _⟩,h1.below (below1 W _) (Nat.le_refl _),h2.below (below1 W _) (Nat.le_refl _)⟩
end
section
open Go.RowKit
theorem M.row_len64 {ds:List M.De} {rows:List (List Int)} (h:M.orderOk ds rows=true) (hd:ds.length≤42):∀ r∈rows,r.length≤64:=by
 have key:∀ (rows:List (List Int)) (p:Nat),M.orderAt ds p rows=true→∀ r∈rows,r.length≤ds.length:=by
  intro rows
  induction rows with
  | nil=>intro p _ r hr;cases hr
  | cons x rows ih =>
   intro p h r hr
   simp only [M.orderAt,M.isRow,Bool.and_eq_true,decide_eq_true_eq] at h
   rcases List.mem_cons.1 hr with rfl | hr
   ·have:=M.wrs_len p ds 0;omega
   ·exact ih _ h.2 r hr
 simp only [M.orderOk,Bool.and_eq_true] at h
 intro r hr
 have:=key rows 0 h.2 r hr
 omega
theorem M.why_sm {ll:List (List M.D)} {x:M.Wy} (ho:M.execOk ll x.1 x.2=true):WySm x:=by
 have hW:=M.wok_of ho
 have hb:=M.prog_le hW.prog
 have hdl:=M.deeds_len hb.1 hb.2
 refine ⟨by have:=hW.len.out;omega,by have:=hW.three.out;omega,fun r hr=>?_⟩
 simp only [M.execOk,M.wayOk,Bool.and_eq_true] at ho
 exact M.row_len64 ho.2.2.1 hdl r hr
theorem M.why_getD_sm {ll:List (List M.D)} {t1 t2:List Int} {k:Int}:WySm ((M.whyExec ll t1 t2 k).getD ([],[])):=by
 cases h:M.whyExec ll t1 t2 k with
 | none=>exact ⟨by simp,by simp,fun r hr=>(by cases hr)⟩
 | some x=>exact M.why_sm (M.why_ok h)
structure WyG (w w':World) (r:Option M.Wy) (v:Value):Prop where
 ex:∃ fv ov cs,v=.tuple #[.agg #[fv,ov],.bool r.isSome]∧Xw w' w.heap.size fv ov (r.getD ([],[])).1 cs (r.getD ([],[])).2
 bel:Below w.heap.size w w'
theorem WhyAns.g {w w':World} {r:Option M.Wy} {v:Value} (h:WhyAns w w' r v):WyG w w' r v:=by
 cases r with
 | none=>exact ⟨⟨.slice none 0 0,.slice none 0 0,[],h.no rfl,⟨World.ownsRow_nil _ _ _ _,World.ownsRow_nil _ _ _ _,fun i hi=>absurd hi (Nat.not_lt_zero _),fun u hu=>(by cases hu),fun i j u u' _ h=>(by cases h)⟩⟩,h.bel⟩
 | some x =>
  obtain ⟨fv,ov,cs,rfl,hx⟩:=h.yes x rfl
  exact ⟨⟨fv,ov,cs,rfl,hx⟩,h.bel⟩
theorem Xw.ycs {W:World} {B:Nat} {fv ov:Value} {l:List Int} {cs:List Value} {rows:List (List Int)} (h:Xw W B fv ov l cs rows):YC W (fv,ov,cs) (l,rows)∧YS (fv,ov,cs):=by
 have rl:cs.length=rows.length:=by have:=h.ord.1;omega
 refine ⟨⟨.of_own h.from_,?_,fun j hj=>?_⟩,⟨fun u hu=>?_,h.each⟩⟩
 ·rcases h.ord.2 with ⟨hv,hn⟩ | ⟨g',cap,cur,hv,hg,hh,r⟩
  ·have hc0:cs=[]:=List.length_eq_zero_iff.1 (by rw [rl,hn])
   exact ⟨none,0,0,by show ov=_;rw [hv,hn],fun h=>absurd h (by show ¬ 0 < rows.length;omega),fun j u hj=>by simp only at hj;rw [hc0] at hj;simp at hj⟩
  ·refine ⟨_,g',cap,hv,fun _=>rfl,fun j u hj=>?_⟩
   have:=h.ord.cells (g:=g') (by rw [hv];rfl) j u hj
   rwa [Go.WideShapes.add_plain,Nat.zero_add] at this
 ·obtain ⟨u,f1,f2,_⟩:=h.row j hj
  exact ⟨u,f1,.of_own f2⟩
 ·obtain ⟨j,hj,e⟩:=List.mem_iff_getElem.1 hu
  simp only at hj e
  obtain ⟨u',f1,_,_,f4⟩:=h.row j (by omega)
  rw [List.getElem?_eq_getElem hj,e] at f1
  rw [Option.some.inj f1]
  exact f4
theorem Xw.mkFar {P:Nat→Prop} {W W':World} {B:Nat} {fv ov:Value} {l:List Int} {cs:List Value} {rows:List (List Int)} (h:Xw W B fv ov l cs rows) (hm:Mk P W W') (hP:∀ j,P j→j < B):Xw W' B fv ov l cs rows :=
 h.fr (O:=fun k=>B≤k) ⟨hm.os,hm.tape,hm.output,by rw [hm.size];exact Nat.le_refl _,fun k _ hk=>hm.block k (fun hp=>by have:=hP k hp;omega)⟩ (fun k hk=>(h.blk_lt hk).1)
theorem Xw.bel {W W':World} {B:Nat} {fv ov:Value} {l:List Int} {cs:List Value} {rows:List (List Int)} (h:Xw W B fv ov l cs rows) (hb:Below W.heap.size W W'):Xw W' B fv ov l cs rows :=
 h.fr (O:=fun k=>k < W.heap.size) ⟨hb.os,hb.tape,hb.output,hb.size,fun _ hk _=>hb.block _ hk⟩ (fun _ hk=>(h.blk_lt hk).2)
structure YMo (w:World) (fv ov:Value) (cs:List Value) (x:M.Wy) (k:Int):Prop where
 m:YM w (fv,ov,cs) x k
 ord:∃ a g c,ov=.slice a x.2.length c∧YO w a g x.2.length cs
theorem YMo.below {w w':World} {fv ov:Value} {cs:List Value} {x:M.Wy} {k:Int} (h:YMo w fv ov cs x k) (hb:Below w.heap.size w w'):YMo w' fv ov cs x k:=by
 obtain ⟨a,g,c,e,ho⟩:=h.ord
 exact ⟨h.m.below hb,a,g,c,e,ho.addr,fun j u hj=>(hb.cell (p:=⟨g,j,none⟩) (World.block_lt_of_cell? _ _ (ho.cell j u hj))).trans (ho.cell j u hj)⟩
set_option maxHeartbeats 2000000 in
set_option maxRecDepth 100000 in
theorem markWy_any (fv ov:Value) (cs:List Value) (l:List Int) (rows:List (List Int)) (w:World) (hsm:WySm (l,rows)) (h:YC w (fv,ov,cs) (l,rows)) (hs:YS (fv,ov,cs)) (hl:cs.length=rows.length) :
  Calls Tryz.prog 34 #[.agg #[fv,ov],.int .i64 1] w fun e w'=>∃ wa:World,wa=w.alloc (.cells #[fv,ov] 33)∧e=.returned (.int .i64 (1+l.length+M.sumR rows))∧YMo w' fv ov cs (l,rows) 1∧Mk (BlkY (fv,ov,cs)) wa w':=by
 have hb1:=below1 w (.cells #[fv,ov] 33)
 obtain ⟨oa,og,oc,e2,ho⟩:=h.ord
 have e2':ov=.slice oa rows.length oc:=e2
 subst e2'
 obtain ⟨fa,fb,fc,e1,hfc,hfo⟩:=h.from_.ex
 have e1':fv=.slice fa l.length fc:=e1
 subst e1'
 have hxa:l.length≤64:=hsm.a
 have hsr:=M.sumR_le hsm.c
 have hsb:rows.length≤64:=hsm.b
 have hF:VC (w.alloc (.cells #[.slice fa l.length fc,.slice oa rows.length oc] 33)) (.slice fa l.length fc) l.length:=⟨fa,fb,fc,rfl,hfc.below hb1,hfo⟩
 have C:=markV_any (.slice fa l.length fc) l.length 1 _ hxa (by omega) (by omega) hF
 have k0:(w.alloc (.cells #[.slice fa l.length fc,.slice oa rows.length oc] 33)).cell? ⟨w.heap.size,0,none⟩=some (.slice fa l.length fc):=by simp
 have k1:(w.alloc (.cells #[.slice fa l.length fc,.slice oa rows.length oc] 33)).cell? ⟨w.heap.size,1,none⟩=some (.slice oa rows.length oc):=by simp
 obtain ⟨wa,hwa⟩:∃ wa,w.alloc (.cells #[.slice fa l.length fc,.slice oa rows.length oc] 33)=wa:=⟨_,rfl⟩
 have hcA:∀ j u,cs[j]?=some u→wa.cell? ⟨og,j,none⟩=some u:=fun j u hj=>by
  have h0:w.cell? ⟨og,j,none⟩=some u:=ho.cell j u hj
  rw [← hwa];exact (hb1.cell (p:=⟨og,j,none⟩) (World.block_lt_of_cell? _ _ h0)).trans h0
 have hrA:∀ j (h':j < rows.length),∃ u,cs[j]?=some u∧VC wa u rows[j].length:=fun j hj=>by
  obtain ⟨u,f1,f2⟩:=h.row j hj
  obtain ⟨a,b,c,e,hc,hob⟩:=f2.ex
  exact ⟨u,f1,a,b,c,e,by rw [← hwa];exact hc.below hb1,hob⟩
 rw [hwa] at C k0 k1 hF
 go_enter Tryz.func34,Tryz.ntmps34
 go_wp2_with fail
 refine C.mono ?_
 rintro e w1 ⟨rfl,hv1,mk1⟩
 have k1':=mk1.rest _ _ k1 (fun _ e=>by cases e)
 have ho1:YO w1 oa og rows.length cs:=⟨ho.addr,fun j u hj=>by
  obtain ⟨hi,_⟩:=List.getElem?_eq_some_iff.1 hj
  obtain ⟨u',f1,f2⟩:=hrA j (by omega)
  rw [hj] at f1
  have e:=Option.some.inj f1
  exact mk1.rest _ _ (hcA j u hj) (by rw [e];exact f2.sl)⟩
 have C2:=markRows_any oa og oc cs rows (1+l.length) w1 (by omega) (by omega) hsm.b hsm.c ho1 (fun j hj=>by
  obtain ⟨u,f1,f2⟩:=hrA j hj
  exact ⟨u,f1,f2.mk_ mk1⟩) hs.each
 clear C k0 k1
 go_wp2_with fail
 refine C2.mono ?_
 rintro e w2 ⟨rfl,hr2,mk2⟩
 go_wp2_with fail
 go_ret
 refine ⟨wa,hwa.symm,rfl,⟨⟨hv1.mk_ mk2 (fun j hj ⟨u,hu,hj'⟩=>hs.off u hu j hj' hj),hr2⟩,oa,og,oc,rfl,ho1.addr,fun j u hj=>?_⟩,(mk1.mono fun j hj=>Or.inl hj).trans (mk2.mono fun j ⟨u,hu,hj⟩=>Or.inr (Or.inr ⟨u,hu,hj⟩))⟩
 obtain ⟨hi,_⟩:=List.getElem?_eq_some_iff.1 hj
 obtain ⟨u',f1,f2⟩:=hrA j (by omega)
 rw [hj] at f1
 have e:=Option.some.inj f1
 exact mk2.rest _ _ (ho1.cell j u hj) (by rw [e];exact f2.sl)
set_option maxHeartbeats 2000000 in
set_option maxRecDepth 100000 in
theorem heldWy_any (fv ov:Value) (cs:List Value) (l:List Int) (rows:List (List Int)) (w:World) (hsm:WySm (l,rows)) (h:YMo w fv ov cs (l,rows) 1) :
  Calls Tryz.prog 35 #[.agg #[fv,ov],.int .i64 1] w fun e w'=>e=.returned (.int .i64 (1+l.length+M.sumR rows))∧w'=w.alloc (.cells #[fv,ov] 33):=by
 have hb1:=below1 w (.cells #[fv,ov] 33)
 obtain ⟨oa,og,oc,e2,ho⟩:=(h.below hb1).ord
 have e2':ov=.slice oa rows.length oc:=e2
 subst e2'
 obtain ⟨fa,fb,fc,e1,_,_⟩:=h.m.from_.ex
 have e1':fv=.slice fa l.length fc:=e1
 subst e1'
 have hxa:l.length≤64:=hsm.a
 have hsr:=M.sumR_le hsm.c
 have hsb:rows.length≤64:=hsm.b
 have hm1:=(h.below hb1).m
 have C:=heldV_any (.slice fa l.length fc) l.length 1 _ hxa (by omega) (by omega) hm1.from_
 have C2:=heldRows_any oa og oc cs rows (1+l.length) _ (by omega) (by omega) hsm.b hsm.c ho hm1.row
 have k0:(w.alloc (.cells #[.slice fa l.length fc,.slice oa rows.length oc] 33)).cell? ⟨w.heap.size,0,none⟩=some (.slice fa l.length fc):=by simp
 have k1:(w.alloc (.cells #[.slice fa l.length fc,.slice oa rows.length oc] 33)).cell? ⟨w.heap.size,1,none⟩=some (.slice oa rows.length oc):=by simp
 have i2:¬ (1:Int)+(l.length:Int) < 0:=by omega
 have i3:¬ (1:Int)+(l.length:Int)+(M.sumR rows:Int) < 0:=by omega
 obtain ⟨wa,hwa⟩:∃ wa,w.alloc (.cells #[.slice fa l.length fc,.slice oa rows.length oc] 33)=wa:=⟨_,rfl⟩
 rw [hwa] at C C2 k0 k1
 go_enter Tryz.func35,Tryz.ntmps35
 go_wp2_with fail
 refine C.mono ?_
 rintro e w1 ⟨rfl,rfl⟩
 clear C
 go_wp2_with fail
 refine C2.mono ?_
 rintro e w2 ⟨rfl,rfl⟩
 clear C2
 go_wp2_with fail
 go_ret
 exact ⟨rfl,hwa.symm⟩
end
end Go.Proofs.YtegommoflmmahaaGreat
