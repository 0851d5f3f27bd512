/- spec.WhyExec: the first way in which something is seen, by an order. Of at most 1048576 threads and steps, of as many numbers. -/
import Derived.Deep.OwnRows
import Derived.Test.YtegommoflmmahaaGreatRows
import Derived.Test.YtegommoflmmahaaGreatQwbx
namespace Go.Proofs.YtegommoflmmahaaGreat
section
open Go.RowKit Go.Shelf
namespace M
def swhyGood (ll:List (List D)) (t1 t2:List Int) (k:Int) (x:Wy):Bool:=(cmpS (execSeen ll x.1 x.2).1 (execSeen ll x.1 x.2).2 t1 t2==0)&&orderHolds ll x.1 x.2 k
def swhyExec (ll:List (List D)) (t1 t2:List Int) (k:Int):Option Wy:=(specAll ll).find? (swhyGood ll t1 t2 k)
theorem find_take_no {α:Type} {p:α→Bool} {xs:List α} {n:Nat} (hn:n < xs.length) (h:(xs.take n).find? p=none) (hx:p xs[n]=false):(xs.take (n+1)).find? p=none:=by
 rw [List.take_succ_eq_append_getElem hn];exact find_no h hx
theorem find_take_yes {α:Type} {p:α→Bool} {xs:List α} {n:Nat} (hn:n < xs.length) (h:(xs.take n).find? p=none) (hx:p xs[n]=true):xs.find? p=some xs[n]:=by
 have h1:(xs.take (n+1)).find? p=some xs[n]:=by rw [List.take_succ_eq_append_getElem hn];exact find_yes h hx
 exact find_pre (List.take_prefix _ _) h1
theorem execSeen_le {ll:List (List D)} {x:Wy} (h:execOk ll x.1 x.2=true):(execSeen ll x.1 x.2).1.length≤1048576∧(execSeen ll x.1 x.2).2.length≤1048576:=by
 have hW:=wok_of h
 have hb:=prog_le hW.prog
 have hdl:=deeds_len hb.1 hb.2
 have h1:=seenR_len (deeds ll) x.1
 have h3:=hW.three.out
 unfold execSeen
 rw [h]
 exact ⟨by show (seenR _ _).length≤_;omega,by show (seenL _ _ _).length≤_;rw [seenL,List.length_map];omega⟩
end M
theorem SxaAns.lwx {w w':World} {ll:List (List M.D)} {v:Value} (h:SxaAns w w' ll v):∃ a g c,v=.slice a (M.specAll ll).length c∧(0 < (M.specAll ll).length→a=some ⟨g,0,none⟩)∧∀ i (h:i < (M.specAll ll).length),∃ fv ov rcs,w'.cell? ⟨g,i * 2,none⟩=some fv∧w'.cell? ⟨g,i * 2+1,none⟩=some ov∧Xw w' w.heap.size fv ov (M.specAll ll)[i].1 rcs (M.specAll ll)[i].2:=by
 obtain ⟨cs,n,hw,_⟩:=h.ex
 obtain ⟨a,g,c,e1,e2,e3⟩:=own_two hw.own
 have hl:=hw.len.out
 rw [← hl] at e1 e2
 refine ⟨a,g,c,e1,e2,fun i hi=>?_⟩
 obtain ⟨fv,ov,rc0,c1,c2,hx,_⟩:=hw.row i hi
 exact ⟨fv,ov,rc0,e3 _ _ c1,e3 _ _ c2,hx⟩
theorem three_made (w:World) (A B C:Obj):(((w.alloc A).alloc B).alloc C).heap.size=w.heap.size+3∧(((w.alloc A).alloc B).alloc C).heap[w.heap.size]?=some A∧(((w.alloc A).alloc B).alloc C).heap[w.heap.size+1]?=some B∧(((w.alloc A).alloc B).alloc C).heap[w.heap.size+2]?=some C:=by
 obtain ⟨_,_,h1,h2,h3,_,_⟩:=five w A B C C C
 obtain ⟨W3,h⟩:∃ W3,((w.alloc A).alloc B).alloc C=W3:=⟨_,rfl⟩
 have n3:W3.heap.size=w.heap.size+3:=by rw [← h];simp
 rw [h] at h1 h2 h3 ⊢
 have b:=below2 W3 C C
 exact ⟨n3,(b.block _ (by omega)).symm.trans h1,(b.block _ (by omega)).symm.trans h2,(b.block _ (by omega)).symm.trans h3⟩
structure SWhyAns (w w':World) (r:Option M.Wy) (v:Value):Prop where
 no:r=none→v=.tuple #[.agg #[.slice none 0 0,.slice none 0 0],.bool false]
 yes:∀ x,r=some x→∃ fa fb fc ra rb rc,v=.tuple #[.agg #[.slice fa x.1.length fc,.slice ra x.2.length rc],.bool true]∧IntS w' fa fb 0 x.1∧IntSS w' ra rb 0 x.2
 bel:Below w.heap.size w w'
theorem swy_results {fn:Func} (h:fn.results=#[.cell 6 33,.tmp 7]) (tmps:Array Value) (w:World) (Rb:Nat) (fv ov tv:Value) (h6:tmps.getD 6 undef=.pointer (some ⟨Rb,0,none⟩)) (h7:tmps.getD 7 undef=tv)
  (c0:w.cell? ⟨Rb,0,none⟩=some fv) (c1:w.cell? ⟨Rb,1,none⟩=some ov) :
  (results fn tmps).run Tryz.prog w=.ok (.tuple #[.agg #[fv,ov],tv]) w:=by
 have hl:(loadVar 33 ⟨Rb,0,none⟩).run Tryz.prog w=.ok (.agg #[fv,ov]) w:=by
  refine run_loadVar_mid w Rb 0 33 [fv,ov] _ (fun j v hv=>?_) Tryz.underlying33 rfl Tryz.szExW
  match j,hv with
  | 0,hv=>simp at hv;subst hv;exact c0
  | 1,hv=>simp at hv;subst hv;exact c1
  | j+2,hv=>simp at hv
 have h6':tmps[6]?.getD undef=.pointer (some ⟨Rb,0,none⟩):=by simpa using h6
 have h7':tmps[7]?.getD undef=tv:=by simpa using h7
 simp [results,h,h6',h7',asAddr,hl]
set_option maxHeartbeats 4000000 in
set_option maxRecDepth 100000 in
set_option linter.unusedSimpArgs false in
theorem swhyExec_any (a:Option Addr) (b o c:Nat) (ll:List (List M.D)) (t:Sn) (kind:Int) (w:World) (hl:ll.length≤1048576) (hls:∀ t∈ll,t.length≤1048576) (ht:t.Le 1048576) (h:DoSS w a b o ll) (hta:t.At w) :
  Calls Tryz.prog 11 #[.agg #[.slice a ll.length c],.agg #[.slice t.a1 t.l1.length t.c1,.slice t.a2 t.l2.length t.c2],.int .i64 kind] w fun e w'=>∃ v,e=.returned v∧SWhyAns w w' (M.swhyExec ll t.l1 t.l2 kind) v:=by
 have hle:∀ x∈M.specAll ll,WyLe x:=fun x hx=>by
  have ho:=M.mem_execAll.1 hx
  have hW:=M.wok_of ho
  have hb:=M.prog_le hW.prog
  have hdl:=M.deeds_len hb.1 hb.2
  refine ⟨by have:=hW.len.out;omega,by have:=hW.three.out;omega,fun r hr=>?_⟩
  simp only [M.execOk,M.wayOk,Bool.and_eq_true] at ho
  exact M.row_len ho.2.2.1 hdl r hr
 have hxl:(M.specAll ll).length≤117649:=by
  unfold M.specAll
  cases hp:M.prog ll
  ·simp
  ·rw [if_pos rfl,← M.ways_eq (M.cop_deeds ll)]
   exact M.ways_le2 hp
 have b1:=below3 w (.cells #[.slice a ll.length c] 25) (.cells #[.slice t.a1 t.l1.length t.c1,.slice t.a2 t.l2.length t.c2] 28) (.cells #[.slice none 0 0,.slice none 0 0] 33)
 obtain ⟨W0,hW0⟩:∃ W0,((w.alloc (.cells #[.slice a ll.length c] 25)).alloc (.cells #[.slice t.a1 t.l1.length t.c1,.slice t.a2 t.l2.length t.c2] 28)).alloc (.cells #[.slice none 0 0,.slice none 0 0] 33)=W0:=⟨_,rfl⟩
 have hF5:=three_made w (.cells #[.slice a ll.length c] 25) (.cells #[.slice t.a1 t.l1.length t.c1,.slice t.a2 t.l2.length t.c2] 28) (.cells #[.slice none 0 0,.slice none 0 0] 33)
 rw [hW0] at hF5 b1
 obtain ⟨sz1,hP0,hS0,hR0⟩:=hF5
 have k1:W0.cell? ⟨w.heap.size,0,none⟩=some (.slice a ll.length c):=(cellsOf hP0 0).trans rfl
 have CX:=sexecAllW_any a b o c ll W0 hl hls (h.below b1 (Nat.le_refl _))
 go_enter Tryz.func11,Tryz.ntmps11
 go_wp2_with fail
 refine CX.mono ?_
 rintro e W1 ⟨v,rfl,hA⟩
 obtain ⟨la,lg,lc,rfl,hadr,hLW⟩:=hA.lwx
 have b2:=hA.bel
 have bw1:=b1.trans (b2.mono b1.size)
 have hP1:=(b2.block _ (by omega)).trans hP0
 have hS1:=(b2.block _ (by omega)).trans hS0
 have hR1:=(b2.block _ (by omega)).trans hR0
 have hp1:=h.below bw1 (Nat.le_refl _)
 have ht1:=hta.below bw1 (Nat.le_refl _)
 have hs1:=b2.size
 obtain ⟨xs,hxs⟩:∃ xs,M.specAll ll=xs:=⟨_,rfl⟩
 have HXS:Hid (M.swhyExec ll t.l1 t.l2 kind=xs.find? (M.swhyGood ll t.l1 t.l2 kind)):=by show _=_;unfold M.swhyExec;rw [hxs]
 have HOK:Hid (∀ x∈xs,M.execOk ll x.1 x.2=true):=by show _;rw [← hxs];exact fun x hx=>M.mem_execAll.1 hx
 rw [hxs] at hle hxl hadr hLW ⊢
 clear CX hA hP0 hS0 hR0 k1 b2 hW0 hxs b1
 go_wp2_with fail
 go_loopw [9] (fun s9 wr=>∃ n:Nat,s9=.int .i64 n∧n≤xs.length∧Hid ((xs.take n).find? (M.swhyGood ll t.l1 t.l2 kind)=none)∧Below W1.heap.size W1 wr) (fun s9 _=>xs.length - (intOf s9).toNat)
 case atStart=>exact ⟨0,rfl,Nat.zero_le _,rfl,Below.refl _ _⟩
 case round =>
  obtain ⟨n,rfl,hn,HN,hb⟩:=hrel
  by_cases hlt:n < xs.length
  ·have i1:(n:Int) < xs.length:=by omega
   obtain ⟨rfl⟩:=hadr (by omega)
   obtain ⟨fv,ov,rcs,f1,f2,hxw⟩:=hLW n hlt
   obtain ⟨fa,fb,fc,ra,rb,rc,rfl,rfl,hF,hR⟩:=hxw.reads
   have hxo:=HOK.out _ (List.getElem_mem hlt)
   have hxl':=hle _ (List.getElem_mem hlt)
   have HNO:Hid (M.swhyGood ll t.l1 t.l2 kind xs[n]=false→(xs.take (n+1)).find? (M.swhyGood ll t.l1 t.l2 kind)=none):=fun hg=>M.find_take_no hlt HN.out hg
   have HYE:Hid (M.swhyGood ll t.l1 t.l2 kind xs[n]=true→xs.find? (M.swhyGood ll t.l1 t.l2 kind)=some xs[n]):=fun hg=>M.find_take_yes hlt HN.out hg
   obtain ⟨x,hx⟩:∃ x,xs[n]=x:=⟨_,rfl⟩
   rw [hx] at f1 f2 hF hR hxo hxl' HNO HYE hxw
   clear hx HN
   have q1:=cellC hb f1
   have q2:=cellC hb f2
   have fP:∀ w',Below wr.heap.size wr w'→w'.cell? ⟨w.heap.size,0,none⟩=some (.slice a ll.length c):=fun w' h=>(cellsOf ((hb.trans (h.mono hb.size)).block _ (by omega) |>.trans hP1) 0).trans rfl
   have fT0:∀ w',Below wr.heap.size wr w'→w'.cell? ⟨w.heap.size+1,0,none⟩=some (.slice t.a1 t.l1.length t.c1):=fun w' h=>(cellsOf ((hb.trans (h.mono hb.size)).block _ (by omega) |>.trans hS1) 0).trans rfl
   have fT1:∀ w',Below wr.heap.size wr w'→w'.cell? ⟨w.heap.size+1,1,none⟩=some (.slice t.a2 t.l2.length t.c2):=fun w' h=>(cellsOf ((hb.trans (h.mono hb.size)).block _ (by omega) |>.trans hS1) 1).trans rfl
   have fX0:∀ w',Below wr.heap.size wr w'→w'.cell? ⟨lg,n * 2,none⟩=some (.slice fa x.1.length fc):=fun w' h=>cellC h q1
   have fX1:∀ w',Below wr.heap.size wr w'→w'.cell? ⟨lg,n * 2+1,none⟩=some (.slice ra x.2.length rc):=fun w' h=>cellC h q2
   have fR:∀ w',Below wr.heap.size wr w'→w'.heap[w.heap.size+2]?=some (.cells #[.slice none 0 0,.slice none 0 0] 33 (0,0)):=fun w' h=>((hb.trans (h.mono hb.size)).block _ (by omega)).trans hR1
   have CSx:∀ w',Below wr.heap.size wr w'→_:=fun w' h=>sexecSeen_any a b o c ll fa fb 0 fc x.1 ra rb 0 rc x.2 w' hl hls hxl'.a hxl'.c (hp1.below (hb.trans (h.mono hb.size)) (Nat.le_refl _)) (hF.below (hb.trans (h.mono hb.size)) (Nat.le_refl _)) (hR.below (hb.trans (h.mono hb.size)) (Nat.le_refl _))
   have CHo:∀ w',Below wr.heap.size wr w'→_:=fun w' h=>sorderHolds_any a b o c ll fa fb 0 fc x.1 ra rb 0 rc x.2 kind w' hl hls hxl'.a hxl'.c (hp1.below (hb.trans (h.mono hb.size)) (Nat.le_refl _)) (hF.below (hb.trans (h.mono hb.size)) (Nat.le_refl _)) (hR.below (hb.trans (h.mono hb.size)) (Nat.le_refl _))
   have hsle:(M.execSeen ll x.1 x.2).1.length≤1048576∧(M.execSeen ll x.1 x.2).2.length≤1048576:=M.execSeen_le hxo
   have HSO:Hid (M.swhyGood ll t.l1 t.l2 kind x=true→M.swhyExec ll t.l1 t.l2 kind=some x):=fun hg=>HXS.out.trans (HYE.out hg)
   have FIY:∀ w',Below wr.heap.size wr w'→M.swhyGood ll t.l1 t.l2 kind x=true→SWhyAns w ((w'.setCell ⟨w.heap.size+2,0,none⟩ (.slice fa x.1.length fc)).setCell ⟨w.heap.size+2,1,none⟩ (.slice ra x.2.length rc)) (M.swhyExec ll t.l1 t.l2 kind) (.tuple #[.agg #[.slice fa x.1.length fc,.slice ra x.2.length rc],.bool true]):=fun w' h hg=>by
    have hb':=hb.trans (h.mono hb.size)
    have hsx:=HSO.out hg
    have hxz:=(hxw.below hb').fr (O:=fun k=>k≠w.heap.size+2) (((Fr.refl _ w').setCell (p:=⟨w.heap.size+2,0,none⟩) (.slice fa x.1.length fc) (fun h=>h rfl)).setCell (p:=⟨w.heap.size+2,1,none⟩) (.slice ra x.2.length rc) (fun h=>h rfl)) (fun k hk=>by have:=(hxw.blk_lt hk).1;omega)
    obtain ⟨y1,y2,y3,y4,y5,y6,e1,e2,hF',hR'⟩:=hxz.reads
    simp only [Value.slice.injEq] at e1 e2
    obtain ⟨rfl,_,rfl⟩:=e1
    obtain ⟨rfl,_,rfl⟩:=e2
    refine ⟨fun h0=>(by rw [hsx] at h0;cases h0),fun y hy=>?_,((bw1.trans (hb'.mono bw1.size)).setCell (by show w.heap.size≤w.heap.size+2;omega) _).setCell (by show w.heap.size≤w.heap.size+2;omega) _⟩
    rw [hsx] at hy
    obtain rfl:=Option.some.inj hy
    exact ⟨_,_,_,_,_,_,rfl,hF',hR'⟩
   clear HSO
   have wlt:=hb.size
   go_wp2_with fail
   refine wp_region_held_drew (S:=fun w'=>Below wr.heap.size wr w') (by kernel_rfl) (Below.refl _ _).drew (fun hH=>?_)
   generalize wr.drew=Wd at hH ⊢
   refine tk 0 21 (.agg #[.slice a ll.length c]) hH rfl rfl (by intro w' hSw;have hc0:=fP w' hSw;go_simp) ?_
   simp only [Act.put,q1,q2,q3]
   refine tk 1 22 (.slice (some ⟨lg,0,none⟩) xs.length lc) hH rfl rfl (by intro w' hSw;go_simp) ?_
   simp only [Act.put,q1,q2,q3]
   refine tk 2 23 (.int .i64 n) hH rfl rfl (by intro w' hSw;go_simp) ?_
   simp only [Act.put,q1,q2,q3]
   refine tk 3 24 (.pointer (some ⟨lg,n * 2,none⟩)) hH rfl rfl (by intro w' hSw;go_simp) ?_
   simp only [Act.put,q1,q2,q3]
   refine tk 4 25 (.agg #[.slice fa x.1.length fc,.slice ra x.2.length rc]) hH rfl rfl (by intro w' hSw;have hc0:=fX0 w' hSw;have hc1:=fX1 w' hSw;go_simp) ?_
   simp only [Act.put,q1,q2,q3]
   refine wpAnyH_ready (rs:=[5,9]) (by kernel_rfl) (by simp) ?_
   refine AllReadyH.cons rfl (fun K' hK=>?_) (AllReadyH.cons rfl (fun K' hK=>?_) AllReadyH.nil)
   ·refine sg 26 rfl 40 #[.tmp 21,.tmp 25] rfl #[.agg #[.slice a ll.length c],.agg #[.slice fa x.1.length fc,.slice ra x.2.length rc]] (enters_of Tryz.func40 (by kernel_rfl) rfl) (CSx _ hH) ?_
    rintro e Wa ⟨s,rfl,hs1,hs2,hsA,hsb1,hsb2,ba⟩
    have HS1:Hid (s.l1=_):=hs1
    have HS2:Hid (s.l2=_):=hs2
    clear hs1 hs2
    refine ⟨_,rfl,hK.out _ _ (hH.trans (ba.mono hH.size)) (fun hHa=>?_)⟩
    clear hK K'
    simp only [Act.put,q1,q2,q3]
    obtain ⟨okx,hokx⟩:∃ okx,M.execOk ll x.1 x.2=okx:=⟨_,rfl⟩
    rw [hokx]
    clear hokx
    refine tk 6 20 (.tuple #[.agg #[.slice s.a1 s.l1.length s.c1,.slice s.a2 s.l2.length s.c2],.bool okx]) hHa rfl rfl (by intro w' hSw;go_simp) ?_
    simp only [Act.put,q1,q2,q3]
    refine tk 7 27 (.agg #[.slice s.a1 s.l1.length s.c1,.slice s.a2 s.l2.length s.c2]) hHa rfl rfl (by intro w' hSw;go_simp) ?_
    simp only [Act.put,q1,q2,q3]
    refine tk 8 28 (.bool okx) hHa rfl rfl (by intro w' hSw;go_simp) ?_
    simp only [Act.put,q1,q2,q3]
    refine ry 9 rfl (fun K' hK=>?_)
    rw [if_pos (by rfl)]
    go_simp
    have hnew:=heap_alloc_new Wa (.cells #[.slice none 0 0,.slice none 0 0] 28)
    have hsz:(Wa.alloc (.cells #[.slice none 0 0,.slice none 0 0] 28)).heap.size=Wa.heap.size+1:=by simp
    have hba:=below1 Wa (.cells #[.slice none 0 0,.slice none 0 0] 28)
    refine hK.out _ _ (hHa.trans (hba.mono hHa.size)) (fun hHb=>?_)
    clear hK K'
    have hge:=hHa.size
    obtain ⟨Wb,hWb⟩:∃ Wb,Wa.alloc (.cells #[.slice none 0 0,.slice none 0 0] 28)=Wb:=⟨_,rfl⟩
    rw [hWb] at hnew hsz hba hHb ⊢
    have hsAb:=hsA.below hba (Nat.le_refl _)
    have hsO:∀ k,BlkS s k→k≠Wa.heap.size:=fun k hk e=>by have:=hsA.lt hk;omega
    clear hWb
    obtain ⟨Sb,hSbe⟩:∃ Sb,Wa.heap.size=Sb:=⟨_,rfl⟩
    rw [hSbe] at hnew hsO ⊢
    have hbx:=hnew
    have hSb:wr.heap.size≤Sb:=by omega
    refine ry 10 rfl (fun K' hK=>?_)
    have r0:=(cellsOf hbx 0).trans (show _=some (Value.slice none 0 0) from rfl)
    have r1:=(cellsOf hbx 1).trans (show _=some (Value.slice none 0 0) from rfl)
    have fz:=frozOf hbx
    rw [if_pos (by rfl)]
    go_simp
    clear fz r0 r1
    have hbz:=heap_setCell_same _ Sb 1 _ _ (.slice s.a2 s.l2.length s.c2) (heap_setCell_same Wb Sb 0 _ _ (.slice s.a1 s.l1.length s.c1) hbx)
    have hzz:Below wr.heap.size wr ((Wb.setCell ⟨Sb,0,none⟩ (.slice s.a1 s.l1.length s.c1)).setCell ⟨Sb,1,none⟩ (.slice s.a2 s.l2.length s.c2)):=(hHb.setCell (p:=⟨Sb,0,none⟩) hSb _).setCell (p:=⟨Sb,1,none⟩) hSb _
    have hsAz:s.At ((Wb.setCell ⟨Sb,0,none⟩ (.slice s.a1 s.l1.length s.c1)).setCell ⟨Sb,1,none⟩ (.slice s.a2 s.l2.length s.c2)):=hsAb.fr (O:=fun k=>k≠Sb) (((Fr.refl _ Wb).setCell _ (fun h=>h rfl)).setCell _ (fun h=>h rfl)) hsO
    refine hK.out _ _ hzz (fun _=>?_)
    clear hK K'
    generalize (Wb.setCell ⟨Sb,0,none⟩ (.slice s.a1 s.l1.length s.c1)).setCell ⟨Sb,1,none⟩ (.slice s.a2 s.l2.length s.c2)=Wz at *
    refine ry 11 rfl (fun K' hK=>?_)
    rw [if_pos (by rfl)]
    go_simp
    refine hK.out _ _ hzz (fun _=>?_)
    clear hK K'
    refine wpAnyH_done (by kernel_rfl) ?_ _
    have z0:=(cellsOf hbz 0).trans (show _=some (Value.slice s.a1 s.l1.length s.c1) from rfl)
    have z1:=(cellsOf hbz 1).trans (show _=some (Value.slice s.a2 s.l2.length s.c2) from rfl)
    have fS0:∀ w',Below Wz.heap.size Wz w'→w'.cell? ⟨Sb,0,none⟩=some (.slice s.a1 s.l1.length s.c1):=fun w' h=>cellC h z0
    have fS1:∀ w',Below Wz.heap.size Wz w'→w'.cell? ⟨Sb,1,none⟩=some (.slice s.a2 s.l2.length s.c2):=fun w' h=>cellC h z1
    have gP:=fun w' (h:Below Wz.heap.size Wz w')=>fP w' (hzz.trans (h.mono hzz.size))
    have gT0:=fun w' (h:Below Wz.heap.size Wz w')=>fT0 w' (hzz.trans (h.mono hzz.size))
    have gT1:=fun w' (h:Below Wz.heap.size Wz w')=>fT1 w' (hzz.trans (h.mono hzz.size))
    have gX0:=fun w' (h:Below Wz.heap.size Wz w')=>fX0 w' (hzz.trans (h.mono hzz.size))
    have gX1:=fun w' (h:Below Wz.heap.size Wz w')=>fX1 w' (hzz.trans (h.mono hzz.size))
    have CL:=fun w' (h:Below Wz.heap.size Wz w')=>l2Seen_any s t w' ⟨by rw [HS1.out];exact hsle.1,by rw [HS2.out];exact hsle.2⟩ ht (hsAz.below h (Nat.le_refl _)) (ht1.below ((hb.trans (hzz.mono hb.size)).trans (h.mono (Nat.le_trans hb.size hzz.size))) (Nat.le_refl _))
    rw [HS1.out,HS2.out] at CL
    clear fP fT0 fT1 fX0 fX1 q1 q2 z0 z1 hbz
    go_wp2_with fail
    refine wp_region_held_drew (S:=fun w'=>Below Wz.heap.size Wz w') (by kernel_rfl) (Below.refl _ _).drew (fun hJ=>?_)
    refine tk 0 29 (.agg #[.slice s.a1 s.l1.length s.c1,.slice s.a2 s.l2.length s.c2]) hJ rfl rfl (by intro w' hSw;have hc0:=fS0 w' hSw;have hc1:=fS1 w' hSw;go_simp) ?_
    simp only [Act.put,q1,q2,q3]
    refine tk 1 30 (.agg #[.slice t.a1 t.l1.length t.c1,.slice t.a2 t.l2.length t.c2]) hJ rfl rfl (by intro w' hSw;have hc0:=gT0 w' hSw;have hc1:=gT1 w' hSw;go_simp) ?_
    simp only [Act.put,q1,q2,q3]
    refine ry 2 rfl (fun K' hK=>?_)
    refine sg 31 rfl 41 #[.tmp 29,.tmp 30] rfl #[.agg #[.slice s.a1 s.l1.length s.c1,.slice s.a2 s.l2.length s.c2],.agg #[.slice t.a1 t.l1.length t.c1,.slice t.a2 t.l2.length t.c2]] (enters_of Tryz.func41 (by kernel_rfl) rfl) (by rw [HS1.out,HS2.out];exact CL _ hJ) ?_
    rintro e Wy ⟨rfl,hgy⟩
    refine ⟨_,rfl,hK.out _ _ (hJ.trans (hgy.bel.mono hJ.size)) (fun hJ1=>?_)⟩
    clear hK K' CL
    simp only [Act.put,q1,q2,q3]
    obtain ⟨z,hz⟩:∃ z,M.cmpS (M.execSeen ll x.1 x.2).1 (M.execSeen ll x.1 x.2).2 t.l1 t.l2=z:=⟨_,rfl⟩
    have HZ:Hid (M.cmpS (M.execSeen ll x.1 x.2).1 (M.execSeen ll x.1 x.2).2 t.l1 t.l2=z):=hz
    rw [hz]
    clear hz
    by_cases h0:z=0
    ·subst h0
     refine tk 3 32 (.bool true) hJ1 rfl rfl (by intro w' hSw;go_simp) ?_
     simp only [Act.put,q1,q2,q3]
     refine tk 4 33 (.bool true) hJ1 rfl rfl (by intro w' hSw;go_simp) ?_
     simp only [Act.put,q1,q2,q3]
     refine tk 5 34 (.agg #[.slice a ll.length c]) hJ1 rfl rfl (by intro w' hSw;have hc0:=gP w' hSw;go_simp) ?_
     simp only [Act.put,q1,q2,q3]
     refine tk 6 35 (.slice (some ⟨lg,0,none⟩) xs.length lc) hJ1 rfl rfl (by intro w' hSw;go_simp) ?_
     simp only [Act.put,q1,q2,q3]
     refine tk 7 36 (.int .i64 n) hJ1 rfl rfl (by intro w' hSw;go_simp) ?_
     simp only [Act.put,q1,q2,q3]
     refine tk 8 37 (.pointer (some ⟨lg,n * 2,none⟩)) hJ1 rfl rfl (by intro w' hSw;go_simp) ?_
     simp only [Act.put,q1,q2,q3]
     refine tk 9 38 (.agg #[.slice fa x.1.length fc,.slice ra x.2.length rc]) hJ1 rfl rfl (by intro w' hSw;have hc0:=gX0 w' hSw;have hc1:=gX1 w' hSw;go_simp) ?_
     simp only [Act.put,q1,q2,q3]
     refine tk 10 39 (.int .i64 kind) hJ1 rfl rfl (by intro w' hSw;go_simp) ?_
     simp only [Act.put,q1,q2,q3]
     refine ry 11 rfl (fun K' hK=>?_)
     refine sg 40 rfl 42 #[.tmp 34,.tmp 38,.tmp 39] rfl #[.agg #[.slice a ll.length c],.agg #[.slice fa x.1.length fc,.slice ra x.2.length rc],.int .i64 kind] (enters_of Tryz.func42 (by kernel_rfl) rfl) (CHo _ (hzz.trans (hJ1.mono hzz.size))) ?_
     rintro e Wx ⟨rfl,hgx⟩
     refine ⟨_,rfl,hK.out _ _ (hJ1.trans (hgx.mono hJ1.size)) (fun hJ2=>?_)⟩
     clear hK K'
     simp only [Act.put,q1,q2,q3]
     have HW:Hid (M.swhyGood ll t.l1 t.l2 kind x=M.orderHolds ll x.1 x.2 kind):=by show _=_;unfold M.swhyGood;rw [HZ.out];rfl
     obtain ⟨r,hr⟩:∃ r,M.orderHolds ll x.1 x.2 kind=r:=⟨_,rfl⟩
     rw [hr] at HW ⊢
     clear hr
     refine tk 12 41 (.bool r) hJ2 rfl rfl (by intro w' hSw;go_simp) ?_
     simp only [Act.put,q1,q2,q3]
     refine wpAnyH_done (by kernel_rfl) ?_ _
     have hfin:=hzz.trans (hJ2.mono hzz.size)
     cases r
     ·have HNX:=HNO.out HW.out
      have bX:=hb.trans (hfin.mono hb.size)
      clear HZ HW HNO HYE
      go_wp2_with fail
      exact ⟨⟨n+1,by go_num,by omega,HNX,bX⟩,by simp [intOf];omega⟩
     ·have ANS:=FIY _ hfin HW.out
      have hRr:=fR _ hfin
      have r0:=(cellsOf hRr 0).trans (show _=some (Value.slice none 0 0) from rfl)
      have r1:=(cellsOf hRr 1).trans (show _=some (Value.slice none 0 0) from rfl)
      have fz:=frozOf hRr
      have x0:=gX0 _ hJ2
      have x1:=gX1 _ hJ2
      have E0:=heap_setCell_same _ (w.heap.size+2) 1 _ _ (.slice ra x.2.length rc) (heap_setCell_same _ (w.heap.size+2) 0 _ _ (.slice fa x.1.length fc) hRr)
      clear HZ HW HNO HYE
      go_wp2_with fail
      exact bodyPost_ret (swy_results rfl _ _ (w.heap.size+2) (.slice fa x.1.length fc) (.slice ra x.2.length rc) (.bool true) rfl rfl ((cellsOf E0 0).trans rfl) ((cellsOf E0 1).trans rfl)) rfl ⟨_,rfl,ANS⟩
    ·have HW:Hid ((xs.take (n+1)).find? (M.swhyGood ll t.l1 t.l2 kind)=none):=HNO.out (by unfold M.swhyGood;rw [HZ.out];simp [h0])
     have bX:=hb.trans ((hzz.trans (hJ1.mono hzz.size)).mono hb.size)
     clear HZ HNO HYE
     refine tk 3 32 (.bool false) hJ1 rfl rfl (by intro w' hSw;clear hSw;(first | (go_simp;done) | (go_simp;simp [h0]) | simp [go_sem,h0])) ?_
     simp only [Act.put,q1,q2,q3]
     refine tk 4 33 (.bool false) hJ1 rfl rfl (by intro w' hSw;go_simp) ?_
     simp only [Act.put,q1,q2,q3]
     refine tz 5 34 hJ1 rfl rfl ?_
     simp only [Act.put,q1,q2,q3]
     refine tz 6 35 hJ1 rfl rfl ?_
     simp only [Act.put,q1,q2,q3]
     refine tz 7 36 hJ1 rfl rfl ?_
     simp only [Act.put,q1,q2,q3]
     refine tz 8 37 hJ1 rfl rfl ?_
     simp only [Act.put,q1,q2,q3]
     refine tz 9 38 hJ1 rfl rfl ?_
     simp only [Act.put,q1,q2,q3]
     refine tz 10 39 hJ1 rfl rfl ?_
     simp only [Act.put,q1,q2,q3]
     refine tz 11 40 hJ1 rfl rfl ?_
     simp only [Act.put,q1,q2,q3]
     refine tk 12 41 (.bool false) hJ1 rfl rfl (by intro w' hSw;go_simp) ?_
     simp only [Act.put,q1,q2,q3]
     refine wpAnyH_done (by kernel_rfl) ?_ _
     clear hJ1
     go_wp2_with fail
     exact ⟨⟨n+1,by go_num,by omega,HW,bX⟩,by simp [intOf];omega⟩
   ·rw [if_pos (by rfl)]
    go_simp
    have hnew:=heap_alloc_new Wd (.cells #[.slice none 0 0,.slice none 0 0] 28)
    have hsz:(Wd.alloc (.cells #[.slice none 0 0,.slice none 0 0] 28)).heap.size=Wd.heap.size+1:=by simp
    have hba:=below1 Wd (.cells #[.slice none 0 0,.slice none 0 0] 28)
    have hge:=hH.size
    refine hK.out _ _ (hH.trans (hba.mono hH.size)) (fun hHb=>?_)
    clear hK K'
    obtain ⟨Wb,hWb⟩:∃ Wb,Wd.alloc (.cells #[.slice none 0 0,.slice none 0 0] 28)=Wb:=⟨_,rfl⟩
    rw [hWb] at hnew hsz hba hHb ⊢
    clear hWb
    obtain ⟨Sb,hSbe⟩:∃ Sb,Wd.heap.size=Sb:=⟨_,rfl⟩
    rw [hSbe] at hnew hsz hge
    simp only [hSbe]
    have hSb:wr.heap.size≤Sb:=hge
    refine ry 5 rfl (fun K' hK=>?_)
    refine sg 26 rfl 40 #[.tmp 21,.tmp 25] rfl #[.agg #[.slice a ll.length c],.agg #[.slice fa x.1.length fc,.slice ra x.2.length rc]] (enters_of Tryz.func40 (by kernel_rfl) rfl) (CSx _ hHb) ?_
    rintro e Wa ⟨s,rfl,hs1,hs2,hsA,hsb1,hsb2,ba⟩
    have HS1:Hid (s.l1=_):=hs1
    have HS2:Hid (s.l2=_):=hs2
    clear hs1 hs2
    refine ⟨_,rfl,hK.out _ _ (hHb.trans (ba.mono hHb.size)) (fun hHc=>?_)⟩
    clear hK K'
    simp only [Act.put,q1,q2,q3]
    obtain ⟨okx,hokx⟩:∃ okx,M.execOk ll x.1 x.2=okx:=⟨_,rfl⟩
    rw [hokx]
    clear hokx
    have hbx:=(ba.block Sb (by omega)).trans hnew
    have hsAb:=hsA
    have hsO:∀ k,BlkS s k→k≠Sb:=fun k hk e=>by rcases hk with ⟨_,rfl⟩ | ⟨_,rfl⟩<;>omega
    refine tk 6 20 (.tuple #[.agg #[.slice s.a1 s.l1.length s.c1,.slice s.a2 s.l2.length s.c2],.bool okx]) hHc rfl rfl (by intro w' hSw;go_simp) ?_
    simp only [Act.put,q1,q2,q3]
    refine tk 7 27 (.agg #[.slice s.a1 s.l1.length s.c1,.slice s.a2 s.l2.length s.c2]) hHc rfl rfl (by intro w' hSw;go_simp) ?_
    simp only [Act.put,q1,q2,q3]
    refine tk 8 28 (.bool okx) hHc rfl rfl (by intro w' hSw;go_simp) ?_
    simp only [Act.put,q1,q2,q3]
    refine ry 10 rfl (fun K' hK=>?_)
    have r0:=(cellsOf hbx 0).trans (show _=some (Value.slice none 0 0) from rfl)
    have r1:=(cellsOf hbx 1).trans (show _=some (Value.slice none 0 0) from rfl)
    have fz:=frozOf hbx
    rw [if_pos (by rfl)]
    go_simp
    clear fz r0 r1
    have hbz:=heap_setCell_same _ Sb 1 _ _ (.slice s.a2 s.l2.length s.c2) (heap_setCell_same Wa Sb 0 _ _ (.slice s.a1 s.l1.length s.c1) hbx)
    have hzz:Below wr.heap.size wr ((Wa.setCell ⟨Sb,0,none⟩ (.slice s.a1 s.l1.length s.c1)).setCell ⟨Sb,1,none⟩ (.slice s.a2 s.l2.length s.c2)):=(hHc.setCell (p:=⟨Sb,0,none⟩) hSb _).setCell (p:=⟨Sb,1,none⟩) hSb _
    have hsAz:s.At ((Wa.setCell ⟨Sb,0,none⟩ (.slice s.a1 s.l1.length s.c1)).setCell ⟨Sb,1,none⟩ (.slice s.a2 s.l2.length s.c2)):=hsAb.fr (O:=fun k=>k≠Sb) (((Fr.refl _ Wa).setCell _ (fun h=>h rfl)).setCell _ (fun h=>h rfl)) hsO
    refine hK.out _ _ hzz (fun _=>?_)
    clear hK K'
    generalize (Wa.setCell ⟨Sb,0,none⟩ (.slice s.a1 s.l1.length s.c1)).setCell ⟨Sb,1,none⟩ (.slice s.a2 s.l2.length s.c2)=Wz at *
    refine ry 11 rfl (fun K' hK=>?_)
    rw [if_pos (by rfl)]
    go_simp
    refine hK.out _ _ hzz (fun _=>?_)
    clear hK K'
    refine wpAnyH_done (by kernel_rfl) ?_ _
    have z0:=(cellsOf hbz 0).trans (show _=some (Value.slice s.a1 s.l1.length s.c1) from rfl)
    have z1:=(cellsOf hbz 1).trans (show _=some (Value.slice s.a2 s.l2.length s.c2) from rfl)
    have fS0:∀ w',Below Wz.heap.size Wz w'→w'.cell? ⟨Sb,0,none⟩=some (.slice s.a1 s.l1.length s.c1):=fun w' h=>cellC h z0
    have fS1:∀ w',Below Wz.heap.size Wz w'→w'.cell? ⟨Sb,1,none⟩=some (.slice s.a2 s.l2.length s.c2):=fun w' h=>cellC h z1
    have gP:=fun w' (h:Below Wz.heap.size Wz w')=>fP w' (hzz.trans (h.mono hzz.size))
    have gT0:=fun w' (h:Below Wz.heap.size Wz w')=>fT0 w' (hzz.trans (h.mono hzz.size))
    have gT1:=fun w' (h:Below Wz.heap.size Wz w')=>fT1 w' (hzz.trans (h.mono hzz.size))
    have gX0:=fun w' (h:Below Wz.heap.size Wz w')=>fX0 w' (hzz.trans (h.mono hzz.size))
    have gX1:=fun w' (h:Below Wz.heap.size Wz w')=>fX1 w' (hzz.trans (h.mono hzz.size))
    have CL:=fun w' (h:Below Wz.heap.size Wz w')=>l2Seen_any s t w' ⟨by rw [HS1.out];exact hsle.1,by rw [HS2.out];exact hsle.2⟩ ht (hsAz.below h (Nat.le_refl _)) (ht1.below ((hb.trans (hzz.mono hb.size)).trans (h.mono (Nat.le_trans hb.size hzz.size))) (Nat.le_refl _))
    rw [HS1.out,HS2.out] at CL
    clear fP fT0 fT1 fX0 fX1 q1 q2 z0 z1 hbz
    go_wp2_with fail
    refine wp_region_held_drew (S:=fun w'=>Below Wz.heap.size Wz w') (by kernel_rfl) (Below.refl _ _).drew (fun hJ=>?_)
    refine tk 0 29 (.agg #[.slice s.a1 s.l1.length s.c1,.slice s.a2 s.l2.length s.c2]) hJ rfl rfl (by intro w' hSw;have hc0:=fS0 w' hSw;have hc1:=fS1 w' hSw;go_simp) ?_
    simp only [Act.put,q1,q2,q3]
    refine tk 1 30 (.agg #[.slice t.a1 t.l1.length t.c1,.slice t.a2 t.l2.length t.c2]) hJ rfl rfl (by intro w' hSw;have hc0:=gT0 w' hSw;have hc1:=gT1 w' hSw;go_simp) ?_
    simp only [Act.put,q1,q2,q3]
    refine ry 2 rfl (fun K' hK=>?_)
    refine sg 31 rfl 41 #[.tmp 29,.tmp 30] rfl #[.agg #[.slice s.a1 s.l1.length s.c1,.slice s.a2 s.l2.length s.c2],.agg #[.slice t.a1 t.l1.length t.c1,.slice t.a2 t.l2.length t.c2]] (enters_of Tryz.func41 (by kernel_rfl) rfl) (by rw [HS1.out,HS2.out];exact CL _ hJ) ?_
    rintro e Wy ⟨rfl,hgy⟩
    refine ⟨_,rfl,hK.out _ _ (hJ.trans (hgy.bel.mono hJ.size)) (fun hJ1=>?_)⟩
    clear hK K' CL
    simp only [Act.put,q1,q2,q3]
    obtain ⟨z,hz⟩:∃ z,M.cmpS (M.execSeen ll x.1 x.2).1 (M.execSeen ll x.1 x.2).2 t.l1 t.l2=z:=⟨_,rfl⟩
    have HZ:Hid (M.cmpS (M.execSeen ll x.1 x.2).1 (M.execSeen ll x.1 x.2).2 t.l1 t.l2=z):=hz
    rw [hz]
    clear hz
    by_cases h0:z=0
    ·subst h0
     refine tk 3 32 (.bool true) hJ1 rfl rfl (by intro w' hSw;go_simp) ?_
     simp only [Act.put,q1,q2,q3]
     refine tk 4 33 (.bool true) hJ1 rfl rfl (by intro w' hSw;go_simp) ?_
     simp only [Act.put,q1,q2,q3]
     refine tk 5 34 (.agg #[.slice a ll.length c]) hJ1 rfl rfl (by intro w' hSw;have hc0:=gP w' hSw;go_simp) ?_
     simp only [Act.put,q1,q2,q3]
     refine tk 6 35 (.slice (some ⟨lg,0,none⟩) xs.length lc) hJ1 rfl rfl (by intro w' hSw;go_simp) ?_
     simp only [Act.put,q1,q2,q3]
     refine tk 7 36 (.int .i64 n) hJ1 rfl rfl (by intro w' hSw;go_simp) ?_
     simp only [Act.put,q1,q2,q3]
     refine tk 8 37 (.pointer (some ⟨lg,n * 2,none⟩)) hJ1 rfl rfl (by intro w' hSw;go_simp) ?_
     simp only [Act.put,q1,q2,q3]
     refine tk 9 38 (.agg #[.slice fa x.1.length fc,.slice ra x.2.length rc]) hJ1 rfl rfl (by intro w' hSw;have hc0:=gX0 w' hSw;have hc1:=gX1 w' hSw;go_simp) ?_
     simp only [Act.put,q1,q2,q3]
     refine tk 10 39 (.int .i64 kind) hJ1 rfl rfl (by intro w' hSw;go_simp) ?_
     simp only [Act.put,q1,q2,q3]
     refine ry 11 rfl (fun K' hK=>?_)
     refine sg 40 rfl 42 #[.tmp 34,.tmp 38,.tmp 39] rfl #[.agg #[.slice a ll.length c],.agg #[.slice fa x.1.length fc,.slice ra x.2.length rc],.int .i64 kind] (enters_of Tryz.func42 (by kernel_rfl) rfl) (CHo _ (hzz.trans (hJ1.mono hzz.size))) ?_
     rintro e Wx ⟨rfl,hgx⟩
     refine ⟨_,rfl,hK.out _ _ (hJ1.trans (hgx.mono hJ1.size)) (fun hJ2=>?_)⟩
     clear hK K'
     simp only [Act.put,q1,q2,q3]
     have HW:Hid (M.swhyGood ll t.l1 t.l2 kind x=M.orderHolds ll x.1 x.2 kind):=by show _=_;unfold M.swhyGood;rw [HZ.out];rfl
     obtain ⟨r,hr⟩:∃ r,M.orderHolds ll x.1 x.2 kind=r:=⟨_,rfl⟩
     rw [hr] at HW ⊢
     clear hr
     refine tk 12 41 (.bool r) hJ2 rfl rfl (by intro w' hSw;go_simp) ?_
     simp only [Act.put,q1,q2,q3]
     refine wpAnyH_done (by kernel_rfl) ?_ _
     have hfin:=hzz.trans (hJ2.mono hzz.size)
     cases r
     ·have HNX:=HNO.out HW.out
      have bX:=hb.trans (hfin.mono hb.size)
      clear HZ HW HNO HYE
      go_wp2_with fail
      exact ⟨⟨n+1,by go_num,by omega,HNX,bX⟩,by simp [intOf];omega⟩
     ·have ANS:=FIY _ hfin HW.out
      have hRr:=fR _ hfin
      have r0:=(cellsOf hRr 0).trans (show _=some (Value.slice none 0 0) from rfl)
      have r1:=(cellsOf hRr 1).trans (show _=some (Value.slice none 0 0) from rfl)
      have fz:=frozOf hRr
      have x0:=gX0 _ hJ2
      have x1:=gX1 _ hJ2
      have E0:=heap_setCell_same _ (w.heap.size+2) 1 _ _ (.slice ra x.2.length rc) (heap_setCell_same _ (w.heap.size+2) 0 _ _ (.slice fa x.1.length fc) hRr)
      clear HZ HW HNO HYE
      go_wp2_with fail
      exact bodyPost_ret (swy_results rfl _ _ (w.heap.size+2) (.slice fa x.1.length fc) (.slice ra x.2.length rc) (.bool true) rfl rfl ((cellsOf E0 0).trans rfl) ((cellsOf E0 1).trans rfl)) rfl ⟨_,rfl,ANS⟩
    ·have HW:Hid ((xs.take (n+1)).find? (M.swhyGood ll t.l1 t.l2 kind)=none):=HNO.out (by unfold M.swhyGood;rw [HZ.out];simp [h0])
     have bX:=hb.trans ((hzz.trans (hJ1.mono hzz.size)).mono hb.size)
     clear HZ HNO HYE
     refine tk 3 32 (.bool false) hJ1 rfl rfl (by intro w' hSw;clear hSw;(first | (go_simp;done) | (go_simp;simp [h0]) | simp [go_sem,h0])) ?_
     simp only [Act.put,q1,q2,q3]
     refine tk 4 33 (.bool false) hJ1 rfl rfl (by intro w' hSw;go_simp) ?_
     simp only [Act.put,q1,q2,q3]
     refine tz 5 34 hJ1 rfl rfl ?_
     simp only [Act.put,q1,q2,q3]
     refine tz 6 35 hJ1 rfl rfl ?_
     simp only [Act.put,q1,q2,q3]
     refine tz 7 36 hJ1 rfl rfl ?_
     simp only [Act.put,q1,q2,q3]
     refine tz 8 37 hJ1 rfl rfl ?_
     simp only [Act.put,q1,q2,q3]
     refine tz 9 38 hJ1 rfl rfl ?_
     simp only [Act.put,q1,q2,q3]
     refine tz 10 39 hJ1 rfl rfl ?_
     simp only [Act.put,q1,q2,q3]
     refine tz 11 40 hJ1 rfl rfl ?_
     simp only [Act.put,q1,q2,q3]
     refine tk 12 41 (.bool false) hJ1 rfl rfl (by intro w' hSw;go_simp) ?_
     simp only [Act.put,q1,q2,q3]
     refine wpAnyH_done (by kernel_rfl) ?_ _
     clear hJ1
     go_wp2_with fail
     exact ⟨⟨n+1,by go_num,by omega,HW,bX⟩,by simp [intOf];omega⟩
  ·have i1:¬ (n:Int) < xs.length:=by omega
   have e1:xs.take n=xs:=List.take_of_length_le (by omega)
   rw [e1] at HN
   have hRr:=(hb.block _ (by omega)).trans hR1
   have r0:=(cellsOf hRr 0).trans (show _=some (Value.slice none 0 0) from rfl)
   have r1:=(cellsOf hRr 1).trans (show _=some (Value.slice none 0 0) from rfl)
   have fz:=frozOf hRr
   have HNN:Hid (M.swhyExec ll t.l1 t.l2 kind=none):=by show _=_;rw [HXS.out,HN.out]
   have E0:=heap_setCell_same _ (w.heap.size+2) 1 _ _ (.slice none 0 0) (heap_setCell_same wr (w.heap.size+2) 0 _ _ (.slice none 0 0) hRr)
   have bF:Below w.heap.size w ((wr.setCell ⟨w.heap.size+2,0,none⟩ (.slice none 0 0)).setCell ⟨w.heap.size+2,1,none⟩ (.slice none 0 0)):=((bw1.trans (hb.mono bw1.size)).setCell (by show w.heap.size≤w.heap.size+2;omega) _).setCell (by show w.heap.size≤w.heap.size+2;omega) _
   clear HXS HN e1
   go_wp2_with fail
   exact bodyPost_ret (swy_results rfl _ _ (w.heap.size+2) (.slice none 0 0) (.slice none 0 0) (.bool false) rfl rfl ((cellsOf E0 0).trans rfl) ((cellsOf E0 1).trans rfl)) rfl ⟨_,rfl,fun _=>rfl,fun x hx'=>by rw [HNN.out] at hx';(cases hx'),bF⟩
end
end Go.Proofs.YtegommoflmmahaaGreat
