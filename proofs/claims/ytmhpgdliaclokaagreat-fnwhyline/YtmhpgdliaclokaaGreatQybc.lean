/- spec.WhyExec: the first way in which something is seen, by an order. Of at most 1048576 threads and steps, of as many numbers. And what goes with it: SpWy, WyMath, DrX, DrKi, DrSn, DrWy, DrWx, DrWe, WyAn, LawYl. -/
import Derived.Deep.OwnRows
import Derived.Test.YtmhpgdliaclokaaGreatRows
import Derived.Test.YtmhpgdliaclokaaGreatQybb
namespace Go.Proofs.YtmhpgdliaclokaaGreat
section
open Go.RowKit Go.Shelf
namespace M
def swhyGood (ll:List (List D)) (t1 t2:List Int) (k:Int) (x:Wy):Bool:=(cmpS (execSeen ll x.1 x.2).1 (execSeen ll x.1 x.2).2 t1 t2==0)&&orderHolds ll x.1 x.2 k
def swhyExec (ll:List (List D)) (t1 t2:List Int) (k:Int):Option Wy:=(specAll ll).find? (swhyGood ll t1 t2 k)
theorem find_take_no {α:Type} {p:α→Bool} {xs:List α} {n:Nat} (hn:n < xs.length) (h:(xs.take n).find? p=none) (hx:p xs[n]=false):(xs.take (n+1)).find? p=none:=by
 rw [List.take_succ_eq_append_getElem hn];exact find_no h hx
theorem find_take_yes {α:Type} {p:α→Bool} {xs:List α} {n:Nat} (hn:n < xs.length) (h:(xs.take n).find? p=none) (hx:p xs[n]=true):xs.find? p=some xs[n]:=by
 have h1:(xs.take (n+1)).find? p=some xs[n]:=by rw [List.take_succ_eq_append_getElem hn];exact find_yes h hx
 exact find_pre (List.take_prefix _ _) h1
theorem execSeen_le {ll:List (List D)} {x:Wy} (h:execOk ll x.1 x.2=true):(execSeen ll x.1 x.2).1.length≤1048576∧(execSeen ll x.1 x.2).2.length≤1048576:=by
 have hW:=wok_of h
 have hb:=prog_le hW.prog
 have hdl:=deeds_len hb.1 hb.2
 have h1:=seenR_len (deeds ll) x.1
 have h3:=hW.three.out
 unfold execSeen
 rw [h]
 exact ⟨by show (seenR _ _).length≤_;omega,by show (seenL _ _ _).length≤_;rw [seenL,List.length_map];omega⟩
end M
theorem SxaAns.lwx {w w':World} {ll:List (List M.D)} {v:Value} (h:SxaAns w w' ll v):∃ a g c,v=.slice a (M.specAll ll).length c∧(0 < (M.specAll ll).length→a=some ⟨g,0,none⟩)∧∀ i (h:i < (M.specAll ll).length),∃ fv ov rcs,w'.cell? ⟨g,i * 2,none⟩=some fv∧w'.cell? ⟨g,i * 2+1,none⟩=some ov∧Xw w' w.heap.size fv ov (M.specAll ll)[i].1 rcs (M.specAll ll)[i].2:=by
 obtain ⟨cs,n,hw,_⟩:=h.ex
 obtain ⟨a,g,c,e1,e2,e3⟩:=own_two hw.own
 have hl:=hw.len.out
 rw [← hl] at e1 e2
 refine ⟨a,g,c,e1,e2,fun i hi=>?_⟩
 obtain ⟨fv,ov,rc0,c1,c2,hx,_⟩:=hw.row i hi
 exact ⟨fv,ov,rc0,e3 _ _ c1,e3 _ _ c2,hx⟩
theorem three_made (w:World) (A B C:Obj):(((w.alloc A).alloc B).alloc C).heap.size=w.heap.size+3∧(((w.alloc A).alloc B).alloc C).heap[w.heap.size]?=some A∧(((w.alloc A).alloc B).alloc C).heap[w.heap.size+1]?=some B∧(((w.alloc A).alloc B).alloc C).heap[w.heap.size+2]?=some C:=by
 obtain ⟨_,_,h1,h2,h3,_,_⟩:=five w A B C C C
 obtain ⟨W3,h⟩:∃ W3,((w.alloc A).alloc B).alloc C=W3:=⟨_,rfl⟩
 have n3:W3.heap.size=w.heap.size+3:=by rw [← h];simp
 rw [h] at h1 h2 h3 ⊢
 have b:=below2 W3 C C
 exact ⟨n3,(b.block _ (by omega)).symm.trans h1,(b.block _ (by omega)).symm.trans h2,(b.block _ (by omega)).symm.trans h3⟩
structure SWhyAns (w w':World) (r:Option M.Wy) (v:Value):Prop where
 no:r=none→v=.tuple #[.agg #[.slice none 0 0,.slice none 0 0],.bool false]
 yes:∀ x,r=some x→∃ fa fb fc ra rb rc,v=.tuple #[.agg #[.slice fa x.1.length fc,.slice ra x.2.length rc],.bool true]∧IntS w' fa fb 0 x.1∧IntSS w' ra rb 0 x.2
 bel:Below w.heap.size w w'
theorem swy_results {fn:Func} (h:fn.results=#[.cell 6 29,.tmp 7]) (tmps:Array Value) (w:World) (Rb:Nat) (fv ov tv:Value) (h6:tmps.getD 6 undef=.pointer (some ⟨Rb,0,none⟩)) (h7:tmps.getD 7 undef=tv)
  (c0:w.cell? ⟨Rb,0,none⟩=some fv) (c1:w.cell? ⟨Rb,1,none⟩=some ov) :
  (results fn tmps).run Tryz.prog w=.ok (.tuple #[.agg #[fv,ov],tv]) w:=by
 have hl:(loadVar 29 ⟨Rb,0,none⟩).run Tryz.prog w=.ok (.agg #[fv,ov]) w:=by
  refine run_loadVar_mid w Rb 0 29 [fv,ov] _ (fun j v hv=>?_) Tryz.underlying29 rfl Tryz.szExW
  match j,hv with
  | 0,hv=>simp at hv;subst hv;exact c0
  | 1,hv=>simp at hv;subst hv;exact c1
  | j+2,hv=>simp at hv
 have h6':tmps[6]?.getD undef=.pointer (some ⟨Rb,0,none⟩):=by simpa using h6
 have h7':tmps[7]?.getD undef=tv:=by simpa using h7
 simp [results,h,h6',h7',asAddr,hl]
set_option maxHeartbeats 4000000 in
set_option maxRecDepth 100000 in
set_option linter.unusedSimpArgs false in
theorem swhyExec_any (a:Option Addr) (b o c:Nat) (ll:List (List M.D)) (t:Sn) (kind:Int) (w:World) (hl:ll.length≤1048576) (hls:∀ t∈ll,t.length≤1048576) (ht:t.Le 1048576) (h:DoSS w a b o ll) (hta:t.At w) :
  Calls Tryz.prog 19 #[.agg #[.slice a ll.length c],.agg #[.slice t.a1 t.l1.length t.c1,.slice t.a2 t.l2.length t.c2],.int .i64 kind] w fun e w'=>∃ v,e=.returned v∧SWhyAns w w' (M.swhyExec ll t.l1 t.l2 kind) v:=by
 have hle:∀ x∈M.specAll ll,WyLe x:=fun x hx=>by
  have ho:=M.mem_execAll.1 hx
  have hW:=M.wok_of ho
  have hb:=M.prog_le hW.prog
  have hdl:=M.deeds_len hb.1 hb.2
  refine ⟨by have:=hW.len.out;omega,by have:=hW.three.out;omega,fun r hr=>?_⟩
  simp only [M.execOk,M.wayOk,Bool.and_eq_true] at ho
  exact M.row_len ho.2.2.1 hdl r hr
 have hxl:(M.specAll ll).length≤117649:=by
  unfold M.specAll
  cases hp:M.prog ll
  ·simp
  ·rw [if_pos rfl,← M.ways_eq (M.cop_deeds ll)]
   exact M.ways_le2 hp
 have b1:=below3 w (.cells #[.slice a ll.length c] 25) (.cells #[.slice t.a1 t.l1.length t.c1,.slice t.a2 t.l2.length t.c2] 45) (.cells #[.slice none 0 0,.slice none 0 0] 29)
 obtain ⟨W0,hW0⟩:∃ W0,((w.alloc (.cells #[.slice a ll.length c] 25)).alloc (.cells #[.slice t.a1 t.l1.length t.c1,.slice t.a2 t.l2.length t.c2] 45)).alloc (.cells #[.slice none 0 0,.slice none 0 0] 29)=W0:=⟨_,rfl⟩
 have hF5:=three_made w (.cells #[.slice a ll.length c] 25) (.cells #[.slice t.a1 t.l1.length t.c1,.slice t.a2 t.l2.length t.c2] 45) (.cells #[.slice none 0 0,.slice none 0 0] 29)
 rw [hW0] at hF5 b1
 obtain ⟨sz1,hP0,hS0,hR0⟩:=hF5
 have k1:W0.cell? ⟨w.heap.size,0,none⟩=some (.slice a ll.length c):=(cellsOf hP0 0).trans rfl
 have CX:=sexecAllW_any a b o c ll W0 hl hls (h.below b1 (Nat.le_refl _))
 go_enter Tryz.func19,Tryz.ntmps19
 go_wp2_with fail
 refine CX.mono ?_
 rintro e W1 ⟨v,rfl,hA⟩
 obtain ⟨la,lg,lc,rfl,hadr,hLW⟩:=hA.lwx
 have b2:=hA.bel
 have bw1:=b1.trans (b2.mono b1.size)
 have hP1:=(b2.block _ (by omega)).trans hP0
 have hS1:=(b2.block _ (by omega)).trans hS0
 have hR1:=(b2.block _ (by omega)).trans hR0
 have hp1:=h.below bw1 (Nat.le_refl _)
 have ht1:=hta.below bw1 (Nat.le_refl _)
 have hs1:=b2.size
 obtain ⟨xs,hxs⟩:∃ xs,M.specAll ll=xs:=⟨_,rfl⟩
 have HXS:Hid (M.swhyExec ll t.l1 t.l2 kind=xs.find? (M.swhyGood ll t.l1 t.l2 kind)):=by show _=_;unfold M.swhyExec;rw [hxs]
 have HOK:Hid (∀ x∈xs,M.execOk ll x.1 x.2=true):=by show _;rw [← hxs];exact fun x hx=>M.mem_execAll.1 hx
 rw [hxs] at hle hxl hadr hLW ⊢
 clear CX hA hP0 hS0 hR0 k1 b2 hW0 hxs b1
 go_wp2_with fail
 go_loopw [9] (fun s9 wr=>∃ n:Nat,s9=.int .i64 n∧n≤xs.length∧Hid ((xs.take n).find? (M.swhyGood ll t.l1 t.l2 kind)=none)∧Below W1.heap.size W1 wr) (fun s9 _=>xs.length - (intOf s9).toNat)
 case atStart=>exact ⟨0,rfl,Nat.zero_le _,rfl,Below.refl _ _⟩
 case round =>
  obtain ⟨n,rfl,hn,HN,hb⟩:=hrel
  by_cases hlt:n < xs.length
  ·have i1:(n:Int) < xs.length:=by omega
   obtain ⟨rfl⟩:=hadr (by omega)
   obtain ⟨fv,ov,rcs,f1,f2,hxw⟩:=hLW n hlt
   obtain ⟨fa,fb,fc,ra,rb,rc,rfl,rfl,hF,hR⟩:=hxw.reads
   have hxo:=HOK.out _ (List.getElem_mem hlt)
   have hxl':=hle _ (List.getElem_mem hlt)
   have HNO:Hid (M.swhyGood ll t.l1 t.l2 kind xs[n]=false→(xs.take (n+1)).find? (M.swhyGood ll t.l1 t.l2 kind)=none):=fun hg=>M.find_take_no hlt HN.out hg
   have HYE:Hid (M.swhyGood ll t.l1 t.l2 kind xs[n]=true→xs.find? (M.swhyGood ll t.l1 t.l2 kind)=some xs[n]):=fun hg=>M.find_take_yes hlt HN.out hg
   obtain ⟨x,hx⟩:∃ x,xs[n]=x:=⟨_,rfl⟩
   rw [hx] at f1 f2 hF hR hxo hxl' HNO HYE hxw
   clear hx HN
   have q1:=cellC hb f1
   have q2:=cellC hb f2
   have fP:∀ w',Below wr.heap.size wr w'→w'.cell? ⟨w.heap.size,0,none⟩=some (.slice a ll.length c):=fun w' h=>(cellsOf ((hb.trans (h.mono hb.size)).block _ (by omega) |>.trans hP1) 0).trans rfl
   have fT0:∀ w',Below wr.heap.size wr w'→w'.cell? ⟨w.heap.size+1,0,none⟩=some (.slice t.a1 t.l1.length t.c1):=fun w' h=>(cellsOf ((hb.trans (h.mono hb.size)).block _ (by omega) |>.trans hS1) 0).trans rfl
   have fT1:∀ w',Below wr.heap.size wr w'→w'.cell? ⟨w.heap.size+1,1,none⟩=some (.slice t.a2 t.l2.length t.c2):=fun w' h=>(cellsOf ((hb.trans (h.mono hb.size)).block _ (by omega) |>.trans hS1) 1).trans rfl
   have fX0:∀ w',Below wr.heap.size wr w'→w'.cell? ⟨lg,n * 2,none⟩=some (.slice fa x.1.length fc):=fun w' h=>cellC h q1
   have fX1:∀ w',Below wr.heap.size wr w'→w'.cell? ⟨lg,n * 2+1,none⟩=some (.slice ra x.2.length rc):=fun w' h=>cellC h q2
   have fR:∀ w',Below wr.heap.size wr w'→w'.heap[w.heap.size+2]?=some (.cells #[.slice none 0 0,.slice none 0 0] 29 (0,0)):=fun w' h=>((hb.trans (h.mono hb.size)).block _ (by omega)).trans hR1
   have CSx:∀ w',Below wr.heap.size wr w'→_:=fun w' h=>sexecSeen_any a b o c ll fa fb 0 fc x.1 ra rb 0 rc x.2 w' hl hls hxl'.a hxl'.c (hp1.below (hb.trans (h.mono hb.size)) (Nat.le_refl _)) (hF.below (hb.trans (h.mono hb.size)) (Nat.le_refl _)) (hR.below (hb.trans (h.mono hb.size)) (Nat.le_refl _))
   have CHo:∀ w',Below wr.heap.size wr w'→_:=fun w' h=>sorderHolds_any a b o c ll fa fb 0 fc x.1 ra rb 0 rc x.2 kind w' hl hls hxl'.a hxl'.c (hp1.below (hb.trans (h.mono hb.size)) (Nat.le_refl _)) (hF.below (hb.trans (h.mono hb.size)) (Nat.le_refl _)) (hR.below (hb.trans (h.mono hb.size)) (Nat.le_refl _))
   have hsle:(M.execSeen ll x.1 x.2).1.length≤1048576∧(M.execSeen ll x.1 x.2).2.length≤1048576:=M.execSeen_le hxo
   have HSO:Hid (M.swhyGood ll t.l1 t.l2 kind x=true→M.swhyExec ll t.l1 t.l2 kind=some x):=fun hg=>HXS.out.trans (HYE.out hg)
   have FIY:∀ w',Below wr.heap.size wr w'→M.swhyGood ll t.l1 t.l2 kind x=true→SWhyAns w ((w'.setCell ⟨w.heap.size+2,0,none⟩ (.slice fa x.1.length fc)).setCell ⟨w.heap.size+2,1,none⟩ (.slice ra x.2.length rc)) (M.swhyExec ll t.l1 t.l2 kind) (.tuple #[.agg #[.slice fa x.1.length fc,.slice ra x.2.length rc],.bool true]):=fun w' h hg=>by
    have hb':=hb.trans (h.mono hb.size)
    have hsx:=HSO.out hg
    have hxz:=(hxw.below hb').fr (O:=fun k=>k≠w.heap.size+2) (((Fr.refl _ w').setCell (p:=⟨w.heap.size+2,0,none⟩) (.slice fa x.1.length fc) (fun h=>h rfl)).setCell (p:=⟨w.heap.size+2,1,none⟩) (.slice ra x.2.length rc) (fun h=>h rfl)) (fun k hk=>by have:=(hxw.blk_lt hk).1;omega)
    obtain ⟨y1,y2,y3,y4,y5,y6,e1,e2,hF',hR'⟩:=hxz.reads
    simp only [Value.slice.injEq] at e1 e2
    obtain ⟨rfl,_,rfl⟩:=e1
    obtain ⟨rfl,_,rfl⟩:=e2
    refine ⟨fun h0=>(by rw [hsx] at h0;cases h0),fun y hy=>?_,((bw1.trans (hb'.mono bw1.size)).setCell (by show w.heap.size≤w.heap.size+2;omega) _).setCell (by show w.heap.size≤w.heap.size+2;omega) _⟩
    rw [hsx] at hy
    obtain rfl:=Option.some.inj hy
    exact ⟨_,_,_,_,_,_,rfl,hF',hR'⟩
   clear HSO
   have wlt:=hb.size
   go_wp2_with fail
   refine wp_region_held_drew (S:=fun w'=>Below wr.heap.size wr w') (by kernel_rfl) (Below.refl _ _).drew (fun hH=>?_)
   generalize wr.drew=Wd at hH ⊢
   refine tk 0 21 (.agg #[.slice a ll.length c]) hH rfl rfl (by intro w' hSw;have hc0:=fP w' hSw;go_simp) ?_
   simp only [Act.put,zqa,zqb,zqc]
   refine tk 1 22 (.slice (some ⟨lg,0,none⟩) xs.length lc) hH rfl rfl (by intro w' hSw;go_simp) ?_
   simp only [Act.put,zqa,zqb,zqc]
   refine tk 2 23 (.int .i64 n) hH rfl rfl (by intro w' hSw;go_simp) ?_
   simp only [Act.put,zqa,zqb,zqc]
   refine tk 3 24 (.pointer (some ⟨lg,n * 2,none⟩)) hH rfl rfl (by intro w' hSw;go_simp) ?_
   simp only [Act.put,zqa,zqb,zqc]
   refine tk 4 25 (.agg #[.slice fa x.1.length fc,.slice ra x.2.length rc]) hH rfl rfl (by intro w' hSw;have hc0:=fX0 w' hSw;have hc1:=fX1 w' hSw;go_simp) ?_
   simp only [Act.put,zqa,zqb,zqc]
   refine wpAnyH_ready (rs:=[5,9]) (by kernel_rfl) (by simp) ?_
   refine AllReadyH.cons rfl (fun K' hK=>?_) (AllReadyH.cons rfl (fun K' hK=>?_) AllReadyH.nil)
   ·refine sg 26 rfl 52 #[.tmp 21,.tmp 25] rfl #[.agg #[.slice a ll.length c],.agg #[.slice fa x.1.length fc,.slice ra x.2.length rc]] (enters_of Tryz.func52 (by kernel_rfl) rfl) (CSx _ hH) ?_
    rintro e Wa ⟨s,rfl,hs1,hs2,hsA,hsb1,hsb2,ba⟩
    have HS1:Hid (s.l1=_):=hs1
    have HS2:Hid (s.l2=_):=hs2
    clear hs1 hs2
    refine ⟨_,rfl,hK.out _ _ (hH.trans (ba.mono hH.size)) (fun hHa=>?_)⟩
    clear hK K'
    simp only [Act.put,zqa,zqb,zqc]
    obtain ⟨okx,hokx⟩:∃ okx,M.execOk ll x.1 x.2=okx:=⟨_,rfl⟩
    rw [hokx]
    clear hokx
    refine tk 6 20 (.tuple #[.agg #[.slice s.a1 s.l1.length s.c1,.slice s.a2 s.l2.length s.c2],.bool okx]) hHa rfl rfl (by intro w' hSw;go_simp) ?_
    simp only [Act.put,zqa,zqb,zqc]
    refine tk 7 27 (.agg #[.slice s.a1 s.l1.length s.c1,.slice s.a2 s.l2.length s.c2]) hHa rfl rfl (by intro w' hSw;go_simp) ?_
    simp only [Act.put,zqa,zqb,zqc]
    refine tk 8 28 (.bool okx) hHa rfl rfl (by intro w' hSw;go_simp) ?_
    simp only [Act.put,zqa,zqb,zqc]
    refine ry 9 rfl (fun K' hK=>?_)
    rw [if_pos (by rfl)]
    go_simp
    have hnew:=heap_alloc_new Wa (.cells #[.slice none 0 0,.slice none 0 0] 45)
    have hsz:(Wa.alloc (.cells #[.slice none 0 0,.slice none 0 0] 45)).heap.size=Wa.heap.size+1:=by simp
    have hba:=below1 Wa (.cells #[.slice none 0 0,.slice none 0 0] 45)
    refine hK.out _ _ (hHa.trans (hba.mono hHa.size)) (fun hHb=>?_)
    clear hK K'
    have hge:=hHa.size
    obtain ⟨Wb,hWb⟩:∃ Wb,Wa.alloc (.cells #[.slice none 0 0,.slice none 0 0] 45)=Wb:=⟨_,rfl⟩
    rw [hWb] at hnew hsz hba hHb ⊢
    have hsAb:=hsA.below hba (Nat.le_refl _)
    have hsO:∀ k,BlkS s k→k≠Wa.heap.size:=fun k hk e=>by have:=hsA.lt hk;omega
    clear hWb
    obtain ⟨Sb,hSbe⟩:∃ Sb,Wa.heap.size=Sb:=⟨_,rfl⟩
    rw [hSbe] at hnew hsO ⊢
    have hbx:=hnew
    have hSb:wr.heap.size≤Sb:=by omega
    refine ry 10 rfl (fun K' hK=>?_)
    have r0:=(cellsOf hbx 0).trans (show _=some (Value.slice none 0 0) from rfl)
    have r1:=(cellsOf hbx 1).trans (show _=some (Value.slice none 0 0) from rfl)
    have fz:=frozOf hbx
    rw [if_pos (by rfl)]
    go_simp
    clear fz r0 r1
    have hbz:=heap_setCell_same _ Sb 1 _ _ (.slice s.a2 s.l2.length s.c2) (heap_setCell_same Wb Sb 0 _ _ (.slice s.a1 s.l1.length s.c1) hbx)
    have hzz:Below wr.heap.size wr ((Wb.setCell ⟨Sb,0,none⟩ (.slice s.a1 s.l1.length s.c1)).setCell ⟨Sb,1,none⟩ (.slice s.a2 s.l2.length s.c2)):=(hHb.setCell (p:=⟨Sb,0,none⟩) hSb _).setCell (p:=⟨Sb,1,none⟩) hSb _
    have hsAz:s.At ((Wb.setCell ⟨Sb,0,none⟩ (.slice s.a1 s.l1.length s.c1)).setCell ⟨Sb,1,none⟩ (.slice s.a2 s.l2.length s.c2)):=hsAb.fr (O:=fun k=>k≠Sb) (((Fr.refl _ Wb).setCell _ (fun h=>h rfl)).setCell _ (fun h=>h rfl)) hsO
    refine hK.out _ _ hzz (fun _=>?_)
    clear hK K'
    generalize (Wb.setCell ⟨Sb,0,none⟩ (.slice s.a1 s.l1.length s.c1)).setCell ⟨Sb,1,none⟩ (.slice s.a2 s.l2.length s.c2)=Wz at *
    refine ry 11 rfl (fun K' hK=>?_)
    rw [if_pos (by rfl)]
    go_simp
    refine hK.out _ _ hzz (fun _=>?_)
    clear hK K'
    refine wpAnyH_done (by kernel_rfl) ?_ _
    have z0:=(cellsOf hbz 0).trans (show _=some (Value.slice s.a1 s.l1.length s.c1) from rfl)
    have z1:=(cellsOf hbz 1).trans (show _=some (Value.slice s.a2 s.l2.length s.c2) from rfl)
    have fS0:∀ w',Below Wz.heap.size Wz w'→w'.cell? ⟨Sb,0,none⟩=some (.slice s.a1 s.l1.length s.c1):=fun w' h=>cellC h z0
    have fS1:∀ w',Below Wz.heap.size Wz w'→w'.cell? ⟨Sb,1,none⟩=some (.slice s.a2 s.l2.length s.c2):=fun w' h=>cellC h z1
    have gP:=fun w' (h:Below Wz.heap.size Wz w')=>fP w' (hzz.trans (h.mono hzz.size))
    have gT0:=fun w' (h:Below Wz.heap.size Wz w')=>fT0 w' (hzz.trans (h.mono hzz.size))
    have gT1:=fun w' (h:Below Wz.heap.size Wz w')=>fT1 w' (hzz.trans (h.mono hzz.size))
    have gX0:=fun w' (h:Below Wz.heap.size Wz w')=>fX0 w' (hzz.trans (h.mono hzz.size))
    have gX1:=fun w' (h:Below Wz.heap.size Wz w')=>fX1 w' (hzz.trans (h.mono hzz.size))
    have CL:=fun w' (h:Below Wz.heap.size Wz w')=>l2Seen_any s t w' ⟨by rw [HS1.out];exact hsle.1,by rw [HS2.out];exact hsle.2⟩ ht (hsAz.below h (Nat.le_refl _)) (ht1.below ((hb.trans (hzz.mono hb.size)).trans (h.mono (Nat.le_trans hb.size hzz.size))) (Nat.le_refl _))
    rw [HS1.out,HS2.out] at CL
    clear fP fT0 fT1 fX0 fX1 q1 q2 z0 z1 hbz
    go_wp2_with fail
    refine wp_region_held_drew (S:=fun w'=>Below Wz.heap.size Wz w') (by kernel_rfl) (Below.refl _ _).drew (fun hJ=>?_)
    refine tk 0 29 (.agg #[.slice s.a1 s.l1.length s.c1,.slice s.a2 s.l2.length s.c2]) hJ rfl rfl (by intro w' hSw;have hc0:=fS0 w' hSw;have hc1:=fS1 w' hSw;go_simp) ?_
    simp only [Act.put,zqa,zqb,zqc]
    refine tk 1 30 (.agg #[.slice t.a1 t.l1.length t.c1,.slice t.a2 t.l2.length t.c2]) hJ rfl rfl (by intro w' hSw;have hc0:=gT0 w' hSw;have hc1:=gT1 w' hSw;go_simp) ?_
    simp only [Act.put,zqa,zqb,zqc]
    refine ry 2 rfl (fun K' hK=>?_)
    refine sg 31 rfl 53 #[.tmp 29,.tmp 30] rfl #[.agg #[.slice s.a1 s.l1.length s.c1,.slice s.a2 s.l2.length s.c2],.agg #[.slice t.a1 t.l1.length t.c1,.slice t.a2 t.l2.length t.c2]] (enters_of Tryz.func53 (by kernel_rfl) rfl) (by rw [HS1.out,HS2.out];exact CL _ hJ) ?_
    rintro e Wy ⟨rfl,hgy⟩
    refine ⟨_,rfl,hK.out _ _ (hJ.trans (hgy.bel.mono hJ.size)) (fun hJ1=>?_)⟩
    clear hK K' CL
    simp only [Act.put,zqa,zqb,zqc]
    obtain ⟨z,hz⟩:∃ z,M.cmpS (M.execSeen ll x.1 x.2).1 (M.execSeen ll x.1 x.2).2 t.l1 t.l2=z:=⟨_,rfl⟩
    have HZ:Hid (M.cmpS (M.execSeen ll x.1 x.2).1 (M.execSeen ll x.1 x.2).2 t.l1 t.l2=z):=hz
    rw [hz]
    clear hz
    by_cases h0:z=0
    ·subst h0
     refine tk 3 32 (.bool true) hJ1 rfl rfl (by intro w' hSw;go_simp) ?_
     simp only [Act.put,zqa,zqb,zqc]
     refine tk 4 33 (.bool true) hJ1 rfl rfl (by intro w' hSw;go_simp) ?_
     simp only [Act.put,zqa,zqb,zqc]
     refine tk 5 34 (.agg #[.slice a ll.length c]) hJ1 rfl rfl (by intro w' hSw;have hc0:=gP w' hSw;go_simp) ?_
     simp only [Act.put,zqa,zqb,zqc]
     refine tk 6 35 (.slice (some ⟨lg,0,none⟩) xs.length lc) hJ1 rfl rfl (by intro w' hSw;go_simp) ?_
     simp only [Act.put,zqa,zqb,zqc]
     refine tk 7 36 (.int .i64 n) hJ1 rfl rfl (by intro w' hSw;go_simp) ?_
     simp only [Act.put,zqa,zqb,zqc]
     refine tk 8 37 (.pointer (some ⟨lg,n * 2,none⟩)) hJ1 rfl rfl (by intro w' hSw;go_simp) ?_
     simp only [Act.put,zqa,zqb,zqc]
     refine tk 9 38 (.agg #[.slice fa x.1.length fc,.slice ra x.2.length rc]) hJ1 rfl rfl (by intro w' hSw;have hc0:=gX0 w' hSw;have hc1:=gX1 w' hSw;go_simp) ?_
     simp only [Act.put,zqa,zqb,zqc]
     refine tk 10 39 (.int .i64 kind) hJ1 rfl rfl (by intro w' hSw;go_simp) ?_
     simp only [Act.put,zqa,zqb,zqc]
     refine ry 11 rfl (fun K' hK=>?_)
     refine sg 40 rfl 22 #[.tmp 34,.tmp 38,.tmp 39] rfl #[.agg #[.slice a ll.length c],.agg #[.slice fa x.1.length fc,.slice ra x.2.length rc],.int .i64 kind] (enters_of Tryz.func22 (by kernel_rfl) rfl) (CHo _ (hzz.trans (hJ1.mono hzz.size))) ?_
     rintro e Wx ⟨rfl,hgx⟩
     refine ⟨_,rfl,hK.out _ _ (hJ1.trans (hgx.mono hJ1.size)) (fun hJ2=>?_)⟩
     clear hK K'
     simp only [Act.put,zqa,zqb,zqc]
     have HW:Hid (M.swhyGood ll t.l1 t.l2 kind x=M.orderHolds ll x.1 x.2 kind):=by show _=_;unfold M.swhyGood;rw [HZ.out];rfl
     obtain ⟨r,hr⟩:∃ r,M.orderHolds ll x.1 x.2 kind=r:=⟨_,rfl⟩
     rw [hr] at HW ⊢
     clear hr
     refine tk 12 41 (.bool r) hJ2 rfl rfl (by intro w' hSw;go_simp) ?_
     simp only [Act.put,zqa,zqb,zqc]
     refine wpAnyH_done (by kernel_rfl) ?_ _
     have hfin:=hzz.trans (hJ2.mono hzz.size)
     cases r
     ·have HNX:=HNO.out HW.out
      have bX:=hb.trans (hfin.mono hb.size)
      clear HZ HW HNO HYE
      go_wp2_with fail
      exact ⟨⟨n+1,by go_num,by omega,HNX,bX⟩,by simp [intOf];omega⟩
     ·have ANS:=FIY _ hfin HW.out
      have hRr:=fR _ hfin
      have r0:=(cellsOf hRr 0).trans (show _=some (Value.slice none 0 0) from rfl)
      have r1:=(cellsOf hRr 1).trans (show _=some (Value.slice none 0 0) from rfl)
      have fz:=frozOf hRr
      have x0:=gX0 _ hJ2
      have x1:=gX1 _ hJ2
      have E0:=heap_setCell_same _ (w.heap.size+2) 1 _ _ (.slice ra x.2.length rc) (heap_setCell_same _ (w.heap.size+2) 0 _ _ (.slice fa x.1.length fc) hRr)
      clear HZ HW HNO HYE
      go_wp2_with fail
      exact bodyPost_ret (swy_results rfl _ _ (w.heap.size+2) (.slice fa x.1.length fc) (.slice ra x.2.length rc) (.bool true) rfl rfl ((cellsOf E0 0).trans rfl) ((cellsOf E0 1).trans rfl)) rfl ⟨_,rfl,ANS⟩
    ·have HW:Hid ((xs.take (n+1)).find? (M.swhyGood ll t.l1 t.l2 kind)=none):=HNO.out (by unfold M.swhyGood;rw [HZ.out];simp [h0])
     have bX:=hb.trans ((hzz.trans (hJ1.mono hzz.size)).mono hb.size)
     clear HZ HNO HYE
     refine tk 3 32 (.bool false) hJ1 rfl rfl (by intro w' hSw;clear hSw;(first | (go_simp;done) | (go_simp;simp [h0]) | simp [go_sem,h0])) ?_
     simp only [Act.put,zqa,zqb,zqc]
     refine tk 4 33 (.bool false) hJ1 rfl rfl (by intro w' hSw;go_simp) ?_
     simp only [Act.put,zqa,zqb,zqc]
     refine tz 5 34 hJ1 rfl rfl ?_
     simp only [Act.put,zqa,zqb,zqc]
     refine tz 6 35 hJ1 rfl rfl ?_
     simp only [Act.put,zqa,zqb,zqc]
     refine tz 7 36 hJ1 rfl rfl ?_
     simp only [Act.put,zqa,zqb,zqc]
     refine tz 8 37 hJ1 rfl rfl ?_
     simp only [Act.put,zqa,zqb,zqc]
     refine tz 9 38 hJ1 rfl rfl ?_
     simp only [Act.put,zqa,zqb,zqc]
     refine tz 10 39 hJ1 rfl rfl ?_
     simp only [Act.put,zqa,zqb,zqc]
     refine tz 11 40 hJ1 rfl rfl ?_
     simp only [Act.put,zqa,zqb,zqc]
     refine tk 12 41 (.bool false) hJ1 rfl rfl (by intro w' hSw;go_simp) ?_
     simp only [Act.put,zqa,zqb,zqc]
     refine wpAnyH_done (by kernel_rfl) ?_ _
     clear hJ1
     go_wp2_with fail
     exact ⟨⟨n+1,by go_num,by omega,HW,bX⟩,by simp [intOf];omega⟩
   ·rw [if_pos (by rfl)]
    go_simp
    have hnew:=heap_alloc_new Wd (.cells #[.slice none 0 0,.slice none 0 0] 45)
    have hsz:(Wd.alloc (.cells #[.slice none 0 0,.slice none 0 0] 45)).heap.size=Wd.heap.size+1:=by simp
    have hba:=below1 Wd (.cells #[.slice none 0 0,.slice none 0 0] 45)
    have hge:=hH.size
    refine hK.out _ _ (hH.trans (hba.mono hH.size)) (fun hHb=>?_)
    clear hK K'
    obtain ⟨Wb,hWb⟩:∃ Wb,Wd.alloc (.cells #[.slice none 0 0,.slice none 0 0] 45)=Wb:=⟨_,rfl⟩
    rw [hWb] at hnew hsz hba hHb ⊢
    clear hWb
    obtain ⟨Sb,hSbe⟩:∃ Sb,Wd.heap.size=Sb:=⟨_,rfl⟩
    rw [hSbe] at hnew hsz hge
    simp only [hSbe]
    have hSb:wr.heap.size≤Sb:=hge
    refine ry 5 rfl (fun K' hK=>?_)
    refine sg 26 rfl 52 #[.tmp 21,.tmp 25] rfl #[.agg #[.slice a ll.length c],.agg #[.slice fa x.1.length fc,.slice ra x.2.length rc]] (enters_of Tryz.func52 (by kernel_rfl) rfl) (CSx _ hHb) ?_
    rintro e Wa ⟨s,rfl,hs1,hs2,hsA,hsb1,hsb2,ba⟩
    have HS1:Hid (s.l1=_):=hs1
    have HS2:Hid (s.l2=_):=hs2
    clear hs1 hs2
    refine ⟨_,rfl,hK.out _ _ (hHb.trans (ba.mono hHb.size)) (fun hHc=>?_)⟩
    clear hK K'
    simp only [Act.put,zqa,zqb,zqc]
    obtain ⟨okx,hokx⟩:∃ okx,M.execOk ll x.1 x.2=okx:=⟨_,rfl⟩
    rw [hokx]
    clear hokx
    have hbx:=(ba.block Sb (by omega)).trans hnew
    have hsAb:=hsA
    have hsO:∀ k,BlkS s k→k≠Sb:=fun k hk e=>by rcases hk with ⟨_,rfl⟩ | ⟨_,rfl⟩<;>omega
    refine tk 6 20 (.tuple #[.agg #[.slice s.a1 s.l1.length s.c1,.slice s.a2 s.l2.length s.c2],.bool okx]) hHc rfl rfl (by intro w' hSw;go_simp) ?_
    simp only [Act.put,zqa,zqb,zqc]
    refine tk 7 27 (.agg #[.slice s.a1 s.l1.length s.c1,.slice s.a2 s.l2.length s.c2]) hHc rfl rfl (by intro w' hSw;go_simp) ?_
    simp only [Act.put,zqa,zqb,zqc]
    refine tk 8 28 (.bool okx) hHc rfl rfl (by intro w' hSw;go_simp) ?_
    simp only [Act.put,zqa,zqb,zqc]
    refine ry 10 rfl (fun K' hK=>?_)
    have r0:=(cellsOf hbx 0).trans (show _=some (Value.slice none 0 0) from rfl)
    have r1:=(cellsOf hbx 1).trans (show _=some (Value.slice none 0 0) from rfl)
    have fz:=frozOf hbx
    rw [if_pos (by rfl)]
    go_simp
    clear fz r0 r1
    have hbz:=heap_setCell_same _ Sb 1 _ _ (.slice s.a2 s.l2.length s.c2) (heap_setCell_same Wa Sb 0 _ _ (.slice s.a1 s.l1.length s.c1) hbx)
    have hzz:Below wr.heap.size wr ((Wa.setCell ⟨Sb,0,none⟩ (.slice s.a1 s.l1.length s.c1)).setCell ⟨Sb,1,none⟩ (.slice s.a2 s.l2.length s.c2)):=(hHc.setCell (p:=⟨Sb,0,none⟩) hSb _).setCell (p:=⟨Sb,1,none⟩) hSb _
    have hsAz:s.At ((Wa.setCell ⟨Sb,0,none⟩ (.slice s.a1 s.l1.length s.c1)).setCell ⟨Sb,1,none⟩ (.slice s.a2 s.l2.length s.c2)):=hsAb.fr (O:=fun k=>k≠Sb) (((Fr.refl _ Wa).setCell _ (fun h=>h rfl)).setCell _ (fun h=>h rfl)) hsO
    refine hK.out _ _ hzz (fun _=>?_)
    clear hK K'
    generalize (Wa.setCell ⟨Sb,0,none⟩ (.slice s.a1 s.l1.length s.c1)).setCell ⟨Sb,1,none⟩ (.slice s.a2 s.l2.length s.c2)=Wz at *
    refine ry 11 rfl (fun K' hK=>?_)
    rw [if_pos (by rfl)]
    go_simp
    refine hK.out _ _ hzz (fun _=>?_)
    clear hK K'
    refine wpAnyH_done (by kernel_rfl) ?_ _
    have z0:=(cellsOf hbz 0).trans (show _=some (Value.slice s.a1 s.l1.length s.c1) from rfl)
    have z1:=(cellsOf hbz 1).trans (show _=some (Value.slice s.a2 s.l2.length s.c2) from rfl)
    have fS0:∀ w',Below Wz.heap.size Wz w'→w'.cell? ⟨Sb,0,none⟩=some (.slice s.a1 s.l1.length s.c1):=fun w' h=>cellC h z0
    have fS1:∀ w',Below Wz.heap.size Wz w'→w'.cell? ⟨Sb,1,none⟩=some (.slice s.a2 s.l2.length s.c2):=fun w' h=>cellC h z1
    have gP:=fun w' (h:Below Wz.heap.size Wz w')=>fP w' (hzz.trans (h.mono hzz.size))
    have gT0:=fun w' (h:Below Wz.heap.size Wz w')=>fT0 w' (hzz.trans (h.mono hzz.size))
    have gT1:=fun w' (h:Below Wz.heap.size Wz w')=>fT1 w' (hzz.trans (h.mono hzz.size))
    have gX0:=fun w' (h:Below Wz.heap.size Wz w')=>fX0 w' (hzz.trans (h.mono hzz.size))
    have gX1:=fun w' (h:Below Wz.heap.size Wz w')=>fX1 w' (hzz.trans (h.mono hzz.size))
    have CL:=fun w' (h:Below Wz.heap.size Wz w')=>l2Seen_any s t w' ⟨by rw [HS1.out];exact hsle.1,by rw [HS2.out];exact hsle.2⟩ ht (hsAz.below h (Nat.le_refl _)) (ht1.below ((hb.trans (hzz.mono hb.size)).trans (h.mono (Nat.le_trans hb.size hzz.size))) (Nat.le_refl _))
    rw [HS1.out,HS2.out] at CL
    clear fP fT0 fT1 fX0 fX1 q1 q2 z0 z1 hbz
    go_wp2_with fail
    refine wp_region_held_drew (S:=fun w'=>Below Wz.heap.size Wz w') (by kernel_rfl) (Below.refl _ _).drew (fun hJ=>?_)
    refine tk 0 29 (.agg #[.slice s.a1 s.l1.length s.c1,.slice s.a2 s.l2.length s.c2]) hJ rfl rfl (by intro w' hSw;have hc0:=fS0 w' hSw;have hc1:=fS1 w' hSw;go_simp) ?_
    simp only [Act.put,zqa,zqb,zqc]
    refine tk 1 30 (.agg #[.slice t.a1 t.l1.length t.c1,.slice t.a2 t.l2.length t.c2]) hJ rfl rfl (by intro w' hSw;have hc0:=gT0 w' hSw;have hc1:=gT1 w' hSw;go_simp) ?_
    simp only [Act.put,zqa,zqb,zqc]
    refine ry 2 rfl (fun K' hK=>?_)
    refine sg 31 rfl 53 #[.tmp 29,.tmp 30] rfl #[.agg #[.slice s.a1 s.l1.length s.c1,.slice s.a2 s.l2.length s.c2],.agg #[.slice t.a1 t.l1.length t.c1,.slice t.a2 t.l2.length t.c2]] (enters_of Tryz.func53 (by kernel_rfl) rfl) (by rw [HS1.out,HS2.out];exact CL _ hJ) ?_
    rintro e Wy ⟨rfl,hgy⟩
    refine ⟨_,rfl,hK.out _ _ (hJ.trans (hgy.bel.mono hJ.size)) (fun hJ1=>?_)⟩
    clear hK K' CL
    simp only [Act.put,zqa,zqb,zqc]
    obtain ⟨z,hz⟩:∃ z,M.cmpS (M.execSeen ll x.1 x.2).1 (M.execSeen ll x.1 x.2).2 t.l1 t.l2=z:=⟨_,rfl⟩
    have HZ:Hid (M.cmpS (M.execSeen ll x.1 x.2).1 (M.execSeen ll x.1 x.2).2 t.l1 t.l2=z):=hz
    rw [hz]
    clear hz
    by_cases h0:z=0
    ·subst h0
     refine tk 3 32 (.bool true) hJ1 rfl rfl (by intro w' hSw;go_simp) ?_
     simp only [Act.put,zqa,zqb,zqc]
     refine tk 4 33 (.bool true) hJ1 rfl rfl (by intro w' hSw;go_simp) ?_
     simp only [Act.put,zqa,zqb,zqc]
     refine tk 5 34 (.agg #[.slice a ll.length c]) hJ1 rfl rfl (by intro w' hSw;have hc0:=gP w' hSw;go_simp) ?_
     simp only [Act.put,zqa,zqb,zqc]
     refine tk 6 35 (.slice (some ⟨lg,0,none⟩) xs.length lc) hJ1 rfl rfl (by intro w' hSw;go_simp) ?_
     simp only [Act.put,zqa,zqb,zqc]
     refine tk 7 36 (.int .i64 n) hJ1 rfl rfl (by intro w' hSw;go_simp) ?_
     simp only [Act.put,zqa,zqb,zqc]
     refine tk 8 37 (.pointer (some ⟨lg,n * 2,none⟩)) hJ1 rfl rfl (by intro w' hSw;go_simp) ?_
     simp only [Act.put,zqa,zqb,zqc]
     refine tk 9 38 (.agg #[.slice fa x.1.length fc,.slice ra x.2.length rc]) hJ1 rfl rfl (by intro w' hSw;have hc0:=gX0 w' hSw;have hc1:=gX1 w' hSw;go_simp) ?_
     simp only [Act.put,zqa,zqb,zqc]
     refine tk 10 39 (.int .i64 kind) hJ1 rfl rfl (by intro w' hSw;go_simp) ?_
     simp only [Act.put,zqa,zqb,zqc]
     refine ry 11 rfl (fun K' hK=>?_)
     refine sg 40 rfl 22 #[.tmp 34,.tmp 38,.tmp 39] rfl #[.agg #[.slice a ll.length c],.agg #[.slice fa x.1.length fc,.slice ra x.2.length rc],.int .i64 kind] (enters_of Tryz.func22 (by kernel_rfl) rfl) (CHo _ (hzz.trans (hJ1.mono hzz.size))) ?_
     rintro e Wx ⟨rfl,hgx⟩
     refine ⟨_,rfl,hK.out _ _ (hJ1.trans (hgx.mono hJ1.size)) (fun hJ2=>?_)⟩
     clear hK K'
     simp only [Act.put,zqa,zqb,zqc]
     have HW:Hid (M.swhyGood ll t.l1 t.l2 kind x=M.orderHolds ll x.1 x.2 kind):=by show _=_;unfold M.swhyGood;rw [HZ.out];rfl
     obtain ⟨r,hr⟩:∃ r,M.orderHolds ll x.1 x.2 kind=r:=⟨_,rfl⟩
     rw [hr] at HW ⊢
     clear hr
     refine tk 12 41 (.bool r) hJ2 rfl rfl (by intro w' hSw;go_simp) ?_
     simp only [Act.put,zqa,zqb,zqc]
     refine wpAnyH_done (by kernel_rfl) ?_ _
     have hfin:=hzz.trans (hJ2.mono hzz.size)
     cases r
     ·have HNX:=HNO.out HW.out
      have bX:=hb.trans (hfin.mono hb.size)
      clear HZ HW HNO HYE
      go_wp2_with fail
      exact ⟨⟨n+1,by go_num,by omega,HNX,bX⟩,by simp [intOf];omega⟩
     ·have ANS:=FIY _ hfin HW.out
      have hRr:=fR _ hfin
      have r0:=(cellsOf hRr 0).trans (show _=some (Value.slice none 0 0) from rfl)
      have r1:=(cellsOf hRr 1).trans (show _=some (Value.slice none 0 0) from rfl)
      have fz:=frozOf hRr
      have x0:=gX0 _ hJ2
      have x1:=gX1 _ hJ2
      have E0:=heap_setCell_same _ (w.heap.size+2) 1 _ _ (.slice ra x.2.length rc) (heap_setCell_same _ (w.heap.size+2) 0 _ _ (.slice fa x.1.length fc) hRr)
      clear HZ HW HNO HYE
      go_wp2_with fail
      exact bodyPost_ret (swy_results rfl _ _ (w.heap.size+2) (.slice fa x.1.length fc) (.slice ra x.2.length rc) (.bool true) rfl rfl ((cellsOf E0 0).trans rfl) ((cellsOf E0 1).trans rfl)) rfl ⟨_,rfl,ANS⟩
    ·have HW:Hid ((xs.take (n+1)).find? (M.swhyGood ll t.l1 t.l2 kind)=none):=HNO.out (by unfold M.swhyGood;rw [HZ.out];simp [h0])
     have bX:=hb.trans ((hzz.trans (hJ1.mono hzz.size)).mono hb.size)
     clear HZ HNO HYE
     refine tk 3 32 (.bool false) hJ1 rfl rfl (by intro w' hSw;clear hSw;(first | (go_simp;done) | (go_simp;simp [h0]) | simp [go_sem,h0])) ?_
     simp only [Act.put,zqa,zqb,zqc]
     refine tk 4 33 (.bool false) hJ1 rfl rfl (by intro w' hSw;go_simp) ?_
     simp only [Act.put,zqa,zqb,zqc]
     refine tz 5 34 hJ1 rfl rfl ?_
     simp only [Act.put,zqa,zqb,zqc]
     refine tz 6 35 hJ1 rfl rfl ?_
     simp only [Act.put,zqa,zqb,zqc]
     refine tz 7 36 hJ1 rfl rfl ?_
     simp only [Act.put,zqa,zqb,zqc]
     refine tz 8 37 hJ1 rfl rfl ?_
     simp only [Act.put,zqa,zqb,zqc]
     refine tz 9 38 hJ1 rfl rfl ?_
     simp only [Act.put,zqa,zqb,zqc]
     refine tz 10 39 hJ1 rfl rfl ?_
     simp only [Act.put,zqa,zqb,zqc]
     refine tz 11 40 hJ1 rfl rfl ?_
     simp only [Act.put,zqa,zqb,zqc]
     refine tk 12 41 (.bool false) hJ1 rfl rfl (by intro w' hSw;go_simp) ?_
     simp only [Act.put,zqa,zqb,zqc]
     refine wpAnyH_done (by kernel_rfl) ?_ _
     clear hJ1
     go_wp2_with fail
     exact ⟨⟨n+1,by go_num,by omega,HW,bX⟩,by simp [intOf];omega⟩
  ·have i1:¬ (n:Int) < xs.length:=by omega
   have e1:xs.take n=xs:=List.take_of_length_le (by omega)
   rw [e1] at HN
   have hRr:=(hb.block _ (by omega)).trans hR1
   have r0:=(cellsOf hRr 0).trans (show _=some (Value.slice none 0 0) from rfl)
   have r1:=(cellsOf hRr 1).trans (show _=some (Value.slice none 0 0) from rfl)
   have fz:=frozOf hRr
   have HNN:Hid (M.swhyExec ll t.l1 t.l2 kind=none):=by show _=_;rw [HXS.out,HN.out]
   have E0:=heap_setCell_same _ (w.heap.size+2) 1 _ _ (.slice none 0 0) (heap_setCell_same wr (w.heap.size+2) 0 _ _ (.slice none 0 0) hRr)
   have bF:Below w.heap.size w ((wr.setCell ⟨w.heap.size+2,0,none⟩ (.slice none 0 0)).setCell ⟨w.heap.size+2,1,none⟩ (.slice none 0 0)):=((bw1.trans (hb.mono bw1.size)).setCell (by show w.heap.size≤w.heap.size+2;omega) _).setCell (by show w.heap.size≤w.heap.size+2;omega) _
   clear HXS HN e1
   go_wp2_with fail
   exact bodyPost_ret (swy_results rfl _ _ (w.heap.size+2) (.slice none 0 0) (.slice none 0 0) (.bool false) rfl rfl ((cellsOf E0 0).trans rfl) ((cellsOf E0 1).trans rfl)) rfl ⟨_,rfl,fun _=>rfl,fun x hx'=>by rw [HNN.out] at hx';(cases hx'),bF⟩
end
section
namespace M
theorem all_seenOkW {ll:List (List D)} {kind:Int}:∀ k∈orderAll ll kind,seenOk ll k.1 k.2=true:=fun k hk=>by
 obtain ⟨x,hx,rfl⟩:=mem_orderAll.1 hk
 have h:=(holds_parts_of hx).2
 have e:=exec_seenOk h
 have e2:execSeen ll x.1 x.2=seenOf ll x:=by simp [execSeen,h,seenOf]
 rw [e2] at e
 exact e
theorem find_same {α:Type} {p q:α→Bool}:∀ {xs:List α},(∀ x∈xs,p x=q x)→xs.find? p=xs.find? q
 | [],_=>rfl
 | x::xs,h=>by
  rw [List.find?_cons,List.find?_cons,h x (by simp),find_same fun y hy=>h y (by simp [hy])]
theorem swhyGood_eq {ll:List (List D)} {t1 t2:List Int} {k:Int} {x:Wy} (h:execOk ll x.1 x.2=true):swhyGood ll t1 t2 k x=whyGood ll t1 t2 k x:=by
 unfold swhyGood whyGood
 simp [execSeen,h]
theorem whyGood_mem {ll:List (List D)} {t1 t2:List Int} {k:Int} {x:Wy} (h:whyGood ll t1 t2 k x=true):orderHolds ll x.1 x.2 k=true∧seenOf ll x=(t1,t2)∧(t1,t2)∈orderAll ll k:=by
 unfold whyGood at h
 simp only [Bool.and_eq_true,beq_iff_eq] at h
 obtain ⟨h1,h2⟩:=h
 obtain ⟨e1,e2⟩:=cmpS_zero h1
 have e:seenOf ll x=(t1,t2):=by unfold seenOf;rw [e1,e2]
 exact ⟨h2,e,mem_orderAll.2 ⟨x,h2,e⟩⟩
theorem whyExec_some {ll:List (List D)} {t1 t2:List Int} {k:Int} {x:Wy} (h:whyExec ll t1 t2 k=some x):x∈ways (deeds ll)∧whyGood ll t1 t2 k x=true:=by
 unfold whyExec at h
 split at h
 ·exact ⟨List.mem_of_find?_eq_some h,List.find?_some h⟩
 ·cases h
theorem swhy_same (ll:List (List D)) (t1 t2:List Int) (k:Int):swhyExec ll t1 t2 k=whyExec ll t1 t2 k:=by
 have hall:∀ x∈specAll ll,swhyGood ll t1 t2 k x=whyGood ll t1 t2 k x:=fun x hx=>swhyGood_eq (mem_execAll.1 hx)
 unfold swhyExec
 rw [find_same hall]
 unfold whyExec
 cases hg:((decide (1≤k)&&decide (k≤3))&&seenOk ll t1 t2)
 ·rw [if_neg (by simp)]
  rw [List.find?_eq_none]
  intro x hx hgood
  obtain ⟨h1,h2,h3⟩:=whyGood_mem hgood
  have hp:=holds_parts_of h1
  have hs:=all_seenOkW _ h3
  rw [hp.1,hs] at hg
  cases hg
 ·rw [if_pos rfl]
  have hp:=(seenOk_len (Bool.and_eq_true_iff.1 hg).2).1
  unfold specAll
  rw [if_pos hp,← ways_eq (cop_deeds ll)]
end M
end
section
open Go.RowKit
theorem Slot1.ofB {w w':World} {b:Nat} {x:Value} (h:Slot1 w b x) (hb:w'.heap[b]?=w.heap[b]?):Slot1 w' b x :=
 ⟨(World.cell?_of_block (a:=⟨b,0,none⟩) hb).trans h.c,(World.frozen?_of_block (a:=⟨b,0,none⟩) hb).trans h.fz⟩
end
section
open Go.RowKit
set_option maxHeartbeats 1000000 in
set_option maxRecDepth 100000 in
theorem l71Kind_any (B rb p:Nat) (w:World) (hp:p≤900000) (h:Rdr w B rb p) :
  Calls Tryz.prog 49 #[.pointer (some ⟨rb,0,none⟩)] w fun e w'=>∃ r:Int,e=.returned (.int .i64 r)∧-1≤r∧r≤4∧Rdr w' B rb (p+2)∧But rb w w':=by
 have hlt:=h.lt
 go_enter Tryz.func49,Tryz.ntmps49
 go_wp2_with fail
 refine (pick_rdr B rb p 24 _ (by omega) (by omega) (by omega) h).mono ?_
 rintro e w1 ⟨r1,rfl,r10,r11,hr1,hb1⟩
 by_cases h0:r1=0
 ·subst h0
  have hal:=below1 w1 (.cells #[.int .i64 0,.int .i64 4,.int .i64 (-1)] 3)
  have hr2:=hr1.below hal (Nat.le_refl _)
  have hl1:=hb1.size
  go_wp2_with fail
  refine (pick_rdr B rb (p+1) 3 _ (by omega) (by omega) (by omega) hr2).mono ?_
  rintro e w2 ⟨r2,rfl,r20,r21,hr3,hb2⟩
  have c0:(w1.alloc (.cells #[.int .i64 0,.int .i64 4,.int .i64 (-1)] 3)).cell? ⟨w1.heap.size,0,none⟩=some (.int .i64 0):=by simp
  have c1:(w1.alloc (.cells #[.int .i64 0,.int .i64 4,.int .i64 (-1)] 3)).cell? ⟨w1.heap.size,1,none⟩=some (.int .i64 4):=by simp
  have c2:(w1.alloc (.cells #[.int .i64 0,.int .i64 4,.int .i64 (-1)] 3)).cell? ⟨w1.heap.size,2,none⟩=some (.int .i64 (-1)):=by simp
  have d0:=(hb2.cell (p:=⟨w1.heap.size,0,none⟩) (by simp) (by show w1.heap.size≠rb;omega)).trans c0
  have d1:=(hb2.cell (p:=⟨w1.heap.size,1,none⟩) (by simp) (by show w1.heap.size≠rb;omega)).trans c1
  have d2:=(hb2.cell (p:=⟨w1.heap.size,2,none⟩) (by simp) (by show w1.heap.size≠rb;omega)).trans c2
  have hbw:=(hb1.trans (But.of hal)).trans hb2
  clear c0 c1 c2 hal
  have hr:r2=0∨r2=1∨r2=2:=by omega
  rcases hr with rfl | rfl | rfl
  ·go_wp2_with fail
   go_ret
   exact ⟨_,rfl,by omega,by omega,hr3,hbw⟩
  ·go_wp2_with fail
   go_ret
   exact ⟨_,rfl,by omega,by omega,hr3,hbw⟩
  ·go_wp2_with fail
   go_ret
   exact ⟨_,rfl,by omega,by omega,hr3,hbw⟩
 ·have b0:(r1==0)=false:=by simp [h0]
  go_wp2_with fail
  refine (pick_rdr B rb (p+1) 3 _ (by omega) (by omega) (by omega) hr1).mono ?_
  rintro e w2 ⟨r2,rfl,r20,r21,hr3,hb2⟩
  go_wp2_with fail
  go_ret
  exact ⟨_,rfl,by (try rw [IntKind.wrap_i64]);omega,by (try rw [IntKind.wrap_i64]);omega,hr3,hb1.trans hb2⟩
end
section
open Go.RowKit
theorem own_numsC {w:World} {base:Nat} {v:Value} {l:List Int} (h:w.ownsRow base 3 1 v l.length (nums l)):∃ a g c,v=.slice a l.length c∧IntS w a g 0 l∧base≤g∧((a=none→c=0)∧l.length≤c):=by
 rcases h.2 with ⟨hv,hn⟩ | ⟨g,cap,cur,hv,hg,hh,hcp,r⟩
 ·have:l=[]:=List.length_eq_zero_iff.1 hn
  subst this
  exact ⟨none,base,0,hv,IntS.nil _ _ _ _,Nat.le_refl _,fun _=>rfl,Nat.le_refl _⟩
 ·refine ⟨_,g,cap,hv,⟨fun _=>rfl,fun i hi=>?_⟩,hg,(fun h=>by cases h),hcp⟩
  have hc:=h.cells (g:=g) (by rw [hv];rfl) i (.int .i64 l[i]) (by simp [nums,hi])
  rwa [Go.WideShapes.add_plain] at hc
set_option maxHeartbeats 2000000 in
set_option maxRecDepth 100000 in
theorem l71Seen_cap (B rb p:Nat) (a:Option Addr) (b o c:Nat) (ll:List (List M.D)) (w:World) (hp:p≤50000) (hl:ll.length≤1048576) (hls:∀ t∈ll,t.length≤1048576) (hn:M.nreads ll≤21) (h:Rdr w B rb p) (hd:DoSS w a b o ll) :
  Calls Tryz.prog 108 #[.pointer (some ⟨rb,0,none⟩),.agg #[.slice a ll.length c]] w fun e w'=>∃ s:Sn,e=.returned (.agg #[.slice s.a1 s.l1.length s.c1,.slice s.a2 s.l2.length s.c2])∧s.At w'∧s.Le 30∧w.heap.size≤s.b1∧w.heap.size≤s.b2∧((s.a1=none→s.c1=0)∧s.l1.length≤s.c1)∧∃ p':Nat,p'≤p+30∧Rdr w' B rb p'∧But rb w w':=by
 have hlt:=h.lt
 have hge:=h.ge
 obtain ⟨i0,hi,hz0,hz1,hz2⟩:=info_parts Tryz.infoInt
 go_enter Tryz.func108,Tryz.ntmps108
 go_wp2_with fail
 have hb4:=(below3 w (.cells #[.slice a ll.length c] 25) (.cells #[.slice none 0 0,.slice none 0 0] 45) (.cells #[] 3)).alloc (by simp;omega) (.cells #[.slice (some ⟨w.heap.size+1+1,0,none⟩) 0 0,.slice none 0 0] 45)
 have hS0:Slot2 ((((w.alloc (.cells #[.slice a ll.length c] 25)).alloc (.cells #[.slice none 0 0,.slice none 0 0] 45)).alloc (.cells #[] 3)).alloc (.cells #[.slice (some ⟨w.heap.size+1+1,0,none⟩) 0 0,.slice none 0 0] 45)) (w.heap.size+1+1+1) (.slice (some ⟨w.heap.size+1+1,0,none⟩) 0 0) (.slice none 0 0):=⟨alloc_new _ _ _ (by simp only [World.size_alloc])⟩
 have hR0:Slot2 ((((w.alloc (.cells #[.slice a ll.length c] 25)).alloc (.cells #[.slice none 0 0,.slice none 0 0] 45)).alloc (.cells #[] 3)).alloc (.cells #[.slice (some ⟨w.heap.size+1+1,0,none⟩) 0 0,.slice none 0 0] 45)) (w.heap.size+1) (.slice none 0 0) (.slice none 0 0):=⟨by rw [alloc_old _ _ _ (by simp only [World.size_alloc];omega),alloc_old _ _ _ (by simp only [World.size_alloc];omega)];exact alloc_new _ _ _ (by simp only [World.size_alloc])⟩
 have hE0:((((w.alloc (.cells #[.slice a ll.length c] 25)).alloc (.cells #[.slice none 0 0,.slice none 0 0] 45)).alloc (.cells #[] 3)).alloc (.cells #[.slice (some ⟨w.heap.size+1+1,0,none⟩) 0 0,.slice none 0 0] 45)).ownsRow w.heap.size 3 1 (.slice (some ⟨w.heap.size+1+1,0,none⟩) 0 0) 0 (nums []) :=
  ⟨rfl,Or.inr ⟨_,0,#[],rfl,by omega,by rw [alloc_old _ _ _ (by simp only [World.size_alloc];omega)];exact alloc_new _ _ _ (by simp only [World.size_alloc]),Nat.le_refl _,Nat.zero_le _,rfl,rfl⟩⟩
 have hr0:Rdr ((((w.alloc (.cells #[.slice a ll.length c] 25)).alloc (.cells #[.slice none 0 0,.slice none 0 0] 45)).alloc (.cells #[] 3)).alloc (.cells #[.slice (some ⟨w.heap.size+1+1,0,none⟩) 0 0,.slice none 0 0] 45)) B rb p:=(((h.alloc _).alloc _).alloc _).alloc _
 generalize ((((w.alloc (.cells #[.slice a ll.length c] 25)).alloc (.cells #[.slice none 0 0,.slice none 0 0] 45)).alloc (.cells #[] 3)).alloc (.cells #[.slice (some ⟨w.heap.size+1+1,0,none⟩) 0 0,.slice none 0 0] 45))=W at *
 refine (sreads_any a b o c ll _ hl hls (hd.below hb4 (Nat.le_refl _))).mono ?_
 rintro e w1 ⟨rfl,hb1⟩
 have hS1:=hS0.but (But.of (rb:=rb) hb1) (by omega)
 have hR1:=hR0.but (But.of (rb:=rb) hb1) (by omega)
 have hE1:=ownsRow_but hE0 (But.of (rb:=rb) hb1) hlt
 have hr1:=hr0.below hb1 (Nat.le_refl _)
 have hbw:But rb w w1:=(But.of hb4).trans (But.of hb1)
 generalize M.nreads ll=z0 at hn ⊢
 clear hS0 hR0 hE0 hr0 hb1 hb4 hd h hl hls
 obtain ⟨R,hRe⟩:∃ R,w.heap.size+1=R:=⟨_,rfl⟩
 obtain ⟨S,hSe⟩:∃ S,w.heap.size+1+1+1=S:=⟨_,rfl⟩
 rw [hSe] at hS1 ⊢
 rw [hRe] at hR1
 have he38:∀ args w,(callFunc 65 args).run Tryz.prog w=.ok (.enter 65 args) w:=enters_of Tryz.func65 (by kernel_rfl) rfl
 go_wp2_with fail
 go_loopw [6] (fun s6 wr=>∃ (l:List Int) (z:Int) (p':Nat) (v:Value),s6=.int .i64 z∧(l.length:Int)+z≤21∧l.length≤21∧p'≤p+l.length∧Slot2 wr S v (.slice none 0 0)∧Slot2 wr R (.slice none 0 0) (.slice none 0 0)∧wr.ownsRow w.heap.size 3 1 v l.length (nums l)∧Rdr wr B rb p'∧But rb w wr) (fun s6 _=>(intOf s6).toNat)
 case atStart=>exact ⟨[],z0,p,_,rfl,by simpa using hn,by simp,by simp,hS1,hR1,hE1,hr1,hbw⟩
 case round =>
  obtain ⟨l,z,p',v,rfl,hlz,hl21,hp',hS,hR,hE,hr,hb⟩:=hrel
  clear hS1 hR1 hE1 hr1 hbw
  have cS:=hS.c0
  have fS:=hS.fz
  have hSlt:=hS.lt
  have hsz:=hb.size
  by_cases hz:0 < z
  ·go_wp2_with fail
   go_region_law (first
    | (refine step_go2 (by rfl) 65 _ _ _ (by rfl) _ _ (by rfl) (by rfl) he38 (pick_rdr B rb p' 4 _ (by omega) (by omega) (by omega) hr.drew) ?_;rintro e w2 ⟨r2,rfl,r20,r21,hr2,hb2⟩;have hb2d:=(But.refl rb _).drew.trans hb2;have hS2:=hS.but hb2d (by omega);have cS2:=hS2.c0;have fS2:=hS2.fz;have hSlt2:=hS2.lt;have hsz2:=hb2d.size;have hE2:=ownsRow_but hE hb2d hlt;refine ⟨_,rfl,?_⟩)
    | (refine step_append_lies _ (by rfl) _ _ _ (by rfl) w.heap.size 3 i0 _ 1 8 Tryz.underlying26 hi hz0 hz1 hz2 rfl (by omega) v l.length (nums l) (by rfl) (hE2.alloc _) ⟨w2.heap.size,0,none⟩ 1 1 [.int .i64 r2] (by rfl) (by rfl) (World.news_of_block (cs:=#[.int .i64 r2]) (t:=3) (fr:=(0,0)) (heap_alloc_new w2 _)) (by simp [Value.oneCell']) (by omega) (by unfold maxLen;omega) (by omega) (by simp only [World.size_alloc];omega) (w2.heap.size+1) (by simp) ?_;intro g cap w3 hown3 hgr hat hltg;have hS3:=(hS2.but (rb:=rb) ((But.refl rb _).alloc (.cells #[.int .i64 r2] 3)) (by omega)).grown hgr (hE2.alloc _);have cS3:=hS3.c0;have fS3:=hS3.fz))
   all_goals
    have hge3:=own_ge hE2
    have hE3:w3.ownsRow w.heap.size 3 1 (.slice (some ⟨g,0,none⟩) (l.length+1) cap) (l++[r2]).length (nums (l++[r2])):=by
     rw [List.length_append];simpa [nums] using hown3
    have hS4:=hS3.set0 (.slice (some ⟨g,0,none⟩) (l.length+1) cap)
    have hE4:=own_slot (i:=0) hE3 hS3 (.slice (some ⟨g,0,none⟩) (l.length+1) cap)
    have hR4:=(((hR.but hb2d (by omega)).but (rb:=rb) ((But.refl rb _).alloc (.cells #[.int .i64 r2] 3)) (by omega)).grown hgr (hE2.alloc _)).far (b':=S) (i:=0) (by omega) (.slice (some ⟨g,0,none⟩) (l.length+1) cap)
    have hr4:=((hr2.alloc (.cells #[.int .i64 r2] 3)).grown hgr (fun k hk=>⟨by have:=hge3 k hk;omega,by have:=hge3 k hk;omega⟩)).setCell (b:=S) (i:=0) (by omega) (by omega) (.slice (some ⟨g,0,none⟩) (l.length+1) cap)
    have hb4:=(((hb.trans hb2d).alloc (.cells #[.int .i64 r2] 3)).grown hgr hge3).setCell (p:=⟨S,0,none⟩) (Or.inl (by show w.heap.size≤S;omega)) (.slice (some ⟨g,0,none⟩) (l.length+1) cap)
    clear hge3 hE3 hS3 cS3 fS3 hown3 hgr hat hltg hE2 hS2 cS2 fS2 hSlt2 hsz2 hb2d hb2 hr2 hS cS fS hSlt hR hE hr hb
    generalize w3.setCell ⟨S,0,none⟩ (.slice (some ⟨g,0,none⟩) (l.length+1) cap)=w4 at *
    go_wp2_with fail
    exact ⟨⟨l++[r2],z - 1,p'+1,_,rfl,by simp;omega,by simp;omega,by simp;omega,hS4,hR4,hE4,hr4,hb4⟩,by simp [intOf];omega⟩
  ·go_wp2_with fail
   have hvlt:∀ k,v.ownBlock=some k→k < wr.heap.size:=fun k hk=>(hE.lt k hk).2
   obtain ⟨B2,hB2⟩:∃ B2,wr.heap.size=B2:=⟨_,rfl⟩
   rw [hB2] at hvlt
   have hSB:S < B2:=by rw [← hB2];exact hSlt
   go_loopw [7] (fun s7 wr2=>∃ (m:List Int) (q':Nat) (v2:Value),s7=.int .i64 (m.length:Nat)∧m.length≤3∧q'≤p'+m.length∧Slot2 wr2 S v v2∧Slot2 wr2 R (.slice none 0 0) (.slice none 0 0)∧wr2.ownsRow w.heap.size 3 1 v l.length (nums l)∧wr2.ownsRow B2 3 1 v2 m.length (nums m)∧Rdr wr2 B rb q'∧But rb w wr2∧B2≤wr2.heap.size) (fun s7 _=>3 - (intOf s7).toNat)
   case atStart=>exact ⟨[],p',_,rfl,by simp,by simp,hS,hR,hE,World.ownsRow_nil _ _ _ _,hr,hb,by omega⟩
   case round =>
    obtain ⟨m,q',v2,rfl,hm3,hq',hS1,hR1,hE1,hF1,hr1,hb1,hBw⟩:=hrel
    clear hS hR hE hr hb cS fS hSlt hsz hB2
    have cS:=hS1.c1
    have fS:=hS1.fz
    have hSlt:=hS1.lt
    have hsz:=hb1.size
    by_cases hm:m.length < 3
    ·have hm':(m.length:Int) < 3:=by omega
     go_wp2_with fail
     go_region_law (first
      | (refine step_go2 (by rfl) 65 _ _ _ (by rfl) _ _ (by rfl) (by rfl) he38 (pick_rdr B rb q' 4 _ (by omega) (by omega) (by omega) hr1.drew) ?_;rintro e w2 ⟨r2,rfl,r20,r21,hr2,hb2⟩;have hb2d:=(But.refl rb _).drew.trans hb2;have hS2:=hS1.but hb2d (by omega);have cS2:=hS2.c1;have fS2:=hS2.fz;have hSlt2:=hS2.lt;have hsz2:=hb2d.size;have hE2:=ownsRow_but hE1 hb2d hlt;have hF2:=ownsRow_but hF1 hb2d (by omega);refine ⟨_,rfl,?_⟩)
      | (refine step_append_lies _ (by rfl) _ _ _ (by rfl) B2 3 i0 _ 1 8 Tryz.underlying26 hi hz0 hz1 hz2 rfl (by omega) v2 m.length (nums m) (by rfl) (hF2.alloc _) ⟨w2.heap.size,0,none⟩ 1 1 [.int .i64 r2] (by rfl) (by rfl) (World.news_of_block (cs:=#[.int .i64 r2]) (t:=3) (fr:=(0,0)) (heap_alloc_new w2 _)) (by simp [Value.oneCell']) (by omega) (by unfold maxLen;omega) (by omega) (by simp only [World.size_alloc];omega) (w2.heap.size+1) (by simp) ?_;intro g cap w3 hown3 hgr hat hltg;have hS3:=(hS2.but (rb:=rb) ((But.refl rb _).alloc (.cells #[.int .i64 r2] 3)) (by omega)).grown hgr (hF2.alloc _);have cS3:=hS3.c1;have fS3:=hS3.fz))
     all_goals
      have hge3:=own_ge hF2
      have hF3:w3.ownsRow B2 3 1 (.slice (some ⟨g,0,none⟩) (m.length+1) cap) (m++[r2]).length (nums (m++[r2])):=by
       rw [List.length_append];simpa [nums] using hown3
      have hE3:=(hE2.alloc (.cells #[.int .i64 r2] 3)).kept hgr (own_below hvlt hge3)
      have hS4:=hS3.set1 (.slice (some ⟨g,0,none⟩) (m.length+1) cap)
      have hE4:=own_slot (i:=1) hE3 hS3 (.slice (some ⟨g,0,none⟩) (m.length+1) cap)
      have hF4:=own_slot (i:=1) hF3 hS3 (.slice (some ⟨g,0,none⟩) (m.length+1) cap)
      have hR4:=(((hR1.but hb2d (by omega)).but (rb:=rb) ((But.refl rb _).alloc (.cells #[.int .i64 r2] 3)) (by omega)).grown hgr (hF2.alloc _)).far (b':=S) (i:=1) (by omega) (.slice (some ⟨g,0,none⟩) (m.length+1) cap)
      have hr4:=((hr2.alloc (.cells #[.int .i64 r2] 3)).grown hgr (fun k hk=>⟨by have:=hge3 k hk;omega,by have:=hge3 k hk;omega⟩)).setCell (b:=S) (i:=1) (by omega) (by omega) (.slice (some ⟨g,0,none⟩) (m.length+1) cap)
      have hb4:=(((hb1.trans hb2d).alloc (.cells #[.int .i64 r2] 3)).grown hgr (fun k hk=>by have:=hge3 k hk;omega)).setCell (p:=⟨S,1,none⟩) (Or.inl (by show w.heap.size≤S;omega)) (.slice (some ⟨g,0,none⟩) (m.length+1) cap)
      have hB4:B2≤(w3.setCell ⟨S,1,none⟩ (.slice (some ⟨g,0,none⟩) (m.length+1) cap)).heap.size:=by
       have:=hgr.size
       simp only [World.size_setCell,World.size_alloc] at *
       omega
      clear hge3 hE3 hF3 hS3 cS3 fS3 hown3 hgr hat hltg hE2 hF2 hS2 cS2 fS2 hSlt2 hsz2 hb2d hb2 hr2 hS1 cS fS hSlt hR1 hE1 hF1 hr1 hb1
      generalize w3.setCell ⟨S,1,none⟩ (.slice (some ⟨g,0,none⟩) (m.length+1) cap)=w4 at *
      go_wp2_with fail
      exact ⟨⟨m++[r2],q'+1,_,by simp,by simp;omega,by simp;omega,hS4,hR4,hE4,hF4,hr4,hb4,hB4⟩,by simp [intOf];omega⟩
    ·have hm':¬ (m.length:Int) < 3:=by omega
     go_wp2_with fail
     refine (pick_rdr B rb q' 16 _ (by omega) (by omega) (by omega) hr1).mono ?_
     rintro e w5 ⟨r5,rfl,r50,r51,hr5,hb5⟩
     have hS5:=hS1.but hb5 (by omega)
     have hR5:=hR1.but hb5 (by omega)
     have hE5:=ownsRow_but hE1 hb5 hlt
     have hF5:=ownsRow_but hF1 hb5 (by omega)
     have hb5':=hb1.trans hb5
     have hsz5:=hb5.size
     clear hS1 hR1 hE1 hF1 hb1 hb5 hr1 cS fS
     have hm3':Hid (m.length=3):=(by omega:m.length=3)
     by_cases h0:r5=0
     ·subst h0
      have cS:=hS5.c0
      have fS:=hS5.fz
      have hSlt5:=hS5.lt
      go_wp2_with (at_builtin;refine wpList_append_own _ rfl (.tmp 39) (.tmp 40) 26 rfl w.heap.size 3 i0 _ 1 8 Tryz.underlying26 hi hz0 hz1 hz2 rfl (by decide) _ _ _ rfl (hE5.alloc _) ⟨w5.heap.size,0,none⟩ 1 1 [.int .i64 0] rfl rfl ?c1 ?c2 ?c3 ?c4 ?c5 ?_)
      case c1 =>
       intro j u hj
       match j,hj with
       | 0,hj=>simp at hj;subst hj;simp [Addr.add]
      case c2=>intro u hu;simp at hu;subst hu;rfl
      case c3=>unfold maxLen;omega
      case c4=>omega
      case c5=>simp;omega
      intro v' w6 hown6 hg6 _
      have hE6:w6.ownsRow w.heap.size 3 1 v' (l++[0]).length (nums (l++[0])):=by
       rw [List.length_append];simpa [nums] using hown6
      obtain ⟨L,hLe,hLl⟩:∃ L:List Int,l++[0]=L∧L.length≤22:=⟨_,rfl,by simp;omega⟩
      rw [hLe] at hE6
      have hge6:=own_ge hE5
      have hF6:=(hF5.alloc (.cells #[.int .i64 0] 3)).kept hg6 (own_above hvlt (own_ge hF5))
      have hS6:=(hS5.but (rb:=rb) ((But.refl rb _).alloc (.cells #[.int .i64 0] 3)) (by omega)).grown hg6 (hE5.alloc _)
      have hR6:=(hR5.but (rb:=rb) ((But.refl rb _).alloc (.cells #[.int .i64 0] 3)) (by omega)).grown hg6 (hE5.alloc _)
      have hr6:=(hr5.alloc (.cells #[.int .i64 0] 3)).grown hg6 (fun k hk=>⟨by have:=hge6 k hk;omega,by have:=hge6 k hk;omega⟩)
      have hb6:=(hb5'.alloc (.cells #[.int .i64 0] 3)).grown hg6 hge6
      have cS6:=hS6.c0
      have fS6:=hS6.fz
      have hS7:=hS6.set0 v'
      have hR7:=hR6.far (b':=S) (i:=0) (by omega) v'
      have hE7:=own_slot (i:=0) hE6 hS6 v'
      have hF7:=own_slot (i:=0) hF6 hS6 v'
      have hr7:=hr6.setCell (b:=S) (i:=0) (by omega) (by omega) v'
      have hb7:=hb6.setCell (p:=⟨S,0,none⟩) (Or.inl (by show w.heap.size≤S;omega)) v'
      clear hge6 hE6 hF6 hown6 hg6 hr6 hb6 hR6 hS5 hR5 hE5 hF5 hr5 hb5' cS fS hSlt5
      have hR9:=hR7.set0 v'
      have hE9:=own_slot (i:=1) (own_slot (i:=0) hE7 hR7 v') hR9 v2
      have hF9:=own_slot (i:=1) (own_slot (i:=0) hF7 hR7 v') hR9 v2
      obtain ⟨a1,g1,c1,rfl,i1,ge1,nc1⟩:=own_numsC hE9
      obtain ⟨a2,g2,c2,rfl,i2,ge2,_⟩:=own_nums hF9
      have x0:=hS7.c0
      have x1:=hS7.c1
      have y0:=hR7.c0
      have y1:=hR7.c1
      have yf:=hR7.fz
      clear hE9 hF9 hR9
      go_wp2_with fail
      refine bodyPost_ret (v:=.agg #[.slice a1 L.length c1,.slice a2 m.length c2]) (by simp [results,Tryz.results108,go_sem,y0,y1]) rfl ⟨⟨a1,g1,0,c1,L,a2,g2,0,c2,m⟩,rfl,⟨i1,i2⟩,⟨by show L.length≤30;omega,by show m.length≤30;omega⟩,ge1,by show w.heap.size≤g2;omega,nc1,q'+1,by omega,?_,?_⟩
      ·exact (hr7.setCell (by omega) (by omega) _).setCell (by omega) (by omega) _
      ·exact (hb7.setCell (Or.inl (by show w.heap.size≤R;omega)) _).setCell (Or.inl (by show w.heap.size≤R;omega)) _
     have h0':(r5==0)=false:=by simpa using h0
     by_cases h1:r5=1
     ·subst h1
      obtain ⟨x,y,z',rfl⟩:=three hm3'.out
      obtain ⟨g2,cap2,rfl,gb2,glt2⟩:=hF5.form (by simp)
      have hcap:=own_cap hF5
      obtain ⟨n2,hn2⟩:∃ n2,[x,y,z'].length=n2:=⟨_,rfl⟩
      have hn3:n2=3:=by rw [← hn2];rfl
      rw [hn2] at hcap hF5 hS5
      subst hn3
      have x1:=hS5.c1
      have hSlt5:=hS5.lt
      have k0:=hF5.cellAt 0 (by decide)
      have kf:=hF5.frozenAt 0
      simp only [nums,List.map_cons,List.getElem?_cons_zero] at k0
      have e1:(0:Int) < 3:=by omega
      go_wp2_with fail
      go_region_law (first
       | (refine step_go2 (by rfl) 65 _ _ _ (by rfl) _ _ (by rfl) (by rfl) he38 (pick_rdr B rb (q'+1) 2 _ (by omega) (by omega) (by simp at hq';omega) (by first | exact hr5.drew | exact (hr5.alloc _).drew | exact hr5.drew.alloc _)) ?_;rintro e w6 ⟨r6,rfl,r60,r61,hr6,hb6⟩;obtain ⟨q6,rfl⟩:=Int.eq_ofNat_of_zero_le r60;obtain ⟨x6,hx6⟩:=pick2 q6 (by omega);have hb56:But rb w5 w6:=(by first | exact (But.refl rb _).drew.trans hb6 | exact ((But.refl rb _).alloc _).drew.trans hb6);have x6':=(hS5.but hb56 (by omega)).c1;have hSlt6:=(hS5.but hb56 (by omega)).lt;have k6:=(ownsRow_but hF5 hb56 (by omega)).cellAt 0 (by decide);have kf6:=(ownsRow_but hF5 hb56 (by omega)).frozenAt 0;simp only [nums,List.map_cons,List.getElem?_cons_zero] at k6;have gl6:g2 < w6.heap.size:=Nat.lt_of_lt_of_le glt2 hb56.size;have cA:=pick2_alloc w6 3 hx6;try (have cL:w6.cell? ⟨w5.heap.size,q6,none⟩=some (.int .i64 x6):=(hb6.cell (p:=⟨w5.heap.size,q6,none⟩) (by simp) (by show w5.heap.size≠rb;omega)).trans (pick2_alloc w5 3 hx6));clear hx6;refine ⟨_,rfl,?_⟩))
      all_goals
       have hF7:(w6.setCell ⟨g2,0,none⟩ (.int .i64 x6)).ownsRow B2 3 1 (.slice (some ⟨g2,0,none⟩) 3 cap2) 3 (nums [x6,y,z']):=((ownsRow_but hF5 hb56 (by omega)).stored 0 (.int .i64 x6)).1
       have hE7:=(ownsRow_but hE5 hb56 hlt).kept ((ownsRow_but hF5 hb56 (by omega)).stored 0 (.int .i64 x6)).2 (own_below (v':=.slice (some ⟨g2,0,none⟩) 3 cap2) hvlt (fun k hk=>by simp [Value.ownBlock] at hk;omega))
       have hS7:=(hS5.but hb56 (by omega)).far (b':=g2) (i:=0) (by omega) (.int .i64 x6)
       have hR7:=(hR5.but hb56 (by omega)).far (b':=g2) (i:=0) (by omega) (.int .i64 x6)
       have hr7:=hr6.setCell (b:=g2) (i:=0) (by omega) (by omega) (.int .i64 x6)
       have hb7:=(hb5'.trans hb56).setCell (p:=⟨g2,0,none⟩) (Or.inl (by show w.heap.size≤g2;omega)) (.int .i64 x6)
       obtain ⟨a1,g1,c1,rfl,_,_,nc1⟩:=own_numsC hE7
       clear k6 kf6 x6' hSlt6 cA hb6 hr6 hb56 hS5 hR5 hE5 hF5 hr5 hb5' x1 k0 kf
       generalize w6.setCell ⟨g2,0,none⟩ (.int .i64 x6)=W7 at *
       first
       | (
        have hR9:=hR7.set0 (.slice a1 l.length c1)
        have hE9:=own_slot (i:=1) (own_slot (i:=0) hE7 hR7 (.slice a1 l.length c1)) hR9 (.slice (some ⟨g2,0,none⟩) 3 cap2)
        have hF9:=own_slot (i:=1) (own_slot (i:=0) hF7 hR7 (.slice a1 l.length c1)) hR9 (.slice (some ⟨g2,0,none⟩) 3 cap2)
        have hr9:=(hr7.setCell (b:=R) (i:=0) (by omega) (by omega) (.slice a1 l.length c1)).setCell (b:=R) (i:=1) (by omega) (by omega) (.slice (some ⟨g2,0,none⟩) 3 cap2)
        have hb9:=(hb7.setCell (p:=⟨R,0,none⟩) (Or.inl (by show w.heap.size≤R;omega)) (.slice a1 l.length c1)).setCell (p:=⟨R,1,none⟩) (Or.inl (by show w.heap.size≤R;omega)) (.slice (some ⟨g2,0,none⟩) 3 cap2)
        obtain ⟨a1',g1',c1',ev,i1,ge1',_⟩:=own_nums hE9
        simp only [Value.slice.injEq] at ev
        obtain ⟨rfl,_,rfl⟩:=ev
        obtain ⟨a2',g2',c2',ev2,i2,ge2',_⟩:=own_nums (l:=[x6,y,z']) hF9
        simp only [Value.slice.injEq] at ev2
        obtain ⟨rfl,_,rfl⟩:=ev2
        have X0:=hS7.c0
        have X1:=hS7.c1
        have Y0:=hR7.c0
        have Y1:=hR7.c1
        have Yf:=hR7.fz
        clear hE9 hF9 hR9
        go_wp2_with fail
        refine bodyPost_ret (v:=.agg #[.slice a1 l.length c1,.slice (some ⟨g2,0,none⟩) 3 cap2]) (by simp [results,Tryz.results108,go_sem,Y0,Y1]) rfl ⟨⟨a1,g1',0,c1,l,some ⟨g2,0,none⟩,g2',0,cap2,[x6,y,z']⟩,rfl,⟨i1,i2⟩,⟨by show l.length≤30;omega,by show 3≤30;omega⟩,ge1',by show w.heap.size≤g2';omega,nc1,q'+2,by simp at hq' ⊢;omega,hr9,hb9⟩
        )
       | (
        have hE8:=hE7.alloc (.cells #[.int .i64 (-1),.int .i64 4] 3)
        have hF8:=hF7.alloc (.cells #[.int .i64 (-1),.int .i64 4] 3)
        have hS8:=hS7.but (rb:=rb) ((But.refl rb _).alloc (.cells #[.int .i64 (-1),.int .i64 4] 3)) (by omega)
        have hR8:=hR7.but (rb:=rb) ((But.refl rb _).alloc (.cells #[.int .i64 (-1),.int .i64 4] 3)) (by omega)
        have hr8:=hr7.alloc (.cells #[.int .i64 (-1),.int .i64 4] 3)
        have hb8:=hb7.alloc (.cells #[.int .i64 (-1),.int .i64 4] 3)
        clear hE7 hF7 hS7 hR7 hr7 hb7
        generalize W7.alloc (.cells #[.int .i64 (-1),.int .i64 4] 3)=W8 at *
        have hR9:=hR8.set0 (.slice a1 l.length c1)
        have hE9:=own_slot (i:=1) (own_slot (i:=0) hE8 hR8 (.slice a1 l.length c1)) hR9 (.slice (some ⟨g2,0,none⟩) 3 cap2)
        have hF9:=own_slot (i:=1) (own_slot (i:=0) hF8 hR8 (.slice a1 l.length c1)) hR9 (.slice (some ⟨g2,0,none⟩) 3 cap2)
        have hr9:=(hr8.setCell (b:=R) (i:=0) (by omega) (by omega) (.slice a1 l.length c1)).setCell (b:=R) (i:=1) (by omega) (by omega) (.slice (some ⟨g2,0,none⟩) 3 cap2)
        have hb9:=(hb8.setCell (p:=⟨R,0,none⟩) (Or.inl (by show w.heap.size≤R;omega)) (.slice a1 l.length c1)).setCell (p:=⟨R,1,none⟩) (Or.inl (by show w.heap.size≤R;omega)) (.slice (some ⟨g2,0,none⟩) 3 cap2)
        obtain ⟨a1',g1',c1',ev,i1,ge1',_⟩:=own_nums hE9
        simp only [Value.slice.injEq] at ev
        obtain ⟨rfl,_,rfl⟩:=ev
        obtain ⟨a2',g2',c2',ev2,i2,ge2',_⟩:=own_nums (l:=[x6,y,z']) hF9
        simp only [Value.slice.injEq] at ev2
        obtain ⟨rfl,_,rfl⟩:=ev2
        have X0:=hS8.c0
        have X1:=hS8.c1
        have Y0:=hR8.c0
        have Y1:=hR8.c1
        have Yf:=hR8.fz
        clear hE9 hF9 hR9
        go_wp2_with fail
        refine bodyPost_ret (v:=.agg #[.slice a1 l.length c1,.slice (some ⟨g2,0,none⟩) 3 cap2]) (by simp [results,Tryz.results108,go_sem,Y0,Y1]) rfl ⟨⟨a1,g1',0,c1,l,some ⟨g2,0,none⟩,g2',0,cap2,[x6,y,z']⟩,rfl,⟨i1,i2⟩,⟨by show l.length≤30;omega,by show 3≤30;omega⟩,ge1',by show w.heap.size≤g2';omega,nc1,q'+2,by simp at hq' ⊢;omega,hr9,hb9⟩
        )
     have h1':(r5==1)=false:=by simpa using h1
     by_cases h2:r5=2
     ·subst h2
      obtain ⟨x,y,z',rfl⟩:=three hm3'.out
      obtain ⟨g2,cap2,rfl,gb2,glt2⟩:=hF5.form (by simp)
      have hcap:=own_cap hF5
      obtain ⟨n2,hn2⟩:∃ n2,[x,y,z'].length=n2:=⟨_,rfl⟩
      have hn3:n2=3:=by rw [← hn2];rfl
      rw [hn2] at hcap hF5 hS5
      subst hn3
      have x0:=hS5.c0
      have x1:=hS5.c1
      have xf:=hS5.fz
      have k1:=hF5.cellAt 1 (by decide)
      have k2:=hF5.cellAt 2 (by decide)
      have e1:(3:Int)≤cap2:=by omega
      obtain ⟨a1,g1,c1,rfl,_,ge1,nc1⟩:=own_numsC hE5
      obtain ⟨u,hu⟩:∃ u,Value.slice (some ⟨g2,1,none⟩) 2 (cap2 - 1)=u:=⟨_,rfl⟩
      have hS6:=hS5.set1 u
      have hR6:=hR5.far (b':=S) (i:=1) (by omega) u
      have hR7:=hR6.set0 (.slice a1 l.length c1)
      have hE8:=own_slot (i:=1) (own_slot (i:=0) (own_slot (i:=1) hE5 hS5 u) hR6 (.slice a1 l.length c1)) hR7 u
      have hF8:=own_slot (i:=1) (own_slot (i:=0) (own_slot (i:=1) hF5 hS5 u) hR6 (.slice a1 l.length c1)) hR7 u
      have hr8:=((hr5.setCell (b:=S) (i:=1) (by omega) (by omega) u).setCell (b:=R) (i:=0) (by omega) (by omega) (.slice a1 l.length c1)).setCell (b:=R) (i:=1) (by omega) (by omega) u
      have hb8:=((hb5'.setCell (p:=⟨S,1,none⟩) (Or.inl (by show w.heap.size≤S;omega)) u).setCell (p:=⟨R,0,none⟩) (Or.inl (by show w.heap.size≤R;omega)) (.slice a1 l.length c1)).setCell (p:=⟨R,1,none⟩) (Or.inl (by show w.heap.size≤R;omega)) u
      subst hu
      have x6:=hS6.c0
      have y0:=hR6.c0
      have y1:=hR6.c1
      have yf:=hR6.fz
      have k1:=hF8.cellAt 1 (by decide)
      have k2:=hF8.cellAt 2 (by decide)
      obtain ⟨a1',g1',c1',ev,i1,ge1',_⟩:=own_nums hE8
      simp only [Value.slice.injEq] at ev
      obtain ⟨rfl,_,rfl⟩:=ev
      clear hE8 hF8 hR7
      go_wp2_with fail
      refine bodyPost_ret (v:=.agg #[.slice a1 l.length c1,.slice (some ⟨g2,1,none⟩) 2 (cap2 - 1)]) (by simp [results,Tryz.results108,go_sem,y0,y1]) rfl ⟨⟨a1,g1',0,c1,l,some ⟨g2,1,none⟩,g2,1,cap2 - 1,[y,z']⟩,rfl,⟨i1,⟨fun _=>rfl,fun i hi=>?_⟩⟩,⟨by show l.length≤30;omega,by show 2≤30;omega⟩,ge1',by show w.heap.size≤g2;omega,nc1,q'+1,by simp at hq' ⊢;omega,hr8,hb8⟩
      match i,hi with
      | 0,_=>exact k1
      | 1,_=>exact k2
     have h2':(r5==2)=false:=by simpa using h2
     have hR9:=hR5.set0 v
     have hE9:=own_slot (i:=1) (own_slot (i:=0) hE5 hR5 v) hR9 v2
     have hF9:=own_slot (i:=1) (own_slot (i:=0) hF5 hR5 v) hR9 v2
     obtain ⟨a1,g1,c1,rfl,i1,ge1,nc1⟩:=own_numsC hE9
     obtain ⟨a2,g2,c2,rfl,i2,ge2,_⟩:=own_nums hF9
     have x0:=hS5.c0
     have x1:=hS5.c1
     have y0:=hR5.c0
     have y1:=hR5.c1
     have yf:=hR5.fz
     clear hE9 hF9 hR9
     go_wp2_with fail
     refine bodyPost_ret (v:=.agg #[.slice a1 (l).length c1,.slice a2 m.length c2]) (by simp [results,Tryz.results108,go_sem,y0,y1]) rfl ⟨⟨a1,g1,0,c1,l,a2,g2,0,c2,m⟩,rfl,⟨i1,i2⟩,⟨by show (l).length≤30;omega,by show m.length≤30;omega⟩,ge1,by show w.heap.size≤g2;omega,nc1,q'+1,by omega,?_,?_⟩
     ·exact (hr5.setCell (by omega) (by omega) _).setCell (by omega) (by omega) _
     ·exact (hb5'.setCell (Or.inl (by show w.heap.size≤R;omega)) _).setCell (Or.inl (by show w.heap.size≤R;omega)) _
end
section
open Go.RowKit
theorem M.tot_21w {ll:List (List M.D)} (f:Int→Bool) (h3:ll.length≤3) (h7:∀ t∈ll,t.length≤7):M.tot f ll≤21:=by
 have key:∀ l:List (List M.D),(∀ t∈l,t.length≤7)→M.tot f l≤7 * l.length:=fun l=>by
  induction l with
  | nil=>intro _;simp [M.tot]
  | cons t l ih =>
   intro h
   have h1:=ih (fun t ht=>h t (by simp [ht]))
   have h2:=h t (by simp)
   have h3:=M.cnt_le f t
   simp only [M.tot,List.length_cons]
   omega
 have:=key ll h7
 omega
theorem M.nreads_21w (ll:List (List M.D)):M.nreads ll≤21:=by
 cases hp:M.prog ll
 ·rw [M.nreads_no hp];omega
 ·obtain ⟨h3,h7⟩:=M.prog_le hp
  rw [M.nreads_ok hp];have:=M.tot_21w M.reads h3 h7;omega
set_option maxHeartbeats 4000000 in
set_option maxRecDepth 100000 in
set_option linter.unusedSimpArgs false in
theorem l71Why_any (B rb p:Nat) (kind:Int) (w:World) (hp:p≤1000) (h:Rdr w B rb p) :
  Calls Tryz.prog 50 #[.pointer (some ⟨rb,0,none⟩),.int .i64 kind] w fun e w'=>∃ (a:Option Addr) (g c:Nat) (mm:List (List M.D)) (s:Sn),e=.returned (.tuple #[.agg #[.slice a mm.length c],.agg #[.slice s.a1 s.l1.length s.c1,.slice s.a2 s.l2.length s.c2]])∧DoSN (w.heap.size+2) w' a g 0 mm∧Small mm c∧s.At w'∧s.Le 1048576∧(w.heap.size+2≤s.b1∧w.heap.size+2≤s.b2∧s.l1.length≤s.c1)∧∃ p':Nat,p'≤p+10200∧Rdr w' B rb p'∧But rb w w':=by
 have hlt:=h.lt
 have hge:=h.ge
 have hb0:=below2 w (.cells #[.slice none 0 0] 25) (.cells #[.slice none 0 0,.slice none 0 0] 45)
 have hR0:Slot1 ((w.alloc (.cells #[.slice none 0 0] 25)).alloc (.cells #[.slice none 0 0,.slice none 0 0] 45)) w.heap.size (.slice none 0 0):=(Slot1.new w _ _).ofB (alloc_old _ _ _ (by simp))
 have hQ0:Slot2 ((w.alloc (.cells #[.slice none 0 0] 25)).alloc (.cells #[.slice none 0 0,.slice none 0 0] 45)) (w.heap.size+1) (.slice none 0 0) (.slice none 0 0):=⟨alloc_new _ _ _ (by simp)⟩
 have hsz0:((w.alloc (.cells #[.slice none 0 0] 25)).alloc (.cells #[.slice none 0 0,.slice none 0 0] 45)).heap.size=w.heap.size+2:=by simp
 have hr0:=h.below hb0 (Nat.le_refl _)
 go_enter Tryz.func50,Tryz.ntmps50
 go_wp2_with fail
 generalize (w.alloc (.cells #[.slice none 0 0] 25)).alloc (.cells #[.slice none 0 0,.slice none 0 0] 45)=W0 at *
 refine (l71Any_any B rb p W0 (by omega) hr0).mono ?_
 rintro e w1 ⟨a,g,c,mm,rfl,hsn,hsm,p1,hp1,hr1,hb1⟩
 have hls:∀ t∈mm,t.length≤1048576:=fun t ht=>by have:=hsm.steps t ht;omega
 have hl3:mm.length≤1048576:=by have:=hsm.three;omega
 have hR1:=hR0.but hb1 (by omega)
 have hQ1:=hQ0.but hb1 (by omega)
 have sz1:=hb1.size
 have hbw1:But rb w w1:=(But.of hb0).trans hb1
 have bA:=below1 w1 (.cells #[.slice a mm.length c] 25)
 have hP2:Slot1 (w1.alloc (.cells #[.slice a mm.length c] 25)) w1.heap.size (.slice a mm.length c):=Slot1.new w1 _ _
 have hR2:=hR1.but (But.of (rb:=rb) bA) (by omega)
 have hQ2:=hQ1.but (But.of (rb:=rb) bA) (by omega)
 have hd2:=hsn.but (But.of (rb:=rb) bA) (by omega)
 have hr2:=hr1.below bA (Nat.le_refl _)
 have hb2:But rb w (w1.alloc (.cells #[.slice a mm.length c] 25)):=hbw1.trans (But.of bA)
 clear hR0 hQ0 hR1 hQ1 hsn hr1 hb1 hbw1 bA hb0 hr0 h
 go_wp2_with fail
 generalize w1.alloc (.cells #[.slice a mm.length c] 25)=W2 at *
 obtain ⟨P,hPe⟩:∃ P,w1.heap.size=P:=⟨_,rfl⟩
 rw [hPe] at hP2 ⊢
 have hPlt:w.heap.size+2≤P:=by omega
 have hPW:P < W2.heap.size:=hP2.lt
 have FIN:∀ (Wz:World) (s:Sn) (pk:Nat),Slot1 Wz w.heap.size (.slice none 0 0)→Slot2 Wz (w.heap.size+1) (.slice none 0 0) (.slice none 0 0)→DoSN (w.heap.size+2) Wz a g 0 mm→s.At Wz→s.Le 1048576→(w.heap.size+2≤s.b1∧w.heap.size+2≤s.b2∧s.l1.length≤s.c1)→Rdr Wz B rb pk→pk≤p+10200→But rb w Wz→∀ tm:Array Value,tm.getD 4 undef=.pointer (some ⟨w.heap.size,0,none⟩)→tm.getD 5 undef=.pointer (some ⟨w.heap.size+1,0,none⟩) →
   bodyPost Tryz.prog Tryz.f50 (fun e w'=>∃ (a:Option Addr) (g c:Nat) (mm:List (List M.D)) (s:Sn),e=.returned (.tuple #[.agg #[.slice a mm.length c],.agg #[.slice s.a1 s.l1.length s.c1,.slice s.a2 s.l2.length s.c2]])∧DoSN (w.heap.size+2) w' a g 0 mm∧Small mm c∧s.At w'∧s.Le 1048576∧(w.heap.size+2≤s.b1∧w.heap.size+2≤s.b2∧s.l1.length≤s.c1)∧∃ p':Nat,p'≤p+10200∧Rdr w' B rb p'∧But rb w w') .ret { tmps:=tm,defers:=[] } (((Wz.setCell ⟨w.heap.size,0,none⟩ (.slice a mm.length c)).setCell ⟨w.heap.size+1,0,none⟩ (.slice s.a1 s.l1.length s.c1)).setCell ⟨w.heap.size+1,1,none⟩ (.slice s.a2 s.l2.length s.c2)):=by
  intro Wz s pk hR hQ hd hsA hsL hsb hr hpk hb tm h4 h5
  have e1:=(((hR.set (.slice a mm.length c)).far (b':=w.heap.size+1) (i:=0) (by omega) (.slice s.a1 s.l1.length s.c1)).far (b':=w.heap.size+1) (i:=1) (by omega) (.slice s.a2 s.l2.length s.c2)).c
  have q:=((hQ.far (b':=w.heap.size) (i:=0) (by omega) (.slice a mm.length c)).set0 (.slice s.a1 s.l1.length s.c1)).set1 (.slice s.a2 s.l2.length s.c2)
  have e2:=q.c0
  have e3:=q.c1
  have h4':tm[4]?.getD undef=.pointer (some ⟨w.heap.size,0,none⟩):=by simpa using h4
  have h5':tm[5]?.getD undef=.pointer (some ⟨w.heap.size+1,0,none⟩):=by simpa using h5
  refine bodyPost_ret (v:=.tuple #[.agg #[.slice a mm.length c],.agg #[.slice s.a1 s.l1.length s.c1,.slice s.a2 s.l2.length s.c2]]) (by simp [results,Tryz.results50,go_sem,h4',h5',e1,e2,e3]) rfl ⟨a,g,c,mm,s,rfl,((hd.far (by omega)).far (by omega)).far (by omega),hsm,?_,hsL,hsb,pk,hpk,?_,?_⟩
  ·exact hsA.fr (O:=fun k=>w.heap.size+2≤k) ((((Fr.refl _ Wz).setCell _ (by show ¬ w.heap.size+2≤w.heap.size;omega)).setCell _ (by show ¬ w.heap.size+2≤w.heap.size+1;omega)).setCell _ (by show ¬ w.heap.size+2≤w.heap.size+1;omega)) (fun k hk=>by rcases hk with ⟨_,rfl⟩ | ⟨_,rfl⟩<;>omega)
  ·exact ((hr.setCell (by omega) (by omega) _).setCell (by omega) (by omega) _).setCell (by omega) (by omega) _
  ·exact ((hb.setCell (p:=⟨w.heap.size,0,none⟩) (Or.inl (Nat.le_refl _)) _).setCell (p:=⟨w.heap.size+1,0,none⟩) (Or.inl (Nat.le_succ _)) _).setCell (p:=⟨w.heap.size+1,1,none⟩) (Or.inl (Nat.le_succ _)) _
 have nPR:w.heap.size≠P:=by omega
 have nQP:w.heap.size+1≠P:=by omega
 have nRQ:w.heap.size≠w.heap.size+1:=by omega
 have nQR:w.heap.size+1≠w.heap.size:=by omega
 have hsz2:w.heap.size+2≤W2.heap.size:=by omega
 refine (sorderAllN_any a g 0 c mm kind W2 hl3 hls hd2.ss).mono ?_
 rintro e w3 ⟨gl,cap,tt,rfl,hk,hS,htl,htc,hnw,hb3⟩
 have HK:Hid (kys tt=M.sorderAll mm kind):=hk
 have hP4:=hP2.but (But.of (rb:=rb) hb3) (by omega)
 have hR4:=hR2.but (But.of (rb:=rb) hb3) (by omega)
 have hQ4:=hQ2.but (But.of (rb:=rb) hb3) (by omega)
 have hd4:=(hd2.but (But.of (rb:=rb) hb3) (by omega)).mono (N':=w.heap.size+2) (by omega)
 have hr4:=hr2.below hb3 (Nat.le_refl _)
 have hb4:=hb2.trans (But.of (rb:=rb) hb3)
 have hsz4:w.heap.size+2≤w3.heap.size:=Nat.le_trans hsz2 hb3.size
 clear hk hP2 hR2 hQ2 hd2 hr2 hb2
 by_cases h0:tt.length=0
 ·rw [h0]
  go_wp2_with fail
  have P3:=hP4.c
  have hr4d:=hr4.below (Below.refl _ _).drew (Nat.le_refl _)
  go_region_held3 (fun w'=>w'.cell? ⟨P,0,none⟩=some (.slice a mm.length c)) (go_keep) (first
   | (go_at_call 108;refine (l71Seen_cap B rb p1 a g 0 c mm _ (by omega) hl3 hls (M.nreads_21w mm) hr4d (hd4.ss.below (Below.refl _ _).drew (Nat.le_refl _))).mono ?_;rintro e w5 ⟨s,rfl,hsA,hsL,hsb1,hsb2,hscc,p5,hp5,hr5,hb5⟩;have bt:But rb w3 w5:=(But.refl rb w3).drew.trans hb5;have hRz:=hR4.but bt (by omega);have hQz:=hQ4.but bt (by omega);have P4:=(hP4.but bt (by omega)).c;have R6:=hRz.c;have R6f:=hRz.fz;have Q60:=hQz.c0;have Q61:=hQz.c1;have Q6f:=hQz.fz))
  have hF:=FIN w5 s p5 hRz hQz (hd4.but bt (by omega)) hsA ⟨by have:=hsL.1;omega,by have:=hsL.2;omega⟩ ⟨Nat.le_trans hsz4 hsb1,Nat.le_trans hsz4 hsb2,hscc.2⟩ hr5 (by omega) (hb4.trans bt)
  go_wp2_with fail
  exact hF _ rfl rfl
 ·have i1:¬ (tt.length:Int)=0:=by omega
  go_wp2_with fail
  refine (pick_rdr B rb p1 4 _ (by omega) (by omega) (by omega) hr4).mono ?_
  rintro e w4 ⟨r,rfl,r0,r1,hr5,hb5⟩
  have hP5:=hP4.but hb5 (by omega)
  have hR5:=hR4.but hb5 (by omega)
  have hQ5:=hQ4.but hb5 (by omega)
  have hd5:=hd4.but hb5 (by omega)
  have hb45:=hb4.trans hb5
  have hsz5:w.heap.size+2≤w4.heap.size:=Nat.le_trans hsz4 hb5.size
  by_cases h1:r=0
  ·subst h1
   clear hr4 hP4 hR4 hQ4 hd4 hb4 hsz4
   have hr4:=hr5
   have hP4:=hP5
   have hR4:=hR5
   have hQ4:=hQ5
   have hd4:=hd5
   have hb4:=hb45
   have hsz4:=hsz5
   clear hr5 hP5 hR5 hQ5 hd5 hb45 hsz5
   go_wp2_with fail
   have P3:=hP4.c
   have hr4d:=hr4.below (Below.refl _ _).drew (Nat.le_refl _)
   go_region_held3 (fun w'=>w'.cell? ⟨P,0,none⟩=some (.slice a mm.length c)) (go_keep) (first
    | (go_at_call 108;refine (l71Seen_cap B rb (p1+1) a g 0 c mm _ (by omega) hl3 hls (M.nreads_21w mm) hr4d (hd4.ss.below (Below.refl _ _).drew (Nat.le_refl _))).mono ?_;rintro e w5 ⟨s,rfl,hsA,hsL,hsb1,hsb2,hscc,p5,hp5,hr5,hb5⟩;have bt:But rb w4 w5:=(But.refl rb w4).drew.trans hb5;have hRz:=hR4.but bt (by omega);have hQz:=hQ4.but bt (by omega);have P4:=(hP4.but bt (by omega)).c;have R6:=hRz.c;have R6f:=hRz.fz;have Q60:=hQz.c0;have Q61:=hQz.c1;have Q6f:=hQz.fz))
   have hF:=FIN w5 s p5 hRz hQz (hd4.but bt (by omega)) hsA ⟨by have:=hsL.1;omega,by have:=hsL.2;omega⟩ ⟨Nat.le_trans hsz4 hsb1,Nat.le_trans hsz4 hsb2,hscc.2⟩ hr5 (by omega) (hb4.trans bt)
   go_wp2_with fail
   exact hF _ rfl rfl
  ·have i3:((tt.length:Int)==0)=false:=by rw [beq_eq_false_iff_ne];omega
   have i4:(r==0)=false:=by rw [beq_eq_false_iff_ne];exact h1
   have i5:¬ (((tt.length:Int)==0)=true∨(r==0)=true):=by rw [i3,i4];simp
   go_wp2_with fail
   have P3:=hP5.c
   have hr5d:=hr5.below (Below.refl _ _).drew (Nat.le_refl _)
   have hgl:gl < w3.heap.size:=World.block_lt_of_cell? _ _ (hS.sr.c 0 (by omega)).1
   have HL:Hid (∀ k∈kys tt,k.1.length≤1048576∧k.2.length≤1048576):=by show _;rw [HK.out,M.sorder_same];exact M.orderAll_le mm kind
   have HEL:Hid (∀ (q:Nat) (_:q < tt.length),∃ s:Sn,(∀ W:World,Fr (fun k=>k≠rb∧k≠w.heap.size∧k≠w.heap.size+1) w4 W→W.cell? ⟨gl,q * 2,none⟩=some (.slice s.a1 s.l1.length s.c1)∧W.cell? ⟨gl,q * 2+1,none⟩=some (.slice s.a2 s.l2.length s.c2)∧s.At W)∧s.Le 1048576∧w.heap.size+2≤s.b1∧w.heap.size+2≤s.b2∧s.l1.length≤s.c1):=by
    intro q hq
    have hm:=List.getElem_mem hq
    have hn2:=hnw.2 _ hm
    have hn1:=hnw.1
    refine ⟨tt[q],fun W hbW=>?_,(hS.at_ _ hm).2,by omega,by omega,hn2.2.2⟩
    obtain ⟨u0,u1⟩:=hS.sr.c q hq
    exact ⟨hbW.cell (p:=⟨gl,q * 2,none⟩) ⟨by show gl≠rb;omega,by show gl≠w.heap.size;omega,by show gl≠w.heap.size+1;omega⟩ ((hb5.cell (p:=⟨gl,q * 2,none⟩) hgl (by show gl≠rb;omega)).trans u0),hbW.cell (p:=⟨gl,q * 2+1,none⟩) ⟨by show gl≠rb;omega,by show gl≠w.heap.size;omega,by show gl≠w.heap.size+1;omega⟩ ((hb5.cell (p:=⟨gl,q * 2+1,none⟩) hgl (by show gl≠rb;omega)).trans u1),((hS.at_ _ hm).1.butO hb5 (by omega) (by omega)).fr hbW (fun k hk=>by rcases hk with ⟨_,rfl⟩ | ⟨_,rfl⟩<;>exact ⟨by omega,by omega,by omega⟩)⟩
   clear HL
   refine wp_region_held_drew (S:=fun w'=>Fr (fun k=>k≠rb∧k≠w.heap.size∧k≠w.heap.size+1) w4 w') (by kernel_rfl) ⟨rfl,rfl,rfl,Nat.le_refl _,fun _ _ _=>rfl⟩ (fun hH=>?_)
   refine tk 0 25 (.agg #[.slice a mm.length c]) hH rfl rfl (by intro w' hSw;have P6:=hSw.cell (p:=⟨P,0,none⟩) ⟨by show P≠rb;omega,by show P≠w.heap.size;omega,by show P≠w.heap.size+1;omega⟩ P3;go_simp) ?_
   simp only [Act.put,zqa,zqb,zqc]
   refine tk 1 26 (.slice (some ⟨gl,0,none⟩) tt.length cap) hH rfl rfl (by intro w' hSw;go_simp) ?_
   simp only [Act.put,zqa,zqb,zqc]
   refine tk 2 27 (.pointer (some ⟨rb,0,none⟩)) hH rfl rfl (by intro w' hSw;go_simp) ?_
   simp only [Act.put,zqa,zqb,zqc]
   refine tk 3 28 (.slice (some ⟨gl,0,none⟩) tt.length cap) hH rfl rfl (by intro w' hSw;go_simp) ?_
   simp only [Act.put,zqa,zqb,zqc]
   refine tk 4 29 (.int .i64 tt.length) hH rfl rfl (by intro w' hSw;go_simp) ?_
   simp only [Act.put,zqa,zqb,zqc]
   refine ry 5 rfl (fun K' hK=>?_)
   refine sg 30 rfl 65 #[.tmp 27,.tmp 29] rfl #[.pointer (some ⟨rb,0,none⟩),.int .i64 tt.length] (enters_of Tryz.func65 (by kernel_rfl) rfl) (pick_big B rb (p1+1) tt.length _ (by omega) (by omega) (by omega) hr5d) ?_
   rintro e w6 ⟨r6,rfl,r60,r61,hr6,hb6⟩
   obtain ⟨q,rfl⟩:∃ q:Nat,r6=q:=⟨r6.toNat,by omega⟩
   have hq:q < tt.length:=by omega
   have bt:But rb w4 w6:=(But.refl rb w4).drew.trans hb6
   refine ⟨_,rfl,hK.out _ _ ⟨bt.os,bt.tape,bt.output,bt.size,fun k hk hk'=>bt.block k hk hk'.1⟩ (fun hH1=>?_)⟩
   clear hK K'
   simp only [Act.put,zqa,zqb,zqc]
   obtain ⟨s,hu,hsL,hsb1,hsb2,hscc⟩:=HEL.out q hq
   have HU:Hid (∀ W:World,Fr (fun k=>k≠rb∧k≠w.heap.size∧k≠w.heap.size+1) w4 W→W.cell? ⟨gl,q * 2,none⟩=some (.slice s.a1 s.l1.length s.c1)∧W.cell? ⟨gl,q * 2+1,none⟩=some (.slice s.a2 s.l2.length s.c2)∧s.At W):=hu
   clear hu HEL
   have hRz:=hR5.but bt (by omega)
   have hQz:=hQ5.but bt (by omega)
   have iq:(q:Int) < tt.length:=by omega
   refine tk 6 31 (.pointer (some ⟨gl,q * 2,none⟩)) hH1 rfl rfl (by intro w' hSw;go_simp) ?_
   simp only [Act.put,zqa,zqb,zqc]
   refine tk 7 32 (.agg #[.slice s.a1 s.l1.length s.c1,.slice s.a2 s.l2.length s.c2]) hH1 rfl rfl (by intro w' hSw;obtain ⟨u0,u1,_⟩:=HU.out w' hSw;go_simp) ?_
   simp only [Act.put,zqa,zqb,zqc]
   refine ry 8 rfl (fun K' hK=>?_)
   have R6:=hRz.c
   have R6f:=hRz.fz
   rw [if_pos (by rfl)]
   go_simp
   refine hK.out _ _ (hH1.setCell _ (fun h=>h.2.1 rfl)) (fun _=>?_)
   clear hK K' R6 R6f
   have hQz2:=hQz.far (b':=w.heap.size) (i:=0) (by omega) (.slice a mm.length c)
   have Q60:=hQz2.c0
   have Q61:=hQz2.c1
   have Q6f:=hQz2.fz
   refine ry 9 rfl (fun K' hK=>?_)
   rw [if_pos (by rfl)]
   go_simp
   refine hK.out _ _ (((hH1.setCell _ (fun h=>h.2.1 rfl)).setCell _ (fun h=>h.2.2 rfl)).setCell _ (fun h=>h.2.2 rfl)) (fun _=>?_)
   clear hK K' hQz2 Q60 Q61 Q6f
   refine wpAnyH_done (by kernel_rfl) ?_ _
   have hF:=FIN w6 s (p1+1+1) hRz hQz (hd5.but bt (by omega)) (HU.out w6 hH1).2.2 hsL ⟨hsb1,hsb2,hscc⟩ hr6 (by omega) (hb45.trans bt)
   go_wp2_with fail
   exact hF _ rfl rfl
end
section
open Go.RowKit
structure WyDrawn (w w':World) (a:Option Addr) (g c:Nat) (mm:List (List M.D)) (s:Sn):Prop where
 sn:DoSN (w.heap.size+2) w' a g 0 mm
 sm:Small mm c
 at_:s.At w'
 le:s.Le 1048576
 b:w.heap.size+2≤s.b1∧w.heap.size+2≤s.b2∧s.l1.length≤s.c1
 bel:Below w.heap.size w w'
theorem wx_store {w Wz:World} {a:Option Addr} {g c:Nat} {mm:List (List M.D)} {s:Sn} (hR:Slot1 Wz w.heap.size (.slice none 0 0)) (hQ:Slot2 Wz (w.heap.size+1) (.slice none 0 0) (.slice none 0 0)) (h:WyDrawn w Wz a g c mm s) :
  WyDrawn w (((Wz.setCell ⟨w.heap.size,0,none⟩ (.slice a mm.length c)).setCell ⟨w.heap.size+1,0,none⟩ (.slice s.a1 s.l1.length s.c1)).setCell ⟨w.heap.size+1,1,none⟩ (.slice s.a2 s.l2.length s.c2)) a g c mm s ∧
  (((Wz.setCell ⟨w.heap.size,0,none⟩ (.slice a mm.length c)).setCell ⟨w.heap.size+1,0,none⟩ (.slice s.a1 s.l1.length s.c1)).setCell ⟨w.heap.size+1,1,none⟩ (.slice s.a2 s.l2.length s.c2)).cell? ⟨w.heap.size,0,none⟩=some (.slice a mm.length c) ∧
  (((Wz.setCell ⟨w.heap.size,0,none⟩ (.slice a mm.length c)).setCell ⟨w.heap.size+1,0,none⟩ (.slice s.a1 s.l1.length s.c1)).setCell ⟨w.heap.size+1,1,none⟩ (.slice s.a2 s.l2.length s.c2)).cell? ⟨w.heap.size+1,0,none⟩=some (.slice s.a1 s.l1.length s.c1) ∧
  (((Wz.setCell ⟨w.heap.size,0,none⟩ (.slice a mm.length c)).setCell ⟨w.heap.size+1,0,none⟩ (.slice s.a1 s.l1.length s.c1)).setCell ⟨w.heap.size+1,1,none⟩ (.slice s.a2 s.l2.length s.c2)).cell? ⟨w.heap.size+1,1,none⟩=some (.slice s.a2 s.l2.length s.c2):=by
 have hb:=h.b
 have e1:=(((hR.set (.slice a mm.length c)).far (b':=w.heap.size+1) (i:=0) (by omega) (.slice s.a1 s.l1.length s.c1)).far (b':=w.heap.size+1) (i:=1) (by omega) (.slice s.a2 s.l2.length s.c2)).c
 have q:=((hQ.far (b':=w.heap.size) (i:=0) (by omega) (.slice a mm.length c)).set0 (.slice s.a1 s.l1.length s.c1)).set1 (.slice s.a2 s.l2.length s.c2)
 refine ⟨⟨((h.sn.far (by omega)).far (by omega)).far (by omega),h.sm,?_,h.le,hb,((h.bel.setCell (p:=⟨w.heap.size,0,none⟩) (Nat.le_refl _) _).setCell (p:=⟨w.heap.size+1,0,none⟩) (Nat.le_succ _) _).setCell (p:=⟨w.heap.size+1,1,none⟩) (Nat.le_succ _) _⟩,e1,q.c0,q.c1⟩
 exact h.at_.fr (O:=fun k=>w.heap.size+2≤k) ((((Fr.refl _ Wz).setCell _ (by show ¬ w.heap.size+2≤w.heap.size;omega)).setCell _ (by show ¬ w.heap.size+2≤w.heap.size+1;omega)).setCell _ (by show ¬ w.heap.size+2≤w.heap.size+1;omega)) (fun k hk=>by rcases hk with ⟨_,rfl⟩ | ⟨_,rfl⟩<;>omega)
end
section
open Go.RowKit
set_option maxHeartbeats 4000000 in
set_option maxRecDepth 100000 in
set_option linter.unusedSimpArgs false in
theorem DrawWhyExec_any (ca:Option Addr) (cb co L C:Nat) (x:Nat→Int) (w:World) (hL:L≤C) (had:0 < L→ca=some ⟨cb,co,none⟩) (hc:∀ i,i < L→w.cell? ⟨cb,co+i,none⟩=some (.int .u8 (x i))∧0≤x i∧x i≤255) (hLb:L≤1048576) :
  Calls Tryz.prog 18 #[.slice ca L C] w fun e w'=>∃ (a:Option Addr) (g c:Nat) (mm:List (List M.D)) (s:Sn) (kind:Int),e=.returned (.tuple #[.agg #[.slice a mm.length c],.agg #[.slice s.a1 s.l1.length s.c1,.slice s.a2 s.l2.length s.c2],.int .i64 kind])∧WyDrawn w w' a g c mm s∧-1≤kind∧kind≤4:=by
 have hb0:=below2 w (.cells #[.slice none 0 0] 25) (.cells #[.slice none 0 0,.slice none 0 0] 45)
 have hR0:Slot1 ((w.alloc (.cells #[.slice none 0 0] 25)).alloc (.cells #[.slice none 0 0,.slice none 0 0] 45)) w.heap.size (.slice none 0 0):=(Slot1.new w _ _).ofB (alloc_old _ _ _ (by simp))
 have hQ0:Slot2 ((w.alloc (.cells #[.slice none 0 0] 25)).alloc (.cells #[.slice none 0 0,.slice none 0 0] 45)) (w.heap.size+1) (.slice none 0 0) (.slice none 0 0):=⟨alloc_new _ _ _ (by simp)⟩
 have hsz0:((w.alloc (.cells #[.slice none 0 0] 25)).alloc (.cells #[.slice none 0 0,.slice none 0 0] 45)).heap.size=w.heap.size+2:=by simp
 go_enter Tryz.func18,Tryz.ntmps18
 go_wp2_with fail
 generalize (w.alloc (.cells #[.slice none 0 0] 25)).alloc (.cells #[.slice none 0 0,.slice none 0 0] 45)=W0 at *
 refine (l6Open_any ca cb co L C x _ hL had (fun i hi=>⟨by rw [hb0.cell (p:=⟨cb,co+i,none⟩) (World.block_lt_of_cell? _ _ (hc i hi).1)];exact (hc i hi).1,(hc i hi).2⟩) hLb).mono ?_
 rintro e w1 ⟨rfl,hr1,hb1⟩
 rw [hsz0] at hr1 ⊢
 obtain ⟨rb,hrb⟩:∃ rb,w.heap.size+2=rb:=⟨_,rfl⟩
 rw [hrb] at hr1 ⊢
 have hb1w:Below w.heap.size w w1:=hb0.trans (hb1.mono (by omega))
 have hR1:=hR0.but (But.of (rb:=rb) hb1) (by omega)
 have hQ1:=hQ0.but (But.of (rb:=rb) hb1) (by omega)
 have hlt1:=hr1.lt
 clear hc had hb0 hb1 hR0 hQ0
 go_wp2_with fail
 refine (l71Kind_any _ rb 0 _ (by omega) hr1).mono ?_
 rintro e w2 ⟨kind,rfl,k0,k1,hr2,hb2⟩
 have hR2:=hR1.but hb2 (by omega)
 have hQ2:=hQ1.but hb2 (by omega)
 have hb2w:Below w.heap.size w w2:=But.below hb1w hb2 (by omega)
 clear hR1 hQ1 hr1
 go_wp2_with fail
 refine (l71Why_any _ rb (0+2) kind _ (by omega) hr2).mono ?_
 rintro e w3 ⟨a,g,c,mm,s,rfl,hsn,hsm,hsA,hsL,hsb,p3,hp3,hr3,hb3⟩
 have hR3:=hR2.but hb3 (by omega)
 have hQ3:=hQ2.but hb3 (by omega)
 have hlt12:=hb2.size
 have hlt2:=hb2w.size
 have hlt3:=hb3.size
 have hD:WyDrawn w w3 a g c mm s:=⟨hsn.mono (by omega),hsm,hsA,hsL,by omega,But.below hb2w hb3 (by omega)⟩
 clear hR2 hQ2 hr2 hr3 hsn hsA
 have hal:=below2 w3 (.cells #[.slice a mm.length c] 25) (.cells #[.slice s.a1 s.l1.length s.c1,.slice s.a2 s.l2.length s.c2] 45)
 have hP4:Slot1 ((w3.alloc (.cells #[.slice a mm.length c] 25)).alloc (.cells #[.slice s.a1 s.l1.length s.c1,.slice s.a2 s.l2.length s.c2] 45)) w3.heap.size (.slice a mm.length c):=(Slot1.new w3 _ _).ofB (alloc_old _ _ _ (by simp))
 have hS4:Slot2 ((w3.alloc (.cells #[.slice a mm.length c] 25)).alloc (.cells #[.slice s.a1 s.l1.length s.c1,.slice s.a2 s.l2.length s.c2] 45)) (w3.heap.size+1) (.slice s.a1 s.l1.length s.c1) (.slice s.a2 s.l2.length s.c2):=⟨alloc_new _ _ _ (by simp)⟩
 go_wp2_with fail
 generalize (w3.alloc (.cells #[.slice a mm.length c] 25)).alloc (.cells #[.slice s.a1 s.l1.length s.c1,.slice s.a2 s.l2.length s.c2] 45)=w4 at *
 have hR4:Slot1 w4 w.heap.size (.slice none 0 0):=hR3.ofB (hal.block _ (by omega))
 have hQ4:Slot2 w4 (w.heap.size+1) (.slice none 0 0) (.slice none 0 0):=hQ3.of (hal.block _ (by omega))
 have hD4:WyDrawn w w4 a g c mm s:=⟨hD.sn.but (But.of (rb:=w.heap.size) hal) (by omega),hD.sm,hD.at_.below hal (Nat.le_refl _),hD.le,hD.b,hD.bel.trans (hal.mono hD.bel.size)⟩
 have hs3:w.heap.size+2≤w3.heap.size:=by omega
 obtain ⟨hF,e1,e2,e3⟩:=wx_store (hR4.ofB (w':=w4.drew) rfl) (hQ4.of (w':=w4.drew) rfl) (⟨hD4.sn.but (But.refl w.heap.size w4).drew (by omega),hD4.sm,hD4.at_.below (Below.refl _ _).drew (Nat.le_refl _),hD4.le,hD4.b,hD4.bel.trans ((Below.refl _ _).drew.mono hD4.bel.size)⟩:WyDrawn w w4.drew a g c mm s)
 have hRd:=hR4.ofB (w':=w4.drew) rfl
 have hQd:=hQ4.of (w':=w4.drew) rfl
 have c1:=hP4.c
 have c2:=hS4.c0
 have c3:=hS4.c1
 refine wp_region_held_drew (S:=fun w'=>Fr (fun k=>k≠w.heap.size∧k≠w.heap.size+1) w4 w') (by kernel_rfl) ⟨rfl,rfl,rfl,Nat.le_refl _,fun _ _ _=>rfl⟩ (fun hH=>?_)
 generalize w4.drew=Wd at *
 refine tk 0 19 (.agg #[.slice a mm.length c]) hH rfl rfl (by intro w' hSw;have P6:=hSw.cell (p:=⟨w3.heap.size,0,none⟩) ⟨by show w3.heap.size≠w.heap.size;omega,by show w3.heap.size≠w.heap.size+1;omega⟩ c1;go_simp) ?_
 simp only [Act.put,zqa,zqb,zqc]
 refine tk 1 20 (.agg #[.slice s.a1 s.l1.length s.c1,.slice s.a2 s.l2.length s.c2]) hH rfl rfl (by intro w' hSw;have P6:=hSw.cell (p:=⟨w3.heap.size+1,0,none⟩) ⟨by show w3.heap.size+1≠w.heap.size;omega,by show w3.heap.size+1≠w.heap.size+1;omega⟩ c2;have P7:=hSw.cell (p:=⟨w3.heap.size+1,1,none⟩) ⟨by show w3.heap.size+1≠w.heap.size;omega,by show w3.heap.size+1≠w.heap.size+1;omega⟩ c3;go_simp) ?_
 simp only [Act.put,zqa,zqb,zqc]
 refine tk 2 21 (.int .i64 kind) hH rfl rfl (by intro w' hSw;go_simp) ?_
 simp only [Act.put,zqa,zqb,zqc]
 refine ry 3 rfl (fun K' hK=>?_)
 have R6:=hRd.c
 have R6f:=hRd.fz
 rw [if_pos (by rfl)]
 go_simp
 refine hK.out _ _ (hH.setCell _ (fun h=>h.1 rfl)) (fun _=>?_)
 clear hK K' R6 R6f
 have hQ2:=hQd.far (b':=w.heap.size) (i:=0) (by omega) (.slice a mm.length c)
 have Q60:=hQ2.c0
 have Q61:=hQ2.c1
 have Q6f:=hQ2.fz
 refine ry 4 rfl (fun K' hK=>?_)
 rw [if_pos (by rfl)]
 go_simp
 refine hK.out _ _ (((hH.setCell _ (fun h=>h.1 rfl)).setCell _ (fun h=>h.2 rfl)).setCell _ (fun h=>h.2 rfl)) (fun _=>?_)
 clear hK K' hQ2 Q60 Q61 Q6f
 refine ry 5 rfl (fun K' hK=>?_)
 rw [if_pos (by rfl)]
 go_simp
 refine hK.out _ _ (((hH.setCell _ (fun h=>h.1 rfl)).setCell _ (fun h=>h.2 rfl)).setCell _ (fun h=>h.2 rfl)) (fun _=>?_)
 clear hK K'
 refine wpAnyH_done (by kernel_rfl) ?_ _
 go_wp2_with fail
 exact bodyPost_ret (v:=.tuple #[.agg #[.slice a mm.length c],.agg #[.slice s.a1 s.l1.length s.c1,.slice s.a2 s.l2.length s.c2],.int .i64 kind]) (by simp [results,Tryz.results18,go_sem,e1,e2,e3]) rfl ⟨a,g,c,mm,s,kind,rfl,hF,k0,k1⟩
end
section
open Go.RowKit
namespace M
theorem why_ok {ll:List (List D)} {t1 t2:List Int} {k:Int} {x:Wy} (h:whyExec ll t1 t2 k=some x):execOk ll x.1 x.2=true:=(holds_parts_of (whyGood_mem (whyExec_some h).2).1).2
theorem why_le {ll:List (List D)} {x:Wy} (ho:execOk ll x.1 x.2=true):WyLe x:=by
 have hW:=M.wok_of ho
 have hb:=M.prog_le hW.prog
 have hdl:=M.deeds_len hb.1 hb.2
 refine ⟨by have:=hW.len.out;omega,by have:=hW.three.out;omega,fun r hr=>?_⟩
 simp only [M.execOk,M.wayOk,Bool.and_eq_true] at ho
 exact M.row_len ho.2.2.1 hdl r hr
theorem why_getD_le {ll:List (List D)} {t1 t2:List Int} {k:Int}:WyLe ((whyExec ll t1 t2 k).getD ([],[])):=by
 cases h:whyExec ll t1 t2 k with
 | none=>exact ⟨by simp,by simp,fun r hr=>(by cases hr)⟩
 | some x=>exact why_le (why_ok h)
end M
structure WyR (w w':World) (r:Option M.Wy) (v:Value):Prop where
 ex:∃ fa fb fc ra rb rc,v=.tuple #[.agg #[.slice fa (r.getD ([],[])).1.length fc,.slice ra (r.getD ([],[])).2.length rc],.bool r.isSome]∧IntS w' fa fb 0 (r.getD ([],[])).1∧IntSS w' ra rb 0 (r.getD ([],[])).2
 bel:Below w.heap.size w w'
theorem wyr_none {w w':World} {v:Value} (e:v=.tuple #[.agg #[.slice none 0 0,.slice none 0 0],.bool false]) (hb:Below w.heap.size w w'):WyR w w' none v :=
 ⟨⟨none,0,0,none,0,0,e,⟨fun h=>absurd h (Nat.lt_irrefl _),fun _ hi=>absurd hi (Nat.not_lt_zero _)⟩,⟨fun h=>absurd h (Nat.lt_irrefl _),fun _ hi=>absurd hi (Nat.not_lt_zero _)⟩⟩,hb⟩
theorem WhyAns.r {w w':World} {r:Option M.Wy} {v:Value} (h:WhyAns w w' r v):WyR w w' r v:=by
 cases r with
 | none=>exact wyr_none (h.no rfl) h.bel
 | some x =>
  obtain ⟨fv,ov,cs,rfl,hx⟩:=h.yes x rfl
  obtain ⟨fa,fb,fc,ra,rb,rc,rfl,rfl,i1,i2⟩:=hx.lw
  exact ⟨⟨fa,fb,fc,ra,rb,rc,rfl,i1,i2⟩,h.bel⟩
theorem SWhyAns.r {w w':World} {r:Option M.Wy} {v:Value} (h:SWhyAns w w' r v):WyR w w' r v:=by
 cases r with
 | none=>exact wyr_none (h.no rfl) h.bel
 | some x =>
  obtain ⟨fa,fb,fc,ra,rb,rc,rfl,i1,i2⟩:=h.yes x rfl
  exact ⟨⟨fa,fb,fc,ra,rb,rc,rfl,i1,i2⟩,h.bel⟩
structure BxY (w W:World) (P S:Nat) (a:Option Addr) (g c:Nat) (mm:List (List M.D)) (s:Sn):Prop where
 bel:Below w.heap.size w W
 p:Slot1 W P (.slice a mm.length c)
 sb:Slot2 W S (.slice s.a1 s.l1.length s.c1) (.slice s.a2 s.l2.length s.c2)
 ss:DoSS W a g 0 mm
 sa:s.At W
theorem BxY.below {w W W':World} {P S:Nat} {a:Option Addr} {g c:Nat} {mm:List (List M.D)} {s:Sn} (h:BxY w W P S a g c mm s) (hb:Below W.heap.size W W'):BxY w W' P S a g c mm s :=
 ⟨h.bel.trans (hb.mono h.bel.size),h.p.bel hb,h.sb.bel hb,h.ss.below hb (Nat.le_refl _),h.sa.below hb (Nat.le_refl _)⟩
theorem BxY.new {w w1:World} {a:Option Addr} {g c:Nat} {mm:List (List M.D)} {s:Sn} (hD:WyDrawn w w1 a g c mm s) :
  BxY w ((w1.alloc (.cells #[.slice a mm.length c] 25)).alloc (.cells #[.slice s.a1 s.l1.length s.c1,.slice s.a2 s.l2.length s.c2] 45)) w1.heap.size (w1.heap.size+1) a g c mm s:=by
 have b2:=below2 w1 (.cells #[.slice a mm.length c] 25) (.cells #[.slice s.a1 s.l1.length s.c1,.slice s.a2 s.l2.length s.c2] 45)
 exact ⟨hD.bel.trans (b2.mono hD.bel.size),(Slot1.new w1 (.slice a mm.length c) 25).bel (below1 _ _),⟨by
  have:=heap_alloc_new (w1.alloc (.cells #[.slice a mm.length c] 25)) (.cells #[.slice s.a1 s.l1.length s.c1,.slice s.a2 s.l2.length s.c2] 45)
  rwa [World.size_alloc] at this⟩,hD.sn.ss.below b2 (Nat.le_refl _),hD.at_.below b2 (Nat.le_refl _)⟩
structure SlotV (w:World) (b:Nat) (x y:Value):Prop where
 blk:w.heap[b]?=some (.cells #[x,y] 29 (0,0))
theorem SlotV.lt {w:World} {b:Nat} {x y:Value} (h:SlotV w b x y):b < w.heap.size:=by
 have:=h.blk
 rw [Array.getElem?_eq_some_iff] at this
 exact this.1
theorem SlotV.c0 {w:World} {b:Nat} {x y:Value} (h:SlotV w b x y):w.cell? ⟨b,0,none⟩=some x:=by simp [World.cell?,h.blk]
theorem SlotV.c1 {w:World} {b:Nat} {x y:Value} (h:SlotV w b x y):w.cell? ⟨b,1,none⟩=some y:=by simp [World.cell?,h.blk]
theorem SlotV.of {w w':World} {b:Nat} {x y:Value} (h:SlotV w b x y) (hb:w'.heap[b]?=w.heap[b]?):SlotV w' b x y:=⟨hb.trans h.blk⟩
theorem SlotV.bel {w w':World} {b:Nat} {x y:Value} (h:SlotV w b x y) (hb:Below w.heap.size w w'):SlotV w' b x y:=h.of (hb.block b h.lt)
structure BxWy (W:World) (X:Nat) (fa:Option Addr) (fb fc:Nat) (ra:Option Addr) (rb rc:Nat) (x:M.Wy):Prop where
 xb:SlotV W X (.slice fa x.1.length fc) (.slice ra x.2.length rc)
 f:IntS W fa fb 0 x.1
 o:IntSS W ra rb 0 x.2
theorem BxWy.below {W W':World} {X:Nat} {fa:Option Addr} {fb fc:Nat} {ra:Option Addr} {rb rc:Nat} {x:M.Wy} (h:BxWy W X fa fb fc ra rb rc x) (hb:Below W.heap.size W W'):BxWy W' X fa fb fc ra rb rc x :=
 ⟨h.xb.bel hb,h.f.below hb (Nat.le_refl _),h.o.below hb (Nat.le_refl _)⟩
theorem BxWy.new {W:World} {fa:Option Addr} {fb fc:Nat} {ra:Option Addr} {rb rc:Nat} {x:M.Wy} (h1:IntS W fa fb 0 x.1) (h2:IntSS W ra rb 0 x.2):BxWy (W.alloc (.cells #[.slice fa x.1.length fc,.slice ra x.2.length rc] 29)) W.heap.size fa fb fc ra rb rc x :=
 ⟨⟨heap_alloc_new W _⟩,h1.below (below1 W _) (Nat.le_refl _),h2.below (below1 W _) (Nat.le_refl _)⟩
end
section
open Go.RowKit Go.Shelf
theorem ret_trueY {b:Bool} (h:b=true):Ending.returned (.bool b)=.returned (.bool true):=by rw [h]
set_option maxHeartbeats 4000000 in
set_option maxRecDepth 100000 in
set_option linter.unusedSimpArgs false in
theorem lawYl_any (ca:Option Addr) (cb co L C:Nat) (x:Nat→Int) (w:World) (hL:L≤C) (had:0 < L→ca=some ⟨cb,co,none⟩) (hc:∀ i,i < L→w.cell? ⟨cb,co+i,none⟩=some (.int .u8 (x i))∧0≤x i∧x i≤255) :
  Calls Tryz.prog 6 #[.slice ca L C] w fun e w'=>e=.returned (.bool true)∧Below w.heap.size w w':=by
 by_cases hLb:L≤1048576
 ·go_enter Tryz.func6,Tryz.ntmps6
  go_wp2_with fail
  refine (DrawWhyExec_any ca cb co L C x _ hL had hc hLb).mono ?_
  rintro e w1 ⟨a,g,c,mm,s,kind,rfl,hD,k0,k1⟩
  have hls:=hD.sm.le
  have hl3:mm.length≤1048576:=by have:=hD.sm.three;omega
  have hsl:=hD.le
  have bx0:=BxY.new hD
  clear had hc hD
  go_wp2_with fail
  generalize (w1.alloc (.cells #[.slice a mm.length c] 25)).alloc (.cells #[.slice s.a1 s.l1.length s.c1,.slice s.a2 s.l2.length s.c2] 45)=W0 at *
  obtain ⟨S,hSe⟩:∃ S,w1.heap.size+1=S:=⟨_,rfl⟩
  rw [hSe] at bx0 ⊢
  clear hSe
  generalize w1.heap.size=P at *
  have CS:=fun (W:World) (h:BxY w W P S a g c mm s)=>swhyExec_any a g 0 c mm s kind W hl3 hls hsl h.ss h.sa
  have CI:=fun (W:World) (h:BxY w W P S a g c mm s)=>iwhyExec_any a g 0 c mm s kind W hl3 hls hsl h.ss h.sa
  have hxl:=M.why_getD_le (ll:=mm) (t1:=s.l1) (t2:=s.l2) (k:=kind)
  obtain ⟨r,hr⟩:∃ r,M.whyExec mm s.l1 s.l2 kind=r:=⟨_,rfl⟩
  have HR:Hid (M.whyExec mm s.l1 s.l2 kind=r):=hr
  rw [M.swhy_same] at CS
  rw [hr] at CI CS hxl
  clear hr
  have p0:=bx0.p.c
  have q0:=bx0.sb.c0
  have q1:=bx0.sb.c1
  refine (CS W0 bx0).mono ?_
  rintro e W1 ⟨v,rfl,hA⟩
  have hAR:=hA.r
  obtain ⟨fa,fb,fc,ra,rb,rc,rfl,hf,ho⟩:=hAR.ex
  have bx1:=(bx0.below hAR.bel).below (below1 W1 (.cells #[.slice fa (r.getD ([],[])).1.length fc,.slice ra (r.getD ([],[])).2.length rc] 29))
  have x1:=BxWy.new (fc:=fc) (rc:=rc) hf ho
  clear hA hAR hf ho bx0 p0 q0 q1 CS
  have p0:=bx1.p.c
  have q0:=bx1.sb.c0
  have q1:=bx1.sb.c1
  go_wp2_with fail
  generalize W1.alloc (.cells #[.slice fa (r.getD ([],[])).1.length fc,.slice ra (r.getD ([],[])).2.length rc] 29)=W2 at *
  generalize W1.heap.size=X1 at *
  refine (CI W2 bx1).mono ?_
  rintro e W3 ⟨v,rfl,hA⟩
  have hAR:=hA.r
  obtain ⟨ga,gb,gc,oa,ob,oc,rfl,hf,ho⟩:=hAR.ex
  have bx3:=(bx1.below hAR.bel).below (below1 W3 (.cells #[.slice ga (r.getD ([],[])).1.length gc,.slice oa (r.getD ([],[])).2.length oc] 29))
  have x3:=(x1.below hAR.bel).below (below1 W3 (.cells #[.slice ga (r.getD ([],[])).1.length gc,.slice oa (r.getD ([],[])).2.length oc] 29))
  have y3:=BxWy.new (fc:=gc) (rc:=oc) hf ho
  clear hA hAR hf ho bx1 p0 q0 q1 CI x1
  have p0:=bx3.p.c
  have q0:=bx3.sb.c0
  have q1:=bx3.sb.c1
  have u0:=x3.xb.c0
  have u1:=x3.xb.c1
  have v0:=y3.xb.c0
  have v1:=y3.xb.c1
  have CE:=fun (W:World) (h1:BxWy W X1 fa fb fc ra rb rc (r.getD ([],[]))) (h2:BxWy W W3.heap.size ga gb gc oa ob oc (r.getD ([],[])))=>lpExec_any (r.getD ([],[])) (r.getD ([],[])) ga gb gc oa ob oc fa fb fc ra rb rc W hxl.a hxl.b hxl.c h2.f h2.o h1.f h1.o
  have EE:M.eqWy (r.getD ([],[])) (r.getD ([],[]))=true:=by simp [M.eqWy]
  rw [EE] at CE
  clear EE
  obtain ⟨y,hy⟩:∃ y,r.getD ([],[])=y:=⟨_,rfl⟩
  have HYR:Hid (r.getD ([],[])=y):=hy
  simp only [hy] at hxl x3 y3 u0 u1 v0 v1 bx3 p0 q0 q1 CE ⊢
  clear hy
  cases r with
  | none =>
   simp only [Option.isSome_none]
   go_wp2_with fail
   generalize W3.alloc (.cells #[.slice ga y.1.length gc,.slice oa y.2.length oc] 29)=W4 at *
   generalize W3.heap.size=X3 at *
   refine (CE W4 x3 y3).mono ?_
   rintro e W5 ⟨rfl,b5⟩
   have bx5:=bx3.below b5
   have x5:=x3.below b5
   have y5:=y3.below b5
   clear u0 u1 v0 v1 p0 q0 q1
   have u0:=x5.xb.c0
   have u1:=x5.xb.c1
   have v0:=y5.xb.c0
   have v1:=y5.xb.c1
   go_wp2_with fail
   refine (CE W5 x5 y5).mono ?_
   rintro e W6 ⟨rfl,b6⟩
   have bx6:=bx5.below b6
   go_wp2_with fail
   go_ret
   exact ⟨rfl,bx6.bel⟩
  | some z =>
   simp only [Option.isSome_some]
   obtain rfl:z=y:=HYR.out
   obtain ⟨y,rfl⟩:∃ y,y=z:=⟨_,rfl⟩
   clear HYR
   obtain ⟨hy1,hy2⟩:=M.whyExec_some HR.out
   obtain ⟨hg1,hg2,_⟩:=M.whyGood_mem hy2
   have hyo:=M.why_ok HR.out
   have HG:Hid (M.orderHolds mm y.1 y.2 kind=true):=hg1
   have hse:M.execSeen mm y.1 y.2=(s.l1,s.l2):=by rw [← hg2];simp [M.execSeen,hyo,M.seenOf]
   have HSE:Hid (M.execSeen mm y.1 y.2=(s.l1,s.l2)):=hse
   have HYO:Hid (M.execOk mm y.1 y.2=true):=hyo
   clear hse hyo hg1 hg2 hy1 hy2 HR
   go_wp2_with fail
   generalize W3.alloc (.cells #[.slice ga y.1.length gc,.slice oa y.2.length oc] 29)=W4 at *
   generalize W3.heap.size=X3 at *
   refine (CE W4 x3 y3).mono ?_
   rintro e W5 ⟨rfl,b5⟩
   have bx5:=bx3.below b5
   have y5:=y3.below b5
   clear u0 u1 v0 v1 p0 q0 q1 x3 y3 b5 bx3 CE
   have p0:=bx5.p.c
   have v0:=y5.xb.c0
   have v1:=y5.xb.c1
   go_wp2_with fail
   obtain ⟨z,hz⟩:∃ z,M.orderLine mm y.1 y.2 kind=some z:=Option.isSome_iff_exists.1 (M.line_some.trans HG.out)
   obtain ⟨hz1,hz28⟩:=M.line_len hz
   have CL:=iorderLine_any a g 0 c mm ga gb 0 gc y.1 oa ob 0 oc y.2 kind W5 hl3 hls hxl.a hxl.b hxl.c bx5.ss y5.f y5.o
   rw [hz] at CL
   simp only [Option.getD_some,Option.isSome_some] at CL
   have hpg:M.prog mm=true:=by
    have:=HYO.out
    simp only [M.execOk,Bool.and_eq_true] at this
    exact this.1
   have hev:(M.evAll mm).length=z.length:=by rw [hz1];simp [M.evAll,hpg,M.events]
   have HEV:Hid ((M.evAll mm).length=z.length):=hev
   clear hz hz1 hev hpg HSE HYO HG
   refine CL.mono ?_
   rintro e W6 ⟨v6,rfl,hO,b6⟩
   obtain ⟨ja,jg,jc,rfl,-,-⟩:=own_intsR (l:=M.ints z) (by rw [M.ints_len];exact hO)
   rw [M.ints_len]
   have bx6:=bx5.below b6
   clear p0 v0 v1 bx5 y5 b6 hO CL
   have p0:=bx6.p.c
   go_wp2_with fail
   refine (iexecEvents_any a g 0 c mm W6 hl3 hls bx6.ss).mono ?_
   rintro e W7 ⟨v7,rfl,hown,b7⟩
   obtain ⟨va,gv,cv,rfl,-,-,-⟩:=own_rs M.Ev.len hown
   rw [HEV.out]
   have bx7:=bx6.below b7
   clear hown p0 bx6 b7
   go_wp2_with fail
   go_ret
   exact ⟨ret_trueY (by simp),bx7.bel⟩
 ·go_enter Tryz.func6,Tryz.ntmps6
  go_wp2_with fail
  go_ret
  exact ⟨rfl,Below.refl _ _⟩
end
end Go.Proofs.YtmhpgdliaclokaaGreat
