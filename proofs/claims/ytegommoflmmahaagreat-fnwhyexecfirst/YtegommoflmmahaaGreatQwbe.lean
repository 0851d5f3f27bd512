/- How many ways there are at most, more sharply; and rows of things of two cells. No condition. And what goes with it: WaSpec, SoMath, SoMem, SoCo, SoIn, WaAns, SpMath, SpPut. -/
import Derived.Maps.OwnIn
import Derived.Shelf.SlSortCmp.NoneTotal
import Derived.Deep.OwnRows
import Derived.Test.YtegommoflmmahaaGreatRows
import Derived.Test.YtegommoflmmahaaGreatQway
import Derived.Test.YtegommoflmmahaaGreatQwbd
namespace Go.Proofs.YtegommoflmmahaaGreat
section
open Go.RowKit
namespace M
theorem use_split:∀ (ds:List De),rdN ds+(ds.filter fun x=>M.writes x.d.k).length≤useN ds
 | []=>by simp [rdN,useN]
 | x::ds=>by
  have ih:=use_split ds
  have hx:(if x.reads then 1 else 0)+(if M.writes x.d.k then 1 else 0)≤if uses x.d.k then 1 else 0:=by
   simp only [De.reads,uses,writes,stores,reads]
   by_cases h2:x.d.k=2
   ·simp [h2]
   ·by_cases h5:x.d.k=5
    ·simp [h5]
    ·simp [h2,h5]
  unfold rdN useN at *
  simp only [List.filter_cons]
  split<;>split<;>split<;>simp_all<;>omega
theorem ways_le2 {ll:List (List D)} (h:prog ll=true):(ways (deeds ll)).length≤117649:=by
 have hu:=use6 h
 have hs:=use_split (deeds ll)
 have hw3:=wrs_three 0 (deeds ll)
 have hf:=fromsOf_len (deeds ll) 7 (fun p=>by have:=wr6 hu p;omega) (deeds ll).length [] (by simp)
 simp only [List.length_nil,List.drop_zero] at hf
 have hr:=fun p:Int=>rows6 h p
 have ho:(ordersOf (deeds ll)).length≤6 ^ ((wrs 0 0 (deeds ll)).length+(wrs 1 0 (deeds ll)).length+(wrs 2 0 (deeds ll)).length):=by
  unfold ordersOf
  rw [addPlace_len,addPlace_len,addPlace_len]
  simp only [List.length_singleton,Nat.one_mul]
  rw [Nat.pow_add,Nat.pow_add]
  exact Nat.mul_le_mul (Nat.mul_le_mul (hr 0) (hr 1)) (hr 2)
 have key:∀ (fs:List (List Int)),(fs.flatMap fun f=>if ends (deeds ll) f then (ordersOf (deeds ll)).map fun o=>(f,o) else []).length≤fs.length * (ordersOf (deeds ll)).length:=fun fs=>flatMap_le _ _ fs (fun f _=>by
  split
  ·simp
  ·simp)
 rw [ways_eq (cop_deeds ll)]
 unfold allWays
 refine Nat.le_trans (key _) ?_
 have h67:6 ^ ((wrs 0 0 (deeds ll)).length+(wrs 1 0 (deeds ll)).length+(wrs 2 0 (deeds ll)).length)≤7 ^ ((wrs 0 0 (deeds ll)).length+(wrs 1 0 (deeds ll)).length+(wrs 2 0 (deeds ll)).length):=Nat.pow_le_pow_left (by omega) _
 refine Nat.le_trans (Nat.mul_le_mul hf (Nat.le_trans ho h67)) ?_
 rw [← Nat.pow_add]
 exact Nat.le_trans (Nat.pow_le_pow_right (by omega) (show _≤6 by omega)) (by decide)
end M
theorem IntS.fr' {w W:World} {D:Nat→Prop} {a:Option Addr} {b o:Nat} {l:List Int} (h:IntS w a b o l) (hf:Fr D w W) (hD:0 < l.length→D b):IntS W a b o l :=
 ⟨h.addr,fun i hi=>hf.cell (p:=⟨b,o+i,none⟩) (hD (by omega)) (h.row i hi)⟩
end
section
abbrev Ky:=List Int × List Int
namespace M
def cmpK (a b:Ky):Int:=cmpS a.1 a.2 b.1 b.2
theorem cmpK_zero {a b:Ky} (h:cmpK a b=0):a=b:=by
 obtain ⟨h1,h2⟩:=cmpS_zero h
 exact Prod.ext h1 h2
theorem cmpK_neg (a b:Ky):cmpK b a=- cmpK a b:=cmpS_neg _ _ _ _
theorem cmpK_trans {a b c:Ky} (h:cmpK a b < 0) (k:cmpK b c < 0):cmpK a c < 0:=cmpS_trans h k
def Asc (l:List Ky):Prop:=l.Pairwise fun a b=>cmpK a b < 0
def putIn:List Ky→Ky→List Ky
 | [],k=>[k]
 | x::l,k=>if cmpK x k=0 then x::l else if 0 < cmpK x k then k::x::l else x::putIn l k
theorem mem_putIn (l:List Ky) (k x:Ky):x∈putIn l k↔x=k∨x∈l:=by
 induction l with
 | nil=>simp [putIn]
 | cons y l ih =>
  rw [putIn]
  by_cases h0:cmpK y k=0
  ·rw [if_pos h0]
   have:=cmpK_zero h0
   subst this
   simp
  ·rw [if_neg h0]
   by_cases h1:0 < cmpK y k
   ·rw [if_pos h1];simp
   ·rw [if_neg h1]
    simp only [List.mem_cons,ih]
    constructor
    ·rintro (h | h | h)
     ·exact Or.inr (Or.inl h)
     ·exact Or.inl h
     ·exact Or.inr (Or.inr h)
    ·rintro (h | h | h)
     ·exact Or.inr (Or.inl h)
     ·exact Or.inl h
     ·exact Or.inr (Or.inr h)
theorem asc_putIn {l:List Ky} (h:Asc l) (k:Ky):Asc (putIn l k):=by
 induction l with
 | nil=>simp [putIn,Asc]
 | cons y l ih =>
  have h':=List.pairwise_cons.1 h
  rw [putIn]
  by_cases h0:cmpK y k=0
  ·rw [if_pos h0];exact h
  ·rw [if_neg h0]
   by_cases h1:0 < cmpK y k
   ·rw [if_pos h1]
    refine List.pairwise_cons.2 ⟨fun z hz=>?_,h⟩
    have hky:cmpK k y < 0:=by have:=cmpK_neg y k;omega
    rcases List.mem_cons.1 hz with e | hz
    ·rw [e];exact hky
    ·exact cmpK_trans hky (h'.1 z hz)
   ·rw [if_neg h1]
    refine List.pairwise_cons.2 ⟨fun z hz=>?_,ih h'.2⟩
    rcases (mem_putIn l k z).1 hz with e | hz
    ·rw [e];omega
    ·exact h'.1 z hz
def sortK (l:List Ky):List Ky:=l.foldl putIn []
theorem foldl_mem (l:List Ky):∀ (a:List Ky) (x:Ky),x∈l.foldl putIn a↔x∈a∨x∈l:=by
 induction l with
 | nil=>intro a x;simp
 | cons y l ih =>
  intro a x
  rw [List.foldl_cons,ih,mem_putIn]
  simp only [List.mem_cons]
  constructor
  ·rintro ((h | h) | h)
   ·exact Or.inr (Or.inl h)
   ·exact Or.inl h
   ·exact Or.inr (Or.inr h)
  ·rintro (h | h | h)
   ·exact Or.inl (Or.inr h)
   ·exact Or.inl (Or.inl h)
   ·exact Or.inr h
theorem foldl_asc (l:List Ky):∀ (a:List Ky),Asc a→Asc (l.foldl putIn a):=by
 induction l with
 | nil=>intro a h;exact h
 | cons y l ih=>intro a h;exact ih _ (asc_putIn h y)
theorem mem_sortK (l:List Ky) (x:Ky):x∈sortK l↔x∈l:=by rw [sortK,foldl_mem];simp
end M
end
section
open Go.RowKit
def Sn.ky (s:Sn):Ky:=(s.l1,s.l2)
structure SR (W:World) (g:Nat) (ss:List Sn):Prop where
 c:∀ i (h:i < ss.length),W.cell? ⟨g,i * 2,none⟩=some (.slice ss[i].a1 ss[i].l1.length ss[i].c1)∧W.cell? ⟨g,i * 2+1,none⟩=some (.slice ss[i].a2 ss[i].l2.length ss[i].c2)
 fz:∀ j,W.frozen? ⟨g,j,none⟩=false
theorem SR.below {W W':World} {g:Nat} {ss:List Sn} (h:SR W g ss) (hb:Below W.heap.size W W') (hl:g < W.heap.size):SR W' g ss :=
 ⟨fun i hi=>⟨(hb.cell (p:=⟨g,i * 2,none⟩) hl).trans (h.c i hi).1,(hb.cell (p:=⟨g,i * 2+1,none⟩) hl).trans (h.c i hi).2⟩,fun j=>(hb.frozen (p:=⟨g,j,none⟩) hl).trans (h.fz j)⟩
end
section
open Go.RowKit
theorem calls_bel {P:Program} {f:FuncId} {args:Array Value} {W:World} {v:Value} (h:Calls P f args W fun e w'=>e=.returned v∧Grown W w'):Calls P f args W fun e w'=>e=.returned v∧Below W.heap.size W w':=h.mono fun _ _ ⟨he,hg⟩=>⟨he,hg.bel⟩
def kys (ss:List Sn):List Ky:=ss.map Sn.ky
theorem Tryz.infoSeen:(Tryz.prog.info? 28).map (fun i=>(i.zero,i.size,i.bytes))=some (some (.agg #[.slice none 0 0,.slice none 0 0]),2,48):=by kernel_rfl
theorem kys_len (ss:List Sn):(kys ss).length=ss.length:=by simp [kys]
theorem kys_get (ss:List Sn) {n:Nat} (h:n < ss.length) (h':n < (kys ss).length):(kys ss)[n]=ss[n].ky:=by simp [kys]
namespace M
end M
end
section
open Go.RowKit
def flatS:List Sn→List Value
 | []=>[]
 | s::l=>.slice s.a1 s.l1.length s.c1::.slice s.a2 s.l2.length s.c2::flatS l
theorem flatS_append (l m:List Sn):flatS (l++m)=flatS l++flatS m:=by
 induction l with
 | nil=>rfl
 | cons s l ih=>simp [flatS,ih]
theorem flatS_get (l:List Sn):∀ i (h:i < l.length),(flatS l)[i * 2]?=some (.slice l[i].a1 l[i].l1.length l[i].c1)∧(flatS l)[i * 2+1]?=some (.slice l[i].a2 l[i].l2.length l[i].c2):=by
 induction l with
 | nil=>intro i h;exact absurd h (Nat.not_lt_zero _)
 | cons s l ih =>
  intro i h
  cases i with
  | zero=>exact ⟨rfl,rfl⟩
  | succ i =>
   obtain ⟨h0,h1⟩:=ih i (by simpa using h)
   have e:(i+1) * 2=i * 2+2:=by omega
   rw [e]
   exact ⟨by simpa [flatS] using h0,by simpa [flatS] using h1⟩
end
section
open Go.RowKit
theorem M.mem_execAll {ll:List (List M.D)} {x:M.Wy}:x∈M.specAll ll↔M.execOk ll x.1 x.2=true:=by
 unfold M.specAll M.execOk
 cases hp:M.prog ll
 ·simp
 ·rw [if_pos rfl,Bool.true_and]
  exact M.mem_all
structure WyLe (x:M.Wy):Prop where
 a:x.1.length≤1048576
 b:x.2.length≤1048576
 c:∀ r∈x.2,r.length≤1048576
theorem own_two {w:World} {base n:Nat} {e:TypeId} {v:Value} {xs:List Value} (h:w.ownsRow base e 2 v n xs):∃ a g c,v=.slice a n c∧(0 < n→a=some ⟨g,0,none⟩)∧∀ j u,xs[j]?=some u→w.cell? ⟨g,j,none⟩=some u:=by
 rcases h.2 with ⟨hv,hn⟩ | ⟨g,cap,cur,hv,hg,hh,hc,r⟩
 ·have hx:xs=[]:=List.length_eq_zero_iff.1 (by rw [h.1,hn])
  subst hx
  exact ⟨none,0,0,by rw [hv,hn],fun h=>absurd h (by omega),fun j u hj=>(by simp at hj)⟩
 ·refine ⟨_,g,cap,hv,fun _=>rfl,fun j u hj=>?_⟩
  have:=h.cells (g:=g) (by rw [hv];rfl) j u hj
  rwa [Go.WideShapes.add_plain,Nat.zero_add] at this
theorem Xw.lw {W:World} {B:Nat} {fv ov:Value} {x:M.Wy} {cs:List Value} (h:Xw W B fv ov x.1 cs x.2):∃ fa fb fc ra rb rc,fv=.slice fa x.1.length fc∧ov=.slice ra x.2.length rc∧IntS W fa fb 0 x.1∧IntSS W ra rb 0 x.2:=h.reads
theorem RXL.lw {W:World} {base n:Nat} {v:Value} {cs:List Value} {xs:List M.Wy} (h:RXL W base v cs n xs):∃ a g c,v=.slice a xs.length c∧LW W a g xs:=by
 obtain ⟨a,g,c,e1,e2,e3⟩:=own_two h.own
 have hl:=h.len.out
 rw [← hl] at e1 e2
 refine ⟨a,g,c,e1,e2,fun i hi=>?_⟩
 obtain ⟨fv,ov,rc0,c1,c2,hx,_⟩:=h.row i hi
 obtain ⟨fa,fb,fc,ra,rb,rc,f1,f2,f3,f4⟩:=hx.lw
 exact ⟨fa,fb,fc,ra,rb,rc,by rw [← f1];exact e3 _ _ c1,by rw [← f2];exact e3 _ _ c2,f3,f4⟩
theorem SxaAns.lw {w w':World} {ll:List (List M.D)} {v:Value} (h:SxaAns w w' ll v):∃ a g c,v=.slice a (M.specAll ll).length c∧LW w' a g (M.specAll ll):=by
 obtain ⟨cs,n,hw,_⟩:=h.ex
 exact hw.lw
end
section
namespace M
structure Put (ks:List Ky) (k:Ky) (out:List Ky) (done:Bool) (n:Nat):Prop where
 le:n≤ks.length
 no:done=false→out=ks.take n∧putIn ks k=ks.take n++putIn (ks.drop n) k
 yes:done=true→putIn ks k=out++ks.drop n∧∀ y∈ks.drop n,0 < cmpK y k
theorem Put.start (ks:List Ky) (k:Ky):Put ks k [] false 0:=⟨Nat.zero_le _,fun _=>⟨rfl,rfl⟩,fun h=>by cases h⟩
theorem Put.less {ks:List Ky} {k:Ky} {out:List Ky} {n:Nat} (h:Put ks k out false n) (hn:n < ks.length) (hc:cmpK ks[n] k < 0):Put ks k (out++[ks[n]]) false (n+1):=by
 obtain ⟨h1,h2⟩:=h.no rfl
 refine ⟨by omega,fun _=>⟨?_,?_⟩,fun h=>by cases h⟩
 ·rw [h1,List.take_succ_eq_append_getElem hn]
 ·rw [h2,← List.getElem_cons_drop hn,putIn,if_neg (by omega),if_neg (by omega),List.take_succ_eq_append_getElem hn,List.append_assoc]
  rfl
theorem Put.more {ks:List Ky} {k:Ky} {out:List Ky} {n:Nat} (ha:Asc ks) (h:Put ks k out false n) (hn:n < ks.length) (hc:0 < cmpK ks[n] k):Put ks k (out++[k]++[ks[n]]) true (n+1):=by
 obtain ⟨h1,h2⟩:=h.no rfl
 refine ⟨by omega,fun h=>(by cases h),fun _=>⟨?_,fun y hy=>?_⟩⟩
 ·rw [h2,h1,← List.getElem_cons_drop hn,putIn,if_neg (by omega),if_pos hc]
  simp
 ·have hd:Asc (ks.drop n):=List.Pairwise.sublist (List.drop_sublist n ks) ha
  rw [← List.getElem_cons_drop hn] at hd
  have h3:=(List.pairwise_cons.1 hd).1 y hy
  have h4:cmpK k ks[n] < 0:=by have:=cmpK_neg ks[n] k;omega
  have h5:=cmpK_trans h4 h3
  have:=cmpK_neg k y
  omega
theorem Put.on {ks:List Ky} {k:Ky} {out:List Ky} {n:Nat} (h:Put ks k out true n) (hn:n < ks.length):Put ks k (out++[ks[n]]) true (n+1):=by
 obtain ⟨h1,h2⟩:=h.yes rfl
 refine ⟨by omega,fun h=>(by cases h),fun _=>⟨?_,fun y hy=>?_⟩⟩
 ·rw [h1,← List.getElem_cons_drop hn];simp
 ·exact h2 y (by rw [← List.getElem_cons_drop hn];exact List.mem_cons_of_mem _ hy)
theorem Put.ne {ks:List Ky} {k:Ky} {out:List Ky} {n:Nat} (h:Put ks k out true n) (hn:n < ks.length):0 < cmpK ks[n] k :=
 (h.yes rfl).2 _ (by rw [← List.getElem_cons_drop hn];exact List.mem_cons_self ..)
theorem Put.there {ks:List Ky} {k:Ky} {out:List Ky} {n:Nat} (h:Put ks k out false n) (hn:n < ks.length) (hc:cmpK ks[n] k=0):putIn ks k=ks:=by
 rw [(h.no rfl).2,← List.getElem_cons_drop hn,putIn,if_pos hc,List.getElem_cons_drop hn,List.take_append_drop]
theorem Put.fin {ks:List Ky} {k:Ky} {out:List Ky} {n:Nat} (h:Put ks k out true n) (hn:ks.length≤n):out=putIn ks k:=by
 rw [(h.yes rfl).1,List.drop_eq_nil_of_le hn,List.append_nil]
theorem Put.last {ks:List Ky} {k:Ky} {out:List Ky} {n:Nat} (h:Put ks k out false n) (hn:ks.length≤n):out++[k]=putIn ks k:=by
 obtain ⟨h1,h2⟩:=h.no rfl
 rw [h2,h1,List.drop_eq_nil_of_le hn];rfl
end M
end
section
open Go.RowKit
structure SL (w:World) (g:Nat) (ss:List Sn):Prop where
 sr:SR w g ss
 at_:∀ s∈ss,s.At w∧s.Le 1048576
theorem SL.below {w w':World} {g:Nat} {ss:List Sn} (h:SL w g ss) (hb:Below w.heap.size w w') (hl:g < w.heap.size):SL w' g ss :=
 ⟨h.sr.below hb hl,fun s hs=>⟨(h.at_ s hs).1.below hb (Nat.le_refl _),(h.at_ s hs).2⟩⟩
structure OwnS (w W:World) (g cap:Nat) (tt:List Sn) (s:Sn):Prop where
 own:W.ownsRow (w.heap.size+1) 28 2 (.slice (some ⟨g,0,none⟩) tt.length cap) tt.length (flatS tt)
 ge:w.heap.size+1≤g
 lt:g < W.heap.size
 box:Slot2 W w.heap.size (.slice s.a1 s.l1.length s.c1) (.slice s.a2 s.l2.length s.c2)
 bel:Below w.heap.size w W
theorem OwnS.below {w W W':World} {g cap:Nat} {tt:List Sn} {s:Sn} (h:OwnS w W g cap tt s) (hb:Below W.heap.size W W'):OwnS w W' g cap tt s :=
 ⟨ownsRow_below h.own hb,h.ge,Nat.lt_of_lt_of_le h.lt hb.size,h.box.of (hb.block _ h.box.lt),h.bel.trans (hb.mono h.bel.size)⟩
theorem OwnS.snoc {w W W':World} {g cap g' cap':Nat} {tt:List Sn} {s e:Sn} {o:Obj} (h:OwnS w W g cap tt s)
  (ho:W'.ownsRow (w.heap.size+1) 28 2 (.slice (some ⟨g',0,none⟩) (tt.length+1) cap') (tt.length+1) (flatS tt++[.slice e.a1 e.l1.length e.c1,.slice e.a2 e.l2.length e.c2])) (hg:(W.alloc o).grownBy W' (some g)) (hlt:g' < W'.heap.size):OwnS w W' g' cap' (tt++[e]) s:=by
 have hb:=h.bel.size
 have hge:=h.ge
 have hbl:=h.box.lt
 refine ⟨by rw [List.length_append,flatS_append];exact ho,own_ge ho g' rfl,hlt,h.box.of ?_,below_grown (h.bel.alloc hb o) hg (fun k hk=>by simp at hk;omega) (by simp;omega)⟩
 rw [hg.block w.heap.size (by simp;omega) (fun e=>by simp at e;omega)]
 exact alloc_old _ _ _ hbl
theorem OwnS.sl {w W:World} {g cap:Nat} {tt ss:List Sn} {s:Sn} (h:OwnS w W g cap tt s) (hss:∀ x∈ss,x.At w∧x.Le 1048576) (hsa:s.At w∧s.Le 1048576) (hin:∀ t∈tt,t∈ss∨t=s):SL W g tt :=
 ⟨⟨fun i hi=>by
  obtain ⟨f1,f2⟩:=flatS_get tt i hi
  have e1:=h.own.cells (g:=g) rfl _ _ f1
  have e2:=h.own.cells (g:=g) rfl _ _ f2
  rw [Go.WideShapes.add_plain,Nat.zero_add] at e1 e2
  exact ⟨e1,e2⟩,fun j=>own_fzS h.own j⟩,fun t ht=>by
  rcases hin t ht with hx | rfl
  ·exact ⟨(hss t hx).1.below h.bel (Nat.le_refl _),(hss t hx).2⟩
  ·exact ⟨hsa.1.below h.bel (Nat.le_refl _),hsa.2⟩⟩
set_option maxHeartbeats 4000000 in
set_option maxRecDepth 100000 in
theorem l2Put_any (g cap:Nat) (ss:List Sn) (s:Sn) (w:World) (hl:ss.length≤1048575) (h:SL w g ss) (hg:g < w.heap.size) (hsa:s.At w) (hsl:s.Le 1048576) (hasc:M.Asc (kys ss)) (hcap:ss.length≤cap) :
  Calls Tryz.prog 167 #[.slice (some ⟨g,0,none⟩) ss.length cap,.agg #[.slice s.a1 s.l1.length s.c1,.slice s.a2 s.l2.length s.c2]] w fun e w'=>∃ g' cap',∃ tt:List Sn,e=.returned (.slice (some ⟨g',0,none⟩) tt.length cap')∧kys tt=M.putIn (kys ss) s.ky∧SL w' g' tt∧g' < w'.heap.size∧tt.length≤ss.length+1∧tt.length≤cap'∧(∀ t∈tt,t∈ss∨t=s)∧(g'=g∨w.heap.size≤g')∧Below w.heap.size w w':=by
 obtain ⟨i0,hi,hz0,hz1,hz2⟩:=info_parts Tryz.infoSeen
 go_enter Tryz.func167,Tryz.ntmps167
 go_wp2_with fail
 have hb2:=below2 w (.cells #[.slice s.a1 s.l1.length s.c1,.slice s.a2 s.l2.length s.c2] 28) (.cells #[] 28)
 have hbx0:Slot2 ((w.alloc (.cells #[.slice s.a1 s.l1.length s.c1,.slice s.a2 s.l2.length s.c2] 28)).alloc (.cells #[] 28)) w.heap.size (.slice s.a1 s.l1.length s.c1) (.slice s.a2 s.l2.length s.c2):=⟨by rw [alloc_old _ _ _ (by simp only [World.size_alloc];omega)];exact alloc_new _ _ _ rfl⟩
 have hown0:((w.alloc (.cells #[.slice s.a1 s.l1.length s.c1,.slice s.a2 s.l2.length s.c2] 28)).alloc (.cells #[] 28)).ownsRow (w.heap.size+1) 28 2 (.slice (some ⟨w.heap.size+1,0,none⟩) 0 0) 0 (flatS []):=by
  have:=World.ownsRow_made (base:=w.heap.size+1) (e:=28) (size:=2) (w.alloc (.cells #[.slice s.a1 s.l1.length s.c1,.slice s.a2 s.l2.length s.c2] 28)) #[] 0 (by simp) (Nat.zero_le _) rfl
  simp only [World.size_alloc] at this
  exact this
 have hsz0:w.heap.size+1 < ((w.alloc (.cells #[.slice s.a1 s.l1.length s.c1,.slice s.a2 s.l2.length s.c2] 28)).alloc (.cells #[] 28)).heap.size:=by simp
 generalize (w.alloc (.cells #[.slice s.a1 s.l1.length s.c1,.slice s.a2 s.l2.length s.c2] 28)).alloc (.cells #[] 28)=W0 at *
 go_loopw [5,6,7] (fun s5 s6 s7 wr=>∃ (n:Nat) (done:Bool) (tt:List Sn) (g5 cap5:Nat),s5=.slice (some ⟨g5,0,none⟩) tt.length cap5∧s6=.bool done∧s7=.int .i64 n∧n≤ss.length∧tt.length≤n+1∧Hid (done=false→tt.length=n)∧Hid (M.Put (kys ss) s.ky (kys tt) done n)∧Hid (∀ t∈tt,t∈ss∨t=s)∧OwnS w wr g5 cap5 tt s) (fun _ _ s7 _=>ss.length - (intOf s7).toNat)
 case atStart=>exact ⟨0,false,[],w.heap.size+1,0,rfl,rfl,rfl,Nat.zero_le _,by simp,fun _=>rfl,M.Put.start _ _,fun t ht=>absurd ht (by simp),⟨hown0,Nat.le_refl _,hsz0,hbx0,hb2⟩⟩
 case round =>
  obtain ⟨n,done,tt,g5,cap5,rfl,rfl,rfl,hn,htl,Hd,HP,Hin,os⟩:=hrel
  clear hown0 hbx0 hb2 hsz0
  have hb:=os.bel
  have q0:=os.box.c0
  have q1:=os.box.c1
  have hL:=h.below hb hg
  have hgr:g < wr.heap.size:=Nat.lt_of_lt_of_le hg hb.size
  have hsr:=hsa.below hb (Nat.le_refl _)
  by_cases hlt:n < ss.length
  ·have i1:(n:Int) < ss.length:=by omega
   obtain ⟨c1,c2⟩:=hL.sr.c n hlt
   obtain ⟨ta,tl⟩:=hL.at_ _ (List.getElem_mem hlt)
   obtain ⟨t,ht⟩:∃ t,ss[n]=t:=⟨_,rfl⟩
   have HT:Hid (ss[n]=t):=ht
   rw [ht] at c1 c2 ta tl
   clear ht
   have HK:Hid ((kys ss)[n]'(by rw [kys_len];exact hlt)=t.ky):=by
    show (kys ss)[n]'(by rw [kys_len];exact hlt)=t.ky
    rw [kys_get ss hlt,HT.out]
   have C:=fun p:BelowOf wr=>calls_bel (l2Seen_any t s p.x tl hsl (ta.below p.h (Nat.le_refl _)) (hsr.below p.h (Nat.le_refl _)))
   obtain ⟨r,hr⟩:∃ r,M.cmpS t.l1 t.l2 s.l1 s.l2=r:=⟨_,rfl⟩
   rw [hr] at C
   have HR:Hid (M.cmpK t.ky s.ky=r):=hr
   clear hr
   have K1:=BelowOf.cell c1
   have K2:=BelowOf.cell c2
   have K3:=BelowOf.cell q0
   have K4:=BelowOf.cell q1
   go_wp2_with fail
   haveI:Inhabited (BelowOf wr):=⟨belOf wr⟩
   refine wp_region_quiet_bel (by kernel_rfl) (by kernel_rfl) ?_
   repeat (quiet_step (first | (go_at_call 41;exact Calls.bel_of (C _))))
   refine wpQuiet_nil ?_
   rintro wq ⟨⟨wx,hwq⟩,ew⟩
   change wq=wx at ew
   subst ew
   have osq:=os.below hwq
   have e1:wq.cell? ⟨g,n * 2,none⟩=some (.slice t.a1 t.l1.length t.c1):=K1 ⟨wq,hwq⟩
   have e2:wq.cell? ⟨g,n * 2+1,none⟩=some (.slice t.a2 t.l2.length t.c2):=K2 ⟨wq,hwq⟩
   have f1:=osq.box.c0
   have f2:=osq.box.c1
   have hgq:g < wq.heap.size:=Nat.lt_of_lt_of_le hgr hwq.size
   have fl:=osq.box.lt
   have hkl:n < (kys ss).length:=by rw [kys_len];exact hlt
   have tin:t∈ss:=by rw [← HT.out];exact List.getElem_mem hlt
   have hcm:M.cmpK ((kys ss)[n]'hkl) s.ky=r:=by rw [HK.out];exact HR.out
   have HC:Hid (M.cmpK ((kys ss)[n]'hkl) s.ky=r):=hcm
   clear hcm C K1 K2 K3 K4 q0 q1 os
   cases done
   ·have htn:=Hd.out rfl
    have HTN:Hid (tt.length=n):=htn
    clear htn
    rcases Int.lt_trichotomy r 0 with hr | hr | hr
    ·have hr0:(r==0)=false:=by simp;omega
     have hr1:¬ 0 < r:=by omega
     go_wp2_with (at_builtin;refine wpList_append_lies _ rfl (.tmp 35) (.tmp 40) 43 rfl (w.heap.size+1) 28 i0 _ 2 48 Tryz.underlying43 hi hz0 hz1 hz2 rfl (by decide) _ _ _ rfl (osq.own.alloc _) ⟨wq.heap.size,0,none⟩ 1 1 [.slice t.a1 t.l1.length t.c1,.slice t.a2 t.l2.length t.c2] rfl rfl (World.news_of_block (cs:=#[.slice t.a1 t.l1.length t.c1,.slice t.a2 t.l2.length t.c2]) (t:=28) (fr:=(0,0)) (heap_alloc_new wq _)) (by simp [Value.oneCell']) (by omega) (by unfold maxLen;omega) (by omega) (by simp;have:=osq.bel.size;have:=osq.lt;have:=osq.ge;omega) (wq.heap.size+1) (by simp) ?_)
     intro g6 cap6 w6 hown6 hg6 hat6 hlt6
     have os6:=osq.snoc hown6 hg6 hlt6
     clear hown6 hg6 hat6 hlt6
     go_wp2_with fail
     exact ⟨⟨n+1,false,tt++[t],g6,cap6,by simp,rfl,by go_num,by omega,by simp;omega,fun _=>by simp [HTN.out],by
      show M.Put _ _ _ _ _
      have:=HP.out.less hkl (by rw [HC.out];exact hr)
      rw [HK.out] at this
      simpa [kys] using this,fun x hx=>by
      rcases List.mem_append.1 hx with hx | hx
      ·exact Hin.out x hx
      ·simp at hx;subst hx;exact Or.inl tin,os6⟩,by simp [intOf];omega⟩
    ·subst hr
     go_wp2_with fail
     go_ret
     have:=HP.out.there hkl HC.out
     exact ⟨g,cap,ss,rfl,this.symm,hL.below hwq hgr,hgq,by omega,hcap,fun t ht=>Or.inl ht,Or.inl rfl,osq.bel⟩
    ·have hr0:(r==0)=false:=by simp;omega
     go_wp2_with (at_builtin;refine wpList_append_lies _ rfl (.tmp 31) (.tmp 33) 43 rfl (w.heap.size+1) 28 i0 _ 2 48 Tryz.underlying43 hi hz0 hz1 hz2 rfl (by decide) _ _ _ rfl (osq.own.alloc _) ⟨wq.heap.size,0,none⟩ 1 1 [.slice s.a1 s.l1.length s.c1,.slice s.a2 s.l2.length s.c2] rfl rfl (World.news_of_block (cs:=#[.slice s.a1 s.l1.length s.c1,.slice s.a2 s.l2.length s.c2]) (t:=28) (fr:=(0,0)) (heap_alloc_new wq _)) (by simp [Value.oneCell']) (by omega) (by unfold maxLen;omega) (by omega) (by simp;have:=osq.bel.size;have:=osq.lt;have:=osq.ge;omega) (wq.heap.size+1) (by simp) ?_)
     intro g6 cap6 w6 hown6 hg6 hat6 hlt6
     have os6:=osq.snoc hown6 hg6 hlt6
     clear hown6 hg6 hat6 hlt6
     have e3:w6.cell? ⟨g,n * 2,none⟩=some (.slice t.a1 t.l1.length t.c1):=((h.below os6.bel hg).sr.c n hlt).1.trans (by rw [HT.out])
     have e4:w6.cell? ⟨g,n * 2+1,none⟩=some (.slice t.a2 t.l2.length t.c2):=((h.below os6.bel hg).sr.c n hlt).2.trans (by rw [HT.out])
     obtain ⟨t2,ht2⟩:∃ t2,tt++[s]=t2:=⟨_,rfl⟩
     have ht2l:tt.length+1=t2.length:=by rw [← ht2];simp
     rw [ht2l]
     rw [ht2] at os6
     have HT2:Hid (tt++[s]=t2):=ht2
     have ht2b:t2.length≤n+1:=by rw [← ht2l,HTN.out];omega
     have hg6l:g < w6.heap.size:=World.block_lt_of_cell? _ _ e3
     clear ht2 ht2l
     go_wp2_with (at_builtin;refine wpList_append_lies _ rfl (.tmp 35) (.tmp 40) 43 rfl (w.heap.size+1) 28 i0 _ 2 48 Tryz.underlying43 hi hz0 hz1 hz2 rfl (by decide) _ _ _ rfl (os6.own.alloc _) ⟨w6.heap.size,0,none⟩ 1 1 [.slice t.a1 t.l1.length t.c1,.slice t.a2 t.l2.length t.c2] rfl rfl (World.news_of_block (cs:=#[.slice t.a1 t.l1.length t.c1,.slice t.a2 t.l2.length t.c2]) (t:=28) (fr:=(0,0)) (heap_alloc_new w6 _)) (by simp [Value.oneCell']) (by omega) (by unfold maxLen;omega) (by omega) (by simp;have:=os6.bel.size;have:=os6.lt;have:=os6.ge;omega) (w6.heap.size+1) (by simp) ?_)
     intro g7 cap7 w7 hown6 hg6 hat6 hlt6
     have os7:=os6.snoc hown6 hg6 hlt6
     clear hown6 hg6 hat6 hlt6
     go_wp2_with fail
     exact ⟨⟨n+1,true,t2++[t],g7,cap7,by simp,rfl,by go_num,by omega,by simp;omega,fun h=>(by cases h),by
      show M.Put _ _ _ _ _
      have:=HP.out.more hasc hkl (by rw [HC.out];exact hr)
      rw [HK.out] at this
      rw [← HT2.out]
      simpa [kys] using this,fun x hx=>by
      rcases List.mem_append.1 hx with hx | hx
      ·rw [← HT2.out] at hx
       rcases List.mem_append.1 hx with hx | hx
       ·exact Hin.out x hx
       ·simp at hx;exact Or.inr hx
      ·simp at hx;subst hx;exact Or.inl tin,os7⟩,by simp [intOf];omega⟩
   ·have hrp:0 < r:=by rw [← HC.out];exact HP.out.ne hkl
    have hr0:(r==0)=false:=by simp;omega
    go_wp2_with (at_builtin;refine wpList_append_lies _ rfl (.tmp 35) (.tmp 40) 43 rfl (w.heap.size+1) 28 i0 _ 2 48 Tryz.underlying43 hi hz0 hz1 hz2 rfl (by decide) _ _ _ rfl (osq.own.alloc _) ⟨wq.heap.size,0,none⟩ 1 1 [.slice t.a1 t.l1.length t.c1,.slice t.a2 t.l2.length t.c2] rfl rfl (World.news_of_block (cs:=#[.slice t.a1 t.l1.length t.c1,.slice t.a2 t.l2.length t.c2]) (t:=28) (fr:=(0,0)) (heap_alloc_new wq _)) (by simp [Value.oneCell']) (by omega) (by unfold maxLen;omega) (by omega) (by simp;have:=osq.bel.size;have:=osq.lt;have:=osq.ge;omega) (wq.heap.size+1) (by simp) ?_)
    intro g6 cap6 w6 hown6 hg6 hat6 hlt6
    have os6:=osq.snoc hown6 hg6 hlt6
    clear hown6 hg6 hat6 hlt6
    go_wp2_with fail
    exact ⟨⟨n+1,true,tt++[t],g6,cap6,by simp,rfl,by go_num,by omega,by simp;omega,fun h=>(by cases h),by
     show M.Put _ _ _ _ _
     have:=HP.out.on hkl
     rw [HK.out] at this
     simpa [kys] using this,fun x hx=>by
     rcases List.mem_append.1 hx with hx | hx
     ·exact Hin.out x hx
     ·simp at hx;subst hx;exact Or.inl tin,os6⟩,by simp [intOf];omega⟩
  ·have hke:(kys ss).length≤n:=by rw [kys_len];omega
   have fl:=os.box.lt
   cases done
   ·have HTN:Hid (tt.length=n):=Hd.out rfl
    have htn2:tt.length≤ss.length:=by rw [HTN.out];exact hn
    go_wp2_with (at_builtin;refine wpList_append_lies _ rfl (.tmp 44) (.tmp 46) 43 rfl (w.heap.size+1) 28 i0 _ 2 48 Tryz.underlying43 hi hz0 hz1 hz2 rfl (by decide) _ _ _ rfl (os.own.alloc _) ⟨wr.heap.size,0,none⟩ 1 1 [.slice s.a1 s.l1.length s.c1,.slice s.a2 s.l2.length s.c2] rfl rfl (World.news_of_block (cs:=#[.slice s.a1 s.l1.length s.c1,.slice s.a2 s.l2.length s.c2]) (t:=28) (fr:=(0,0)) (heap_alloc_new wr _)) (by simp [Value.oneCell']) (by omega) (by unfold maxLen;omega) (by omega) (by simp;have:=os.bel.size;have:=os.lt;have:=os.ge;omega) (wr.heap.size+1) (by simp) ?_)
    intro g6 cap6 w6 hown6 hg6 hat6 hlt6
    have os6:=os.snoc hown6 hg6 hlt6
    clear hown6 hg6 hat6 hlt6
    go_wp2_with fail
    go_ret
    refine ⟨g6,cap6,tt++[s],by simp,?_,os6.sl (fun x hx=>h.at_ x hx) ⟨hsa,hsl⟩ (fun x hx=>?_),os6.lt,by simp;omega,own_capP os6.own,fun x hx=>?_,Or.inr (by have:=os6.ge;omega),os6.bel⟩
    ·rw [← HP.out.last hke];simp [kys]
    ·rcases List.mem_append.1 hx with hx | hx
     ·exact Hin.out x hx
     ·simp at hx;exact Or.inr hx
    ·rcases List.mem_append.1 hx with hx | hx
     ·exact Hin.out x hx
     ·simp at hx;exact Or.inr hx
   ·go_wp2_with fail
    go_ret
    exact ⟨g5,cap5,tt,rfl,HP.out.fin hke,os.sl (fun x hx=>h.at_ x hx) ⟨hsa,hsl⟩ Hin.out,os.lt,by omega,own_capP os.own,Hin.out,Or.inr (by have:=os.ge;omega),os.bel⟩
end
end Go.Proofs.YtegommoflmmahaaGreat
