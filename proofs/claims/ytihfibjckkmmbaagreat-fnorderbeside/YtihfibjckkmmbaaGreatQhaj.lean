/- slices.Grow of no slice, slices.Concat of two lists of threads. Of at most 1000 threads each. And what goes with it: TnCc, TnBs, TnAp, TnSb, TnFact. -/
import Derived.BigQuiet
import Derived.Deep.AppendLies
import Derived.Deep.MidRow
import Derived.Deep.QuietTactic
import Derived.Deep.RegionHeld3
import Derived.Deep.RegionLaw
import Derived.Deep.RegionWith
import Derived.Deep.WholeRow
import Derived.Laws.AppendOwnNone
import Derived.Laws.OwnMore
import Derived.Lib.AppendZerosOnto
import Derived.Lib.SliceRun
import Derived.Maps.AppendAt
import Derived.Sort.Grow
import Derived.WalkKit
import Derived.WalkLawsBesides
import Derived.WalkSpells
import Derived.Test.YtihfibjckkmmbaaGreatRows
import Derived.Test.YtihfibjckkmmbaaGreatQhaf
namespace Go.Proofs.YtihfibjckkmmbaaGreat
open Go.RowKit
theorem run_append_zero {P:Program} (w:World) (t ty e:TypeId) (i:TypeInfo) (ht:P.underlying t=some (.slice e)) (hi:P.info? e=some i) {base size n:Nat} {v:Value} {xs:List Value} {e':TypeId} (hown:w.ownsRow base e' size v n xs) (a:Option Addr) (c:Nat) :
  (Builtin.append_ #[t,t] ty #[v,.slice a 0 c]).run P w=.ok v w:=by
 rcases hown.2 with ⟨hv,h0⟩ | ⟨g,cap,cur,hv,_,_,hnc,_⟩
 ·subst hv
  cases a
  ·simp [Builtin.append_,run_underlying ht,sizeOf,typeInfo,hi,Builtin.lenOf,Builtin.firstCells]
  ·simp [Builtin.append_,run_underlying ht,sizeOf,typeInfo,hi,Builtin.lenOf,Builtin.firstCells,loadCells,loadCellsFrom]
 ·subst hv
  cases a
  ·simp [Builtin.append_,run_underlying ht,sizeOf,typeInfo,hi,Builtin.lenOf,Builtin.firstCells,storeCells,hnc]
  ·simp [Builtin.append_,run_underlying ht,sizeOf,typeInfo,hi,Builtin.lenOf,Builtin.firstCells,loadCells,loadCellsFrom,storeCells,hnc]
theorem wpList_append_zero {P:Program} {w:World} {ops:Array Oper} {rest:List Oper} {o:Oper} {a:Act} {Q:Exit→Act→World→Prop} (hgd:o.guard=none) (s x:Operand) (t:TypeId)
  (ho:o.op=.call { callee:=.builtin .append,args:=#[s,x],argTypes:=#[t,t] }) (d:Option Tmp) (hd:o.dst=d) (e:TypeId) (i:TypeInfo) (ht:P.underlying t=some (.slice e)) (hi:P.info? e=some i)
  {base size n:Nat} {v:Value} {xs:List Value} {e':TypeId} (hs:a.eval s=v) (hown:w.ownsRow base e' size v n xs) (b:Option Addr) (m c:Nat) (hm:m=0) (hx:a.eval x=.slice b m c)
  (h:wpList P ops Q rest (a.put d v) w):wpList P ops Q (o::rest) a w:=by
 subst hd
 subst hm
 refine wpList_plain hgd fun K hK=>?_
 have hrun:=run_append_zero (P:=P) w t o.type e i ht hi hown b c
 unfold Oper.wp
 simp [execOp,ho,resolve,invoke,builtin,hs,hx,hrun,Result.andThen]
 exact hK _ _ h
set_option maxHeartbeats 1000000 in
set_option maxRecDepth 100000 in
theorem growT_any (n:Nat) (w:World) (hn:n≤1000) :
  Calls Tryz.prog 94 #[.slice none 0 0,.int .i64 n] w fun e w'=>∃ v,e=.returned v∧w'.ownsRow w.heap.size 53 1 v 0 []∧Below w.heap.size w w':=by
 obtain ⟨i0,hi,hz0,hz1,hz2⟩:=info_parts Tryz.infoTh
 have h1:¬ ((n:Int) < 0):=by omega
 rcases Nat.eq_zero_or_pos n with h0 | hpos
 ·subst h0
  go_enter Tryz.func94,Tryz.ntmps94
  go_wp2_with fail
  go_ret
  exact ⟨_,rfl,World.ownsRow_nil _ _ _ _,Below.refl _ _⟩
 ·have h4:(0:Int) < n:=by omega
  have hrz:∀ ty,(Builtin.append_ #[23,3] ty #[.slice none 0 0,.int .i64 n]).run Tryz.prog w=.ok (.slice (some ⟨w.heap.size,0,none⟩) n (grownCap w n 0 53)) (w.drew.alloc (.cells (#[]++Builtin.zeroCells (Value.slice none 0 0).cells n++Builtin.zeroCells (Value.slice none 0 0).cells (grownCap w n 0 53 - n)) 53)):=fun ty=>by
   have h:=Lib.run_append_grow_zeros (P:=Tryz.prog) w 23 3 ty 53 i0 (.slice none 0 0) .i64 .i64 Tryz.underlying23 Tryz.underlying3 hi hz0 none 0 0 [] (run_firstCells_none w.drew i0.size 0 0 0) n hpos (by rw [hz1];decide) (by omega) (by omega) (by rw [hz2];omega) (by rw [hz2];simp [Builtin.nextslicecap,hpos];omega)
   simpa using h
  have hG:n≤grownCap w n 0 53:=grownCap_ge w _ _ _
  have hG2:=grownCap_le_maxLen w n 0 53 (by unfold maxLen;omega)
  generalize grownCap w n 0 53=G at *
  have hsz:(#[]++Builtin.zeroCells (Value.slice none 0 0).cells n++Builtin.zeroCells (Value.slice none 0 0).cells (G - n)).size=G * 1:=by
   simp [Builtin.zeroCells,Value.cells];omega
  generalize #[]++Builtin.zeroCells (Value.slice none 0 0).cells n++Builtin.zeroCells (Value.slice none 0 0).cells (G - n)=Z at *
  have hG3:(G:Int)≤9223372036854775807:=by unfold maxLen at hG2;omega
  go_enter Tryz.func94,Tryz.ntmps94
  go_wp2_with (at_builtin;refine Lib.wpList_append_run _ rfl _ _ _ _ rfl _ _ rfl rfl _ _ (hrz _) ?_)
  go_ret
  exact ⟨_,rfl,World.ownsRow_made w.drew Z G (Nat.le_refl _) hG2 hsz,(Below.refl w.heap.size w).drew.alloc (Nat.le_refl _) _⟩
theorem DoSS.vals {w:World} {a:Option Addr} {b o:Nat} {ll:List (List M.D)} (h:DoSS w a b o ll):∃ vs:List Value,Thx w vs ll∧∀ i (h2:i < vs.length),w.cell? ⟨b,o+i,none⟩=some vs[i]:=by
 have key:∀ i (hi:i < ll.length),w.cell? ⟨b,o+i,none⟩=some ((w.cell? ⟨b,o+i,none⟩).getD (.int .i64 0)):=fun i hi=>by
  obtain ⟨a',b',o',c',hc,_⟩:=h.row i hi
  rw [hc];rfl
 refine ⟨(List.range ll.length).map fun i=>(w.cell? ⟨b,o+i,none⟩).getD (.int .i64 0),⟨by simp,fun i h1 h2=>?_⟩,fun i h2=>?_⟩
 ·obtain ⟨a',b',o',c',hc,hd⟩:=h.row i h1
  refine ⟨a',b',o',c',?_,hd⟩
  rw [List.getElem_map,List.getElem_range,hc];rfl
 ·rw [List.getElem_map,List.getElem_range]
  exact key i (by simpa using h2)
theorem Thx.one {w:World} {vs:List Value} {ll:List (List M.D)} (h:Thx w vs ll):∀ y∈vs,y.oneCell'=true:=fun y hy=>by
 obtain ⟨i,hi,rfl⟩:=List.getElem_of_mem hy
 obtain ⟨a',b',o',c',e,_⟩:=h.2 i (by rw [← h.1];exact hi) hi
 rw [e];rfl
theorem Thx.app {w:World} {vs ws:List Value} {ll mm:List (List M.D)} (h:Thx w vs ll) (k:Thx w ws mm):Thx w (vs++ws) (ll++mm):=by
 have hl:=h.1
 have kl:=k.1
 refine ⟨by simp [hl,kl],fun i h1 h2=>?_⟩
 by_cases hi:i < ll.length
 ·rw [List.getElem_append_left (by omega),List.getElem_append_left hi]
  exact h.2 i hi (by omega)
 ·have e1:(vs++ws)[i]=ws[i - ll.length]'(by simp at h2;omega):=by rw [List.getElem_append_right (by omega)];simp only [hl]
  have e2:(ll++mm)[i]=mm[i - ll.length]'(by simp at h1;omega):=List.getElem_append_right (by omega)
  rw [e1,e2]
  exact k.2 _ _ _
def M.pre2 (n:Nat) (ll mm:List (List M.D)):List (List M.D):=if n=0 then [] else if n=1 then ll else ll++mm
def M.sum2 (n a b:Nat):Nat:=if n=0 then 0 else if n=1 then a else a+b
set_option maxHeartbeats 2000000 in
set_option maxRecDepth 100000 in
theorem concatT_any (B:Nat) (a:Option Addr) (b o c:Nat) (ll:List (List M.D)) (a2:Option Addr) (b2 o2 c2:Nat) (mm:List (List M.D)) (w:World) (hl:ll.length≤100) (hm:mm.length≤100) (h0:w.cell? ⟨B,0,none⟩=some (.slice a ll.length c)) (h1:w.cell? ⟨B,1,none⟩=some (.slice a2 mm.length c2)) (h:DoSS w a b o ll) (h2:DoSS w a2 b2 o2 mm) :
  Calls Tryz.prog 62 #[.slice (some ⟨B,0,none⟩) 2 2] w fun e w'=>∃ v,e=.returned v∧(∃ a',(∃ c',v=.slice a' (ll++mm).length c')∧∃ g',DoSS w' a' g' 0 (ll++mm))∧Below w.heap.size w w':=by
 obtain ⟨i0,hi,hz0,hz1,hz2⟩:=info_parts Tryz.infoTh
 obtain ⟨vs1,hv1,hc1⟩:=h.vals
 obtain ⟨vs2,hv2,hc2⟩:=h2.vals
 have ha1:=h.addr
 have ha2:=h2.addr
 have lB:B < w.heap.size:=World.block_lt_of_cell? _ _ h0
 clear h h2
 go_enter Tryz.func62,Tryz.ntmps62
 go_wp2_with fail
 go_loopw [3,11] (fun s3 s11 wr=>∃ n:Nat,s11=.int .i64 n∧n≤2∧s3=.int .i64 (M.sum2 n ll.length mm.length:Nat)∧wr=w) (fun _ s11 _=>2 - (intOf s11).toNat)
 case atStart=>exact ⟨0,rfl,by omega,rfl,rfl⟩
 case round =>
  obtain ⟨n,rfl,hn,rfl,rfl⟩:=hrel
  rcases (show n=0∨n=1∨n=2 by omega) with rfl | rfl | rfl
  ·have e0:M.sum2 0 ll.length mm.length=0:=rfl
   rw [e0]
   have hge:¬ ((ll.length:Int) < 0):=by omega
   go_wp2_with fail
   exact ⟨⟨1,by go_num,by omega,by simp [M.sum2],trivial⟩,by simp [intOf]⟩
  ·have e0:M.sum2 1 ll.length mm.length=ll.length:=rfl
   rw [e0]
   have hge:¬ ((ll.length:Int)+mm.length < 0):=by omega
   go_wp2_with fail
   exact ⟨⟨2,by go_num,by omega,by simp [M.sum2],trivial⟩,by simp [intOf]⟩
  ·have e0:M.sum2 2 ll.length mm.length=ll.length+mm.length:=rfl
   rw [e0]
   go_wp2_with fail
   refine (growT_any (ll.length+mm.length) wr (by omega)).mono ?_
   rintro e w1 ⟨v1,rfl,hown1,b1⟩
   go_wp2_with fail
   obtain ⟨wo,hwo⟩:∃ wo,wo=wr:=⟨_,rfl⟩
   subst hwo
   go_loopw [6,27] (fun s6 s27 wi=>∃ (n:Nat) (vs:List Value),s27=.int .i64 n∧n≤2∧wi.ownsRow wo.heap.size 53 1 s6 (M.pre2 n ll mm).length vs∧Thx wo vs (M.pre2 n ll mm)∧Below wo.heap.size wo wi) (fun _ s27 _=>2 - (intOf s27).toNat)
   case atStart=>exact ⟨0,[],rfl,by omega,hown1,Thx.nil _,b1⟩
   case round =>
    obtain ⟨n,vs,rfl,hn,hown,hT,hbel⟩:=hrel
    have hbs:=hbel.size
    rcases (show n=0∨n=1∨n=2 by omega) with rfl | rfl | rfl
    ·have k0:=(hbel.cell (p:=⟨B,0,none⟩) lB).trans h0
     have hvs:vs=[]:=List.length_eq_zero_iff.1 hT.1
     subst hvs
     have hown0:wr.ownsRow wo.heap.size 53 1 u6 0 []:=hown
     clear hown hT
     rcases Nat.eq_zero_or_pos ll.length with hz | hz
     ·have hZ:Hid (ll.length=0):=hz
      clear hz
      go_wp2_with (at_builtin;refine wpList_append_zero rfl (.tmp 31) (.tmp 32) 23 rfl (some 33) rfl 53 i0 Tryz.underlying23 hi rfl hown0 a ll.length c hZ.out rfl ?_)
      go_wp2_with fail
      have hll:ll=[]:=List.length_eq_zero_iff.1 hZ.out
      exact ⟨⟨1,[],by go_num,by omega,by rw [show M.pre2 1 ll mm=[] from hll];exact hown0,by rw [show M.pre2 1 ll mm=[] from hll];exact Thx.nil _,hbel⟩,by simp [intOf]⟩
     ·obtain ⟨rfl⟩:=ha1 hz
      go_wp2_with (at_builtin;refine wpList_append_own _ rfl (.tmp 31) (.tmp 32) 23 rfl _ 53 i0 _ 1 24 Tryz.underlying23 hi hz0 hz1 hz2 rfl (by decide) _ _ _ rfl hown0 ⟨b,o,none⟩ ll.length c vs1 rfl (by rw [hv1.1];omega) (fun j u hj=>by
        obtain ⟨hjl,rfl⟩:=List.getElem?_eq_some_iff.1 hj
        have:=hc1 j hjl
        rw [Go.WideShapes.add_plain]
        exact (hbel.cell (p:=⟨b,o+j,none⟩) (World.block_lt_of_cell? _ _ this)).trans this) hv1.one (by unfold maxLen;omega) (by omega) (by omega) ?_)
      intro v3 w3 hown3 hg3 _
      have hb3:Below _ _ w3:=below_grown hbel hg3 (own_ge hown0) hbel.size
      have hown4:w3.ownsRow wo.heap.size 53 1 v3 (M.pre2 1 ll mm).length vs1:=by simpa [M.pre2] using hown3
      clear hown3 hg3 hown0
      go_wp2_with fail
      exact ⟨⟨1,vs1,by go_num,by omega,hown4,hv1,hb3⟩,by simp [intOf]⟩
    ·have k1:=(hbel.cell (p:=⟨B,1,none⟩) lB).trans h1
     have hown0:wr.ownsRow wo.heap.size 53 1 u6 ll.length vs:=hown
     have hT0:Thx wo vs ll:=hT
     clear hown hT
     rcases Nat.eq_zero_or_pos mm.length with hz | hz
     ·have hZ:Hid (mm.length=0):=hz
      clear hz
      go_wp2_with (at_builtin;refine wpList_append_zero rfl (.tmp 31) (.tmp 32) 23 rfl (some 33) rfl 53 i0 Tryz.underlying23 hi rfl hown0 a2 mm.length c2 hZ.out rfl ?_)
      go_wp2_with fail
      have hll:mm=[]:=List.length_eq_zero_iff.1 hZ.out
      have hpp:M.pre2 2 ll mm=ll:=by rw [hll];simp [M.pre2]
      exact ⟨⟨2,vs,by go_num,by omega,by rw [hpp];exact hown0,by rw [hpp];exact hT0,hbel⟩,by simp [intOf]⟩
     ·obtain ⟨rfl⟩:=ha2 hz
      go_wp2_with (at_builtin;refine wpList_append_own _ rfl (.tmp 31) (.tmp 32) 23 rfl _ 53 i0 _ 1 24 Tryz.underlying23 hi hz0 hz1 hz2 rfl (by decide) _ _ _ rfl hown0 ⟨b2,o2,none⟩ mm.length c2 vs2 rfl (by rw [hv2.1];omega) (fun j u hj=>by
        obtain ⟨hjl,rfl⟩:=List.getElem?_eq_some_iff.1 hj
        have:=hc2 j hjl
        rw [Go.WideShapes.add_plain]
        exact (hbel.cell (p:=⟨b2,o2+j,none⟩) (World.block_lt_of_cell? _ _ this)).trans this) hv2.one (by unfold maxLen;omega) (by omega) (by omega) ?_)
      intro v3 w3 hown3 hg3 _
      have hb3:Below _ _ w3:=below_grown hbel hg3 (own_ge hown0) hbel.size
      have hown4:w3.ownsRow wo.heap.size 53 1 v3 (M.pre2 2 ll mm).length (vs++vs2):=by simpa [M.pre2] using hown3
      have hT4:Thx wo (vs++vs2) (M.pre2 2 ll mm):=by simpa [M.pre2] using hT0.app hv2
      clear hown3 hg3 hown0
      go_wp2_with fail
      exact ⟨⟨2,_,by go_num,by omega,hown4,hT4,hb3⟩,by simp [intOf]⟩
    ·have hown0:wr.ownsRow wo.heap.size 53 1 u6 (ll++mm).length vs:=hown
     have hT0:Thx wo vs (ll++mm):=hT
     obtain ⟨a',g',c',rfl,hs⟩:=(hT0.below hbel (Nat.le_refl _)).ss hown0
     clear hown hT
     go_wp2_with fail
     go_ret
     exact ⟨_,rfl,⟨a',⟨c',rfl⟩,g',hs⟩,hbel⟩
end Go.Proofs.YtihfibjckkmmbaaGreat
namespace Go.Proofs.YtihfibjckkmmbaaGreat
open Go.RowKit
theorem cells2_0 (w:World) (x y:Value) (t:TypeId):(w.alloc (.cells #[x,y] t)).cell? ⟨w.heap.size,0,none⟩=some x:=by simp
theorem cells2_1 (w:World) (x y:Value) (t:TypeId):(w.alloc (.cells #[x,y] t)).cell? ⟨w.heap.size,1,none⟩=some y:=by simp
set_option maxHeartbeats 2000000 in
set_option maxRecDepth 100000 in
theorem iturnBeside_any (a:Option Addr) (b o c:Nat) (ll:List (List M.D)) (hl:ll.length≤1048576) (hls:∀ t∈ll,t.length≤1048576) (a2:Option Addr) (b2 o2 c2:Nat) (mm:List (List M.D)) (hm:mm.length≤1048576) (hms:∀ t∈mm,t.length≤1048576) (w:World) (h:DoSS w a b o ll) (h2:DoSS w a2 b2 o2 mm) :
  Calls Tryz.prog 24 #[.agg #[.slice a ll.length c],.agg #[.slice a2 mm.length c2]] w fun e w'=>∃ v,e=.returned (.tuple #[.agg #[v],.bool (M.turnBeside ll mm).isSome])∧(∃ vs,Rdg w' w.heap.size v ((M.turnBeside ll mm).getD []) vs)∧Below w.heap.size w w':=by
 have b2':=below3 w (.cells #[.slice a ll.length c] 25) (.cells #[.slice a2 mm.length c2] 25) (.cells #[.slice none 0 0] 25)
 have h1:=h.below b2' (Nat.le_refl _)
 have k1:=h2.below b2' (Nat.le_refl _)
 have hX:=((Slot1.new w (.slice a ll.length c) 25).bl' (below1 _ (.cells #[.slice a2 mm.length c2] 25))).bl' (below1 _ (.cells #[.slice none 0 0] 25))
 have hZ:=(Slot1.new (w.alloc (.cells #[.slice a ll.length c] 25)) (.slice a2 mm.length c2) 25).bl' (below1 _ (.cells #[.slice none 0 0] 25))
 have hY:=Slot1.new ((w.alloc (.cells #[.slice a ll.length c] 25)).alloc (.cells #[.slice a2 mm.length c2] 25)) (.slice none 0 0) 25
 rw [World.size_alloc] at hZ
 rw [World.size_alloc,World.size_alloc] at hY
 go_enter Tryz.func24,Tryz.ntmps24
 go_wp2_with fail
 generalize ((w.alloc (.cells #[.slice a ll.length c] 25)).alloc (.cells #[.slice a2 mm.length c2] 25)).alloc (.cells #[.slice none 0 0] 25)=W at *
 have CP:=iprog_any a b o c ll W hl hls h1
 cases hp:M.prog ll
 ·rw [hp] at CP
  have hno:=M.turnBeside_bad (mm:=mm) hp
  refine CP.mono ?_
  rintro e W1 ⟨rfl,b1⟩
  have hY1:=hY.bl' b1
  have y0:=hY1.c
  have yf:=hY1.fz
  have ly:=hY1.lt
  have bw1:=b2'.trans (b1.mono b2'.size)
  go_wp2_with fail
  have q1:=(hY1.set (.slice none 0 0)).c
  exact bodyPost_ret (v:=.tuple #[.agg #[.slice none 0 0],.bool false]) (by simp [results,Tryz.results24,go_sem,q1]) rfl ⟨_,by rw [hno];rfl,⟨[],by rw [hno];exact Rdg.nil _ _⟩,bw1.setCell (by show w.heap.size≤w.heap.size+1+1;omega) _⟩
 ·rw [hp] at CP
  have CP2:=fun W' hb=>iprog_any a2 b2 o2 c2 mm W' hm hms (k1.below (B:=W.heap.size) hb (Nat.le_refl _))
  cases hp2:M.prog mm
  ·rw [hp2] at CP2
   have hno:=M.turnBeside_bad2 (ll:=ll) hp2
   refine CP.mono ?_
   rintro e W1 ⟨rfl,b1⟩
   have hZ1:=hZ.bl' b1
   have z0:=hZ1.c
   have CP3:=CP2 W1 b1
   clear CP CP2
   go_wp2_with (first | (go_at_call 38;refine CP3.mono ?_;rintro e W2 ⟨rfl,bb2⟩;have hY2:=(hY.bl' b1).bl' bb2;have y0:=hY2.c;have yf:=hY2.fz;have ly:=hY2.lt))
   have b12:=b1.trans (bb2.mono b1.size)
   have bw1:=b2'.trans (b12.mono b2'.size)
   have q1:=(hY2.set (.slice none 0 0)).c
   exact bodyPost_ret (v:=.tuple #[.agg #[.slice none 0 0],.bool false]) (by simp [results,Tryz.results24,go_sem,q1]) rfl ⟨_,by rw [hno];rfl,⟨[],by rw [hno];exact Rdg.nil _ _⟩,bw1.setCell (by show w.heap.size≤w.heap.size+1+1;omega) _⟩
  ·rw [hp2] at CP2
   obtain ⟨h3,h7⟩:=M.prog_le hp
   obtain ⟨m3,m7⟩:=M.prog_le hp2
   have HP:Hid (M.prog ll=true):=hp
   have HP2:Hid (M.prog mm=true):=hp2
   clear hp hp2
   refine CP.mono ?_
   rintro e W1 ⟨rfl,b1⟩
   have hZ1:=hZ.bl' b1
   have z0:=hZ1.c
   have CP3:=CP2 W1 b1
   clear CP CP2
   go_wp2_with (first | (go_at_call 38;refine CP3.mono ?_;rintro e W2 ⟨rfl,bb2⟩;have b12:=b1.trans (bb2.mono b1.size);have hY2:=hY.bl' b12;have hX2:=hX.bl' b12;have hZ2:=hZ.bl' b12;have x2:=hX2.c;have z2:=hZ2.c))
   have bw2:=b2'.trans (b12.mono b2'.size)
   have bL:=below1 W2 (.cells #[.slice a ll.length c,.slice a2 mm.length c2] 23)
   have hY3:=hY2.bl' bL
   have bw3:=bw2.trans (bL.mono bw2.size)
   have hD3:=(h1.below b12 (Nat.le_refl _)).below bL (Nat.le_refl _)
   have hE3:=(k1.below b12 (Nat.le_refl _)).below bL (Nat.le_refl _)
   have CC:=concatT_any W2.heap.size a b o c ll a2 b2 o2 c2 mm (W2.alloc (.cells #[.slice a ll.length c,.slice a2 mm.length c2] 23)) (by omega) (by omega) (cells2_0 _ _ _ _) (cells2_1 _ _ _ _) hD3 hE3
   clear x2 z2 z0 hX hZ hX2 hZ2 hZ1 h1 k1 hD3 hE3 CP3
   refine CC.mono ?_
   rintro e W4 ⟨v4,rfl,⟨a4,⟨c4,rfl⟩,g4,hs4⟩,b4⟩
   have hY4:=hY3.bl' b4
   have bw4:=bw3.trans (b4.mono bw3.size)
   have bA:=below1 W4 (.cells #[.slice a4 (ll++mm).length c4] 25)
   have hs5:=hs4.below bA (Nat.le_refl _)
   have hY5:=hY4.bl' bA
   have bw5:=bw4.trans (bA.mono bw4.size)
   have hC5:=Slot1.new W4 (.slice a4 (ll++mm).length c4) 25
   have hn3:(ll++mm).length≤1048576:=by simp;omega
   have hn7:∀ t∈ll++mm,t.length≤1048576:=fun t ht=>by
    rcases List.mem_append.1 ht with ht | ht
    ·exact hls t ht
    ·exact hms t ht
   have HQ:∀ q,M.prog (ll++mm)=q→(M.turnBeside ll mm).isSome=q∧(M.turnBeside ll mm).getD []=if q then ll++mm else []:=by
    intro q hq
    cases q
    ·rw [M.turnBeside_bad3 hq];exact ⟨rfl,rfl⟩
    ·rw [M.turnBeside_yes HP.out HP2.out hq];exact ⟨rfl,rfl⟩
   obtain ⟨ok,hok⟩:∃ q,M.prog (ll++mm)=q:=⟨_,rfl⟩
   obtain ⟨e1,e2⟩:=HQ ok hok
   have E1:Hid ((M.turnBeside ll mm).isSome=ok):=e1
   have E2:Hid ((M.turnBeside ll mm).getD []=if ok then ll++mm else []):=e2
   have CQ:=iprog_any a4 g4 0 c4 (ll++mm) _ hn3 hn7 hs5
   rw [hok] at CQ
   clear HQ hok e1 e2 hY hY2 hY3 hY4 CC hs4
   generalize ll++mm=nn at *
   go_wp2_with fail
   generalize W4.alloc (.cells #[.slice a4 nn.length c4] 25)=W5 at *
   generalize W4.heap.size=PC at *
   refine CQ.mono ?_
   rintro e W6 ⟨rfl,b6⟩
   have hY6:=hY5.bl' b6
   have hC6:=hC5.bl' b6
   have bw6:=bw5.trans (b6.mono bw5.size)
   have hs6:=hs5.below b6 (Nat.le_refl _)
   have y0:=hY6.c
   have yf:=hY6.fz
   have ly:=hY6.lt
   have c0:=hC6.c
   cases ok
   ·go_wp2_with fail
    have q1:=(hY6.set (.slice none 0 0)).c
    exact bodyPost_ret (v:=.tuple #[.agg #[.slice none 0 0],.bool false]) (by simp [results,Tryz.results24,go_sem,q1]) rfl ⟨_,by rw [E1.out],⟨[],by rw [E2.out];exact Rdg.nil _ _⟩,bw6.setCell (by show w.heap.size≤w.heap.size+1+1;omega) _⟩
   ·clear y0 yf
    go_wp2_with fail
    refine (copyProg_any a4 g4 0 c4 nn W6 hn3 hn7 hs6).mono ?_
    rintro e W7 ⟨v7,rfl,⟨vs,hR⟩,b7⟩
    have hY7:=hY6.bl' b7
    have bw7:=bw6.trans (b7.mono bw6.size)
    have y0:=hY7.c
    have yf:=hY7.fz
    have ly7:=hY7.lt
    obtain ⟨av,gv,cv,rfl,_⟩:=hR.b.ss
    go_wp2_with fail
    have q1:=(hY7.set (.slice av nn.length cv)).c
    exact bodyPost_ret (v:=.tuple #[.agg #[.slice av nn.length cv],.bool true]) (by simp [results,Tryz.results24,go_sem,q1]) rfl ⟨_,by rw [E1.out],⟨vs,by rw [E2.out];exact (hR.far (by omega) _).mono (by have:=bw6.size;omega)⟩,bw7.setCell (by show w.heap.size≤w.heap.size+1+1;omega) _⟩
end Go.Proofs.YtihfibjckkmmbaaGreat
namespace Go.Proofs.YtihfibjckkmmbaaGreat
open Go.RowKit
theorem run_append_emp0 {P:Program} (w:World) (t ty e:TypeId) (i:TypeInfo) (ht:P.underlying t=some (.slice e)) (hi:P.info? e=some i) (ad:Addr) (a:Option Addr) (c:Nat) :
  (Builtin.append_ #[t,t] ty #[.slice (some ad) 0 0,.slice a 0 c]).run P w=.ok (.slice (some ad) 0 0) w:=by
 cases a
 ·simp [Builtin.append_,run_underlying ht,sizeOf,typeInfo,hi,Builtin.lenOf,Builtin.firstCells,storeCells]
 ·simp [Builtin.append_,run_underlying ht,sizeOf,typeInfo,hi,Builtin.lenOf,Builtin.firstCells,loadCells,loadCellsFrom,storeCells]
theorem grow_refl (w:World) (row:Option Nat):w.grownBy w row:=⟨rfl,rfl,rfl,Nat.le_refl _,fun _ _ _=>rfl⟩
theorem own_emp {X:World} {base g size:Nat} {e:TypeId} (h:X.heap[g]?=some (.cells #[] e (0,0))) (hb:base≤g):X.ownsRow base e size (.slice (some ⟨g,0,none⟩) 0 0) 0 [] :=
 ⟨by simp,.inr ⟨g,0,#[],rfl,hb,h,Nat.le_refl _,Nat.zero_le _,by simp,by simp⟩⟩
theorem wp_append_does {P:Program} {o:Oper} {a:Act} {w:World} {K:Act→World→Prop} {Q:Exit→Act→World→Prop} (s x:Operand) (t:TypeId)
  (ho:o.op=.call { callee:=.builtin .append,args:=#[s,x],argTypes:=#[t,t] }) (d:Option Tmp) (hd:o.dst=d) (base:Nat) (e:TypeId) (i:TypeInfo) (ht:P.underlying t=some (.slice e)) (hi:P.info? e=some i) (hz0:i.zero=some (.agg #[.int .i64 0,.int .i64 0,.int .i64 0])) (hz1:i.size=3) (hz2:i.bytes=24)
  (g:Nat) (hs:a.eval s=.slice (some ⟨g,0,none⟩) 0 0) (hown:w.ownsRow base e 3 (.slice (some ⟨g,0,none⟩) 0 0) 0 []) (hbase:base≤w.heap.size) (sa:Option Addr) (b off c:Nat) (l:List M.D) (hx:a.eval x=.slice sa l.length c) (hI:DoS w sa b off l) (hl:l.length≤1048576)
  (h:∀ v' w',w'.ownsRow base e 3 v' l.length (flat l)→w.grownBy w' (some g)→(v'.ownBlock=some g∨v'.ownBlock=some w.heap.size)→K (a.put d v') w') :
  Oper.wp P o a w K Q:=by
 subst hd
 cases sa with
 | none =>
  have hl0:l=[]:=by
   rcases Nat.eq_zero_or_pos l.length with h0 | h0
   ·exact List.length_eq_zero_iff.1 h0
   ·cases hI.addr h0
  subst hl0
  rw [List.length_nil] at hx
  have hrun:=run_append_emp0 (P:=P) w t o.type e i ht hi ⟨g,0,none⟩ none c
  have hk:=h (.slice (some ⟨g,0,none⟩) 0 0) w hown (grow_refl _ _) (.inl rfl)
  unfold Oper.wp
  simp [execOp,ho,resolve,invoke,builtin,hs,hx,hrun,Result.andThen]
  exact hk
 | some ad =>
  have hn:∀ j u,(flat l)[j]?=some u→w.cell? (ad.add j)=some u:=fun j u hj=>by
   have hjl:=(List.getElem?_eq_some_iff.1 hj).1
   rw [flat_length] at hjl
   obtain ⟨rfl⟩:=hI.addr (by omega)
   exact DoS.flat_cells hI.row j u hj
  obtain ⟨v',w',hrun,h2,h3,_,h5⟩:=run_append_own_at (P:=P) w base t o.type e i (.agg #[.int .i64 0,.int .i64 0,.int .i64 0]) 3 24 ht hi hz0 hz1 hz2 rfl (by decide) (.slice (some ⟨g,0,none⟩) 0 0) 0 [] hown ad l.length c (flat l) (flat_length l) hn (flat_one' l) (by unfold maxLen;omega) (by omega) hbase
  have hk:=h v' w' (by simpa using h2) h3 h5
  unfold Oper.wp
  simp [execOp,ho,resolve,invoke,builtin,hs,hx,hrun,Result.andThen]
  exact hk
theorem step_append_does {P:Program} {ops:Array Oper} {o:Oper} {a:Act} {w:World} {K:Act→World→Prop} {Q:Exit→Act→World→Prop} {E:Prop} (hgd:o.guard=none) (s x:Operand) (t:TypeId)
  (ho:o.op=.call { callee:=.builtin .append,args:=#[s,x],argTypes:=#[t,t] }) (d:Option Tmp) (hd:o.dst=d) (base:Nat) (e:TypeId) (i:TypeInfo) (ht:P.underlying t=some (.slice e)) (hi:P.info? e=some i) (hz0:i.zero=some (.agg #[.int .i64 0,.int .i64 0,.int .i64 0])) (hz1:i.size=3) (hz2:i.bytes=24)
  (g:Nat) (hs:a.eval s=.slice (some ⟨g,0,none⟩) 0 0) (hown:w.ownsRow base e 3 (.slice (some ⟨g,0,none⟩) 0 0) 0 []) (hbase:base≤w.heap.size) (sa:Option Addr) (b off c:Nat) (l:List M.D) (hx:a.eval x=.slice sa l.length c) (hI:DoS w sa b off l) (hl:l.length≤1048576)
  (h:∀ v' w',w'.ownsRow base e 3 v' l.length (flat l)→w.grownBy w' (some g)→(v'.ownBlock=some g∨v'.ownBlock=some w.heap.size)→K (a.put d v') w') :
  if Region.wanted o (yielded ops a.tmps)=true then Oper.wp P o a w K Q else E:=by
 have hw:Region.wanted o (yielded ops a.tmps)=true:=by simp [Region.wanted,hgd]
 rw [if_pos hw]
 exact wp_append_does s x t ho d hd base e i ht hi hz0 hz1 hz2 g hs hown hbase sa b off c l hx hI hl h
end Go.Proofs.YtihfibjckkmmbaaGreat
namespace Go.Proofs.YtihfibjckkmmbaaGreat
open Go.RowKit
set_option maxHeartbeats 8000000 in
set_option maxRecDepth 100000 in
set_option linter.unusedSimpArgs false in
theorem sturnBeside_any (a:Option Addr) (b o c:Nat) (ll:List (List M.D)) (hl:ll.length≤1048576) (hls:∀ t∈ll,t.length≤1048576) (a2:Option Addr) (b2 o2 c2:Nat) (mm:List (List M.D)) (hm:mm.length≤1048576) (hms:∀ t∈mm,t.length≤1048576) (w:World) (h:DoSS w a b o ll) (h2:DoSS w a2 b2 o2 mm) :
  Calls Tryz.prog 23 #[.agg #[.slice a ll.length c],.agg #[.slice a2 mm.length c2]] w fun e w'=>∃ v,e=.returned (.tuple #[.agg #[v],.bool (M.turnBeside ll mm).isSome])∧(∃ vs,Rdg w' w.heap.size v ((M.turnBeside ll mm).getD []) vs)∧Below w.heap.size w w':=by
 obtain ⟨i0,hi,hz0,hz1,hz2⟩:=info_parts Tryz.info53
 obtain ⟨j0,hj,hy0,hy1,hy2⟩:=info_parts Tryz.info56
 have b2':=below3 w (.cells #[.slice a ll.length c] 25) (.cells #[.slice a2 mm.length c2] 25) (.cells #[.slice none 0 0] 25)
 have h1:=h.below b2' (Nat.le_refl _)
 have k1:=h2.below b2' (Nat.le_refl _)
 have hX:=((Slot1.new w (.slice a ll.length c) 25).bl' (below1 _ (.cells #[.slice a2 mm.length c2] 25))).bl' (below1 _ (.cells #[.slice none 0 0] 25))
 have hZ:=(Slot1.new (w.alloc (.cells #[.slice a ll.length c] 25)) (.slice a2 mm.length c2) 25).bl' (below1 _ (.cells #[.slice none 0 0] 25))
 have hY:=Slot1.new ((w.alloc (.cells #[.slice a ll.length c] 25)).alloc (.cells #[.slice a2 mm.length c2] 25)) (.slice none 0 0) 25
 rw [World.size_alloc] at hZ
 rw [World.size_alloc,World.size_alloc] at hY
 go_enter Tryz.func23,Tryz.ntmps23
 go_wp2_with fail
 generalize ((w.alloc (.cells #[.slice a ll.length c] 25)).alloc (.cells #[.slice a2 mm.length c2] 25)).alloc (.cells #[.slice none 0 0] 25)=W at *
 have CP:=sprog_any a b o c ll W hl hls h1
 cases hp:M.prog ll
 ·rw [hp] at CP
  have hno:=M.turnBeside_bad (mm:=mm) hp
  refine CP.mono ?_
  rintro e W1 ⟨rfl,b1⟩
  have hY1:=hY.bl' b1
  have y0:=hY1.c
  have yf:=hY1.fz
  have ly:=hY1.lt
  have bw1:=b2'.trans (b1.mono b2'.size)
  go_wp2_with fail
  have q1:=(hY1.set (.slice none 0 0)).c
  exact bodyPost_ret (v:=.tuple #[.agg #[.slice none 0 0],.bool false]) (by simp [results,Tryz.results23,go_sem,q1]) rfl ⟨_,by rw [hno];rfl,⟨[],by rw [hno];exact Rdg.nil _ _⟩,bw1.setCell (by show w.heap.size≤w.heap.size+1+1;omega) _⟩
 ·rw [hp] at CP
  have CP2:=fun W' hb=>sprog_any a2 b2 o2 c2 mm W' hm hms (k1.below (B:=W.heap.size) hb (Nat.le_refl _))
  cases hp2:M.prog mm
  ·rw [hp2] at CP2
   have hno:=M.turnBeside_bad2 (ll:=ll) hp2
   refine CP.mono ?_
   rintro e W1 ⟨rfl,b1⟩
   have hZ1:=hZ.bl' b1
   have z0:=hZ1.c
   have CP3:=CP2 W1 b1
   clear CP CP2
   go_wp2_with (first | (go_at_call 32;refine CP3.mono ?_;rintro e W2 ⟨rfl,bb2⟩;have hY2:=(hY.bl' b1).bl' bb2;have y0:=hY2.c;have yf:=hY2.fz;have ly:=hY2.lt))
   have b12:=b1.trans (bb2.mono b1.size)
   have bw1:=b2'.trans (b12.mono b2'.size)
   have q1:=(hY2.set (.slice none 0 0)).c
   exact bodyPost_ret (v:=.tuple #[.agg #[.slice none 0 0],.bool false]) (by simp [results,Tryz.results23,go_sem,q1]) rfl ⟨_,by rw [hno];rfl,⟨[],by rw [hno];exact Rdg.nil _ _⟩,bw1.setCell (by show w.heap.size≤w.heap.size+1+1;omega) _⟩
  ·rw [hp2] at CP2
   obtain ⟨h3,h7⟩:=M.prog_le hp
   obtain ⟨m3,m7⟩:=M.prog_le hp2
   have hn3:(ll++mm).length≤1048576:=by simp;omega
   have hn7:∀ t∈ll++mm,t.length≤1048576:=fun t ht=>by
    rcases List.mem_append.1 ht with ht | ht
    ·exact hls t ht
    ·exact hms t ht
   have HQ:∀ q,M.prog (ll++mm)=q→(M.turnBeside ll mm).isSome=q∧(M.turnBeside ll mm).getD []=if q then ll++mm else []:=by
    intro q hq
    cases q
    ·rw [M.turnBeside_bad3 hq];exact ⟨rfl,rfl⟩
    ·rw [M.turnBeside_yes hp hp2 hq];exact ⟨rfl,rfl⟩
   obtain ⟨ok,hok⟩:∃ q,M.prog (ll++mm)=q:=⟨_,rfl⟩
   obtain ⟨e1,e2⟩:=HQ ok hok
   have E1:Hid ((M.turnBeside ll mm).isSome=ok):=e1
   have E2:Hid ((M.turnBeside ll mm).getD []=if ok then ll++mm else []):=e2
   clear HQ e1 e2 hp hp2
   refine CP.mono ?_
   rintro e W1 ⟨rfl,b1⟩
   have hZ1:=hZ.bl' b1
   have z0:=hZ1.c
   have CP3:=CP2 W1 b1
   clear CP CP2
   go_wp2_with (first | (go_at_call 32;refine CP3.mono ?_;rintro e W2 ⟨rfl,bb2⟩))
   have b12:=b1.trans (bb2.mono b1.size)
   have bw1:=b2'.trans (b12.mono b2'.size)
   have hXx:=hX.bl' b12
   have hZx:=hZ.bl' b12
   have hYx:=hY.bl' b12
   have bA:=below1 W2 (.cells #[.slice none 0 0] 25)
   have hYA:=hYx.bl' bA
   have hZA:=Slot1.new W2 (.slice none 0 0) 25
   have lX:=hXx.lt
   have lZ:=hZx.lt
   have lY:=hYx.lt
   have hX1c:=hXx.c
   have hZ1c:=hZx.c
   have hD:=h1.below b12 (Nat.le_refl _)
   have hE:=k1.below b12 (Nat.le_refl _)
   generalize W2.alloc (.cells #[.slice none 0 0] 25)=WA at *
   clear CP3 z0 hX hY hZ h1 k1 b2' b1 bb2 b12 hZ1 hXx hZx hYx
   go_loopw [7] (fun s7 wr=>∃ (n:Nat) (v:Value) (vs:List Value),s7=.int .i64 n∧n≤ll.length∧Rdg wr (W2.heap.size+1) v (ll.take n) vs∧Slot1 wr W2.heap.size v∧Slot1 wr (w.heap.size+1+1) (.slice none 0 0)∧Below W2.heap.size W2 wr) (fun s7 _=>ll.length - (intOf s7).toNat)
   case atStart=>exact ⟨0,.slice none 0 0,[],rfl,Nat.zero_le _,by simpa using Rdg.nil _ _,hZA,hYA,bA⟩
   case round =>
    obtain ⟨n,v,vs,rfl,hn,hR,hP,hY,hbel⟩:=hrel
    clear hZA hYA bA
    by_cases hlt:n < ll.length
    ·obtain ⟨rfl⟩:=h.addr (by omega)
     obtain ⟨a',b',o',c',hc,hd0⟩:=hD.row n hlt
     have HW:Hid (ll.take (n+1)=ll.take n++[ll[n]]):=by show _=_;rw [List.take_succ_eq_append_getElem hlt]
     have hmm:(ll.take n).length≤1048576:=by simp;omega
     have ht:=hls _ (List.getElem_mem hlt)
     generalize ll[n]=t at *
     generalize ll.take n=cur at *
     have i1:(n:Int) < ll.length:=by omega
     obtain ⟨av,gv,cv,rfl,_⟩:=hR.b.ss
     have x0:=hP.c
     have lP:=hP.lt
     have CX:∀ w',Below W2.heap.size W2 w'→w'.cell? ⟨w.heap.size,0,none⟩=some (.slice (some ⟨b,o,none⟩) ll.length c):=fun w' hw=>(hw.cell (p:=⟨w.heap.size,0,none⟩) lX).trans hX1c
     have CT:∀ w',Below W2.heap.size W2 w'→w'.cell? ⟨b,o+n,none⟩=some (.slice a' t.length c'):=fun w' hw=>(hw.cell (p:=⟨b,o+n,none⟩) (World.block_lt_of_cell? _ _ hc)).trans hc
     have xx0:=CX wr hbel
     have bE:Below wr.heap.size wr (wr.drew.alloc (.cells #[] 56)):=(Below.refl wr.heap.size wr).drew.alloc (Nat.le_refl _) _
     have SA:Below W2.heap.size W2 (wr.drew.alloc (.cells #[] 56)):=hbel.trans (bE.mono hbel.size)
     have SXA:=(hP.bl' bE).c
     have OA:(wr.drew.alloc (.cells #[] 56)).ownsRow wr.heap.size 56 3 (.slice (some ⟨wr.heap.size,0,none⟩) 0 0) 0 []:=own_emp (heap_alloc_new wr.drew _) (Nat.le_refl _)
     have DA:DoS (wr.drew.alloc (.cells #[] 56)) a' b' o' t:=hd0.below SA (Nat.le_refl _)
     have F4:Hid (∀ (w4:World) (v4:Value),w4.ownsRow wr.heap.size 56 3 v4 t.length (flat t)→(wr.drew.alloc (.cells #[] 56)).grownBy w4 (some wr.heap.size)→∃ a4 c4,v4=.slice a4 t.length c4∧Below wr.heap.size wr w4∧Slot1 w4 W2.heap.size (.slice av cur.length cv)∧Rdg w4 (W2.heap.size+1) (.slice av cur.length cv) cur vs):=by
      intro w4 v4 ho hg
      obtain ⟨a4,c4,e⟩:=own_slx ho
      have b4:Below wr.heap.size wr w4:=below_grown bE hg (fun j hj=>by have:wr.heap.size=j:=Option.some.inj hj;omega) bE.size
      exact ⟨a4,c4,e,b4,hP.bl' b4,hR.below b4⟩
     have F5:Hid (∀ (w4:World) (a4:Option Addr) (c4:Nat),Below wr.heap.size wr w4→w4.ownsRow wr.heap.size 56 3 (.slice a4 t.length c4) t.length (flat t)→∀ (g5 cap5:Nat) (w5:World),w5.ownsRow (W2.heap.size+1) 53 1 (.slice (some ⟨g5,0,none⟩) (cur.length+1) cap5) (cur.length+1) (vs++[.slice a4 t.length c4])→(w4.alloc (.cells #[.slice a4 t.length c4] 53)).grownBy w5 (Value.slice av cur.length cv).ownBlock→Below W2.heap.size W2 w5∧Slot1 w5 W2.heap.size (.slice av cur.length cv)∧Slot1 w5 (w.heap.size+1+1) (.slice none 0 0)∧Rdg w5 (W2.heap.size+1) (.slice (some ⟨g5,0,none⟩) (cur.length+1) cap5) (cur++[t]) (vs++[.slice a4 t.length c4])):=by
      intro w4 a4 c4 b4 hx4 g5 cap5 w5 ho hg
      have hal:=below1 w4 (.cells #[.slice a4 t.length c4] 53)
      have hge:=own_ge hR.b.outer
      have b4a:=b4.trans (hal.mono b4.size)
      have bwa:=hbel.trans (b4a.mono hbel.size)
      refine ⟨below_grown bwa hg (fun j hj=>by have:=hge j hj;omega) bwa.size,(hP.bl' b4a).apart hg (fun e=>by have:=hge _ e;omega),(hY.bl' b4a).apart hg (fun e=>by have:=hge _ e;omega),((hR.below b4).below hal).snocT (ownsRow_mono (ownsRow_below hx4 hal) (by omega)) (fun i hi j hj e=>?_) ho hg⟩
      have h1:=((hR.b.inner i (by have:=hR.b.len;omega) hi).lt j hj).2
      have h2:=own_ge hx4 j e
      omega
     go_wp2_with fail
     clear xx0
     refine wp_region_held_drew (S:=fun w'=>Below W2.heap.size W2 w') (by kernel_rfl) hbel.drew (fun hH=>?_)
     refine takeD 0 (some 26) (.pointer (some ⟨W2.heap.size,0,none⟩)) hH rfl rfl (by kernel_rfl) (by kernel_rfl) (by kernel_rfl) (fun _ _ _ h=>h) (Or.inl ⟨by rfl,by intro w' hSw;go_simp⟩) ?_
     simp only [Act.put,List.setIfInBounds_toArray,List.set_cons_zero,List.set_cons_succ]
     refine takeD 3 (some 29) (.pointer (some ⟨w.heap.size,0,none⟩)) hH rfl rfl (by kernel_rfl) (by kernel_rfl) (by kernel_rfl) (fun _ _ _ h=>h) (Or.inl ⟨by rfl,by intro w' hSw;go_simp⟩) ?_
     simp only [Act.put,List.setIfInBounds_toArray,List.set_cons_zero,List.set_cons_succ]
     refine takeD 4 (some 30) (.slice (some ⟨b,o,none⟩) ll.length c) hH rfl rfl (by kernel_rfl) (by kernel_rfl) (by kernel_rfl) (fun _ _ _ h=>h) (Or.inl ⟨by rfl,by intro w' hSw;have hc:=CX w' hSw;go_simp⟩) ?_
     simp only [Act.put,List.setIfInBounds_toArray,List.set_cons_zero,List.set_cons_succ]
     refine takeD 5 (some 31) (.int .i64 n) hH rfl rfl (by kernel_rfl) (by kernel_rfl) (by kernel_rfl) (fun _ _ _ h=>h) (Or.inl ⟨by rfl,by intro w' hSw;go_simp⟩) ?_
     simp only [Act.put,List.setIfInBounds_toArray,List.set_cons_zero,List.set_cons_succ]
     refine takeD 6 (some 32) (.pointer (some ⟨b,o+n,none⟩)) hH rfl rfl (by kernel_rfl) (by kernel_rfl) (by kernel_rfl) (fun _ _ _ h=>h) (Or.inl ⟨by rfl,by intro w' hSw;go_simp⟩) ?_
     simp only [Act.put,List.setIfInBounds_toArray,List.set_cons_zero,List.set_cons_succ]
     refine takeD 7 (some 33) (.slice a' t.length c') hH rfl rfl (by kernel_rfl) (by kernel_rfl) (by kernel_rfl) (fun _ _ _ h=>h) (Or.inl ⟨by rfl,by intro w' hSw;have hc:=CT w' hSw;go_simp⟩) ?_
     simp only [Act.put,List.setIfInBounds_toArray,List.set_cons_zero,List.set_cons_succ]
     refine wpAnyH_ready (rs:=[1,2]) (by kernel_rfl) (by simp) ?_
     refine AllReadyH.cons rfl (fun K' hK=>?_) (AllReadyH.cons rfl (fun K' hK=>?_) AllReadyH.nil)
     ·have xx:=x0
      rw [if_pos (by rfl)]
      go_simp
      refine hK.out _ _ hH (fun _=>?_)
      clear hK K' xx
      refine wpAnyH_ready (rs:=[2]) (by kernel_rfl) (by simp) ?_
      refine AllReadyH.cons rfl (fun K' hK=>?_) AllReadyH.nil
      rw [if_pos (by rfl)]
      go_simp
      refine hK.out _ _ SA (fun _=>?_)
      clear hK K'
      refine wpAnyH_ready (rs:=[8]) (by kernel_rfl) (by simp) ?_
      refine AllReadyH.cons rfl (fun K' hK=>?_) AllReadyH.nil
      refine step_append_does (by rfl) (.tmp 28) (.tmp 33) 53 (by rfl) (some 34) rfl wr.heap.size 56 j0 Tryz.underlying53 hj hy0 hy1 hy2 wr.heap.size (by rfl) OA (by simp) a' b' o' c' t (by rfl) DA ht ?_
      intro v4 w4 ho4 hg4 hat4
      obtain ⟨a4,c4,rfl,b4,hS4,hR4⟩:=F4.out w4 v4 ho4 hg4
      simp only [Act.put,List.setIfInBounds_toArray,List.set_cons_zero,List.set_cons_succ]
      refine hK.out _ _ (hbel.trans (b4.mono hbel.size)) (fun hH4=>?_)
      clear hK K'
      have hS4a:=hS4.bl' (below1 w4 (.cells #[.slice a4 t.length c4] 53))
      have S4a:Below W2.heap.size W2 (w4.alloc (.cells #[.slice a4 t.length c4] 53)):=hH4.alloc hH4.size _
      refine wpAnyH_ready (rs:=[9]) (by kernel_rfl) (by simp) ?_
      refine AllReadyH.cons rfl (fun K' hK=>?_) AllReadyH.nil
      rw [if_pos (by rfl)]
      go_simp
      refine hK.out _ _ S4a (fun _=>?_)
      clear hK K'
      refine wpAnyH_ready (rs:=[10]) (by kernel_rfl) (by simp) ?_
      refine AllReadyH.cons rfl (fun K' hK=>?_) AllReadyH.nil
      refine step_append_lies _ (by rfl) (.tmp 27) (.tmp 35) 23 (by rfl) (W2.heap.size+1) 53 i0 _ 1 24 Tryz.underlying23 hi hz0 hz1 hz2 rfl (by decide) (.slice av cur.length cv) cur.length vs (by rfl) ((hR4.b.outer).alloc _) ⟨w4.heap.size,0,none⟩ 1 1 [.slice a4 t.length c4] (by rfl) (by rfl) (World.news_of_block (cs:=#[.slice a4 t.length c4]) (t:=53) (fr:=(0,0)) (heap_alloc_new w4 _)) (by simp [Value.oneCell']) (by omega) (by unfold maxLen;omega) (by omega) (by have:=b4.size;simp;omega) (w4.heap.size+1) (by simp) ?_
      intro g5 cap5 w5 hown5 hg5 hat5 hlt5
      obtain ⟨b5,hS5,hQ5,hR5⟩:=F5.out w4 a4 c4 b4 ho4 g5 cap5 w5 hown5 hg5
      simp only [Act.put,List.setIfInBounds_toArray,List.set_cons_zero,List.set_cons_succ]
      refine hK.out _ _ b5 (fun hH5=>?_)
      clear hK K'
      refine takeD 11 (some 37) (.pointer (some ⟨W2.heap.size,0,none⟩)) hH5 rfl rfl (by kernel_rfl) (by kernel_rfl) (by kernel_rfl) (fun _ _ _ h=>h) (Or.inl ⟨by rfl,by intro w' hSw;go_simp⟩) ?_
      simp only [Act.put,List.setIfInBounds_toArray,List.set_cons_zero,List.set_cons_succ]
      refine wpAnyH_ready (rs:=[12]) (by kernel_rfl) (by simp) ?_
      refine AllReadyH.cons rfl (fun K' hK=>?_) AllReadyH.nil
      have xc:=hS5.c
      have xz:=hS5.fz
      rw [if_pos (by rfl)]
      go_simp
      refine hK.out _ _ (b5.setCell (Nat.le_refl _) _) (fun _=>?_)
      clear hK K'
      refine wpAnyH_done (by kernel_rfl) ?_ _
      clear xc xz
      go_wp2_with fail
      exact ⟨⟨n+1,_,_,by go_num,by omega,by rw [HW.out];exact hR5.far (by omega) _,hS5.set _,hQ5.far (by omega) _,b5.setCell (Nat.le_refl _) _⟩,by simp [intOf];omega⟩
     ·rw [if_pos (by rfl)]
      go_simp
      refine hK.out _ _ SA (fun _=>?_)
      clear hK K'
      refine wpAnyH_ready (rs:=[1,8]) (by kernel_rfl) (by simp) ?_
      refine AllReadyH.cons rfl (fun K' hK=>?_) (AllReadyH.cons rfl (fun K' hK=>?_) AllReadyH.nil)
      ·have xx:=SXA
       rw [if_pos (by rfl)]
       go_simp
       refine hK.out _ _ SA (fun _=>?_)
       clear hK K' xx
       refine wpAnyH_ready (rs:=[8]) (by kernel_rfl) (by simp) ?_
       refine AllReadyH.cons rfl (fun K' hK=>?_) AllReadyH.nil
       refine step_append_does (by rfl) (.tmp 28) (.tmp 33) 53 (by rfl) (some 34) rfl wr.heap.size 56 j0 Tryz.underlying53 hj hy0 hy1 hy2 wr.heap.size (by rfl) OA (by simp) a' b' o' c' t (by rfl) DA ht ?_
       intro v4 w4 ho4 hg4 hat4
       obtain ⟨a4,c4,rfl,b4,hS4,hR4⟩:=F4.out w4 v4 ho4 hg4
       simp only [Act.put,List.setIfInBounds_toArray,List.set_cons_zero,List.set_cons_succ]
       refine hK.out _ _ (hbel.trans (b4.mono hbel.size)) (fun hH4=>?_)
       clear hK K'
       have hS4a:=hS4.bl' (below1 w4 (.cells #[.slice a4 t.length c4] 53))
       have S4a:Below W2.heap.size W2 (w4.alloc (.cells #[.slice a4 t.length c4] 53)):=hH4.alloc hH4.size _
       refine wpAnyH_ready (rs:=[9]) (by kernel_rfl) (by simp) ?_
       refine AllReadyH.cons rfl (fun K' hK=>?_) AllReadyH.nil
       rw [if_pos (by rfl)]
       go_simp
       refine hK.out _ _ S4a (fun _=>?_)
       clear hK K'
       refine wpAnyH_ready (rs:=[10]) (by kernel_rfl) (by simp) ?_
       refine AllReadyH.cons rfl (fun K' hK=>?_) AllReadyH.nil
       refine step_append_lies _ (by rfl) (.tmp 27) (.tmp 35) 23 (by rfl) (W2.heap.size+1) 53 i0 _ 1 24 Tryz.underlying23 hi hz0 hz1 hz2 rfl (by decide) (.slice av cur.length cv) cur.length vs (by rfl) ((hR4.b.outer).alloc _) ⟨w4.heap.size,0,none⟩ 1 1 [.slice a4 t.length c4] (by rfl) (by rfl) (World.news_of_block (cs:=#[.slice a4 t.length c4]) (t:=53) (fr:=(0,0)) (heap_alloc_new w4 _)) (by simp [Value.oneCell']) (by omega) (by unfold maxLen;omega) (by omega) (by have:=b4.size;simp;omega) (w4.heap.size+1) (by simp) ?_
       intro g5 cap5 w5 hown5 hg5 hat5 hlt5
       obtain ⟨b5,hS5,hQ5,hR5⟩:=F5.out w4 a4 c4 b4 ho4 g5 cap5 w5 hown5 hg5
       simp only [Act.put,List.setIfInBounds_toArray,List.set_cons_zero,List.set_cons_succ]
       refine hK.out _ _ b5 (fun hH5=>?_)
       clear hK K'
       refine takeD 11 (some 37) (.pointer (some ⟨W2.heap.size,0,none⟩)) hH5 rfl rfl (by kernel_rfl) (by kernel_rfl) (by kernel_rfl) (fun _ _ _ h=>h) (Or.inl ⟨by rfl,by intro w' hSw;go_simp⟩) ?_
       simp only [Act.put,List.setIfInBounds_toArray,List.set_cons_zero,List.set_cons_succ]
       refine wpAnyH_ready (rs:=[12]) (by kernel_rfl) (by simp) ?_
       refine AllReadyH.cons rfl (fun K' hK=>?_) AllReadyH.nil
       have xc:=hS5.c
       have xz:=hS5.fz
       rw [if_pos (by rfl)]
       go_simp
       refine hK.out _ _ (b5.setCell (Nat.le_refl _) _) (fun _=>?_)
       clear hK K'
       refine wpAnyH_done (by kernel_rfl) ?_ _
       clear xc xz
       go_wp2_with fail
       exact ⟨⟨n+1,_,_,by go_num,by omega,by rw [HW.out];exact hR5.far (by omega) _,hS5.set _,hQ5.far (by omega) _,b5.setCell (Nat.le_refl _) _⟩,by simp [intOf];omega⟩
      ·refine step_append_does (by rfl) (.tmp 28) (.tmp 33) 53 (by rfl) (some 34) rfl wr.heap.size 56 j0 Tryz.underlying53 hj hy0 hy1 hy2 wr.heap.size (by rfl) OA (by simp) a' b' o' c' t (by rfl) DA ht ?_
       intro v4 w4 ho4 hg4 hat4
       obtain ⟨a4,c4,rfl,b4,hS4,hR4⟩:=F4.out w4 v4 ho4 hg4
       simp only [Act.put,List.setIfInBounds_toArray,List.set_cons_zero,List.set_cons_succ]
       refine hK.out _ _ (hbel.trans (b4.mono hbel.size)) (fun hH4=>?_)
       clear hK K'
       have hS4a:=hS4.bl' (below1 w4 (.cells #[.slice a4 t.length c4] 53))
       have S4a:Below W2.heap.size W2 (w4.alloc (.cells #[.slice a4 t.length c4] 53)):=hH4.alloc hH4.size _
       refine wpAnyH_ready (rs:=[1,9]) (by kernel_rfl) (by simp) ?_
       refine AllReadyH.cons rfl (fun K' hK=>?_) (AllReadyH.cons rfl (fun K' hK=>?_) AllReadyH.nil)
       ·have xx:=hS4.c
        rw [if_pos (by rfl)]
        go_simp
        refine hK.out _ _ hH4 (fun _=>?_)
        clear hK K' xx
        refine wpAnyH_ready (rs:=[9]) (by kernel_rfl) (by simp) ?_
        refine AllReadyH.cons rfl (fun K' hK=>?_) AllReadyH.nil
        rw [if_pos (by rfl)]
        go_simp
        refine hK.out _ _ S4a (fun _=>?_)
        clear hK K'
        refine wpAnyH_ready (rs:=[10]) (by kernel_rfl) (by simp) ?_
        refine AllReadyH.cons rfl (fun K' hK=>?_) AllReadyH.nil
        refine step_append_lies _ (by rfl) (.tmp 27) (.tmp 35) 23 (by rfl) (W2.heap.size+1) 53 i0 _ 1 24 Tryz.underlying23 hi hz0 hz1 hz2 rfl (by decide) (.slice av cur.length cv) cur.length vs (by rfl) ((hR4.b.outer).alloc _) ⟨w4.heap.size,0,none⟩ 1 1 [.slice a4 t.length c4] (by rfl) (by rfl) (World.news_of_block (cs:=#[.slice a4 t.length c4]) (t:=53) (fr:=(0,0)) (heap_alloc_new w4 _)) (by simp [Value.oneCell']) (by omega) (by unfold maxLen;omega) (by omega) (by have:=b4.size;simp;omega) (w4.heap.size+1) (by simp) ?_
        intro g5 cap5 w5 hown5 hg5 hat5 hlt5
        obtain ⟨b5,hS5,hQ5,hR5⟩:=F5.out w4 a4 c4 b4 ho4 g5 cap5 w5 hown5 hg5
        simp only [Act.put,List.setIfInBounds_toArray,List.set_cons_zero,List.set_cons_succ]
        refine hK.out _ _ b5 (fun hH5=>?_)
        clear hK K'
        refine takeD 11 (some 37) (.pointer (some ⟨W2.heap.size,0,none⟩)) hH5 rfl rfl (by kernel_rfl) (by kernel_rfl) (by kernel_rfl) (fun _ _ _ h=>h) (Or.inl ⟨by rfl,by intro w' hSw;go_simp⟩) ?_
        simp only [Act.put,List.setIfInBounds_toArray,List.set_cons_zero,List.set_cons_succ]
        refine wpAnyH_ready (rs:=[12]) (by kernel_rfl) (by simp) ?_
        refine AllReadyH.cons rfl (fun K' hK=>?_) AllReadyH.nil
        have xc:=hS5.c
        have xz:=hS5.fz
        rw [if_pos (by rfl)]
        go_simp
        refine hK.out _ _ (b5.setCell (Nat.le_refl _) _) (fun _=>?_)
        clear hK K'
        refine wpAnyH_done (by kernel_rfl) ?_ _
        clear xc xz
        go_wp2_with fail
        exact ⟨⟨n+1,_,_,by go_num,by omega,by rw [HW.out];exact hR5.far (by omega) _,hS5.set _,hQ5.far (by omega) _,b5.setCell (Nat.le_refl _) _⟩,by simp [intOf];omega⟩
       ·rw [if_pos (by rfl)]
        go_simp
        refine hK.out _ _ S4a (fun _=>?_)
        clear hK K'
        refine wpAnyH_ready (rs:=[1]) (by kernel_rfl) (by simp) ?_
        refine AllReadyH.cons rfl (fun K' hK=>?_) AllReadyH.nil
        have xx:=hS4a.c
        rw [if_pos (by rfl)]
        go_simp
        refine hK.out _ _ S4a (fun _=>?_)
        clear hK K' xx
        refine wpAnyH_ready (rs:=[10]) (by kernel_rfl) (by simp) ?_
        refine AllReadyH.cons rfl (fun K' hK=>?_) AllReadyH.nil
        refine step_append_lies _ (by rfl) (.tmp 27) (.tmp 35) 23 (by rfl) (W2.heap.size+1) 53 i0 _ 1 24 Tryz.underlying23 hi hz0 hz1 hz2 rfl (by decide) (.slice av cur.length cv) cur.length vs (by rfl) ((hR4.b.outer).alloc _) ⟨w4.heap.size,0,none⟩ 1 1 [.slice a4 t.length c4] (by rfl) (by rfl) (World.news_of_block (cs:=#[.slice a4 t.length c4]) (t:=53) (fr:=(0,0)) (heap_alloc_new w4 _)) (by simp [Value.oneCell']) (by omega) (by unfold maxLen;omega) (by omega) (by have:=b4.size;simp;omega) (w4.heap.size+1) (by simp) ?_
        intro g5 cap5 w5 hown5 hg5 hat5 hlt5
        obtain ⟨b5,hS5,hQ5,hR5⟩:=F5.out w4 a4 c4 b4 ho4 g5 cap5 w5 hown5 hg5
        simp only [Act.put,List.setIfInBounds_toArray,List.set_cons_zero,List.set_cons_succ]
        refine hK.out _ _ b5 (fun hH5=>?_)
        clear hK K'
        refine takeD 11 (some 37) (.pointer (some ⟨W2.heap.size,0,none⟩)) hH5 rfl rfl (by kernel_rfl) (by kernel_rfl) (by kernel_rfl) (fun _ _ _ h=>h) (Or.inl ⟨by rfl,by intro w' hSw;go_simp⟩) ?_
        simp only [Act.put,List.setIfInBounds_toArray,List.set_cons_zero,List.set_cons_succ]
        refine wpAnyH_ready (rs:=[12]) (by kernel_rfl) (by simp) ?_
        refine AllReadyH.cons rfl (fun K' hK=>?_) AllReadyH.nil
        have xc:=hS5.c
        have xz:=hS5.fz
        rw [if_pos (by rfl)]
        go_simp
        refine hK.out _ _ (b5.setCell (Nat.le_refl _) _) (fun _=>?_)
        clear hK K'
        refine wpAnyH_done (by kernel_rfl) ?_ _
        clear xc xz
        go_wp2_with fail
        exact ⟨⟨n+1,_,_,by go_num,by omega,by rw [HW.out];exact hR5.far (by omega) _,hS5.set _,hQ5.far (by omega) _,b5.setCell (Nat.le_refl _) _⟩,by simp [intOf];omega⟩
    ·have htk:ll.take n=ll:=List.take_of_length_le (by omega)
     rw [htk] at hR
     have hkn':¬ (n:Int) < ll.length:=by omega
     have xx0:=(hbel.cell (p:=⟨w.heap.size,0,none⟩) lX).trans hX1c
     go_wp2_with fail
     go_loopw [8] (fun s8 wr=>∃ (n:Nat) (v:Value) (vs:List Value),s8=.int .i64 n∧n≤mm.length∧Rdg wr (W2.heap.size+1) v (ll++mm.take n) vs∧Slot1 wr W2.heap.size v∧Slot1 wr (w.heap.size+1+1) (.slice none 0 0)∧Below W2.heap.size W2 wr) (fun s8 _=>mm.length - (intOf s8).toNat)
     case atStart=>exact ⟨0,v,vs,rfl,Nat.zero_le _,by simpa using hR,hP,hY,hbel⟩
     case round =>
      clear hR hP hY hbel xx0
      obtain ⟨n,v,vs,rfl,hn,hR,hP,hY,hbel⟩:=hrel
      by_cases hlt:n < mm.length
      ·obtain ⟨rfl⟩:=h2.addr (by omega)
       obtain ⟨a',b',o',c',hc,hd0⟩:=hE.row n hlt
       have HW:Hid (ll++mm.take (n+1)=ll++mm.take n++[mm[n]]):=by show _=_;rw [List.take_succ_eq_append_getElem hlt];simp
       have hmm:(ll++mm.take n).length≤1048576:=by simp;omega
       have ht:=hms _ (List.getElem_mem hlt)
       generalize mm[n]=t at *
       generalize ll++mm.take n=cur at *
       have i1:(n:Int) < mm.length:=by omega
       obtain ⟨av,gv,cv,rfl,_⟩:=hR.b.ss
       have x0:=hP.c
       have lP:=hP.lt
       have CX:∀ w',Below W2.heap.size W2 w'→w'.cell? ⟨w.heap.size+1,0,none⟩=some (.slice (some ⟨b2,o2,none⟩) mm.length c2):=fun w' hw=>(hw.cell (p:=⟨w.heap.size+1,0,none⟩) lZ).trans hZ1c
       have CT:∀ w',Below W2.heap.size W2 w'→w'.cell? ⟨b2,o2+n,none⟩=some (.slice a' t.length c'):=fun w' hw=>(hw.cell (p:=⟨b2,o2+n,none⟩) (World.block_lt_of_cell? _ _ hc)).trans hc
       have xx0:=CX wr hbel
       have bE:Below wr.heap.size wr (wr.drew.alloc (.cells #[] 56)):=(Below.refl wr.heap.size wr).drew.alloc (Nat.le_refl _) _
       have SA:Below W2.heap.size W2 (wr.drew.alloc (.cells #[] 56)):=hbel.trans (bE.mono hbel.size)
       have SXA:=(hP.bl' bE).c
       have OA:(wr.drew.alloc (.cells #[] 56)).ownsRow wr.heap.size 56 3 (.slice (some ⟨wr.heap.size,0,none⟩) 0 0) 0 []:=own_emp (heap_alloc_new wr.drew _) (Nat.le_refl _)
       have DA:DoS (wr.drew.alloc (.cells #[] 56)) a' b' o' t:=hd0.below SA (Nat.le_refl _)
       have F4:Hid (∀ (w4:World) (v4:Value),w4.ownsRow wr.heap.size 56 3 v4 t.length (flat t)→(wr.drew.alloc (.cells #[] 56)).grownBy w4 (some wr.heap.size)→∃ a4 c4,v4=.slice a4 t.length c4∧Below wr.heap.size wr w4∧Slot1 w4 W2.heap.size (.slice av cur.length cv)∧Rdg w4 (W2.heap.size+1) (.slice av cur.length cv) cur vs):=by
        intro w4 v4 ho hg
        obtain ⟨a4,c4,e⟩:=own_slx ho
        have b4:Below wr.heap.size wr w4:=below_grown bE hg (fun j hj=>by have:wr.heap.size=j:=Option.some.inj hj;omega) bE.size
        exact ⟨a4,c4,e,b4,hP.bl' b4,hR.below b4⟩
       have F5:Hid (∀ (w4:World) (a4:Option Addr) (c4:Nat),Below wr.heap.size wr w4→w4.ownsRow wr.heap.size 56 3 (.slice a4 t.length c4) t.length (flat t)→∀ (g5 cap5:Nat) (w5:World),w5.ownsRow (W2.heap.size+1) 53 1 (.slice (some ⟨g5,0,none⟩) (cur.length+1) cap5) (cur.length+1) (vs++[.slice a4 t.length c4])→(w4.alloc (.cells #[.slice a4 t.length c4] 53)).grownBy w5 (Value.slice av cur.length cv).ownBlock→Below W2.heap.size W2 w5∧Slot1 w5 W2.heap.size (.slice av cur.length cv)∧Slot1 w5 (w.heap.size+1+1) (.slice none 0 0)∧Rdg w5 (W2.heap.size+1) (.slice (some ⟨g5,0,none⟩) (cur.length+1) cap5) (cur++[t]) (vs++[.slice a4 t.length c4])):=by
        intro w4 a4 c4 b4 hx4 g5 cap5 w5 ho hg
        have hal:=below1 w4 (.cells #[.slice a4 t.length c4] 53)
        have hge:=own_ge hR.b.outer
        have b4a:=b4.trans (hal.mono b4.size)
        have bwa:=hbel.trans (b4a.mono hbel.size)
        refine ⟨below_grown bwa hg (fun j hj=>by have:=hge j hj;omega) bwa.size,(hP.bl' b4a).apart hg (fun e=>by have:=hge _ e;omega),(hY.bl' b4a).apart hg (fun e=>by have:=hge _ e;omega),((hR.below b4).below hal).snocT (ownsRow_mono (ownsRow_below hx4 hal) (by omega)) (fun i hi j hj e=>?_) ho hg⟩
        have h1:=((hR.b.inner i (by have:=hR.b.len;omega) hi).lt j hj).2
        have h2:=own_ge hx4 j e
        omega
       go_wp2_with fail
       clear xx0
       refine wp_region_held_drew (S:=fun w'=>Below W2.heap.size W2 w') (by kernel_rfl) hbel.drew (fun hH=>?_)
       refine takeD 0 (some 45) (.pointer (some ⟨W2.heap.size,0,none⟩)) hH rfl rfl (by kernel_rfl) (by kernel_rfl) (by kernel_rfl) (fun _ _ _ h=>h) (Or.inl ⟨by rfl,by intro w' hSw;go_simp⟩) ?_
       simp only [Act.put,List.setIfInBounds_toArray,List.set_cons_zero,List.set_cons_succ]
       refine takeD 3 (some 48) (.pointer (some ⟨w.heap.size+1,0,none⟩)) hH rfl rfl (by kernel_rfl) (by kernel_rfl) (by kernel_rfl) (fun _ _ _ h=>h) (Or.inl ⟨by rfl,by intro w' hSw;go_simp⟩) ?_
       simp only [Act.put,List.setIfInBounds_toArray,List.set_cons_zero,List.set_cons_succ]
       refine takeD 4 (some 49) (.slice (some ⟨b2,o2,none⟩) mm.length c2) hH rfl rfl (by kernel_rfl) (by kernel_rfl) (by kernel_rfl) (fun _ _ _ h=>h) (Or.inl ⟨by rfl,by intro w' hSw;have hc:=CX w' hSw;go_simp⟩) ?_
       simp only [Act.put,List.setIfInBounds_toArray,List.set_cons_zero,List.set_cons_succ]
       refine takeD 5 (some 50) (.int .i64 n) hH rfl rfl (by kernel_rfl) (by kernel_rfl) (by kernel_rfl) (fun _ _ _ h=>h) (Or.inl ⟨by rfl,by intro w' hSw;go_simp⟩) ?_
       simp only [Act.put,List.setIfInBounds_toArray,List.set_cons_zero,List.set_cons_succ]
       refine takeD 6 (some 51) (.pointer (some ⟨b2,o2+n,none⟩)) hH rfl rfl (by kernel_rfl) (by kernel_rfl) (by kernel_rfl) (fun _ _ _ h=>h) (Or.inl ⟨by rfl,by intro w' hSw;go_simp⟩) ?_
       simp only [Act.put,List.setIfInBounds_toArray,List.set_cons_zero,List.set_cons_succ]
       refine takeD 7 (some 52) (.slice a' t.length c') hH rfl rfl (by kernel_rfl) (by kernel_rfl) (by kernel_rfl) (fun _ _ _ h=>h) (Or.inl ⟨by rfl,by intro w' hSw;have hc:=CT w' hSw;go_simp⟩) ?_
       simp only [Act.put,List.setIfInBounds_toArray,List.set_cons_zero,List.set_cons_succ]
       refine wpAnyH_ready (rs:=[1,2]) (by kernel_rfl) (by simp) ?_
       refine AllReadyH.cons rfl (fun K' hK=>?_) (AllReadyH.cons rfl (fun K' hK=>?_) AllReadyH.nil)
       ·have xx:=x0
        rw [if_pos (by rfl)]
        go_simp
        refine hK.out _ _ hH (fun _=>?_)
        clear hK K' xx
        refine wpAnyH_ready (rs:=[2]) (by kernel_rfl) (by simp) ?_
        refine AllReadyH.cons rfl (fun K' hK=>?_) AllReadyH.nil
        rw [if_pos (by rfl)]
        go_simp
        refine hK.out _ _ SA (fun _=>?_)
        clear hK K'
        refine wpAnyH_ready (rs:=[8]) (by kernel_rfl) (by simp) ?_
        refine AllReadyH.cons rfl (fun K' hK=>?_) AllReadyH.nil
        refine step_append_does (by rfl) (.tmp 47) (.tmp 52) 53 (by rfl) (some 53) rfl wr.heap.size 56 j0 Tryz.underlying53 hj hy0 hy1 hy2 wr.heap.size (by rfl) OA (by simp) a' b' o' c' t (by rfl) DA ht ?_
        intro v4 w4 ho4 hg4 hat4
        obtain ⟨a4,c4,rfl,b4,hS4,hR4⟩:=F4.out w4 v4 ho4 hg4
        simp only [Act.put,List.setIfInBounds_toArray,List.set_cons_zero,List.set_cons_succ]
        refine hK.out _ _ (hbel.trans (b4.mono hbel.size)) (fun hH4=>?_)
        clear hK K'
        have hS4a:=hS4.bl' (below1 w4 (.cells #[.slice a4 t.length c4] 53))
        have S4a:Below W2.heap.size W2 (w4.alloc (.cells #[.slice a4 t.length c4] 53)):=hH4.alloc hH4.size _
        refine wpAnyH_ready (rs:=[9]) (by kernel_rfl) (by simp) ?_
        refine AllReadyH.cons rfl (fun K' hK=>?_) AllReadyH.nil
        rw [if_pos (by rfl)]
        go_simp
        refine hK.out _ _ S4a (fun _=>?_)
        clear hK K'
        refine wpAnyH_ready (rs:=[10]) (by kernel_rfl) (by simp) ?_
        refine AllReadyH.cons rfl (fun K' hK=>?_) AllReadyH.nil
        refine step_append_lies _ (by rfl) (.tmp 46) (.tmp 54) 23 (by rfl) (W2.heap.size+1) 53 i0 _ 1 24 Tryz.underlying23 hi hz0 hz1 hz2 rfl (by decide) (.slice av cur.length cv) cur.length vs (by rfl) ((hR4.b.outer).alloc _) ⟨w4.heap.size,0,none⟩ 1 1 [.slice a4 t.length c4] (by rfl) (by rfl) (World.news_of_block (cs:=#[.slice a4 t.length c4]) (t:=53) (fr:=(0,0)) (heap_alloc_new w4 _)) (by simp [Value.oneCell']) (by omega) (by unfold maxLen;omega) (by omega) (by have:=b4.size;simp;omega) (w4.heap.size+1) (by simp) ?_
        intro g5 cap5 w5 hown5 hg5 hat5 hlt5
        obtain ⟨b5,hS5,hQ5,hR5⟩:=F5.out w4 a4 c4 b4 ho4 g5 cap5 w5 hown5 hg5
        simp only [Act.put,List.setIfInBounds_toArray,List.set_cons_zero,List.set_cons_succ]
        refine hK.out _ _ b5 (fun hH5=>?_)
        clear hK K'
        refine takeD 11 (some 56) (.pointer (some ⟨W2.heap.size,0,none⟩)) hH5 rfl rfl (by kernel_rfl) (by kernel_rfl) (by kernel_rfl) (fun _ _ _ h=>h) (Or.inl ⟨by rfl,by intro w' hSw;go_simp⟩) ?_
        simp only [Act.put,List.setIfInBounds_toArray,List.set_cons_zero,List.set_cons_succ]
        refine wpAnyH_ready (rs:=[12]) (by kernel_rfl) (by simp) ?_
        refine AllReadyH.cons rfl (fun K' hK=>?_) AllReadyH.nil
        have xc:=hS5.c
        have xz:=hS5.fz
        rw [if_pos (by rfl)]
        go_simp
        refine hK.out _ _ (b5.setCell (Nat.le_refl _) _) (fun _=>?_)
        clear hK K'
        refine wpAnyH_done (by kernel_rfl) ?_ _
        clear xc xz
        go_wp2_with fail
        exact ⟨⟨n+1,_,_,by go_num,by omega,by rw [HW.out];exact hR5.far (by omega) _,hS5.set _,hQ5.far (by omega) _,b5.setCell (Nat.le_refl _) _⟩,by simp [intOf];omega⟩
       ·rw [if_pos (by rfl)]
        go_simp
        refine hK.out _ _ SA (fun _=>?_)
        clear hK K'
        refine wpAnyH_ready (rs:=[1,8]) (by kernel_rfl) (by simp) ?_
        refine AllReadyH.cons rfl (fun K' hK=>?_) (AllReadyH.cons rfl (fun K' hK=>?_) AllReadyH.nil)
        ·have xx:=SXA
         rw [if_pos (by rfl)]
         go_simp
         refine hK.out _ _ SA (fun _=>?_)
         clear hK K' xx
         refine wpAnyH_ready (rs:=[8]) (by kernel_rfl) (by simp) ?_
         refine AllReadyH.cons rfl (fun K' hK=>?_) AllReadyH.nil
         refine step_append_does (by rfl) (.tmp 47) (.tmp 52) 53 (by rfl) (some 53) rfl wr.heap.size 56 j0 Tryz.underlying53 hj hy0 hy1 hy2 wr.heap.size (by rfl) OA (by simp) a' b' o' c' t (by rfl) DA ht ?_
         intro v4 w4 ho4 hg4 hat4
         obtain ⟨a4,c4,rfl,b4,hS4,hR4⟩:=F4.out w4 v4 ho4 hg4
         simp only [Act.put,List.setIfInBounds_toArray,List.set_cons_zero,List.set_cons_succ]
         refine hK.out _ _ (hbel.trans (b4.mono hbel.size)) (fun hH4=>?_)
         clear hK K'
         have hS4a:=hS4.bl' (below1 w4 (.cells #[.slice a4 t.length c4] 53))
         have S4a:Below W2.heap.size W2 (w4.alloc (.cells #[.slice a4 t.length c4] 53)):=hH4.alloc hH4.size _
         refine wpAnyH_ready (rs:=[9]) (by kernel_rfl) (by simp) ?_
         refine AllReadyH.cons rfl (fun K' hK=>?_) AllReadyH.nil
         rw [if_pos (by rfl)]
         go_simp
         refine hK.out _ _ S4a (fun _=>?_)
         clear hK K'
         refine wpAnyH_ready (rs:=[10]) (by kernel_rfl) (by simp) ?_
         refine AllReadyH.cons rfl (fun K' hK=>?_) AllReadyH.nil
         refine step_append_lies _ (by rfl) (.tmp 46) (.tmp 54) 23 (by rfl) (W2.heap.size+1) 53 i0 _ 1 24 Tryz.underlying23 hi hz0 hz1 hz2 rfl (by decide) (.slice av cur.length cv) cur.length vs (by rfl) ((hR4.b.outer).alloc _) ⟨w4.heap.size,0,none⟩ 1 1 [.slice a4 t.length c4] (by rfl) (by rfl) (World.news_of_block (cs:=#[.slice a4 t.length c4]) (t:=53) (fr:=(0,0)) (heap_alloc_new w4 _)) (by simp [Value.oneCell']) (by omega) (by unfold maxLen;omega) (by omega) (by have:=b4.size;simp;omega) (w4.heap.size+1) (by simp) ?_
         intro g5 cap5 w5 hown5 hg5 hat5 hlt5
         obtain ⟨b5,hS5,hQ5,hR5⟩:=F5.out w4 a4 c4 b4 ho4 g5 cap5 w5 hown5 hg5
         simp only [Act.put,List.setIfInBounds_toArray,List.set_cons_zero,List.set_cons_succ]
         refine hK.out _ _ b5 (fun hH5=>?_)
         clear hK K'
         refine takeD 11 (some 56) (.pointer (some ⟨W2.heap.size,0,none⟩)) hH5 rfl rfl (by kernel_rfl) (by kernel_rfl) (by kernel_rfl) (fun _ _ _ h=>h) (Or.inl ⟨by rfl,by intro w' hSw;go_simp⟩) ?_
         simp only [Act.put,List.setIfInBounds_toArray,List.set_cons_zero,List.set_cons_succ]
         refine wpAnyH_ready (rs:=[12]) (by kernel_rfl) (by simp) ?_
         refine AllReadyH.cons rfl (fun K' hK=>?_) AllReadyH.nil
         have xc:=hS5.c
         have xz:=hS5.fz
         rw [if_pos (by rfl)]
         go_simp
         refine hK.out _ _ (b5.setCell (Nat.le_refl _) _) (fun _=>?_)
         clear hK K'
         refine wpAnyH_done (by kernel_rfl) ?_ _
         clear xc xz
         go_wp2_with fail
         exact ⟨⟨n+1,_,_,by go_num,by omega,by rw [HW.out];exact hR5.far (by omega) _,hS5.set _,hQ5.far (by omega) _,b5.setCell (Nat.le_refl _) _⟩,by simp [intOf];omega⟩
        ·refine step_append_does (by rfl) (.tmp 47) (.tmp 52) 53 (by rfl) (some 53) rfl wr.heap.size 56 j0 Tryz.underlying53 hj hy0 hy1 hy2 wr.heap.size (by rfl) OA (by simp) a' b' o' c' t (by rfl) DA ht ?_
         intro v4 w4 ho4 hg4 hat4
         obtain ⟨a4,c4,rfl,b4,hS4,hR4⟩:=F4.out w4 v4 ho4 hg4
         simp only [Act.put,List.setIfInBounds_toArray,List.set_cons_zero,List.set_cons_succ]
         refine hK.out _ _ (hbel.trans (b4.mono hbel.size)) (fun hH4=>?_)
         clear hK K'
         have hS4a:=hS4.bl' (below1 w4 (.cells #[.slice a4 t.length c4] 53))
         have S4a:Below W2.heap.size W2 (w4.alloc (.cells #[.slice a4 t.length c4] 53)):=hH4.alloc hH4.size _
         refine wpAnyH_ready (rs:=[1,9]) (by kernel_rfl) (by simp) ?_
         refine AllReadyH.cons rfl (fun K' hK=>?_) (AllReadyH.cons rfl (fun K' hK=>?_) AllReadyH.nil)
         ·have xx:=hS4.c
          rw [if_pos (by rfl)]
          go_simp
          refine hK.out _ _ hH4 (fun _=>?_)
          clear hK K' xx
          refine wpAnyH_ready (rs:=[9]) (by kernel_rfl) (by simp) ?_
          refine AllReadyH.cons rfl (fun K' hK=>?_) AllReadyH.nil
          rw [if_pos (by rfl)]
          go_simp
          refine hK.out _ _ S4a (fun _=>?_)
          clear hK K'
          refine wpAnyH_ready (rs:=[10]) (by kernel_rfl) (by simp) ?_
          refine AllReadyH.cons rfl (fun K' hK=>?_) AllReadyH.nil
          refine step_append_lies _ (by rfl) (.tmp 46) (.tmp 54) 23 (by rfl) (W2.heap.size+1) 53 i0 _ 1 24 Tryz.underlying23 hi hz0 hz1 hz2 rfl (by decide) (.slice av cur.length cv) cur.length vs (by rfl) ((hR4.b.outer).alloc _) ⟨w4.heap.size,0,none⟩ 1 1 [.slice a4 t.length c4] (by rfl) (by rfl) (World.news_of_block (cs:=#[.slice a4 t.length c4]) (t:=53) (fr:=(0,0)) (heap_alloc_new w4 _)) (by simp [Value.oneCell']) (by omega) (by unfold maxLen;omega) (by omega) (by have:=b4.size;simp;omega) (w4.heap.size+1) (by simp) ?_
          intro g5 cap5 w5 hown5 hg5 hat5 hlt5
          obtain ⟨b5,hS5,hQ5,hR5⟩:=F5.out w4 a4 c4 b4 ho4 g5 cap5 w5 hown5 hg5
          simp only [Act.put,List.setIfInBounds_toArray,List.set_cons_zero,List.set_cons_succ]
          refine hK.out _ _ b5 (fun hH5=>?_)
          clear hK K'
          refine takeD 11 (some 56) (.pointer (some ⟨W2.heap.size,0,none⟩)) hH5 rfl rfl (by kernel_rfl) (by kernel_rfl) (by kernel_rfl) (fun _ _ _ h=>h) (Or.inl ⟨by rfl,by intro w' hSw;go_simp⟩) ?_
          simp only [Act.put,List.setIfInBounds_toArray,List.set_cons_zero,List.set_cons_succ]
          refine wpAnyH_ready (rs:=[12]) (by kernel_rfl) (by simp) ?_
          refine AllReadyH.cons rfl (fun K' hK=>?_) AllReadyH.nil
          have xc:=hS5.c
          have xz:=hS5.fz
          rw [if_pos (by rfl)]
          go_simp
          refine hK.out _ _ (b5.setCell (Nat.le_refl _) _) (fun _=>?_)
          clear hK K'
          refine wpAnyH_done (by kernel_rfl) ?_ _
          clear xc xz
          go_wp2_with fail
          exact ⟨⟨n+1,_,_,by go_num,by omega,by rw [HW.out];exact hR5.far (by omega) _,hS5.set _,hQ5.far (by omega) _,b5.setCell (Nat.le_refl _) _⟩,by simp [intOf];omega⟩
         ·rw [if_pos (by rfl)]
          go_simp
          refine hK.out _ _ S4a (fun _=>?_)
          clear hK K'
          refine wpAnyH_ready (rs:=[1]) (by kernel_rfl) (by simp) ?_
          refine AllReadyH.cons rfl (fun K' hK=>?_) AllReadyH.nil
          have xx:=hS4a.c
          rw [if_pos (by rfl)]
          go_simp
          refine hK.out _ _ S4a (fun _=>?_)
          clear hK K' xx
          refine wpAnyH_ready (rs:=[10]) (by kernel_rfl) (by simp) ?_
          refine AllReadyH.cons rfl (fun K' hK=>?_) AllReadyH.nil
          refine step_append_lies _ (by rfl) (.tmp 46) (.tmp 54) 23 (by rfl) (W2.heap.size+1) 53 i0 _ 1 24 Tryz.underlying23 hi hz0 hz1 hz2 rfl (by decide) (.slice av cur.length cv) cur.length vs (by rfl) ((hR4.b.outer).alloc _) ⟨w4.heap.size,0,none⟩ 1 1 [.slice a4 t.length c4] (by rfl) (by rfl) (World.news_of_block (cs:=#[.slice a4 t.length c4]) (t:=53) (fr:=(0,0)) (heap_alloc_new w4 _)) (by simp [Value.oneCell']) (by omega) (by unfold maxLen;omega) (by omega) (by have:=b4.size;simp;omega) (w4.heap.size+1) (by simp) ?_
          intro g5 cap5 w5 hown5 hg5 hat5 hlt5
          obtain ⟨b5,hS5,hQ5,hR5⟩:=F5.out w4 a4 c4 b4 ho4 g5 cap5 w5 hown5 hg5
          simp only [Act.put,List.setIfInBounds_toArray,List.set_cons_zero,List.set_cons_succ]
          refine hK.out _ _ b5 (fun hH5=>?_)
          clear hK K'
          refine takeD 11 (some 56) (.pointer (some ⟨W2.heap.size,0,none⟩)) hH5 rfl rfl (by kernel_rfl) (by kernel_rfl) (by kernel_rfl) (fun _ _ _ h=>h) (Or.inl ⟨by rfl,by intro w' hSw;go_simp⟩) ?_
          simp only [Act.put,List.setIfInBounds_toArray,List.set_cons_zero,List.set_cons_succ]
          refine wpAnyH_ready (rs:=[12]) (by kernel_rfl) (by simp) ?_
          refine AllReadyH.cons rfl (fun K' hK=>?_) AllReadyH.nil
          have xc:=hS5.c
          have xz:=hS5.fz
          rw [if_pos (by rfl)]
          go_simp
          refine hK.out _ _ (b5.setCell (Nat.le_refl _) _) (fun _=>?_)
          clear hK K'
          refine wpAnyH_done (by kernel_rfl) ?_ _
          clear xc xz
          go_wp2_with fail
          exact ⟨⟨n+1,_,_,by go_num,by omega,by rw [HW.out];exact hR5.far (by omega) _,hS5.set _,hQ5.far (by omega) _,b5.setCell (Nat.le_refl _) _⟩,by simp [intOf];omega⟩
      ·have htk:mm.take n=mm:=List.take_of_length_le (by omega)
       rw [htk] at hR
       have hkn':¬ (n:Int) < mm.length:=by omega
       have xx0:=(hbel.cell (p:=⟨w.heap.size+1,0,none⟩) lZ).trans hZ1c
       obtain ⟨av,gv,cv,rfl,hss⟩:=hR.b.ss
       have CQ:=sprog_any av gv 0 cv (ll++mm) wr hn3 hn7 hss
       rw [hok] at CQ
       generalize ll++mm=nn at *
       have p0:=hP.c
       have lP:=hP.lt
       have lQ:=hY.lt
       have hbw:=bw1.trans (hbel.mono bw1.size)
       have hsz:=bw1.size
       have hne:w.heap.size+1+1≠W2.heap.size:=by omega
       cases ok
       ·go_wp2_with (first | (go_at_call 32;refine CQ.mono ?_;rintro e W6 ⟨rfl,b6⟩;have hY6:=hY.bl' b6;have y0:=hY6.c;have yf:=hY6.fz;have ly:=hY6.lt))
        have bw6:=hbw.trans (b6.mono hbw.size)
        have q1:=(hY6.set (.slice none 0 0)).c
        exact bodyPost_ret (v:=.tuple #[.agg #[.slice none 0 0],.bool false]) (by simp [results,Tryz.results23,go_sem,q1]) rfl ⟨_,by rw [E1.out],⟨[],by rw [E2.out];exact Rdg.nil _ _⟩,bw6.setCell (by show w.heap.size≤w.heap.size+1+1;omega) _⟩
       ·go_wp2_with (first | (go_at_call 32;refine CQ.mono ?_;rintro e W6 ⟨rfl,b6⟩;have hY6:=hY.bl' b6;have hP6:=hP.bl' b6;have y0:=hY6.c;have yf:=hY6.fz;have ly:=hY6.lt;have p6:=hP6.c))
        have bw6:=hbw.trans (b6.mono hbw.size)
        have hR6:=hR.below b6
        have q1:=(hY6.set (.slice av nn.length cv)).c
        exact bodyPost_ret (v:=.tuple #[.agg #[.slice av nn.length cv],.bool true]) (by simp [results,Tryz.results23,go_sem,q1]) rfl ⟨_,by rw [E1.out],⟨vs,by rw [E2.out];exact (hR6.far (by omega) _).mono (by omega)⟩,bw6.setCell (by show w.heap.size≤w.heap.size+1+1;omega) _⟩
end Go.Proofs.YtihfibjckkmmbaaGreat
namespace Go.Proofs.YtihfibjckkmmbaaGreat
namespace M
def stp:List (List D)→Nat
 | []=>0
 | t::l=>t.length+stp l
theorem from_iff (l:List (List D)):∀ a u:Nat,progFrom a u l=true↔(∀ t∈l,thread t=true)∧a+stp l≤14∧u+tot uses l≤6:=by
 induction l with
 | nil=>intro a u;simp [progFrom,stp,tot]
 | cons t l ih =>
  intro a u
  by_cases hb:thread t=true
  ·simp only [progFrom,hb,if_true,ih,stp,tot,List.mem_cons,forall_eq_or_imp,true_and]
   constructor
   ·rintro ⟨h1,h2,h3⟩;exact ⟨h1,by omega,by omega⟩
   ·rintro ⟨h1,h2,h3⟩;exact ⟨h1,by omega,by omega⟩
  ·simp [progFrom,hb]
theorem prog_iff (l:List (List D)):prog l=true↔l.length≤3∧(∀ t∈l,thread t=true)∧stp l≤14∧tot uses l≤6:=by
 simp only [prog,Bool.and_eq_true,decide_eq_true_eq,from_iff,Nat.zero_add]
structure Kept (f:D→D) (P:D→Prop):Prop where
 ok:∀ d,P d→doOk d=true→doOk (f d)=true
 r:∀ d,reads (f d).k=reads d.k
 u:∀ d,uses (f d).k=uses d.k
 k3:∀ d,((f d).k==3)=(d.k==3)
 k7:∀ d,((f d).k==7)=(d.k==7)
 k8:∀ d,((f d).k==8)=(d.k==8)
 k9:∀ d,((f d).k==9)=(d.k==9)
theorem Kept.copies {f:D→D} {P:D→Prop} (h:Kept f P) (l:List D):∀ r,copies r (l.map f)=copies r l:=by
 induction l with
 | nil=>intro r;rfl
 | cons d l ih=>intro r;simp only [List.map_cons,M.copies,h.k3,h.r,ih]
theorem Kept.readers {f:D→D} {P:D→Prop} (h:Kept f P) (l:List D):∀ i,readers i (l.map f)=readers i l:=by
 induction l with
 | nil=>intro i;rfl
 | cons d l ih=>intro i;simp only [List.map_cons,M.readers,h.k7,h.k8,h.k9,ih]
theorem Kept.thread {f:D→D} {P:D→Prop} (h:Kept f P) {t:List D} (ht:thread t=true) (hP:∀ d∈t,P d):M.thread (t.map f)=true:=by
 simp only [M.thread,form,Bool.and_eq_true,decide_eq_true_eq,List.all_eq_true,List.length_map,h.copies,h.readers] at ht ⊢
 refine ⟨⟨⟨ht.1.1.1,fun d hd=>?_⟩,ht.1.2⟩,ht.2⟩
 obtain ⟨x,hx,rfl⟩:=List.mem_map.1 hd
 exact h.ok x (hP x hx) (ht.1.1.2 x hx)
theorem prog_dos {ll:List (List D)} (h:prog ll=true):∀ t∈ll,∀ d∈t,doOk d=true:=by
 intro t ht d hd
 have:=((prog_iff ll).1 h).2.1 t ht
 simp only [M.thread,form,Bool.and_eq_true,List.all_eq_true] at this
 exact this.1.1.2 d hd
end M
end Go.Proofs.YtihfibjckkmmbaaGreat
