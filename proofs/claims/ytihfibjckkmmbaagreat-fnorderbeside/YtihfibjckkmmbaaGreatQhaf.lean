/- spec.l71Thread: a drawn thread. And what goes with it: DrTh, DrPb, RdM, DoSN, RowMore, TnB0, TnBase, MathN, Cont, TnMath, LpPg, TnMm, TnT, Wide, TnGo, TnCp, TnCs, StepGo, ApRow, DrTbM, DrOp. -/
import Derived.BigQuiet
import Derived.Deep.AppendLies
import Derived.Deep.MidRow
import Derived.Deep.QuietTactic
import Derived.Deep.RegionHeld3
import Derived.Deep.RegionLaw
import Derived.Deep.RegionWith
import Derived.Deep.WholeRow
import Derived.Laws.AppendOwn
import Derived.Laws.AppendOwnNone
import Derived.Laws.OwnMore
import Derived.Shelf.Abstract
import Derived.Sort.Grow
import Derived.WalkKit
import Derived.WalkLawsBesides
import Derived.WalkSpells
import Derived.Test.YtihfibjckkmmbaaGreatRows
import Derived.Test.YtihfibjckkmmbaaGreatQhae
namespace Go.Proofs.YtihfibjckkmmbaaGreat
open Go.RowKit
def flat:List M.D→List Value
 | []=>[]
 | d::l=>.int .i64 d.k::.int .i64 d.p::.int .i64 d.v::flat l
theorem flat_length (l:List M.D):(flat l).length=l.length * 3:=by
 induction l with
 | nil=>rfl
 | cons d l ih=>simp [flat,ih];omega
theorem flat_append (l m:List M.D):flat (l++m)=flat l++flat m:=by
 induction l with
 | nil=>rfl
 | cons d l ih=>simp [flat,ih]
theorem flat_get (l:List M.D):∀ i (h:i < l.length),(flat l)[i * 3]?=some (.int .i64 l[i].k)∧(flat l)[i * 3+1]?=some (.int .i64 l[i].p)∧(flat l)[i * 3+2]?=some (.int .i64 l[i].v):=by
 induction l with
 | nil=>intro i h;exact absurd h (Nat.not_lt_zero _)
 | cons d l ih =>
  intro i h
  cases i with
  | zero=>exact ⟨rfl,rfl,rfl⟩
  | succ i =>
   obtain ⟨h0,h1,h2⟩:=ih i (by simpa using h)
   have e:(i+1) * 3=i * 3+3:=by omega
   rw [e]
   exact ⟨by simpa [flat] using h0,by simpa [flat] using h1,by simpa [flat] using h2⟩
theorem ownsRow_but {w w':World} {base rb:Nat} {e:TypeId} {size:Nat} {v:Value} {n:Nat} {xs:List Value} (h:w.ownsRow base e size v n xs) (hb:But rb w w') (hr:rb < base):w'.ownsRow base e size v n xs:=by
 obtain ⟨h1,h2⟩:=h
 refine ⟨h1,?_⟩
 rcases h2 with h2 | ⟨g,cap,cur,hv,hg,hh,r⟩
 ·exact Or.inl h2
 ·refine Or.inr ⟨g,cap,cur,hv,hg,?_,r⟩
  rw [hb.block g (by by_cases hlt:g < w.heap.size;exact hlt;rw [Array.getElem?_eq_none (by omega)] at hh;cases hh) (by omega)]
  exact hh
theorem Rdr.grown {w w':World} {B rb p:Nat} {row:Option Nat} (h:Rdr w B rb p) (hg:w.grownBy w' row) (hr:∀ k,row=some k→B≤k∧k≠rb):Rdr w' B rb p:=by
 obtain ⟨ca,cb,co,L,C,x,h⟩:=h
 have hne:some rb≠row:=fun e=>(hr rb e.symm).2 rfl
 refine ⟨ca,cb,co,L,C,x,hg.cell h.s hne,hg.cell h.p hne,?_,h.ad,h.le,fun i hi=>⟨hg.cell (h.cells i hi).1 (fun e=>?_),(h.cells i hi).2⟩,h.ne,h.ge⟩
 ·exact (World.frozen?_of_block (w:=w) (hg.block rb h.lt hne)).trans h.fz
 ·have h1:=(hr cb e.symm).1
  have h2:=h.ne (by omega)
  omega
theorem own_steps {w:World} {base:Nat} {v:Value} {l:List M.D} (h:w.ownsRow base 56 3 v l.length (flat l)):∃ a g c,v=.slice a l.length c∧DoS w a g 0 l∧(0 < l.length→base≤g):=by
 have hx:=h.1
 rcases h.2 with ⟨hv,hn⟩ | ⟨g,cap,cur,hv,hg,hh,r⟩
 ·have:l=[]:=List.length_eq_zero_iff.1 hn
  subst this
  exact ⟨none,0,0,hv,⟨fun h=>absurd h (Nat.lt_irrefl _),fun i hi=>absurd hi (Nat.not_lt_zero _)⟩,fun h=>absurd h (Nat.lt_irrefl _)⟩
 ·refine ⟨_,g,cap,hv,⟨fun _=>rfl,fun i hi=>?_⟩,fun _=>hg⟩
  obtain ⟨h0,h1,h2⟩:=flat_get l i hi
  have hc:=h.cells (g:=g) (by rw [hv];rfl)
  refine ⟨?_,?_,?_⟩
  ·have:=hc _ _ h0;rwa [Go.WideShapes.add_plain] at this
  ·have:=hc _ _ h1;rw [Go.WideShapes.add_plain] at this;rwa [Nat.zero_add] at this ⊢
  ·have:=hc _ _ h2;rw [Go.WideShapes.add_plain] at this;rwa [Nat.zero_add] at this ⊢
theorem Tryz.info56:(Tryz.prog.info? 56).map (fun i=>(i.zero,i.size,i.bytes))=some (some (.agg #[.int .i64 0,.int .i64 0,.int .i64 0]),3,24):=by kernel_rfl
set_option maxHeartbeats 1000000 in
theorem l71Thread_any (B rb p:Nat) (m n:Int) (w:World) (hm:0≤m) (hm2:m≤20) (hn:1≤n) (hn2:n≤1000) (hp:p≤90000) (h:Rdr w B rb p) :
  Calls Tryz.prog 61 #[.pointer (some ⟨rb,0,none⟩),.int .i64 m,.int .i64 n] w fun e w'=>∃ (l:List M.D) (v:Value),e=.returned v∧w'.ownsRow w.heap.size 56 3 v l.length (flat l)∧l.length≤20∧∃ p':Nat,p'≤p+61∧Rdr w' B rb p'∧But rb w w':=by
 have hlt:=h.lt
 have hge:=h.ge
 obtain ⟨i0,hi,hz0,hz1,hz2⟩:=info_parts Tryz.info56
 go_enter Tryz.func61,Tryz.ntmps61
 go_wp2_with fail
 refine (pick_rdr B rb p _ _ (by omega) (by omega) (by omega) (h.alloc _)).mono ?_
 rintro e w1 ⟨r,rfl,r0,r1,hr1,hb1⟩
 obtain ⟨q,rfl⟩:=Int.eq_ofNat_of_zero_le r0
 have hown1:w1.ownsRow w.heap.size 56 3 (.slice (some ⟨w.heap.size,0,none⟩) 0 0) 0 []:=ownsRow_but (World.ownsRow_made w _ 0 (Nat.le_refl _) (Nat.zero_le _) rfl) hb1 hlt
 have hb1':=((But.refl rb w).alloc _).trans hb1
 clear hb1
 go_wp2_with fail
 go_loopw [7,8] (fun s7 s8 wr=>∃ (l:List M.D) (k p':Nat),s8=.int .i64 k∧l.length+k≤20∧p'≤p+1+3 * l.length∧wr.ownsRow w.heap.size 56 3 s7 l.length (flat l)∧Rdr wr B rb p'∧But rb w wr) (fun _ s8 _=>(intOf s8).toNat)
 case atStart=>exact ⟨[],q,p+1,rfl,by simp;omega,by omega,hown1,hr1,hb1'⟩
 case round =>
  obtain ⟨l,k,p',rfl,hlk,hp',hown,hr,hb⟩:=hrel
  clear hown1 hr1 hb1'
  by_cases hk:0 < k
  ·have hk':(0:Int) < k:=by omega
   go_wp2_with fail
   refine (l71Do_any B rb p' n _ hn hn2 (by omega) hr).mono ?_
   rintro e w2 ⟨⟨kk,pp,vv⟩,p2,rfl,hp2,hr2,hb2⟩
   have hown2:=ownsRow_but hown hb2 hlt
   have hb2':=hb.trans hb2
   clear hown hb hb2 hr
   go_wp2_with (at_builtin;refine wpList_append_own _ rfl (.tmp 18) (.tmp 22) 53 rfl w.heap.size 56 i0 _ 3 24 Tryz.underlying53 hi hz0 hz1 hz2 rfl (by decide) _ _ _ rfl (hown2.alloc _) ⟨w2.heap.size,0,none⟩ 1 1 [.int .i64 kk,.int .i64 pp,.int .i64 vv] rfl rfl ?c1 ?c2 ?c3 ?c4 ?c5 ?_)
   case c1 =>
    intro j u hj
    match j,hj with
    | 0,hj=>simp at hj;subst hj;simp [Addr.add]
    | 1,hj=>simp at hj;subst hj;simp [Addr.add]
    | 2,hj=>simp at hj;subst hj;simp [Addr.add]
   case c2=>intro u hu;simp at hu;rcases hu with rfl | rfl | rfl<;>rfl
   case c3=>unfold maxLen;omega
   case c4=>omega
   case c5=>have:=hb2'.size;simp;omega
   intro v' w3 hown3 hg3 _
   have hge3:=own_ge hown2
   have hr3:=(hr2.alloc _).grown hg3 (fun k hk=>⟨by have:=hge3 k hk;omega,by have:=hge3 k hk;omega⟩)
   have hb3:=(hb2'.alloc _).grown hg3 hge3
   have hown3':w3.ownsRow w.heap.size 56 3 v' (l++[M.D.mk kk pp vv]).length (flat (l++[M.D.mk kk pp vv])):=by
    rw [flat_append,List.length_append];exact hown3
   clear hown3 hg3 hge3 hown2 hb2' hr2
   go_wp2_with fail
   exact ⟨⟨l++[M.D.mk kk pp vv],k - 1,p2,by rw [show ((k - 1:Nat):Int)=(k:Int) - 1 by omega],by simp;omega,by simp;omega,hown3',hr3,hb3⟩,by simp [intOf];omega⟩
  ·have hk':¬ (0:Int) < k:=by omega
   go_wp2_with fail
   go_ret
   exact ⟨l,_,rfl,hown,by omega,p',by omega,hr,hb⟩
end Go.Proofs.YtihfibjckkmmbaaGreat
namespace Go.Proofs.YtihfibjckkmmbaaGreat
open Go.RowKit
theorem ownsRow_mono {w:World} {B B':Nat} {e:TypeId} {size:Nat} {v:Value} {n:Nat} {xs:List Value} (h:w.ownsRow B e size v n xs) (hB:B'≤B):w.ownsRow B' e size v n xs:=by
 obtain ⟨h1,h2⟩:=h
 refine ⟨h1,?_⟩
 rcases h2 with h2 | ⟨g,cap,cur,hv,hg,r⟩
 ·exact Or.inl h2
 ·exact Or.inr ⟨g,cap,cur,hv,Nat.le_trans hB hg,r⟩
theorem own_apart {w:World} {B B':Nat} {e e':TypeId} {size size':Nat} {v v':Value} {n n':Nat} {xs xs':List Value} (h:w.ownsRow B e size v n xs) (h':w.ownsRow B' e' size' v' n' xs') (he:e≠e'):v.ownBlock=none∨v.ownBlock≠v'.ownBlock:=by
 rcases h.2 with ⟨hv,_⟩ | ⟨g,cap,cur,hv,_,hh,_⟩
 ·exact Or.inl (by rw [hv];rfl)
 ·right
  rcases h'.2 with ⟨hv',_⟩ | ⟨g',cap',cur',hv',_,hh',_⟩
  ·rw [hv,hv'];simp [Value.ownBlock]
  ·rw [hv,hv']
   intro e2
   simp [Value.ownBlock] at e2
   rw [e2] at hh
   rw [hh] at hh'
   simp at hh'
   exact he hh'.2
structure Build (w:World) (B:Nat) (v:Value) (ll:List (List M.D)) (vs:List Value):Prop where
 outer:w.ownsRow B 53 1 v ll.length vs
 len:vs.length=ll.length
 inner:∀ i (h:i < ll.length) (h':i < vs.length),w.ownsRow B 56 3 vs[i] ll[i].length (flat ll[i])
theorem Build.but {w w':World} {B rb:Nat} {v:Value} {ll:List (List M.D)} {vs:List Value} (h:Build w B v ll vs) (hb:But rb w w') (hr:rb < B):Build w' B v ll vs :=
 ⟨ownsRow_but h.outer hb hr,h.len,fun i h1 h2=>ownsRow_but (h.inner i h1 h2) hb hr⟩
theorem Build.mono {w:World} {B B':Nat} {v:Value} {ll:List (List M.D)} {vs:List Value} (h:Build w B v ll vs) (hB:B'≤B):Build w B' v ll vs :=
 ⟨ownsRow_mono h.outer hB,h.len,fun i h1 h2=>ownsRow_mono (h.inner i h1 h2) hB⟩
theorem Build.nil (w:World) (B:Nat):Build w B (.slice none 0 0) [] []:=⟨World.ownsRow_nil _ _ _ _,rfl,fun _ h _=>absurd h (Nat.not_lt_zero _)⟩
theorem ownsRow_far {w:World} {B:Nat} {e:TypeId} {size:Nat} {v:Value} {n:Nat} {xs:List Value} (h:w.ownsRow B e size v n xs) {b i:Nat} (hb:b < B) (u:Value):(w.setCell ⟨b,i,none⟩ u).ownsRow B e size v n xs :=
 ownsRow_setCell_below h (a:=⟨b,i,none⟩) hb u
theorem Build.far {w:World} {B:Nat} {v:Value} {ll:List (List M.D)} {vs:List Value} (h:Build w B v ll vs) {b i:Nat} (hb:b < B) (u:Value):Build (w.setCell ⟨b,i,none⟩ u) B v ll vs :=
 ⟨ownsRow_far h.outer hb u,h.len,fun i h1 h2=>ownsRow_far (h.inner i h1 h2) hb u⟩
theorem Build.snoc {w w':World} {B:Nat} {v v' x:Value} {ll:List (List M.D)} {vs:List Value} {l:List M.D} (h:Build w B v ll vs) (hx:w.ownsRow B 56 3 x l.length (flat l))
  (ho:w'.ownsRow B 53 1 v' (ll.length+1) (vs++[x])) (hg:w.grownBy w' v.ownBlock):Build w' B v' (ll++[l]) (vs++[x]):=by
 have hl:=h.len
 refine ⟨by rw [List.length_append];exact ho,by simp [hl],fun i h1 h2=>?_⟩
 by_cases hi:i < ll.length
 ·rw [List.getElem_append_left hi,List.getElem_append_left (by omega)]
  exact (h.inner i hi (by omega)).kept hg (own_apart (h.inner i hi (by omega)) h.outer (by decide))
 ·have:i=ll.length:=by simp at h1;omega
  subst this
  have e1:(ll++[l])[ll.length]=l:=by simp
  have e2:(vs++[x])[ll.length]=x:=by
   rw [List.getElem_append_right (by omega)]
   simp [hl]
  rw [e1,e2]
  exact hx.kept hg (own_apart hx h.outer (by decide))
theorem Build.ss {w:World} {B:Nat} {v:Value} {ll:List (List M.D)} {vs:List Value} (h:Build w B v ll vs):∃ a g c,v=.slice a ll.length c∧DoSS w a g 0 ll:=by
 have hl:=h.len
 rcases h.outer.2 with ⟨hv,hn⟩ | ⟨g,cap,cur,hv,hg,hh,r⟩
 ·have:ll=[]:=List.length_eq_zero_iff.1 hn
  subst this
  exact ⟨none,0,0,hv,⟨fun h=>absurd h (Nat.lt_irrefl _),fun i hi=>absurd hi (Nat.not_lt_zero _)⟩⟩
 ·refine ⟨_,g,cap,hv,⟨fun _=>rfl,fun i hi=>?_⟩⟩
  have hc:=h.outer.cells (g:=g) (by rw [hv];rfl) i vs[i] (List.getElem?_eq_getElem (by omega))
  rw [Go.WideShapes.add_plain] at hc
  obtain ⟨a',g',c',e,hd,_⟩:=own_steps (h.inner i hi (by omega))
  rw [e] at hc
  exact ⟨a',g',0,c',hc,hd⟩
theorem Tryz.info53:(Tryz.prog.info? 53).map (fun i=>(i.zero,i.size,i.bytes))=some (some (.slice none 0 0),1,24):=by kernel_rfl
structure Slot1 (w:World) (b:Nat) (x:Value):Prop where
 c:w.cell? ⟨b,0,none⟩=some x
 fz:w.frozen? ⟨b,0,none⟩=false
theorem Slot1.lt {w:World} {b:Nat} {x:Value} (h:Slot1 w b x):b < w.heap.size:=World.block_lt_of_cell? _ _ h.c
theorem Slot1.but {w w':World} {b rb:Nat} {x:Value} (h:Slot1 w b x) (hb:But rb w w') (hne:b≠rb):Slot1 w' b x :=
 ⟨(hb.cell (p:=⟨b,0,none⟩) h.lt hne).trans h.c,(hb.frozen (p:=⟨b,0,none⟩) h.lt hne).trans h.fz⟩
theorem Slot1.new (w:World) (x:Value) (t:TypeId):Slot1 (w.alloc (.cells #[x] t)) w.heap.size x:=⟨by simp,by simp⟩
theorem Slot1.far {w:World} {b b' i:Nat} {x:Value} (h:Slot1 w b x) (hne:b'≠b) (u:Value):Slot1 (w.setCell ⟨b',i,none⟩ u) b x :=
 ⟨(World.cell?_setCell_other _ _ _ _ (fun e=>hne (congrArg Addr.block e))).trans h.c,by rw [World.frozen?_setCell];exact h.fz⟩
theorem Slot1.set {w:World} {b:Nat} {x:Value} (h:Slot1 w b x) (u:Value):Slot1 (w.setCell ⟨b,0,none⟩ u) b u :=
 ⟨World.cell?_setCell_same _ _ _ h.c,by rw [World.frozen?_setCell];exact h.fz⟩
end Go.Proofs.YtihfibjckkmmbaaGreat
namespace Go.Proofs.YtihfibjckkmmbaaGreat
open Go.RowKit
structure Rdg (w:World) (B:Nat) (v:Value) (ll:List (List M.D)) (vs:List Value):Prop where
 b:Build w B v ll vs
 ap:∀ i j (hi:i < vs.length) (hj:j < vs.length),i≠j→∀ k,vs[i].ownBlock=some k→vs[j].ownBlock≠some k
theorem Rdg.below {w w':World} {B:Nat} {v:Value} {ll:List (List M.D)} {vs:List Value} (h:Rdg w B v ll vs) (hb:Below w.heap.size w w'):Rdg w' B v ll vs :=
 ⟨⟨ownsRow_below h.b.outer hb,h.b.len,fun i h1 h2=>ownsRow_below (h.b.inner i h1 h2) hb⟩,h.ap⟩
theorem Rdg.far {w:World} {B:Nat} {v:Value} {ll:List (List M.D)} {vs:List Value} (h:Rdg w B v ll vs) {b i:Nat} (hb:b < B) (u:Value):Rdg (w.setCell ⟨b,i,none⟩ u) B v ll vs:=⟨h.b.far hb u,h.ap⟩
theorem Rdg.nil (w:World) (B:Nat):Rdg w B (.slice none 0 0) [] []:=⟨Build.nil w B,fun _ _ h=>absurd h (Nat.not_lt_zero _)⟩
theorem Rdg.mono {w:World} {B B':Nat} {v:Value} {ll:List (List M.D)} {vs:List Value} (h:Rdg w B v ll vs) (hB:B'≤B):Rdg w B' v ll vs:=⟨h.b.mono hB,h.ap⟩
theorem Rdg.snocT {w w':World} {B:Nat} {v v' x:Value} {ll:List (List M.D)} {vs:List Value} {l:List M.D} (h:Rdg w B v ll vs) (hx:w.ownsRow B 56 3 x l.length (flat l)) (hap:∀ i (hi:i < vs.length) k,vs[i].ownBlock=some k→x.ownBlock≠some k)
  (ho:w'.ownsRow B 53 1 v' (ll.length+1) (vs++[x])) (hg:w.grownBy w' v.ownBlock):Rdg w' B v' (ll++[l]) (vs++[x]):=by
 refine ⟨h.b.snoc hx ho hg,fun i j hi hj hne k hk=>?_⟩
 by_cases h1:i < vs.length
 ·rw [List.getElem_append_left h1] at hk
  by_cases h2:j < vs.length
  ·rw [List.getElem_append_left h2]
   exact h.ap i j h1 h2 hne k hk
  ·rw [List.getElem_append_right (by omega)]
   have:j - vs.length=0:=by simp at hj;omega
   simp only [this,List.getElem_cons_zero]
   exact hap i h1 k hk
 ·rw [List.getElem_append_right (by omega)] at hk
  have:i - vs.length=0:=by simp at hi;omega
  simp only [this,List.getElem_cons_zero] at hk
  have h2:j < vs.length:=by simp at hi hj;omega
  rw [List.getElem_append_left h2]
  exact fun e=>hap j h2 k e hk
end Go.Proofs.YtihfibjckkmmbaaGreat
namespace Go.Proofs.YtihfibjckkmmbaaGreat
open Go.RowKit
theorem DoS.far {w:World} {a:Option Addr} {b o B i:Nat} {l:List M.D} {u:Value} (h:DoS w a b o l) (hb:0 < l.length→b≠B):DoS (w.setCell ⟨B,i,none⟩ u) a b o l:=by
 refine ⟨h.addr,fun j hj=>?_⟩
 have hne:=hb (by omega)
 have hr:=h.row j hj
 exact ⟨(World.cell?_setCell_other _ _ _ _ (fun e=>hne (congrArg Addr.block e).symm)).trans hr.k,(World.cell?_setCell_other _ _ _ _ (fun e=>hne (congrArg Addr.block e).symm)).trans hr.p,(World.cell?_setCell_other _ _ _ _ (fun e=>hne (congrArg Addr.block e).symm)).trans hr.v⟩
theorem DoS.but {w w':World} {a:Option Addr} {rb b o:Nat} {l:List M.D} (h:DoS w a b o l) (hb:But rb w w') (hne:0 < l.length→b≠rb):DoS w' a b o l:=by
 refine ⟨h.addr,fun j hj=>?_⟩
 have hn:=hne (by omega)
 have hr:=h.row j hj
 have hl:=hr.lt
 exact ⟨(hb.cell (p:=⟨b,o+j * 3,none⟩) hl hn).trans hr.k,(hb.cell (p:=⟨b,o+j * 3+1,none⟩) hl hn).trans hr.p,(hb.cell (p:=⟨b,o+j * 3+2,none⟩) hl hn).trans hr.v⟩
theorem own_capS {w:World} {base n cap:Nat} {a:Option Addr} {e:TypeId} {size:Nat} {xs:List Value} (h:w.ownsRow base e size (.slice a n cap) n xs):n≤cap:=by
 rcases h.2 with ⟨hv,_⟩ | ⟨g',cap',cur,hv,_,_,hc,_⟩
 ·simp at hv;omega
 ·simp at hv
  obtain ⟨_,rfl⟩:=hv
  exact hc
theorem own_stepsC {w:World} {base:Nat} {v:Value} {l:List M.D} (h:w.ownsRow base 56 3 v l.length (flat l)):∃ a g c,v=.slice a l.length c∧DoS w a g 0 l∧(0 < l.length→base≤g)∧l.length≤c:=by
 obtain ⟨a,g,c,rfl,hd,hg⟩:=own_steps h
 exact ⟨a,g,c,rfl,hd,hg,own_capS h⟩
structure DoSN (N:Nat) (w:World) (a:Option Addr) (b o:Nat) (ll:List (List M.D)):Prop where
 addr:0 < ll.length→a=some ⟨b,o,none⟩
 ge:0 < ll.length→N≤b
 row:∀ i (h:i < ll.length),∃ a' b' o' c',w.cell? ⟨b,o+i,none⟩=some (.slice a' ll[i].length c')∧DoS w a' b' o' ll[i]∧(0 < ll[i].length→N≤b')∧ll[i].length≤c'
theorem DoSN.ss {N:Nat} {w:World} {a:Option Addr} {b o:Nat} {ll:List (List M.D)} (h:DoSN N w a b o ll):DoSS w a b o ll :=
 ⟨h.addr,fun i hi=>by obtain ⟨a',b',o',c',hc,hd,_,_⟩:=h.row i hi;exact ⟨a',b',o',c',hc,hd⟩⟩
theorem DoSN.far {N:Nat} {w:World} {a:Option Addr} {b o B i:Nat} {ll:List (List M.D)} {u:Value} (h:DoSN N w a b o ll) (hB:B < N):DoSN N (w.setCell ⟨B,i,none⟩ u) a b o ll:=by
 refine ⟨h.addr,h.ge,fun j hj=>?_⟩
 obtain ⟨a',b',o',c',hc,hd,hg,hq⟩:=h.row j hj
 have:=h.ge (by omega)
 exact ⟨a',b',o',c',(World.cell?_setCell_other _ _ _ _ (fun e=>by have:=congrArg Addr.block e;simp at this;omega)).trans hc,hd.far (fun hl=>by have:=hg hl;omega),hg,hq⟩
theorem DoSN.but {N:Nat} {w w':World} {a:Option Addr} {rb b o:Nat} {ll:List (List M.D)} (h:DoSN N w a b o ll) (hb:But rb w w') (hr:rb < N):DoSN N w' a b o ll:=by
 refine ⟨h.addr,h.ge,fun j hj=>?_⟩
 obtain ⟨a',b',o',c',hc,hd,hg,hq⟩:=h.row j hj
 have:=h.ge (by omega)
 exact ⟨a',b',o',c',(hb.cell (p:=⟨b,o+j,none⟩) (World.block_lt_of_cell? _ _ hc) (by show b≠rb;omega)).trans hc,hd.but hb (fun hl=>by have:=hg hl;omega),hg,hq⟩
theorem DoSN.mono {N N':Nat} {w:World} {a:Option Addr} {b o:Nat} {ll:List (List M.D)} (h:DoSN N w a b o ll) (hN:N'≤N):DoSN N' w a b o ll :=
 ⟨h.addr,fun hl=>Nat.le_trans hN (h.ge hl),fun i hi=>by obtain ⟨a',b',o',c',hc,hd,hg,hq⟩:=h.row i hi;exact ⟨a',b',o',c',hc,hd,fun hl=>Nat.le_trans hN (hg hl),hq⟩⟩
theorem Build.cap {w:World} {B n c:Nat} {a:Option Addr} {ll:List (List M.D)} {vs:List Value} (h:Build w B (.slice a n c) ll vs):ll.length≤c:=by
 rcases h.outer.2 with ⟨hv,hn⟩ | ⟨g',cap',cur,hv,_,_,hc,_⟩
 ·omega
 ·simp at hv
  obtain ⟨_,_,rfl⟩:=hv
  exact hc
theorem Build.sn {w:World} {B:Nat} {v:Value} {ll:List (List M.D)} {vs:List Value} (h:Build w B v ll vs):∃ a g c,v=.slice a ll.length c∧DoSN B w a g 0 ll:=by
 have hl:=h.len
 rcases h.outer.2 with ⟨hv,hn⟩ | ⟨g,cap,cur,hv,hg,hh,r⟩
 ·have:ll=[]:=List.length_eq_zero_iff.1 hn
  subst this
  exact ⟨none,0,0,hv,⟨fun h=>absurd h (Nat.lt_irrefl _),fun h=>absurd h (Nat.lt_irrefl _),fun i hi=>absurd hi (Nat.not_lt_zero _)⟩⟩
 ·refine ⟨_,g,cap,hv,⟨fun _=>rfl,fun _=>hg,fun i hi=>?_⟩⟩
  have hc:=h.outer.cells (g:=g) (by rw [hv];rfl) i vs[i] (List.getElem?_eq_getElem (by omega))
  rw [Go.WideShapes.add_plain] at hc
  obtain ⟨a',g',c',e,hd,hge,hq⟩:=own_stepsC (h.inner i hi (by omega))
  rw [e] at hc
  exact ⟨a',g',0,c',hc,hd,hge,hq⟩
end Go.Proofs.YtihfibjckkmmbaaGreat
namespace Go.Proofs.YtihfibjckkmmbaaGreat
open Go.RowKit
theorem Slot1.apart {w w':World} {b:Nat} {x:Value} {row:Option Nat} (h:Slot1 w b x) (hg:w.grownBy w' row) (hr:row≠some b):Slot1 w' b x:=by
 have hne:some b≠row:=fun e=>hr e.symm
 exact ⟨hg.cell h.c hne,(World.frozen?_of_block (w:=w) (hg.block b h.lt hne)).trans h.fz⟩
end Go.Proofs.YtihfibjckkmmbaaGreat
namespace Go.Proofs.YtihfibjckkmmbaaGreat
open Go.RowKit
theorem DoS.flat_cells {w:World} {b o:Nat} {l:List M.D} (h:Row w b o l):∀ (j:Nat) (u:Value),(flat l)[j]?=some u→w.cell? ((⟨b,o,none⟩:Addr).add j)=some u:=by
 intro j u hj
 have hjl:=(List.getElem?_eq_some_iff.1 hj).1
 rw [flat_length] at hjl
 rw [Go.WideShapes.add_plain]
 have hi:j / 3 < l.length:=by omega
 obtain ⟨f0,f1,f2⟩:=flat_get l (j / 3) hi
 have hr:=h (j / 3) hi
 have hm:j % 3=0∨j % 3=1∨j % 3=2:=by omega
 rcases hm with hm | hm | hm
 ·have e:j=j / 3 * 3:=by omega
  rw [e,f0] at hj
  rw [← Option.some.inj hj,show o+j=o+j / 3 * 3 from by omega]
  exact hr.k
 ·have e:j=j / 3 * 3+1:=by omega
  rw [e,f1] at hj
  rw [← Option.some.inj hj,show o+j=o+j / 3 * 3+1 from by omega]
  exact hr.p
 ·have e:j=j / 3 * 3+2:=by omega
  rw [e,f2] at hj
  rw [← Option.some.inj hj,show o+j=o+j / 3 * 3+2 from by omega]
  exact hr.v
theorem flat_one' (l:List M.D):∀ y∈flat l,y.oneCell'=true:=by
 induction l with
 | nil=>intro y hy;cases hy
 | cons d l ih =>
  intro y hy
  simp only [flat,List.mem_cons] at hy
  rcases hy with rfl | rfl | rfl | hy
  ·rfl
  ·rfl
  ·rfl
  ·exact ih y hy
end Go.Proofs.YtihfibjckkmmbaaGreat
namespace Go.Proofs.YtihfibjckkmmbaaGreat
open Go.RowKit
theorem Slot1.bl' {w w':World} {b:Nat} {x:Value} (h:Slot1 w b x) (hb:Below w.heap.size w w'):Slot1 w' b x :=
 ⟨(hb.cell (p:=⟨b,0,none⟩) h.lt).trans h.c,(hb.frozen (p:=⟨b,0,none⟩) h.lt).trans h.fz⟩
end Go.Proofs.YtihfibjckkmmbaaGreat
namespace Go.Proofs.YtihfibjckkmmbaaGreat
open Go.RowKit
def M.tot (f:Int→Bool):List (List M.D)→Nat
 | []=>0
 | t::l=>M.cnt f t+M.tot f l
def M.nreads (ll:List (List M.D)):Int:=if M.prog ll then (M.tot M.reads ll:Int) else -1
theorem M.from_le {ll:List (List M.D)}:∀ {a u:Nat},M.progFrom a u ll=true→∀ t∈ll,t.length≤7:=by
 induction ll with
 | nil=>intro a u _ t ht;simp at ht
 | cons t l ih =>
  intro a u h t' ht'
  by_cases hb:M.thread t=true
  ·simp only [M.progFrom,hb,if_true] at h
   rcases List.mem_cons.1 ht' with rfl | hm
   ·exact M.thread_le hb
   ·exact ih h t' hm
  ·simp [M.progFrom,hb] at h
theorem M.prog_le {ll:List (List M.D)} (h:M.prog ll=true):ll.length≤3∧∀ t∈ll,t.length≤7:=by
 simp only [M.prog,Bool.and_eq_true,decide_eq_true_eq] at h
 exact ⟨h.1,M.from_le h.2⟩
theorem M.nreads_ok {ll:List (List M.D)} (h:M.prog ll=true):M.nreads ll=M.tot M.reads ll:=by simp [M.nreads,h]
end Go.Proofs.YtihfibjckkmmbaaGreat
namespace Go.Proofs.YtihfibjckkmmbaaGreat
open Go.RowKit
namespace M
def has (l:List Int) (v:Int):Bool:=l.contains v
theorem has_hit {l:List Int} {v:Int} {n:Nat} (hn:n < l.length) (h:l[n]=v):has l v=true:=by
 simp [has];rw [← h];exact List.getElem_mem hn
theorem has_fin {l:List Int} {v:Int} (h:∀ i (_:i < l.length),l[i]≠v):has l v=false:=by
 simp only [has,List.contains_eq_mem,decide_eq_false_iff_not]
 intro hm
 obtain ⟨i,hi,e⟩:=List.getElem_of_mem hm
 exact h i hi e
end M
set_option maxHeartbeats 400000 in
theorem indexI_any (a:Option Addr) (b o c:Nat) (l:List Int) (v:Int) (w:World) (hl:l.length≤1048576) (h:IntS w a b o l) :
  Calls Tryz.prog 121 #[.slice a l.length c,.int .i64 v] w fun e w'=>∃ r:Int,e=.returned (.int .i64 r)∧decide (0≤r)=M.has l v∧w'=w:=by
 go_enter Tryz.func121,Tryz.ntmps121
 go_wp2_with fail
 go_loopw [8] (fun s8 wr=>∃ n:Nat,s8=.int .i64 n∧n≤l.length∧Hid (∀ i (_:i < n) (h:i < l.length),l[i]≠v)∧wr=w) (fun s8 _=>l.length - (intOf s8).toNat)
 case atStart=>exact ⟨0,rfl,Nat.zero_le _,fun i hi=>absurd hi (Nat.not_lt_zero _),rfl⟩
 case round =>
  obtain ⟨n,rfl,hn,HA,rfl⟩:=hrel
  by_cases hlt:n < l.length
  ·obtain ⟨rfl⟩:=h.addr (by omega)
   have hx:=h.row n hlt
   obtain ⟨y,hy⟩:∃ y,l[n]=y:=⟨_,rfl⟩
   have HY:Hid (l[n]=y):=hy
   rw [hy] at hx
   clear hy
   have i1:(n:Int) < l.length:=by omega
   by_cases e:v=y
   ·subst e
    go_wp2_with fail
    go_ret
    exact ⟨n,rfl,by rw [M.has_hit hlt HY.out];simp,rfl⟩
   ·have e':(v==y)=false:=by simpa using e
    go_wp2_with fail
    exact ⟨⟨n+1,by go_num,by omega,fun i hi hl=>by
     by_cases ei:i=n
     ·subst ei;rw [HY.out];exact fun h=>e h.symm
     ·exact HA.out i (by omega) hl,trivial⟩,by simp [intOf];omega⟩
  ·go_wp2_with fail
   go_ret
   exact ⟨-1,rfl,by rw [M.has_fin (fun i hi=>HA.out i (by omega) hi)];rfl,rfl⟩
theorem containsI_any (a:Option Addr) (b o c:Nat) (l:List Int) (v:Int) (w:World) (hl:l.length≤1048576) (h:IntS w a b o l) :
  Calls Tryz.prog 100 #[.slice a l.length c,.int .i64 v] w fun e w'=>e=.returned (.bool (M.has l v))∧w'=w:=by
 go_enter Tryz.func100,Tryz.ntmps100
 go_wp2_with (go_at_call 121;refine (indexI_any a b o c l v _ hl h).mono ?_;rintro e w' ⟨r,rfl,hr,rfl⟩)
 go_ret
 exact ⟨rfl,rfl⟩
end Go.Proofs.YtihfibjckkmmbaaGreat
namespace Go.Proofs.YtihfibjckkmmbaaGreat
namespace M
def bel (n:Nat):List Int:=(List.range n).map fun i:Nat=>(i:Int)
def rowOf (row evs:List Int):Bool:=decide (row.length=evs.length)&&evs.all (fun v=>has row v)
def rowN (row:List Int) (n:Nat):Bool:=rowOf row (bel n)
def pick {α:Type} (z:α) (row:List Int) (l:List α):List α:=row.map fun i=>l.getD i.toNat z
def mapS (f:D→D) (ll:List (List D)):List (List D):=ll.map fun t=>t.map f
theorem mapS_len (f:D→D) (ll:List (List D)):(mapS f ll).length=ll.length:=by simp [mapS]
def turnBeside (ll mm:List (List D)):Option (List (List D)):=if prog ll&&prog mm&&prog (ll++mm) then some (ll++mm) else none
theorem turnBeside_bad {ll mm:List (List D)} (h:prog ll=false):turnBeside ll mm=none:=by simp [turnBeside,h]
theorem turnBeside_bad2 {ll mm:List (List D)} (h:prog mm=false):turnBeside ll mm=none:=by simp [turnBeside,h]
theorem turnBeside_bad3 {ll mm:List (List D)} (h:prog (ll++mm)=false):turnBeside ll mm=none:=by simp [turnBeside,h]
theorem turnBeside_yes {ll mm:List (List D)} (h:prog ll=true) (h2:prog mm=true) (h3:prog (ll++mm)=true):turnBeside ll mm=some (ll++mm):=by simp [turnBeside,h,h2,h3]
theorem turnBeside_some {ll mm nn:List (List D)} (h:turnBeside ll mm=some nn):prog ll=true∧prog mm=true∧prog (ll++mm)=true∧nn=ll++mm:=by
 unfold turnBeside at h
 split at h
 ·rename_i hc
  simp only [Bool.and_eq_true] at hc
  exact ⟨hc.1.1,hc.1.2,hc.2,(Option.some.inj h).symm⟩
 ·cases h
theorem turnBeside_small {ll mm nn:List (List D)} (e:(turnBeside ll mm).getD []=nn):nn.length≤3∧∀ t∈nn,t.length≤7:=by
 cases h:turnBeside ll mm with
 | none=>rw [h] at e;subst e;simp
 | some x =>
  rw [h] at e
  obtain rfl:x=nn:=e
  obtain ⟨_,_,h1,rfl⟩:=turnBeside_some h
  exact prog_le h1
end M
end Go.Proofs.YtihfibjckkmmbaaGreat
namespace Go.Proofs.YtihfibjckkmmbaaGreat
open Go.RowKit
def M.eqD (d e:M.D):Bool:=d.k==e.k&&d.p==e.p&&d.v==e.v
theorem M.eqD_iff (d e:M.D):M.eqD d e=true↔d=e:=by
 obtain ⟨k,p,v⟩:=d
 obtain ⟨k',p',v'⟩:=e
 simp [M.eqD,and_assoc]
theorem Tryz.eqDo (d e:M.D) (w:World):(Op.equalIn 10000 56 (.agg #[.int .i64 d.k,.int .i64 d.p,.int .i64 d.v]) (.agg #[.int .i64 e.k,.int .i64 e.p,.int .i64 e.v])).run Tryz.prog w=.ok (M.eqD d e) w:=by
 have hs:Tryz.prog.stoodInHeld 56=false:=by kernel_rfl
 obtain ⟨k,p,v⟩:=d
 obtain ⟨k',p',v'⟩:=e
 rw [show (10000:Nat)=9998+1+1 from rfl]
 unfold Op.equalIn
 by_cases h1:k=k'
 ·subst h1
  by_cases h2:p=p'
  ·subst h2
   by_cases h3:v=v'
   ·subst h3
    simp [run_underlying Tryz.underlying56,hs,part,go_sem,M.eqD]
   ·have e3:(v==v')=false:=by simpa using h3
    simp [run_underlying Tryz.underlying56,hs,part,go_sem,M.eqD,e3]
  ·have e2:(p==p')=false:=by simpa using h2
   simp [run_underlying Tryz.underlying56,hs,part,go_sem,M.eqD,e2]
 ·have e1:(k==k')=false:=by simpa using h1
  simp [run_underlying Tryz.underlying56,hs,part,go_sem,M.eqD,e1]
noncomputable def M.eqLL (ll mm:List (List M.D)):Bool:=@decide (ll=mm) (Classical.propDecidable _)
theorem M.eqLL_yes {ll mm:List (List M.D)} (h:ll=mm):M.eqLL ll mm=true:=by unfold M.eqLL;exact @decide_eq_true _ (Classical.propDecidable _) h
theorem M.eqLL_no {ll mm:List (List M.D)} (h:ll≠mm):M.eqLL ll mm=false:=by unfold M.eqLL;exact @decide_eq_false _ (Classical.propDecidable _) h
theorem Below.drewN' {B:Nat} {a b:World} (h:Below B a b) (n:Nat):Below B a (b.drewN n):=h.trans ⟨rfl,rfl,rfl,Nat.le_refl _,fun _ _=>rfl⟩
def AsFar {α:Type} (l m:List α) (n:Nat):Prop:=∀ i,i < n→l[i]?=m[i]?
theorem AsFar.all {α:Type} {l m:List α} {n:Nat} (h:AsFar l m n) (hl:l.length=m.length) (hn:l.length≤n):l=m:=by
 apply List.ext_getElem?
 intro i
 rcases Nat.lt_or_ge i n with hi | hi
 ·exact h i hi
 ·rw [List.getElem?_eq_none (by omega),List.getElem?_eq_none (by omega)]
theorem AsFar.step {α:Type} {l m:List α} {n:Nat} (h:AsFar l m n) (e:l[n]?=m[n]?):AsFar l m (n+1):=fun i hi=>by
 rcases Nat.lt_or_ge i n with h1 | h1
 ·exact h i h1
 ·obtain rfl:i=n:=by omega
  exact e
set_option maxHeartbeats 400000 in
theorem lpProg_any (a:Option Addr) (b o c:Nat) (a2:Option Addr) (b2 o2 c2:Nat) (ll mm:List (List M.D)) (w:World) (hl:ll.length≤1048576) (hm:mm.length≤1048576) (hls:∀ t∈ll,t.length≤1048576) (h:DoSS w a b o ll) (h2:DoSS w a2 b2 o2 mm) :
  Calls Tryz.prog 11 #[.agg #[.slice a ll.length c],.agg #[.slice a2 mm.length c2]] w fun e w'=>e=.returned (.bool (M.eqLL ll mm))∧Below w.heap.size w w':=by
 by_cases hlm0:ll.length=mm.length
 ·have e0:((ll.length:Int) != mm.length)=false:=by simp;omega
  have HLM:Hid (ll.length=mm.length):=hlm0
  clear hlm0
  go_enter Tryz.func11,Tryz.ntmps11
  go_wp2_with fail
  have hb0:=below2 w (.cells #[.slice a ll.length c] 25) (.cells #[.slice a2 mm.length c2] 25)
  have hs0:=h.below hb0 (Nat.le_refl _)
  have hs2:=h2.below hb0 (Nat.le_refl _)
  have bA:((w.alloc (.cells #[.slice a ll.length c] 25)).alloc (.cells #[.slice a2 mm.length c2] 25)).cell? ⟨w.heap.size,0,none⟩=some (.slice a ll.length c):=by simp
  have bB:((w.alloc (.cells #[.slice a ll.length c] 25)).alloc (.cells #[.slice a2 mm.length c2] 25)).cell? ⟨w.heap.size+1,0,none⟩=some (.slice a2 mm.length c2):=by simp
  generalize (w.alloc (.cells #[.slice a ll.length c] 25)).alloc (.cells #[.slice a2 mm.length c2] 25)=W0 at *
  have ltA:=World.block_lt_of_cell? _ _ bA
  have ltB:=World.block_lt_of_cell? _ _ bB
  clear h h2
  go_loopw [5] (fun s5 wr=>∃ n:Nat,s5=.int .i64 n∧n≤ll.length∧AsFar ll mm n∧Below W0.heap.size W0 wr) (fun s5 _=>ll.length - (intOf s5).toNat)
  case atStart=>exact ⟨0,rfl,Nat.zero_le _,fun i hi=>absurd hi (Nat.not_lt_zero _),Below.refl _ _⟩
  case round =>
   obtain ⟨n,rfl,hn,hfar,hbel⟩:=hrel
   have HF:Hid (AsFar ll mm n):=hfar
   have xA:=(hbel.cell (p:=⟨w.heap.size,0,none⟩) ltA).trans bA
   have xB:=(hbel.cell (p:=⟨w.heap.size+1,0,none⟩) ltB).trans bB
   clear hfar
   by_cases hlt:n < ll.length
   ·have hlt2:n < mm.length:=by have:=HLM.out;omega
    obtain ⟨rfl⟩:=hs0.addr (by omega)
    obtain ⟨rfl⟩:=hs2.addr (by omega)
    obtain ⟨a',b',o',c',hc,hd⟩:=(hs0.below hbel (Nat.le_refl _)).row n hlt
    obtain ⟨a3,b3,o3,c3,hc3,hd3⟩:=(hs2.below hbel (Nat.le_refl _)).row n hlt2
    have hlt':=hls _ (List.getElem_mem hlt)
    have H1:Hid (ll[n]?=some ll[n]):=List.getElem?_eq_getElem hlt
    have H2:Hid (mm[n]?=some mm[n]):=List.getElem?_eq_getElem hlt2
    generalize ll[n]=t at hd hc hlt' H1
    generalize mm[n]=u at hd3 hc3 H2
    have hne:t≠u→ll≠mm:=fun h1 h2=>h1 (Option.some.inj (H1.out.symm.trans ((congrArg (fun l=>l[n]?) h2).trans H2.out)))
    have i1:(n:Int) < ll.length:=by omega
    have i2:(n:Int) < mm.length:=by omega
    by_cases htu:t.length=u.length
    ·have e1:((t.length:Int) != u.length)=false:=by simp;omega
     have HTU:Hid (t.length=u.length):=htu
     clear htu
     go_wp2_with fail
     go_quiet (fail)
     go_wp2_with fail
     have hltA:w.heap.size < wr.heap.size:=World.block_lt_of_cell? _ _ xA
     have hltB:w.heap.size+1 < wr.heap.size:=World.block_lt_of_cell? _ _ xB
     have ltc:b < wr.heap.size:=World.block_lt_of_cell? _ _ hc
     have ltc3:b2 < wr.heap.size:=World.block_lt_of_cell? _ _ hc3
     go_loopw [6] (fun s6 wi=>∃ k:Nat,s6=.int .i64 k∧k≤t.length∧AsFar t u k∧Below wr.heap.size wr wi) (fun s6 _=>t.length - (intOf s6).toNat)
     case atStart=>exact ⟨0,rfl,Nat.zero_le _,fun i hi=>absurd hi (Nat.not_lt_zero _),Below.drewN' (Below.refl _ _) _⟩
     case round =>
      obtain ⟨k,rfl,hk,hfar,hbi⟩:=hrel
      have HG:Hid (AsFar t u k):=hfar
      have yA:=(hbi.cell (p:=⟨w.heap.size,0,none⟩) hltA).trans xA
      have yB:=(hbi.cell (p:=⟨w.heap.size+1,0,none⟩) hltB).trans xB
      have yC:=(hbi.cell (p:=⟨b,o+n,none⟩) ltc).trans hc
      have yD:=(hbi.cell (p:=⟨b2,o2+n,none⟩) ltc3).trans hc3
      clear hfar xA xB bA bB hc hc3
      by_cases hkt:k < t.length
      ·have hku:k < u.length:=by have:=HTU.out;omega
       obtain ⟨rfl⟩:=hd.addr (by omega)
       obtain ⟨rfl⟩:=hd3.addr (by omega)
       have x1:=(hd.row k hkt).below hbi (Nat.le_refl _)
       have x2:=(hd3.row k hku).below hbi (Nat.le_refl _)
       have K1:Hid (t[k]?=some t[k]):=List.getElem?_eq_getElem hkt
       have K2:Hid (u[k]?=some u[k]):=List.getElem?_eq_getElem hku
       have j1:(k:Int) < t.length:=by omega
       have j2:(k:Int) < u.length:=by omega
       generalize t[k]=d at x1 K1
       generalize u[k]=e at x2 K2
       have hq:∀ W,_:=Tryz.eqDo d e
       obtain ⟨k1,p1,v1⟩:=d
       obtain ⟨k2,p2,v2⟩:=e
       obtain ⟨ck,cp,cv⟩:=x1
       obtain ⟨ck2,cp2,cv2⟩:=x2
       cases he:M.eqD ⟨k1,p1,v1⟩ ⟨k2,p2,v2⟩
       ·rw [he] at hq
        go_wp2_with fail
        go_quiet (fail)
        go_wp2_with fail
        go_ret
        exact ⟨ret_bool (M.eqLL_no (hne fun h=>by
         have h1:some (M.D.mk k1 p1 v1)=some (M.D.mk k2 p2 v2):=K1.out.symm.trans ((congrArg (fun l=>l[k]?) h).trans K2.out)
         rw [(M.eqD_iff _ _).2 (Option.some.inj h1)] at he
         cases he)).symm,hb0.trans ((hbel.trans (Below.drewN' (hbi.mono hbel.size) _)).mono hb0.size)⟩
       ·rw [he] at hq
        go_wp2_with fail
        go_quiet (fail)
        go_wp2_with fail
        exact ⟨⟨k+1,by go_num,by omega,HG.out.step (by show t[k]?=u[k]?;rw [K1.out,K2.out,(M.eqD_iff _ _).1 he]),Below.drewN' hbi _⟩,by simp [intOf];omega⟩
      ·go_wp2_with fail
       exact ⟨⟨n+1,by go_num,by omega,HF.out.step (by show ll[n]?=mm[n]?;rw [H1.out,H2.out,HG.out.all HTU.out (by omega)]),hbel.trans (hbi.mono hbel.size)⟩,by simp [intOf];omega⟩
    ·have e1:((t.length:Int) != u.length)=true:=by simp;omega
     go_wp2_with fail
     go_quiet (fail)
     go_wp2_with fail
     go_ret
     exact ⟨ret_bool (M.eqLL_no (hne fun h=>htu (congrArg _ h))).symm,hb0.trans (Below.drewN' (hbel.mono hb0.size) _)⟩
   ·go_wp2_with fail
    go_ret
    exact ⟨ret_bool (M.eqLL_yes (HF.out.all HLM.out (by omega))).symm,hb0.trans (hbel.mono hb0.size)⟩
 ·have e0:((ll.length:Int) != mm.length)=true:=by simp;omega
  go_enter Tryz.func11,Tryz.ntmps11
  go_wp2_with fail
  go_ret
  exact ⟨ret_bool (M.eqLL_no fun h=>hlm0 (congrArg _ h)).symm,below2 _ _ _⟩
end Go.Proofs.YtihfibjckkmmbaaGreat
namespace Go.Proofs.YtihfibjckkmmbaaGreat
open Go.RowKit
namespace M
def curT (f:D→D) (k:Nat) (t:List D):List D:=(t.take k).map f++t.drop k
theorem curT_zero (f:D→D) (t:List D):curT f 0 t=t:=by simp [curT]
theorem curT_len (f:D→D) (k:Nat) (t:List D):(curT f k t).length=t.length:=by simp [curT];omega
theorem curT_all (f:D→D) (k:Nat) (t:List D) (h:t.length≤k):curT f k t=t.map f:=by
 unfold curT;rw [List.take_of_length_le h,List.drop_eq_nil_of_le h,List.append_nil]
theorem curT_get (f:D→D) (k:Nat) (t:List D) (h:k < t.length) (h':k < (curT f k t).length):(curT f k t)[k]=t[k]:=by
 have e:(curT f k t)[k]?=t[k]?:=by
  unfold curT
  rw [List.getElem?_append_right (by simp;omega)]
  simp [Nat.min_eq_left (Nat.le_of_lt h)]
 rw [List.getElem?_eq_getElem h',List.getElem?_eq_getElem h] at e
 exact Option.some.inj e
theorem curT_set (f:D→D) (k:Nat) (t:List D) (h:k < t.length):(curT f k t).set k (f t[k])=curT f (k+1) t:=by
 unfold curT
 have e:(t.drop k).set 0 (f t[k])=f t[k]::t.drop (k+1):=by
  have:=(List.getElem_cons_drop h).symm
  generalize t.drop k=x at *
  subst this
  rfl
 rw [List.take_succ_eq_append_getElem h,List.map_append,List.set_append_right _ _ (by simp;omega)]
 simp [Nat.min_eq_left (Nat.le_of_lt h),e]
def cur (f:D→D) (n k:Nat) (ll:List (List D)):List (List D):=ll.mapIdx fun i t=>if i < n then t.map f else if i=n then curT f k t else t
theorem cur_len (f:D→D) (n k:Nat) (ll:List (List D)):(cur f n k ll).length=ll.length:=by simp [cur]
theorem cur_zero (f:D→D) (ll:List (List D)):cur f 0 0 ll=ll:=by
 apply List.ext_getElem (cur_len _ _ _ _)
 intro i h1 h2
 simp only [cur,List.getElem_mapIdx,Nat.not_lt_zero,if_false,curT_zero,ite_self]
theorem cur_get (f:D→D) (n k:Nat) (ll:List (List D)) (h:n < ll.length) (h':n < (cur f n k ll).length):(cur f n k ll)[n]=curT f k ll[n]:=by
 simp [cur]
theorem cur_set (f:D→D) (n k:Nat) (ll:List (List D)) (h:n < ll.length) (hk:k < ll[n].length):(cur f n k ll).set n ((curT f k ll[n]).set k (f ll[n][k]))=cur f n (k+1) ll:=by
 rw [curT_set f k _ hk]
 apply List.ext_getElem (by simp [cur])
 intro i h1 h2
 by_cases e:n=i
 ·subst e;rw [List.getElem_set_self];simp [cur]
 ·rw [List.getElem_set_ne e]
  have e':¬ i=n:=fun h=>e h.symm
  simp only [cur,List.getElem_mapIdx,e',if_false]
theorem cur_next (f:D→D) (n k:Nat) (ll:List (List D)) (h:n < ll.length) (hk:ll[n].length≤k):cur f n k ll=cur f (n+1) 0 ll:=by
 apply List.ext_getElem (by simp [cur])
 intro i h1 h2
 simp only [cur,List.getElem_mapIdx,curT_zero,ite_self]
 by_cases e:i < n
 ·rw [if_pos e,if_pos (by omega)]
 ·by_cases e2:i=n
  ·subst e2;rw [if_neg e,if_pos rfl,if_pos (by omega),curT_all f k _ hk]
  ·rw [if_neg e,if_neg e2,if_neg (by omega)]
theorem cur_all (f:D→D) (n k:Nat) (ll:List (List D)) (h:ll.length≤n):cur f n k ll=mapS f ll:=by
 apply List.ext_getElem (by simp [cur,mapS])
 intro i h1 h2
 have:i < ll.length:=by simpa [cur] using h1
 simp only [cur,mapS,List.getElem_mapIdx,List.getElem_map]
 rw [if_pos (by omega)]
end M
theorem flat_set0 (l:List M.D):∀ (k:Nat) (h:k < l.length) (d:M.D),d.p=l[k].p→d.v=l[k].v→(flat l).set (k * 3) (.int .i64 d.k)=flat (l.set k d):=by
 induction l with
 | nil=>intro k h;exact absurd h (Nat.not_lt_zero _)
 | cons x l ih =>
  intro k h d h1 h2
  cases k with
  | zero=>simp only [List.getElem_cons_zero] at h1 h2;simp [flat,h1,h2]
  | succ k=>rw [show (k+1) * 3=k * 3+3 from by omega];simpa [flat] using ih k (by simpa using h) d (by simpa using h1) (by simpa using h2)
theorem flat_set1 (l:List M.D):∀ (k:Nat) (h:k < l.length) (d:M.D),d.k=l[k].k→d.v=l[k].v→(flat l).set (k * 3+1) (.int .i64 d.p)=flat (l.set k d):=by
 induction l with
 | nil=>intro k h;exact absurd h (Nat.not_lt_zero _)
 | cons x l ih =>
  intro k h d h1 h2
  cases k with
  | zero=>simp only [List.getElem_cons_zero] at h1 h2;simp [flat,h1,h2]
  | succ k=>rw [show (k+1) * 3+1=k * 3+1+3 from by omega];simpa [flat] using ih k (by simpa using h) d (by simpa using h1) (by simpa using h2)
theorem flat_set2 (l:List M.D):∀ (k:Nat) (h:k < l.length) (d:M.D),d.k=l[k].k→d.p=l[k].p→(flat l).set (k * 3+2) (.int .i64 d.v)=flat (l.set k d):=by
 induction l with
 | nil=>intro k h;exact absurd h (Nat.not_lt_zero _)
 | cons x l ih =>
  intro k h d h1 h2
  cases k with
  | zero=>simp only [List.getElem_cons_zero] at h1 h2;simp [flat,h1,h2]
  | succ k=>rw [show (k+1) * 3+2=k * 3+2+3 from by omega];simpa [flat] using ih k (by simpa using h) d (by simpa using h1) (by simpa using h2)
def Chg (w w':World) (g off:Nat) (d d':M.D):Prop:=∃ q,(w'=w.drewN q∧d'=d)∨(w'=(w.drewN q).setCell ⟨g,off,none⟩ (.int .i64 d'.k)∧d'.p=d.p∧d'.v=d.v)∨(w'=(w.drewN q).setCell ⟨g,off+1,none⟩ (.int .i64 d'.p)∧d'.k=d.k∧d'.v=d.v)∨(w'=(w.drewN q).setCell ⟨g,off+2,none⟩ (.int .i64 d'.v)∧d'.k=d.k∧d'.p=d.p)
theorem drewN_below (w:World) (q:Nat):Below w.heap.size w (w.drewN q):=⟨rfl,rfl,rfl,Nat.le_refl _,fun _ _=>rfl⟩
theorem own_chg {w w':World} {B g n cap k:Nat} {l:List M.D} {d':M.D} (h:w.ownsRow B 56 3 (.slice (some ⟨g,0,none⟩) n cap) n (flat l)) (hk:k < l.length) (hc:Chg w w' g (k * 3) l[k] d') :
  w'.ownsRow B 56 3 (.slice (some ⟨g,0,none⟩) n cap) n (flat (l.set k d'))∧w.grownBy w' (some g):=by
 obtain ⟨q,hc⟩:=hc
 have hq:=ownsRow_below h (drewN_below w q)
 have gq:∀ W,(w.drewN q).grownBy W (some g)→w.grownBy W (some g):=fun W hg=>⟨hg.os,hg.tape,hg.output,hg.size,hg.block⟩
 rcases hc with ⟨rfl,rfl⟩ | ⟨rfl,h1,h2⟩ | ⟨rfl,h1,h2⟩ | ⟨rfl,h1,h2⟩
 ·exact ⟨by rw [List.set_getElem_self];exact hq,⟨rfl,rfl,rfl,Nat.le_refl _,fun _ _ _=>rfl⟩⟩
 ·obtain ⟨ho,hg⟩:=hq.stored (k * 3) (.int .i64 d'.k)
  rw [flat_set0 l k hk d' h1 h2] at ho
  exact ⟨ho,gq _ hg⟩
 ·obtain ⟨ho,hg⟩:=hq.stored (k * 3+1) (.int .i64 d'.p)
  rw [flat_set1 l k hk d' h1 h2] at ho
  exact ⟨ho,gq _ hg⟩
 ·obtain ⟨ho,hg⟩:=hq.stored (k * 3+2) (.int .i64 d'.v)
  rw [flat_set2 l k hk d' h1 h2] at ho
  exact ⟨ho,gq _ hg⟩
theorem Rdg.chg {w w':World} {B:Nat} {v:Value} {ll:List (List M.D)} {vs:List Value} {n k g m cap:Nat} {d':M.D} (h:Rdg w B v ll vs) (hn:n < ll.length) (hv:n < vs.length) (he:vs[n]=.slice (some ⟨g,0,none⟩) m cap) (hk:k < ll[n].length) (hc:Chg w w' g (k * 3) ll[n][k] d') :
  Rdg w' B v (ll.set n (ll[n].set k d')) vs∧w.grownBy w' (some g)∧B≤g:=by
 have hin:=h.b.inner n hn hv
 have hm:m=ll[n].length:=by
  rcases hin.2 with ⟨e,_⟩ | ⟨_,_,_,e,_⟩
  ·rw [he] at e;simp at e
  ·rw [he] at e;simp only [Value.slice.injEq] at e;exact e.2.1
 subst hm
 have hin':=hin
 rw [he] at hin'
 obtain ⟨ho,hg⟩:=own_chg hin' hk hc
 have hBg:B≤g:=own_ge hin' g rfl
 refine ⟨⟨⟨?_,by rw [List.length_set];exact h.b.len,fun i h1 h2=>?_⟩,h.ap⟩,hg,hBg⟩
 ·rw [List.length_set]
  refine h.b.outer.kept hg ?_
  rcases own_apart h.b.outer hin' (by decide) with e | e
  ·exact Or.inl e
  ·exact Or.inr e
 ·by_cases e:n=i
  ·subst e
   rw [List.getElem_set_self,he,List.length_set]
   exact ho
  ·rw [List.getElem_set_ne e]
   have h1':i < ll.length:=by simpa using h1
   refine (h.b.inner i h1' h2).kept hg ?_
   cases hb:vs[i].ownBlock with
   | none=>exact Or.inl rfl
   | some kk =>
    refine Or.inr fun e2=>?_
    have:=h.ap i n h2 hv (fun e3=>e e3.symm) kk hb
    rw [he] at this
    exact this (by simp only [Value.ownBlock];exact e2.symm)
theorem Rdg.outer_at {w:World} {B cv n:Nat} {av:Option Addr} {ll:List (List M.D)} {vs:List Value} (h:Rdg w B (.slice av ll.length cv) ll vs) (hn:n < ll.length):∃ gv,av=some ⟨gv,0,none⟩∧∃ hv:n < vs.length,w.cell? ⟨gv,n,none⟩=some vs[n]:=by
 have hv:n < vs.length:=by rw [h.b.len];exact hn
 rcases h.b.outer.2 with ⟨e,h0⟩ | ⟨g,cap,cur,e,hg,hh,r⟩
 ·omega
 ·simp only [Value.slice.injEq] at e
  obtain ⟨rfl,_,rfl⟩:=e
  have hc:=h.b.outer.cells (g:=g) rfl n vs[n] (List.getElem?_eq_getElem hv)
  rw [Go.WideShapes.add_plain,Nat.zero_add] at hc
  exact ⟨g,rfl,hv,hc⟩
theorem Rdg.inner_at {w:World} {B n:Nat} {v:Value} {ll:List (List M.D)} {vs:List Value} (h:Rdg w B v ll vs) (hn:n < ll.length) (hv:n < vs.length):∃ a' c',vs[n]=.slice a' ll[n].length c'∧(0 < ll[n].length→∃ g,a'=some ⟨g,0,none⟩∧B≤g∧Row w g 0 ll[n]∧∀ i,w.frozen? ⟨g,i,none⟩=false):=by
 have hin:=h.b.inner n hn hv
 rcases hin.2 with ⟨e,h0⟩ | ⟨g,cap,cur,e,hg,hh,r⟩
 ·exact ⟨none,0,by rw [e,h0],fun h=>by omega⟩
 ·refine ⟨_,cap,e,fun hpos=>⟨g,rfl,hg,?_,?_⟩⟩
  ·obtain ⟨a2,g2,c2,e2,hd,_⟩:=own_steps hin
   rw [e] at e2
   simp only [Value.slice.injEq] at e2
   obtain ⟨rfl,_,_⟩:=e2
   have:=hd.addr hpos
   simp at this
   rw [this];exact hd.row
  ·rw [e] at hin;exact fun i=>own_fzS hin i
end Go.Proofs.YtihfibjckkmmbaaGreat
namespace Go.Proofs.YtihfibjckkmmbaaGreat
open Go.RowKit
def M.turned {α:Type} (z:α) (row:List Int) (l:List α):List α:=if M.rowN row l.length then M.pick z row l else []
def Thx (w:World) (vs:List Value) (ll:List (List M.D)):Prop:=vs.length=ll.length∧∀ i (h1:i < ll.length) (h2:i < vs.length),∃ a' b' o' c',vs[i]=.slice a' ll[i].length c'∧DoS w a' b' o' ll[i]
theorem Thx.nil (w:World):Thx w [] []:=⟨rfl,fun _ h=>absurd h (Nat.not_lt_zero _)⟩
theorem Thx.below {w w':World} {vs:List Value} {ll:List (List M.D)} {B:Nat} (h:Thx w vs ll) (hb:Below B w w') (hB:w.heap.size≤B):Thx w' vs ll :=
 ⟨h.1,fun i h1 h2=>by obtain ⟨a',b',o',c',e,hd⟩:=h.2 i h1 h2;exact ⟨a',b',o',c',e,hd.below hb hB⟩⟩
theorem Thx.ss {w:World} {B:Nat} {v:Value} {vs:List Value} {ll:List (List M.D)} (h:Thx w vs ll) (ho:w.ownsRow B 53 1 v ll.length vs):∃ a g c,v=.slice a ll.length c∧DoSS w a g 0 ll:=by
 have hl:=h.1
 rcases ho.2 with ⟨hv,hn⟩ | ⟨g,cap,cur,hv,hg,hh,r⟩
 ·have:ll=[]:=List.length_eq_zero_iff.1 hn
  subst this
  exact ⟨none,0,0,hv,⟨fun h=>absurd h (Nat.lt_irrefl _),fun i hi=>absurd hi (Nat.not_lt_zero _)⟩⟩
 ·refine ⟨_,g,cap,hv,⟨fun _=>rfl,fun i hi=>?_⟩⟩
  have hc:=ho.cells (g:=g) (by rw [hv];rfl) i vs[i] (List.getElem?_eq_getElem (by omega))
  rw [Go.WideShapes.add_plain] at hc
  obtain ⟨a',b',o',c',e,hd⟩:=h.2 i hi (by omega)
  rw [e] at hc
  exact ⟨a',b',o',c',hc,hd⟩
theorem Tryz.infoTh:(Tryz.prog.info? 53).map (fun i=>(i.zero,i.size,i.bytes))=some (some (.slice none 0 0),1,24):=by kernel_rfl
end Go.Proofs.YtihfibjckkmmbaaGreat
namespace Go.Proofs.YtihfibjckkmmbaaGreat
open Go.RowKit
theorem takeD {P:Program} {md:Region.Mode} {ops:Array Oper} {Q:Exit→Act→World→Prop} {S:World→Prop} (i:Nat) {oi:Oper} (d:Option Tmp) (v:Value) {fuel:Nat} {listed:Array Bool} {a:Act} {w:World} (hS:S w) (hi:ops[i]?=some oi) (hd:oi.dst=d)
  (hs:Region.noSelect ops=true) (hf:Region.free md ops listed i=true) (hr:(Region.ready md ops listed).contains i=true)
  (hQ:∀ c a w,Q (.panic c) (a.put d v) w→Q (.panic c) a w) (hy:YieldsIf P ops S oi v a)
  (h:wpAnyH P md ops Q S fuel (listed.setIfInBounds i true) (a.put d v) w):wpAnyH P md ops Q S (fuel+1) listed a w:=by
 subst hd
 exact wpAnyH_take hi hs hf hr hQ hy hS h
theorem wpList_alloc_row {P:Program} {w:World} {ops:Array Oper} {rest:List Oper} {op:Oper} {a:Act} {Q:Exit→Act→World→Prop} (hgd:op.guard=none) (ty:TypeId) (ho:op.op=.alloc ty)
  (z:Array Value) (hz:∀ w,(zeroValue ty).run P w=.ok (.agg z) w)
  (h:wpList P ops Q rest (a.put op.dst (.pointer (some ⟨w.heap.size,0,none⟩))) (w.alloc (.cells z ty))):wpList P ops Q (op::rest) a w:=by
 refine wpList_plain hgd fun _ hK=>?_
 unfold Oper.wp execOp
 simp [ho,Instr.alloc,hz,newVar,Value.cells]
 exact hK _ _ h
theorem wpList_store_new {P:Program} {w:World} {ops:Array Oper} {rest:List Oper} {op:Oper} {a:Act} {Q:Exit→Act→World→Prop} (hgd:op.guard=none) (ty:TypeId) (x y:Operand) (ho:op.op=.store ty x y)
  (c c':Array Value) (hx:a.eval x=.pointer (some ⟨w.heap.size,0,none⟩)) (hy:a.eval y=.agg c') (hi:(P.info? ty).map (·.size)=some c'.size) (hs:c.size=c'.size) (h1:c'.all (·.oneCell')=true)
  (h:wpList P ops Q rest (a.put op.dst undef) (w.alloc (.cells c' ty))):wpList P ops Q (op::rest) a (w.alloc (.cells c ty)):=by
 refine wpList_plain hgd fun _ hK=>?_
 unfold Oper.wp execOp
 simp only [ho,hx,hy,Sem.run_bind,Sem.run_pure,Result.andThen_ok,run_storeAt_new (P:=P) w ty c c' hi hs h1]
 exact hK _ _ h
end Go.Proofs.YtihfibjckkmmbaaGreat
namespace Go.Proofs.YtihfibjckkmmbaaGreat
open Go.RowKit
theorem step_goV {P:Program} {ops:Array Oper} {o:Oper} {a:Act} {w:World} {K:Act→World→Prop} {Q:Exit→Act→World→Prop} {E:Prop}
  (hw:Region.wanted o (yielded ops a.tmps)=true) (d:Option Tmp) (hd:o.dst=d) (f:FuncId) (os:Array Operand) (ts:Array TypeId) (hop:o.op=Op.call { callee:=Callee.value (Operand.func f),args:=os,argTypes:=ts })
  (vals:Array Value) (hv:os.map a.eval=vals) (he:∀ args w,(callFunc f args).run P w=.ok (.enter f args) w) {R:Ending→World→Prop} (hc:Calls P f vals w R)
  (hK:∀ e w',R e w'→∃ v,e=.returned v∧K (a.put d v) w') :
  if Region.wanted o (yielded ops a.tmps)=true then Oper.wp P o a w K Q else E:=by
 subst hd
 rw [if_pos hw]
 subst hv
 have hr:(execOp a.eval o).run P w=.ok (.enter f (os.map a.eval)) w:=by
  simp [execOp,hop,resolve,invoke,Act.eval,Deferred.ofValue,he]
 unfold Oper.wp
 rw [hr,Oper.upon_enter]
 refine hc.mono fun e w' h=>?_
 obtain ⟨v,rfl,hk⟩:=hK e w' h
 exact hk
theorem run_append_nilT {P:Program} (w:World) (t ty e:TypeId) (i:TypeInfo) (ht:P.underlying t=some (.slice e)) (hi:P.info? e=some i) (a:Option Addr) (c:Nat) :
  (Builtin.append_ #[t,t] ty #[.slice none 0 0,.slice a 0 c]).run P w=.ok (.slice none 0 0) w:=by
 cases a
 ·simp [Builtin.append_,run_underlying ht,sizeOf,typeInfo,hi,Builtin.lenOf,Builtin.firstCells]
 ·simp [Builtin.append_,run_underlying ht,sizeOf,typeInfo,hi,Builtin.lenOf,Builtin.firstCells,loadCells,loadCellsFrom]
theorem wpList_append_nilT {P:Program} {w:World} {ops:Array Oper} {rest:List Oper} {o:Oper} {a:Act} {Q:Exit→Act→World→Prop} (hgd:o.guard=none) (s x:Operand) (t:TypeId)
  (ho:o.op=.call { callee:=.builtin .append,args:=#[s,x],argTypes:=#[t,t] }) (e:TypeId) (i:TypeInfo) (ht:P.underlying t=some (.slice e)) (hi:P.info? e=some i)
  (hs:a.eval s=.slice none 0 0) (b:Option Addr) (c:Nat) (hx:a.eval x=.slice b 0 c)
  (h:wpList P ops Q rest (a.put o.dst (.slice none 0 0)) w):wpList P ops Q (o::rest) a w:=by
 refine wpList_plain hgd fun K hK=>?_
 have hrun:=run_append_nilT (P:=P) w t o.type e i ht hi b c
 unfold Oper.wp
 simp [execOp,ho,resolve,invoke,builtin,hs,hx,hrun,Result.andThen]
 exact hK _ _ h
theorem own_slx {w:World} {B:Nat} {e:TypeId} {size:Nat} {v:Value} {n:Nat} {xs:List Value} (h:w.ownsRow B e size v n xs):∃ a c,v=.slice a n c:=by
 rcases h.2 with ⟨hv,h0⟩ | ⟨g,cap,cur,hv,_⟩
 ·exact ⟨none,0,by rw [hv,h0]⟩
 ·exact ⟨_,cap,hv⟩
end Go.Proofs.YtihfibjckkmmbaaGreat
namespace Go.Proofs.YtihfibjckkmmbaaGreat
open Go.RowKit
set_option maxHeartbeats 1000000 in
theorem newListD_any (a:Option Addr) (b o c:Nat) (l:List M.D) (w:World) (hl:l.length≤1048576) (h:DoS w a b o l) :
  Calls Tryz.prog 90 #[.slice a l.length c] w fun e w'=>∃ v,e=.returned v∧w'.ownsRow w.heap.size 56 3 v l.length (flat l)∧Below w.heap.size w w':=by
 obtain ⟨i0,hi,hz0,hz1,hz2⟩:=info_parts Tryz.info56
 rcases Nat.eq_zero_or_pos l.length with h0 | hpos
 ·have hl0:l=[]:=List.length_eq_zero_iff.1 h0
  subst hl0
  rw [List.length_nil]
  go_enter Tryz.func90,Tryz.ntmps90
  go_wp2_with (at_builtin;refine wpList_append_nilT rfl (.const (.slice none 0 0)) (.tmp 3) 53 rfl 56 i0 Tryz.underlying53 hi rfl a c rfl ?_)
  go_wp2_with fail
  go_ret
  exact ⟨_,rfl,World.ownsRow_nil _ _ _ _,Below.refl _ _⟩
 ·obtain ⟨rfl⟩:=h.addr hpos
  go_enter Tryz.func90,Tryz.ntmps90
  go_wp2_with (at_builtin;refine wpList_append_lies _ rfl (.const (.slice none 0 0)) (.tmp 3) 53 rfl w.heap.size 56 i0 _ 3 24 Tryz.underlying53 hi hz0 hz1 hz2 rfl (by decide) _ 0 [] rfl (World.ownsRow_nil _ _ _ _) ⟨b,o,none⟩ l.length c (flat l) rfl (flat_length l) (DoS.flat_cells h.row) (flat_one' l) hpos (by unfold maxLen;omega) (by omega) (Nat.le_refl _) w.heap.size rfl ?_)
  intro g cap w1 hown hg hat hlt
  have hb:Below w.heap.size w w1:=⟨hg.os,hg.tape,hg.output,hg.size,fun k hk=>hg.block k hk (fun e=>by simp [Value.ownBlock] at e)⟩
  have hown':w1.ownsRow w.heap.size 56 3 (.slice (some ⟨g,0,none⟩) l.length cap) l.length (flat l):=by simpa using hown
  go_wp2_with fail
  go_ret
  exact ⟨_,by first | rfl | simp,hown',hb⟩
set_option maxHeartbeats 4000000 in
set_option maxRecDepth 100000 in
set_option linter.unusedSimpArgs false in
theorem copyProg_any (a:Option Addr) (b o c:Nat) (ll:List (List M.D)) (w:World) (hl:ll.length≤1048576) (hls:∀ t∈ll,t.length≤1048576) (h:DoSS w a b o ll) :
  Calls Tryz.prog 55 #[.agg #[.slice a ll.length c]] w fun e w'=>∃ v,e=.returned (.agg #[v])∧(∃ vs,Rdg w' w.heap.size v ll vs)∧Below w.heap.size w w':=by
 obtain ⟨i0,hi,hz0,hz1,hz2⟩:=info_parts Tryz.info53
 go_enter Tryz.func55,Tryz.ntmps55
 go_wp2_with fail
 go_loopw [9] (fun s9 wr=>∃ (n:Nat) (v:Value) (vs:List Value),s9=.int .i64 n∧n≤ll.length∧Rdg wr (w.heap.size+3) v (ll.take n) vs∧Slot1 wr (w.heap.size+1+1) v∧Slot1 wr (w.heap.size+1) (.slice none 0 0)∧Below w.heap.size w wr) (fun s9 _=>ll.length - (intOf s9).toNat)
 case atStart =>
  refine ⟨0,.slice none 0 0,[],rfl,Nat.zero_le _,by simpa using Rdg.nil _ _,?_,?_,below3 _ _ _ _⟩
  ·have:=Slot1.new ((w.alloc (.cells #[.slice a ll.length c] 25)).alloc (.cells #[.slice none 0 0] 25)) (.slice none 0 0) 25
   rwa [World.size_alloc,World.size_alloc] at this
  ·have:=(Slot1.new (w.alloc (.cells #[.slice a ll.length c] 25)) (.slice none 0 0) 25).bl' (below1 _ (.cells #[.slice none 0 0] 25))
   rwa [World.size_alloc] at this
 case round =>
  obtain ⟨n,v,vs,rfl,hn,hR,hP,hQ,hbel⟩:=hrel
  by_cases hlt:n < ll.length
  ·obtain ⟨rfl⟩:=h.addr (by omega)
   obtain ⟨a',b',o',c',hc,hd⟩:=(h.below hbel (Nat.le_refl _)).row n hlt
   have ht:=hls _ (List.getElem_mem hlt)
   have HW:Hid (ll.take (n+1)=ll.take n++[ll[n]]):=List.take_succ_eq_append_getElem hlt
   have hmm:(ll.take n).length≤1048576:=by simp;omega
   generalize ll[n]=t at *
   generalize ll.take n=mm at *
   have i1:(n:Int) < ll.length:=by omega
   obtain ⟨av,gv,cv,rfl,_⟩:=hR.b.ss
   have x0:=hP.c
   have lP:=hP.lt
   have F4:Hid (∀ (w4:World) (v4:Value),w4.ownsRow wr.heap.size 56 3 v4 t.length (flat t)→Below wr.heap.size wr.drew w4→∃ a4 c4,v4=.slice a4 t.length c4∧Below wr.heap.size wr w4∧Slot1 w4 (w.heap.size+1+1) (.slice av mm.length cv)∧Rdg w4 (w.heap.size+3) (.slice av mm.length cv) mm vs):=by
    intro w4 v4 ho hb
    obtain ⟨a4,c4,e⟩:=own_slx ho
    have b4:Below wr.heap.size wr w4:=(Below.refl _ _).drew.trans hb
    exact ⟨a4,c4,e,b4,hP.bl' b4,hR.below b4⟩
   have F5:Hid (∀ (w4:World) (a4:Option Addr) (c4:Nat),Below wr.heap.size wr w4→w4.ownsRow wr.heap.size 56 3 (.slice a4 t.length c4) t.length (flat t)→∀ (g5 cap5:Nat) (w5:World),w5.ownsRow (w.heap.size+3) 53 1 (.slice (some ⟨g5,0,none⟩) (mm.length+1) cap5) (mm.length+1) (vs++[.slice a4 t.length c4])→(w4.alloc (.cells #[.slice a4 t.length c4] 53)).grownBy w5 (Value.slice av mm.length cv).ownBlock→Below w.heap.size w w5∧Slot1 w5 (w.heap.size+1+1) (.slice av mm.length cv)∧Slot1 w5 (w.heap.size+1) (.slice none 0 0)∧Rdg w5 (w.heap.size+3) (.slice (some ⟨g5,0,none⟩) (mm.length+1) cap5) (mm++[t]) (vs++[.slice a4 t.length c4])):=by
    intro w4 a4 c4 b4 hx4 g5 cap5 w5 ho hg
    have hal:=below1 w4 (.cells #[.slice a4 t.length c4] 53)
    have hge:=own_ge hR.b.outer
    have b4a:=b4.trans (hal.mono b4.size)
    have bwa:=hbel.trans (b4a.mono hbel.size)
    refine ⟨below_grown bwa hg (fun j hj=>by have:=hge j hj;omega) bwa.size,(hP.bl' b4a).apart hg (fun e=>by have:=hge _ e;omega),(hQ.bl' b4a).apart hg (fun e=>by have:=hge _ e;omega),((hR.below b4).below hal).snocT (ownsRow_mono (ownsRow_below hx4 hal) (by omega)) (fun i hi j hj e=>?_) ho hg⟩
    have h1:=((hR.b.inner i (by have:=hR.b.len;omega) hi).lt j hj).2
    have h2:=own_ge hx4 j e
    omega
   have CN:=newListD_any a' b' o' c' t wr.drew ht (hd.below (Below.refl wr.heap.size wr).drew (Nat.le_refl _))
   go_wp2_with fail
   refine wp_region_held_drew (S:=fun w'=>Below w.heap.size w w') (by kernel_rfl) hbel.drew (fun hH=>?_)
   refine takeD 0 (some 13) (.pointer (some ⟨w.heap.size+1+1,0,none⟩)) hH rfl rfl (by kernel_rfl) (by kernel_rfl) (by kernel_rfl) (fun _ _ _ h=>h) (Or.inl ⟨by rfl,by intro w' hSw;go_simp⟩) ?_
   simp only [Act.put,List.setIfInBounds_toArray,List.set_cons_zero,List.set_cons_succ]
   refine takeD 2 (some 15) (.slice a' t.length c') hH rfl rfl (by kernel_rfl) (by kernel_rfl) (by kernel_rfl) (fun _ _ _ h=>h) (Or.inl ⟨by rfl,by intro w' hSw;go_simp⟩) ?_
   simp only [Act.put,List.setIfInBounds_toArray,List.set_cons_zero,List.set_cons_succ]
   refine wpAnyH_ready (rs:=[1,3]) (by kernel_rfl) (by simp) ?_
   refine AllReadyH.cons rfl (fun K' hK=>?_) (AllReadyH.cons rfl (fun K' hK=>?_) AllReadyH.nil)
   ·have xx:=x0
    rw [if_pos (by rfl)]
    go_simp
    refine hK.out _ _ hH (fun _=>?_)
    clear hK K' xx
    refine wpAnyH_ready (rs:=[3]) (by kernel_rfl) (by simp) ?_
    refine AllReadyH.cons rfl (fun K' hK=>?_) AllReadyH.nil
    refine step_goV (by rfl) (some 16) rfl 90 #[.tmp 15] _ rfl #[.slice a' t.length c'] (by simp [Act.eval]) (fun _ _=>rfl) CN ?_
    rintro e w4 ⟨v4,rfl,ho4,hb4⟩
    obtain ⟨a4,c4,rfl,b4,hS4,hR4⟩:=F4.out w4 v4 ho4 hb4
    refine ⟨_,rfl,?_⟩
    simp only [Act.put,List.setIfInBounds_toArray,List.set_cons_zero,List.set_cons_succ]
    refine hK.out _ _ (hbel.trans (b4.mono hbel.size)) (fun hH4=>?_)
    clear hK K'
    have hS4a:=hS4.bl' (below1 w4 (.cells #[.slice a4 t.length c4] 53))
    have S4a:Below w.heap.size w (w4.alloc (.cells #[.slice a4 t.length c4] 53)):=hH4.alloc hH4.size _
    refine wpAnyH_ready (rs:=[4]) (by kernel_rfl) (by simp) ?_
    refine AllReadyH.cons rfl (fun K' hK=>?_) AllReadyH.nil
    rw [if_pos (by rfl)]
    go_simp
    refine hK.out _ _ S4a (fun _=>?_)
    clear hK K'
    refine wpAnyH_ready (rs:=[5]) (by kernel_rfl) (by simp) ?_
    refine AllReadyH.cons rfl (fun K' hK=>?_) AllReadyH.nil
    refine step_append_lies _ (by rfl) (.tmp 14) (.tmp 17) 23 (by rfl) (w.heap.size+3) 53 i0 _ 1 24 Tryz.underlying23 hi hz0 hz1 hz2 rfl (by decide) (.slice av mm.length cv) mm.length vs (by rfl) ((hR4.b.outer).alloc _) ⟨w4.heap.size,0,none⟩ 1 1 [.slice a4 t.length c4] (by rfl) (by rfl) (World.news_of_block (cs:=#[.slice a4 t.length c4]) (t:=53) (fr:=(0,0)) (heap_alloc_new w4 _)) (by simp [Value.oneCell']) (by omega) (by unfold maxLen;omega) (by omega) (by have:=b4.size;simp;omega) (w4.heap.size+1) (by simp) ?_
    intro g5 cap5 w5 hown5 hg5 hat5 hlt5
    obtain ⟨b5,hS5,hQ5,hR5⟩:=F5.out w4 a4 c4 b4 ho4 g5 cap5 w5 hown5 hg5
    simp only [Act.put,List.setIfInBounds_toArray,List.set_cons_zero,List.set_cons_succ]
    refine hK.out _ _ b5 (fun hH5=>?_)
    clear hK K'
    refine takeD 6 (some 19) (.pointer (some ⟨w.heap.size+1+1,0,none⟩)) hH5 rfl rfl (by kernel_rfl) (by kernel_rfl) (by kernel_rfl) (fun _ _ _ h=>h) (Or.inl ⟨by rfl,by intro w' hSw;go_simp⟩) ?_
    simp only [Act.put,List.setIfInBounds_toArray,List.set_cons_zero,List.set_cons_succ]
    refine wpAnyH_ready (rs:=[7]) (by kernel_rfl) (by simp) ?_
    refine AllReadyH.cons rfl (fun K' hK=>?_) AllReadyH.nil
    have xc:=hS5.c
    have xz:=hS5.fz
    rw [if_pos (by rfl)]
    go_simp
    refine hK.out _ _ (b5.setCell (by show w.heap.size≤w.heap.size+1+1;omega) _) (fun _=>?_)
    clear hK K'
    refine wpAnyH_done (by kernel_rfl) ?_ _
    clear xc xz
    go_wp2_with fail
    exact ⟨⟨n+1,_,_,by go_num,by omega,by rw [HW.out];exact hR5.far (by omega) _,hS5.set _,hQ5.far (by omega) _,b5.setCell (by show w.heap.size≤w.heap.size+1+1;omega) _⟩,by simp [intOf];omega⟩
   ·refine step_goV (by rfl) (some 16) rfl 90 #[.tmp 15] _ rfl #[.slice a' t.length c'] (by simp [Act.eval]) (fun _ _=>rfl) CN ?_
    rintro e w4 ⟨v4,rfl,ho4,hb4⟩
    obtain ⟨a4,c4,rfl,b4,hS4,hR4⟩:=F4.out w4 v4 ho4 hb4
    refine ⟨_,rfl,?_⟩
    simp only [Act.put,List.setIfInBounds_toArray,List.set_cons_zero,List.set_cons_succ]
    refine hK.out _ _ (hbel.trans (b4.mono hbel.size)) (fun hH4=>?_)
    clear hK K'
    have hS4a:=hS4.bl' (below1 w4 (.cells #[.slice a4 t.length c4] 53))
    have S4a:Below w.heap.size w (w4.alloc (.cells #[.slice a4 t.length c4] 53)):=hH4.alloc hH4.size _
    refine wpAnyH_ready (rs:=[1,4]) (by kernel_rfl) (by simp) ?_
    refine AllReadyH.cons rfl (fun K' hK=>?_) (AllReadyH.cons rfl (fun K' hK=>?_) AllReadyH.nil)
    ·have xx:=hS4.c
     rw [if_pos (by rfl)]
     go_simp
     refine hK.out _ _ hH4 (fun _=>?_)
     clear hK K' xx
     refine wpAnyH_ready (rs:=[4]) (by kernel_rfl) (by simp) ?_
     refine AllReadyH.cons rfl (fun K' hK=>?_) AllReadyH.nil
     rw [if_pos (by rfl)]
     go_simp
     refine hK.out _ _ S4a (fun _=>?_)
     clear hK K'
     refine wpAnyH_ready (rs:=[5]) (by kernel_rfl) (by simp) ?_
     refine AllReadyH.cons rfl (fun K' hK=>?_) AllReadyH.nil
     refine step_append_lies _ (by rfl) (.tmp 14) (.tmp 17) 23 (by rfl) (w.heap.size+3) 53 i0 _ 1 24 Tryz.underlying23 hi hz0 hz1 hz2 rfl (by decide) (.slice av mm.length cv) mm.length vs (by rfl) ((hR4.b.outer).alloc _) ⟨w4.heap.size,0,none⟩ 1 1 [.slice a4 t.length c4] (by rfl) (by rfl) (World.news_of_block (cs:=#[.slice a4 t.length c4]) (t:=53) (fr:=(0,0)) (heap_alloc_new w4 _)) (by simp [Value.oneCell']) (by omega) (by unfold maxLen;omega) (by omega) (by have:=b4.size;simp;omega) (w4.heap.size+1) (by simp) ?_
     intro g5 cap5 w5 hown5 hg5 hat5 hlt5
     obtain ⟨b5,hS5,hQ5,hR5⟩:=F5.out w4 a4 c4 b4 ho4 g5 cap5 w5 hown5 hg5
     simp only [Act.put,List.setIfInBounds_toArray,List.set_cons_zero,List.set_cons_succ]
     refine hK.out _ _ b5 (fun hH5=>?_)
     clear hK K'
     refine takeD 6 (some 19) (.pointer (some ⟨w.heap.size+1+1,0,none⟩)) hH5 rfl rfl (by kernel_rfl) (by kernel_rfl) (by kernel_rfl) (fun _ _ _ h=>h) (Or.inl ⟨by rfl,by intro w' hSw;go_simp⟩) ?_
     simp only [Act.put,List.setIfInBounds_toArray,List.set_cons_zero,List.set_cons_succ]
     refine wpAnyH_ready (rs:=[7]) (by kernel_rfl) (by simp) ?_
     refine AllReadyH.cons rfl (fun K' hK=>?_) AllReadyH.nil
     have xc:=hS5.c
     have xz:=hS5.fz
     rw [if_pos (by rfl)]
     go_simp
     refine hK.out _ _ (b5.setCell (by show w.heap.size≤w.heap.size+1+1;omega) _) (fun _=>?_)
     clear hK K'
     refine wpAnyH_done (by kernel_rfl) ?_ _
     clear xc xz
     go_wp2_with fail
     exact ⟨⟨n+1,_,_,by go_num,by omega,by rw [HW.out];exact hR5.far (by omega) _,hS5.set _,hQ5.far (by omega) _,b5.setCell (by show w.heap.size≤w.heap.size+1+1;omega) _⟩,by simp [intOf];omega⟩
    ·rw [if_pos (by rfl)]
     go_simp
     refine hK.out _ _ S4a (fun _=>?_)
     clear hK K'
     refine wpAnyH_ready (rs:=[1]) (by kernel_rfl) (by simp) ?_
     refine AllReadyH.cons rfl (fun K' hK=>?_) AllReadyH.nil
     have xx:=hS4a.c
     rw [if_pos (by rfl)]
     go_simp
     refine hK.out _ _ S4a (fun _=>?_)
     clear hK K' xx
     refine wpAnyH_ready (rs:=[5]) (by kernel_rfl) (by simp) ?_
     refine AllReadyH.cons rfl (fun K' hK=>?_) AllReadyH.nil
     refine step_append_lies _ (by rfl) (.tmp 14) (.tmp 17) 23 (by rfl) (w.heap.size+3) 53 i0 _ 1 24 Tryz.underlying23 hi hz0 hz1 hz2 rfl (by decide) (.slice av mm.length cv) mm.length vs (by rfl) ((hR4.b.outer).alloc _) ⟨w4.heap.size,0,none⟩ 1 1 [.slice a4 t.length c4] (by rfl) (by rfl) (World.news_of_block (cs:=#[.slice a4 t.length c4]) (t:=53) (fr:=(0,0)) (heap_alloc_new w4 _)) (by simp [Value.oneCell']) (by omega) (by unfold maxLen;omega) (by omega) (by have:=b4.size;simp;omega) (w4.heap.size+1) (by simp) ?_
     intro g5 cap5 w5 hown5 hg5 hat5 hlt5
     obtain ⟨b5,hS5,hQ5,hR5⟩:=F5.out w4 a4 c4 b4 ho4 g5 cap5 w5 hown5 hg5
     simp only [Act.put,List.setIfInBounds_toArray,List.set_cons_zero,List.set_cons_succ]
     refine hK.out _ _ b5 (fun hH5=>?_)
     clear hK K'
     refine takeD 6 (some 19) (.pointer (some ⟨w.heap.size+1+1,0,none⟩)) hH5 rfl rfl (by kernel_rfl) (by kernel_rfl) (by kernel_rfl) (fun _ _ _ h=>h) (Or.inl ⟨by rfl,by intro w' hSw;go_simp⟩) ?_
     simp only [Act.put,List.setIfInBounds_toArray,List.set_cons_zero,List.set_cons_succ]
     refine wpAnyH_ready (rs:=[7]) (by kernel_rfl) (by simp) ?_
     refine AllReadyH.cons rfl (fun K' hK=>?_) AllReadyH.nil
     have xc:=hS5.c
     have xz:=hS5.fz
     rw [if_pos (by rfl)]
     go_simp
     refine hK.out _ _ (b5.setCell (by show w.heap.size≤w.heap.size+1+1;omega) _) (fun _=>?_)
     clear hK K'
     refine wpAnyH_done (by kernel_rfl) ?_ _
     clear xc xz
     go_wp2_with fail
     exact ⟨⟨n+1,_,_,by go_num,by omega,by rw [HW.out];exact hR5.far (by omega) _,hS5.set _,hQ5.far (by omega) _,b5.setCell (by show w.heap.size≤w.heap.size+1+1;omega) _⟩,by simp [intOf];omega⟩
  ·have htk:ll.take n=ll:=List.take_of_length_le (by omega)
   rw [htk] at hR
   obtain ⟨av,gv,cv,rfl,_⟩:=hR.b.ss
   have hkn':¬ (n:Int) < ll.length:=by omega
   have p0:=hP.c
   have pf:=hP.fz
   have q0:=hQ.c
   have qf:=hQ.fz
   have lP:=hP.lt
   have lQ:=hQ.lt
   have hne:w.heap.size+1≠w.heap.size+1+1:=by omega
   go_wp2_with fail
   have q1:=(hQ.set (.slice av ll.length cv)).c
   exact bodyPost_ret (v:=.agg #[.slice av ll.length cv]) (by simp [results,Tryz.results55,go_sem,q1]) rfl ⟨_,rfl,⟨vs,(hR.far (by omega) _).mono (by omega)⟩,hbel.setCell (by show w.heap.size≤w.heap.size+1;omega) _⟩
end Go.Proofs.YtihfibjckkmmbaaGreat
namespace Go.Proofs.YtihfibjckkmmbaaGreat
open Go.RowKit
theorem Rdg.step {w w':World} {B n k g m cap:Nat} {v:Value} {f:M.D→M.D} {ll:List (List M.D)} {vs:List Value} (h:Rdg w B v (M.cur f n k ll) vs) (hn:n < ll.length) (hk:k < ll[n].length) (hv:n < vs.length) (he:vs[n]=.slice (some ⟨g,0,none⟩) m cap) (hc:Chg w w' g (k * 3) ll[n][k] (f ll[n][k])) :
  Rdg w' B v (M.cur f n (k+1) ll) vs∧w.grownBy w' (some g)∧B≤g:=by
 have hn':n < (M.cur f n k ll).length:=by rw [M.cur_len];exact hn
 have e:=M.cur_get f n k ll hn hn'
 have hk':k < ((M.cur f n k ll)[n]'hn').length:=by rw [e,M.curT_len];exact hk
 have e2:((M.cur f n k ll)[n]'hn')[k]'hk'=ll[n][k]:=by
  have key:∀ (l:List M.D) (h:k < l.length),l=M.curT f k ll[n]→l[k]=ll[n][k]:=by
   intro l h e;subst e;exact M.curT_get f k ll[n] hk h
  exact key _ hk' e
 have r:=h.chg hn' hv he hk' (by rw [e2];exact hc)
 rw [e,M.cur_set f n k ll hn hk] at r
 exact r
theorem Rdg.cur_at {w:World} {B n k:Nat} {v:Value} {f:M.D→M.D} {ll:List (List M.D)} {vs:List Value} (h:Rdg w B v (M.cur f n k ll) vs) (hn:n < ll.length) (hv:n < vs.length) :
  ∃ a' c',vs[n]=.slice a' ll[n].length c'∧∀ hk:k < ll[n].length,∃ g,a'=some ⟨g,0,none⟩∧B≤g∧DoAt w g (k * 3) ll[n][k]∧∀ i,w.frozen? ⟨g,i,none⟩=false:=by
 have hn':n < (M.cur f n k ll).length:=by rw [M.cur_len];exact hn
 have e:=M.cur_get f n k ll hn hn'
 obtain ⟨a',c',e1,h1⟩:=h.inner_at hn' hv
 rw [e,M.curT_len] at e1 h1
 refine ⟨a',c',e1,fun hk=>?_⟩
 obtain ⟨g,rfl,hB,hr,hf⟩:=h1 (by omega)
 have:=hr k (by rw [M.curT_len];exact hk)
 rw [Nat.zero_add,M.curT_get f k _ hk] at this
 exact ⟨g,rfl,hB,this,hf⟩
end Go.Proofs.YtihfibjckkmmbaaGreat
namespace Go.Proofs.YtihfibjckkmmbaaGreat
open Go.RowKit
theorem step_go {P:Program} {ops:Array Oper} {o:Oper} {a:Act} {w:World} {K:Act→World→Prop} {Q:Exit→Act→World→Prop} {E:Prop}
  (hg:o.guard=none) (f:FuncId) (os:Array Operand) (ts:Array TypeId) (hop:o.op=Op.call { callee:=Callee.value (Operand.func f),args:=os,argTypes:=ts })
  (vals:Array Value) (hv:os.map a.eval=vals) (he:∀ args w,(callFunc f args).run P w=.ok (.enter f args) w) {R:Ending→World→Prop} (hc:Calls P f vals w R)
  (hK:∀ e w',R e w'→∃ v,e=.returned v∧K (a.put o.dst v) w') :
  if Region.wanted o (yielded ops a.tmps)=true then Oper.wp P o a w K Q else E:=by
 have hw:Region.wanted o (yielded ops a.tmps)=true:=by simp [Region.wanted,hg]
 rw [if_pos hw]
 subst hv
 have hr:(execOp a.eval o).run P w=.ok (.enter f (os.map a.eval)) w:=by
  simp [execOp,hop,resolve,invoke,Act.eval,Deferred.ofValue,he]
 unfold Oper.wp
 rw [hr,Oper.upon_enter]
 refine hc.mono fun e w' h=>?_
 obtain ⟨v,rfl,hk⟩:=hK e w' h
 exact hk
theorem step_go3 {P:Program} {ops:Array Oper} {o:Oper} {a:Act} {w:World} {K:Act→World→Prop} {Q:Exit→Act→World→Prop} {E:Prop}
  (hg:o.guard=none) (f:FuncId) (x y z:Operand) (ts:Array TypeId) (hop:o.op=Op.call { callee:=Callee.value (Operand.func f),args:=#[x,y,z],argTypes:=ts })
  (vx vy vz:Value) (hx:a.eval x=vx) (hy:a.eval y=vy) (hz:a.eval z=vz) (he:∀ args w,(callFunc f args).run P w=.ok (.enter f args) w) {R:Ending→World→Prop} (hc:Calls P f #[vx,vy,vz] w R)
  (hK:∀ e w',R e w'→∃ v,e=.returned v∧K (a.put o.dst v) w') :
  if Region.wanted o (yielded ops a.tmps)=true then Oper.wp P o a w K Q else E :=
 step_go hg f #[x,y,z] ts hop #[vx,vy,vz] (by simp [hx,hy,hz]) he hc hK
end Go.Proofs.YtihfibjckkmmbaaGreat
namespace Go.Proofs.YtihfibjckkmmbaaGreat
open Go.RowKit
theorem grownBy_refl (w:World) (row:Option Nat):w.grownBy w row:=⟨rfl,rfl,rfl,Nat.le_refl _,fun _ _ _=>rfl⟩
end Go.Proofs.YtihfibjckkmmbaaGreat
namespace Go.Proofs.YtihfibjckkmmbaaGreat
open Go.RowKit
structure PBox (w:World) (b:Nat) (x:Value):Prop where
 s:Slot1 w b x
 ty:∃ cur,w.heap[b]?=some (.cells cur 25 (0,0))
theorem PBox.new (w:World) (x:Value):PBox (w.alloc (.cells #[x] 25)) w.heap.size x:=⟨Slot1.new _ _ _,_,heap_alloc_new w _⟩
theorem PBox.but {w w':World} {b rb:Nat} {x:Value} (h:PBox w b x) (hb:But rb w w') (hne:b≠rb):PBox w' b x:=by
 obtain ⟨cur,hc⟩:=h.ty
 exact ⟨h.s.but hb hne,cur,(hb.block b h.s.lt hne).trans hc⟩
theorem PBox.below {w w':World} {b:Nat} {x:Value} (h:PBox w b x) (hb:Below w.heap.size w w'):PBox w' b x:=by
 obtain ⟨cur,hc⟩:=h.ty
 exact ⟨h.s.bl' hb,cur,(hb.block b h.s.lt).trans hc⟩
theorem PBox.grown {w w':World} {b:Nat} {x:Value} {row:Option Nat} (h:PBox w b x) (hg:w.grownBy w' row) (hr:row≠some b):PBox w' b x:=by
 obtain ⟨cur,hc⟩:=h.ty
 exact ⟨h.s.apart hg hr,cur,(hg.block b h.s.lt (fun e=>hr e.symm)).trans hc⟩
theorem PBox.set {w:World} {b:Nat} {x:Value} (h:PBox w b x) (u:Value):PBox (w.setCell ⟨b,0,none⟩ u) b u:=by
 obtain ⟨cur,hc⟩:=h.ty
 exact ⟨h.s.set u,_,heap_setCell_same w b 0 cur 25 u hc⟩
theorem PBox.ne {w:World} {b B n size:Nat} {x v:Value} {e:TypeId} {xs:List Value} (h:PBox w b x) (ho:w.ownsRow B e size v n xs) (he:e≠25):v.ownBlock≠some b:=by
 intro hb
 obtain ⟨cur,hc⟩:=h.ty
 rcases ho.2 with ⟨hv,_⟩ | ⟨g,cap,cu,hv,_,hh,_⟩
 ·rw [hv] at hb;simp [Value.ownBlock] at hb
 ·rw [hv] at hb
  simp [Value.ownBlock] at hb
  subst hb
  rw [hc] at hh
  simp at hh
  exact he hh.2.symm
theorem Rdg.box {w:World} {B b:Nat} {v x:Value} {ll:List (List M.D)} {vs:List Value} (h:Rdg w B v ll vs) (hp:PBox w b x) (u:Value):Rdg (w.setCell ⟨b,0,none⟩ u) B v ll vs :=
 ⟨⟨ownsRow_setCell_other h.b.outer (a:=⟨b,0,none⟩) (hp.ne h.b.outer (by decide)) u,h.b.len,fun i h1 h2=>ownsRow_setCell_other (h.b.inner i h1 h2) (a:=⟨b,0,none⟩) (hp.ne (h.b.inner i h1 h2) (by decide)) u⟩,h.ap⟩
theorem Rdg.but {w w':World} {B rb:Nat} {v:Value} {ll:List (List M.D)} {vs:List Value} (h:Rdg w B v ll vs) (hb:But rb w w') (hr:rb < B):Rdg w' B v ll vs:=⟨h.b.but hb hr,h.ap⟩
theorem Rdg.lit (w:World) (B:Nat) (x:Value) (l:List M.D) (hx:w.ownsRow B 56 3 x l.length (flat l)) (hB:B≤w.heap.size):Rdg (w.alloc (.cells #[x] 53)) B (.slice (some ⟨w.heap.size,0,none⟩) 1 1) [l] [x]:=by
 refine ⟨⟨World.ownsRow_lit w #[x] 1 hB (by decide) rfl,rfl,fun i h1 h2=>?_⟩,fun i j hi hj hne=>?_⟩
 ·obtain rfl:i=0:=by simp at h1;omega
  exact hx.alloc _
 ·simp at hi hj;omega
theorem wrap_eq64 (x:Int):IntKind.i64.wrap x=wrap64 x:=by first | rfl | (rw [IntKind.wrap_i64];first | rfl | (unfold wrap64;omega))
def M.incF (d:M.D):M.D:=if M.uses d.k then ⟨d.k,wrap64 (d.p+1),d.v⟩ else d
theorem Rdg.sn {w:World} {B:Nat} {v:Value} {ll:List (List M.D)} {vs:List Value} (h:Rdg w B v ll vs):∃ a g c,v=.slice a ll.length c∧DoSN B w a g 0 ll:=h.b.sn
structure TbDrawn (w w':World) (a:Option Addr) (g:Nat) (mm:List (List M.D)) (a2:Option Addr) (g2:Nat) (nn:List (List M.D)):Prop where
 p:DoSS w' a g 0 mm
 q:DoSS w' a2 g2 0 nn
 ml:mm.length≤3
 nl:nn.length≤3
 ms:∀ t∈mm,t.length≤20
 ns:∀ t∈nn,t.length≤20
 bel:Below w.heap.size w w'
end Go.Proofs.YtihfibjckkmmbaaGreat
namespace Go.Proofs.YtihfibjckkmmbaaGreat
open Go.RowKit
set_option maxHeartbeats 400000 in
theorem l6Open_any (ca:Option Addr) (cb co L C:Nat) (x:Nat→Int) (w:World) (hL:L≤C) (had:0 < L→ca=some ⟨cb,co,none⟩) (hc:∀ i,i < L→w.cell? ⟨cb,co+i,none⟩=some (.int .u8 (x i))∧0≤x i∧x i≤255) (hLb:L≤1048576) :
  Calls Tryz.prog 29 #[.slice ca L C] w fun e w'=>e=.returned (.pointer (some ⟨w.heap.size,0,none⟩))∧Rdr w' w.heap.size w.heap.size 0∧Below w.heap.size w w':=by
 by_cases h2:L≤2000
 ·have h2':¬ (2000:Int) < L:=by omega
  go_enter Tryz.func29,Tryz.ntmps29
  go_wp2_with fail
  go_ret
  refine ⟨rfl,⟨ca,cb,co,L,C,x,by simp,by simp,by simp,had,h2,fun i hi=>⟨?_,(hc i hi).2⟩,fun h0=>World.block_lt_of_cell? _ _ (hc 0 h0).1,Nat.le_refl _⟩,below1 _ _⟩
  rw [World.cell?_alloc_past _ _ _ (World.block_lt_of_cell? _ _ (hc i hi).1)]
  exact (hc i hi).1
 ·have h2':(2000:Int) < L:=by omega
  obtain ⟨rfl⟩:=had (by omega)
  go_enter Tryz.func29,Tryz.ntmps29
  go_wp2_with fail
  go_ret
  refine ⟨rfl,⟨_,cb,co,2000,C,x,by simp,by simp,by simp,fun _=>rfl,by omega,fun i hi=>⟨?_,(hc i (by omega)).2⟩,fun h0=>World.block_lt_of_cell? _ _ (hc 0 (by omega)).1,Nat.le_refl _⟩,below1 _ _⟩
  rw [World.cell?_alloc_past _ _ _ (World.block_lt_of_cell? _ _ (hc i (by omega)).1)]
  exact (hc i (by omega)).1
end Go.Proofs.YtihfibjckkmmbaaGreat
