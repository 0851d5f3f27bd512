/- A call of a Go function, met by its contract, as one step of a region that draws its order. No condition. And what goes with it: StepGo, DrPb, DoSN, RowMore, MathN, Front0, OpenBy. -/
import Derived.Deep.RegionLaw
import Derived.Shelf.Abstract
import Derived.Deep.RegionHeld3
import Derived.Deep.AppendLies
import Derived.Test.YtjjkicffhpcngaaGreatRows
import Derived.ProofKit
import Derived.Deep.Slices
import Derived.ChangeSlices
import Derived.OpenShut
import Derived.Test.YtjjkicffhpcngaaGreatBWai
namespace Go.Proofs.YtjjkicffhpcngaaGreat
open Go.RowKit
theorem step_go {P:Program} {ops:Array Oper} {o:Oper} {a:Act} {w:World} {K:Act→World→Prop} {Q:Exit→Act→World→Prop} {E:Prop}
  (hg:o.guard=none) (f:FuncId) (os:Array Operand) (ts:Array TypeId) (hop:o.op=Op.call { callee:=Callee.value (Operand.func f),args:=os,argTypes:=ts })
  (vals:Array Value) (hv:os.map a.eval=vals) (he:∀ args w,(callFunc f args).run P w=.ok (.enter f args) w) {R:Ending→World→Prop} (hc:Calls P f vals w R)
  (hK:∀ e w',R e w'→∃ v,e=.returned v∧K (a.put o.dst v) w') :
  if Region.wanted o (yielded ops a.tmps)=true then Oper.wp P o a w K Q else E:=by
 have hw:Region.wanted o (yielded ops a.tmps)=true:=by simp [Region.wanted,hg]
 rw [if_pos hw]
 subst hv
 have hr:(execOp a.eval o).run P w=.ok (.enter f (os.map a.eval)) w:=by
  simp [execOp,hop,resolve,invoke,Act.eval,Deferred.ofValue,he]
 unfold Oper.wp
 rw [hr,Oper.upon_enter]
 refine hc.mono fun e w' h=>?_
 obtain ⟨v,rfl,hk⟩:=hK e w' h
 exact hk
theorem step_go2 {P:Program} {ops:Array Oper} {o:Oper} {a:Act} {w:World} {K:Act→World→Prop} {Q:Exit→Act→World→Prop} {E:Prop}
  (hg:o.guard=none) (f:FuncId) (x y:Operand) (ts:Array TypeId) (hop:o.op=Op.call { callee:=Callee.value (Operand.func f),args:=#[x,y],argTypes:=ts })
  (vx vy:Value) (hx:a.eval x=vx) (hy:a.eval y=vy) (he:∀ args w,(callFunc f args).run P w=.ok (.enter f args) w) {R:Ending→World→Prop} (hc:Calls P f #[vx,vy] w R)
  (hK:∀ e w',R e w'→∃ v,e=.returned v∧K (a.put o.dst v) w') :
  if Region.wanted o (yielded ops a.tmps)=true then Oper.wp P o a w K Q else E :=
 step_go hg f #[x,y] ts hop #[vx,vy] (by simp [hx,hy]) he hc hK
theorem step_go3 {P:Program} {ops:Array Oper} {o:Oper} {a:Act} {w:World} {K:Act→World→Prop} {Q:Exit→Act→World→Prop} {E:Prop}
  (hg:o.guard=none) (f:FuncId) (x y z:Operand) (ts:Array TypeId) (hop:o.op=Op.call { callee:=Callee.value (Operand.func f),args:=#[x,y,z],argTypes:=ts })
  (vx vy vz:Value) (hx:a.eval x=vx) (hy:a.eval y=vy) (hz:a.eval z=vz) (he:∀ args w,(callFunc f args).run P w=.ok (.enter f args) w) {R:Ending→World→Prop} (hc:Calls P f #[vx,vy,vz] w R)
  (hK:∀ e w',R e w'→∃ v,e=.returned v∧K (a.put o.dst v) w') :
  if Region.wanted o (yielded ops a.tmps)=true then Oper.wp P o a w K Q else E :=
 step_go hg f #[x,y,z] ts hop #[vx,vy,vz] (by simp [hx,hy,hz]) he hc hK
end Go.Proofs.YtjjkicffhpcngaaGreat
namespace Go.Proofs.YtjjkicffhpcngaaGreat
open Go.RowKit
theorem ownsRow_mono {w:World} {B B':Nat} {e:TypeId} {size:Nat} {v:Value} {n:Nat} {xs:List Value} (h:w.ownsRow B e size v n xs) (hB:B'≤B):w.ownsRow B' e size v n xs:=by
 obtain ⟨h1,h2⟩:=h
 refine ⟨h1,?_⟩
 rcases h2 with h2 | ⟨g,cap,cur,hv,hg,r⟩
 ·exact Or.inl h2
 ·exact Or.inr ⟨g,cap,cur,hv,Nat.le_trans hB hg,r⟩
theorem own_apart {w:World} {B B':Nat} {e e':TypeId} {size size':Nat} {v v':Value} {n n':Nat} {xs xs':List Value} (h:w.ownsRow B e size v n xs) (h':w.ownsRow B' e' size' v' n' xs') (he:e≠e'):v.ownBlock=none∨v.ownBlock≠v'.ownBlock:=by
 rcases h.2 with ⟨hv,_⟩ | ⟨g,cap,cur,hv,_,hh,_⟩
 ·exact Or.inl (by rw [hv];rfl)
 ·right
  rcases h'.2 with ⟨hv',_⟩ | ⟨g',cap',cur',hv',_,hh',_⟩
  ·rw [hv,hv'];simp [Value.ownBlock]
  ·rw [hv,hv']
   intro e2
   simp [Value.ownBlock] at e2
   rw [e2] at hh
   rw [hh] at hh'
   simp at hh'
   exact he hh'.2
structure Build (w:World) (B:Nat) (v:Value) (ll:List (List M.D)) (vs:List Value):Prop where
 outer:w.ownsRow B 41 1 v ll.length vs
 len:vs.length=ll.length
 inner:∀ i (h:i < ll.length) (h':i < vs.length),w.ownsRow B 43 3 vs[i] ll[i].length (flat ll[i])
theorem Build.but {w w':World} {B rb:Nat} {v:Value} {ll:List (List M.D)} {vs:List Value} (h:Build w B v ll vs) (hb:But rb w w') (hr:rb < B):Build w' B v ll vs :=
 ⟨ownsRow_but h.outer hb hr,h.len,fun i h1 h2=>ownsRow_but (h.inner i h1 h2) hb hr⟩
theorem Build.mono {w:World} {B B':Nat} {v:Value} {ll:List (List M.D)} {vs:List Value} (h:Build w B v ll vs) (hB:B'≤B):Build w B' v ll vs :=
 ⟨ownsRow_mono h.outer hB,h.len,fun i h1 h2=>ownsRow_mono (h.inner i h1 h2) hB⟩
theorem Build.nil (w:World) (B:Nat):Build w B (.slice none 0 0) [] []:=⟨World.ownsRow_nil _ _ _ _,rfl,fun _ h _=>absurd h (Nat.not_lt_zero _)⟩
theorem ownsRow_far {w:World} {B:Nat} {e:TypeId} {size:Nat} {v:Value} {n:Nat} {xs:List Value} (h:w.ownsRow B e size v n xs) {b i:Nat} (hb:b < B) (u:Value):(w.setCell ⟨b,i,none⟩ u).ownsRow B e size v n xs :=
 ownsRow_setCell_below h (a:=⟨b,i,none⟩) hb u
theorem Build.far {w:World} {B:Nat} {v:Value} {ll:List (List M.D)} {vs:List Value} (h:Build w B v ll vs) {b i:Nat} (hb:b < B) (u:Value):Build (w.setCell ⟨b,i,none⟩ u) B v ll vs :=
 ⟨ownsRow_far h.outer hb u,h.len,fun i h1 h2=>ownsRow_far (h.inner i h1 h2) hb u⟩
theorem Build.snoc {w w':World} {B:Nat} {v v' x:Value} {ll:List (List M.D)} {vs:List Value} {l:List M.D} (h:Build w B v ll vs) (hx:w.ownsRow B 43 3 x l.length (flat l))
  (ho:w'.ownsRow B 41 1 v' (ll.length+1) (vs++[x])) (hg:w.grownBy w' v.ownBlock):Build w' B v' (ll++[l]) (vs++[x]):=by
 have hl:=h.len
 refine ⟨by rw [List.length_append];exact ho,by simp [hl],fun i h1 h2=>?_⟩
 by_cases hi:i < ll.length
 ·rw [List.getElem_append_left hi,List.getElem_append_left (by omega)]
  exact (h.inner i hi (by omega)).kept hg (own_apart (h.inner i hi (by omega)) h.outer (by decide))
 ·have:i=ll.length:=by simp at h1;omega
  subst this
  have e1:(ll++[l])[ll.length]=l:=by simp
  have e2:(vs++[x])[ll.length]=x:=by
   rw [List.getElem_append_right (by omega)]
   simp [hl]
  rw [e1,e2]
  exact hx.kept hg (own_apart hx h.outer (by decide))
theorem Build.ss {w:World} {B:Nat} {v:Value} {ll:List (List M.D)} {vs:List Value} (h:Build w B v ll vs):∃ a g c,v=.slice a ll.length c∧DoSS w a g 0 ll:=by
 have hl:=h.len
 rcases h.outer.2 with ⟨hv,hn⟩ | ⟨g,cap,cur,hv,hg,hh,r⟩
 ·have:ll=[]:=List.length_eq_zero_iff.1 hn
  subst this
  exact ⟨none,0,0,hv,⟨fun h=>absurd h (Nat.lt_irrefl _),fun i hi=>absurd hi (Nat.not_lt_zero _)⟩⟩
 ·refine ⟨_,g,cap,hv,⟨fun _=>rfl,fun i hi=>?_⟩⟩
  have hc:=h.outer.cells (g:=g) (by rw [hv];rfl) i vs[i] (List.getElem?_eq_getElem (by omega))
  rw [Go.WideShapes.add_plain] at hc
  obtain ⟨a',g',c',e,hd,_⟩:=own_steps (h.inner i hi (by omega))
  rw [e] at hc
  exact ⟨a',g',0,c',hc,hd⟩
theorem Tryz.info41:(Tryz.prog.info? 41).map (fun i=>(i.zero,i.size,i.bytes))=some (some (.slice none 0 0),1,24):=by kernel_rfl
structure Slot1 (w:World) (b:Nat) (x:Value):Prop where
 c:w.cell? ⟨b,0,none⟩=some x
 fz:w.frozen? ⟨b,0,none⟩=false
theorem Slot1.lt {w:World} {b:Nat} {x:Value} (h:Slot1 w b x):b < w.heap.size:=World.block_lt_of_cell? _ _ h.c
theorem Slot1.but {w w':World} {b rb:Nat} {x:Value} (h:Slot1 w b x) (hb:But rb w w') (hne:b≠rb):Slot1 w' b x :=
 ⟨(hb.cell (p:=⟨b,0,none⟩) h.lt hne).trans h.c,(hb.frozen (p:=⟨b,0,none⟩) h.lt hne).trans h.fz⟩
theorem Slot1.new (w:World) (x:Value) (t:TypeId):Slot1 (w.alloc (.cells #[x] t)) w.heap.size x:=⟨by simp,by simp⟩
theorem Slot1.grown {w w':World} {b:Nat} {x:Value} {row:Option Nat} (h:Slot1 w b x) (hg:w.grownBy w' row) (hr:∀ k,row=some k→b < k):Slot1 w' b x:=by
 have hne:some b≠row:=fun e=>by have:=hr b e.symm;omega
 exact ⟨hg.cell h.c hne,(World.frozen?_of_block (w:=w) (hg.block b h.lt hne)).trans h.fz⟩
theorem Slot1.far {w:World} {b b' i:Nat} {x:Value} (h:Slot1 w b x) (hne:b'≠b) (u:Value):Slot1 (w.setCell ⟨b',i,none⟩ u) b x :=
 ⟨(World.cell?_setCell_other _ _ _ _ (fun e=>hne (congrArg Addr.block e))).trans h.c,by rw [World.frozen?_setCell];exact h.fz⟩
theorem Slot1.set {w:World} {b:Nat} {x:Value} (h:Slot1 w b x) (u:Value):Slot1 (w.setCell ⟨b,0,none⟩ u) b u :=
 ⟨World.cell?_setCell_same _ _ _ h.c,by rw [World.frozen?_setCell];exact h.fz⟩
def M.steps:List (List M.D)→Nat
 | []=>0
 | t::l=>t.length+M.steps l
theorem M.steps_step {l:List (List M.D)} {m n:Nat} {t:List M.D} (hp:M.steps l=m+M.steps (l.drop n)) (hd:l.drop n=t::l.drop (n+1)):M.steps l=(m+t.length)+M.steps (l.drop (n+1)):=by
 rw [hp,hd,M.steps];omega
theorem M.steps_fin {l:List (List M.D)} {m n:Nat} (hp:M.steps l=m+M.steps (l.drop n)) (hn:l.length≤n):m=M.steps l:=by
 rw [hp,List.drop_eq_nil_of_le hn];rfl
set_option maxHeartbeats 400000 in
theorem l71Steps_any (a:Option Addr) (b o c:Nat) (ll:List (List M.D)) (w:World) (hl:ll.length≤1000) (hls:∀ t∈ll,t.length≤1000) (h:DoSS w a b o ll) :
  Calls Tryz.prog 111 #[.agg #[.slice a ll.length c]] w fun e w'=>e=.returned (.int .i64 (M.steps ll))∧Below w.heap.size w w':=by
 go_enter Tryz.func111,Tryz.ntmps111
 go_wp2_with fail
 go_loopw [3,4] (fun s3 s4 wr=>∃ m n:Nat,s3=.int .i64 m∧s4=.int .i64 n∧n≤ll.length∧m≤1000 * n∧M.steps ll=m+M.steps (ll.drop n)∧wr=w.alloc (.cells #[.slice a ll.length c] 25)) (fun _ s4 _=>ll.length - (intOf s4).toNat)
 case atStart=>exact ⟨0,0,rfl,rfl,Nat.zero_le _,Nat.le_refl _,by simp,rfl⟩
 case round =>
  obtain ⟨m,n,rfl,rfl,hn,hm,hpass,rfl⟩:=hrel
  have HP:Hid (M.steps ll=m+M.steps (ll.drop n)):=hpass
  clear hpass
  by_cases hlt:n < ll.length
  ·obtain ⟨rfl⟩:=h.addr (by omega)
   obtain ⟨a',b',o',c',hc,hd⟩:=h.row n hlt
   have HD:Hid (ll.drop n=ll[n]::ll.drop (n+1)):=M.drop_at' ll n hlt
   have hlt':=hls _ (List.getElem_mem hlt)
   have hbl:=World.block_lt_of_cell? _ _ hc
   generalize ll[n]=t at hd hc HD hlt'
   go_wp2_with fail
   exact ⟨⟨m+t.length,n+1,by go_num,by go_num,by omega,by omega,M.steps_step HP.out HD.out,by first | rfl | trivial⟩,by simp [intOf];omega⟩
  ·go_wp2_with fail
   go_ret
   exact ⟨ret_int (by rw [M.steps_fin HP.out (by omega)]),below1 _ _⟩
end Go.Proofs.YtjjkicffhpcngaaGreat
namespace Go.Proofs.YtjjkicffhpcngaaGreat
open Go.RowKit
theorem DoS.far {w:World} {a:Option Addr} {b o B i:Nat} {l:List M.D} {u:Value} (h:DoS w a b o l) (hb:0 < l.length→b≠B):DoS (w.setCell ⟨B,i,none⟩ u) a b o l:=by
 refine ⟨h.addr,fun j hj=>?_⟩
 have hne:=hb (by omega)
 have hr:=h.row j hj
 exact ⟨(World.cell?_setCell_other _ _ _ _ (fun e=>hne (congrArg Addr.block e).symm)).trans hr.k,(World.cell?_setCell_other _ _ _ _ (fun e=>hne (congrArg Addr.block e).symm)).trans hr.p,(World.cell?_setCell_other _ _ _ _ (fun e=>hne (congrArg Addr.block e).symm)).trans hr.v⟩
theorem DoS.but {w w':World} {a:Option Addr} {rb b o:Nat} {l:List M.D} (h:DoS w a b o l) (hb:But rb w w') (hne:0 < l.length→b≠rb):DoS w' a b o l:=by
 refine ⟨h.addr,fun j hj=>?_⟩
 have hn:=hne (by omega)
 have hr:=h.row j hj
 have hl:=hr.lt
 exact ⟨(hb.cell (p:=⟨b,o+j * 3,none⟩) hl hn).trans hr.k,(hb.cell (p:=⟨b,o+j * 3+1,none⟩) hl hn).trans hr.p,(hb.cell (p:=⟨b,o+j * 3+2,none⟩) hl hn).trans hr.v⟩
theorem own_capS {w:World} {base n cap:Nat} {a:Option Addr} {e:TypeId} {size:Nat} {xs:List Value} (h:w.ownsRow base e size (.slice a n cap) n xs):n≤cap:=by
 rcases h.2 with ⟨hv,_⟩ | ⟨g',cap',cur,hv,_,_,hc,_⟩
 ·simp at hv;omega
 ·simp at hv
  obtain ⟨_,rfl⟩:=hv
  exact hc
theorem own_stepsC {w:World} {base:Nat} {v:Value} {l:List M.D} (h:w.ownsRow base 43 3 v l.length (flat l)):∃ a g c,v=.slice a l.length c∧DoS w a g 0 l∧(0 < l.length→base≤g)∧l.length≤c:=by
 obtain ⟨a,g,c,rfl,hd,hg⟩:=own_steps h
 exact ⟨a,g,c,rfl,hd,hg,own_capS h⟩
structure DoSN (N:Nat) (w:World) (a:Option Addr) (b o:Nat) (ll:List (List M.D)):Prop where
 addr:0 < ll.length→a=some ⟨b,o,none⟩
 ge:0 < ll.length→N≤b
 row:∀ i (h:i < ll.length),∃ a' b' o' c',w.cell? ⟨b,o+i,none⟩=some (.slice a' ll[i].length c')∧DoS w a' b' o' ll[i]∧(0 < ll[i].length→N≤b')∧ll[i].length≤c'
theorem DoSN.ss {N:Nat} {w:World} {a:Option Addr} {b o:Nat} {ll:List (List M.D)} (h:DoSN N w a b o ll):DoSS w a b o ll :=
 ⟨h.addr,fun i hi=>by obtain ⟨a',b',o',c',hc,hd,_,_⟩:=h.row i hi;exact ⟨a',b',o',c',hc,hd⟩⟩
theorem DoSN.far {N:Nat} {w:World} {a:Option Addr} {b o B i:Nat} {ll:List (List M.D)} {u:Value} (h:DoSN N w a b o ll) (hB:B < N):DoSN N (w.setCell ⟨B,i,none⟩ u) a b o ll:=by
 refine ⟨h.addr,h.ge,fun j hj=>?_⟩
 obtain ⟨a',b',o',c',hc,hd,hg,hq⟩:=h.row j hj
 have:=h.ge (by omega)
 exact ⟨a',b',o',c',(World.cell?_setCell_other _ _ _ _ (fun e=>by have:=congrArg Addr.block e;simp at this;omega)).trans hc,hd.far (fun hl=>by have:=hg hl;omega),hg,hq⟩
theorem DoSN.but {N:Nat} {w w':World} {a:Option Addr} {rb b o:Nat} {ll:List (List M.D)} (h:DoSN N w a b o ll) (hb:But rb w w') (hr:rb < N):DoSN N w' a b o ll:=by
 refine ⟨h.addr,h.ge,fun j hj=>?_⟩
 obtain ⟨a',b',o',c',hc,hd,hg,hq⟩:=h.row j hj
 have:=h.ge (by omega)
 exact ⟨a',b',o',c',(hb.cell (p:=⟨b,o+j,none⟩) (World.block_lt_of_cell? _ _ hc) (by show b≠rb;omega)).trans hc,hd.but hb (fun hl=>by have:=hg hl;omega),hg,hq⟩
theorem DoSN.mono {N N':Nat} {w:World} {a:Option Addr} {b o:Nat} {ll:List (List M.D)} (h:DoSN N w a b o ll) (hN:N'≤N):DoSN N' w a b o ll :=
 ⟨h.addr,fun hl=>Nat.le_trans hN (h.ge hl),fun i hi=>by obtain ⟨a',b',o',c',hc,hd,hg,hq⟩:=h.row i hi;exact ⟨a',b',o',c',hc,hd,fun hl=>Nat.le_trans hN (hg hl),hq⟩⟩
theorem own_capR {w:World} {base g n cap:Nat} {e:TypeId} {size:Nat} {xs:List Value} (h:w.ownsRow base e size (.slice (some ⟨g,0,none⟩) n cap) n xs):n≤cap:=by
 rcases h.2 with ⟨hv,_⟩ | ⟨g',cap',cur,hv,_,_,hc,_⟩
 ·simp at hv
 ·simp at hv
  obtain ⟨_,rfl⟩:=hv
  exact hc
theorem Build.cap {w:World} {B n c:Nat} {a:Option Addr} {ll:List (List M.D)} {vs:List Value} (h:Build w B (.slice a n c) ll vs):ll.length≤c:=by
 rcases h.outer.2 with ⟨hv,hn⟩ | ⟨g',cap',cur,hv,_,_,hc,_⟩
 ·omega
 ·simp at hv
  obtain ⟨_,_,rfl⟩:=hv
  exact hc
theorem Build.sn {w:World} {B:Nat} {v:Value} {ll:List (List M.D)} {vs:List Value} (h:Build w B v ll vs):∃ a g c,v=.slice a ll.length c∧DoSN B w a g 0 ll:=by
 have hl:=h.len
 rcases h.outer.2 with ⟨hv,hn⟩ | ⟨g,cap,cur,hv,hg,hh,r⟩
 ·have:ll=[]:=List.length_eq_zero_iff.1 hn
  subst this
  exact ⟨none,0,0,hv,⟨fun h=>absurd h (Nat.lt_irrefl _),fun h=>absurd h (Nat.lt_irrefl _),fun i hi=>absurd hi (Nat.not_lt_zero _)⟩⟩
 ·refine ⟨_,g,cap,hv,⟨fun _=>rfl,fun _=>hg,fun i hi=>?_⟩⟩
  have hc:=h.outer.cells (g:=g) (by rw [hv];rfl) i vs[i] (List.getElem?_eq_getElem (by omega))
  rw [Go.WideShapes.add_plain] at hc
  obtain ⟨a',g',c',e,hd,hge,hq⟩:=own_stepsC (h.inner i hi (by omega))
  rw [e] at hc
  exact ⟨a',g',0,c',hc,hd,hge,hq⟩
theorem set_sn {w:World} {B B' g n c:Nat} {v u:Value} {ll:List (List M.D)} {vs:List Value} {L:List M.D} {k:Nat} (hk:k < ll.length) (hB:Build w B' v ll vs) (ho:w.ownsRow B 41 1 (.slice (some ⟨g,0,none⟩) n c) n (vs.set k u)) (hu:w.ownsRow B 43 3 u L.length (flat L)) (hBB:B'≤B):DoSN B' w (some ⟨g,0,none⟩) g 0 (ll.set k L):=by
 have hl:=hB.len
 refine ⟨fun _=>rfl,fun _=>Nat.le_trans hBB (own_ge ho g rfl),fun i hi=>?_⟩
 have hi':i < ll.length:=by simpa using hi
 by_cases e:i=k
 ·subst e
  have hc:=ho.cells (g:=g) rfl i u (by rw [List.getElem?_set_self (by omega)])
  rw [Go.WideShapes.add_plain] at hc
  obtain ⟨a',g',c',e1,hd,hge,hq⟩:=own_stepsC hu
  rw [e1] at hc
  rw [List.getElem_set_self]
  exact ⟨a',g',0,c',hc,hd,fun h=>Nat.le_trans hBB (hge h),hq⟩
 ·have hc:=ho.cells (g:=g) rfl i vs[i] (by rw [List.getElem?_set_ne (fun h=>e h.symm)];exact List.getElem?_eq_getElem (by omega))
  rw [Go.WideShapes.add_plain] at hc
  obtain ⟨a',g',c',e1,hd,hge,hq⟩:=own_stepsC (hB.inner i hi' (by omega))
  rw [e1] at hc
  rw [List.getElem_set_ne (fun h=>e h.symm)]
  exact ⟨a',g',0,c',hc,hd,hge,hq⟩
end Go.Proofs.YtjjkicffhpcngaaGreat
namespace Go.Proofs.YtjjkicffhpcngaaGreat
open Go.RowKit
theorem Slot1.apart {w w':World} {b:Nat} {x:Value} {row:Option Nat} (h:Slot1 w b x) (hg:w.grownBy w' row) (hr:row≠some b):Slot1 w' b x:=by
 have hne:some b≠row:=fun e=>hr e.symm
 exact ⟨hg.cell h.c hne,(World.frozen?_of_block (w:=w) (hg.block b h.lt hne)).trans h.fz⟩
end Go.Proofs.YtjjkicffhpcngaaGreat
namespace Go.Proofs.YtjjkicffhpcngaaGreat
open Go.RowKit
theorem M.from_le {ll:List (List M.D)}:∀ {a u:Nat},M.progFrom a u ll=true→∀ t∈ll,t.length≤7:=by
 induction ll with
 | nil=>intro a u _ t ht;simp at ht
 | cons t l ih =>
  intro a u h t' ht'
  by_cases hb:M.thread t=true
  ·simp only [M.progFrom,hb,if_true] at h
   rcases List.mem_cons.1 ht' with rfl | hm
   ·exact M.thread_le hb
   ·exact ih h t' hm
  ·simp [M.progFrom,hb] at h
theorem M.prog_le {ll:List (List M.D)} (h:M.prog ll=true):ll.length≤3∧∀ t∈ll,t.length≤7:=by
 simp only [M.prog,Bool.and_eq_true,decide_eq_true_eq] at h
 exact ⟨h.1,M.from_le h.2⟩
end Go.Proofs.YtjjkicffhpcngaaGreat
namespace Go.Proofs.YtjjkicffhpcngaaGreat
open Go.ChangeShapes Go.WideShapes Go.ChangeAt Go.RowKit Go.Deep
theorem Tryz.own:ownKnob Tryz.prog.godebug=none:=by kernel_rfl
theorem Tryz.laidOut:laidOutB Tryz.prog=true:=by kernel_rfl
end Go.Proofs.YtjjkicffhpcngaaGreat
namespace Go.Proofs.YtjjkicffhpcngaaGreat
open Go.ChangeShapes Go.WideShapes Go.ChangeAt Go.RowKit Go.Deep
theorem Tryz.cellsByte:Tryz.prog.cellsOf 5=1:=by kernel_rfl
def Code8 (w:World) (u:Value):Prop:=∃ ca cb co L C,∃ x:Nat→Int,u=.slice ca L C∧L≤C∧(0 < L→ca=some ⟨cb,co,none⟩)∧∀ i,i < L→w.cell? ⟨cb,co+i,none⟩=some (.int .u8 (x i))∧0≤x i∧x i≤255
section
variable {H : Type} {enc : TypeId × Value → H} {w : World} {base : Nat} {spare : Nat → Bool} {held : Bool}
set_option maxRecDepth 100000 in
theorem open_code {fuel:Nat} {u:Value} {x:DataW H × List MemPlace} (h:DataW.trod enc Tryz.prog w base spare held fuel 22 [u]=some x):Code8 w u:=by
 rcases open_ints Tryz.underlying22 Tryz.underlying5 Tryz.cellsByte h with ⟨hcs,_⟩ | ⟨a,len,cap,zs,hcs,_,hl,hm,hmm,_,hel,hwf⟩
 ·simp at hcs
  exact ⟨none,0,0,0,0,fun _=>0,hcs,Nat.le_refl _,fun h=>absurd h (Nat.lt_irrefl _),fun i hi=>absurd hi (Nat.not_lt_zero _)⟩
 ·simp at hcs
  obtain ⟨gb,go,gs⟩:=a
  have hlm:len≤zs.length:=by rw [hmm];split<;>omega
  rcases Nat.eq_zero_or_pos len with h0 | hpos
  ·subst h0
   exact ⟨_,0,0,0,cap,fun _=>0,hcs,Nat.zero_le _,fun h=>absurd h (Nat.lt_irrefl _),fun i hi=>absurd hi (Nat.not_lt_zero _)⟩
  ·have hgs:gs=none:=by simpa [Addr.add] using World.cell?_spot (hel 0 (by omega))
   subst hgs
   refine ⟨_,gb,go,len,cap,fun i=>zs.getD i 0,hcs,hl,fun _=>rfl,fun i hi=>?_⟩
   have h1:=hel i (by omega)
   rw [add_plain] at h1
   have hw:=hwf (zs.getD i 0) (by rw [List.getD_eq_getElem?_getD,List.getElem?_eq_getElem (by omega)];exact List.getElem_mem _)
   exact ⟨h1,bounds_u8 hw⟩
end
end Go.Proofs.YtjjkicffhpcngaaGreat
