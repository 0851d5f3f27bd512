/- The plain mathematics of events. No condition. And what goes with it: ExMath, OkMath, Told, ExDe, ExEv, OkImpl, OkOrd, QuietB, OkFrom, OkEnd, OkWay, Reads, SnOk, BxP, Bx2. -/
import Derived.Test.YtmhpgdliaclokaaGreatRows
import Derived.Test.YtmhpgdliaclokaaGreatQyak
namespace Go.Proofs.YtmhpgdliaclokaaGreat
section
namespace M
structure De where
 t:Nat
 i:Nat
 last:Bool
 d:D
 lr:Int
structure Ev where
 t:Nat
 i:Nat
 last:Bool
def De.ev (x:De):Ev:=⟨x.t,x.i,x.last⟩
def lrOf (lr:Int) (n:Nat) (d:D):Int:=if reads d.k then (n:Int) else lr
def deD (t i:Nat) (lr:Int) (n:Nat) (d:D):List De:=if d.k==9 then [⟨t,i,false,d,lrOf lr n d⟩,⟨t,i,true,d,lrOf lr n d⟩] else [⟨t,i,false,d,lrOf lr n d⟩]
def deT (t:Nat):Nat→Int→Nat→List D→List De
 | _,_,_,[]=>[]
 | i,lr,n,d::l=>deD t i lr n d++deT t (i+1) (lrOf lr n d) (n+(deD t i lr n d).length) l
def deF:Nat→Nat→List (List D)→List De
 | _,_,[]=>[]
 | t,n,l::ll=>deT t 0 (-1) n l++deF (t+1) (n+(deT t 0 (-1) n l).length) ll
def deeds (ll:List (List D)):List De:=deF 0 0 ll
def events (ll:List (List D)):List Ev:=(deeds ll).map De.ev
theorem deD_len (t i:Nat) (lr:Int) (n:Nat) (d:D):1≤(deD t i lr n d).length∧(deD t i lr n d).length≤2:=by
 unfold deD;split<;>simp
theorem deT_len (t:Nat) (l:List D):∀ (i:Nat) (lr:Int) (n:Nat),(deT t i lr n l).length≤2 * l.length:=by
 induction l with
 | nil=>intro i lr n;simp [deT]
 | cons d l ih =>
  intro i lr n
  have h1:=deD_len t i lr n d
  have h2:=ih (i+1) (lrOf lr n d) (n+(deD t i lr n d).length)
  simp only [deT,List.length_append,List.length_cons]
  omega
theorem deF_len (ll:List (List D)):∀ (t n:Nat),(∀ l∈ll,l.length≤7)→(deF t n ll).length≤14 * ll.length:=by
 induction ll with
 | nil=>intro t n _;simp [deF]
 | cons l ll ih =>
  intro t n h
  have h1:=deT_len t l 0 (-1) n
  have h2:=h l (by simp)
  have h3:=ih (t+1) (n+(deT t 0 (-1) n l).length) (fun x hx=>h x (List.mem_cons_of_mem _ hx))
  simp only [deF,List.length_append,List.length_cons]
  omega
theorem deeds_len {ll:List (List D)} (h3:ll.length≤3) (h7:∀ l∈ll,l.length≤7):(deeds ll).length≤42:=by
 have:=deF_len ll 0 0 h7
 unfold deeds
 omega
def toTell (ll:List (List D)) (l:List D) (t i:Nat) (lr:Int) (n:Nat):List De:=deT t i lr n (l.drop i)++deF (t+1) (n+(deT t i lr n (l.drop i)).length) (ll.drop (t+1))
theorem tell_start {ll:List (List D)} {t:Nat} {xs:List De} (h:deeds ll=xs++deF t xs.length (ll.drop t)) (ht:t < ll.length):deeds ll=xs++toTell ll ll[t] t 0 (-1) xs.length:=by
 rw [h,← List.getElem_cons_drop ht]
 simp [toTell,deF]
theorem tell_step {ll:List (List D)} {l:List D} {t i:Nat} {lr:Int} {xs:List De} (h:deeds ll=xs++toTell ll l t i lr xs.length) (hi:i < l.length):deeds ll=(xs++deD t i lr xs.length l[i])++toTell ll l t (i+1) (lrOf lr xs.length l[i]) (xs++deD t i lr xs.length l[i]).length:=by
 rw [h]
 unfold toTell
 rw [← List.getElem_cons_drop hi,deT]
 simp [Nat.add_assoc]
theorem tell_end {ll:List (List D)} {l:List D} {t i:Nat} {lr:Int} {xs:List De} (h:deeds ll=xs++toTell ll l t i lr xs.length) (hi:l.length≤i):deeds ll=xs++deF (t+1) xs.length (ll.drop (t+1)):=by
 rw [h]
 unfold toTell
 rw [List.drop_eq_nil_of_le hi]
 simp [deT]
theorem tell_all {ll:List (List D)} {t:Nat} {xs:List De} (h:deeds ll=xs++deF t xs.length (ll.drop t)) (ht:ll.length≤t):deeds ll=xs:=by
 rw [h,List.drop_eq_nil_of_le ht]
 simp [deF]
theorem deD_wait {t i n:Nat} {lr:Int} {d:D} (h:(d.k==9)=true):deD t i lr n d=[⟨t,i,false,d,lrOf lr n d⟩]++[⟨t,i,true,d,lrOf lr n d⟩]:=by unfold deD;rw [if_pos h];rfl
theorem deD_one {t i n:Nat} {lr:Int} {d:D} (h:(d.k==9)=false):deD t i lr n d=[⟨t,i,false,d,lrOf lr n d⟩]:=by unfold deD;rw [if_neg (by rw [h];simp)]
end M
end
section
namespace M
def De.reads (x:De):Bool:=M.reads x.d.k
def De.to (x:De) (p:Int):Bool:=M.writes x.d.k&&x.d.p==p
def wrs (p:Int):Nat→List De→List Int
 | _,[]=>[]
 | n,x::l=>if x.to p then (n:Int)::wrs p (n+1) l else wrs p (n+1) l
theorem wrs_step {p:Int} {ds:List De} {acc:List Int} {n:Nat} (h:wrs p 0 ds=acc++wrs p n (ds.drop n)) (hn:n < ds.length):wrs p 0 ds=(if (ds[n]).to p then acc++[(n:Int)] else acc)++wrs p (n+1) (ds.drop (n+1)):=by
 rw [h,← List.getElem_cons_drop hn,wrs]
 split<;>simp
theorem wrs_fin {p:Int} {ds:List De} {acc:List Int} {n:Nat} (h:wrs p 0 ds=acc++wrs p n (ds.drop n)) (hn:ds.length≤n):wrs p 0 ds=acc:=by
 rw [h,List.drop_eq_nil_of_le hn];simp [wrs]
theorem wrs_len (p:Int) (l:List De):∀ n,(wrs p n l).length≤l.length:=by
 induction l with
 | nil=>intro n;simp [wrs]
 | cons x l ih =>
  intro n
  have:=ih (n+1)
  unfold wrs
  split<;>simp<;>omega
theorem mem_wrs {p:Int} {l:List De}:∀ {n:Nat} {k:Int},k∈wrs p n l↔∃ i,∃ h:i < l.length,k=((n+i:Nat):Int)∧(l[i]).to p=true:=by
 induction l with
 | nil=>intro n k;simp [wrs]
 | cons x l ih =>
  intro n k
  have step:k∈wrs p (n+1) l↔∃ i,∃ h:i+1 < (x::l).length,k=((n+(i+1):Nat):Int)∧((x::l)[i+1]).to p=true:=by
   rw [ih]
   constructor
   ·rintro ⟨i,h,e,t⟩
    exact ⟨i,by simpa using h,by rw [e];congr 1;omega,by simpa using t⟩
   ·rintro ⟨i,h,e,t⟩
    exact ⟨i,by simpa using h,by rw [e];congr 1;omega,by simpa using t⟩
  have all:(∃ i,∃ h:i < (x::l).length,k=((n+i:Nat):Int)∧((x::l)[i]).to p=true)↔((k=n∧x.to p=true)∨∃ i,∃ h:i+1 < (x::l).length,k=((n+(i+1):Nat):Int)∧((x::l)[i+1]).to p=true):=by
   constructor
   ·rintro ⟨i,h,e,t⟩
    cases i with
    | zero=>exact Or.inl ⟨by simpa using e,by simpa using t⟩
    | succ i=>exact Or.inr ⟨i,h,e,t⟩
   ·rintro (⟨e,t⟩ | ⟨i,h,e,t⟩)
    ·exact ⟨0,by simp,by simpa using e,by simpa using t⟩
    ·exact ⟨i+1,h,e,t⟩
  rw [all,← step,wrs]
  by_cases ht:x.to p=true
  ·rw [if_pos ht];simp [ht]
  ·rw [if_neg ht];simp [ht]
theorem nodup_wrs (p:Int) (l:List De):∀ n,(wrs p n l).Nodup:=by
 induction l with
 | nil=>intro n;simp [wrs]
 | cons x l ih =>
  intro n
  unfold wrs
  split
  ·refine List.nodup_cons.2 ⟨fun h=>?_,ih (n+1)⟩
   obtain ⟨i,_,e,_⟩:=mem_wrs.1 h
   omega
  ·exact ih (n+1)
def mayTell (ds:List De) (x:De) (f:Int):Bool :=
 if x.reads then f==-1||(decide (0≤f)&&(decide (f < ds.length)&&match ds[f.toNat]? with | some y=>y.to x.d.p | none=>false)) else f==-2
def fromAt (ds:List De):List De→List Int→Bool
 | [],_=>true
 | x::xs,f::fs=>mayTell ds x f&&fromAt ds xs fs
 | _::_,[]=>false
def fromOk (ds:List De) (l:List Int):Bool:=decide (l.length=ds.length)&&fromAt ds ds l
def isRow (row evs:List Int):Bool:=decide (row.length=evs.length)&&evs.all (row.contains ·)
def orderAt (ds:List De):Nat→List (List Int)→Bool
 | _,[]=>true
 | p,row::rows=>isRow row (wrs p 0 ds)&&orderAt ds (p+1) rows
def orderOk (ds:List De) (rows:List (List Int)):Bool:=decide (rows.length=3)&&orderAt ds 0 rows
def valFrom (ds:List De) (l:List Int) (at_:Nat):Int :=
 match ds[at_]? with
 | none=>-1
 | some x=>if x.reads then l.getD at_ 0 else if x.d.k==3 then x.lr else -1
def orig (ds:List De) (l:List Int):Nat→Nat→Option Nat
 | 0,_=>none
 | n+1,at_=>if valFrom ds l at_ < 0 then some at_ else orig ds l n (valFrom ds l at_).toNat
def endsAt (ds:List De) (l:List Int):Nat→List De→Bool
 | _,[]=>true
 | n,_::xs=>(orig ds l ds.length n).isSome&&endsAt ds l (n+1) xs
def ends (ds:List De) (l:List Int):Bool:=endsAt ds l 0 ds
def wayOk (ds:List De) (l:List Int) (rows:List (List Int)):Bool:=fromOk ds l&&(orderOk ds rows&&ends ds l)
def execOk (ll:List (List D)) (l:List Int) (rows:List (List Int)):Bool:=prog ll&&wayOk (deeds ll) l rows
end M
end
section
open Go.RowKit
structure Told (w W:World) (e:TypeId) (size:Nat) (v:Value) (n:Nat) (xs:List Value):Prop where
 own:W.ownsRow w.heap.size e size v n xs
 bel:Below w.heap.size w W
theorem Told.start (w W:World) (e:TypeId) (size:Nat) (hb:Below w.heap.size w W):Told w W e size (.slice none 0 0) 0 []:=⟨World.ownsRow_nil _ _ _ _,hb⟩
theorem Told.snoc {w W W':World} {e:TypeId} {size:Nat} {v:Value} {n:Nat} {xs:List Value} {o:Obj} (h:Told w W e size v n xs) {g cap m:Nat} {ys:List Value}
  (ho:W'.ownsRow w.heap.size e size (.slice (some ⟨g,0,none⟩) m cap) m ys) (hg:(W.alloc o).grownBy W' v.ownBlock):Told w W' e size (.slice (some ⟨g,0,none⟩) m cap) m ys :=
 ⟨ho,below_grown (h.bel.alloc h.bel.size o) hg (fun k hk=>own_ge h.own k hk) (by have:=h.bel.size;simp;omega)⟩
theorem Told.below {w W W':World} {e:TypeId} {size:Nat} {v:Value} {n:Nat} {xs:List Value} (h:Told w W e size v n xs) (hb:Below W.heap.size W W'):Told w W' e size v n xs :=
 ⟨ownsRow_below h.own hb,h.bel.trans (hb.mono h.bel.size)⟩
theorem own_mono {w:World} {base base':Nat} {e:TypeId} {size:Nat} {v:Value} {n:Nat} {xs:List Value} (h:w.ownsRow base e size v n xs) (hb:base'≤base):w.ownsRow base' e size v n xs:=by
 refine ⟨h.1,?_⟩
 rcases h.2 with h2 | ⟨g,cap,cur,hv,hg,r⟩
 ·exact Or.inl h2
 ·exact Or.inr ⟨g,cap,cur,hv,Nat.le_trans hb hg,r⟩
structure RS {α:Type} (f:α→List Value) (k:Nat) (w:World) (va:Option Addr) (g:Nat) (l:List α):Prop where
 addr:0 < l.length→va=some ⟨g,0,none⟩
 row:∀ i (h:i < l.length) j,j < k→w.cell? ⟨g,i * k+j,none⟩=(f l[i])[j]?
theorem RS.below {α:Type} {f:α→List Value} {k:Nat} {w w':World} {va:Option Addr} {g B:Nat} {l:List α} (h:RS f k w va g l) (hf:∀ x,(f x).length=k) (hb:Below B w w') (hB:w.heap.size≤B):RS f k w' va g l :=
 ⟨h.addr,fun i hi j hj=>by
  have h1:=h.row i hi j hj
  have h2:(f l[i])[j]?=some ((f l[i])[j]'(by rw [hf];exact hj)):=List.getElem?_eq_getElem _
  rw [h2] at h1 ⊢
  exact (hb.cell (p:=⟨g,i * k+j,none⟩) (Nat.lt_of_lt_of_le (World.block_lt_of_cell? _ _ h1) hB)).trans h1⟩
theorem flatten_get {α:Type} (f:α→List Value) (k:Nat) (hf:∀ x,(f x).length=k) (l:List α):∀ i (h:i < l.length) j,j < k→((l.map f).flatten)[i * k+j]?=(f l[i])[j]?:=by
 induction l with
 | nil=>intro i h;exact absurd h (Nat.not_lt_zero _)
 | cons x l ih =>
  intro i h j hj
  rw [List.map_cons,List.flatten_cons]
  cases i with
  | zero =>
   rw [Nat.zero_mul,Nat.zero_add,List.getElem?_append_left (by rw [hf];exact hj)];rfl
  | succ i =>
   have e:(i+1) * k+j=(f x).length+(i * k+j):=by rw [hf,Nat.succ_mul];omega
   rw [e,List.getElem?_append_right (by omega),Nat.add_sub_cancel_left]
   exact ih i (by simpa using h) j hj
theorem own_rs {α:Type} {f:α→List Value} {k:Nat} (hf:∀ x,(f x).length=k) {w:World} {base:Nat} {e:TypeId} {v:Value} {l:List α} (h:w.ownsRow base e k v l.length (l.map f).flatten):∃ va g cap,v=.slice va l.length cap∧RS f k w va g l∧(0 < l.length→base≤g)∧l.length≤cap:=by
 rcases h.2 with ⟨hv,hn⟩ | ⟨g,cap,cur,hv,hg,hh,hc,r⟩
 ·have:l=[]:=List.length_eq_zero_iff.1 hn
  subst this
  exact ⟨none,0,0,hv,⟨fun h=>absurd h (Nat.lt_irrefl _),fun i hi=>absurd hi (Nat.not_lt_zero _)⟩,fun h=>absurd h (Nat.lt_irrefl _),Nat.le_refl _⟩
 ·refine ⟨_,g,cap,hv,⟨fun _=>rfl,fun i hi j hj=>?_⟩,fun _=>hg,hc⟩
  have hcs:=h.cells (g:=g) (by rw [hv];rfl)
  have h1:=flatten_get f k hf l i hi j hj
  have h2:(f l[i])[j]?=some ((f l[i])[j]'(by rw [hf];exact hj)):=List.getElem?_eq_getElem _
  rw [h2] at h1 ⊢
  have:=hcs _ _ h1
  rwa [Go.WideShapes.add_plain,Nat.zero_add] at this
end
section
open Go.RowKit
def M.De.cells (x:M.De):List Value:=[.int .i64 x.t,.int .i64 x.i,.bool x.last,.int .i64 x.d.k,.int .i64 x.d.p,.int .i64 x.d.v,.int .i64 x.lr]
def flatDe (l:List M.De):List Value:=(l.map M.De.cells).flatten
theorem flatDe_append (l m:List M.De):flatDe (l++m)=flatDe l++flatDe m:=by simp [flatDe]
theorem flatDe_one (x:M.De):flatDe [x]=x.cells:=by simp [flatDe]
theorem Tryz.infoDeed:(Tryz.prog.info? 96).map (fun i=>(i.zero,i.size,i.bytes))=some (some (.agg #[.int .i64 0,.int .i64 0,.bool false,.int .i64 0,.int .i64 0,.int .i64 0,.int .i64 0]),7,56):=by kernel_rfl
set_option maxHeartbeats 2000000 in
set_option maxRecDepth 100000 in
theorem deedsOf_any (a:Option Addr) (b o c:Nat) (ll:List (List M.D)) (w:World) (h3:ll.length≤3) (h7:∀ l∈ll,l.length≤7) (h:DoSS w a b o ll) :
  Calls Tryz.prog 39 #[.agg #[.slice a ll.length c]] w fun e w'=>∃ v,e=.returned v∧w'.ownsRow w.heap.size 96 7 v (M.deeds ll).length (flatDe (M.deeds ll))∧Below w.heap.size w w':=by
 obtain ⟨i0,hi,hz0,hz1,hz2⟩:=info_parts Tryz.infoDeed
 have hdl:=M.deeds_len h3 h7
 have hbx:=below1 w (.cells #[.slice a ll.length c] 25)
 go_enter Tryz.func39,Tryz.ntmps39
 go_wp2_with fail
 go_loopw [3,12] (fun s3 s12 wr=>∃ (xs:List M.De) (t:Nat) (va:Option Addr) (vc:Nat),s3=.slice va xs.length vc∧s12=.int .i64 t∧t≤ll.length∧xs.length≤42∧Hid (M.deeds ll=xs++M.deF t xs.length (ll.drop t))∧Told w wr 96 7 (.slice va xs.length vc) xs.length (flatDe xs)) (fun _ s12 _=>ll.length - (intOf s12).toNat)
 case atStart=>exact ⟨[],0,none,0,rfl,rfl,Nat.zero_le _,by simp,by show _=_;rfl,Told.start _ _ _ _ hbx⟩
 case round =>
  obtain ⟨xs,t,va,vc,rfl,rfl,htl,hxl,HX,hT⟩:=hrel
  by_cases hlt:t < ll.length
  ·obtain ⟨rfl⟩:=h.addr (by omega)
   obtain ⟨a',b',o',c',hc0,hd⟩:=h.row t hlt
   have hc:=(hT.bel.cell (p:=⟨b,o+t,none⟩) (World.block_lt_of_cell? _ _ hc0)).trans hc0
   have hl7:=h7 _ (List.getElem_mem hlt)
   have HX2:Hid (M.deeds ll=xs++M.toTell ll ll[t] t 0 (-1) xs.length):=M.tell_start HX.out hlt
   clear HX hc0
   generalize ll[t]=l at *
   have i1:(t:Int) < ll.length:=by omega
   go_wp2_with fail
   go_loopw [3,6,19] (fun s3 s6 s19 wr=>∃ (xs:List M.De) (i:Nat) (lr:Int) (va:Option Addr) (vc:Nat),s3=.slice va xs.length vc∧s6=.int .i64 lr∧s19=.int .i64 i∧i≤l.length∧xs.length≤42∧Hid (M.deeds ll=xs++M.toTell ll l t i lr xs.length)∧Told w wr 96 7 (.slice va xs.length vc) xs.length (flatDe xs)) (fun _ _ s19 _=>l.length - (intOf s19).toNat)
   case atStart=>exact ⟨xs,0,-1,va,vc,rfl,rfl,rfl,Nat.zero_le _,hxl,HX2,hT⟩
   case round =>
    clear hT hc HX2 hxl
    obtain ⟨xs,i,lr,va,vc,rfl,rfl,rfl,hil,hxl,HX,hT⟩:=hrel
    by_cases hlt2:i < l.length
    ·obtain ⟨rfl⟩:=hd.addr (by omega)
     obtain ⟨ck,cp,cv⟩:=(hd.below hT.bel (Nat.le_refl _)).row i hlt2
     have HX3:Hid (M.deeds ll=(xs++M.deD t i lr xs.length l[i])++M.toTell ll l t (i+1) (M.lrOf lr xs.length l[i]) (xs++M.deD t i lr xs.length l[i]).length):=M.tell_step HX.out hlt2
     clear HX
     generalize l[i]=d at *
     have hln:(xs++M.deD t i lr xs.length d).length≤42:=by
      have:=congrArg List.length HX3.out
      simp only [List.length_append] at this ⊢
      omega
     have i2:(i:Int) < l.length:=by omega
     have lb':b' < wr.heap.size:=World.block_lt_of_cell? _ _ ck
     obtain ⟨lr2,hlr2⟩:∃ lr2,M.lrOf lr xs.length d=lr2:=⟨_,rfl⟩
     have HLR:Hid (M.lrOf lr xs.length d=lr2):=hlr2
     have hT1:=hT.below (below1 wr (.cells #[.int .i64 d.k,.int .i64 d.p,.int .i64 d.v] 94))
     have hbox0:(wr.alloc (.cells #[.int .i64 d.k,.int .i64 d.p,.int .i64 d.v] 94)).cell? ⟨wr.heap.size,0,none⟩=some (.int .i64 d.k):=by simp
     have hbox1:(wr.alloc (.cells #[.int .i64 d.k,.int .i64 d.p,.int .i64 d.v] 94)).cell? ⟨wr.heap.size,1,none⟩=some (.int .i64 d.p):=by simp
     have hbox2:(wr.alloc (.cells #[.int .i64 d.k,.int .i64 d.p,.int .i64 d.v] 94)).cell? ⟨wr.heap.size,2,none⟩=some (.int .i64 d.v):=by simp
     have HD9:Hid (∀ h:(d.k==9)=true,M.deD t i lr xs.length d=[⟨t,i,false,d,lr2⟩]++[⟨t,i,true,d,lr2⟩]):=fun h=>by rw [M.deD_wait h,hlr2]
     have HD1:Hid (∀ h:(d.k==9)=false,M.deD t i lr xs.length d=[⟨t,i,false,d,lr2⟩]):=fun h=>by rw [M.deD_one h,hlr2]
     have HN:Hid ((xs++M.deD t i lr xs.length d).length≤42):=hln
     have hxl2:xs.length+1≤42:=by have:=(M.deD_len t i lr xs.length d).1;rw [List.length_append] at hln;omega
     clear hlr2 hln
     have lW:wr.heap.size < (wr.alloc (.cells #[.int .i64 d.k,.int .i64 d.p,.int .i64 d.v] 94)).heap.size:=by simp
     go_wp2_with fail
     generalize hW:wr.alloc (.cells #[.int .i64 d.k,.int .i64 d.p,.int .i64 d.v] 94)=W at *
     clear hW ck cp cv
     refine (reads_any _ _).mono ?_
     rintro e W ⟨rfl,rfl⟩
     have kne:∀ k,(Value.slice va xs.length vc).ownBlock=some k→k < wr.heap.size:=fun k hk=>(hT.own.lt k hk).2
     generalize wr.heap.size=K at *
     cases hr:M.reads d.k
     ·have hlr3:lr2=lr:=by rw [← HLR.out,M.lrOf,hr];rfl
      subst hlr3
      go_wp2_with (at_builtin;refine wpList_append_lies _ rfl (.tmp 29) (.tmp 36) 75 rfl w.heap.size 96 i0 _ 7 56 Tryz.underlying75 hi hz0 hz1 hz2 rfl (by decide) _ _ _ rfl (hT1.own.alloc _) ⟨W.heap.size,0,none⟩ 1 1 [.int .i64 t,.int .i64 i,.bool false,.int .i64 d.k,.int .i64 d.p,.int .i64 d.v,.int .i64 lr2] rfl rfl (World.news_of_block (cs:=#[.int .i64 (t:Int),.int .i64 (i:Int),.bool false,.int .i64 d.k,.int .i64 d.p,.int .i64 d.v,.int .i64 lr2]) (t:=96) (fr:=(0,0)) (heap_alloc_new _ _)) (by simp [Value.oneCell']) (by omega) (by unfold maxLen;omega) (by omega) (by have:=hT1.bel.size;simp;omega) (W.heap.size+1) (by simp) ?_)
      intro g6 cap6 w6 hown6 hg6 hat6 hlt6
      have hT6:Told w w6 96 7 (.slice (some ⟨g6,0,none⟩) (xs.length+1) cap6) (xs.length+1) (flatDe (xs++[⟨t,i,false,d,lr2⟩])):=by
       rw [flatDe_append,flatDe_one];exact hT1.snoc hown6 hg6
      have q0:=hg6.cell (a:=⟨K,0,none⟩) ((World.cell?_alloc_lt _ _ _ lW).trans hbox0) (fun e=>Nat.lt_irrefl K (kne _ e.symm))
      have q1:=hg6.cell (a:=⟨K,1,none⟩) ((World.cell?_alloc_lt _ _ _ lW).trans hbox1) (fun e=>Nat.lt_irrefl K (kne _ e.symm))
      have q2:=hg6.cell (a:=⟨K,2,none⟩) ((World.cell?_alloc_lt _ _ _ lW).trans hbox2) (fun e=>Nat.lt_irrefl K (kne _ e.symm))
      clear hown6 hg6 hat6 hlt6
      cases h9:(d.k==9)
      ·go_wp2_with fail
       exact ⟨⟨xs++[⟨t,i,false,d,lr2⟩],i+1,lr2,some ⟨g6,0,none⟩,cap6,by simp,rfl,by go_num,by omega,by simp;omega,by
        show _=_
        have:=HX3.out
        rw [HD1.out h9,HLR.out] at this
        exact this,by rw [List.length_append];exact hT6⟩,by simp [intOf];omega⟩
      ·have hN2:xs.length+2≤42:=by have:=HN.out;rw [HD9.out h9] at this;simpa using this
       have lK6:K < w6.heap.size:=World.block_lt_of_cell? _ _ q0
       go_wp2_with (at_builtin;refine wpList_append_lies _ rfl (.tmp 41) (.tmp 48) 75 rfl w.heap.size 96 i0 _ 7 56 Tryz.underlying75 hi hz0 hz1 hz2 rfl (by decide) _ _ _ rfl (hT6.own.alloc _) ⟨w6.heap.size,0,none⟩ 1 1 [.int .i64 t,.int .i64 i,.bool true,.int .i64 d.k,.int .i64 d.p,.int .i64 d.v,.int .i64 lr2] rfl rfl (World.news_of_block (cs:=#[.int .i64 (t:Int),.int .i64 (i:Int),.bool true,.int .i64 d.k,.int .i64 d.p,.int .i64 d.v,.int .i64 lr2]) (t:=96) (fr:=(0,0)) (heap_alloc_new _ _)) (by simp [Value.oneCell']) (by omega) (by unfold maxLen;omega) (by omega) (by have:=hT6.bel.size;simp;omega) (w6.heap.size+1) (by simp) ?_)
       intro g7 cap7 w7 hown7 hg7 hat7 hlt7
       have hT7:Told w w7 96 7 (.slice (some ⟨g7,0,none⟩) (xs.length+1+1) cap7) (xs.length+1+1) (flatDe ((xs++[⟨t,i,false,d,lr2⟩])++[⟨t,i,true,d,lr2⟩])):=by
        rw [flatDe_append _ [_],flatDe_one];exact hT6.snoc hown7 hg7
       clear hown7 hg7 hat7 hlt7
       go_wp2_with fail
       exact ⟨⟨(xs++[⟨t,i,false,d,lr2⟩])++[⟨t,i,true,d,lr2⟩],i+1,lr2,some ⟨g7,0,none⟩,cap7,by simp,rfl,by go_num,by omega,by simp;omega,by
        show _=_
        have:=HX3.out
        rw [HD9.out h9,HLR.out,← List.append_assoc] at this
        exact this,by rw [List.length_append,List.length_append];exact hT7⟩,by simp [intOf];omega⟩
     ·have hlr3:lr2=xs.length:=by rw [← HLR.out,M.lrOf,hr];rfl
      subst hlr3
      have h9:(d.k==9)=false:=by
       cases h:(d.k==9)
       ·rfl
       ·have:d.k=9:=by simpa using h
        rw [this] at hr;simp [M.reads] at hr
      go_wp2_with (at_builtin;refine wpList_append_lies _ rfl (.tmp 29) (.tmp 36) 75 rfl w.heap.size 96 i0 _ 7 56 Tryz.underlying75 hi hz0 hz1 hz2 rfl (by decide) _ _ _ rfl (hT1.own.alloc _) ⟨W.heap.size,0,none⟩ 1 1 [.int .i64 t,.int .i64 i,.bool false,.int .i64 d.k,.int .i64 d.p,.int .i64 d.v,.int .i64 xs.length] rfl rfl (World.news_of_block (cs:=#[.int .i64 (t:Int),.int .i64 (i:Int),.bool false,.int .i64 d.k,.int .i64 d.p,.int .i64 d.v,.int .i64 xs.length]) (t:=96) (fr:=(0,0)) (heap_alloc_new _ _)) (by simp [Value.oneCell']) (by omega) (by unfold maxLen;omega) (by omega) (by have:=hT1.bel.size;simp;omega) (W.heap.size+1) (by simp) ?_)
      intro g6 cap6 w6 hown6 hg6 hat6 hlt6
      have hT6:Told w w6 96 7 (.slice (some ⟨g6,0,none⟩) (xs.length+1) cap6) (xs.length+1) (flatDe (xs++[⟨t,i,false,d,xs.length⟩])):=by
       rw [flatDe_append,flatDe_one];exact hT1.snoc hown6 hg6
      have q0:=hg6.cell (a:=⟨K,0,none⟩) ((World.cell?_alloc_lt _ _ _ lW).trans hbox0) (fun e=>Nat.lt_irrefl K (kne _ e.symm))
      have q1:=hg6.cell (a:=⟨K,1,none⟩) ((World.cell?_alloc_lt _ _ _ lW).trans hbox1) (fun e=>Nat.lt_irrefl K (kne _ e.symm))
      have q2:=hg6.cell (a:=⟨K,2,none⟩) ((World.cell?_alloc_lt _ _ _ lW).trans hbox2) (fun e=>Nat.lt_irrefl K (kne _ e.symm))
      clear hown6 hg6 hat6 hlt6
      go_wp2_with fail
      exact ⟨⟨xs++[⟨t,i,false,d,xs.length⟩],i+1,xs.length,some ⟨g6,0,none⟩,cap6,by simp,rfl,by go_num,by omega,by simp;omega,by
       show _=_
       have:=HX3.out
       rw [HD1.out h9,HLR.out] at this
       exact this,by rw [List.length_append];exact hT6⟩,by simp [intOf];omega⟩
    ·go_wp2_with fail
     exact ⟨⟨xs,t+1,va,vc,rfl,by go_num,by omega,hxl,M.tell_end HX.out (by omega),hT⟩,by simp [intOf];omega⟩
  ·go_wp2_with fail
   go_ret
   exact ⟨_,rfl,by rw [M.tell_all HX.out (by omega)];exact hT.own,hT.bel⟩
end
section
open Go.RowKit
def M.Ev.cells (x:M.Ev):List Value:=[.int .i64 x.t,.int .i64 x.i,.bool x.last]
def flatEv (l:List M.Ev):List Value:=(l.map M.Ev.cells).flatten
theorem flatEv_append (l m:List M.Ev):flatEv (l++m)=flatEv l++flatEv m:=by simp [flatEv]
theorem M.De.len (x:M.De):x.cells.length=7:=rfl
theorem M.Ev.len (x:M.Ev):x.cells.length=3:=rfl
def M.evAll (ll:List (List M.D)):List M.Ev:=if M.prog ll then M.events ll else []
theorem M.prog_bounds {ll:List (List M.D)} (h:M.prog ll=true):ll.length≤3∧∀ l∈ll,l.length≤7:=by
 simp only [M.prog,Bool.and_eq_true,decide_eq_true_eq] at h
 refine ⟨h.1,?_⟩
 have key:∀ (ll:List (List M.D)) (a u:Nat),M.progFrom a u ll=true→∀ l∈ll,l.length≤7:=by
  intro ll
  induction ll with
  | nil=>intro a u _ l hl;cases hl
  | cons x ll ih =>
   intro a u hp l hl
   simp only [M.progFrom] at hp
   split at hp
   ·rename_i hx
    rcases List.mem_cons.1 hl with rfl | hl
    ·exact M.thread_le hx
    ·exact ih _ _ hp l hl
   ·cases hp
 exact key ll 0 0 h.2
theorem Tryz.infoEvent:(Tryz.prog.info? 42).map (fun i=>(i.zero,i.size,i.bytes))=some (some (.agg #[.int .i64 0,.int .i64 0,.bool false]),3,24):=by kernel_rfl
set_option maxHeartbeats 2000000 in
set_option maxRecDepth 100000 in
theorem iexecEvents_any (a:Option Addr) (b o c:Nat) (ll:List (List M.D)) (w:World) (hl:ll.length≤1048576) (hls:∀ t∈ll,t.length≤1048576) (h:DoSS w a b o ll) :
  Calls Tryz.prog 14 #[.agg #[.slice a ll.length c]] w fun e w'=>∃ v,e=.returned v∧w'.ownsRow w.heap.size 42 3 v (M.evAll ll).length (flatEv (M.evAll ll))∧Below w.heap.size w w':=by
 obtain ⟨i0,hi,hz0,hz1,hz2⟩:=info_parts Tryz.infoEvent
 have hbx:=below1 w (.cells #[.slice a ll.length c] 25)
 have k0:(w.alloc (.cells #[.slice a ll.length c] 25)).cell? ⟨w.heap.size,0,none⟩=some (.slice a ll.length c):=by simp
 go_enter Tryz.func14,Tryz.ntmps14
 go_wp2_with fail
 generalize w.alloc (.cells #[.slice a ll.length c] 25)=W at *
 have lt0:w.heap.size < W.heap.size:=World.block_lt_of_cell? _ _ k0
 refine (iprog_any a b o c ll _ hl hls (h.below hbx (Nat.le_refl _))).mono ?_
 rintro e w1 ⟨rfl,hb1⟩
 have k1:=(hb1.cell (p:=⟨w.heap.size,0,none⟩) lt0).trans k0
 have hb01:=hbx.trans (hb1.mono hbx.size)
 cases hp:M.prog ll
 ·have HE:Hid (M.evAll ll=[]):=by show _=_;simp [M.evAll,hp]
  go_wp2_with fail
  go_ret
  exact ⟨_,rfl,by rw [HE.out];exact World.ownsRow_nil _ _ _ _,hb01⟩
 ·have HE:Hid (M.evAll ll=M.events ll):=by show _=_;simp [M.evAll,hp]
  obtain ⟨h3,h7⟩:=M.prog_bounds hp
  have hdl:=M.deeds_len h3 h7
  go_wp2_with fail
  refine (deedsOf_any a b o c ll _ h3 h7 (h.below hb01 (Nat.le_refl _))).mono ?_
  rintro e w2 ⟨v2,rfl,hown2,hb2⟩
  have hb02:=hb01.trans (hb2.mono hb01.size)
  obtain ⟨va,g,cap,rfl,hrs,hge,_⟩:=own_rs M.De.len hown2
  have HV:Hid (M.events ll=(M.deeds ll).map M.De.ev):=by show _=_;rfl
  clear hown2 hb2 hb1 k0 k1 hbx hb01
  generalize M.deeds ll=ds at *
  go_wp2_with fail
  go_loopw [3,12] (fun s3 s12 wr=>∃ (n:Nat) (va:Option Addr) (vc:Nat),s3=.slice va n vc∧s12=.int .i64 n∧n≤ds.length∧Told w2 wr 42 3 (.slice va n vc) n (flatEv ((ds.map M.De.ev).take n))) (fun _ s12 _=>ds.length - (intOf s12).toNat)
  case atStart=>exact ⟨0,none,0,rfl,rfl,Nat.zero_le _,Told.start _ _ _ _ (Below.refl _ _)⟩
  case round =>
   obtain ⟨n,va2,vc,rfl,rfl,hn,hT⟩:=hrel
   by_cases hlt:n < ds.length
   ·obtain ⟨rfl⟩:=hrs.addr (by omega)
    have hr:=(hrs.below M.De.len hT.bel (Nat.le_refl _)).row n hlt
    have HD:Hid ((ds.map M.De.ev).take (n+1)=(ds.map M.De.ev).take n++[ds[n].ev]):=by show _=_;rw [List.take_succ_eq_append_getElem (by simpa using hlt)];simp
    generalize ds[n]=x at *
    have c0:=hr 0 (by omega)
    have c1:=hr 1 (by omega)
    have c2:=hr 2 (by omega)
    have c3:=hr 3 (by omega)
    have c4:=hr 4 (by omega)
    have c5:=hr 5 (by omega)
    have c6:=hr 6 (by omega)
    change wr.cell? ⟨g,n * 7,none⟩=some (.int .i64 x.t) at c0
    change wr.cell? ⟨g,n * 7+1,none⟩=some (.int .i64 x.i) at c1
    change wr.cell? ⟨g,n * 7+2,none⟩=some (.bool x.last) at c2
    change wr.cell? ⟨g,n * 7+3,none⟩=some (.int .i64 x.d.k) at c3
    change wr.cell? ⟨g,n * 7+4,none⟩=some (.int .i64 x.d.p) at c4
    change wr.cell? ⟨g,n * 7+5,none⟩=some (.int .i64 x.d.v) at c5
    change wr.cell? ⟨g,n * 7+6,none⟩=some (.int .i64 x.lr) at c6
    have i1:(n:Int) < ds.length:=by omega
    have lg:g < wr.heap.size:=World.block_lt_of_cell? _ _ c0
    have hT1:=hT.below (below1 wr (.cells #[.int .i64 (x.t:Int),.int .i64 (x.i:Int),.bool x.last,.int .i64 x.d.k,.int .i64 x.d.p,.int .i64 x.d.v,.int .i64 x.lr] 96))
    clear hr
    go_wp2_with (at_builtin;refine wpList_append_lies _ rfl (.tmp 16) (.tmp 19) 36 rfl w2.heap.size 42 i0 _ 3 24 Tryz.underlying36 hi hz0 hz1 hz2 rfl (by decide) _ _ _ rfl (hT1.own.alloc _) ⟨wr.heap.size+1,0,none⟩ 1 1 [.int .i64 x.t,.int .i64 x.i,.bool x.last] rfl rfl (World.news_of_block (cs:=#[.int .i64 (x.t:Int),.int .i64 (x.i:Int),.bool x.last]) (t:=42) (fr:=(0,0)) (heap_alloc2_new _ _ _)) (by simp [Value.oneCell']) (by omega) (by unfold maxLen;omega) (by omega) (by have:=hT1.bel.size;simp at this ⊢;omega) (wr.heap.size+1+1) (by simp) ?_)
    intro g6 cap6 w6 hown6 hg6 hat6 hlt6
    have hT6:Told w2 w6 42 3 (.slice (some ⟨g6,0,none⟩) (n+1) cap6) (n+1) (flatEv ((ds.map M.De.ev).take (n+1))):=by
     rw [HD.out,flatEv_append];exact hT1.snoc hown6 hg6
    clear hown6 hg6 hat6 hlt6 c0 c1 c2 c3 c4 c5 c6
    go_wp2_with fail
    exact ⟨⟨n+1,some ⟨g6,0,none⟩,cap6,rfl,by go_num,by omega,hT6⟩,by simp [intOf];omega⟩
   ·obtain rfl:n=ds.length:=by omega
    go_wp2_with fail
    go_ret
    refine ⟨_,rfl,?_,hb02.trans (hT.bel.mono hb02.size)⟩
    have:=own_mono hT.own hb02.size
    rw [List.take_of_length_le (by simp),← HV.out,← HE.out] at this
    have hlen:ds.length=(M.evAll ll).length:=by rw [HE.out,HV.out,List.length_map]
    rw [hlen] at this
    rw [hlen]
    exact this
set_option maxHeartbeats 2000000 in
set_option maxRecDepth 100000 in
theorem sexecEvents_any (a:Option Addr) (b o c:Nat) (ll:List (List M.D)) (w:World) (hl:ll.length≤1048576) (hls:∀ t∈ll,t.length≤1048576) (h:DoSS w a b o ll) :
  Calls Tryz.prog 75 #[.agg #[.slice a ll.length c]] w fun e w'=>∃ v,e=.returned v∧w'.ownsRow w.heap.size 42 3 v (M.evAll ll).length (flatEv (M.evAll ll))∧Below w.heap.size w w':=by
 obtain ⟨i0,hi,hz0,hz1,hz2⟩:=info_parts Tryz.infoEvent
 have hb0:=below1 w (.cells #[.slice a ll.length c] 25)
 have k0:(w.alloc (.cells #[.slice a ll.length c] 25)).cell? ⟨w.heap.size,0,none⟩=some (.slice a ll.length c):=by simp
 have hT0:Told (w.alloc (.cells #[.slice a ll.length c] 25)) ((w.alloc (.cells #[.slice a ll.length c] 25)).alloc (.cells #[] 42)) 42 3 (.slice (some ⟨w.heap.size+1,0,none⟩) 0 0) 0 []:=by
  have:=World.ownsRow_made (w.alloc (.cells #[.slice a ll.length c] 25)) #[] 0 (base:=(w.alloc (.cells #[.slice a ll.length c] 25)).heap.size) (e:=42) (size:=3) (Nat.le_refl _) (Nat.zero_le _) rfl
  exact ⟨by simpa using this,below1 _ _⟩
 go_enter Tryz.func75,Tryz.ntmps75
 go_wp2_with fail
 generalize (w.alloc (.cells #[.slice a ll.length c] 25)).alloc (.cells #[] 42)=W at *
 generalize w.alloc (.cells #[.slice a ll.length c] 25)=WB at *
 have lt0:w.heap.size < WB.heap.size:=World.block_lt_of_cell? _ _ k0
 have hbW:=hb0.trans (hT0.bel.mono hb0.size)
 have kW:=(hT0.bel.cell (p:=⟨w.heap.size,0,none⟩) lt0).trans k0
 refine (sprog_any a b o c ll _ hl hls (h.below hbW (Nat.le_refl _))).mono ?_
 rintro e w1 ⟨rfl,hb1⟩
 have hT1:=hT0.below hb1
 have k1:=(hT1.bel.cell (p:=⟨w.heap.size,0,none⟩) lt0).trans k0
 have toW:∀ {wr:World},Below WB.heap.size WB wr→Below w.heap.size w wr:=fun hb=>hb0.trans (hb.mono hb0.size)
 clear hbW kW hT0 hb1
 cases hp:M.prog ll
 ·have HE:Hid (M.evAll ll=[]):=by show _=_;simp [M.evAll,hp]
  go_wp2_with fail
  go_ret
  exact ⟨_,rfl,by rw [HE.out];exact own_mono hT1.own hb0.size,toW hT1.bel⟩
 ·have HE:Hid (M.evAll ll=M.events ll):=by show _=_;simp [M.evAll,hp]
  obtain ⟨h3,h7⟩:=M.prog_bounds hp
  have hdl:=M.deeds_len h3 h7
  go_wp2_with fail
  go_loopw [3,4] (fun s3 s4 wr=>∃ (xs:List M.De) (t:Nat) (va:Option Addr) (vc:Nat),s3=.slice va xs.length vc∧s4=.int .i64 t∧t≤ll.length∧xs.length≤42∧Hid (M.deeds ll=xs++M.deF t xs.length (ll.drop t))∧Told WB wr 42 3 (.slice va xs.length vc) xs.length (flatEv (xs.map M.De.ev))) (fun _ s4 _=>ll.length - (intOf s4).toNat)
  case atStart=>exact ⟨[],0,_,0,rfl,rfl,Nat.zero_le _,by simp,by show _=_;rfl,hT1⟩
  case round =>
   clear hT1 k1
   obtain ⟨xs,t,va,vc,rfl,rfl,htl,hxl,HX,hT⟩:=hrel
   have kr:=(hT.bel.cell (p:=⟨w.heap.size,0,none⟩) lt0).trans k0
   by_cases hlt:t < ll.length
   ·obtain ⟨rfl⟩:=h.addr (by omega)
    obtain ⟨a',b',o',c',hc,hd⟩:=h.row t hlt
    have hl7:=h7 _ (List.getElem_mem hlt)
    have HX2:Hid (M.deeds ll=xs++M.toTell ll ll[t] t 0 (-1) xs.length):=M.tell_start HX.out hlt
    clear HX
    generalize ll[t]=l at *
    have i1:(t:Int) < ll.length:=by omega
    go_wp2_with fail
    go_loopw [3,5] (fun s3 s5 wr=>∃ (xs:List M.De) (i:Nat) (lr:Int) (va:Option Addr) (vc:Nat),s3=.slice va xs.length vc∧s5=.int .i64 i∧i≤l.length∧xs.length≤42∧Hid (M.deeds ll=xs++M.toTell ll l t i lr xs.length)∧Told WB wr 42 3 (.slice va xs.length vc) xs.length (flatEv (xs.map M.De.ev))) (fun _ s5 _=>l.length - (intOf s5).toNat)
    case atStart=>exact ⟨xs,0,-1,va,vc,rfl,rfl,Nat.zero_le _,hxl,HX2,hT⟩
    case round =>
     clear hT HX2 hxl kr
     obtain ⟨xs,i,lr,va,vc,rfl,rfl,hil,hxl,HX,hT⟩:=hrel
     have hbr:=toW hT.bel
     have kr:=(hT.bel.cell (p:=⟨w.heap.size,0,none⟩) lt0).trans k0
     have hcr:=(hbr.cell (p:=⟨b,o+t,none⟩) (World.block_lt_of_cell? _ _ hc)).trans hc
     by_cases hlt2:i < l.length
     ·obtain ⟨rfl⟩:=hd.addr (by omega)
      obtain ⟨ck,_,_⟩:=(hd.below hbr (Nat.le_refl _)).row i hlt2
      have ckw:=(hd.row i hlt2).k
      have HX3:Hid (M.deeds ll=(xs++M.deD t i lr xs.length l[i])++M.toTell ll l t (i+1) (M.lrOf lr xs.length l[i]) (xs++M.deD t i lr xs.length l[i]).length):=M.tell_step HX.out hlt2
      clear HX
      generalize l[i]=d at *
      have hln:(xs++M.deD t i lr xs.length d).length≤42:=by
       have:=congrArg List.length HX3.out
       simp only [List.length_append] at this ⊢
       omega
      have HN:Hid ((xs++M.deD t i lr xs.length d).length≤42):=hln
      have hxl2:xs.length+1≤42:=by have:=(M.deD_len t i lr xs.length d).1;rw [List.length_append] at hln;omega
      clear hln
      have i2:(i:Int) < l.length:=by omega
      go_wp2_with (at_builtin;refine wpList_append_lies _ rfl (.tmp 28) (.tmp 32) 36 rfl WB.heap.size 42 i0 _ 3 24 Tryz.underlying36 hi hz0 hz1 hz2 rfl (by decide) _ _ _ rfl (hT.own.alloc _) ⟨wr.heap.size,0,none⟩ 1 1 [.int .i64 t,.int .i64 i,.bool false] rfl rfl (World.news_of_block (cs:=#[.int .i64 (t:Int),.int .i64 (i:Int),.bool false]) (t:=42) (fr:=(0,0)) (heap_alloc_new _ _)) (by simp [Value.oneCell']) (by omega) (by unfold maxLen;omega) (by omega) (by have:=hT.bel.size;simp;omega) (wr.heap.size+1) (by simp) ?_)
      intro g6 cap6 w6 hown6 hg6 hat6 hlt6
      have hT6:Told WB w6 42 3 (.slice (some ⟨g6,0,none⟩) (xs.length+1) cap6) (xs.length+1) (flatEv (xs.map M.De.ev++[⟨t,i,false⟩])):=by
       rw [flatEv_append];exact hT.snoc hown6 hg6
      clear hown6 hg6 hat6 hlt6
      have hb6:=toW hT6.bel
      have k6:=(hT6.bel.cell (p:=⟨w.heap.size,0,none⟩) lt0).trans k0
      have hc6:=(hb6.cell (p:=⟨b,o+t,none⟩) (World.block_lt_of_cell? _ _ hc)).trans hc
      have ck6:=(hb6.cell (p:=⟨b',o'+i * 3,none⟩) (World.block_lt_of_cell? _ _ ckw)).trans ckw
      cases h9:(d.k==9)
      ·go_wp2_with fail
       refine ⟨⟨xs++M.deD t i lr xs.length d,i+1,_,some ⟨g6,0,none⟩,cap6,?_,by go_num,by omega,HN.out,HX3.out,?_⟩,by simp [intOf];omega⟩
       ·rw [M.deD_one h9];simp
       ·rw [M.deD_one h9,List.map_append,List.length_append];exact hT6
      ·have hN2:xs.length+2≤42:=by have:=HN.out;rw [M.deD_wait h9] at this;simpa using this
       go_wp2_with (at_builtin;refine wpList_append_lies _ rfl (.tmp 44) (.tmp 48) 36 rfl WB.heap.size 42 i0 _ 3 24 Tryz.underlying36 hi hz0 hz1 hz2 rfl (by decide) _ _ _ rfl (hT6.own.alloc _) ⟨w6.heap.size,0,none⟩ 1 1 [.int .i64 t,.int .i64 i,.bool true] rfl rfl (World.news_of_block (cs:=#[.int .i64 (t:Int),.int .i64 (i:Int),.bool true]) (t:=42) (fr:=(0,0)) (heap_alloc_new _ _)) (by simp [Value.oneCell']) (by omega) (by unfold maxLen;omega) (by omega) (by have:=hT6.bel.size;simp;omega) (w6.heap.size+1) (by simp) ?_)
       intro g7 cap7 w7 hown7 hg7 hat7 hlt7
       have hT7:Told WB w7 42 3 (.slice (some ⟨g7,0,none⟩) (xs.length+1+1) cap7) (xs.length+1+1) (flatEv ((xs.map M.De.ev++[⟨t,i,false⟩])++[⟨t,i,true⟩])):=by
        rw [flatEv_append _ [_]];exact hT6.snoc hown7 hg7
       clear hown7 hg7 hat7 hlt7
       go_wp2_with fail
       refine ⟨⟨xs++M.deD t i lr xs.length d,i+1,_,some ⟨g7,0,none⟩,cap7,?_,by go_num,by omega,HN.out,HX3.out,?_⟩,by simp [intOf];omega⟩
       ·rw [M.deD_wait h9];simp
       ·rw [M.deD_wait h9,← List.append_assoc,List.map_append,List.map_append,List.length_append,List.length_append];exact hT7
     ·go_wp2_with fail
      exact ⟨⟨xs,t+1,va,vc,rfl,by go_num,by omega,hxl,M.tell_end HX.out (by omega),hT⟩,by simp [intOf];omega⟩
   ·go_wp2_with fail
    go_ret
    have hall:=M.tell_all HX.out (by omega)
    refine ⟨_,rfl,?_,toW hT.bel⟩
    have hlen:xs.length=(M.evAll ll).length:=by rw [HE.out,M.events,List.length_map,hall]
    have:=own_mono hT.own hb0.size
    rw [← hall] at this
    have e2:(M.deeds ll).map M.De.ev=M.evAll ll:=by rw [HE.out];rfl
    rw [e2,hall,hlen] at this
    rw [hlen]
    exact this
end
section
open Go.RowKit
abbrev DeS (w:World) (va:Option Addr) (g:Nat) (l:List M.De):Prop:=RS M.De.cells 7 w va g l
abbrev M.De.agg (x:M.De):Value:=.agg #[.int .i64 (x.t:Int),.int .i64 (x.i:Int),.bool x.last,.int .i64 x.d.k,.int .i64 x.d.p,.int .i64 x.d.v,.int .i64 x.lr]
structure DeAt (w:World) (g o:Nat) (x:M.De):Prop where
 c0:w.cell? ⟨g,o,none⟩=some (.int .i64 x.t)
 c1:w.cell? ⟨g,o+1,none⟩=some (.int .i64 x.i)
 c2:w.cell? ⟨g,o+2,none⟩=some (.bool x.last)
 c3:w.cell? ⟨g,o+3,none⟩=some (.int .i64 x.d.k)
 c4:w.cell? ⟨g,o+4,none⟩=some (.int .i64 x.d.p)
 c5:w.cell? ⟨g,o+5,none⟩=some (.int .i64 x.d.v)
 c6:w.cell? ⟨g,o+6,none⟩=some (.int .i64 x.lr)
theorem DeS.at {w:World} {va:Option Addr} {g:Nat} {l:List M.De} (h:DeS w va g l) {n:Nat} (hn:n < l.length):DeAt w g (n * 7) l[n] :=
 ⟨h.row n hn 0 (by omega),h.row n hn 1 (by omega),h.row n hn 2 (by omega),h.row n hn 3 (by omega),h.row n hn 4 (by omega),h.row n hn 5 (by omega),h.row n hn 6 (by omega)⟩
theorem DeS.bel {w w':World} {va:Option Addr} {g B:Nat} {l:List M.De} (h:DeS w va g l) (hb:Below B w w') (hB:w.heap.size≤B):DeS w' va g l:=h.below M.De.len hb hB
theorem deReads_any (x:M.De) (w:World) :
  Calls Tryz.prog 123 #[x.agg] w fun e w'=>e=.returned (.bool x.reads)∧w'=w.alloc (.cells #[.int .i64 (x.t:Int),.int .i64 (x.i:Int),.bool x.last,.int .i64 x.d.k,.int .i64 x.d.p,.int .i64 x.d.v,.int .i64 x.lr] 96):=by
 go_enter Tryz.func123,Tryz.ntmps123
 go_wp2_with (go_at_call 86;refine (reads_any _ _).mono ?_;rintro e w' ⟨rfl,rfl⟩)
 go_ret
 exact ⟨rfl,rfl⟩
theorem writesTo_any (x:M.De) (p:Int) (w:World) :
  Calls Tryz.prog 200 #[x.agg,.int .i64 p] w fun e w'=>e=.returned (.bool (x.to p))∧w'=w.alloc (.cells #[.int .i64 (x.t:Int),.int .i64 (x.i:Int),.bool x.last,.int .i64 x.d.k,.int .i64 x.d.p,.int .i64 x.d.v,.int .i64 x.lr] 96):=by
 cases hw:M.writes x.d.k
 all_goals
  go_enter Tryz.func200,Tryz.ntmps200
  go_wp2_with (go_at_call 148;refine (writes_any _ _).mono ?_;rw [hw];rintro e w' ⟨rfl,rfl⟩)
  go_ret
  exact ⟨ret_bool (by simp [M.De.to,hw]),rfl⟩
set_option maxHeartbeats 1000000 in
theorem writers_any (va:Option Addr) (g c:Nat) (ds:List M.De) (p:Int) (w:World) (hl:ds.length≤1048576) (h:DeS w va g ds) :
  Calls Tryz.prog 169 #[.slice va ds.length c,.int .i64 p] w fun e w'=>∃ v,e=.returned v∧w'.ownsRow w.heap.size 3 1 v (M.wrs p 0 ds).length (nums (M.wrs p 0 ds))∧Below w.heap.size w w':=by
 obtain ⟨i0,hi,hz0,hz1,hz2⟩:=info_parts Tryz.infoInt
 go_enter Tryz.func169,Tryz.ntmps169
 go_wp2_with fail
 go_loopw [5,10] (fun s5 s10 wr=>∃ (n:Nat) (acc:List Int) (va':Option Addr) (vc:Nat),s5=.slice va' acc.length vc∧s10=.int .i64 n∧n≤ds.length∧acc.length≤n∧Hid (M.wrs p 0 ds=acc++M.wrs p n (ds.drop n))∧Told w wr 3 1 (.slice va' acc.length vc) acc.length (nums acc)) (fun _ s10 _=>ds.length - (intOf s10).toNat)
 case atStart=>exact ⟨0,[],none,0,rfl,rfl,Nat.zero_le _,Nat.le_refl _,by show _=_;rfl,Told.start _ _ _ _ (Below.refl _ _)⟩
 case round =>
  obtain ⟨n,acc,va',vc,rfl,rfl,hn,hacc,HW,hT⟩:=hrel
  by_cases hlt:n < ds.length
  ·obtain ⟨rfl⟩:=h.addr (by omega)
   have hx:=DeS.at (h.bel hT.bel (Nat.le_refl _)) hlt
   have HW2:=M.wrs_step HW.out hlt
   have HW2:Hid (M.wrs p 0 ds=(if (ds[n]).to p then acc++[(n:Int)] else acc)++M.wrs p (n+1) (ds.drop (n+1))):=HW2
   clear HW
   generalize ds[n]=x at *
   obtain ⟨c0,c1,c2,c3,c4,c5,c6⟩:=hx
   have i1:(n:Int) < ds.length:=by omega
   have lg:g < wr.heap.size:=World.block_lt_of_cell? _ _ c0
   have hT1:=hT.below (below2 wr (.cells #[.int .i64 (x.t:Int),.int .i64 (x.i:Int),.bool x.last,.int .i64 x.d.k,.int .i64 x.d.p,.int .i64 x.d.v,.int .i64 x.lr] 96) (.cells #[.int .i64 (x.t:Int),.int .i64 (x.i:Int),.bool x.last,.int .i64 x.d.k,.int .i64 x.d.p,.int .i64 x.d.v,.int .i64 x.lr] 96))
   cases ht:x.to p
   ·go_wp2_with (go_at_call 200;refine (writesTo_any x p _).mono ?_;rw [ht];rintro e w' ⟨rfl,rfl⟩)
    exact ⟨⟨n+1,acc,va',vc,rfl,by go_num,by omega,by omega,by show _=_;have:=HW2.out;rw [ht] at this;exact this,hT1⟩,by simp [intOf];omega⟩
   ·go_wp2_with (first | (go_at_call 200;refine (writesTo_any x p _).mono ?_;rw [ht];rintro e w' ⟨rfl,rfl⟩) | (at_builtin;refine wpList_append_lies _ rfl (.tmp 18) (.tmp 20) 26 rfl w.heap.size 3 i0 _ 1 8 Tryz.underlying26 hi hz0 hz1 hz2 rfl (by decide) _ _ _ rfl (hT1.own.alloc _) ⟨wr.heap.size+1+1,0,none⟩ 1 1 [.int .i64 n] rfl rfl (World.news_of_block (cs:=#[.int .i64 (n:Int)]) (t:=3) (fr:=(0,0)) (by have:=heap_alloc_new ((wr.alloc (.cells #[.int .i64 (x.t:Int),.int .i64 (x.i:Int),.bool x.last,.int .i64 x.d.k,.int .i64 x.d.p,.int .i64 x.d.v,.int .i64 x.lr] 96)).alloc (.cells #[.int .i64 (x.t:Int),.int .i64 (x.i:Int),.bool x.last,.int .i64 x.d.k,.int .i64 x.d.p,.int .i64 x.d.v,.int .i64 x.lr] 96)) (.cells #[.int .i64 (n:Int)] 3);simpa using this)) (by simp [Value.oneCell']) (by omega) (by unfold maxLen;omega) (by omega) (by have:=hT1.bel.size;simp at this ⊢;omega) (wr.heap.size+1+1+1) (by simp) ?_))
    intro g6 cap6 w6 hown6 hg6 hat6 hlt6
    have hT6:Told w w6 3 1 (.slice (some ⟨g6,0,none⟩) (acc.length+1) cap6) (acc.length+1) (nums (acc++[(n:Int)])):=by
     have e:nums (acc++[(n:Int)])=nums acc++[.int .i64 n]:=by simp [nums]
     rw [e];exact hT1.snoc hown6 hg6
    clear hown6 hg6 hat6 hlt6
    go_wp2_with fail
    exact ⟨⟨n+1,acc++[(n:Int)],some ⟨g6,0,none⟩,cap6,by simp,by go_num,by omega,by simp;omega,by show _=_;have:=HW2.out;rw [ht] at this;exact this,by rw [List.length_append];exact hT6⟩,by simp [intOf];omega⟩
  ·go_wp2_with fail
   go_ret
   have hf:=M.wrs_fin HW.out (by omega)
   exact ⟨_,rfl,by rw [hf];exact hT.own,hT.bel⟩
end
section
open Go.RowKit
structure IntSS (w:World) (a:Option Addr) (b o:Nat) (rows:List (List Int)):Prop where
 addr:0 < rows.length→a=some ⟨b,o,none⟩
 row:∀ i (h:i < rows.length),∃ a' b' o' c',w.cell? ⟨b,o+i,none⟩=some (.slice a' rows[i].length c')∧IntS w a' b' o' rows[i]
theorem IntSS.below {w w':World} {a:Option Addr} {B b o:Nat} {rows:List (List Int)} (h:IntSS w a b o rows) (hb:Below B w w') (hB:w.heap.size≤B):IntSS w' a b o rows :=
 ⟨h.addr,fun i hi=>by
  obtain ⟨a',b',o',c',hc,hr⟩:=h.row i hi
  exact ⟨a',b',o',c',(hb.cell (p:=⟨b,o+i,none⟩) (Nat.lt_of_lt_of_le (World.block_lt_of_cell? _ _ hc) hB)).trans hc,hr.below hb hB⟩⟩
theorem M.all_step {row evs:List Int} {n:Nat} (h:evs.all (row.contains ·)=(evs.drop n).all (row.contains ·)) (hn:n < evs.length):evs.all (row.contains ·)=(M.has row evs[n]&&(evs.drop (n+1)).all (row.contains ·)):=by
 rw [h,← List.getElem_cons_drop hn,List.all_cons];rfl
set_option maxHeartbeats 400000 in
theorem isRowOf_any (a:Option Addr) (b o c:Nat) (row:List Int) (a2:Option Addr) (b2 o2 c2:Nat) (evs:List Int) (w:World) (hl:row.length≤1048576) (hl2:evs.length≤1048576) (h:IntS w a b o row) (h2:IntS w a2 b2 o2 evs) :
  Calls Tryz.prog 130 #[.slice a row.length c,.slice a2 evs.length c2] w fun e w'=>e=.returned (.bool (M.isRow row evs))∧w'=w:=by
 by_cases hln:row.length=evs.length
 ·have HF:Hid (M.isRow row evs=evs.all (row.contains ·)):=by show _=_;simp [M.isRow,hln]
  have hq:((row.length:Int) != evs.length)=false:=by simp;omega
  have HL:Hid (row.length=evs.length):=hln
  clear hln
  go_enter Tryz.func130,Tryz.ntmps130
  go_wp2_with fail
  go_loopw [14] (fun s14 wr=>∃ n:Nat,s14=.int .i64 n∧n≤evs.length∧Hid (evs.all (row.contains ·)=(evs.drop n).all (row.contains ·))∧wr=w) (fun s14 _=>evs.length - (intOf s14).toNat)
  case atStart=>exact ⟨0,rfl,Nat.zero_le _,by show _=_;rfl,rfl⟩
  case round =>
   obtain ⟨n,rfl,hn,HA,rfl⟩:=hrel
   by_cases hlt:n < evs.length
   ·obtain ⟨rfl⟩:=h2.addr (by omega)
    have hx:=h2.row n hlt
    have HS:Hid (evs.all (row.contains ·)=(M.has row evs[n]&&(evs.drop (n+1)).all (row.contains ·))):=M.all_step HA.out hlt
    clear HA
    generalize evs[n]=y at *
    have i1:(n:Int) < evs.length:=by omega
    cases hh:M.has row y
    ·go_wp2_with (go_at_call 179;refine (containsI_any a b o c row y _ hl h).mono ?_;rw [hh];rintro e w' ⟨rfl,rfl⟩)
     go_ret
     exact ⟨ret_bool (by rw [HF.out,HS.out,hh];rfl),rfl⟩
    ·go_wp2_with (go_at_call 179;refine (containsI_any a b o c row y _ hl h).mono ?_;rw [hh];rintro e w' ⟨rfl,rfl⟩)
     exact ⟨⟨n+1,by go_num,by omega,by show _=_;rw [HS.out,hh];rfl,trivial⟩,by simp [intOf];omega⟩
   ·go_wp2_with fail
    go_ret
    exact ⟨ret_bool (by rw [HF.out,HA.out,List.drop_eq_nil_of_le (by omega)];rfl),rfl⟩
 ·have hln':((row.length:Int)==evs.length)=false:=by simp;omega
  go_enter Tryz.func130,Tryz.ntmps130
  go_wp2_with fail
  go_ret
  exact ⟨ret_bool (by simp [M.isRow,hln]),rfl⟩
theorem M.order_step {ds:List M.De} {rows:List (List Int)} {n:Nat} (h:M.orderAt ds 0 rows=M.orderAt ds n (rows.drop n)) (hn:n < rows.length):M.orderAt ds 0 rows=(M.isRow rows[n] (M.wrs n 0 ds)&&M.orderAt ds (n+1) (rows.drop (n+1))):=by
 rw [h,← List.getElem_cons_drop hn,M.orderAt]
set_option maxHeartbeats 400000 in
theorem orderOk_any (va:Option Addr) (g c:Nat) (ds:List M.De) (a:Option Addr) (b o c2:Nat) (rows:List (List Int)) (w:World) (hl:ds.length≤1048576) (hl2:rows.length≤1048576) (hls:∀ r∈rows,r.length≤1048576) (h:DeS w va g ds) (h2:IntSS w a b o rows) :
  Calls Tryz.prog 144 #[.slice va ds.length c,.slice a rows.length c2] w fun e w'=>e=.returned (.bool (M.orderOk ds rows))∧Below w.heap.size w w':=by
 by_cases hln:rows.length=3
 ·have HF:Hid (M.orderOk ds rows=M.orderAt ds 0 rows):=by show _=_;simp [M.orderOk,hln]
  have hl3:((rows.length:Int) != 3)=false:=by simp;omega
  clear hln
  go_enter Tryz.func144,Tryz.ntmps144
  go_wp2_with fail
  go_loopw [12] (fun s12 wr=>∃ n:Nat,s12=.int .i64 n∧n≤rows.length∧Hid (M.orderAt ds 0 rows=M.orderAt ds n (rows.drop n))∧Below w.heap.size w wr) (fun s12 _=>rows.length - (intOf s12).toNat)
  case atStart=>exact ⟨0,rfl,Nat.zero_le _,by show _=_;rfl,Below.refl _ _⟩
  case round =>
   obtain ⟨n,rfl,hn,HA,hb⟩:=hrel
   by_cases hlt:n < rows.length
   ·have HS:Hid (M.orderAt ds 0 rows=(M.isRow rows[n] (M.wrs n 0 ds)&&M.orderAt ds (n+1) (rows.drop (n+1)))):=M.order_step HA.out hlt
    clear HA
    obtain ⟨rfl⟩:=h2.addr (by omega)
    obtain ⟨a',b',o',c',hc,hr⟩:=(h2.below hb (Nat.le_refl _)).row n hlt
    have hle:=hls _ (List.getElem_mem hlt)
    generalize rows[n]=row at *
    have i1:(n:Int) < rows.length:=by omega
    have hwl:(M.wrs (n:Int) 0 ds).length≤1048576:=Nat.le_trans (M.wrs_len _ _ _) hl
    go_wp2_with fail
    refine (writers_any va g c ds n wr hl (h.bel hb (Nat.le_refl _))).mono ?_
    rintro e w1 ⟨v1,rfl,hown1,hb1⟩
    obtain ⟨va1,g1,c1,rfl,hi1,_⟩:=own_nums hown1
    have hbb:=hb.trans (hb1.mono hb.size)
    cases hh:M.isRow row (M.wrs n 0 ds)
    ·go_wp2_with (go_at_call 130;refine (isRowOf_any a' b' o' c' row va1 g1 0 c1 _ _ hle hwl (hr.below hb1 (Nat.le_refl _)) hi1).mono ?_;rw [hh];rintro e w' ⟨rfl,rfl⟩)
     go_ret
     exact ⟨ret_bool (by rw [HF.out,HS.out,hh];rfl),hbb⟩
    ·go_wp2_with (go_at_call 130;refine (isRowOf_any a' b' o' c' row va1 g1 0 c1 _ _ hle hwl (hr.below hb1 (Nat.le_refl _)) hi1).mono ?_;rw [hh];rintro e w' ⟨rfl,rfl⟩)
     exact ⟨⟨n+1,by go_num,by omega,by show _=_;rw [HS.out,hh];rfl,hbb⟩,by simp [intOf];omega⟩
   ·go_wp2_with fail
    go_ret
    exact ⟨ret_bool (by rw [HF.out,HA.out,List.drop_eq_nil_of_le (by omega)];rfl),hb⟩
 ·have hln':((rows.length:Int)==3)=false:=by simp;omega
  go_enter Tryz.func144,Tryz.ntmps144
  go_wp2_with fail
  go_ret
  exact ⟨ret_bool (by simp [M.orderOk,hln]),Below.refl _ _⟩
end
section
open Go.RowKit
structure BelowOf (W:World) where
 x:World
 h:Below W.heap.size W x
def belOf (W:World):BelowOf W:=⟨W,Below.refl _ _⟩
theorem wp_region_quiet_bel {P:Program} {id:Nat} {Q:Exit→Act→World→Prop} {a:Act} {w:World} {l:List Oper} (hm:P.follows .mixedOrders=true) (hB:Region.lexB .any l.toArray=true)
  (h:wpQuiet P l.toArray (fun w'=>∃ p:BelowOf w,w'=p.x) (fun a'=>∀ w',(∃ p:BelowOf w,w'=p.x)→Q .normal a' w') l a):(Code.region id l.toArray true).wp P Q a w :=
 wp_region_quiet (C:=fun w'=>∃ p:BelowOf w,w'=p.x) hm hB ⟨⟨w.drew,(Below.refl _ _).drew⟩,rfl⟩ (by simpa using h)
theorem BelowOf.cell {W:World} {b o:Nat} {v:Value} (h:W.cell? ⟨b,o,none⟩=some v):∀ p:BelowOf W,p.x.cell? ⟨b,o,none⟩=some v:=fun p =>
 (p.h.cell (p:=⟨b,o,none⟩) (World.block_lt_of_cell? _ _ h)).trans h
theorem Calls.bel_of {P:Program} {f:FuncId} {args:Array Value} {W:World} {p:BelowOf W} {v:Value} (h:Calls P f args p.x fun e w'=>e=.returned v∧Below p.x.heap.size p.x w') :
  Calls P f args p.x fun e w''=>e=.returned v∧∃ p':BelowOf W,w''=p'.x :=
 h.mono fun _ w' ⟨he,hb⟩=>⟨he,⟨w',p.h.trans (hb.mono p.h.size)⟩,rfl⟩
theorem Calls.bel_of_same {P:Program} {f:FuncId} {args:Array Value} {W:World} {p:BelowOf W} {v:Value} (h:Calls P f args p.x fun e w'=>e=.returned v∧w'=p.x) :
  Calls P f args p.x fun e w''=>e=.returned v∧∃ p':BelowOf W,w''=p'.x :=
 h.mono fun _ _ ⟨he,hb⟩=>⟨he,p,hb⟩
end
section
open Go.RowKit
namespace M
theorem tell_no {ds:List De} {x:De} {f:Int} (h:x.reads=false):mayTell ds x f=(f==-2):=by simp [mayTell,h]
theorem tell_nobody {ds:List De} {x:De} (h:x.reads=true):mayTell ds x (-1)=true:=by simp [mayTell,h]
theorem tell_low {ds:List De} {x:De} {f:Int} (h:x.reads=true) (h1:f≠-1) (h0:¬ 0≤f):mayTell ds x f=false:=by simp [mayTell,h,h1,h0]
theorem tell_high {ds:List De} {x:De} {f:Int} (h:x.reads=true) (h1:f≠-1) (h0:¬ f < ds.length):mayTell ds x f=false:=by simp [mayTell,h,h1,h0]
theorem tell_at {ds:List De} {x:De} {n:Nat} (h:x.reads=true) (hn:n < ds.length):mayTell ds x (n:Int)=(ds[n]).to x.d.p:=by
 have h1:((n:Int)==-1)=false:=by simp
 have h2:decide ((0:Int)≤n)=true:=by simp
 have h3:decide ((n:Int) < ds.length)=true:=by simpa using hn
 simp only [mayTell,h,h1,h2,h3,Int.toNat_natCast,List.getElem?_eq_getElem hn]
 rfl
theorem from_step {ds:List De} {l:List Int} {n:Nat} (h:fromAt ds ds l=fromAt ds (ds.drop n) (l.drop n)) (hn:n < ds.length) (hl:n < l.length):fromAt ds ds l=(mayTell ds ds[n] l[n]&&fromAt ds (ds.drop (n+1)) (l.drop (n+1))):=by
 rw [h,← List.getElem_cons_drop hn,← List.getElem_cons_drop hl,fromAt]
end M
theorem writesTo_bel (x:M.De) (p:Int) (w:World):Calls Tryz.prog 200 #[x.agg,.int .i64 p] w fun e w'=>e=.returned (.bool (x.to p))∧Below w.heap.size w w' :=
 (writesTo_any x p w).mono fun e w' ⟨he,hw⟩=>⟨he,by rw [hw];exact below1 _ _⟩
set_option maxHeartbeats 1000000 in
set_option maxRecDepth 100000 in
theorem mayTell_any (va:Option Addr) (g c:Nat) (ds:List M.De) (x:M.De) (f:Int) (w:World) (hl:ds.length≤1048576) (h:DeS w va g ds) :
  Calls Tryz.prog 183 #[.slice va ds.length c,x.agg,.int .i64 f] w fun e w'=>e=.returned (.bool (M.mayTell ds x f))∧Below w.heap.size w w':=by
 have hb2:=below2 w (.cells #[.int .i64 (x.t:Int),.int .i64 (x.i:Int),.bool x.last,.int .i64 x.d.k,.int .i64 x.d.p,.int .i64 x.d.v,.int .i64 x.lr] 96) (.cells #[.int .i64 (x.t:Int),.int .i64 (x.i:Int),.bool x.last,.int .i64 x.d.k,.int .i64 x.d.p,.int .i64 x.d.v,.int .i64 x.lr] 96)
 cases hr:x.reads
 ·go_enter Tryz.func183,Tryz.ntmps183
  go_wp2_with (go_at_call 123;refine (deReads_any x _).mono ?_;rw [hr];rintro e w' ⟨rfl,rfl⟩)
  go_ret
  exact ⟨ret_bool (M.tell_no hr).symm,hb2⟩
 ·have k4:((w.alloc (.cells #[.int .i64 (x.t:Int),.int .i64 (x.i:Int),.bool x.last,.int .i64 x.d.k,.int .i64 x.d.p,.int .i64 x.d.v,.int .i64 x.lr] 96)).alloc (.cells #[.int .i64 (x.t:Int),.int .i64 (x.i:Int),.bool x.last,.int .i64 x.d.k,.int .i64 x.d.p,.int .i64 x.d.v,.int .i64 x.lr] 96)).cell? ⟨w.heap.size,4,none⟩=some (.int .i64 x.d.p):=by simp
  go_enter Tryz.func183,Tryz.ntmps183
  go_wp2_with (go_at_call 123;refine (deReads_any x _).mono ?_;rw [hr];rintro e w' ⟨rfl,rfl⟩)
  have hds:=h.bel hb2 (Nat.le_refl _)
  generalize (w.alloc (.cells #[.int .i64 (x.t:Int),.int .i64 (x.i:Int),.bool x.last,.int .i64 x.d.k,.int .i64 x.d.p,.int .i64 x.d.v,.int .i64 x.lr] 96)).alloc (.cells #[.int .i64 (x.t:Int),.int .i64 (x.i:Int),.bool x.last,.int .i64 x.d.k,.int .i64 x.d.p,.int .i64 x.d.v,.int .i64 x.lr] 96)=W at *
  have K4:=BelowOf.cell k4
  have lt0:w.heap.size < W.heap.size:=World.block_lt_of_cell? _ _ k4
  clear h k4
  haveI:Inhabited (BelowOf W):=⟨belOf W⟩
  by_cases h1:f=-1
  ·subst h1
   refine wp_region_quiet_bel (by kernel_rfl) (by kernel_rfl) ?_
   iterate 3 (quiet_step (fail))
   iterate 18 go_big_quiet_skip
   iterate 2 (quiet_step (fail))
   refine wpQuiet_nil ?_
   rintro _ ⟨⟨wq,hwq⟩,rfl⟩
   go_wp2_with fail
   go_ret
   exact ⟨ret_bool (M.tell_nobody hr).symm,hb2.trans (hwq.mono hb2.size)⟩
  ·have h1':(f==-1)=false:=by simpa using h1
   by_cases h0:0≤f
   ·by_cases hlt:f < ds.length
    ·obtain ⟨n,rfl⟩:∃ n:Nat,f=n:=⟨f.toNat,by omega⟩
     have hn:n < ds.length:=by omega
     obtain ⟨rfl⟩:=hds.addr (by omega)
     have HM:Hid (M.mayTell ds x (n:Int)=(ds[n]).to x.d.p):=M.tell_at hr hn
     obtain ⟨c0,c1,c2,c3,c4,c5,c6⟩:=DeS.at hds hn
     generalize ds[n]=y at *
     have Y0:=BelowOf.cell c0
     have Y1:=BelowOf.cell c1
     have Y2:=BelowOf.cell c2
     have Y3:=BelowOf.cell c3
     have Y4:=BelowOf.cell c4
     have Y5:=BelowOf.cell c5
     have Y6:=BelowOf.cell c6
     have C:=fun q:BelowOf W=>writesTo_bel y x.d.p q.x
     clear c0 c1 c2 c3 c4 c5 c6
     refine wp_region_quiet_bel (by kernel_rfl) (by kernel_rfl) ?_
     repeat (quiet_step (first | (go_at_call 200;exact Calls.bel_of (C _))))
     refine wpQuiet_nil ?_
     rintro _ ⟨⟨wq,hwq⟩,rfl⟩
     go_wp2_with fail
     go_ret
     exact ⟨ret_bool HM.out.symm,hb2.trans (hwq.mono hb2.size)⟩
    ·have hlt':decide (f < ds.length)=false:=by simpa using hlt
     refine wp_region_quiet_bel (by kernel_rfl) (by kernel_rfl) ?_
     iterate 12 (quiet_step (fail))
     iterate 8 go_big_quiet_skip
     iterate 3 (quiet_step (fail))
     refine wpQuiet_nil ?_
     rintro _ ⟨⟨wq,hwq⟩,rfl⟩
     go_wp2_with fail
     go_ret
     exact ⟨ret_bool (M.tell_high hr h1 (by omega)).symm,hb2.trans (hwq.mono hb2.size)⟩
   ·have h0':decide (0≤f)=false:=by simpa using h0
    refine wp_region_quiet_bel (by kernel_rfl) (by kernel_rfl) ?_
    iterate 6 (quiet_step (fail))
    iterate 4 go_big_quiet_skip
    iterate 2 (quiet_step (fail))
    iterate 8 go_big_quiet_skip
    iterate 3 (quiet_step (fail))
    refine wpQuiet_nil ?_
    rintro _ ⟨⟨wq,hwq⟩,rfl⟩
    go_wp2_with fail
    go_ret
    exact ⟨ret_bool (M.tell_low hr h1 (by omega)).symm,hb2.trans (hwq.mono hb2.size)⟩
set_option maxHeartbeats 1000000 in
set_option maxRecDepth 100000 in
theorem fromOk_any (va:Option Addr) (g c:Nat) (ds:List M.De) (a:Option Addr) (b o c2:Nat) (l:List Int) (w:World) (hl:ds.length≤1048576) (hl2:l.length≤1048576) (h:DeS w va g ds) (h2:IntS w a b o l) :
  Calls Tryz.prog 143 #[.slice va ds.length c,.slice a l.length c2] w fun e w'=>e=.returned (.bool (M.fromOk ds l))∧Below w.heap.size w w':=by
 by_cases hln:l.length=ds.length
 ·have HF:Hid (M.fromOk ds l=M.fromAt ds ds l):=by show _=_;simp [M.fromOk,hln]
  have hq:((l.length:Int) != ds.length)=false:=by simp;omega
  have HL:Hid (l.length=ds.length):=hln
  clear hln
  go_enter Tryz.func143,Tryz.ntmps143
  go_wp2_with fail
  go_loopw [14] (fun s14 wr=>∃ n:Nat,s14=.int .i64 n∧n≤ds.length∧Hid (M.fromAt ds ds l=M.fromAt ds (ds.drop n) (l.drop n))∧Below w.heap.size w wr) (fun s14 _=>ds.length - (intOf s14).toNat)
  case atStart=>exact ⟨0,rfl,Nat.zero_le _,by show _=_;rfl,Below.refl _ _⟩
  case round =>
   obtain ⟨n,rfl,hn,HA,hb⟩:=hrel
   by_cases hlt:n < ds.length
   ·have hltl:n < l.length:=by rw [HL.out];exact hlt
    have HS:Hid (M.fromAt ds ds l=(M.mayTell ds ds[n] l[n]&&M.fromAt ds (ds.drop (n+1)) (l.drop (n+1)))):=M.from_step HA.out hlt hltl
    clear HA
    have hdr:=h.bel hb (Nat.le_refl _)
    obtain ⟨rfl⟩:=h.addr (by omega)
    obtain ⟨rfl⟩:=h2.addr (by omega)
    have hx:=DeS.at hdr hlt
    have hf:=(h2.below hb (Nat.le_refl _)).row n hltl
    generalize ds[n]=x at *
    generalize l[n]=f at *
    obtain ⟨c0,c1,c2',c3,c4,c5,c6⟩:=hx
    have i1:(n:Int) < ds.length:=by omega
    have i2:(n:Int) < l.length:=by omega
    have hbx:=below1 wr (.cells #[.int .i64 (x.t:Int),.int .i64 (x.i:Int),.bool x.last,.int .i64 x.d.k,.int .i64 x.d.p,.int .i64 x.d.v,.int .i64 x.lr] 96)
    have hbx2:=hb.trans (hbx.mono hb.size)
    have hfx:=(hbx.cell (p:=⟨b,o+n,none⟩) (World.block_lt_of_cell? _ _ hf)).trans hf
    have hdx:=hdr.bel hbx (Nat.le_refl _)
    have k0:(wr.alloc (.cells #[.int .i64 (x.t:Int),.int .i64 (x.i:Int),.bool x.last,.int .i64 x.d.k,.int .i64 x.d.p,.int .i64 x.d.v,.int .i64 x.lr] 96)).cell? ⟨wr.heap.size,0,none⟩=some (.int .i64 x.t):=by simp
    have k1:(wr.alloc (.cells #[.int .i64 (x.t:Int),.int .i64 (x.i:Int),.bool x.last,.int .i64 x.d.k,.int .i64 x.d.p,.int .i64 x.d.v,.int .i64 x.lr] 96)).cell? ⟨wr.heap.size,1,none⟩=some (.int .i64 x.i):=by simp
    have k2:(wr.alloc (.cells #[.int .i64 (x.t:Int),.int .i64 (x.i:Int),.bool x.last,.int .i64 x.d.k,.int .i64 x.d.p,.int .i64 x.d.v,.int .i64 x.lr] 96)).cell? ⟨wr.heap.size,2,none⟩=some (.bool x.last):=by simp
    have k3:(wr.alloc (.cells #[.int .i64 (x.t:Int),.int .i64 (x.i:Int),.bool x.last,.int .i64 x.d.k,.int .i64 x.d.p,.int .i64 x.d.v,.int .i64 x.lr] 96)).cell? ⟨wr.heap.size,3,none⟩=some (.int .i64 x.d.k):=by simp
    have k4:(wr.alloc (.cells #[.int .i64 (x.t:Int),.int .i64 (x.i:Int),.bool x.last,.int .i64 x.d.k,.int .i64 x.d.p,.int .i64 x.d.v,.int .i64 x.lr] 96)).cell? ⟨wr.heap.size,4,none⟩=some (.int .i64 x.d.p):=by simp
    have k5:(wr.alloc (.cells #[.int .i64 (x.t:Int),.int .i64 (x.i:Int),.bool x.last,.int .i64 x.d.k,.int .i64 x.d.p,.int .i64 x.d.v,.int .i64 x.lr] 96)).cell? ⟨wr.heap.size,5,none⟩=some (.int .i64 x.d.v):=by simp
    have k6:(wr.alloc (.cells #[.int .i64 (x.t:Int),.int .i64 (x.i:Int),.bool x.last,.int .i64 x.d.k,.int .i64 x.d.p,.int .i64 x.d.v,.int .i64 x.lr] 96)).cell? ⟨wr.heap.size,6,none⟩=some (.int .i64 x.lr):=by simp
    go_wp2_with fail
    generalize wr.alloc (.cells #[.int .i64 (x.t:Int),.int .i64 (x.i:Int),.bool x.last,.int .i64 x.d.k,.int .i64 x.d.p,.int .i64 x.d.v,.int .i64 x.lr] 96)=W at *
    generalize wr.heap.size=K at *
    have K0:=BelowOf.cell k0
    have K1:=BelowOf.cell k1
    have K2:=BelowOf.cell k2
    have K3:=BelowOf.cell k3
    have K4:=BelowOf.cell k4
    have K5:=BelowOf.cell k5
    have K6:=BelowOf.cell k6
    have KF:=BelowOf.cell hfx
    have C:=fun q:BelowOf W=>mayTell_any (some ⟨g,0,none⟩) g c ds x f q.x hl (hdx.bel q.h (Nat.le_refl _))
    clear k0 k1 k2 k3 k4 k5 k6 c0 c1 c2' c3 c4 c5 c6 hf hfx
    haveI:Inhabited (BelowOf W):=⟨belOf W⟩
    cases ht:M.mayTell ds x f
    ·rw [ht] at C
     refine wp_region_quiet_bel (by kernel_rfl) (by kernel_rfl) ?_
     repeat (quiet_step (first | (go_at_call 183;exact Calls.bel_of (C _))))
     refine wpQuiet_nil ?_
     rintro _ ⟨⟨wq,hwq⟩,rfl⟩
     go_wp2_with fail
     go_ret
     exact ⟨ret_bool (by rw [HF.out,HS.out,ht];rfl),hbx2.trans (hwq.mono hbx2.size)⟩
    ·rw [ht] at C
     refine wp_region_quiet_bel (by kernel_rfl) (by kernel_rfl) ?_
     repeat (quiet_step (first | (go_at_call 183;exact Calls.bel_of (C _))))
     refine wpQuiet_nil ?_
     rintro _ ⟨⟨wq,hwq⟩,rfl⟩
     go_wp2_with fail
     exact ⟨⟨n+1,by go_num,by omega,by show _=_;rw [HS.out,ht];rfl,hbx2.trans (hwq.mono hbx2.size)⟩,by simp [intOf];omega⟩
   ·go_wp2_with fail
    go_ret
    exact ⟨ret_bool (by rw [HF.out,HA.out,List.drop_eq_nil_of_le (by omega)];rfl),hb⟩
 ·have hln':((l.length:Int)==ds.length)=false:=by simp;omega
  go_enter Tryz.func143,Tryz.ntmps143
  go_wp2_with fail
  go_ret
  exact ⟨ret_bool (by simp [M.fromOk,hln]),Below.refl _ _⟩
end
section
open Go.RowKit
def M.In (ds:List M.De) (l:List Int):Prop:=∀ n,n < ds.length→M.valFrom ds l n < ds.length
theorem M.lr_lt {ll:List (List M.D)}:∀ x∈M.deeds ll,x.lr < (M.deeds ll).length:=by
 have hD:∀ (t i:Nat) (lr:Int) (n:Nat) (d:M.D),∀ x∈M.deD t i lr n d,x.lr=M.lrOf lr n d:=fun t i lr n d x hx=>by
  unfold M.deD at hx;split at hx<;>simp at hx<;>rcases hx with rfl | rfl<;>rfl
 have hT:∀ (l:List M.D) (t i:Nat) (lr:Int) (n:Nat),lr < n→∀ x∈M.deT t i lr n l,x.lr < ((n+(M.deT t i lr n l).length:Nat):Int):=by
  intro l
  induction l with
  | nil=>intro t i lr n _ x hx;simp [M.deT] at hx
  | cons d l ih =>
   intro t i lr n hlr x hx
   have h1:=(M.deD_len t i lr n d).1
   have hlo:M.lrOf lr n d < ((n+(M.deD t i lr n d).length:Nat):Int):=by unfold M.lrOf;split<;>omega
   rw [M.deT,List.length_append]
   rw [M.deT] at hx
   rcases List.mem_append.1 hx with hx | hx
   ·have:=hD t i lr n d x hx
    omega
   ·have:=ih t (i+1) (M.lrOf lr n d) _ hlo x hx
    omega
 have hF:∀ (ll:List (List M.D)) (t n:Nat),∀ x∈M.deF t n ll,x.lr < ((n+(M.deF t n ll).length:Nat):Int):=by
  intro ll
  induction ll with
  | nil=>intro t n x hx;simp [M.deF] at hx
  | cons l ll ih =>
   intro t n x hx
   rw [M.deF,List.length_append]
   rw [M.deF] at hx
   rcases List.mem_append.1 hx with hx | hx
   ·have:=hT l t 0 (-1) n (by omega) x hx
    omega
   ·have:=ih (t+1) _ x hx
    omega
 intro x hx
 have:=hF ll 0 0 x hx
 rw [Nat.zero_add] at this
 exact this
theorem M.fromAt_get {ds:List M.De}:∀ {xs:List M.De} {l:List Int},M.fromAt ds xs l=true→∀ n (h:n < xs.length),∃ h2:n < l.length,M.mayTell ds xs[n] l[n]=true:=by
 intro xs
 induction xs with
 | nil=>intro l _ n h;exact absurd h (Nat.not_lt_zero _)
 | cons x xs ih =>
  intro l h n hn
  cases l with
  | nil=>simp [M.fromAt] at h
  | cons f l =>
   simp only [M.fromAt,Bool.and_eq_true] at h
   cases n with
   | zero=>exact ⟨by simp,h.1⟩
   | succ n =>
    obtain ⟨h2,h3⟩:=ih h.2 n (by simpa using hn)
    exact ⟨by simpa using h2,by simpa using h3⟩
theorem M.in_of {ll:List (List M.D)} {l:List Int} (h:M.fromOk (M.deeds ll) l=true):M.In (M.deeds ll) l:=by
 intro n hn
 simp only [M.fromOk,Bool.and_eq_true,decide_eq_true_eq] at h
 obtain ⟨h2,ht⟩:=M.fromAt_get h.2 n hn
 unfold M.valFrom
 rw [List.getElem?_eq_getElem hn]
 simp only []
 split
 ·rename_i hr
  rw [List.getD_eq_getElem?_getD,List.getElem?_eq_getElem h2]
  show l[n] < _
  simp only [M.mayTell,hr,if_true,Bool.or_eq_true,Bool.and_eq_true,decide_eq_true_eq,beq_iff_eq] at ht
  rcases ht with ht | ht
  ·omega
  ·omega
 ·split
  ·exact M.lr_lt _ (List.getElem_mem hn)
  ·omega
set_option maxHeartbeats 400000 in
theorem valueFrom_any (va:Option Addr) (g c:Nat) (ds:List M.De) (a:Option Addr) (b o c2:Nat) (l:List Int) (n:Nat) (w:World) (hn:n < ds.length) (hln:n < l.length) (hl:ds.length≤1048576) (hl2:l.length≤1048576) (h:DeS w va g ds) (h2:IntS w a b o l) :
  Calls Tryz.prog 204 #[.slice va ds.length c,.slice a l.length c2,.int .i64 n] w fun e w'=>e=.returned (.int .i64 (M.valFrom ds l n))∧Below w.heap.size w w':=by
 obtain ⟨rfl⟩:=h.addr (by omega)
 obtain ⟨rfl⟩:=h2.addr (by omega)
 have hx:=DeS.at h hn
 have hf:=h2.row n hln
 have HV:Hid (M.valFrom ds l n=if (ds[n]).reads then l[n] else if (ds[n]).d.k==3 then (ds[n]).lr else -1):=by
  show _=_
  simp [M.valFrom,hn,hln]
 generalize ds[n]=x at *
 generalize l[n]=f at *
 obtain ⟨c0,c1,c2',c3,c4,c5,c6⟩:=hx
 have i1:(n:Int) < ds.length:=by omega
 have i2:(n:Int) < l.length:=by omega
 have lb:b < w.heap.size:=World.block_lt_of_cell? _ _ hf
 cases hr:x.reads
 ·cases h3:(x.d.k==3)
  all_goals
   go_enter Tryz.func204,Tryz.ntmps204
   go_wp2_with (go_at_call 123;refine (deReads_any x _).mono ?_;rw [hr];rintro e w' ⟨rfl,rfl⟩)
   go_ret
   exact ⟨by rw [HV.out,hr,h3];rfl,below2 _ _ _⟩
 ·go_enter Tryz.func204,Tryz.ntmps204
  go_wp2_with (go_at_call 123;refine (deReads_any x _).mono ?_;rw [hr];rintro e w' ⟨rfl,rfl⟩)
  go_ret
  exact ⟨by rw [HV.out,hr];rfl,below2 _ _ _⟩
def M.origV (r:Option Nat):Value:=match r with | none=>.tuple #[.int .i64 0,.bool false] | some n=>.tuple #[.int .i64 n,.bool true]
set_option maxHeartbeats 1000000 in
theorem origin_any (va:Option Addr) (g c:Nat) (ds:List M.De) (a:Option Addr) (b o c2:Nat) (l:List Int) (n:Nat) (w:World) (hn:n < ds.length) (hll:l.length=ds.length) (hin:M.In ds l) (hl:ds.length≤1048576) (h:DeS w va g ds) (h2:IntS w a b o l) :
  Calls Tryz.prog 173 #[.slice va ds.length c,.slice a l.length c2,.int .i64 n] w fun e w'=>e=.returned (M.origV (M.orig ds l ds.length n))∧Below w.heap.size w w':=by
 have HLL:Hid (l.length=ds.length):=hll
 have hl2:l.length≤1048576:=by omega
 clear hll
 go_enter Tryz.func173,Tryz.ntmps173
 go_wp2_with fail
 go_loopw [2,11] (fun s2 s11 wr=>∃ m q:Nat,s2=.int .i64 m∧s11=.int .i64 q∧q≤ds.length∧m < ds.length∧Hid (M.orig ds l ds.length n=M.orig ds l (ds.length - q) m)∧Below w.heap.size w wr) (fun _ s11 _=>ds.length - (intOf s11).toNat)
 case atStart=>exact ⟨n,0,rfl,rfl,Nat.zero_le _,hn,by show _=_;rfl,Below.refl _ _⟩
 case round =>
  obtain ⟨m,q,rfl,rfl,hq,hm,HO,hb⟩:=hrel
  by_cases hlt:q < ds.length
  ·have HS:Hid (M.orig ds l ds.length n=if M.valFrom ds l m < 0 then some m else M.orig ds l (ds.length - (q+1)) (M.valFrom ds l m).toNat):=by
    show _=_
    rw [HO.out,show ds.length - q=(ds.length - (q+1))+1 from by omega,M.orig]
   clear HO
   have hi:=hin m hm
   have C:=valueFrom_any va g c ds a b o c2 l m wr hm (by rw [HLL.out];exact hm) hl hl2 (h.bel hb (Nat.le_refl _)) (h2.below hb (Nat.le_refl _))
   generalize M.valFrom ds l m=vf at *
   have i1:(q:Int) < ds.length:=by omega
   by_cases hneg:vf < 0
   ·go_wp2_with (go_at_call 204;refine C.mono ?_;rintro e w1 ⟨rfl,hb1⟩)
    go_ret2
    exact ⟨by rw [HS.out,if_pos hneg];rfl,hb.trans (hb1.mono hb.size)⟩
   ·obtain ⟨m2,rfl⟩:∃ m2:Nat,vf=m2:=⟨vf.toNat,by omega⟩
    go_wp2_with (go_at_call 204;refine C.mono ?_;rintro e w1 ⟨rfl,hb1⟩)
    exact ⟨⟨m2,q+1,rfl,by go_num,by omega,by omega,by show _=_;rw [HS.out,if_neg (by omega),Int.toNat_natCast],hb.trans (hb1.mono hb.size)⟩,by simp [intOf];omega⟩
  ·go_wp2_with fail
   go_ret2
   exact ⟨by rw [HO.out,show ds.length - q=0 from by omega];rfl,hb⟩
theorem M.ends_step {ds:List M.De} {l:List Int} {n:Nat} (h:M.endsAt ds l 0 ds=M.endsAt ds l n (ds.drop n)) (hn:n < ds.length):M.endsAt ds l 0 ds=((M.orig ds l ds.length n).isSome&&M.endsAt ds l (n+1) (ds.drop (n+1))):=by
 rw [h,← List.getElem_cons_drop hn,M.endsAt]
set_option maxHeartbeats 1000000 in
theorem copiesEnd_any (va:Option Addr) (g c:Nat) (ds:List M.De) (a:Option Addr) (b o c2:Nat) (l:List Int) (w:World) (hll:l.length=ds.length) (hin:M.In ds l) (hl:ds.length≤1048576) (h:DeS w va g ds) (h2:IntS w a b o l) :
  Calls Tryz.prog 145 #[.slice va ds.length c,.slice a l.length c2] w fun e w'=>e=.returned (.bool (M.ends ds l))∧Below w.heap.size w w':=by
 have HLL:Hid (l.length=ds.length):=hll
 clear hll
 go_enter Tryz.func145,Tryz.ntmps145
 go_wp2_with fail
 go_loopw [10] (fun s10 wr=>∃ n:Nat,s10=.int .i64 n∧n≤ds.length∧Hid (M.endsAt ds l 0 ds=M.endsAt ds l n (ds.drop n))∧Below w.heap.size w wr) (fun s10 _=>ds.length - (intOf s10).toNat)
 case atStart=>exact ⟨0,rfl,Nat.zero_le _,by show _=_;rfl,Below.refl _ _⟩
 case round =>
  obtain ⟨n,rfl,hn,HA,hb⟩:=hrel
  by_cases hlt:n < ds.length
  ·have HS:Hid (M.endsAt ds l 0 ds=((M.orig ds l ds.length n).isSome&&M.endsAt ds l (n+1) (ds.drop (n+1)))):=M.ends_step HA.out hlt
   clear HA
   have C:=origin_any va g c ds a b o c2 l n wr hlt HLL.out hin hl (h.bel hb (Nat.le_refl _)) (h2.below hb (Nat.le_refl _))
   have i1:(n:Int) < ds.length:=by omega
   cases ho:M.orig ds l ds.length n with
   | none =>
    rw [ho] at C
    change Calls _ _ _ _ fun e w'=>e=.returned (.tuple #[.int .i64 0,.bool false])∧_ at C
    go_wp2_with (go_at_call 173;refine C.mono ?_;rintro e w1 ⟨rfl,hb1⟩)
    go_ret
    exact ⟨ret_bool (by rw [M.ends,HS.out,ho];rfl),hb.trans (hb1.mono hb.size)⟩
   | some q =>
    rw [ho] at C
    change Calls _ _ _ _ fun e w'=>e=.returned (.tuple #[.int .i64 q,.bool true])∧_ at C
    go_wp2_with (go_at_call 173;refine C.mono ?_;rintro e w1 ⟨rfl,hb1⟩)
    exact ⟨⟨n+1,by go_num,by omega,by show _=_;rw [HS.out,ho];rfl,hb.trans (hb1.mono hb.size)⟩,by simp [intOf];omega⟩
  ·go_wp2_with fail
   go_ret
   exact ⟨ret_bool (by rw [M.ends,HA.out,List.drop_eq_nil_of_le (by omega)];rfl),hb⟩
end
section
open Go.RowKit
set_option maxHeartbeats 1000000 in
theorem wayOk_any (va:Option Addr) (g c:Nat) (ll:List (List M.D)) (fa:Option Addr) (fb fo fc:Nat) (l:List Int) (ra:Option Addr) (rb ro rc:Nat) (rows:List (List Int)) (w:World) (hl:(M.deeds ll).length≤1048576) (hl1:l.length≤1048576) (hl2:rows.length≤1048576) (hls:∀ r∈rows,r.length≤1048576) (h:DeS w va g (M.deeds ll)) (hf:IntS w fa fb fo l) (hr:IntSS w ra rb ro rows) :
  Calls Tryz.prog 93 #[.slice va (M.deeds ll).length c,.agg #[.slice fa l.length fc,.slice ra rows.length rc]] w fun e w'=>e=.returned (.bool (M.wayOk (M.deeds ll) l rows))∧Below w.heap.size w w':=by
 have hb1:=below1 w (.cells #[.slice fa l.length fc,.slice ra rows.length rc] 29)
 have k0:(w.alloc (.cells #[.slice fa l.length fc,.slice ra rows.length rc] 29)).cell? ⟨w.heap.size,0,none⟩=some (.slice fa l.length fc):=by simp
 have k1:(w.alloc (.cells #[.slice fa l.length fc,.slice ra rows.length rc] 29)).cell? ⟨w.heap.size,1,none⟩=some (.slice ra rows.length rc):=by simp
 have hd1:=h.bel hb1 (Nat.le_refl _)
 have hf1:=hf.below hb1 (Nat.le_refl _)
 have hr1:=hr.below hb1 (Nat.le_refl _)
 go_enter Tryz.func93,Tryz.ntmps93
 go_wp2_with fail
 generalize w.alloc (.cells #[.slice fa l.length fc,.slice ra rows.length rc] 29)=W at *
 have lt0:w.heap.size < W.heap.size:=World.block_lt_of_cell? _ _ k0
 clear h hf hr
 have C1:=fromOk_any va g c (M.deeds ll) fa fb fo fc l W hl hl1 hd1 hf1
 cases h1:M.fromOk (M.deeds ll) l
 ·rw [h1] at C1
  refine C1.mono ?_
  rintro e w1 ⟨rfl,hb2⟩
  go_wp2_with fail
  go_ret
  exact ⟨ret_bool (by simp [M.wayOk,h1]),hb1.trans (hb2.mono hb1.size)⟩
 ·rw [h1] at C1
  have HIN:M.In (M.deeds ll) l:=M.in_of h1
  have HLN:Hid (l.length=(M.deeds ll).length):=by
   show _=_
   simp only [M.fromOk,Bool.and_eq_true,decide_eq_true_eq] at h1
   exact h1.1
  refine C1.mono ?_
  rintro e w1 ⟨rfl,hb2⟩
  have k0':=(hb2.cell (p:=⟨w.heap.size,0,none⟩) lt0).trans k0
  have k1':=(hb2.cell (p:=⟨w.heap.size,1,none⟩) lt0).trans k1
  have lt1:=Nat.lt_of_lt_of_le lt0 hb2.size
  go_wp2_with fail
  have C2:=orderOk_any va g c (M.deeds ll) ra rb ro rc rows w1 hl hl2 hls (hd1.bel hb2 (Nat.le_refl _)) (hr1.below hb2 (Nat.le_refl _))
  have hb12:=hb1.trans (hb2.mono hb1.size)
  clear k0 k1 C1
  cases h2:M.orderOk (M.deeds ll) rows
  ·rw [h2] at C2
   refine C2.mono ?_
   rintro e w2 ⟨rfl,hb3⟩
   go_wp2_with fail
   go_ret
   exact ⟨ret_bool (by simp [M.wayOk,h1,h2]),hb12.trans (hb3.mono hb12.size)⟩
  ·rw [h2] at C2
   refine C2.mono ?_
   rintro e w2 ⟨rfl,hb3⟩
   have k0'':=(hb3.cell (p:=⟨w.heap.size,0,none⟩) lt1).trans k0'
   have hb123:=hb12.trans (hb3.mono hb12.size)
   have C3:=copiesEnd_any va g c (M.deeds ll) fa fb fo fc l w2 HLN.out HIN hl ((hd1.bel hb2 (Nat.le_refl _)).bel hb3 (Nat.le_refl _)) ((hf1.below hb2 (Nat.le_refl _)).below hb3 (Nat.le_refl _))
   clear k0' k1'
   go_wp2_with fail
   refine C3.mono ?_
   rintro e w3 ⟨rfl,hb4⟩
   go_wp2_with fail
   go_ret
   exact ⟨ret_bool (by simp [M.wayOk,h1,h2]),hb123.trans (hb4.mono hb123.size)⟩
set_option maxHeartbeats 1000000 in
set_option maxRecDepth 100000 in
theorem iexecOk_any (a:Option Addr) (b o c:Nat) (ll:List (List M.D)) (fa:Option Addr) (fb fo fc:Nat) (l:List Int) (ra:Option Addr) (rb ro rc:Nat) (rows:List (List Int)) (w:World) (hl:ll.length≤1048576) (hls:∀ t∈ll,t.length≤1048576) (hl1:l.length≤1048576) (hl2:rows.length≤1048576) (hrs:∀ r∈rows,r.length≤1048576) (h:DoSS w a b o ll) (hf:IntS w fa fb fo l) (hr:IntSS w ra rb ro rows) :
  Calls Tryz.prog 43 #[.agg #[.slice a ll.length c],.agg #[.slice fa l.length fc,.slice ra rows.length rc]] w fun e w'=>e=.returned (.bool (M.execOk ll l rows))∧Below w.heap.size w w':=by
 have hb1:=below2 w (.cells #[.slice a ll.length c] 25) (.cells #[.slice fa l.length fc,.slice ra rows.length rc] 29)
 have kp:((w.alloc (.cells #[.slice a ll.length c] 25)).alloc (.cells #[.slice fa l.length fc,.slice ra rows.length rc] 29)).cell? ⟨w.heap.size,0,none⟩=some (.slice a ll.length c):=by simp
 have k0:((w.alloc (.cells #[.slice a ll.length c] 25)).alloc (.cells #[.slice fa l.length fc,.slice ra rows.length rc] 29)).cell? ⟨w.heap.size+1,0,none⟩=some (.slice fa l.length fc):=by simp
 have k1:((w.alloc (.cells #[.slice a ll.length c] 25)).alloc (.cells #[.slice fa l.length fc,.slice ra rows.length rc] 29)).cell? ⟨w.heap.size+1,1,none⟩=some (.slice ra rows.length rc):=by simp
 have hp1:=h.below hb1 (Nat.le_refl _)
 have hf1:=hf.below hb1 (Nat.le_refl _)
 have hr1:=hr.below hb1 (Nat.le_refl _)
 go_enter Tryz.func43,Tryz.ntmps43
 go_wp2_with fail
 generalize (w.alloc (.cells #[.slice a ll.length c] 25)).alloc (.cells #[.slice fa l.length fc,.slice ra rows.length rc] 29)=W at *
 have lt0:w.heap.size+1 < W.heap.size:=World.block_lt_of_cell? _ _ k0
 clear h hf hr
 cases hp:M.prog ll
 ·have KP:=BelowOf.cell kp
  have C:=fun q:BelowOf W=>iprog_any a b o c ll q.x hl hls (hp1.below q.h (Nat.le_refl _))
  rw [hp] at C
  haveI:Inhabited (BelowOf W):=⟨belOf W⟩
  refine wp_region_quiet_bel (by kernel_rfl) (by kernel_rfl) ?_
  iterate 3 (quiet_step (first | (go_at_call 47;exact Calls.bel_of (C _))))
  iterate 4 go_big_quiet_skip
  iterate 2 (quiet_step (fail))
  refine wpQuiet_nil ?_
  rintro _ ⟨⟨wq,hwq⟩,rfl⟩
  go_wp2_with fail
  go_ret
  exact ⟨ret_bool (by simp [M.execOk,hp]),hb1.trans (hwq.mono hb1.size)⟩
 ·obtain ⟨h3,h7⟩:=M.prog_bounds hp
  have hdl:=M.deeds_len h3 h7
  have hp2:=hp1.below (Below.refl W.heap.size W).drew (Nat.le_refl _)
  have C1:=iprog_any a b o c ll W.drew hl hls hp2
  rw [hp] at C1
  go_region_held3 (fun w'=>w'.cell? ⟨w.heap.size,0,none⟩=some (.slice a ll.length c)∧w'.cell? ⟨w.heap.size+1,0,none⟩=some (.slice fa l.length fc)∧w'.cell? ⟨w.heap.size+1,1,none⟩=some (.slice ra rows.length rc)) (go_keep) (first
   | (go_at_call 47;refine C1.mono ?_;rintro e w1 ⟨rfl,hb2⟩;have Y0:=(hb2.cell (p:=⟨w.heap.size,0,none⟩) (Nat.lt_of_succ_lt lt0)).trans kp;have Y1:=(hb2.cell (p:=⟨w.heap.size+1,0,none⟩) lt0).trans k0;have Y2:=(hb2.cell (p:=⟨w.heap.size+1,1,none⟩) lt0).trans k1;have ltY:=Nat.lt_of_lt_of_le lt0 hb2.size)
   | (go_at_call 39;refine (deedsOf_any a b o c ll _ h3 h7 (hp2.below hb2 (Nat.le_refl _))).mono ?_;rintro e w2 ⟨v2,rfl,hown,hb3⟩;obtain ⟨va,g,cap,rfl,hrs2,_,_⟩:=own_rs M.De.len hown;have Z0:=(hb3.cell (p:=⟨w.heap.size,0,none⟩) (Nat.lt_of_succ_lt ltY)).trans Y0;have Z1:=(hb3.cell (p:=⟨w.heap.size+1,0,none⟩) ltY).trans Y1;have Z2:=(hb3.cell (p:=⟨w.heap.size+1,1,none⟩) ltY).trans Y2;have ltZ:=Nat.lt_of_lt_of_le ltY hb3.size)
   | (go_at_call 93;refine (wayOk_any va g cap ll fa fb fo fc l ra rb ro rc rows w2 (by omega) hl1 hl2 hrs hrs2 (((hf1.below (Below.refl _ _).drew (Nat.le_refl _)).below hb2 (Nat.le_refl _)).below hb3 (Nat.le_refl _)) (((hr1.below (Below.refl _ _).drew (Nat.le_refl _)).below hb2 (Nat.le_refl _)).below hb3 (Nat.le_refl _))).mono ?_;rintro e w3 ⟨rfl,hb4⟩;have X0:=(hb4.cell (p:=⟨w.heap.size,0,none⟩) (Nat.lt_of_succ_lt ltZ)).trans Z0;have X1:=(hb4.cell (p:=⟨w.heap.size+1,0,none⟩) ltZ).trans Z1;have X2:=(hb4.cell (p:=⟨w.heap.size+1,1,none⟩) ltZ).trans Z2))
  go_wp2_with fail
  go_ret
  have hb5:=((Below.refl W.heap.size W).drew.trans hb2).trans (hb3.mono hb2.size)
  exact ⟨ret_bool (by simp [M.execOk,hp]),hb1.trans ((hb5.trans (hb4.mono hb5.size)).mono hb1.size)⟩
end
section
open Go.RowKit
set_option maxHeartbeats 400000 in
theorem cntReads_any (a:Option Addr) (b o c:Nat) (l:List M.D) (w:World) (hl:l.length≤1048576) (h:DoS w a b o l) :
  Calls Tryz.prog 103 #[.slice a l.length c,.func (.func 86) #[] #[]] w fun e w'=>e=.returned (.int .i64 (M.cnt M.reads l))∧Below w.heap.size w w':=by
 go_enter Tryz.func103,Tryz.ntmps103
 go_wp2_with fail
 go_loopw [5,10] (fun s5 s10 wr=>∃ m n:Nat,s5=.int .i64 m∧s10=.int .i64 n∧n≤l.length∧m≤n∧M.cnt M.reads l=m+M.cnt M.reads (l.drop n)∧Below w.heap.size w wr) (fun _ s10 _=>l.length - (intOf s10).toNat)
 case atStart=>exact ⟨0,0,rfl,rfl,Nat.zero_le _,Nat.le_refl _,by simp,Below.refl _ _⟩
 case round =>
  obtain ⟨m,n,rfl,rfl,hn,hmn,hpass,hbel⟩:=hrel
  have HP:Hid (M.cnt M.reads l=m+M.cnt M.reads (l.drop n)):=hpass
  clear hpass
  by_cases hlt:n < l.length
  ·obtain ⟨rfl⟩:=h.addr (by omega)
   have hd:=(h.row n hlt).below hbel (Nat.le_refl _)
   have HD:Hid (l.drop n=l[n]::l.drop (n+1)):=M.drop_at l n hlt
   generalize l[n]=d at hd HD
   obtain ⟨k,p,v⟩:=d
   obtain ⟨ck,cp,cv⟩:=hd
   cases hu:M.reads k
   ·go_wp2_with (go_at_call 86;refine (reads_any _ _).mono ?_;rintro e w1 ⟨rfl,rfl⟩)
    exact ⟨⟨m,n+1,rfl,by go_num,by omega,by omega,M.cnt_step HP.out HD.out (by simp [hu]),hbel.alloc hbel.size _⟩,by simp [intOf];omega⟩
   ·go_wp2_with (go_at_call 86;refine (reads_any _ _).mono ?_;rintro e w1 ⟨rfl,rfl⟩)
    exact ⟨⟨m+1,n+1,by go_num,by go_num,by omega,by omega,M.cnt_step HP.out HD.out (by simp [hu]),hbel.alloc hbel.size _⟩,by simp [intOf];omega⟩
  ·go_wp2_with fail
   go_ret
   exact ⟨ret_int (by rw [M.cnt_fin HP.out (by omega)]),hbel⟩
set_option maxHeartbeats 400000 in
theorem ireads_any (a:Option Addr) (b o c:Nat) (ll:List (List M.D)) (w:World) (hl:ll.length≤1048576) (hls:∀ t∈ll,t.length≤1048576) (h:DoSS w a b o ll) :
  Calls Tryz.prog 115 #[.agg #[.slice a ll.length c]] w fun e w'=>e=.returned (.int .i64 (M.nreads ll))∧Below w.heap.size w w':=by
 cases hp:M.prog ll
 ·go_enter Tryz.func115,Tryz.ntmps115
  go_wp2_with (go_at_call 47;refine (iprog_any a b o c ll _ hl hls (h.below (below1 w _) (Nat.le_refl _))).mono ?_;rintro e w1 ⟨rfl,hb1⟩)
  go_ret
  exact ⟨ret_int (M.nreads_no hp).symm,(below1 w _).trans (hb1.mono (by simp))⟩
 ·obtain ⟨h3,h7⟩:=M.prog_le hp
  go_enter Tryz.func115,Tryz.ntmps115
  go_wp2_with (go_at_call 47;refine (iprog_any a b o c ll _ hl hls (h.below (below1 w _) (Nat.le_refl _))).mono ?_;rintro e w1 ⟨rfl,hb1⟩;obtain ⟨hc1,hf1⟩:=bcell hb1)
  have hs1:=(h.below (below1 w _) (Nat.le_refl _)).below hb1 (Nat.le_refl _)
  have hbw:Below w.heap.size w w1:=(below1 w _).trans (hb1.mono (by simp))
  clear hb1 hc1 hf1 h
  go_loopw [3,12] (fun s3 s12 wr=>∃ m n:Nat,s3=.int .i64 m∧s12=.int .i64 n∧n≤ll.length∧m≤7 * n∧M.tot M.reads ll=m+M.tot M.reads (ll.drop n)∧Below w1.heap.size w1 wr) (fun _ s12 _=>ll.length - (intOf s12).toNat)
  case atStart=>exact ⟨0,0,rfl,rfl,Nat.zero_le _,Nat.le_refl _,by simp,Below.refl _ _⟩
  case round =>
   obtain ⟨m,n,rfl,rfl,hn,hmn,hpass,hbel⟩:=hrel
   have HP:Hid (M.tot M.reads ll=m+M.tot M.reads (ll.drop n)):=hpass
   clear hpass
   by_cases hlt:n < ll.length
   ·obtain ⟨rfl⟩:=hs1.addr (by omega)
    obtain ⟨a',b',o',c',hc,hd⟩:=(hs1.below hbel (Nat.le_refl _)).row n hlt
    have HD:Hid (ll.drop n=ll[n]::ll.drop (n+1)):=M.drop_at' ll n hlt
    have hlt':=hls _ (List.getElem_mem hlt)
    have hlt7:=h7 _ (List.getElem_mem hlt)
    generalize ll[n]=t at hd hc HD hlt' hlt7
    have hcn:=M.cnt_le M.reads t
    go_wp2_with (go_at_call 103;refine (cntReads_any a' b' o' c' t _ hlt' hd).mono ?_;rintro e w2 ⟨rfl,hb2⟩)
    exact ⟨⟨m+M.cnt M.reads t,n+1,by go_num,by go_num,by omega,by omega,M.tot_step HP.out HD.out,hbel.trans (hb2.mono hbel.size)⟩,by simp [intOf];omega⟩
   ·go_wp2_with fail
    go_ret
    exact ⟨ret_int (by rw [M.nreads_ok hp,M.tot_fin HP.out (by omega)]),hbw.trans (hbel.mono hbw.size)⟩
set_option maxHeartbeats 1000000 in
theorem sreads_any (a:Option Addr) (b o c:Nat) (ll:List (List M.D)) (w:World) (hl:ll.length≤1048576) (hls:∀ t∈ll,t.length≤1048576) (h:DoSS w a b o ll) :
  Calls Tryz.prog 163 #[.agg #[.slice a ll.length c]] w fun e w'=>e=.returned (.int .i64 (M.nreads ll))∧Below w.heap.size w w':=by
 cases hp:M.prog ll
 ·go_enter Tryz.func163,Tryz.ntmps163
  go_wp2_with (go_at_call 109;refine (sprog_any a b o c ll _ hl hls (h.below (below1 w _) (Nat.le_refl _))).mono ?_;rintro e w1 ⟨rfl,hb1⟩)
  go_ret
  exact ⟨ret_int (M.nreads_no hp).symm,(below1 w _).trans (hb1.mono (by simp))⟩
 ·obtain ⟨h3,h7⟩:=M.prog_le hp
  go_enter Tryz.func163,Tryz.ntmps163
  go_wp2_with (go_at_call 109;refine (sprog_any a b o c ll _ hl hls (h.below (below1 w _) (Nat.le_refl _))).mono ?_;rintro e w1 ⟨rfl,hb1⟩;obtain ⟨hc1,hf1⟩:=bcell hb1)
  have hs1:=(h.below (below1 w _) (Nat.le_refl _)).below hb1 (Nat.le_refl _)
  have hbw:Below w.heap.size w w1:=(below1 w _).trans (hb1.mono (by simp))
  have hbox1:w1.cell? ⟨w.heap.size,0,none⟩=some (.slice a ll.length c):=by rw [hc1 _ _ (by simp)];simp
  have hlt1:w.heap.size < w1.heap.size:=World.block_lt_of_cell? _ _ hbox1
  clear hb1 hc1 hf1 h
  go_loopw [3,4] (fun s3 s4 wr=>∃ m n:Nat,s3=.int .i64 m∧s4=.int .i64 n∧n≤ll.length∧m≤7 * n∧M.tot M.reads ll=m+M.tot M.reads (ll.drop n)∧Below w1.heap.size w1 wr) (fun _ s4 _=>ll.length - (intOf s4).toNat)
  case atStart=>exact ⟨0,0,rfl,rfl,Nat.zero_le _,Nat.le_refl _,by simp,Below.refl _ _⟩
  case round =>
   obtain ⟨m,n,rfl,rfl,hn,hmn,hpass,hbel⟩:=hrel
   have HP:Hid (M.tot M.reads ll=m+M.tot M.reads (ll.drop n)):=hpass
   clear hpass
   have hbox:wr.cell? ⟨w.heap.size,0,none⟩=some (.slice a ll.length c):=(hbel.cell (p:=⟨w.heap.size,0,none⟩) hlt1).trans hbox1
   by_cases hlt:n < ll.length
   ·obtain ⟨rfl⟩:=hs1.addr (by omega)
    obtain ⟨a',b',o',c',hc,hd⟩:=(hs1.below hbel (Nat.le_refl _)).row n hlt
    have HD:Hid (ll.drop n=ll[n]::ll.drop (n+1)):=M.drop_at' ll n hlt
    have hlt':=hls _ (List.getElem_mem hlt)
    have hlt7:=h7 _ (List.getElem_mem hlt)
    generalize ll[n]=t at hd hc HD hlt' hlt7
    have hcn:=M.cnt_le M.reads t
    have hbl:b < wr.heap.size:=World.block_lt_of_cell? _ _ hc
    have hltr:w.heap.size < wr.heap.size:=World.block_lt_of_cell? _ _ hbox
    go_wp2_with fail
    go_loopw [3,5] (fun s3 s5 wi=>∃ q k:Nat,s3=.int .i64 (m+q)∧s5=.int .i64 k∧k≤t.length∧q≤k∧M.cnt M.reads t=q+M.cnt M.reads (t.drop k)∧Below wr.heap.size wr wi) (fun _ s5 _=>t.length - (intOf s5).toNat)
    case atStart=>exact ⟨0,0,by simp,rfl,Nat.zero_le _,Nat.le_refl _,by simp,Below.refl _ _⟩
    case round =>
     obtain ⟨q,k,rfl,rfl,hk,hqk,hpass,hbi⟩:=hrel
     have HP2:Hid (M.cnt M.reads t=q+M.cnt M.reads (t.drop k)):=hpass
     clear hpass
     have hboxi:=(hbi.cell (p:=⟨w.heap.size,0,none⟩) hltr).trans hbox
     have hci:=(hbi.cell (p:=⟨b,o+n,none⟩) hbl).trans hc
     clear hbox hc
     by_cases hkt:k < t.length
     ·obtain ⟨rfl⟩:=hd.addr (by omega)
      have hdk:=(hd.row k hkt).below hbi (Nat.le_refl _)
      have HK:Hid (t.drop k=t[k]::t.drop (k+1)):=M.drop_at t k hkt
      generalize t[k]=d at hdk HK
      obtain ⟨kk,p,v⟩:=d
      obtain ⟨ck,cp,cv⟩:=hdk
      cases hr:M.reads kk
      ·go_wp2_with (go_at_call 76;refine (l1Reads_any ⟨_,_,_⟩ _).mono ?_;rintro e w2 ⟨rfl,rfl⟩)
       exact ⟨⟨q,k+1,rfl,by go_num,by omega,by omega,M.cnt_step HP2.out HK.out (by simp [hr]),hbi.alloc hbi.size _⟩,by simp [intOf];omega⟩
      ·go_wp2_with (go_at_call 76;refine (l1Reads_any ⟨_,_,_⟩ _).mono ?_;rintro e w2 ⟨rfl,rfl⟩)
       exact ⟨⟨q+1,k+1,by go_num,by go_num,by omega,by omega,M.cnt_step HP2.out HK.out (by simp [hr]),hbi.alloc hbi.size _⟩,by simp [intOf];omega⟩
     ·go_wp2_with fail
      have hm:=M.cnt_fin HP2.out (by omega)
      exact ⟨⟨m+q,n+1,by go_num,by go_num,by omega,by omega,by rw [hm];exact M.tot_step HP.out HD.out,hbel.trans (hbi.mono hbel.size)⟩,by simp [intOf];omega⟩
   ·go_wp2_with fail
    go_ret
    exact ⟨ret_int (by rw [M.nreads_ok hp,M.tot_fin HP.out (by omega)]),hbw.trans (hbel.mono hbw.size)⟩
end
section
open Go.RowKit
set_option maxHeartbeats 400000 in
theorem valsOk_any (a:Option Addr) (b o c:Nat) (l:List Int) (w:World) (hl:l.length≤1048576) (h:IntS w a b o l) :
  Calls Tryz.prog 116 #[.slice a l.length c] w fun e w'=>e=.returned (.bool (M.vals l))∧w'=w:=by
 go_enter Tryz.func116,Tryz.ntmps116
 go_wp2_with fail
 go_loopw [7] (fun s7 wr=>∃ n:Nat,s7=.int .i64 n∧n≤l.length∧M.vals l=M.vals (l.drop n)∧wr=w) (fun s7 _=>l.length - (intOf s7).toNat)
 case atStart=>exact ⟨0,rfl,Nat.zero_le _,rfl,rfl⟩
 case round =>
  obtain ⟨n,rfl,hn,hpass,rfl⟩:=hrel
  have HP:Hid (M.vals l=M.vals (l.drop n)):=hpass
  clear hpass
  by_cases hlt:n < l.length
  ·obtain ⟨rfl⟩:=h.addr (by omega)
   have HD:Hid (l.drop n=l[n]::l.drop (n+1)):=M.drop_int l n hlt
   have hc:=h.row n hlt
   generalize l[n]=x at HD hc
   by_cases h0:x < 0
   ·go_wp2_with fail
    go_ret
    exact ⟨ret_bool (M.vals_bad HP.out HD.out (by omega)).symm,rfl⟩
   ·have h0':decide (x < 0)=false:=by simpa using h0
    by_cases h3:3 < x
    ·go_wp2_with fail
     go_ret
     exact ⟨ret_bool (M.vals_bad HP.out HD.out (by omega)).symm,rfl⟩
    ·go_wp2_with fail
     exact ⟨⟨n+1,by go_num,by omega,M.vals_ok HP.out HD.out (by omega) (by omega),trivial⟩,by simp [intOf];omega⟩
  ·go_wp2_with fail
   go_ret
   exact ⟨ret_bool (M.vals_fin HP.out (by omega)).symm,rfl⟩
namespace M
def seenOk (ll:List (List D)) (l1 l2:List Int):Bool:=decide ((l1.length:Int)=nreads ll)&&(decide (l2.length=3)&&(vals l1&&vals l2))
theorem seenOk_1 {ll:List (List D)} {l1 l2:List Int} (h:¬ (l1.length:Int)=nreads ll):seenOk ll l1 l2=false:=by simp [seenOk,h]
theorem seenOk_2 {ll:List (List D)} {l1 l2:List Int} (h:¬ l2.length=3):seenOk ll l1 l2=false:=by simp [seenOk,h]
theorem seenOk_3 {ll:List (List D)} {l1 l2:List Int} (h:vals l1=false):seenOk ll l1 l2=false:=by simp [seenOk,h]
theorem seenOk_4 {ll:List (List D)} {l1 l2:List Int} (h:(l1.length:Int)=nreads ll) (h2:l2.length=3) (h3:vals l1=true):seenOk ll l1 l2=vals l2:=by simp [seenOk,h,h2,h3]
end M
set_option maxHeartbeats 1000000 in
set_option maxRecDepth 100000 in
theorem iseenOk_any (a:Option Addr) (b o c:Nat) (ll:List (List M.D)) (s:Sn) (w:World) (hl:ll.length≤1048576) (hls:∀ t∈ll,t.length≤1048576) (hs:s.Le 1048576) (h:DoSS w a b o ll) (sa:s.At w) :
  Calls Tryz.prog 54 #[.agg #[.slice a ll.length c],.agg #[.slice s.a1 s.l1.length s.c1,.slice s.a2 s.l2.length s.c2]] w fun e w'=>e=.returned (.bool (M.seenOk ll s.l1 s.l2))∧Below w.heap.size w w':=by
 have hb2:=below2 w (.cells #[.slice a ll.length c] 25) (.cells #[.slice s.a1 s.l1.length s.c1,.slice s.a2 s.l2.length s.c2] 45)
 obtain ⟨hs1,hs2⟩:=hs
 obtain ⟨r,hr⟩:∃ r,M.nreads ll=r:=⟨_,rfl⟩
 go_enter Tryz.func54,Tryz.ntmps54
 go_wp2_with fail
 have k0:((w.alloc (.cells #[.slice a ll.length c] 25)).alloc (.cells #[.slice s.a1 s.l1.length s.c1,.slice s.a2 s.l2.length s.c2] 45)).cell? ⟨w.heap.size,0,none⟩=some (.slice a ll.length c):=by simp
 have k1:((w.alloc (.cells #[.slice a ll.length c] 25)).alloc (.cells #[.slice s.a1 s.l1.length s.c1,.slice s.a2 s.l2.length s.c2] 45)).cell? ⟨w.heap.size+1,0,none⟩=some (.slice s.a1 s.l1.length s.c1):=by simp
 have k2:((w.alloc (.cells #[.slice a ll.length c] 25)).alloc (.cells #[.slice s.a1 s.l1.length s.c1,.slice s.a2 s.l2.length s.c2] 45)).cell? ⟨w.heap.size+1,1,none⟩=some (.slice s.a2 s.l2.length s.c2):=by simp
 generalize (w.alloc (.cells #[.slice a ll.length c] 25)).alloc (.cells #[.slice s.a1 s.l1.length s.c1,.slice s.a2 s.l2.length s.c2] 45)=W at *
 have hlt:w.heap.size+1 < W.heap.size:=World.block_lt_of_cell? _ _ k1
 have C1:=fun p:BelowOf W=>ireads_any a b o c ll p.x hl hls ((h.below hb2 (Nat.le_refl _)).below p.h (Nat.le_refl _))
 rw [hr] at C1
 have saW:=sa.below hb2 (Nat.le_refl _)
 have C2:=fun p:BelowOf W=>valsOk_any s.a1 s.b1 s.o1 s.c1 s.l1 p.x hs1 (saW.below p.h (Nat.le_refl _)).reads
 have C3:=fun p:BelowOf W=>valsOk_any s.a2 s.b2 s.o2 s.c2 s.l2 p.x hs2 (saW.below p.h (Nat.le_refl _)).last
 have K0:=BelowOf.cell k0
 have K1:=BelowOf.cell k1
 have K2:=BelowOf.cell k2
 clear k0 k1 k2 h sa saW
 by_cases g1:(s.l1.length:Int)=r
 ·by_cases g2:s.l2.length=3
  ·cases g3:M.vals s.l1
   ·rw [g3] at C2
    rw [g2] at K2 C3
    haveI:Inhabited (BelowOf W):=⟨belOf W⟩
    refine wp_region_quiet_bel (by kernel_rfl) (by kernel_rfl) ?_
    repeat (quiet_step (first | (go_at_call 115;exact Calls.bel_of (C1 _)) | (go_at_call_of 116 (Value.slice s.a1 s.l1.length s.c1);exact Calls.bel_of_same (C2 _))))
    refine wpQuiet_nil ?_
    rintro _ ⟨⟨wq,hwq⟩,rfl⟩
    go_wp2_with fail
    go_ret
    exact ⟨ret_bool (M.seenOk_3 g3).symm,hb2.trans (hwq.mono hb2.size)⟩
   ·rw [g3] at C2
    rw [g2] at K2 C3
    generalize hv:M.vals s.l2=v at C3
    haveI:Inhabited (BelowOf W):=⟨belOf W⟩
    refine wp_region_quiet_bel (by kernel_rfl) (by kernel_rfl) ?_
    repeat (quiet_step (first | (go_at_call 115;exact Calls.bel_of (C1 _)) | (go_at_call_of 116 (Value.slice s.a1 s.l1.length s.c1);exact Calls.bel_of_same (C2 _)) | (go_at_call_of 116 (Value.slice s.a2 3 s.c2);exact Calls.bel_of_same (C3 _))))
    refine wpQuiet_nil ?_
    rintro _ ⟨⟨wq,hwq⟩,rfl⟩
    go_wp2_with fail
    go_ret
    exact ⟨ret_bool (by rw [M.seenOk_4 (by rw [hr];exact g1) g2 g3,hv]),hb2.trans (hwq.mono hb2.size)⟩
  ·have g2':((s.l2.length:Int)==3)=false:=by simp;omega
   haveI:Inhabited (BelowOf W):=⟨belOf W⟩
   refine wp_region_quiet_bel (by kernel_rfl) (by kernel_rfl) ?_
   repeat (quiet_step (first | (go_at_call 115;exact Calls.bel_of (C1 _))))
   refine wpQuiet_nil ?_
   rintro _ ⟨⟨wq,hwq⟩,rfl⟩
   go_wp2_with fail
   go_ret
   exact ⟨ret_bool (M.seenOk_2 g2).symm,hb2.trans (hwq.mono hb2.size)⟩
 ·have g1':((s.l1.length:Int)==r)=false:=by simpa using g1
  haveI:Inhabited (BelowOf W):=⟨belOf W⟩
  refine wp_region_quiet_bel (by kernel_rfl) (by kernel_rfl) ?_
  repeat (quiet_step (first | (go_at_call 115;exact Calls.bel_of (C1 _))))
  refine wpQuiet_nil ?_
  rintro _ ⟨⟨wq,hwq⟩,rfl⟩
  go_wp2_with fail
  go_ret
  exact ⟨ret_bool (M.seenOk_1 (by rw [hr];exact g1)).symm,hb2.trans (hwq.mono hb2.size)⟩
end
section
open Go.RowKit
theorem Slot1.bel {w w':World} {b:Nat} {x:Value} (h:Slot1 w b x) (hb:Below w.heap.size w w'):Slot1 w' b x :=
 ⟨(hb.cell (p:=⟨b,0,none⟩) h.lt).trans h.c,(hb.frozen (p:=⟨b,0,none⟩) h.lt).trans h.fz⟩
theorem Small.le {mm:List (List M.D)} {c:Nat} (h:Small mm c):∀ t∈mm,t.length≤1048576:=fun t ht=>by have:=h.steps t ht;omega
end
section
open Go.RowKit
theorem Slot2.bel {w w':World} {b:Nat} {x y:Value} (h:Slot2 w b x y) (hb:Below w.heap.size w w'):Slot2 w' b x y:=h.of (hb.block b h.lt)
theorem M.three (s t:Sn):∃ b1 b2 b3:Bool,decide (M.cmpS s.l1 s.l2 t.l1 t.l2 < 0)=b1∧decide (M.cmpS t.l1 t.l2 s.l1 s.l2 < 0)=b2∧M.sameS s.l1 s.l2 t.l1 t.l2=b3∧((b1=true∧b2=false∧b3=false)∨(b1=false∧b2=true∧b3=false)∨(b1=false∧b2=false∧b3=true)):=by
 refine ⟨_,_,_,rfl,rfl,rfl,?_⟩
 rw [M.sameS_eq,M.cmpS_neg s.l1 s.l2 t.l1 t.l2]
 generalize M.cmpS s.l1 s.l2 t.l1 t.l2=z
 rcases Int.lt_trichotomy z 0 with h | h | h
 ·exact Or.inl ⟨by simpa using h,by simp;omega,by simp;omega⟩
 ·subst h;exact Or.inr (Or.inr ⟨by decide,by decide,by decide⟩)
 ·exact Or.inr (Or.inl ⟨by simp;omega,by simp;omega,by simp;omega⟩)
end
end Go.Proofs.YtmhpgdliaclokaaGreat
