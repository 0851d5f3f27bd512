/- impl's all ways, plainly: one choice behind the other; they are spec's, in spec's order. No condition. And what goes with it: WaMath, WaCop, WaFull, OsEq, OsOk, OrImp3, NlO, XaXb, WaCp, LpL. -/
import Derived.Deep.AppendLies
import Derived.Handy
import Derived.Test.YtjjkicffhpcngaaGreatBWap
import Derived.Test.YtjjkicffhpcngaaGreatBWat
namespace Go.Proofs.YtjjkicffhpcngaaGreat
namespace M
abbrev Wy:=List Int × List (List Int)
def runC {α:Type}:List (α→List α)→α→List α
 | [],x=>[x]
 | c::cs,x=>(c x).flatMap (runC cs)
theorem runC_append {α:Type} (cs es:List (α→List α)) (x:α):runC (cs++es) x=(runC cs x).flatMap (runC es):=by
 induction cs generalizing x with
 | nil=>simp [runC]
 | cons c cs ih =>
  simp only [List.cons_append,runC,List.flatMap_assoc]
  congr 1
  funext y
  exact ih y
theorem runC_snoc {α:Type} (cs:List (α→List α)) (c:α→List α) (x:α):runC (cs++[c]) x=(runC cs x).flatMap c:=by
 rw [runC_append]
 congr 1
 funext y
 simp [runC]
def srcs (ds:List De) (at_:Nat):List Int:=-1::wrs (((ds[at_]?).map fun x=>x.d.p).getD 0) 0 ds
def chF (ds:List De) (at_:Nat) (x:Wy):List Wy:=(srcs ds at_).flatMap fun f=>if ends ds (x.1.set at_ f) then [(x.1.set at_ f,x.2)] else []
def chN (p:Nat) (ws:List Int) (x:Wy):List Wy:=ws.flatMap fun a=>if has (x.2.getD p []) a then [] else [(x.1,x.2.set p (x.2.getD p []++[a]))]
def init (ds:List De):List Int:=ds.map fun x=>if x.reads then -1 else -2
theorem init_cons (x:De) (xs:List De):init (x::xs)=(if x.reads then -1 else -2)::init xs:=rfl
def firstW (ds:List De):Wy:=(init ds,[[],[],[]])
def chFs (ds:List De):Nat→List De→List (Wy→List Wy)
 | _,[]=>[]
 | n,x::xs=>if x.reads then chF ds n::chFs ds (n+1) xs else chFs ds (n+1) xs
def chNs (ds:List De) (p:Nat):List (Wy→List Wy):=(wrs p 0 ds).map fun _=>chN p (wrs p 0 ds)
def wchoices (ds:List De):List (Wy→List Wy):=chFs ds 0 ds++(chNs ds 0++(chNs ds 1++chNs ds 2))
def ways (ds:List De):List Wy:=runC (wchoices ds) (firstW ds)
def allWays (ds:List De):List Wy:=(fromsOf ds ds.length []).flatMap fun f=>if ends ds f then (ordersOf ds).map fun o=>(f,o) else []
theorem endsAt_iff (ds:List De) (l:List Int):∀ (n:Nat) (xs:List De),endsAt ds l n xs=true↔∀ i,i < xs.length→(orig ds l ds.length (n+i)).isSome=true:=by
 intro n xs
 induction xs generalizing n with
 | nil=>simp [endsAt]
 | cons x xs ih =>
  simp only [endsAt,Bool.and_eq_true,ih,List.length_cons]
  constructor
  ·rintro ⟨h1,h2⟩ i hi
   cases i with
   | zero=>exact h1
   | succ i=>have:=h2 i (by omega);rwa [show n+1+i=n+(i+1) by omega] at this
  ·intro h
   exact ⟨h 0 (by omega),fun i hi=>by have:=h (i+1) (by omega);rwa [show n+(i+1)=n+1+i by omega] at this⟩
theorem ends_iff (ds:List De) (l:List Int):ends ds l=true↔∀ i,i < ds.length→(orig ds l ds.length i).isSome=true:=by
 have:=endsAt_iff ds l 0 ds
 simpa [ends] using this
theorem valFrom_undo {ds:List De} {g:List Int} {j:Nat} (hg:g.length=ds.length) (at_:Nat):valFrom ds (g.take j++init (ds.drop j)) at_=valFrom ds g at_∨valFrom ds (g.take j++init (ds.drop j)) at_ < 0:=by
 unfold valFrom
 cases hx:ds[at_]? with
 | none=>exact Or.inl rfl
 | some x =>
  have hlt:at_ < ds.length:=by
   rw [List.getElem?_eq_some_iff] at hx;exact hx.1
  dsimp only
  by_cases hr:x.reads=true
  ·simp only [hr,if_true]
   by_cases hj:at_ < j
   ·left
    rw [List.getD_eq_getElem?_getD,List.getD_eq_getElem?_getD,List.getElem?_append_left (by rw [List.length_take];omega),List.getElem?_take_of_lt hj]
   ·right
    have hl:(g.take j).length=j:=by rw [List.length_take];omega
    rw [List.getD_eq_getElem?_getD,List.getElem?_append_right (by omega),hl]
    have e:(init (ds.drop j))[at_ - j]?=some (-1):=by
     simp only [init,List.getElem?_map,List.getElem?_drop]
     rw [show j+(at_ - j)=at_ by omega,hx]
     simp [hr]
    rw [e]
    decide
  ·rw [if_neg hr,if_neg hr]
   exact Or.inl rfl
theorem orig_undo {ds:List De} {g:List Int} {j:Nat} (hg:g.length=ds.length):∀ (n at_:Nat),(orig ds g n at_).isSome=true→(orig ds (g.take j++init (ds.drop j)) n at_).isSome=true
 | 0,_,h=>h
 | n+1,at_,h=>by
  simp only [orig] at h ⊢
  rcases valFrom_undo (j:=j) hg at_ with e | e
  ·rw [e]
   split
   ·rfl
   ·rename_i hn
    rw [if_neg hn] at h
    exact orig_undo hg n _ h
  ·rw [if_pos e];rfl
theorem ends_undo {ds:List De} {g:List Int} {j:Nat} (hg:g.length=ds.length) (h:ends ds g=true):ends ds (g.take j++init (ds.drop j))=true:=by
 rw [ends_iff] at h ⊢
 exact fun i hi=>orig_undo hg _ _ (h i hi)
theorem fromsOf_pre (ds:List De):∀ (n:Nat) (f r:List Int),r∈fromsOf ds n f→r.take f.length=f
 | 0,f,r,hr=>by simp [fromsOf] at hr;simp [hr]
 | n+1,f,r,hr=>by
  have key:∀ v:Int,r∈fromsOf ds n (f++[v])→r.take f.length=f:=fun v hv=>by
   have:=fromsOf_pre ds n (f++[v]) r hv
   have e:=congrArg (List.take f.length) this
   rw [List.take_take,List.length_append] at e
   simpa using e
  rw [fromsOf] at hr
  by_cases hc:((ds[f.length]?).map De.reads).getD false=true
  ·rw [if_pos hc,List.mem_append,List.mem_flatMap] at hr
   rcases hr with hv | ⟨v,_,hv⟩
   ·exact key _ hv
   ·exact key _ hv
  ·rw [if_neg hc] at hr
   exact key _ hr
theorem run_from (ds:List De) (o:List (List Int)):∀ (n:Nat) (f:List Int),f.length+n=ds.length→ends ds (f++init (ds.drop f.length))=true →
  runC (chFs ds f.length (ds.drop f.length)) (f++init (ds.drop f.length),o)=(fromsOf ds n f).flatMap fun g=>if ends ds g then [(g,o)] else []
 | 0,f,hl,he=>by
  have e:ds.drop f.length=[]:=List.drop_eq_nil_of_le (by omega)
  rw [e] at he ⊢
  simp only [init,List.map_nil,List.append_nil] at he
  simp [chFs,runC,fromsOf,init,he]
 | n+1,f,hl,he=>by
  have hlt:f.length < ds.length:=by omega
  have e:ds.drop f.length=ds[f.length]::ds.drop (f.length+1):=(List.getElem_cons_drop hlt).symm
  have hx:ds[f.length]?=some ds[f.length]:=List.getElem?_eq_getElem hlt
  have hap:∀ v:Int,(f++[v]).length=f.length+1:=fun v=>by simp
  rw [e] at he ⊢
  cases hr:De.reads ds[f.length]
  ·rw [froms_no hlt rfl hr]
   have ei:f++init (ds[f.length]::ds.drop (f.length+1))=(f++[-2])++init (ds.drop (f++[-2]).length):=by
    rw [hap,init_cons,hr];simp
   rw [ei] at he ⊢
   have ih:=run_from ds o n (f++[-2]) (by rw [hap];omega) he
   rw [hap] at ih
   simp only [chFs,hr,Bool.false_eq_true,if_false,hap]
   exact ih
  ·rw [froms_yes hlt rfl hr]
   simp only [chFs,hr,if_true,runC]
   have hs:srcs ds f.length=-1::wrs (ds[f.length]).d.p 0 ds:=by simp [srcs,hx]
   have step:∀ v:Int,(if ends ds ((f++init (ds[f.length]::ds.drop (f.length+1))).set f.length v) then [((f++init (ds[f.length]::ds.drop (f.length+1))).set f.length v,o)] else []).flatMap (runC (chFs ds (f.length+1) (ds.drop (f.length+1))))=(fromsOf ds n (f++[v])).flatMap fun g=>if ends ds g then [(g,o)] else []:=by
    intro v
    have ei:(f++init (ds[f.length]::ds.drop (f.length+1))).set f.length v=(f++[v])++init (ds.drop (f++[v]).length):=by
     rw [hap,init_cons,List.set_append_right _ _ (Nat.le_refl _)]
     simp
    rw [ei]
    by_cases hE:ends ds ((f++[v])++init (ds.drop (f++[v]).length))=true
    ·rw [if_pos hE,List.flatMap_cons,List.flatMap_nil,List.append_nil]
     have ih:=run_from ds o n (f++[v]) (by rw [hap];omega) hE
     rw [hap] at ih ⊢
     exact ih
    ·rw [if_neg hE,List.flatMap_nil]
     symm
     rw [List.flatMap_eq_nil_iff]
     intro g hg
     rw [if_neg]
     intro hgE
     have hlen:=fromsOf_each ds n _ g hg
     have hpre:=fromsOf_pre ds n _ g hg
     have:=ends_undo (j:=(f++[v]).length) (by rw [hlen,hap];omega) hgE
     rw [hpre] at this
     exact hE this
   unfold chF
   simp only []
   rw [hs,List.flatMap_cons,List.flatMap_append,step (-1),List.flatMap_assoc,List.flatMap_append]
   congr 1
   rw [List.flatMap_assoc]
   congr 1
   funext v
   exact step v
theorem run_rows (p:Nat) (ws:List Int) (g:List Int):∀ (n:Nat) (o:List (List Int)),p < o.length→runC (List.replicate n (chN p ws)) (g,o)=(rowsOf ws n (o.getD p [])).map fun r=>(g,o.set p r)
 | 0,o,hp=>by
  simp only [List.replicate_zero,runC,rowsOf,List.map_cons,List.map_nil]
  rw [List.getD_eq_getElem?_getD,List.getElem?_eq_getElem hp,Option.getD_some,List.set_getElem_self]
 | n+1,o,hp=>by
  simp only [List.replicate_succ,runC,rowsOf,chN]
  rw [List.flatMap_assoc,List.map_flatMap]
  congr 1
  funext v
  by_cases hh:has (o.getD p []) v=true
  ·rw [if_pos hh,if_pos hh];rfl
  ·rw [if_neg hh,if_neg hh,List.flatMap_cons,List.flatMap_nil,List.append_nil]
   rw [run_rows p ws g n _ (by simpa using hp)]
   have e1:(o.set p (o.getD p []++[v])).getD p []=o.getD p []++[v]:=by
    rw [List.getD_eq_getElem?_getD,List.getElem?_set_self hp];rfl
   rw [e1]
   congr 1
   funext r
   rw [List.set_set]
theorem chNs_rep (ds:List De) (p:Nat):chNs ds p=List.replicate (wrs p 0 ds).length (chN p (wrs p 0 ds)):=by
 unfold chNs
 rw [List.map_const']
theorem run_orders (ds:List De) (g:List Int):runC (chNs ds 0++(chNs ds 1++chNs ds 2)) (g,[[],[],[]])=(ordersOf ds).map fun o=>(g,o):=by
 rw [runC_append,chNs_rep ds 0,run_rows 0 _ g _ _ (by simp)]
 unfold ordersOf addPlace
 simp only [List.flatMap_cons,List.flatMap_nil,List.append_nil,List.nil_append,List.flatMap_map,List.map_flatMap,List.map_map,List.flatMap_assoc]
 congr 1
 funext r0
 have e0:([[],[],[]]:List (List Int)).set 0 r0=[r0,[],[]]:=rfl
 rw [e0,runC_append,chNs_rep ds 1,run_rows 1 _ g _ _ (by simp)]
 simp only [List.flatMap_map]
 congr 1
 funext r1
 have e1:([r0,[],[]]:List (List Int)).set 1 r1=[r0,r1,[]]:=rfl
 rw [e1,chNs_rep ds 2,run_rows 2 _ g _ _ (by simp)]
 rfl
def Cop (ds:List De):Prop:=∀ (n:Nat) (x:De),ds[n]?=some x→x.d.k=3→x.reads=false→0≤x.lr→(x.lr.toNat < n∧∃ y:De,ds[x.lr.toNat]?=some y∧y.reads=true)
theorem ends_init {ds:List De} (hc:Cop ds):ends ds (init ds)=true:=by
 rw [ends_iff]
 intro i hi
 have hv:∀ j x,ds[j]?=some x→x.reads=true→valFrom ds (init ds) j=-1:=fun j x hx hr=>by
  simp [valFrom,hx,hr,init,List.getD_eq_getElem?_getD]
 have hx:ds[i]?=some ds[i]:=List.getElem?_eq_getElem hi
 obtain ⟨n,hn⟩:∃ n,ds.length=n+1:=⟨ds.length - 1,by omega⟩
 rw [hn]
 simp only [orig]
 by_cases hneg:valFrom ds (init ds) i < 0
 ·rw [if_pos hneg];rfl
 ·rw [if_neg hneg]
  have hr:ds[i].reads=false:=by
   cases hr:ds[i].reads
   ·rfl
   ·rw [hv i _ hx hr] at hneg;exact absurd (by decide) hneg
  have hk:ds[i].d.k=3:=by
   by_cases hk:ds[i].d.k=3
   ·exact hk
   ·have:valFrom ds (init ds) i=-1:=by simp [valFrom,hx,hr,hk]
    rw [this] at hneg;exact absurd (by decide) hneg
  have he:valFrom ds (init ds) i=ds[i].lr:=by simp [valFrom,hx,hr,hk]
  rw [he] at hneg ⊢
  obtain ⟨hlt,y,hy,hyr⟩:=hc i _ hx hk hr (by omega)
  obtain ⟨m,rfl⟩:∃ m,n=m+1:=⟨n - 1,by omega⟩
  simp only [orig]
  rw [if_pos (by rw [hv _ y hy hyr];decide)]
  rfl
theorem ways_eq {ds:List De} (hc:Cop ds):ways ds=allWays ds:=by
 unfold ways wchoices firstW allWays
 rw [runC_append]
 have h:=run_from ds [[],[],[]] ds.length [] (by simp) (by simpa using ends_init hc)
 simp only [List.length_nil,List.drop_zero,List.nil_append] at h
 rw [h,List.flatMap_assoc]
 congr 1
 funext f
 by_cases hE:ends ds f=true
 ·simp only [hE,if_true,List.flatMap_cons,List.flatMap_nil,List.append_nil]
  exact run_orders ds f
 ·simp [hE]
end M
end Go.Proofs.YtjjkicffhpcngaaGreat
namespace Go.Proofs.YtjjkicffhpcngaaGreat
namespace M
def LrOk (xs:List De) (lr:Int):Prop:=0≤lr→∃ y:De,xs[lr.toNat]?=some y∧y.reads=true
def LrAll (ds:List De):Prop:=∀ (n:Nat) (x:De),ds[n]?=some x→x.lr≤n∧(x.reads=false→LrOk (ds.take n) x.lr)
theorem LrOk.append {xs:List De} {lr:Int} (h:LrOk xs lr) (ys:List De):LrOk (xs++ys) lr:=fun h0=>by
 obtain ⟨y,h1,h2⟩:=h h0
 exact ⟨y,by rw [List.getElem?_append_left (List.getElem?_eq_some_iff.1 h1).1];exact h1,h2⟩
theorem LrOk.le {xs:List De} {lr:Int} (h:LrOk xs lr):lr≤xs.length:=by
 by_cases h0:0≤lr
 ·obtain ⟨y,h1,_⟩:=h h0
  have:=(List.getElem?_eq_some_iff.1 h1).1
  omega
 ·omega
theorem LrAll.snoc {xs:List De} {x:De} (h:LrAll xs) (hx:x.lr≤xs.length∧(x.reads=false→LrOk xs x.lr)):LrAll (xs++[x]):=fun n y hy=>by
 by_cases hn:n < xs.length
 ·rw [List.getElem?_append_left hn] at hy
  rw [List.take_append_of_le_length (by omega)]
  exact h n y hy
 ·have hlt:=(List.getElem?_eq_some_iff.1 hy).1
  simp at hlt
  have e:n=xs.length:=by omega
  subst e
  rw [List.getElem?_append_right (Nat.le_refl _)] at hy
  simp at hy
  subst hy
  rw [List.take_left']
  ·exact hx
  ·rfl
theorem lrOf_ok {xs:List De} {lr:Int} (h:LrOk xs lr) (t i:Nat) (b:Bool) (d:D):(lrOf lr xs.length d≤xs.length∧((⟨t,i,b,d,lrOf lr xs.length d⟩:De).reads=false→LrOk xs (lrOf lr xs.length d)))∧LrOk (xs++[⟨t,i,b,d,lrOf lr xs.length d⟩]) (lrOf lr xs.length d):=by
 unfold lrOf
 cases hr:reads d.k
 ·simp only [Bool.false_eq_true,if_false]
  exact ⟨⟨h.le,fun _=>h⟩,h.append _⟩
 ·simp only [if_true]
  refine ⟨⟨Int.le_refl _,fun e=>?_⟩,fun _=>⟨⟨t,i,b,d,xs.length⟩,by simp,?_⟩⟩
  ·simp [De.reads,hr] at e
  ·simp [De.reads,hr]
theorem LrAll.deD {xs:List De} {lr:Int} (h:LrAll xs) (hl:LrOk xs lr) (t i:Nat) (d:D):LrAll (xs++deD t i lr xs.length d)∧LrOk (xs++deD t i lr xs.length d) (lrOf lr xs.length d):=by
 obtain ⟨h1,h2⟩:=lrOf_ok hl t i false d
 have a1:=h.snoc (x:=⟨t,i,false,d,lrOf lr xs.length d⟩) h1
 unfold M.deD
 split
 ·rename_i hk
  have hr:reads d.k=false:=by
   have:d.k=9:=by simpa using hk
   simp [reads,this]
  have e:lrOf lr xs.length d=lr:=by simp [lrOf,hr]
  rw [e] at h1 h2 a1 ⊢
  have a2:=a1.snoc (x:=⟨t,i,true,d,lr⟩) ⟨h2.le,fun _=>h2⟩
  rw [List.append_assoc] at a2
  exact ⟨a2,hl.append _⟩
 ·exact ⟨a1,h2⟩
theorem LrAll.deT (t:Nat):∀ (l:List D) (i:Nat) (lr:Int) (xs:List De),LrAll xs→LrOk xs lr→LrAll (xs++deT t i lr xs.length l)
 | [],i,lr,xs,h,hl=>by simpa [M.deT] using h
 | d::l,i,lr,xs,h,hl=>by
  obtain ⟨h1,h2⟩:=h.deD hl t i d
  have:=LrAll.deT t l (i+1) _ _ h1 h2
  rw [List.length_append,List.append_assoc] at this
  exact this
theorem LrAll.deF:∀ (ll:List (List D)) (t:Nat) (xs:List De),LrAll xs→LrAll (xs++deF t xs.length ll)
 | [],t,xs,h=>by simpa [M.deF] using h
 | l::ll,t,xs,h=>by
  have h1:=LrAll.deT t l 0 (-1) xs h (fun h0=>absurd h0 (by decide))
  have:=LrAll.deF ll (t+1) _ h1
  rw [List.length_append,List.append_assoc] at this
  exact this
theorem lr_all (ll:List (List D)):LrAll (deeds ll):=by
 have:=LrAll.deF ll 0 [] (fun n x h=>by simp at h)
 simpa [deeds] using this
theorem cop_deeds (ll:List (List D)):Cop (deeds ll):=fun n x hx _ hr h0=>by
 obtain ⟨y,h1,h2⟩:=(lr_all ll n x hx).2 hr h0
 have hlt:=(List.getElem?_eq_some_iff.1 h1).1
 rw [List.length_take] at hlt
 refine ⟨by omega,y,?_,h2⟩
 rw [List.getElem?_take_of_lt (by omega)] at h1
 exact h1
theorem lr_lt2 (ll:List (List D)) (n:Nat) (x:De) (hx:(deeds ll)[n]?=some x):x.lr < (deeds ll).length:=by
 have h1:=(lr_all ll n x hx).1
 have h2:=(List.getElem?_eq_some_iff.1 hx).1
 omega
end M
end Go.Proofs.YtjjkicffhpcngaaGreat
namespace Go.Proofs.YtjjkicffhpcngaaGreat
namespace M
theorem perm_of:∀ (a b:List Int),a.Nodup→(∀ v∈a,v∈b)→b.length≤a.length→a.Perm b
 | [],b,_,_,hl=>by
  have:b=[]:=List.length_eq_zero_iff.1 (by simpa using hl)
  rw [this]
 | x::a,b,hn,hs,hl=>by
  have hx:=hs x (by simp)
  have hp:=List.perm_cons_erase hx
  have hn':=List.nodup_cons.1 hn
  have ih:=perm_of a (b.erase x) hn'.2 (fun v hv=>(List.mem_erase_of_ne (fun (e:v=x)=>hn'.1 (e▸hv))).2 (hs v (List.mem_cons_of_mem _ hv))) (by rw [List.length_erase_of_mem hx];simp at hl;omega)
  exact (ih.cons x).trans hp.symm
theorem mayTell_iff {ds:List De} {x:De} {f:Int}:mayTell ds x f=true↔if x.reads then f=-1∨f∈wrs x.d.p 0 ds else f=-2:=by
 unfold mayTell
 cases hr:x.reads
 ·simp
 ·simp only [if_true,Bool.or_eq_true,beq_iff_eq]
  refine or_congr Iff.rfl ?_
  rw [mem_wrs]
  constructor
  ·intro h
   simp only [Bool.and_eq_true,decide_eq_true_eq] at h
   obtain ⟨h0,h1,h2⟩:=h
   have hlt:f.toNat < ds.length:=by omega
   rw [List.getElem?_eq_getElem hlt] at h2
   exact ⟨f.toNat,hlt,by omega,h2⟩
  ·rintro ⟨i,hi,rfl,ht⟩
   simp only [Bool.and_eq_true,decide_eq_true_eq]
   refine ⟨by omega,by omega,?_⟩
   have e:(((0+i:Nat):Int)).toNat=i:=by omega
   rw [e,List.getElem?_eq_getElem hi]
   exact ht
theorem fromsW_succ {ds:List De} {n:Nat} {f r:List Int} (h:f.length < ds.length):r∈fromsOf ds (n+1) f↔∃ v,mayTell ds ds[f.length] v=true∧r∈fromsOf ds n (f++[v]):=by
 cases hr:De.reads ds[f.length]
 ·rw [froms_no h rfl hr]
  constructor
  ·exact fun h=>⟨-2,by rw [mayTell_iff,hr];rfl,h⟩
  ·rintro ⟨v,hv,hm⟩
   rw [mayTell_iff,hr] at hv
   have:v=-2:=hv
   rw [← this];exact hm
 ·rw [froms_yes h rfl hr,List.mem_append,List.mem_flatMap]
  constructor
  ·rintro (h | ⟨v,hv,hm⟩)
   ·exact ⟨-1,by rw [mayTell_iff,hr];exact Or.inl rfl,h⟩
   ·exact ⟨v,by rw [mayTell_iff,hr];exact Or.inr hv,hm⟩
  ·rintro ⟨v,hv,hm⟩
   rw [mayTell_iff,hr] at hv
   rcases hv with rfl | hv
   ·exact Or.inl hm
   ·exact Or.inr ⟨v,hv,hm⟩
theorem take_succ_snoc {r f:List Int} {v:Int} (h:f.length < r.length):r.take (f.length+1)=f++[v]↔r.take f.length=f∧r.getD f.length 0=v:=by
 rw [List.take_succ_eq_append_getElem h]
 have hl:(r.take f.length).length=f.length:=by rw [List.length_take];omega
 constructor
 ·intro e
  have e1:=List.append_inj e hl
  refine ⟨e1.1,?_⟩
  have:=e1.2
  simp at this
  rw [List.getD_eq_getElem?_getD,List.getElem?_eq_getElem h]
  exact this
 ·rintro ⟨e1,e2⟩
  rw [List.getD_eq_getElem?_getD,List.getElem?_eq_getElem h] at e2
  rw [e1]
  congr 1
  simp at e2
  rw [e2]
theorem mem_froms {ds:List De}:∀ (n:Nat) (f r:List Int),f.length+n=ds.length→(r∈fromsOf ds n f↔r.length=ds.length∧r.take f.length=f∧∀ i (h:i < ds.length),f.length≤i→mayTell ds ds[i] (r.getD i 0)=true)
 | 0,f,r,h=>by
  simp only [fromsOf,List.mem_singleton]
  constructor
  ·rintro rfl
   exact ⟨by omega,List.take_of_length_le (Nat.le_refl _),fun i hi hf=>by omega⟩
  ·rintro ⟨h1,h2,_⟩
   rw [List.take_of_length_le (by omega)] at h2
   exact h2
 | n+1,f,r,h=>by
  have hlt:f.length < ds.length:=by omega
  rw [fromsW_succ hlt]
  constructor
  ·rintro ⟨v,hv,hm⟩
   rw [mem_froms n _ r (by simp;omega)] at hm
   obtain ⟨h1,h2,h3⟩:=hm
   rw [List.length_append,List.length_singleton] at h2 h3
   obtain ⟨e1,e2⟩:=(take_succ_snoc (by omega)).1 h2
   refine ⟨h1,e1,fun i hi hf=>?_⟩
   by_cases e:i=f.length
   ·subst e;rw [e2];exact hv
   ·exact h3 i hi (by omega)
  ·rintro ⟨h1,h2,h3⟩
   refine ⟨r.getD f.length 0,h3 _ hlt (Nat.le_refl _),?_⟩
   rw [mem_froms n _ r (by simp;omega)]
   rw [List.length_append,List.length_singleton]
   exact ⟨h1,(take_succ_snoc (by omega)).2 ⟨h2,rfl⟩,fun i hi hf=>h3 i hi (by omega)⟩
theorem fromAt_iff {ds:List De}:∀ (xs:List De) (l:List Int),l.length=xs.length→(fromAt ds xs l=true↔∀ i (h:i < xs.length),mayTell ds xs[i] (l.getD i 0)=true)
 | [],l,h=>by simp [fromAt]
 | x::xs,[],h=>by simp at h
 | x::xs,f::l,h=>by
  simp only [fromAt,Bool.and_eq_true,fromAt_iff xs l (by simpa using h)]
  constructor
  ·rintro ⟨h1,h2⟩ i hi
   cases i with
   | zero=>exact h1
   | succ i=>exact h2 i (by simpa using hi)
  ·intro h
   exact ⟨h 0 (by simp),fun i hi=>h (i+1) (by simpa using hi)⟩
theorem mem_from {ds:List De} {l:List Int}:l∈fromsOf ds ds.length []↔fromOk ds l=true:=by
 rw [mem_froms _ _ _ (by simp),fromOk,Bool.and_eq_true,decide_eq_true_eq]
 constructor
 ·rintro ⟨h1,_,h3⟩
  exact ⟨h1,(fromAt_iff ds l h1).2 fun i hi=>h3 i hi (Nat.zero_le _)⟩
 ·rintro ⟨h1,h2⟩
  exact ⟨h1,by simp,fun i hi _=>(fromAt_iff ds l h1).1 h2 i hi⟩
theorem mem_rows {ws:List Int}:∀ (n:Nat) (h r:List Int),r∈rowsOf ws n h↔∃ t,r=h++t∧t.length=n∧(∀ v∈t,v∈ws∧v∉h)∧t.Nodup
 | 0,h,r=>by
  simp only [rowsOf,List.mem_singleton]
  constructor
  ·rintro rfl
   exact ⟨[],by simp,rfl,(fun v hv=>by cases hv),List.nodup_nil⟩
  ·rintro ⟨t,rfl,ht,_⟩
   rw [List.length_eq_zero_iff.1 ht,List.append_nil]
 | n+1,h,r=>by
  rw [rowsOf,List.mem_flatMap]
  constructor
  ·rintro ⟨v,hv,hm⟩
   by_cases hh:has h v=true
   ·rw [if_pos hh] at hm;cases hm
   ·rw [if_neg hh] at hm
    obtain ⟨t,rfl,h1,h2,h3⟩:=(mem_rows n _ r).1 hm
    have hvh:v∉h:=fun e=>hh (by simpa [has] using e)
    refine ⟨v::t,by simp,by simp [h1],fun u hu=>?_,List.nodup_cons.2 ⟨fun e=>(h2 v e).2 (by simp),h3⟩⟩
    rcases List.mem_cons.1 hu with rfl | hu
    ·exact ⟨hv,hvh⟩
    ·exact ⟨(h2 u hu).1,fun e=>(h2 u hu).2 (List.mem_append_left _ e)⟩
  ·rintro ⟨t,rfl,h1,h2,h3⟩
   cases t with
   | nil=>simp at h1
   | cons v t =>
    have hv:=h2 v (by simp)
    have hn:=List.nodup_cons.1 h3
    refine ⟨v,hv.1,?_⟩
    rw [if_neg (by simpa [has] using hv.2)]
    refine (mem_rows n _ _).2 ⟨t,by simp,by simpa using h1,fun u hu=>⟨(h2 u (List.mem_cons_of_mem _ hu)).1,fun e=>?_⟩,hn.2⟩
    rcases List.mem_append.1 e with e | e
    ·exact (h2 u (List.mem_cons_of_mem _ hu)).2 e
    ·rw [List.mem_singleton.1 e] at hu;exact hn.1 hu
theorem mem_row {ws r:List Int} (hw:ws.Nodup):r∈rowsOf ws ws.length []↔isRow r ws=true:=by
 rw [mem_rows,isRow,Bool.and_eq_true,decide_eq_true_eq,List.all_eq_true]
 constructor
 ·rintro ⟨t,e,h1,h2,h3⟩
  rw [List.nil_append] at e
  subst e
  have hp:=perm_of r ws h3 (fun v hv=>(h2 v hv).1) (by omega)
  exact ⟨h1,fun v hv=>by simpa using hp.mem_iff.2 hv⟩
 ·rintro ⟨h1,h2⟩
  have hp:=perm_of ws r hw (fun v hv=>by simpa using h2 v hv) (by omega)
  exact ⟨r,by simp,h1,fun v hv=>⟨hp.mem_iff.2 hv,by simp⟩,hp.nodup_iff.1 hw⟩
theorem mem_order {ds:List De} {o:List (List Int)}:o∈ordersOf ds↔orderOk ds o=true:=by
 have key:o∈ordersOf ds↔∃ r0 r1 r2,o=[r0,r1,r2]∧isRow r0 (wrs 0 0 ds)=true∧isRow r1 (wrs 1 0 ds)=true∧isRow r2 (wrs 2 0 ds)=true:=by
  unfold ordersOf addPlace
  simp only [List.mem_flatMap,List.mem_map,List.flatMap_cons,List.flatMap_nil,List.append_nil,List.nil_append]
  constructor
  ·rintro ⟨o2,⟨o1,⟨r0,h0,rfl⟩,r1,h1,rfl⟩,r2,h2,rfl⟩
   exact ⟨r0,r1,r2,rfl,(mem_row (nodup_wrs _ _ _)).1 h0,(mem_row (nodup_wrs _ _ _)).1 h1,(mem_row (nodup_wrs _ _ _)).1 h2⟩
  ·rintro ⟨r0,r1,r2,rfl,h0,h1,h2⟩
   exact ⟨[r0,r1],⟨[r0],⟨r0,(mem_row (nodup_wrs _ _ _)).2 h0,rfl⟩,r1,(mem_row (nodup_wrs _ _ _)).2 h1,rfl⟩,r2,(mem_row (nodup_wrs _ _ _)).2 h2,rfl⟩
 rw [key,orderOk,Bool.and_eq_true,decide_eq_true_eq]
 constructor
 ·rintro ⟨r0,r1,r2,rfl,h0,h1,h2⟩
  refine ⟨rfl,?_⟩
  simp only [orderAt,Bool.and_eq_true,and_true]
  exact ⟨h0,h1,h2⟩
 ·rintro ⟨h1,h2⟩
  match o,h1,h2 with
  | [r0,r1,r2],_,h2 =>
   simp only [orderAt,Bool.and_eq_true,and_true] at h2
   exact ⟨r0,r1,r2,rfl,h2.1,h2.2.1,h2.2.2⟩
theorem mem_all {ds:List De} {f:List Int} {o:List (List Int)}:(f,o)∈allWays ds↔wayOk ds f o=true:=by
 unfold allWays wayOk
 rw [List.mem_flatMap,Bool.and_eq_true,Bool.and_eq_true,← mem_from,← mem_order]
 constructor
 ·rintro ⟨g,hg,hm⟩
  by_cases he:ends ds g=true
  ·rw [if_pos he,List.mem_map] at hm
   obtain ⟨o',ho,e⟩:=hm
   cases e
   exact ⟨hg,ho,he⟩
  ·rw [if_neg he] at hm;cases hm
 ·rintro ⟨h1,h2,h3⟩
  exact ⟨f,h1,by rw [if_pos h3,List.mem_map];exact ⟨o,h2,rfl⟩⟩
theorem nodup_from {ds:List De}:∀ (n:Nat) (f:List Int),f.length+n=ds.length→(fromsOf ds n f).Nodup
 | 0,f,h=>by simp [fromsOf]
 | n+1,f,h=>by
  have hlt:f.length < ds.length:=by omega
  have ih:∀ v:Int,(fromsOf ds n (f++[v])).Nodup:=fun v=>nodup_from n _ (by simp;omega)
  have ne:∀ (u v:Int),u≠v→∀ x∈fromsOf ds n (f++[u]),∀ y∈fromsOf ds n (f++[v]),x≠y:=fun u v huv x hx y hy e=>by
   subst e
   have h1:=fromsOf_pre ds n _ x hx
   have h2:=fromsOf_pre ds n _ x hy
   rw [List.length_append,List.length_singleton] at h1 h2
   rw [h1] at h2
   have:=List.append_cancel_left h2
   simp at this
   exact huv this
  cases hr:De.reads ds[f.length]
  ·rw [froms_no hlt rfl hr];exact ih _
  ·rw [froms_yes hlt rfl hr,List.nodup_append]
   refine ⟨ih _,?_,fun x hx y hy=>?_⟩
   ·exact List.pairwise_flatMap.2 ⟨fun v _=>ih v,(nodup_wrs _ _ _).imp fun huv x hx y hy=>ne _ _ huv x hx y hy⟩
   ·obtain ⟨v,hv,hm⟩:=List.mem_flatMap.1 hy
    refine ne _ _ (fun e=>?_) x hx y hm
    obtain ⟨i,_,e2,_⟩:=mem_wrs.1 hv
    omega
theorem nodup_rows {ws:List Int} (hw:ws.Nodup):∀ (n:Nat) (h:List Int),(rowsOf ws n h).Nodup
 | 0,h=>by simp [rowsOf]
 | n+1,h=>by
  rw [rowsOf]
  refine List.pairwise_flatMap.2 ⟨fun v _=>?_,hw.imp fun huv x hx y hy e=>?_⟩
  ·split
   ·exact List.Pairwise.nil
   ·exact nodup_rows hw n _
  ·rename_i a b
   subst e
   split at hx
   ·cases hx
   ·split at hy
    ·cases hy
    ·obtain ⟨t,e1,_⟩:=(mem_rows n _ x).1 hx
     obtain ⟨t',e2,_⟩:=(mem_rows n _ x).1 hy
     rw [e1,List.append_assoc,List.append_assoc] at e2
     have:=List.append_cancel_left e2
     simp at this
     exact huv this.1
theorem nodup_add {rows:List (List Int)} {out:List (List (List Int))} (hr:rows.Nodup) (ho:out.Nodup):(addPlace rows out).Nodup:=by
 refine List.pairwise_flatMap.2 ⟨fun o _=>?_,ho.imp fun hne x hx y hy e=>?_⟩
 ·rw [List.pairwise_map]
  exact hr.imp fun hne e=>hne (by have:=List.append_cancel_left e;simpa using this)
 ·rename_i a b
  obtain ⟨r,_,rfl⟩:=List.mem_map.1 hx
  obtain ⟨r',_,e'⟩:=List.mem_map.1 hy
  have:=congrArg List.dropLast (e.trans e'.symm)
  simp at this
  exact hne this
end M
end Go.Proofs.YtjjkicffhpcngaaGreat
namespace Go.Proofs.YtjjkicffhpcngaaGreat
theorem nodup_le:∀ {l m:List Int},l.Nodup→(∀ x∈l,x∈m)→l.length≤m.length:=by
 intro l
 induction l with
 | nil=>intro m _ _;exact Nat.zero_le _
 | cons x l ih =>
  intro m hn hs
  obtain ⟨hx,hl⟩:=List.nodup_cons.1 hn
  have hm:=hs x (List.mem_cons_self ..)
  have:=ih (m:=m.erase x) hl (fun y hy=>by
   have hne:y≠x:=fun e=>hx (e▸hy)
   exact (List.mem_erase_of_ne hne).2 (hs y (List.mem_cons_of_mem _ hy)))
  rw [List.length_erase_of_mem hm] at this
  have hpos:0 < m.length:=List.length_pos_of_mem hm
  simp only [List.length_cons]
  omega
theorem nodup_all {l m:List Int} (hn:l.Nodup) (hs:∀ x∈l,x∈m) (hlen:m.length=l.length):∀ y∈m,y∈l:=by
 intro y hy
 rcases Classical.em (y∈l) with h | h
 ·exact h
 ·have:=nodup_le (l:=y::l) (m:=m) (List.nodup_cons.2 ⟨h,hn⟩) (fun x hx=>by
   rcases List.mem_cons.1 hx with rfl | hx
   ·exact hy
   ·exact hs x hx)
  simp only [List.length_cons] at this
  omega
theorem M.isRow_mem {ds:List M.De} {p:Int} {row:List Int} (h:M.isRow row (M.wrs p 0 ds)=true) (f:Int):f∈row↔f∈M.wrs p 0 ds:=by
 simp only [M.isRow,Bool.and_eq_true,decide_eq_true_eq,List.all_eq_true] at h
 obtain ⟨hlen,hall⟩:=h
 have hs:∀ x∈M.wrs p 0 ds,x∈row:=fun x hx=>by simpa using hall x hx
 exact ⟨nodup_all (M.nodup_wrs p ds 0) hs hlen f,hs f⟩
theorem M.orderAt_get {ds:List M.De}:∀ {rows:List (List Int)} {p:Nat},M.orderAt ds p rows=true→∀ n (h:n < rows.length),M.isRow rows[n] (M.wrs ((p+n:Nat):Int) 0 ds)=true:=by
 intro rows
 induction rows with
 | nil=>intro p _ n h;exact absurd h (Nat.not_lt_zero _)
 | cons row rows ih =>
  intro p h n hn
  simp only [M.orderAt,Bool.and_eq_true] at h
  cases n with
  | zero=>exact h.1
  | succ n =>
   have:=ih h.2 n (by simpa using hn)
   rw [show p+1+n=p+(n+1) from by omega] at this
   simpa using this
def M.backQ (ds:List M.De) (l:List Int) (n:Nat):Nat→Nat
 | 0=>n
 | k+1=>(M.valFrom ds l (M.backQ ds l n k)).toNat
theorem M.backQ_succ (ds:List M.De) (l:List Int) (n:Nat):∀ k,M.backQ ds l n (k+1)=M.backQ ds l (M.valFrom ds l n).toNat k:=by
 intro k
 induction k with
 | zero=>rfl
 | succ k ih=>rw [M.backQ,ih,M.backQ]
theorem M.backQ_add (ds:List M.De) (l:List Int) (n a:Nat):∀ k,M.backQ ds l n (a+k)=M.backQ ds l (M.backQ ds l n a) k:=by
 intro k
 induction k with
 | zero=>rfl
 | succ k ih=>rw [← Nat.add_assoc,M.backQ,ih,M.backQ]
theorem M.orig_iff (ds:List M.De) (l:List Int):∀ (m n:Nat),(M.orig ds l m n).isSome=true↔∃ k,k < m∧M.valFrom ds l (M.backQ ds l n k) < 0:=by
 intro m
 induction m with
 | zero=>intro n;simp [M.orig]
 | succ m ih =>
  intro n
  rw [M.orig]
  by_cases h:M.valFrom ds l n < 0
  ·rw [if_pos h];exact ⟨fun _=>⟨0,by omega,h⟩,fun _=>rfl⟩
  ·rw [if_neg h,ih]
   constructor
   ·rintro ⟨k,hk,h2⟩;exact ⟨k+1,by omega,by rw [M.backQ_succ];exact h2⟩
   ·rintro ⟨k,hk,h2⟩
    cases k with
    | zero=>exact absurd h2 h
    | succ k=>rw [M.backQ_succ] at h2;exact ⟨k,by omega,h2⟩
theorem M.backQ_short {ds:List M.De} {l:List Int} (hin:M.In ds l) {n:Nat} (hn:n < ds.length):∀ k,M.valFrom ds l (M.backQ ds l n k) < 0→∃ j,j < ds.length∧M.valFrom ds l (M.backQ ds l n j) < 0:=by
 intro k
 induction k using Nat.strongRecOn with
 | ind k ih =>
  intro hk
  by_cases hlt:k < ds.length
  ·exact ⟨k,hlt,hk⟩
  ·by_cases hex:∃ j,j < k∧M.valFrom ds l (M.backQ ds l n j) < 0
   ·obtain ⟨j,hj,h2⟩:=hex
    exact ih j hj h2
   ·have hall:∀ j,j≤k→M.backQ ds l n j < ds.length:=by
     intro j
     induction j with
     | zero=>intro _;exact hn
     | succ j ihj =>
      intro hj
      have h1:=hin _ (ihj (by omega))
      have h2:¬ M.valFrom ds l (M.backQ ds l n j) < 0:=fun h=>hex ⟨j,by omega,h⟩
      rw [M.backQ];omega
    have hpg:∃ a b,a < b∧b≤ds.length∧M.backQ ds l n a=M.backQ ds l n b:=by
     refine Classical.byContradiction fun hno=>?_
     have hnd:((List.range (ds.length+1)).map (fun j=>(M.backQ ds l n j:Int))).Nodup:=by
      unfold List.Nodup
      rw [List.pairwise_map]
      refine List.Pairwise.imp_of_mem ?_ List.pairwise_lt_range
      intro a b ha hb hab e
      rw [List.mem_range] at ha hb
      exact hno ⟨a,b,hab,by omega,by omega⟩
     have:=nodup_le (m:=(List.range ds.length).map (fun j:Nat=>(j:Int))) hnd (by
      intro x hx
      obtain ⟨j,hj,rfl⟩:=List.mem_map.1 hx
      rw [List.mem_range] at hj
      exact List.mem_map.2 ⟨_,List.mem_range.2 (hall j (by omega)),rfl⟩)
     simp at this
     omega
    obtain ⟨a,b,hab,hb,e⟩:=hpg
    refine ih (a+(k - b)) (by omega) ?_
    rw [M.backQ_add,e,← M.backQ_add,show b+(k - b)=k from by omega]
    exact hk
theorem M.orig_more {ds:List M.De} {l:List Int} (hin:M.In ds l) {n:Nat} (hn:n < ds.length):(M.orig ds l (2 * ds.length+2) n).isSome=(M.orig ds l ds.length n).isSome:=by
 rw [Bool.eq_iff_iff,M.orig_iff,M.orig_iff]
 constructor
 ·rintro ⟨k,_,h⟩;exact M.backQ_short hin hn k h
 ·rintro ⟨k,hk,h⟩;exact ⟨k,by omega,h⟩
theorem M.vEnds_eq {ds:List M.De} {l:List Int} (hin:M.In ds l) (hv:∀ x∈ds,0≤x.d.v) (hll:l.length=ds.length):M.vEnds ds l 0 ds=M.ends ds l:=by
 have key:∀ (xs:List M.De) (n:Nat),n+xs.length=ds.length→M.vEnds ds l n xs=M.endsAt ds l n xs:=by
  intro xs
  induction xs with
  | nil=>intro n _;rfl
  | cons x xs ih =>
   intro n hn
   simp only [List.length_cons] at hn
   rw [M.vEnds,M.endsAt,ih (n+1) (by omega),M.val_orig hin hv hll _ n (by omega),M.orig_more hin (by omega)]
 exact key ds 0 (by omega)
end Go.Proofs.YtjjkicffhpcngaaGreat
namespace Go.Proofs.YtjjkicffhpcngaaGreat
open Go.RowKit
theorem M.prog_do {ll:List (List M.D)} (h:M.prog ll=true):∀ l∈ll,∀ d∈l,M.doOk d=true:=by
 simp only [M.prog,Bool.and_eq_true,decide_eq_true_eq] at h
 have key:∀ (ll:List (List M.D)) (a u:Nat),M.progFrom a u ll=true→∀ l∈ll,∀ d∈l,M.doOk d=true:=by
  intro ll
  induction ll with
  | nil=>intro a u _ l hl;cases hl
  | cons x ll ih =>
   intro a u hp l hl
   simp only [M.progFrom] at hp
   split at hp
   ·rename_i hx
    rcases List.mem_cons.1 hl with rfl | hl
    ·simp only [M.thread,Bool.and_eq_true,M.form,List.all_eq_true] at hx
     exact hx.1.1.2
    ·exact ih _ _ hp l hl
   ·cases hp
 exact key ll 0 0 h.2
theorem M.deed_do {ll:List (List M.D)} (h:M.prog ll=true):∀ x∈M.deeds ll,M.doOk x.d=true:=by
 intro x hx
 obtain ⟨ht,hi,e⟩:=M.ofEv x hx
 rw [← e]
 exact M.prog_do h _ (List.getElem_mem ht) _ (List.getElem_mem hi)
theorem M.deed_v {ll:List (List M.D)} (h:M.prog ll=true):∀ x∈M.deeds ll,0≤x.d.v:=by
 intro x hx
 have:=M.deed_do h x hx
 simp only [M.doOk,Bool.and_eq_true,M.valOk] at this
 have hv:=this.2
 split at hv
 ·simp at hv;omega
 ·simp at hv;omega
end Go.Proofs.YtjjkicffhpcngaaGreat
namespace Go.Proofs.YtjjkicffhpcngaaGreat
open Go.RowKit
set_option maxHeartbeats 400000 in
theorem reasons0_any (w:World):Calls Tryz.prog 120 #[.int .i64 0] w fun e w'=>e=.returned (.agg #[.func (.func 156) #[] #[],.func (.func 157) #[] #[],.func (.func 158) #[] #[]])∧Below w.heap.size w w':=by
 go_enter Tryz.func120,Tryz.ntmps120
 go_wp2_with fail
 refine bodyPost_ret (v:=.agg #[.func (.func 156) #[] #[],.func (.func 157) #[] #[],.func (.func 158) #[] #[]]) (by simp [results,Tryz.results120,go_sem]) rfl ⟨rfl,?_⟩
 exact below2 _ _ _
set_option maxHeartbeats 400000 in
theorem reasons1_any (w:World):Calls Tryz.prog 120 #[.int .i64 1] w fun e w'=>e=.returned (.agg #[.func (.func 159) #[] #[],.func (.func 157) #[] #[],.func (.func 158) #[] #[]])∧Below w.heap.size w w':=by
 go_enter Tryz.func120,Tryz.ntmps120
 go_wp2_with fail
 refine bodyPost_ret (v:=.agg #[.func (.func 159) #[] #[],.func (.func 157) #[] #[],.func (.func 158) #[] #[]]) (by simp [results,Tryz.results120,go_sem]) rfl ⟨rfl,?_⟩
 exact below2 _ _ _
set_option maxHeartbeats 400000 in
theorem reasons2_any (w:World):Calls Tryz.prog 120 #[.int .i64 2] w fun e w'=>e=.returned (.agg #[.func (.func 160) #[] #[],.func (.func 161) #[] #[],.func (.func 158) #[] #[]])∧Below w.heap.size w w':=by
 go_enter Tryz.func120,Tryz.ntmps120
 go_wp2_with fail
 refine bodyPost_ret (v:=.agg #[.func (.func 160) #[] #[],.func (.func 161) #[] #[],.func (.func 158) #[] #[]]) (by simp [results,Tryz.results120,go_sem]) rfl ⟨rfl,?_⟩
 exact below2 _ _ _
set_option maxHeartbeats 400000 in
theorem reasons3_any (w:World):Calls Tryz.prog 120 #[.int .i64 3] w fun e w'=>e=.returned (.agg #[.func (.func 162) #[] #[],.func (.func 161) #[] #[],.func (.func 163) #[] #[]])∧Below w.heap.size w w':=by
 go_enter Tryz.func120,Tryz.ntmps120
 go_wp2_with fail
 refine bodyPost_ret (v:=.agg #[.func (.func 162) #[] #[],.func (.func 161) #[] #[],.func (.func 163) #[] #[]]) (by simp [results,Tryz.results120,go_sem]) rfl ⟨rfl,?_⟩
 exact below2 _ _ _
theorem isOrder_any (k:Int) (w:World):Calls Tryz.prog 41 #[.int .i64 k] w fun e w'=>e=.returned (.bool (decide (1≤k)&&decide (k≤3)))∧w'=w:=by
 by_cases h1:1≤k
 ·go_enter Tryz.func41,Tryz.ntmps41
  go_wp2_with fail
  go_ret
  exact ⟨ret_bool (by simp [h1]),rfl⟩
 ·have h1':decide (1≤k)=false:=by simpa using h1
  go_enter Tryz.func41,Tryz.ntmps41
  go_wp2_with fail
  go_ret
  exact ⟨ret_bool (by simp),rfl⟩
namespace M
def mustAt (ds:List De) (l:List Int) (rows:List (List Int)) (kind a b:Nat):Bool:=match ds[a]?,ds[b]? with | some x,some y=>must ds l rows kind a b x y | _,_=>false
end M
theorem M.from_thr:∀ (l:List (List M.D)) (a u:Nat),M.progFrom a u l=true→∀ t∈l,M.thread t=true:=by
 intro l
 induction l with
 | nil=>intro a u _ t ht;cases ht
 | cons x l ih =>
  intro a u h t ht
  rw [M.progFrom] at h
  split at h
  ·rename_i hx
   rcases List.mem_cons.1 ht with rfl | ht
   ·exact hx
   ·exact ih _ _ h t ht
  ·cases h
theorem M.deed_u {ll:List (List M.D)} (h:M.prog ll=true):∀ x∈M.deeds ll,x.uses=true→0≤x.d.p∧x.d.p < 3:=by
 intro x hx hr
 have:=M.deed_do h x hx
 simp only [M.doOk,Bool.and_eq_true,M.placeOk] at this
 have hv:=this.1.2
 rw [if_pos (show M.uses x.d.k=true from hr)] at hv
 simpa using hv
structure M.Wok (ll:List (List M.D)) (l:List Int) (rows:List (List Int)):Prop where
 prog:M.prog ll=true
 fro:M.fromOk (M.deeds ll) l=true
 len:Hid (l.length=(M.deeds ll).length)
 three:Hid (rows.length=3)
 run:M.run false (M.deeds ll)=some false
 pl:∀ x∈M.deeds ll,x.uses=true→0≤x.d.p∧x.d.p < 3
theorem M.wok_of {ll:List (List M.D)} {l:List Int} {rows:List (List Int)} (h:M.execOk ll l rows=true):M.Wok ll l rows:=by
 simp only [M.execOk,M.wayOk,Bool.and_eq_true] at h
 obtain ⟨hp,hf,ho,_⟩:=h
 have hlen:l.length=(M.deeds ll).length:=by
  have:=hf
  simp only [M.fromOk,Bool.and_eq_true,decide_eq_true_eq] at this
  exact this.1
 simp only [M.orderOk,Bool.and_eq_true,decide_eq_true_eq] at ho
 exact ⟨hp,hf,hlen,ho.1,M.run_ok (M.from_thr ll 0 0 (by have:=hp;simp only [M.prog,Bool.and_eq_true] at this;exact this.2)),M.deed_u hp⟩
structure Wb (w W:World) (X:Nat) (va:Option Addr) (g c:Nat) (ds:List M.De) (fa:Option Addr) (fb fo fc:Nat) (l:List Int) (ra:Option Addr) (rb ro rc:Nat) (rows:List (List Int)):Prop where
 bel:Below w.heap.size w W
 c0:W.cell? ⟨X,0,none⟩=some (.slice va ds.length c)
 c1:W.cell? ⟨X,1,none⟩=some (.slice fa l.length fc)
 c2:W.cell? ⟨X,2,none⟩=some (.slice ra rows.length rc)
 d:DeS W va g ds
 f:IntS W fa fb fo l
 r:IntSS W ra rb ro rows
end Go.Proofs.YtjjkicffhpcngaaGreat
namespace Go.Proofs.YtjjkicffhpcngaaGreat
open Go.RowKit
theorem nums_cells {w:World} {b o:Nat} {l:List Int} {sa:Option Addr} (h:IntS w sa b o l):∀ (j:Nat) (u:Value),(nums l)[j]?=some u→w.cell? ((⟨b,o,none⟩:Addr).add j)=some u:=by
 intro j u hj
 have hjl:j < l.length:=by
  have:=(List.getElem?_eq_some_iff.1 hj).1
  simpa [nums] using this
 rw [Go.WideShapes.add_plain,h.row j hjl]
 simpa [nums,hjl] using hj
theorem nums_one (l:List Int):∀ u∈nums l,u.oneCell'=true:=by intro u hu;simp [nums] at hu;obtain ⟨_,_,rfl⟩:=hu;rfl
set_option maxHeartbeats 1000000 in
set_option maxRecDepth 100000 in
theorem newListO_any (a:Option Addr) (b o c:Nat) (l:List Int) (w:World) (hl:l.length≤1048576) (h:IntS w a b o l) :
  Calls Tryz.prog 106 #[.slice a l.length c] w fun e w'=>∃ v,e=.returned v∧w'.ownsRow w.heap.size 3 1 v l.length (nums l)∧Below w.heap.size w w':=by
 obtain ⟨i0,hi,hz0,hz1,hz2⟩:=info_parts Tryz.infoInt
 rcases Nat.eq_zero_or_pos l.length with h0 | hpos
 ·have hl0:l=[]:=List.length_eq_zero_iff.1 h0
  subst hl0
  rw [List.length_nil]
  go_enter Tryz.func106,Tryz.ntmps106
  go_wp2_with (at_builtin;refine wpList_append_nilT rfl (.const (.slice none 0 0)) (.tmp 3) 47 rfl 3 i0 Tryz.underlying47 hi rfl a c rfl ?_)
  go_wp2_with fail
  go_ret
  exact ⟨_,rfl,World.ownsRow_nil _ _ _ _,Below.refl _ _⟩
 ·obtain ⟨rfl⟩:=h.addr hpos
  go_enter Tryz.func106,Tryz.ntmps106
  go_wp2_with (at_builtin;refine wpList_append_lies _ rfl (.const (.slice none 0 0)) (.tmp 3) 47 rfl w.heap.size 3 i0 _ 1 8 Tryz.underlying47 hi hz0 hz1 hz2 rfl (by decide) _ 0 [] rfl (World.ownsRow_nil _ _ _ _) ⟨b,o,none⟩ l.length c (nums l) rfl (by simp [nums]) (nums_cells h) (nums_one l) hpos (by unfold maxLen;omega) (by omega) (Nat.le_refl _) w.heap.size rfl ?_)
  intro g cap w1 hown hg hat hlt
  have hb:Below w.heap.size w w1:=⟨hg.os,hg.tape,hg.output,hg.size,fun k hk=>hg.block k hk (fun e=>by simp [Value.ownBlock] at e)⟩
  have hown':w1.ownsRow w.heap.size 3 1 (.slice (some ⟨g,0,none⟩) l.length cap) l.length (nums l):=by simpa using hown
  go_wp2_with fail
  go_ret
  exact ⟨_,by first | rfl | simp,hown',hb⟩
end Go.Proofs.YtjjkicffhpcngaaGreat
namespace Go.Proofs.YtjjkicffhpcngaaGreat
open Go.RowKit
theorem grown_set (w:World) (X i:Nat) (u:Value):w.grownBy (w.setCell ⟨X,i,none⟩ u) (some X) :=
 ⟨rfl,rfl,rfl,by simp [World.setCell],fun k _ hne=>Below.heap_setCell _ _ _ _ (fun e=>hne (by rw [e]))⟩
theorem Xw.mono {w:World} {base base':Nat} {fv ov:Value} {l:List Int} {cs:List Value} {rows:List (List Int)} (h:Xw w base fv ov l cs rows) (hb:base'≤base):Xw w base' fv ov l cs rows :=
 ⟨own_mono h.from_ hb,own_mono h.ord hb,fun i hi=>by
  obtain ⟨u,e1,e2,e3⟩:=h.row i hi
  exact ⟨u,e1,own_mono e2 hb,e3⟩,h.apart,h.each⟩
theorem Xw.off {w:World} {base:Nat} {fv ov:Value} {l:List Int} {cs:List Value} {rows:List (List Int)} {row:Option Nat} (h:Xw w base fv ov l cs rows) (hr:∀ k,row=some k→k < base):Xoff fv ov cs row:=by
 have o:∀ {v:Value} {e:TypeId} {n:Nat} {xs:List Value},w.ownsRow base e 1 v n xs→Off1 v row:=fun hv k hk e=>by
  have:=(hv.lt k hk).1
  have:=hr k e
  omega
 refine ⟨o h.from_,o h.ord,fun u hu=>?_⟩
 obtain ⟨i,hi,e⟩:=List.mem_iff_getElem.1 hu
 have hl:cs.length=rows.length:=by have:=h.ord.1;omega
 obtain ⟨u',e1,e2,_⟩:=h.row i (by omega)
 rw [List.getElem?_eq_getElem hi,e] at e1
 rw [Option.some.inj e1]
 exact o e2
structure Xb (B:Nat) (wy w:World) (X:Nat) (fv ov:Value) (l:List Int) (cs:List Value) (rows:List (List Int)):Prop where
 bel:Below B wy w
 ge:B≤X
 c0:w.cell? ⟨X,0,none⟩=some fv
 c1:w.cell? ⟨X,1,none⟩=some ov
 fz:∀ j,w.frozen? ⟨X,j,none⟩=false
 xw:Xw w B fv ov l cs rows
 off:Xoff fv ov cs (some X)
theorem Xb.lt {B:Nat} {wy w:World} {X:Nat} {fv ov:Value} {l:List Int} {cs:List Value} {rows:List (List Int)} (h:Xb B wy w X fv ov l cs rows):X < w.heap.size:=World.block_lt_of_cell? _ _ h.c0
theorem Xb.below {B:Nat} {wy w w':World} {X:Nat} {fv ov:Value} {l:List Int} {cs:List Value} {rows:List (List Int)} (h:Xb B wy w X fv ov l cs rows) (hb:Below w.heap.size w w'):Xb B wy w' X fv ov l cs rows :=
 ⟨h.bel.trans (hb.mono (Nat.le_trans h.ge (Nat.le_of_lt h.lt))),h.ge,(hb.cell (p:=⟨X,0,none⟩) h.lt).trans h.c0,(hb.cell (p:=⟨X,1,none⟩) h.lt).trans h.c1,fun j=>(hb.frozen (p:=⟨X,j,none⟩) h.lt).trans (h.fz j),h.xw.below hb,h.off⟩
theorem Xb.start {wy w1:World} {fv:Value} {l:List Int} (hb:Below wy.heap.size wy w1) (hown:w1.ownsRow wy.heap.size 3 1 fv l.length (nums l)):Xb wy.heap.size wy (w1.alloc (.cells #[fv,.slice none 0 0] 63)) w1.heap.size fv (.slice none 0 0) l [] [] :=
 ⟨hb.alloc hb.size _,hb.size,by simp,by simp,fun j=>by simp,(Xw.start hown).below (below1 _ _),(Xw.start hown).new (Nat.le_refl _)⟩
theorem Xb.snoc {B:Nat} {wy w W w':World} {X:Nat} {fv ov u:Value} {l r:List Int} {cs:List Value} {rows:List (List Int)} {g cap:Nat} (h:Xb B wy w X fv ov l cs rows) (hb:Below w.heap.size w W) (hu:W.ownsRow w.heap.size 3 1 u r.length (nums r))
  (ho:w'.ownsRow B 47 1 (.slice (some ⟨g,0,none⟩) (rows.length+1) cap) (rows.length+1) (cs++[u])) (hg:W.grownBy w' ov.ownBlock) (hat:ov.ownBlock=some g∨g=W.heap.size) :
  Xb B wy (w'.setCell ⟨X,1,none⟩ (.slice (some ⟨g,0,none⟩) (rows.length+1) cap)) X fv (.slice (some ⟨g,0,none⟩) (rows.length+1) cap) l (cs++[u]) (rows++[r]):=by
 have hlt:=h.lt
 have hBw:B≤w.heap.size:=Nat.le_trans h.ge (Nat.le_of_lt hlt)
 have hx:=h.xw.snoc hb (own_mono hu hBw) (own_ge hu) ho hg hat
 have hne:some X≠ov.ownBlock:=fun e=>h.off.ord X e.symm rfl
 have hltW:X < W.heap.size:=Nat.lt_of_lt_of_le hlt hb.size
 have hoff:Xoff fv (.slice (some ⟨g,0,none⟩) (rows.length+1) cap) (cs++[u]) (some X):=by
  refine ⟨h.off.from_,fun k hk e=>?_,fun v hv=>?_⟩
  ·have hk':g=k:=Option.some.inj hk
   have he:X=k:=Option.some.inj e
   rcases hat with e1 | e1
   ·exact hne (by rw [e1,hk',he])
   ·omega
  ·rcases List.mem_append.1 hv with h1 | h1
   ·exact h.off.row v h1
   ·rw [List.mem_singleton.1 h1]
    intro k hk e
    have:=own_ge hu k hk
    have he:X=k:=Option.some.inj e
    omega
 have k0:=(hg.cell_far ⟨X,0,none⟩ hltW hne).trans ((hb.cell (p:=⟨X,0,none⟩) hlt).trans h.c0)
 have k1:=(hg.cell_far ⟨X,1,none⟩ hltW hne).trans ((hb.cell (p:=⟨X,1,none⟩) hlt).trans h.c1)
 have kf:∀ j,w'.frozen? ⟨X,j,none⟩=false:=fun j=>(World.frozen?_of_block (w:=W) (a:=⟨X,j,none⟩) (hg.block X hltW hne)).trans ((hb.frozen (p:=⟨X,j,none⟩) hlt).trans (h.fz j))
 refine ⟨(below_grown (h.bel.trans (hb.mono hBw)) hg (own_ge h.xw.ord) (Nat.le_trans hBw hb.size)).setCell h.ge _,h.ge,?_,World.cell?_setCell_same _ _ _ k1,fun j=>by rw [World.frozen?_setCell];exact kf j,hx.grown (grown_set _ _ _ _) hoff,hoff⟩
 rw [World.cell?_setCell_other _ _ _ _ (fun e=>by have:=congrArg Addr.off e;simp at this)]
 exact k0
end Go.Proofs.YtjjkicffhpcngaaGreat
namespace Go.Proofs.YtjjkicffhpcngaaGreat
open Go.RowKit
structure WyAns (w w':World) (fv ov:Value) (l:List Int) (rows:List (List Int)):Prop where
 ex:∃ cs,Xw w' w.heap.size fv ov l cs rows
 bel:Below w.heap.size w w'
structure SlotX (w:World) (b:Nat) (x y:Value):Prop where
 blk:w.heap[b]?=some (.cells #[x,y] 63)
theorem SlotX.lt {w:World} {b:Nat} {x y:Value} (h:SlotX w b x y):b < w.heap.size:=(Array.getElem?_eq_some_iff.1 h.blk).1
theorem SlotX.c0 {w:World} {b:Nat} {x y:Value} (h:SlotX w b x y):w.cell? ⟨b,0,none⟩=some x:=by simp [World.cell?,h.blk]
theorem SlotX.c1 {w:World} {b:Nat} {x y:Value} (h:SlotX w b x y):w.cell? ⟨b,1,none⟩=some y:=by simp [World.cell?,h.blk]
theorem SlotX.fz {w:World} {b:Nat} {x y:Value} (h:SlotX w b x y) (i:Nat):w.frozen? ⟨b,i,none⟩=false:=by simp [World.frozen?,h.blk]
theorem SlotX.of {w w':World} {b:Nat} {x y:Value} (h:SlotX w b x y) (hb:w'.heap[b]?=w.heap[b]?):SlotX w' b x y:=⟨hb.trans h.blk⟩
theorem SlotX.far {w:World} {b b' i:Nat} {x y:Value} (h:SlotX w b x y) (hne:b'≠b) (u:Value):SlotX (w.setCell ⟨b',i,none⟩ u) b x y:=h.of (Below.heap_setCell _ _ _ _ (fun e=>hne e.symm))
theorem SlotX.set0 {w:World} {b:Nat} {x y:Value} (h:SlotX w b x y) (u:Value):SlotX (w.setCell ⟨b,0,none⟩ u) b u y:=⟨heap_setCell_same w b 0 #[x,y] _ u h.blk⟩
theorem SlotX.set1 {w:World} {b:Nat} {x y:Value} (h:SlotX w b x y) (u:Value):SlotX (w.setCell ⟨b,1,none⟩ u) b x u:=⟨heap_setCell_same w b 1 #[x,y] _ u h.blk⟩
set_option maxHeartbeats 4000000 in
set_option maxRecDepth 100000 in
set_option linter.unusedSimpArgs false in
theorem copyExec_any (a1:Option Addr) (b1 o1 c1:Nat) (l:List Int) (a:Option Addr) (b o c:Nat) (ll:List (List Int)) (w:World) (hl1:l.length≤1048576) (hl:ll.length≤1048576) (hls:∀ t∈ll,t.length≤1048576) (hF:IntS w a1 b1 o1 l) (h:IntSS w a b o ll) :
  Calls Tryz.prog 151 #[.agg #[.slice a1 l.length c1,.slice a ll.length c]] w fun e w'=>∃ fv ov,e=.returned (.agg #[fv,ov])∧WyAns w w' fv ov l ll:=by
 obtain ⟨i0,hi,hz0,hz1,hz2⟩:=info_parts Tryz.infoRs
 have b2:=below2 w (.cells #[.slice a1 l.length c1,.slice a ll.length c] 63) (.cells #[.slice none 0 0,.slice none 0 0] 63)
 have hQ0:SlotX ((w.alloc (.cells #[.slice a1 l.length c1,.slice a ll.length c] 63)).alloc (.cells #[.slice none 0 0,.slice none 0 0] 63)) (w.heap.size+1) (.slice none 0 0) (.slice none 0 0):=⟨by have:=heap_alloc_new (w.alloc (.cells #[.slice a1 l.length c1,.slice a ll.length c] 63)) (.cells #[.slice none 0 0,.slice none 0 0] 63);rwa [World.size_alloc] at this⟩
 have hP0:SlotX ((w.alloc (.cells #[.slice a1 l.length c1,.slice a ll.length c] 63)).alloc (.cells #[.slice none 0 0,.slice none 0 0] 63)) w.heap.size (.slice a1 l.length c1) (.slice a ll.length c):=⟨(Below.heap_alloc _ _ _ (by simp)).trans (heap_alloc_new w _)⟩
 have sz0:((w.alloc (.cells #[.slice a1 l.length c1,.slice a ll.length c] 63)).alloc (.cells #[.slice none 0 0,.slice none 0 0] 63)).heap.size=w.heap.size+2:=by simp
 go_enter Tryz.func151,Tryz.ntmps151
 go_wp2_with fail
 generalize (w.alloc (.cells #[.slice a1 l.length c1,.slice a ll.length c] 63)).alloc (.cells #[.slice none 0 0,.slice none 0 0] 63)=W0 at *
 refine (newListO_any a1 b1 o1 c1 l W0 hl1 (hF.below b2 (Nat.le_refl _))).mono ?_
 rintro e W1 ⟨fv,rfl,hown,bW1⟩
 obtain ⟨fa,fc,rfl⟩:=own_slx hown
 have XB:=Xb.start bW1 hown
 rw [sz0] at XB
 have p1:=(hP0.of (bW1.block _ hP0.lt))
 have p2:=(p1.of ((below1 W1 (.cells #[.slice fa l.length fc,.slice none 0 0] 63)).block _ p1.lt))
 have y1:=p2.c1
 clear hown bW1
 go_wp2_with fail
 generalize W1.alloc (.cells #[.slice fa l.length fc,.slice none 0 0] 63)=W2 at *
 generalize W1.heap.size=X at *
 clear p1 y1 p2
 go_loopw [13] (fun s13 wr=>∃ (n:Nat) (v:Value) (cs:List Value),s13=.int .i64 n∧n≤ll.length∧Xb (w.heap.size+2) W0 wr X (.slice fa l.length fc) v l cs (ll.take n)) (fun s13 _=>ll.length - (intOf s13).toNat)
 case atStart=>exact ⟨0,_,_,rfl,Nat.zero_le _,by simpa using XB⟩
 case round =>
  obtain ⟨n,v,cs,rfl,hn,hX⟩:=hrel
  clear XB
  have hgeX:=hX.ge
  have HB:Below w.heap.size w wr:=b2.trans (hX.bel.mono (by omega))
  by_cases hlt:n < ll.length
  ·obtain ⟨rfl⟩:=h.addr (by omega)
   obtain ⟨a',b',o',c',hc,hd⟩:=(h.below HB (Nat.le_refl _)).row n hlt
   have ht:=hls _ (List.getElem_mem hlt)
   have HW:Hid (ll.take (n+1)=ll.take n++[ll[n]]):=List.take_succ_eq_append_getElem hlt
   have hmm:(ll.take n).length≤1048576:=by simp;omega
   generalize ll[n]=t at *
   generalize ll.take n=mm at *
   have i1:(n:Int) < ll.length:=by omega
   obtain ⟨av,cv,rfl⟩:=own_slx hX.xw.ord
   have x0:=hX.c1
   have lP:=hX.lt
   have F4:Hid (∀ (w4:World) (v4:Value),w4.ownsRow wr.heap.size 3 1 v4 t.length (nums t)→Below wr.heap.size wr.drew w4→∃ a4 c4,v4=.slice a4 t.length c4∧Below wr.heap.size wr w4∧Xb (w.heap.size+2) W0 w4 X (.slice fa l.length fc) (.slice av mm.length cv) l cs mm∧w4.ownsRow (w.heap.size+2) 47 1 (.slice av mm.length cv) mm.length cs):=by
    intro w4 v4 ho hb
    obtain ⟨a4,c4,e⟩:=own_slx ho
    have b4:Below wr.heap.size wr w4:=(Below.refl _ _).drew.trans hb
    exact ⟨a4,c4,e,b4,hX.below b4,(hX.below b4).xw.ord⟩
   have F5:Hid (∀ (w4:World) (a4:Option Addr) (c4:Nat),Below wr.heap.size wr w4→w4.ownsRow wr.heap.size 3 1 (.slice a4 t.length c4) t.length (nums t)→∀ (g5 cap5:Nat) (w5:World),w5.ownsRow (w.heap.size+2) 47 1 (.slice (some ⟨g5,0,none⟩) (mm.length+1) cap5) (mm.length+1) (cs++[.slice a4 t.length c4])→(w4.alloc (.cells #[.slice a4 t.length c4] 47)).grownBy w5 (Value.slice av mm.length cv).ownBlock→((Value.slice av mm.length cv).ownBlock=some g5∨g5=w4.heap.size+1) →
     Xb (w.heap.size+2) W0 (w5.setCell ⟨X,1,none⟩ (.slice (some ⟨g5,0,none⟩) (mm.length+1) cap5)) X (.slice fa l.length fc) (.slice (some ⟨g5,0,none⟩) (mm.length+1) cap5) l (cs++[.slice a4 t.length c4]) (mm++[t])∧Below w.heap.size w w5∧w5.cell? ⟨X,1,none⟩=some (.slice av mm.length cv)∧w5.frozen? ⟨X,1,none⟩=false):=by
    intro w4 a4 c4 b4 hx4 g5 cap5 w5 ho hg hat
    have hal:=below1 w4 (.cells #[.slice a4 t.length c4] 47)
    have b4a:=b4.trans (hal.mono b4.size)
    have hge:=own_ge hX.xw.ord
    have hne:some X≠(Value.slice av mm.length cv).ownBlock:=fun e=>hX.off.ord X e.symm rfl
    have hXa:=hX.below b4a
    refine ⟨hX.snoc b4a (ownsRow_below hx4 hal) ho hg (by simpa using hat),below_grown (HB.trans (b4a.mono HB.size)) hg (fun j hj=>by have:=hge j hj;omega) (Nat.le_trans HB.size b4a.size),(hg.cell_far ⟨X,1,none⟩ hXa.lt hne).trans hXa.c1,(World.frozen?_of_block (w:=w4.alloc (.cells #[.slice a4 t.length c4] 47)) (a:=⟨X,1,none⟩) (hg.block X hXa.lt hne)).trans (hXa.fz 1)⟩
   have CN:=newListO_any a' b' o' c' t wr.drew ht (hd.below (Below.refl wr.heap.size wr).drew (Nat.le_refl _))
   go_wp2_with fail
   refine wp_region_held_drew (S:=fun w'=>Below w.heap.size w w') (by kernel_rfl) HB.drew (fun hH=>?_)
   refine takeD 0 (some 17) (.pointer (some ⟨X,1,none⟩)) hH rfl rfl (by kernel_rfl) (by kernel_rfl) (by kernel_rfl) (fun _ _ _ h=>h) (Or.inl ⟨by rfl,by intro w' hSw;go_simp⟩) ?_
   simp only [Act.put,List.setIfInBounds_toArray,List.set_cons_zero,List.set_cons_succ]
   refine takeD 2 (some 19) (.slice a' t.length c') hH rfl rfl (by kernel_rfl) (by kernel_rfl) (by kernel_rfl) (fun _ _ _ h=>h) (Or.inl ⟨by rfl,by intro w' hSw;go_simp⟩) ?_
   simp only [Act.put,List.setIfInBounds_toArray,List.set_cons_zero,List.set_cons_succ]
   refine wpAnyH_ready (rs:=[1,3]) (by kernel_rfl) (by simp) ?_
   refine AllReadyH.cons rfl (fun K' hK=>?_) (AllReadyH.cons rfl (fun K' hK=>?_) AllReadyH.nil)
   ·have xx:=x0
    rw [if_pos (by rfl)]
    go_simp
    refine hK.out _ _ hH (fun _=>?_)
    clear hK K' xx
    refine wpAnyH_ready (rs:=[3]) (by kernel_rfl) (by simp) ?_
    refine AllReadyH.cons rfl (fun K' hK=>?_) AllReadyH.nil
    refine step_goV (by rfl) (some 20) rfl 106 #[.tmp 19] _ rfl #[.slice a' t.length c'] (by simp [Act.eval]) (fun _ _=>rfl) CN ?_
    rintro e w4 ⟨v4,rfl,ho4,hb4⟩
    obtain ⟨a4,c4,rfl,b4,hS4,hR4⟩:=F4.out w4 v4 ho4 hb4
    refine ⟨_,rfl,?_⟩
    simp only [Act.put,List.setIfInBounds_toArray,List.set_cons_zero,List.set_cons_succ]
    refine hK.out _ _ (HB.trans (b4.mono HB.size)) (fun hH4=>?_)
    clear hK K'
    have hS4a:=(hS4.below (below1 w4 (.cells #[.slice a4 t.length c4] 47)))
    have S4a:Below w.heap.size w (w4.alloc (.cells #[.slice a4 t.length c4] 47)):=hH4.alloc hH4.size _
    refine wpAnyH_ready (rs:=[4]) (by kernel_rfl) (by simp) ?_
    refine AllReadyH.cons rfl (fun K' hK=>?_) AllReadyH.nil
    rw [if_pos (by rfl)]
    go_simp
    refine hK.out _ _ S4a (fun _=>?_)
    clear hK K'
    refine wpAnyH_ready (rs:=[5]) (by kernel_rfl) (by simp) ?_
    refine AllReadyH.cons rfl (fun K' hK=>?_) AllReadyH.nil
    refine step_append_lies _ (by rfl) (.tmp 18) (.tmp 21) 61 (by rfl) (w.heap.size+2) 47 i0 _ 1 24 Tryz.underlying61 hi hz0 hz1 hz2 rfl (by decide) (.slice av mm.length cv) mm.length cs (by rfl) (hR4.alloc _) ⟨w4.heap.size,0,none⟩ 1 1 [.slice a4 t.length c4] (by rfl) (by rfl) (World.news_of_block (cs:=#[.slice a4 t.length c4]) (t:=47) (fr:=(0,0)) (heap_alloc_new w4 _)) (by simp [Value.oneCell']) (by omega) (by unfold maxLen;omega) (by omega) (by have:=b4.size;simp;omega) (w4.heap.size+1) (by simp) ?_
    intro g5 cap5 w5 hown5 hg5 hat5 hlt5
    obtain ⟨hx5,b5,xc,xz⟩:=F5.out w4 a4 c4 b4 ho4 g5 cap5 w5 hown5 hg5 hat5
    simp only [Act.put,List.setIfInBounds_toArray,List.set_cons_zero,List.set_cons_succ]
    refine hK.out _ _ b5 (fun hH5=>?_)
    clear hK K'
    refine takeD 6 (some 23) (.pointer (some ⟨X,1,none⟩)) hH5 rfl rfl (by kernel_rfl) (by kernel_rfl) (by kernel_rfl) (fun _ _ _ h=>h) (Or.inl ⟨by rfl,by intro w' hSw;go_simp⟩) ?_
    simp only [Act.put,List.setIfInBounds_toArray,List.set_cons_zero,List.set_cons_succ]
    refine wpAnyH_ready (rs:=[7]) (by kernel_rfl) (by simp) ?_
    refine AllReadyH.cons rfl (fun K' hK=>?_) AllReadyH.nil
    rw [if_pos (by rfl)]
    go_simp
    refine hK.out _ _ (b5.setCell (by show w.heap.size≤X;omega) _) (fun _=>?_)
    clear hK K'
    refine wpAnyH_done (by kernel_rfl) ?_ _
    clear xc xz
    go_wp2_with fail
    exact ⟨⟨n+1,_,_,by go_num,by omega,by rw [HW.out];exact hx5⟩,by simp [intOf];omega⟩
   ·refine step_goV (by rfl) (some 20) rfl 106 #[.tmp 19] _ rfl #[.slice a' t.length c'] (by simp [Act.eval]) (fun _ _=>rfl) CN ?_
    rintro e w4 ⟨v4,rfl,ho4,hb4⟩
    obtain ⟨a4,c4,rfl,b4,hS4,hR4⟩:=F4.out w4 v4 ho4 hb4
    refine ⟨_,rfl,?_⟩
    simp only [Act.put,List.setIfInBounds_toArray,List.set_cons_zero,List.set_cons_succ]
    refine hK.out _ _ (HB.trans (b4.mono HB.size)) (fun hH4=>?_)
    clear hK K'
    have hS4a:=(hS4.below (below1 w4 (.cells #[.slice a4 t.length c4] 47)))
    have S4a:Below w.heap.size w (w4.alloc (.cells #[.slice a4 t.length c4] 47)):=hH4.alloc hH4.size _
    refine wpAnyH_ready (rs:=[1,4]) (by kernel_rfl) (by simp) ?_
    refine AllReadyH.cons rfl (fun K' hK=>?_) (AllReadyH.cons rfl (fun K' hK=>?_) AllReadyH.nil)
    ·have xx:=hS4.c1
     rw [if_pos (by rfl)]
     go_simp
     refine hK.out _ _ hH4 (fun _=>?_)
     clear hK K' xx
     refine wpAnyH_ready (rs:=[4]) (by kernel_rfl) (by simp) ?_
     refine AllReadyH.cons rfl (fun K' hK=>?_) AllReadyH.nil
     rw [if_pos (by rfl)]
     go_simp
     refine hK.out _ _ S4a (fun _=>?_)
     clear hK K'
     refine wpAnyH_ready (rs:=[5]) (by kernel_rfl) (by simp) ?_
     refine AllReadyH.cons rfl (fun K' hK=>?_) AllReadyH.nil
     refine step_append_lies _ (by rfl) (.tmp 18) (.tmp 21) 61 (by rfl) (w.heap.size+2) 47 i0 _ 1 24 Tryz.underlying61 hi hz0 hz1 hz2 rfl (by decide) (.slice av mm.length cv) mm.length cs (by rfl) (hR4.alloc _) ⟨w4.heap.size,0,none⟩ 1 1 [.slice a4 t.length c4] (by rfl) (by rfl) (World.news_of_block (cs:=#[.slice a4 t.length c4]) (t:=47) (fr:=(0,0)) (heap_alloc_new w4 _)) (by simp [Value.oneCell']) (by omega) (by unfold maxLen;omega) (by omega) (by have:=b4.size;simp;omega) (w4.heap.size+1) (by simp) ?_
     intro g5 cap5 w5 hown5 hg5 hat5 hlt5
     obtain ⟨hx5,b5,xc,xz⟩:=F5.out w4 a4 c4 b4 ho4 g5 cap5 w5 hown5 hg5 hat5
     simp only [Act.put,List.setIfInBounds_toArray,List.set_cons_zero,List.set_cons_succ]
     refine hK.out _ _ b5 (fun hH5=>?_)
     clear hK K'
     refine takeD 6 (some 23) (.pointer (some ⟨X,1,none⟩)) hH5 rfl rfl (by kernel_rfl) (by kernel_rfl) (by kernel_rfl) (fun _ _ _ h=>h) (Or.inl ⟨by rfl,by intro w' hSw;go_simp⟩) ?_
     simp only [Act.put,List.setIfInBounds_toArray,List.set_cons_zero,List.set_cons_succ]
     refine wpAnyH_ready (rs:=[7]) (by kernel_rfl) (by simp) ?_
     refine AllReadyH.cons rfl (fun K' hK=>?_) AllReadyH.nil
     rw [if_pos (by rfl)]
     go_simp
     refine hK.out _ _ (b5.setCell (by show w.heap.size≤X;omega) _) (fun _=>?_)
     clear hK K'
     refine wpAnyH_done (by kernel_rfl) ?_ _
     clear xc xz
     go_wp2_with fail
     exact ⟨⟨n+1,_,_,by go_num,by omega,by rw [HW.out];exact hx5⟩,by simp [intOf];omega⟩
    ·rw [if_pos (by rfl)]
     go_simp
     refine hK.out _ _ S4a (fun _=>?_)
     clear hK K'
     refine wpAnyH_ready (rs:=[1]) (by kernel_rfl) (by simp) ?_
     refine AllReadyH.cons rfl (fun K' hK=>?_) AllReadyH.nil
     have xx:=hS4a.c1
     rw [if_pos (by rfl)]
     go_simp
     refine hK.out _ _ S4a (fun _=>?_)
     clear hK K' xx
     refine wpAnyH_ready (rs:=[5]) (by kernel_rfl) (by simp) ?_
     refine AllReadyH.cons rfl (fun K' hK=>?_) AllReadyH.nil
     refine step_append_lies _ (by rfl) (.tmp 18) (.tmp 21) 61 (by rfl) (w.heap.size+2) 47 i0 _ 1 24 Tryz.underlying61 hi hz0 hz1 hz2 rfl (by decide) (.slice av mm.length cv) mm.length cs (by rfl) (hR4.alloc _) ⟨w4.heap.size,0,none⟩ 1 1 [.slice a4 t.length c4] (by rfl) (by rfl) (World.news_of_block (cs:=#[.slice a4 t.length c4]) (t:=47) (fr:=(0,0)) (heap_alloc_new w4 _)) (by simp [Value.oneCell']) (by omega) (by unfold maxLen;omega) (by omega) (by have:=b4.size;simp;omega) (w4.heap.size+1) (by simp) ?_
     intro g5 cap5 w5 hown5 hg5 hat5 hlt5
     obtain ⟨hx5,b5,xc,xz⟩:=F5.out w4 a4 c4 b4 ho4 g5 cap5 w5 hown5 hg5 hat5
     simp only [Act.put,List.setIfInBounds_toArray,List.set_cons_zero,List.set_cons_succ]
     refine hK.out _ _ b5 (fun hH5=>?_)
     clear hK K'
     refine takeD 6 (some 23) (.pointer (some ⟨X,1,none⟩)) hH5 rfl rfl (by kernel_rfl) (by kernel_rfl) (by kernel_rfl) (fun _ _ _ h=>h) (Or.inl ⟨by rfl,by intro w' hSw;go_simp⟩) ?_
     simp only [Act.put,List.setIfInBounds_toArray,List.set_cons_zero,List.set_cons_succ]
     refine wpAnyH_ready (rs:=[7]) (by kernel_rfl) (by simp) ?_
     refine AllReadyH.cons rfl (fun K' hK=>?_) AllReadyH.nil
     rw [if_pos (by rfl)]
     go_simp
     refine hK.out _ _ (b5.setCell (by show w.heap.size≤X;omega) _) (fun _=>?_)
     clear hK K'
     refine wpAnyH_done (by kernel_rfl) ?_ _
     clear xc xz
     go_wp2_with fail
     exact ⟨⟨n+1,_,_,by go_num,by omega,by rw [HW.out];exact hx5⟩,by simp [intOf];omega⟩
  ·have htk:ll.take n=ll:=List.take_of_length_le (by omega)
   rw [htk] at hX
   obtain ⟨av,cv,rfl⟩:=own_slx hX.xw.ord
   have hkn':¬ (n:Int) < ll.length:=by omega
   have p0:=hX.c0
   have p1:=hX.c1
   have hQ1:SlotX wr (w.heap.size+1) (.slice none 0 0) (.slice none 0 0):=hQ0.of (hX.bel.block _ (by omega))
   have q0:=hQ1.c0
   have q1:=hQ1.c1
   have qf:=hQ1.fz
   have lQ:=hQ1.lt
   have hne:X≠w.heap.size+1:=by omega
   have Q2:=(hQ1.set0 (.slice fa l.length fc)).set1 (.slice av ll.length cv)
   have r0:=Q2.c0
   have r1:=Q2.c1
   have hxo:Xoff (.slice fa l.length fc) (.slice av ll.length cv) cs (some (w.heap.size+1)):=hX.xw.off (fun k hk=>by have:w.heap.size+1=k:=Option.some.inj hk;omega)
   go_wp2_with fail
   exact bodyPost_ret (v:=.agg #[.slice fa l.length fc,.slice av ll.length cv]) (by simp [results,Tryz.results151,go_sem,r0,r1]) rfl ⟨_,_,rfl,⟨cs,((hX.xw.grown (grown_set _ _ _ _) hxo).grown (grown_set _ _ _ _) hxo).mono (by omega)⟩,(HB.setCell (by show w.heap.size≤w.heap.size+1;omega) _).setCell (by show w.heap.size≤w.heap.size+1;omega) _⟩
end Go.Proofs.YtjjkicffhpcngaaGreat
namespace Go.Proofs.YtjjkicffhpcngaaGreat
open Go.RowKit
theorem M.sameS_self (a b:List Int):M.sameS a b a b=true:=by rw [M.sameS_eq,M.cmpS_self];rfl
set_option maxHeartbeats 1000000 in
set_option maxRecDepth 100000 in
theorem lpList_same (a:Option Addr) (b o c:Nat) (a2:Option Addr) (b2 o2 c2:Nat) (ks:List Key) (w:World) (hl:ks.length≤1048576) (hls:KLe ks 1048576) (h:KS w a b o ks) (h2:KS w a2 b2 o2 ks) :
  Calls Tryz.prog 18 #[.slice a ks.length c,.slice a2 ks.length c2] w fun e w'=>e=.returned (.bool true)∧Below w.heap.size w w':=by
 go_enter Tryz.func18,Tryz.ntmps18
 go_wp2_with fail
 go_loopw [5] (fun s5 wr=>∃ n:Nat,s5=.int .i64 n∧n≤ks.length∧Below w.heap.size w wr) (fun s5 _=>ks.length - (intOf s5).toNat)
 case atStart=>exact ⟨0,rfl,Nat.zero_le _,Below.refl _ _⟩
 case round =>
  obtain ⟨n,rfl,hn,hb⟩:=hrel
  by_cases hlt:n < ks.length
  ·obtain ⟨rfl⟩:=h.addr (by omega)
   obtain ⟨rfl⟩:=h2.addr (by omega)
   obtain ⟨s,h1,h2',c1,c2',hsa⟩:=(h.below hb (Nat.le_refl _)).row n hlt
   obtain ⟨t,t1,t2,d1,d2,hta⟩:=(h2.below hb (Nat.le_refl _)).row n hlt
   obtain ⟨e1,e2⟩:=hls _ (List.getElem_mem hlt)
   have hsl:s.Le 1048576:=⟨by rw [h1];exact e1,by rw [h2'];exact e2⟩
   have C:=fun p:BelowOf wr=>(lpSame_any s t p.x hsl (hsa.below p.h (Nat.le_refl _)) (hta.below p.h (Nat.le_refl _)))
   have hq:M.sameS s.l1 s.l2 t.l1 t.l2=true:=by rw [h1,h2',t1,t2,M.sameS_self]
   rw [hq] at C
   clear h1 h2' t1 t2 e1 e2 hq
   have K1:=BelowOf.cell c1
   have K2:=BelowOf.cell c2'
   have K3:=BelowOf.cell d1
   have K4:=BelowOf.cell d2
   have i1:(n:Int) < ks.length:=by omega
   go_wp2_with fail
   haveI:Inhabited (BelowOf wr):=⟨belOf wr⟩
   refine wp_region_quiet_bel (by kernel_rfl) (by kernel_rfl) ?_
   repeat (quiet_step (first | (go_at_call 47;exact Calls.bel_of ((C _).mono fun _ _ ⟨he,hg⟩=>⟨he,hg.bel⟩))))
   refine wpQuiet_nil ?_
   rintro wq ⟨⟨wx,hwq⟩,ew⟩
   change wq=wx at ew
   subst ew
   go_wp2_with fail
   exact ⟨⟨n+1,by go_num,by omega,hb.trans (hwq.mono hb.size)⟩,by simp [intOf];omega⟩
  ·go_wp2_with fail
   go_ret
   exact ⟨rfl,hb⟩
end Go.Proofs.YtjjkicffhpcngaaGreat
