/- The plain mathematics of orders: what must be ahead of what by itself, told in two ways. No condition. impl's orders: the reasons for which one event must be ahead of another one. Of at most 1048576 events. impl.OrderHas: what must be ahead of what by itself. Of at most 1048576 threads, steps, numbers and rows. -/
import Derived.Laws.EntriesVeiled
import Derived.Test.YtnddmlgnngdaoaaGreatDoorRows
import Derived.Test.YtnddmlgnngdaoaaGreatDoorQsax
namespace Go.Proofs.YtnddmlgnngdaoaaGreatDoor
section
namespace M
def De.uses (x:De):Bool:=M.uses x.d.k
def isWall (k:Int):Bool:=k==4||k==9
def own (a b:Nat) (x y:De):Bool:=decide (a < b)&&x.t==y.t
def onePl (x y:De):Bool:=x.uses&&(y.uses&&x.d.p==y.d.p)
def late (a b:Nat) (x y:De):Bool:=own a b x y&&!(writes x.d.k&&reads y.d.k)
def outFrom:Nat→List De→Nat
 | n,[]=>n
 | n,x::l=>if x.d.k==8 then n else outFrom (n+1) l
def outOf (ds:List De) (a:Nat):Nat:=outFrom a (ds.drop a)
def kAt (ds:List De) (n:Nat):Int:=match ds[n]? with | some x=>x.d.k | none=>0
def inOf (ds:List De):Nat→Nat
 | 0=>0
 | n+1=>if kAt ds (n+1)==7 then n+1 else inOf ds n
def goesIn (ds:List De) (a b:Nat) (x:De):Bool:=x.d.k==7&&decide (b≤outOf ds a)
def goesOut (ds:List De) (a b:Nat) (y:De):Bool:=y.d.k==8&&decide (inOf ds b≤a)
def copyOf (a:Nat) (y:De):Bool:=y.d.k==3&&y.lr==(a:Int)
def keeps (ds:List De) (a b:Nat) (x y:De):Bool:=(isWall x.d.k||isWall y.d.k)||(x.d.k==5||(y.d.k==6||(goesIn ds a b x||(goesOut ds a b y||copyOf a y))))
def loose (ds:List De) (a b:Nat) (x y:De):Bool:=own a b x y&&keeps ds a b x y
def idx (row:List Int) (v:Int):Int:=match row.findIdx? (·==v) with | some i=>(i:Int) | none=>-1
def read (l:List Int) (a b:Nat):Bool:=l.getD b 0==(a:Int)
def wrote (l:List Int) (a:Nat) (x:De):Int:=if M.reads x.d.k then l.getD a 0 else (a:Int)
def over (l:List Int) (rows:List (List Int)) (a b:Nat) (x y:De):Bool:=onePl x y&&(writes y.d.k&&decide (idx (rows.getD y.d.p.toNat []) (wrote l a x) < idx (rows.getD y.d.p.toNat []) (b:Int)))
def two (x y:De):Bool:=!(x.t==y.t)
def must (ds:List De) (l:List Int) (rows:List (List Int)) (kind:Nat) (a b:Nat) (x y:De):Bool :=
 match kind with
 | 0=>(own a b x y&&onePl x y)||(read l a b||over l rows a b x y)
 | 1=>own a b x y||(read l a b||over l rows a b x y)
 | 2=>late a b x y||((two x y&&read l a b)||over l rows a b x y)
 | _=>loose ds a b x y||((two x y&&read l a b)||(two x y&&over l rows a b x y))
def run:Bool→List De→Option Bool
 | i,[]=>some i
 | i,x::l=>if x.d.k==7 then (if i then none else run true l) else if x.d.k==8 then (if i then run false l else none) else run i l
theorem run_append:∀ (l m:List De) (i:Bool),run i (l++m)=(run i l).bind fun j=>run j m:=by
 intro l m
 induction l with
 | nil=>intro i;rfl
 | cons x l ih =>
  intro i
  simp only [List.cons_append,run]
  split
  ·cases i
   ·exact ih true
   ·rfl
  ·split
   ·cases i
    ·rfl
    ·exact ih false
   ·exact ih i
theorem run_T (t:Nat):∀ (l:List D) (i:Nat) (lr:Int) (n:Nat) (b:Bool),readers b l=true→run b (deT t i lr n l)=some false:=by
 intro l
 induction l with
 | nil =>
  intro i lr n b h
  simp only [readers] at h
  cases b
  ·rfl
  ·simp at h
 | cons d l ih =>
  intro i lr n b h
  rw [deT,run_append]
  simp only [readers] at h
  by_cases h7:(d.k==7)=true
  ·have h9:(d.k==9)=false:=by simp at h7 ⊢;omega
   rw [if_pos h7] at h
   cases b
   ·rw [deD_one h9]
    have e:run false [(⟨t,i,false,d,lrOf lr n d⟩:De)]=some true:=by
     show (if (d.k==7)=true then _ else _)=_
     rw [if_pos h7];rfl
    rw [e]
    exact ih _ _ _ true h
   ·simp at h
  ·rw [if_neg h7] at h
   by_cases h8:(d.k==8)=true
   ·have h9:(d.k==9)=false:=by simp at h8 ⊢;omega
    rw [if_pos h8] at h
    cases b
    ·simp at h
    ·rw [deD_one h9]
     have e:run true [(⟨t,i,false,d,lrOf lr n d⟩:De)]=some false:=by
      show (if (d.k==7)=true then _ else _)=_
      rw [if_neg h7,if_pos h8];rfl
     rw [e]
     exact ih _ _ _ false h
   ·rw [if_neg h8] at h
    have e:run b (deD t i lr n d)=some b:=by
     unfold deD
     split
     ·show (if (d.k==7)=true then _ else _)=_
      rw [if_neg h7,if_neg h8]
      show (if (d.k==7)=true then _ else _)=_
      rw [if_neg h7,if_neg h8];rfl
     ·show (if (d.k==7)=true then _ else _)=_
      rw [if_neg h7,if_neg h8];rfl
    rw [e]
    refine ih _ _ _ b ?_
    by_cases h9:(d.k==9)=true
    ·rw [if_pos h9] at h
     cases b
     ·exact h
     ·simp at h
    ·rw [if_neg h9] at h
     exact h
theorem run_F:∀ (ll:List (List D)) (t n:Nat),(∀ l∈ll,readers false l=true)→run false (deF t n ll)=some false:=by
 intro ll
 induction ll with
 | nil=>intro t n _;rfl
 | cons l ll ih =>
  intro t n h
  rw [deF,run_append,run_T t l 0 (-1) n false (h l (List.mem_cons_self ..))]
  exact ih _ _ (fun x hx=>h x (List.mem_cons_of_mem _ hx))
theorem run_ok {ll:List (List D)} (h:∀ l∈ll,thread l=true):run false (deeds ll)=some false :=
 run_F ll 0 0 fun l hl=>by
  have:=h l hl
  simp only [thread,Bool.and_eq_true] at this
  exact this.2
theorem run_no8:∀ (l:List De) (i j:Bool),run i l=some j→(∀ x∈l,x.d.k≠8)→i=true→j=true∧∀ x∈l,x.d.k≠7:=by
 intro l
 induction l with
 | nil=>intro i j h _ hi;simp only [run] at h;exact ⟨(Option.some.inj h)▸hi,fun x hx=>by cases hx⟩
 | cons x l ih =>
  intro i j h h8 hi
  subst hi
  have hx8:=h8 x (List.mem_cons_self ..)
  simp only [run] at h
  by_cases h7:(x.d.k==7)=true
  ·rw [if_pos h7] at h;simp at h
  ·rw [if_neg h7,if_neg (by simpa using hx8)] at h
   obtain ⟨e1,e2⟩:=ih true j h (fun y hy=>h8 y (List.mem_cons_of_mem _ hy)) rfl
   refine ⟨e1,fun y hy=>?_⟩
   rcases List.mem_cons.1 hy with rfl | hy
   ·simpa using h7
   ·exact e2 y hy
theorem run_no7:∀ (l:List De) (i j:Bool),run i l=some j→(∀ x∈l,x.d.k≠7)→j=true→i=true∧∀ x∈l,x.d.k≠8:=by
 intro l
 induction l with
 | nil=>intro i j h _ hj;simp only [run] at h;exact ⟨(Option.some.inj h).symm▸hj,fun x hx=>by cases hx⟩
 | cons x l ih =>
  intro i j h h7 hj
  have hx7:=h7 x (List.mem_cons_self ..)
  simp only [run] at h
  rw [if_neg (by simpa using hx7)] at h
  by_cases h8:(x.d.k==8)=true
  ·rw [if_pos h8] at h
   cases i
   ·simp at h
   ·have:=(ih false j h (fun y hy=>h7 y (List.mem_cons_of_mem _ hy)) hj).1
    cases this
  ·rw [if_neg h8] at h
   obtain ⟨e1,e2⟩:=ih i j h (fun y hy=>h7 y (List.mem_cons_of_mem _ hy)) hj
   refine ⟨e1,fun y hy=>?_⟩
   rcases List.mem_cons.1 hy with rfl | hy
   ·simpa using h8
   ·exact e2 y hy
theorem run_at {ds:List De} {n:Nat} (h:run false ds=some false) (hn:n < ds.length):∃ i j,run false (ds.take n)=some i∧run i [ds[n]]=some j∧run j (ds.drop (n+1))=some false:=by
 have e:ds=ds.take n++([ds[n]]++ds.drop (n+1)):=by
  rw [List.singleton_append,List.getElem_cons_drop hn,List.take_append_drop]
 rw [e,run_append] at h
 cases h1:run false (ds.take n) with
 | none=>rw [h1] at h;simp at h
 | some i =>
  rw [h1] at h
  simp only [Option.bind_some] at h
  rw [run_append] at h
  cases h2:run i [ds[n]] with
  | none=>rw [h2] at h;simp at h
  | some j =>
   rw [h2] at h
   exact ⟨i,j,rfl,h2,h⟩
theorem run_one7 {x:De} {i j:Bool} (h:run i [x]=some j) (hx:x.d.k=7):i=false∧j=true:=by
 simp only [run] at h
 rw [if_pos (by simpa using hx)] at h
 cases i
 ·exact ⟨rfl,(Option.some.inj h).symm⟩
 ·simp at h
theorem run_one8 {x:De} {i j:Bool} (h:run i [x]=some j) (hx:x.d.k=8):i=true∧j=false:=by
 simp only [run] at h
 rw [if_neg (by simp;omega),if_pos (by simpa using hx)] at h
 cases i
 ·simp at h
 ·exact ⟨rfl,(Option.some.inj h).symm⟩
theorem has_out {ds:List De} {n:Nat} (h:run false ds=some false) (hn:n < ds.length) (hk:ds[n].d.k=7):∃ m,n < m∧∃ hm:m < ds.length,ds[m].d.k=8:=by
 obtain ⟨i,j,_,h2,h3⟩:=run_at h hn
 obtain ⟨_,rfl⟩:=run_one7 h2 hk
 refine Classical.byContradiction fun hno=>?_
 have:=(run_no8 _ _ _ h3 (fun x hx e=>hno ?_) rfl).1
 ·cases this
 ·obtain ⟨q,hq,rfl⟩:=List.getElem_of_mem hx
  rw [List.length_drop] at hq
  rw [List.getElem_drop] at e
  exact ⟨n+1+q,by omega,by omega,e⟩
theorem has_in {ds:List De} {n:Nat} (h:run false ds=some false) (hn:n < ds.length) (hk:ds[n].d.k=8):∃ m,m < n∧∃ hm:m < ds.length,ds[m].d.k=7:=by
 obtain ⟨i,j,h1,h2,_⟩:=run_at h hn
 obtain ⟨rfl,_⟩:=run_one8 h2 hk
 refine Classical.byContradiction fun hno=>?_
 have:=(run_no7 _ _ _ h1 (fun x hx e=>hno ?_) rfl).1
 ·cases this
 ·obtain ⟨q,hq,rfl⟩:=List.getElem_of_mem hx
  rw [List.length_take] at hq
  rw [List.getElem_take] at e
  exact ⟨q,by omega,by omega,e⟩
theorem kAt_eq {ds:List De} {n:Nat} (h:n < ds.length):kAt ds n=ds[n].d.k:=by simp [kAt,List.getElem?_eq_getElem h]
theorem le_outFrom:∀ (l:List De) (n b:Nat),b≤n+l.length→(b≤outFrom n l↔∀ q (hq:q < l.length),n+q < b→l[q].d.k≠8):=by
 intro l
 induction l with
 | nil =>
  intro n b hb
  exact ⟨fun _ q hq=>absurd hq (Nat.not_lt_zero _),fun _=>by simpa [outFrom] using hb⟩
 | cons x l ih =>
  intro n b hb
  unfold outFrom
  by_cases h8:(x.d.k==8)=true
  ·rw [if_pos h8]
   constructor
   ·intro h q hq hqb;omega
   ·intro h
    refine Classical.byContradiction fun hno=>?_
    exact h 0 (by simp) (by omega) (by simpa using h8)
  ·rw [if_neg h8,ih (n+1) b (by simp only [List.length_cons] at hb;omega)]
   constructor
   ·intro h q hq hqb
    cases q with
    | zero=>simpa using h8
    | succ q=>exact h q (by simpa using hq) (by omega)
   ·intro h q hq hqb
    exact h (q+1) (by simpa using hq) (by omega)
theorem le_outOf {ds:List De} {a b:Nat} (ha:a≤ds.length) (hb:b≤ds.length):b≤outOf ds a↔∀ q (hq:q < ds.length),a≤q→q < b→ds[q].d.k≠8:=by
 rw [outOf,le_outFrom _ _ _ (by rw [List.length_drop];omega)]
 constructor
 ·intro h q hq h1 h2
  have:=h (q - a) (by rw [List.length_drop];omega) (by omega)
  rw [List.getElem_drop] at this
  simpa [show a+(q - a)=q from by omega] using this
 ·intro h q hq h2
  rw [List.length_drop] at hq
  rw [List.getElem_drop]
  exact h (a+q) (by omega) (by omega) h2
def sRead (l:List Int) (a b:Nat) (x y:De):Bool:=writes x.d.k&&(reads y.d.k&&l.getD b 0==(a:Int))
def rankAt (l:List Int) (rows:List (List Int)) (i:Nat) (x:De):Int:=if writes x.d.k then idx (rows.getD x.d.p.toNat []) (i:Int) else if reads x.d.k then idx (rows.getD x.d.p.toNat []) (l.getD i 0) else 0
def sOver (l:List Int) (rows:List (List Int)) (a b:Nat) (x y:De):Bool:=writes y.d.k&&(!((a:Int)==(b:Int))&&(onePl x y&&decide (rankAt l rows a x < rankAt l rows b y)))
def told (l:List Int) (rows:List (List Int)) (kind:Nat) (a b:Nat) (x y:De):Bool :=
 match kind with
 | 0=>sRead l a b x y||sOver l rows a b x y
 | 1=>sRead l a b x y||sOver l rows a b x y
 | 2=>(two x y&&sRead l a b x y)||sOver l rows a b x y
 | _=>two x y&&(sRead l a b x y||sOver l rows a b x y)
end M
end
section
open Go.RowKit
structure Wx where
 g:Nat
 c:Nat
 ds:List M.De
 fb:Nat
 fo:Nat
 fc:Nat
 l:List Int
 rb:Nat
 ro:Nat
 rc:Nat
 rows:List (List Int)
structure Wx.At (t:Wx) (w:World):Prop where
 d:DeS w (some ⟨t.g,0,none⟩) t.g t.ds
 f:IntS w (some ⟨t.fb,t.fo,none⟩) t.fb t.fo t.l
 r:IntSS w (some ⟨t.rb,t.ro,none⟩) t.rb t.ro t.rows
structure Wx.Ok (t:Wx):Prop where
 dl:t.ds.length≤1048576
 len:Hid (t.l.length=t.ds.length)
 three:Hid (t.rows.length=3)
 rl:∀ r∈t.rows,r.length≤1048576
 run:M.run false t.ds=some false
 pl:∀ x∈t.ds,x.uses=true→0≤x.d.p∧x.d.p < 3
theorem Wx.At.below {t:Wx} {w w':World} {B:Nat} (h:t.At w) (hb:Below B w w') (hB:w.heap.size≤B):t.At w':=⟨h.d.bel hb hB,h.f.below hb hB,h.r.below hb hB⟩
theorem Wx.lt {t:Wx} {n:Nat} {x:M.De} (hx:t.ds[n]?=some x):n < t.ds.length:=by
 rcases Nat.lt_or_ge n t.ds.length with h | h
 ·exact h
 ·rw [List.getElem?_eq_none h] at hx;cases hx
theorem Wx.At.el {t:Wx} {w:World} (h:t.At w) {n:Nat} {x:M.De} (hx:t.ds[n]?=some x):DeAt w t.g (n * 7) x:=by
 have hn:=Wx.lt hx
 rw [List.getElem?_eq_getElem hn] at hx
 obtain rfl:=Option.some.inj hx
 exact DeS.at h.d hn
structure Wx.Bx (t:Wx) (w W:World) (K:Nat):Prop where
 bel:Below w.heap.size w W
 c0:W.cell? ⟨K,0,none⟩=some (.slice (some ⟨t.g,0,none⟩) t.ds.length t.c)
 c1:W.cell? ⟨K,1,none⟩=some (.slice (some ⟨t.fb,t.fo,none⟩) t.l.length t.fc)
 c2:W.cell? ⟨K,2,none⟩=some (.slice (some ⟨t.rb,t.ro,none⟩) t.rows.length t.rc)
 at_:t.At W
theorem Wx.Bx.new {t:Wx} {w:World} (h:t.At w):t.Bx w (w.alloc (.cells #[.slice (some ⟨t.g,0,none⟩) t.ds.length t.c,.slice (some ⟨t.fb,t.fo,none⟩) t.l.length t.fc,.slice (some ⟨t.rb,t.ro,none⟩) t.rows.length t.rc] 124)) w.heap.size :=
 ⟨below1 _ _,by simp,by simp,by simp,h.below (below1 _ _) (Nat.le_refl _)⟩
theorem Wx.Bx.below {t:Wx} {w W W':World} {K:Nat} (h:t.Bx w W K) (hb:Below W.heap.size W W'):t.Bx w W' K:=by
 have hl:K < W.heap.size:=World.block_lt_of_cell? _ _ h.c0
 exact ⟨h.bel.trans (hb.mono h.bel.size),(hb.cell (p:=⟨K,0,none⟩) hl).trans h.c0,(hb.cell (p:=⟨K,1,none⟩) hl).trans h.c1,(hb.cell (p:=⟨K,2,none⟩) hl).trans h.c2,h.at_.below hb (Nat.le_refl _)⟩
theorem isWall_any (k:Int) (w:World):Calls Tryz.prog 209 #[.int .i64 k] w fun e w'=>e=.returned (.bool (M.isWall k))∧w'=w:=by
 cases h:(k==4)
 all_goals
  go_enter Tryz.func209,Tryz.ntmps209
  go_wp2_with fail
  go_ret
  exact ⟨ret_bool (by simp [M.isWall,h]),rfl⟩
theorem kind_any (t:Wx) (a:Nat) (x:M.De) (w:World) (_hl:t.Ok) (ht:t.At w) (hx:t.ds[a]?=some x) :
  Calls Tryz.prog 190 #[.agg #[.slice (some ⟨t.g,0,none⟩) t.ds.length t.c,.slice (some ⟨t.fb,t.fo,none⟩) t.l.length t.fc,.slice (some ⟨t.rb,t.ro,none⟩) t.rows.length t.rc],.int .i64 (a:Int)] w fun e w'=>e=.returned (.int .i64 x.d.k)∧Below w.heap.size w w':=by
 have ha:=Wx.lt hx
 obtain ⟨c0,c1,c2,c3,c4,c5,c6⟩:=ht.el hx
 have lg:t.g < w.heap.size:=World.block_lt_of_cell? _ _ c0
 have i1:(a:Int) < t.ds.length:=by omega
 go_enter Tryz.func190,Tryz.ntmps190
 go_wp2_with fail
 go_ret
 exact ⟨rfl,below1 _ _⟩
theorem oneThread_any (t:Wx) (a b:Nat) (x y:M.De) (w:World) (_hl:t.Ok) (ht:t.At w) (hx:t.ds[a]?=some x) (hy:t.ds[b]?=some y) :
  Calls Tryz.prog 191 #[.agg #[.slice (some ⟨t.g,0,none⟩) t.ds.length t.c,.slice (some ⟨t.fb,t.fo,none⟩) t.l.length t.fc,.slice (some ⟨t.rb,t.ro,none⟩) t.rows.length t.rc],.int .i64 (a:Int),.int .i64 (b:Int)] w fun e w'=>e=.returned (.bool (x.t==y.t))∧Below w.heap.size w w':=by
 have ha:=Wx.lt hx
 have hb:=Wx.lt hy
 have B0:=Wx.Bx.new ht
 obtain ⟨c0,_,_,_,_,_,_⟩:=B0.at_.el hx
 obtain ⟨d0,_,_,_,_,_,_⟩:=B0.at_.el hy
 have i1:(a:Int) < t.ds.length:=by omega
 have i2:(b:Int) < t.ds.length:=by omega
 go_enter Tryz.func191,Tryz.ntmps191
 go_wp2_with fail
 have K0:=BelowOf.cell B0.c0
 have bel:=B0.bel
 have C0:=BelowOf.cell c0
 have D0:=BelowOf.cell d0
 generalize w.alloc (.cells #[.slice (some ⟨t.g,0,none⟩) t.ds.length t.c,.slice (some ⟨t.fb,t.fo,none⟩) t.l.length t.fc,.slice (some ⟨t.rb,t.ro,none⟩) t.rows.length t.rc] 124)=W at *
 haveI:Inhabited (BelowOf W):=⟨belOf W⟩
 refine wp_region_quiet_bel (by kernel_rfl) (by kernel_rfl) ?_
 repeat (quiet_step (fail))
 refine wpQuiet_nil ?_
 rintro _ ⟨⟨wq,hwq⟩,rfl⟩
 go_wp2_with fail
 go_ret
 exact ⟨ret_bool (by rw [Bool.eq_iff_iff];simp;omega),bel.trans (hwq.mono bel.size)⟩
theorem own_any (t:Wx) (a b:Nat) (x y:M.De) (w:World) (hl:t.Ok) (ht:t.At w) (hx:t.ds[a]?=some x) (hy:t.ds[b]?=some y) :
  Calls Tryz.prog 173 #[.agg #[.slice (some ⟨t.g,0,none⟩) t.ds.length t.c,.slice (some ⟨t.fb,t.fo,none⟩) t.l.length t.fc,.slice (some ⟨t.rb,t.ro,none⟩) t.rows.length t.rc],.int .i64 (a:Int),.int .i64 (b:Int)] w fun e w'=>e=.returned (.bool (M.own a b x y))∧Below w.heap.size w w':=by
 have B0:=Wx.Bx.new ht
 have C:=oneThread_any t a b x y _ hl B0.at_ hx hy
 by_cases hab:a < b
 ·have i1:(a:Int) < b:=by omega
  go_enter Tryz.func173,Tryz.ntmps173
  go_wp2_with fail
  refine C.mono ?_
  rintro e w1 ⟨rfl,hb1⟩
  go_wp2_with fail
  go_ret
  exact ⟨ret_bool (by simp [M.own,hab]),(B0.below hb1).bel⟩
 ·have i1:decide ((a:Int) < b)=false:=by simp;omega
  go_enter Tryz.func173,Tryz.ntmps173
  go_wp2_with fail
  go_ret
  exact ⟨ret_bool (by simp [M.own,hab]),B0.bel⟩
set_option maxHeartbeats 1000000 in
set_option maxRecDepth 100000 in
theorem onePl_any (t:Wx) (a b:Nat) (x y:M.De) (w:World) (hl:t.Ok) (ht:t.At w) (hx:t.ds[a]?=some x) (hy:t.ds[b]?=some y) :
  Calls Tryz.prog 189 #[.agg #[.slice (some ⟨t.g,0,none⟩) t.ds.length t.c,.slice (some ⟨t.fb,t.fo,none⟩) t.l.length t.fc,.slice (some ⟨t.rb,t.ro,none⟩) t.rows.length t.rc],.int .i64 (a:Int),.int .i64 (b:Int)] w fun e w'=>e=.returned (.bool (M.onePl x y))∧Below w.heap.size w w':=by
 have ha:=Wx.lt hx
 have hb:=Wx.lt hy
 have B0:=Wx.Bx.new ht
 obtain ⟨_,_,_,_,c4,_,_⟩:=B0.at_.el hx
 obtain ⟨_,_,_,_,d4,_,_⟩:=B0.at_.el hy
 have i1:(a:Int) < t.ds.length:=by omega
 have i2:(b:Int) < t.ds.length:=by omega
 go_enter Tryz.func189,Tryz.ntmps189
 go_wp2_with fail
 have K0:=BelowOf.cell B0.c0
 have K1:=BelowOf.cell B0.c1
 have K2:=BelowOf.cell B0.c2
 have bel:=B0.bel
 have C4:=BelowOf.cell c4
 have D4:=BelowOf.cell d4
 have at_:=B0.at_
 clear B0 c4 d4
 generalize w.alloc (.cells #[.slice (some ⟨t.g,0,none⟩) t.ds.length t.c,.slice (some ⟨t.fb,t.fo,none⟩) t.l.length t.fc,.slice (some ⟨t.rb,t.ro,none⟩) t.rows.length t.rc] 124)=W at *
 have CA:=fun q:BelowOf W=>kind_any t a x q.x hl (at_.below q.h (Nat.le_refl _)) hx
 have CB:=fun q:BelowOf W=>kind_any t b y q.x hl (at_.below q.h (Nat.le_refl _)) hy
 have UA:=fun q:BelowOf W=>(uses_any x.d.k q.x).mono (R':=fun e w'=>e=.returned (.bool (M.uses x.d.k))∧Below q.x.heap.size q.x w') (fun _ _ ⟨h1,h2⟩=>⟨h1,h2▸Below.refl _ _⟩)
 have UB:=fun q:BelowOf W=>(uses_any y.d.k q.x).mono (R':=fun e w'=>e=.returned (.bool (M.uses y.d.k))∧Below q.x.heap.size q.x w') (fun _ _ ⟨h1,h2⟩=>⟨h1,h2▸Below.refl _ _⟩)
 haveI:Inhabited (BelowOf W):=⟨belOf W⟩
 cases hu:M.uses x.d.k
 ·rw [hu] at UA
  refine wp_region_quiet_bel (by kernel_rfl) (by kernel_rfl) ?_
  iterate 5 (quiet_step (first | (go_at_call 190;exact Calls.bel_of (CA _)) | (go_at_call 59;exact Calls.bel_of (UA _))))
  iterate 4 go_big_quiet_skip
  iterate 2 (quiet_step (fail))
  iterate 15 go_big_quiet_skip
  iterate 2 (quiet_step (fail))
  refine wpQuiet_nil ?_
  rintro _ ⟨⟨wq,hwq⟩,rfl⟩
  go_wp2_with fail
  go_ret
  exact ⟨ret_bool (by simp [M.onePl,M.De.uses,hu]),bel.trans (hwq.mono bel.size)⟩
 ·rw [hu] at UA
  cases hv:M.uses y.d.k
  ·rw [hv] at UB
   refine wp_region_quiet_bel (by kernel_rfl) (by kernel_rfl) ?_
   iterate 5 (quiet_step (first | (go_at_call 190;exact Calls.bel_of (CA _)) | (go_at_call 59;exact Calls.bel_of (UA _))))
   iterate 6 (quiet_step (first | (go_at_call 190;exact Calls.bel_of (CB _)) | (go_at_call 59;exact Calls.bel_of (UB _))))
   iterate 15 go_big_quiet_skip
   iterate 2 (quiet_step (fail))
   refine wpQuiet_nil ?_
   rintro _ ⟨⟨wq,hwq⟩,rfl⟩
   go_wp2_with fail
   go_ret
   exact ⟨ret_bool (by simp [M.onePl,M.De.uses,hu,hv]),bel.trans (hwq.mono bel.size)⟩
  ·rw [hv] at UB
   refine wp_region_quiet_bel (by kernel_rfl) (by kernel_rfl) ?_
   iterate 5 (quiet_step (first | (go_at_call 190;exact Calls.bel_of (CA _)) | (go_at_call 59;exact Calls.bel_of (UA _))))
   iterate 6 (quiet_step (first | (go_at_call 190;exact Calls.bel_of (CB _)) | (go_at_call 59;exact Calls.bel_of (UB _))))
   repeat (quiet_step (fail))
   refine wpQuiet_nil ?_
   rintro _ ⟨⟨wq,hwq⟩,rfl⟩
   go_wp2_with fail
   go_ret
   exact ⟨ret_bool (by simp [M.onePl,M.De.uses,hu,hv]),bel.trans (hwq.mono bel.size)⟩
theorem wall_any (t:Wx) (a b:Nat) (x y:M.De) (w:World) (hl:t.Ok) (ht:t.At w) (hx:t.ds[a]?=some x) (hy:t.ds[b]?=some y) :
  Calls Tryz.prog 192 #[.agg #[.slice (some ⟨t.g,0,none⟩) t.ds.length t.c,.slice (some ⟨t.fb,t.fo,none⟩) t.l.length t.fc,.slice (some ⟨t.rb,t.ro,none⟩) t.rows.length t.rc],.int .i64 (a:Int),.int .i64 (b:Int)] w fun e w'=>e=.returned (.bool (M.isWall x.d.k||M.isWall y.d.k))∧Below w.heap.size w w':=by
 have B0:=Wx.Bx.new ht
 cases hw:M.isWall x.d.k
 ·go_enter Tryz.func192,Tryz.ntmps192
  go_wp2_with fail
  refine (kind_any t a x _ hl B0.at_ hx).mono ?_
  rintro e w1 ⟨rfl,hb1⟩
  have B1:=B0.below hb1
  have k0:=B1.c0;have k1:=B1.c1;have k2:=B1.c2
  go_wp2_with (go_at_call 209;refine (isWall_any _ _).mono ?_;rw [hw];rintro e w' ⟨rfl,rfl⟩)
  refine (kind_any t b y _ hl B1.at_ hy).mono ?_
  rintro e w2 ⟨rfl,hb2⟩
  go_wp2_with (go_at_call 209;refine (isWall_any _ _).mono ?_;rintro e w' ⟨rfl,rfl⟩)
  go_ret
  exact ⟨rfl,(B1.below hb2).bel⟩
 ·go_enter Tryz.func192,Tryz.ntmps192
  go_wp2_with fail
  refine (kind_any t a x _ hl B0.at_ hx).mono ?_
  rintro e w1 ⟨rfl,hb1⟩
  go_wp2_with (go_at_call 209;refine (isWall_any _ _).mono ?_;rw [hw];rintro e w' ⟨rfl,rfl⟩)
  go_ret
  exact ⟨rfl,(B0.below hb1).bel⟩
theorem takes_any (t:Wx) (a b:Nat) (x y:M.De) (w:World) (hl:t.Ok) (ht:t.At w) (hx:t.ds[a]?=some x) (_hy:t.ds[b]?=some y) :
  Calls Tryz.prog 193 #[.agg #[.slice (some ⟨t.g,0,none⟩) t.ds.length t.c,.slice (some ⟨t.fb,t.fo,none⟩) t.l.length t.fc,.slice (some ⟨t.rb,t.ro,none⟩) t.rows.length t.rc],.int .i64 (a:Int),.int .i64 (b:Int)] w fun e w'=>e=.returned (.bool (x.d.k==5))∧Below w.heap.size w w':=by
 have B0:=Wx.Bx.new ht
 go_enter Tryz.func193,Tryz.ntmps193
 go_wp2_with fail
 refine (kind_any t a x _ hl B0.at_ hx).mono ?_
 rintro e w1 ⟨rfl,hb1⟩
 go_wp2_with fail
 go_ret
 exact ⟨rfl,(B0.below hb1).bel⟩
theorem gives_any (t:Wx) (a b:Nat) (x y:M.De) (w:World) (hl:t.Ok) (ht:t.At w) (_hx:t.ds[a]?=some x) (hy:t.ds[b]?=some y) :
  Calls Tryz.prog 194 #[.agg #[.slice (some ⟨t.g,0,none⟩) t.ds.length t.c,.slice (some ⟨t.fb,t.fo,none⟩) t.l.length t.fc,.slice (some ⟨t.rb,t.ro,none⟩) t.rows.length t.rc],.int .i64 (a:Int),.int .i64 (b:Int)] w fun e w'=>e=.returned (.bool (y.d.k==6))∧Below w.heap.size w w':=by
 have B0:=Wx.Bx.new ht
 go_enter Tryz.func194,Tryz.ntmps194
 go_wp2_with fail
 refine (kind_any t b y _ hl B0.at_ hy).mono ?_
 rintro e w1 ⟨rfl,hb1⟩
 go_wp2_with fail
 go_ret
 exact ⟨rfl,(B0.below hb1).bel⟩
theorem M.out_step {ds:List M.De} {n:Nat} (hn:n < ds.length):M.outOf ds n=if ds[n].d.k==8 then n else M.outOf ds (n+1):=by
 unfold M.outOf
 rw [← List.getElem_cons_drop hn,M.outFrom]
theorem M.in_step {ds:List M.De} {n:Nat} (hn:n+1 < ds.length):M.inOf ds (n+1)=if ds[n+1].d.k==7 then n+1 else M.inOf ds n:=by
 rw [M.inOf,M.kAt_eq hn]
set_option maxHeartbeats 400000 in
theorem outOf_any (g c:Nat) (ds:List M.De) (a:Nat) (w:World) (hl:ds.length≤1048576) (hex:∃ m,a≤m∧∃ hm:m < ds.length,ds[m].d.k=8) (h:DeS w (some ⟨g,0,none⟩) g ds) :
  Calls Tryz.prog 135 #[.slice (some ⟨g,0,none⟩) ds.length c,.int .i64 (a:Int)] w fun e w'=>e=.returned (.int .i64 (M.outOf ds a:Nat))∧w'=w:=by
 obtain ⟨m,ham,hm,hm8⟩:=hex
 have HM:Hid (ds[m].d.k=8):=hm8
 clear hm8
 go_enter Tryz.func135,Tryz.ntmps135
 go_wp2_with fail
 go_loopw [5] (fun s5 wr=>∃ n:Nat,s5=.int .i64 n∧n≤m∧Hid (M.outOf ds a=M.outOf ds n)∧wr=w) (fun s5 _=>m - (intOf s5).toNat)
 case atStart=>exact ⟨a,rfl,ham,by show _=_;rfl,rfl⟩
 case round =>
  obtain ⟨n,rfl,hn,HO,rfl⟩:=hrel
  have hlt:n < ds.length:=by omega
  obtain ⟨_,_,_,c3,_,_,_⟩:=DeS.at h hlt
  have HS:Hid (M.outOf ds a=if ds[n].d.k==8 then n else M.outOf ds (n+1)):=by show _=_;rw [HO.out,M.out_step hlt]
  have HN:Hid (n=m→ds[n].d.k=8):=fun e=>by subst e;exact HM.out
  clear HO
  generalize ds[n].d.k=k at *
  have i1:(n:Int) < ds.length:=by omega
  by_cases h8:k=8
  ·subst h8
   go_wp2_with fail
   go_ret
   exact ⟨by rw [HS.out];rfl,rfl⟩
  ·have h8':(k != 8)=true:=by simpa using h8
   have h8'':(k==8)=false:=by simpa using h8
   have hne:n≠m:=fun e=>h8 (HN.out e)
   go_wp2_with fail
   exact ⟨⟨n+1,by go_num,by omega,by show _=_;rw [HS.out,h8''];rfl,trivial⟩,by simp [intOf];omega⟩
set_option maxHeartbeats 400000 in
theorem inOf_any (g c:Nat) (ds:List M.De) (a:Nat) (w:World) (hl:ds.length≤1048576) (ha:a < ds.length) (hex:∃ m,m≤a∧∃ hm:m < ds.length,ds[m].d.k=7) (h:DeS w (some ⟨g,0,none⟩) g ds) :
  Calls Tryz.prog 210 #[.slice (some ⟨g,0,none⟩) ds.length c,.int .i64 (a:Int)] w fun e w'=>e=.returned (.int .i64 (M.inOf ds a:Nat))∧w'=w:=by
 obtain ⟨m,ham,hm,hm7⟩:=hex
 have HM:Hid (ds[m].d.k=7):=hm7
 clear hm7
 go_enter Tryz.func210,Tryz.ntmps210
 go_wp2_with fail
 go_loopw [5] (fun s5 wr=>∃ n:Nat,s5=.int .i64 n∧m≤n∧n < ds.length∧Hid (M.inOf ds a=M.inOf ds n)∧wr=w) (fun s5 _=>(intOf s5).toNat)
 case atStart=>exact ⟨a,rfl,ham,ha,by show _=_;rfl,rfl⟩
 case round =>
  obtain ⟨n,rfl,hn,hlt,HO,rfl⟩:=hrel
  obtain ⟨_,_,_,c3,_,_,_⟩:=DeS.at h hlt
  have HN:Hid (n=m→ds[n].d.k=7):=fun e=>by subst e;exact HM.out
  have i1:(n:Int) < ds.length:=by omega
  by_cases h7:ds[n].d.k=7
  ·have HS:Hid (M.inOf ds n=n):=by
    show _=_
    cases n with
    | zero=>rfl
    | succ n=>rw [M.in_step hlt,h7];rfl
   rw [h7] at c3
   go_wp2_with fail
   go_ret
   exact ⟨by rw [HO.out,HS.out];rfl,rfl⟩
  ·have hne:n≠m:=fun e=>h7 (HN.out e)
   obtain ⟨n',rfl⟩:∃ n',n=n'+1:=⟨n - 1,by omega⟩
   have HS:Hid (M.inOf ds (n'+1)=M.inOf ds n'):=by
    show _=_
    rw [M.in_step hlt,if_neg (by simpa using h7)]
   generalize ds[n'+1].d.k=k at *
   have h7':(k != 7)=true:=by simpa using h7
   have e1:IntKind.i64.wrap (n':Int)=n':=by rw [IntKind.wrap_i64];omega
   go_wp2_with fail
   exact ⟨⟨n',by go_num,by omega,by omega,by show _=_;rw [HO.out,HS.out],trivial⟩,by simp [intOf]⟩
theorem goesIn_any (t:Wx) (a b:Nat) (x y:M.De) (w:World) (hl:t.Ok) (ht:t.At w) (hx:t.ds[a]?=some x) (_hy:t.ds[b]?=some y) :
  Calls Tryz.prog 195 #[.agg #[.slice (some ⟨t.g,0,none⟩) t.ds.length t.c,.slice (some ⟨t.fb,t.fo,none⟩) t.l.length t.fc,.slice (some ⟨t.rb,t.ro,none⟩) t.rows.length t.rc],.int .i64 (a:Int),.int .i64 (b:Int)] w fun e w'=>e=.returned (.bool (M.goesIn t.ds a b x))∧Below w.heap.size w w':=by
 have ha:=Wx.lt hx
 have B0:=Wx.Bx.new ht
 have hxa:t.ds[a]=x:=by rw [List.getElem?_eq_getElem ha] at hx;exact Option.some.inj hx
 by_cases h7:x.d.k=7
 ·obtain ⟨m,hm,hml,h8⟩:=M.has_out hl.run ha (by rw [hxa];exact h7)
  go_enter Tryz.func195,Tryz.ntmps195
  go_wp2_with fail
  refine (kind_any t a x _ hl B0.at_ hx).mono ?_
  rintro e w1 ⟨rfl,hb1⟩
  have B1:=B0.below hb1
  have k0:=B1.c0
  rw [h7]
  go_wp2_with (go_at_call 135;refine (outOf_any t.g t.c t.ds a _ hl.dl ⟨m,by omega,hml,h8⟩ B1.at_.d).mono ?_;rintro e w' ⟨rfl,rfl⟩)
  go_ret
  exact ⟨ret_bool (by simp [M.goesIn,h7]),B1.bel⟩
 ·have h7':(x.d.k==7)=false:=by simpa using h7
  go_enter Tryz.func195,Tryz.ntmps195
  go_wp2_with fail
  refine (kind_any t a x _ hl B0.at_ hx).mono ?_
  rintro e w1 ⟨rfl,hb1⟩
  go_wp2_with fail
  go_ret
  exact ⟨ret_bool (by simp [M.goesIn,h7]),(B0.below hb1).bel⟩
theorem goesOut_any (t:Wx) (a b:Nat) (x y:M.De) (w:World) (hl:t.Ok) (ht:t.At w) (_hx:t.ds[a]?=some x) (hy:t.ds[b]?=some y) :
  Calls Tryz.prog 196 #[.agg #[.slice (some ⟨t.g,0,none⟩) t.ds.length t.c,.slice (some ⟨t.fb,t.fo,none⟩) t.l.length t.fc,.slice (some ⟨t.rb,t.ro,none⟩) t.rows.length t.rc],.int .i64 (a:Int),.int .i64 (b:Int)] w fun e w'=>e=.returned (.bool (M.goesOut t.ds a b y))∧Below w.heap.size w w':=by
 have hb:=Wx.lt hy
 have B0:=Wx.Bx.new ht
 have hya:t.ds[b]=y:=by rw [List.getElem?_eq_getElem hb] at hy;exact Option.some.inj hy
 by_cases h8:y.d.k=8
 ·obtain ⟨m,hm,hml,h7⟩:=M.has_in hl.run hb (by rw [hya];exact h8)
  go_enter Tryz.func196,Tryz.ntmps196
  go_wp2_with fail
  refine (kind_any t b y _ hl B0.at_ hy).mono ?_
  rintro e w1 ⟨rfl,hb1⟩
  have B1:=B0.below hb1
  have k0:=B1.c0
  rw [h8]
  go_wp2_with (go_at_call 210;refine (inOf_any t.g t.c t.ds b _ hl.dl hb ⟨m,by omega,hml,h7⟩ B1.at_.d).mono ?_;rintro e w' ⟨rfl,rfl⟩)
  go_ret
  exact ⟨ret_bool (by simp [M.goesOut,h8]),B1.bel⟩
 ·have h8':(y.d.k==8)=false:=by simpa using h8
  go_enter Tryz.func196,Tryz.ntmps196
  go_wp2_with fail
  refine (kind_any t b y _ hl B0.at_ hy).mono ?_
  rintro e w1 ⟨rfl,hb1⟩
  go_wp2_with fail
  go_ret
  exact ⟨ret_bool (by simp [M.goesOut,h8]),(B0.below hb1).bel⟩
theorem copyOf_any (t:Wx) (a b:Nat) (x y:M.De) (w:World) (hl:t.Ok) (ht:t.At w) (_hx:t.ds[a]?=some x) (hy:t.ds[b]?=some y) :
  Calls Tryz.prog 197 #[.agg #[.slice (some ⟨t.g,0,none⟩) t.ds.length t.c,.slice (some ⟨t.fb,t.fo,none⟩) t.l.length t.fc,.slice (some ⟨t.rb,t.ro,none⟩) t.rows.length t.rc],.int .i64 (a:Int),.int .i64 (b:Int)] w fun e w'=>e=.returned (.bool (M.copyOf a y))∧Below w.heap.size w w':=by
 have hb:=Wx.lt hy
 have B0:=Wx.Bx.new ht
 have i2:(b:Int) < t.ds.length:=by omega
 by_cases h3:y.d.k=3
 ·go_enter Tryz.func197,Tryz.ntmps197
  go_wp2_with fail
  refine (kind_any t b y _ hl B0.at_ hy).mono ?_
  rintro e w1 ⟨rfl,hb1⟩
  have B1:=B0.below hb1
  have k0:=B1.c0
  obtain ⟨_,_,_,_,_,_,c6⟩:=B1.at_.el hy
  rw [h3]
  go_wp2_with fail
  go_ret
  exact ⟨ret_bool (by simp [M.copyOf,h3]),B1.bel⟩
 ·have h3':(y.d.k==3)=false:=by simpa using h3
  go_enter Tryz.func197,Tryz.ntmps197
  go_wp2_with fail
  refine (kind_any t b y _ hl B0.at_ hy).mono ?_
  rintro e w1 ⟨rfl,hb1⟩
  go_wp2_with fail
  go_ret
  exact ⟨ret_bool (by simp [M.copyOf,h3]),(B0.below hb1).bel⟩
theorem read_any (t:Wx) (a b:Nat) (x y:M.De) (w:World) (hl:t.Ok) (ht:t.At w) (_hx:t.ds[a]?=some x) (hy:t.ds[b]?=some y) :
  Calls Tryz.prog 171 #[.agg #[.slice (some ⟨t.g,0,none⟩) t.ds.length t.c,.slice (some ⟨t.fb,t.fo,none⟩) t.l.length t.fc,.slice (some ⟨t.rb,t.ro,none⟩) t.rows.length t.rc],.int .i64 (a:Int),.int .i64 (b:Int)] w fun e w'=>e=.returned (.bool (M.read t.l a b))∧Below w.heap.size w w':=by
 have hb:=Wx.lt hy
 have hb2:b < t.l.length:=by rw [hl.len.out];exact hb
 have c0:=ht.f.row b hb2
 have HG:Hid (t.l.getD b 0=t.l[b]):=by show _=_;simp [hb2]
 generalize t.l[b]=f at *
 have lf:t.fb < w.heap.size:=World.block_lt_of_cell? _ _ c0
 have i2:(b:Int) < t.l.length:=by omega
 go_enter Tryz.func171,Tryz.ntmps171
 go_wp2_with fail
 go_ret
 exact ⟨ret_bool (by rw [M.read,HG.out]),below1 _ _⟩
theorem late_any (t:Wx) (a b:Nat) (x y:M.De) (w:World) (hl:t.Ok) (ht:t.At w) (hx:t.ds[a]?=some x) (hy:t.ds[b]?=some y) :
  Calls Tryz.prog 174 #[.agg #[.slice (some ⟨t.g,0,none⟩) t.ds.length t.c,.slice (some ⟨t.fb,t.fo,none⟩) t.l.length t.fc,.slice (some ⟨t.rb,t.ro,none⟩) t.rows.length t.rc],.int .i64 (a:Int),.int .i64 (b:Int)] w fun e w'=>e=.returned (.bool (M.late a b x y))∧Below w.heap.size w w':=by
 have B0:=Wx.Bx.new ht
 have C:=own_any t a b x y _ hl B0.at_ hx hy
 cases ho:M.own a b x y
 ·rw [ho] at C
  go_enter Tryz.func174,Tryz.ntmps174
  go_wp2_with fail
  refine C.mono ?_
  rintro e w1 ⟨rfl,hb1⟩
  go_wp2_with fail
  go_ret
  exact ⟨ret_bool (by simp [M.late,ho]),(B0.below hb1).bel⟩
 ·rw [ho] at C
  cases hw:M.writes x.d.k
  ·go_enter Tryz.func174,Tryz.ntmps174
   go_wp2_with fail
   refine C.mono ?_
   rintro e w1 ⟨rfl,hb1⟩
   have B1:=B0.below hb1
   have k0:=B1.c0;have k1:=B1.c1;have k2:=B1.c2
   go_wp2_with fail
   refine (kind_any t a x _ hl B1.at_ hx).mono ?_
   rintro e w2 ⟨rfl,hb2⟩
   go_wp2_with (go_at_call 38;refine (writes_any _ _).mono ?_;rw [hw];rintro e w' ⟨rfl,rfl⟩)
   go_ret
   exact ⟨ret_bool (by simp [M.late,ho,hw]),(B1.below hb2).bel⟩
  ·go_enter Tryz.func174,Tryz.ntmps174
   go_wp2_with fail
   refine C.mono ?_
   rintro e w1 ⟨rfl,hb1⟩
   have B1:=B0.below hb1
   have k0:=B1.c0;have k1:=B1.c1;have k2:=B1.c2
   go_wp2_with fail
   refine (kind_any t a x _ hl B1.at_ hx).mono ?_
   rintro e w2 ⟨rfl,hb2⟩
   have B2:=B1.below hb2
   have k0:=B2.c0;have k1:=B2.c1;have k2:=B2.c2
   go_wp2_with (go_at_call 38;refine (writes_any _ _).mono ?_;rw [hw];rintro e w' ⟨rfl,rfl⟩)
   refine (kind_any t b y _ hl B2.at_ hy).mono ?_
   rintro e w3 ⟨rfl,hb3⟩
   go_wp2_with (go_at_call 37;refine (reads_any _ _).mono ?_;rintro e w' ⟨rfl,rfl⟩)
   go_ret
   exact ⟨ret_bool (by simp [M.late,ho,hw]),(B2.below hb3).bel⟩
theorem readTwo_any (t:Wx) (a b:Nat) (x y:M.De) (w:World) (hl:t.Ok) (ht:t.At w) (hx:t.ds[a]?=some x) (hy:t.ds[b]?=some y) :
  Calls Tryz.prog 175 #[.agg #[.slice (some ⟨t.g,0,none⟩) t.ds.length t.c,.slice (some ⟨t.fb,t.fo,none⟩) t.l.length t.fc,.slice (some ⟨t.rb,t.ro,none⟩) t.rows.length t.rc],.int .i64 (a:Int),.int .i64 (b:Int)] w fun e w'=>e=.returned (.bool (M.two x y&&M.read t.l a b))∧Below w.heap.size w w':=by
 have B0:=Wx.Bx.new ht
 have C:=oneThread_any t a b x y _ hl B0.at_ hx hy
 cases ho:(x.t==y.t)
 ·rw [ho] at C
  go_enter Tryz.func175,Tryz.ntmps175
  go_wp2_with fail
  refine C.mono ?_
  rintro e w1 ⟨rfl,hb1⟩
  have B1:=B0.below hb1
  have k0:=B1.c0;have k1:=B1.c1;have k2:=B1.c2
  go_wp2_with fail
  refine (read_any t a b x y _ hl B1.at_ hx hy).mono ?_
  rintro e w2 ⟨rfl,hb2⟩
  go_wp2_with fail
  go_ret
  exact ⟨ret_bool (by simp [M.two,ho]),(B1.below hb2).bel⟩
 ·rw [ho] at C
  go_enter Tryz.func175,Tryz.ntmps175
  go_wp2_with fail
  refine C.mono ?_
  rintro e w1 ⟨rfl,hb1⟩
  go_wp2_with fail
  go_ret
  exact ⟨ret_bool (by simp [M.two,ho]),(B0.below hb1).bel⟩
namespace M
theorem idx_hit {l:List Int} {v:Int} {n:Nat} (hn:n < l.length) (h:l[n]=v) (hb:∀ i (_:i < n) (hi:i < l.length),l[i]≠v):idx l v=n:=by
 have:l.findIdx? (·==v)=some n:=by
  rw [List.findIdx?_eq_some_iff_getElem]
  exact ⟨hn,by simpa using h,fun j hj=>by simpa using hb j hj (by omega)⟩
 simp [idx,this]
theorem idx_none {l:List Int} {v:Int} (h:∀ i (_:i < l.length),l[i]≠v):idx l v=-1:=by
 have:l.findIdx? (·==v)=none:=by
  rw [List.findIdx?_eq_none_iff]
  intro x hx
  obtain ⟨i,hi,rfl⟩:=List.getElem_of_mem hx
  simpa using h i hi
 simp [idx,this]
end M
set_option maxHeartbeats 400000 in
theorem index_any (a:Option Addr) (b o c:Nat) (l:List Int) (v:Int) (w:World) (hl:l.length≤1048576) (h:IntS w a b o l) :
  Calls Tryz.prog 188 #[.slice a l.length c,.int .i64 v] w fun e w'=>e=.returned (.int .i64 (M.idx l v))∧w'=w:=by
 go_enter Tryz.func188,Tryz.ntmps188
 go_wp2_with fail
 go_loopw [8] (fun s8 wr=>∃ n:Nat,s8=.int .i64 n∧n≤l.length∧Hid (∀ i (_:i < n) (h:i < l.length),l[i]≠v)∧wr=w) (fun s8 _=>l.length - (intOf s8).toNat)
 case atStart=>exact ⟨0,rfl,Nat.zero_le _,fun i hi=>absurd hi (Nat.not_lt_zero _),rfl⟩
 case round =>
  obtain ⟨n,rfl,hn,HA,rfl⟩:=hrel
  by_cases hlt:n < l.length
  ·obtain ⟨rfl⟩:=h.addr (by omega)
   have hx:=h.row n hlt
   obtain ⟨y,hy⟩:∃ y,l[n]=y:=⟨_,rfl⟩
   have HY:Hid (l[n]=y):=hy
   rw [hy] at hx
   clear hy
   have i1:(n:Int) < l.length:=by omega
   by_cases e:v=y
   ·subst e
    go_wp2_with fail
    go_ret
    exact ⟨by rw [M.idx_hit hlt HY.out HA.out];rfl,rfl⟩
   ·have e':(v==y)=false:=by simpa using e
    go_wp2_with fail
    exact ⟨⟨n+1,by go_num,by omega,fun i hi hl=>by
     by_cases ei:i=n
     ·subst ei;rw [HY.out];exact fun h=>e h.symm
     ·exact HA.out i (by omega) hl,trivial⟩,by simp [intOf];omega⟩
  ·go_wp2_with fail
   go_ret
   exact ⟨by rw [M.idx_none (fun i hi=>HA.out i (by omega) hi)];rfl,rfl⟩
set_option maxHeartbeats 1000000 in
set_option maxRecDepth 100000 in
theorem over_any (t:Wx) (a b:Nat) (x y:M.De) (w:World) (hl:t.Ok) (ht:t.At w) (hx:t.ds[a]?=some x) (hy:t.ds[b]?=some y) :
  Calls Tryz.prog 172 #[.agg #[.slice (some ⟨t.g,0,none⟩) t.ds.length t.c,.slice (some ⟨t.fb,t.fo,none⟩) t.l.length t.fc,.slice (some ⟨t.rb,t.ro,none⟩) t.rows.length t.rc],.int .i64 (a:Int),.int .i64 (b:Int)] w fun e w'=>e=.returned (.bool (M.over t.l t.rows a b x y))∧Below w.heap.size w w':=by
 have ha:=Wx.lt hx
 have hb:=Wx.lt hy
 have B0:=Wx.Bx.new ht
 have C:=onePl_any t a b x y _ hl B0.at_ hx hy
 have i1:(a:Int) < t.ds.length:=by omega
 have i2:(b:Int) < t.ds.length:=by omega
 cases ho:M.onePl x y
 ·rw [ho] at C
  go_enter Tryz.func172,Tryz.ntmps172
  go_wp2_with fail
  refine C.mono ?_
  rintro e w1 ⟨rfl,hb1⟩
  go_wp2_with fail
  go_ret
  exact ⟨ret_bool (by simp [M.over,ho]),(B0.below hb1).bel⟩
 ·rw [ho] at C
  cases hw:M.writes y.d.k
  ·go_enter Tryz.func172,Tryz.ntmps172
   go_wp2_with fail
   refine C.mono ?_
   rintro e w1 ⟨rfl,hb1⟩
   have B1:=B0.below hb1
   have k0:=B1.c0;have k1:=B1.c1;have k2:=B1.c2
   go_wp2_with fail
   refine (kind_any t b y _ hl B1.at_ hy).mono ?_
   rintro e w2 ⟨rfl,hb2⟩
   go_wp2_with (go_at_call 38;refine (writes_any _ _).mono ?_;rw [hw];rintro e w' ⟨rfl,rfl⟩)
   go_ret
   exact ⟨ret_bool (by simp [M.over,hw]),(B1.below hb2).bel⟩
  ·have hpl:0≤y.d.p∧y.d.p < 3:=hl.pl y (List.mem_of_getElem? hy) (by simp [M.De.uses,M.uses,hw])
   obtain ⟨p,hp⟩:∃ p:Nat,y.d.p=p:=⟨y.d.p.toNat,by omega⟩
   have hpr:p < t.rows.length:=by have:=hl.three.out;omega
   have hrl:=hl.rl _ (List.getElem_mem hpr)
   have HM:Hid (M.over t.l t.rows a b x y=decide (M.idx t.rows[p] (M.wrote t.l a x) < M.idx t.rows[p] (b:Int))):=by
    show _=_
    rw [M.over,ho,hw,hp,Int.toNat_natCast,List.getD_eq_getElem?_getD,List.getElem?_eq_getElem hpr]
    rfl
   have i3:(p:Int) < t.rows.length:=by omega
   go_enter Tryz.func172,Tryz.ntmps172
   go_wp2_with fail
   refine C.mono ?_
   rintro e w1 ⟨rfl,hb1⟩
   have B1:=B0.below hb1
   have k0:=B1.c0;have k1:=B1.c1;have k2:=B1.c2
   go_wp2_with fail
   refine (kind_any t b y _ hl B1.at_ hy).mono ?_
   rintro e w2 ⟨rfl,hb2⟩
   have B2:=B1.below hb2
   go_wp2_with (go_at_call 38;refine (writes_any _ _).mono ?_;rw [hw];rintro e w2x ⟨rfl,rfl⟩)
   obtain ⟨_,_,_,_,d4,_,_⟩:=B2.at_.el hy
   rw [hp] at d4
   obtain ⟨a',b',o',c',hc,hrow⟩:=B2.at_.r.row p hpr
   have K0:=BelowOf.cell B2.c0
   have K2:=BelowOf.cell B2.c2
   have KP:=BelowOf.cell d4
   have KR:=BelowOf.cell hc
   clear k0 k1 k2 C B0 B1 hb1 hb2 hc d4
   haveI:Inhabited (BelowOf w2x):=⟨belOf w2x⟩
   refine wp_region_quiet_bel (by kernel_rfl) (by kernel_rfl) ?_
   repeat (quiet_step (fail))
   refine wpQuiet_nil ?_
   rintro _ ⟨⟨wq,hwq⟩,rfl⟩
   have B3:=B2.below hwq
   have hrow3:=hrow.below hwq (Nat.le_refl _)
   generalize t.rows[p]=row at *
   clear K0 K2 KP KR hrow B2
   have k0:=B3.c0;have k1:=B3.c1;have k2:=B3.c2
   go_wp2_with fail
   refine (kind_any t a x _ hl B3.at_ hx).mono ?_
   rintro e w4 ⟨rfl,hb4⟩
   have B4:=B3.below hb4
   have hrow4:=hrow3.below hb4 (Nat.le_refl _)
   have hal:a < t.l.length:=by rw [hl.len.out];exact ha
   have cl:=B4.at_.f.row a hal
   have i4:(a:Int) < t.l.length:=by omega
   have q1:=B4.c1
   cases hr:M.reads x.d.k
   ·have HW:Hid (M.wrote t.l a x=(a:Int)):=by show _=_;simp [M.wrote,hr]
    go_wp2_with (first | (go_at_call 37;refine (reads_any _ _).mono ?_;rw [hr];rintro e w' ⟨rfl,rfl⟩) | (go_at_call 188;refine (index_any a' b' o' c' row _ _ hrl hrow4).mono ?_;rintro e w' ⟨rfl,rfl⟩))
    go_ret
    exact ⟨ret_bool (by rw [HM.out,HW.out]),B4.bel⟩
   ·have HW:Hid (M.wrote t.l a x=t.l[a]):=by show _=_;simp [M.wrote,hr,hal]
    generalize t.l[a]=f at *
    go_wp2_with (first | (go_at_call 37;refine (reads_any _ _).mono ?_;rw [hr];rintro e w' ⟨rfl,rfl⟩) | (go_at_call 188;refine (index_any a' b' o' c' row _ _ hrl hrow4).mono ?_;rintro e w' ⟨rfl,rfl⟩))
    go_ret
    exact ⟨ret_bool (by rw [HM.out,HW.out]),B4.bel⟩
theorem overTwo_any (t:Wx) (a b:Nat) (x y:M.De) (w:World) (hl:t.Ok) (ht:t.At w) (hx:t.ds[a]?=some x) (hy:t.ds[b]?=some y) :
  Calls Tryz.prog 177 #[.agg #[.slice (some ⟨t.g,0,none⟩) t.ds.length t.c,.slice (some ⟨t.fb,t.fo,none⟩) t.l.length t.fc,.slice (some ⟨t.rb,t.ro,none⟩) t.rows.length t.rc],.int .i64 (a:Int),.int .i64 (b:Int)] w fun e w'=>e=.returned (.bool (M.two x y&&M.over t.l t.rows a b x y))∧Below w.heap.size w w':=by
 have B0:=Wx.Bx.new ht
 have C:=oneThread_any t a b x y _ hl B0.at_ hx hy
 cases ho:(x.t==y.t)
 ·rw [ho] at C
  go_enter Tryz.func177,Tryz.ntmps177
  go_wp2_with fail
  refine C.mono ?_
  rintro e w1 ⟨rfl,hb1⟩
  have B1:=B0.below hb1
  have k0:=B1.c0;have k1:=B1.c1;have k2:=B1.c2
  go_wp2_with fail
  refine (over_any t a b x y _ hl B1.at_ hx hy).mono ?_
  rintro e w2 ⟨rfl,hb2⟩
  go_wp2_with fail
  go_ret
  exact ⟨ret_bool (by simp [M.two,ho]),(B1.below hb2).bel⟩
 ·rw [ho] at C
  go_enter Tryz.func177,Tryz.ntmps177
  go_wp2_with fail
  refine C.mono ?_
  rintro e w1 ⟨rfl,hb1⟩
  go_wp2_with fail
  go_ret
  exact ⟨ret_bool (by simp [M.two,ho]),(B0.below hb1).bel⟩
end
section
open Go.RowKit
set_option maxHeartbeats 400000 in
theorem reasons0_any (w:World):Calls Tryz.prog 129 #[.int .i64 0] w fun e w'=>e=.returned (.agg #[.func (.func 170) #[] #[],.func (.func 171) #[] #[],.func (.func 172) #[] #[]])∧Below w.heap.size w w':=by
 go_enter Tryz.func129,Tryz.ntmps129
 go_wp2_with fail
 refine bodyPost_ret (v:=.agg #[.func (.func 170) #[] #[],.func (.func 171) #[] #[],.func (.func 172) #[] #[]]) (by simp [results,Tryz.results129,go_sem]) rfl ⟨rfl,?_⟩
 exact below2 _ _ _
set_option maxHeartbeats 400000 in
theorem reasons1_any (w:World):Calls Tryz.prog 129 #[.int .i64 1] w fun e w'=>e=.returned (.agg #[.func (.func 173) #[] #[],.func (.func 171) #[] #[],.func (.func 172) #[] #[]])∧Below w.heap.size w w':=by
 go_enter Tryz.func129,Tryz.ntmps129
 go_wp2_with fail
 refine bodyPost_ret (v:=.agg #[.func (.func 173) #[] #[],.func (.func 171) #[] #[],.func (.func 172) #[] #[]]) (by simp [results,Tryz.results129,go_sem]) rfl ⟨rfl,?_⟩
 exact below2 _ _ _
set_option maxHeartbeats 400000 in
theorem reasons2_any (w:World):Calls Tryz.prog 129 #[.int .i64 2] w fun e w'=>e=.returned (.agg #[.func (.func 174) #[] #[],.func (.func 175) #[] #[],.func (.func 172) #[] #[]])∧Below w.heap.size w w':=by
 go_enter Tryz.func129,Tryz.ntmps129
 go_wp2_with fail
 refine bodyPost_ret (v:=.agg #[.func (.func 174) #[] #[],.func (.func 175) #[] #[],.func (.func 172) #[] #[]]) (by simp [results,Tryz.results129,go_sem]) rfl ⟨rfl,?_⟩
 exact below2 _ _ _
set_option maxHeartbeats 400000 in
theorem reasons3_any (w:World):Calls Tryz.prog 129 #[.int .i64 3] w fun e w'=>e=.returned (.agg #[.func (.func 176) #[] #[],.func (.func 175) #[] #[],.func (.func 177) #[] #[]])∧Below w.heap.size w w':=by
 go_enter Tryz.func129,Tryz.ntmps129
 go_wp2_with fail
 refine bodyPost_ret (v:=.agg #[.func (.func 176) #[] #[],.func (.func 175) #[] #[],.func (.func 177) #[] #[]]) (by simp [results,Tryz.results129,go_sem]) rfl ⟨rfl,?_⟩
 exact below2 _ _ _
theorem isOrder_any (k:Int) (w:World):Calls Tryz.prog 49 #[.int .i64 k] w fun e w'=>e=.returned (.bool (decide (1≤k)&&decide (k≤3)))∧w'=w:=by
 by_cases h1:1≤k
 ·go_enter Tryz.func49,Tryz.ntmps49
  go_wp2_with fail
  go_ret
  exact ⟨ret_bool (by simp [h1]),rfl⟩
 ·have h1':decide (1≤k)=false:=by simpa using h1
  go_enter Tryz.func49,Tryz.ntmps49
  go_wp2_with fail
  go_ret
  exact ⟨ret_bool (by simp),rfl⟩
namespace M
def mustAt (ds:List De) (l:List Int) (rows:List (List Int)) (kind a b:Nat):Bool:=match ds[a]?,ds[b]? with | some x,some y=>must ds l rows kind a b x y | _,_=>false
end M
theorem M.from_thr:∀ (l:List (List M.D)) (a u:Nat),M.progFrom a u l=true→∀ t∈l,M.thread t=true:=by
 intro l
 induction l with
 | nil=>intro a u _ t ht;cases ht
 | cons x l ih =>
  intro a u h t ht
  rw [M.progFrom] at h
  split at h
  ·rename_i hx
   rcases List.mem_cons.1 ht with rfl | ht
   ·exact hx
   ·exact ih _ _ h t ht
  ·cases h
theorem M.deed_u {ll:List (List M.D)} (h:M.prog ll=true):∀ x∈M.deeds ll,x.uses=true→0≤x.d.p∧x.d.p < 3:=by
 intro x hx hr
 have:=M.deed_do h x hx
 simp only [M.doOk,Bool.and_eq_true,M.placeOk] at this
 have hv:=this.1.2
 rw [if_pos (show M.uses x.d.k=true from hr)] at hv
 simpa using hv
structure M.Wok (ll:List (List M.D)) (l:List Int) (rows:List (List Int)):Prop where
 prog:M.prog ll=true
 fro:M.fromOk (M.deeds ll) l=true
 len:Hid (l.length=(M.deeds ll).length)
 three:Hid (rows.length=3)
 run:M.run false (M.deeds ll)=some false
 pl:∀ x∈M.deeds ll,x.uses=true→0≤x.d.p∧x.d.p < 3
theorem M.wok_of {ll:List (List M.D)} {l:List Int} {rows:List (List Int)} (h:M.execOk ll l rows=true):M.Wok ll l rows:=by
 simp only [M.execOk,M.wayOk,Bool.and_eq_true] at h
 obtain ⟨hp,hf,ho,_⟩:=h
 have hlen:l.length=(M.deeds ll).length:=by
  have:=hf
  simp only [M.fromOk,Bool.and_eq_true,decide_eq_true_eq] at this
  exact this.1
 simp only [M.orderOk,Bool.and_eq_true,decide_eq_true_eq] at ho
 exact ⟨hp,hf,hlen,ho.1,M.run_ok (M.from_thr ll 0 0 (by have:=hp;simp only [M.prog,Bool.and_eq_true] at this;exact this.2)),M.deed_u hp⟩
structure Wb (w W:World) (X:Nat) (va:Option Addr) (g c:Nat) (ds:List M.De) (fa:Option Addr) (fb fo fc:Nat) (l:List Int) (ra:Option Addr) (rb ro rc:Nat) (rows:List (List Int)):Prop where
 bel:Below w.heap.size w W
 c0:W.cell? ⟨X,0,none⟩=some (.slice va ds.length c)
 c1:W.cell? ⟨X,1,none⟩=some (.slice fa l.length fc)
 c2:W.cell? ⟨X,2,none⟩=some (.slice ra rows.length rc)
 d:DeS W va g ds
 f:IntS W fa fb fo l
 r:IntSS W ra rb ro rows
end
end Go.Proofs.YtnddmlgnngdaoaaGreatDoor
