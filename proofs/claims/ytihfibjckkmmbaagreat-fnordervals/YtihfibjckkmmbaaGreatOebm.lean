/- Turning about, plainly: rows of numbers, threads, places and values turned, programs side by side, plain ones. No condition. And what goes with it: TnMath, TnFact, TnT, TnMm, TnCs, TnCl, TnPl, TnAp. -/
import Derived.BigQuiet
import Derived.Deep.AppendLies
import Derived.Deep.MidRow
import Derived.Deep.QuietTactic
import Derived.Deep.RegionHeld3
import Derived.Deep.RegionLaw
import Derived.Deep.RegionWith
import Derived.Deep.WholeRow
import Derived.Laws.OwnMore
import Derived.Maps.AppendAt
import Derived.Sort.Grow
import Derived.WalkKit
import Derived.WalkLawsBesides
import Derived.WalkSpells
import Derived.Test.YtihfibjckkmmbaaGreatRows
import Derived.Test.YtihfibjckkmmbaaGreatOeay
namespace Go.Proofs.YtihfibjckkmmbaaGreat
namespace M
def mapS (f:D→D) (ll:List (List D)):List (List D):=ll.map fun t=>t.map f
theorem mapS_len (f:D→D) (ll:List (List D)):(mapS f ll).length=ll.length:=by simp [mapS]
theorem mapS_small {f:D→D} {ll:List (List D)} (h7:∀ t∈ll,t.length≤7):∀ t∈mapS f ll,t.length≤7:=by
 intro t ht
 simp only [mapS,List.mem_map] at ht
 obtain ⟨u,hu,rfl⟩:=ht
 rw [List.length_map];exact h7 u hu
theorem mapS_take (f:D→D) (ll:List (List D)) (n:Nat) (h:n < ll.length):mapS f (ll.take (n+1))=mapS f (ll.take n)++[ll[n].map f]:=by
 rw [List.take_succ_eq_append_getElem h];unfold mapS;rw [List.map_append];rfl
def placeF (row:List Int) (d:D):D:=if uses d.k then ⟨d.k,row.getD d.p.toNat 0,d.v⟩ else d
end M
end Go.Proofs.YtihfibjckkmmbaaGreat
namespace Go.Proofs.YtihfibjckkmmbaaGreat
namespace M
structure Kept (f:D→D) (P:D→Prop):Prop where
 ok:∀ d,P d→doOk d=true→doOk (f d)=true
 r:∀ d,reads (f d).k=reads d.k
 u:∀ d,uses (f d).k=uses d.k
 k3:∀ d,((f d).k==3)=(d.k==3)
 k7:∀ d,((f d).k==7)=(d.k==7)
 k8:∀ d,((f d).k==8)=(d.k==8)
 k9:∀ d,((f d).k==9)=(d.k==9)
theorem Kept.copies {f:D→D} {P:D→Prop} (h:Kept f P) (l:List D):∀ r,copies r (l.map f)=copies r l:=by
 induction l with
 | nil=>intro r;rfl
 | cons d l ih=>intro r;simp only [List.map_cons,M.copies,h.k3,h.r,ih]
theorem Kept.readers {f:D→D} {P:D→Prop} (h:Kept f P) (l:List D):∀ i,readers i (l.map f)=readers i l:=by
 induction l with
 | nil=>intro i;rfl
 | cons d l ih=>intro i;simp only [List.map_cons,M.readers,h.k7,h.k8,h.k9,ih]
theorem Kept.cnt {f:D→D} {P:D→Prop} (h:Kept f P) (l:List D):cnt uses (l.map f)=cnt uses l:=by
 induction l with
 | nil=>rfl
 | cons d l ih=>rw [List.map_cons,cnt_cons,cnt_cons,h.u,ih]
theorem Kept.cntR {f:D→D} {P:D→Prop} (h:Kept f P) (l:List D):M.cnt M.reads (l.map f)=M.cnt M.reads l:=by
 induction l with
 | nil=>rfl
 | cons d l ih=>rw [List.map_cons,cnt_cons,cnt_cons,h.r,ih]
theorem Kept.tot {f:D→D} {P:D→Prop} (h:Kept f P) (ll:List (List D)):tot uses (mapS f ll)=tot uses ll∧tot M.reads (mapS f ll)=tot M.reads ll∧stp (mapS f ll)=stp ll:=by
 induction ll with
 | nil=>exact ⟨rfl,rfl,rfl⟩
 | cons t ll ih =>
  obtain ⟨i1,i2,i3⟩:=ih
  unfold mapS at i1 i2 i3 ⊢
  simp only [List.map_cons,M.tot,stp,h.cnt,h.cntR,i1,i2,i3,List.length_map]
  simp
theorem Kept.thread {f:D→D} {P:D→Prop} (h:Kept f P) {t:List D} (ht:thread t=true) (hP:∀ d∈t,P d):M.thread (t.map f)=true:=by
 simp only [M.thread,form,Bool.and_eq_true,decide_eq_true_eq,List.all_eq_true,List.length_map,h.copies,h.readers] at ht ⊢
 refine ⟨⟨⟨ht.1.1.1,fun d hd=>?_⟩,ht.1.2⟩,ht.2⟩
 obtain ⟨x,hx,rfl⟩:=List.mem_map.1 hd
 exact h.ok x (hP x hx) (ht.1.1.2 x hx)
theorem Kept.prog {f:D→D} {P:D→Prop} (h:Kept f P) {ll:List (List D)} (hp:prog ll=true) (hP:∀ t∈ll,∀ d∈t,P d):M.prog (mapS f ll)=true:=by
 rw [prog_iff] at hp ⊢
 obtain ⟨h1,h2,h3,h4⟩:=hp
 obtain ⟨k1,_,k3⟩:=h.tot ll
 refine ⟨by rw [mapS_len];exact h1,fun t ht=>?_,by rw [k3];exact h3,by rw [k1];exact h4⟩
 obtain ⟨x,hx,rfl⟩:=List.mem_map.1 ht
 exact h.thread (h2 x hx) (hP x hx)
theorem mapS_back {f g:D→D} {ll:List (List D)} (h:∀ t∈ll,∀ d∈t,g (f d)=d):mapS g (mapS f ll)=ll:=by
 unfold mapS
 rw [List.map_map]
 conv=>rhs;rw [← List.map_id ll]
 apply List.map_congr_left
 intro t ht
 simp only [Function.comp,List.map_map,id]
 conv=>rhs;rw [← List.map_id t]
 apply List.map_congr_left
 intro d hd
 exact h t ht d hd
theorem prog_dos {ll:List (List D)} (h:prog ll=true):∀ t∈ll,∀ d∈t,doOk d=true:=by
 intro t ht d hd
 have:=((prog_iff ll).1 h).2.1 t ht
 simp only [M.thread,form,Bool.and_eq_true,List.all_eq_true] at this
 exact this.1.1.2 d hd
end M
end Go.Proofs.YtihfibjckkmmbaaGreat
namespace Go.Proofs.YtihfibjckkmmbaaGreat
open Go.RowKit
set_option maxHeartbeats 1000000 in
set_option maxRecDepth 100000 in
theorem turnI_any (a:Option Addr) (b o c:Nat) (row:List Int) (a2:Option Addr) (b2 o2 c2:Nat) (l:List Int) (w:World) (hl:row.length≤1048576) (hl2:l.length≤1000) (h:IntS w a b o row) (h2:IntS w a2 b2 o2 l) :
  Calls Tryz.prog 36 #[.slice a row.length c,.slice a2 l.length c2] w fun e w'=>∃ v,e=.returned (.tuple #[v,.bool (M.rowN row l.length)])∧w'.ownsRow w.heap.size 3 1 v (M.turned 0 row l).length (nums (M.turned 0 row l))∧Below w.heap.size w w':=by
 obtain ⟨i0,hi,hz0,hz1,hz2⟩:=info_parts Tryz.infoInt
 go_enter Tryz.func36,Tryz.ntmps36
 go_wp2_with fail
 refine (numbersBelow_any l.length w hl2).mono ?_
 rintro e w1 ⟨v1,rfl,hown1,b1⟩
 obtain ⟨a1,g1,c1,rfl,hI1,_,_⟩:=own_nums hown1
 have hbl:(M.bel l.length).length≤1048576:=by rw [M.bel_len];omega
 have CR:=rowOf_any a b o c row a1 g1 0 c1 (M.bel l.length) w1 hl hbl (h.below b1 (Nat.le_refl _)) hI1
 change Calls _ _ _ _ (fun e w'=>e=.returned (.bool (M.rowN row l.length))∧_) at CR
 clear hown1 hI1 hbl
 generalize (M.bel l.length).length=bl at *
 cases hr:M.rowN row l.length
 ·rw [hr] at CR
  go_wp2_with (first | (go_at_call 70;refine CR.mono ?_;rintro e w2 ⟨rfl,rfl⟩))
  exact bodyPost_ret (v:=.tuple #[.slice none 0 0,.bool false]) (by simp [results,Tryz.results36,go_sem]) rfl ⟨_,by rw [hr],by rw [M.turned_no hr];exact World.ownsRow_nil _ _ _ _,b1⟩
 ·rw [hr] at CR
  have HR:Hid (M.rowN row l.length=true):=hr
  clear hr
  go_wp2_with (first | (go_at_call 70;refine CR.mono ?_;rintro e w2 ⟨rfl,rfl⟩))
  go_loopw [6,17] (fun s6 s17 wr=>∃ k:Nat,s17=.int .i64 k∧k≤row.length∧wr.ownsRow w.heap.size 3 1 s6 (M.pick 0 (row.take k) l).length (nums (M.pick 0 (row.take k) l))∧Below w.heap.size w wr) (fun _ s17 _=>row.length - (intOf s17).toNat)
  case atStart=>exact ⟨0,rfl,Nat.zero_le _,World.ownsRow_nil _ _ _ _,b1⟩
  case round =>
   obtain ⟨k,rfl,hk,hown,hbel⟩:=hrel
   by_cases hkn:k < row.length
   ·have hkn':(k:Int) < row.length:=by omega
    obtain ⟨rfl⟩:=h.addr (by omega)
    have x1:=(h.below hbel (Nat.le_refl _)).row k hkn
    have HB:Hid (M.pick 0 (row.take (k+1)) l=M.pick 0 (row.take k) l++[l.getD row[k].toNat 0]):=M.pick_take 0 row l k hkn
    obtain ⟨r0,r1⟩:=M.rowN_get HR.out k hkn
    obtain ⟨rfl⟩:=h2.addr (by omega)
    generalize row[k]=y at *
    obtain ⟨j,rfl⟩:∃ j:Nat,y=j:=⟨y.toNat,by omega⟩
    have hj:j < l.length:=by omega
    have x2:=(h2.below hbel (Nat.le_refl _)).row j hj
    have HB2:Hid (M.pick 0 (row.take (k+1)) l=M.pick 0 (row.take k) l++[l[j]]):=by show _=_;rw [HB.out];congr 2;exact M.getD_get hj
    clear HB
    have hpl:(M.pick 0 (row.take k) l).length≤1048576:=by rw [M.pick_len];simp;omega
    have hbs:=hbel.size
    generalize l[j]=z at *
    generalize M.pick 0 (row.take k) l=m at *
    go_wp2_with (at_builtin;refine wpList_append_own _ rfl (.tmp 21) (.tmp 26) 26 rfl _ 3 i0 _ 1 8 Tryz.underlying26 hi hz0 hz1 hz2 rfl (by decide) _ _ _ rfl (hown.alloc _) ⟨wr.heap.size,0,none⟩ 1 1 [.int .i64 z] rfl rfl (cells_new1 _ _ _ _ (by simp)) (one1 _) (by unfold maxLen;omega) (by omega) (by simp;omega) ?_)
    intro v3 w3 hown3 hg3 _
    have hb3:Below _ _ w3:=below_grown (hbel.trans ((below1 wr _).mono hbel.size)) hg3 (own_ge hown) (by simp;omega)
    have hown4:w3.ownsRow w.heap.size 3 1 v3 (M.pick 0 (row.take (k+1)) l).length (nums (M.pick 0 (row.take (k+1)) l)):=by rw [HB2.out,nums_snoc,List.length_append];exact hown3
    clear hown3 hg3 hown
    go_wp2_with fail
    exact ⟨⟨k+1,by go_num,by omega,hown4,hb3⟩,by simp [intOf];omega⟩
   ·have htk:row.take k=row:=List.take_of_length_le (by omega)
    rw [htk] at hown
    have hkn':¬ (k:Int) < row.length:=by omega
    go_wp2_with fail
    exact bodyPost_ret (v:=.tuple #[u6,.bool true]) (by simp [results,Tryz.results36,go_sem]) rfl ⟨_,by rw [HR.out],by rw [M.turned_yes HR.out];exact hown,hbel⟩
end Go.Proofs.YtihfibjckkmmbaaGreat
namespace Go.Proofs.YtihfibjckkmmbaaGreat
open Go.RowKit
namespace M
theorem curT_zero (f:D→D) (t:List D):curT f 0 t=t:=by simp [curT]
theorem curT_len (f:D→D) (k:Nat) (t:List D):(curT f k t).length=t.length:=by simp [curT];omega
theorem curT_all (f:D→D) (k:Nat) (t:List D) (h:t.length≤k):curT f k t=t.map f:=by
 unfold curT;rw [List.take_of_length_le h,List.drop_eq_nil_of_le h,List.append_nil]
theorem curT_get (f:D→D) (k:Nat) (t:List D) (h:k < t.length) (h':k < (curT f k t).length):(curT f k t)[k]=t[k]:=by
 have e:(curT f k t)[k]?=t[k]?:=by
  unfold curT
  rw [List.getElem?_append_right (by simp;omega)]
  simp [Nat.min_eq_left (Nat.le_of_lt h)]
 rw [List.getElem?_eq_getElem h',List.getElem?_eq_getElem h] at e
 exact Option.some.inj e
theorem curT_set (f:D→D) (k:Nat) (t:List D) (h:k < t.length):(curT f k t).set k (f t[k])=curT f (k+1) t:=by
 unfold curT
 have e:(t.drop k).set 0 (f t[k])=f t[k]::t.drop (k+1):=by
  have:=(List.getElem_cons_drop h).symm
  generalize t.drop k=x at *
  subst this
  rfl
 rw [List.take_succ_eq_append_getElem h,List.map_append,List.set_append_right _ _ (by simp;omega)]
 simp [Nat.min_eq_left (Nat.le_of_lt h),e]
theorem cur_len (f:D→D) (n k:Nat) (ll:List (List D)):(cur f n k ll).length=ll.length:=by simp [cur]
theorem cur_zero (f:D→D) (ll:List (List D)):cur f 0 0 ll=ll:=by
 apply List.ext_getElem (cur_len _ _ _ _)
 intro i h1 h2
 simp only [cur,List.getElem_mapIdx,Nat.not_lt_zero,if_false,curT_zero,ite_self]
theorem cur_get (f:D→D) (n k:Nat) (ll:List (List D)) (h:n < ll.length) (h':n < (cur f n k ll).length):(cur f n k ll)[n]=curT f k ll[n]:=by
 simp [cur]
theorem cur_set (f:D→D) (n k:Nat) (ll:List (List D)) (h:n < ll.length) (hk:k < ll[n].length):(cur f n k ll).set n ((curT f k ll[n]).set k (f ll[n][k]))=cur f n (k+1) ll:=by
 rw [curT_set f k _ hk]
 apply List.ext_getElem (by simp [cur])
 intro i h1 h2
 by_cases e:n=i
 ·subst e;rw [List.getElem_set_self];simp [cur]
 ·rw [List.getElem_set_ne e]
  have e':¬ i=n:=fun h=>e h.symm
  simp only [cur,List.getElem_mapIdx,e',if_false]
theorem cur_next (f:D→D) (n k:Nat) (ll:List (List D)) (h:n < ll.length) (hk:ll[n].length≤k):cur f n k ll=cur f (n+1) 0 ll:=by
 apply List.ext_getElem (by simp [cur])
 intro i h1 h2
 simp only [cur,List.getElem_mapIdx,curT_zero,ite_self]
 by_cases e:i < n
 ·rw [if_pos e,if_pos (by omega)]
 ·by_cases e2:i=n
  ·subst e2;rw [if_neg e,if_pos rfl,if_pos (by omega),curT_all f k _ hk]
  ·rw [if_neg e,if_neg e2,if_neg (by omega)]
theorem cur_all (f:D→D) (n k:Nat) (ll:List (List D)) (h:ll.length≤n):cur f n k ll=mapS f ll:=by
 apply List.ext_getElem (by simp [cur,mapS])
 intro i h1 h2
 have:i < ll.length:=by simpa [cur] using h1
 simp only [cur,mapS,List.getElem_mapIdx,List.getElem_map]
 rw [if_pos (by omega)]
end M
theorem flat_set0 (l:List M.D):∀ (k:Nat) (h:k < l.length) (d:M.D),d.p=l[k].p→d.v=l[k].v→(flat l).set (k * 3) (.int .i64 d.k)=flat (l.set k d):=by
 induction l with
 | nil=>intro k h;exact absurd h (Nat.not_lt_zero _)
 | cons x l ih =>
  intro k h d h1 h2
  cases k with
  | zero=>simp only [List.getElem_cons_zero] at h1 h2;simp [flat,h1,h2]
  | succ k=>rw [show (k+1) * 3=k * 3+3 from by omega];simpa [flat] using ih k (by simpa using h) d (by simpa using h1) (by simpa using h2)
theorem flat_set1 (l:List M.D):∀ (k:Nat) (h:k < l.length) (d:M.D),d.k=l[k].k→d.v=l[k].v→(flat l).set (k * 3+1) (.int .i64 d.p)=flat (l.set k d):=by
 induction l with
 | nil=>intro k h;exact absurd h (Nat.not_lt_zero _)
 | cons x l ih =>
  intro k h d h1 h2
  cases k with
  | zero=>simp only [List.getElem_cons_zero] at h1 h2;simp [flat,h1,h2]
  | succ k=>rw [show (k+1) * 3+1=k * 3+1+3 from by omega];simpa [flat] using ih k (by simpa using h) d (by simpa using h1) (by simpa using h2)
theorem flat_set2 (l:List M.D):∀ (k:Nat) (h:k < l.length) (d:M.D),d.k=l[k].k→d.p=l[k].p→(flat l).set (k * 3+2) (.int .i64 d.v)=flat (l.set k d):=by
 induction l with
 | nil=>intro k h;exact absurd h (Nat.not_lt_zero _)
 | cons x l ih =>
  intro k h d h1 h2
  cases k with
  | zero=>simp only [List.getElem_cons_zero] at h1 h2;simp [flat,h1,h2]
  | succ k=>rw [show (k+1) * 3+2=k * 3+2+3 from by omega];simpa [flat] using ih k (by simpa using h) d (by simpa using h1) (by simpa using h2)
def Chg (w w':World) (g off:Nat) (d d':M.D):Prop:=∃ q,(w'=w.drewN q∧d'=d)∨(w'=(w.drewN q).setCell ⟨g,off,none⟩ (.int .i64 d'.k)∧d'.p=d.p∧d'.v=d.v)∨(w'=(w.drewN q).setCell ⟨g,off+1,none⟩ (.int .i64 d'.p)∧d'.k=d.k∧d'.v=d.v)∨(w'=(w.drewN q).setCell ⟨g,off+2,none⟩ (.int .i64 d'.v)∧d'.k=d.k∧d'.p=d.p)
theorem drewN_below (w:World) (q:Nat):Below w.heap.size w (w.drewN q):=⟨rfl,rfl,rfl,Nat.le_refl _,fun _ _=>rfl⟩
theorem own_chg {w w':World} {B g n cap k:Nat} {l:List M.D} {d':M.D} (h:w.ownsRow B 56 3 (.slice (some ⟨g,0,none⟩) n cap) n (flat l)) (hk:k < l.length) (hc:Chg w w' g (k * 3) l[k] d') :
  w'.ownsRow B 56 3 (.slice (some ⟨g,0,none⟩) n cap) n (flat (l.set k d'))∧w.grownBy w' (some g):=by
 obtain ⟨q,hc⟩:=hc
 have hq:=ownsRow_below h (drewN_below w q)
 have gq:∀ W,(w.drewN q).grownBy W (some g)→w.grownBy W (some g):=fun W hg=>⟨hg.os,hg.tape,hg.output,hg.size,hg.block⟩
 rcases hc with ⟨rfl,rfl⟩ | ⟨rfl,h1,h2⟩ | ⟨rfl,h1,h2⟩ | ⟨rfl,h1,h2⟩
 ·exact ⟨by rw [List.set_getElem_self];exact hq,⟨rfl,rfl,rfl,Nat.le_refl _,fun _ _ _=>rfl⟩⟩
 ·obtain ⟨ho,hg⟩:=hq.stored (k * 3) (.int .i64 d'.k)
  rw [flat_set0 l k hk d' h1 h2] at ho
  exact ⟨ho,gq _ hg⟩
 ·obtain ⟨ho,hg⟩:=hq.stored (k * 3+1) (.int .i64 d'.p)
  rw [flat_set1 l k hk d' h1 h2] at ho
  exact ⟨ho,gq _ hg⟩
 ·obtain ⟨ho,hg⟩:=hq.stored (k * 3+2) (.int .i64 d'.v)
  rw [flat_set2 l k hk d' h1 h2] at ho
  exact ⟨ho,gq _ hg⟩
theorem Rdg.chg {w w':World} {B:Nat} {v:Value} {ll:List (List M.D)} {vs:List Value} {n k g m cap:Nat} {d':M.D} (h:Rdg w B v ll vs) (hn:n < ll.length) (hv:n < vs.length) (he:vs[n]=.slice (some ⟨g,0,none⟩) m cap) (hk:k < ll[n].length) (hc:Chg w w' g (k * 3) ll[n][k] d') :
  Rdg w' B v (ll.set n (ll[n].set k d')) vs∧w.grownBy w' (some g)∧B≤g:=by
 have hin:=h.b.inner n hn hv
 have hm:m=ll[n].length:=by
  rcases hin.2 with ⟨e,_⟩ | ⟨_,_,_,e,_⟩
  ·rw [he] at e;simp at e
  ·rw [he] at e;simp only [Value.slice.injEq] at e;exact e.2.1
 subst hm
 have hin':=hin
 rw [he] at hin'
 obtain ⟨ho,hg⟩:=own_chg hin' hk hc
 have hBg:B≤g:=own_ge hin' g rfl
 refine ⟨⟨⟨?_,by rw [List.length_set];exact h.b.len,fun i h1 h2=>?_⟩,h.ap⟩,hg,hBg⟩
 ·rw [List.length_set]
  refine h.b.outer.kept hg ?_
  rcases own_apart h.b.outer hin' (by decide) with e | e
  ·exact Or.inl e
  ·exact Or.inr e
 ·by_cases e:n=i
  ·subst e
   rw [List.getElem_set_self,he,List.length_set]
   exact ho
  ·rw [List.getElem_set_ne e]
   have h1':i < ll.length:=by simpa using h1
   refine (h.b.inner i h1' h2).kept hg ?_
   cases hb:vs[i].ownBlock with
   | none=>exact Or.inl rfl
   | some kk =>
    refine Or.inr fun e2=>?_
    have:=h.ap i n h2 hv (fun e3=>e e3.symm) kk hb
    rw [he] at this
    exact this (by simp only [Value.ownBlock];exact e2.symm)
theorem Rdg.outer_at {w:World} {B cv n:Nat} {av:Option Addr} {ll:List (List M.D)} {vs:List Value} (h:Rdg w B (.slice av ll.length cv) ll vs) (hn:n < ll.length):∃ gv,av=some ⟨gv,0,none⟩∧∃ hv:n < vs.length,w.cell? ⟨gv,n,none⟩=some vs[n]:=by
 have hv:n < vs.length:=by rw [h.b.len];exact hn
 rcases h.b.outer.2 with ⟨e,h0⟩ | ⟨g,cap,cur,e,hg,hh,r⟩
 ·omega
 ·simp only [Value.slice.injEq] at e
  obtain ⟨rfl,_,rfl⟩:=e
  have hc:=h.b.outer.cells (g:=g) rfl n vs[n] (List.getElem?_eq_getElem hv)
  rw [Go.WideShapes.add_plain,Nat.zero_add] at hc
  exact ⟨g,rfl,hv,hc⟩
theorem Rdg.inner_at {w:World} {B n:Nat} {v:Value} {ll:List (List M.D)} {vs:List Value} (h:Rdg w B v ll vs) (hn:n < ll.length) (hv:n < vs.length):∃ a' c',vs[n]=.slice a' ll[n].length c'∧(0 < ll[n].length→∃ g,a'=some ⟨g,0,none⟩∧B≤g∧Row w g 0 ll[n]∧∀ i,w.frozen? ⟨g,i,none⟩=false):=by
 have hin:=h.b.inner n hn hv
 rcases hin.2 with ⟨e,h0⟩ | ⟨g,cap,cur,e,hg,hh,r⟩
 ·exact ⟨none,0,by rw [e,h0],fun h=>by omega⟩
 ·refine ⟨_,cap,e,fun hpos=>⟨g,rfl,hg,?_,?_⟩⟩
  ·obtain ⟨a2,g2,c2,e2,hd,_⟩:=own_steps hin
   rw [e] at e2
   simp only [Value.slice.injEq] at e2
   obtain ⟨rfl,_,_⟩:=e2
   have:=hd.addr hpos
   simp at this
   rw [this];exact hd.row
  ·rw [e] at hin;exact fun i=>own_fzS hin i
end Go.Proofs.YtihfibjckkmmbaaGreat
namespace Go.Proofs.YtihfibjckkmmbaaGreat
open Go.RowKit
theorem Rdg.step {w w':World} {B n k g m cap:Nat} {v:Value} {f:M.D→M.D} {ll:List (List M.D)} {vs:List Value} (h:Rdg w B v (M.cur f n k ll) vs) (hn:n < ll.length) (hk:k < ll[n].length) (hv:n < vs.length) (he:vs[n]=.slice (some ⟨g,0,none⟩) m cap) (hc:Chg w w' g (k * 3) ll[n][k] (f ll[n][k])) :
  Rdg w' B v (M.cur f n (k+1) ll) vs∧w.grownBy w' (some g)∧B≤g:=by
 have hn':n < (M.cur f n k ll).length:=by rw [M.cur_len];exact hn
 have e:=M.cur_get f n k ll hn hn'
 have hk':k < ((M.cur f n k ll)[n]'hn').length:=by rw [e,M.curT_len];exact hk
 have e2:((M.cur f n k ll)[n]'hn')[k]'hk'=ll[n][k]:=by
  have key:∀ (l:List M.D) (h:k < l.length),l=M.curT f k ll[n]→l[k]=ll[n][k]:=by
   intro l h e;subst e;exact M.curT_get f k ll[n] hk h
  exact key _ hk' e
 have r:=h.chg hn' hv he hk' (by rw [e2];exact hc)
 rw [e,M.cur_set f n k ll hn hk] at r
 exact r
theorem Rdg.cur_at {w:World} {B n k:Nat} {v:Value} {f:M.D→M.D} {ll:List (List M.D)} {vs:List Value} (h:Rdg w B v (M.cur f n k ll) vs) (hn:n < ll.length) (hv:n < vs.length) :
  ∃ a' c',vs[n]=.slice a' ll[n].length c'∧∀ hk:k < ll[n].length,∃ g,a'=some ⟨g,0,none⟩∧B≤g∧DoAt w g (k * 3) ll[n][k]∧∀ i,w.frozen? ⟨g,i,none⟩=false:=by
 have hn':n < (M.cur f n k ll).length:=by rw [M.cur_len];exact hn
 have e:=M.cur_get f n k ll hn hn'
 obtain ⟨a',c',e1,h1⟩:=h.inner_at hn' hv
 rw [e,M.curT_len] at e1 h1
 refine ⟨a',c',e1,fun hk=>?_⟩
 obtain ⟨g,rfl,hB,hr,hf⟩:=h1 (by omega)
 have:=hr k (by rw [M.curT_len];exact hk)
 rw [Nat.zero_add,M.curT_get f k _ hk] at this
 exact ⟨g,rfl,hB,this,hf⟩
set_option maxHeartbeats 2000000 in
set_option maxRecDepth 10000 in
theorem changeP_any (a:Option Addr) (b o c:Nat) (ll:List (List M.D)) (cap:Nat) (f:M.D→M.D) (w:World) (h3:ll.length≤3) (h7:∀ t∈ll,t.length≤7) (h:DoSS w a b o ll)
  (hcl:∀ (W:World) (g off:Nat) (d:M.D),Below w.heap.size w W→w.heap.size≤g→(∃ t∈ll,d∈t)→DoAt W g off d→(∀ i,W.frozen? ⟨g,i,none⟩=false)→Calls Tryz.prog 40 #[.pointer (some ⟨g,off,none⟩),.pointer (some ⟨cap,0,none⟩)] W fun e w'=>e=.returned (.tuple #[])∧Chg W w' g off d (f d)) :
  Calls Tryz.prog 39 #[.agg #[.slice a ll.length c],.func (.func 40) #[] #[.pointer (some ⟨cap,0,none⟩)]] w fun e w'=>∃ v,e=.returned (.agg #[v])∧(∃ vs,Rdg w' w.heap.size v (M.mapS f ll) vs)∧Below w.heap.size w w':=by
 have b2:=below2 w (.cells #[.slice a ll.length c] 25) (.cells #[.slice none 0 0] 25)
 have h2:=h.below b2 (Nat.le_refl _)
 have hY:=Slot1.new (w.alloc (.cells #[.slice a ll.length c] 25)) (.slice none 0 0) 25
 rw [World.size_alloc] at hY
 have hsz:((w.alloc (.cells #[.slice a ll.length c] 25)).alloc (.cells #[.slice none 0 0] 25)).heap.size=w.heap.size+2:=by simp
 go_enter Tryz.func39,Tryz.ntmps39
 go_wp2_with fail
 generalize (w.alloc (.cells #[.slice a ll.length c] 25)).alloc (.cells #[.slice none 0 0] 25)=W at *
 refine (copyProg_any a b o c ll W (by omega) (fun t ht=>by have:=h7 t ht;omega) h2).mono ?_
 rintro e W1 ⟨v1,rfl,⟨vs,hR1⟩,b1⟩
 obtain ⟨av,gv0,cv,rfl,_⟩:=hR1.b.ss
 have HV:∀ i (hi:i < vs.length) k,vs[i].ownBlock=some k→k < W1.heap.size:=fun i hi k hk=>((hR1.b.inner i (by have:=hR1.b.len;omega) hi).lt k hk).2
 have bA:=below1 W1 (.cells #[.slice av ll.length cv] 25)
 have hRA:=(hR1.below bA).mono (show w.heap.size+2≤W.heap.size by omega)
 have bw1:=b2.trans (b1.mono b2.size)
 have bwA:=bw1.trans (bA.mono bw1.size)
 have hYA:=(hY.bl' b1).bl' bA
 have hC:=Slot1.new W1 (.slice av ll.length cv) 25
 have hb1s:w.heap.size+2≤W1.heap.size:=by have:=b1.size;omega
 clear hR1 hY h2 b1 b2 bw1 hsz
 go_wp2_with fail
 generalize W1.alloc (.cells #[.slice av ll.length cv] 25)=WA at *
 generalize W1.heap.size=C at *
 have hlenA:(M.cur f 0 0 ll).length=ll.length:=M.cur_len _ _ _ _
 go_loopw [14] (fun s14 wr=>∃ n:Nat,s14=.int .i64 n∧n≤ll.length∧Rdg wr (w.heap.size+2) (.slice av ll.length cv) (M.cur f n 0 ll) vs∧Slot1 wr C (.slice av ll.length cv)∧Slot1 wr (w.heap.size+1) (.slice none 0 0)∧Below w.heap.size w wr) (fun s14 _=>ll.length - (intOf s14).toNat)
 case atStart=>exact ⟨0,rfl,Nat.zero_le _,by rw [M.cur_zero];exact hRA,hC,hYA,bwA⟩
 case round =>
  obtain ⟨n,rfl,hn,hR,hP,hQ,hbel⟩:=hrel
  clear hRA hC hYA bwA hlenA
  by_cases hlt:n < ll.length
  ·have hR':=hR
   rw [← M.cur_len f n 0 ll] at hR'
   obtain ⟨gv,rfl,hv,hc⟩:=hR'.outer_at (n:=n) (by rw [M.cur_len];exact hlt)
   obtain ⟨a',c',e1,hin⟩:=hR.cur_at hlt hv
   rw [e1] at hc
   have ht7:=h7 _ (List.getElem_mem hlt)
   have i1:(n:Int) < ll.length:=by omega
   have HT:Hid (∀ k (hk:k < ll[n].length),∃ t∈ll,ll[n][k]∈t):=fun k hk=>⟨ll[n],List.getElem_mem hlt,List.getElem_mem hk⟩
   have HS:Hid (∀ (k g:Nat) (W W':World) (hk:k < ll[n].length),a'=some ⟨g,0,none⟩→Rdg W (w.heap.size+2) (.slice (some ⟨gv,0,none⟩) ll.length cv) (M.cur f n k ll) vs→Chg W W' g (k * 3) ll[n][k] (f ll[n][k])→Rdg W' (w.heap.size+2) (.slice (some ⟨gv,0,none⟩) ll.length cv) (M.cur f n (k+1) ll) vs∧W.grownBy W' (some g)∧w.heap.size+2≤g∧g < C):=by
    intro k g W W' hk ha hr hch
    subst ha
    have r:=hr.step hlt hk hv e1 hch
    exact ⟨r.1,r.2.1,r.2.2,HV n hv g (by rw [e1];rfl)⟩
   have HA:Hid (∀ (k:Nat) (W:World),Rdg W (w.heap.size+2) (.slice (some ⟨gv,0,none⟩) ll.length cv) (M.cur f n k ll) vs→∀ hk:k < ll[n].length,∃ g,a'=some ⟨g,0,none⟩∧w.heap.size+2≤g∧DoAt W g (k * 3) ll[n][k]∧∀ i,W.frozen? ⟨g,i,none⟩=false):=by
    intro k W hr hk
    obtain ⟨a2,c2,e2,h2⟩:=hr.cur_at hlt hv
    rw [e1] at e2
    obtain ⟨rfl,_,rfl⟩:=Value.slice.inj e2
    exact h2 hk
   have HN:Hid (∀ k,ll[n].length≤k→M.cur f n k ll=M.cur f (n+1) 0 ll):=fun k hk=>M.cur_next f n k ll hlt hk
   clear hin e1 hR'
   generalize ll[n]=t at *
   go_wp2_with fail
   go_loopw [20] (fun s20 wi=>∃ k:Nat,s20=.int .i64 k∧k≤t.length∧Rdg wi (w.heap.size+2) (.slice (some ⟨gv,0,none⟩) ll.length cv) (M.cur f n k ll) vs∧Slot1 wi C (.slice (some ⟨gv,0,none⟩) ll.length cv)∧Slot1 wi (w.heap.size+1) (.slice none 0 0)∧Below w.heap.size w wi) (fun s20 _=>t.length - (intOf s20).toNat)
   case atStart=>exact ⟨0,rfl,Nat.zero_le _,hR,hP,hQ,hbel⟩
   case round =>
    obtain ⟨k,rfl,hk,hR,hP,hQ,hbel⟩:=hrel
    by_cases hkt:k < t.length
    ·obtain ⟨g,rfl,hg,hd,hf⟩:=HA.out k _ hR hkt
     have j1:(k:Int) < t.length:=by omega
     have HS1:Hid (∀ W',Chg wr W' g (k * 3) t[k] (f t[k])→Rdg W' (w.heap.size+2) (.slice (some ⟨gv,0,none⟩) ll.length cv) (M.cur f n (k+1) ll) vs∧wr.grownBy W' (some g)∧w.heap.size+2≤g∧g < C):=fun W' hch=>HS.out k g wr W' hkt rfl hR hch
     have CC:=hcl wr g (k * 3) t[k] hbel (by omega) (HT.out k hkt) hd hf
     generalize t[k]=d at *
     go_wp2_with (first | (go_at_call 40;refine CC.mono ?_;rintro e W2 ⟨rfl,hch⟩))
     obtain ⟨r1,r2,r3,r4⟩:=HS1.out _ hch
     exact ⟨⟨k+1,by go_num,by omega,r1,hP.apart r2 (fun e=>by have:=Option.some.inj e;omega),hQ.apart r2 (fun e=>by have:=Option.some.inj e;omega),below_grown hbel r2 (fun j hj=>by have:=Option.some.inj hj;omega) hbel.size⟩,by simp [intOf];omega⟩
    ·have j1:¬ (k:Int) < t.length:=by omega
     rw [HN.out k (by omega)] at hR
     go_wp2_with fail
     exact ⟨⟨n+1,by go_num,by omega,hR,hP,hQ,hbel⟩,by simp [intOf];omega⟩
  ·rw [M.cur_all f n 0 ll (by omega)] at hR
   have i1:¬ (n:Int) < ll.length:=by omega
   have p0:=hP.c
   have pf:=hP.fz
   have q0:=hQ.c
   have qf:=hQ.fz
   have lP:=hP.lt
   have lQ:=hQ.lt
   have hne:w.heap.size+1≠C:=by omega
   go_wp2_with fail
   have q1:=(hQ.set (.slice av ll.length cv)).c
   exact bodyPost_ret (v:=.agg #[.slice av ll.length cv]) (by simp [results,Tryz.results39,go_sem,q1]) rfl ⟨_,rfl,⟨vs,(hR.far (by omega) _).mono (by omega)⟩,hbel.setCell (by show w.heap.size≤w.heap.size+1;omega) _⟩
end Go.Proofs.YtihfibjckkmmbaaGreat
namespace Go.Proofs.YtihfibjckkmmbaaGreat
open Go.RowKit
set_option maxHeartbeats 1000000 in
set_option maxRecDepth 100000 in
set_option linter.unusedSimpArgs false in
theorem placeC_any (g off CB:Nat) (d:M.D) (pa:Option Addr) (pb po pc:Nat) (row:List Int) (W:World) (hl:row.length≤1000) (hC:W.cell? ⟨CB,0,none⟩=some (.slice pa row.length pc)) (hI:IntS W pa pb po row) (hd:DoAt W g off d) (hf:∀ i,W.frozen? ⟨g,i,none⟩=false) (hr:M.uses d.k=true→0≤d.p∧d.p < row.length) (hne1:g≠CB) (hne2:g≠pb) :
  Calls Tryz.prog 40 #[.pointer (some ⟨g,off,none⟩),.pointer (some ⟨CB,0,none⟩)] W fun e w'=>e=.returned (.tuple #[])∧Chg W w' g off d (M.placeF row d):=by
 obtain ⟨kk,pp,vv⟩:=d
 obtain ⟨ck,cp,cv⟩:=hd
 go_enter Tryz.func40,Tryz.ntmps40
 cases hu:M.uses kk
 ·go_wp2_with (go_at_call 41;refine (uses_any _ _).mono ?_;rw [hu];rintro e w' ⟨rfl,rfl⟩)
  refine bodyPost_end (results_none Tryz.results40 _ _ _) rfl ⟨rfl,0,Or.inl ⟨rfl,?_⟩⟩
  unfold M.placeF
  rw [show M.uses (M.D.mk kk pp vv).k=false from hu]
  rfl
 ·obtain ⟨r0,r1⟩:=hr hu
  obtain ⟨j,rfl⟩:∃ j:Nat,pp=j:=⟨pp.toNat,by simp only at r0;omega⟩
  have hj:j < row.length:=by simp only at r1;omega
  obtain ⟨rfl⟩:=hI.addr (by omega)
  have hx:=hI.row j hj
  have HY:Hid (M.placeF row ⟨kk,j,vv⟩=⟨kk,row[j],vv⟩):=by
   show _=_
   unfold M.placeF
   rw [if_pos (show M.uses (M.D.mk kk j vv).k=true from hu)]
   congr 1
   exact M.getD_get hj
  generalize row[j]=y at *
  have i1:(j:Int) < row.length:=by omega
  clear r0 r1 hr
  go_wp2_with (go_at_call 41;refine (uses_any _ _).mono ?_;rw [hu];rintro e w' ⟨rfl,rfl⟩)
  refine wp_region_held_drew (S:=fun w'=>w'.cell? ⟨CB,0,none⟩=some (.slice (some ⟨pb,po,none⟩) row.length pc)∧w'.cell? ⟨pb,po+j,none⟩=some (.int .i64 y)) (by kernel_rfl) (by exact ⟨hC,hx⟩) (fun hH=>?_)
  refine takeD 0 (some 8) (.pointer (some ⟨g,off,none⟩)) hH rfl rfl (by kernel_rfl) (by kernel_rfl) (by kernel_rfl) (fun _ _ _ h=>h) (Or.inl ⟨by rfl,by intro w' hSw;go_simp⟩) ?_
  simp only [Act.put,List.setIfInBounds_toArray,List.set_cons_zero,List.set_cons_succ]
  refine takeD 1 (some 9) (.slice (some ⟨pb,po,none⟩) row.length pc) hH rfl rfl (by kernel_rfl) (by kernel_rfl) (by kernel_rfl) (fun _ _ _ h=>h) (Or.inl ⟨by rfl,by intro w' hSw;have hc:=hSw.1;go_simp⟩) ?_
  simp only [Act.put,List.setIfInBounds_toArray,List.set_cons_zero,List.set_cons_succ]
  refine takeD 2 (some 10) (.pointer (some ⟨g,off,none⟩)) hH rfl rfl (by kernel_rfl) (by kernel_rfl) (by kernel_rfl) (fun _ _ _ h=>h) (Or.inl ⟨by rfl,by intro w' hSw;go_simp⟩) ?_
  simp only [Act.put,List.setIfInBounds_toArray,List.set_cons_zero,List.set_cons_succ]
  refine takeD 3 (some 11) (.pointer (some ⟨g,off,none⟩)) hH rfl rfl (by kernel_rfl) (by kernel_rfl) (by kernel_rfl) (fun _ _ _ h=>h) (Or.inl ⟨by rfl,by intro w' hSw;go_simp⟩) ?_
  simp only [Act.put,List.setIfInBounds_toArray,List.set_cons_zero,List.set_cons_succ]
  refine takeD 4 (some 12) (.pointer (some ⟨g,off+1,none⟩)) hH rfl rfl (by kernel_rfl) (by kernel_rfl) (by kernel_rfl) (fun _ _ _ h=>h) (Or.inl ⟨by rfl,by intro w' hSw;go_simp⟩) ?_
  simp only [Act.put,List.setIfInBounds_toArray,List.set_cons_zero,List.set_cons_succ]
  refine wpAnyH_ready (rs:=[5]) (by kernel_rfl) (by simp) ?_
  refine AllReadyH.cons rfl (fun K' hK=>?_) AllReadyH.nil
  have xx:=cp
  rw [if_pos (by rfl)]
  go_simp
  refine hK.out _ _ hH (fun _=>?_)
  clear hK K' xx
  refine takeD 6 (some 14) (.pointer (some ⟨pb,po+j,none⟩)) hH rfl rfl (by kernel_rfl) (by kernel_rfl) (by kernel_rfl) (fun _ _ _ h=>h) (Or.inl ⟨by rfl,by intro w' hSw;go_simp⟩) ?_
  simp only [Act.put,List.setIfInBounds_toArray,List.set_cons_zero,List.set_cons_succ]
  refine takeD 7 (some 15) (.int .i64 y) hH rfl rfl (by kernel_rfl) (by kernel_rfl) (by kernel_rfl) (fun _ _ _ h=>h) (Or.inl ⟨by rfl,by intro w' hSw;have hc:=hSw.2;go_simp⟩) ?_
  simp only [Act.put,List.setIfInBounds_toArray,List.set_cons_zero,List.set_cons_succ]
  refine takeD 8 (some 16) (.pointer (some ⟨g,off,none⟩)) hH rfl rfl (by kernel_rfl) (by kernel_rfl) (by kernel_rfl) (fun _ _ _ h=>h) (Or.inl ⟨by rfl,by intro w' hSw;go_simp⟩) ?_
  simp only [Act.put,List.setIfInBounds_toArray,List.set_cons_zero,List.set_cons_succ]
  refine takeD 9 (some 17) (.pointer (some ⟨g,off+1,none⟩)) hH rfl rfl (by kernel_rfl) (by kernel_rfl) (by kernel_rfl) (fun _ _ _ h=>h) (Or.inl ⟨by rfl,by intro w' hSw;go_simp⟩) ?_
  simp only [Act.put,List.setIfInBounds_toArray,List.set_cons_zero,List.set_cons_succ]
  refine wpAnyH_ready (rs:=[10]) (by kernel_rfl) (by simp) ?_
  refine AllReadyH.cons rfl (fun K' hK=>?_) AllReadyH.nil
  have xc:=cp
  have xz:=hf (off+1)
  rw [if_pos (by rfl)]
  go_simp
  refine hK.out _ _ ⟨(World.cell?_setCell_other _ _ _ _ (fun e=>hne1 (congrArg Addr.block e))).trans hH.1,(World.cell?_setCell_other _ _ _ _ (fun e=>hne2 (congrArg Addr.block e))).trans hH.2⟩ (fun _=>?_)
  clear hK K'
  refine wpAnyH_done (by kernel_rfl) ?_ _
  clear xc xz
  go_wp2_with fail
  refine bodyPost_end (results_none Tryz.results40 _ _ _) rfl ⟨rfl,1,Or.inr (Or.inr (Or.inl ⟨?_,?_,?_⟩))⟩
  ·rw [HY.out];rfl
  ·rw [HY.out]
  ·rw [HY.out]
end Go.Proofs.YtihfibjckkmmbaaGreat
namespace Go.Proofs.YtihfibjckkmmbaaGreat
open Go.RowKit
namespace M
theorem from_threads {ll:List (List D)}:∀ {a u:Nat},progFrom a u ll=true→∀ t∈ll,thread t=true:=by
 induction ll with
 | nil=>intro a u _ t ht;simp at ht
 | cons t l ih =>
  intro a u h t' ht'
  by_cases hb:thread t=true
  ·simp only [progFrom,hb,if_true] at h
   rcases List.mem_cons.1 ht' with rfl | hm
   ·exact hb
   ·exact ih h t' hm
  ·simp [progFrom,hb] at h
theorem prog_does {ll:List (List D)} (h:prog ll=true) {t:List D} (ht:t∈ll) {d:D} (hd:d∈t):doOk d=true:=by
 simp only [prog,Bool.and_eq_true,decide_eq_true_eq] at h
 have:=from_threads h.2 t ht
 simp only [thread,form,Bool.and_eq_true,List.all_eq_true] at this
 exact this.1.1.2 d hd
theorem pick_row {row:List Int} {n:Nat} (h:rowN row n=true):pick 0 row (bel n)=row:=by
 have hm:=rowN_mem h
 unfold pick
 conv=>rhs;rw [← List.map_id row]
 apply List.map_congr_left
 intro x hx
 obtain ⟨h0,h1⟩:=hm x hx
 rw [getD_get (by rw [bel_len];omega),bel_get]
 simp only [id]
 omega
theorem turned_row {row:List Int} {n:Nat} (h:rowN row n=true):turned 0 row (bel n)=row:=by
 rw [turned_yes (by rw [bel_len];exact h),pick_row h]
end M
end Go.Proofs.YtihfibjckkmmbaaGreat
namespace Go.Proofs.YtihfibjckkmmbaaGreat
open Go.RowKit
theorem wpList_append_does {P:Program} {ops:Array Oper} {rest:List Oper} {o:Oper} {a:Act} {w:World} {Q:Exit→Act→World→Prop} (hgd:o.guard=none) (s x:Operand) (t:TypeId)
  (ho:o.op=.call { callee:=.builtin .append,args:=#[s,x],argTypes:=#[t,t] }) (d:Option Tmp) (hd:o.dst=d) (base:Nat) (e:TypeId) (i:TypeInfo) (ht:P.underlying t=some (.slice e)) (hi:P.info? e=some i) (hz0:i.zero=some (.agg #[.int .i64 0,.int .i64 0,.int .i64 0])) (hz1:i.size=3) (hz2:i.bytes=24)
  (g:Nat) (hs:a.eval s=.slice (some ⟨g,0,none⟩) 0 0) (hown:w.ownsRow base e 3 (.slice (some ⟨g,0,none⟩) 0 0) 0 []) (hbase:base≤w.heap.size) (sa:Option Addr) (b off c:Nat) (l:List M.D) (hx:a.eval x=.slice sa l.length c) (hI:DoS w sa b off l) (hl:l.length≤1048576)
  (h:∀ v' w',w'.ownsRow base e 3 v' l.length (flat l)→w.grownBy w' (some g)→(v'.ownBlock=some g∨v'.ownBlock=some w.heap.size)→wpList P ops Q rest (a.put d v') w') :
  wpList P ops Q (o::rest) a w :=
 wpList_plain hgd fun _ hK=>wp_append_does s x t ho d hd base e i ht hi hz0 hz1 hz2 g hs hown hbase sa b off c l hx hI hl fun v' w' h1 h2 h3=>by
  subst hd
  exact hK _ _ (h v' w' h1 h2 h3)
end Go.Proofs.YtihfibjckkmmbaaGreat
