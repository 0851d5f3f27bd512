/- The plain mathematics of programs: what impl's and spec's tests of chapter 1 compute, and that they are the same. No condition. And what goes with it: Math, MaMath, MaMem, MaLeaf, MaWait, MaBeg, MaWrite. -/
import Derived.Test.YtnddmlgnngdaoaaRows
import Derived.Test.YtnddmlgnngdaoaaQjaa
import Derived.Test.YtnddmlgnngdaoaaQjab
import Derived.Test.YtnddmlgnngdaoaaQjac
namespace Go.Proofs.Ytnddmlgnngdaoaa
section
namespace M
structure D where
 k:Int
 p:Int
 v:Int
def reads (k:Int):Bool:=k==2||k==5
def stores (k:Int):Bool:=k==1||k==6
def writes (k:Int):Bool:=stores k||k==3
def uses (k:Int):Bool:=reads k||writes k
def wordOk (k:Int):Bool:=decide (1≤k)&&decide (k≤9)
def placeOk (k p:Int):Bool:=if uses k then decide (0≤p)&&decide (p < 3) else p==0
def valOk (k v:Int):Bool:=if stores k then decide (1≤v)&&decide (v≤3) else v==0
def doOk (d:D):Bool:=wordOk d.k&&placeOk d.k d.p&&valOk d.k d.v
def rng (a b n:Int):Bool:=decide (a≤n)&&decide (n≤b)
theorem doOk_eq (k p v:Int):doOk ⟨k,p,v⟩=(rng 1 9 k&&(if uses k then rng 0 2 p else p==0)&&(if stores k then rng 1 3 v else v==0)):=by
 have e:decide (p < 3)=decide (p≤2):=by rw [decide_eq_decide];omega
 simp only [doOk,wordOk,placeOk,valOk,rng,e]
def form (l:List D):Bool:=l.all doOk
def copies:Bool→List D→Bool
 | _,[]=>true
 | r,d::l=>if d.k==3&&!r then false else copies (r||reads d.k) l
def readers:Bool→List D→Bool
 | i,[]=>!i
 | i,d::l=>if d.k==7 then (if i then false else readers true l) else if d.k==8 then (if i then readers false l else false) else if d.k==9 then (if i then false else readers i l) else readers i l
def thread (l:List D):Bool:=decide (l.length≤7)&&form l&&copies false l&&readers false l
def bad (r i:Bool) (d:D):Bool:=!doOk d||d.k==3&&!r||d.k==7&&i||d.k==8&&!i||d.k==9&&i
def inAfter (i:Bool) (k:Int):Bool:=if k==7 then true else if k==8 then false else i
def pass:Bool→Bool→List D→Bool
 | _,i,[]=>!i
 | r,i,d::l=>if bad r i d then false else pass (r||reads d.k) (inAfter i d.k) l
def sthread (l:List D):Bool:=decide (l.length≤7)&&pass false false l
theorem pass_eq (r i:Bool) (l:List D):pass r i l=(form l&&copies r l&&readers i l):=by
 induction l generalizing r i with
 | nil=>simp [pass,form,copies,readers]
 | cons d l ih =>
  simp only [pass,form,copies,readers,List.all_cons] at *
  by_cases hd:doOk d=true
  ·by_cases h3:(d.k==3)=true
   ·have hk:d.k=3:=by simpa using h3
    simp only [bad,inAfter,hd,hk]
    cases r<;>cases i<;>simp [reads,ih]
   ·have h3':(d.k==3)=false:=by simpa using h3
    by_cases h7:d.k=7
    ·simp only [bad,inAfter,hd,h7]
     cases r<;>cases i<;>simp [reads,ih]
    ·by_cases h8:d.k=8
     ·simp only [bad,inAfter,hd,h8]
      cases r<;>cases i<;>simp [reads,ih]
     ·by_cases h9:d.k=9
      ·simp only [bad,inAfter,hd,h9]
       cases r<;>cases i<;>simp [reads,ih]
      ·have e7:(d.k==7)=false:=by simpa using h7
       have e8:(d.k==8)=false:=by simpa using h8
       have e9:(d.k==9)=false:=by simpa using h9
       simp only [bad,inAfter,hd,h3',e7,e8,e9]
       simp [ih]
  ·have hd':doOk d=false:=by simpa using hd
   simp [bad,hd']
theorem sthread_eq (l:List D):sthread l=thread l:=by
 simp only [sthread,thread,pass_eq]
 cases decide (l.length≤7)<;>simp [Bool.and_assoc]
def cnt (f:Int→Bool) (l:List D):Nat:=(l.filter fun d=>f d.k).length
theorem cnt_le (f:Int→Bool) (l:List D):cnt f l≤l.length:=List.length_filter_le _ _
theorem cnt_cons (f:Int→Bool) (d:D) (l:List D):cnt f (d::l)=(if f d.k then 1 else 0)+cnt f l:=by
 simp only [cnt,List.filter_cons]
 cases f d.k<;>simp
 omega
def progFrom:Nat→Nat→List (List D)→Bool
 | a,u,[]=>decide (a≤14)&&decide (u≤6)
 | a,u,t::l=>if thread t then progFrom (a+t.length) (u+cnt uses t) l else false
def prog (l:List (List D)):Bool:=decide (l.length≤3)&&progFrom 0 0 l
theorem drop_at (l:List D) (n:Nat) (h:n < l.length):l.drop n=l[n]::l.drop (n+1):=(List.getElem_cons_drop h).symm
theorem pass_bad {l:List D} {r i:Bool} {n:Nat} {d:D} (hp:pass false false l=pass r i (l.drop n)) (hd:l.drop n=d::l.drop (n+1)) (hb:bad r i d=true):sthread l=false:=by
 simp [sthread,hp,hd,pass,hb]
theorem pass_ok {l:List D} {r i:Bool} {n:Nat} {d:D} (hp:pass false false l=pass r i (l.drop n)) (hd:l.drop n=d::l.drop (n+1)) (hb:bad r i d=false) {r' i':Bool} (hr:r'=(r||reads d.k)) (hi:i'=inAfter i d.k) :
  pass false false l=pass r' i' (l.drop (n+1)):=by
 subst hr;subst hi
 rw [hp,hd]
 simp [pass,hb]
theorem pass_fin {l:List D} {r i:Bool} {n:Nat} (hp:pass false false l=pass r i (l.drop n)) (hn:l.length≤n) (h7:l.length≤7):sthread l=!i:=by
 rw [List.drop_eq_nil_of_le hn] at hp
 simp [sthread,hp,pass,h7]
end M
end
section
namespace M
structure Th where
 next:Nat
 vals:List Int
 pend:List (Int × Int)
 inn:Bool
 waits:Bool
 noted:List Bool
structure St where
 th:List Th
 at_:List Int
def th0:Th:=⟨0,[],[],false,false,[false,false,false]⟩
def st0:St:=⟨[th0,th0,th0],[0,0,0]⟩
def St.t (s:St) (t:Nat):Th:=s.th.getD t th0
def St.put (s:St) (t:Nat) (x:Th):St:=⟨s.th.set t x,s.at_⟩
def find (p:Int):List (Int × Int)→Option Int
 | []=>none
 | q::l=>match find p l with
  | some u=>some u
  | none=>if q.1==p then some q.2 else none
def St.look (s:St) (t:Nat) (p:Int):Int:=(find p (s.t t).pend).getD (s.at_.getD p.toNat 0)
def St.come (s:St) (t:Nat):St :=
 match (s.t t).pend with
 | []=>s
 | q::r=>⟨s.th.set t { s.t t with pend:=r },s.at_.set q.1.toNat q.2⟩
def St.later (s:St) (t:Nat) (p v:Int):St:=s.put t { s.t t with pend:=(s.t t).pend++[(p,v)] }
def St.write (late:Bool) (s:St) (t:Nat) (p v:Int):St:=if late then s.later t p v else (s.later t p v).come t
def St.keep (s:St) (t:Nat) (v:Int):St:=s.put t { s.t t with vals:=(s.t t).vals++[v] }
def St.bump (s:St) (t:Nat):St:=s.put t { s.t t with next:=(s.t t).next+1 }
def St.goIn (s:St) (t:Nat):St:=s.put t { s.t t with inn:=true }
def Th.free (x:Th) (t:Nat):Th:={ x with noted:=x.noted.set t false }
def St.goOut (s:St) (t:Nat):St:=⟨(s.put t { s.t t with inn:=false }).th.map (Th.free · t),s.at_⟩
def St.begin_ (s:St) (t:Nat):St:=s.put t { s.t t with waits:=true,noted:=s.th.map Th.inn }
def St.stop (s:St) (t:Nat):St:=s.put t { s.t t with waits:=false }
def quiet:List Bool:=[false,false,false]
def St.d? (ll:List (List D)) (s:St) (t:Nat):Option D:=(ll.getD t [])[(s.t t).next]?
def canD (x:Th) (d:D):Bool:=uses d.k||(decide (x.pend.length=0)&&decide (x.noted=quiet))
def St.stepD (late:Bool) (s:St) (t:Nat) (d:D):St :=
 if reads d.k then (s.keep t (s.look t d.p)).bump t
 else if stores d.k then (s.write late t d.p d.v).bump t
 else if d.k==3 then (s.write late t d.p ((s.t t).vals.getD ((s.t t).vals.length - 1) 0)).bump t
 else if d.k==7 then (s.goIn t).bump t
 else if d.k==8 then (s.goOut t).bump t
 else if d.k==9 then (if (s.t t).waits then (s.stop t).bump t else s.begin_ t)
 else s.bump t
def St.step? (late:Bool) (ll:List (List D)) (s:St) (t:Nat):Option St :=
 match s.d? ll t with
 | none=>none
 | some d=>if canD (s.t t) d then some (s.stepD late t d) else none
def St.land? (s:St) (t:Nat):Option St:=if (s.t t).pend.length=0 then none else some (s.come t)
def St.turn? (late:Bool) (ll:List (List D)) (s:St) (k:Int):Option St :=
 if 0≤k∧k < ll.length then s.step? late ll k.toNat
 else if 3≤k∧k < ll.length+3 then s.land? (k.toNat - 3)
 else none
def runFrom (late:Bool) (ll:List (List D)):St→List Int→Option St
 | s,[]=>some s
 | s,k::l=>match s.turn? late ll k with
  | none=>none
  | some s'=>runFrom late ll s' l
def St.doneT (ll:List (List D)) (s:St) (t:Nat):Bool:=decide ((ll.getD t []).length≤(s.t t).next)&&decide ((s.t t).pend.length=0)
def St.done (ll:List (List D)) (s:St):Bool:=(List.range ll.length).all (s.doneT ll)
def St.reads (s:St):List Int:=(s.th.map Th.vals).flatten
theorem t_get (s:St) (t:Nat) (h:t < s.th.length):s.t t=s.th[t]:=by simp [St.t,h]
theorem t_put (s:St) (t i:Nat) (x:Th) (h:t < s.th.length):(s.put t x).t i=if i=t then x else s.t i:=by
 simp only [St.t,St.put,List.getD_eq_getElem?_getD]
 by_cases e:i=t
 ·subst e;simp [h]
 ·rw [if_neg e,List.getElem?_set_ne (fun h=>e h.symm)]
theorem put_len (s:St) (t:Nat) (x:Th):(s.put t x).th.length=s.th.length:=by simp [St.put]
structure InvT (l:List D) (x:Th):Prop where
 next:x.next≤l.length
 vals:x.vals.length=cnt reads (l.take x.next)
 pend:x.pend.length≤cnt writes (l.take x.next)
 pr:∀ q∈x.pend,0≤q.1∧q.1 < 3∧0≤q.2∧q.2≤3
 vr:∀ v∈x.vals,0≤v∧v≤3
 noted:x.noted.length=3
 waits:x.waits=true→∃ d,l[x.next]?=some d∧d.k=9
 rest:x.waits=false→x.noted=quiet
structure Inv (ll:List (List D)) (s:St):Prop where
 th:s.th.length=3
 at_:s.at_.length=3
 ar:∀ v∈s.at_,0≤v∧v≤3
 each:∀ t,t < 3→InvT (ll.getD t []) (s.t t)
end M
end
section
open Go.RowKit
namespace M
def Th.c (x:Th) (j:Nat):Value :=
 if j=0 then .int .i64 x.next
 else if j < 7 then .int .i64 (x.vals.getD (j - 1) 0)
 else if j=7 then .int .i64 x.vals.length
 else if j < 20 then (if j % 2=0 then .int .i64 (x.pend.getD (j / 2 - 4) (0,0)).1 else .int .i64 (x.pend.getD (j / 2 - 4) (0,0)).2)
 else if j=20 then .int .i64 x.pend.length
 else if j=21 then .bool x.inn
 else if j=22 then .bool x.waits
 else .bool (x.noted.getD (j - 23) false)
def St.c (s:St) (i:Nat):Value:=if i < 78 then (s.t (i / 26)).c (i % 26) else .int .i64 (s.at_.getD (i - 78) 0)
theorem Th.c_next (x:Th):x.c 0=.int .i64 x.next:=rfl
theorem Th.c_val (x:Th) (i:Nat) (h:i < 6):x.c (1+i)=.int .i64 (x.vals.getD i 0):=by
 unfold Th.c;rw [if_neg (by omega),if_pos (by omega),Nat.add_sub_cancel_left]
theorem Th.c_reads (x:Th):x.c 7=.int .i64 x.vals.length:=rfl
theorem Th.c_place (x:Th) (i:Nat) (h:i < 6):x.c (8+i * 2)=.int .i64 (x.pend.getD i (0,0)).1:=by
 unfold Th.c;rw [if_neg (by omega),if_neg (by omega),if_neg (by omega),if_pos (by omega),if_pos (by omega),show (8+i * 2) / 2 - 4=i from by omega]
theorem Th.c_pval (x:Th) (i:Nat) (h:i < 6):x.c (8+i * 2+1)=.int .i64 (x.pend.getD i (0,0)).2:=by
 unfold Th.c;rw [if_neg (by omega),if_neg (by omega),if_neg (by omega),if_pos (by omega),if_neg (by omega),show (8+i * 2+1) / 2 - 4=i from by omega]
theorem Th.c_coming (x:Th):x.c 20=.int .i64 x.pend.length:=rfl
theorem Th.c_in (x:Th):x.c 21=.bool x.inn:=rfl
theorem Th.c_waits (x:Th):x.c 22=.bool x.waits:=rfl
theorem Th.c_noted (x:Th) (i:Nat):x.c (23+i)=.bool (x.noted.getD i false):=by
 unfold Th.c;rw [if_neg (by omega),if_neg (by omega),if_neg (by omega),if_neg (by omega),if_neg (by omega),if_neg (by omega),if_neg (by omega),Nat.add_sub_cancel_left]
theorem St.c_th (s:St) (t j:Nat) (ht:t < 3) (hj:j < 26):s.c (t * 26+j)=(s.t t).c j:=by
 unfold St.c;rw [if_pos (by omega),show (t * 26+j) / 26=t from by omega,show (t * 26+j) % 26=j from by omega]
theorem St.c_at (s:St) (p:Nat):s.c (78+p)=.int .i64 (s.at_.getD p 0):=by
 unfold St.c;rw [if_neg (by omega),Nat.add_sub_cancel_left]
def upd (f:Nat→Value) (i:Nat) (v:Value):Nat→Value:=fun j=>if j=i then v else f j
theorem put_c (s:St) (t:Nat) (x:Th) (hs:s.th.length=3) (ht:t < 3) (f:Nat→Value) (h1:∀ j,j < 26→x.c j=f (t * 26+j)) (h2:∀ j,j < 81→(j < t * 26∨t * 26+26≤j)→s.c j=f j):∀ j,j < 81→(s.put t x).c j=f j:=by
 intro j hj
 by_cases e:t * 26≤j∧j < t * 26+26
 ·obtain ⟨i,rfl⟩:∃ i,j=t * 26+i:=⟨j - t * 26,by omega⟩
  rw [St.c_th _ _ _ ht (by omega),t_put _ _ _ _ (by omega),if_pos rfl]
  exact h1 i (by omega)
 ·rw [← h2 j hj (by omega)]
  unfold St.c
  by_cases hj78:j < 78
  ·rw [if_pos hj78,if_pos hj78,t_put _ _ _ _ (by omega),if_neg (by omega)]
  ·rw [if_neg hj78,if_neg hj78];rfl
end M
structure MSC (w:World) (B:Nat) (f:Nat→Value):Prop where
 c:∀ j,j < 81→w.cell? ⟨B,j,none⟩=some (f j)
 fz:∀ j,w.frozen? ⟨B,j,none⟩=false
theorem MSC.lt {w:World} {B:Nat} {f:Nat→Value} (h:MSC w B f):B < w.heap.size:=World.block_lt_of_cell? _ _ (h.c 0 (by omega))
theorem MSC.congr {w:World} {B:Nat} {f g:Nat→Value} (h:MSC w B f) (e:∀ j,j < 81→g j=f j):MSC w B g:=⟨fun j hj=>by rw [e j hj];exact h.c j hj,h.fz⟩
theorem MSC.set {w:World} {B:Nat} {f:Nat→Value} (h:MSC w B f) {i:Nat} (hi:i < 81) (v:Value):MSC (w.setCell ⟨B,i,none⟩ v) B (M.upd f i v) :=
 ⟨fun j hj=>by
  unfold M.upd
  by_cases e:j=i
  ·subst e;rw [if_pos rfl];exact World.cell?_setCell_same _ _ _ (h.c j hj)
  ·rw [if_neg e,World.cell?_setCell_other _ _ _ _ (fun h=>e (congrArg Addr.off h).symm)];exact h.c j hj,fun j=>by rw [World.frozen?_setCell];exact h.fz j⟩
theorem MSC.drew {w:World} {B:Nat} {f:Nat→Value} (h:MSC w B f):MSC w.drew B f:=⟨h.c,h.fz⟩
theorem MSC.below {w w':World} {B E:Nat} {f:Nat→Value} (h:MSC w B f) (hb:Below E w w') (hB:w.heap.size≤E):MSC w' B f :=
 ⟨fun j hj=>(hb.cell (p:=⟨B,j,none⟩) (Nat.lt_of_lt_of_le h.lt hB)).trans (h.c j hj),fun j=>(hb.frozen (p:=⟨B,j,none⟩) (Nat.lt_of_lt_of_le h.lt hB)).trans (h.fz j)⟩
theorem MSC.th {w:World} {B:Nat} {s:M.St} (h:MSC w B s.c) {t j:Nat} (ht:t < 3) (hj:j < 26):w.cell? ⟨B,t * 26+j,none⟩=some ((s.t t).c j):=by
 rw [h.c _ (by omega),M.St.c_th _ _ _ ht hj]
theorem MSC.th0 {w:World} {B:Nat} {s:M.St} (h:MSC w B s.c) {t:Nat} (ht:t < 3):w.cell? ⟨B,t * 26,none⟩=some (.int .i64 (s.t t).next):=by
 rw [h.c _ (by omega)];exact congrArg some (M.St.c_th s t 0 ht (by omega))
end
section
open Go.RowKit
theorem M.getD_snoc (l:List Int) (v:Int) (i:Nat):(l++[v]).getD i 0=if i=l.length then v else l.getD i 0:=by
 simp only [List.getD_eq_getElem?_getD]
 by_cases e:i < l.length
 ·rw [List.getElem?_append_left e,if_neg (by omega)]
 ·by_cases e2:i=l.length
  ·subst e2;simp
  ·rw [if_neg e2,List.getElem?_eq_none (by simp;omega),List.getElem?_eq_none (by omega)]
theorem M.keep_c (s:M.St) (t:Nat) (v:Int) (hs:s.th.length=3) (ht:t < 3) (hr:(s.t t).vals.length < 6) :
  ∀ j,j < 81→(s.keep t v).c j=M.upd (M.upd s.c (t * 26+1+(s.t t).vals.length) (.int .i64 v)) (t * 26+7) (.int .i64 ((s.t t).vals.length+1)) j:=by
 refine M.put_c s t _ hs ht _ (fun j hj=>?_) (fun j hj hn=>?_)
 ·unfold M.upd
  by_cases e7:j=7
  ·subst e7
   rw [if_pos rfl,M.Th.c_reads];simp
  ·rw [if_neg (by omega)]
   by_cases er:j=1+(s.t t).vals.length
   ·rw [if_pos (by omega),er,M.Th.c_val _ _ hr,M.getD_snoc,if_pos rfl]
   ·rw [if_neg (by omega),M.St.c_th _ _ _ ht hj]
    unfold M.Th.c
    by_cases h0:j=0
    ·rw [if_pos h0,if_pos h0]
    ·rw [if_neg h0,if_neg h0]
     by_cases h7:j < 7
     ·rw [if_pos h7,if_pos h7,M.getD_snoc,if_neg (by omega)]
     ·rw [if_neg h7,if_neg h7,if_neg e7,if_neg e7]
 ·unfold M.upd
  rw [if_neg (by omega),if_neg (by omega)]
set_option maxHeartbeats 400000 in
theorem keep_any (B t:Nat) (s:M.St) (v:Int) (w:World) (ht:t < 3) (hs:s.th.length=3) (hr:(s.t t).vals.length < 6) (h:MSC w B s.c) :
  Calls Try.prog 93 #[.pointer (some ⟨B,t * 26,none⟩),.int .i64 v] w fun e w'=>e=.returned (.tuple #[])∧MSC w' B (s.keep t v).c∧But B w w':=by
 have c7:=h.th ht (j:=7) (by omega)
 rw [M.Th.c_reads] at c7
 have cr:=h.th ht (j:=1+(s.t t).vals.length) (by omega)
 rw [M.Th.c_val _ _ hr,← Nat.add_assoc] at cr
 have fz:=h.fz
 have fin:=fun r (e:(s.t t).vals.length=r)=>((h.set (i:=t * 26+1+r) (by omega) (.int .i64 v)).set (i:=t * 26+7) (by omega) (.int .i64 (r+1))).congr (by subst e;exact M.keep_c s t v hs ht hr)
 generalize (s.t t).vals.length=r at c7 cr hr fin
 generalize (s.t t).vals.getD r 0=x at cr
 have fin:=fin r rfl
 have hr':(r:Int) < 6:=by omega
 have ne:t * 26+7≠t * 26+1+r:=by omega
 clear h
 generalize t * 26=o at *
 go_enter Try.func93,Try.ntmps93
 go_wp2_with fail
 go_region
 all_goals go_wp2_with fail
 exact bodyPost_end (v:=.tuple #[]) (results_none Try.results93 _ _ _) rfl ⟨rfl,fin.drew,(((But.refl B w).setCell (Or.inr rfl) _).setCell (Or.inr rfl) _).drew⟩
theorem run_copy_pairs {P:Program} (w:World) (dT sT ty elem:TypeId) (b o dLen dCap:Nat) (a:Addr) (sLen sCap:Nat) (cs:List Value) (n:Nat)
  (hu:P.underlying dT=some (.slice elem)) (hs:(P.info? elem).map (·.size)=some 2) (hn:n=Nat.min sLen dLen) (hl2:cs.length=n * 2)
  (hsrc:∀ j v,cs[j]?=some v→w.cell? (a.add j)=some v) (hc:∀ j,j < cs.length→(w.cell? ⟨b,o+j,none⟩).isSome=true) (hf:∀ j,j < cs.length→w.frozen? ⟨b,o+j,none⟩=false) (h1:∀ v∈cs,v.oneCell'=true) :
  (Builtin.copy_ #[dT,sT] ty #[.slice (some ⟨b,o,none⟩) dLen dCap,.slice (some a) sLen sCap]).run P w=.ok (goInt n) (w.setCells b o cs):=by
 have hl:=run_loadCells_list (P:=P) w a cs hsrc
 have hst:=run_storeCells_cells (P:=P) b o cs 0 w (by simpa using hc) (by simpa using hf) h1
 cases hq:P.info? elem with
 | none=>simp [hq] at hs
 | some i =>
  have hi:i.size=2:=by simpa [hq] using hs
  rw [hl2] at hl
  simp [Builtin.copy_,run_underlying hu,Builtin.lenOf,Builtin.firstCells,sizeOf,typeInfo,hq,hi,← hn,hl,hst]
def M.shift (f:Nat→Value) (o:Nat):Nat→Value:=fun j=>if o≤j∧j < o+10 then f (j+2) else f j
theorem MSC.shift {w:World} {B:Nat} {f:Nat→Value} (h:MSC w B f) (o:Nat) (ho:o+12≤81):MSC (w.setCells B o ((List.range 10).map fun j=>f (o+2+j))) B (M.shift f o):=by
 refine ⟨fun j hj=>?_,fun j=>by rw [World.frozen?_setCells];exact h.fz j⟩
 unfold M.shift
 by_cases e:o≤j∧j < o+10
 ·rw [if_pos e]
  obtain ⟨i,rfl⟩:∃ i,j=o+i:=⟨j - o,by omega⟩
  rw [World.cell?_setCells_in B _ o w (fun i hi=>by rw [h.c _ (by simp at hi;omega)];rfl) i (by simp;omega)]
  simp only [List.getElem_map,List.getElem_range]
  rw [show o+2+i=o+i+2 from by omega]
 ·rw [if_neg e,World.cell?_setCells_out B _ o w _ (fun _ _=>by simp;omega)]
  exact h.c j hj
theorem But.setCells {rb:Nat} {a:World}:∀ (vs:List Value) (o:Nat) (w:World),But rb a w→But rb a (w.setCells rb o vs)
 | [],_,_,h=>h
 | v::vs,o,_,h=>But.setCells vs (o+1) _ (h.setCell (Or.inr rfl) v)
theorem M.tail_getD (q:Int × Int) (r:List (Int × Int)) (i:Nat):(q::r).getD (i+1) (0,0)=r.getD i (0,0):=rfl
theorem M.getD_past (r:List (Int × Int)) (i:Nat) (h:r.length≤i):r.getD i (0,0)=(0,0):=by
 rw [List.getD_eq_getElem?_getD,List.getElem?_eq_none h];rfl
theorem M.come_c (s:M.St) (t p:Nat) (q:Int × Int) (r:List (Int × Int)) (hs:s.th.length=3) (ha:s.at_.length=3) (ht:t < 3) (hq:(s.t t).pend=q::r) (hr:r.length < 6) (hp:q.1=p) (hp3:p < 3) :
  ∀ j,j < 81→(s.come t).c j=M.upd (M.upd (M.upd (M.upd (M.shift s.c (t * 26+8)) (t * 26+20) (.int .i64 r.length)) (t * 26+8+r.length * 2) (.int .i64 0)) (t * 26+8+r.length * 2+1) (.int .i64 0)) (78+p) (.int .i64 q.2) j:=by
 intro j hj
 have e1:s.come t=⟨(s.put t { s.t t with pend:=r }).th,s.at_.set p q.2⟩:=by simp [M.St.come,hq,hp,M.St.put]
 by_cases h78:78≤j
 ·obtain ⟨i,rfl⟩:∃ i,j=78+i:=⟨j - 78,by omega⟩
  rw [M.St.c_at,e1]
  unfold M.upd M.shift
  simp only [List.getD_eq_getElem?_getD]
  by_cases e:i=p
  ·subst e;rw [if_pos rfl,List.getElem?_set_self (by omega)];rfl
  ·rw [if_neg (by omega),if_neg (by omega),if_neg (by omega),if_neg (by omega),if_neg (by omega),List.getElem?_set_ne (fun h=>e h.symm),M.St.c_at,List.getD_eq_getElem?_getD]
 ·have e2:(s.come t).c j=(s.put t { s.t t with pend:=r }).c j:=by
   rw [e1];unfold M.St.c;rw [if_pos (by omega),if_pos (by omega)];rfl
  rw [e2]
  have e3:∀ f v,M.upd f (78+p) v j=f j:=fun f v=>by unfold M.upd;rw [if_neg (by omega)]
  rw [e3]
  refine M.put_c s t _ hs ht _ (fun j hj=>?_) (fun j hj hn=>?_) j hj
  ·unfold M.upd M.shift
   by_cases h20:j=20
   ·subst h20;rw [if_neg (by omega),if_neg (by omega),if_pos rfl,M.Th.c_coming]
   ·by_cases hw:8≤j∧j < 20
    ·rcases Nat.mod_two_eq_zero_or_one j with hm | hm
     ·obtain ⟨i,rfl⟩:∃ i,j=8+i * 2:=⟨(j - 8) / 2,by omega⟩
      rw [M.Th.c_place _ _ (by omega)]
      by_cases ei:i=r.length
      ·rw [if_neg (by omega),if_pos (by omega),M.getD_past _ _ (by simp;omega)]
      ·rw [if_neg (by omega),if_neg (by omega),if_neg (by omega)]
       by_cases h5:i < 5
       ·rw [if_pos (by omega),show t * 26+(8+i * 2)+2=t * 26+(8+(i+1) * 2) from by omega,M.St.c_th _ _ _ ht (by omega),M.Th.c_place _ _ (by omega),hq,M.tail_getD]
       ·rw [if_neg (by omega),M.St.c_th _ _ _ ht (by omega),M.Th.c_place _ _ (by omega),hq,M.getD_past r i (by omega),M.getD_past (q::r) i (by simp;omega)]
     ·obtain ⟨i,rfl⟩:∃ i,j=8+i * 2+1:=⟨(j - 8) / 2,by omega⟩
      rw [M.Th.c_pval _ _ (by omega)]
      by_cases ei:i=r.length
      ·rw [if_pos (by omega),M.getD_past _ _ (by simp;omega)]
      ·rw [if_neg (by omega),if_neg (by omega),if_neg (by omega)]
       by_cases h5:i < 5
       ·rw [if_pos (by omega),show t * 26+(8+i * 2+1)+2=t * 26+(8+(i+1) * 2+1) from by omega,M.St.c_th _ _ _ ht (by omega),M.Th.c_pval _ _ (by omega),hq,M.tail_getD]
       ·rw [if_neg (by omega),M.St.c_th _ _ _ ht (by omega),M.Th.c_pval _ _ (by omega),hq,M.getD_past r i (by omega),M.getD_past (q::r) i (by simp;omega)]
    ·rw [if_neg (by omega),if_neg (by omega),if_neg (by omega),if_neg (by omega),M.St.c_th _ _ _ ht hj]
     unfold M.Th.c
     by_cases h8:j < 8
     ·by_cases h0:j=0
      ·rw [if_pos h0,if_pos h0]
      ·rw [if_neg h0,if_neg h0]
       by_cases h7:j < 7
       ·rw [if_pos h7,if_pos h7]
       ·rw [if_neg h7,if_neg h7,if_pos (by omega),if_pos (by omega)]
     ·simp only [show ¬ j=0 from by omega,show ¬ j < 7 from by omega,show ¬ j=7 from by omega,show ¬ j < 20 from by omega,h20,if_false]
  ·unfold M.upd M.shift
   rw [if_neg (by omega),if_neg (by omega),if_neg (by omega),if_neg (by omega)]
theorem St_one (s:M.St) (i:Nat):(s.c i).oneCell'=true:=by
 unfold M.St.c M.Th.c
 repeat (first | rfl | split)
set_option maxHeartbeats 1000000 in
theorem come_any (B t:Nat) (s:M.St) (q:Int × Int) (r:List (Int × Int)) (w:World) (ht:t < 3) (hs:s.th.length=3) (ha:s.at_.length=3) (hq:(s.t t).pend=q::r) (hr:r.length < 6) (hp0:0≤q.1) (hp3:q.1 < 3) (h:MSC w B s.c) :
  Calls Try.prog 78 #[.pointer (some ⟨B,0,none⟩),.int .i64 t] w fun e w'=>e=.returned (.tuple #[])∧MSC w' B (s.come t).c∧But B w w':=by
 obtain ⟨p,hp⟩:∃ p:Nat,q.1=p:=⟨q.1.toNat,by omega⟩
 have HC:Hid (∀ j,j < 81→(s.come t).c j=_):=M.come_c s t p q r hs ha ht hq hr hp (by omega)
 have c8:=h.th ht (j:=8+0 * 2) (by omega)
 have c9:=h.th ht (j:=8+0 * 2+1) (by omega)
 have c20:=h.th ht (j:=20) (by omega)
 rw [M.Th.c_place (s.t t) 0 (by omega),hq] at c8
 rw [M.Th.c_pval (s.t t) 0 (by omega),hq] at c9
 rw [M.Th.c_coming,hq,List.length_cons] at c20
 change w.cell? ⟨B,t * 26+8,none⟩=some (.int .i64 q.1) at c8
 change w.cell? ⟨B,t * 26+9,none⟩=some (.int .i64 q.2) at c9
 rw [hp] at c8
 have hlt:=h.lt
 have hbx:=below1 w (.cells #[.int .i64 (p:Int),.int .i64 q.2] 91)
 have h1:=h.below hbx (Nat.le_refl _)
 have hb1:But B w (w.alloc (.cells #[.int .i64 (p:Int),.int .i64 q.2] 91)):=But.of hbx
 have k0:(w.alloc (.cells #[.int .i64 (p:Int),.int .i64 q.2] 91)).cell? ⟨w.heap.size,0,none⟩=some (.int .i64 p):=by simp
 have k1:(w.alloc (.cells #[.int .i64 (p:Int),.int .i64 q.2] 91)).cell? ⟨w.heap.size,1,none⟩=some (.int .i64 q.2):=by simp
 have i1:(t:Int) < 3:=by omega
 go_enter Try.func78,Try.ntmps78
 go_wp2_with fail
 generalize hW1:w.alloc (.cells #[.int .i64 (p:Int),.int .i64 q.2] 91)=W1 at *
 have hk:w.heap.size < W1.heap.size:=World.block_lt_of_cell? _ _ k0
 generalize w.heap.size=K at *
 clear hW1 c8 c9 hbx
 have hcp:∀ ty,(Builtin.copy_ #[134,134] ty #[.slice (some ⟨B,t * 26+8,none⟩) 6 6,.slice (some ⟨B,t * 26+8+2,none⟩) 5 5]).run Try.prog W1.drew=.ok (goInt 5) (W1.drew.setCells B (t * 26+8) ((List.range 10).map fun j=>s.c (t * 26+8+2+j))):=fun ty=>by
  refine run_copy_pairs W1.drew _ _ ty 91 B _ 6 6 ⟨B,t * 26+8+2,none⟩ 5 5 _ 5 Try.underlying134 (by kernel_rfl) (by decide) (by simp) (fun j v hv=>?_) (fun j hj=>?_) (fun j _=>h1.drew.fz _) (fun v hv=>?_)
  ·rw [Addr.add_mid]
   rw [List.getElem?_map] at hv
   rcases Nat.lt_or_ge j 10 with hj | hj
   ·rw [List.getElem?_range hj] at hv
    simp at hv
    rw [h1.drew.c _ (by omega),hv]
   ·rw [List.getElem?_eq_none (by simpa using hj)] at hv;simp at hv
  ·simp at hj
   rw [h1.drew.c _ (by omega)];rfl
  ·obtain ⟨j,_,rfl⟩:=List.mem_map.1 hv
   exact St_one s _
 have h2:=h1.drew.shift (t * 26+8) (by omega)
 have hb2:=But.setCells (rb:=B) ((List.range 10).map fun j=>s.c (t * 26+8+2+j)) (t * 26+8) W1.drew hb1.drew
 have k0':(W1.drew.setCells B (t * 26+8) ((List.range 10).map fun j=>s.c (t * 26+8+2+j))).cell? ⟨K,0,none⟩=some (.int .i64 p):=by
  rw [World.cell?_setCells_out];exact k0;intro e;simp at e;omega
 have k1':(W1.drew.setCells B (t * 26+8) ((List.range 10).map fun j=>s.c (t * 26+8+2+j))).cell? ⟨K,1,none⟩=some (.int .i64 q.2):=by
  rw [World.cell?_setCells_out];exact k1;intro e;simp at e;omega
 have d20:=h2.c (t * 26+20) (by omega)
 have d8:=h2.c (t * 26+8+r.length * 2) (by omega)
 have d9:=h2.c (t * 26+8+r.length * 2+1) (by omega)
 have dp:=h2.c (78+p) (by omega)
 have e20:M.shift s.c (t * 26+8) (t * 26+20)=.int .i64 ((r.length:Int)+1):=by
  unfold M.shift;rw [if_neg (by omega),M.St.c_th _ _ _ ht (by omega),M.Th.c_coming,hq];simp
 rw [e20] at d20
 generalize W1.drew.setCells B (t * 26+8) ((List.range 10).map fun j=>s.c (t * 26+8+2+j))=W2 at *
 generalize M.shift s.c (t * 26+8) (t * 26+8+r.length * 2)=y8 at d8
 generalize M.shift s.c (t * 26+8) (t * 26+8+r.length * 2+1)=y9 at d9
 generalize M.shift s.c (t * 26+8) (78+p)=yp at dp
 have fz2:=h2.fz
 have hK2:K < W2.heap.size:=World.block_lt_of_cell? _ _ k0'
 have fin:=((((h2.set (i:=t * 26+20) (by omega) (.int .i64 (r.length:Int))).set (i:=t * 26+8+r.length * 2) (by omega) (.int .i64 0)).set (i:=t * 26+8+r.length * 2+1) (by omega) (.int .i64 0)).set (i:=78+p) (by omega) (.int .i64 q.2)).congr HC.out
 have HF:Hid (MSC _ B (s.come t).c):=fin
 have hbf:=((((hb2.setCell (p:=⟨B,t * 26+20,none⟩) (Or.inr rfl) (.int .i64 (r.length:Int))).setCell (p:=⟨B,t * 26+8+r.length * 2,none⟩) (Or.inr rfl) (.int .i64 0)).setCell (p:=⟨B,t * 26+8+r.length * 2+1,none⟩) (Or.inr rfl) (.int .i64 0)).setCell (p:=⟨B,78+p,none⟩) (Or.inr rfl) (.int .i64 q.2))
 clear fin e20 HC h2 hb2 h1 hb1 k0 k1 c20
 generalize r.length=n at *
 have i2:(n:Int) < 6:=by omega
 have i3:(p:Int) < 3:=by omega
 have ne1:t * 26+20≠t * 26+8+n * 2:=by omega
 have ne2:t * 26+20≠t * 26+8+n * 2+1:=by omega
 have ne3:B≠K:=by omega
 have ne4:78+p≠t * 26+20:=by omega
 have ne5:78+p≠t * 26+8+n * 2:=by omega
 have ne6:78+p≠t * 26+8+n * 2+1:=by omega
 have ne4':=ne4.symm
 have ne5':=ne5.symm
 have ne6':=ne6.symm
 generalize t * 26=o at *
 go_region
 go_wp2_with fail
 go_region
 go_wp2_with fail
 go_region
 exact bodyPost_end (v:=.tuple #[]) (results_none Try.results78 _ _ _) rfl ⟨rfl,HF.out.drew.drew,hbf.drew.drew⟩
end
section
open Go.RowKit
namespace M
theorem find_snoc (p:Int) (l:List (Int × Int)) (q:Int × Int):find p (l++[q])=if q.1==p then some q.2 else find p l:=by
 induction l with
 | nil=>simp [find]
 | cons a l ih =>
  simp only [List.cons_append,find,ih]
  cases q.1==p<;>simp
theorem find_take {p:Int} {l:List (Int × Int)} {m:Nat} (h:m < l.length):find p (l.take (m+1))=if (l.getD m (0,0)).1==p then some (l.getD m (0,0)).2 else find p (l.take m):=by
 rw [List.take_succ_eq_append_getElem h,find_snoc]
 simp [h]
end M
set_option maxHeartbeats 400000 in
theorem valueFor_any (B t p:Nat) (s:M.St) (w:World) (ht:t < 3) (hp:p < 3) (hl:(s.t t).pend.length≤6) (h:MSC w B s.c) :
  Calls Try.prog 94 #[.pointer (some ⟨B,0,none⟩),.int .i64 t,.int .i64 p] w fun e w'=>e=.returned (.int .i64 (s.look t p))∧w'=w:=by
 have c20:=h.th ht (j:=20) (by omega)
 rw [M.Th.c_coming] at c20
 have cp:=h.c (78+p) (by omega)
 rw [M.St.c_at] at cp
 have i1:(t:Int) < 3:=by omega
 have i2:(p:Int) < 3:=by omega
 have HL:Hid (s.look t p=(M.find p (s.t t).pend).getD (s.at_.getD p 0)):=by show _=_;simp [M.St.look]
 have cw:∀ i,i < 6→w.cell? ⟨B,t * 26+8+i * 2,none⟩=some (.int .i64 ((s.t t).pend.getD i (0,0)).1)∧w.cell? ⟨B,t * 26+8+i * 2+1,none⟩=some (.int .i64 ((s.t t).pend.getD i (0,0)).2):=fun i hi=>by
  have a:=h.th ht (j:=8+i * 2) (by omega)
  have b:=h.th ht (j:=8+i * 2+1) (by omega)
  rw [M.Th.c_place _ _ hi] at a
  rw [M.Th.c_pval _ _ hi] at b
  exact ⟨by rw [Nat.add_assoc];exact a,by rw [Nat.add_assoc,Nat.add_assoc];exact b⟩
 generalize (s.t t).pend=l at *
 generalize s.at_.getD p 0=x at *
 clear h
 go_enter Try.func94,Try.ntmps94
 go_wp2_with fail
 go_loopw [8] (fun s8 wr=>∃ m:Nat,s8=.int .i64 ((m:Int) - 1)∧m≤l.length∧Hid (M.find p l=M.find p (l.take m))∧wr=w) (fun s8 _=>(intOf s8+1).toNat)
 case atStart=>exact ⟨l.length,rfl,Nat.le_refl _,by show _=_;rw [List.take_of_length_le (Nat.le_refl _)],rfl⟩
 case round =>
  obtain ⟨m,rfl,hm,HF,rfl⟩:=hrel
  rcases m with _ | m
  ·go_wp2_with fail
   go_ret
   exact ⟨by rw [HL.out,HF.out];rfl,rfl⟩
  ·obtain ⟨a,b⟩:=cw m (by omega)
   have HT:=M.find_take (p:=p) (l:=l) (m:=m) (by omega)
   have HT:Hid (M.find p (l.take (m+1))=if (l.getD m (0,0)).1==(p:Int) then some (l.getD m (0,0)).2 else M.find p (l.take m)):=HT
   generalize l.getD m (0,0)=q at *
   have e1:((m+1:Nat):Int) - 1=m:=by omega
   have i3:(m:Int) < 6:=by omega
   clear cw
   rw [e1]
   by_cases hq:q.1=p
   ·rw [hq] at a
    go_wp2_with fail
    go_ret
    exact ⟨by rw [HL.out,HF.out,HT.out,hq];simp,rfl⟩
   ·have hq':(q.1==(p:Int))=false:=by simpa using hq
    go_wp2_with fail
    exact ⟨⟨m,by simp,by omega,by show _=_;rw [HF.out,HT.out,hq'];rfl,trivial⟩,by simp [intOf]⟩
def M.outF (f:Nat→Value) (t n:Nat):Nat→Value:=fun j=>if j < n * 26∧j % 26=23+t then .bool false else f j
theorem M.outF_step (f:Nat→Value) (t n:Nat) (ht:t < 3):∀ j,j < 81→M.outF f t (n+1) j=M.upd (M.outF f t n) (n * 26+23+t) (.bool false) j:=by
 intro j _
 show M.outF f t (n+1) j=if j=n * 26+23+t then .bool false else M.outF f t n j
 by_cases e:j=n * 26+23+t
 ·rw [if_pos e,M.outF,if_pos (by omega)]
 ·rw [if_neg e]
  by_cases h2:j < n * 26∧j % 26=23+t
  ·rw [M.outF,M.outF,if_pos h2,if_pos (by omega)]
  ·rw [M.outF,M.outF,if_neg h2,if_neg (by omega)]
theorem M.noted_set (l:List Bool) (t i:Nat) (h:t < l.length):(l.set t false).getD i false=if i=t then false else l.getD i false:=by
 simp only [List.getD_eq_getElem?_getD]
 by_cases e:i=t
 ·subst e;simp [h]
 ·rw [if_neg e,List.getElem?_set_ne (fun h=>e h.symm)]
theorem M.map_t (s:M.St) (g:M.Th→M.Th) (a:List Int) (i:Nat) (h:i < s.th.length):(⟨s.th.map g,a⟩:M.St).t i=g (s.t i):=by
 simp [M.St.t,h]
theorem M.goOut_t (s:M.St) (t i:Nat) (hs:s.th.length=3) (hi:i < 3):(s.goOut t).t i=((s.put t { s.t t with inn:=false }).t i).free t:=by
 exact M.map_t (s.put t { s.t t with inn:=false }) _ s.at_ i (by simp [M.St.put,hs];omega)
theorem M.goOut_c (s:M.St) (t:Nat) (hs:s.th.length=3) (ht:t < 3) (hn:∀ i,i < 3→(s.t i).noted.length=3) :
  ∀ j,j < 81→(s.goOut t).c j=M.outF (M.upd s.c (t * 26+21) (.bool false)) t 3 j:=by
 have hput:∀ j,j < 81→(s.put t { s.t t with inn:=false }).c j=M.upd s.c (t * 26+21) (.bool false) j:=by
  refine M.put_c s t _ hs ht _ (fun j hj=>?_) (fun j hj hn=>?_)
  ·unfold M.upd
   by_cases e:j=21
   ·subst e;rw [if_pos rfl];rfl
   ·rw [if_neg (by omega),M.St.c_th _ _ _ ht hj]
    unfold M.Th.c
    simp only [e,if_false]
  ·unfold M.upd
   rw [if_neg (by omega)]
 intro j hj
 unfold M.outF
 by_cases h78:j < 78
 ·obtain ⟨i,k,rfl,hi,hk⟩:∃ i k,j=i * 26+k∧i < 3∧k < 26:=⟨j / 26,j % 26,by omega,by omega,by omega⟩
  rw [M.St.c_th _ _ _ hi hk,M.goOut_t s t i hs hi]
  have hp:=hput (i * 26+k) hj
  rw [M.St.c_th _ _ _ hi hk] at hp
  have hnl:((s.put t { s.t t with inn:=false }).t i).noted.length=3:=by
   rw [M.t_put _ _ _ _ (by omega)]
   by_cases e:i=t
   ·rw [if_pos e];exact hn t ht
   ·rw [if_neg e];exact hn i hi
  generalize (s.put t { s.t t with inn:=false }).t i=x at hp hnl
  by_cases h23:k < 23
  ·rw [if_neg (by omega),← hp]
   have:∀ k,k < 23→(x.free t).c k=x.c k:=fun k hk=>by
    unfold M.Th.c M.Th.free
    by_cases h22:k=22
    ·subst h22;rfl
    ·by_cases h21:k=21
     ·subst h21;rfl
     ·by_cases h20:k=20
      ·subst h20;rfl
      ·have:k < 20:=by omega
       simp only [this,if_true]
   exact this k h23
  ·obtain ⟨m,rfl⟩:∃ m,k=23+m:=⟨k - 23,by omega⟩
   rw [M.Th.c_noted] at hp ⊢
   rw [show (x.free t).noted=x.noted.set t false from rfl,M.noted_set _ _ _ (by omega)]
   by_cases e:m=t
   ·rw [if_pos e,if_pos (by omega)]
   ·rw [if_neg e,if_neg (by omega),hp]
 ·rw [if_neg (by omega),← hput j hj]
  unfold M.St.c
  rw [if_neg h78,if_neg h78];rfl
set_option maxHeartbeats 400000 in
theorem goOut_any (B t:Nat) (s:M.St) (w:World) (ht:t < 3) (hs:s.th.length=3) (hn:∀ i,i < 3→(s.t i).noted.length=3) (h:MSC w B s.c) :
  Calls Try.prog 97 #[.pointer (some ⟨B,0,none⟩),.int .i64 t] w fun e w'=>e=.returned (.tuple #[])∧MSC w' B (s.goOut t).c∧But B w w':=by
 have HC:Hid (∀ j,j < 81→(s.goOut t).c j=M.outF (M.upd s.c (t * 26+21) (.bool false)) t 3 j):=M.goOut_c s t hs ht hn
 have c21:=h.c (t * 26+21) (by omega)
 generalize s.c (t * 26+21)=y at c21
 have fz:=h.fz
 have i1:(t:Int) < 3:=by omega
 have h0:=(h.set (i:=t * 26+21) (by omega) (.bool false)).congr (g:=M.outF (M.upd s.c (t * 26+21) (.bool false)) t 0) (fun j _=>by unfold M.outF;rw [if_neg (by omega)])
 have hb0:=(But.refl B w).setCell (p:=⟨B,t * 26+21,none⟩) (Or.inr rfl) (.bool false)
 go_enter Try.func97,Try.ntmps97
 go_wp2_with fail
 generalize w.setCell ⟨B,t * 26+21,none⟩ (.bool false)=W at *
 clear c21 h fz
 go_loopw [11] (fun s11 wr=>∃ n:Nat,s11=.int .i64 n∧n≤3∧MSC wr B (M.outF (M.upd s.c (t * 26+21) (.bool false)) t n)∧But B w wr) (fun s11 _=>3 - (intOf s11).toNat)
 case atStart=>exact ⟨0,rfl,by omega,h0,hb0⟩
 case round =>
  obtain ⟨n,rfl,hn3,hm,hb⟩:=hrel
  clear h0 hb0
  by_cases hlt:n < 3
  ·have i2:(n:Int) < 3:=by omega
   have cn:=hm.c (n * 26+23+t) (by omega)
   have hm':=(hm.set (i:=n * 26+23+t) (by omega) (.bool false)).congr (M.outF_step _ t n ht)
   have hb':=hb.setCell (p:=⟨B,n * 26+23+t,none⟩) (Or.inr rfl) (.bool false)
   generalize M.outF (M.upd s.c (t * 26+21) (.bool false)) t n (n * 26+23+t)=y at cn
   have fz:=hm.fz
   go_wp2_with fail
   exact ⟨⟨n+1,by go_num,by omega,hm',hb'⟩,by simp [intOf];omega⟩
  ·obtain rfl:n=3:=by omega
   go_wp2_with fail
   exact bodyPost_end (v:=.tuple #[]) (results_none Try.results97 _ _ _) rfl ⟨rfl,hm.congr HC.out,hb⟩
end
section
open Go.RowKit
def M.cells (f:Nat→Value) (o n:Nat):List Value:=(List.range n).map fun j=>f (o+j)
theorem M.cells_len (f:Nat→Value) (o n:Nat):(M.cells f o n).length=n:=by simp [M.cells]
theorem M.cells_get (f:Nat→Value) (o n j:Nat) (h:j < n):(M.cells f o n)[j]?=some (f (o+j)):=by simp [M.cells,h]
theorem M.cells_inv {f:Nat→Value} {o n j:Nat} {v:Value} (h:(M.cells f o n)[j]?=some v):j < n∧v=f (o+j):=by
 have hj:j < n:=by
  rcases Nat.lt_or_ge j n with hj | hj
  ·exact hj
  ·rw [List.getElem?_eq_none (by rw [M.cells_len];exact hj)] at h;cases h
 rw [M.cells_get _ _ _ _ hj] at h
 exact ⟨hj,(Option.some.inj h).symm⟩
theorem MSC.range {w:World} {B:Nat} {f:Nat→Value} (h:MSC w B f) (o n:Nat) (hn:o+n≤81):w.rangeAt B o (M.cells f o n):=fun j v hv=>by
 obtain ⟨hj,rfl⟩:=M.cells_inv hv
 exact h.c _ (by omega)
def M.begF (s:M.St) (t n:Nat):Nat→Value:=fun j=>if t * 26+23≤j∧j < t * 26+23+n then .bool (s.t (j - (t * 26+23))).inn else M.upd s.c (t * 26+22) (.bool true) j
theorem M.begF_zero (s:M.St) (t:Nat):∀ j,j < 81→M.begF s t 0 j=M.upd s.c (t * 26+22) (.bool true) j:=fun j _=>by unfold M.begF;rw [if_neg (by omega)]
theorem M.begF_step (s:M.St) (t n:Nat):∀ j,j < 81→M.begF s t (n+1) j=M.upd (M.begF s t n) (t * 26+23+n) (.bool (s.t n).inn) j:=by
 intro j _
 show M.begF s t (n+1) j=if j=t * 26+23+n then .bool (s.t n).inn else M.begF s t n j
 by_cases e:j=t * 26+23+n
 ·rw [if_pos e,M.begF,if_pos (by omega),show j - (t * 26+23)=n from by omega]
 ·rw [if_neg e]
  by_cases h2:t * 26+23≤j∧j < t * 26+23+n
  ·rw [M.begF,M.begF,if_pos h2,if_pos (by omega)]
  ·rw [M.begF,M.begF,if_neg h2,if_neg (by omega)]
theorem M.beg_c (s:M.St) (t:Nat) (hs:s.th.length=3) (ht:t < 3):∀ j,j < 81→(s.begin_ t).c j=M.begF s t 3 j:=by
 refine M.put_c s t _ hs ht _ (fun j hj=>?_) (fun j hj hn=>?_)
 ·unfold M.begF
  by_cases e:23≤j
  ·obtain ⟨i,rfl⟩:∃ i,j=23+i:=⟨j - 23,by omega⟩
   have e3:s.t i=s.th[i]'(by omega):=M.t_get _ _ (by omega)
   rw [if_pos (by omega),M.Th.c_noted,show t * 26+(23+i) - (t * 26+23)=i from by omega,e3]
   simp [hs,show i < 3 from by omega]
  ·rw [if_neg (by omega)]
   unfold M.upd
   by_cases e2:j=22
   ·subst e2;rw [if_pos rfl];rfl
   ·rw [if_neg (by omega),M.St.c_th _ _ _ ht hj]
    unfold M.Th.c
    by_cases h20:j < 20
    ·simp only [h20,if_true]
    ·have h0:¬ j=0:=by omega
     have h7:¬ j < 7:=by omega
     have h7':¬ j=7:=by omega
     simp only [h0,h7,h7',h20,if_false]
     by_cases h20':j=20
     ·rw [if_pos h20',if_pos h20']
     ·rw [if_neg h20',if_neg h20',if_pos (by omega),if_pos (by omega)]
 ·unfold M.begF M.upd
  rw [if_neg (by omega),if_neg (by omega)]
theorem Try.zeroTh (w:World):(zeroValue 95).run Try.prog w=.ok (.agg #[.int .i64 0,.int .i64 0,.int .i64 0,.int .i64 0,.int .i64 0,.int .i64 0,.int .i64 0,.int .i64 0,.int .i64 0,.int .i64 0,.int .i64 0,.int .i64 0,.int .i64 0,.int .i64 0,.int .i64 0,.int .i64 0,.int .i64 0,.int .i64 0,.int .i64 0,.int .i64 0,.int .i64 0,.bool false,.bool false,.bool false,.bool false,.bool false]) w:=by kernel_rfl
theorem Try.zeroTh_any:∃ z:Array Value,z.size=26∧∀ w:World,(zeroValue 95).run Try.prog w=.ok (.agg z) w:=⟨_,rfl,Try.zeroTh⟩
set_option maxHeartbeats 1000000 in
theorem beginWait_any (B t:Nat) (s:M.St) (w:World) (ht:t < 3) (hs:s.th.length=3) (h:MSC w B s.c) :
  Calls Try.prog 98 #[.pointer (some ⟨B,0,none⟩),.int .i64 t] w fun e w'=>e=.returned (.tuple #[])∧MSC w' B (s.begin_ t).c∧But B w w':=by
 have c22:=h.c (t * 26+22) (by omega)
 generalize s.c (t * 26+22)=y at c22
 have fz:=h.fz
 have i1:(t:Int) < 3:=by omega
 have h0:=h.set (i:=t * 26+22) (by omega) (.bool true)
 have hb0:=(But.refl B w).setCell (p:=⟨B,t * 26+22,none⟩) (Or.inr rfl) (.bool true)
 have hr:=h0.range 0 78 (by omega)
 have hl:=M.cells_len (M.upd s.c (t * 26+22) (.bool true)) 0 78
 have hcs:∀ n,n < 3→∃ cs':Array Value,(M.cells (M.upd s.c (t * 26+22) (.bool true)) 0 78).toArray.extract (n * 26) (n * 26+26)=cs'∧cs'.size=26∧cs'.all (·.oneCell')=true∧cs'[21]?=some (.bool (s.t n).inn):=fun n hn=>by
  refine ⟨_,rfl,by simp [hl];omega,?_,?_⟩
  ·rw [Array.all_eq_true_iff_forall_mem]
   intro v hv
   have hv':v∈M.cells (M.upd s.c (t * 26+22) (.bool true)) 0 78:=by
    obtain ⟨j,hj,rfl⟩:=Array.getElem_of_mem hv
    rw [Array.getElem_extract,List.getElem_toArray]
    exact List.getElem_mem _
   obtain ⟨j,_,rfl⟩:=List.mem_map.1 hv'
   show ((M.upd s.c (t * 26+22) (.bool true)) (0+j)).oneCell'=true
   unfold M.upd
   split
   ·rfl
   ·exact St_one s _
  ·rw [Array.getElem?_extract,if_pos (by simp [hl];omega),List.getElem?_toArray,M.cells_get _ _ _ _ (by omega)]
   unfold M.upd
   rw [if_neg (by omega),Nat.zero_add,M.St.c_th _ _ _ hn (by omega),M.Th.c_in]
 generalize M.cells (M.upd s.c (t * 26+22) (.bool true)) 0 78=cs at hr hl hcs
 have hi:(Try.prog.info? 96).map (·.size)=some cs.length:=by rw [hl];kernel_rfl
 have hi2:(Try.prog.info? 95).map (·.size)=some 26:=by kernel_rfl
 obtain ⟨z,hz,hzv⟩:=Try.zeroTh_any
 go_enter Try.func98,Try.ntmps98
 go_wp2_with (refine wpList_load_mid rfl 96 (.tmp 14) rfl B 0 rfl cs _ hr Try.underlying96 rfl hi ?_)
 generalize hW:w.setCell ⟨B,t * 26+22,none⟩ (.bool true)=W at *
 clear c22 h fz hW
 go_loopw [16] (fun s16 wr=>∃ n:Nat,s16=.int .i64 n∧n≤3∧MSC wr B (M.begF s t n)∧But B w wr) (fun s16 _=>3 - (intOf s16).toNat)
 case atStart=>exact ⟨0,rfl,by omega,h0.congr (M.begF_zero s t),hb0⟩
 case round =>
  obtain ⟨n,rfl,hn3,hm,hb⟩:=hrel
  clear hr h0 hb0
  by_cases hlt:n < 3
  ·have i2:(n:Int) < 3:=by omega
   obtain ⟨cs',hx,hx26,hx1,hx21⟩:=hcs n hlt
   go_wp2_with (first | (refine wpList_index_row rfl 96 (.tmp 15) (.tmp 16) rfl cs.toArray n 3 26 95 _ rfl rfl Try.underlying96 hlt Try.underlying95 rfl hi2 ?_;rw [hx]) | (refine wpList_alloc_row rfl 95 rfl z hzv ?_) | (refine wpList_store_new rfl 95 (.tmp 5) (.tmp 19) rfl z cs' rfl rfl (by rw [hx26];exact hi2) (by rw [hz,hx26]) hx1 ?_))
   go_frame
   have hbx:=below1 wr (.cells cs' 95)
   have hm1:=hm.below hbx (Nat.le_refl _)
   have hb1:=hb.trans (But.of (rb:=B) hbx)
   have k21:(wr.alloc (.cells cs' 95)).cell? ⟨wr.heap.size,21,none⟩=some (.bool (s.t n).inn):=by
    rw [cell_of_row _ _ _ _ _ _ (heap_alloc_new wr _)];exact hx21
   have hKB:B≠wr.heap.size:=Nat.ne_of_lt hm.lt
   generalize wr.alloc (.cells cs' 95)=W2 at *
   generalize wr.heap.size=K at *
   have cn:=hm1.c (t * 26+23+n) (by omega)
   have hm':=(hm1.set (i:=t * 26+23+n) (by omega) (.bool (s.t n).inn)).congr (M.begF_step s t n)
   have hb':=hb1.setCell (p:=⟨B,t * 26+23+n,none⟩) (Or.inr rfl) (.bool (s.t n).inn)
   generalize M.begF s t n (t * 26+23+n)=y at cn
   generalize (s.t n).inn=bb at *
   have fz:=hm1.fz
   clear hm hb hcs hbx hm1 hb1 hi hl hx21 hx hx1 hx26 hz hzv
   go_region
   go_wp2_with fail
   exact ⟨⟨n+1,by go_num,by omega,hm'.drew,hb'.drew⟩,by simp [intOf];omega⟩
  ·obtain rfl:n=3:=by omega
   go_wp2_with fail
   exact bodyPost_end (v:=.tuple #[]) (results_none Try.results98 _ _ _) rfl ⟨rfl,hm.congr (M.beg_c s t hs ht),hb⟩
end
section
open Go.RowKit
namespace M
theorem put_one (s:St) (t f:Nat) (x:Th) (v:Value) (hs:s.th.length=3) (ht:t < 3) (hf:f < 26) (h:∀ j,j < 26→x.c j=if j=f then v else (s.t t).c j):∀ j,j < 81→(s.put t x).c j=upd s.c (t * 26+f) v j:=by
 refine put_c s t x hs ht _ (fun j hj=>?_) (fun j hj hn=>?_)
 ·rw [h j hj]
  unfold upd
  by_cases e:j=f
  ·rw [if_pos e,if_pos (by omega)]
  ·rw [if_neg e,if_neg (by omega),St.c_th _ _ _ ht hj]
 ·unfold upd
  rw [if_neg (by omega)]
theorem bump_c (s:St) (t:Nat) (hs:s.th.length=3) (ht:t < 3):∀ j,j < 81→(s.bump t).c j=upd s.c (t * 26) (.int .i64 ((s.t t).next+1)) j:=by
 refine put_one s t 0 _ _ hs ht (by omega) (fun j hj=>?_)
 unfold Th.c
 by_cases e:j=0
 ·rw [if_pos e,if_pos e];simp
 ·simp only [e,if_false]
theorem goIn_c (s:St) (t:Nat) (hs:s.th.length=3) (ht:t < 3):∀ j,j < 81→(s.goIn t).c j=upd s.c (t * 26+21) (.bool true) j:=by
 refine put_one s t 21 _ _ hs ht (by omega) (fun j hj=>?_)
 unfold Th.c
 by_cases e:j=21
 ·subst e;rfl
 ·simp only [e,if_false]
theorem stop_c (s:St) (t:Nat) (hs:s.th.length=3) (ht:t < 3):∀ j,j < 81→(s.stop t).c j=upd s.c (t * 26+22) (.bool false) j:=by
 refine put_one s t 22 _ _ hs ht (by omega) (fun j hj=>?_)
 unfold Th.c
 by_cases e:j=22
 ·subst e;rfl
 ·simp only [e,if_false]
theorem pair_snoc (l:List (Int × Int)) (q:Int × Int) (i:Nat):(l++[q]).getD i (0,0)=if i=l.length then q else l.getD i (0,0):=by
 simp only [List.getD_eq_getElem?_getD]
 by_cases e:i < l.length
 ·rw [List.getElem?_append_left e,if_neg (by omega)]
 ·by_cases e2:i=l.length
  ·subst e2;simp
  ·rw [if_neg e2,List.getElem?_eq_none (by simp;omega),List.getElem?_eq_none (by omega)]
theorem later_c (s:St) (t:Nat) (p v:Int) (hs:s.th.length=3) (ht:t < 3) (hn:(s.t t).pend.length < 6) :
  ∀ j,j < 81→(s.later t p v).c j=upd (upd (upd s.c (t * 26+8+(s.t t).pend.length * 2) (.int .i64 p)) (t * 26+8+(s.t t).pend.length * 2+1) (.int .i64 v)) (t * 26+20) (.int .i64 ((s.t t).pend.length+1)) j:=by
 refine put_c s t _ hs ht _ (fun j hj=>?_) (fun j hj hn=>?_)
 ·unfold upd
  by_cases h20:j=20
  ·subst h20;rw [if_pos rfl,Th.c_coming];simp
  ·by_cases hw:8≤j∧j < 20
   ·rcases Nat.mod_two_eq_zero_or_one j with hm | hm
    ·obtain ⟨i,rfl⟩:∃ i,j=8+i * 2:=⟨(j - 8) / 2,by omega⟩
     rw [Th.c_place _ _ (by omega),pair_snoc]
     by_cases ei:i=(s.t t).pend.length
     ·rw [if_pos ei,if_neg (by omega),if_neg (by omega),if_pos (by omega)]
     ·rw [if_neg ei,if_neg (by omega),if_neg (by omega),if_neg (by omega),St.c_th _ _ _ ht (by omega),Th.c_place _ _ (by omega)]
    ·obtain ⟨i,rfl⟩:∃ i,j=8+i * 2+1:=⟨(j - 8) / 2,by omega⟩
     rw [Th.c_pval _ _ (by omega),pair_snoc]
     by_cases ei:i=(s.t t).pend.length
     ·rw [if_pos ei,if_neg (by omega),if_pos (by omega)]
     ·rw [if_neg ei,if_neg (by omega),if_neg (by omega),if_neg (by omega),St.c_th _ _ _ ht (by omega),Th.c_pval _ _ (by omega)]
   ·rw [if_neg (by omega),if_neg (by omega),if_neg (by omega),St.c_th _ _ _ ht hj]
    unfold Th.c
    by_cases h8:j < 8
    ·by_cases h0:j=0
     ·rw [if_pos h0,if_pos h0]
     ·rw [if_neg h0,if_neg h0]
      by_cases h7:j < 7
      ·rw [if_pos h7,if_pos h7]
      ·rw [if_neg h7,if_neg h7,if_pos (by omega),if_pos (by omega)]
    ·simp only [show ¬ j=0 from by omega,show ¬ j < 7 from by omega,show ¬ j=7 from by omega,show ¬ j < 20 from by omega,h20,if_false]
 ·unfold upd
  rw [if_neg (by omega),if_neg (by omega),if_neg (by omega)]
end M
theorem has_any (a:Option Addr) (n c:Nat) (late:Bool) (k:Int) (w:World) :
  Calls Try.prog 75 #[.agg #[.slice a n c,.bool late],.int .i64 k] w fun e w'=>e=.returned (.bool (decide (0≤k∧k < n)))∧w'=w.alloc (.cells #[.slice a n c,.bool late] 65):=by
 by_cases h0:0≤k
 ·go_enter Try.func75,Try.ntmps75
  go_wp2
  go_ret
  exact ⟨ret_bool (by simp [h0]),rfl⟩
 ·have h0':decide (0≤k)=false:=by simpa using h0
  go_enter Try.func75,Try.ntmps75
  go_wp2
  go_ret
  exact ⟨ret_bool (by simp),rfl⟩
theorem M.first_of {l:List (Int × Int)} {p v:Int} (hl:∀ q∈l,0≤q.1∧q.1 < 3) (hp0:0≤p) (hp3:p < 3):∃ q r,l++[(p,v)]=q::r∧0≤q.1∧q.1 < 3∧r.length=l.length:=by
 cases l with
 | nil=>exact ⟨(p,v),[],rfl,hp0,hp3,rfl⟩
 | cons a l=>exact ⟨a,l++[(p,v)],rfl,(hl a (by simp)).1,(hl a (by simp)).2,by simp⟩
set_option maxHeartbeats 1000000 in
theorem write_any (a:Option Addr) (m c:Nat) (late:Bool) (B t:Nat) (s:M.St) (p v:Int) (w:World) (ht:t < 3) (hs:s.th.length=3) (ha:s.at_.length=3) (hn:(s.t t).pend.length < 6) (hpr:∀ q∈(s.t t).pend,0≤q.1∧q.1 < 3) (hp0:0≤p) (hp3:p < 3) (h:MSC w B s.c) :
  Calls Try.prog 96 #[.agg #[.slice a m c,.bool late],.pointer (some ⟨B,0,none⟩),.int .i64 t,.agg #[.int .i64 p,.int .i64 v]] w fun e w'=>e=.returned (.tuple #[])∧MSC w' B (s.write late t p v).c∧But B w w':=by
 have hbx:=below2 w (.cells #[.slice a m c,.bool late] 65) (.cells #[.int .i64 p,.int .i64 v] 91)
 have h1:=h.below hbx (Nat.le_refl _)
 have hb1:=But.of (rb:=B) hbx
 have hlt:=h.lt
 have k0:((w.alloc (.cells #[.slice a m c,.bool late] 65)).alloc (.cells #[.int .i64 p,.int .i64 v] 91)).cell? ⟨w.heap.size,1,none⟩=some (.bool late):=by simp
 have k1:((w.alloc (.cells #[.slice a m c,.bool late] 65)).alloc (.cells #[.int .i64 p,.int .i64 v] 91)).cell? ⟨w.heap.size+1,0,none⟩=some (.int .i64 p):=by simp
 have k2:((w.alloc (.cells #[.slice a m c,.bool late] 65)).alloc (.cells #[.int .i64 p,.int .i64 v] 91)).cell? ⟨w.heap.size+1,1,none⟩=some (.int .i64 v):=by simp
 have i1:(t:Int) < 3:=by omega
 go_enter Try.func96,Try.ntmps96
 go_wp2_with fail
 generalize (w.alloc (.cells #[.slice a m c,.bool late] 65)).alloc (.cells #[.int .i64 p,.int .i64 v] 91)=W1 at *
 generalize w.heap.size=K at *
 have c20:=h1.th ht (j:=20) (by omega)
 rw [M.Th.c_coming] at c20
 have d8:=h1.c (t * 26+8+(s.t t).pend.length * 2) (by omega)
 have d9:=h1.c (t * 26+8+(s.t t).pend.length * 2+1) (by omega)
 have fz:=h1.fz
 have h2:=(((h1.set (i:=t * 26+8+(s.t t).pend.length * 2) (by omega) (.int .i64 p)).set (i:=t * 26+8+(s.t t).pend.length * 2+1) (by omega) (.int .i64 v)).set (i:=t * 26+20) (by omega) (.int .i64 ((s.t t).pend.length+1))).congr (M.later_c s t p v hs ht hn)
 have hb2:=((hb1.setCell (p:=⟨B,t * 26+8+(s.t t).pend.length * 2,none⟩) (Or.inr rfl) (.int .i64 p)).setCell (p:=⟨B,t * 26+8+(s.t t).pend.length * 2+1,none⟩) (Or.inr rfl) (.int .i64 v)).setCell (p:=⟨B,t * 26+20,none⟩) (Or.inr rfl) (.int .i64 ((s.t t).pend.length+1))
 have htl:(s.later t p v).t t={ s.t t with pend:=(s.t t).pend++[(p,v)] }:=by unfold M.St.later;rw [M.t_put _ _ _ _ (by omega),if_pos rfl]
 obtain ⟨q,r,hqr,hq0,hq3,hrl⟩:=M.first_of (v:=v) hpr hp0 hp3
 have C:=fun W (hW:MSC W B (s.later t p v).c)=>come_any B t (s.later t p v) q r W ht (by rw [M.St.later,M.put_len];exact hs) ha (by rw [htl];exact hqr) (by omega) hq0 hq3 hW
 have HW:Hid (s.write late t p v=if late then s.later t p v else (s.later t p v).come t):=by show _=_;rfl
 generalize s.later t p v=s2 at *
 generalize (s.t t).pend.length=n at *
 generalize s.c (t * 26+8+n * 2)=y8 at d8
 generalize s.c (t * 26+8+n * 2+1)=y9 at d9
 have i2:(n:Int) < 6:=by omega
 have ne1:t * 26+20≠t * 26+8+n * 2:=by omega
 have ne2:t * 26+20≠t * 26+8+n * 2+1:=by omega
 have ne3:B≠K:=by omega
 have ne4:B≠K+1:=by omega
 have ne3':=ne3.symm
 have ne4':=ne4.symm
 clear hqr hpr htl hbx h1 hb1
 generalize t * 26=o at *
 cases late
 ·go_region
  go_wp2_with fail
  refine (C _ h2.drew).mono ?_
  rintro e w3 ⟨rfl,hm3,hb3⟩
  go_wp2_with fail
  exact bodyPost_end (v:=.tuple #[]) (results_none Try.results96 _ _ _) rfl ⟨rfl,by rw [HW.out];exact hm3,hb2.drew.trans hb3⟩
 ·go_region
  go_wp2_with fail
  exact bodyPost_end (v:=.tuple #[]) (results_none Try.results96 _ _ _) rfl ⟨rfl,by rw [HW.out];exact h2.drew,hb2.drew⟩
end
end Go.Proofs.Ytnddmlgnngdaoaa
