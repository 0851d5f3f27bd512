/- The plain mathematics of programs: what impl's and spec's tests of chapter 1 compute, and that they are the same. No condition. And what goes with it: Math, Base, Leaf, ApRow. -/
import Derived.Test.YtjjkicffhpcngaaGreatRows
import Derived.WalkKit
import Derived.WalkSpells
import Derived.WalkLawsBesides
import Derived.Laws.AppendOwnNone
import Derived.Laws.AppendOwn
namespace Go.Proofs.YtjjkicffhpcngaaGreat
namespace M
structure D where
 k:Int
 p:Int
 v:Int
def reads (k:Int):Bool:=k==2||k==5
def stores (k:Int):Bool:=k==1||k==6
def writes (k:Int):Bool:=stores k||k==3
def uses (k:Int):Bool:=reads k||writes k
def wordOk (k:Int):Bool:=decide (1≤k)&&decide (k≤9)
def placeOk (k p:Int):Bool:=if uses k then decide (0≤p)&&decide (p < 3) else p==0
def valOk (k v:Int):Bool:=if stores k then decide (1≤v)&&decide (v≤3) else v==0
def doOk (d:D):Bool:=wordOk d.k&&placeOk d.k d.p&&valOk d.k d.v
def rng (a b n:Int):Bool:=decide (a≤n)&&decide (n≤b)
theorem doOk_eq (k p v:Int):doOk ⟨k,p,v⟩=(rng 1 9 k&&(if uses k then rng 0 2 p else p==0)&&(if stores k then rng 1 3 v else v==0)):=by
 have e:decide (p < 3)=decide (p≤2):=by rw [decide_eq_decide];omega
 simp only [doOk,wordOk,placeOk,valOk,rng,e]
def form (l:List D):Bool:=l.all doOk
def copies:Bool→List D→Bool
 | _,[]=>true
 | r,d::l=>if d.k==3&&!r then false else copies (r||reads d.k) l
def readers:Bool→List D→Bool
 | i,[]=>!i
 | i,d::l=>if d.k==7 then (if i then false else readers true l) else if d.k==8 then (if i then readers false l else false) else if d.k==9 then (if i then false else readers i l) else readers i l
def thread (l:List D):Bool:=decide (l.length≤7)&&form l&&copies false l&&readers false l
def bad (r i:Bool) (d:D):Bool:=!doOk d||d.k==3&&!r||d.k==7&&i||d.k==8&&!i||d.k==9&&i
def inAfter (i:Bool) (k:Int):Bool:=if k==7 then true else if k==8 then false else i
def pass:Bool→Bool→List D→Bool
 | _,i,[]=>!i
 | r,i,d::l=>if bad r i d then false else pass (r||reads d.k) (inAfter i d.k) l
def sthread (l:List D):Bool:=decide (l.length≤7)&&pass false false l
theorem pass_eq (r i:Bool) (l:List D):pass r i l=(form l&&copies r l&&readers i l):=by
 induction l generalizing r i with
 | nil=>simp [pass,form,copies,readers]
 | cons d l ih =>
  simp only [pass,form,copies,readers,List.all_cons] at *
  by_cases hd:doOk d=true
  ·by_cases h3:(d.k==3)=true
   ·have hk:d.k=3:=by simpa using h3
    simp only [bad,inAfter,hd,hk]
    cases r<;>cases i<;>simp [reads,ih]
   ·have h3':(d.k==3)=false:=by simpa using h3
    by_cases h7:d.k=7
    ·simp only [bad,inAfter,hd,h7]
     cases r<;>cases i<;>simp [reads,ih]
    ·by_cases h8:d.k=8
     ·simp only [bad,inAfter,hd,h8]
      cases r<;>cases i<;>simp [reads,ih]
     ·by_cases h9:d.k=9
      ·simp only [bad,inAfter,hd,h9]
       cases r<;>cases i<;>simp [reads,ih]
      ·have e7:(d.k==7)=false:=by simpa using h7
       have e8:(d.k==8)=false:=by simpa using h8
       have e9:(d.k==9)=false:=by simpa using h9
       simp only [bad,inAfter,hd,h3',e7,e8,e9]
       simp [ih]
  ·have hd':doOk d=false:=by simpa using hd
   simp [bad,hd']
theorem sthread_eq (l:List D):sthread l=thread l:=by
 simp only [sthread,thread,pass_eq]
 cases decide (l.length≤7)<;>simp [Bool.and_assoc]
def cnt (f:Int→Bool) (l:List D):Nat:=(l.filter fun d=>f d.k).length
theorem cnt_le (f:Int→Bool) (l:List D):cnt f l≤l.length:=List.length_filter_le _ _
theorem cnt_cons (f:Int→Bool) (d:D) (l:List D):cnt f (d::l)=(if f d.k then 1 else 0)+cnt f l:=by
 simp only [cnt,List.filter_cons]
 cases f d.k<;>simp
 omega
def progFrom:Nat→Nat→List (List D)→Bool
 | a,u,[]=>decide (a≤14)&&decide (u≤6)
 | a,u,t::l=>if thread t then progFrom (a+t.length) (u+cnt uses t) l else false
def prog (l:List (List D)):Bool:=decide (l.length≤3)&&progFrom 0 0 l
theorem drop_at (l:List D) (n:Nat) (h:n < l.length):l.drop n=l[n]::l.drop (n+1):=(List.getElem_cons_drop h).symm
theorem pass_bad {l:List D} {r i:Bool} {n:Nat} {d:D} (hp:pass false false l=pass r i (l.drop n)) (hd:l.drop n=d::l.drop (n+1)) (hb:bad r i d=true):sthread l=false:=by
 simp [sthread,hp,hd,pass,hb]
theorem pass_ok {l:List D} {r i:Bool} {n:Nat} {d:D} (hp:pass false false l=pass r i (l.drop n)) (hd:l.drop n=d::l.drop (n+1)) (hb:bad r i d=false) {r' i':Bool} (hr:r'=(r||reads d.k)) (hi:i'=inAfter i d.k) :
  pass false false l=pass r' i' (l.drop (n+1)):=by
 subst hr;subst hi
 rw [hp,hd]
 simp [pass,hb]
theorem pass_fin {l:List D} {r i:Bool} {n:Nat} (hp:pass false false l=pass r i (l.drop n)) (hn:l.length≤n) (h7:l.length≤7):sthread l=!i:=by
 rw [List.drop_eq_nil_of_le hn] at hp
 simp [sthread,hp,pass,h7]
end M
end Go.Proofs.YtjjkicffhpcngaaGreat
namespace Go.Proofs.YtjjkicffhpcngaaGreat
open Go.RowKit
theorem ret_bool {a b:Bool} (h:a=b):Ending.returned (.bool a)=.returned (.bool b):=by rw [h]
theorem below3 (w:World) (a b c:Obj):Below w.heap.size w (((w.alloc a).alloc b).alloc c) :=
 (((Below.refl _ _).alloc (Nat.le_refl _) _).alloc (by simp) _).alloc (by simp;omega) _
theorem below2 (w:World) (a b:Obj):Below w.heap.size w ((w.alloc a).alloc b) :=
 ((Below.refl _ _).alloc (Nat.le_refl _) _).alloc (by simp) _
theorem below1 (w:World) (a:Obj):Below w.heap.size w (w.alloc a):=(Below.refl _ _).alloc (Nat.le_refl _) _
theorem bcell {W w1:World} (hb:Below W.heap.size W w1):(∀ b o,b < W.heap.size→w1.cell? ⟨b,o,none⟩=W.cell? ⟨b,o,none⟩)∧(∀ b o,b < W.heap.size→w1.frozen? ⟨b,o,none⟩=W.frozen? ⟨b,o,none⟩) :=
 ⟨fun b o h=>hb.cell (p:=⟨b,o,none⟩) h,fun b o h=>hb.frozen (p:=⟨b,o,none⟩) h⟩
theorem bel_box {w wr w1:World} {x:Obj} (hbel:Below w.heap.size w wr) (hb:Below (wr.alloc x).heap.size (wr.alloc x) w1):Below w.heap.size w w1 :=
 hbel.trans (((Below.refl _ _).alloc hbel.size _).trans (hb.mono (by have:=hbel.size;simp;omega)))
theorem bel_box2 {w wr w1:World} {x:Obj} (hbel:Below w.heap.size w wr) (hb:Below (wr.alloc x).heap.size (wr.alloc x) w1) (y:Obj):Below w.heap.size w (w1.alloc y) :=
 (bel_box hbel hb).alloc (bel_box hbel hb).size _
end Go.Proofs.YtjjkicffhpcngaaGreat
namespace Go.Proofs.YtjjkicffhpcngaaGreat
open Go.RowKit
theorem reads_any (k:Int) (w:World) :
  Calls Tryz.prog 71 #[.int .i64 k] w fun e w'=>e=.returned (.bool (M.reads k))∧w'=w:=by
 by_cases h2:k=2
 ·subst h2
  go_enter Tryz.func71,Tryz.ntmps71
  go_wp2
  go_ret
  exact ⟨ret_bool (by simp [M.reads]),rfl⟩
 ·have h2':(k==2)=false:=by simpa using h2
  go_enter Tryz.func71,Tryz.ntmps71
  go_wp2
  go_ret
  exact ⟨ret_bool (by simp [M.reads,h2']),rfl⟩
theorem stores_any (k:Int) (w:World) :
  Calls Tryz.prog 148 #[.int .i64 k] w fun e w'=>e=.returned (.bool (M.stores k))∧w'=w:=by
 by_cases h1:k=1
 ·subst h1
  go_enter Tryz.func148,Tryz.ntmps148
  go_wp2
  go_ret
  exact ⟨ret_bool (by simp [M.stores]),rfl⟩
 ·have h1':(k==1)=false:=by simpa using h1
  go_enter Tryz.func148,Tryz.ntmps148
  go_wp2
  go_ret
  exact ⟨ret_bool (by simp [M.stores,h1']),rfl⟩
theorem writes_any (k:Int) (w:World) :
  Calls Tryz.prog 115 #[.int .i64 k] w fun e w'=>e=.returned (.bool (M.writes k))∧w'=w:=by
 cases hs:M.stores k
 all_goals
  go_enter Tryz.func115,Tryz.ntmps115
  go_wp2_with (go_at_call 148;refine (stores_any _ _).mono ?_;rintro e w' ⟨rfl,rfl⟩)
  go_ret
  exact ⟨ret_bool (by simp [M.writes,hs]),rfl⟩
theorem uses_any (k:Int) (w:World) :
  Calls Tryz.prog 70 #[.int .i64 k] w fun e w'=>e=.returned (.bool (M.uses k))∧w'=w:=by
 cases hs:M.reads k
 all_goals
  go_enter Tryz.func70,Tryz.ntmps70
  go_wp2_with (first | (go_at_call 71;refine (reads_any _ _).mono ?_;rintro e w' ⟨rfl,rfl⟩) | (go_at_call 115;refine (writes_any _ _).mono ?_;rintro e w' ⟨rfl,rfl⟩))
  go_ret
  exact ⟨ret_bool (by simp [M.uses,hs]),rfl⟩
theorem placeOk_any (k p:Int) (w:World) :
  Calls Tryz.prog 146 #[.int .i64 k,.int .i64 p] w fun e w'=>e=.returned (.bool (M.placeOk k p))∧w'=w:=by
 cases hs:M.uses k
 ·go_enter Tryz.func146,Tryz.ntmps146
  go_wp2_with (go_at_call 70;refine (uses_any _ _).mono ?_;rintro e w' ⟨rfl,rfl⟩)
  go_ret
  exact ⟨ret_bool (by simp [M.placeOk,hs]),rfl⟩
 ·by_cases hp:0≤p
  ·go_enter Tryz.func146,Tryz.ntmps146
   go_wp2_with (go_at_call 70;refine (uses_any _ _).mono ?_;rintro e w' ⟨rfl,rfl⟩)
   go_ret
   exact ⟨ret_bool (by simp [M.placeOk,hs,hp]),rfl⟩
  ·have hp':decide (0≤p)=false:=by simpa using hp
   go_enter Tryz.func146,Tryz.ntmps146
   go_wp2_with (go_at_call 70;refine (uses_any _ _).mono ?_;rintro e w' ⟨rfl,rfl⟩)
   go_ret
   exact ⟨ret_bool (by simp [M.placeOk,hs];omega),rfl⟩
theorem valOk_any (k v:Int) (w:World) :
  Calls Tryz.prog 147 #[.int .i64 k,.int .i64 v] w fun e w'=>e=.returned (.bool (M.valOk k v))∧w'=w:=by
 cases hs:M.stores k
 ·go_enter Tryz.func147,Tryz.ntmps147
  go_wp2_with (go_at_call 148;refine (stores_any _ _).mono ?_;rintro e w' ⟨rfl,rfl⟩)
  go_ret
  exact ⟨ret_bool (by simp [M.valOk,hs]),rfl⟩
 ·by_cases hp:1≤v
  ·go_enter Tryz.func147,Tryz.ntmps147
   go_wp2_with (go_at_call 148;refine (stores_any _ _).mono ?_;rintro e w' ⟨rfl,rfl⟩)
   go_ret
   exact ⟨ret_bool (by simp [M.valOk,hs,hp]),rfl⟩
  ·have hp':decide (1≤v)=false:=by simpa using hp
   go_enter Tryz.func147,Tryz.ntmps147
   go_wp2_with (go_at_call 148;refine (stores_any _ _).mono ?_;rintro e w' ⟨rfl,rfl⟩)
   go_ret
   exact ⟨ret_bool (by simp [M.valOk,hs];omega),rfl⟩
theorem l6In_any (n a b:Int) (w:World) :
  Calls Tryz.prog 83 #[.int .i64 n,.int .i64 a,.int .i64 b] w fun e w'=>e=.returned (.bool (M.rng a b n))∧w'=w:=by
 by_cases hp:a≤n
 ·go_enter Tryz.func83,Tryz.ntmps83
  go_wp2
  go_ret
  exact ⟨ret_bool (by simp [M.rng,hp]),rfl⟩
 ·have hp':decide (a≤n)=false:=by simpa using hp
  go_enter Tryz.func83,Tryz.ntmps83
  go_wp2
  go_ret
  exact ⟨ret_bool (by simp [M.rng,hp']),rfl⟩
theorem l1Reads_any (d:M.D) (w:World) :
  Calls Tryz.prog 56 #[.agg #[.int .i64 d.k,.int .i64 d.p,.int .i64 d.v]] w fun e w'=>e=.returned (.bool (M.reads d.k))∧w'=w.alloc (.cells #[.int .i64 d.k,.int .i64 d.p,.int .i64 d.v] 43):=by
 obtain ⟨k,p,v⟩:=d
 by_cases h2:k=2
 ·subst h2
  go_enter Tryz.func56,Tryz.ntmps56
  go_wp2
  go_ret
  exact ⟨ret_bool (by simp [M.reads]),rfl⟩
 ·have h2':(k==2)=false:=by simpa using h2
  go_enter Tryz.func56,Tryz.ntmps56
  go_wp2
  go_ret
  exact ⟨ret_bool (by simp [M.reads,h2']),rfl⟩
theorem l1Writes_any (d:M.D) (w:World) :
  Calls Tryz.prog 57 #[.agg #[.int .i64 d.k,.int .i64 d.p,.int .i64 d.v]] w fun e w'=>e=.returned (.bool (M.writes d.k))∧w'=w.alloc (.cells #[.int .i64 d.k,.int .i64 d.p,.int .i64 d.v] 43):=by
 obtain ⟨k,p,v⟩:=d
 by_cases h1:k=1
 ·subst h1
  go_enter Tryz.func57,Tryz.ntmps57
  go_wp2
  go_ret
  exact ⟨ret_bool (by simp [M.writes,M.stores]),rfl⟩
 ·have h1':(k==1)=false:=by simpa using h1
  by_cases h3:k=3
  ·subst h3
   go_enter Tryz.func57,Tryz.ntmps57
   go_wp2
   go_ret
   exact ⟨ret_bool (by simp [M.writes,M.stores]),rfl⟩
  ·have h3':(k==3)=false:=by simpa using h3
   go_enter Tryz.func57,Tryz.ntmps57
   go_wp2
   go_ret
   exact ⟨ret_bool (by simp [M.writes,M.stores,h1',h3']),rfl⟩
end Go.Proofs.YtjjkicffhpcngaaGreat
namespace Go.Proofs.YtjjkicffhpcngaaGreat
open Go.RowKit
theorem grownBy_refl (w:World) (row:Option Nat):w.grownBy w row:=⟨rfl,rfl,rfl,Nat.le_refl _,fun _ _ _=>rfl⟩
theorem wpList_append_rows {P:Program} {w:World} {ops:Array Oper} {rest:List Oper} {o:Oper} {a:Act} {Q:Exit→Act→World→Prop} (hgd:o.guard=none) (s x:Operand) (t:TypeId)
  (ho:o.op=.call { callee:=.builtin .append,args:=#[s,x],argTypes:=#[t,t] })
  (base:Nat) (e:TypeId) (i:TypeInfo) (z:Value) (size bytes:Nat) (ht:P.underlying t=some (.slice e)) (hi:P.info? e=some i) (hz:i.zero=some z)
  (hsize:i.size=size) (hby:i.bytes=bytes) (hzs:z.cells.size=size) (hsz:0 < size)
  (v:Value) (n:Nat) (xs:List Value) (hs:a.eval s=v) (hown:w.ownsRow base e size v n xs)
  (base':Nat) (u:Value) (m:Nat) (ys:List Value) (hx:a.eval x=u) (hsrc:w.ownsRow base' e size u m ys) (h1:∀ y∈ys,y.oneCell'=true)
  (h63:n+m≤maxLen) (hbytes:(n+m) * bytes≤140737488355328) (hbase:base≤w.heap.size)
  (h:∀ v' w',w'.ownsRow base e size v' (n+m) (xs++ys)→w.grownBy w' v.ownBlock→wpList P ops Q rest (a.put o.dst v') w'):wpList P ops Q (o::rest) a w:=by
 have hl:=hsrc.1
 rcases hsrc.2 with ⟨hu,hm⟩ | ⟨g,cap,cur,hu,hg,hh,r⟩
 ·subst hm
  have hys:ys=[]:=List.length_eq_zero_iff.1 (by rw [hl];simp)
  subst hys
  refine wpList_append_own_none hgd s x t ho base e i size ht hi v n xs hs hown (hx.trans hu) ?_
  exact h v w (by simpa using hown) (grownBy_refl _ _)
 ·refine wpList_append_own w hgd s x t ho base e i z size bytes ht hi hz hsize hby hzs hsz v n xs hs hown ⟨g,0,none⟩ m cap ys (hx.trans hu) hl (fun j y hj=>hsrc.cells (g:=g) (by rw [hu];rfl) j y hj) h1 h63 hbytes hbase ?_
  intro v' w' h2 h3 _
  exact h v' w' h2 h3
end Go.Proofs.YtjjkicffhpcngaaGreat
