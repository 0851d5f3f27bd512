/- Small facts that every text leans on: what lies below a world's end stays. No condition. And what goes with it: Base, Math, Leaf, Mem, Word, IThread, Count, IProg, But, SnMath, SnMem, SnFar, Cont, StepGo, SnOrd, SoMath, SnCmp, SnSee, SoMem, SoCo, SnIn, SoIn, Conv. -/
import Derived.Deep.AppendLies
import Derived.Deep.RegionHeld3
import Derived.Deep.Slices
import Derived.Laws.AppendOwnNone
import Derived.Shelf.SlSortCmp.NoneTotal
import Derived.WalkLawsBesides
import Derived.WalkSpells
import Derived.Deep.OwnRows
import Derived.Test.YtmhpgdliaclokaaGreatRows
namespace Go.Proofs.YtmhpgdliaclokaaGreat
section
open Go.RowKit
theorem ret_bool {a b:Bool} (h:a=b):Ending.returned (.bool a)=.returned (.bool b):=by rw [h]
theorem below3 (w:World) (a b c:Obj):Below w.heap.size w (((w.alloc a).alloc b).alloc c) :=
 (((Below.refl _ _).alloc (Nat.le_refl _) _).alloc (by simp) _).alloc (by simp;omega) _
theorem below2 (w:World) (a b:Obj):Below w.heap.size w ((w.alloc a).alloc b) :=
 ((Below.refl _ _).alloc (Nat.le_refl _) _).alloc (by simp) _
theorem below1 (w:World) (a:Obj):Below w.heap.size w (w.alloc a):=(Below.refl _ _).alloc (Nat.le_refl _) _
theorem bcell {W w1:World} (hb:Below W.heap.size W w1):(∀ b o,b < W.heap.size→w1.cell? ⟨b,o,none⟩=W.cell? ⟨b,o,none⟩)∧(∀ b o,b < W.heap.size→w1.frozen? ⟨b,o,none⟩=W.frozen? ⟨b,o,none⟩) :=
 ⟨fun b o h=>hb.cell (p:=⟨b,o,none⟩) h,fun b o h=>hb.frozen (p:=⟨b,o,none⟩) h⟩
theorem bel_box {w wr w1:World} {x:Obj} (hbel:Below w.heap.size w wr) (hb:Below (wr.alloc x).heap.size (wr.alloc x) w1):Below w.heap.size w w1 :=
 hbel.trans (((Below.refl _ _).alloc hbel.size _).trans (hb.mono (by have:=hbel.size;simp;omega)))
theorem bel_box2 {w wr w1:World} {x:Obj} (hbel:Below w.heap.size w wr) (hb:Below (wr.alloc x).heap.size (wr.alloc x) w1) (y:Obj):Below w.heap.size w (w1.alloc y) :=
 (bel_box hbel hb).alloc (bel_box hbel hb).size _
end
section
namespace M
structure D where
 k:Int
 p:Int
 v:Int
def reads (k:Int):Bool:=k==2||k==5
def stores (k:Int):Bool:=k==1||k==6
def writes (k:Int):Bool:=stores k||k==3
def uses (k:Int):Bool:=reads k||writes k
def wordOk (k:Int):Bool:=decide (1≤k)&&decide (k≤9)
def placeOk (k p:Int):Bool:=if uses k then decide (0≤p)&&decide (p < 3) else p==0
def valOk (k v:Int):Bool:=if stores k then decide (1≤v)&&decide (v≤3) else v==0
def doOk (d:D):Bool:=wordOk d.k&&placeOk d.k d.p&&valOk d.k d.v
def rng (a b n:Int):Bool:=decide (a≤n)&&decide (n≤b)
theorem doOk_eq (k p v:Int):doOk ⟨k,p,v⟩=(rng 1 9 k&&(if uses k then rng 0 2 p else p==0)&&(if stores k then rng 1 3 v else v==0)):=by
 have e:decide (p < 3)=decide (p≤2):=by rw [decide_eq_decide];omega
 simp only [doOk,wordOk,placeOk,valOk,rng,e]
def form (l:List D):Bool:=l.all doOk
def copies:Bool→List D→Bool
 | _,[]=>true
 | r,d::l=>if d.k==3&&!r then false else copies (r||reads d.k) l
def readers:Bool→List D→Bool
 | i,[]=>!i
 | i,d::l=>if d.k==7 then (if i then false else readers true l) else if d.k==8 then (if i then readers false l else false) else if d.k==9 then (if i then false else readers i l) else readers i l
def thread (l:List D):Bool:=decide (l.length≤7)&&form l&&copies false l&&readers false l
def bad (r i:Bool) (d:D):Bool:=!doOk d||d.k==3&&!r||d.k==7&&i||d.k==8&&!i||d.k==9&&i
def inAfter (i:Bool) (k:Int):Bool:=if k==7 then true else if k==8 then false else i
def pass:Bool→Bool→List D→Bool
 | _,i,[]=>!i
 | r,i,d::l=>if bad r i d then false else pass (r||reads d.k) (inAfter i d.k) l
def sthread (l:List D):Bool:=decide (l.length≤7)&&pass false false l
theorem pass_eq (r i:Bool) (l:List D):pass r i l=(form l&&copies r l&&readers i l):=by
 induction l generalizing r i with
 | nil=>simp [pass,form,copies,readers]
 | cons d l ih =>
  simp only [pass,form,copies,readers,List.all_cons] at *
  by_cases hd:doOk d=true
  ·by_cases h3:(d.k==3)=true
   ·have hk:d.k=3:=by simpa using h3
    simp only [bad,inAfter,hd,hk]
    cases r<;>cases i<;>simp [reads,ih]
   ·have h3':(d.k==3)=false:=by simpa using h3
    by_cases h7:d.k=7
    ·simp only [bad,inAfter,hd,h7]
     cases r<;>cases i<;>simp [reads,ih]
    ·by_cases h8:d.k=8
     ·simp only [bad,inAfter,hd,h8]
      cases r<;>cases i<;>simp [reads,ih]
     ·by_cases h9:d.k=9
      ·simp only [bad,inAfter,hd,h9]
       cases r<;>cases i<;>simp [reads,ih]
      ·have e7:(d.k==7)=false:=by simpa using h7
       have e8:(d.k==8)=false:=by simpa using h8
       have e9:(d.k==9)=false:=by simpa using h9
       simp only [bad,inAfter,hd,h3',e7,e8,e9]
       simp [ih]
  ·have hd':doOk d=false:=by simpa using hd
   simp [bad,hd']
theorem sthread_eq (l:List D):sthread l=thread l:=by
 simp only [sthread,thread,pass_eq]
 cases decide (l.length≤7)<;>simp [Bool.and_assoc]
def cnt (f:Int→Bool) (l:List D):Nat:=(l.filter fun d=>f d.k).length
theorem cnt_le (f:Int→Bool) (l:List D):cnt f l≤l.length:=List.length_filter_le _ _
theorem cnt_cons (f:Int→Bool) (d:D) (l:List D):cnt f (d::l)=(if f d.k then 1 else 0)+cnt f l:=by
 simp only [cnt,List.filter_cons]
 cases f d.k<;>simp
 omega
def progFrom:Nat→Nat→List (List D)→Bool
 | a,u,[]=>decide (a≤14)&&decide (u≤6)
 | a,u,t::l=>if thread t then progFrom (a+t.length) (u+cnt uses t) l else false
def prog (l:List (List D)):Bool:=decide (l.length≤3)&&progFrom 0 0 l
theorem drop_at (l:List D) (n:Nat) (h:n < l.length):l.drop n=l[n]::l.drop (n+1):=(List.getElem_cons_drop h).symm
theorem pass_bad {l:List D} {r i:Bool} {n:Nat} {d:D} (hp:pass false false l=pass r i (l.drop n)) (hd:l.drop n=d::l.drop (n+1)) (hb:bad r i d=true):sthread l=false:=by
 simp [sthread,hp,hd,pass,hb]
theorem pass_ok {l:List D} {r i:Bool} {n:Nat} {d:D} (hp:pass false false l=pass r i (l.drop n)) (hd:l.drop n=d::l.drop (n+1)) (hb:bad r i d=false) {r' i':Bool} (hr:r'=(r||reads d.k)) (hi:i'=inAfter i d.k) :
  pass false false l=pass r' i' (l.drop (n+1)):=by
 subst hr;subst hi
 rw [hp,hd]
 simp [pass,hb]
theorem pass_fin {l:List D} {r i:Bool} {n:Nat} (hp:pass false false l=pass r i (l.drop n)) (hn:l.length≤n) (h7:l.length≤7):sthread l=!i:=by
 rw [List.drop_eq_nil_of_le hn] at hp
 simp [sthread,hp,pass,h7]
end M
end
section
open Go.RowKit
theorem reads_any (k:Int) (w:World) :
  Calls Tryz.prog 86 #[.int .i64 k] w fun e w'=>e=.returned (.bool (M.reads k))∧w'=w:=by
 by_cases h2:k=2
 ·subst h2
  go_enter Tryz.func86,Tryz.ntmps86
  go_wp2
  go_ret
  exact ⟨ret_bool (by simp [M.reads]),rfl⟩
 ·have h2':(k==2)=false:=by simpa using h2
  go_enter Tryz.func86,Tryz.ntmps86
  go_wp2
  go_ret
  exact ⟨ret_bool (by simp [M.reads,h2']),rfl⟩
theorem stores_any (k:Int) (w:World) :
  Calls Tryz.prog 184 #[.int .i64 k] w fun e w'=>e=.returned (.bool (M.stores k))∧w'=w:=by
 by_cases h1:k=1
 ·subst h1
  go_enter Tryz.func184,Tryz.ntmps184
  go_wp2
  go_ret
  exact ⟨ret_bool (by simp [M.stores]),rfl⟩
 ·have h1':(k==1)=false:=by simpa using h1
  go_enter Tryz.func184,Tryz.ntmps184
  go_wp2
  go_ret
  exact ⟨ret_bool (by simp [M.stores,h1']),rfl⟩
theorem writes_any (k:Int) (w:World) :
  Calls Tryz.prog 148 #[.int .i64 k] w fun e w'=>e=.returned (.bool (M.writes k))∧w'=w:=by
 cases hs:M.stores k
 all_goals
  go_enter Tryz.func148,Tryz.ntmps148
  go_wp2_with (go_at_call 184;refine (stores_any _ _).mono ?_;rintro e w' ⟨rfl,rfl⟩)
  go_ret
  exact ⟨ret_bool (by simp [M.writes,hs]),rfl⟩
theorem uses_any (k:Int) (w:World) :
  Calls Tryz.prog 104 #[.int .i64 k] w fun e w'=>e=.returned (.bool (M.uses k))∧w'=w:=by
 cases hs:M.reads k
 all_goals
  go_enter Tryz.func104,Tryz.ntmps104
  go_wp2_with (first | (go_at_call 86;refine (reads_any _ _).mono ?_;rintro e w' ⟨rfl,rfl⟩) | (go_at_call 148;refine (writes_any _ _).mono ?_;rintro e w' ⟨rfl,rfl⟩))
  go_ret
  exact ⟨ret_bool (by simp [M.uses,hs]),rfl⟩
theorem placeOk_any (k p:Int) (w:World) :
  Calls Tryz.prog 188 #[.int .i64 k,.int .i64 p] w fun e w'=>e=.returned (.bool (M.placeOk k p))∧w'=w:=by
 cases hs:M.uses k
 ·go_enter Tryz.func188,Tryz.ntmps188
  go_wp2_with (go_at_call 104;refine (uses_any _ _).mono ?_;rintro e w' ⟨rfl,rfl⟩)
  go_ret
  exact ⟨ret_bool (by simp [M.placeOk,hs]),rfl⟩
 ·by_cases hp:0≤p
  ·go_enter Tryz.func188,Tryz.ntmps188
   go_wp2_with (go_at_call 104;refine (uses_any _ _).mono ?_;rintro e w' ⟨rfl,rfl⟩)
   go_ret
   exact ⟨ret_bool (by simp [M.placeOk,hs,hp]),rfl⟩
  ·have hp':decide (0≤p)=false:=by simpa using hp
   go_enter Tryz.func188,Tryz.ntmps188
   go_wp2_with (go_at_call 104;refine (uses_any _ _).mono ?_;rintro e w' ⟨rfl,rfl⟩)
   go_ret
   exact ⟨ret_bool (by simp [M.placeOk,hs];omega),rfl⟩
theorem valOk_any (k v:Int) (w:World) :
  Calls Tryz.prog 189 #[.int .i64 k,.int .i64 v] w fun e w'=>e=.returned (.bool (M.valOk k v))∧w'=w:=by
 cases hs:M.stores k
 ·go_enter Tryz.func189,Tryz.ntmps189
  go_wp2_with (go_at_call 184;refine (stores_any _ _).mono ?_;rintro e w' ⟨rfl,rfl⟩)
  go_ret
  exact ⟨ret_bool (by simp [M.valOk,hs]),rfl⟩
 ·by_cases hp:1≤v
  ·go_enter Tryz.func189,Tryz.ntmps189
   go_wp2_with (go_at_call 184;refine (stores_any _ _).mono ?_;rintro e w' ⟨rfl,rfl⟩)
   go_ret
   exact ⟨ret_bool (by simp [M.valOk,hs,hp]),rfl⟩
  ·have hp':decide (1≤v)=false:=by simpa using hp
   go_enter Tryz.func189,Tryz.ntmps189
   go_wp2_with (go_at_call 184;refine (stores_any _ _).mono ?_;rintro e w' ⟨rfl,rfl⟩)
   go_ret
   exact ⟨ret_bool (by simp [M.valOk,hs];omega),rfl⟩
theorem l6In_any (n a b:Int) (w:World) :
  Calls Tryz.prog 59 #[.int .i64 n,.int .i64 a,.int .i64 b] w fun e w'=>e=.returned (.bool (M.rng a b n))∧w'=w:=by
 by_cases hp:a≤n
 ·go_enter Tryz.func59,Tryz.ntmps59
  go_wp2
  go_ret
  exact ⟨ret_bool (by simp [M.rng,hp]),rfl⟩
 ·have hp':decide (a≤n)=false:=by simpa using hp
  go_enter Tryz.func59,Tryz.ntmps59
  go_wp2
  go_ret
  exact ⟨ret_bool (by simp [M.rng,hp']),rfl⟩
theorem l1Reads_any (d:M.D) (w:World) :
  Calls Tryz.prog 76 #[.agg #[.int .i64 d.k,.int .i64 d.p,.int .i64 d.v]] w fun e w'=>e=.returned (.bool (M.reads d.k))∧w'=w.alloc (.cells #[.int .i64 d.k,.int .i64 d.p,.int .i64 d.v] 94):=by
 obtain ⟨k,p,v⟩:=d
 by_cases h2:k=2
 ·subst h2
  go_enter Tryz.func76,Tryz.ntmps76
  go_wp2
  go_ret
  exact ⟨ret_bool (by simp [M.reads]),rfl⟩
 ·have h2':(k==2)=false:=by simpa using h2
  go_enter Tryz.func76,Tryz.ntmps76
  go_wp2
  go_ret
  exact ⟨ret_bool (by simp [M.reads,h2']),rfl⟩
theorem l1Writes_any (d:M.D) (w:World) :
  Calls Tryz.prog 78 #[.agg #[.int .i64 d.k,.int .i64 d.p,.int .i64 d.v]] w fun e w'=>e=.returned (.bool (M.writes d.k))∧w'=w.alloc (.cells #[.int .i64 d.k,.int .i64 d.p,.int .i64 d.v] 94):=by
 obtain ⟨k,p,v⟩:=d
 by_cases h1:k=1
 ·subst h1
  go_enter Tryz.func78,Tryz.ntmps78
  go_wp2
  go_ret
  exact ⟨ret_bool (by simp [M.writes,M.stores]),rfl⟩
 ·have h1':(k==1)=false:=by simpa using h1
  by_cases h3:k=3
  ·subst h3
   go_enter Tryz.func78,Tryz.ntmps78
   go_wp2
   go_ret
   exact ⟨ret_bool (by simp [M.writes,M.stores]),rfl⟩
  ·have h3':(k==3)=false:=by simpa using h3
   go_enter Tryz.func78,Tryz.ntmps78
   go_wp2
   go_ret
   exact ⟨ret_bool (by simp [M.writes,M.stores,h1',h3']),rfl⟩
end
section
open Go.RowKit
structure DoAt (w:World) (b o:Nat) (d:M.D):Prop where
 k:w.cell? ⟨b,o,none⟩=some (.int .i64 d.k)
 p:w.cell? ⟨b,o+1,none⟩=some (.int .i64 d.p)
 v:w.cell? ⟨b,o+2,none⟩=some (.int .i64 d.v)
def Row (w:World) (b o:Nat) (l:List M.D):Prop:=∀ i (h:i < l.length),DoAt w b (o+i * 3) l[i]
structure DoS (w:World) (a:Option Addr) (b o:Nat) (l:List M.D):Prop where
 addr:0 < l.length→a=some ⟨b,o,none⟩
 row:Row w b o l
theorem DoAt.lt {w:World} {b o:Nat} {d:M.D} (h:DoAt w b o d):b < w.heap.size:=World.block_lt_of_cell? _ _ h.k
theorem DoAt.below {w w':World} {B b o:Nat} {d:M.D} (h:DoAt w b o d) (hb:Below B w w') (hB:w.heap.size≤B):DoAt w' b o d:=by
 have hl:=h.lt
 exact ⟨by rw [hb.cell (p:=⟨b,o,none⟩) (by show b < B;omega)];exact h.k,by rw [hb.cell (p:=⟨b,o+1,none⟩) (by show b < B;omega)];exact h.p,by rw [hb.cell (p:=⟨b,o+2,none⟩) (by show b < B;omega)];exact h.v⟩
theorem DoS.below {w w':World} {a:Option Addr} {B b o:Nat} {l:List M.D} (h:DoS w a b o l) (hb:Below B w w') (hB:w.heap.size≤B):DoS w' a b o l :=
 ⟨h.addr,fun i hi=>(h.row i hi).below hb hB⟩
end
section
open Go.RowKit
def M.word (k:Int):ByteArray:=if k==1 then ⟨#[115,116,111,114,101]⟩ else if k==2 then ⟨#[108,111,97,100]⟩ else if k==3 then ⟨#[99,111,112,121]⟩ else if k==4 then ⟨#[119,97,108,108]⟩ else if k==5 then ⟨#[116,97,107,101]⟩ else if k==6 then ⟨#[103,105,118,101]⟩ else if k==7 then ⟨#[105,110]⟩ else if k==8 then ⟨#[111,117,116]⟩ else if k==9 then ⟨#[119,97,105,116]⟩ else ⟨#[]⟩
set_option maxHeartbeats 400000 in
theorem word_any (k:Int) (w:World) :
  Calls Tryz.prog 187 #[.int .i64 k] w fun e w'=>e=.returned (.string (M.word k))∧w'=w:=by
 by_cases h1:k=1
 ·subst h1
  go_enter Tryz.func187,Tryz.ntmps187
  go_wp2
  go_ret
  exact ⟨rfl,rfl⟩
 have e1:(k==1)=false:=by simpa using h1
 by_cases h2:k=2
 ·subst h2
  go_enter Tryz.func187,Tryz.ntmps187
  go_wp2
  go_ret
  exact ⟨rfl,rfl⟩
 have e2:(k==2)=false:=by simpa using h2
 by_cases h3:k=3
 ·subst h3
  go_enter Tryz.func187,Tryz.ntmps187
  go_wp2
  go_ret
  exact ⟨rfl,rfl⟩
 have e3:(k==3)=false:=by simpa using h3
 by_cases h4:k=4
 ·subst h4
  go_enter Tryz.func187,Tryz.ntmps187
  go_wp2
  go_ret
  exact ⟨rfl,rfl⟩
 have e4:(k==4)=false:=by simpa using h4
 by_cases h5:k=5
 ·subst h5
  go_enter Tryz.func187,Tryz.ntmps187
  go_wp2
  go_ret
  exact ⟨rfl,rfl⟩
 have e5:(k==5)=false:=by simpa using h5
 by_cases h6:k=6
 ·subst h6
  go_enter Tryz.func187,Tryz.ntmps187
  go_wp2
  go_ret
  exact ⟨rfl,rfl⟩
 have e6:(k==6)=false:=by simpa using h6
 by_cases h7:k=7
 ·subst h7
  go_enter Tryz.func187,Tryz.ntmps187
  go_wp2
  go_ret
  exact ⟨rfl,rfl⟩
 have e7:(k==7)=false:=by simpa using h7
 by_cases h8:k=8
 ·subst h8
  go_enter Tryz.func187,Tryz.ntmps187
  go_wp2
  go_ret
  exact ⟨rfl,rfl⟩
 have e8:(k==8)=false:=by simpa using h8
 by_cases h9:k=9
 ·subst h9
  go_enter Tryz.func187,Tryz.ntmps187
  go_wp2
  go_ret
  exact ⟨rfl,rfl⟩
 have e9:(k==9)=false:=by simpa using h9
 clear h1 h2 h3 h4 h5 h6 h7 h8 h9
 go_enter Tryz.func187,Tryz.ntmps187
 go_wp2
 go_ret
 exact ⟨by simp [M.word,e1,e2,e3,e4,e5,e6,e7,e8,e9],rfl⟩
theorem word_empty (k:Int):(M.word k).toList.isEmpty=!(M.wordOk k):=by
 by_cases h:1≤k∧k≤9
 ·have:k=1∨k=2∨k=3∨k=4∨k=5∨k=6∨k=7∨k=8∨k=9:=by omega
  rcases this with rfl | rfl | rfl | rfl | rfl | rfl | rfl | rfl | rfl<;>(rw [ByteArray.toList_eq];decide)
 ·have e:∀ c:Int,1≤c→c≤9→(k==c)=false:=fun c h1 h2=>by simp;omega
  have e0:M.wordOk k=false:=by simp only [M.wordOk];rcases Classical.not_and_iff_not_or_not.1 h with h | h<;>simp<;>omega
  rw [e0]
  have e1:M.word k=⟨#[]⟩:=by simp [M.word,e 1 (by decide) (by decide),e 2 (by decide) (by decide),e 3 (by decide) (by decide),e 4 (by decide) (by decide),e 5 (by decide) (by decide),e 6 (by decide) (by decide),e 7 (by decide) (by decide),e 8 (by decide) (by decide),e 9 (by decide) (by decide)]
  rw [e1,ByteArray.toList_eq]
  decide
theorem M.form_bad {l:List M.D} {n:Nat} {d:M.D} (hp:M.form l=M.form (l.drop n)) (hd:l.drop n=d::l.drop (n+1)) (hb:M.doOk d=false):M.form l=false:=by
 rw [hp,hd];simp [M.form,hb]
theorem M.form_ok {l:List M.D} {n:Nat} {d:M.D} (hp:M.form l=M.form (l.drop n)) (hd:l.drop n=d::l.drop (n+1)) (hb:M.doOk d=true):M.form l=M.form (l.drop (n+1)):=by
 rw [hp,hd];simp [M.form,hb]
theorem M.form_fin {l:List M.D} {n:Nat} (hp:M.form l=M.form (l.drop n)) (hn:l.length≤n):M.form l=true:=by
 rw [hp,List.drop_eq_nil_of_le hn];rfl
set_option maxHeartbeats 400000 in
theorem form_any (a:Option Addr) (b o c:Nat) (l:List M.D) (w:World) (hl:l.length≤1048576) (h:DoS w a b o l) :
  Calls Tryz.prog 157 #[.slice a l.length c] w fun e w'=>e=.returned (.bool (M.form l))∧Below w.heap.size w w':=by
 go_enter Tryz.func157,Tryz.ntmps157
 go_wp2_with fail
 go_loopw [8] (fun s8 wr=>∃ n:Nat,s8=.int .i64 n∧n≤l.length∧M.form l=M.form (l.drop n)∧Below w.heap.size w wr) (fun s8 _=>l.length - (intOf s8).toNat)
 case atStart=>exact ⟨0,rfl,Nat.zero_le _,rfl,Below.refl _ _⟩
 case round =>
  obtain ⟨n,rfl,hn,hpass,hbel⟩:=hrel
  have HP:Hid (M.form l=M.form (l.drop n)):=hpass
  clear hpass
  by_cases hlt:n < l.length
  ·obtain ⟨rfl⟩:=h.addr (by omega)
   have hd:=(h.row n hlt).below hbel (Nat.le_refl _)
   have HD:Hid (l.drop n=l[n]::l.drop (n+1)):=M.drop_at l n hlt
   generalize l[n]=d at hd HD
   obtain ⟨k,p,v⟩:=d
   obtain ⟨ck,cp,cv⟩:=hd
   have hwe:=word_empty k
   cases hw:M.wordOk k
   ·have hwe':(M.word k).toList.isEmpty=true:=by rw [hwe,hw];rfl
    clear hwe
    go_wp2_with (first | (go_at_call 187;refine (word_any _ _).mono ?_;rintro e w1 ⟨rfl,rfl⟩) | (go_at_call 188;refine (placeOk_any _ _ _).mono ?_;rintro e w1 ⟨rfl,rfl⟩) | (go_at_call 189;refine (valOk_any _ _ _).mono ?_;rintro e w1 ⟨rfl,rfl⟩))
    go_ret
    exact ⟨ret_bool (M.form_bad HP.out HD.out (by simp [M.doOk,hw])).symm,hbel.alloc hbel.size _⟩
   ·have hwe':(M.word k).toList.isEmpty=false:=by rw [hwe,hw];rfl
    clear hwe
    cases hp:M.placeOk k p
    ·go_wp2_with (first | (go_at_call 187;refine (word_any _ _).mono ?_;rintro e w1 ⟨rfl,rfl⟩) | (go_at_call 188;refine (placeOk_any _ _ _).mono ?_;rintro e w1 ⟨rfl,rfl⟩) | (go_at_call 189;refine (valOk_any _ _ _).mono ?_;rintro e w1 ⟨rfl,rfl⟩))
     go_ret
     exact ⟨ret_bool (M.form_bad HP.out HD.out (by simp [M.doOk,hp])).symm,hbel.alloc hbel.size _⟩
    ·cases hv:M.valOk k v
     ·go_wp2_with (first | (go_at_call 187;refine (word_any _ _).mono ?_;rintro e w1 ⟨rfl,rfl⟩) | (go_at_call 188;refine (placeOk_any _ _ _).mono ?_;rintro e w1 ⟨rfl,rfl⟩) | (go_at_call 189;refine (valOk_any _ _ _).mono ?_;rintro e w1 ⟨rfl,rfl⟩))
      go_ret
      exact ⟨ret_bool (M.form_bad HP.out HD.out (by simp [M.doOk,hv])).symm,hbel.alloc hbel.size _⟩
     ·go_wp2_with (first | (go_at_call 187;refine (word_any _ _).mono ?_;rintro e w1 ⟨rfl,rfl⟩) | (go_at_call 188;refine (placeOk_any _ _ _).mono ?_;rintro e w1 ⟨rfl,rfl⟩) | (go_at_call 189;refine (valOk_any _ _ _).mono ?_;rintro e w1 ⟨rfl,rfl⟩))
      exact ⟨⟨n+1,by go_num,by omega,M.form_ok HP.out HD.out (by simp [M.doOk,hw,hp,hv]),hbel.alloc hbel.size _⟩,by simp [intOf];omega⟩
  ·go_wp2_with fail
   go_ret
   exact ⟨ret_bool (M.form_fin HP.out (by omega)).symm,hbel⟩
end
section
open Go.RowKit
theorem M.copies_bad {l:List M.D} {r:Bool} {n:Nat} {d:M.D} (hp:M.copies false l=M.copies r (l.drop n)) (hd:l.drop n=d::l.drop (n+1)) (hb:(d.k==3&&!r)=true):M.copies false l=false:=by
 rw [hp,hd];simp only [M.copies,hb,if_true]
theorem M.copies_ok {l:List M.D} {r r':Bool} {n:Nat} {d:M.D} (hp:M.copies false l=M.copies r (l.drop n)) (hd:l.drop n=d::l.drop (n+1)) (hb:(d.k==3&&!r)=false) (hr:r'=(r||M.reads d.k)):M.copies false l=M.copies r' (l.drop (n+1)):=by
 subst hr
 rw [hp,hd];simp only [M.copies,hb];rfl
theorem M.copies_fin {l:List M.D} {r:Bool} {n:Nat} (hp:M.copies false l=M.copies r (l.drop n)) (hn:l.length≤n):M.copies false l=true:=by
 rw [hp,List.drop_eq_nil_of_le hn];rfl
set_option maxHeartbeats 400000 in
theorem copies_any (a:Option Addr) (b o c:Nat) (l:List M.D) (w:World) (hl:l.length≤1048576) (h:DoS w a b o l) :
  Calls Tryz.prog 158 #[.slice a l.length c] w fun e w'=>e=.returned (.bool (M.copies false l))∧Below w.heap.size w w':=by
 go_enter Tryz.func158,Tryz.ntmps158
 go_wp2_with fail
 go_loopw [3,8] (fun s3 s8 wr=>∃ (r:Bool) (n:Nat),s3=.bool r∧s8=.int .i64 n∧n≤l.length∧M.copies false l=M.copies r (l.drop n)∧Below w.heap.size w wr) (fun _ s8 _=>l.length - (intOf s8).toNat)
 case atStart=>exact ⟨false,0,rfl,rfl,Nat.zero_le _,rfl,Below.refl _ _⟩
 case round =>
  obtain ⟨r,n,rfl,rfl,hn,hpass,hbel⟩:=hrel
  have HP:Hid (M.copies false l=M.copies r (l.drop n)):=hpass
  clear hpass
  by_cases hlt:n < l.length
  ·obtain ⟨rfl⟩:=h.addr (by omega)
   have hd:=(h.row n hlt).below hbel (Nat.le_refl _)
   have HD:Hid (l.drop n=l[n]::l.drop (n+1)):=M.drop_at l n hlt
   generalize l[n]=d at hd HD
   obtain ⟨k,p,v⟩:=d
   obtain ⟨ck,cp,cv⟩:=hd
   by_cases h3:k=3
   ·subst h3
    cases r
    ·go_wp2_with (go_at_call 86;refine (reads_any _ _).mono ?_;rintro e w1 ⟨rfl,rfl⟩)
     go_ret
     exact ⟨ret_bool (M.copies_bad HP.out HD.out rfl).symm,hbel.alloc hbel.size _⟩
    ·go_wp2_with (go_at_call 86;refine (reads_any _ _).mono ?_;rintro e w1 ⟨rfl,rfl⟩)
     exact ⟨⟨_,n+1,rfl,by go_num,by omega,M.copies_ok HP.out HD.out rfl rfl,hbel.alloc hbel.size _⟩,by simp [intOf];omega⟩
   ·have e3:(k==3)=false:=by simpa using h3
    clear h3
    cases r
    ·go_wp2_with (go_at_call 86;refine (reads_any _ _).mono ?_;rintro e w1 ⟨rfl,rfl⟩)
     exact ⟨⟨_,n+1,rfl,by go_num,by omega,M.copies_ok HP.out HD.out (by simp [e3]) (by simp),hbel.alloc hbel.size _⟩,by simp [intOf];omega⟩
    ·go_wp2_with (go_at_call 86;refine (reads_any _ _).mono ?_;rintro e w1 ⟨rfl,rfl⟩)
     exact ⟨⟨_,n+1,rfl,by go_num,by omega,M.copies_ok HP.out HD.out (by simp) (by simp),hbel.alloc hbel.size _⟩,by simp [intOf];omega⟩
  ·go_wp2_with fail
   go_ret
   exact ⟨ret_bool (M.copies_fin HP.out (by omega)).symm,hbel⟩
theorem M.readers_fin {l:List M.D} {i:Bool} {n:Nat} (hp:M.readers false l=M.readers i (l.drop n)) (hn:l.length≤n):M.readers false l=!i:=by
 rw [hp,List.drop_eq_nil_of_le hn];rfl
theorem M.readers_step {l:List M.D} {i:Bool} {n:Nat} {d:M.D} (hp:M.readers false l=M.readers i (l.drop n)) (hd:l.drop n=d::l.drop (n+1)):M.readers false l=M.readers i (d::l.drop (n+1)):=by
 rw [hp,hd]
set_option maxHeartbeats 400000 in
theorem readers_any (a:Option Addr) (b o c:Nat) (l:List M.D) (w:World) (hl:l.length≤1048576) (h:DoS w a b o l) :
  Calls Tryz.prog 159 #[.slice a l.length c] w fun e w'=>e=.returned (.bool (M.readers false l))∧Below w.heap.size w w':=by
 go_enter Tryz.func159,Tryz.ntmps159
 go_wp2_with fail
 go_loopw [3,8] (fun s3 s8 wr=>∃ (i:Bool) (n:Nat),s3=.bool i∧s8=.int .i64 n∧n≤l.length∧M.readers false l=M.readers i (l.drop n)∧Below w.heap.size w wr) (fun _ s8 _=>l.length - (intOf s8).toNat)
 case atStart=>exact ⟨false,0,rfl,rfl,Nat.zero_le _,rfl,Below.refl _ _⟩
 case round =>
  obtain ⟨i,n,rfl,rfl,hn,hpass,hbel⟩:=hrel
  have HP:Hid (M.readers false l=M.readers i (l.drop n)):=hpass
  clear hpass
  by_cases hlt:n < l.length
  ·obtain ⟨rfl⟩:=h.addr (by omega)
   have hd:=(h.row n hlt).below hbel (Nat.le_refl _)
   have HD:Hid (l.drop n=l[n]::l.drop (n+1)):=M.drop_at l n hlt
   generalize l[n]=d at hd HD
   obtain ⟨k,p,v⟩:=d
   obtain ⟨ck,cp,cv⟩:=hd
   have HS:Hid (M.readers false l=M.readers i (⟨k,p,v⟩::l.drop (n+1))):=M.readers_step HP.out HD.out
   clear HP HD
   by_cases h7:k=7
   ·subst h7
    cases i
    ·go_wp2_with fail
     exact ⟨⟨_,n+1,rfl,by go_num,by omega,HS.out.trans (by simp [M.readers]),hbel.alloc hbel.size _⟩,by simp [intOf];omega⟩
    ·go_wp2_with fail
     go_ret
     exact ⟨ret_bool (HS.out.trans (by simp [M.readers])).symm,hbel.alloc hbel.size _⟩
   ·have e7:(k==7)=false:=by simpa using h7
    clear h7
    by_cases h8:k=8
    ·subst h8
     cases i
     ·go_wp2_with fail
      go_ret
      exact ⟨ret_bool (HS.out.trans (by simp [M.readers])).symm,hbel.alloc hbel.size _⟩
     ·go_wp2_with fail
      exact ⟨⟨_,n+1,rfl,by go_num,by omega,HS.out.trans (by simp [M.readers]),hbel.alloc hbel.size _⟩,by simp [intOf];omega⟩
    ·have e8:(k==8)=false:=by simpa using h8
     clear h8
     by_cases h9:k=9
     ·subst h9
      cases i
      ·go_wp2_with fail
       exact ⟨⟨_,n+1,rfl,by go_num,by omega,HS.out.trans (by simp [M.readers]),hbel.alloc hbel.size _⟩,by simp [intOf];omega⟩
      ·go_wp2_with fail
       go_ret
       exact ⟨ret_bool (HS.out.trans (by simp [M.readers])).symm,hbel.alloc hbel.size _⟩
     ·have e9:(k==9)=false:=by simpa using h9
      clear h9
      go_wp2_with fail
      exact ⟨⟨_,n+1,rfl,by go_num,by omega,HS.out.trans (by simp [M.readers,e7,e8,e9]),hbel.alloc hbel.size _⟩,by simp [intOf];omega⟩
  ·go_wp2_with fail
   go_ret
   exact ⟨ret_bool (M.readers_fin HP.out (by omega)).symm,hbel⟩
set_option maxHeartbeats 400000 in
theorem ithread_any (a:Option Addr) (b o c:Nat) (l:List M.D) (w:World) (hl:l.length≤1048576) (h:DoS w a b o l) :
  Calls Tryz.prog 102 #[.slice a l.length c] w fun e w'=>e=.returned (.bool (M.thread l))∧Below w.heap.size w w':=by
 by_cases h7:l.length≤7
 ·have h7':(l.length:Int)≤7:=by omega
  cases hf:M.form l
  ·go_enter Tryz.func102,Tryz.ntmps102
   go_wp2_with (go_at_call 157;refine (form_any a b o c l _ hl h).mono ?_;rintro e w1 ⟨rfl,hb1⟩)
   go_ret
   exact ⟨ret_bool (by simp [M.thread,hf]),hb1⟩
  ·cases hc:M.copies false l
   ·go_enter Tryz.func102,Tryz.ntmps102
    go_wp2_with (first | (go_at_call 157;refine (form_any a b o c l _ hl h).mono ?_;rintro e w1 ⟨rfl,hb1⟩) | (go_at_call 158;refine (copies_any a b o c l _ hl (h.below hb1 (Nat.le_refl _))).mono ?_;rintro e w2 ⟨rfl,hb2⟩))
    go_ret
    exact ⟨ret_bool (by simp [M.thread,hc]),hb1.trans (hb2.mono hb1.size)⟩
   ·go_enter Tryz.func102,Tryz.ntmps102
    go_wp2_with (first | (go_at_call 157;refine (form_any a b o c l _ hl h).mono ?_;rintro e w1 ⟨rfl,hb1⟩) | (go_at_call 158;refine (copies_any a b o c l _ hl (h.below hb1 (Nat.le_refl _))).mono ?_;rintro e w2 ⟨rfl,hb2⟩) | (go_at_call 159;refine (readers_any a b o c l _ hl ((h.below hb1 (Nat.le_refl _)).below hb2 (Nat.le_refl _))).mono ?_;rintro e w3 ⟨rfl,hb3⟩))
    go_ret
    exact ⟨ret_bool (by simp [M.thread,hf,hc,h7]),(hb1.trans (hb2.mono hb1.size)).trans (hb3.mono (Nat.le_trans hb1.size hb2.size))⟩
 ·have h7':¬ (l.length:Int)≤7:=by omega
  have h7'':decide ((l.length:Int)≤7)=false:=by simp;omega
  go_enter Tryz.func102,Tryz.ntmps102
  go_wp2_with fail
  go_ret
  exact ⟨ret_bool (by simp [M.thread,h7]),Below.refl _ _⟩
end
section
open Go.RowKit
theorem M.cnt_step {f:Int→Bool} {l:List M.D} {m n:Nat} {d:M.D} (hp:M.cnt f l=m+M.cnt f (l.drop n)) (hd:l.drop n=d::l.drop (n+1)) {m':Nat} (hm:m'=m+if f d.k then 1 else 0):M.cnt f l=m'+M.cnt f (l.drop (n+1)):=by
 subst hm;rw [hp,hd,M.cnt_cons];omega
theorem M.cnt_fin {f:Int→Bool} {l:List M.D} {m n:Nat} (hp:M.cnt f l=m+M.cnt f (l.drop n)) (hn:l.length≤n):m=M.cnt f l:=by
 rw [hp,List.drop_eq_nil_of_le hn];rfl
theorem ret_int {k:IntKind} {a b:Int} (h:a=b):Ending.returned (.int k a)=.returned (.int k b):=by rw [h]
set_option maxHeartbeats 400000 in
theorem cntUses_any (a:Option Addr) (b o c:Nat) (l:List M.D) (w:World) (hl:l.length≤1048576) (h:DoS w a b o l) :
  Calls Tryz.prog 103 #[.slice a l.length c,.func (.func 104) #[] #[]] w fun e w'=>e=.returned (.int .i64 (M.cnt M.uses l))∧Below w.heap.size w w':=by
 go_enter Tryz.func103,Tryz.ntmps103
 go_wp2_with fail
 go_loopw [5,10] (fun s5 s10 wr=>∃ m n:Nat,s5=.int .i64 m∧s10=.int .i64 n∧n≤l.length∧m≤n∧M.cnt M.uses l=m+M.cnt M.uses (l.drop n)∧Below w.heap.size w wr) (fun _ s10 _=>l.length - (intOf s10).toNat)
 case atStart=>exact ⟨0,0,rfl,rfl,Nat.zero_le _,Nat.le_refl _,by simp,Below.refl _ _⟩
 case round =>
  obtain ⟨m,n,rfl,rfl,hn,hmn,hpass,hbel⟩:=hrel
  have HP:Hid (M.cnt M.uses l=m+M.cnt M.uses (l.drop n)):=hpass
  clear hpass
  by_cases hlt:n < l.length
  ·obtain ⟨rfl⟩:=h.addr (by omega)
   have hd:=(h.row n hlt).below hbel (Nat.le_refl _)
   have HD:Hid (l.drop n=l[n]::l.drop (n+1)):=M.drop_at l n hlt
   generalize l[n]=d at hd HD
   obtain ⟨k,p,v⟩:=d
   obtain ⟨ck,cp,cv⟩:=hd
   cases hu:M.uses k
   ·go_wp2_with (go_at_call 104;refine (uses_any _ _).mono ?_;rintro e w1 ⟨rfl,rfl⟩)
    exact ⟨⟨m,n+1,rfl,by go_num,by omega,by omega,M.cnt_step HP.out HD.out (by simp [hu]),hbel.alloc hbel.size _⟩,by simp [intOf];omega⟩
   ·go_wp2_with (go_at_call 104;refine (uses_any _ _).mono ?_;rintro e w1 ⟨rfl,rfl⟩)
    exact ⟨⟨m+1,n+1,by go_num,by go_num,by omega,by omega,M.cnt_step HP.out HD.out (by simp [hu]),hbel.alloc hbel.size _⟩,by simp [intOf];omega⟩
  ·go_wp2_with fail
   go_ret
   exact ⟨ret_int (by rw [M.cnt_fin HP.out (by omega)]),hbel⟩
end
section
open Go.RowKit
structure DoSS (w:World) (a:Option Addr) (b o:Nat) (ll:List (List M.D)):Prop where
 addr:0 < ll.length→a=some ⟨b,o,none⟩
 row:∀ i (h:i < ll.length),∃ a' b' o' c',w.cell? ⟨b,o+i,none⟩=some (.slice a' ll[i].length c')∧DoS w a' b' o' ll[i]
theorem DoSS.below {w w':World} {a:Option Addr} {B b o:Nat} {ll:List (List M.D)} (h:DoSS w a b o ll) (hb:Below B w w') (hB:w.heap.size≤B):DoSS w' a b o ll:=by
 refine ⟨h.addr,fun i hi=>?_⟩
 obtain ⟨a',b',o',c',hc,hd⟩:=h.row i hi
 have hl:=World.block_lt_of_cell? _ _ hc
 exact ⟨a',b',o',c',by rw [hb.cell (p:=⟨b,o+i,none⟩) (by show b < B;exact Nat.lt_of_lt_of_le hl hB)];exact hc,hd.below hb hB⟩
theorem M.thread_le {t:List M.D} (h:M.thread t=true):t.length≤7:=by
 simp only [M.thread,Bool.and_eq_true,decide_eq_true_eq] at h;exact h.1.1.1
theorem M.drop_at' (l:List (List M.D)) (n:Nat) (h:n < l.length):l.drop n=l[n]::l.drop (n+1):=(List.getElem_cons_drop h).symm
theorem M.from_bad {l:List (List M.D)} {x u n:Nat} {t:List M.D} (hp:M.progFrom 0 0 l=M.progFrom x u (l.drop n)) (hd:l.drop n=t::l.drop (n+1)) (hb:M.thread t=false):M.prog l=false:=by
 simp [M.prog,hp,hd,M.progFrom,hb]
theorem M.from_ok {l:List (List M.D)} {x u n:Nat} {t:List M.D} (hp:M.progFrom 0 0 l=M.progFrom x u (l.drop n)) (hd:l.drop n=t::l.drop (n+1)) (hb:M.thread t=true):M.progFrom 0 0 l=M.progFrom (x+t.length) (u+M.cnt M.uses t) (l.drop (n+1)):=by
 rw [hp,hd];simp [M.progFrom,hb]
theorem M.from_fin {l:List (List M.D)} {x u n:Nat} (hp:M.progFrom 0 0 l=M.progFrom x u (l.drop n)) (hn:l.length≤n) (h3:l.length≤3):M.prog l=(decide (x≤14)&&decide (u≤6)):=by
 rw [List.drop_eq_nil_of_le hn] at hp
 simp [M.prog,hp,M.progFrom,h3]
set_option maxHeartbeats 400000 in
theorem iprog_any (a : Option Addr) (b o c : Nat) (ll : List (List M.D)) (w : World) (hl : ll.length ≤ 1048576) (hls : ∀ t ∈ ll, t.length ≤ 1048576) (h : DoSS w a b o ll) :
    Calls Tryz.prog 47 #[.agg #[.slice a ll.length c]] w fun e w' => e = .returned (.bool (M.prog ll)) ∧ Below w.heap.size w w' := by
  by_cases h3 : ll.length ≤ 3
  · have h3' : ¬ (3 : Int) < ll.length := by omega
    go_enter Tryz.func47, Tryz.ntmps47
    go_wp2_with fail
    go_loopw [3, 4, 14] (fun s3 s4 s14 wr => ∃ x u n : Nat, s3 = .int .i64 x ∧ s4 = .int .i64 u ∧ s14 = .int .i64 n ∧ n ≤ ll.length ∧ x ≤ 7 * n ∧ u ≤ 7 * n ∧ M.progFrom 0 0 ll = M.progFrom x u (ll.drop n) ∧ Below w.heap.size w wr) (fun _ _ s14 _ => ll.length - (intOf s14).toNat)
    case atStart => exact ⟨0, 0, 0, rfl, rfl, rfl, Nat.zero_le _, Nat.le_refl _, Nat.le_refl _, rfl, below1 _ _⟩
    case round =>
      obtain ⟨x, u, n, rfl, rfl, rfl, hn, hx, hu, hpass, hbel⟩ := hrel
      have HP : Hid (M.progFrom 0 0 ll = M.progFrom x u (ll.drop n)) := hpass
      clear hpass
      by_cases hlt : n < ll.length
      · obtain ⟨rfl⟩ := h.addr (by omega)
        obtain ⟨a', b', o', c', hc, hd⟩ := (h.below hbel (Nat.le_refl _)).row n hlt
        have HD : Hid (ll.drop n = ll[n] :: ll.drop (n + 1)) := M.drop_at' ll n hlt
        have hlt' := hls _ (List.getElem_mem hlt)
        generalize ll[n] = t at hd hc HD hlt'
        cases ht : M.thread t
        · go_wp2_with (go_at_call 102; refine (ithread_any a' b' o' c' t _ hlt' hd).mono ?_; rintro e w1 ⟨rfl, hb1⟩)
          go_ret
          exact ⟨ret_bool (M.from_bad HP.out HD.out ht).symm, hbel.trans (hb1.mono hbel.size)⟩
        · have ht7 := M.thread_le ht
          have hcn := M.cnt_le M.uses t
          go_wp2_with (first | (go_at_call 102; refine (ithread_any a' b' o' c' t _ hlt' hd).mono ?_; rintro e w1 ⟨rfl, hb1⟩) | (go_at_call 103; refine (cntUses_any a' b' o' c' t _ hlt' (hd.below hb1 (Nat.le_refl _))).mono ?_; rintro e w2 ⟨rfl, hb2⟩))
          exact ⟨⟨x + t.length, u + M.cnt M.uses t, n + 1, by go_num, by go_num, by go_num, by omega, by omega, by omega, M.from_ok HP.out HD.out ht, (hbel.trans (hb1.mono hbel.size)).trans (hb2.mono (Nat.le_trans hbel.size hb1.size))⟩, by simp [intOf]; omega⟩
      · by_cases hx14 : (x : Int) ≤ 14
        · go_wp2_with fail
          go_ret
          exact ⟨ret_bool (by rw [M.from_fin HP.out (by omega) h3]; have : x ≤ 14 := by omega
                              simp [this]; omega), hbel⟩
        · have hx14' : decide ((x : Int) ≤ 14) = false := by simpa using hx14
          go_wp2_with fail
          go_ret
          exact ⟨ret_bool (by rw [M.from_fin HP.out (by omega) h3]; have : ¬ x ≤ 14 := by omega
                              simp [this]), hbel⟩
  · have h3' : (3 : Int) < ll.length := by omega
    go_enter Tryz.func47, Tryz.ntmps47
    go_wp2_with fail
    go_ret
    exact ⟨ret_bool (by simp [M.prog, h3]), below1 _ _⟩
end
section
open Go.RowKit
structure But (rb:Nat) (w w':World):Prop where
 os:w'.os=w.os
 tape:w'.tape=w.tape
 output:w'.output=w.output
 size:w.heap.size≤w'.heap.size
 block:∀ k,k < w.heap.size→k≠rb→w'.heap[k]?=w.heap[k]?
theorem But.refl (rb:Nat) (w:World):But rb w w:=⟨rfl,rfl,rfl,Nat.le_refl _,fun _ _ _=>rfl⟩
theorem But.trans {rb:Nat} {a b c:World} (h:But rb a b) (k:But rb b c):But rb a c :=
 ⟨k.os.trans h.os,k.tape.trans h.tape,k.output.trans h.output,Nat.le_trans h.size k.size,fun i hi hne=>(k.block i (Nat.lt_of_lt_of_le hi h.size) hne).trans (h.block i hi hne)⟩
theorem But.of {rb:Nat} {w w':World} (h:Below w.heap.size w w'):But rb w w':=⟨h.os,h.tape,h.output,h.size,fun k hk _=>h.block k hk⟩
theorem But.drew {rb:Nat} {a w:World} (h:But rb a w):But rb a w.drew:=⟨h.os,h.tape,h.output,h.size,h.block⟩
theorem But.drewN {rb:Nat} {a w:World} (h:But rb a w):∀ n,But rb a (w.drewN n)
 | 0=>h
 | n+1=>by
  have:=h.drewN n
  exact ⟨this.os,this.tape,this.output,this.size,this.block⟩
theorem But.alloc {rb:Nat} {a w:World} (h:But rb a w) (o:Obj):But rb a (w.alloc o):=h.trans (But.of (below1 w o))
theorem But.setCell {rb:Nat} {a w:World} (h:But rb a w) {p:Addr} (hp:a.heap.size≤p.block∨p.block=rb) (u:Value):But rb a (w.setCell p u) :=
 ⟨h.os,h.tape,h.output,by rw [show (w.setCell p u).heap.size=w.heap.size from by simp [World.setCell]];exact h.size,fun k hk hne=>(Below.heap_setCell _ _ _ _ (by rcases hp with hp | hp<;>omega)).trans (h.block k hk hne)⟩
theorem But.cell {rb:Nat} {w w':World} (h:But rb w w') {p:Addr} (hp:p.block < w.heap.size) (hne:p.block≠rb):w'.cell? p=w.cell? p:=World.cell?_of_block (w:=w) (h.block p.block hp hne)
theorem But.frozen {rb:Nat} {w w':World} (h:But rb w w') {p:Addr} (hp:p.block < w.heap.size) (hne:p.block≠rb):w'.frozen? p=w.frozen? p:=World.frozen?_of_block (w:=w) (h.block p.block hp hne)
theorem But.below {rb:Nat} {w w1 w':World} (h:Below w.heap.size w w1) (k:But rb w1 w') (hr:w.heap.size≤rb):Below w.heap.size w w' :=
 ⟨k.os.trans h.os,k.tape.trans h.tape,k.output.trans h.output,Nat.le_trans h.size k.size,fun i hi=>(k.block i (Nat.lt_of_lt_of_le hi h.size) (by omega)).trans (h.block i hi)⟩
end
section
namespace M
def comp:List Int→List Int→Int
 | [],[]=>0
 | [],_::_=>-1
 | _::_,[]=>1
 | x::a,y::b=>if x < y then -1 else if y < x then 1 else comp a b
theorem comp_lt {l m:List Int} {n:Nat} {x y:Int} (h:comp l m=comp (l.drop n) (m.drop n)) (hl:l.drop n=x::l.drop (n+1)) (hm:m.drop n=y::m.drop (n+1)) (hxy:x < y):comp l m=-1:=by
 rw [h,hl,hm,comp,if_pos hxy]
theorem comp_gt {l m:List Int} {n:Nat} {x y:Int} (h:comp l m=comp (l.drop n) (m.drop n)) (hl:l.drop n=x::l.drop (n+1)) (hm:m.drop n=y::m.drop (n+1)) (hxy:y < x):comp l m=1:=by
 rw [h,hl,hm,comp,if_neg (by omega),if_pos hxy]
theorem comp_eq {l m:List Int} {n:Nat} {x y:Int} (h:comp l m=comp (l.drop n) (m.drop n)) (hl:l.drop n=x::l.drop (n+1)) (hm:m.drop n=y::m.drop (n+1)) (h1:¬ x < y) (h2:¬ y < x):comp l m=comp (l.drop (n+1)) (m.drop (n+1)):=by
 rw [h,hl,hm,comp,if_neg h1,if_neg h2]
theorem comp_fst {l m:List Int} {n:Nat} (h:comp l m=comp (l.drop n) (m.drop n)) (hl:l.length≤n) (hm:n < m.length):comp l m=-1:=by
 rw [h,List.drop_eq_nil_of_le hl,(List.getElem_cons_drop hm).symm,comp]
theorem comp_snd {l m:List Int} {n:Nat} (h:comp l m=comp (l.drop n) (m.drop n)) (hl:n < l.length) (hm:m.length≤n):comp l m=1:=by
 rw [h,List.drop_eq_nil_of_le hm,(List.getElem_cons_drop hl).symm,comp]
theorem comp_fin {l m:List Int} {n:Nat} (h:comp l m=comp (l.drop n) (m.drop n)) (hl:l.length≤n) (hm:m.length≤n):comp l m=0:=by
 rw [h,List.drop_eq_nil_of_le hl,List.drop_eq_nil_of_le hm,comp]
theorem drop_int (l:List Int) (n:Nat) (h:n < l.length):l.drop n=l[n]::l.drop (n+1):=(List.getElem_cons_drop h).symm
def cmpS (a1 a2 b1 b2:List Int):Int:=if comp a1 b1=0 then comp a2 b2 else comp a1 b1
def vals (l:List Int):Bool:=l.all fun v=>decide (0≤v)&&decide (v≤3)
theorem vals_bad {l:List Int} {n:Nat} {x:Int} (h:vals l=vals (l.drop n)) (hl:l.drop n=x::l.drop (n+1)) (hx:¬ (0≤x∧x≤3)):vals l=false:=by
 rw [h,hl]
 simp only [vals,List.all_cons]
 have:(decide (0≤x)&&decide (x≤3))=false:=by
  rw [← Bool.decide_and];simpa using hx
 rw [this,Bool.false_and]
theorem vals_ok {l:List Int} {n:Nat} {x:Int} (h:vals l=vals (l.drop n)) (hl:l.drop n=x::l.drop (n+1)) (h0:0≤x) (h3:x≤3):vals l=vals (l.drop (n+1)):=by
 rw [h,hl]
 simp only [vals,List.all_cons]
 have:(decide (0≤x)&&decide (x≤3))=true:=by simp [h0,h3]
 rw [this,Bool.true_and]
theorem vals_fin {l:List Int} {n:Nat} (h:vals l=vals (l.drop n)) (hl:l.length≤n):vals l=true:=by
 rw [h,List.drop_eq_nil_of_le hl];rfl
end M
end
section
open Go.RowKit
structure IntS (w:World) (a:Option Addr) (b o:Nat) (l:List Int):Prop where
 addr:0 < l.length→a=some ⟨b,o,none⟩
 row:∀ i (h:i < l.length),w.cell? ⟨b,o+i,none⟩=some (.int .i64 l[i])
theorem IntS.lt {w:World} {a:Option Addr} {b o:Nat} {l:List Int} (h:IntS w a b o l) (hl:0 < l.length):b < w.heap.size:=World.block_lt_of_cell? _ _ (h.row 0 hl)
theorem IntS.below {w w':World} {a:Option Addr} {B b o:Nat} {l:List Int} (h:IntS w a b o l) (hb:Below B w w') (hB:w.heap.size≤B):IntS w' a b o l :=
 ⟨h.addr,fun i hi=>by rw [hb.cell (p:=⟨b,o+i,none⟩) (Nat.lt_of_lt_of_le (h.lt (by omega)) hB)];exact h.row i hi⟩
theorem IntS.nil (w:World) (a:Option Addr) (b o:Nat):IntS w a b o []:=⟨fun h=>absurd h (Nat.lt_irrefl _),fun _ hi=>absurd hi (Nat.not_lt_zero _)⟩
structure Grown (w w':World):Prop where
 bel:Below w.heap.size w w'
 drawn:w.drawn≤w'.drawn
theorem Grown.refl (w:World):Grown w w:=⟨Below.refl _ _,Nat.le_refl _⟩
theorem Grown.trans {a b c:World} (h:Grown a b) (k:Grown b c):Grown a c:=⟨h.bel.trans (k.bel.mono h.bel.size),Nat.le_trans h.drawn k.drawn⟩
theorem Grown.alloc {a b:World} (h:Grown a b) (o:Obj):Grown a (b.alloc o):=⟨h.bel.alloc h.bel.size o,h.drawn⟩
theorem Grown.drewN {a b:World} (h:Grown a b) (n:Nat):Grown a (b.drewN n):=⟨h.bel.trans ⟨rfl,rfl,rfl,Nat.le_refl _,fun _ _=>rfl⟩,Nat.le_trans h.drawn (Nat.le_add_right _ _)⟩
theorem Grown.drew {a b:World} (h:Grown a b):Grown a b.drew:=h.drewN 1
structure Sn where
 a1:Option Addr
 b1:Nat
 o1:Nat
 c1:Nat
 l1:List Int
 a2:Option Addr
 b2:Nat
 o2:Nat
 c2:Nat
 l2:List Int
structure Sn.At (s:Sn) (w:World):Prop where
 reads:IntS w s.a1 s.b1 s.o1 s.l1
 last:IntS w s.a2 s.b2 s.o2 s.l2
structure Sn.Le (s:Sn) (n:Nat):Prop where
 reads:s.l1.length≤n
 last:s.l2.length≤n
theorem Sn.At.below {s:Sn} {w w':World} {B:Nat} (h:s.At w) (hb:Below B w w') (hB:w.heap.size≤B):s.At w':=⟨h.reads.below hb hB,h.last.below hb hB⟩
theorem Sn.At.grown {s:Sn} {w w':World} (h:s.At w) (hg:Grown w w'):s.At w':=h.below hg.bel (Nat.le_refl _)
end
section
open Go.RowKit
theorem But.grown {rb:Nat} {w0 w w':World} {row:Option Nat} (h:But rb w0 w) (hg:w.grownBy w' row) (hr:∀ k,row=some k→w0.heap.size≤k):But rb w0 w' :=
 ⟨hg.os.trans h.os,hg.tape.trans h.tape,hg.output.trans h.output,Nat.le_trans h.size hg.size,fun k hk hne=>(hg.block k (Nat.lt_of_lt_of_le hk h.size) (fun e=>by have:=hr k e.symm;omega)).trans (h.block k hk hne)⟩
theorem own_ge {w:World} {base:Nat} {e:TypeId} {size:Nat} {v:Value} {n:Nat} {xs:List Value} (h:w.ownsRow base e size v n xs):∀ k,v.ownBlock=some k→base≤k:=fun k hk=>(h.lt k hk).1
theorem below_grown {B:Nat} {w0 w w':World} {row:Option Nat} (h:Below B w0 w) (hg:w.grownBy w' row) (hr:∀ k,row=some k→B≤k) (hB:B≤w.heap.size:=by simp):Below B w0 w' :=
 ⟨hg.os.trans h.os,hg.tape.trans h.tape,hg.output.trans h.output,Nat.le_trans h.size hg.size,fun k hk=>(hg.block k (by omega) (fun e=>by have:=hr k e.symm;omega)).trans (h.block k hk)⟩
theorem ownsRow_below {w w':World} {base:Nat} {e:TypeId} {size:Nat} {v:Value} {n:Nat} {xs:List Value} (h:w.ownsRow base e size v n xs) (hb:Below w.heap.size w w'):w'.ownsRow base e size v n xs:=by
 obtain ⟨h1,h2⟩:=h
 refine ⟨h1,?_⟩
 rcases h2 with h2 | ⟨g,cap,cur,hv,hg,hh,r⟩
 ·exact Or.inl h2
 ·refine Or.inr ⟨g,cap,cur,hv,hg,?_,r⟩
  rw [hb.block g (by by_cases hlt:g < w.heap.size;exact hlt;rw [Array.getElem?_eq_none (by omega)] at hh;cases hh)]
  exact hh
def nums (l:List Int):List Value:=l.map (.int .i64)
structure Slot2 (w:World) (b:Nat) (x y:Value):Prop where
 blk:w.heap[b]?=some (.cells #[x,y] 45 (0,0))
theorem Slot2.lt {w:World} {b:Nat} {x y:Value} (h:Slot2 w b x y):b < w.heap.size:=by
 by_cases hb:b < w.heap.size
 ·exact hb
 ·have:=h.blk;rw [Array.getElem?_eq_none (by omega)] at this;cases this
theorem Slot2.c0 {w:World} {b:Nat} {x y:Value} (h:Slot2 w b x y):w.cell? ⟨b,0,none⟩=some x:=by simp [World.cell?,h.blk]
theorem Slot2.c1 {w:World} {b:Nat} {x y:Value} (h:Slot2 w b x y):w.cell? ⟨b,1,none⟩=some y:=by simp [World.cell?,h.blk]
theorem Slot2.fz {w:World} {b:Nat} {x y:Value} (h:Slot2 w b x y) (i:Nat):w.frozen? ⟨b,i,none⟩=false:=by simp [World.frozen?,h.blk]
theorem Slot2.of {w w':World} {b:Nat} {x y:Value} (h:Slot2 w b x y) (hb:w'.heap[b]?=w.heap[b]?):Slot2 w' b x y:=⟨hb.trans h.blk⟩
theorem Slot2.but {w w':World} {b rb:Nat} {x y:Value} (h:Slot2 w b x y) (hb:But rb w w') (hne:b≠rb):Slot2 w' b x y:=h.of (hb.block b h.lt hne)
theorem Slot2.grown {w w':World} {b B n:Nat} {x y v:Value} {xs:List Value} (h:Slot2 w b x y) (hg:w.grownBy w' v.ownBlock) (ho:w.ownsRow B 3 1 v n xs):Slot2 w' b x y:=by
 refine h.of (hg.block b h.lt fun e=>?_)
 rcases ho.2 with ⟨hv,_⟩ | ⟨g,cap,cur,hv,_,hh,_⟩
 ·rw [hv] at e;simp [Value.ownBlock] at e
 ·rw [hv] at e
  simp [Value.ownBlock] at e
  subst e
  rw [h.blk] at hh
  simp at hh
theorem Slot2.far {w:World} {b b' i:Nat} {x y:Value} (h:Slot2 w b x y) (hne:b'≠b) (u:Value):Slot2 (w.setCell ⟨b',i,none⟩ u) b x y:=h.of (Below.heap_setCell _ _ _ _ (fun e=>hne e.symm))
theorem Slot2.set0 {w:World} {b:Nat} {x y:Value} (h:Slot2 w b x y) (u:Value):Slot2 (w.setCell ⟨b,0,none⟩ u) b u y:=⟨heap_setCell_same w b 0 #[x,y] _ u h.blk⟩
theorem Slot2.set1 {w:World} {b:Nat} {x y:Value} (h:Slot2 w b x y) (u:Value):Slot2 (w.setCell ⟨b,1,none⟩ u) b x u:=⟨heap_setCell_same w b 1 #[x,y] _ u h.blk⟩
theorem own_slot {w:World} {b i B n:Nat} {x y v:Value} {xs:List Value} (ho:w.ownsRow B 3 1 v n xs) (h:Slot2 w b x y) (u:Value):(w.setCell ⟨b,i,none⟩ u).ownsRow B 3 1 v n xs:=by
 refine ⟨ho.1,?_⟩
 rcases ho.2 with h0 | ⟨g,cap,cur,hv,hg,hh,r⟩
 ·exact Or.inl h0
 ·refine Or.inr ⟨g,cap,cur,hv,hg,?_,r⟩
  rw [Below.heap_setCell _ _ _ _ (fun e=>?_)]
  ·exact hh
  ·simp at e
   subst e
   rw [h.blk] at hh
   simp at hh
theorem own_nums {w:World} {base:Nat} {v:Value} {l:List Int} (h:w.ownsRow base 3 1 v l.length (nums l)):∃ a g c,v=.slice a l.length c∧IntS w a g 0 l∧base≤g∧(a=none→c=0):=by
 rcases h.2 with ⟨hv,hn⟩ | ⟨g,cap,cur,hv,hg,hh,r⟩
 ·have:l=[]:=List.length_eq_zero_iff.1 hn
  subst this
  exact ⟨none,base,0,hv,IntS.nil _ _ _ _,Nat.le_refl _,fun _=>rfl⟩
 ·refine ⟨_,g,cap,hv,⟨fun _=>rfl,fun i hi=>?_⟩,hg,fun h=>by cases h⟩
  have hc:=h.cells (g:=g) (by rw [hv];rfl) i (.int .i64 l[i]) (by simp [nums,hi])
  rwa [Go.WideShapes.add_plain] at hc
theorem own_below {v v':Value} {B2:Nat} (h:∀ k,v.ownBlock=some k→k < B2) (h':∀ k,v'.ownBlock=some k→B2≤k):v.ownBlock=none∨v.ownBlock≠v'.ownBlock:=by
 cases hv:v.ownBlock with
 | none=>exact Or.inl rfl
 | some k =>
  refine Or.inr fun e=>?_
  have h1:=h k hv
  have h2:=h' k e.symm
  omega
theorem own_above {v v':Value} {B2:Nat} (h:∀ k,v.ownBlock=some k→k < B2) (h':∀ k,v'.ownBlock=some k→B2≤k):v'.ownBlock=none∨v'.ownBlock≠v.ownBlock:=by
 cases hv:v'.ownBlock with
 | none=>exact Or.inl rfl
 | some k =>
  refine Or.inr fun e=>?_
  have h1:=h' k hv
  have h2:=h k e.symm
  omega
theorem three {m:List Int} (h:m.length=3):∃ x y z,m=[x,y,z]:=by
 match m,h with
 | [x,y,z],_=>exact ⟨x,y,z,rfl⟩
theorem own_cap {w:World} {base g n cap:Nat} {e:TypeId} {size:Nat} {xs:List Value} (h:w.ownsRow base e size (.slice (some ⟨g,0,none⟩) n cap) n xs):n≤cap:=by
 rcases h.2 with ⟨hv,_⟩ | ⟨g',cap',cur,hv,_,_,hc,_⟩
 ·simp at hv
 ·simp at hv
  obtain ⟨_,rfl⟩:=hv
  exact hc
theorem pick2 (q:Nat) (h:q < 2):∃ x:Int,(#[Value.int .i64 (-1),Value.int .i64 4]:Array Value)[q]?=some (.int .i64 x):=by
 match q,h with
 | 0,_=>exact ⟨-1,rfl⟩
 | 1,_=>exact ⟨4,rfl⟩
theorem pick2_alloc (w:World) (t:TypeId) {q:Nat} {x:Int} (h:(#[Value.int .i64 (-1),Value.int .i64 4]:Array Value)[q]?=some (.int .i64 x)):(w.alloc (.cells #[.int .i64 (-1),.int .i64 4] t)).cell? ⟨w.heap.size,q,none⟩=some (.int .i64 x):=by
 exact (World.cell?_alloc_new w _ t q).trans h
theorem alloc_new (w:World) (o:Obj) (n:Nat) (hn:n=w.heap.size):(w.alloc o).heap[n]?=some o:=by subst hn;exact heap_alloc_new w o
theorem alloc_old (w:World) (o:Obj) (k:Nat) (hk:k < w.heap.size):(w.alloc o).heap[k]?=w.heap[k]?:=(below1 w o).block k hk
theorem Tryz.infoInt:(Tryz.prog.info? 3).map (fun i=>(i.zero,i.size,i.bytes))=some (some (.int .i64 0),1,8):=by kernel_rfl
theorem IntS.but {w w':World} {a:Option Addr} {rb b o:Nat} {l:List Int} (h:IntS w a b o l) (hb:But rb w w') (hne:b≠rb):IntS w' a b o l :=
 ⟨h.addr,fun i hi=>by rw [hb.cell (p:=⟨b,o+i,none⟩) (h.lt (by omega)) hne];exact h.row i hi⟩
theorem IntS.far {w:World} {a:Option Addr} {b o B i:Nat} {l:List Int} {u:Value} (h:IntS w a b o l) (hb:0 < l.length→b≠B):IntS (w.setCell ⟨B,i,none⟩ u) a b o l :=
 ⟨h.addr,fun j hj=>by rw [World.cell?_setCell_other _ _ _ _ (fun e=>hb (by omega) (congrArg Addr.block e).symm)];exact h.row j hj⟩
theorem own_fzS {w:World} {B g n cap:Nat} {e:TypeId} {size:Nat} {xs:List Value} (h:w.ownsRow B e size (.slice (some ⟨g,0,none⟩) n cap) n xs) (i:Nat):w.frozen? ⟨g,i,none⟩=false:=by
 rcases h.2 with ⟨hv,_⟩ | ⟨g',cap',cur,hv,_,hh,_⟩
 ·simp at hv
 ·simp at hv
  obtain ⟨rfl,_⟩:=hv
  simp [World.frozen?,hh]
theorem own_capP {w:World} {base g n cap:Nat} {e:TypeId} {size:Nat} {xs:List Value} (h:w.ownsRow base e size (.slice (some ⟨g,0,none⟩) n cap) n xs):n≤cap:=by
 rcases h.2 with ⟨hv,_⟩ | ⟨g',cap',cur,hv,_,_,hc,_⟩
 ·simp at hv
 ·simp at hv
  obtain ⟨_,rfl⟩:=hv
  exact hc
def Sn.blk (s:Sn) (b:Nat):Prop:=(0 < s.l1.length∧b=s.b1)∨(0 < s.l2.length∧b=s.b2)
structure Own2 (w:World) (s:Sn):Prop where
 ne:0 < s.l1.length→0 < s.l2.length→s.b1≠s.b2
 fz:∀ b,s.blk b→∀ j,w.frozen? ⟨b,j,none⟩=false
end
section
open Go.RowKit
namespace M
def has (l:List Int) (v:Int):Bool:=l.contains v
theorem has_hit {l:List Int} {v:Int} {n:Nat} (hn:n < l.length) (h:l[n]=v):has l v=true:=by
 simp [has];rw [← h];exact List.getElem_mem hn
theorem has_fin {l:List Int} {v:Int} (h:∀ i (_:i < l.length),l[i]≠v):has l v=false:=by
 simp only [has,List.contains_eq_mem,decide_eq_false_iff_not]
 intro hm
 obtain ⟨i,hi,e⟩:=List.getElem_of_mem hm
 exact h i hi e
end M
set_option maxHeartbeats 400000 in
theorem indexI_any (a:Option Addr) (b o c:Nat) (l:List Int) (v:Int) (w:World) (hl:l.length≤1048576) (h:IntS w a b o l) :
  Calls Tryz.prog 149 #[.slice a l.length c,.int .i64 v] w fun e w'=>∃ r:Int,e=.returned (.int .i64 r)∧decide (0≤r)=M.has l v∧w'=w:=by
 go_enter Tryz.func149,Tryz.ntmps149
 go_wp2_with fail
 go_loopw [8] (fun s8 wr=>∃ n:Nat,s8=.int .i64 n∧n≤l.length∧Hid (∀ i (_:i < n) (h:i < l.length),l[i]≠v)∧wr=w) (fun s8 _=>l.length - (intOf s8).toNat)
 case atStart=>exact ⟨0,rfl,Nat.zero_le _,fun i hi=>absurd hi (Nat.not_lt_zero _),rfl⟩
 case round =>
  obtain ⟨n,rfl,hn,HA,rfl⟩:=hrel
  by_cases hlt:n < l.length
  ·obtain ⟨rfl⟩:=h.addr (by omega)
   have hx:=h.row n hlt
   obtain ⟨y,hy⟩:∃ y,l[n]=y:=⟨_,rfl⟩
   have HY:Hid (l[n]=y):=hy
   rw [hy] at hx
   clear hy
   have i1:(n:Int) < l.length:=by omega
   by_cases e:v=y
   ·subst e
    go_wp2_with fail
    go_ret
    exact ⟨n,rfl,by rw [M.has_hit hlt HY.out];simp,rfl⟩
   ·have e':(v==y)=false:=by simpa using e
    go_wp2_with fail
    exact ⟨⟨n+1,by go_num,by omega,fun i hi hl=>by
     by_cases ei:i=n
     ·subst ei;rw [HY.out];exact fun h=>e h.symm
     ·exact HA.out i (by omega) hl,trivial⟩,by simp [intOf];omega⟩
  ·go_wp2_with fail
   go_ret
   exact ⟨-1,rfl,by rw [M.has_fin (fun i hi=>HA.out i (by omega) hi)];rfl,rfl⟩
theorem containsI_any (a:Option Addr) (b o c:Nat) (l:List Int) (v:Int) (w:World) (hl:l.length≤1048576) (h:IntS w a b o l) :
  Calls Tryz.prog 179 #[.slice a l.length c,.int .i64 v] w fun e w'=>e=.returned (.bool (M.has l v))∧w'=w:=by
 go_enter Tryz.func179,Tryz.ntmps179
 go_wp2_with (go_at_call 149;refine (indexI_any a b o c l v _ hl h).mono ?_;rintro e w' ⟨r,rfl,hr,rfl⟩)
 go_ret
 exact ⟨rfl,rfl⟩
set_option maxHeartbeats 400000 in
theorem l12Has_any (a:Option Addr) (b o c:Nat) (l:List Int) (v:Int) (w:World) (hl:l.length≤1048576) (h:IntS w a b o l) :
  Calls Tryz.prog 85 #[.slice a l.length c,.int .i64 v] w fun e w'=>e=.returned (.bool (M.has l v))∧w'=w:=by
 go_enter Tryz.func85,Tryz.ntmps85
 go_wp2_with fail
 go_loopw [5] (fun s5 wr=>∃ n:Nat,s5=.int .i64 n∧n≤l.length∧Hid (∀ i (_:i < n) (h:i < l.length),l[i]≠v)∧wr=w) (fun s5 _=>l.length - (intOf s5).toNat)
 case atStart=>exact ⟨0,rfl,Nat.zero_le _,fun i hi=>absurd hi (Nat.not_lt_zero _),rfl⟩
 case round =>
  obtain ⟨n,rfl,hn,HA,rfl⟩:=hrel
  by_cases hlt:n < l.length
  ·obtain ⟨rfl⟩:=h.addr (by omega)
   have hx:=h.row n hlt
   obtain ⟨y,hy⟩:∃ y,l[n]=y:=⟨_,rfl⟩
   have HY:Hid (l[n]=y):=hy
   rw [hy] at hx
   clear hy
   have i1:(n:Int) < l.length:=by omega
   by_cases e:y=v
   ·subst e
    go_wp2_with fail
    go_ret
    exact ⟨ret_bool (M.has_hit hlt HY.out).symm,rfl⟩
   ·have e':(y==v)=false:=by simpa using e
    go_wp2_with fail
    exact ⟨⟨n+1,by go_num,by omega,fun i hi hl=>by
     by_cases ei:i=n
     ·subst ei;rw [HY.out];exact e
     ·exact HA.out i (by omega) hl,trivial⟩,by simp [intOf];omega⟩
  ·go_wp2_with fail
   go_ret
   exact ⟨ret_bool (M.has_fin (fun i hi=>HA.out i (by omega) hi)).symm,rfl⟩
end
section
open Go.RowKit
theorem step_go {P:Program} {ops:Array Oper} {o:Oper} {a:Act} {w:World} {K:Act→World→Prop} {Q:Exit→Act→World→Prop} {E:Prop}
  (hg:o.guard=none) (f:FuncId) (os:Array Operand) (ts:Array TypeId) (hop:o.op=Op.call { callee:=Callee.value (Operand.func f),args:=os,argTypes:=ts })
  (vals:Array Value) (hv:os.map a.eval=vals) (he:∀ args w,(callFunc f args).run P w=.ok (.enter f args) w) {R:Ending→World→Prop} (hc:Calls P f vals w R)
  (hK:∀ e w',R e w'→∃ v,e=.returned v∧K (a.put o.dst v) w') :
  if Region.wanted o (yielded ops a.tmps)=true then Oper.wp P o a w K Q else E:=by
 have hw:Region.wanted o (yielded ops a.tmps)=true:=by simp [Region.wanted,hg]
 rw [if_pos hw]
 subst hv
 have hr:(execOp a.eval o).run P w=.ok (.enter f (os.map a.eval)) w:=by
  simp [execOp,hop,resolve,invoke,Act.eval,Deferred.ofValue,he]
 unfold Oper.wp
 rw [hr,Oper.upon_enter]
 refine hc.mono fun e w' h=>?_
 obtain ⟨v,rfl,hk⟩:=hK e w' h
 exact hk
theorem step_go2 {P:Program} {ops:Array Oper} {o:Oper} {a:Act} {w:World} {K:Act→World→Prop} {Q:Exit→Act→World→Prop} {E:Prop}
  (hg:o.guard=none) (f:FuncId) (x y:Operand) (ts:Array TypeId) (hop:o.op=Op.call { callee:=Callee.value (Operand.func f),args:=#[x,y],argTypes:=ts })
  (vx vy:Value) (hx:a.eval x=vx) (hy:a.eval y=vy) (he:∀ args w,(callFunc f args).run P w=.ok (.enter f args) w) {R:Ending→World→Prop} (hc:Calls P f #[vx,vy] w R)
  (hK:∀ e w',R e w'→∃ v,e=.returned v∧K (a.put o.dst v) w') :
  if Region.wanted o (yielded ops a.tmps)=true then Oper.wp P o a w K Q else E :=
 step_go hg f #[x,y] ts hop #[vx,vy] (by simp [hx,hy]) he hc hK
theorem step_go3 {P:Program} {ops:Array Oper} {o:Oper} {a:Act} {w:World} {K:Act→World→Prop} {Q:Exit→Act→World→Prop} {E:Prop}
  (hg:o.guard=none) (f:FuncId) (x y z:Operand) (ts:Array TypeId) (hop:o.op=Op.call { callee:=Callee.value (Operand.func f),args:=#[x,y,z],argTypes:=ts })
  (vx vy vz:Value) (hx:a.eval x=vx) (hy:a.eval y=vy) (hz:a.eval z=vz) (he:∀ args w,(callFunc f args).run P w=.ok (.enter f args) w) {R:Ending→World→Prop} (hc:Calls P f #[vx,vy,vz] w R)
  (hK:∀ e w',R e w'→∃ v,e=.returned v∧K (a.put o.dst v) w') :
  if Region.wanted o (yielded ops a.tmps)=true then Oper.wp P o a w K Q else E :=
 step_go hg f #[x,y,z] ts hop #[vx,vy,vz] (by simp [hx,hy,hz]) he hc hK
end
section
namespace M
theorem comp_self (l:List Int):comp l l=0:=by
 induction l with
 | nil=>rfl
 | cons x l ih=>rw [comp,if_neg (by omega),if_neg (by omega)];exact ih
theorem comp_zero:∀ l m:List Int,comp l m=0→l=m
 | [],[],_=>rfl
 | [],_::_,h=>by rw [comp] at h;cases h
 | _::_,[],h=>by rw [comp] at h;cases h
 | x::l,y::m,h=>by
  rw [comp] at h
  by_cases h1:x < y
  ·rw [if_pos h1] at h;cases h
  ·rw [if_neg h1] at h
   by_cases h2:y < x
   ·rw [if_pos h2] at h;cases h
   ·rw [if_neg h2] at h
    rw [comp_zero l m h,show x=y by omega]
theorem comp_neg:∀ l m:List Int,comp m l=- comp l m
 | [],[]=>rfl
 | [],_::_=>rfl
 | _::_,[]=>rfl
 | x::l,y::m=>by
  rw [comp,comp]
  by_cases h1:x < y
  ·rw [if_pos h1,if_neg (by omega),if_pos h1];rfl
  ·by_cases h2:y < x
   ·rw [if_pos h2,if_neg h1,if_pos h2]
   ·rw [if_neg h2,if_neg h1,if_neg h1,if_neg h2];exact comp_neg l m
theorem comp_trans:∀ l m n:List Int,comp l m < 0→comp m n < 0→comp l n < 0
 | [],[],_,h,_=>by rw [comp] at h;omega
 | [],_::_,[],_,h=>by rw [comp] at h;omega
 | [],_::_,_::_,_,_=>by rw [comp];omega
 | _::_,[],_,h,_=>by rw [comp] at h;omega
 | _::_,_::_,[],_,h=>by rw [comp] at h;omega
 | x::l,y::m,z::n,h,k=>by
  rw [comp] at h k ⊢
  by_cases h1:x < y
  ·by_cases k1:y < z
   ·rw [if_pos (by omega)];omega
   ·rw [if_neg k1] at k
    by_cases k2:z < y
    ·rw [if_pos k2] at k;omega
    ·rw [if_pos (by omega)];omega
  ·rw [if_neg h1] at h
   by_cases h2:y < x
   ·rw [if_pos h2] at h;omega
   ·rw [if_neg h2] at h
    by_cases k1:y < z
    ·rw [if_pos (by omega)];omega
    ·rw [if_neg k1] at k
     by_cases k2:z < y
     ·rw [if_pos k2] at k;omega
     ·rw [if_neg k2] at k
      rw [if_neg (by omega),if_neg (by omega)]
      exact comp_trans l m n h k
theorem cmpS_self (a b:List Int):cmpS a b a b=0:=by rw [cmpS,comp_self,if_pos rfl,comp_self]
theorem cmpS_zero {a1 a2 b1 b2:List Int} (h:cmpS a1 a2 b1 b2=0):a1=b1∧a2=b2:=by
 unfold cmpS at h
 by_cases h0:comp a1 b1=0
 ·rw [if_pos h0] at h;exact ⟨comp_zero _ _ h0,comp_zero _ _ h⟩
 ·rw [if_neg h0] at h;exact absurd h h0
theorem cmpS_neg (a1 a2 b1 b2:List Int):cmpS b1 b2 a1 a2=- cmpS a1 a2 b1 b2:=by
 unfold cmpS
 rw [comp_neg a1 b1,comp_neg a2 b2]
 by_cases h0:comp a1 b1=0
 ·rw [if_pos h0,if_pos (by omega)]
 ·rw [if_neg h0,if_neg (by omega)]
theorem cmpS_trans {a1 a2 b1 b2 c1 c2:List Int} (h:cmpS a1 a2 b1 b2 < 0) (k:cmpS b1 b2 c1 c2 < 0):cmpS a1 a2 c1 c2 < 0:=by
 unfold cmpS at h k ⊢
 by_cases h0:comp a1 b1=0
 ·rw [if_pos h0] at h
  have e:=comp_zero _ _ h0
  subst e
  by_cases k0:comp a1 c1=0
  ·rw [if_pos k0] at k ⊢;exact comp_trans _ _ _ h k
  ·rw [if_neg k0] at k ⊢;exact k
 ·rw [if_neg h0] at h
  by_cases k0:comp b1 c1=0
  ·have e:=comp_zero _ _ k0
   subst e
   rw [if_neg h0];exact h
  ·rw [if_neg k0] at k
   have ht:=comp_trans _ _ _ h k
   rw [if_neg (by omega)];exact ht
def same:List Int→List Int→Bool
 | [],[]=>true
 | x::l,y::m=>x==y&&same l m
 | _,_=>false
theorem same_eq:∀ l m:List Int,same l m=true↔l=m
 | [],[]=>by simp [same]
 | [],_::_=>by simp [same]
 | _::_,[]=>by simp [same]
 | x::l,y::m=>by simp [same,same_eq l m]
def sameS (a1 a2 b1 b2:List Int):Bool:=same a1 b1&&same a2 b2
theorem sameS_eq (a1 a2 b1 b2:List Int):sameS a1 a2 b1 b2=decide (cmpS a1 a2 b1 b2=0):=by
 by_cases h:cmpS a1 a2 b1 b2=0
 ·obtain ⟨rfl,rfl⟩:=cmpS_zero h
  simp [sameS,h,(same_eq _ _).2]
 ·rw [decide_eq_false h]
  by_cases h1:a1=b1
  ·by_cases h2:a2=b2
   ·subst h1;subst h2;exact absurd (cmpS_self _ _) h
   ·have:same a2 b2=false:=by
     cases e:same a2 b2
     ·rfl
     ·exact absurd ((same_eq _ _).1 e) h2
    rw [sameS,this,Bool.and_false]
  ·have:same a1 b1=false:=by
    cases e:same a1 b1
    ·rfl
    ·exact absurd ((same_eq _ _).1 e) h1
   rw [sameS,this,Bool.false_and]
theorem same_len {l m:List Int} (h:l.length≠m.length):same l m=false:=by
 cases e:same l m
 ·rfl
 ·exact absurd (congrArg List.length ((same_eq _ _).1 e)) h
theorem same_bad {l m:List Int} {n:Nat} {x y:Int} (hd:l.drop n=x::l.drop (n+1)) (hm:m.drop n=y::m.drop (n+1)) (hxy:¬ x=y):same l m=false:=by
 cases e:same l m
 ·rfl
 ·have:=(same_eq _ _).1 e
  subst this
  rw [hd] at hm
  simp at hm
  exact absurd hm hxy
theorem same_fin {l m:List Int} (hl:l.length=m.length) (h:∀ q (h1:q < l.length) (h2:q < m.length),l[q]=m[q]):same l m=true :=
 (same_eq _ _).2 (List.ext_getElem hl h)
end M
end
section
abbrev Ky:=List Int × List Int
namespace M
def cmpK (a b:Ky):Int:=cmpS a.1 a.2 b.1 b.2
theorem cmpK_zero {a b:Ky} (h:cmpK a b=0):a=b:=by
 obtain ⟨h1,h2⟩:=cmpS_zero h
 exact Prod.ext h1 h2
theorem cmpK_neg (a b:Ky):cmpK b a=- cmpK a b:=cmpS_neg _ _ _ _
theorem cmpK_trans {a b c:Ky} (h:cmpK a b < 0) (k:cmpK b c < 0):cmpK a c < 0:=cmpS_trans h k
def Asc (l:List Ky):Prop:=l.Pairwise fun a b=>cmpK a b < 0
def putIn:List Ky→Ky→List Ky
 | [],k=>[k]
 | x::l,k=>if cmpK x k=0 then x::l else if 0 < cmpK x k then k::x::l else x::putIn l k
theorem mem_putIn (l:List Ky) (k x:Ky):x∈putIn l k↔x=k∨x∈l:=by
 induction l with
 | nil=>simp [putIn]
 | cons y l ih =>
  rw [putIn]
  by_cases h0:cmpK y k=0
  ·rw [if_pos h0]
   have:=cmpK_zero h0
   subst this
   simp
  ·rw [if_neg h0]
   by_cases h1:0 < cmpK y k
   ·rw [if_pos h1];simp
   ·rw [if_neg h1]
    simp only [List.mem_cons,ih]
    constructor
    ·rintro (h | h | h)
     ·exact Or.inr (Or.inl h)
     ·exact Or.inl h
     ·exact Or.inr (Or.inr h)
    ·rintro (h | h | h)
     ·exact Or.inr (Or.inl h)
     ·exact Or.inl h
     ·exact Or.inr (Or.inr h)
theorem asc_putIn {l:List Ky} (h:Asc l) (k:Ky):Asc (putIn l k):=by
 induction l with
 | nil=>simp [putIn,Asc]
 | cons y l ih =>
  have h':=List.pairwise_cons.1 h
  rw [putIn]
  by_cases h0:cmpK y k=0
  ·rw [if_pos h0];exact h
  ·rw [if_neg h0]
   by_cases h1:0 < cmpK y k
   ·rw [if_pos h1]
    refine List.pairwise_cons.2 ⟨fun z hz=>?_,h⟩
    have hky:cmpK k y < 0:=by have:=cmpK_neg y k;omega
    rcases List.mem_cons.1 hz with e | hz
    ·rw [e];exact hky
    ·exact cmpK_trans hky (h'.1 z hz)
   ·rw [if_neg h1]
    refine List.pairwise_cons.2 ⟨fun z hz=>?_,ih h'.2⟩
    rcases (mem_putIn l k z).1 hz with e | hz
    ·rw [e];omega
    ·exact h'.1 z hz
def sortK (l:List Ky):List Ky:=l.foldl putIn []
theorem foldl_mem (l:List Ky):∀ (a:List Ky) (x:Ky),x∈l.foldl putIn a↔x∈a∨x∈l:=by
 induction l with
 | nil=>intro a x;simp
 | cons y l ih =>
  intro a x
  rw [List.foldl_cons,ih,mem_putIn]
  simp only [List.mem_cons]
  constructor
  ·rintro ((h | h) | h)
   ·exact Or.inr (Or.inl h)
   ·exact Or.inl h
   ·exact Or.inr (Or.inr h)
  ·rintro (h | h | h)
   ·exact Or.inl (Or.inr h)
   ·exact Or.inl (Or.inl h)
   ·exact Or.inr h
theorem foldl_asc (l:List Ky):∀ (a:List Ky),Asc a→Asc (l.foldl putIn a):=by
 induction l with
 | nil=>intro a h;exact h
 | cons y l ih=>intro a h;exact ih _ (asc_putIn h y)
theorem mem_sortK (l:List Ky) (x:Ky):x∈sortK l↔x∈l:=by rw [sortK,foldl_mem];simp
end M
end
section
open Go.RowKit
theorem ret_i {a b:Int} (h:a=b):Ending.returned (.int .i64 a)=.returned (.int .i64 b):=by rw [h]
theorem isNaN_any (x:Int) (w:World) :
  Calls Tryz.prog 203 #[.int .i64 x] w fun e w'=>e=.returned (.bool false)∧w'=w:=by
 go_enter Tryz.func203,Tryz.ntmps203
 go_wp2
 go_ret
 exact ⟨rfl,rfl⟩
def cmp3 (x y:Int):Int:=if x < y then -1 else if y < x then 1 else 0
theorem compare_any (x y:Int) (w:World) :
  Calls Tryz.prog 172 #[.int .i64 x,.int .i64 y] w fun e w'=>e=.returned (.int .i64 (cmp3 x y))∧w'=w:=by
 by_cases h1:x < y
 ·go_enter Tryz.func172,Tryz.ntmps172
  go_wp2_with (go_at_call 203;refine (isNaN_any _ _).mono ?_;rintro e w' ⟨rfl,rfl⟩)
  go_ret
  exact ⟨ret_i (by simp [cmp3,h1]),rfl⟩
 ·by_cases h2:y < x
  ·go_enter Tryz.func172,Tryz.ntmps172
   go_wp2_with (go_at_call 203;refine (isNaN_any _ _).mono ?_;rintro e w' ⟨rfl,rfl⟩)
   go_ret
   exact ⟨ret_i (by simp [cmp3,h1,h2]),rfl⟩
  ·go_enter Tryz.func172,Tryz.ntmps172
   go_wp2_with (go_at_call 203;refine (isNaN_any _ _).mono ?_;rintro e w' ⟨rfl,rfl⟩)
   go_ret
   exact ⟨ret_i (by rw [cmp3,if_neg (by omega),if_neg (by omega)]),rfl⟩
set_option maxHeartbeats 400000 in
theorem slcmp_any (a:Option Addr) (b o c:Nat) (l:List Int) (a2:Option Addr) (b2 o2 c2:Nat) (m:List Int) (w:World) (hl:l.length≤1048576) (hm:m.length≤1048576) (h:IntS w a b o l) (h2:IntS w a2 b2 o2 m) :
  Calls Tryz.prog 122 #[.slice a l.length c,.slice a2 m.length c2] w fun e w'=>e=.returned (.int .i64 (M.comp l m))∧w'=w:=by
 go_enter Tryz.func122,Tryz.ntmps122
 go_wp2_with fail
 go_loopw [11] (fun s11 wr=>∃ n:Nat,s11=.int .i64 n∧n≤l.length∧n≤m.length∧M.comp l m=M.comp (l.drop n) (m.drop n)∧wr=w) (fun s11 _=>l.length - (intOf s11).toNat)
 case atStart=>exact ⟨0,rfl,Nat.zero_le _,Nat.zero_le _,rfl,rfl⟩
 case round =>
  obtain ⟨n,rfl,hn,hnm,hpass,rfl⟩:=hrel
  have HP:Hid (M.comp l m=M.comp (l.drop n) (m.drop n)):=hpass
  clear hpass
  by_cases hlt:n < l.length
  ·obtain ⟨rfl⟩:=h.addr (by omega)
   have HD:Hid (l.drop n=l[n]::l.drop (n+1)):=M.drop_int l n hlt
   have hc:=h.row n hlt
   generalize l[n]=x at HD hc
   by_cases hmt:n < m.length
   ·obtain ⟨rfl⟩:=h2.addr (by omega)
    have HD2:Hid (m.drop n=m[n]::m.drop (n+1)):=M.drop_int m n hmt
    have hc2:=h2.row n hmt
    generalize m[n]=y at HD2 hc2
    by_cases h1:x < y
    ·have e3:cmp3 x y=-1:=by simp [cmp3,h1]
     go_wp2_with (go_at_call 172;refine (compare_any _ _ _).mono ?_;rw [e3];rintro e w' ⟨rfl,rfl⟩)
     go_ret
     exact ⟨ret_i (M.comp_lt HP.out HD.out HD2.out h1).symm,rfl⟩
    ·by_cases h2':y < x
     ·have e3:cmp3 x y=1:=by simp [cmp3,h1,h2']
      go_wp2_with (go_at_call 172;refine (compare_any _ _ _).mono ?_;rw [e3];rintro e w' ⟨rfl,rfl⟩)
      go_ret
      exact ⟨ret_i (M.comp_gt HP.out HD.out HD2.out h2').symm,rfl⟩
     ·have e3:cmp3 x y=0:=by simp [cmp3,h1,h2']
      go_wp2_with (go_at_call 172;refine (compare_any _ _ _).mono ?_;rw [e3];rintro e w' ⟨rfl,rfl⟩)
      exact ⟨⟨n+1,by go_num,by omega,by omega,M.comp_eq HP.out HD.out HD2.out (by omega) (by omega),trivial⟩,by simp [intOf];omega⟩
   ·have hmt':(m.length:Int)≤n:=by omega
    go_wp2_with fail
    go_ret
    exact ⟨ret_i (M.comp_snd HP.out hlt (by omega)).symm,rfl⟩
  ·by_cases hmt:n < m.length
   ·have e1:(l.length:Int) < m.length:=by omega
    go_wp2_with fail
    go_ret
    exact ⟨ret_i (M.comp_fst HP.out (by omega) hmt).symm,rfl⟩
   ·have e1:¬ (l.length:Int) < m.length:=by omega
    go_wp2_with fail
    go_ret
    exact ⟨ret_i (M.comp_fin HP.out (by omega) (by omega)).symm,rfl⟩
set_option maxHeartbeats 400000 in
theorem or_any (b:Nat) (x y:Int) (w:World) (hx:w.cell? ⟨b,0,none⟩=some (.int .i64 x)) (hy:w.cell? ⟨b,1,none⟩=some (.int .i64 y)) :
  Calls Tryz.prog 121 #[.slice (some ⟨b,0,none⟩) 2 2] w fun e w'=>e=.returned (.int .i64 (if x=0 then y else x))∧w'=w:=by
 by_cases h0:x=0
 ·subst h0
  by_cases h1:y=0
  ·subst h1
   go_enter Tryz.func121,Tryz.ntmps121
   go_wp2_with fail
   refine wp_loop_rounds 3 ?_
   rw [rounds_succ]
   go_wp2_with fail
   rw [rounds_succ]
   go_wp2_with fail
   rw [rounds_succ]
   go_wp2_with fail
   go_ret
   exact ⟨ret_i (by simp),rfl⟩
  ·have h1':(y==0)=false:=by simpa using h1
   go_enter Tryz.func121,Tryz.ntmps121
   go_wp2_with fail
   refine wp_loop_rounds 3 ?_
   rw [rounds_succ]
   go_wp2_with fail
   rw [rounds_succ]
   go_wp2_with fail
   go_ret
   exact ⟨ret_i (by simp),rfl⟩
 ·have h0':(x==0)=false:=by simpa using h0
  go_enter Tryz.func121,Tryz.ntmps121
  go_wp2_with fail
  refine wp_loop_rounds 3 ?_
  rw [rounds_succ]
  go_wp2_with fail
  go_ret
  exact ⟨ret_i (by simp),rfl⟩
end
section
open Go.RowKit
theorem alloc2 (w:World) (x y:Obj):Grown w ((w.alloc x).alloc y):=((Grown.refl w).alloc x).alloc y
set_option maxHeartbeats 1000000 in
set_option maxRecDepth 100000 in
theorem compareSeen_any (s t:Sn) (w:World) (hs:s.Le 1048576) (ht:t.Le 1048576) (hsa:s.At w) (hta:t.At w) :
  Calls Tryz.prog 56 #[.agg #[.slice s.a1 s.l1.length s.c1,.slice s.a2 s.l2.length s.c2],.agg #[.slice t.a1 t.l1.length t.c1,.slice t.a2 t.l2.length t.c2]] w fun e w'=>e=.returned (.int .i64 (M.cmpS s.l1 s.l2 t.l1 t.l2))∧Grown w w':=by
 obtain ⟨a1,b1,o1,c1,l1,a2,b2,o2,c2,l2⟩:=s
 obtain ⟨d1,e1,f1,g1,m1,d2,e2,f2,g2,m2⟩:=t
 obtain ⟨hs1,hs2⟩:=hs
 obtain ⟨ht1,ht2⟩:=ht
 obtain ⟨as1,as2⟩:=hsa
 obtain ⟨at1,at2⟩:=hta
 simp only at hs1 hs2 ht1 ht2 as1 as2 at1 at2
 go_enter Tryz.func56,Tryz.ntmps56
 go_wp2_with fail
 have hg0:Grown w (((w.alloc (.cells #[.slice a1 l1.length c1,.slice a2 l2.length c2] 45)).alloc (.cells #[.slice d1 m1.length g1,.slice d2 m2.length g2] 45))):=alloc2 w _ _
 have k1:((w.alloc (.cells #[.slice a1 l1.length c1,.slice a2 l2.length c2] 45)).alloc (.cells #[.slice d1 m1.length g1,.slice d2 m2.length g2] 45)).cell? ⟨w.heap.size,0,none⟩=some (.slice a1 l1.length c1):=by simp
 have k2:((w.alloc (.cells #[.slice a1 l1.length c1,.slice a2 l2.length c2] 45)).alloc (.cells #[.slice d1 m1.length g1,.slice d2 m2.length g2] 45)).cell? ⟨w.heap.size,1,none⟩=some (.slice a2 l2.length c2):=by simp
 have k3:((w.alloc (.cells #[.slice a1 l1.length c1,.slice a2 l2.length c2] 45)).alloc (.cells #[.slice d1 m1.length g1,.slice d2 m2.length g2] 45)).cell? ⟨w.heap.size+1,0,none⟩=some (.slice d1 m1.length g1):=by simp
 have k4:((w.alloc (.cells #[.slice a1 l1.length c1,.slice a2 l2.length c2] 45)).alloc (.cells #[.slice d1 m1.length g1,.slice d2 m2.length g2] 45)).cell? ⟨w.heap.size+1,1,none⟩=some (.slice d2 m2.length g2):=by simp
 generalize (w.alloc (.cells #[.slice a1 l1.length c1,.slice a2 l2.length c2] 45)).alloc (.cells #[.slice d1 m1.length g1,.slice d2 m2.length g2] 45)=W at *
 have x1:=as1.below hg0.drew.bel (Nat.le_refl _)
 have x2:=as2.below hg0.drew.bel (Nat.le_refl _)
 have y1:=at1.below hg0.drew.bel (Nat.le_refl _)
 have y2:=at2.below hg0.drew.bel (Nat.le_refl _)
 generalize w.heap.size=B at *
 have C1:=slcmp_any a1 b1 o1 c1 l1 d1 e1 f1 g1 m1 _ hs1 ht1 x1 y1
 have C2:=slcmp_any a2 b2 o2 c2 l2 d2 e2 f2 g2 m2 _ hs2 ht2 x2 y2
 obtain ⟨r1,hr1⟩:∃ r,M.comp l1 m1=r:=⟨_,rfl⟩
 obtain ⟨r2,hr2⟩:∃ r,M.comp l2 m2=r:=⟨_,rfl⟩
 obtain ⟨ro,hro⟩:∃ r,(if r1=0 then r2 else r1)=r:=⟨_,rfl⟩
 have hcs:M.cmpS l1 l2 m1 m2=ro:=by unfold M.cmpS;rw [hr1,hr2,hro]
 have HR:Hid (M.cmpS l1 l2 m1 m2=ro):=hcs
 have C3:∀ b W',W'.cell? ⟨b,0,none⟩=some (.int .i64 r1)→W'.cell? ⟨b,1,none⟩=some (.int .i64 r2)→Calls Tryz.prog 121 #[.slice (some ⟨b,0,none⟩) 2 2] W' fun e w'=>e=.returned (.int .i64 ro)∧w'=W':=fun b W' h1 h2=>by have h:=or_any b r1 r2 W' h1 h2;rwa [hro] at h
 clear hcs hro
 rw [hr1] at C1
 rw [hr2] at C2
 clear hr1 hr2
 clear as1 as2 at1 at2 x1 x2 y1 y2 hs1 hs2 ht1 ht2
 generalize l1.length=n1 at *
 generalize l2.length=n2 at *
 generalize m1.length=p1 at *
 generalize m2.length=p2 at *
 go_region_held3 (fun w'=>w'.cell? ⟨B,0,none⟩=some (.slice a1 n1 c1)∧w'.cell? ⟨B,1,none⟩=some (.slice a2 n2 c2)∧w'.cell? ⟨B+1,0,none⟩=some (.slice d1 p1 g1)∧w'.cell? ⟨B+1,1,none⟩=some (.slice d2 p2 g2)) (go_keep) (first
  | (go_at_call_of 122 (Value.slice a1 n1 c1);refine C1.mono ?_;rintro e w' ⟨rfl,rfl⟩)
  | (go_at_call_of 122 (Value.slice a2 n2 c2);refine C2.mono ?_;rintro e w' ⟨rfl,rfl⟩)
  | (go_at_call 121;refine (C3 _ _ ?_ ?_).mono ?_;(simp);(simp);rintro e w' ⟨rfl,rfl⟩))
 go_wp2_with fail
 go_ret
 exact ⟨ret_i HR.out.symm,(hg0.alloc _).drew⟩
set_option maxHeartbeats 1000000 in
theorem l2Comp_any (a:Option Addr) (b o c:Nat) (l:List Int) (a2:Option Addr) (b2 o2 c2:Nat) (m:List Int) (w:World) (hl:l.length≤1048576) (hm:m.length≤1048576) (h:IntS w a b o l) (h2:IntS w a2 b2 o2 m) :
  Calls Tryz.prog 114 #[.slice a l.length c,.slice a2 m.length c2] w fun e w'=>e=.returned (.int .i64 (M.comp l m))∧Grown w w':=by
 go_enter Tryz.func114,Tryz.ntmps114
 go_wp2_with fail
 go_loopw [5] (fun s5 wr=>∃ n:Nat,s5=.int .i64 n∧n≤l.length∧n≤m.length∧M.comp l m=M.comp (l.drop n) (m.drop n)∧Grown w wr) (fun s5 _=>l.length - (intOf s5).toNat)
 case atStart=>exact ⟨0,rfl,Nat.zero_le _,Nat.zero_le _,rfl,Grown.refl _⟩
 case round =>
  obtain ⟨n,rfl,hn,hnm,hpass,hg⟩:=hrel
  have HP:Hid (M.comp l m=M.comp (l.drop n) (m.drop n)):=hpass
  clear hpass
  by_cases hlt:n < l.length
  ·obtain ⟨rfl⟩:=h.addr (by omega)
   have HD:Hid (l.drop n=l[n]::l.drop (n+1)):=M.drop_int l n hlt
   have hc:=(h.below hg.bel (Nat.le_refl _)).row n hlt
   generalize l[n]=x at HD hc
   have i1:(n:Int) < l.length:=by omega
   by_cases hmt:n < m.length
   ·obtain ⟨rfl⟩:=h2.addr (by omega)
    have HD2:Hid (m.drop n=m[n]::m.drop (n+1)):=M.drop_int m n hmt
    have hc2:=(h2.below hg.bel (Nat.le_refl _)).row n hmt
    generalize m[n]=y at HD2 hc2
    have i2:(n:Int) < m.length:=by omega
    by_cases h1:x < y
    ·go_wp2_with fail
     go_quiet (fail)
     go_wp2_with fail
     go_ret
     exact ⟨ret_i (M.comp_lt HP.out HD.out HD2.out h1).symm,hg.drewN _⟩
    ·by_cases h2':y < x
     ·go_wp2_with fail
      go_quiet (fail)
      go_wp2_with fail
      go_quiet (fail)
      go_wp2_with fail
      go_ret
      exact ⟨ret_i (M.comp_gt HP.out HD.out HD2.out h2').symm,(hg.drewN _).drewN _⟩
     ·go_wp2_with fail
      go_quiet (fail)
      go_wp2_with fail
      go_quiet (fail)
      go_wp2_with fail
      exact ⟨⟨n+1,by go_num,by omega,by omega,M.comp_eq HP.out HD.out HD2.out (by omega) (by omega),hg.drewN _⟩,by simp [intOf];omega⟩
   ·have hmt':decide ((n:Int) < m.length)=false:=by simp;omega
    have e1:¬ (l.length:Int) < m.length:=by omega
    have e2:(m.length:Int) < l.length:=by omega
    go_wp2_with fail
    go_ret
    exact ⟨ret_i (M.comp_snd HP.out hlt (by omega)).symm,hg⟩
  ·have i1:decide ((n:Int) < l.length)=false:=by simp;omega
   by_cases hmt:n < m.length
   ·have e1:(l.length:Int) < m.length:=by omega
    go_wp2_with fail
    go_ret
    exact ⟨ret_i (M.comp_fst HP.out (by omega) hmt).symm,hg⟩
   ·have e1:¬ (l.length:Int) < m.length:=by omega
    have e2:¬ (m.length:Int) < l.length:=by omega
    go_wp2_with fail
    go_ret
    exact ⟨ret_i (M.comp_fin HP.out (by omega) (by omega)).symm,hg⟩
set_option maxHeartbeats 400000 in
theorem l2Seen_any (s t:Sn) (w:World) (hs:s.Le 1048576) (ht:t.Le 1048576) (hsa:s.At w) (hta:t.At w) :
  Calls Tryz.prog 53 #[.agg #[.slice s.a1 s.l1.length s.c1,.slice s.a2 s.l2.length s.c2],.agg #[.slice t.a1 t.l1.length t.c1,.slice t.a2 t.l2.length t.c2]] w fun e w'=>e=.returned (.int .i64 (M.cmpS s.l1 s.l2 t.l1 t.l2))∧Grown w w':=by
 have hga:=hsa.grown (alloc2 w (.cells #[.slice s.a1 s.l1.length s.c1,.slice s.a2 s.l2.length s.c2] 45) (.cells #[.slice t.a1 t.l1.length t.c1,.slice t.a2 t.l2.length t.c2] 45))
 have hgb:=hta.grown (alloc2 w (.cells #[.slice s.a1 s.l1.length s.c1,.slice s.a2 s.l2.length s.c2] 45) (.cells #[.slice t.a1 t.l1.length t.c1,.slice t.a2 t.l2.length t.c2] 45))
 have C1:=l2Comp_any s.a1 s.b1 s.o1 s.c1 s.l1 t.a1 t.b1 t.o1 t.c1 t.l1 _ hs.reads ht.reads hga.reads hgb.reads
 obtain ⟨r1,hr1⟩:∃ r,M.comp s.l1 t.l1=r:=⟨_,rfl⟩
 rw [hr1] at C1
 by_cases h0:r1=0
 ·subst h0
  go_enter Tryz.func53,Tryz.ntmps53
  go_wp2_with fail
  refine C1.mono ?_
  rintro e w1 ⟨rfl,hg1⟩
  obtain ⟨hc1,hf1⟩:=bcell hg1.bel
  have C2:=l2Comp_any s.a2 s.b2 s.o2 s.c2 s.l2 t.a2 t.b2 t.o2 t.c2 t.l2 _ hs.last ht.last (hga.grown hg1).last (hgb.grown hg1).last
  go_wp2_with fail
  refine C2.mono ?_
  rintro e w2 ⟨rfl,hg2⟩
  go_wp2_with fail
  go_ret
  exact ⟨ret_i (by simp [M.cmpS,hr1]),((alloc2 w _ _).trans hg1).trans hg2⟩
 ·have h0':(r1==0)=false:=by simpa using h0
  go_enter Tryz.func53,Tryz.ntmps53
  go_wp2_with fail
  refine C1.mono ?_
  rintro e w1 ⟨rfl,hg1⟩
  go_wp2_with fail
  go_ret
  exact ⟨ret_i (by simp [M.cmpS,hr1,h0]),(alloc2 w _ _).trans hg1⟩
end
section
open Go.RowKit
def Sn.ky (s:Sn):Ky:=(s.l1,s.l2)
structure SR (W:World) (g:Nat) (ss:List Sn):Prop where
 c:∀ i (h:i < ss.length),W.cell? ⟨g,i * 2,none⟩=some (.slice ss[i].a1 ss[i].l1.length ss[i].c1)∧W.cell? ⟨g,i * 2+1,none⟩=some (.slice ss[i].a2 ss[i].l2.length ss[i].c2)
 fz:∀ j,W.frozen? ⟨g,j,none⟩=false
theorem SR.below {W W':World} {g:Nat} {ss:List Sn} (h:SR W g ss) (hb:Below W.heap.size W W') (hl:g < W.heap.size):SR W' g ss :=
 ⟨fun i hi=>⟨(hb.cell (p:=⟨g,i * 2,none⟩) hl).trans (h.c i hi).1,(hb.cell (p:=⟨g,i * 2+1,none⟩) hl).trans (h.c i hi).2⟩,fun j=>(hb.frozen (p:=⟨g,j,none⟩) hl).trans (h.fz j)⟩
end
section
open Go.RowKit
theorem calls_bel {P:Program} {f:FuncId} {args:Array Value} {W:World} {v:Value} (h:Calls P f args W fun e w'=>e=.returned v∧Grown W w'):Calls P f args W fun e w'=>e=.returned v∧Below W.heap.size W w':=h.mono fun _ _ ⟨he,hg⟩=>⟨he,hg.bel⟩
def kys (ss:List Sn):List Ky:=ss.map Sn.ky
theorem Tryz.infoSeen:(Tryz.prog.info? 45).map (fun i=>(i.zero,i.size,i.bytes))=some (some (.agg #[.slice none 0 0,.slice none 0 0]),2,48):=by kernel_rfl
theorem kys_len (ss:List Sn):(kys ss).length=ss.length:=by simp [kys]
theorem kys_get (ss:List Sn) {n:Nat} (h:n < ss.length) (h':n < (kys ss).length):(kys ss)[n]=ss[n].ky:=by simp [kys]
namespace M
end M
end
section
open Go.RowKit
abbrev Key:=List Int × List Int
def KLe (ks:List Key) (n:Nat):Prop:=∀ k∈ks,k.1.length≤n∧k.2.length≤n
namespace M
end M
end
section
open Go.RowKit
def flatS:List Sn→List Value
 | []=>[]
 | s::l=>.slice s.a1 s.l1.length s.c1::.slice s.a2 s.l2.length s.c2::flatS l
theorem flatS_append (l m:List Sn):flatS (l++m)=flatS l++flatS m:=by
 induction l with
 | nil=>rfl
 | cons s l ih=>simp [flatS,ih]
theorem flatS_get (l:List Sn):∀ i (h:i < l.length),(flatS l)[i * 2]?=some (.slice l[i].a1 l[i].l1.length l[i].c1)∧(flatS l)[i * 2+1]?=some (.slice l[i].a2 l[i].l2.length l[i].c2):=by
 induction l with
 | nil=>intro i h;exact absurd h (Nat.not_lt_zero _)
 | cons s l ih =>
  intro i h
  cases i with
  | zero=>exact ⟨rfl,rfl⟩
  | succ i =>
   obtain ⟨h0,h1⟩:=ih i (by simpa using h)
   have e:(i+1) * 2=i * 2+2:=by omega
   rw [e]
   exact ⟨by simpa [flatS] using h0,by simpa [flatS] using h1⟩
end
section
open Go.RowKit
theorem Tryz.info94:(Tryz.prog.info? 94).map (fun i=>(i.zero,i.size,i.bytes))=some (some (.agg #[.int .i64 0,.int .i64 0,.int .i64 0]),3,24):=by kernel_rfl
theorem Tryz.info97:(Tryz.prog.info? 97).map (fun i=>(i.zero,i.size,i.bytes))=some (some (.slice none 0 0),1,24):=by kernel_rfl
structure Part (w wr:World) (l:List M.D) (n:Nat):Prop where
 bel:Below w.heap.size w wr
 own:∃ f,wr.rowIs w.heap.size 94 (l.length * 3) f
 done:∀ q (_:q < n) (h:q < l.length),DoAt wr w.heap.size (q * 3) l[q]
theorem cell_other {w:World} {b i j:Nat} {u:Value} (h:i≠j):(w.setCell ⟨b,i,none⟩ u).cell? ⟨b,j,none⟩=w.cell? ⟨b,j,none⟩ :=
 World.cell?_setCell_other _ _ _ _ (fun e=>h (by have:=congrArg Addr.off e;simp at this;omega))
theorem part_step {w wr w1:World} {l:List M.D} {n:Nat} {k p v:Int} (hp:Part w wr l n) (hlt:n < l.length) (hb1:Below wr.heap.size wr w1) (hd:l[n]=⟨k,p,v⟩) :
  Part w (((w1.setCell ⟨w.heap.size,n * 3,none⟩ (.int .i64 k)).setCell ⟨w.heap.size,n * 3+1,none⟩ (.int .i64 p)).setCell ⟨w.heap.size,n * 3+2,none⟩ (.int .i64 v)) l (n+1):=by
 obtain ⟨f,hf⟩:=hp.own
 have hlb:=hf.lt
 have hf1:w1.rowIs w.heap.size 94 (l.length * 3) f:=hf.of_block (hb1.block _ hlb)
 have hr:=((hf1.set (n * 3) (.int .i64 k)).set (n * 3+1) (.int .i64 p)).set (n * 3+2) (.int .i64 v)
 refine ⟨(((hp.bel.trans (hb1.mono hp.bel.size)).setCell (Nat.le_refl _) _).setCell (Nat.le_refl _) _).setCell (Nat.le_refl _) _,⟨_,hr⟩,fun q hq hql=>?_⟩
 by_cases e:q=n
 ·subst e
  rw [hd]
  refine ⟨?_,?_,?_⟩
  ·rw [hr.cell (by omega)];simp
  ·rw [hr.cell (by omega)];simp
  ·rw [hr.cell (by omega)];simp
 ·obtain ⟨ck,cp,cv⟩:=(hp.done q (by omega) hql).below hb1 (Nat.le_refl _)
  refine ⟨?_,?_,?_⟩
  ·rw [cell_other (by omega),cell_other (by omega),cell_other (by omega)];exact ck
  ·rw [cell_other (by omega),cell_other (by omega),cell_other (by omega)];exact cp
  ·rw [cell_other (by omega),cell_other (by omega),cell_other (by omega)];exact cv
end
end Go.Proofs.YtmhpgdliaclokaaGreat
