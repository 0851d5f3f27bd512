/- Cells of literals; a row of steps more; steps as the cells of their row. No condition. And what goes with it: TnB0, WlMath, WlGap, WlOk, WlPut, WlSp. -/
import Derived.BigQuiet
import Derived.Deep.AppendLies
import Derived.Deep.QuietTactic
import Derived.Deep.RegionHeld3
import Derived.Deep.RegionWith
import Derived.Laws.OwnMore
import Derived.Sort.Grow
import Derived.WalkKit
import Derived.WalkLawsBesides
import Derived.WalkSpells
import Derived.Test.YtjjkicffhpcngaaGreatRows
import Derived.Test.YtjjkicffhpcngaaGreatBYba
import Derived.Test.YtjjkicffhpcngaaGreatBYbd
namespace Go.Proofs.YtjjkicffhpcngaaGreat
open Go.RowKit
theorem own_more {w:World} {B:Nat} {v:Value} {l m:List M.D} {d:M.D} (hm:m=l++[d]) (h:w.ownsRow B 43 3 v (l.length+1) (flat l++[.int .i64 d.k,.int .i64 d.p,.int .i64 d.v])):w.ownsRow B 43 3 v m.length (flat m):=by
 subst hm;rw [flat_append,List.length_append];exact h
theorem cells_new3 (w:World) (x y z:Value) (t:TypeId) (N:Nat) (hN:N=w.heap.size):∀ (j:Nat) (u:Value),[x,y,z][j]?=some u→(w.alloc (.cells #[x,y,z] t)).cell? ((⟨N,0,none⟩:Addr).add j)=some u:=by
 subst hN
 intro j u hj
 match j,hj with
 | 0,hj=>simp at hj;subst hj;simp [Addr.add]
 | 1,hj=>simp at hj;subst hj;simp [Addr.add]
 | 2,hj=>simp at hj;subst hj;simp [Addr.add]
theorem one3 (x y z:Int):∀ u∈[Value.int .i64 x,Value.int .i64 y,Value.int .i64 z],u.oneCell'=true:=by
 intro u hu;simp at hu;rcases hu with rfl | rfl | rfl<;>rfl
end Go.Proofs.YtjjkicffhpcngaaGreat
namespace Go.Proofs.YtjjkicffhpcngaaGreat
namespace M
def gapsN:List (List D)→Nat
 | []=>0
 | t::ll=>(t.length - 1)+gapsN ll
def gaps (ll:List (List D)):Int:=if prog ll then gapsN ll else -1
theorem gaps_no {ll:List (List D)} (h:prog ll=false):gaps ll=-1:=by simp [gaps,h]
theorem gaps_ok {ll:List (List D)} (h:prog ll=true):gaps ll=gapsN ll:=by simp [gaps,h]
theorem gapsN_step {l:List (List D)} {m n:Nat} {t:List D} (hp:gapsN l=m+gapsN (l.drop n)) (hd:l.drop n=t::l.drop (n+1)):gapsN l=(m+(t.length - 1))+gapsN (l.drop (n+1)):=by
 rw [hp,hd,gapsN];omega
theorem gapsN_fin {l:List (List D)} {m n:Nat} (hp:gapsN l=m+gapsN (l.drop n)) (hn:l.length≤n):m=gapsN l:=by
 rw [hp,List.drop_eq_nil_of_le hn];rfl
theorem gapsN_le {ll:List (List D)} (h7:∀ t∈ll,t.length≤7):gapsN ll≤6 * ll.length:=by
 induction ll with
 | nil=>simp [gapsN]
 | cons t ll ih =>
  have:=h7 t (by simp)
  have:=ih (fun t ht=>h7 t (List.mem_cons_of_mem _ ht))
  simp only [gapsN,List.length_cons]
  omega
def gapsFrom (last many:Int):List Int→Bool
 | []=>true
 | g::gs=>decide (last < g)&&decide (g < many)&&gapsFrom g many gs
def gapsOk (gs:List Int) (many:Int):Bool:=gapsFrom (-1) many gs
def lastG (gs:List Int) (n:Nat):Int:=if n=0 then -1 else gs.getD (n - 1) 0
theorem lastOf_succ (gs:List Int) (n:Nat) (h:n < gs.length):lastG gs (n+1)=gs[n]:=by
 simp [lastG,List.getD_eq_getElem?_getD,List.getElem?_eq_getElem h]
theorem gapsFrom_step {gs:List Int} {many:Int} {n:Nat} {g:Int} (h:gapsOk gs many=gapsFrom (lastG gs n) many (gs.drop n)) (hn:n < gs.length) (hg:gs[n]=g) :
  gapsOk gs many=(decide (lastG gs n < g)&&decide (g < many)&&gapsFrom (lastG gs (n+1)) many (gs.drop (n+1))):=by
 rw [h,← List.getElem_cons_drop hn,gapsFrom,lastOf_succ gs n hn,hg]
theorem gapsFrom_fin {gs:List Int} {many:Int} {n:Nat} (h:gapsOk gs many=gapsFrom (lastG gs n) many (gs.drop n)) (hn:gs.length≤n):gapsOk gs many=true:=by
 rw [h,List.drop_eq_nil_of_le hn];rfl
theorem pre_no {gs:List Int} {n:Nat} (h:has gs (n:Int)=false):pre gs n=[]:=by unfold pre;rw [h];rfl
theorem pre_yes {gs:List Int} {n:Nat} (h:has gs (n:Int)=true):pre gs n=[wall]:=by unfold pre;rw [h];rfl
def wallR (gs:List Int) (n:Nat):List D→List D
 | []=>[]
 | d::l=>pre gs n++d::wallR gs (n+1) l
def wallT (gs:List Int) (n:Nat):List D→List D
 | []=>[]
 | d::l=>d::wallR gs n l
def walls (gs:List Int) (n:Nat):List (List D)→List (List D)
 | []=>[]
 | t::ll=>wallT gs n t::walls gs (n+(t.length - 1)) ll
theorem wallR_snoc (gs:List Int) (d:D) (l:List D):∀ n,wallR gs n (l++[d])=wallR gs n l++pre gs (n+l.length)++[d]:=by
 induction l with
 | nil=>intro n;simp [wallR]
 | cons x l ih =>
  intro n
  simp only [List.cons_append,wallR,ih,List.length_cons]
  rw [show n+1+l.length=n+(l.length+1) from by omega]
  simp
theorem wallT_snoc (gs:List Int) (n:Nat) (d:D) (l:List D):wallT gs n (l++[d])=wallT gs n l++(if 0 < l.length then pre gs (n+(l.length - 1)) else [])++[d]:=by
 cases l with
 | nil=>simp [wallT,wallR]
 | cons x l=>simp [wallT,wallR_snoc]
theorem pre_len (gs:List Int) (n:Nat):(pre gs n).length≤1:=by unfold pre;split<;>simp
theorem wallR_len (gs:List Int) (l:List D):∀ n,(wallR gs n l).length≤2 * l.length:=by
 induction l with
 | nil=>intro n;simp [wallR]
 | cons x l ih=>intro n;have:=ih (n+1);have:=pre_len gs n;simp only [wallR,List.length_append,List.length_cons];omega
theorem wallT_len (gs:List Int) (n:Nat) (l:List D):(wallT gs n l).length≤2 * l.length:=by
 cases l with
 | nil=>simp [wallT]
 | cons x l=>have:=wallR_len gs l n;simp only [wallT,List.length_cons];omega
theorem walls_app (gs:List Int) (ll mm:List (List D)):∀ n,walls gs n (ll++mm)=walls gs n ll++walls gs (n+gapsN ll) mm:=by
 induction ll with
 | nil=>intro n;simp [walls,gapsN]
 | cons t ll ih=>intro n;simp only [List.cons_append,walls,ih,gapsN];rw [Nat.add_assoc]
theorem walls_len (gs:List Int) (ll:List (List D)):∀ n,(walls gs n ll).length=ll.length:=by
 induction ll with
 | nil=>intro n;simp [walls]
 | cons t ll ih=>intro n;simp [walls,ih]
theorem walls_le (gs:List Int) (ll:List (List D)) (h7:∀ t∈ll,t.length≤7):∀ n,∀ t∈walls gs n ll,t.length≤14:=by
 induction ll with
 | nil=>intro n t ht;simp [walls] at ht
 | cons u ll ih =>
  intro n t ht
  rcases List.mem_cons.1 ht with rfl | ht
  ·have:=wallT_len gs n u;have:=h7 u (by simp);omega
  ·exact ih (fun t ht=>h7 t (List.mem_cons_of_mem _ ht)) _ t ht
theorem gapsN_take (ll:List (List D)) (n:Nat) (h:n < ll.length):gapsN (ll.take (n+1))=gapsN (ll.take n)+(ll[n].length - 1):=by
 have app:∀ a b:List (List D),gapsN (a++b)=gapsN a+gapsN b:=fun a b=>by
  induction a with
  | nil=>simp [gapsN]
  | cons x a ih=>simp only [List.cons_append,gapsN,ih];omega
 rw [List.take_succ_eq_append_getElem h,app];simp [gapsN]
theorem walls_take (gs:List Int) (ll:List (List D)) (n:Nat) (h:n < ll.length):walls gs 0 (ll.take (n+1))=walls gs 0 (ll.take n)++[wallT gs (gapsN (ll.take n)) ll[n]]:=by
 rw [List.take_succ_eq_append_getElem h,walls_app];simp [walls]
theorem wallT_take (gs:List Int) (n:Nat) (t:List D) (k:Nat) (h:k < t.length):wallT gs n (t.take (k+1))=wallT gs n (t.take k)++(if 0 < k then pre gs (n+(k - 1)) else [])++[t[k]]:=by
 rw [List.take_succ_eq_append_getElem h,wallT_snoc]
 have:(t.take k).length=k:=by simp;omega
 rw [this]
def wallS (gs:List Int) (n:Nat) (t:List D) (k:Nat):List D:=wallT gs n (t.take k)++(if 0 < k∧k < t.length then pre gs (n+(k - 1)) else [])
theorem wallS_step (gs:List Int) (n:Nat) (t:List D) (k:Nat) (h:k < t.length):wallS gs n t (k+1)=wallS gs n t k++[t[k]]++(if k+1 < t.length then pre gs (n+k) else []):=by
 unfold wallS
 rw [wallT_take gs n t k h]
 by_cases h0:0 < k
 ·simp [h0,h]
 ·simp [h0]
theorem wallS_fin (gs:List Int) (n:Nat) (t:List D) (k:Nat) (h:t.length≤k):wallS gs n t k=wallT gs n t:=by
 unfold wallS
 rw [List.take_of_length_le h,if_neg (by omega)];simp
theorem wallS_len (gs:List Int) (n:Nat) (t:List D) (k:Nat):(wallS gs n t k).length≤2 * t.length+1:=by
 unfold wallS
 have:=wallT_len gs n (t.take k)
 have:=pre_len gs (n+(k - 1))
 have:(t.take k).length≤t.length:=by simp;omega
 rw [List.length_append]
 split
 ·omega
 ·simp;omega
theorem wallS_zero (gs:List Int) (n:Nat) (t:List D):wallS gs n t 0=[]:=by simp [wallS,wallT]
def wallPut (ll:List (List D)) (gs:List Int):Option (List (List D)) :=
 if prog ll&&gapsOk gs (gaps ll)&&prog (walls gs 0 ll) then some (walls gs 0 ll) else none
theorem wallPut_some {ll mm:List (List D)} {gs:List Int} (h:wallPut ll gs=some mm):prog ll=true∧gapsOk gs (gaps ll)=true∧prog mm=true∧mm=walls gs 0 ll:=by
 unfold wallPut at h
 split at h
 ·rename_i hc
  simp only [Bool.and_eq_true] at hc
  obtain rfl:=Option.some.inj h
  exact ⟨hc.1.1,hc.1.2,hc.2,rfl⟩
 ·cases h
theorem wallPut_bad {ll:List (List D)} {gs:List Int} (h:prog ll=false):wallPut ll gs=none:=by simp [wallPut,h]
theorem wallPut_gaps {ll:List (List D)} {gs:List Int} (h:gapsOk gs (gaps ll)=false):wallPut ll gs=none:=by simp [wallPut,h]
theorem wallPut_over {ll:List (List D)} {gs:List Int} (h:prog (walls gs 0 ll)=false):wallPut ll gs=none:=by simp [wallPut,h]
theorem wallPut_yes {ll:List (List D)} {gs:List Int} (h1:prog ll=true) (h2:gapsOk gs (gaps ll)=true) (h3:prog (walls gs 0 ll)=true):wallPut ll gs=some (walls gs 0 ll):=by simp [wallPut,h1,h2,h3]
end M
end Go.Proofs.YtjjkicffhpcngaaGreat
namespace Go.Proofs.YtjjkicffhpcngaaGreat
open Go.RowKit
set_option maxHeartbeats 400000 in
theorem igaps_any (a:Option Addr) (b o c:Nat) (ll:List (List M.D)) (w:World) (hl:ll.length≤1048576) (hls:∀ t∈ll,t.length≤1048576) (h:DoSS w a b o ll) :
  Calls Tryz.prog 39 #[.agg #[.slice a ll.length c]] w fun e w'=>e=.returned (.int .i64 (M.gaps ll))∧Below w.heap.size w w':=by
 cases hp:M.prog ll
 ·go_enter Tryz.func39,Tryz.ntmps39
  go_wp2_with (go_at_call 42;refine (iprog_any a b o c ll _ hl hls (h.below (below1 w _) (Nat.le_refl _))).mono ?_;rintro e w1 ⟨rfl,hb1⟩)
  go_ret
  exact ⟨ret_int (M.gaps_no hp).symm,(below1 w _).trans (hb1.mono (by simp))⟩
 ·obtain ⟨h3,h7⟩:=M.prog_le hp
  go_enter Tryz.func39,Tryz.ntmps39
  go_wp2_with (go_at_call 42;refine (iprog_any a b o c ll _ hl hls (h.below (below1 w _) (Nat.le_refl _))).mono ?_;rintro e w1 ⟨rfl,hb1⟩;obtain ⟨hc1,hf1⟩:=bcell hb1)
  have hs1:=(h.below (below1 w _) (Nat.le_refl _)).below hb1 (Nat.le_refl _)
  have hbw:Below w.heap.size w w1:=(below1 w _).trans (hb1.mono (by simp))
  clear hb1 hc1 hf1 h
  go_loopw [3,12] (fun s3 s12 wr=>∃ m n:Nat,s3=.int .i64 m∧s12=.int .i64 n∧n≤ll.length∧m≤7 * n∧M.gapsN ll=m+M.gapsN (ll.drop n)∧wr=w1) (fun _ s12 _=>ll.length - (intOf s12).toNat)
  case atStart=>exact ⟨0,0,rfl,rfl,Nat.zero_le _,Nat.le_refl _,by simp,rfl⟩
  case round =>
   obtain ⟨m,n,rfl,rfl,hn,hmn,hpass,rfl⟩:=hrel
   have HP:Hid (M.gapsN ll=m+M.gapsN (ll.drop n)):=hpass
   clear hpass
   by_cases hlt:n < ll.length
   ·obtain ⟨rfl⟩:=hs1.addr (by omega)
    obtain ⟨a',b',o',c',hc,hd⟩:=hs1.row n hlt
    have HD:Hid (ll.drop n=ll[n]::ll.drop (n+1)):=M.drop_at' ll n hlt
    have hlt7:=h7 _ (List.getElem_mem hlt)
    generalize ll[n]=t at hd hc HD hlt7
    have i1:(n:Int) < ll.length:=by omega
    go_wp2_with fail
    exact ⟨⟨m+(t.length - 1),n+1,by congr 1;first | (split<;>omega) | omega,by go_num,by omega,by omega,M.gapsN_step HP.out HD.out,trivial⟩,by simp [intOf];omega⟩
   ·go_wp2_with fail
    go_ret
    exact ⟨ret_int (by rw [M.gaps_ok hp,M.gapsN_fin HP.out (by omega)]),hbw⟩
set_option maxHeartbeats 400000 in
theorem sgaps_any (a:Option Addr) (b o c:Nat) (ll:List (List M.D)) (w:World) (hl:ll.length≤1048576) (hls:∀ t∈ll,t.length≤1048576) (h:DoSS w a b o ll) :
  Calls Tryz.prog 34 #[.agg #[.slice a ll.length c]] w fun e w'=>e=.returned (.int .i64 (M.gaps ll))∧Below w.heap.size w w':=by
 cases hp:M.prog ll
 ·go_enter Tryz.func34,Tryz.ntmps34
  go_wp2_with (go_at_call 27;refine (sprog_any a b o c ll _ hl hls (h.below (below1 w _) (Nat.le_refl _))).mono ?_;rintro e w1 ⟨rfl,hb1⟩)
  go_ret
  exact ⟨ret_int (M.gaps_no hp).symm,(below1 w _).trans (hb1.mono (by simp))⟩
 ·obtain ⟨h3,h7⟩:=M.prog_le hp
  go_enter Tryz.func34,Tryz.ntmps34
  go_wp2_with (go_at_call 27;refine (sprog_any a b o c ll _ hl hls (h.below (below1 w _) (Nat.le_refl _))).mono ?_;rintro e w1 ⟨rfl,hb1⟩;obtain ⟨hc1,hf1⟩:=bcell hb1)
  have hs1:=(h.below (below1 w _) (Nat.le_refl _)).below hb1 (Nat.le_refl _)
  have hbw:Below w.heap.size w w1:=(below1 w _).trans (hb1.mono (by simp))
  have hbox1:w1.cell? ⟨w.heap.size,0,none⟩=some (.slice a ll.length c):=by rw [hc1 _ _ (by simp)];simp
  clear hb1 hc1 hf1 h
  go_loopw [3,4] (fun s3 s4 wr=>∃ m n:Nat,s3=.int .i64 m∧s4=.int .i64 n∧n≤ll.length∧m≤7 * n∧M.gapsN ll=m+M.gapsN (ll.drop n)∧wr=w1) (fun _ s4 _=>ll.length - (intOf s4).toNat)
  case atStart=>exact ⟨0,0,rfl,rfl,Nat.zero_le _,Nat.le_refl _,by simp,rfl⟩
  case round =>
   obtain ⟨m,n,rfl,rfl,hn,hmn,hpass,rfl⟩:=hrel
   have HP:Hid (M.gapsN ll=m+M.gapsN (ll.drop n)):=hpass
   clear hpass
   by_cases hlt:n < ll.length
   ·obtain ⟨rfl⟩:=hs1.addr (by omega)
    obtain ⟨a',b',o',c',hc,hd⟩:=hs1.row n hlt
    have HD:Hid (ll.drop n=ll[n]::ll.drop (n+1)):=M.drop_at' ll n hlt
    have hlt7:=h7 _ (List.getElem_mem hlt)
    generalize ll[n]=t at hd hc HD hlt7
    have i1:(n:Int) < ll.length:=by omega
    go_wp2_with fail
    exact ⟨⟨m+(t.length - 1),n+1,by congr 1;first | (split<;>omega) | omega,by go_num,by omega,by omega,M.gapsN_step HP.out HD.out,trivial⟩,by simp [intOf];omega⟩
   ·go_wp2_with fail
    go_ret
    exact ⟨ret_int (by rw [M.gaps_ok hp,M.gapsN_fin HP.out (by omega)]),hbw⟩
end Go.Proofs.YtjjkicffhpcngaaGreat
namespace Go.Proofs.YtjjkicffhpcngaaGreat
open Go.RowKit
set_option maxHeartbeats 400000 in
theorem gapsOk_any (a:Option Addr) (b o c:Nat) (gs:List Int) (many:Int) (w:World) (hl:gs.length≤1048576) (h:IntS w a b o gs) :
  Calls Tryz.prog 58 #[.slice a gs.length c,.int .i64 many] w fun e w'=>e=.returned (.bool (M.gapsOk gs many))∧w'=w:=by
 go_enter Tryz.func58,Tryz.ntmps58
 go_wp2_with fail
 go_loopw [5,10] (fun s5 s10 wr=>∃ n:Nat,s5=.int .i64 (M.lastG gs n)∧s10=.int .i64 n∧n≤gs.length∧Hid (M.gapsOk gs many=M.gapsFrom (M.lastG gs n) many (gs.drop n))∧wr=w) (fun _ s10 _=>gs.length - (intOf s10).toNat)
 case atStart=>exact ⟨0,by simp [M.lastG],rfl,Nat.zero_le _,by show _=_;simp [M.gapsOk,M.lastG],rfl⟩
 case round =>
  obtain ⟨n,rfl,rfl,hn,HP,rfl⟩:=hrel
  by_cases hlt:n < gs.length
  ·obtain ⟨rfl⟩:=h.addr (by omega)
   have hx:=h.row n hlt
   have HS:=fun g hg=>M.gapsFrom_step (g:=g) HP.out hlt hg
   have HL:Hid (M.lastG gs (n+1)=gs[n]):=M.lastOf_succ gs n hlt
   obtain ⟨y,hy⟩:∃ y,gs[n]=y:=⟨_,rfl⟩
   have HQ:Hid (M.gapsOk gs many=(decide (M.lastG gs n < y)&&decide (y < many)&&M.gapsFrom (M.lastG gs (n+1)) many (gs.drop (n+1)))):=HS y hy
   rw [hy] at hx HL
   clear hy HS HP
   have i1:(n:Int) < gs.length:=by omega
   generalize M.lastG gs n=last at *
   by_cases e1:last < y
   ·have e1':¬ y≤last:=by omega
    by_cases e2:y < many
    ·have e2':¬ many≤y:=by omega
     go_wp2_with fail
     exact ⟨⟨n+1,by rw [HL.out],by go_num,by omega,by show _=_;rw [HQ.out];simp [e1,e2],trivial⟩,by simp [intOf];omega⟩
    ·have e2':many≤y:=by omega
     go_wp2_with fail
     go_ret
     exact ⟨ret_bool (by rw [HQ.out,decide_eq_false (show ¬ y < many by omega)];simp),rfl⟩
   ·have e1':y≤last:=by omega
    go_wp2_with fail
    go_ret
    exact ⟨ret_bool (by rw [HQ.out,decide_eq_false (show ¬ last < y by omega)];simp),rfl⟩
  ·have HF:=M.gapsFrom_fin HP.out (by omega)
   clear HP
   go_wp2_with fail
   go_ret
   exact ⟨ret_bool HF.symm,rfl⟩
theorem M.gaps_in {gs:List Int} {many:Int} {n:Nat} {y:Int} (h:M.gapsOk gs many=(decide (M.lastG gs n < y)&&decide (y < many)&&M.gapsFrom (M.lastG gs (n+1)) many (gs.drop (n+1)))) (hy:M.rng 0 (many - 1) y=false) (hl:-1≤M.lastG gs n):M.gapsOk gs many=false:=by
 rw [h]
 simp only [M.rng,Bool.and_eq_false_iff,decide_eq_false_iff_not] at hy ⊢
 left
 omega
set_option maxHeartbeats 1000000 in
theorem l21Ok_any (a:Option Addr) (b o c:Nat) (gs:List Int) (many:Int) (w:World) (hl:gs.length≤1048576) (hm0:-1≤many) (hm:many≤1000) (h:IntS w a b o gs) :
  Calls Tryz.prog 66 #[.slice a gs.length c,.int .i64 many] w fun e w'=>e=.returned (.bool (M.gapsOk gs many))∧Below w.heap.size w w':=by
 have hwm:IntKind.i64.wrap (many - 1)=many - 1:=IntWalk.i64_in _ (by omega)
 go_enter Tryz.func66,Tryz.ntmps66
 go_wp2_with fail
 go_loopw [5] (fun s5 wr=>∃ n:Nat,s5=.int .i64 n∧n≤gs.length∧-1≤M.lastG gs n∧Hid (M.gapsOk gs many=M.gapsFrom (M.lastG gs n) many (gs.drop n))∧Below w.heap.size w wr) (fun s5 _=>gs.length - (intOf s5).toNat)
 case atStart=>exact ⟨0,rfl,Nat.zero_le _,by simp [M.lastG],by show _=_;simp [M.gapsOk,M.lastG],Below.refl _ _⟩
 case round =>
  obtain ⟨n,rfl,hn,hlo,HP,hbel⟩:=hrel
  by_cases hlt:n < gs.length
  ·have hh:=h.below hbel (Nat.le_refl _)
   obtain ⟨rfl⟩:=hh.addr (by omega)
   have hx:=hh.row n hlt
   have HS:=fun g hg=>M.gapsFrom_step (g:=g) HP.out hlt hg
   have HL:Hid (M.lastG gs (n+1)=gs[n]):=M.lastOf_succ gs n hlt
   obtain ⟨y,hy⟩:∃ y,gs[n]=y:=⟨_,rfl⟩
   have HQ:Hid (M.gapsOk gs many=(decide (M.lastG gs n < y)&&decide (y < many)&&M.gapsFrom (M.lastG gs (n+1)) many (gs.drop (n+1)))):=HS y hy
   rw [hy] at hx HL
   clear hy HS HP
   have i1:(n:Int) < gs.length:=by omega
   have CI:=fun W=>l6In_any y 0 (many - 1) W
   have HLo:Hid (-1≤M.lastG gs n):=hlo
   clear hlo
   cases hr:M.rng 0 (many - 1) y
   ·rw [hr] at CI
    have HF:=M.gaps_in HQ.out hr HLo.out
    go_wp2_with fail
    refine wp_region_quiet_lit (by kernel_rfl) (by kernel_rfl) ?_
    iterate 9 (quiet_step (first | (go_at_call 83;refine Calls.quiet_of_same (CI _))))
    iterate 14 go_big_quiet_skip
    iterate 1 (quiet_step (fail))
    refine wpQuiet_nil ?_
    rintro _ ⟨nq,rfl⟩
    go_wp2_with fail
    go_ret
    exact ⟨ret_bool HF.symm,hbel.trans ⟨rfl,rfl,rfl,Nat.le_refl _,fun _ _=>rfl⟩⟩
   ·rw [hr] at CI
    have hr':0≤y∧y < many:=by simp only [M.rng,Bool.and_eq_true,decide_eq_true_eq] at hr;omega
    clear hr
    have hy1:y < many:=hr'.2
    have hy0:Hid (0≤y):=hr'.1
    clear hr'
    rcases Nat.eq_zero_or_pos n with h0 | h0
    ·subst h0
     have HO:Hid (M.lastG gs 0 < y):=by show _ < _;have:=hy0.out;simp only [M.lastG,if_true];omega
     have hx0:wr.cell? ⟨b,o,none⟩=some (.int .i64 y):=by simpa using hx
     have i0:(0:Int) < gs.length:=by omega
     have i00:0 < gs.length:=by omega
     clear hx i1
     go_wp2_with fail
     refine wp_region_quiet_lit (by kernel_rfl) (by kernel_rfl) ?_
     iterate 12 (quiet_step (first | (go_at_call 83;refine Calls.quiet_of_same (CI _))))
     iterate 10 go_big_quiet_skip
     iterate 2 (quiet_step (fail))
     refine wpQuiet_nil ?_
     rintro _ ⟨nq,rfl⟩
     go_wp2_with fail
     exact ⟨⟨1,by go_num,by omega,by rw [HL.out];have:=hy0.out;omega,by show _=_;rw [HQ.out,decide_eq_true HO.out,decide_eq_true hy1];simp,hbel.trans ⟨rfl,rfl,rfl,Nat.le_refl _,fun _ _=>rfl⟩⟩,by simp [intOf];omega⟩
    ·obtain ⟨m,rfl⟩:∃ m,n=m+1:=⟨n - 1,by omega⟩
     have hz:=hh.row m (by omega)
     have HZ:Hid (M.lastG gs (m+1)=gs[m]):=M.lastOf_succ gs m (by omega)
     generalize gs[m]=z at *
     have e0:(((m+1:Nat):Int)) - 1=m:=by omega
     have e1:IntKind.i64.wrap (m:Int)=m:=IntWalk.i64_in _ (by omega)
     have e2:decide (0 < m+1)=true:=by simp
     have i2:(m:Int) < gs.length:=by omega
     by_cases hzy:z < y
     ·have hzy':¬ y≤z:=by omega
      go_wp2_with fail
      go_quiet (first | (go_at_call 83;refine Calls.quiet_of_same (CI _)))
      go_wp2_with fail
      exact ⟨⟨m+1+1,by go_num,by omega,by rw [HL.out];have:=hy0.out;omega,by show _=_;rw [HQ.out,HZ.out,decide_eq_true hzy,decide_eq_true hy1];simp,hbel.trans ⟨rfl,rfl,rfl,Nat.le_refl _,fun _ _=>rfl⟩⟩,by simp [intOf];omega⟩
     ·have hzy':y≤z:=by omega
      go_wp2_with fail
      go_quiet (first | (go_at_call 83;refine Calls.quiet_of_same (CI _)))
      go_wp2_with fail
      go_ret
      exact ⟨ret_bool (by rw [HQ.out,HZ.out,decide_eq_false (show ¬ z < y by omega)];simp),hbel.trans ⟨rfl,rfl,rfl,Nat.le_refl _,fun _ _=>rfl⟩⟩
  ·have HF:=M.gapsFrom_fin HP.out (by omega)
   clear HP
   go_wp2_with fail
   go_ret
   exact ⟨ret_bool HF.symm,hbel⟩
end Go.Proofs.YtjjkicffhpcngaaGreat
namespace Go.Proofs.YtjjkicffhpcngaaGreat
open Go.RowKit
set_option maxHeartbeats 2000000 in
set_option maxRecDepth 10000 in
theorem withWalls_any (a:Option Addr) (b o c:Nat) (ll:List (List M.D)) (h3:ll.length≤3) (h7:∀ t∈ll,t.length≤7) (ga:Option Addr) (gb go gc:Nat) (gs:List Int) (hgl:gs.length≤1048576) (w:World) (h:DoSS w a b o ll) (hG:IntS w ga gb go gs) :
  Calls Tryz.prog 59 #[.agg #[.slice a ll.length c],.slice ga gs.length gc] w fun e w'=>∃ v,e=.returned (.agg #[v])∧∃ vs,Rdg w' w.heap.size v (M.walls gs 0 ll) vs∧Below w.heap.size w w':=by
 obtain ⟨i0,hi,hz0,hz1,hz2⟩:=info_parts Tryz.info41
 obtain ⟨i1,ji,jz0,jz1,jz2⟩:=info_parts Tryz.info43
 go_enter Tryz.func59,Tryz.ntmps59
 go_wp2_with fail
 go_loopw [6,15] (fun s6 s15 wr=>∃ (n:Nat) (v:Value) (vs:List Value),s6=.int .i64 (M.gapsN (ll.take n))∧s15=.int .i64 n∧n≤ll.length∧Rdg wr (w.heap.size+3) v (M.walls gs 0 (ll.take n)) vs∧Slot1 wr (w.heap.size+1+1) v∧Slot1 wr (w.heap.size+1) (.slice none 0 0)∧Below w.heap.size w wr) (fun _ s15 _=>ll.length - (intOf s15).toNat)
 case atStart =>
  refine ⟨0,.slice none 0 0,[],by simp [M.gapsN],rfl,Nat.zero_le _,by simpa [M.walls] using Rdg.nil _ _,?_,?_,below3 _ _ _ _⟩
  ·have:=Slot1.new ((w.alloc (.cells #[.slice a ll.length c] 25)).alloc (.cells #[.slice none 0 0] 25)) (.slice none 0 0) 25
   rwa [World.size_alloc,World.size_alloc] at this
  ·have:=(Slot1.new (w.alloc (.cells #[.slice a ll.length c] 25)) (.slice none 0 0) 25).bl' (below1 _ (.cells #[.slice none 0 0] 25))
   rwa [World.size_alloc] at this
 case round =>
  obtain ⟨n,v,vs,rfl,rfl,hn,hR,hP,hQ,hbel⟩:=hrel
  by_cases hlt:n < ll.length
  ·obtain ⟨rfl⟩:=h.addr (by omega)
   obtain ⟨a',b',o',c',hc,hd⟩:=(h.below hbel (Nat.le_refl _)).row n hlt
   have hGr:=hG.below hbel (Nat.le_refl _)
   have ht7:=h7 _ (List.getElem_mem hlt)
   have HW:Hid (M.walls gs 0 (ll.take (n+1))=M.walls gs 0 (ll.take n)++[M.wallT gs (M.gapsN (ll.take n)) ll[n]]):=M.walls_take gs ll n hlt
   have HN:Hid (M.gapsN (ll.take (n+1))=M.gapsN (ll.take n)+(ll[n].length - 1)):=M.gapsN_take ll n hlt
   have hgn:=M.gapsN_le (ll:=ll.take n) (fun t ht=>h7 t (List.mem_of_mem_take ht))
   have hgl3:(ll.take n).length≤3:=by simp;omega
   have hwl:(M.walls gs 0 (ll.take n)).length≤3:=by rw [M.walls_len];exact hgl3
   generalize hT:M.gapsN (ll.take n)=T at *
   clear hT
   generalize ll[n]=t at *
   generalize M.walls gs 0 (ll.take n)=mm at *
   have hTb:T≤18:=by omega
   clear hgn hgl3
   have i1':(n:Int) < ll.length:=by omega
   go_wp2_with fail
   go_loopw [6,9,21] (fun s6 s9 s21 wi=>∃ k:Nat,s6=.int .i64 ((T+(k - 1):Nat):Int)∧s21=.int .i64 k∧k≤t.length∧wi.ownsRow wr.heap.size 43 3 s9 (M.wallT gs T (t.take k)).length (flat (M.wallT gs T (t.take k)))∧Below wr.heap.size wr wi) (fun _ _ s21 _=>t.length - (intOf s21).toNat)
   case atStart=>exact ⟨0,by simp,rfl,Nat.zero_le _,by simpa [M.wallT,flat] using World.ownsRow_nil _ _ _ _,Below.refl _ _⟩
   case round =>
    obtain ⟨k,rfl,rfl,hk,hown,hbi⟩:=hrel
    by_cases hkt:k < t.length
    ·obtain ⟨rfl⟩:=hd.addr (by omega)
     have x1:=(hd.row k hkt).below hbi (Nat.le_refl _)
     have hGi:=hGr.below hbi (Nat.le_refl _)
     have HX:Hid (M.wallT gs T (t.take (k+1))=M.wallT gs T (t.take k)++(if 0 < k then M.pre gs (T+(k - 1)) else [])++[t[k]]):=M.wallT_take gs T t k hkt
     have hlen:=M.wallT_len gs T (t.take k)
     have hlen2:(t.take k).length≤7:=by simp;omega
     generalize M.wallT gs T (t.take k)=l at *
     have hl14:l.length≤14:=by omega
     clear hlen hlen2
     generalize t[k]=d at *
     obtain ⟨kk,pp,vv⟩:=d
     obtain ⟨ck,cp,cv⟩:=x1
     have j1:(k:Int) < t.length:=by omega
     have hbs:=hbi.size
     rcases Nat.eq_zero_or_pos k with hk0 | hk0
     ·subst hk0
      have HX0:Hid (M.wallT gs T (t.take 1)=l++[⟨kk,pp,vv⟩]):=by show _=_;simpa using HX.out
      have ck0:wr.cell? ⟨b',o',none⟩=some (.int .i64 kk):=by simpa using ck
      have cp0:wr.cell? ⟨b',o'+1,none⟩=some (.int .i64 pp):=by simpa using cp
      have cv0:wr.cell? ⟨b',o'+2,none⟩=some (.int .i64 vv):=by simpa using cv
      have j0:(0:Int) < t.length:=by omega
      have j00:0 < t.length:=by omega
      clear ck cp cv
      have bA:=below1 wr (.cells #[.int .i64 kk,.int .i64 pp,.int .i64 vv] 43)
      go_wp2_with (at_builtin;refine wpList_append_own _ rfl (.tmp 37) (.tmp 39) 41 rfl _ 43 i1 _ 3 24 Tryz.underlying41 ji jz0 jz1 jz2 rfl (by decide) _ _ _ rfl ((hown.alloc _).alloc _) ⟨wr.heap.size+1,0,none⟩ 1 1 [.int .i64 kk,.int .i64 pp,.int .i64 vv] rfl rfl (cells_new3 _ _ _ _ _ _ (by simp)) (one3 _ _ _) (by unfold maxLen;omega) (by omega) (by simp;omega) ?_)
      intro v' w3 hown3 hg3 _
      have hown4:=own_more HX0.out hown3
      have hb3:Below _ _ w3:=below_grown (hbi.trans ((below2 wr _ _).mono hbi.size)) hg3 (own_ge hown) (by simp;omega)
      clear hown3 hg3 hown
      go_wp2_with fail
      exact ⟨⟨1,by simp,by go_num,by omega,hown4,hb3⟩,by simp [intOf];omega⟩
     ·have hkd:(0:Int) < k:=by omega
      have HX1:Hid (M.wallT gs T (t.take (k+1))=l++M.pre gs (T+(k - 1))++[⟨kk,pp,vv⟩]):=by show _=_;have:=HX.out;rwa [if_pos hk0] at this
      clear HX
      have CC:=fun W hW=>containsI_any ga gb go gc gs ((T+(k - 1):Nat):Int) W hgl hW
      have eN:((T+(k - 1):Nat):Int)+1=((T+(k+1 - 1):Nat):Int):=by omega
      have hTk:T+(k - 1)≤100:=by omega
      have HN1:Hid (((T+(k - 1):Nat):Int)+1=((T+(k+1 - 1):Nat):Int)):=eN
      clear eN
      cases hhas:M.has gs ((T+(k - 1):Nat):Int)
      ·have HX2:Hid (M.wallT gs T (t.take (k+1))=l++[⟨kk,pp,vv⟩]):=by show _=_;rw [HX1.out,M.pre_no hhas];simp
       rw [hhas] at CC
       clear hhas
       generalize hTT:T+(k - 1)=TT at *
       have bA:=below1 wr (.cells #[.int .i64 kk,.int .i64 pp,.int .i64 vv] 43)
       have hGA:=hGi.below bA (Nat.le_refl _)
       go_wp2_with (first | (go_at_call 99;refine (CC _ hGA).mono ?_;rintro e w1 ⟨rfl,rfl⟩) | (at_builtin;refine wpList_append_own _ rfl (.tmp 37) (.tmp 39) 41 rfl _ 43 i1 _ 3 24 Tryz.underlying41 ji jz0 jz1 jz2 rfl (by decide) _ _ _ rfl ((hown.alloc _).alloc _) ⟨wr.heap.size+1,0,none⟩ 1 1 [.int .i64 kk,.int .i64 pp,.int .i64 vv] rfl rfl (cells_new3 _ _ _ _ _ _ (by simp)) (one3 _ _ _) (by unfold maxLen;omega) (by omega) (by simp;omega) ?_))
       intro v' w3 hown3 hg3 _
       have hown4:=own_more HX2.out hown3
       have hb3:Below _ _ w3:=below_grown (hbi.trans ((below2 wr _ _).mono hbi.size)) hg3 (own_ge hown) (by simp;omega)
       clear hown3 hg3 hown
       go_wp2_with fail
       exact ⟨⟨k+1,by rw [HN1.out],by go_num,by omega,hown4,hb3⟩,by simp [intOf];omega⟩
      ·have HX2:Hid (M.wallT gs T (t.take (k+1))=(l++[M.wall])++[⟨kk,pp,vv⟩]):=by show _=_;rw [HX1.out,M.pre_yes hhas]
       rw [hhas] at CC
       clear hhas
       generalize hTT:T+(k - 1)=TT at *
       have bA:=below1 wr (.cells #[.int .i64 kk,.int .i64 pp,.int .i64 vv] 43)
       have hGA:=hGi.below bA (Nat.le_refl _)
       go_wp2_with (first | (go_at_call 99;refine (CC _ hGA).mono ?_;rintro e w1 ⟨rfl,rfl⟩) | (at_builtin;refine wpList_append_own _ rfl (.tmp 31) (.tmp 33) 41 rfl _ 43 i1 _ 3 24 Tryz.underlying41 ji jz0 jz1 jz2 rfl (by decide) _ _ _ rfl ((hown.alloc _).alloc _) ⟨wr.heap.size+1,0,none⟩ 1 1 [.int .i64 4,.int .i64 0,.int .i64 0] rfl rfl (cells_new3 _ _ _ _ _ _ (by simp)) (one3 _ _ _) (by unfold maxLen;omega) (by omega) (by simp;omega) ?_))
       intro v2 w2 hown2 hg2 _
       have hown2':=own_more (m:=l++[M.wall]) rfl hown2
       have hD2:w2.cell? ⟨wr.heap.size,0,none⟩=some (.int .i64 kk)∧w2.cell? ⟨wr.heap.size,1,none⟩=some (.int .i64 pp)∧w2.cell? ⟨wr.heap.size,2,none⟩=some (.int .i64 vv):=by
        have hne:some wr.heap.size≠u9.ownBlock:=fun e=>by have:=(hown.lt _ e.symm).2;omega
        exact ⟨hg2.cell (by simp) hne,hg2.cell (by simp) hne,hg2.cell (by simp) hne⟩
       obtain ⟨d0,d1,d2⟩:=hD2
       have hb2:Below _ _ w2:=below_grown (hbi.trans ((below2 wr _ _).mono hbi.size)) hg2 (own_ge hown) (by simp;omega)
       have hll:(l++[M.wall]).length≤15:=by simp;omega
       have hbs2:=hb2.size
       clear hown2 hg2 hown
       generalize l++[M.wall]=l2 at *
       go_wp2_with (at_builtin;refine wpList_append_own _ rfl (.tmp 37) (.tmp 39) 41 rfl _ 43 i1 _ 3 24 Tryz.underlying41 ji jz0 jz1 jz2 rfl (by decide) _ _ _ rfl (hown2'.alloc _) ⟨w2.heap.size,0,none⟩ 1 1 [.int .i64 kk,.int .i64 pp,.int .i64 vv] rfl rfl (cells_new3 _ _ _ _ _ _ (by simp)) (one3 _ _ _) (by unfold maxLen;omega) (by omega) (by simp;omega) ?_)
       intro v' w3 hown3 hg3 _
       have hown4:=own_more HX2.out hown3
       have hb3:Below _ _ w3:=below_grown (hb2.trans ((below1 w2 _).mono hb2.size)) hg3 (own_ge hown2') (by simp;omega)
       clear hown3 hg3 hown2'
       go_wp2_with fail
       exact ⟨⟨k+1,by rw [HN1.out],by go_num,by omega,hown4,hb3⟩,by simp [intOf];omega⟩
    ·have htk:t.take k=t:=List.take_of_length_le (by omega)
     rw [htk] at hown
     have hkk:k=t.length:=by omega
     have HT:Hid (T+(k - 1)=M.gapsN (ll.take (n+1))):=by show _=_;rw [HN.out,hkk]
     clear hkk htk
     have hTk:T+(k - 1)≤100:=by omega
     have hRi:=hR.below hbi
     have hPi:=hP.bl' hbi
     have hQi:=hQ.bl' hbi
     have hbw:=hbel.trans (hbi.mono hbel.size)
     have hlap:∀ i (hi:i < vs.length) k,vs[i].ownBlock=some k→u9.ownBlock≠some k:=fun i hi j hj e=>by
      have h1:=(hR.b.inner i (by have:=hR.b.len;omega) hi).lt j hj
      have h2:=own_ge hown j e
      omega
     have hown':=ownsRow_mono hown (show w.heap.size+3≤_ from by have:=hP.lt;omega)
     obtain ⟨at_,gt,ct,rfl,_⟩:=own_steps hown
     have hlen:=M.wallT_len gs T t
     generalize M.wallT gs T t=tt at *
     obtain ⟨av,gv,cv,rfl,_⟩:=hRi.b.ss
     have p0:=hPi.c
     have pf:=hPi.fz
     have lP:=hPi.lt
     have hout:=hRi.b.outer
     clear hown hR hP hQ
     go_wp2_with (at_builtin;refine wpList_append_lies _ rfl (.tmp 43) (.tmp 45) 23 rfl (w.heap.size+3) 41 i0 _ 1 24 Tryz.underlying23 hi hz0 hz1 hz2 rfl (by decide) _ _ vs rfl (hout.alloc _) ⟨wr.heap.size,0,none⟩ 1 1 [.slice at_ tt.length ct] rfl rfl (World.news_of_block (cs:=#[.slice at_ tt.length ct]) (t:=41) (fr:=(0,0)) (heap_alloc_new wr _)) (by simp [Value.oneCell']) (by omega) (by unfold maxLen;omega) (by omega) (by simp;omega) (wr.heap.size+1) (by simp) ?_)
     intro g2 cap2 w3 hown3 hg3 hat hlt3
     have hge:=own_ge hout
     have bA:=below1 wr (.cells #[.slice at_ tt.length ct] 41)
     have hP3:=(hPi.bl' bA).apart hg3 (fun e=>by have:=hge _ e;omega)
     have hQ3:=(hQi.bl' bA).apart hg3 (fun e=>by have:=hge _ e;omega)
     have hR3:=(hRi.below bA).snocT (ownsRow_below hown' bA) hlap hown3 hg3
     have hb3:Below w.heap.size w w3:=below_grown (hbw.trans (bA.mono hbw.size)) hg3 (fun k hk=>by have:=hge k hk;omega) (by have:=hbw.size;simp;omega)
     rw [← HW.out] at hR3
     clear hown3 hg3 hat hout hown' p0 pf hRi hPi hQi
     have p0:=hP3.c
     have pf:=hP3.fz
     go_wp2_with fail
     have hP4:=hP3.set (.slice (some ⟨g2,0,none⟩) (mm.length+1) cap2)
     exact ⟨⟨n+1,_,_,by have:=HT.out;congr 1;omega,by go_num,by omega,hR3.far (by omega) _,hP4,hQ3.far (by omega) _,hb3.setCell (by show w.heap.size≤w.heap.size+1+1;omega) _⟩,by simp [intOf];omega⟩
  ·have hW:M.walls gs 0 (ll.take n)=M.walls gs 0 ll:=by rw [List.take_of_length_le (by omega)]
   rw [hW] at hR
   obtain ⟨av,gv,cv,rfl,_⟩:=hR.b.ss
   have p0:=hP.c
   have pf:=hP.fz
   have q0:=hQ.c
   have qf:=hQ.fz
   have lP:=hP.lt
   have lQ:=hQ.lt
   have hne:w.heap.size+1≠w.heap.size+1+1:=by omega
   go_wp2_with fail
   have q1:=(hQ.set (.slice av (M.walls gs 0 ll).length cv)).c
   exact bodyPost_ret (v:=.agg #[.slice av (M.walls gs 0 ll).length cv]) (by simp [results,Tryz.results59,go_sem,q1]) rfl ⟨_,rfl,vs,(hR.far (by omega) _).mono (by omega),hbel.setCell (by show w.heap.size≤w.heap.size+1;omega) _⟩
set_option maxHeartbeats 1000000 in
theorem iwallPut_any (a:Option Addr) (b o c:Nat) (ll:List (List M.D)) (hl:ll.length≤1048576) (hls:∀ t∈ll,t.length≤1048576) (ga:Option Addr) (gb go gc:Nat) (gs:List Int) (hgl:gs.length≤1048576) (w:World) (h:DoSS w a b o ll) (hG:IntS w ga gb go gs) :
  Calls Tryz.prog 33 #[.agg #[.slice a ll.length c],.slice ga gs.length gc] w fun e w'=>∃ v,e=.returned (.tuple #[.agg #[v],.bool (M.wallPut ll gs).isSome])∧∃ vs,Rdg w' w.heap.size v ((M.wallPut ll gs).getD []) vs∧Below w.heap.size w w':=by
 have b2:=below2 w (.cells #[.slice a ll.length c] 25) (.cells #[.slice none 0 0] 25)
 have h2:=h.below b2 (Nat.le_refl _)
 have hG2:=hG.below b2 (Nat.le_refl _)
 have hX:=(Slot1.new w (.slice a ll.length c) 25).bl' (below1 _ (.cells #[.slice none 0 0] 25))
 have hY:=Slot1.new (w.alloc (.cells #[.slice a ll.length c] 25)) (.slice none 0 0) 25
 rw [World.size_alloc] at hY
 go_enter Tryz.func33,Tryz.ntmps33
 go_wp2_with fail
 generalize (w.alloc (.cells #[.slice a ll.length c] 25)).alloc (.cells #[.slice none 0 0] 25)=W at *
 refine (igaps_any a b o c ll W hl hls h2).mono ?_
 rintro e W1 ⟨rfl,b1⟩
 have h1:=h2.below b1 (Nat.le_refl _)
 have hG1:=hG2.below b1 (Nat.le_refl _)
 have hX1:=hX.bl' b1
 have hY1:=hY.bl' b1
 have bw1:=b2.trans (b1.mono b2.size)
 clear h2 hG2 hX hY b1 h hG
 have x0:=hX1.c
 have y0:=hY1.c
 have yf:=hY1.fz
 have ly:=hY1.lt
 cases hp:M.prog ll
 ·rw [M.gaps_no hp]
  have hno:=M.wallPut_bad (gs:=gs) hp
  go_wp2_with fail
  have q1:=(hY1.set (.slice none 0 0)).c
  exact bodyPost_ret (v:=.tuple #[.agg #[.slice none 0 0],.bool false]) (by simp [results,Tryz.results33,go_sem,q1]) rfl ⟨_,by rw [hno];rfl,[],by rw [hno];exact Rdg.nil _ _,bw1.setCell (by show w.heap.size≤w.heap.size+1;omega) _⟩
 ·have hgn:0≤M.gaps ll:=by rw [M.gaps_ok hp];omega
  have hgn':¬ M.gaps ll < 0:=by omega
  have hgn'':decide (M.gaps ll < 0)=false:=by simpa using hgn
  obtain ⟨h3,h7⟩:=M.prog_le hp
  have CG:=gapsOk_any ga gb go gc gs (M.gaps ll) W1 hgl hG1
  cases hok:M.gapsOk gs (M.gaps ll)
  ·have hno:=M.wallPut_gaps hok
   rw [hok] at CG
   generalize M.gaps ll=G at *
   go_wp2_with (go_at_call 58;refine CG.mono ?_;rintro e W2 ⟨rfl,rfl⟩)
   have q1:=(hY1.set (.slice none 0 0)).c
   exact bodyPost_ret (v:=.tuple #[.agg #[.slice none 0 0],.bool false]) (by simp [results,Tryz.results33,go_sem,q1]) rfl ⟨_,by rw [hno];rfl,[],by rw [hno];exact Rdg.nil _ _,bw1.setCell (by show w.heap.size≤w.heap.size+1;omega) _⟩
  ·rw [hok] at CG
   have HQ:Hid (M.gapsOk gs (M.gaps ll)=true):=hok
   have HPq:Hid (M.prog ll=true):=hp
   clear hok hp
   obtain ⟨G,hGG⟩:∃ G,M.gaps ll=G:=⟨_,rfl⟩
   have HG:Hid (M.gaps ll=G):=hGG
   rw [hGG] at CG hgn hgn' hgn'' ⊢
   clear hGG
   go_wp2_with (first | (go_at_call 58;refine CG.mono ?_;rintro e W2 ⟨rfl,rfl⟩))
   refine (withWalls_any a b o c ll h3 h7 ga gb go gc gs hgl _ h1 hG1).mono ?_
   rintro e W3 ⟨v3,rfl,vs,hR3,b3⟩
   obtain ⟨av,gv,cv,rfl,hs3⟩:=hR3.b.ss
   have bA:=below1 W3 (.cells #[.slice av (M.walls gs 0 ll).length cv] 25)
   have hY3:=(hY1.bl' b3).bl' bA
   have hR3':=hR3.below bA
   have ly1:=hY1.lt
   have hbz:=bw1.size
   have hs3':=hs3.below bA (Nat.le_refl _)
   have hZ:=Slot1.new W3 (.slice av (M.walls gs 0 ll).length cv) 25
   have bw3:=(bw1.trans (b3.mono bw1.size))
   have bw4:=bw3.trans (bA.mono bw3.size)
   have hl3:(M.walls gs 0 ll).length≤1048576:=by rw [M.walls_len];omega
   have hls3:∀ t∈M.walls gs 0 ll,t.length≤1048576:=fun t ht=>by have:=M.walls_le gs ll h7 0 t ht;omega
   clear hR3 hs3 b3 bA hX1 hY1 h1 hG1 x0 y0 yf ly CG
   go_wp2_with fail
   generalize W3.alloc (.cells #[.slice av (M.walls gs 0 ll).length cv] 25)=W4 at *
   generalize W3.heap.size=Z at *
   refine (iprog_any av gv 0 cv _ W4 hl3 hls3 hs3').mono ?_
   rintro e W5 ⟨rfl,b5⟩
   have hY5:=hY3.bl' b5
   have hR5:=hR3'.below b5
   have hZ5:=hZ.bl' b5
   have bw5:=bw4.trans (b5.mono bw4.size)
   have y0:=hY5.c
   have yf:=hY5.fz
   have ly:=hY5.lt
   have z0:=hZ5.c
   cases hpw:M.prog (M.walls gs 0 ll)
   ·have hno:=M.wallPut_over hpw
    go_wp2_with fail
    have q1:=(hY5.set (.slice none 0 0)).c
    exact bodyPost_ret (v:=.tuple #[.agg #[.slice none 0 0],.bool false]) (by simp [results,Tryz.results33,go_sem,q1]) rfl ⟨_,by rw [hno];rfl,[],by rw [hno];exact Rdg.nil _ _,bw5.setCell (by show w.heap.size≤w.heap.size+1;omega) _⟩
   ·have hyes:=M.wallPut_yes HPq.out HQ.out hpw
    go_wp2_with fail
    have q1:=(hY5.set (.slice av (M.walls gs 0 ll).length cv)).c
    exact bodyPost_ret (v:=.tuple #[.agg #[.slice av (M.walls gs 0 ll).length cv],.bool true]) (by simp [results,Tryz.results33,go_sem,q1]) rfl ⟨_,by rw [hyes];rfl,vs,by rw [hyes];exact (hR5.far ly1 _).mono hbz,bw5.setCell (by show w.heap.size≤w.heap.size+1;omega) _⟩
end Go.Proofs.YtjjkicffhpcngaaGreat
namespace Go.Proofs.YtjjkicffhpcngaaGreat
open Go.RowKit
set_option maxHeartbeats 4000000 in
set_option maxRecDepth 10000 in
theorem swallPut_any (a:Option Addr) (b o c:Nat) (ll:List (List M.D)) (hl:ll.length≤1048576) (hls:∀ t∈ll,t.length≤1048576) (ga:Option Addr) (gb go gc:Nat) (gs:List Int) (hgl:gs.length≤1048576) (w:World) (h:DoSS w a b o ll) (hG:IntS w ga gb go gs) :
  Calls Tryz.prog 40 #[.agg #[.slice a ll.length c],.slice ga gs.length gc] w fun e w'=>∃ v,e=.returned (.tuple #[.agg #[v],.bool (M.wallPut ll gs).isSome])∧∃ vs,Rdg w' w.heap.size v ((M.wallPut ll gs).getD []) vs∧Below w.heap.size w w':=by
 obtain ⟨i0,hi,hz0,hz1,hz2⟩:=info_parts Tryz.info41
 obtain ⟨i1,ji,jz0,jz1,jz2⟩:=info_parts Tryz.info43
 have b2:=below2 w (.cells #[.slice a ll.length c] 25) (.cells #[.slice none 0 0] 25)
 have h2:=h.below b2 (Nat.le_refl _)
 have hG2:=hG.below b2 (Nat.le_refl _)
 have hX:=(Slot1.new w (.slice a ll.length c) 25).bl' (below1 _ (.cells #[.slice none 0 0] 25))
 have hY:=Slot1.new (w.alloc (.cells #[.slice a ll.length c] 25)) (.slice none 0 0) 25
 rw [World.size_alloc] at hY
 go_enter Tryz.func40,Tryz.ntmps40
 cases hp:M.prog ll
 ·have hno:=M.wallPut_bad (gs:=gs) hp
  have CP:=sprog_any a b o c ll _ hl hls h2
  rw [hp] at CP
  go_wp2_with (first | (go_at_call 27;refine CP.mono ?_;rintro e W1 ⟨rfl,b1⟩;have hY1:=hY.bl' b1;have y0:=hY1.c;have yf:=hY1.fz;have ly:=hY1.lt))
  have bw1:=b2.trans (b1.mono b2.size)
  have q1:=(hY1.set (.slice none 0 0)).c
  exact bodyPost_ret (v:=.tuple #[.agg #[.slice none 0 0],.bool false]) (by simp [results,Tryz.results40,go_sem,q1]) rfl ⟨_,by rw [hno];rfl,[],by rw [hno];exact Rdg.nil _ _,bw1.setCell (by show w.heap.size≤w.heap.size+1;omega) _⟩
 ·obtain ⟨h3,h7⟩:=M.prog_le hp
  have hgm:=M.gapsN_le h7
  have CP:=sprog_any a b o c ll _ hl hls h2
  rw [hp] at CP
  have CO:=fun W hW=>l21Ok_any ga gb go gc gs (M.gaps ll) W hgl (by rw [M.gaps_ok hp];omega) (by rw [M.gaps_ok hp];omega) hW
  cases hok:M.gapsOk gs (M.gaps ll)
  ·have hno:=M.wallPut_gaps hok
   rw [hok] at CO
   clear hgm
   go_wp2_with (first | (go_at_call 27;refine CP.mono ?_;rintro e W1 ⟨rfl,b1⟩;have hX1:=hX.bl' b1;have x0:=hX1.c;have h1:=h2.below b1 (Nat.le_refl _);have hG1:=hG2.below b1 (Nat.le_refl _);have hY1:=hY.bl' b1) | (go_at_call 34;refine (sgaps_any a b o c ll _ hl hls h1).mono ?_;rintro e W2 ⟨rfl,b2'⟩;have hG3:=hG1.below b2' (Nat.le_refl _);have hY2:=hY1.bl' b2') | (go_at_call 66;refine (CO _ hG3).mono ?_;rintro e W3 ⟨rfl,b3⟩;have hY3:=hY2.bl' b3;have y0:=hY3.c;have yf:=hY3.fz;have ly:=hY3.lt))
   have bw1:=b2.trans (b1.mono b2.size)
   have bw2:=bw1.trans (b2'.mono bw1.size)
   have bw3:=bw2.trans (b3.mono bw2.size)
   have q1:=(hY3.set (.slice none 0 0)).c
   exact bodyPost_ret (v:=.tuple #[.agg #[.slice none 0 0],.bool false]) (by simp [results,Tryz.results40,go_sem,q1]) rfl ⟨_,by rw [hno];rfl,[],by rw [hno];exact Rdg.nil _ _,bw3.setCell (by show w.heap.size≤w.heap.size+1;omega) _⟩
  ·rw [hok] at CO
   have HQ:Hid (M.gapsOk gs (M.gaps ll)=true):=hok
   have HPq:Hid (M.prog ll=true):=hp
   clear hok hp hgm
   go_wp2_with (first | (go_at_call 27;refine CP.mono ?_;rintro e W1 ⟨rfl,b1⟩;have hX1:=hX.bl' b1;have x0:=hX1.c;have h1:=h2.below b1 (Nat.le_refl _);have hG1:=hG2.below b1 (Nat.le_refl _);have hY1:=hY.bl' b1) | (go_at_call 34;refine (sgaps_any a b o c ll _ hl hls h1).mono ?_;rintro e W2 ⟨rfl,b2'⟩;have hG3:=hG1.below b2' (Nat.le_refl _);have hY2:=hY1.bl' b2') | (go_at_call 66;refine (CO _ hG3).mono ?_;rintro e W3 ⟨rfl,b3⟩;have hY3:=hY2.bl' b3;have y0:=hY3.c;have yf:=hY3.fz;have ly:=hY3.lt))
   have bw1:=b2.trans (b1.mono b2.size)
   have bw2:=bw1.trans (b2'.mono bw1.size)
   have bw3:=bw2.trans (b3.mono bw2.size)
   have bA:=below1 W3 (.cells #[.slice none 0 0] 25)
   have hXA:=((hX1.bl' b2').bl' b3).bl' bA
   have hYA:=hY3.bl' bA
   have hZA:=Slot1.new W3 (.slice none 0 0) 25
   have bwA:=bw3.trans (bA.mono bw3.size)
   have hsA:(W3.alloc (.cells #[.slice none 0 0] 25)).heap.size=W3.heap.size+1:=by simp
   generalize W3.alloc (.cells #[.slice none 0 0] 25)=WA at *
   have hOlt:w.heap.size+1 < W3.heap.size:=ly
   generalize W3.heap.size=O at *
   clear CP CO x0 y0 yf ly b1 b2' b3 bA hX hY h2 hG2 hX1 hY1 h1 hG1 hG3 hY2 hY3 bw1 bw2 bw3 b2
   go_loopw [7,8] (fun s7 s8 wr=>∃ (n:Nat) (v:Value) (vs:List Value),s7=.int .i64 (M.gapsN (ll.take n))∧s8=.int .i64 n∧n≤ll.length∧Rdg wr (O+1) v (M.walls gs 0 (ll.take n)) vs∧Slot1 wr O v∧Slot1 wr w.heap.size (.slice a ll.length c)∧Slot1 wr (w.heap.size+1) (.slice none 0 0)∧Below w.heap.size w wr) (fun _ s8 _=>ll.length - (intOf s8).toNat)
   case atStart=>exact ⟨0,.slice none 0 0,[],by simp [M.gapsN],rfl,Nat.zero_le _,by simpa [M.walls] using Rdg.nil _ _,hZA,hXA,hYA,bwA⟩
   case round =>
    obtain ⟨n,v,vs,rfl,rfl,hn,hR,hP,hX,hY,hbel⟩:=hrel
    clear hZA hXA hYA bwA
    have x0:=hX.c
    by_cases hlt:n < ll.length
    ·obtain ⟨rfl⟩:=h.addr (by omega)
     obtain ⟨a',b',o',c',hc,hd⟩:=(h.below hbel (Nat.le_refl _)).row n hlt
     have hGr:=hG.below hbel (Nat.le_refl _)
     have ht7:=h7 _ (List.getElem_mem hlt)
     have HW:Hid (M.walls gs 0 (ll.take (n+1))=M.walls gs 0 (ll.take n)++[M.wallT gs (M.gapsN (ll.take n)) ll[n]]):=M.walls_take gs ll n hlt
     have HN:Hid (M.gapsN (ll.take (n+1))=M.gapsN (ll.take n)+(ll[n].length - 1)):=M.gapsN_take ll n hlt
     have hgn:=M.gapsN_le (ll:=ll.take n) (fun t ht=>h7 t (List.mem_of_mem_take ht))
     have hgl3:(ll.take n).length≤3:=by simp;omega
     have hwl:(M.walls gs 0 (ll.take n)).length≤3:=by rw [M.walls_len];exact hgl3
     generalize hT:M.gapsN (ll.take n)=T at *
     clear hT
     generalize ll[n]=t at *
     generalize M.walls gs 0 (ll.take n)=mm at *
     have hTb:T≤18:=by omega
     clear hgn hgl3
     have i1':(n:Int) < ll.length:=by omega
     have hcl:b < wr.heap.size:=World.block_lt_of_cell? _ _ hc
     go_wp2_with fail
     go_loopw [7,9,10] (fun s7 s9 s10 wi=>∃ k:Nat,s7=.int .i64 ((T+min k (t.length - 1):Nat):Int)∧s10=.int .i64 k∧k≤t.length∧wi.ownsRow wr.heap.size 43 3 s9 (M.wallS gs T t k).length (flat (M.wallS gs T t k))∧Below wr.heap.size wr wi) (fun _ _ s10 _=>t.length - (intOf s10).toNat)
     case atStart=>exact ⟨0,by simp,rfl,Nat.zero_le _,by rw [M.wallS_zero];exact World.ownsRow_made _ _ 0 (Nat.le_refl _) (Nat.zero_le _) rfl,below1 _ _⟩
     case round =>
      obtain ⟨k,rfl,rfl,hk,hown,hbi⟩:=hrel
      have hXi:=hX.bl' hbi
      have x0i:=hXi.c
      have hci:=(hbi.cell (p:=⟨b,o+n,none⟩) hcl).trans hc
      have hbs:=hbi.size
      by_cases hkt:k < t.length
      ·obtain ⟨rfl⟩:=hd.addr (by omega)
       have x1:=(hd.row k hkt).below hbi (Nat.le_refl _)
       have hGi:=hGr.below hbi (Nat.le_refl _)
       have HX:Hid (M.wallS gs T t (k+1)=M.wallS gs T t k++[t[k]]++(if k+1 < t.length then M.pre gs (T+k) else [])):=M.wallS_step gs T t k hkt
       have hlen:=M.wallS_len gs T t k
       generalize M.wallS gs T t k=l at *
       have hl15:l.length≤15:=by omega
       clear hlen
       generalize t[k]=d at *
       obtain ⟨kk,pp,vv⟩:=d
       obtain ⟨ck,cp,cv⟩:=x1
       have j1:(k:Int) < t.length:=by omega
       have hmk:min k (t.length - 1)=k:=by omega
       have HM:Hid (min k (t.length - 1)=k):=hmk
       obtain ⟨TT,hTT⟩:∃ TT,T+k=TT:=⟨_,rfl⟩
       have HTT:Hid (T+k=TT):=hTT
       have hTk:TT≤100:=by omega
       rw [hTT] at HX
       rw [hmk,hTT]
       clear hmk x0 hTT
       go_wp2_with (at_builtin;refine wpList_append_own _ rfl (.tmp 41) (.tmp 50) 41 rfl _ 43 i1 _ 3 24 Tryz.underlying41 ji jz0 jz1 jz2 rfl (by decide) _ _ _ rfl (hown.alloc _) ⟨wr.heap.size,0,none⟩ 1 1 [.int .i64 kk,.int .i64 pp,.int .i64 vv] rfl rfl (cells_new3 _ _ _ _ _ _ (by simp)) (one3 _ _ _) (by unfold maxLen;omega) (by omega) (by simp;omega) ?_)
       intro v3 w3 hown3 hg3 _
       have hown4:=own_more (m:=l++[⟨kk,pp,vv⟩]) rfl hown3
       have hb3:Below _ _ w3:=below_grown (hbi.trans ((below1 wr _).mono hbi.size)) hg3 (own_ge hown) (by simp;omega)
       have hXi:=hX.bl' hb3
       have hci:=(hb3.cell (p:=⟨b,o+n,none⟩) hcl).trans hc
       have hGi:=hGr.below hb3 (Nat.le_refl _)
       have hl16:(l++[(⟨kk,pp,vv⟩:M.D)]).length≤16:=by simp;omega
       have hbs3:=hb3.size
       generalize l++[(⟨kk,pp,vv⟩:M.D)]=l3 at *
       clear hown3 hg3 hown x0i ck cp cv
       have x0i:=hXi.c
       by_cases hk1:k+1 < t.length
       ·have hk1':(k:Int)+1 < t.length:=by omega
        have HX1:Hid (M.wallS gs T t (k+1)=l3++M.pre gs TT):=by show _=_;have:=HX.out;rwa [if_pos hk1] at this
        have CC:=fun W hW=>l12Has_any ga gb go gc gs (TT:Int) W hgl hW
        have HN1:Hid ((TT:Int)+1=((T+min (k+1) (t.length - 1):Nat):Int)):=by show _=_;have:=HTT.out;omega
        cases hhas:M.has gs (TT:Int)
        ·have HX2:Hid (M.wallS gs T t (k+1)=l3):=by show _=_;rw [HX1.out,M.pre_no hhas];simp
         rw [hhas] at CC
         clear hhas HX1 HX
         go_wp2_with (first | (go_at_call 67;refine (CC _ hGi).mono ?_;rintro e w1 ⟨rfl,rfl⟩))
         exact ⟨⟨k+1,by rw [HN1.out],by go_num,by omega,by rw [HX2.out];exact hown4,hb3⟩,by simp [intOf];omega⟩
        ·have HX2:Hid (M.wallS gs T t (k+1)=l3++[M.wall]):=by show _=_;rw [HX1.out,M.pre_yes hhas]
         rw [hhas] at CC
         clear hhas HX1 HX
         go_wp2_with (first | (go_at_call 67;refine (CC _ hGi).mono ?_;rintro e w1 ⟨rfl,rfl⟩) | (at_builtin;refine wpList_append_own _ rfl (.tmp 64) (.tmp 66) 41 rfl _ 43 i1 _ 3 24 Tryz.underlying41 ji jz0 jz1 jz2 rfl (by decide) _ _ _ rfl (hown4.alloc _) ⟨w1.heap.size,0,none⟩ 1 1 [.int .i64 4,.int .i64 0,.int .i64 0] rfl rfl (cells_new3 _ _ _ _ _ _ (by simp)) (one3 _ _ _) (by unfold maxLen;omega) (by omega) (by simp;omega) ?_))
         intro v5 w5 hown5 hg5 _
         have hown6:=own_more HX2.out hown5
         have hb5:Below _ _ w5:=below_grown (hb3.trans ((below1 w1 _).mono hb3.size)) hg5 (own_ge hown4) (by simp;omega)
         clear hown5 hg5 hown4
         go_wp2_with fail
         exact ⟨⟨k+1,by rw [HN1.out],by go_num,by omega,hown6,hb5⟩,by simp [intOf];omega⟩
       ·have hk1':¬ (k:Int)+1 < t.length:=by omega
        have HX2:Hid (M.wallS gs T t (k+1)=l3):=by show _=_;have:=HX.out;rw [if_neg hk1,List.append_nil] at this;exact this
        have HN1:Hid (TT=T+min (k+1) (t.length - 1)):=by show _=_;have:=HTT.out;omega
        clear HX
        go_wp2_with fail
        exact ⟨⟨k+1,by rw [← HN1.out],by go_num,by omega,by rw [HX2.out];exact hown4,hb3⟩,by simp [intOf];omega⟩
      ·have hkk:k=t.length:=by omega
       have HT:Hid (T+min k (t.length - 1)=M.gapsN (ll.take (n+1))):=by show _=_;rw [HN.out,hkk];congr 1;omega
       obtain ⟨TT,hTT⟩:∃ TT,T+min k (t.length - 1)=TT:=⟨_,rfl⟩
       have hTk:TT≤100:=by omega
       rw [hTT] at HT
       rw [hTT]
       clear hTT
       rw [M.wallS_fin gs T t k (by omega)] at hown
       have k1:¬ (k:Int) < t.length:=by omega
       clear hkk x0
       have hRi:=hR.below hbi
       have hPi:=hP.bl' hbi
       have hYi:=hY.bl' hbi
       have hbw:=hbel.trans (hbi.mono hbel.size)
       have hlap:∀ i (hi:i < vs.length) k,vs[i].ownBlock=some k→u9.ownBlock≠some k:=fun i hi j hj e=>by
        have h1:=(hR.b.inner i (by have:=hR.b.len;omega) hi).lt j hj
        have h2:=own_ge hown j e
        omega
       have hown':=ownsRow_mono hown (show O+1≤_ from by have:=hP.lt;omega)
       obtain ⟨at_,gt,ct,rfl,_⟩:=own_steps hown
       have hlen:=M.wallT_len gs T t
       generalize M.wallT gs T t=tt at *
       obtain ⟨av,gv,cv,rfl,_⟩:=hRi.b.ss
       have p0:=hPi.c
       have pf:=hPi.fz
       have lP:=hPi.lt
       have hout:=hRi.b.outer
       clear hown hR hP hX hY
       go_wp2_with (at_builtin;refine wpList_append_lies _ rfl (.tmp 71) (.tmp 73) 23 rfl (O+1) 41 i0 _ 1 24 Tryz.underlying23 hi hz0 hz1 hz2 rfl (by decide) _ _ vs rfl (hout.alloc _) ⟨wr.heap.size,0,none⟩ 1 1 [.slice at_ tt.length ct] rfl rfl (World.news_of_block (cs:=#[.slice at_ tt.length ct]) (t:=41) (fr:=(0,0)) (heap_alloc_new wr _)) (by simp [Value.oneCell']) (by omega) (by unfold maxLen;omega) (by omega) (by simp;omega) (wr.heap.size+1) (by simp) ?_)
       intro g2 cap2 w3 hown3 hg3 hat hlt3
       have hge:=own_ge hout
       have bA:=below1 wr (.cells #[.slice at_ tt.length ct] 41)
       have hP3:=(hPi.bl' bA).apart hg3 (fun e=>by have:=hge _ e;omega)
       have hX3:=(hXi.bl' bA).apart hg3 (fun e=>by have:=hge _ e;omega)
       have hY3:=(hYi.bl' bA).apart hg3 (fun e=>by have:=hge _ e;omega)
       have hR3:=(hRi.below bA).snocT (ownsRow_below hown' bA) hlap hown3 hg3
       have hb3:Below w.heap.size w w3:=below_grown (hbw.trans (bA.mono hbw.size)) hg3 (fun k hk=>by have:=hge k hk;omega) (by have:=hbw.size;simp;omega)
       rw [← HW.out] at hR3
       clear hown3 hg3 hat hout hown' p0 pf hRi hPi hYi
       have p0:=hP3.c
       have pf:=hP3.fz
       go_wp2_with fail
       have hP4:=hP3.set (.slice (some ⟨g2,0,none⟩) (mm.length+1) cap2)
       exact ⟨⟨n+1,_,_,by rw [HT.out],by go_num,by omega,hR3.far (by omega) _,hP4,hX3.far (by omega) _,hY3.far (by omega) _,hb3.setCell (by show w.heap.size≤O;omega) _⟩,by simp [intOf];omega⟩
    ·have hW:M.walls gs 0 (ll.take n)=M.walls gs 0 ll:=by rw [List.take_of_length_le (by omega)]
     rw [hW] at hR
     obtain ⟨av,gv,cv,rfl,hs3⟩:=hR.b.ss
     have hl3:(M.walls gs 0 ll).length≤1048576:=by rw [M.walls_len];omega
     have hls3:∀ t∈M.walls gs 0 ll,t.length≤1048576:=fun t ht=>by have:=M.walls_le gs ll h7 0 t ht;omega
     have n1:¬ (n:Int) < ll.length:=by omega
     have p0:=hP.c
     have CQ:=sprog_any av gv 0 cv _ wr hl3 hls3 hs3
     cases hpw:M.prog (M.walls gs 0 ll)
     ·have hno:=M.wallPut_over hpw
      rw [hpw] at CQ
      go_wp2_with (first | (go_at_call 27;refine CQ.mono ?_;rintro e W5 ⟨rfl,b5⟩;have hY5:=hY.bl' b5;have y0:=hY5.c;have yf:=hY5.fz;have ly:=hY5.lt))
      have bw5:=hbel.trans (b5.mono hbel.size)
      have q1:=(hY5.set (.slice none 0 0)).c
      exact bodyPost_ret (v:=.tuple #[.agg #[.slice none 0 0],.bool false]) (by simp [results,Tryz.results40,go_sem,q1]) rfl ⟨_,by rw [hno];rfl,[],by rw [hno];exact Rdg.nil _ _,bw5.setCell (by show w.heap.size≤w.heap.size+1;omega) _⟩
     ·have hyes:=M.wallPut_yes HPq.out HQ.out hpw
      rw [hpw] at CQ
      go_wp2_with (first | (go_at_call 27;refine CQ.mono ?_;rintro e W5 ⟨rfl,b5⟩;have hY5:=hY.bl' b5;have y0:=hY5.c;have yf:=hY5.fz;have ly:=hY5.lt;have hP5:=hP.bl' b5;have p5:=hP5.c))
      have bw5:=hbel.trans (b5.mono hbel.size)
      have hR5:=hR.below b5
      have q1:=(hY5.set (.slice av (M.walls gs 0 ll).length cv)).c
      exact bodyPost_ret (v:=.tuple #[.agg #[.slice av (M.walls gs 0 ll).length cv],.bool true]) (by simp [results,Tryz.results40,go_sem,q1]) rfl ⟨_,by rw [hyes];rfl,vs,by rw [hyes];exact (hR5.far (by omega) _).mono (by omega),bw5.setCell (by show w.heap.size≤w.heap.size+1;omega) _⟩
end Go.Proofs.YtjjkicffhpcngaaGreat
