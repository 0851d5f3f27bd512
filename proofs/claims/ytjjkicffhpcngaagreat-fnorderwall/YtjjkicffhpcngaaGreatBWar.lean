/- Structs and arrays of many cells, made, stored and read as one. No condition. And what goes with it: Wide, WlMath, WlGap, WlOk. -/
import Derived.Deep.MidRow
import Derived.Deep.WholeRow
import Derived.Deep.RegionHeld3
import Derived.BigQuiet
import Derived.Test.YtjjkicffhpcngaaGreatBWaj
namespace Go.Proofs.YtjjkicffhpcngaaGreat
open Go.RowKit
theorem takeD {P:Program} {md:Region.Mode} {ops:Array Oper} {Q:Exit→Act→World→Prop} {S:World→Prop} (i:Nat) {oi:Oper} (d:Option Tmp) (v:Value) {fuel:Nat} {listed:Array Bool} {a:Act} {w:World} (hS:S w) (hi:ops[i]?=some oi) (hd:oi.dst=d)
  (hs:Region.noSelect ops=true) (hf:Region.free md ops listed i=true) (hr:(Region.ready md ops listed).contains i=true)
  (hQ:∀ c a w,Q (.panic c) (a.put d v) w→Q (.panic c) a w) (hy:YieldsIf P ops S oi v a)
  (h:wpAnyH P md ops Q S fuel (listed.setIfInBounds i true) (a.put d v) w):wpAnyH P md ops Q S (fuel+1) listed a w:=by
 subst hd
 exact wpAnyH_take hi hs hf hr hQ hy hS h
theorem wpList_alloc_row {P:Program} {w:World} {ops:Array Oper} {rest:List Oper} {op:Oper} {a:Act} {Q:Exit→Act→World→Prop} (hgd:op.guard=none) (ty:TypeId) (ho:op.op=.alloc ty)
  (z:Array Value) (hz:∀ w,(zeroValue ty).run P w=.ok (.agg z) w)
  (h:wpList P ops Q rest (a.put op.dst (.pointer (some ⟨w.heap.size,0,none⟩))) (w.alloc (.cells z ty))):wpList P ops Q (op::rest) a w:=by
 refine wpList_plain hgd fun _ hK=>?_
 unfold Oper.wp execOp
 simp [ho,Instr.alloc,hz,newVar,Value.cells]
 exact hK _ _ h
theorem wpList_store_new {P:Program} {w:World} {ops:Array Oper} {rest:List Oper} {op:Oper} {a:Act} {Q:Exit→Act→World→Prop} (hgd:op.guard=none) (ty:TypeId) (x y:Operand) (ho:op.op=.store ty x y)
  (c c':Array Value) (hx:a.eval x=.pointer (some ⟨w.heap.size,0,none⟩)) (hy:a.eval y=.agg c') (hi:(P.info? ty).map (·.size)=some c'.size) (hs:c.size=c'.size) (h1:c'.all (·.oneCell')=true)
  (h:wpList P ops Q rest (a.put op.dst undef) (w.alloc (.cells c' ty))):wpList P ops Q (op::rest) a (w.alloc (.cells c ty)):=by
 refine wpList_plain hgd fun _ hK=>?_
 unfold Oper.wp execOp
 simp only [ho,hx,hy,Sem.run_bind,Sem.run_pure,Result.andThen_ok,run_storeAt_new (P:=P) w ty c c' hi hs h1]
 exact hK _ _ h
end Go.Proofs.YtjjkicffhpcngaaGreat
namespace Go.Proofs.YtjjkicffhpcngaaGreat
namespace M
def gapsN:List (List D)→Nat
 | []=>0
 | t::ll=>(t.length - 1)+gapsN ll
def gaps (ll:List (List D)):Int:=if prog ll then gapsN ll else -1
theorem gaps_no {ll:List (List D)} (h:prog ll=false):gaps ll=-1:=by simp [gaps,h]
theorem gaps_ok {ll:List (List D)} (h:prog ll=true):gaps ll=gapsN ll:=by simp [gaps,h]
theorem gapsN_step {l:List (List D)} {m n:Nat} {t:List D} (hp:gapsN l=m+gapsN (l.drop n)) (hd:l.drop n=t::l.drop (n+1)):gapsN l=(m+(t.length - 1))+gapsN (l.drop (n+1)):=by
 rw [hp,hd,gapsN];omega
theorem gapsN_fin {l:List (List D)} {m n:Nat} (hp:gapsN l=m+gapsN (l.drop n)) (hn:l.length≤n):m=gapsN l:=by
 rw [hp,List.drop_eq_nil_of_le hn];rfl
theorem gapsN_le {ll:List (List D)} (h7:∀ t∈ll,t.length≤7):gapsN ll≤6 * ll.length:=by
 induction ll with
 | nil=>simp [gapsN]
 | cons t ll ih =>
  have:=h7 t (by simp)
  have:=ih (fun t ht=>h7 t (List.mem_cons_of_mem _ ht))
  simp only [gapsN,List.length_cons]
  omega
def gapsFrom (last many:Int):List Int→Bool
 | []=>true
 | g::gs=>decide (last < g)&&decide (g < many)&&gapsFrom g many gs
def gapsOk (gs:List Int) (many:Int):Bool:=gapsFrom (-1) many gs
def lastG (gs:List Int) (n:Nat):Int:=if n=0 then -1 else gs.getD (n - 1) 0
theorem lastOf_succ (gs:List Int) (n:Nat) (h:n < gs.length):lastG gs (n+1)=gs[n]:=by
 simp [lastG,List.getD_eq_getElem?_getD,List.getElem?_eq_getElem h]
theorem gapsFrom_step {gs:List Int} {many:Int} {n:Nat} {g:Int} (h:gapsOk gs many=gapsFrom (lastG gs n) many (gs.drop n)) (hn:n < gs.length) (hg:gs[n]=g) :
  gapsOk gs many=(decide (lastG gs n < g)&&decide (g < many)&&gapsFrom (lastG gs (n+1)) many (gs.drop (n+1))):=by
 rw [h,← List.getElem_cons_drop hn,gapsFrom,lastOf_succ gs n hn,hg]
theorem gapsFrom_fin {gs:List Int} {many:Int} {n:Nat} (h:gapsOk gs many=gapsFrom (lastG gs n) many (gs.drop n)) (hn:gs.length≤n):gapsOk gs many=true:=by
 rw [h,List.drop_eq_nil_of_le hn];rfl
def wall:D:=⟨4,0,0⟩
def pre (gs:List Int) (n:Nat):List D:=if has gs n then [wall] else []
theorem pre_no {gs:List Int} {n:Nat} (h:has gs (n:Int)=false):pre gs n=[]:=by unfold pre;rw [h];rfl
theorem pre_yes {gs:List Int} {n:Nat} (h:has gs (n:Int)=true):pre gs n=[wall]:=by unfold pre;rw [h];rfl
def wallR (gs:List Int) (n:Nat):List D→List D
 | []=>[]
 | d::l=>pre gs n++d::wallR gs (n+1) l
def wallT (gs:List Int) (n:Nat):List D→List D
 | []=>[]
 | d::l=>d::wallR gs n l
def walls (gs:List Int) (n:Nat):List (List D)→List (List D)
 | []=>[]
 | t::ll=>wallT gs n t::walls gs (n+(t.length - 1)) ll
theorem wallR_snoc (gs:List Int) (d:D) (l:List D):∀ n,wallR gs n (l++[d])=wallR gs n l++pre gs (n+l.length)++[d]:=by
 induction l with
 | nil=>intro n;simp [wallR]
 | cons x l ih =>
  intro n
  simp only [List.cons_append,wallR,ih,List.length_cons]
  rw [show n+1+l.length=n+(l.length+1) from by omega]
  simp
theorem wallT_snoc (gs:List Int) (n:Nat) (d:D) (l:List D):wallT gs n (l++[d])=wallT gs n l++(if 0 < l.length then pre gs (n+(l.length - 1)) else [])++[d]:=by
 cases l with
 | nil=>simp [wallT,wallR]
 | cons x l=>simp [wallT,wallR_snoc]
theorem pre_len (gs:List Int) (n:Nat):(pre gs n).length≤1:=by unfold pre;split<;>simp
theorem wallR_len (gs:List Int) (l:List D):∀ n,(wallR gs n l).length≤2 * l.length:=by
 induction l with
 | nil=>intro n;simp [wallR]
 | cons x l ih=>intro n;have:=ih (n+1);have:=pre_len gs n;simp only [wallR,List.length_append,List.length_cons];omega
theorem wallT_len (gs:List Int) (n:Nat) (l:List D):(wallT gs n l).length≤2 * l.length:=by
 cases l with
 | nil=>simp [wallT]
 | cons x l=>have:=wallR_len gs l n;simp only [wallT,List.length_cons];omega
theorem walls_app (gs:List Int) (ll mm:List (List D)):∀ n,walls gs n (ll++mm)=walls gs n ll++walls gs (n+gapsN ll) mm:=by
 induction ll with
 | nil=>intro n;simp [walls,gapsN]
 | cons t ll ih=>intro n;simp only [List.cons_append,walls,ih,gapsN];rw [Nat.add_assoc]
theorem walls_len (gs:List Int) (ll:List (List D)):∀ n,(walls gs n ll).length=ll.length:=by
 induction ll with
 | nil=>intro n;simp [walls]
 | cons t ll ih=>intro n;simp [walls,ih]
theorem walls_le (gs:List Int) (ll:List (List D)) (h7:∀ t∈ll,t.length≤7):∀ n,∀ t∈walls gs n ll,t.length≤14:=by
 induction ll with
 | nil=>intro n t ht;simp [walls] at ht
 | cons u ll ih =>
  intro n t ht
  rcases List.mem_cons.1 ht with rfl | ht
  ·have:=wallT_len gs n u;have:=h7 u (by simp);omega
  ·exact ih (fun t ht=>h7 t (List.mem_cons_of_mem _ ht)) _ t ht
theorem gapsN_take (ll:List (List D)) (n:Nat) (h:n < ll.length):gapsN (ll.take (n+1))=gapsN (ll.take n)+(ll[n].length - 1):=by
 have app:∀ a b:List (List D),gapsN (a++b)=gapsN a+gapsN b:=fun a b=>by
  induction a with
  | nil=>simp [gapsN]
  | cons x a ih=>simp only [List.cons_append,gapsN,ih];omega
 rw [List.take_succ_eq_append_getElem h,app];simp [gapsN]
theorem walls_take (gs:List Int) (ll:List (List D)) (n:Nat) (h:n < ll.length):walls gs 0 (ll.take (n+1))=walls gs 0 (ll.take n)++[wallT gs (gapsN (ll.take n)) ll[n]]:=by
 rw [List.take_succ_eq_append_getElem h,walls_app];simp [walls]
theorem wallT_take (gs:List Int) (n:Nat) (t:List D) (k:Nat) (h:k < t.length):wallT gs n (t.take (k+1))=wallT gs n (t.take k)++(if 0 < k then pre gs (n+(k - 1)) else [])++[t[k]]:=by
 rw [List.take_succ_eq_append_getElem h,wallT_snoc]
 have:(t.take k).length=k:=by simp;omega
 rw [this]
def wallS (gs:List Int) (n:Nat) (t:List D) (k:Nat):List D:=wallT gs n (t.take k)++(if 0 < k∧k < t.length then pre gs (n+(k - 1)) else [])
theorem wallS_step (gs:List Int) (n:Nat) (t:List D) (k:Nat) (h:k < t.length):wallS gs n t (k+1)=wallS gs n t k++[t[k]]++(if k+1 < t.length then pre gs (n+k) else []):=by
 unfold wallS
 rw [wallT_take gs n t k h]
 by_cases h0:0 < k
 ·simp [h0,h]
 ·simp [h0]
theorem wallS_fin (gs:List Int) (n:Nat) (t:List D) (k:Nat) (h:t.length≤k):wallS gs n t k=wallT gs n t:=by
 unfold wallS
 rw [List.take_of_length_le h,if_neg (by omega)];simp
theorem wallS_len (gs:List Int) (n:Nat) (t:List D) (k:Nat):(wallS gs n t k).length≤2 * t.length+1:=by
 unfold wallS
 have:=wallT_len gs n (t.take k)
 have:=pre_len gs (n+(k - 1))
 have:(t.take k).length≤t.length:=by simp;omega
 rw [List.length_append]
 split
 ·omega
 ·simp;omega
theorem wallS_zero (gs:List Int) (n:Nat) (t:List D):wallS gs n t 0=[]:=by simp [wallS,wallT]
def wallPut (ll:List (List D)) (gs:List Int):Option (List (List D)) :=
 if prog ll&&gapsOk gs (gaps ll)&&prog (walls gs 0 ll) then some (walls gs 0 ll) else none
theorem wallPut_some {ll mm:List (List D)} {gs:List Int} (h:wallPut ll gs=some mm):prog ll=true∧gapsOk gs (gaps ll)=true∧prog mm=true∧mm=walls gs 0 ll:=by
 unfold wallPut at h
 split at h
 ·rename_i hc
  simp only [Bool.and_eq_true] at hc
  obtain rfl:=Option.some.inj h
  exact ⟨hc.1.1,hc.1.2,hc.2,rfl⟩
 ·cases h
theorem wallPut_bad {ll:List (List D)} {gs:List Int} (h:prog ll=false):wallPut ll gs=none:=by simp [wallPut,h]
theorem wallPut_gaps {ll:List (List D)} {gs:List Int} (h:gapsOk gs (gaps ll)=false):wallPut ll gs=none:=by simp [wallPut,h]
theorem wallPut_over {ll:List (List D)} {gs:List Int} (h:prog (walls gs 0 ll)=false):wallPut ll gs=none:=by simp [wallPut,h]
theorem wallPut_yes {ll:List (List D)} {gs:List Int} (h1:prog ll=true) (h2:gapsOk gs (gaps ll)=true) (h3:prog (walls gs 0 ll)=true):wallPut ll gs=some (walls gs 0 ll):=by simp [wallPut,h1,h2,h3]
end M
end Go.Proofs.YtjjkicffhpcngaaGreat
namespace Go.Proofs.YtjjkicffhpcngaaGreat
open Go.RowKit
set_option maxHeartbeats 400000 in
theorem igaps_any (a:Option Addr) (b o c:Nat) (ll:List (List M.D)) (w:World) (hl:ll.length≤1048576) (hls:∀ t∈ll,t.length≤1048576) (h:DoSS w a b o ll) :
  Calls Tryz.prog 39 #[.agg #[.slice a ll.length c]] w fun e w'=>e=.returned (.int .i64 (M.gaps ll))∧Below w.heap.size w w':=by
 cases hp:M.prog ll
 ·go_enter Tryz.func39,Tryz.ntmps39
  go_wp2_with (go_at_call 42;refine (iprog_any a b o c ll _ hl hls (h.below (below1 w _) (Nat.le_refl _))).mono ?_;rintro e w1 ⟨rfl,hb1⟩)
  go_ret
  exact ⟨ret_int (M.gaps_no hp).symm,(below1 w _).trans (hb1.mono (by simp))⟩
 ·obtain ⟨h3,h7⟩:=M.prog_le hp
  go_enter Tryz.func39,Tryz.ntmps39
  go_wp2_with (go_at_call 42;refine (iprog_any a b o c ll _ hl hls (h.below (below1 w _) (Nat.le_refl _))).mono ?_;rintro e w1 ⟨rfl,hb1⟩;obtain ⟨hc1,hf1⟩:=bcell hb1)
  have hs1:=(h.below (below1 w _) (Nat.le_refl _)).below hb1 (Nat.le_refl _)
  have hbw:Below w.heap.size w w1:=(below1 w _).trans (hb1.mono (by simp))
  clear hb1 hc1 hf1 h
  go_loopw [3,12] (fun s3 s12 wr=>∃ m n:Nat,s3=.int .i64 m∧s12=.int .i64 n∧n≤ll.length∧m≤7 * n∧M.gapsN ll=m+M.gapsN (ll.drop n)∧wr=w1) (fun _ s12 _=>ll.length - (intOf s12).toNat)
  case atStart=>exact ⟨0,0,rfl,rfl,Nat.zero_le _,Nat.le_refl _,by simp,rfl⟩
  case round =>
   obtain ⟨m,n,rfl,rfl,hn,hmn,hpass,rfl⟩:=hrel
   have HP:Hid (M.gapsN ll=m+M.gapsN (ll.drop n)):=hpass
   clear hpass
   by_cases hlt:n < ll.length
   ·obtain ⟨rfl⟩:=hs1.addr (by omega)
    obtain ⟨a',b',o',c',hc,hd⟩:=hs1.row n hlt
    have HD:Hid (ll.drop n=ll[n]::ll.drop (n+1)):=M.drop_at' ll n hlt
    have hlt7:=h7 _ (List.getElem_mem hlt)
    generalize ll[n]=t at hd hc HD hlt7
    have i1:(n:Int) < ll.length:=by omega
    go_wp2_with fail
    exact ⟨⟨m+(t.length - 1),n+1,by congr 1;first|(split<;>omega)|omega,by go_num,by omega,by omega,M.gapsN_step HP.out HD.out,trivial⟩,by simp [intOf];omega⟩
   ·go_wp2_with fail
    go_ret
    exact ⟨ret_int (by rw [M.gaps_ok hp,M.gapsN_fin HP.out (by omega)]),hbw⟩
set_option maxHeartbeats 400000 in
theorem sgaps_any (a:Option Addr) (b o c:Nat) (ll:List (List M.D)) (w:World) (hl:ll.length≤1048576) (hls:∀ t∈ll,t.length≤1048576) (h:DoSS w a b o ll) :
  Calls Tryz.prog 34 #[.agg #[.slice a ll.length c]] w fun e w'=>e=.returned (.int .i64 (M.gaps ll))∧Below w.heap.size w w':=by
 cases hp:M.prog ll
 ·go_enter Tryz.func34,Tryz.ntmps34
  go_wp2_with (go_at_call 27;refine (sprog_any a b o c ll _ hl hls (h.below (below1 w _) (Nat.le_refl _))).mono ?_;rintro e w1 ⟨rfl,hb1⟩)
  go_ret
  exact ⟨ret_int (M.gaps_no hp).symm,(below1 w _).trans (hb1.mono (by simp))⟩
 ·obtain ⟨h3,h7⟩:=M.prog_le hp
  go_enter Tryz.func34,Tryz.ntmps34
  go_wp2_with (go_at_call 27;refine (sprog_any a b o c ll _ hl hls (h.below (below1 w _) (Nat.le_refl _))).mono ?_;rintro e w1 ⟨rfl,hb1⟩;obtain ⟨hc1,hf1⟩:=bcell hb1)
  have hs1:=(h.below (below1 w _) (Nat.le_refl _)).below hb1 (Nat.le_refl _)
  have hbw:Below w.heap.size w w1:=(below1 w _).trans (hb1.mono (by simp))
  have hbox1:w1.cell? ⟨w.heap.size,0,none⟩=some (.slice a ll.length c):=by rw [hc1 _ _ (by simp)];simp
  clear hb1 hc1 hf1 h
  go_loopw [3,4] (fun s3 s4 wr=>∃ m n:Nat,s3=.int .i64 m∧s4=.int .i64 n∧n≤ll.length∧m≤7 * n∧M.gapsN ll=m+M.gapsN (ll.drop n)∧wr=w1) (fun _ s4 _=>ll.length - (intOf s4).toNat)
  case atStart=>exact ⟨0,0,rfl,rfl,Nat.zero_le _,Nat.le_refl _,by simp,rfl⟩
  case round =>
   obtain ⟨m,n,rfl,rfl,hn,hmn,hpass,rfl⟩:=hrel
   have HP:Hid (M.gapsN ll=m+M.gapsN (ll.drop n)):=hpass
   clear hpass
   by_cases hlt:n < ll.length
   ·obtain ⟨rfl⟩:=hs1.addr (by omega)
    obtain ⟨a',b',o',c',hc,hd⟩:=hs1.row n hlt
    have HD:Hid (ll.drop n=ll[n]::ll.drop (n+1)):=M.drop_at' ll n hlt
    have hlt7:=h7 _ (List.getElem_mem hlt)
    generalize ll[n]=t at hd hc HD hlt7
    have i1:(n:Int) < ll.length:=by omega
    go_wp2_with fail
    exact ⟨⟨m+(t.length - 1),n+1,by congr 1;first|(split<;>omega)|omega,by go_num,by omega,by omega,M.gapsN_step HP.out HD.out,trivial⟩,by simp [intOf];omega⟩
   ·go_wp2_with fail
    go_ret
    exact ⟨ret_int (by rw [M.gaps_ok hp,M.gapsN_fin HP.out (by omega)]),hbw⟩
end Go.Proofs.YtjjkicffhpcngaaGreat
namespace Go.Proofs.YtjjkicffhpcngaaGreat
open Go.RowKit
set_option maxHeartbeats 400000 in
theorem gapsOk_any (a:Option Addr) (b o c:Nat) (gs:List Int) (many:Int) (w:World) (hl:gs.length≤1048576) (h:IntS w a b o gs) :
  Calls Tryz.prog 58 #[.slice a gs.length c,.int .i64 many] w fun e w'=>e=.returned (.bool (M.gapsOk gs many))∧w'=w:=by
 go_enter Tryz.func58,Tryz.ntmps58
 go_wp2_with fail
 go_loopw [5,10] (fun s5 s10 wr=>∃ n:Nat,s5=.int .i64 (M.lastG gs n)∧s10=.int .i64 n∧n≤gs.length∧Hid (M.gapsOk gs many=M.gapsFrom (M.lastG gs n) many (gs.drop n))∧wr=w) (fun _ s10 _=>gs.length - (intOf s10).toNat)
 case atStart=>exact ⟨0,by simp [M.lastG],rfl,Nat.zero_le _,by show _=_;simp [M.gapsOk,M.lastG],rfl⟩
 case round =>
  obtain ⟨n,rfl,rfl,hn,HP,rfl⟩:=hrel
  by_cases hlt:n < gs.length
  ·obtain ⟨rfl⟩:=h.addr (by omega)
   have hx:=h.row n hlt
   have HS:=fun g hg=>M.gapsFrom_step (g:=g) HP.out hlt hg
   have HL:Hid (M.lastG gs (n+1)=gs[n]):=M.lastOf_succ gs n hlt
   obtain ⟨y,hy⟩:∃ y,gs[n]=y:=⟨_,rfl⟩
   have HQ:Hid (M.gapsOk gs many=(decide (M.lastG gs n < y)&&decide (y < many)&&M.gapsFrom (M.lastG gs (n+1)) many (gs.drop (n+1)))):=HS y hy
   rw [hy] at hx HL
   clear hy HS HP
   have i1:(n:Int) < gs.length:=by omega
   generalize M.lastG gs n=last at *
   by_cases e1:last < y
   ·have e1':¬ y≤last:=by omega
    by_cases e2:y < many
    ·have e2':¬ many≤y:=by omega
     go_wp2_with fail
     exact ⟨⟨n+1,by rw [HL.out],by go_num,by omega,by show _=_;rw [HQ.out];simp [e1,e2],trivial⟩,by simp [intOf];omega⟩
    ·have e2':many≤y:=by omega
     go_wp2_with fail
     go_ret
     exact ⟨ret_bool (by rw [HQ.out,decide_eq_false (show ¬ y < many by omega)];simp),rfl⟩
   ·have e1':y≤last:=by omega
    go_wp2_with fail
    go_ret
    exact ⟨ret_bool (by rw [HQ.out,decide_eq_false (show ¬ last < y by omega)];simp),rfl⟩
  ·have HF:=M.gapsFrom_fin HP.out (by omega)
   clear HP
   go_wp2_with fail
   go_ret
   exact ⟨ret_bool HF.symm,rfl⟩
theorem M.gaps_in {gs:List Int} {many:Int} {n:Nat} {y:Int} (h:M.gapsOk gs many=(decide (M.lastG gs n < y)&&decide (y < many)&&M.gapsFrom (M.lastG gs (n+1)) many (gs.drop (n+1)))) (hy:M.rng 0 (many - 1) y=false) (hl:-1≤M.lastG gs n):M.gapsOk gs many=false:=by
 rw [h]
 simp only [M.rng,Bool.and_eq_false_iff,decide_eq_false_iff_not] at hy ⊢
 left
 omega
set_option maxHeartbeats 1000000 in
theorem l21Ok_any (a:Option Addr) (b o c:Nat) (gs:List Int) (many:Int) (w:World) (hl:gs.length≤1048576) (hm0:-1≤many) (hm:many≤1000) (h:IntS w a b o gs) :
  Calls Tryz.prog 66 #[.slice a gs.length c,.int .i64 many] w fun e w'=>e=.returned (.bool (M.gapsOk gs many))∧Below w.heap.size w w':=by
 have hwm:IntKind.i64.wrap (many - 1)=many - 1:=IntWalk.i64_in _ (by omega)
 go_enter Tryz.func66,Tryz.ntmps66
 go_wp2_with fail
 go_loopw [5] (fun s5 wr=>∃ n:Nat,s5=.int .i64 n∧n≤gs.length∧-1≤M.lastG gs n∧Hid (M.gapsOk gs many=M.gapsFrom (M.lastG gs n) many (gs.drop n))∧Below w.heap.size w wr) (fun s5 _=>gs.length - (intOf s5).toNat)
 case atStart=>exact ⟨0,rfl,Nat.zero_le _,by simp [M.lastG],by show _=_;simp [M.gapsOk,M.lastG],Below.refl _ _⟩
 case round =>
  obtain ⟨n,rfl,hn,hlo,HP,hbel⟩:=hrel
  by_cases hlt:n < gs.length
  ·have hh:=h.below hbel (Nat.le_refl _)
   obtain ⟨rfl⟩:=hh.addr (by omega)
   have hx:=hh.row n hlt
   have HS:=fun g hg=>M.gapsFrom_step (g:=g) HP.out hlt hg
   have HL:Hid (M.lastG gs (n+1)=gs[n]):=M.lastOf_succ gs n hlt
   obtain ⟨y,hy⟩:∃ y,gs[n]=y:=⟨_,rfl⟩
   have HQ:Hid (M.gapsOk gs many=(decide (M.lastG gs n < y)&&decide (y < many)&&M.gapsFrom (M.lastG gs (n+1)) many (gs.drop (n+1)))):=HS y hy
   rw [hy] at hx HL
   clear hy HS HP
   have i1:(n:Int) < gs.length:=by omega
   have CI:=fun W=>l6In_any y 0 (many - 1) W
   have HLo:Hid (-1≤M.lastG gs n):=hlo
   clear hlo
   cases hr:M.rng 0 (many - 1) y
   ·rw [hr] at CI
    have HF:=M.gaps_in HQ.out hr HLo.out
    go_wp2_with fail
    refine wp_region_quiet_lit (by kernel_rfl) (by kernel_rfl) ?_
    iterate 9 (quiet_step (first | (go_at_call 83;refine Calls.quiet_of_same (CI _))))
    iterate 14 go_big_quiet_skip
    iterate 1 (quiet_step (fail))
    refine wpQuiet_nil ?_
    rintro _ ⟨nq,rfl⟩
    go_wp2_with fail
    go_ret
    exact ⟨ret_bool HF.symm,hbel.trans ⟨rfl,rfl,rfl,Nat.le_refl _,fun _ _=>rfl⟩⟩
   ·rw [hr] at CI
    have hr':0≤y∧y < many:=by simp only [M.rng,Bool.and_eq_true,decide_eq_true_eq] at hr;omega
    clear hr
    have hy1:y < many:=hr'.2
    have hy0:Hid (0≤y):=hr'.1
    clear hr'
    rcases Nat.eq_zero_or_pos n with h0 | h0
    ·subst h0
     have HO:Hid (M.lastG gs 0 < y):=by show _ < _;have:=hy0.out;simp only [M.lastG,if_true];omega
     have hx0:wr.cell? ⟨b,o,none⟩=some (.int .i64 y):=by simpa using hx
     have i0:(0:Int) < gs.length:=by omega
     have i00:0 < gs.length:=by omega
     clear hx i1
     go_wp2_with fail
     refine wp_region_quiet_lit (by kernel_rfl) (by kernel_rfl) ?_
     iterate 12 (quiet_step (first | (go_at_call 83;refine Calls.quiet_of_same (CI _))))
     iterate 10 go_big_quiet_skip
     iterate 2 (quiet_step (fail))
     refine wpQuiet_nil ?_
     rintro _ ⟨nq,rfl⟩
     go_wp2_with fail
     exact ⟨⟨1,by go_num,by omega,by rw [HL.out];have:=hy0.out;omega,by show _=_;rw [HQ.out,decide_eq_true HO.out,decide_eq_true hy1];simp,hbel.trans ⟨rfl,rfl,rfl,Nat.le_refl _,fun _ _=>rfl⟩⟩,by simp [intOf];omega⟩
    ·obtain ⟨m,rfl⟩:∃ m,n=m+1:=⟨n - 1,by omega⟩
     have hz:=hh.row m (by omega)
     have HZ:Hid (M.lastG gs (m+1)=gs[m]):=M.lastOf_succ gs m (by omega)
     generalize gs[m]=z at *
     have e0:(((m+1:Nat):Int)) - 1=m:=by omega
     have e1:IntKind.i64.wrap (m:Int)=m:=IntWalk.i64_in _ (by omega)
     have e2:decide (0 < m+1)=true:=by simp
     have i2:(m:Int) < gs.length:=by omega
     by_cases hzy:z < y
     ·have hzy':¬ y≤z:=by omega
      go_wp2_with fail
      go_quiet (first | (go_at_call 83;refine Calls.quiet_of_same (CI _)))
      go_wp2_with fail
      exact ⟨⟨m+1+1,by go_num,by omega,by rw [HL.out];have:=hy0.out;omega,by show _=_;rw [HQ.out,HZ.out,decide_eq_true hzy,decide_eq_true hy1];simp,hbel.trans ⟨rfl,rfl,rfl,Nat.le_refl _,fun _ _=>rfl⟩⟩,by simp [intOf];omega⟩
     ·have hzy':y≤z:=by omega
      go_wp2_with fail
      go_quiet (first | (go_at_call 83;refine Calls.quiet_of_same (CI _)))
      go_wp2_with fail
      go_ret
      exact ⟨ret_bool (by rw [HQ.out,HZ.out,decide_eq_false (show ¬ z < y by omega)];simp),hbel.trans ⟨rfl,rfl,rfl,Nat.le_refl _,fun _ _=>rfl⟩⟩
  ·have HF:=M.gapsFrom_fin HP.out (by omega)
   clear HP
   go_wp2_with fail
   go_ret
   exact ⟨ret_bool HF.symm,hbel⟩
end Go.Proofs.YtjjkicffhpcngaaGreat
