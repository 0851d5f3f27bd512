/- Rows that a call builds, of elements of several cells. No condition. And what goes with it: Told, Mem, Word, ArrOp, TnGo, TnMath. -/
import Derived.BigQuiet
import Derived.Test.YtmhpgdliaclokaaGreatRows
import Derived.Test.YtmhpgdliaclokaaGreatQzac
namespace Go.Proofs.YtmhpgdliaclokaaGreat
section
open Go.RowKit
structure Told (w W:World) (e:TypeId) (size:Nat) (v:Value) (n:Nat) (xs:List Value):Prop where
 own:W.ownsRow w.heap.size e size v n xs
 bel:Below w.heap.size w W
theorem Told.start (w W:World) (e:TypeId) (size:Nat) (hb:Below w.heap.size w W):Told w W e size (.slice none 0 0) 0 []:=⟨World.ownsRow_nil _ _ _ _,hb⟩
theorem Told.snoc {w W W':World} {e:TypeId} {size:Nat} {v:Value} {n:Nat} {xs:List Value} {o:Obj} (h:Told w W e size v n xs) {g cap m:Nat} {ys:List Value}
  (ho:W'.ownsRow w.heap.size e size (.slice (some ⟨g,0,none⟩) m cap) m ys) (hg:(W.alloc o).grownBy W' v.ownBlock):Told w W' e size (.slice (some ⟨g,0,none⟩) m cap) m ys :=
 ⟨ho,below_grown (h.bel.alloc h.bel.size o) hg (fun k hk=>own_ge h.own k hk) (by have:=h.bel.size;simp;omega)⟩
theorem Told.below {w W W':World} {e:TypeId} {size:Nat} {v:Value} {n:Nat} {xs:List Value} (h:Told w W e size v n xs) (hb:Below W.heap.size W W'):Told w W' e size v n xs :=
 ⟨ownsRow_below h.own hb,h.bel.trans (hb.mono h.bel.size)⟩
theorem own_mono {w:World} {base base':Nat} {e:TypeId} {size:Nat} {v:Value} {n:Nat} {xs:List Value} (h:w.ownsRow base e size v n xs) (hb:base'≤base):w.ownsRow base' e size v n xs:=by
 refine ⟨h.1,?_⟩
 rcases h.2 with h2 | ⟨g,cap,cur,hv,hg,r⟩
 ·exact Or.inl h2
 ·exact Or.inr ⟨g,cap,cur,hv,Nat.le_trans hb hg,r⟩
structure RS {α:Type} (f:α→List Value) (k:Nat) (w:World) (va:Option Addr) (g:Nat) (l:List α):Prop where
 addr:0 < l.length→va=some ⟨g,0,none⟩
 row:∀ i (h:i < l.length) j,j < k→w.cell? ⟨g,i * k+j,none⟩=(f l[i])[j]?
theorem RS.below {α:Type} {f:α→List Value} {k:Nat} {w w':World} {va:Option Addr} {g B:Nat} {l:List α} (h:RS f k w va g l) (hf:∀ x,(f x).length=k) (hb:Below B w w') (hB:w.heap.size≤B):RS f k w' va g l :=
 ⟨h.addr,fun i hi j hj=>by
  have h1:=h.row i hi j hj
  have h2:(f l[i])[j]?=some ((f l[i])[j]'(by rw [hf];exact hj)):=List.getElem?_eq_getElem _
  rw [h2] at h1 ⊢
  exact (hb.cell (p:=⟨g,i * k+j,none⟩) (Nat.lt_of_lt_of_le (World.block_lt_of_cell? _ _ h1) hB)).trans h1⟩
theorem flatten_get {α:Type} (f:α→List Value) (k:Nat) (hf:∀ x,(f x).length=k) (l:List α):∀ i (h:i < l.length) j,j < k→((l.map f).flatten)[i * k+j]?=(f l[i])[j]?:=by
 induction l with
 | nil=>intro i h;exact absurd h (Nat.not_lt_zero _)
 | cons x l ih =>
  intro i h j hj
  rw [List.map_cons,List.flatten_cons]
  cases i with
  | zero =>
   rw [Nat.zero_mul,Nat.zero_add,List.getElem?_append_left (by rw [hf];exact hj)];rfl
  | succ i =>
   have e:(i+1) * k+j=(f x).length+(i * k+j):=by rw [hf,Nat.succ_mul];omega
   rw [e,List.getElem?_append_right (by omega),Nat.add_sub_cancel_left]
   exact ih i (by simpa using h) j hj
theorem own_rs {α:Type} {f:α→List Value} {k:Nat} (hf:∀ x,(f x).length=k) {w:World} {base:Nat} {e:TypeId} {v:Value} {l:List α} (h:w.ownsRow base e k v l.length (l.map f).flatten):∃ va g cap,v=.slice va l.length cap∧RS f k w va g l∧(0 < l.length→base≤g)∧l.length≤cap:=by
 rcases h.2 with ⟨hv,hn⟩ | ⟨g,cap,cur,hv,hg,hh,hc,r⟩
 ·have:l=[]:=List.length_eq_zero_iff.1 hn
  subst this
  exact ⟨none,0,0,hv,⟨fun h=>absurd h (Nat.lt_irrefl _),fun i hi=>absurd hi (Nat.not_lt_zero _)⟩,fun h=>absurd h (Nat.lt_irrefl _),Nat.le_refl _⟩
 ·refine ⟨_,g,cap,hv,⟨fun _=>rfl,fun i hi j hj=>?_⟩,fun _=>hg,hc⟩
  have hcs:=h.cells (g:=g) (by rw [hv];rfl)
  have h1:=flatten_get f k hf l i hi j hj
  have h2:(f l[i])[j]?=some ((f l[i])[j]'(by rw [hf];exact hj)):=List.getElem?_eq_getElem _
  rw [h2] at h1 ⊢
  have:=hcs _ _ h1
  rwa [Go.WideShapes.add_plain,Nat.zero_add] at this
end
section
open Go.RowKit
structure DoAt (w:World) (b o:Nat) (d:M.D):Prop where
 k:w.cell? ⟨b,o,none⟩=some (.int .i64 d.k)
 p:w.cell? ⟨b,o+1,none⟩=some (.int .i64 d.p)
 v:w.cell? ⟨b,o+2,none⟩=some (.int .i64 d.v)
def Row (w:World) (b o:Nat) (l:List M.D):Prop:=∀ i (h:i < l.length),DoAt w b (o+i * 3) l[i]
structure DoS (w:World) (a:Option Addr) (b o:Nat) (l:List M.D):Prop where
 addr:0 < l.length→a=some ⟨b,o,none⟩
 row:Row w b o l
theorem DoAt.lt {w:World} {b o:Nat} {d:M.D} (h:DoAt w b o d):b < w.heap.size:=World.block_lt_of_cell? _ _ h.k
theorem DoAt.below {w w':World} {B b o:Nat} {d:M.D} (h:DoAt w b o d) (hb:Below B w w') (hB:w.heap.size≤B):DoAt w' b o d:=by
 have hl:=h.lt
 exact ⟨by rw [hb.cell (p:=⟨b,o,none⟩) (by show b < B;omega)];exact h.k,by rw [hb.cell (p:=⟨b,o+1,none⟩) (by show b < B;omega)];exact h.p,by rw [hb.cell (p:=⟨b,o+2,none⟩) (by show b < B;omega)];exact h.v⟩
theorem DoS.below {w w':World} {a:Option Addr} {B b o:Nat} {l:List M.D} (h:DoS w a b o l) (hb:Below B w w') (hB:w.heap.size≤B):DoS w' a b o l :=
 ⟨h.addr,fun i hi=>(h.row i hi).below hb hB⟩
end
section
open Go.RowKit
def M.word (k:Int):ByteArray:=if k==1 then ⟨#[115,116,111,114,101]⟩ else if k==2 then ⟨#[108,111,97,100]⟩ else if k==3 then ⟨#[99,111,112,121]⟩ else if k==4 then ⟨#[119,97,108,108]⟩ else if k==5 then ⟨#[116,97,107,101]⟩ else if k==6 then ⟨#[103,105,118,101]⟩ else if k==7 then ⟨#[105,110]⟩ else if k==8 then ⟨#[111,117,116]⟩ else if k==9 then ⟨#[119,97,105,116]⟩ else ⟨#[]⟩
set_option maxHeartbeats 400000 in
theorem word_any (k:Int) (w:World) :
  Calls Tryz.prog 187 #[.int .i64 k] w fun e w'=>e=.returned (.string (M.word k))∧w'=w:=by
 by_cases h1:k=1
 ·subst h1
  go_enter Tryz.func187,Tryz.ntmps187
  go_wp2
  go_ret
  exact ⟨rfl,rfl⟩
 have e1:(k==1)=false:=by simpa using h1
 by_cases h2:k=2
 ·subst h2
  go_enter Tryz.func187,Tryz.ntmps187
  go_wp2
  go_ret
  exact ⟨rfl,rfl⟩
 have e2:(k==2)=false:=by simpa using h2
 by_cases h3:k=3
 ·subst h3
  go_enter Tryz.func187,Tryz.ntmps187
  go_wp2
  go_ret
  exact ⟨rfl,rfl⟩
 have e3:(k==3)=false:=by simpa using h3
 by_cases h4:k=4
 ·subst h4
  go_enter Tryz.func187,Tryz.ntmps187
  go_wp2
  go_ret
  exact ⟨rfl,rfl⟩
 have e4:(k==4)=false:=by simpa using h4
 by_cases h5:k=5
 ·subst h5
  go_enter Tryz.func187,Tryz.ntmps187
  go_wp2
  go_ret
  exact ⟨rfl,rfl⟩
 have e5:(k==5)=false:=by simpa using h5
 by_cases h6:k=6
 ·subst h6
  go_enter Tryz.func187,Tryz.ntmps187
  go_wp2
  go_ret
  exact ⟨rfl,rfl⟩
 have e6:(k==6)=false:=by simpa using h6
 by_cases h7:k=7
 ·subst h7
  go_enter Tryz.func187,Tryz.ntmps187
  go_wp2
  go_ret
  exact ⟨rfl,rfl⟩
 have e7:(k==7)=false:=by simpa using h7
 by_cases h8:k=8
 ·subst h8
  go_enter Tryz.func187,Tryz.ntmps187
  go_wp2
  go_ret
  exact ⟨rfl,rfl⟩
 have e8:(k==8)=false:=by simpa using h8
 by_cases h9:k=9
 ·subst h9
  go_enter Tryz.func187,Tryz.ntmps187
  go_wp2
  go_ret
  exact ⟨rfl,rfl⟩
 have e9:(k==9)=false:=by simpa using h9
 clear h1 h2 h3 h4 h5 h6 h7 h8 h9
 go_enter Tryz.func187,Tryz.ntmps187
 go_wp2
 go_ret
 exact ⟨by simp [M.word,e1,e2,e3,e4,e5,e6,e7,e8,e9],rfl⟩
theorem word_empty (k:Int):(M.word k).toList.isEmpty=!(M.wordOk k):=by
 by_cases h:1≤k∧k≤9
 ·have:k=1∨k=2∨k=3∨k=4∨k=5∨k=6∨k=7∨k=8∨k=9:=by omega
  rcases this with rfl | rfl | rfl | rfl | rfl | rfl | rfl | rfl | rfl<;>(rw [ByteArray.toList_eq];decide)
 ·have e:∀ c:Int,1≤c→c≤9→(k==c)=false:=fun c h1 h2=>by simp;omega
  have e0:M.wordOk k=false:=by simp only [M.wordOk];rcases Classical.not_and_iff_not_or_not.1 h with h | h<;>simp<;>omega
  rw [e0]
  have e1:M.word k=⟨#[]⟩:=by simp [M.word,e 1 (by decide) (by decide),e 2 (by decide) (by decide),e 3 (by decide) (by decide),e 4 (by decide) (by decide),e 5 (by decide) (by decide),e 6 (by decide) (by decide),e 7 (by decide) (by decide),e 8 (by decide) (by decide),e 9 (by decide) (by decide)]
  rw [e1,ByteArray.toList_eq]
  decide
theorem M.form_bad {l:List M.D} {n:Nat} {d:M.D} (hp:M.form l=M.form (l.drop n)) (hd:l.drop n=d::l.drop (n+1)) (hb:M.doOk d=false):M.form l=false:=by
 rw [hp,hd];simp [M.form,hb]
theorem M.form_ok {l:List M.D} {n:Nat} {d:M.D} (hp:M.form l=M.form (l.drop n)) (hd:l.drop n=d::l.drop (n+1)) (hb:M.doOk d=true):M.form l=M.form (l.drop (n+1)):=by
 rw [hp,hd];simp [M.form,hb]
theorem M.form_fin {l:List M.D} {n:Nat} (hp:M.form l=M.form (l.drop n)) (hn:l.length≤n):M.form l=true:=by
 rw [hp,List.drop_eq_nil_of_le hn];rfl
set_option maxHeartbeats 400000 in
theorem form_any (a:Option Addr) (b o c:Nat) (l:List M.D) (w:World) (hl:l.length≤1048576) (h:DoS w a b o l) :
  Calls Tryz.prog 157 #[.slice a l.length c] w fun e w'=>e=.returned (.bool (M.form l))∧Below w.heap.size w w':=by
 go_enter Tryz.func157,Tryz.ntmps157
 go_wp2_with fail
 go_loopw [8] (fun s8 wr=>∃ n:Nat,s8=.int .i64 n∧n≤l.length∧M.form l=M.form (l.drop n)∧Below w.heap.size w wr) (fun s8 _=>l.length - (intOf s8).toNat)
 case atStart=>exact ⟨0,rfl,Nat.zero_le _,rfl,Below.refl _ _⟩
 case round =>
  obtain ⟨n,rfl,hn,hpass,hbel⟩:=hrel
  have HP:Hid (M.form l=M.form (l.drop n)):=hpass
  clear hpass
  by_cases hlt:n < l.length
  ·obtain ⟨rfl⟩:=h.addr (by omega)
   have hd:=(h.row n hlt).below hbel (Nat.le_refl _)
   have HD:Hid (l.drop n=l[n]::l.drop (n+1)):=M.drop_at l n hlt
   generalize l[n]=d at hd HD
   obtain ⟨k,p,v⟩:=d
   obtain ⟨ck,cp,cv⟩:=hd
   have hwe:=word_empty k
   cases hw:M.wordOk k
   ·have hwe':(M.word k).toList.isEmpty=true:=by rw [hwe,hw];rfl
    clear hwe
    go_wp2_with (first | (go_at_call 187;refine (word_any _ _).mono ?_;rintro e w1 ⟨rfl,rfl⟩) | (go_at_call 188;refine (placeOk_any _ _ _).mono ?_;rintro e w1 ⟨rfl,rfl⟩) | (go_at_call 189;refine (valOk_any _ _ _).mono ?_;rintro e w1 ⟨rfl,rfl⟩))
    go_ret
    exact ⟨ret_bool (M.form_bad HP.out HD.out (by simp [M.doOk,hw])).symm,hbel.alloc hbel.size _⟩
   ·have hwe':(M.word k).toList.isEmpty=false:=by rw [hwe,hw];rfl
    clear hwe
    cases hp:M.placeOk k p
    ·go_wp2_with (first | (go_at_call 187;refine (word_any _ _).mono ?_;rintro e w1 ⟨rfl,rfl⟩) | (go_at_call 188;refine (placeOk_any _ _ _).mono ?_;rintro e w1 ⟨rfl,rfl⟩) | (go_at_call 189;refine (valOk_any _ _ _).mono ?_;rintro e w1 ⟨rfl,rfl⟩))
     go_ret
     exact ⟨ret_bool (M.form_bad HP.out HD.out (by simp [M.doOk,hp])).symm,hbel.alloc hbel.size _⟩
    ·cases hv:M.valOk k v
     ·go_wp2_with (first | (go_at_call 187;refine (word_any _ _).mono ?_;rintro e w1 ⟨rfl,rfl⟩) | (go_at_call 188;refine (placeOk_any _ _ _).mono ?_;rintro e w1 ⟨rfl,rfl⟩) | (go_at_call 189;refine (valOk_any _ _ _).mono ?_;rintro e w1 ⟨rfl,rfl⟩))
      go_ret
      exact ⟨ret_bool (M.form_bad HP.out HD.out (by simp [M.doOk,hv])).symm,hbel.alloc hbel.size _⟩
     ·go_wp2_with (first | (go_at_call 187;refine (word_any _ _).mono ?_;rintro e w1 ⟨rfl,rfl⟩) | (go_at_call 188;refine (placeOk_any _ _ _).mono ?_;rintro e w1 ⟨rfl,rfl⟩) | (go_at_call 189;refine (valOk_any _ _ _).mono ?_;rintro e w1 ⟨rfl,rfl⟩))
      exact ⟨⟨n+1,by go_num,by omega,M.form_ok HP.out HD.out (by simp [M.doOk,hw,hp,hv]),hbel.alloc hbel.size _⟩,by simp [intOf];omega⟩
  ·go_wp2_with fail
   go_ret
   exact ⟨ret_bool (M.form_fin HP.out (by omega)).symm,hbel⟩
end
section
open Go.RowKit
theorem wpList_index_one {P:Program} {w:World} {ops:Array Oper} {rest:List Oper} {op:Oper} {a:Act} {Q:Exit→Act→World→Prop} (hgd:op.guard=none) (ty:TypeId) (x y:Operand) (ho:op.op=.index ty x y)
  (c:Array Value) (i n:Nat) (e:TypeId) (d:TypeDesc) (v:Value) (hx:a.eval x=.agg c) (hy:a.eval y=.int .i64 i) (hu:P.underlying ty=some (.array n e)) (hin:i < n) (hue:P.underlying e=some d) (hd:d.isRow=false) (hi:(P.info? e).map (·.size)=some 1) (hv:c[i]?=some v)
  (h:wpList P ops Q rest (a.put op.dst v) w):wpList P ops Q (op::rest) a w:=by
 refine wpList_plain hgd fun _ hK=>?_
 have hagg:(isAgg e).run P w=.ok false w:=by
  unfold isAgg
  rw [Sem.run_bind,run_underlying hue w]
  cases d<;>simp_all
 cases hq:P.info? e with
 | none=>simp [hq] at hi
 | some j =>
  have hs:j.size=1:=by simpa [hq] using hi
  unfold Oper.wp execOp
  simp [ho,hx,hy,Instr.index,asIntOf,run_underlying hu,part,hagg,sizeOf,typeInfo,hq,hs,hin,hv]
  exact hK _ _ h
end
section
open Go.RowKit
theorem step_goV {P:Program} {ops:Array Oper} {o:Oper} {a:Act} {w:World} {K:Act→World→Prop} {Q:Exit→Act→World→Prop} {E:Prop}
  (hw:Region.wanted o (yielded ops a.tmps)=true) (d:Option Tmp) (hd:o.dst=d) (f:FuncId) (os:Array Operand) (ts:Array TypeId) (hop:o.op=Op.call { callee:=Callee.value (Operand.func f),args:=os,argTypes:=ts })
  (vals:Array Value) (hv:os.map a.eval=vals) (he:∀ args w,(callFunc f args).run P w=.ok (.enter f args) w) {R:Ending→World→Prop} (hc:Calls P f vals w R)
  (hK:∀ e w',R e w'→∃ v,e=.returned v∧K (a.put d v) w') :
  if Region.wanted o (yielded ops a.tmps)=true then Oper.wp P o a w K Q else E:=by
 subst hd
 rw [if_pos hw]
 subst hv
 have hr:(execOp a.eval o).run P w=.ok (.enter f (os.map a.eval)) w:=by
  simp [execOp,hop,resolve,invoke,Act.eval,Deferred.ofValue,he]
 unfold Oper.wp
 rw [hr,Oper.upon_enter]
 refine hc.mono fun e w' h=>?_
 obtain ⟨v,rfl,hk⟩:=hK e w' h
 exact hk
theorem sg {P:Program} {ops:Array Oper} {o:Oper} {a:Act} {w:World} {K:Act→World→Prop} {Q:Exit→Act→World→Prop} {E:Prop}
    (t:Nat) (hd:o.dst=some t) (f:FuncId) (os:Array Operand) {ts:Array TypeId} (hop:o.op=Op.call { callee:=Callee.value (Operand.func f),args:=os,argTypes:=ts })
    (vals:Array Value) (he:∀ args w,(callFunc f args).run P w=.ok (.enter f args) w) {R:Ending→World→Prop} (hc:Calls P f vals w R)
    (hK:∀ e w',R e w'→∃ v,e=.returned v∧K (a.put (some t) v) w') (hw:Region.wanted o (yielded ops a.tmps)=true:=by rfl) (hv:os.map a.eval=vals:=by simp [Act.eval]) :
    if Region.wanted o (yielded ops a.tmps)=true then Oper.wp P o a w K Q else E:=step_goV hw (some t) hd f os ts hop vals hv he hc hK
end
section
namespace M
def bel (n:Nat):List Int:=(List.range n).map fun i:Nat=>(i:Int)
end M
end
end Go.Proofs.YtmhpgdliaclokaaGreat
