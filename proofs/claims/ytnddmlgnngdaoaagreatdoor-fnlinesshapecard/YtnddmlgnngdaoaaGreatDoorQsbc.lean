/- The text of what was seen, plainly; it tells its numbers. No condition. impl's SeenText. Of what was seen of at most 1048576 numbers. A call of a Go function, met by its contract, as one step of a region that draws its order. No condition. -/
import Derived.Test.YtnddmlgnngdaoaaGreatDoorRows
import Derived.Test.YtnddmlgnngdaoaaGreatDoorQsak
import Derived.Test.YtnddmlgnngdaoaaGreatDoorQsar
namespace Go.Proofs.YtnddmlgnngdaoaaGreatDoor
section
def M.behind (l:List Int):List UInt8:=l.flatMap fun v=>Lib.itoa v++[32]
def M.ahead (l:List Int):List UInt8:=l.flatMap fun v=>32::Lib.itoa v
def M.seenText (l1 l2:List Int):List UInt8:=M.behind l1++[47]++M.ahead l2
theorem M.digit_ok (n:Nat) (h:n < 10):UInt8.ofNat (48+n)≠32∧UInt8.ofNat (48+n)≠47∧UInt8.ofNat (48+n)≠45:=by
 have:n=0∨n=1∨n=2∨n=3∨n=4∨n=5∨n=6∨n=7∨n=8∨n=9:=by omega
 rcases this with rfl | rfl | rfl | rfl | rfl | rfl | rfl | rfl | rfl | rfl<;>decide
theorem M.digit_inj (n m:Nat) (h:n < 10) (h2:m < 10) (e:UInt8.ofNat (48+n)=UInt8.ofNat (48+m)):n=m:=by
 have e2:=congrArg UInt8.toNat e
 simp only [UInt8.toNat_ofNat'] at e2
 omega
theorem M.dig_ok (n:Nat):∀ x∈Lib.decDigits n,x≠32∧x≠47∧x≠45:=by
 induction n using Nat.strongRecOn with
 | _ n ih =>
  intro x hx
  rw [Lib.decDigits] at hx
  split at hx
  ·rename_i h
   simp only [List.mem_singleton] at hx
   subst hx
   exact M.digit_ok n h
  ·rename_i h
   rcases List.mem_append.1 hx with hx | hx
   ·exact ih (n / 10) (by omega) x hx
   ·simp only [List.mem_singleton] at hx
    subst hx
    exact M.digit_ok _ (by omega)
theorem M.dig_ne (n:Nat):Lib.decDigits n≠[]:=by
 rw [Lib.decDigits]
 split<;>simp
theorem M.dig_inj (n:Nat):∀ m,Lib.decDigits n=Lib.decDigits m→n=m:=by
 induction n using Nat.strongRecOn with
 | _ n ih =>
  intro m e
  rw [Lib.decDigits,Lib.decDigits.eq_def m] at e
  split at e
  ·rename_i h
   split at e
   ·rename_i h2
    exact M.digit_inj n m h h2 (List.cons.inj e).1
   ·have:=congrArg List.length e
    have h3:=List.length_pos_iff.2 (M.dig_ne (m / 10))
    simp only [List.length_append,List.length_cons,List.length_nil] at this
    omega
  ·rename_i h
   split at e
   ·have:=congrArg List.length e
    have h3:=List.length_pos_iff.2 (M.dig_ne (n / 10))
    simp only [List.length_append,List.length_cons,List.length_nil] at this
    omega
   ·have e1:=List.append_inj' e rfl
    have h1:=ih (n / 10) (by omega) _ e1.1
    have h2:=M.digit_inj _ _ (by omega) (by omega) (List.cons.inj e1.2).1
    omega
theorem M.itoa_ok (n:Int):∀ x∈Lib.itoa n,x≠32∧x≠47:=by
 intro x hx
 unfold Lib.itoa at hx
 split at hx
 ·rcases List.mem_cons.1 hx with rfl | hx
  ·decide
  ·exact ⟨(M.dig_ok _ x hx).1,(M.dig_ok _ x hx).2.1⟩
 ·exact ⟨(M.dig_ok _ x hx).1,(M.dig_ok _ x hx).2.1⟩
theorem M.itoa_inj (n m:Int) (e:Lib.itoa n=Lib.itoa m):n=m:=by
 unfold Lib.itoa at e
 split at e
 ·split at e
  ·have:=M.dig_inj _ _ (List.cons.inj e).2
   omega
  ·exact absurd rfl (M.dig_ok m.toNat 45 (by rw [← e];simp)).2.2
 ·split at e
  ·exact absurd rfl (M.dig_ok n.toNat 45 (by rw [e];simp)).2.2
  ·have:=M.dig_inj _ _ e
   omega
theorem M.split_at {c:UInt8} {a b r q:List UInt8} (ha:∀ x∈a,x≠c) (hb:∀ x∈b,x≠c) (e:a++c::r=b++c::q):a=b∧r=q:=by
 induction a generalizing b with
 | nil =>
  cases b with
  | nil=>exact ⟨rfl,(List.cons.inj e).2⟩
  | cons y b=>exact absurd (List.cons.inj e).1.symm (hb y (by simp))
 | cons x a ih =>
  cases b with
  | nil=>exact absurd (List.cons.inj e).1 (ha x (by simp))
  | cons y b =>
   obtain ⟨h1,h2⟩:=List.cons.inj e
   obtain ⟨h3,h4⟩:=ih (fun z hz=>ha z (by simp [hz])) (fun z hz=>hb z (by simp [hz])) h2
   exact ⟨by rw [h1,h3],h4⟩
theorem M.behind_cons (v:Int) (l:List Int):M.behind (v::l)=Lib.itoa v++32::M.behind l:=by simp [M.behind]
theorem M.ahead_cons (v:Int) (l:List Int):M.ahead (v::l)=32::(Lib.itoa v++M.ahead l):=by simp [M.ahead]
theorem M.behind_no (l:List Int):∀ x∈M.behind l,x≠47:=by
 intro x hx
 obtain ⟨v,_,hx⟩:=List.mem_flatMap.1 hx
 rcases List.mem_append.1 hx with h | h
 ·exact (M.itoa_ok v x h).2
 ·simp only [List.mem_singleton] at h;subst h;decide
theorem M.behind_inj:∀ l m:List Int,M.behind l=M.behind m→l=m
 | [],[],_=>rfl
 | [],v::m,e=>by rw [M.behind_cons] at e;have:=congrArg List.length e;simp [M.behind] at this
 | v::l,[],e=>by rw [M.behind_cons] at e;have:=congrArg List.length e;simp [M.behind] at this
 | v::l,u::m,e=>by
  rw [M.behind_cons,M.behind_cons] at e
  obtain ⟨h1,h2⟩:=M.split_at (fun x hx=>(M.itoa_ok v x hx).1) (fun x hx=>(M.itoa_ok u x hx).1) e
  rw [M.itoa_inj _ _ h1,M.behind_inj l m h2]
theorem M.ahead_shift (v:Int):∀ l:List Int,Lib.itoa v++M.ahead l++[32]=M.behind (v::l)
 | []=>by simp [M.ahead,M.behind]
 | u::l=>by rw [M.ahead_cons,M.behind_cons,← M.ahead_shift u l];simp
theorem M.ahead_inj:∀ l m:List Int,M.ahead l=M.ahead m→l=m
 | [],[],_=>rfl
 | [],v::m,e=>by rw [M.ahead_cons] at e;cases e
 | v::l,[],e=>by rw [M.ahead_cons] at e;cases e
 | v::l,u::m,e=>by
  rw [M.ahead_cons,M.ahead_cons] at e
  have h:=(List.cons.inj e).2
  have h2:M.behind (v::l)=M.behind (u::m):=by rw [← M.ahead_shift,← M.ahead_shift,h]
  exact M.behind_inj _ _ h2
theorem M.seenText_inj {l1 l2 m1 m2:List Int} (e:M.seenText l1 l2=M.seenText m1 m2):l1=m1∧l2=m2:=by
 unfold M.seenText at e
 rw [List.append_assoc,List.append_assoc] at e
 obtain ⟨h1,h2⟩:=M.split_at (M.behind_no l1) (M.behind_no m1) e
 exact ⟨M.behind_inj _ _ h1,M.ahead_inj _ _ h2⟩
theorem M.dig_len:∀ (k n:Nat),n < 10 ^ (k+1)→(Lib.decDigits n).length≤k+1
 | 0,n,h=>by
  rw [Lib.decDigits,dif_pos (by simpa using h)]
  simp
 | k+1,n,h=>by
  rw [Lib.decDigits]
  split
  ·simp
  ·have h2:n / 10 < 10 ^ (k+1):=by
    rw [Nat.div_lt_iff_lt_mul (by omega)]
    rw [Nat.pow_succ] at h
    exact h
   have:=M.dig_len k (n / 10) h2
   simp only [List.length_append,List.length_cons,List.length_nil]
   omega
theorem M.itoa_le (n:Int) (h0:-9223372036854775808≤n) (h1:n≤9223372036854775807):(Lib.itoa n).length≤20:=by
 unfold Lib.itoa
 split
 ·have:=M.dig_len 18 n.natAbs (by simp only [Nat.reduceAdd,Nat.reducePow];omega)
  simp only [List.length_cons]
  omega
 ·have:=M.dig_len 18 n.toNat (by simp only [Nat.reduceAdd,Nat.reducePow];omega)
  omega
def Fits (l:List Int):Prop:=∀ v∈l,-9223372036854775808≤v∧v≤9223372036854775807
theorem Fits.take {l:List Int} (h:Fits l) (n:Nat):Fits (l.take n):=fun v hv=>h v (List.mem_of_mem_take hv)
theorem M.behind_le {l:List Int} (h:Fits l):(M.behind l).length≤21 * l.length:=by
 induction l with
 | nil=>simp [M.behind]
 | cons v l ih =>
  have h1:=ih (fun u hu=>h u (List.mem_cons_of_mem _ hu))
  obtain ⟨h2,h3⟩:=h v (by simp)
  have h4:=M.itoa_le v h2 h3
  rw [M.behind_cons]
  simp only [List.length_append,List.length_cons] at *
  omega
theorem M.ahead_le {l:List Int} (h:Fits l):(M.ahead l).length≤21 * l.length:=by
 induction l with
 | nil=>simp [M.ahead]
 | cons v l ih =>
  have h1:=ih (fun u hu=>h u (List.mem_cons_of_mem _ hu))
  obtain ⟨h2,h3⟩:=h v (by simp)
  have h4:=M.itoa_le v h2 h3
  rw [M.ahead_cons]
  simp only [List.length_append,List.length_cons] at *
  omega
theorem M.behind_step {l:List Int} {n:Nat} {v:Int} (hd:l[n]?=some v):M.behind (l.take (n+1))=M.behind (l.take n)++(Lib.itoa v++[32]):=by
 rw [List.take_add_one,hd]
 simp [M.behind]
theorem M.ahead_step {l:List Int} {n:Nat} {v:Int} (hd:l[n]?=some v):M.ahead (l.take (n+1))=M.ahead (l.take n)++(32::Lib.itoa v):=by
 rw [List.take_add_one,hd]
 simp [M.ahead]
end
section
open Go.RowKit
def HasTab (w : World) : Prop := Lib.TabIs Tryz.prog w "internal/strconv.uint64pow10" .u64 Lib.pow10Tab
theorem HasTab.below {w w':World} {B:Nat} (h:HasTab w) (hb:Below B w w') (hB:w.heap.size≤B):HasTab w':=by
 unfold HasTab Lib.TabIs World.var? at *
 cases hg : Tryz.prog.globalNamed "internal/strconv.uint64pow10" with
 | none=>rw [hg] at h;cases h
 | some g =>
  rw [hg] at h
  simp only [Option.bind_some] at h ⊢
  have hlt:g < w.heap.size:=by
   rcases Nat.lt_or_ge g w.heap.size with h1 | h1
   ·exact h1
   ·rw [Array.getElem?_eq_none h1] at h;cases h
  rw [hb.block g (by omega)]
  exact h
theorem itoa_any (n:Int) (h0:-9223372036854775808≤n) (h1:n≤9223372036854775807) (w:World) (ht:HasTab w) :
  Calls Tryz.prog 23 #[.int .i64 n] w fun e w'=>e=.returned (.string ⟨(Lib.itoa n).toArray⟩)∧∃ k os,w'=Sort.grow (w.drewN k) os:=Tryz.strconv_Itoa n h0 h1 w ht
theorem grow_by (w:World) (k:Nat) (os:Array Obj):w.grownBy (Sort.grow (w.drewN k) os) none :=
 ⟨rfl,rfl,rfl,by simp [Sort.grow,World.drewN],fun j hj _=>by
  show (w.heap++os)[j]?=w.heap[j]?
  rw [Array.getElem?_append_left hj]⟩
theorem grow_below (w:World) (k:Nat) (os:Array Obj):Below w.heap.size w (Sort.grow (w.drewN k) os) :=
 ⟨(grow_by w k os).os,(grow_by w k os).tape,(grow_by w k os).output,(grow_by w k os).size,fun j hj=>(grow_by w k os).block j hj (by simp)⟩
theorem Bd.kept {B b:Nat} {acc:List UInt8} {w w':World} (h:Bd B b acc w) (hg:w.grownBy w' none):Bd B b acc w':=by
 have key:∀ p,Lib.BuilderAtF 61 5 B b p (Lib.byteCells acc) w→Lib.BuilderAtF 61 5 B b p (Lib.byteCells acc) w':=by
  rintro p ⟨hB,v,hb,hown,hne⟩
  exact ⟨hB,v,(hg.block b (Array.getElem?_eq_some_iff.1 hb).1 (by simp)).trans hb,hown.kept hg (by cases v.ownBlock<;>simp),hne⟩
 exact ⟨h.is.elim (fun x=>.inl (key _ x)) (fun x=>.inr (key _ x)),Nat.le_trans h.le hg.size⟩
set_option maxHeartbeats 1000000 in
theorem iseenText_any (s:Sn) (w:World) (hs:s.Le 1048576) (ha:s.At w) (f1:Fits s.l1) (f2:Fits s.l2) (ht:HasTab w) :
  Calls Tryz.prog 9 #[.agg #[.slice s.a1 s.l1.length s.c1,.slice s.a2 s.l2.length s.c2]] w fun e w'=>e=.returned (.string ⟨(M.seenText s.l1 s.l2).toArray⟩)∧Below w.heap.size w w':=by
 obtain ⟨a1,b1,o1,c1,l1,a2,b2,o2,c2,l2⟩:=s
 obtain ⟨hl1,hl2⟩:=hs
 obtain ⟨i1,i2⟩:=ha
 simp only at hl1 hl2 i1 i2 f1 f2 ⊢
 go_enter Tryz.func9,Tryz.ntmps9
 go_wp2_with fail
 have hbx:=below1 w (.cells #[.slice a1 l1.length c1,.slice a2 l2.length c2] 33)
 have j1:=i1.below hbx (Nat.le_refl _)
 have j2:=i2.below hbx (Nat.le_refl _)
 have ht1:=ht.below hbx (Nat.le_refl _)
 have hbd:=Bd.fresh (w.alloc (.cells #[.slice a1 l1.length c1,.slice a2 l2.length c2] 33))
 have x1:(w.alloc (.cells #[.slice a1 l1.length c1,.slice a2 l2.length c2] 33)).cell? ⟨w.heap.size,1,none⟩=some (.slice a2 l2.length c2):=by simp
 have hbl:=below1 (w.alloc (.cells #[.slice a1 l1.length c1,.slice a2 l2.length c2] 33)) (.cells #[.pointer none,.slice none 0 0] 61)
 have eB:w.heap.size+1=(w.alloc (.cells #[.slice a1 l1.length c1,.slice a2 l2.length c2] 33)).heap.size:=by simp
 generalize (w.alloc (.cells #[.slice a1 l1.length c1,.slice a2 l2.length c2] 33)).alloc (.cells #[.pointer none,.slice none 0 0] 61)=W0 at *
 generalize w.alloc (.cells #[.slice a1 l1.length c1,.slice a2 l2.length c2] 33)=w1 at *
 rw [eB]
 generalize hB:w1.heap.size=B at *
 clear i1 i2 ht eB
 have hxl:w.heap.size < B:=by rw [← hB];exact World.block_lt_of_cell? _ _ x1
 go_loopw [11] (fun s11 wr=>∃ n:Nat,s11=.int .i64 n∧n≤l1.length∧Bd B B (M.behind (l1.take n)) wr∧Below B w1 wr) (fun s11 _=>l1.length - (intOf s11).toNat)
 case atStart=>exact ⟨0,rfl,Nat.zero_le _,by simpa [M.behind] using hbd,hbl⟩
 case round =>
  obtain ⟨n,rfl,hn,hD,hbel⟩:=hrel
  have hlen:=M.behind_le (f1.take n)
  have hlen2:(l1.take n).length≤1048576:=by simp only [List.length_take];omega
  by_cases hlt:n < l1.length
  ·obtain ⟨rfl⟩:=j1.addr (by omega)
   have hc:=(j1.below hbel (by omega)).row n hlt
   have hfit:=f1 _ (List.getElem_mem hlt)
   have HS:Hid (M.behind (l1.take (n+1))=M.behind (l1.take n)++(Lib.itoa l1[n]++[32])):=M.behind_step (List.getElem?_eq_getElem hlt)
   have hil:=M.itoa_le _ hfit.1 hfit.2
   have htr:=ht1.below hbel (by omega)
   generalize l1[n]=v at hc hfit HS hil
   generalize M.behind (l1.take n)=acc at *
   go_wp2_with (go_at_call 23;refine (itoa_any v hfit.1 hfit.2 _ htr).mono ?_;rintro e w2 ⟨rfl,k,os,rfl⟩)
   have hD2:=hD.kept (grow_by wr k os)
   have hbg:=grow_below wr k os
   refine (wString_any B B acc ⟨(Lib.itoa v).toArray⟩ _ hD2 (by simp [ByteArray.size];omega)).mono ?_
   rintro e w3 ⟨rfl,h3,k3⟩
   go_wp2_with fail
   refine (wRune_any B B _ 32 _ h3 (by omega) (by omega) (by simp;omega)).mono ?_
   rintro e w4 ⟨rfl,h4,k4⟩
   go_wp2_with fail
   exact ⟨⟨n+1,by go_num,by omega,by rw [HS.out];simpa [M.b8] using h4,((hbel.trans (hbg.mono hD.le)).trans k3.bel).trans k4.bel⟩,by simp [intOf];omega⟩
  ·rw [List.take_of_length_le (by omega)] at hD hlen
   generalize hA:M.behind l1=A at *
   have hAl:A.length≤30000000:=by
    have:l1.length≤1048576:=hl1
    omega
   go_wp2_with fail
   refine (wRune_any B B _ 47 _ hD (by omega) (by omega) (by omega)).mono ?_
   rintro e w4 ⟨rfl,h4,k4⟩
   have hb4:=hbel.trans k4.bel
   have x4:=(hb4.cell (p:=⟨w.heap.size,1,none⟩) hxl).trans x1
   have h4':Bd B B (A++[47]) w4:=by simpa [M.b8] using h4
   clear h4 hD hbel k4
   go_wp2_with fail
   go_loopw [24] (fun s24 wi=>∃ m:Nat,s24=.int .i64 m∧m≤l2.length∧Bd B B (A++[47]++M.ahead (l2.take m)) wi∧Below B w1 wi) (fun s24 _=>l2.length - (intOf s24).toNat)
   case atStart=>exact ⟨0,rfl,Nat.zero_le _,by simpa [M.ahead] using h4',hb4⟩
   case round =>
    obtain ⟨m,rfl,hm,hD,hbel⟩:=hrel
    have hlenm:=M.ahead_le (f2.take m)
    have hlenm2:(l2.take m).length≤1048576:=by simp only [List.length_take];omega
    by_cases hlt2:m < l2.length
    ·obtain ⟨rfl⟩:=j2.addr (by omega)
     have hc:=(j2.below hbel (by omega)).row m hlt2
     have hfit:=f2 _ (List.getElem_mem hlt2)
     have HS:Hid (M.ahead (l2.take (m+1))=M.ahead (l2.take m)++(32::Lib.itoa l2[m])):=M.ahead_step (List.getElem?_eq_getElem hlt2)
     have hil:=M.itoa_le _ hfit.1 hfit.2
     generalize l2[m]=v at hc hfit HS hil
     generalize M.ahead (l2.take m)=acc at *
     have hacc:(A++[47]++acc).length≤60000000:=by simp only [List.length_append,List.length_cons,List.length_nil];omega
     go_wp2_with fail
     refine (wRune_any B B _ 32 _ hD (by omega) (by omega) (by omega)).mono ?_
     rintro e w5 ⟨rfl,h5,k5⟩
     have ht5:=ht1.below (hbel.trans k5.bel) (by omega)
     go_wp2_with (go_at_call 23;refine (itoa_any v hfit.1 hfit.2 _ ht5).mono ?_;rintro e w6 ⟨rfl,k,os,rfl⟩)
     have hD6:=h5.kept (grow_by w5 k os)
     have hbg:=grow_below w5 k os
     refine (wString_any B B _ ⟨(Lib.itoa v).toArray⟩ _ hD6 (by simp only [List.length_append,List.length_cons,List.length_nil] at hacc ⊢;simp only [ByteArray.size,List.size_toArray];omega)).mono ?_
     rintro e w7 ⟨rfl,h7,k7⟩
     go_wp2_with fail
     exact ⟨⟨m+1,by go_num,by omega,by rw [HS.out];simpa [M.b8] using h7,((hbel.trans k5.bel).trans (hbg.mono h5.le)).trans k7.bel⟩,by simp [intOf];omega⟩
    ·rw [List.take_of_length_le (by omega)] at hD
     go_wp2_with (go_at_call 25;refine (wText_any B B _ _ hD).mono ?_;rintro e w5 ⟨rfl,hb5⟩)
     go_ret
     refine ⟨by rw [← hA];simp [M.seenText],?_⟩
     exact (hbx.trans ((hbel.trans hb5).mono (by omega)))
end
section
open Go.RowKit
theorem step_go {P:Program} {ops:Array Oper} {o:Oper} {a:Act} {w:World} {K:Act→World→Prop} {Q:Exit→Act→World→Prop} {E:Prop}
  (hg:o.guard=none) (f:FuncId) (os:Array Operand) (ts:Array TypeId) (hop:o.op=Op.call { callee:=Callee.value (Operand.func f),args:=os,argTypes:=ts })
  (vals:Array Value) (hv:os.map a.eval=vals) (he:∀ args w,(callFunc f args).run P w=.ok (.enter f args) w) {R:Ending→World→Prop} (hc:Calls P f vals w R)
  (hK:∀ e w',R e w'→∃ v,e=.returned v∧K (a.put o.dst v) w') :
  if Region.wanted o (yielded ops a.tmps)=true then Oper.wp P o a w K Q else E:=by
 have hw:Region.wanted o (yielded ops a.tmps)=true:=by simp [Region.wanted,hg]
 rw [if_pos hw]
 subst hv
 have hr:(execOp a.eval o).run P w=.ok (.enter f (os.map a.eval)) w:=by
  simp [execOp,hop,resolve,invoke,Act.eval,Deferred.ofValue,he]
 unfold Oper.wp
 rw [hr,Oper.upon_enter]
 refine hc.mono fun e w' h=>?_
 obtain ⟨v,rfl,hk⟩:=hK e w' h
 exact hk
theorem step_go3 {P:Program} {ops:Array Oper} {o:Oper} {a:Act} {w:World} {K:Act→World→Prop} {Q:Exit→Act→World→Prop} {E:Prop}
  (hg:o.guard=none) (f:FuncId) (x y z:Operand) (ts:Array TypeId) (hop:o.op=Op.call { callee:=Callee.value (Operand.func f),args:=#[x,y,z],argTypes:=ts })
  (vx vy vz:Value) (hx:a.eval x=vx) (hy:a.eval y=vy) (hz:a.eval z=vz) (he:∀ args w,(callFunc f args).run P w=.ok (.enter f args) w) {R:Ending→World→Prop} (hc:Calls P f #[vx,vy,vz] w R)
  (hK:∀ e w',R e w'→∃ v,e=.returned v∧K (a.put o.dst v) w') :
  if Region.wanted o (yielded ops a.tmps)=true then Oper.wp P o a w K Q else E :=
 step_go hg f #[x,y,z] ts hop #[vx,vy,vz] (by simp [hx,hy,hz]) he hc hK
end
end Go.Proofs.YtnddmlgnngdaoaaGreatDoor
