/- The law's own marking of all ways, and whether marks still stand: laws.markIntSS, heldIntSS, markExecS, heldExecS. Of rows of their own that lie apart, each of at most 64 numbers, at most 64 of a way, at most 5489031744 ways. -/
import Derived.Deep.OwnRows
import Derived.Test.YtegommoflmmahaaGreatRows
import Derived.Test.YtegommoflmmahaaGreatQubg
import Derived.Test.YtegommoflmmahaaGreatQubh
namespace Go.Proofs.YtegommoflmmahaaGreat
section
open Go.RowKit
structure VC (w:World) (v:Value) (n:Nat):Prop where
 ex:∃ a b c,v=.slice a n c∧IntC w a b 0 n∧(0 < n→v.ownBlock=some b)
structure VM (w:World) (v:Value) (k:Int) (n:Nat):Prop where
 ex:∃ a b c,v=.slice a n c∧IntS w a b 0 (M.seq k n)∧(0 < n→v.ownBlock=some b)
theorem VC.of_own {w:World} {base:Nat} {e:TypeId} {v:Value} {l:List Int} (h:w.ownsRow base e 1 v l.length (nums l)):VC w v l.length:=by
 rcases h.2 with ⟨hv,hn⟩ | ⟨g,cap,cur,hv,hg,hh,r⟩
 ·have:l=[]:=List.length_eq_zero_iff.1 hn
  subst this
  exact ⟨none,0,0,hv,⟨fun h=>absurd h (Nat.lt_irrefl _),fun i hi=>absurd hi (Nat.not_lt_zero _),fun h=>absurd h (Nat.lt_irrefl _)⟩,fun h=>absurd h (Nat.lt_irrefl _)⟩
 ·refine ⟨_,g,cap,hv,⟨fun _=>rfl,fun i hi=>?_,fun _ j=>by simp [World.frozen?,hh]⟩,fun _=>by rw [hv];rfl⟩
  have:=h.cells (g:=g) (by rw [hv];rfl) i (.int .i64 l[i]) (by simp [nums,hi])
  rw [Go.WideShapes.add_plain] at this
  exact ⟨_,this⟩
theorem VC.mk_ {P:Nat→Prop} {w w':World} {v:Value} {n:Nat} (h:VC w v n) (hm:Mk P w w'):VC w' v n:=by
 obtain ⟨a,b,c,e,hc,ho⟩:=h.ex
 exact ⟨a,b,c,e,hc.mk_ hm,ho⟩
theorem VM.mk_ {P:Nat→Prop} {w w':World} {v:Value} {k:Int} {n:Nat} (h:VM w v k n) (hm:Mk P w w') (hp:∀ j,v.ownBlock=some j→¬ P j):VM w' v k n:=by
 obtain ⟨a,b,c,e,hc,ho⟩:=h.ex
 refine ⟨a,b,c,e,⟨hc.addr,fun i hi=>?_⟩,ho⟩
 rw [hm.cell (p:=⟨b,0+i,none⟩) (hp b (ho (by rw [M.seq_len] at hi;omega)))]
 exact hc.row i hi
theorem VM.below {w w':World} {v:Value} {k:Int} {n:Nat} (h:VM w v k n) (hb:Below w.heap.size w w'):VM w' v k n:=by
 obtain ⟨a,b,c,e,hc,ho⟩:=h.ex
 exact ⟨a,b,c,e,hc.below hb (Nat.le_refl _),ho⟩
namespace M
def sumR:List (List Int)→Nat
 | []=>0
 | r::rs=>r.length+sumR rs
theorem sumR_take (ll:List (List Int)) (n:Nat) (h:n < ll.length):sumR (ll.take (n+1))=sumR (ll.take n)+ll[n].length:=by
 have app:∀ a b:List (List Int),sumR (a++b)=sumR a+sumR b:=fun a b=>by
  induction a with
  | nil=>simp [sumR]
  | cons x a ih=>simp only [List.cons_append,sumR,ih];omega
 rw [List.take_succ_eq_append_getElem h,app];simp [sumR]
theorem sumR_le {ll:List (List Int)} (h:∀ l∈ll,l.length≤64):sumR ll≤64 * ll.length:=by
 induction ll with
 | nil=>simp [sumR]
 | cons l ll ih =>
  have:=h l (by simp)
  have:=ih (fun x hx=>h x (List.mem_cons_of_mem _ hx))
  simp only [sumR,List.length_cons]
  omega
end M
structure WySm (x:M.Wy):Prop where
 a:x.1.length≤64
 b:x.2.length≤64
 c:∀ r∈x.2,r.length≤64
theorem markV_any (v:Value) (n:Nat) (k:Int) (w:World) (hn:n≤64) (hk:0≤k) (hk2:k≤4611686018427387904) (h:VC w v n) :
  Calls Tryz.prog 73 #[v,.int .i64 k] w fun e w'=>e=.returned (.int .i64 (k+n))∧VM w' v k n∧Mk (fun j=>v.ownBlock=some j) w w':=by
 obtain ⟨a,b,c,e,hc,ho⟩:=h.ex
 have C:=markIntS_any a b 0 n c k w (by omega) hk hk2 hc
 rw [← e] at C
 exact C.mono fun _ _ ⟨h1,h2,h3⟩=>⟨h1,⟨a,b,c,e,h2,ho⟩,h3.mono fun j hj=>by rw [hj.1];exact ho hj.2⟩
theorem heldV_any (v:Value) (n:Nat) (k:Int) (w:World) (hn:n≤64) (hk:0≤k) (hk2:k≤4611686018427387904) (h:VM w v k n) :
  Calls Tryz.prog 75 #[v,.int .i64 k] w fun e w'=>e=.returned (.int .i64 (k+n))∧w'=w:=by
 obtain ⟨a,b,c,e,hc,ho⟩:=h.ex
 have C:=heldIntS_any a b 0 n c k w (by omega) hk hk2 hc
 rwa [← e] at C
structure YO (w:World) (a:Option Addr) (g n:Nat) (cs:List Value):Prop where
 addr:0 < n→a=some ⟨g,0,none⟩
 cell:∀ j u,cs[j]?=some u→w.cell? ⟨g,j,none⟩=some u
set_option maxHeartbeats 1000000 in
theorem markRows_any (a:Option Addr) (g c:Nat) (cs:List Value) (rows:List (List Int)) (k:Int) (w:World) (hk:0≤k) (hk2:k≤2305843009213693952) (hl:rows.length≤64) (hls:∀ r∈rows,r.length≤64) (ho:YO w a g rows.length cs)
  (hrow:∀ j (h:j < rows.length),∃ u,cs[j]?=some u∧VC w u rows[j].length) (hea:∀ (i j:Nat) (u u':Value),i≠j→cs[i]?=some u→cs[j]?=some u'→Off1 u u'.ownBlock) :
  Calls Tryz.prog 74 #[.slice a rows.length c,.int .i64 k] w fun e w'=>e=.returned (.int .i64 (k+M.sumR rows))∧(∀ j (h:j < rows.length),∃ u,cs[j]?=some u∧VM w' u (k+M.sumR (rows.take j)) rows[j].length)∧Mk (fun j=>∃ u∈cs,u.ownBlock=some j) w w':=by
 go_enter Tryz.func74,Tryz.ntmps74
 go_wp2_with fail
 go_loopw [1,5] (fun s1 s5 wr=>∃ m:Nat,s1=.int .i64 (k+M.sumR (rows.take m))∧s5=.int .i64 m∧m≤rows.length∧Hid (∀ j (_:j < m) (h:j < rows.length),∃ u,cs[j]?=some u∧VM wr u (k+M.sumR (rows.take j)) rows[j].length)∧Mk (fun j=>∃ u∈cs,u.ownBlock=some j) w wr) (fun _ s5 _=>rows.length - (intOf s5).toNat)
 case atStart=>exact ⟨0,by simp [M.sumR],rfl,Nat.zero_le _,fun j hj=>absurd hj (Nat.not_lt_zero _),Mk.refl _ _⟩
 case round =>
  obtain ⟨m,rfl,rfl,hm,HD,hmk⟩:=hrel
  by_cases hlt:m < rows.length
  ·obtain rfl:=ho.addr (by omega)
   obtain ⟨u,hu,hvc⟩:=hrow m hlt
   have hle:=hls _ (List.getElem_mem hlt)
   have HT:Hid (M.sumR (rows.take (m+1))=M.sumR (rows.take m)+rows[m].length):=M.sumR_take rows m hlt
   have hb:=M.sumR_le (ll:=rows.take m) (fun s hs=>hls s (List.mem_of_mem_take hs))
   have hbl:(rows.take m).length≤64:=by simp;omega
   have HV:Hid (∀ W x,VM W x (k+M.sumR (rows.take m)) rows[m].length→VM W x (k+M.sumR (rows.take m)) rows[m].length):=fun _ _ h=>h
   obtain ⟨a1,b1,c1,eu,hc1,ho1⟩:=hvc.ex
   have hcell:wr.cell? ⟨g,m,none⟩=some u:=hmk.rest _ _ (ho.cell m u hu) (fun x e=>by rw [eu] at e;cases e)
   have C:=markV_any u rows[m].length (k+M.sumR (rows.take m)) wr hle (by omega) (by omega) (hvc.mk_ hmk)
   have HN:Hid (∀ w1,VM w1 u (k+M.sumR (rows.take m)) rows[m].length→Mk (fun j=>u.ownBlock=some j) wr w1→(∀ j (_:j < m+1) (h:j < rows.length),∃ u,cs[j]?=some u∧VM w1 u (k+M.sumR (rows.take j)) rows[j].length)∧Mk (fun j=>∃ u∈cs,u.ownBlock=some j) w w1):=by
    intro w1 hv1 mk1
    refine ⟨fun j hj h=>?_,hmk.trans (mk1.mono fun j hj=>⟨u,List.mem_of_getElem? hu,hj⟩)⟩
    by_cases e:j=m
    ·subst e;exact ⟨u,hu,hv1⟩
    ·obtain ⟨u',e1,e2⟩:=HD.out j (by omega) h
     exact ⟨u',e1,e2.mk_ mk1 fun i hi hi'=>hea j m u' u e e1 hu i hi hi'⟩
   have HE:Hid (k+(M.sumR (rows.take (m+1)):Int)=k+(M.sumR (rows.take m):Int)+(rows[m].length:Int)):=by show _=_;rw [HT.out];omega
   clear HD HV hc1 ho1 hvc
   obtain ⟨T,hT⟩:∃ T,M.sumR (rows.take m)=T:=⟨_,rfl⟩
   rw [hT] at C HN HE hb ⊢
   clear hT HT
   generalize rows[m].length=L at *
   have i1:(m:Int) < rows.length:=by omega
   have i0:¬ (m:Int) < 0:=by omega
   subst eu
   go_wp2_with fail
   refine C.mono ?_
   rintro e w1 ⟨rfl,hv1,mk1⟩
   obtain ⟨n1,n2⟩:=HN.out w1 hv1 mk1
   go_wp2_with fail
   exact ⟨⟨m+1,by rw [HE.out],by go_num,by omega,n1,n2⟩,by simp [intOf];omega⟩
  ·obtain rfl:m=rows.length:=by omega
   go_wp2_with fail
   go_ret
   exact ⟨by rw [List.take_length];rfl,fun j h=>HD.out j h h,hmk⟩
set_option maxHeartbeats 1000000 in
theorem heldRows_any (a:Option Addr) (g c:Nat) (cs:List Value) (rows:List (List Int)) (k:Int) (w:World) (hk:0≤k) (hk2:k≤2305843009213693952) (hl:rows.length≤64) (hls:∀ r∈rows,r.length≤64) (ho:YO w a g rows.length cs)
  (hrow:∀ j (h:j < rows.length),∃ u,cs[j]?=some u∧VM w u (k+M.sumR (rows.take j)) rows[j].length) :
  Calls Tryz.prog 76 #[.slice a rows.length c,.int .i64 k] w fun e w'=>e=.returned (.int .i64 (k+M.sumR rows))∧w'=w:=by
 go_enter Tryz.func76,Tryz.ntmps76
 go_wp2_with fail
 go_loopw [1,5] (fun s1 s5 wr=>∃ m:Nat,s1=.int .i64 (k+M.sumR (rows.take m))∧s5=.int .i64 m∧m≤rows.length∧wr=w) (fun _ s5 _=>rows.length - (intOf s5).toNat)
 case atStart=>exact ⟨0,by simp [M.sumR],rfl,Nat.zero_le _,rfl⟩
 case round =>
  obtain ⟨m,rfl,rfl,hm,rfl⟩:=hrel
  by_cases hlt:m < rows.length
  ·obtain rfl:=ho.addr (by omega)
   obtain ⟨u,hu,hvm⟩:=hrow m hlt
   have hle:=hls _ (List.getElem_mem hlt)
   have hb:=M.sumR_le (ll:=rows.take m) (fun s hs=>hls s (List.mem_of_mem_take hs))
   have hbl:(rows.take m).length≤64:=by simp;omega
   have hcell:=ho.cell m u hu
   obtain ⟨a1,b1,c1,eu,_,_⟩:=hvm.ex
   have C:=heldV_any u rows[m].length (k+M.sumR (rows.take m)) _ hle (by omega) (by omega) hvm
   have HE:Hid (k+(M.sumR (rows.take (m+1)):Int)=k+(M.sumR (rows.take m):Int)+(rows[m].length:Int)):=by show _=_;rw [M.sumR_take rows m hlt];omega
   clear hvm
   obtain ⟨T,hT⟩:∃ T,M.sumR (rows.take m)=T:=⟨_,rfl⟩
   rw [hT] at C HE hb ⊢
   clear hT
   generalize rows[m].length=L at *
   have i1:(m:Int) < rows.length:=by omega
   have i0:¬ (m:Int) < 0:=by omega
   have i2:¬ k+(T:Int)+(L:Int) < 0:=by omega
   subst eu
   go_wp2_with fail
   refine C.mono ?_
   rintro e w1 ⟨rfl,rfl⟩
   go_wp2_with fail
   exact ⟨⟨m+1,by rw [HE.out],by go_num,by omega,trivial⟩,by simp [intOf];omega⟩
  ·obtain rfl:m=rows.length:=by omega
   go_wp2_with fail
   go_ret
   exact ⟨by rw [List.take_length];rfl,rfl⟩
structure YC (w:World) (y:Y3) (x:M.Wy):Prop where
 from_:VC w y.1 x.1.length
 ord:∃ a g c,y.2.1=.slice a x.2.length c∧YO w a g x.2.length y.2.2
 row:∀ j (h:j < x.2.length),∃ u,y.2.2[j]?=some u∧VC w u x.2[j].length
structure YM (w:World) (y:Y3) (x:M.Wy) (k:Int):Prop where
 from_:VM w y.1 k x.1.length
 row:∀ j (h:j < x.2.length),∃ u,y.2.2[j]?=some u∧VM w u (k+x.1.length+M.sumR (x.2.take j)) x.2[j].length
structure YS (y:Y3):Prop where
 off:∀ u∈y.2.2,Off1 u y.1.ownBlock
 each:∀ (i j:Nat) (u u':Value),i≠j→y.2.2[i]?=some u→y.2.2[j]?=some u'→Off1 u u'.ownBlock
theorem VC.sl {w:World} {v:Value} {n:Nat} (h:VC w v n):∀ x,v≠.int .i64 x:=fun x e=>by
 obtain ⟨a,b,c,rfl,_⟩:=h.ex
 cases e
theorem YM.below {w w':World} {y:Y3} {x:M.Wy} {k:Int} (h:YM w y x k) (hb:Below w.heap.size w w'):YM w' y x k :=
 ⟨h.from_.below hb,fun i hi=>by
  obtain ⟨u,e1,e2⟩:=h.row i hi
  exact ⟨u,e1,e2.below hb⟩⟩
end
end Go.Proofs.YtegommoflmmahaaGreat
