/- spec's machine: who waits. Of a machine of three threads. -/
import Derived.Test.YtnddmlgnngdaoaaRows
import Derived.Test.YtnddmlgnngdaoaaQjag
namespace Go.Proofs.Ytnddmlgnngdaoaa
section
open Go.RowKit
theorem Try.smBool:(Try.prog.info? 4).map (fun i=>(i.zero,i.size,i.bytes))=some (some (.bool false),1,1):=by kernel_rfl
def M.St.beg1 (s:M.St) (i:Nat):M.St:=s.put i { s.t i with waits:=true,noted:=s.th.map M.Th.inn }
def M.St.beg2 (s:M.St) (i:Nat):M.St:=s.put i { s.t i with next:=(s.t i).next - 1,waits:=true,noted:=s.th.map M.Th.inn }
def M.St.wait? (n:Nat) (s:M.St) (i:Nat):Option M.St :=
 if (s.t i).waits=false then some (s.beg2 i)
 else if (((s.t i).wt n).all fun b=>!b)=true then some (s.stop i) else none
structure SmR (w w':World) (base X:Nat) (a:Option Addr) (n c:Nat) (r:Option M.St):Prop where
 st:∀ s',r=some s'→SME w' base X a n c s'
 bel:Below base w w'
theorem M.inn_take (s:M.St) (n:Nat) (hn:n≤s.th.length):((s.th.map M.Th.inn).take n).map Value.bool=(List.range n).map fun j=>Value.bool (s.t j).inn:=by
 apply List.ext_getElem
 ·simp;omega
 ·intro j h1 h2
  have:j < s.th.length:=by simp at h1;omega
  simp [M.St.t,this]
theorem rw_next {n i:Nat} {vs:Rid→Value} {s s':M.St} (hi:i < n) {v:Int} (h:∀ j,j < n→((s'.t j).next:Int)=if j=i then v else ((s.t j).next:Int)) :
  s'.rw_ n (fun _=>n) vs (.top 1)=⟨(s.rw_ n (fun _=>n) vs (.top 1)).e,1,n,(s.rw_ n (fun _=>n) vs (.top 1)).xs.set i (.int .i64 v)⟩:=by
 simp only [M.St.rw_,setL_map hi]
 refine congrArg (Rw.mk _ 1 n) (List.map_congr_left fun j hj=>?_)
 rw [h j (List.mem_range.1 hj)]
 split<;>rfl
theorem rw_inn {n i:Nat} {vs:Rid→Value} {s s':M.St} (hi:i < n) {v:Bool} (h:∀ j,j < n→(s'.t j).inn=if j=i then v else (s.t j).inn) :
  s'.rw_ n (fun _=>n) vs (.top 4)=⟨(s.rw_ n (fun _=>n) vs (.top 4)).e,1,n,(s.rw_ n (fun _=>n) vs (.top 4)).xs.set i (.bool v)⟩:=by
 simp only [M.St.rw_,setL_map hi]
 refine congrArg (Rw.mk _ 1 n) (List.map_congr_left fun j hj=>?_)
 rw [h j (List.mem_range.1 hj)]
 split<;>rfl
theorem inns_one (n:Nat) (f:Nat→Bool):∀ u∈(List.range n).map (fun j=>Value.bool (f j)),u.oneCell'=true:=fun u hu=>by
 obtain ⟨j,_,rfl⟩:=List.mem_map.1 hu
 rfl
set_option maxHeartbeats 1000000 in
theorem swait_any (base X i:Nat) (a:Option Addr) (n c:Nat) (vs:Rid→Value) (s:M.St) (w:World) (h:SM w base X a n c vs s) (hi:i < n) (hn:n≤3) (hs:s.th.length=3) (hnt:(s.t i).noted.length=3) (hx:0 < (s.t i).next) (hx2:(s.t i).next≤1048576) :
  Calls Try.prog 55 #[.pointer (some ⟨X,0,none⟩),.int .i64 i] w fun e w'=>e=.returned (.bool (s.wait? n i).isSome)∧SmR w w' base X a n c (s.wait? n i):=by
 have i1:(i:Int) < n:=by omega
 have hn0:(0:Int) < n:=by omega
 have hbX:=h.bX
 have lX:X < w.heap.size:=h.lt
 obtain ⟨g5,c5,hv5,hb5,hf5⟩:=h.top (k:=5) (by omega) (by omega)
 have k5:=h.ck (k:=5) (by omega)
 rw [hv5] at k5
 have kr:=h.subAt (Or.inr (Or.inr rfl)) hv5 hi
 have lG:g5 < w.heap.size:=World.block_lt_of_cell? _ _ kr
 have hown:=h.waits hi
 obtain ⟨la,lc,hvl,hlc⟩:=own_sl hown
 rw [hvl] at kr hown
 cases hw:(s.t i).waits
 ·have HR:Hid (s.wait? n i=some (s.beg2 i)):=if_pos hw
  have hwt:(s.t i).wt n=[]:=by unfold M.Th.wt;rw [hw];rfl
  rw [hwt] at kr
  rw [show ([]:List Bool).length=0 from rfl] at kr
  obtain ⟨g4,c4,hv4,hb4,hf4⟩:=h.top (k:=4) (by omega) (by omega)
  have k4:=h.ck (k:=4) (by omega)
  rw [hv4] at k4
  have ho4:=h.own (r:=.top 4) ⟨by omega,by omega⟩
  rw [hv4] at ho4
  have hbd:Below w.heap.size w w.drew:=(Below.refl _ _).drew
  have hbe:=below1 w.drew (.cells #[] 4)
  obtain ⟨i0,hI,hz0,hz1,hz2⟩:=info_parts Try.smBool
  have hnews:∀ j u,((List.range n).map fun j=>Value.bool (s.t j).inn)[j]?=some u→(w.drew.alloc (.cells #[] 4)).cell? ((⟨g4,0,none⟩:Addr).add j)=some u:=fun j u hu=>by
   have h1:w.cell? ⟨g4,j,none⟩=some u:=own_cellE ho4 hu
   rw [Go.WideShapes.add_plain,Nat.zero_add]
   exact ((hbd.trans hbe).cell (p:=⟨g4,j,none⟩) (World.block_lt_of_cell? _ _ h1)).trans h1
  go_enter Try.func55,Try.ntmps55
  go_wp2_with fail
  go_region_law (refine step_app rfl (.tmp 20) (.tmp 24) 56 rfl (some 25) rfl base 4 i0 _ 1 1 Try.underlying56 hI hz0 hz1 hz2 rfl (by omega) (.slice (some ⟨w.heap.size,0,none⟩) 0 0) 0 [] (by rfl) (own_emp0 (heap_alloc_new w.drew _) (by show base≤w.heap.size;omega)) ⟨g4,0,none⟩ n c4 ((List.range n).map fun j=>Value.bool (s.t j).inn) (by rfl) (by simp) hnews (inns_one _ _) (by unfold maxLen;omega) (by omega) (by simp;omega) ?_;intro v3 w3 hown3 hg3 hat3;have hown3':w3.ownsRow base 4 1 v3 n ((List.range n).map fun j=>Value.bool (s.t j).inn):=(by simpa using hown3);obtain ⟨a3,c3,rfl,hc3⟩:=own_sl hown3';have hb3:Below w.heap.size w w3:=below_grown (hbd.trans hbe) hg3 (fun k hk=>(by simp [Value.ownBlock] at hk;omega)) (by simp);have hat3':∀ k,(Value.slice a3 n c3).ownBlock=some k→w.heap.size≤k:=(fun k hk=>(by rcases hat3 with e | e<;>(rw [e] at hk;simp [Value.ownBlock] at hk;omega)));have h3:=h.below hb3;have k3:=h3.ck (k:=5) (by omega);rw [hv5] at k3;have kr3:=h3.subAt (Or.inr (Or.inr rfl)) hv5 hi;have kf3:w3.frozen? ⟨g5,i,none⟩=false:=(hb3.frozen (p:=⟨g5,i,none⟩) lG).trans (hf5 i);clear hown3 hg3 hat3)
  all_goals
   have hS:=h.sub (k:=5) (i:=i) (s':=s.beg1 i) (v':=.slice a3 n c3) (Or.inr (Or.inr rfl)) hi (gr_below hb3 _) hv5 (by
    show w3.ownsRow base 4 1 _ (M.Th.wt n (M.St.t (s.beg1 i) i)).length ((M.Th.wt n (M.St.t (s.beg1 i) i)).map .bool)
    unfold M.St.beg1
    rw [M.t_put _ _ _ _ (by omega),if_pos rfl]
    show w3.ownsRow base 4 1 _ ((s.th.map M.Th.inn).take n).length (((s.th.map M.Th.inn).take n).map .bool)
    rw [M.inn_take _ _ (by omega),show ((s.th.map M.Th.inn).take n).length=n from by simp;omega]
    exact hown3') (Or.inr hat3') (fun rr _ hne=>rw_put s i _ (by omega) rr (fun _=>rfl) (fun _=>rfl) (fun _=>rfl) (fun _=>rfl) (fun e=>absurd e hne))
   have hbS:Below base w (w3.setCell ⟨g5,i,none⟩ (.slice a3 n c3)):=(hb3.mono (by omega)).setCell (by show base≤g5;exact hb5) _
   clear k3 kr3 kf3 h3 hb3 hown3' hnews ho4 k4 hf4
   generalize w3.setCell ⟨g5,i,none⟩ (.slice a3 n c3)=W4 at *
   have t1:(s.beg1 i).t i={ s.t i with waits:=true,noted:=s.th.map M.Th.inn }:=by unfold M.St.beg1;rw [M.t_put _ _ _ _ (by omega),if_pos rfl]
   obtain ⟨g1,c1,hv1,hb1,hf1⟩:=hS.top (k:=1) (by omega) (by omega)
   have k1:=hS.ck (k:=1) (by omega)
   rw [hv1] at k1
   have kn:=hS.nextAt hv1 hi
   have kf:=hf1 i
   rw [t1] at kn
   have hS2:=hS.cell (k:=1) (i:=i) (s':=s.beg2 i) (v':=.int .i64 (((s.t i).next:Int) - 1)) (Or.inl rfl) hv1 (rw_next hi fun j hj=>by
    unfold M.St.beg1 M.St.beg2
    rw [M.t_put _ _ _ _ (by omega),M.t_put _ _ _ _ (by omega)]
    by_cases e:j=i
    ·rw [if_pos e,if_pos e]
     show (((s.t i).next - 1:Nat):Int)=_
     omega
    ·rw [if_neg e,if_neg e,if_neg e]) (fun rr _ hne=>by
    have:s.beg2 i=(s.beg1 i).put i { (s.beg1 i).t i with next:=(s.t i).next - 1 }:=by
     rw [t1];unfold M.St.beg1 M.St.beg2 M.St.put;simp
    rw [this]
    exact rw_put _ i _ (by unfold M.St.beg1;rw [M.put_len];omega) rr (fun e=>absurd e hne) (fun _=>rfl) (fun _=>rfl) (fun _=>rfl) (fun _=>rfl))
   have hS3:=hS2.below (Below.refl _ _).drew
   have kn':W4.cell? ⟨g1,i,none⟩=some (.int .i64 ((s.t i).next:Int)):=kn
   generalize (s.t i).next=nx1 at *
   clear hS hS2 hf1 hf5 kr k5 hown kn
   go_wp2_with fail
   go_region
   go_wp2_with fail
   go_ret
   exact ⟨by rw [HR.out];rfl,⟨fun s' e=>by
    rw [HR.out] at e
    obtain rfl:=Option.some.inj e
    exact ⟨_,hS3⟩,(hbS.setCell (by show base≤g1;exact hb1) _).trans ((Below.refl _ _).drew)⟩⟩
 ·have HR:Hid (s.wait? n i=if (((s.t i).wt n).all fun b=>!b)=true then some (s.stop i) else none):=if_neg (by rw [hw];decide)
  have hln:((s.t i).wt n).length=n:=by unfold M.Th.wt;rw [hw];simp;omega
  rw [hln] at kr hown hlc
  obtain ⟨gl,cl,hvl',hbl,hcl⟩:=own_slp hown (by omega)
  simp only [Value.slice.injEq,true_and] at hvl'
  obtain ⟨rfl,rfl⟩:=hvl'
  have kb:∀ k (hk:k < ((s.t i).wt n).length),w.cell? ⟨gl,k,none⟩=some (.bool ((s.t i).wt n)[k]):=fun k hk=>own_cellE hown (by simp [hk])
  have hS:=h.sub (k:=5) (i:=i) (s':=s.stop i) (v':=.slice (some ⟨w.heap.size,0,none⟩) 0 0) (Or.inr (Or.inr rfl)) hi (gr_below (below1 w (.cells #[] 4)) _) hv5 (by
   show World.ownsRow _ base 4 1 _ (M.Th.wt n (M.St.t (s.stop i) i)).length ((M.Th.wt n (M.St.t (s.stop i) i)).map .bool)
   unfold M.St.stop
   rw [M.t_put _ _ _ _ (by omega),if_pos rfl]
   exact own_emp0 (heap_alloc_new w _) (by omega)) (Or.inr (fun k hk=>by simp [Value.ownBlock] at hk;omega)) (fun rr _ hne=>rw_put s i _ (by omega) rr (fun _=>rfl) (fun _=>rfl) (fun _=>rfl) (fun _=>rfl) (fun e=>absurd e hne))
  have hbS:Below base w ((w.alloc (.cells #[] 4)).setCell ⟨g5,i,none⟩ (.slice (some ⟨w.heap.size,0,none⟩) 0 0)):=((below1 w (.cells #[] 4)).mono (by omega)).setCell (by show base≤g5;exact hb5) _
  have kf:=hf5 i
  generalize (s.t i).wt n=l at *
  subst hln
  go_enter Try.func55,Try.ntmps55
  go_wp2_with fail
  clear hown h hvl
  go_loopw [5] (fun s5 wr=>∃ m:Nat,s5=.int .i64 m∧m≤l.length∧(∀ j (hj:j < l.length),j < m→l[j]=false)∧wr=w) (fun s5 _=>l.length - (intOf s5).toNat)
  case atStart=>exact ⟨0,rfl,by omega,fun j hj h=>absurd h (Nat.not_lt_zero _),rfl⟩
  case round =>
   obtain ⟨m,rfl,hm,hno,rfl⟩:=hrel
   by_cases hlt:m < l.length
   ·have i2:(m:Int) < l.length:=by omega
    have kbm:=kb m hlt
    cases hlm:l[m]
    ·rw [hlm] at kbm
     clear kb
     go_wp2_with fail
     exact ⟨⟨m+1,by go_num,by omega,fun j hj h=>by
      rcases Nat.lt_succ_iff_lt_or_eq.1 h with h | h
      ·exact hno j hj h
      ·subst h;exact hlm,trivial⟩,by simp [intOf];omega⟩
    ·rw [hlm] at kbm
     clear kb
     have HN:Hid (s.wait? l.length i=none):=by
      show _=_
      rw [HR.out,if_neg]
      intro hall
      have:=List.all_eq_true.1 hall _ (List.getElem_mem hlt)
      rw [hlm] at this
      cases this
     go_wp2_with fail
     go_ret
     exact ⟨by rw [HN.out];rfl,⟨fun s' e=>(by rw [HN.out] at e;cases e),Below.refl _ _⟩⟩
   ·have i2:¬ (m:Int) < l.length:=by omega
    have HN:Hid (s.wait? l.length i=some (s.stop i)):=by
     show _=_
     rw [HR.out,if_pos]
     refine List.all_eq_true.2 fun b hb=>?_
     obtain ⟨j,hj,rfl⟩:=List.mem_iff_getElem.1 hb
     rw [hno j hj (by omega)]
     rfl
    clear kb
    have hcm:(wr.setCell ⟨g5,i,none⟩ (.slice (some ⟨wr.heap.size,0,none⟩) 0 0)).alloc (.cells #[] 4)=(wr.alloc (.cells #[] 4)).setCell ⟨g5,i,none⟩ (.slice (some ⟨wr.heap.size,0,none⟩) 0 0):=by simp [go_sem,lG]
    rw [← hcm] at hS hbS
    clear hcm
    go_wp2_with fail
    go_ret
    exact ⟨by rw [HN.out];rfl,⟨fun s' e=>by
     rw [HN.out] at e
     obtain rfl:=Option.some.inj e
     exact ⟨_,hS⟩,hbS⟩⟩
end
end Go.Proofs.Ytnddmlgnngdaoaa
