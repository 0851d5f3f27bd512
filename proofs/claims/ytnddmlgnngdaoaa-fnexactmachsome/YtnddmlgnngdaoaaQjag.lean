/- spec's machine: what comes to its place. Of a machine of three threads and three places. -/
import Derived.Test.YtnddmlgnngdaoaaRows
import Derived.Test.YtnddmlgnngdaoaaQjaf
namespace Go.Proofs.Ytnddmlgnngdaoaa
section
open Go.RowKit
theorem Try.smDo:(Try.prog.info? 84).map (fun i=>(i.zero,i.size,i.bytes))=some (some (.agg #[.int .i64 0,.int .i64 0,.int .i64 0]),3,24):=by kernel_rfl
theorem own_emp0 {X:World} {base g size:Nat} {e:TypeId} (h:X.heap[g]?=some (.cells #[] e (0,0))) (hb:base≤g):X.ownsRow base e size (.slice (some ⟨g,0,none⟩) 0 0) 0 [] :=
 ⟨by simp,.inr ⟨g,0,#[],rfl,hb,h,Nat.le_refl _,Nat.zero_le _,by simp,by simp⟩⟩
theorem rw_put {n:Nat} {N:Nat→Nat} {us:Rid→Value} (s:M.St) (t:Nat) (x:M.Th) (ht:t < s.th.length) (r:Rid) (h1:r=.top 1→x.next=(s.t t).next) (h4:r=.top 4→x.inn=(s.t t).inn) (h2:r=.sub 2 t→x.pend=(s.t t).pend) (h3:r=.sub 3 t→x.vals=(s.t t).vals) (h5:r=.sub 5 t→x.wt n=(s.t t).wt n) :
  (s.put t x).rw_ n N us r=s.rw_ n N us r:=by
 have e:∀ i,(s.put t x).t i=if i=t then x else s.t i:=fun i=>M.t_put s t i x ht
 unfold M.St.rw_
 split
 ·have:∀ i,((s.put t x).t i).next=(s.t i).next:=fun i=>by
   rw [e];split
   ·rename_i hi;rw [hi,h1 rfl]
   ·rfl
  simp only [this]
 ·rfl
 ·rfl
 ·have:∀ i,((s.put t x).t i).inn=(s.t i).inn:=fun i=>by
   rw [e];split
   ·rename_i hi;rw [hi,h4 rfl]
   ·rfl
  simp only [this]
 ·rfl
 ·rfl
 ·rename_i i
  have:((s.put t x).t i).pend=(s.t i).pend:=by
   rw [e];split
   ·rename_i hi;subst hi;rw [h2 rfl]
   ·rfl
  simp only [this]
 ·rename_i i
  have:((s.put t x).t i).vals=(s.t i).vals:=by
   rw [e];split
   ·rename_i hi;subst hi;rw [h3 rfl]
   ·rfl
  simp only [this]
 ·rename_i i
  have:((s.put t x).t i).wt n=(s.t i).wt n:=by
   rw [e];split
   ·rename_i hi;subst hi;rw [h5 rfl]
   ·rfl
  simp only [this]
 ·rfl
set_option maxHeartbeats 1000000 in
theorem sland_full (base X i:Nat) (a:Option Addr) (n c:Nat) (vs:Rid→Value) (s:M.St) (q:Int × Int) (r:List (Int × Int)) (w:World) (h:SM w base X a n c vs s) (hi:i < n) (hn:n≤3) (hq:(s.t i).pend=q::r) (hp0:0≤q.1) (hp3:q.1 < 3) (ha:s.at_.length=3) (hs:s.th.length=3) (hr:r.length≤1048576) :
  Calls Try.prog 63 #[.pointer (some ⟨X,0,none⟩),.int .i64 i] w fun e w'=>e=.returned (.tuple #[])∧SME w' base X a n c (s.come i)∧Below base w w'∧(∀ k,k < w.heap.size→some k≠(vs (.top 2)).ownBlock→some k≠(vs (.top 6)).ownBlock→w'.heap[k]?=w.heap[k]?):=by
 have i1:(i:Int) < n:=by omega
 have lX:=h.lt
 have hbX:=h.bX
 obtain ⟨g2,c2,hv2,hb2,hf2⟩:=h.top (k:=2) (by omega) (by omega)
 have k2:=h.ck (k:=2) (by omega)
 rw [hv2] at k2
 have kr:=h.subAt (Or.inl rfl) hv2 hi
 obtain ⟨la,L,lc,hvl,hla,hlc,hcl⟩:=h.lateAt hi
 have hlen:(s.t i).pend.length=r.length+1:=by rw [hq];rfl
 obtain ⟨rfl⟩:=hla (by omega)
 obtain ⟨d0,d1,d2⟩:=hcl 0 (by omega)
 simp only [hq,List.getElem_cons_zero,Nat.zero_mul,Nat.zero_add] at d0 d1 d2
 have lg0:g2 < w.heap.size:=World.block_lt_of_cell? _ _ kr
 rw [hvl,hlen] at kr
 clear hcl
 obtain ⟨q1,q2⟩:=q
 obtain ⟨p,rfl⟩:∃ p:Nat,q1=p:=⟨q1.toNat,by simp at hp0;omega⟩
 simp only at d0 d1 d2 hp3
 go_enter Try.func63,Try.ntmps63
 go_wp2_with fail
 have hbW:=below1 w (.cells #[.int .i64 0,.int .i64 p,.int .i64 q2] 84)
 have hW:=h.below hbW
 have e0:(w.alloc (.cells #[.int .i64 0,.int .i64 p,.int .i64 q2] 84)).cell? ⟨w.heap.size,1,none⟩=some (.int .i64 p):=by simp
 have e1:(w.alloc (.cells #[.int .i64 0,.int .i64 p,.int .i64 q2] 84)).cell? ⟨w.heap.size,2,none⟩=some (.int .i64 q2):=by simp
 clear h k2 kr d0 d1 d2 hf2 lX
 generalize w.alloc (.cells #[.int .i64 0,.int .i64 p,.int .i64 q2] 84)=W at *
 obtain ⟨D,hD⟩:∃ D,w.heap.size=D:=⟨_,rfl⟩
 have HD:Hid (w.heap.size=D):=hD
 rw [hD] at e0 e1 hbW lg0 ⊢
 clear hD
 have lD:D < W.heap.size:=World.block_lt_of_cell? _ _ e0
 have hbd:Below W.heap.size W W.drew:=(Below.refl _ _).drew
 have hWd:=hW.below hbd
 obtain ⟨g2',c2',hv2',hb2,hf2⟩:=hW.top (k:=2) (by omega) (by omega)
 obtain ⟨rfl,rfl⟩:g2'=g2∧c2'=c2:=by rw [hv2] at hv2';simp at hv2';exact ⟨hv2'.1.symm,hv2'.2.symm⟩
 have k2:=hW.ck (k:=2) (by omega)
 rw [hv2] at k2
 have kr:=hW.subAt (Or.inl rfl) hv2 hi
 have lX:X < W.heap.size:=hWd.lt
 have lG:g2' < W.heap.size:=World.block_lt_of_cell? _ _ kr
 rw [hvl,hlen] at kr
 have lL:L < W.heap.size:=by have:=(hWd.late hi).lt L (by rw [hvl];rfl);exact this.2
 have hown:=hWd.late hi
 rw [hvl,hq] at hown
 obtain ⟨i0,hI,hz0,hz1,hz2⟩:=info_parts Try.smDo
 have hbe:=below1 W.drew (.cells #[] 84)
 have hi1:(1:Int)≤(r.length:Int)+1:=by omega
 obtain ⟨ad,had,hnews⟩:∃ ad:Addr,(if lc=1 then some (⟨L,0,none⟩:Addr) else some ⟨L,3,none⟩)=some ad∧∀ j u,(flatQ r)[j]?=some u→(W.drew.alloc (.cells #[] 84)).cell? (ad.add j)=some u:=by
  by_cases hc1:lc=1
  ·have hr0:r=[]:=List.length_eq_zero_iff.1 (by omega)
   subst hr0
   exact ⟨_,if_pos hc1,fun j u hu=>by simp [flatQ] at hu⟩
  ·refine ⟨_,if_neg hc1,fun j u hu=>?_⟩
   have h1:W.drew.cell? ⟨L,3+j,none⟩=some u:=own_cellE hown (by rw [Nat.add_comm];exact hu)
   rw [Addr.add_mid]
   exact (hbe.cell (p:=⟨L,3+j,none⟩) (World.block_lt_of_cell? _ _ h1)).trans h1
 go_region_law (refine step_app rfl (.tmp 19) (.tmp 27) 60 rfl (some 28) rfl base 84 i0 _ 3 24 Try.underlying60 hI hz0 hz1 hz2 rfl (by omega) (.slice (some ⟨W.heap.size,0,none⟩) 0 0) 0 [] (by rfl) (own_emp0 (heap_alloc_new W.drew _) (by omega)) ad r.length (lc - 1) (flatQ r) (by rfl) (flatQ_len r) hnews (flatQ_one r) (by unfold maxLen;omega) (by omega) (by simp;omega) ?_;intro v3 w3 hown3 hg3 hat3;have hown3':w3.ownsRow base 84 3 v3 r.length (flatQ r):=(by simpa using hown3);obtain ⟨a3,c3,rfl,hc3⟩:=own_sl hown3';have hb3:Below W.heap.size W w3:=below_grown (hbd.trans (hbe.mono (Nat.le_refl _))) hg3 (fun k hk=>(by simp [Value.ownBlock] at hk;omega)) (by simp);have hat3':∀ k,(Value.slice a3 r.length c3).ownBlock=some k→W.heap.size≤k:=(fun k hk=>(by rcases hat3 with e | e<;>(rw [e] at hk;simp [Value.ownBlock] at hk;omega)));have h3:=hW.below hb3;have kr3:=h3.subAt (Or.inl rfl) hv2 hi;have k3:=h3.ck (k:=2) (by omega);rw [hv2] at k3;have kf3:w3.frozen? ⟨g2',i,none⟩=false:=(hb3.frozen (p:=⟨g2',i,none⟩) lG).trans (hf2 i);clear hown3 hg3 hat3)
 all_goals
  have hS:=hW.sub (k:=2) (i:=i) (s':=s.put i { s.t i with pend:=r }) (Or.inl rfl) hi (gr_below hb3 _) hv2 (by
   show w3.ownsRow base 84 3 _ (M.St.t _ i).pend.length (flatQ (M.St.t _ i).pend)
   rw [M.t_put _ _ _ _ (by omega),if_pos rfl]
   exact hown3') (Or.inr hat3') (fun rr _ hne=>rw_put s i _ (by omega) rr (fun _=>rfl) (fun _=>rfl) (fun e=>absurd e hne) (fun _=>rfl) (fun _=>rfl))
  have hbS:Below base w (w3.setCell ⟨g2',i,none⟩ (.slice a3 r.length c3)):=((hbW.mono (by have:=HD.out;omega)).trans (hb3.mono (by omega))).setCell (by show base≤g2';exact hb2) _
  have e0':(w3.setCell ⟨g2',i,none⟩ (.slice a3 r.length c3)).cell? ⟨D,1,none⟩=some (.int .i64 p):=by
   rw [World.cell?_setCell_other _ _ _ _ (fun e=>by have:=congrArg Addr.block e;simp at this;omega)]
   exact (hb3.cell (p:=⟨D,1,none⟩) lD).trans e0
  have e1':(w3.setCell ⟨g2',i,none⟩ (.slice a3 r.length c3)).cell? ⟨D,2,none⟩=some (.int .i64 q2):=by
   rw [World.cell?_setCell_other _ _ _ _ (fun e=>by have:=congrArg Addr.block e;simp at this;omega)]
   exact (hb3.cell (p:=⟨D,2,none⟩) lD).trans e1
  have hfr:∀ k,k < D→k≠g2'→(w3.setCell ⟨g2',i,none⟩ (.slice a3 r.length c3)).heap[k]?=w.heap[k]?:=fun k hk hne=>by
   rw [Below.heap_setCell _ _ _ _ hne,hb3.block k (by omega),hbW.block k hk]
  clear k2 kr e0 e1 hf2 k3 kr3 kf3 h3 hW hWd hown hnews hown3' hb3 hbe hbd
  generalize w3.setCell ⟨g2',i,none⟩ (.slice a3 r.length c3)=W4 at *
  obtain ⟨g6,c6,hv6,ca,cf⟩:=hS.atAt (p:=p) (by show p < s.at_.length;omega)
  have k6:=hS.ck (k:=6) (by omega)
  rw [hv6] at k6
  rw [show (s.put i { s.t i with pend:=r }).at_.length=3 from ha] at k6
  have hS2:=hS.cellAt (j:=p) (v':=q2) hv6
  have hb6:=(hS.at_.lt g6 (by rw [hv6];rfl)).1
  have hp3':(p:Int) < 3:=hp3
  generalize (s.put i { s.t i with pend:=r }).at_.getD p 0=y at ca
  have hd6:=hS2.below (Below.refl _ _).drew
  go_wp2_with fail
  go_region
  go_wp2_with fail
  exact bodyPost_end (v:=.tuple #[]) (results_none Try.results63 _ _ _) rfl ⟨rfl,⟨_,by
   have hcome:s.come i=⟨(s.put i { s.t i with pend:=r }).th,(s.put i { s.t i with pend:=r }).at_.set p q2⟩:=by unfold M.St.come;rw [hq];rfl
   rw [hcome]
   exact hd6⟩,(hbS.setCell (by show base≤g6;exact hb6) _).trans ((Below.refl _ _).drew),fun k hk h2 h6=>by
   have hk6:k≠g6:=fun e=>h6 (by rw [show vs (.top 6)=setR vs (.sub 2 i) (.slice a3 r.length c3) (.top 6) from (setR_ne _ _ (by simp)).symm,hv6,e];rfl)
   have hk2:k≠g2':=fun e=>h2 (by rw [hv2,e];rfl)
   rw [HD.out] at hk
   exact (Below.heap_setCell _ _ _ _ hk6).trans (hfr k hk hk2)⟩
end
end Go.Proofs.Ytnddmlgnngdaoaa
