/- How numbers, and what was seen, lie in memory; what it is that a call has only laid blocks and drawn. No condition. Numbers, rows of the call's own and boxes of two cells, while other blocks turn. No condition. How a list of what was seen lies in memory; impl's and spec's SeenIn. Of lists of at most 1048576 that were seen, each of at most 1048576 numbers. -/
import Derived.Test.YtmhpgdliaclokaaGreatRows
import Derived.Test.YtmhpgdliaclokaaGreatQzan
namespace Go.Proofs.YtmhpgdliaclokaaGreat
section
open Go.RowKit
theorem Grown.grow {w w':World} (h:Grown w w'):∃ q os,w'=Sort.grow (w.drewN q) os:=by
 obtain ⟨⟨ho,ht,hu,hs,hb⟩,hd⟩:=h
 refine ⟨w'.drawn - w.drawn,w'.heap.extract w.heap.size w'.heap.size,?_⟩
 obtain ⟨heap,tape,drawn,os,output⟩:=w
 obtain ⟨heap',tape',drawn',os',output'⟩:=w'
 simp only at ho ht hu hs hb hd
 subst ho;subst ht;subst hu
 simp only [Sort.grow,World.drewN,World.mk.injEq,true_and,and_true]
 refine ⟨?_,by omega⟩
 apply Array.ext_getElem?
 intro i
 rw [Array.getElem?_append]
 by_cases hi:i < heap.size
 ·rw [if_pos hi];exact hb i hi
 ·rw [if_neg hi,Array.getElem?_extract]
  by_cases h2:i < heap'.size
  ·rw [if_pos (by omega)];congr 1;omega
  ·rw [if_neg (by omega)];exact Array.getElem?_eq_none (by omega)
end
section
open Go.RowKit
theorem Sn.At.far {s:Sn} {w:World} {B i:Nat} {u:Value} (h:s.At w) (h1:0 < s.l1.length→s.b1≠B) (h2:0 < s.l2.length→s.b2≠B):s.At (w.setCell ⟨B,i,none⟩ u):=⟨h.reads.far h1,h.last.far h2⟩
theorem Sn.blk_lt {s:Sn} {w:World} {b:Nat} (h:s.At w) (hb:s.blk b):b < w.heap.size:=by
 rcases hb with ⟨h0,rfl⟩ | ⟨h0,rfl⟩
 ·exact h.reads.lt h0
 ·exact h.last.lt h0
theorem Own2.below {w w':World} {s:Sn} (h:Own2 w s) (ha:s.At w) (hb:Below w.heap.size w w'):Own2 w' s :=
 ⟨h.ne,fun b hk j=>(hb.frozen (p:=⟨b,j,none⟩) (Sn.blk_lt ha hk)).trans (h.fz b hk j)⟩
theorem Own2.far {w:World} {s:Sn} {p:Addr} {u:Value} (h:Own2 w s):Own2 (w.setCell p u) s:=⟨h.ne,fun b hk j=>by rw [World.frozen?_setCell];exact h.fz b hk j⟩
structure Sep (uu:List Sn):Prop where
 far:∀ i j (hi:i < uu.length) (hj:j < uu.length),i≠j→∀ b,uu[i].blk b→¬ uu[j].blk b
 ne:∀ s∈uu,0 < s.l1.length→0 < s.l2.length→s.b1≠s.b2
end
section
open Go.RowKit
structure KS (w:World) (a:Option Addr) (b o:Nat) (ks:List Key):Prop where
 addr:0 < ks.length→a=some ⟨b,o,none⟩
 row:∀ i (h:i < ks.length),∃ s:Sn,s.l1=ks[i].1∧s.l2=ks[i].2∧w.cell? ⟨b,o+i * 2,none⟩=some (.slice s.a1 s.l1.length s.c1)∧w.cell? ⟨b,o+i * 2+1,none⟩=some (.slice s.a2 s.l2.length s.c2)∧s.At w
theorem KS.below {w w':World} {a:Option Addr} {B b o:Nat} {ks:List Key} (h:KS w a b o ks) (hb:Below B w w') (hB:w.heap.size≤B):KS w' a b o ks :=
 ⟨h.addr,fun i hi=>by
  obtain ⟨s,h1,h2,c1,c2,ha⟩:=h.row i hi
  have hl:=Nat.lt_of_lt_of_le (World.block_lt_of_cell? _ _ c1) hB
  exact ⟨s,h1,h2,(hb.cell (p:=⟨b,o+i * 2,none⟩) hl).trans c1,(hb.cell (p:=⟨b,o+i * 2+1,none⟩) hl).trans c2,ha.below hb hB⟩⟩
namespace M
def isIn (ks:List Key) (t1 t2:List Int):Bool:=ks.any fun k=>cmpS k.1 k.2 t1 t2==0
theorem isIn_hit {ks:List Key} {t1 t2:List Int} {n:Nat} {k:Key} (h:isIn ks t1 t2=isIn (ks.drop n) t1 t2) (hd:ks.drop n=k::ks.drop (n+1)) (hk:(cmpS k.1 k.2 t1 t2==0)=true):isIn ks t1 t2=true:=by
 rw [h,hd,isIn,List.any_cons,hk,Bool.true_or]
theorem isIn_miss {ks:List Key} {t1 t2:List Int} {n:Nat} {k:Key} (h:isIn ks t1 t2=isIn (ks.drop n) t1 t2) (hd:ks.drop n=k::ks.drop (n+1)) (hk:(cmpS k.1 k.2 t1 t2==0)=false):isIn ks t1 t2=isIn (ks.drop (n+1)) t1 t2:=by
 rw [h,hd,isIn,List.any_cons,hk,Bool.false_or];rfl
theorem isIn_fin {ks:List Key} {t1 t2:List Int} {n:Nat} (h:isIn ks t1 t2=isIn (ks.drop n) t1 t2) (hn:ks.length≤n):isIn ks t1 t2=false:=by
 rw [h,List.drop_eq_nil_of_le hn];rfl
theorem drop_key (ks:List Key) (n:Nat) (h:n < ks.length):ks.drop n=ks[n]::ks.drop (n+1):=(List.getElem_cons_drop h).symm
end M
set_option maxHeartbeats 400000 in
theorem closure_any (s t:Sn) (cb:Nat) (w:World) (hs:s.Le 1048576) (ht:t.Le 1048576) (hsa:s.At w) (hta:t.At w) (k0:w.cell? ⟨cb,0,none⟩=some (.slice t.a1 t.l1.length t.c1)) (k1:w.cell? ⟨cb,1,none⟩=some (.slice t.a2 t.l2.length t.c2)) :
  Calls Tryz.prog 63 #[.agg #[.slice s.a1 s.l1.length s.c1,.slice s.a2 s.l2.length s.c2],.pointer (some ⟨cb,0,none⟩)] w fun e w'=>e=.returned (.bool (M.cmpS s.l1 s.l2 t.l1 t.l2==0))∧Grown w w':=by
 have hg:Grown w (w.alloc (.cells #[.slice s.a1 s.l1.length s.c1,.slice s.a2 s.l2.length s.c2] 45)):=(Grown.refl w).alloc _
 have C:=compareSeen_any s t _ hs ht (hsa.grown hg) (hta.grown hg)
 have hcb:cb < w.heap.size:=World.block_lt_of_cell? _ _ k0
 go_enter Tryz.func63,Tryz.ntmps63
 go_wp2_with (go_at_call 56;refine C.mono ?_;rintro e w' ⟨rfl,hg'⟩)
 go_ret
 exact ⟨rfl,hg.trans hg'⟩
set_option maxHeartbeats 400000 in
theorem indexFunc_any (a:Option Addr) (b o c:Nat) (ks:List Key) (t:Sn) (cb:Nat) (w:World) (hl:ks.length≤1048576) (hls:KLe ks 1048576) (ht:t.Le 1048576) (h:KS w a b o ks) (hta:t.At w) (k0:w.cell? ⟨cb,0,none⟩=some (.slice t.a1 t.l1.length t.c1)) (k1:w.cell? ⟨cb,1,none⟩=some (.slice t.a2 t.l2.length t.c2)) :
  Calls Tryz.prog 126 #[.slice a ks.length c,.func (.func 63) #[] #[.pointer (some ⟨cb,0,none⟩)]] w fun e w'=>∃ r:Int,e=.returned (.int .i64 r)∧decide (0≤r)=M.isIn ks t.l1 t.l2∧Grown w w':=by
 have eg:∀ args w,(callFunc 63 args).run Tryz.prog w=.ok (.enter 63 args) w:=enters_of Tryz.func63 (by kernel_rfl) rfl
 have hcb:cb < w.heap.size:=World.block_lt_of_cell? _ _ k0
 go_enter Tryz.func126,Tryz.ntmps126
 go_wp2_with fail
 go_loopw [8] (fun s8 wr=>∃ n:Nat,s8=.int .i64 n∧n≤ks.length∧M.isIn ks t.l1 t.l2=M.isIn (ks.drop n) t.l1 t.l2∧Grown w wr) (fun s8 _=>ks.length - (intOf s8).toNat)
 case atStart=>exact ⟨0,rfl,Nat.zero_le _,rfl,Grown.refl _⟩
 case round =>
  obtain ⟨n,rfl,hn,hpass,hg⟩:=hrel
  have HP:Hid (M.isIn ks t.l1 t.l2=M.isIn (ks.drop n) t.l1 t.l2):=hpass
  clear hpass
  by_cases hlt:n < ks.length
  ·obtain ⟨rfl⟩:=h.addr (by omega)
   have HD:Hid (ks.drop n=ks[n]::ks.drop (n+1)):=M.drop_key ks n hlt
   obtain ⟨s,h1,h2,c0,c1,hsa⟩:=(h.below hg.bel (Nat.le_refl _)).row n hlt
   obtain ⟨e1,e2⟩:=hls _ (List.getElem_mem hlt)
   generalize ks[n]=k at HD h1 h2 e1 e2
   have C:=closure_any s t cb wr ⟨by rw [h1];exact e1,by rw [h2];exact e2⟩ ht hsa (hta.grown hg) ((hg.bel.cell (p:=⟨cb,0,none⟩) hcb).trans k0) ((hg.bel.cell (p:=⟨cb,1,none⟩) hcb).trans k1)
   obtain ⟨q,hq⟩:∃ q,(M.cmpS s.l1 s.l2 t.l1 t.l2==0)=q:=⟨_,rfl⟩
   rw [hq] at C
   rw [h1,h2] at hq
   have HQ:Hid ((M.cmpS k.1 k.2 t.l1 t.l2==0)=q):=hq
   clear hq h1 h2 e1 e2 hsa
   have i1:(n:Int) < ks.length:=by omega
   cases q
   ·go_wp2_with (go_at_call 63;refine C.mono ?_;rintro e w' ⟨rfl,hg'⟩)
    exact ⟨⟨n+1,by go_num,by omega,M.isIn_miss HP.out HD.out HQ.out,hg.trans hg'⟩,by simp [intOf];omega⟩
   ·go_wp2_with (go_at_call 63;refine C.mono ?_;rintro e w' ⟨rfl,hg'⟩)
    go_ret
    exact ⟨n,rfl,by rw [M.isIn_hit HP.out HD.out HQ.out];simp,hg.trans hg'⟩
  ·go_wp2_with fail
   go_ret
   exact ⟨-1,rfl,by rw [M.isIn_fin HP.out (by omega)];rfl,hg⟩
set_option maxHeartbeats 400000 in
theorem containsFunc_any (a:Option Addr) (b o c:Nat) (ks:List Key) (t:Sn) (cb:Nat) (w:World) (hl:ks.length≤1048576) (hls:KLe ks 1048576) (ht:t.Le 1048576) (h:KS w a b o ks) (hta:t.At w) (k0:w.cell? ⟨cb,0,none⟩=some (.slice t.a1 t.l1.length t.c1)) (k1:w.cell? ⟨cb,1,none⟩=some (.slice t.a2 t.l2.length t.c2)) :
  Calls Tryz.prog 62 #[.slice a ks.length c,.func (.func 63) #[] #[.pointer (some ⟨cb,0,none⟩)]] w fun e w'=>e=.returned (.bool (M.isIn ks t.l1 t.l2))∧Grown w w':=by
 have C:=indexFunc_any a b o c ks t cb w hl hls ht h hta k0 k1
 go_enter Tryz.func62,Tryz.ntmps62
 go_wp2_with (go_at_call 126;refine C.mono ?_;rintro e w' ⟨r,rfl,hr,hg'⟩)
 go_ret
 exact ⟨rfl,hg'⟩
set_option maxHeartbeats 400000 in
theorem iseenIn_any (a:Option Addr) (b o c:Nat) (ks:List Key) (t:Sn) (w:World) (hl:ks.length≤1048576) (hls:KLe ks 1048576) (ht:t.Le 1048576) (h:KS w a b o ks) (hta:t.At w) :
  Calls Tryz.prog 24 #[.slice a ks.length c,.agg #[.slice t.a1 t.l1.length t.c1,.slice t.a2 t.l2.length t.c2]] w fun e w'=>e=.returned (.bool (M.isIn ks t.l1 t.l2))∧Grown w w':=by
 have hg:Grown w (w.alloc (.cells #[.slice t.a1 t.l1.length t.c1,.slice t.a2 t.l2.length t.c2] 45)):=(Grown.refl w).alloc _
 have C:=containsFunc_any a b o c ks t w.heap.size _ hl hls ht (h.below hg.bel (Nat.le_refl _)) (hta.grown hg) (by simp) (by simp)
 go_enter Tryz.func24,Tryz.ntmps24
 go_wp2_with (go_at_call 62;refine C.mono ?_;rintro e w' ⟨rfl,hg'⟩)
 go_ret
 exact ⟨rfl,hg.trans hg'⟩
end
end Go.Proofs.YtmhpgdliaclokaaGreat
