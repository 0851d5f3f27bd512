/- A program in memory whose blocks all lie beyond a bound. No condition. And what goes with it: DoSN, LpCt, RwMath, LpRr. -/
import Derived.Below
import Derived.BigQuiet
import Derived.Deep.AppendLies
import Derived.Deep.CutRange
import Derived.Deep.MidRow
import Derived.Deep.Quiet
import Derived.Deep.QuietTactic
import Derived.Deep.RegionHeld3
import Derived.Deep.RegionLaw
import Derived.Deep.RegionWith
import Derived.Deep.Slices
import Derived.Deep.WholeRow
import Derived.Handy
import Derived.Laws.AppendOwn
import Derived.Laws.AppendOwnNone
import Derived.Laws.EntriesVeiled
import Derived.Laws.IdiomCopy
import Derived.Laws.OwnMore
import Derived.LoopIn
import Derived.LoopN
import Derived.LoopNIn
import Derived.Maps.AppendAt
import Derived.Maps.OwnIn
import Derived.OwnWalkIn
import Derived.RangeFuncBound
import Derived.RangeFuncLeaves
import Derived.RangeFuncNested
import Derived.Shelf.Abstract
import Derived.Shelf.SlSortCmp.NoneTotal
import Derived.Sort.Grow
import Derived.TacticsInMore
import Derived.WalkKit
import Derived.WalkLawsBesides
import Derived.WalkSpells
import Derived.Deep.OwnRows
import Derived.Test.YtjjkicffhpcngaaGreatRows
import Derived.Test.YtjjkicffhpcngaaGreatBVbt
namespace Go.Proofs.YtjjkicffhpcngaaGreat
open Go.RowKit
theorem Thr.snoc {w:World} {vs:List Value} {ll:List (List M.D)} {a:Option Addr} {b o c:Nat} {l:List M.D} (h:Thr w vs ll) (hd:DoS w a b o l) (hq:l.length≤c):Thr w (vs++[.slice a l.length c]) (ll++[l]):=by
 have hl:=h.1
 refine ⟨by simp [hl],fun i h1 h2=>?_⟩
 by_cases hi:i < ll.length
 ·rw [List.getElem_append_left (by omega),List.getElem_append_left hi]
  exact h.2 i hi (by omega)
 ·have:i=ll.length:=by simp at h1;omega
  subst this
  have e1:(ll++[l])[ll.length]=l:=by simp
  have e2:(vs++[Value.slice a l.length c])[ll.length]=.slice a l.length c:=by
   rw [List.getElem_append_right (by omega)]
   simp [hl]
  rw [e1,e2]
  exact ⟨a,b,o,c,rfl,hd,hq⟩
end Go.Proofs.YtjjkicffhpcngaaGreat
namespace Go.Proofs.YtjjkicffhpcngaaGreat
open Go.RowKit
set_option maxHeartbeats 4000000 in
set_option maxRecDepth 100000 in
set_option linter.unusedSimpArgs false in
theorem lpCut_any (a:Option Addr) (b c:Nat) (ss:List Sn) (w:World) (hl:ss.length≤117649) (ha:0 < ss.length→a=some ⟨b,0,none⟩) (hc:∀ i (hi:i < ss.length),w.cell? ⟨b,i * 2,none⟩=some (.slice ss[i].a1 ss[i].l1.length ss[i].c1)∧w.cell? ⟨b,i * 2+1,none⟩=some (.slice ss[i].a2 ss[i].l2.length ss[i].c2)∧ss[i].At w∧ss[i].Le 1048576∧ss[i].l1.length≤ss[i].c1∧0 < ss[i].l1.length) :
  Calls Tryz.prog 29 #[.slice a ss.length c] w fun e w'=>∃ v,e=.returned v∧Tld w w' v (M.sortK (ss.map cutK)):=by
 obtain ⟨j0,hj,hy0,hy1,hy2⟩:=info_parts Tryz.infoSn2
 have hemp:(w.alloc (.cells #[] 49)).ownsRow w.heap.size 49 2 (.slice (some ⟨w.heap.size,0,none⟩) 0 0) 0 []:=own_emp (heap_alloc_new w _) (Nat.le_refl _)
 have bE:=below1 w (.cells #[] 49)
 go_enter Tryz.func29,Tryz.ntmps29
 go_wp2_with fail
 go_loopw [3,4] (fun s3 s4 wr=>∃ (n:Nat) (v:Value) (tt:List Sn),v=s3∧s4=.int .i64 n∧n≤ss.length∧Hid (tt.length=n)∧SnL wr w.heap.size v tt∧Hid (kys tt=(ss.take n).map cutK)∧Below w.heap.size w wr) (fun _ s4 _=>ss.length - (intOf s4).toNat)
 case atStart=>exact ⟨0,_,[],rfl,rfl,Nat.zero_le _,rfl,⟨hemp,fun s hs=>(by cases hs),fun s hs=>(by cases hs)⟩,by show _=_;simp [kys],bE⟩
 case round =>
  obtain ⟨n,v,tt,hv8,rfl,hn,HSL,hL,HKY,hb⟩:=hrel
  subst hv8
  clear hemp bE
  by_cases hlt:n < ss.length
  ·have i1:(n:Int) < ss.length:=by omega
   obtain ⟨rfl⟩:=ha (by omega)
   obtain ⟨c1,c2',hsa,hle,hcap,h0⟩:=hc n hlt
   have HKX:Hid ((ss.take (n+1)).map cutK=(ss.take n).map cutK++[cutK ss[n]]):=by show _=_;rw [List.take_succ_eq_append_getElem hlt,List.map_append];rfl
   have hle1:=hle.reads
   generalize ss[n]=s at *
   have hSW:∀ w',Below w.heap.size w w'→w'.cell? ⟨b,n * 2,none⟩=some (.slice s.a1 s.l1.length s.c1)∧w'.cell? ⟨b,n * 2+1,none⟩=some (.slice s.a2 s.l2.length s.c2):=fun w' hb'=>⟨(hb'.cell (p:=⟨b,n * 2,none⟩) (World.block_lt_of_cell? _ _ c1)).trans c1,(hb'.cell (p:=⟨b,n * 2+1,none⟩) (World.block_lt_of_cell? _ _ c2')).trans c2'⟩
   have d1:=(hSW wr hb).1
   obtain ⟨m,hm⟩:∃ m,s.l1.length - 1=m:=⟨_,rfl⟩
   have hmd:s.l1.take m=s.l1.dropLast:=by rw [← hm,List.dropLast_eq_take]
   have hml:m≤s.l1.length:=by omega
   have hmc:m≤s.c1:=by omega
   have e1:(0:Int)≤m:=by omega
   have e2:(m:Int)≤s.c1:=by omega
   clear c1 c2'
   have h00:(0:Int) < s.l1.length:=by omega
   have e5:IntKind.i64.wrap ((s.l1.length:Int) - 1)=m:=by rw [IntKind.wrap_i64];omega
   clear hm
   go_wp2_with fail
   refine wp_region_held_drew (S:=fun w'=>Below w.heap.size w w') (by kernel_rfl) hb.drew (fun hH=>?_)
   refine takeD 0 (some 23) (v) hH rfl rfl (by kernel_rfl) (by kernel_rfl) (by kernel_rfl) (fun _ _ _ h=>h) (Or.inl ⟨by rfl,by intro w' hSw;go_simp⟩) ?_
   simp only [Act.put,List.setIfInBounds_toArray,List.set_cons_zero,List.set_cons_succ]
   refine takeD 1 (some 24) (.slice (some ⟨b,0,none⟩) ss.length c) hH rfl rfl (by kernel_rfl) (by kernel_rfl) (by kernel_rfl) (fun _ _ _ h=>h) (Or.inl ⟨by rfl,by intro w' hSw;go_simp⟩) ?_
   simp only [Act.put,List.setIfInBounds_toArray,List.set_cons_zero,List.set_cons_succ]
   refine takeD 2 (some 25) (.int .i64 n) hH rfl rfl (by kernel_rfl) (by kernel_rfl) (by kernel_rfl) (fun _ _ _ h=>h) (Or.inl ⟨by rfl,by intro w' hSw;go_simp⟩) ?_
   simp only [Act.put,List.setIfInBounds_toArray,List.set_cons_zero,List.set_cons_succ]
   refine takeD 3 (some 26) (.pointer (some ⟨b,n * 2,none⟩)) hH rfl rfl (by kernel_rfl) (by kernel_rfl) (by kernel_rfl) (fun _ _ _ h=>h) (Or.inl ⟨by rfl,by intro w' hSw;go_simp⟩) ?_
   simp only [Act.put,List.setIfInBounds_toArray,List.set_cons_zero,List.set_cons_succ]
   refine takeD 4 (some 27) (.pointer (some ⟨b,n * 2,none⟩)) hH rfl rfl (by kernel_rfl) (by kernel_rfl) (by kernel_rfl) (fun _ _ _ h=>h) (Or.inl ⟨by rfl,by intro w' hSw;go_simp⟩) ?_
   simp only [Act.put,List.setIfInBounds_toArray,List.set_cons_zero,List.set_cons_succ]
   refine takeD 5 (some 28) (.slice s.a1 s.l1.length s.c1) hH rfl rfl (by kernel_rfl) (by kernel_rfl) (by kernel_rfl) (fun _ _ _ h=>h) (Or.inl ⟨by rfl,by intro w' hSw;have hc:=(hSW w' hSw).1;go_simp⟩) ?_
   simp only [Act.put,List.setIfInBounds_toArray,List.set_cons_zero,List.set_cons_succ]
   refine takeD 6 (some 29) (.int .i64 m) hH rfl rfl (by kernel_rfl) (by kernel_rfl) (by kernel_rfl) (fun _ _ _ h=>h) (Or.inl ⟨by rfl,by intro w' hSw;go_simp⟩) ?_
   simp only [Act.put,List.setIfInBounds_toArray,List.set_cons_zero,List.set_cons_succ]
   refine takeD 7 (some 30) (.slice s.a1 m s.c1) hH rfl rfl (by kernel_rfl) (by kernel_rfl) (by kernel_rfl) (fun _ _ _ h=>h) (Or.inl ⟨by rfl,by intro w' hSw;go_simp⟩) ?_
   simp only [Act.put,List.setIfInBounds_toArray,List.set_cons_zero,List.set_cons_succ]
   refine takeD 8 (some 31) (.slice (some ⟨b,0,none⟩) ss.length c) hH rfl rfl (by kernel_rfl) (by kernel_rfl) (by kernel_rfl) (fun _ _ _ h=>h) (Or.inl ⟨by rfl,by intro w' hSw;go_simp⟩) ?_
   simp only [Act.put,List.setIfInBounds_toArray,List.set_cons_zero,List.set_cons_succ]
   refine takeD 9 (some 32) (.int .i64 n) hH rfl rfl (by kernel_rfl) (by kernel_rfl) (by kernel_rfl) (fun _ _ _ h=>h) (Or.inl ⟨by rfl,by intro w' hSw;go_simp⟩) ?_
   simp only [Act.put,List.setIfInBounds_toArray,List.set_cons_zero,List.set_cons_succ]
   refine takeD 10 (some 33) (.pointer (some ⟨b,n * 2,none⟩)) hH rfl rfl (by kernel_rfl) (by kernel_rfl) (by kernel_rfl) (fun _ _ _ h=>h) (Or.inl ⟨by rfl,by intro w' hSw;go_simp⟩) ?_
   simp only [Act.put,List.setIfInBounds_toArray,List.set_cons_zero,List.set_cons_succ]
   refine takeD 11 (some 34) (.pointer (some ⟨b,n * 2+1,none⟩)) hH rfl rfl (by kernel_rfl) (by kernel_rfl) (by kernel_rfl) (fun _ _ _ h=>h) (Or.inl ⟨by rfl,by intro w' hSw;go_simp⟩) ?_
   simp only [Act.put,List.setIfInBounds_toArray,List.set_cons_zero,List.set_cons_succ]
   refine takeD 12 (some 35) (.slice s.a2 s.l2.length s.c2) hH rfl rfl (by kernel_rfl) (by kernel_rfl) (by kernel_rfl) (fun _ _ _ h=>h) (Or.inl ⟨by rfl,by intro w' hSw;have hc:=(hSW w' hSw).2;go_simp⟩) ?_
   simp only [Act.put,List.setIfInBounds_toArray,List.set_cons_zero,List.set_cons_succ]
   refine takeD 13 (some 36) (.agg #[.slice s.a1 m s.c1,.slice s.a2 s.l2.length s.c2]) hH rfl rfl (by kernel_rfl) (by kernel_rfl) (by kernel_rfl) (fun _ _ _ h=>h) (Or.inl ⟨by rfl,by intro w' hSw;go_simp⟩) ?_
   simp only [Act.put,List.setIfInBounds_toArray,List.set_cons_zero,List.set_cons_succ]
   refine wpAnyH_ready (rs:=[14]) (by kernel_rfl) (by simp) ?_
   refine AllReadyH.cons rfl (fun K' hK=>?_) AllReadyH.nil
   rw [if_pos (by rfl)]
   go_simp
   have bJ:Below w.heap.size w (wr.drew.alloc (.cells #[.slice s.a1 m s.c1,.slice s.a2 s.l2.length s.c2] 49)):=hb.drew.alloc hb.size _
   refine hK.out _ _ bJ (fun hHb=>?_)
   clear hK K'
   refine wpAnyH_ready (rs:=[15]) (by kernel_rfl) (by simp) ?_
   refine AllReadyH.cons rfl (fun K' hK=>?_) AllReadyH.nil
   have hLI:SnL wr.drew w.heap.size v tt:=hL.below (Below.refl wr.heap.size wr).drew
   refine step_append_sn (by rfl) (.tmp 23) (.tmp 37) 29 rfl (some 38) rfl w.heap.size 49 j0 _ 48 Tryz.underlying29 hj hy0 hy1 hy2 rfl v tt.length (cellsS tt) (by rfl) (hLI.own.alloc _) bJ.size wr.heap.size (.slice s.a1 m s.c1) (.slice s.a2 s.l2.length s.c2) (by rfl) (alloc_cell0 wr.drew _ _) (alloc_cell1 wr.drew _ _) rfl rfl (by have:=HSL.out;unfold maxLen;omega) (by have:=HSL.out;omega) ?_
   intro v2 w2 hown2 hg2 hat2
   have hsn:(⟨s.a1,s.b1,s.o1,s.c1,s.l1.take m,s.a2,s.b2,s.o2,s.c2,s.l2⟩:Sn).At wr.drew:=⟨((hsa.reads.take m).below hb (Nat.le_refl _)).below (Below.refl wr.heap.size wr).drew (Nat.le_refl _),(hsa.last.below hb (Nat.le_refl _)).below (Below.refl wr.heap.size wr).drew (Nat.le_refl _)⟩
   have htm:(s.l1.take m).length=m:=by rw [List.length_take];omega
   have hL2:=hLI.snoc (s:=(⟨s.a1,s.b1,s.o1,s.c1,s.l1.take m,s.a2,s.b2,s.o2,s.c2,s.l2⟩:Sn)) hsn (fun k hk e=>by
    have hlt2:=hL.own.lt k e
    rcases hk with ⟨h0,h1⟩ | ⟨h0,h1⟩
    ·have h0':0 < (s.l1.take m).length:=h0
     have h5:k < w.heap.size:=by rw [h1];exact hsa.reads.lt (by omega)
     omega
    ·have h5:k < w.heap.size:=by rw [h1];exact hsa.last.lt h0
     omega) (by simp only [htm];exact hown2) hg2 (by
    rcases hat2 with h | h
    ·exact .inl h
    ·right;rw [h];simp)
   have b2:Below w.heap.size w w2:=below_grown bJ hg2 (fun j hj=>(hL.own.lt j hj).1) bJ.size
   clear hown2 hg2 hat2
   refine hK.out _ _ b2 (fun hHc=>?_)
   clear hK K'
   simp only [Act.put,List.setIfInBounds_toArray,List.set_cons_zero,List.set_cons_succ]
   refine takeD 16 (some 3) (v2) hHc rfl rfl (by kernel_rfl) (by kernel_rfl) (by kernel_rfl) (fun _ _ _ h=>h) (Or.inl ⟨by rfl,by intro w' hSw;go_simp⟩) ?_
   simp only [Act.put,List.setIfInBounds_toArray,List.set_cons_zero,List.set_cons_succ]
   refine wpAnyH_done (by kernel_rfl) ?_ _
   go_wp2_with fail
   exact ⟨⟨n+1,v2,_,rfl,by go_num,by omega,by show _=_;rw [List.length_append,HSL.out];rfl,hL2,by show kys _=_;rw [kys,List.map_append,← kys,HKY.out,HKX.out];simp only [List.map_cons,List.map_nil,Sn.ky,cutK];rw [hmd],b2⟩,by simp [intOf];omega⟩
  ·have i1:¬ (n:Int) < ss.length:=by omega
   obtain ⟨ax,gx,cx,rfl,hKS⟩:=hL.ks
   have htk:ss.take n=ss:=List.take_of_length_le (by omega)
   rw [HKY.out,htk] at hKS
   have hsn:tt.length=(ss.map cutK).length:=by rw [HSL.out,List.length_map];omega
   have hK3:KLe (ss.map cutK) 1048576:=fun z hz=>by
    obtain ⟨s,hs,rfl⟩:=List.mem_map.1 hz
    obtain ⟨i,hi,rfl⟩:=List.getElem_of_mem hs
    have:=(hc i hi).2.2.2.1
    exact ⟨by have:=this.reads;simp only [cutK,List.length_dropLast];omega,this.last⟩
   have CQ:=iseenSort_any ax gx 0 cx (ss.map cutK) wr (by rw [List.length_map];omega) hK3 hKS
   rw [hsn]
   obtain ⟨kp,hkp⟩:∃ kp,ss.map cutK=kp:=⟨_,rfl⟩
   have HKP:Hid (ss.map cutK=kp):=hkp
   rw [hkp] at CQ hKS hsn ⊢
   clear HKY hsn hkp hK3
   go_wp2_with fail
   refine CQ.mono ?_
   rintro e w3 ⟨a',g,c',uu,rfl,hku,hN,_,_,b3⟩
   go_wp2_with fail
   go_ret
   have hks:=hN.ks
   rw [hku] at hks
   refine ⟨.slice a' uu.length c',rfl,⟨a',g,c',?_,?_⟩,hb.trans (b3.mono hb.size)⟩
   ·rw [HKP.out,← hku,kys_len]
   ·rw [HKP.out];exact hks
end Go.Proofs.YtjjkicffhpcngaaGreat
namespace Go.Proofs.YtjjkicffhpcngaaGreat
namespace M
section
variable {ds : List De} {x : De}
end
section
variable {ll mm : List (List D)} {x : De}
end
theorem deeds_thread (ll:List (List D)) (d:D) (hd:d.k≠9):∃ x:De,x.d=d∧deeds (ll++[[d]])=deeds ll++[x]:=by
 obtain ⟨x,h1,h2⟩:=deT_snoc (0+ll.length) d hd [] 0 (-1) (0+(deF 0 0 ll).length)
 refine ⟨x,h1,?_⟩
 unfold deeds
 rw [deF_append]
 simp only [deF,List.append_nil]
 rw [List.nil_append] at h2
 rw [h2]
 simp [deT]
theorem all_reader {ll:List (List D)} {p:Int} (hp:prog ll=true) (hq:prog (ll++[[⟨2,p,0⟩]])=true) (h0:0≤p) (h3:p < 3) (k:Int):sortK ((orderAll (ll++[[⟨2,p,0⟩]]) k).map fun z=>(z.1.dropLast,z.2))=orderAll ll k∧∀ z∈orderAll (ll++[[⟨2,p,0⟩]]) k,0 < z.1.length:=by
 obtain ⟨x,h1,h2⟩:=deeds_thread ll ⟨2,p,0⟩ (by simp)
 exact ⟨read_all hp hq h2 (by rw [h1]) (by rw [h1];exact ⟨h0,h3⟩) k,read_some hq hp h2 (by rw [h1])⟩
end M
end Go.Proofs.YtjjkicffhpcngaaGreat
namespace Go.Proofs.YtjjkicffhpcngaaGreat
open Go.RowKit
structure ReadAns (w w':World) (qq:List (List M.D)) (v:Value):Prop where
 ex:∃ qa g' qc,v=.tuple #[.agg #[.slice qa qq.length qc],.bool (M.prog qq)]∧DoSS w' qa g' 0 qq
 bel:Below w.heap.size w w'
set_option maxHeartbeats 2000000 in
set_option maxRecDepth 100000 in
theorem lpReader_any (g c:Nat) (ll:List (List M.D)) (pl:Int) (vs:List Value) (w:World) (hpos:0 < ll.length) (hl:ll.length≤1000) (hls:∀ t∈ll,t.length≤1048576) (hT:Thb w g vs ll) :
  Calls Tryz.prog 28 #[.agg #[.slice (some ⟨g,0,none⟩) ll.length c],.int .i64 pl] w fun e w'=>∃ v,e=.returned v∧ReadAns w w' (ll++[[⟨2,pl,0⟩]]) v:=by
 obtain ⟨i0,hi,hz0,hz1,hz2⟩:=info_parts Tryz.info41
 have b1:=below2 w (.cells #[.slice (some ⟨g,0,none⟩) ll.length c] 25) (.cells #[.slice none 0 0] 25)
 have hP:Slot1 ((w.alloc (.cells #[.slice (some ⟨g,0,none⟩) ll.length c] 25)).alloc (.cells #[.slice none 0 0] 25)) w.heap.size (.slice (some ⟨g,0,none⟩) ll.length c):=⟨by simp,by simp⟩
 have hR:Slot1 ((w.alloc (.cells #[.slice (some ⟨g,0,none⟩) ll.length c] 25)).alloc (.cells #[.slice none 0 0] 25)) (w.heap.size+1) (.slice none 0 0):=by
  have:=Slot1.new (w.alloc (.cells #[.slice (some ⟨g,0,none⟩) ll.length c] 25)) (.slice none 0 0) 25
  rwa [World.size_alloc] at this
 have hT1:=hT.below b1
 obtain ⟨W1,hW1⟩:∃ W1,(w.alloc (.cells #[.slice (some ⟨g,0,none⟩) ll.length c] 25)).alloc (.cells #[.slice none 0 0] 25)=W1:=⟨_,rfl⟩
 have hz:Hid (W1.heap.size=w.heap.size+1+1):=by show _=_;rw [← hW1];simp
 have HW1:Hid ((w.alloc (.cells #[.slice (some ⟨g,0,none⟩) ll.length c] 25)).alloc (.cells #[.slice none 0 0] 25)=W1):=hW1
 rw [hW1] at b1 hP hR hT1
 clear hW1
 have p0:=hP.c
 have hvl:=hT1.thr.1
 have hgl:g < W1.heap.size:=World.block_lt_of_cell? _ _ (hT1.cell 0 (by omega))
 have hPl:=hP.lt
 have hRl:=hR.lt
 have hown2:(((w.alloc (.cells #[.slice (some ⟨g,0,none⟩) ll.length c] 25)).alloc (.cells #[.slice none 0 0] 25)).alloc (.cells #[] 41)).ownsRow W1.heap.size 41 1 (.slice (some ⟨w.heap.size+1+1,0,none⟩) 0 0) 0 []:=by
  rw [HW1.out,← hz.out]
  exact World.ownsRow_made W1 _ 0 (Nat.le_refl _) (Nat.zero_le _) rfl
 have hcs:∀ j u,vs[j]?=some u→(((w.alloc (.cells #[.slice (some ⟨g,0,none⟩) ll.length c] 25)).alloc (.cells #[.slice none 0 0] 25)).alloc (.cells #[] 41)).cell? ((⟨g,0,none⟩:Addr).add j)=some u:=by
  intro j u hj
  have hjl:=M.lt_of_get hj
  rw [List.getElem?_eq_getElem hjl] at hj
  obtain ⟨rfl⟩:=hj
  rw [HW1.out,Go.WideShapes.add_plain,World.cell?_alloc_past _ _ _ hgl,Nat.zero_add]
  exact hT1.cell j hjl
 go_enter Tryz.func28,Tryz.ntmps28
 go_wp2_with (at_builtin;refine wpList_append_own _ rfl (.tmp 7) (.tmp 9) 23 rfl W1.heap.size 41 i0 _ 1 24 Tryz.underlying23 hi hz0 hz1 hz2 rfl (by decide) _ _ _ rfl hown2 ⟨g,0,none⟩ ll.length c vs rfl (by omega) hcs (fun y hy=>hT1.thr.one y hy) (by unfold maxLen;omega) (by omega) (by rw [HW1.out];simp) ?_)
 intro v5 w5 hown5 hg5 _
 rw [HW1.out] at hg5
 have b5:Below W1.heap.size W1 w5:=below_grown (below1 W1 _) hg5 (fun k hk=>by have:=hz.out;simp [Value.ownBlock] at hk;omega)
 have hown5':w5.ownsRow W1.heap.size 41 1 v5 ll.length vs:=by simpa using hown5
 have s5:=b5.size
 clear hown5 hg5 hown2 hcs
 have hown6:=(hown5'.alloc (.cells #[.int .i64 2,.int .i64 pl,.int .i64 0] 43)).alloc (.cells #[.slice (some ⟨w5.heap.size,0,none⟩) 1 1] 41)
 have b6:=below2 w5 (.cells #[.int .i64 2,.int .i64 pl,.int .i64 0] 43) (.cells #[.slice (some ⟨w5.heap.size,0,none⟩) 1 1] 41)
 have k6:((w5.alloc (.cells #[.int .i64 2,.int .i64 pl,.int .i64 0] 43)).alloc (.cells #[.slice (some ⟨w5.heap.size,0,none⟩) 1 1] 41)).cell? ⟨w5.heap.size+1,0,none⟩=some (.slice (some ⟨w5.heap.size,0,none⟩) 1 1):=by simp
 have z6:((w5.alloc (.cells #[.int .i64 2,.int .i64 pl,.int .i64 0] 43)).alloc (.cells #[.slice (some ⟨w5.heap.size,0,none⟩) 1 1] 41)).heap.size=w5.heap.size+2:=by simp
 have hd6:((w5.alloc (.cells #[.int .i64 2,.int .i64 pl,.int .i64 0] 43)).alloc (.cells #[.slice (some ⟨w5.heap.size,0,none⟩) 1 1] 41)).heap[w5.heap.size]?=some (.cells #[.int .i64 2,.int .i64 pl,.int .i64 0] 43 (0,0)) :=
  ((below1 (w5.alloc (.cells #[.int .i64 2,.int .i64 pl,.int .i64 0] 43)) (.cells #[.slice (some ⟨w5.heap.size,0,none⟩) 1 1] 41)).block _ (by simp)).trans (heap_alloc_new w5 (.cells #[.int .i64 2,.int .i64 pl,.int .i64 0] 43))
 go_wp2_with (at_builtin;refine wpList_append_own _ rfl (.tmp 10) (.tmp 14) 23 rfl W1.heap.size 41 i0 _ 1 24 Tryz.underlying23 hi hz0 hz1 hz2 rfl (by decide) _ _ _ rfl hown6 ⟨w5.heap.size+1,0,none⟩ 1 1 [.slice (some ⟨w5.heap.size,0,none⟩) 1 1] rfl (by rfl) ?c2 (fun y hy=>by rw [List.mem_singleton.1 hy];rfl) (by unfold maxLen;omega) (by omega) (by rw [z6];omega) ?_)
 case c2 =>
  intro j u hj
  have hjl:=M.lt_of_get hj
  obtain rfl:j=0:=by simp at hjl;omega
  obtain rfl:Value.slice (some ⟨w5.heap.size,0,none⟩) 1 1=u:=by simpa using hj
  rw [Go.WideShapes.add_plain]
  exact k6
 intro v7 w7 hown7 hg7 _
 have b7:Below W1.heap.size W1 w7:=below_grown (b5.trans (b6.mono b5.size)) hg7 (fun k hk=>(hown5'.lt k hk).1) (by simp;omega)
 have hd7:w7.heap[w5.heap.size]?=some (.cells #[.int .i64 2,.int .i64 pl,.int .i64 0] 43 (0,0)):=(hg7.block _ (by rw [z6];omega) (fun e=>by have:=(hown5'.lt w5.heap.size (by first | exact e | exact e.symm)).2;omega)).trans hd6
 obtain ⟨a8,c8,rfl⟩:=own_slx hown7
 have hT7:Thr w7 (vs++[.slice (some ⟨w5.heap.size,0,none⟩) 1 1]) (ll++[[⟨2,pl,0⟩]]):=(hT1.thr.below b7 (Nat.le_refl _)).snoc (l:=[⟨2,pl,0⟩]) (DoS.of_block hd7) (Nat.le_refl _)
 obtain ⟨a9,g9,c9,e9,hss⟩:=hT7.ss (B:=W1.heap.size) (by rw [List.length_append];exact hown7)
 simp only [Value.slice.injEq] at e9
 obtain ⟨rfl,hx9,rfl⟩:=e9
 have HQN:Hid ((ll++[[(⟨2,pl,0⟩:M.D)]]).length=ll.length+1):=by show _=_;simp
 have hqb:∀ t∈ll++[[(⟨2,pl,0⟩:M.D)]],t.length≤1048576:=fun t ht=>by
  rcases List.mem_append.1 ht with h | h
  ·exact hls t h
  ·rw [List.mem_singleton.1 h];simp
 have hql:(ll++[[(⟨2,pl,0⟩:M.D)]]).length≤1048576:=by rw [HQN.out];omega
 have b8:=below1 w7 (.cells #[.slice a8 (ll.length+1) c8] 25)
 have qB:=Slot1.new w7 (.slice a8 (ll.length+1) c8) 25
 have b78:=b7.trans (b8.mono b7.size)
 have hR8:=hR.bel b78
 have hss8:=hss.below b8 (Nat.le_refl _)
 have hRq:¬ w.heap.size+1=w7.heap.size:=by have:=b7.size;have:=hz.out;omega
 have hRq2:¬ w7.heap.size=w.heap.size+1:=fun e=>hRq e.symm
 have hown9:=ownsRow_below hown7 b8
 have hL7:w5.heap.size < w7.heap.size:=(Array.getElem?_eq_some_iff.1 hd7).1
 have hd9:=(b8.block _ hL7).trans hd7
 have hLR:w5.heap.size≠w.heap.size+1:=by omega
 have HOW:Hid (_∧_):=⟨hown9,hd9⟩
 clear hx9 hown6 hown7 hg7 k6 hT7 hd6 hd7 z6 b6 hown5' p0 hP hown9 hd9 hss
 go_wp2_with fail
 generalize w7.alloc (.cells #[.slice a8 (ll.length+1) c8] 25)=W9 at *
 generalize w7.heap.size=Q at *
 obtain ⟨qq,hqq⟩:∃ qq,ll++[[(⟨2,pl,0⟩:M.D)]]=qq:=⟨_,rfl⟩
 have HQQ:Hid (ll++[[(⟨2,pl,0⟩:M.D)]]=qq):=hqq
 rw [hqq] at hss8 HQN hqb hql
 clear hqq
 have CPr:=sprog_any a8 g9 0 c8 qq _ hql hqb (hss8.below (Below.refl _ _).drew (Nat.le_refl _))
 obtain ⟨pr,hpr⟩:∃ pr,M.prog qq=pr:=⟨_,rfl⟩
 have HPR:Hid (M.prog qq=pr):=hpr
 rw [hpr,HQN.out] at CPr
 clear hpr
 have p5:=qB.c
 have q5:=hR8.c
 have qf5:=hR8.fz
 go_region_held3 (fun z=>z.cell? ⟨Q,0,none⟩=some (.slice a8 (ll.length+1) c8)) (go_keep) (first
  | (go_at_call 27;refine CPr.mono ?_;rintro e W5 ⟨rfl,b5x⟩;have b95:=(Below.refl W9.heap.size W9).drew.trans (b5x.mono (Below.refl W9.heap.size W9).drew.size);have hQ5:=qB.bl' b95;have hR5:=hR8.bel b95;have p6:=hQ5.c;have q6:=hR5.c;have qf6:=hR5.fz))
 go_wp2_with fail
 have q1:=(hR5.set (.slice a8 (ll.length+1) c8)).c
 have bw:=b1.trans ((b78.trans (b95.mono b78.size)).mono b1.size)
 have hb9:w.heap.size+1 < W9.heap.size:=hR8.lt
 have bwF:=bw.setCell (p:=⟨w.heap.size+1,0,none⟩) (by show w.heap.size≤w.heap.size+1;omega) (.slice a8 (ll.length+1) c8)
 obtain ⟨hownX,hdX⟩:=HOW.out
 have hownF:=ownsRow_far (ownsRow_below hownX b95) (b:=w.heap.size+1) (i:=0) hRl (.slice a8 (ll.length+1) c8)
 have hdF:=(heap_setCell_other W5 ⟨w.heap.size+1,0,none⟩ w5.heap.size (.slice a8 (ll.length+1) c8) (fun e=>hLR e)).trans ((b95.block _ (Array.getElem?_eq_some_iff.1 hdX).1).trans hdX)
 have hTF:Thr (W5.setCell ⟨w.heap.size+1,0,none⟩ (.slice a8 (ll.length+1) c8)) (vs++[.slice (some ⟨w5.heap.size,0,none⟩) 1 1]) (ll++[[⟨2,pl,0⟩]]):=(hT.thr.below bwF (Nat.le_refl _)).snoc (l:=[⟨2,pl,0⟩]) (DoS.of_block hdF) (Nat.le_refl _)
 obtain ⟨a9,g9',c9,e9,hssF⟩:=hTF.ss (B:=W1.heap.size) (by rw [List.length_append];exact hownF)
 simp only [Value.slice.injEq] at e9
 obtain ⟨rfl,_,rfl⟩:=e9
 refine bodyPost_ret (v:=.tuple #[.agg #[.slice a8 (ll.length+1) c8],.bool pr]) (by simp [results,Tryz.results28,go_sem,q1]) rfl ⟨_,rfl,⟨_,g9',_,by rw [HQQ.out,HPR.out,HQN.out],hssF⟩,bwF⟩
end Go.Proofs.YtjjkicffhpcngaaGreat
