/- spec.ExecAll: all ways are told, in order, each in rows of its own. Of at most 1048576 threads and steps. -/
import Derived.Test.YtmhpgdliaclokaaGreatRows
import Derived.Test.YtmhpgdliaclokaaGreatQyao
import Derived.Test.YtmhpgdliaclokaaGreatQyaw
namespace Go.Proofs.YtmhpgdliaclokaaGreat
section
open Go.RowKit
structure RXL (w:World) (base:Nat) (v:Value) (cs:List Value) (n:Nat) (xs:List M.Wy):Prop where
 own:w.ownsRow base 29 2 v n cs
 len:Hid (xs.length=n)
 row:∀ i (h:i < xs.length),∃ fv ov rc,cs[i * 2]?=some fv∧cs[i * 2+1]?=some ov∧Xw w base fv ov xs[i].1 rc xs[i].2∧Xoff fv ov rc v.ownBlock
theorem RXL.zero {W:World} {base g:Nat} (h:W.heap[g]?=some (.cells #[] 29 (0,0))) (hb:base≤g):RXL W base (.slice (some ⟨g,0,none⟩) 0 0) [] 0 [] :=
 ⟨⟨by simp,.inr ⟨g,0,#[],rfl,hb,h,Nat.le_refl _,Nat.zero_le _,by simp,by simp⟩⟩,by show _=_;rfl,fun _ hi=>absurd hi (Nat.not_lt_zero _)⟩
theorem RXL.below {w w':World} {base n:Nat} {v:Value} {cs:List Value} {xs:List M.Wy} (h:RXL w base v cs n xs) (hb:Below w.heap.size w w'):RXL w' base v cs n xs :=
 ⟨ownsRow_below h.own hb,h.len,fun i hi=>by
  obtain ⟨fv,ov,rc,e1,e2,e3,e4⟩:=h.row i hi
  exact ⟨fv,ov,rc,e1,e2,e3.below hb,e4⟩⟩
theorem RXL.snoc {w W w':World} {base n:Nat} {v:Value} {cs:List Value} {xs:List M.Wy} (h:RXL w base v cs n xs) (hb:Below w.heap.size w W) {fv ov:Value} {l:List Int} {rc:List Value} {rows:List (List Int)} {g cap:Nat} (hx:Xw W base fv ov l rc rows) (ho:Xoff fv ov rc v.ownBlock)
  (hown:w'.ownsRow base 29 2 (.slice (some ⟨g,0,none⟩) (n+1) cap) (n+1) (cs++[fv,ov])) (hg:W.grownBy w' v.ownBlock) (hat:v.ownBlock=some g∨g=W.heap.size):RXL w' base (.slice (some ⟨g,0,none⟩) (n+1) cap) (cs++[fv,ov]) (n+1) (xs++[(l,rows)]):=by
 have hcl:cs.length=n * 2:=h.own.1
 have hW:=h.below hb
 have hl:=h.len.out
 refine ⟨hown,by show _=_;simp [hl],fun i hi=>?_⟩
 rcases Nat.lt_or_ge i xs.length with h1 | h1
 ·obtain ⟨fv',ov',rc',e1,e2,e3,e7⟩:=hW.row i h1
  rw [List.getElem_append_left h1]
  exact ⟨fv',ov',rc',by rw [List.getElem?_append_left (by omega)];exact e1,by rw [List.getElem?_append_left (by omega)];exact e2,e3.grown hg e7,e7.turn e3 hat⟩
 ·have hie:i=n:=by simp at hi;omega
  subst hie
  rw [List.getElem_append_right h1]
  refine ⟨fv,ov,rc,?_,?_,?_,ho.turn hx hat⟩
  ·rw [List.getElem?_append_right (by omega),hcl];simp
  ·rw [List.getElem?_append_right (by omega),hcl];simp
  ·simpa [hl] using hx.grown hg ho
def M.specAll (ll:List (List M.D)):List M.Wy:=if M.prog ll then M.allWays (M.deeds ll) else []
structure SxaAns (w w':World) (ll:List (List M.D)) (v:Value):Prop where
 ex:∃ cs n,RXL w' w.heap.size v cs n (M.specAll ll)∧n≤5489031744
 bel:Below w.heap.size w w'
theorem M.part_step {os:List (List (List Int))} {k:Nat} {f:List Int} (h:k < os.length):(os.take (k+1)).map (fun o=>((f,o):M.Wy))=(os.take k).map (fun o=>((f,o):M.Wy))++[(f,os[k])]:=by
 rw [List.take_succ_eq_append_getElem h,List.map_append];rfl
theorem M.fall_step {F:List Int→List M.Wy} {fs:List (List Int)} {i:Nat} (h:i < fs.length):(fs.take (i+1)).flatMap F=(fs.take i).flatMap F++F fs[i]:=by
 rw [List.take_succ_eq_append_getElem h,List.flatMap_append];simp
theorem M.flatMap_congr {α β:Type} {F G:α→List β}:∀ {l:List α},(∀ x∈l,F x=G x)→l.flatMap F=l.flatMap G
 | [],_=>rfl
 | x::l,h=>by rw [List.flatMap_cons,List.flatMap_cons,h x (by simp),M.flatMap_congr (fun y hy=>h y (List.mem_cons_of_mem _ hy))]
theorem M.spec_all {ll:List (List M.D)} (hp:M.prog ll=true):M.specAll ll=(M.fromsOf (M.deeds ll) (M.deeds ll).length []).flatMap (fun f=>if M.vEnds (M.deeds ll) f 0 (M.deeds ll) then (M.ordersOf (M.deeds ll)).map (fun o=>((f,o):M.Wy)) else []):=by
 unfold M.specAll M.allWays
 rw [if_pos hp]
 refine M.flatMap_congr fun f hf=>?_
 have h1:f.length=(M.deeds ll).length:=by have:=M.fromsOf_each _ _ _ _ hf;simpa using this
 rw [M.vEnds_eq (M.froms_in hf) (M.deed_v hp) h1]
set_option maxHeartbeats 4000000 in
set_option maxRecDepth 100000 in
theorem sexecAllW_any (a:Option Addr) (b o c:Nat) (ll:List (List M.D)) (w:World) (hl:ll.length≤1048576) (hls:∀ t∈ll,t.length≤1048576) (h:DoSS w a b o ll) :
  Calls Tryz.prog 51 #[.agg #[.slice a ll.length c]] w fun e w'=>∃ v,e=.returned v∧SxaAns w w' ll v:=by
 obtain ⟨i0,hi,hz0,hz1,hz2⟩:=info_parts Tryz.infoInt
 obtain ⟨j0,hj,hy0,hy1,hy2⟩:=info_parts Tryz.infoRs
 obtain ⟨q0,hq,hq0,hq1,hq2⟩:=info_parts Tryz.infoExec
 have hb2:=below2 w (.cells #[.slice a ll.length c] 25) (.cells #[] 29)
 have kp:((w.alloc (.cells #[.slice a ll.length c] 25)).alloc (.cells #[] 29)).cell? ⟨w.heap.size,0,none⟩=some (.slice a ll.length c):=by simp
 have kG:((w.alloc (.cells #[.slice a ll.length c] 25)).alloc (.cells #[] 29)).heap[w.heap.size+1]?=some (.cells #[] 29 (0,0)):=alloc_new _ _ _ (by simp)
 replace h:=h.below hb2 (Nat.le_refl _)
 go_enter Tryz.func51,Tryz.ntmps51
 go_wp2_with fail
 generalize (w.alloc (.cells #[.slice a ll.length c] 25)).alloc (.cells #[] 29)=W at *
 have lw:w.heap.size < W.heap.size:=World.block_lt_of_cell? _ _ kp
 have lG:w.heap.size+1 < W.heap.size:=by
  rcases Nat.lt_or_ge (w.heap.size+1) W.heap.size with h1 | h1
  ·exact h1
  ·rw [Array.getElem?_eq_none (by omega)] at kG;cases kG
 have C1:=sprog_any a b o c ll W hl hls h
 cases hp:M.prog ll
 ·rw [hp] at C1
  refine C1.mono ?_
  rintro e w1 ⟨rfl,hb1⟩
  have kG1:=(hb1.block (w.heap.size+1) lG).trans kG
  go_wp2_with fail
  go_ret
  have hsp:M.specAll ll=[]:=by simp [M.specAll,hp]
  exact ⟨_,rfl,⟨[],0,by rw [hsp];exact RXL.zero kG1 (by omega),by omega⟩,hb2.trans (hb1.mono hb2.size)⟩
 ·rw [hp] at C1
  obtain ⟨h3,h7⟩:=M.prog_bounds hp
  have hdl:=M.deeds_len h3 h7
  have HE:Hid (M.evAll ll=(M.deeds ll).map M.De.ev):=by show _=_;simp [M.evAll,hp,M.events]
  refine C1.mono ?_
  rintro e w1 ⟨rfl,hb1⟩
  have kp1:=(hb1.cell (p:=⟨w.heap.size,0,none⟩) lw).trans kp
  go_wp2_with fail
  refine (sexecEvents_any a b o c ll w1 hl hls (h.below hb1 (Nat.le_refl _))).mono ?_
  rintro e w2 ⟨v2,rfl,hown2,hb3⟩
  obtain ⟨va,g,cap,rfl,hev,_,_⟩:=own_rs M.Ev.len hown2
  rw [HE.out] at hev
  have hd:=DvS.of hev
  have hle:(M.evAll ll).length=(M.deeds ll).length:=by rw [HE.out,List.length_map]
  rw [hle]
  have hb12:=hb1.trans (hb3.mono hb1.size)
  have kp2:=(hb12.cell (p:=⟨w.heap.size,0,none⟩) lw).trans kp
  have kG2:=(hb12.block (w.heap.size+1) lG).trans kG
  have h2:=h.below hb12 (Nat.le_refl _)
  have lw2:=Nat.lt_of_lt_of_le lw hb12.size
  have lG2:=Nat.lt_of_lt_of_le lG hb12.size
  have hF6:=M.froms6 hp
  have hO6:=M.orders6 hp
  have HF:Hid (([]:List (List Int)).length+(M.fromsOf (M.deeds ll) (M.deeds ll).length []).length≤1099511627776):=by show _≤_;simp only [List.length_nil];omega
  have C2:=l12Froms_any a b o c ll va g cap w2 hl hls hdl h2 hd (M.deeds ll).length none 0 0 0 [] (.slice none 0 0) [] [] w2 (by show _=_;simp) HF (Below.refl _ _) (IntS.nil _ _ _ _) (fun _=>rfl) (fun h=>absurd h (Nat.lt_irrefl _)) (RR.nil _ _)
  clear hown2 hev hle kp kp1 HE C1 HF
  go_wp2_with fail
  refine C2.mono ?_
  rintro e w3 ⟨vf,cf,rfl,hM⟩
  have hRf:=hM.rr
  rw [List.nil_append] at hRf
  have hb4:=grown_below (show w2.grownBy w3 none from hM.grown)
  have kp3:=(hb4.cell (p:=⟨w.heap.size,0,none⟩) lw2).trans kp2
  have C3:=l12Orders_any a b o c ll va g cap w3 hl hls hdl (fun p=>M.wr6 (M.use6 hp) p) (M.ordK6 hp) (h2.below hb4 (Nat.le_refl _)) (hd.bel hb4 (Nat.le_refl _))
  clear hM C2
  go_wp2_with fail
  refine C3.mono ?_
  rintro e WB ⟨vo,co,rfl,hRo,hb5⟩
  have kpB:=(hb5.cell (p:=⟨w.heap.size,0,none⟩) (Nat.lt_of_lt_of_le lw2 hb4.size)).trans kp3
  have hb25:=hb4.trans (hb5.mono hb4.size)
  have kGB:=(hb25.block (w.heap.size+1) lG2).trans kG2
  have hDoB:=h2.below hb25 (Nat.le_refl _)
  have hDvB:=hd.bel hb25 (Nat.le_refl _)
  have hRfB:=hRf.below hb5
  have hbWB:Below w.heap.size w WB:=(hb2.trans (hb12.mono hb2.size)).trans (hb25.mono (Nat.le_trans (Nat.le_of_lt lw2) (Nat.le_refl _)))
  have lGB:w.heap.size+1 < WB.heap.size:=Nat.lt_of_lt_of_le lG2 hb25.size
  have HIN:=fun r=>M.froms_in (ll:=ll) (r:=r)
  have HALL:Hid (M.specAll ll=(M.fromsOf (M.deeds ll) (M.deeds ll).length []).flatMap (fun f=>if M.vEnds (M.deeds ll) f 0 (M.deeds ll) then (M.ordersOf (M.deeds ll)).map (fun o=>((f,o):M.Wy)) else [])):=M.spec_all hp
  have HFL:∀ r∈M.fromsOf (M.deeds ll) (M.deeds ll).length [],r.length=(M.deeds ll).length:=fun r hr=>by have:=M.fromsOf_each _ _ _ _ hr;simpa using this
  have HOL:∀ os∈M.ordersOf (M.deeds ll),os.length=3:=fun os ho=>M.ordK_each (M.deeds ll) 3 os ho
  have HOR:∀ os∈M.ordersOf (M.deeds ll),∀ r∈os,r.length≤6:=M.ordK_len6 (M.wr6 (M.use6 hp)) 3
  have CE:=fun (fa:Option Addr) (fb fo fc:Nat) (l:List Int) (ra:Value) (W:World) (hw:Keeps WB W) (hL:Hid (l.length=(M.deeds ll).length)) (hin:M.In (M.deeds ll) l) (hf:IntS W fa fb fo l)=>l12Ends_any a b o c ll va g cap fa fb fo fc l ra W hl hls hdl hL hin (hDoB.keeps hw) (hDvB.keeps hw) hf
  clear C3 hb5 hb25 hb4 hb12 hb3 hb1 hRf kp3 kp2 kG2 kG h2 hd h hb2 lw lG lw2 lG2 hDoB hDvB
  have hfl:∀ r∈M.fromsOf (M.deeds ll) (M.deeds ll).length [],Hid (r.length=(M.deeds ll).length)∧M.In (M.deeds ll) r:=fun r hr=>⟨HFL r hr,HIN r hr⟩
  generalize M.fromsOf (M.deeds ll) (M.deeds ll).length []=fs at *
  generalize M.ordersOf (M.deeds ll)=os at *
  generalize M.deeds ll=ds at *
  obtain ⟨vaf,gf,ccf,rfl,hfa,hfcell⟩:=own_vals hRfB.own
  obtain ⟨vao,go,cco,rfl,hoa,hocell⟩:=own_vals hRo.own
  clear HIN HFL
  go_wp2_with fail
  go_loopw [3,7] (fun s3 s7 wr=>∃ (i n:Nat) (cs:List Value) (xs:List M.Wy),s7=.int .i64 i∧i≤fs.length∧n≤i * 46656∧Hid (xs=(fs.take i).flatMap (fun f=>if M.vEnds ds f 0 ds then os.map (fun o=>((f,o):M.Wy)) else []))∧RXL wr w.heap.size s3 cs n xs∧WB.grownBy wr (some (w.heap.size+1))∧(∀ k,s3.ownBlock=some k→k=w.heap.size+1∨WB.heap.size≤k)) (fun _ s7 _=>fs.length - (intOf s7).toNat)
  case atStart=>exact ⟨0,0,[],[],rfl,Nat.zero_le _,by omega,by show _=_;rfl,RXL.zero kGB (by omega),grown_refl _ _,fun k hk=>.inl (Option.some.inj hk).symm⟩
  case round =>
   obtain ⟨i,n,cs,xs,rfl,hi',hn,HXS,hR,hg,hat⟩:=hrel
   by_cases hlt:i < fs.length
   ·have i1:(i:Int) < fs.length:=by omega
    obtain ⟨HLi,HIi⟩:=hfl _ (List.getElem_mem hlt)
    obtain ⟨fa,fb,fc,e1,hfI,hfac,_⟩:=hRfB.row i hlt
    have kf0:=hfcell i _ e1
    have HST:Hid ((fs.take (i+1)).flatMap (fun f=>if M.vEnds ds f 0 ds then os.map (fun o=>((f,o):M.Wy)) else [])=(fs.take i).flatMap (fun f=>if M.vEnds ds f 0 ds then os.map (fun o=>((f,o):M.Wy)) else [])++(fun f=>if M.vEnds ds f 0 ds then os.map (fun o=>((f,o):M.Wy)) else []) fs[i]):=M.fall_step hlt
    generalize (fs.take i).flatMap (fun f=>if M.vEnds ds f 0 ds then os.map (fun o=>((f,o):M.Wy)) else [])=pre at *
    generalize fs[i]=f at *
    obtain ⟨rfl⟩:=hfa (by omega)
    go_wp2_with fail
    go_loopw [3,8] (fun s3 s8 wy=>∃ (k n:Nat) (cs:List Value) (xs:List M.Wy),s8=.int .i64 k∧k≤os.length∧n≤i * 46656+k∧Hid (xs=pre++(if M.vEnds ds f 0 ds then (os.take k).map (fun o=>((f,o):M.Wy)) else []))∧RXL wy w.heap.size s3 cs n xs∧WB.grownBy wy (some (w.heap.size+1))∧(∀ k,s3.ownBlock=some k→k=w.heap.size+1∨WB.heap.size≤k)) (fun _ s8 _=>os.length - (intOf s8).toNat)
    case atStart=>exact ⟨0,n,cs,xs,rfl,Nat.zero_le _,by omega,by show _=_;rw [HXS.out];simp,hR,hg,hat⟩
    case round =>
     clear hn hR hg hat HXS
     obtain ⟨k,n,cs,xs,rfl,hk,hn,HXS,hR,hg,hat⟩:=hrel
     by_cases hlt2:k < os.length
     ·have i2:(k:Int) < os.length:=by omega
      have h3:Hid (_=3):=HOL _ (List.getElem_mem hlt2)
      have h3l:0 < os[k].length∧os[k].length≤3:=by have:=HOL _ (List.getElem_mem hlt2);omega
      have h6:=HOR _ (List.getElem_mem hlt2)
      obtain ⟨oa,ob,oc,od,e2,hoa1,hoac,hof⟩:=hRo.row k hlt2
      have ko0:=hocell k _ e2
      have HPS:Hid ((os.take (k+1)).map (fun o=>((f,o):M.Wy))=(os.take k).map (fun o=>((f,o):M.Wy))++[(f,os[k])]):=M.part_step hlt2
      generalize os[k]=oi at *
      obtain ⟨rfl⟩:=hoa (by omega)
      have hK:=Keeps.grown kGB hg
      have kf:=hK _ _ kf0
      have ko:=hK _ _ ko0
      generalize wr=wy at *
      have hIy:=hfI.keeps hK
      have lf:gf < wy.heap.size:=World.block_lt_of_cell? _ _ kf
      have hfll:f.length≤42:=by have:=HLi.out;omega
      go_wp2_with (at_builtin;refine wpList_append_ints rfl (.tmp 36) (.tmp 40) 26 rfl wy.heap.size 3 i0 Tryz.underlying26 hi hz0 hz1 hz2 (.slice (some ⟨wy.heap.size,0,none⟩) 0 0) 0 [] rfl (own_empty (alloc_new wy _ _ rfl) (Nat.le_refl _)) (by simp) fa fb 0 fc f rfl (hIy.below (below1 _ _) (Nat.le_refl _)) (by omega) hfac ?_)
      intro v1 w1 hown1 hg1 hat1
      have b1:Below wy.heap.size wy w1:=below_grown (below1 _ _) hg1 (fun j hj=>by have:wy.heap.size=j:=Option.some.inj hj;omega) (by simp)
      obtain ⟨a1,g1,c1,rfl,hI1,hac1,hge1⟩:=own_ints hown1
      go_wp2_with fail
      have hX0:=Xb.start b1 hown1
      have lX0:w1.heap.size < (w1.alloc (.cells #[.slice a1 f.length c1,.slice none 0 0] 29)).heap.size:=by simp
      have hXl:wy.heap.size≤w1.heap.size:=b1.size
      clear hown1 hg1 hat1 hI1 hac1 hge1 b1
      generalize w1.alloc (.cells #[.slice a1 f.length c1,.slice none 0 0] 29)=w13 at *
      generalize w1.heap.size=X at *
      obtain ⟨rfl⟩:=hoa1 (by omega)
      go_loopw [10] (fun s10 wz=>∃ (m:Nat) (ov:Value) (cs3:List Value),s10=.int .i64 m∧m≤oi.length∧Xb wy.heap.size wy wz X (.slice a1 f.length c1) ov f cs3 (oi.take m)) (fun s10 _=>oi.length - (intOf s10).toNat)
      case atStart=>exact ⟨0,_,[],rfl,Nat.zero_le _,hX0⟩
      case round =>
       obtain ⟨m,ov,cs3,rfl,hm,hX⟩:=hrel
       clear hX0 lX0
       have hKr:Keeps WB wr:=hK.trans (Keeps.of hX.bel)
       have ko3:=hKr _ _ ko0
       have lo3:go < wr.heap.size:=World.block_lt_of_cell? _ _ ko3
       have lX:=hX.lt
       have x0:=hX.c0
       have x1:=hX.c1
       have xf:=hX.fz
       have hzs:=hX.bel.size
       by_cases hlt3:m < oi.length
       ·have i3:(m:Int) < oi.length:=by omega
        obtain ⟨ra,rb,rc,e3,hrI,hrac,_⟩:=hof.row m hlt3
        have kr3:=hKr _ _ (hof.cell m _ e3)
        have kry:=hK _ _ (hof.cell m _ e3)
        have lry:ob < wy.heap.size:=World.block_lt_of_cell? _ _ kry
        have loy:go < wy.heap.size:=World.block_lt_of_cell? _ _ ko
        have lr3:ob < wr.heap.size:=World.block_lt_of_cell? _ _ kr3
        have hr6:=h6 _ (List.getElem_mem hlt3)
        have hTk:(oi.take m).length=m:=by rw [List.length_take];omega
        have eT:Hid (oi.take (m+1)=oi.take m++[oi[m]]):=by show _=_;rw [List.take_add_one,List.getElem?_eq_getElem hlt3];rfl
        have hrI3:=hrI.keeps hKr
        generalize oi[m]=r at *
        generalize oi.take m=rows at *
        subst hTk
        have nX1:X≠go:=fun e=>by have h1:=World.block_lt_of_cell? _ _ ko0;have h2:=hg.size;have h3:=hXl;simp at h1;omega
        have nX2:X≠ob:=fun e=>by have h1:=World.block_lt_of_cell? _ _ (hof.cell _ _ e3);have h2:=hg.size;have h3:=hXl;simp at h1;omega
        go_wp2_with fail
        go_region_law (first
         | (refine step_append_ints (by rfl) (.tmp 54) (.tmp 61) 26 (by rfl) wr.heap.size 3 i0 Tryz.underlying26 hi hz0 hz1 hz2 (.slice (some ⟨wr.heap.size,0,none⟩) 0 0) 0 [] (by rfl) (own_empty (alloc_new wr _ _ rfl) (by simp)) (by simp) ra rb 0 rc r (by rfl) (hrI3.below (B:=wr.heap.size) (by repeat (first | exact Below.refl _ _ | refine bel_al ?_ _ | refine Below.drew ?_)) (Nat.le_refl _)) (by omega) hrac ?_;intro v4 w4 hown4 hg4 hat4;(rw [Nat.zero_add,List.nil_append] at hown4);(obtain ⟨a4,g4,c4,rfl,hI4,hac4,hge4⟩:=own_ints (l:=r) hown4);(have b4:Below wr.heap.size wr w4:=below_grown (by repeat (first | exact Below.refl _ _ | refine bel_al ?_ _ | refine Below.drew ?_)) hg4 (fun j hj=>by have:=Option.some.inj hj;(try simp at this);omega) (by (try simp);(try omega)));have Y10:=(b4.cell (p:=⟨X,1,none⟩) lX).trans x1;have Y11:=(b4.cell (p:=⟨go,k,none⟩) lo3).trans ko3;have Y12:=(b4.cell (p:=⟨ob,rows.length,none⟩) lr3).trans kr3;have lX4:=Nat.lt_of_lt_of_le lX b4.size;have Y13:=((below1 w4 (.cells #[.slice a4 r.length c4] 26)).cell (p:=⟨X,1,none⟩) lX4).trans Y10;have F1:=fun j=>(b4.frozen (p:=⟨X,j,none⟩) lX).trans (xf j))
         | (refine step_append_lies _ (by rfl) (.tmp 53) (.tmp 63) 27 (by rfl) wy.heap.size 26 j0 _ 1 24 Tryz.underlying27 hj hy0 hy1 hy2 rfl (by omega) ov rows.length cs3 (by rfl) ((hX.below b4).xw.ord.alloc _) ⟨w4.heap.size,0,none⟩ 1 1 [.slice a4 r.length c4] (by rfl) (by rfl) (World.news_of_block (cs:=#[.slice a4 r.length c4]) (t:=26) (fr:=(0,0)) (by exact heap_alloc_new w4 _)) (by simp [Value.oneCell']) (by omega) (by unfold maxLen;omega) (by omega) (by have:=b4.size;simp;omega) (w4.heap.size+1) (by simp) ?_;intro g5 cap5 w5 hown5 hg5 hat5 hlt5;have hXn:=hX.snoc (b4.alloc b4.size _) (hown4.alloc _) hown5 hg5 (by simpa using hat5);(have b5:Below wy.heap.size wy w5:=below_grown ((hX.bel.trans (b4.mono hzs)).alloc (Nat.le_trans hzs b4.size) _) hg5 (own_ge hX.xw.ord) (by have:=b4.size;simp;omega));have Y21:=(b5.cell (p:=⟨go,k,none⟩) loy).trans ko;have Y22:=(b5.cell (p:=⟨ob,rows.length,none⟩) lry).trans kry;(have lX5:X < (w4.alloc (.cells #[.slice a4 r.length c4] 26)).heap.size:=by have:=b4.size;simp;omega);(have nX5:some X≠ov.ownBlock:=fun e=>hX.off.ord X e.symm rfl);have Y20:=(hg5.cell_far ⟨X,1,none⟩ lX5 nX5).trans (((below1 w4 _).cell (p:=⟨X,1,none⟩) (Nat.lt_of_lt_of_le lX b4.size)).trans Y10);have F2:=fun j=>(World.frozen?_of_block (a:=⟨X,j,none⟩) (hg5.block X lX5 nX5)).trans (((below1 w4 (.cells #[.slice a4 r.length c4] 26)).frozen (p:=⟨X,j,none⟩) (Nat.lt_of_lt_of_le lX b4.size)).trans (F1 j))))
        all_goals
         rw [← eT.out] at hXn
         clear hX hg5 hg4 hown5 hown4 hI4 hat5 hat4 x0 x1 xf
         go_wp2_with fail
         exact ⟨⟨rows.length+1,_,_,by go_num,by omega,hXn⟩,by simp [intOf];omega⟩
       ·have hm3:m=oi.length:=by omega
        subst hm3
        rw [List.take_length] at hX
        obtain ⟨a6,g6,c6,e6,hI6,-,-⟩:=own_ints hX.xw.from_
        obtain ⟨rfl,rfl⟩:a1=a6∧c1=c6:=by simpa using e6
        obtain ⟨ao,go6,co6,rfl,-,-⟩:=own_vals hX.xw.ord
        have hp3:=hKr _ _ kpB
        have C6:=CE a1 g6 0 c1 f (.slice ao oi.length co6) wr hKr HLi HIi hI6
        have hul:∀ q,u3.ownBlock=some q→q < wy.heap.size:=fun q hq=>(hR.own.lt q hq).2
        clear hI6 e6 CE
        clear HOL HOR hfl hRfB hRo hfcell hocell
        cases hE:M.vEnds ds f 0 ds
        ·rw [hE] at C6
         go_wp2_with fail
         refine C6.mono ?_
         rintro e w6 ⟨rfl,b6⟩
         have b16:Below wy.heap.size wy w6:=hX.bel.trans (b6.mono hzs)
         have hR6:=hR.below b16
         have hg6:WB.grownBy w6 (some (w.heap.size+1)):=grown_then hg (grown_of b16 none) (fun j hj=>by cases hj)
         go_wp2_with fail
         exact ⟨⟨k+1,n,cs,xs,by go_num,by omega,by omega,by show _=_;rw [HXS.out,hE];rfl,hR6,hg6,hat⟩,by simp [intOf];omega⟩
        ·rw [hE] at C6
         go_wp2_with fail
         refine C6.mono ?_
         rintro e w6 ⟨rfl,b6⟩
         have b16:Below wy.heap.size wy w6:=hX.bel.trans (b6.mono hzs)
         have hR6:=hR.below b16
         have hX6:=hX.below b6
         have x06:=hX6.c0
         have x16:=hX6.c1
         have hBn:=below1 w6 (.cells #[.slice a1 f.length c1,.slice ao oi.length co6] 29)
         have hws:=hbWB.size
         have hgs:=hg.size
         have hs6:=b16.size
         have hn2:n≤5489031744:=by omega
         go_wp2_with (at_builtin;refine wpList_append_lies _ rfl (.tmp 70) (.tmp 72) 100 rfl w.heap.size 29 q0 _ 2 48 Tryz.underlying100 hq hq0 hq1 hq2 rfl (by decide) u3 n cs rfl (hR6.own.alloc _) ⟨w6.heap.size,0,none⟩ 1 1 [.slice a1 f.length c1,.slice ao oi.length co6] rfl rfl (World.news_of_block (cs:=#[.slice a1 f.length c1,.slice ao oi.length co6]) (t:=29) (fr:=(0,0)) (heap_alloc_new w6 _)) (by simp [Value.oneCell']) (by omega) (by unfold maxLen;omega) (by omega) (by simp;omega) (w6.heap.size+1) (by simp) ?_)
         intro g7 cap7 w7 hown7 hg7 hat7 hlt7
         have hR7:=hR.snoc (b16.trans (hBn.mono b16.size)) ((hX6.xw.mono (base':=w.heap.size) (by omega)).below hBn) (hX6.xw.off hul) hown7 hg7 (by simpa using hat7)
         have hgy:wy.grownBy w7 u3.ownBlock:=grown_then (grown_of (b16.trans (hBn.mono b16.size)) _) hg7 (fun j hj=>.inr hj)
         have hg8:WB.grownBy w7 (some (w.heap.size+1)):=grown_then hg hgy (fun j hj=>by
          rcases hat j hj with e | e
          ·exact .inr (by rw [e])
          ·exact .inl e)
         have hat8:∀ q,(Value.slice (some ⟨g7,0,none⟩) (n+1) cap7).ownBlock=some q→q=w.heap.size+1∨WB.heap.size≤q:=fun q hq=>by
          have hq':g7=q:=Option.some.inj hq
          rcases hat7 with e | e
          ·exact hat q (by rw [e,hq'])
          ·exact .inr (by omega)
         clear hown7 hg7 hat7 hX hX6 hR hR6
         go_wp2_with fail
         exact ⟨⟨k+1,n+1,_,xs++[(f,oi)],by go_num,by omega,by omega,by show _=_;rw [HXS.out,hE,HPS.out];simp,hR7,hg8,hat8⟩,by simp [intOf];omega⟩
     ·go_wp2_with fail
      exact ⟨⟨i+1,n,cs,xs,by go_num,by omega,by omega,by show _=_;rw [HXS.out,HST.out,List.take_of_length_le (by omega)],hR,hg,hat⟩,by simp [intOf];omega⟩
   ·go_wp2_with fail
    go_ret
    have HFN:xs=M.specAll ll:=by rw [HXS.out,HALL.out,List.take_of_length_le (by omega)]
    exact ⟨_,rfl,⟨cs,n,by rw [← HFN];exact hR,by omega⟩,below_grown hbWB hg (fun q hq=>by have:w.heap.size+1=q:=Option.some.inj hq;omega) hbWB.size⟩
end
end Go.Proofs.YtmhpgdliaclokaaGreat
