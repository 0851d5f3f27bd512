/- Turning about, plainly: rows of numbers, threads, places and values turned, programs side by side, plain ones. No condition. And what goes with it: TnMath, TnCp, TnMm, TnCs, TnPn, TnSn, TnFact, TnFp. -/
import Derived.BigQuiet
import Derived.Deep.AppendLies
import Derived.Deep.MidRow
import Derived.Deep.QuietTactic
import Derived.Deep.RegionHeld3
import Derived.Deep.RegionLaw
import Derived.Deep.RegionWith
import Derived.Deep.WholeRow
import Derived.Laws.OwnMore
import Derived.Maps.AppendAt
import Derived.Sort.Grow
import Derived.WalkKit
import Derived.WalkLawsBesides
import Derived.WalkSpells
import Derived.Test.YtjjkicffhpcngaaGreatRows
import Derived.Test.YtjjkicffhpcngaaGreatBYba
import Derived.Test.YtjjkicffhpcngaaGreatBYbc
import Derived.Test.YtjjkicffhpcngaaGreatBYbg
namespace Go.Proofs.YtjjkicffhpcngaaGreat
namespace M
theorem bel_mem {n:Nat} {x:Int}:x∈bel n↔0≤x∧x < n:=by
 simp only [bel,List.mem_map,List.mem_range]
 constructor
 ·rintro ⟨a,ha,rfl⟩;omega
 ·rintro ⟨h1,h2⟩;exact ⟨x.toNat,by omega,by omega⟩
def mapS (f:D→D) (ll:List (List D)):List (List D):=ll.map fun t=>t.map f
theorem mapS_len (f:D→D) (ll:List (List D)):(mapS f ll).length=ll.length:=by simp [mapS]
theorem mapS_small {f:D→D} {ll:List (List D)} (h7:∀ t∈ll,t.length≤7):∀ t∈mapS f ll,t.length≤7:=by
 intro t ht
 simp only [mapS,List.mem_map] at ht
 obtain ⟨u,hu,rfl⟩:=ht
 rw [List.length_map];exact h7 u hu
theorem mapS_take (f:D→D) (ll:List (List D)) (n:Nat) (h:n < ll.length):mapS f (ll.take (n+1))=mapS f (ll.take n)++[ll[n].map f]:=by
 rw [List.take_succ_eq_append_getElem h];unfold mapS;rw [List.map_append];rfl
def plainK (k:Int):Int:=if k=5 then 2 else if k=6 then 1 else k
def plainF (d:D):D:=⟨plainK d.k,d.p,d.v⟩
def turnPlain (ll:List (List D)):List (List D):=if prog ll then mapS plainF ll else []
theorem turnPlain_bad {ll:List (List D)} (h:prog ll=false):turnPlain ll=[]:=by simp [turnPlain,h]
theorem turnPlain_yes {ll:List (List D)} (h:prog ll=true):turnPlain ll=mapS plainF ll:=by simp [turnPlain,h]
theorem turnPlain_small {ll mm:List (List D)} (e:turnPlain ll=mm):mm.length≤3∧∀ t∈mm,t.length≤7:=by
 subst e
 cases h:prog ll with
 | false=>rw [turnPlain_bad h];simp
 | true =>
  rw [turnPlain_yes h]
  obtain ⟨h3,h7⟩:=prog_le h
  exact ⟨by rw [mapS_len];exact h3,mapS_small h7⟩
end M
end Go.Proofs.YtjjkicffhpcngaaGreat
namespace Go.Proofs.YtjjkicffhpcngaaGreat
open Go.RowKit
set_option maxHeartbeats 1000000 in
theorem newListD_any (a:Option Addr) (b o c:Nat) (l:List M.D) (w:World) (hl:l.length≤1048576) (h:DoS w a b o l) :
  Calls Tryz.prog 140 #[.slice a l.length c] w fun e w'=>∃ v,e=.returned v∧w'.ownsRow w.heap.size 43 3 v l.length (flat l)∧Below w.heap.size w w':=by
 obtain ⟨i0,hi,hz0,hz1,hz2⟩:=info_parts Tryz.info43
 rcases Nat.eq_zero_or_pos l.length with h0 | hpos
 ·have hl0:l=[]:=List.length_eq_zero_iff.1 h0
  subst hl0
  rw [List.length_nil]
  go_enter Tryz.func140,Tryz.ntmps140
  go_wp2_with (at_builtin;refine wpList_append_nilT rfl (.const (.slice none 0 0)) (.tmp 3) 41 rfl 43 i0 Tryz.underlying41 hi rfl a c rfl ?_)
  go_wp2_with fail
  go_ret
  exact ⟨_,rfl,World.ownsRow_nil _ _ _ _,Below.refl _ _⟩
 ·obtain ⟨rfl⟩:=h.addr hpos
  go_enter Tryz.func140,Tryz.ntmps140
  go_wp2_with (at_builtin;refine wpList_append_lies _ rfl (.const (.slice none 0 0)) (.tmp 3) 41 rfl w.heap.size 43 i0 _ 3 24 Tryz.underlying41 hi hz0 hz1 hz2 rfl (by decide) _ 0 [] rfl (World.ownsRow_nil _ _ _ _) ⟨b,o,none⟩ l.length c (flat l) rfl (flat_length l) (DoS.flat_cells h.row) (flat_one' l) hpos (by unfold maxLen;omega) (by omega) (Nat.le_refl _) w.heap.size rfl ?_)
  intro g cap w1 hown hg hat hlt
  have hb:Below w.heap.size w w1:=⟨hg.os,hg.tape,hg.output,hg.size,fun k hk=>hg.block k hk (fun e=>by simp [Value.ownBlock] at e)⟩
  have hown':w1.ownsRow w.heap.size 43 3 (.slice (some ⟨g,0,none⟩) l.length cap) l.length (flat l):=by simpa using hown
  go_wp2_with fail
  go_ret
  exact ⟨_,by first | rfl | simp,hown',hb⟩
set_option maxHeartbeats 4000000 in
set_option maxRecDepth 100000 in
set_option linter.unusedSimpArgs false in
theorem copyProg_any (a:Option Addr) (b o c:Nat) (ll:List (List M.D)) (w:World) (hl:ll.length≤1048576) (hls:∀ t∈ll,t.length≤1048576) (h:DoSS w a b o ll) :
  Calls Tryz.prog 97 #[.agg #[.slice a ll.length c]] w fun e w'=>∃ v,e=.returned (.agg #[v])∧(∃ vs,Rdg w' w.heap.size v ll vs)∧Below w.heap.size w w':=by
 obtain ⟨i0,hi,hz0,hz1,hz2⟩:=info_parts Tryz.info41
 go_enter Tryz.func97,Tryz.ntmps97
 go_wp2_with fail
 go_loopw [9] (fun s9 wr=>∃ (n:Nat) (v:Value) (vs:List Value),s9=.int .i64 n∧n≤ll.length∧Rdg wr (w.heap.size+3) v (ll.take n) vs∧Slot1 wr (w.heap.size+1+1) v∧Slot1 wr (w.heap.size+1) (.slice none 0 0)∧Below w.heap.size w wr) (fun s9 _=>ll.length - (intOf s9).toNat)
 case atStart =>
  refine ⟨0,.slice none 0 0,[],rfl,Nat.zero_le _,by simpa using Rdg.nil _ _,?_,?_,below3 _ _ _ _⟩
  ·have:=Slot1.new ((w.alloc (.cells #[.slice a ll.length c] 25)).alloc (.cells #[.slice none 0 0] 25)) (.slice none 0 0) 25
   rwa [World.size_alloc,World.size_alloc] at this
  ·have:=(Slot1.new (w.alloc (.cells #[.slice a ll.length c] 25)) (.slice none 0 0) 25).bl' (below1 _ (.cells #[.slice none 0 0] 25))
   rwa [World.size_alloc] at this
 case round =>
  obtain ⟨n,v,vs,rfl,hn,hR,hP,hQ,hbel⟩:=hrel
  by_cases hlt:n < ll.length
  ·obtain ⟨rfl⟩:=h.addr (by omega)
   obtain ⟨a',b',o',c',hc,hd⟩:=(h.below hbel (Nat.le_refl _)).row n hlt
   have ht:=hls _ (List.getElem_mem hlt)
   have HW:Hid (ll.take (n+1)=ll.take n++[ll[n]]):=List.take_succ_eq_append_getElem hlt
   have hmm:(ll.take n).length≤1048576:=by simp;omega
   generalize ll[n]=t at *
   generalize ll.take n=mm at *
   have i1:(n:Int) < ll.length:=by omega
   obtain ⟨av,gv,cv,rfl,_⟩:=hR.b.ss
   have x0:=hP.c
   have lP:=hP.lt
   have F4:Hid (∀ (w4:World) (v4:Value),w4.ownsRow wr.heap.size 43 3 v4 t.length (flat t)→Below wr.heap.size wr.drew w4→∃ a4 c4,v4=.slice a4 t.length c4∧Below wr.heap.size wr w4∧Slot1 w4 (w.heap.size+1+1) (.slice av mm.length cv)∧Rdg w4 (w.heap.size+3) (.slice av mm.length cv) mm vs):=by
    intro w4 v4 ho hb
    obtain ⟨a4,c4,e⟩:=own_slx ho
    have b4:Below wr.heap.size wr w4:=(Below.refl _ _).drew.trans hb
    exact ⟨a4,c4,e,b4,hP.bl' b4,hR.below b4⟩
   have F5:Hid (∀ (w4:World) (a4:Option Addr) (c4:Nat),Below wr.heap.size wr w4→w4.ownsRow wr.heap.size 43 3 (.slice a4 t.length c4) t.length (flat t)→∀ (g5 cap5:Nat) (w5:World),w5.ownsRow (w.heap.size+3) 41 1 (.slice (some ⟨g5,0,none⟩) (mm.length+1) cap5) (mm.length+1) (vs++[.slice a4 t.length c4])→(w4.alloc (.cells #[.slice a4 t.length c4] 41)).grownBy w5 (Value.slice av mm.length cv).ownBlock→Below w.heap.size w w5∧Slot1 w5 (w.heap.size+1+1) (.slice av mm.length cv)∧Slot1 w5 (w.heap.size+1) (.slice none 0 0)∧Rdg w5 (w.heap.size+3) (.slice (some ⟨g5,0,none⟩) (mm.length+1) cap5) (mm++[t]) (vs++[.slice a4 t.length c4])):=by
    intro w4 a4 c4 b4 hx4 g5 cap5 w5 ho hg
    have hal:=below1 w4 (.cells #[.slice a4 t.length c4] 41)
    have hge:=own_ge hR.b.outer
    have b4a:=b4.trans (hal.mono b4.size)
    have bwa:=hbel.trans (b4a.mono hbel.size)
    refine ⟨below_grown bwa hg (fun j hj=>by have:=hge j hj;omega) bwa.size,(hP.bl' b4a).apart hg (fun e=>by have:=hge _ e;omega),(hQ.bl' b4a).apart hg (fun e=>by have:=hge _ e;omega),((hR.below b4).below hal).snocT (ownsRow_mono (ownsRow_below hx4 hal) (by omega)) (fun i hi j hj e=>?_) ho hg⟩
    have h1:=((hR.b.inner i (by have:=hR.b.len;omega) hi).lt j hj).2
    have h2:=own_ge hx4 j e
    omega
   have CN:=newListD_any a' b' o' c' t wr.drew ht (hd.below (Below.refl wr.heap.size wr).drew (Nat.le_refl _))
   go_wp2_with fail
   refine wp_region_held_drew (S:=fun w'=>Below w.heap.size w w') (by kernel_rfl) hbel.drew (fun hH=>?_)
   refine takeD 0 (some 13) (.pointer (some ⟨w.heap.size+1+1,0,none⟩)) hH rfl rfl (by kernel_rfl) (by kernel_rfl) (by kernel_rfl) (fun _ _ _ h=>h) (Or.inl ⟨by rfl,by intro w' hSw;go_simp⟩) ?_
   simp only [Act.put,List.setIfInBounds_toArray,List.set_cons_zero,List.set_cons_succ]
   refine takeD 2 (some 15) (.slice a' t.length c') hH rfl rfl (by kernel_rfl) (by kernel_rfl) (by kernel_rfl) (fun _ _ _ h=>h) (Or.inl ⟨by rfl,by intro w' hSw;go_simp⟩) ?_
   simp only [Act.put,List.setIfInBounds_toArray,List.set_cons_zero,List.set_cons_succ]
   refine wpAnyH_ready (rs:=[1,3]) (by kernel_rfl) (by simp) ?_
   refine AllReadyH.cons rfl (fun K' hK=>?_) (AllReadyH.cons rfl (fun K' hK=>?_) AllReadyH.nil)
   ·have xx:=x0
    rw [if_pos (by rfl)]
    go_simp
    refine hK.out _ _ hH (fun _=>?_)
    clear hK K' xx
    refine wpAnyH_ready (rs:=[3]) (by kernel_rfl) (by simp) ?_
    refine AllReadyH.cons rfl (fun K' hK=>?_) AllReadyH.nil
    refine step_goV (by rfl) (some 16) rfl 140 #[.tmp 15] _ rfl #[.slice a' t.length c'] (by simp [Act.eval]) (fun _ _=>rfl) CN ?_
    rintro e w4 ⟨v4,rfl,ho4,hb4⟩
    obtain ⟨a4,c4,rfl,b4,hS4,hR4⟩:=F4.out w4 v4 ho4 hb4
    refine ⟨_,rfl,?_⟩
    simp only [Act.put,List.setIfInBounds_toArray,List.set_cons_zero,List.set_cons_succ]
    refine hK.out _ _ (hbel.trans (b4.mono hbel.size)) (fun hH4=>?_)
    clear hK K'
    have hS4a:=hS4.bl' (below1 w4 (.cells #[.slice a4 t.length c4] 41))
    have S4a:Below w.heap.size w (w4.alloc (.cells #[.slice a4 t.length c4] 41)):=hH4.alloc hH4.size _
    refine wpAnyH_ready (rs:=[4]) (by kernel_rfl) (by simp) ?_
    refine AllReadyH.cons rfl (fun K' hK=>?_) AllReadyH.nil
    rw [if_pos (by rfl)]
    go_simp
    refine hK.out _ _ S4a (fun _=>?_)
    clear hK K'
    refine wpAnyH_ready (rs:=[5]) (by kernel_rfl) (by simp) ?_
    refine AllReadyH.cons rfl (fun K' hK=>?_) AllReadyH.nil
    refine step_append_lies _ (by rfl) (.tmp 14) (.tmp 17) 23 (by rfl) (w.heap.size+3) 41 i0 _ 1 24 Tryz.underlying23 hi hz0 hz1 hz2 rfl (by decide) (.slice av mm.length cv) mm.length vs (by rfl) ((hR4.b.outer).alloc _) ⟨w4.heap.size,0,none⟩ 1 1 [.slice a4 t.length c4] (by rfl) (by rfl) (World.news_of_block (cs:=#[.slice a4 t.length c4]) (t:=41) (fr:=(0,0)) (heap_alloc_new w4 _)) (by simp [Value.oneCell']) (by omega) (by unfold maxLen;omega) (by omega) (by have:=b4.size;simp;omega) (w4.heap.size+1) (by simp) ?_
    intro g5 cap5 w5 hown5 hg5 hat5 hlt5
    obtain ⟨b5,hS5,hQ5,hR5⟩:=F5.out w4 a4 c4 b4 ho4 g5 cap5 w5 hown5 hg5
    simp only [Act.put,List.setIfInBounds_toArray,List.set_cons_zero,List.set_cons_succ]
    refine hK.out _ _ b5 (fun hH5=>?_)
    clear hK K'
    refine takeD 6 (some 19) (.pointer (some ⟨w.heap.size+1+1,0,none⟩)) hH5 rfl rfl (by kernel_rfl) (by kernel_rfl) (by kernel_rfl) (fun _ _ _ h=>h) (Or.inl ⟨by rfl,by intro w' hSw;go_simp⟩) ?_
    simp only [Act.put,List.setIfInBounds_toArray,List.set_cons_zero,List.set_cons_succ]
    refine wpAnyH_ready (rs:=[7]) (by kernel_rfl) (by simp) ?_
    refine AllReadyH.cons rfl (fun K' hK=>?_) AllReadyH.nil
    have xc:=hS5.c
    have xz:=hS5.fz
    rw [if_pos (by rfl)]
    go_simp
    refine hK.out _ _ (b5.setCell (by show w.heap.size≤w.heap.size+1+1;omega) _) (fun _=>?_)
    clear hK K'
    refine wpAnyH_done (by kernel_rfl) ?_ _
    clear xc xz
    go_wp2_with fail
    exact ⟨⟨n+1,_,_,by go_num,by omega,by rw [HW.out];exact hR5.far (by omega) _,hS5.set _,hQ5.far (by omega) _,b5.setCell (by show w.heap.size≤w.heap.size+1+1;omega) _⟩,by simp [intOf];omega⟩
   ·refine step_goV (by rfl) (some 16) rfl 140 #[.tmp 15] _ rfl #[.slice a' t.length c'] (by simp [Act.eval]) (fun _ _=>rfl) CN ?_
    rintro e w4 ⟨v4,rfl,ho4,hb4⟩
    obtain ⟨a4,c4,rfl,b4,hS4,hR4⟩:=F4.out w4 v4 ho4 hb4
    refine ⟨_,rfl,?_⟩
    simp only [Act.put,List.setIfInBounds_toArray,List.set_cons_zero,List.set_cons_succ]
    refine hK.out _ _ (hbel.trans (b4.mono hbel.size)) (fun hH4=>?_)
    clear hK K'
    have hS4a:=hS4.bl' (below1 w4 (.cells #[.slice a4 t.length c4] 41))
    have S4a:Below w.heap.size w (w4.alloc (.cells #[.slice a4 t.length c4] 41)):=hH4.alloc hH4.size _
    refine wpAnyH_ready (rs:=[1,4]) (by kernel_rfl) (by simp) ?_
    refine AllReadyH.cons rfl (fun K' hK=>?_) (AllReadyH.cons rfl (fun K' hK=>?_) AllReadyH.nil)
    ·have xx:=hS4.c
     rw [if_pos (by rfl)]
     go_simp
     refine hK.out _ _ hH4 (fun _=>?_)
     clear hK K' xx
     refine wpAnyH_ready (rs:=[4]) (by kernel_rfl) (by simp) ?_
     refine AllReadyH.cons rfl (fun K' hK=>?_) AllReadyH.nil
     rw [if_pos (by rfl)]
     go_simp
     refine hK.out _ _ S4a (fun _=>?_)
     clear hK K'
     refine wpAnyH_ready (rs:=[5]) (by kernel_rfl) (by simp) ?_
     refine AllReadyH.cons rfl (fun K' hK=>?_) AllReadyH.nil
     refine step_append_lies _ (by rfl) (.tmp 14) (.tmp 17) 23 (by rfl) (w.heap.size+3) 41 i0 _ 1 24 Tryz.underlying23 hi hz0 hz1 hz2 rfl (by decide) (.slice av mm.length cv) mm.length vs (by rfl) ((hR4.b.outer).alloc _) ⟨w4.heap.size,0,none⟩ 1 1 [.slice a4 t.length c4] (by rfl) (by rfl) (World.news_of_block (cs:=#[.slice a4 t.length c4]) (t:=41) (fr:=(0,0)) (heap_alloc_new w4 _)) (by simp [Value.oneCell']) (by omega) (by unfold maxLen;omega) (by omega) (by have:=b4.size;simp;omega) (w4.heap.size+1) (by simp) ?_
     intro g5 cap5 w5 hown5 hg5 hat5 hlt5
     obtain ⟨b5,hS5,hQ5,hR5⟩:=F5.out w4 a4 c4 b4 ho4 g5 cap5 w5 hown5 hg5
     simp only [Act.put,List.setIfInBounds_toArray,List.set_cons_zero,List.set_cons_succ]
     refine hK.out _ _ b5 (fun hH5=>?_)
     clear hK K'
     refine takeD 6 (some 19) (.pointer (some ⟨w.heap.size+1+1,0,none⟩)) hH5 rfl rfl (by kernel_rfl) (by kernel_rfl) (by kernel_rfl) (fun _ _ _ h=>h) (Or.inl ⟨by rfl,by intro w' hSw;go_simp⟩) ?_
     simp only [Act.put,List.setIfInBounds_toArray,List.set_cons_zero,List.set_cons_succ]
     refine wpAnyH_ready (rs:=[7]) (by kernel_rfl) (by simp) ?_
     refine AllReadyH.cons rfl (fun K' hK=>?_) AllReadyH.nil
     have xc:=hS5.c
     have xz:=hS5.fz
     rw [if_pos (by rfl)]
     go_simp
     refine hK.out _ _ (b5.setCell (by show w.heap.size≤w.heap.size+1+1;omega) _) (fun _=>?_)
     clear hK K'
     refine wpAnyH_done (by kernel_rfl) ?_ _
     clear xc xz
     go_wp2_with fail
     exact ⟨⟨n+1,_,_,by go_num,by omega,by rw [HW.out];exact hR5.far (by omega) _,hS5.set _,hQ5.far (by omega) _,b5.setCell (by show w.heap.size≤w.heap.size+1+1;omega) _⟩,by simp [intOf];omega⟩
    ·rw [if_pos (by rfl)]
     go_simp
     refine hK.out _ _ S4a (fun _=>?_)
     clear hK K'
     refine wpAnyH_ready (rs:=[1]) (by kernel_rfl) (by simp) ?_
     refine AllReadyH.cons rfl (fun K' hK=>?_) AllReadyH.nil
     have xx:=hS4a.c
     rw [if_pos (by rfl)]
     go_simp
     refine hK.out _ _ S4a (fun _=>?_)
     clear hK K' xx
     refine wpAnyH_ready (rs:=[5]) (by kernel_rfl) (by simp) ?_
     refine AllReadyH.cons rfl (fun K' hK=>?_) AllReadyH.nil
     refine step_append_lies _ (by rfl) (.tmp 14) (.tmp 17) 23 (by rfl) (w.heap.size+3) 41 i0 _ 1 24 Tryz.underlying23 hi hz0 hz1 hz2 rfl (by decide) (.slice av mm.length cv) mm.length vs (by rfl) ((hR4.b.outer).alloc _) ⟨w4.heap.size,0,none⟩ 1 1 [.slice a4 t.length c4] (by rfl) (by rfl) (World.news_of_block (cs:=#[.slice a4 t.length c4]) (t:=41) (fr:=(0,0)) (heap_alloc_new w4 _)) (by simp [Value.oneCell']) (by omega) (by unfold maxLen;omega) (by omega) (by have:=b4.size;simp;omega) (w4.heap.size+1) (by simp) ?_
     intro g5 cap5 w5 hown5 hg5 hat5 hlt5
     obtain ⟨b5,hS5,hQ5,hR5⟩:=F5.out w4 a4 c4 b4 ho4 g5 cap5 w5 hown5 hg5
     simp only [Act.put,List.setIfInBounds_toArray,List.set_cons_zero,List.set_cons_succ]
     refine hK.out _ _ b5 (fun hH5=>?_)
     clear hK K'
     refine takeD 6 (some 19) (.pointer (some ⟨w.heap.size+1+1,0,none⟩)) hH5 rfl rfl (by kernel_rfl) (by kernel_rfl) (by kernel_rfl) (fun _ _ _ h=>h) (Or.inl ⟨by rfl,by intro w' hSw;go_simp⟩) ?_
     simp only [Act.put,List.setIfInBounds_toArray,List.set_cons_zero,List.set_cons_succ]
     refine wpAnyH_ready (rs:=[7]) (by kernel_rfl) (by simp) ?_
     refine AllReadyH.cons rfl (fun K' hK=>?_) AllReadyH.nil
     have xc:=hS5.c
     have xz:=hS5.fz
     rw [if_pos (by rfl)]
     go_simp
     refine hK.out _ _ (b5.setCell (by show w.heap.size≤w.heap.size+1+1;omega) _) (fun _=>?_)
     clear hK K'
     refine wpAnyH_done (by kernel_rfl) ?_ _
     clear xc xz
     go_wp2_with fail
     exact ⟨⟨n+1,_,_,by go_num,by omega,by rw [HW.out];exact hR5.far (by omega) _,hS5.set _,hQ5.far (by omega) _,b5.setCell (by show w.heap.size≤w.heap.size+1+1;omega) _⟩,by simp [intOf];omega⟩
  ·have htk:ll.take n=ll:=List.take_of_length_le (by omega)
   rw [htk] at hR
   obtain ⟨av,gv,cv,rfl,_⟩:=hR.b.ss
   have hkn':¬ (n:Int) < ll.length:=by omega
   have p0:=hP.c
   have pf:=hP.fz
   have q0:=hQ.c
   have qf:=hQ.fz
   have lP:=hP.lt
   have lQ:=hQ.lt
   have hne:w.heap.size+1≠w.heap.size+1+1:=by omega
   go_wp2_with fail
   have q1:=(hQ.set (.slice av ll.length cv)).c
   exact bodyPost_ret (v:=.agg #[.slice av ll.length cv]) (by simp [results,Tryz.results97,go_sem,q1]) rfl ⟨_,rfl,⟨vs,(hR.far (by omega) _).mono (by omega)⟩,hbel.setCell (by show w.heap.size≤w.heap.size+1;omega) _⟩
end Go.Proofs.YtjjkicffhpcngaaGreat
namespace Go.Proofs.YtjjkicffhpcngaaGreat
open Go.RowKit
namespace M
theorem curT_zero (f:D→D) (t:List D):curT f 0 t=t:=by simp [curT]
theorem curT_len (f:D→D) (k:Nat) (t:List D):(curT f k t).length=t.length:=by simp [curT];omega
theorem curT_all (f:D→D) (k:Nat) (t:List D) (h:t.length≤k):curT f k t=t.map f:=by
 unfold curT;rw [List.take_of_length_le h,List.drop_eq_nil_of_le h,List.append_nil]
theorem curT_get (f:D→D) (k:Nat) (t:List D) (h:k < t.length) (h':k < (curT f k t).length):(curT f k t)[k]=t[k]:=by
 have e:(curT f k t)[k]?=t[k]?:=by
  unfold curT
  rw [List.getElem?_append_right (by simp;omega)]
  simp [Nat.min_eq_left (Nat.le_of_lt h)]
 rw [List.getElem?_eq_getElem h',List.getElem?_eq_getElem h] at e
 exact Option.some.inj e
theorem curT_set (f:D→D) (k:Nat) (t:List D) (h:k < t.length):(curT f k t).set k (f t[k])=curT f (k+1) t:=by
 unfold curT
 have e:(t.drop k).set 0 (f t[k])=f t[k]::t.drop (k+1):=by
  have:=(List.getElem_cons_drop h).symm
  generalize t.drop k=x at *
  subst this
  rfl
 rw [List.take_succ_eq_append_getElem h,List.map_append,List.set_append_right _ _ (by simp;omega)]
 simp [Nat.min_eq_left (Nat.le_of_lt h),e]
theorem cur_len (f:D→D) (n k:Nat) (ll:List (List D)):(cur f n k ll).length=ll.length:=by simp [cur]
theorem cur_zero (f:D→D) (ll:List (List D)):cur f 0 0 ll=ll:=by
 apply List.ext_getElem (cur_len _ _ _ _)
 intro i h1 h2
 simp only [cur,List.getElem_mapIdx,Nat.not_lt_zero,if_false,curT_zero,ite_self]
theorem cur_get (f:D→D) (n k:Nat) (ll:List (List D)) (h:n < ll.length) (h':n < (cur f n k ll).length):(cur f n k ll)[n]=curT f k ll[n]:=by
 simp [cur]
theorem cur_set (f:D→D) (n k:Nat) (ll:List (List D)) (h:n < ll.length) (hk:k < ll[n].length):(cur f n k ll).set n ((curT f k ll[n]).set k (f ll[n][k]))=cur f n (k+1) ll:=by
 rw [curT_set f k _ hk]
 apply List.ext_getElem (by simp [cur])
 intro i h1 h2
 by_cases e:n=i
 ·subst e;rw [List.getElem_set_self];simp [cur]
 ·rw [List.getElem_set_ne e]
  have e':¬ i=n:=fun h=>e h.symm
  simp only [cur,List.getElem_mapIdx,e',if_false]
theorem cur_next (f:D→D) (n k:Nat) (ll:List (List D)) (h:n < ll.length) (hk:ll[n].length≤k):cur f n k ll=cur f (n+1) 0 ll:=by
 apply List.ext_getElem (by simp [cur])
 intro i h1 h2
 simp only [cur,List.getElem_mapIdx,curT_zero,ite_self]
 by_cases e:i < n
 ·rw [if_pos e,if_pos (by omega)]
 ·by_cases e2:i=n
  ·subst e2;rw [if_neg e,if_pos rfl,if_pos (by omega),curT_all f k _ hk]
  ·rw [if_neg e,if_neg e2,if_neg (by omega)]
theorem cur_all (f:D→D) (n k:Nat) (ll:List (List D)) (h:ll.length≤n):cur f n k ll=mapS f ll:=by
 apply List.ext_getElem (by simp [cur,mapS])
 intro i h1 h2
 have:i < ll.length:=by simpa [cur] using h1
 simp only [cur,mapS,List.getElem_mapIdx,List.getElem_map]
 rw [if_pos (by omega)]
end M
theorem Rdg.chg {w w':World} {B:Nat} {v:Value} {ll:List (List M.D)} {vs:List Value} {n k g m cap:Nat} {d':M.D} (h:Rdg w B v ll vs) (hn:n < ll.length) (hv:n < vs.length) (he:vs[n]=.slice (some ⟨g,0,none⟩) m cap) (hk:k < ll[n].length) (hc:Chg w w' g (k * 3) ll[n][k] d') :
  Rdg w' B v (ll.set n (ll[n].set k d')) vs∧w.grownBy w' (some g)∧B≤g:=by
 have hin:=h.b.inner n hn hv
 have hm:m=ll[n].length:=by
  rcases hin.2 with ⟨e,_⟩ | ⟨_,_,_,e,_⟩
  ·rw [he] at e;simp at e
  ·rw [he] at e;simp only [Value.slice.injEq] at e;exact e.2.1
 subst hm
 have hin':=hin
 rw [he] at hin'
 obtain ⟨ho,hg⟩:=own_chg hin' hk hc
 have hBg:B≤g:=own_ge hin' g rfl
 refine ⟨⟨⟨?_,by rw [List.length_set];exact h.b.len,fun i h1 h2=>?_⟩,h.ap⟩,hg,hBg⟩
 ·rw [List.length_set]
  refine h.b.outer.kept hg ?_
  rcases own_apart h.b.outer hin' (by decide) with e | e
  ·exact Or.inl e
  ·exact Or.inr e
 ·by_cases e:n=i
  ·subst e
   rw [List.getElem_set_self,he,List.length_set]
   exact ho
  ·rw [List.getElem_set_ne e]
   have h1':i < ll.length:=by simpa using h1
   refine (h.b.inner i h1' h2).kept hg ?_
   cases hb:vs[i].ownBlock with
   | none=>exact Or.inl rfl
   | some kk =>
    refine Or.inr fun e2=>?_
    have:=h.ap i n h2 hv (fun e3=>e e3.symm) kk hb
    rw [he] at this
    exact this (by simp only [Value.ownBlock];exact e2.symm)
theorem Rdg.outer_at {w:World} {B cv n:Nat} {av:Option Addr} {ll:List (List M.D)} {vs:List Value} (h:Rdg w B (.slice av ll.length cv) ll vs) (hn:n < ll.length):∃ gv,av=some ⟨gv,0,none⟩∧∃ hv:n < vs.length,w.cell? ⟨gv,n,none⟩=some vs[n]:=by
 have hv:n < vs.length:=by rw [h.b.len];exact hn
 rcases h.b.outer.2 with ⟨e,h0⟩ | ⟨g,cap,cur,e,hg,hh,r⟩
 ·omega
 ·simp only [Value.slice.injEq] at e
  obtain ⟨rfl,_,rfl⟩:=e
  have hc:=h.b.outer.cells (g:=g) rfl n vs[n] (List.getElem?_eq_getElem hv)
  rw [Go.WideShapes.add_plain,Nat.zero_add] at hc
  exact ⟨g,rfl,hv,hc⟩
theorem Rdg.inner_at {w:World} {B n:Nat} {v:Value} {ll:List (List M.D)} {vs:List Value} (h:Rdg w B v ll vs) (hn:n < ll.length) (hv:n < vs.length):∃ a' c',vs[n]=.slice a' ll[n].length c'∧(0 < ll[n].length→∃ g,a'=some ⟨g,0,none⟩∧B≤g∧Row w g 0 ll[n]∧∀ i,w.frozen? ⟨g,i,none⟩=false):=by
 have hin:=h.b.inner n hn hv
 rcases hin.2 with ⟨e,h0⟩ | ⟨g,cap,cur,e,hg,hh,r⟩
 ·exact ⟨none,0,by rw [e,h0],fun h=>by omega⟩
 ·refine ⟨_,cap,e,fun hpos=>⟨g,rfl,hg,?_,?_⟩⟩
  ·obtain ⟨a2,g2,c2,e2,hd,_⟩:=own_steps hin
   rw [e] at e2
   simp only [Value.slice.injEq] at e2
   obtain ⟨rfl,_,_⟩:=e2
   have:=hd.addr hpos
   simp at this
   rw [this];exact hd.row
  ·rw [e] at hin;exact fun i=>own_fzS hin i
end Go.Proofs.YtjjkicffhpcngaaGreat
namespace Go.Proofs.YtjjkicffhpcngaaGreat
open Go.RowKit
theorem Rdg.step {w w':World} {B n k g m cap:Nat} {v:Value} {f:M.D→M.D} {ll:List (List M.D)} {vs:List Value} (h:Rdg w B v (M.cur f n k ll) vs) (hn:n < ll.length) (hk:k < ll[n].length) (hv:n < vs.length) (he:vs[n]=.slice (some ⟨g,0,none⟩) m cap) (hc:Chg w w' g (k * 3) ll[n][k] (f ll[n][k])) :
  Rdg w' B v (M.cur f n (k+1) ll) vs∧w.grownBy w' (some g)∧B≤g:=by
 have hn':n < (M.cur f n k ll).length:=by rw [M.cur_len];exact hn
 have e:=M.cur_get f n k ll hn hn'
 have hk':k < ((M.cur f n k ll)[n]'hn').length:=by rw [e,M.curT_len];exact hk
 have e2:((M.cur f n k ll)[n]'hn')[k]'hk'=ll[n][k]:=by
  have key:∀ (l:List M.D) (h:k < l.length),l=M.curT f k ll[n]→l[k]=ll[n][k]:=by
   intro l h e;subst e;exact M.curT_get f k ll[n] hk h
  exact key _ hk' e
 have r:=h.chg hn' hv he hk' (by rw [e2];exact hc)
 rw [e,M.cur_set f n k ll hn hk] at r
 exact r
theorem Rdg.cur_at {w:World} {B n k:Nat} {v:Value} {f:M.D→M.D} {ll:List (List M.D)} {vs:List Value} (h:Rdg w B v (M.cur f n k ll) vs) (hn:n < ll.length) (hv:n < vs.length) :
  ∃ a' c',vs[n]=.slice a' ll[n].length c'∧∀ hk:k < ll[n].length,∃ g,a'=some ⟨g,0,none⟩∧B≤g∧DoAt w g (k * 3) ll[n][k]∧∀ i,w.frozen? ⟨g,i,none⟩=false:=by
 have hn':n < (M.cur f n k ll).length:=by rw [M.cur_len];exact hn
 have e:=M.cur_get f n k ll hn hn'
 obtain ⟨a',c',e1,h1⟩:=h.inner_at hn' hv
 rw [e,M.curT_len] at e1 h1
 refine ⟨a',c',e1,fun hk=>?_⟩
 obtain ⟨g,rfl,hB,hr,hf⟩:=h1 (by omega)
 have:=hr k (by rw [M.curT_len];exact hk)
 rw [Nat.zero_add,M.curT_get f k _ hk] at this
 exact ⟨g,rfl,hB,this,hf⟩
set_option maxHeartbeats 2000000 in
set_option maxRecDepth 10000 in
theorem changeQ_any (a:Option Addr) (b o c:Nat) (ll:List (List M.D)) (f:M.D→M.D) (w:World) (h3:ll.length≤3) (h7:∀ t∈ll,t.length≤7) (h:DoSS w a b o ll)
  (hcl:∀ (W:World) (g off:Nat) (d:M.D),Below w.heap.size w W→w.heap.size≤g→(∃ t∈ll,d∈t)→DoAt W g off d→(∀ i,W.frozen? ⟨g,i,none⟩=false)→Calls Tryz.prog 53 #[.pointer (some ⟨g,off,none⟩)] W fun e w'=>e=.returned (.tuple #[])∧Chg W w' g off d (f d)) :
  Calls Tryz.prog 52 #[.agg #[.slice a ll.length c],.func (.func 53) #[] #[]] w fun e w'=>∃ v,e=.returned (.agg #[v])∧(∃ vs,Rdg w' w.heap.size v (M.mapS f ll) vs)∧Below w.heap.size w w':=by
 have b2:=below2 w (.cells #[.slice a ll.length c] 25) (.cells #[.slice none 0 0] 25)
 have h2:=h.below b2 (Nat.le_refl _)
 have hY:=Slot1.new (w.alloc (.cells #[.slice a ll.length c] 25)) (.slice none 0 0) 25
 rw [World.size_alloc] at hY
 have hsz:((w.alloc (.cells #[.slice a ll.length c] 25)).alloc (.cells #[.slice none 0 0] 25)).heap.size=w.heap.size+2:=by simp
 go_enter Tryz.func52,Tryz.ntmps52
 go_wp2_with fail
 generalize (w.alloc (.cells #[.slice a ll.length c] 25)).alloc (.cells #[.slice none 0 0] 25)=W at *
 refine (copyProg_any a b o c ll W (by omega) (fun t ht=>by have:=h7 t ht;omega) h2).mono ?_
 rintro e W1 ⟨v1,rfl,⟨vs,hR1⟩,b1⟩
 obtain ⟨av,gv0,cv,rfl,_⟩:=hR1.b.ss
 have HV:∀ i (hi:i < vs.length) k,vs[i].ownBlock=some k→k < W1.heap.size:=fun i hi k hk=>((hR1.b.inner i (by have:=hR1.b.len;omega) hi).lt k hk).2
 have bA:=below1 W1 (.cells #[.slice av ll.length cv] 25)
 have hRA:=(hR1.below bA).mono (show w.heap.size+2≤W.heap.size by omega)
 have bw1:=b2.trans (b1.mono b2.size)
 have bwA:=bw1.trans (bA.mono bw1.size)
 have hYA:=(hY.bl' b1).bl' bA
 have hC:=Slot1.new W1 (.slice av ll.length cv) 25
 have hb1s:w.heap.size+2≤W1.heap.size:=by have:=b1.size;omega
 clear hR1 hY h2 b1 b2 bw1 hsz
 go_wp2_with fail
 generalize W1.alloc (.cells #[.slice av ll.length cv] 25)=WA at *
 generalize W1.heap.size=C at *
 have hlenA:(M.cur f 0 0 ll).length=ll.length:=M.cur_len _ _ _ _
 go_loopw [14] (fun s14 wr=>∃ n:Nat,s14=.int .i64 n∧n≤ll.length∧Rdg wr (w.heap.size+2) (.slice av ll.length cv) (M.cur f n 0 ll) vs∧Slot1 wr C (.slice av ll.length cv)∧Slot1 wr (w.heap.size+1) (.slice none 0 0)∧Below w.heap.size w wr) (fun s14 _=>ll.length - (intOf s14).toNat)
 case atStart=>exact ⟨0,rfl,Nat.zero_le _,by rw [M.cur_zero];exact hRA,hC,hYA,bwA⟩
 case round =>
  obtain ⟨n,rfl,hn,hR,hP,hQ,hbel⟩:=hrel
  clear hRA hC hYA bwA hlenA
  by_cases hlt:n < ll.length
  ·have hR':=hR
   rw [← M.cur_len f n 0 ll] at hR'
   obtain ⟨gv,rfl,hv,hc⟩:=hR'.outer_at (n:=n) (by rw [M.cur_len];exact hlt)
   obtain ⟨a',c',e1,hin⟩:=hR.cur_at hlt hv
   rw [e1] at hc
   have ht7:=h7 _ (List.getElem_mem hlt)
   have i1:(n:Int) < ll.length:=by omega
   have HT:Hid (∀ k (hk:k < ll[n].length),∃ t∈ll,ll[n][k]∈t):=fun k hk=>⟨ll[n],List.getElem_mem hlt,List.getElem_mem hk⟩
   have HS:Hid (∀ (k g:Nat) (W W':World) (hk:k < ll[n].length),a'=some ⟨g,0,none⟩→Rdg W (w.heap.size+2) (.slice (some ⟨gv,0,none⟩) ll.length cv) (M.cur f n k ll) vs→Chg W W' g (k * 3) ll[n][k] (f ll[n][k])→Rdg W' (w.heap.size+2) (.slice (some ⟨gv,0,none⟩) ll.length cv) (M.cur f n (k+1) ll) vs∧W.grownBy W' (some g)∧w.heap.size+2≤g∧g < C):=by
    intro k g W W' hk ha hr hch
    subst ha
    have r:=hr.step hlt hk hv e1 hch
    exact ⟨r.1,r.2.1,r.2.2,HV n hv g (by rw [e1];rfl)⟩
   have HA:Hid (∀ (k:Nat) (W:World),Rdg W (w.heap.size+2) (.slice (some ⟨gv,0,none⟩) ll.length cv) (M.cur f n k ll) vs→∀ hk:k < ll[n].length,∃ g,a'=some ⟨g,0,none⟩∧w.heap.size+2≤g∧DoAt W g (k * 3) ll[n][k]∧∀ i,W.frozen? ⟨g,i,none⟩=false):=by
    intro k W hr hk
    obtain ⟨a2,c2,e2,h2⟩:=hr.cur_at hlt hv
    rw [e1] at e2
    obtain ⟨rfl,_,rfl⟩:=Value.slice.inj e2
    exact h2 hk
   have HN:Hid (∀ k,ll[n].length≤k→M.cur f n k ll=M.cur f (n+1) 0 ll):=fun k hk=>M.cur_next f n k ll hlt hk
   clear hin e1 hR'
   generalize ll[n]=t at *
   go_wp2_with fail
   go_loopw [20] (fun s20 wi=>∃ k:Nat,s20=.int .i64 k∧k≤t.length∧Rdg wi (w.heap.size+2) (.slice (some ⟨gv,0,none⟩) ll.length cv) (M.cur f n k ll) vs∧Slot1 wi C (.slice (some ⟨gv,0,none⟩) ll.length cv)∧Slot1 wi (w.heap.size+1) (.slice none 0 0)∧Below w.heap.size w wi) (fun s20 _=>t.length - (intOf s20).toNat)
   case atStart=>exact ⟨0,rfl,Nat.zero_le _,hR,hP,hQ,hbel⟩
   case round =>
    obtain ⟨k,rfl,hk,hR,hP,hQ,hbel⟩:=hrel
    by_cases hkt:k < t.length
    ·obtain ⟨g,rfl,hg,hd,hf⟩:=HA.out k _ hR hkt
     have j1:(k:Int) < t.length:=by omega
     have HS1:Hid (∀ W',Chg wr W' g (k * 3) t[k] (f t[k])→Rdg W' (w.heap.size+2) (.slice (some ⟨gv,0,none⟩) ll.length cv) (M.cur f n (k+1) ll) vs∧wr.grownBy W' (some g)∧w.heap.size+2≤g∧g < C):=fun W' hch=>HS.out k g wr W' hkt rfl hR hch
     have CC:=hcl wr g (k * 3) t[k] hbel (by omega) (HT.out k hkt) hd hf
     generalize t[k]=d at *
     go_wp2_with (first | (go_at_call 53;refine CC.mono ?_;rintro e W2 ⟨rfl,hch⟩))
     obtain ⟨r1,r2,r3,r4⟩:=HS1.out _ hch
     exact ⟨⟨k+1,by go_num,by omega,r1,hP.apart r2 (fun e=>by have:=Option.some.inj e;omega),hQ.apart r2 (fun e=>by have:=Option.some.inj e;omega),below_grown hbel r2 (fun j hj=>by have:=Option.some.inj hj;omega) hbel.size⟩,by simp [intOf];omega⟩
    ·have j1:¬ (k:Int) < t.length:=by omega
     rw [HN.out k (by omega)] at hR
     go_wp2_with fail
     exact ⟨⟨n+1,by go_num,by omega,hR,hP,hQ,hbel⟩,by simp [intOf];omega⟩
  ·rw [M.cur_all f n 0 ll (by omega)] at hR
   have i1:¬ (n:Int) < ll.length:=by omega
   have p0:=hP.c
   have pf:=hP.fz
   have q0:=hQ.c
   have qf:=hQ.fz
   have lP:=hP.lt
   have lQ:=hQ.lt
   have hne:w.heap.size+1≠C:=by omega
   go_wp2_with fail
   have q1:=(hQ.set (.slice av ll.length cv)).c
   exact bodyPost_ret (v:=.agg #[.slice av ll.length cv]) (by simp [results,Tryz.results52,go_sem,q1]) rfl ⟨_,rfl,⟨vs,(hR.far (by omega) _).mono (by omega)⟩,hbel.setCell (by show w.heap.size≤w.heap.size+1;omega) _⟩
end Go.Proofs.YtjjkicffhpcngaaGreat
namespace Go.Proofs.YtjjkicffhpcngaaGreat
open Go.RowKit
set_option maxHeartbeats 400000 in
theorem plain_any (k:Int) (w:World) :
  Calls Tryz.prog 54 #[.int .i64 k] w fun e w'=>e=.returned (.int .i64 (M.plainK k))∧w'=w:=by
 by_cases h5:k=5
 ·subst h5
  go_enter Tryz.func54,Tryz.ntmps54
  go_wp2_with fail
  go_ret
  exact ⟨rfl,rfl⟩
 ·have h5':(k==5)=false:=by simpa using h5
  by_cases h6:k=6
  ·subst h6
   go_enter Tryz.func54,Tryz.ntmps54
   go_wp2_with fail
   go_ret
   exact ⟨rfl,rfl⟩
  ·have h6':(k==6)=false:=by simpa using h6
   go_enter Tryz.func54,Tryz.ntmps54
   go_wp2_with fail
   go_ret
   exact ⟨by simp [M.plainK,h5,h6],rfl⟩
set_option maxHeartbeats 1000000 in
theorem plainC_any (g off:Nat) (d:M.D) (W:World) (hd:DoAt W g off d) (hf:∀ i,W.frozen? ⟨g,i,none⟩=false) :
  Calls Tryz.prog 53 #[.pointer (some ⟨g,off,none⟩)] W fun e w'=>e=.returned (.tuple #[])∧Chg W w' g off d (M.plainF d):=by
 obtain ⟨kk,pp,vv⟩:=d
 obtain ⟨ck,cp,cv⟩:=hd
 have f0:=hf off
 go_enter Tryz.func53,Tryz.ntmps53
 go_wp2_with (go_at_call 54;refine (plain_any _ _).mono ?_;rintro e w' ⟨rfl,rfl⟩)
 exact bodyPost_end (v:=.tuple #[]) (results_none Tryz.results53 _ _ _) rfl ⟨rfl,0,Or.inr (Or.inl ⟨rfl,rfl,rfl⟩)⟩
set_option maxHeartbeats 1000000 in
theorem iturnPlain_any (a:Option Addr) (b o c:Nat) (ll:List (List M.D)) (hl:ll.length≤1048576) (hls:∀ t∈ll,t.length≤1048576) (w:World) (h:DoSS w a b o ll) :
  Calls Tryz.prog 24 #[.agg #[.slice a ll.length c]] w fun e w'=>∃ v,e=.returned (.agg #[v])∧(∃ vs,Rdg w' w.heap.size v (M.turnPlain ll) vs)∧Below w.heap.size w w':=by
 have b2:=below2 w (.cells #[.slice a ll.length c] 25) (.cells #[.slice none 0 0] 25)
 have h2:=h.below b2 (Nat.le_refl _)
 have hX:=(Slot1.new w (.slice a ll.length c) 25).bl' (below1 _ (.cells #[.slice none 0 0] 25))
 have hY:=Slot1.new (w.alloc (.cells #[.slice a ll.length c] 25)) (.slice none 0 0) 25
 rw [World.size_alloc] at hY
 go_enter Tryz.func24,Tryz.ntmps24
 go_wp2_with fail
 generalize (w.alloc (.cells #[.slice a ll.length c] 25)).alloc (.cells #[.slice none 0 0] 25)=W at *
 have CP:=iprog_any a b o c ll W hl hls h2
 cases hp:M.prog ll
 ·rw [hp] at CP
  refine CP.mono ?_
  rintro e W1 ⟨rfl,b1⟩
  have hY1:=hY.bl' b1
  have y0:=hY1.c
  have yf:=hY1.fz
  have ly:=hY1.lt
  have bw1:=b2.trans (b1.mono b2.size)
  have hno:=M.turnPlain_bad hp
  go_wp2_with fail
  have q1:=(hY1.set (.slice none 0 0)).c
  exact bodyPost_ret (v:=.agg #[.slice none 0 0]) (by simp [results,Tryz.results24,go_sem,q1]) rfl ⟨_,rfl,⟨[],by rw [hno];exact Rdg.nil _ _⟩,bw1.setCell (by show w.heap.size≤w.heap.size+1;omega) _⟩
 ·rw [hp] at CP
  obtain ⟨h3,h7⟩:=M.prog_le hp
  have HY:Hid (M.turnPlain ll=M.mapS M.plainF ll):=M.turnPlain_yes hp
  clear hp
  refine CP.mono ?_
  rintro e W1 ⟨rfl,b1⟩
  have h1:=h2.below b1 (Nat.le_refl _)
  have hX1:=hX.bl' b1
  have hY1:=hY.bl' b1
  have bw1:=b2.trans (b1.mono b2.size)
  have x0:=hX1.c
  have ly1:=hY1.lt
  clear CP h2 hX hY b1 b2
  go_wp2_with fail
  refine (changeQ_any a b o c ll M.plainF W1 h3 h7 h1 (fun Wx g off d _ _ _ hda hf=>plainC_any g off d Wx hda hf)).mono ?_
  rintro e W3 ⟨v3,rfl,⟨vs,hR⟩,b3⟩
  have hY3:=hY1.bl' b3
  have y0:=hY3.c
  have yf:=hY3.fz
  have ly:=hY3.lt
  have bw3:=bw1.trans (b3.mono bw1.size)
  obtain ⟨av,gv,cv,rfl,_⟩:=hR.b.ss
  rw [M.mapS_len] at hR ⊢
  go_wp2_with fail
  have q1:=(hY3.set (.slice av ll.length cv)).c
  exact bodyPost_ret (v:=.agg #[.slice av ll.length cv]) (by simp [results,Tryz.results24,go_sem,q1]) rfl ⟨_,rfl,⟨vs,by rw [HY.out];exact (hR.far (by omega) _).mono (by have:=bw1.size;omega)⟩,bw3.setCell (by show w.heap.size≤w.heap.size+1;omega) _⟩
end Go.Proofs.YtjjkicffhpcngaaGreat
namespace Go.Proofs.YtjjkicffhpcngaaGreat
open Go.RowKit
set_option maxHeartbeats 4000000 in
set_option maxRecDepth 100000 in
theorem sturnPlain_any (a:Option Addr) (b o c:Nat) (ll:List (List M.D)) (hl:ll.length≤1048576) (hls:∀ t∈ll,t.length≤1048576) (w:World) (h:DoSS w a b o ll) :
  Calls Tryz.prog 26 #[.agg #[.slice a ll.length c]] w fun e w'=>∃ v,e=.returned (.agg #[v])∧(∃ vs,Rdg w' w.heap.size v (M.turnPlain ll) vs)∧Below w.heap.size w w':=by
 obtain ⟨i0,hi,hz0,hz1,hz2⟩:=info_parts Tryz.info41
 obtain ⟨j0,hj,hy0,hy1,hy2⟩:=info_parts Tryz.info43
 have bw1:=below2 w (.cells #[.slice a ll.length c] 25) (.cells #[.slice none 0 0] 25)
 have hD:=h.below bw1 (Nat.le_refl _)
 have hX1:=(Slot1.new w (.slice a ll.length c) 25).bl' (below1 _ (.cells #[.slice none 0 0] 25))
 have hY1:=Slot1.new (w.alloc (.cells #[.slice a ll.length c] 25)) (.slice none 0 0) 25
 rw [World.size_alloc] at hY1
 have HSZ:Hid (((w.alloc (.cells #[.slice a ll.length c] 25)).alloc (.cells #[.slice none 0 0] 25)).heap.size=w.heap.size+1+1):=by show _=_;simp
 go_enter Tryz.func26,Tryz.ntmps26
 go_wp2_with fail
 generalize (w.alloc (.cells #[.slice a ll.length c] 25)).alloc (.cells #[.slice none 0 0] 25)=W2 at *
 have bA:=below1 W2 (.cells #[.slice none 0 0] 25)
 have hYA:=hY1.bl' bA
 have hZA:=Slot1.new W2 (.slice none 0 0) 25
 rw [HSZ.out] at hZA
 have lX:=hX1.lt
 have lY:=hY1.lt
 have hX1c:=hX1.c
 have CP:=fun W hb=>sprog_any a b o c ll W hl hls (hD.below (w':=W) hb (Nat.le_refl W2.heap.size))
 generalize W2.alloc (.cells #[.slice none 0 0] 25)=WA at *
 cases hp:M.prog ll
 ·rw [hp] at CP
  have hno:=M.turnPlain_bad hp
  go_loopw [4] (fun s4 wr=>s4=.int .i64 0∧Slot1 wr (w.heap.size+1+1) (.slice none 0 0)∧Slot1 wr (w.heap.size+1) (.slice none 0 0)∧Below W2.heap.size W2 wr) (fun _ _=>0)
  case atStart=>exact ⟨rfl,hZA,hYA,bA⟩
  case round =>
   obtain ⟨rfl,hP,hY,hbel⟩:=hrel
   have xx0:=(hbel.cell (p:=⟨w.heap.size,0,none⟩) lX).trans hX1c
   have CPr:=CP wr hbel
   have hne:w.heap.size+1≠w.heap.size+1+1:=by omega
   clear hZA hYA bA CP
   by_cases h0:0 < ll.length
   ·have h0':(0:Int) < ll.length:=by omega
    go_wp2_with (first | (go_at_call 27;refine CPr.mono ?_;rintro e W3 ⟨rfl,b3⟩;have hP3:=hP.bl' b3;have hY3:=hY.bl' b3;have p0:=hP3.c;have pf:=hP3.fz;have q0:=hY3.c;have qf:=hY3.fz;have lP:=hP3.lt;have lQ:=hY3.lt))
    have hbw:=bw1.trans ((hbel.trans (b3.mono hbel.size)).mono bw1.size)
    have q1:=(hY3.set (.slice none 0 0)).c
    exact bodyPost_ret (v:=.agg #[.slice none 0 0]) (by simp [results,Tryz.results26,go_sem,q1]) rfl ⟨_,rfl,⟨[],by first | (rw [hno];exact Rdg.nil _ _) | exact Rdg.nil _ _⟩,hbw.setCell (by show w.heap.size≤w.heap.size+1;omega) _⟩
   ·have h0':¬ (0:Int) < ll.length:=by omega
    have h00:decide ((0:Int) < ll.length)=false:=by simpa using h0'
    have p0:=hP.c
    have pf:=hP.fz
    have q0:=hY.c
    have qf:=hY.fz
    have lP:=hP.lt
    have lQ:=hY.lt
    go_wp2_with fail
    have hbw:=bw1.trans (hbel.mono bw1.size)
    have q1:=(hY.set (.slice none 0 0)).c
    exact bodyPost_ret (v:=.agg #[.slice none 0 0]) (by simp [results,Tryz.results26,go_sem,q1]) rfl ⟨_,rfl,⟨[],by first | (rw [hno];exact Rdg.nil _ _) | exact Rdg.nil _ _⟩,hbw.setCell (by show w.heap.size≤w.heap.size+1;omega) _⟩
 ·rw [hp] at CP
  have HY:Hid (M.turnPlain ll=M.mapS M.plainF ll):=M.turnPlain_yes hp
  obtain ⟨h3,h7⟩:=M.prog_le hp
  clear hp
  go_loopw [4] (fun s4 wr=>∃ (n:Nat) (v:Value) (vs:List Value),s4=.int .i64 n∧n≤ll.length∧Rdg wr (w.heap.size+3) v (M.mapS M.plainF (ll.take n)) vs∧Slot1 wr (w.heap.size+1+1) v∧Slot1 wr (w.heap.size+1) (.slice none 0 0)∧Below W2.heap.size W2 wr) (fun s4 _=>ll.length - (intOf s4).toNat)
  case atStart=>exact ⟨0,.slice none 0 0,[],rfl,Nat.zero_le _,by simpa [M.mapS] using Rdg.nil _ _,hZA,hYA,bA⟩
  case round =>
   obtain ⟨n,v,vs,rfl,hn,hR0,hP0,hY0,hbel0⟩:=hrel
   clear hZA hYA bA
   have hsz2:=HSZ.out
   have xx00:=(hbel0.cell (p:=⟨w.heap.size,0,none⟩) lX).trans hX1c
   have CPr:=CP wr hbel0
   clear CP
   by_cases hlt:n < ll.length
   ·obtain ⟨rfl⟩:=h.addr (by omega)
    obtain ⟨a',b',o',c',hc0,hd0⟩:=hD.row n hlt
    have HW:Hid (M.mapS M.plainF (ll.take (n+1))=M.mapS M.plainF (ll.take n)++[ll[n].map M.plainF]):=M.mapS_take _ ll n hlt
    have hmm:(M.mapS M.plainF (ll.take n)).length≤3:=by rw [M.mapS_len];simp;omega
    have ht7:=h7 _ (List.getElem_mem hlt)
    generalize ll[n]=t at *
    generalize M.mapS M.plainF (ll.take n)=mm at *
    have i1:(n:Int) < ll.length:=by omega
    obtain ⟨av,gv,cv,rfl,_⟩:=hR0.b.ss
    have HSZ2:Hid (W2.heap.size=w.heap.size+1+1):=hsz2
    clear hsz2
    go_wp2_with (first | (go_at_call 27;refine CPr.mono ?_;rintro e W3 ⟨rfl,b3⟩;have hR:=hR0.below b3;have hP:=hP0.bl' b3;have hY:=hY0.bl' b3;have hbel:=hbel0.trans (b3.mono hbel0.size);have hc:=(hbel.cell (p:=⟨b,o+n,none⟩) (World.block_lt_of_cell? _ _ hc0)).trans hc0;have xx0:=(hbel.cell (p:=⟨w.heap.size,0,none⟩) lX).trans hX1c;have lX3:w.heap.size < W3.heap.size:=World.block_lt_of_cell? _ _ xx0;have lP:=hP.lt;have lcr:b < W3.heap.size:=World.block_lt_of_cell? _ _ hc;have bE:Below W3.heap.size W3 (W3.alloc (.cells #[] 43)):=below1 _ _;have OA:(W3.alloc (.cells #[] 43)).ownsRow W3.heap.size 43 3 (.slice (some ⟨W3.heap.size,0,none⟩) 0 0) 0 []:=own_emp (heap_alloc_new W3 _) (Nat.le_refl _);have DA:DoS (W3.alloc (.cells #[] 43)) a' b' o' t:=(hd0.below hbel (Nat.le_refl _)).below bE (Nat.le_refl _)) | (at_builtin;refine wpList_append_does rfl (.tmp 19) (.tmp 24) 41 rfl (some 25) rfl W3.heap.size 43 j0 Tryz.underlying41 hj hy0 hy1 hy2 W3.heap.size rfl OA (by simp) a' b' o' c' t rfl DA (by omega) ?_))
    intro v4 w4 ho4 hg4 _
    obtain ⟨a4,c4,rfl⟩:=own_slx ho4
    have b4:Below W3.heap.size W3 w4:=below_grown bE hg4 (fun j hj=>by have:W3.heap.size=j:=Option.some.inj hj;omega) bE.size
    have hP2:w.heap.size+1+1 < W3.heap.size:=lP
    clear hg4 OA DA bE hR0 hP0 hY0 hbel0 xx00 CPr b3 xx0 hc
    go_wp2_with fail
    go_loopw [6] (fun s6 wi=>∃ k:Nat,s6=.int .i64 k∧k≤t.length∧wi.ownsRow W3.heap.size 43 3 (.slice a4 t.length c4) t.length (flat (M.curT M.plainF k t))∧Below W3.heap.size W3 wi) (fun s6 _=>t.length - (intOf s6).toNat)
    case atStart=>exact ⟨0,rfl,Nat.zero_le _,by rw [M.curT_zero];exact ho4,b4⟩
    case round =>
     obtain ⟨k,rfl,hk,ho,hbi⟩:=hrel
     have hbs:=hbi.size
     by_cases hkt:k < t.length
     ·have hkk:k < (M.curT M.plainF k t).length:=by rw [M.curT_len];exact hkt
      have HG:∃ g,a4=some ⟨g,0,none⟩∧W3.heap.size≤g:=by
       rcases ho.2 with ⟨e,_⟩ | ⟨g,cap,cur,e,hg,_⟩
       ·simp only [Value.slice.injEq] at e;omega
       ·simp only [Value.slice.injEq] at e;exact ⟨g,e.1,hg⟩
      obtain ⟨g,rfl,hgg⟩:=HG
      have hfz:=own_fzS ho
      have hat:DoAt wr g (k * 3) t[k]:=by
       have ho':=ho
       rw [← M.curT_len M.plainF k t] at ho'
       obtain ⟨a5,g5,c5,e5,hd5,_⟩:=own_steps ho'
       simp only [Value.slice.injEq] at e5
       have e6:=hd5.addr (by omega)
       rw [← e5.1] at e6
       simp at e6
       have:=hd5.row k hkk
       rw [← e6,Nat.zero_add,M.curT_get _ k t hkt] at this
       exact this
      have HCH:Hid (∀ W',Chg wr W' g (k * 3) t[k] (M.plainF t[k])→W'.ownsRow W3.heap.size 43 3 (.slice (some ⟨g,0,none⟩) t.length c4) t.length (flat (M.curT M.plainF (k+1) t))∧wr.grownBy W' (some g)):=by
       intro W' hch
       have e:=M.curT_get M.plainF k t hkt hkk
       have r:=own_chg ho hkk (by rw [e];exact hch)
       rw [M.curT_set M.plainF k t hkt] at r
       exact r
      generalize t[k]=d at *
      have j1:(k:Int) < t.length:=by omega
      obtain ⟨kk,pp,vv⟩:=d
      obtain ⟨ck,cp,cv'⟩:=hat
      have f0:=hfz (k * 3)
      by_cases h5:kk=5
      ·subst h5
       have r:=HCH.out (wr.setCell ⟨g,k * 3,none⟩ (.int .i64 2)) ⟨0,Or.inr (Or.inl ⟨rfl,rfl,rfl⟩)⟩
       have r2:Below W3.heap.size W3 (wr.setCell ⟨g,k * 3,none⟩ (.int .i64 2)):=hbi.setCell hgg _
       clear HCH ho
       go_wp2_with fail
       exact ⟨⟨k+1,by go_num,by omega,r.1,r2⟩,by simp [intOf];omega⟩
      ·have h5':(kk==5)=false:=by simpa using h5
       by_cases h6:kk=6
       ·subst h6
        have r:=HCH.out (wr.setCell ⟨g,k * 3,none⟩ (.int .i64 1)) ⟨0,Or.inr (Or.inl ⟨rfl,rfl,rfl⟩)⟩
        have r2:Below W3.heap.size W3 (wr.setCell ⟨g,k * 3,none⟩ (.int .i64 1)):=hbi.setCell hgg _
        clear HCH ho
        go_wp2_with fail
        exact ⟨⟨k+1,by go_num,by omega,r.1,r2⟩,by simp [intOf];omega⟩
       ·have h6':(kk==6)=false:=by simpa using h6
        have r:=HCH.out wr ⟨0,Or.inl ⟨rfl,by simp [M.plainF,M.plainK,h5,h6]⟩⟩
        clear HCH ho
        go_wp2_with fail
        exact ⟨⟨k+1,by go_num,by omega,r.1,hbi⟩,by simp [intOf];omega⟩
     ·rw [M.curT_all _ k t (by omega)] at ho
      have j1:¬ (k:Int) < t.length:=by omega
      have hRi:=hR.below hbi
      have hPi:=hP.bl' hbi
      have hYi:=hY.bl' hbi
      have hlap:∀ i (hi:i < vs.length) k,vs[i].ownBlock=some k→(Value.slice a4 t.length c4).ownBlock≠some k:=fun i hi j hj e=>by
       have h1:=(hR.b.inner i (by have:=hR.b.len;omega) hi).lt j hj
       have h2:=own_ge ho j e
       omega
      have hol:wr.ownsRow W3.heap.size 43 3 (.slice a4 t.length c4) (t.map M.plainF).length (flat (t.map M.plainF)):=by rw [List.length_map];exact ho
      have hown':=ownsRow_mono hol (show w.heap.size+3≤_ from by omega)
      have p0:=hPi.c
      have pf:=hPi.fz
      have lPi:=hPi.lt
      have hout:=hRi.b.outer
      have hRE:Hid (Rdg wr (w.heap.size+3) (.slice av mm.length cv) mm vs):=hRi
      have hPE:Hid (Slot1 wr (w.heap.size+1+1) (.slice av mm.length cv)):=hPi
      have hYE:Hid (Slot1 wr (w.heap.size+1) (.slice none 0 0)):=hYi
      have hbW:Below W2.heap.size W2 wr:=hbel.trans (hbi.mono hbel.size)
      generalize t.map M.plainF=tt at *
      clear hol ho hR hP hY hPi hYi hRi
      go_wp2_with (at_builtin;refine wpList_append_lies _ rfl (.tmp 50) (.tmp 52) 23 rfl (w.heap.size+3) 41 i0 _ 1 24 Tryz.underlying23 hi hz0 hz1 hz2 rfl (by decide) _ _ vs rfl (hout.alloc _) ⟨wr.heap.size,0,none⟩ 1 1 [.slice a4 t.length c4] rfl rfl (World.news_of_block (cs:=#[.slice a4 t.length c4]) (t:=41) (fr:=(0,0)) (heap_alloc_new wr _)) (by simp [Value.oneCell']) (by omega) (by unfold maxLen;omega) (by omega) (by simp;omega) (wr.heap.size+1) (by simp) ?_)
      intro g2 cap2 w3 hown3 hg3 hat hlt3
      have hge:=own_ge hout
      have hs2:=HSZ2.out
      have bA:=below1 wr (.cells #[.slice a4 t.length c4] 41)
      have hP3:=(hPE.out.bl' bA).apart hg3 (fun e=>by have:=hge _ e;omega)
      have hY3:=(hYE.out.bl' bA).apart hg3 (fun e=>by have:=hge _ e;omega)
      have hR3:=(hRE.out.below bA).snocT (ownsRow_below hown' bA) hlap hown3 hg3
      have hb3:Below W2.heap.size W2 w3:=below_grown (hbW.trans (bA.mono hbW.size)) hg3 (fun k hk=>by have:=hge k hk;omega) (by have:=hbW.size;simp;omega)
      rw [← HW.out] at hR3
      clear hown3 hg3 hat hout hown' p0 pf hs2
      have p0:=hP3.c
      have pf:=hP3.fz
      go_wp2_with fail
      have hP4:=hP3.set (.slice (some ⟨g2,0,none⟩) (mm.length+1) cap2)
      exact ⟨⟨n+1,_,_,by go_num,by omega,hR3.far (by omega) _,hP4,hY3.far (by omega) _,hb3.setCell (by have:=HSZ2.out;show W2.heap.size≤w.heap.size+1+1;omega) _⟩,by simp [intOf];omega⟩
   ·have htk:ll.take n=ll:=List.take_of_length_le (by omega)
    rw [htk] at hR0
    have hkn':¬ (n:Int) < ll.length:=by omega
    have hkn2:decide ((n:Int) < ll.length)=false:=by simpa using hkn'
    obtain ⟨av,gv,cv,rfl,_⟩:=hR0.b.ss
    rw [M.mapS_len] at hR0 hP0
    have p0:=hP0.c
    have pf:=hP0.fz
    have q0:=hY0.c
    have qf:=hY0.fz
    have lP:=hP0.lt
    have lQ:=hY0.lt
    have hne:w.heap.size+1≠w.heap.size+1+1:=by omega
    have hbw:=bw1.trans (hbel0.mono bw1.size)
    clear hsz2
    go_wp2_with fail
    have q1:=(hY0.set (.slice av ll.length cv)).c
    exact bodyPost_ret (v:=.agg #[.slice av ll.length cv]) (by simp [results,Tryz.results26,go_sem,q1]) rfl ⟨_,rfl,⟨vs,by rw [HY.out];exact (hR0.far (by omega) _).mono (by omega)⟩,hbw.setCell (by show w.heap.size≤w.heap.size+1;omega) _⟩
end Go.Proofs.YtjjkicffhpcngaaGreat
namespace Go.Proofs.YtjjkicffhpcngaaGreat
namespace M
theorem Kept.copies {f:D→D} {P:D→Prop} (h:Kept f P) (l:List D):∀ r,copies r (l.map f)=copies r l:=by
 induction l with
 | nil=>intro r;rfl
 | cons d l ih=>intro r;simp only [List.map_cons,M.copies,h.k3,h.r,ih]
theorem Kept.readers {f:D→D} {P:D→Prop} (h:Kept f P) (l:List D):∀ i,readers i (l.map f)=readers i l:=by
 induction l with
 | nil=>intro i;rfl
 | cons d l ih=>intro i;simp only [List.map_cons,M.readers,h.k7,h.k8,h.k9,ih]
theorem Kept.thread {f:D→D} {P:D→Prop} (h:Kept f P) {t:List D} (ht:thread t=true) (hP:∀ d∈t,P d):M.thread (t.map f)=true:=by
 simp only [M.thread,form,Bool.and_eq_true,decide_eq_true_eq,List.all_eq_true,List.length_map,h.copies,h.readers] at ht ⊢
 refine ⟨⟨⟨ht.1.1.1,fun d hd=>?_⟩,ht.1.2⟩,ht.2⟩
 obtain ⟨x,hx,rfl⟩:=List.mem_map.1 hd
 exact h.ok x (hP x hx) (ht.1.1.2 x hx)
theorem Kept.cnt {f:D→D} {P:D→Prop} (h:Kept f P) (l:List D):cnt uses (l.map f)=cnt uses l:=by
 induction l with
 | nil=>rfl
 | cons d l ih=>rw [List.map_cons,cnt_cons,cnt_cons,h.u,ih]
theorem Kept.cntR {f:D→D} {P:D→Prop} (h:Kept f P) (l:List D):M.cnt M.reads (l.map f)=M.cnt M.reads l:=by
 induction l with
 | nil=>rfl
 | cons d l ih=>rw [List.map_cons,cnt_cons,cnt_cons,h.r,ih]
theorem Kept.tot {f:D→D} {P:D→Prop} (h:Kept f P) (ll:List (List D)):tot uses (mapS f ll)=tot uses ll∧tot M.reads (mapS f ll)=tot M.reads ll∧stp (mapS f ll)=stp ll:=by
 induction ll with
 | nil=>exact ⟨rfl,rfl,rfl⟩
 | cons t ll ih =>
  obtain ⟨i1,i2,i3⟩:=ih
  unfold mapS at i1 i2 i3 ⊢
  simp only [List.map_cons,M.tot,stp,h.cnt,h.cntR,i1,i2,i3,List.length_map]
  simp
theorem Kept.prog {f:D→D} {P:D→Prop} (h:Kept f P) {ll:List (List D)} (hp:prog ll=true) (hP:∀ t∈ll,∀ d∈t,P d):M.prog (mapS f ll)=true:=by
 rw [prog_iff] at hp ⊢
 obtain ⟨h1,h2,h3,h4⟩:=hp
 obtain ⟨k1,_,k3⟩:=h.tot ll
 refine ⟨by rw [mapS_len];exact h1,fun t ht=>?_,by rw [k3];exact h3,by rw [k1];exact h4⟩
 obtain ⟨x,hx,rfl⟩:=List.mem_map.1 ht
 exact h.thread (h2 x hx) (hP x hx)
end M
end Go.Proofs.YtjjkicffhpcngaaGreat
namespace Go.Proofs.YtjjkicffhpcngaaGreat
namespace M
theorem plainK_cases (k:Int):(k=5∧plainK k=2)∨(k=6∧plainK k=1)∨(plainK k=k∧k≠5∧k≠6):=by
 unfold plainK
 by_cases h5:k=5
 ·left;exact ⟨h5,by simp [h5]⟩
 ·by_cases h6:k=6
  ·right;left;exact ⟨h6,by simp [h6]⟩
  ·right;right;exact ⟨by simp [h5,h6],h5,h6⟩
theorem plain_kept:Kept plainF (fun _=>True):=by
 refine ⟨fun d _ hd=>?_,fun d=>?_,fun d=>?_,fun d=>?_,fun d=>?_,fun d=>?_,fun d=>?_⟩
 ·obtain ⟨k,p,v⟩:=d
  simp only [plainF]
  rcases plainK_cases k with ⟨rfl,e⟩ | ⟨rfl,e⟩ | ⟨e,_⟩
  ·rw [e];simpa [doOk,wordOk,placeOk,valOk,uses,reads,writes,stores] using hd
  ·rw [e];simpa [doOk,wordOk,placeOk,valOk,uses,reads,writes,stores] using hd
  ·rw [e];exact hd
 all_goals
  obtain ⟨k,p,v⟩:=d
  simp only [plainF]
  rcases plainK_cases k with ⟨rfl,e⟩ | ⟨rfl,e⟩ | ⟨e,_⟩<;>rw [e]<;>rfl
theorem plain_twice (d:D):plainF (plainF d)=plainF d:=by
 obtain ⟨k,p,v⟩:=d
 simp only [plainF]
 congr 1
 rcases plainK_cases k with ⟨rfl,e⟩ | ⟨rfl,e⟩ | ⟨e,_⟩
 ·rfl
 ·rfl
 ·rw [e,e]
theorem mapS_twice (ll:List (List D)):mapS plainF (mapS plainF ll)=mapS plainF ll:=by
 unfold mapS
 rw [List.map_map]
 apply List.map_congr_left
 intro t _
 simp only [Function.comp,List.map_map]
 apply List.map_congr_left
 intro d _
 exact plain_twice d
theorem turnPlain_fact {ll qq:List (List D)} (e:turnPlain ll=qq) (h:prog ll=true):prog qq=true∧turnPlain qq=qq∧nreads qq=nreads ll:=by
 rw [turnPlain_yes h] at e
 subst e
 have hp:=plain_kept.prog h (fun _ _ _ _=>trivial)
 exact ⟨hp,by rw [turnPlain_yes hp,mapS_twice],by rw [nreads_ok hp,nreads_ok h,(plain_kept.tot ll).2.1]⟩
end M
end Go.Proofs.YtjjkicffhpcngaaGreat
