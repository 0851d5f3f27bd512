/- impl.withWalls, impl.WallPut: a program with walls. Of at most 1048576 gaps, threads, and steps of a thread. -/
import Derived.Deep.AppendLies
import Derived.Test.YtjjkicffhpcngaaGreatBWas
namespace Go.Proofs.YtjjkicffhpcngaaGreat
open Go.RowKit
set_option maxHeartbeats 2000000 in
set_option maxRecDepth 10000 in
theorem withWalls_any (a:Option Addr) (b o c:Nat) (ll:List (List M.D)) (h3:ll.length≤3) (h7:∀ t∈ll,t.length≤7) (ga:Option Addr) (gb go gc:Nat) (gs:List Int) (hgl:gs.length≤1048576) (w:World) (h:DoSS w a b o ll) (hG:IntS w ga gb go gs) :
  Calls Tryz.prog 59 #[.agg #[.slice a ll.length c],.slice ga gs.length gc] w fun e w'=>∃ v,e=.returned (.agg #[v])∧∃ vs,Rdg w' w.heap.size v (M.walls gs 0 ll) vs∧Below w.heap.size w w':=by
 obtain ⟨i0,hi,hz0,hz1,hz2⟩:=info_parts Tryz.info41
 obtain ⟨i1,ji,jz0,jz1,jz2⟩:=info_parts Tryz.info43
 go_enter Tryz.func59,Tryz.ntmps59
 go_wp2_with fail
 go_loopw [6,15] (fun s6 s15 wr=>∃ (n:Nat) (v:Value) (vs:List Value),s6=.int .i64 (M.gapsN (ll.take n))∧s15=.int .i64 n∧n≤ll.length∧Rdg wr (w.heap.size+3) v (M.walls gs 0 (ll.take n)) vs∧Slot1 wr (w.heap.size+1+1) v∧Slot1 wr (w.heap.size+1) (.slice none 0 0)∧Below w.heap.size w wr) (fun _ s15 _=>ll.length - (intOf s15).toNat)
 case atStart =>
  refine ⟨0,.slice none 0 0,[],by simp [M.gapsN],rfl,Nat.zero_le _,by simpa [M.walls] using Rdg.nil _ _,?_,?_,below3 _ _ _ _⟩
  ·have:=Slot1.new ((w.alloc (.cells #[.slice a ll.length c] 25)).alloc (.cells #[.slice none 0 0] 25)) (.slice none 0 0) 25
   rwa [World.size_alloc,World.size_alloc] at this
  ·have:=(Slot1.new (w.alloc (.cells #[.slice a ll.length c] 25)) (.slice none 0 0) 25).bl' (below1 _ (.cells #[.slice none 0 0] 25))
   rwa [World.size_alloc] at this
 case round =>
  obtain ⟨n,v,vs,rfl,rfl,hn,hR,hP,hQ,hbel⟩:=hrel
  by_cases hlt:n < ll.length
  ·obtain ⟨rfl⟩:=h.addr (by omega)
   obtain ⟨a',b',o',c',hc,hd⟩:=(h.below hbel (Nat.le_refl _)).row n hlt
   have hGr:=hG.below hbel (Nat.le_refl _)
   have ht7:=h7 _ (List.getElem_mem hlt)
   have HW:Hid (M.walls gs 0 (ll.take (n+1))=M.walls gs 0 (ll.take n)++[M.wallT gs (M.gapsN (ll.take n)) ll[n]]):=M.walls_take gs ll n hlt
   have HN:Hid (M.gapsN (ll.take (n+1))=M.gapsN (ll.take n)+(ll[n].length - 1)):=M.gapsN_take ll n hlt
   have hgn:=M.gapsN_le (ll:=ll.take n) (fun t ht=>h7 t (List.mem_of_mem_take ht))
   have hgl3:(ll.take n).length≤3:=by simp;omega
   have hwl:(M.walls gs 0 (ll.take n)).length≤3:=by rw [M.walls_len];exact hgl3
   generalize hT:M.gapsN (ll.take n)=T at *
   clear hT
   generalize ll[n]=t at *
   generalize M.walls gs 0 (ll.take n)=mm at *
   have hTb:T≤18:=by omega
   clear hgn hgl3
   have i1':(n:Int) < ll.length:=by omega
   go_wp2_with fail
   go_loopw [6,9,21] (fun s6 s9 s21 wi=>∃ k:Nat,s6=.int .i64 ((T+(k - 1):Nat):Int)∧s21=.int .i64 k∧k≤t.length∧wi.ownsRow wr.heap.size 43 3 s9 (M.wallT gs T (t.take k)).length (flat (M.wallT gs T (t.take k)))∧Below wr.heap.size wr wi) (fun _ _ s21 _=>t.length - (intOf s21).toNat)
   case atStart=>exact ⟨0,by simp,rfl,Nat.zero_le _,by simpa [M.wallT,flat] using World.ownsRow_nil _ _ _ _,Below.refl _ _⟩
   case round =>
    obtain ⟨k,rfl,rfl,hk,hown,hbi⟩:=hrel
    by_cases hkt:k < t.length
    ·obtain ⟨rfl⟩:=hd.addr (by omega)
     have x1:=(hd.row k hkt).below hbi (Nat.le_refl _)
     have hGi:=hGr.below hbi (Nat.le_refl _)
     have HX:Hid (M.wallT gs T (t.take (k+1))=M.wallT gs T (t.take k)++(if 0 < k then M.pre gs (T+(k - 1)) else [])++[t[k]]):=M.wallT_take gs T t k hkt
     have hlen:=M.wallT_len gs T (t.take k)
     have hlen2:(t.take k).length≤7:=by simp;omega
     generalize M.wallT gs T (t.take k)=l at *
     have hl14:l.length≤14:=by omega
     clear hlen hlen2
     generalize t[k]=d at *
     obtain ⟨kk,pp,vv⟩:=d
     obtain ⟨ck,cp,cv⟩:=x1
     have j1:(k:Int) < t.length:=by omega
     have hbs:=hbi.size
     rcases Nat.eq_zero_or_pos k with hk0 | hk0
     ·subst hk0
      have HX0:Hid (M.wallT gs T (t.take 1)=l++[⟨kk,pp,vv⟩]):=by show _=_;simpa using HX.out
      have ck0:wr.cell? ⟨b',o',none⟩=some (.int .i64 kk):=by simpa using ck
      have cp0:wr.cell? ⟨b',o'+1,none⟩=some (.int .i64 pp):=by simpa using cp
      have cv0:wr.cell? ⟨b',o'+2,none⟩=some (.int .i64 vv):=by simpa using cv
      have j0:(0:Int) < t.length:=by omega
      have j00:0 < t.length:=by omega
      clear ck cp cv
      have bA:=below1 wr (.cells #[.int .i64 kk,.int .i64 pp,.int .i64 vv] 43)
      go_wp2_with (at_builtin;refine wpList_append_own _ rfl (.tmp 37) (.tmp 39) 41 rfl _ 43 i1 _ 3 24 Tryz.underlying41 ji jz0 jz1 jz2 rfl (by decide) _ _ _ rfl ((hown.alloc _).alloc _) ⟨wr.heap.size+1,0,none⟩ 1 1 [.int .i64 kk,.int .i64 pp,.int .i64 vv] rfl rfl (cells_new3 _ _ _ _ _ _ (by simp)) (one3 _ _ _) (by unfold maxLen;omega) (by omega) (by simp;omega) ?_)
      intro v' w3 hown3 hg3 _
      have hown4:=own_more HX0.out hown3
      have hb3:Below _ _ w3:=below_grown (hbi.trans ((below2 wr _ _).mono hbi.size)) hg3 (own_ge hown) (by simp;omega)
      clear hown3 hg3 hown
      go_wp2_with fail
      exact ⟨⟨1,by simp,by go_num,by omega,hown4,hb3⟩,by simp [intOf];omega⟩
     ·have hkd:(0:Int) < k:=by omega
      have HX1:Hid (M.wallT gs T (t.take (k+1))=l++M.pre gs (T+(k - 1))++[⟨kk,pp,vv⟩]):=by show _=_;have:=HX.out;rwa [if_pos hk0] at this
      clear HX
      have CC:=fun W hW=>containsI_any ga gb go gc gs ((T+(k - 1):Nat):Int) W hgl hW
      have eN:((T+(k - 1):Nat):Int)+1=((T+(k+1 - 1):Nat):Int):=by omega
      have hTk:T+(k - 1)≤100:=by omega
      have HN1:Hid (((T+(k - 1):Nat):Int)+1=((T+(k+1 - 1):Nat):Int)):=eN
      clear eN
      cases hhas:M.has gs ((T+(k - 1):Nat):Int)
      ·have HX2:Hid (M.wallT gs T (t.take (k+1))=l++[⟨kk,pp,vv⟩]):=by show _=_;rw [HX1.out,M.pre_no hhas];simp
       rw [hhas] at CC
       clear hhas
       generalize hTT:T+(k - 1)=TT at *
       have bA:=below1 wr (.cells #[.int .i64 kk,.int .i64 pp,.int .i64 vv] 43)
       have hGA:=hGi.below bA (Nat.le_refl _)
       go_wp2_with (first | (go_at_call 99;refine (CC _ hGA).mono ?_;rintro e w1 ⟨rfl,rfl⟩) | (at_builtin;refine wpList_append_own _ rfl (.tmp 37) (.tmp 39) 41 rfl _ 43 i1 _ 3 24 Tryz.underlying41 ji jz0 jz1 jz2 rfl (by decide) _ _ _ rfl ((hown.alloc _).alloc _) ⟨wr.heap.size+1,0,none⟩ 1 1 [.int .i64 kk,.int .i64 pp,.int .i64 vv] rfl rfl (cells_new3 _ _ _ _ _ _ (by simp)) (one3 _ _ _) (by unfold maxLen;omega) (by omega) (by simp;omega) ?_))
       intro v' w3 hown3 hg3 _
       have hown4:=own_more HX2.out hown3
       have hb3:Below _ _ w3:=below_grown (hbi.trans ((below2 wr _ _).mono hbi.size)) hg3 (own_ge hown) (by simp;omega)
       clear hown3 hg3 hown
       go_wp2_with fail
       exact ⟨⟨k+1,by rw [HN1.out],by go_num,by omega,hown4,hb3⟩,by simp [intOf];omega⟩
      ·have HX2:Hid (M.wallT gs T (t.take (k+1))=(l++[M.wall])++[⟨kk,pp,vv⟩]):=by show _=_;rw [HX1.out,M.pre_yes hhas]
       rw [hhas] at CC
       clear hhas
       generalize hTT:T+(k - 1)=TT at *
       have bA:=below1 wr (.cells #[.int .i64 kk,.int .i64 pp,.int .i64 vv] 43)
       have hGA:=hGi.below bA (Nat.le_refl _)
       go_wp2_with (first | (go_at_call 99;refine (CC _ hGA).mono ?_;rintro e w1 ⟨rfl,rfl⟩) | (at_builtin;refine wpList_append_own _ rfl (.tmp 31) (.tmp 33) 41 rfl _ 43 i1 _ 3 24 Tryz.underlying41 ji jz0 jz1 jz2 rfl (by decide) _ _ _ rfl ((hown.alloc _).alloc _) ⟨wr.heap.size+1,0,none⟩ 1 1 [.int .i64 4,.int .i64 0,.int .i64 0] rfl rfl (cells_new3 _ _ _ _ _ _ (by simp)) (one3 _ _ _) (by unfold maxLen;omega) (by omega) (by simp;omega) ?_))
       intro v2 w2 hown2 hg2 _
       have hown2':=own_more (m:=l++[M.wall]) rfl hown2
       have hD2:w2.cell? ⟨wr.heap.size,0,none⟩=some (.int .i64 kk)∧w2.cell? ⟨wr.heap.size,1,none⟩=some (.int .i64 pp)∧w2.cell? ⟨wr.heap.size,2,none⟩=some (.int .i64 vv):=by
        have hne:some wr.heap.size≠u9.ownBlock:=fun e=>by have:=(hown.lt _ e.symm).2;omega
        exact ⟨hg2.cell (by simp) hne,hg2.cell (by simp) hne,hg2.cell (by simp) hne⟩
       obtain ⟨d0,d1,d2⟩:=hD2
       have hb2:Below _ _ w2:=below_grown (hbi.trans ((below2 wr _ _).mono hbi.size)) hg2 (own_ge hown) (by simp;omega)
       have hll:(l++[M.wall]).length≤15:=by simp;omega
       have hbs2:=hb2.size
       clear hown2 hg2 hown
       generalize l++[M.wall]=l2 at *
       go_wp2_with (at_builtin;refine wpList_append_own _ rfl (.tmp 37) (.tmp 39) 41 rfl _ 43 i1 _ 3 24 Tryz.underlying41 ji jz0 jz1 jz2 rfl (by decide) _ _ _ rfl (hown2'.alloc _) ⟨w2.heap.size,0,none⟩ 1 1 [.int .i64 kk,.int .i64 pp,.int .i64 vv] rfl rfl (cells_new3 _ _ _ _ _ _ (by simp)) (one3 _ _ _) (by unfold maxLen;omega) (by omega) (by simp;omega) ?_)
       intro v' w3 hown3 hg3 _
       have hown4:=own_more HX2.out hown3
       have hb3:Below _ _ w3:=below_grown (hb2.trans ((below1 w2 _).mono hb2.size)) hg3 (own_ge hown2') (by simp;omega)
       clear hown3 hg3 hown2'
       go_wp2_with fail
       exact ⟨⟨k+1,by rw [HN1.out],by go_num,by omega,hown4,hb3⟩,by simp [intOf];omega⟩
    ·have htk:t.take k=t:=List.take_of_length_le (by omega)
     rw [htk] at hown
     have hkk:k=t.length:=by omega
     have HT:Hid (T+(k - 1)=M.gapsN (ll.take (n+1))):=by show _=_;rw [HN.out,hkk]
     clear hkk htk
     have hTk:T+(k - 1)≤100:=by omega
     have hRi:=hR.below hbi
     have hPi:=hP.bl' hbi
     have hQi:=hQ.bl' hbi
     have hbw:=hbel.trans (hbi.mono hbel.size)
     have hlap:∀ i (hi:i < vs.length) k,vs[i].ownBlock=some k→u9.ownBlock≠some k:=fun i hi j hj e=>by
      have h1:=(hR.b.inner i (by have:=hR.b.len;omega) hi).lt j hj
      have h2:=own_ge hown j e
      omega
     have hown':=ownsRow_mono hown (show w.heap.size+3≤_ from by have:=hP.lt;omega)
     obtain ⟨at_,gt,ct,rfl,_⟩:=own_steps hown
     have hlen:=M.wallT_len gs T t
     generalize M.wallT gs T t=tt at *
     obtain ⟨av,gv,cv,rfl,_⟩:=hRi.b.ss
     have p0:=hPi.c
     have pf:=hPi.fz
     have lP:=hPi.lt
     have hout:=hRi.b.outer
     clear hown hR hP hQ
     go_wp2_with (at_builtin;refine wpList_append_lies _ rfl (.tmp 43) (.tmp 45) 23 rfl (w.heap.size+3) 41 i0 _ 1 24 Tryz.underlying23 hi hz0 hz1 hz2 rfl (by decide) _ _ vs rfl (hout.alloc _) ⟨wr.heap.size,0,none⟩ 1 1 [.slice at_ tt.length ct] rfl rfl (World.news_of_block (cs:=#[.slice at_ tt.length ct]) (t:=41) (fr:=(0,0)) (heap_alloc_new wr _)) (by simp [Value.oneCell']) (by omega) (by unfold maxLen;omega) (by omega) (by simp;omega) (wr.heap.size+1) (by simp) ?_)
     intro g2 cap2 w3 hown3 hg3 hat hlt3
     have hge:=own_ge hout
     have bA:=below1 wr (.cells #[.slice at_ tt.length ct] 41)
     have hP3:=(hPi.bl' bA).apart hg3 (fun e=>by have:=hge _ e;omega)
     have hQ3:=(hQi.bl' bA).apart hg3 (fun e=>by have:=hge _ e;omega)
     have hR3:=(hRi.below bA).snocT (ownsRow_below hown' bA) hlap hown3 hg3
     have hb3:Below w.heap.size w w3:=below_grown (hbw.trans (bA.mono hbw.size)) hg3 (fun k hk=>by have:=hge k hk;omega) (by have:=hbw.size;simp;omega)
     rw [← HW.out] at hR3
     clear hown3 hg3 hat hout hown' p0 pf hRi hPi hQi
     have p0:=hP3.c
     have pf:=hP3.fz
     go_wp2_with fail
     have hP4:=hP3.set (.slice (some ⟨g2,0,none⟩) (mm.length+1) cap2)
     exact ⟨⟨n+1,_,_,by have:=HT.out;congr 1;omega,by go_num,by omega,hR3.far (by omega) _,hP4,hQ3.far (by omega) _,hb3.setCell (by show w.heap.size≤w.heap.size+1+1;omega) _⟩,by simp [intOf];omega⟩
  ·have hW:M.walls gs 0 (ll.take n)=M.walls gs 0 ll:=by rw [List.take_of_length_le (by omega)]
   rw [hW] at hR
   obtain ⟨av,gv,cv,rfl,_⟩:=hR.b.ss
   have p0:=hP.c
   have pf:=hP.fz
   have q0:=hQ.c
   have qf:=hQ.fz
   have lP:=hP.lt
   have lQ:=hQ.lt
   have hne:w.heap.size+1≠w.heap.size+1+1:=by omega
   go_wp2_with fail
   have q1:=(hQ.set (.slice av (M.walls gs 0 ll).length cv)).c
   exact bodyPost_ret (v:=.agg #[.slice av (M.walls gs 0 ll).length cv]) (by simp [results,Tryz.results59,go_sem,q1]) rfl ⟨_,rfl,vs,(hR.far (by omega) _).mono (by omega),hbel.setCell (by show w.heap.size≤w.heap.size+1;omega) _⟩
set_option maxHeartbeats 1000000 in
theorem iwallPut_any (a:Option Addr) (b o c:Nat) (ll:List (List M.D)) (hl:ll.length≤1048576) (hls:∀ t∈ll,t.length≤1048576) (ga:Option Addr) (gb go gc:Nat) (gs:List Int) (hgl:gs.length≤1048576) (w:World) (h:DoSS w a b o ll) (hG:IntS w ga gb go gs) :
  Calls Tryz.prog 33 #[.agg #[.slice a ll.length c],.slice ga gs.length gc] w fun e w'=>∃ v,e=.returned (.tuple #[.agg #[v],.bool (M.wallPut ll gs).isSome])∧∃ vs,Rdg w' w.heap.size v ((M.wallPut ll gs).getD []) vs∧Below w.heap.size w w':=by
 have b2:=below2 w (.cells #[.slice a ll.length c] 25) (.cells #[.slice none 0 0] 25)
 have h2:=h.below b2 (Nat.le_refl _)
 have hG2:=hG.below b2 (Nat.le_refl _)
 have hX:=(Slot1.new w (.slice a ll.length c) 25).bl' (below1 _ (.cells #[.slice none 0 0] 25))
 have hY:=Slot1.new (w.alloc (.cells #[.slice a ll.length c] 25)) (.slice none 0 0) 25
 rw [World.size_alloc] at hY
 go_enter Tryz.func33,Tryz.ntmps33
 go_wp2_with fail
 generalize (w.alloc (.cells #[.slice a ll.length c] 25)).alloc (.cells #[.slice none 0 0] 25)=W at *
 refine (igaps_any a b o c ll W hl hls h2).mono ?_
 rintro e W1 ⟨rfl,b1⟩
 have h1:=h2.below b1 (Nat.le_refl _)
 have hG1:=hG2.below b1 (Nat.le_refl _)
 have hX1:=hX.bl' b1
 have hY1:=hY.bl' b1
 have bw1:=b2.trans (b1.mono b2.size)
 clear h2 hG2 hX hY b1 h hG
 have x0:=hX1.c
 have y0:=hY1.c
 have yf:=hY1.fz
 have ly:=hY1.lt
 cases hp:M.prog ll
 ·rw [M.gaps_no hp]
  have hno:=M.wallPut_bad (gs:=gs) hp
  go_wp2_with fail
  have q1:=(hY1.set (.slice none 0 0)).c
  exact bodyPost_ret (v:=.tuple #[.agg #[.slice none 0 0],.bool false]) (by simp [results,Tryz.results33,go_sem,q1]) rfl ⟨_,by rw [hno];rfl,[],by rw [hno];exact Rdg.nil _ _,bw1.setCell (by show w.heap.size≤w.heap.size+1;omega) _⟩
 ·have hgn:0≤M.gaps ll:=by rw [M.gaps_ok hp];omega
  have hgn':¬ M.gaps ll < 0:=by omega
  have hgn'':decide (M.gaps ll < 0)=false:=by simpa using hgn
  obtain ⟨h3,h7⟩:=M.prog_le hp
  have CG:=gapsOk_any ga gb go gc gs (M.gaps ll) W1 hgl hG1
  cases hok:M.gapsOk gs (M.gaps ll)
  ·have hno:=M.wallPut_gaps hok
   rw [hok] at CG
   generalize M.gaps ll=G at *
   go_wp2_with (go_at_call 58;refine CG.mono ?_;rintro e W2 ⟨rfl,rfl⟩)
   have q1:=(hY1.set (.slice none 0 0)).c
   exact bodyPost_ret (v:=.tuple #[.agg #[.slice none 0 0],.bool false]) (by simp [results,Tryz.results33,go_sem,q1]) rfl ⟨_,by rw [hno];rfl,[],by rw [hno];exact Rdg.nil _ _,bw1.setCell (by show w.heap.size≤w.heap.size+1;omega) _⟩
  ·rw [hok] at CG
   have HQ:Hid (M.gapsOk gs (M.gaps ll)=true):=hok
   have HPq:Hid (M.prog ll=true):=hp
   clear hok hp
   obtain ⟨G,hGG⟩:∃ G,M.gaps ll=G:=⟨_,rfl⟩
   have HG:Hid (M.gaps ll=G):=hGG
   rw [hGG] at CG hgn hgn' hgn'' ⊢
   clear hGG
   go_wp2_with (first | (go_at_call 58;refine CG.mono ?_;rintro e W2 ⟨rfl,rfl⟩))
   refine (withWalls_any a b o c ll h3 h7 ga gb go gc gs hgl _ h1 hG1).mono ?_
   rintro e W3 ⟨v3,rfl,vs,hR3,b3⟩
   obtain ⟨av,gv,cv,rfl,hs3⟩:=hR3.b.ss
   have bA:=below1 W3 (.cells #[.slice av (M.walls gs 0 ll).length cv] 25)
   have hY3:=(hY1.bl' b3).bl' bA
   have hR3':=hR3.below bA
   have ly1:=hY1.lt
   have hbz:=bw1.size
   have hs3':=hs3.below bA (Nat.le_refl _)
   have hZ:=Slot1.new W3 (.slice av (M.walls gs 0 ll).length cv) 25
   have bw3:=(bw1.trans (b3.mono bw1.size))
   have bw4:=bw3.trans (bA.mono bw3.size)
   have hl3:(M.walls gs 0 ll).length≤1048576:=by rw [M.walls_len];omega
   have hls3:∀ t∈M.walls gs 0 ll,t.length≤1048576:=fun t ht=>by have:=M.walls_le gs ll h7 0 t ht;omega
   clear hR3 hs3 b3 bA hX1 hY1 h1 hG1 x0 y0 yf ly CG
   go_wp2_with fail
   generalize W3.alloc (.cells #[.slice av (M.walls gs 0 ll).length cv] 25)=W4 at *
   generalize W3.heap.size=Z at *
   refine (iprog_any av gv 0 cv _ W4 hl3 hls3 hs3').mono ?_
   rintro e W5 ⟨rfl,b5⟩
   have hY5:=hY3.bl' b5
   have hR5:=hR3'.below b5
   have hZ5:=hZ.bl' b5
   have bw5:=bw4.trans (b5.mono bw4.size)
   have y0:=hY5.c
   have yf:=hY5.fz
   have ly:=hY5.lt
   have z0:=hZ5.c
   cases hpw:M.prog (M.walls gs 0 ll)
   ·have hno:=M.wallPut_over hpw
    go_wp2_with fail
    have q1:=(hY5.set (.slice none 0 0)).c
    exact bodyPost_ret (v:=.tuple #[.agg #[.slice none 0 0],.bool false]) (by simp [results,Tryz.results33,go_sem,q1]) rfl ⟨_,by rw [hno];rfl,[],by rw [hno];exact Rdg.nil _ _,bw5.setCell (by show w.heap.size≤w.heap.size+1;omega) _⟩
   ·have hyes:=M.wallPut_yes HPq.out HQ.out hpw
    go_wp2_with fail
    have q1:=(hY5.set (.slice av (M.walls gs 0 ll).length cv)).c
    exact bodyPost_ret (v:=.tuple #[.agg #[.slice av (M.walls gs 0 ll).length cv],.bool true]) (by simp [results,Tryz.results33,go_sem,q1]) rfl ⟨_,by rw [hyes];rfl,vs,by rw [hyes];exact (hR5.far ly1 _).mono hbz,bw5.setCell (by show w.heap.size≤w.heap.size+1;omega) _⟩
end Go.Proofs.YtjjkicffhpcngaaGreat
