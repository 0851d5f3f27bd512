/- spec's ways: the step of an event, whether a number is among others. Of at most 1048576 threads, steps and numbers. And what goes with it: OsDo, OsWr, OsSrc, OsVal, OsEnd, OsEq, OsOk. -/
import Derived.Test.YtmhpgdliaclokaaGreatRows
import Derived.Test.YtmhpgdliaclokaaGreatQtai
namespace Go.Proofs.YtmhpgdliaclokaaGreat
section
open Go.RowKit
set_option maxHeartbeats 1000000 in
set_option maxRecDepth 100000 in
theorem l12Do_any (a:Option Addr) (b o c:Nat) (ll:List (List M.D)) (t i:Nat) (last:Bool) (d:M.D) (w:World) (ht:t < ll.length) (hi:i < ll[t].length) (hd:ll[t][i]=d) (hl:ll.length≤1048576) (hls:ll[t].length≤1048576) (h:DoSS w a b o ll) :
  Calls Tryz.prog 134 #[.agg #[.slice a ll.length c],.agg #[.int .i64 t,.int .i64 i,.bool last]] w fun e w'=>e=.returned (.agg #[.int .i64 d.k,.int .i64 d.p,.int .i64 d.v])∧Below w.heap.size w w':=by
 obtain ⟨rfl⟩:=h.addr (by omega)
 obtain ⟨a',b',o',c',hc,hr⟩:=h.row t ht
 obtain ⟨rfl⟩:=hr.addr (by omega)
 obtain ⟨ck,cp,cv⟩:=hr.row i hi
 rw [hd] at ck cp cv
 generalize ll[t]=l at *
 have i1:(t:Int) < ll.length:=by omega
 have i2:(i:Int) < l.length:=by omega
 have lb:=World.block_lt_of_cell? _ _ hc
 have lb':=World.block_lt_of_cell? _ _ ck
 simp only at lb lb'
 have hb2:=below2 w (.cells #[.slice (some ⟨b,o,none⟩) ll.length c] 25) (.cells #[.int .i64 t,.int .i64 i,.bool last] 42)
 have hb3:=hb2.trans ((below1 _ (.cells #[.int .i64 0,.int .i64 0,.int .i64 0] 94)).mono hb2.size)
 have hc3:=(hb3.cell (p:=⟨b,o+t,none⟩) lb).trans hc
 have ck3:=(hb3.cell (p:=⟨b',o'+i * 3,none⟩) lb').trans ck
 have cp3:=(hb3.cell (p:=⟨b',o'+i * 3+1,none⟩) lb').trans cp
 have cv3:=(hb3.cell (p:=⟨b',o'+i * 3+2,none⟩) lb').trans cv
 clear hc ck cp cv
 go_enter Tryz.func134,Tryz.ntmps134
 go_wp2_with fail
 go_region
 go_wp2_with fail
 have hb4:=hb2.trans ((below1 _ (.cells #[.int .i64 d.k,.int .i64 d.p,.int .i64 d.v] 94)).mono hb2.size)
 exact bodyPost_ret (v:=.agg #[.int .i64 d.k,.int .i64 d.p,.int .i64 d.v]) (by simp [results,Tryz.results134,go_sem]) rfl ⟨rfl,hb4.drew⟩
def M.OfEv (ll:List (List M.D)) (x:M.De):Prop:=∃ (ht:x.t < ll.length) (hi:x.i < ll[x.t].length),ll[x.t][x.i]=x.d
theorem M.ofEv {ll:List (List M.D)}:∀ x∈M.deeds ll,M.OfEv ll x:=by
 have hT:∀ (ll:List (List M.D)) (t:Nat) (ht:t < ll.length) (l:List M.D) (i:Nat) (lr:Int) (n:Nat),ll[t].drop i=l→∀ x∈M.deT t i lr n l,M.OfEv ll x:=by
  intro ll t ht l
  induction l with
  | nil=>intro i lr n _ x hx;simp [M.deT] at hx
  | cons d l ih =>
   intro i lr n hd x hx
   have hi:i < ll[t].length:=by
    rcases Nat.lt_or_ge i ll[t].length with h | h
    ·exact h
    ·rw [List.drop_eq_nil_of_le h] at hd;cases hd
   rw [← List.getElem_cons_drop hi] at hd
   obtain ⟨hd1,hd2⟩:=List.cons.inj hd
   rw [M.deT] at hx
   rcases List.mem_append.1 hx with hx | hx
   ·have:x.t=t∧x.i=i∧x.d=d:=by
     unfold M.deD at hx
     split at hx
     ·simp only [List.mem_cons,List.not_mem_nil,or_false] at hx
      rcases hx with rfl | rfl<;>exact ⟨rfl,rfl,rfl⟩
     ·simp only [List.mem_cons,List.not_mem_nil,or_false] at hx
      subst hx;exact ⟨rfl,rfl,rfl⟩
    obtain ⟨xt,xi,xl,xd,xr⟩:=x
    obtain ⟨rfl,rfl,rfl⟩:=this
    exact ⟨ht,hi,hd1⟩
   ·exact ih _ _ _ hd2 x hx
 have hF:∀ (ll:List (List M.D)) (l:List (List M.D)) (t n:Nat),ll.drop t=l→∀ x∈M.deF t n l,M.OfEv ll x:=by
  intro ll l
  induction l with
  | nil=>intro t n _ x hx;simp [M.deF] at hx
  | cons d l ih =>
   intro t n hd x hx
   have ht:t < ll.length:=by
    rcases Nat.lt_or_ge t ll.length with h | h
    ·exact h
    ·rw [List.drop_eq_nil_of_le h] at hd;cases hd
   rw [← List.getElem_cons_drop ht] at hd
   obtain ⟨hd1,hd2⟩:=List.cons.inj hd
   rw [M.deF] at hx
   rcases List.mem_append.1 hx with hx | hx
   ·exact hT ll t ht d 0 _ _ (by rw [hd1];rfl) x hx
   ·exact ih _ _ hd2 x hx
 exact hF ll ll 0 0 rfl
abbrev DvS (w:World) (va:Option Addr) (g:Nat) (ds:List M.De):Prop:=RS (fun x:M.De=>x.ev.cells) 3 w va g ds
structure DvAt (w:World) (g o:Nat) (x:M.De):Prop where
 c0:w.cell? ⟨g,o,none⟩=some (.int .i64 x.t)
 c1:w.cell? ⟨g,o+1,none⟩=some (.int .i64 x.i)
 c2:w.cell? ⟨g,o+2,none⟩=some (.bool x.last)
theorem DvS.at {w:World} {va:Option Addr} {g:Nat} {l:List M.De} (h:DvS w va g l) {n:Nat} (hn:n < l.length):DvAt w g (n * 3) l[n] :=
 ⟨h.row n hn 0 (by omega),h.row n hn 1 (by omega),h.row n hn 2 (by omega)⟩
theorem DvS.bel {w w':World} {va:Option Addr} {g B:Nat} {l:List M.De} (h:DvS w va g l) (hb:Below B w w') (hB:w.heap.size≤B):DvS w' va g l:=h.below (fun _=>rfl) hb hB
theorem DvS.of {w:World} {va:Option Addr} {g:Nat} {l:List M.De} (h:RS M.Ev.cells 3 w va g (l.map M.De.ev)):DvS w va g l :=
 ⟨fun hl=>h.addr (by simpa using hl),fun i hi j hj=>by
  have:=h.row i (by simpa using hi) j hj
  rw [this,List.getElem_map]⟩
theorem l12Do_ev (a:Option Addr) (b o c:Nat) (ll:List (List M.D)) (x:M.De) (w:World) (hx:M.OfEv ll x) (hl:ll.length≤1048576) (hls:∀ t∈ll,t.length≤1048576) (h:DoSS w a b o ll) :
  Calls Tryz.prog 134 #[.agg #[.slice a ll.length c],.agg #[.int .i64 x.t,.int .i64 x.i,.bool x.last]] w fun e w'=>e=.returned (.agg #[.int .i64 x.d.k,.int .i64 x.d.p,.int .i64 x.d.v])∧Below w.heap.size w w':=by
 obtain ⟨ht,hi,hd⟩:=hx
 exact l12Do_any a b o c ll x.t x.i x.last x.d w ht hi hd hl (hls _ (List.getElem_mem ht)) h
end
section
open Go.RowKit
structure DoIn (w W:World) (X:Nat) (d:M.D):Prop where
 bel:Below w.heap.size w W
 ge:w.heap.size≤X
 c0:W.cell? ⟨X,0,none⟩=some (.int .i64 d.k)
 c1:W.cell? ⟨X,1,none⟩=some (.int .i64 d.p)
 c2:W.cell? ⟨X,2,none⟩=some (.int .i64 d.v)
theorem DoIn.behind {w w1:World} {d:M.D} (hb:Below w.heap.size w w1):DoIn w (w1.alloc (.cells #[.int .i64 d.k,.int .i64 d.p,.int .i64 d.v] 94)) w1.heap.size d :=
 ⟨hb.alloc hb.size _,hb.size,by simp,by simp,by simp⟩
theorem DoIn.ahead {w w1:World} {d:M.D} (hb:Below w.heap.size w w1) (h0:w1.cell? ⟨w.heap.size,0,none⟩=some (.int .i64 0)) (h1:w1.cell? ⟨w.heap.size,1,none⟩=some (.int .i64 0)) (h2:w1.cell? ⟨w.heap.size,2,none⟩=some (.int .i64 0)) :
  DoIn w (((w1.setCell ⟨w.heap.size,0,none⟩ (.int .i64 d.k)).setCell ⟨w.heap.size,1,none⟩ (.int .i64 d.p)).setCell ⟨w.heap.size,2,none⟩ (.int .i64 d.v)) w.heap.size d :=
 ⟨((hb.setCell (Nat.le_refl _) _).setCell (Nat.le_refl _) _).setCell (Nat.le_refl _) _,Nat.le_refl _,by simp [go_sem,h0],by simp [go_sem,h1],by simp [go_sem,h2]⟩
set_option maxHeartbeats 2000000 in
set_option maxRecDepth 100000 in
theorem l12Writes_any (a:Option Addr) (b o c:Nat) (ll:List (List M.D)) (va:Option Addr) (g cc:Nat) (p:Int) (w:World) (hl:ll.length≤1048576) (hls:∀ t∈ll,t.length≤1048576) (hdl:(M.deeds ll).length≤42) (h:DoSS w a b o ll) (hd:DvS w va g (M.deeds ll)) :
  Calls Tryz.prog 165 #[.agg #[.slice a ll.length c],.slice va (M.deeds ll).length cc,.int .i64 p] w fun e w'=>∃ v,e=.returned v∧w'.ownsRow w.heap.size 3 1 v (M.wrs p 0 (M.deeds ll)).length (nums (M.wrs p 0 (M.deeds ll)))∧Below w.heap.size w w':=by
 obtain ⟨i0,hi,hz0,hz1,hz2⟩:=info_parts Tryz.infoInt
 have hof:=M.ofEv (ll:=ll)
 generalize M.deeds ll=ds at *
 have hb0:=below1 w (.cells #[.slice a ll.length c] 25)
 have k0:(w.alloc (.cells #[.slice a ll.length c] 25)).cell? ⟨w.heap.size,0,none⟩=some (.slice a ll.length c):=by simp
 have hT0:Told (w.alloc (.cells #[.slice a ll.length c] 25)) ((w.alloc (.cells #[.slice a ll.length c] 25)).alloc (.cells #[] 3)) 3 1 (.slice (some ⟨w.heap.size+1,0,none⟩) 0 0) 0 []:=by
  have:=World.ownsRow_made (w.alloc (.cells #[.slice a ll.length c] 25)) #[] 0 (base:=(w.alloc (.cells #[.slice a ll.length c] 25)).heap.size) (e:=3) (size:=1) (Nat.le_refl _) (Nat.zero_le _) rfl
  exact ⟨by simpa using this,below1 _ _⟩
 go_enter Tryz.func165,Tryz.ntmps165
 go_wp2_with fail
 generalize (w.alloc (.cells #[.slice a ll.length c] 25)).alloc (.cells #[] 3)=W at *
 generalize w.alloc (.cells #[.slice a ll.length c] 25)=WB at *
 have lt0:w.heap.size < WB.heap.size:=World.block_lt_of_cell? _ _ k0
 replace h:=h.below hb0 (Nat.le_refl _)
 replace hd:=hd.bel hb0 (Nat.le_refl _)
 go_loopw [7,8] (fun s7 s8 wr=>∃ (n:Nat) (acc:List Int) (va':Option Addr) (vc:Nat),s7=.slice va' acc.length vc∧s8=.int .i64 n∧n≤ds.length∧acc.length≤n∧Hid (M.wrs p 0 ds=acc++M.wrs p n (ds.drop n))∧Told WB wr 3 1 (.slice va' acc.length vc) acc.length (nums acc)) (fun _ s8 _=>ds.length - (intOf s8).toNat)
 case atStart=>exact ⟨0,[],some ⟨w.heap.size+1,0,none⟩,0,rfl,rfl,Nat.zero_le _,Nat.le_refl _,by show _=_;rfl,hT0⟩
 case round =>
  obtain ⟨n,acc,va',vc,rfl,rfl,hn,hacc,HW,hT⟩:=hrel
  have kr:=(hT.bel.cell (p:=⟨w.heap.size,0,none⟩) lt0).trans k0
  clear hT0
  by_cases hlt:n < ds.length
  ·obtain ⟨rfl⟩:=hd.addr (by omega)
   have hx:=DvS.at (hd.bel hT.bel (Nat.le_refl _)) hlt
   have HW2:Hid (M.wrs p 0 ds=(if (ds[n]).to p then acc++[(n:Int)] else acc)++M.wrs p (n+1) (ds.drop (n+1))):=M.wrs_step HW.out hlt
   have hox:=hof _ (List.getElem_mem hlt)
   clear HW
   generalize ds[n]=x at *
   obtain ⟨c0,c1,c2⟩:=hx
   have i1:(n:Int) < ds.length:=by omega
   have lg:g < wr.heap.size:=World.block_lt_of_cell? _ _ c0
   have lw:w.heap.size < wr.heap.size:=World.block_lt_of_cell? _ _ kr
   have C:=fun W (hb:Below wr.heap.size wr W)=>l12Do_ev a b o c ll x W hox hl hls ((h.below hT.bel (Nat.le_refl _)).below hb (Nat.le_refl _))
   have hbA:=below1 wr (.cells #[.int .i64 0,.int .i64 0,.int .i64 0] 94)
   have A0:(wr.alloc (.cells #[.int .i64 0,.int .i64 0,.int .i64 0] 94)).cell? ⟨wr.heap.size,0,none⟩=some (.int .i64 0):=by simp
   have A1:(wr.alloc (.cells #[.int .i64 0,.int .i64 0,.int .i64 0] 94)).cell? ⟨wr.heap.size,1,none⟩=some (.int .i64 0):=by simp
   have A2:(wr.alloc (.cells #[.int .i64 0,.int .i64 0,.int .i64 0] 94)).cell? ⟨wr.heap.size,2,none⟩=some (.int .i64 0):=by simp
   have Af:∀ j,(wr.alloc (.cells #[.int .i64 0,.int .i64 0,.int .i64 0] 94)).frozen? ⟨wr.heap.size,j,none⟩=false:=by intro j;simp
   have Asz:wr.heap.size < (wr.alloc (.cells #[.int .i64 0,.int .i64 0,.int .i64 0] 94)).heap.size:=by simp
   have N0:wr.heap.size≠w.heap.size:=Nat.ne_of_gt lw
   have N1:wr.heap.size≠g:=Nat.ne_of_gt lg
   have B0:=(hbA.cell (p:=⟨w.heap.size,0,none⟩) lw).trans kr
   have B1:=(hbA.cell (p:=⟨g,n * 3,none⟩) lg).trans c0
   have B2:=(hbA.cell (p:=⟨g,n * 3+1,none⟩) lg).trans c1
   have B3:=(hbA.cell (p:=⟨g,n * 3+2,none⟩) lg).trans c2
   go_wp2_with fail
   go_region_held3 (fun w'=>w'.cell? ⟨w.heap.size,0,none⟩=some (.slice a ll.length c)∧w'.cell? ⟨g,n * 3,none⟩=some (.int .i64 x.t)∧w'.cell? ⟨g,n * 3+1,none⟩=some (.int .i64 x.i)∧w'.cell? ⟨g,n * 3+2,none⟩=some (.bool x.last)) (go_keep) (first
    | (go_at_call 134;refine (C _ ((Below.refl _ _).drew)).mono ?_;rintro e w1 ⟨rfl,hb1⟩;have Y0:=(hb1.cell (p:=⟨w.heap.size,0,none⟩) lw).trans kr;have Y1:=(hb1.cell (p:=⟨g,n * 3,none⟩) lg).trans c0;have Y2:=(hb1.cell (p:=⟨g,n * 3+1,none⟩) lg).trans c1;have Y3:=(hb1.cell (p:=⟨g,n * 3+2,none⟩) lg).trans c2)
    | (go_at_call 134;refine (C _ ((below1 _ _).drew)).mono ?_;rintro e w1 ⟨rfl,hb1⟩;have Y0:=(hb1.cell (p:=⟨w.heap.size,0,none⟩) (Nat.lt_trans lw Asz)).trans B0;have Y1:=(hb1.cell (p:=⟨g,n * 3,none⟩) (Nat.lt_trans lg Asz)).trans B1;have Y2:=(hb1.cell (p:=⟨g,n * 3+1,none⟩) (Nat.lt_trans lg Asz)).trans B2;have Y3:=(hb1.cell (p:=⟨g,n * 3+2,none⟩) (Nat.lt_trans lg Asz)).trans B3;have Z0:=(hb1.cell (p:=⟨wr.heap.size,0,none⟩) Asz).trans A0;have Z1:=(hb1.cell (p:=⟨wr.heap.size,1,none⟩) Asz).trans A1;have Z2:=(hb1.cell (p:=⟨wr.heap.size,2,none⟩) Asz).trans A2;have Zf:=fun j=>(hb1.frozen (p:=⟨wr.heap.size,j,none⟩) Asz).trans (Af j)))
   ·have F:DoIn wr _ _ x.d:=DoIn.behind (d:=x.d) ((Below.refl wr.heap.size wr).drew.trans hb1)
    generalize w1.alloc (.cells #[.int .i64 x.d.k,.int .i64 x.d.p,.int .i64 x.d.v] 94)=W1 at F ⊢
    generalize w1.heap.size=X at F ⊢
    clear hb1 A0 A1 A2 Af B0 B1 B2 B3 N0 N1 Y0 Y1 Y2 Y3 C hbA
    have hT1:=hT.below F.bel
    obtain ⟨hbF,hgF,d0,d1,d2⟩:=F
    have hTb:=hT1.below (below1 W1 (.cells #[.int .i64 x.d.k,.int .i64 x.d.p,.int .i64 x.d.v] 94))
    have lX:X < W1.heap.size:=World.block_lt_of_cell? _ _ d0
    cases hw:M.writes x.d.k
    ·have HT:Hid (x.to p=false):=by show _=_;simp [M.De.to,hw]
     go_wp2_with (go_at_call 78;refine (l1Writes_any x.d _).mono ?_;rw [hw];rintro e w' ⟨rfl,rfl⟩)
     exact ⟨⟨n+1,acc,va',vc,rfl,by go_num,by omega,by omega,by show _=_;have:=HW2.out;rw [HT.out] at this;exact this,hTb⟩,by simp [intOf];omega⟩
    ·by_cases hp:x.d.p=p
     ·have HT:Hid (x.to p=true):=by show _=_;simp [M.De.to,hw,hp]
      generalize x.d.p=q at *
      subst q
      go_wp2_with (first | (go_at_call 78;refine (l1Writes_any ⟨x.d.k,p,x.d.v⟩ _).mono ?_;rw [hw];rintro e w' ⟨rfl,rfl⟩) | (at_builtin;refine wpList_append_lies _ rfl (.tmp 31) (.tmp 33) 26 rfl WB.heap.size 3 i0 _ 1 8 Tryz.underlying26 hi hz0 hz1 hz2 rfl (by decide) _ _ _ rfl (hTb.own.alloc _) ⟨W1.heap.size+1,0,none⟩ 1 1 [.int .i64 n] rfl rfl (World.news_of_block (cs:=#[.int .i64 (n:Int)]) (t:=3) (fr:=(0,0)) (by have:=heap_alloc_new (W1.alloc (.cells #[.int .i64 x.d.k,.int .i64 p,.int .i64 x.d.v] 94)) (.cells #[.int .i64 (n:Int)] 3);simpa using this)) (by simp [Value.oneCell']) (by omega) (by unfold maxLen;omega) (by omega) (by have:=hTb.bel.size;simp at this ⊢;omega) (W1.heap.size+1+1) (by simp) ?_))
      intro g6 cap6 w6 hown6 hg6 hat6 hlt6
      have hT6:Told WB w6 3 1 (.slice (some ⟨g6,0,none⟩) (acc.length+1) cap6) (acc.length+1) (nums (acc++[(n:Int)])):=by
       have e:nums (acc++[(n:Int)])=nums acc++[.int .i64 n]:=by simp [nums]
       rw [e];exact hTb.snoc hown6 hg6
      clear hown6 hg6 hat6 hlt6
      go_wp2_with fail
      exact ⟨⟨n+1,acc++[(n:Int)],some ⟨g6,0,none⟩,cap6,by simp,by go_num,by omega,by simp;omega,by show _=_;have:=HW2.out;rw [HT.out] at this;exact this,by rw [List.length_append];exact hT6⟩,by simp [intOf];omega⟩
     ·have HT:Hid (x.to p=false):=by show _=_;simp [M.De.to,hp]
      have hp':(x.d.p==p)=false:=by simpa using hp
      go_wp2_with (go_at_call 78;refine (l1Writes_any x.d _).mono ?_;rw [hw];rintro e w' ⟨rfl,rfl⟩)
      exact ⟨⟨n+1,acc,va',vc,rfl,by go_num,by omega,by omega,by show _=_;have:=HW2.out;rw [HT.out] at this;exact this,hTb⟩,by simp [intOf];omega⟩
   ·have F:DoIn wr _ _ x.d:=DoIn.ahead (d:=x.d) (hbA.drew.trans (hb1.mono (Nat.le_of_lt Asz))) Z0 Z1 Z2
    generalize ((w1.setCell ⟨wr.heap.size,0,none⟩ (.int .i64 x.d.k)).setCell ⟨wr.heap.size,1,none⟩ (.int .i64 x.d.p)).setCell ⟨wr.heap.size,2,none⟩ (.int .i64 x.d.v)=W1 at F ⊢
    obtain ⟨X,hX,F⟩:∃ X,X=wr.heap.size∧DoIn wr W1 X x.d:=⟨_,rfl,F⟩
    rw [← hX]
    clear hX
    clear hb1 A0 A1 A2 Af B0 B1 B2 B3 N0 N1 Y0 Y1 Y2 Y3 C hbA
    have hT1:=hT.below F.bel
    obtain ⟨hbF,hgF,d0,d1,d2⟩:=F
    have hTb:=hT1.below (below1 W1 (.cells #[.int .i64 x.d.k,.int .i64 x.d.p,.int .i64 x.d.v] 94))
    have lX:X < W1.heap.size:=World.block_lt_of_cell? _ _ d0
    cases hw:M.writes x.d.k
    ·have HT:Hid (x.to p=false):=by show _=_;simp [M.De.to,hw]
     go_wp2_with (go_at_call 78;refine (l1Writes_any x.d _).mono ?_;rw [hw];rintro e w' ⟨rfl,rfl⟩)
     exact ⟨⟨n+1,acc,va',vc,rfl,by go_num,by omega,by omega,by show _=_;have:=HW2.out;rw [HT.out] at this;exact this,hTb⟩,by simp [intOf];omega⟩
    ·by_cases hp:x.d.p=p
     ·have HT:Hid (x.to p=true):=by show _=_;simp [M.De.to,hw,hp]
      generalize x.d.p=q at *
      subst q
      go_wp2_with (first | (go_at_call 78;refine (l1Writes_any ⟨x.d.k,p,x.d.v⟩ _).mono ?_;rw [hw];rintro e w' ⟨rfl,rfl⟩) | (at_builtin;refine wpList_append_lies _ rfl (.tmp 31) (.tmp 33) 26 rfl WB.heap.size 3 i0 _ 1 8 Tryz.underlying26 hi hz0 hz1 hz2 rfl (by decide) _ _ _ rfl (hTb.own.alloc _) ⟨W1.heap.size+1,0,none⟩ 1 1 [.int .i64 n] rfl rfl (World.news_of_block (cs:=#[.int .i64 (n:Int)]) (t:=3) (fr:=(0,0)) (by have:=heap_alloc_new (W1.alloc (.cells #[.int .i64 x.d.k,.int .i64 p,.int .i64 x.d.v] 94)) (.cells #[.int .i64 (n:Int)] 3);simpa using this)) (by simp [Value.oneCell']) (by omega) (by unfold maxLen;omega) (by omega) (by have:=hTb.bel.size;simp at this ⊢;omega) (W1.heap.size+1+1) (by simp) ?_))
      intro g6 cap6 w6 hown6 hg6 hat6 hlt6
      have hT6:Told WB w6 3 1 (.slice (some ⟨g6,0,none⟩) (acc.length+1) cap6) (acc.length+1) (nums (acc++[(n:Int)])):=by
       have e:nums (acc++[(n:Int)])=nums acc++[.int .i64 n]:=by simp [nums]
       rw [e];exact hTb.snoc hown6 hg6
      clear hown6 hg6 hat6 hlt6
      go_wp2_with fail
      exact ⟨⟨n+1,acc++[(n:Int)],some ⟨g6,0,none⟩,cap6,by simp,by go_num,by omega,by simp;omega,by show _=_;have:=HW2.out;rw [HT.out] at this;exact this,by rw [List.length_append];exact hT6⟩,by simp [intOf];omega⟩
     ·have HT:Hid (x.to p=false):=by show _=_;simp [M.De.to,hp]
      have hp':(x.d.p==p)=false:=by simpa using hp
      go_wp2_with (go_at_call 78;refine (l1Writes_any x.d _).mono ?_;rw [hw];rintro e w' ⟨rfl,rfl⟩)
      exact ⟨⟨n+1,acc,va',vc,rfl,by go_num,by omega,by omega,by show _=_;have:=HW2.out;rw [HT.out] at this;exact this,hTb⟩,by simp [intOf];omega⟩
  ·go_wp2_with fail
   go_ret
   have hf:=M.wrs_fin HW.out (by omega)
   exact ⟨_,rfl,by rw [hf];exact own_mono hT.own hb0.size,hb0.trans (hT.bel.mono hb0.size)⟩
end
section
open Go.RowKit
def M.src (ds:List M.De) (t:Nat):Nat→Int
 | 0=>-1
 | k+1=>match ds[k]? with
  | some y=>if y.t==t&&y.reads then (k:Int) else M.src ds t k
  | none=>M.src ds t k
theorem M.src_step {ds:List M.De} {t k:Nat} (h:k < ds.length):M.src ds t (k+1)=if ds[k].t==t&&ds[k].reads then (k:Int) else M.src ds t k:=by
 rw [M.src,List.getElem?_eq_getElem h]
theorem M.src_pre (l m:List M.De) (t:Nat):∀ k,k≤l.length→M.src (l++m) t k=M.src l t k:=by
 intro k
 induction k with
 | zero=>intro _;rfl
 | succ k ih =>
  intro hk
  rw [M.src_step (by simp;omega),M.src_step (by omega),ih (by omega),List.getElem_append_left (by omega)]
theorem M.src_none (l:List M.De) (t:Nat) (h:∀ x∈l,x.t≠t):∀ k,k≤l.length→M.src l t k=-1:=by
 intro k
 induction k with
 | zero=>intro _;rfl
 | succ k ih =>
  intro hk
  rw [M.src_step (by omega),ih (by omega),if_neg]
  have:=h _ (List.getElem_mem (show k < l.length by omega))
  simp [this]
theorem M.src_snoc (l:List M.De) (x:M.De):M.src (l++[x]) x.t (l.length+1)=if x.reads then (l.length:Int) else M.src l x.t l.length:=by
 rw [M.src_step (by simp),M.src_pre _ _ _ _ (Nat.le_refl _)]
 simp
def M.Src (l:List M.De):Prop:=∀ n (h:n < l.length),l[n].reads=false→M.src l l[n].t n=l[n].lr
theorem M.Src.snoc {l:List M.De} {x:M.De} (h:M.Src l) (hx:x.reads=false→M.src l x.t l.length=x.lr):M.Src (l++[x]):=by
 intro n hn hr
 rw [M.src_pre _ _ _ _ (by simp at hn;omega)]
 rcases Nat.lt_or_ge n l.length with h1 | h1
 ·rw [List.getElem_append_left h1] at hr ⊢
  exact h n h1 hr
 ·have:n=l.length:=by simp at hn;omega
  subst this
  simp only [List.getElem_append_right (Nat.le_refl _),Nat.sub_self,List.getElem_cons_zero] at hr ⊢
  exact hx hr
theorem M.src_T (t:Nat) (l:List M.D):∀ (i:Nat) (lr:Int) (pre:List M.De),M.Src pre→M.src pre t pre.length=lr→(∀ x∈pre,x.t≤t)→M.Src (pre++M.deT t i lr pre.length l)∧∀ x∈pre++M.deT t i lr pre.length l,x.t≤t:=by
 induction l with
 | nil=>intro i lr pre h _ ht;simp only [M.deT,List.append_nil];exact ⟨h,ht⟩
 | cons d l ih =>
  intro i lr pre h hs ht
  have one:∀ (pre:List M.De) (x:M.De),x.t=t→(∀ y∈pre,y.t≤t)→∀ y∈pre++[x],y.t≤t:=by
   intro pre x hx hp y hy
   rcases List.mem_append.1 hy with hy | hy
   ·exact hp y hy
   ·rw [List.mem_singleton.1 hy,hx];exact Nat.le_refl _
  rw [M.deT]
  cases h9:(d.k==9)
  ·rw [M.deD_one h9]
   have h1:M.Src (pre++[⟨t,i,false,d,M.lrOf lr pre.length d⟩]):=h.snoc fun hr=>by
    have hr:M.reads d.k=false:=hr
    show M.src pre t pre.length=M.lrOf lr pre.length d
    rw [hs,M.lrOf,hr];rfl
   have h2:=ih (i+1) (M.lrOf lr pre.length d) _ h1 (by
    have:=M.src_snoc pre ⟨t,i,false,d,M.lrOf lr pre.length d⟩
    rw [List.length_append]
    refine this.trans ?_
    show (if M.reads d.k=true then (pre.length:Int) else M.src pre t pre.length)=_
    rw [hs];rfl) (one _ _ rfl ht)
   rw [List.length_append] at h2
   rw [← List.append_assoc]
   exact h2
  ·have hr:M.reads d.k=false:=by
    have:d.k=9:=by simpa using h9
    rw [this];decide
   have hlr:M.lrOf lr pre.length d=lr:=by rw [M.lrOf,hr];rfl
   rw [M.deD_wait h9]
   have h1:M.Src (pre++[⟨t,i,false,d,M.lrOf lr pre.length d⟩]):=h.snoc fun _=>by rw [hlr];exact hs
   have s1:M.src (pre++[⟨t,i,false,d,M.lrOf lr pre.length d⟩]) t (pre++[(⟨t,i,false,d,M.lrOf lr pre.length d⟩:M.De)]).length=lr:=by
    have:=M.src_snoc pre ⟨t,i,false,d,M.lrOf lr pre.length d⟩
    rw [List.length_append]
    refine this.trans ?_
    show (if M.reads d.k=true then (pre.length:Int) else M.src pre t pre.length)=_
    rw [hr];exact hs
   have h2:M.Src ((pre++[⟨t,i,false,d,M.lrOf lr pre.length d⟩])++[⟨t,i,true,d,M.lrOf lr pre.length d⟩]):=h1.snoc fun _=>by rw [hlr] at s1 ⊢;exact s1
   have s2:M.src ((pre++[⟨t,i,false,d,M.lrOf lr pre.length d⟩])++[⟨t,i,true,d,M.lrOf lr pre.length d⟩]) t ((pre++[(⟨t,i,false,d,M.lrOf lr pre.length d⟩:M.De)])++[(⟨t,i,true,d,M.lrOf lr pre.length d⟩:M.De)]).length=M.lrOf lr pre.length d:=by
    have:=M.src_snoc (pre++[⟨t,i,false,d,M.lrOf lr pre.length d⟩]) ⟨t,i,true,d,M.lrOf lr pre.length d⟩
    rw [List.length_append]
    refine this.trans ?_
    show (if M.reads d.k=true then _ else M.src (pre++[⟨t,i,false,d,M.lrOf lr pre.length d⟩]) t (pre++[(⟨t,i,false,d,M.lrOf lr pre.length d⟩:M.De)]).length)=_
    rw [hr,hlr];rw [hlr] at s1;exact s1
   have h3:=ih (i+1) (M.lrOf lr pre.length d) _ h2 s2 (one _ _ rfl (one _ _ rfl ht))
   rw [List.length_append,List.length_append] at h3
   rw [List.append_assoc,List.append_assoc] at h3
   rw [List.append_assoc]
   exact h3
theorem M.src_F (ll:List (List M.D)):∀ (t:Nat) (pre:List M.De),M.Src pre→(∀ x∈pre,x.t < t)→M.Src (pre++M.deF t pre.length ll):=by
 induction ll with
 | nil=>intro t pre h _;simp only [M.deF,List.append_nil];exact h
 | cons l ll ih =>
  intro t pre h ht
  obtain ⟨h1,h2⟩:=M.src_T t l 0 (-1) pre h (M.src_none _ _ (fun x hx e=>by have:=ht x hx;omega) _ (Nat.le_refl _)) (fun x hx=>Nat.le_of_lt (ht x hx))
  have:=ih (t+1) _ h1 (fun x hx=>Nat.lt_succ_of_le (h2 x hx))
  rw [M.deF,← List.append_assoc]
  rw [List.length_append] at this
  exact this
theorem M.src_ok (ll:List (List M.D)):M.Src (M.deeds ll):=by
 have:=M.src_F ll 0 [] (fun n h=>absurd h (Nat.not_lt_zero _)) (fun x hx=>by cases hx)
 exact this
theorem l1Reads_bel (d:M.D) (w:World):Calls Tryz.prog 76 #[.agg #[.int .i64 d.k,.int .i64 d.p,.int .i64 d.v]] w fun e w'=>e=.returned (.bool (M.reads d.k))∧Below w.heap.size w w' :=
 (l1Reads_any d w).mono fun e w' ⟨he,hw⟩=>⟨he,by rw [hw];exact below1 _ _⟩
set_option maxHeartbeats 1000000 in
set_option maxRecDepth 100000 in
theorem l12Source_any (a:Option Addr) (b o c:Nat) (ll:List (List M.D)) (va:Option Addr) (g cc:Nat) (n tn:Nat) (w:World) (hn:n < (M.deeds ll).length) (htn:(M.deeds ll)[n].t=tn) (hl:ll.length≤1048576) (hls:∀ t∈ll,t.length≤1048576) (hdl:(M.deeds ll).length≤42) (h:DoSS w a b o ll) (hd:DvS w va g (M.deeds ll)) :
  Calls Tryz.prog 182 #[.agg #[.slice a ll.length c],.slice va (M.deeds ll).length cc,.int .i64 n] w fun e w'=>e=.returned (.int .i64 (M.src (M.deeds ll) tn n))∧Below w.heap.size w w':=by
 have hof:=M.ofEv (ll:=ll)
 generalize M.deeds ll=ds at *
 have hb0:=below1 w (.cells #[.slice a ll.length c] 25)
 have k0:(w.alloc (.cells #[.slice a ll.length c] 25)).cell? ⟨w.heap.size,0,none⟩=some (.slice a ll.length c):=by simp
 go_enter Tryz.func182,Tryz.ntmps182
 go_wp2_with fail
 generalize w.alloc (.cells #[.slice a ll.length c] 25)=WB at *
 have lt0:w.heap.size < WB.heap.size:=World.block_lt_of_cell? _ _ k0
 replace h:=h.below hb0 (Nat.le_refl _)
 replace hd:=hd.bel hb0 (Nat.le_refl _)
 obtain ⟨rfl⟩:=hd.addr (by omega)
 obtain ⟨cn,_,_⟩:=hd.at hn
 rw [htn] at cn
 clear htn
 have in1:(n:Int) < ds.length:=by omega
 go_loopw [7] (fun s7 wr=>∃ m:Nat,s7=.int .i64 ((m:Int) - 1)∧m≤n∧Hid (M.src ds tn n=M.src ds tn m)∧Below WB.heap.size WB wr) (fun s7 _=>(intOf s7+1).toNat)
 case atStart=>exact ⟨n,by go_num,Nat.le_refl _,by show _=_;rfl,Below.refl _ _⟩
 case round =>
  obtain ⟨m,rfl,hm,HS,hb⟩:=hrel
  have hbw:=hb0.trans (hb.mono hb0.size)
  cases m with
  | zero =>
   go_wp2_with fail
   go_ret
   exact ⟨by rw [HS.out];rfl,hbw⟩
  | succ m =>
   have e1:(((m+1:Nat):Int) - 1)=m:=by omega
   rw [e1]
   have hlt:m < ds.length:=by omega
   have HS2:Hid (M.src ds tn n=if ds[m].t==tn&&ds[m].reads then (m:Int) else M.src ds tn m):=by show _=_;rw [HS.out];exact M.src_step hlt
   have hox:=hof _ (List.getElem_mem hlt)
   obtain ⟨c0,c1,c2⟩:=(hd.bel hb (Nat.le_refl _)).at hlt
   have cn':=(hb.cell (p:=⟨g,n * 3,none⟩) (World.block_lt_of_cell? _ _ cn)).trans cn
   have kr:=(hb.cell (p:=⟨w.heap.size,0,none⟩) lt0).trans k0
   clear HS e1
   generalize ds[m]=x at *
   have i1:(m:Int) < ds.length:=by omega
   have K0:=BelowOf.cell kr
   have KN:=BelowOf.cell cn'
   have Y0:=BelowOf.cell c0
   have Y1:=BelowOf.cell c1
   have Y2:=BelowOf.cell c2
   have C1:=fun q:BelowOf wr=>l12Do_ev a b o c ll x q.x hox hl hls ((h.below hb (Nat.le_refl _)).below q.h (Nat.le_refl _))
   have C2:=fun q:BelowOf wr=>l1Reads_bel x.d q.x
   haveI:Inhabited (BelowOf wr):=⟨belOf wr⟩
   have hx:Hid (x.reads=M.reads x.d.k):=by show _=_;rfl
   have hxr:x.reads=M.reads x.d.k:=rfl
   rw [hxr] at HS2
   clear hx hxr
   generalize x.t=xt at *
   go_wp2_with fail
   by_cases ht:xt=tn
   ·subst xt
    cases hr:M.reads x.d.k
    ·have HS3:Hid (M.src ds tn n=M.src ds tn m):=by show _=_;rw [HS2.out,hr];simp
     rw [hr] at C2
     refine wp_region_quiet_bel (by kernel_rfl) (by kernel_rfl) ?_
     repeat (quiet_step (first | (go_at_call 134;exact Calls.bel_of (C1 _)) | (go_at_call 76;exact Calls.bel_of (C2 _))))
     refine wpQuiet_nil ?_
     rintro _ ⟨⟨wq,hwq⟩,rfl⟩
     go_wp2_with fail
     exact ⟨⟨m,by go_num,by omega,HS3,hb.trans (hwq.mono hb.size)⟩,by simp [intOf]⟩
    ·have HS3:Hid (M.src ds tn n=m):=by show _=_;rw [HS2.out,hr];simp
     rw [hr] at C2
     refine wp_region_quiet_bel (by kernel_rfl) (by kernel_rfl) ?_
     repeat (quiet_step (first | (go_at_call 134;exact Calls.bel_of (C1 _)) | (go_at_call 76;exact Calls.bel_of (C2 _))))
     refine wpQuiet_nil ?_
     rintro _ ⟨⟨wq,hwq⟩,rfl⟩
     go_wp2_with fail
     go_ret
     exact ⟨by rw [HS3.out];rfl,hbw.trans (hwq.mono hbw.size)⟩
   ·have HS3:Hid (M.src ds tn n=M.src ds tn m):=by show _=_;rw [HS2.out];simp [ht]
    have ht':((xt:Int)==tn)=false:=by simp;omega
    refine wp_region_quiet_bel (by kernel_rfl) (by kernel_rfl) ?_
    iterate 12 (quiet_step (fail))
    iterate 7 go_big_quiet_skip
    iterate 1 (quiet_step (fail))
    refine wpQuiet_nil ?_
    rintro _ ⟨⟨wq,hwq⟩,rfl⟩
    go_wp2_with fail
    exact ⟨⟨m,by go_num,by omega,HS3,hb.trans (hwq.mono hb.size)⟩,by simp [intOf]⟩
end
section
open Go.RowKit
def M.val (ds:List M.De) (l:List Int):Nat→Int→Int
 | 0,i=>if i < 0 then 0 else -1
 | m+1,i=>if i < 0 then 0 else match ds[i.toNat]? with
  | none=>0
  | some x=>if x.reads then M.val ds l m (l.getD i.toNat 0) else if x.d.k==3 then M.val ds l m x.lr else x.d.v
theorem M.val_neg (ds:List M.De) (l:List Int) (m:Nat) {i:Int} (h:i < 0):M.val ds l m i=0:=by
 cases m<;>simp [M.val,h]
theorem M.val_at (ds:List M.De) (l:List Int) (m n:Nat) (h:n < ds.length) (h2:n < l.length):M.val ds l (m+1) n=if ds[n].reads then M.val ds l m l[n] else if ds[n].d.k==3 then M.val ds l m ds[n].lr else ds[n].d.v:=by
 rw [M.val,if_neg (by omega),Int.toNat_natCast,List.getElem?_eq_getElem h,List.getD_eq_getElem?_getD,List.getElem?_eq_getElem h2]
 rfl
theorem M.val_orig {ds:List M.De} {l:List Int} (hin:M.In ds l) (hv:∀ x∈ds,0≤x.d.v) (hll:l.length=ds.length):∀ (m n:Nat),n < ds.length→(decide (0≤M.val ds l m n)=(M.orig ds l m n).isSome):=by
 intro m
 induction m with
 | zero=>intro n _;rw [M.val,if_neg (by omega)];rfl
 | succ m ih =>
  intro n hn
  have hi:=hin n hn
  rw [M.val_at ds l m n hn (by omega),M.orig]
  have hvf:M.valFrom ds l n=if ds[n].reads then l[n] else if ds[n].d.k==3 then ds[n].lr else -1:=by
   simp [M.valFrom,hn,show n < l.length by omega]
  have step:∀ f:Int,f < ds.length→decide (0≤M.val ds l m f)=(if f < 0 then some n else M.orig ds l m f.toNat).isSome:=by
   intro f hf
   by_cases h0:f < 0
   ·rw [M.val_neg _ _ _ h0,if_pos h0];rfl
   ·rw [if_neg h0]
    obtain ⟨k,rfl⟩:∃ k:Nat,f=k:=⟨f.toNat,by omega⟩
    rw [Int.toNat_natCast]
    exact ih k (by omega)
  rw [hvf] at hi ⊢
  by_cases hr:ds[n].reads=true
  ·rw [if_pos hr] at hi ⊢
   rw [if_pos hr]
   exact step _ hi
  ·rw [if_neg hr] at hi ⊢
   rw [if_neg hr]
   by_cases h3:(ds[n].d.k==3)=true
   ·rw [if_pos h3] at hi ⊢
    rw [if_pos h3]
    exact step _ hi
   ·rw [if_neg h3,if_neg h3,if_pos (by omega)]
    simp [hv _ (List.getElem_mem hn)]
set_option maxHeartbeats 2000000 in
set_option maxRecDepth 100000 in
theorem l12Val_any (a:Option Addr) (b o c:Nat) (ll:List (List M.D)) (va:Option Addr) (g cc:Nat) (fa:Option Addr) (fb fo fc:Nat) (l:List Int) (ra:Value) (hl:ll.length≤1048576) (hls:∀ t∈ll,t.length≤1048576) (hdl:(M.deeds ll).length≤42) (HLL:Hid (l.length=(M.deeds ll).length)) (hin:M.In (M.deeds ll) l) :
  ∀ (m:Nat) (i:Int) (w:World),m≤1048576→i < (M.deeds ll).length→DoSS w a b o ll→DvS w va g (M.deeds ll)→IntS w fa fb fo l →
  Calls Tryz.prog 167 #[.agg #[.slice a ll.length c],.slice va (M.deeds ll).length cc,.agg #[.slice fa l.length fc,ra],.int .i64 i,.int .i64 m] w fun e w'=>e=.returned (.int .i64 (M.val (M.deeds ll) l m i))∧Below w.heap.size w w':=by
 intro m
 induction m with
 | zero =>
  intro i w _ hi h hd hf
  have hb2:=below2 w (.cells #[.slice a ll.length c] 25) (.cells #[.slice fa l.length fc,ra] 29)
  by_cases h0:i < 0
  ·go_enter Tryz.func167,Tryz.ntmps167
   go_wp2_with fail
   go_ret
   exact ⟨by rw [M.val_neg _ _ _ h0];rfl,hb2⟩
  ·have h0':decide (i < 0)=false:=by simpa using h0
   go_enter Tryz.func167,Tryz.ntmps167
   go_wp2_with fail
   go_ret
   exact ⟨by rw [M.val,if_neg (by omega)];rfl,hb2⟩
 | succ m ih =>
  intro i w hm hi h hd hf
  have hb2:=below2 w (.cells #[.slice a ll.length c] 25) (.cells #[.slice fa l.length fc,ra] 29)
  by_cases h0:i < 0
  ·go_enter Tryz.func167,Tryz.ntmps167
   go_wp2_with fail
   go_ret
   exact ⟨by rw [M.val_neg _ _ _ h0];rfl,hb2⟩
  ·obtain ⟨n,rfl⟩:∃ n:Nat,i=n:=⟨i.toNat,by omega⟩
   have hn:n < (M.deeds ll).length:=by omega
   have hnl:n < l.length:=by rw [HLL.out];exact hn
   have HV:Hid (M.val (M.deeds ll) l (m+1) n=if (M.deeds ll)[n].reads then M.val (M.deeds ll) l m l[n] else if (M.deeds ll)[n].d.k==3 then M.val (M.deeds ll) l m (M.deeds ll)[n].lr else (M.deeds ll)[n].d.v):=M.val_at _ _ _ _ hn hnl
   have hox:=M.ofEv _ (List.getElem_mem hn)
   have hfr:=hin n hn
   have hvf:M.valFrom (M.deeds ll) l n=if (M.deeds ll)[n].reads then l[n] else if (M.deeds ll)[n].d.k==3 then (M.deeds ll)[n].lr else -1:=by
    simp [M.valFrom,hn,hnl]
   rw [hvf] at hfr
   have HFR:Hid ((if (M.deeds ll)[n].reads then l[n] else if (M.deeds ll)[n].d.k==3 then (M.deeds ll)[n].lr else -1) < ((M.deeds ll).length:Int)):=hfr
   have HSR:Hid ((M.deeds ll)[n].reads=false→M.src (M.deeds ll) (M.deeds ll)[n].t n=(M.deeds ll)[n].lr):=M.src_ok ll n hn
   clear hvf hfr
   obtain ⟨rfl⟩:=hd.addr (by omega)
   obtain ⟨rfl⟩:=hf.addr (by omega)
   obtain ⟨f,hfe⟩:∃ f,l[n]=f:=⟨_,rfl⟩
   have hfc:=hf.row n hnl
   rw [hfe] at hfc HV HFR
   clear hfe
   obtain ⟨x,hxe⟩:∃ x,(M.deeds ll)[n]=x:=⟨_,rfl⟩
   have HXT:Hid ((M.deeds ll)[n].t=x.t):=by show _=_;rw [hxe]
   obtain ⟨c0,c1,c2⟩:=hd.at hn
   rw [hxe] at HV HFR HSR hox c0 c1 c2
   clear hxe
   have i1:(n:Int) < (M.deeds ll).length:=by omega
   have i2:(n:Int) < l.length:=by omega
   have kp:((w.alloc (.cells #[.slice a ll.length c] 25)).alloc (.cells #[.slice (some ⟨fb,fo,none⟩) l.length fc,ra] 29)).cell? ⟨w.heap.size,0,none⟩=some (.slice a ll.length c):=by simp
   have k0:((w.alloc (.cells #[.slice a ll.length c] 25)).alloc (.cells #[.slice (some ⟨fb,fo,none⟩) l.length fc,ra] 29)).cell? ⟨w.heap.size+1,0,none⟩=some (.slice (some ⟨fb,fo,none⟩) l.length fc):=by simp
   have k1:((w.alloc (.cells #[.slice a ll.length c] 25)).alloc (.cells #[.slice (some ⟨fb,fo,none⟩) l.length fc,ra] 29)).cell? ⟨w.heap.size+1,1,none⟩=some ra:=by simp
   have c0:=(hb2.cell (p:=⟨g,n * 3,none⟩) (World.block_lt_of_cell? _ _ c0)).trans c0
   have c1:=(hb2.cell (p:=⟨g,n * 3+1,none⟩) (World.block_lt_of_cell? _ _ c1)).trans c1
   have c2:=(hb2.cell (p:=⟨g,n * 3+2,none⟩) (World.block_lt_of_cell? _ _ c2)).trans c2
   have hfc:=(hb2.cell (p:=⟨fb,fo+n,none⟩) (World.block_lt_of_cell? _ _ hfc)).trans hfc
   replace h:=h.below hb2 (Nat.le_refl _)
   replace hd:=hd.bel hb2 (Nat.le_refl _)
   replace hf:=hf.below hb2 (Nat.le_refl _)
   go_enter Tryz.func167,Tryz.ntmps167
   go_wp2_with fail
   generalize (w.alloc (.cells #[.slice a ll.length c] 25)).alloc (.cells #[.slice (some ⟨fb,fo,none⟩) l.length fc,ra] 29)=wr at *
   have lg:g < wr.heap.size:=World.block_lt_of_cell? _ _ c0
   have lf:fb < wr.heap.size:=World.block_lt_of_cell? _ _ hfc
   have lw1:w.heap.size+1 < wr.heap.size:=World.block_lt_of_cell? _ _ k0
   have lw:w.heap.size < wr.heap.size:=World.block_lt_of_cell? _ _ kp
   have C:=fun W (hb:Below wr.heap.size wr W)=>l12Do_ev a b o c ll x W hox hl hls (h.below hb (Nat.le_refl _))
   have hbA:=below1 wr (.cells #[.int .i64 0,.int .i64 0,.int .i64 0] 94)
   have A0:(wr.alloc (.cells #[.int .i64 0,.int .i64 0,.int .i64 0] 94)).cell? ⟨wr.heap.size,0,none⟩=some (.int .i64 0):=by simp
   have A1:(wr.alloc (.cells #[.int .i64 0,.int .i64 0,.int .i64 0] 94)).cell? ⟨wr.heap.size,1,none⟩=some (.int .i64 0):=by simp
   have A2:(wr.alloc (.cells #[.int .i64 0,.int .i64 0,.int .i64 0] 94)).cell? ⟨wr.heap.size,2,none⟩=some (.int .i64 0):=by simp
   have Af:∀ j,(wr.alloc (.cells #[.int .i64 0,.int .i64 0,.int .i64 0] 94)).frozen? ⟨wr.heap.size,j,none⟩=false:=by intro j;simp
   have Asz:wr.heap.size < (wr.alloc (.cells #[.int .i64 0,.int .i64 0,.int .i64 0] 94)).heap.size:=by simp
   have N0:wr.heap.size≠w.heap.size:=Nat.ne_of_gt lw
   have N1:wr.heap.size≠g:=Nat.ne_of_gt lg
   have B0:=(hbA.cell (p:=⟨w.heap.size,0,none⟩) lw).trans kp
   have B1:=(hbA.cell (p:=⟨g,n * 3,none⟩) lg).trans c0
   have B2:=(hbA.cell (p:=⟨g,n * 3+1,none⟩) lg).trans c1
   have B3:=(hbA.cell (p:=⟨g,n * 3+2,none⟩) lg).trans c2
   go_region_held3 (fun w'=>w'.cell? ⟨w.heap.size,0,none⟩=some (.slice a ll.length c)∧w'.cell? ⟨g,n * 3,none⟩=some (.int .i64 x.t)∧w'.cell? ⟨g,n * 3+1,none⟩=some (.int .i64 x.i)∧w'.cell? ⟨g,n * 3+2,none⟩=some (.bool x.last)) (go_keep) (first
    | (go_at_call 134;refine (C _ ((Below.refl _ _).drew)).mono ?_;rintro e w1 ⟨rfl,hb1⟩;have Y0:=(hb1.cell (p:=⟨w.heap.size,0,none⟩) lw).trans kp;have Y1:=(hb1.cell (p:=⟨g,n * 3,none⟩) lg).trans c0;have Y2:=(hb1.cell (p:=⟨g,n * 3+1,none⟩) lg).trans c1;have Y3:=(hb1.cell (p:=⟨g,n * 3+2,none⟩) lg).trans c2)
    | (go_at_call 134;refine (C _ ((below1 _ _).drew)).mono ?_;rintro e w1 ⟨rfl,hb1⟩;have Y0:=(hb1.cell (p:=⟨w.heap.size,0,none⟩) (Nat.lt_trans lw Asz)).trans B0;have Y1:=(hb1.cell (p:=⟨g,n * 3,none⟩) (Nat.lt_trans lg Asz)).trans B1;have Y2:=(hb1.cell (p:=⟨g,n * 3+1,none⟩) (Nat.lt_trans lg Asz)).trans B2;have Y3:=(hb1.cell (p:=⟨g,n * 3+2,none⟩) (Nat.lt_trans lg Asz)).trans B3;have Z0:=(hb1.cell (p:=⟨wr.heap.size,0,none⟩) Asz).trans A0;have Z1:=(hb1.cell (p:=⟨wr.heap.size,1,none⟩) Asz).trans A1;have Z2:=(hb1.cell (p:=⟨wr.heap.size,2,none⟩) Asz).trans A2;have Zf:=fun j=>(hb1.frozen (p:=⟨wr.heap.size,j,none⟩) Asz).trans (Af j)))
   ·have F:DoIn wr _ _ x.d:=DoIn.behind (d:=x.d) ((Below.refl wr.heap.size wr).drew.trans hb1)
    generalize w1.alloc (.cells #[.int .i64 x.d.k,.int .i64 x.d.p,.int .i64 x.d.v] 94)=W1 at F ⊢
    generalize w1.heap.size=X at F ⊢
    clear hb1 A0 A1 A2 Af B0 B1 B2 B3 N0 N1 Y0 Y1 Y2 Y3 C hbA
    obtain ⟨hbF,hgF,d0,d1,d2⟩:=F
    have lX:X < W1.heap.size:=World.block_lt_of_cell? _ _ d0
    have hbG:=hbF.trans ((below1 W1 (.cells #[.int .i64 x.d.k,.int .i64 x.d.p,.int .i64 x.d.v] 94)).mono hbF.size)
    have D0:=((below1 W1 (.cells #[.int .i64 x.d.k,.int .i64 x.d.p,.int .i64 x.d.v] 94)).cell (p:=⟨X,0,none⟩) lX).trans d0
    have D2:=((below1 W1 (.cells #[.int .i64 x.d.k,.int .i64 x.d.p,.int .i64 x.d.v] 94)).cell (p:=⟨X,2,none⟩) lX).trans d2
    have hbZ:=hb2.trans (hbG.mono hb2.size)
    cases hr:M.reads x.d.k
    ·have HV2:Hid (M.val (M.deeds ll) l (m+1) n=if x.d.k==3 then M.val (M.deeds ll) l m x.lr else x.d.v):=by show _=_;rw [HV.out,show x.reads=false from hr];rfl
     cases h3:(x.d.k==3)
     ·go_wp2_with (go_at_call 76;refine (l1Reads_any x.d _).mono ?_;rw [hr];rintro e w' ⟨rfl,rfl⟩)
      go_ret
      exact ⟨by rw [HV2.out,h3];rfl,hbZ⟩
     ·have HL:Hid (x.lr < ((M.deeds ll).length:Int)):=by
       have:=HFR.out
       rw [show x.reads=false from hr,h3] at this
       exact this
      have HS:Hid (M.src (M.deeds ll) x.t n=x.lr):=HSR.out hr
      go_wp2_with (go_at_call 76;refine (l1Reads_any x.d _).mono ?_;rw [hr];rintro e w' ⟨rfl,rfl⟩)
      replace h:=h.below hbG (Nat.le_refl _)
      replace hd:=hd.bel hbG (Nat.le_refl _)
      replace hf:=hf.below hbG (Nat.le_refl _)
      replace kp:=(hbG.cell (p:=⟨w.heap.size,0,none⟩) lw).trans kp
      replace k0:=(hbG.cell (p:=⟨w.heap.size+1,0,none⟩) lw1).trans k0
      replace k1:=(hbG.cell (p:=⟨w.heap.size+1,1,none⟩) lw1).trans k1
      generalize W1.alloc (.cells #[.int .i64 x.d.k,.int .i64 x.d.p,.int .i64 x.d.v] 94)=W2 at *
      have KP:=BelowOf.cell kp
      have K0:=BelowOf.cell k0
      have K1:=BelowOf.cell k1
      have C1:=fun q:BelowOf W2=>l12Source_any a b o c ll (some ⟨g,0,none⟩) g cc n x.t q.x hn HXT.out hl hls hdl (h.below q.h (Nat.le_refl _)) (hd.bel q.h (Nat.le_refl _))
      have C2:=fun q:BelowOf W2=>ih x.lr q.x (by omega) HL.out (h.below q.h (Nat.le_refl _)) (hd.bel q.h (Nat.le_refl _)) (hf.below q.h (Nat.le_refl _))
      rw [HS.out] at C1
      haveI:Inhabited (BelowOf W2):=⟨belOf W2⟩
      clear ih
      have em:IntKind.i64.wrap (m:Int)=m:=by rw [IntKind.wrap_i64];omega
      refine wp_region_quiet_bel (by kernel_rfl) (by kernel_rfl) ?_
      repeat (quiet_step (first | (go_at_call 182;exact Calls.bel_of (C1 _)) | (go_at_call 167;exact Calls.bel_of (C2 _))))
      refine wpQuiet_nil ?_
      rintro _ ⟨⟨wq,hwq⟩,rfl⟩
      go_wp2_with fail
      go_ret
      exact ⟨by rw [HV2.out,h3];rfl,hbZ.trans (hwq.mono hbZ.size)⟩
    ·have HV2:Hid (M.val (M.deeds ll) l (m+1) n=M.val (M.deeds ll) l m f):=by show _=_;rw [HV.out,show x.reads=true from hr];rfl
     have HL:Hid (f < ((M.deeds ll).length:Int)):=by
      have:=HFR.out
      rw [show x.reads=true from hr] at this
      exact this
     go_wp2_with (go_at_call 76;refine (l1Reads_any x.d _).mono ?_;rw [hr];rintro e w' ⟨rfl,rfl⟩)
     replace h:=h.below hbG (Nat.le_refl _)
     replace hd:=hd.bel hbG (Nat.le_refl _)
     replace hf:=hf.below hbG (Nat.le_refl _)
     replace kp:=(hbG.cell (p:=⟨w.heap.size,0,none⟩) lw).trans kp
     replace k0:=(hbG.cell (p:=⟨w.heap.size+1,0,none⟩) lw1).trans k0
     replace k1:=(hbG.cell (p:=⟨w.heap.size+1,1,none⟩) lw1).trans k1
     replace hfc:=(hbG.cell (p:=⟨fb,fo+n,none⟩) lf).trans hfc
     generalize W1.alloc (.cells #[.int .i64 x.d.k,.int .i64 x.d.p,.int .i64 x.d.v] 94)=W2 at *
     have KP:=BelowOf.cell kp
     have K0:=BelowOf.cell k0
     have K1:=BelowOf.cell k1
     have KF:=BelowOf.cell hfc
     have C2:=fun q:BelowOf W2=>ih f q.x (by omega) HL.out (h.below q.h (Nat.le_refl _)) (hd.bel q.h (Nat.le_refl _)) (hf.below q.h (Nat.le_refl _))
     haveI:Inhabited (BelowOf W2):=⟨belOf W2⟩
     clear ih
     have em:IntKind.i64.wrap (m:Int)=m:=by rw [IntKind.wrap_i64];omega
     refine wp_region_quiet_bel (by kernel_rfl) (by kernel_rfl) ?_
     repeat (quiet_step (first | (go_at_call 167;exact Calls.bel_of (C2 _))))
     refine wpQuiet_nil ?_
     rintro _ ⟨⟨wq,hwq⟩,rfl⟩
     go_wp2_with fail
     go_ret
     exact ⟨by rw [HV2.out];rfl,hbZ.trans (hwq.mono hbZ.size)⟩
   ·have F:DoIn wr _ _ x.d:=DoIn.ahead (d:=x.d) (hbA.drew.trans (hb1.mono (Nat.le_of_lt Asz))) Z0 Z1 Z2
    generalize ((w1.setCell ⟨wr.heap.size,0,none⟩ (.int .i64 x.d.k)).setCell ⟨wr.heap.size,1,none⟩ (.int .i64 x.d.p)).setCell ⟨wr.heap.size,2,none⟩ (.int .i64 x.d.v)=W1 at F ⊢
    obtain ⟨X,hX,F⟩:∃ X,X=wr.heap.size∧DoIn wr W1 X x.d:=⟨_,rfl,F⟩
    rw [← hX]
    clear hX
    clear hb1 A0 A1 A2 Af B0 B1 B2 B3 N0 N1 Y0 Y1 Y2 Y3 C hbA
    obtain ⟨hbF,hgF,d0,d1,d2⟩:=F
    have lX:X < W1.heap.size:=World.block_lt_of_cell? _ _ d0
    have hbG:=hbF.trans ((below1 W1 (.cells #[.int .i64 x.d.k,.int .i64 x.d.p,.int .i64 x.d.v] 94)).mono hbF.size)
    have D0:=((below1 W1 (.cells #[.int .i64 x.d.k,.int .i64 x.d.p,.int .i64 x.d.v] 94)).cell (p:=⟨X,0,none⟩) lX).trans d0
    have D2:=((below1 W1 (.cells #[.int .i64 x.d.k,.int .i64 x.d.p,.int .i64 x.d.v] 94)).cell (p:=⟨X,2,none⟩) lX).trans d2
    have hbZ:=hb2.trans (hbG.mono hb2.size)
    cases hr:M.reads x.d.k
    ·have HV2:Hid (M.val (M.deeds ll) l (m+1) n=if x.d.k==3 then M.val (M.deeds ll) l m x.lr else x.d.v):=by show _=_;rw [HV.out,show x.reads=false from hr];rfl
     cases h3:(x.d.k==3)
     ·go_wp2_with (go_at_call 76;refine (l1Reads_any x.d _).mono ?_;rw [hr];rintro e w' ⟨rfl,rfl⟩)
      go_ret
      exact ⟨by rw [HV2.out,h3];rfl,hbZ⟩
     ·have HL:Hid (x.lr < ((M.deeds ll).length:Int)):=by
       have:=HFR.out
       rw [show x.reads=false from hr,h3] at this
       exact this
      have HS:Hid (M.src (M.deeds ll) x.t n=x.lr):=HSR.out hr
      go_wp2_with (go_at_call 76;refine (l1Reads_any x.d _).mono ?_;rw [hr];rintro e w' ⟨rfl,rfl⟩)
      replace h:=h.below hbG (Nat.le_refl _)
      replace hd:=hd.bel hbG (Nat.le_refl _)
      replace hf:=hf.below hbG (Nat.le_refl _)
      replace kp:=(hbG.cell (p:=⟨w.heap.size,0,none⟩) lw).trans kp
      replace k0:=(hbG.cell (p:=⟨w.heap.size+1,0,none⟩) lw1).trans k0
      replace k1:=(hbG.cell (p:=⟨w.heap.size+1,1,none⟩) lw1).trans k1
      generalize W1.alloc (.cells #[.int .i64 x.d.k,.int .i64 x.d.p,.int .i64 x.d.v] 94)=W2 at *
      have KP:=BelowOf.cell kp
      have K0:=BelowOf.cell k0
      have K1:=BelowOf.cell k1
      have C1:=fun q:BelowOf W2=>l12Source_any a b o c ll (some ⟨g,0,none⟩) g cc n x.t q.x hn HXT.out hl hls hdl (h.below q.h (Nat.le_refl _)) (hd.bel q.h (Nat.le_refl _))
      have C2:=fun q:BelowOf W2=>ih x.lr q.x (by omega) HL.out (h.below q.h (Nat.le_refl _)) (hd.bel q.h (Nat.le_refl _)) (hf.below q.h (Nat.le_refl _))
      rw [HS.out] at C1
      haveI:Inhabited (BelowOf W2):=⟨belOf W2⟩
      clear ih
      have em:IntKind.i64.wrap (m:Int)=m:=by rw [IntKind.wrap_i64];omega
      refine wp_region_quiet_bel (by kernel_rfl) (by kernel_rfl) ?_
      repeat (quiet_step (first | (go_at_call 182;exact Calls.bel_of (C1 _)) | (go_at_call 167;exact Calls.bel_of (C2 _))))
      refine wpQuiet_nil ?_
      rintro _ ⟨⟨wq,hwq⟩,rfl⟩
      go_wp2_with fail
      go_ret
      exact ⟨by rw [HV2.out,h3];rfl,hbZ.trans (hwq.mono hbZ.size)⟩
    ·have HV2:Hid (M.val (M.deeds ll) l (m+1) n=M.val (M.deeds ll) l m f):=by show _=_;rw [HV.out,show x.reads=true from hr];rfl
     have HL:Hid (f < ((M.deeds ll).length:Int)):=by
      have:=HFR.out
      rw [show x.reads=true from hr] at this
      exact this
     go_wp2_with (go_at_call 76;refine (l1Reads_any x.d _).mono ?_;rw [hr];rintro e w' ⟨rfl,rfl⟩)
     replace h:=h.below hbG (Nat.le_refl _)
     replace hd:=hd.bel hbG (Nat.le_refl _)
     replace hf:=hf.below hbG (Nat.le_refl _)
     replace kp:=(hbG.cell (p:=⟨w.heap.size,0,none⟩) lw).trans kp
     replace k0:=(hbG.cell (p:=⟨w.heap.size+1,0,none⟩) lw1).trans k0
     replace k1:=(hbG.cell (p:=⟨w.heap.size+1,1,none⟩) lw1).trans k1
     replace hfc:=(hbG.cell (p:=⟨fb,fo+n,none⟩) lf).trans hfc
     generalize W1.alloc (.cells #[.int .i64 x.d.k,.int .i64 x.d.p,.int .i64 x.d.v] 94)=W2 at *
     have KP:=BelowOf.cell kp
     have K0:=BelowOf.cell k0
     have K1:=BelowOf.cell k1
     have KF:=BelowOf.cell hfc
     have C2:=fun q:BelowOf W2=>ih f q.x (by omega) HL.out (h.below q.h (Nat.le_refl _)) (hd.bel q.h (Nat.le_refl _)) (hf.below q.h (Nat.le_refl _))
     haveI:Inhabited (BelowOf W2):=⟨belOf W2⟩
     clear ih
     have em:IntKind.i64.wrap (m:Int)=m:=by rw [IntKind.wrap_i64];omega
     refine wp_region_quiet_bel (by kernel_rfl) (by kernel_rfl) ?_
     repeat (quiet_step (first | (go_at_call 167;exact Calls.bel_of (C2 _))))
     refine wpQuiet_nil ?_
     rintro _ ⟨⟨wq,hwq⟩,rfl⟩
     go_wp2_with fail
     go_ret
     exact ⟨by rw [HV2.out];rfl,hbZ.trans (hwq.mono hbZ.size)⟩
end
section
open Go.RowKit
def M.vEnds (ds:List M.De) (l:List Int):Nat→List M.De→Bool
 | _,[]=>true
 | n,_::xs=>decide (0≤M.val ds l (2 * ds.length+2) n)&&M.vEnds ds l (n+1) xs
theorem M.vEnds_step {ds:List M.De} {l:List Int} {n:Nat} (h:M.vEnds ds l 0 ds=M.vEnds ds l n (ds.drop n)) (hn:n < ds.length):M.vEnds ds l 0 ds=(decide (0≤M.val ds l (2 * ds.length+2) n)&&M.vEnds ds l (n+1) (ds.drop (n+1))):=by
 rw [h,← List.getElem_cons_drop hn,M.vEnds]
set_option maxHeartbeats 1000000 in
set_option maxRecDepth 100000 in
theorem l12Ends_any (a:Option Addr) (b o c:Nat) (ll:List (List M.D)) (va:Option Addr) (g cc:Nat) (fa:Option Addr) (fb fo fc:Nat) (l:List Int) (ra:Value) (w:World) (hl:ll.length≤1048576) (hls:∀ t∈ll,t.length≤1048576) (hdl:(M.deeds ll).length≤42) (HLL:Hid (l.length=(M.deeds ll).length)) (hin:M.In (M.deeds ll) l) (h:DoSS w a b o ll) (hd:DvS w va g (M.deeds ll)) (hf:IntS w fa fb fo l) :
  Calls Tryz.prog 112 #[.agg #[.slice a ll.length c],.slice va (M.deeds ll).length cc,.agg #[.slice fa l.length fc,ra]] w fun e w'=>e=.returned (.bool (M.vEnds (M.deeds ll) l 0 (M.deeds ll)))∧Below w.heap.size w w':=by
 have hb2:=below2 w (.cells #[.slice a ll.length c] 25) (.cells #[.slice fa l.length fc,ra] 29)
 have kp:((w.alloc (.cells #[.slice a ll.length c] 25)).alloc (.cells #[.slice fa l.length fc,ra] 29)).cell? ⟨w.heap.size,0,none⟩=some (.slice a ll.length c):=by simp
 have k0:((w.alloc (.cells #[.slice a ll.length c] 25)).alloc (.cells #[.slice fa l.length fc,ra] 29)).cell? ⟨w.heap.size+1,0,none⟩=some (.slice fa l.length fc):=by simp
 have k1:((w.alloc (.cells #[.slice a ll.length c] 25)).alloc (.cells #[.slice fa l.length fc,ra] 29)).cell? ⟨w.heap.size+1,1,none⟩=some ra:=by simp
 have C:=l12Val_any a b o c ll va g cc fa fb fo fc l ra hl hls hdl HLL hin (2 * (M.deeds ll).length+2)
 rw [show ((2 * (M.deeds ll).length+2:Nat):Int)=2 * ((M.deeds ll).length:Int)+2 from by omega] at C
 generalize M.deeds ll=ds at *
 replace h:=h.below hb2 (Nat.le_refl _)
 replace hd:=hd.bel hb2 (Nat.le_refl _)
 replace hf:=hf.below hb2 (Nat.le_refl _)
 go_enter Tryz.func112,Tryz.ntmps112
 go_wp2_with fail
 generalize (w.alloc (.cells #[.slice a ll.length c] 25)).alloc (.cells #[.slice fa l.length fc,ra] 29)=WB at *
 have lw1:w.heap.size+1 < WB.heap.size:=World.block_lt_of_cell? _ _ k0
 have lw:w.heap.size < WB.heap.size:=World.block_lt_of_cell? _ _ kp
 go_loopw [7] (fun s7 wr=>∃ n:Nat,s7=.int .i64 n∧n≤ds.length∧Hid (M.vEnds ds l 0 ds=M.vEnds ds l n (ds.drop n))∧Below WB.heap.size WB wr) (fun s7 _=>ds.length - (intOf s7).toNat)
 case atStart=>exact ⟨0,rfl,Nat.zero_le _,by show _=_;rfl,Below.refl _ _⟩
 case round =>
  obtain ⟨n,rfl,hn,HA,hb⟩:=hrel
  have hbw:=hb2.trans (hb.mono hb2.size)
  have kp':=(hb.cell (p:=⟨w.heap.size,0,none⟩) lw).trans kp
  have k0':=(hb.cell (p:=⟨w.heap.size+1,0,none⟩) lw1).trans k0
  have k1':=(hb.cell (p:=⟨w.heap.size+1,1,none⟩) lw1).trans k1
  by_cases hlt:n < ds.length
  ·have HS:Hid (M.vEnds ds l 0 ds=(decide (0≤M.val ds l (2 * ds.length+2) n)&&M.vEnds ds l (n+1) (ds.drop (n+1)))):=M.vEnds_step HA.out hlt
   have C1:=C n wr (by omega) (by omega) (h.below hb (Nat.le_refl _)) (hd.bel hb (Nat.le_refl _)) (hf.below hb (Nat.le_refl _))
   clear HA C
   generalize M.val ds l (2 * ds.length+2) n=r at *
   have i1:(n:Int) < ds.length:=by omega
   by_cases hr:r < 0
   ·have HT:Hid (M.vEnds ds l 0 ds=false):=by show _=_;rw [HS.out,decide_eq_false (by omega)];rfl
    go_wp2_with (go_at_call 167;refine C1.mono ?_;rintro e w1 ⟨rfl,hb1⟩)
    go_ret
    exact ⟨ret_bool HT.out.symm,hbw.trans (hb1.mono hbw.size)⟩
   ·have HT:Hid (M.vEnds ds l 0 ds=M.vEnds ds l (n+1) (ds.drop (n+1))):=by show _=_;rw [HS.out,decide_eq_true (by omega)];rfl
    have hr':decide (r < 0)=false:=by simpa using hr
    go_wp2_with (go_at_call 167;refine C1.mono ?_;rintro e w1 ⟨rfl,hb1⟩)
    exact ⟨⟨n+1,by go_num,by omega,HT,hb.trans (hb1.mono hb.size)⟩,by simp [intOf];omega⟩
  ·go_wp2_with fail
   go_ret
   exact ⟨ret_bool (by rw [HA.out,List.drop_eq_nil_of_le (by omega)];rfl),hbw⟩
end
section
theorem nodup_le:∀ {l m:List Int},l.Nodup→(∀ x∈l,x∈m)→l.length≤m.length:=by
 intro l
 induction l with
 | nil=>intro m _ _;exact Nat.zero_le _
 | cons x l ih =>
  intro m hn hs
  obtain ⟨hx,hl⟩:=List.nodup_cons.1 hn
  have hm:=hs x (List.mem_cons_self ..)
  have:=ih (m:=m.erase x) hl (fun y hy=>by
   have hne:y≠x:=fun e=>hx (e▸hy)
   exact (List.mem_erase_of_ne hne).2 (hs y (List.mem_cons_of_mem _ hy)))
  rw [List.length_erase_of_mem hm] at this
  have hpos:0 < m.length:=List.length_pos_of_mem hm
  simp only [List.length_cons]
  omega
theorem nodup_all {l m:List Int} (hn:l.Nodup) (hs:∀ x∈l,x∈m) (hlen:m.length=l.length):∀ y∈m,y∈l:=by
 intro y hy
 rcases Classical.em (y∈l) with h | h
 ·exact h
 ·have:=nodup_le (l:=y::l) (m:=m) (List.nodup_cons.2 ⟨h,hn⟩) (fun x hx=>by
   rcases List.mem_cons.1 hx with rfl | hx
   ·exact hy
   ·exact hs x hx)
  simp only [List.length_cons] at this
  omega
theorem M.isRow_mem {ds:List M.De} {p:Int} {row:List Int} (h:M.isRow row (M.wrs p 0 ds)=true) (f:Int):f∈row↔f∈M.wrs p 0 ds:=by
 simp only [M.isRow,Bool.and_eq_true,decide_eq_true_eq,List.all_eq_true] at h
 obtain ⟨hlen,hall⟩:=h
 have hs:∀ x∈M.wrs p 0 ds,x∈row:=fun x hx=>by simpa using hall x hx
 exact ⟨nodup_all (M.nodup_wrs p ds 0) hs hlen f,hs f⟩
theorem M.orderAt_get {ds:List M.De}:∀ {rows:List (List Int)} {p:Nat},M.orderAt ds p rows=true→∀ n (h:n < rows.length),M.isRow rows[n] (M.wrs ((p+n:Nat):Int) 0 ds)=true:=by
 intro rows
 induction rows with
 | nil=>intro p _ n h;exact absurd h (Nat.not_lt_zero _)
 | cons row rows ih =>
  intro p h n hn
  simp only [M.orderAt,Bool.and_eq_true] at h
  cases n with
  | zero=>exact h.1
  | succ n =>
   have:=ih h.2 n (by simpa using hn)
   rw [show p+1+n=p+(n+1) from by omega] at this
   simpa using this
def M.backQ (ds:List M.De) (l:List Int) (n:Nat):Nat→Nat
 | 0=>n
 | k+1=>(M.valFrom ds l (M.backQ ds l n k)).toNat
theorem M.backQ_succ (ds:List M.De) (l:List Int) (n:Nat):∀ k,M.backQ ds l n (k+1)=M.backQ ds l (M.valFrom ds l n).toNat k:=by
 intro k
 induction k with
 | zero=>rfl
 | succ k ih=>rw [M.backQ,ih,M.backQ]
theorem M.backQ_add (ds:List M.De) (l:List Int) (n a:Nat):∀ k,M.backQ ds l n (a+k)=M.backQ ds l (M.backQ ds l n a) k:=by
 intro k
 induction k with
 | zero=>rfl
 | succ k ih=>rw [← Nat.add_assoc,M.backQ,ih,M.backQ]
theorem M.orig_iff (ds:List M.De) (l:List Int):∀ (m n:Nat),(M.orig ds l m n).isSome=true↔∃ k,k < m∧M.valFrom ds l (M.backQ ds l n k) < 0:=by
 intro m
 induction m with
 | zero=>intro n;simp [M.orig]
 | succ m ih =>
  intro n
  rw [M.orig]
  by_cases h:M.valFrom ds l n < 0
  ·rw [if_pos h];exact ⟨fun _=>⟨0,by omega,h⟩,fun _=>rfl⟩
  ·rw [if_neg h,ih]
   constructor
   ·rintro ⟨k,hk,h2⟩;exact ⟨k+1,by omega,by rw [M.backQ_succ];exact h2⟩
   ·rintro ⟨k,hk,h2⟩
    cases k with
    | zero=>exact absurd h2 h
    | succ k=>rw [M.backQ_succ] at h2;exact ⟨k,by omega,h2⟩
theorem M.backQ_short {ds:List M.De} {l:List Int} (hin:M.In ds l) {n:Nat} (hn:n < ds.length):∀ k,M.valFrom ds l (M.backQ ds l n k) < 0→∃ j,j < ds.length∧M.valFrom ds l (M.backQ ds l n j) < 0:=by
 intro k
 induction k using Nat.strongRecOn with
 | ind k ih =>
  intro hk
  by_cases hlt:k < ds.length
  ·exact ⟨k,hlt,hk⟩
  ·by_cases hex:∃ j,j < k∧M.valFrom ds l (M.backQ ds l n j) < 0
   ·obtain ⟨j,hj,h2⟩:=hex
    exact ih j hj h2
   ·have hall:∀ j,j≤k→M.backQ ds l n j < ds.length:=by
     intro j
     induction j with
     | zero=>intro _;exact hn
     | succ j ihj =>
      intro hj
      have h1:=hin _ (ihj (by omega))
      have h2:¬ M.valFrom ds l (M.backQ ds l n j) < 0:=fun h=>hex ⟨j,by omega,h⟩
      rw [M.backQ];omega
    have hpg:∃ a b,a < b∧b≤ds.length∧M.backQ ds l n a=M.backQ ds l n b:=by
     refine Classical.byContradiction fun hno=>?_
     have hnd:((List.range (ds.length+1)).map (fun j=>(M.backQ ds l n j:Int))).Nodup:=by
      unfold List.Nodup
      rw [List.pairwise_map]
      refine List.Pairwise.imp_of_mem ?_ List.pairwise_lt_range
      intro a b ha hb hab e
      rw [List.mem_range] at ha hb
      exact hno ⟨a,b,hab,by omega,by omega⟩
     have:=nodup_le (m:=(List.range ds.length).map (fun j:Nat=>(j:Int))) hnd (by
      intro x hx
      obtain ⟨j,hj,rfl⟩:=List.mem_map.1 hx
      rw [List.mem_range] at hj
      exact List.mem_map.2 ⟨_,List.mem_range.2 (hall j (by omega)),rfl⟩)
     simp at this
     omega
    obtain ⟨a,b,hab,hb,e⟩:=hpg
    refine ih (a+(k - b)) (by omega) ?_
    rw [M.backQ_add,e,← M.backQ_add,show b+(k - b)=k from by omega]
    exact hk
theorem M.orig_more {ds:List M.De} {l:List Int} (hin:M.In ds l) {n:Nat} (hn:n < ds.length):(M.orig ds l (2 * ds.length+2) n).isSome=(M.orig ds l ds.length n).isSome:=by
 rw [Bool.eq_iff_iff,M.orig_iff,M.orig_iff]
 constructor
 ·rintro ⟨k,_,h⟩;exact M.backQ_short hin hn k h
 ·rintro ⟨k,hk,h⟩;exact ⟨k,by omega,h⟩
theorem M.vEnds_eq {ds:List M.De} {l:List Int} (hin:M.In ds l) (hv:∀ x∈ds,0≤x.d.v) (hll:l.length=ds.length):M.vEnds ds l 0 ds=M.ends ds l:=by
 have key:∀ (xs:List M.De) (n:Nat),n+xs.length=ds.length→M.vEnds ds l n xs=M.endsAt ds l n xs:=by
  intro xs
  induction xs with
  | nil=>intro n _;rfl
  | cons x xs ih =>
   intro n hn
   simp only [List.length_cons] at hn
   rw [M.vEnds,M.endsAt,ih (n+1) (by omega),M.val_orig hin hv hll _ n (by omega),M.orig_more hin (by omega)]
 exact key ds 0 (by omega)
end
section
open Go.RowKit
theorem M.prog_do {ll:List (List M.D)} (h:M.prog ll=true):∀ l∈ll,∀ d∈l,M.doOk d=true:=by
 simp only [M.prog,Bool.and_eq_true,decide_eq_true_eq] at h
 have key:∀ (ll:List (List M.D)) (a u:Nat),M.progFrom a u ll=true→∀ l∈ll,∀ d∈l,M.doOk d=true:=by
  intro ll
  induction ll with
  | nil=>intro a u _ l hl;cases hl
  | cons x ll ih =>
   intro a u hp l hl
   simp only [M.progFrom] at hp
   split at hp
   ·rename_i hx
    rcases List.mem_cons.1 hl with rfl | hl
    ·simp only [M.thread,Bool.and_eq_true,M.form,List.all_eq_true] at hx
     exact hx.1.1.2
    ·exact ih _ _ hp l hl
   ·cases hp
 exact key ll 0 0 h.2
theorem M.deed_do {ll:List (List M.D)} (h:M.prog ll=true):∀ x∈M.deeds ll,M.doOk x.d=true:=by
 intro x hx
 obtain ⟨ht,hi,e⟩:=M.ofEv x hx
 rw [← e]
 exact M.prog_do h _ (List.getElem_mem ht) _ (List.getElem_mem hi)
theorem M.deed_v {ll:List (List M.D)} (h:M.prog ll=true):∀ x∈M.deeds ll,0≤x.d.v:=by
 intro x hx
 have:=M.deed_do h x hx
 simp only [M.doOk,Bool.and_eq_true,M.valOk] at this
 have hv:=this.2
 split at hv
 ·simp at hv;omega
 ·simp at hv;omega
end
end Go.Proofs.YtmhpgdliaclokaaGreat
