/- The plain mathematics of events. No condition. impl.deedsOf: all events with their steps. Of at most three threads, each of at most seven steps. impl.ExecEvents, spec.ExecEvents. Of programs of at most 1048576 threads, each of at most 1048576 steps. -/
import Derived.Test.YtmhpgdliaclokaaGreatRows
import Derived.Test.YtmhpgdliaclokaaGreatQzah
namespace Go.Proofs.YtmhpgdliaclokaaGreat
section
namespace M
structure De where
 t:Nat
 i:Nat
 last:Bool
 d:D
 lr:Int
structure Ev where
 t:Nat
 i:Nat
 last:Bool
def De.ev (x:De):Ev:=⟨x.t,x.i,x.last⟩
def lrOf (lr:Int) (n:Nat) (d:D):Int:=if reads d.k then (n:Int) else lr
def deD (t i:Nat) (lr:Int) (n:Nat) (d:D):List De:=if d.k==9 then [⟨t,i,false,d,lrOf lr n d⟩,⟨t,i,true,d,lrOf lr n d⟩] else [⟨t,i,false,d,lrOf lr n d⟩]
def deT (t:Nat):Nat→Int→Nat→List D→List De
 | _,_,_,[]=>[]
 | i,lr,n,d::l=>deD t i lr n d++deT t (i+1) (lrOf lr n d) (n+(deD t i lr n d).length) l
def deF:Nat→Nat→List (List D)→List De
 | _,_,[]=>[]
 | t,n,l::ll=>deT t 0 (-1) n l++deF (t+1) (n+(deT t 0 (-1) n l).length) ll
def deeds (ll:List (List D)):List De:=deF 0 0 ll
def events (ll:List (List D)):List Ev:=(deeds ll).map De.ev
theorem deD_len (t i:Nat) (lr:Int) (n:Nat) (d:D):1≤(deD t i lr n d).length∧(deD t i lr n d).length≤2:=by
 unfold deD;split<;>simp
theorem deT_len (t:Nat) (l:List D):∀ (i:Nat) (lr:Int) (n:Nat),(deT t i lr n l).length≤2 * l.length:=by
 induction l with
 | nil=>intro i lr n;simp [deT]
 | cons d l ih =>
  intro i lr n
  have h1:=deD_len t i lr n d
  have h2:=ih (i+1) (lrOf lr n d) (n+(deD t i lr n d).length)
  simp only [deT,List.length_append,List.length_cons]
  omega
theorem deF_len (ll:List (List D)):∀ (t n:Nat),(∀ l∈ll,l.length≤7)→(deF t n ll).length≤14 * ll.length:=by
 induction ll with
 | nil=>intro t n _;simp [deF]
 | cons l ll ih =>
  intro t n h
  have h1:=deT_len t l 0 (-1) n
  have h2:=h l (by simp)
  have h3:=ih (t+1) (n+(deT t 0 (-1) n l).length) (fun x hx=>h x (List.mem_cons_of_mem _ hx))
  simp only [deF,List.length_append,List.length_cons]
  omega
theorem deeds_len {ll:List (List D)} (h3:ll.length≤3) (h7:∀ l∈ll,l.length≤7):(deeds ll).length≤42:=by
 have:=deF_len ll 0 0 h7
 unfold deeds
 omega
def toTell (ll:List (List D)) (l:List D) (t i:Nat) (lr:Int) (n:Nat):List De:=deT t i lr n (l.drop i)++deF (t+1) (n+(deT t i lr n (l.drop i)).length) (ll.drop (t+1))
theorem tell_start {ll:List (List D)} {t:Nat} {xs:List De} (h:deeds ll=xs++deF t xs.length (ll.drop t)) (ht:t < ll.length):deeds ll=xs++toTell ll ll[t] t 0 (-1) xs.length:=by
 rw [h,← List.getElem_cons_drop ht]
 simp [toTell,deF]
theorem tell_step {ll:List (List D)} {l:List D} {t i:Nat} {lr:Int} {xs:List De} (h:deeds ll=xs++toTell ll l t i lr xs.length) (hi:i < l.length):deeds ll=(xs++deD t i lr xs.length l[i])++toTell ll l t (i+1) (lrOf lr xs.length l[i]) (xs++deD t i lr xs.length l[i]).length:=by
 rw [h]
 unfold toTell
 rw [← List.getElem_cons_drop hi,deT]
 simp [Nat.add_assoc]
theorem tell_end {ll:List (List D)} {l:List D} {t i:Nat} {lr:Int} {xs:List De} (h:deeds ll=xs++toTell ll l t i lr xs.length) (hi:l.length≤i):deeds ll=xs++deF (t+1) xs.length (ll.drop (t+1)):=by
 rw [h]
 unfold toTell
 rw [List.drop_eq_nil_of_le hi]
 simp [deT]
theorem tell_all {ll:List (List D)} {t:Nat} {xs:List De} (h:deeds ll=xs++deF t xs.length (ll.drop t)) (ht:ll.length≤t):deeds ll=xs:=by
 rw [h,List.drop_eq_nil_of_le ht]
 simp [deF]
theorem deD_wait {t i n:Nat} {lr:Int} {d:D} (h:(d.k==9)=true):deD t i lr n d=[⟨t,i,false,d,lrOf lr n d⟩]++[⟨t,i,true,d,lrOf lr n d⟩]:=by unfold deD;rw [if_pos h];rfl
theorem deD_one {t i n:Nat} {lr:Int} {d:D} (h:(d.k==9)=false):deD t i lr n d=[⟨t,i,false,d,lrOf lr n d⟩]:=by unfold deD;rw [if_neg (by rw [h];simp)]
end M
end
section
open Go.RowKit
def M.De.cells (x:M.De):List Value:=[.int .i64 x.t,.int .i64 x.i,.bool x.last,.int .i64 x.d.k,.int .i64 x.d.p,.int .i64 x.d.v,.int .i64 x.lr]
def flatDe (l:List M.De):List Value:=(l.map M.De.cells).flatten
theorem flatDe_append (l m:List M.De):flatDe (l++m)=flatDe l++flatDe m:=by simp [flatDe]
theorem flatDe_one (x:M.De):flatDe [x]=x.cells:=by simp [flatDe]
theorem Tryz.infoDeed:(Tryz.prog.info? 96).map (fun i=>(i.zero,i.size,i.bytes))=some (some (.agg #[.int .i64 0,.int .i64 0,.bool false,.int .i64 0,.int .i64 0,.int .i64 0,.int .i64 0]),7,56):=by kernel_rfl
set_option maxHeartbeats 2000000 in
set_option maxRecDepth 100000 in
theorem deedsOf_any (a:Option Addr) (b o c:Nat) (ll:List (List M.D)) (w:World) (h3:ll.length≤3) (h7:∀ l∈ll,l.length≤7) (h:DoSS w a b o ll) :
  Calls Tryz.prog 39 #[.agg #[.slice a ll.length c]] w fun e w'=>∃ v,e=.returned v∧w'.ownsRow w.heap.size 96 7 v (M.deeds ll).length (flatDe (M.deeds ll))∧Below w.heap.size w w':=by
 obtain ⟨i0,hi,hz0,hz1,hz2⟩:=info_parts Tryz.infoDeed
 have hdl:=M.deeds_len h3 h7
 have hbx:=below1 w (.cells #[.slice a ll.length c] 25)
 go_enter Tryz.func39,Tryz.ntmps39
 go_wp2_with fail
 go_loopw [3,12] (fun s3 s12 wr=>∃ (xs:List M.De) (t:Nat) (va:Option Addr) (vc:Nat),s3=.slice va xs.length vc∧s12=.int .i64 t∧t≤ll.length∧xs.length≤42∧Hid (M.deeds ll=xs++M.deF t xs.length (ll.drop t))∧Told w wr 96 7 (.slice va xs.length vc) xs.length (flatDe xs)) (fun _ s12 _=>ll.length - (intOf s12).toNat)
 case atStart=>exact ⟨[],0,none,0,rfl,rfl,Nat.zero_le _,by simp,by show _=_;rfl,Told.start _ _ _ _ hbx⟩
 case round =>
  obtain ⟨xs,t,va,vc,rfl,rfl,htl,hxl,HX,hT⟩:=hrel
  by_cases hlt:t < ll.length
  ·obtain ⟨rfl⟩:=h.addr (by omega)
   obtain ⟨a',b',o',c',hc0,hd⟩:=h.row t hlt
   have hc:=(hT.bel.cell (p:=⟨b,o+t,none⟩) (World.block_lt_of_cell? _ _ hc0)).trans hc0
   have hl7:=h7 _ (List.getElem_mem hlt)
   have HX2:Hid (M.deeds ll=xs++M.toTell ll ll[t] t 0 (-1) xs.length):=M.tell_start HX.out hlt
   clear HX hc0
   generalize ll[t]=l at *
   have i1:(t:Int) < ll.length:=by omega
   go_wp2_with fail
   go_loopw [3,6,19] (fun s3 s6 s19 wr=>∃ (xs:List M.De) (i:Nat) (lr:Int) (va:Option Addr) (vc:Nat),s3=.slice va xs.length vc∧s6=.int .i64 lr∧s19=.int .i64 i∧i≤l.length∧xs.length≤42∧Hid (M.deeds ll=xs++M.toTell ll l t i lr xs.length)∧Told w wr 96 7 (.slice va xs.length vc) xs.length (flatDe xs)) (fun _ _ s19 _=>l.length - (intOf s19).toNat)
   case atStart=>exact ⟨xs,0,-1,va,vc,rfl,rfl,rfl,Nat.zero_le _,hxl,HX2,hT⟩
   case round =>
    clear hT hc HX2 hxl
    obtain ⟨xs,i,lr,va,vc,rfl,rfl,rfl,hil,hxl,HX,hT⟩:=hrel
    by_cases hlt2:i < l.length
    ·obtain ⟨rfl⟩:=hd.addr (by omega)
     obtain ⟨ck,cp,cv⟩:=(hd.below hT.bel (Nat.le_refl _)).row i hlt2
     have HX3:Hid (M.deeds ll=(xs++M.deD t i lr xs.length l[i])++M.toTell ll l t (i+1) (M.lrOf lr xs.length l[i]) (xs++M.deD t i lr xs.length l[i]).length):=M.tell_step HX.out hlt2
     clear HX
     generalize l[i]=d at *
     have hln:(xs++M.deD t i lr xs.length d).length≤42:=by
      have:=congrArg List.length HX3.out
      simp only [List.length_append] at this ⊢
      omega
     have i2:(i:Int) < l.length:=by omega
     have lb':b' < wr.heap.size:=World.block_lt_of_cell? _ _ ck
     obtain ⟨lr2,hlr2⟩:∃ lr2,M.lrOf lr xs.length d=lr2:=⟨_,rfl⟩
     have HLR:Hid (M.lrOf lr xs.length d=lr2):=hlr2
     have hT1:=hT.below (below1 wr (.cells #[.int .i64 d.k,.int .i64 d.p,.int .i64 d.v] 94))
     have hbox0:(wr.alloc (.cells #[.int .i64 d.k,.int .i64 d.p,.int .i64 d.v] 94)).cell? ⟨wr.heap.size,0,none⟩=some (.int .i64 d.k):=by simp
     have hbox1:(wr.alloc (.cells #[.int .i64 d.k,.int .i64 d.p,.int .i64 d.v] 94)).cell? ⟨wr.heap.size,1,none⟩=some (.int .i64 d.p):=by simp
     have hbox2:(wr.alloc (.cells #[.int .i64 d.k,.int .i64 d.p,.int .i64 d.v] 94)).cell? ⟨wr.heap.size,2,none⟩=some (.int .i64 d.v):=by simp
     have HD9:Hid (∀ h:(d.k==9)=true,M.deD t i lr xs.length d=[⟨t,i,false,d,lr2⟩]++[⟨t,i,true,d,lr2⟩]):=fun h=>by rw [M.deD_wait h,hlr2]
     have HD1:Hid (∀ h:(d.k==9)=false,M.deD t i lr xs.length d=[⟨t,i,false,d,lr2⟩]):=fun h=>by rw [M.deD_one h,hlr2]
     have HN:Hid ((xs++M.deD t i lr xs.length d).length≤42):=hln
     have hxl2:xs.length+1≤42:=by have:=(M.deD_len t i lr xs.length d).1;rw [List.length_append] at hln;omega
     clear hlr2 hln
     have lW:wr.heap.size < (wr.alloc (.cells #[.int .i64 d.k,.int .i64 d.p,.int .i64 d.v] 94)).heap.size:=by simp
     go_wp2_with fail
     generalize hW:wr.alloc (.cells #[.int .i64 d.k,.int .i64 d.p,.int .i64 d.v] 94)=W at *
     clear hW ck cp cv
     refine (reads_any _ _).mono ?_
     rintro e W ⟨rfl,rfl⟩
     have kne:∀ k,(Value.slice va xs.length vc).ownBlock=some k→k < wr.heap.size:=fun k hk=>(hT.own.lt k hk).2
     generalize wr.heap.size=K at *
     cases hr:M.reads d.k
     ·have hlr3:lr2=lr:=by rw [← HLR.out,M.lrOf,hr];rfl
      subst hlr3
      go_wp2_with (at_builtin;refine wpList_append_lies _ rfl (.tmp 29) (.tmp 36) 75 rfl w.heap.size 96 i0 _ 7 56 Tryz.underlying75 hi hz0 hz1 hz2 rfl (by decide) _ _ _ rfl (hT1.own.alloc _) ⟨W.heap.size,0,none⟩ 1 1 [.int .i64 t,.int .i64 i,.bool false,.int .i64 d.k,.int .i64 d.p,.int .i64 d.v,.int .i64 lr2] rfl rfl (World.news_of_block (cs:=#[.int .i64 (t:Int),.int .i64 (i:Int),.bool false,.int .i64 d.k,.int .i64 d.p,.int .i64 d.v,.int .i64 lr2]) (t:=96) (fr:=(0,0)) (heap_alloc_new _ _)) (by simp [Value.oneCell']) (by omega) (by unfold maxLen;omega) (by omega) (by have:=hT1.bel.size;simp;omega) (W.heap.size+1) (by simp) ?_)
      intro g6 cap6 w6 hown6 hg6 hat6 hlt6
      have hT6:Told w w6 96 7 (.slice (some ⟨g6,0,none⟩) (xs.length+1) cap6) (xs.length+1) (flatDe (xs++[⟨t,i,false,d,lr2⟩])):=by
       rw [flatDe_append,flatDe_one];exact hT1.snoc hown6 hg6
      have q0:=hg6.cell (a:=⟨K,0,none⟩) ((World.cell?_alloc_lt _ _ _ lW).trans hbox0) (fun e=>Nat.lt_irrefl K (kne _ e.symm))
      have q1:=hg6.cell (a:=⟨K,1,none⟩) ((World.cell?_alloc_lt _ _ _ lW).trans hbox1) (fun e=>Nat.lt_irrefl K (kne _ e.symm))
      have q2:=hg6.cell (a:=⟨K,2,none⟩) ((World.cell?_alloc_lt _ _ _ lW).trans hbox2) (fun e=>Nat.lt_irrefl K (kne _ e.symm))
      clear hown6 hg6 hat6 hlt6
      cases h9:(d.k==9)
      ·go_wp2_with fail
       exact ⟨⟨xs++[⟨t,i,false,d,lr2⟩],i+1,lr2,some ⟨g6,0,none⟩,cap6,by simp,rfl,by go_num,by omega,by simp;omega,by
        show _=_
        have:=HX3.out
        rw [HD1.out h9,HLR.out] at this
        exact this,by rw [List.length_append];exact hT6⟩,by simp [intOf];omega⟩
      ·have hN2:xs.length+2≤42:=by have:=HN.out;rw [HD9.out h9] at this;simpa using this
       have lK6:K < w6.heap.size:=World.block_lt_of_cell? _ _ q0
       go_wp2_with (at_builtin;refine wpList_append_lies _ rfl (.tmp 41) (.tmp 48) 75 rfl w.heap.size 96 i0 _ 7 56 Tryz.underlying75 hi hz0 hz1 hz2 rfl (by decide) _ _ _ rfl (hT6.own.alloc _) ⟨w6.heap.size,0,none⟩ 1 1 [.int .i64 t,.int .i64 i,.bool true,.int .i64 d.k,.int .i64 d.p,.int .i64 d.v,.int .i64 lr2] rfl rfl (World.news_of_block (cs:=#[.int .i64 (t:Int),.int .i64 (i:Int),.bool true,.int .i64 d.k,.int .i64 d.p,.int .i64 d.v,.int .i64 lr2]) (t:=96) (fr:=(0,0)) (heap_alloc_new _ _)) (by simp [Value.oneCell']) (by omega) (by unfold maxLen;omega) (by omega) (by have:=hT6.bel.size;simp;omega) (w6.heap.size+1) (by simp) ?_)
       intro g7 cap7 w7 hown7 hg7 hat7 hlt7
       have hT7:Told w w7 96 7 (.slice (some ⟨g7,0,none⟩) (xs.length+1+1) cap7) (xs.length+1+1) (flatDe ((xs++[⟨t,i,false,d,lr2⟩])++[⟨t,i,true,d,lr2⟩])):=by
        rw [flatDe_append _ [_],flatDe_one];exact hT6.snoc hown7 hg7
       clear hown7 hg7 hat7 hlt7
       go_wp2_with fail
       exact ⟨⟨(xs++[⟨t,i,false,d,lr2⟩])++[⟨t,i,true,d,lr2⟩],i+1,lr2,some ⟨g7,0,none⟩,cap7,by simp,rfl,by go_num,by omega,by simp;omega,by
        show _=_
        have:=HX3.out
        rw [HD9.out h9,HLR.out,← List.append_assoc] at this
        exact this,by rw [List.length_append,List.length_append];exact hT7⟩,by simp [intOf];omega⟩
     ·have hlr3:lr2=xs.length:=by rw [← HLR.out,M.lrOf,hr];rfl
      subst hlr3
      have h9:(d.k==9)=false:=by
       cases h:(d.k==9)
       ·rfl
       ·have:d.k=9:=by simpa using h
        rw [this] at hr;simp [M.reads] at hr
      go_wp2_with (at_builtin;refine wpList_append_lies _ rfl (.tmp 29) (.tmp 36) 75 rfl w.heap.size 96 i0 _ 7 56 Tryz.underlying75 hi hz0 hz1 hz2 rfl (by decide) _ _ _ rfl (hT1.own.alloc _) ⟨W.heap.size,0,none⟩ 1 1 [.int .i64 t,.int .i64 i,.bool false,.int .i64 d.k,.int .i64 d.p,.int .i64 d.v,.int .i64 xs.length] rfl rfl (World.news_of_block (cs:=#[.int .i64 (t:Int),.int .i64 (i:Int),.bool false,.int .i64 d.k,.int .i64 d.p,.int .i64 d.v,.int .i64 xs.length]) (t:=96) (fr:=(0,0)) (heap_alloc_new _ _)) (by simp [Value.oneCell']) (by omega) (by unfold maxLen;omega) (by omega) (by have:=hT1.bel.size;simp;omega) (W.heap.size+1) (by simp) ?_)
      intro g6 cap6 w6 hown6 hg6 hat6 hlt6
      have hT6:Told w w6 96 7 (.slice (some ⟨g6,0,none⟩) (xs.length+1) cap6) (xs.length+1) (flatDe (xs++[⟨t,i,false,d,xs.length⟩])):=by
       rw [flatDe_append,flatDe_one];exact hT1.snoc hown6 hg6
      have q0:=hg6.cell (a:=⟨K,0,none⟩) ((World.cell?_alloc_lt _ _ _ lW).trans hbox0) (fun e=>Nat.lt_irrefl K (kne _ e.symm))
      have q1:=hg6.cell (a:=⟨K,1,none⟩) ((World.cell?_alloc_lt _ _ _ lW).trans hbox1) (fun e=>Nat.lt_irrefl K (kne _ e.symm))
      have q2:=hg6.cell (a:=⟨K,2,none⟩) ((World.cell?_alloc_lt _ _ _ lW).trans hbox2) (fun e=>Nat.lt_irrefl K (kne _ e.symm))
      clear hown6 hg6 hat6 hlt6
      go_wp2_with fail
      exact ⟨⟨xs++[⟨t,i,false,d,xs.length⟩],i+1,xs.length,some ⟨g6,0,none⟩,cap6,by simp,rfl,by go_num,by omega,by simp;omega,by
       show _=_
       have:=HX3.out
       rw [HD1.out h9,HLR.out] at this
       exact this,by rw [List.length_append];exact hT6⟩,by simp [intOf];omega⟩
    ·go_wp2_with fail
     exact ⟨⟨xs,t+1,va,vc,rfl,by go_num,by omega,hxl,M.tell_end HX.out (by omega),hT⟩,by simp [intOf];omega⟩
  ·go_wp2_with fail
   go_ret
   exact ⟨_,rfl,by rw [M.tell_all HX.out (by omega)];exact hT.own,hT.bel⟩
end
section
open Go.RowKit
def M.Ev.cells (x:M.Ev):List Value:=[.int .i64 x.t,.int .i64 x.i,.bool x.last]
def flatEv (l:List M.Ev):List Value:=(l.map M.Ev.cells).flatten
theorem flatEv_append (l m:List M.Ev):flatEv (l++m)=flatEv l++flatEv m:=by simp [flatEv]
theorem M.De.len (x:M.De):x.cells.length=7:=rfl
theorem M.Ev.len (x:M.Ev):x.cells.length=3:=rfl
def M.evAll (ll:List (List M.D)):List M.Ev:=if M.prog ll then M.events ll else []
theorem M.prog_bounds {ll:List (List M.D)} (h:M.prog ll=true):ll.length≤3∧∀ l∈ll,l.length≤7:=by
 simp only [M.prog,Bool.and_eq_true,decide_eq_true_eq] at h
 refine ⟨h.1,?_⟩
 have key:∀ (ll:List (List M.D)) (a u:Nat),M.progFrom a u ll=true→∀ l∈ll,l.length≤7:=by
  intro ll
  induction ll with
  | nil=>intro a u _ l hl;cases hl
  | cons x ll ih =>
   intro a u hp l hl
   simp only [M.progFrom] at hp
   split at hp
   ·rename_i hx
    rcases List.mem_cons.1 hl with rfl | hl
    ·exact M.thread_le hx
    ·exact ih _ _ hp l hl
   ·cases hp
 exact key ll 0 0 h.2
theorem Tryz.infoEvent:(Tryz.prog.info? 42).map (fun i=>(i.zero,i.size,i.bytes))=some (some (.agg #[.int .i64 0,.int .i64 0,.bool false]),3,24):=by kernel_rfl
set_option maxHeartbeats 2000000 in
set_option maxRecDepth 100000 in
theorem sexecEvents_any (a:Option Addr) (b o c:Nat) (ll:List (List M.D)) (w:World) (hl:ll.length≤1048576) (hls:∀ t∈ll,t.length≤1048576) (h:DoSS w a b o ll) :
  Calls Tryz.prog 75 #[.agg #[.slice a ll.length c]] w fun e w'=>∃ v,e=.returned v∧w'.ownsRow w.heap.size 42 3 v (M.evAll ll).length (flatEv (M.evAll ll))∧Below w.heap.size w w':=by
 obtain ⟨i0,hi,hz0,hz1,hz2⟩:=info_parts Tryz.infoEvent
 have hb0:=below1 w (.cells #[.slice a ll.length c] 25)
 have k0:(w.alloc (.cells #[.slice a ll.length c] 25)).cell? ⟨w.heap.size,0,none⟩=some (.slice a ll.length c):=by simp
 have hT0:Told (w.alloc (.cells #[.slice a ll.length c] 25)) ((w.alloc (.cells #[.slice a ll.length c] 25)).alloc (.cells #[] 42)) 42 3 (.slice (some ⟨w.heap.size+1,0,none⟩) 0 0) 0 []:=by
  have:=World.ownsRow_made (w.alloc (.cells #[.slice a ll.length c] 25)) #[] 0 (base:=(w.alloc (.cells #[.slice a ll.length c] 25)).heap.size) (e:=42) (size:=3) (Nat.le_refl _) (Nat.zero_le _) rfl
  exact ⟨by simpa using this,below1 _ _⟩
 go_enter Tryz.func75,Tryz.ntmps75
 go_wp2_with fail
 generalize (w.alloc (.cells #[.slice a ll.length c] 25)).alloc (.cells #[] 42)=W at *
 generalize w.alloc (.cells #[.slice a ll.length c] 25)=WB at *
 have lt0:w.heap.size < WB.heap.size:=World.block_lt_of_cell? _ _ k0
 have hbW:=hb0.trans (hT0.bel.mono hb0.size)
 have kW:=(hT0.bel.cell (p:=⟨w.heap.size,0,none⟩) lt0).trans k0
 refine (sprog_any a b o c ll _ hl hls (h.below hbW (Nat.le_refl _))).mono ?_
 rintro e w1 ⟨rfl,hb1⟩
 have hT1:=hT0.below hb1
 have k1:=(hT1.bel.cell (p:=⟨w.heap.size,0,none⟩) lt0).trans k0
 have toW:∀ {wr:World},Below WB.heap.size WB wr→Below w.heap.size w wr:=fun hb=>hb0.trans (hb.mono hb0.size)
 clear hbW kW hT0 hb1
 cases hp:M.prog ll
 ·have HE:Hid (M.evAll ll=[]):=by show _=_;simp [M.evAll,hp]
  go_wp2_with fail
  go_ret
  exact ⟨_,rfl,by rw [HE.out];exact own_mono hT1.own hb0.size,toW hT1.bel⟩
 ·have HE:Hid (M.evAll ll=M.events ll):=by show _=_;simp [M.evAll,hp]
  obtain ⟨h3,h7⟩:=M.prog_bounds hp
  have hdl:=M.deeds_len h3 h7
  go_wp2_with fail
  go_loopw [3,4] (fun s3 s4 wr=>∃ (xs:List M.De) (t:Nat) (va:Option Addr) (vc:Nat),s3=.slice va xs.length vc∧s4=.int .i64 t∧t≤ll.length∧xs.length≤42∧Hid (M.deeds ll=xs++M.deF t xs.length (ll.drop t))∧Told WB wr 42 3 (.slice va xs.length vc) xs.length (flatEv (xs.map M.De.ev))) (fun _ s4 _=>ll.length - (intOf s4).toNat)
  case atStart=>exact ⟨[],0,_,0,rfl,rfl,Nat.zero_le _,by simp,by show _=_;rfl,hT1⟩
  case round =>
   clear hT1 k1
   obtain ⟨xs,t,va,vc,rfl,rfl,htl,hxl,HX,hT⟩:=hrel
   have kr:=(hT.bel.cell (p:=⟨w.heap.size,0,none⟩) lt0).trans k0
   by_cases hlt:t < ll.length
   ·obtain ⟨rfl⟩:=h.addr (by omega)
    obtain ⟨a',b',o',c',hc,hd⟩:=h.row t hlt
    have hl7:=h7 _ (List.getElem_mem hlt)
    have HX2:Hid (M.deeds ll=xs++M.toTell ll ll[t] t 0 (-1) xs.length):=M.tell_start HX.out hlt
    clear HX
    generalize ll[t]=l at *
    have i1:(t:Int) < ll.length:=by omega
    go_wp2_with fail
    go_loopw [3,5] (fun s3 s5 wr=>∃ (xs:List M.De) (i:Nat) (lr:Int) (va:Option Addr) (vc:Nat),s3=.slice va xs.length vc∧s5=.int .i64 i∧i≤l.length∧xs.length≤42∧Hid (M.deeds ll=xs++M.toTell ll l t i lr xs.length)∧Told WB wr 42 3 (.slice va xs.length vc) xs.length (flatEv (xs.map M.De.ev))) (fun _ s5 _=>l.length - (intOf s5).toNat)
    case atStart=>exact ⟨xs,0,-1,va,vc,rfl,rfl,Nat.zero_le _,hxl,HX2,hT⟩
    case round =>
     clear hT HX2 hxl kr
     obtain ⟨xs,i,lr,va,vc,rfl,rfl,hil,hxl,HX,hT⟩:=hrel
     have hbr:=toW hT.bel
     have kr:=(hT.bel.cell (p:=⟨w.heap.size,0,none⟩) lt0).trans k0
     have hcr:=(hbr.cell (p:=⟨b,o+t,none⟩) (World.block_lt_of_cell? _ _ hc)).trans hc
     by_cases hlt2:i < l.length
     ·obtain ⟨rfl⟩:=hd.addr (by omega)
      obtain ⟨ck,_,_⟩:=(hd.below hbr (Nat.le_refl _)).row i hlt2
      have ckw:=(hd.row i hlt2).k
      have HX3:Hid (M.deeds ll=(xs++M.deD t i lr xs.length l[i])++M.toTell ll l t (i+1) (M.lrOf lr xs.length l[i]) (xs++M.deD t i lr xs.length l[i]).length):=M.tell_step HX.out hlt2
      clear HX
      generalize l[i]=d at *
      have hln:(xs++M.deD t i lr xs.length d).length≤42:=by
       have:=congrArg List.length HX3.out
       simp only [List.length_append] at this ⊢
       omega
      have HN:Hid ((xs++M.deD t i lr xs.length d).length≤42):=hln
      have hxl2:xs.length+1≤42:=by have:=(M.deD_len t i lr xs.length d).1;rw [List.length_append] at hln;omega
      clear hln
      have i2:(i:Int) < l.length:=by omega
      go_wp2_with (at_builtin;refine wpList_append_lies _ rfl (.tmp 28) (.tmp 32) 36 rfl WB.heap.size 42 i0 _ 3 24 Tryz.underlying36 hi hz0 hz1 hz2 rfl (by decide) _ _ _ rfl (hT.own.alloc _) ⟨wr.heap.size,0,none⟩ 1 1 [.int .i64 t,.int .i64 i,.bool false] rfl rfl (World.news_of_block (cs:=#[.int .i64 (t:Int),.int .i64 (i:Int),.bool false]) (t:=42) (fr:=(0,0)) (heap_alloc_new _ _)) (by simp [Value.oneCell']) (by omega) (by unfold maxLen;omega) (by omega) (by have:=hT.bel.size;simp;omega) (wr.heap.size+1) (by simp) ?_)
      intro g6 cap6 w6 hown6 hg6 hat6 hlt6
      have hT6:Told WB w6 42 3 (.slice (some ⟨g6,0,none⟩) (xs.length+1) cap6) (xs.length+1) (flatEv (xs.map M.De.ev++[⟨t,i,false⟩])):=by
       rw [flatEv_append];exact hT.snoc hown6 hg6
      clear hown6 hg6 hat6 hlt6
      have hb6:=toW hT6.bel
      have k6:=(hT6.bel.cell (p:=⟨w.heap.size,0,none⟩) lt0).trans k0
      have hc6:=(hb6.cell (p:=⟨b,o+t,none⟩) (World.block_lt_of_cell? _ _ hc)).trans hc
      have ck6:=(hb6.cell (p:=⟨b',o'+i * 3,none⟩) (World.block_lt_of_cell? _ _ ckw)).trans ckw
      cases h9:(d.k==9)
      ·go_wp2_with fail
       refine ⟨⟨xs++M.deD t i lr xs.length d,i+1,_,some ⟨g6,0,none⟩,cap6,?_,by go_num,by omega,HN.out,HX3.out,?_⟩,by simp [intOf];omega⟩
       ·rw [M.deD_one h9];simp
       ·rw [M.deD_one h9,List.map_append,List.length_append];exact hT6
      ·have hN2:xs.length+2≤42:=by have:=HN.out;rw [M.deD_wait h9] at this;simpa using this
       go_wp2_with (at_builtin;refine wpList_append_lies _ rfl (.tmp 44) (.tmp 48) 36 rfl WB.heap.size 42 i0 _ 3 24 Tryz.underlying36 hi hz0 hz1 hz2 rfl (by decide) _ _ _ rfl (hT6.own.alloc _) ⟨w6.heap.size,0,none⟩ 1 1 [.int .i64 t,.int .i64 i,.bool true] rfl rfl (World.news_of_block (cs:=#[.int .i64 (t:Int),.int .i64 (i:Int),.bool true]) (t:=42) (fr:=(0,0)) (heap_alloc_new _ _)) (by simp [Value.oneCell']) (by omega) (by unfold maxLen;omega) (by omega) (by have:=hT6.bel.size;simp;omega) (w6.heap.size+1) (by simp) ?_)
       intro g7 cap7 w7 hown7 hg7 hat7 hlt7
       have hT7:Told WB w7 42 3 (.slice (some ⟨g7,0,none⟩) (xs.length+1+1) cap7) (xs.length+1+1) (flatEv ((xs.map M.De.ev++[⟨t,i,false⟩])++[⟨t,i,true⟩])):=by
        rw [flatEv_append _ [_]];exact hT6.snoc hown7 hg7
       clear hown7 hg7 hat7 hlt7
       go_wp2_with fail
       refine ⟨⟨xs++M.deD t i lr xs.length d,i+1,_,some ⟨g7,0,none⟩,cap7,?_,by go_num,by omega,HN.out,HX3.out,?_⟩,by simp [intOf];omega⟩
       ·rw [M.deD_wait h9];simp
       ·rw [M.deD_wait h9,← List.append_assoc,List.map_append,List.map_append,List.length_append,List.length_append];exact hT7
     ·go_wp2_with fail
      exact ⟨⟨xs,t+1,va,vc,rfl,by go_num,by omega,hxl,M.tell_end HX.out (by omega),hT⟩,by simp [intOf];omega⟩
   ·go_wp2_with fail
    go_ret
    have hall:=M.tell_all HX.out (by omega)
    refine ⟨_,rfl,?_,toW hT.bel⟩
    have hlen:xs.length=(M.evAll ll).length:=by rw [HE.out,M.events,List.length_map,hall]
    have:=own_mono hT.own hb0.size
    rw [← hall] at this
    have e2:(M.deeds ll).map M.De.ev=M.evAll ll:=by rw [HE.out];rfl
    rw [e2,hall,hlen] at this
    rw [hlen]
    exact this
end
end Go.Proofs.YtmhpgdliaclokaaGreat
