/- The plain mathematics of events. No condition. impl.deedsOf: all events with their steps. Of at most three threads, each of at most seven steps. impl.ExecEvents, spec.ExecEvents. Of programs of at most 1048576 threads, each of at most 1048576 steps. -/
import Derived.Test.YtnddmlgnngdaoaaGreatDoorRows
import Derived.Test.YtnddmlgnngdaoaaGreatDoorQsai
import Derived.Test.YtnddmlgnngdaoaaGreatDoorQsar
namespace Go.Proofs.YtnddmlgnngdaoaaGreatDoor
section
namespace M
structure De where
 t:Nat
 i:Nat
 last:Bool
 d:D
 lr:Int
def lrOf (lr:Int) (n:Nat) (d:D):Int:=if reads d.k then (n:Int) else lr
def deD (t i:Nat) (lr:Int) (n:Nat) (d:D):List De:=if d.k==9 then [⟨t,i,false,d,lrOf lr n d⟩,⟨t,i,true,d,lrOf lr n d⟩] else [⟨t,i,false,d,lrOf lr n d⟩]
def deT (t:Nat):Nat→Int→Nat→List D→List De
 | _,_,_,[]=>[]
 | i,lr,n,d::l=>deD t i lr n d++deT t (i+1) (lrOf lr n d) (n+(deD t i lr n d).length) l
def deF:Nat→Nat→List (List D)→List De
 | _,_,[]=>[]
 | t,n,l::ll=>deT t 0 (-1) n l++deF (t+1) (n+(deT t 0 (-1) n l).length) ll
def deeds (ll:List (List D)):List De:=deF 0 0 ll
theorem deD_len (t i:Nat) (lr:Int) (n:Nat) (d:D):1≤(deD t i lr n d).length∧(deD t i lr n d).length≤2:=by
 unfold deD;split<;>simp
theorem deT_len (t:Nat) (l:List D):∀ (i:Nat) (lr:Int) (n:Nat),(deT t i lr n l).length≤2 * l.length:=by
 induction l with
 | nil=>intro i lr n;simp [deT]
 | cons d l ih =>
  intro i lr n
  have h1:=deD_len t i lr n d
  have h2:=ih (i+1) (lrOf lr n d) (n+(deD t i lr n d).length)
  simp only [deT,List.length_append,List.length_cons]
  omega
theorem deF_len (ll:List (List D)):∀ (t n:Nat),(∀ l∈ll,l.length≤7)→(deF t n ll).length≤14 * ll.length:=by
 induction ll with
 | nil=>intro t n _;simp [deF]
 | cons l ll ih =>
  intro t n h
  have h1:=deT_len t l 0 (-1) n
  have h2:=h l (by simp)
  have h3:=ih (t+1) (n+(deT t 0 (-1) n l).length) (fun x hx=>h x (List.mem_cons_of_mem _ hx))
  simp only [deF,List.length_append,List.length_cons]
  omega
theorem deeds_len {ll:List (List D)} (h3:ll.length≤3) (h7:∀ l∈ll,l.length≤7):(deeds ll).length≤42:=by
 have:=deF_len ll 0 0 h7
 unfold deeds
 omega
def toTell (ll:List (List D)) (l:List D) (t i:Nat) (lr:Int) (n:Nat):List De:=deT t i lr n (l.drop i)++deF (t+1) (n+(deT t i lr n (l.drop i)).length) (ll.drop (t+1))
theorem tell_start {ll:List (List D)} {t:Nat} {xs:List De} (h:deeds ll=xs++deF t xs.length (ll.drop t)) (ht:t < ll.length):deeds ll=xs++toTell ll ll[t] t 0 (-1) xs.length:=by
 rw [h,← List.getElem_cons_drop ht]
 simp [toTell,deF]
theorem tell_step {ll:List (List D)} {l:List D} {t i:Nat} {lr:Int} {xs:List De} (h:deeds ll=xs++toTell ll l t i lr xs.length) (hi:i < l.length):deeds ll=(xs++deD t i lr xs.length l[i])++toTell ll l t (i+1) (lrOf lr xs.length l[i]) (xs++deD t i lr xs.length l[i]).length:=by
 rw [h]
 unfold toTell
 rw [← List.getElem_cons_drop hi,deT]
 simp [Nat.add_assoc]
theorem tell_end {ll:List (List D)} {l:List D} {t i:Nat} {lr:Int} {xs:List De} (h:deeds ll=xs++toTell ll l t i lr xs.length) (hi:l.length≤i):deeds ll=xs++deF (t+1) xs.length (ll.drop (t+1)):=by
 rw [h]
 unfold toTell
 rw [List.drop_eq_nil_of_le hi]
 simp [deT]
theorem tell_all {ll:List (List D)} {t:Nat} {xs:List De} (h:deeds ll=xs++deF t xs.length (ll.drop t)) (ht:ll.length≤t):deeds ll=xs:=by
 rw [h,List.drop_eq_nil_of_le ht]
 simp [deF]
theorem deD_wait {t i n:Nat} {lr:Int} {d:D} (h:(d.k==9)=true):deD t i lr n d=[⟨t,i,false,d,lrOf lr n d⟩]++[⟨t,i,true,d,lrOf lr n d⟩]:=by unfold deD;rw [if_pos h];rfl
theorem deD_one {t i n:Nat} {lr:Int} {d:D} (h:(d.k==9)=false):deD t i lr n d=[⟨t,i,false,d,lrOf lr n d⟩]:=by unfold deD;rw [if_neg (by rw [h];simp)]
end M
end
section
open Go.RowKit
def M.De.cells (x:M.De):List Value:=[.int .i64 x.t,.int .i64 x.i,.bool x.last,.int .i64 x.d.k,.int .i64 x.d.p,.int .i64 x.d.v,.int .i64 x.lr]
def flatDe (l:List M.De):List Value:=(l.map M.De.cells).flatten
theorem flatDe_append (l m:List M.De):flatDe (l++m)=flatDe l++flatDe m:=by simp [flatDe]
theorem flatDe_one (x:M.De):flatDe [x]=x.cells:=by simp [flatDe]
theorem Tryz.infoDeed:(Tryz.prog.info? 167).map (fun i=>(i.zero,i.size,i.bytes))=some (some (.agg #[.int .i64 0,.int .i64 0,.bool false,.int .i64 0,.int .i64 0,.int .i64 0,.int .i64 0]),7,56):=by kernel_rfl
set_option maxHeartbeats 2000000 in
set_option maxRecDepth 100000 in
theorem deedsOf_any (a:Option Addr) (b o c:Nat) (ll:List (List M.D)) (w:World) (h3:ll.length≤3) (h7:∀ l∈ll,l.length≤7) (h:DoSS w a b o ll) :
  Calls Tryz.prog 52 #[.agg #[.slice a ll.length c]] w fun e w'=>∃ v,e=.returned v∧w'.ownsRow w.heap.size 167 7 v (M.deeds ll).length (flatDe (M.deeds ll))∧Below w.heap.size w w':=by
 obtain ⟨i0,hi,hz0,hz1,hz2⟩:=info_parts Tryz.infoDeed
 have hdl:=M.deeds_len h3 h7
 have hbx:=below1 w (.cells #[.slice a ll.length c] 27)
 go_enter Tryz.func52,Tryz.ntmps52
 go_wp2_with fail
 go_loopw [3,12] (fun s3 s12 wr=>∃ (xs:List M.De) (t:Nat) (va:Option Addr) (vc:Nat),s3=.slice va xs.length vc∧s12=.int .i64 t∧t≤ll.length∧xs.length≤42∧Hid (M.deeds ll=xs++M.deF t xs.length (ll.drop t))∧Told w wr 167 7 (.slice va xs.length vc) xs.length (flatDe xs)) (fun _ s12 _=>ll.length - (intOf s12).toNat)
 case atStart=>exact ⟨[],0,none,0,rfl,rfl,Nat.zero_le _,by simp,by show _=_;rfl,Told.start _ _ _ _ hbx⟩
 case round =>
  obtain ⟨xs,t,va,vc,rfl,rfl,htl,hxl,HX,hT⟩:=hrel
  by_cases hlt:t < ll.length
  ·obtain ⟨rfl⟩:=h.addr (by omega)
   obtain ⟨a',b',o',c',hc0,hd⟩:=h.row t hlt
   have hc:=(hT.bel.cell (p:=⟨b,o+t,none⟩) (World.block_lt_of_cell? _ _ hc0)).trans hc0
   have hl7:=h7 _ (List.getElem_mem hlt)
   have HX2:Hid (M.deeds ll=xs++M.toTell ll ll[t] t 0 (-1) xs.length):=M.tell_start HX.out hlt
   clear HX hc0
   generalize ll[t]=l at *
   have i1:(t:Int) < ll.length:=by omega
   go_wp2_with fail
   go_loopw [3,6,19] (fun s3 s6 s19 wr=>∃ (xs:List M.De) (i:Nat) (lr:Int) (va:Option Addr) (vc:Nat),s3=.slice va xs.length vc∧s6=.int .i64 lr∧s19=.int .i64 i∧i≤l.length∧xs.length≤42∧Hid (M.deeds ll=xs++M.toTell ll l t i lr xs.length)∧Told w wr 167 7 (.slice va xs.length vc) xs.length (flatDe xs)) (fun _ _ s19 _=>l.length - (intOf s19).toNat)
   case atStart=>exact ⟨xs,0,-1,va,vc,rfl,rfl,rfl,Nat.zero_le _,hxl,HX2,hT⟩
   case round =>
    clear hT hc HX2 hxl
    obtain ⟨xs,i,lr,va,vc,rfl,rfl,rfl,hil,hxl,HX,hT⟩:=hrel
    by_cases hlt2:i < l.length
    ·obtain ⟨rfl⟩:=hd.addr (by omega)
     obtain ⟨ck,cp,cv⟩:=(hd.below hT.bel (Nat.le_refl _)).row i hlt2
     have HX3:Hid (M.deeds ll=(xs++M.deD t i lr xs.length l[i])++M.toTell ll l t (i+1) (M.lrOf lr xs.length l[i]) (xs++M.deD t i lr xs.length l[i]).length):=M.tell_step HX.out hlt2
     clear HX
     generalize l[i]=d at *
     have hln:(xs++M.deD t i lr xs.length d).length≤42:=by
      have:=congrArg List.length HX3.out
      simp only [List.length_append] at this ⊢
      omega
     have i2:(i:Int) < l.length:=by omega
     have lb':b' < wr.heap.size:=World.block_lt_of_cell? _ _ ck
     obtain ⟨lr2,hlr2⟩:∃ lr2,M.lrOf lr xs.length d=lr2:=⟨_,rfl⟩
     have HLR:Hid (M.lrOf lr xs.length d=lr2):=hlr2
     have hT1:=hT.below (below1 wr (.cells #[.int .i64 d.k,.int .i64 d.p,.int .i64 d.v] 48))
     have hbox0:(wr.alloc (.cells #[.int .i64 d.k,.int .i64 d.p,.int .i64 d.v] 48)).cell? ⟨wr.heap.size,0,none⟩=some (.int .i64 d.k):=by simp
     have hbox1:(wr.alloc (.cells #[.int .i64 d.k,.int .i64 d.p,.int .i64 d.v] 48)).cell? ⟨wr.heap.size,1,none⟩=some (.int .i64 d.p):=by simp
     have hbox2:(wr.alloc (.cells #[.int .i64 d.k,.int .i64 d.p,.int .i64 d.v] 48)).cell? ⟨wr.heap.size,2,none⟩=some (.int .i64 d.v):=by simp
     have HD9:Hid (∀ h:(d.k==9)=true,M.deD t i lr xs.length d=[⟨t,i,false,d,lr2⟩]++[⟨t,i,true,d,lr2⟩]):=fun h=>by rw [M.deD_wait h,hlr2]
     have HD1:Hid (∀ h:(d.k==9)=false,M.deD t i lr xs.length d=[⟨t,i,false,d,lr2⟩]):=fun h=>by rw [M.deD_one h,hlr2]
     have HN:Hid ((xs++M.deD t i lr xs.length d).length≤42):=hln
     have hxl2:xs.length+1≤42:=by have:=(M.deD_len t i lr xs.length d).1;rw [List.length_append] at hln;omega
     clear hlr2 hln
     have lW:wr.heap.size < (wr.alloc (.cells #[.int .i64 d.k,.int .i64 d.p,.int .i64 d.v] 48)).heap.size:=by simp
     go_wp2_with fail
     generalize hW:wr.alloc (.cells #[.int .i64 d.k,.int .i64 d.p,.int .i64 d.v] 48)=W at *
     clear hW ck cp cv
     refine (reads_any _ _).mono ?_
     rintro e W ⟨rfl,rfl⟩
     have kne:∀ k,(Value.slice va xs.length vc).ownBlock=some k→k < wr.heap.size:=fun k hk=>(hT.own.lt k hk).2
     generalize wr.heap.size=K at *
     cases hr:M.reads d.k
     ·have hlr3:lr2=lr:=by rw [← HLR.out,M.lrOf,hr];rfl
      subst hlr3
      go_wp2_with (at_builtin;refine wpList_append_lies _ rfl (.tmp 29) (.tmp 36) 116 rfl w.heap.size 167 i0 _ 7 56 Tryz.underlying116 hi hz0 hz1 hz2 rfl (by decide) _ _ _ rfl (hT1.own.alloc _) ⟨W.heap.size,0,none⟩ 1 1 [.int .i64 t,.int .i64 i,.bool false,.int .i64 d.k,.int .i64 d.p,.int .i64 d.v,.int .i64 lr2] rfl rfl (World.news_of_block (cs:=#[.int .i64 (t:Int),.int .i64 (i:Int),.bool false,.int .i64 d.k,.int .i64 d.p,.int .i64 d.v,.int .i64 lr2]) (t:=167) (fr:=(0,0)) (heap_alloc_new _ _)) (by simp [Value.oneCell']) (by omega) (by unfold maxLen;omega) (by omega) (by have:=hT1.bel.size;simp;omega) (W.heap.size+1) (by simp) ?_)
      intro g6 cap6 w6 hown6 hg6 hat6 hlt6
      have hT6:Told w w6 167 7 (.slice (some ⟨g6,0,none⟩) (xs.length+1) cap6) (xs.length+1) (flatDe (xs++[⟨t,i,false,d,lr2⟩])):=by
       rw [flatDe_append,flatDe_one];exact hT1.snoc hown6 hg6
      have q0:=hg6.cell (a:=⟨K,0,none⟩) ((World.cell?_alloc_lt _ _ _ lW).trans hbox0) (fun e=>Nat.lt_irrefl K (kne _ e.symm))
      have q1:=hg6.cell (a:=⟨K,1,none⟩) ((World.cell?_alloc_lt _ _ _ lW).trans hbox1) (fun e=>Nat.lt_irrefl K (kne _ e.symm))
      have q2:=hg6.cell (a:=⟨K,2,none⟩) ((World.cell?_alloc_lt _ _ _ lW).trans hbox2) (fun e=>Nat.lt_irrefl K (kne _ e.symm))
      clear hown6 hg6 hat6 hlt6
      cases h9:(d.k==9)
      ·go_wp2_with fail
       exact ⟨⟨xs++[⟨t,i,false,d,lr2⟩],i+1,lr2,some ⟨g6,0,none⟩,cap6,by simp,rfl,by go_num,by omega,by simp;omega,by
        show _=_
        have:=HX3.out
        rw [HD1.out h9,HLR.out] at this
        exact this,by rw [List.length_append];exact hT6⟩,by simp [intOf];omega⟩
      ·have hN2:xs.length+2≤42:=by have:=HN.out;rw [HD9.out h9] at this;simpa using this
       have lK6:K < w6.heap.size:=World.block_lt_of_cell? _ _ q0
       go_wp2_with (at_builtin;refine wpList_append_lies _ rfl (.tmp 41) (.tmp 48) 116 rfl w.heap.size 167 i0 _ 7 56 Tryz.underlying116 hi hz0 hz1 hz2 rfl (by decide) _ _ _ rfl (hT6.own.alloc _) ⟨w6.heap.size,0,none⟩ 1 1 [.int .i64 t,.int .i64 i,.bool true,.int .i64 d.k,.int .i64 d.p,.int .i64 d.v,.int .i64 lr2] rfl rfl (World.news_of_block (cs:=#[.int .i64 (t:Int),.int .i64 (i:Int),.bool true,.int .i64 d.k,.int .i64 d.p,.int .i64 d.v,.int .i64 lr2]) (t:=167) (fr:=(0,0)) (heap_alloc_new _ _)) (by simp [Value.oneCell']) (by omega) (by unfold maxLen;omega) (by omega) (by have:=hT6.bel.size;simp;omega) (w6.heap.size+1) (by simp) ?_)
       intro g7 cap7 w7 hown7 hg7 hat7 hlt7
       have hT7:Told w w7 167 7 (.slice (some ⟨g7,0,none⟩) (xs.length+1+1) cap7) (xs.length+1+1) (flatDe ((xs++[⟨t,i,false,d,lr2⟩])++[⟨t,i,true,d,lr2⟩])):=by
        rw [flatDe_append _ [_],flatDe_one];exact hT6.snoc hown7 hg7
       clear hown7 hg7 hat7 hlt7
       go_wp2_with fail
       exact ⟨⟨(xs++[⟨t,i,false,d,lr2⟩])++[⟨t,i,true,d,lr2⟩],i+1,lr2,some ⟨g7,0,none⟩,cap7,by simp,rfl,by go_num,by omega,by simp;omega,by
        show _=_
        have:=HX3.out
        rw [HD9.out h9,HLR.out,← List.append_assoc] at this
        exact this,by rw [List.length_append,List.length_append];exact hT7⟩,by simp [intOf];omega⟩
     ·have hlr3:lr2=xs.length:=by rw [← HLR.out,M.lrOf,hr];rfl
      subst hlr3
      have h9:(d.k==9)=false:=by
       cases h:(d.k==9)
       ·rfl
       ·have:d.k=9:=by simpa using h
        rw [this] at hr;simp [M.reads] at hr
      go_wp2_with (at_builtin;refine wpList_append_lies _ rfl (.tmp 29) (.tmp 36) 116 rfl w.heap.size 167 i0 _ 7 56 Tryz.underlying116 hi hz0 hz1 hz2 rfl (by decide) _ _ _ rfl (hT1.own.alloc _) ⟨W.heap.size,0,none⟩ 1 1 [.int .i64 t,.int .i64 i,.bool false,.int .i64 d.k,.int .i64 d.p,.int .i64 d.v,.int .i64 xs.length] rfl rfl (World.news_of_block (cs:=#[.int .i64 (t:Int),.int .i64 (i:Int),.bool false,.int .i64 d.k,.int .i64 d.p,.int .i64 d.v,.int .i64 xs.length]) (t:=167) (fr:=(0,0)) (heap_alloc_new _ _)) (by simp [Value.oneCell']) (by omega) (by unfold maxLen;omega) (by omega) (by have:=hT1.bel.size;simp;omega) (W.heap.size+1) (by simp) ?_)
      intro g6 cap6 w6 hown6 hg6 hat6 hlt6
      have hT6:Told w w6 167 7 (.slice (some ⟨g6,0,none⟩) (xs.length+1) cap6) (xs.length+1) (flatDe (xs++[⟨t,i,false,d,xs.length⟩])):=by
       rw [flatDe_append,flatDe_one];exact hT1.snoc hown6 hg6
      have q0:=hg6.cell (a:=⟨K,0,none⟩) ((World.cell?_alloc_lt _ _ _ lW).trans hbox0) (fun e=>Nat.lt_irrefl K (kne _ e.symm))
      have q1:=hg6.cell (a:=⟨K,1,none⟩) ((World.cell?_alloc_lt _ _ _ lW).trans hbox1) (fun e=>Nat.lt_irrefl K (kne _ e.symm))
      have q2:=hg6.cell (a:=⟨K,2,none⟩) ((World.cell?_alloc_lt _ _ _ lW).trans hbox2) (fun e=>Nat.lt_irrefl K (kne _ e.symm))
      clear hown6 hg6 hat6 hlt6
      go_wp2_with fail
      exact ⟨⟨xs++[⟨t,i,false,d,xs.length⟩],i+1,xs.length,some ⟨g6,0,none⟩,cap6,by simp,rfl,by go_num,by omega,by simp;omega,by
       show _=_
       have:=HX3.out
       rw [HD1.out h9,HLR.out] at this
       exact this,by rw [List.length_append];exact hT6⟩,by simp [intOf];omega⟩
    ·go_wp2_with fail
     exact ⟨⟨xs,t+1,va,vc,rfl,by go_num,by omega,hxl,M.tell_end HX.out (by omega),hT⟩,by simp [intOf];omega⟩
  ·go_wp2_with fail
   go_ret
   exact ⟨_,rfl,by rw [M.tell_all HX.out (by omega)];exact hT.own,hT.bel⟩
end
section
open Go.RowKit
theorem M.De.len (x:M.De):x.cells.length=7:=rfl
end
end Go.Proofs.YtnddmlgnngdaoaaGreatDoor
