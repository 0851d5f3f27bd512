/- impl.ExecEvents, spec.ExecEvents. Of programs of at most 1048576 threads, each of at most 1048576 steps. -/
import Derived.Test.YtmhpgdliaclokaaGreatRows
import Derived.Test.YtmhpgdliaclokaaGreatQzai
namespace Go.Proofs.YtmhpgdliaclokaaGreat
section
open Go.RowKit
set_option maxHeartbeats 2000000 in
set_option maxRecDepth 100000 in
theorem iexecEvents_any (a:Option Addr) (b o c:Nat) (ll:List (List M.D)) (w:World) (hl:ll.length≤1048576) (hls:∀ t∈ll,t.length≤1048576) (h:DoSS w a b o ll) :
  Calls Tryz.prog 14 #[.agg #[.slice a ll.length c]] w fun e w'=>∃ v,e=.returned v∧w'.ownsRow w.heap.size 42 3 v (M.evAll ll).length (flatEv (M.evAll ll))∧Below w.heap.size w w':=by
 obtain ⟨i0,hi,hz0,hz1,hz2⟩:=info_parts Tryz.infoEvent
 have hbx:=below1 w (.cells #[.slice a ll.length c] 25)
 have k0:(w.alloc (.cells #[.slice a ll.length c] 25)).cell? ⟨w.heap.size,0,none⟩=some (.slice a ll.length c):=by simp
 go_enter Tryz.func14,Tryz.ntmps14
 go_wp2_with fail
 generalize w.alloc (.cells #[.slice a ll.length c] 25)=W at *
 have lt0:w.heap.size < W.heap.size:=World.block_lt_of_cell? _ _ k0
 refine (iprog_any a b o c ll _ hl hls (h.below hbx (Nat.le_refl _))).mono ?_
 rintro e w1 ⟨rfl,hb1⟩
 have k1:=(hb1.cell (p:=⟨w.heap.size,0,none⟩) lt0).trans k0
 have hb01:=hbx.trans (hb1.mono hbx.size)
 cases hp:M.prog ll
 ·have HE:Hid (M.evAll ll=[]):=by show _=_;simp [M.evAll,hp]
  go_wp2_with fail
  go_ret
  exact ⟨_,rfl,by rw [HE.out];exact World.ownsRow_nil _ _ _ _,hb01⟩
 ·have HE:Hid (M.evAll ll=M.events ll):=by show _=_;simp [M.evAll,hp]
  obtain ⟨h3,h7⟩:=M.prog_bounds hp
  have hdl:=M.deeds_len h3 h7
  go_wp2_with fail
  refine (deedsOf_any a b o c ll _ h3 h7 (h.below hb01 (Nat.le_refl _))).mono ?_
  rintro e w2 ⟨v2,rfl,hown2,hb2⟩
  have hb02:=hb01.trans (hb2.mono hb01.size)
  obtain ⟨va,g,cap,rfl,hrs,hge,_⟩:=own_rs M.De.len hown2
  have HV:Hid (M.events ll=(M.deeds ll).map M.De.ev):=by show _=_;rfl
  clear hown2 hb2 hb1 k0 k1 hbx hb01
  generalize M.deeds ll=ds at *
  go_wp2_with fail
  go_loopw [3,12] (fun s3 s12 wr=>∃ (n:Nat) (va:Option Addr) (vc:Nat),s3=.slice va n vc∧s12=.int .i64 n∧n≤ds.length∧Told w2 wr 42 3 (.slice va n vc) n (flatEv ((ds.map M.De.ev).take n))) (fun _ s12 _=>ds.length - (intOf s12).toNat)
  case atStart=>exact ⟨0,none,0,rfl,rfl,Nat.zero_le _,Told.start _ _ _ _ (Below.refl _ _)⟩
  case round =>
   obtain ⟨n,va2,vc,rfl,rfl,hn,hT⟩:=hrel
   by_cases hlt:n < ds.length
   ·obtain ⟨rfl⟩:=hrs.addr (by omega)
    have hr:=(hrs.below M.De.len hT.bel (Nat.le_refl _)).row n hlt
    have HD:Hid ((ds.map M.De.ev).take (n+1)=(ds.map M.De.ev).take n++[ds[n].ev]):=by show _=_;rw [List.take_succ_eq_append_getElem (by simpa using hlt)];simp
    generalize ds[n]=x at *
    have c0:=hr 0 (by omega)
    have c1:=hr 1 (by omega)
    have c2:=hr 2 (by omega)
    have c3:=hr 3 (by omega)
    have c4:=hr 4 (by omega)
    have c5:=hr 5 (by omega)
    have c6:=hr 6 (by omega)
    change wr.cell? ⟨g,n * 7,none⟩=some (.int .i64 x.t) at c0
    change wr.cell? ⟨g,n * 7+1,none⟩=some (.int .i64 x.i) at c1
    change wr.cell? ⟨g,n * 7+2,none⟩=some (.bool x.last) at c2
    change wr.cell? ⟨g,n * 7+3,none⟩=some (.int .i64 x.d.k) at c3
    change wr.cell? ⟨g,n * 7+4,none⟩=some (.int .i64 x.d.p) at c4
    change wr.cell? ⟨g,n * 7+5,none⟩=some (.int .i64 x.d.v) at c5
    change wr.cell? ⟨g,n * 7+6,none⟩=some (.int .i64 x.lr) at c6
    have i1:(n:Int) < ds.length:=by omega
    have lg:g < wr.heap.size:=World.block_lt_of_cell? _ _ c0
    have hT1:=hT.below (below1 wr (.cells #[.int .i64 (x.t:Int),.int .i64 (x.i:Int),.bool x.last,.int .i64 x.d.k,.int .i64 x.d.p,.int .i64 x.d.v,.int .i64 x.lr] 96))
    clear hr
    go_wp2_with (at_builtin;refine wpList_append_lies _ rfl (.tmp 16) (.tmp 19) 36 rfl w2.heap.size 42 i0 _ 3 24 Tryz.underlying36 hi hz0 hz1 hz2 rfl (by decide) _ _ _ rfl (hT1.own.alloc _) ⟨wr.heap.size+1,0,none⟩ 1 1 [.int .i64 x.t,.int .i64 x.i,.bool x.last] rfl rfl (World.news_of_block (cs:=#[.int .i64 (x.t:Int),.int .i64 (x.i:Int),.bool x.last]) (t:=42) (fr:=(0,0)) (heap_alloc2_new _ _ _)) (by simp [Value.oneCell']) (by omega) (by unfold maxLen;omega) (by omega) (by have:=hT1.bel.size;simp at this ⊢;omega) (wr.heap.size+1+1) (by simp) ?_)
    intro g6 cap6 w6 hown6 hg6 hat6 hlt6
    have hT6:Told w2 w6 42 3 (.slice (some ⟨g6,0,none⟩) (n+1) cap6) (n+1) (flatEv ((ds.map M.De.ev).take (n+1))):=by
     rw [HD.out,flatEv_append];exact hT1.snoc hown6 hg6
    clear hown6 hg6 hat6 hlt6 c0 c1 c2 c3 c4 c5 c6
    go_wp2_with fail
    exact ⟨⟨n+1,some ⟨g6,0,none⟩,cap6,rfl,by go_num,by omega,hT6⟩,by simp [intOf];omega⟩
   ·obtain rfl:n=ds.length:=by omega
    go_wp2_with fail
    go_ret
    refine ⟨_,rfl,?_,hb02.trans (hT.bel.mono hb02.size)⟩
    have:=own_mono hT.own hb02.size
    rw [List.take_of_length_le (by simp),← HV.out,← HE.out] at this
    have hlen:ds.length=(M.evAll ll).length:=by rw [HE.out,HV.out,List.length_map]
    rw [hlen] at this
    rw [hlen]
    exact this
end
end Go.Proofs.YtmhpgdliaclokaaGreat
