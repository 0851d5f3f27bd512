/- The text of what an order allows, line by line; and what a law looks for in it. Plainly. No condition. And what goes with it: LnMath, LnSp, LnPr, LnErr, LnRd, LnSe, LnRun. -/
import Derived.Deep.OwnRows
import Derived.Test.YtnddmlgnngdaoaaGreatDoorRows
import Derived.Test.YtnddmlgnngdaoaaGreatDoorQsan
import Derived.Test.YtnddmlgnngdaoaaGreatDoorQsaq
import Derived.Test.YtnddmlgnngdaoaaGreatDoorQsbg
import Derived.Test.YtnddmlgnngdaoaaGreatDoorQsbj
namespace Go.Proofs.YtnddmlgnngdaoaaGreatDoor
section
namespace M
def seenLines (ks:List Key):List UInt8:=ks.flatMap fun k=>seenText k.1 k.2++[10]
theorem digit_ten (n:Nat) (h:n < 10):UInt8.ofNat (48+n)≠10:=by
 have:n=0∨n=1∨n=2∨n=3∨n=4∨n=5∨n=6∨n=7∨n=8∨n=9:=by omega
 rcases this with rfl | rfl | rfl | rfl | rfl | rfl | rfl | rfl | rfl | rfl<;>decide
theorem dig_ten (n:Nat):∀ x∈Lib.decDigits n,x≠10:=by
 induction n using Nat.strongRecOn with
 | _ n ih =>
  intro x hx
  rw [Lib.decDigits] at hx
  split at hx
  ·rename_i h
   simp only [List.mem_singleton] at hx
   subst hx
   exact digit_ten n h
  ·rename_i h
   rcases List.mem_append.1 hx with hx | hx
   ·exact ih (n / 10) (by omega) x hx
   ·simp only [List.mem_singleton] at hx
    subst hx
    exact digit_ten _ (by omega)
theorem itoa_ten (v:Int):∀ x∈Lib.itoa v,x≠10:=by
 intro x hx
 unfold Lib.itoa at hx
 split at hx
 ·rcases List.mem_cons.1 hx with rfl | hx
  ·decide
  ·exact dig_ten _ x hx
 ·exact dig_ten _ x hx
theorem seenText_ten (l1 l2:List Int):(10:UInt8)∉seenText l1 l2:=by
 intro h
 unfold seenText behind ahead at h
 rcases List.mem_append.1 h with h | h
 ·rcases List.mem_append.1 h with h | h
  ·obtain ⟨v,_,hv⟩:=List.mem_flatMap.1 h
   rcases List.mem_append.1 hv with hv | hv
   ·exact itoa_ten v _ hv rfl
   ·simp at hv
  ·simp at h
 ·obtain ⟨v,_,hv⟩:=List.mem_flatMap.1 h
  rcases List.mem_cons.1 hv with hv | hv
  ·simp at hv
  ·exact itoa_ten v _ hv rfl
def scan (line:List UInt8):List UInt8→List UInt8→Bool→Bool
 | _,[],f=>f
 | cur,b::r,f=>if b=10 then scan line [] r (f||(cur++[10]==line)) else scan line (cur++[b]) r f
theorem scan_seg (line:List UInt8):∀ (seg cur r:List UInt8) (f:Bool),(10:UInt8)∉seg→scan line cur (seg++10::r) f=scan line [] r (f||(cur++seg++[10]==line))
 | [],cur,r,f,_=>by simp [scan]
 | b::seg,cur,r,f,h=>by
  have hb:b≠10:=fun e=>h (by simp [e])
  have ih:=scan_seg line seg (cur++[b]) r f (fun hm=>h (List.mem_cons_of_mem _ hm))
  rw [List.cons_append,scan,if_neg hb,ih]
  simp
theorem scan_lines (o:Key):∀ (ks:List Key) (f:Bool),scan (seenText o.1 o.2++[10]) [] (seenLines ks) f=(f||isIn ks o.1 o.2)
 | [],f=>by simp [seenLines,scan,isIn]
 | k::ks,f=>by
  have h1:seenLines (k::ks)=seenText k.1 k.2++10::seenLines ks:=by simp [seenLines]
  rw [h1,scan_seg _ _ _ _ _ (seenText_ten _ _),List.nil_append,scan_lines o ks]
  have h2:(seenText k.1 k.2++[10]==seenText o.1 o.2++[10])=(cmpS k.1 k.2 o.1 o.2==0):=by
   rw [Bool.eq_iff_iff]
   simp only [beq_iff_eq]
   constructor
   ·intro e
    obtain ⟨e1,e2⟩:=seenText_inj (List.append_cancel_right e)
    rw [e1,e2,cmpS_self]
   ·intro e
    obtain ⟨e1,e2⟩:=cmpS_zero e
    rw [e1,e2]
  rw [h2]
  unfold isIn
  rw [List.any_cons,Bool.or_assoc]
theorem occ_nl (s:List UInt8) (i:Nat):Lib.occAt s [10] i=true↔s[i]?=some 10:=by
 unfold Lib.occAt
 rw [← List.head?_drop]
 cases h:s.drop i with
 | nil=>simp
 | cons b r =>
  simp only [List.head?_cons,Option.some.injEq,List.isPrefixOf,Bool.and_true,beq_iff_eq]
  exact eq_comm
theorem last_nl {T ask:List UInt8} (h:(10:UInt8)∉ask):Lib.lastIndex (T++[10]++ask) [10]=T.length:=by
 have hat:Lib.occAt (T++[10]++ask) [10] T.length=true:=by rw [occ_nl];simp
 unfold Lib.lastIndex
 rw [if_pos (by simp;omega)]
 rcases Lib.lastOcc_spec (T++[10]++ask) [10] ((T++[10]++ask).length - [(10:UInt8)].length+1) with ⟨_,hn⟩ | ⟨i,hi,e,hc,hn⟩
 ·have:=hn T.length (by simp;omega)
  rw [hat] at this;cases this
 ·rw [e]
  congr 1
  rcases Nat.lt_trichotomy i T.length with h1 | h1 | h1
  ·have:=hn T.length h1 (by simp;omega)
   rw [hat] at this;cases this
  ·exact h1
  ·exfalso
   rw [occ_nl,List.getElem?_append_right (by simp;omega)] at hc
   exact h (List.mem_of_getElem? hc)
theorem say_end (d:D):∃ T,say d=T++[10]:=⟨_,rfl⟩
theorem sayThread_end (l:List D):∃ T,sayThread l=T++[10]:=by
 rcases List.eq_nil_or_concat l with rfl | ⟨l',d,rfl⟩
 ·exact ⟨[116,104,114,101,97,100],by simp [sayThread,sayAll]⟩
 ·obtain ⟨T,hT⟩:=say_end d
  exact ⟨[116,104,114,101,97,100,10]++sayAll l'++T,by simp [sayThread,sayAll,hT]⟩
theorem sayProg_end {ll:List (List D)} (h:ll≠[]):∃ T,sayProg ll=T++[10]:=by
 rcases List.eq_nil_or_concat ll with rfl | ⟨l',d,rfl⟩
 ·exact absurd rfl h
 ·obtain ⟨T,hT⟩:=sayThread_end d
  exact ⟨sayProg l'++T,by simp [sayProg,hT]⟩
end M
end
section
open Go.RowKit
namespace M
theorem suffix_nl (l:List UInt8):Lib.hasSuffix (l++[10]) [10]=true∧Lib.trimSuffix (l++[10]) [10]=l:=by
 constructor
 ·simp [Lib.hasSuffix]
 ·simp [Lib.trimSuffix,Lib.hasSuffix]
def ask (k:Int):List UInt8:=if k=1 then [115,116,114,105,99,116] else if k=2 then [108,97,116,101] else [108,111,111,115,101]
theorem ask_no {k:Int} (h:k=1∨k=2∨k=3):(10:UInt8)∉ask k∧Lib.hasPrefix (ask k) [119,97,108,108,115,32]=false∧Lib.trimPrefix (ask k) [119,97,108,108,115,32]=ask k∧(ask k).length≤6:=by
 rcases h with rfl | rfl | rfl<;>decide
end M
theorem bytes_extractL (s:List UInt8) (a b:Nat):(⟨s.toArray⟩:ByteArray).extract a b=⟨((s.drop a).take (b - a)).toArray⟩:=by
 apply ByteArray.ext
 simp [ByteArray.data_extract,List.extract_toArray,List.extract_eq_take_drop]
set_option maxHeartbeats 1000000 in
set_option maxRecDepth 100000 in
theorem splitLast_raw (F l:List UInt8) (n:Nat) (w:World) (h1:Lib.hasSuffix F [10]=true) (h2:Lib.trimSuffix F [10]=l) (h3:Lib.lastIndex l [10]=(n:Int)) (hn:n+1≤l.length) (hF:F.length≤1000000) (hl:l.length≤1000000) :
  Calls Tryz.prog 43 #[.string ⟨F.toArray⟩] w fun e w'=>e=.returned (.tuple #[.string ⟨(l.take (n+1)).toArray⟩,.string ⟨(l.drop (n+1)).toArray⟩])∧Below w.heap.size w w':=by
 have CS:=Tryz.strings_CutSuffix ⟨F.toArray⟩ ⟨#[10]⟩ w (by show (F.toArray).size≤_;simp;omega)
 have CL:=Tryz.strings_LastIndex ⟨l.toArray⟩ ⟨#[10]⟩ (by show (l.toArray).size < _;simp;omega) w
 simp only at CS CL
 rw [h1,h2] at CS
 rw [h3] at CL
 have hw:IntKind.i64.wrap ((n:Int)+1)=(n:Int)+1:=by rw [IntKind.wrap_i64];omega
 have n1:(n:Int)+1≤l.length:=by omega
 have n0:(0:Int)≤(n:Int)+1:=by omega
 clear h1 h2 h3
 go_enter Tryz.func43,Tryz.ntmps43
 go_wp2_with fail
 refine CS.mono ?_
 rintro e w1 ⟨rfl,rfl⟩
 go_wp2_with fail
 refine CL.mono ?_
 rintro e w2 ⟨rfl,rfl⟩
 go_wp2_with fail
 go_region
 all_goals
  go_wp2_with fail
  go_ret2
  exact ⟨by rw [bytes_extractL,bytes_extractL,List.drop_zero,Nat.sub_zero,List.take_of_length_le (l:=l.drop (n+1)) (by simp)];rfl,⟨rfl,rfl,rfl,Nat.le_refl _,fun _ _=>rfl⟩⟩
theorem splitLast_any (T a:List UInt8) (w:World) (h:(10:UInt8)∉a) (hl:(T++[10]++a++[10]).length≤1000000) :
  Calls Tryz.prog 43 #[.string ⟨(T++[10]++a++[10]).toArray⟩] w fun e w'=>e=.returned (.tuple #[.string ⟨(T++[10]).toArray⟩,.string ⟨a.toArray⟩])∧Below w.heap.size w w':=by
 obtain ⟨h1,h2⟩:=M.suffix_nl (T++[10]++a)
 have hl2:(T++[10]++a).length≤1000000:=by simp at hl ⊢;omega
 have:=splitLast_raw _ _ T.length w h1 h2 (M.last_nl (T:=T) h) (by simp) hl hl2
 have e1:(T++[10]++a).take (T.length+1)=T++[10]:=by
  rw [show T.length+1=(T++[10]).length by simp,List.take_left]
 have e2:(T++[10]++a).drop (T.length+1)=a:=by
  rw [show T.length+1=(T++[10]).length by simp,List.drop_left]
 rw [e1,e2] at this
 exact this
set_option maxHeartbeats 1000000 in
set_option maxRecDepth 100000 in
theorem mustOrder_any (k:Int) (w:World) (hk:k=1∨k=2∨k=3) :
  Calls Tryz.prog 70 #[.string ⟨(M.ask k).toArray⟩] w fun e w'=>e=.returned (.int .i64 k)∧w'=w:=by
 rcases hk with rfl | rfl | rfl
 all_goals
  simp only [M.ask]
  go_enter Tryz.func70,Tryz.ntmps70
  go_wp2_with fail
  go_ret
  exact ⟨rfl,rfl⟩
set_option maxHeartbeats 1000000 in
set_option maxRecDepth 100000 in
theorem mustAsk_any (k:Int) (w:World) (hk:k=1∨k=2∨k=3) :
  Calls Tryz.prog 45 #[.string ⟨(M.ask k).toArray⟩] w fun e w'=>e=.returned (.agg #[.int .i64 k,.bool false])∧Below w.heap.size w w':=by
 obtain ⟨_,h1,h2,_⟩:=M.ask_no hk
 have CP:=fun w=>Tryz.strings_CutPrefix ⟨(M.ask k).toArray⟩ ⟨#[119,97,108,108,115,32]⟩ w
 simp only at CP
 rw [h1,h2] at CP
 have CO:=fun w=>mustOrder_any k w hk
 generalize M.ask k=s at *
 clear h1 h2
 go_enter Tryz.func45,Tryz.ntmps45
 go_wp2_with fail
 refine (CP _).mono ?_
 rintro e w1 ⟨rfl,rfl⟩
 go_wp2_with fail
 refine (CO _).mono ?_
 rintro e w2 ⟨rfl,rfl⟩
 go_wp2_with fail
 refine bodyPost_ret (v:=.agg #[.int .i64 k,.bool false]) (by simp [results,Tryz.results45,go_sem]) rfl ⟨rfl,below1 w _⟩
end
section
open Go.RowKit
set_option maxHeartbeats 1000000 in
set_option maxRecDepth 100000 in
theorem mustProg_any (ll:List (List M.D)) (w:World) (hp:M.prog ll=true) (hl:(M.text ll).length≤1000000) (hm:HasMax w) :
  Calls Tryz.prog 44 #[.string ⟨(M.text ll).toArray⟩] w fun e w'=>∃ a g c,e=.returned (.agg #[.slice a ll.length c])∧DoSN (w.heap.size+1) w' a g 0 ll∧Below w.heap.size w w':=by
 have b1:=below1 w (.cells #[.slice none 0 0] 27)
 have hR:=Slot1.new w (.slice none 0 0) 27
 have CR:=iprogRead_any (M.text ll) (w.alloc (.cells #[.slice none 0 0] 27)) (by omega) (hm.below b1 (Nat.le_refl _))
 rw [M.back_text hp] at CR
 simp only [Option.isSome_some,Option.getD_some] at CR
 have hsz:(w.alloc (.cells #[.slice none 0 0] 27)).heap.size=w.heap.size+1:=by simp
 generalize M.text ll=T at *
 go_enter Tryz.func44,Tryz.ntmps44
 go_wp2_with fail
 generalize w.alloc (.cells #[.slice none 0 0] 27)=W0 at *
 refine CR.mono ?_
 rintro e w1 ⟨v,rfl,vs,hRd,hb⟩
 obtain ⟨a,g,c,rfl,hsn⟩:=hRd.b.sn
 rw [hsz] at hsn
 have b2:=below1 w1 (.cells #[.slice a ll.length c] 27)
 have hR2:=(hR.but (But.of (rb:=w.heap.size+1) hb) (by omega)).but (But.of (rb:=w.heap.size+1) b2) (by omega)
 have hsn2:=hsn.but (But.of (rb:=w.heap.size) b2) (by omega)
 have bF:=b1.trans (((hb.trans (b2.mono hb.size))).mono (by omega))
 have hP:=Slot1.new w1 (.slice a ll.length c) 27
 have lR:=hR.lt
 have hs1:=hb.size
 have z0:=hR2.c
 have zf:=hR2.fz
 have p0:=hP.c
 have hne:w.heap.size≠w1.heap.size:=by omega
 have hF:=(hR2.set (.slice a ll.length c)).c
 clear hR hRd hb hsn CR
 go_wp2_with fail
 refine bodyPost_ret (v:=.agg #[.slice a ll.length c]) (by simp [results,Tryz.results44,go_sem,hF]) rfl ⟨a,g,c,rfl,(hsn2.far (by omega)).mono (by omega),bF.setCell (Nat.le_refl _) _⟩
end
section
open Go.RowKit
set_option maxRecDepth 100000 in
theorem errIs_nil (T:TypeId) (v:Value) (w:World) :
  Calls Tryz.prog 27 #[.nilIface,.iface T v] w fun e w'=>e=.returned (.bool false)∧w'=w:=by
 have he:∀ w:World,(binOp .eql 63 .nilIface (.iface T v)).run Tryz.prog w=.ok (.bool false) w:=fun _=>by kernel_rfl
 go_enter Tryz.func27,Tryz.ntmps27
 go_wp2_with fail
 go_ret
 exact ⟨rfl,rfl⟩
set_option maxRecDepth 100000 in
theorem caught_none (p:Addr) (w:World) :
  CallsD Tryz.prog 42 #[.pointer (some p)] .returning w fun e u' w'=>e=.returned (.tuple #[])∧u'=.returning∧w'=w:=by
 refine callsD_of_wpS Tryz.func42 rfl fun c₀ cs hu=>?_
 apply wpS_seq
 apply wpS_region
 simp [wpOpsS,go_sem,recoverD,hu,Tryz.ntmps42,Exit.thenS]
 apply wpS_seq
 apply wpS_seq
 apply wpS_region
 simp [wpOpsS,go_sem,Exit.thenS]
 refine wpS_cond (t:=true) (by simp [Act.eval,Array.replicate]) ?_
 simp only [if_true]
 refine wpS_of_wp (wp_ret ?_)
 cases c₀
 simp_all [bodyPostS,results,Tryz.results42,Exit.thenS]
end
section
open Go.RowKit
def M.askText (ll:List (List M.D)) (k:Int):List UInt8:=M.text ll++M.ask k++[10]
structure RdB (W:World) (N:Nat) (x y z u:Value):Prop where
 c0:W.cell? ⟨N,0,none⟩=some x
 c1:W.cell? ⟨N+1,0,none⟩=some y
 c2:W.cell? ⟨N+1,1,none⟩=some z
 c3:W.cell? ⟨N+1+1,0,none⟩=some u
 f0:W.frozen? ⟨N,0,none⟩=false
 f1:W.frozen? ⟨N+1,0,none⟩=false
 f2:W.frozen? ⟨N+1,1,none⟩=false
 f3:W.frozen? ⟨N+1+1,0,none⟩=false
theorem RdB.below {W W':World} {N:Nat} {x y z u:Value} (h:RdB W N x y z u) (hb:Below W.heap.size W W'):RdB W' N x y z u:=by
 have k:∀ p v,W.cell? p=some v→W.frozen? p=false→W'.cell? p=some v∧W'.frozen? p=false:=fun p v hc hf =>
  ⟨(hb.cell (p:=p) (World.block_lt_of_cell? _ _ hc)).trans hc,(World.frozen?_of_block (hb.block _ (World.block_lt_of_cell? _ _ hc))).trans hf⟩
 exact ⟨(k _ _ h.c0 h.f0).1,(k _ _ h.c1 h.f1).1,(k _ _ h.c2 h.f2).1,(k _ _ h.c3 h.f3).1,(k _ _ h.c0 h.f0).2,(k _ _ h.c1 h.f1).2,(k _ _ h.c2 h.f2).2,(k _ _ h.c3 h.f3).2⟩
theorem RdB.set0 {W:World} {N:Nat} {x y z u:Value} (h:RdB W N x y z u) (v:Value):RdB (W.setCell ⟨N,0,none⟩ v) N v y z u :=
 ⟨World.cell?_setCell_same _ _ _ h.c0,(World.cell?_setCell_other _ _ _ _ (fun e=>by simp at e)).trans h.c1,(World.cell?_setCell_other _ _ _ _ (fun e=>by simp at e)).trans h.c2,(World.cell?_setCell_other _ _ _ _ (fun e=>by simp at e)).trans h.c3,
  by rw [World.frozen?_setCell];exact h.f0,by rw [World.frozen?_setCell];exact h.f1,by rw [World.frozen?_setCell];exact h.f2,by rw [World.frozen?_setCell];exact h.f3⟩
theorem RdB.set1 {W:World} {N:Nat} {x y z u:Value} (h:RdB W N x y z u) (v:Value):RdB (W.setCell ⟨N+1,0,none⟩ v) N x v z u :=
 ⟨(World.cell?_setCell_other _ _ _ _ (fun e=>by simp at e)).trans h.c0,World.cell?_setCell_same _ _ _ h.c1,(World.cell?_setCell_other _ _ _ _ (fun e=>by simp at e)).trans h.c2,(World.cell?_setCell_other _ _ _ _ (fun e=>by simp at e)).trans h.c3,
  by rw [World.frozen?_setCell];exact h.f0,by rw [World.frozen?_setCell];exact h.f1,by rw [World.frozen?_setCell];exact h.f2,by rw [World.frozen?_setCell];exact h.f3⟩
theorem RdB.set2 {W:World} {N:Nat} {x y z u:Value} (h:RdB W N x y z u) (v:Value):RdB (W.setCell ⟨N+1,1,none⟩ v) N x y v u :=
 ⟨(World.cell?_setCell_other _ _ _ _ (fun e=>by simp at e)).trans h.c0,(World.cell?_setCell_other _ _ _ _ (fun e=>by simp at e)).trans h.c1,World.cell?_setCell_same _ _ _ h.c2,(World.cell?_setCell_other _ _ _ _ (fun e=>by simp at e)).trans h.c3,
  by rw [World.frozen?_setCell];exact h.f0,by rw [World.frozen?_setCell];exact h.f1,by rw [World.frozen?_setCell];exact h.f2,by rw [World.frozen?_setCell];exact h.f3⟩
theorem RdB.set3 {W:World} {N:Nat} {x y z u:Value} (h:RdB W N x y z u) (v:Value):RdB (W.setCell ⟨N+1+1,0,none⟩ v) N x y z v :=
 ⟨(World.cell?_setCell_other _ _ _ _ (fun e=>by simp at e)).trans h.c0,(World.cell?_setCell_other _ _ _ _ (fun e=>by simp at e)).trans h.c1,(World.cell?_setCell_other _ _ _ _ (fun e=>by simp at e)).trans h.c2,World.cell?_setCell_same _ _ _ h.c3,
  by rw [World.frozen?_setCell];exact h.f0,by rw [World.frozen?_setCell];exact h.f1,by rw [World.frozen?_setCell];exact h.f2,by rw [World.frozen?_setCell];exact h.f3⟩
theorem RdB.drew {W:World} {N:Nat} {x y z u:Value} (h:RdB W N x y z u):RdB W.drew N x y z u:=⟨h.c0,h.c1,h.c2,h.c3,h.f0,h.f1,h.f2,h.f3⟩
set_option maxHeartbeats 2000000 in
set_option maxRecDepth 100000 in
theorem readLines_any (ll:List (List M.D)) (k:Int) (w:World) (hp:M.prog ll=true) (h0:ll≠[]) (hk:k=1∨k=2∨k=3) (hl:(M.text ll).length≤100000) (hm:HasMax w) :
  Calls Tryz.prog 26 #[.string ⟨(M.askText ll k).toArray⟩] w fun e w'=>∃ a g c,e=.returned (.tuple #[.agg #[.slice a ll.length c],.agg #[.int .i64 k,.bool false],.nilIface])∧DoSN (w.heap.size+3) w' a g 0 ll∧Below w.heap.size w w':=by
 obtain ⟨ha10,_,_,ha6⟩:=M.ask_no hk
 have eT:M.text ll=M.sayProg ll:=by simp [M.text,hp]
 obtain ⟨T,hT⟩:=M.sayProg_end h0
 have hlT:(T++[10]++M.ask k++[10]).length≤1000000:=by
  rw [← hT,← eT];simp only [List.length_append,List.length_cons,List.length_nil];omega
 have CS:=fun W=>splitLast_any T (M.ask k) W ha10 hlT
 rw [← hT,← eT] at CS
 have CP:=fun W h=>mustProg_any ll W hp (by omega) h
 have CA:=fun W=>mustAsk_any k W hk
 have hmf:∀ (fn:Fn) (first cap:Array Value) (w:World),(Instr.makeFunc fn first cap).run Tryz.prog w=.ok (.func fn first cap) w:=fun _ _ _ _=>rfl
 have b3:Below w.heap.size w (((w.alloc (.cells #[.slice none 0 0] 27)).alloc (.cells #[.int .i64 0,.bool false] 70)).alloc (.cells #[.nilIface] 63)):=below3 w _ _ _
 have hz:(((w.alloc (.cells #[.slice none 0 0] 27)).alloc (.cells #[.int .i64 0,.bool false] 70)).alloc (.cells #[.nilIface] 63)).heap.size=w.heap.size+1+1+1:=by simp
 unfold M.askText
 obtain ⟨F,hF⟩:∃ F,M.text ll++M.ask k++[10]=F:=⟨_,rfl⟩
 rw [hF] at CS ⊢
 generalize M.text ll=X at *
 generalize M.ask k=Y at *
 clear hT hlT eT ha10 ha6 hF
 have B0:RdB (((w.alloc (.cells #[.slice none 0 0] 27)).alloc (.cells #[.int .i64 0,.bool false] 70)).alloc (.cells #[.nilIface] 63)) w.heap.size (.slice none 0 0) (.int .i64 0) (.bool false) .nilIface:=by
  constructor<;>simp [go_sem]
 go_enter_defers Tryz.func26,Tryz.ntmps26
 go_wp2_with fail
 generalize ((w.alloc (.cells #[.slice none 0 0] 27)).alloc (.cells #[.int .i64 0,.bool false] 70)).alloc (.cells #[.nilIface] 63)=W0 at *
 refine (CS _).mono ?_
 rintro e w1 ⟨rfl,b1⟩
 have B1:=B0.below b1
 have bw1:=b3.trans (b1.mono b3.size)
 go_wp2_with fail
 refine (CP _ (hm.below bw1 (Nat.le_refl _))).mono ?_
 rintro e w2 ⟨a,g,c,rfl,hsn,b2⟩
 have B2:=B1.below b2
 have bw2:=bw1.trans (b2.mono bw1.size)
 have hs1:=b1.size
 have hsn2:=hsn.mono (N':=w.heap.size+3) (by omega)
 clear B0 B1 hsn CS CP
 have z0:=B2.c0
 have zf:=B2.f0
 go_wp2_with fail
 refine (CA _).mono ?_
 rintro e w3 ⟨rfl,b4⟩
 have B3:=(B2.set0 (.slice a ll.length c)).below b4
 have hsn3:=(hsn2.far (B:=w.heap.size) (i:=0) (u:=.slice a ll.length c) (by omega)).but (But.of (rb:=w.heap.size) b4) (by omega)
 have bw3:Below w.heap.size w w3:=by
  have:=(bw2.setCell (p:=⟨w.heap.size,0,none⟩) (Nat.le_refl _) (.slice a ll.length c))
  exact this.trans (b4.mono this.size)
 clear z0 zf B2 hsn2 bw2 CA b3 b1 bw1 b2
 have z0:=B3.c0;have z1:=B3.c1;have z2:=B3.c2;have z3:=B3.c3
 have f0:=B3.f0;have f1:=B3.f1;have f2:=B3.f2;have f3:=B3.f3
 go_wp2_with fail
 have B5:=(B3.set1 (.int .i64 k)).set2 (.bool false)
 have hsn5:=(hsn3.far (B:=w.heap.size+1) (i:=0) (u:=.int .i64 k) (by omega)).far (B:=w.heap.size+1) (i:=1) (u:=.bool false) (by omega)
 have bw5:=(bw3.setCell (p:=⟨w.heap.size+1,0,none⟩) (Nat.le_succ _) (.int .i64 k)).setCell (p:=⟨w.heap.size+1,1,none⟩) (Nat.le_succ _) (.bool false)
 clear z0 z1 z2 z3 f0 f1 f2 f3 B3 hsn3 bw3
 generalize (w3.setCell ⟨w.heap.size+1,0,none⟩ (.int .i64 k)).setCell ⟨w.heap.size+1,1,none⟩ (.bool false)=W5 at *
 have z0:=B5.c0;have z1:=B5.c1;have z2:=B5.c2;have z3:=B5.c3
 have f0:=B5.f0;have f1:=B5.f1;have f2:=B5.f2;have f3:=B5.f3
 go_region
 all_goals
  go_wp2_with fail
  have B6:=((((B5.set0 (.slice a ll.length c)).set1 (.int .i64 k)).set2 (.bool false)).set3 .nilIface).drew
  have hsn6:=((((hsn5.far (B:=w.heap.size) (i:=0) (u:=.slice a ll.length c) (by omega)).far (B:=w.heap.size+1) (i:=0) (u:=.int .i64 k) (by omega)).far (B:=w.heap.size+1) (i:=1) (u:=.bool false) (by omega)).far (B:=w.heap.size+1+1) (i:=0) (u:=.nilIface) (by omega)).but (But.refl w.heap.size _).drew (by omega)
  have bw6:=((((bw5.setCell (p:=⟨w.heap.size,0,none⟩) (Nat.le_refl _) (.slice a ll.length c)).setCell (p:=⟨w.heap.size+1,0,none⟩) (Nat.le_succ _) (.int .i64 k)).setCell (p:=⟨w.heap.size+1,1,none⟩) (Nat.le_succ _) (.bool false)).setCell (p:=⟨w.heap.size+1+1,0,none⟩) (by show w.heap.size≤w.heap.size+1+1;omega) .nilIface).drew
  clear z0 z1 z2 z3 f0 f1 f2 f3 B5 hsn5 bw5
  generalize ((((W5.setCell ⟨w.heap.size,0,none⟩ (.slice a ll.length c)).setCell ⟨w.heap.size+1,0,none⟩ (.int .i64 k)).setCell ⟨w.heap.size+1,1,none⟩ (.bool false)).setCell ⟨w.heap.size+1+1,0,none⟩ .nilIface).drew=W6 at *
  have z0:=B6.c0;have z1:=B6.c1;have z2:=B6.c2;have z3:=B6.c3
  refine leaves_cons (f:=42) (args:=#[.pointer (some ⟨w.heap.size+1+1,0,none⟩)]) (by simp) (by simp [go_sem]) ?_
  refine (caught_none _ _).mono ?_
  rintro e u' w'' ⟨rfl,rfl,rfl⟩
  exact ⟨.tuple #[.agg #[.slice a ll.length c],.agg #[.int .i64 k,.bool false],.nilIface],by simp [results,Tryz.results26,go_sem,z0,z1,z2,z3],a,g,c,rfl,hsn6,bw6⟩
end
section
open Go.RowKit
theorem M.seenText_le {l1 l2:List Int} (f1:Fits l1) (f2:Fits l2) (n1:l1.length≤1048576) (n2:l2.length≤1048576):(M.seenText l1 l2).length≤50000000:=by
 have h1:=M.behind_le f1
 have h2:=M.ahead_le f2
 unfold M.seenText
 simp only [List.length_append,List.length_cons,List.length_nil]
 omega
theorem M.seenLines_le {ks:List Key} (hf:∀ k∈ks,Fits k.1∧Fits k.2) (hk:KLe ks 1048576):(M.seenLines ks).length≤50000001 * ks.length:=by
 induction ks with
 | nil=>simp [M.seenLines]
 | cons k ks ih =>
  have h1:=ih (fun x hx=>hf x (List.mem_cons_of_mem _ hx)) (fun x hx=>hk x (List.mem_cons_of_mem _ hx))
  have h2:=hf k (List.mem_cons_self ..)
  have h3:=hk k (List.mem_cons_self ..)
  have h4:=M.seenText_le h2.1 h2.2 h3.1 h3.2
  simp only [M.seenLines,List.flatMap_cons,List.length_append,List.length_cons,List.length_nil] at h1 ⊢
  omega
theorem cellL {W W':World} {p:Addr} {v:Value} (hb:Below W.heap.size W W') (h:W.cell? p=some v):W'.cell? p=some v:=(hb.cell (p:=p) (World.block_lt_of_cell? _ _ h)).trans h
theorem Bd.belowL {B b:Nat} {acc:List UInt8} {w w':World} (h:Bd B b acc w) (hb:Below w.heap.size w w'):Bd B b acc w':=h.kept ⟨hb.os,hb.tape,hb.output,hb.size,fun i hi _=>hb.block i hi⟩
set_option maxHeartbeats 2000000 in
set_option maxRecDepth 100000 in
theorem seenLines_any (a:Option Addr) (b c:Nat) (ks:List Key) (w:World) (hl:ks.length≤200000) (hk:KLe ks 1048576) (hf:∀ k∈ks,Fits k.1∧Fits k.2) (h:KS w a b 0 ks) (ht:HasTab w) :
  Calls Tryz.prog 30 #[.slice a ks.length c] w fun e w'=>e=.returned (.string ⟨(M.seenLines ks).toArray⟩)∧Below w.heap.size w w':=by
 have hbd:=Bd.fresh w
 have hbl:=below1 w (.cells #[.pointer none,.slice none 0 0] 61)
 obtain ⟨B,hB⟩:∃ B,w.heap.size=B:=⟨_,rfl⟩
 go_enter Tryz.func30,Tryz.ntmps30
 go_wp2_with fail
 generalize w.alloc (.cells #[.pointer none,.slice none 0 0] 61)=W0 at *
 rw [hB] at hbd hbl
 go_loopw [8] (fun s8 wr=>∃ n:Nat,s8=.int .i64 n∧n≤ks.length∧Bd B B (M.seenLines (ks.take n)) wr∧Below B w wr) (fun s8 _=>ks.length - (intOf s8).toNat)
 case atStart=>exact ⟨0,rfl,Nat.zero_le _,by simpa [M.seenLines] using hbd,hbl⟩
 case round =>
  clear hbd hbl
  obtain ⟨n,rfl,hn,hD,hbel⟩:=hrel
  have hacc:=M.seenLines_le (ks:=ks.take n) (fun k hk'=>hf k (List.mem_of_mem_take hk')) (fun k hk'=>hk k (List.mem_of_mem_take hk'))
  have hacc2:(ks.take n).length≤200000:=by simp only [List.length_take];omega
  by_cases hlt:n < ks.length
  ·have i1:(n:Int) < ks.length:=by omega
   obtain ⟨rfl⟩:=h.addr (by omega)
   obtain ⟨s,e1,e2,c1,c2,hsa⟩:=h.row n hlt
   rw [Nat.zero_add] at c1 c2
   have hfk:=hf _ (List.getElem_mem hlt)
   have hkk:=hk _ (List.getElem_mem hlt)
   rw [← e1,← e2] at hfk hkk
   have HS:Hid (M.seenLines (ks.take (n+1))=M.seenLines (ks.take n)++(M.seenText s.l1 s.l2++[10])):=by
    show _=_
    rw [List.take_succ_eq_append_getElem hlt,M.seenLines,List.flatMap_append,e1,e2]
    simp [M.seenLines]
   have hst:=M.seenText_le hfk.1 hfk.2 hkk.1 hkk.2
   have hbel':Below w.heap.size w wr:=by rw [hB];exact hbel
   have d1:=cellL hbel' c1
   have d2:=cellL hbel' c2
   have bA:=below1 wr (.cells #[.slice s.a1 s.l1.length s.c1,.slice s.a2 s.l2.length s.c2] 33)
   have sa:=(hsa.below hbel' (Nat.le_refl _)).below bA (Nat.le_refl _)
   have htr:=(ht.below hbel' (Nat.le_refl _)).below bA (Nat.le_refl _)
   have CT:=iseenText_any s _ ⟨hkk.1,hkk.2⟩ sa hfk.1 hfk.2 htr
   have hDa:=hD.belowL bA
   have bB:Below B w (wr.alloc (.cells #[.slice s.a1 s.l1.length s.c1,.slice s.a2 s.l2.length s.c2] 33)):=hbel.trans (bA.mono hD.le)
   clear c1 c2 hsa e1 e2 hD bA sa htr hfk hkk hbel hbel'
   generalize M.seenLines (ks.take n)=acc at *
   generalize M.seenText s.l1 s.l2=tx at *
   go_wp2_with fail
   generalize wr.alloc (.cells #[.slice s.a1 s.l1.length s.c1,.slice s.a2 s.l2.length s.c2] 33)=W1 at *
   refine CT.mono ?_
   rintro e w2 ⟨rfl,b2⟩
   have hD2:=hDa.belowL b2
   go_wp2_with fail
   refine (wString_any B B acc ⟨tx.toArray⟩ _ hD2 (by simp [ByteArray.size];omega)).mono ?_
   rintro e w3 ⟨rfl,h3,k3⟩
   go_wp2_with fail
   refine (wRune_any B B _ 10 _ h3 (by omega) (by omega) (by simp;omega)).mono ?_
   rintro e w4 ⟨rfl,h4,k4⟩
   go_wp2_with fail
   exact ⟨⟨n+1,by go_num,by omega,by rw [HS.out];simpa [M.b8] using h4,((bB.trans (b2.mono hDa.le)).trans k3.bel).trans k4.bel⟩,by simp [intOf];omega⟩
  ·rw [List.take_of_length_le (by omega)] at hD
   go_wp2_with fail
   refine (wText_any B B _ _ hD).mono ?_
   rintro e w4 ⟨rfl,b4⟩
   go_wp2_with fail
   go_ret
   exact ⟨rfl,by rw [hB];exact hbel.trans b4⟩
end
section
open Go.RowKit
namespace M
theorem orderAll_fits {ll:List (List M.D)} {k:Int} {z:Key} (hz:z∈M.orderAll ll k):Fits z.1∧Fits z.2:=by
 obtain ⟨x,hx,rfl⟩:=mem_orderAll.1 hz
 have h:=(holds_parts_of hx).2
 have e:=exec_seenOk h
 have e2:execSeen ll x.1 x.2=seenOf ll x:=by simp [execSeen,h,seenOf]
 rw [e2] at e
 simp only [seenOk,Bool.and_eq_true] at e
 have key:∀ l:List Int,vals l=true→Fits l:=fun l hl v hv=>by
  unfold vals at hl
  have:=List.all_eq_true.1 hl v hv
  simp at this
  omega
 exact ⟨key _ e.2.2.1,key _ e.2.2.2⟩
end M
structure HasErr (w:World):Prop where
 a:∃ T v,w.cell? ⟨0,0,none⟩=some (.iface T v)
 b:∃ T v,w.cell? ⟨1,0,none⟩=some (.iface T v)
theorem HasErr.below {w w':World} {B:Nat} (h:HasErr w) (hb:Below B w w') (hB:w.heap.size≤B):HasErr w':=by
 obtain ⟨⟨T,v,g⟩,⟨T',v',g'⟩⟩:=h
 exact ⟨⟨T,v,(hb.cell (p:=⟨0,0,none⟩) (Nat.lt_of_lt_of_le (World.block_lt_of_cell? _ _ g) hB)).trans g⟩,⟨T',v',(hb.cell (p:=⟨1,0,none⟩) (Nat.lt_of_lt_of_le (World.block_lt_of_cell? _ _ g') hB)).trans g'⟩⟩
set_option maxHeartbeats 2000000 in
set_option maxRecDepth 100000 in
theorem linesRun_any (ll:List (List M.D)) (k:Int) (w:World) (hp:M.prog ll=true) (h0:ll≠[]) (hk:k=1∨k=2∨k=3) (hl:(M.text ll).length≤100000) (hm:HasMax w) (ht:HasTab w) (he:HasErr w) :
  Calls Tryz.prog 10 #[.string ⟨(M.askText ll k).toArray⟩] w fun e w'=>e=.returned (.string ⟨(M.seenLines (M.orderAll ll k)).toArray⟩)∧Below w.heap.size w w':=by
 have CR:=readLines_any ll k w hp h0 hk hl hm
 generalize M.askText ll k=F at *
 go_enter Tryz.func10,Tryz.ntmps10
 go_wp2_with fail
 refine CR.mono ?_
 rintro e w1 ⟨a,g,c,rfl,hsn,b1⟩
 obtain ⟨T0,v0,g0⟩:=he.a
 obtain ⟨T1,v1,g1⟩:=he.b
 have b2:=below2 w1 (.cells #[.slice a ll.length c] 27) (.cells #[.int .i64 k,.bool false] 70)
 have bw:=b1.trans (b2.mono b1.size)
 have e0:=cellL bw g0
 have e1:=cellL bw g1
 have p0:((w1.alloc (.cells #[.slice a ll.length c] 27)).alloc (.cells #[.int .i64 k,.bool false] 70)).cell? ⟨w1.heap.size,0,none⟩=some (.slice a ll.length c):=by simp
 have q0:((w1.alloc (.cells #[.slice a ll.length c] 27)).alloc (.cells #[.int .i64 k,.bool false] 70)).cell? ⟨w1.heap.size+1,0,none⟩=some (.int .i64 k):=by simp
 have q1:((w1.alloc (.cells #[.slice a ll.length c] 27)).alloc (.cells #[.int .i64 k,.bool false] 70)).cell? ⟨w1.heap.size+1,1,none⟩=some (.bool false):=by simp
 have hss:=hsn.ss.below b2 (Nat.le_refl _)
 obtain ⟨hl3,hl7⟩:=M.prog_le hp
 have htw:=ht.below bw (Nat.le_refl _)
 have CO:=fun W (h:DoSS W a g 0 ll)=>iorderAllK a g 0 c ll k W (by omega) (fun t ht=>by have:=hl7 t ht;omega) h
 have hkl:=M.orderAll_len ll k
 have hkk:=M.orderAll_le ll k
 have hkf:∀ z∈M.orderAll ll k,Fits z.1∧Fits z.2:=fun z hz=>M.orderAll_fits hz
 obtain ⟨ks,hks⟩:∃ ks,M.orderAll ll k=ks:=⟨_,rfl⟩
 have HK:Hid (M.orderAll ll k=ks):=hks
 rw [hks] at CO hkl hkk hkf
 clear hm ht CR hsn g0 g1 b1 b2 hks
 go_wp2_with fail
 generalize (w1.alloc (.cells #[.slice a ll.length c] 27)).alloc (.cells #[.int .i64 k,.bool false] 70)=W2 at *
 refine (errIs_nil T0 v0 _).mono ?_
 rintro e w2 ⟨rfl,rfl⟩
 go_wp2_with fail
 refine (errIs_nil T1 v1 _).mono ?_
 rintro e w3 ⟨rfl,rfl⟩
 go_wp2_with fail
 refine (CO _ hss).mono ?_
 rintro e w4 ⟨v4,rfl,hA⟩
 obtain ⟨a4,g4,c4,rfl,hS4⟩:=hA.ex
 have b4:=hA.bel
 go_wp2_with fail
 refine (seenLines_any a4 g4 c4 ks _ (by omega) hkk hkf hS4 (htw.below b4 (Nat.le_refl _))).mono ?_
 rintro e w5 ⟨rfl,b5⟩
 go_wp2_with fail
 go_ret
 exact ⟨by rw [HK.out];rfl,bw.trans ((b4.trans (b5.mono b4.size)).mono bw.size)⟩
end
end Go.Proofs.YtnddmlgnngdaoaaGreatDoor
