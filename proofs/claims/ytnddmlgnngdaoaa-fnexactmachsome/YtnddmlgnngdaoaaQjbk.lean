/- The law's own sizing, copying and comparing of numbers: laws.szIntS, toIntS, eqIntS. Of lists of at most 1048576 numbers (sizing: of at most 9223372036854775807). -/
import Derived.BigQuiet
import Derived.Deep.OwnRows
import Derived.Test.YtnddmlgnngdaoaaRows
import Derived.Test.YtnddmlgnngdaoaaQjae
namespace Go.Proofs.Ytnddmlgnngdaoaa
section
open Go.RowKit
theorem Try.info3:(Try.prog.info? 3).map (fun i=>(i.zero,i.size,i.bytes))=some (some (.int .i64 0),1,8):=by kernel_rfl
structure PartI (w wr:World) (l:List Int) (n:Nat):Prop where
 bel:Below w.heap.size w wr
 own:∃ f,wr.rowIs w.heap.size 3 l.length f
 done:∀ q (_:q < n) (h:q < l.length),wr.cell? ⟨w.heap.size,q,none⟩=some (.int .i64 l[q])
theorem partI_step {w wr:World} {l:List Int} {n:Nat} {x:Int} (hp:PartI w wr l n) (hlt:n < l.length) (hd:l[n]=x):PartI w (wr.setCell ⟨w.heap.size,n,none⟩ (.int .i64 x)) l (n+1):=by
 obtain ⟨f,hf⟩:=hp.own
 have hr:=hf.set n (.int .i64 x)
 refine ⟨hp.bel.setCell (Nat.le_refl _) _,⟨_,hr⟩,fun q hq hql=>?_⟩
 by_cases e:q=n
 ·subst e
  rw [hd,hr.cell hql];simp
 ·rw [World.cell?_setCell_other _ _ _ _ (fun e'=>e (by have:=congrArg Addr.off e';simp at this;omega))]
  exact hp.done q (by omega) hql
set_option maxHeartbeats 400000 in
theorem toIntS_any (a:Option Addr) (b o c:Nat) (l:List Int) (w:World) (hl:l.length≤1048576) (h:IntS w a b o l) :
  Calls Try.prog 10 #[.slice a l.length c] w fun e w'=>e=.returned (.slice (some ⟨w.heap.size,0,none⟩) l.length l.length)∧IntS w' (some ⟨w.heap.size,0,none⟩) w.heap.size 0 l∧(∃ f,w'.rowIs w.heap.size 3 l.length f)∧Below w.heap.size w w':=by
 have hmk:=run_make_row' (P:=Try.prog) 25 3 (.int .i64 0) 8 Try.underlying25 Try.info3 rfl .i64 .i64 l.length (by omega) (by omega)
 go_enter Try.func10,Try.ntmps10
 go_wp2_with fail
 clear hmk
 go_loopw [4] (fun s4 wr=>∃ n:Nat,s4=.int .i64 n∧n≤l.length∧PartI w wr l n) (fun s4 _=>l.length - (intOf s4).toNat)
 case atStart=>exact ⟨0,rfl,Nat.zero_le _,⟨below1 _ _,⟨_,World.rowIs_made w (.int .i64 0) l.length 3⟩,fun _ hq _=>absurd hq (Nat.not_lt_zero _)⟩⟩
 case round =>
  obtain ⟨n,rfl,hn,hpart⟩:=hrel
  by_cases hlt:n < l.length
  ·obtain ⟨rfl⟩:=h.addr (by omega)
   have hc:=(h.below hpart.bel (Nat.le_refl _)).row n hlt
   generalize hln:l[n]=x at hc
   have HL:Hid (l[n]=x):=hln
   clear hln
   obtain ⟨f,hf⟩:=hpart.own
   have c0:=hf.cell hlt
   have f0:=hf.frozen
   go_wp2_with fail
   exact ⟨⟨n+1,by go_num,by omega,partI_step hpart hlt HL.out⟩,by simp [intOf];omega⟩
  ·go_wp2_with fail
   go_ret
   exact ⟨rfl,⟨fun _=>rfl,fun i hi=>by rw [Nat.zero_add];exact hpart.done i (by omega) hi⟩,hpart.own,hpart.bel⟩
set_option maxHeartbeats 400000 in
theorem eqIntS_same (a:Option Addr) (b o c:Nat) (a2:Option Addr) (b2 o2 c2:Nat) (l:List Int) (w:World) (hl:l.length≤1048576) (h:IntS w a b o l) (h2:IntS w a2 b2 o2 l) :
  Calls Try.prog 14 #[.slice a l.length c,.slice a2 l.length c2] w fun e w'=>e=.returned (.bool true)∧Grown w w':=by
 go_enter Try.func14,Try.ntmps14
 go_wp2_with fail
 go_loopw [5] (fun s5 wr=>∃ n:Nat,s5=.int .i64 n∧n≤l.length∧Grown w wr) (fun s5 _=>l.length - (intOf s5).toNat)
 case atStart=>exact ⟨0,rfl,Nat.zero_le _,Grown.refl _⟩
 case round =>
  obtain ⟨n,rfl,hn,hg⟩:=hrel
  by_cases hlt:n < l.length
  ·obtain ⟨rfl⟩:=h.addr (by omega)
   obtain ⟨rfl⟩:=h2.addr (by omega)
   have hd:=(h.below hg.bel (Nat.le_refl _)).row n hlt
   have hd2:=(h2.below hg.bel (Nat.le_refl _)).row n hlt
   generalize l[n]=x at hd hd2
   have i1:(n:Int) < l.length:=by omega
   go_wp2_with fail
   go_quiet (fail)
   go_wp2_with fail
   exact ⟨⟨n+1,by go_num,by omega,hg.drewN _⟩,by simp [intOf];omega⟩
  ·go_wp2_with fail
   go_ret
   exact ⟨rfl,hg⟩
end
end Go.Proofs.Ytnddmlgnngdaoaa
