/- spec.DrawWhyOrder: a drawn program and what may be seen, or may not. Of codes of at most 1048576 bytes. -/
import Derived.Deep.OwnRows
import Derived.Test.YtegommoflmmahaaGreatRows
import Derived.Test.YtegommoflmmahaaGreatQwbl
namespace Go.Proofs.YtegommoflmmahaaGreat
section
open Go.RowKit
set_option maxHeartbeats 4000000 in
set_option maxRecDepth 100000 in
set_option linter.unusedSimpArgs false in
theorem DrawWhyOrder_any (ca:Option Addr) (cb co L C:Nat) (x:Nat→Int) (w:World) (hL:L≤C) (had:0 < L→ca=some ⟨cb,co,none⟩) (hc:∀ i,i < L→w.cell? ⟨cb,co+i,none⟩=some (.int .u8 (x i))∧0≤x i∧x i≤255) (hLb:L≤1048576) :
  Calls Tryz.prog 20 #[.slice ca L C] w fun e w'=>∃ (a:Option Addr) (g c:Nat) (mm:List (List M.D)) (s:Sn),e=.returned (.tuple #[.agg #[.slice a mm.length c],.agg #[.slice s.a1 s.l1.length s.c1,.slice s.a2 s.l2.length s.c2]])∧WyDrawn w w' a g c mm s:=by
 have hb0:=below2 w (.cells #[.slice none 0 0] 25) (.cells #[.slice none 0 0,.slice none 0 0] 28)
 have hR0:Slot1 ((w.alloc (.cells #[.slice none 0 0] 25)).alloc (.cells #[.slice none 0 0,.slice none 0 0] 28)) w.heap.size (.slice none 0 0):=(Slot1.new w _ _).ofB (alloc_old _ _ _ (by simp))
 have hQ0:Slot2 ((w.alloc (.cells #[.slice none 0 0] 25)).alloc (.cells #[.slice none 0 0,.slice none 0 0] 28)) (w.heap.size+1) (.slice none 0 0) (.slice none 0 0):=⟨alloc_new _ _ _ (by simp)⟩
 have hsz0:((w.alloc (.cells #[.slice none 0 0] 25)).alloc (.cells #[.slice none 0 0,.slice none 0 0] 28)).heap.size=w.heap.size+2:=by simp
 go_enter Tryz.func20,Tryz.ntmps20
 go_wp2_with fail
 generalize (w.alloc (.cells #[.slice none 0 0] 25)).alloc (.cells #[.slice none 0 0,.slice none 0 0] 28)=W0 at *
 refine (l6Open_any ca cb co L C x _ hL had (fun i hi=>⟨by rw [hb0.cell (p:=⟨cb,co+i,none⟩) (World.block_lt_of_cell? _ _ (hc i hi).1)];exact (hc i hi).1,(hc i hi).2⟩) hLb).mono ?_
 rintro e w1 ⟨rfl,hr1,hb1⟩
 rw [hsz0] at hr1 ⊢
 obtain ⟨rb,hrb⟩:∃ rb,w.heap.size+2=rb:=⟨_,rfl⟩
 rw [hrb] at hr1 ⊢
 have hb1w:Below w.heap.size w w1:=hb0.trans (hb1.mono (by omega))
 have hR1:=hR0.but (But.of (rb:=rb) hb1) (by omega)
 have hQ1:=hQ0.but (But.of (rb:=rb) hb1) (by omega)
 have hlt1:=hr1.lt
 clear hc had hb0 hb1 hR0 hQ0
 go_wp2_with fail
 refine (pick_rdr _ rb 0 3 _ (by omega) (by omega) (by omega) hr1).mono ?_
 rintro e w2 ⟨r,rfl,r0,r1,hr2,hb2⟩
 have hR2:=hR1.but hb2 (by omega)
 have hQ2:=hQ1.but hb2 (by omega)
 have hb2w:Below w.heap.size w w2:=But.below hb1w hb2 (by omega)
 clear hR1 hQ1 hr1
 go_wp2_with fail
 refine (l71Why_any _ rb (0+1) (1+r) _ (by omega) hr2).mono ?_
 rintro e w3 ⟨a,g,c,mm,s,rfl,hsn,hsm,hsA,hsL,hsb,p3,hp3,hr3,hb3⟩
 have hR3:=hR2.but hb3 (by omega)
 have hQ3:=hQ2.but hb3 (by omega)
 have hlt2:=hb2w.size
 have hD:WyDrawn w w3 a g c mm s:=⟨hsn.mono (by omega),hsm,hsA,hsL,by omega,But.below hb2w hb3 (by omega)⟩
 obtain ⟨hF,e1,e2,e3⟩:=wx_store hR3 hQ3 hD
 have R6:=hR3.c
 have R6f:=hR3.fz
 have Q60:=hQ3.c0
 have Q61:=hQ3.c1
 have Q6f:=hQ3.fz
 have nRQ:w.heap.size≠w.heap.size+1:=by omega
 clear hR2 hQ2 hr2 hr3 hsn hsA hD
 go_wp2_with fail
 exact bodyPost_ret (v:=.tuple #[.agg #[.slice a mm.length c],.agg #[.slice s.a1 s.l1.length s.c1,.slice s.a2 s.l2.length s.c2]]) (by simp [results,Tryz.results20,go_sem,e1,e2,e3]) rfl ⟨a,g,c,mm,s,rfl,hF⟩
end
end Go.Proofs.YtegommoflmmahaaGreat
