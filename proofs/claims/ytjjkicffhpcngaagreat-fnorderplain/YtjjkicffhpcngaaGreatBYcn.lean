/- spec.DrawTurnPlain: a drawn program. Of codes of at most 1048576 bytes. -/
import Derived.BigQuiet
import Derived.Deep.AppendLies
import Derived.Deep.QuietTactic
import Derived.Deep.RegionHeld3
import Derived.Deep.RegionLaw
import Derived.Deep.RegionWith
import Derived.Laws.AppendOwn
import Derived.Laws.AppendOwnNone
import Derived.Shelf.Abstract
import Derived.Sort.Grow
import Derived.WalkKit
import Derived.WalkLawsBesides
import Derived.WalkSpells
import Derived.Test.YtjjkicffhpcngaaGreatRows
import Derived.Test.YtjjkicffhpcngaaGreatBYal
namespace Go.Proofs.YtjjkicffhpcngaaGreat
open Go.RowKit
set_option maxHeartbeats 1000000 in
set_option maxRecDepth 100000 in
theorem DrawTurnPlain_any (ca:Option Addr) (cb co L C:Nat) (x:Nat→Int) (w:World) (hL:L≤C) (had:0 < L→ca=some ⟨cb,co,none⟩) (hc:∀ i,i < L→w.cell? ⟨cb,co+i,none⟩=some (.int .u8 (x i))∧0≤x i∧x i≤255) (hLb:L≤1048576) :
  Calls Tryz.prog 23 #[.slice ca L C] w fun e w'=>∃ (a:Option Addr) (g c:Nat) (mm:List (List M.D)),e=.returned (.agg #[.slice a mm.length c])∧DoSN (w.heap.size+1) w' a g 0 mm∧Small mm c∧Below w.heap.size w w':=by
 go_enter Tryz.func23,Tryz.ntmps23
 go_wp2_with fail
 have hb0:=below1 w (.cells #[.slice none 0 0] 25)
 refine (l6Open_any ca cb co L C x _ hL had (fun i hi=>⟨by rw [hb0.cell (p:=⟨cb,co+i,none⟩) (World.block_lt_of_cell? _ _ (hc i hi).1)];exact (hc i hi).1,(hc i hi).2⟩) hLb).mono ?_
 rintro e w1 ⟨rfl,hr1,hb1⟩
 simp only [World.size_alloc] at hr1 hb1 ⊢
 have hb1w:Below w.heap.size w w1:=hb0.trans (hb1.mono (by omega))
 have hS1:=(Slot1.new w (.slice none 0 0) 25).but (But.of (rb:=w.heap.size+1) (by simpa only [World.size_alloc] using hb1)) (by omega)
 have hlt1:=hr1.lt
 clear hc had hb0 hb1
 go_wp2_with fail
 refine (l71Any_any _ (w.heap.size+1) 0 _ (by omega) hr1).mono ?_
 rintro e w2 ⟨a,g,c,mm,rfl,hsn,hsm,p2,hp2,hr2,hb2⟩
 have hS2:=hS1.but hb2 (by omega)
 have s0:=hS2.c
 have sf:=hS2.fz
 have hsl:=hS2.lt
 have hbw:Below w.heap.size w w2:=But.below hb1w hb2 (by omega)
 go_wp2_with fail
 have s4:=(hS2.set (.slice a mm.length c)).c
 refine bodyPost_ret (v:=.agg #[.slice a mm.length c]) (by simp [results,Tryz.results23,go_sem,s4]) rfl ⟨a,g,c,mm,rfl,(hsn.far (by omega)).mono (by omega),hsm,hbw.setCell (Nat.le_refl _) _⟩
end Go.Proofs.YtjjkicffhpcngaaGreat
