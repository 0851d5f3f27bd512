/- What an argument of a law reads as: a code, bytes in memory. No condition. -/
import Derived.Deep.Slices
import Derived.OpenShut
import Derived.ProofKit
import Derived.Test.YtdningnhbplfiaaGreatRows
namespace Go.Proofs.YtdningnhbplfiaaGreat
section
open Go.ChangeShapes Go.WideShapes Go.ChangeAt Go.RowKit Go.Deep
theorem Tryz.cellsByte:Tryz.prog.cellsOf 5=1:=by kernel_rfl
def Code8 (w:World) (u:Value):Prop:=∃ ca cb co L C,∃ x:Nat→Int,u=.slice ca L C∧L≤C∧(0 < L→ca=some ⟨cb,co,none⟩)∧∀ i,i < L→w.cell? ⟨cb,co+i,none⟩=some (.int .u8 (x i))∧0≤x i∧x i≤255
section
variable {H : Type} {enc : TypeId × Value → H} {w : World} {base : Nat} {spare : Nat → Bool} {held : Bool}
set_option maxRecDepth 100000 in
theorem open_code {fuel:Nat} {u:Value} {x:DataW H × List MemPlace} (h:DataW.trod enc Tryz.prog w base spare held fuel 46 [u]=some x):Code8 w u:=by
 rcases open_ints Tryz.underlying46 Tryz.underlying5 Tryz.cellsByte h with ⟨hcs,_⟩ | ⟨a,len,cap,zs,hcs,_,hl,hm,hmm,_,hel,hwf⟩
 ·simp at hcs
  exact ⟨none,0,0,0,0,fun _=>0,hcs,Nat.le_refl _,fun h=>absurd h (Nat.lt_irrefl _),fun i hi=>absurd hi (Nat.not_lt_zero _)⟩
 ·simp at hcs
  obtain ⟨gb,go,gs⟩:=a
  have hlm:len≤zs.length:=by rw [hmm];split<;>omega
  rcases Nat.eq_zero_or_pos len with h0 | hpos
  ·subst h0
   exact ⟨_,0,0,0,cap,fun _=>0,hcs,Nat.zero_le _,fun h=>absurd h (Nat.lt_irrefl _),fun i hi=>absurd hi (Nat.not_lt_zero _)⟩
  ·have hgs:gs=none:=by simpa [Addr.add] using World.cell?_spot (hel 0 (by omega))
   subst hgs
   refine ⟨_,gb,go,len,cap,fun i=>zs.getD i 0,hcs,hl,fun _=>rfl,fun i hi=>?_⟩
   have h1:=hel i (by omega)
   rw [add_plain] at h1
   have hw:=hwf (zs.getD i 0) (by rw [List.getD_eq_getElem?_getD,List.getElem?_eq_getElem (by omega)];exact List.getElem_mem _)
   exact ⟨h1,bounds_u8 hw⟩
end
end
end Go.Proofs.YtdningnhbplfiaaGreat
