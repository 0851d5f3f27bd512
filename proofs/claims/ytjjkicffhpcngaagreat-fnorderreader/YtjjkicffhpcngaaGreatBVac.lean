/- The walks of the leaves of chapter 1: what each small test of a step's kind, place and value answers. No condition. And what goes with it: Leaf, Mem, But, QuietB. -/
import Derived.Deep.Quiet
import Derived.Deep.QuietTactic
import Derived.WalkKit
import Derived.WalkLawsBesides
import Derived.WalkSpells
import Derived.Test.YtjjkicffhpcngaaGreatRows
import Derived.Test.YtjjkicffhpcngaaGreatBVab
namespace Go.Proofs.YtjjkicffhpcngaaGreat
open Go.RowKit
theorem reads_any (k:Int) (w:World) :
  Calls Tryz.prog 71 #[.int .i64 k] w fun e w'=>e=.returned (.bool (M.reads k))∧w'=w:=by
 by_cases h2:k=2
 ·subst h2
  go_enter Tryz.func71,Tryz.ntmps71
  go_wp2
  go_ret
  exact ⟨ret_bool (by simp [M.reads]),rfl⟩
 ·have h2':(k==2)=false:=by simpa using h2
  go_enter Tryz.func71,Tryz.ntmps71
  go_wp2
  go_ret
  exact ⟨ret_bool (by simp [M.reads,h2']),rfl⟩
theorem stores_any (k:Int) (w:World) :
  Calls Tryz.prog 148 #[.int .i64 k] w fun e w'=>e=.returned (.bool (M.stores k))∧w'=w:=by
 by_cases h1:k=1
 ·subst h1
  go_enter Tryz.func148,Tryz.ntmps148
  go_wp2
  go_ret
  exact ⟨ret_bool (by simp [M.stores]),rfl⟩
 ·have h1':(k==1)=false:=by simpa using h1
  go_enter Tryz.func148,Tryz.ntmps148
  go_wp2
  go_ret
  exact ⟨ret_bool (by simp [M.stores,h1']),rfl⟩
theorem writes_any (k:Int) (w:World) :
  Calls Tryz.prog 115 #[.int .i64 k] w fun e w'=>e=.returned (.bool (M.writes k))∧w'=w:=by
 cases hs:M.stores k
 all_goals
  go_enter Tryz.func115,Tryz.ntmps115
  go_wp2_with (go_at_call 148;refine (stores_any _ _).mono ?_;rintro e w' ⟨rfl,rfl⟩)
  go_ret
  exact ⟨ret_bool (by simp [M.writes,hs]),rfl⟩
theorem uses_any (k:Int) (w:World) :
  Calls Tryz.prog 70 #[.int .i64 k] w fun e w'=>e=.returned (.bool (M.uses k))∧w'=w:=by
 cases hs:M.reads k
 all_goals
  go_enter Tryz.func70,Tryz.ntmps70
  go_wp2_with (first | (go_at_call 71;refine (reads_any _ _).mono ?_;rintro e w' ⟨rfl,rfl⟩) | (go_at_call 115;refine (writes_any _ _).mono ?_;rintro e w' ⟨rfl,rfl⟩))
  go_ret
  exact ⟨ret_bool (by simp [M.uses,hs]),rfl⟩
theorem placeOk_any (k p:Int) (w:World) :
  Calls Tryz.prog 146 #[.int .i64 k,.int .i64 p] w fun e w'=>e=.returned (.bool (M.placeOk k p))∧w'=w:=by
 cases hs:M.uses k
 ·go_enter Tryz.func146,Tryz.ntmps146
  go_wp2_with (go_at_call 70;refine (uses_any _ _).mono ?_;rintro e w' ⟨rfl,rfl⟩)
  go_ret
  exact ⟨ret_bool (by simp [M.placeOk,hs]),rfl⟩
 ·by_cases hp:0≤p
  ·go_enter Tryz.func146,Tryz.ntmps146
   go_wp2_with (go_at_call 70;refine (uses_any _ _).mono ?_;rintro e w' ⟨rfl,rfl⟩)
   go_ret
   exact ⟨ret_bool (by simp [M.placeOk,hs,hp]),rfl⟩
  ·have hp':decide (0≤p)=false:=by simpa using hp
   go_enter Tryz.func146,Tryz.ntmps146
   go_wp2_with (go_at_call 70;refine (uses_any _ _).mono ?_;rintro e w' ⟨rfl,rfl⟩)
   go_ret
   exact ⟨ret_bool (by simp [M.placeOk,hs];omega),rfl⟩
theorem valOk_any (k v:Int) (w:World) :
  Calls Tryz.prog 147 #[.int .i64 k,.int .i64 v] w fun e w'=>e=.returned (.bool (M.valOk k v))∧w'=w:=by
 cases hs:M.stores k
 ·go_enter Tryz.func147,Tryz.ntmps147
  go_wp2_with (go_at_call 148;refine (stores_any _ _).mono ?_;rintro e w' ⟨rfl,rfl⟩)
  go_ret
  exact ⟨ret_bool (by simp [M.valOk,hs]),rfl⟩
 ·by_cases hp:1≤v
  ·go_enter Tryz.func147,Tryz.ntmps147
   go_wp2_with (go_at_call 148;refine (stores_any _ _).mono ?_;rintro e w' ⟨rfl,rfl⟩)
   go_ret
   exact ⟨ret_bool (by simp [M.valOk,hs,hp]),rfl⟩
  ·have hp':decide (1≤v)=false:=by simpa using hp
   go_enter Tryz.func147,Tryz.ntmps147
   go_wp2_with (go_at_call 148;refine (stores_any _ _).mono ?_;rintro e w' ⟨rfl,rfl⟩)
   go_ret
   exact ⟨ret_bool (by simp [M.valOk,hs];omega),rfl⟩
theorem l6In_any (n a b:Int) (w:World) :
  Calls Tryz.prog 83 #[.int .i64 n,.int .i64 a,.int .i64 b] w fun e w'=>e=.returned (.bool (M.rng a b n))∧w'=w:=by
 by_cases hp:a≤n
 ·go_enter Tryz.func83,Tryz.ntmps83
  go_wp2
  go_ret
  exact ⟨ret_bool (by simp [M.rng,hp]),rfl⟩
 ·have hp':decide (a≤n)=false:=by simpa using hp
  go_enter Tryz.func83,Tryz.ntmps83
  go_wp2
  go_ret
  exact ⟨ret_bool (by simp [M.rng,hp']),rfl⟩
theorem l1Reads_any (d:M.D) (w:World) :
  Calls Tryz.prog 56 #[.agg #[.int .i64 d.k,.int .i64 d.p,.int .i64 d.v]] w fun e w'=>e=.returned (.bool (M.reads d.k))∧w'=w.alloc (.cells #[.int .i64 d.k,.int .i64 d.p,.int .i64 d.v] 43):=by
 obtain ⟨k,p,v⟩:=d
 by_cases h2:k=2
 ·subst h2
  go_enter Tryz.func56,Tryz.ntmps56
  go_wp2
  go_ret
  exact ⟨ret_bool (by simp [M.reads]),rfl⟩
 ·have h2':(k==2)=false:=by simpa using h2
  go_enter Tryz.func56,Tryz.ntmps56
  go_wp2
  go_ret
  exact ⟨ret_bool (by simp [M.reads,h2']),rfl⟩
theorem l1Writes_any (d:M.D) (w:World) :
  Calls Tryz.prog 57 #[.agg #[.int .i64 d.k,.int .i64 d.p,.int .i64 d.v]] w fun e w'=>e=.returned (.bool (M.writes d.k))∧w'=w.alloc (.cells #[.int .i64 d.k,.int .i64 d.p,.int .i64 d.v] 43):=by
 obtain ⟨k,p,v⟩:=d
 by_cases h1:k=1
 ·subst h1
  go_enter Tryz.func57,Tryz.ntmps57
  go_wp2
  go_ret
  exact ⟨ret_bool (by simp [M.writes,M.stores]),rfl⟩
 ·have h1':(k==1)=false:=by simpa using h1
  by_cases h3:k=3
  ·subst h3
   go_enter Tryz.func57,Tryz.ntmps57
   go_wp2
   go_ret
   exact ⟨ret_bool (by simp [M.writes,M.stores]),rfl⟩
  ·have h3':(k==3)=false:=by simpa using h3
   go_enter Tryz.func57,Tryz.ntmps57
   go_wp2
   go_ret
   exact ⟨ret_bool (by simp [M.writes,M.stores,h1',h3']),rfl⟩
end Go.Proofs.YtjjkicffhpcngaaGreat
namespace Go.Proofs.YtjjkicffhpcngaaGreat
open Go.RowKit
structure DoAt (w:World) (b o:Nat) (d:M.D):Prop where
 k:w.cell? ⟨b,o,none⟩=some (.int .i64 d.k)
 p:w.cell? ⟨b,o+1,none⟩=some (.int .i64 d.p)
 v:w.cell? ⟨b,o+2,none⟩=some (.int .i64 d.v)
def Row (w:World) (b o:Nat) (l:List M.D):Prop:=∀ i (h:i < l.length),DoAt w b (o+i * 3) l[i]
structure DoS (w:World) (a:Option Addr) (b o:Nat) (l:List M.D):Prop where
 addr:0 < l.length→a=some ⟨b,o,none⟩
 row:Row w b o l
theorem DoAt.lt {w:World} {b o:Nat} {d:M.D} (h:DoAt w b o d):b < w.heap.size:=World.block_lt_of_cell? _ _ h.k
theorem DoAt.below {w w':World} {B b o:Nat} {d:M.D} (h:DoAt w b o d) (hb:Below B w w') (hB:w.heap.size≤B):DoAt w' b o d:=by
 have hl:=h.lt
 exact ⟨by rw [hb.cell (p:=⟨b,o,none⟩) (by show b < B;omega)];exact h.k,by rw [hb.cell (p:=⟨b,o+1,none⟩) (by show b < B;omega)];exact h.p,by rw [hb.cell (p:=⟨b,o+2,none⟩) (by show b < B;omega)];exact h.v⟩
theorem DoS.below {w w':World} {a:Option Addr} {B b o:Nat} {l:List M.D} (h:DoS w a b o l) (hb:Below B w w') (hB:w.heap.size≤B):DoS w' a b o l :=
 ⟨h.addr,fun i hi=>(h.row i hi).below hb hB⟩
end Go.Proofs.YtjjkicffhpcngaaGreat
namespace Go.Proofs.YtjjkicffhpcngaaGreat
open Go.RowKit
structure But (rb:Nat) (w w':World):Prop where
 os:w'.os=w.os
 tape:w'.tape=w.tape
 output:w'.output=w.output
 size:w.heap.size≤w'.heap.size
 block:∀ k,k < w.heap.size→k≠rb→w'.heap[k]?=w.heap[k]?
theorem But.refl (rb:Nat) (w:World):But rb w w:=⟨rfl,rfl,rfl,Nat.le_refl _,fun _ _ _=>rfl⟩
theorem But.trans {rb:Nat} {a b c:World} (h:But rb a b) (k:But rb b c):But rb a c :=
 ⟨k.os.trans h.os,k.tape.trans h.tape,k.output.trans h.output,Nat.le_trans h.size k.size,fun i hi hne=>(k.block i (Nat.lt_of_lt_of_le hi h.size) hne).trans (h.block i hi hne)⟩
theorem But.of {rb:Nat} {w w':World} (h:Below w.heap.size w w'):But rb w w':=⟨h.os,h.tape,h.output,h.size,fun k hk _=>h.block k hk⟩
theorem But.drew {rb:Nat} {a w:World} (h:But rb a w):But rb a w.drew:=⟨h.os,h.tape,h.output,h.size,h.block⟩
theorem But.drewN {rb:Nat} {a w:World} (h:But rb a w):∀ n,But rb a (w.drewN n)
 | 0=>h
 | n+1=>by
  have:=h.drewN n
  exact ⟨this.os,this.tape,this.output,this.size,this.block⟩
theorem But.alloc {rb:Nat} {a w:World} (h:But rb a w) (o:Obj):But rb a (w.alloc o):=h.trans (But.of (below1 w o))
theorem But.setCell {rb:Nat} {a w:World} (h:But rb a w) {p:Addr} (hp:a.heap.size≤p.block∨p.block=rb) (u:Value):But rb a (w.setCell p u) :=
 ⟨h.os,h.tape,h.output,by rw [show (w.setCell p u).heap.size=w.heap.size from by simp [World.setCell]];exact h.size,fun k hk hne=>(Below.heap_setCell _ _ _ _ (by rcases hp with hp | hp<;>omega)).trans (h.block k hk hne)⟩
theorem But.cell {rb:Nat} {w w':World} (h:But rb w w') {p:Addr} (hp:p.block < w.heap.size) (hne:p.block≠rb):w'.cell? p=w.cell? p:=World.cell?_of_block (w:=w) (h.block p.block hp hne)
theorem But.frozen {rb:Nat} {w w':World} (h:But rb w w') {p:Addr} (hp:p.block < w.heap.size) (hne:p.block≠rb):w'.frozen? p=w.frozen? p:=World.frozen?_of_block (w:=w) (h.block p.block hp hne)
theorem But.below {rb:Nat} {w w1 w':World} (h:Below w.heap.size w w1) (k:But rb w1 w') (hr:w.heap.size≤rb):Below w.heap.size w w' :=
 ⟨k.os.trans h.os,k.tape.trans h.tape,k.output.trans h.output,Nat.le_trans h.size k.size,fun i hi=>(k.block i (Nat.lt_of_lt_of_le hi h.size) (by omega)).trans (h.block i hi)⟩
end Go.Proofs.YtjjkicffhpcngaaGreat
namespace Go.Proofs.YtjjkicffhpcngaaGreat
open Go.RowKit
structure BelowOf (W:World) where
 x:World
 h:Below W.heap.size W x
def belOf (W:World):BelowOf W:=⟨W,Below.refl _ _⟩
theorem wp_region_quiet_bel {P:Program} {id:Nat} {Q:Exit→Act→World→Prop} {a:Act} {w:World} {l:List Oper} (hm:P.follows .mixedOrders=true) (hB:Region.lexB .any l.toArray=true)
  (h:wpQuiet P l.toArray (fun w'=>∃ p:BelowOf w,w'=p.x) (fun a'=>∀ w',(∃ p:BelowOf w,w'=p.x)→Q .normal a' w') l a):(Code.region id l.toArray true).wp P Q a w :=
 wp_region_quiet (C:=fun w'=>∃ p:BelowOf w,w'=p.x) hm hB ⟨⟨w.drew,(Below.refl _ _).drew⟩,rfl⟩ (by simpa using h)
theorem BelowOf.cell {W:World} {b o:Nat} {v:Value} (h:W.cell? ⟨b,o,none⟩=some v):∀ p:BelowOf W,p.x.cell? ⟨b,o,none⟩=some v:=fun p =>
 (p.h.cell (p:=⟨b,o,none⟩) (World.block_lt_of_cell? _ _ h)).trans h
theorem Calls.bel_of {P:Program} {f:FuncId} {args:Array Value} {W:World} {p:BelowOf W} {v:Value} (h:Calls P f args p.x fun e w'=>e=.returned v∧Below p.x.heap.size p.x w') :
  Calls P f args p.x fun e w''=>e=.returned v∧∃ p':BelowOf W,w''=p'.x :=
 h.mono fun _ w' ⟨he,hb⟩=>⟨he,⟨w',p.h.trans (hb.mono p.h.size)⟩,rfl⟩
end Go.Proofs.YtjjkicffhpcngaaGreat
