/- impl's countKinds over usesPlace. Of threads of at most 1048576 steps. A region that draws its order, whose operations only read and whose callees turn nothing old: walked once, in the order of the text (the kit's theorem, at the class of worlds in which all that lay in W lies unturned). No condition. What it is that of what was there only one block has turned. No condition. -/
import Derived.Deep.QuietTactic
import Derived.Test.YtegommoflmmahaaGreatRows
import Derived.Test.YtegommoflmmahaaGreatQuad
namespace Go.Proofs.YtegommoflmmahaaGreat
section
open Go.RowKit
theorem M.cnt_step {f:Int→Bool} {l:List M.D} {m n:Nat} {d:M.D} (hp:M.cnt f l=m+M.cnt f (l.drop n)) (hd:l.drop n=d::l.drop (n+1)) {m':Nat} (hm:m'=m+if f d.k then 1 else 0):M.cnt f l=m'+M.cnt f (l.drop (n+1)):=by
 subst hm;rw [hp,hd,M.cnt_cons];omega
theorem M.cnt_fin {f:Int→Bool} {l:List M.D} {m n:Nat} (hp:M.cnt f l=m+M.cnt f (l.drop n)) (hn:l.length≤n):m=M.cnt f l:=by
 rw [hp,List.drop_eq_nil_of_le hn];rfl
theorem ret_int {k:IntKind} {a b:Int} (h:a=b):Ending.returned (.int k a)=.returned (.int k b):=by rw [h]
set_option maxHeartbeats 400000 in
theorem cntUses_any (a:Option Addr) (b o c:Nat) (l:List M.D) (w:World) (hl:l.length≤1048576) (h:DoS w a b o l) :
  Calls Tryz.prog 112 #[.slice a l.length c,.func (.func 113) #[] #[]] w fun e w'=>e=.returned (.int .i64 (M.cnt M.uses l))∧Below w.heap.size w w':=by
 go_enter Tryz.func112,Tryz.ntmps112
 go_wp2_with fail
 go_loopw [5,10] (fun s5 s10 wr=>∃ m n:Nat,s5=.int .i64 m∧s10=.int .i64 n∧n≤l.length∧m≤n∧M.cnt M.uses l=m+M.cnt M.uses (l.drop n)∧Below w.heap.size w wr) (fun _ s10 _=>l.length - (intOf s10).toNat)
 case atStart=>exact ⟨0,0,rfl,rfl,Nat.zero_le _,Nat.le_refl _,by simp,Below.refl _ _⟩
 case round =>
  obtain ⟨m,n,rfl,rfl,hn,hmn,hpass,hbel⟩:=hrel
  have HP:Hid (M.cnt M.uses l=m+M.cnt M.uses (l.drop n)):=hpass
  clear hpass
  by_cases hlt:n < l.length
  ·obtain ⟨rfl⟩:=h.addr (by omega)
   have hd:=(h.row n hlt).below hbel (Nat.le_refl _)
   have HD:Hid (l.drop n=l[n]::l.drop (n+1)):=M.drop_at l n hlt
   generalize l[n]=d at hd HD
   obtain ⟨k,p,v⟩:=d
   obtain ⟨ck,cp,cv⟩:=hd
   cases hu:M.uses k
   ·go_wp2_with (go_at_call 113;refine (uses_any _ _).mono ?_;rintro e w1 ⟨rfl,rfl⟩)
    exact ⟨⟨m,n+1,rfl,by go_num,by omega,by omega,M.cnt_step HP.out HD.out (by simp [hu]),hbel.alloc hbel.size _⟩,by simp [intOf];omega⟩
   ·go_wp2_with (go_at_call 113;refine (uses_any _ _).mono ?_;rintro e w1 ⟨rfl,rfl⟩)
    exact ⟨⟨m+1,n+1,by go_num,by go_num,by omega,by omega,M.cnt_step HP.out HD.out (by simp [hu]),hbel.alloc hbel.size _⟩,by simp [intOf];omega⟩
  ·go_wp2_with fail
   go_ret
   exact ⟨ret_int (by rw [M.cnt_fin HP.out (by omega)]),hbel⟩
end
section
open Go.RowKit
structure BelowOf (W:World) where
 x:World
 h:Below W.heap.size W x
def belOf (W:World):BelowOf W:=⟨W,Below.refl _ _⟩
theorem wp_region_quiet_bel {P:Program} {id:Nat} {Q:Exit→Act→World→Prop} {a:Act} {w:World} {l:List Oper} (hm:P.follows .mixedOrders=true) (hB:Region.lexB .any l.toArray=true)
  (h:wpQuiet P l.toArray (fun w'=>∃ p:BelowOf w,w'=p.x) (fun a'=>∀ w',(∃ p:BelowOf w,w'=p.x)→Q .normal a' w') l a):(Code.region id l.toArray true).wp P Q a w :=
 wp_region_quiet (C:=fun w'=>∃ p:BelowOf w,w'=p.x) hm hB ⟨⟨w.drew,(Below.refl _ _).drew⟩,rfl⟩ (by simpa using h)
theorem BelowOf.cell {W:World} {b o:Nat} {v:Value} (h:W.cell? ⟨b,o,none⟩=some v):∀ p:BelowOf W,p.x.cell? ⟨b,o,none⟩=some v:=fun p =>
 (p.h.cell (p:=⟨b,o,none⟩) (World.block_lt_of_cell? _ _ h)).trans h
theorem Calls.bel_of {P:Program} {f:FuncId} {args:Array Value} {W:World} {p:BelowOf W} {v:Value} (h:Calls P f args p.x fun e w'=>e=.returned v∧Below p.x.heap.size p.x w') :
  Calls P f args p.x fun e w''=>e=.returned v∧∃ p':BelowOf W,w''=p'.x :=
 h.mono fun _ w' ⟨he,hb⟩=>⟨he,⟨w',p.h.trans (hb.mono p.h.size)⟩,rfl⟩
theorem Calls.bel_of_same {P:Program} {f:FuncId} {args:Array Value} {W:World} {p:BelowOf W} {v:Value} (h:Calls P f args p.x fun e w'=>e=.returned v∧w'=p.x) :
  Calls P f args p.x fun e w''=>e=.returned v∧∃ p':BelowOf W,w''=p'.x :=
 h.mono fun _ _ ⟨he,hb⟩=>⟨he,p,hb⟩
end
section
open Go.RowKit
structure But (rb:Nat) (w w':World):Prop where
 os:w'.os=w.os
 tape:w'.tape=w.tape
 output:w'.output=w.output
 size:w.heap.size≤w'.heap.size
 block:∀ k,k < w.heap.size→k≠rb→w'.heap[k]?=w.heap[k]?
theorem But.refl (rb:Nat) (w:World):But rb w w:=⟨rfl,rfl,rfl,Nat.le_refl _,fun _ _ _=>rfl⟩
theorem But.trans {rb:Nat} {a b c:World} (h:But rb a b) (k:But rb b c):But rb a c :=
 ⟨k.os.trans h.os,k.tape.trans h.tape,k.output.trans h.output,Nat.le_trans h.size k.size,fun i hi hne=>(k.block i (Nat.lt_of_lt_of_le hi h.size) hne).trans (h.block i hi hne)⟩
theorem But.of {rb:Nat} {w w':World} (h:Below w.heap.size w w'):But rb w w':=⟨h.os,h.tape,h.output,h.size,fun k hk _=>h.block k hk⟩
theorem But.alloc {rb:Nat} {a w:World} (h:But rb a w) (o:Obj):But rb a (w.alloc o):=h.trans (But.of (below1 w o))
theorem But.setCell {rb:Nat} {a w:World} (h:But rb a w) {p:Addr} (hp:a.heap.size≤p.block∨p.block=rb) (u:Value):But rb a (w.setCell p u) :=
 ⟨h.os,h.tape,h.output,by rw [show (w.setCell p u).heap.size=w.heap.size from by simp [World.setCell]];exact h.size,fun k hk hne=>(Below.heap_setCell _ _ _ _ (by rcases hp with hp | hp<;>omega)).trans (h.block k hk hne)⟩
theorem But.cell {rb:Nat} {w w':World} (h:But rb w w') {p:Addr} (hp:p.block < w.heap.size) (hne:p.block≠rb):w'.cell? p=w.cell? p:=World.cell?_of_block (w:=w) (h.block p.block hp hne)
end
end Go.Proofs.YtegommoflmmahaaGreat
