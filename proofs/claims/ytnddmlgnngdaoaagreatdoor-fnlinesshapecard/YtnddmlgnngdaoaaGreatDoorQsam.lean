/- More on rows of the call's own, and boxes of one cell. No condition. And what goes with it: RowMore, NlO, MathN, ApRow, SnOk, TsTs, Mark, TsLm, Front0. -/
import Derived.Deep.Slices
import Derived.Laws.AppendOwnNone
import Derived.Lib.AppendZerosOnto
import Derived.ProofKit
import Derived.Deep.OwnRows
import Derived.Test.YtnddmlgnngdaoaaGreatDoorRows
import Derived.Test.YtnddmlgnngdaoaaGreatDoorQsal
namespace Go.Proofs.YtnddmlgnngdaoaaGreatDoor
section
open Go.RowKit
theorem Slot1.apart {w w':World} {b:Nat} {x:Value} {row:Option Nat} (h:Slot1 w b x) (hg:w.grownBy w' row) (hr:row≠some b):Slot1 w' b x:=by
 have hne:some b≠row:=fun e=>hr e.symm
 exact ⟨hg.cell h.c hne,(World.frozen?_of_block (w:=w) (hg.block b h.lt hne)).trans h.fz⟩
end
section
open Go.RowKit
theorem nums_cells {w:World} {b o:Nat} {l:List Int} {sa:Option Addr} (h:IntS w sa b o l):∀ (j:Nat) (u:Value),(nums l)[j]?=some u→w.cell? ((⟨b,o,none⟩:Addr).add j)=some u:=by
 intro j u hj
 have hjl:j < l.length:=by
  have:=(List.getElem?_eq_some_iff.1 hj).1
  simpa [nums] using this
 rw [Go.WideShapes.add_plain,h.row j hjl]
 simpa [nums,hjl] using hj
theorem nums_one (l:List Int):∀ u∈nums l,u.oneCell'=true:=by intro u hu;simp [nums] at hu;obtain ⟨_,_,rfl⟩:=hu;rfl
set_option maxHeartbeats 1000000 in
set_option maxRecDepth 100000 in
theorem newListO_any (a:Option Addr) (b o c:Nat) (l:List Int) (w:World) (hl:l.length≤1048576) (h:IntS w a b o l) :
  Calls Tryz.prog 77 #[.slice a l.length c] w fun e w'=>∃ v,e=.returned v∧w'.ownsRow w.heap.size 3 1 v l.length (nums l)∧Below w.heap.size w w':=by
 obtain ⟨i0,hi,hz0,hz1,hz2⟩:=info_parts Tryz.infoInt
 rcases Nat.eq_zero_or_pos l.length with h0 | hpos
 ·have hl0:l=[]:=List.length_eq_zero_iff.1 h0
  subst hl0
  rw [List.length_nil]
  go_enter Tryz.func77,Tryz.ntmps77
  go_wp2_with (at_builtin;refine wpList_append_nilT rfl (.const (.slice none 0 0)) (.tmp 3) 31 rfl 3 i0 Tryz.underlying31 hi rfl a c rfl ?_)
  go_wp2_with fail
  go_ret
  exact ⟨_,rfl,World.ownsRow_nil _ _ _ _,Below.refl _ _⟩
 ·obtain ⟨rfl⟩:=h.addr hpos
  go_enter Tryz.func77,Tryz.ntmps77
  go_wp2_with (at_builtin;refine wpList_append_lies _ rfl (.const (.slice none 0 0)) (.tmp 3) 31 rfl w.heap.size 3 i0 _ 1 8 Tryz.underlying31 hi hz0 hz1 hz2 rfl (by decide) _ 0 [] rfl (World.ownsRow_nil _ _ _ _) ⟨b,o,none⟩ l.length c (nums l) rfl (by simp [nums]) (nums_cells h) (nums_one l) hpos (by unfold maxLen;omega) (by omega) (Nat.le_refl _) w.heap.size rfl ?_)
  intro g cap w1 hown hg hat hlt
  have hb:Below w.heap.size w w1:=⟨hg.os,hg.tape,hg.output,hg.size,fun k hk=>hg.block k hk (fun e=>by simp [Value.ownBlock] at e)⟩
  have hown':w1.ownsRow w.heap.size 3 1 (.slice (some ⟨g,0,none⟩) l.length cap) l.length (nums l):=by simpa using hown
  go_wp2_with fail
  go_ret
  exact ⟨_,by first | rfl | simp,hown',hb⟩
end
section
open Go.RowKit
def M.tot (f:Int→Bool):List (List M.D)→Nat
 | []=>0
 | t::l=>M.cnt f t+M.tot f l
def M.nreads (ll:List (List M.D)):Int:=if M.prog ll then (M.tot M.reads ll:Int) else -1
theorem M.from_le {ll:List (List M.D)}:∀ {a u:Nat},M.progFrom a u ll=true→∀ t∈ll,t.length≤7:=by
 induction ll with
 | nil=>intro a u _ t ht;simp at ht
 | cons t l ih =>
  intro a u h t' ht'
  by_cases hb:M.thread t=true
  ·simp only [M.progFrom,hb,if_true] at h
   rcases List.mem_cons.1 ht' with rfl | hm
   ·exact M.thread_le hb
   ·exact ih h t' hm
  ·simp [M.progFrom,hb] at h
theorem M.prog_le {ll:List (List M.D)} (h:M.prog ll=true):ll.length≤3∧∀ t∈ll,t.length≤7:=by
 simp only [M.prog,Bool.and_eq_true,decide_eq_true_eq] at h
 exact ⟨h.1,M.from_le h.2⟩
theorem M.nreads_ok {ll:List (List M.D)} (h:M.prog ll=true):M.nreads ll=M.tot M.reads ll:=by simp [M.nreads,h]
end
section
open Go.RowKit
theorem grownBy_refl (w:World) (row:Option Nat):w.grownBy w row:=⟨rfl,rfl,rfl,Nat.le_refl _,fun _ _ _=>rfl⟩
end
section
open Go.RowKit
namespace M
def seenOk (ll:List (List D)) (l1 l2:List Int):Bool:=decide ((l1.length:Int)=nreads ll)&&(decide (l2.length=3)&&(vals l1&&vals l2))
end M
end
section
open Go.RowKit
structure TsAns (w w':World) (v1 v2:Value) (r1 r2:List Int):Prop where
 o1:w'.ownsRow w.heap.size 3 1 v1 r1.length (nums r1)
 o2:w'.ownsRow w.heap.size 3 1 v2 r2.length (nums r2)
 ap:∀ k,v1.ownBlock=some k→v2.ownBlock≠some k
 bel:Below w.heap.size w w'
end
section
open Go.RowKit
namespace M
def seq (k:Int) (n:Nat):List Int:=(List.range n).map fun (i:Nat)=>k+(i:Int)
end M
end
section
open Go.RowKit
theorem cb {W W':World} {p:Addr} {v:Value} (hb:Below W.heap.size W W') (h:W.cell? p=some v):W'.cell? p=some v:=(hb.cell (p:=p) (World.block_lt_of_cell? _ _ h)).trans h
end
section
open Go.ChangeShapes Go.WideShapes Go.ChangeAt Go.RowKit Go.Deep
theorem Tryz.own:ownKnob Tryz.prog.godebug=none:=by kernel_rfl
theorem Tryz.laidOut:laidOutB Tryz.prog=true:=by kernel_rfl
end
end Go.Proofs.YtnddmlgnngdaoaaGreatDoor
