/- The plain mathematics of putting in order: each once, in order, and nothing else: there is one such list. No condition. And what goes with it: SoMath, SoMem, SoCo, SoIn. -/
import Derived.Deep.Slices
import Derived.Laws.AppendOwnNone
import Derived.Shelf.SlSortCmp.NoneTotal
import Derived.Test.YtegommoflmmahaaGreatRows
import Derived.Test.YtegommoflmmahaaGreatQuat
import Derived.Test.YtegommoflmmahaaGreatQuaz
namespace Go.Proofs.YtegommoflmmahaaGreat
section
namespace M
theorem cmpK_neg (a b:Ky):cmpK b a=- cmpK a b:=cmpS_neg _ _ _ _
theorem cmpK_trans {a b c:Ky} (h:cmpK a b < 0) (k:cmpK b c < 0):cmpK a c < 0:=cmpS_trans h k
def Asc (l:List Ky):Prop:=l.Pairwise fun a b=>cmpK a b < 0
theorem asc_putIn {l:List Ky} (h:Asc l) (k:Ky):Asc (putIn l k):=by
 induction l with
 | nil=>simp [putIn,Asc]
 | cons y l ih =>
  have h':=List.pairwise_cons.1 h
  rw [putIn]
  by_cases h0:cmpK y k=0
  ·rw [if_pos h0];exact h
  ·rw [if_neg h0]
   by_cases h1:0 < cmpK y k
   ·rw [if_pos h1]
    refine List.pairwise_cons.2 ⟨fun z hz=>?_,h⟩
    have hky:cmpK k y < 0:=by have:=cmpK_neg y k;omega
    rcases List.mem_cons.1 hz with e | hz
    ·rw [e];exact hky
    ·exact cmpK_trans hky (h'.1 z hz)
   ·rw [if_neg h1]
    refine List.pairwise_cons.2 ⟨fun z hz=>?_,ih h'.2⟩
    rcases (mem_putIn l k z).1 hz with e | hz
    ·rw [e];omega
    ·exact h'.1 z hz
theorem foldl_asc (l:List Ky):∀ (a:List Ky),Asc a→Asc (l.foldl putIn a):=by
 induction l with
 | nil=>intro a h;exact h
 | cons y l ih=>intro a h;exact ih _ (asc_putIn h y)
end M
end
section
open Go.RowKit
def Sn.ky (s:Sn):Ky:=(s.l1,s.l2)
structure SR (W:World) (g:Nat) (ss:List Sn):Prop where
 c:∀ i (h:i < ss.length),W.cell? ⟨g,i * 2,none⟩=some (.slice ss[i].a1 ss[i].l1.length ss[i].c1)∧W.cell? ⟨g,i * 2+1,none⟩=some (.slice ss[i].a2 ss[i].l2.length ss[i].c2)
 fz:∀ j,W.frozen? ⟨g,j,none⟩=false
theorem SR.below {W W':World} {g:Nat} {ss:List Sn} (h:SR W g ss) (hb:Below W.heap.size W W') (hl:g < W.heap.size):SR W' g ss :=
 ⟨fun i hi=>⟨(hb.cell (p:=⟨g,i * 2,none⟩) hl).trans (h.c i hi).1,(hb.cell (p:=⟨g,i * 2+1,none⟩) hl).trans (h.c i hi).2⟩,fun j=>(hb.frozen (p:=⟨g,j,none⟩) hl).trans (h.fz j)⟩
end
section
open Go.RowKit
theorem calls_bel {P:Program} {f:FuncId} {args:Array Value} {W:World} {v:Value} (h:Calls P f args W fun e w'=>e=.returned v∧Grown W w'):Calls P f args W fun e w'=>e=.returned v∧Below W.heap.size W w':=h.mono fun _ _ ⟨he,hg⟩=>⟨he,hg.bel⟩
def kys (ss:List Sn):List Ky:=ss.map Sn.ky
theorem Tryz.infoSeen:(Tryz.prog.info? 28).map (fun i=>(i.zero,i.size,i.bytes))=some (some (.agg #[.slice none 0 0,.slice none 0 0]),2,48):=by kernel_rfl
theorem kys_len (ss:List Sn):(kys ss).length=ss.length:=by simp [kys]
theorem kys_get (ss:List Sn) {n:Nat} (h:n < ss.length) (h':n < (kys ss).length):(kys ss)[n]=ss[n].ky:=by simp [kys]
namespace M
end M
end
section
open Go.RowKit
def flatS:List Sn→List Value
 | []=>[]
 | s::l=>.slice s.a1 s.l1.length s.c1::.slice s.a2 s.l2.length s.c2::flatS l
theorem flatS_append (l m:List Sn):flatS (l++m)=flatS l++flatS m:=by
 induction l with
 | nil=>rfl
 | cons s l ih=>simp [flatS,ih]
theorem flatS_get (l:List Sn):∀ i (h:i < l.length),(flatS l)[i * 2]?=some (.slice l[i].a1 l[i].l1.length l[i].c1)∧(flatS l)[i * 2+1]?=some (.slice l[i].a2 l[i].l2.length l[i].c2):=by
 induction l with
 | nil=>intro i h;exact absurd h (Nat.not_lt_zero _)
 | cons s l ih =>
  intro i h
  cases i with
  | zero=>exact ⟨rfl,rfl⟩
  | succ i =>
   obtain ⟨h0,h1⟩:=ih i (by simpa using h)
   have e:(i+1) * 2=i * 2+2:=by omega
   rw [e]
   exact ⟨by simpa [flatS] using h0,by simpa [flatS] using h1⟩
end
end Go.Proofs.YtegommoflmmahaaGreat
