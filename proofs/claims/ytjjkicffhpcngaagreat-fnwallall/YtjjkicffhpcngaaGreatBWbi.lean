/- A list of ways, each in rows of its own: memory. No condition. And what goes with it: RvWl, LpXe, WaAns, HsKa, HsNet, OsOr4, OsOr5, DrKi, DrOa, LpW. -/
import Derived.Shelf.Abstract
import Derived.Maps.OwnIn
import Derived.Deep.QuietTactic
import Derived.BigQuiet
import Derived.Deep.OwnRows
import Derived.Deep.AppendLies
import Derived.Test.YtjjkicffhpcngaaGreatBWba
import Derived.Test.YtjjkicffhpcngaaGreatBWbe
import Derived.Test.YtjjkicffhpcngaaGreatBWbh
namespace Go.Proofs.YtjjkicffhpcngaaGreat
open Go.RowKit
abbrev Y3:=Value × Value × List Value
end Go.Proofs.YtjjkicffhpcngaaGreat
namespace Go.Proofs.YtjjkicffhpcngaaGreat
open Go.RowKit Go.Shelf
structure LW (w:World) (a:Option Addr) (g:Nat) (xs:List M.Wy):Prop where
 addr:0 < xs.length→a=some ⟨g,0,none⟩
 row:∀ i (h:i < xs.length),∃ fa fb fc ra rb rc,w.cell? ⟨g,i * 2,none⟩=some (.slice fa xs[i].1.length fc)∧w.cell? ⟨g,i * 2+1,none⟩=some (.slice ra xs[i].2.length rc)∧IntS w fa fb 0 xs[i].1∧IntSS w ra rb 0 xs[i].2
theorem LW.below {w w':World} {a:Option Addr} {g:Nat} {xs:List M.Wy} (h:LW w a g xs) (hb:Below w.heap.size w w'):LW w' a g xs :=
 ⟨h.addr,fun i hi=>by
  obtain ⟨fa,fb,fc,ra,rb,rc,h1,h2,h3,h4⟩:=h.row i hi
  exact ⟨fa,fb,fc,ra,rb,rc,(hb.cell (p:=⟨g,i * 2,none⟩) (World.block_lt_of_cell? _ _ h1)).trans h1,(hb.cell (p:=⟨g,i * 2+1,none⟩) (World.block_lt_of_cell? _ _ h2)).trans h2,h3.below hb (Nat.le_refl _),h4.below hb (Nat.le_refl _)⟩⟩
end Go.Proofs.YtjjkicffhpcngaaGreat
namespace Go.Proofs.YtjjkicffhpcngaaGreat
open Go.RowKit
theorem M.mem_execAll {ll:List (List M.D)} {x:M.Wy}:x∈M.specAll ll↔M.execOk ll x.1 x.2=true:=by
 unfold M.specAll M.execOk
 cases hp:M.prog ll
 ·simp
 ·rw [if_pos rfl,Bool.true_and]
  exact M.mem_all
structure WyLe (x:M.Wy):Prop where
 a:x.1.length≤1048576
 b:x.2.length≤1048576
 c:∀ r∈x.2,r.length≤1048576
theorem own_two {w:World} {base n:Nat} {e:TypeId} {v:Value} {xs:List Value} (h:w.ownsRow base e 2 v n xs):∃ a g c,v=.slice a n c∧(0 < n→a=some ⟨g,0,none⟩)∧∀ j u,xs[j]?=some u→w.cell? ⟨g,j,none⟩=some u:=by
 rcases h.2 with ⟨hv,hn⟩ | ⟨g,cap,cur,hv,hg,hh,hc,r⟩
 ·have hx:xs=[]:=List.length_eq_zero_iff.1 (by rw [h.1,hn])
  subst hx
  exact ⟨none,0,0,by rw [hv,hn],fun h=>absurd h (by omega),fun j u hj=>(by simp at hj)⟩
 ·refine ⟨_,g,cap,hv,fun _=>rfl,fun j u hj=>?_⟩
  have:=h.cells (g:=g) (by rw [hv];rfl) j u hj
  rwa [Go.WideShapes.add_plain,Nat.zero_add] at this
theorem Xw.lw {W:World} {B:Nat} {fv ov:Value} {x:M.Wy} {cs:List Value} (h:Xw W B fv ov x.1 cs x.2):∃ fa fb fc ra rb rc,fv=.slice fa x.1.length fc∧ov=.slice ra x.2.length rc∧IntS W fa fb 0 x.1∧IntSS W ra rb 0 x.2:=h.reads
theorem RXL.lw {W:World} {base n:Nat} {v:Value} {cs:List Value} {xs:List M.Wy} (h:RXL W base v cs n xs):∃ a g c,v=.slice a xs.length c∧LW W a g xs:=by
 obtain ⟨a,g,c,e1,e2,e3⟩:=own_two h.own
 have hl:=h.len.out
 rw [← hl] at e1 e2
 refine ⟨a,g,c,e1,e2,fun i hi=>?_⟩
 obtain ⟨fv,ov,rc0,c1,c2,hx,_⟩:=h.row i hi
 obtain ⟨fa,fb,fc,ra,rb,rc,f1,f2,f3,f4⟩:=hx.lw
 exact ⟨fa,fb,fc,ra,rb,rc,by rw [← f1];exact e3 _ _ c1,by rw [← f2];exact e3 _ _ c2,f3,f4⟩
theorem SxaAns.lw {w w':World} {ll:List (List M.D)} {v:Value} (h:SxaAns w w' ll v):∃ a g c,v=.slice a (M.specAll ll).length c∧LW w' a g (M.specAll ll):=by
 obtain ⟨cs,n,hw,_⟩:=h.ex
 exact hw.lw
end Go.Proofs.YtjjkicffhpcngaaGreat
namespace Go.Proofs.YtjjkicffhpcngaaGreat
open Go.RowKit
structure NtAt (w:World) (X G n c:Nat) (va:Option Addr) (rb rc:Nat→Nat) (A:Nat→Nat→Bool):Prop where
 box:w.cell? ⟨X,0,none⟩=some (.slice va n c)
 addr:0 < n→va=some ⟨G,0,none⟩
 outer:∀ a,a < n→w.cell? ⟨G,a,none⟩=some (.slice (some ⟨rb a,0,none⟩) n (rc a))
 row:∀ a,a < n→∀ b,b < n→w.cell? ⟨rb a,b,none⟩=some (.bool (A a b))
theorem NtAt.below {w w':World} {X G n c:Nat} {va:Option Addr} {rb rc:Nat→Nat} {A:Nat→Nat→Bool} (h:NtAt w X G n c va rb rc A) (hb:Below w.heap.size w w'):NtAt w' X G n c va rb rc A :=
 ⟨(hb.cell (World.block_lt_of_cell? _ _ h.box)).trans h.box,h.addr,fun a ha=>(hb.cell (World.block_lt_of_cell? _ _ (h.outer a ha))).trans (h.outer a ha),fun a ha b hb'=>(hb.cell (World.block_lt_of_cell? _ _ (h.row a ha b hb'))).trans (h.row a ha b hb')⟩
namespace M
def freeTo (A:Nat→Nat→Bool) (gone:Nat→Bool) (b a:Nat):Bool:=!gone b&&(List.range a).all fun a=>gone a||!A a b
theorem freeTo_all (A:Nat→Nat→Bool) (n:Nat) (gone:Nat→Bool) (b:Nat):freeTo A gone b n=free A n gone b:=rfl
theorem freeTo_succ (A:Nat→Nat→Bool) (gone:Nat→Bool) (b a:Nat):freeTo A gone b (a+1)=(freeTo A gone b a&&(gone a||!A a b)):=by
 unfold freeTo
 rw [List.range_succ,List.all_append,← Bool.and_assoc]
 simp
theorem freeTo_no {A : Nat → Nat → Bool} {gone : Nat → Bool} {b a n : Nat} (h : freeTo A gone b a = false) (ha : a ≤ n) : free A n gone b = false := by
  rw [← freeTo_all]
  induction n with
  | zero => obtain rfl : a = 0 := by omega
            exact h
  | succ n ih =>
    rcases Nat.lt_or_ge n a with h1 | h1
    · obtain rfl : a = n + 1 := by omega
      exact h
    · rw [freeTo_succ, ih h1]; rfl
theorem find_none {A:Nat→Nat→Bool} {n:Nat} {gone:Nat→Bool} (h:∀ j,j < n→free A n gone j=false):(List.range n).find? (free A n gone)=none:=by
 rw [List.find?_eq_none]
 intro x hx
 rw [h x (List.mem_range.1 hx)]
 simp
theorem find_some {A:Nat→Nat→Bool} {n b:Nat} {gone:Nat→Bool} (hb:b < n) (hf:free A n gone b=true) (h:∀ j,j < b→free A n gone j=false):(List.range n).find? (free A n gone)=some b:=by
 rw [List.find?_eq_some_iff_getElem]
 refine ⟨hf,b,by simpa using hb,by simp,fun j hj=>?_⟩
 simp only [List.getElem_range]
 rw [h j hj]
 rfl
end M
set_option maxHeartbeats 4000000 in
set_option maxRecDepth 100000 in
theorem netHolds_any (X G n c:Nat) (va:Option Addr) (rb rc:Nat→Nat) (A:Nat→Nat→Bool) (w:World) (hn:n≤28) (h:NtAt w X G n c va rb rc A) :
  Calls Tryz.prog 88 #[.pointer (some ⟨X,0,none⟩)] w fun e w'=>e=.returned (.bool (M.holdsA A n))∧Below w.heap.size w w':=by
 have hmk:=run_make_row' (P:=Tryz.prog) 124 4 (.bool false) 1 Tryz.underlying124 (by kernel_rfl) rfl .i64 .i64 n (by omega) (by omega)
 have k0:=h.box
 have lX:X < w.heap.size:=World.block_lt_of_cell? _ _ k0
 go_enter Tryz.func88,Tryz.ntmps88
 go_wp2_with fail
 have hrow:=World.rowIs_made w (.bool false) n 4
 have bA:=below1 w (.cells (madeCells #[.bool false] n) 4)
 clear hmk
 generalize w.alloc (.cells (madeCells #[.bool false] n) 4)=WA at *
 obtain ⟨R,hR⟩:∃ R,w.heap.size=R:=⟨_,rfl⟩
 have HR:Hid (w.heap.size=R):=hR
 rw [hR] at hrow lX ⊢
 clear hR k0
 go_loopw [4] (fun s4 wr=>∃ (k:Nat) (gone:Nat→Bool),s4=.int .i64 k∧k≤n∧Hid (M.holdsA A n=M.kahn A n k gone)∧wr.rowIs R 4 n (fun j=>.bool (gone j))∧Below w.heap.size w wr) (fun s4 _=>(intOf s4).toNat)
 case atStart=>exact ⟨n,fun _=>false,rfl,Nat.le_refl _,by show _=_;rfl,hrow,bA⟩
 case round =>
  obtain ⟨k,gone,rfl,hk,HK,hrw,hbel⟩:=hrel
  clear hrow bA
  have hN:=h.below hbel
  have k0:=hN.box
  by_cases hk0:0 < k
  ·have hk0':(0:Int) < k:=by omega
   obtain ⟨rfl⟩:=h.addr (by omega)
   obtain ⟨k',rfl⟩:∃ k',k=k'+1:=⟨k - 1,by omega⟩
   go_wp2_with fail
   go_loopw [5,6] (fun s5 s6 wi=>∃ b:Nat,s6=.int .i64 b∧b≤n∧((s5=.int .i64 (-1)∧∀ j,j < b→M.free A n gone j=false)∨∃ j:Nat,s5=.int .i64 j∧j < n∧Hid ((List.range n).find? (M.free A n gone)=some j))∧wi=wr) (fun _ s6 _=>n - (intOf s6).toNat)
   case atStart=>exact ⟨0,rfl,Nat.zero_le _,.inl ⟨rfl,fun j hj=>absurd hj (Nat.not_lt_zero _)⟩,rfl⟩
   case round =>
    obtain ⟨b,rfl,hb,hor,rfl⟩:=hrel
    rcases hor with ⟨rfl,hno⟩ | ⟨j,rfl,hj,HJ⟩
    ·by_cases hbn:b < n
     ·have hbn':(b:Int) < n:=by omega
      have cb:=hrw.cell hbn
      have HNo:Hid (∀ j,j < b→M.free A n gone j=false):=hno
      clear hno
      go_wp2_with fail
      go_loopw [7,8] (fun s7 s8 wj=>∃ a:Nat,s7=.bool (M.freeTo A gone b a)∧s8=.int .i64 a∧a≤n∧wj=wr) (fun _ s8 _=>n - (intOf s8).toNat)
      case atStart=>exact ⟨0,by simp [M.freeTo],rfl,Nat.zero_le _,rfl⟩
      case round =>
       obtain ⟨a,rfl,rfl,ha,rfl⟩:=hrel
       by_cases han:a < n
       ·have han':(a:Int) < n:=by omega
        cases hfa:M.freeTo A gone b a
        ·-- not free
         have hfr:=M.freeTo_no hfa ha
         clear hfa
         go_wp2_with fail
         exact ⟨⟨b+1,by go_num,by omega,.inl ⟨rfl,fun j hj=>by
          by_cases e:j=b
          ·subst e;exact hfr
          ·exact HNo.out j (by omega)⟩,trivial⟩,by simp [intOf];omega⟩
        ·have HS:Hid (M.freeTo A gone b (a+1)=(gone a||!A a b)):=by show _=_;rw [M.freeTo_succ,hfa,Bool.true_and]
         have ca:=hrw.cell han
         have oa:=hN.outer a han
         have ra:=hN.row a han b hbn
         clear hfa
         cases hga:gone a
         ·rw [hga] at ca
          go_wp2_with fail
          exact ⟨⟨a+1,by rw [HS.out,hga];simp,by go_num,by omega,trivial⟩,by simp [intOf];omega⟩
         ·rw [hga] at ca
          go_wp2_with fail
          exact ⟨⟨a+1,by rw [HS.out,hga];simp,by go_num,by omega,trivial⟩,by simp [intOf];omega⟩
       ·obtain rfl:a=n:=by omega
        have han':¬ ((a:Nat):Int) < a:=by omega
        rw [M.freeTo_all]
        cases hfr:M.free A a gone b
        ·go_wp2_with fail
         exact ⟨⟨b+1,by go_num,by omega,.inl ⟨rfl,fun j hj=>by
          by_cases e:j=b
          ·subst e;exact hfr
          ·exact HNo.out j (by omega)⟩,trivial⟩,by simp [intOf];omega⟩
        ·have HJ:Hid ((List.range a).find? (M.free A a gone)=some b):=M.find_some hbn hfr HNo.out
         clear hfr
         go_wp2_with fail
         exact ⟨⟨b+1,by go_num,by omega,.inr ⟨b,rfl,hbn,HJ⟩,trivial⟩,by simp [intOf];omega⟩
     ·obtain rfl:b=n:=by omega
      have HF:Hid (M.holdsA A b=false):=by show _=_;rw [HK.out,M.kahn,M.find_none hno]
      have hbn':¬ ((b:Nat):Int) < b:=by omega
      clear hno
      go_wp2_with fail
      go_ret
      exact ⟨ret_bool HF.out.symm,hbel⟩
    ·have HK2:Hid (M.holdsA A n=M.kahn A n k' (fun x=>gone x||x==j)):=by show _=_;rw [HK.out,M.kahn,HJ.out]
     have hj0:¬ (j:Int) < 0:=by omega
     have hj0':decide ((j:Int) < 0)=false:=by simp
     have hjn:(j:Int) < n:=by omega
     have cj:=hrw.cell hj
     have fj:=hrw.frozen j
     have hrw2:(wr.setCell ⟨R,j,none⟩ (.bool true)).rowIs R 4 n (fun x=>.bool (gone x||x==j)):=(hrw.set j (.bool true)).congr (fun i _=>by
      by_cases e:i=j
      ·subst e;simp
      ·have e':(i==j)=false:=by simpa using e
       rw [if_neg e,e',Bool.or_false])
     have hb2:Below w.heap.size w (wr.setCell ⟨R,j,none⟩ (.bool true)):=hbel.setCell (by show w.heap.size≤R;rw [HR.out];exact Nat.le_refl _) _
     clear HJ HK
     by_cases hbn:b < n
     ·have hbn':(b:Int) < n:=by omega
      go_wp2_with fail
      exact ⟨⟨k',fun x=>gone x||x==j,by go_num,by omega,HK2,hrw2,hb2⟩,by simp [intOf]⟩
     ·have hbn':¬ (b:Int) < n:=by omega
      have hbn2:decide ((b:Int) < n)=false:=by simpa using hbn'
      go_wp2_with fail
      exact ⟨⟨k',fun x=>gone x||x==j,by go_num,by omega,HK2,hrw2,hb2⟩,by simp [intOf]⟩
  ·obtain rfl:k=0:=by omega
   have HF:Hid (M.holdsA A n=true):=by show _=_;rw [HK.out];rfl
   go_wp2_with fail
   go_ret
   exact ⟨ret_bool HF.out.symm,hbel⟩
end Go.Proofs.YtjjkicffhpcngaaGreat
namespace Go.Proofs.YtjjkicffhpcngaaGreat
open Go.RowKit
theorem Tryz.infoRb:(Tryz.prog.info? 124).map (fun i=>(i.zero,i.size,i.bytes))=some (some (.slice none 0 0),1,24):=by kernel_rfl
theorem own_apart2 {w:World} {B B':Nat} {e e':TypeId} {size size':Nat} {v v':Value} {n n':Nat} {xs xs':List Value} (h:w.ownsRow B e size v n xs) (h':w.ownsRow B' e' size' v' n' xs') (he:e≠e'):v.ownBlock=none∨v.ownBlock≠v'.ownBlock:=by
 rcases h.2 with ⟨hv,_⟩ | ⟨g,cap,cur,hv,_,hh,_⟩
 ·exact Or.inl (by rw [hv];rfl)
 ·right
  rcases h'.2 with ⟨hv',_⟩ | ⟨g',cap',cur',hv',_,hh',_⟩
  ·rw [hv,hv'];simp [Value.ownBlock]
  ·rw [hv,hv']
   intro e2
   simp [Value.ownBlock] at e2
   rw [e2] at hh
   rw [hh] at hh'
   simp at hh'
   exact he hh'.2
theorem own_far2 {w:World} {B:Nat} {e:TypeId} {size:Nat} {v:Value} {n:Nat} {xs:List Value} (ho:w.ownsRow B e size v n xs) {b i:Nat} (hb:b < B) (u:Value):(w.setCell ⟨b,i,none⟩ u).ownsRow B e size v n xs:=by
 refine ⟨ho.1,?_⟩
 rcases ho.2 with h | ⟨g,cap,cur,hv,hg,hh,r⟩
 ·exact .inl h
 ·exact .inr ⟨g,cap,cur,hv,hg,(Below.heap_setCell _ _ _ _ (by show g≠b;omega)).trans hh,r⟩
theorem own_mono2 {w:World} {base base':Nat} {e:TypeId} {size:Nat} {v:Value} {n:Nat} {xs:List Value} (h:w.ownsRow base e size v n xs) (hb:base'≤base):w.ownsRow base' e size v n xs:=by
 refine ⟨h.1,?_⟩
 rcases h.2 with h | ⟨g,cap,cur,hv,hg,r⟩
 ·exact .inl h
 ·exact .inr ⟨g,cap,cur,hv,Nat.le_trans hb hg,r⟩
structure NB (w:World) (B:Nat) (v:Value) (rows:List (List Bool)) (vs:List Value):Prop where
 outer:w.ownsRow B 124 1 v rows.length vs
 len:vs.length=rows.length
 inner:∀ i (h:i < rows.length) (h':i < vs.length),w.ownsRow B 4 1 vs[i] rows[i].length (bools rows[i])
 ap:∀ i j (hi:i < vs.length) (hj:j < vs.length),i≠j→∀ k,vs[i].ownBlock=some k→vs[j].ownBlock≠some k
theorem NB.nil (w:World) (B:Nat):NB w B (.slice none 0 0) [] []:=⟨World.ownsRow_nil _ _ _ _,rfl,fun _ h=>absurd h (Nat.not_lt_zero _),fun _ _ h=>absurd h (Nat.not_lt_zero _)⟩
theorem NB.below {w w':World} {B:Nat} {v:Value} {rows:List (List Bool)} {vs:List Value} (h:NB w B v rows vs) (hb:Below w.heap.size w w'):NB w' B v rows vs :=
 ⟨ownsRow_below h.outer hb,h.len,fun i h1 h2=>ownsRow_below (h.inner i h1 h2) hb,h.ap⟩
theorem NB.far {w:World} {B:Nat} {v:Value} {rows:List (List Bool)} {vs:List Value} (h:NB w B v rows vs) {b i:Nat} (hb:b < B) (u:Value):NB (w.setCell ⟨b,i,none⟩ u) B v rows vs :=
 ⟨own_far2 h.outer hb u,h.len,fun i h1 h2=>own_far2 (h.inner i h1 h2) hb u,h.ap⟩
theorem NB.snoc {w w':World} {B:Nat} {v v' x:Value} {rows:List (List Bool)} {vs:List Value} {l:List Bool} (h:NB w B v rows vs) (hx:w.ownsRow B 4 1 x l.length (bools l)) (hap:∀ i (hi:i < vs.length) k,vs[i].ownBlock=some k→x.ownBlock≠some k)
  (ho:w'.ownsRow B 124 1 v' (rows.length+1) (vs++[x])) (hg:w.grownBy w' v.ownBlock):NB w' B v' (rows++[l]) (vs++[x]):=by
 have hl:=h.len
 refine ⟨by rw [List.length_append];exact ho,by simp [hl],fun i h1 h2=>?_,fun i j hi hj hne k hk=>?_⟩
 ·by_cases hi:i < rows.length
  ·rw [List.getElem_append_left (by omega),List.getElem_append_left hi]
   exact (h.inner i hi (by omega)).kept hg (own_apart2 (h.inner i hi (by omega)) h.outer (by decide))
  ·obtain rfl:i=rows.length:=by simp at h1;omega
   have e1:(rows++[l])[rows.length]=l:=by simp
   have e2:(vs++[x])[rows.length]=x:=by
    rw [List.getElem_append_right (by omega)]
    simp [hl]
   rw [e1,e2]
   exact hx.kept hg (own_apart2 hx h.outer (by decide))
 ·by_cases h1:i < vs.length
  ·rw [List.getElem_append_left h1] at hk
   by_cases h2:j < vs.length
   ·rw [List.getElem_append_left h2]
    exact h.ap i j h1 h2 hne k hk
   ·rw [List.getElem_append_right (by omega)]
    have:j - vs.length=0:=by simp at hj;omega
    simp only [this,List.getElem_cons_zero]
    exact hap i h1 k hk
  ·rw [List.getElem_append_right (by omega)] at hk
   have:i - vs.length=0:=by simp at hi;omega
   simp only [this,List.getElem_cons_zero] at hk
   have h2:j < vs.length:=by simp at hi hj;omega
   rw [List.getElem_append_left h2]
   exact fun e=>hap j h2 k e hk
structure NtO (w:World) (B X G n c:Nat) (va:Option Addr) (rb rc:Nat→Nat) (A:Nat→Nat→Bool):Prop where
 nt:NtAt w X G n c va rb rc A
 geX:B≤X
 ge:∀ a,a < n→B≤rb a
 fz:∀ a,a < n→∀ j,w.frozen? ⟨rb a,j,none⟩=false
 ap:∀ a a',a < n→a' < n→a≠a'→rb a≠rb a'
 apX:∀ a,a < n→rb a≠X
 apG:∀ a,a < n→rb a≠G
theorem NtO.below {w w':World} {B X G n c:Nat} {va:Option Addr} {rb rc:Nat→Nat} {A:Nat→Nat→Bool} (h:NtO w B X G n c va rb rc A) (hb:Below w.heap.size w w'):NtO w' B X G n c va rb rc A :=
 ⟨h.nt.below hb,h.geX,h.ge,fun a ha j=>(hb.frozen (p:=⟨rb a,j,none⟩) (show rb a < w.heap.size from World.block_lt_of_cell? _ _ (h.nt.row a ha 0 (by omega)))).trans (h.fz a ha j),h.ap,h.apX,h.apG⟩
theorem NtO.set {w:World} {B X G n c:Nat} {va:Option Addr} {rb rc:Nat→Nat} {A:Nat→Nat→Bool} (h:NtO w B X G n c va rb rc A) {a b:Nat} (ha:a < n) (hb:b < n):NtO (w.setCell ⟨rb a,b,none⟩ (.bool true)) B X G n c va rb rc (M.setA A (a,b)):=by
 refine ⟨⟨?_,h.nt.addr,fun i hi=>?_,fun i hi j hj=>?_⟩,h.geX,h.ge,fun i hi j=>by rw [World.frozen?_setCell];exact h.fz i hi j,h.ap,h.apX,h.apG⟩
 ·rw [World.cell?_setCell_other _ _ _ _ (fun e=>h.apX a ha (congrArg Addr.block e))];exact h.nt.box
 ·rw [World.cell?_setCell_other _ _ _ _ (fun e=>h.apG a ha (congrArg Addr.block e))];exact h.nt.outer i hi
 ·by_cases e1:i=a
  ·subst e1
   by_cases e2:j=b
   ·subst e2
    rw [World.cell?_setCell_same _ _ _ (h.nt.row i hi j hj)]
    simp [M.setA]
   ·rw [World.cell?_setCell_other _ _ _ _ (fun e=>e2 (by have:=congrArg Addr.off e;simp at this;omega)),h.nt.row i hi j hj]
    have e2':(j==b)=false:=by simpa using e2
    simp [M.setA,e2']
  ·rw [World.cell?_setCell_other _ _ _ _ (fun e=>h.ap a i ha hi (fun e=>e1 e.symm) (congrArg Addr.block e)),h.nt.row i hi j hj]
   have e1':(i==a)=false:=by simpa using e1
   simp [M.setA,e1']
def M.rowsB (A:Nat→Nat→Bool) (n k:Nat):List (List Bool):=(List.range k).map fun a=>(List.range n).map fun b=>A a b
theorem M.rowsB_len (A:Nat→Nat→Bool) (n k:Nat):(M.rowsB A n k).length=k:=by simp [M.rowsB]
theorem M.rowsB_succ (A:Nat→Nat→Bool) (n k:Nat):M.rowsB A n (k+1)=M.rowsB A n k++[(List.range n).map fun b=>A k b]:=by simp [M.rowsB,List.range_succ]
theorem NB.net {w:World} {B X n c:Nat} {va:Option Addr} {A:Nat→Nat→Bool} {vs:List Value} (h:NB w (X+1) (.slice va n c) (M.rowsB A n n) vs) (hX:w.cell? ⟨X,0,none⟩=some (.slice va n c)) (hB:B≤X) :
  ∃ G rb rc,NtO w B X G n c va rb rc A:=by
 have hlen:=h.len
 rw [M.rowsB_len] at hlen
 have hout:=h.outer
 rw [M.rowsB_len] at hout
 have key:∀ a (ha:a < n),∃ g cap,vs[a]'(by omega)=.slice (some ⟨g,0,none⟩) n cap∧X+1≤g∧(∀ j,w.frozen? ⟨g,j,none⟩=false)∧∀ b,b < n→w.cell? ⟨g,b,none⟩=some (.bool (A a b)):=by
  intro a ha
  have hi:=h.inner a (by rw [M.rowsB_len];exact ha) (by omega)
  have e1:(M.rowsB A n n)[a]'(by rw [M.rowsB_len];exact ha)=(List.range n).map fun b=>A a b:=by simp [M.rowsB]
  rw [e1] at hi
  simp only [List.length_map,List.length_range] at hi
  have hi2:=hi
  rcases hi.2 with ⟨_,h0⟩ | ⟨g,cap,cur,hv,hg,hh,r⟩
  ·omega
  ·refine ⟨g,cap,hv,hg,fun j=>?_,fun b hb=>?_⟩
   ·rw [hv] at hi2;exact own_fzS hi2 j
   ·have:=hi2.cells (g:=g) (by rw [hv];rfl) b (.bool (A a b)) (by simp [bools,hb])
    rwa [Go.WideShapes.add_plain,Nat.zero_add] at this
 haveI:Inhabited (Nat × Nat):=⟨(0,0)⟩
 obtain ⟨f,hf⟩:∃ f:Nat→Nat × Nat,∀ a (ha:a < n),vs[a]'(by omega)=.slice (some ⟨(f a).1,0,none⟩) n (f a).2∧X+1≤(f a).1∧(∀ j,w.frozen? ⟨(f a).1,j,none⟩=false)∧∀ b,b < n→w.cell? ⟨(f a).1,b,none⟩=some (.bool (A a b)):=by
  refine ⟨fun a=>if ha:a < n then (Classical.choose (key a ha),Classical.choose (Classical.choose_spec (key a ha))) else (0,0),fun a ha=>?_⟩
  simp only [dif_pos ha]
  exact Classical.choose_spec (Classical.choose_spec (key a ha))
 have hG:∃ G,(0 < n→va=some ⟨G,0,none⟩)∧∀ a (ha:a < n),w.cell? ⟨G,a,none⟩=some (vs[a]'(by omega)):=by
  rcases hout.2 with ⟨_,h0⟩ | ⟨g,cap,cur,hv,hg,hh,r⟩
  ·exact ⟨0,fun hp=>by omega,fun a ha=>by omega⟩
  ·have e:=hv
   simp only [Value.slice.injEq] at e
   refine ⟨g,fun _=>e.1,fun a ha=>?_⟩
   have:=hout.cells (g:=g) (by rw [hv];rfl) a (vs[a]'(by omega)) (List.getElem?_eq_getElem (by omega))
   rwa [Go.WideShapes.add_plain,Nat.zero_add] at this
 obtain ⟨G,hG1,hG2⟩:=hG
 refine ⟨G,fun a=>(f a).1,fun a=>(f a).2,⟨hX,hG1,fun a ha=>by rw [hG2 a ha,(hf a ha).1],fun a ha b hb=>(hf a ha).2.2.2 b hb⟩,hB,fun a ha=>by have:=(hf a ha).2.1;omega,fun a ha=>(hf a ha).2.2.1,fun a a' ha ha' hne e=>?_,fun a ha=>by have:=(hf a ha).2.1;omega,fun a ha e=>?_⟩
 ·have hap:=h.ap a a' (by omega) (by omega) hne (f a).1 (by rw [(hf a ha).1];rfl)
  rw [(hf a' ha').1] at hap
  exact hap (by show some (f a').1=some (f a).1;rw [e])
 ·have hi:=h.inner a (by rw [M.rowsB_len];exact ha) (by omega)
  rcases own_apart2 hi h.outer (by decide) with h1 | h1
  ·rw [(hf a ha).1] at h1;cases h1
  ·rw [(hf a ha).1] at h1
   have:=hG1 (by omega)
   subst this
   exact h1 (by show some (f a).1=some G;rw [e])
end Go.Proofs.YtjjkicffhpcngaaGreat
namespace Go.Proofs.YtjjkicffhpcngaaGreat
open Go.RowKit
namespace M
theorem idx_at {l:List Int} {v:Int} {n:Nat} (hn:n < l.length) (h:l[n]=v) (hb:∀ i (_:i < n) (hi:i < l.length),l[i]≠v):idx l v=n:=by
 have:l.findIdx? (·==v)=some n:=by
  rw [List.findIdx?_eq_some_iff_getElem]
  exact ⟨hn,by simpa using h,fun j hj=>by simpa using hb j hj (by omega)⟩
 simp [idx,this]
theorem idx_not {l:List Int} {v:Int} (h:∀ i (_:i < l.length),l[i]≠v):idx l v=-1:=by
 have:l.findIdx? (·==v)=none:=by
  rw [List.findIdx?_eq_none_iff]
  intro x hx
  obtain ⟨i,hi,rfl⟩:=List.getElem_of_mem hx
  simpa using h i hi
 simp [idx,this]
end M
set_option maxHeartbeats 400000 in
theorem l13Rank_any (a:Option Addr) (b o c:Nat) (l:List Int) (v:Int) (w:World) (hl:l.length≤1048576) (h:IntS w a b o l) :
  Calls Tryz.prog 130 #[.slice a l.length c,.int .i64 v] w fun e w'=>e=.returned (.int .i64 (M.idx l v))∧w'=w:=by
 go_enter Tryz.func130,Tryz.ntmps130
 go_wp2_with fail
 go_loopw [5] (fun s5 wr=>∃ n:Nat,s5=.int .i64 n∧n≤l.length∧Hid (∀ i (_:i < n) (h:i < l.length),l[i]≠v)∧wr=w) (fun s5 _=>l.length - (intOf s5).toNat)
 case atStart=>exact ⟨0,rfl,Nat.zero_le _,fun i hi=>absurd hi (Nat.not_lt_zero _),rfl⟩
 case round =>
  obtain ⟨n,rfl,hn,HA,rfl⟩:=hrel
  by_cases hlt:n < l.length
  ·obtain ⟨rfl⟩:=h.addr (by omega)
   have hx:=h.row n hlt
   obtain ⟨y,hy⟩:∃ y,l[n]=y:=⟨_,rfl⟩
   have HY:Hid (l[n]=y):=hy
   rw [hy] at hx
   clear hy
   have i1:(n:Int) < l.length:=by omega
   by_cases e:y=v
   ·subst e
    go_wp2_with fail
    go_ret
    exact ⟨by rw [M.idx_at hlt HY.out HA.out];rfl,rfl⟩
   ·have e':(y==v)=false:=by simpa using e
    go_wp2_with fail
    exact ⟨⟨n+1,by go_num,by omega,fun i hi hl=>by
     by_cases ei:i=n
     ·subst ei;rw [HY.out];exact e
     ·exact HA.out i (by omega) hl,trivial⟩,by simp [intOf];omega⟩
  ·go_wp2_with fail
   go_ret
   exact ⟨by rw [M.idx_not (fun i hi=>HA.out i (by omega) hi)];rfl,rfl⟩
theorem cellBut {O:Nat} {W W':World} {p:Addr} {v:Value} (hb:But O W W') (h:W.cell? p=some v) (hne:p.block≠O):W'.cell? p=some v:=(hb.cell (p:=p) (World.block_lt_of_cell? _ _ h) hne).trans h
theorem But.low {O:Nat} {w0 w w':World} (h:Below w0.heap.size w0 w) (k:But O w w') (hO:w0.heap.size≤O):Below w0.heap.size w0 w' :=
 ⟨k.os.trans h.os,k.tape.trans h.tape,k.output.trans h.output,Nat.le_trans h.size k.size,fun i hi=>(k.block i (Nat.lt_of_lt_of_le hi h.size) (by omega)).trans (h.block i hi)⟩
structure Wk (w wr:World) (O:Nat) (p l v1 v2 fr od:Value) (n:Nat) (f:Nat→Int):Prop where
 but:But O w wr
 blk:wr.heap[O]?=some (.cells #[p,l,v1,v2,fr,.slice (some ⟨w.heap.size+1,0,none⟩) n n] 126 (0,0))
 x0:wr.cell? ⟨w.heap.size,0,none⟩=some fr
 x1:wr.cell? ⟨w.heap.size,1,none⟩=some od
 row:wr.rowIs (w.heap.size+1) 3 n (fun i=>.int .i64 (f i))
theorem Wk.lt {w wr:World} {O:Nat} {p l v1 v2 fr od:Value} {n:Nat} {f:Nat→Int} (h:Wk w wr O p l v1 v2 fr od n f):w.heap.size+1 < wr.heap.size:=h.row.lt
theorem Wk.below {w wr w1:World} {O:Nat} {p l v1 v2 fr od:Value} {n:Nat} {f:Nat→Int} (h:Wk w wr O p l v1 v2 fr od n f) (hO:O < w.heap.size) (hb:Below wr.heap.size wr w1):Wk w w1 O p l v1 v2 fr od n f:=by
 have hl:=h.lt
 exact ⟨h.but.trans (But.of hb),(hb.block _ (by omega)).trans h.blk,cellC hb h.x0,cellC hb h.x1,h.row.of_block (hb.block _ hl)⟩
theorem Wk.store {w wr:World} {O:Nat} {p l v1 v2 fr od:Value} {n:Nat} {f:Nat→Int} (h:Wk w wr O p l v1 v2 fr od n f) (hO:O < w.heap.size) (i:Nat) (x:Int):Wk w (wr.setCell ⟨w.heap.size+1,i,none⟩ (.int .i64 x)) O p l v1 v2 fr od n (fun j=>if j=i then x else f j):=by
 refine ⟨h.but.setCell (Or.inl (by show w.heap.size≤w.heap.size+1;omega)) _,(Below.heap_setCell _ _ _ _ (by show O≠w.heap.size+1;omega)).trans h.blk,?_,?_,(h.row.set i (.int .i64 x)).congr (fun j _=>?_)⟩
 ·rw [World.cell?_setCell_other _ _ _ _ (fun e=>by have:=congrArg Addr.block e;simp at this)];exact h.x0
 ·rw [World.cell?_setCell_other _ _ _ _ (fun e=>by have:=congrArg Addr.block e;simp at this)];exact h.x1
 ·by_cases e:j=i<;>simp [e]
theorem Wk.c {w wr:World} {O:Nat} {p l v1 v2 fr od:Value} {n:Nat} {f:Nat→Int} (h:Wk w wr O p l v1 v2 fr od n f):wr.cell? ⟨O,0,none⟩=some p∧wr.cell? ⟨O,1,none⟩=some l∧wr.cell? ⟨O,2,none⟩=some v1∧wr.cell? ⟨O,3,none⟩=some v2∧wr.cell? ⟨O,4,none⟩=some fr∧wr.cell? ⟨O,5,none⟩=some (.slice (some ⟨w.heap.size+1,0,none⟩) n n):=by
 refine ⟨?_,?_,?_,?_,?_,?_⟩
 all_goals simp [World.cell?,h.blk]
theorem DvS.but {w w':World} {O:Nat} {va:Option Addr} {g:Nat} {l:List M.De} (h:DvS w va g l) (hb:But O w w') (hne:g≠O):DvS w' va g l :=
 ⟨h.addr,fun i hi j hj=>by
  have h1:=h.row i hi j hj
  match j,hj with
  | 0,_=>exact cellBut hb h1 hne
  | 1,_=>exact cellBut hb h1 hne
  | 2,_=>exact cellBut hb h1 hne⟩
set_option maxHeartbeats 2000000 in
set_option maxRecDepth 100000 in
theorem wayG_any {f4 f5:Value} (t:Lp) (u:Lq) (w0 w:World) (od:Nat) (hk:t.Ok) (hpl:∀ x∈M.deeds t.ll,x.uses=true→0≤x.d.p∧x.d.p < 3) (hpos:0 < (M.deeds t.ll).length) (HL:Hid (u.l.length=(M.deeds t.ll).length)) (H3:Hid (u.rows.length=3)) (hrl:∀ r∈u.rows,r.length≤1048576) (rb ro:Nat)
  (h0:Below w0.heap.size w0 w) (hO:w0.heap.size≤t.O) (hOl:t.O < w.heap.size) (ss:DoSS w0 t.a t.b t.o t.ll) (hf:IntS w0 (some ⟨u.fb,u.fo,none⟩) u.fb u.fo u.l) (hr:IntSS w0 (some ⟨rb,ro,none⟩) rb ro u.rows)
  (blk:w.heap[t.O]?=some (.cells #[.slice t.a t.ll.length t.c,.slice (some ⟨t.g,0,none⟩) (M.deeds t.ll).length t.cc,.slice (some ⟨u.rb,0,none⟩) (M.deeds t.ll).length u.rc,.slice (some ⟨u.wb,0,none⟩) (M.deeds t.ll).length u.wc,f4,f5] 126 (0,0)))
  (dv:DvS w (some ⟨t.g,0,none⟩) t.g (M.deeds t.ll)) (rd:∀ n x,(M.deeds t.ll)[n]?=some x→w.cell? ⟨u.rb,n,none⟩=some (.bool (M.reads x.d.k))) (wrt:∀ n x,(M.deeds t.ll)[n]?=some x→w.cell? ⟨u.wb,n,none⟩=some (.bool (M.writes x.d.k))) (hkb:u.kb=w.heap.size+1) (hkc:u.kc=(M.deeds t.ll).length) :
  Calls Tryz.prog 86 #[.pointer (some ⟨t.O,0,none⟩),.agg #[.slice (some ⟨u.fb,u.fo,none⟩) u.l.length u.fc,.slice (some ⟨rb,ro,none⟩) u.rows.length od]] w fun e w'=>e=.returned (.tuple #[])∧u.At t w'∧But t.O w w'∧∃ f4' f5',w'.heap[t.O]?=some (.cells #[.slice t.a t.ll.length t.c,.slice (some ⟨t.g,0,none⟩) (M.deeds t.ll).length t.cc,.slice (some ⟨u.rb,0,none⟩) (M.deeds t.ll).length u.rc,.slice (some ⟨u.wb,0,none⟩) (M.deeds t.ll).length u.wc,f4',f5'] 126 (0,0)):=by
 have hdl:=hk.dl
 have fl:=Tryz.fld1
 have hmk:=run_make_row' (P:=Tryz.prog) 47 3 (.int .i64 0) 8 Tryz.underlying47 Tryz.infoInt rfl .i64 .i64 (M.deeds t.ll).length (by omega) (by omega)
 have b1:w.cell? ⟨t.O,1,none⟩=some (.slice (some ⟨t.g,0,none⟩) (M.deeds t.ll).length t.cc):=by simp [World.cell?,blk]
 have b4:w.cell? ⟨t.O,4,none⟩=some f4:=by simp [World.cell?,blk]
 have b5:w.cell? ⟨t.O,5,none⟩=some f5:=by simp [World.cell?,blk]
 have bf:∀ i,w.frozen? ⟨t.O,i,none⟩=false:=fun i=>by simp [World.frozen?,blk]
 go_enter Tryz.func86,Tryz.ntmps86
 go_wp2_with fail
 have k0:Wk w ((((w.setCell ⟨t.O,4,none⟩ (.slice (some ⟨u.fb,u.fo,none⟩) u.l.length u.fc)).setCell ⟨t.O,5,none⟩ (.slice (some ⟨w.heap.size+1,0,none⟩) (M.deeds t.ll).length (M.deeds t.ll).length)).alloc (.cells #[.slice (some ⟨u.fb,u.fo,none⟩) u.l.length u.fc,.slice (some ⟨rb,ro,none⟩) u.rows.length od] 63)).alloc (.cells (madeCells #[.int .i64 0] (M.deeds t.ll).length) 3)) t.O (.slice t.a t.ll.length t.c) (.slice (some ⟨t.g,0,none⟩) (M.deeds t.ll).length t.cc) (.slice (some ⟨u.rb,0,none⟩) (M.deeds t.ll).length u.rc) (.slice (some ⟨u.wb,0,none⟩) (M.deeds t.ll).length u.wc) (.slice (some ⟨u.fb,u.fo,none⟩) u.l.length u.fc) (.slice (some ⟨rb,ro,none⟩) u.rows.length od) (M.deeds t.ll).length (fun _=>0):=by
  have e1:=heap_setCell_same w t.O 4 _ _ (.slice (some ⟨u.fb,u.fo,none⟩) u.l.length u.fc) blk
  have e2:=heap_setCell_same _ t.O 5 _ _ (.slice (some ⟨w.heap.size+1,0,none⟩) (M.deeds t.ll).length (M.deeds t.ll).length) e1
  refine ⟨(((((But.refl t.O w).setCell (Or.inr rfl) _).setCell (Or.inr rfl) _).alloc _).alloc _),?_,by simp [go_sem],by simp [go_sem],?_⟩
  ·rw [alloc_old _ _ _ (by simp;omega),alloc_old _ _ _ (by simp;omega)];exact e2
  ·have:=World.rowIs_made (((w.setCell ⟨t.O,4,none⟩ (.slice (some ⟨u.fb,u.fo,none⟩) u.l.length u.fc)).setCell ⟨t.O,5,none⟩ (.slice (some ⟨w.heap.size+1,0,none⟩) (M.deeds t.ll).length (M.deeds t.ll).length)).alloc (.cells #[.slice (some ⟨u.fb,u.fo,none⟩) u.l.length u.fc,.slice (some ⟨rb,ro,none⟩) u.rows.length od] 63)) (.int .i64 0) (M.deeds t.ll).length 3
   simpa using this
 generalize ((((w.setCell ⟨t.O,4,none⟩ (.slice (some ⟨u.fb,u.fo,none⟩) u.l.length u.fc)).setCell ⟨t.O,5,none⟩ (.slice (some ⟨w.heap.size+1,0,none⟩) (M.deeds t.ll).length (M.deeds t.ll).length)).alloc (.cells #[.slice (some ⟨u.fb,u.fo,none⟩) u.l.length u.fc,.slice (some ⟨rb,ro,none⟩) u.rows.length od] 63)).alloc (.cells (madeCells #[.int .i64 0] (M.deeds t.ll).length) 3))=W0 at k0 ⊢
 clear hmk b1 b4 b5 bf
 obtain ⟨x0,hx0⟩:∃ x,(M.deeds t.ll)[0]?=some x:=⟨_,List.getElem?_eq_getElem hpos⟩
 have b0:w.cell? ⟨t.O,0,none⟩=some (.slice t.a t.ll.length t.c):=by simp [World.cell?,blk]
 have hgO:t.g≠t.O:=fun e=>by
  have h1:=(dv.at hpos).c0
  rw [e,Nat.zero_mul,b0] at h1
  cases h1
 have hwO:u.wb≠t.O:=fun e=>by
  have h1:=wrt 0 x0 hx0
  rw [e,b0] at h1
  cases h1
 have hrO:u.rb≠t.O:=fun e=>by
  have h1:=rd 0 x0 hx0
  rw [e,b0] at h1
  cases h1
 have tAt:∀ W' f,Wk w W' t.O (.slice t.a t.ll.length t.c) (.slice (some ⟨t.g,0,none⟩) (M.deeds t.ll).length t.cc) (.slice (some ⟨u.rb,0,none⟩) (M.deeds t.ll).length u.rc) (.slice (some ⟨u.wb,0,none⟩) (M.deeds t.ll).length u.wc) (.slice (some ⟨u.fb,u.fo,none⟩) u.l.length u.fc) (.slice (some ⟨rb,ro,none⟩) u.rows.length od) (M.deeds t.ll).length f→t.At W':=fun W' f kk=>⟨kk.c.1,kk.c.2.1,ss.below (But.low h0 kk.but hO) (Nat.le_refl _),dv.but kk.but hgO⟩
 go_loopw [4] (fun s4 wq=>∃ (n:Nat) (f:Nat→Int),s4=.int .i64 n∧n≤(M.deeds t.ll).length∧Hid (∀ j x,(M.deeds t.ll)[j]?=some x→f j=if j < n then M.rankAt u.l u.rows j x else 0)∧Wk w wq t.O (.slice t.a t.ll.length t.c) (.slice (some ⟨t.g,0,none⟩) (M.deeds t.ll).length t.cc) (.slice (some ⟨u.rb,0,none⟩) (M.deeds t.ll).length u.rc) (.slice (some ⟨u.wb,0,none⟩) (M.deeds t.ll).length u.wc) (.slice (some ⟨u.fb,u.fo,none⟩) u.l.length u.fc) (.slice (some ⟨rb,ro,none⟩) u.rows.length od) (M.deeds t.ll).length f) (fun s4 _=>(M.deeds t.ll).length - (intOf s4).toNat)
 case atStart=>exact ⟨0,fun _=>0,rfl,Nat.zero_le _,(fun j x _=>by simp),k0⟩
 case round =>
  clear k0 b0 hx0
  obtain ⟨n,f,rfl,hn,HF,k⟩:=hrel
  have q1:=k.c.2.1
  have q2:=k.c.2.2.1
  have q3:=k.c.2.2.2.1
  by_cases hlt:n < (M.deeds t.ll).length
  ·obtain ⟨x,hx⟩:∃ x,(M.deeds t.ll)[n]?=some x:=⟨_,List.getElem?_eq_getElem hlt⟩
   have i1:(n:Int) < (M.deeds t.ll).length:=by omega
   have wx:=cellBut k.but (wrt n x hx) hwO
   have rx:=cellBut k.but (rd n x hx) hrO
   have FSTEP:∀ v,M.rankAt u.l u.rows n x=v→Hid (∀ j y,(M.deeds t.ll)[j]?=some y→(if j=n then v else f j)=if j < n+1 then M.rankAt u.l u.rows j y else 0):=fun v hv j y hy=>by
    by_cases e:j=n
    ·subst e
     rw [hx] at hy
     obtain rfl:=Option.some.inj hy
     rw [if_pos rfl,if_pos (by omega),hv]
    ·rw [if_neg e,HF.out j y hy]
     by_cases e2:j < n
     ·rw [if_pos e2,if_pos (by omega)]
     ·rw [if_neg e2,if_neg (by omega)]
   cases hw:M.writes x.d.k
   case true =>
    rw [hw] at wx
    obtain ⟨hp0,hp3⟩:=hpl x (List.mem_of_getElem? hx) (by simp [M.De.uses,M.uses,hw])
    obtain ⟨p,hp⟩:∃ p:Nat,x.d.p=p:=⟨x.d.p.toNat,by omega⟩
    have hpr:p < u.rows.length:=by have:=H3.out;omega
    obtain ⟨a',b',o',c',hc0,hrow0⟩:=hr.row p hpr
    have hc:=cellC h0 hc0
    have hrlp:=hrl _ (List.getElem_mem hpr)
    have HRW:Hid (u.rows.getD p []=u.rows[p]):=by show _=_;rw [List.getD_eq_getElem?_getD,List.getElem?_eq_getElem hpr];rfl
    have hrbO:rb≠t.O:=by
     have:rb < w0.heap.size:=World.block_lt_of_cell? _ _ hc0
     omega
    have hrowB:∀ W',But t.O w W'→IntS W' a' b' o' u.rows[p]:=fun W' hb=>hrow0.below (But.low h0 hb hO) (Nat.le_refl _)
    clear hrow0 hc0
    generalize u.rows[p]=row at *
    have HRK:Hid (M.rankAt u.l u.rows n x=M.idx row (n:Int)):=by show _=_;rw [M.rankAt,if_pos hw,hp,Int.toNat_natCast,HRW.out]
    have i4:(p:Int) < u.rows.length:=by omega
    have N1:w.heap.size+1≠t.O:=by omega
    have N2:w.heap.size+1≠w.heap.size:=by omega
    have N3:w.heap.size+1≠rb:=by have:rb < w.heap.size:=World.block_lt_of_cell? _ _ hc;omega
    have X1:=k.c.2.2.2.2.2
    have X2:=k.x1
    have X3:=cellBut k.but hc hrbO
    have hOwr:=k.lt
    have C:=do_any t n x _ hk (tAt _ _ (k.below hOl (Below.refl _ _).drew)) hx
    rw [hp] at C
    go_wp2_with fail
    go_region_held3 (fun w'=>w'.cell? ⟨t.O,5,none⟩=some (.slice (some ⟨w.heap.size+1,0,none⟩) (M.deeds t.ll).length (M.deeds t.ll).length)∧w'.cell? ⟨w.heap.size,1,none⟩=some (.slice (some ⟨rb,ro,none⟩) u.rows.length od)∧w'.cell? ⟨rb,ro+p,none⟩=some (.slice a' row.length c')) (go_keep) (first
     | (go_at_call 128;refine C.mono ?_;rintro e w1 ⟨rfl,hb1⟩;have k1:=k.below hOl ((Below.refl _ _).drew.trans hb1);have Y1:=k1.c.2.2.2.2.2;have Y2:=k1.x1;have Y3:=cellBut k1.but hc hrbO;have Z0:=k1.row.cell hlt;have Zf:=k1.row.frozen;have Zl:=k1.lt)
     | (go_at_call 130;refine (l13Rank_any a' b' o' c' row (n:Int) _ hrlp (hrowB _ k1.but)).mono ?_;rintro e w2x ⟨rfl,rfl⟩))
    have k2:=k1.store hOl n (M.idx row (n:Int))
    go_wp2_with fail
    exact ⟨⟨n+1,_,by go_num,by omega,FSTEP _ HRK.out,k2⟩,by simp [intOf];omega⟩
   rw [hw] at wx
   cases hrd:M.reads x.d.k
   case true =>
    rw [hrd] at rx
    obtain ⟨hp0,hp3⟩:=hpl x (List.mem_of_getElem? hx) (by simp [M.De.uses,M.uses,hrd])
    obtain ⟨p,hp⟩:∃ p:Nat,x.d.p=p:=⟨x.d.p.toNat,by omega⟩
    have hpr:p < u.rows.length:=by have:=H3.out;omega
    obtain ⟨a',b',o',c',hc0,hrow0⟩:=hr.row p hpr
    have hc:=cellC h0 hc0
    have hrlp:=hrl _ (List.getElem_mem hpr)
    have HRW:Hid (u.rows.getD p []=u.rows[p]):=by show _=_;rw [List.getD_eq_getElem?_getD,List.getElem?_eq_getElem hpr];rfl
    have hrbO:rb≠t.O:=by
     have:rb < w0.heap.size:=World.block_lt_of_cell? _ _ hc0
     omega
    have hrowB:∀ W',But t.O w W'→IntS W' a' b' o' u.rows[p]:=fun W' hb=>hrow0.below (But.low h0 hb hO) (Nat.le_refl _)
    clear hrow0 hc0
    generalize u.rows[p]=row at *
    have hnl:n < u.l.length:=by have:=HL.out;omega
    have HG:Hid (u.l.getD n 0=u.l[n]):=by show _=_;simp [hnl]
    have fn0:=(hf.below h0 (Nat.le_refl _)).row n hnl
    have hfO:u.fb≠t.O:=by have:=hf.lt (by omega);omega
    generalize u.l[n]=fv at *
    have i5:(n:Int) < u.l.length:=by omega
    have X4:=k.x0
    have X5:=cellBut k.but fn0 hfO
    have HRK:Hid (M.rankAt u.l u.rows n x=M.idx row fv):=by show _=_;rw [M.rankAt,if_neg (by rw [hw];simp),if_pos hrd,hp,Int.toNat_natCast,HRW.out,HG.out]
    have i4:(p:Int) < u.rows.length:=by omega
    have N1:w.heap.size+1≠t.O:=by omega
    have N2:w.heap.size+1≠w.heap.size:=by omega
    have N3:w.heap.size+1≠rb:=by have:rb < w.heap.size:=World.block_lt_of_cell? _ _ hc;omega
    have N4:w.heap.size+1≠u.fb:=by have:=hf.lt (by have:=HL.out;omega);have:=h0.size;omega
    have X1:=k.c.2.2.2.2.2
    have X2:=k.x1
    have X3:=cellBut k.but hc hrbO
    have hOwr:=k.lt
    have C:=do_any t n x _ hk (tAt _ _ (k.below hOl (Below.refl _ _).drew)) hx
    rw [hp] at C
    go_wp2_with fail
    go_region_held3 (fun w'=>w'.cell? ⟨t.O,5,none⟩=some (.slice (some ⟨w.heap.size+1,0,none⟩) (M.deeds t.ll).length (M.deeds t.ll).length)∧w'.cell? ⟨w.heap.size,1,none⟩=some (.slice (some ⟨rb,ro,none⟩) u.rows.length od)∧w'.cell? ⟨rb,ro+p,none⟩=some (.slice a' row.length c')∧w'.cell? ⟨w.heap.size,0,none⟩=some (.slice (some ⟨u.fb,u.fo,none⟩) u.l.length u.fc)∧w'.cell? ⟨u.fb,u.fo+n,none⟩=some (.int .i64 fv)) (go_keep) (first
     | (go_at_call 128;refine C.mono ?_;rintro e w1 ⟨rfl,hb1⟩;have k1:=k.below hOl ((Below.refl _ _).drew.trans hb1);have Y1:=k1.c.2.2.2.2.2;have Y2:=k1.x1;have Y3:=cellBut k1.but hc hrbO;have Y4:=k1.x0;have Y5:=cellBut k1.but fn0 hfO;have Z0:=k1.row.cell hlt;have Zf:=k1.row.frozen;have Zl:=k1.lt)
     | (go_at_call 130;refine (l13Rank_any a' b' o' c' row fv _ hrlp (hrowB _ k1.but)).mono ?_;rintro e w2x ⟨rfl,rfl⟩))
    have k2:=k1.store hOl n (M.idx row fv)
    go_wp2_with fail
    exact ⟨⟨n+1,_,by go_num,by omega,FSTEP _ HRK.out,k2⟩,by simp [intOf];omega⟩
   rw [hrd] at rx
   go_wp2_with fail
   have hz:M.rankAt u.l u.rows n x=0:=by rw [M.rankAt,if_neg (by rw [hw];simp),if_neg (by rw [hrd];simp)]
   refine ⟨⟨n+1,f,by go_num,by omega,(fun j y hy=>?_),k⟩,by simp [intOf];omega⟩
   rw [HF.out j y hy]
   by_cases e:j=n
   ·subst e
    rw [hx] at hy
    obtain rfl:=Option.some.inj hy
    rw [if_neg (by omega),if_pos (by omega),hz]
   ·by_cases e2:j < n
    ·rw [if_pos e2,if_pos (by omega)]
    ·rw [if_neg e2,if_neg (by omega)]
  ·go_wp2_with fail
   refine bodyPost_end (v:=.tuple #[]) (results_none Tryz.results86 _ _ _) rfl ⟨rfl,⟨tAt _ _ k,k.c.2.2.1,k.c.2.2.2.1,k.c.2.2.2.2.1,?_,fun j y hy=>cellBut k.but (rd j y hy) hrO,fun j y hy=>cellBut k.but (wrt j y hy) hwO,hf.below (But.low h0 k.but hO) (Nat.le_refl _),HL,fun j y hy=>?_⟩,k.but,_,_,k.blk⟩
   ·rw [hkb,hkc];exact k.c.2.2.2.2.2
   ·have hj:=Lp.lt hy
    rw [hkb,k.row.cell hj,HF.out j y hy,if_pos (by omega)]
end Go.Proofs.YtjjkicffhpcngaaGreat
namespace Go.Proofs.YtjjkicffhpcngaaGreat
open Go.RowKit
theorem own_bools {w:World} {base g cap:Nat} {l:List Bool} (h:w.ownsRow base 4 1 (.slice (some ⟨g,0,none⟩) l.length cap) l.length (bools l)) (i:Nat) (hi:i < l.length):w.cell? ⟨g,i,none⟩=some (.bool l[i]):=by
 have hc:=h.cells (g:=g) rfl i (.bool l[i]) (by simp [bools,hi])
 rwa [Go.WideShapes.add_plain,Nat.zero_add] at hc
end Go.Proofs.YtjjkicffhpcngaaGreat
namespace Go.Proofs.YtjjkicffhpcngaaGreat
open Go.RowKit
set_option maxHeartbeats 1000000 in
set_option maxRecDepth 100000 in
theorem l71Kind_any (B rb p:Nat) (w:World) (hp:p≤900000) (h:Rdr w B rb p) :
  Calls Tryz.prog 48 #[.pointer (some ⟨rb,0,none⟩)] w fun e w'=>∃ r:Int,e=.returned (.int .i64 r)∧-1≤r∧r≤4∧Rdr w' B rb (p+2)∧But rb w w':=by
 have hlt:=h.lt
 go_enter Tryz.func48,Tryz.ntmps48
 go_wp2_with fail
 refine (pick_rdr B rb p 24 _ (by omega) (by omega) (by omega) h).mono ?_
 rintro e w1 ⟨r1,rfl,r10,r11,hr1,hb1⟩
 by_cases h0:r1=0
 ·subst h0
  have hal:=below1 w1 (.cells #[.int .i64 0,.int .i64 4,.int .i64 (-1)] 3)
  have hr2:=hr1.below hal (Nat.le_refl _)
  have hl1:=hb1.size
  go_wp2_with fail
  refine (pick_rdr B rb (p+1) 3 _ (by omega) (by omega) (by omega) hr2).mono ?_
  rintro e w2 ⟨r2,rfl,r20,r21,hr3,hb2⟩
  have c0:(w1.alloc (.cells #[.int .i64 0,.int .i64 4,.int .i64 (-1)] 3)).cell? ⟨w1.heap.size,0,none⟩=some (.int .i64 0):=by simp
  have c1:(w1.alloc (.cells #[.int .i64 0,.int .i64 4,.int .i64 (-1)] 3)).cell? ⟨w1.heap.size,1,none⟩=some (.int .i64 4):=by simp
  have c2:(w1.alloc (.cells #[.int .i64 0,.int .i64 4,.int .i64 (-1)] 3)).cell? ⟨w1.heap.size,2,none⟩=some (.int .i64 (-1)):=by simp
  have d0:=(hb2.cell (p:=⟨w1.heap.size,0,none⟩) (by simp) (by show w1.heap.size≠rb;omega)).trans c0
  have d1:=(hb2.cell (p:=⟨w1.heap.size,1,none⟩) (by simp) (by show w1.heap.size≠rb;omega)).trans c1
  have d2:=(hb2.cell (p:=⟨w1.heap.size,2,none⟩) (by simp) (by show w1.heap.size≠rb;omega)).trans c2
  have hbw:=(hb1.trans (But.of hal)).trans hb2
  clear c0 c1 c2 hal
  have hr:r2=0∨r2=1∨r2=2:=by omega
  rcases hr with rfl | rfl | rfl
  ·go_wp2_with fail
   go_ret
   exact ⟨_,rfl,by omega,by omega,hr3,hbw⟩
  ·go_wp2_with fail
   go_ret
   exact ⟨_,rfl,by omega,by omega,hr3,hbw⟩
  ·go_wp2_with fail
   go_ret
   exact ⟨_,rfl,by omega,by omega,hr3,hbw⟩
 ·have b0:(r1==0)=false:=by simp [h0]
  go_wp2_with fail
  refine (pick_rdr B rb (p+1) 3 _ (by omega) (by omega) (by omega) hr1).mono ?_
  rintro e w2 ⟨r2,rfl,r20,r21,hr3,hb2⟩
  go_wp2_with fail
  go_ret
  exact ⟨_,rfl,by (try rw [IntKind.wrap_i64]);omega,by (try rw [IntKind.wrap_i64]);omega,hr3,hb1.trans hb2⟩
end Go.Proofs.YtjjkicffhpcngaaGreat
namespace Go.Proofs.YtjjkicffhpcngaaGreat
open Go.RowKit
set_option maxHeartbeats 1000000 in
set_option maxRecDepth 100000 in
theorem DrawOrderAll_any (ca:Option Addr) (cb co L C:Nat) (x:Nat→Int) (w:World) (hL:L≤C) (had:0 < L→ca=some ⟨cb,co,none⟩) (hc:∀ i,i < L→w.cell? ⟨cb,co+i,none⟩=some (.int .u8 (x i))∧0≤x i∧x i≤255) (hLb:L≤1048576) :
  Calls Tryz.prog 19 #[.slice ca L C] w fun e w'=>∃ (a:Option Addr) (g c:Nat) (mm:List (List M.D)) (kind:Int),e=.returned (.tuple #[.agg #[.slice a mm.length c],.int .i64 kind])∧DoSN (w.heap.size+1) w' a g 0 mm∧Small mm c∧-1≤kind∧kind≤4∧Below w.heap.size w w':=by
 go_enter Tryz.func19,Tryz.ntmps19
 go_wp2_with fail
 have hb0:=below1 w (.cells #[.slice none 0 0] 25)
 refine (l6Open_any ca cb co L C x _ hL had (fun i hi=>⟨by rw [hb0.cell (p:=⟨cb,co+i,none⟩) (World.block_lt_of_cell? _ _ (hc i hi).1)];exact (hc i hi).1,(hc i hi).2⟩) hLb).mono ?_
 rintro e w1 ⟨rfl,hr1,hb1⟩
 simp only [World.size_alloc] at hr1 hb1 ⊢
 have hb1w:Below w.heap.size w w1:=hb0.trans (hb1.mono (by omega))
 have hS1:=(Slot1.new w (.slice none 0 0) 25).but (But.of (rb:=w.heap.size+1) (by simpa only [World.size_alloc] using hb1)) (by omega)
 have hlt1:=hr1.lt
 clear hc had hb0 hb1
 go_wp2_with fail
 refine (l71Any_any _ (w.heap.size+1) 0 _ (by omega) hr1).mono ?_
 rintro e w2 ⟨a,g,c,mm,rfl,hsn,hsm,p2,hp2,hr2,hb2⟩
 have hS2:=hS1.but hb2 (by omega)
 have hbw:Below w.heap.size w w2:=But.below hb1w hb2 (by omega)
 have hl2:=hr2.lt
 go_wp2_with fail
 refine (l71Kind_any _ (w.heap.size+1) p2 _ (by omega) hr2).mono ?_
 rintro e w3 ⟨kind,rfl,k0,k1,hr3,hb3⟩
 have hS3:=hS2.but hb3 (by omega)
 have s0:=hS3.c
 have sf:=hS3.fz
 have hsl:=hS3.lt
 have hsn3:=(hsn.mono (N':=w.heap.size+1+1) (by omega)).but hb3 (by omega)
 have hbw3:Below w.heap.size w w3:=But.below hbw hb3 (by omega)
 go_wp2_with fail
 have s4:=(hS3.set (.slice a mm.length c)).c
 refine bodyPost_ret (v:=.tuple #[.agg #[.slice a mm.length c],.int .i64 kind]) (by simp [results,Tryz.results19,go_sem,s4]) rfl ⟨a,g,c,mm,kind,rfl,(hsn3.far (by omega)).mono (by omega),hsm,k0,k1,hbw3.setCell (Nat.le_refl _) _⟩
end Go.Proofs.YtjjkicffhpcngaaGreat
namespace Go.Proofs.YtjjkicffhpcngaaGreat
open Go.RowKit
theorem M.isIn_mem {ks:List Key} {k:Key} (h:k∈ks):M.isIn ks k.1 k.2=true:=by
 unfold M.isIn
 exact List.any_eq_true.2 ⟨k,h,by simp [M.cmpS_self]⟩
set_option maxHeartbeats 1000000 in
set_option maxRecDepth 100000 in
theorem lpWithin_yes (a:Option Addr) (b o c:Nat) (a2:Option Addr) (b2 o2 c2:Nat) (ks ms:List Key) (w:World) (hl:ks.length≤1048576) (hls:KLe ks 1048576) (hl2:ms.length≤1048576) (hls2:KLe ms 1048576) (h:KS w a b o ks) (h2:KS w a2 b2 o2 ms) (hin:∀ k∈ks,k∈ms) :
  Calls Tryz.prog 22 #[.slice a ks.length c,.slice a2 ms.length c2] w fun e w'=>e=.returned (.bool true)∧Below w.heap.size w w':=by
 go_enter Tryz.func22,Tryz.ntmps22
 go_wp2_with fail
 go_loopw [5] (fun s5 wr=>∃ n:Nat,s5=.int .i64 n∧n≤ks.length∧Below w.heap.size w wr) (fun s5 _=>ks.length - (intOf s5).toNat)
 case atStart=>exact ⟨0,rfl,Nat.zero_le _,Below.refl _ _⟩
 case round =>
  obtain ⟨n,rfl,hn,hb⟩:=hrel
  by_cases hlt:n < ks.length
  ·obtain ⟨rfl⟩:=h.addr (by omega)
   obtain ⟨s,h1,h2',c1,c2',hsa⟩:=(h.below hb (Nat.le_refl _)).row n hlt
   obtain ⟨e1,e2⟩:=hls _ (List.getElem_mem hlt)
   have hsl:s.Le 1048576:=⟨by rw [h1];exact e1,by rw [h2'];exact e2⟩
   have C:=sseenIn_any a2 b2 o2 c2 ms s wr hl2 hls2 hsl (h2.below hb (Nat.le_refl _)) hsa
   have hq:M.isIn ms s.l1 s.l2=true:=by rw [h1,h2'];exact M.isIn_mem (hin _ (List.getElem_mem hlt))
   rw [hq] at C
   clear h1 h2' e1 e2 hq hin
   have i1:(n:Int) < ks.length:=by omega
   go_wp2_with fail
   refine C.mono ?_
   rintro e w1 ⟨rfl,b1⟩
   go_wp2_with fail
   exact ⟨⟨n+1,by go_num,by omega,hb.trans (b1.mono hb.size)⟩,by simp [intOf];omega⟩
  ·go_wp2_with fail
   go_ret
   exact ⟨rfl,hb⟩
end Go.Proofs.YtjjkicffhpcngaaGreat
