/- spec's nets: whether no event is ahead of itself. Of at most 28 events. And what goes with it: HsKa, HsNet, HsCopy, HsWith, HsOrd, HsOut, HsWait, HsE, HsG, HsImp. -/
import Derived.Deep.OwnRows
import Derived.Test.YtmhpgdliaclokaaGreatRows
import Derived.Test.YtmhpgdliaclokaaGreatQyau
import Derived.Test.YtmhpgdliaclokaaGreatQyay
namespace Go.Proofs.YtmhpgdliaclokaaGreat
section
open Go.RowKit
structure NtAt (w:World) (X G n c:Nat) (va:Option Addr) (rb rc:Nat→Nat) (A:Nat→Nat→Bool):Prop where
 box:w.cell? ⟨X,0,none⟩=some (.slice va n c)
 addr:0 < n→va=some ⟨G,0,none⟩
 outer:∀ a,a < n→w.cell? ⟨G,a,none⟩=some (.slice (some ⟨rb a,0,none⟩) n (rc a))
 row:∀ a,a < n→∀ b,b < n→w.cell? ⟨rb a,b,none⟩=some (.bool (A a b))
theorem NtAt.below {w w':World} {X G n c:Nat} {va:Option Addr} {rb rc:Nat→Nat} {A:Nat→Nat→Bool} (h:NtAt w X G n c va rb rc A) (hb:Below w.heap.size w w'):NtAt w' X G n c va rb rc A :=
 ⟨(hb.cell (World.block_lt_of_cell? _ _ h.box)).trans h.box,h.addr,fun a ha=>(hb.cell (World.block_lt_of_cell? _ _ (h.outer a ha))).trans (h.outer a ha),fun a ha b hb'=>(hb.cell (World.block_lt_of_cell? _ _ (h.row a ha b hb'))).trans (h.row a ha b hb')⟩
namespace M
def freeTo (A:Nat→Nat→Bool) (gone:Nat→Bool) (b a:Nat):Bool:=!gone b&&(List.range a).all fun a=>gone a||!A a b
theorem freeTo_all (A:Nat→Nat→Bool) (n:Nat) (gone:Nat→Bool) (b:Nat):freeTo A gone b n=free A n gone b:=rfl
theorem freeTo_succ (A:Nat→Nat→Bool) (gone:Nat→Bool) (b a:Nat):freeTo A gone b (a+1)=(freeTo A gone b a&&(gone a||!A a b)):=by
 unfold freeTo
 rw [List.range_succ,List.all_append,← Bool.and_assoc]
 simp
theorem freeTo_no {A : Nat → Nat → Bool} {gone : Nat → Bool} {b a n : Nat} (h : freeTo A gone b a = false) (ha : a ≤ n) : free A n gone b = false := by
  rw [← freeTo_all]
  induction n with
  | zero => obtain rfl : a = 0 := by omega
            exact h
  | succ n ih =>
    rcases Nat.lt_or_ge n a with h1 | h1
    · obtain rfl : a = n + 1 := by omega
      exact h
    · rw [freeTo_succ, ih h1]; rfl
theorem find_none {A:Nat→Nat→Bool} {n:Nat} {gone:Nat→Bool} (h:∀ j,j < n→free A n gone j=false):(List.range n).find? (free A n gone)=none:=by
 rw [List.find?_eq_none]
 intro x hx
 rw [h x (List.mem_range.1 hx)]
 simp
theorem find_some {A:Nat→Nat→Bool} {n b:Nat} {gone:Nat→Bool} (hb:b < n) (hf:free A n gone b=true) (h:∀ j,j < b→free A n gone j=false):(List.range n).find? (free A n gone)=some b:=by
 rw [List.find?_eq_some_iff_getElem]
 refine ⟨hf,b,by simpa using hb,by simp,fun j hj=>?_⟩
 simp only [List.getElem_range]
 rw [h j hj]
 rfl
end M
set_option maxHeartbeats 4000000 in
set_option maxRecDepth 100000 in
theorem netHolds_any (X G n c:Nat) (va:Option Addr) (rb rc:Nat→Nat) (A:Nat→Nat→Bool) (w:World) (hn:n≤28) (h:NtAt w X G n c va rb rc A) :
  Calls Tryz.prog 60 #[.pointer (some ⟨X,0,none⟩)] w fun e w'=>e=.returned (.bool (M.holdsA A n))∧Below w.heap.size w w':=by
 have hmk:=run_make_row' (P:=Tryz.prog) 129 4 (.bool false) 1 Tryz.underlying129 (by kernel_rfl) rfl .i64 .i64 n (by omega) (by omega)
 have k0:=h.box
 have lX:X < w.heap.size:=World.block_lt_of_cell? _ _ k0
 go_enter Tryz.func60,Tryz.ntmps60
 go_wp2_with fail
 have hrow:=World.rowIs_made w (.bool false) n 4
 have bA:=below1 w (.cells (madeCells #[.bool false] n) 4)
 clear hmk
 generalize w.alloc (.cells (madeCells #[.bool false] n) 4)=WA at *
 obtain ⟨R,hR⟩:∃ R,w.heap.size=R:=⟨_,rfl⟩
 have HR:Hid (w.heap.size=R):=hR
 rw [hR] at hrow lX ⊢
 clear hR k0
 go_loopw [4] (fun s4 wr=>∃ (k:Nat) (gone:Nat→Bool),s4=.int .i64 k∧k≤n∧Hid (M.holdsA A n=M.kahn A n k gone)∧wr.rowIs R 4 n (fun j=>.bool (gone j))∧Below w.heap.size w wr) (fun s4 _=>(intOf s4).toNat)
 case atStart=>exact ⟨n,fun _=>false,rfl,Nat.le_refl _,by show _=_;rfl,hrow,bA⟩
 case round =>
  obtain ⟨k,gone,rfl,hk,HK,hrw,hbel⟩:=hrel
  clear hrow bA
  have hN:=h.below hbel
  have k0:=hN.box
  by_cases hk0:0 < k
  ·have hk0':(0:Int) < k:=by omega
   obtain ⟨rfl⟩:=h.addr (by omega)
   obtain ⟨k',rfl⟩:∃ k',k=k'+1:=⟨k - 1,by omega⟩
   go_wp2_with fail
   go_loopw [5,6] (fun s5 s6 wi=>∃ b:Nat,s6=.int .i64 b∧b≤n∧((s5=.int .i64 (-1)∧∀ j,j < b→M.free A n gone j=false)∨∃ j:Nat,s5=.int .i64 j∧j < n∧Hid ((List.range n).find? (M.free A n gone)=some j))∧wi=wr) (fun _ s6 _=>n - (intOf s6).toNat)
   case atStart=>exact ⟨0,rfl,Nat.zero_le _,.inl ⟨rfl,fun j hj=>absurd hj (Nat.not_lt_zero _)⟩,rfl⟩
   case round =>
    obtain ⟨b,rfl,hb,hor,rfl⟩:=hrel
    rcases hor with ⟨rfl,hno⟩ | ⟨j,rfl,hj,HJ⟩
    ·by_cases hbn:b < n
     ·have hbn':(b:Int) < n:=by omega
      have cb:=hrw.cell hbn
      have HNo:Hid (∀ j,j < b→M.free A n gone j=false):=hno
      clear hno
      go_wp2_with fail
      go_loopw [7,8] (fun s7 s8 wj=>∃ a:Nat,s7=.bool (M.freeTo A gone b a)∧s8=.int .i64 a∧a≤n∧wj=wr) (fun _ s8 _=>n - (intOf s8).toNat)
      case atStart=>exact ⟨0,by simp [M.freeTo],rfl,Nat.zero_le _,rfl⟩
      case round =>
       obtain ⟨a,rfl,rfl,ha,rfl⟩:=hrel
       by_cases han:a < n
       ·have han':(a:Int) < n:=by omega
        cases hfa:M.freeTo A gone b a
        ·-- not free
         have hfr:=M.freeTo_no hfa ha
         clear hfa
         go_wp2_with fail
         exact ⟨⟨b+1,by go_num,by omega,.inl ⟨rfl,fun j hj=>by
          by_cases e:j=b
          ·subst e;exact hfr
          ·exact HNo.out j (by omega)⟩,trivial⟩,by simp [intOf];omega⟩
        ·have HS:Hid (M.freeTo A gone b (a+1)=(gone a||!A a b)):=by show _=_;rw [M.freeTo_succ,hfa,Bool.true_and]
         have ca:=hrw.cell han
         have oa:=hN.outer a han
         have ra:=hN.row a han b hbn
         clear hfa
         cases hga:gone a
         ·rw [hga] at ca
          go_wp2_with fail
          exact ⟨⟨a+1,by rw [HS.out,hga];simp,by go_num,by omega,trivial⟩,by simp [intOf];omega⟩
         ·rw [hga] at ca
          go_wp2_with fail
          exact ⟨⟨a+1,by rw [HS.out,hga];simp,by go_num,by omega,trivial⟩,by simp [intOf];omega⟩
       ·obtain rfl:a=n:=by omega
        have han':¬ ((a:Nat):Int) < a:=by omega
        rw [M.freeTo_all]
        cases hfr:M.free A a gone b
        ·go_wp2_with fail
         exact ⟨⟨b+1,by go_num,by omega,.inl ⟨rfl,fun j hj=>by
          by_cases e:j=b
          ·subst e;exact hfr
          ·exact HNo.out j (by omega)⟩,trivial⟩,by simp [intOf];omega⟩
        ·have HJ:Hid ((List.range a).find? (M.free A a gone)=some b):=M.find_some hbn hfr HNo.out
         clear hfr
         go_wp2_with fail
         exact ⟨⟨b+1,by go_num,by omega,.inr ⟨b,rfl,hbn,HJ⟩,trivial⟩,by simp [intOf];omega⟩
     ·obtain rfl:b=n:=by omega
      have HF:Hid (M.holdsA A b=false):=by show _=_;rw [HK.out,M.kahn,M.find_none hno]
      have hbn':¬ ((b:Nat):Int) < b:=by omega
      clear hno
      go_wp2_with fail
      go_ret
      exact ⟨ret_bool HF.out.symm,hbel⟩
    ·have HK2:Hid (M.holdsA A n=M.kahn A n k' (fun x=>gone x||x==j)):=by show _=_;rw [HK.out,M.kahn,HJ.out]
     have hj0:¬ (j:Int) < 0:=by omega
     have hj0':decide ((j:Int) < 0)=false:=by simp
     have hjn:(j:Int) < n:=by omega
     have cj:=hrw.cell hj
     have fj:=hrw.frozen j
     have hrw2:(wr.setCell ⟨R,j,none⟩ (.bool true)).rowIs R 4 n (fun x=>.bool (gone x||x==j)):=(hrw.set j (.bool true)).congr (fun i _=>by
      by_cases e:i=j
      ·subst e;simp
      ·have e':(i==j)=false:=by simpa using e
       rw [if_neg e,e',Bool.or_false])
     have hb2:Below w.heap.size w (wr.setCell ⟨R,j,none⟩ (.bool true)):=hbel.setCell (by show w.heap.size≤R;rw [HR.out];exact Nat.le_refl _) _
     clear HJ HK
     by_cases hbn:b < n
     ·have hbn':(b:Int) < n:=by omega
      go_wp2_with fail
      exact ⟨⟨k',fun x=>gone x||x==j,by go_num,by omega,HK2,hrw2,hb2⟩,by simp [intOf]⟩
     ·have hbn':¬ (b:Int) < n:=by omega
      have hbn2:decide ((b:Int) < n)=false:=by simpa using hbn'
      go_wp2_with fail
      exact ⟨⟨k',fun x=>gone x||x==j,by go_num,by omega,HK2,hrw2,hb2⟩,by simp [intOf]⟩
  ·obtain rfl:k=0:=by omega
   have HF:Hid (M.holdsA A n=true):=by show _=_;rw [HK.out];rfl
   go_wp2_with fail
   go_ret
   exact ⟨ret_bool HF.out.symm,hbel⟩
end
section
open Go.RowKit
theorem Tryz.infoRb:(Tryz.prog.info? 129).map (fun i=>(i.zero,i.size,i.bytes))=some (some (.slice none 0 0),1,24):=by kernel_rfl
theorem own_apart2 {w:World} {B B':Nat} {e e':TypeId} {size size':Nat} {v v':Value} {n n':Nat} {xs xs':List Value} (h:w.ownsRow B e size v n xs) (h':w.ownsRow B' e' size' v' n' xs') (he:e≠e'):v.ownBlock=none∨v.ownBlock≠v'.ownBlock:=by
 rcases h.2 with ⟨hv,_⟩ | ⟨g,cap,cur,hv,_,hh,_⟩
 ·exact Or.inl (by rw [hv];rfl)
 ·right
  rcases h'.2 with ⟨hv',_⟩ | ⟨g',cap',cur',hv',_,hh',_⟩
  ·rw [hv,hv'];simp [Value.ownBlock]
  ·rw [hv,hv']
   intro e2
   simp [Value.ownBlock] at e2
   rw [e2] at hh
   rw [hh] at hh'
   simp at hh'
   exact he hh'.2
theorem own_far2 {w:World} {B:Nat} {e:TypeId} {size:Nat} {v:Value} {n:Nat} {xs:List Value} (ho:w.ownsRow B e size v n xs) {b i:Nat} (hb:b < B) (u:Value):(w.setCell ⟨b,i,none⟩ u).ownsRow B e size v n xs:=by
 refine ⟨ho.1,?_⟩
 rcases ho.2 with h | ⟨g,cap,cur,hv,hg,hh,r⟩
 ·exact .inl h
 ·exact .inr ⟨g,cap,cur,hv,hg,(Below.heap_setCell _ _ _ _ (by show g≠b;omega)).trans hh,r⟩
theorem own_mono2 {w:World} {base base':Nat} {e:TypeId} {size:Nat} {v:Value} {n:Nat} {xs:List Value} (h:w.ownsRow base e size v n xs) (hb:base'≤base):w.ownsRow base' e size v n xs:=by
 refine ⟨h.1,?_⟩
 rcases h.2 with h | ⟨g,cap,cur,hv,hg,r⟩
 ·exact .inl h
 ·exact .inr ⟨g,cap,cur,hv,Nat.le_trans hb hg,r⟩
structure NB (w:World) (B:Nat) (v:Value) (rows:List (List Bool)) (vs:List Value):Prop where
 outer:w.ownsRow B 129 1 v rows.length vs
 len:vs.length=rows.length
 inner:∀ i (h:i < rows.length) (h':i < vs.length),w.ownsRow B 4 1 vs[i] rows[i].length (bools rows[i])
 ap:∀ i j (hi:i < vs.length) (hj:j < vs.length),i≠j→∀ k,vs[i].ownBlock=some k→vs[j].ownBlock≠some k
theorem NB.nil (w:World) (B:Nat):NB w B (.slice none 0 0) [] []:=⟨World.ownsRow_nil _ _ _ _,rfl,fun _ h=>absurd h (Nat.not_lt_zero _),fun _ _ h=>absurd h (Nat.not_lt_zero _)⟩
theorem NB.below {w w':World} {B:Nat} {v:Value} {rows:List (List Bool)} {vs:List Value} (h:NB w B v rows vs) (hb:Below w.heap.size w w'):NB w' B v rows vs :=
 ⟨ownsRow_below h.outer hb,h.len,fun i h1 h2=>ownsRow_below (h.inner i h1 h2) hb,h.ap⟩
theorem NB.far {w:World} {B:Nat} {v:Value} {rows:List (List Bool)} {vs:List Value} (h:NB w B v rows vs) {b i:Nat} (hb:b < B) (u:Value):NB (w.setCell ⟨b,i,none⟩ u) B v rows vs :=
 ⟨own_far2 h.outer hb u,h.len,fun i h1 h2=>own_far2 (h.inner i h1 h2) hb u,h.ap⟩
theorem NB.snoc {w w':World} {B:Nat} {v v' x:Value} {rows:List (List Bool)} {vs:List Value} {l:List Bool} (h:NB w B v rows vs) (hx:w.ownsRow B 4 1 x l.length (bools l)) (hap:∀ i (hi:i < vs.length) k,vs[i].ownBlock=some k→x.ownBlock≠some k)
  (ho:w'.ownsRow B 129 1 v' (rows.length+1) (vs++[x])) (hg:w.grownBy w' v.ownBlock):NB w' B v' (rows++[l]) (vs++[x]):=by
 have hl:=h.len
 refine ⟨by rw [List.length_append];exact ho,by simp [hl],fun i h1 h2=>?_,fun i j hi hj hne k hk=>?_⟩
 ·by_cases hi:i < rows.length
  ·rw [List.getElem_append_left (by omega),List.getElem_append_left hi]
   exact (h.inner i hi (by omega)).kept hg (own_apart2 (h.inner i hi (by omega)) h.outer (by decide))
  ·obtain rfl:i=rows.length:=by simp at h1;omega
   have e1:(rows++[l])[rows.length]=l:=by simp
   have e2:(vs++[x])[rows.length]=x:=by
    rw [List.getElem_append_right (by omega)]
    simp [hl]
   rw [e1,e2]
   exact hx.kept hg (own_apart2 hx h.outer (by decide))
 ·by_cases h1:i < vs.length
  ·rw [List.getElem_append_left h1] at hk
   by_cases h2:j < vs.length
   ·rw [List.getElem_append_left h2]
    exact h.ap i j h1 h2 hne k hk
   ·rw [List.getElem_append_right (by omega)]
    have:j - vs.length=0:=by simp at hj;omega
    simp only [this,List.getElem_cons_zero]
    exact hap i h1 k hk
  ·rw [List.getElem_append_right (by omega)] at hk
   have:i - vs.length=0:=by simp at hi;omega
   simp only [this,List.getElem_cons_zero] at hk
   have h2:j < vs.length:=by simp at hi hj;omega
   rw [List.getElem_append_left h2]
   exact fun e=>hap j h2 k e hk
structure NtO (w:World) (B X G n c:Nat) (va:Option Addr) (rb rc:Nat→Nat) (A:Nat→Nat→Bool):Prop where
 nt:NtAt w X G n c va rb rc A
 geX:B≤X
 ge:∀ a,a < n→B≤rb a
 fz:∀ a,a < n→∀ j,w.frozen? ⟨rb a,j,none⟩=false
 ap:∀ a a',a < n→a' < n→a≠a'→rb a≠rb a'
 apX:∀ a,a < n→rb a≠X
 apG:∀ a,a < n→rb a≠G
theorem NtO.below {w w':World} {B X G n c:Nat} {va:Option Addr} {rb rc:Nat→Nat} {A:Nat→Nat→Bool} (h:NtO w B X G n c va rb rc A) (hb:Below w.heap.size w w'):NtO w' B X G n c va rb rc A :=
 ⟨h.nt.below hb,h.geX,h.ge,fun a ha j=>(hb.frozen (p:=⟨rb a,j,none⟩) (show rb a < w.heap.size from World.block_lt_of_cell? _ _ (h.nt.row a ha 0 (by omega)))).trans (h.fz a ha j),h.ap,h.apX,h.apG⟩
theorem NtO.set {w:World} {B X G n c:Nat} {va:Option Addr} {rb rc:Nat→Nat} {A:Nat→Nat→Bool} (h:NtO w B X G n c va rb rc A) {a b:Nat} (ha:a < n) (hb:b < n):NtO (w.setCell ⟨rb a,b,none⟩ (.bool true)) B X G n c va rb rc (M.setA A (a,b)):=by
 refine ⟨⟨?_,h.nt.addr,fun i hi=>?_,fun i hi j hj=>?_⟩,h.geX,h.ge,fun i hi j=>by rw [World.frozen?_setCell];exact h.fz i hi j,h.ap,h.apX,h.apG⟩
 ·rw [World.cell?_setCell_other _ _ _ _ (fun e=>h.apX a ha (congrArg Addr.block e))];exact h.nt.box
 ·rw [World.cell?_setCell_other _ _ _ _ (fun e=>h.apG a ha (congrArg Addr.block e))];exact h.nt.outer i hi
 ·by_cases e1:i=a
  ·subst e1
   by_cases e2:j=b
   ·subst e2
    rw [World.cell?_setCell_same _ _ _ (h.nt.row i hi j hj)]
    simp [M.setA]
   ·rw [World.cell?_setCell_other _ _ _ _ (fun e=>e2 (by have:=congrArg Addr.off e;simp at this;omega)),h.nt.row i hi j hj]
    have e2':(j==b)=false:=by simpa using e2
    simp [M.setA,e2']
  ·rw [World.cell?_setCell_other _ _ _ _ (fun e=>h.ap a i ha hi (fun e=>e1 e.symm) (congrArg Addr.block e)),h.nt.row i hi j hj]
   have e1':(i==a)=false:=by simpa using e1
   simp [M.setA,e1']
def M.rowsB (A:Nat→Nat→Bool) (n k:Nat):List (List Bool):=(List.range k).map fun a=>(List.range n).map fun b=>A a b
theorem M.rowsB_len (A:Nat→Nat→Bool) (n k:Nat):(M.rowsB A n k).length=k:=by simp [M.rowsB]
theorem M.rowsB_succ (A:Nat→Nat→Bool) (n k:Nat):M.rowsB A n (k+1)=M.rowsB A n k++[(List.range n).map fun b=>A k b]:=by simp [M.rowsB,List.range_succ]
theorem NB.net {w:World} {B X n c:Nat} {va:Option Addr} {A:Nat→Nat→Bool} {vs:List Value} (h:NB w (X+1) (.slice va n c) (M.rowsB A n n) vs) (hX:w.cell? ⟨X,0,none⟩=some (.slice va n c)) (hB:B≤X) :
  ∃ G rb rc,NtO w B X G n c va rb rc A:=by
 have hlen:=h.len
 rw [M.rowsB_len] at hlen
 have hout:=h.outer
 rw [M.rowsB_len] at hout
 have key:∀ a (ha:a < n),∃ g cap,vs[a]'(by omega)=.slice (some ⟨g,0,none⟩) n cap∧X+1≤g∧(∀ j,w.frozen? ⟨g,j,none⟩=false)∧∀ b,b < n→w.cell? ⟨g,b,none⟩=some (.bool (A a b)):=by
  intro a ha
  have hi:=h.inner a (by rw [M.rowsB_len];exact ha) (by omega)
  have e1:(M.rowsB A n n)[a]'(by rw [M.rowsB_len];exact ha)=(List.range n).map fun b=>A a b:=by simp [M.rowsB]
  rw [e1] at hi
  simp only [List.length_map,List.length_range] at hi
  have hi2:=hi
  rcases hi.2 with ⟨_,h0⟩ | ⟨g,cap,cur,hv,hg,hh,r⟩
  ·omega
  ·refine ⟨g,cap,hv,hg,fun j=>?_,fun b hb=>?_⟩
   ·rw [hv] at hi2;exact own_fzS hi2 j
   ·have:=hi2.cells (g:=g) (by rw [hv];rfl) b (.bool (A a b)) (by simp [bools,hb])
    rwa [Go.WideShapes.add_plain,Nat.zero_add] at this
 haveI:Inhabited (Nat × Nat):=⟨(0,0)⟩
 obtain ⟨f,hf⟩:∃ f:Nat→Nat × Nat,∀ a (ha:a < n),vs[a]'(by omega)=.slice (some ⟨(f a).1,0,none⟩) n (f a).2∧X+1≤(f a).1∧(∀ j,w.frozen? ⟨(f a).1,j,none⟩=false)∧∀ b,b < n→w.cell? ⟨(f a).1,b,none⟩=some (.bool (A a b)):=by
  refine ⟨fun a=>if ha:a < n then (Classical.choose (key a ha),Classical.choose (Classical.choose_spec (key a ha))) else (0,0),fun a ha=>?_⟩
  simp only [dif_pos ha]
  exact Classical.choose_spec (Classical.choose_spec (key a ha))
 have hG:∃ G,(0 < n→va=some ⟨G,0,none⟩)∧∀ a (ha:a < n),w.cell? ⟨G,a,none⟩=some (vs[a]'(by omega)):=by
  rcases hout.2 with ⟨_,h0⟩ | ⟨g,cap,cur,hv,hg,hh,r⟩
  ·exact ⟨0,fun hp=>by omega,fun a ha=>by omega⟩
  ·have e:=hv
   simp only [Value.slice.injEq] at e
   refine ⟨g,fun _=>e.1,fun a ha=>?_⟩
   have:=hout.cells (g:=g) (by rw [hv];rfl) a (vs[a]'(by omega)) (List.getElem?_eq_getElem (by omega))
   rwa [Go.WideShapes.add_plain,Nat.zero_add] at this
 obtain ⟨G,hG1,hG2⟩:=hG
 refine ⟨G,fun a=>(f a).1,fun a=>(f a).2,⟨hX,hG1,fun a ha=>by rw [hG2 a ha,(hf a ha).1],fun a ha b hb=>(hf a ha).2.2.2 b hb⟩,hB,fun a ha=>by have:=(hf a ha).2.1;omega,fun a ha=>(hf a ha).2.2.1,fun a a' ha ha' hne e=>?_,fun a ha=>by have:=(hf a ha).2.1;omega,fun a ha e=>?_⟩
 ·have hap:=h.ap a a' (by omega) (by omega) hne (f a).1 (by rw [(hf a ha).1];rfl)
  rw [(hf a' ha').1] at hap
  exact hap (by show some (f a').1=some (f a).1;rw [e])
 ·have hi:=h.inner a (by rw [M.rowsB_len];exact ha) (by omega)
  rcases own_apart2 hi h.outer (by decide) with h1 | h1
  ·rw [(hf a ha).1] at h1;cases h1
  ·rw [(hf a ha).1] at h1
   have:=hG1 (by omega)
   subst this
   exact h1 (by show some (f a).1=some G;rw [e])
end
section
open Go.RowKit
structure S1 (w:World) (b:Nat) (x:Value):Prop where
 c:w.cell? ⟨b,0,none⟩=some x
 fz:w.frozen? ⟨b,0,none⟩=false
theorem S1.lt {w:World} {b:Nat} {x:Value} (h:S1 w b x):b < w.heap.size:=World.block_lt_of_cell? _ _ h.c
theorem S1.bl {w w':World} {b:Nat} {x:Value} (h:S1 w b x) (hb:Below w.heap.size w w'):S1 w' b x :=
 ⟨(hb.cell (p:=⟨b,0,none⟩) h.lt).trans h.c,(hb.frozen (p:=⟨b,0,none⟩) h.lt).trans h.fz⟩
theorem S1.grown {w w':World} {b:Nat} {x:Value} {row:Option Nat} (h:S1 w b x) (hg:w.grownBy w' row) (hr:row≠some b):S1 w' b x:=by
 have hne:some b≠row:=fun e=>hr e.symm
 exact ⟨hg.cell h.c hne,(World.frozen?_of_block (w:=w) (hg.block b h.lt hne)).trans h.fz⟩
theorem S1.set {w:World} {b:Nat} {x:Value} (h:S1 w b x) (u:Value):S1 (w.setCell ⟨b,0,none⟩ u) b u :=
 ⟨World.cell?_setCell_same _ _ _ h.c,by rw [World.frozen?_setCell];exact h.fz⟩
structure NBk (w:World) (B:Nat) (v:Value) (rows:List (List Bool)) (vs:List Value) (k:Nat):Prop where
 nb:NB w B v rows vs
 lenk:rows.length=k
theorem NBk.outerk {w:World} {B:Nat} {v:Value} {rows:List (List Bool)} {vs:List Value} {k:Nat} (h:NBk w B v rows vs k):w.ownsRow B 129 1 v k vs:=by have:=h.nb.outer;rwa [h.lenk] at this
theorem own_sl {w:World} {B:Nat} {e:TypeId} {size:Nat} {v:Value} {n:Nat} {xs:List Value} (h:w.ownsRow B e size v n xs):∃ a c,v=.slice a n c:=by
 rcases h.2 with ⟨hv,h0⟩ | ⟨g,cap,cur,hv,_⟩
 ·exact ⟨none,0,by rw [hv,h0]⟩
 ·exact ⟨_,cap,hv⟩
theorem own_empty2 {X:World} {base g:Nat} {e:TypeId} (h:X.heap[g]?=some (.cells #[] e (0,0))) (hb:base≤g):X.ownsRow base e 1 (.slice (some ⟨g,0,none⟩) 0 0) 0 [] :=
 ⟨by simp,.inr ⟨g,0,#[],rfl,hb,h,Nat.le_refl _,Nat.zero_le _,by simp,by simp⟩⟩
set_option maxHeartbeats 4000000 in
set_option maxRecDepth 100000 in
set_option linter.unusedSimpArgs false in
theorem copy_any (X G n c:Nat) (va:Option Addr) (rb rc:Nat→Nat) (A:Nat→Nat→Bool) (w:World) (hn:n≤28) (h:NtAt w X G n c va rb rc A) :
  Calls Tryz.prog 82 #[.pointer (some ⟨X,0,none⟩)] w fun e w'=>∃ X',e=.returned (.pointer (some ⟨X',0,none⟩))∧(∃ G' c' va' rb' rc',NtO w' w.heap.size X' G' n c' va' rb' rc' A)∧Below w.heap.size w w':=by
 obtain ⟨i0,hi,hz0,hz1,hz2⟩:=info_parts Tryz.infoBool
 obtain ⟨j0,hj,hy0,hy1,hy2⟩:=info_parts Tryz.infoRb
 have lX0:X < w.heap.size:=World.block_lt_of_cell? _ _ h.box
 go_enter Tryz.func82,Tryz.ntmps82
 go_wp2_with fail
 go_loopw [4] (fun s4 wr=>∃ (k:Nat) (v:Value) (vs:List Value),s4=.int .i64 k∧k≤n∧S1 wr w.heap.size v∧NB wr (w.heap.size+1) v (M.rowsB A n k) vs∧Below w.heap.size w wr) (fun s4 _=>n - (intOf s4).toNat)
 case atStart=>exact ⟨0,.slice none 0 0,[],rfl,Nat.zero_le _,⟨by simp,by simp⟩,NB.nil _ _,below1 _ _⟩
 case round =>
  obtain ⟨k,v,vs,rfl,hk,hS,hNB,hbel⟩:=hrel
  have hN:=h.below hbel
  have n0:=hN.box
  by_cases hkn:k < n
  ·obtain ⟨rfl⟩:=h.addr (by omega)
   have hkn':(k:Int) < n:=by omega
   have o0:=hN.outer k hkn
   have hr0:=hN.row k hkn
   have x0:=hS.c
   have xf:=hS.fz
   have lN:w.heap.size < wr.heap.size:=hS.lt
   have lX:X < wr.heap.size:=World.block_lt_of_cell? _ _ n0
   have lG:G < wr.heap.size:=World.block_lt_of_cell? _ _ o0
   have hlen:=M.rowsB_len A n k
   have hout:=hNB.outer
   rw [hlen] at hout
   obtain ⟨vo,co,rfl⟩:=own_sl hout
   have HRS:Hid (M.rowsB A n (k+1)=M.rowsB A n k++[(List.range n).map fun b=>A k b]):=M.rowsB_succ A n k
   have hsrc:∀ j u,(bools ((List.range n).map fun b=>A k b))[j]?=some u→wr.cell? ((⟨rb k,0,none⟩:Addr).add j)=some u:=fun j u hj=>by
    have hjn:j < n:=by
     have:=(List.getElem?_eq_some_iff.1 hj).1
     simpa [bools] using this
    rw [Go.WideShapes.add_plain,Nat.zero_add,hr0 j hjn]
    simpa [bools,hjn] using hj
   have lR:rb k < wr.heap.size:=World.block_lt_of_cell? _ _ (hr0 0 (by omega))
   have hone:∀ u∈bools ((List.range n).map fun b=>A k b),u.oneCell'=true:=fun u hu=>by
    obtain ⟨x,_,rfl⟩:=List.mem_map.1 hu
    rfl
   have hbl:(bools ((List.range n).map fun b=>A k b)).length=n * 1:=by simp [bools]
   generalize (List.range n).map (fun b=>A k b)=row at *
   have hnx:w.heap.size≠X:=by omega
   have hpn:0 < n:=by omega
   have CB:∀ w',Below w.heap.size w w'→w'.cell? ⟨X,0,none⟩=some (.slice (some ⟨G,0,none⟩) n c):=fun w' hw=>(hw.cell (p:=⟨X,0,none⟩) lX0).trans h.box
   have CG:∀ w',Below w.heap.size w w'→w'.cell? ⟨G,k,none⟩=some (.slice (some ⟨rb k,0,none⟩) n (rc k)):=fun w' hw=>(hw.cell (p:=⟨G,k,none⟩) (World.block_lt_of_cell? _ _ (h.outer k hkn))).trans (h.outer k hkn)
   have bE:Below wr.heap.size wr (wr.drew.alloc (.cells #[] 4)):=(Below.refl wr.heap.size wr).drew.alloc (Nat.le_refl _) _
   have SA:Below w.heap.size w (wr.drew.alloc (.cells #[] 4)):=hbel.trans (bE.mono hbel.size)
   have SXA:=(hS.bl bE).c
   have OA:(wr.drew.alloc (.cells #[] 4)).ownsRow wr.heap.size 4 1 (.slice (some ⟨wr.heap.size,0,none⟩) 0 0) 0 []:=own_empty2 (heap_alloc_new wr.drew _) (Nat.le_refl _)
   have NA:∀ j u,(bools row)[j]?=some u→(wr.drew.alloc (.cells #[] 4)).cell? ((⟨rb k,0,none⟩:Addr).add j)=some u:=fun j u hj=>by
    have h1:=hsrc j u hj
    rw [Go.WideShapes.add_plain] at h1 ⊢
    exact (bE.cell (World.block_lt_of_cell? _ _ h1)).trans h1
   have F4:Hid (∀ (g4 cap4:Nat) (w4:World),w4.ownsRow wr.heap.size 4 1 (.slice (some ⟨g4,0,none⟩) (0+n) cap4) (0+n) ([]++bools row)→(wr.drew.alloc (.cells #[] 4)).grownBy w4 (Value.slice (some ⟨wr.heap.size,0,none⟩) 0 0).ownBlock→Below wr.heap.size wr w4∧S1 w4 w.heap.size (.slice vo k co)∧NBk w4 (w.heap.size+1) (.slice vo k co) (M.rowsB A n k) vs k∧w4.ownsRow wr.heap.size 4 1 (.slice (some ⟨g4,0,none⟩) n cap4) row.length (bools row)):=by
    intro g4 cap4 w4 ho hg
    have b4:Below wr.heap.size wr w4:=below_grown bE hg (fun j hj=>by have:wr.heap.size=j:=Option.some.inj hj;omega) bE.size
    have hrl:row.length=n:=by simpa [bools] using hbl
    exact ⟨b4,hS.bl b4,⟨hNB.below b4,hlen⟩,by rw [hrl];simpa using ho⟩
   have F5:Hid (∀ (g4 cap4:Nat) (w4:World),Below wr.heap.size wr w4→S1 w4 w.heap.size (.slice vo k co)→NBk w4 (w.heap.size+1) (.slice vo k co) (M.rowsB A n k) vs k→w4.ownsRow wr.heap.size 4 1 (.slice (some ⟨g4,0,none⟩) n cap4) row.length (bools row)→∀ (g5 cap5:Nat) (w5:World),w5.ownsRow (w.heap.size+1) 129 1 (.slice (some ⟨g5,0,none⟩) (k+1) cap5) (k+1) (vs++[.slice (some ⟨g4,0,none⟩) n cap4])→(w4.alloc (.cells #[.slice (some ⟨g4,0,none⟩) n cap4] 129)).grownBy w5 (Value.slice vo k co).ownBlock→Below w.heap.size w w5∧S1 w5 w.heap.size (.slice vo k co)∧NB w5 (w.heap.size+1) (.slice (some ⟨g5,0,none⟩) (k+1) cap5) (M.rowsB A n k++[row]) (vs++[.slice (some ⟨g4,0,none⟩) n cap4])):=by
    intro g4 cap4 w4 b4 hS4 hNB4 hx4 g5 cap5 w5 ho hg
    have hal:=below1 w4 (.cells #[.slice (some ⟨g4,0,none⟩) n cap4] 129)
    have hge:=own_ge hNB.outer
    have b4a:=b4.trans (hal.mono b4.size)
    have bwa:=hbel.trans (b4a.mono hbel.size)
    refine ⟨below_grown bwa hg (fun j hj=>by have:=hge j hj;omega) bwa.size,(hS4.bl hal).grown hg (fun e=>by have:=hge _ e;omega),(hNB4.nb.below hal).snoc (own_mono2 (ownsRow_below hx4 hal) (by omega)) (fun i hi j hj e=>?_) (by rw [hlen];exact ho) hg⟩
    have h1:=((hNB.inner i (by have:=hNB.len;omega) hi).lt j hj).2
    have h2:=own_ge hx4 j e
    omega
   go_wp2_with fail
   refine wp_region_held_drew (S:=fun w'=>Below w.heap.size w w') (by kernel_rfl) hbel.drew (fun hH=>?_)
   refine tk 0 16 (.pointer (some ⟨w.heap.size,0,none⟩)) hH rfl rfl (by intro w' hSw;go_simp) ?_
   simp only [Act.put,zqa,zqb,zqc]
   refine tk 1 17 (.pointer (some ⟨w.heap.size,0,none⟩)) hH rfl rfl (by intro w' hSw;go_simp) ?_
   simp only [Act.put,zqa,zqb,zqc]
   refine tk 2 18 (.pointer (some ⟨w.heap.size,0,none⟩)) hH rfl rfl (by intro w' hSw;go_simp) ?_
   simp only [Act.put,zqa,zqb,zqc]
   refine tk 3 19 (.pointer (some ⟨w.heap.size,0,none⟩)) hH rfl rfl (by intro w' hSw;go_simp) ?_
   simp only [Act.put,zqa,zqb,zqc]
   refine tk 6 22 (.pointer (some ⟨X,0,none⟩)) hH rfl rfl (by intro w' hSw;go_simp) ?_
   simp only [Act.put,zqa,zqb,zqc]
   refine tk 7 23 (.pointer (some ⟨X,0,none⟩)) hH rfl rfl (by intro w' hSw;go_simp) ?_
   simp only [Act.put,zqa,zqb,zqc]
   refine tk 8 24 (.pointer (some ⟨X,0,none⟩)) hH rfl rfl (by intro w' hSw;go_simp) ?_
   simp only [Act.put,zqa,zqb,zqc]
   refine tk 9 25 (.slice (some ⟨G,0,none⟩) n c) hH rfl rfl (by intro w' hSw;have hc:=CB w' hSw;go_simp) ?_
   simp only [Act.put,zqa,zqb,zqc]
   refine tk 10 26 (.int .i64 k) hH rfl rfl (by intro w' hSw;go_simp) ?_
   simp only [Act.put,zqa,zqb,zqc]
   refine tk 11 27 (.pointer (some ⟨G,k,none⟩)) hH rfl rfl (by intro w' hSw;go_simp) ?_
   simp only [Act.put,zqa,zqb,zqc]
   refine tk 12 28 (.slice (some ⟨rb k,0,none⟩) n (rc k)) hH rfl rfl (by intro w' hSw;have hc:=CG w' hSw;go_simp) ?_
   simp only [Act.put,zqa,zqb,zqc]
   refine wpAnyH_ready (rs:=[4,5]) (by kernel_rfl) (by simp) ?_
   refine AllReadyH.cons rfl (fun K' hK=>?_) (AllReadyH.cons rfl (fun K' hK=>?_) AllReadyH.nil)
   ·have xx:=x0
    rw [if_pos (by rfl)]
    go_simp
    refine hK.out _ _ hH (fun _=>?_)
    clear hK K' xx
    refine ry 5 rfl (fun K' hK=>?_)
    rw [if_pos (by rfl)]
    go_simp
    refine hK.out _ _ SA (fun _=>?_)
    clear hK K'
    refine ry 13 rfl (fun K' hK=>?_)
    refine step_append_lies _ (by rfl) (.tmp 21) (.tmp 28) 129 (by rfl) wr.heap.size 4 i0 _ 1 1 Tryz.underlying129 hi hz0 hz1 hz2 rfl (by decide) (.slice (some ⟨wr.heap.size,0,none⟩) 0 0) 0 [] (by rfl) OA ⟨rb k,0,none⟩ n (rc k) (bools row) (by rfl) hbl NA hone hpn (by unfold maxLen;omega) (by omega) (by simp) (wr.heap.size+1) (by simp) ?_
    intro g4 cap4 w4 hown4 hg4 hat4 hlt4
    obtain ⟨b4,hS4,hNB4,hx4⟩:=F4.out g4 cap4 w4 hown4 hg4
    simp only [Nat.zero_add,Act.put,List.setIfInBounds_toArray,List.set_cons_zero,List.set_cons_succ]
    refine hK.out _ _ (hbel.trans (b4.mono hbel.size)) (fun hH4=>?_)
    clear hK K'
    have hS4a:=hS4.bl (below1 w4 (.cells #[.slice (some ⟨g4,0,none⟩) n cap4] 129))
    have S4a:Below w.heap.size w (w4.alloc (.cells #[.slice (some ⟨g4,0,none⟩) n cap4] 129)):=hH4.alloc hH4.size _
    refine ry 14 rfl (fun K' hK=>?_)
    rw [if_pos (by rfl)]
    go_simp
    refine hK.out _ _ S4a (fun _=>?_)
    clear hK K'
    refine ry 15 rfl (fun K' hK=>?_)
    refine step_append_lies _ (by rfl) (.tmp 20) (.tmp 30) 136 (by rfl) (w.heap.size+1) 129 j0 _ 1 24 Tryz.underlying136 hj hy0 hy1 hy2 rfl (by decide) (.slice vo k co) k vs (by rfl) ((hNB4.outerk).alloc _) ⟨w4.heap.size,0,none⟩ 1 1 [.slice (some ⟨g4,0,none⟩) n cap4] (by rfl) (by rfl) (World.news_of_block (cs:=#[.slice (some ⟨g4,0,none⟩) n cap4]) (t:=129) (fr:=(0,0)) (heap_alloc_new w4 _)) (by simp [Value.oneCell']) (by omega) (by unfold maxLen;omega) (by omega) (by have:=b4.size;simp;omega) (w4.heap.size+1) (by simp) ?_
    intro g5 cap5 w5 hown5 hg5 hat5 hlt5
    obtain ⟨b5,hS5,hNB5⟩:=F5.out g4 cap4 w4 b4 hS4 hNB4 hx4 g5 cap5 w5 hown5 hg5
    simp only [Act.put,zqa,zqb,zqc]
    refine hK.out _ _ b5 (fun hH5=>?_)
    clear hK K'
    refine tk 16 32 (.pointer (some ⟨w.heap.size,0,none⟩)) hH5 rfl rfl (by intro w' hSw;go_simp) ?_
    simp only [Act.put,zqa,zqb,zqc]
    refine tk 17 33 (.pointer (some ⟨w.heap.size,0,none⟩)) hH5 rfl rfl (by intro w' hSw;go_simp) ?_
    simp only [Act.put,zqa,zqb,zqc]
    refine ry 18 rfl (fun K' hK=>?_)
    have xc:=hS5.c
    have xz:=hS5.fz
    rw [if_pos (by rfl)]
    go_simp
    refine hK.out _ _ (b5.setCell (Nat.le_refl _) _) (fun _=>?_)
    clear hK K'
    refine wpAnyH_done (by kernel_rfl) ?_ _
    clear xc xz
    go_wp2_with fail
    exact ⟨⟨k+1,_,_,by go_num,by omega,hS5.set _,by rw [HRS.out];exact hNB5.far (by omega) _,b5.setCell (Nat.le_refl _) _⟩,by simp [intOf];omega⟩
   ·rw [if_pos (by rfl)]
    go_simp
    refine hK.out _ _ SA (fun _=>?_)
    clear hK K'
    refine wpAnyH_ready (rs:=[4,13]) (by kernel_rfl) (by simp) ?_
    refine AllReadyH.cons rfl (fun K' hK=>?_) (AllReadyH.cons rfl (fun K' hK=>?_) AllReadyH.nil)
    ·have xx:=SXA
     rw [if_pos (by rfl)]
     go_simp
     refine hK.out _ _ SA (fun _=>?_)
     clear hK K' xx
     refine ry 13 rfl (fun K' hK=>?_)
     refine step_append_lies _ (by rfl) (.tmp 21) (.tmp 28) 129 (by rfl) wr.heap.size 4 i0 _ 1 1 Tryz.underlying129 hi hz0 hz1 hz2 rfl (by decide) (.slice (some ⟨wr.heap.size,0,none⟩) 0 0) 0 [] (by rfl) OA ⟨rb k,0,none⟩ n (rc k) (bools row) (by rfl) hbl NA hone hpn (by unfold maxLen;omega) (by omega) (by simp) (wr.heap.size+1) (by simp) ?_
     intro g4 cap4 w4 hown4 hg4 hat4 hlt4
     obtain ⟨b4,hS4,hNB4,hx4⟩:=F4.out g4 cap4 w4 hown4 hg4
     simp only [Nat.zero_add,Act.put,List.setIfInBounds_toArray,List.set_cons_zero,List.set_cons_succ]
     refine hK.out _ _ (hbel.trans (b4.mono hbel.size)) (fun hH4=>?_)
     clear hK K'
     have hS4a:=hS4.bl (below1 w4 (.cells #[.slice (some ⟨g4,0,none⟩) n cap4] 129))
     have S4a:Below w.heap.size w (w4.alloc (.cells #[.slice (some ⟨g4,0,none⟩) n cap4] 129)):=hH4.alloc hH4.size _
     refine ry 14 rfl (fun K' hK=>?_)
     rw [if_pos (by rfl)]
     go_simp
     refine hK.out _ _ S4a (fun _=>?_)
     clear hK K'
     refine ry 15 rfl (fun K' hK=>?_)
     refine step_append_lies _ (by rfl) (.tmp 20) (.tmp 30) 136 (by rfl) (w.heap.size+1) 129 j0 _ 1 24 Tryz.underlying136 hj hy0 hy1 hy2 rfl (by decide) (.slice vo k co) k vs (by rfl) ((hNB4.outerk).alloc _) ⟨w4.heap.size,0,none⟩ 1 1 [.slice (some ⟨g4,0,none⟩) n cap4] (by rfl) (by rfl) (World.news_of_block (cs:=#[.slice (some ⟨g4,0,none⟩) n cap4]) (t:=129) (fr:=(0,0)) (heap_alloc_new w4 _)) (by simp [Value.oneCell']) (by omega) (by unfold maxLen;omega) (by omega) (by have:=b4.size;simp;omega) (w4.heap.size+1) (by simp) ?_
     intro g5 cap5 w5 hown5 hg5 hat5 hlt5
     obtain ⟨b5,hS5,hNB5⟩:=F5.out g4 cap4 w4 b4 hS4 hNB4 hx4 g5 cap5 w5 hown5 hg5
     simp only [Act.put,zqa,zqb,zqc]
     refine hK.out _ _ b5 (fun hH5=>?_)
     clear hK K'
     refine tk 16 32 (.pointer (some ⟨w.heap.size,0,none⟩)) hH5 rfl rfl (by intro w' hSw;go_simp) ?_
     simp only [Act.put,zqa,zqb,zqc]
     refine tk 17 33 (.pointer (some ⟨w.heap.size,0,none⟩)) hH5 rfl rfl (by intro w' hSw;go_simp) ?_
     simp only [Act.put,zqa,zqb,zqc]
     refine ry 18 rfl (fun K' hK=>?_)
     have xc:=hS5.c
     have xz:=hS5.fz
     rw [if_pos (by rfl)]
     go_simp
     refine hK.out _ _ (b5.setCell (Nat.le_refl _) _) (fun _=>?_)
     clear hK K'
     refine wpAnyH_done (by kernel_rfl) ?_ _
     clear xc xz
     go_wp2_with fail
     exact ⟨⟨k+1,_,_,by go_num,by omega,hS5.set _,by rw [HRS.out];exact hNB5.far (by omega) _,b5.setCell (Nat.le_refl _) _⟩,by simp [intOf];omega⟩
    ·refine step_append_lies _ (by rfl) (.tmp 21) (.tmp 28) 129 (by rfl) wr.heap.size 4 i0 _ 1 1 Tryz.underlying129 hi hz0 hz1 hz2 rfl (by decide) (.slice (some ⟨wr.heap.size,0,none⟩) 0 0) 0 [] (by rfl) OA ⟨rb k,0,none⟩ n (rc k) (bools row) (by rfl) hbl NA hone hpn (by unfold maxLen;omega) (by omega) (by simp) (wr.heap.size+1) (by simp) ?_
     intro g4 cap4 w4 hown4 hg4 hat4 hlt4
     obtain ⟨b4,hS4,hNB4,hx4⟩:=F4.out g4 cap4 w4 hown4 hg4
     simp only [Nat.zero_add,Act.put,List.setIfInBounds_toArray,List.set_cons_zero,List.set_cons_succ]
     refine hK.out _ _ (hbel.trans (b4.mono hbel.size)) (fun hH4=>?_)
     clear hK K'
     have hS4a:=hS4.bl (below1 w4 (.cells #[.slice (some ⟨g4,0,none⟩) n cap4] 129))
     have S4a:Below w.heap.size w (w4.alloc (.cells #[.slice (some ⟨g4,0,none⟩) n cap4] 129)):=hH4.alloc hH4.size _
     refine wpAnyH_ready (rs:=[4,14]) (by kernel_rfl) (by simp) ?_
     refine AllReadyH.cons rfl (fun K' hK=>?_) (AllReadyH.cons rfl (fun K' hK=>?_) AllReadyH.nil)
     ·have xx:=hS4.c
      rw [if_pos (by rfl)]
      go_simp
      refine hK.out _ _ hH4 (fun _=>?_)
      clear hK K' xx
      refine ry 14 rfl (fun K' hK=>?_)
      rw [if_pos (by rfl)]
      go_simp
      refine hK.out _ _ S4a (fun _=>?_)
      clear hK K'
      refine ry 15 rfl (fun K' hK=>?_)
      refine step_append_lies _ (by rfl) (.tmp 20) (.tmp 30) 136 (by rfl) (w.heap.size+1) 129 j0 _ 1 24 Tryz.underlying136 hj hy0 hy1 hy2 rfl (by decide) (.slice vo k co) k vs (by rfl) ((hNB4.outerk).alloc _) ⟨w4.heap.size,0,none⟩ 1 1 [.slice (some ⟨g4,0,none⟩) n cap4] (by rfl) (by rfl) (World.news_of_block (cs:=#[.slice (some ⟨g4,0,none⟩) n cap4]) (t:=129) (fr:=(0,0)) (heap_alloc_new w4 _)) (by simp [Value.oneCell']) (by omega) (by unfold maxLen;omega) (by omega) (by have:=b4.size;simp;omega) (w4.heap.size+1) (by simp) ?_
      intro g5 cap5 w5 hown5 hg5 hat5 hlt5
      obtain ⟨b5,hS5,hNB5⟩:=F5.out g4 cap4 w4 b4 hS4 hNB4 hx4 g5 cap5 w5 hown5 hg5
      simp only [Act.put,zqa,zqb,zqc]
      refine hK.out _ _ b5 (fun hH5=>?_)
      clear hK K'
      refine tk 16 32 (.pointer (some ⟨w.heap.size,0,none⟩)) hH5 rfl rfl (by intro w' hSw;go_simp) ?_
      simp only [Act.put,zqa,zqb,zqc]
      refine tk 17 33 (.pointer (some ⟨w.heap.size,0,none⟩)) hH5 rfl rfl (by intro w' hSw;go_simp) ?_
      simp only [Act.put,zqa,zqb,zqc]
      refine ry 18 rfl (fun K' hK=>?_)
      have xc:=hS5.c
      have xz:=hS5.fz
      rw [if_pos (by rfl)]
      go_simp
      refine hK.out _ _ (b5.setCell (Nat.le_refl _) _) (fun _=>?_)
      clear hK K'
      refine wpAnyH_done (by kernel_rfl) ?_ _
      clear xc xz
      go_wp2_with fail
      exact ⟨⟨k+1,_,_,by go_num,by omega,hS5.set _,by rw [HRS.out];exact hNB5.far (by omega) _,b5.setCell (Nat.le_refl _) _⟩,by simp [intOf];omega⟩
     ·rw [if_pos (by rfl)]
      go_simp
      refine hK.out _ _ S4a (fun _=>?_)
      clear hK K'
      refine ry 4 rfl (fun K' hK=>?_)
      have xx:=hS4a.c
      rw [if_pos (by rfl)]
      go_simp
      refine hK.out _ _ S4a (fun _=>?_)
      clear hK K' xx
      refine ry 15 rfl (fun K' hK=>?_)
      refine step_append_lies _ (by rfl) (.tmp 20) (.tmp 30) 136 (by rfl) (w.heap.size+1) 129 j0 _ 1 24 Tryz.underlying136 hj hy0 hy1 hy2 rfl (by decide) (.slice vo k co) k vs (by rfl) ((hNB4.outerk).alloc _) ⟨w4.heap.size,0,none⟩ 1 1 [.slice (some ⟨g4,0,none⟩) n cap4] (by rfl) (by rfl) (World.news_of_block (cs:=#[.slice (some ⟨g4,0,none⟩) n cap4]) (t:=129) (fr:=(0,0)) (heap_alloc_new w4 _)) (by simp [Value.oneCell']) (by omega) (by unfold maxLen;omega) (by omega) (by have:=b4.size;simp;omega) (w4.heap.size+1) (by simp) ?_
      intro g5 cap5 w5 hown5 hg5 hat5 hlt5
      obtain ⟨b5,hS5,hNB5⟩:=F5.out g4 cap4 w4 b4 hS4 hNB4 hx4 g5 cap5 w5 hown5 hg5
      simp only [Act.put,zqa,zqb,zqc]
      refine hK.out _ _ b5 (fun hH5=>?_)
      clear hK K'
      refine tk 16 32 (.pointer (some ⟨w.heap.size,0,none⟩)) hH5 rfl rfl (by intro w' hSw;go_simp) ?_
      simp only [Act.put,zqa,zqb,zqc]
      refine tk 17 33 (.pointer (some ⟨w.heap.size,0,none⟩)) hH5 rfl rfl (by intro w' hSw;go_simp) ?_
      simp only [Act.put,zqa,zqb,zqc]
      refine ry 18 rfl (fun K' hK=>?_)
      have xc:=hS5.c
      have xz:=hS5.fz
      rw [if_pos (by rfl)]
      go_simp
      refine hK.out _ _ (b5.setCell (Nat.le_refl _) _) (fun _=>?_)
      clear hK K'
      refine wpAnyH_done (by kernel_rfl) ?_ _
      clear xc xz
      go_wp2_with fail
      exact ⟨⟨k+1,_,_,by go_num,by omega,hS5.set _,by rw [HRS.out];exact hNB5.far (by omega) _,b5.setCell (Nat.le_refl _) _⟩,by simp [intOf];omega⟩
  ·obtain rfl:k=n:=by omega
   have hkn':¬ ((k:Nat):Int) < k:=by omega
   obtain ⟨vo,co,rfl⟩:=own_sl hNB.outer
   rw [M.rowsB_len] at hNB hS
   obtain ⟨G',rb',rc',hO⟩:=hNB.net (B:=w.heap.size) hS.c (Nat.le_refl _)
   go_wp2_with fail
   go_ret
   exact ⟨_,rfl,⟨G',co,vo,rb',rc',hO⟩,hbel⟩
end
section
open Go.RowKit
set_option maxHeartbeats 400000 in
set_option maxRecDepth 100000 in
theorem told0_any (t:Lp) (u:Lq) (a b:Nat) (x y:M.De) (w:World) (hk:t.Ok) (h:u.At t w) (hx:(M.deeds t.ll)[a]?=some x) (hy:(M.deeds t.ll)[b]?=some y) :
  Calls Tryz.prog 83 #[.pointer (some ⟨t.O,0,none⟩),.int .i64 0,.int .i64 (a:Int),.int .i64 (b:Int)] w fun e w'=>e=.returned (.bool (M.told u.l u.rows 0 a b x y))∧Below w.heap.size w w':=by
 have ha:=Lp.lt hx
 have hb:=Lp.lt hy
 have i1:(a:Int) < (M.deeds t.ll).length:=by omega
 have i2:(b:Int) < (M.deeds t.ll).length:=by omega
 have K0:=BelowOf.cell h.p.l0
 have C0:=BelowOf.cell (h.p.el hx).c0
 have D0:=BelowOf.cell (h.p.el hy).c0
 haveI:Inhabited (BelowOf w):=⟨belOf w⟩
 go_enter Tryz.func83,Tryz.ntmps83
 go_wp2_with fail
 refine wp_region_quiet_bel (by kernel_rfl) (by kernel_rfl) ?_
 repeat (quiet_step (fail))
 refine wpQuiet_nil ?_
 rintro _ ⟨⟨wq,hwq⟩,rfl⟩
 have h1:=h.below hwq
 clear K0 C0 D0
 have tw:((x.t:Int) != (y.t:Int))=M.two x y:=by rw [Bool.eq_iff_iff];simp [M.two];omega
 rw [tw]
 clear tw
 go_wp2_with fail
 have C1:=sread_any t u a b x y _ hk h1 hx hy
 cases r1:M.sRead u.l a b x y
 ·rw [r1] at C1
  refine C1.mono ?_
  rintro e w2 ⟨rfl,hb2⟩
  have hc:=hwq.trans (hb2.mono hwq.size)
  go_wp2_with fail
  refine (sover_any t u a b x y _ hk (h.below hc) hx hy).mono ?_
  rintro e w3 ⟨rfl,hb3⟩
  go_wp2_with fail
  go_ret
  exact ⟨ret_bool (by simp [M.told,r1]),hc.trans (hb3.mono hc.size)⟩
 ·rw [r1] at C1
  refine C1.mono ?_
  rintro e w2 ⟨rfl,hb2⟩
  go_wp2_with fail
  go_ret
  exact ⟨ret_bool (by simp [M.told,r1]),hwq.trans (hb2.mono hwq.size)⟩
set_option maxHeartbeats 400000 in
set_option maxRecDepth 100000 in
set_option maxHeartbeats 1000000 in
set_option maxRecDepth 100000 in
theorem withNet_any (X G n c:Nat) (va:Option Addr) (rb rc:Nat→Nat) (A:Nat→Nat→Bool) (a b:Nat) (w:World) (hn:n≤28) (ha:a < n) (hb:b < n) (h:NtAt w X G n c va rb rc A) :
  Calls Tryz.prog 80 #[.pointer (some ⟨X,0,none⟩),.int .i64 a,.int .i64 b] w fun e w'=>∃ X',e=.returned (.pointer (some ⟨X',0,none⟩))∧(∃ G' c' va' rb' rc',NtO w' w.heap.size X' G' n c' va' rb' rc' (M.setA A (a,b)))∧Below w.heap.size w w':=by
 have ha':(a:Int) < n:=by omega
 have hb':(b:Int) < n:=by omega
 go_enter Tryz.func80,Tryz.ntmps80
 go_wp2_with fail
 refine (copy_any X G n c va rb rc A w hn h).mono ?_
 rintro e w1 ⟨X1,rfl,⟨G1,c1,va1,rb1,rc1,hO⟩,b1⟩
 obtain ⟨rfl⟩:=hO.nt.addr (by omega)
 have k0:=hO.nt.box
 have k1:=hO.nt.outer a ha
 have k2:=hO.nt.row a ha b hb
 have k3:=hO.fz a ha b
 go_wp2_with fail
 go_ret
 exact ⟨X1,rfl,⟨G1,c1,_,rb1,rc1,hO.set ha hb⟩,b1.setCell (hO.ge a ha) _⟩
end
section
open Go.RowKit
set_option maxHeartbeats 1000000 in
set_option maxRecDepth 100000 in
theorem stays0_any (t:Lp) (u:Lq) (a b:Nat) (x y:M.De) (w:World) (hk:t.Ok) (h:u.At t w) (hx:(M.deeds t.ll)[a]?=some x) (hy:(M.deeds t.ll)[b]?=some y) :
  Calls Tryz.prog 84 #[.pointer (some ⟨t.O,0,none⟩),.int .i64 0,.int .i64 (a:Int),.int .i64 (b:Int)] w fun e w'=>e=.returned (.bool (M.stays (M.deeds t.ll) 0 a b x y))∧Below w.heap.size w w':=by
 have C:=sown_any t a b x y w hk h.p hx hy
 cases ho:M.own a b x y
 ·rw [ho] at C
  go_enter Tryz.func84,Tryz.ntmps84
  go_wp2_with fail
  refine C.mono ?_
  rintro e w1 ⟨rfl,hb1⟩
  go_wp2_with fail
  go_ret
  exact ⟨ret_bool (by simp [M.stays,ho]),hb1⟩
 ·rw [ho] at C
  go_enter Tryz.func84,Tryz.ntmps84
  go_wp2_with fail
  refine C.mono ?_
  rintro e w1 ⟨rfl,hb1⟩
  go_wp2_with fail
  refine (same_any t u a b x y w1 hk (h.below hb1) hx hy).mono ?_
  rintro e w2 ⟨rfl,hb2⟩
  go_wp2_with fail
  go_ret
  exact ⟨ret_bool (by simp [M.stays,ho]),hb1.trans (hb2.mono hb1.size)⟩
theorem rowIs_own {w:World} {b:Nat} {t:TypeId} {n:Nat} {l:List Bool} (h:w.rowIs b t n (fun j=>.bool (l.getD j false))) (hl:l.length=n) (hn:n≤1048576):w.ownsRow b t 1 (.slice (some ⟨b,0,none⟩) n n) n (bools l):=by
 obtain ⟨c,h1,h2,h3⟩:=h
 refine ⟨by simp [bools,hl],.inr ⟨b,n,c,rfl,Nat.le_refl _,h1,Nat.le_refl _,by unfold maxLen;omega,by omega,?_⟩⟩
 rw [Nat.mul_one,List.take_of_length_le (by simp;omega)]
 apply List.ext_getElem?
 intro i
 rcases Nat.lt_or_ge i n with hi | hi
 ·have:=h3 i hi
  rw [Array.getElem?_toList,this]
  simp [bools,hl,hi]
 ·rw [List.getElem?_eq_none (by simp;omega),List.getElem?_eq_none (by simp [bools];omega)]
def M.staysAt (ds:List M.De) (k a b:Nat):Bool:=match ds[a]?,ds[b]? with | some x,some y=>M.stays ds k a b x y | _,_=>false
def M.toldAt (ds:List M.De) (l:List Int) (rows:List (List Int)) (k a b:Nat):Bool:=match ds[a]?,ds[b]? with | some x,some y=>M.told l rows k a b x y | _,_=>false
theorem M.staysAt_of {ds:List M.De} {k a b:Nat} {x y:M.De} (hx:ds[a]?=some x) (hy:ds[b]?=some y):M.staysAt ds k a b=M.stays ds k a b x y:=by unfold M.staysAt;rw [hx,hy]
theorem M.toldAt_of {ds:List M.De} {l:List Int} {rows:List (List Int)} {k a b:Nat} {x y:M.De} (hx:ds[a]?=some x) (hy:ds[b]?=some y):M.toldAt ds l rows k a b=M.told l rows k a b x y:=by unfold M.toldAt;rw [hx,hy]
set_option maxHeartbeats 4000000 in
set_option maxRecDepth 100000 in
theorem net_of (t:Lp) (u:Lq) (k:Nat) (w:World) (hn:(M.deeds t.ll).length≤28) (h:u.At t w)
  (hS:∀ (a b:Nat) (x y:M.De) (w:World),u.At t w→(M.deeds t.ll)[a]?=some x→(M.deeds t.ll)[b]?=some y→Calls Tryz.prog 84 #[.pointer (some ⟨t.O,0,none⟩),.int .i64 k,.int .i64 (a:Int),.int .i64 (b:Int)] w fun e w'=>e=.returned (.bool (M.stays (M.deeds t.ll) k a b x y))∧Below w.heap.size w w') :
  Calls Tryz.prog 37 #[.pointer (some ⟨t.O,0,none⟩),.int .i64 k] w fun e w'=>∃ X',e=.returned (.pointer (some ⟨X',0,none⟩))∧(∃ G' c' va' rb' rc',NtO w' w.heap.size X' G' (M.deeds t.ll).length c' va' rb' rc' (M.staysAt (M.deeds t.ll) k))∧Below w.heap.size w w':=by
 obtain ⟨j0,hj,hy0,hy1,hy2⟩:=info_parts Tryz.infoRb
 have HA:Hid (∀ a b x y,(M.deeds t.ll)[a]?=some x→(M.deeds t.ll)[b]?=some y→M.staysAt (M.deeds t.ll) k a b=M.stays (M.deeds t.ll) k a b x y):=fun a b x y hx hy=>M.staysAt_of hx hy
 generalize M.staysAt (M.deeds t.ll) k=A at *
 go_enter Tryz.func37,Tryz.ntmps37
 go_wp2_with fail
 go_loopw [6] (fun s6 wr=>∃ (m:Nat) (v:Value) (vs:List Value),s6=.int .i64 m∧m≤(M.deeds t.ll).length∧S1 wr w.heap.size v∧NB wr (w.heap.size+1) v (M.rowsB A (M.deeds t.ll).length m) vs∧Below w.heap.size w wr) (fun s6 _=>(M.deeds t.ll).length - (intOf s6).toNat)
 case atStart=>exact ⟨0,.slice none 0 0,[],rfl,Nat.zero_le _,⟨by simp,by simp⟩,NB.nil _ _,below1 _ _⟩
 case round =>
  obtain ⟨m,v,vs,rfl,hm,hS1,hNB,hbel⟩:=hrel
  have hU:=h.below hbel
  have l0:=hU.p.l0
  obtain ⟨n,hnn⟩:∃ n,(M.deeds t.ll).length=n:=⟨_,rfl⟩
  have HN:Hid ((M.deeds t.ll).length=n):=hnn
  by_cases hmn:m < (M.deeds t.ll).length
  ·have hx:=List.getElem?_eq_getElem hmn
   rw [hnn] at l0 hm hmn hn hNB ⊢
   have hmn':(m:Int) < n:=by omega
   have lO:t.O < wr.heap.size:=World.block_lt_of_cell? _ _ l0
   have hmk:=run_make_row' (P:=Tryz.prog) 129 4 (.bool false) 1 Tryz.underlying129 (by kernel_rfl) rfl .i64 .i64 n (by omega) (by omega)
   have hrow:=World.rowIs_made wr (.bool false) n 4
   have bR:=below1 wr (.cells (madeCells #[.bool false] n) 4)
   generalize (M.deeds t.ll)[m]=x at hx
   clear hnn
   go_wp2_with fail
   clear hmk
   generalize wr.alloc (.cells (madeCells #[.bool false] n) 4)=WR at *
   go_loopw [8] (fun s8 wi=>∃ q:Nat,s8=.int .i64 q∧q≤n∧wi.rowIs wr.heap.size 4 n (fun j=>.bool (((List.range q).map fun b=>A m b).getD j false))∧Below wr.heap.size wr wi) (fun s8 _=>n - (intOf s8).toNat)
   case atStart=>exact ⟨0,rfl,Nat.zero_le _,hrow.congr (fun i _=>by simp),bR⟩
   case round =>
    obtain ⟨q,rfl,hq,hrw,hbi⟩:=hrel
    clear hrow bR
    have hUi:=hU.below hbi
    have l1:=hUi.p.l0
    rw [HN.out] at l1
    by_cases hqn:q < n
    ·have hqn':(q:Int) < n:=by omega
     have hy:=List.getElem?_eq_getElem (l:=M.deeds t.ll) (i:=q) (by rw [HN.out];exact hqn)
     generalize (M.deeds t.ll)[q]'(by rw [HN.out];exact hqn)=y at hy
     have C:=hS m q x y wr hUi hx hy
     rw [← HA.out m q x y hx hy] at C
     go_wp2_with fail
     refine C.mono ?_
     rintro e W2 ⟨rfl,b2⟩
     have hrw2:=hrw.of_block (b2.block _ hrw.lt)
     have cq:=hrw2.cell hqn
     have fq:=hrw2.frozen q
     have bb:=hbi.trans (b2.mono hbi.size)
     have hrw3:=(hrw2.set q (.bool (A m q))).congr (g:=fun j=>.bool (((List.range (q+1)).map fun b=>A m b).getD j false)) (fun i hi=>by
      by_cases e:i=q
      ·subst e
       rw [if_pos rfl,List.getD_eq_getElem?_getD]
       simp
      ·rw [if_neg e,List.getD_eq_getElem?_getD,List.getD_eq_getElem?_getD,List.range_succ,List.map_append]
       rcases Nat.lt_or_ge i q with h1 | h1
       ·rw [List.getElem?_append_left (by simpa using h1)]
       ·rw [List.getElem?_append_right (by simpa using h1),List.getElem?_eq_none (by simpa using h1),List.getElem?_eq_none (by simp;omega)])
     clear l1
     generalize A m q=r at *
     go_wp2_with fail
     exact ⟨⟨q+1,by go_num,by omega,hrw3,bb.setCell (Nat.le_refl _) _⟩,by simp [intOf];omega⟩
    ·obtain rfl:q=n:=by omega
     have hqn':¬ ((q:Nat):Int) < q:=by omega
     have hown:=rowIs_own hrw (by simp) (by omega)
     have hNBi:=hNB.below hbi
     have hSi:=hS1.bl hbi
     have bwi:=hbel.trans (hbi.mono hbel.size)
     have hlen:=M.rowsB_len A q m
     have hout:=hNBi.outer
     rw [hlen] at hout
     obtain ⟨vo,co,rfl⟩:=own_sl hout
     have HRS:Hid (M.rowsB A q (m+1)=M.rowsB A q m++[(List.range q).map fun b=>A m b]):=M.rowsB_succ A q m
     have s0:=hSi.c
     have sf:=hSi.fz
     have lN:=hSi.lt
     go_wp2_with (at_builtin;refine wpList_append_lies _ rfl (.tmp 47) (.tmp 49) 136 rfl (w.heap.size+1) 129 j0 _ 1 24 Tryz.underlying136 hj hy0 hy1 hy2 rfl (by decide) _ _ vs rfl (hout.alloc _) ⟨_,0,none⟩ 1 1 _ rfl rfl (World.news_of_block (t:=129) (fr:=(0,0)) (heap_alloc_new _ _)) (by simp [Value.oneCell']) (by omega) (by unfold maxLen;omega) (by omega) (by simp;omega) _ rfl ?_)
     intro g5 cap5 w5 hown5 hg5 hat5 hlt5
     have hge:=own_ge hout
     have hS5:=(hSi.bl (below1 wr _)).grown hg5 (fun e=>by have:=hge _ e;omega)
     have hNB5:=(hNBi.below (below1 wr _)).snoc (l:=(List.range q).map fun b=>A m b) (own_mono2 (by simpa using ownsRow_below hown (below1 wr _)) (by have:=hS1.lt;omega)) (fun i hi j hj e=>by
      have h1:=((hNB.inner i (by have:=hNB.len;omega) hi).lt j hj).2
      have h2:=Option.some.inj e
      simp only at h2
      omega) (by rw [hlen];exact hown5) hg5
     have b5:Below w.heap.size w w5:=below_grown (bwi.alloc bwi.size _) hg5 (fun j hj=>by have:=hge j hj;omega) (by have:=bwi.size;simp;omega)
     clear hown5 hg5 s0 sf
     have s0:=hS5.c
     have sf:=hS5.fz
     go_wp2_with fail
     exact ⟨⟨m+1,_,_,by go_num,by first | omega | (rw [HN.out];omega),hS5.set _,by first | (rw [HN.out,HRS.out];exact hNB5.far (by omega) _) | (rw [HRS.out];exact hNB5.far (by omega) _),b5.setCell (Nat.le_refl _) _⟩,by simp [intOf];omega⟩
  ·have hme:m=(M.deeds t.ll).length:=by omega
   have hmn':¬ (m:Int) < (M.deeds t.ll).length:=by omega
   subst hme
   obtain ⟨vo,co,rfl⟩:=own_sl hNB.outer
   rw [M.rowsB_len] at hNB hS1
   obtain ⟨G',rb',rc',hO⟩:=hNB.net (B:=w.heap.size) hS1.c (Nat.le_refl _)
   clear hnn HN
   go_wp2_with fail
   go_ret
   exact ⟨_,rfl,⟨G',co,vo,rb',rc',hO⟩,hbel⟩
def M.orTo (A T:Nat→Nat→Bool) (k q:Nat):Nat→Nat→Bool:=fun a b=>A a b||(T a b&&(decide (a < k)||(a==k&&decide (b < q))))
theorem M.orTo_yes {A T:Nat→Nat→Bool} {k q:Nat} (h:T k q=true):M.setA (M.orTo A T k q) (k,q)=M.orTo A T k (q+1):=by
 funext a b
 unfold M.setA M.orTo
 by_cases h1:a=k
 ·subst h1
  by_cases h2:b=q
  ·subst h2;simp [h]
  ·have e2:(b==q)=false:=by simpa using h2
   have e3:decide (b < q+1)=decide (b < q):=by rw [decide_eq_decide];omega
   simp [e2,e3]
 ·have e1:(a==k)=false:=by simpa using h1
  simp [e1]
theorem M.orTo_no {A T:Nat→Nat→Bool} {k q:Nat} (h:T k q=false):M.orTo A T k (q+1)=M.orTo A T k q:=by
 funext a b
 unfold M.orTo
 by_cases h1:a=k
 ·subst h1
  by_cases h2:b=q
  ·subst h2;simp [h]
  ·have e3:decide (b < q+1)=decide (b < q):=by rw [decide_eq_decide];omega
   simp [e3]
 ·have e1:(a==k)=false:=by simpa using h1
  simp [e1]
theorem M.orTo_next {A T:Nat→Nat→Bool} {k n a b:Nat} (hb:b < n):M.orTo A T k n a b=M.orTo A T (k+1) 0 a b:=by
 unfold M.orTo
 congr 2
 by_cases h1:a=k
 ·subst h1;simp [hb]
 ·have e1:(a==k)=false:=by simpa using h1
  have e3:decide (a < k+1)=decide (a < k):=by rw [decide_eq_decide];omega
  simp [e1,e3]
theorem M.orTo_start {A T:Nat→Nat→Bool} {a b:Nat}:M.orTo A T 0 0 a b=A a b:=by simp [M.orTo]
theorem M.orTo_end {A T:Nat→Nat→Bool} {n a b:Nat} (ha:a < n):M.orTo A T n 0 a b=(A a b||T a b):=by simp [M.orTo,ha]
theorem NtAt.congr {w:World} {X G n c:Nat} {va:Option Addr} {rb rc:Nat→Nat} {A A':Nat→Nat→Bool} (h:NtAt w X G n c va rb rc A) (he:∀ a b,a < n→b < n→A a b=A' a b):NtAt w X G n c va rb rc A' :=
 ⟨h.box,h.addr,h.outer,fun a ha b hb=>by rw [h.row a ha b hb,he a b ha hb]⟩
theorem NtO.congr {w:World} {B X G n c:Nat} {va:Option Addr} {rb rc:Nat→Nat} {A A':Nat→Nat→Bool} (h:NtO w B X G n c va rb rc A) (he:∀ a b,a < n→b < n→A a b=A' a b):NtO w B X G n c va rb rc A' :=
 ⟨h.nt.congr he,h.geX,h.ge,h.fz,h.ap,h.apX,h.apG⟩
set_option maxHeartbeats 4000000 in
set_option maxRecDepth 100000 in
theorem whole_of (t:Lp) (u:Lq) (k:Nat) (X G c:Nat) (va:Option Addr) (rb rc:Nat→Nat) (A:Nat→Nat→Bool) (w:World) (hn:(M.deeds t.ll).length≤28) (h:u.At t w) (hA:NtAt w X G (M.deeds t.ll).length c va rb rc A)
  (hS:∀ (a b:Nat) (x y:M.De) (w:World),u.At t w→(M.deeds t.ll)[a]?=some x→(M.deeds t.ll)[b]?=some y→Calls Tryz.prog 83 #[.pointer (some ⟨t.O,0,none⟩),.int .i64 k,.int .i64 (a:Int),.int .i64 (b:Int)] w fun e w'=>e=.returned (.bool (M.told u.l u.rows k a b x y))∧Below w.heap.size w w') :
  Calls Tryz.prog 36 #[.pointer (some ⟨t.O,0,none⟩),.pointer (some ⟨X,0,none⟩),.int .i64 k] w fun e w'=>∃ X',e=.returned (.pointer (some ⟨X',0,none⟩))∧(∃ G' c' va' rb' rc',NtO w' w.heap.size X' G' (M.deeds t.ll).length c' va' rb' rc' (fun a b=>A a b||M.toldAt (M.deeds t.ll) u.l u.rows k a b))∧Below w.heap.size w w':=by
 have HA:Hid (∀ a b x y,(M.deeds t.ll)[a]?=some x→(M.deeds t.ll)[b]?=some y→M.toldAt (M.deeds t.ll) u.l u.rows k a b=M.told u.l u.rows k a b x y):=fun a b x y hx hy=>M.toldAt_of hx hy
 generalize M.toldAt (M.deeds t.ll) u.l u.rows k=T at *
 go_enter Tryz.func36,Tryz.ntmps36
 go_wp2_with fail
 refine (copy_any X G _ c va rb rc A w hn hA).mono ?_
 rintro e W1 ⟨X1,rfl,⟨G1,c1,va1,rb1,rc1,hO⟩,b1⟩
 have hU1:=h.below b1
 clear hA
 go_wp2_with fail
 go_loopw [8] (fun s8 wr=>∃ m:Nat,s8=.int .i64 m∧m≤(M.deeds t.ll).length∧NtO wr w.heap.size X1 G1 (M.deeds t.ll).length c1 va1 rb1 rc1 (M.orTo A T m 0)∧Below w.heap.size w wr) (fun s8 _=>(M.deeds t.ll).length - (intOf s8).toNat)
 case atStart=>exact ⟨0,rfl,Nat.zero_le _,hO.congr (fun a b _ _=>M.orTo_start.symm),b1⟩
 case round =>
  obtain ⟨m,rfl,hm,hOr,hbel⟩:=hrel
  clear hO hU1 b1
  have hU:=h.below hbel
  have l0:=hU.p.l0
  by_cases hmn:m < (M.deeds t.ll).length
  ·have hmn':(m:Int) < (M.deeds t.ll).length:=by omega
   have hx:=List.getElem?_eq_getElem hmn
   generalize (M.deeds t.ll)[m]=x at hx
   obtain ⟨rfl⟩:=hOr.nt.addr (by omega)
   go_wp2_with fail
   go_loopw [9] (fun s9 wi=>∃ q:Nat,s9=.int .i64 q∧q≤(M.deeds t.ll).length∧NtO wi w.heap.size X1 G1 (M.deeds t.ll).length c1 (some ⟨G1,0,none⟩) rb1 rc1 (M.orTo A T m q)∧Below w.heap.size w wi) (fun s9 _=>(M.deeds t.ll).length - (intOf s9).toNat)
   case atStart=>exact ⟨0,rfl,Nat.zero_le _,hOr,hbel⟩
   case round =>
    obtain ⟨q,rfl,hq,hOi,hbi⟩:=hrel
    have hUi:=h.below hbi
    clear l0
    have l0:=hUi.p.l0
    by_cases hqn:q < (M.deeds t.ll).length
    ·have hqn':(q:Int) < (M.deeds t.ll).length:=by omega
     have hy:=List.getElem?_eq_getElem hqn
     generalize (M.deeds t.ll)[q]=y at hy
     have C:=hS m q x y wr hUi hx hy
     rw [← HA.out m q x y hx hy] at C
     cases hT:T m q
     ·have HO:Hid (M.orTo A T m (q+1)=M.orTo A T m q):=M.orTo_no hT
      rw [hT] at C
      clear hT
      go_wp2_with fail
      refine C.mono ?_
      rintro e W2 ⟨rfl,b2⟩
      clear l0
      go_wp2_with fail
      exact ⟨⟨q+1,by go_num,by omega,by rw [HO.out];exact hOi.below b2,hbi.trans (b2.mono hbi.size)⟩,by simp [intOf];omega⟩
     ·have HO:Hid (M.setA (M.orTo A T m q) (m,q)=M.orTo A T m (q+1)):=M.orTo_yes hT
      rw [hT] at C
      clear hT
      go_wp2_with fail
      refine C.mono ?_
      rintro e W2 ⟨rfl,b2⟩
      have hO2:=hOi.below b2
      have b22:=hbi.trans (b2.mono hbi.size)
      have k0:=hO2.nt.box
      have k1:=hO2.nt.outer m hmn
      have k2:=hO2.nt.row m hmn q hqn
      have k3:=hO2.fz m hmn q
      clear l0
      go_wp2_with fail
      exact ⟨⟨q+1,by go_num,by omega,by rw [← HO.out];exact hO2.set hmn hqn,b22.setCell (hO2.ge m hmn) _⟩,by simp [intOf];omega⟩
    ·have hqe:q=(M.deeds t.ll).length:=by omega
     have hqn':¬ (q:Int) < (M.deeds t.ll).length:=by omega
     have hO3:=hOi.congr (A':=M.orTo A T (m+1) 0) (fun a b _ hb=>by rw [hqe];exact M.orTo_next hb)
     clear hqe
     go_wp2_with fail
     exact ⟨⟨m+1,by go_num,by omega,hO3,hbi⟩,by simp [intOf];omega⟩
  ·have hme:m=(M.deeds t.ll).length:=by omega
   have hmn':¬ (m:Int) < (M.deeds t.ll).length:=by omega
   have hO3:=hOr.congr (A':=fun a b=>A a b||T a b) (fun a b ha _=>by rw [hme];exact M.orTo_end ha)
   clear hme
   go_wp2_with fail
   go_ret
   exact ⟨_,rfl,⟨G1,c1,va1,rb1,rc1,hO3⟩,hbel⟩
end
section
open Go.RowKit
namespace M
theorem deT_t (t:Nat):∀ (l:List D) (i:Nat) (lr:Int) (n:Nat),∀ x∈deT t i lr n l,x.t=t:=by
 intro l
 induction l with
 | nil=>intro i lr n x hx;simp [deT] at hx
 | cons d l ih =>
  intro i lr n x hx
  rw [deT] at hx
  rcases List.mem_append.1 hx with hx | hx
  ·unfold deD at hx
   split at hx
   ·simp only [List.mem_cons,List.not_mem_nil,or_false] at hx
    rcases hx with rfl | rfl<;>rfl
   ·simp only [List.mem_cons,List.not_mem_nil,or_false] at hx
    subst hx;rfl
  ·exact ih _ _ _ x hx
theorem out_same:∀ (ll:List (List D)) (t n:Nat),(∀ l∈ll,readers false l=true)→∀ a (ha:a < (deF t n ll).length),(deF t n ll)[a].d.k=7→∃ m,a < m∧∃ hm:m < (deF t n ll).length,(deF t n ll)[m].d.k=8∧(deF t n ll)[m].t=(deF t n ll)[a].t∧∀ q (hq:q < (deF t n ll).length),a < q→q < m→(deF t n ll)[q].d.k≠8:=by
 intro ll
 induction ll with
 | nil=>intro t n _ a ha;simp [deF] at ha
 | cons l ll ih =>
  intro t n hr a ha h7
  have hT:=run_T t l 0 (-1) n false (hr l (by simp))
  have ht:=deT_t t l 0 (-1) n
  have hI:=ih (t+1) (n+(deT t 0 (-1) n l).length) (fun x hx=>hr x (List.mem_cons_of_mem _ hx))
  have e:deF t n (l::ll)=deT t 0 (-1) n l++deF (t+1) (n+(deT t 0 (-1) n l).length) ll:=rfl
  generalize deT t 0 (-1) n l=sg at *
  generalize deF (t+1) (n+sg.length) ll=rs at *
  generalize deF t n (l::ll)=ds at *
  subst e
  by_cases h1:a < sg.length
  ·rw [List.getElem_append_left h1] at h7
   obtain ⟨hm,h8⟩:=out_at hT h1 h7
   have hge:a≤outOf sg a:=by unfold outOf;exact outFrom_ge _ _
   have hne:a≠outOf sg a:=fun e=>by
    have e2:sg[a]=sg[outOf sg a]:=by congr 1
    rw [← e2,h7] at h8
    cases h8
   refine ⟨outOf sg a,by omega,by simp;omega,?_,?_,fun q hq q1 q2=>?_⟩
   ·rw [List.getElem_append_left hm];exact h8
   ·rw [List.getElem_append_left hm,List.getElem_append_left h1,ht _ (List.getElem_mem hm),ht _ (List.getElem_mem h1)]
   ·rw [List.getElem_append_left (by omega)]
    exact (le_outOf (a:=a) (b:=outOf sg a) (by omega) (by omega)).1 (Nat.le_refl _) q (by omega) (by omega) q2
  ·rw [List.getElem_append_right (by omega)] at h7
   rw [List.length_append] at ha
   obtain ⟨m,m1,m2,m3,m4,m5⟩:=hI (a - sg.length) (by omega) h7
   refine ⟨sg.length+m,by omega,by rw [List.length_append];omega,?_,?_,fun q hq q1 q2=>?_⟩
   ·rw [List.getElem_append_right (by omega)]
    simpa using m3
   ·rw [List.getElem_append_right (by omega),List.getElem_append_right (by omega)]
    simpa using m4
   ·rw [List.length_append] at hq
    rw [List.getElem_append_right (by omega)]
    exact m5 (q - sg.length) (by omega) (by omega) (by omega)
theorem readers_of {ll:List (List D)} (h:prog ll=true):∀ l∈ll,readers false l=true:=fun l hl=>by
 simp only [prog,Bool.and_eq_true,decide_eq_true_eq] at h
 have:=from_thr ll 0 0 h.2 l hl
 simp only [thread,Bool.and_eq_true] at this
 exact this.2
theorem out_deeds {ll:List (List D)} (hp:prog ll=true) {a:Nat} (ha:a < (deeds ll).length) (h7:(deeds ll)[a].d.k=7):∃ m,a < m∧∃ hm:m < (deeds ll).length,(deeds ll)[m].d.k=8∧(deeds ll)[m].t=(deeds ll)[a].t∧∀ q (hq:q < (deeds ll).length),a < q→q < m→(deeds ll)[q].d.k≠8 :=
 out_same ll 0 0 (readers_of hp) a ha h7
theorem out_first {ds:List De} {a m:Nat} (ham:a < m) (hm:m < ds.length) (h7:(ds[a]'(by omega)).d.k=7) (h8:ds[m].d.k=8) (hn:∀ q (hq:q < ds.length),a < q→q < m→ds[q].d.k≠8):outOf ds a=m:=by
 have h1:m≤outOf ds a:=(le_outOf (by omega) (by omega)).2 (fun q hq q1 q2=>by
  by_cases e:q=a
  ·subst e;rw [h7];decide
  ·exact hn q hq (by omega) q2)
 have h2:¬ m+1≤outOf ds a:=fun h=>(le_outOf (by omega) (by omega)).1 h m hm (by omega) (by omega) h8
 omega
end M
set_option maxHeartbeats 1000000 in
set_option maxRecDepth 100000 in
theorem outs_any (t:Lp) (a:Nat) (w:World) (hk:t.Ok) (hp:M.prog t.ll=true) (h:t.At w) (ha:a < (M.deeds t.ll).length) (h7:(M.deeds t.ll)[a].d.k=7) :
  Calls Tryz.prog 81 #[.pointer (some ⟨t.O,0,none⟩),.int .i64 a] w fun e w'=>e=.returned (.int .i64 (M.outOf (M.deeds t.ll) a:Nat))∧Below w.heap.size w w':=by
 obtain ⟨m,ham,hm,h8,hth,hno⟩:=M.out_deeds hp ha h7
 have ho:=M.out_first (ds:=M.deeds t.ll) ham hm h7 h8 hno
 rw [ho]
 have hdl:=hk.dl
 have HX:Hid (∀ q (hq:q < (M.deeds t.ll).length),q < m→a < q→(M.deeds t.ll)[q].d.k≠8):=fun q hq h1 h2=>hno q hq h2 h1
 have HM8:Hid ((M.deeds t.ll)[m].d.k=8):=h8
 have HTH:Hid ((M.deeds t.ll)[m].t=(M.deeds t.ll)[a].t):=hth
 have hxa:=List.getElem?_eq_getElem ha
 clear ho hno h8 hth h7
 go_enter Tryz.func81,Tryz.ntmps81
 go_wp2_with fail
 go_loopw [5] (fun s5 wr=>∃ k:Nat,s5=.int .i64 k∧a < k∧k≤m∧Below w.heap.size w wr) (fun s5 _=>m - (intOf s5).toNat)
 case atStart=>exact ⟨a+1,by go_num,by omega,by omega,Below.refl _ _⟩
 case round =>
  obtain ⟨k,rfl,hak,hkm,hbel⟩:=hrel
  have hA:=h.below hbel
  have l0:=hA.l0
  have hkn:k < (M.deeds t.ll).length:=by have:m < (M.deeds t.ll).length:=hm;omega
  have hkn':(k:Int) < (M.deeds t.ll).length:=by omega
  have hy:=List.getElem?_eq_getElem hkn
  have C1:=sown_any t a k _ _ wr hk hA hxa hy
  have C2:=fun W (hW:t.At W)=>do_any t k _ W hk hW hy
  by_cases hke:k=m
  ·subst hke
   have hk8:(M.deeds t.ll)[k].d.k=8:=HM8.out
   have hown:M.own a k (M.deeds t.ll)[a] (M.deeds t.ll)[k]=true:=by
    have e:((M.deeds t.ll)[k]'hkn).t=((M.deeds t.ll)[a]'ha).t:=HTH.out
    unfold M.own
    rw [e]
    simp [hak]
   rw [hown] at C1
   rw [hk8] at C2
   generalize (M.deeds t.ll)[k].d.p=dp at *
   generalize (M.deeds t.ll)[k].d.v=dv at *
   clear hown hk8 hy
   have hF:=fun W=>Tryz.fld0 (.int .i64 8) (.int .i64 dp) (.int .i64 dv) W
   go_wp2_with fail
   refine C1.mono ?_
   rintro e W1 ⟨rfl,b1⟩
   clear l0
   go_wp2_with fail
   refine (C2 W1 (hA.below b1)).mono ?_
   rintro e W2 ⟨rfl,b2⟩
   have bw1:=hbel.trans (b1.mono hbel.size)
   go_wp2_with fail
   go_ret
   exact ⟨rfl,bw1.trans (b2.mono bw1.size)⟩
  ·have hk8:(M.deeds t.ll)[k].d.k≠8:=HX.out k hkn (by omega) hak
   have hk8':((M.deeds t.ll)[k].d.k==8)=false:=by simpa using hk8
   generalize M.own a k (M.deeds t.ll)[a] (M.deeds t.ll)[k]=ow at C1
   generalize (M.deeds t.ll)[k].d.k=dk at *
   generalize (M.deeds t.ll)[k].d.p=dp at *
   generalize (M.deeds t.ll)[k].d.v=dv at *
   clear hk8 hy
   have hF:=fun W=>Tryz.fld0 (.int .i64 dk) (.int .i64 dp) (.int .i64 dv) W
   go_wp2_with fail
   refine C1.mono ?_
   rintro e W1 ⟨rfl,b1⟩
   clear l0
   have bw1:=hbel.trans (b1.mono hbel.size)
   cases ow
   ·go_wp2_with fail
    exact ⟨⟨k+1,by go_num,by omega,by omega,bw1⟩,by simp [intOf];omega⟩
   ·go_wp2_with fail
    refine (C2 W1 (hA.below b1)).mono ?_
    rintro e W2 ⟨rfl,b2⟩
    go_wp2_with fail
    exact ⟨⟨k+1,by go_num,by omega,by omega,bw1.trans (b2.mono bw1.size)⟩,by simp [intOf];omega⟩
end
section
open Go.RowKit
namespace M
theorem chP_pre (ds : List De) {n n' : Nat} (h : n ≤ n') : ∃ rest, chP ds n' = chP ds n ++ rest := by
  induction n' with
  | zero => obtain rfl : n = 0 := by omega
            exact ⟨[], by simp⟩
  | succ k ih =>
    rcases Nat.lt_or_ge k n with h1 | h1
    · obtain rfl : n = k + 1 := by omega
      exact ⟨[], by simp⟩
    · obtain ⟨r, hr⟩ := ih h1
      exact ⟨_, by rw [chP_succ, hr, List.append_assoc]⟩
theorem chQ_pre (ds : List De) (b : Nat) {m m' : Nat} (h : m ≤ m') : ∃ rest, chQ ds b m' = chQ ds b m ++ rest := by
  induction m' with
  | zero => obtain rfl : m = 0 := by omega
            exact ⟨[], by simp⟩
  | succ k ih =>
    rcases Nat.lt_or_ge k m with h1 | h1
    · obtain rfl : m = k + 1 := by omega
      exact ⟨[], by simp⟩
    · obtain ⟨r, hr⟩ := ih h1
      exact ⟨_, by rw [chQ_succ, hr, List.append_assoc]⟩
theorem choice_next {ds:List De} {n m:Nat} (hn:n < ds.length) (hm:m < ds.length) (hw:waitsAt ds n=true) (hr:(kAt ds m==7)=true):∃ tail,(choices ds).drop ((chP ds n++chQ ds n m).length)=((outOf ds m,n+1),(n,m))::tail:=by
 obtain ⟨r1,h1⟩:=chP_pre ds (show n+1≤ds.length by omega)
 obtain ⟨r2,h2⟩:=chQ_pre ds n (show m+1≤ds.length by omega)
 rw [chP_succ,hw,if_pos rfl,← chQ_all,h2,chQ_succ,hr,if_pos rfl] at h1
 refine ⟨r2++r1,?_⟩
 rw [← chP_all,h1]
 simp
end M
def WaitsOk (t:Lp) (cs:List M.Ch):Prop:=∀ (A:Nat→Nat→Bool) (X G c:Nat) (va:Option Addr) (rb rc:Nat→Nat) (w:World) (fr:Nat),Hid ((M.choices (M.deeds t.ll)).drop fr=cs)→fr≤1000→t.At w→NtAt w X G (M.deeds t.ll).length c va rb rc A →
  Calls Tryz.prog 61 #[.pointer (some ⟨t.O,0,none⟩),.pointer (some ⟨X,0,none⟩),.int .i64 fr] w fun e w'=>e=.returned (.bool (M.waitsA (M.deeds t.ll).length A cs))∧Below w.heap.size w w'
set_option maxHeartbeats 4000000 in
set_option maxRecDepth 100000 in
theorem waits_of (t:Lp) (hk:t.Ok) (hp:M.prog t.ll=true) (hn:(M.deeds t.ll).length≤28) (cs:List M.Ch) (ih:∀ ch cs',cs=ch::cs'→WaitsOk t cs') (A:Nat→Nat→Bool) (X G c:Nat) (va:Option Addr) (rb rc:Nat→Nat) (w:World) (fr:Nat) (HC:Hid ((M.choices (M.deeds t.ll)).drop fr=cs)) (hfr:fr≤1000) (h:t.At w) (hN:NtAt w X G (M.deeds t.ll).length c va rb rc A) :
  Calls Tryz.prog 61 #[.pointer (some ⟨t.O,0,none⟩),.pointer (some ⟨X,0,none⟩),.int .i64 fr] w fun e w'=>e=.returned (.bool (M.waitsA (M.deeds t.ll).length A cs))∧Below w.heap.size w w':=by
 have hcl:(M.choices (M.deeds t.ll)).length≤784:=by
  have h1:=M.chP_len (M.deeds t.ll) (M.deeds t.ll).length
  rw [M.chP_all] at h1
  have h2:=Nat.mul_le_mul hn hn
  omega
 cases hH:M.holdsA A (M.deeds t.ll).length
 ·have C:=netHolds_any X G _ c va rb rc A w hn hN
  rw [hH] at C
  go_enter Tryz.func61,Tryz.ntmps61
  go_wp2_with fail
  refine C.mono ?_
  rintro e W1 ⟨rfl,b1⟩
  go_wp2_with fail
  go_ret
  exact ⟨ret_bool (by cases cs<;>rw [M.waitsA,hH]<;>rfl),b1⟩
 ·have C:=netHolds_any X G _ c va rb rc A w hn hN
  rw [hH] at C
  have HF0:Hid (cs=[]→M.waitsA (M.deeds t.ll).length A cs=true):=fun e=>by rw [e,M.waitsA,hH]
  have HF1:Hid (∀ ch cs',cs=ch::cs'→M.waitsA (M.deeds t.ll).length A cs=(M.waitsA (M.deeds t.ll).length (M.setA A ch.1) cs'||M.waitsA (M.deeds t.ll).length (M.setA A ch.2) cs')):=fun ch cs' e=>by rw [e,M.waitsA,hH];rfl
  clear hH
  go_enter Tryz.func61,Tryz.ntmps61
  go_wp2_with fail
  refine C.mono ?_
  rintro e W1 ⟨rfl,b1⟩
  go_wp2_with fail
  go_loopw [7,8] (fun s7 s8 wr=>∃ m:Nat,s8=.int .i64 m∧s7=.int .i64 ((M.chP (M.deeds t.ll) m).length:Nat)∧m≤(M.deeds t.ll).length∧(M.chP (M.deeds t.ll) m).length≤fr∧Below w.heap.size w wr) (fun _ s8 _=>(M.deeds t.ll).length - (intOf s8).toNat)
  case atStart=>exact ⟨0,rfl,rfl,Nat.zero_le _,Nat.zero_le _,b1⟩
  case round =>
   obtain ⟨m,rfl,rfl,hm,hcm,hbel⟩:=hrel
   have hA:=h.below hbel
   have l0:=hA.l0
   by_cases hmn:m < (M.deeds t.ll).length
   ·have hmn':(m:Int) < (M.deeds t.ll).length:=by omega
    have hx:=List.getElem?_eq_getElem hmn
    have HP:Hid (M.chP (M.deeds t.ll) (m+1)=M.chP (M.deeds t.ll) m++(if M.waitsAt (M.deeds t.ll) m then M.choicesAt (M.deeds t.ll) m else [])):=M.chP_succ _ _
    have HW:Hid (M.waitsAt (M.deeds t.ll) m=((M.deeds t.ll)[m].d.k==9&&!(M.deeds t.ll)[m].last)):=M.waitsAt_of hx
    have C2:=fun W (hW:t.At W)=>do_any t m _ W hk hW hx
    have hel:=fun W (hW:t.At W)=>hW.el hx
    obtain ⟨x,hxx⟩:∃ x,(M.deeds t.ll)[m]=x:=⟨_,rfl⟩
    rw [hxx] at C2 HW
    have hel2:∀ W,t.At W→DvAt W t.g (m * 3) x:=fun W hW=>by have:=hel W hW;rwa [hxx] at this
    clear hel hxx hx
    obtain ⟨L,hL⟩:∃ L,M.chP (M.deeds t.ll) m=L:=⟨_,rfl⟩
    have HLe:Hid (M.chP (M.deeds t.ll) m=L):=hL
    rw [hL] at HP hcm ⊢
    clear hL
    have hF:=fun W=>Tryz.fld0 (.int .i64 x.d.k) (.int .i64 x.d.p) (.int .i64 x.d.v) W
    go_wp2_with fail
    refine (C2 wr hA).mono ?_
    rintro e W2 ⟨rfl,b2⟩
    have hA2:=hA.below b2
    have bw2:=hbel.trans (b2.mono hbel.size)
    obtain ⟨d0,d1,d2⟩:=hel2 W2 hA2
    clear l0
    have l0:=hA2.l0
    by_cases hk9:x.d.k=9
    ·have hk9':(x.d.k != 9)=false:=by simp [hk9]
     cases hla:x.last
     ·rw [hla] at d2
      have HWt:Hid (M.waitsAt (M.deeds t.ll) m=true):=by show _=_;rw [HW.out,hk9,hla];rfl
      clear hk9 HW
      go_wp2_with fail
      go_loopw [7,9] (fun s7 s9 wi=>∃ q:Nat,s9=.int .i64 q∧s7=.int .i64 ((L++M.chQ (M.deeds t.ll) m q).length:Nat)∧q≤(M.deeds t.ll).length∧(L++M.chQ (M.deeds t.ll) m q).length≤fr∧Below w.heap.size w wi) (fun _ s9 _=>(M.deeds t.ll).length - (intOf s9).toNat)
      case atStart=>exact ⟨0,rfl,by simp [M.chQ],Nat.zero_le _,by simpa [M.chQ] using hcm,bw2⟩
      case round =>
       obtain ⟨q,rfl,rfl,hq,hcq,hbi⟩:=hrel
       have hAi:=h.below hbi
       clear l0
       have l0:=hAi.l0
       by_cases hqn:q < (M.deeds t.ll).length
       ·have hqn':(q:Int) < (M.deeds t.ll).length:=by omega
        have hy:=List.getElem?_eq_getElem hqn
        have HQ:Hid (M.chQ (M.deeds t.ll) m (q+1)=M.chQ (M.deeds t.ll) m q++(if M.kAt (M.deeds t.ll) q==7 then [((M.outOf (M.deeds t.ll) q,m+1),(m,q))] else [])):=M.chQ_succ _ _ _
        have HKq:Hid (M.kAt (M.deeds t.ll) q=(M.deeds t.ll)[q].d.k):=M.kAt_of hy
        have C3:=fun W (hW:t.At W)=>do_any t q _ W hk hW hy
        have CO:=fun W (hW:t.At W) h7=>outs_any t q W hk hp hW hqn h7
        obtain ⟨y,hyy⟩:∃ y,(M.deeds t.ll)[q]=y:=⟨_,rfl⟩
        rw [hyy] at C3 HKq CO
        clear hyy hy
        obtain ⟨LL,hLL⟩:∃ LL,L++M.chQ (M.deeds t.ll) m q=LL:=⟨_,rfl⟩
        have HLL:Hid (L++M.chQ (M.deeds t.ll) m q=LL):=hLL
        rw [hLL] at hcq ⊢
        clear hLL
        have hF3:=fun W=>Tryz.fld0 (.int .i64 y.d.k) (.int .i64 y.d.p) (.int .i64 y.d.v) W
        go_wp2_with fail
        refine (C3 wr hAi).mono ?_
        rintro e W3 ⟨rfl,b3⟩
        have hA3:=hAi.below b3
        have bw3:=hbi.trans (b3.mono hbi.size)
        clear l0
        by_cases hk7:y.d.k=7
        ·have hk7':(y.d.k != 7)=false:=by simp [hk7]
         have HK7:Hid ((M.kAt (M.deeds t.ll) q==7)=true):=by show _=_;rw [HKq.out,hk7];rfl
         have CO3:=CO W3 hA3 hk7
         have HQ2:Hid (L++M.chQ (M.deeds t.ll) m (q+1)=LL++[((M.outOf (M.deeds t.ll) q,m+1),(m,q))]):=by show _=_;rw [HQ.out,HK7.out,if_pos rfl,← List.append_assoc,HLL.out]
         clear hk7 HKq HQ CO C3
         by_cases hfe:LL.length=fr
         ·have hfc:fr < (M.choices (M.deeds t.ll)).length:=by
           obtain ⟨tail,htl⟩:=M.choice_next hmn hqn HWt.out HK7.out
           rw [HLe.out,HLL.out,hfe] at htl
           have:=congrArg List.length htl
           simp at this
           omega
          obtain ⟨tail,htl⟩:=M.choice_next hmn hqn HWt.out HK7.out
          rw [HLe.out,HLL.out,hfe,HC.out] at htl
          have hmem:((M.outOf (M.deeds t.ll) q,m+1),(m,q))∈M.choices (M.deeds t.ll):=by
           have:((M.outOf (M.deeds t.ll) q,m+1),(m,q))∈(M.choices (M.deeds t.ll)).drop fr:=by rw [HC.out,htl];simp
           exact List.mem_of_mem_drop this
          obtain ⟨⟨e1,e2⟩,e3,e4⟩:=(M.choices_ok (M.run_of hp) _ hmem).1
          simp only at e1 e2 e3 e4
          have HFr:=HF1.out _ _ htl
          have HFR:Hid (M.waitsA (M.deeds t.ll).length A cs=(M.waitsA (M.deeds t.ll).length (M.setA A (M.outOf (M.deeds t.ll) q,m+1)) tail||M.waitsA (M.deeds t.ll).length (M.setA A (m,q)) tail)):=HFr
          have IH:=ih _ _ htl
          have HC2:Hid ((M.choices (M.deeds t.ll)).drop (fr+1)=tail):=by
           show _=_
           have:=congrArg (List.drop 1) (HC.out.trans htl)
           rw [List.drop_drop] at this
           simpa using this
          have CW1:=fun W hW=>withNet_any X G _ c va rb rc A (M.outOf (M.deeds t.ll) q) (m+1) W hn e1 e2 hW
          have CW2:=fun W hW=>withNet_any X G _ c va rb rc A m q W hn e3 e4 hW
          have EM:Hid (((m+1:Nat):Int)=(m:Int)+1):=by show _=_;omega
          have EF:Hid (((fr+1:Nat):Int)=(fr:Int)+1):=by show _=_;omega
          clear HFr hmem htl HQ2 HLe HLL HC
          generalize M.outOf (M.deeds t.ll) q=O at *
          generalize M.setA A (O,m+1)=A1 at *
          generalize M.setA A (m,q)=A2 at *
          have hfe':(fr:Int) < (LL.length:Int)+1:=by omega
          have hfr1:fr+1≤1000:=by omega
          clear hfe
          go_wp2_with fail
          refine CO3.mono ?_
          rintro e W4 ⟨rfl,b4⟩
          have bw4:=bw3.trans (b4.mono bw3.size)
          go_wp2_with fail
          have C4:=CW1 W4 (hN.below bw4)
          rw [EM.out] at C4
          refine C4.mono ?_
          rintro e W5 ⟨X5,rfl,⟨G5,c5,va5,rb5,rc5,hO5⟩,b5⟩
          have bw5:=bw4.trans (b5.mono bw4.size)
          go_wp2_with fail
          have C5:=IH A1 X5 G5 c5 va5 rb5 rc5 W5 (fr+1) HC2 hfr1 (h.below bw5) hO5.nt
          rw [EF.out] at C5
          refine C5.mono ?_
          rintro e W6 ⟨rfl,b6⟩
          have bw6:=bw5.trans (b6.mono bw5.size)
          cases hr1:M.waitsA (M.deeds t.ll).length A1 tail
          ·go_wp2_with fail
           refine (CW2 W6 (hN.below bw6)).mono ?_
           rintro e W7 ⟨X7,rfl,⟨G7,c7,va7,rb7,rc7,hO7⟩,b7⟩
           have bw7:=bw6.trans (b7.mono bw6.size)
           go_wp2_with fail
           have C7:=IH A2 X7 G7 c7 va7 rb7 rc7 W7 (fr+1) HC2 hfr1 (h.below bw7) hO7.nt
           rw [EF.out] at C7
           refine C7.mono ?_
           rintro e W8 ⟨rfl,b8⟩
           go_wp2_with fail
           go_ret
           exact ⟨ret_bool (by rw [HFR.out,hr1];rfl),bw7.trans (b8.mono bw7.size)⟩
          ·go_wp2_with fail
           go_ret
           exact ⟨ret_bool (by rw [HFR.out,hr1];rfl),bw6⟩
         ·have hlt2:LL.length+1≤fr:=by omega
          have hfe':¬ (fr:Int) < (LL.length:Int)+1:=by omega
          go_wp2_with fail
          exact ⟨⟨q+1,by go_num,by rw [HQ2.out];simp,by omega,by rw [HQ2.out];simpa using hlt2,bw3⟩,by simp [intOf];omega⟩
        ·have hk7':(y.d.k != 7)=true:=by simpa using hk7
         have hk72:(y.d.k==7)=false:=by simpa using hk7
         have HQ2:Hid (L++M.chQ (M.deeds t.ll) m (q+1)=LL):=by show _=_;rw [HQ.out,HKq.out,hk72,if_neg (by simp),List.append_nil,HLL.out]
         clear hk7 hk72 HKq HQ CO C3
         go_wp2_with fail
         exact ⟨⟨q+1,by go_num,by rw [HQ2.out],by omega,by rw [HQ2.out];exact hcq,bw3⟩,by simp [intOf];omega⟩
       ·have hqe:q=(M.deeds t.ll).length:=by omega
        have hqn':¬ (q:Int) < (M.deeds t.ll).length:=by omega
        have HP2:Hid (M.chP (M.deeds t.ll) (m+1)=L++M.chQ (M.deeds t.ll) m q):=by show _=_;rw [HP.out,HWt.out,if_pos rfl,hqe,M.chQ_all]
        clear hqe
        go_wp2_with fail
        exact ⟨⟨m+1,by go_num,by rw [HP2.out],by omega,by rw [HP2.out];exact hcq,hbi⟩,by simp [intOf];omega⟩
     ·rw [hla] at d2
      have HP2:Hid (M.chP (M.deeds t.ll) (m+1)=L):=by show _=_;rw [HP.out,HW.out,hla];simp
      clear hk9 HP HW
      go_wp2_with fail
      exact ⟨⟨m+1,by go_num,by rw [HP2.out],by omega,by rw [HP2.out];exact hcm,bw2⟩,by simp [intOf];omega⟩
    ·have hk9':(x.d.k != 9)=true:=by simpa using hk9
     have hk92:(x.d.k==9)=false:=by simpa using hk9
     have HP2:Hid (M.chP (M.deeds t.ll) (m+1)=L):=by show _=_;rw [HP.out,HW.out,hk92];simp
     clear hk9 hk92 HP HW
     go_wp2_with fail
     exact ⟨⟨m+1,by go_num,by rw [HP2.out],by omega,by rw [HP2.out];exact hcm,bw2⟩,by simp [intOf];omega⟩
   ·have hme:m=(M.deeds t.ll).length:=by omega
    have hmn':¬ (m:Int) < (M.deeds t.ll).length:=by omega
    have hcs:cs=[]:=by
     rw [hme,M.chP_all] at hcm
     rw [← HC.out,List.drop_eq_nil_of_le hcm]
    have hF:=HF0.out hcs
    have HF:Hid (M.waitsA (M.deeds t.ll).length A cs=true):=hF
    clear hme hcs hF
    go_wp2_with fail
    go_ret
    exact ⟨ret_bool HF.out.symm,hbel⟩
theorem waits_any (t:Lp) (hk:t.Ok) (hp:M.prog t.ll=true) (hn:(M.deeds t.ll).length≤28):∀ cs:List M.Ch,WaitsOk t cs:=by
 intro cs
 induction cs with
 | nil=>exact fun A X G c va rb rc w fr HC hfr h hN=>waits_of t hk hp hn [] (fun _ _ e=>by cases e) A X G c va rb rc w fr HC hfr h hN
 | cons ch cs ih=>exact fun A X G c va rb rc w fr HC hfr h hN=>waits_of t hk hp hn (ch::cs) (fun _ _ e=>by cases e;exact ih) A X G c va rb rc w fr HC hfr h hN
end
section
open Go.RowKit
structure HoldP (kn:Nat) (ds:List M.De) (l:List Int) (rows:List (List Int)) (O:Nat) (St:World→Prop):Prop where
 bel:∀ w w',St w→Below w.heap.size w w'→St w'
 net:∀ k:Nat,k=0∨k=kn→∀ w,St w→Calls Tryz.prog 37 #[.pointer (some ⟨O,0,none⟩),.int .i64 k] w fun e w'=>∃ X',e=.returned (.pointer (some ⟨X',0,none⟩))∧(∃ G c va rb rc,NtAt w' X' G ds.length c va rb rc (M.staysAt ds k))∧Below w.heap.size w w'
 whole:∀ k:Nat,k=0∨k=kn→∀ X G c va rb rc w,St w→NtAt w X G ds.length c va rb rc (M.staysAt ds k)→Calls Tryz.prog 36 #[.pointer (some ⟨O,0,none⟩),.pointer (some ⟨X,0,none⟩),.int .i64 k] w fun e w'=>∃ X',e=.returned (.pointer (some ⟨X',0,none⟩))∧(∃ G c va rb rc,NtAt w' X' G ds.length c va rb rc (M.netOf ds l rows k))∧Below w.heap.size w w'
 waits:∀ X G c va rb rc A w,St w→NtAt w X G ds.length c va rb rc A→Calls Tryz.prog 61 #[.pointer (some ⟨O,0,none⟩),.pointer (some ⟨X,0,none⟩),.int .i64 0] w fun e w'=>e=.returned (.bool (M.waitsA ds.length A (M.choices ds)))∧Below w.heap.size w w'
set_option maxHeartbeats 1000000 in
set_option maxRecDepth 100000 in
theorem netE_any (O cc:Nat) (va:Option Addr) (k:Nat) (A:Nat→Nat→Bool) (w:World) (h:w.cell? ⟨O,1,none⟩=some (.slice va 0 cc)) :
  Calls Tryz.prog 37 #[.pointer (some ⟨O,0,none⟩),.int .i64 k] w fun e w'=>∃ X',e=.returned (.pointer (some ⟨X',0,none⟩))∧(∃ G c va rb rc,NtAt w' X' G 0 c va rb rc A)∧Below w.heap.size w w':=by
 go_enter Tryz.func37,Tryz.ntmps37
 go_wp2_with fail
 go_loopw [6] (fun s6 wr=>s6=.int .i64 0∧S1 wr w.heap.size (.slice none 0 0)∧Below w.heap.size w wr) (fun _ _=>0)
 case atStart=>exact ⟨rfl,⟨by simp,by simp⟩,below1 _ _⟩
 case round =>
  obtain ⟨rfl,hS1,hbel⟩:=hrel
  have l0:=cellC hbel h
  have s0:=hS1.c
  go_wp2_with fail
  go_ret
  exact ⟨_,rfl,⟨0,0,none,fun _=>0,fun _=>0,⟨s0,fun h=>absurd h (Nat.lt_irrefl _),fun a ha=>absurd ha (Nat.not_lt_zero _),fun a ha=>absurd ha (Nat.not_lt_zero _)⟩⟩,hbel⟩
set_option maxHeartbeats 1000000 in
set_option maxRecDepth 100000 in
theorem wholeE_any (O cc:Nat) (va:Option Addr) (k:Nat) (A A':Nat→Nat→Bool) (X G c:Nat) (va':Option Addr) (rb rc:Nat→Nat) (w:World) (h:w.cell? ⟨O,1,none⟩=some (.slice va 0 cc)) (hA:NtAt w X G 0 c va' rb rc A) :
  Calls Tryz.prog 36 #[.pointer (some ⟨O,0,none⟩),.pointer (some ⟨X,0,none⟩),.int .i64 k] w fun e w'=>∃ X',e=.returned (.pointer (some ⟨X',0,none⟩))∧(∃ G c va rb rc,NtAt w' X' G 0 c va rb rc A')∧Below w.heap.size w w':=by
 go_enter Tryz.func36,Tryz.ntmps36
 go_wp2_with fail
 refine (copy_any X G 0 c va' rb rc A w (by omega) hA).mono ?_
 rintro e W1 ⟨X1,rfl,⟨G1,c1,va1,rb1,rc1,hO⟩,b1⟩
 have hN:=hO.nt.congr (A':=A') (fun a b ha=>absurd ha (Nat.not_lt_zero _))
 clear hA hO
 go_wp2_with fail
 go_loopw [8] (fun s8 wr=>s8=.int .i64 0∧NtAt wr X1 G1 0 c1 va1 rb1 rc1 A'∧Below w.heap.size w wr) (fun _ _=>0)
 case atStart=>exact ⟨rfl,hN,b1⟩
 case round =>
  obtain ⟨rfl,hN',hbel⟩:=hrel
  clear hN b1
  have l0:=cellC hbel h
  go_wp2_with fail
  go_ret
  exact ⟨_,rfl,⟨G1,c1,va1,rb1,rc1,hN'⟩,hbel⟩
set_option maxHeartbeats 1000000 in
set_option maxRecDepth 100000 in
theorem waitsE_any (O cc:Nat) (va:Option Addr) (A:Nat→Nat→Bool) (X G c:Nat) (va':Option Addr) (rb rc:Nat→Nat) (w:World) (h:w.cell? ⟨O,1,none⟩=some (.slice va 0 cc)) (hA:NtAt w X G 0 c va' rb rc A) :
  Calls Tryz.prog 61 #[.pointer (some ⟨O,0,none⟩),.pointer (some ⟨X,0,none⟩),.int .i64 0] w fun e w'=>e=.returned (.bool true)∧Below w.heap.size w w':=by
 have C:=netHolds_any X G 0 c va' rb rc A w (by omega) hA
 rw [show M.holdsA A 0=true from rfl] at C
 go_enter Tryz.func61,Tryz.ntmps61
 go_wp2_with fail
 refine C.mono ?_
 rintro e W1 ⟨rfl,b1⟩
 go_wp2_with fail
 go_loopw [7,8] (fun s7 s8 wr=>s7=.int .i64 0∧s8=.int .i64 0∧Below w.heap.size w wr) (fun _ _ _=>0)
 case atStart=>exact ⟨rfl,rfl,b1⟩
 case round =>
  obtain ⟨rfl,rfl,hbel⟩:=hrel
  clear b1
  have l0:=cellC hbel h
  go_wp2_with fail
  go_ret
  exact ⟨rfl,hbel⟩
set_option maxHeartbeats 2000000 in
set_option maxRecDepth 100000 in
theorem wayE_any (O cc:Nat) (va:Option Addr) (v0 v1 v2:Value) (fa ra:Option Addr) (fl' fc rl rc:Nat) (n:Nat) (HN:Hid (n=0)) (w:World) (hO:O < w.heap.size) (blk:w.heap[O]?=some (.cells #[v0,.slice va n cc,v1,v2,.slice none 0 0,.slice none 0 0] 131 (0,0))) :
  Calls Tryz.prog 34 #[.pointer (some ⟨O,0,none⟩),.agg #[.slice fa fl' fc,.slice ra rl rc]] w fun e w'=>e=.returned (.tuple #[])∧w'.cell? ⟨O,1,none⟩=some (.slice va n cc)∧But O w w':=by
 have fl:=Tryz.fld1
 have hmk:=run_make_row' (P:=Tryz.prog) 26 3 (.int .i64 0) 8 Tryz.underlying26 Tryz.infoInt rfl .i64 .i64 n (by have:=HN.out;omega) (by have:=HN.out;omega)
 have b1:w.cell? ⟨O,1,none⟩=some (.slice va n cc):=by simp [World.cell?,blk]
 have b4:w.cell? ⟨O,4,none⟩=some (.slice none 0 0):=by simp [World.cell?,blk]
 have b5:w.cell? ⟨O,5,none⟩=some (.slice none 0 0):=by simp [World.cell?,blk]
 have bf:∀ i,w.frozen? ⟨O,i,none⟩=false:=fun i=>by simp [World.frozen?,blk]
 go_enter Tryz.func34,Tryz.ntmps34
 go_wp2_with fail
 have e1:=heap_setCell_same w O 4 _ _ (.slice fa fl' fc) blk
 have e2:=heap_setCell_same _ O 5 _ _ (.slice (some ⟨w.heap.size+1,0,none⟩) n n) e1
 have hbut:But O w ((((w.setCell ⟨O,4,none⟩ (.slice fa fl' fc)).setCell ⟨O,5,none⟩ (.slice (some ⟨w.heap.size+1,0,none⟩) n n)).alloc (.cells #[.slice fa fl' fc,.slice ra rl rc] 29)).alloc (.cells (madeCells #[.int .i64 0] n) 3)):=((((But.refl O w).setCell (Or.inr rfl) _).setCell (Or.inr rfl) _).alloc _).alloc _
 have hc1:((((w.setCell ⟨O,4,none⟩ (.slice fa fl' fc)).setCell ⟨O,5,none⟩ (.slice (some ⟨w.heap.size+1,0,none⟩) n n)).alloc (.cells #[.slice fa fl' fc,.slice ra rl rc] 29)).alloc (.cells (madeCells #[.int .i64 0] n) 3)).cell? ⟨O,1,none⟩=some (.slice va n cc):=by
  rw [World.cell?,alloc_old _ _ _ (by simp;omega),alloc_old _ _ _ (by simp;omega),e2]
  simp
 generalize ((((w.setCell ⟨O,4,none⟩ (.slice fa fl' fc)).setCell ⟨O,5,none⟩ (.slice (some ⟨w.heap.size+1,0,none⟩) n n)).alloc (.cells #[.slice fa fl' fc,.slice ra rl rc] 29)).alloc (.cells (madeCells #[.int .i64 0] n) 3))=W0 at hbut hc1 ⊢
 clear hmk b1 b4 b5 bf e1 e2 blk
 go_loopw [4] (fun s4 wq=>s4=.int .i64 0∧wq.cell? ⟨O,1,none⟩=some (.slice va n cc)∧But O w wq) (fun _ _=>0)
 case atStart=>exact ⟨rfl,hc1,hbut⟩
 case round =>
  clear hc1 hbut
  obtain ⟨rfl,q1,hbut⟩:=hrel
  have hz:¬ (0:Int) < n:=by have:=HN.out;omega
  go_wp2_with fail
  exact bodyPost_end (v:=.tuple #[]) (results_none Tryz.results34 _ _ _) rfl ⟨rfl,q1,hbut⟩
theorem holds_parts (kn:Nat) (hk13:1≤kn∧kn≤3) (a:Option Addr) (b o c:Nat) (ll:List (List M.D)) (fa:Option Addr) (fb fo fc:Nat) (l:List Int) (ra:Option Addr) (rb ro rc:Nat) (rows:List (List Int)) (w2 w3:World) (O:Nat) (va:Option Addr) (g cc:Nat) (v1 v2:Value) (hl:ll.length≤1048576) (hls:∀ t∈ll,t.length≤1048576) (hrs:∀ r∈rows,r.length≤1048576) (hW:M.Wok ll l rows) (hdl:(M.deeds ll).length≤28) (hp2:DoSS w2 a b o ll) (hf2:IntS w2 fa fb fo l) (hr2:IntSS w2 ra rb ro rows) (hLk:Looked w2 w3 O a c ll va g cc v1 v2) :
  ∃ St:World→Prop,Calls Tryz.prog 34 #[.pointer (some ⟨O,0,none⟩),.agg #[.slice fa l.length fc,.slice ra rows.length rc]] w3 (fun e w'=>e=.returned (.tuple #[])∧St w'∧But O w3 w')∧HoldP kn (M.deeds ll) l rows O St:=by
 have c1:w3.cell? ⟨O,1,none⟩=some (.slice va (M.deeds ll).length cc):=by simp [World.cell?,hLk.blk]
 have hOl:O < w3.heap.size:=World.block_lt_of_cell? _ _ c1
 rcases Nat.eq_zero_or_pos (M.deeds ll).length with h0 | hpos
 ·have hnil:M.deeds ll=[]:=List.eq_nil_of_length_eq_zero h0
  refine ⟨fun w=>w.cell? ⟨O,1,none⟩=some (.slice va 0 cc),?_,fun w w' h hb=>cellC hb h,?_,?_,?_⟩
  ·have C:=wayE_any O cc va _ v1 v2 fa ra l.length fc rows.length rc _ h0 w3 hOl hLk.blk
   rw [h0] at C
   exact C
  ·intro k _ w hSt
   rw [hnil]
   exact netE_any O cc va k _ w hSt
  ·intro k _ X G c va' rb rc w hSt hN
   rw [hnil] at hN ⊢
   exact wholeE_any O cc va k _ _ X G c va' rb rc w hSt hN
  ·intro X G c va' rb rc A w hSt hN
   rw [hnil] at hN ⊢
   exact waitsE_any O cc va A X G c va' rb rc w hSt hN
 ·obtain ⟨rfl⟩:=hLk.dv.addr hpos
  obtain ⟨rfl⟩:=hf2.addr (by have:=hW.len.out;omega)
  obtain ⟨rfl⟩:=hr2.addr (by have:=hW.three.out;omega)
  obtain ⟨ub,uc,rfl,_,_⟩:=hLk.own1.form hpos
  obtain ⟨wb,wc,rfl,_,_⟩:=hLk.own2.form hpos
  have rd:∀ n x,(M.deeds ll)[n]?=some x→w3.cell? ⟨ub,n,none⟩=some (.bool (M.reads x.d.k)):=fun n x hx=>by
   have hn:n < (M.deeds ll).length:=by
    rcases Nat.lt_or_ge n (M.deeds ll).length with h | h
    ·exact h
    ·rw [List.getElem?_eq_none h] at hx;cases hx
   have o1:=hLk.own1
   have:=own_bools (l:=(M.deeds ll).map fun x=>M.reads x.d.k) (by rw [List.length_map];exact o1) n (by simpa using hn)
   rw [List.getElem?_eq_getElem hn] at hx
   rw [this,List.getElem_map,Option.some.inj hx]
  have wrt:∀ n x,(M.deeds ll)[n]?=some x→w3.cell? ⟨wb,n,none⟩=some (.bool (M.writes x.d.k)):=fun n x hx=>by
   have hn:n < (M.deeds ll).length:=by
    rcases Nat.lt_or_ge n (M.deeds ll).length with h | h
    ·exact h
    ·rw [List.getElem?_eq_none h] at hx;cases hx
   have o1:=hLk.own2
   have:=own_bools (l:=(M.deeds ll).map fun x=>M.writes x.d.k) (by rw [List.length_map];exact o1) n (by simpa using hn)
   rw [List.getElem?_eq_getElem hn] at hx
   rw [this,List.getElem_map,Option.some.inj hx]
  have hkO:(⟨O,a,b,o,c,ll,g,cc⟩:Lp).Ok:=⟨hl,hls,by show (M.deeds ll).length≤42;omega⟩
  have CW:=way_any ⟨O,a,b,o,c,ll,g,cc⟩ ⟨ub,uc,wb,wc,fb,fo,fc,l,w3.heap.size+1,(M.deeds ll).length,rows⟩ _ w3 rc hkO hW.pl hpos hW.len hW.three hrs rb ro hLk.bel hLk.ge hOl hp2 hf2 hr2 hLk.blk hLk.dv rd wrt rfl rfl
  refine ⟨_,CW,fun w w' h hb=>h.below hb,?_,?_,?_⟩
  ·intro k hk w hSt
   have C:=net_of ⟨O,a,b,o,c,ll,g,cc⟩ _ k w hdl hSt (by
    intro p q x y w h hx hy
    rcases hk with rfl | rfl
    ·exact stays0_any _ _ p q x y w hkO h hx hy
    ·rcases (show k=1∨k=2∨k=3 by omega) with rfl | rfl | rfl
     ·exact stays1_any _ _ p q x y w hkO h hx hy
     ·exact stays2_any _ _ p q x y w hkO h hx hy
     ·exact stays3_any _ _ p q x y w hkO h hx hy)
   exact C.mono (fun e w' ⟨X',he,⟨G',c',va',rb',rc',hO⟩,hb⟩=>⟨X',he,⟨G',c',va',rb',rc',hO.nt⟩,hb⟩)
  ·intro k hk X G c' va' rb' rc' w hSt hN
   have C:=whole_of ⟨O,a,b,o,c,ll,g,cc⟩ _ k X G c' va' rb' rc' _ w hdl hSt hN (by
    intro p q x y w h hx hy
    rcases hk with rfl | rfl
    ·exact told0_any _ _ p q x y w hkO h hx hy
    ·rcases (show k=1∨k=2∨k=3 by omega) with rfl | rfl | rfl
     ·exact told1_any _ _ p q x y w hkO h hx hy
     ·exact told2_any _ _ p q x y w hkO h hx hy
     ·exact told3_any _ _ p q x y w hkO h hx hy)
   refine C.mono (fun e w' ⟨X',he,⟨G',c',va',rb',rc',hO⟩,hb⟩=>⟨X',he,⟨G',c',va',rb',rc',hO.nt.congr (fun p q hp hq=>?_)⟩,hb⟩)
   have hx:=List.getElem?_eq_getElem hp
   have hy:=List.getElem?_eq_getElem hq
   show (M.staysAt (M.deeds ll) k p q||M.toldAt (M.deeds ll) l rows k p q)=M.mustAt (M.deeds ll) l rows k p q
   rw [M.staysAt_of hx hy,M.toldAt_of hx hy,M.mustAt,hx,hy,M.must_eq hW.fro hW.run k hp hq]
  ·intro X G c' va' rb' rc' A w hSt hN
   exact waits_any ⟨O,a,b,o,c,ll,g,cc⟩ hkO hW.prog hdl _ A X G c' va' rb' rc' w 0 (show Hid (_=_) from rfl) (by omega) hSt.p hN
end
section
open Go.RowKit
set_option maxHeartbeats 2000000 in
set_option maxRecDepth 100000 in
theorem wayEG_any {f4 f5:Value} (O cc:Nat) (va:Option Addr) (v0 v1 v2:Value) (fa ra:Option Addr) (fl' fc rl rc:Nat) (n:Nat) (HN:Hid (n=0)) (w:World) (hO:O < w.heap.size) (blk:w.heap[O]?=some (.cells #[v0,.slice va n cc,v1,v2,f4,f5] 131 (0,0))) :
  Calls Tryz.prog 34 #[.pointer (some ⟨O,0,none⟩),.agg #[.slice fa fl' fc,.slice ra rl rc]] w fun e w'=>e=.returned (.tuple #[])∧w'.heap[O]?=some (.cells #[v0,.slice va n cc,v1,v2,.slice fa fl' fc,.slice (some ⟨w.heap.size+1,0,none⟩) n n] 131 (0,0))∧But O w w':=by
 have fl:=Tryz.fld1
 have hmk:=run_make_row' (P:=Tryz.prog) 26 3 (.int .i64 0) 8 Tryz.underlying26 Tryz.infoInt rfl .i64 .i64 n (by have:=HN.out;omega) (by have:=HN.out;omega)
 have b1:w.cell? ⟨O,1,none⟩=some (.slice va n cc):=by simp [World.cell?,blk]
 have b4:w.cell? ⟨O,4,none⟩=some f4:=by simp [World.cell?,blk]
 have b5:w.cell? ⟨O,5,none⟩=some f5:=by simp [World.cell?,blk]
 have bf:∀ i,w.frozen? ⟨O,i,none⟩=false:=fun i=>by simp [World.frozen?,blk]
 go_enter Tryz.func34,Tryz.ntmps34
 go_wp2_with fail
 have e1:=heap_setCell_same w O 4 _ _ (.slice fa fl' fc) blk
 have e2:=heap_setCell_same _ O 5 _ _ (.slice (some ⟨w.heap.size+1,0,none⟩) n n) e1
 have hbut:But O w ((((w.setCell ⟨O,4,none⟩ (.slice fa fl' fc)).setCell ⟨O,5,none⟩ (.slice (some ⟨w.heap.size+1,0,none⟩) n n)).alloc (.cells #[.slice fa fl' fc,.slice ra rl rc] 29)).alloc (.cells (madeCells #[.int .i64 0] n) 3)):=((((But.refl O w).setCell (Or.inr rfl) _).setCell (Or.inr rfl) _).alloc _).alloc _
 have hc1:((((w.setCell ⟨O,4,none⟩ (.slice fa fl' fc)).setCell ⟨O,5,none⟩ (.slice (some ⟨w.heap.size+1,0,none⟩) n n)).alloc (.cells #[.slice fa fl' fc,.slice ra rl rc] 29)).alloc (.cells (madeCells #[.int .i64 0] n) 3)).heap[O]?=some (.cells #[v0,.slice va n cc,v1,v2,.slice fa fl' fc,.slice (some ⟨w.heap.size+1,0,none⟩) n n] 131 (0,0)):=by
  rw [alloc_old _ _ _ (by simp;omega),alloc_old _ _ _ (by simp;omega)]
  exact e2
 generalize ((((w.setCell ⟨O,4,none⟩ (.slice fa fl' fc)).setCell ⟨O,5,none⟩ (.slice (some ⟨w.heap.size+1,0,none⟩) n n)).alloc (.cells #[.slice fa fl' fc,.slice ra rl rc] 29)).alloc (.cells (madeCells #[.int .i64 0] n) 3))=W0 at hbut hc1 ⊢
 clear hmk b1 b4 b5 bf e1 e2 blk
 go_loopw [4] (fun s4 wq=>s4=.int .i64 0∧wq.heap[O]?=some (.cells #[v0,.slice va n cc,v1,v2,.slice fa fl' fc,.slice (some ⟨w.heap.size+1,0,none⟩) n n] 131 (0,0))∧But O w wq) (fun _ _=>0)
 case atStart=>exact ⟨rfl,hc1,hbut⟩
 case round =>
  clear hc1 hbut
  obtain ⟨rfl,q0,hbut⟩:=hrel
  have q1:wr.cell? ⟨O,1,none⟩=some (.slice va n cc):=by simp [World.cell?,q0]
  have hz:¬ (0:Int) < n:=by have:=HN.out;omega
  go_wp2_with fail
  exact bodyPost_end (v:=.tuple #[]) (results_none Tryz.results34 _ _ _) rfl ⟨rfl,q0,hbut⟩
theorem own_but {w w':World} {O B:Nat} {e:TypeId} {size:Nat} {v:Value} {n:Nat} {xs:List Value} (h:w.ownsRow B e size v n xs) (hb:But O w w') (hO:O < B):w'.ownsRow B e size v n xs:=by
 obtain ⟨h1,h2⟩:=h
 refine ⟨h1,?_⟩
 rcases h2 with h2 | ⟨g,cap,cur,hv,hg,hh,r⟩
 ·exact Or.inl h2
 ·refine Or.inr ⟨g,cap,cur,hv,hg,(hb.block g ?_ (by omega)).trans hh,r⟩
  rcases Nat.lt_or_ge g w.heap.size with hlt | hge
  ·exact hlt
  ·rw [Array.getElem?_eq_none hge] at hh;cases hh
structure LookedG (w w':World) (O:Nat) (a:Option Addr) (c:Nat) (ll:List (List M.D)) (va:Option Addr) (g cc:Nat) (v1 v2:Value):Prop where
 bel:Below w.heap.size w w'
 ge:w.heap.size≤O
 blk:∃ f4 f5,w'.heap[O]?=some (.cells #[.slice a ll.length c,.slice va (M.deeds ll).length cc,v1,v2,f4,f5] 131 (0,0))
 dv:DvS w' va g (M.deeds ll)
 own1:w'.ownsRow (O+1) 4 1 v1 (M.deeds ll).length (bools ((M.deeds ll).map fun x=>M.reads x.d.k))
 own2:w'.ownsRow (O+1) 4 1 v2 (M.deeds ll).length (bools ((M.deeds ll).map fun x=>M.writes x.d.k))
theorem Looked.g {w w':World} {O:Nat} {a:Option Addr} {c:Nat} {ll:List (List M.D)} {va:Option Addr} {g cc:Nat} {v1 v2:Value} (h:Looked w w' O a c ll va g cc v1 v2):LookedG w w' O a c ll va g cc v1 v2:=⟨h.bel,h.ge,⟨_,_,h.blk⟩,h.dv,h.own1,h.own2⟩
theorem LookedG.lt {w w':World} {O:Nat} {a:Option Addr} {c:Nat} {ll:List (List M.D)} {va:Option Addr} {g cc:Nat} {v1 v2:Value} (h:LookedG w w' O a c ll va g cc v1 v2):O < w'.heap.size:=by
 obtain ⟨f4,f5,hb⟩:=h.blk
 have c1:w'.cell? ⟨O,1,none⟩=some (.slice va (M.deeds ll).length cc):=by simp [World.cell?,hb]
 exact World.block_lt_of_cell? _ _ c1
theorem LookedG.but {w w3 w':World} {O:Nat} {a:Option Addr} {c:Nat} {ll:List (List M.D)} {va:Option Addr} {g cc:Nat} {v1 v2 f4 f5:Value} (h:LookedG w w3 O a c ll va g cc v1 v2) (hb:But O w3 w') (hk:w'.heap[O]?=some (.cells #[.slice a ll.length c,.slice va (M.deeds ll).length cc,v1,v2,f4,f5] 131 (0,0))):LookedG w w' O a c ll va g cc v1 v2:=by
 refine ⟨But.low h.bel hb h.ge,h.ge,⟨_,_,hk⟩,?_,own_but h.own1 hb (by omega),own_but h.own2 hb (by omega)⟩
 rcases Nat.eq_zero_or_pos (M.deeds ll).length with h0 | hpos
 ·have hnil:M.deeds ll=[]:=List.eq_nil_of_length_eq_zero h0
  rw [hnil]
  exact ⟨fun h=>absurd h (Nat.lt_irrefl _),fun i hi=>absurd hi (Nat.not_lt_zero _)⟩
 ·refine h.dv.but hb fun e=>?_
  obtain ⟨f4,f5,hb0⟩:=h.blk
  have h1:=(h.dv.at hpos).c0
  have b0:w3.cell? ⟨O,0,none⟩=some (.slice a ll.length c):=by simp [World.cell?,hb0]
  rw [e,Nat.zero_mul,b0] at h1
  cases h1
theorem LookedG.below {w w3 w':World} {O:Nat} {a:Option Addr} {c:Nat} {ll:List (List M.D)} {va:Option Addr} {g cc:Nat} {v1 v2:Value} (h:LookedG w w3 O a c ll va g cc v1 v2) (hb:Below w3.heap.size w3 w'):LookedG w w' O a c ll va g cc v1 v2:=by
 obtain ⟨f4,f5,hk⟩:=h.blk
 refine h.but ⟨hb.os,hb.tape,hb.output,hb.size,fun k hk _=>hb.block k hk⟩ ((hb.block O h.lt).trans hk)
structure HoldQ (kn:Nat) (ds:List M.De) (l:List Int) (rows:List (List Int)) (O:Nat) (St:World→Prop):Prop where
 bel:∀ w w',St w→Below w.heap.size w w'→St w'
 whole:∀ k:Nat,k=0∨k=kn→∀ X G c va rb rc w,St w→NtAt w X G ds.length c va rb rc (M.staysAt ds k)→Calls Tryz.prog 36 #[.pointer (some ⟨O,0,none⟩),.pointer (some ⟨X,0,none⟩),.int .i64 k] w fun e w'=>∃ X',e=.returned (.pointer (some ⟨X',0,none⟩))∧(∃ G c va rb rc,NtAt w' X' G ds.length c va rb rc (M.netOf ds l rows k))∧Below w.heap.size w w'
 waits:∀ X G c va rb rc A w,St w→NtAt w X G ds.length c va rb rc A→Calls Tryz.prog 61 #[.pointer (some ⟨O,0,none⟩),.pointer (some ⟨X,0,none⟩),.int .i64 0] w fun e w'=>e=.returned (.bool (M.waitsA ds.length A (M.choices ds)))∧Below w.heap.size w w'
theorem holdsG_parts (kn:Nat) (hk13:1≤kn∧kn≤3) (a:Option Addr) (b o c:Nat) (ll:List (List M.D)) (fa:Option Addr) (fb fo fc:Nat) (l:List Int) (ra:Option Addr) (rb ro rc:Nat) (rows:List (List Int)) (w2 w3:World) (O:Nat) (va:Option Addr) (g cc:Nat) (v1 v2:Value) (hl:ll.length≤1048576) (hls:∀ t∈ll,t.length≤1048576) (hrs:∀ r∈rows,r.length≤1048576) (hW:M.Wok ll l rows) (hdl:(M.deeds ll).length≤28) (hp2:DoSS w2 a b o ll) (hf2:IntS w2 fa fb fo l) (hr2:IntSS w2 ra rb ro rows) (hLk:LookedG w2 w3 O a c ll va g cc v1 v2) :
  ∃ St:World→Prop,Calls Tryz.prog 34 #[.pointer (some ⟨O,0,none⟩),.agg #[.slice fa l.length fc,.slice ra rows.length rc]] w3 (fun e w'=>e=.returned (.tuple #[])∧St w'∧LookedG w2 w' O a c ll va g cc v1 v2∧But O w3 w')∧HoldQ kn (M.deeds ll) l rows O St:=by
 have hOl:=hLk.lt
 obtain ⟨f4,f5,hblk⟩:=hLk.blk
 rcases Nat.eq_zero_or_pos (M.deeds ll).length with h0 | hpos
 ·have hnil:M.deeds ll=[]:=List.eq_nil_of_length_eq_zero h0
  refine ⟨fun w=>w.cell? ⟨O,1,none⟩=some (.slice va 0 cc),?_,fun w w' h hb=>cellC hb h,?_,?_⟩
  ·have C:=wayEG_any O cc va _ v1 v2 fa ra l.length fc rows.length rc _ h0 w3 hOl hblk
   refine C.mono fun e w' ⟨he,hb,hbut⟩=>⟨he,?_,hLk.but hbut hb,hbut⟩
   show w'.cell? ⟨O,1,none⟩=some (.slice va 0 cc)
   rw [← h0];simp [World.cell?,hb]
  ·intro k _ X G c va' rb rc w hSt hN
   rw [hnil] at hN ⊢
   exact wholeE_any O cc va k _ _ X G c va' rb rc w hSt hN
  ·intro X G c va' rb rc A w hSt hN
   rw [hnil] at hN ⊢
   exact waitsE_any O cc va A X G c va' rb rc w hSt hN
 ·obtain ⟨rfl⟩:=hLk.dv.addr hpos
  obtain ⟨rfl⟩:=hf2.addr (by have:=hW.len.out;omega)
  obtain ⟨rfl⟩:=hr2.addr (by have:=hW.three.out;omega)
  obtain ⟨ub,uc,rfl,_,_⟩:=hLk.own1.form hpos
  obtain ⟨wb,wc,rfl,_,_⟩:=hLk.own2.form hpos
  have rd:∀ n x,(M.deeds ll)[n]?=some x→w3.cell? ⟨ub,n,none⟩=some (.bool (M.reads x.d.k)):=fun n x hx=>by
   have hn:n < (M.deeds ll).length:=by
    rcases Nat.lt_or_ge n (M.deeds ll).length with h | h
    ·exact h
    ·rw [List.getElem?_eq_none h] at hx;cases hx
   have o1:=hLk.own1
   have:=own_bools (l:=(M.deeds ll).map fun x=>M.reads x.d.k) (by rw [List.length_map];exact o1) n (by simpa using hn)
   rw [List.getElem?_eq_getElem hn] at hx
   rw [this,List.getElem_map,Option.some.inj hx]
  have wrt:∀ n x,(M.deeds ll)[n]?=some x→w3.cell? ⟨wb,n,none⟩=some (.bool (M.writes x.d.k)):=fun n x hx=>by
   have hn:n < (M.deeds ll).length:=by
    rcases Nat.lt_or_ge n (M.deeds ll).length with h | h
    ·exact h
    ·rw [List.getElem?_eq_none h] at hx;cases hx
   have o1:=hLk.own2
   have:=own_bools (l:=(M.deeds ll).map fun x=>M.writes x.d.k) (by rw [List.length_map];exact o1) n (by simpa using hn)
   rw [List.getElem?_eq_getElem hn] at hx
   rw [this,List.getElem_map,Option.some.inj hx]
  have hkO:(⟨O,a,b,o,c,ll,g,cc⟩:Lp).Ok:=⟨hl,hls,by show (M.deeds ll).length≤42;omega⟩
  have CW:=wayG_any ⟨O,a,b,o,c,ll,g,cc⟩ ⟨ub,uc,wb,wc,fb,fo,fc,l,w3.heap.size+1,(M.deeds ll).length,rows⟩ _ w3 rc hkO hW.pl hpos hW.len hW.three hrs rb ro hLk.bel hLk.ge hOl hp2 hf2 hr2 hblk hLk.dv rd wrt rfl rfl
  refine ⟨_,CW.mono fun e w' ⟨he,hA,hbut,f4',f5',hb⟩=>⟨he,hA,hLk.but hbut hb,hbut⟩,fun w w' h hb=>h.below hb,?_,?_⟩
  ·intro k hk X G c' va' rb' rc' w hSt hN
   have C:=whole_of ⟨O,a,b,o,c,ll,g,cc⟩ _ k X G c' va' rb' rc' _ w hdl hSt hN (by
    intro p q x y w h hx hy
    rcases hk with rfl | rfl
    ·exact told0_any _ _ p q x y w hkO h hx hy
    ·rcases (show k=1∨k=2∨k=3 by omega) with rfl | rfl | rfl
     ·exact told1_any _ _ p q x y w hkO h hx hy
     ·exact told2_any _ _ p q x y w hkO h hx hy
     ·exact told3_any _ _ p q x y w hkO h hx hy)
   refine C.mono (fun e w' ⟨X',he,⟨G',c',va',rb',rc',hO⟩,hb⟩=>⟨X',he,⟨G',c',va',rb',rc',hO.nt.congr (fun p q hp hq=>?_)⟩,hb⟩)
   have hx:=List.getElem?_eq_getElem hp
   have hy:=List.getElem?_eq_getElem hq
   show (M.staysAt (M.deeds ll) k p q||M.toldAt (M.deeds ll) l rows k p q)=M.mustAt (M.deeds ll) l rows k p q
   rw [M.staysAt_of hx hy,M.toldAt_of hx hy,M.mustAt,hx,hy,M.must_eq hW.fro hW.run k hp hq]
  ·intro X G c' va' rb' rc' A w hSt hN
   exact waits_any ⟨O,a,b,o,c,ll,g,cc⟩ hkO hW.prog hdl _ A X G c' va' rb' rc' w 0 (show Hid (_=_) from rfl) (by omega) hSt.p hN
end
section
open Go.RowKit
set_option maxHeartbeats 4000000 in
set_option maxRecDepth 100000 in
theorem sorderHolds_any (a:Option Addr) (b o c:Nat) (ll:List (List M.D)) (fa:Option Addr) (fb fo fc:Nat) (l:List Int) (ra:Option Addr) (rb ro rc:Nat) (rows:List (List Int)) (kind:Int) (w:World) (hl:ll.length≤1048576) (hls:∀ t∈ll,t.length≤1048576) (hl1:l.length≤1048576) (hrs:∀ r∈rows,r.length≤1048576) (h:DoSS w a b o ll) (hf:IntS w fa fb fo l) (hr:IntSS w ra rb ro rows) :
  Calls Tryz.prog 22 #[.agg #[.slice a ll.length c],.agg #[.slice fa l.length fc,.slice ra rows.length rc],.int .i64 kind] w fun e w'=>e=.returned (.bool (M.orderHolds ll l rows kind))∧Below w.heap.size w w':=by
 have hb1:=below2 w (.cells #[.slice a ll.length c] 25) (.cells #[.slice fa l.length fc,.slice ra rows.length rc] 29)
 have kp:((w.alloc (.cells #[.slice a ll.length c] 25)).alloc (.cells #[.slice fa l.length fc,.slice ra rows.length rc] 29)).cell? ⟨w.heap.size,0,none⟩=some (.slice a ll.length c):=by simp
 have k0:((w.alloc (.cells #[.slice a ll.length c] 25)).alloc (.cells #[.slice fa l.length fc,.slice ra rows.length rc] 29)).cell? ⟨w.heap.size+1,0,none⟩=some (.slice fa l.length fc):=by simp
 have k1:((w.alloc (.cells #[.slice a ll.length c] 25)).alloc (.cells #[.slice fa l.length fc,.slice ra rows.length rc] 29)).cell? ⟨w.heap.size+1,1,none⟩=some (.slice ra rows.length rc):=by simp
 have hp1:=h.below hb1 (Nat.le_refl _)
 have hf1:=hf.below hb1 (Nat.le_refl _)
 have hr1:=hr.below hb1 (Nat.le_refl _)
 clear h hf hr
 have C1:=sexecOk_any a b o c ll fa fb fo fc l ra rb ro rc rows _ hl hls hl1 hrs hp1 hf1 hr1
 cases hok:M.execOk ll l rows
 ·rw [hok] at C1
  go_enter Tryz.func22,Tryz.ntmps22
  go_wp2_with fail
  refine C1.mono ?_
  rintro e w1 ⟨rfl,hb2⟩
  go_wp2_with fail
  go_ret
  exact ⟨ret_bool (by simp only [M.orderHolds,hok,Bool.false_and,Bool.and_false]),hb1.trans (hb2.mono hb1.size)⟩
 ·rw [hok] at C1
  cases hk:(decide (1≤kind)&&decide (kind≤3))
  ·go_enter Tryz.func22,Tryz.ntmps22
   go_wp2_with fail
   refine C1.mono ?_
   rintro e w1 ⟨rfl,hb2⟩
   have hk':M.rng 1 3 kind=false:=hk
   go_wp2_with (go_at_call 59;refine (l6In_any kind 1 3 _).mono ?_;rw [hk'];rintro e w' ⟨rfl,rfl⟩)
   go_ret
   exact ⟨ret_bool (by simp only [M.orderHolds,hk,Bool.false_and]),hb1.trans (hb2.mono hb1.size)⟩
  ·have hk':M.rng 1 3 kind=true:=hk
   have hW:=M.wok_of hok
   have hdl:=M.deeds28 hW.prog
   obtain ⟨kn,rfl⟩:∃ kn:Nat,kind=kn:=⟨kind.toNat,by simp only [Bool.and_eq_true,decide_eq_true_eq] at hk;omega⟩
   have hk13:1≤kn∧kn≤3:=by simp only [Bool.and_eq_true,decide_eq_true_eq] at hk;omega
   have HO:Hid (M.orderHolds ll l rows kn=(M.holdsA (M.netOf (M.deeds ll) l rows 0) (M.deeds ll).length&&M.waitsA (M.deeds ll).length (M.netOf (M.deeds ll) l rows kn) (M.choices (M.deeds ll)))):=by show _=_;unfold M.orderHolds;rw [hok,hk];simp
   clear hok hk
   go_enter Tryz.func22,Tryz.ntmps22
   go_wp2_with fail
   refine C1.mono ?_
   rintro e w1 ⟨rfl,hb2⟩
   have hb12:=hb1.trans (hb2.mono hb1.size)
   have kp1:=cellC hb2 kp
   have k01:=cellC hb2 k0
   have k11:=cellC hb2 k1
   have hp2:=hp1.below hb2 (Nat.le_refl _)
   have hf2:=hf1.below hb2 (Nat.le_refl _)
   have hr2:=hr1.below hb2 (Nat.le_refl _)
   clear kp k0 k1 hp1 hf1 hr1 C1 hb1 hb2
   go_wp2_with (go_at_call 59;refine (l6In_any kn 1 3 _).mono ?_;rw [hk'];rintro e w1x ⟨rfl,rfl⟩)
   refine (l13Look_any a b o c ll _ hW.prog hl hls (by omega) hp2).mono ?_
   rintro e w3 ⟨O,va,g,cc,v1,v2,rfl,hLk⟩
   have hb13:=hb12.trans (hLk.bel.mono hb12.size)
   have k03:=cellC hLk.bel k01
   have k13:=cellC hLk.bel k11
   obtain ⟨St,CW,hP⟩:=holds_parts kn hk13 a b o c ll fa fb fo fc l ra rb ro rc rows _ w3 O va g cc v1 v2 hl hls hrs hW hdl hp2 hf2 hr2 hLk
   have hge:w.heap.size≤O:=by have:=hLk.ge;have:=hb12.size;omega
   clear hLk kp1 k01 k11 hp2 hf2 hr2 hW
   go_wp2_with fail
   refine CW.mono ?_
   rintro e w4 ⟨rfl,hSt,hBut⟩
   have hb14:Below w.heap.size w w4:=But.low hb13 hBut hge
   clear hb12 hb13 hBut CW k03 k13
   go_wp2_with fail
   refine (hP.net 0 (Or.inl rfl) w4 hSt).mono ?_
   rintro e w5 ⟨X1,rfl,⟨G1,c1,va1,rb1,rc1,hN1⟩,b5⟩
   have hSt5:=hP.bel _ _ hSt b5
   have hb15:=hb14.trans (b5.mono hb14.size)
   clear hSt hb14 b5
   go_wp2_with fail
   refine (hP.whole 0 (Or.inl rfl) X1 G1 c1 va1 rb1 rc1 w5 hSt5 hN1).mono ?_
   rintro e w6 ⟨X2,rfl,⟨G2,c2,va2,rb2,rc2,hN2⟩,b6⟩
   have hSt6:=hP.bel _ _ hSt5 b6
   have hb16:=hb15.trans (b6.mono hb15.size)
   clear hSt5 hb15 b6 hN1
   have CH:=netHolds_any X2 G2 _ c2 va2 rb2 rc2 _ w6 hdl hN2
   cases hH:M.holdsA (M.netOf (M.deeds ll) l rows 0) (M.deeds ll).length
   ·rw [hH] at CH
    have HF:Hid (M.orderHolds ll l rows kn=false):=by show _=_;rw [HO.out,hH];rfl
    clear hH
    go_wp2_with fail
    refine CH.mono ?_
    rintro e w7 ⟨rfl,b7⟩
    go_wp2_with fail
    go_ret
    exact ⟨ret_bool HF.out.symm,hb16.trans (b7.mono hb16.size)⟩
   ·rw [hH] at CH
    have HF:Hid (M.orderHolds ll l rows kn=M.waitsA (M.deeds ll).length (M.netOf (M.deeds ll) l rows kn) (M.choices (M.deeds ll))):=by show _=_;rw [HO.out,hH];rfl
    clear hH
    go_wp2_with fail
    refine CH.mono ?_
    rintro e w7 ⟨rfl,b7⟩
    have hSt7:=hP.bel _ _ hSt6 b7
    have hb17:=hb16.trans (b7.mono hb16.size)
    clear hSt6 hb16 b7 hN2
    go_wp2_with fail
    refine (hP.net kn (Or.inr rfl) w7 hSt7).mono ?_
    rintro e w8 ⟨X1,rfl,⟨G1,c1,va1,rb1,rc1,hN1⟩,b5⟩
    have hSt8:=hP.bel _ _ hSt7 b5
    have hb18:=hb17.trans (b5.mono hb17.size)
    clear hSt7 hb17 b5
    go_wp2_with fail
    refine (hP.whole kn (Or.inr rfl) X1 G1 c1 va1 rb1 rc1 w8 hSt8 hN1).mono ?_
    rintro e w9 ⟨X2,rfl,⟨G2,c2,va2,rb2,rc2,hN2⟩,b6⟩
    have hSt9:=hP.bel _ _ hSt8 b6
    have hb19:=hb18.trans (b6.mono hb18.size)
    clear hSt8 hb18 b6 hN1
    have CT:=hP.waits X2 G2 c2 va2 rb2 rc2 _ w9 hSt9 hN2
    go_wp2_with fail
    refine CT.mono ?_
    rintro e w10 ⟨rfl,b10⟩
    generalize M.waitsA (M.deeds ll).length (M.netOf (M.deeds ll) l rows kn) (M.choices (M.deeds ll))=r at *
    go_wp2_with fail
    go_ret
    exact ⟨ret_bool HF.out.symm,hb19.trans (b10.mono hb19.size)⟩
end
end Go.Proofs.YtmhpgdliaclokaaGreat
