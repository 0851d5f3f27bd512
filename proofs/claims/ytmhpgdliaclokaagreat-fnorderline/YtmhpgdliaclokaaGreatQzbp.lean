/- Lines, plainly: all events one behind the other; both ways to find one tell the same. No condition. And what goes with it: LiMath, LiFact, LiW, LiC, LiH, LiA, LiL, LiJ, LiI. -/
import Derived.Deep.AppendSrc
import Derived.Maps.OwnIn
import Derived.Deep.OwnRows
import Derived.Test.YtmhpgdliaclokaaGreatRows
import Derived.Test.YtmhpgdliaclokaaGreatQzbc
namespace Go.Proofs.YtmhpgdliaclokaaGreat
section
namespace M
def foundA (n:Nat):(Nat→Nat→Bool)→List Ch→(Nat→Nat→Bool) × Bool
 | A,[]=>(A,holdsA A n)
 | A,c::cs=>if holdsA A n then (if (foundA n (setA A c.1) cs).2 then foundA n (setA A c.1) cs else foundA n (setA A c.2) cs) else (A,false)
def lineA (A:Nat→Nat→Bool) (n:Nat):Nat→List Nat→Option (List Nat)
 | 0,out=>some out
 | k+1,out=>match (List.range n).find? (free A n fun x=>out.contains x) with
  | none=>none
  | some b=>lineA A n k (out++[b])
def pickB (S:Bits) (c:Ch) (cs:List Ch):Lk:=if mayAdd S c.1&&choose (cs.length+1) (addB S c.1) cs then c.1 else c.2
def chosenB:Bits→List Ch→Bits
 | S,[]=>S
 | S,c::cs=>chosenB (addB S (pickB S c cs)) cs
def nextB (S:Bits) (n m:Nat) (out:List Nat) (b:Nat):Bool:=!out.contains b&&!((List.range m).any fun a=>(decide (a < n)&&!out.contains a)&&S a b)
def lineB (S:Bits) (n m:Nat):Nat→List Nat→List Nat
 | 0,out=>out
 | k+1,out=>match (List.range n).find? (nextB S n m out) with
  | some b=>lineB S n m k (out++[b])
  | none=>lineB S n m k out
theorem found_waits (n:Nat):∀ (cs:List Ch) (A:Nat→Nat→Bool),(foundA n A cs).2=waitsA n A cs:=by
 intro cs
 induction cs with
 | nil=>intro A;rfl
 | cons c cs ih =>
  intro A
  rw [foundA,waitsA,← ih,← ih]
  cases holdsA A n
  ·rfl
  ·rw [if_pos rfl,Bool.true_and]
   cases h:(foundA n (setA A c.1) cs).2
   ·simp
   ·rw [if_pos rfl,h];rfl
theorem found_tells (n:Nat):∀ (cs:List Ch) (A:Nat→Nat→Bool) (S:Bits),(∀ c∈cs,Inn n c)→(∀ c∈cs,Two c)→Tells S (linksOf A n)→Sat (linksOf A n) cs→Tells (chosenB S cs) (linksOf (foundA n A cs).1 n)∧¬ Round (linksOf (foundA n A cs).1 n):=by
 intro cs
 induction cs with
 | nil=>intro A S _ _ hT hS;exact ⟨hT,sat_nil.1 hS⟩
 | cons c cs ih =>
  intro A S hi h2 hT hS
  obtain ⟨⟨a1,a2⟩,b1,b2⟩:=hi c (List.mem_cons_self ..)
  have hi':∀ x∈cs,Inn n x:=fun x hx=>hi x (List.mem_cons_of_mem _ hx)
  have h2':∀ x∈cs,Two x:=fun x hx=>h2 x (List.mem_cons_of_mem _ hx)
  have hc:=h2 c (List.mem_cons_self ..)
  have hR:=sat_round hS
  have hh:holdsA A n=true:=by rw [holdsA,kahn_ok];exact hR
  have e1:(foundA n (setA A c.1) cs).2=true↔Sat (c.1::linksOf A n) cs:=by rw [found_waits,waits_ok n cs _ hi',sat_mem (links_set a1 a2)]
  have e2:(mayAdd S c.1&&choose (cs.length+1) (addB S c.1) cs)=true↔Sat (c.1::linksOf A n) cs:=by
   rw [Bool.and_eq_true]
   constructor
   ·rintro ⟨q1,q2⟩
    exact (choose_ok _ _ cs _ (Nat.lt_succ_self _) (hT.add c.1) h2' (round_keep hT hR q1 hc.1)).1 q2
   ·intro hs
    have hr:=sat_round hs
    have hm:mayAdd S c.1=true:=by
     cases hm:mayAdd S c.1
     ·exact absurd ((round_add hR).2 (.inr (no_leads hT hm))) hr
     ·rfl
    exact ⟨hm,(choose_ok _ _ cs _ (Nat.lt_succ_self _) (hT.add c.1) h2' hr).2 hs⟩
  rw [foundA,if_pos hh,chosenB,pickB]
  by_cases h1:Sat (c.1::linksOf A n) cs
  ·rw [if_pos (e1.2 h1),if_pos (e2.2 h1)]
   exact ih _ _ hi' h2' (tells_mem (fun l=>(links_set a1 a2 l).symm) (hT.add c.1)) ((sat_mem (links_set a1 a2) cs).2 h1)
  ·rw [if_neg (fun h=>h1 (e1.1 h)),if_neg (fun h=>h1 (e2.1 h))]
   have h3:Sat (c.2::linksOf A n) cs:=(sat_cons.1 hS).resolve_left h1
   exact ih _ _ hi' h2' (tells_mem (fun l=>(links_set b1 b2 l).symm) (hT.add c.2)) ((sat_mem (links_set b1 b2) cs).2 h3)
theorem line_same {A:Nat→Nat→Bool} {n m:Nat} {S:Bits} (hm:n≤m) (hT:Tells S (linksOf A n)) (hR:¬ Round (linksOf A n)) :
  ∀ (k:Nat) (out:List Nat),leftN n (fun x=>out.contains x)=k→(∀ a b,(a,b)∈linksOf A n→out.contains b=true→out.contains a=true)→lineA A n k out=some (lineB S n m k out):=by
 intro k
 induction k with
 | zero=>intro out _ _;rfl
 | succ k ih =>
  intro out hk hc
  have hfree:∀ b,b < n→nextB S n m out b=free A n (fun x=>out.contains x) b:=by
   intro b hb
   rw [Bool.eq_iff_iff]
   simp only [nextB,free,Bool.and_eq_true,Bool.not_eq_true',List.all_eq_true,List.mem_range,Bool.or_eq_true]
   refine and_congr_right fun hb0=>?_
   rw [← Bool.not_eq_true,List.any_eq_true]
   simp only [List.mem_range,Bool.and_eq_true,decide_eq_true_eq,Bool.not_eq_true',not_exists,not_and,Bool.not_eq_true]
   constructor
   ·intro h a ha
    cases hg:out.contains a
    ·right
     have:=h a (by omega) ⟨ha,hg⟩
     cases hA:A a b
     ·rfl
     ·have h1:=(hT a b).2 (.one (mem_links.2 ⟨ha,hb,hA⟩))
      rw [h1] at this;cases this
    ·exact .inl rfl
   ·rintro h a _ ⟨ha,hg⟩
    cases hS:S a b
    ·rfl
    ·have hl:=(hT a b).1 hS
     obtain ⟨c,hcb,hac⟩:=leads_last hl
     obtain ⟨q1,_,q3⟩:=mem_links.1 hcb
     have hgc:out.contains c=true:=(h c q1).resolve_right (by rw [q3];simp)
     rcases hac with rfl | hac
     ·rw [hgc] at hg;cases hg
     ·have:=leads_closed (gone:=fun x=>out.contains x) hc hac hgc
      rw [this] at hg;cases hg
  have hsame:(List.range n).find? (nextB S n m out)=(List.range n).find? (free A n fun x=>out.contains x):=by
   have gen:∀ xs:List Nat,(∀ x∈xs,x < n)→xs.find? (nextB S n m out)=xs.find? (free A n fun x=>out.contains x):=by
    intro xs
    induction xs with
    | nil=>intro _;rfl
    | cons x xs ihx =>
     intro hx
     rw [List.find?_cons,List.find?_cons,hfree x (hx x (by simp)),ihx fun y hy=>hx y (List.mem_cons_of_mem _ hy)]
   exact gen _ fun x hx=>List.mem_range.1 hx
  have hkn:=kahn_yes (A:=A) (n:=n) hR (k+1) _ hk
  rw [lineA,lineB,hsame]
  rw [kahn] at hkn
  cases hs:(List.range n).find? (free A n fun x=>out.contains x) with
  | none=>rw [hs] at hkn;cases hkn
  | some b =>
   simp only
   obtain ⟨f1,f2,f3⟩:=free_lt hs
   have hl:=left_less hs hk
   refine ih (out++[b]) ?_ ?_
   ·rw [← hl]
    congr 1
    funext x
    simp [List.contains_eq_mem,Bool.decide_or]
    by_cases h1:x∈out<;>by_cases h2:x=b<;>simp [h1,h2]
   ·intro x y hxy hy
    simp only [List.contains_eq_mem,List.mem_append,List.mem_singleton,decide_eq_true_eq] at hy ⊢
    rcases hy with hy | rfl
    ·left
     have:=hc x y hxy (by simpa [List.contains_eq_mem] using hy)
     simpa [List.contains_eq_mem] using this
    ·obtain ⟨q1,_,q3⟩:=mem_links.1 hxy
     have:=f3 x q1 q3
     left;simpa [List.contains_eq_mem] using this
structure Line (A:Nat→Nat→Bool) (n:Nat) (out:List Nat):Prop where
 lt:∀ x∈out,x < n
 nodup:out.Nodup
 ahead:∀ i j (hi:i < out.length) (hj:j < i),A out[i] (out[j]'(by omega))=false
 gone:∀ a b,a < n→A a b=true→b∈out→a∈out
theorem line_is {A:Nat→Nat→Bool} {n:Nat}:∀ (k:Nat) (out r:List Nat),Line A n out→lineA A n k out=some r→Line A n r∧r.length=out.length+k:=by
 intro k
 induction k with
 | zero=>intro out r h e;obtain rfl:=Option.some.inj e;exact ⟨h,rfl⟩
 | succ k ih =>
  intro out r h e
  rw [lineA] at e
  cases hs:(List.range n).find? (free A n fun x=>out.contains x) with
  | none=>rw [hs] at e;cases e
  | some b =>
   rw [hs] at e
   simp only at e
   obtain ⟨f1,f2,f3⟩:=free_lt hs
   have hb:b∉out:=by simpa [List.contains_eq_mem] using f2
   obtain ⟨q1,q2⟩:=ih (out++[b]) r ⟨fun x hx=>by
    rcases List.mem_append.1 hx with hx | hx
    ·exact h.lt x hx
    ·rw [List.mem_singleton.1 hx];exact f1,by
    rw [List.nodup_append]
    refine ⟨h.nodup,by simp,fun x hx y hy e=>?_⟩
    rw [List.mem_singleton.1 hy] at e
    rw [e] at hx;exact hb hx,fun i j hi hj=>by
    by_cases hio:i < out.length
    ·rw [List.getElem_append_left hio,List.getElem_append_left (by omega)]
     exact h.ahead i j hio hj
    ·have hie:i=out.length:=by simp at hi;omega
     subst hie
     rw [List.getElem_append_right (Nat.le_refl _),List.getElem_append_left (by omega)]
     simp only [Nat.sub_self,List.getElem_cons_zero]
     cases hA:A b (out[j]'(by omega))
     ·rfl
     ·exact absurd (h.gone b _ f1 hA (List.getElem_mem _)) hb,fun a c ha hA hc=>by
    rcases List.mem_append.1 hc with hc | hc
    ·exact List.mem_append_left _ (h.gone a c ha hA hc)
    ·rw [List.mem_singleton.1 hc] at hA
     have:=f3 a ha hA
     exact List.mem_append_left _ (by simpa [List.contains_eq_mem] using this)⟩ e
   exact ⟨q1,by rw [q2];simp;omega⟩
def orderLine (ll:List (List D)) (l:List Int) (rows:List (List Int)) (kind:Int):Option (List Nat) :=
 if orderHolds ll l rows kind then lineA (foundA (deeds ll).length (netOf (deeds ll) l rows kind.toNat) (choices (deeds ll))).1 (deeds ll).length (deeds ll).length [] else none
theorem line_impl {ll:List (List D)} {l:List Int} {rows:List (List Int)} (hp:prog ll=true) (k:Nat) (hw:waitsA (deeds ll).length (netOf (deeds ll) l rows k) (choices (deeds ll))=true) :
  lineA (foundA (deeds ll).length (netOf (deeds ll) l rows k) (choices (deeds ll))).1 (deeds ll).length (deeds ll).length []=some (lineB (chosenB (bitsOf (netOf (deeds ll) l rows k) (deeds ll).length) (choices (deeds ll))) (deeds ll).length 28 (deeds ll).length []):=by
 have hi:=fun c hc=>(choices_ok (run_of hp) c hc).1
 have h2:=fun c hc=>(choices_ok (run_of hp) c hc).2
 have hS:=(waits_ok _ _ _ hi).1 hw
 obtain ⟨hT,hR⟩:=found_tells (deeds ll).length (choices (deeds ll)) (netOf (deeds ll) l rows k) _ hi h2 (bits_tell _ _) hS
 exact line_same (deeds28 hp) hT hR _ [] (by have:=left_all (deeds ll).length;simpa using this) (fun a b _ h=>by simp at h)
end M
end
section
namespace M
theorem line_parts {ll:List (List D)} {l:List Int} {rows:List (List Int)} {kind:Int} {r:List Nat} (h:orderLine ll l rows kind=some r):orderHolds ll l rows kind=true∧r.length=(deeds ll).length∧Line (foundA (deeds ll).length (netOf (deeds ll) l rows kind.toNat) (choices (deeds ll))).1 (deeds ll).length r:=by
 unfold orderLine at h
 split at h
 ·rename_i hh
  obtain ⟨a,b⟩:=line_is _ [] r ⟨by simp,by simp,by simp,by simp⟩ h
  exact ⟨hh,by simpa using b,a⟩
 ·cases h
theorem line_len {ll:List (List D)} {l:List Int} {rows:List (List Int)} {kind:Int} {r:List Nat} (h:orderLine ll l rows kind=some r):r.length=(deeds ll).length∧r.length≤28:=by
 obtain ⟨hh,h1,_⟩:=line_parts h
 have hok:=(holds_parts_of hh).2
 have hp:prog ll=true:=by
  unfold execOk at hok
  simp only [Bool.and_eq_true] at hok
  exact hok.1
 have:=deeds28 hp
 exact ⟨h1,by omega⟩
end M
end
section
open Go.RowKit
set_option maxHeartbeats 4000000 in
set_option maxRecDepth 100000 in
theorem waitChoicesC_any (va:Option Addr) (g c:Nat) (ds:List M.De) (w:World) (hl:ds.length≤28) (hrun:M.run false ds=some false) (h:DeS w va g ds) :
  Calls Tryz.prog 88 #[.slice va ds.length c] w fun e w'=>∃ va' g' c',e=.returned (.slice va' (M.choices ds).length c')∧ChS w' va' g' 0 (M.choices ds)∧(0 < (M.choices ds).length→w.heap.size≤g')∧(M.choices ds).length≤c'∧Below w.heap.size w w':=by
 obtain ⟨i0,hi,hz0,hz1,hz2⟩:=info_parts Tryz.infoCh
 go_enter Tryz.func88,Tryz.ntmps88
 go_wp2_with fail
 go_loopw [3,11] (fun s3 s11 wr=>∃ n:Nat,s11=.int .i64 n∧n≤ds.length∧wr.ownsRow w.heap.size 146 4 s3 (M.chP ds n).length ((M.chP ds n).map M.c4).flatten∧Below w.heap.size w wr) (fun _ s11 _=>ds.length - (intOf s11).toNat)
 case atStart=>exact ⟨0,rfl,Nat.zero_le _,World.ownsRow_nil _ _ _ _,Below.refl _ _⟩
 case round =>
  obtain ⟨n,rfl,hn,hown,hbel⟩:=hrel
  have hbs:=hbel.size
  by_cases hlt:n < ds.length
  ·obtain ⟨rfl⟩:=h.addr (by omega)
   have hx:=DeS.at (h.bel hbel (Nat.le_refl _)) hlt
   have HX:Hid (ds[n]?=some ds[n]):=List.getElem?_eq_getElem hlt
   have HC:Hid (M.chP ds (n+1)=M.chP ds n++(if M.waitsAt ds n then M.choicesAt ds n else [])):=M.chP_succ ds n
   have hcl:=M.chP_len ds n
   have hcl2:(M.chP ds n).length≤784:=Nat.le_trans hcl (Nat.mul_le_mul (show n≤28 by omega) hl)
   clear hcl
   generalize ds[n]=x at *
   generalize M.chP ds n=L at *
   have HW:Hid (M.waitsAt ds n=(x.d.k==9&&!x.last)):=M.waitsAt_of HX.out
   obtain ⟨c0,c1,c2,c3,c4,c5,c6⟩:=hx
   have i1:(n:Int) < ds.length:=by omega
   by_cases hk:x.d.k=9
   ·have hk':(x.d.k != 9)=false:=by simp [hk]
    cases hla:x.last
    ·-- who waits
     have HC2:Hid (M.chP ds (n+1)=L++M.chQ ds n ds.length):=by show _=_;rw [HC.out,HW.out,hk,hla];rfl
     rw [hla] at c2
     clear HC HW HX hk hla
     go_wp2_with fail
     have bA:=hbel.alloc hbel.size (.cells #[.int .i64 (x.t:Int),.int .i64 (x.i:Int),.bool false,.int .i64 x.d.k,.int .i64 x.d.p,.int .i64 x.d.v,.int .i64 x.lr] 96)
     have hownA:=hown.alloc (.cells #[.int .i64 (x.t:Int),.int .i64 (x.i:Int),.bool false,.int .i64 x.d.k,.int .i64 x.d.p,.int .i64 x.d.v,.int .i64 x.lr] 96)
     generalize wr.alloc (.cells #[.int .i64 (x.t:Int),.int .i64 (x.i:Int),.bool false,.int .i64 x.d.k,.int .i64 x.d.p,.int .i64 x.d.v,.int .i64 x.lr] 96)=WA at *
     clear hown hbel c0 c1 c2 c3 c4 c5 c6
     go_loopw [3,29] (fun s3 s29 wi=>∃ m:Nat,s29=.int .i64 m∧m≤ds.length∧wi.ownsRow w.heap.size 146 4 s3 (L++M.chQ ds n m).length ((L++M.chQ ds n m).map M.c4).flatten∧Below w.heap.size w wi) (fun _ s29 _=>ds.length - (intOf s29).toNat)
     case atStart=>exact ⟨0,rfl,Nat.zero_le _,by rw [show M.chQ ds n 0=[] from rfl,List.append_nil];exact hownA,bA⟩
     case round =>
      obtain ⟨m,rfl,hm,hown,hbi⟩:=hrel
      clear hownA bA
      have hbs:=hbi.size
      by_cases hmt:m < ds.length
      ·have hy:=DeS.at (h.bel hbi (Nat.le_refl _)) hmt
       have HK:Hid (M.kAt ds m=ds[m].d.k):=M.kAt_of (List.getElem?_eq_getElem hmt)
       have HQ:Hid (M.chQ ds n (m+1)=M.chQ ds n m++(if M.kAt ds m==7 then [((M.outOf ds m,n+1),(n,m))] else [])):=M.chQ_succ ds n m
       have HO:ds[m].d.k=7→∃ q,m≤q∧∃ hq:q < ds.length,ds[q].d.k=8:=fun h7=>by
        obtain ⟨q,h1,h2,h3⟩:=M.has_out hrun hmt h7
        exact ⟨q,by omega,h2,h3⟩
       have hql:=M.chQ_len ds n m
       have hql2:(L++M.chQ ds n m).length≤900:=by rw [List.length_append];omega
       clear hql
       obtain ⟨d0,d1,d2,d3,d4,d5,d6⟩:=hy
       generalize ds[m]=y at *
       have j1:(m:Int) < ds.length:=by omega
       by_cases h7:y.d.k=7
       ·have h7':(y.d.k==7)=true:=by simp [h7]
        have HQ2:Hid (L++M.chQ ds n (m+1)=(L++M.chQ ds n m)++[((M.outOf ds m,n+1),(n,m))]):=by show _=_;rw [HQ.out,HK.out,h7',if_pos rfl,List.append_assoc]
        have bB:=below1 wr (.cells #[.int .i64 (y.t:Int),.int .i64 (y.i:Int),.bool y.last,.int .i64 y.d.k,.int .i64 y.d.p,.int .i64 y.d.v,.int .i64 y.lr] 96)
        have CO:=outOf_any g c ds m (wr.alloc (.cells #[.int .i64 (y.t:Int),.int .i64 (y.i:Int),.bool y.last,.int .i64 y.d.k,.int .i64 y.d.p,.int .i64 y.d.v,.int .i64 y.lr] 96)) (by omega) (HO h7) ((h.bel hbi (Nat.le_refl _)).bel bB (Nat.le_refl _))
        have hownB:=ownsRow_below hown bB
        have bwB:=hbi.trans (bB.mono hbi.size)
        have hbsB:=bwB.size
        generalize L++M.chQ ds n m=LL at *
        generalize M.outOf ds m=O at *
        clear HQ HK HO h7 hown bB
        go_wp2_with fail
        generalize wr.alloc (.cells #[.int .i64 (y.t:Int),.int .i64 (y.i:Int),.bool y.last,.int .i64 y.d.k,.int .i64 y.d.p,.int .i64 y.d.v,.int .i64 y.lr] 96)=WB at *
        refine CO.mono ?_
        rintro e w1 ⟨rfl,rfl⟩
        go_wp2_with (at_builtin;refine wpList_append_own _ rfl (.tmp 38) (.tmp 48) 141 rfl _ 146 i0 _ 4 32 Tryz.underlying141 hi hz0 hz1 hz2 rfl (by decide) _ _ _ rfl (hownB.alloc _) ⟨w1.heap.size,0,none⟩ 1 1 [.int .i64 O,.int .i64 ((n:Int)+1),.int .i64 n,.int .i64 m] rfl rfl (cells_new4 _ _ _ _ _ _ _ (by simp)) (one4 _ _ _ _) (by unfold maxLen;omega) (by omega) (by simp;omega) ?_)
        intro v4 W4 hown4 hg4 _
        have hge:=own_ge hownB
        have bw4:Below w.heap.size w W4:=below_grown (bwB.alloc bwB.size _) hg4 hge (by simp;omega)
        have hown5:W4.ownsRow w.heap.size 146 4 v4 (LL++[((O,n+1),(n,m))]).length ((LL++[((O,n+1),(n,m))]).map M.c4).flatten:=own_moreC (by simpa using hown4)
        clear hown4 hg4 hownB
        go_wp2_with fail
        exact ⟨⟨m+1,by go_num,by omega,by rw [HQ2.out];exact hown5,bw4⟩,by simp [intOf];omega⟩
       ·have h7':(y.d.k==7)=false:=by simpa using h7
        have HQ2:Hid (L++M.chQ ds n (m+1)=L++M.chQ ds n m):=by show _=_;rw [HQ.out,HK.out,h7'];simp
        clear HQ HK HO h7
        go_wp2_with fail
        exact ⟨⟨m+1,by go_num,by omega,by rw [HQ2.out];exact ownsRow_below hown (below1 _ _),hbi.alloc hbi.size _⟩,by simp [intOf];omega⟩
      ·obtain rfl:m=ds.length:=by omega
       go_wp2_with fail
       exact ⟨⟨n+1,by go_num,by omega,by rw [HC2.out];exact hown,hbi⟩,by simp [intOf];omega⟩
    ·have HC2:Hid (M.chP ds (n+1)=L):=by show _=_;rw [HC.out,HW.out,hk,hla];simp
     rw [hla] at c2
     clear HC HW HX hk hla
     go_wp2_with fail
     exact ⟨⟨n+1,by go_num,by omega,by rw [HC2.out];exact ownsRow_below hown (below1 _ _),hbel.alloc hbel.size _⟩,by simp [intOf];omega⟩
   ·have hk':(x.d.k != 9)=true:=by simpa using hk
    have hk2:(x.d.k==9)=false:=by simpa using hk
    have HC2:Hid (M.chP ds (n+1)=L):=by show _=_;rw [HC.out,HW.out,hk2];simp
    clear HC HW HX hk hk2
    go_wp2_with fail
    exact ⟨⟨n+1,by go_num,by omega,by rw [HC2.out];exact ownsRow_below hown (below1 _ _),hbel.alloc hbel.size _⟩,by simp [intOf];omega⟩
  ·obtain rfl:n=ds.length:=by omega
   rw [M.chP_all] at hown
   obtain ⟨va',g',c',rfl,hC,hcg,hcc⟩:=own_ch hown
   go_wp2_with fail
   go_ret
   exact ⟨va',g',c',rfl,hC,hcg,hcc,hbel⟩
end
section
open Go.RowKit
def M.pickW (N:Nat→Nat) (c:M.Ch) (cs:List M.Ch):M.Lk:=if M.mayW N c.1&&M.chooseW (cs.length+1) (M.addW N c.1) cs then c.1 else c.2
theorem wpList_load_midG {P:Program} {ops:Array Oper} {rest:List Oper} {op:Oper} {a:Act} {w:World} {Q:Exit→Act→World→Prop} (hw:Region.wanted op (yielded ops a.tmps)=true) (ty:TypeId) (x:Operand) (ho:op.op=.load ty x)
  (b o:Nat) (hx:a.eval x=.pointer (some ⟨b,o,none⟩)) (cs:List Value) (d:TypeDesc) (hc:w.rangeAt b o cs)
  (hu:P.underlying ty=some d) (hd:d.isRow=true) (hi:(P.info? ty).map (·.size)=some cs.length)
  (h:wpList P ops Q rest (a.put op.dst (.agg cs.toArray)) w):wpList P ops Q (op::rest) a w :=
 wpList_step fun _ hK=>by rw [if_pos hw];exact wp_load_mid ty x ho b o hx cs d hc hu hd hi (hK _ _ h)
theorem cell2 {w:World} {b:Nat} {x y u v:Value} (h0:w.cell? ⟨b,0,none⟩=some x) (h1:w.cell? ⟨b,1,none⟩=some y):((w.setCell ⟨b,0,none⟩ u).setCell ⟨b,1,none⟩ v).cell? ⟨b,0,none⟩=some u∧((w.setCell ⟨b,0,none⟩ u).setCell ⟨b,1,none⟩ v).cell? ⟨b,1,none⟩=some v :=
 ⟨(World.cell?_setCell_other _ _ _ _ (fun e=>by have:=congrArg Addr.off e;simp at this)).trans (World.cell?_setCell_same _ _ _ h0),World.cell?_setCell_same _ _ _ ((World.cell?_setCell_other _ _ _ _ (fun e=>by have:=congrArg Addr.off e;simp at this)).trans h1)⟩
set_option maxHeartbeats 2000000 in
set_option maxRecDepth 100000 in
theorem chooseL_any (N:Nat→Nat) (ch:M.Ch) (cs:List M.Ch) (va:Option Addr) (g o c:Nat) (w:World) (hl:cs.length≤1048576) (hlow:∀ c∈cs,M.Low 28 c) (hc:M.Low 28 ch) (hN:∀ a,N a < 4294967296) (hC:ChS w va g o cs) :
  Calls Tryz.prog 90 #[.agg (btA N),.agg #[.int .i64 ch.1.1,.int .i64 ch.1.2,.int .i64 ch.2.1,.int .i64 ch.2.2],.slice va cs.length c] w fun e w'=>e=.returned (.agg #[.int .i64 (M.pickW N ch cs).1,.int .i64 (M.pickW N ch cs).2])∧Below w.heap.size w w':=by
 obtain ⟨⟨p1,p2⟩,q1,q2⟩:=ch
 obtain ⟨⟨l1,l2⟩,l3,l4⟩:=hc
 simp only at l1 l2 l3 l4 ⊢
 have b3:=below3 w (.cells (btA N) 82) (.cells #[.int .i64 p1,.int .i64 p2,.int .i64 q1,.int .i64 q2] 146) (.cells #[.int .i64 0,.int .i64 0] 144)
 have B0:Bt (((w.alloc (.cells (btA N) 82)).alloc (.cells #[.int .i64 p1,.int .i64 p2,.int .i64 q1,.int .i64 q2] 146)).alloc (.cells #[.int .i64 0,.int .i64 0] 144)) w.heap.size N:=((Bt.of_block (t:=82) (heap_alloc_new w _) hN).below (below1 _ _)).below (below1 _ _)
 have kc:∀ i v,(#[Value.int .i64 (p1:Int),.int .i64 p2,.int .i64 q1,.int .i64 q2]:Array Value)[i]?=some v→(((w.alloc (.cells (btA N) 82)).alloc (.cells #[.int .i64 p1,.int .i64 p2,.int .i64 q1,.int .i64 q2] 146)).alloc (.cells #[.int .i64 0,.int .i64 0] 144)).cell? ⟨w.heap.size+1,i,none⟩=some v:=fun i v hv=>by
  have h1:((w.alloc (.cells (btA N) 82)).alloc (.cells #[.int .i64 p1,.int .i64 p2,.int .i64 q1,.int .i64 q2] 146)).cell? ⟨w.heap.size+1,i,none⟩=some v:=by
   rw [cell_of_row _ _ _ _ _ _ (alloc_new _ _ _ (by simp))];exact hv
  exact ((below1 _ _).cell (p:=⟨w.heap.size+1,i,none⟩) (by simp)).trans h1
 have c0:=kc 0 _ rfl
 have c1:=kc 1 _ rfl
 have c2:=kc 2 _ rfl
 have c3:=kc 3 _ rfl
 have r0:(((w.alloc (.cells (btA N) 82)).alloc (.cells #[.int .i64 p1,.int .i64 p2,.int .i64 q1,.int .i64 q2] 146)).alloc (.cells #[.int .i64 0,.int .i64 0] 144)).heap[w.heap.size+1+1]?=some (.cells #[.int .i64 0,.int .i64 0] 144 (0,0)):=alloc_new _ _ _ (by simp)
 have hC3:=hC.below b3
 have HP:Hid (M.pickW N ((p1,p2),q1,q2) cs=if M.mayW N (p1,p2)&&M.chooseW (cs.length+1) (M.addW N (p1,p2)) cs then (p1,p2) else (q1,q2)):=rfl
 go_enter Tryz.func90,Tryz.ntmps90
 go_wp2_with fail
 generalize ((w.alloc (.cells (btA N) 82)).alloc (.cells #[.int .i64 p1,.int .i64 p2,.int .i64 q1,.int .i64 q2] 146)).alloc (.cells #[.int .i64 0,.int .i64 0] 144)=W at *
 have CM:=mayAdd_any w.heap.size N (p1,p2) W l1 l2 B0
 obtain ⟨m,hm⟩:∃ m,M.mayW N (p1,p2)=m:=⟨_,rfl⟩
 have hm':(!(N (p1,p2).2).testBit (p1,p2).1)=m:=hm
 rw [hm'] at CM
 rw [hm] at HP
 clear hm hm'
 have k4:w.heap.size+1 < W.heap.size:=World.block_lt_of_cell? _ _ c0
 have k5:w.heap.size+1+1 < W.heap.size:=(Array.getElem?_eq_some_iff.1 r0).1
 have res2:∀ (W':World) (u v:Value),W'.heap[w.heap.size+1+1]?=some (.cells #[.int .i64 0,.int .i64 0] 144 (0,0))→W'.cell? ⟨w.heap.size+1+1,0,none⟩=some (.int .i64 0)∧W'.cell? ⟨w.heap.size+1+1,1,none⟩=some (.int .i64 0)∧∀ i,W'.frozen? ⟨w.heap.size+1+1,i,none⟩=false:=fun W' u v h=>⟨by simp [World.cell?,h],by simp [World.cell?,h],fun i=>by simp [World.frozen?,h]⟩
 clear kc
 refine CM.mono ?_
 rintro e W1 ⟨rfl,b1⟩
 have bw1:=b3.trans (b1.mono b3.size)
 have hC1:=hC3.below b1
 have B1:=B0.below b1
 have r1:=(b1.block _ k5).trans r0
 have d0:=(b1.cell (p:=⟨w.heap.size+1,0,none⟩) k4).trans c0
 have d1:=(b1.cell (p:=⟨w.heap.size+1,1,none⟩) k4).trans c1
 have d2:=(b1.cell (p:=⟨w.heap.size+1,2,none⟩) k4).trans c2
 have d3:=(b1.cell (p:=⟨w.heap.size+1,3,none⟩) k4).trans c3
 clear CM b1 b3 hC3 B0 r0 c0 c1 c2 c3
 cases m
 case true =>
  have hi2:(Tryz.prog.info? 82).map (·.size)=some (btA N).toList.length:=by rw [Tryz.infoSets];simp [btA]
  have hr:=B1.range
  have CW:=fun W=>with_any N (p1,p2) W hN l1 l2
  have hA1:∀ i,M.addW N (p1,p2) i < 4294967296:=M.addW_lt (k:=32) hN (by omega)
  have HM:Hid (M.pickW N ((p1,p2),q1,q2) cs=if M.chooseW (cs.length+1) (M.addW N (p1,p2)) cs then (p1,p2) else (q1,q2)):=by
   show _=_
   rw [HP.out];rfl
  have CC:=fun (W2:World) (h:ChS W2 va g o cs)=>canChoose_any (cs.length+1) cs (M.addW N (p1,p2)) va g o c W2 (by omega) hl hlow hA1 h
  have hbA:Hid ((btA N).toList.toArray=btA N):=btA_list N
  clear HP
  generalize hAe:btA N=A at *
  go_wp2_with (refine wpList_load_midG rfl 82 (.tmp 3) rfl w.heap.size 0 rfl A.toList _ hr Tryz.undSets rfl hi2 ?_)
  refine (CW _).mono ?_
  rintro e W2 ⟨rfl,b2⟩
  have bw2:=bw1.trans (b2.mono bw1.size)
  have k41:=World.block_lt_of_cell? _ _ d0
  have k51:=(Array.getElem?_eq_some_iff.1 r1).1
  have r2:=(b2.block _ k51).trans r1
  have f0:=(b2.cell (p:=⟨w.heap.size+1,0,none⟩) k41).trans d0
  have f1:=(b2.cell (p:=⟨w.heap.size+1,1,none⟩) k41).trans d1
  have f2:=(b2.cell (p:=⟨w.heap.size+1,2,none⟩) k41).trans d2
  have f3:=(b2.cell (p:=⟨w.heap.size+1,3,none⟩) k41).trans d3
  have CC':=CC W2 (hC1.below b2)
  clear CW CC b2 hC1 r1 d0 d1 d2 d3 hr
  go_wp2_with fail
  refine CC'.mono ?_
  rintro e W3 ⟨rfl,b3⟩
  have bw3:=bw2.trans (b3.mono bw2.size)
  have r3:=(b3.block _ (Array.getElem?_eq_some_iff.1 r2).1).trans r2
  have k42:=World.block_lt_of_cell? _ _ f0
  have e0:=(b3.cell (p:=⟨w.heap.size+1,0,none⟩) k42).trans f0
  have e1:=(b3.cell (p:=⟨w.heap.size+1,1,none⟩) k42).trans f1
  have e2:=(b3.cell (p:=⟨w.heap.size+1,2,none⟩) k42).trans f2
  have e3:=(b3.cell (p:=⟨w.heap.size+1,3,none⟩) k42).trans f3
  obtain ⟨x0,x1,xf⟩:=res2 W3 undef undef r3
  clear f0 f1 f2 f3 b3 CC' r2 r3
  have HM2:∀ b,M.chooseW (cs.length+1) (M.addW N (p1,p2)) cs=b→M.pickW N ((p1,p2),q1,q2) cs=if b then (p1,p2) else (q1,q2):=fun b hb=>by rw [HM.out,hb]
  cases hch:M.chooseW (cs.length+1) (M.addW N (p1,p2)) cs
  ·have HE:Hid (M.pickW N ((p1,p2),q1,q2) cs=(q1,q2)):=HM2 _ hch
   clear hch HM HM2
   go_wp2_with fail
   obtain ⟨G0,G1⟩:=cell2 (u:=.int .i64 q1) (v:=.int .i64 q2) x0 x1
   refine bodyPost_ret (v:=.agg #[.int .i64 q1,.int .i64 q2]) (by simp [results,Tryz.results90,go_sem,G0,G1]) rfl ⟨by rw [HE.out],?_⟩
   exact (bw3.setCell (p:=⟨w.heap.size+1+1,0,none⟩) (by show w.heap.size≤w.heap.size+1+1;omega) _).setCell (p:=⟨w.heap.size+1+1,1,none⟩) (by show w.heap.size≤w.heap.size+1+1;omega) _
  ·have HE:Hid (M.pickW N ((p1,p2),q1,q2) cs=(p1,p2)):=HM2 _ hch
   clear hch HM HM2
   go_wp2_with fail
   obtain ⟨G0,G1⟩:=cell2 (u:=.int .i64 p1) (v:=.int .i64 p2) x0 x1
   refine bodyPost_ret (v:=.agg #[.int .i64 p1,.int .i64 p2]) (by simp [results,Tryz.results90,go_sem,G0,G1]) rfl ⟨by rw [HE.out],?_⟩
   exact (bw3.setCell (p:=⟨w.heap.size+1+1,0,none⟩) (by show w.heap.size≤w.heap.size+1+1;omega) _).setCell (p:=⟨w.heap.size+1+1,1,none⟩) (by show w.heap.size≤w.heap.size+1+1;omega) _
 case false =>
  have HE:Hid (M.pickW N ((p1,p2),q1,q2) cs=(q1,q2)):=by
   show _=_
   rw [HP.out];rfl
  obtain ⟨x0,x1,xf⟩:=res2 W1 undef undef r1
  clear HP r1
  go_wp2_with fail
  obtain ⟨G0,G1⟩:=cell2 (u:=.int .i64 q1) (v:=.int .i64 q2) x0 x1
  refine bodyPost_ret (v:=.agg #[.int .i64 q1,.int .i64 q2]) (by simp [results,Tryz.results90,go_sem,G0,G1]) rfl ⟨by rw [HE.out],?_⟩
  exact (bw1.setCell (p:=⟨w.heap.size+1+1,0,none⟩) (by show w.heap.size≤w.heap.size+1+1;omega) _).setCell (p:=⟨w.heap.size+1+1,1,none⟩) (by show w.heap.size≤w.heap.size+1+1;omega) _
end
section
open Go.RowKit
def M.chosenW:(Nat→Nat)→List M.Ch→(Nat→Nat)
 | N,[]=>N
 | N,c::cs=>M.chosenW (M.addW N (M.pickW N c cs)) cs
theorem M.pickW_low {N:Nat→Nat} {c:M.Ch} {cs:List M.Ch} (h:M.Low 28 c):(M.pickW N c cs).1 < 28∧(M.pickW N c cs).2 < 28:=by
 obtain ⟨⟨a,b⟩,d,e⟩:=h
 unfold M.pickW
 split
 ·exact ⟨a,b⟩
 ·exact ⟨d,e⟩
theorem M.chosenW_lt:∀ (cs:List M.Ch) (N:Nat→Nat),(∀ i,N i < 4294967296)→(∀ c∈cs,M.Low 28 c)→∀ i,M.chosenW N cs i < 4294967296
 | [],_,h,_=>h
 | c::cs,N,h,hl=>M.chosenW_lt cs _ (M.addW_lt (k:=32) h (by have:=(M.pickW_low (N:=N) (cs:=cs) (hl c (by simp))).2;omega)) (fun x hx=>hl x (List.mem_cons_of_mem _ hx))
set_option maxHeartbeats 2000000 in
set_option maxRecDepth 100000 in
set_option linter.unusedSimpArgs false in
theorem chosen_of (k:Nat) (Nk:Nat→Nat) (hk:∀ i,Nk i < 4294967296)
  (va:Option Addr) (g c:Nat) (ds:List M.De) (fa:Option Addr) (fb fo fc:Nat) (l:List Int) (ra:Option Addr) (rb ro rc:Nat) (rows:List (List Int)) (w:World) (h:Wy w va g c ds fa fb fo fc l ra rb ro rc rows)
  (hlow:∀ c∈M.choices ds,M.Low 28 c)
  (hAk:∀ w,Wy w va g c ds fa fb fo fc l ra rb ro rc rows→Calls Tryz.prog 87 #[.agg #[.slice va ds.length c,.slice fa l.length fc,.slice ra rows.length rc],.int .i64 k] w fun e w'=>e=.returned (.agg (btA Nk))∧Below w.heap.size w w') :
  Calls Tryz.prog 40 #[.agg #[.slice va ds.length c,.slice fa l.length fc,.slice ra rows.length rc],.int .i64 k] w fun e w'=>e=.returned (.agg (btA (M.chosenW Nk (M.choices ds))))∧Below w.heap.size w w':=by
 have hz:btA (fun _=>0)=#[.int .u32 0,.int .u32 0,.int .u32 0,.int .u32 0,.int .u32 0,.int .u32 0,.int .u32 0,.int .u32 0,.int .u32 0,.int .u32 0,.int .u32 0,.int .u32 0,.int .u32 0,.int .u32 0,.int .u32 0,.int .u32 0,.int .u32 0,.int .u32 0,.int .u32 0,.int .u32 0,.int .u32 0,.int .u32 0,.int .u32 0,.int .u32 0,.int .u32 0,.int .u32 0,.int .u32 0,.int .u32 0]:=by rfl
 have b2:=below2 w (.cells #[.slice va ds.length c,.slice fa l.length fc,.slice ra rows.length rc] 78) (.cells (btA fun _=>0) 82)
 have BR:Bt ((w.alloc (.cells #[.slice va ds.length c,.slice fa l.length fc,.slice ra rows.length rc] 78)).alloc (.cells (btA fun _=>0) 82)) (w.heap.size+1) (fun _=>0):=Bt.of_block (t:=82) (alloc_new _ _ _ (by simp)) (fun _=>by decide)
 have k0:((w.alloc (.cells #[.slice va ds.length c,.slice fa l.length fc,.slice ra rows.length rc] 78)).alloc (.cells (btA fun _=>0) 82)).cell? ⟨w.heap.size,0,none⟩=some (.slice va ds.length c):=cellJ (below1 _ _) (by simp)
 have k1:((w.alloc (.cells #[.slice va ds.length c,.slice fa l.length fc,.slice ra rows.length rc] 78)).alloc (.cells (btA fun _=>0) 82)).cell? ⟨w.heap.size,1,none⟩=some (.slice fa l.length fc):=cellJ (below1 _ _) (by simp)
 have k2:((w.alloc (.cells #[.slice va ds.length c,.slice fa l.length fc,.slice ra rows.length rc] 78)).alloc (.cells (btA fun _=>0) 82)).cell? ⟨w.heap.size,2,none⟩=some (.slice ra rows.length rc):=cellJ (below1 _ _) (by simp)
 have hWA:=h.below b2 (Nat.le_refl _)
 have hdl:=h.dl
 have hrun:=h.run
 go_enter Tryz.func40,Tryz.ntmps40
 go_wp2_with fail
 rw [← hz]
 generalize (w.alloc (.cells #[.slice va ds.length c,.slice fa l.length fc,.slice ra rows.length rc] 78)).alloc (.cells (btA fun _=>0) 82)=W0 at *
 refine (hAk _ hWA).mono ?_
 rintro e w1 ⟨rfl,b1⟩
 have bw1:=b2.trans (b1.mono b2.size)
 have hWy1:=hWA.below b1 (Nat.le_refl _)
 have BZ:Bt (w1.alloc (.cells (btA fun _=>0) 82)) w1.heap.size (fun _=>0):=Bt.of_block (t:=82) (heap_alloc_new w1 _) (fun _=>by decide)
 have bz1:=bw1.trans ((below1 w1 (.cells (btA fun _=>0) 82)).mono bw1.size)
 have hi2:∀ N,(Tryz.prog.info? 82).map (·.size)=some (btA N).toList.length:=fun N=>by rw [Tryz.infoSets];simp [btA]
 have hi3:∀ N,(Tryz.prog.info? 82).map (·.size)=some (btA N).size:=fun N=>by rw [Tryz.infoSets];simp [btA]
 have hth:(w1.alloc (.cells (btA fun _=>0) 82)).there w1.heap.size 0 (btA Nk).size:=by
  have:(btA Nk).size=28:=by simp [btA]
  rw [this];exact BZ.there
 have BF:=BZ.stored hk
 have bF:Below w.heap.size w ((w1.alloc (.cells (btA fun _=>0) 82)).setCells w1.heap.size 0 (btA Nk).toList):=Below.setCells (by have:=bw1.size;omega) _ _ _ bz1
 have bF1:Below w1.heap.size w1 ((w1.alloc (.cells (btA fun _=>0) 82)).setCells w1.heap.size 0 (btA Nk).toList):=Below.setCells (Nat.le_refl _) _ _ _ (below1 w1 _)
 have hWF:=hWy1.below bF1 (Nat.le_refl _)
 have BRF:=(BR.below b1).below bF1
 have m0:=cellJ bF1 (cellJ b1 k0)
 have hszF:w1.heap.size < ((w1.alloc (.cells (btA fun _=>0) 82)).setCells w1.heap.size 0 (btA Nk).toList).heap.size:=BF.lt_
 have hw1:=bw1.size
 have hrs:=(BR.below b1).lt_
 rw [hz] at hth BF bF hWF BRF m0 hszF
 clear BR BZ bz1 k0 k1 k2 hWA hWy1 b1 b2 bF1 hz
 have hi3k:=hi3 Nk
 have hone:=btA_one Nk
 clear hi2 hi3
 generalize hAe:btA Nk=A at *
 have HA:Hid (btA Nk=A):=hAe
 clear hAe
 go_wp2_with (refine wpList_store_mid rfl 82 (.tmp 5) (.tmp 11) rfl w1.heap.size 0 A rfl rfl hth hi3k hone ?_)
 generalize (w1.alloc (.cells #[Value.int .u32 0,.int .u32 0,.int .u32 0,.int .u32 0,.int .u32 0,.int .u32 0,.int .u32 0,.int .u32 0,.int .u32 0,.int .u32 0,.int .u32 0,.int .u32 0,.int .u32 0,.int .u32 0,.int .u32 0,.int .u32 0,.int .u32 0,.int .u32 0,.int .u32 0,.int .u32 0,.int .u32 0,.int .u32 0,.int .u32 0,.int .u32 0,.int .u32 0,.int .u32 0,.int .u32 0,.int .u32 0] 82)).setCells w1.heap.size 0 A.toList=W2 at *
 clear hth hw1 hone hi3k HA
 generalize w1.heap.size=S at *
 have CWt:=waitChoicesC_any va g c ds W2 hdl hrun hWF.d
 have hcl:(M.choices ds).length≤784:=Nat.le_trans (M.chP_len ds ds.length) (Nat.mul_le_mul hdl hdl)
 generalize hCSe:M.choices ds=CS at *
 have HCS:Hid (M.choices ds=CS):=hCSe
 clear hCSe
 refine CWt.mono ?_
 rintro e w3 ⟨va',g',c',rfl,hC,hcg,hcc,b3⟩
 have BF3:=BF.below b3
 have BR3:=BRF.below b3
 have bw3:=bF.trans (b3.mono bF.size)
 have hgS:0 < CS.length→S < g':=fun hp=>by have:=hcg hp;omega
 have hRS:w.heap.size+1 < S:=by have:=hrs;omega
 clear CWt BF BRF bF hWF m0 b3 hcg
 go_wp2_with fail
 go_loopw [17] (fun s17 wr=>∃ (i:Nat) (N:Nat→Nat),s17=.int .i64 i∧i≤CS.length∧Hid (M.chosenW Nk CS=M.chosenW N (CS.drop i))∧Bt wr S N∧Bt wr (w.heap.size+1) (fun _=>0)∧ChS wr va' g' 0 CS∧Below w.heap.size w wr) (fun s17 _=>CS.length - (intOf s17).toNat)
 case atStart=>exact ⟨0,Nk,rfl,Nat.zero_le _,rfl,BF3,BR3,hC,bw3⟩
 case round =>
  clear BF3 BR3 hC bw3
  obtain ⟨i,N,rfl,hi,HC,hB,hR,hC,hb⟩:=hrel
  by_cases hlt:i < CS.length
  ·have i1:(i:Int) < CS.length:=by omega
   have hgS':=hgS (by omega)
   obtain ⟨rfl⟩:=hC.addr (by omega)
   have hat:=hC.row i hlt
   obtain ⟨d0,d1,d2,d3⟩:=hat
   rw [Nat.zero_add] at d0 d1 d2 d3
   have hD:CS.drop i=CS[i]::CS.drop (i+1):=List.drop_eq_getElem_cons hlt
   have hch:=hlow _ (List.getElem_mem hlt)
   have hlr:∀ x∈CS.drop (i+1),M.Low 28 x:=fun x hx=>hlow x (List.mem_of_mem_drop hx)
   rw [hD] at HC
   have HC2:Hid (M.chosenW Nk CS=M.chosenW (M.addW N (M.pickW N CS[i] (CS.drop (i+1)))) (CS.drop (i+1))):=HC.out
   clear HC hD
   generalize CS[i]=ch at *
   go_wp2_with fail
   obtain ⟨⟨p1,p2⟩,q1,q2⟩:=ch
   simp only at d0 d1 d2 d3 ⊢
   have bA:=below1 wr (.cells #[.int .i64 (p1:Int),.int .i64 p2,.int .i64 q1,.int .i64 q2] 146)
   have hBA:=hB.below bA
   have hCA:=hC.below bA
   have hRA:=hR.below bA
   have hbA:=hb.trans (bA.mono hb.size)
   have hST:=hB.lt_
   have T0:(wr.alloc (.cells #[.int .i64 (p1:Int),.int .i64 p2,.int .i64 q1,.int .i64 q2] 146)).heap[wr.heap.size]?=some (.cells #[.int .i64 (p1:Int),.int .i64 p2,.int .i64 q1,.int .i64 q2] 146 (0,0)):=heap_alloc_new wr _
   generalize wr.alloc (.cells #[.int .i64 (p1:Int),.int .i64 p2,.int .i64 q1,.int .i64 q2] 146)=W at *
   generalize wr.heap.size=T at *
   have hTW:T < W.heap.size:=(Array.getElem?_eq_some_iff.1 T0).1
   have KT:∀ w',W.grownBy w' (some S)→w'.cell? ⟨T,0,none⟩=some (.int .i64 p1)∧w'.cell? ⟨T,1,none⟩=some (.int .i64 p2)∧w'.cell? ⟨T,2,none⟩=some (.int .i64 q1)∧w'.cell? ⟨T,3,none⟩=some (.int .i64 q2):=fun w' h=>by
    have h1:=(h.block T hTW (fun e=>by have:=Option.some.inj e;omega)).trans T0
    exact ⟨by simp [World.cell?,h1],by simp [World.cell?,h1],by simp [World.cell?,h1],by simp [World.cell?,h1]⟩
   have hw1:IntKind.i64.wrap ((i:Int)+1)=((i+1:Nat):Int):=by rw [IntKind.wrap_i64];omega
   obtain ⟨VA,hIF⟩:∃ VA,(if c'=i+1 then (some ⟨g',0,none⟩:Option Addr) else some ⟨g',(i+1) * 4,none⟩)=VA:=⟨_,rfl⟩
   have hdl':(CS.drop (i+1)).length=CS.length - (i+1):=List.length_drop
   have l1:((i+1:Nat):Int)≤CS.length:=by omega
   have l1':i+1≤CS.length:=by omega
   have l4:(i:Int)+1≤(CS.length:Int):=by omega
   have l5:(0:Int)≤(i:Int)+1:=by omega
   have l2:¬ ((i+1:Nat):Int) < 0:=by omega
   have l3:i+1≤c':=by omega
   refine wp_region_held_drew (S:=fun w'=>W.grownBy w' (some S)) (by kernel_rfl) ⟨rfl,rfl,rfl,Nat.le_refl _,fun _ _ _=>rfl⟩ (fun hH=>?_)
   refine tk 1 23 (.agg #[.int .i64 p1,.int .i64 p2,.int .i64 q1,.int .i64 q2]) hH rfl rfl (by intro w' hSw;obtain ⟨z0,z1,z2,z3⟩:=KT w' hSw;go_simp) ?_
   simp only [Act.put,zqa,zqb,zqc]
   refine tk 2 24 (.slice (some ⟨g',0,none⟩) CS.length c') hH rfl rfl (by intro w' hSw;go_simp) ?_
   simp only [Act.put,zqa,zqb,zqc]
   refine tk 3 25 (.int .i64 i) hH rfl rfl (by intro w' hSw;go_simp) ?_
   simp only [Act.put,zqa,zqb,zqc]
   refine tk 4 26 (.int .i64 ((i+1:Nat):Int)) hH rfl rfl (by intro w' hSw;go_simp) ?_
   simp only [Act.put,zqa,zqb,zqc]
   refine tk 5 27 (.slice VA (CS.length - (i+1)) (c' - (i+1))) hH rfl rfl (by intro w' hSw;go_simp) ?_
   simp only [Act.put,zqa,zqb,zqc]
   have hrg:W.drew.rangeAt S 0 (btA N).toList:=hBA.range
   have hi2N:(Tryz.prog.info? 82).map (·.size)=some (btA N).toList.length:=by rw [Tryz.infoSets];simp [btA]
   have hTl:ChS W VA g' ((i+1) * 4) (CS.drop (i+1)):=⟨fun hp=>by rw [← hIF,if_neg (by rw [hdl'] at hp;omega)],fun j hj=>by
    have h1:=hCA.row (i+1+j) (by rw [hdl'] at hj;omega)
    rw [show 0+(i+1+j) * 4=(i+1) * 4+j * 4 from by omega] at h1
    rwa [List.getElem_drop]⟩
   have hN':=hBA.lt
   have CC:=chooseL_any N ((p1,p2),q1,q2) (CS.drop (i+1)) VA g' ((i+1) * 4) (c' - (i+1)) W.drew (by rw [hdl'];omega) hlr hch hN' (hTl.below (Below.refl _ _).drew)
   have hpl:=M.pickW_low (N:=N) (cs:=CS.drop (i+1)) hch
   rw [hdl'] at CC
   simp only at CC
   generalize M.pickW N ((p1,p2),q1,q2) (CS.drop (i+1))=lk at *
   have CA:=fun (W':World) (h:Bt W' S N)=>add_any S N lk W' hpl.1 hpl.2 h
   generalize btA N=AN at *
   refine ry 0 rfl (fun K' hK=>?_)
   rw [if_pos (by rfl)]
   refine wp_load_mid 82 (.tmp 5) rfl S 0 rfl AN.toList _ hrg Tryz.undSets rfl hi2N ?_
   rw [Array.toArray_toList]
   refine hK.out _ _ hH (fun hH=>?_)
   clear hK K'
   simp only [Act.put,zqa,zqb,zqc]
   refine ry 6 rfl (fun K' hK=>?_)
   refine sg 28 rfl 90 #[.tmp 22,.tmp 23,.tmp 27] rfl #[.agg AN,.agg #[.int .i64 p1,.int .i64 p2,.int .i64 q1,.int .i64 q2],.slice VA (CS.length - (i+1)) (c' - (i+1))] (enters_of Tryz.func90 (by kernel_rfl) rfl) CC ?_
   rintro e W5 ⟨rfl,b5⟩
   have hH5:=grown_then' hH b5
   refine ⟨_,rfl,hK.out _ _ hH5 (fun hH5=>?_)⟩
   clear hK K'
   simp only [Act.put,zqa,zqb,zqc]
   have b5':Below W.heap.size W W5:=(Below.refl _ _).drew.trans b5
   refine ry 7 rfl (fun K' hK=>?_)
   refine sg 29 rfl 89 #[.tmp 5,.tmp 28] rfl #[.pointer (some ⟨S,0,none⟩),.agg #[.int .i64 lk.1,.int .i64 lk.2]] (enters_of Tryz.func89 (by kernel_rfl) rfl) (CA W5 (hBA.below b5')) ?_
   rintro e W6 ⟨rfl,hB6,hg6⟩
   refine ⟨_,rfl,hK.out _ _ (grown_trans' hH5 hg6) (fun hH6=>?_)⟩
   clear hK K'
   simp only [Act.put,zqa,zqb,zqc]
   refine wpAnyH_done (by kernel_rfl) ?_ _
   have hR6:=(hRA.below b5').grown hg6 (fun e=>by have:=Option.some.inj e;omega)
   have hC6:=(hCA.below b5').grown hg6 (fun _ e=>by have:=Option.some.inj e;omega)
   have hb5:=hbA.trans (b5'.mono hbA.size)
   have hb6:Below w.heap.size w W6:=below_grown hb5 hg6 (fun k hk=>by have:S=k:=Option.some.inj hk;omega) hb5.size
   clear CC CA KT hrg hi2N hTl hH hH5 hH6 hBA hCA hRA hbA b5 b5' hg6
   go_wp2_with fail
   exact ⟨⟨i+1,M.addW N lk,by go_num,by omega,HC2,hB6,hR6,hC6,hb6⟩,by simp [intOf];omega⟩
  ·obtain rfl:i=CS.length:=by omega
   have HF:Hid (M.chosenW Nk CS=N):=by show _=_;rw [HC.out,List.drop_length];rfl
   have hN:=hB.lt
   have hr:=hB.range
   have hi2:(Tryz.prog.info? 82).map (·.size)=some (btA N).toList.length:=by rw [Tryz.infoSets];simp [btA]
   have hi3:(Tryz.prog.info? 82).map (·.size)=some (btA N).toList.toArray.size:=by rw [Tryz.infoSets];simp [btA]
   have hone:(btA N).toList.toArray.all (·.oneCell')=true:=by simpa using btA_one N
   have hth:wr.there (w.heap.size+1) 0 (btA N).toList.toArray.size:=by
    have:(btA N).toList.toArray.size=28:=by simp [btA]
    rw [this];exact hR.there
   have hrF:=(hR.stored hN).range
   have bF:Below w.heap.size w (wr.setCells (w.heap.size+1) 0 (btA N).toList):=Below.setCells (by omega) _ _ _ hb
   have HG:Hid (btA (M.chosenW Nk (M.choices ds))=btA N):=by show _=_;rw [HCS.out,HF.out]
   clear HC hC hB hR hb HF hlow HCS
   generalize btA N=A' at *
   go_wp2_with (first | (refine wpList_load_mid rfl 82 (.tmp 5) rfl S 0 rfl A'.toList _ hr Tryz.undSets rfl hi2 ?_) | (refine wpList_store_mid rfl 82 (.tmp 4) (.tmp 31) rfl (w.heap.size+1) 0 A'.toList.toArray rfl rfl hth hi3 hone ?_))
   refine bodyPost_ret (v:=.agg A') ?_ rfl ⟨by rw [HG.out],bF⟩
   have:=fun t ht=>results_cell_mid Tryz.results40 t _ (w.heap.size+1) 0 A'.toList _ ht hrF Tryz.undSets rfl hi2
   rw [Array.toArray_toList] at this
   exact this _ (by simp [Act.put])
end
section
open Go.RowKit
def M.anyN (N:Nat→Nat) (s b:Nat):Bool:=(List.range 28).any fun a=>s.testBit a&&(N a).testBit b
theorem M.any_hit {N:Nat→Nat} {s b k:Nat} (hk:k < 28) (h1:s.testBit k=true) (h2:(N k).testBit b=true):M.anyN N s b=true:=by
 unfold M.anyN
 rw [List.any_eq_true]
 exact ⟨k,List.mem_range.2 hk,by rw [h1,h2];rfl⟩
theorem M.any_fin {N:Nat→Nat} {s b:Nat} (h:∀ k,k < 28→(s.testBit k&&(N k).testBit b)=false):M.anyN N s b=false:=by
 unfold M.anyN
 rw [List.any_eq_false]
 intro k hk
 rw [h k (List.mem_range.1 hk)]
 simp
set_option maxHeartbeats 1000000 in
set_option maxRecDepth 100000 in
theorem anyAhead_any (N:Nat→Nat) (s b:Nat) (w:World) (hN:∀ i,N i < 4294967296) (hs:s < 4294967296) (hb:b < 28) :
  Calls Tryz.prog 92 #[.agg (btA N),.int .u32 s,.int .i64 b] w fun e w'=>e=.returned (.bool (M.anyN N s b))∧Below w.heap.size w w':=by
 have hB:=Bt.of_block (t:=82) (heap_alloc_new w (.cells (btA N) 82)) hN
 have hb1:=below1 w (.cells (btA N) 82)
 obtain ⟨dS,hd1,hd2⟩:=Tryz.undSet
 have hsz:=btA_size N
 have hr:=hB.range
 have hi2:(Tryz.prog.info? 82).map (·.size)=some (btA N).toList.length:=by rw [Tryz.infoSets];simp [btA]
 have hget:=btA_get N
 generalize btA N=A at *
 go_enter Tryz.func92,Tryz.ntmps92
 go_wp2_with (refine wpList_load_mid rfl 82 (.tmp 3) rfl w.heap.size 0 rfl A.toList _ hr Tryz.undSets rfl hi2 ?_)
 go_loopw [10] (fun s10 wr=>∃ k:Nat,s10=.int .i64 k∧k≤28∧Hid (∀ j,j < k→(s.testBit j&&(N j).testBit b)=false)∧wr=w.alloc (.cells A 82)) (fun s10 _=>28 - (intOf s10).toNat)
 case atStart=>exact ⟨0,rfl,by omega,fun j hj=>absurd hj (Nat.not_lt_zero _),rfl⟩
 case round =>
  obtain ⟨k,rfl,hk,HA,rfl⟩:=hrel
  by_cases hlt:k < 28
  ·have i1:(k:Int) < 28:=by omega
   have hv:A.toList.toArray[k]?=some (.int .u32 (N k)):=by simpa using hget k hlt
   have CH:=fun W=>has_any s k W hs hlt
   have CH2:=fun W=>has_any (N k) b W (hN k) hb
   have HX:Hid ((s.testBit k&&(N k).testBit b)=false→∀ j,j < k+1→(s.testBit j&&(N j).testBit b)=false):=fun h j hj=>by
    by_cases e:j=k
    ·subst e;exact h
    ·exact HA.out j (by omega)
   cases ht:s.testBit k
   ·rw [ht] at CH
    have HX2:Hid (∀ j,j < k+1→(s.testBit j&&(N j).testBit b)=false):=HX.out (by rw [ht];rfl)
    clear ht HX HA
    go_wp2_with (first | (refine wpList_index_one rfl 82 (.tmp 9) (.tmp 10) rfl A.toList.toArray k 28 80 dS _ rfl rfl Tryz.undSets hlt hd1 hd2 Tryz.infoSet hv ?_) | (go_at_call 91;refine (CH _).mono ?_;rintro e w1 ⟨rfl,rfl⟩))
    exact ⟨⟨k+1,by go_num,by omega,HX2,by first | rfl | trivial⟩,by simp [intOf];omega⟩
   ·rw [ht] at CH
    cases ht2:(N k).testBit b
    ·rw [ht2] at CH2
     have HX2:Hid (∀ j,j < k+1→(s.testBit j&&(N j).testBit b)=false):=HX.out (by rw [ht,ht2];rfl)
     clear ht ht2 HX HA
     go_wp2_with (first | (refine wpList_index_one rfl 82 (.tmp 9) (.tmp 10) rfl A.toList.toArray k 28 80 dS _ rfl rfl Tryz.undSets hlt hd1 hd2 Tryz.infoSet hv ?_) | (go_at_call_of 91 (Value.int IntKind.u32 (s:Int));refine (CH _).mono ?_;rintro e w1 ⟨rfl,rfl⟩) | (go_at_call 91;refine (CH2 _).mono ?_;rintro e w1 ⟨rfl,rfl⟩))
     exact ⟨⟨k+1,by go_num,by omega,HX2,by first | rfl | trivial⟩,by simp [intOf];omega⟩
    ·rw [ht2] at CH2
     have HF:Hid (M.anyN N s b=true):=M.any_hit hlt ht ht2
     clear ht ht2 HX HA
     go_wp2_with (first | (refine wpList_index_one rfl 82 (.tmp 9) (.tmp 10) rfl A.toList.toArray k 28 80 dS _ rfl rfl Tryz.undSets hlt hd1 hd2 Tryz.infoSet hv ?_) | (go_at_call_of 91 (Value.int IntKind.u32 (s:Int));refine (CH _).mono ?_;rintro e w1 ⟨rfl,rfl⟩) | (go_at_call 91;refine (CH2 _).mono ?_;rintro e w1 ⟨rfl,rfl⟩))
     go_ret
     exact ⟨ret_bool HF.out.symm,hb1⟩
  ·have i1:¬ (k:Int) < 28:=by omega
   obtain rfl:k=28:=by omega
   have HF:Hid (M.anyN N s b=false):=M.any_fin HA.out
   clear HA
   go_wp2_with fail
   go_ret
   exact ⟨ret_bool HF.out.symm,hb1⟩
end
section
open Go.RowKit
structure LeftW (n:Nat) (out:List Nat) (L:Nat):Prop where
 lt:L < 4294967296
 bit:∀ i,L.testBit i=(decide (i < n)&&!out.contains i)
theorem LeftW.all {n:Nat} (hn:n≤28):LeftW n [] (2 ^ n - 1) :=
 ⟨(by have:2 ^ n≤2 ^ 28:=Nat.pow_le_pow_right (by omega) hn;omega),fun i=>by rw [Nat.testBit_two_pow_sub_one];simp⟩
theorem LeftW.less {n:Nat} {out:List Nat} {L b:Nat} (h:LeftW n out L) (hb:b < 28):LeftW n (out++[b]) (L &&& (4294967295 - 2 ^ b)):=by
 have hp:2 ^ b < 2 ^ 32:=Nat.pow_lt_pow_right (by omega) (by omega)
 refine ⟨Nat.lt_of_le_of_lt Nat.and_le_left h.lt,fun i=>?_⟩
 rw [Nat.testBit_and,h.bit,show 4294967295 - 2 ^ b=2 ^ 32 - (2 ^ b+1) by omega,Nat.testBit_two_pow_sub_succ hp,Nat.testBit_two_pow]
 by_cases h32:i < 32
 ·rw [decide_eq_true h32,Bool.true_and]
  have e:(out++[b]).contains i=(out.contains i||decide (b=i)):=by
   rw [Bool.eq_iff_iff]
   simp only [List.contains_eq_mem,List.mem_append,List.mem_singleton,decide_eq_true_eq,Bool.or_eq_true]
   exact or_congr Iff.rfl eq_comm
  rw [e]
  cases decide (i < n)<;>cases out.contains i<;>cases decide (b=i)<;>rfl
 ·have hL:(decide (i < n)&&!out.contains i)=false:=by
   rw [← h.bit]
   exact Nat.testBit_lt_two_pow (Nat.lt_of_lt_of_le h.lt (Nat.pow_le_pow_right (n:=2) (i:=32) (by omega) (show 32≤i by omega)))
  rw [hL,Bool.false_and]
  rw [Bool.and_eq_false_iff] at hL
  symm
  rw [Bool.and_eq_false_iff]
  refine hL.imp id fun h=>?_
  simp only [Bool.not_eq_false'] at h ⊢
  simp only [List.contains_eq_mem,List.mem_append,decide_eq_true_eq] at h ⊢
  exact .inl h
abbrev M.bitS (N:Nat→Nat):M.Bits:=fun a b=>(N a).testBit b
theorem next_bits {n:Nat} {out:List Nat} {L:Nat} (h:LeftW n out L) (N:Nat→Nat) {b:Nat} (hb:b < n):M.nextB (M.bitS N) n 28 out b=(L.testBit b&&!M.anyN N L b):=by
 unfold M.nextB M.anyN
 rw [h.bit,decide_eq_true hb,Bool.true_and]
 congr 2
 apply List.any_congr rfl
 intro a
 rw [h.bit]
theorem one_shl' {s:Nat} (h:s≤28):(2:Int) ^ s % (4294967296:Int)=((2 ^ s:Nat):Int):=by
 have hp28:2 ^ s≤2 ^ 28:=Nat.pow_le_pow_right (by omega) h
 have e:(2:Int) ^ s=((2 ^ s:Nat):Int):=by simp
 rw [e]
 generalize 2 ^ s=z at hp28
 omega
set_option maxHeartbeats 4000000 in
set_option maxRecDepth 100000 in
theorem lineI_any (N:Nat→Nat) (n:Nat) (w:World) (hn:n≤28) (hN:∀ i,N i < 4294967296) :
  Calls Tryz.prog 41 #[.agg (btA N),.int .i64 n] w fun e w'=>∃ v,e=.returned v∧OwnI w' w.heap.size v (M.lineB (M.bitS N) n 28 n [])∧Below w.heap.size w w':=by
 obtain ⟨i0,hi,hz0,hz1,hz2⟩:=info_parts Tryz.infoInt
 have hB:=Bt.of_block (t:=82) (heap_alloc_new w (.cells (btA N) 82)) hN
 have b0:=below1 w (.cells (btA N) 82)
 have hpw:(2:Int) ^ n % (4294967296:Int)=((2 ^ n:Nat):Int):=by rw [one_shl' hn]
 have hp28:2 ^ n≤268435456:=Nat.pow_le_pow_right (n:=2) (i:=n) (j:=28) (by omega) hn
 have hp1:1≤2 ^ n:=Nat.one_le_two_pow
 have hLA:=LeftW.all hn
 have hle:IntKind.u32.wrap (((2 ^ n:Nat):Int) - 1)=((2 ^ n - 1:Nat):Int):=by rw [IntKind.wrap_u32];omega
 have hi2:(Tryz.prog.info? 82).map (·.size)=some (btA N).toList.length:=by rw [Tryz.infoSets];simp [btA]
 generalize 2 ^ n - 1=L0 at *
 generalize 2 ^ n=Z at *
 go_enter Tryz.func41,Tryz.ntmps41
 go_wp2_with fail
 go_step3
 go_wp2_with fail
 go_step3
 go_wp2_with fail
 go_loopw [5,6,12] (fun s5 s6 s12 wr=>∃ (j L:Nat) (out:List Nat) (v:Value),v=s5∧OwnI wr (w.heap.size+1) v out∧s6=.int .u32 L∧s12=.int .i64 j∧j≤n∧out.length≤j∧LeftW n out L∧Hid (M.lineB (M.bitS N) n 28 n []=M.lineB (M.bitS N) n 28 (n - j) out)∧Below w.heap.size w wr∧Bt wr w.heap.size N) (fun _ _ s12 _=>n - (intOf s12).toNat)
 case atStart=>exact ⟨0,_,[],_,rfl,World.ownsRow_nil _ _ _ _,by first | rfl | rw [hle],rfl,Nat.zero_le _,by simp,hLA,rfl,b0,hB⟩
 case round =>
  obtain ⟨j,L,out,v5,hv5,hO,rfl,rfl,hj,hoj,hLW,HB,hb,hBw⟩:=hrel
  clear b0 hB hLA hle hpw
  subst hv5
  by_cases hlt:j < n
  ·have i1:(j:Int) < n:=by omega
   obtain ⟨k,hk⟩:∃ k,n - j=k+1:=⟨n - j - 1,by omega⟩
   rw [hk] at HB
   have hk':n - (j+1)=k:=by omega
   go_wp2_with fail
   go_loopw [5,6,15] (fun s5 s6 s15 wi=>∃ i:Nat,s5=v5∧s6=.int .u32 L∧s15=.int .i64 i∧i≤n∧Hid (∀ q,q < i→M.nextB (M.bitS N) n 28 out q=false)∧Below wr.heap.size wr wi) (fun _ _ s15 _=>n - (intOf s15).toNat)
   case atStart=>exact ⟨0,rfl,rfl,rfl,Nat.zero_le _,fun q hq=>absurd hq (Nat.not_lt_zero _),Below.refl _ _⟩
   case round =>
    rename World=>wi
    obtain ⟨i,rfl,rfl,rfl,hin,HN,hbi⟩:=hrel
    by_cases hit:i < n
    ·have j1:(i:Int) < n:=by omega
     have hi28:i < 28:=by omega
     have CH:=fun W=>has_any L i W hLW.lt hi28
     have CA:=fun W=>anyAhead_any N L i W hN hLW.lt hi28
     have hnb:=next_bits hLW N hit
     have HX:Hid (M.nextB (M.bitS N) n 28 out i=false→∀ q,q < i+1→M.nextB (M.bitS N) n 28 out q=false):=fun h=>M.find_step (p:=fun q=>M.nextB (M.bitS N) n 28 out q) HN.out h
     have HH:Hid (M.nextB (M.bitS N) n 28 out i=true→M.lineB (M.bitS N) n 28 (k+1) out=M.lineB (M.bitS N) n 28 k (out++[i])):=fun h=>by
      rw [M.lineB,M.find_hit (p:=fun q=>M.nextB (M.bitS N) n 28 out q) HN.out hit h]
     have hr:=(hBw.below hbi).range
     have hbwi:=hb.trans (hbi.mono hb.size)
     cases hq1:L.testBit i
     ·rw [hq1] at CH hnb
      have HX2:Hid (∀ q,q < i+1→M.nextB (M.bitS N) n 28 out q=false):=HX.out (by rw [hnb];rfl)
      clear hq1 hnb HX HH
      go_wp2_with fail
      refine (CH _).mono ?_
      rintro e w1 ⟨rfl,rfl⟩
      go_wp2_with fail
      exact ⟨⟨i+1,by first | rfl | trivial,by first | rfl | trivial,by go_num,by omega,HX2,hbi⟩,by simp [intOf];omega⟩
     ·rw [hq1] at CH hnb
      cases hq2:M.anyN N L i
      ·rw [hq2] at CA hnb
       have HX2:Hid (M.lineB (M.bitS N) n 28 (k+1) out=M.lineB (M.bitS N) n 28 k (out++[i])):=HH.out (by rw [hnb];rfl)
       have hLs:=hLW.less hi28
       obtain ⟨z,hz⟩:∃ z,2 ^ i=z:=⟨_,rfl⟩
       have hsh:(2:Int) ^ i % (4294967296:Int)=(z:Int):=by rw [one_shl' (by omega),hz]
       have hzl:z < 4294967296:=by have:=Nat.pow_lt_pow_right (a:=2) (by omega) hi28;rw [hz] at this;omega
       have hL':=hLW.lt
       have han:=u32_andNot_nat L z hL' hzl
       rw [hz] at hLs
       generalize L &&& (4294967295 - z)=L2 at *
       have hon:out.length+1≤29:=by omega
       clear hq1 hq2 hnb HX HH hz
       go_wp2_with fail
       refine (CH _).mono ?_
       rintro e w1 ⟨rfl,rfl⟩
       go_wp2_with (refine wpList_load_midG rfl 82 (.tmp 2) rfl w.heap.size 0 rfl (btA N).toList _ hr Tryz.undSets rfl hi2 ?_)
       refine (CA _).mono ?_
       rintro e w2 ⟨rfl,b2⟩
       have bw2:=hbi.trans (b2.mono hbi.size)
       have hO2:=ownsRow_below hO bw2
       have bww2:=hb.trans (bw2.mono hb.size)
       have hB2:=hBw.below bw2
       have hbs:=bww2.size
       have hOA:=World.ownsRow.alloc hO2 (.cells #[.int .i64 (i:Int)] 3)
       go_wp2_with (at_builtin;refine wpList_append_own _ rfl (.tmp 28) (.tmp 30) 26 rfl _ 3 i0 _ 1 8 Tryz.underlying26 hi hz0 hz1 hz2 rfl (by decide) _ _ _ rfl hOA ⟨w2.heap.size,0,none⟩ 1 1 [.int .i64 (i:Int)] rfl rfl (cells_new1 _ _ _ _ (by simp)) (one1 _) (by unfold maxLen;omega) (by omega) (by simp;omega) ?_)
       intro v3 w4 hown3 hg3 _
       have hb3:Below w.heap.size w w4:=below_grown (bww2.trans ((below1 w2 _).mono hbs)) hg3 (fun k hk=>by have:=own_ge hO2 k hk;omega) (by simp;omega)
       have hown4:OwnI w4 (w.heap.size+1) v3 (out++[i]):=by unfold OwnI;rw [M.ints_snoc,nums_snoc,List.length_append];exact hown3
       have hB4:Bt w4 w.heap.size N:=(hB2.below (below1 w2 (.cells #[.int .i64 (i:Int)] 3))).grown hg3 (fun e=>by have:=own_ge hO2 _ e.symm;omega)
       go_wp2_with fail
       exact ⟨⟨j+1,L2,out++[i],v3,rfl,hown4,by first | rfl | rw [han],by go_num,by omega,by simp;omega,hLs,by rw [hk'];show _=_;rw [HB.out,HX2.out],hb3,hB4⟩,by simp [intOf];omega⟩
      ·rw [hq2] at CA hnb
       have HX2:Hid (∀ q,q < i+1→M.nextB (M.bitS N) n 28 out q=false):=HX.out (by rw [hnb];rfl)
       clear hq1 hq2 hnb HX HH
       go_wp2_with fail
       refine (CH _).mono ?_
       rintro e w1 ⟨rfl,rfl⟩
       go_wp2_with (refine wpList_load_midG rfl 82 (.tmp 2) rfl w.heap.size 0 rfl (btA N).toList _ hr Tryz.undSets rfl hi2 ?_)
       refine (CA _).mono ?_
       rintro e w2 ⟨rfl,b2⟩
       go_wp2_with fail
       exact ⟨⟨i+1,by first | rfl | trivial,by first | rfl | trivial,by go_num,by omega,HX2,hbi.trans (b2.mono hbi.size)⟩,by simp [intOf];omega⟩
    ·obtain rfl:i=n:=by omega
     have HX:Hid (M.lineB (M.bitS N) i 28 (k+1) out=M.lineB (M.bitS N) i 28 k out):=by
      show _=_
      rw [M.lineB,M.find_miss (p:=fun q=>M.nextB (M.bitS N) i 28 out q) HN.out]
     have hbwi:=hb.trans (hbi.mono hb.size)
     have hBwi:=hBw.below hbi
     go_wp2_with fail
     exact ⟨⟨j+1,L,out,_,rfl,ownsRow_below hO hbi,rfl,by go_num,by omega,by omega,hLW,by rw [hk'];show _=_;rw [HB.out,HX.out],hbwi,hBwi⟩,by simp [intOf];omega⟩
  ·obtain rfl:j=n:=by omega
   have HF:Hid (M.lineB (M.bitS N) j 28 j []=out):=by show _=_;rw [HB.out,Nat.sub_self];rfl
   go_wp2_with fail
   (try rw [Exit.noGoto_ret])
   go_ret
   exact ⟨_,rfl,by rw [HF.out];exact own_low hO (by omega),hb⟩
end
section
open Go.RowKit
namespace M
theorem pick_words {N:Nat→Nat} {S:Bits} (h:Words 28 N S) {c:Ch} {cs:List Ch} (hc:Low 28 c) (hl:∀ x∈cs,Low 28 x):pickW N c cs=pickB S c cs:=by
 unfold pickW pickB
 rw [may_eq h hc.1.2,choose_eq _ cs _ _ (h.add hc.1.2) hl]
theorem chosen_words:∀ (cs:List Ch) (N:Nat→Nat) (S:Bits),Words 28 N S→(∀ c∈cs,Low 28 c)→Words 28 (chosenW N cs) (chosenB S cs)
 | [],_,_,h,_=>h
 | c::cs,N,S,h,hl=>by
  have hr:∀ x∈cs,Low 28 x:=fun x hx=>hl x (List.mem_cons_of_mem _ hx)
  have hc:=hl c (List.mem_cons_self ..)
  rw [chosenW,chosenB,← pick_words h hc hr]
  exact chosen_words cs _ _ (h.add (pickW_low hc).2) hr
theorem next_congr {S S':Bits} {n m:Nat} (h:∀ a,a < m→∀ b,S a b=S' a b) (out:List Nat) (b:Nat):nextB S n m out b=nextB S' n m out b:=by
 unfold nextB
 congr 2
 rw [Bool.eq_iff_iff,List.any_eq_true,List.any_eq_true]
 exact ⟨fun ⟨a,ha,e⟩=>⟨a,ha,by rw [← h a (List.mem_range.1 ha)];exact e⟩,fun ⟨a,ha,e⟩=>⟨a,ha,by rw [h a (List.mem_range.1 ha)];exact e⟩⟩
theorem line_congr {S S':Bits} {n m:Nat} (h:∀ a,a < m→∀ b,S a b=S' a b):∀ (k:Nat) (out:List Nat),lineB S n m k out=lineB S' n m k out
 | 0,_=>rfl
 | k+1,out=>by
  rw [lineB,lineB,show nextB S n m out=nextB S' n m out from funext fun b=>next_congr h out b]
  cases (List.range n).find? (nextB S' n m out) with
  | none=>exact line_congr h k out
  | some b=>exact line_congr h k _
theorem line_words {N:Nat→Nat} {S:Bits} (h:Words 28 N S) (n k:Nat) (out:List Nat):lineB (bitS N) n 28 k out=lineB S n 28 k out:=line_congr (fun a ha b=>h a ha b) k out
end M
theorem wayChosen_any (k:Nat) (hk1:1≤k) (hk3:k≤3) (va:Option Addr) (g c:Nat) (ll:List (List M.D)) (hp:M.prog ll=true) (fa:Option Addr) (fb fo fc:Nat) (l:List Int) (ra:Option Addr) (rb ro rc:Nat) (rows:List (List Int)) (w:World) (h:Wy w va g c (M.deeds ll) fa fb fo fc l ra rb ro rc rows) :
  Calls Tryz.prog 40 #[.agg #[.slice va (M.deeds ll).length c,.slice fa l.length fc,.slice ra rows.length rc],.int .i64 k] w fun e w'=>∃ N,e=.returned (.agg (btA N))∧(∀ i,N i < 4294967296)∧M.Words 28 N (M.chosenB (M.bitsOf (M.netOf (M.deeds ll) l rows k) (M.deeds ll).length) (M.choices (M.deeds ll)))∧Below w.heap.size w w':=by
 have hlow:∀ c∈M.choices (M.deeds ll),M.Low 28 c:=fun c hc=>by
  have h1:=(M.choices_ok (M.run_of hp) c hc).1
  have h2:=M.deeds28 hp
  exact ⟨⟨by have:=h1.1.1;omega,by have:=h1.1.2;omega⟩,by have:=h1.2.1;omega,by have:=h1.2.2;omega⟩
 have hN:=words_small (M.mustAt (M.deeds ll) l rows k) (M.deeds ll).length h.dl
 refine (chosen_of k _ hN va g c (M.deeds ll) fa fb fo fc l ra rb ro rc rows w h hlow (fun w h=>?_)).mono fun e w' ⟨he,hb⟩=>⟨_,he,M.chosenW_lt _ _ hN hlow,M.chosen_words _ _ _ (M.words_bits h.dl) hlow,hb⟩
 rcases (show k=1∨k=2∨k=3 by omega) with rfl | rfl | rfl
 ·exact ahead_of 1 _ _ _ reasons1_any (fun t a b x y w h1 h2 h3 h4=>must1_any t a b x y w h1 h2 h3 h4) va g c (M.deeds ll) fa fb fo fc l ra rb ro rc rows w h
 ·exact ahead_of 2 _ _ _ reasons2_any (fun t a b x y w h1 h2 h3 h4=>must2_any t a b x y w h1 h2 h3 h4) va g c (M.deeds ll) fa fb fo fc l ra rb ro rc rows w h
 ·exact ahead_of 3 _ _ _ reasons3_any (fun t a b x y w h1 h2 h3 h4=>must3_any t a b x y w h1 h2 h3 h4) va g c (M.deeds ll) fa fb fo fc l ra rb ro rc rows w h
end
section
open Go.RowKit
theorem M.holds_parts' {ll:List (List M.D)} {l:List Int} {rows:List (List Int)} {kind:Int} (h:M.orderHolds ll l rows kind=true):M.execOk ll l rows=true∧(1≤kind∧kind≤3)∧M.waitsA (M.deeds ll).length (M.netOf (M.deeds ll) l rows kind.toNat) (M.choices (M.deeds ll))=true:=by
 unfold M.orderHolds at h
 simp only [Bool.and_eq_true,decide_eq_true_eq] at h
 exact ⟨h.2.1,h.1,h.2.2.2⟩
set_option maxHeartbeats 2000000 in
set_option maxRecDepth 100000 in
set_option linter.unusedSimpArgs false in
theorem iorderLine_any (a : Option Addr) (b o c : Nat) (ll : List (List M.D)) (fa : Option Addr) (fb fo fc : Nat) (l : List Int) (ra : Option Addr) (rb ro rc : Nat) (rows : List (List Int)) (kind : Int) (w : World) (hl : ll.length ≤ 1048576) (hls : ∀ t ∈ ll, t.length ≤ 1048576) (hl1 : l.length ≤ 1048576) (hl2 : rows.length ≤ 1048576) (hrs : ∀ r ∈ rows, r.length ≤ 1048576) (h : DoSS w a b o ll) (hf : IntS w fa fb fo l) (hr : IntSS w ra rb ro rows) :
    Calls Tryz.prog 11 #[.agg #[.slice a ll.length c], .agg #[.slice fa l.length fc, .slice ra rows.length rc], .int .i64 kind] w fun e w' => ∃ v, e = .returned (.tuple #[v, .bool (M.orderLine ll l rows kind).isSome]) ∧ OwnI w' w.heap.size v ((M.orderLine ll l rows kind).getD []) ∧ Below w.heap.size w w' := by
  have hb1 := below2 w (.cells #[.slice a ll.length c] 25) (.cells #[.slice fa l.length fc, .slice ra rows.length rc] 29)
  have kp : ((w.alloc (.cells #[.slice a ll.length c] 25)).alloc (.cells #[.slice fa l.length fc, .slice ra rows.length rc] 29)).cell? ⟨w.heap.size, 0, none⟩ = some (.slice a ll.length c) := by simp
  have k0 : ((w.alloc (.cells #[.slice a ll.length c] 25)).alloc (.cells #[.slice fa l.length fc, .slice ra rows.length rc] 29)).cell? ⟨w.heap.size + 1, 0, none⟩ = some (.slice fa l.length fc) := by simp
  have k1 : ((w.alloc (.cells #[.slice a ll.length c] 25)).alloc (.cells #[.slice fa l.length fc, .slice ra rows.length rc] 29)).cell? ⟨w.heap.size + 1, 1, none⟩ = some (.slice ra rows.length rc) := by simp
  have hp1 := h.below hb1 (Nat.le_refl _)
  have hf1 := hf.below hb1 (Nat.le_refl _)
  have hr1 := hr.below hb1 (Nat.le_refl _)
  clear h hf hr
  obtain ⟨res, hres⟩ : ∃ res, M.orderLine ll l rows kind = res := ⟨_, rfl⟩
  have HR : Hid (M.orderLine ll l rows kind = res) := hres
  rw [hres]
  clear hres
  have C1 := iorderHolds_any a b o c ll fa fb fo fc l ra rb ro rc rows kind _ hl hls hl1 hl2 hrs hp1 hf1 hr1
  cases hok : M.orderHolds ll l rows kind
  · rw [hok] at C1
    have HF : Hid (none = res) := by show _ = _; rw [← HR.out]; unfold M.orderLine; rw [hok]; rfl
    clear HR hok
    go_enter Tryz.func11, Tryz.ntmps11
    go_wp2_with fail
    refine C1.mono ?_
    rintro e w1 ⟨rfl, hb2⟩
    go_wp2_with fail
    go_ret2
    exact ⟨_, by rw [← HF.out]; rfl, by rw [← HF.out]; exact World.ownsRow_nil _ _ _ _, hb1.trans (hb2.mono hb1.size)⟩
  · rw [hok] at C1
    obtain ⟨hex, hk13', hwt⟩ := M.holds_parts' hok
    have hW := M.wok_of hex
    obtain ⟨h3, h7⟩ := M.prog_bounds hW.prog
    obtain ⟨kn, rfl⟩ : ∃ kn : Nat, kind = kn := ⟨kind.toNat, by omega⟩
    have hk13 : 1 ≤ kn ∧ kn ≤ 3 := by omega
    have hdl := M.deeds28 hW.prog
    rw [Int.toNat_natCast] at hwt
    have HL : Hid (some (M.lineB (M.chosenB (M.bitsOf (M.netOf (M.deeds ll) l rows kn) (M.deeds ll).length) (M.choices (M.deeds ll))) (M.deeds ll).length 28 (M.deeds ll).length []) = res) := by
      show _ = _
      rw [← HR.out, ← M.line_impl hW.prog kn hwt]
      unfold M.orderLine
      rw [hok]; rfl
    clear HR hok hwt hk13' hex
    go_enter Tryz.func11, Tryz.ntmps11
    go_wp2_with fail
    refine C1.mono ?_
    rintro e w1 ⟨rfl, hb2⟩
    have hb12 := hb1.trans (hb2.mono hb1.size)
    have lt0 : w.heap.size + 1 < w1.heap.size := by have := hb2.size; simp only [World.size_alloc] at this; omega
    have kp1 := cellB hb2 kp
    have k01 := cellB hb2 k0
    have k11 := cellB hb2 k1
    have hp2 := hp1.below hb2 (Nat.le_refl _)
    have hf2 := hf1.below hb2 (Nat.le_refl _)
    have hr2 := hr1.below hb2 (Nat.le_refl _)
    clear kp k0 k1 hp1 hf1 hr1 C1 hb1 hb2
    go_wp2_with fail
    have N0 : w1.heap.size ≠ w.heap.size := by omega
    have N1 : w1.heap.size ≠ w.heap.size + 1 := by omega
    go_region_held3 (fun w' => w'.cell? ⟨w.heap.size, 0, none⟩ = some (.slice a ll.length c) ∧ w'.cell? ⟨w.heap.size + 1, 0, none⟩ = some (.slice fa l.length fc) ∧ w'.cell? ⟨w.heap.size + 1, 1, none⟩ = some (.slice ra rows.length rc)) (go_keep) (first | (go_at_call 39; refine (deedsOf_any a b o c ll _ h3 h7 (hp2.below (by first | exact (Below.refl _ _).drew | exact (below1 _ _).drew) (Nat.le_refl _))).mono ?_; rintro e w2 ⟨v2, rfl, hown, hb3⟩; obtain ⟨va, g, cap, rfl, hds, hgB, _⟩ := own_rs M.De.len hown; have hW2 : Below w1.heap.size w1 w2 := (by first | exact (Below.refl _ _).drew.trans hb3 | exact ((below1 w1 _).drew).trans (hb3.mono (below1 w1 _).size)); have Z0 := cellB hW2 kp1; have Z1 := cellB hW2 k01; have Z2 := cellB hW2 k11; (try (have T3 := slot3_drew hb3; have t0 := T3.c0; have t1 := T3.c1; have t2 := T3.c2; have tf := T3.fz))))
    all_goals
      have hbw := hb12.trans (hW2.mono hb12.size)
      first
      | (have F : Wb w (((w2.setCell ⟨w1.heap.size, 0, none⟩ (.slice va (M.deeds ll).length cap)).setCell ⟨w1.heap.size, 1, none⟩ (.slice fa l.length fc)).setCell ⟨w1.heap.size, 2, none⟩ (.slice ra rows.length rc)) w1.heap.size va g cap (M.deeds ll) fa fb fo fc l ra rb ro rc rows := Wb.first hb12 hW2 T3 hds hf2 hr2 (fun hp => by have hg : (w1.alloc (.cells #[.slice none 0 0, .slice none 0 0, .slice none 0 0] 78)).heap.size ≤ g := hgB hp; rw [World.size_alloc] at hg; omega)
         generalize ((w2.setCell ⟨w1.heap.size, 0, none⟩ (.slice va (M.deeds ll).length cap)).setCell ⟨w1.heap.size, 1, none⟩ (.slice fa l.length fc)).setCell ⟨w1.heap.size, 2, none⟩ (.slice ra rows.length rc) = W at F ⊢
         generalize w1.heap.size = X at F ⊢)
      | (have F : Wb w (w2.alloc (.cells #[.slice va (M.deeds ll).length cap, .slice fa l.length fc, .slice ra rows.length rc] 78)) w2.heap.size va g cap (M.deeds ll) fa fb fo fc l ra rb ro rc rows := ⟨hbw.alloc hbw.size _, by simp, by simp, by simp, DeS.bel hds (below1 _ _) (Nat.le_refl _), (hf2.below hW2 (Nat.le_refl _)).below (below1 _ _) (Nat.le_refl _), (hr2.below hW2 (Nat.le_refl _)).below (below1 _ _) (Nat.le_refl _)⟩
         generalize w2.alloc (.cells #[.slice va (M.deeds ll).length cap, .slice fa l.length fc, .slice ra rows.length rc] 78) = W at F ⊢
         generalize w2.heap.size = X at F ⊢)
      clear kp1 k01 k11 Z0 Z1 Z2 hp2 hf2 hr2 hds hown hW2 hb3 hb12 N0 N1 lt0 hbw hgB
      (try clear T3 t0 t1 t2 tf)
      obtain ⟨hbW, c0, c1, c2, hd, hf, hr⟩ := F
      have K0 : ∀ w', Below W.heap.size W w' → w'.cell? ⟨X, 0, none⟩ = some (.slice va (M.deeds ll).length cap) := fun w' hw => cellJ hw c0
      have K1 : ∀ w', Below W.heap.size W w' → w'.cell? ⟨X, 1, none⟩ = some (.slice fa l.length fc) := fun w' hw => cellJ hw c1
      have K2 : ∀ w', Below W.heap.size W w' → w'.cell? ⟨X, 2, none⟩ = some (.slice ra rows.length rc) := fun w' hw => cellJ hw c2
      clear c0 c1 c2
      go_wp2_with fail
      refine wp_region_held_drew (S := fun w' => Below W.heap.size W w') (by kernel_rfl) (Below.refl _ _).drew (fun hH => ?_)
      refine tk 0 18 (.agg #[.slice va (M.deeds ll).length cap, .slice fa l.length fc, .slice ra rows.length rc]) hH rfl rfl (by intro w' hSw;have hc0 := K0 w' hSw; have hc1 := K1 w' hSw; have hc2 := K2 w' hSw; go_simp) ?_
      simp only [Act.put,zqa,zqb,zqc]
      refine tk 1 19 (.int .i64 kn) hH rfl rfl (by intro w' hSw;go_simp) ?_
      simp only [Act.put,zqa,zqb,zqc]
      refine tk 3 21 (.pointer (some ⟨X, 0, none⟩)) hH rfl rfl (by intro w' hSw;go_simp) ?_
      simp only [Act.put,zqa,zqb,zqc]
      refine tk 4 22 (.slice va (M.deeds ll).length cap) hH rfl rfl (by intro w' hSw;have hc0 := K0 w' hSw; go_simp) ?_
      simp only [Act.put,zqa,zqb,zqc]
      refine tk 5 23 (.int .i64 (M.deeds ll).length) hH rfl rfl (by intro w' hSw;go_simp) ?_
      simp only [Act.put,zqa,zqb,zqc]
      refine ry 2 rfl (fun K' hK=>?_)
      refine sg 20 rfl 40 #[.tmp 18, .tmp 19] rfl #[.agg #[.slice va (M.deeds ll).length cap, .slice fa l.length fc, .slice ra rows.length rc], .int .i64 kn] (enters_of Tryz.func40 (by kernel_rfl) rfl) (wayChosen_any kn hk13.1 hk13.2 va g cap ll hW.prog fa fb fo fc l ra rb ro rc rows _ ⟨hd.bel hH (Nat.le_refl _), hf.below hH (Nat.le_refl _), hr.below hH (Nat.le_refl _), hdl, hW.len, hW.three, hrs, hW.run, hW.pl⟩) ?_
      rintro e W3 ⟨N, rfl, hN, hNw, b3⟩
      have HX : Hid (some (M.lineB (M.bitS N) (M.deeds ll).length 28 (M.deeds ll).length []) = res) := by show _ = _; rw [← HL.out, M.line_words hNw]
      clear HL hNw
      have CI := lineI_any N (M.deeds ll).length W3 hdl hN
      generalize btA N = AN at *
      refine ⟨_, rfl, hK.out _ _ (hH.trans (b3.mono hH.size)) (fun hH1 => ?_)⟩
      clear hK K'
      simp only [Act.put,zqa,zqb,zqc]
      refine ry 6 rfl (fun K' hK=>?_)
      refine sg 24 rfl 41 #[.tmp 20, .tmp 23] rfl #[.agg AN, .int .i64 (M.deeds ll).length] (enters_of Tryz.func41 (by kernel_rfl) rfl) (CI) ?_
      rintro e W4 ⟨v4, rfl, hO, b4⟩
      refine ⟨_, rfl, hK.out _ _ (hH1.trans (b4.mono hH1.size)) (fun hH2 => ?_)⟩
      clear hK K'
      simp only [Act.put,zqa,zqb,zqc]
      refine tk 7 6 (v4) hH2 rfl rfl (by intro w' hSw;go_simp) ?_
      simp only [Act.put,zqa,zqb,zqc]
      refine tk 8 7 (.bool true) hH2 rfl rfl (by intro w' hSw;go_simp) ?_
      simp only [Act.put,zqa,zqb,zqc]
      refine wpAnyH_done (by kernel_rfl) ?_ _
      have hbF := hbW.trans (hH2.mono hbW.size)
      have hge := hbW.size
      have hge1 := hH1.size
      clear K0 K1 K2 CI hH hH1 hH2
      go_wp2_with fail
      go_ret2
      exact ⟨v4, by rw [← HX.out]; rfl, by rw [← HX.out]; exact own_low hO (by omega), hbF⟩
end
end Go.Proofs.YtmhpgdliaclokaaGreat
