/- How many ways there are at most, more sharply; and rows of things of two cells. No condition. And what goes with it: WaSpec, SoMath, SoMem, SoCo, SoIn, RvOa, RvWy, OaM, SpWy, WyMath. -/
import Derived.Deep.AppendSrc
import Derived.Maps.OwnIn
import Derived.Deep.OwnRows
import Derived.Test.YtmhpgdliaclokaaGreatRows
import Derived.Test.YtmhpgdliaclokaaGreatQzbu
import Derived.Test.YtmhpgdliaclokaaGreatQzbv
namespace Go.Proofs.YtmhpgdliaclokaaGreat
section
open Go.RowKit
namespace M
theorem use_split:∀ (ds:List De),rdN ds+(ds.filter fun x=>M.writes x.d.k).length≤useN ds
 | []=>by simp [rdN,useN]
 | x::ds=>by
  have ih:=use_split ds
  have hx:(if x.reads then 1 else 0)+(if M.writes x.d.k then 1 else 0)≤if uses x.d.k then 1 else 0:=by
   simp only [De.reads,uses,writes,stores,reads]
   by_cases h2:x.d.k=2
   ·simp [h2]
   ·by_cases h5:x.d.k=5
    ·simp [h5]
    ·simp [h2,h5]
  unfold rdN useN at *
  simp only [List.filter_cons]
  split<;>split<;>split<;>simp_all<;>omega
theorem ways_le2 {ll:List (List D)} (h:prog ll=true):(ways (deeds ll)).length≤117649:=by
 have hu:=use6 h
 have hs:=use_split (deeds ll)
 have hw3:=wrs_three 0 (deeds ll)
 have hf:=fromsOf_len (deeds ll) 7 (fun p=>by have:=wr6 hu p;omega) (deeds ll).length [] (by simp)
 simp only [List.length_nil,List.drop_zero] at hf
 have hr:=fun p:Int=>rows6 h p
 have ho:(ordersOf (deeds ll)).length≤6 ^ ((wrs 0 0 (deeds ll)).length+(wrs 1 0 (deeds ll)).length+(wrs 2 0 (deeds ll)).length):=by
  unfold ordersOf
  rw [addPlace_len,addPlace_len,addPlace_len]
  simp only [List.length_singleton,Nat.one_mul]
  rw [Nat.pow_add,Nat.pow_add]
  exact Nat.mul_le_mul (Nat.mul_le_mul (hr 0) (hr 1)) (hr 2)
 have key:∀ (fs:List (List Int)),(fs.flatMap fun f=>if ends (deeds ll) f then (ordersOf (deeds ll)).map fun o=>(f,o) else []).length≤fs.length * (ordersOf (deeds ll)).length:=fun fs=>flatMap_le _ _ fs (fun f _=>by
  split
  ·simp
  ·simp)
 rw [ways_eq (cop_deeds ll)]
 unfold allWays
 refine Nat.le_trans (key _) ?_
 have h67:6 ^ ((wrs 0 0 (deeds ll)).length+(wrs 1 0 (deeds ll)).length+(wrs 2 0 (deeds ll)).length)≤7 ^ ((wrs 0 0 (deeds ll)).length+(wrs 1 0 (deeds ll)).length+(wrs 2 0 (deeds ll)).length):=Nat.pow_le_pow_left (by omega) _
 refine Nat.le_trans (Nat.mul_le_mul hf (Nat.le_trans ho h67)) ?_
 rw [← Nat.pow_add]
 exact Nat.le_trans (Nat.pow_le_pow_right (by omega) (show _≤6 by omega)) (by decide)
end M
theorem IntS.fr' {w W:World} {D:Nat→Prop} {a:Option Addr} {b o:Nat} {l:List Int} (h:IntS w a b o l) (hf:Fr D w W) (hD:0 < l.length→D b):IntS W a b o l :=
 ⟨h.addr,fun i hi=>hf.cell (p:=⟨b,o+i,none⟩) (hD (by omega)) (h.row i hi)⟩
end
section
abbrev Ky:=List Int × List Int
namespace M
def cmpK (a b:Ky):Int:=cmpS a.1 a.2 b.1 b.2
theorem cmpK_zero {a b:Ky} (h:cmpK a b=0):a=b:=by
 obtain ⟨h1,h2⟩:=cmpS_zero h
 exact Prod.ext h1 h2
theorem cmpK_neg (a b:Ky):cmpK b a=- cmpK a b:=cmpS_neg _ _ _ _
theorem cmpK_trans {a b c:Ky} (h:cmpK a b < 0) (k:cmpK b c < 0):cmpK a c < 0:=cmpS_trans h k
def Asc (l:List Ky):Prop:=l.Pairwise fun a b=>cmpK a b < 0
def putIn:List Ky→Ky→List Ky
 | [],k=>[k]
 | x::l,k=>if cmpK x k=0 then x::l else if 0 < cmpK x k then k::x::l else x::putIn l k
theorem mem_putIn (l:List Ky) (k x:Ky):x∈putIn l k↔x=k∨x∈l:=by
 induction l with
 | nil=>simp [putIn]
 | cons y l ih =>
  rw [putIn]
  by_cases h0:cmpK y k=0
  ·rw [if_pos h0]
   have:=cmpK_zero h0
   subst this
   simp
  ·rw [if_neg h0]
   by_cases h1:0 < cmpK y k
   ·rw [if_pos h1];simp
   ·rw [if_neg h1]
    simp only [List.mem_cons,ih]
    constructor
    ·rintro (h | h | h)
     ·exact Or.inr (Or.inl h)
     ·exact Or.inl h
     ·exact Or.inr (Or.inr h)
    ·rintro (h | h | h)
     ·exact Or.inr (Or.inl h)
     ·exact Or.inl h
     ·exact Or.inr (Or.inr h)
theorem asc_putIn {l:List Ky} (h:Asc l) (k:Ky):Asc (putIn l k):=by
 induction l with
 | nil=>simp [putIn,Asc]
 | cons y l ih =>
  have h':=List.pairwise_cons.1 h
  rw [putIn]
  by_cases h0:cmpK y k=0
  ·rw [if_pos h0];exact h
  ·rw [if_neg h0]
   by_cases h1:0 < cmpK y k
   ·rw [if_pos h1]
    refine List.pairwise_cons.2 ⟨fun z hz=>?_,h⟩
    have hky:cmpK k y < 0:=by have:=cmpK_neg y k;omega
    rcases List.mem_cons.1 hz with e | hz
    ·rw [e];exact hky
    ·exact cmpK_trans hky (h'.1 z hz)
   ·rw [if_neg h1]
    refine List.pairwise_cons.2 ⟨fun z hz=>?_,ih h'.2⟩
    rcases (mem_putIn l k z).1 hz with e | hz
    ·rw [e];omega
    ·exact h'.1 z hz
def sortK (l:List Ky):List Ky:=l.foldl putIn []
theorem foldl_mem (l:List Ky):∀ (a:List Ky) (x:Ky),x∈l.foldl putIn a↔x∈a∨x∈l:=by
 induction l with
 | nil=>intro a x;simp
 | cons y l ih =>
  intro a x
  rw [List.foldl_cons,ih,mem_putIn]
  simp only [List.mem_cons]
  constructor
  ·rintro ((h | h) | h)
   ·exact Or.inr (Or.inl h)
   ·exact Or.inl h
   ·exact Or.inr (Or.inr h)
  ·rintro (h | h | h)
   ·exact Or.inl (Or.inr h)
   ·exact Or.inl (Or.inl h)
   ·exact Or.inr h
theorem foldl_asc (l:List Ky):∀ (a:List Ky),Asc a→Asc (l.foldl putIn a):=by
 induction l with
 | nil=>intro a h;exact h
 | cons y l ih=>intro a h;exact ih _ (asc_putIn h y)
theorem mem_sortK (l:List Ky) (x:Ky):x∈sortK l↔x∈l:=by rw [sortK,foldl_mem];simp
end M
end
section
open Go.RowKit
def Sn.ky (s:Sn):Ky:=(s.l1,s.l2)
structure SR (W:World) (g:Nat) (ss:List Sn):Prop where
 c:∀ i (h:i < ss.length),W.cell? ⟨g,i * 2,none⟩=some (.slice ss[i].a1 ss[i].l1.length ss[i].c1)∧W.cell? ⟨g,i * 2+1,none⟩=some (.slice ss[i].a2 ss[i].l2.length ss[i].c2)
 fz:∀ j,W.frozen? ⟨g,j,none⟩=false
theorem SR.below {W W':World} {g:Nat} {ss:List Sn} (h:SR W g ss) (hb:Below W.heap.size W W') (hl:g < W.heap.size):SR W' g ss :=
 ⟨fun i hi=>⟨(hb.cell (p:=⟨g,i * 2,none⟩) hl).trans (h.c i hi).1,(hb.cell (p:=⟨g,i * 2+1,none⟩) hl).trans (h.c i hi).2⟩,fun j=>(hb.frozen (p:=⟨g,j,none⟩) hl).trans (h.fz j)⟩
end
section
open Go.RowKit
theorem calls_bel {P:Program} {f:FuncId} {args:Array Value} {W:World} {v:Value} (h:Calls P f args W fun e w'=>e=.returned v∧Grown W w'):Calls P f args W fun e w'=>e=.returned v∧Below W.heap.size W w':=h.mono fun _ _ ⟨he,hg⟩=>⟨he,hg.bel⟩
def kys (ss:List Sn):List Ky:=ss.map Sn.ky
theorem Tryz.infoSeen:(Tryz.prog.info? 45).map (fun i=>(i.zero,i.size,i.bytes))=some (some (.agg #[.slice none 0 0,.slice none 0 0]),2,48):=by kernel_rfl
theorem kys_len (ss:List Sn):(kys ss).length=ss.length:=by simp [kys]
theorem kys_get (ss:List Sn) {n:Nat} (h:n < ss.length) (h':n < (kys ss).length):(kys ss)[n]=ss[n].ky:=by simp [kys]
namespace M
end M
end
section
open Go.RowKit
def flatS:List Sn→List Value
 | []=>[]
 | s::l=>.slice s.a1 s.l1.length s.c1::.slice s.a2 s.l2.length s.c2::flatS l
theorem flatS_get (l:List Sn):∀ i (h:i < l.length),(flatS l)[i * 2]?=some (.slice l[i].a1 l[i].l1.length l[i].c1)∧(flatS l)[i * 2+1]?=some (.slice l[i].a2 l[i].l2.length l[i].c2):=by
 induction l with
 | nil=>intro i h;exact absurd h (Nat.not_lt_zero _)
 | cons s l ih =>
  intro i h
  cases i with
  | zero=>exact ⟨rfl,rfl⟩
  | succ i =>
   obtain ⟨h0,h1⟩:=ih i (by simpa using h)
   have e:(i+1) * 2=i * 2+2:=by omega
   rw [e]
   exact ⟨by simpa [flatS] using h0,by simpa [flatS] using h1⟩
end
section
open Go.RowKit Go.Shelf
attribute [local go_sem] Oper.semAt_some
namespace M
def seenOf (ll:List (List D)) (x:Wy):Key:=(seenR (deeds ll) x.1,seenL (deeds ll) x.1 x.2)
def orderList (ll:List (List D)) (kind:Int):List Key:=((ways (deeds ll)).filter fun x=>orderHolds ll x.1 x.2 kind).map (seenOf ll)
def orderAll (ll:List (List D)) (kind:Int):List Key:=if (decide (1≤kind)&&decide (kind≤3))&&prog ll then sortK (orderList ll kind) else []
theorem ways_ok {ll:List (List D)} (hp:prog ll=true) {x:Wy} (h:x∈ways (deeds ll)):execOk ll x.1 x.2=true:=by
 unfold execOk
 rw [hp,Bool.true_and]
 exact (mem_all (f:=x.1) (o:=x.2)).1 (by rw [← ways_eq (cop_deeds ll)];exact h)
theorem seenR_len (ds:List De) (l:List Int):(seenR ds l).length≤ds.length:=by
 have key:∀ (n:Nat) (xs:List De),(rdAt ds l n xs).length≤xs.length:=by
  intro n xs
  induction xs generalizing n with
  | nil=>simp [rdAt]
  | cons x xs ih =>
   have:=ih (n+1)
   simp only [rdAt]
   split<;>simp<;>omega
 exact key 0 ds
end M
def BlkS (s:Sn) (k:Nat):Prop:=(0 < s.l1.length∧k=s.b1)∨(0 < s.l2.length∧k=s.b2)
theorem Sn.At.fr {s:Sn} {W W':World} {O:Nat→Prop} (h:s.At W) (hf:Fr O W W') (hO:∀ k,BlkS s k→O k):s.At W' :=
 ⟨h.reads.fr' hf (fun hl=>hO _ (Or.inl ⟨hl,rfl⟩)),h.last.fr' hf (fun hl=>hO _ (Or.inr ⟨hl,rfl⟩))⟩
theorem Sn.At.lt {s:Sn} {W:World} (h:s.At W) {k:Nat} (hk:BlkS s k):k < W.heap.size:=by
 rcases hk with ⟨hl,rfl⟩ | ⟨hl,rfl⟩
 ·exact World.block_lt_of_cell? _ _ (h.reads.row 0 hl)
 ·exact World.block_lt_of_cell? _ _ (h.last.row 0 hl)
end
section
open Go.RowKit Go.Shelf
attribute [local go_sem] Oper.semAt_some
namespace M
def whyGood (ll:List (List D)) (t1 t2:List Int) (k:Int) (x:Wy):Bool:=(cmpS (seenR (deeds ll) x.1) (seenL (deeds ll) x.1 x.2) t1 t2==0)&&orderHolds ll x.1 x.2 k
end M
end
section
namespace M
theorem exec_prog {ll:List (List D)} {l:List Int} {rows:List (List Int)} (h:execOk ll l rows=true):prog ll=true:=by
 simp only [execOk,Bool.and_eq_true] at h;exact h.1
theorem mem_ways {ll:List (List D)} {x:Wy} (h:execOk ll x.1 x.2=true):x∈ways (deeds ll):=by
 rw [ways_eq (cop_deeds ll)]
 simp only [execOk,Bool.and_eq_true] at h
 exact mem_all.2 h.2
theorem mem_orderAll {ll:List (List D)} {kind:Int} {k:Key}:k∈orderAll ll kind↔∃ x:Wy,orderHolds ll x.1 x.2 kind=true∧seenOf ll x=k:=by
 unfold orderAll
 cases hg:((decide (1≤kind)&&decide (kind≤3))&&prog ll)
 ·simp only [Bool.false_eq_true,if_false,List.not_mem_nil,false_iff]
  rintro ⟨x,hx,_⟩
  have h:=holds_parts_of hx
  rw [h.1,exec_prog h.2] at hg
  cases hg
 ·rw [if_pos rfl,mem_sortK,orderList,List.mem_map]
  constructor
  ·rintro ⟨x,hx,e⟩
   exact ⟨x,(List.mem_filter.1 hx).2,e⟩
  ·rintro ⟨x,hx,e⟩
   exact ⟨x,List.mem_filter.2 ⟨mem_ways (holds_parts_of hx).2,hx⟩,e⟩
theorem orderAll_le (ll:List (List D)) (kind:Int):KLe (orderAll ll kind) 1048576:=fun k hk=>by
 obtain ⟨x,hx,rfl⟩:=mem_orderAll.1 hk
 have h:=(holds_parts_of hx).2
 have hW:=wok_of h
 have hb:=prog_le hW.prog
 have hdl:=deeds_len hb.1 hb.2
 have h1:=seenR_len (deeds ll) x.1
 have h3:=hW.three.out
 exact ⟨by simp only [seenOf];omega,by simp only [seenOf,seenL,List.length_map];omega⟩
end M
end
section
open Go.RowKit Go.Shelf
namespace M
theorem execSeen_le {ll:List (List D)} {x:Wy} (h:execOk ll x.1 x.2=true):(execSeen ll x.1 x.2).1.length≤1048576∧(execSeen ll x.1 x.2).2.length≤1048576:=by
 have hW:=wok_of h
 have hb:=prog_le hW.prog
 have hdl:=deeds_len hb.1 hb.2
 have h1:=seenR_len (deeds ll) x.1
 have h3:=hW.three.out
 unfold execSeen
 rw [h]
 exact ⟨by show (seenR _ _).length≤_;omega,by show (seenL _ _ _).length≤_;rw [seenL,List.length_map];omega⟩
end M
end
section
namespace M
theorem whyGood_mem {ll:List (List D)} {t1 t2:List Int} {k:Int} {x:Wy} (h:whyGood ll t1 t2 k x=true):orderHolds ll x.1 x.2 k=true∧seenOf ll x=(t1,t2)∧(t1,t2)∈orderAll ll k:=by
 unfold whyGood at h
 simp only [Bool.and_eq_true,beq_iff_eq] at h
 obtain ⟨h1,h2⟩:=h
 obtain ⟨e1,e2⟩:=cmpS_zero h1
 have e:seenOf ll x=(t1,t2):=by unfold seenOf;rw [e1,e2]
 exact ⟨h2,e,mem_orderAll.2 ⟨x,h2,e⟩⟩
end M
end
end Go.Proofs.YtmhpgdliaclokaaGreat
