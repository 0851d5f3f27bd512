/- Whether all may be one behind the other, and of each pair one of both be added: plainly. No condition. And what goes with it: HdMath, HdPick, HdKahn, HdWait, HdBit, HdHas, HdCh, HdHolds, HdAhd, HdSet, HdWch. -/
import Derived.Deep.WholeRow
import Derived.Laws.AppendOwnNone
import Derived.Test.YtdningnhbplfiaaGreatRows
import Derived.Test.YtdningnhbplfiaaGreatQrat
namespace Go.Proofs.YtdningnhbplfiaaGreat
section
namespace M
abbrev Lk:=Nat × Nat
def addB (S:Nat→Nat→Bool) (l:Lk):Nat→Nat→Bool:=fun a b=>S a b||((a==l.1||S a l.1)&&(S l.2 b||b==l.2))
end M
end
section
namespace M
abbrev Ch:=Lk × Lk
abbrev Bits:=Nat→Nat→Bool
def mayAdd (S:Bits) (l:Lk):Bool:=!S l.2 l.1
def hasL (S:Bits) (l:Lk):Bool:=S l.1 l.2
def sweep:Bits→List Ch→List Ch→Option (Bits × List Ch)
 | S,[],left=>some (S,left)
 | S,c::cs,left =>
  if !mayAdd S c.1&&!mayAdd S c.2 then none
  else if hasL S c.1||hasL S c.2 then sweep S cs left
  else if mayAdd S c.1&&mayAdd S c.2 then sweep S cs (left++[c])
  else if mayAdd S c.1 then sweep (addB S c.1) cs left
  else sweep (addB S c.2) cs left
def settle:Nat→Bits→List Ch→Option (Bits × List Ch)
 | 0,S,cs=>some (S,cs)
 | n+1,S,cs=>match sweep S cs [] with
  | none=>none
  | some (S',left)=>if left.length=cs.length then some (S',left) else settle n S' left
def choose:Nat→Bits→List Ch→Bool
 | 0,_,_=>false
 | n+1,S,cs=>match settle (cs.length+1) S cs with
  | none=>false
  | some (_,[])=>true
  | some (S',c::left)=>choose n (addB S' c.1) left||choose n (addB S' c.2) left
def Two (c:Ch):Prop:=c.1.1≠c.1.2∧c.2.1≠c.2.2
end M
end
section
namespace M
def free (A:Nat→Nat→Bool) (n:Nat) (gone:Nat→Bool) (b:Nat):Bool:=!gone b&&(List.range n).all fun a=>gone a||!A a b
def kahn (A:Nat→Nat→Bool) (n:Nat):Nat→(Nat→Bool)→Bool
 | 0,_=>true
 | k+1,gone=>match (List.range n).find? (free A n gone) with
  | none=>false
  | some b=>kahn A n k (fun x=>gone x||x==b)
end M
end
section
namespace M
def setA (A:Nat→Nat→Bool) (l:Lk):Nat→Nat→Bool:=fun a b=>A a b||(a==l.1&&b==l.2)
def holdsA (A:Nat→Nat→Bool) (n:Nat):Bool:=kahn A n n (fun _=>false)
def waitsA (n:Nat):(Nat→Nat→Bool)→List Ch→Bool
 | A,[]=>holdsA A n
 | A,c::cs=>holdsA A n&&(waitsA n (setA A c.1) cs||waitsA n (setA A c.2) cs)
def Inn (n:Nat) (c:Ch):Prop:=(c.1.1 < n∧c.1.2 < n)∧c.2.1 < n∧c.2.2 < n
end M
end
section
namespace M
theorem bit_one (s b:Nat):(1 <<< s).testBit b=(b==s):=by
 rw [Nat.testBit_shiftLeft]
 by_cases h:b=s
 ·subst h;simp
 ·have hb:(b==s)=false:=by rw [beq_eq_false_iff_ne];exact h
  rw [hb]
  by_cases h2:s≤b
  ·obtain ⟨k,hk⟩:∃ k,b - s=k+1:=⟨b - s - 1,by omega⟩
   rw [hk,Nat.testBit_succ]
   simp
  ·simp [h2]
end M
end
section
open Go.RowKit
theorem bits_and32 (a b:Nat) (ha:a < 4294967296) (hb:b < 4294967296):bits .and .u32 (a:Int) (b:Int)=((a &&& b:Nat):Int):=by
 have hx:a &&& b < 2 ^ 32:=Nat.lt_of_le_of_lt Nat.and_le_left (by omega)
 have h1:(BitVec.ofInt 32 (a:Int)).toNat=a:=by
  rw [BitVec.ofInt_natCast,BitVec.toNat_ofNat];exact Nat.mod_eq_of_lt (by omega)
 have h2:(BitVec.ofInt 32 (b:Int)).toNat=b:=by
  rw [BitVec.ofInt_natCast,BitVec.toNat_ofNat];exact Nat.mod_eq_of_lt (by omega)
 show IntKind.u32.wrap ((BitVec.ofInt 32 (a:Int) &&& BitVec.ofInt 32 (b:Int)).toNat:Int)=_
 rw [BitVec.toNat_and,h1,h2,IntKind.wrap_u32]
 omega
theorem bits_or32 (a b:Nat) (ha:a < 4294967296) (hb:b < 4294967296):bits .or .u32 (a:Int) (b:Int)=((a ||| b:Nat):Int):=by
 have hx:a ||| b < 2 ^ 32:=Nat.or_lt_two_pow (by omega) (by omega)
 have h1:(BitVec.ofInt 32 (a:Int)).toNat=a:=by
  rw [BitVec.ofInt_natCast,BitVec.toNat_ofNat];exact Nat.mod_eq_of_lt (by omega)
 have h2:(BitVec.ofInt 32 (b:Int)).toNat=b:=by
  rw [BitVec.ofInt_natCast,BitVec.toNat_ofNat];exact Nat.mod_eq_of_lt (by omega)
 show IntKind.u32.wrap ((BitVec.ofInt 32 (a:Int) ||| BitVec.ofInt 32 (b:Int)).toNat:Int)=_
 rw [BitVec.toNat_or,h1,h2,IntKind.wrap_u32]
 omega
theorem bit_of (s i:Nat):((s:Int) / 2 ^ i % 2==1)=s.testBit i:=by
 have e:(s:Int) / 2 ^ i % 2=((s / 2 ^ i % 2:Nat):Int):=by simp
 rw [e,Nat.testBit,Nat.shiftRight_eq_div_pow,Nat.and_comm,Nat.and_one_is_mod]
 rcases Nat.mod_two_eq_zero_or_one (s / 2 ^ i) with e | e<;>rw [e]<;>rfl
set_option maxHeartbeats 400000 in
theorem has_any (s i:Nat) (w:World) (hs:s < 4294967296) (hi:i < 28) :
  Calls Tryz.prog 110 #[.int .u32 s,.int .i64 i] w fun e w'=>e=.returned (.bool (s.testBit i))∧w'=w:=by
 have hd:s / 2 ^ i < 4294967296:=Nat.lt_of_le_of_lt (Nat.div_le_self _ _) hs
 have e1:bits .and .u32 ((s:Int) / 2 ^ i) 1=(s:Int) / 2 ^ i % 2:=by
  have:=bits_and32 (s / 2 ^ i) 1 hd (by decide)
  rw [Nat.and_one_is_mod] at this
  simpa using this
 go_enter Tryz.func110,Tryz.ntmps110
 go_wp2_with fail
 rw [bit_of]
 go_ret
 exact ⟨rfl,rfl⟩
end
section
namespace M
def Ends (ds:List De):Prop:=∀ n (h:n < ds.length),ds[n].d.k=9→ds[n].last=false→∃ h':n+1 < ds.length,ds[n+1].d.k=9
theorem Ends.append {l m:List De} (hl:Ends l) (hm:Ends m):Ends (l++m):=fun n h hk hf=>by
 rcases Nat.lt_or_ge n l.length with h1 | h1
 ·rw [List.getElem_append_left h1] at hk hf
  obtain ⟨h2,h3⟩:=hl n h1 hk hf
  exact ⟨by rw [List.length_append];omega,by rw [List.getElem_append_left h2];exact h3⟩
 ·rw [List.getElem_append_right h1] at hk hf
  rw [List.length_append] at h
  obtain ⟨h2,h3⟩:=hm (n - l.length) (by omega) hk hf
  refine ⟨by rw [List.length_append];omega,?_⟩
  rw [List.getElem_append_right (by omega)]
  have e:n+1 - l.length=n - l.length+1:=by omega
  simp only [e]
  exact h3
theorem ends_deD (t i:Nat) (lr:Int) (n:Nat) (d:D):Ends (deD t i lr n d):=by
 unfold deD
 by_cases h:d.k==9
 ·rw [if_pos h]
  have h9:d.k=9:=by simpa using h
  intro q hq hk hf
  have hq':q=0∨q=1:=by simp at hq;omega
  rcases hq' with rfl | rfl
  ·exact ⟨by simp,by simpa using h9⟩
  ·simp at hf
 ·rw [if_neg h]
  intro q hq hk _
  have hq':q=0:=by simp at hq;omega
  subst hq'
  exact absurd (by simpa using hk) h
theorem ends_deT (t:Nat):∀ (l:List D) (i:Nat) (lr:Int) (n:Nat),Ends (deT t i lr n l)
 | [],_,_,_=>fun n h=>by simp [deT] at h
 | d::l,i,lr,n=>by rw [deT];exact (ends_deD t i lr n d).append (ends_deT t l _ _ _)
theorem ends_deF:∀ (ll:List (List D)) (t n:Nat),Ends (deF t n ll)
 | [],_,_=>fun n h=>by simp [deF] at h
 | l::ll,t,n=>by rw [deF];exact (ends_deT t l _ _ _).append (ends_deF ll _ _)
theorem ends_deeds (ll:List (List D)):Ends (deeds ll):=ends_deF ll 0 0
theorem out_at {ds:List De} {n:Nat} (h:run false ds=some false) (hn:n < ds.length) (hk:ds[n].d.k=7):∃ hm:outOf ds n < ds.length,ds[outOf ds n].d.k=8:=by
 obtain ⟨m,h1,hm,h8⟩:=has_out h hn hk
 have lt:outOf ds n < ds.length:=by
  rcases Nat.lt_or_ge m (outOf ds n) with h2 | h2
  ·exact absurd h8 ((le_outOf (a:=n) (b:=m+1) (by omega) (by omega)).1 (by omega) m hm (by omega) (by omega))
  ·omega
 refine ⟨lt,?_⟩
 have no:¬ (outOf ds n+1≤outOf ds n):=by omega
 rw [le_outOf (a:=n) (b:=outOf ds n+1) (by omega) (by omega)] at no
 have yes:=(le_outOf (a:=n) (b:=outOf ds n) (by omega) (by omega)).1 (Nat.le_refl _)
 apply Classical.byContradiction
 intro hne
 apply no
 intro q hq q1 q2
 rcases Nat.lt_or_ge q (outOf ds n) with h3 | h3
 ·exact yes q hq q1 h3
 ·have e:q=outOf ds n:=by omega
  subst e
  exact hne
def choicesAt (ds:List De) (begin_:Nat):List Ch:=((List.range ds.length).filter fun r=>kAt ds r==7).map fun r=>((outOf ds r,begin_+1),(begin_,r))
def waitsAt (ds:List De) (n:Nat):Bool:=match ds[n]? with | some x=>x.d.k==9&&!x.last | none=>false
def choices (ds:List De):List Ch:=((List.range ds.length).filter (waitsAt ds)).flatMap (choicesAt ds)
theorem choices_ok {ll:List (List D)} (h:run false (deeds ll)=some false):∀ c∈choices (deeds ll),Inn (deeds ll).length c∧Two c:=by
 intro c hc
 simp only [choices,List.mem_flatMap,choicesAt,List.mem_map,List.mem_filter,List.mem_range] at hc
 obtain ⟨b,⟨hb,hw⟩,r,⟨hr,hk⟩,rfl⟩:=hc
 have hk7:(deeds ll)[r].d.k=7:=by rw [kAt_eq hr] at hk;simpa using hk
 have hw':(deeds ll)[b].d.k=9∧(deeds ll)[b].last=false:=by
  unfold waitsAt at hw
  rw [List.getElem?_eq_getElem hb] at hw
  simpa using hw
 obtain ⟨he,he9⟩:=ends_deeds ll b hb hw'.1 hw'.2
 obtain ⟨ho,ho8⟩:=out_at h hr hk7
 refine ⟨⟨⟨ho,he⟩,hb,hr⟩,fun e=>?_,fun e=>?_⟩
 ·simp only at e
  have e8:=kAt_eq ho
  have e9:=kAt_eq he
  rw [ho8] at e8
  rw [he9] at e9
  rw [e] at e8
  omega
 ·simp only at e
  subst e
  rw [hk7] at hw'
  omega
end M
end
section
namespace M
theorem len_prog:∀ (ll:List (List D)) (t n a u:Nat),progFrom a u ll=true→(deF t n ll).length+2 * a≤28
 | [],_,_,a,u,h=>by simp [progFrom] at h;simp [deF];omega
 | l::ll,t,n,a,u,h=>by
  by_cases hb:thread l=true
  ·simp only [progFrom,hb,if_true] at h
   have h1:=len_prog ll (t+1) (n+(deT t 0 (-1) n l).length) _ _ h
   have h2:=deT_len t l 0 (-1) n
   rw [deF,List.length_append]
   omega
  ·simp [progFrom,hb] at h
theorem deeds28 {ll:List (List D)} (h:prog ll=true):(deeds ll).length≤28:=by
 simp only [prog,Bool.and_eq_true,decide_eq_true_eq] at h
 have:=len_prog ll 0 0 0 0 h.2
 unfold deeds
 omega
def netOf (ds:List De) (l:List Int) (rows:List (List Int)) (k:Nat):Nat→Nat→Bool:=mustAt ds l rows k
theorem run_of {ll:List (List D)} (h:prog ll=true):run false (deeds ll)=some false:=by
 simp only [prog,Bool.and_eq_true,decide_eq_true_eq] at h
 exact run_ok (from_thr ll 0 0 h.2)
end M
end
section
open Go.RowKit
namespace M
theorem mustAt_of {ds:List De} {l:List Int} {rows:List (List Int)} {k a b:Nat} {x y:De} (hx:ds[a]?=some x) (hy:ds[b]?=some y):mustAt ds l rows k a b=must ds l rows k a b x y:=by unfold mustAt;rw [hx,hy]
end M
structure Wy (w:World) (va:Option Addr) (g c:Nat) (ds:List M.De) (fa:Option Addr) (fb fo fc:Nat) (l:List Int) (ra:Option Addr) (rb ro rc:Nat) (rows:List (List Int)):Prop where
 d:DeS w va g ds
 f:IntS w fa fb fo l
 r:IntSS w ra rb ro rows
 dl:ds.length≤28
 len:Hid (l.length=ds.length)
 three:Hid (rows.length=3)
 rl:∀ r∈rows,r.length≤1048576
 run:M.run false ds=some false
 pl:∀ x∈ds,x.uses=true→0≤x.d.p∧x.d.p < 3
theorem Wy.below {w w':World} {va:Option Addr} {g c:Nat} {ds:List M.De} {fa:Option Addr} {fb fo fc:Nat} {l:List Int} {ra:Option Addr} {rb ro rc:Nat} {rows:List (List Int)} {B:Nat} (h:Wy w va g c ds fa fb fo fc l ra rb ro rc rows) (hb:Below B w w') (hB:w.heap.size≤B):Wy w' va g c ds fa fb fo fc l ra rb ro rc rows :=
 ⟨h.d.bel hb hB,h.f.below hb hB,h.r.below hb hB,h.dl,h.len,h.three,h.rl,h.run,h.pl⟩
theorem grown_then' {w w1 w2:World} {row:Option Nat} (h:w.grownBy w1 row) (k:Below w1.heap.size w1 w2):w.grownBy w2 row :=
 ⟨k.os.trans h.os,k.tape.trans h.tape,k.output.trans h.output,Nat.le_trans h.size k.size,fun _ hi hn=>(k.block _ (Nat.lt_of_lt_of_le hi h.size)).trans (h.block _ hi hn)⟩
theorem grownBy_rfl (w:World) (row:Option Nat):w.grownBy w row:=⟨rfl,rfl,rfl,Nat.le_refl _,fun _ _ _=>rfl⟩
end
section
open Go.RowKit
def M.c4 (c:M.Ch):List Value:=[.int .i64 c.1.1,.int .i64 c.1.2,.int .i64 c.2.1,.int .i64 c.2.2]
end
section
open Go.RowKit
namespace M
def chP (ds:List De) (n:Nat):List Ch:=((List.range n).filter (waitsAt ds)).flatMap (choicesAt ds)
def chQ (ds:List De) (b m:Nat):List Ch:=((List.range m).filter fun r=>kAt ds r==7).map fun r=>((outOf ds r,b+1),(b,r))
theorem chP_all (ds:List De):chP ds ds.length=choices ds:=rfl
theorem chQ_all (ds:List De) (b:Nat):chQ ds b ds.length=choicesAt ds b:=rfl
theorem chP_succ (ds:List De) (n:Nat):chP ds (n+1)=chP ds n++(if waitsAt ds n then choicesAt ds n else []):=by
 unfold chP
 rw [List.range_succ,List.filter_append,List.flatMap_append]
 congr 1
 cases h:waitsAt ds n<;>simp [h]
theorem chQ_succ (ds:List De) (b m:Nat):chQ ds b (m+1)=chQ ds b m++(if kAt ds m==7 then [((outOf ds m,b+1),(b,m))] else []):=by
 unfold chQ
 rw [List.range_succ,List.filter_append,List.map_append]
 congr 1
 cases h:(kAt ds m==7)<;>simp [h]
theorem chQ_len (ds:List De) (b m:Nat):(chQ ds b m).length≤m:=by
 unfold chQ
 rw [List.length_map]
 have:=List.length_filter_le (fun r=>kAt ds r==7) (List.range m)
 simpa using this
theorem chP_len (ds:List De) (n:Nat):(chP ds n).length≤n * ds.length:=by
 induction n with
 | zero=>simp [chP]
 | succ n ih =>
  rw [chP_succ,List.length_append]
  have:(if waitsAt ds n then choicesAt ds n else []).length≤ds.length:=by
   split
   ·rw [← chQ_all];exact chQ_len ds n ds.length
   ·simp
  rw [Nat.succ_mul]
  omega
theorem waitsAt_of {ds:List De} {n:Nat} {x:De} (h:ds[n]?=some x):waitsAt ds n=(x.d.k==9&&!x.last):=by unfold waitsAt;rw [h]
theorem kAt_of {ds:List De} {n:Nat} {x:De} (h:ds[n]?=some x):kAt ds n=x.d.k:=by unfold kAt;rw [h]
end M
end
end Go.Proofs.YtdningnhbplfiaaGreat
