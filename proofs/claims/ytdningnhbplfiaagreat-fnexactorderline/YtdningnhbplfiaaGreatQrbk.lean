/- Rings, plainly: the first row of events of which each must be ahead of the next; both ways to find it tell the same. No condition. And what goes with it: RgMath, RgW, RgL, RgI, RgMath2, RgJ, RgS, RgK, RgO. -/
import Derived.Deep.OwnRows
import Derived.Test.YtdningnhbplfiaaGreatRows
import Derived.Test.YtdningnhbplfiaaGreatQrax
import Derived.Test.YtdningnhbplfiaaGreatQrba
import Derived.Test.YtdningnhbplfiaaGreatQrbb
import Derived.Test.YtdningnhbplfiaaGreatQrbc
import Derived.Test.YtdningnhbplfiaaGreatQrbj
namespace Go.Proofs.YtdningnhbplfiaaGreat
section
namespace M
def walkB (A:Nat→Nat→Bool) (n:Nat):Nat→Nat→Nat→Bool
 | 0,a,b=>a==b
 | k+1,a,b=>(List.range n).any fun c=>A a c&&walkB A n k c b
theorem walk_succ {A:Nat→Nat→Bool} {n k a b:Nat}:walkB A n (k+1) a b=true↔∃ c,c < n∧A a c=true∧walkB A n k c b=true:=by
 simp [walkB,List.any_eq_true]
theorem walk_trans {A:Nat→Nat→Bool} {n:Nat}:∀ {j k a b c:Nat},walkB A n j a b=true→walkB A n k b c=true→walkB A n (j+k) a c=true:=by
 intro j
 induction j with
 | zero =>
  intro k a b c h1 h2
  have:a=b:=by simpa [walkB] using h1
  subst this
  rw [Nat.zero_add];exact h2
 | succ j ih =>
  intro k a b c h1 h2
  obtain ⟨d,hd,hA,hw⟩:=walk_succ.1 h1
  rw [show j+1+k=(j+k)+1 by omega,walk_succ]
  exact ⟨d,hd,hA,ih hw h2⟩
theorem walk_one {A:Nat→Nat→Bool} {n a b:Nat} (hb:b < n) (h:A a b=true):walkB A n 1 a b=true:=walk_succ.2 ⟨b,hb,h,by simp [walkB]⟩
theorem walk_last {A:Nat→Nat→Bool} {n:Nat}:∀ {k a b:Nat},b < n→(walkB A n (k+1) a b=true↔∃ c,walkB A n k a c=true∧A c b=true):=by
 intro k
 induction k with
 | zero =>
  intro a b hb
  rw [walk_succ]
  constructor
  ·rintro ⟨c,hc,hA,hw⟩
   have:c=b:=by simpa [walkB] using hw
   subst this
   exact ⟨a,by simp [walkB],hA⟩
  ·rintro ⟨c,hw,hA⟩
   have:a=c:=by simpa [walkB] using hw
   subst this
   exact ⟨b,hb,hA,by simp [walkB]⟩
 | succ k ih =>
  intro a b hb
  rw [walk_succ]
  constructor
  ·rintro ⟨c,hc,hA,hw⟩
   obtain ⟨d,h1,h2⟩:=(ih hb).1 hw
   exact ⟨d,walk_succ.2 ⟨c,hc,hA,h1⟩,h2⟩
  ·rintro ⟨c,hw,hA⟩
   obtain ⟨d,hd,h1,h2⟩:=walk_succ.1 hw
   exact ⟨d,hd,h1,(ih hb).2 ⟨c,h2,hA⟩⟩
theorem walk_lt {A : Nat → Nat → Bool} {n : Nat} : ∀ {k a b : Nat}, a < n → walkB A n k a b = true → b < n := by
  intro k
  induction k with
  | zero => intro a b ha h; have : a = b := by simpa [walkB] using h
            omega
  | succ k ih =>
    intro a b _ h
    obtain ⟨c, hc, _, hw⟩ := walk_succ.1 h
    exact ih hc hw
def ringOn (A:Nat→Nat→Bool) (n:Nat):Nat→List Nat→Nat→Nat→Option (List Nat)
 | 0,row,last,a=>if A last a then some row else none
 | k+1,row,last,a=>(List.range n).findSome? fun b=>if decide (a < b)&&(A last b&&!row.contains b) then ringOn A n k (row++[b]) b a else none
def ringBack (A:Nat→Nat→Bool) (n:Nat):Nat→List Nat→Nat→Nat→List Nat
 | 0,row,_,_=>row
 | k+1,row,last,a=>match (List.range n).find? fun b=>A last b&&walkB A n (k+1) b a with
  | some b=>ringBack A n k (row++[b]) b a
  | none=>ringBack A n k row last a
def ringS (A:Nat→Nat→Bool) (n:Nat):Option (List Nat):=(List.range n).findSome? fun s=>(List.range n).findSome? fun a=>ringOn A n s [a] a a
def ringI (A:Nat→Nat→Bool) (n:Nat):Option (List Nat):=(List.range n).findSome? fun s=>(List.range n).findSome? fun a=>if walkB A n (s+1) a a then some (ringBack A n s [a] a a) else none
theorem findSome_first {α β:Type} {f g:α→Option β}:∀ {xs:List α},(∀ (i:Nat) (h:i < xs.length),(∀ j (hj:j < i),f (xs[j]'(by omega))=none)→(∀ j (hj:j < i),g (xs[j]'(by omega))=none)→f xs[i]=g xs[i])→xs.findSome? f=xs.findSome? g
 | [],_=>rfl
 | x::xs,h=>by
  have h0:=h 0 (by simp) (fun j hj=>by omega) (fun j hj=>by omega)
  simp only [List.getElem_cons_zero] at h0
  rw [List.findSome?_cons,List.findSome?_cons,h0]
  cases hg:g x with
  | some y=>rfl
  | none =>
   refine findSome_first fun i hi h1 h2=>?_
   have:=h (i+1) (by simp;omega) (fun j hj=>?_) (fun j hj=>?_)
   ·simpa using this
   ·cases j with
    | zero=>simpa using h0.trans hg
    | succ j=>simpa using h1 j (by omega)
   ·cases j with
    | zero=>simpa using hg
    | succ j=>simpa using h2 j (by omega)
theorem findSome_range {β:Type} {f g:Nat→Option β} {n:Nat} (h:∀ i,i < n→(∀ j,j < i→f j=none)→(∀ j,j < i→g j=none)→f i=g i):(List.range n).findSome? f=(List.range n).findSome? g :=
 findSome_first fun i hi h1 h2=>by
  simp only [List.getElem_range] at h1 h2 ⊢
  simp only [List.length_range] at hi
  exact h i hi h1 h2
theorem findSome_none {β:Type} {f:Nat→Option β} {n:Nat}:(List.range n).findSome? f=none↔∀ i,i < n→f i=none:=by
 rw [List.findSome?_eq_none_iff];simp
theorem on_walk {A:Nat→Nat→Bool} {n a:Nat} (ha:a < n):∀ (k:Nat) (row:List Nat) (last:Nat),(ringOn A n k row last a).isSome=true→walkB A n (k+1) last a=true:=by
 intro k
 induction k with
 | zero =>
  intro row last h
  rw [ringOn] at h
  split at h
  ·rename_i hA;exact walk_one ha hA
  ·cases h
 | succ k ih =>
  intro row last h
  rw [ringOn,List.findSome?_isSome_iff] at h
  obtain ⟨b,hb,h⟩:=h
  split at h
  ·rename_i hc
   simp only [Bool.and_eq_true] at hc
   exact walk_succ.2 ⟨b,by simpa using hb,hc.2.1,ih _ _ h⟩
  ·cases h
theorem on_back {A:Nat→Nat→Bool} {n a s:Nat} (ha:a < n) (hmin:∀ j x,1≤j→j < s→x < n→walkB A n j x x=false) (hless:∀ x,x < a→walkB A n s x x=false) :
  ∀ (k:Nat) (row:List Nat) (last:Nat),row.length+k=s→0 < row.length→last < n→walkB A n (row.length - 1) a last=true→(∀ x∈row,x < n∧∃ j,j+1≤row.length∧walkB A n j x last=true)→(∃ j,walkB A n j a last=true∧j+1=row.length)→a∈row →
   walkB A n (k+1) last a=true→ringOn A n k row last a=some (ringBack A n k row last a):=by
 intro k
 induction k with
 | zero =>
  intro row last _ _ _ _ _ _ _ hw
  obtain ⟨c,hc,hA,h0⟩:=walk_succ.1 hw
  have:c=a:=by simpa [walkB] using h0
  subst this
  rw [ringOn,ringBack,if_pos hA]
 | succ k ih =>
  intro row last hlen hpos hl hwa hrow hj har hw
  obtain ⟨c,hc,hA,hw2⟩:=walk_succ.1 hw
  have hfind:∃ b,(List.range n).find? (fun b=>A last b&&walkB A n (k+1) b a)=some b:=by
   cases hf:(List.range n).find? (fun b=>A last b&&walkB A n (k+1) b a) with
   | some b=>exact ⟨b,rfl⟩
   | none =>
    have:=List.find?_eq_none.1 hf c (List.mem_range.2 hc)
    simp only [Bool.and_eq_true,not_and] at this
    exact absurd hw2 (this hA)
  obtain ⟨b,hb⟩:=hfind
  have hbn:b < n:=List.mem_range.1 (List.mem_of_find?_eq_some hb)
  have key:∀ d,d < n→A last d=true→walkB A n (k+1) d a=true→a < d∧row.contains d=false:=by
   intro d hd hAd hwd
   have hnot:d∉row:=by
    intro hm
    obtain ⟨_,j,hj1,hj2⟩:=hrow d hm
    have h1:=walk_trans hj2 (walk_one hd hAd)
    have h2:=hmin (j+1) d (by omega) (by omega) hd
    rw [h2] at h1;cases h1
   refine ⟨?_,by simpa using hnot⟩
   have hne:d≠a:=fun e=>hnot (e▸har)
   rcases Nat.lt_or_ge d a with hlt | hge
   ·obtain ⟨j,hj1,hj2⟩:=hj
    have h1:=walk_trans hwd (walk_trans hj1 (walk_one hd hAd))
    rw [show k+1+(j+1)=s by omega] at h1
    rw [hless d hlt] at h1;cases h1
   ·omega
  have hb1:=List.find?_some hb
  simp only [Bool.and_eq_true] at hb1
  have hk:=key b hbn hb1.1 hb1.2
  have hrec:ringOn A n k (row++[b]) b a=some (ringBack A n k (row++[b]) b a):=by
   refine ih (row++[b]) b (by simp;omega) (by simp) hbn ?_ ?_ ?_ (by simp [har]) hb1.2
   ·have:=walk_trans hwa (walk_one hbn hb1.1)
    simp only [List.length_append,List.length_singleton]
    rw [show row.length+1 - 1=row.length - 1+1 by omega]
    exact this
   ·intro x hx
    rcases List.mem_append.1 hx with hx | hx
    ·obtain ⟨q1,j,q2,q3⟩:=hrow x hx
     exact ⟨q1,j+1,by simp;omega,walk_trans q3 (walk_one hbn hb1.1)⟩
    ·rw [List.mem_singleton.1 hx]
     exact ⟨hbn,0,by simp,by simp [walkB]⟩
   ·obtain ⟨j,q1,q2⟩:=hj
    exact ⟨j+1,walk_trans q1 (walk_one hbn hb1.1),by simp;omega⟩
  rw [ringOn,ringBack,hb]
  simp only
  rw [← hrec]
  have gen:∀ xs:List Nat,(∀ x∈xs,x < n)→xs.find? (fun b=>A last b&&walkB A n (k+1) b a)=some b →
    xs.findSome? (fun b=>if decide (a < b)&&(A last b&&!row.contains b) then ringOn A n k (row++[b]) b a else none)=ringOn A n k (row++[b]) b a:=by
   intro xs
   induction xs with
   | nil=>intro _ h;cases h
   | cons x xs ihx =>
    intro hx h
    rw [List.find?_cons] at h
    rw [List.findSome?_cons]
    cases hp:A last x&&walkB A n (k+1) x a
    ·rw [hp] at h
     have:(if decide (a < x)&&(A last x&&!row.contains x) then ringOn A n k (row++[x]) x a else none)=none:=by
      split
      ·rename_i hc
       simp only [Bool.and_eq_true] at hc
       cases hq:ringOn A n k (row++[x]) x a with
       | none=>rfl
       | some y =>
        have:=on_walk ha k (row++[x]) x (by rw [hq];rfl)
        rw [hc.2.1,this] at hp;cases hp
      ·rfl
     rw [this]
     exact ihx (fun y hy=>hx y (List.mem_cons_of_mem _ hy)) h
    ·rw [hp] at h
     have e:x=b:=by simpa using h
     subst e
     rw [if_pos (by simp only [Bool.and_eq_true,decide_eq_true_eq,Bool.not_eq_true'];exact ⟨hk.1,hb1.1,hk.2⟩),hrec]
  exact gen (List.range n) (fun x hx=>List.mem_range.1 hx) hb
theorem ring_same (A:Nat→Nat→Bool) (n:Nat):ringI A n=ringS A n:=by
 unfold ringI ringS
 refine findSome_range fun s hs h1 _=>?_
 have hmin:∀ j x,1≤j→j < s+1→x < n→walkB A n j x x=false:=by
  intro j x hj1 hj2 hx
  have:=findSome_none.1 (h1 (j - 1) (by omega)) x hx
  rw [show j - 1+1=j by omega] at this
  cases hw:walkB A n j x x
  ·rfl
  ·rw [hw] at this;cases this
 refine findSome_range fun a ha h3 _=>?_
 have hless:∀ x,x < a→walkB A n (s+1) x x=false:=by
  intro x hx
  have:=h3 x hx
  cases hw:walkB A n (s+1) x x
  ·rfl
  ·rw [hw] at this;cases this
 cases hw:walkB A n (s+1) a a
 ·rw [if_neg (by simp)]
  cases hq:ringOn A n s [a] a a with
  | none=>rfl
  | some y =>
   have:=on_walk ha s [a] a (by rw [hq];rfl)
   rw [hw] at this;cases this
 ·rw [if_pos rfl]
  exact (on_back ha hmin hless s [a] a (by simp;omega) (by simp) ha (by simp [walkB]) (fun x hx=>by
   rw [List.mem_singleton.1 hx]
   exact ⟨ha,0,by simp,by simp [walkB]⟩) ⟨0,by simp [walkB],by simp⟩ (by simp) hw).symm
end M
end
section
namespace M
def WordsN (A:Nat→Nat→Bool) (n:Nat) (N:Nat→Nat):Prop:=∀ a,a < n→∀ b,(N a).testBit b=(decide (b < n)&&A a b)
def orW (N:Nat→Nat) (S:Nat):Nat→Nat
 | 0=>0
 | m+1=>if S.testBit m then orW N S m ||| N m else orW N S m
def leadW (N:Nat→Nat) (n from_:Nat):Nat→Nat
 | 0=>1 <<< from_
 | k+1=>orW N (leadW N n from_ k) n
theorem orW_bit (N:Nat→Nat) (S b:Nat):∀ m,(orW N S m).testBit b=(List.range m).any fun i=>S.testBit i&&(N i).testBit b
 | 0=>by simp [orW]
 | m+1=>by
  rw [orW,List.range_succ,List.any_append,← orW_bit N S b m]
  cases h:S.testBit m
  ·simp [h]
  ·simp [h,Nat.testBit_or]
theorem orW_lt {N:Nat→Nat} {S n:Nat} (h:∀ i,i < n→N i < 4294967296):∀ m,m≤n→orW N S m < 4294967296
 | 0,_=>by simp [orW]
 | m+1,hm=>by
  have ih:=orW_lt (S:=S) h m (by omega)
  rw [orW]
  split
  ·exact Nat.or_lt_two_pow (n:=32) ih (h m (by omega))
  ·exact ih
theorem leadW_lt {N:Nat→Nat} {n a:Nat} (h:∀ i,i < n→N i < 4294967296) (ha:a < 32):∀ k,leadW N n a k < 4294967296
 | 0=>by
  rw [leadW,Nat.one_shiftLeft]
  show 2 ^ a < 2 ^ 32
  exact Nat.pow_lt_pow_right (by decide) ha
 | k+1=>orW_lt h n (Nat.le_refl _)
theorem leadW_bit {A:Nat→Nat→Bool} {n a:Nat} {N:Nat→Nat} (hN:WordsN A n N) (ha:a < n):∀ (k b:Nat),(leadW N n a k).testBit b=walkB A n k a b:=by
 intro k
 induction k with
 | zero=>intro b;rw [leadW,bit_one,walkB];exact Bool.eq_iff_iff.2 (by rw [beq_iff_eq,beq_iff_eq];exact eq_comm)
 | succ k ih =>
  intro b
  rw [leadW,orW_bit]
  by_cases hb:b < n
  ·rw [Bool.eq_iff_iff,walk_last hb,List.any_eq_true]
   constructor
   ·rintro ⟨i,hi,h⟩
    rw [List.mem_range] at hi
    rw [ih i,hN i hi b,decide_eq_true hb,Bool.true_and,Bool.and_eq_true] at h
    exact ⟨i,h.1,h.2⟩
   ·rintro ⟨c,h1,h2⟩
    have hc:=walk_lt ha h1
    refine ⟨c,List.mem_range.2 hc,?_⟩
    rw [ih c,hN c hc b,decide_eq_true hb,h1,h2];rfl
  ·have h1:walkB A n (k+1) a b=false:=by
    cases h:walkB A n (k+1) a b
    ·rfl
    ·exact absurd (walk_lt ha h) hb
   rw [h1,← Bool.not_eq_true,List.any_eq_true]
   rintro ⟨i,hi,h⟩
   rw [List.mem_range] at hi
   rw [hN i hi b,decide_eq_false hb] at h
   simp at h
end M
end
section
namespace M
def bitsW (A:Nat→Nat→Bool) (i:Nat):Nat→Nat
 | 0=>0
 | m+1=>if A i m then bitsW A i m ||| 1 <<< m else bitsW A i m
theorem bitsW_bit (A:Nat→Nat→Bool) (i j:Nat):∀ m,(bitsW A i m).testBit j=(decide (j < m)&&A i j)
 | 0=>by simp [bitsW]
 | m+1=>by
  rw [bitsW]
  by_cases h:A i m
  ·rw [if_pos h,Nat.testBit_or,bitsW_bit A i j m,bit_one]
   by_cases e:j=m
   ·subst e;simp [h]
   ·have e':(j==m)=false:=by rw [beq_eq_false_iff_ne];exact e
    rw [e',Bool.or_false]
    congr 1
    by_cases h2:j < m
    ·rw [decide_eq_true h2,decide_eq_true (by omega)]
    ·rw [decide_eq_false h2,decide_eq_false (by omega)]
  ·rw [if_neg h,bitsW_bit A i j m]
   by_cases e:j=m
   ·subst e;simp [h]
   ·congr 1
    by_cases h2:j < m
    ·rw [decide_eq_true h2,decide_eq_true (by omega)]
    ·rw [decide_eq_false h2,decide_eq_false (by omega)]
theorem bitsW_lt (A:Nat→Nat→Bool) (i:Nat):∀ m,m≤28→bitsW A i m < 4294967296
 | 0,_=>by simp [bitsW]
 | m+1,hm=>by
  have ih:=bitsW_lt A i m (by omega)
  rw [bitsW]
  split
  ·refine Nat.or_lt_two_pow (n:=32) ih ?_
   rw [Nat.one_shiftLeft]
   exact Nat.pow_lt_pow_right (by decide) (by omega)
  ·exact ih
theorem bitsW_words (A:Nat→Nat→Bool) (n:Nat):WordsN A n fun i=>bitsW A i n:=fun a _ b=>bitsW_bit A a b n
def fillW (A:Nat→Nat→Bool) (n a b:Nat):Nat→Nat:=fun i=>if i < a then bitsW A i n else if i=a then bitsW A i b else 0
theorem fill_row (A:Nat→Nat→Bool) (n a:Nat):fillW A n a n=fillW A n (a+1) 0:=funext fun i=>by
 unfold fillW
 by_cases h1:i < a
 ·rw [if_pos h1,if_pos (by omega)]
 ·by_cases h2:i=a
  ·rw [if_neg h1,if_pos h2,if_pos (by omega)]
  ·rw [if_neg h1,if_neg h2,if_neg (by omega)]
   split
   ·rfl
   ·rfl
theorem fill_no {A:Nat→Nat→Bool} {n a b:Nat} (h:A a b=false):fillW A n a (b+1)=fillW A n a b:=funext fun i=>by
 unfold fillW
 by_cases h1:i < a
 ·rw [if_pos h1,if_pos h1]
 ·by_cases h2:i=a
  ·subst h2;rw [if_neg h1,if_pos rfl,if_neg h1,if_pos rfl,bitsW,if_neg (by simp [h])]
  ·rw [if_neg h1,if_neg h2,if_neg h1,if_neg h2]
theorem fill_yes {A:Nat→Nat→Bool} {n a b:Nat} (h:A a b=true):fillW A n a (b+1)=fun i=>if i=a then bitsW A a b ||| 1 <<< b else fillW A n a b i:=funext fun i=>by
 unfold fillW
 by_cases h1:i < a
 ·rw [if_pos h1,if_neg (by omega),if_pos h1]
 ·by_cases h2:i=a
  ·subst h2;rw [if_neg h1,if_pos rfl,if_pos rfl,bitsW,if_pos h]
  ·rw [if_neg h1,if_neg h2,if_neg h2,if_neg h1,if_neg h2]
theorem fill_at (A:Nat→Nat→Bool) (n a b:Nat):fillW A n a b a=bitsW A a b:=by unfold fillW;rw [if_neg (Nat.lt_irrefl _),if_pos rfl]
theorem fill_zero (A:Nat→Nat→Bool) (n:Nat):fillW A n 0 0=fun _=>0:=funext fun i=>by
 unfold fillW
 rw [if_neg (Nat.not_lt_zero _)]
 split<;>rfl
theorem fill_all {A:Nat→Nat→Bool} {n i:Nat} (h:i < n):fillW A n n 0 i=bitsW A i n:=by unfold fillW;rw [if_pos h]
end M
end
section
open Go.RowKit
theorem one_shl {s:Nat} (h:s < 28):(2:Int) ^ s % (4294967296:Int)=((1 <<< s:Nat):Int):=by
 rw [Nat.one_shiftLeft]
 have h32:2 ^ s < 2 ^ 28:=Nat.pow_lt_pow_right (by decide) h
 have e:(2:Int) ^ s=((2 ^ s:Nat):Int):=by simp
 rw [e]
 generalize 2 ^ s=z at h32
 omega
theorem one_shl_lt {s:Nat} (h:s < 28):1 <<< s < 4294967296:=by
 rw [Nat.one_shiftLeft]
 have h32:2 ^ s < 2 ^ 28:=Nat.pow_lt_pow_right (by decide) h
 omega
theorem Tryz.infoU32:(Tryz.prog.info? 115).map (fun i=>(i.zero,i.size,i.bytes))=some (some (.int .u32 0),1,4):=by kernel_rfl
structure LkS (w:World) (va:Option Addr) (g:Nat) (N:Nat→Nat) (n:Nat):Prop where
 addr:0 < n→va=some ⟨g,0,none⟩
 row:∀ i,i < n→w.cell? ⟨g,i,none⟩=some (.int .u32 (N i))
 lt:∀ i,i < n→N i < 4294967296
theorem LkS.below {w w':World} {va:Option Addr} {g n:Nat} {N:Nat→Nat} (h:LkS w va g N n) (hb:Below w.heap.size w w'):LkS w' va g N n :=
 ⟨h.addr,fun i hi=>(hb.cell (p:=⟨g,i,none⟩) (World.block_lt_of_cell? _ _ (h.row i hi))).trans (h.row i hi),h.lt⟩
structure LkO (w:World) (b:Nat) (N:Nat→Nat) (n:Nat):Prop where
 c:∀ i,i < n→w.cell? ⟨b,i,none⟩=some (.int .u32 (N i))
 fz:∀ i,w.frozen? ⟨b,i,none⟩=false
 l:b < w.heap.size
theorem LkO.below {w w':World} {b n:Nat} {N:Nat→Nat} (h:LkO w b N n) (hb:Below w.heap.size w w'):LkO w' b N n :=
 ⟨fun i hi=>(hb.cell (p:=⟨b,i,none⟩) h.l).trans (h.c i hi),fun i=>(hb.frozen (p:=⟨b,i,none⟩) h.l).trans (h.fz i),Nat.lt_of_lt_of_le h.l hb.size⟩
theorem LkO.set {w:World} {b i n v:Nat} {N:Nat→Nat} (h:LkO w b N n) (hi:i < n) (_hv:v < 4294967296):LkO (w.setCell ⟨b,i,none⟩ (.int .u32 v)) b (fun k=>if k=i then v else N k) n:=by
 refine ⟨fun j hj=>?_,fun j=>by rw [World.frozen?_setCell];exact h.fz j,by rw [World.size_setCell];exact h.l⟩
 by_cases e:j=i
 ·subst e;rw [if_pos rfl];exact World.cell?_setCell_same _ _ _ (h.c j hj)
 ·rw [if_neg e,World.cell?_setCell_other _ _ _ _ (fun e'=>e (congrArg Addr.off e').symm)];exact h.c j hj
theorem LkO.drewN' {w:World} {b n:Nat} {N:Nat→Nat} (h:LkO w b N n) (q:Nat):LkO (w.drewN q) b N n:=⟨fun i hi=>h.c i hi,fun i=>h.fz i,h.l⟩
theorem grown_set' {w w':World} {b i:Nat} (h:w.grownBy w' (some b)) (v:Value):w.grownBy (w'.setCell ⟨b,i,none⟩ v) (some b) :=
 ⟨h.os,h.tape,h.output,by rw [World.size_setCell];exact h.size,fun q hq hn=>(Below.heap_setCell _ _ _ _ (fun e=>hn (by rw [e]))).trans (h.block q hq hn)⟩
theorem LkO.made (w:World) (t:TypeId) (n:Nat):LkO (w.alloc (.cells (madeCells #[.int .u32 0] n) t)) w.heap.size (fun _=>0) n:=by
 refine ⟨fun i hi=>?_,fun i=>by simp,by simp⟩
 have e:=heap_alloc_new w (.cells (madeCells #[.int .u32 0] n) t)
 unfold World.cell?
 rw [e]
 simp [madeCells,hi,Nat.mod_one]
theorem run_make_u32 {P:Program} (t e:TypeId) (ht:P.underlying t=some (.slice e)) (hinfo:(P.info? e).map (fun i=>(i.zero,i.size,i.bytes))=some (some (.int .u32 0),1,4)) (n:Nat) (h1:n≤1048576) (w:World) :
  (Instr.makeSlice t (.int .i64 (n:Int)) (.int .i64 (n:Int))).run P w=.ok (.slice (some ⟨w.heap.size,0,none⟩) n n) (w.alloc (.cells (madeCells #[.int .u32 0] n) e)) :=
 by simpa [Value.cells] using run_make_rows t e (.int .u32 0) 1 4 ht hinfo n (by omega) (by omega) w
set_option maxHeartbeats 4000000 in
set_option maxRecDepth 100000 in
theorem links_of (k:Nat) (f0 f1 f2:FuncId)
  (hR:∀ w,Calls Tryz.prog 73 #[.int .i64 k] w fun e w'=>e=.returned (.agg #[.func (.func f0) #[] #[],.func (.func f1) #[] #[],.func (.func f2) #[] #[]])∧Below w.heap.size w w')
  (hM:∀ (t:Wx) (a b:Nat) (x y:M.De) (w:World),t.Ok→t.At w→t.ds[a]?=some x→t.ds[b]?=some y→Calls Tryz.prog 72 #[.agg #[.slice (some ⟨t.g,0,none⟩) t.ds.length t.c,.slice (some ⟨t.fb,t.fo,none⟩) t.l.length t.fc,.slice (some ⟨t.rb,t.ro,none⟩) t.rows.length t.rc],.agg #[.func (.func f0) #[] #[],.func (.func f1) #[] #[],.func (.func f2) #[] #[]],.int .i64 (a:Int),.int .i64 (b:Int)] w fun e w'=>e=.returned (.bool (M.must t.ds t.l t.rows k a b x y))∧Below w.heap.size w w')
  (va:Option Addr) (g c:Nat) (ds:List M.De) (fa:Option Addr) (fb fo fc:Nat) (l:List Int) (ra:Option Addr) (rb ro rc:Nat) (rows:List (List Int)) (w:World) (h:Wy w va g c ds fa fb fo fc l ra rb ro rc rows) :
  Calls Tryz.prog 60 #[.agg #[.slice va ds.length c,.slice fa l.length fc,.slice ra rows.length rc],.int .i64 k] w fun e w'=>∃ q,e=.returned (.slice (some ⟨q,0,none⟩) ds.length ds.length)∧LkS w' (some ⟨q,0,none⟩) q (fun i=>M.bitsW (M.mustAt ds l rows k) i ds.length) ds.length∧w.heap.size≤q∧Below w.heap.size w w':=by
 have hdl:=h.dl
 have hmk:=run_make_u32 (P:=Tryz.prog) 88 115 Tryz.underlying88 Tryz.infoU32 ds.length (by omega)
 go_enter Tryz.func60,Tryz.ntmps60
 go_wp2_with fail
 have b2:=below2 w (.cells #[.slice va ds.length c,.slice fa l.length fc,.slice ra rows.length rc] 93) (.cells (madeCells #[.int .u32 0] ds.length) 115)
 have BS:LkO ((w.alloc (.cells #[.slice va ds.length c,.slice fa l.length fc,.slice ra rows.length rc] 93)).alloc (.cells (madeCells #[.int .u32 0] ds.length) 115)) (w.heap.size+1) (M.fillW (M.mustAt ds l rows k) ds.length 0 0) ds.length:=by
  rw [M.fill_zero]
  have:=LkO.made (w.alloc (.cells #[.slice va ds.length c,.slice fa l.length fc,.slice ra rows.length rc] 93)) 115 ds.length
  rwa [World.size_alloc] at this
 have k0:((w.alloc (.cells #[.slice va ds.length c,.slice fa l.length fc,.slice ra rows.length rc] 93)).alloc (.cells (madeCells #[.int .u32 0] ds.length) 115)).cell? ⟨w.heap.size,0,none⟩=some (.slice va ds.length c):=by simp
 have k1:((w.alloc (.cells #[.slice va ds.length c,.slice fa l.length fc,.slice ra rows.length rc] 93)).alloc (.cells (madeCells #[.int .u32 0] ds.length) 115)).cell? ⟨w.heap.size,1,none⟩=some (.slice fa l.length fc):=by simp
 have k2:((w.alloc (.cells #[.slice va ds.length c,.slice fa l.length fc,.slice ra rows.length rc] 93)).alloc (.cells (madeCells #[.int .u32 0] ds.length) 115)).cell? ⟨w.heap.size,2,none⟩=some (.slice ra rows.length rc):=by simp
 have sz:((w.alloc (.cells #[.slice va ds.length c,.slice fa l.length fc,.slice ra rows.length rc] 93)).alloc (.cells (madeCells #[.int .u32 0] ds.length) 115)).heap.size=w.heap.size+2:=by simp
 generalize (w.alloc (.cells #[.slice va ds.length c,.slice fa l.length fc,.slice ra rows.length rc] 93)).alloc (.cells (madeCells #[.int .u32 0] ds.length) 115)=W at *
 refine (hR W).mono ?_
 rintro e W1 ⟨rfl,b1⟩
 have bR:=below1 W1 (.cells #[.func (.func f0) #[] #[],.func (.func f1) #[] #[],.func (.func f2) #[] #[]] 110)
 have b1R:=b1.trans (bR.mono b1.size)
 have bwR:=b2.trans (b1R.mono b2.size)
 have BS1:=BS.below b1R
 have lS:w.heap.size+1 < W.heap.size:=by omega
 have lK:w.heap.size < W.heap.size:=World.block_lt_of_cell? _ _ k0
 have y0:=(b1R.cell (p:=⟨w.heap.size,0,none⟩) lK).trans k0
 have y1:=(b1R.cell (p:=⟨w.heap.size,1,none⟩) lK).trans k1
 have y2:=(b1R.cell (p:=⟨w.heap.size,2,none⟩) lK).trans k2
 have r0:(W1.alloc (.cells #[.func (.func f0) #[] #[],.func (.func f1) #[] #[],.func (.func f2) #[] #[]] 110)).cell? ⟨W1.heap.size,0,none⟩=some (.func (.func f0) #[] #[]):=by simp
 have r1:(W1.alloc (.cells #[.func (.func f0) #[] #[],.func (.func f1) #[] #[],.func (.func f2) #[] #[]] 110)).cell? ⟨W1.heap.size,1,none⟩=some (.func (.func f1) #[] #[]):=by simp
 have r2:(W1.alloc (.cells #[.func (.func f0) #[] #[],.func (.func f1) #[] #[],.func (.func f2) #[] #[]] 110)).cell? ⟨W1.heap.size,2,none⟩=some (.func (.func f2) #[] #[]):=by simp
 clear BS k0 k1 k2
 go_wp2_with fail
 generalize W1.alloc (.cells #[.func (.func f0) #[] #[],.func (.func f1) #[] #[],.func (.func f2) #[] #[]] 110)=W2 at *
 obtain ⟨P,hP⟩:∃ P,W1.heap.size=P:=⟨_,rfl⟩
 rw [hP] at r0 r1 r2 ⊢
 have hPW:W.heap.size≤P:=by rw [← hP];exact b1.size
 have hWs:w.heap.size+1 < W.heap.size:=lS
 clear hP bR b1R b1
 go_loopw [17] (fun s17 wr=>∃ n:Nat,s17=.int .i64 n∧n≤ds.length∧LkO wr (w.heap.size+1) (M.fillW (M.mustAt ds l rows k) ds.length n 0) ds.length∧W2.grownBy wr (some (w.heap.size+1))) (fun s17 _=>ds.length - (intOf s17).toNat)
 case atStart=>exact ⟨0,rfl,Nat.zero_le _,BS1,grownBy_rfl _ _⟩
 case round =>
  obtain ⟨n,rfl,hn,hB,hg⟩:=hrel
  by_cases hlt:n < ds.length
  ·have i1:(n:Int) < ds.length:=by omega
   go_wp2_with fail
   go_loopw [22] (fun s22 wi=>∃ m:Nat,s22=.int .i64 m∧m≤ds.length∧LkO wi (w.heap.size+1) (M.fillW (M.mustAt ds l rows k) ds.length n m) ds.length∧W2.grownBy wi (some (w.heap.size+1))) (fun s22 _=>ds.length - (intOf s22).toNat)
   case atStart=>exact ⟨0,rfl,Nat.zero_le _,hB,hg⟩
   case round =>
    obtain ⟨m,rfl,hm,hBi,hgi⟩:=hrel
    have z0:=hgi.cell y0 (fun e=>by have:w.heap.size=w.heap.size+1:=Option.some.inj e;omega)
    have z1:=hgi.cell y1 (fun e=>by have:w.heap.size=w.heap.size+1:=Option.some.inj e;omega)
    have z2:=hgi.cell y2 (fun e=>by have:w.heap.size=w.heap.size+1:=Option.some.inj e;omega)
    have q0:=hgi.cell r0 (fun e=>by have:P=w.heap.size+1:=Option.some.inj e;omega)
    have q1:=hgi.cell r1 (fun e=>by have:P=w.heap.size+1:=Option.some.inj e;omega)
    have q2:=hgi.cell r2 (fun e=>by have:P=w.heap.size+1:=Option.some.inj e;omega)
    by_cases hmt:m < ds.length
    ·have bwi:Below w.heap.size w wr:=below_grown bwR hgi (fun j hj=>by have:w.heap.size+1=j:=Option.some.inj hj;omega) bwR.size
     have hWr:=h.below bwi (Nat.le_refl _)
     obtain ⟨rfl⟩:=hWr.d.addr (by omega)
     obtain ⟨rfl⟩:=hWr.f.addr (by have:=h.len.out;omega)
     obtain ⟨rfl⟩:=hWr.r.addr (by have:=h.three.out;omega)
     have j1:(m:Int) < ds.length:=by omega
     have hmu:=M.mustAt_of (l:=l) (rows:=rows) (k:=k) (List.getElem?_eq_getElem hlt) (List.getElem?_eq_getElem hmt)
     have C1:=hM ⟨g,c,ds,fb,fo,fc,l,rb,ro,rc,rows⟩ n m ds[n] ds[m] wr ⟨show ds.length≤1048576 from by omega,h.len,h.three,h.rl,h.run,h.pl⟩ ⟨hWr.d,hWr.f,hWr.r⟩ (List.getElem?_eq_getElem hlt) (List.getElem?_eq_getElem hmt)
     simp only at C1
     rw [← hmu] at C1
     have hn28:n < 28:=by have:=h.dl;omega
     have hm28:m < 28:=by have:=h.dl;omega
     clear hmu
     cases hA:M.mustAt ds l rows k n m
     ·rw [hA] at C1
      have HQ2:Hid (M.fillW (M.mustAt ds l rows k) ds.length n (m+1)=M.fillW (M.mustAt ds l rows k) ds.length n m):=M.fill_no hA
      clear hA
      go_wp2_with fail
      refine C1.mono ?_
      rintro e W3 ⟨rfl,c3⟩
      clear z0 z1 z2 q0 q1 q2
      go_wp2_with fail
      exact ⟨⟨m+1,by go_num,by omega,by rw [HQ2.out];exact hBi.below c3,grown_then' hgi c3⟩,by simp [intOf];omega⟩
     ·rw [hA] at C1
      have HQ2:Hid (M.fillW (M.mustAt ds l rows k) ds.length n (m+1)=fun i=>if i=n then M.bitsW (M.mustAt ds l rows k) n m ||| 1 <<< m else M.fillW (M.mustAt ds l rows k) ds.length n m i):=M.fill_yes hA
      have hbl:=M.bitsW_lt (M.mustAt ds l rows k) n m (by omega)
      have hcc:=M.fill_at (M.mustAt ds l rows k) ds.length n m
      clear hA
      go_wp2_with fail
      refine C1.mono ?_
      rintro e W3 ⟨rfl,c3⟩
      have hB3:=hBi.below c3
      have ck:=hB3.c n hlt
      have cf:=hB3.fz n
      have hpw:=one_shl hm28
      have hsl:=one_shl_lt hm28
      have e6:=bits_or32 (M.bitsW (M.mustAt ds l rows k) n m) (1 <<< m) hbl hsl
      rw [hcc] at ck
      have hS2:=hB3.set hlt (v:=M.bitsW (M.mustAt ds l rows k) n m ||| 1 <<< m) (Nat.or_lt_two_pow (n:=32) (by omega) (by omega))
      rw [← HQ2.out] at hS2
      have hg3:=grown_then' hgi c3
      clear z0 z1 z2 q0 q1 q2 hcc HQ2 hBi C1 hB3 hWr
      generalize M.bitsW (M.mustAt ds l rows k) n m=Bw at *
      obtain ⟨V,hV⟩:∃ V,Bw ||| 1 <<< m=V:=⟨_,rfl⟩
      rw [hV] at e6 hS2
      have e7:bits .or .u32 (Bw:Int) ((1:Int) <<< m)=(V:Int):=by rw [← e6];congr 1
      have hg4:=grown_set' (i:=n) hg3 (.int .u32 (V:Int))
      clear hV e6
      go_wp2_with fail
      go_region
      all_goals
       go_wp2_with fail
       go_roundw
       case rel =>
        exact ⟨m+1,by go_num,by omega,hS2.drewN' 1,hg4.os,hg4.tape,hg4.output,hg4.size,hg4.block⟩
       case measure=>(simp [intOf];omega)
    ·obtain rfl:m=ds.length:=by omega
     have j1:¬ ((ds.length:Nat):Int) < ds.length:=by omega
     go_wp2_with fail
     exact ⟨⟨n+1,by go_num,by omega,by rw [← M.fill_row];exact hBi,hgi⟩,by simp [intOf];omega⟩
  ·obtain rfl:n=ds.length:=by omega
   have j1:¬ ((ds.length:Nat):Int) < ds.length:=by omega
   have bwr:Below w.heap.size w wr:=below_grown bwR hg (fun j hj=>by have:w.heap.size+1=j:=Option.some.inj hj;omega) bwR.size
   go_wp2_with fail
   go_ret
   exact ⟨_,rfl,⟨fun _=>rfl,fun i hi=>by have:=hB.c i hi;rwa [M.fill_all hi] at this,fun i _=>M.bitsW_lt _ _ _ h.dl⟩,by omega,bwr⟩
end
section
namespace M
def Chain (A:Nat→Nat→Bool):List Nat→Prop
 | []=>True
 | [_]=>True
 | a::b::r=>A a b=true∧Chain A (b::r)
theorem chain_snoc {A:Nat→Nat→Bool} {b:Nat}:∀ {r:List Nat} {l:Nat},r.getLast?=some l→Chain A r→A l b=true→Chain A (r++[b])
 | [],_,h,_,_=>by cases h
 | [x],l,h,_,hA=>by
  have:x=l:=by simpa using h
  subst this
  exact ⟨hA,trivial⟩
 | x::y::r,l,h,hc,hA=>⟨hc.1,chain_snoc (r:=y::r) (by simpa using h) hc.2 hA⟩
structure Ring (A:Nat→Nat→Bool) (n:Nat) (r:List Nat):Prop where
 chain:Chain A r
 len:0 < r.length∧r.length≤n
 lt:∀ x∈r,x < n
 back:∃ l a,r.getLast?=some l∧r.head?=some a∧A l a=true
theorem on_ring {A:Nat→Nat→Bool} {n a:Nat}:∀ (k:Nat) (row:List Nat) (last:Nat) (r:List Nat),row.getLast?=some last→row.head?=some a→Chain A row→(∀ x∈row,x < n)→row.length+k≤n→ringOn A n k row last a=some r→Ring A n r∧r.length=row.length+k:=by
 intro k
 induction k with
 | zero =>
  intro row last r h1 h2 h3 h4 h5 h
  rw [ringOn] at h
  split at h
  ·rename_i hA
   obtain rfl:=Option.some.inj h
   exact ⟨⟨h3,⟨by cases row with | nil=>cases h1 | cons _ _=>simp,by omega⟩,h4,last,a,h1,h2,hA⟩,rfl⟩
  ·cases h
 | succ k ih =>
  intro row last r h1 h2 h3 h4 h5 h
  rw [ringOn] at h
  obtain ⟨b,hb,h⟩:=List.exists_of_findSome?_eq_some h
  split at h
  ·rename_i hc
   simp only [Bool.and_eq_true] at hc
   obtain ⟨q1,q2⟩:=ih (row++[b]) b r (by simp) (by cases row with | nil=>cases h1 | cons _ _=>simpa using h2) (chain_snoc h1 h3 hc.2.1) (fun x hx=>by
    rcases List.mem_append.1 hx with hx | hx
    ·exact h4 x hx
    ·rw [List.mem_singleton.1 hx];exact List.mem_range.1 hb) (by simp;omega) h
   exact ⟨q1,by rw [q2];simp;omega⟩
  ·cases h
theorem ringS_ring {A:Nat→Nat→Bool} {n:Nat} {r:List Nat} (h:ringS A n=some r):Ring A n r:=by
 unfold ringS at h
 obtain ⟨s,hs,h⟩:=List.exists_of_findSome?_eq_some h
 obtain ⟨a,ha,h⟩:=List.exists_of_findSome?_eq_some h
 rw [List.mem_range] at hs ha
 exact (on_ring s [a] a r (by simp) (by simp) trivial (fun x hx=>by rw [List.mem_singleton.1 hx];exact ha) (by simp;omega) h).1
end M
end
section
open Go.RowKit
set_option maxHeartbeats 2000000 in
set_option maxRecDepth 100000 in
theorem leadsTo_any (va:Option Addr) (g c:Nat) (N:Nat→Nat) (n a k:Nat) (w:World) (hn:n≤28) (ha:a < n) (hk:k≤28) (h:LkS w va g N n) :
  Calls Tryz.prog 109 #[.slice va n c,.int .i64 (a:Int),.int .i64 (k:Int)] w fun e w'=>e=.returned (.int .u32 (M.leadW N n a k))∧w'=w:=by
 have hpw:=one_shl (s:=a) (by omega)
 have i0:¬ (a:Int) < 0:=by omega
 go_enter Tryz.func109,Tryz.ntmps109
 go_wp2_with fail
 go_loopw [7,14] (fun s7 s14 wr=>∃ m:Nat,s14=.int .i64 m∧m≤k∧s7=.int .u32 (M.leadW N n a m)∧w=wr) (fun _ s14 _=>k - (intOf s14).toNat)
 case atStart=>exact ⟨0,rfl,Nat.zero_le _,by first | rfl | (rw [hpw];rfl),rfl⟩
 case round =>
  obtain ⟨m,rfl,hm,rfl,rfl⟩:=hrel
  by_cases hlt:m < k
  ·have i1:(m:Int) < k:=by omega
   have hS:=M.leadW_lt h.lt (show a < 32 by omega) m
   have HE:Hid (M.leadW N n a (m+1)=M.orW N (M.leadW N n a m) n):=rfl
   generalize M.leadW N n a m=S at *
   go_wp2_with fail
   go_loopw [8,18] (fun s8 s18 wi=>∃ i:Nat,s18=.int .i64 i∧i≤n∧s8=.int .u32 (M.orW N S i)∧w=wi) (fun _ s18 _=>n - (intOf s18).toNat)
   case atStart=>exact ⟨0,rfl,Nat.zero_le _,rfl,rfl⟩
   case round =>
    obtain ⟨i,rfl,hi,rfl,rfl⟩:=hrel
    by_cases hit:i < n
    ·have j1:(i:Int) < n:=by omega
     have j0:¬ (i:Int) < 0:=by omega
     obtain ⟨rfl⟩:=h.addr (by omega)
     have hc:=h.row i hit
     have hlN:=h.lt i hit
     have hor:=M.orW_lt (S:=S) h.lt i (by omega)
     have CH:=fun W=>has_any S i W hS (by omega)
     cases ht:S.testBit i
     ·rw [ht] at CH
      have HO:Hid (M.orW N S (i+1)=M.orW N S i):=by show _=_;rw [M.orW,if_neg (by rw [ht];simp)]
      clear ht
      go_wp2_with fail
      refine (CH _).mono ?_
      rintro e w' ⟨rfl,rfl⟩
      go_wp2_with fail
      exact ⟨⟨i+1,by go_num,by omega,by rw [HO.out],trivial⟩,by simp [intOf];omega⟩
     ·rw [ht] at CH
      have HO:Hid (M.orW N S (i+1)=M.orW N S i ||| N i):=by show _=_;rw [M.orW,if_pos ht]
      have e6:=bits_or32 (M.orW N S i) (N i) hor hlN
      clear ht
      generalize M.orW N S i=O at *
      go_wp2_with fail
      refine (CH _).mono ?_
      rintro e w' ⟨rfl,rfl⟩
      go_wp2_with fail
      exact ⟨⟨i+1,by go_num,by omega,by rw [HO.out],trivial⟩,by simp [intOf];omega⟩
    ·obtain rfl:i=n:=by omega
     go_wp2_with fail
     exact ⟨⟨m+1,by go_num,by omega,by rw [HE.out],trivial⟩,by simp [intOf];omega⟩
  ·obtain rfl:m=k:=by omega
   go_wp2_with fail
   go_ret
   exact ⟨rfl,rfl⟩
theorem own_low {w:World} {B B':Nat} {e:TypeId} {size:Nat} {v:Value} {n:Nat} {xs:List Value} (h:w.ownsRow B e size v n xs) (hB:B'≤B):w.ownsRow B' e size v n xs:=by
 obtain ⟨h1,h2⟩:=h
 refine ⟨h1,?_⟩
 rcases h2 with h2 | ⟨g,cap,cur,hv,hg,r⟩
 ·exact Or.inl h2
 ·exact Or.inr ⟨g,cap,cur,hv,Nat.le_trans hB hg,r⟩
theorem cellJ {W W':World} {p:Addr} {v:Value} {B:Nat} (hb:Below B W W') (h:W.cell? p=some v) (hB:W.heap.size≤B:=by exact Nat.le_refl _):W'.cell? p=some v:=(hb.cell (p:=p) (Nat.lt_of_lt_of_le (World.block_lt_of_cell? _ _ h) hB)).trans h
def M.ints (r:List Nat):List Int:=r.map fun (x:Nat)=>(x:Int)
theorem M.ints_len (r:List Nat):(M.ints r).length=r.length:=by simp [M.ints]
theorem M.ints_snoc (r:List Nat) (x:Nat):M.ints (r++[x])=M.ints r++[(x:Int)]:=by simp [M.ints]
theorem M.ints_get (r:List Nat) (i:Nat) (h:i < r.length):(M.ints r)[i]?=some (r[i]:Int):=by simp [M.ints,h]
abbrev OwnI (w:World) (B:Nat) (v:Value) (r:List Nat):Prop:=w.ownsRow B 3 1 v r.length (nums (M.ints r))
theorem ownI_last {w:World} {B:Nat} {v:Value} {r:List Nat} {l:Nat} (h:OwnI w B v r) (hl:r.getLast?=some l):∃ b c,v=.slice (some ⟨b,0,none⟩) r.length c∧w.cell? ⟨b,r.length - 1,none⟩=some (.int .i64 l)∧b < w.heap.size:=by
 have hne:0 < r.length:=by cases r with | nil=>cases hl | cons _ _=>simp
 rcases h.2 with ⟨hv,hn⟩ | ⟨g,cap,cur,hv,hg,hh,hx⟩
 ·omega
 ·refine ⟨g,cap,hv,?_,?_⟩
  ·have e:(nums (M.ints r))[r.length - 1]?=some (.int .i64 l):=by
    rw [List.getLast?_eq_getElem?] at hl
    have:=M.ints_get r (r.length - 1) (by omega)
    rw [List.getElem?_eq_getElem (by omega)] at hl
    rw [Option.some.inj hl] at this
    simp [nums,this]
   have:=h.cells (g:=g) (by rw [hv];rfl) (r.length - 1) (.int .i64 l) e
   rwa [Go.WideShapes.add_plain,Nat.zero_add] at this
  ·exact (Array.getElem?_eq_some_iff.1 hh).1
theorem own_int1 {w:World} {B:Nat} {a:Nat} (hB:B≤w.heap.size):OwnI (w.alloc (.cells #[.int .i64 (a:Int)] 3)) B (.slice (some ⟨w.heap.size,0,none⟩) 1 1) [a] :=
 ⟨rfl,.inr ⟨_,1,_,rfl,hB,heap_alloc_new w _,Nat.le_refl _,by unfold maxLen;omega,rfl,rfl⟩⟩
theorem M.find_step {p:Nat→Bool} {i:Nat} (h:∀ j,j < i→p j=false) (hp:p i=false):∀ j,j < i+1→p j=false:=fun j hj=>by
 by_cases e:j=i
 ·rw [e];exact hp
 ·exact h j (by omega)
theorem M.find_hit {p:Nat→Bool} {i n:Nat} (h:∀ j,j < i→p j=false) (hi:i < n) (hp:p i=true):(List.range n).find? p=some i:=by
 rw [List.find?_eq_some_iff_getElem]
 refine ⟨hp,i,by simpa using hi,by simp,fun j hj=>?_⟩
 simp only [List.getElem_range]
 rw [h j hj];rfl
theorem M.find_miss {p:Nat→Bool} {n:Nat} (h:∀ j,j < n→p j=false):(List.range n).find? p=none:=by
 rw [List.find?_eq_none]
 intro x hx
 rw [h x (List.mem_range.1 hx)];simp
theorem M.some_hit {β:Type} {f:Nat→Option β} {i n:Nat} {r:β} (h:∀ j,j < i→f j=none) (hi:i < n) (hf:f i=some r):(List.range n).findSome? f=some r:=by
 induction n with
 | zero=>omega
 | succ n ih =>
  rw [List.range_succ,List.findSome?_append]
  by_cases e:i=n
  ·subst e
   rw [M.findSome_none.2 h]
   simp [hf]
  ·rw [ih (by omega)];rfl
set_option maxHeartbeats 4000000 in
set_option maxRecDepth 100000 in
theorem rowBack_any (va:Option Addr) (g c:Nat) (A:Nat→Nat→Bool) (N:Nat→Nat) (n a s:Nat) (w:World) (hn:n≤28) (ha:a < n) (hs:s < n) (hW:M.WordsN A n N) (h:LkS w va g N n) :
  Calls Tryz.prog 111 #[.slice va n c,.int .i64 (a:Int),.int .i64 ((s:Int)+1)] w fun e w'=>∃ v,e=.returned v∧OwnI w' w.heap.size v (M.ringBack A n s [a] a a)∧Below w.heap.size w w':=by
 obtain ⟨i0,hi,hz0,hz1,hz2⟩:=info_parts Tryz.infoInt
 obtain ⟨rfl⟩:=h.addr (by omega)
 have ws:IntKind.i64.wrap ((s:Int)+1 - 1)=s:=by rw [IntKind.wrap_i64];omega
 have O0:=own_int1 (w:=w) (B:=w.heap.size) (a:=a) (Nat.le_refl _)
 have b0:=below1 w (.cells #[.int .i64 (a:Int)] 3)
 have hbit:∀ l,l < n→∀ b,b < n→(N l).testBit b=A l b:=fun l hl b hb=>by rw [hW l hl b,decide_eq_true hb,Bool.true_and]
 go_enter Tryz.func111,Tryz.ntmps111
 go_wp2_with fail
 go_step3
 go_wp2_with fail
 go_step3
 go_wp2_with fail
 go_loopw [7,8] (fun s7 s8 wr=>∃ (k last:Nat) (row:List Nat) (v:Value),v=s7∧s8=.int .i64 k∧row.length+k≤s+1∧k≤s∧last < n∧Hid (row.getLast?=some last)∧OwnI wr w.heap.size v row∧Hid (M.ringBack A n s [a] a a=M.ringBack A n k row last a)∧Below w.heap.size w wr) (fun _ s8 _=>(intOf s8).toNat)
 case atStart=>exact ⟨s,a,[a],_,rfl,by first | rfl | (rw [ws]),by simp;omega,Nat.le_refl _,ha,rfl,O0,rfl,b0⟩
 case round =>
  obtain ⟨k,last,row,v,hv7,rfl,hrl,hks,hla,HL,hO,HB,hb⟩:=hrel
  subst hv7
  clear O0 b0
  cases k with
  | zero =>
   go_wp2_with fail
   (try rw [Exit.noGoto_ret])
   go_ret
   exact ⟨_,rfl,by rw [HB.out];exact hO,hb⟩
  | succ k =>
   have i1:((k+1:Nat):Int) > 0:=by omega
   have i1':(0:Int) < ((k+1:Nat):Int):=by omega
   obtain ⟨rb,rc,rfl,hlc,hrb⟩:=ownI_last hO HL.out
   have hrp:0 < row.length:=by cases row with | nil=>cases HL.out | cons _ _=>simp
   have wl:IntKind.i64.wrap ((row.length:Int) - 1)=((row.length - 1:Nat):Int):=by rw [IntKind.wrap_i64];omega
   have wi0:¬ (((row.length - 1:Nat):Int) < 0):=by omega
   have wi1:((row.length - 1:Nat):Int) < (row.length:Int):=by omega
   have hnl:=h.row last hla
   have hnlt:=h.lt last hla
   have li0:¬ (last:Int) < 0:=by omega
   have li1:(last:Int) < n:=by omega
   go_wp2_with fail
   go_loopw [7,27] (fun s7 s27 wi=>∃ i:Nat,s27=.int .i64 i∧s7=.slice (some ⟨rb,0,none⟩) row.length rc∧i≤n∧Hid (∀ j,j < i→(A last j&&M.walkB A n (k+1) j a)=false)∧wr=wi) (fun _ s27 _=>n - (intOf s27).toNat)
   case atStart=>exact ⟨0,rfl,rfl,Nat.zero_le _,fun j hj=>absurd hj (Nat.not_lt_zero _),rfl⟩
   case round =>
    obtain ⟨i,rfl,rfl,hin,HN,rfl⟩:=hrel
    by_cases hit:i < n
    ·have j1:(i:Int) < n:=by omega
     have hcl:=cellJ hb hnl
     have CH:=fun W=>has_any (N last) i W hnlt (by omega)
     have CL:=leadsTo_any (some ⟨g,0,none⟩) g c N n i (k+1) wr hn hit (by omega) (h.below hb)
     have CH2:=fun W=>has_any (M.leadW N n i (k+1)) a W (M.leadW_lt h.lt (by omega) _) (by omega)
     rw [M.leadW_bit hW hit] at CH2
     rw [hbit last hla i hit] at CH
     generalize M.leadW N n i (k+1)=S at *
     have HP:Hid (∀ q1 q2,A last i=q1→M.walkB A n (k+1) i a=q2→(A last i&&M.walkB A n (k+1) i a)=(q1&&q2)):=fun q1 q2 h1 h2=>by rw [h1,h2]
     have HF:Hid ((A last i&&M.walkB A n (k+1) i a)=false→∀ j,j < i+1→(A last j&&M.walkB A n (k+1) j a)=false):=fun hp=>M.find_step (p:=fun j=>A last j&&M.walkB A n (k+1) j a) HN.out hp
     have HH:Hid ((A last i&&M.walkB A n (k+1) i a)=true→M.ringBack A n (k+1) row last a=M.ringBack A n k (row++[i]) i a):=fun hp=>by
      rw [M.ringBack,M.find_hit (p:=fun j=>A last j&&M.walkB A n (k+1) j a) HN.out hit hp]
     cases hq1:A last i
     ·rw [hq1] at CH
      have HX:=HF.out (by rw [hq1];rfl)
      have HX2:Hid (∀ j,j < i+1→(A last j&&M.walkB A n (k+1) j a)=false):=HX
      clear hq1 HX HF HH HP
      go_wp2_with fail
      refine (CH _).mono ?_
      rintro e w1 ⟨rfl,rfl⟩
      go_wp2_with fail
      exact ⟨⟨i+1,by go_num,by first | rfl | trivial,by omega,HX2,by first | rfl | trivial⟩,by simp [intOf];omega⟩
     ·cases hq2:M.walkB A n (k+1) i a
      ·rw [hq1] at CH
       rw [hq2] at CH2
       have HX:=HF.out (by rw [hq1,hq2];rfl)
       have HX2:Hid (∀ j,j < i+1→(A last j&&M.walkB A n (k+1) j a)=false):=HX
       clear hq1 hq2 HX HF HH HP
       go_wp2_with fail
       refine (CH _).mono ?_
       rintro e w1 ⟨rfl,rfl⟩
       go_wp2_with fail
       refine CL.mono ?_
       rintro e w2 ⟨rfl,rfl⟩
       go_wp2_with fail
       refine (CH2 _).mono ?_
       rintro e w3 ⟨rfl,rfl⟩
       go_wp2_with fail
       exact ⟨⟨i+1,by go_num,by first | rfl | trivial,by omega,HX2,by first | rfl | trivial⟩,by simp [intOf];omega⟩
      ·rw [hq1] at CH
       rw [hq2] at CH2
       have HX:=HH.out (by rw [hq1,hq2];rfl)
       have HX2:Hid (M.ringBack A n (k+1) row last a=M.ringBack A n k (row++[i]) i a):=HX
       have hrn:row.length+1≤29:=by omega
       have HLN:Hid ((row++[i]).getLast?=some i):=by show _=_;simp
       have ws2:IntKind.i64.wrap (((k+1:Nat):Int) - 1)=(k:Int):=by rw [IntKind.wrap_i64];omega
       clear hq1 hq2 HX HF HH HP HL
       go_wp2_with fail
       refine (CH _).mono ?_
       rintro e w1 ⟨rfl,rfl⟩
       go_wp2_with fail
       refine CL.mono ?_
       rintro e w2 ⟨rfl,rfl⟩
       go_wp2_with fail
       refine (CH2 _).mono ?_
       rintro e w3 ⟨rfl,rfl⟩
       have hbs:=hb.size
       have hrr:(row.length:Int)+1≤29:=by omega
       have hOA:=World.ownsRow.alloc hO (.cells #[.int .i64 (i:Int)] 3)
       go_wp2_with (at_builtin;go_loud (refine wpList_append_own _ rfl (.tmp 44) (.tmp 46) 25 rfl _ 3 i0 _ 1 8 Tryz.underlying25 hi hz0 hz1 hz2 rfl (by decide) _ _ _ rfl hOA ⟨w3.heap.size,0,none⟩ 1 1 [.int .i64 (i:Int)] rfl rfl (cells_new1 _ _ _ _ (by simp)) (one1 _) (by unfold maxLen;omega) (by omega) (by simp;omega) ?_))
       intro v3 w4 hown3 hg3 _
       have hb3:Below w.heap.size w w4:=below_grown (hb.trans ((below1 w3 _).mono hb.size)) hg3 (own_ge hO) (by simp;omega)
       have hown4:OwnI w4 w.heap.size v3 (row++[i]):=by unfold OwnI;rw [M.ints_snoc,nums_snoc,List.length_append];exact hown3
       go_wp2_with fail
       exact ⟨⟨k,i,row++[i],v3,rfl,by first | rfl | rw [ws2],by simp;omega,by omega,hit,HLN,hown4,by show _=_;rw [HB.out,HX2.out],hb3⟩,by simp [intOf]⟩
    ·obtain rfl:i=n:=by omega
     have HX:Hid (M.ringBack A i (k+1) row last a=M.ringBack A i k row last a):=by
      show _=_
      rw [M.ringBack,M.find_miss (p:=fun j=>A last j&&M.walkB A i (k+1) j a) HN.out]
     have ws2:IntKind.i64.wrap (((k+1:Nat):Int) - 1)=(k:Int):=by rw [IntKind.wrap_i64];omega
     go_wp2_with fail
     exact ⟨⟨k,last,row,_,rfl,by first | rfl | rw [ws2],by omega,by omega,hla,HL,hO,by show _=_;rw [HB.out,HX.out],hb⟩,by simp [intOf]⟩
end
section
open Go.RowKit
theorem M.has_ints (r:List Nat) (b:Nat):M.has (M.ints r) (b:Int)=r.contains b:=by
 unfold M.has M.ints
 rw [Bool.eq_iff_iff]
 simp [List.contains_eq_mem]
 exact ⟨fun ⟨x,hx,e⟩=>by rw [show b=x from by omega];exact hx,fun hx=>⟨b,hx,rfl⟩⟩
theorem ints_at {w:World} {a:Option Addr} {g:Nat} {r:List Nat} (h:IntS w a g 0 (M.ints r)) {i x:Nat} (hi:r[i]?=some x):w.cell? ⟨g,i,none⟩=some (.int .i64 x):=by
 obtain ⟨hl,e⟩:=List.getElem?_eq_some_iff.1 hi
 have:=h.row i (by rw [M.ints_len];exact hl)
 rw [Nat.zero_add] at this
 rw [this]
 simp [M.ints,e]
theorem own_intsR {w:World} {base:Nat} {e:TypeId} {v:Value} {l:List Int} (h:w.ownsRow base e 1 v l.length (nums l)):∃ a g c,v=.slice a l.length c∧IntS w a g 0 l∧(a=none→c=0)∧(0 < l.length→base≤g):=by
 rcases h.2 with ⟨hv,hn⟩ | ⟨g,cap,cur,hv,hg,hh,hc,r⟩
 ·have:l=[]:=List.length_eq_zero_iff.1 hn
  subst this
  exact ⟨none,0,0,hv,IntS.nil _ _ _ _,fun _=>rfl,fun h=>absurd h (Nat.lt_irrefl _)⟩
 ·refine ⟨_,g,cap,hv,⟨fun _=>rfl,fun i hi=>?_⟩,fun e=>(by cases e),fun _=>hg⟩
  have:=h.cells (g:=g) (by rw [hv];rfl) i (.int .i64 l[i]) (by simp [nums,hi])
  rwa [Go.WideShapes.add_plain] at this
structure OnAns (w w':World) (r:Option (List Nat)) (v:Value):Prop where
 yes:∀ x,r=some x→∃ a g c,v=.slice a x.length c∧IntS w' a g 0 (M.ints x)
 bel:Below w.heap.size w w'
abbrev M.onF (A:Nat→Nat→Bool) (n k:Nat) (row:List Nat) (last a:Nat):Nat→Option (List Nat):=fun b=>if decide (a < b)&&(A last b&&!row.contains b) then M.ringOn A n k (row++[b]) b a else none
set_option maxHeartbeats 8000000 in
set_option maxRecDepth 100000 in
theorem l14On_any (X G c n:Nat) (va:Option Addr) (rb rc:Nat→Nat) (A:Nat→Nat→Bool) (hn:n≤28):∀ (k:Nat) (row:List Nat) (last a:Nat) (ra:Option Addr) (rg rcap:Nat) (w:World),row.getLast?=some last→row.head?=some a→last < n→a < n→row.length+k≤n→IntS w ra rg 0 (M.ints row)→NtAt w X G n c va rb rc A →
  Calls Tryz.prog 54 #[.pointer (some ⟨X,0,none⟩),.slice ra row.length rcap,.int .i64 ((row.length+k:Nat):Int)] w fun e w'=>∃ v,e=.returned (.tuple #[v,.bool (M.ringOn A n k row last a).isSome])∧OnAns w w' (M.ringOn A n k row last a) v:=by
 obtain ⟨i0,hi,hz0,hz1,hz2⟩:=info_parts Tryz.infoInt
 intro k
 induction k with
 | zero =>
  intro row last a ra rg rcap w hL hF hl ha hs hR hN
  have hrp:0 < row.length:=by cases row with | nil=>cases hL | cons _ _=>simp
  obtain ⟨rfl⟩:=hR.addr (by rw [M.ints_len];exact hrp)
  have c1:=ints_at hR (by rw [List.getLast?_eq_getElem?] at hL;exact hL)
  have c0:=ints_at hR (by rw [List.head?_eq_getElem?] at hF;exact hF)
  have wl:IntKind.i64.wrap ((row.length:Int) - 1)=((row.length - 1:Nat):Int):=by rw [IntKind.wrap_i64];omega
  have w0:¬ (((row.length - 1:Nat):Int) < 0):=by omega
  have w1:((row.length - 1:Nat):Int) < (row.length:Int):=by omega
  have r1:(0:Int) < (row.length:Int):=by omega
  have e1:(((row.length:Nat):Int)==((row.length+0:Nat):Int))=true:=by simp
  obtain ⟨rfl⟩:=hN.addr (by omega)
  have n0:=hN.box
  have n1:=hN.outer last hl
  have n2:=hN.row last hl a ha
  have l0:¬ (last:Int) < 0:=by omega
  have l1:(last:Int) < (n:Int):=by omega
  have a0:¬ (a:Int) < 0:=by omega
  have a1:(a:Int) < (n:Int):=by omega
  have HE:Hid (M.ringOn A n 0 row last a=if A last a then some row else none):=rfl
  have HR:Hid (∀ nq,OnAns w (w.drewN nq) (M.ringOn A n 0 row last a) (.slice (some ⟨rg,0,none⟩) row.length rcap)):=fun nq=>⟨fun x hx=>by
   have:x=row:=by
    rw [HE.out] at hx
    split at hx
    ·exact (Option.some.inj hx).symm
    ·cases hx
   subst this
   exact ⟨_,rg,rcap,rfl,hR.below (B:=w.heap.size) ⟨rfl,rfl,rfl,Nat.le_refl _,fun _ _=>rfl⟩ (Nat.le_refl _)⟩,⟨rfl,rfl,rfl,Nat.le_refl _,fun _ _=>rfl⟩⟩
  have HS:Hid ((M.ringOn A n 0 row last a).isSome=A last a):=by show _=_;rw [HE.out];cases A last a<;>rfl
  generalize A last a=q at *
  generalize M.ringOn A n 0 row last a=res at *
  clear hL hF HE hN hR
  go_enter Tryz.func54,Tryz.ntmps54
  go_wp2_with fail
  go_quiet (fail)
  go_wp2_with fail
  go_ret2
  exact ⟨_,by rw [HS.out];rfl,HR.out _⟩
 | succ k ih =>
  intro row last a ra rg rcap w hL hF hl ha hs hR hN
  have hrp:0 < row.length:=by cases row with | nil=>cases hL | cons _ _=>simp
  obtain ⟨rfl⟩:=hR.addr (by rw [M.ints_len];exact hrp)
  have c1:=ints_at hR (by rw [List.getLast?_eq_getElem?] at hL;exact hL)
  have c0:=ints_at hR (by rw [List.head?_eq_getElem?] at hF;exact hF)
  have wl:IntKind.i64.wrap ((row.length:Int) - 1)=((row.length - 1:Nat):Int):=by rw [IntKind.wrap_i64];omega
  have w0:¬ (((row.length - 1:Nat):Int) < 0):=by omega
  have w1:((row.length - 1:Nat):Int) < (row.length:Int):=by omega
  have r1:(0:Int) < (row.length:Int):=by omega
  have wa:IntKind.i64.wrap ((a:Int)+1)=((a+1:Nat):Int):=by rw [IntKind.wrap_i64];omega
  have e1:(((row.length:Nat):Int)==((row.length+(k+1):Nat):Int))=false:=by rw [beq_eq_false_iff_ne];omega
  obtain ⟨rfl⟩:=hN.addr (by omega)
  have n0:=hN.box
  have n1:=hN.outer last hl
  have l0:¬ (last:Int) < 0:=by omega
  have l1:(last:Int) < (n:Int):=by omega
  obtain ⟨res,hres⟩:∃ res,M.ringOn A n (k+1) row last a=res:=⟨_,rfl⟩
  rw [hres]
  have HE:Hid ((List.range n).findSome? (M.onF A n k row last a)=res):=hres
  have hhas:∀ b:Nat,M.has (M.ints row) (b:Int)=row.contains b:=fun b=>M.has_ints row b
  have hil:(M.ints row).length=row.length:=M.ints_len row
  clear hres
  go_enter Tryz.func54,Tryz.ntmps54
  go_wp2_with fail
  go_loopw [9] (fun s9 wr=>∃ b:Nat,s9=.int .i64 b∧a+1≤b∧b≤n∧Hid (∀ j,j < b→M.onF A n k row last a j=none)∧Below w.heap.size w wr) (fun s9 _=>n - (intOf s9).toNat)
  case atStart=>exact ⟨a+1,by first | rfl | (rw [wa]),Nat.le_refl _,by omega,fun j hj=>by show (if decide (a < j)&&_ then _ else _)=none;rw [decide_eq_false (by omega)];rfl,Below.refl _ _⟩
  case round =>
   obtain ⟨b,rfl,hab,hbn,HN,hb⟩:=hrel
   have m0:=cellJ hb n0
   have m1:=cellJ hb n1
   by_cases hlt:b < n
   ·have i1:(b:Int) < n:=by omega
    have b0:¬ (b:Int) < 0:=by omega
    have n2:=cellJ hb (hN.row last hl b hlt)
    have CH:=fun (W:World) (h:Below w.heap.size w W)=>l12Has_any (some ⟨rg,0,none⟩) rg 0 rcap (M.ints row) b W (by rw [hil];omega) (hR.below h (Nat.le_refl _))
    rw [hhas b,hil] at CH
    have HX:Hid ((A last b&&!row.contains b)=false→∀ j,j < b+1→M.onF A n k row last a j=none):=fun hc j hj=>by
     by_cases e:j=b
     ·rw [e];show (if decide (a < b)&&(A last b&&!row.contains b) then _ else _)=none;rw [hc,Bool.and_false];rfl
     ·exact HN.out j (by omega)
    have HY:Hid ((A last b&&!row.contains b)=true→M.onF A n k row last a b=M.ringOn A n k (row++[b]) b a):=fun hc=>by
     show (if decide (a < b)&&(A last b&&!row.contains b) then _ else _)=_
     rw [hc,decide_eq_true (by omega)];rfl
    cases hq1:A last b
    ·rw [hq1] at n2
     have HX2:Hid (∀ j,j < b+1→M.onF A n k row last a j=none):=HX.out (by rw [hq1];rfl)
     clear hq1 HX HY HN CH
     go_wp2_with fail
     exact ⟨⟨b+1,by go_num,by omega,by omega,HX2,hb⟩,by simp [intOf];omega⟩
    ·cases hq2:row.contains b
     ·rw [hq1] at n2
      rw [hq2] at CH
      have HY2:Hid (M.onF A n k row last a b=M.ringOn A n k (row++[b]) b a):=HY.out (by rw [hq1,hq2];rfl)
      clear hq1 hq2 HX HY
      have HG:Hid (∀ r,M.ringOn A n k (row++[b]) b a=r→(∀ x,r=some x→res=some x)∧(r=none→∀ j,j < b+1→M.onF A n k row last a j=none)):=fun r hr=>⟨fun x hx=>by rw [← HE.out];exact M.some_hit (f:=M.onF A n k row last a) HN.out hlt (by rw [HY2.out,hr,hx]),fun hx j hj=>by
       by_cases e:j=b
       ·rw [e,HY2.out,hr,hx]
       ·exact HN.out j (by omega)⟩
      clear HN HE
      have CHr:=CH wr hb
      go_wp2_with fail
      refine CHr.mono ?_
      rintro e w2 ⟨rfl,rfl⟩
      have hRr:=hR.below hb (Nat.le_refl _)
      have bE:=below1 w2 (.cells #[] 3)
      have hemp:(w2.alloc (.cells #[] 3)).ownsRow w.heap.size 3 1 (.slice (some ⟨w2.heap.size,0,none⟩) 0 0) 0 []:=own_emp (heap_alloc_new w2 _) hb.size
      have hRe:=hRr.below bE (Nat.le_refl _)
      have hbs:=hb.size
      go_wp2_with (at_builtin;refine wpList_append_lies _ rfl (.tmp 66) (.tmp 67) 25 rfl w.heap.size 3 i0 _ 1 8 Tryz.underlying25 hi hz0 hz1 hz2 rfl (by decide) _ 0 [] rfl hemp ⟨rg,0,none⟩ row.length rcap (nums (M.ints row)) rfl (by simp [nums,M.ints]) (nums_cells hRe) (nums_one _) hrp (by unfold maxLen;omega) (by omega) (by simp;omega) _ rfl ?_)
      intro g1 cap1 w3 hown3 hg3 hat3 hlt3
      have hown3':w3.ownsRow w.heap.size 3 1 (.slice (some ⟨g1,0,none⟩) row.length cap1) row.length (nums (M.ints row)):=by simpa using hown3
      have bw3:Below w.heap.size w w3:=below_grown (hb.trans (bE.mono hb.size)) hg3 (own_ge hemp) (by simp;omega)
      have hOA:=World.ownsRow.alloc hown3' (.cells #[.int .i64 (b:Int)] 3)
      clear hown3 hg3 hat3 hlt3 hemp
      go_wp2_with (at_builtin;refine wpList_append_own _ rfl (.tmp 68) (.tmp 70) 25 rfl _ 3 i0 _ 1 8 Tryz.underlying25 hi hz0 hz1 hz2 rfl (by decide) _ _ _ rfl hOA ⟨w3.heap.size,0,none⟩ 1 1 [.int .i64 (b:Int)] rfl rfl (cells_new1 _ _ _ _ (by simp)) (one1 _) (by unfold maxLen;omega) (by omega) (by simp;have:=bw3.size;omega) ?_)
      intro v4 w4 hown4 hg4 _
      have bw4:Below w.heap.size w w4:=below_grown (bw3.trans ((below1 w3 _).mono bw3.size)) hg4 (own_ge hown3') (by simp;have:=bw3.size;omega)
      have hown5:OwnI w4 w.heap.size v4 (row++[b]):=by unfold OwnI;rw [M.ints_snoc,nums_snoc,List.length_append];exact hown4
      obtain ⟨a5,g5,c5,rfl,hI5,_⟩:=own_intsR (l:=M.ints (row++[b])) (by rw [M.ints_len];exact hown5)
      rw [M.ints_len] at *
      have CR:=ih (row++[b]) b a a5 g5 c5 w4 (by simp) (by cases row with | nil=>cases hL | cons _ _=>simpa using hF) hlt ha (by simp;omega) hI5 (hN.below bw4)
      rw [show (((row++[b]).length+k:Nat):Int)=((row.length+(k+1):Nat):Int) from by simp;omega] at CR
      have hln:(row++[b]).length=row.length+1:=by simp
      rw [hln] at CR
      generalize hrr:M.ringOn A n k (row++[b]) b a=rr at CR
      obtain ⟨hy,hno⟩:=HG.out rr hrr
      have hy:Hid (∀ x,rr=some x→res=some x):=hy
      have hno:Hid (rr=none→∀ j,j < b+1→M.onF A n k row last a j=none):=hno
      have bs4:=bw4.size
      clear hrr HG HY2 hown4 hown5 hOA hown3'
      go_wp2_with fail
      refine CR.mono ?_
      rintro e w5 ⟨v5,rfl,hA⟩
      have bw5:=bw4.trans (hA.bel.mono bs4)
      cases rr with
      | none =>
       go_wp2_with fail
       exact ⟨⟨b+1,by go_num,by omega,by omega,hno.out (by first | rfl | trivial),bw5⟩,by simp [intOf];omega⟩
      | some x =>
       have hx:=hy.out x rfl
       go_wp2_with fail
       go_ret2
       exact ⟨_,by rw [hx];rfl,⟨fun y hy2=>hA.yes y (by rw [← hy2,hx]),bw5⟩⟩
     ·rw [hq1] at n2
      rw [hq2] at CH
      have HX2:Hid (∀ j,j < b+1→M.onF A n k row last a j=none):=HX.out (by rw [hq1,hq2];rfl)
      clear hq1 hq2 HX HY HN
      have CHr:=CH wr hb
      go_wp2_with fail
      refine CHr.mono ?_
      rintro e w2 ⟨rfl,rfl⟩
      go_wp2_with fail
      exact ⟨⟨b+1,by go_num,by omega,by omega,HX2,hb⟩,by simp [intOf];omega⟩
   ·obtain rfl:b=n:=by omega
    have HF:Hid (none=res):=by show _=_;rw [← HE.out];exact (M.findSome_none.2 HN.out).symm
    clear HN HE
    go_wp2_with fail
    go_ret2
    exact ⟨_,by rw [← HF.out];rfl,⟨fun x hx=>(by rw [← HF.out] at hx;cases hx),hb⟩⟩
end
section
open Go.RowKit
abbrev M.ringF (A:Nat→Nat→Bool) (n s a:Nat):Option (List Nat):=if M.walkB A n (s+1) a a then some (M.ringBack A n s [a] a a) else none
set_option maxHeartbeats 4000000 in
set_option maxRecDepth 100000 in
theorem ring_any (va:Option Addr) (g c:Nat) (A:Nat→Nat→Bool) (N:Nat→Nat) (n:Nat) (w:World) (hn:n≤28) (hW:M.WordsN A n N) (h:LkS w va g N n) :
  Calls Tryz.prog 61 #[.slice va n c] w fun e w'=>∃ v,e=.returned (.tuple #[v,.bool (M.ringI A n).isSome])∧OwnI w' w.heap.size v ((M.ringI A n).getD [])∧Below w.heap.size w w':=by
 obtain ⟨res,hres⟩:∃ res,M.ringI A n=res:=⟨_,rfl⟩
 rw [hres]
 have HR:Hid ((List.range n).findSome? (fun s=>(List.range n).findSome? fun a=>M.ringF A n s a)=res):=hres
 clear hres
 go_enter Tryz.func61,Tryz.ntmps61
 go_wp2_with fail
 go_loopw [4] (fun s4 wr=>∃ s:Nat,s4=.int .i64 ((s:Int)+1)∧s≤n∧Hid (∀ j,j < s→((List.range n).findSome? fun a=>M.ringF A n j a)=none)∧w=wr) (fun s4 _=>n+1 - (intOf s4).toNat)
 case atStart=>exact ⟨0,rfl,Nat.zero_le _,fun j hj=>absurd hj (Nat.not_lt_zero _),rfl⟩
 case round =>
  obtain ⟨s,rfl,hs,HS,rfl⟩:=hrel
  by_cases hlt:s < n
  ·have i1:(s:Int)+1≤n:=by omega
   have hs1:((s+1:Nat):Int)=(s:Int)+1:=by omega
   go_wp2_with fail
   go_loopw [14] (fun s14 wi=>∃ i:Nat,s14=.int .i64 i∧i≤n∧Hid (∀ j,j < i→M.ringF A n s j=none)∧w=wi) (fun s14 _=>n - (intOf s14).toNat)
   case atStart=>exact ⟨0,rfl,Nat.zero_le _,fun j hj=>absurd hj (Nat.not_lt_zero _),rfl⟩
   case round =>
    obtain ⟨i,rfl,hin,HN,rfl⟩:=hrel
    by_cases hit:i < n
    ·have j1:(i:Int) < n:=by omega
     have CL:=leadsTo_any va g c N n i (s+1) w hn hit (by omega) h
     rw [show (((s+1:Nat):Int))=(s:Int)+1 from by omega] at CL
     have CH:=fun W=>has_any (M.leadW N n i (s+1)) i W (M.leadW_lt h.lt (by omega) _) (by omega)
     rw [M.leadW_bit hW hit] at CH
     generalize M.leadW N n i (s+1)=S at *
     cases hq:M.walkB A n (s+1) i i
     ·rw [hq] at CH
      have HX:Hid (∀ j,j < i+1→M.ringF A n s j=none):=fun j hj=>by
       by_cases e:j=i
       ·rw [e];show (if M.walkB A n (s+1) i i then _ else none)=none;rw [hq];rfl
       ·exact HN.out j (by omega)
      clear hq HN
      go_wp2_with fail
      refine CL.mono ?_
      rintro e w1 ⟨rfl,rfl⟩
      go_wp2_with fail
      refine (CH _).mono ?_
      rintro e w2 ⟨rfl,rfl⟩
      go_wp2_with fail
      exact ⟨⟨i+1,by go_num,by omega,HX,by first | rfl | trivial⟩,by simp [intOf];omega⟩
     ·rw [hq] at CH
      have hF:M.ringF A n s i=some (M.ringBack A n s [i] i i):=by show (if M.walkB A n (s+1) i i then _ else none)=_;rw [hq];rfl
      have HF:Hid (some (M.ringBack A n s [i] i i)=res):=by
       show _=_
       rw [← HR.out]
       exact (M.some_hit (f:=fun s=>(List.range n).findSome? fun a=>M.ringF A n s a) HS.out hlt (M.some_hit (f:=fun a=>M.ringF A n s a) HN.out hit hF)).symm
      have CB:=rowBack_any va g c A N n i s w hn hit hlt hW h
      clear hq HN hF HS HR
      go_wp2_with fail
      refine CL.mono ?_
      rintro e w1 ⟨rfl,rfl⟩
      go_wp2_with fail
      refine (CH _).mono ?_
      rintro e w2 ⟨rfl,rfl⟩
      go_wp2_with fail
      refine CB.mono ?_
      rintro e w3 ⟨v,rfl,hO,hb⟩
      go_wp2_with fail
      go_ret2
      exact ⟨v,by rw [← HF.out];rfl,by rw [← HF.out];exact hO,hb⟩
    ·obtain rfl:i=n:=by omega
     have HX:Hid (∀ j,j < s+1→((List.range i).findSome? fun a=>M.ringF A i j a)=none):=fun j hj=>by
      by_cases e:j=s
      ·rw [e];exact M.findSome_none.2 HN.out
      ·exact HS.out j (by omega)
     clear HN HS
     go_wp2_with fail
     exact ⟨⟨s+1,by rw [show (((s+1:Nat):Int))=(s:Int)+1 from by omega],by omega,HX,by first | rfl | trivial⟩,by simp [intOf];omega⟩
  ·obtain rfl:s=n:=by omega
   have i1:¬ (s:Int)+1≤s:=by omega
   have HF:Hid (none=res):=by show _=_;rw [← HR.out];exact (M.findSome_none.2 HS.out).symm
   clear HS HR
   go_wp2_with fail
   go_ret2
   exact ⟨_,by rw [← HF.out];rfl,by rw [← HF.out];exact World.ownsRow_nil _ _ _ _,Below.refl _ _⟩
theorem wayLinks_any (k:Nat) (hk1:1≤k) (hk3:k≤3) (va:Option Addr) (g c:Nat) (ds:List M.De) (fa:Option Addr) (fb fo fc:Nat) (l:List Int) (ra:Option Addr) (rb ro rc:Nat) (rows:List (List Int)) (w:World) (h:Wy w va g c ds fa fb fo fc l ra rb ro rc rows) :
  Calls Tryz.prog 60 #[.agg #[.slice va ds.length c,.slice fa l.length fc,.slice ra rows.length rc],.int .i64 k] w fun e w'=>∃ q,e=.returned (.slice (some ⟨q,0,none⟩) ds.length ds.length)∧LkS w' (some ⟨q,0,none⟩) q (fun i=>M.bitsW (M.mustAt ds l rows k) i ds.length) ds.length∧w.heap.size≤q∧Below w.heap.size w w':=by
 rcases (show k=1∨k=2∨k=3 by omega) with rfl | rfl | rfl
 ·exact links_of 1 _ _ _ reasons1_any (fun t a b x y w h1 h2 h3 h4=>must1_any t a b x y w h1 h2 h3 h4) va g c ds fa fb fo fc l ra rb ro rc rows w h
 ·exact links_of 2 _ _ _ reasons2_any (fun t a b x y w h1 h2 h3 h4=>must2_any t a b x y w h1 h2 h3 h4) va g c ds fa fb fo fc l ra rb ro rc rows w h
 ·exact links_of 3 _ _ _ reasons3_any (fun t a b x y w h1 h2 h3 h4=>must3_any t a b x y w h1 h2 h3 h4) va g c ds fa fb fo fc l ra rb ro rc rows w h
namespace M
def orderRing (ll:List (List D)) (l:List Int) (rows:List (List Int)) (kind:Int):Option (List Nat) :=
 if (decide (1≤kind)&&decide (kind≤3))&&execOk ll l rows then ringS (netOf (deeds ll) l rows kind.toNat) (deeds ll).length else none
end M
set_option maxHeartbeats 4000000 in
set_option maxRecDepth 100000 in
set_option linter.unusedSimpArgs false in
theorem iorderRing_any (a:Option Addr) (b o c:Nat) (ll:List (List M.D)) (fa:Option Addr) (fb fo fc:Nat) (l:List Int) (ra:Option Addr) (rb ro rc:Nat) (rows:List (List Int)) (kind:Int) (w:World) (hl:ll.length≤1048576) (hls:∀ t∈ll,t.length≤1048576) (hl1:l.length≤1048576) (hl2:rows.length≤1048576) (hrs:∀ r∈rows,r.length≤1048576) (h:DoSS w a b o ll) (hf:IntS w fa fb fo l) (hr:IntSS w ra rb ro rows) :
  Calls Tryz.prog 17 #[.agg #[.slice a ll.length c],.agg #[.slice fa l.length fc,.slice ra rows.length rc],.int .i64 kind] w fun e w'=>∃ v,e=.returned (.tuple #[v,.bool (M.orderRing ll l rows kind).isSome])∧OwnI w' w.heap.size v ((M.orderRing ll l rows kind).getD [])∧Below w.heap.size w w':=by
 have hb1:=below2 w (.cells #[.slice a ll.length c] 35) (.cells #[.slice fa l.length fc,.slice ra rows.length rc] 37)
 have kp:((w.alloc (.cells #[.slice a ll.length c] 35)).alloc (.cells #[.slice fa l.length fc,.slice ra rows.length rc] 37)).cell? ⟨w.heap.size,0,none⟩=some (.slice a ll.length c):=by simp
 have k0:((w.alloc (.cells #[.slice a ll.length c] 35)).alloc (.cells #[.slice fa l.length fc,.slice ra rows.length rc] 37)).cell? ⟨w.heap.size+1,0,none⟩=some (.slice fa l.length fc):=by simp
 have k1:((w.alloc (.cells #[.slice a ll.length c] 35)).alloc (.cells #[.slice fa l.length fc,.slice ra rows.length rc] 37)).cell? ⟨w.heap.size+1,1,none⟩=some (.slice ra rows.length rc):=by simp
 obtain ⟨res,hres⟩:∃ res,M.orderRing ll l rows kind=res:=⟨_,rfl⟩
 rw [hres]
 have HR:Hid ((if (decide (1≤kind)&&decide (kind≤3))&&M.execOk ll l rows then M.ringS (M.netOf (M.deeds ll) l rows kind.toNat) (M.deeds ll).length else none)=res):=hres
 clear hres
 go_enter Tryz.func17,Tryz.ntmps17
 go_wp2_with fail
 generalize (w.alloc (.cells #[.slice a ll.length c] 35)).alloc (.cells #[.slice fa l.length fc,.slice ra rows.length rc] 37)=W at *
 have CI:=isOrder_any kind W
 have CE:=iexecOk_any a b o c ll fa fb fo fc l ra rb ro rc rows W hl hls hl1 hl2 hrs (h.below hb1 (Nat.le_refl _)) (hf.below hb1 (Nat.le_refl _)) (hr.below hb1 (Nat.le_refl _))
 refine CI.mono ?_
 rintro e w1 ⟨rfl,e1⟩
 subst e1
 clear CI
 cases hk:(decide (1≤kind)&&decide (kind≤3))
 ·have HF:Hid (none=res):=by show _=_;rw [← HR.out,hk];rfl
  clear hk HR CE
  go_wp2_with fail
  go_ret2
  exact ⟨_,by rw [← HF.out];rfl,by rw [← HF.out];exact World.ownsRow_nil _ _ _ _,hb1⟩
 ·go_wp2_with fail
  refine CE.mono ?_
  rintro e W2 ⟨rfl,b2⟩
  clear CE
  have bw2:=hb1.trans (b2.mono hb1.size)
  cases hok:M.execOk ll l rows
  ·have HF:Hid (none=res):=by show _=_;rw [← HR.out,hk,hok];rfl
   clear hk HR hok
   go_wp2_with fail
   go_ret2
   exact ⟨_,by rw [← HF.out];rfl,by rw [← HF.out];exact World.ownsRow_nil _ _ _ _,bw2⟩
  ·have hW:=M.wok_of hok
   obtain ⟨h3,h7⟩:=M.prog_bounds hW.prog
   obtain ⟨kn,rfl⟩:∃ kn:Nat,kind=kn:=⟨kind.toNat,by simp only [Bool.and_eq_true,decide_eq_true_eq] at hk;omega⟩
   have hk13:1≤kn∧kn≤3:=by simp only [Bool.and_eq_true,decide_eq_true_eq] at hk;omega
   have HF:Hid (M.ringI (M.mustAt (M.deeds ll) l rows kn) (M.deeds ll).length=res):=by show _=_;rw [← HR.out,hk,hok,M.ring_same];rfl
   clear hk HR hok
   have KP:∀ w',Below W2.heap.size W2 w'→w'.cell? ⟨w.heap.size,0,none⟩=some (.slice a ll.length c):=fun w' hw=>cellJ hw (cellJ b2 kp)
   have K0:∀ w',Below W2.heap.size W2 w'→w'.cell? ⟨w.heap.size+1,0,none⟩=some (.slice fa l.length fc):=fun w' hw=>cellJ hw (cellJ b2 k0)
   have K1:∀ w',Below W2.heap.size W2 w'→w'.cell? ⟨w.heap.size+1,1,none⟩=some (.slice ra rows.length rc):=fun w' hw=>cellJ hw (cellJ b2 k1)
   have BW:∀ w',Below W2.heap.size W2 w'→Below w.heap.size w w':=fun w' hw=>bw2.trans (hw.mono bw2.size)
   clear kp k0 k1
   go_wp2_with fail
   refine wp_region_held_drew (S:=fun w'=>Below W2.heap.size W2 w') (by kernel_rfl) (Below.refl _ _).drew (fun hH=>?_)
   refine tk 0 17 (.agg #[.slice a ll.length c]) hH rfl rfl (by intro w' hSw;have hc0:=KP w' hSw;go_simp) ?_
   simp only [Act.put,zqa,zqb,zqc]
   refine tk 2 19 (.agg #[.slice fa l.length fc,.slice ra rows.length rc]) hH rfl rfl (by intro w' hSw;have hc0:=K0 w' hSw;have hc1:=K1 w' hSw;go_simp) ?_
   simp only [Act.put,zqa,zqb,zqc]
   refine tk 4 21 (.int .i64 kn) hH rfl rfl (by intro w' hSw;go_simp) ?_
   simp only [Act.put,zqa,zqb,zqc]
   refine ry 1 rfl (fun K' hK=>?_)
   refine sg 18 rfl 59 #[.tmp 17] rfl #[.agg #[.slice a ll.length c]] (enters_of Tryz.func59 (by kernel_rfl) rfl) (deedsOf_any a b o c ll _ h3 h7 (h.below (BW _ hH) (Nat.le_refl _))) ?_
   rintro e W3 ⟨v3,rfl,hown,b3⟩
   obtain ⟨va,g,cap,rfl,hds,_,_⟩:=own_rs M.De.len hown
   clear hown
   refine ⟨_,rfl,hK.out _ _ (hH.trans (b3.mono hH.size)) (fun hH1=>?_)⟩
   clear hK K'
   simp only [Act.put,zqa,zqb,zqc]
   refine tk 3 20 (.agg #[.slice va (M.deeds ll).length cap,.slice fa l.length fc,.slice ra rows.length rc]) hH1 rfl rfl (by intro w' hSw;go_simp) ?_
   simp only [Act.put,zqa,zqb,zqc]
   refine ry 5 rfl (fun K' hK=>?_)
   refine sg 22 rfl 60 #[.tmp 20,.tmp 21] rfl #[.agg #[.slice va (M.deeds ll).length cap,.slice fa l.length fc,.slice ra rows.length rc],.int .i64 kn] (enters_of Tryz.func60 (by kernel_rfl) rfl) (wayLinks_any kn hk13.1 hk13.2 va g cap (M.deeds ll) fa fb fo fc l ra rb ro rc rows W3 ⟨hds,hf.below (BW _ hH1) (Nat.le_refl _),hr.below (BW _ hH1) (Nat.le_refl _),M.deeds28 hW.prog,hW.len,hW.three,hrs,hW.run,hW.pl⟩) ?_
   rintro e W4 ⟨q,rfl,hLk,hq,b4⟩
   refine ⟨_,rfl,hK.out _ _ (hH1.trans (b4.mono hH1.size)) (fun hH2=>?_)⟩
   clear hK K'
   simp only [Act.put,zqa,zqb,zqc]
   refine ry 6 rfl (fun K' hK=>?_)
   refine sg 23 rfl 61 #[.tmp 22] rfl #[.slice (some ⟨q,0,none⟩) (M.deeds ll).length (M.deeds ll).length] (enters_of Tryz.func61 (by kernel_rfl) rfl) (ring_any (some ⟨q,0,none⟩) q _ (M.mustAt (M.deeds ll) l rows kn) _ _ W4 (M.deeds28 hW.prog) (M.bitsW_words _ _) hLk) ?_
   rintro e W5 ⟨v5,rfl,hO,b5⟩
   rw [HF.out] at hO ⊢
   obtain ⟨rr,hrr⟩:∃ rr,res.isSome=rr:=⟨_,rfl⟩
   rw [hrr]
   refine ⟨_,rfl,hK.out _ _ (hH2.trans (b5.mono hH2.size)) (fun hH3=>?_)⟩
   clear hK K'
   simp only [Act.put,zqa,zqb,zqc]
   refine tk 7 24 (v5) hH3 rfl rfl (by intro w' hSw;go_simp) ?_
   simp only [Act.put,zqa,zqb,zqc]
   refine tk 8 25 (.bool rr) hH3 rfl rfl (by intro w' hSw;go_simp) ?_
   simp only [Act.put,zqa,zqb,zqc]
   refine tk 9 6 (v5) hH3 rfl rfl (by intro w' hSw;go_simp) ?_
   simp only [Act.put,zqa,zqb,zqc]
   refine tk 10 7 (.bool rr) hH3 rfl rfl (by intro w' hSw;go_simp) ?_
   simp only [Act.put,zqa,zqb,zqc]
   refine wpAnyH_done (by kernel_rfl) ?_ _
   have bF:=BW _ hH3
   have hge:w.heap.size≤W4.heap.size:=(BW _ hH2).size
   clear KP K0 K1 BW hLk
   go_wp2_with fail
   go_ret2
   exact ⟨v5,by rw [hrr];rfl,own_low hO hge,bF⟩
end
section
open Go.RowKit
abbrev M.onS (A:Nat→Nat→Bool) (n s:Nat):Option (List Nat):=(List.range n).findSome? fun a=>M.ringOn A n s [a] a a
set_option maxHeartbeats 4000000 in
set_option maxRecDepth 100000 in
theorem sorderRing_any (a:Option Addr) (b o c:Nat) (ll:List (List M.D)) (fa:Option Addr) (fb fo fc:Nat) (l:List Int) (ra:Option Addr) (rb ro rc:Nat) (rows:List (List Int)) (kind:Int) (w:World) (hl:ll.length≤1048576) (hls:∀ t∈ll,t.length≤1048576) (hl1:l.length≤1048576) (hrs:∀ r∈rows,r.length≤1048576) (h:DoSS w a b o ll) (hf:IntS w fa fb fo l) (hr:IntSS w ra rb ro rows) :
  Calls Tryz.prog 14 #[.agg #[.slice a ll.length c],.agg #[.slice fa l.length fc,.slice ra rows.length rc],.int .i64 kind] w fun e w'=>∃ q g k,e=.returned (.tuple #[.slice q ((M.orderRing ll l rows kind).getD []).length k,.bool (M.orderRing ll l rows kind).isSome])∧IntS w' q g 0 (M.ints ((M.orderRing ll l rows kind).getD []))∧Below w.heap.size w w':=by
 have hb1:=below2 w (.cells #[.slice a ll.length c] 35) (.cells #[.slice fa l.length fc,.slice ra rows.length rc] 37)
 have kp:((w.alloc (.cells #[.slice a ll.length c] 35)).alloc (.cells #[.slice fa l.length fc,.slice ra rows.length rc] 37)).cell? ⟨w.heap.size,0,none⟩=some (.slice a ll.length c):=by simp
 have k0:((w.alloc (.cells #[.slice a ll.length c] 35)).alloc (.cells #[.slice fa l.length fc,.slice ra rows.length rc] 37)).cell? ⟨w.heap.size+1,0,none⟩=some (.slice fa l.length fc):=by simp
 have k1:((w.alloc (.cells #[.slice a ll.length c] 35)).alloc (.cells #[.slice fa l.length fc,.slice ra rows.length rc] 37)).cell? ⟨w.heap.size+1,1,none⟩=some (.slice ra rows.length rc):=by simp
 have hp1:=h.below hb1 (Nat.le_refl _)
 have hf1:=hf.below hb1 (Nat.le_refl _)
 have hr1:=hr.below hb1 (Nat.le_refl _)
 clear h hf hr
 have C1:=sexecOk_any a b o c ll fa fb fo fc l ra rb ro rc rows _ hl hls hl1 hrs hp1 hf1 hr1
 obtain ⟨res,hres⟩:∃ res,M.orderRing ll l rows kind=res:=⟨_,rfl⟩
 rw [hres]
 have HR:Hid ((if (decide (1≤kind)&&decide (kind≤3))&&M.execOk ll l rows then M.ringS (M.netOf (M.deeds ll) l rows kind.toNat) (M.deeds ll).length else none)=res):=hres
 clear hres
 cases hok:M.execOk ll l rows
 ·rw [hok] at C1
  have HF:Hid (none=res):=by show _=_;rw [← HR.out,hok,Bool.and_false];rfl
  clear HR hok
  go_enter Tryz.func14,Tryz.ntmps14
  go_wp2_with fail
  refine C1.mono ?_
  rintro e w1 ⟨rfl,hb2⟩
  go_wp2_with fail
  go_ret2
  exact ⟨_,0,0,by rw [← HF.out];rfl,by rw [← HF.out];exact IntS.nil _ _ _ _,(hb1.trans (hb2.mono hb1.size)).trans ((below1 w1 _).mono (hb1.trans (hb2.mono hb1.size)).size)⟩
 ·rw [hok] at C1
  cases hk:(decide (1≤kind)&&decide (kind≤3))
  ·have HF:Hid (none=res):=by show _=_;rw [← HR.out,hk];rfl
   clear HR hok
   go_enter Tryz.func14,Tryz.ntmps14
   go_wp2_with fail
   refine C1.mono ?_
   rintro e w1 ⟨rfl,hb2⟩
   have hk':M.rng 1 3 kind=false:=hk
   go_wp2_with (go_at_call 49;refine (l6In_any kind 1 3 _).mono ?_;rw [hk'];rintro e w' ⟨rfl,rfl⟩)
   go_ret2
   exact ⟨_,0,0,by rw [← HF.out];rfl,by rw [← HF.out];exact IntS.nil _ _ _ _,(hb1.trans (hb2.mono hb1.size)).trans ((below1 _ _).mono (hb1.trans (hb2.mono hb1.size)).size)⟩
  ·have hk':M.rng 1 3 kind=true:=hk
   have hW:=M.wok_of hok
   have hdl:=M.deeds28 hW.prog
   obtain ⟨kn,rfl⟩:∃ kn:Nat,kind=kn:=⟨kind.toNat,by simp only [Bool.and_eq_true,decide_eq_true_eq] at hk;omega⟩
   have hk13:1≤kn∧kn≤3:=by simp only [Bool.and_eq_true,decide_eq_true_eq] at hk;omega
   have HO:Hid ((List.range (M.deeds ll).length).findSome? (fun s=>M.onS (M.netOf (M.deeds ll) l rows kn) (M.deeds ll).length s)=res):=by show _=_;rw [← HR.out,hk,hok];rfl
   clear hok hk HR
   go_enter Tryz.func14,Tryz.ntmps14
   go_wp2_with fail
   refine C1.mono ?_
   rintro e w1 ⟨rfl,hb2⟩
   have hb12:=hb1.trans (hb2.mono hb1.size)
   have kp1:=cellC hb2 kp
   have k01:=cellC hb2 k0
   have k11:=cellC hb2 k1
   have hp2:=hp1.below hb2 (Nat.le_refl _)
   have hf2:=hf1.below hb2 (Nat.le_refl _)
   have hr2:=hr1.below hb2 (Nat.le_refl _)
   clear kp k0 k1 hp1 hf1 hr1 C1 hb1 hb2
   go_wp2_with (go_at_call 49;refine (l6In_any kn 1 3 _).mono ?_;rw [hk'];rintro e w1x ⟨rfl,rfl⟩)
   refine (l13Look_any a b o c ll _ hW.prog hl hls (by omega) hp2).mono ?_
   rintro e w3 ⟨O,va,g,cc,v1,v2,rfl,hLk0⟩
   have hLk:=hLk0.g
   have hb13:=hb12.trans (hLk.bel.mono hb12.size)
   have k03:=cellC hLk.bel k01
   have k13:=cellC hLk.bel k11
   obtain ⟨St,CW,hP⟩:=holdsG_parts kn hk13 a b o c ll fa fb fo fc l ra rb ro rc rows _ w3 O va g cc v1 v2 hl hls hrs hW hdl hp2 hf2 hr2 hLk
   have hge:w.heap.size≤O:=by have:=hLk.ge;have:=hb12.size;omega
   clear hLk hLk0 kp1 k01 k11 hf2 hr2 hW
   go_wp2_with fail
   refine CW.mono ?_
   rintro e w4 ⟨rfl,hSt,hLk,hBut⟩
   have hb14:Below w.heap.size w w4:=But.low hb13 hBut hge
   clear hb12 hb13 hBut CW k03 k13
   go_wp2_with fail
   refine (netG_any kn (by omega) a b o c ll _ w4 O va g cc v1 v2 hl hls hdl hp2 hLk).mono ?_
   rintro e w5 ⟨X1,rfl,⟨G1,c1,va1,rb1,rc1,hN1⟩,b5⟩
   have hSt5:=hP.bel _ _ hSt b5
   have hLk5:=hLk.below b5
   have hb15:=hb14.trans (b5.mono hb14.size)
   clear hSt hb14 b5 hLk hp2
   go_wp2_with fail
   refine (hP.whole kn (Or.inr rfl) X1 G1 c1 va1 rb1 rc1 w5 hSt5 hN1.nt).mono ?_
   rintro e w6 ⟨X2,rfl,⟨G2,c2,va2,rb2,rc2,hN2⟩,b6⟩
   have hb16:=hb15.trans (b6.mono hb15.size)
   have hLk6:=hLk5.below b6
   obtain ⟨f4,f5,hblk⟩:=hLk6.blk
   have q1:w6.cell? ⟨O,1,none⟩=some (.slice va (M.deeds ll).length cc):=by simp [World.cell?,hblk]
   clear hSt5 hb15 b6 hN1 hLk5 hLk6 hblk f4 f5 hP
   generalize M.netOf (M.deeds ll) l rows kn=A at *
   generalize (M.deeds ll).length=n at *
   go_wp2_with fail
   go_loopw [10] (fun s10 wr=>∃ s:Nat,s10=.int .i64 ((s:Int)+1)∧s≤n∧Hid (∀ j,j < s→M.onS A n j=none)∧Below w6.heap.size w6 wr) (fun s10 _=>n+1 - (intOf s10).toNat)
   case atStart=>exact ⟨0,rfl,Nat.zero_le _,fun j hj=>absurd hj (Nat.not_lt_zero _),Below.refl _ _⟩
   case round =>
    obtain ⟨s,rfl,hs,HS,hb⟩:=hrel
    have m1:=cellC hb q1
    by_cases hlt:s < n
    ·have i1:(s:Int)+1≤n:=by omega
     go_wp2_with fail
     go_loopw [11] (fun s11 wi=>∃ i:Nat,s11=.int .i64 i∧i≤n∧Hid (∀ j,j < i→M.ringOn A n s [j] j j=none)∧Below w6.heap.size w6 wi) (fun s11 _=>n - (intOf s11).toNat)
     case atStart=>exact ⟨0,rfl,Nat.zero_le _,fun j hj=>absurd hj (Nat.not_lt_zero _),hb⟩
     case round =>
      clear m1 hb
      obtain ⟨i,rfl,hin,HN,hb⟩:=hrel
      have m1:=cellC hb q1
      by_cases hit:i < n
      ·have j1:(i:Int) < n:=by omega
       have O0:=own_int1 (w:=wr) (B:=wr.heap.size) (a:=i) (Nat.le_refl _)
       have b0:=below1 wr (.cells #[.int .i64 (i:Int)] 3)
       obtain ⟨a5,g5,c5,hv5,hI5,_⟩:=own_intsR (l:=M.ints [i]) (by rw [M.ints_len];exact O0)
       have bb:=hb.trans (b0.mono hb.size)
       have CR:=l14On_any X2 G2 c2 n va2 rb2 rc2 A hdl s [i] i i a5 g5 c5 _ rfl rfl hit hit (by simp;omega) hI5 (hN2.below bb)
       rw [M.ints_len] at hv5
       rw [← hv5] at CR
       rw [show ((([i]:List Nat).length+s:Nat):Int)=(s:Int)+1 from by simp;omega] at CR
       generalize hrr:M.ringOn A n s [i] i i=rr at CR
       have hy:Hid (∀ x,rr=some x→res=some x):=fun x hx=>by
        rw [← HO.out]
        exact M.some_hit (f:=fun s=>M.onS A n s) HS.out hlt (M.some_hit (f:=fun a=>M.ringOn A n s [a] a a) HN.out hit (hrr.trans hx))
       have hno:Hid (rr=none→∀ j,j < i+1→M.ringOn A n s [j] j j=none):=fun hx j hj=>by
        by_cases e:j=i
        ·rw [e,hrr,hx]
        ·exact HN.out j (by omega)
       have bs4:=bb.size
       clear hrr HN O0 hI5
       go_wp2_with fail
       refine CR.mono ?_
       rintro e w7 ⟨v5,rfl,hA⟩
       have bw5:=bb.trans (hA.bel.mono bs4)
       cases rr with
       | none =>
        go_wp2_with fail
        exact ⟨⟨i+1,by go_num,by omega,hno.out (by first | rfl | trivial),bw5⟩,by simp [intOf];omega⟩
       | some x =>
        have hx:=hy.out x rfl
        obtain ⟨q,g,k,rfl,hI⟩:=hA.yes x rfl
        go_wp2_with fail
        go_ret2
        exact ⟨q,g,k,by rw [hx];rfl,by rw [hx];exact hI,hb16.trans (bw5.mono hb16.size)⟩
      ·obtain rfl:i=n:=by omega
       have HX:Hid (∀ j,j < s+1→M.onS A i j=none):=fun j hj=>by
        by_cases e:j=s
        ·rw [e];exact M.findSome_none.2 HN.out
        ·exact HS.out j (by omega)
       clear HN HS
       go_wp2_with fail
       exact ⟨⟨s+1,by rw [show (((s+1:Nat):Int))=(s:Int)+1 from by omega],by omega,HX,hb⟩,by simp [intOf];omega⟩
    ·obtain rfl:s=n:=by omega
     have i1:¬ (s:Int)+1≤s:=by omega
     have HF:Hid (none=res):=by show _=_;rw [← HO.out];exact (M.findSome_none.2 HS.out).symm
     clear HS HO
     go_wp2_with fail
     go_ret2
     have hbw:=hb16.trans (hb.mono hb16.size)
     exact ⟨_,⟨0,by rw [← HF.out];rfl⟩,⟨0,by rw [← HF.out];exact IntS.nil _ _ _ _⟩,hbw.trans ((below1 _ _).mono hbw.size)⟩
end
end Go.Proofs.YtdningnhbplfiaaGreat
