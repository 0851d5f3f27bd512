/- The library's contracts, laid at this program: the table of numbers, and one fact a field. No condition. What is seen in a way that is ok may be seen of the program: plainly. No condition. -/
import Derived.Shelf.Small.Wraps
import Derived.Shelf.Strings.LastIndexAll
import Derived.Deep.OwnRows
import Derived.Test.YtnddmlgnngdaoaaGreatDoorRows
import Derived.Test.YtnddmlgnngdaoaaGreatDoorQsbd
namespace Go.Proofs.YtnddmlgnngdaoaaGreatDoor
section
open Go.Shelf Go.Proofs
def Tryz.lays103_ren:Go.Shelf.Ren:=⟨fun | 103=>69 | 210=>103 | 206=>154 | n=>n,fun | 9=>9 | 4=>4 | 24=>135 | 3=>3 | n=>n,fun | n=>n⟩
theorem Tryz.lays103:Go.Proofs.Lays.n103 Tryz.prog Tryz.lays103_ren:={
 mixed:=by kernel_rfl
 f103:=Tryz.func69.trans (congrArg some (by kernel_rfl))
 f206:=Tryz.func154.trans (congrArg some (by kernel_rfl))
 f210:=Tryz.func103.trans (congrArg some (by kernel_rfl))
 t3:=Tryz.underlying3
 a3:=Tryz.isAgg3
 z3:=Tryz.sizeOf3
 v3:=Tryz.zeroValue3
 t4:=Tryz.underlying4
 a4:=Tryz.isAgg4
 z4:=Tryz.sizeOf4
 v4:=Tryz.zeroValue4
 t9:=Tryz.underlying9
 a9:=Tryz.isAgg9
 z9:=Tryz.sizeOf9
 v9:=Tryz.zeroValue9
 t24:=Tryz.underlying135
 a24:=Tryz.isAgg135
 z24:=Tryz.sizeOf135
 v24:=Tryz.zeroValue135 }
def Tryz.lays104_ren:Go.Shelf.Ren:=⟨fun | 104=>66 | 211=>99 | 207=>150 | n=>n,fun | 9=>9 | 4=>4 | 24=>135 | 3=>3 | n=>n,fun | n=>n⟩
theorem Tryz.lays104:Go.Proofs.Lays.n104 Tryz.prog Tryz.lays104_ren:={
 mixed:=by kernel_rfl
 f104:=Tryz.func66.trans (congrArg some (by kernel_rfl))
 f207:=Tryz.func150.trans (congrArg some (by kernel_rfl))
 f211:=Tryz.func99.trans (congrArg some (by kernel_rfl))
 t3:=Tryz.underlying3
 a3:=Tryz.isAgg3
 z3:=Tryz.sizeOf3
 v3:=Tryz.zeroValue3
 t4:=Tryz.underlying4
 a4:=Tryz.isAgg4
 z4:=Tryz.sizeOf4
 v4:=Tryz.zeroValue4
 t9:=Tryz.underlying9
 a9:=Tryz.isAgg9
 z9:=Tryz.sizeOf9
 v9:=Tryz.zeroValue9
 t24:=Tryz.underlying135
 a24:=Tryz.isAgg135
 z24:=Tryz.sizeOf135
 v24:=Tryz.zeroValue135 }
def Tryz.lays148_ren:Go.Shelf.Ren:=⟨fun | 148=>67 | 222=>100 | 223=>101 | 269=>151 | n=>n,fun | 9=>9 | 3=>3 | 4=>4 | 5=>5 | 146=>236 | 51=>134 | 46=>191 | n=>n,fun | n=>n⟩
theorem Tryz.lays148:Go.Proofs.Lays.n148 Tryz.prog Tryz.lays148_ren:={
 mixed:=by kernel_rfl
 f148:=Tryz.func67.trans (congrArg some (by kernel_rfl))
 f222:=Tryz.func100.trans (congrArg some (by kernel_rfl))
 f223:=Tryz.func101.trans (congrArg some (by kernel_rfl))
 f269:=Tryz.func151.trans (congrArg some (by kernel_rfl))
 t3:=Tryz.underlying3
 a3:=Tryz.isAgg3
 z3:=Tryz.sizeOf3
 v3:=Tryz.zeroValue3
 t4:=Tryz.underlying4
 a4:=Tryz.isAgg4
 z4:=Tryz.sizeOf4
 v4:=Tryz.zeroValue4
 t5:=Tryz.underlying5
 a5:=Tryz.isAgg5
 z5:=Tryz.sizeOf5
 v5:=Tryz.zeroValue5
 t9:=Tryz.underlying9
 a9:=Tryz.isAgg9
 z9:=Tryz.sizeOf9
 v9:=Tryz.zeroValue9
 t46:=Tryz.underlying191
 a46:=Tryz.isAgg191
 z46:=Tryz.sizeOf191
 v46:=Tryz.zeroValue191
 t51:=Tryz.underlying134
 a51:=Tryz.isAgg134
 z51:=Tryz.sizeOf134
 v51:=Tryz.zeroValue134
 t146:=Tryz.underlying236
 a146:=Tryz.isAgg236
 z146:=Tryz.sizeOf236
 v146:=Tryz.zeroValue236 }
open Go.RowKit in
theorem Tryz.strings_CutPrefix (s p:ByteArray) (w:World) :
  Calls Tryz.prog 69 #[.string s,.string p] w fun e w'=>e=.returned (.tuple #[.string ⟨(Lib.trimPrefix s.data.toList p.data.toList).toArray⟩,.bool (Lib.hasPrefix s.data.toList p.data.toList)])∧w'=w:=Any.strings_CutPrefix Tryz.lays103 s p w
open Go.RowKit in
theorem Tryz.strings_CutSuffix (s p:ByteArray) (w:World) (hs:s.size≤9223372036854775807) :
  Calls Tryz.prog 66 #[.string s,.string p] w fun e w'=>e=.returned (.tuple #[.string ⟨(Lib.trimSuffix s.data.toList p.data.toList).toArray⟩,.bool (Lib.hasSuffix s.data.toList p.data.toList)])∧w'=w:=Any.strings_CutSuffix Tryz.lays104 s p w hs
open Go.RowKit Go.Lib in
theorem Tryz.strings_LastIndex (s sub:ByteArray) (hs:s.size < 4611686018427387904) (w:World) :
  Calls Tryz.prog 67 #[.string s,.string sub] w fun e w'=>e=.returned (.int .i64 (Lib.lastIndex s.data.toList sub.data.toList))∧w'=w:=Any.strings_LastIndex Tryz.lays148 s sub hs w
end
section
namespace M
theorem rdN_append (l m:List De):rdN (l++m)=rdN l+rdN m:=by simp [rdN]
theorem rdN_deD (t i:Nat) (lr:Int) (n:Nat) (d:D):rdN (deD t i lr n d)=if reads d.k then 1 else 0:=by
 unfold deD rdN
 by_cases h:d.k==9
 ·have h9:d.k=9:=by simpa using h
  have hu:reads d.k=false:=by rw [h9];decide
  rw [if_pos h];simp [De.reads,hu]
 ·rw [if_neg h]
  cases hu:reads d.k<;>simp [De.reads,hu]
theorem rdN_deT (t:Nat):∀ (l:List D) (i:Nat) (lr:Int) (n:Nat),rdN (deT t i lr n l)=cnt reads l
 | [],_,_,_=>by simp [deT,rdN,cnt]
 | d::l,i,lr,n=>by
  rw [deT,rdN_append,rdN_deD,rdN_deT t l,cnt_cons]
theorem rdN_deF:∀ (ll:List (List D)) (t n:Nat),rdN (deF t n ll)=tot reads ll
 | [],_,_=>by simp [deF,rdN,tot]
 | l::ll,t,n=>by rw [deF,rdN_append,rdN_deT,rdN_deF ll,tot]
theorem rdAt_len (ds:List De) (l:List Int):∀ (xs:List De) (n:Nat),(rdAt ds l n xs).length=rdN xs
 | [],_=>by simp [rdAt,rdN]
 | x::xs,n=>by
  have ih:=rdAt_len ds l xs (n+1)
  unfold rdAt
  cases hx:x.reads
  ·simpa [rdN,hx] using ih
  ·simp [rdN,hx];simpa [rdN] using ih
theorem deed_v3 {ll:List (List D)} (h:prog ll=true):∀ x∈deeds ll,0≤x.d.v∧x.d.v≤3:=by
 intro x hx
 have:=deed_do h x hx
 simp only [doOk,Bool.and_eq_true,valOk] at this
 have hv:=this.2
 split at hv
 ·simp at hv;omega
 ·simp at hv;omega
theorem vl_in {ll:List (List D)} {l:List Int} {rows:List (List Int)} (h:Way ll l rows) (n:Nat) (hn:n < (deeds ll).length):0≤vl (deeds ll) l n∧vl (deeds ll) l n≤3:=by
 obtain ⟨q,hq,_,e⟩:=vl_of h.inn h.len.out h.zero h.fin n hn
 rw [e]
 exact deed_v3 h.prog _ (List.getElem_mem hq)
theorem rdAt_in {ll:List (List D)} {l:List Int} {rows:List (List Int)} (h:Way ll l rows):∀ (xs:List De) (n:Nat),n+xs.length≤(deeds ll).length→vals (rdAt (deeds ll) l n xs)=true
 | [],_,_=>by simp [rdAt,vals]
 | x::xs,n,hn=>by
  simp only [List.length_cons] at hn
  have ih:=rdAt_in h xs (n+1) (by omega)
  have hv:=vl_in h n (by omega)
  unfold rdAt
  split
  ·simp only [vals,List.all_cons,Bool.and_eq_true,decide_eq_true_eq] at ih ⊢
   exact ⟨hv,ih⟩
  ·exact ih
theorem last_in {ll:List (List D)} {l:List Int} {rows:List (List Int)} (h:Way ll l rows):∀ (rs:List (List Int)),(∀ r∈rs,r∈rows)→vals (seenL (deeds ll) l rs)=true
 | [],_=>by simp [seenL,vals]
 | r::rs,hr=>by
  have ih:=last_in h rs (fun x hx=>hr x (List.mem_cons_of_mem _ hx))
  have hv:0≤lastOf (deeds ll) l r∧lastOf (deeds ll) l r≤3:=by
   rcases Nat.eq_zero_or_pos r.length with h0 | h0
   ·rw [List.length_eq_zero_iff.1 h0,last_nil];omega
   ·rw [last_some _ _ h0]
    obtain ⟨m0,m1⟩:=h.mem r (hr r (List.mem_cons_self ..)) _ (List.getElem_mem (show r.length - 1 < r.length by omega))
    obtain ⟨q,hq⟩:=Int.eq_ofNat_of_zero_le m0
    rw [hq] at m1 ⊢
    exact vl_in h q (by omega)
  simp only [seenL,List.map_cons,vals,List.all_cons,Bool.and_eq_true,decide_eq_true_eq] at ih ⊢
  exact ⟨hv,ih⟩
theorem exec_seenOk {ll:List (List D)} {l:List Int} {rows:List (List Int)} (h:execOk ll l rows=true):seenOk ll (execSeen ll l rows).1 (execSeen ll l rows).2=true:=by
 have W:=way_of h
 have e:execSeen ll l rows=(seenR (deeds ll) l,seenL (deeds ll) l rows):=by simp [execSeen,h]
 have h1:((seenR (deeds ll) l).length:Int)=nreads ll:=by
  rw [nreads_ok W.prog,seenR,rdAt_len,deeds,rdN_deF]
 have h2:(seenL (deeds ll) l rows).length=3:=by rw [seenL,List.length_map,W.three.out]
 have h3:vals (seenR (deeds ll) l)=true:=rdAt_in W _ _ (by simp)
 have h4:vals (seenL (deeds ll) l rows)=true:=last_in W rows (fun _ h=>h)
 rw [e]
 simp only [seenOk,h1,h2,h3,h4,decide_true,Bool.and_true]
end M
end
end Go.Proofs.YtnddmlgnngdaoaaGreatDoor
