/- Whether a number is among others: slices.Index and slices.Contains over numbers, spec.l12Has. Of at most 1048576 numbers. The law's own copying of a program: laws.toDo, toDoS, toDoSS, toProg. Of programs of at most 1048576 threads, each of at most 1048576 steps. -/
import Derived.Deep.OwnRows
import Derived.Test.YtdningnhbplfiaaGreatRows
import Derived.Test.YtdningnhbplfiaaGreatQnaa
namespace Go.Proofs.YtdningnhbplfiaaGreat
section
open Go.RowKit
namespace M
def has (l:List Int) (v:Int):Bool:=l.contains v
theorem has_hit {l:List Int} {v:Int} {n:Nat} (hn:n < l.length) (h:l[n]=v):has l v=true:=by
 simp [has];rw [← h];exact List.getElem_mem hn
theorem has_fin {l:List Int} {v:Int} (h:∀ i (_:i < l.length),l[i]≠v):has l v=false:=by
 simp only [has,List.contains_eq_mem,decide_eq_false_iff_not]
 intro hm
 obtain ⟨i,hi,e⟩:=List.getElem_of_mem hm
 exact h i hi e
end M
set_option maxHeartbeats 400000 in
theorem indexI_any (a:Option Addr) (b o c:Nat) (l:List Int) (v:Int) (w:World) (hl:l.length≤1048576) (h:IntS w a b o l) :
  Calls Tryz.prog 174 #[.slice a l.length c,.int .i64 v] w fun e w'=>∃ r:Int,e=.returned (.int .i64 r)∧decide (0≤r)=M.has l v∧w'=w:=by
 go_enter Tryz.func174,Tryz.ntmps174
 go_wp2_with fail
 go_loopw [8] (fun s8 wr=>∃ n:Nat,s8=.int .i64 n∧n≤l.length∧Hid (∀ i (_:i < n) (h:i < l.length),l[i]≠v)∧wr=w) (fun s8 _=>l.length - (intOf s8).toNat)
 case atStart=>exact ⟨0,rfl,Nat.zero_le _,fun i hi=>absurd hi (Nat.not_lt_zero _),rfl⟩
 case round =>
  obtain ⟨n,rfl,hn,HA,rfl⟩:=hrel
  by_cases hlt:n < l.length
  ·obtain ⟨rfl⟩:=h.addr (by omega)
   have hx:=h.row n hlt
   obtain ⟨y,hy⟩:∃ y,l[n]=y:=⟨_,rfl⟩
   have HY:Hid (l[n]=y):=hy
   rw [hy] at hx
   clear hy
   have i1:(n:Int) < l.length:=by omega
   by_cases e:v=y
   ·subst e
    go_wp2_with fail
    go_ret
    exact ⟨n,rfl,by rw [M.has_hit hlt HY.out];simp,rfl⟩
   ·have e':(v==y)=false:=by simpa using e
    go_wp2_with fail
    exact ⟨⟨n+1,by go_num,by omega,fun i hi hl=>by
     by_cases ei:i=n
     ·subst ei;rw [HY.out];exact fun h=>e h.symm
     ·exact HA.out i (by omega) hl,trivial⟩,by simp [intOf];omega⟩
  ·go_wp2_with fail
   go_ret
   exact ⟨-1,rfl,by rw [M.has_fin (fun i hi=>HA.out i (by omega) hi)];rfl,rfl⟩
theorem containsI_any (a:Option Addr) (b o c:Nat) (l:List Int) (v:Int) (w:World) (hl:l.length≤1048576) (h:IntS w a b o l) :
  Calls Tryz.prog 221 #[.slice a l.length c,.int .i64 v] w fun e w'=>e=.returned (.bool (M.has l v))∧w'=w:=by
 go_enter Tryz.func221,Tryz.ntmps221
 go_wp2_with (go_at_call 174;refine (indexI_any a b o c l v _ hl h).mono ?_;rintro e w' ⟨r,rfl,hr,rfl⟩)
 go_ret
 exact ⟨rfl,rfl⟩
set_option maxHeartbeats 400000 in
theorem l12Has_any (a:Option Addr) (b o c:Nat) (l:List Int) (v:Int) (w:World) (hl:l.length≤1048576) (h:IntS w a b o l) :
  Calls Tryz.prog 106 #[.slice a l.length c,.int .i64 v] w fun e w'=>e=.returned (.bool (M.has l v))∧w'=w:=by
 go_enter Tryz.func106,Tryz.ntmps106
 go_wp2_with fail
 go_loopw [5] (fun s5 wr=>∃ n:Nat,s5=.int .i64 n∧n≤l.length∧Hid (∀ i (_:i < n) (h:i < l.length),l[i]≠v)∧wr=w) (fun s5 _=>l.length - (intOf s5).toNat)
 case atStart=>exact ⟨0,rfl,Nat.zero_le _,fun i hi=>absurd hi (Nat.not_lt_zero _),rfl⟩
 case round =>
  obtain ⟨n,rfl,hn,HA,rfl⟩:=hrel
  by_cases hlt:n < l.length
  ·obtain ⟨rfl⟩:=h.addr (by omega)
   have hx:=h.row n hlt
   obtain ⟨y,hy⟩:∃ y,l[n]=y:=⟨_,rfl⟩
   have HY:Hid (l[n]=y):=hy
   rw [hy] at hx
   clear hy
   have i1:(n:Int) < l.length:=by omega
   by_cases e:y=v
   ·subst e
    go_wp2_with fail
    go_ret
    exact ⟨ret_bool (M.has_hit hlt HY.out).symm,rfl⟩
   ·have e':(y==v)=false:=by simpa using e
    go_wp2_with fail
    exact ⟨⟨n+1,by go_num,by omega,fun i hi hl=>by
     by_cases ei:i=n
     ·subst ei;rw [HY.out];exact e
     ·exact HA.out i (by omega) hl,trivial⟩,by simp [intOf];omega⟩
  ·go_wp2_with fail
   go_ret
   exact ⟨ret_bool (M.has_fin (fun i hi=>HA.out i (by omega) hi)).symm,rfl⟩
end
section
open Go.RowKit
theorem run_make_rows {P:Program} (t e:TypeId) (z:Value) (size bytes:Nat) (ht:P.underlying t=some (.slice e)) (hinfo:(P.info? e).map (fun i=>(i.zero,i.size,i.bytes))=some (some z,size,bytes))
  (n:Nat) (hbytes:bytes * n≤281474976710656) (h63:n≤9223372036854775807) (w:World) :
  (Instr.makeSlice t (.int .i64 (n:Int)) (.int .i64 (n:Int))).run P w=.ok (.slice (some ⟨w.heap.size,0,none⟩) n n) (w.alloc (.cells (madeCells z.cells (n * size)) e)):=by
 obtain ⟨i,hi,hzz⟩:=Option.map_eq_some_iff.1 hinfo
 simp only [Prod.mk.injEq] at hzz
 obtain ⟨hz,hs,hb⟩:=hzz
 have hb':(i.bytes:Int) * (n:Int)≤281474976710656:=by
  rw [hb]
  have h:((bytes * n:Nat):Int)≤281474976710656:=by omega
  rwa [Int.natCast_mul] at h
 have hr:=run_make (P:=P) w t e i z ht hi hz .i64 .i64 n n (by omega) (Int.le_refl _) hb' (by omega)
 simp only [Int.toNat_natCast,hs] at hr
 exact hr
theorem Tryz.info122:(Tryz.prog.info? 122).map (fun i=>(i.zero,i.size,i.bytes))=some (some (.agg #[.int .i64 0,.int .i64 0,.int .i64 0]),3,24):=by kernel_rfl
theorem Tryz.info125:(Tryz.prog.info? 125).map (fun i=>(i.zero,i.size,i.bytes))=some (some (.slice none 0 0),1,24):=by kernel_rfl
end
end Go.Proofs.YtdningnhbplfiaaGreat
