/- impl's countKinds over usesPlace. Of threads of at most 1048576 steps. Whether a number is among others: slices.Index and slices.Contains over numbers, spec.l12Has. Of at most 1048576 numbers. -/
import Derived.Test.YtnddmlgnngdaoaaGreatDoorRows
import Derived.Test.YtnddmlgnngdaoaaGreatDoorQsac
import Derived.Test.YtnddmlgnngdaoaaGreatDoorQsag
namespace Go.Proofs.YtnddmlgnngdaoaaGreatDoor
section
open Go.RowKit
theorem M.cnt_step {f:Int→Bool} {l:List M.D} {m n:Nat} {d:M.D} (hp:M.cnt f l=m+M.cnt f (l.drop n)) (hd:l.drop n=d::l.drop (n+1)) {m':Nat} (hm:m'=m+if f d.k then 1 else 0):M.cnt f l=m'+M.cnt f (l.drop (n+1)):=by
 subst hm;rw [hp,hd,M.cnt_cons];omega
theorem M.cnt_fin {f:Int→Bool} {l:List M.D} {m n:Nat} (hp:M.cnt f l=m+M.cnt f (l.drop n)) (hn:l.length≤n):m=M.cnt f l:=by
 rw [hp,List.drop_eq_nil_of_le hn];rfl
theorem ret_int {k:IntKind} {a b:Int} (h:a=b):Ending.returned (.int k a)=.returned (.int k b):=by rw [h]
set_option maxHeartbeats 400000 in
theorem cntUses_any (a:Option Addr) (b o c:Nat) (l:List M.D) (w:World) (hl:l.length≤1048576) (h:DoS w a b o l) :
  Calls Tryz.prog 58 #[.slice a l.length c,.func (.func 59) #[] #[]] w fun e w'=>e=.returned (.int .i64 (M.cnt M.uses l))∧Below w.heap.size w w':=by
 go_enter Tryz.func58,Tryz.ntmps58
 go_wp2_with fail
 go_loopw [5,10] (fun s5 s10 wr=>∃ m n:Nat,s5=.int .i64 m∧s10=.int .i64 n∧n≤l.length∧m≤n∧M.cnt M.uses l=m+M.cnt M.uses (l.drop n)∧Below w.heap.size w wr) (fun _ s10 _=>l.length - (intOf s10).toNat)
 case atStart=>exact ⟨0,0,rfl,rfl,Nat.zero_le _,Nat.le_refl _,by simp,Below.refl _ _⟩
 case round =>
  obtain ⟨m,n,rfl,rfl,hn,hmn,hpass,hbel⟩:=hrel
  have HP:Hid (M.cnt M.uses l=m+M.cnt M.uses (l.drop n)):=hpass
  clear hpass
  by_cases hlt:n < l.length
  ·obtain ⟨rfl⟩:=h.addr (by omega)
   have hd:=(h.row n hlt).below hbel (Nat.le_refl _)
   have HD:Hid (l.drop n=l[n]::l.drop (n+1)):=M.drop_at l n hlt
   generalize l[n]=d at hd HD
   obtain ⟨k,p,v⟩:=d
   obtain ⟨ck,cp,cv⟩:=hd
   cases hu:M.uses k
   ·go_wp2_with (go_at_call 59;refine (uses_any _ _).mono ?_;rintro e w1 ⟨rfl,rfl⟩)
    exact ⟨⟨m,n+1,rfl,by go_num,by omega,by omega,M.cnt_step HP.out HD.out (by simp [hu]),hbel.alloc hbel.size _⟩,by simp [intOf];omega⟩
   ·go_wp2_with (go_at_call 59;refine (uses_any _ _).mono ?_;rintro e w1 ⟨rfl,rfl⟩)
    exact ⟨⟨m+1,n+1,by go_num,by go_num,by omega,by omega,M.cnt_step HP.out HD.out (by simp [hu]),hbel.alloc hbel.size _⟩,by simp [intOf];omega⟩
  ·go_wp2_with fail
   go_ret
   exact ⟨ret_int (by rw [M.cnt_fin HP.out (by omega)]),hbel⟩
end
section
open Go.RowKit
namespace M
def has (l:List Int) (v:Int):Bool:=l.contains v
theorem has_hit {l:List Int} {v:Int} {n:Nat} (hn:n < l.length) (h:l[n]=v):has l v=true:=by
 simp [has];rw [← h];exact List.getElem_mem hn
theorem has_fin {l:List Int} {v:Int} (h:∀ i (_:i < l.length),l[i]≠v):has l v=false:=by
 simp only [has,List.contains_eq_mem,decide_eq_false_iff_not]
 intro hm
 obtain ⟨i,hi,e⟩:=List.getElem_of_mem hm
 exact h i hi e
end M
set_option maxHeartbeats 400000 in
theorem indexI_any (a:Option Addr) (b o c:Nat) (l:List Int) (v:Int) (w:World) (hl:l.length≤1048576) (h:IntS w a b o l) :
  Calls Tryz.prog 188 #[.slice a l.length c,.int .i64 v] w fun e w'=>∃ r:Int,e=.returned (.int .i64 r)∧decide (0≤r)=M.has l v∧w'=w:=by
 go_enter Tryz.func188,Tryz.ntmps188
 go_wp2_with fail
 go_loopw [8] (fun s8 wr=>∃ n:Nat,s8=.int .i64 n∧n≤l.length∧Hid (∀ i (_:i < n) (h:i < l.length),l[i]≠v)∧wr=w) (fun s8 _=>l.length - (intOf s8).toNat)
 case atStart=>exact ⟨0,rfl,Nat.zero_le _,fun i hi=>absurd hi (Nat.not_lt_zero _),rfl⟩
 case round =>
  obtain ⟨n,rfl,hn,HA,rfl⟩:=hrel
  by_cases hlt:n < l.length
  ·obtain ⟨rfl⟩:=h.addr (by omega)
   have hx:=h.row n hlt
   obtain ⟨y,hy⟩:∃ y,l[n]=y:=⟨_,rfl⟩
   have HY:Hid (l[n]=y):=hy
   rw [hy] at hx
   clear hy
   have i1:(n:Int) < l.length:=by omega
   by_cases e:v=y
   ·subst e
    go_wp2_with fail
    go_ret
    exact ⟨n,rfl,by rw [M.has_hit hlt HY.out];simp,rfl⟩
   ·have e':(v==y)=false:=by simpa using e
    go_wp2_with fail
    exact ⟨⟨n+1,by go_num,by omega,fun i hi hl=>by
     by_cases ei:i=n
     ·subst ei;rw [HY.out];exact fun h=>e h.symm
     ·exact HA.out i (by omega) hl,trivial⟩,by simp [intOf];omega⟩
  ·go_wp2_with fail
   go_ret
   exact ⟨-1,rfl,by rw [M.has_fin (fun i hi=>HA.out i (by omega) hi)];rfl,rfl⟩
theorem containsI_any (a:Option Addr) (b o c:Nat) (l:List Int) (v:Int) (w:World) (hl:l.length≤1048576) (h:IntS w a b o l) :
  Calls Tryz.prog 169 #[.slice a l.length c,.int .i64 v] w fun e w'=>e=.returned (.bool (M.has l v))∧w'=w:=by
 go_enter Tryz.func169,Tryz.ntmps169
 go_wp2_with (go_at_call 188;refine (indexI_any a b o c l v _ hl h).mono ?_;rintro e w' ⟨r,rfl,hr,rfl⟩)
 go_ret
 exact ⟨rfl,rfl⟩
end
end Go.Proofs.YtnddmlgnngdaoaaGreatDoor
