/- impl's countKinds over usesPlace. Of threads of at most 1048576 steps. -/
import Derived.Test.YtnddmlgnngdaoaaRows
import Derived.Test.YtnddmlgnngdaoaaQjaj
import Derived.Test.YtnddmlgnngdaoaaQjak
namespace Go.Proofs.Ytnddmlgnngdaoaa
section
open Go.RowKit
theorem M.cnt_step {f:Int→Bool} {l:List M.D} {m n:Nat} {d:M.D} (hp:M.cnt f l=m+M.cnt f (l.drop n)) (hd:l.drop n=d::l.drop (n+1)) {m':Nat} (hm:m'=m+if f d.k then 1 else 0):M.cnt f l=m'+M.cnt f (l.drop (n+1)):=by
 subst hm;rw [hp,hd,M.cnt_cons];omega
theorem M.cnt_fin {f:Int→Bool} {l:List M.D} {m n:Nat} (hp:M.cnt f l=m+M.cnt f (l.drop n)) (hn:l.length≤n):m=M.cnt f l:=by
 rw [hp,List.drop_eq_nil_of_le hn];rfl
theorem ret_int {k:IntKind} {a b:Int} (h:a=b):Ending.returned (.int k a)=.returned (.int k b):=by rw [h]
set_option maxHeartbeats 400000 in
theorem cntUses_any (a:Option Addr) (b o c:Nat) (l:List M.D) (w:World) (hl:l.length≤1048576) (h:DoS w a b o l) :
  Calls Try.prog 73 #[.slice a l.length c,.func (.func 74) #[] #[]] w fun e w'=>e=.returned (.int .i64 (M.cnt M.uses l))∧Below w.heap.size w w':=by
 go_enter Try.func73,Try.ntmps73
 go_wp2_with fail
 go_loopw [5,10] (fun s5 s10 wr=>∃ m n:Nat,s5=.int .i64 m∧s10=.int .i64 n∧n≤l.length∧m≤n∧M.cnt M.uses l=m+M.cnt M.uses (l.drop n)∧Below w.heap.size w wr) (fun _ s10 _=>l.length - (intOf s10).toNat)
 case atStart=>exact ⟨0,0,rfl,rfl,Nat.zero_le _,Nat.le_refl _,by simp,Below.refl _ _⟩
 case round =>
  obtain ⟨m,n,rfl,rfl,hn,hmn,hpass,hbel⟩:=hrel
  have HP:Hid (M.cnt M.uses l=m+M.cnt M.uses (l.drop n)):=hpass
  clear hpass
  by_cases hlt:n < l.length
  ·obtain ⟨rfl⟩:=h.addr (by omega)
   have hd:=(h.row n hlt).below hbel (Nat.le_refl _)
   have HD:Hid (l.drop n=l[n]::l.drop (n+1)):=M.drop_at l n hlt
   generalize l[n]=d at hd HD
   obtain ⟨k,p,v⟩:=d
   obtain ⟨ck,cp,cv⟩:=hd
   cases hu:M.uses k
   ·go_wp2_with (go_at_call 74;refine (uses_any _ _).mono ?_;rintro e w1 ⟨rfl,rfl⟩)
    exact ⟨⟨m,n+1,rfl,by go_num,by omega,by omega,M.cnt_step HP.out HD.out (by simp [hu]),hbel.alloc hbel.size _⟩,by simp [intOf];omega⟩
   ·go_wp2_with (go_at_call 74;refine (uses_any _ _).mono ?_;rintro e w1 ⟨rfl,rfl⟩)
    exact ⟨⟨m+1,n+1,by go_num,by go_num,by omega,by omega,M.cnt_step HP.out HD.out (by simp [hu]),hbel.alloc hbel.size _⟩,by simp [intOf];omega⟩
  ·go_wp2_with fail
   go_ret
   exact ⟨ret_int (by rw [M.cnt_fin HP.out (by omega)]),hbel⟩
end
end Go.Proofs.Ytnddmlgnngdaoaa
