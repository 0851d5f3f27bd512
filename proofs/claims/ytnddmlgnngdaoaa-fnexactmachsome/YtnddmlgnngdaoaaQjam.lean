/- impl's copiesOk, readersOk, countKinds and threadOk. Of threads of at most 1048576 steps. -/
import Derived.Test.YtnddmlgnngdaoaaRows
import Derived.Test.YtnddmlgnngdaoaaQjal
namespace Go.Proofs.Ytnddmlgnngdaoaa
section
open Go.RowKit
theorem M.copies_bad {l:List M.D} {r:Bool} {n:Nat} {d:M.D} (hp:M.copies false l=M.copies r (l.drop n)) (hd:l.drop n=d::l.drop (n+1)) (hb:(d.k==3&&!r)=true):M.copies false l=false:=by
 rw [hp,hd];simp only [M.copies,hb,if_true]
theorem M.copies_ok {l:List M.D} {r r':Bool} {n:Nat} {d:M.D} (hp:M.copies false l=M.copies r (l.drop n)) (hd:l.drop n=d::l.drop (n+1)) (hb:(d.k==3&&!r)=false) (hr:r'=(r||M.reads d.k)):M.copies false l=M.copies r' (l.drop (n+1)):=by
 subst hr
 rw [hp,hd];simp only [M.copies,hb];rfl
theorem M.copies_fin {l:List M.D} {r:Bool} {n:Nat} (hp:M.copies false l=M.copies r (l.drop n)) (hn:l.length≤n):M.copies false l=true:=by
 rw [hp,List.drop_eq_nil_of_le hn];rfl
set_option maxHeartbeats 400000 in
theorem copies_any (a:Option Addr) (b o c:Nat) (l:List M.D) (w:World) (hl:l.length≤1048576) (h:DoS w a b o l) :
  Calls Try.prog 89 #[.slice a l.length c] w fun e w'=>e=.returned (.bool (M.copies false l))∧Below w.heap.size w w':=by
 go_enter Try.func89,Try.ntmps89
 go_wp2_with fail
 go_loopw [3,8] (fun s3 s8 wr=>∃ (r:Bool) (n:Nat),s3=.bool r∧s8=.int .i64 n∧n≤l.length∧M.copies false l=M.copies r (l.drop n)∧Below w.heap.size w wr) (fun _ s8 _=>l.length - (intOf s8).toNat)
 case atStart=>exact ⟨false,0,rfl,rfl,Nat.zero_le _,rfl,Below.refl _ _⟩
 case round =>
  obtain ⟨r,n,rfl,rfl,hn,hpass,hbel⟩:=hrel
  have HP:Hid (M.copies false l=M.copies r (l.drop n)):=hpass
  clear hpass
  by_cases hlt:n < l.length
  ·obtain ⟨rfl⟩:=h.addr (by omega)
   have hd:=(h.row n hlt).below hbel (Nat.le_refl _)
   have HD:Hid (l.drop n=l[n]::l.drop (n+1)):=M.drop_at l n hlt
   generalize l[n]=d at hd HD
   obtain ⟨k,p,v⟩:=d
   obtain ⟨ck,cp,cv⟩:=hd
   by_cases h3:k=3
   ·subst h3
    cases r
    ·go_wp2_with (go_at_call 91;refine (reads_any _ _).mono ?_;rintro e w1 ⟨rfl,rfl⟩)
     go_ret
     exact ⟨ret_bool (M.copies_bad HP.out HD.out rfl).symm,hbel.alloc hbel.size _⟩
    ·go_wp2_with (go_at_call 91;refine (reads_any _ _).mono ?_;rintro e w1 ⟨rfl,rfl⟩)
     exact ⟨⟨_,n+1,rfl,by go_num,by omega,M.copies_ok HP.out HD.out rfl rfl,hbel.alloc hbel.size _⟩,by simp [intOf];omega⟩
   ·have e3:(k==3)=false:=by simpa using h3
    clear h3
    cases r
    ·go_wp2_with (go_at_call 91;refine (reads_any _ _).mono ?_;rintro e w1 ⟨rfl,rfl⟩)
     exact ⟨⟨_,n+1,rfl,by go_num,by omega,M.copies_ok HP.out HD.out (by simp [e3]) (by simp),hbel.alloc hbel.size _⟩,by simp [intOf];omega⟩
    ·go_wp2_with (go_at_call 91;refine (reads_any _ _).mono ?_;rintro e w1 ⟨rfl,rfl⟩)
     exact ⟨⟨_,n+1,rfl,by go_num,by omega,M.copies_ok HP.out HD.out (by simp) (by simp),hbel.alloc hbel.size _⟩,by simp [intOf];omega⟩
  ·go_wp2_with fail
   go_ret
   exact ⟨ret_bool (M.copies_fin HP.out (by omega)).symm,hbel⟩
theorem M.readers_fin {l:List M.D} {i:Bool} {n:Nat} (hp:M.readers false l=M.readers i (l.drop n)) (hn:l.length≤n):M.readers false l=!i:=by
 rw [hp,List.drop_eq_nil_of_le hn];rfl
theorem M.readers_step {l:List M.D} {i:Bool} {n:Nat} {d:M.D} (hp:M.readers false l=M.readers i (l.drop n)) (hd:l.drop n=d::l.drop (n+1)):M.readers false l=M.readers i (d::l.drop (n+1)):=by
 rw [hp,hd]
set_option maxHeartbeats 400000 in
theorem readers_any (a:Option Addr) (b o c:Nat) (l:List M.D) (w:World) (hl:l.length≤1048576) (h:DoS w a b o l) :
  Calls Try.prog 90 #[.slice a l.length c] w fun e w'=>e=.returned (.bool (M.readers false l))∧Below w.heap.size w w':=by
 go_enter Try.func90,Try.ntmps90
 go_wp2_with fail
 go_loopw [3,8] (fun s3 s8 wr=>∃ (i:Bool) (n:Nat),s3=.bool i∧s8=.int .i64 n∧n≤l.length∧M.readers false l=M.readers i (l.drop n)∧Below w.heap.size w wr) (fun _ s8 _=>l.length - (intOf s8).toNat)
 case atStart=>exact ⟨false,0,rfl,rfl,Nat.zero_le _,rfl,Below.refl _ _⟩
 case round =>
  obtain ⟨i,n,rfl,rfl,hn,hpass,hbel⟩:=hrel
  have HP:Hid (M.readers false l=M.readers i (l.drop n)):=hpass
  clear hpass
  by_cases hlt:n < l.length
  ·obtain ⟨rfl⟩:=h.addr (by omega)
   have hd:=(h.row n hlt).below hbel (Nat.le_refl _)
   have HD:Hid (l.drop n=l[n]::l.drop (n+1)):=M.drop_at l n hlt
   generalize l[n]=d at hd HD
   obtain ⟨k,p,v⟩:=d
   obtain ⟨ck,cp,cv⟩:=hd
   have HS:Hid (M.readers false l=M.readers i (⟨k,p,v⟩::l.drop (n+1))):=M.readers_step HP.out HD.out
   clear HP HD
   by_cases h7:k=7
   ·subst h7
    cases i
    ·go_wp2_with fail
     exact ⟨⟨_,n+1,rfl,by go_num,by omega,HS.out.trans (by simp [M.readers]),hbel.alloc hbel.size _⟩,by simp [intOf];omega⟩
    ·go_wp2_with fail
     go_ret
     exact ⟨ret_bool (HS.out.trans (by simp [M.readers])).symm,hbel.alloc hbel.size _⟩
   ·have e7:(k==7)=false:=by simpa using h7
    clear h7
    by_cases h8:k=8
    ·subst h8
     cases i
     ·go_wp2_with fail
      go_ret
      exact ⟨ret_bool (HS.out.trans (by simp [M.readers])).symm,hbel.alloc hbel.size _⟩
     ·go_wp2_with fail
      exact ⟨⟨_,n+1,rfl,by go_num,by omega,HS.out.trans (by simp [M.readers]),hbel.alloc hbel.size _⟩,by simp [intOf];omega⟩
    ·have e8:(k==8)=false:=by simpa using h8
     clear h8
     by_cases h9:k=9
     ·subst h9
      cases i
      ·go_wp2_with fail
       exact ⟨⟨_,n+1,rfl,by go_num,by omega,HS.out.trans (by simp [M.readers]),hbel.alloc hbel.size _⟩,by simp [intOf];omega⟩
      ·go_wp2_with fail
       go_ret
       exact ⟨ret_bool (HS.out.trans (by simp [M.readers])).symm,hbel.alloc hbel.size _⟩
     ·have e9:(k==9)=false:=by simpa using h9
      clear h9
      go_wp2_with fail
      exact ⟨⟨_,n+1,rfl,by go_num,by omega,HS.out.trans (by simp [M.readers,e7,e8,e9]),hbel.alloc hbel.size _⟩,by simp [intOf];omega⟩
  ·go_wp2_with fail
   go_ret
   exact ⟨ret_bool (M.readers_fin HP.out (by omega)).symm,hbel⟩
set_option maxHeartbeats 400000 in
theorem ithread_any (a:Option Addr) (b o c:Nat) (l:List M.D) (w:World) (hl:l.length≤1048576) (h:DoS w a b o l) :
  Calls Try.prog 72 #[.slice a l.length c] w fun e w'=>e=.returned (.bool (M.thread l))∧Below w.heap.size w w':=by
 by_cases h7:l.length≤7
 ·have h7':(l.length:Int)≤7:=by omega
  cases hf:M.form l
  ·go_enter Try.func72,Try.ntmps72
   go_wp2_with (go_at_call 88;refine (form_any a b o c l _ hl h).mono ?_;rintro e w1 ⟨rfl,hb1⟩)
   go_ret
   exact ⟨ret_bool (by simp [M.thread,hf]),hb1⟩
  ·cases hc:M.copies false l
   ·go_enter Try.func72,Try.ntmps72
    go_wp2_with (first | (go_at_call 88;refine (form_any a b o c l _ hl h).mono ?_;rintro e w1 ⟨rfl,hb1⟩) | (go_at_call 89;refine (copies_any a b o c l _ hl (h.below hb1 (Nat.le_refl _))).mono ?_;rintro e w2 ⟨rfl,hb2⟩))
    go_ret
    exact ⟨ret_bool (by simp [M.thread,hc]),hb1.trans (hb2.mono hb1.size)⟩
   ·go_enter Try.func72,Try.ntmps72
    go_wp2_with (first | (go_at_call 88;refine (form_any a b o c l _ hl h).mono ?_;rintro e w1 ⟨rfl,hb1⟩) | (go_at_call 89;refine (copies_any a b o c l _ hl (h.below hb1 (Nat.le_refl _))).mono ?_;rintro e w2 ⟨rfl,hb2⟩) | (go_at_call 90;refine (readers_any a b o c l _ hl ((h.below hb1 (Nat.le_refl _)).below hb2 (Nat.le_refl _))).mono ?_;rintro e w3 ⟨rfl,hb3⟩))
    go_ret
    exact ⟨ret_bool (by simp [M.thread,hf,hc,h7]),(hb1.trans (hb2.mono hb1.size)).trans (hb3.mono (Nat.le_trans hb1.size hb2.size))⟩
 ·have h7':¬ (l.length:Int)≤7:=by omega
  have h7'':decide ((l.length:Int)≤7)=false:=by simp;omega
  go_enter Try.func72,Try.ntmps72
  go_wp2_with fail
  go_ret
  exact ⟨ret_bool (by simp [M.thread,h7]),Below.refl _ _⟩
end
end Go.Proofs.Ytnddmlgnngdaoaa
