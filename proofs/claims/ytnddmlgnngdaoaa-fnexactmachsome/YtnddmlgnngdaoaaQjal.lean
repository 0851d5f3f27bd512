/- impl's words of kinds, and whether steps are in form. Of threads of at most 1048576 steps. -/
import Derived.Test.YtnddmlgnngdaoaaRows
import Derived.Test.YtnddmlgnngdaoaaQjaj
import Derived.Test.YtnddmlgnngdaoaaQjak
namespace Go.Proofs.Ytnddmlgnngdaoaa
section
open Go.RowKit
def M.word (k:Int):ByteArray:=if k==1 then ⟨#[115,116,111,114,101]⟩ else if k==2 then ⟨#[108,111,97,100]⟩ else if k==3 then ⟨#[99,111,112,121]⟩ else if k==4 then ⟨#[119,97,108,108]⟩ else if k==5 then ⟨#[116,97,107,101]⟩ else if k==6 then ⟨#[103,105,118,101]⟩ else if k==7 then ⟨#[105,110]⟩ else if k==8 then ⟨#[111,117,116]⟩ else if k==9 then ⟨#[119,97,105,116]⟩ else ⟨#[]⟩
set_option maxHeartbeats 400000 in
theorem word_any (k:Int) (w:World) :
  Calls Try.prog 105 #[.int .i64 k] w fun e w'=>e=.returned (.string (M.word k))∧w'=w:=by
 by_cases h1:k=1
 ·subst h1
  go_enter Try.func105,Try.ntmps105
  go_wp2
  go_ret
  exact ⟨rfl,rfl⟩
 have e1:(k==1)=false:=by simpa using h1
 by_cases h2:k=2
 ·subst h2
  go_enter Try.func105,Try.ntmps105
  go_wp2
  go_ret
  exact ⟨rfl,rfl⟩
 have e2:(k==2)=false:=by simpa using h2
 by_cases h3:k=3
 ·subst h3
  go_enter Try.func105,Try.ntmps105
  go_wp2
  go_ret
  exact ⟨rfl,rfl⟩
 have e3:(k==3)=false:=by simpa using h3
 by_cases h4:k=4
 ·subst h4
  go_enter Try.func105,Try.ntmps105
  go_wp2
  go_ret
  exact ⟨rfl,rfl⟩
 have e4:(k==4)=false:=by simpa using h4
 by_cases h5:k=5
 ·subst h5
  go_enter Try.func105,Try.ntmps105
  go_wp2
  go_ret
  exact ⟨rfl,rfl⟩
 have e5:(k==5)=false:=by simpa using h5
 by_cases h6:k=6
 ·subst h6
  go_enter Try.func105,Try.ntmps105
  go_wp2
  go_ret
  exact ⟨rfl,rfl⟩
 have e6:(k==6)=false:=by simpa using h6
 by_cases h7:k=7
 ·subst h7
  go_enter Try.func105,Try.ntmps105
  go_wp2
  go_ret
  exact ⟨rfl,rfl⟩
 have e7:(k==7)=false:=by simpa using h7
 by_cases h8:k=8
 ·subst h8
  go_enter Try.func105,Try.ntmps105
  go_wp2
  go_ret
  exact ⟨rfl,rfl⟩
 have e8:(k==8)=false:=by simpa using h8
 by_cases h9:k=9
 ·subst h9
  go_enter Try.func105,Try.ntmps105
  go_wp2
  go_ret
  exact ⟨rfl,rfl⟩
 have e9:(k==9)=false:=by simpa using h9
 clear h1 h2 h3 h4 h5 h6 h7 h8 h9
 go_enter Try.func105,Try.ntmps105
 go_wp2
 go_ret
 exact ⟨by simp [M.word,e1,e2,e3,e4,e5,e6,e7,e8,e9],rfl⟩
theorem word_empty (k:Int):(M.word k).toList.isEmpty=!(M.wordOk k):=by
 by_cases h:1≤k∧k≤9
 ·have:k=1∨k=2∨k=3∨k=4∨k=5∨k=6∨k=7∨k=8∨k=9:=by omega
  rcases this with rfl | rfl | rfl | rfl | rfl | rfl | rfl | rfl | rfl<;>(rw [ByteArray.toList_eq];decide)
 ·have e:∀ c:Int,1≤c→c≤9→(k==c)=false:=fun c h1 h2=>by simp;omega
  have e0:M.wordOk k=false:=by simp only [M.wordOk];rcases Classical.not_and_iff_not_or_not.1 h with h | h<;>simp<;>omega
  rw [e0]
  have e1:M.word k=⟨#[]⟩:=by simp [M.word,e 1 (by decide) (by decide),e 2 (by decide) (by decide),e 3 (by decide) (by decide),e 4 (by decide) (by decide),e 5 (by decide) (by decide),e 6 (by decide) (by decide),e 7 (by decide) (by decide),e 8 (by decide) (by decide),e 9 (by decide) (by decide)]
  rw [e1,ByteArray.toList_eq]
  decide
theorem M.form_bad {l:List M.D} {n:Nat} {d:M.D} (hp:M.form l=M.form (l.drop n)) (hd:l.drop n=d::l.drop (n+1)) (hb:M.doOk d=false):M.form l=false:=by
 rw [hp,hd];simp [M.form,hb]
theorem M.form_ok {l:List M.D} {n:Nat} {d:M.D} (hp:M.form l=M.form (l.drop n)) (hd:l.drop n=d::l.drop (n+1)) (hb:M.doOk d=true):M.form l=M.form (l.drop (n+1)):=by
 rw [hp,hd];simp [M.form,hb]
theorem M.form_fin {l:List M.D} {n:Nat} (hp:M.form l=M.form (l.drop n)) (hn:l.length≤n):M.form l=true:=by
 rw [hp,List.drop_eq_nil_of_le hn];rfl
set_option maxHeartbeats 400000 in
theorem form_any (a:Option Addr) (b o c:Nat) (l:List M.D) (w:World) (hl:l.length≤1048576) (h:DoS w a b o l) :
  Calls Try.prog 88 #[.slice a l.length c] w fun e w'=>e=.returned (.bool (M.form l))∧Below w.heap.size w w':=by
 go_enter Try.func88,Try.ntmps88
 go_wp2_with fail
 go_loopw [8] (fun s8 wr=>∃ n:Nat,s8=.int .i64 n∧n≤l.length∧M.form l=M.form (l.drop n)∧Below w.heap.size w wr) (fun s8 _=>l.length - (intOf s8).toNat)
 case atStart=>exact ⟨0,rfl,Nat.zero_le _,rfl,Below.refl _ _⟩
 case round =>
  obtain ⟨n,rfl,hn,hpass,hbel⟩:=hrel
  have HP:Hid (M.form l=M.form (l.drop n)):=hpass
  clear hpass
  by_cases hlt:n < l.length
  ·obtain ⟨rfl⟩:=h.addr (by omega)
   have hd:=(h.row n hlt).below hbel (Nat.le_refl _)
   have HD:Hid (l.drop n=l[n]::l.drop (n+1)):=M.drop_at l n hlt
   generalize l[n]=d at hd HD
   obtain ⟨k,p,v⟩:=d
   obtain ⟨ck,cp,cv⟩:=hd
   have hwe:=word_empty k
   cases hw:M.wordOk k
   ·have hwe':(M.word k).toList.isEmpty=true:=by rw [hwe,hw];rfl
    clear hwe
    go_wp2_with (first | (go_at_call 105;refine (word_any _ _).mono ?_;rintro e w1 ⟨rfl,rfl⟩) | (go_at_call 106;refine (placeOk_any _ _ _).mono ?_;rintro e w1 ⟨rfl,rfl⟩) | (go_at_call 107;refine (valOk_any _ _ _).mono ?_;rintro e w1 ⟨rfl,rfl⟩))
    go_ret
    exact ⟨ret_bool (M.form_bad HP.out HD.out (by simp [M.doOk,hw])).symm,hbel.alloc hbel.size _⟩
   ·have hwe':(M.word k).toList.isEmpty=false:=by rw [hwe,hw];rfl
    clear hwe
    cases hp:M.placeOk k p
    ·go_wp2_with (first | (go_at_call 105;refine (word_any _ _).mono ?_;rintro e w1 ⟨rfl,rfl⟩) | (go_at_call 106;refine (placeOk_any _ _ _).mono ?_;rintro e w1 ⟨rfl,rfl⟩) | (go_at_call 107;refine (valOk_any _ _ _).mono ?_;rintro e w1 ⟨rfl,rfl⟩))
     go_ret
     exact ⟨ret_bool (M.form_bad HP.out HD.out (by simp [M.doOk,hp])).symm,hbel.alloc hbel.size _⟩
    ·cases hv:M.valOk k v
     ·go_wp2_with (first | (go_at_call 105;refine (word_any _ _).mono ?_;rintro e w1 ⟨rfl,rfl⟩) | (go_at_call 106;refine (placeOk_any _ _ _).mono ?_;rintro e w1 ⟨rfl,rfl⟩) | (go_at_call 107;refine (valOk_any _ _ _).mono ?_;rintro e w1 ⟨rfl,rfl⟩))
      go_ret
      exact ⟨ret_bool (M.form_bad HP.out HD.out (by simp [M.doOk,hv])).symm,hbel.alloc hbel.size _⟩
     ·go_wp2_with (first | (go_at_call 105;refine (word_any _ _).mono ?_;rintro e w1 ⟨rfl,rfl⟩) | (go_at_call 106;refine (placeOk_any _ _ _).mono ?_;rintro e w1 ⟨rfl,rfl⟩) | (go_at_call 107;refine (valOk_any _ _ _).mono ?_;rintro e w1 ⟨rfl,rfl⟩))
      exact ⟨⟨n+1,by go_num,by omega,M.form_ok HP.out HD.out (by simp [M.doOk,hw,hp,hv]),hbel.alloc hbel.size _⟩,by simp [intOf];omega⟩
  ·go_wp2_with fail
   go_ret
   exact ⟨ret_bool (M.form_fin HP.out (by omega)).symm,hbel⟩
end
end Go.Proofs.Ytnddmlgnngdaoaa
