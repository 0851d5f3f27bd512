/- spec's l1Thread: whether a thread is ok. Of threads of at most 1048576 steps. -/
import Derived.Test.YtnddmlgnngdaoaaRows
import Derived.Test.YtnddmlgnngdaoaaQjak
import Derived.Test.YtnddmlgnngdaoaaQjau
namespace Go.Proofs.Ytnddmlgnngdaoaa
section
open Go.RowKit
theorem M.bad_no {r i:Bool} {d:M.D} (h:M.doOk d=true) (e3:(d.k==3)=false) (e7:(d.k==7)=false) (e8:(d.k==8)=false) (e9:(d.k==9)=false):M.bad r i d=false:=by
 simp [M.bad,h,e3,e7,e8,e9]
theorem M.inAfter_no {i:Bool} {k:Int} (e7:(k==7)=false) (e8:(k==8)=false):M.inAfter i k=i:=by
 simp [M.inAfter,e7,e8]
set_option maxHeartbeats 400000 in
theorem l1Thread_any (a:Option Addr) (b o c:Nat) (l:List M.D) (w:World) (hl:l.length≤1048576) (h:DoS w a b o l) :
  Calls Try.prog 49 #[.slice a l.length c] w fun e w'=>e=.returned (.bool (M.sthread l))∧Below w.heap.size w w':=by
 by_cases h7:l.length≤7
 ·go_enter Try.func49,Try.ntmps49
  go_wp2_with fail
  go_loopw [3,4,5] (fun s3 s4 s5 wr=>∃ (r i:Bool) (n:Nat),s3=.bool r∧s4=.bool i∧s5=.int .i64 n∧n≤l.length∧M.pass false false l=M.pass r i (l.drop n)∧Below w.heap.size w wr) (fun _ _ s5 _=>l.length - (intOf s5).toNat)
  case atStart=>exact ⟨false,false,0,rfl,rfl,rfl,Nat.zero_le _,rfl,Below.refl _ _⟩
  case round =>
   obtain ⟨r,i,n,rfl,rfl,rfl,hn,hpass,hbel⟩:=hrel
   have HP:Hid (M.pass false false l=M.pass r i (l.drop n)):=hpass
   clear hpass
   by_cases hlt:n < l.length
   ·obtain ⟨rfl⟩:=h.addr (by omega)
    have hd:=(h.row n hlt).below hbel (Nat.le_refl _)
    have HD:Hid (l.drop n=l[n]::l.drop (n+1)):=M.drop_at l n hlt
    generalize l[n]=d at hd HD
    obtain ⟨k,p,v⟩:=d
    obtain ⟨ck,cp,cv⟩:=hd
    cases hdo:M.doOk ⟨k,p,v⟩
    ·go_wp2_with (go_at_call 70;refine (l1Do_any ⟨_,_,_⟩ _).mono ?_;rintro e w1 ⟨rfl,hb1⟩)
     go_ret
     exact ⟨ret_bool (M.pass_bad HP.out HD.out (by simp [M.bad,hdo])).symm,hbel.trans (((Below.refl _ _).alloc (by exact hbel.size) _).trans (hb1.mono (by have:=hbel.size;simp;omega)))⟩
    ·by_cases h3:k=3
     ·subst h3
      cases r
      ·go_wp2_with (first | (go_at_call 70;refine (l1Do_any ⟨_,_,_⟩ _).mono ?_;rintro e w1 ⟨rfl,hb1⟩;obtain ⟨hc1,hf1⟩:=bcell hb1;have hz1:wr.heap.size < w1.heap.size:=by have:=hb1.size;simp at this;omega) | (go_at_call 50;refine (l1Reads_any ⟨_,_,_⟩ _).mono ?_;rintro e w2 ⟨rfl,rfl⟩))
       go_ret
       exact ⟨ret_bool (M.pass_bad HP.out HD.out (by simp [M.bad])).symm,bel_box hbel hb1⟩
      ·go_wp2_with (first | (go_at_call 70;refine (l1Do_any ⟨_,_,_⟩ _).mono ?_;rintro e w1 ⟨rfl,hb1⟩;obtain ⟨hc1,hf1⟩:=bcell hb1;have hz1:wr.heap.size < w1.heap.size:=by have:=hb1.size;simp at this;omega) | (go_at_call 50;refine (l1Reads_any ⟨_,_,_⟩ _).mono ?_;rintro e w2 ⟨rfl,rfl⟩))
       exact ⟨⟨_,_,n+1,rfl,rfl,by go_num,by omega,M.pass_ok HP.out HD.out (by simp [M.bad,hdo]) (by simp [M.reads]) (by simp [M.inAfter]),by first | exact bel_box hbel hb1 | exact bel_box2 hbel hb1 _⟩,by simp [intOf];omega⟩
     ·by_cases hk7:k=7
      ·subst hk7
       cases i
       ·cases r
        ·go_wp2_with (first | (go_at_call 70;refine (l1Do_any ⟨_,_,_⟩ _).mono ?_;rintro e w1 ⟨rfl,hb1⟩;obtain ⟨hc1,hf1⟩:=bcell hb1;have hz1:wr.heap.size < w1.heap.size:=by have:=hb1.size;simp at this;omega) | (go_at_call 50;refine (l1Reads_any ⟨_,_,_⟩ _).mono ?_;rintro e w2 ⟨rfl,rfl⟩))
         exact ⟨⟨_,_,n+1,rfl,rfl,by go_num,by omega,M.pass_ok HP.out HD.out (by simp [M.bad,hdo]) (by simp [M.reads]) (by simp [M.inAfter]),by first | exact bel_box hbel hb1 | exact bel_box2 hbel hb1 _⟩,by simp [intOf];omega⟩
        ·go_wp2_with (first | (go_at_call 70;refine (l1Do_any ⟨_,_,_⟩ _).mono ?_;rintro e w1 ⟨rfl,hb1⟩;obtain ⟨hc1,hf1⟩:=bcell hb1;have hz1:wr.heap.size < w1.heap.size:=by have:=hb1.size;simp at this;omega) | (go_at_call 50;refine (l1Reads_any ⟨_,_,_⟩ _).mono ?_;rintro e w2 ⟨rfl,rfl⟩))
         exact ⟨⟨_,_,n+1,rfl,rfl,by go_num,by omega,M.pass_ok HP.out HD.out (by simp [M.bad,hdo]) (by simp [M.reads]) (by simp [M.inAfter]),by first | exact bel_box hbel hb1 | exact bel_box2 hbel hb1 _⟩,by simp [intOf];omega⟩
       ·go_wp2_with (first | (go_at_call 70;refine (l1Do_any ⟨_,_,_⟩ _).mono ?_;rintro e w1 ⟨rfl,hb1⟩;obtain ⟨hc1,hf1⟩:=bcell hb1;have hz1:wr.heap.size < w1.heap.size:=by have:=hb1.size;simp at this;omega) | (go_at_call 50;refine (l1Reads_any ⟨_,_,_⟩ _).mono ?_;rintro e w2 ⟨rfl,rfl⟩))
        go_ret
        exact ⟨ret_bool (M.pass_bad HP.out HD.out (by simp [M.bad])).symm,bel_box hbel hb1⟩
      ·by_cases h8:k=8
       ·subst h8
        cases i
        ·go_wp2_with (first | (go_at_call 70;refine (l1Do_any ⟨_,_,_⟩ _).mono ?_;rintro e w1 ⟨rfl,hb1⟩;obtain ⟨hc1,hf1⟩:=bcell hb1;have hz1:wr.heap.size < w1.heap.size:=by have:=hb1.size;simp at this;omega) | (go_at_call 50;refine (l1Reads_any ⟨_,_,_⟩ _).mono ?_;rintro e w2 ⟨rfl,rfl⟩))
         go_ret
         exact ⟨ret_bool (M.pass_bad HP.out HD.out (by simp [M.bad])).symm,bel_box hbel hb1⟩
        ·cases r
         ·go_wp2_with (first | (go_at_call 70;refine (l1Do_any ⟨_,_,_⟩ _).mono ?_;rintro e w1 ⟨rfl,hb1⟩;obtain ⟨hc1,hf1⟩:=bcell hb1;have hz1:wr.heap.size < w1.heap.size:=by have:=hb1.size;simp at this;omega) | (go_at_call 50;refine (l1Reads_any ⟨_,_,_⟩ _).mono ?_;rintro e w2 ⟨rfl,rfl⟩))
          exact ⟨⟨_,_,n+1,rfl,rfl,by go_num,by omega,M.pass_ok HP.out HD.out (by simp [M.bad,hdo]) (by simp [M.reads]) (by simp [M.inAfter]),by first | exact bel_box hbel hb1 | exact bel_box2 hbel hb1 _⟩,by simp [intOf];omega⟩
         ·go_wp2_with (first | (go_at_call 70;refine (l1Do_any ⟨_,_,_⟩ _).mono ?_;rintro e w1 ⟨rfl,hb1⟩;obtain ⟨hc1,hf1⟩:=bcell hb1;have hz1:wr.heap.size < w1.heap.size:=by have:=hb1.size;simp at this;omega) | (go_at_call 50;refine (l1Reads_any ⟨_,_,_⟩ _).mono ?_;rintro e w2 ⟨rfl,rfl⟩))
          exact ⟨⟨_,_,n+1,rfl,rfl,by go_num,by omega,M.pass_ok HP.out HD.out (by simp [M.bad,hdo]) (by simp [M.reads]) (by simp [M.inAfter]),by first | exact bel_box hbel hb1 | exact bel_box2 hbel hb1 _⟩,by simp [intOf];omega⟩
       ·by_cases h9:k=9
        ·subst h9
         cases i
         ·cases r
          ·go_wp2_with (first | (go_at_call 70;refine (l1Do_any ⟨_,_,_⟩ _).mono ?_;rintro e w1 ⟨rfl,hb1⟩;obtain ⟨hc1,hf1⟩:=bcell hb1;have hz1:wr.heap.size < w1.heap.size:=by have:=hb1.size;simp at this;omega) | (go_at_call 50;refine (l1Reads_any ⟨_,_,_⟩ _).mono ?_;rintro e w2 ⟨rfl,rfl⟩))
           exact ⟨⟨_,_,n+1,rfl,rfl,by go_num,by omega,M.pass_ok HP.out HD.out (by simp [M.bad,hdo]) (by simp [M.reads]) (by simp [M.inAfter]),by first | exact bel_box hbel hb1 | exact bel_box2 hbel hb1 _⟩,by simp [intOf];omega⟩
          ·go_wp2_with (first | (go_at_call 70;refine (l1Do_any ⟨_,_,_⟩ _).mono ?_;rintro e w1 ⟨rfl,hb1⟩;obtain ⟨hc1,hf1⟩:=bcell hb1;have hz1:wr.heap.size < w1.heap.size:=by have:=hb1.size;simp at this;omega) | (go_at_call 50;refine (l1Reads_any ⟨_,_,_⟩ _).mono ?_;rintro e w2 ⟨rfl,rfl⟩))
           exact ⟨⟨_,_,n+1,rfl,rfl,by go_num,by omega,M.pass_ok HP.out HD.out (by simp [M.bad,hdo]) (by simp [M.reads]) (by simp [M.inAfter]),by first | exact bel_box hbel hb1 | exact bel_box2 hbel hb1 _⟩,by simp [intOf];omega⟩
         ·go_wp2_with (first | (go_at_call 70;refine (l1Do_any ⟨_,_,_⟩ _).mono ?_;rintro e w1 ⟨rfl,hb1⟩;obtain ⟨hc1,hf1⟩:=bcell hb1;have hz1:wr.heap.size < w1.heap.size:=by have:=hb1.size;simp at this;omega) | (go_at_call 50;refine (l1Reads_any ⟨_,_,_⟩ _).mono ?_;rintro e w2 ⟨rfl,rfl⟩))
          go_ret
          exact ⟨ret_bool (M.pass_bad HP.out HD.out (by simp [M.bad])).symm,bel_box hbel hb1⟩
        ·have e3:(k==3)=false:=by simpa using h3
         have e7:(k==7)=false:=by simpa using hk7
         have e8:(k==8)=false:=by simpa using h8
         have e9:(k==9)=false:=by simpa using h9
         clear h3 hk7 h8 h9
         cases r
         ·go_wp2_with (first | (go_at_call 70;refine (l1Do_any ⟨_,_,_⟩ _).mono ?_;rintro e w1 ⟨rfl,hb1⟩;obtain ⟨hc1,hf1⟩:=bcell hb1;have hz1:wr.heap.size < w1.heap.size:=by have:=hb1.size;simp at this;omega) | (go_at_call 50;refine (l1Reads_any ⟨_,_,_⟩ _).mono ?_;rintro e w2 ⟨rfl,rfl⟩))
          exact ⟨⟨_,_,n+1,rfl,rfl,by go_num,by omega,M.pass_ok HP.out HD.out (M.bad_no hdo e3 e7 e8 e9) (by simp) (M.inAfter_no e7 e8).symm,by first | exact bel_box hbel hb1 | exact bel_box2 hbel hb1 _⟩,by simp [intOf];omega⟩
         ·go_wp2_with (first | (go_at_call 70;refine (l1Do_any ⟨_,_,_⟩ _).mono ?_;rintro e w1 ⟨rfl,hb1⟩;obtain ⟨hc1,hf1⟩:=bcell hb1;have hz1:wr.heap.size < w1.heap.size:=by have:=hb1.size;simp at this;omega) | (go_at_call 50;refine (l1Reads_any ⟨_,_,_⟩ _).mono ?_;rintro e w2 ⟨rfl,rfl⟩))
          exact ⟨⟨_,_,n+1,rfl,rfl,by go_num,by omega,M.pass_ok HP.out HD.out (M.bad_no hdo e3 e7 e8 e9) (by simp) (M.inAfter_no e7 e8).symm,by first | exact bel_box hbel hb1 | exact bel_box2 hbel hb1 _⟩,by simp [intOf];omega⟩
   ·go_wp2_with fail
    go_ret
    exact ⟨ret_bool (M.pass_fin HP.out (by omega) h7).symm,hbel⟩
 ·have h7':(7:Int) < l.length:=by omega
  go_enter Try.func49,Try.ntmps49
  go_wp2_with fail
  go_ret
  exact ⟨ret_bool (by simp [M.sthread,h7]),Below.refl _ _⟩
end
end Go.Proofs.Ytnddmlgnngdaoaa
