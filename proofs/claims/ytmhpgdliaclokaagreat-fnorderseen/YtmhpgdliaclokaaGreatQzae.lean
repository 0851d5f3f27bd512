/- impl's copiesOk, readersOk, countKinds and threadOk. Of threads of at most 1048576 steps. And what goes with it: IThread, Count, IProg, Cont, Conv. -/
import Derived.Deep.OwnRows
import Derived.Test.YtmhpgdliaclokaaGreatRows
import Derived.Test.YtmhpgdliaclokaaGreatQzad
namespace Go.Proofs.YtmhpgdliaclokaaGreat
section
open Go.RowKit
theorem M.copies_bad {l:List M.D} {r:Bool} {n:Nat} {d:M.D} (hp:M.copies false l=M.copies r (l.drop n)) (hd:l.drop n=d::l.drop (n+1)) (hb:(d.k==3&&!r)=true):M.copies false l=false:=by
 rw [hp,hd];simp only [M.copies,hb,if_true]
theorem M.copies_ok {l:List M.D} {r r':Bool} {n:Nat} {d:M.D} (hp:M.copies false l=M.copies r (l.drop n)) (hd:l.drop n=d::l.drop (n+1)) (hb:(d.k==3&&!r)=false) (hr:r'=(r||M.reads d.k)):M.copies false l=M.copies r' (l.drop (n+1)):=by
 subst hr
 rw [hp,hd];simp only [M.copies,hb];rfl
theorem M.copies_fin {l:List M.D} {r:Bool} {n:Nat} (hp:M.copies false l=M.copies r (l.drop n)) (hn:l.length≤n):M.copies false l=true:=by
 rw [hp,List.drop_eq_nil_of_le hn];rfl
set_option maxHeartbeats 400000 in
theorem copies_any (a:Option Addr) (b o c:Nat) (l:List M.D) (w:World) (hl:l.length≤1048576) (h:DoS w a b o l) :
  Calls Tryz.prog 158 #[.slice a l.length c] w fun e w'=>e=.returned (.bool (M.copies false l))∧Below w.heap.size w w':=by
 go_enter Tryz.func158,Tryz.ntmps158
 go_wp2_with fail
 go_loopw [3,8] (fun s3 s8 wr=>∃ (r:Bool) (n:Nat),s3=.bool r∧s8=.int .i64 n∧n≤l.length∧M.copies false l=M.copies r (l.drop n)∧Below w.heap.size w wr) (fun _ s8 _=>l.length - (intOf s8).toNat)
 case atStart=>exact ⟨false,0,rfl,rfl,Nat.zero_le _,rfl,Below.refl _ _⟩
 case round =>
  obtain ⟨r,n,rfl,rfl,hn,hpass,hbel⟩:=hrel
  have HP:Hid (M.copies false l=M.copies r (l.drop n)):=hpass
  clear hpass
  by_cases hlt:n < l.length
  ·obtain ⟨rfl⟩:=h.addr (by omega)
   have hd:=(h.row n hlt).below hbel (Nat.le_refl _)
   have HD:Hid (l.drop n=l[n]::l.drop (n+1)):=M.drop_at l n hlt
   generalize l[n]=d at hd HD
   obtain ⟨k,p,v⟩:=d
   obtain ⟨ck,cp,cv⟩:=hd
   by_cases h3:k=3
   ·subst h3
    cases r
    ·go_wp2_with (go_at_call 86;refine (reads_any _ _).mono ?_;rintro e w1 ⟨rfl,rfl⟩)
     go_ret
     exact ⟨ret_bool (M.copies_bad HP.out HD.out rfl).symm,hbel.alloc hbel.size _⟩
    ·go_wp2_with (go_at_call 86;refine (reads_any _ _).mono ?_;rintro e w1 ⟨rfl,rfl⟩)
     exact ⟨⟨_,n+1,rfl,by go_num,by omega,M.copies_ok HP.out HD.out rfl rfl,hbel.alloc hbel.size _⟩,by simp [intOf];omega⟩
   ·have e3:(k==3)=false:=by simpa using h3
    clear h3
    cases r
    ·go_wp2_with (go_at_call 86;refine (reads_any _ _).mono ?_;rintro e w1 ⟨rfl,rfl⟩)
     exact ⟨⟨_,n+1,rfl,by go_num,by omega,M.copies_ok HP.out HD.out (by simp [e3]) (by simp),hbel.alloc hbel.size _⟩,by simp [intOf];omega⟩
    ·go_wp2_with (go_at_call 86;refine (reads_any _ _).mono ?_;rintro e w1 ⟨rfl,rfl⟩)
     exact ⟨⟨_,n+1,rfl,by go_num,by omega,M.copies_ok HP.out HD.out (by simp) (by simp),hbel.alloc hbel.size _⟩,by simp [intOf];omega⟩
  ·go_wp2_with fail
   go_ret
   exact ⟨ret_bool (M.copies_fin HP.out (by omega)).symm,hbel⟩
theorem M.readers_fin {l:List M.D} {i:Bool} {n:Nat} (hp:M.readers false l=M.readers i (l.drop n)) (hn:l.length≤n):M.readers false l=!i:=by
 rw [hp,List.drop_eq_nil_of_le hn];rfl
theorem M.readers_step {l:List M.D} {i:Bool} {n:Nat} {d:M.D} (hp:M.readers false l=M.readers i (l.drop n)) (hd:l.drop n=d::l.drop (n+1)):M.readers false l=M.readers i (d::l.drop (n+1)):=by
 rw [hp,hd]
set_option maxHeartbeats 400000 in
theorem readers_any (a:Option Addr) (b o c:Nat) (l:List M.D) (w:World) (hl:l.length≤1048576) (h:DoS w a b o l) :
  Calls Tryz.prog 159 #[.slice a l.length c] w fun e w'=>e=.returned (.bool (M.readers false l))∧Below w.heap.size w w':=by
 go_enter Tryz.func159,Tryz.ntmps159
 go_wp2_with fail
 go_loopw [3,8] (fun s3 s8 wr=>∃ (i:Bool) (n:Nat),s3=.bool i∧s8=.int .i64 n∧n≤l.length∧M.readers false l=M.readers i (l.drop n)∧Below w.heap.size w wr) (fun _ s8 _=>l.length - (intOf s8).toNat)
 case atStart=>exact ⟨false,0,rfl,rfl,Nat.zero_le _,rfl,Below.refl _ _⟩
 case round =>
  obtain ⟨i,n,rfl,rfl,hn,hpass,hbel⟩:=hrel
  have HP:Hid (M.readers false l=M.readers i (l.drop n)):=hpass
  clear hpass
  by_cases hlt:n < l.length
  ·obtain ⟨rfl⟩:=h.addr (by omega)
   have hd:=(h.row n hlt).below hbel (Nat.le_refl _)
   have HD:Hid (l.drop n=l[n]::l.drop (n+1)):=M.drop_at l n hlt
   generalize l[n]=d at hd HD
   obtain ⟨k,p,v⟩:=d
   obtain ⟨ck,cp,cv⟩:=hd
   have HS:Hid (M.readers false l=M.readers i (⟨k,p,v⟩::l.drop (n+1))):=M.readers_step HP.out HD.out
   clear HP HD
   by_cases h7:k=7
   ·subst h7
    cases i
    ·go_wp2_with fail
     exact ⟨⟨_,n+1,rfl,by go_num,by omega,HS.out.trans (by simp [M.readers]),hbel.alloc hbel.size _⟩,by simp [intOf];omega⟩
    ·go_wp2_with fail
     go_ret
     exact ⟨ret_bool (HS.out.trans (by simp [M.readers])).symm,hbel.alloc hbel.size _⟩
   ·have e7:(k==7)=false:=by simpa using h7
    clear h7
    by_cases h8:k=8
    ·subst h8
     cases i
     ·go_wp2_with fail
      go_ret
      exact ⟨ret_bool (HS.out.trans (by simp [M.readers])).symm,hbel.alloc hbel.size _⟩
     ·go_wp2_with fail
      exact ⟨⟨_,n+1,rfl,by go_num,by omega,HS.out.trans (by simp [M.readers]),hbel.alloc hbel.size _⟩,by simp [intOf];omega⟩
    ·have e8:(k==8)=false:=by simpa using h8
     clear h8
     by_cases h9:k=9
     ·subst h9
      cases i
      ·go_wp2_with fail
       exact ⟨⟨_,n+1,rfl,by go_num,by omega,HS.out.trans (by simp [M.readers]),hbel.alloc hbel.size _⟩,by simp [intOf];omega⟩
      ·go_wp2_with fail
       go_ret
       exact ⟨ret_bool (HS.out.trans (by simp [M.readers])).symm,hbel.alloc hbel.size _⟩
     ·have e9:(k==9)=false:=by simpa using h9
      clear h9
      go_wp2_with fail
      exact ⟨⟨_,n+1,rfl,by go_num,by omega,HS.out.trans (by simp [M.readers,e7,e8,e9]),hbel.alloc hbel.size _⟩,by simp [intOf];omega⟩
  ·go_wp2_with fail
   go_ret
   exact ⟨ret_bool (M.readers_fin HP.out (by omega)).symm,hbel⟩
set_option maxHeartbeats 400000 in
theorem ithread_any (a:Option Addr) (b o c:Nat) (l:List M.D) (w:World) (hl:l.length≤1048576) (h:DoS w a b o l) :
  Calls Tryz.prog 102 #[.slice a l.length c] w fun e w'=>e=.returned (.bool (M.thread l))∧Below w.heap.size w w':=by
 by_cases h7:l.length≤7
 ·have h7':(l.length:Int)≤7:=by omega
  cases hf:M.form l
  ·go_enter Tryz.func102,Tryz.ntmps102
   go_wp2_with (go_at_call 157;refine (form_any a b o c l _ hl h).mono ?_;rintro e w1 ⟨rfl,hb1⟩)
   go_ret
   exact ⟨ret_bool (by simp [M.thread,hf]),hb1⟩
  ·cases hc:M.copies false l
   ·go_enter Tryz.func102,Tryz.ntmps102
    go_wp2_with (first | (go_at_call 157;refine (form_any a b o c l _ hl h).mono ?_;rintro e w1 ⟨rfl,hb1⟩) | (go_at_call 158;refine (copies_any a b o c l _ hl (h.below hb1 (Nat.le_refl _))).mono ?_;rintro e w2 ⟨rfl,hb2⟩))
    go_ret
    exact ⟨ret_bool (by simp [M.thread,hc]),hb1.trans (hb2.mono hb1.size)⟩
   ·go_enter Tryz.func102,Tryz.ntmps102
    go_wp2_with (first | (go_at_call 157;refine (form_any a b o c l _ hl h).mono ?_;rintro e w1 ⟨rfl,hb1⟩) | (go_at_call 158;refine (copies_any a b o c l _ hl (h.below hb1 (Nat.le_refl _))).mono ?_;rintro e w2 ⟨rfl,hb2⟩) | (go_at_call 159;refine (readers_any a b o c l _ hl ((h.below hb1 (Nat.le_refl _)).below hb2 (Nat.le_refl _))).mono ?_;rintro e w3 ⟨rfl,hb3⟩))
    go_ret
    exact ⟨ret_bool (by simp [M.thread,hf,hc,h7]),(hb1.trans (hb2.mono hb1.size)).trans (hb3.mono (Nat.le_trans hb1.size hb2.size))⟩
 ·have h7':¬ (l.length:Int)≤7:=by omega
  have h7'':decide ((l.length:Int)≤7)=false:=by simp;omega
  go_enter Tryz.func102,Tryz.ntmps102
  go_wp2_with fail
  go_ret
  exact ⟨ret_bool (by simp [M.thread,h7]),Below.refl _ _⟩
end
section
open Go.RowKit
theorem M.cnt_step {f:Int→Bool} {l:List M.D} {m n:Nat} {d:M.D} (hp:M.cnt f l=m+M.cnt f (l.drop n)) (hd:l.drop n=d::l.drop (n+1)) {m':Nat} (hm:m'=m+if f d.k then 1 else 0):M.cnt f l=m'+M.cnt f (l.drop (n+1)):=by
 subst hm;rw [hp,hd,M.cnt_cons];omega
theorem M.cnt_fin {f:Int→Bool} {l:List M.D} {m n:Nat} (hp:M.cnt f l=m+M.cnt f (l.drop n)) (hn:l.length≤n):m=M.cnt f l:=by
 rw [hp,List.drop_eq_nil_of_le hn];rfl
theorem ret_int {k:IntKind} {a b:Int} (h:a=b):Ending.returned (.int k a)=.returned (.int k b):=by rw [h]
set_option maxHeartbeats 400000 in
theorem cntUses_any (a:Option Addr) (b o c:Nat) (l:List M.D) (w:World) (hl:l.length≤1048576) (h:DoS w a b o l) :
  Calls Tryz.prog 103 #[.slice a l.length c,.func (.func 104) #[] #[]] w fun e w'=>e=.returned (.int .i64 (M.cnt M.uses l))∧Below w.heap.size w w':=by
 go_enter Tryz.func103,Tryz.ntmps103
 go_wp2_with fail
 go_loopw [5,10] (fun s5 s10 wr=>∃ m n:Nat,s5=.int .i64 m∧s10=.int .i64 n∧n≤l.length∧m≤n∧M.cnt M.uses l=m+M.cnt M.uses (l.drop n)∧Below w.heap.size w wr) (fun _ s10 _=>l.length - (intOf s10).toNat)
 case atStart=>exact ⟨0,0,rfl,rfl,Nat.zero_le _,Nat.le_refl _,by simp,Below.refl _ _⟩
 case round =>
  obtain ⟨m,n,rfl,rfl,hn,hmn,hpass,hbel⟩:=hrel
  have HP:Hid (M.cnt M.uses l=m+M.cnt M.uses (l.drop n)):=hpass
  clear hpass
  by_cases hlt:n < l.length
  ·obtain ⟨rfl⟩:=h.addr (by omega)
   have hd:=(h.row n hlt).below hbel (Nat.le_refl _)
   have HD:Hid (l.drop n=l[n]::l.drop (n+1)):=M.drop_at l n hlt
   generalize l[n]=d at hd HD
   obtain ⟨k,p,v⟩:=d
   obtain ⟨ck,cp,cv⟩:=hd
   cases hu:M.uses k
   ·go_wp2_with (go_at_call 104;refine (uses_any _ _).mono ?_;rintro e w1 ⟨rfl,rfl⟩)
    exact ⟨⟨m,n+1,rfl,by go_num,by omega,by omega,M.cnt_step HP.out HD.out (by simp [hu]),hbel.alloc hbel.size _⟩,by simp [intOf];omega⟩
   ·go_wp2_with (go_at_call 104;refine (uses_any _ _).mono ?_;rintro e w1 ⟨rfl,rfl⟩)
    exact ⟨⟨m+1,n+1,by go_num,by go_num,by omega,by omega,M.cnt_step HP.out HD.out (by simp [hu]),hbel.alloc hbel.size _⟩,by simp [intOf];omega⟩
  ·go_wp2_with fail
   go_ret
   exact ⟨ret_int (by rw [M.cnt_fin HP.out (by omega)]),hbel⟩
end
section
open Go.RowKit
structure DoSS (w:World) (a:Option Addr) (b o:Nat) (ll:List (List M.D)):Prop where
 addr:0 < ll.length→a=some ⟨b,o,none⟩
 row:∀ i (h:i < ll.length),∃ a' b' o' c',w.cell? ⟨b,o+i,none⟩=some (.slice a' ll[i].length c')∧DoS w a' b' o' ll[i]
theorem DoSS.below {w w':World} {a:Option Addr} {B b o:Nat} {ll:List (List M.D)} (h:DoSS w a b o ll) (hb:Below B w w') (hB:w.heap.size≤B):DoSS w' a b o ll:=by
 refine ⟨h.addr,fun i hi=>?_⟩
 obtain ⟨a',b',o',c',hc,hd⟩:=h.row i hi
 have hl:=World.block_lt_of_cell? _ _ hc
 exact ⟨a',b',o',c',by rw [hb.cell (p:=⟨b,o+i,none⟩) (by show b < B;exact Nat.lt_of_lt_of_le hl hB)];exact hc,hd.below hb hB⟩
theorem M.thread_le {t:List M.D} (h:M.thread t=true):t.length≤7:=by
 simp only [M.thread,Bool.and_eq_true,decide_eq_true_eq] at h;exact h.1.1.1
theorem M.drop_at' (l:List (List M.D)) (n:Nat) (h:n < l.length):l.drop n=l[n]::l.drop (n+1):=(List.getElem_cons_drop h).symm
theorem M.from_bad {l:List (List M.D)} {x u n:Nat} {t:List M.D} (hp:M.progFrom 0 0 l=M.progFrom x u (l.drop n)) (hd:l.drop n=t::l.drop (n+1)) (hb:M.thread t=false):M.prog l=false:=by
 simp [M.prog,hp,hd,M.progFrom,hb]
theorem M.from_ok {l:List (List M.D)} {x u n:Nat} {t:List M.D} (hp:M.progFrom 0 0 l=M.progFrom x u (l.drop n)) (hd:l.drop n=t::l.drop (n+1)) (hb:M.thread t=true):M.progFrom 0 0 l=M.progFrom (x+t.length) (u+M.cnt M.uses t) (l.drop (n+1)):=by
 rw [hp,hd];simp [M.progFrom,hb]
theorem M.from_fin {l:List (List M.D)} {x u n:Nat} (hp:M.progFrom 0 0 l=M.progFrom x u (l.drop n)) (hn:l.length≤n) (h3:l.length≤3):M.prog l=(decide (x≤14)&&decide (u≤6)):=by
 rw [List.drop_eq_nil_of_le hn] at hp
 simp [M.prog,hp,M.progFrom,h3]
set_option maxHeartbeats 400000 in
theorem iprog_any (a : Option Addr) (b o c : Nat) (ll : List (List M.D)) (w : World) (hl : ll.length ≤ 1048576) (hls : ∀ t ∈ ll, t.length ≤ 1048576) (h : DoSS w a b o ll) :
    Calls Tryz.prog 47 #[.agg #[.slice a ll.length c]] w fun e w' => e = .returned (.bool (M.prog ll)) ∧ Below w.heap.size w w' := by
  by_cases h3 : ll.length ≤ 3
  · have h3' : ¬ (3 : Int) < ll.length := by omega
    go_enter Tryz.func47, Tryz.ntmps47
    go_wp2_with fail
    go_loopw [3, 4, 14] (fun s3 s4 s14 wr => ∃ x u n : Nat, s3 = .int .i64 x ∧ s4 = .int .i64 u ∧ s14 = .int .i64 n ∧ n ≤ ll.length ∧ x ≤ 7 * n ∧ u ≤ 7 * n ∧ M.progFrom 0 0 ll = M.progFrom x u (ll.drop n) ∧ Below w.heap.size w wr) (fun _ _ s14 _ => ll.length - (intOf s14).toNat)
    case atStart => exact ⟨0, 0, 0, rfl, rfl, rfl, Nat.zero_le _, Nat.le_refl _, Nat.le_refl _, rfl, below1 _ _⟩
    case round =>
      obtain ⟨x, u, n, rfl, rfl, rfl, hn, hx, hu, hpass, hbel⟩ := hrel
      have HP : Hid (M.progFrom 0 0 ll = M.progFrom x u (ll.drop n)) := hpass
      clear hpass
      by_cases hlt : n < ll.length
      · obtain ⟨rfl⟩ := h.addr (by omega)
        obtain ⟨a', b', o', c', hc, hd⟩ := (h.below hbel (Nat.le_refl _)).row n hlt
        have HD : Hid (ll.drop n = ll[n] :: ll.drop (n + 1)) := M.drop_at' ll n hlt
        have hlt' := hls _ (List.getElem_mem hlt)
        generalize ll[n] = t at hd hc HD hlt'
        cases ht : M.thread t
        · go_wp2_with (go_at_call 102; refine (ithread_any a' b' o' c' t _ hlt' hd).mono ?_; rintro e w1 ⟨rfl, hb1⟩)
          go_ret
          exact ⟨ret_bool (M.from_bad HP.out HD.out ht).symm, hbel.trans (hb1.mono hbel.size)⟩
        · have ht7 := M.thread_le ht
          have hcn := M.cnt_le M.uses t
          go_wp2_with (first | (go_at_call 102; refine (ithread_any a' b' o' c' t _ hlt' hd).mono ?_; rintro e w1 ⟨rfl, hb1⟩) | (go_at_call 103; refine (cntUses_any a' b' o' c' t _ hlt' (hd.below hb1 (Nat.le_refl _))).mono ?_; rintro e w2 ⟨rfl, hb2⟩))
          exact ⟨⟨x + t.length, u + M.cnt M.uses t, n + 1, by go_num, by go_num, by go_num, by omega, by omega, by omega, M.from_ok HP.out HD.out ht, (hbel.trans (hb1.mono hbel.size)).trans (hb2.mono (Nat.le_trans hbel.size hb1.size))⟩, by simp [intOf]; omega⟩
      · by_cases hx14 : (x : Int) ≤ 14
        · go_wp2_with fail
          go_ret
          exact ⟨ret_bool (by rw [M.from_fin HP.out (by omega) h3]; have : x ≤ 14 := by omega
                              simp [this]; omega), hbel⟩
        · have hx14' : decide ((x : Int) ≤ 14) = false := by simpa using hx14
          go_wp2_with fail
          go_ret
          exact ⟨ret_bool (by rw [M.from_fin HP.out (by omega) h3]; have : ¬ x ≤ 14 := by omega
                              simp [this]), hbel⟩
  · have h3' : (3 : Int) < ll.length := by omega
    go_enter Tryz.func47, Tryz.ntmps47
    go_wp2_with fail
    go_ret
    exact ⟨ret_bool (by simp [M.prog, h3]), below1 _ _⟩
end
section
open Go.RowKit
namespace M
def has (l:List Int) (v:Int):Bool:=l.contains v
theorem has_hit {l:List Int} {v:Int} {n:Nat} (hn:n < l.length) (h:l[n]=v):has l v=true:=by
 simp [has];rw [← h];exact List.getElem_mem hn
theorem has_fin {l:List Int} {v:Int} (h:∀ i (_:i < l.length),l[i]≠v):has l v=false:=by
 simp only [has,List.contains_eq_mem,decide_eq_false_iff_not]
 intro hm
 obtain ⟨i,hi,e⟩:=List.getElem_of_mem hm
 exact h i hi e
end M
set_option maxHeartbeats 400000 in
theorem indexI_any (a:Option Addr) (b o c:Nat) (l:List Int) (v:Int) (w:World) (hl:l.length≤1048576) (h:IntS w a b o l) :
  Calls Tryz.prog 149 #[.slice a l.length c,.int .i64 v] w fun e w'=>∃ r:Int,e=.returned (.int .i64 r)∧decide (0≤r)=M.has l v∧w'=w:=by
 go_enter Tryz.func149,Tryz.ntmps149
 go_wp2_with fail
 go_loopw [8] (fun s8 wr=>∃ n:Nat,s8=.int .i64 n∧n≤l.length∧Hid (∀ i (_:i < n) (h:i < l.length),l[i]≠v)∧wr=w) (fun s8 _=>l.length - (intOf s8).toNat)
 case atStart=>exact ⟨0,rfl,Nat.zero_le _,fun i hi=>absurd hi (Nat.not_lt_zero _),rfl⟩
 case round =>
  obtain ⟨n,rfl,hn,HA,rfl⟩:=hrel
  by_cases hlt:n < l.length
  ·obtain ⟨rfl⟩:=h.addr (by omega)
   have hx:=h.row n hlt
   obtain ⟨y,hy⟩:∃ y,l[n]=y:=⟨_,rfl⟩
   have HY:Hid (l[n]=y):=hy
   rw [hy] at hx
   clear hy
   have i1:(n:Int) < l.length:=by omega
   by_cases e:v=y
   ·subst e
    go_wp2_with fail
    go_ret
    exact ⟨n,rfl,by rw [M.has_hit hlt HY.out];simp,rfl⟩
   ·have e':(v==y)=false:=by simpa using e
    go_wp2_with fail
    exact ⟨⟨n+1,by go_num,by omega,fun i hi hl=>by
     by_cases ei:i=n
     ·subst ei;rw [HY.out];exact fun h=>e h.symm
     ·exact HA.out i (by omega) hl,trivial⟩,by simp [intOf];omega⟩
  ·go_wp2_with fail
   go_ret
   exact ⟨-1,rfl,by rw [M.has_fin (fun i hi=>HA.out i (by omega) hi)];rfl,rfl⟩
theorem containsI_any (a:Option Addr) (b o c:Nat) (l:List Int) (v:Int) (w:World) (hl:l.length≤1048576) (h:IntS w a b o l) :
  Calls Tryz.prog 179 #[.slice a l.length c,.int .i64 v] w fun e w'=>e=.returned (.bool (M.has l v))∧w'=w:=by
 go_enter Tryz.func179,Tryz.ntmps179
 go_wp2_with (go_at_call 149;refine (indexI_any a b o c l v _ hl h).mono ?_;rintro e w' ⟨r,rfl,hr,rfl⟩)
 go_ret
 exact ⟨rfl,rfl⟩
set_option maxHeartbeats 400000 in
theorem l12Has_any (a:Option Addr) (b o c:Nat) (l:List Int) (v:Int) (w:World) (hl:l.length≤1048576) (h:IntS w a b o l) :
  Calls Tryz.prog 85 #[.slice a l.length c,.int .i64 v] w fun e w'=>e=.returned (.bool (M.has l v))∧w'=w:=by
 go_enter Tryz.func85,Tryz.ntmps85
 go_wp2_with fail
 go_loopw [5] (fun s5 wr=>∃ n:Nat,s5=.int .i64 n∧n≤l.length∧Hid (∀ i (_:i < n) (h:i < l.length),l[i]≠v)∧wr=w) (fun s5 _=>l.length - (intOf s5).toNat)
 case atStart=>exact ⟨0,rfl,Nat.zero_le _,fun i hi=>absurd hi (Nat.not_lt_zero _),rfl⟩
 case round =>
  obtain ⟨n,rfl,hn,HA,rfl⟩:=hrel
  by_cases hlt:n < l.length
  ·obtain ⟨rfl⟩:=h.addr (by omega)
   have hx:=h.row n hlt
   obtain ⟨y,hy⟩:∃ y,l[n]=y:=⟨_,rfl⟩
   have HY:Hid (l[n]=y):=hy
   rw [hy] at hx
   clear hy
   have i1:(n:Int) < l.length:=by omega
   by_cases e:y=v
   ·subst e
    go_wp2_with fail
    go_ret
    exact ⟨ret_bool (M.has_hit hlt HY.out).symm,rfl⟩
   ·have e':(y==v)=false:=by simpa using e
    go_wp2_with fail
    exact ⟨⟨n+1,by go_num,by omega,fun i hi hl=>by
     by_cases ei:i=n
     ·subst ei;rw [HY.out];exact e
     ·exact HA.out i (by omega) hl,trivial⟩,by simp [intOf];omega⟩
  ·go_wp2_with fail
   go_ret
   exact ⟨ret_bool (M.has_fin (fun i hi=>HA.out i (by omega) hi)).symm,rfl⟩
end
section
open Go.RowKit
theorem Tryz.info94:(Tryz.prog.info? 94).map (fun i=>(i.zero,i.size,i.bytes))=some (some (.agg #[.int .i64 0,.int .i64 0,.int .i64 0]),3,24):=by kernel_rfl
theorem Tryz.info97:(Tryz.prog.info? 97).map (fun i=>(i.zero,i.size,i.bytes))=some (some (.slice none 0 0),1,24):=by kernel_rfl
end
end Go.Proofs.YtmhpgdliaclokaaGreat
