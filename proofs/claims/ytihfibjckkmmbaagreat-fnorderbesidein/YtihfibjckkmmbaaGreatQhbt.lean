/- impl's and spec's ProgReads: how many reads a program has. Of programs of at most 1048576 threads, each of at most 1048576 steps. -/
import Derived.WalkKit
import Derived.WalkLawsBesides
import Derived.WalkSpells
import Derived.Test.YtihfibjckkmmbaaGreatRows
import Derived.Test.YtihfibjckkmmbaaGreatQhah
namespace Go.Proofs.YtihfibjckkmmbaaGreat
open Go.RowKit
set_option maxHeartbeats 400000 in
theorem cntReads_any (a:Option Addr) (b o c:Nat) (l:List M.D) (w:World) (hl:l.length≤1048576) (h:DoS w a b o l) :
  Calls Tryz.prog 63 #[.slice a l.length c,.func (.func 64) #[] #[]] w fun e w'=>e=.returned (.int .i64 (M.cnt M.reads l))∧Below w.heap.size w w':=by
 go_enter Tryz.func63,Tryz.ntmps63
 go_wp2_with fail
 go_loopw [5,10] (fun s5 s10 wr=>∃ m n:Nat,s5=.int .i64 m∧s10=.int .i64 n∧n≤l.length∧m≤n∧M.cnt M.reads l=m+M.cnt M.reads (l.drop n)∧Below w.heap.size w wr) (fun _ s10 _=>l.length - (intOf s10).toNat)
 case atStart=>exact ⟨0,0,rfl,rfl,Nat.zero_le _,Nat.le_refl _,by simp,Below.refl _ _⟩
 case round =>
  obtain ⟨m,n,rfl,rfl,hn,hmn,hpass,hbel⟩:=hrel
  have HP:Hid (M.cnt M.reads l=m+M.cnt M.reads (l.drop n)):=hpass
  clear hpass
  by_cases hlt:n < l.length
  ·obtain ⟨rfl⟩:=h.addr (by omega)
   have hd:=(h.row n hlt).below hbel (Nat.le_refl _)
   have HD:Hid (l.drop n=l[n]::l.drop (n+1)):=M.drop_at l n hlt
   generalize l[n]=d at hd HD
   obtain ⟨k,p,v⟩:=d
   obtain ⟨ck,cp,cv⟩:=hd
   cases hu:M.reads k
   ·go_wp2_with (go_at_call 64;refine (reads_any _ _).mono ?_;rintro e w1 ⟨rfl,rfl⟩)
    exact ⟨⟨m,n+1,rfl,by go_num,by omega,by omega,M.cnt_step HP.out HD.out (by simp [hu]),hbel.alloc hbel.size _⟩,by simp [intOf];omega⟩
   ·go_wp2_with (go_at_call 64;refine (reads_any _ _).mono ?_;rintro e w1 ⟨rfl,rfl⟩)
    exact ⟨⟨m+1,n+1,by go_num,by go_num,by omega,by omega,M.cnt_step HP.out HD.out (by simp [hu]),hbel.alloc hbel.size _⟩,by simp [intOf];omega⟩
  ·go_wp2_with fail
   go_ret
   exact ⟨ret_int (by rw [M.cnt_fin HP.out (by omega)]),hbel⟩
set_option maxHeartbeats 400000 in
theorem ireads_any (a:Option Addr) (b o c:Nat) (ll:List (List M.D)) (w:World) (hl:ll.length≤1048576) (hls:∀ t∈ll,t.length≤1048576) (h:DoSS w a b o ll) :
  Calls Tryz.prog 26 #[.agg #[.slice a ll.length c]] w fun e w'=>e=.returned (.int .i64 (M.nreads ll))∧Below w.heap.size w w':=by
 cases hp:M.prog ll
 ·go_enter Tryz.func26,Tryz.ntmps26
  go_wp2_with (go_at_call 38;refine (iprog_any a b o c ll _ hl hls (h.below (below1 w _) (Nat.le_refl _))).mono ?_;rintro e w1 ⟨rfl,hb1⟩)
  go_ret
  exact ⟨ret_int (M.nreads_no hp).symm,(below1 w _).trans (hb1.mono (by simp))⟩
 ·obtain ⟨h3,h7⟩:=M.prog_le hp
  go_enter Tryz.func26,Tryz.ntmps26
  go_wp2_with (go_at_call 38;refine (iprog_any a b o c ll _ hl hls (h.below (below1 w _) (Nat.le_refl _))).mono ?_;rintro e w1 ⟨rfl,hb1⟩;obtain ⟨hc1,hf1⟩:=bcell hb1)
  have hs1:=(h.below (below1 w _) (Nat.le_refl _)).below hb1 (Nat.le_refl _)
  have hbw:Below w.heap.size w w1:=(below1 w _).trans (hb1.mono (by simp))
  clear hb1 hc1 hf1 h
  go_loopw [3,12] (fun s3 s12 wr=>∃ m n:Nat,s3=.int .i64 m∧s12=.int .i64 n∧n≤ll.length∧m≤7 * n∧M.tot M.reads ll=m+M.tot M.reads (ll.drop n)∧Below w1.heap.size w1 wr) (fun _ s12 _=>ll.length - (intOf s12).toNat)
  case atStart=>exact ⟨0,0,rfl,rfl,Nat.zero_le _,Nat.le_refl _,by simp,Below.refl _ _⟩
  case round =>
   obtain ⟨m,n,rfl,rfl,hn,hmn,hpass,hbel⟩:=hrel
   have HP:Hid (M.tot M.reads ll=m+M.tot M.reads (ll.drop n)):=hpass
   clear hpass
   by_cases hlt:n < ll.length
   ·obtain ⟨rfl⟩:=hs1.addr (by omega)
    obtain ⟨a',b',o',c',hc,hd⟩:=(hs1.below hbel (Nat.le_refl _)).row n hlt
    have HD:Hid (ll.drop n=ll[n]::ll.drop (n+1)):=M.drop_at' ll n hlt
    have hlt':=hls _ (List.getElem_mem hlt)
    have hlt7:=h7 _ (List.getElem_mem hlt)
    generalize ll[n]=t at hd hc HD hlt' hlt7
    have hcn:=M.cnt_le M.reads t
    go_wp2_with (go_at_call 63;refine (cntReads_any a' b' o' c' t _ hlt' hd).mono ?_;rintro e w2 ⟨rfl,hb2⟩)
    exact ⟨⟨m+M.cnt M.reads t,n+1,by go_num,by go_num,by omega,by omega,M.tot_step HP.out HD.out,hbel.trans (hb2.mono hbel.size)⟩,by simp [intOf];omega⟩
   ·go_wp2_with fail
    go_ret
    exact ⟨ret_int (by rw [M.nreads_ok hp,M.tot_fin HP.out (by omega)]),hbw.trans (hbel.mono hbw.size)⟩
end Go.Proofs.YtihfibjckkmmbaaGreat
