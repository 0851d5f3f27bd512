/- The law's own comparing of programs: two that are the same are told so. Of programs of at most 1048576 threads, each of at most 1048576 steps. -/
import Derived.Deep.OwnRows
import Derived.Test.YtnddmlgnngdaoaaRows
import Derived.Test.YtnddmlgnngdaoaaQjao
namespace Go.Proofs.Ytnddmlgnngdaoaa
section
open Go.RowKit
set_option maxHeartbeats 400000 in
theorem eqDo_same (d:M.D) (w:World) :
  Calls Try.prog 79 #[.agg #[.int .i64 d.k,.int .i64 d.p,.int .i64 d.v],.agg #[.int .i64 d.k,.int .i64 d.p,.int .i64 d.v]] w fun e w'=>e=.returned (.bool true)∧Below w.heap.size w w':=by
 obtain ⟨k,p,v⟩:=d
 go_enter Try.func79,Try.ntmps79
 go_wp2_with fail
 go_ret
 exact ⟨rfl,below2 _ _ _⟩
set_option maxHeartbeats 400000 in
theorem eqDoS_same (a:Option Addr) (b o c:Nat) (a2:Option Addr) (b2 o2 c2:Nat) (l:List M.D) (w:World) (hl:l.length≤1048576) (h:DoS w a b o l) (h2:DoS w a2 b2 o2 l) :
  Calls Try.prog 61 #[.slice a l.length c,.slice a2 l.length c2] w fun e w'=>e=.returned (.bool true)∧Below w.heap.size w w':=by
 go_enter Try.func61,Try.ntmps61
 go_wp2_with fail
 go_loopw [5] (fun s5 wr=>∃ n:Nat,s5=.int .i64 n∧n≤l.length∧Below w.heap.size w wr) (fun s5 _=>l.length - (intOf s5).toNat)
 case atStart=>exact ⟨0,rfl,Nat.zero_le _,Below.refl _ _⟩
 case round =>
  obtain ⟨n,rfl,hn,hbel⟩:=hrel
  by_cases hlt:n < l.length
  ·obtain ⟨rfl⟩:=h.addr (by omega)
   obtain ⟨rfl⟩:=h2.addr (by omega)
   have hd:=(h.row n hlt).below hbel (Nat.le_refl _)
   have hd2:=(h2.row n hlt).below hbel (Nat.le_refl _)
   generalize l[n]=d at hd hd2
   obtain ⟨k,p,v⟩:=d
   obtain ⟨ck,cp,cv⟩:=hd
   obtain ⟨ck2,cp2,cv2⟩:=hd2
   go_wp2_with fail
   go_region_with (go_at_call 79;refine (eqDo_same ⟨k,p,v⟩ _).mono ?_;rintro e w1 ⟨rfl,hb1⟩)
   all_goals
    go_wp2_with fail
    exact ⟨⟨n+1,by go_num,by omega,hbel.drew.trans (hb1.mono hbel.size)⟩,by simp [intOf];omega⟩
  ·go_wp2_with fail
   go_ret
   exact ⟨rfl,hbel⟩
set_option maxHeartbeats 400000 in
theorem eqDoSS_same (a:Option Addr) (b o c:Nat) (a2:Option Addr) (b2 o2 c2:Nat) (ll:List (List M.D)) (w:World) (hl:ll.length≤1048576) (hls:∀ t∈ll,t.length≤1048576) (h:DoSS w a b o ll) (h2:DoSS w a2 b2 o2 ll) :
  Calls Try.prog 35 #[.slice a ll.length c,.slice a2 ll.length c2] w fun e w'=>e=.returned (.bool true)∧Below w.heap.size w w':=by
 go_enter Try.func35,Try.ntmps35
 go_wp2_with fail
 go_loopw [5] (fun s5 wr=>∃ n:Nat,s5=.int .i64 n∧n≤ll.length∧Below w.heap.size w wr) (fun s5 _=>ll.length - (intOf s5).toNat)
 case atStart=>exact ⟨0,rfl,Nat.zero_le _,Below.refl _ _⟩
 case round =>
  obtain ⟨n,rfl,hn,hbel⟩:=hrel
  by_cases hlt:n < ll.length
  ·obtain ⟨rfl⟩:=h.addr (by omega)
   obtain ⟨rfl⟩:=h2.addr (by omega)
   obtain ⟨a',b',o',c',hc,hd⟩:=(h.below hbel (Nat.le_refl _)).row n hlt
   obtain ⟨a3,b3,o3,c3,hc3,hd3⟩:=(h2.below hbel (Nat.le_refl _)).row n hlt
   have hlt':=hls _ (List.getElem_mem hlt)
   generalize ll[n]=t at hd hc hd3 hc3 hlt'
   go_wp2_with fail
   go_region_with (go_at_call 61;refine (eqDoS_same a' b' o' c' a3 b3 o3 c3 t _ hlt' ?_ ?_).mono ?_;exact hd.below (Below.refl _ _).drew (Nat.le_refl _);exact hd3.below (Below.refl _ _).drew (Nat.le_refl _);rintro e w1 ⟨rfl,hb1⟩)
   all_goals
    go_wp2_with fail
    exact ⟨⟨n+1,by go_num,by omega,hbel.drew.trans (hb1.mono hbel.size)⟩,by simp [intOf];omega⟩
  ·go_wp2_with fail
   go_ret
   exact ⟨rfl,hbel⟩
set_option maxHeartbeats 400000 in
theorem eqProg_same (a:Option Addr) (b o c:Nat) (a2:Option Addr) (b2 o2 c2:Nat) (ll:List (List M.D)) (w:World) (hl:ll.length≤1048576) (hls:∀ t∈ll,t.length≤1048576) (h:DoSS w a b o ll) (h2:DoSS w a2 b2 o2 ll) :
  Calls Try.prog 13 #[.agg #[.slice a ll.length c],.agg #[.slice a2 ll.length c2]] w fun e w'=>e=.returned (.bool true)∧Below w.heap.size w w':=by
 go_enter Try.func13,Try.ntmps13
 go_wp2_with (go_at_call 35;refine (eqDoSS_same a b o c a2 b2 o2 c2 ll _ hl hls (h.below (below2 w _ _) (Nat.le_refl _)) (h2.below (below2 w _ _) (Nat.le_refl _))).mono ?_;rintro e w1 ⟨rfl,hb1⟩)
 go_ret
 exact ⟨rfl,(below2 w _ _).trans (hb1.mono (by simp;omega))⟩
end
end Go.Proofs.Ytnddmlgnngdaoaa
