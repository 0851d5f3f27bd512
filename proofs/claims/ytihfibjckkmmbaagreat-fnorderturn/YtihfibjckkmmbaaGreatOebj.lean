/- The plain mathematics of how many reads a program has. No condition. And what goes with it: MathN, QuietB, OrMath, SqMath, SxSeen, OmMath, WjMath, RwMath, Reads. -/
import Derived.Below
import Derived.BigQuiet
import Derived.Deep.AppendLies
import Derived.Deep.MidRow
import Derived.Deep.Quiet
import Derived.Deep.QuietTactic
import Derived.Deep.RegionHeld3
import Derived.Deep.RegionLaw
import Derived.Deep.RegionWith
import Derived.Deep.Slices
import Derived.Deep.WholeRow
import Derived.Handy
import Derived.Laws.AppendOwn
import Derived.Laws.AppendOwnNone
import Derived.Laws.EntriesVeiled
import Derived.Laws.IdiomCopy
import Derived.Laws.OwnMore
import Derived.LoopIn
import Derived.LoopN
import Derived.LoopNIn
import Derived.OwnWalkIn
import Derived.RangeFuncBound
import Derived.RangeFuncLeaves
import Derived.RangeFuncNested
import Derived.Shelf.Abstract
import Derived.Shelf.SlSortCmp.NoneTotal
import Derived.Sort.Grow
import Derived.TacticsInMore
import Derived.WalkKit
import Derived.WalkLawsBesides
import Derived.WalkSpells
import Derived.Deep.OwnRows
import Derived.Test.YtihfibjckkmmbaaGreatRows
import Derived.Test.YtihfibjckkmmbaaGreatOeaw
import Derived.Test.YtihfibjckkmmbaaGreatOebi
namespace Go.Proofs.YtihfibjckkmmbaaGreat
open Go.RowKit
def M.nreads (ll:List (List M.D)):Int:=if M.prog ll then (M.tot M.reads ll:Int) else -1
theorem M.tot_step {f:Int→Bool} {l:List (List M.D)} {m n:Nat} {t:List M.D} (hp:M.tot f l=m+M.tot f (l.drop n)) (hd:l.drop n=t::l.drop (n+1)):M.tot f l=(m+M.cnt f t)+M.tot f (l.drop (n+1)):=by
 rw [hp,hd,M.tot];omega
theorem M.tot_fin {f:Int→Bool} {l:List (List M.D)} {m n:Nat} (hp:M.tot f l=m+M.tot f (l.drop n)) (hn:l.length≤n):m=M.tot f l:=by
 rw [hp,List.drop_eq_nil_of_le hn];rfl
theorem M.nreads_ok {ll:List (List M.D)} (h:M.prog ll=true):M.nreads ll=M.tot M.reads ll:=by simp [M.nreads,h]
theorem M.nreads_no {ll:List (List M.D)} (h:M.prog ll=false):M.nreads ll=-1:=by simp [M.nreads,h]
end Go.Proofs.YtihfibjckkmmbaaGreat
namespace Go.Proofs.YtihfibjckkmmbaaGreat
open Go.RowKit
theorem Calls.bel_of_same {P:Program} {f:FuncId} {args:Array Value} {W:World} {p:BelowOf W} {v:Value} (h:Calls P f args p.x fun e w'=>e=.returned v∧w'=p.x) :
  Calls P f args p.x fun e w''=>e=.returned v∧∃ p':BelowOf W,w''=p'.x :=
 h.mono fun _ _ ⟨he,hb⟩=>⟨he,p,hb⟩
end Go.Proofs.YtihfibjckkmmbaaGreat
namespace Go.Proofs.YtihfibjckkmmbaaGreat
namespace M
theorem inOf_le {ds:List De} {a:Nat}:∀ {b:Nat},b < ds.length→(inOf ds b≤a↔∀ q (hq:q < ds.length),a < q→q≤b→ds[q].d.k≠7):=by
 intro b
 induction b with
 | zero=>intro hb;exact ⟨fun _ q hq h1 h2=>by omega,fun _=>Nat.zero_le _⟩
 | succ b ih =>
  intro hb
  unfold inOf
  rw [kAt_eq hb]
  by_cases h7:(ds[b+1].d.k==7)=true
  ·rw [if_pos h7]
   constructor
   ·intro h q hq h1 h2;omega
   ·intro h
    refine Classical.byContradiction fun hno=>?_
    exact h (b+1) hb (by omega) (Nat.le_refl _) (by simpa using h7)
  ·rw [if_neg h7,ih (by omega)]
   constructor
   ·intro h q hq h1 h2
    by_cases e:q=b+1
    ·subst e;simpa using h7
    ·exact h q hq h1 (by omega)
   ·intro h q hq h1 h2
    exact h q hq h1 (by omega)
end M
end Go.Proofs.YtihfibjckkmmbaaGreat
namespace Go.Proofs.YtihfibjckkmmbaaGreat
namespace M
theorem deD_k (t i:Nat) (lr:Int) (n:Nat) (d:D):∀ x∈deD t i lr n d,x.d=d:=by
 intro x hx
 unfold deD at hx
 split at hx
 ·rcases List.mem_cons.1 hx with rfl | hx
  ·rfl
  ·rw [List.mem_singleton.1 hx]
 ·rw [List.mem_singleton.1 hx]
end M
end Go.Proofs.YtihfibjckkmmbaaGreat
namespace Go.Proofs.YtihfibjckkmmbaaGreat
open Go.RowKit
namespace M
end M
namespace M
def execSeen (ll:List (List D)) (l:List Int) (rows:List (List Int)):List Int × List Int:=if execOk ll l rows then (seenR (deeds ll) l,seenL (deeds ll) l rows) else ([],[])
end M
end Go.Proofs.YtihfibjckkmmbaaGreat
namespace Go.Proofs.YtihfibjckkmmbaaGreat
namespace M
theorem deF_append:∀ (ll mm:List (List D)) (t n:Nat),deF t n (ll++mm)=deF t n ll++deF (t+ll.length) (n+(deF t n ll).length) mm
 | [],mm,t,n=>by simp [deF]
 | l::ll,mm,t,n=>by
  simp only [List.cons_append,deF,deF_append ll mm,List.append_assoc,List.length_append,List.length_cons]
  rw [show t+1+ll.length=t+(ll.length+1) by omega,show n+(deT t 0 (-1) n l).length+(deF (t+1) (n+(deT t 0 (-1) n l).length) ll).length=n+((deT t 0 (-1) n l).length+(deF (t+1) (n+(deT t 0 (-1) n l).length) ll).length) by omega]
theorem mem_deT (t:Nat):∀ (l:List D) (i:Nat) (lr:Int) (n:Nat) (x:De),x∈deT t i lr n l→x.d∈l∧x.t=t
 | [],_,_,_,x,h=>by simp [deT] at h
 | d::l,i,lr,n,x,h=>by
  rw [deT] at h
  rcases List.mem_append.1 h with h | h
  ·have h1:=deD_k t i lr n d x h
   refine ⟨by rw [h1];exact List.mem_cons_self ..,?_⟩
   unfold deD at h
   split at h
   ·rcases List.mem_cons.1 h with rfl | h
    ·rfl
    ·rw [List.mem_singleton.1 h]
   ·rw [List.mem_singleton.1 h]
  ·obtain ⟨h1,h2⟩:=mem_deT t l _ _ _ x h
   exact ⟨List.mem_cons_of_mem _ h1,h2⟩
theorem mem_deF:∀ (ll:List (List D)) (t n:Nat) (x:De),x∈deF t n ll→t≤x.t∧x.t < t+ll.length∧∃ l,ll[x.t - t]?=some l∧x.d∈l
 | [],_,_,x,h=>by simp [deF] at h
 | l::ll,t,n,x,h=>by
  rw [deF] at h
  rcases List.mem_append.1 h with h | h
  ·obtain ⟨h1,h2⟩:=mem_deT t l _ _ _ x h
   exact ⟨by omega,by simp;omega,l,by rw [h2];simp,h1⟩
  ·obtain ⟨h1,h2,l',h3,h4⟩:=mem_deF ll _ _ x h
   exact ⟨by omega,by simp;omega,l',by rw [show x.t - t=(x.t - (t+1))+1 by omega];simpa using h3,h4⟩
theorem own_iff {a b:Nat} {x y:De}:own a b x y=true↔a < b∧x.t=y.t:=by simp [own]
end M
end Go.Proofs.YtihfibjckkmmbaaGreat
namespace Go.Proofs.YtihfibjckkmmbaaGreat
namespace M
section
variable {ds es : List De} {pos back : List Nat}
def img (f:Nat→Nat) (c:Ch):Ch:=((f c.1.1,f c.1.2),(f c.2.1,f c.2.2))
theorem mem_choices {ds:List De} {c:Ch}:c∈choices ds↔∃ (w r:Nat) (x y:De),ds[w]?=some x∧x.d.k=9∧x.last=false∧ds[r]?=some y∧y.d.k=7∧c=((outOf ds r,w+1),(w,r)):=by
 simp only [choices,List.mem_flatMap,choicesAt,List.mem_map,List.mem_filter,List.mem_range]
 constructor
 ·rintro ⟨w,⟨hw,hwt⟩,r,⟨hr,hk⟩,rfl⟩
  unfold waitsAt at hwt
  rw [List.getElem?_eq_getElem hw] at hwt
  rw [kAt_eq hr] at hk
  simp only [Bool.and_eq_true,beq_iff_eq,Bool.not_eq_true'] at hwt
  exact ⟨w,r,ds[w],ds[r],List.getElem?_eq_getElem hw,hwt.1,hwt.2,List.getElem?_eq_getElem hr,by simpa using hk,rfl⟩
 ·rintro ⟨w,r,x,y,hx,h9,hf,hy,h7,rfl⟩
  refine ⟨w,⟨lt_of_get hx,?_⟩,r,⟨lt_of_get hy,?_⟩,rfl⟩
  ·unfold waitsAt;rw [hx];simp [h9,hf]
  ·unfold kAt;rw [hy];simp [h7]
end
end M
end Go.Proofs.YtihfibjckkmmbaaGreat
namespace Go.Proofs.YtihfibjckkmmbaaGreat
namespace M
theorem wrs_app (p:Int):∀ (l m:List De) (n:Nat),wrs p n (l++m)=wrs p n l++wrs p (n+l.length) m
 | [],m,n=>by simp [wrs]
 | x::l,m,n=>by
  rw [List.cons_append,wrs,wrs,wrs_app p l m (n+1),List.length_cons,show n+1+l.length=n+(l.length+1) by omega]
  split<;>simp
section
variable {ds : List De} {x : De}
theorem rdAt_app (D:List De) (l:List Int) (ys:List De):∀ (xs:List De) (n:Nat),rdAt D l n (xs++ys)=rdAt D l n xs++rdAt D l (n+xs.length) ys
 | [],n=>by simp [rdAt]
 | z::xs,n=>by
  rw [List.cons_append,rdAt,rdAt,rdAt_app D l ys xs (n+1),List.length_cons,show n+1+xs.length=n+(xs.length+1) by omega]
  split<;>simp
end
section
variable {ll mm : List (List D)} {x : De}
end
end M
end Go.Proofs.YtihfibjckkmmbaaGreat
namespace Go.Proofs.YtihfibjckkmmbaaGreat
open Go.RowKit
set_option maxHeartbeats 400000 in
theorem cntReads_any (a:Option Addr) (b o c:Nat) (l:List M.D) (w:World) (hl:l.length≤1048576) (h:DoS w a b o l) :
  Calls Tryz.prog 63 #[.slice a l.length c,.func (.func 64) #[] #[]] w fun e w'=>e=.returned (.int .i64 (M.cnt M.reads l))∧Below w.heap.size w w':=by
 go_enter Tryz.func63,Tryz.ntmps63
 go_wp2_with fail
 go_loopw [5,10] (fun s5 s10 wr=>∃ m n:Nat,s5=.int .i64 m∧s10=.int .i64 n∧n≤l.length∧m≤n∧M.cnt M.reads l=m+M.cnt M.reads (l.drop n)∧Below w.heap.size w wr) (fun _ s10 _=>l.length - (intOf s10).toNat)
 case atStart=>exact ⟨0,0,rfl,rfl,Nat.zero_le _,Nat.le_refl _,by simp,Below.refl _ _⟩
 case round =>
  obtain ⟨m,n,rfl,rfl,hn,hmn,hpass,hbel⟩:=hrel
  have HP:Hid (M.cnt M.reads l=m+M.cnt M.reads (l.drop n)):=hpass
  clear hpass
  by_cases hlt:n < l.length
  ·obtain ⟨rfl⟩:=h.addr (by omega)
   have hd:=(h.row n hlt).below hbel (Nat.le_refl _)
   have HD:Hid (l.drop n=l[n]::l.drop (n+1)):=M.drop_at l n hlt
   generalize l[n]=d at hd HD
   obtain ⟨k,p,v⟩:=d
   obtain ⟨ck,cp,cv⟩:=hd
   cases hu:M.reads k
   ·go_wp2_with (go_at_call 64;refine (reads_any _ _).mono ?_;rintro e w1 ⟨rfl,rfl⟩)
    exact ⟨⟨m,n+1,rfl,by go_num,by omega,by omega,M.cnt_step HP.out HD.out (by simp [hu]),hbel.alloc hbel.size _⟩,by simp [intOf];omega⟩
   ·go_wp2_with (go_at_call 64;refine (reads_any _ _).mono ?_;rintro e w1 ⟨rfl,rfl⟩)
    exact ⟨⟨m+1,n+1,by go_num,by go_num,by omega,by omega,M.cnt_step HP.out HD.out (by simp [hu]),hbel.alloc hbel.size _⟩,by simp [intOf];omega⟩
  ·go_wp2_with fail
   go_ret
   exact ⟨ret_int (by rw [M.cnt_fin HP.out (by omega)]),hbel⟩
set_option maxHeartbeats 400000 in
theorem ireads_any (a:Option Addr) (b o c:Nat) (ll:List (List M.D)) (w:World) (hl:ll.length≤1048576) (hls:∀ t∈ll,t.length≤1048576) (h:DoSS w a b o ll) :
  Calls Tryz.prog 26 #[.agg #[.slice a ll.length c]] w fun e w'=>e=.returned (.int .i64 (M.nreads ll))∧Below w.heap.size w w':=by
 cases hp:M.prog ll
 ·go_enter Tryz.func26,Tryz.ntmps26
  go_wp2_with (go_at_call 38;refine (iprog_any a b o c ll _ hl hls (h.below (below1 w _) (Nat.le_refl _))).mono ?_;rintro e w1 ⟨rfl,hb1⟩)
  go_ret
  exact ⟨ret_int (M.nreads_no hp).symm,(below1 w _).trans (hb1.mono (by simp))⟩
 ·obtain ⟨h3,h7⟩:=M.prog_le hp
  go_enter Tryz.func26,Tryz.ntmps26
  go_wp2_with (go_at_call 38;refine (iprog_any a b o c ll _ hl hls (h.below (below1 w _) (Nat.le_refl _))).mono ?_;rintro e w1 ⟨rfl,hb1⟩;obtain ⟨hc1,hf1⟩:=bcell hb1)
  have hs1:=(h.below (below1 w _) (Nat.le_refl _)).below hb1 (Nat.le_refl _)
  have hbw:Below w.heap.size w w1:=(below1 w _).trans (hb1.mono (by simp))
  clear hb1 hc1 hf1 h
  go_loopw [3,12] (fun s3 s12 wr=>∃ m n:Nat,s3=.int .i64 m∧s12=.int .i64 n∧n≤ll.length∧m≤7 * n∧M.tot M.reads ll=m+M.tot M.reads (ll.drop n)∧Below w1.heap.size w1 wr) (fun _ s12 _=>ll.length - (intOf s12).toNat)
  case atStart=>exact ⟨0,0,rfl,rfl,Nat.zero_le _,Nat.le_refl _,by simp,Below.refl _ _⟩
  case round =>
   obtain ⟨m,n,rfl,rfl,hn,hmn,hpass,hbel⟩:=hrel
   have HP:Hid (M.tot M.reads ll=m+M.tot M.reads (ll.drop n)):=hpass
   clear hpass
   by_cases hlt:n < ll.length
   ·obtain ⟨rfl⟩:=hs1.addr (by omega)
    obtain ⟨a',b',o',c',hc,hd⟩:=(hs1.below hbel (Nat.le_refl _)).row n hlt
    have HD:Hid (ll.drop n=ll[n]::ll.drop (n+1)):=M.drop_at' ll n hlt
    have hlt':=hls _ (List.getElem_mem hlt)
    have hlt7:=h7 _ (List.getElem_mem hlt)
    generalize ll[n]=t at hd hc HD hlt' hlt7
    have hcn:=M.cnt_le M.reads t
    go_wp2_with (go_at_call 63;refine (cntReads_any a' b' o' c' t _ hlt' hd).mono ?_;rintro e w2 ⟨rfl,hb2⟩)
    exact ⟨⟨m+M.cnt M.reads t,n+1,by go_num,by go_num,by omega,by omega,M.tot_step HP.out HD.out,hbel.trans (hb2.mono hbel.size)⟩,by simp [intOf];omega⟩
   ·go_wp2_with fail
    go_ret
    exact ⟨ret_int (by rw [M.nreads_ok hp,M.tot_fin HP.out (by omega)]),hbw.trans (hbel.mono hbw.size)⟩
end Go.Proofs.YtihfibjckkmmbaaGreat
