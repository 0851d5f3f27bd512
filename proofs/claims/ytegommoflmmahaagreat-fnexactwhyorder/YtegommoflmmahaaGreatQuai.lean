/- The plain mathematics of how many reads a program has. No condition. And what goes with it: MathN, Reads, StepGo, Mark. -/
import Derived.Deep.AppendLies
import Derived.Deep.RegionLaw
import Derived.Shelf.Abstract
import Derived.Test.YtegommoflmmahaaGreatRows
import Derived.Test.YtegommoflmmahaaGreatQuah
namespace Go.Proofs.YtegommoflmmahaaGreat
section
open Go.RowKit
def M.tot (f:Int→Bool):List (List M.D)→Nat
 | []=>0
 | t::l=>M.cnt f t+M.tot f l
def M.nreads (ll:List (List M.D)):Int:=if M.prog ll then (M.tot M.reads ll:Int) else -1
theorem M.from_le {ll:List (List M.D)}:∀ {a u:Nat},M.progFrom a u ll=true→∀ t∈ll,t.length≤7:=by
 induction ll with
 | nil=>intro a u _ t ht;simp at ht
 | cons t l ih =>
  intro a u h t' ht'
  by_cases hb:M.thread t=true
  ·simp only [M.progFrom,hb,if_true] at h
   rcases List.mem_cons.1 ht' with rfl | hm
   ·exact M.thread_le hb
   ·exact ih h t' hm
  ·simp [M.progFrom,hb] at h
theorem M.prog_le {ll:List (List M.D)} (h:M.prog ll=true):ll.length≤3∧∀ t∈ll,t.length≤7:=by
 simp only [M.prog,Bool.and_eq_true,decide_eq_true_eq] at h
 exact ⟨h.1,M.from_le h.2⟩
theorem M.tot_step {f:Int→Bool} {l:List (List M.D)} {m n:Nat} {t:List M.D} (hp:M.tot f l=m+M.tot f (l.drop n)) (hd:l.drop n=t::l.drop (n+1)):M.tot f l=(m+M.cnt f t)+M.tot f (l.drop (n+1)):=by
 rw [hp,hd,M.tot];omega
theorem M.tot_fin {f:Int→Bool} {l:List (List M.D)} {m n:Nat} (hp:M.tot f l=m+M.tot f (l.drop n)) (hn:l.length≤n):m=M.tot f l:=by
 rw [hp,List.drop_eq_nil_of_le hn];rfl
theorem M.nreads_ok {ll:List (List M.D)} (h:M.prog ll=true):M.nreads ll=M.tot M.reads ll:=by simp [M.nreads,h]
theorem M.nreads_no {ll:List (List M.D)} (h:M.prog ll=false):M.nreads ll=-1:=by simp [M.nreads,h]
end
section
open Go.RowKit
set_option maxHeartbeats 400000 in
theorem cntReads_any (a:Option Addr) (b o c:Nat) (l:List M.D) (w:World) (hl:l.length≤1048576) (h:DoS w a b o l) :
  Calls Tryz.prog 112 #[.slice a l.length c,.func (.func 96) #[] #[]] w fun e w'=>e=.returned (.int .i64 (M.cnt M.reads l))∧Below w.heap.size w w':=by
 go_enter Tryz.func112,Tryz.ntmps112
 go_wp2_with fail
 go_loopw [5,10] (fun s5 s10 wr=>∃ m n:Nat,s5=.int .i64 m∧s10=.int .i64 n∧n≤l.length∧m≤n∧M.cnt M.reads l=m+M.cnt M.reads (l.drop n)∧Below w.heap.size w wr) (fun _ s10 _=>l.length - (intOf s10).toNat)
 case atStart=>exact ⟨0,0,rfl,rfl,Nat.zero_le _,Nat.le_refl _,by simp,Below.refl _ _⟩
 case round =>
  obtain ⟨m,n,rfl,rfl,hn,hmn,hpass,hbel⟩:=hrel
  have HP:Hid (M.cnt M.reads l=m+M.cnt M.reads (l.drop n)):=hpass
  clear hpass
  by_cases hlt:n < l.length
  ·obtain ⟨rfl⟩:=h.addr (by omega)
   have hd:=(h.row n hlt).below hbel (Nat.le_refl _)
   have HD:Hid (l.drop n=l[n]::l.drop (n+1)):=M.drop_at l n hlt
   generalize l[n]=d at hd HD
   obtain ⟨k,p,v⟩:=d
   obtain ⟨ck,cp,cv⟩:=hd
   cases hu:M.reads k
   ·go_wp2_with (go_at_call 96;refine (reads_any _ _).mono ?_;rintro e w1 ⟨rfl,rfl⟩)
    exact ⟨⟨m,n+1,rfl,by go_num,by omega,by omega,M.cnt_step HP.out HD.out (by simp [hu]),hbel.alloc hbel.size _⟩,by simp [intOf];omega⟩
   ·go_wp2_with (go_at_call 96;refine (reads_any _ _).mono ?_;rintro e w1 ⟨rfl,rfl⟩)
    exact ⟨⟨m+1,n+1,by go_num,by go_num,by omega,by omega,M.cnt_step HP.out HD.out (by simp [hu]),hbel.alloc hbel.size _⟩,by simp [intOf];omega⟩
  ·go_wp2_with fail
   go_ret
   exact ⟨ret_int (by rw [M.cnt_fin HP.out (by omega)]),hbel⟩
set_option maxHeartbeats 400000 in
theorem ireads_any (a:Option Addr) (b o c:Nat) (ll:List (List M.D)) (w:World) (hl:ll.length≤1048576) (hls:∀ t∈ll,t.length≤1048576) (h:DoSS w a b o ll) :
  Calls Tryz.prog 94 #[.agg #[.slice a ll.length c]] w fun e w'=>e=.returned (.int .i64 (M.nreads ll))∧Below w.heap.size w w':=by
 cases hp:M.prog ll
 ·go_enter Tryz.func94,Tryz.ntmps94
  go_wp2_with (go_at_call 54;refine (iprog_any a b o c ll _ hl hls (h.below (below1 w _) (Nat.le_refl _))).mono ?_;rintro e w1 ⟨rfl,hb1⟩)
  go_ret
  exact ⟨ret_int (M.nreads_no hp).symm,(below1 w _).trans (hb1.mono (by simp))⟩
 ·obtain ⟨h3,h7⟩:=M.prog_le hp
  go_enter Tryz.func94,Tryz.ntmps94
  go_wp2_with (go_at_call 54;refine (iprog_any a b o c ll _ hl hls (h.below (below1 w _) (Nat.le_refl _))).mono ?_;rintro e w1 ⟨rfl,hb1⟩;obtain ⟨hc1,hf1⟩:=bcell hb1)
  have hs1:=(h.below (below1 w _) (Nat.le_refl _)).below hb1 (Nat.le_refl _)
  have hbw:Below w.heap.size w w1:=(below1 w _).trans (hb1.mono (by simp))
  clear hb1 hc1 hf1 h
  go_loopw [3,12] (fun s3 s12 wr=>∃ m n:Nat,s3=.int .i64 m∧s12=.int .i64 n∧n≤ll.length∧m≤7 * n∧M.tot M.reads ll=m+M.tot M.reads (ll.drop n)∧Below w1.heap.size w1 wr) (fun _ s12 _=>ll.length - (intOf s12).toNat)
  case atStart=>exact ⟨0,0,rfl,rfl,Nat.zero_le _,Nat.le_refl _,by simp,Below.refl _ _⟩
  case round =>
   obtain ⟨m,n,rfl,rfl,hn,hmn,hpass,hbel⟩:=hrel
   have HP:Hid (M.tot M.reads ll=m+M.tot M.reads (ll.drop n)):=hpass
   clear hpass
   by_cases hlt:n < ll.length
   ·obtain ⟨rfl⟩:=hs1.addr (by omega)
    obtain ⟨a',b',o',c',hc,hd⟩:=(hs1.below hbel (Nat.le_refl _)).row n hlt
    have HD:Hid (ll.drop n=ll[n]::ll.drop (n+1)):=M.drop_at' ll n hlt
    have hlt':=hls _ (List.getElem_mem hlt)
    have hlt7:=h7 _ (List.getElem_mem hlt)
    generalize ll[n]=t at hd hc HD hlt' hlt7
    have hcn:=M.cnt_le M.reads t
    go_wp2_with (go_at_call 112;refine (cntReads_any a' b' o' c' t _ hlt' hd).mono ?_;rintro e w2 ⟨rfl,hb2⟩)
    exact ⟨⟨m+M.cnt M.reads t,n+1,by go_num,by go_num,by omega,by omega,M.tot_step HP.out HD.out,hbel.trans (hb2.mono hbel.size)⟩,by simp [intOf];omega⟩
   ·go_wp2_with fail
    go_ret
    exact ⟨ret_int (by rw [M.nreads_ok hp,M.tot_fin HP.out (by omega)]),hbw.trans (hbel.mono hbw.size)⟩
end
section
open Go.RowKit
theorem step_go {P:Program} {ops:Array Oper} {o:Oper} {a:Act} {w:World} {K:Act→World→Prop} {Q:Exit→Act→World→Prop} {E:Prop}
  (hg:o.guard=none) (f:FuncId) (os:Array Operand) (ts:Array TypeId) (hop:o.op=Op.call { callee:=Callee.value (Operand.func f),args:=os,argTypes:=ts })
  (vals:Array Value) (hv:os.map a.eval=vals) (he:∀ args w,(callFunc f args).run P w=.ok (.enter f args) w) {R:Ending→World→Prop} (hc:Calls P f vals w R)
  (hK:∀ e w',R e w'→∃ v,e=.returned v∧K (a.put o.dst v) w') :
  if Region.wanted o (yielded ops a.tmps)=true then Oper.wp P o a w K Q else E:=by
 have hw:Region.wanted o (yielded ops a.tmps)=true:=by simp [Region.wanted,hg]
 rw [if_pos hw]
 subst hv
 have hr:(execOp a.eval o).run P w=.ok (.enter f (os.map a.eval)) w:=by
  simp [execOp,hop,resolve,invoke,Act.eval,Deferred.ofValue,he]
 unfold Oper.wp
 rw [hr,Oper.upon_enter]
 refine hc.mono fun e w' h=>?_
 obtain ⟨v,rfl,hk⟩:=hK e w' h
 exact hk
theorem step_go2 {P:Program} {ops:Array Oper} {o:Oper} {a:Act} {w:World} {K:Act→World→Prop} {Q:Exit→Act→World→Prop} {E:Prop}
  (hg:o.guard=none) (f:FuncId) (x y:Operand) (ts:Array TypeId) (hop:o.op=Op.call { callee:=Callee.value (Operand.func f),args:=#[x,y],argTypes:=ts })
  (vx vy:Value) (hx:a.eval x=vx) (hy:a.eval y=vy) (he:∀ args w,(callFunc f args).run P w=.ok (.enter f args) w) {R:Ending→World→Prop} (hc:Calls P f #[vx,vy] w R)
  (hK:∀ e w',R e w'→∃ v,e=.returned v∧K (a.put o.dst v) w') :
  if Region.wanted o (yielded ops a.tmps)=true then Oper.wp P o a w K Q else E :=
 step_go hg f #[x,y] ts hop #[vx,vy] (by simp [hx,hy]) he hc hK
theorem step_go3 {P:Program} {ops:Array Oper} {o:Oper} {a:Act} {w:World} {K:Act→World→Prop} {Q:Exit→Act→World→Prop} {E:Prop}
  (hg:o.guard=none) (f:FuncId) (x y z:Operand) (ts:Array TypeId) (hop:o.op=Op.call { callee:=Callee.value (Operand.func f),args:=#[x,y,z],argTypes:=ts })
  (vx vy vz:Value) (hx:a.eval x=vx) (hy:a.eval y=vy) (hz:a.eval z=vz) (he:∀ args w,(callFunc f args).run P w=.ok (.enter f args) w) {R:Ending→World→Prop} (hc:Calls P f #[vx,vy,vz] w R)
  (hK:∀ e w',R e w'→∃ v,e=.returned v∧K (a.put o.dst v) w') :
  if Region.wanted o (yielded ops a.tmps)=true then Oper.wp P o a w K Q else E :=
 step_go hg f #[x,y,z] ts hop #[vx,vy,vz] (by simp [hx,hy,hz]) he hc hK
end
section
open Go.RowKit
namespace M
def seq (k:Int) (n:Nat):List Int:=(List.range n).map fun (i:Nat)=>k+(i:Int)
end M
end
end Go.Proofs.YtegommoflmmahaaGreat
