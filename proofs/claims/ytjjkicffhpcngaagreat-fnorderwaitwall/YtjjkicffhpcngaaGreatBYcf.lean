/- Two walls are one; one step turned into another one of the program. Plainly. No condition but what is said. One step of a kind turned into another one, row by row. Plainly. No condition but what is said. laws.lpSwap: a program of which one step of a kind is turned into another one. Of few threads, and of at most 1000 steps of a thread. -/
import Derived.Below
import Derived.BigQuiet
import Derived.Deep.AppendLies
import Derived.Deep.CutRange
import Derived.Deep.MidRow
import Derived.Deep.Quiet
import Derived.Deep.QuietTactic
import Derived.Deep.RegionHeld3
import Derived.Deep.RegionLaw
import Derived.Deep.RegionWith
import Derived.Deep.Slices
import Derived.Deep.WholeRow
import Derived.Handy
import Derived.Laws.AppendOwn
import Derived.Laws.AppendOwnNone
import Derived.Laws.EntriesVeiled
import Derived.Laws.IdiomCopy
import Derived.Laws.OwnMore
import Derived.LoopIn
import Derived.LoopN
import Derived.LoopNIn
import Derived.Maps.AppendAt
import Derived.Maps.OwnIn
import Derived.OwnWalkIn
import Derived.RangeFuncBound
import Derived.RangeFuncLeaves
import Derived.RangeFuncNested
import Derived.Shelf.Abstract
import Derived.Shelf.SlSortCmp.NoneTotal
import Derived.Sort.Grow
import Derived.TacticsInMore
import Derived.WalkKit
import Derived.WalkLawsBesides
import Derived.WalkSpells
import Derived.Deep.OwnRows
import Derived.Test.YtjjkicffhpcngaaGreatRows
import Derived.Test.YtjjkicffhpcngaaGreatBYaz
import Derived.Test.YtjjkicffhpcngaaGreatBYbc
namespace Go.Proofs.YtjjkicffhpcngaaGreat
namespace M
def swR (fr to_:Int):Int→List D→List D
 | _,[]=>[]
 | n,d::l=>if d.k==fr then (if n==0 then ⟨to_,d.p,d.v⟩ else d)::swR fr to_ (n - 1) l else d::swR fr to_ n l
def swF (fr to_:Int):Int→List (List D)→List (List D)
 | _,[]=>[]
 | n,l::ll=>swR fr to_ n l::swF fr to_ (n - cntR fr l) ll
def cntF (fr:Int):List (List D)→Nat
 | []=>0
 | l::ll=>cntR fr l+cntF fr ll
theorem swR_len (fr to_:Int):∀ (l:List D) (n:Int),(swR fr to_ n l).length=l.length
 | [],_=>rfl
 | d::l,n=>by
  rw [swR]
  split<;>simp [swR_len fr to_ l]
theorem swF_len (fr to_:Int):∀ (ll:List (List D)) (n:Int),(swF fr to_ n ll).length=ll.length
 | [],_=>rfl
 | l::ll,n=>by simp [swF,swF_len fr to_ ll]
end M
end Go.Proofs.YtjjkicffhpcngaaGreat
namespace Go.Proofs.YtjjkicffhpcngaaGreat
namespace M
def sw1 (fr to_ n:Int) (d:D):D:=if d.k==fr then (if n==0 then ⟨to_,d.p,d.v⟩ else d) else d
def cnt1 (fr:Int) (d:D):Nat:=if d.k==fr then 1 else 0
theorem swR_app (fr to_:Int) (d:D):∀ (l:List D) (m:Int),swR fr to_ m (l++[d])=swR fr to_ m l++[sw1 fr to_ (m - cntR fr l) d]
 | [],m=>by simp only [List.nil_append,swR,sw1,cntR];split<;>simp
 | x::l,m=>by
  rw [List.cons_append,swR,swR,cntR]
  split
  ·rw [swR_app fr to_ d l]
   simp only [List.cons_append]
   congr 4
   omega
  ·rw [swR_app fr to_ d l]
   simp
theorem cntR_app (fr:Int) (d:D):∀ l:List D,cntR fr (l++[d])=cntR fr l+cnt1 fr d
 | []=>by simp [cntR,cnt1]
 | x::l=>by rw [List.cons_append,cntR,cntR,cntR_app fr d l];omega
theorem swF_app (fr to_:Int) (t:List D):∀ (ll:List (List D)) (m:Int),swF fr to_ m (ll++[t])=swF fr to_ m ll++[swR fr to_ (m - cntF fr ll) t]
 | [],m=>by simp [swF,cntF]
 | x::ll,m=>by
  rw [List.cons_append,swF,swF,cntF,swF_app fr to_ t ll]
  simp only [List.cons_append]
  congr 4
  omega
theorem cntF_app (fr:Int) (t:List D):∀ ll:List (List D),cntF fr (ll++[t])=cntF fr ll+cntR fr t
 | []=>by simp [cntF]
 | x::ll=>by rw [List.cons_append,cntF,cntF,cntF_app fr t ll];omega
theorem cntR_le (fr:Int):∀ l:List D,cntR fr l≤l.length
 | []=>by simp [cntR]
 | x::l=>by have:=cntR_le fr l;rw [cntR,List.length_cons];split<;>omega
theorem cntR_take (fr:Int) (t:List D) (k:Nat) (h:k < t.length):cntR fr (t.take (k+1))=cntR fr (t.take k)+cnt1 fr t[k]:=by
 rw [List.take_succ_eq_append_getElem h,cntR_app]
theorem cntF_take (fr:Int) (ll:List (List D)) (n:Nat) (h:n < ll.length):cntF fr (ll.take (n+1))=cntF fr (ll.take n)+cntR fr ll[n]:=by
 rw [List.take_succ_eq_append_getElem h,cntF_app]
theorem swF_take (fr to_ m:Int) (ll:List (List D)) (n:Nat) (h:n < ll.length):swF fr to_ m (ll.take (n+1))=swF fr to_ m (ll.take n)++[swR fr to_ (m - cntF fr (ll.take n)) ll[n]]:=by
 rw [List.take_succ_eq_append_getElem h,swF_app]
theorem cntF_le (fr:Int):∀ (ll:List (List D)) (B:Nat),(∀ t∈ll,t.length≤B)→cntF fr ll≤ll.length * B
 | [],B,_=>by simp [cntF]
 | t::ll,B,h=>by
  have h1:=cntF_le fr ll B fun t ht=>h t (List.mem_cons_of_mem _ ht)
  have h2:=cntR_le fr t
  have h3:=h t (List.mem_cons_self ..)
  rw [cntF,List.length_cons,Nat.add_mul]
  omega
theorem swF_rows (fr to_:Int):∀ (ll:List (List D)) (m:Int) (i:Nat) (h:i < (swF fr to_ m ll).length),(swF fr to_ m ll)[i].length=(ll[i]'(by rw [swF_len] at h;exact h)).length
 | [],m,i,h=>by simp [swF] at h
 | t::ll,m,0,h=>by simp [swF,swR_len]
 | t::ll,m,i+1,h=>by simpa [swF] using swF_rows fr to_ ll (m - cntR fr t) i (by simpa [swF] using h)
def curS (fr to_ m:Int) (k:Nat) (t:List D):List D:=swR fr to_ m (t.take k)++t.drop k
theorem curS_zero (fr to_ m:Int) (t:List D):curS fr to_ m 0 t=t:=by simp [curS,swR]
theorem curS_len (fr to_ m:Int) (k:Nat) (t:List D):(curS fr to_ m k t).length=t.length:=by simp [curS,swR_len];omega
theorem curS_all (fr to_ m:Int) (k:Nat) (t:List D) (h:t.length≤k):curS fr to_ m k t=swR fr to_ m t:=by
 unfold curS;rw [List.take_of_length_le h,List.drop_eq_nil_of_le h,List.append_nil]
theorem curS_get (fr to_ m:Int) (k:Nat) (t:List D) (h:k < t.length) (h':k < (curS fr to_ m k t).length):(curS fr to_ m k t)[k]=t[k]:=by
 have e:(curS fr to_ m k t)[k]?=t[k]?:=by
  unfold curS
  have hl:(swR fr to_ m (t.take k)).length=k:=by rw [swR_len,List.length_take];omega
  rw [List.getElem?_append_right (by omega),hl,Nat.sub_self,List.getElem?_drop]
  simp
 rw [List.getElem?_eq_getElem h,List.getElem?_eq_getElem h'] at e
 exact Option.some.inj e
theorem curS_set (fr to_ m:Int) (k:Nat) (t:List D) (h:k < t.length):(curS fr to_ m k t).set k (sw1 fr to_ (m - cntR fr (t.take k)) t[k])=curS fr to_ m (k+1) t:=by
 unfold curS
 have hl:(swR fr to_ m (t.take k)).length=k:=by rw [swR_len,List.length_take];omega
 rw [List.set_append_right _ _ (by omega),hl,Nat.sub_self,← List.getElem_cons_drop h,List.set_cons_zero,List.take_succ_eq_append_getElem h,swR_app]
 simp
end M
end Go.Proofs.YtjjkicffhpcngaaGreat
namespace Go.Proofs.YtjjkicffhpcngaaGreat
open Go.RowKit
structure SwapAns (w w':World) (ll:List (List M.D)) (fr to_:Int) (v:Value):Prop where
 ex:∃ (qa:Option Addr) (qn qc:Nat) (ok:Bool),v=.tuple #[.agg #[.slice qa qn qc],.bool ok]∧(ok=true→∃ (qq:List (List M.D)) (g':Nat) (m:Int),qn=qq.length∧DoSS w' qa g' 0 qq∧qq=M.swF fr to_ m ll∧M.prog qq=true)
 bel:Below w.heap.size w w'
set_option maxHeartbeats 4000000 in
set_option maxRecDepth 100000 in
set_option linter.unusedSimpArgs false in
theorem lpSwap_any (a:Option Addr) (b o c:Nat) (ll:List (List M.D)) (fr to_:Int) (n0:Nat) (w:World) (h3:ll.length≤3) (h7:∀ t∈ll,t.length≤1000) (hn0:n0≤1048576) (h:DoSS w a b o ll) :
  Calls Tryz.prog 32 #[.agg #[.slice a ll.length c],.int .i64 fr,.int .i64 to_,.int .i64 n0] w fun e w'=>∃ v,e=.returned v∧SwapAns w w' ll fr to_ v:=by
 obtain ⟨i0,hi,hz0,hz1,hz2⟩:=info_parts Tryz.info41
 obtain ⟨j0,hj,hy0,hy1,hy2⟩:=info_parts Tryz.info43
 have hl:ll.length≤1048576:=by omega
 have hls:∀ t∈ll,t.length≤1048576:=fun t ht=>by have:=h7 t ht;omega
 have bw1:=below2 w (.cells #[.slice a ll.length c] 25) (.cells #[.slice none 0 0] 25)
 have hD:=h.below bw1 (Nat.le_refl _)
 have hX1:=(Slot1.new w (.slice a ll.length c) 25).bl' (below1 _ (.cells #[.slice none 0 0] 25))
 have hY1:=Slot1.new (w.alloc (.cells #[.slice a ll.length c] 25)) (.slice none 0 0) 25
 rw [World.size_alloc] at hY1
 have HSZ:Hid (((w.alloc (.cells #[.slice a ll.length c] 25)).alloc (.cells #[.slice none 0 0] 25)).heap.size=w.heap.size+1+1):=by show _=_;simp
 go_enter Tryz.func32,Tryz.ntmps32
 go_wp2_with fail
 generalize (w.alloc (.cells #[.slice a ll.length c] 25)).alloc (.cells #[.slice none 0 0] 25)=W2 at *
 have lX:=hX1.lt
 have lY:=hY1.lt
 have hX1c:=hX1.c
 have hT:∀ n,M.cntF fr (ll.take n)≤3000:=fun n=>by
  have h1:=M.cntF_le fr (ll.take n) 1000 fun t ht=>h7 t (List.mem_of_mem_take ht)
  have h2:(ll.take n).length≤3:=by rw [List.length_take];omega
  have:(ll.take n).length * 1000≤3 * 1000:=Nat.mul_le_mul_right _ h2
  omega
 go_loopw [10,11] (fun s10 s11 wr=>W2=wr∧∃ n:Nat,s10=.int .i64 (M.cntF fr (ll.take n))∧s11=.int .i64 n∧n≤ll.length) (fun _ s11 _=>ll.length - (intOf s11).toNat)
 case atStart=>exact ⟨rfl,0,by simp [M.cntF],rfl,Nat.zero_le _⟩
 case round =>
  obtain ⟨hwr,n,rfl,rfl,hn⟩:=hrel
  subst hwr
  by_cases hlt:n < ll.length
  ·obtain ⟨rfl⟩:=h.addr (by omega)
   obtain ⟨a',b',o',c',hc0,hd0⟩:=hD.row n hlt
   have HC:Hid (M.cntF fr (ll.take (n+1))=M.cntF fr (ll.take n)+M.cntR fr ll[n]):=M.cntF_take fr ll n hlt
   have ht7:=h7 _ (List.getElem_mem hlt)
   have hTn:=hT n
   generalize ll[n]=t at *
   generalize M.cntF fr (ll.take n)=T at *
   have i1:(n:Int) < ll.length:=by omega
   go_wp2_with fail
   go_loopw [10,12] (fun s10 s12 wi=>W2=wi∧∃ k:Nat,s10=.int .i64 ((T+M.cntR fr (t.take k):Nat):Int)∧s12=.int .i64 k∧k≤t.length) (fun _ s12 _=>t.length - (intOf s12).toNat)
   case atStart=>exact ⟨rfl,0,by simp [M.cntR],rfl,Nat.zero_le _⟩
   case round =>
    obtain ⟨hwr,k,rfl,rfl,hk⟩:=hrel
    subst hwr
    by_cases hkt:k < t.length
    ·obtain ⟨rfl⟩:=hd0.addr (by omega)
     have hat:=hd0.row k hkt
     have HR:Hid (M.cntR fr (t.take (k+1))=M.cntR fr (t.take k)+M.cnt1 fr t[k]):=M.cntR_take fr t k hkt
     have hcl:M.cntR fr (t.take k)≤1000:=by
      have:=M.cntR_le fr (t.take k)
      rw [List.length_take] at this;omega
     generalize t[k]=d at *
     generalize M.cntR fr (t.take k)=K at *
     obtain ⟨kk,pp,vv⟩:=d
     obtain ⟨ck,cp,cv'⟩:=hat
     have j1:(k:Int) < t.length:=by omega
     cases hf:(kk==fr)
     ·have hf':¬ kk=fr:=by simpa using hf
      go_wp2_with fail
      exact ⟨⟨trivial,k+1,by rw [HR.out];simp [M.cnt1,hf'],by go_num,by omega⟩,by simp [intOf];omega⟩
     ·obtain rfl:kk=fr:=by simpa using hf
      go_wp2_with fail
      exact ⟨⟨trivial,k+1,by rw [HR.out];simp only [M.cnt1,hf,if_true];go_num,by go_num,by omega⟩,by simp [intOf];omega⟩
    ·have j1:¬ (k:Int) < t.length:=by omega
     have htk:t.take k=t:=List.take_of_length_le (by omega)
     rw [htk]
     go_wp2_with fail
     exact ⟨⟨trivial,n+1,by rw [HC.out],by go_num,by omega⟩,by simp [intOf];omega⟩
  ·have htk:ll.take n=ll:=List.take_of_length_le (by omega)
   have hcn:=hT n
   rw [htk] at hcn ⊢
   have hkn':¬ (n:Int) < ll.length:=by omega
   generalize M.cntF fr ll=CN at *
   by_cases hz:CN=0
   ·subst hz
    have q0:=hY1.c
    have qf:=hY1.fz
    have hne:w.heap.size+1≠w.heap.size:=by omega
    go_wp2_with fail
    have q1:=(hY1.set (.slice a ll.length c)).c
    exact bodyPost_ret (v:=.tuple #[.agg #[.slice a ll.length c],.bool false]) (by simp [results,Tryz.results32,go_sem,q1]) rfl ⟨_,rfl,⟨_,_,_,_,rfl,fun he=>(by cases he)⟩,bw1.setCell (by show w.heap.size≤w.heap.size+1;omega) _⟩
   ·have hcz1:((CN:Int)==0)=false:=by rw [beq_eq_false_iff_ne];omega
    have hz2':¬ (CN:Int)=0:=by omega
    obtain ⟨m,hm⟩:∃ m:Int,Int.tmod (n0:Int) (CN:Int)=m:=⟨_,rfl⟩
    have hmb:0≤m∧m≤1048576:=by
     rw [← hm,Int.tmod_eq_emod_of_nonneg (by omega)]
     have h1:=Int.emod_nonneg (n0:Int) hz2'
     have h2:=Int.emod_lt_of_pos (n0:Int) (show (0:Int) < CN by omega)
     omega
    have bA:=below1 W2 (.cells #[.slice none 0 0] 25)
    have hYA:=hY1.bl' bA
    have hZA:=Slot1.new W2 (.slice none 0 0) 25
    have CP:=fun (qa:Option Addr) (g c':Nat) (qq:List (List M.D)) (W:World) (h1:qq.length≤1048576) (h2:∀ t∈qq,t.length≤1048576) (h3:DoSS W qa g 0 qq)=>sprog_any qa g 0 c' qq W h1 h2 h3
    go_wp2_with fail
    generalize W2.alloc (.cells #[.slice none 0 0] 25)=WA at *
    go_loopw [3,14] (fun s3 s14 wr=>∃ (n:Nat) (v:Value) (vs:List Value),s3=.int .i64 (m - (M.cntF fr (ll.take n):Int))∧s14=.int .i64 n∧n≤ll.length∧Rdg wr (w.heap.size+3) v (M.swF fr to_ m (ll.take n)) vs∧Slot1 wr (W2.heap.size) v∧Slot1 wr (w.heap.size+1) (.slice none 0 0)∧Below W2.heap.size W2 wr) (fun _ s14 _=>ll.length - (intOf s14).toNat)
    case atStart=>exact ⟨0,.slice none 0 0,[],by simp [M.cntF],rfl,Nat.zero_le _,by simpa [M.swF] using Rdg.nil _ _,hZA,hYA,bA⟩
    case round =>
     obtain ⟨n,v,vs,rfl,rfl,hn,hR,hP,hY,hbel⟩:=hrel
     clear hZA hYA bA
     have hsz2:=HSZ.out
     have xx0:=(hbel.cell (p:=⟨w.heap.size,0,none⟩) lX).trans hX1c
     by_cases hlt:n < ll.length
     ·obtain ⟨rfl⟩:=h.addr (by omega)
      obtain ⟨a',b',o',c',hc0,hd0⟩:=hD.row n hlt
      have HW:Hid (M.swF fr to_ m (ll.take (n+1))=M.swF fr to_ m (ll.take n)++[M.swR fr to_ (m - (M.cntF fr (ll.take n):Int)) ll[n]]):=M.swF_take fr to_ m ll n hlt
      have HC:Hid (M.cntF fr (ll.take (n+1))=M.cntF fr (ll.take n)+M.cntR fr ll[n]):=M.cntF_take fr ll n hlt
      have hmm:(M.swF fr to_ m (ll.take n)).length≤3:=by rw [M.swF_len];simp;omega
      have ht7:=h7 _ (List.getElem_mem hlt)
      have hTn:=hT n
      generalize ll[n]=t at *
      generalize M.swF fr to_ m (ll.take n)=mm at *
      generalize M.cntF fr (ll.take n)=T at *
      obtain ⟨q,hq⟩:∃ q:Int,m - (T:Int)=q:=⟨_,rfl⟩
      have HQ:Hid (m - (T:Int)=q):=hq
      have hqb:-3000≤q∧q≤1048576:=by omega
      rw [hq] at HW ⊢
      clear hq
      have i1:(n:Int) < ll.length:=by omega
      obtain ⟨av,gv,cv,rfl,_⟩:=hR.b.ss
      have HSZ2:Hid (W2.heap.size=w.heap.size+1+1):=hsz2
      clear hsz2
      obtain ⟨W3,hW3⟩:∃ W3,W3=wr:=⟨_,rfl⟩
      subst hW3
      have hc:=(hbel.cell (p:=⟨b,o+n,none⟩) (World.block_lt_of_cell? _ _ hc0)).trans hc0
      have lX3:w.heap.size < W3.heap.size:=World.block_lt_of_cell? _ _ xx0
      have lP:=hP.lt
      have lcr:b < W3.heap.size:=World.block_lt_of_cell? _ _ hc
      have bE:Below W3.heap.size W3 (W3.alloc (.cells #[] 43)):=below1 _ _
      have OA:(W3.alloc (.cells #[] 43)).ownsRow W3.heap.size 43 3 (.slice (some ⟨W3.heap.size,0,none⟩) 0 0) 0 []:=own_emp (heap_alloc_new W3 _) (Nat.le_refl _)
      have DA:DoS (W3.alloc (.cells #[] 43)) a' b' o' t:=(hd0.below hbel (Nat.le_refl _)).below bE (Nat.le_refl _)
      go_wp2_with (at_builtin;refine wpList_append_does rfl (.tmp 61) (.tmp 66) 41 rfl (some 67) rfl W3.heap.size 43 j0 Tryz.underlying41 hj hy0 hy1 hy2 W3.heap.size rfl OA (by simp) a' b' o' c' t rfl DA (by omega) ?_)
      intro v4 w4 ho4 hg4 _
      obtain ⟨a4,c4,rfl⟩:=own_slx ho4
      have b4:Below W3.heap.size W3 w4:=below_grown bE hg4 (fun j hj=>by have:W3.heap.size=j:=Option.some.inj hj;omega) bE.size
      have hP2:W2.heap.size < W3.heap.size:=lP
      clear hg4 OA DA bE xx0 hc
      go_wp2_with fail
      go_loopw [3,16] (fun s3 s16 wi=>∃ k:Nat,s3=.int .i64 (q - (M.cntR fr (t.take k):Int))∧s16=.int .i64 k∧k≤t.length∧wi.ownsRow W3.heap.size 43 3 (.slice a4 t.length c4) t.length (flat (M.curS fr to_ q k t))∧Below W3.heap.size W3 wi) (fun _ s16 _=>t.length - (intOf s16).toNat)
      case atStart=>exact ⟨0,by simp [M.cntR],rfl,Nat.zero_le _,by rw [M.curS_zero];exact ho4,b4⟩
      case round =>
       obtain ⟨k,rfl,rfl,hk,ho,hbi⟩:=hrel
       have hbs:=hbi.size
       by_cases hkt:k < t.length
       ·have hkk:k < (M.curS fr to_ q k t).length:=by rw [M.curS_len];exact hkt
        have HG:∃ g,a4=some ⟨g,0,none⟩∧W3.heap.size≤g:=by
         rcases ho.2 with ⟨e,_⟩ | ⟨g,cap,cur,e,hg,_⟩
         ·simp only [Value.slice.injEq] at e;omega
         ·simp only [Value.slice.injEq] at e;exact ⟨g,e.1,hg⟩
        obtain ⟨g,rfl,hgg⟩:=HG
        have hfz:=own_fzS ho
        have hat:DoAt wr g (k * 3) t[k]:=by
         have ho':=ho
         rw [← M.curS_len fr to_ q k t] at ho'
         obtain ⟨a5,g5,c5,e5,hd5,_⟩:=own_steps ho'
         simp only [Value.slice.injEq] at e5
         have e6:=hd5.addr (by omega)
         rw [← e5.1] at e6
         simp at e6
         have:=hd5.row k hkk
         rw [← e6,Nat.zero_add,M.curS_get fr to_ q k t hkt] at this
         exact this
        have HR:Hid (M.cntR fr (t.take (k+1))=M.cntR fr (t.take k)+M.cnt1 fr t[k]):=M.cntR_take fr t k hkt
        have hcl:M.cntR fr (t.take k)≤1000:=by
         have:=M.cntR_le fr (t.take k)
         rw [List.length_take] at this;omega
        have HCH:Hid (∀ W',Chg wr W' g (k * 3) t[k] (M.sw1 fr to_ (q - (M.cntR fr (t.take k):Int)) t[k])→W'.ownsRow W3.heap.size 43 3 (.slice (some ⟨g,0,none⟩) t.length c4) t.length (flat (M.curS fr to_ q (k+1) t))∧wr.grownBy W' (some g)):=by
         intro W' hch
         have e:=M.curS_get fr to_ q k t hkt hkk
         have r:=own_chg ho hkk (by rw [e];exact hch)
         rw [M.curS_set fr to_ q k t hkt] at r
         exact r
        generalize t[k]=d at *
        generalize M.cntR fr (t.take k)=K at *
        obtain ⟨r,hr⟩:∃ r:Int,q - (K:Int)=r:=⟨_,rfl⟩
        have HRR:Hid (q - (K:Int)=r):=hr
        have hrb:-4000≤r∧r≤1048576:=by omega
        rw [hr] at HCH ⊢
        clear hr
        have j1:(k:Int) < t.length:=by omega
        obtain ⟨kk,pp,vv⟩:=d
        obtain ⟨ck,cp,cv'⟩:=hat
        have f0:=hfz (k * 3)
        cases hf:(kk==fr)
        ·have hf':¬ kk=fr:=by simpa using hf
         have r1:=HCH.out wr ⟨0,Or.inl ⟨rfl,by simp [M.sw1,hf']⟩⟩
         clear HCH ho
         go_wp2_with fail
         exact ⟨⟨k+1,by rw [HR.out,← HRR.out];simp [M.cnt1,hf'],by go_num,by omega,r1.1,hbi⟩,by simp [intOf];omega⟩
        ·obtain rfl:kk=fr:=by simpa using hf
         have hst:∀ W':World,(Value.int .i64 (IntKind.i64.wrap (r - 1)))=.int .i64 (q - (M.cntR kk (t.take (k+1)):Int)):=fun _=>by
          rw [HR.out,← HRR.out]
          simp only [M.cnt1,hf,if_true]
          have:=HRR.out
          congr 1
          rw [IntKind.wrap_i64]
          omega
         cases hr0:(r==0)
         ·have hr0':¬ r=0:=by simpa using hr0
          have r1:=HCH.out wr ⟨0,Or.inl ⟨rfl,by simp [M.sw1,hr0']⟩⟩
          clear HCH ho
          go_wp2_with fail
          exact ⟨⟨k+1,by first | exact hst wr | (rw [HR.out,← HRR.out];simp only [M.cnt1,hf,if_true];go_num),by go_num,by omega,r1.1,hbi⟩,by simp [intOf];omega⟩
         ·obtain rfl:r=0:=by simpa using hr0
          have r1:=HCH.out (wr.setCell ⟨g,k * 3,none⟩ (.int .i64 to_)) ⟨0,Or.inr (Or.inl ⟨by simp [M.sw1];rfl,by simp [M.sw1],by simp [M.sw1]⟩)⟩
          have r2:Below W3.heap.size W3 (wr.setCell ⟨g,k * 3,none⟩ (.int .i64 to_)):=hbi.setCell hgg _
          clear HCH ho
          go_wp2_with fail
          exact ⟨⟨k+1,by first | exact hst wr | (rw [HR.out,← HRR.out];simp only [M.cnt1,hf,if_true];go_num),by go_num,by omega,r1.1,r2⟩,by simp [intOf];omega⟩
       ·rw [M.curS_all _ _ _ k t (by omega)] at ho
        have htk:t.take k=t:=List.take_of_length_le (by omega)
        rw [htk]
        have j1:¬ (k:Int) < t.length:=by omega
        have hRi:=hR.below hbi
        have hPi:=hP.bl' hbi
        have hYi:=hY.bl' hbi
        have hlap:∀ i (hi:i < vs.length) k,vs[i].ownBlock=some k→(Value.slice a4 t.length c4).ownBlock≠some k:=fun i hi j hj e=>by
         have h1:=(hR.b.inner i (by have:=hR.b.len;omega) hi).lt j hj
         have h2:=own_ge ho j e
         omega
        have hol:wr.ownsRow W3.heap.size 43 3 (.slice a4 t.length c4) (M.swR fr to_ q t).length (flat (M.swR fr to_ q t)):=by rw [M.swR_len];exact ho
        have hown':=ownsRow_mono hol (show w.heap.size+3≤_ from by omega)
        have p0:=hPi.c
        have pf:=hPi.fz
        have lPi:=hPi.lt
        have hout:=hRi.b.outer
        have hRE:Hid (Rdg wr (w.heap.size+3) (.slice av mm.length cv) mm vs):=hRi
        have hPE:Hid (Slot1 wr (W2.heap.size) (.slice av mm.length cv)):=hPi
        have hYE:Hid (Slot1 wr (w.heap.size+1) (.slice none 0 0)):=hYi
        have hbW:Below W2.heap.size W2 wr:=hbel.trans (hbi.mono hbel.size)
        generalize M.swR fr to_ q t=tt at *
        have HTT:Hid (q - (M.cntR fr t:Int)=m - ((T+M.cntR fr t:Nat):Int)):=by show _=_;have:=HQ.out;omega
        generalize M.cntR fr t=KT at *
        clear hol ho hR hP hY hPi hYi hRi
        go_wp2_with (at_builtin;refine wpList_append_lies _ rfl (.tmp 91) (.tmp 93) 23 rfl (w.heap.size+3) 41 i0 _ 1 24 Tryz.underlying23 hi hz0 hz1 hz2 rfl (by decide) _ _ vs rfl (hout.alloc _) ⟨wr.heap.size,0,none⟩ 1 1 [.slice a4 t.length c4] rfl rfl (World.news_of_block (cs:=#[.slice a4 t.length c4]) (t:=41) (fr:=(0,0)) (heap_alloc_new wr _)) (by simp [Value.oneCell']) (by omega) (by unfold maxLen;omega) (by omega) (by simp;omega) (wr.heap.size+1) (by simp) ?_)
        intro g2 cap2 w3 hown3 hg3 hat hlt3
        have hge:=own_ge hout
        have hs2:=HSZ2.out
        have bA:=below1 wr (.cells #[.slice a4 t.length c4] 41)
        have hP3:=(hPE.out.bl' bA).apart hg3 (fun e=>by have:=hge _ e;omega)
        have hY3:=(hYE.out.bl' bA).apart hg3 (fun e=>by have:=hge _ e;omega)
        have hR3:=(hRE.out.below bA).snocT (ownsRow_below hown' bA) hlap hown3 hg3
        have hb3:Below W2.heap.size W2 w3:=below_grown (hbW.trans (bA.mono hbW.size)) hg3 (fun k hk=>by have:=hge k hk;omega) (by have:=hbW.size;simp;omega)
        rw [← HW.out] at hR3
        clear hown3 hg3 hat hout hown' p0 pf hs2
        have p0:=hP3.c
        have pf:=hP3.fz
        go_wp2_with fail
        have hP4:=hP3.set (.slice (some ⟨g2,0,none⟩) (mm.length+1) cap2)
        exact ⟨⟨n+1,_,_,by rw [HC.out];exact congrArg _ HTT.out,by go_num,by omega,hR3.far (by have:=HSZ2.out;omega) _,hP4,hY3.far (by have:=HSZ2.out;omega) _,hb3.setCell (Nat.le_refl _) _⟩,by simp [intOf];omega⟩
     ·have htk:ll.take n=ll:=List.take_of_length_le (by omega)
      rw [htk] at hR ⊢
      have hkn':¬ (n:Int) < ll.length:=by omega
      obtain ⟨av,gv,cv,rfl,hss⟩:=hR.b.ss
      have hql:(M.swF fr to_ m ll).length≤1048576:=by rw [M.swF_len];omega
      have hqs:∀ t∈M.swF fr to_ m ll,t.length≤1048576:=fun t ht=>by
       obtain ⟨i,hi,rfl⟩:=List.getElem_of_mem ht
       have h1:=M.swF_rows fr to_ ll m i hi
       have h2:=hls _ (List.getElem_mem (l:=ll) (n:=i) (by rw [M.swF_len] at hi;exact hi))
       omega
      have HQQ:Hid (M.swF fr to_ m ll=M.swF fr to_ m ll):=rfl
      generalize hqq:M.swF fr to_ m ll=qq at *
      have HSW:Hid (qq=M.swF fr to_ m ll):=hqq.symm
      clear hqq HQQ hsz2
      have p0:=hP.c
      have pf:=hP.fz
      have q0:=hY.c
      have qf:=hY.fz
      have lP:=hP.lt
      have lQ:=hY.lt
      have hne:¬ (w.heap.size+1=W2.heap.size):=by omega
      have hne2:¬ (W2.heap.size=w.heap.size+1):=by omega
      have hbw:=bw1.trans (hbel.mono bw1.size)
      have CPr:=CP av gv cv qq _ hql hqs (hss.below (Below.refl _ _).drew (Nat.le_refl _))
      obtain ⟨pr,hpr⟩:∃ pr,M.prog qq=pr:=⟨_,rfl⟩
      have HPR:Hid (M.prog qq=pr):=hpr
      rw [hpr] at CPr
      clear hpr CP
      obtain ⟨W3,hW3⟩:∃ W3,W3=wr:=⟨_,rfl⟩
      subst hW3
      go_wp2_with fail
      go_region_held3 (fun z=>z.cell? ⟨W2.heap.size,0,none⟩=some (.slice av qq.length cv)) (go_keep) (first
       | (go_at_call 27;refine CPr.mono ?_;rintro e W5 ⟨rfl,b5⟩;have b35:=(Below.refl W3.heap.size W3).drew.trans (b5.mono (Below.refl W3.heap.size W3).drew.size);have hP5:=hP.bl' b35;have hY5:=hY.bl' b35;have p5:=hP5.c;have q5:=hY5.c;have qf5:=hY5.fz))
      go_wp2_with fail
      have q1:=(hY5.set (.slice av qq.length cv)).c
      have hRd:=(hR.below b35).far (b:=w.heap.size+1) (i:=0) (by omega) (.slice av qq.length cv)
      obtain ⟨a9,g9,c9,e9,hss9⟩:=hRd.b.ss
      have e9':av=a9:=by simpa using congrArg (fun v=>match v with | Value.slice q _ _=>q | _=>none) e9
      subst e9'
      exact bodyPost_ret (v:=.tuple #[.agg #[.slice av qq.length cv],.bool pr]) (by simp [results,Tryz.results32,go_sem,q1]) rfl ⟨_,rfl,⟨_,_,_,_,rfl,fun he=>⟨qq,g9,m,rfl,hss9,HSW.out,by rw [HPR.out];exact he⟩⟩,(hbw.trans (b35.mono hbw.size)).setCell (by show w.heap.size≤w.heap.size+1;omega) _⟩
end Go.Proofs.YtjjkicffhpcngaaGreat
