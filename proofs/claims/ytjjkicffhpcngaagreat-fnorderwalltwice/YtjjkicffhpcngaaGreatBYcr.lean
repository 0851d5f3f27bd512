/- laws.lpWalled: a program with a wall put at one place. Of at most 1048576 threads and steps. -/
import Derived.BigQuiet
import Derived.Deep.AppendLies
import Derived.Deep.QuietTactic
import Derived.Deep.RegionHeld3
import Derived.Deep.RegionLaw
import Derived.Deep.RegionWith
import Derived.Laws.AppendOwn
import Derived.Laws.AppendOwnNone
import Derived.Laws.OwnMore
import Derived.Shelf.Abstract
import Derived.Sort.Grow
import Derived.WalkKit
import Derived.WalkLawsBesides
import Derived.WalkSpells
import Derived.Test.YtjjkicffhpcngaaGreatRows
import Derived.Test.YtjjkicffhpcngaaGreatBYbz
namespace Go.Proofs.YtjjkicffhpcngaaGreat
open Go.RowKit
structure WaldAns (w w':World) (ll:List (List M.D)) (n:Nat) (ok:Bool) (qa:Option Addr) (qn qc:Nat):Prop where
 yes:ok=true→∃ (qq:List (List M.D)) (gs:List Int) (g':Nat),qn=qq.length∧DoSS w' qa g' 0 qq∧M.wallPut ll gs=some qq
 at1:ok=true→∃ (qq:List (List M.D)) (g':Nat),qn=qq.length∧DoSS w' qa g' 0 qq∧M.wallPut ll [(n:Int).tmod (M.gaps ll)]=some qq∧1≤M.gaps ll
 bel:Below w.heap.size w w'
set_option maxHeartbeats 2000000 in
set_option maxRecDepth 100000 in
theorem lpWalled_any (a:Option Addr) (b o c:Nat) (ll:List (List M.D)) (n:Nat) (w:World) (hl:ll.length≤1048576) (hls:∀ t∈ll,t.length≤1048576) (h:DoSS w a b o ll) :
  Calls Tryz.prog 20 #[.agg #[.slice a ll.length c],.int .i64 n] w fun e w'=>∃ qa qn qc ok,e=.returned (.tuple #[.agg #[.slice qa qn qc],.bool ok])∧WaldAns w w' ll n ok qa qn qc:=by
 have b1:=below2 w (.cells #[.slice a ll.length c] 25) (.cells #[.slice none 0 0] 25)
 have hP:Slot1 ((w.alloc (.cells #[.slice a ll.length c] 25)).alloc (.cells #[.slice none 0 0] 25)) w.heap.size (.slice a ll.length c):=⟨by simp,by simp⟩
 have hR:Slot1 ((w.alloc (.cells #[.slice a ll.length c] 25)).alloc (.cells #[.slice none 0 0] 25)) (w.heap.size+1) (.slice none 0 0):=by
  have:=Slot1.new (w.alloc (.cells #[.slice a ll.length c] 25)) (.slice none 0 0) 25
  rwa [World.size_alloc] at this
 have hp1:=h.below b1 (Nat.le_refl _)
 have C1:=sgaps_any a b o c ll _ hl hls hp1
 have CW:=fun (G:Int) (A:Option Addr) (gb:Nat) (W:World) (h1:DoSS W a b o ll) (h2:IntS W A gb 0 [G])=>swallPut_any a b o c ll hl hls A gb 0 1 [G] (by simp) W h1 h2
 go_enter Tryz.func20,Tryz.ntmps20
 go_wp2_with fail
 generalize (w.alloc (.cells #[.slice a ll.length c] 25)).alloc (.cells #[.slice none 0 0] 25)=W0 at *
 obtain ⟨R,hRe⟩:∃ R,w.heap.size+1=R:=⟨_,rfl⟩
 rw [hRe] at hR ⊢
 obtain ⟨G,hG⟩:∃ G,M.gaps ll=G:=⟨_,rfl⟩
 rw [hG] at C1
 refine C1.mono ?_
 rintro e W1 ⟨rfl,b2⟩
 have hP1:=hP.bel b2
 have hR1:=hR.bel b2
 have hp2:=hp1.below b2 (Nat.le_refl _)
 have p0:=hP1.c
 have r0:=hR1.c
 have rf:=hR1.fz
 have bw:=b1.trans (b2.mono b1.size)
 have hRl:=hR1.lt
 have hPl:=hP1.lt
 have HG:Hid (M.gaps ll=G):=hG
 clear C1 hP hR hp1 hG
 by_cases h1:G < 1
 ·go_wp2_with fail
  have s4:=(hR1.set (.slice a ll.length c)).c
  refine bodyPost_ret (v:=.tuple #[.agg #[.slice a ll.length c],.bool false]) (by simp [results,Tryz.results20,go_sem,s4]) rfl ⟨_,_,_,_,rfl,⟨fun he=>(by cases he),fun he=>(by cases he),bw.setCell (by show w.heap.size≤R;omega) _⟩⟩
 ·obtain ⟨k,hk⟩:∃ k,(n:Int).tmod G=k:=⟨_,rfl⟩
  have HK:Hid ((n:Int).tmod G=k):=hk
  have e2:¬ (G=0):=by omega
  have bI:=below1 W1 (.cells #[.int .i64 k] 3)
  have hI:IntS (W1.alloc (.cells #[.int .i64 k] 3)) (some ⟨W1.heap.size,0,none⟩) W1.heap.size 0 [k]:=⟨fun _=>rfl,fun i hi=>by
   obtain rfl:i=0:=by simp at hi;omega
   simp⟩
  have bD:=(Below.refl (W1.alloc (.cells #[.int .i64 k] 3)).heap.size (W1.alloc (.cells #[.int .i64 k] 3))).drew
  have bI:=bI.trans (bD.mono bI.size)
  have CQ:=CW k (some ⟨W1.heap.size,0,none⟩) W1.heap.size _ (hp2.below bI (Nat.le_refl _)) (hI.below bD (Nat.le_refl _))
  obtain ⟨ow,how⟩:∃ ow,M.wallPut ll [k]=ow:=⟨_,rfl⟩
  have HOW:Hid (M.wallPut ll [k]=ow):=how
  rw [how] at CQ
  clear how CW
  go_wp2_with fail
  have hne:¬ w.heap.size=R:=by omega
  have hne2:¬ R=w.heap.size:=by omega
  go_region_held3 (fun z=>z.cell? ⟨w.heap.size,0,none⟩=some (.slice a ll.length c)) (go_keep) (first
   | (go_at_call 40;refine CQ.mono ?_;rintro e W3 ⟨v3,rfl,vs3,hR3,b3⟩;obtain ⟨qa,qg,qc,rfl,hss⟩:=hR3.b.ss;have b13:=bI.trans (b3.mono bI.size);have hRz:=hR1.bel b13;have r1:=hRz.c;have rf1:=hRz.fz;have p1:=(hP1.bel b13).c))
  have bw3:=bw.trans (b13.mono bw.size)
  have hRd:=hR3.far (b:=R) (i:=0) (by have:=bI.size;simp;omega) (.slice qa (ow.getD []).length qc)
  clear CQ r0 rf p0
  go_wp2_with fail
  have s4:=(hRz.set (.slice qa (ow.getD []).length qc)).c
  refine bodyPost_ret (v:=.tuple #[.agg #[.slice qa (ow.getD []).length qc],.bool ow.isSome]) (by simp [results,Tryz.results20,go_sem,s4]) rfl ⟨_,_,_,_,rfl,⟨fun he=>?_,fun he=>?_,bw3.setCell (by show w.heap.size≤R;omega) _⟩⟩
  ·obtain ⟨qq,rfl⟩:=Option.isSome_iff_exists.1 he
   obtain ⟨a9,g9,c9,e9,hss9⟩:=hRd.b.ss
   have e9':qa=a9:=by simpa using congrArg (fun v=>match v with | Value.slice q _ _=>q | _=>none) e9
   subst e9'
   exact ⟨qq,[k],g9,rfl,hss9,HOW.out⟩
  ·obtain ⟨qq,rfl⟩:=Option.isSome_iff_exists.1 he
   obtain ⟨a9,g9,c9,e9,hss9⟩:=hRd.b.ss
   have e9':qa=a9:=by simpa using congrArg (fun v=>match v with | Value.slice q _ _=>q | _=>none) e9
   subst e9'
   exact ⟨qq,g9,rfl,hss9,by rw [HG.out,HK.out];exact HOW.out,by rw [HG.out];omega⟩
end Go.Proofs.YtjjkicffhpcngaaGreat
