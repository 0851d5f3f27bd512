/- append of a row of the call's own, or of nil, onto a row of the call's own, as one law for the walk. No condition. And what goes with it: ApRow, ApDo, EmbMath, ApSn. -/
import Derived.Below
import Derived.BigQuiet
import Derived.Deep.AppendLies
import Derived.Deep.CutRange
import Derived.Deep.MidRow
import Derived.Deep.Quiet
import Derived.Deep.QuietTactic
import Derived.Deep.RegionHeld3
import Derived.Deep.RegionLaw
import Derived.Deep.RegionWith
import Derived.Deep.Slices
import Derived.Deep.WholeRow
import Derived.Handy
import Derived.Laws.AppendOwn
import Derived.Laws.AppendOwnNone
import Derived.Laws.EntriesVeiled
import Derived.Laws.IdiomCopy
import Derived.Laws.OwnMore
import Derived.LoopIn
import Derived.LoopN
import Derived.LoopNIn
import Derived.Maps.OwnIn
import Derived.OwnWalkIn
import Derived.RangeFuncBound
import Derived.RangeFuncLeaves
import Derived.RangeFuncNested
import Derived.Shelf.Abstract
import Derived.Shelf.SlSortCmp.NoneTotal
import Derived.Sort.Grow
import Derived.TacticsInMore
import Derived.WalkKit
import Derived.WalkLawsBesides
import Derived.WalkSpells
import Derived.Deep.OwnRows
import Derived.Test.YtjjkicffhpcngaaGreatRows
import Derived.Test.YtjjkicffhpcngaaGreatBVat
namespace Go.Proofs.YtjjkicffhpcngaaGreat
open Go.RowKit
theorem grownBy_refl (w:World) (row:Option Nat):w.grownBy w row:=⟨rfl,rfl,rfl,Nat.le_refl _,fun _ _ _=>rfl⟩
theorem wpList_append_rows {P:Program} {w:World} {ops:Array Oper} {rest:List Oper} {o:Oper} {a:Act} {Q:Exit→Act→World→Prop} (hgd:o.guard=none) (s x:Operand) (t:TypeId)
  (ho:o.op=.call { callee:=.builtin .append,args:=#[s,x],argTypes:=#[t,t] })
  (base:Nat) (e:TypeId) (i:TypeInfo) (z:Value) (size bytes:Nat) (ht:P.underlying t=some (.slice e)) (hi:P.info? e=some i) (hz:i.zero=some z)
  (hsize:i.size=size) (hby:i.bytes=bytes) (hzs:z.cells.size=size) (hsz:0 < size)
  (v:Value) (n:Nat) (xs:List Value) (hs:a.eval s=v) (hown:w.ownsRow base e size v n xs)
  (base':Nat) (u:Value) (m:Nat) (ys:List Value) (hx:a.eval x=u) (hsrc:w.ownsRow base' e size u m ys) (h1:∀ y∈ys,y.oneCell'=true)
  (h63:n+m≤maxLen) (hbytes:(n+m) * bytes≤140737488355328) (hbase:base≤w.heap.size)
  (h:∀ v' w',w'.ownsRow base e size v' (n+m) (xs++ys)→w.grownBy w' v.ownBlock→wpList P ops Q rest (a.put o.dst v') w'):wpList P ops Q (o::rest) a w:=by
 have hl:=hsrc.1
 rcases hsrc.2 with ⟨hu,hm⟩ | ⟨g,cap,cur,hu,hg,hh,r⟩
 ·subst hm
  have hys:ys=[]:=List.length_eq_zero_iff.1 (by rw [hl];simp)
  subst hys
  refine wpList_append_own_none hgd s x t ho base e i size ht hi v n xs hs hown (hx.trans hu) ?_
  exact h v w (by simpa using hown) (grownBy_refl _ _)
 ·refine wpList_append_own w hgd s x t ho base e i z size bytes ht hi hz hsize hby hzs hsz v n xs hs hown ⟨g,0,none⟩ m cap ys (hx.trans hu) hl (fun j y hj=>hsrc.cells (g:=g) (by rw [hu];rfl) j y hj) h1 h63 hbytes hbase ?_
  intro v' w' h2 h3 _
  exact h v' w' h2 h3
end Go.Proofs.YtjjkicffhpcngaaGreat
namespace Go.Proofs.YtjjkicffhpcngaaGreat
open Go.RowKit
theorem DoS.of_block {X:World} {blk:Nat} {t:TypeId} {x y z:Int} (h:X.heap[blk]?=some (.cells #[.int .i64 x,.int .i64 y,.int .i64 z] t (0,0))):DoS X (some ⟨blk,0,none⟩) blk 0 [⟨x,y,z⟩]:=by
 refine ⟨fun _=>rfl,fun i hi=>?_⟩
 obtain rfl:i=0:=by simp at hi;omega
 exact ⟨by simp [World.cell?,h],by simp [World.cell?,h],by simp [World.cell?,h]⟩
end Go.Proofs.YtjjkicffhpcngaaGreat
namespace Go.Proofs.YtjjkicffhpcngaaGreat
namespace M
theorem lt_of_get {α:Type} {l:List α} {n:Nat} {x:α} (h:l[n]?=some x):n < l.length:=(List.getElem?_eq_some_iff.1 h).1
def Fro (ds:List De) (l:List Int):Prop:=∀ (a:Nat) (x:De),ds[a]?=some x→if x.reads then l.getD a 0=-1∨∃ (b:Nat) (y:De),l.getD a 0=(b:Int)∧ds[b]?=some y∧y.to x.d.p=true else l.getD a 0=-2
structure WO (ds:List De) (l:List Int) (rows:List (List Int)):Prop where
 len:l.length=ds.length
 fro:Fro ds l
 three:rows.length=3
 row:∀ p:Int,0≤p→p < 3→(rows.getD p.toNat []).Perm (wrs p 0 ds)
 fin:ends ds l=true
theorem isRow_iff {row evs:List Int} (hn:evs.Nodup):isRow row evs=true↔row.Perm evs:=by
 simp only [isRow,Bool.and_eq_true,decide_eq_true_eq,List.all_eq_true]
 constructor
 ·rintro ⟨h1,h2⟩
  exact (perm_of evs row hn (fun v hv=>by simpa using h2 v hv) (by omega)).symm
 ·intro h
  exact ⟨h.length_eq,fun v hv=>by simpa using h.mem_iff.2 hv⟩
theorem wo_iff {ds:List De} {l:List Int} {rows:List (List Int)}:wayOk ds l rows=true↔WO ds l rows:=by
 simp only [wayOk,Bool.and_eq_true,fromOk,orderOk,decide_eq_true_eq]
 have fr:∀ (h:l.length=ds.length),fromAt ds ds l=true↔Fro ds l:=fun h=>by
  rw [fromAt_iff ds l h]
  constructor
  ·intro hk a x hx
   obtain ⟨ha,rfl⟩:=List.getElem?_eq_some_iff.1 hx
   have:=hk a ha
   rw [mayTell_iff] at this
   split at this
   ·rename_i hr
    rw [if_pos hr]
    refine this.imp id fun hm=>?_
    obtain ⟨i,hi,e,ht⟩:=mem_wrs.1 hm
    exact ⟨i,ds[i],by rw [e];simp,List.getElem?_eq_getElem hi,ht⟩
   ·rename_i hr
    rw [if_neg hr]
    exact this
  ·intro hk a ha
   have:=hk a _ (List.getElem?_eq_getElem ha)
   rw [mayTell_iff]
   split at this
   ·rename_i hr
    rw [if_pos hr]
    refine this.imp id fun ⟨b,y,e,hy,ht⟩=>?_
    obtain ⟨hb,rfl⟩:=List.getElem?_eq_some_iff.1 hy
    rw [e]
    exact mem_wrs.2 ⟨b,hb,by simp,ht⟩
   ·rename_i hr
    rw [if_neg hr]
    exact this
 have od:∀ (h:rows.length=3),orderAt ds 0 rows=true↔∀ p:Int,0≤p→p < 3→(rows.getD p.toNat []).Perm (wrs p 0 ds):=fun h=>by
  match rows,h with
  | [r0,r1,r2],_ =>
   simp only [orderAt,Bool.and_eq_true,and_true]
   rw [isRow_iff (nodup_wrs _ _ _),isRow_iff (nodup_wrs _ _ _),isRow_iff (nodup_wrs _ _ _)]
   constructor
   ·rintro ⟨h0,h1,h2⟩ p hp hp3
    rcases (show p=0∨p=1∨p=2 by omega) with rfl | rfl | rfl
    ·exact h0
    ·exact h1
    ·exact h2
   ·intro hk
    exact ⟨hk 0 (by omega) (by omega),hk 1 (by omega) (by omega),hk 2 (by omega) (by omega)⟩
 constructor
 ·rintro ⟨⟨h1,h2⟩,⟨h3,h4⟩,h5⟩
  exact ⟨h1,(fr h1).1 h2,h3,(od h3).1 h4,h5⟩
 ·intro h
  exact ⟨⟨h.len,(fr h.len).2 h.fro⟩,⟨h.three,(od h.three).2 h.row⟩,h.fin⟩
theorem fro_in {ds:List De} {l:List Int} (hf:Fro ds l) (hl:∀ x∈ds,x.lr < ds.length):In ds l:=fun n hn=>by
 have hx:=List.getElem?_eq_getElem hn
 unfold valFrom
 rw [hx]
 dsimp only
 have:=hf n _ hx
 split at this
 ·rename_i hr
  rw [if_pos hr]
  rcases this with e | ⟨b,y,e,hy,_⟩
  ·omega
  ·have:=lt_of_get hy;omega
 ·rename_i hr
  rw [if_neg hr]
  split
  ·exact hl _ (List.getElem_mem hn)
  ·omega
theorem WO.in_ {ds:List De} {l:List Int} {rows:List (List Int)} (h:WO ds l rows) (hl:∀ x∈ds,x.lr < ds.length):In ds l:=fro_in h.fro hl
theorem orig_any {ds:List De} {l:List Int} (hin:In ds l) {n m:Nat} (hn:n < ds.length) (h:(orig ds l m n).isSome=true):(orig ds l ds.length n).isSome=true:=by
 rw [orig_iff] at h ⊢
 obtain ⟨k,_,hk⟩:=h
 exact backQ_short hin hn k hk
section
variable {ds es : List De} {f : Nat → Nat} {g v : Int → Int}
end
end M
end Go.Proofs.YtjjkicffhpcngaaGreat
namespace Go.Proofs.YtjjkicffhpcngaaGreat
open Go.RowKit
theorem step_append_sn {P:Program} {ops:Array Oper} {o:Oper} {a:Act} {w:World} {K:Act→World→Prop} {Q:Exit→Act→World→Prop} {E:Prop} (hgd:o.guard=none) (s x:Operand) (t:TypeId)
  (ho:o.op=.call { callee:=.builtin .append,args:=#[s,x],argTypes:=#[t,t] }) (d:Option Tmp) (hdst:o.dst=d) (base:Nat) (e:TypeId) (i:TypeInfo) (z:Value) (bytes:Nat) (ht:P.underlying t=some (.slice e)) (hi:P.info? e=some i) (hz0:i.zero=some z) (hz1:i.size=2) (hz2:i.bytes=bytes) (hzs:z.cells.size=2)
  (v:Value) (n:Nat) (xs:List Value) (hs:a.eval s=v) (hown:w.ownsRow base e 2 v n xs) (hbase:base≤w.heap.size) (L:Nat) (y1 y2:Value) (hx:a.eval x=.slice (some ⟨L,0,none⟩) 1 1) (hc1:w.cell? ⟨L,0,none⟩=some y1) (hc2:w.cell? ⟨L,1,none⟩=some y2) (o1:y1.oneCell'=true) (o2:y2.oneCell'=true) (h63:n+1≤maxLen) (hbytes:(n+1) * bytes≤140737488355328)
  (h:∀ v' w',w'.ownsRow base e 2 v' (n+1) (xs++[y1,y2])→w.grownBy w' v.ownBlock→(v'.ownBlock=v.ownBlock∨v'.ownBlock=some w.heap.size)→K (a.put d v') w') :
  if Region.wanted o (yielded ops a.tmps)=true then Oper.wp P o a w K Q else E:=by
 have hw:Region.wanted o (yielded ops a.tmps)=true:=by simp [Region.wanted,hgd]
 rw [if_pos hw]
 subst hdst
 have hn:∀ j u,[y1,y2][j]?=some u→w.cell? ((⟨L,0,none⟩:Addr).add j)=some u:=fun j u hj=>by
  rw [Go.WideShapes.add_plain]
  match j,hj with
  | 0,hj=>obtain rfl:=Option.some.inj hj;exact hc1
  | 1,hj=>obtain rfl:=Option.some.inj hj;exact hc2
  | j+2,hj=>simp at hj
 obtain ⟨v',w',hrun,h2,h3,_,h5⟩:=run_append_own_at (P:=P) w base t o.type e i z 2 bytes ht hi hz0 hz1 hz2 hzs (by decide) v n xs hown ⟨L,0,none⟩ 1 1 [y1,y2] rfl hn (fun y hy=>by
  rcases List.mem_cons.1 hy with rfl | hy
  ·exact o1
  ·rw [List.mem_singleton.1 hy];exact o2) h63 hbytes hbase
 have hk:=h v' w' h2 h3 h5
 unfold Oper.wp
 simp [execOp,ho,resolve,invoke,builtin,hs,hx,hrun,Result.andThen]
 exact hk
end Go.Proofs.YtjjkicffhpcngaaGreat
