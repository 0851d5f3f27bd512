/- What an order allows, plainly: who is among it. No condition. And what goes with it: OaM, OaI, LpL, EmbMath, OmMath, WkMath. -/
import Derived.Below
import Derived.BigQuiet
import Derived.Deep.AppendLies
import Derived.Deep.CutRange
import Derived.Deep.MidRow
import Derived.Deep.Quiet
import Derived.Deep.QuietTactic
import Derived.Deep.RegionHeld3
import Derived.Deep.RegionLaw
import Derived.Deep.RegionWith
import Derived.Deep.Slices
import Derived.Deep.WholeRow
import Derived.Handy
import Derived.Laws.AppendOwn
import Derived.Laws.AppendOwnNone
import Derived.Laws.EntriesVeiled
import Derived.Laws.IdiomCopy
import Derived.Laws.OwnMore
import Derived.LoopIn
import Derived.LoopN
import Derived.LoopNIn
import Derived.Maps.OwnIn
import Derived.OwnWalkIn
import Derived.RangeFuncBound
import Derived.RangeFuncLeaves
import Derived.RangeFuncNested
import Derived.Shelf.Abstract
import Derived.Shelf.SlSortCmp.NoneTotal
import Derived.Sort.Grow
import Derived.TacticsInMore
import Derived.WalkKit
import Derived.WalkLawsBesides
import Derived.WalkSpells
import Derived.Deep.OwnRows
import Derived.Test.YtjjkicffhpcngaaGreatRows
import Derived.Test.YtjjkicffhpcngaaGreatBYax
namespace Go.Proofs.YtjjkicffhpcngaaGreat
namespace M
theorem holds_parts_of {ll:List (List D)} {l:List Int} {rows:List (List Int)} {kind:Int} (h:orderHolds ll l rows kind=true):(decide (1≤kind)&&decide (kind≤3))=true∧execOk ll l rows=true:=by
 unfold orderHolds at h
 obtain ⟨h1,h2⟩:=Bool.and_eq_true_iff.1 h
 exact ⟨h1,(Bool.and_eq_true_iff.1 h2).1⟩
theorem exec_prog {ll:List (List D)} {l:List Int} {rows:List (List Int)} (h:execOk ll l rows=true):prog ll=true:=by
 simp only [execOk,Bool.and_eq_true] at h;exact h.1
theorem mem_ways {ll:List (List D)} {x:Wy} (h:execOk ll x.1 x.2=true):x∈ways (deeds ll):=by
 rw [ways_eq (cop_deeds ll)]
 simp only [execOk,Bool.and_eq_true] at h
 exact mem_all.2 h.2
theorem mem_orderAll {ll:List (List D)} {kind:Int} {k:Key}:k∈orderAll ll kind↔∃ x:Wy,orderHolds ll x.1 x.2 kind=true∧seenOf ll x=k:=by
 unfold orderAll
 cases hg:((decide (1≤kind)&&decide (kind≤3))&&prog ll)
 ·simp only [Bool.false_eq_true,if_false,List.not_mem_nil,false_iff]
  rintro ⟨x,hx,_⟩
  have h:=holds_parts_of hx
  rw [h.1,exec_prog h.2] at hg
  cases hg
 ·rw [if_pos rfl,mem_sortK,orderList,List.mem_map]
  constructor
  ·rintro ⟨x,hx,e⟩
   exact ⟨x,(List.mem_filter.1 hx).2,e⟩
  ·rintro ⟨x,hx,e⟩
   exact ⟨x,List.mem_filter.2 ⟨mem_ways (holds_parts_of hx).2,hx⟩,e⟩
theorem putIn_len (l:List Ky) (k:Ky):(putIn l k).length≤l.length+1:=by
 induction l with
 | nil=>simp [putIn]
 | cons x l ih =>
  rw [putIn]
  split
  ·simp
  ·split<;>simp<;>omega
theorem fold_len:∀ (l a:List Ky),(l.foldl putIn a).length≤a.length+l.length
 | [],a=>by simp
 | x::l,a=>by
  have h1:=fold_len l (putIn a x)
  have h2:=putIn_len a x
  simp only [List.foldl_cons,List.length_cons]
  omega
theorem orderAll_len (ll:List (List D)) (kind:Int):(orderAll ll kind).length≤117649:=by
 unfold orderAll
 cases hp:prog ll
 ·rw [Bool.and_false];simp
 ·split
  ·have h1:=fold_len (orderList ll kind) []
   have h2:(orderList ll kind).length≤(ways (deeds ll)).length:=by
    rw [orderList,List.length_map];exact List.length_filter_le _ _
   have h3:=ways_le2 hp
   have h4:(sortK (orderList ll kind)).length=((orderList ll kind).foldl putIn []).length:=rfl
   simp only [List.length_nil] at h1
   omega
  ·simp
theorem orderAll_le (ll:List (List D)) (kind:Int):KLe (orderAll ll kind) 1048576:=fun k hk=>by
 obtain ⟨x,hx,rfl⟩:=mem_orderAll.1 hk
 have h:=(holds_parts_of hx).2
 have hW:=wok_of h
 have hb:=prog_le hW.prog
 have hdl:=deeds_len hb.1 hb.2
 have h1:=seenR_len (deeds ll) x.1
 have h3:=hW.three.out
 exact ⟨by simp only [seenOf];omega,by simp only [seenOf,seenL,List.length_map];omega⟩
end M
end Go.Proofs.YtjjkicffhpcngaaGreat
namespace Go.Proofs.YtjjkicffhpcngaaGreat
open Go.RowKit
structure Tld (w w':World) (v:Value) (ks:List Key):Prop where
 ex:∃ a g c,v=.slice a ks.length c∧KS w' a g 0 ks
 bel:Below w.heap.size w w'
theorem iorderAllK (a:Option Addr) (b o c:Nat) (ll:List (List M.D)) (kind:Int) (w:World) (hl:ll.length≤1048576) (hls:∀ t∈ll,t.length≤1048576) (h:DoSS w a b o ll) :
  Calls Tryz.prog 17 #[.agg #[.slice a ll.length c],.int .i64 kind] w fun e w'=>∃ v,e=.returned v∧Tld w w' v (M.orderAll ll kind):=by
 refine (iorderAll_any a b o c ll kind w hl hls h).mono fun e w' ⟨v,he,hA⟩=>⟨v,he,?_,hA.bel⟩
 obtain ⟨a',g,c',uu,hv,hk,hn,_,_⟩:=hA.ex
 have:=hn.ks
 rw [hk] at this
 exact ⟨a',g,c',by rw [hv,← hk,kys_len],this⟩
end Go.Proofs.YtjjkicffhpcngaaGreat
namespace Go.Proofs.YtjjkicffhpcngaaGreat
open Go.RowKit
theorem M.sameS_self (a b:List Int):M.sameS a b a b=true:=by rw [M.sameS_eq,M.cmpS_self];rfl
set_option maxHeartbeats 1000000 in
set_option maxRecDepth 100000 in
theorem lpList_same (a:Option Addr) (b o c:Nat) (a2:Option Addr) (b2 o2 c2:Nat) (ks:List Key) (w:World) (hl:ks.length≤1048576) (hls:KLe ks 1048576) (h:KS w a b o ks) (h2:KS w a2 b2 o2 ks) :
  Calls Tryz.prog 18 #[.slice a ks.length c,.slice a2 ks.length c2] w fun e w'=>e=.returned (.bool true)∧Below w.heap.size w w':=by
 go_enter Tryz.func18,Tryz.ntmps18
 go_wp2_with fail
 go_loopw [5] (fun s5 wr=>∃ n:Nat,s5=.int .i64 n∧n≤ks.length∧Below w.heap.size w wr) (fun s5 _=>ks.length - (intOf s5).toNat)
 case atStart=>exact ⟨0,rfl,Nat.zero_le _,Below.refl _ _⟩
 case round =>
  obtain ⟨n,rfl,hn,hb⟩:=hrel
  by_cases hlt:n < ks.length
  ·obtain ⟨rfl⟩:=h.addr (by omega)
   obtain ⟨rfl⟩:=h2.addr (by omega)
   obtain ⟨s,h1,h2',c1,c2',hsa⟩:=(h.below hb (Nat.le_refl _)).row n hlt
   obtain ⟨t,t1,t2,d1,d2,hta⟩:=(h2.below hb (Nat.le_refl _)).row n hlt
   obtain ⟨e1,e2⟩:=hls _ (List.getElem_mem hlt)
   have hsl:s.Le 1048576:=⟨by rw [h1];exact e1,by rw [h2'];exact e2⟩
   have C:=fun p:BelowOf wr=>(lpSame_any s t p.x hsl (hsa.below p.h (Nat.le_refl _)) (hta.below p.h (Nat.le_refl _)))
   have hq:M.sameS s.l1 s.l2 t.l1 t.l2=true:=by rw [h1,h2',t1,t2,M.sameS_self]
   rw [hq] at C
   clear h1 h2' t1 t2 e1 e2 hq
   have K1:=BelowOf.cell c1
   have K2:=BelowOf.cell c2'
   have K3:=BelowOf.cell d1
   have K4:=BelowOf.cell d2
   have i1:(n:Int) < ks.length:=by omega
   go_wp2_with fail
   haveI:Inhabited (BelowOf wr):=⟨belOf wr⟩
   refine wp_region_quiet_bel (by kernel_rfl) (by kernel_rfl) ?_
   repeat (quiet_step (first | (go_at_call 47;exact Calls.bel_of ((C _).mono fun _ _ ⟨he,hg⟩=>⟨he,hg.bel⟩))))
   refine wpQuiet_nil ?_
   rintro wq ⟨⟨wx,hwq⟩,ew⟩
   change wq=wx at ew
   subst ew
   go_wp2_with fail
   exact ⟨⟨n+1,by go_num,by omega,hb.trans (hwq.mono hb.size)⟩,by simp [intOf];omega⟩
  ·go_wp2_with fail
   go_ret
   exact ⟨rfl,hb⟩
end Go.Proofs.YtjjkicffhpcngaaGreat
namespace Go.Proofs.YtjjkicffhpcngaaGreat
namespace M
def up (f:Nat→Nat) (z:Int):Int:=if z < 0 then z else (f z.toNat:Int)
theorem up_nat (f:Nat→Nat) (n:Nat):up f (n:Int)=(f n:Int):=by unfold up;rw [if_neg (by omega)];simp
theorem up_neg {f:Nat→Nat} {z:Int} (h:z < 0):up f z=z:=by unfold up;rw [if_pos h]
structure Like (f:Nat→Nat) (g v:Int→Int) (x y:De):Prop where
 rd:y.reads=x.reads
 wr:M.writes y.d.k=M.writes x.d.k
 k3:(y.d.k==3)=(x.d.k==3)
 pl:x.uses=true→y.d.p=g x.d.p
 vl:y.d.v=v x.d.v
 lr:x.d.k=3→y.lr=up f x.lr
theorem Like.us {f:Nat→Nat} {g v:Int→Int} {x y:De} (h:Like f g v x y):y.uses=x.uses:=by
 show (M.reads y.d.k||M.writes y.d.k)=(M.reads x.d.k||M.writes x.d.k)
 rw [h.wr,show M.reads y.d.k=M.reads x.d.k from h.rd]
structure Emb (ds es:List De) (f:Nat→Nat) (g v:Int→Int):Prop where
 at_:∀ (a:Nat) (x:De),ds[a]?=some x→∃ y,es[f a]?=some y∧Like f g v x y
 inj:∀ a b,a < ds.length→b < ds.length→f a=f b→a=b
 out:∀ (c:Nat) (y:De),es[c]?=some y→y.uses=true→∃ a,a < ds.length∧f a=c
 pr:∀ x∈ds,x.uses=true→0≤x.d.p∧x.d.p < 3
 gi:∀ p:Int,0≤p→p < 3→0≤g p∧g p < 3
 gj:∀ p q:Int,0≤p→p < 3→0≤q→q < 3→g p=g q→p=q
 vz:v 0=0
 lro:∀ x∈ds,x.lr < ds.length
structure Rel (ds:List De) (f:Nat→Nat) (g:Int→Int) (x y:Wy):Prop where
 rd:∀ (a:Nat) (u:De),ds[a]?=some u→u.reads=true→y.1.getD (f a) 0=up f (x.1.getD a 0)
 row:∀ p:Int,0≤p→p < 3→y.2.getD (g p).toNat []=(x.2.getD p.toNat []).map (up f)
theorem lt_of_get {α:Type} {l:List α} {n:Nat} {x:α} (h:l[n]?=some x):n < l.length:=(List.getElem?_eq_some_iff.1 h).1
theorem mem_of_get {α:Type} {l:List α} {n:Nat} {x:α} (h:l[n]?=some x):x∈l:=List.mem_of_getElem? h
def Fro (ds:List De) (l:List Int):Prop:=∀ (a:Nat) (x:De),ds[a]?=some x→if x.reads then l.getD a 0=-1∨∃ (b:Nat) (y:De),l.getD a 0=(b:Int)∧ds[b]?=some y∧y.to x.d.p=true else l.getD a 0=-2
structure WO (ds:List De) (l:List Int) (rows:List (List Int)):Prop where
 len:l.length=ds.length
 fro:Fro ds l
 three:rows.length=3
 row:∀ p:Int,0≤p→p < 3→(rows.getD p.toNat []).Perm (wrs p 0 ds)
 fin:ends ds l=true
theorem perm_mem {a b:List Int} (ha:a.Nodup) (hb:b.Nodup) (h:∀ v,v∈a↔v∈b):a.Perm b:=perm_of a b ha (fun v hv=>(h v).1 hv) (nodup_le hb fun v hv=>(h v).2 hv)
theorem isRow_iff {row evs:List Int} (hn:evs.Nodup):isRow row evs=true↔row.Perm evs:=by
 simp only [isRow,Bool.and_eq_true,decide_eq_true_eq,List.all_eq_true]
 constructor
 ·rintro ⟨h1,h2⟩
  exact (perm_of evs row hn (fun v hv=>by simpa using h2 v hv) (by omega)).symm
 ·intro h
  exact ⟨h.length_eq,fun v hv=>by simpa using h.mem_iff.2 hv⟩
theorem wo_iff {ds:List De} {l:List Int} {rows:List (List Int)}:wayOk ds l rows=true↔WO ds l rows:=by
 simp only [wayOk,Bool.and_eq_true,fromOk,orderOk,decide_eq_true_eq]
 have fr:∀ (h:l.length=ds.length),fromAt ds ds l=true↔Fro ds l:=fun h=>by
  rw [fromAt_iff ds l h]
  constructor
  ·intro hk a x hx
   obtain ⟨ha,rfl⟩:=List.getElem?_eq_some_iff.1 hx
   have:=hk a ha
   rw [mayTell_iff] at this
   split at this
   ·rename_i hr
    rw [if_pos hr]
    refine this.imp id fun hm=>?_
    obtain ⟨i,hi,e,ht⟩:=mem_wrs.1 hm
    exact ⟨i,ds[i],by rw [e];simp,List.getElem?_eq_getElem hi,ht⟩
   ·rename_i hr
    rw [if_neg hr]
    exact this
  ·intro hk a ha
   have:=hk a _ (List.getElem?_eq_getElem ha)
   rw [mayTell_iff]
   split at this
   ·rename_i hr
    rw [if_pos hr]
    refine this.imp id fun ⟨b,y,e,hy,ht⟩=>?_
    obtain ⟨hb,rfl⟩:=List.getElem?_eq_some_iff.1 hy
    rw [e]
    exact mem_wrs.2 ⟨b,hb,by simp,ht⟩
   ·rename_i hr
    rw [if_neg hr]
    exact this
 have od:∀ (h:rows.length=3),orderAt ds 0 rows=true↔∀ p:Int,0≤p→p < 3→(rows.getD p.toNat []).Perm (wrs p 0 ds):=fun h=>by
  match rows,h with
  | [r0,r1,r2],_ =>
   simp only [orderAt,Bool.and_eq_true,and_true]
   rw [isRow_iff (nodup_wrs _ _ _),isRow_iff (nodup_wrs _ _ _),isRow_iff (nodup_wrs _ _ _)]
   constructor
   ·rintro ⟨h0,h1,h2⟩ p hp hp3
    rcases (show p=0∨p=1∨p=2 by omega) with rfl | rfl | rfl
    ·exact h0
    ·exact h1
    ·exact h2
   ·intro hk
    exact ⟨hk 0 (by omega) (by omega),hk 1 (by omega) (by omega),hk 2 (by omega) (by omega)⟩
 constructor
 ·rintro ⟨⟨h1,h2⟩,⟨h3,h4⟩,h5⟩
  exact ⟨h1,(fr h1).1 h2,h3,(od h3).1 h4,h5⟩
 ·intro h
  exact ⟨⟨h.len,(fr h.len).2 h.fro⟩,⟨h.three,(od h.three).2 h.row⟩,h.fin⟩
theorem fro_in {ds:List De} {l:List Int} (hf:Fro ds l) (hl:∀ x∈ds,x.lr < ds.length):In ds l:=fun n hn=>by
 have hx:=List.getElem?_eq_getElem hn
 unfold valFrom
 rw [hx]
 dsimp only
 have:=hf n _ hx
 split at this
 ·rename_i hr
  rw [if_pos hr]
  rcases this with e | ⟨b,y,e,hy,_⟩
  ·omega
  ·have:=lt_of_get hy;omega
 ·rename_i hr
  rw [if_neg hr]
  split
  ·exact hl _ (List.getElem_mem hn)
  ·omega
theorem WO.in_ {ds:List De} {l:List Int} {rows:List (List Int)} (h:WO ds l rows) (hl:∀ x∈ds,x.lr < ds.length):In ds l:=fro_in h.fro hl
theorem orig_any {ds:List De} {l:List Int} (hin:In ds l) {n m:Nat} (hn:n < ds.length) (h:(orig ds l m n).isSome=true):(orig ds l ds.length n).isSome=true:=by
 rw [orig_iff] at h ⊢
 obtain ⟨k,_,hk⟩:=h
 exact backQ_short hin hn k hk
section
variable {ds es : List De} {f : Nat → Nat} {g v : Int → Int}
theorem Emb.lt (E:Emb ds es f g v) {a:Nat} (h:a < ds.length):f a < es.length:=by
 obtain ⟨y,hy,_⟩:=E.at_ a _ (List.getElem?_eq_getElem h)
 exact lt_of_get hy
theorem Emb.val (E:Emb ds es f g v) {x y:Wy} (R:Rel ds f g x y) {a:Nat} (ha:a < ds.length):valFrom es y.1 (f a)=up f (valFrom ds x.1 a):=by
 have hx:=List.getElem?_eq_getElem ha
 obtain ⟨u,hu,L⟩:=E.at_ a _ hx
 unfold valFrom
 rw [hx,hu]
 dsimp only
 rw [L.rd,L.k3]
 cases hr:ds[a].reads
 ·simp only [Bool.false_eq_true,if_false]
  split
  ·rename_i h3
   exact L.lr (by simpa using h3)
  ·rw [up_neg (by omega)]
 ·simp only [if_true]
  exact R.rd a _ hx hr
theorem Emb.orig (E:Emb ds es f g v) {x y:Wy} (R:Rel ds f g x y) (hin:In ds x.1):∀ (m a:Nat),a < ds.length→M.orig es y.1 m (f a)=(M.orig ds x.1 m a).map f
 | 0,a,_=>rfl
 | m+1,a,ha=>by
  have hv:=E.val R ha
  have hl:=hin a ha
  rw [M.orig,M.orig,hv]
  by_cases h0:valFrom ds x.1 a < 0
  ·rw [if_pos h0,if_pos (by rw [up_neg h0];exact h0)];rfl
  ·obtain ⟨n,hn⟩:∃ n:Nat,valFrom ds x.1 a=n:=⟨(valFrom ds x.1 a).toNat,by omega⟩
   rw [hn] at hl ⊢
   rw [up_nat,if_neg (by omega),if_neg (by omega),Int.toNat_natCast,Int.toNat_natCast]
   exact Emb.orig E R hin m n (by omega)
theorem Emb.wrs (E:Emb ds es f g v) {p:Int} (h0:0≤p) (h3:p < 3):((M.wrs p 0 ds).map (up f)).Perm (M.wrs (g p) 0 es):=by
 refine perm_mem ?_ (nodup_wrs _ _ _) fun z=>?_
 ·rw [List.Nodup,List.pairwise_map]
  have hn:=nodup_wrs p ds 0
  refine List.Pairwise.imp_of_mem (fun {a b} ha hb hne e=>hne ?_) hn
  obtain ⟨i,hi,e1,_⟩:=mem_wrs.1 ha
  obtain ⟨j,hj,e2,_⟩:=mem_wrs.1 hb
  rw [e1,e2,up_nat,up_nat] at e
  have:=E.inj _ _ (by omega) (by omega) (by omega:f (0+i)=f (0+j))
  rw [e1,e2,this]
 ·rw [List.mem_map]
  constructor
  ·rintro ⟨a,ha,rfl⟩
   obtain ⟨i,hi,rfl,ht⟩:=mem_wrs.1 ha
   obtain ⟨y,hy,L⟩:=E.at_ i _ (List.getElem?_eq_getElem hi)
   obtain ⟨hc,rfl⟩:=List.getElem?_eq_some_iff.1 hy
   simp only [De.to,Bool.and_eq_true,beq_iff_eq] at ht
   rw [Nat.zero_add,up_nat]
   refine mem_wrs.2 ⟨f i,hc,by simp,?_⟩
   simp only [De.to,Bool.and_eq_true,beq_iff_eq]
   have hu:ds[i].uses=true:=by show (M.reads _||M.writes _)=true;rw [ht.1,Bool.or_true]
   exact ⟨L.wr.trans ht.1,(L.pl hu).trans (by rw [ht.2])⟩
  ·intro hz
   obtain ⟨c,hc,rfl,ht⟩:=mem_wrs.1 hz
   simp only [De.to,Bool.and_eq_true,beq_iff_eq] at ht
   have hu:es[c].uses=true:=by show (M.reads _||M.writes _)=true;rw [ht.1,Bool.or_true]
   obtain ⟨a,ha,rfl⟩:=E.out c _ (List.getElem?_eq_getElem hc) hu
   obtain ⟨y,hy,L⟩:=E.at_ a _ (List.getElem?_eq_getElem ha)
   rw [List.getElem?_eq_getElem hc] at hy
   obtain rfl:=Option.some.inj hy
   refine ⟨(a:Int),mem_wrs.2 ⟨a,ha,by simp,?_⟩,by rw [up_nat,Nat.zero_add]⟩
   simp only [De.to,Bool.and_eq_true,beq_iff_eq]
   have hu':ds[a].uses=true:=L.us▸hu
   have hp:=E.pr _ (List.getElem_mem ha) hu'
   exact ⟨L.wr▸ht.1,E.gj _ _ hp.1 hp.2 h0 h3 ((L.pl hu').symm.trans ht.2)⟩
def dn (ds:List De) (f:Nat→Nat) (z:Int):Int:=if z < 0 then z else match (List.range ds.length).find? (fun a=>f a==z.toNat) with | some a=>(a:Int) | none=>-1
theorem Emb.dn_up (E:Emb ds es f g v) {a:Nat} (ha:a < ds.length):dn ds f (f a:Int)=a:=by
 unfold dn
 rw [if_neg (by omega),Int.toNat_natCast]
 cases hf:(List.range ds.length).find? (fun b=>f b==f a) with
 | none =>
  have:=List.find?_eq_none.1 hf a (List.mem_range.2 ha)
  simp at this
 | some b =>
  have h1:=List.find?_some hf
  have h2:=List.mem_range.1 (List.mem_of_find?_eq_some hf)
  rw [E.inj b a h2 ha (by simpa using h1)]
theorem dn_neg {z:Int} (h:z < 0):dn ds f z=z:=by unfold dn;rw [if_pos h]
def dnF (ds:List De) (f:Nat→Nat) (l:List Int):List Int:=(List.range ds.length).map fun (a:Nat)=>if ((ds[a]?).map De.reads).getD false then dn ds f (l.getD (f a) 0) else -2
def dnO (ds:List De) (g:Int→Int) (f:Nat→Nat) (rows:List (List Int)):List (List Int):=[(0:Int),1,2].map fun p=>(rows.getD (g p).toNat []).map (dn ds f)
theorem dnF_at {l:List Int} {a:Nat} {x:De} (h:ds[a]?=some x):(dnF ds f l).getD a 0=if x.reads then dn ds f (l.getD (f a) 0) else -2:=by
 have hc:=lt_of_get h
 obtain ⟨_,rfl⟩:=List.getElem?_eq_some_iff.1 h
 simp [dnF,List.getD_eq_getElem?_getD,hc]
theorem Emb.relDn (E:Emb ds es f g v) {y:Wy} (h:WO es y.1 y.2):Rel ds f g (dnF ds f y.1,dnO ds g f y.2) y:=by
 have ud:∀ z:Int,(z < 0∨∃ a,a < ds.length∧z=(f a:Int))→up f (dn ds f z)=z:=by
  rintro z (h | ⟨a,ha,rfl⟩)
  ·rw [dn_neg h,up_neg h]
  ·rw [E.dn_up ha,up_nat]
 refine ⟨fun a u hu hr=>?_,fun p h0 h3=>?_⟩
 ·show _=up f ((dnF ds f y.1).getD a 0)
  rw [dnF_at hu,hr,if_pos rfl,ud]
  obtain ⟨z,hz,L⟩:=E.at_ a u hu
  have:=h.fro (f a) z hz
  rw [if_pos (L.rd.trans hr)] at this
  rcases this with e | ⟨b,c,e,hc,ht⟩
  ·exact Or.inl (by omega)
  ·simp only [De.to,Bool.and_eq_true] at ht
   obtain ⟨a',ha',rfl⟩:=E.out b c hc (by show (M.reads _||M.writes _)=true;rw [ht.1,Bool.or_true])
   exact Or.inr ⟨a',ha',e⟩
 ·show y.2.getD (g p).toNat []=((dnO ds g f y.2).getD p.toNat []).map (up f)
  have e:(dnO ds g f y.2).getD p.toNat []=(y.2.getD (g p).toNat []).map (dn ds f):=by
   rcases (show p=0∨p=1∨p=2 by omega) with rfl | rfl | rfl<;>rfl
  rw [e,List.map_map]
  have hp:=h.row (g p) (E.gi p h0 h3).1 (E.gi p h0 h3).2
  have hc:(y.2.getD (g p).toNat []).map (up f ∘ dn ds f)=(y.2.getD (g p).toNat []).map id:=List.map_congr_left fun z hz=>by
   obtain ⟨c,hc,rfl,ht⟩:=mem_wrs.1 (hp.mem_iff.1 hz)
   simp only [De.to,Bool.and_eq_true] at ht
   obtain ⟨a',ha',rfl⟩:=E.out c _ (List.getElem?_eq_getElem hc) (by show (M.reads _||M.writes _)=true;rw [ht.1,Bool.or_true])
   exact ud _ (Or.inr ⟨a',ha',by rw [Nat.zero_add]⟩)
  rw [hc,List.map_id]
theorem Emb.dn_ok (E:Emb ds es f g v) {y:Wy} (h:WO es y.1 y.2):WO ds (dnF ds f y.1) (dnO ds g f y.2):=by
 have R:=E.relDn h
 have hfro:Fro ds (dnF ds f y.1):=by
  intro a x hx
  rw [dnF_at hx]
  cases hr:x.reads
  ·simp
  ·simp only [if_true]
   obtain ⟨z,hz,L⟩:=E.at_ a x hx
   have hf:=h.fro (f a) z hz
   rw [if_pos (L.rd.trans hr)] at hf
   rcases hf with e | ⟨b,c,e,hc,ht⟩
   ·rw [e];exact Or.inl (dn_neg (by omega))
   ·simp only [De.to,Bool.and_eq_true,beq_iff_eq] at ht
    have huc:c.uses=true:=by show (M.reads _||M.writes _)=true;rw [ht.1,Bool.or_true]
    obtain ⟨a',ha',rfl⟩:=E.out b c hc huc
    rw [e,E.dn_up ha']
    have hx':=List.getElem?_eq_getElem ha'
    obtain ⟨c',hc',L'⟩:=E.at_ a' _ hx'
    rw [hc] at hc'
    obtain rfl:=Option.some.inj hc'
    have hua:ds[a'].uses=true:=L'.us▸huc
    have hux:x.uses=true:=by show (M.reads _||M.writes _)=true;rw [show M.reads x.d.k=true from hr,Bool.true_or]
    refine Or.inr ⟨a',_,rfl,hx',?_⟩
    simp only [De.to,Bool.and_eq_true,beq_iff_eq]
    have p1:=E.pr _ (List.getElem_mem ha') hua
    have p2:=E.pr _ (mem_of_get hx) hux
    exact ⟨L'.wr▸ht.1,E.gj _ _ p1.1 p1.2 p2.1 p2.2 (by rw [← L'.pl hua,ht.2,L.pl hux])⟩
 have hin:=fro_in hfro E.lro
 refine ⟨by simp [dnF],hfro,rfl,fun p h0 h3=>?_,?_⟩
 ·have e:(dnO ds g f y.2).getD p.toNat []=(y.2.getD (g p).toNat []).map (dn ds f):=by
   rcases (show p=0∨p=1∨p=2 by omega) with rfl | rfl | rfl<;>rfl
  rw [e]
  have h1:=(h.row (g p) (E.gi p h0 h3).1 (E.gi p h0 h3).2).trans (E.wrs h0 h3).symm
  have h2:=h1.map (dn ds f)
  have h4:((M.wrs p 0 ds).map (up f)).map (dn ds f)=M.wrs p 0 ds:=by
   rw [List.map_map]
   have:(M.wrs p 0 ds).map (dn ds f ∘ up f)=(M.wrs p 0 ds).map id:=List.map_congr_left fun z hz=>by
    obtain ⟨c,hc,rfl,_⟩:=mem_wrs.1 hz
    show dn ds f (up f _)=_
    rw [up_nat,E.dn_up (by omega)];rfl
   rw [this,List.map_id]
  rw [h4] at h2
  exact h2
 ·rw [ends_iff]
  intro a ha
  refine orig_any hin ha (m:=es.length) ?_
  have:=(ends_iff es y.1).1 h.fin (f a) (E.lt ha)
  have e:=E.orig R hin es.length a ha
  rw [e] at this
  simpa using this
theorem Emb.read (E:Emb ds es f g v) {x y:Wy} (R:Rel ds f g x y) (hx:WO ds x.1 x.2) (hy:WO es y.1 y.2) {a b:Nat} (ha:a < ds.length) (hb:b < ds.length):M.read y.1 (f a) (f b)=M.read x.1 a b:=by
 unfold M.read
 have hxb:=List.getElem?_eq_getElem hb
 obtain ⟨z,hz,L⟩:=E.at_ b _ hxb
 have h1:=hx.fro b _ hxb
 have h2:=hy.fro (f b) z hz
 cases hr:ds[b].reads
 ·rw [hr,if_neg (by simp)] at h1
  rw [L.rd,hr,if_neg (by simp)] at h2
  rw [h1,h2]
  have e1:((-2:Int)==(f a:Int))=false:=by simp
  have e2:((-2:Int)==(a:Int))=false:=by simp
  rw [e1,e2]
 ·rw [R.rd b _ hxb hr]
  rw [if_pos hr] at h1
  rcases h1 with e | ⟨c,u,e,hu,_⟩
  ·rw [e,up_neg (by omega)]
   have e1:((-1:Int)==(f a:Int))=false:=by simp
   have e2:((-1:Int)==(a:Int))=false:=by simp
   rw [e1,e2]
  ·rw [e,up_nat]
   rw [Bool.eq_iff_iff,beq_iff_eq,beq_iff_eq]
   constructor
   ·intro h;have:=E.inj c a (lt_of_get hu) ha (by omega);omega
   ·intro h;have:c=a:=by omega
    rw [this]
theorem idx_map {h:Int→Int} {z:Int}:∀ {row:List Int},(∀ r∈row,h r=h z→r=z)→idx (row.map h) (h z)=idx row z:=by
 intro row hh
 have e:(row.map h).findIdx? (·==h z)=row.findIdx? (·==z):=by
  induction row with
  | nil=>rfl
  | cons r row ih =>
   have h1:=ih fun r hr=>hh r (List.mem_cons_of_mem _ hr)
   have h2:(h r==h z)=(r==z):=by
    rw [Bool.eq_iff_iff,beq_iff_eq,beq_iff_eq]
    exact ⟨hh r (List.mem_cons_self ..),fun e=>by rw [e]⟩
   rw [List.map_cons,List.findIdx?_cons,List.findIdx?_cons,h1,h2]
 unfold idx
 rw [e]
theorem Emb.up_inj (E:Emb ds es f g v) {y z:Int} (hy:y < ds.length) (hz:z < ds.length) (h:up f y=up f z):y=z:=by
 rcases Int.lt_or_le y 0 with h1 | h1
 ·rcases Int.lt_or_le z 0 with h2 | h2
  ·rwa [up_neg h1,up_neg h2] at h
  ·obtain ⟨n,rfl⟩:∃ n:Nat,z=n:=⟨z.toNat,by omega⟩
   rw [up_neg h1,up_nat] at h;omega
 ·obtain ⟨m,rfl⟩:∃ n:Nat,y=n:=⟨y.toNat,by omega⟩
  rcases Int.lt_or_le z 0 with h2 | h2
  ·rw [up_neg h2,up_nat] at h;omega
  ·obtain ⟨n,rfl⟩:∃ n:Nat,z=n:=⟨z.toNat,by omega⟩
   rw [up_nat,up_nat] at h
   have:=E.inj m n (by omega) (by omega) (by omega)
   omega
theorem Emb.over (E:Emb ds es f g v) {x y:Wy} (R:Rel ds f g x y) (hx:WO ds x.1 x.2) {a b:Nat} {s t s' t':De} (ha:ds[a]?=some s) (hb:ds[b]?=some t) (ha':es[f a]?=some s') (hb':es[f b]?=some t'):M.over y.1 y.2 (f a) (f b) s' t'=M.over x.1 x.2 a b s t:=by
 obtain ⟨u,hu,L⟩:=E.at_ a s ha
 rw [ha'] at hu
 obtain rfl:=Option.some.inj hu
 obtain ⟨u,hu,K⟩:=E.at_ b t hb
 rw [hb'] at hu
 obtain rfl:=Option.some.inj hu
 unfold M.over
 have one:onePl s' t'=onePl s t:=by
  unfold onePl
  rw [L.us,K.us]
  cases hs:s.uses
  ·rfl
  ·cases ht:t.uses
   ·rfl
   ·have p1:=E.pr _ (mem_of_get ha) hs
    have p2:=E.pr _ (mem_of_get hb) ht
    rw [L.pl hs,K.pl ht]
    simp only [Bool.true_and]
    rw [Bool.eq_iff_iff,beq_iff_eq,beq_iff_eq]
    exact ⟨fun e=>E.gj _ _ p1.1 p1.2 p2.1 p2.2 e,fun e=>by rw [e]⟩
 rw [one,K.wr]
 cases ho:onePl s t
 ·rfl
 ·cases hw:M.writes t.d.k
  ·rfl
  ·simp only [Bool.true_and]
   simp only [onePl,Bool.and_eq_true,beq_iff_eq] at ho
   have hu2:=ho.2.1
   have p2:=E.pr _ (mem_of_get hb) hu2
   rw [K.pl hu2,R.row _ p2.1 p2.2]
   have hperm:=hx.row t.d.p p2.1 p2.2
   have hmem:∀ r∈x.2.getD t.d.p.toNat [],r < ds.length:=fun r hr=>by
    obtain ⟨i,hi,rfl,_⟩:=mem_wrs.1 (hperm.mem_iff.1 hr);omega
   have hwl:wrote x.1 a s < ds.length:=by
    have h1:=hx.fro a s ha
    unfold wrote
    split
    ·rename_i hr
     rw [if_pos (show s.reads=true from hr)] at h1
     rcases h1 with e | ⟨c,u,e,hc,_⟩
     ·omega
     ·have:=lt_of_get hc;omega
    ·have:=lt_of_get ha;omega
   have hwr:wrote y.1 (f a) s'=up f (wrote x.1 a s):=by
    unfold wrote
    rw [show M.reads s'.d.k=M.reads s.d.k from L.rd]
    split
    ·rename_i hr
     exact R.rd a s ha hr
    ·rw [up_nat]
   have hbl:=lt_of_get hb
   rw [hwr,← up_nat,idx_map fun r hr=>E.up_inj (hmem r hr) hwl,idx_map fun r hr=>E.up_inj (hmem r hr) (by omega)]
theorem Emb.vl (E:Emb ds es f g v) {x y:Wy} (R:Rel ds f g x y) (hx:WO ds x.1 x.2) (hy:WO es y.1 y.2) (hlo:∀ y∈es,y.lr < es.length) (hz:∀ x∈ds,x.reads=true∨x.d.k=3→x.d.v=0) (hz':∀ x∈es,x.reads=true∨x.d.k=3→x.d.v=0) {a:Nat} (ha:a < ds.length):M.vl es y.1 (f a)=v (M.vl ds x.1 a):=by
 have hin:=hx.in_ E.lro
 obtain ⟨q,hq,e1,e2⟩:=vl_of hin hx.len hz hx.fin a ha
 obtain ⟨q',hq',e3,e4⟩:=vl_of (hy.in_ hlo) hy.len hz' hy.fin (f a) (E.lt ha)
 have e5:=E.orig R hin ds.length a ha
 rw [e1] at e5
 have e6:=orig_mono _ (ds.length+es.length) _ _ (by omega) e5
 have e7:=orig_mono _ (ds.length+es.length) _ _ (by omega) e3
 rw [e6] at e7
 have e8:f q=q':=Option.some.inj e7
 subst e8
 rw [e2,e4]
 obtain ⟨u,hu,L⟩:=E.at_ q _ (List.getElem?_eq_getElem hq)
 rw [List.getElem?_eq_getElem hq'] at hu
 obtain rfl:=Option.some.inj hu
 exact L.vl
theorem lastD_map {h:Int→Int} {d:Int} (row:List Int):(row.map h).getLastD (h d)=h (row.getLastD d):=by
 rw [List.getLastD_eq_getLast?,List.getLastD_eq_getLast?,List.getLast?_map]
 cases row.getLast?<;>rfl
theorem Emb.last (E:Emb ds es f g v) {x y:Wy} (R:Rel ds f g x y) (hx:WO ds x.1 x.2) (hy:WO es y.1 y.2) (hlo:∀ y∈es,y.lr < es.length) (hz:∀ x∈ds,x.reads=true∨x.d.k=3→x.d.v=0) (hz':∀ x∈es,x.reads=true∨x.d.k=3→x.d.v=0) {p:Int} (h0:0≤p) (h3:p < 3):lastOf es y.1 (y.2.getD (g p).toNat [])=v (lastOf ds x.1 (x.2.getD p.toNat [])):=by
 rw [R.row p h0 h3]
 have hperm:=hx.row p h0 h3
 generalize x.2.getD p.toNat []=row at *
 cases hr:row with
 | nil=>rw [List.map_nil,last_nil,last_nil,E.vz]
 | cons r rs =>
  have hl:row.getLastD (-1)∈row:=by
   rw [List.getLastD_eq_getLast?,List.getLast?_eq_some_getLast (by rw [hr];simp)]
   exact List.getLast_mem _
  rw [← hr]
  unfold lastOf
  have e:=lastD_map (h:=up f) (d:=-1) row
  rw [up_neg (show (-1:Int) < 0 by omega)] at e
  rw [e]
  obtain ⟨i,hi,e2,_⟩:=mem_wrs.1 (hperm.mem_iff.1 hl)
  rw [e2,Nat.zero_add,up_nat]
  exact E.vl R hx hy hlo hz hz' hi
end
theorem rd_form (ds:List De) (l:List Int):seenR ds l=((List.range ds.length).filter fun n=>((ds[n]?).map De.reads).getD false).map fun n=>vl ds l (n:Nat):=by
 have key:∀ (k n:Nat),n+k=ds.length→rdAt ds l n (ds.drop n)=((List.range' n k).filter fun n=>((ds[n]?).map De.reads).getD false).map fun n=>vl ds l (n:Nat):=by
  intro k
  induction k with
  | zero=>intro n hn;rw [List.drop_eq_nil_of_le (by omega)];rfl
  | succ k ih =>
   intro n hn
   have hlt:n < ds.length:=by omega
   rw [← List.getElem_cons_drop hlt,rdAt,ih (n+1) (by omega),List.range'_succ,List.filter_cons,List.getElem?_eq_getElem hlt]
   simp only [Option.map_some,Option.getD_some]
   split<;>rfl
 have:=key ds.length 0 (by omega)
 rw [List.drop_zero] at this
 rw [seenR,this,List.range_eq_range']
theorem natAsc_unique:∀ {l m:List Nat},l.Pairwise (· < ·)→m.Pairwise (· < ·)→(∀ x,x∈l↔x∈m)→l=m
 | [],[],_,_,_=>rfl
 | [],y::m,_,_,h=>absurd ((h y).2 (by simp)) (by simp)
 | x::l,[],_,_,h=>absurd ((h x).1 (by simp)) (by simp)
 | x::l,y::m,hl,hm,h=>by
  have hl':=List.pairwise_cons.1 hl
  have hm':=List.pairwise_cons.1 hm
  have hxy:x=y:=by
   rcases List.mem_cons.1 ((h x).1 (by simp)) with e | hx
   ·exact e
   ·rcases List.mem_cons.1 ((h y).2 (by simp)) with e | hy
    ·exact e.symm
    ·have h1:=hm'.1 x hx
     have h2:=hl'.1 y hy
     omega
  subst hxy
  have:∀ z,z∈l↔z∈m:=fun z=>by
   constructor
   ·intro hz
    rcases List.mem_cons.1 ((h z).1 (by simp [hz])) with e | hm2
    ·subst e;have:=hl'.1 z hz;omega
    ·exact hm2
   ·intro hz
    rcases List.mem_cons.1 ((h z).2 (by simp [hz])) with e | hl2
    ·subst e;have:=hm'.1 z hz;omega
    ·exact hl2
  rw [natAsc_unique hl'.2 hm'.2 this]
theorem Emb.seenR {ds es:List De} {f:Nat→Nat} {g v:Int→Int} (E:Emb ds es f g v) (hm:∀ a b,a < b→b < ds.length→f a < f b) {x y:Wy} (R:Rel ds f g x y) (hx:WO ds x.1 x.2) (hy:WO es y.1 y.2) (hlo:∀ y∈es,y.lr < es.length) (hz:∀ x∈ds,x.reads=true∨x.d.k=3→x.d.v=0) (hz':∀ x∈es,x.reads=true∨x.d.k=3→x.d.v=0):M.seenR es y.1=(M.seenR ds x.1).map v:=by
 rw [rd_form,rd_form,List.map_map]
 have e:((List.range es.length).filter fun n=>((es[n]?).map De.reads).getD false)=((List.range ds.length).filter fun n=>((ds[n]?).map De.reads).getD false).map f:=by
  refine natAsc_unique (List.Pairwise.sublist List.filter_sublist List.pairwise_lt_range) ?_ fun c=>?_
  ·rw [List.pairwise_map]
   refine List.Pairwise.imp_of_mem (fun {a b} _ hb hlt=>hm a b hlt ?_) (List.Pairwise.sublist List.filter_sublist List.pairwise_lt_range)
   exact List.mem_range.1 (List.mem_filter.1 hb).1
  ·rw [List.mem_filter,List.mem_map,List.mem_range]
   constructor
   ·rintro ⟨hc,hr⟩
    rw [List.getElem?_eq_getElem hc] at hr
    have hr':es[c].reads=true:=by simpa using hr
    obtain ⟨a,ha,rfl⟩:=E.out c _ (List.getElem?_eq_getElem hc) (by show (M.reads _||M.writes _)=true;rw [show M.reads es[c].d.k=true from hr',Bool.true_or])
    refine ⟨a,List.mem_filter.2 ⟨List.mem_range.2 ha,?_⟩,rfl⟩
    obtain ⟨z,hz,L⟩:=E.at_ a _ (List.getElem?_eq_getElem ha)
    rw [List.getElem?_eq_getElem hc] at hz
    obtain rfl:=Option.some.inj hz
    rw [List.getElem?_eq_getElem ha]
    simpa using L.rd▸hr'
   ·rintro ⟨a,ha,rfl⟩
    obtain ⟨ha,hr⟩:=List.mem_filter.1 ha
    have ha:=List.mem_range.1 ha
    rw [List.getElem?_eq_getElem ha] at hr
    obtain ⟨z,hz,L⟩:=E.at_ a _ (List.getElem?_eq_getElem ha)
    refine ⟨lt_of_get hz,?_⟩
    rw [hz]
    simpa [L.rd] using hr
 rw [e,List.map_map]
 refine List.map_congr_left fun a ha=>?_
 have ha:=List.mem_range.1 (List.mem_filter.1 ha).1
 exact E.vl R hx hy hlo hz hz' ha
end M
end Go.Proofs.YtjjkicffhpcngaaGreat
namespace Go.Proofs.YtjjkicffhpcngaaGreat
namespace M
theorem holds_iff {ll:List (List D)} {l:List Int} {rows:List (List Int)} {k:Nat}:orderHolds ll l rows k=true↔(1≤k∧k≤3)∧execOk ll l rows=true∧¬ Round (linksOf (netOf (deeds ll) l rows 0) (deeds ll).length)∧Sat (linksOf (netOf (deeds ll) l rows k) (deeds ll).length) (choices (deeds ll)):=by
 unfold orderHolds
 simp only [Bool.and_eq_true,decide_eq_true_eq,Int.toNat_natCast]
 constructor
 ·rintro ⟨hk,he,h0,hw⟩
  rw [waits_ok _ _ _ fun c hc=>(choices_ok (run_of (exec_prog he)) c hc).1] at hw
  exact ⟨by omega,he,(kahn_ok _ _).1 h0,hw⟩
 ·rintro ⟨hk,he,h0,hw⟩
  rw [waits_ok _ _ _ fun c hc=>(choices_ok (run_of (exec_prog he)) c hc).1]
  exact ⟨by omega,he,(kahn_ok _ _).2 h0,hw⟩
theorem exec_wo {ll:List (List D)} {l:List Int} {rows:List (List Int)}:execOk ll l rows=true↔prog ll=true∧WO (deeds ll) l rows:=by
 rw [execOk,Bool.and_eq_true,wo_iff]
theorem mem_net {ll:List (List D)} {l:List Int} {rows:List (List Int)} {k:Nat} {a b:Nat}:(a,b)∈linksOf (netOf (deeds ll) l rows k) (deeds ll).length↔∃ x y,(deeds ll)[a]?=some x∧(deeds ll)[b]?=some y∧must (deeds ll) l rows k a b x y=true:=by
 rw [mem_links]
 constructor
 ·rintro ⟨ha,hb,h⟩
  rw [netOf,mustAt,List.getElem?_eq_getElem ha,List.getElem?_eq_getElem hb] at h
  exact ⟨_,_,List.getElem?_eq_getElem ha,List.getElem?_eq_getElem hb,h⟩
 ·rintro ⟨x,y,hx,hy,h⟩
  refine ⟨lt_of_get hx,lt_of_get hy,?_⟩
  rw [netOf,mustAt,hx,hy]
  exact h
theorem sat_iff {L:List Lk}:∀ {cs:List Ch},Sat L cs↔∃ S:List Lk,(∀ c∈cs,c.1∈S∨c.2∈S)∧¬ Round (S++L):=by
 intro cs
 constructor
 ·rintro ⟨ls,hp,h⟩
  refine ⟨ls,?_,h⟩
  clear h
  induction hp with
  | nil=>intro c hc;cases hc
  | cons hl _ ih =>
   intro c hc
   rcases List.mem_cons.1 hc with rfl | hc
   ·exact hl.imp (fun e=>by rw [← e];exact List.mem_cons_self ..) (fun e=>by rw [← e];exact List.mem_cons_self ..)
   ·exact (ih c hc).imp (List.mem_cons_of_mem _) (List.mem_cons_of_mem _)
 ·rintro ⟨S,hS,h⟩
  have:∃ ls,Picks cs ls∧∀ l∈ls,l∈S:=by
   clear h
   induction cs with
   | nil=>exact ⟨[],.nil,fun l hl=>by cases hl⟩
   | cons c cs ih =>
    obtain ⟨ls,h1,h2⟩:=ih fun c hc=>hS c (List.mem_cons_of_mem _ hc)
    rcases hS c (List.mem_cons_self ..) with h3 | h3
    ·exact ⟨c.1::ls,.cons (.inl rfl) h1,fun l hl=>by
      rcases List.mem_cons.1 hl with rfl | hl
      ·exact h3
      ·exact h2 l hl⟩
    ·exact ⟨c.2::ls,.cons (.inr rfl) h1,fun l hl=>by
      rcases List.mem_cons.1 hl with rfl | hl
      ·exact h3
      ·exact h2 l hl⟩
  obtain ⟨ls,h1,h2⟩:=this
  exact ⟨ls,h1,fun hr=>h (hr.sub fun l hl=>.one (by
   rcases List.mem_append.1 hl with hl | hl
   ·exact List.mem_append.2 (.inl (h2 l hl))
   ·exact List.mem_append.2 (.inr hl)))⟩
theorem leads_map {L L':List Lk} {f:Nat→Nat} (h:∀ l∈L,Leads L' (f l.1) (f l.2)) {a b:Nat} (hl:Leads L a b):Leads L' (f a) (f b):=by
 induction hl with
 | one h1=>exact h _ h1
 | more _ h2 ih=>exact ih.trans (h _ h2)
theorem round_map {L L':List Lk} {f:Nat→Nat} (h:∀ l∈L,Leads L' (f l.1) (f l.2)) (hr:Round L):Round L':=by
 obtain ⟨a,ha⟩:=hr
 exact ⟨f a,leads_map h ha⟩
end M
end Go.Proofs.YtjjkicffhpcngaaGreat
namespace Go.Proofs.YtjjkicffhpcngaaGreat
namespace M
theorem deed_zero {ll:List (List D)} (hp:prog ll=true):∀ x∈deeds ll,x.reads=true∨x.d.k=3→x.d.v=0:=deed_z hp
theorem lro_deeds (ll:List (List D)):∀ x∈deeds ll,x.lr < (deeds ll).length:=fun x hx=>by
 obtain ⟨n,hn,rfl⟩:=List.getElem_of_mem hx
 exact lr_lt2 ll n _ (List.getElem?_eq_getElem hn)
theorem rows_three {rows:List (List Int)} (h:rows.length=3):rows=[rows.getD 0 [],rows.getD 1 [],rows.getD 2 []]:=by
 match rows,h with
 | [a,b,c],_=>rfl
theorem emb_seen {ll mm:List (List D)} (hp:prog ll=true) (hq:prog mm=true) {f:Nat→Nat} (E:Emb (deeds ll) (deeds mm) f id id) (hm:∀ a b,a < b→b < (deeds ll).length→f a < f b) {x y:Wy} (R:Rel (deeds ll) f id x y) (hx:WO (deeds ll) x.1 x.2) (hy:WO (deeds mm) y.1 y.2):seenOf mm y=seenOf ll x:=by
 have z1:=deed_zero hp
 have z2:=deed_zero hq
 have h1:=E.seenR hm R hx hy (lro_deeds mm) z1 z2
 rw [List.map_id] at h1
 unfold seenOf
 rw [h1]
 congr 1
 unfold seenL
 have e0:=E.last R hx hy (lro_deeds mm) z1 z2 (p:=0) (by omega) (by omega)
 have e1:=E.last R hx hy (lro_deeds mm) z1 z2 (p:=1) (by omega) (by omega)
 have e2:=E.last R hx hy (lro_deeds mm) z1 z2 (p:=2) (by omega) (by omega)
 rw [rows_three hx.three,rows_three hy.three]
 simp only [List.map_cons,List.map_nil]
 rw [show lastOf (deeds mm) y.1 (y.2.getD 0 [])=lastOf (deeds ll) x.1 (x.2.getD 0 []) from e0,show lastOf (deeds mm) y.1 (y.2.getD 1 [])=lastOf (deeds ll) x.1 (x.2.getD 1 []) from e1,show lastOf (deeds mm) y.1 (y.2.getD 2 [])=lastOf (deeds ll) x.1 (x.2.getD 2 []) from e2]
section
variable {ll mm : List (List D)} {pos back : List Nat}
end
end M
end Go.Proofs.YtjjkicffhpcngaaGreat
