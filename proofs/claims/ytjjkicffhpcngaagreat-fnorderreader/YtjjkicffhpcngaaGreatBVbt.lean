/- What an order allows of small programs: a thread more that does nothing, one place alone, one thread alone, one step of each. Plainly. No condition but what is said. One read more at the end: what an order allows of the rest is the same. Plainly. No condition but what is said. -/
import Derived.Below
import Derived.BigQuiet
import Derived.Deep.AppendLies
import Derived.Deep.CutRange
import Derived.Deep.MidRow
import Derived.Deep.Quiet
import Derived.Deep.QuietTactic
import Derived.Deep.RegionHeld3
import Derived.Deep.RegionLaw
import Derived.Deep.RegionWith
import Derived.Deep.Slices
import Derived.Deep.WholeRow
import Derived.Handy
import Derived.Laws.AppendOwn
import Derived.Laws.AppendOwnNone
import Derived.Laws.EntriesVeiled
import Derived.Laws.IdiomCopy
import Derived.Laws.OwnMore
import Derived.LoopIn
import Derived.LoopN
import Derived.LoopNIn
import Derived.Maps.OwnIn
import Derived.OwnWalkIn
import Derived.RangeFuncBound
import Derived.RangeFuncLeaves
import Derived.RangeFuncNested
import Derived.Shelf.Abstract
import Derived.Shelf.SlSortCmp.NoneTotal
import Derived.Sort.Grow
import Derived.TacticsInMore
import Derived.WalkKit
import Derived.WalkLawsBesides
import Derived.WalkSpells
import Derived.Deep.OwnRows
import Derived.Test.YtjjkicffhpcngaaGreatRows
import Derived.Test.YtjjkicffhpcngaaGreatBVbs
namespace Go.Proofs.YtjjkicffhpcngaaGreat
namespace M
theorem holds_iff {ll:List (List D)} {l:List Int} {rows:List (List Int)} {k:Nat}:orderHolds ll l rows k=true↔(1≤k∧k≤3)∧execOk ll l rows=true∧¬ Round (linksOf (netOf (deeds ll) l rows 0) (deeds ll).length)∧Sat (linksOf (netOf (deeds ll) l rows k) (deeds ll).length) (choices (deeds ll)):=by
 unfold orderHolds
 simp only [Bool.and_eq_true,decide_eq_true_eq,Int.toNat_natCast]
 constructor
 ·rintro ⟨hk,he,h0,hw⟩
  rw [waits_ok _ _ _ fun c hc=>(choices_ok (run_of (exec_prog he)) c hc).1] at hw
  exact ⟨by omega,he,(kahn_ok _ _).1 h0,hw⟩
 ·rintro ⟨hk,he,h0,hw⟩
  rw [waits_ok _ _ _ fun c hc=>(choices_ok (run_of (exec_prog he)) c hc).1]
  exact ⟨by omega,he,(kahn_ok _ _).2 h0,hw⟩
theorem exec_wo {ll:List (List D)} {l:List Int} {rows:List (List Int)}:execOk ll l rows=true↔prog ll=true∧WO (deeds ll) l rows:=by
 rw [execOk,Bool.and_eq_true,wo_iff]
theorem mem_net {ll:List (List D)} {l:List Int} {rows:List (List Int)} {k:Nat} {a b:Nat}:(a,b)∈linksOf (netOf (deeds ll) l rows k) (deeds ll).length↔∃ x y,(deeds ll)[a]?=some x∧(deeds ll)[b]?=some y∧must (deeds ll) l rows k a b x y=true:=by
 rw [mem_links]
 constructor
 ·rintro ⟨ha,hb,h⟩
  rw [netOf,mustAt,List.getElem?_eq_getElem ha,List.getElem?_eq_getElem hb] at h
  exact ⟨_,_,List.getElem?_eq_getElem ha,List.getElem?_eq_getElem hb,h⟩
 ·rintro ⟨x,y,hx,hy,h⟩
  refine ⟨lt_of_get hx,lt_of_get hy,?_⟩
  rw [netOf,mustAt,hx,hy]
  exact h
theorem sat_iff {L:List Lk}:∀ {cs:List Ch},Sat L cs↔∃ S:List Lk,(∀ c∈cs,c.1∈S∨c.2∈S)∧¬ Round (S++L):=by
 intro cs
 constructor
 ·rintro ⟨ls,hp,h⟩
  refine ⟨ls,?_,h⟩
  clear h
  induction hp with
  | nil=>intro c hc;cases hc
  | cons hl _ ih =>
   intro c hc
   rcases List.mem_cons.1 hc with rfl | hc
   ·exact hl.imp (fun e=>by rw [← e];exact List.mem_cons_self ..) (fun e=>by rw [← e];exact List.mem_cons_self ..)
   ·exact (ih c hc).imp (List.mem_cons_of_mem _) (List.mem_cons_of_mem _)
 ·rintro ⟨S,hS,h⟩
  have:∃ ls,Picks cs ls∧∀ l∈ls,l∈S:=by
   clear h
   induction cs with
   | nil=>exact ⟨[],.nil,fun l hl=>by cases hl⟩
   | cons c cs ih =>
    obtain ⟨ls,h1,h2⟩:=ih fun c hc=>hS c (List.mem_cons_of_mem _ hc)
    rcases hS c (List.mem_cons_self ..) with h3 | h3
    ·exact ⟨c.1::ls,.cons (.inl rfl) h1,fun l hl=>by
      rcases List.mem_cons.1 hl with rfl | hl
      ·exact h3
      ·exact h2 l hl⟩
    ·exact ⟨c.2::ls,.cons (.inr rfl) h1,fun l hl=>by
      rcases List.mem_cons.1 hl with rfl | hl
      ·exact h3
      ·exact h2 l hl⟩
  obtain ⟨ls,h1,h2⟩:=this
  exact ⟨ls,h1,fun hr=>h (hr.sub fun l hl=>.one (by
   rcases List.mem_append.1 hl with hl | hl
   ·exact List.mem_append.2 (.inl (h2 l hl))
   ·exact List.mem_append.2 (.inr hl)))⟩
theorem leads_map {L L':List Lk} {f:Nat→Nat} (h:∀ l∈L,Leads L' (f l.1) (f l.2)) {a b:Nat} (hl:Leads L a b):Leads L' (f a) (f b):=by
 induction hl with
 | one h1=>exact h _ h1
 | more _ h2 ih=>exact ih.trans (h _ h2)
theorem round_map {L L':List Lk} {f:Nat→Nat} (h:∀ l∈L,Leads L' (f l.1) (f l.2)) (hr:Round L):Round L':=by
 obtain ⟨a,ha⟩:=hr
 exact ⟨f a,leads_map h ha⟩
theorem sat_map {L L':List Lk} {f:Nat→Nat} {cs cs':List Ch} (h:∀ l∈L,Leads L' (f l.1) (f l.2)) (hc:∀ c∈cs,((f c.1.1,f c.1.2),(f c.2.1,f c.2.2))∈cs') (hs:Sat L' cs'):Sat L cs:=by
 obtain ⟨S',h1,h2⟩:=sat_iff.1 hs
 refine sat_iff.2 ⟨(cs.flatMap fun c=>[c.1,c.2]).filter fun l=>decide ((f l.1,f l.2)∈S'),fun c hcc=>?_,fun hr=>h2 (round_map (f:=f) (fun l hl=>?_) hr)⟩
 ·rcases h1 _ (hc c hcc) with h3 | h3
  ·left
   exact List.mem_filter.2 ⟨List.mem_flatMap.2 ⟨c,hcc,by simp⟩,by simpa using h3⟩
  ·right
   exact List.mem_filter.2 ⟨List.mem_flatMap.2 ⟨c,hcc,by simp⟩,by simpa using h3⟩
 ·rcases List.mem_append.1 hl with hl | hl
  ·have:=(List.mem_filter.1 hl).2
   exact .one (List.mem_append.2 (.inl (by simpa using this)))
  ·exact (h l hl).sub fun x hx=>List.mem_append.2 (.inr hx)
theorem deF_append:∀ (ll mm:List (List D)) (t n:Nat),deF t n (ll++mm)=deF t n ll++deF (t+ll.length) (n+(deF t n ll).length) mm
 | [],mm,t,n=>by simp [deF]
 | l::ll,mm,t,n=>by
  simp only [List.cons_append,deF,deF_append ll mm,List.append_assoc,List.length_append,List.length_cons]
  rw [show t+1+ll.length=t+(ll.length+1) by omega,show n+(deT t 0 (-1) n l).length+(deF (t+1) (n+(deT t 0 (-1) n l).length) ll).length=n+((deT t 0 (-1) n l).length+(deF (t+1) (n+(deT t 0 (-1) n l).length) ll).length) by omega]
end M
end Go.Proofs.YtjjkicffhpcngaaGreat
namespace Go.Proofs.YtjjkicffhpcngaaGreat
namespace M
theorem wrs_app (p:Int):∀ (l m:List De) (n:Nat),wrs p n (l++m)=wrs p n l++wrs p (n+l.length) m
 | [],m,n=>by simp [wrs]
 | x::l,m,n=>by
  rw [List.cons_append,wrs,wrs,wrs_app p l m (n+1),List.length_cons,show n+1+l.length=n+(l.length+1) by omega]
  split<;>simp
theorem leads_cut {E F:List Lk} {n:Nat} (hE:∀ u v,(u,v)∈E→u < n∧(v < n→(u,v)∈F)) {u v:Nat} (h:Leads E u v):u < n∧(v < n→Leads F u v):=by
 induction h with
 | one h1=>exact ⟨(hE _ _ h1).1,fun hv=>.one ((hE _ _ h1).2 hv)⟩
 | more _ h2 ih=>exact ⟨ih.1,fun hv=>.more (ih.2 (hE _ _ h2).1) ((hE _ _ h2).2 hv)⟩
theorem round_cut {E F:List Lk} {n:Nat} (hE:∀ u v,(u,v)∈E→u < n∧(v < n→(u,v)∈F)) (h:Round E):Round F:=by
 obtain ⟨a,ha⟩:=h
 have:=leads_cut hE ha
 exact ⟨a,this.2 this.1⟩
theorem sat_cut {E F:List Lk} {n:Nat} {cs:List Ch} (hE:∀ u v,(u,v)∈E→u < n∧(v < n→(u,v)∈F)) (hc:∀ c∈cs,Inn n c) (h:Sat F cs):Sat E cs:=by
 obtain ⟨S,h1,h2⟩:=sat_iff.1 h
 refine sat_iff.2 ⟨(cs.flatMap fun c=>[c.1,c.2]).filter fun l=>decide (l∈S),fun c hcc=>?_,fun hr=>h2 (round_cut (n:=n) (fun u v hl=>?_) hr)⟩
 ·rcases h1 c hcc with h3 | h3
  ·exact .inl (List.mem_filter.2 ⟨List.mem_flatMap.2 ⟨c,hcc,by simp⟩,by simpa using h3⟩)
  ·exact .inr (List.mem_filter.2 ⟨List.mem_flatMap.2 ⟨c,hcc,by simp⟩,by simpa using h3⟩)
 ·rcases List.mem_append.1 hl with hl | hl
  ·obtain ⟨hm,hS⟩:=List.mem_filter.1 hl
   obtain ⟨c0,hc0,hin⟩:=List.mem_flatMap.1 hm
   have hi:=hc c0 hc0
   have hS':(u,v)∈S:=by simpa using hS
   refine ⟨?_,fun _=>List.mem_append.2 (.inl hS')⟩
   rcases List.mem_cons.1 hin with e | e
   ·have:u=c0.1.1:=congrArg Prod.fst e
    rw [this];exact hi.1.1
   ·have:u=c0.2.1:=congrArg Prod.fst (List.mem_singleton.1 e)
    rw [this];exact hi.2.1
  ·exact ⟨(hE u v hl).1,fun hv=>List.mem_append.2 (.inr ((hE u v hl).2 hv))⟩
structure Cut (n:Nat) (l m:List Int):Prop where
 at_:∀ a,a < n→m.getD a 0=l.getD a 0
section
variable {ds : List De} {x : De}
theorem ext_get {a:Nat} (ha:a < ds.length):(ds++[x])[a]?=ds[a]?:=List.getElem?_append_left ha
theorem ext_val {l m:List Int} (hc:Cut ds.length l m) {a:Nat} (ha:a < ds.length):valFrom (ds++[x]) m a=valFrom ds l a:=by
 unfold valFrom
 rw [ext_get ha,hc.at_ a ha]
theorem ext_orig {l m:List Int} (hc:Cut ds.length l m) (hin:In ds l):∀ (k a:Nat),a < ds.length→M.orig (ds++[x]) m k a=M.orig ds l k a
 | 0,a,_=>rfl
 | k+1,a,ha=>by
  rw [M.orig,M.orig,ext_val hc ha]
  have:=hin a ha
  split
  ·rfl
  ·exact ext_orig hc hin k _ (by omega)
theorem ext_wrs (hx:∀ p,x.to p=false) (p:Int):wrs p 0 (ds++[x])=wrs p 0 ds:=by
 rw [wrs_app]
 simp [wrs,hx]
theorem ext_outs {a b:Nat} (ha:a≤ds.length) (hb:b≤ds.length):b≤outOf (ds++[x]) a↔b≤outOf ds a:=by
 rw [le_outOf (by simp;omega) (by simp;omega),le_outOf ha hb]
 constructor
 ·intro h q hq h1 h2
  have:=h q (by simp;omega) h1 h2
  rwa [List.getElem_append_left hq] at this
 ·intro h q hq h1 h2
  rw [List.getElem_append_left (by omega)]
  exact h q (by omega) h1 h2
theorem ext_ins {a b:Nat} (hb:b < ds.length):inOf (ds++[x]) b≤a↔inOf ds b≤a:=by
 rw [inOf_le (by simp;omega),inOf_le hb]
 constructor
 ·intro h q hq h1 h2
  have:=h q (by simp;omega) h1 h2
  rwa [List.getElem_append_left hq] at this
 ·intro h q hq h1 h2
  rw [List.getElem_append_left (by omega)]
  exact h q (by omega) h1 h2
theorem ext_must {l m:List Int} {rows:List (List Int)} (hc:Cut ds.length l m) (k:Nat) {a b:Nat} {s t:De} (ha:a < ds.length) (hb:b < ds.length):M.must (ds++[x]) m rows k a b s t=M.must ds l rows k a b s t:=by
 have hr:read m a b=read l a b:=by unfold read;rw [hc.at_ b hb]
 have hw:wrote m a s=wrote l a s:=by unfold wrote;rw [hc.at_ a ha]
 have ho:over m rows a b s t=over l rows a b s t:=by unfold over;rw [hw]
 have hl:loose (ds++[x]) a b s t=loose ds a b s t:=by
  unfold loose keeps goesIn goesOut
  rw [show decide (b≤outOf (ds++[x]) a)=decide (b≤outOf ds a) by rw [decide_eq_decide];exact ext_outs (by omega) (by omega),show decide (inOf (ds++[x]) b≤a)=decide (inOf ds b≤a) by rw [decide_eq_decide];exact ext_ins hb]
 unfold M.must
 rw [hr,ho,hl]
theorem ext_choices (h7:x.d.k≠7) (h9:x.d.k≠9) (hr:run false ds=some false) (c:Ch):c∈choices (ds++[x])↔c∈choices ds:=by
 have outE:∀ (r:Nat) (hr':r < ds.length),ds[r].d.k=7→outOf (ds++[x]) r=outOf ds r:=fun r hrl hk=>by
  obtain ⟨ho,hk8⟩:=M.out_at hr hrl hk
  have h1:=(ext_outs (x:=x) (a:=r) (b:=outOf ds r) (by omega) (by omega)).2 (Nat.le_refl _)
  have hge:r≤outOf ds r:=(le_outOf (by omega) (by omega)).2 fun q _ a b=>by omega
  apply Nat.le_antisymm _ h1
  apply Classical.byContradiction
  intro hn
  have:=(le_outOf (ds:=ds++[x]) (a:=r) (b:=outOf ds r+1) (by simp;omega) (by simp;omega)).1 (by omega) (outOf ds r) (by simp;omega) hge (by omega)
  rw [List.getElem_append_left ho] at this
  exact this hk8
 rw [mem_choices,mem_choices]
 constructor
 ·rintro ⟨w,r,y,z,hy,h1,h2,hz,h3,rfl⟩
  have hw:w < ds.length:=by
   rcases get_snoc hy with hy | ⟨_,rfl⟩
   ·exact lt_of_get hy
   ·exact absurd h1 h9
  have hrl:r < ds.length:=by
   rcases get_snoc hz with hz | ⟨_,rfl⟩
   ·exact lt_of_get hz
   ·exact absurd h3 h7
  rw [ext_get hw] at hy
  rw [ext_get hrl] at hz
  obtain ⟨_,rfl⟩:=List.getElem?_eq_some_iff.1 hz
  exact ⟨w,r,y,_,hy,h1,h2,hz,h3,by rw [outE r hrl h3]⟩
 ·rintro ⟨w,r,y,z,hy,h1,h2,hz,h3,rfl⟩
  have hw:=lt_of_get hy
  have hrl:=lt_of_get hz
  obtain ⟨_,rfl⟩:=List.getElem?_eq_some_iff.1 hz
  exact ⟨w,r,y,_,by rw [ext_get hw];exact hy,h1,h2,by rw [ext_get hrl];exact hz,h3,by rw [outE r hrl h3]⟩
theorem ext_down (hlo:∀ y∈ds,y.lr < ds.length) (hx:∀ p,x.to p=false) {m:List Int} {rows:List (List Int)} (h:WO (ds++[x]) m rows):WO ds (m.take ds.length) rows∧Cut ds.length (m.take ds.length) m:=by
 have hc:Cut ds.length (m.take ds.length) m:=⟨fun a ha=>by
  rw [List.getD_eq_getElem?_getD,List.getD_eq_getElem?_getD,List.getElem?_take_of_lt ha]⟩
 have hf:Fro ds (m.take ds.length):=fun a y hy=>by
  have ha:=lt_of_get hy
  have:=h.fro a y (by rw [ext_get ha];exact hy)
  rw [← hc.at_ a ha]
  cases hr:y.reads
  ·rw [hr] at this;simpa using this
  ·rw [if_pos hr] at this
   simp only [if_true]
   rcases this with e | ⟨b,z,e,hz,ht⟩
   ·exact .inl e
   ·rcases get_snoc hz with hz | ⟨_,rfl⟩
    ·exact .inr ⟨b,z,e,hz,ht⟩
    ·rw [hx] at ht;cases ht
 have hin:=fro_in hf hlo
 refine ⟨⟨by rw [List.length_take,h.len];simp,hf,h.three,fun p h0 h3=>by rw [← ext_wrs hx];exact h.row p h0 h3,?_⟩,hc⟩
 rw [ends_iff]
 intro a ha
 have:=(ends_iff _ _).1 h.fin a (by simp;omega)
 rw [ext_orig hc hin _ a ha] at this
 exact orig_any hin ha this
theorem ext_up (hlo:∀ y∈ds,y.lr < ds.length) (hx:∀ p,x.to p=false) (hxr:x.reads=true) {l:List Int} {rows:List (List Int)} (h:WO ds l rows) {f:Int} (hfm:f=-1∨f∈wrs x.d.p 0 ds):WO (ds++[x]) (l++[f]) rows∧Cut ds.length l (l++[f]):=by
 have hlen:=h.len
 have hc:Cut ds.length l (l++[f]):=⟨fun a ha=>by
  rw [List.getD_eq_getElem?_getD,List.getD_eq_getElem?_getD,List.getElem?_append_left (by omega)]⟩
 have hin:=h.in_ hlo
 have hlast:(l++[f]).getD ds.length 0=f:=by
  rw [← hlen,List.getD_eq_getElem?_getD,get_last];rfl
 refine ⟨⟨by simp [hlen],fun a y hy=>?_,h.three,fun p h0 h3=>by rw [ext_wrs hx];exact h.row p h0 h3,?_⟩,hc⟩
 ·rcases get_snoc hy with hy | ⟨rfl,rfl⟩
  ·have ha:=lt_of_get hy
   have:=h.fro a y hy
   rw [hc.at_ a ha]
   cases hr:y.reads
   ·rw [hr] at this;simpa using this
   ·rw [if_pos hr] at this
    simp only [if_true]
    exact this.imp id fun ⟨b,z,e,hz,ht⟩=>⟨b,z,e,get_left hz,ht⟩
  ·rw [if_pos hxr,hlast]
   refine hfm.imp id fun hm=>?_
   obtain ⟨i,hi,e,ht⟩:=mem_wrs.1 hm
   exact ⟨i,ds[i],by rw [e];simp,get_left (List.getElem?_eq_getElem hi),ht⟩
 ·rw [ends_iff]
  intro a ha
  have hl1:(ds++[x]).length=ds.length+1:=by simp
  rw [hl1] at ha ⊢
  have low:∀ (k a:Nat),ds.length≤k→a < ds.length→(M.orig (ds++[x]) (l++[f]) k a).isSome=true:=fun k a hk ha=>by
   rw [ext_orig hc hin _ a ha]
   have:=(ends_iff _ _).1 h.fin a ha
   obtain ⟨q,hq⟩:=Option.isSome_iff_exists.1 this
   rw [orig_mono _ k _ _ hk hq];rfl
  rcases Nat.lt_or_ge a ds.length with h1 | h1
  ·exact low _ a (by omega) h1
  ·obtain rfl:a=ds.length:=by omega
   rw [M.orig]
   have hv:valFrom (ds++[x]) (l++[f]) ds.length=f:=by
    unfold valFrom
    rw [get_last]
    dsimp only
    rw [hxr,if_pos rfl,hlast]
   rw [hv]
   split
   ·rfl
   ·rcases hfm with e | hm
    ·omega
    ·obtain ⟨i,hi,e,_⟩:=mem_wrs.1 hm
     exact low _ _ (Nat.le_refl _) (by omega)
theorem wrs_nodupA (p:Int) (l:List De):(wrs p 0 l).Nodup:=nodup_wrs p l 0
theorem row_last {row:List Int} (hn:row.Nodup) (v:Int):idx row v≤idx row (row.getLastD (-1)):=by
 cases row with
 | nil=>simp [idx]
 | cons r rs =>
  have hl:(r::rs).getLastD (-1)=(r::rs)[rs.length]:=by
   rw [List.getLastD_eq_getLast?,List.getLast?_eq_getElem?,List.getElem?_eq_getElem (by simp)]
   rfl
  rw [hl,idx_get hn (by simp)]
  by_cases hv:v∈r::rs
  ·obtain ⟨i,hi,rfl⟩:=List.getElem_of_mem hv
   rw [idx_get hn hi]
   simp only [List.length_cons] at hi
   omega
  ·rw [idx_no hv];omega
theorem last_mem {row:List Int}:row.getLastD (-1)=-1∨row.getLastD (-1)∈row:=by
 cases row with
 | nil=>left;rfl
 | cons r rs =>
  right
  rw [List.getLastD_eq_getLast?,List.getLast?_eq_getElem?,List.getElem?_eq_getElem (by simp)]
  exact List.getElem_mem _
theorem ext_none {l:List Int} {rows:List (List Int)} (h:WO ds l rows) (hp:0≤x.d.p∧x.d.p < 3) (hxr:x.reads=true) {k b:Nat} {y:De} (hy:(ds++[x])[b]?=some y):M.must (ds++[x]) (l++[(rows.getD x.d.p.toNat []).getLastD (-1)]) rows k ds.length b x y=false:=by
 have hlen:=h.len
 have hb:b < ds.length+1:=by have:=lt_of_get hy;simpa using this
 have ho:own ds.length b x y=false:=by
  unfold own
  rw [show decide (ds.length < b)=false by simp;omega,Bool.false_and]
 have hlast:(l++[(rows.getD x.d.p.toNat []).getLastD (-1)]).getD ds.length 0=(rows.getD x.d.p.toNat []).getLastD (-1):=by
  rw [← hlen,List.getD_eq_getElem?_getD,get_last];rfl
 have hperm:=h.row x.d.p hp.1 hp.2
 have hrd:read (l++[(rows.getD x.d.p.toNat []).getLastD (-1)]) ds.length b=false:=by
  unfold read
  rw [beq_eq_false_iff_ne]
  intro e
  rcases Nat.lt_or_ge b ds.length with h1 | h1
  ·rw [List.getD_eq_getElem?_getD,List.getElem?_append_left (by omega),← List.getD_eq_getElem?_getD] at e
   have:=h.fro b _ (List.getElem?_eq_getElem h1)
   rw [e] at this
   split at this
   ·rcases this with e | ⟨c,z,e,hz,_⟩
    ·omega
    ·have:=lt_of_get hz
     omega
   ·omega
  ·obtain rfl:b=ds.length:=by omega
   rw [hlast] at e
   rcases last_mem (row:=rows.getD x.d.p.toNat []) with e2 | e2
   ·omega
   ·obtain ⟨i,hi,e3,_⟩:=mem_wrs.1 (hperm.mem_iff.1 e2)
    omega
 have hov:over (l++[(rows.getD x.d.p.toNat []).getLastD (-1)]) rows ds.length b x y=false:=by
  unfold over
  cases h1:onePl x y
  ·rfl
  ·have hpp:x.d.p=y.d.p:=by
    simp only [onePl,Bool.and_eq_true,beq_iff_eq] at h1
    exact h1.2.2
   have hw:wrote (l++[(rows.getD x.d.p.toNat []).getLastD (-1)]) ds.length x=(rows.getD x.d.p.toNat []).getLastD (-1):=by
    unfold wrote
    rw [show M.reads x.d.k=true from hxr,if_pos rfl,hlast]
   rw [hw,← hpp]
   have:=row_last (hperm.nodup_iff.2 (wrs_nodupA x.d.p ds)) (b:Int)
   rw [show decide (idx (rows.getD x.d.p.toNat []) ((rows.getD x.d.p.toNat []).getLastD (-1)) < idx (rows.getD x.d.p.toNat []) (b:Int))=false by simp only [decide_eq_false_iff_not];omega]
   simp
 unfold M.must late loose
 rw [ho,hrd,hov]
 split<;>simp
theorem ext_vl {l m:List Int} {rows rows2:List (List Int)} (hc:Cut ds.length l m) (hl:WO ds l rows) (hm:WO (ds++[x]) m rows2) (hlo:∀ y∈ds,y.lr < ds.length) (hlo2:∀ y∈ds++[x],y.lr < (ds++[x]).length) (hz:∀ y∈ds++[x],y.reads=true∨y.d.k=3→y.d.v=0) {a:Nat} (ha:a < ds.length):vl (ds++[x]) m (a:Nat)=vl ds l (a:Nat):=by
 have hin:=hl.in_ hlo
 have hin2:=hm.in_ hlo2
 obtain ⟨q,hq,ho,hv⟩:=vl_of hin hl.len (fun y hy=>hz y (List.mem_append.2 (.inl hy))) hl.fin a ha
 obtain ⟨q2,hq2,ho2,hv2⟩:=vl_of hin2 hm.len hz hm.fin a (by simp;omega)
 rw [ext_orig hc hin _ a ha,orig_mono _ _ _ _ (by simp) ho] at ho2
 obtain rfl:=Option.some.inj ho2
 rw [hv,hv2,List.getElem_append_left hq]
theorem rdAt_app (D:List De) (l:List Int) (ys:List De):∀ (xs:List De) (n:Nat),rdAt D l n (xs++ys)=rdAt D l n xs++rdAt D l (n+xs.length) ys
 | [],n=>by simp [rdAt]
 | z::xs,n=>by
  rw [List.cons_append,rdAt,rdAt,rdAt_app D l ys xs (n+1),List.length_cons,show n+1+xs.length=n+(xs.length+1) by omega]
  split<;>simp
theorem rdAt_eq {D D2:List De} {l m:List Int}:∀ (xs:List De) (n:Nat),(∀ i,n≤i→i < n+xs.length→vl D2 m (i:Nat)=vl D l (i:Nat))→rdAt D2 m n xs=rdAt D l n xs
 | [],n,_=>rfl
 | z::xs,n,h=>by
  rw [rdAt,rdAt,rdAt_eq xs (n+1) fun i h1 h2=>h i (by omega) (by simp only [List.length_cons];omega),h n (Nat.le_refl _) (by simp only [List.length_cons];omega)]
theorem ext_seenR {l m:List Int} {rows rows2:List (List Int)} (hc:Cut ds.length l m) (hl:WO ds l rows) (hm:WO (ds++[x]) m rows2) (hlo:∀ y∈ds,y.lr < ds.length) (hlo2:∀ y∈ds++[x],y.lr < (ds++[x]).length) (hz:∀ y∈ds++[x],y.reads=true∨y.d.k=3→y.d.v=0) (hxr:x.reads=true):∃ v,seenR (ds++[x]) m=seenR ds l++[v]:=by
 refine ⟨vl (ds++[x]) m (ds.length:Nat),?_⟩
 unfold seenR
 rw [rdAt_app,rdAt_eq ds 0 fun i _ h2=>ext_vl hc hl hm hlo hlo2 hz (by omega)]
 congr 1
 rw [rdAt,hxr,if_pos rfl,rdAt,Nat.zero_add]
theorem ext_seenL {l m:List Int} {rows:List (List Int)} (hc:Cut ds.length l m) (hl:WO ds l rows) (hm:WO (ds++[x]) m rows) (hlo:∀ y∈ds,y.lr < ds.length) (hlo2:∀ y∈ds++[x],y.lr < (ds++[x]).length) (hz:∀ y∈ds++[x],y.reads=true∨y.d.k=3→y.d.v=0):seenL (ds++[x]) m rows=seenL ds l rows:=by
 unfold seenL
 refine List.map_congr_left fun row hrow=>?_
 obtain ⟨i,hi,rfl⟩:=List.getElem_of_mem hrow
 have h3:=hl.three
 have hp:=hl.row (i:Int) (by omega) (by omega)
 rw [show (i:Int).toNat=i by omega,List.getD_eq_getElem?_getD,List.getElem?_eq_getElem hi] at hp
 simp only [Option.getD_some] at hp
 unfold lastOf
 rcases last_mem (row:=rows[i]) with e | e
 ·rw [e];simp [vl,val]
 ·obtain ⟨j,hj,e2,_⟩:=mem_wrs.1 (hp.mem_iff.1 e)
  rw [e2,Nat.zero_add]
  exact ext_vl hc hl hm hlo hlo2 hz hj
end
section
variable {ll mm : List (List D)} {x : De}
theorem read_links (hd:deeds mm=deeds ll++[x]) {l m:List Int} {rows:List (List Int)} (hc:Cut (deeds ll).length l m) (k:Nat) {u v:Nat} (hu:u < (deeds ll).length) (hv:v < (deeds ll).length):(u,v)∈linksOf (netOf (deeds mm) m rows k) (deeds mm).length↔(u,v)∈linksOf (netOf (deeds ll) l rows k) (deeds ll).length:=by
 rw [mem_net,mem_net]
 constructor
 ·rintro ⟨s,t,hs,ht,hm⟩
  rw [hd,ext_get hu] at hs
  rw [hd,ext_get hv] at ht
  rw [hd,ext_must hc k hu hv] at hm
  exact ⟨s,t,hs,ht,hm⟩
 ·rintro ⟨s,t,hs,ht,hm⟩
  refine ⟨s,t,by rw [hd,ext_get hu];exact hs,by rw [hd,ext_get hv];exact ht,?_⟩
  rw [hd,ext_must hc k hu hv]
  exact hm
theorem read_down (hp:prog ll=true) (hq:prog mm=true) (hd:deeds mm=deeds ll++[x]) (hk:x.d.k=2) {k:Nat} {y:Wy} (hy:orderHolds mm y.1 y.2 k=true):∃ z:Wy,orderHolds ll z.1 z.2 k=true∧∃ v,seenOf mm y=((seenOf ll z).1++[v],(seenOf ll z).2):=by
 obtain ⟨hkk,he,h0,hs⟩:=holds_iff.1 hy
 have hwo:=(exec_wo.1 he).2
 have hwo':=hwo
 rw [hd] at hwo
 have hx:∀ p,x.to p=false:=fun p=>by simp [De.to,hk,writes,stores]
 have hxr:x.reads=true:=by simp [De.reads,hk,M.reads]
 have hlo2:=lro_deeds mm
 have hz:=deed_zero hq
 rw [hd] at hlo2 hz
 obtain ⟨h1,hc⟩:=ext_down (lro_deeds ll) hx hwo
 have low:∀ (k:Nat) (l:Lk),l∈linksOf (netOf (deeds ll) (y.1.take (deeds ll).length) y.2 k) (deeds ll).length→l∈linksOf (netOf (deeds mm) y.1 y.2 k) (deeds mm).length:=fun k l hl=>by
  obtain ⟨a,b⟩:=l
  obtain ⟨_,_,ha,hb,_⟩:=mem_net.1 hl
  exact (read_links hd hc k (lt_of_get ha) (lt_of_get hb)).2 hl
 refine ⟨(y.1.take (deeds ll).length,y.2),holds_iff.2 ⟨hkk,exec_wo.2 ⟨hp,h1⟩,fun hr=>h0 (round_map (f:=id) (fun l hl=>.one (low 0 l hl)) hr),sat_map (f:=id) (fun l hl=>.one (low k l hl)) (fun c hcc=>?_) hs⟩,?_⟩
 ·rw [hd]
  exact (ext_choices (by omega) (by omega) (run_of hp) c).2 hcc
 ·obtain ⟨v,hv⟩:=ext_seenR hc h1 hwo (lro_deeds ll) hlo2 hz hxr
  refine ⟨v,?_⟩
  unfold seenOf
  rw [hd,hv,ext_seenL hc h1 hwo (lro_deeds ll) hlo2 hz]
theorem read_up (hp:prog ll=true) (hq:prog mm=true) (hd:deeds mm=deeds ll++[x]) (hk:x.d.k=2) (hpl:0≤x.d.p∧x.d.p < 3) {k:Nat} {z:Wy} (hz:orderHolds ll z.1 z.2 k=true):∃ y:Wy,orderHolds mm y.1 y.2 k=true∧∃ v,seenOf mm y=((seenOf ll z).1++[v],(seenOf ll z).2):=by
 obtain ⟨hkk,he,h0,hs⟩:=holds_iff.1 hz
 have hwo:=(exec_wo.1 he).2
 have hx:∀ p,x.to p=false:=fun p=>by simp [De.to,hk,writes,stores]
 have hxr:x.reads=true:=by simp [De.reads,hk,M.reads]
 have hlo2:=lro_deeds mm
 have hz:=deed_zero hq
 rw [hd] at hlo2 hz
 have hperm:=hwo.row x.d.p hpl.1 hpl.2
 obtain ⟨h1,hc⟩:=ext_up (x:=x) (lro_deeds ll) hx hxr hwo (f:=(z.2.getD x.d.p.toNat []).getLastD (-1)) (last_mem.imp id fun hm=>hperm.mem_iff.1 hm)
 have hE:∀ (k u v:Nat),(u,v)∈linksOf (netOf (deeds mm) (z.1++[(z.2.getD x.d.p.toNat []).getLastD (-1)]) z.2 k) (deeds mm).length→u < (deeds ll).length∧(v < (deeds ll).length→(u,v)∈linksOf (netOf (deeds ll) z.1 z.2 k) (deeds ll).length):=fun k u v hl=>by
  obtain ⟨s,t,hs,ht,hm⟩:=mem_net.1 hl
  rw [hd] at hs ht
  have hu:u < (deeds ll).length:=by
   rcases get_snoc hs with hs | ⟨rfl,rfl⟩
   ·exact lt_of_get hs
   ·rw [hd,ext_none hwo hpl hxr ht] at hm
    cases hm
  exact ⟨hu,fun hv=>(read_links hd hc k hu hv).1 hl⟩
 refine ⟨(z.1++[(z.2.getD x.d.p.toNat []).getLastD (-1)],z.2),holds_iff.2 ⟨hkk,exec_wo.2 ⟨hq,by rw [hd];exact h1⟩,fun hr=>h0 (round_cut (hE 0) hr),?_⟩,?_⟩
 ·obtain ⟨S,h3,h4⟩:=sat_iff.1 (sat_cut (hE k) (fun c hcc=>(choices_ok (run_of hp) c hcc).1) hs)
  refine sat_iff.2 ⟨S,fun c hcc=>h3 c ?_,h4⟩
  rw [hd] at hcc
  exact (ext_choices (by omega) (by omega) (run_of hp) c).1 hcc
 ·obtain ⟨v,hv⟩:=ext_seenR hc hwo h1 (lro_deeds ll) hlo2 hz hxr
  refine ⟨v,?_⟩
  unfold seenOf
  rw [hd,hv,ext_seenL hc hwo h1 (lro_deeds ll) hlo2 hz]
theorem read_all (hp:prog ll=true) (hq:prog mm=true) (hd:deeds mm=deeds ll++[x]) (hk:x.d.k=2) (hpl:0≤x.d.p∧x.d.p < 3) (k:Int):sortK ((orderAll mm k).map fun z=>(z.1.dropLast,z.2))=orderAll ll k:=by
 refine (sortK_unique (asc_orderAll ll k) fun z=>?_).symm
 rw [List.mem_map]
 constructor
 ·intro hz
  obtain ⟨y,hy,rfl⟩:=mem_orderAll.1 hz
  obtain ⟨kn,rfl⟩:∃ kn:Nat,k=kn:=⟨k.toNat,by have:=(holds_parts_of hy).1;simp only [Bool.and_eq_true,decide_eq_true_eq] at this;omega⟩
  obtain ⟨w,hw,v,hv⟩:=read_up hp hq hd hk hpl hy
  exact ⟨_,mem_orderAll.2 ⟨w,hw,rfl⟩,by rw [hv];simp⟩
 ·rintro ⟨z',hz,rfl⟩
  obtain ⟨y,hy,rfl⟩:=mem_orderAll.1 hz
  obtain ⟨kn,rfl⟩:∃ kn:Nat,k=kn:=⟨k.toNat,by have:=(holds_parts_of hy).1;simp only [Bool.and_eq_true,decide_eq_true_eq] at this;omega⟩
  obtain ⟨w,hw,v,hv⟩:=read_down hp hq hd hk hy
  rw [hv]
  exact mem_orderAll.2 ⟨w,hw,by simp⟩
theorem read_some (hq:prog mm=true) (hp:prog ll=true) (hd:deeds mm=deeds ll++[x]) (hk:x.d.k=2) {k:Int}:∀ z∈orderAll mm k,0 < z.1.length:=fun z hz=>by
 obtain ⟨y,hy,rfl⟩:=mem_orderAll.1 hz
 obtain ⟨kn,rfl⟩:∃ kn:Nat,k=kn:=⟨k.toNat,by have:=(holds_parts_of hy).1;simp only [Bool.and_eq_true,decide_eq_true_eq] at this;omega⟩
 obtain ⟨w,hw,v,hv⟩:=read_down hp hq hd hk hy
 rw [hv];simp
end
theorem deT_snoc (t:Nat) (d:D) (hd:d.k≠9):∀ (l:List D) (i:Nat) (lr:Int) (n:Nat),∃ x:De,x.d=d∧deT t i lr n (l++[d])=deT t i lr n l++[x]
 | [],i,lr,n=>by
  refine ⟨⟨t,i,false,d,lrOf lr n d⟩,rfl,?_⟩
  have:(d.k==9)=false:=by simpa using hd
  simp [deT,deD,this]
 | e::l,i,lr,n=>by
  obtain ⟨x,h1,h2⟩:=deT_snoc t d hd l (i+1) (lrOf lr n e) (n+(deD t i lr n e).length)
  exact ⟨x,h1,by rw [List.cons_append,deT,h2,deT,List.append_assoc]⟩
end M
end Go.Proofs.YtjjkicffhpcngaaGreat
