/- What an order allows, plainly: who is among it. No condition. And what goes with it: OaM, OmMath, OaI, HsCopy. -/
import Derived.Test.YtjjkicffhpcngaaGreatBWbb
import Derived.Test.YtjjkicffhpcngaaGreatBWbi
namespace Go.Proofs.YtjjkicffhpcngaaGreat
namespace M
theorem asc_orderAll (ll:List (List D)) (kind:Int):Asc (orderAll ll kind):=by
 unfold orderAll
 split
 ·exact asc_sortK _
 ·exact List.Pairwise.nil
theorem holds_parts_of {ll:List (List D)} {l:List Int} {rows:List (List Int)} {kind:Int} (h:orderHolds ll l rows kind=true):(decide (1≤kind)&&decide (kind≤3))=true∧execOk ll l rows=true:=by
 unfold orderHolds at h
 obtain ⟨h1,h2⟩:=Bool.and_eq_true_iff.1 h
 exact ⟨h1,(Bool.and_eq_true_iff.1 h2).1⟩
theorem exec_prog {ll:List (List D)} {l:List Int} {rows:List (List Int)} (h:execOk ll l rows=true):prog ll=true:=by
 simp only [execOk,Bool.and_eq_true] at h;exact h.1
theorem mem_ways {ll:List (List D)} {x:Wy} (h:execOk ll x.1 x.2=true):x∈ways (deeds ll):=by
 rw [ways_eq (cop_deeds ll)]
 simp only [execOk,Bool.and_eq_true] at h
 exact mem_all.2 h.2
theorem mem_orderAll {ll:List (List D)} {kind:Int} {k:Key}:k∈orderAll ll kind↔∃ x:Wy,orderHolds ll x.1 x.2 kind=true∧seenOf ll x=k:=by
 unfold orderAll
 cases hg:((decide (1≤kind)&&decide (kind≤3))&&prog ll)
 ·simp only [Bool.false_eq_true,if_false,List.not_mem_nil,false_iff]
  rintro ⟨x,hx,_⟩
  have h:=holds_parts_of hx
  rw [h.1,exec_prog h.2] at hg
  cases hg
 ·rw [if_pos rfl,mem_sortK,orderList,List.mem_map]
  constructor
  ·rintro ⟨x,hx,e⟩
   exact ⟨x,(List.mem_filter.1 hx).2,e⟩
  ·rintro ⟨x,hx,e⟩
   exact ⟨x,List.mem_filter.2 ⟨mem_ways (holds_parts_of hx).2,hx⟩,e⟩
theorem orderAll_eq {ll mm:List (List D)} {k j:Int} (h:∀ x,x∈orderAll ll k↔x∈orderAll mm j):orderAll ll k=orderAll mm j:=Asc.unique (asc_orderAll _ _) (asc_orderAll _ _) h
theorem putIn_len (l:List Ky) (k:Ky):(putIn l k).length≤l.length+1:=by
 induction l with
 | nil=>simp [putIn]
 | cons x l ih =>
  rw [putIn]
  split
  ·simp
  ·split<;>simp<;>omega
theorem fold_len:∀ (l a:List Ky),(l.foldl putIn a).length≤a.length+l.length
 | [],a=>by simp
 | x::l,a=>by
  have h1:=fold_len l (putIn a x)
  have h2:=putIn_len a x
  simp only [List.foldl_cons,List.length_cons]
  omega
theorem orderAll_len (ll:List (List D)) (kind:Int):(orderAll ll kind).length≤117649:=by
 unfold orderAll
 cases hp:prog ll
 ·rw [Bool.and_false];simp
 ·split
  ·have h1:=fold_len (orderList ll kind) []
   have h2:(orderList ll kind).length≤(ways (deeds ll)).length:=by
    rw [orderList,List.length_map];exact List.length_filter_le _ _
   have h3:=ways_le2 hp
   have h4:(sortK (orderList ll kind)).length=((orderList ll kind).foldl putIn []).length:=rfl
   simp only [List.length_nil] at h1
   omega
  ·simp
theorem orderAll_le (ll:List (List D)) (kind:Int):KLe (orderAll ll kind) 1048576:=fun k hk=>by
 obtain ⟨x,hx,rfl⟩:=mem_orderAll.1 hk
 have h:=(holds_parts_of hx).2
 have hW:=wok_of h
 have hb:=prog_le hW.prog
 have hdl:=deeds_len hb.1 hb.2
 have h1:=seenR_len (deeds ll) x.1
 have h3:=hW.three.out
 exact ⟨by simp only [seenOf];omega,by simp only [seenOf,seenL,List.length_map];omega⟩
end M
end Go.Proofs.YtjjkicffhpcngaaGreat
namespace Go.Proofs.YtjjkicffhpcngaaGreat
namespace M
theorem holds_iff {ll:List (List D)} {l:List Int} {rows:List (List Int)} {k:Nat}:orderHolds ll l rows k=true↔(1≤k∧k≤3)∧execOk ll l rows=true∧¬ Round (linksOf (netOf (deeds ll) l rows 0) (deeds ll).length)∧Sat (linksOf (netOf (deeds ll) l rows k) (deeds ll).length) (choices (deeds ll)):=by
 unfold orderHolds
 simp only [Bool.and_eq_true,decide_eq_true_eq,Int.toNat_natCast]
 constructor
 ·rintro ⟨hk,he,h0,hw⟩
  rw [waits_ok _ _ _ fun c hc=>(choices_ok (run_of (exec_prog he)) c hc).1] at hw
  exact ⟨by omega,he,(kahn_ok _ _).1 h0,hw⟩
 ·rintro ⟨hk,he,h0,hw⟩
  rw [waits_ok _ _ _ fun c hc=>(choices_ok (run_of (exec_prog he)) c hc).1]
  exact ⟨by omega,he,(kahn_ok _ _).2 h0,hw⟩
theorem exec_wo {ll:List (List D)} {l:List Int} {rows:List (List Int)}:execOk ll l rows=true↔prog ll=true∧WO (deeds ll) l rows:=by
 rw [execOk,Bool.and_eq_true,wo_iff]
theorem mem_net {ll:List (List D)} {l:List Int} {rows:List (List Int)} {k:Nat} {a b:Nat}:(a,b)∈linksOf (netOf (deeds ll) l rows k) (deeds ll).length↔∃ x y,(deeds ll)[a]?=some x∧(deeds ll)[b]?=some y∧must (deeds ll) l rows k a b x y=true:=by
 rw [mem_links]
 constructor
 ·rintro ⟨ha,hb,h⟩
  rw [netOf,mustAt,List.getElem?_eq_getElem ha,List.getElem?_eq_getElem hb] at h
  exact ⟨_,_,List.getElem?_eq_getElem ha,List.getElem?_eq_getElem hb,h⟩
 ·rintro ⟨x,y,hx,hy,h⟩
  refine ⟨lt_of_get hx,lt_of_get hy,?_⟩
  rw [netOf,mustAt,hx,hy]
  exact h
theorem sat_iff {L:List Lk}:∀ {cs:List Ch},Sat L cs↔∃ S:List Lk,(∀ c∈cs,c.1∈S∨c.2∈S)∧¬ Round (S++L):=by
 intro cs
 constructor
 ·rintro ⟨ls,hp,h⟩
  refine ⟨ls,?_,h⟩
  clear h
  induction hp with
  | nil=>intro c hc;cases hc
  | cons hl _ ih =>
   intro c hc
   rcases List.mem_cons.1 hc with rfl | hc
   ·exact hl.imp (fun e=>by rw [← e];exact List.mem_cons_self ..) (fun e=>by rw [← e];exact List.mem_cons_self ..)
   ·exact (ih c hc).imp (List.mem_cons_of_mem _) (List.mem_cons_of_mem _)
 ·rintro ⟨S,hS,h⟩
  have:∃ ls,Picks cs ls∧∀ l∈ls,l∈S:=by
   clear h
   induction cs with
   | nil=>exact ⟨[],.nil,fun l hl=>by cases hl⟩
   | cons c cs ih =>
    obtain ⟨ls,h1,h2⟩:=ih fun c hc=>hS c (List.mem_cons_of_mem _ hc)
    rcases hS c (List.mem_cons_self ..) with h3 | h3
    ·exact ⟨c.1::ls,.cons (.inl rfl) h1,fun l hl=>by
      rcases List.mem_cons.1 hl with rfl | hl
      ·exact h3
      ·exact h2 l hl⟩
    ·exact ⟨c.2::ls,.cons (.inr rfl) h1,fun l hl=>by
      rcases List.mem_cons.1 hl with rfl | hl
      ·exact h3
      ·exact h2 l hl⟩
  obtain ⟨ls,h1,h2⟩:=this
  exact ⟨ls,h1,fun hr=>h (hr.sub fun l hl=>.one (by
   rcases List.mem_append.1 hl with hl | hl
   ·exact List.mem_append.2 (.inl (h2 l hl))
   ·exact List.mem_append.2 (.inr hl)))⟩
theorem leads_map {L L':List Lk} {f:Nat→Nat} (h:∀ l∈L,Leads L' (f l.1) (f l.2)) {a b:Nat} (hl:Leads L a b):Leads L' (f a) (f b):=by
 induction hl with
 | one h1=>exact h _ h1
 | more _ h2 ih=>exact ih.trans (h _ h2)
theorem round_map {L L':List Lk} {f:Nat→Nat} (h:∀ l∈L,Leads L' (f l.1) (f l.2)) (hr:Round L):Round L':=by
 obtain ⟨a,ha⟩:=hr
 exact ⟨f a,leads_map h ha⟩
theorem sat_map {L L':List Lk} {f:Nat→Nat} {cs cs':List Ch} (h:∀ l∈L,Leads L' (f l.1) (f l.2)) (hc:∀ c∈cs,((f c.1.1,f c.1.2),(f c.2.1,f c.2.2))∈cs') (hs:Sat L' cs'):Sat L cs:=by
 obtain ⟨S',h1,h2⟩:=sat_iff.1 hs
 refine sat_iff.2 ⟨(cs.flatMap fun c=>[c.1,c.2]).filter fun l=>decide ((f l.1,f l.2)∈S'),fun c hcc=>?_,fun hr=>h2 (round_map (f:=f) (fun l hl=>?_) hr)⟩
 ·rcases h1 _ (hc c hcc) with h3 | h3
  ·left
   exact List.mem_filter.2 ⟨List.mem_flatMap.2 ⟨c,hcc,by simp⟩,by simpa using h3⟩
  ·right
   exact List.mem_filter.2 ⟨List.mem_flatMap.2 ⟨c,hcc,by simp⟩,by simpa using h3⟩
 ·rcases List.mem_append.1 hl with hl | hl
  ·have:=(List.mem_filter.1 hl).2
   exact .one (List.mem_append.2 (.inl (by simpa using this)))
  ·exact (h l hl).sub fun x hx=>List.mem_append.2 (.inr hx)
theorem mem_deT (t:Nat):∀ (l:List D) (i:Nat) (lr:Int) (n:Nat) (x:De),x∈deT t i lr n l→x.d∈l∧x.t=t
 | [],_,_,_,x,h=>by simp [deT] at h
 | d::l,i,lr,n,x,h=>by
  rw [deT] at h
  rcases List.mem_append.1 h with h | h
  ·have h1:=deD_k t i lr n d x h
   refine ⟨by rw [h1];exact List.mem_cons_self ..,?_⟩
   unfold deD at h
   split at h
   ·rcases List.mem_cons.1 h with rfl | h
    ·rfl
    ·rw [List.mem_singleton.1 h]
   ·rw [List.mem_singleton.1 h]
  ·obtain ⟨h1,h2⟩:=mem_deT t l _ _ _ x h
   exact ⟨List.mem_cons_of_mem _ h1,h2⟩
theorem mem_deF:∀ (ll:List (List D)) (t n:Nat) (x:De),x∈deF t n ll→t≤x.t∧x.t < t+ll.length∧∃ l,ll[x.t - t]?=some l∧x.d∈l
 | [],_,_,x,h=>by simp [deF] at h
 | l::ll,t,n,x,h=>by
  rw [deF] at h
  rcases List.mem_append.1 h with h | h
  ·obtain ⟨h1,h2⟩:=mem_deT t l _ _ _ x h
   exact ⟨by omega,by simp;omega,l,by rw [h2];simp,h1⟩
  ·obtain ⟨h1,h2,l',h3,h4⟩:=mem_deF ll _ _ x h
   exact ⟨by omega,by simp;omega,l',by rw [show x.t - t=(x.t - (t+1))+1 by omega];simpa using h3,h4⟩
theorem no_choices {ds:List De} (h:∀ x∈ds,x.d.k≠9):choices ds=[]:=by
 unfold choices
 have:(List.range ds.length).filter (waitsAt ds)=[]:=by
  rw [List.filter_eq_nil_iff]
  intro n hn hw
  unfold waitsAt at hw
  rw [List.getElem?_eq_getElem (List.mem_range.1 hn)] at hw
  simp only [Bool.and_eq_true,beq_iff_eq] at hw
  exact h _ (List.getElem_mem _) hw.1
 rw [this];rfl
theorem own_iff {a b:Nat} {x y:De}:own a b x y=true↔a < b∧x.t=y.t:=by simp [own]
theorem tell_uses {ll:List (List D)} {l:List Int} {rows:List (List Int)} (h:WO (deeds ll) l rows) {a b:Nat} {x y:De} (hx:(deeds ll)[a]?=some x) (hy:(deeds ll)[b]?=some y) (ht:(read l a b||over l rows a b x y)=true):a≠b∧x.uses=true∧y.uses=true∧x.d.p=y.d.p:=by
 rw [Bool.or_eq_true] at ht
 rcases ht with ht | ht
 ·simp only [read,beq_iff_eq] at ht
  have hf:=h.fro b y hy
  cases hr:y.reads
  ·rw [hr,if_neg (by simp)] at hf;omega
  ·rw [if_pos hr] at hf
   rcases hf with e | ⟨c,z,e,hz,hto⟩
   ·omega
   ·have:c=a:=by omega
    subst this
    rw [hx] at hz
    obtain rfl:=Option.some.inj hz
    simp only [De.to,Bool.and_eq_true,beq_iff_eq] at hto
    refine ⟨fun e=>?_,by show (M.reads _||M.writes _)=true;rw [hto.1,Bool.or_true],by show (M.reads _||M.writes _)=true;rw [show M.reads y.d.k=true from hr,Bool.true_or],hto.2⟩
    subst e
    rw [hx] at hy
    obtain rfl:=Option.some.inj hy
    have h9:M.reads x.d.k=true:=hr
    rw [wr_rd hto.1] at h9;cases h9
 ·simp only [over,Bool.and_eq_true,decide_eq_true_eq,onePl,beq_iff_eq] at ht
  obtain ⟨⟨hu,hu2,hp⟩,hw,hlt⟩:=ht
  refine ⟨fun e=>?_,hu,hu2,hp⟩
  subst e
  rw [hx] at hy
  obtain rfl:=Option.some.inj hy
  rw [wrote,wr_rd hw] at hlt
  simp at hlt
end M
end Go.Proofs.YtjjkicffhpcngaaGreat
namespace Go.Proofs.YtjjkicffhpcngaaGreat
open Go.RowKit
structure Tld (w w':World) (v:Value) (ks:List Key):Prop where
 ex:∃ a g c,v=.slice a ks.length c∧KS w' a g 0 ks
 bel:Below w.heap.size w w'
theorem iorderAllK (a:Option Addr) (b o c:Nat) (ll:List (List M.D)) (kind:Int) (w:World) (hl:ll.length≤1048576) (hls:∀ t∈ll,t.length≤1048576) (h:DoSS w a b o ll) :
  Calls Tryz.prog 17 #[.agg #[.slice a ll.length c],.int .i64 kind] w fun e w'=>∃ v,e=.returned v∧Tld w w' v (M.orderAll ll kind):=by
 refine (iorderAll_any a b o c ll kind w hl hls h).mono fun e w' ⟨v,he,hA⟩=>⟨v,he,?_,hA.bel⟩
 obtain ⟨a',g,c',uu,hv,hk,hn,_,_⟩:=hA.ex
 have:=hn.ks
 rw [hk] at this
 exact ⟨a',g,c',by rw [hv,← hk,kys_len],this⟩
end Go.Proofs.YtjjkicffhpcngaaGreat
namespace Go.Proofs.YtjjkicffhpcngaaGreat
open Go.RowKit
structure S1 (w:World) (b:Nat) (x:Value):Prop where
 c:w.cell? ⟨b,0,none⟩=some x
 fz:w.frozen? ⟨b,0,none⟩=false
theorem S1.lt {w:World} {b:Nat} {x:Value} (h:S1 w b x):b < w.heap.size:=World.block_lt_of_cell? _ _ h.c
theorem S1.bl {w w':World} {b:Nat} {x:Value} (h:S1 w b x) (hb:Below w.heap.size w w'):S1 w' b x :=
 ⟨(hb.cell (p:=⟨b,0,none⟩) h.lt).trans h.c,(hb.frozen (p:=⟨b,0,none⟩) h.lt).trans h.fz⟩
theorem S1.grown {w w':World} {b:Nat} {x:Value} {row:Option Nat} (h:S1 w b x) (hg:w.grownBy w' row) (hr:row≠some b):S1 w' b x:=by
 have hne:some b≠row:=fun e=>hr e.symm
 exact ⟨hg.cell h.c hne,(World.frozen?_of_block (w:=w) (hg.block b h.lt hne)).trans h.fz⟩
theorem S1.set {w:World} {b:Nat} {x:Value} (h:S1 w b x) (u:Value):S1 (w.setCell ⟨b,0,none⟩ u) b u :=
 ⟨World.cell?_setCell_same _ _ _ h.c,by rw [World.frozen?_setCell];exact h.fz⟩
structure NBk (w:World) (B:Nat) (v:Value) (rows:List (List Bool)) (vs:List Value) (k:Nat):Prop where
 nb:NB w B v rows vs
 lenk:rows.length=k
theorem NBk.outerk {w:World} {B:Nat} {v:Value} {rows:List (List Bool)} {vs:List Value} {k:Nat} (h:NBk w B v rows vs k):w.ownsRow B 124 1 v k vs:=by have:=h.nb.outer;rwa [h.lenk] at this
theorem own_sl {w:World} {B:Nat} {e:TypeId} {size:Nat} {v:Value} {n:Nat} {xs:List Value} (h:w.ownsRow B e size v n xs):∃ a c,v=.slice a n c:=by
 rcases h.2 with ⟨hv,h0⟩ | ⟨g,cap,cur,hv,_⟩
 ·exact ⟨none,0,by rw [hv,h0]⟩
 ·exact ⟨_,cap,hv⟩
theorem own_empty2 {X:World} {base g:Nat} {e:TypeId} (h:X.heap[g]?=some (.cells #[] e (0,0))) (hb:base≤g):X.ownsRow base e 1 (.slice (some ⟨g,0,none⟩) 0 0) 0 [] :=
 ⟨by simp,.inr ⟨g,0,#[],rfl,hb,h,Nat.le_refl _,Nat.zero_le _,by simp,by simp⟩⟩
set_option maxHeartbeats 4000000 in
set_option maxRecDepth 100000 in
set_option linter.unusedSimpArgs false in
theorem copy_any (X G n c:Nat) (va:Option Addr) (rb rc:Nat→Nat) (A:Nat→Nat→Bool) (w:World) (hn:n≤28) (h:NtAt w X G n c va rb rc A) :
  Calls Tryz.prog 131 #[.pointer (some ⟨X,0,none⟩)] w fun e w'=>∃ X',e=.returned (.pointer (some ⟨X',0,none⟩))∧(∃ G' c' va' rb' rc',NtO w' w.heap.size X' G' n c' va' rb' rc' A)∧Below w.heap.size w w':=by
 obtain ⟨i0,hi,hz0,hz1,hz2⟩:=info_parts Tryz.infoBool
 obtain ⟨j0,hj,hy0,hy1,hy2⟩:=info_parts Tryz.infoRb
 have lX0:X < w.heap.size:=World.block_lt_of_cell? _ _ h.box
 go_enter Tryz.func131,Tryz.ntmps131
 go_wp2_with fail
 go_loopw [4] (fun s4 wr=>∃ (k:Nat) (v:Value) (vs:List Value),s4=.int .i64 k∧k≤n∧S1 wr w.heap.size v∧NB wr (w.heap.size+1) v (M.rowsB A n k) vs∧Below w.heap.size w wr) (fun s4 _=>n - (intOf s4).toNat)
 case atStart=>exact ⟨0,.slice none 0 0,[],rfl,Nat.zero_le _,⟨by simp,by simp⟩,NB.nil _ _,below1 _ _⟩
 case round =>
  obtain ⟨k,v,vs,rfl,hk,hS,hNB,hbel⟩:=hrel
  have hN:=h.below hbel
  have n0:=hN.box
  by_cases hkn:k < n
  ·obtain ⟨rfl⟩:=h.addr (by omega)
   have hkn':(k:Int) < n:=by omega
   have o0:=hN.outer k hkn
   have hr0:=hN.row k hkn
   have x0:=hS.c
   have xf:=hS.fz
   have lN:w.heap.size < wr.heap.size:=hS.lt
   have lX:X < wr.heap.size:=World.block_lt_of_cell? _ _ n0
   have lG:G < wr.heap.size:=World.block_lt_of_cell? _ _ o0
   have hlen:=M.rowsB_len A n k
   have hout:=hNB.outer
   rw [hlen] at hout
   obtain ⟨vo,co,rfl⟩:=own_sl hout
   have HRS:Hid (M.rowsB A n (k+1)=M.rowsB A n k++[(List.range n).map fun b=>A k b]):=M.rowsB_succ A n k
   have hsrc:∀ j u,(bools ((List.range n).map fun b=>A k b))[j]?=some u→wr.cell? ((⟨rb k,0,none⟩:Addr).add j)=some u:=fun j u hj=>by
    have hjn:j < n:=by
     have:=(List.getElem?_eq_some_iff.1 hj).1
     simpa [bools] using this
    rw [Go.WideShapes.add_plain,Nat.zero_add,hr0 j hjn]
    simpa [bools,hjn] using hj
   have lR:rb k < wr.heap.size:=World.block_lt_of_cell? _ _ (hr0 0 (by omega))
   have hone:∀ u∈bools ((List.range n).map fun b=>A k b),u.oneCell'=true:=fun u hu=>by
    obtain ⟨x,_,rfl⟩:=List.mem_map.1 hu
    rfl
   have hbl:(bools ((List.range n).map fun b=>A k b)).length=n * 1:=by simp [bools]
   generalize (List.range n).map (fun b=>A k b)=row at *
   have hnx:w.heap.size≠X:=by omega
   have hpn:0 < n:=by omega
   have CB:∀ w',Below w.heap.size w w'→w'.cell? ⟨X,0,none⟩=some (.slice (some ⟨G,0,none⟩) n c):=fun w' hw=>(hw.cell (p:=⟨X,0,none⟩) lX0).trans h.box
   have CG:∀ w',Below w.heap.size w w'→w'.cell? ⟨G,k,none⟩=some (.slice (some ⟨rb k,0,none⟩) n (rc k)):=fun w' hw=>(hw.cell (p:=⟨G,k,none⟩) (World.block_lt_of_cell? _ _ (h.outer k hkn))).trans (h.outer k hkn)
   have bE:Below wr.heap.size wr (wr.drew.alloc (.cells #[] 4)):=(Below.refl wr.heap.size wr).drew.alloc (Nat.le_refl _) _
   have SA:Below w.heap.size w (wr.drew.alloc (.cells #[] 4)):=hbel.trans (bE.mono hbel.size)
   have SXA:=(hS.bl bE).c
   have OA:(wr.drew.alloc (.cells #[] 4)).ownsRow wr.heap.size 4 1 (.slice (some ⟨wr.heap.size,0,none⟩) 0 0) 0 []:=own_empty2 (heap_alloc_new wr.drew _) (Nat.le_refl _)
   have NA:∀ j u,(bools row)[j]?=some u→(wr.drew.alloc (.cells #[] 4)).cell? ((⟨rb k,0,none⟩:Addr).add j)=some u:=fun j u hj=>by
    have h1:=hsrc j u hj
    rw [Go.WideShapes.add_plain] at h1 ⊢
    exact (bE.cell (World.block_lt_of_cell? _ _ h1)).trans h1
   have F4:Hid (∀ (g4 cap4:Nat) (w4:World),w4.ownsRow wr.heap.size 4 1 (.slice (some ⟨g4,0,none⟩) (0+n) cap4) (0+n) ([]++bools row)→(wr.drew.alloc (.cells #[] 4)).grownBy w4 (Value.slice (some ⟨wr.heap.size,0,none⟩) 0 0).ownBlock→Below wr.heap.size wr w4∧S1 w4 w.heap.size (.slice vo k co)∧NBk w4 (w.heap.size+1) (.slice vo k co) (M.rowsB A n k) vs k∧w4.ownsRow wr.heap.size 4 1 (.slice (some ⟨g4,0,none⟩) n cap4) row.length (bools row)):=by
    intro g4 cap4 w4 ho hg
    have b4:Below wr.heap.size wr w4:=below_grown bE hg (fun j hj=>by have:wr.heap.size=j:=Option.some.inj hj;omega) bE.size
    have hrl:row.length=n:=by simpa [bools] using hbl
    exact ⟨b4,hS.bl b4,⟨hNB.below b4,hlen⟩,by rw [hrl];simpa using ho⟩
   have F5:Hid (∀ (g4 cap4:Nat) (w4:World),Below wr.heap.size wr w4→S1 w4 w.heap.size (.slice vo k co)→NBk w4 (w.heap.size+1) (.slice vo k co) (M.rowsB A n k) vs k→w4.ownsRow wr.heap.size 4 1 (.slice (some ⟨g4,0,none⟩) n cap4) row.length (bools row)→∀ (g5 cap5:Nat) (w5:World),w5.ownsRow (w.heap.size+1) 124 1 (.slice (some ⟨g5,0,none⟩) (k+1) cap5) (k+1) (vs++[.slice (some ⟨g4,0,none⟩) n cap4])→(w4.alloc (.cells #[.slice (some ⟨g4,0,none⟩) n cap4] 124)).grownBy w5 (Value.slice vo k co).ownBlock→Below w.heap.size w w5∧S1 w5 w.heap.size (.slice vo k co)∧NB w5 (w.heap.size+1) (.slice (some ⟨g5,0,none⟩) (k+1) cap5) (M.rowsB A n k++[row]) (vs++[.slice (some ⟨g4,0,none⟩) n cap4])):=by
    intro g4 cap4 w4 b4 hS4 hNB4 hx4 g5 cap5 w5 ho hg
    have hal:=below1 w4 (.cells #[.slice (some ⟨g4,0,none⟩) n cap4] 124)
    have hge:=own_ge hNB.outer
    have b4a:=b4.trans (hal.mono b4.size)
    have bwa:=hbel.trans (b4a.mono hbel.size)
    refine ⟨below_grown bwa hg (fun j hj=>by have:=hge j hj;omega) bwa.size,(hS4.bl hal).grown hg (fun e=>by have:=hge _ e;omega),(hNB4.nb.below hal).snoc (own_mono2 (ownsRow_below hx4 hal) (by omega)) (fun i hi j hj e=>?_) (by rw [hlen];exact ho) hg⟩
    have h1:=((hNB.inner i (by have:=hNB.len;omega) hi).lt j hj).2
    have h2:=own_ge hx4 j e
    omega
   go_wp2_with fail
   refine wp_region_held_drew (S:=fun w'=>Below w.heap.size w w') (by kernel_rfl) hbel.drew (fun hH=>?_)
   refine takeD 0 (some 16) (.pointer (some ⟨w.heap.size,0,none⟩)) hH rfl rfl (by kernel_rfl) (by kernel_rfl) (by kernel_rfl) (fun _ _ _ h=>h) (Or.inl ⟨by rfl,by intro w' hSw;go_simp⟩) ?_
   simp only [Act.put,List.setIfInBounds_toArray,List.set_cons_zero,List.set_cons_succ]
   refine takeD 1 (some 17) (.pointer (some ⟨w.heap.size,0,none⟩)) hH rfl rfl (by kernel_rfl) (by kernel_rfl) (by kernel_rfl) (fun _ _ _ h=>h) (Or.inl ⟨by rfl,by intro w' hSw;go_simp⟩) ?_
   simp only [Act.put,List.setIfInBounds_toArray,List.set_cons_zero,List.set_cons_succ]
   refine takeD 2 (some 18) (.pointer (some ⟨w.heap.size,0,none⟩)) hH rfl rfl (by kernel_rfl) (by kernel_rfl) (by kernel_rfl) (fun _ _ _ h=>h) (Or.inl ⟨by rfl,by intro w' hSw;go_simp⟩) ?_
   simp only [Act.put,List.setIfInBounds_toArray,List.set_cons_zero,List.set_cons_succ]
   refine takeD 3 (some 19) (.pointer (some ⟨w.heap.size,0,none⟩)) hH rfl rfl (by kernel_rfl) (by kernel_rfl) (by kernel_rfl) (fun _ _ _ h=>h) (Or.inl ⟨by rfl,by intro w' hSw;go_simp⟩) ?_
   simp only [Act.put,List.setIfInBounds_toArray,List.set_cons_zero,List.set_cons_succ]
   refine takeD 6 (some 22) (.pointer (some ⟨X,0,none⟩)) hH rfl rfl (by kernel_rfl) (by kernel_rfl) (by kernel_rfl) (fun _ _ _ h=>h) (Or.inl ⟨by rfl,by intro w' hSw;go_simp⟩) ?_
   simp only [Act.put,List.setIfInBounds_toArray,List.set_cons_zero,List.set_cons_succ]
   refine takeD 7 (some 23) (.pointer (some ⟨X,0,none⟩)) hH rfl rfl (by kernel_rfl) (by kernel_rfl) (by kernel_rfl) (fun _ _ _ h=>h) (Or.inl ⟨by rfl,by intro w' hSw;go_simp⟩) ?_
   simp only [Act.put,List.setIfInBounds_toArray,List.set_cons_zero,List.set_cons_succ]
   refine takeD 8 (some 24) (.pointer (some ⟨X,0,none⟩)) hH rfl rfl (by kernel_rfl) (by kernel_rfl) (by kernel_rfl) (fun _ _ _ h=>h) (Or.inl ⟨by rfl,by intro w' hSw;go_simp⟩) ?_
   simp only [Act.put,List.setIfInBounds_toArray,List.set_cons_zero,List.set_cons_succ]
   refine takeD 9 (some 25) (.slice (some ⟨G,0,none⟩) n c) hH rfl rfl (by kernel_rfl) (by kernel_rfl) (by kernel_rfl) (fun _ _ _ h=>h) (Or.inl ⟨by rfl,by intro w' hSw;have hc:=CB w' hSw;go_simp⟩) ?_
   simp only [Act.put,List.setIfInBounds_toArray,List.set_cons_zero,List.set_cons_succ]
   refine takeD 10 (some 26) (.int .i64 k) hH rfl rfl (by kernel_rfl) (by kernel_rfl) (by kernel_rfl) (fun _ _ _ h=>h) (Or.inl ⟨by rfl,by intro w' hSw;go_simp⟩) ?_
   simp only [Act.put,List.setIfInBounds_toArray,List.set_cons_zero,List.set_cons_succ]
   refine takeD 11 (some 27) (.pointer (some ⟨G,k,none⟩)) hH rfl rfl (by kernel_rfl) (by kernel_rfl) (by kernel_rfl) (fun _ _ _ h=>h) (Or.inl ⟨by rfl,by intro w' hSw;go_simp⟩) ?_
   simp only [Act.put,List.setIfInBounds_toArray,List.set_cons_zero,List.set_cons_succ]
   refine takeD 12 (some 28) (.slice (some ⟨rb k,0,none⟩) n (rc k)) hH rfl rfl (by kernel_rfl) (by kernel_rfl) (by kernel_rfl) (fun _ _ _ h=>h) (Or.inl ⟨by rfl,by intro w' hSw;have hc:=CG w' hSw;go_simp⟩) ?_
   simp only [Act.put,List.setIfInBounds_toArray,List.set_cons_zero,List.set_cons_succ]
   refine wpAnyH_ready (rs:=[4,5]) (by kernel_rfl) (by simp) ?_
   refine AllReadyH.cons rfl (fun K' hK=>?_) (AllReadyH.cons rfl (fun K' hK=>?_) AllReadyH.nil)
   ·have xx:=x0
    rw [if_pos (by rfl)]
    go_simp
    refine hK.out _ _ hH (fun _=>?_)
    clear hK K' xx
    refine wpAnyH_ready (rs:=[5]) (by kernel_rfl) (by simp) ?_
    refine AllReadyH.cons rfl (fun K' hK=>?_) AllReadyH.nil
    rw [if_pos (by rfl)]
    go_simp
    refine hK.out _ _ SA (fun _=>?_)
    clear hK K'
    refine wpAnyH_ready (rs:=[13]) (by kernel_rfl) (by simp) ?_
    refine AllReadyH.cons rfl (fun K' hK=>?_) AllReadyH.nil
    refine step_append_lies _ (by rfl) (.tmp 21) (.tmp 28) 124 (by rfl) wr.heap.size 4 i0 _ 1 1 Tryz.underlying124 hi hz0 hz1 hz2 rfl (by decide) (.slice (some ⟨wr.heap.size,0,none⟩) 0 0) 0 [] (by rfl) OA ⟨rb k,0,none⟩ n (rc k) (bools row) (by rfl) hbl NA hone hpn (by unfold maxLen;omega) (by omega) (by simp) (wr.heap.size+1) (by simp) ?_
    intro g4 cap4 w4 hown4 hg4 hat4 hlt4
    obtain ⟨b4,hS4,hNB4,hx4⟩:=F4.out g4 cap4 w4 hown4 hg4
    simp only [Nat.zero_add,Act.put,List.setIfInBounds_toArray,List.set_cons_zero,List.set_cons_succ]
    refine hK.out _ _ (hbel.trans (b4.mono hbel.size)) (fun hH4=>?_)
    clear hK K'
    have hS4a:=hS4.bl (below1 w4 (.cells #[.slice (some ⟨g4,0,none⟩) n cap4] 124))
    have S4a:Below w.heap.size w (w4.alloc (.cells #[.slice (some ⟨g4,0,none⟩) n cap4] 124)):=hH4.alloc hH4.size _
    refine wpAnyH_ready (rs:=[14]) (by kernel_rfl) (by simp) ?_
    refine AllReadyH.cons rfl (fun K' hK=>?_) AllReadyH.nil
    rw [if_pos (by rfl)]
    go_simp
    refine hK.out _ _ S4a (fun _=>?_)
    clear hK K'
    refine wpAnyH_ready (rs:=[15]) (by kernel_rfl) (by simp) ?_
    refine AllReadyH.cons rfl (fun K' hK=>?_) AllReadyH.nil
    refine step_append_lies _ (by rfl) (.tmp 20) (.tmp 30) 159 (by rfl) (w.heap.size+1) 124 j0 _ 1 24 Tryz.underlying159 hj hy0 hy1 hy2 rfl (by decide) (.slice vo k co) k vs (by rfl) ((hNB4.outerk).alloc _) ⟨w4.heap.size,0,none⟩ 1 1 [.slice (some ⟨g4,0,none⟩) n cap4] (by rfl) (by rfl) (World.news_of_block (cs:=#[.slice (some ⟨g4,0,none⟩) n cap4]) (t:=124) (fr:=(0,0)) (heap_alloc_new w4 _)) (by simp [Value.oneCell']) (by omega) (by unfold maxLen;omega) (by omega) (by have:=b4.size;simp;omega) (w4.heap.size+1) (by simp) ?_
    intro g5 cap5 w5 hown5 hg5 hat5 hlt5
    obtain ⟨b5,hS5,hNB5⟩:=F5.out g4 cap4 w4 b4 hS4 hNB4 hx4 g5 cap5 w5 hown5 hg5
    simp only [Act.put,List.setIfInBounds_toArray,List.set_cons_zero,List.set_cons_succ]
    refine hK.out _ _ b5 (fun hH5=>?_)
    clear hK K'
    refine takeD 16 (some 32) (.pointer (some ⟨w.heap.size,0,none⟩)) hH5 rfl rfl (by kernel_rfl) (by kernel_rfl) (by kernel_rfl) (fun _ _ _ h=>h) (Or.inl ⟨by rfl,by intro w' hSw;go_simp⟩) ?_
    simp only [Act.put,List.setIfInBounds_toArray,List.set_cons_zero,List.set_cons_succ]
    refine takeD 17 (some 33) (.pointer (some ⟨w.heap.size,0,none⟩)) hH5 rfl rfl (by kernel_rfl) (by kernel_rfl) (by kernel_rfl) (fun _ _ _ h=>h) (Or.inl ⟨by rfl,by intro w' hSw;go_simp⟩) ?_
    simp only [Act.put,List.setIfInBounds_toArray,List.set_cons_zero,List.set_cons_succ]
    refine wpAnyH_ready (rs:=[18]) (by kernel_rfl) (by simp) ?_
    refine AllReadyH.cons rfl (fun K' hK=>?_) AllReadyH.nil
    have xc:=hS5.c
    have xz:=hS5.fz
    rw [if_pos (by rfl)]
    go_simp
    refine hK.out _ _ (b5.setCell (Nat.le_refl _) _) (fun _=>?_)
    clear hK K'
    refine wpAnyH_done (by kernel_rfl) ?_ _
    clear xc xz
    go_wp2_with fail
    exact ⟨⟨k+1,_,_,by go_num,by omega,hS5.set _,by rw [HRS.out];exact hNB5.far (by omega) _,b5.setCell (Nat.le_refl _) _⟩,by simp [intOf];omega⟩
   ·rw [if_pos (by rfl)]
    go_simp
    refine hK.out _ _ SA (fun _=>?_)
    clear hK K'
    refine wpAnyH_ready (rs:=[4,13]) (by kernel_rfl) (by simp) ?_
    refine AllReadyH.cons rfl (fun K' hK=>?_) (AllReadyH.cons rfl (fun K' hK=>?_) AllReadyH.nil)
    ·have xx:=SXA
     rw [if_pos (by rfl)]
     go_simp
     refine hK.out _ _ SA (fun _=>?_)
     clear hK K' xx
     refine wpAnyH_ready (rs:=[13]) (by kernel_rfl) (by simp) ?_
     refine AllReadyH.cons rfl (fun K' hK=>?_) AllReadyH.nil
     refine step_append_lies _ (by rfl) (.tmp 21) (.tmp 28) 124 (by rfl) wr.heap.size 4 i0 _ 1 1 Tryz.underlying124 hi hz0 hz1 hz2 rfl (by decide) (.slice (some ⟨wr.heap.size,0,none⟩) 0 0) 0 [] (by rfl) OA ⟨rb k,0,none⟩ n (rc k) (bools row) (by rfl) hbl NA hone hpn (by unfold maxLen;omega) (by omega) (by simp) (wr.heap.size+1) (by simp) ?_
     intro g4 cap4 w4 hown4 hg4 hat4 hlt4
     obtain ⟨b4,hS4,hNB4,hx4⟩:=F4.out g4 cap4 w4 hown4 hg4
     simp only [Nat.zero_add,Act.put,List.setIfInBounds_toArray,List.set_cons_zero,List.set_cons_succ]
     refine hK.out _ _ (hbel.trans (b4.mono hbel.size)) (fun hH4=>?_)
     clear hK K'
     have hS4a:=hS4.bl (below1 w4 (.cells #[.slice (some ⟨g4,0,none⟩) n cap4] 124))
     have S4a:Below w.heap.size w (w4.alloc (.cells #[.slice (some ⟨g4,0,none⟩) n cap4] 124)):=hH4.alloc hH4.size _
     refine wpAnyH_ready (rs:=[14]) (by kernel_rfl) (by simp) ?_
     refine AllReadyH.cons rfl (fun K' hK=>?_) AllReadyH.nil
     rw [if_pos (by rfl)]
     go_simp
     refine hK.out _ _ S4a (fun _=>?_)
     clear hK K'
     refine wpAnyH_ready (rs:=[15]) (by kernel_rfl) (by simp) ?_
     refine AllReadyH.cons rfl (fun K' hK=>?_) AllReadyH.nil
     refine step_append_lies _ (by rfl) (.tmp 20) (.tmp 30) 159 (by rfl) (w.heap.size+1) 124 j0 _ 1 24 Tryz.underlying159 hj hy0 hy1 hy2 rfl (by decide) (.slice vo k co) k vs (by rfl) ((hNB4.outerk).alloc _) ⟨w4.heap.size,0,none⟩ 1 1 [.slice (some ⟨g4,0,none⟩) n cap4] (by rfl) (by rfl) (World.news_of_block (cs:=#[.slice (some ⟨g4,0,none⟩) n cap4]) (t:=124) (fr:=(0,0)) (heap_alloc_new w4 _)) (by simp [Value.oneCell']) (by omega) (by unfold maxLen;omega) (by omega) (by have:=b4.size;simp;omega) (w4.heap.size+1) (by simp) ?_
     intro g5 cap5 w5 hown5 hg5 hat5 hlt5
     obtain ⟨b5,hS5,hNB5⟩:=F5.out g4 cap4 w4 b4 hS4 hNB4 hx4 g5 cap5 w5 hown5 hg5
     simp only [Act.put,List.setIfInBounds_toArray,List.set_cons_zero,List.set_cons_succ]
     refine hK.out _ _ b5 (fun hH5=>?_)
     clear hK K'
     refine takeD 16 (some 32) (.pointer (some ⟨w.heap.size,0,none⟩)) hH5 rfl rfl (by kernel_rfl) (by kernel_rfl) (by kernel_rfl) (fun _ _ _ h=>h) (Or.inl ⟨by rfl,by intro w' hSw;go_simp⟩) ?_
     simp only [Act.put,List.setIfInBounds_toArray,List.set_cons_zero,List.set_cons_succ]
     refine takeD 17 (some 33) (.pointer (some ⟨w.heap.size,0,none⟩)) hH5 rfl rfl (by kernel_rfl) (by kernel_rfl) (by kernel_rfl) (fun _ _ _ h=>h) (Or.inl ⟨by rfl,by intro w' hSw;go_simp⟩) ?_
     simp only [Act.put,List.setIfInBounds_toArray,List.set_cons_zero,List.set_cons_succ]
     refine wpAnyH_ready (rs:=[18]) (by kernel_rfl) (by simp) ?_
     refine AllReadyH.cons rfl (fun K' hK=>?_) AllReadyH.nil
     have xc:=hS5.c
     have xz:=hS5.fz
     rw [if_pos (by rfl)]
     go_simp
     refine hK.out _ _ (b5.setCell (Nat.le_refl _) _) (fun _=>?_)
     clear hK K'
     refine wpAnyH_done (by kernel_rfl) ?_ _
     clear xc xz
     go_wp2_with fail
     exact ⟨⟨k+1,_,_,by go_num,by omega,hS5.set _,by rw [HRS.out];exact hNB5.far (by omega) _,b5.setCell (Nat.le_refl _) _⟩,by simp [intOf];omega⟩
    ·refine step_append_lies _ (by rfl) (.tmp 21) (.tmp 28) 124 (by rfl) wr.heap.size 4 i0 _ 1 1 Tryz.underlying124 hi hz0 hz1 hz2 rfl (by decide) (.slice (some ⟨wr.heap.size,0,none⟩) 0 0) 0 [] (by rfl) OA ⟨rb k,0,none⟩ n (rc k) (bools row) (by rfl) hbl NA hone hpn (by unfold maxLen;omega) (by omega) (by simp) (wr.heap.size+1) (by simp) ?_
     intro g4 cap4 w4 hown4 hg4 hat4 hlt4
     obtain ⟨b4,hS4,hNB4,hx4⟩:=F4.out g4 cap4 w4 hown4 hg4
     simp only [Nat.zero_add,Act.put,List.setIfInBounds_toArray,List.set_cons_zero,List.set_cons_succ]
     refine hK.out _ _ (hbel.trans (b4.mono hbel.size)) (fun hH4=>?_)
     clear hK K'
     have hS4a:=hS4.bl (below1 w4 (.cells #[.slice (some ⟨g4,0,none⟩) n cap4] 124))
     have S4a:Below w.heap.size w (w4.alloc (.cells #[.slice (some ⟨g4,0,none⟩) n cap4] 124)):=hH4.alloc hH4.size _
     refine wpAnyH_ready (rs:=[4,14]) (by kernel_rfl) (by simp) ?_
     refine AllReadyH.cons rfl (fun K' hK=>?_) (AllReadyH.cons rfl (fun K' hK=>?_) AllReadyH.nil)
     ·have xx:=hS4.c
      rw [if_pos (by rfl)]
      go_simp
      refine hK.out _ _ hH4 (fun _=>?_)
      clear hK K' xx
      refine wpAnyH_ready (rs:=[14]) (by kernel_rfl) (by simp) ?_
      refine AllReadyH.cons rfl (fun K' hK=>?_) AllReadyH.nil
      rw [if_pos (by rfl)]
      go_simp
      refine hK.out _ _ S4a (fun _=>?_)
      clear hK K'
      refine wpAnyH_ready (rs:=[15]) (by kernel_rfl) (by simp) ?_
      refine AllReadyH.cons rfl (fun K' hK=>?_) AllReadyH.nil
      refine step_append_lies _ (by rfl) (.tmp 20) (.tmp 30) 159 (by rfl) (w.heap.size+1) 124 j0 _ 1 24 Tryz.underlying159 hj hy0 hy1 hy2 rfl (by decide) (.slice vo k co) k vs (by rfl) ((hNB4.outerk).alloc _) ⟨w4.heap.size,0,none⟩ 1 1 [.slice (some ⟨g4,0,none⟩) n cap4] (by rfl) (by rfl) (World.news_of_block (cs:=#[.slice (some ⟨g4,0,none⟩) n cap4]) (t:=124) (fr:=(0,0)) (heap_alloc_new w4 _)) (by simp [Value.oneCell']) (by omega) (by unfold maxLen;omega) (by omega) (by have:=b4.size;simp;omega) (w4.heap.size+1) (by simp) ?_
      intro g5 cap5 w5 hown5 hg5 hat5 hlt5
      obtain ⟨b5,hS5,hNB5⟩:=F5.out g4 cap4 w4 b4 hS4 hNB4 hx4 g5 cap5 w5 hown5 hg5
      simp only [Act.put,List.setIfInBounds_toArray,List.set_cons_zero,List.set_cons_succ]
      refine hK.out _ _ b5 (fun hH5=>?_)
      clear hK K'
      refine takeD 16 (some 32) (.pointer (some ⟨w.heap.size,0,none⟩)) hH5 rfl rfl (by kernel_rfl) (by kernel_rfl) (by kernel_rfl) (fun _ _ _ h=>h) (Or.inl ⟨by rfl,by intro w' hSw;go_simp⟩) ?_
      simp only [Act.put,List.setIfInBounds_toArray,List.set_cons_zero,List.set_cons_succ]
      refine takeD 17 (some 33) (.pointer (some ⟨w.heap.size,0,none⟩)) hH5 rfl rfl (by kernel_rfl) (by kernel_rfl) (by kernel_rfl) (fun _ _ _ h=>h) (Or.inl ⟨by rfl,by intro w' hSw;go_simp⟩) ?_
      simp only [Act.put,List.setIfInBounds_toArray,List.set_cons_zero,List.set_cons_succ]
      refine wpAnyH_ready (rs:=[18]) (by kernel_rfl) (by simp) ?_
      refine AllReadyH.cons rfl (fun K' hK=>?_) AllReadyH.nil
      have xc:=hS5.c
      have xz:=hS5.fz
      rw [if_pos (by rfl)]
      go_simp
      refine hK.out _ _ (b5.setCell (Nat.le_refl _) _) (fun _=>?_)
      clear hK K'
      refine wpAnyH_done (by kernel_rfl) ?_ _
      clear xc xz
      go_wp2_with fail
      exact ⟨⟨k+1,_,_,by go_num,by omega,hS5.set _,by rw [HRS.out];exact hNB5.far (by omega) _,b5.setCell (Nat.le_refl _) _⟩,by simp [intOf];omega⟩
     ·rw [if_pos (by rfl)]
      go_simp
      refine hK.out _ _ S4a (fun _=>?_)
      clear hK K'
      refine wpAnyH_ready (rs:=[4]) (by kernel_rfl) (by simp) ?_
      refine AllReadyH.cons rfl (fun K' hK=>?_) AllReadyH.nil
      have xx:=hS4a.c
      rw [if_pos (by rfl)]
      go_simp
      refine hK.out _ _ S4a (fun _=>?_)
      clear hK K' xx
      refine wpAnyH_ready (rs:=[15]) (by kernel_rfl) (by simp) ?_
      refine AllReadyH.cons rfl (fun K' hK=>?_) AllReadyH.nil
      refine step_append_lies _ (by rfl) (.tmp 20) (.tmp 30) 159 (by rfl) (w.heap.size+1) 124 j0 _ 1 24 Tryz.underlying159 hj hy0 hy1 hy2 rfl (by decide) (.slice vo k co) k vs (by rfl) ((hNB4.outerk).alloc _) ⟨w4.heap.size,0,none⟩ 1 1 [.slice (some ⟨g4,0,none⟩) n cap4] (by rfl) (by rfl) (World.news_of_block (cs:=#[.slice (some ⟨g4,0,none⟩) n cap4]) (t:=124) (fr:=(0,0)) (heap_alloc_new w4 _)) (by simp [Value.oneCell']) (by omega) (by unfold maxLen;omega) (by omega) (by have:=b4.size;simp;omega) (w4.heap.size+1) (by simp) ?_
      intro g5 cap5 w5 hown5 hg5 hat5 hlt5
      obtain ⟨b5,hS5,hNB5⟩:=F5.out g4 cap4 w4 b4 hS4 hNB4 hx4 g5 cap5 w5 hown5 hg5
      simp only [Act.put,List.setIfInBounds_toArray,List.set_cons_zero,List.set_cons_succ]
      refine hK.out _ _ b5 (fun hH5=>?_)
      clear hK K'
      refine takeD 16 (some 32) (.pointer (some ⟨w.heap.size,0,none⟩)) hH5 rfl rfl (by kernel_rfl) (by kernel_rfl) (by kernel_rfl) (fun _ _ _ h=>h) (Or.inl ⟨by rfl,by intro w' hSw;go_simp⟩) ?_
      simp only [Act.put,List.setIfInBounds_toArray,List.set_cons_zero,List.set_cons_succ]
      refine takeD 17 (some 33) (.pointer (some ⟨w.heap.size,0,none⟩)) hH5 rfl rfl (by kernel_rfl) (by kernel_rfl) (by kernel_rfl) (fun _ _ _ h=>h) (Or.inl ⟨by rfl,by intro w' hSw;go_simp⟩) ?_
      simp only [Act.put,List.setIfInBounds_toArray,List.set_cons_zero,List.set_cons_succ]
      refine wpAnyH_ready (rs:=[18]) (by kernel_rfl) (by simp) ?_
      refine AllReadyH.cons rfl (fun K' hK=>?_) AllReadyH.nil
      have xc:=hS5.c
      have xz:=hS5.fz
      rw [if_pos (by rfl)]
      go_simp
      refine hK.out _ _ (b5.setCell (Nat.le_refl _) _) (fun _=>?_)
      clear hK K'
      refine wpAnyH_done (by kernel_rfl) ?_ _
      clear xc xz
      go_wp2_with fail
      exact ⟨⟨k+1,_,_,by go_num,by omega,hS5.set _,by rw [HRS.out];exact hNB5.far (by omega) _,b5.setCell (Nat.le_refl _) _⟩,by simp [intOf];omega⟩
  ·obtain rfl:k=n:=by omega
   have hkn':¬ ((k:Nat):Int) < k:=by omega
   obtain ⟨vo,co,rfl⟩:=own_sl hNB.outer
   rw [M.rowsB_len] at hNB hS
   obtain ⟨G',rb',rc',hO⟩:=hNB.net (B:=w.heap.size) hS.c (Nat.le_refl _)
   go_wp2_with fail
   go_ret
   exact ⟨_,rfl,⟨G',co,vo,rb',rc',hO⟩,hbel⟩
end Go.Proofs.YtjjkicffhpcngaaGreat
