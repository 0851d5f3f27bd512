/- Turning about, plainly: rows of numbers, threads, places and values turned, programs side by side, plain ones. No condition. And what goes with it: TnMath, TnFact, TnT, TnAp, TnTh, TnSt, TnCc. -/
import Derived.BigQuiet
import Derived.Deep.AppendLies
import Derived.Deep.MidRow
import Derived.Deep.QuietTactic
import Derived.Deep.RegionHeld3
import Derived.Deep.RegionLaw
import Derived.Deep.RegionWith
import Derived.Deep.WholeRow
import Derived.Laws.AppendOwnNone
import Derived.Laws.OwnMore
import Derived.Lib.AppendZerosOnto
import Derived.Lib.SliceRun
import Derived.Maps.AppendAt
import Derived.Sort.Grow
import Derived.WalkKit
import Derived.WalkLawsBesides
import Derived.WalkSpells
import Derived.Test.YtihfibjckkmmbaaGreatRows
import Derived.Test.YtihfibjckkmmbaaGreatOeay
namespace Go.Proofs.YtihfibjckkmmbaaGreat
namespace M
theorem pick_mem {α:Type} {z:α} {row:List Int} {l:List α} {t:α} (h:t∈pick z row l):t∈l∨t=z:=by
 simp only [pick,List.mem_map] at h
 obtain ⟨i,_,rfl⟩:=h
 by_cases hi:i.toNat < l.length
 ·rw [getD_get hi];exact Or.inl (List.getElem_mem hi)
 ·right;rw [List.getD_eq_getElem?_getD,List.getElem?_eq_none (by omega)];rfl
def turnThreads (ll:List (List D)) (row:List Int):Option (List (List D)):=if prog ll&&rowN row ll.length then some (pick [] row ll) else none
theorem turnThreads_bad {ll:List (List D)} {row:List Int} (h:prog ll=false):turnThreads ll row=none:=by simp [turnThreads,h]
theorem turnThreads_row {ll:List (List D)} {row:List Int} (h:rowN row ll.length=false):turnThreads ll row=none:=by simp [turnThreads,h]
theorem turnThreads_yes {ll:List (List D)} {row:List Int} (h:prog ll=true) (h2:rowN row ll.length=true):turnThreads ll row=some (pick [] row ll):=by simp [turnThreads,h,h2]
theorem turnThreads_some {ll mm:List (List D)} {row:List Int} (h:turnThreads ll row=some mm):prog ll=true∧rowN row ll.length=true∧mm=pick [] row ll:=by
 unfold turnThreads at h
 split at h
 ·rename_i hc
  simp only [Bool.and_eq_true] at hc
  exact ⟨hc.1,hc.2,(Option.some.inj h).symm⟩
 ·cases h
theorem turnThreads_small {ll mm:List (List D)} {row:List Int} (e:(turnThreads ll row).getD []=mm):mm.length≤3∧∀ t∈mm,t.length≤7:=by
 cases h:turnThreads ll row with
 | none=>rw [h] at e;subst e;simp
 | some x =>
  rw [h] at e
  obtain rfl:x=mm:=e
  obtain ⟨h1,h2,rfl⟩:=turnThreads_some h
  obtain ⟨h3,h7⟩:=prog_le h1
  refine ⟨by rw [pick_len,rowN_len h2];exact h3,fun t ht=>?_⟩
  rcases pick_mem ht with ht | rfl
  ·exact h7 t ht
  ·simp
end M
end Go.Proofs.YtihfibjckkmmbaaGreat
namespace Go.Proofs.YtihfibjckkmmbaaGreat
namespace M
theorem row0 {row:List Int} (h:rowN row 0=true):row=[]:=List.length_eq_zero_iff.1 (rowN_len h)
theorem row1 {row:List Int} (h:rowN row 1=true):row=[0]:=by
 match row,rowN_len h,rowN_mem h with
 | [x],_,hm=>have:=hm x (by simp);congr 1;omega
theorem row2 {row:List Int} (h:rowN row 2=true):row=[0,1]∨row=[1,0]:=by
 match row,rowN_len h,rowN_mem h,h with
 | [x,y],_,hm,h =>
  have hx:=hm x (by simp)
  have hy:=hm y (by simp)
  have hx:x=0∨x=1:=by omega
  have hy:y=0∨y=1:=by omega
  clear hm
  rcases hx with rfl | rfl<;>rcases hy with rfl | rfl<;>first | (exact absurd h (by decide)) | simp
theorem threads_back {ll:List (List D)} {row:List Int} (h:prog ll=true) (hr:rowN row ll.length=true) :
  prog (pick [] row ll)=true∧tot reads (pick [] row ll)=tot reads ll∧rowN (back row) (pick [] row ll).length=true∧pick [] (back row) (pick [] row ll)=ll:=by
 have h3:=(prog_le h).1
 rw [prog_iff] at h ⊢
 obtain ⟨_,h1,h2,h4⟩:=h
 match ll,h3,hr with
 | [],_,hr=>obtain rfl:=row0 hr;exact ⟨by simp [pick,stp,tot],rfl,rfl,rfl⟩
 | [a],_,hr =>
  obtain rfl:=row1 hr
  exact ⟨⟨by simp [pick],by simpa [pick] using h1,by simpa [pick] using h2,by simpa [pick] using h4⟩,rfl,by rw [pick_len];decide,rfl⟩
 | [a,b],_,hr =>
  simp only [List.mem_cons,List.not_mem_nil,or_false,forall_eq_or_imp,forall_eq] at h1
  simp only [stp,tot] at h2 h4
  rcases row2 hr with rfl | rfl<;>refine ⟨⟨by simp [pick],by simp [pick,h1],by simp [pick,stp];omega,by simp [pick,tot];omega⟩,by simp [pick,tot];try omega,by rw [pick_len];decide,rfl⟩
 | [a,b,c],_,hr =>
  simp only [List.mem_cons,List.not_mem_nil,or_false,forall_eq_or_imp,forall_eq] at h1
  simp only [stp,tot] at h2 h4
  rcases row3 hr with rfl | rfl | rfl | rfl | rfl | rfl<;>refine ⟨⟨by simp [pick],by simp [pick,h1],by simp [pick,stp];omega,by simp [pick,tot];omega⟩,by simp [pick,tot];try omega,by rw [pick_len];decide,rfl⟩
end M
end Go.Proofs.YtihfibjckkmmbaaGreat
namespace Go.Proofs.YtihfibjckkmmbaaGreat
open Go.RowKit
def Thx (w:World) (vs:List Value) (ll:List (List M.D)):Prop:=vs.length=ll.length∧∀ i (h1:i < ll.length) (h2:i < vs.length),∃ a' b' o' c',vs[i]=.slice a' ll[i].length c'∧DoS w a' b' o' ll[i]
theorem Thx.nil (w:World):Thx w [] []:=⟨rfl,fun _ h=>absurd h (Nat.not_lt_zero _)⟩
theorem Thx.below {w w':World} {vs:List Value} {ll:List (List M.D)} {B:Nat} (h:Thx w vs ll) (hb:Below B w w') (hB:w.heap.size≤B):Thx w' vs ll :=
 ⟨h.1,fun i h1 h2=>by obtain ⟨a',b',o',c',e,hd⟩:=h.2 i h1 h2;exact ⟨a',b',o',c',e,hd.below hb hB⟩⟩
theorem Thx.snoc {w:World} {vs:List Value} {ll:List (List M.D)} {a:Option Addr} {b o c:Nat} {l:List M.D} (h:Thx w vs ll) (hd:DoS w a b o l):Thx w (vs++[.slice a l.length c]) (ll++[l]):=by
 have hl:=h.1
 refine ⟨by simp [hl],fun i h1 h2=>?_⟩
 by_cases hi:i < ll.length
 ·rw [List.getElem_append_left (by omega),List.getElem_append_left hi]
  exact h.2 i hi (by omega)
 ·have:i=ll.length:=by simp at h1;omega
  subst this
  have e1:(ll++[l])[ll.length]=l:=by simp
  have e2:(vs++[Value.slice a l.length c])[ll.length]=.slice a l.length c:=by
   rw [List.getElem_append_right (by omega)]
   simp [hl]
  rw [e1,e2]
  exact ⟨a,b,o,c,rfl,hd⟩
theorem Thx.ss {w:World} {B:Nat} {v:Value} {vs:List Value} {ll:List (List M.D)} (h:Thx w vs ll) (ho:w.ownsRow B 53 1 v ll.length vs):∃ a g c,v=.slice a ll.length c∧DoSS w a g 0 ll:=by
 have hl:=h.1
 rcases ho.2 with ⟨hv,hn⟩ | ⟨g,cap,cur,hv,hg,hh,r⟩
 ·have:ll=[]:=List.length_eq_zero_iff.1 hn
  subst this
  exact ⟨none,0,0,hv,⟨fun h=>absurd h (Nat.lt_irrefl _),fun i hi=>absurd hi (Nat.not_lt_zero _)⟩⟩
 ·refine ⟨_,g,cap,hv,⟨fun _=>rfl,fun i hi=>?_⟩⟩
  have hc:=ho.cells (g:=g) (by rw [hv];rfl) i vs[i] (List.getElem?_eq_getElem (by omega))
  rw [Go.WideShapes.add_plain] at hc
  obtain ⟨a',b',o',c',e,hd⟩:=h.2 i hi (by omega)
  rw [e] at hc
  exact ⟨a',b',o',c',hc,hd⟩
theorem Tryz.infoTh:(Tryz.prog.info? 53).map (fun i=>(i.zero,i.size,i.bytes))=some (some (.slice none 0 0),1,24):=by kernel_rfl
set_option maxHeartbeats 1000000 in
set_option maxRecDepth 100000 in
theorem turnT_any (a:Option Addr) (b o c:Nat) (row:List Int) (a2:Option Addr) (b2 o2 c2:Nat) (ll:List (List M.D)) (w:World) (hl:row.length≤1048576) (hl2:ll.length≤1000) (h:IntS w a b o row) (h2:DoSS w a2 b2 o2 ll) :
  Calls Tryz.prog 54 #[.slice a row.length c,.slice a2 ll.length c2] w fun e w'=>∃ v,e=.returned (.tuple #[v,.bool (M.rowN row ll.length)])∧(∃ a',(∃ c',v=.slice a' (M.turned [] row ll).length c')∧∃ g',DoSS w' a' g' 0 (M.turned [] row ll))∧Below w.heap.size w w':=by
 obtain ⟨i0,hi,hz0,hz1,hz2⟩:=info_parts Tryz.infoTh
 go_enter Tryz.func54,Tryz.ntmps54
 go_wp2_with fail
 refine (numbersBelow_any ll.length w hl2).mono ?_
 rintro e w1 ⟨v1,rfl,hown1,b1⟩
 obtain ⟨a1,g1,c1,rfl,hI1,_,_⟩:=own_nums hown1
 have hbl:(M.bel ll.length).length≤1048576:=by rw [M.bel_len];omega
 have CR:=rowOf_any a b o c row a1 g1 0 c1 (M.bel ll.length) w1 hl hbl (h.below b1 (Nat.le_refl _)) hI1
 change Calls _ _ _ _ (fun e w'=>e=.returned (.bool (M.rowN row ll.length))∧_) at CR
 clear hown1 hI1 hbl
 generalize (M.bel ll.length).length=bl at *
 cases hr:M.rowN row ll.length
 ·rw [hr] at CR
  go_wp2_with (first | (go_at_call 70;refine CR.mono ?_;rintro e w2 ⟨rfl,rfl⟩))
  exact bodyPost_ret (v:=.tuple #[.slice none 0 0,.bool false]) (by simp [results,Tryz.results54,go_sem]) rfl ⟨_,by rw [hr],⟨none,⟨0,by rw [M.turned_no hr,List.length_nil]⟩,0,by rw [M.turned_no hr];exact ⟨fun h=>absurd h (Nat.lt_irrefl _),fun i hi=>absurd hi (Nat.not_lt_zero _)⟩⟩,b1⟩
 ·rw [hr] at CR
  have HR:Hid (M.rowN row ll.length=true):=hr
  clear hr
  go_wp2_with (first | (go_at_call 70;refine CR.mono ?_;rintro e w2 ⟨rfl,rfl⟩))
  go_loopw [6,17] (fun s6 s17 wr=>∃ (k:Nat) (vs:List Value),s17=.int .i64 k∧k≤row.length∧wr.ownsRow w.heap.size 53 1 s6 (M.pick [] (row.take k) ll).length vs∧Thx w vs (M.pick [] (row.take k) ll)∧Below w.heap.size w wr) (fun _ s17 _=>row.length - (intOf s17).toNat)
  case atStart=>exact ⟨0,[],rfl,Nat.zero_le _,World.ownsRow_nil _ _ _ _,Thx.nil _,b1⟩
  case round =>
   obtain ⟨k,vs,rfl,hk,hown,hT,hbel⟩:=hrel
   by_cases hkn:k < row.length
   ·have hkn':(k:Int) < row.length:=by omega
    obtain ⟨rfl⟩:=h.addr (by omega)
    have x1:=(h.below hbel (Nat.le_refl _)).row k hkn
    have HB:Hid (M.pick [] (row.take (k+1)) ll=M.pick [] (row.take k) ll++[ll.getD row[k].toNat []]):=M.pick_take [] row ll k hkn
    obtain ⟨r0,r1⟩:=M.rowN_get HR.out k hkn
    obtain ⟨rfl⟩:=h2.addr (by omega)
    generalize row[k]=y at *
    obtain ⟨j,rfl⟩:∃ j:Nat,y=j:=⟨y.toNat,by omega⟩
    have hj:j < ll.length:=by omega
    obtain ⟨a',b',o',c',hc,hd⟩:=h2.row j hj
    have x2:=(hbel.cell (p:=⟨b2,o2+j,none⟩) (World.block_lt_of_cell? _ _ hc)).trans hc
    have HB2:Hid (M.pick [] (row.take (k+1)) ll=M.pick [] (row.take k) ll++[ll[j]]):=by show _=_;rw [HB.out];congr 2;exact M.getD_get hj
    clear HB hc
    have hpl:(M.pick [] (row.take k) ll).length≤1048576:=by rw [M.pick_len];simp;omega
    have hbs:=hbel.size
    generalize ll[j]=z at *
    generalize M.pick [] (row.take k) ll=m at *
    go_wp2_with (at_builtin;refine wpList_append_own _ rfl (.tmp 21) (.tmp 26) 23 rfl _ 53 i0 _ 1 24 Tryz.underlying23 hi hz0 hz1 hz2 rfl (by decide) _ _ _ rfl (hown.alloc _) ⟨wr.heap.size,0,none⟩ 1 1 [.slice a' z.length c'] rfl rfl (cells_new1 _ _ _ _ (by simp)) (by simp [Value.oneCell']) (by unfold maxLen;omega) (by omega) (by simp;omega) ?_)
    intro v3 w3 hown3 hg3 _
    have hb3:Below _ _ w3:=below_grown (hbel.trans ((below1 wr _).mono hbel.size)) hg3 (own_ge hown) (by simp;omega)
    have hown4:w3.ownsRow w.heap.size 53 1 v3 (M.pick [] (row.take (k+1)) ll).length (vs++[.slice a' z.length c']):=by rw [HB2.out,List.length_append];exact hown3
    have hT4:Thx w (vs++[.slice a' z.length c']) (M.pick [] (row.take (k+1)) ll):=by rw [HB2.out];exact hT.snoc hd
    clear hown3 hg3 hown
    go_wp2_with fail
    exact ⟨⟨k+1,_,by go_num,by omega,hown4,hT4,hb3⟩,by simp [intOf];omega⟩
   ·have htk:row.take k=row:=List.take_of_length_le (by omega)
    rw [htk] at hown hT
    have hkn':¬ (k:Int) < row.length:=by omega
    obtain ⟨a',g',c',rfl,hs⟩:=(hT.below hbel (Nat.le_refl _)).ss hown
    go_wp2_with fail
    exact bodyPost_ret (v:=.tuple #[.slice a' (M.pick [] row ll).length c',.bool true]) (by simp [results,Tryz.results54,go_sem]) rfl ⟨_,by rw [HR.out],⟨a',⟨c',by rw [M.turned_yes HR.out]⟩,g',by rw [M.turned_yes HR.out];exact hs⟩,hbel⟩
end Go.Proofs.YtihfibjckkmmbaaGreat
namespace Go.Proofs.YtihfibjckkmmbaaGreat
open Go.RowKit
theorem step_append_does {P:Program} {ops:Array Oper} {o:Oper} {a:Act} {w:World} {K:Act→World→Prop} {Q:Exit→Act→World→Prop} {E:Prop} (hgd:o.guard=none) (s x:Operand) (t:TypeId)
  (ho:o.op=.call { callee:=.builtin .append,args:=#[s,x],argTypes:=#[t,t] }) (d:Option Tmp) (hd:o.dst=d) (base:Nat) (e:TypeId) (i:TypeInfo) (ht:P.underlying t=some (.slice e)) (hi:P.info? e=some i) (hz0:i.zero=some (.agg #[.int .i64 0,.int .i64 0,.int .i64 0])) (hz1:i.size=3) (hz2:i.bytes=24)
  (g:Nat) (hs:a.eval s=.slice (some ⟨g,0,none⟩) 0 0) (hown:w.ownsRow base e 3 (.slice (some ⟨g,0,none⟩) 0 0) 0 []) (hbase:base≤w.heap.size) (sa:Option Addr) (b off c:Nat) (l:List M.D) (hx:a.eval x=.slice sa l.length c) (hI:DoS w sa b off l) (hl:l.length≤1048576)
  (h:∀ v' w',w'.ownsRow base e 3 v' l.length (flat l)→w.grownBy w' (some g)→(v'.ownBlock=some g∨v'.ownBlock=some w.heap.size)→K (a.put d v') w') :
  if Region.wanted o (yielded ops a.tmps)=true then Oper.wp P o a w K Q else E:=by
 have hw:Region.wanted o (yielded ops a.tmps)=true:=by simp [Region.wanted,hgd]
 rw [if_pos hw]
 exact wp_append_does s x t ho d hd base e i ht hi hz0 hz1 hz2 g hs hown hbase sa b off c l hx hI hl h
end Go.Proofs.YtihfibjckkmmbaaGreat
namespace Go.Proofs.YtihfibjckkmmbaaGreat
open Go.RowKit
theorem M.turnThreads_get {ll:List (List M.D)} {row:List Int} (h:M.prog ll=true):(M.turnThreads ll row).getD []=M.turned [] row ll∧(M.turnThreads ll row).isSome=M.rowN row ll.length:=by
 cases hr:M.rowN row ll.length
 ·rw [M.turnThreads_row hr,M.turned_no hr];exact ⟨rfl,rfl⟩
 ·rw [M.turnThreads_yes h hr,M.turned_yes hr];exact ⟨rfl,rfl⟩
theorem M.turned_small {ll mm:List (List M.D)} {row:List Int} (h:M.prog ll=true) (e:M.turned [] row ll=mm):mm.length≤3∧∀ t∈mm,t.length≤7 :=
 M.turnThreads_small (ll:=ll) (row:=row) (by rw [(M.turnThreads_get h).1];exact e)
set_option maxHeartbeats 1000000 in
set_option maxRecDepth 100000 in
theorem iturnThreads_any (a:Option Addr) (b o c:Nat) (ll:List (List M.D)) (hl:ll.length≤1048576) (hls:∀ t∈ll,t.length≤1048576) (ga:Option Addr) (gb go gc:Nat) (gs:List Int) (hgl:gs.length≤1048576) (w:World) (h:DoSS w a b o ll) (hG:IntS w ga gb go gs) :
  Calls Tryz.prog 20 #[.agg #[.slice a ll.length c],.slice ga gs.length gc] w fun e w'=>∃ v,e=.returned (.tuple #[.agg #[v],.bool (M.turnThreads ll gs).isSome])∧(∃ vs,Rdg w' w.heap.size v ((M.turnThreads ll gs).getD []) vs)∧Below w.heap.size w w':=by
 have b2:=below2 w (.cells #[.slice a ll.length c] 25) (.cells #[.slice none 0 0] 25)
 have h2:=h.below b2 (Nat.le_refl _)
 have hG2:=hG.below b2 (Nat.le_refl _)
 have hX:=(Slot1.new w (.slice a ll.length c) 25).bl' (below1 _ (.cells #[.slice none 0 0] 25))
 have hY:=Slot1.new (w.alloc (.cells #[.slice a ll.length c] 25)) (.slice none 0 0) 25
 rw [World.size_alloc] at hY
 go_enter Tryz.func20,Tryz.ntmps20
 go_wp2_with fail
 generalize (w.alloc (.cells #[.slice a ll.length c] 25)).alloc (.cells #[.slice none 0 0] 25)=W at *
 have CP:=iprog_any a b o c ll W hl hls h2
 cases hp:M.prog ll
 ·rw [hp] at CP
  refine CP.mono ?_
  rintro e W1 ⟨rfl,b1⟩
  have hY1:=hY.bl' b1
  have y0:=hY1.c
  have yf:=hY1.fz
  have ly:=hY1.lt
  have bw1:=b2.trans (b1.mono b2.size)
  have hno:=M.turnThreads_bad (row:=gs) hp
  go_wp2_with fail
  have q1:=(hY1.set (.slice none 0 0)).c
  exact bodyPost_ret (v:=.tuple #[.agg #[.slice none 0 0],.bool false]) (by simp [results,Tryz.results20,go_sem,q1]) rfl ⟨_,by rw [hno];rfl,⟨[],by rw [hno];exact Rdg.nil _ _⟩,bw1.setCell (by show w.heap.size≤w.heap.size+1;omega) _⟩
 ·rw [hp] at CP
  obtain ⟨h3,h7⟩:=M.prog_le hp
  obtain ⟨e1,e2⟩:=M.turnThreads_get (row:=gs) hp
  obtain ⟨mm,hmm⟩:∃ mm,M.turned [] gs ll=mm:=⟨_,rfl⟩
  obtain ⟨hm3,hm7⟩:=M.turned_small hp hmm
  obtain ⟨ok,hok⟩:∃ ok,M.rowN gs ll.length=ok:=⟨_,rfl⟩
  have E1:Hid ((M.turnThreads ll gs).getD []=mm):=e1.trans hmm
  have E2:Hid ((M.turnThreads ll gs).isSome=ok):=e2.trans hok
  have CT:=fun A B C D W x y=>turnT_any ga gb go gc gs A B C D ll W hgl (by omega) x y
  rw [hmm,hok] at CT
  clear hp hmm hok e1 e2
  refine CP.mono ?_
  rintro e W1 ⟨rfl,b1⟩
  have h1:=h2.below b1 (Nat.le_refl _)
  have hG1:=hG2.below b1 (Nat.le_refl _)
  have hX1:=hX.bl' b1
  have hY1:=hY.bl' b1
  have bw1:=b2.trans (b1.mono b2.size)
  have x0:=hX1.c
  clear CP h2 hG2 hX hY b1 b2
  go_wp2_with fail
  refine (CT a b o c W1 hG1 h1).mono ?_
  rintro e W2 ⟨v2,rfl,⟨a2,⟨c2,rfl⟩,g2,hs2⟩,b2⟩
  go_wp2_with fail
  refine (copyProg_any a2 g2 0 c2 mm W2 (by omega) (fun t ht=>by have:=hm7 t ht;omega) hs2).mono ?_
  rintro e W3 ⟨v3,rfl,⟨vs,hR⟩,b3⟩
  have hY3:=(hY1.bl' b2).bl' b3
  have y0:=hY3.c
  have yf:=hY3.fz
  have ly:=hY3.lt
  have ly1:=hY1.lt
  have b13:=b2.trans (b3.mono b2.size)
  have bw3:=bw1.trans (b13.mono bw1.size)
  have hsz:=b2.size
  obtain ⟨av,gv,cv,rfl,_⟩:=hR.b.ss
  go_wp2_with fail
  have q1:=(hY3.set (.slice av mm.length cv)).c
  exact bodyPost_ret (v:=.tuple #[.agg #[.slice av mm.length cv],.bool ok]) (by simp [results,Tryz.results20,go_sem,q1]) rfl ⟨_,by rw [E2.out],⟨vs,by rw [E1.out];exact (hR.far (by omega) _).mono (by have:=bw1.size;omega)⟩,bw3.setCell (by show w.heap.size≤w.heap.size+1;omega) _⟩
end Go.Proofs.YtihfibjckkmmbaaGreat
namespace Go.Proofs.YtihfibjckkmmbaaGreat
open Go.RowKit
set_option maxHeartbeats 4000000 in
set_option maxRecDepth 100000 in
set_option linter.unusedSimpArgs false in
theorem sturnThreads_any (a:Option Addr) (b o c:Nat) (ll:List (List M.D)) (hl:ll.length≤1048576) (hls:∀ t∈ll,t.length≤1048576) (ga:Option Addr) (gb go gc:Nat) (gs:List Int) (hgl:gs.length≤1048576) (w:World) (h:DoSS w a b o ll) (hG:IntS w ga gb go gs) :
  Calls Tryz.prog 19 #[.agg #[.slice a ll.length c],.slice ga gs.length gc] w fun e w'=>∃ v,e=.returned (.tuple #[.agg #[v],.bool (M.turnThreads ll gs).isSome])∧(∃ vs,Rdg w' w.heap.size v ((M.turnThreads ll gs).getD []) vs)∧Below w.heap.size w w':=by
 obtain ⟨i0,hi,hz0,hz1,hz2⟩:=info_parts Tryz.info53
 obtain ⟨j0,hj,hy0,hy1,hy2⟩:=info_parts Tryz.info56
 have b2:=below2 w (.cells #[.slice a ll.length c] 25) (.cells #[.slice none 0 0] 25)
 have h2:=h.below b2 (Nat.le_refl _)
 have hG2:=hG.below b2 (Nat.le_refl _)
 have hX:=(Slot1.new w (.slice a ll.length c) 25).bl' (below1 _ (.cells #[.slice none 0 0] 25))
 have hY:=Slot1.new (w.alloc (.cells #[.slice a ll.length c] 25)) (.slice none 0 0) 25
 rw [World.size_alloc] at hY
 go_enter Tryz.func19,Tryz.ntmps19
 cases hp:M.prog ll
 ·have hno:=M.turnThreads_bad (row:=gs) hp
  have CP:=sprog_any a b o c ll _ hl hls h2
  rw [hp] at CP
  go_wp2_with (first | (go_at_call 32;refine CP.mono ?_;rintro e W1 ⟨rfl,b1⟩;have hY1:=hY.bl' b1;have y0:=hY1.c;have yf:=hY1.fz;have ly:=hY1.lt))
  have bw1:=b2.trans (b1.mono b2.size)
  have q1:=(hY1.set (.slice none 0 0)).c
  exact bodyPost_ret (v:=.tuple #[.agg #[.slice none 0 0],.bool false]) (by simp [results,Tryz.results19,go_sem,q1]) rfl ⟨_,by rw [hno];rfl,⟨[],by rw [hno];exact Rdg.nil _ _⟩,bw1.setCell (by show w.heap.size≤w.heap.size+1;omega) _⟩
 ·obtain ⟨h3,h7⟩:=M.prog_le hp
  have CP:=sprog_any a b o c ll _ hl hls h2
  rw [hp] at CP
  have CO:=fun W hW=>l22Row_any ga gb go gc gs ll.length W hgl (by omega) hW
  cases hok:M.rowN gs ll.length
  ·have hno:=M.turnThreads_row (ll:=ll) hok
   rw [hok] at CO
   go_wp2_with (first | (go_at_call 32;refine CP.mono ?_;rintro e W1 ⟨rfl,b1⟩;have hX1:=hX.bl' b1;have x0:=hX1.c;have hG1:=hG2.below b1 (Nat.le_refl _);have hY1:=hY.bl' b1;have y0:=hY1.c;have yf:=hY1.fz;have ly:=hY1.lt) | (go_at_call 33;refine (CO _ hG1).mono ?_;rintro e W2 ⟨rfl,rfl⟩))
   have bw1:=b2.trans (b1.mono b2.size)
   have q1:=(hY1.set (.slice none 0 0)).c
   exact bodyPost_ret (v:=.tuple #[.agg #[.slice none 0 0],.bool false]) (by simp [results,Tryz.results19,go_sem,q1]) rfl ⟨_,by rw [hno];rfl,⟨[],by rw [hno];exact Rdg.nil _ _⟩,bw1.setCell (by show w.heap.size≤w.heap.size+1;omega) _⟩
  ·rw [hok] at CO
   have hyes:=M.turnThreads_yes hp hok
   have HY1:Hid ((M.turnThreads ll gs).isSome=true):=by show _=_;rw [hyes];rfl
   have HY2:Hid ((M.turnThreads ll gs).getD []=M.pick [] gs ll):=by show _=_;rw [hyes];rfl
   have HR:Hid (M.rowN gs ll.length=true):=hok
   have HL:Hid (gs.length=ll.length):=M.rowN_len hok
   clear hyes hok hp
   go_wp2_with (first | (go_at_call 32;refine CP.mono ?_;rintro e W1 ⟨rfl,b1⟩;have hX1:=hX.bl' b1;have x0:=hX1.c;have hG1:=hG2.below b1 (Nat.le_refl _);have hY1:=hY.bl' b1) | (go_at_call 33;refine (CO _ hG1).mono ?_;rintro e W2 ⟨rfl,rfl⟩))
   have bw1:=b2.trans (b1.mono b2.size)
   have bA:=below1 W2 (.cells #[.slice none 0 0] 25)
   have hXA:=hX1.bl' bA
   have hYA:=hY1.bl' bA
   have hZA:=Slot1.new W2 (.slice none 0 0) 25
   have lX:=hX1.lt
   have lY:=hY1.lt
   have hD:=h.below bw1 (Nat.le_refl _)
   generalize W2.alloc (.cells #[.slice none 0 0] 25)=WA at *
   have hX1c:=hX1.c
   clear CP CO x0 hX hY h2 hG2 b2 b1 hX1
   go_loopw [7] (fun s7 wr=>∃ (n:Nat) (v:Value) (vs:List Value),s7=.int .i64 n∧n≤gs.length∧Rdg wr (W2.heap.size+1) v (M.pick [] (gs.take n) ll) vs∧Slot1 wr W2.heap.size v∧Slot1 wr (w.heap.size+1) (.slice none 0 0)∧Below W2.heap.size W2 wr) (fun s7 _=>gs.length - (intOf s7).toNat)
   case atStart=>exact ⟨0,.slice none 0 0,[],rfl,Nat.zero_le _,by simpa [M.pick] using Rdg.nil _ _,hZA,hYA,bA⟩
   case round =>
    obtain ⟨n,v,vs,rfl,hn,hR,hP,hY,hbel⟩:=hrel
    clear hZA hXA hYA bA
    by_cases hlt:n < gs.length
    ·obtain ⟨rfl⟩:=hG1.addr (by omega)
     have hg0:=hG1.row n hlt
     have HB:Hid (M.pick [] (gs.take (n+1)) ll=M.pick [] (gs.take n) ll++[ll.getD gs[n].toNat []]):=M.pick_take [] gs ll n hlt
     obtain ⟨r0,r1⟩:=M.rowN_get HR.out n hlt
     generalize gs[n]=y at *
     obtain ⟨j,rfl⟩:∃ j:Nat,y=j:=⟨y.toNat,by omega⟩
     have hjl:j < ll.length:=by omega
     obtain ⟨rfl⟩:=h.addr (by omega)
     obtain ⟨a',b',o',c',hc,hd0⟩:=hD.row j hjl
     have HW:Hid (M.pick [] (gs.take (n+1)) ll=M.pick [] (gs.take n) ll++[ll[j]]):=by show _=_;rw [HB.out];congr 2;exact M.getD_get hjl
     clear HB
     have hmm:(M.pick [] (gs.take n) ll).length≤1048576:=by rw [M.pick_len];simp;omega
     have ht:=hls _ (List.getElem_mem hjl)
     generalize ll[j]=t at *
     generalize M.pick [] (gs.take n) ll=mm at *
     have i1:(n:Int) < gs.length:=by omega
     have i2:(j:Int) < ll.length:=by omega
     obtain ⟨av,gv,cv,rfl,_⟩:=hR.b.ss
     have x0:=hP.c
     have lP:=hP.lt
     have CX:∀ w',Below W2.heap.size W2 w'→w'.cell? ⟨w.heap.size,0,none⟩=some (.slice (some ⟨b,o,none⟩) ll.length c):=fun w' hw=>(hw.cell (p:=⟨w.heap.size,0,none⟩) lX).trans hX1c
     have CG:∀ w',Below W2.heap.size W2 w'→w'.cell? ⟨gb,go+n,none⟩=some (.int .i64 j):=fun w' hw=>(hw.cell (p:=⟨gb,go+n,none⟩) (World.block_lt_of_cell? _ _ hg0)).trans hg0
     have CT:∀ w',Below W2.heap.size W2 w'→w'.cell? ⟨b,o+j,none⟩=some (.slice a' t.length c'):=fun w' hw=>(hw.cell (p:=⟨b,o+j,none⟩) (World.block_lt_of_cell? _ _ hc)).trans hc
     have bE:Below wr.heap.size wr (wr.drew.alloc (.cells #[] 56)):=(Below.refl wr.heap.size wr).drew.alloc (Nat.le_refl _) _
     have SA:Below W2.heap.size W2 (wr.drew.alloc (.cells #[] 56)):=hbel.trans (bE.mono hbel.size)
     have SXA:=(hP.bl' bE).c
     have OA:(wr.drew.alloc (.cells #[] 56)).ownsRow wr.heap.size 56 3 (.slice (some ⟨wr.heap.size,0,none⟩) 0 0) 0 []:=own_emp (heap_alloc_new wr.drew _) (Nat.le_refl _)
     have DA:DoS (wr.drew.alloc (.cells #[] 56)) a' b' o' t:=hd0.below SA (Nat.le_refl _)
     have F4:Hid (∀ (w4:World) (v4:Value),w4.ownsRow wr.heap.size 56 3 v4 t.length (flat t)→(wr.drew.alloc (.cells #[] 56)).grownBy w4 (some wr.heap.size)→∃ a4 c4,v4=.slice a4 t.length c4∧Below wr.heap.size wr w4∧Slot1 w4 W2.heap.size (.slice av mm.length cv)∧Rdg w4 (W2.heap.size+1) (.slice av mm.length cv) mm vs):=by
      intro w4 v4 ho hg
      obtain ⟨a4,c4,e⟩:=own_slx ho
      have b4:Below wr.heap.size wr w4:=below_grown bE hg (fun j hj=>by have:wr.heap.size=j:=Option.some.inj hj;omega) bE.size
      exact ⟨a4,c4,e,b4,hP.bl' b4,hR.below b4⟩
     have F5:Hid (∀ (w4:World) (a4:Option Addr) (c4:Nat),Below wr.heap.size wr w4→w4.ownsRow wr.heap.size 56 3 (.slice a4 t.length c4) t.length (flat t)→∀ (g5 cap5:Nat) (w5:World),w5.ownsRow (W2.heap.size+1) 53 1 (.slice (some ⟨g5,0,none⟩) (mm.length+1) cap5) (mm.length+1) (vs++[.slice a4 t.length c4])→(w4.alloc (.cells #[.slice a4 t.length c4] 53)).grownBy w5 (Value.slice av mm.length cv).ownBlock→Below W2.heap.size W2 w5∧Slot1 w5 W2.heap.size (.slice av mm.length cv)∧Slot1 w5 (w.heap.size+1) (.slice none 0 0)∧Rdg w5 (W2.heap.size+1) (.slice (some ⟨g5,0,none⟩) (mm.length+1) cap5) (mm++[t]) (vs++[.slice a4 t.length c4])):=by
      intro w4 a4 c4 b4 hx4 g5 cap5 w5 ho hg
      have hal:=below1 w4 (.cells #[.slice a4 t.length c4] 53)
      have hge:=own_ge hR.b.outer
      have b4a:=b4.trans (hal.mono b4.size)
      have bwa:=hbel.trans (b4a.mono hbel.size)
      refine ⟨below_grown bwa hg (fun j hj=>by have:=hge j hj;omega) bwa.size,(hP.bl' b4a).apart hg (fun e=>by have:=hge _ e;omega),(hY.bl' b4a).apart hg (fun e=>by have:=hge _ e;omega),((hR.below b4).below hal).snocT (ownsRow_mono (ownsRow_below hx4 hal) (by omega)) (fun i hi j hj e=>?_) ho hg⟩
      have h1:=((hR.b.inner i (by have:=hR.b.len;omega) hi).lt j hj).2
      have h2:=own_ge hx4 j e
      omega
     go_wp2_with fail
     refine wp_region_held_drew (S:=fun w'=>Below W2.heap.size W2 w') (by kernel_rfl) hbel.drew (fun hH=>?_)
     refine takeD 0 (some 27) (.pointer (some ⟨W2.heap.size,0,none⟩)) hH rfl rfl (by kernel_rfl) (by kernel_rfl) (by kernel_rfl) (fun _ _ _ h=>h) (Or.inl ⟨by rfl,by intro w' hSw;go_simp⟩) ?_
     simp only [Act.put,List.setIfInBounds_toArray,List.set_cons_zero,List.set_cons_succ]
     refine takeD 3 (some 30) (.pointer (some ⟨w.heap.size,0,none⟩)) hH rfl rfl (by kernel_rfl) (by kernel_rfl) (by kernel_rfl) (fun _ _ _ h=>h) (Or.inl ⟨by rfl,by intro w' hSw;go_simp⟩) ?_
     simp only [Act.put,List.setIfInBounds_toArray,List.set_cons_zero,List.set_cons_succ]
     refine takeD 4 (some 31) (.slice (some ⟨b,o,none⟩) ll.length c) hH rfl rfl (by kernel_rfl) (by kernel_rfl) (by kernel_rfl) (fun _ _ _ h=>h) (Or.inl ⟨by rfl,by intro w' hSw;have hc:=CX w' hSw;go_simp⟩) ?_
     simp only [Act.put,List.setIfInBounds_toArray,List.set_cons_zero,List.set_cons_succ]
     refine takeD 5 (some 32) (.slice (some ⟨gb,go,none⟩) gs.length gc) hH rfl rfl (by kernel_rfl) (by kernel_rfl) (by kernel_rfl) (fun _ _ _ h=>h) (Or.inl ⟨by rfl,by intro w' hSw;go_simp⟩) ?_
     simp only [Act.put,List.setIfInBounds_toArray,List.set_cons_zero,List.set_cons_succ]
     refine takeD 6 (some 33) (.int .i64 n) hH rfl rfl (by kernel_rfl) (by kernel_rfl) (by kernel_rfl) (fun _ _ _ h=>h) (Or.inl ⟨by rfl,by intro w' hSw;go_simp⟩) ?_
     simp only [Act.put,List.setIfInBounds_toArray,List.set_cons_zero,List.set_cons_succ]
     refine takeD 7 (some 34) (.pointer (some ⟨gb,go+n,none⟩)) hH rfl rfl (by kernel_rfl) (by kernel_rfl) (by kernel_rfl) (fun _ _ _ h=>h) (Or.inl ⟨by rfl,by intro w' hSw;go_simp⟩) ?_
     simp only [Act.put,List.setIfInBounds_toArray,List.set_cons_zero,List.set_cons_succ]
     refine takeD 8 (some 35) (.int .i64 j) hH rfl rfl (by kernel_rfl) (by kernel_rfl) (by kernel_rfl) (fun _ _ _ h=>h) (Or.inl ⟨by rfl,by intro w' hSw;have hc:=CG w' hSw;go_simp⟩) ?_
     simp only [Act.put,List.setIfInBounds_toArray,List.set_cons_zero,List.set_cons_succ]
     refine takeD 9 (some 36) (.pointer (some ⟨b,o+j,none⟩)) hH rfl rfl (by kernel_rfl) (by kernel_rfl) (by kernel_rfl) (fun _ _ _ h=>h) (Or.inl ⟨by rfl,by intro w' hSw;go_simp⟩) ?_
     simp only [Act.put,List.setIfInBounds_toArray,List.set_cons_zero,List.set_cons_succ]
     refine takeD 10 (some 37) (.slice a' t.length c') hH rfl rfl (by kernel_rfl) (by kernel_rfl) (by kernel_rfl) (fun _ _ _ h=>h) (Or.inl ⟨by rfl,by intro w' hSw;have hc:=CT w' hSw;go_simp⟩) ?_
     simp only [Act.put,List.setIfInBounds_toArray,List.set_cons_zero,List.set_cons_succ]
     refine wpAnyH_ready (rs:=[1,2]) (by kernel_rfl) (by simp) ?_
     refine AllReadyH.cons rfl (fun K' hK=>?_) (AllReadyH.cons rfl (fun K' hK=>?_) AllReadyH.nil)
     ·have xx:=x0
      rw [if_pos (by rfl)]
      go_simp
      refine hK.out _ _ hH (fun _=>?_)
      clear hK K' xx
      refine wpAnyH_ready (rs:=[2]) (by kernel_rfl) (by simp) ?_
      refine AllReadyH.cons rfl (fun K' hK=>?_) AllReadyH.nil
      rw [if_pos (by rfl)]
      go_simp
      refine hK.out _ _ SA (fun _=>?_)
      clear hK K'
      refine wpAnyH_ready (rs:=[11]) (by kernel_rfl) (by simp) ?_
      refine AllReadyH.cons rfl (fun K' hK=>?_) AllReadyH.nil
      refine step_append_does (by rfl) (.tmp 29) (.tmp 37) 53 (by rfl) (some 38) rfl wr.heap.size 56 j0 Tryz.underlying53 hj hy0 hy1 hy2 wr.heap.size (by rfl) OA (by simp) a' b' o' c' t (by rfl) DA ht ?_
      intro v4 w4 ho4 hg4 hat4
      obtain ⟨a4,c4,rfl,b4,hS4,hR4⟩:=F4.out w4 v4 ho4 hg4
      simp only [Act.put,List.setIfInBounds_toArray,List.set_cons_zero,List.set_cons_succ]
      refine hK.out _ _ (hbel.trans (b4.mono hbel.size)) (fun hH4=>?_)
      clear hK K'
      have hS4a:=hS4.bl' (below1 w4 (.cells #[.slice a4 t.length c4] 53))
      have S4a:Below W2.heap.size W2 (w4.alloc (.cells #[.slice a4 t.length c4] 53)):=hH4.alloc hH4.size _
      refine wpAnyH_ready (rs:=[12]) (by kernel_rfl) (by simp) ?_
      refine AllReadyH.cons rfl (fun K' hK=>?_) AllReadyH.nil
      rw [if_pos (by rfl)]
      go_simp
      refine hK.out _ _ S4a (fun _=>?_)
      clear hK K'
      refine wpAnyH_ready (rs:=[13]) (by kernel_rfl) (by simp) ?_
      refine AllReadyH.cons rfl (fun K' hK=>?_) AllReadyH.nil
      refine step_append_lies _ (by rfl) (.tmp 28) (.tmp 39) 23 (by rfl) (W2.heap.size+1) 53 i0 _ 1 24 Tryz.underlying23 hi hz0 hz1 hz2 rfl (by decide) (.slice av mm.length cv) mm.length vs (by rfl) ((hR4.b.outer).alloc _) ⟨w4.heap.size,0,none⟩ 1 1 [.slice a4 t.length c4] (by rfl) (by rfl) (World.news_of_block (cs:=#[.slice a4 t.length c4]) (t:=53) (fr:=(0,0)) (heap_alloc_new w4 _)) (by simp [Value.oneCell']) (by omega) (by unfold maxLen;omega) (by omega) (by have:=b4.size;simp;omega) (w4.heap.size+1) (by simp) ?_
      intro g5 cap5 w5 hown5 hg5 hat5 hlt5
      obtain ⟨b5,hS5,hQ5,hR5⟩:=F5.out w4 a4 c4 b4 ho4 g5 cap5 w5 hown5 hg5
      simp only [Act.put,List.setIfInBounds_toArray,List.set_cons_zero,List.set_cons_succ]
      refine hK.out _ _ b5 (fun hH5=>?_)
      clear hK K'
      refine takeD 14 (some 41) (.pointer (some ⟨W2.heap.size,0,none⟩)) hH5 rfl rfl (by kernel_rfl) (by kernel_rfl) (by kernel_rfl) (fun _ _ _ h=>h) (Or.inl ⟨by rfl,by intro w' hSw;go_simp⟩) ?_
      simp only [Act.put,List.setIfInBounds_toArray,List.set_cons_zero,List.set_cons_succ]
      refine wpAnyH_ready (rs:=[15]) (by kernel_rfl) (by simp) ?_
      refine AllReadyH.cons rfl (fun K' hK=>?_) AllReadyH.nil
      have xc:=hS5.c
      have xz:=hS5.fz
      rw [if_pos (by rfl)]
      go_simp
      refine hK.out _ _ (b5.setCell (Nat.le_refl _) _) (fun _=>?_)
      clear hK K'
      refine wpAnyH_done (by kernel_rfl) ?_ _
      clear xc xz
      go_wp2_with fail
      exact ⟨⟨n+1,_,_,by go_num,by omega,by rw [HW.out];exact hR5.far (by omega) _,hS5.set _,hQ5.far (by omega) _,b5.setCell (Nat.le_refl _) _⟩,by simp [intOf];omega⟩
     ·rw [if_pos (by rfl)]
      go_simp
      refine hK.out _ _ SA (fun _=>?_)
      clear hK K'
      refine wpAnyH_ready (rs:=[1,11]) (by kernel_rfl) (by simp) ?_
      refine AllReadyH.cons rfl (fun K' hK=>?_) (AllReadyH.cons rfl (fun K' hK=>?_) AllReadyH.nil)
      ·have xx:=SXA
       rw [if_pos (by rfl)]
       go_simp
       refine hK.out _ _ SA (fun _=>?_)
       clear hK K' xx
       refine wpAnyH_ready (rs:=[11]) (by kernel_rfl) (by simp) ?_
       refine AllReadyH.cons rfl (fun K' hK=>?_) AllReadyH.nil
       refine step_append_does (by rfl) (.tmp 29) (.tmp 37) 53 (by rfl) (some 38) rfl wr.heap.size 56 j0 Tryz.underlying53 hj hy0 hy1 hy2 wr.heap.size (by rfl) OA (by simp) a' b' o' c' t (by rfl) DA ht ?_
       intro v4 w4 ho4 hg4 hat4
       obtain ⟨a4,c4,rfl,b4,hS4,hR4⟩:=F4.out w4 v4 ho4 hg4
       simp only [Act.put,List.setIfInBounds_toArray,List.set_cons_zero,List.set_cons_succ]
       refine hK.out _ _ (hbel.trans (b4.mono hbel.size)) (fun hH4=>?_)
       clear hK K'
       have hS4a:=hS4.bl' (below1 w4 (.cells #[.slice a4 t.length c4] 53))
       have S4a:Below W2.heap.size W2 (w4.alloc (.cells #[.slice a4 t.length c4] 53)):=hH4.alloc hH4.size _
       refine wpAnyH_ready (rs:=[12]) (by kernel_rfl) (by simp) ?_
       refine AllReadyH.cons rfl (fun K' hK=>?_) AllReadyH.nil
       rw [if_pos (by rfl)]
       go_simp
       refine hK.out _ _ S4a (fun _=>?_)
       clear hK K'
       refine wpAnyH_ready (rs:=[13]) (by kernel_rfl) (by simp) ?_
       refine AllReadyH.cons rfl (fun K' hK=>?_) AllReadyH.nil
       refine step_append_lies _ (by rfl) (.tmp 28) (.tmp 39) 23 (by rfl) (W2.heap.size+1) 53 i0 _ 1 24 Tryz.underlying23 hi hz0 hz1 hz2 rfl (by decide) (.slice av mm.length cv) mm.length vs (by rfl) ((hR4.b.outer).alloc _) ⟨w4.heap.size,0,none⟩ 1 1 [.slice a4 t.length c4] (by rfl) (by rfl) (World.news_of_block (cs:=#[.slice a4 t.length c4]) (t:=53) (fr:=(0,0)) (heap_alloc_new w4 _)) (by simp [Value.oneCell']) (by omega) (by unfold maxLen;omega) (by omega) (by have:=b4.size;simp;omega) (w4.heap.size+1) (by simp) ?_
       intro g5 cap5 w5 hown5 hg5 hat5 hlt5
       obtain ⟨b5,hS5,hQ5,hR5⟩:=F5.out w4 a4 c4 b4 ho4 g5 cap5 w5 hown5 hg5
       simp only [Act.put,List.setIfInBounds_toArray,List.set_cons_zero,List.set_cons_succ]
       refine hK.out _ _ b5 (fun hH5=>?_)
       clear hK K'
       refine takeD 14 (some 41) (.pointer (some ⟨W2.heap.size,0,none⟩)) hH5 rfl rfl (by kernel_rfl) (by kernel_rfl) (by kernel_rfl) (fun _ _ _ h=>h) (Or.inl ⟨by rfl,by intro w' hSw;go_simp⟩) ?_
       simp only [Act.put,List.setIfInBounds_toArray,List.set_cons_zero,List.set_cons_succ]
       refine wpAnyH_ready (rs:=[15]) (by kernel_rfl) (by simp) ?_
       refine AllReadyH.cons rfl (fun K' hK=>?_) AllReadyH.nil
       have xc:=hS5.c
       have xz:=hS5.fz
       rw [if_pos (by rfl)]
       go_simp
       refine hK.out _ _ (b5.setCell (Nat.le_refl _) _) (fun _=>?_)
       clear hK K'
       refine wpAnyH_done (by kernel_rfl) ?_ _
       clear xc xz
       go_wp2_with fail
       exact ⟨⟨n+1,_,_,by go_num,by omega,by rw [HW.out];exact hR5.far (by omega) _,hS5.set _,hQ5.far (by omega) _,b5.setCell (Nat.le_refl _) _⟩,by simp [intOf];omega⟩
      ·refine step_append_does (by rfl) (.tmp 29) (.tmp 37) 53 (by rfl) (some 38) rfl wr.heap.size 56 j0 Tryz.underlying53 hj hy0 hy1 hy2 wr.heap.size (by rfl) OA (by simp) a' b' o' c' t (by rfl) DA ht ?_
       intro v4 w4 ho4 hg4 hat4
       obtain ⟨a4,c4,rfl,b4,hS4,hR4⟩:=F4.out w4 v4 ho4 hg4
       simp only [Act.put,List.setIfInBounds_toArray,List.set_cons_zero,List.set_cons_succ]
       refine hK.out _ _ (hbel.trans (b4.mono hbel.size)) (fun hH4=>?_)
       clear hK K'
       have hS4a:=hS4.bl' (below1 w4 (.cells #[.slice a4 t.length c4] 53))
       have S4a:Below W2.heap.size W2 (w4.alloc (.cells #[.slice a4 t.length c4] 53)):=hH4.alloc hH4.size _
       refine wpAnyH_ready (rs:=[1,12]) (by kernel_rfl) (by simp) ?_
       refine AllReadyH.cons rfl (fun K' hK=>?_) (AllReadyH.cons rfl (fun K' hK=>?_) AllReadyH.nil)
       ·have xx:=hS4.c
        rw [if_pos (by rfl)]
        go_simp
        refine hK.out _ _ hH4 (fun _=>?_)
        clear hK K' xx
        refine wpAnyH_ready (rs:=[12]) (by kernel_rfl) (by simp) ?_
        refine AllReadyH.cons rfl (fun K' hK=>?_) AllReadyH.nil
        rw [if_pos (by rfl)]
        go_simp
        refine hK.out _ _ S4a (fun _=>?_)
        clear hK K'
        refine wpAnyH_ready (rs:=[13]) (by kernel_rfl) (by simp) ?_
        refine AllReadyH.cons rfl (fun K' hK=>?_) AllReadyH.nil
        refine step_append_lies _ (by rfl) (.tmp 28) (.tmp 39) 23 (by rfl) (W2.heap.size+1) 53 i0 _ 1 24 Tryz.underlying23 hi hz0 hz1 hz2 rfl (by decide) (.slice av mm.length cv) mm.length vs (by rfl) ((hR4.b.outer).alloc _) ⟨w4.heap.size,0,none⟩ 1 1 [.slice a4 t.length c4] (by rfl) (by rfl) (World.news_of_block (cs:=#[.slice a4 t.length c4]) (t:=53) (fr:=(0,0)) (heap_alloc_new w4 _)) (by simp [Value.oneCell']) (by omega) (by unfold maxLen;omega) (by omega) (by have:=b4.size;simp;omega) (w4.heap.size+1) (by simp) ?_
        intro g5 cap5 w5 hown5 hg5 hat5 hlt5
        obtain ⟨b5,hS5,hQ5,hR5⟩:=F5.out w4 a4 c4 b4 ho4 g5 cap5 w5 hown5 hg5
        simp only [Act.put,List.setIfInBounds_toArray,List.set_cons_zero,List.set_cons_succ]
        refine hK.out _ _ b5 (fun hH5=>?_)
        clear hK K'
        refine takeD 14 (some 41) (.pointer (some ⟨W2.heap.size,0,none⟩)) hH5 rfl rfl (by kernel_rfl) (by kernel_rfl) (by kernel_rfl) (fun _ _ _ h=>h) (Or.inl ⟨by rfl,by intro w' hSw;go_simp⟩) ?_
        simp only [Act.put,List.setIfInBounds_toArray,List.set_cons_zero,List.set_cons_succ]
        refine wpAnyH_ready (rs:=[15]) (by kernel_rfl) (by simp) ?_
        refine AllReadyH.cons rfl (fun K' hK=>?_) AllReadyH.nil
        have xc:=hS5.c
        have xz:=hS5.fz
        rw [if_pos (by rfl)]
        go_simp
        refine hK.out _ _ (b5.setCell (Nat.le_refl _) _) (fun _=>?_)
        clear hK K'
        refine wpAnyH_done (by kernel_rfl) ?_ _
        clear xc xz
        go_wp2_with fail
        exact ⟨⟨n+1,_,_,by go_num,by omega,by rw [HW.out];exact hR5.far (by omega) _,hS5.set _,hQ5.far (by omega) _,b5.setCell (Nat.le_refl _) _⟩,by simp [intOf];omega⟩
       ·rw [if_pos (by rfl)]
        go_simp
        refine hK.out _ _ S4a (fun _=>?_)
        clear hK K'
        refine wpAnyH_ready (rs:=[1]) (by kernel_rfl) (by simp) ?_
        refine AllReadyH.cons rfl (fun K' hK=>?_) AllReadyH.nil
        have xx:=hS4a.c
        rw [if_pos (by rfl)]
        go_simp
        refine hK.out _ _ S4a (fun _=>?_)
        clear hK K' xx
        refine wpAnyH_ready (rs:=[13]) (by kernel_rfl) (by simp) ?_
        refine AllReadyH.cons rfl (fun K' hK=>?_) AllReadyH.nil
        refine step_append_lies _ (by rfl) (.tmp 28) (.tmp 39) 23 (by rfl) (W2.heap.size+1) 53 i0 _ 1 24 Tryz.underlying23 hi hz0 hz1 hz2 rfl (by decide) (.slice av mm.length cv) mm.length vs (by rfl) ((hR4.b.outer).alloc _) ⟨w4.heap.size,0,none⟩ 1 1 [.slice a4 t.length c4] (by rfl) (by rfl) (World.news_of_block (cs:=#[.slice a4 t.length c4]) (t:=53) (fr:=(0,0)) (heap_alloc_new w4 _)) (by simp [Value.oneCell']) (by omega) (by unfold maxLen;omega) (by omega) (by have:=b4.size;simp;omega) (w4.heap.size+1) (by simp) ?_
        intro g5 cap5 w5 hown5 hg5 hat5 hlt5
        obtain ⟨b5,hS5,hQ5,hR5⟩:=F5.out w4 a4 c4 b4 ho4 g5 cap5 w5 hown5 hg5
        simp only [Act.put,List.setIfInBounds_toArray,List.set_cons_zero,List.set_cons_succ]
        refine hK.out _ _ b5 (fun hH5=>?_)
        clear hK K'
        refine takeD 14 (some 41) (.pointer (some ⟨W2.heap.size,0,none⟩)) hH5 rfl rfl (by kernel_rfl) (by kernel_rfl) (by kernel_rfl) (fun _ _ _ h=>h) (Or.inl ⟨by rfl,by intro w' hSw;go_simp⟩) ?_
        simp only [Act.put,List.setIfInBounds_toArray,List.set_cons_zero,List.set_cons_succ]
        refine wpAnyH_ready (rs:=[15]) (by kernel_rfl) (by simp) ?_
        refine AllReadyH.cons rfl (fun K' hK=>?_) AllReadyH.nil
        have xc:=hS5.c
        have xz:=hS5.fz
        rw [if_pos (by rfl)]
        go_simp
        refine hK.out _ _ (b5.setCell (Nat.le_refl _) _) (fun _=>?_)
        clear hK K'
        refine wpAnyH_done (by kernel_rfl) ?_ _
        clear xc xz
        go_wp2_with fail
        exact ⟨⟨n+1,_,_,by go_num,by omega,by rw [HW.out];exact hR5.far (by omega) _,hS5.set _,hQ5.far (by omega) _,b5.setCell (Nat.le_refl _) _⟩,by simp [intOf];omega⟩
    ·have htk:gs.take n=gs:=List.take_of_length_le (by omega)
     rw [htk] at hR
     have hkn':¬ (n:Int) < gs.length:=by omega
     obtain ⟨av,gv,cv,rfl,_⟩:=hR.b.ss
     generalize M.pick [] gs ll=mm at *
     have p0:=hP.c
     have pf:=hP.fz
     have q0:=hY.c
     have qf:=hY.fz
     have lP:=hP.lt
     have lQ:=hY.lt
     have hne:w.heap.size+1≠W2.heap.size:=by omega
     have hbw:=bw1.trans (hbel.mono bw1.size)
     have hsz:=bw1.size
     go_wp2_with fail
     have q1:=(hY.set (.slice av mm.length cv)).c
     exact bodyPost_ret (v:=.tuple #[.agg #[.slice av mm.length cv],.bool true]) (by simp [results,Tryz.results19,go_sem,q1]) rfl ⟨_,by rw [HY1.out],⟨vs,by rw [HY2.out];exact (hR.far (by omega) _).mono (by omega)⟩,hbw.setCell (by show w.heap.size≤w.heap.size+1;omega) _⟩
end Go.Proofs.YtihfibjckkmmbaaGreat
namespace Go.Proofs.YtihfibjckkmmbaaGreat
open Go.RowKit
theorem run_append_zero {P:Program} (w:World) (t ty e:TypeId) (i:TypeInfo) (ht:P.underlying t=some (.slice e)) (hi:P.info? e=some i) {base size n:Nat} {v:Value} {xs:List Value} {e':TypeId} (hown:w.ownsRow base e' size v n xs) (a:Option Addr) (c:Nat) :
  (Builtin.append_ #[t,t] ty #[v,.slice a 0 c]).run P w=.ok v w:=by
 rcases hown.2 with ⟨hv,h0⟩ | ⟨g,cap,cur,hv,_,_,hnc,_⟩
 ·subst hv
  cases a
  ·simp [Builtin.append_,run_underlying ht,sizeOf,typeInfo,hi,Builtin.lenOf,Builtin.firstCells]
  ·simp [Builtin.append_,run_underlying ht,sizeOf,typeInfo,hi,Builtin.lenOf,Builtin.firstCells,loadCells,loadCellsFrom]
 ·subst hv
  cases a
  ·simp [Builtin.append_,run_underlying ht,sizeOf,typeInfo,hi,Builtin.lenOf,Builtin.firstCells,storeCells,hnc]
  ·simp [Builtin.append_,run_underlying ht,sizeOf,typeInfo,hi,Builtin.lenOf,Builtin.firstCells,loadCells,loadCellsFrom,storeCells,hnc]
theorem wpList_append_zero {P:Program} {w:World} {ops:Array Oper} {rest:List Oper} {o:Oper} {a:Act} {Q:Exit→Act→World→Prop} (hgd:o.guard=none) (s x:Operand) (t:TypeId)
  (ho:o.op=.call { callee:=.builtin .append,args:=#[s,x],argTypes:=#[t,t] }) (d:Option Tmp) (hd:o.dst=d) (e:TypeId) (i:TypeInfo) (ht:P.underlying t=some (.slice e)) (hi:P.info? e=some i)
  {base size n:Nat} {v:Value} {xs:List Value} {e':TypeId} (hs:a.eval s=v) (hown:w.ownsRow base e' size v n xs) (b:Option Addr) (m c:Nat) (hm:m=0) (hx:a.eval x=.slice b m c)
  (h:wpList P ops Q rest (a.put d v) w):wpList P ops Q (o::rest) a w:=by
 subst hd
 subst hm
 refine wpList_plain hgd fun K hK=>?_
 have hrun:=run_append_zero (P:=P) w t o.type e i ht hi hown b c
 unfold Oper.wp
 simp [execOp,ho,resolve,invoke,builtin,hs,hx,hrun,Result.andThen]
 exact hK _ _ h
end Go.Proofs.YtihfibjckkmmbaaGreat
