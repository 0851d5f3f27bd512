/- A program that is being read: its threads in rows of the call's own, no two of them in one. No condition. And what goes with it: RdM, RdS, RdT, RdP. -/
import Derived.Test.YtnddmlgnngdaoaaGreatDoorRows
import Derived.Test.YtnddmlgnngdaoaaGreatDoorQsak
import Derived.Test.YtnddmlgnngdaoaaGreatDoorQsam
namespace Go.Proofs.YtnddmlgnngdaoaaGreatDoor
section
open Go.RowKit
structure Rdg (w:World) (B:Nat) (v:Value) (ll:List (List M.D)) (vs:List Value):Prop where
 b:Build w B v ll vs
 ap:∀ i j (hi:i < vs.length) (hj:j < vs.length),i≠j→∀ k,vs[i].ownBlock=some k→vs[j].ownBlock≠some k
theorem Rdg.below {w w':World} {B:Nat} {v:Value} {ll:List (List M.D)} {vs:List Value} (h:Rdg w B v ll vs) (hb:Below w.heap.size w w'):Rdg w' B v ll vs :=
 ⟨⟨ownsRow_below h.b.outer hb,h.b.len,fun i h1 h2=>ownsRow_below (h.b.inner i h1 h2) hb⟩,h.ap⟩
theorem Rdg.far {w:World} {B:Nat} {v:Value} {ll:List (List M.D)} {vs:List Value} (h:Rdg w B v ll vs) {b i:Nat} (hb:b < B) (u:Value):Rdg (w.setCell ⟨b,i,none⟩ u) B v ll vs:=⟨h.b.far hb u,h.ap⟩
theorem Rdg.nil (w:World) (B:Nat):Rdg w B (.slice none 0 0) [] []:=⟨Build.nil w B,fun _ _ h=>absurd h (Nat.not_lt_zero _)⟩
theorem Rdg.mono {w:World} {B B':Nat} {v:Value} {ll:List (List M.D)} {vs:List Value} (h:Rdg w B v ll vs) (hB:B'≤B):Rdg w B' v ll vs:=⟨h.b.mono hB,h.ap⟩
theorem Rdg.snoc {w w':World} {B:Nat} {v v':Value} {ll:List (List M.D)} {vs:List Value} (h:Rdg w B v ll vs)
  (ho:w'.ownsRow B 45 1 v' (ll.length+1) (vs++[.slice none 0 0])) (hg:w.grownBy w' v.ownBlock):Rdg w' B v' (ll++[[]]) (vs++[.slice none 0 0]):=by
 refine ⟨h.b.snoc (World.ownsRow_nil _ _ _ _) ho hg,fun i j hi hj hne k hk=>?_⟩
 by_cases h1:i < vs.length
 ·rw [List.getElem_append_left h1] at hk
  by_cases h2:j < vs.length
  ·rw [List.getElem_append_left h2]
   exact h.ap i j h1 h2 hne k hk
  ·rw [List.getElem_append_right (by omega)]
   have:j - vs.length=0:=by simp at hj;omega
   simp [this,Value.ownBlock]
 ·rw [List.getElem_append_right (by omega)] at hk
  have:i - vs.length=0:=by simp at hi;omega
  simp [this,Value.ownBlock] at hk
theorem Rdg.snocT {w w':World} {B:Nat} {v v' x:Value} {ll:List (List M.D)} {vs:List Value} {l:List M.D} (h:Rdg w B v ll vs) (hx:w.ownsRow B 48 3 x l.length (flat l)) (hap:∀ i (hi:i < vs.length) k,vs[i].ownBlock=some k→x.ownBlock≠some k)
  (ho:w'.ownsRow B 45 1 v' (ll.length+1) (vs++[x])) (hg:w.grownBy w' v.ownBlock):Rdg w' B v' (ll++[l]) (vs++[x]):=by
 refine ⟨h.b.snoc hx ho hg,fun i j hi hj hne k hk=>?_⟩
 by_cases h1:i < vs.length
 ·rw [List.getElem_append_left h1] at hk
  by_cases h2:j < vs.length
  ·rw [List.getElem_append_left h2]
   exact h.ap i j h1 h2 hne k hk
  ·rw [List.getElem_append_right (by omega)]
   have:j - vs.length=0:=by simp at hj;omega
   simp only [this,List.getElem_cons_zero]
   exact hap i h1 k hk
 ·rw [List.getElem_append_right (by omega)] at hk
  have:i - vs.length=0:=by simp at hi;omega
  simp only [this,List.getElem_cons_zero] at hk
  have h2:j < vs.length:=by simp at hi hj;omega
  rw [List.getElem_append_left h2]
  exact fun e=>hap j h2 k e hk
theorem Rdg.add {w w1 w2:World} {B G n c g' cap':Nat} {x:Value} {L:List (List M.D)} {t:List M.D} {d:M.D} {us:List Value} (h:Rdg w B (.slice (some ⟨G,0,none⟩) n c) (L++[t]) (us++[x]))
  (hb:Below w.heap.size w w1) (hg:w1.grownBy w2 x.ownBlock) (ho:w2.ownsRow B 48 3 (.slice (some ⟨g',0,none⟩) (t++[d]).length cap') (t++[d]).length (flat (t++[d]))) (hat:x.ownBlock=some g'∨g'=w1.heap.size) :
  Rdg (w2.setCell ⟨G,L.length,none⟩ (.slice (some ⟨g',0,none⟩) (t++[d]).length cap')) B (.slice (some ⟨G,0,none⟩) n c) (L++[t++[d]]) (us++[.slice (some ⟨g',0,none⟩) (t++[d]).length cap']):=by
 have hlen:us.length=L.length:=by have:=h.b.len;simp at this;exact this
 have h1:=h.below hb
 have hx:w1.ownsRow B 48 3 x t.length (flat t):=by
  have:=h1.b.inner L.length (by simp) (by simp;omega)
  have e1:(L++[t])[L.length]'(by simp)=t:=by simp
  have e2:(us++[x])[L.length]'(by simp;omega)=x:=by rw [List.getElem_append_right (by omega)];simp [hlen]
  rw [e1,e2] at this
  exact this
 have hn:n=(L++[t]).length:=by
  rcases h1.b.outer.2 with ⟨hv,_⟩ | ⟨_,_,_,hv,_⟩
  ·simp at hv
  ·simp only [Value.slice.injEq] at hv;exact hv.2.1
 subst hn
 have hout2:=h1.b.outer.kept hg (own_apart h1.b.outer hx (by decide))
 obtain ⟨hout3,hgs⟩:=hout2.stored L.length (.slice (some ⟨g',0,none⟩) (t++[d]).length cap')
 have eset:(us++[x]).set L.length (.slice (some ⟨g',0,none⟩) (t++[d]).length cap')=us++[.slice (some ⟨g',0,none⟩) (t++[d]).length cap']:=by
  rw [← hlen,List.set_append_right _ _ (Nat.le_refl _)]
  simp
 rw [eset] at hout3
 have hoff:∀ i (hi:i < us.length),us[i].ownBlock=none∨us[i].ownBlock≠x.ownBlock:=fun i hi=>by
  cases hk:us[i].ownBlock with
  | none=>exact Or.inl rfl
  | some k =>
   refine Or.inr fun e=>?_
   have:=h.ap i us.length (by simp;omega) (by simp) (by omega) k (by rw [List.getElem_append_left hi];exact hk)
   rw [List.getElem_append_right (Nat.le_refl _)] at this
   simp at this
   exact this e.symm
 refine ⟨⟨by simpa using hout3,by simp [hlen],fun i hi hi'=>?_⟩,fun i j hi hj hne k hk=>?_⟩
 ·by_cases hl:i < L.length
  ·rw [List.getElem_append_left hl,List.getElem_append_left (by omega)]
   have:=h1.b.inner i (by simp;omega) (by simp;omega)
   rw [List.getElem_append_left hl,List.getElem_append_left (by omega)] at this
   have k2:=this.kept hg (hoff i (by omega))
   refine ownsRow_setCell_other k2 (a:=⟨G,L.length,none⟩) ?_ _
   rcases own_apart k2 hout2 (by decide) with e | e
   ·rw [e];simp
   ·exact e
  ·have:i=L.length:=by simp at hi;omega
   subst this
   have e1:(L++[t++[d]])[L.length]'hi=t++[d]:=by simp
   have e2:(us++[Value.slice (some ⟨g',0,none⟩) (t++[d]).length cap'])[L.length]'hi'=.slice (some ⟨g',0,none⟩) (t++[d]).length cap':=by rw [List.getElem_append_right (by omega)];simp [hlen]
   rw [e1,e2]
   refine ownsRow_setCell_other ho (a:=⟨G,L.length,none⟩) ?_ _
   rcases own_apart ho hout2 (by decide) with e | e
   ·rw [e];simp
   ·exact e
 ·have key:∀ i (hi:i < us.length) k,us[i].ownBlock=some k→g'≠k:=fun i hi k hk e=>by
   subst e
   rcases hat with e | e
   ·rcases hoff i hi with e2 | e2
    ·rw [e2] at hk;cases hk
    ·exact e2 (hk.trans e.symm)
   ·have:=h.b.inner i (by simp;omega) (by simp;omega)
    rw [List.getElem_append_left (show i < us.length from hi)] at this
    have h3:=(this.lt g' hk).2
    have:=hb.size
    omega
  by_cases hl:i < us.length
  ·rw [List.getElem_append_left hl] at hk
   by_cases hj':j < us.length
   ·rw [List.getElem_append_left hj']
    have:=h.ap i j (by simp;omega) (by simp;omega) hne k (by rw [List.getElem_append_left hl];exact hk)
    rw [List.getElem_append_left hj'] at this
    exact this
   ·rw [List.getElem_append_right (by omega)]
    have e0:j - us.length=0:=by simp at hj;omega
    simp only [e0,List.getElem_cons_zero,Value.ownBlock]
    exact fun e=>key i hl k hk (Option.some.inj e)
  ·rw [List.getElem_append_right (by omega)] at hk
   have e0:i - us.length=0:=by simp at hi;omega
   simp only [e0,List.getElem_cons_zero,Value.ownBlock] at hk
   have hj':j < us.length:=by simp at hi hj;omega
   rw [List.getElem_append_left hj']
   exact fun e=>key j hj' k e (Option.some.inj hk)
end
section
open Go.RowKit
def HasMax (w:World):Prop:=∃ m,w.cell? ⟨Tryz.laysM145_ren.g 1,0,none⟩=some (.int .i64 m)
theorem HasMax.of {w:World} (h:w.ShapedOpen Tryz.prog):HasMax w:=Tryz.laysM145.s1_3 w h
theorem HasMax.below {w w':World} {B:Nat} (h:HasMax w) (hb:Below B w w') (hB:w.heap.size≤B):HasMax w':=by
 obtain ⟨m,hm⟩:=h
 exact ⟨m,(hb.cell (p:=⟨Tryz.laysM145_ren.g 1,0,none⟩) (Nat.lt_of_lt_of_le (World.block_lt_of_cell? _ _ hm) hB)).trans hm⟩
theorem belDrew {B:Nat} {a b:World} (h:Below B a b) (n:Nat):Below B a (b.drewN n):=h.trans ⟨rfl,rfl,rfl,Nat.le_refl _,fun _ _=>rfl⟩
theorem cut_any (s:List UInt8) (c:UInt8) (w:World) (hs:s.length≤400) (hm:HasMax w) :
  Calls Tryz.prog 152 #[.string ⟨s.toArray⟩,.string ⟨#[c]⟩] w fun e w'=>e=.returned (.tuple #[.string ⟨(Lib.cut s [c]).1.toArray⟩,.string ⟨(Lib.cut s [c]).2.1.toArray⟩,.bool (Lib.cut s [c]).2.2])∧∃ n,w'=w.drewN n:=by
 obtain ⟨m,hm⟩:=hm
 exact Tryz.strings_Cut ⟨s.toArray⟩ ⟨#[c]⟩ m w (by simp [ByteArray.size];omega) hm
theorem M.kindOf_none {s:List UInt8} (h:∀ j:Nat,1≤j→j≤9→s≠(M.word j).data.toList):M.kindOf s=0:=by
 have h1:s≠(M.word 1).data.toList:=h 1 (by omega) (by omega)
 have h2:s≠(M.word 2).data.toList:=h 2 (by omega) (by omega)
 have h3:s≠(M.word 3).data.toList:=h 3 (by omega) (by omega)
 have h4:s≠(M.word 4).data.toList:=h 4 (by omega) (by omega)
 have h5:s≠(M.word 5).data.toList:=h 5 (by omega) (by omega)
 have h6:s≠(M.word 6).data.toList:=h 6 (by omega) (by omega)
 have h7:s≠(M.word 7).data.toList:=h 7 (by omega) (by omega)
 have h8:s≠(M.word 8).data.toList:=h 8 (by omega) (by omega)
 have h9:s≠(M.word 9).data.toList:=h 9 (by omega) (by omega)
 unfold M.kindOf
 rw [if_neg h1,if_neg h2,if_neg h3,if_neg h4,if_neg h5,if_neg h6,if_neg h7,if_neg h8,if_neg h9]
theorem M.kindOf_is {s:List UInt8} (n:Nat) (h1:1≤n) (h9:n≤9) (h:s=(M.word n).data.toList):M.kindOf s=n:=by
 rw [h]
 exact M.kindOf_word n ⟨by omega,by omega⟩
set_option maxHeartbeats 400000 in
theorem kindOfWord_any (s:List UInt8) (w:World) :
  Calls Tryz.prog 187 #[.string ⟨s.toArray⟩] w fun e w'=>e=.returned (.tuple #[.int .i64 (M.kindOf s),.bool (M.kindOf s != 0)])∧w'=w:=by
 go_enter Tryz.func187,Tryz.ntmps187
 go_wp2_with fail
 go_loopw [4] (fun s4 wr=>∃ n:Nat,s4=.int .i64 n∧1≤n∧n≤10∧(∀ j:Nat,1≤j→j < n→s≠(M.word j).data.toList)∧wr=w) (fun s4 _=>10 - (intOf s4).toNat)
 case atStart=>exact ⟨1,rfl,by omega,by omega,fun j h1 h2=>by omega,rfl⟩
 case round =>
  obtain ⟨n,rfl,h1,h10,hno,rfl⟩:=hrel
  by_cases h9:n≤9
  ·have HN:Hid (∀ j:Nat,1≤j→j < n→s≠(M.word j).data.toList):=hno
   clear hno
   by_cases hw:s=(M.word n).data.toList
   ·have hk:=M.kindOf_is n h1 h9 hw
    have hk0:((n:Int) != 0)=true:=by simp;omega
    go_wp2_with (go_at_call 60;refine (word_any _ _).mono ?_;rintro e w1 ⟨rfl,rfl⟩)
    exact bodyPost_ret (v:=.tuple #[.int .i64 n,.bool true]) (by simp [results,Tryz.results187,go_sem]) rfl ⟨by rw [hk,hk0],rfl⟩
   ·have hw':((M.word n).toList==s)=false:=by rw [beq_eq_false_iff_ne,ByteArray.toList_eq];exact fun h=>hw h.symm
    go_wp2_with (go_at_call 60;refine (word_any _ _).mono ?_;rintro e w1 ⟨rfl,rfl⟩)
    exact ⟨⟨n+1,by go_num,by omega,by omega,fun j h1 h2=>by
     rcases Nat.lt_or_ge j n with h | h
     ·exact HN.out j h1 h
     ·obtain rfl:j=n:=by omega
      exact hw,trivial⟩,by simp [intOf];omega⟩
  ·have hk:=M.kindOf_none (s:=s) (fun j hj hj9=>hno j hj (by omega))
   clear hno
   go_wp2_with fail
   exact bodyPost_ret (v:=.tuple #[.int .i64 0,.bool false]) (by simp [results,Tryz.results187,go_sem]) rfl ⟨by rw [hk];rfl,rfl⟩
theorem M.cut_le (s:List UInt8) (c:UInt8):(Lib.cut s [c]).1.length≤s.length∧(Lib.cut s [c]).2.1.length≤s.length:=by
 unfold Lib.cut
 split
 ·simp only [List.length_take,List.length_drop]
  omega
 ·simp
theorem M.runes_good (s:ByteArray):∀ (bound i:Nat) (acc:Array Value),(∀ v∈acc.toList,∃ r:Int,v=.int .i32 r∧0≤r∧r≤2147483647)→∀ v∈(Conv.runesFrom s bound i acc).toList,∃ r:Int,v=.int .i32 r∧0≤r∧r≤2147483647
 | 0,_,acc,h=>by simpa [Conv.runesFrom] using h
 | bound+1,i,acc,h=>by
  unfold Conv.runesFrom
  split
  ·refine M.runes_good s bound _ _ fun v hv=>?_
   simp only [Array.toList_push,List.mem_append,List.mem_singleton] at hv
   rcases hv with hv | rfl
   ·exact h v hv
   ·exact ⟨_,rfl,Int.natCast_nonneg _,Int.ofNat_le.2 (decode_le s i)⟩
  ·exact h
theorem M.runes_ok (s:List UInt8):∀ r∈M.runes s,0≤r∧r≤2147483647:=by
 intro r hr
 obtain ⟨v,hv,rfl⟩:=List.mem_map.1 hr
 obtain ⟨r',rfl,h⟩:=M.runes_good ⟨s.toArray⟩ s.length 0 #[] (fun v hv=>by simp at hv) v hv
 exact h
theorem M.runes_int (s:List UInt8):Conv.runesFrom ⟨s.toArray⟩ s.length 0 #[]=((M.runes s).map fun r=>Value.int .i32 r).toArray:=by
 have h:=M.runes_good ⟨s.toArray⟩ s.length 0 #[] (fun v hv=>by simp at hv)
 apply Array.ext'
 unfold M.runes
 rw [List.map_map]
 show _=List.map _ _
 generalize (Conv.runesFrom ⟨s.toArray⟩ s.length 0 #[]).toList=l at h
 symm
 calc l.map _=l.map id:=List.map_congr_left (fun v hv=>by obtain ⟨r,rfl,_⟩:=h v hv;rfl)
  _=l:=by simp
theorem M.runes_len (s:List UInt8):(M.runes s).length≤s.length:=by
 have h:=size_runesFrom ⟨s.toArray⟩ s.length 0 #[]
 simpa [M.runes] using h
def runeRow (R:List Int) (c:Nat):Array Value:=(R.map fun r=>Value.int .i32 r).toArray++Array.replicate c (.int .i32 0)
theorem runesRun (s:List UInt8) (h:s.length≤400) (w:World):(convert 9 260 (.string ⟨s.toArray⟩)).run Tryz.prog w=.ok (.slice (some ⟨w.heap.size,0,none⟩) (M.runes s).length (grownCap w (M.runes s).length 0 21)) (w.drew.alloc (.cells (runeRow (M.runes s) (grownCap w (M.runes s).length 0 21 - (M.runes s).length)) 21)):=by
 have hl:=M.runes_len s
 have e:=M.runes_int s
 have es:(⟨s.toArray⟩:ByteArray).size=s.length:=by simp [ByteArray.size]
 have h1:=run_runes_of_string (P:=Tryz.prog) w 9 260 21 ⟨s.toArray⟩ Tryz.underlying9 Tryz.underlying260 Tryz.underlying21 (by rw [es,e];simp;omega)
 rw [es,e] at h1
 simp only [List.size_toArray,List.length_map] at h1
 exact h1
theorem runeRow_at (R:List Int) (c i:Nat) (h:i < R.length):(runeRow R c)[i]?=some (.int .i32 R[i]):=by
 unfold runeRow
 rw [Array.getElem?_append_left (by simpa using h)]
 simp [h]
theorem runes_ends (R:List Int) (h:R≠[]) (hok:∀ r∈R,0≤r∧r≤2147483647):∃ (n:Nat) (r0 r1:Int),R.length=n+1∧R.head?=some r0∧R.getLast?=some r1∧(∀ c,(runeRow R c)[0]?=some (.int .i32 r0))∧(∀ c,(runeRow R c)[n]?=some (.int .i32 r1))∧(0≤r0∧r0≤2147483647)∧(0≤r1∧r1≤2147483647):=by
 have hl:0 < R.length:=List.length_pos_iff.2 h
 refine ⟨R.length - 1,R[0],R[R.length - 1],by omega,?_,?_,fun c=>runeRow_at R c 0 hl,fun c=>runeRow_at R c _ (by omega),hok _ (List.getElem_mem _),hok _ (List.getElem_mem _)⟩
 ·rw [List.head?_eq_getElem?,List.getElem?_eq_getElem hl]
 ·rw [List.getLast?_eq_getElem?,List.getElem?_eq_getElem (by omega)]
def M.D.val (d:M.D):Value:=.agg #[.int .i64 d.k,.int .i64 d.p,.int .i64 d.v]
def M.d0:M.D:=⟨0,0,0⟩
theorem step_end (w:World) (q:Nat) (x y z:Obj) (a b c:Value):Below w.heap.size w (((((((w.alloc x).drewN q).setCell ⟨w.heap.size,0,none⟩ a).setCell ⟨w.heap.size,1,none⟩ b).setCell ⟨w.heap.size,2,none⟩ c).alloc y).alloc z).drew :=
 ((((((belDrew (below1 w x) q).setCell (Nat.le_refl _) _).setCell (Nat.le_refl _) _).setCell (Nat.le_refl _) _).alloc (by simp) _).alloc (by simp;omega) _).drew
set_option maxHeartbeats 1000000 in
theorem readStep_any (s:List UInt8) (w:World) (hs:s.length≤400) (hm:HasMax w) :
  Calls Tryz.prog 153 #[.string ⟨s.toArray⟩] w fun e w'=>e=.returned (.tuple #[((M.rdStep s).getD M.d0).val,.bool (M.rdStep s).isSome])∧Below w.heap.size w w':=by
 have hcl:=M.cut_le s 32
 have HR:Hid (M.rdStep s=if M.kindOf (Lib.cut s [32]).1=0 then none else some (M.rdDo (M.kindOf (Lib.cut s [32]).1) (M.runes (Lib.cut s [32]).2.1))):=rfl
 have C1:=cut_any s 32 (w.alloc (.cells #[.int .i64 0,.int .i64 0,.int .i64 0] 48)) hs (hm.below (below1 w _) (Nat.le_refl _))
 generalize Lib.cut s [32]=cc at *
 obtain ⟨word,rest,found⟩:=cc
 simp only at hcl HR C1
 have hrl:rest.length≤400:=by omega
 go_enter Tryz.func153,Tryz.ntmps153
 go_wp2_with fail
 refine C1.mono ?_
 rintro e w1 ⟨rfl,q,rfl⟩
 by_cases hk0:M.kindOf word=0
 ·have hk0':(M.kindOf word != 0)=false:=by simpa using hk0
  have hno:M.rdStep s=none:=by have:=HR.out;rw [if_pos hk0] at this;exact this
  clear C1 HR
  go_wp2_with (go_at_call 187;refine (kindOfWord_any _ _).mono ?_;rintro e w1 ⟨rfl,rfl⟩)
  refine bodyPost_ret (v:=.tuple #[.agg #[.int .i64 0,.int .i64 0,.int .i64 0],.bool false]) (by simp [results,Tryz.results153,go_sem]) rfl ⟨by rw [hno];rfl,?_⟩
  exact (((belDrew (below1 w _) q).setCell (Nat.le_refl _) _).setCell (Nat.le_refl _) _).setCell (Nat.le_refl _) _
 ·have hk0':(M.kindOf word != 0)=true:=by simpa using hk0
  have hyes:Hid (M.rdStep s=some (M.rdDo (M.kindOf word) (M.runes rest))):=by have:=HR.out;rw [if_neg hk0] at this;exact this
  clear C1 HR
  have hrr:=runesRun rest hrl
  have hok:=M.runes_ok rest
  have hRl:(M.runes rest).length≤400:=Nat.le_trans (M.runes_len rest) hrl
  have hkw:=kindOfWord_any word
  generalize M.kindOf word=k at *
  generalize M.runes rest=R at *
  cases hu:M.uses k
  ·have hst:M.stores k=false:=by
    cases hs:M.stores k
    ·rfl
    ·rw [M.stores_uses hs] at hu;cases hu
   go_wp2_with (first | (go_at_call 187;refine (hkw _).mono ?_;rintro e w1 ⟨rfl,rfl⟩) | (go_at_call 59;refine (uses_any _ _).mono ?_;rintro e w1 ⟨rfl,rfl⟩) | (go_at_call 61;refine (stores_any _ _).mono ?_;rintro e w1 ⟨rfl,rfl⟩))
   exact bodyPost_ret (v:=.tuple #[.agg #[.int .i64 k,.int .i64 (0),.int .i64 (0)],.bool true]) (by simp [results,Tryz.results153,go_sem]) rfl ⟨by rw [hyes.out];simp [M.rdDo,M.D.val,hu,hst],step_end _ _ _ _ _ _ _ _⟩
  ·by_cases hR:R=[]
   ·subst hR
    cases hst:M.stores k
    ·go_wp2_with (first | (go_at_call 187;refine (hkw _).mono ?_;rintro e w1 ⟨rfl,rfl⟩) | (go_at_call 59;refine (uses_any _ _).mono ?_;rintro e w1 ⟨rfl,rfl⟩) | (go_at_call 61;refine (stores_any _ _).mono ?_;rintro e w1 ⟨rfl,rfl⟩))
     exact bodyPost_ret (v:=.tuple #[.agg #[.int .i64 k,.int .i64 (0),.int .i64 (0)],.bool true]) (by simp [results,Tryz.results153,go_sem]) rfl ⟨by rw [hyes.out];simp [M.rdDo,M.D.val,hu,hst],step_end _ _ _ _ _ _ _ _⟩
    ·go_wp2_with (first | (go_at_call 187;refine (hkw _).mono ?_;rintro e w1 ⟨rfl,rfl⟩) | (go_at_call 59;refine (uses_any _ _).mono ?_;rintro e w1 ⟨rfl,rfl⟩) | (go_at_call 61;refine (stores_any _ _).mono ?_;rintro e w1 ⟨rfl,rfl⟩))
     exact bodyPost_ret (v:=.tuple #[.agg #[.int .i64 k,.int .i64 (0),.int .i64 (0)],.bool true]) (by simp [results,Tryz.results153,go_sem]) rfl ⟨by rw [hyes.out];simp [M.rdDo,M.D.val,hu,hst],step_end _ _ _ _ _ _ _ _⟩
   ·obtain ⟨n,r0,r1,hn,h0,h1,x0,x1,b0,b1⟩:=runes_ends R hR hok
    have hw64:wrap64 (n:Int)=n:=by unfold wrap64;omega
    have w0:IntKind.i32.wrap (r0 - 120)=r0 - 120:=IntWalk.i32_in _ (by omega)
    have w1:IntKind.i32.wrap (r1 - 48)=r1 - 48:=IntWalk.i32_in _ (by omega)
    cases hst:M.stores k
    ·go_wp2_with (first | (go_at_call 187;refine (hkw _).mono ?_;rintro e w1 ⟨rfl,rfl⟩) | (go_at_call 59;refine (uses_any _ _).mono ?_;rintro e w1 ⟨rfl,rfl⟩) | (go_at_call 61;refine (stores_any _ _).mono ?_;rintro e w1 ⟨rfl,rfl⟩))
     exact bodyPost_ret (v:=.tuple #[.agg #[.int .i64 k,.int .i64 (r0 - 120),.int .i64 (0)],.bool true]) (by simp [results,Tryz.results153,go_sem]) rfl ⟨by rw [hyes.out];simp [M.rdDo,M.D.val,hu,hst,h0],step_end _ _ _ _ _ _ _ _⟩
    ·go_wp2_with (first | (go_at_call 187;refine (hkw _).mono ?_;rintro e w1 ⟨rfl,rfl⟩) | (go_at_call 59;refine (uses_any _ _).mono ?_;rintro e w1 ⟨rfl,rfl⟩) | (go_at_call 61;refine (stores_any _ _).mono ?_;rintro e w1 ⟨rfl,rfl⟩))
     exact bodyPost_ret (v:=.tuple #[.agg #[.int .i64 k,.int .i64 (r0 - 120),.int .i64 (r1 - 48)],.bool true]) (by simp [results,Tryz.results153,go_sem]) rfl ⟨by rw [hyes.out];simp [M.rdDo,M.D.val,hu,hst,h0,h1],step_end _ _ _ _ _ _ _ _⟩
end
section
open Go.RowKit
theorem M.cut_lt (s:List UInt8) (c:UInt8) (h:s≠[]):(Lib.cut s [c]).2.1.length < s.length:=by
 have hl:0 < s.length:=List.length_pos_iff.2 h
 unfold Lib.cut
 split
 ·simp only [List.length_drop,List.length_cons,List.length_nil]
  omega
 ·simpa using hl
def textLen:Value→Nat
 | .string b=>b.size
 | _=>0
theorem textLen_of (s:List UInt8):textLen (.string ⟨s.toArray⟩)=s.length:=by simp [textLen,ByteArray.size]
theorem M.lines_app (ll mm:List (List M.D)):M.lines (ll++mm)=M.lines ll+M.lines mm:=by simp [M.lines]
theorem M.lines_len (ll:List (List M.D)):ll.length≤M.lines ll∧∀ t∈ll,t.length≤M.lines ll:=by
 induction ll with
 | nil=>simp
 | cons t ll ih =>
  have e:M.lines (t::ll)=t.length+1+M.lines ll:=by simp [M.lines]
  rw [e]
  refine ⟨by simp only [List.length_cons];omega,fun x hx=>?_⟩
  rcases List.mem_cons.1 hx with rfl | hx
  ·omega
  ·have:=ih.2 x hx;omega
theorem Slot1.bl {w w':World} {b:Nat} {x:Value} (h:Slot1 w b x) (hb:Below w.heap.size w w'):Slot1 w' b x :=
 ⟨(hb.cell (p:=⟨b,0,none⟩) h.lt).trans h.c,(hb.frozen (p:=⟨b,0,none⟩) h.lt).trans h.fz⟩
set_option maxHeartbeats 1000000 in
set_option maxRecDepth 10000 in
theorem readThreads_any (s0:List UInt8) (w:World) (hs0:s0.length≤400) (hm:HasMax w) :
  Calls Tryz.prog 102 #[.string ⟨s0.toArray⟩] w fun e w'=>∃ v,e=.returned (.tuple #[.agg #[v],.bool (M.rdText s0).isSome])∧∃ vs,Rdg w' (w.heap.size+1) v ((M.rdText s0).getD []) vs∧M.lines ((M.rdText s0).getD [])≤400∧Below w.heap.size w w':=by
 obtain ⟨i0,hi,hz0,hz1,hz2⟩:=info_parts Tryz.info45
 obtain ⟨i1,ji,jz0,jz1,jz2⟩:=info_parts Tryz.info48
 go_enter Tryz.func102,Tryz.ntmps102
 go_wp2_with fail
 go_loopw [0] (fun s wr=>∃ (t:List UInt8) (f:Nat) (ll:List (List M.D)) (vs:List Value) (v:Value),s=.string ⟨t.toArray⟩∧M.rdText s0=M.rdAll (f+1) ll t∧t.length≤f∧M.lines ll+t.length≤400∧Rdg wr (w.heap.size+2) v ll vs∧Slot1 wr (w.heap.size+1) v∧Slot1 wr w.heap.size (.slice none 0 0)∧Below w.heap.size w wr) (fun s _=>textLen s)
 case atStart =>
  refine ⟨s0,s0.length,[],[],.slice none 0 0,rfl,rfl,Nat.le_refl _,by simpa [M.lines] using hs0,Rdg.nil _ _,?_,?_,below2 _ _ _⟩
  ·exact ⟨by simp,by simp⟩
  ·exact ⟨by simp,by simp⟩
 case round =>
  obtain ⟨t,f,ll,vs,v,rfl,hrd,hf,hln,hR,hP,hQ,hbel⟩:=hrel
  have HR:Hid (M.rdText s0=M.rdAll (f+1) ll t):=hrd
  clear hrd
  obtain ⟨a,g,c,rfl,hss⟩:=hR.b.ss
  have p0:=hP.c
  have pf:=hP.fz
  have q0:=hQ.c
  have qf:=hQ.fz
  have lP:=hP.lt
  have lQ:=hQ.lt
  have hne:w.heap.size≠w.heap.size+1:=by omega
  by_cases ht:t=[]
  ·subst ht
   have hsome:M.rdText s0=some ll:=by rw [HR.out];simp [M.rdAll]
   go_wp2_with fail
   have q1:=(hQ.set (.slice a ll.length c)).c
   exact bodyPost_ret (v:=.tuple #[.agg #[.slice a ll.length c],.bool true]) (by simp [results,Tryz.results102,go_sem,q1]) rfl ⟨_,by rw [hsome];rfl,vs,by rw [hsome];exact (hR.far (by omega) _).mono (by omega),by rw [hsome];simp at hln ⊢;omega,hbel.setCell (Nat.le_refl _) _⟩
  ·have hmr:=hm.below hbel (Nat.le_refl _)
   have hcl:=M.cut_le t 10
   have hct:=M.cut_lt t 10 ht
   have C1:=cut_any t 10 wr (by omega) hmr
   have hte:t.isEmpty=false:=by cases t with | nil=>exact absurd rfl ht | cons x l=>rfl
   have HR2:Hid (M.rdText s0=match M.rdLine ll (Lib.cut t [10]).1 with | none=>none | some acc'=>M.rdAll f acc' (Lib.cut t [10]).2.1):=by
    show _=_
    rw [HR.out]
    simp only [M.rdAll,hte]
    rfl
   have ht2:(t==[])=false:=by simpa using ht
   clear HR
   generalize Lib.cut t [10]=cc at *
   obtain ⟨line,rest,found⟩:=cc
   simp only at hcl hct HR2 C1
   obtain ⟨f',rfl⟩:∃ f',f=f'+1:=⟨f - 1,by omega⟩
   by_cases hth:line=[116,104,114,101,97,100]
   ·subst hth
    have HR3:Hid (M.rdText s0=M.rdAll (f'+1) (ll++[[]]) rest):=HR2.out
    have hlen:ll.length≤400:=by have:=(M.lines_len ll).1;omega
    have hbd:∀ q:Nat,Below wr.heap.size wr (wr.drewN q):=fun q=>belDrew (Below.refl _ _) q
    have hown:=hR.b.outer
    go_wp2_with (first | (go_at_call 152;refine C1.mono ?_;rintro e w1 ⟨rfl,q,rfl⟩) | (at_builtin;refine wpList_append_lies _ rfl (.tmp 23) (.tmp 24) 25 rfl (w.heap.size+2) 45 i0 _ 1 24 Tryz.underlying25 hi hz0 hz1 hz2 rfl (by decide) _ _ vs rfl (World.ownsRow.alloc (ownsRow_below hown (hbd q)) _) ⟨wr.heap.size,0,none⟩ 1 1 [.slice none 0 0] rfl rfl (World.news_of_block (cs:=#[.slice none 0 0]) (t:=45) (fr:=(0,0)) (heap_alloc_new (wr.drewN q) _)) (by simp [Value.oneCell']) (by omega) (by unfold maxLen;omega) (by omega) (by simp;omega) (wr.heap.size+1) (by simp) ?_))
    intro g2 cap2 w3 hown3 hg3 hat hlt3
    have hge:=own_ge hown
    have hba:Below wr.heap.size wr ((wr.drewN q).alloc (.cells #[.slice none 0 0] 45)):=(hbd q).alloc (Nat.le_refl _) _
    have hP3:=(hP.bl hba).apart hg3 (fun e=>by have:=hge _ e;omega)
    have hQ3:=(hQ.bl hba).apart hg3 (fun e=>by have:=hge _ e;omega)
    have hR3:=(hR.below hba).snoc hown3 hg3
    have hb3:Below w.heap.size w w3:=below_grown (hbel.trans (hba.mono hbel.size)) hg3 (fun k hk=>by have:=hge k hk;omega) (by simp;omega)
    clear hP hQ hR hown hown3 hg3 hat p0 q0 pf qf hss hba hbd
    have p0:=hP3.c
    have pf:=hP3.fz
    go_wp2_with fail
    have hP4:=hP3.set (.slice (some ⟨g2,0,none⟩) (ll.length+1) cap2)
    exact ⟨⟨rest,f',ll++[[]],_,_,rfl,HR3.out,by omega,by rw [M.lines_app];simp [M.lines] at hln ⊢;omega,hR3.far (by omega) _,hP4,hQ3.far (by omega) _,hb3.setCell (by show w.heap.size≤w.heap.size+1;omega) _⟩,by rw [textLen_of,textLen_of];omega⟩
   ·have hth':(line==[116,104,114,101,97,100])=false:=by simpa using hth
    have C2:=fun q=>readStep_any line (wr.drewN q) (by omega) (hmr.below (belDrew (Below.refl wr.heap.size wr) q) (Nat.le_refl _))
    have hbd:∀ q:Nat,Below wr.heap.size wr (wr.drewN q):=fun q=>belDrew (Below.refl _ _) q
    cases hst:M.rdStep line with
    | none =>
     have hnone:M.rdText s0=none:=by rw [HR2.out];simp only [M.rdLine,hth,if_false,hst]
     rw [hst] at C2
     simp only [Option.getD_none,M.D.val,M.d0,Option.isSome_none] at C2
     clear HR2
     go_wp2_with (first | (go_at_call 152;refine C1.mono ?_;rintro e w1 ⟨rfl,q,rfl⟩) | (go_at_call 153;refine (C2 _).mono ?_;rintro e w2 ⟨rfl,hb2⟩;have hP2:=(hP.bl (hbd q)).bl hb2;have hQ2:=(hQ.bl (hbd q)).bl hb2;have p2:=hP2.c;have q2:=hQ2.c;have qf2:=hQ2.fz;have lP2:=hP2.lt;have lQ2:=hQ2.lt))
     have hbw2:Below w.heap.size w w2:=hbel.trans (((hbd q).trans (hb2.mono (by simp))).mono hbel.size)
     have hQ4:=(hQ2.set (.slice none 0 0)).bl (below1 _ (.cells #[.int .i64 0,.int .i64 0,.int .i64 0] 48))
     have q4:=hQ4.c
     exact bodyPost_ret (v:=.tuple #[.agg #[.slice none 0 0],.bool false]) (by simp [results,Tryz.results102,go_sem,q4]) rfl ⟨_,by rw [hnone];rfl,[],by rw [hnone];exact Rdg.nil _ _,by rw [hnone];simp [M.lines],(hbw2.setCell (Nat.le_refl _) _).alloc (by have:=hbw2.size;simp;omega) _⟩
    | some d =>
     rw [hst] at C2
     simp only [Option.getD_some,M.D.val,Option.isSome_some] at C2
     by_cases hll:ll=[]
     ·subst hll
      have hnone:M.rdText s0=none:=by rw [HR2.out];simp only [M.rdLine,hth,if_false,hst];rfl
      clear HR2
      have hw1:wrap64 (-1)=-1:=by unfold wrap64;omega
      go_wp2_with (first | (go_at_call 152;refine C1.mono ?_;rintro e w1 ⟨rfl,q,rfl⟩) | (go_at_call 153;refine (C2 _).mono ?_;rintro e w2 ⟨rfl,hb2⟩;have hP2:=(hP.bl (hbd q)).bl hb2;have hQ2:=(hQ.bl (hbd q)).bl hb2;have p2:=hP2.c;have q2:=hQ2.c;have qf2:=hQ2.fz;have lP2:=hP2.lt;have lQ2:=hQ2.lt))
      have hbw2:Below w.heap.size w w2:=hbel.trans (((hbd q).trans (hb2.mono (by simp))).mono hbel.size)
      have hQ4:=(hQ2.set (.slice none 0 0)).bl (below1 _ (.cells #[.int .i64 d.k,.int .i64 d.p,.int .i64 d.v] 48))
      have q4:=hQ4.c
      exact bodyPost_ret (v:=.tuple #[.agg #[.slice none 0 0],.bool false]) (by simp [results,Tryz.results102,go_sem,q4]) rfl ⟨_,by rw [hnone];rfl,[],by rw [hnone];exact Rdg.nil _ _,by rw [hnone];simp [M.lines],(hbw2.setCell (Nat.le_refl _) _).alloc (by have:=hbw2.size;simp;omega) _⟩
     ·have hne2:ll.isEmpty=false:=by cases ll with | nil=>exact absurd rfl hll | cons x l=>rfl
      have HR3:Hid (M.rdText s0=M.rdAll (f'+1) (M.addLast ll d) rest):=by
       show _=_
       rw [HR2.out];simp only [M.rdLine,hth,if_false,hst,hne2];rfl
      clear HR2
      have hpos:0 < ll.length:=List.length_pos_iff.2 hll
      obtain ⟨L,t0,rfl⟩:∃ L t0,ll=L++[t0]:=⟨ll.dropLast,ll.getLast hll,(List.dropLast_concat_getLast hll).symm⟩
      obtain ⟨us,x,rfl⟩:∃ us x,vs=us++[x]:=by
       have hvl:vs≠[]:=fun e=>by have:=hR.b.len;rw [e] at this;simp at this
       exact ⟨vs.dropLast,vs.getLast hvl,(List.dropLast_concat_getLast hvl).symm⟩
      have hul:us.length=L.length:=by have:=hR.b.len;simp at this;exact this
      obtain ⟨rfl⟩:=hss.addr hpos
      have hlen:L.length≤400:=by have:=(M.lines_len (L++[t0])).1;simp at this;omega
      have hlen0:t0.length≤400:=by have:=(M.lines_len (L++[t0])).2 t0 (by simp);omega
      have hwl:wrap64 (((L++[t0]).length:Int) - 1)=L.length:=by simp only [List.length_append,List.length_cons,List.length_nil];unfold wrap64;omega
      go_wp2_with (first | (go_at_call 152;refine C1.mono ?_;rintro e w1 ⟨rfl,q,rfl⟩) | (go_at_call 153;refine (C2 _).mono ?_;rintro e w2 ⟨rfl,hb2⟩;have hP2:=(hP.bl (hbd q)).bl hb2;have hQ2:=(hQ.bl (hbd q)).bl hb2;have p2:=hP2.c;have q2:=hQ2.c;have qf2:=hQ2.fz;have lP2:=hP2.lt;have lQ2:=hQ2.lt))
      have hb4:Below wr.heap.size wr (w2.alloc (.cells #[.int .i64 d.k,.int .i64 d.p,.int .i64 d.v] 48)):=((hbd q).trans (hb2.mono (by simp))).alloc (by have:=hb2.size;simp at this;omega) _
      have hR4:=hR.below hb4
      have hP4:=hP.bl hb4
      have hQ4:=hQ.bl hb4
      have d0:(w2.alloc (.cells #[.int .i64 d.k,.int .i64 d.p,.int .i64 d.v] 48)).cell? ⟨w2.heap.size,0,none⟩=some (.int .i64 d.k):=by simp
      have d1:(w2.alloc (.cells #[.int .i64 d.k,.int .i64 d.p,.int .i64 d.v] 48)).cell? ⟨w2.heap.size,1,none⟩=some (.int .i64 d.p):=by simp
      have d2:(w2.alloc (.cells #[.int .i64 d.k,.int .i64 d.p,.int .i64 d.v] 48)).cell? ⟨w2.heap.size,2,none⟩=some (.int .i64 d.v):=by simp
      have hbw4:Below w.heap.size w (w2.alloc (.cells #[.int .i64 d.k,.int .i64 d.p,.int .i64 d.v] 48)):=hbel.trans (hb4.mono hbel.size)
      have hw2lt:w.heap.size+1 < w2.heap.size:=lP2
      clear C1 C2 p0 pf q0 qf p2 q2 qf2 hP2 hQ2 hP hQ hR hb2 hbd hb4 hss lP lQ lP2 lQ2 hmr hbel
      generalize w2.alloc (.cells #[.int .i64 d.k,.int .i64 d.p,.int .i64 d.v] 48)=W4 at *
      generalize w2.heap.size=E at *
      have dlt:E < W4.heap.size:=World.block_lt_of_cell? _ _ d0
      have hxr:W4.ownsRow (w.heap.size+2) 48 3 x t0.length (flat t0):=by
       have:=hR4.b.inner L.length (by simp) (by simp;omega)
       have e1:(L++[t0])[L.length]'(by simp)=t0:=by simp
       have e2:(us++[x])[L.length]'(by simp;omega)=x:=by rw [List.getElem_append_right (by omega)];simp [hul]
       rw [e1,e2] at this
       exact this
      obtain ⟨xa,xg,xc,rfl,-,-⟩:=own_steps hxr
      have hout:=hR4.b.outer
      have e1:(L++[t0]).length=L.length+1:=by simp
      have xcell:W4.cell? ⟨g,L.length,none⟩=some (.slice xa t0.length xc):=by
       have:=hout.cells (g:=g) rfl L.length (.slice xa t0.length xc) (by rw [List.getElem?_append_right (by omega)];simp [hul])
       rw [Go.WideShapes.add_plain] at this
       simpa using this
      have xfz:W4.frozen? ⟨g,L.length,none⟩=false:=own_fzS hout _
      have glt:g < W4.heap.size:=World.block_lt_of_cell? _ _ xcell
      have hgge:w.heap.size+2≤g:=own_ge hout g rfl
      have hxge:=own_ge hxr
      have hxg:(Value.slice xa t0.length xc).ownBlock≠some g:=by
       rcases own_apart hxr hout (by decide) with e | e
       ·rw [e];simp
       ·exact e
      have p0:=hP4.c
      rw [e1] at p0
      have lP4:=hP4.lt
      have hal:=below1 W4 (.cells #[.int .i64 d.k,.int .i64 d.p,.int .i64 d.v] 48)
      have hPx:(Value.slice xa t0.length xc).ownBlock≠some (w.heap.size+1):=fun e=>by have:=hxge _ e;omega
      have hLi:(L.length:Int) < L.length+1:=by omega
      have fin:∀ (g7 cap7:Nat) (w7:World),w7.ownsRow (w.heap.size+2) 48 3 (.slice (some ⟨g7,0,none⟩) (t0.length+1) cap7) (t0.length+1) (flat t0++[.int .i64 d.k,.int .i64 d.p,.int .i64 d.v])→(W4.alloc (.cells #[.int .i64 d.k,.int .i64 d.p,.int .i64 d.v] 48)).grownBy w7 (Value.slice xa t0.length xc).ownBlock→((Value.slice xa t0.length xc).ownBlock=some g7∨g7=W4.heap.size+1) →
        ∃ (t':List UInt8) (f:Nat) (ll:List (List M.D)) (vs:List Value) (v:Value),Value.string ⟨rest.toArray⟩=.string ⟨t'.toArray⟩∧M.rdText s0=M.rdAll (f+1) ll t'∧t'.length≤f∧M.lines ll+t'.length≤400∧Rdg (w7.setCell ⟨g,L.length,none⟩ (.slice (some ⟨g7,0,none⟩) (t0.length+1) cap7)) (w.heap.size+2) v ll vs∧Slot1 (w7.setCell ⟨g,L.length,none⟩ (.slice (some ⟨g7,0,none⟩) (t0.length+1) cap7)) (w.heap.size+1) v∧Slot1 (w7.setCell ⟨g,L.length,none⟩ (.slice (some ⟨g7,0,none⟩) (t0.length+1) cap7)) w.heap.size (.slice none 0 0)∧Below w.heap.size w (w7.setCell ⟨g,L.length,none⟩ (.slice (some ⟨g7,0,none⟩) (t0.length+1) cap7)):=by
       intro g7 cap7 w7 hown7 hg7 hat7
       have hown7':w7.ownsRow (w.heap.size+2) 48 3 (.slice (some ⟨g7,0,none⟩) (t0++[d]).length cap7) (t0++[d]).length (flat (t0++[d])):=by
        rw [flat_append,List.length_append];exact hown7
       have hRn:=hR4.add hal hg7 hown7' (by simpa using hat7)
       have e5:(t0++[d]).length=t0.length+1:=by simp
       rw [e5] at hRn
       have hPn:=((hP4.bl hal).apart hg7 hPx).far (b':=g) (i:=L.length) (by omega) (.slice (some ⟨g7,0,none⟩) (t0.length+1) cap7)
       have hQn:=((hQ4.bl hal).apart hg7 (fun e=>by have:=hxge _ e;omega)).far (b':=g) (i:=L.length) (by omega) (.slice (some ⟨g7,0,none⟩) (t0.length+1) cap7)
       have hbn:Below w.heap.size w (w7.setCell ⟨g,L.length,none⟩ (.slice (some ⟨g7,0,none⟩) (t0.length+1) cap7)):=(below_grown (hbw4.trans (hal.mono hbw4.size)) hg7 (fun k hk=>by have:=hxge k hk;omega) (by simp;omega)).setCell (by show w.heap.size≤g;omega) _
       refine ⟨rest,f',L++[t0++[d]],_,_,rfl,?_,by omega,?_,hRn,hPn,hQn,hbn⟩
       ·rw [HR3.out,M.addLast_app]
       ·rw [M.lines_app] at hln ⊢
        simp [M.lines] at hln ⊢
        omega
      go_region_law (first
       | (refine step_append_lies _ (by rfl) (.tmp 50) (.tmp 52) 45 (by rfl) (w.heap.size+2) 48 i1 _ 3 24 Tryz.underlying45 ji jz0 jz1 jz2 rfl (by omega) (.slice xa t0.length xc) t0.length (flat t0) (by rfl) (hxr.alloc _) ⟨W4.heap.size,0,none⟩ 1 1 [.int .i64 d.k,.int .i64 d.p,.int .i64 d.v] (by rfl) (by rfl) (World.news_of_block (cs:=#[.int .i64 d.k,.int .i64 d.p,.int .i64 d.v]) (t:=48) (fr:=(0,0)) (heap_alloc_new W4 _)) (by simp [Value.oneCell']) (by omega) (by unfold maxLen;omega) (by omega) (by (try simp);omega) (W4.heap.size+1) (by simp) ?_;intro g7 cap7 w7 hown7 hgd hat7 hlt7;(have hg7:(W4.alloc (.cells #[.int .i64 d.k,.int .i64 d.p,.int .i64 d.v] 48)).grownBy w7 (Value.slice xa t0.length xc).ownBlock:=⟨hgd.os,hgd.tape,hgd.output,hgd.size,hgd.block⟩);have p7:=(hg7.cell_far ⟨w.heap.size+1,0,none⟩ (Nat.lt_of_lt_of_le lP4 hal.size) (fun e=>hPx e.symm)).trans ((hal.cell (p:=⟨w.heap.size+1,0,none⟩) lP4).trans p0);have x7:=(hg7.cell_far ⟨g,L.length,none⟩ (Nat.lt_of_lt_of_le glt hal.size) (fun e=>hxg e.symm)).trans ((hal.cell (p:=⟨g,L.length,none⟩) glt).trans xcell);have f7:=(World.frozen?_of_block (a:=⟨g,L.length,none⟩) (hg7.block g (Nat.lt_of_lt_of_le glt hal.size) (fun e=>hxg e.symm))).trans ((hal.frozen (p:=⟨g,L.length,none⟩) glt).trans xfz)))
      all_goals
       go_wp2_with fail
       exact ⟨fin _ _ _ hown7 hg7 hat7,by rw [textLen_of,textLen_of];omega⟩
end
section
open Go.RowKit
noncomputable def M.back (s:List UInt8):Option (List (List M.D)):=if s.length≤400 then (match M.rdText s with | some ll=>if M.prog ll=true∧M.text ll=s then some ll else none | none=>none) else none
theorem M.back_text {ll:List (List M.D)} (h:M.prog ll=true):M.back (M.text ll)=some ll:=by
 obtain ⟨h3,hth⟩:=M.prog_thread h
 have hl:=M.sayProg_le ll (fun t ht=>M.thread_le (hth t ht))
 have e:M.text ll=M.sayProg ll:=by simp [M.text,h]
 unfold M.back
 rw [if_pos (by rw [e];omega)]
 rw [e,M.rdText_back h]
 simp [h,e]
set_option maxHeartbeats 1000000 in
set_option maxRecDepth 10000 in
theorem iprogRead_any (s:List UInt8) (w:World) (hs:s.length≤9223372036854775807) (hm:HasMax w) :
  Calls Tryz.prog 68 #[.string ⟨s.toArray⟩] w fun e w'=>∃ v,e=.returned (.tuple #[.agg #[v],.bool (M.back s).isSome])∧∃ vs,Rdg w' (w.heap.size+1) v ((M.back s).getD []) vs∧Below w.heap.size w w':=by
 by_cases h4:s.length≤400
 ·have n4:¬ (400:Int) < s.length:=by omega
  go_enter Tryz.func68,Tryz.ntmps68
  go_wp2_with fail
  refine (readThreads_any s _ h4 (hm.below (below1 w _) (Nat.le_refl _))).mono ?_
  rintro e w1 ⟨v,rfl,vs,hR,hln,hb1⟩
  simp only [World.size_alloc] at hR
  have hQ1:=(Slot1.new w (.slice none 0 0) 27).bl hb1
  have hbw:Below w.heap.size w w1:=(below1 w _).trans (hb1.mono (by simp))
  have hll:=M.lines_len ((M.rdText s).getD [])
  obtain ⟨a,g,c,rfl,hss⟩:=hR.b.ss
  cases hrd:M.rdText s with
  | none =>
   rw [hrd] at hR hln hll hss
   have hno:M.back s=none:=by unfold M.back;rw [if_pos h4,hrd]
   simp only [Option.isSome_none,Option.getD_none] at *
   have q0:=hQ1.c
   have qf:=hQ1.fz
   have ql:=hQ1.lt
   go_wp2_with fail
   have q4:=((hQ1.set (.slice none 0 0)).bl (below1 _ (.cells #[.slice a 0 c] 27))).c
   exact bodyPost_ret (v:=.tuple #[.agg #[.slice none 0 0],.bool false]) (by simp [results,Tryz.results68,go_sem,q4]) rfl ⟨_,by rw [hno];rfl,[],by rw [hno];exact Rdg.nil _ _,(hbw.setCell (Nat.le_refl _) _).alloc (by have:=hbw.size;simp;omega) _⟩
  | some ll =>
   rw [hrd] at hR hln hll hss
   simp only [Option.isSome_some,Option.getD_some] at *
   have hl1:ll.length≤1048576:=by omega
   have hl2:∀ t∈ll,t.length≤1048576:=fun t ht=>by have:=hll.2 t ht;omega
   have hal:=below1 w1 (.cells #[.slice a ll.length c] 27)
   have hR2:=hR.below hal
   have hss2:=hss.below hal (Nat.le_refl _)
   have hQ2:=hQ1.bl hal
   have hX2:=Slot1.new w1 (.slice a ll.length c) 27
   have hbw2:Below w.heap.size w (w1.alloc (.cells #[.slice a ll.length c] 27)):=hbw.trans (hal.mono hbw.size)
   have hlt:=hQ1.lt
   have HB:Hid (M.back s=if M.prog ll=true∧M.text ll=s then some ll else none):=by
    show _=_
    unfold M.back
    rw [if_pos h4,hrd]
   go_wp2_with fail
   clear hal hR hss hQ1 hb1 hbw hrd
   generalize w1.alloc (.cells #[.slice a ll.length c] 27)=W2 at *
   generalize w1.heap.size=X at *
   refine (iprog_any a g 0 c ll W2 hl1 hl2 hss2).mono ?_
   rintro e W3 ⟨rfl,b3⟩
   have hR3:=hR2.below b3
   have hss3:=hss2.below b3 (Nat.le_refl _)
   have hQ3:=hQ2.bl b3
   have hX3:=hX2.bl b3
   have hbw3:=hbw2.trans (b3.mono hbw2.size)
   have q3:=hQ3.c
   have qf3:=hQ3.fz
   have x3:=hX3.c
   clear hR2 hss2 hQ2 hX2 hbw2 b3
   cases hp:M.prog ll
   ·have hno:M.back s=none:=by rw [HB.out,if_neg (by rw [hp];simp)]
    go_wp2_with fail
    have q4:=(hQ3.set (.slice none 0 0)).c
    exact bodyPost_ret (v:=.tuple #[.agg #[.slice none 0 0],.bool false]) (by simp [results,Tryz.results68,go_sem,q4]) rfl ⟨_,by rw [hno];rfl,[],by rw [hno];exact Rdg.nil _ _,hbw3.setCell (Nat.le_refl _) _⟩
   ·go_wp2_with fail
    refine (iprogText_any a g 0 c ll W3 hl1 hl2 hss3).mono ?_
    rintro e W4 ⟨rfl,b4⟩
    have hR4:=hR3.below b4
    have hQ4:=hQ3.bl b4
    have hX4:=hX3.bl b4
    have hbw4:=hbw3.trans (b4.mono hbw3.size)
    clear hR3 hss3 hQ3 hX3 hbw3 b4 q3 qf3 x3
    have q4:=hQ4.c
    have qf4:=hQ4.fz
    have x4:=hX4.c
    by_cases ht:M.text ll=s
    ·have hyes:M.back s=some ll:=by rw [HB.out,if_pos ⟨hp,ht⟩]
     have hto:(M.text ll==s)=true:=by simpa using ht
     go_wp2_with fail
     have q5:=(hQ4.set (.slice a ll.length c)).c
     exact bodyPost_ret (v:=.tuple #[.agg #[.slice a ll.length c],.bool true]) (by simp [results,Tryz.results68,go_sem,q5]) rfl ⟨_,by rw [hyes];rfl,vs,by rw [hyes];exact (hR4.mono (by omega)).far (by omega) _,hbw4.setCell (Nat.le_refl _) _⟩
    ·have hno:M.back s=none:=by rw [HB.out,if_neg (fun h=>ht h.2)]
     have hto:(M.text ll==s)=false:=by simpa using ht
     go_wp2_with fail
     have q5:=(hQ4.set (.slice none 0 0)).c
     exact bodyPost_ret (v:=.tuple #[.agg #[.slice none 0 0],.bool false]) (by simp [results,Tryz.results68,go_sem,q5]) rfl ⟨_,by rw [hno];rfl,[],by rw [hno];exact Rdg.nil _ _,hbw4.setCell (Nat.le_refl _) _⟩
 ·have n4:(400:Int) < s.length:=by omega
  have hno:M.back s=none:=by unfold M.back;rw [if_neg h4]
  go_enter Tryz.func68,Tryz.ntmps68
  go_wp2_with fail
  exact bodyPost_ret (v:=.tuple #[.agg #[.slice none 0 0],.bool false]) (by simp [results,Tryz.results68,go_sem]) rfl ⟨_,by rw [hno];rfl,[],by rw [hno];exact Rdg.nil _ _,below1 w _⟩
end
end Go.Proofs.YtnddmlgnngdaoaaGreatDoor
