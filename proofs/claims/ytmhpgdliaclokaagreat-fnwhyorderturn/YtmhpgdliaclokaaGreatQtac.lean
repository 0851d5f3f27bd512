/- impl's countKinds over usesPlace. Of threads of at most 1048576 steps. And what goes with it: Count, IProg, SnMath, SnMem, SnFar, Wide, Told, Cont, SnOrd, SnCmp, SnSee, SnIn. -/
import Derived.BigQuiet
import Derived.Deep.AppendLies
import Derived.Deep.RegionHeld3
import Derived.Deep.WholeRow
import Derived.Shelf.Abstract
import Derived.Sort.Grow
import Derived.Test.YtmhpgdliaclokaaGreatRows
import Derived.Test.YtmhpgdliaclokaaGreatQtab
namespace Go.Proofs.YtmhpgdliaclokaaGreat
section
open Go.RowKit
theorem M.cnt_step {f:Int→Bool} {l:List M.D} {m n:Nat} {d:M.D} (hp:M.cnt f l=m+M.cnt f (l.drop n)) (hd:l.drop n=d::l.drop (n+1)) {m':Nat} (hm:m'=m+if f d.k then 1 else 0):M.cnt f l=m'+M.cnt f (l.drop (n+1)):=by
 subst hm;rw [hp,hd,M.cnt_cons];omega
theorem M.cnt_fin {f:Int→Bool} {l:List M.D} {m n:Nat} (hp:M.cnt f l=m+M.cnt f (l.drop n)) (hn:l.length≤n):m=M.cnt f l:=by
 rw [hp,List.drop_eq_nil_of_le hn];rfl
theorem ret_int {k:IntKind} {a b:Int} (h:a=b):Ending.returned (.int k a)=.returned (.int k b):=by rw [h]
set_option maxHeartbeats 400000 in
theorem cntUses_any (a:Option Addr) (b o c:Nat) (l:List M.D) (w:World) (hl:l.length≤1048576) (h:DoS w a b o l) :
  Calls Tryz.prog 103 #[.slice a l.length c,.func (.func 104) #[] #[]] w fun e w'=>e=.returned (.int .i64 (M.cnt M.uses l))∧Below w.heap.size w w':=by
 go_enter Tryz.func103,Tryz.ntmps103
 go_wp2_with fail
 go_loopw [5,10] (fun s5 s10 wr=>∃ m n:Nat,s5=.int .i64 m∧s10=.int .i64 n∧n≤l.length∧m≤n∧M.cnt M.uses l=m+M.cnt M.uses (l.drop n)∧Below w.heap.size w wr) (fun _ s10 _=>l.length - (intOf s10).toNat)
 case atStart=>exact ⟨0,0,rfl,rfl,Nat.zero_le _,Nat.le_refl _,by simp,Below.refl _ _⟩
 case round =>
  obtain ⟨m,n,rfl,rfl,hn,hmn,hpass,hbel⟩:=hrel
  have HP:Hid (M.cnt M.uses l=m+M.cnt M.uses (l.drop n)):=hpass
  clear hpass
  by_cases hlt:n < l.length
  ·obtain ⟨rfl⟩:=h.addr (by omega)
   have hd:=(h.row n hlt).below hbel (Nat.le_refl _)
   have HD:Hid (l.drop n=l[n]::l.drop (n+1)):=M.drop_at l n hlt
   generalize l[n]=d at hd HD
   obtain ⟨k,p,v⟩:=d
   obtain ⟨ck,cp,cv⟩:=hd
   cases hu:M.uses k
   ·go_wp2_with (go_at_call 104;refine (uses_any _ _).mono ?_;rintro e w1 ⟨rfl,rfl⟩)
    exact ⟨⟨m,n+1,rfl,by go_num,by omega,by omega,M.cnt_step HP.out HD.out (by simp [hu]),hbel.alloc hbel.size _⟩,by simp [intOf];omega⟩
   ·go_wp2_with (go_at_call 104;refine (uses_any _ _).mono ?_;rintro e w1 ⟨rfl,rfl⟩)
    exact ⟨⟨m+1,n+1,by go_num,by go_num,by omega,by omega,M.cnt_step HP.out HD.out (by simp [hu]),hbel.alloc hbel.size _⟩,by simp [intOf];omega⟩
  ·go_wp2_with fail
   go_ret
   exact ⟨ret_int (by rw [M.cnt_fin HP.out (by omega)]),hbel⟩
end
section
open Go.RowKit
structure DoSS (w:World) (a:Option Addr) (b o:Nat) (ll:List (List M.D)):Prop where
 addr:0 < ll.length→a=some ⟨b,o,none⟩
 row:∀ i (h:i < ll.length),∃ a' b' o' c',w.cell? ⟨b,o+i,none⟩=some (.slice a' ll[i].length c')∧DoS w a' b' o' ll[i]
theorem DoSS.below {w w':World} {a:Option Addr} {B b o:Nat} {ll:List (List M.D)} (h:DoSS w a b o ll) (hb:Below B w w') (hB:w.heap.size≤B):DoSS w' a b o ll:=by
 refine ⟨h.addr,fun i hi=>?_⟩
 obtain ⟨a',b',o',c',hc,hd⟩:=h.row i hi
 have hl:=World.block_lt_of_cell? _ _ hc
 exact ⟨a',b',o',c',by rw [hb.cell (p:=⟨b,o+i,none⟩) (by show b < B;exact Nat.lt_of_lt_of_le hl hB)];exact hc,hd.below hb hB⟩
theorem M.thread_le {t:List M.D} (h:M.thread t=true):t.length≤7:=by
 simp only [M.thread,Bool.and_eq_true,decide_eq_true_eq] at h;exact h.1.1.1
theorem M.drop_at' (l:List (List M.D)) (n:Nat) (h:n < l.length):l.drop n=l[n]::l.drop (n+1):=(List.getElem_cons_drop h).symm
theorem M.from_bad {l:List (List M.D)} {x u n:Nat} {t:List M.D} (hp:M.progFrom 0 0 l=M.progFrom x u (l.drop n)) (hd:l.drop n=t::l.drop (n+1)) (hb:M.thread t=false):M.prog l=false:=by
 simp [M.prog,hp,hd,M.progFrom,hb]
theorem M.from_ok {l:List (List M.D)} {x u n:Nat} {t:List M.D} (hp:M.progFrom 0 0 l=M.progFrom x u (l.drop n)) (hd:l.drop n=t::l.drop (n+1)) (hb:M.thread t=true):M.progFrom 0 0 l=M.progFrom (x+t.length) (u+M.cnt M.uses t) (l.drop (n+1)):=by
 rw [hp,hd];simp [M.progFrom,hb]
theorem M.from_fin {l:List (List M.D)} {x u n:Nat} (hp:M.progFrom 0 0 l=M.progFrom x u (l.drop n)) (hn:l.length≤n) (h3:l.length≤3):M.prog l=(decide (x≤14)&&decide (u≤6)):=by
 rw [List.drop_eq_nil_of_le hn] at hp
 simp [M.prog,hp,M.progFrom,h3]
set_option maxHeartbeats 400000 in
theorem iprog_any (a : Option Addr) (b o c : Nat) (ll : List (List M.D)) (w : World) (hl : ll.length ≤ 1048576) (hls : ∀ t ∈ ll, t.length ≤ 1048576) (h : DoSS w a b o ll) :
    Calls Tryz.prog 47 #[.agg #[.slice a ll.length c]] w fun e w' => e = .returned (.bool (M.prog ll)) ∧ Below w.heap.size w w' := by
  by_cases h3 : ll.length ≤ 3
  · have h3' : ¬ (3 : Int) < ll.length := by omega
    go_enter Tryz.func47, Tryz.ntmps47
    go_wp2_with fail
    go_loopw [3, 4, 14] (fun s3 s4 s14 wr => ∃ x u n : Nat, s3 = .int .i64 x ∧ s4 = .int .i64 u ∧ s14 = .int .i64 n ∧ n ≤ ll.length ∧ x ≤ 7 * n ∧ u ≤ 7 * n ∧ M.progFrom 0 0 ll = M.progFrom x u (ll.drop n) ∧ Below w.heap.size w wr) (fun _ _ s14 _ => ll.length - (intOf s14).toNat)
    case atStart => exact ⟨0, 0, 0, rfl, rfl, rfl, Nat.zero_le _, Nat.le_refl _, Nat.le_refl _, rfl, below1 _ _⟩
    case round =>
      obtain ⟨x, u, n, rfl, rfl, rfl, hn, hx, hu, hpass, hbel⟩ := hrel
      have HP : Hid (M.progFrom 0 0 ll = M.progFrom x u (ll.drop n)) := hpass
      clear hpass
      by_cases hlt : n < ll.length
      · obtain ⟨rfl⟩ := h.addr (by omega)
        obtain ⟨a', b', o', c', hc, hd⟩ := (h.below hbel (Nat.le_refl _)).row n hlt
        have HD : Hid (ll.drop n = ll[n] :: ll.drop (n + 1)) := M.drop_at' ll n hlt
        have hlt' := hls _ (List.getElem_mem hlt)
        generalize ll[n] = t at hd hc HD hlt'
        cases ht : M.thread t
        · go_wp2_with (go_at_call 102; refine (ithread_any a' b' o' c' t _ hlt' hd).mono ?_; rintro e w1 ⟨rfl, hb1⟩)
          go_ret
          exact ⟨ret_bool (M.from_bad HP.out HD.out ht).symm, hbel.trans (hb1.mono hbel.size)⟩
        · have ht7 := M.thread_le ht
          have hcn := M.cnt_le M.uses t
          go_wp2_with (first | (go_at_call 102; refine (ithread_any a' b' o' c' t _ hlt' hd).mono ?_; rintro e w1 ⟨rfl, hb1⟩) | (go_at_call 103; refine (cntUses_any a' b' o' c' t _ hlt' (hd.below hb1 (Nat.le_refl _))).mono ?_; rintro e w2 ⟨rfl, hb2⟩))
          exact ⟨⟨x + t.length, u + M.cnt M.uses t, n + 1, by go_num, by go_num, by go_num, by omega, by omega, by omega, M.from_ok HP.out HD.out ht, (hbel.trans (hb1.mono hbel.size)).trans (hb2.mono (Nat.le_trans hbel.size hb1.size))⟩, by simp [intOf]; omega⟩
      · by_cases hx14 : (x : Int) ≤ 14
        · go_wp2_with fail
          go_ret
          exact ⟨ret_bool (by rw [M.from_fin HP.out (by omega) h3]; have : x ≤ 14 := by omega
                              simp [this]; omega), hbel⟩
        · have hx14' : decide ((x : Int) ≤ 14) = false := by simpa using hx14
          go_wp2_with fail
          go_ret
          exact ⟨ret_bool (by rw [M.from_fin HP.out (by omega) h3]; have : ¬ x ≤ 14 := by omega
                              simp [this]), hbel⟩
  · have h3' : (3 : Int) < ll.length := by omega
    go_enter Tryz.func47, Tryz.ntmps47
    go_wp2_with fail
    go_ret
    exact ⟨ret_bool (by simp [M.prog, h3]), below1 _ _⟩
end
section
namespace M
def comp:List Int→List Int→Int
 | [],[]=>0
 | [],_::_=>-1
 | _::_,[]=>1
 | x::a,y::b=>if x < y then -1 else if y < x then 1 else comp a b
theorem comp_lt {l m:List Int} {n:Nat} {x y:Int} (h:comp l m=comp (l.drop n) (m.drop n)) (hl:l.drop n=x::l.drop (n+1)) (hm:m.drop n=y::m.drop (n+1)) (hxy:x < y):comp l m=-1:=by
 rw [h,hl,hm,comp,if_pos hxy]
theorem comp_gt {l m:List Int} {n:Nat} {x y:Int} (h:comp l m=comp (l.drop n) (m.drop n)) (hl:l.drop n=x::l.drop (n+1)) (hm:m.drop n=y::m.drop (n+1)) (hxy:y < x):comp l m=1:=by
 rw [h,hl,hm,comp,if_neg (by omega),if_pos hxy]
theorem comp_eq {l m:List Int} {n:Nat} {x y:Int} (h:comp l m=comp (l.drop n) (m.drop n)) (hl:l.drop n=x::l.drop (n+1)) (hm:m.drop n=y::m.drop (n+1)) (h1:¬ x < y) (h2:¬ y < x):comp l m=comp (l.drop (n+1)) (m.drop (n+1)):=by
 rw [h,hl,hm,comp,if_neg h1,if_neg h2]
theorem comp_fst {l m:List Int} {n:Nat} (h:comp l m=comp (l.drop n) (m.drop n)) (hl:l.length≤n) (hm:n < m.length):comp l m=-1:=by
 rw [h,List.drop_eq_nil_of_le hl,(List.getElem_cons_drop hm).symm,comp]
theorem comp_snd {l m:List Int} {n:Nat} (h:comp l m=comp (l.drop n) (m.drop n)) (hl:n < l.length) (hm:m.length≤n):comp l m=1:=by
 rw [h,List.drop_eq_nil_of_le hm,(List.getElem_cons_drop hl).symm,comp]
theorem comp_fin {l m:List Int} {n:Nat} (h:comp l m=comp (l.drop n) (m.drop n)) (hl:l.length≤n) (hm:m.length≤n):comp l m=0:=by
 rw [h,List.drop_eq_nil_of_le hl,List.drop_eq_nil_of_le hm,comp]
theorem drop_int (l:List Int) (n:Nat) (h:n < l.length):l.drop n=l[n]::l.drop (n+1):=(List.getElem_cons_drop h).symm
def cmpS (a1 a2 b1 b2:List Int):Int:=if comp a1 b1=0 then comp a2 b2 else comp a1 b1
def vals (l:List Int):Bool:=l.all fun v=>decide (0≤v)&&decide (v≤3)
theorem vals_bad {l:List Int} {n:Nat} {x:Int} (h:vals l=vals (l.drop n)) (hl:l.drop n=x::l.drop (n+1)) (hx:¬ (0≤x∧x≤3)):vals l=false:=by
 rw [h,hl]
 simp only [vals,List.all_cons]
 have:(decide (0≤x)&&decide (x≤3))=false:=by
  rw [← Bool.decide_and];simpa using hx
 rw [this,Bool.false_and]
theorem vals_ok {l:List Int} {n:Nat} {x:Int} (h:vals l=vals (l.drop n)) (hl:l.drop n=x::l.drop (n+1)) (h0:0≤x) (h3:x≤3):vals l=vals (l.drop (n+1)):=by
 rw [h,hl]
 simp only [vals,List.all_cons]
 have:(decide (0≤x)&&decide (x≤3))=true:=by simp [h0,h3]
 rw [this,Bool.true_and]
theorem vals_fin {l:List Int} {n:Nat} (h:vals l=vals (l.drop n)) (hl:l.length≤n):vals l=true:=by
 rw [h,List.drop_eq_nil_of_le hl];rfl
end M
end
section
open Go.RowKit
structure IntS (w:World) (a:Option Addr) (b o:Nat) (l:List Int):Prop where
 addr:0 < l.length→a=some ⟨b,o,none⟩
 row:∀ i (h:i < l.length),w.cell? ⟨b,o+i,none⟩=some (.int .i64 l[i])
theorem IntS.lt {w:World} {a:Option Addr} {b o:Nat} {l:List Int} (h:IntS w a b o l) (hl:0 < l.length):b < w.heap.size:=World.block_lt_of_cell? _ _ (h.row 0 hl)
theorem IntS.below {w w':World} {a:Option Addr} {B b o:Nat} {l:List Int} (h:IntS w a b o l) (hb:Below B w w') (hB:w.heap.size≤B):IntS w' a b o l :=
 ⟨h.addr,fun i hi=>by rw [hb.cell (p:=⟨b,o+i,none⟩) (Nat.lt_of_lt_of_le (h.lt (by omega)) hB)];exact h.row i hi⟩
theorem IntS.nil (w:World) (a:Option Addr) (b o:Nat):IntS w a b o []:=⟨fun h=>absurd h (Nat.lt_irrefl _),fun _ hi=>absurd hi (Nat.not_lt_zero _)⟩
structure Grown (w w':World):Prop where
 bel:Below w.heap.size w w'
 drawn:w.drawn≤w'.drawn
theorem Grown.refl (w:World):Grown w w:=⟨Below.refl _ _,Nat.le_refl _⟩
theorem Grown.trans {a b c:World} (h:Grown a b) (k:Grown b c):Grown a c:=⟨h.bel.trans (k.bel.mono h.bel.size),Nat.le_trans h.drawn k.drawn⟩
theorem Grown.alloc {a b:World} (h:Grown a b) (o:Obj):Grown a (b.alloc o):=⟨h.bel.alloc h.bel.size o,h.drawn⟩
theorem Grown.drewN {a b:World} (h:Grown a b) (n:Nat):Grown a (b.drewN n):=⟨h.bel.trans ⟨rfl,rfl,rfl,Nat.le_refl _,fun _ _=>rfl⟩,Nat.le_trans h.drawn (Nat.le_add_right _ _)⟩
theorem Grown.drew {a b:World} (h:Grown a b):Grown a b.drew:=h.drewN 1
structure Sn where
 a1:Option Addr
 b1:Nat
 o1:Nat
 c1:Nat
 l1:List Int
 a2:Option Addr
 b2:Nat
 o2:Nat
 c2:Nat
 l2:List Int
structure Sn.At (s:Sn) (w:World):Prop where
 reads:IntS w s.a1 s.b1 s.o1 s.l1
 last:IntS w s.a2 s.b2 s.o2 s.l2
structure Sn.Le (s:Sn) (n:Nat):Prop where
 reads:s.l1.length≤n
 last:s.l2.length≤n
theorem Sn.At.below {s:Sn} {w w':World} {B:Nat} (h:s.At w) (hb:Below B w w') (hB:w.heap.size≤B):s.At w':=⟨h.reads.below hb hB,h.last.below hb hB⟩
theorem Sn.At.grown {s:Sn} {w w':World} (h:s.At w) (hg:Grown w w'):s.At w':=h.below hg.bel (Nat.le_refl _)
end
section
open Go.RowKit
theorem But.grown {rb:Nat} {w0 w w':World} {row:Option Nat} (h:But rb w0 w) (hg:w.grownBy w' row) (hr:∀ k,row=some k→w0.heap.size≤k):But rb w0 w' :=
 ⟨hg.os.trans h.os,hg.tape.trans h.tape,hg.output.trans h.output,Nat.le_trans h.size hg.size,fun k hk hne=>(hg.block k (Nat.lt_of_lt_of_le hk h.size) (fun e=>by have:=hr k e.symm;omega)).trans (h.block k hk hne)⟩
theorem own_ge {w:World} {base:Nat} {e:TypeId} {size:Nat} {v:Value} {n:Nat} {xs:List Value} (h:w.ownsRow base e size v n xs):∀ k,v.ownBlock=some k→base≤k:=fun k hk=>(h.lt k hk).1
theorem below_grown {B:Nat} {w0 w w':World} {row:Option Nat} (h:Below B w0 w) (hg:w.grownBy w' row) (hr:∀ k,row=some k→B≤k) (hB:B≤w.heap.size:=by simp):Below B w0 w' :=
 ⟨hg.os.trans h.os,hg.tape.trans h.tape,hg.output.trans h.output,Nat.le_trans h.size hg.size,fun k hk=>(hg.block k (by omega) (fun e=>by have:=hr k e.symm;omega)).trans (h.block k hk)⟩
theorem ownsRow_below {w w':World} {base:Nat} {e:TypeId} {size:Nat} {v:Value} {n:Nat} {xs:List Value} (h:w.ownsRow base e size v n xs) (hb:Below w.heap.size w w'):w'.ownsRow base e size v n xs:=by
 obtain ⟨h1,h2⟩:=h
 refine ⟨h1,?_⟩
 rcases h2 with h2 | ⟨g,cap,cur,hv,hg,hh,r⟩
 ·exact Or.inl h2
 ·refine Or.inr ⟨g,cap,cur,hv,hg,?_,r⟩
  rw [hb.block g (by by_cases hlt:g < w.heap.size;exact hlt;rw [Array.getElem?_eq_none (by omega)] at hh;cases hh)]
  exact hh
def nums (l:List Int):List Value:=l.map (.int .i64)
structure Slot2 (w:World) (b:Nat) (x y:Value):Prop where
 blk:w.heap[b]?=some (.cells #[x,y] 45 (0,0))
theorem Slot2.lt {w:World} {b:Nat} {x y:Value} (h:Slot2 w b x y):b < w.heap.size:=by
 by_cases hb:b < w.heap.size
 ·exact hb
 ·have:=h.blk;rw [Array.getElem?_eq_none (by omega)] at this;cases this
theorem Slot2.c0 {w:World} {b:Nat} {x y:Value} (h:Slot2 w b x y):w.cell? ⟨b,0,none⟩=some x:=by simp [World.cell?,h.blk]
theorem Slot2.c1 {w:World} {b:Nat} {x y:Value} (h:Slot2 w b x y):w.cell? ⟨b,1,none⟩=some y:=by simp [World.cell?,h.blk]
theorem Slot2.fz {w:World} {b:Nat} {x y:Value} (h:Slot2 w b x y) (i:Nat):w.frozen? ⟨b,i,none⟩=false:=by simp [World.frozen?,h.blk]
theorem Slot2.of {w w':World} {b:Nat} {x y:Value} (h:Slot2 w b x y) (hb:w'.heap[b]?=w.heap[b]?):Slot2 w' b x y:=⟨hb.trans h.blk⟩
theorem Slot2.but {w w':World} {b rb:Nat} {x y:Value} (h:Slot2 w b x y) (hb:But rb w w') (hne:b≠rb):Slot2 w' b x y:=h.of (hb.block b h.lt hne)
theorem Slot2.grown {w w':World} {b B n:Nat} {x y v:Value} {xs:List Value} (h:Slot2 w b x y) (hg:w.grownBy w' v.ownBlock) (ho:w.ownsRow B 3 1 v n xs):Slot2 w' b x y:=by
 refine h.of (hg.block b h.lt fun e=>?_)
 rcases ho.2 with ⟨hv,_⟩ | ⟨g,cap,cur,hv,_,hh,_⟩
 ·rw [hv] at e;simp [Value.ownBlock] at e
 ·rw [hv] at e
  simp [Value.ownBlock] at e
  subst e
  rw [h.blk] at hh
  simp at hh
theorem Slot2.far {w:World} {b b' i:Nat} {x y:Value} (h:Slot2 w b x y) (hne:b'≠b) (u:Value):Slot2 (w.setCell ⟨b',i,none⟩ u) b x y:=h.of (Below.heap_setCell _ _ _ _ (fun e=>hne e.symm))
theorem Slot2.set0 {w:World} {b:Nat} {x y:Value} (h:Slot2 w b x y) (u:Value):Slot2 (w.setCell ⟨b,0,none⟩ u) b u y:=⟨heap_setCell_same w b 0 #[x,y] _ u h.blk⟩
theorem Slot2.set1 {w:World} {b:Nat} {x y:Value} (h:Slot2 w b x y) (u:Value):Slot2 (w.setCell ⟨b,1,none⟩ u) b x u:=⟨heap_setCell_same w b 1 #[x,y] _ u h.blk⟩
theorem own_slot {w:World} {b i B n:Nat} {x y v:Value} {xs:List Value} (ho:w.ownsRow B 3 1 v n xs) (h:Slot2 w b x y) (u:Value):(w.setCell ⟨b,i,none⟩ u).ownsRow B 3 1 v n xs:=by
 refine ⟨ho.1,?_⟩
 rcases ho.2 with h0 | ⟨g,cap,cur,hv,hg,hh,r⟩
 ·exact Or.inl h0
 ·refine Or.inr ⟨g,cap,cur,hv,hg,?_,r⟩
  rw [Below.heap_setCell _ _ _ _ (fun e=>?_)]
  ·exact hh
  ·simp at e
   subst e
   rw [h.blk] at hh
   simp at hh
theorem own_nums {w:World} {base:Nat} {v:Value} {l:List Int} (h:w.ownsRow base 3 1 v l.length (nums l)):∃ a g c,v=.slice a l.length c∧IntS w a g 0 l∧base≤g∧(a=none→c=0):=by
 rcases h.2 with ⟨hv,hn⟩ | ⟨g,cap,cur,hv,hg,hh,r⟩
 ·have:l=[]:=List.length_eq_zero_iff.1 hn
  subst this
  exact ⟨none,base,0,hv,IntS.nil _ _ _ _,Nat.le_refl _,fun _=>rfl⟩
 ·refine ⟨_,g,cap,hv,⟨fun _=>rfl,fun i hi=>?_⟩,hg,fun h=>by cases h⟩
  have hc:=h.cells (g:=g) (by rw [hv];rfl) i (.int .i64 l[i]) (by simp [nums,hi])
  rwa [Go.WideShapes.add_plain] at hc
theorem own_below {v v':Value} {B2:Nat} (h:∀ k,v.ownBlock=some k→k < B2) (h':∀ k,v'.ownBlock=some k→B2≤k):v.ownBlock=none∨v.ownBlock≠v'.ownBlock:=by
 cases hv:v.ownBlock with
 | none=>exact Or.inl rfl
 | some k =>
  refine Or.inr fun e=>?_
  have h1:=h k hv
  have h2:=h' k e.symm
  omega
theorem own_above {v v':Value} {B2:Nat} (h:∀ k,v.ownBlock=some k→k < B2) (h':∀ k,v'.ownBlock=some k→B2≤k):v'.ownBlock=none∨v'.ownBlock≠v.ownBlock:=by
 cases hv:v'.ownBlock with
 | none=>exact Or.inl rfl
 | some k =>
  refine Or.inr fun e=>?_
  have h1:=h' k hv
  have h2:=h k e.symm
  omega
theorem three {m:List Int} (h:m.length=3):∃ x y z,m=[x,y,z]:=by
 match m,h with
 | [x,y,z],_=>exact ⟨x,y,z,rfl⟩
theorem own_cap {w:World} {base g n cap:Nat} {e:TypeId} {size:Nat} {xs:List Value} (h:w.ownsRow base e size (.slice (some ⟨g,0,none⟩) n cap) n xs):n≤cap:=by
 rcases h.2 with ⟨hv,_⟩ | ⟨g',cap',cur,hv,_,_,hc,_⟩
 ·simp at hv
 ·simp at hv
  obtain ⟨_,rfl⟩:=hv
  exact hc
theorem pick2 (q:Nat) (h:q < 2):∃ x:Int,(#[Value.int .i64 (-1),Value.int .i64 4]:Array Value)[q]?=some (.int .i64 x):=by
 match q,h with
 | 0,_=>exact ⟨-1,rfl⟩
 | 1,_=>exact ⟨4,rfl⟩
theorem pick2_alloc (w:World) (t:TypeId) {q:Nat} {x:Int} (h:(#[Value.int .i64 (-1),Value.int .i64 4]:Array Value)[q]?=some (.int .i64 x)):(w.alloc (.cells #[.int .i64 (-1),.int .i64 4] t)).cell? ⟨w.heap.size,q,none⟩=some (.int .i64 x):=by
 exact (World.cell?_alloc_new w _ t q).trans h
theorem alloc_new (w:World) (o:Obj) (n:Nat) (hn:n=w.heap.size):(w.alloc o).heap[n]?=some o:=by subst hn;exact heap_alloc_new w o
theorem alloc_old (w:World) (o:Obj) (k:Nat) (hk:k < w.heap.size):(w.alloc o).heap[k]?=w.heap[k]?:=(below1 w o).block k hk
theorem Tryz.infoInt:(Tryz.prog.info? 3).map (fun i=>(i.zero,i.size,i.bytes))=some (some (.int .i64 0),1,8):=by kernel_rfl
theorem IntS.but {w w':World} {a:Option Addr} {rb b o:Nat} {l:List Int} (h:IntS w a b o l) (hb:But rb w w') (hne:b≠rb):IntS w' a b o l :=
 ⟨h.addr,fun i hi=>by rw [hb.cell (p:=⟨b,o+i,none⟩) (h.lt (by omega)) hne];exact h.row i hi⟩
theorem IntS.far {w:World} {a:Option Addr} {b o B i:Nat} {l:List Int} {u:Value} (h:IntS w a b o l) (hb:0 < l.length→b≠B):IntS (w.setCell ⟨B,i,none⟩ u) a b o l :=
 ⟨h.addr,fun j hj=>by rw [World.cell?_setCell_other _ _ _ _ (fun e=>hb (by omega) (congrArg Addr.block e).symm)];exact h.row j hj⟩
theorem own_fzS {w:World} {B g n cap:Nat} {e:TypeId} {size:Nat} {xs:List Value} (h:w.ownsRow B e size (.slice (some ⟨g,0,none⟩) n cap) n xs) (i:Nat):w.frozen? ⟨g,i,none⟩=false:=by
 rcases h.2 with ⟨hv,_⟩ | ⟨g',cap',cur,hv,_,hh,_⟩
 ·simp at hv
 ·simp at hv
  obtain ⟨rfl,_⟩:=hv
  simp [World.frozen?,hh]
theorem own_capP {w:World} {base g n cap:Nat} {e:TypeId} {size:Nat} {xs:List Value} (h:w.ownsRow base e size (.slice (some ⟨g,0,none⟩) n cap) n xs):n≤cap:=by
 rcases h.2 with ⟨hv,_⟩ | ⟨g',cap',cur,hv,_,_,hc,_⟩
 ·simp at hv
 ·simp at hv
  obtain ⟨_,rfl⟩:=hv
  exact hc
def Sn.blk (s:Sn) (b:Nat):Prop:=(0 < s.l1.length∧b=s.b1)∨(0 < s.l2.length∧b=s.b2)
structure Own2 (w:World) (s:Sn):Prop where
 ne:0 < s.l1.length→0 < s.l2.length→s.b1≠s.b2
 fz:∀ b,s.blk b→∀ j,w.frozen? ⟨b,j,none⟩=false
end
section
open Go.RowKit
theorem takeD {P:Program} {md:Region.Mode} {ops:Array Oper} {Q:Exit→Act→World→Prop} {S:World→Prop} (i:Nat) {oi:Oper} (d:Option Tmp) (v:Value) {fuel:Nat} {listed:Array Bool} {a:Act} {w:World} (hS:S w) (hi:ops[i]?=some oi) (hd:oi.dst=d)
  (hs:Region.noSelect ops=true) (hf:Region.free md ops listed i=true) (hr:(Region.ready md ops listed).contains i=true)
  (hQ:∀ c a w,Q (.panic c) (a.put d v) w→Q (.panic c) a w) (hy:YieldsIf P ops S oi v a)
  (h:wpAnyH P md ops Q S fuel (listed.setIfInBounds i true) (a.put d v) w):wpAnyH P md ops Q S (fuel+1) listed a w:=by
 subst hd
 exact wpAnyH_take hi hs hf hr hQ hy hS h
theorem tk {P:Program} {md:Region.Mode} {ops:Array Oper} {Q:Exit→Act→World→Prop} {S:World→Prop} (i:Nat) {oi:Oper} (t:Nat) (v:Value) {fuel:Nat} {listed:Array Bool} {a:Act} {w:World} (hS:S w) (hi:ops[i]?=some oi) (hd:oi.dst=some t)
    (hy:∀ w,S w→(execOp a.eval oi).run P w=.ok (.value v) w) (h:wpAnyH P md ops Q S fuel (listed.setIfInBounds i true) (a.put (some t) v) w)
    (hs:Region.noSelect ops=true:=by kernel_rfl) (hf:Region.free md ops listed i=true:=by kernel_rfl) (hr:(Region.ready md ops listed).contains i=true:=by kernel_rfl) (hg:Region.wanted oi (yielded ops a.tmps)=true:=by rfl)
    (hQ:∀ c a w,Q (.panic c) (a.put (some t) v) w→Q (.panic c) a w:=by exact fun _ _ _ h=>h):wpAnyH P md ops Q S (fuel+1) listed a w:=takeD i (some t) v hS hi hd hs hf hr hQ (Or.inl ⟨hg,hy⟩) h
theorem tz {P:Program} {md:Region.Mode} {ops:Array Oper} {Q:Exit→Act→World→Prop} {S:World→Prop} (i:Nat) {oi:Oper} (t:Nat) {fuel:Nat} {listed:Array Bool} {a:Act} {w:World} (hS:S w) (hi:ops[i]?=some oi) (hd:oi.dst=some t)
    (h:wpAnyH P md ops Q S fuel (listed.setIfInBounds i true) (a.put (some t) undef) w)
    (hs:Region.noSelect ops=true:=by kernel_rfl) (hf:Region.free md ops listed i=true:=by kernel_rfl) (hr:(Region.ready md ops listed).contains i=true:=by kernel_rfl) (hg:Region.wanted oi (yielded ops a.tmps)=false:=by rfl)
    (hQ:∀ c a w,Q (.panic c) (a.put (some t) undef) w→Q (.panic c) a w:=by exact fun _ _ _ h=>h):wpAnyH P md ops Q S (fuel+1) listed a w:=takeD i (some t) undef hS hi hd hs hf hr hQ (Or.inr ⟨hg,rfl⟩) h
theorem zqa {α:Type} (l:List α) (i:Nat) (a:α):l.toArray.setIfInBounds i a=(l.set i a).toArray:=List.setIfInBounds_toArray l i a
theorem zqb {α:Type} (x a:α) (l:List α):(x::l).set 0 a=a::l:=List.set_cons_zero ..
theorem zqc {α:Type} (x a:α) (l:List α) (n:Nat):(x::l).set (n+1) a=x::l.set n a:=List.set_cons_succ ..
theorem ry {P:Program} {md:Region.Mode} {ops:Array Oper} {Q:Exit→Act→World→Prop} {S:World→Prop} {fuel:Nat} {listed:Array Bool} {a:Act} {w:World} (i:Nat) {o:Oper} (ho:ops[i]?=some o)
    (h:∀ K':Act→World→Prop,Shut (∀ a w,S w→(S w→wpAnyH P md ops Q S fuel (listed.setIfInBounds i true) a w)→K' a w)→if Region.wanted o (yielded ops a.tmps)=true then Oper.wp P o a w K' Q else K' (a.put o.dst undef) w)
    (hr:Region.ready md ops listed=[i]:=by kernel_rfl):wpAnyH P md ops Q S (fuel+1) listed a w:=wpAnyH_ready hr (by simp) (AllReadyH.cons ho h AllReadyH.nil)
theorem wpList_alloc_row {P:Program} {w:World} {ops:Array Oper} {rest:List Oper} {op:Oper} {a:Act} {Q:Exit→Act→World→Prop} (hgd:op.guard=none) (ty:TypeId) (ho:op.op=.alloc ty)
  (z:Array Value) (hz:∀ w,(zeroValue ty).run P w=.ok (.agg z) w)
  (h:wpList P ops Q rest (a.put op.dst (.pointer (some ⟨w.heap.size,0,none⟩))) (w.alloc (.cells z ty))):wpList P ops Q (op::rest) a w:=by
 refine wpList_plain hgd fun _ hK=>?_
 unfold Oper.wp execOp
 simp [ho,Instr.alloc,hz,newVar,Value.cells]
 exact hK _ _ h
theorem wpList_store_new {P:Program} {w:World} {ops:Array Oper} {rest:List Oper} {op:Oper} {a:Act} {Q:Exit→Act→World→Prop} (hgd:op.guard=none) (ty:TypeId) (x y:Operand) (ho:op.op=.store ty x y)
  (c c':Array Value) (hx:a.eval x=.pointer (some ⟨w.heap.size,0,none⟩)) (hy:a.eval y=.agg c') (hi:(P.info? ty).map (·.size)=some c'.size) (hs:c.size=c'.size) (h1:c'.all (·.oneCell')=true)
  (h:wpList P ops Q rest (a.put op.dst undef) (w.alloc (.cells c' ty))):wpList P ops Q (op::rest) a (w.alloc (.cells c ty)):=by
 refine wpList_plain hgd fun _ hK=>?_
 unfold Oper.wp execOp
 simp only [ho,hx,hy,Sem.run_bind,Sem.run_pure,Result.andThen_ok,run_storeAt_new (P:=P) w ty c c' hi hs h1]
 exact hK _ _ h
end
section
open Go.RowKit
structure Told (w W:World) (e:TypeId) (size:Nat) (v:Value) (n:Nat) (xs:List Value):Prop where
 own:W.ownsRow w.heap.size e size v n xs
 bel:Below w.heap.size w W
theorem Told.start (w W:World) (e:TypeId) (size:Nat) (hb:Below w.heap.size w W):Told w W e size (.slice none 0 0) 0 []:=⟨World.ownsRow_nil _ _ _ _,hb⟩
theorem Told.snoc {w W W':World} {e:TypeId} {size:Nat} {v:Value} {n:Nat} {xs:List Value} {o:Obj} (h:Told w W e size v n xs) {g cap m:Nat} {ys:List Value}
  (ho:W'.ownsRow w.heap.size e size (.slice (some ⟨g,0,none⟩) m cap) m ys) (hg:(W.alloc o).grownBy W' v.ownBlock):Told w W' e size (.slice (some ⟨g,0,none⟩) m cap) m ys :=
 ⟨ho,below_grown (h.bel.alloc h.bel.size o) hg (fun k hk=>own_ge h.own k hk) (by have:=h.bel.size;simp;omega)⟩
theorem Told.below {w W W':World} {e:TypeId} {size:Nat} {v:Value} {n:Nat} {xs:List Value} (h:Told w W e size v n xs) (hb:Below W.heap.size W W'):Told w W' e size v n xs :=
 ⟨ownsRow_below h.own hb,h.bel.trans (hb.mono h.bel.size)⟩
theorem own_mono {w:World} {base base':Nat} {e:TypeId} {size:Nat} {v:Value} {n:Nat} {xs:List Value} (h:w.ownsRow base e size v n xs) (hb:base'≤base):w.ownsRow base' e size v n xs:=by
 refine ⟨h.1,?_⟩
 rcases h.2 with h2 | ⟨g,cap,cur,hv,hg,r⟩
 ·exact Or.inl h2
 ·exact Or.inr ⟨g,cap,cur,hv,Nat.le_trans hb hg,r⟩
structure RS {α:Type} (f:α→List Value) (k:Nat) (w:World) (va:Option Addr) (g:Nat) (l:List α):Prop where
 addr:0 < l.length→va=some ⟨g,0,none⟩
 row:∀ i (h:i < l.length) j,j < k→w.cell? ⟨g,i * k+j,none⟩=(f l[i])[j]?
theorem RS.below {α:Type} {f:α→List Value} {k:Nat} {w w':World} {va:Option Addr} {g B:Nat} {l:List α} (h:RS f k w va g l) (hf:∀ x,(f x).length=k) (hb:Below B w w') (hB:w.heap.size≤B):RS f k w' va g l :=
 ⟨h.addr,fun i hi j hj=>by
  have h1:=h.row i hi j hj
  have h2:(f l[i])[j]?=some ((f l[i])[j]'(by rw [hf];exact hj)):=List.getElem?_eq_getElem _
  rw [h2] at h1 ⊢
  exact (hb.cell (p:=⟨g,i * k+j,none⟩) (Nat.lt_of_lt_of_le (World.block_lt_of_cell? _ _ h1) hB)).trans h1⟩
theorem flatten_get {α:Type} (f:α→List Value) (k:Nat) (hf:∀ x,(f x).length=k) (l:List α):∀ i (h:i < l.length) j,j < k→((l.map f).flatten)[i * k+j]?=(f l[i])[j]?:=by
 induction l with
 | nil=>intro i h;exact absurd h (Nat.not_lt_zero _)
 | cons x l ih =>
  intro i h j hj
  rw [List.map_cons,List.flatten_cons]
  cases i with
  | zero =>
   rw [Nat.zero_mul,Nat.zero_add,List.getElem?_append_left (by rw [hf];exact hj)];rfl
  | succ i =>
   have e:(i+1) * k+j=(f x).length+(i * k+j):=by rw [hf,Nat.succ_mul];omega
   rw [e,List.getElem?_append_right (by omega),Nat.add_sub_cancel_left]
   exact ih i (by simpa using h) j hj
theorem own_rs {α:Type} {f:α→List Value} {k:Nat} (hf:∀ x,(f x).length=k) {w:World} {base:Nat} {e:TypeId} {v:Value} {l:List α} (h:w.ownsRow base e k v l.length (l.map f).flatten):∃ va g cap,v=.slice va l.length cap∧RS f k w va g l∧(0 < l.length→base≤g)∧l.length≤cap:=by
 rcases h.2 with ⟨hv,hn⟩ | ⟨g,cap,cur,hv,hg,hh,hc,r⟩
 ·have:l=[]:=List.length_eq_zero_iff.1 hn
  subst this
  exact ⟨none,0,0,hv,⟨fun h=>absurd h (Nat.lt_irrefl _),fun i hi=>absurd hi (Nat.not_lt_zero _)⟩,fun h=>absurd h (Nat.lt_irrefl _),Nat.le_refl _⟩
 ·refine ⟨_,g,cap,hv,⟨fun _=>rfl,fun i hi j hj=>?_⟩,fun _=>hg,hc⟩
  have hcs:=h.cells (g:=g) (by rw [hv];rfl)
  have h1:=flatten_get f k hf l i hi j hj
  have h2:(f l[i])[j]?=some ((f l[i])[j]'(by rw [hf];exact hj)):=List.getElem?_eq_getElem _
  rw [h2] at h1 ⊢
  have:=hcs _ _ h1
  rwa [Go.WideShapes.add_plain,Nat.zero_add] at this
end
section
open Go.RowKit
namespace M
def has (l:List Int) (v:Int):Bool:=l.contains v
theorem has_hit {l:List Int} {v:Int} {n:Nat} (hn:n < l.length) (h:l[n]=v):has l v=true:=by
 simp [has];rw [← h];exact List.getElem_mem hn
theorem has_fin {l:List Int} {v:Int} (h:∀ i (_:i < l.length),l[i]≠v):has l v=false:=by
 simp only [has,List.contains_eq_mem,decide_eq_false_iff_not]
 intro hm
 obtain ⟨i,hi,e⟩:=List.getElem_of_mem hm
 exact h i hi e
end M
set_option maxHeartbeats 400000 in
theorem indexI_any (a:Option Addr) (b o c:Nat) (l:List Int) (v:Int) (w:World) (hl:l.length≤1048576) (h:IntS w a b o l) :
  Calls Tryz.prog 149 #[.slice a l.length c,.int .i64 v] w fun e w'=>∃ r:Int,e=.returned (.int .i64 r)∧decide (0≤r)=M.has l v∧w'=w:=by
 go_enter Tryz.func149,Tryz.ntmps149
 go_wp2_with fail
 go_loopw [8] (fun s8 wr=>∃ n:Nat,s8=.int .i64 n∧n≤l.length∧Hid (∀ i (_:i < n) (h:i < l.length),l[i]≠v)∧wr=w) (fun s8 _=>l.length - (intOf s8).toNat)
 case atStart=>exact ⟨0,rfl,Nat.zero_le _,fun i hi=>absurd hi (Nat.not_lt_zero _),rfl⟩
 case round =>
  obtain ⟨n,rfl,hn,HA,rfl⟩:=hrel
  by_cases hlt:n < l.length
  ·obtain ⟨rfl⟩:=h.addr (by omega)
   have hx:=h.row n hlt
   obtain ⟨y,hy⟩:∃ y,l[n]=y:=⟨_,rfl⟩
   have HY:Hid (l[n]=y):=hy
   rw [hy] at hx
   clear hy
   have i1:(n:Int) < l.length:=by omega
   by_cases e:v=y
   ·subst e
    go_wp2_with fail
    go_ret
    exact ⟨n,rfl,by rw [M.has_hit hlt HY.out];simp,rfl⟩
   ·have e':(v==y)=false:=by simpa using e
    go_wp2_with fail
    exact ⟨⟨n+1,by go_num,by omega,fun i hi hl=>by
     by_cases ei:i=n
     ·subst ei;rw [HY.out];exact fun h=>e h.symm
     ·exact HA.out i (by omega) hl,trivial⟩,by simp [intOf];omega⟩
  ·go_wp2_with fail
   go_ret
   exact ⟨-1,rfl,by rw [M.has_fin (fun i hi=>HA.out i (by omega) hi)];rfl,rfl⟩
theorem containsI_any (a:Option Addr) (b o c:Nat) (l:List Int) (v:Int) (w:World) (hl:l.length≤1048576) (h:IntS w a b o l) :
  Calls Tryz.prog 179 #[.slice a l.length c,.int .i64 v] w fun e w'=>e=.returned (.bool (M.has l v))∧w'=w:=by
 go_enter Tryz.func179,Tryz.ntmps179
 go_wp2_with (go_at_call 149;refine (indexI_any a b o c l v _ hl h).mono ?_;rintro e w' ⟨r,rfl,hr,rfl⟩)
 go_ret
 exact ⟨rfl,rfl⟩
set_option maxHeartbeats 400000 in
theorem l12Has_any (a:Option Addr) (b o c:Nat) (l:List Int) (v:Int) (w:World) (hl:l.length≤1048576) (h:IntS w a b o l) :
  Calls Tryz.prog 85 #[.slice a l.length c,.int .i64 v] w fun e w'=>e=.returned (.bool (M.has l v))∧w'=w:=by
 go_enter Tryz.func85,Tryz.ntmps85
 go_wp2_with fail
 go_loopw [5] (fun s5 wr=>∃ n:Nat,s5=.int .i64 n∧n≤l.length∧Hid (∀ i (_:i < n) (h:i < l.length),l[i]≠v)∧wr=w) (fun s5 _=>l.length - (intOf s5).toNat)
 case atStart=>exact ⟨0,rfl,Nat.zero_le _,fun i hi=>absurd hi (Nat.not_lt_zero _),rfl⟩
 case round =>
  obtain ⟨n,rfl,hn,HA,rfl⟩:=hrel
  by_cases hlt:n < l.length
  ·obtain ⟨rfl⟩:=h.addr (by omega)
   have hx:=h.row n hlt
   obtain ⟨y,hy⟩:∃ y,l[n]=y:=⟨_,rfl⟩
   have HY:Hid (l[n]=y):=hy
   rw [hy] at hx
   clear hy
   have i1:(n:Int) < l.length:=by omega
   by_cases e:y=v
   ·subst e
    go_wp2_with fail
    go_ret
    exact ⟨ret_bool (M.has_hit hlt HY.out).symm,rfl⟩
   ·have e':(y==v)=false:=by simpa using e
    go_wp2_with fail
    exact ⟨⟨n+1,by go_num,by omega,fun i hi hl=>by
     by_cases ei:i=n
     ·subst ei;rw [HY.out];exact e
     ·exact HA.out i (by omega) hl,trivial⟩,by simp [intOf];omega⟩
  ·go_wp2_with fail
   go_ret
   exact ⟨ret_bool (M.has_fin (fun i hi=>HA.out i (by omega) hi)).symm,rfl⟩
end
section
namespace M
theorem comp_self (l:List Int):comp l l=0:=by
 induction l with
 | nil=>rfl
 | cons x l ih=>rw [comp,if_neg (by omega),if_neg (by omega)];exact ih
theorem comp_zero:∀ l m:List Int,comp l m=0→l=m
 | [],[],_=>rfl
 | [],_::_,h=>by rw [comp] at h;cases h
 | _::_,[],h=>by rw [comp] at h;cases h
 | x::l,y::m,h=>by
  rw [comp] at h
  by_cases h1:x < y
  ·rw [if_pos h1] at h;cases h
  ·rw [if_neg h1] at h
   by_cases h2:y < x
   ·rw [if_pos h2] at h;cases h
   ·rw [if_neg h2] at h
    rw [comp_zero l m h,show x=y by omega]
theorem comp_neg:∀ l m:List Int,comp m l=- comp l m
 | [],[]=>rfl
 | [],_::_=>rfl
 | _::_,[]=>rfl
 | x::l,y::m=>by
  rw [comp,comp]
  by_cases h1:x < y
  ·rw [if_pos h1,if_neg (by omega),if_pos h1];rfl
  ·by_cases h2:y < x
   ·rw [if_pos h2,if_neg h1,if_pos h2]
   ·rw [if_neg h2,if_neg h1,if_neg h1,if_neg h2];exact comp_neg l m
theorem comp_trans:∀ l m n:List Int,comp l m < 0→comp m n < 0→comp l n < 0
 | [],[],_,h,_=>by rw [comp] at h;omega
 | [],_::_,[],_,h=>by rw [comp] at h;omega
 | [],_::_,_::_,_,_=>by rw [comp];omega
 | _::_,[],_,h,_=>by rw [comp] at h;omega
 | _::_,_::_,[],_,h=>by rw [comp] at h;omega
 | x::l,y::m,z::n,h,k=>by
  rw [comp] at h k ⊢
  by_cases h1:x < y
  ·by_cases k1:y < z
   ·rw [if_pos (by omega)];omega
   ·rw [if_neg k1] at k
    by_cases k2:z < y
    ·rw [if_pos k2] at k;omega
    ·rw [if_pos (by omega)];omega
  ·rw [if_neg h1] at h
   by_cases h2:y < x
   ·rw [if_pos h2] at h;omega
   ·rw [if_neg h2] at h
    by_cases k1:y < z
    ·rw [if_pos (by omega)];omega
    ·rw [if_neg k1] at k
     by_cases k2:z < y
     ·rw [if_pos k2] at k;omega
     ·rw [if_neg k2] at k
      rw [if_neg (by omega),if_neg (by omega)]
      exact comp_trans l m n h k
theorem cmpS_self (a b:List Int):cmpS a b a b=0:=by rw [cmpS,comp_self,if_pos rfl,comp_self]
theorem cmpS_zero {a1 a2 b1 b2:List Int} (h:cmpS a1 a2 b1 b2=0):a1=b1∧a2=b2:=by
 unfold cmpS at h
 by_cases h0:comp a1 b1=0
 ·rw [if_pos h0] at h;exact ⟨comp_zero _ _ h0,comp_zero _ _ h⟩
 ·rw [if_neg h0] at h;exact absurd h h0
theorem cmpS_neg (a1 a2 b1 b2:List Int):cmpS b1 b2 a1 a2=- cmpS a1 a2 b1 b2:=by
 unfold cmpS
 rw [comp_neg a1 b1,comp_neg a2 b2]
 by_cases h0:comp a1 b1=0
 ·rw [if_pos h0,if_pos (by omega)]
 ·rw [if_neg h0,if_neg (by omega)]
theorem cmpS_trans {a1 a2 b1 b2 c1 c2:List Int} (h:cmpS a1 a2 b1 b2 < 0) (k:cmpS b1 b2 c1 c2 < 0):cmpS a1 a2 c1 c2 < 0:=by
 unfold cmpS at h k ⊢
 by_cases h0:comp a1 b1=0
 ·rw [if_pos h0] at h
  have e:=comp_zero _ _ h0
  subst e
  by_cases k0:comp a1 c1=0
  ·rw [if_pos k0] at k ⊢;exact comp_trans _ _ _ h k
  ·rw [if_neg k0] at k ⊢;exact k
 ·rw [if_neg h0] at h
  by_cases k0:comp b1 c1=0
  ·have e:=comp_zero _ _ k0
   subst e
   rw [if_neg h0];exact h
  ·rw [if_neg k0] at k
   have ht:=comp_trans _ _ _ h k
   rw [if_neg (by omega)];exact ht
def same:List Int→List Int→Bool
 | [],[]=>true
 | x::l,y::m=>x==y&&same l m
 | _,_=>false
theorem same_eq:∀ l m:List Int,same l m=true↔l=m
 | [],[]=>by simp [same]
 | [],_::_=>by simp [same]
 | _::_,[]=>by simp [same]
 | x::l,y::m=>by simp [same,same_eq l m]
def sameS (a1 a2 b1 b2:List Int):Bool:=same a1 b1&&same a2 b2
theorem sameS_eq (a1 a2 b1 b2:List Int):sameS a1 a2 b1 b2=decide (cmpS a1 a2 b1 b2=0):=by
 by_cases h:cmpS a1 a2 b1 b2=0
 ·obtain ⟨rfl,rfl⟩:=cmpS_zero h
  simp [sameS,h,(same_eq _ _).2]
 ·rw [decide_eq_false h]
  by_cases h1:a1=b1
  ·by_cases h2:a2=b2
   ·subst h1;subst h2;exact absurd (cmpS_self _ _) h
   ·have:same a2 b2=false:=by
     cases e:same a2 b2
     ·rfl
     ·exact absurd ((same_eq _ _).1 e) h2
    rw [sameS,this,Bool.and_false]
  ·have:same a1 b1=false:=by
    cases e:same a1 b1
    ·rfl
    ·exact absurd ((same_eq _ _).1 e) h1
   rw [sameS,this,Bool.false_and]
end M
end
section
open Go.RowKit
theorem ret_i {a b:Int} (h:a=b):Ending.returned (.int .i64 a)=.returned (.int .i64 b):=by rw [h]
theorem isNaN_any (x:Int) (w:World) :
  Calls Tryz.prog 203 #[.int .i64 x] w fun e w'=>e=.returned (.bool false)∧w'=w:=by
 go_enter Tryz.func203,Tryz.ntmps203
 go_wp2
 go_ret
 exact ⟨rfl,rfl⟩
def cmp3 (x y:Int):Int:=if x < y then -1 else if y < x then 1 else 0
theorem compare_any (x y:Int) (w:World) :
  Calls Tryz.prog 172 #[.int .i64 x,.int .i64 y] w fun e w'=>e=.returned (.int .i64 (cmp3 x y))∧w'=w:=by
 by_cases h1:x < y
 ·go_enter Tryz.func172,Tryz.ntmps172
  go_wp2_with (go_at_call 203;refine (isNaN_any _ _).mono ?_;rintro e w' ⟨rfl,rfl⟩)
  go_ret
  exact ⟨ret_i (by simp [cmp3,h1]),rfl⟩
 ·by_cases h2:y < x
  ·go_enter Tryz.func172,Tryz.ntmps172
   go_wp2_with (go_at_call 203;refine (isNaN_any _ _).mono ?_;rintro e w' ⟨rfl,rfl⟩)
   go_ret
   exact ⟨ret_i (by simp [cmp3,h1,h2]),rfl⟩
  ·go_enter Tryz.func172,Tryz.ntmps172
   go_wp2_with (go_at_call 203;refine (isNaN_any _ _).mono ?_;rintro e w' ⟨rfl,rfl⟩)
   go_ret
   exact ⟨ret_i (by rw [cmp3,if_neg (by omega),if_neg (by omega)]),rfl⟩
set_option maxHeartbeats 400000 in
theorem slcmp_any (a:Option Addr) (b o c:Nat) (l:List Int) (a2:Option Addr) (b2 o2 c2:Nat) (m:List Int) (w:World) (hl:l.length≤1048576) (hm:m.length≤1048576) (h:IntS w a b o l) (h2:IntS w a2 b2 o2 m) :
  Calls Tryz.prog 122 #[.slice a l.length c,.slice a2 m.length c2] w fun e w'=>e=.returned (.int .i64 (M.comp l m))∧w'=w:=by
 go_enter Tryz.func122,Tryz.ntmps122
 go_wp2_with fail
 go_loopw [11] (fun s11 wr=>∃ n:Nat,s11=.int .i64 n∧n≤l.length∧n≤m.length∧M.comp l m=M.comp (l.drop n) (m.drop n)∧wr=w) (fun s11 _=>l.length - (intOf s11).toNat)
 case atStart=>exact ⟨0,rfl,Nat.zero_le _,Nat.zero_le _,rfl,rfl⟩
 case round =>
  obtain ⟨n,rfl,hn,hnm,hpass,rfl⟩:=hrel
  have HP:Hid (M.comp l m=M.comp (l.drop n) (m.drop n)):=hpass
  clear hpass
  by_cases hlt:n < l.length
  ·obtain ⟨rfl⟩:=h.addr (by omega)
   have HD:Hid (l.drop n=l[n]::l.drop (n+1)):=M.drop_int l n hlt
   have hc:=h.row n hlt
   generalize l[n]=x at HD hc
   by_cases hmt:n < m.length
   ·obtain ⟨rfl⟩:=h2.addr (by omega)
    have HD2:Hid (m.drop n=m[n]::m.drop (n+1)):=M.drop_int m n hmt
    have hc2:=h2.row n hmt
    generalize m[n]=y at HD2 hc2
    by_cases h1:x < y
    ·have e3:cmp3 x y=-1:=by simp [cmp3,h1]
     go_wp2_with (go_at_call 172;refine (compare_any _ _ _).mono ?_;rw [e3];rintro e w' ⟨rfl,rfl⟩)
     go_ret
     exact ⟨ret_i (M.comp_lt HP.out HD.out HD2.out h1).symm,rfl⟩
    ·by_cases h2':y < x
     ·have e3:cmp3 x y=1:=by simp [cmp3,h1,h2']
      go_wp2_with (go_at_call 172;refine (compare_any _ _ _).mono ?_;rw [e3];rintro e w' ⟨rfl,rfl⟩)
      go_ret
      exact ⟨ret_i (M.comp_gt HP.out HD.out HD2.out h2').symm,rfl⟩
     ·have e3:cmp3 x y=0:=by simp [cmp3,h1,h2']
      go_wp2_with (go_at_call 172;refine (compare_any _ _ _).mono ?_;rw [e3];rintro e w' ⟨rfl,rfl⟩)
      exact ⟨⟨n+1,by go_num,by omega,by omega,M.comp_eq HP.out HD.out HD2.out (by omega) (by omega),trivial⟩,by simp [intOf];omega⟩
   ·have hmt':(m.length:Int)≤n:=by omega
    go_wp2_with fail
    go_ret
    exact ⟨ret_i (M.comp_snd HP.out hlt (by omega)).symm,rfl⟩
  ·by_cases hmt:n < m.length
   ·have e1:(l.length:Int) < m.length:=by omega
    go_wp2_with fail
    go_ret
    exact ⟨ret_i (M.comp_fst HP.out (by omega) hmt).symm,rfl⟩
   ·have e1:¬ (l.length:Int) < m.length:=by omega
    go_wp2_with fail
    go_ret
    exact ⟨ret_i (M.comp_fin HP.out (by omega) (by omega)).symm,rfl⟩
set_option maxHeartbeats 400000 in
theorem or_any (b:Nat) (x y:Int) (w:World) (hx:w.cell? ⟨b,0,none⟩=some (.int .i64 x)) (hy:w.cell? ⟨b,1,none⟩=some (.int .i64 y)) :
  Calls Tryz.prog 121 #[.slice (some ⟨b,0,none⟩) 2 2] w fun e w'=>e=.returned (.int .i64 (if x=0 then y else x))∧w'=w:=by
 by_cases h0:x=0
 ·subst h0
  by_cases h1:y=0
  ·subst h1
   go_enter Tryz.func121,Tryz.ntmps121
   go_wp2_with fail
   refine wp_loop_rounds 3 ?_
   rw [rounds_succ]
   go_wp2_with fail
   rw [rounds_succ]
   go_wp2_with fail
   rw [rounds_succ]
   go_wp2_with fail
   go_ret
   exact ⟨ret_i (by simp),rfl⟩
  ·have h1':(y==0)=false:=by simpa using h1
   go_enter Tryz.func121,Tryz.ntmps121
   go_wp2_with fail
   refine wp_loop_rounds 3 ?_
   rw [rounds_succ]
   go_wp2_with fail
   rw [rounds_succ]
   go_wp2_with fail
   go_ret
   exact ⟨ret_i (by simp),rfl⟩
 ·have h0':(x==0)=false:=by simpa using h0
  go_enter Tryz.func121,Tryz.ntmps121
  go_wp2_with fail
  refine wp_loop_rounds 3 ?_
  rw [rounds_succ]
  go_wp2_with fail
  go_ret
  exact ⟨ret_i (by simp),rfl⟩
end
section
open Go.RowKit
theorem alloc2 (w:World) (x y:Obj):Grown w ((w.alloc x).alloc y):=((Grown.refl w).alloc x).alloc y
set_option maxHeartbeats 1000000 in
set_option maxRecDepth 100000 in
theorem compareSeen_any (s t:Sn) (w:World) (hs:s.Le 1048576) (ht:t.Le 1048576) (hsa:s.At w) (hta:t.At w) :
  Calls Tryz.prog 56 #[.agg #[.slice s.a1 s.l1.length s.c1,.slice s.a2 s.l2.length s.c2],.agg #[.slice t.a1 t.l1.length t.c1,.slice t.a2 t.l2.length t.c2]] w fun e w'=>e=.returned (.int .i64 (M.cmpS s.l1 s.l2 t.l1 t.l2))∧Grown w w':=by
 obtain ⟨a1,b1,o1,c1,l1,a2,b2,o2,c2,l2⟩:=s
 obtain ⟨d1,e1,f1,g1,m1,d2,e2,f2,g2,m2⟩:=t
 obtain ⟨hs1,hs2⟩:=hs
 obtain ⟨ht1,ht2⟩:=ht
 obtain ⟨as1,as2⟩:=hsa
 obtain ⟨at1,at2⟩:=hta
 simp only at hs1 hs2 ht1 ht2 as1 as2 at1 at2
 go_enter Tryz.func56,Tryz.ntmps56
 go_wp2_with fail
 have hg0:Grown w (((w.alloc (.cells #[.slice a1 l1.length c1,.slice a2 l2.length c2] 45)).alloc (.cells #[.slice d1 m1.length g1,.slice d2 m2.length g2] 45))):=alloc2 w _ _
 have k1:((w.alloc (.cells #[.slice a1 l1.length c1,.slice a2 l2.length c2] 45)).alloc (.cells #[.slice d1 m1.length g1,.slice d2 m2.length g2] 45)).cell? ⟨w.heap.size,0,none⟩=some (.slice a1 l1.length c1):=by simp
 have k2:((w.alloc (.cells #[.slice a1 l1.length c1,.slice a2 l2.length c2] 45)).alloc (.cells #[.slice d1 m1.length g1,.slice d2 m2.length g2] 45)).cell? ⟨w.heap.size,1,none⟩=some (.slice a2 l2.length c2):=by simp
 have k3:((w.alloc (.cells #[.slice a1 l1.length c1,.slice a2 l2.length c2] 45)).alloc (.cells #[.slice d1 m1.length g1,.slice d2 m2.length g2] 45)).cell? ⟨w.heap.size+1,0,none⟩=some (.slice d1 m1.length g1):=by simp
 have k4:((w.alloc (.cells #[.slice a1 l1.length c1,.slice a2 l2.length c2] 45)).alloc (.cells #[.slice d1 m1.length g1,.slice d2 m2.length g2] 45)).cell? ⟨w.heap.size+1,1,none⟩=some (.slice d2 m2.length g2):=by simp
 generalize (w.alloc (.cells #[.slice a1 l1.length c1,.slice a2 l2.length c2] 45)).alloc (.cells #[.slice d1 m1.length g1,.slice d2 m2.length g2] 45)=W at *
 have x1:=as1.below hg0.drew.bel (Nat.le_refl _)
 have x2:=as2.below hg0.drew.bel (Nat.le_refl _)
 have y1:=at1.below hg0.drew.bel (Nat.le_refl _)
 have y2:=at2.below hg0.drew.bel (Nat.le_refl _)
 generalize w.heap.size=B at *
 have C1:=slcmp_any a1 b1 o1 c1 l1 d1 e1 f1 g1 m1 _ hs1 ht1 x1 y1
 have C2:=slcmp_any a2 b2 o2 c2 l2 d2 e2 f2 g2 m2 _ hs2 ht2 x2 y2
 obtain ⟨r1,hr1⟩:∃ r,M.comp l1 m1=r:=⟨_,rfl⟩
 obtain ⟨r2,hr2⟩:∃ r,M.comp l2 m2=r:=⟨_,rfl⟩
 obtain ⟨ro,hro⟩:∃ r,(if r1=0 then r2 else r1)=r:=⟨_,rfl⟩
 have hcs:M.cmpS l1 l2 m1 m2=ro:=by unfold M.cmpS;rw [hr1,hr2,hro]
 have HR:Hid (M.cmpS l1 l2 m1 m2=ro):=hcs
 have C3:∀ b W',W'.cell? ⟨b,0,none⟩=some (.int .i64 r1)→W'.cell? ⟨b,1,none⟩=some (.int .i64 r2)→Calls Tryz.prog 121 #[.slice (some ⟨b,0,none⟩) 2 2] W' fun e w'=>e=.returned (.int .i64 ro)∧w'=W':=fun b W' h1 h2=>by have h:=or_any b r1 r2 W' h1 h2;rwa [hro] at h
 clear hcs hro
 rw [hr1] at C1
 rw [hr2] at C2
 clear hr1 hr2
 clear as1 as2 at1 at2 x1 x2 y1 y2 hs1 hs2 ht1 ht2
 generalize l1.length=n1 at *
 generalize l2.length=n2 at *
 generalize m1.length=p1 at *
 generalize m2.length=p2 at *
 go_region_held3 (fun w'=>w'.cell? ⟨B,0,none⟩=some (.slice a1 n1 c1)∧w'.cell? ⟨B,1,none⟩=some (.slice a2 n2 c2)∧w'.cell? ⟨B+1,0,none⟩=some (.slice d1 p1 g1)∧w'.cell? ⟨B+1,1,none⟩=some (.slice d2 p2 g2)) (go_keep) (first
  | (go_at_call_of 122 (Value.slice a1 n1 c1);refine C1.mono ?_;rintro e w' ⟨rfl,rfl⟩)
  | (go_at_call_of 122 (Value.slice a2 n2 c2);refine C2.mono ?_;rintro e w' ⟨rfl,rfl⟩)
  | (go_at_call 121;refine (C3 _ _ ?_ ?_).mono ?_;(simp);(simp);rintro e w' ⟨rfl,rfl⟩))
 go_wp2_with fail
 go_ret
 exact ⟨ret_i HR.out.symm,(hg0.alloc _).drew⟩
set_option maxHeartbeats 1000000 in
theorem l2Comp_any (a:Option Addr) (b o c:Nat) (l:List Int) (a2:Option Addr) (b2 o2 c2:Nat) (m:List Int) (w:World) (hl:l.length≤1048576) (hm:m.length≤1048576) (h:IntS w a b o l) (h2:IntS w a2 b2 o2 m) :
  Calls Tryz.prog 114 #[.slice a l.length c,.slice a2 m.length c2] w fun e w'=>e=.returned (.int .i64 (M.comp l m))∧Grown w w':=by
 go_enter Tryz.func114,Tryz.ntmps114
 go_wp2_with fail
 go_loopw [5] (fun s5 wr=>∃ n:Nat,s5=.int .i64 n∧n≤l.length∧n≤m.length∧M.comp l m=M.comp (l.drop n) (m.drop n)∧Grown w wr) (fun s5 _=>l.length - (intOf s5).toNat)
 case atStart=>exact ⟨0,rfl,Nat.zero_le _,Nat.zero_le _,rfl,Grown.refl _⟩
 case round =>
  obtain ⟨n,rfl,hn,hnm,hpass,hg⟩:=hrel
  have HP:Hid (M.comp l m=M.comp (l.drop n) (m.drop n)):=hpass
  clear hpass
  by_cases hlt:n < l.length
  ·obtain ⟨rfl⟩:=h.addr (by omega)
   have HD:Hid (l.drop n=l[n]::l.drop (n+1)):=M.drop_int l n hlt
   have hc:=(h.below hg.bel (Nat.le_refl _)).row n hlt
   generalize l[n]=x at HD hc
   have i1:(n:Int) < l.length:=by omega
   by_cases hmt:n < m.length
   ·obtain ⟨rfl⟩:=h2.addr (by omega)
    have HD2:Hid (m.drop n=m[n]::m.drop (n+1)):=M.drop_int m n hmt
    have hc2:=(h2.below hg.bel (Nat.le_refl _)).row n hmt
    generalize m[n]=y at HD2 hc2
    have i2:(n:Int) < m.length:=by omega
    by_cases h1:x < y
    ·go_wp2_with fail
     go_quiet (fail)
     go_wp2_with fail
     go_ret
     exact ⟨ret_i (M.comp_lt HP.out HD.out HD2.out h1).symm,hg.drewN _⟩
    ·by_cases h2':y < x
     ·go_wp2_with fail
      go_quiet (fail)
      go_wp2_with fail
      go_quiet (fail)
      go_wp2_with fail
      go_ret
      exact ⟨ret_i (M.comp_gt HP.out HD.out HD2.out h2').symm,(hg.drewN _).drewN _⟩
     ·go_wp2_with fail
      go_quiet (fail)
      go_wp2_with fail
      go_quiet (fail)
      go_wp2_with fail
      exact ⟨⟨n+1,by go_num,by omega,by omega,M.comp_eq HP.out HD.out HD2.out (by omega) (by omega),hg.drewN _⟩,by simp [intOf];omega⟩
   ·have hmt':decide ((n:Int) < m.length)=false:=by simp;omega
    have e1:¬ (l.length:Int) < m.length:=by omega
    have e2:(m.length:Int) < l.length:=by omega
    go_wp2_with fail
    go_ret
    exact ⟨ret_i (M.comp_snd HP.out hlt (by omega)).symm,hg⟩
  ·have i1:decide ((n:Int) < l.length)=false:=by simp;omega
   by_cases hmt:n < m.length
   ·have e1:(l.length:Int) < m.length:=by omega
    go_wp2_with fail
    go_ret
    exact ⟨ret_i (M.comp_fst HP.out (by omega) hmt).symm,hg⟩
   ·have e1:¬ (l.length:Int) < m.length:=by omega
    have e2:¬ (m.length:Int) < l.length:=by omega
    go_wp2_with fail
    go_ret
    exact ⟨ret_i (M.comp_fin HP.out (by omega) (by omega)).symm,hg⟩
set_option maxHeartbeats 400000 in
theorem l2Seen_any (s t:Sn) (w:World) (hs:s.Le 1048576) (ht:t.Le 1048576) (hsa:s.At w) (hta:t.At w) :
  Calls Tryz.prog 53 #[.agg #[.slice s.a1 s.l1.length s.c1,.slice s.a2 s.l2.length s.c2],.agg #[.slice t.a1 t.l1.length t.c1,.slice t.a2 t.l2.length t.c2]] w fun e w'=>e=.returned (.int .i64 (M.cmpS s.l1 s.l2 t.l1 t.l2))∧Grown w w':=by
 have hga:=hsa.grown (alloc2 w (.cells #[.slice s.a1 s.l1.length s.c1,.slice s.a2 s.l2.length s.c2] 45) (.cells #[.slice t.a1 t.l1.length t.c1,.slice t.a2 t.l2.length t.c2] 45))
 have hgb:=hta.grown (alloc2 w (.cells #[.slice s.a1 s.l1.length s.c1,.slice s.a2 s.l2.length s.c2] 45) (.cells #[.slice t.a1 t.l1.length t.c1,.slice t.a2 t.l2.length t.c2] 45))
 have C1:=l2Comp_any s.a1 s.b1 s.o1 s.c1 s.l1 t.a1 t.b1 t.o1 t.c1 t.l1 _ hs.reads ht.reads hga.reads hgb.reads
 obtain ⟨r1,hr1⟩:∃ r,M.comp s.l1 t.l1=r:=⟨_,rfl⟩
 rw [hr1] at C1
 by_cases h0:r1=0
 ·subst h0
  go_enter Tryz.func53,Tryz.ntmps53
  go_wp2_with fail
  refine C1.mono ?_
  rintro e w1 ⟨rfl,hg1⟩
  obtain ⟨hc1,hf1⟩:=bcell hg1.bel
  have C2:=l2Comp_any s.a2 s.b2 s.o2 s.c2 s.l2 t.a2 t.b2 t.o2 t.c2 t.l2 _ hs.last ht.last (hga.grown hg1).last (hgb.grown hg1).last
  go_wp2_with fail
  refine C2.mono ?_
  rintro e w2 ⟨rfl,hg2⟩
  go_wp2_with fail
  go_ret
  exact ⟨ret_i (by simp [M.cmpS,hr1]),((alloc2 w _ _).trans hg1).trans hg2⟩
 ·have h0':(r1==0)=false:=by simpa using h0
  go_enter Tryz.func53,Tryz.ntmps53
  go_wp2_with fail
  refine C1.mono ?_
  rintro e w1 ⟨rfl,hg1⟩
  go_wp2_with fail
  go_ret
  exact ⟨ret_i (by simp [M.cmpS,hr1,h0]),(alloc2 w _ _).trans hg1⟩
end
section
open Go.RowKit
abbrev Key:=List Int × List Int
structure KS (w:World) (a:Option Addr) (b o:Nat) (ks:List Key):Prop where
 addr:0 < ks.length→a=some ⟨b,o,none⟩
 row:∀ i (h:i < ks.length),∃ s:Sn,s.l1=ks[i].1∧s.l2=ks[i].2∧w.cell? ⟨b,o+i * 2,none⟩=some (.slice s.a1 s.l1.length s.c1)∧w.cell? ⟨b,o+i * 2+1,none⟩=some (.slice s.a2 s.l2.length s.c2)∧s.At w
def KLe (ks:List Key) (n:Nat):Prop:=∀ k∈ks,k.1.length≤n∧k.2.length≤n
theorem KS.below {w w':World} {a:Option Addr} {B b o:Nat} {ks:List Key} (h:KS w a b o ks) (hb:Below B w w') (hB:w.heap.size≤B):KS w' a b o ks :=
 ⟨h.addr,fun i hi=>by
  obtain ⟨s,h1,h2,c1,c2,ha⟩:=h.row i hi
  have hl:=Nat.lt_of_lt_of_le (World.block_lt_of_cell? _ _ c1) hB
  exact ⟨s,h1,h2,(hb.cell (p:=⟨b,o+i * 2,none⟩) hl).trans c1,(hb.cell (p:=⟨b,o+i * 2+1,none⟩) hl).trans c2,ha.below hb hB⟩⟩
namespace M
def isIn (ks:List Key) (t1 t2:List Int):Bool:=ks.any fun k=>cmpS k.1 k.2 t1 t2==0
theorem isIn_hit {ks:List Key} {t1 t2:List Int} {n:Nat} {k:Key} (h:isIn ks t1 t2=isIn (ks.drop n) t1 t2) (hd:ks.drop n=k::ks.drop (n+1)) (hk:(cmpS k.1 k.2 t1 t2==0)=true):isIn ks t1 t2=true:=by
 rw [h,hd,isIn,List.any_cons,hk,Bool.true_or]
theorem isIn_miss {ks:List Key} {t1 t2:List Int} {n:Nat} {k:Key} (h:isIn ks t1 t2=isIn (ks.drop n) t1 t2) (hd:ks.drop n=k::ks.drop (n+1)) (hk:(cmpS k.1 k.2 t1 t2==0)=false):isIn ks t1 t2=isIn (ks.drop (n+1)) t1 t2:=by
 rw [h,hd,isIn,List.any_cons,hk,Bool.false_or];rfl
theorem isIn_fin {ks:List Key} {t1 t2:List Int} {n:Nat} (h:isIn ks t1 t2=isIn (ks.drop n) t1 t2) (hn:ks.length≤n):isIn ks t1 t2=false:=by
 rw [h,List.drop_eq_nil_of_le hn];rfl
theorem drop_key (ks:List Key) (n:Nat) (h:n < ks.length):ks.drop n=ks[n]::ks.drop (n+1):=(List.getElem_cons_drop h).symm
end M
set_option maxHeartbeats 1000000 in
set_option maxRecDepth 100000 in
theorem sseenIn_any (a:Option Addr) (b o c:Nat) (ks:List Key) (t:Sn) (w:World) (hl:ks.length≤1048576) (hls:KLe ks 1048576) (ht:t.Le 1048576) (h:KS w a b o ks) (hta:t.At w) :
  Calls Tryz.prog 66 #[.slice a ks.length c,.agg #[.slice t.a1 t.l1.length t.c1,.slice t.a2 t.l2.length t.c2]] w fun e w'=>e=.returned (.bool (M.isIn ks t.l1 t.l2))∧Below w.heap.size w w':=by
 have hb0:=below1 w (.cells #[.slice t.a1 t.l1.length t.c1,.slice t.a2 t.l2.length t.c2] 45)
 go_enter Tryz.func66,Tryz.ntmps66
 go_wp2_with fail
 have k0:(w.alloc (.cells #[.slice t.a1 t.l1.length t.c1,.slice t.a2 t.l2.length t.c2] 45)).cell? ⟨w.heap.size,0,none⟩=some (.slice t.a1 t.l1.length t.c1):=by simp
 have k1:(w.alloc (.cells #[.slice t.a1 t.l1.length t.c1,.slice t.a2 t.l2.length t.c2] 45)).cell? ⟨w.heap.size,1,none⟩=some (.slice t.a2 t.l2.length t.c2):=by simp
 generalize w.alloc (.cells #[.slice t.a1 t.l1.length t.c1,.slice t.a2 t.l2.length t.c2] 45)=W at *
 have hW:=h.below hb0 (Nat.le_refl _)
 have htW:=hta.below hb0 (Nat.le_refl _)
 have hcb:w.heap.size < W.heap.size:=World.block_lt_of_cell? _ _ k0
 clear h hta
 go_loopw [5] (fun s5 wr=>∃ n:Nat,s5=.int .i64 n∧n≤ks.length∧M.isIn ks t.l1 t.l2=M.isIn (ks.drop n) t.l1 t.l2∧Below W.heap.size W wr) (fun s5 _=>ks.length - (intOf s5).toNat)
 case atStart=>exact ⟨0,rfl,Nat.zero_le _,rfl,Below.refl _ _⟩
 case round =>
  obtain ⟨n,rfl,hn,hpass,hg⟩:=hrel
  have HP:Hid (M.isIn ks t.l1 t.l2=M.isIn (ks.drop n) t.l1 t.l2):=hpass
  clear hpass
  by_cases hlt:n < ks.length
  ·obtain ⟨rfl⟩:=hW.addr (by omega)
   have HD:Hid (ks.drop n=ks[n]::ks.drop (n+1)):=M.drop_key ks n hlt
   obtain ⟨s,h1,h2,c0,c1,hsa⟩:=(hW.below hg (Nat.le_refl _)).row n hlt
   obtain ⟨e1,e2⟩:=hls _ (List.getElem_mem hlt)
   generalize ks[n]=k at HD h1 h2 e1 e2
   have C:=fun p:BelowOf wr=>(l2Seen_any s t p.x ⟨by rw [h1];exact e1,by rw [h2];exact e2⟩ ht (hsa.below p.h (Nat.le_refl _)) ((htW.below hg (Nat.le_refl _)).below p.h (Nat.le_refl _))).mono fun _ _ ⟨he,hg⟩=>(⟨he,hg.bel⟩:_∧Below p.x.heap.size p.x _)
   obtain ⟨r,hr⟩:∃ r,M.cmpS s.l1 s.l2 t.l1 t.l2=r:=⟨_,rfl⟩
   rw [hr] at C
   rw [h1,h2] at hr
   have HQ:Hid (M.cmpS k.1 k.2 t.l1 t.l2=r):=hr
   clear hr h1 h2 e1 e2 hsa
   have i1:(n:Int) < ks.length:=by omega
   have K0:=BelowOf.cell c0
   have K1:=BelowOf.cell c1
   have K2:=BelowOf.cell ((hg.cell (p:=⟨w.heap.size,0,none⟩) hcb).trans k0)
   have K3:=BelowOf.cell ((hg.cell (p:=⟨w.heap.size,1,none⟩) hcb).trans k1)
   by_cases h0:r=0
   ·subst h0
    go_wp2_with fail
    haveI:Inhabited (BelowOf wr):=⟨belOf wr⟩
    refine wp_region_quiet_bel (by kernel_rfl) (by kernel_rfl) ?_
    repeat (quiet_step (first | (go_at_call 53;exact Calls.bel_of (C _))))
    refine wpQuiet_nil ?_
    rintro _ ⟨⟨wq,hwq⟩,rfl⟩
    go_wp2_with fail
    go_ret
    exact ⟨ret_bool (M.isIn_hit HP.out HD.out (by rw [HQ.out];rfl)).symm,hb0.trans ((hg.trans (hwq.mono hg.size)).mono hb0.size)⟩
   ·have h0':(r==0)=false:=by simpa using h0
    go_wp2_with fail
    haveI:Inhabited (BelowOf wr):=⟨belOf wr⟩
    refine wp_region_quiet_bel (by kernel_rfl) (by kernel_rfl) ?_
    repeat (quiet_step (first | (go_at_call 53;exact Calls.bel_of (C _))))
    refine wpQuiet_nil ?_
    rintro _ ⟨⟨wq,hwq⟩,rfl⟩
    go_wp2_with fail
    exact ⟨⟨n+1,by go_num,by omega,M.isIn_miss HP.out HD.out (by rw [HQ.out];exact h0'),hg.trans (hwq.mono hg.size)⟩,by simp [intOf];omega⟩
  ·go_wp2_with fail
   go_ret
   exact ⟨ret_bool (M.isIn_fin HP.out (by omega)).symm,hb0.trans (hg.mono hb0.size)⟩
end
end Go.Proofs.YtmhpgdliaclokaaGreat
