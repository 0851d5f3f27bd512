/- spec's ProgOk. Of programs of at most 1048576 threads, each of at most 1048576 steps. And what goes with it: SProg, But, Rd, SnMath, SnMem, SnFar. -/
import Derived.BigQuiet
import Derived.Deep.AppendLies
import Derived.Deep.QuietTactic
import Derived.Deep.RegionHeld3
import Derived.Sort.Grow
import Derived.WalkKit
import Derived.WalkLawsBesides
import Derived.WalkSpells
import Derived.Test.YtihfibjckkmmbaaGreatRows
import Derived.Test.YtihfibjckkmmbaaGreatQhac
namespace Go.Proofs.YtihfibjckkmmbaaGreat
open Go.RowKit
set_option maxHeartbeats 1000000 in
theorem sprog_any (a : Option Addr) (b o c : Nat) (ll : List (List M.D)) (w : World) (hl : ll.length ≤ 1048576) (hls : ∀ t ∈ ll, t.length ≤ 1048576) (h : DoSS w a b o ll) :
    Calls Tryz.prog 32 #[.agg #[.slice a ll.length c]] w fun e w' => e = .returned (.bool (M.prog ll)) ∧ Below w.heap.size w w' := by
  by_cases h3 : ll.length ≤ 3
  · have h3' : ¬ (3 : Int) < ll.length := by omega
    go_enter Tryz.func32, Tryz.ntmps32
    go_wp2_with fail
    go_loopw [3, 4, 5] (fun s3 s4 s5 wr => ∃ x u n : Nat, s3 = .int .i64 x ∧ s4 = .int .i64 u ∧ s5 = .int .i64 n ∧ n ≤ ll.length ∧ x ≤ 7 * n ∧ u ≤ 7 * n ∧ M.progFrom 0 0 ll = M.progFrom x u (ll.drop n) ∧ Below (w.heap.size + 1) (w.alloc (.cells #[.slice a ll.length c] 25)) wr) (fun _ _ s5 _ => ll.length - (intOf s5).toNat)
    case atStart => exact ⟨0, 0, 0, rfl, rfl, rfl, Nat.zero_le _, Nat.le_refl _, Nat.le_refl _, rfl, Below.refl _ _⟩
    case round =>
      obtain ⟨x, u, n, rfl, rfl, rfl, hn, hx, hu, hpass, hbel⟩ := hrel
      have HP : Hid (M.progFrom 0 0 ll = M.progFrom x u (ll.drop n)) := hpass
      clear hpass
      have hbox : wr.cell? ⟨w.heap.size, 0, none⟩ = some (.slice a ll.length c) := by rw [hbel.cell (p := ⟨w.heap.size, 0, none⟩) (by show w.heap.size < w.heap.size + 1; omega)]; simp
      have hsz := hbel.size
      simp only [World.size_alloc] at hsz
      by_cases hlt : n < ll.length
      · obtain ⟨rfl⟩ := h.addr (by omega)
        obtain ⟨a', b', o', c', hc, hd⟩ := ((h.below (below1 w _) (Nat.le_refl _)).below hbel (by simp)).row n hlt
        have HD : Hid (ll.drop n = ll[n] :: ll.drop (n + 1)) := M.drop_at' ll n hlt
        have hlt' := hls _ (List.getElem_mem hlt)
        generalize ll[n] = t at hd hc HD hlt'
        cases ht : M.thread t
        · go_wp2_with (go_at_call 69; refine (l1Thread_any a' b' o' c' t _ hlt' hd).mono ?_; rw [M.sthread_eq]; rintro e w1 ⟨rfl, hb1⟩)
          go_ret
          exact ⟨ret_bool (M.from_bad HP.out HD.out ht).symm, (below1 w _).trans ((hbel.mono (by omega)).trans (hb1.mono (by omega)))⟩
        · have ht7 := M.thread_le ht
          have hcn := M.cnt_le M.uses t
          have hbl : b < wr.heap.size := World.block_lt_of_cell? _ _ hc
          go_wp2_with (go_at_call 69; go_must (refine (l1Thread_any a' b' o' c' t _ hlt' hd).mono ?_; rw [M.sthread_eq]; rintro e w1 ⟨rfl, hb1⟩; have hbox1 : w1.cell? ⟨w.heap.size, 0, none⟩ = some (.slice (some ⟨b, o, none⟩) ll.length c) := (hb1.cell (p := ⟨w.heap.size, 0, none⟩) hsz).trans hbox; have hc1 : w1.cell? ⟨b, o + n, none⟩ = some (.slice a' t.length c') := (hb1.cell (p := ⟨b, o + n, none⟩) hbl).trans hc))
          have hd1 := hd.below hb1 (Nat.le_refl _)
          have hw1 : Below (w.heap.size + 1) (w.alloc (.cells #[.slice (some ⟨b, o, none⟩) ll.length c] 25)) w1 := hbel.trans (hb1.mono hsz)
          have hsz1 : w.heap.size + 1 ≤ w1.heap.size := Nat.le_trans hsz hb1.size
          have hbl1 : b < w1.heap.size := Nat.lt_of_lt_of_le hbl hb1.size
          clear hbox hc hd hbel hb1 hsz hbl
          go_loopw [4, 6] (fun s4 s6 wi => ∃ m k : Nat, s4 = .int .i64 (u + m) ∧ s6 = .int .i64 k ∧ k ≤ t.length ∧ m ≤ k ∧ M.cnt M.uses t = m + M.cnt M.uses (t.drop k) ∧ Below w1.heap.size w1 wi) (fun _ s6 _ => t.length - (intOf s6).toNat)
          case atStart => exact ⟨0, 0, by simp, rfl, Nat.zero_le _, Nat.le_refl _, by simp, Below.refl _ _⟩
          case round =>
            obtain ⟨m, k, rfl, rfl, hk, hmk, hpass, hbi⟩ := hrel
            have HP2 : Hid (M.cnt M.uses t = m + M.cnt M.uses (t.drop k)) := hpass
            clear hpass
            have hbox : wr.cell? ⟨w.heap.size, 0, none⟩ = some (.slice (some ⟨b, o, none⟩) ll.length c) := by rw [hbi.cell (p := ⟨w.heap.size, 0, none⟩) hsz1]; exact hbox1
            have hc : wr.cell? ⟨b, o + n, none⟩ = some (.slice a' t.length c') := by rw [hbi.cell (p := ⟨b, o + n, none⟩) hbl1]; exact hc1
            clear hbox1 hc1
            by_cases hkt : k < t.length
            · obtain ⟨rfl⟩ := hd1.addr (by omega)
              have hdk := (hd1.row k hkt).below hbi (Nat.le_refl _)
              have HK : Hid (t.drop k = t[k] :: t.drop (k + 1)) := M.drop_at t k hkt
              generalize t[k] = d at hdk HK
              obtain ⟨kk, p, v⟩ := d
              have hl2 : b' < wr.heap.size := hdk.lt
              have hl3 : w.heap.size < wr.heap.size := Nat.lt_of_lt_of_le hsz1 hbi.size
              have hl4 : b < wr.heap.size := Nat.lt_of_lt_of_le hbl1 hbi.size
              obtain ⟨ck, cp, cv⟩ := hdk
              cases hr : M.reads kk
              · cases hw : M.writes kk
                · go_wp2_with (first | (go_at_call 34; refine (l1Reads_any ⟨_, _, _⟩ _).mono ?_; rintro e w2 ⟨rfl, rfl⟩) | (go_at_call 35; refine (l1Writes_any ⟨_, _, _⟩ _).mono ?_; rintro e w2 ⟨rfl, rfl⟩))
                  exact ⟨⟨m, k + 1, rfl, by go_num, by omega, by omega, M.cnt_step HP2.out HK.out (by simp [M.uses, hr, hw]), (hbi.alloc hbi.size _).alloc (by have := hbi.size; simp; omega) _⟩, by simp [intOf]; omega⟩
                · go_wp2_with (first | (go_at_call 34; refine (l1Reads_any ⟨_, _, _⟩ _).mono ?_; rintro e w2 ⟨rfl, rfl⟩) | (go_at_call 35; refine (l1Writes_any ⟨_, _, _⟩ _).mono ?_; rintro e w2 ⟨rfl, rfl⟩))
                  exact ⟨⟨m + 1, k + 1, by go_num, by go_num, by omega, by omega, M.cnt_step HP2.out HK.out (by simp [M.uses, hr, hw]), (hbi.alloc hbi.size _).alloc (by have := hbi.size; simp; omega) _⟩, by simp [intOf]; omega⟩
              · go_wp2_with (first | (go_at_call 34; refine (l1Reads_any ⟨_, _, _⟩ _).mono ?_; rintro e w2 ⟨rfl, rfl⟩) | (go_at_call 35; refine (l1Writes_any ⟨_, _, _⟩ _).mono ?_; rintro e w2 ⟨rfl, rfl⟩))
                exact ⟨⟨m + 1, k + 1, by go_num, by go_num, by omega, by omega, M.cnt_step HP2.out HK.out (by simp [M.uses, hr]), hbi.alloc hbi.size _⟩, by simp [intOf]; omega⟩
            · go_wp2_with fail
              have hm := M.cnt_fin HP2.out (by omega)
              exact ⟨⟨x + t.length, u + m, n + 1, by go_num, by go_num, by go_num, by omega, by omega, by omega, by rw [hm]; exact M.from_ok HP.out HD.out ht, hw1.trans (hbi.mono hsz1)⟩, by simp [intOf]; omega⟩
      · by_cases hx14 : (x : Int) ≤ 14
        · go_wp2_with fail
          go_ret
          exact ⟨ret_bool (by rw [M.from_fin HP.out (by omega) h3]; have : x ≤ 14 := by omega
                              simp [this]; omega), (below1 w _).trans (hbel.mono (by omega))⟩
        · have hx14' : decide ((x : Int) ≤ 14) = false := by simpa using hx14
          go_wp2_with fail
          go_ret
          exact ⟨ret_bool (by rw [M.from_fin HP.out (by omega) h3]; have : ¬ x ≤ 14 := by omega
                              simp [this]), (below1 w _).trans (hbel.mono (by omega))⟩
  · have h3' : (3 : Int) < ll.length := by omega
    go_enter Tryz.func32, Tryz.ntmps32
    go_wp2_with fail
    go_ret
    exact ⟨ret_bool (by simp [M.prog, h3]), below1 _ _⟩
end Go.Proofs.YtihfibjckkmmbaaGreat
namespace Go.Proofs.YtihfibjckkmmbaaGreat
open Go.RowKit
structure But (rb:Nat) (w w':World):Prop where
 os:w'.os=w.os
 tape:w'.tape=w.tape
 output:w'.output=w.output
 size:w.heap.size≤w'.heap.size
 block:∀ k,k < w.heap.size→k≠rb→w'.heap[k]?=w.heap[k]?
theorem But.refl (rb:Nat) (w:World):But rb w w:=⟨rfl,rfl,rfl,Nat.le_refl _,fun _ _ _=>rfl⟩
theorem But.trans {rb:Nat} {a b c:World} (h:But rb a b) (k:But rb b c):But rb a c :=
 ⟨k.os.trans h.os,k.tape.trans h.tape,k.output.trans h.output,Nat.le_trans h.size k.size,fun i hi hne=>(k.block i (Nat.lt_of_lt_of_le hi h.size) hne).trans (h.block i hi hne)⟩
theorem But.of {rb:Nat} {w w':World} (h:Below w.heap.size w w'):But rb w w':=⟨h.os,h.tape,h.output,h.size,fun k hk _=>h.block k hk⟩
theorem But.drew {rb:Nat} {a w:World} (h:But rb a w):But rb a w.drew:=⟨h.os,h.tape,h.output,h.size,h.block⟩
theorem But.drewN {rb:Nat} {a w:World} (h:But rb a w):∀ n,But rb a (w.drewN n)
 | 0=>h
 | n+1=>by
  have:=h.drewN n
  exact ⟨this.os,this.tape,this.output,this.size,this.block⟩
theorem But.alloc {rb:Nat} {a w:World} (h:But rb a w) (o:Obj):But rb a (w.alloc o):=h.trans (But.of (below1 w o))
theorem But.setCell {rb:Nat} {a w:World} (h:But rb a w) {p:Addr} (hp:a.heap.size≤p.block∨p.block=rb) (u:Value):But rb a (w.setCell p u) :=
 ⟨h.os,h.tape,h.output,by rw [show (w.setCell p u).heap.size=w.heap.size from by simp [World.setCell]];exact h.size,fun k hk hne=>(Below.heap_setCell _ _ _ _ (by rcases hp with hp | hp<;>omega)).trans (h.block k hk hne)⟩
theorem But.cell {rb:Nat} {w w':World} (h:But rb w w') {p:Addr} (hp:p.block < w.heap.size) (hne:p.block≠rb):w'.cell? p=w.cell? p:=World.cell?_of_block (w:=w) (h.block p.block hp hne)
theorem But.frozen {rb:Nat} {w w':World} (h:But rb w w') {p:Addr} (hp:p.block < w.heap.size) (hne:p.block≠rb):w'.frozen? p=w.frozen? p:=World.frozen?_of_block (w:=w) (h.block p.block hp hne)
theorem But.below {rb:Nat} {w w1 w':World} (h:Below w.heap.size w w1) (k:But rb w1 w') (hr:w.heap.size≤rb):Below w.heap.size w w' :=
 ⟨k.os.trans h.os,k.tape.trans h.tape,k.output.trans h.output,Nat.le_trans h.size k.size,fun i hi=>(k.block i (Nat.lt_of_lt_of_le hi h.size) (by omega)).trans (h.block i hi)⟩
end Go.Proofs.YtihfibjckkmmbaaGreat
namespace Go.Proofs.YtihfibjckkmmbaaGreat
open Go.RowKit
structure Rd (w:World) (B rb:Nat) (ca:Option Addr) (cb co L C:Nat) (x:Nat→Int) (p:Nat):Prop where
 s:w.cell? ⟨rb,0,none⟩=some (.slice ca L C)
 p:w.cell? ⟨rb,1,none⟩=some (.int .i64 p)
 fz:w.frozen? ⟨rb,1,none⟩=false
 ad:0 < L→ca=some ⟨cb,co,none⟩
 le:L≤2000
 cells:∀ i,i < L→w.cell? ⟨cb,co+i,none⟩=some (.int .u8 (x i))∧0≤x i∧x i≤255
 ne:0 < L→cb < B
 ge:B≤rb
theorem Rd.lt {w:World} {B rb:Nat} {ca:Option Addr} {cb co L C:Nat} {x:Nat→Int} {p:Nat} (h:Rd w B rb ca cb co L C x p):rb < w.heap.size:=World.block_lt_of_cell? _ _ h.s
theorem Rd.below {w w':World} {B rb:Nat} {ca:Option Addr} {cb co L C:Nat} {x:Nat→Int} {p E:Nat} (h:Rd w B rb ca cb co L C x p) (hb:Below E w w') (hB:w.heap.size≤E):Rd w' B rb ca cb co L C x p :=
 ⟨(hb.cell (p:=⟨rb,0,none⟩) (Nat.lt_of_lt_of_le h.lt hB)).trans h.s,(hb.cell (p:=⟨rb,1,none⟩) (Nat.lt_of_lt_of_le h.lt hB)).trans h.p,(hb.frozen (p:=⟨rb,1,none⟩) (Nat.lt_of_lt_of_le h.lt hB)).trans h.fz,h.ad,h.le,
  fun i hi=>⟨(hb.cell (p:=⟨cb,co+i,none⟩) (Nat.lt_of_lt_of_le (World.block_lt_of_cell? _ _ (h.cells i hi).1) hB)).trans (h.cells i hi).1,(h.cells i hi).2⟩,h.ne,h.ge⟩
theorem Rd.drew {w:World} {B rb:Nat} {ca:Option Addr} {cb co L C:Nat} {x:Nat→Int} {p:Nat} (h:Rd w B rb ca cb co L C x p):Rd w.drew B rb ca cb co L C x p:=⟨h.s,h.p,h.fz,h.ad,h.le,h.cells,h.ne,h.ge⟩
theorem Rd.drewN {w:World} {B rb:Nat} {ca:Option Addr} {cb co L C:Nat} {x:Nat→Int} {p:Nat} (h:Rd w B rb ca cb co L C x p):∀ n,Rd (w.drewN n) B rb ca cb co L C x p
 | 0=>h
 | n+1=>(h.drewN n).drew
theorem Rd.step {w:World} {B rb:Nat} {ca:Option Addr} {cb co L C:Nat} {x:Nat→Int} {p:Nat} (h:Rd w B rb ca cb co L C x p):Rd (w.setCell ⟨rb,1,none⟩ (.int .i64 ((p:Int)+1))) B rb ca cb co L C x (p+1):=by
 refine ⟨?_,?_,?_,h.ad,h.le,fun i hi=>⟨?_,(h.cells i hi).2⟩,h.ne,h.ge⟩
 ·rw [World.cell?_setCell_other _ _ _ _ (fun e=>by have:=congrArg Addr.off e;simp at this)];exact h.s
 ·rw [World.cell?_setCell_same _ _ _ h.p,Int.natCast_add];rfl
 ·rw [World.frozen?_setCell];exact h.fz
 ·rw [World.cell?_setCell_other _ _ _ _ (fun e=>by have e1:rb=cb:=congrArg Addr.block e;have:=h.ne (by omega);have:=h.ge;omega)];exact (h.cells i hi).1
theorem bits_xor_small (a b:Nat) (ha:a < 4294967296) (hb:b < 4294967296):bits .xor .i64 (a:Int) (b:Int)=((a ^^^ b:Nat):Int):=by
 have hx:a ^^^ b < 2 ^ 32:=Nat.xor_lt_two_pow (by omega) (by omega)
 have h1:(BitVec.ofInt 64 (a:Int)).toNat=a:=by
  rw [BitVec.ofInt_natCast,BitVec.toNat_ofNat];exact Nat.mod_eq_of_lt (by omega)
 have h2:(BitVec.ofInt 64 (b:Int)).toNat=b:=by
  rw [BitVec.ofInt_natCast,BitVec.toNat_ofNat];exact Nat.mod_eq_of_lt (by omega)
 show IntKind.i64.wrap ((BitVec.ofInt 64 (a:Int) ^^^ BitVec.ofInt 64 (b:Int)).toNat:Int)=_
 rw [BitVec.toNat_xor,h1,h2,IntKind.wrap_i64]
 omega
theorem mixed_in (X n:Int) (h0:0≤X) (h1:X < 4294967296) (hn:1≤n):0≤(bits .xor .i64 X (X / 64)).tmod n∧(bits .xor .i64 X (X / 64)).tmod n < n:=by
 obtain ⟨a,rfl⟩:=Int.eq_ofNat_of_zero_le h0
 have e:(a:Int) / 64=((a / 64:Nat):Int):=by omega
 rw [e,bits_xor_small a (a / 64) (by omega) (by omega),Int.tmod_eq_emod_of_nonneg (by omega)]
 exact ⟨Int.emod_nonneg _ (by omega),Int.emod_lt_of_pos _ (by omega)⟩
set_option maxHeartbeats 400000 in
theorem pick_any (B rb:Nat) (ca:Option Addr) (cb co L C:Nat) (x:Nat→Int) (p:Nat) (n:Int) (w:World) (hn:1≤n) (hn2:n≤10000000000) (hp:p≤1000000) (h:Rd w B rb ca cb co L C x p) :
  Calls Tryz.prog 51 #[.pointer (some ⟨rb,0,none⟩),.int .i64 n] w fun e w'=>∃ r:Int,e=.returned (.int .i64 r)∧0≤r∧r < n∧Rd w' B rb ca cb co L C x (p+1)∧But rb w w':=by
 have hs:=h.s
 have hpp:=h.p
 have hfz:=h.fz
 have hle:=h.le
 have h2:=h.step
 have hbut:But rb w (w.setCell ⟨rb,1,none⟩ (.int .i64 ((p:Int)+1))):=(But.refl rb w).setCell (Or.inr rfl) _
 have n1:decide (n < 1)=false:=by simp;omega
 rcases Nat.eq_zero_or_pos L with hL | hL
 ·subst hL
  go_enter Tryz.func51,Tryz.ntmps51
  go_wp2_with fail
  go_ret
  exact ⟨0,rfl,by omega,by omega,h2,hbut⟩
 ·have hL0:((L:Int)==0)=false:=by simp;omega
  obtain ⟨rfl⟩:=h.ad hL
  by_cases hpl:p < L
  ·obtain ⟨hc,hx0,hx1⟩:=h2.cells p hpl
   go_enter Tryz.func51,Tryz.ntmps51
   go_wp2_with fail
   go_ret
   exact ⟨x p % n,rfl,Int.emod_nonneg _ (by omega),Int.emod_lt_of_pos _ (by omega),h2,hbut⟩
  ·have hL1:¬ ((L:Int)=0):=by omega
   have hL2:¬ (L=0):=by omega
   have hL3:(0:Int) < L:=by omega
   have hpl':¬ ((p:Int) < L):=by omega
   obtain ⟨q1,hq1,hq1l⟩:∃ q:Nat,(p:Int).tmod L=q∧q < L:=⟨p % L,by rw [Int.tmod_eq_emod_of_nonneg (by omega)];omega,Nat.mod_lt _ hL⟩
   obtain ⟨q2,hq2,hq2l⟩:∃ q:Nat,((p:Int) * 7+3).tmod L=q∧q < L:=⟨(p * 7+3) % L,by rw [show ((p:Int) * 7+3)=((p * 7+3:Nat):Int) from by omega,Int.tmod_eq_emod_of_nonneg (by omega)];exact (Int.natCast_emod _ _).symm,Nat.mod_lt _ hL⟩
   obtain ⟨q3,hq3,hq3l⟩:∃ q:Nat,(p:Int).tdiv L=q∧q≤p:=⟨p / L,by rw [Int.tdiv_eq_ediv_of_nonneg (by omega)];omega,Nat.div_le_self _ _⟩
   obtain ⟨hc1,hx0,hx1⟩:=h2.cells q1 hq1l
   obtain ⟨hc2,hy0,hy1⟩:=h2.cells q2 hq2l
   have i1:(q1:Int) < L:=by omega
   have i2:(q2:Int) < L:=by omega
   generalize x q1=y1 at hc1 hx0 hx1
   generalize x q2=y2 at hc2 hy0 hy1
   go_enter Tryz.func51,Tryz.ntmps51
   go_wp2_with fail
   go_quiet (fail)
   go_wp2_with fail
   go_ret
   obtain ⟨r0,r1⟩:=mixed_in (y1 * 131+y2 * 1117+p * 29+q3 * 53) n (by omega) (by omega) hn
   exact ⟨_,rfl,r0,r1,h2.drewN _,hbut.drewN _⟩
def Rdr (w:World) (B rb p:Nat):Prop:=∃ ca cb co L C x,Rd w B rb ca cb co L C x p
theorem Rdr.lt {w:World} {B rb p:Nat} (h:Rdr w B rb p):rb < w.heap.size:=by obtain ⟨_,_,_,_,_,_,h⟩:=h;exact h.lt
theorem Rdr.ge {w:World} {B rb p:Nat} (h:Rdr w B rb p):B≤rb:=by obtain ⟨_,_,_,_,_,_,h⟩:=h;exact h.ge
theorem Rdr.below {w w':World} {B rb p E:Nat} (h:Rdr w B rb p) (hb:Below E w w') (hB:w.heap.size≤E):Rdr w' B rb p:=by
 obtain ⟨ca,cb,co,L,C,x,h⟩:=h;exact ⟨ca,cb,co,L,C,x,h.below hb hB⟩
theorem Rdr.drew {w:World} {B rb p:Nat} (h:Rdr w B rb p):Rdr w.drew B rb p:=by
 obtain ⟨ca,cb,co,L,C,x,h⟩:=h;exact ⟨ca,cb,co,L,C,x,h.drew⟩
theorem Rdr.alloc {w:World} {B rb p:Nat} (h:Rdr w B rb p) (o:Obj):Rdr (w.alloc o) B rb p:=h.below (below1 w o) (Nat.le_refl _)
theorem Rdr.setCell {w:World} {B rb p:Nat} (h:Rdr w B rb p) {b i:Nat} (hb:B≤b) (hne:b≠rb) (u:Value):Rdr (w.setCell ⟨b,i,none⟩ u) B rb p:=by
 obtain ⟨ca,cb,co,L,C,x,h⟩:=h
 refine ⟨ca,cb,co,L,C,x,?_,?_,?_,h.ad,h.le,fun j hj=>⟨?_,(h.cells j hj).2⟩,h.ne,h.ge⟩
 ·rw [World.cell?_setCell_other _ _ _ _ (fun e=>hne (congrArg Addr.block e))];exact h.s
 ·rw [World.cell?_setCell_other _ _ _ _ (fun e=>hne (congrArg Addr.block e))];exact h.p
 ·rw [World.frozen?_setCell];exact h.fz
 ·rw [World.cell?_setCell_other _ _ _ _ (fun e=>by have e1:b=cb:=congrArg Addr.block e;have:=h.ne (by omega);omega)];exact (h.cells j hj).1
theorem pick_rdr (B rb p:Nat) (n:Int) (w:World) (hn:1≤n) (hn2:n≤1000) (hp:p≤1000000) (h:Rdr w B rb p) :
  Calls Tryz.prog 51 #[.pointer (some ⟨rb,0,none⟩),.int .i64 n] w fun e w'=>∃ r:Int,e=.returned (.int .i64 r)∧0≤r∧r < n∧Rdr w' B rb (p+1)∧But rb w w':=by
 obtain ⟨ca,cb,co,L,C,x,h⟩:=h
 refine (pick_any B rb ca cb co L C x p n w hn (by omega) hp h).mono ?_
 rintro e w' ⟨r,he,h0,h1,hr,hb⟩
 exact ⟨r,he,h0,h1,⟨ca,cb,co,L,C,x,hr⟩,hb⟩
end Go.Proofs.YtihfibjckkmmbaaGreat
namespace Go.Proofs.YtihfibjckkmmbaaGreat
namespace M
def comp:List Int→List Int→Int
 | [],[]=>0
 | [],_::_=>-1
 | _::_,[]=>1
 | x::a,y::b=>if x < y then -1 else if y < x then 1 else comp a b
theorem comp_lt {l m:List Int} {n:Nat} {x y:Int} (h:comp l m=comp (l.drop n) (m.drop n)) (hl:l.drop n=x::l.drop (n+1)) (hm:m.drop n=y::m.drop (n+1)) (hxy:x < y):comp l m=-1:=by
 rw [h,hl,hm,comp,if_pos hxy]
theorem comp_gt {l m:List Int} {n:Nat} {x y:Int} (h:comp l m=comp (l.drop n) (m.drop n)) (hl:l.drop n=x::l.drop (n+1)) (hm:m.drop n=y::m.drop (n+1)) (hxy:y < x):comp l m=1:=by
 rw [h,hl,hm,comp,if_neg (by omega),if_pos hxy]
theorem comp_eq {l m:List Int} {n:Nat} {x y:Int} (h:comp l m=comp (l.drop n) (m.drop n)) (hl:l.drop n=x::l.drop (n+1)) (hm:m.drop n=y::m.drop (n+1)) (h1:¬ x < y) (h2:¬ y < x):comp l m=comp (l.drop (n+1)) (m.drop (n+1)):=by
 rw [h,hl,hm,comp,if_neg h1,if_neg h2]
theorem comp_fst {l m:List Int} {n:Nat} (h:comp l m=comp (l.drop n) (m.drop n)) (hl:l.length≤n) (hm:n < m.length):comp l m=-1:=by
 rw [h,List.drop_eq_nil_of_le hl,(List.getElem_cons_drop hm).symm,comp]
theorem comp_snd {l m:List Int} {n:Nat} (h:comp l m=comp (l.drop n) (m.drop n)) (hl:n < l.length) (hm:m.length≤n):comp l m=1:=by
 rw [h,List.drop_eq_nil_of_le hm,(List.getElem_cons_drop hl).symm,comp]
theorem comp_fin {l m:List Int} {n:Nat} (h:comp l m=comp (l.drop n) (m.drop n)) (hl:l.length≤n) (hm:m.length≤n):comp l m=0:=by
 rw [h,List.drop_eq_nil_of_le hl,List.drop_eq_nil_of_le hm,comp]
theorem drop_int (l:List Int) (n:Nat) (h:n < l.length):l.drop n=l[n]::l.drop (n+1):=(List.getElem_cons_drop h).symm
def cmpS (a1 a2 b1 b2:List Int):Int:=if comp a1 b1=0 then comp a2 b2 else comp a1 b1
def vals (l:List Int):Bool:=l.all fun v=>decide (0≤v)&&decide (v≤3)
end M
end Go.Proofs.YtihfibjckkmmbaaGreat
namespace Go.Proofs.YtihfibjckkmmbaaGreat
open Go.RowKit
structure IntS (w:World) (a:Option Addr) (b o:Nat) (l:List Int):Prop where
 addr:0 < l.length→a=some ⟨b,o,none⟩
 row:∀ i (h:i < l.length),w.cell? ⟨b,o+i,none⟩=some (.int .i64 l[i])
theorem IntS.lt {w:World} {a:Option Addr} {b o:Nat} {l:List Int} (h:IntS w a b o l) (hl:0 < l.length):b < w.heap.size:=World.block_lt_of_cell? _ _ (h.row 0 hl)
theorem IntS.below {w w':World} {a:Option Addr} {B b o:Nat} {l:List Int} (h:IntS w a b o l) (hb:Below B w w') (hB:w.heap.size≤B):IntS w' a b o l :=
 ⟨h.addr,fun i hi=>by rw [hb.cell (p:=⟨b,o+i,none⟩) (Nat.lt_of_lt_of_le (h.lt (by omega)) hB)];exact h.row i hi⟩
theorem IntS.nil (w:World) (a:Option Addr) (b o:Nat):IntS w a b o []:=⟨fun h=>absurd h (Nat.lt_irrefl _),fun _ hi=>absurd hi (Nat.not_lt_zero _)⟩
structure Grown (w w':World):Prop where
 bel:Below w.heap.size w w'
 drawn:w.drawn≤w'.drawn
theorem Grown.refl (w:World):Grown w w:=⟨Below.refl _ _,Nat.le_refl _⟩
theorem Grown.trans {a b c:World} (h:Grown a b) (k:Grown b c):Grown a c:=⟨h.bel.trans (k.bel.mono h.bel.size),Nat.le_trans h.drawn k.drawn⟩
theorem Grown.alloc {a b:World} (h:Grown a b) (o:Obj):Grown a (b.alloc o):=⟨h.bel.alloc h.bel.size o,h.drawn⟩
theorem Grown.drewN {a b:World} (h:Grown a b) (n:Nat):Grown a (b.drewN n):=⟨h.bel.trans ⟨rfl,rfl,rfl,Nat.le_refl _,fun _ _=>rfl⟩,Nat.le_trans h.drawn (Nat.le_add_right _ _)⟩
theorem Grown.drew {a b:World} (h:Grown a b):Grown a b.drew:=h.drewN 1
theorem Grown.grow {w w':World} (h:Grown w w'):∃ q os,w'=Sort.grow (w.drewN q) os:=by
 obtain ⟨⟨ho,ht,hu,hs,hb⟩,hd⟩:=h
 refine ⟨w'.drawn - w.drawn,w'.heap.extract w.heap.size w'.heap.size,?_⟩
 obtain ⟨heap,tape,drawn,os,output⟩:=w
 obtain ⟨heap',tape',drawn',os',output'⟩:=w'
 simp only at ho ht hu hs hb hd
 subst ho;subst ht;subst hu
 simp only [Sort.grow,World.drewN,World.mk.injEq,true_and,and_true]
 refine ⟨?_,by omega⟩
 apply Array.ext_getElem?
 intro i
 rw [Array.getElem?_append]
 by_cases hi:i < heap.size
 ·rw [if_pos hi];exact hb i hi
 ·rw [if_neg hi,Array.getElem?_extract]
  by_cases h2:i < heap'.size
  ·rw [if_pos (by omega)];congr 1;omega
  ·rw [if_neg (by omega)];exact Array.getElem?_eq_none (by omega)
structure Sn where
 a1:Option Addr
 b1:Nat
 o1:Nat
 c1:Nat
 l1:List Int
 a2:Option Addr
 b2:Nat
 o2:Nat
 c2:Nat
 l2:List Int
structure Sn.At (s:Sn) (w:World):Prop where
 reads:IntS w s.a1 s.b1 s.o1 s.l1
 last:IntS w s.a2 s.b2 s.o2 s.l2
structure Sn.Le (s:Sn) (n:Nat):Prop where
 reads:s.l1.length≤n
 last:s.l2.length≤n
theorem Sn.At.below {s:Sn} {w w':World} {B:Nat} (h:s.At w) (hb:Below B w w') (hB:w.heap.size≤B):s.At w':=⟨h.reads.below hb hB,h.last.below hb hB⟩
theorem Sn.At.grown {s:Sn} {w w':World} (h:s.At w) (hg:Grown w w'):s.At w':=h.below hg.bel (Nat.le_refl _)
end Go.Proofs.YtihfibjckkmmbaaGreat
namespace Go.Proofs.YtihfibjckkmmbaaGreat
open Go.RowKit
theorem But.grown {rb:Nat} {w0 w w':World} {row:Option Nat} (h:But rb w0 w) (hg:w.grownBy w' row) (hr:∀ k,row=some k→w0.heap.size≤k):But rb w0 w' :=
 ⟨hg.os.trans h.os,hg.tape.trans h.tape,hg.output.trans h.output,Nat.le_trans h.size hg.size,fun k hk hne=>(hg.block k (Nat.lt_of_lt_of_le hk h.size) (fun e=>by have:=hr k e.symm;omega)).trans (h.block k hk hne)⟩
theorem own_ge {w:World} {base:Nat} {e:TypeId} {size:Nat} {v:Value} {n:Nat} {xs:List Value} (h:w.ownsRow base e size v n xs):∀ k,v.ownBlock=some k→base≤k:=fun k hk=>(h.lt k hk).1
theorem below_grown {B:Nat} {w0 w w':World} {row:Option Nat} (h:Below B w0 w) (hg:w.grownBy w' row) (hr:∀ k,row=some k→B≤k) (hB:B≤w.heap.size:=by simp):Below B w0 w' :=
 ⟨hg.os.trans h.os,hg.tape.trans h.tape,hg.output.trans h.output,Nat.le_trans h.size hg.size,fun k hk=>(hg.block k (by omega) (fun e=>by have:=hr k e.symm;omega)).trans (h.block k hk)⟩
theorem ownsRow_below {w w':World} {base:Nat} {e:TypeId} {size:Nat} {v:Value} {n:Nat} {xs:List Value} (h:w.ownsRow base e size v n xs) (hb:Below w.heap.size w w'):w'.ownsRow base e size v n xs:=by
 obtain ⟨h1,h2⟩:=h
 refine ⟨h1,?_⟩
 rcases h2 with h2 | ⟨g,cap,cur,hv,hg,hh,r⟩
 ·exact Or.inl h2
 ·refine Or.inr ⟨g,cap,cur,hv,hg,?_,r⟩
  rw [hb.block g (by by_cases hlt:g < w.heap.size;exact hlt;rw [Array.getElem?_eq_none (by omega)] at hh;cases hh)]
  exact hh
def nums (l:List Int):List Value:=l.map (.int .i64)
structure Slot2 (w:World) (b:Nat) (x y:Value):Prop where
 blk:w.heap[b]?=some (.cells #[x,y] 35 (0,0))
theorem Slot2.lt {w:World} {b:Nat} {x y:Value} (h:Slot2 w b x y):b < w.heap.size:=by
 by_cases hb:b < w.heap.size
 ·exact hb
 ·have:=h.blk;rw [Array.getElem?_eq_none (by omega)] at this;cases this
theorem Slot2.c0 {w:World} {b:Nat} {x y:Value} (h:Slot2 w b x y):w.cell? ⟨b,0,none⟩=some x:=by simp [World.cell?,h.blk]
theorem Slot2.c1 {w:World} {b:Nat} {x y:Value} (h:Slot2 w b x y):w.cell? ⟨b,1,none⟩=some y:=by simp [World.cell?,h.blk]
theorem Slot2.fz {w:World} {b:Nat} {x y:Value} (h:Slot2 w b x y) (i:Nat):w.frozen? ⟨b,i,none⟩=false:=by simp [World.frozen?,h.blk]
theorem Slot2.of {w w':World} {b:Nat} {x y:Value} (h:Slot2 w b x y) (hb:w'.heap[b]?=w.heap[b]?):Slot2 w' b x y:=⟨hb.trans h.blk⟩
theorem Slot2.far {w:World} {b b' i:Nat} {x y:Value} (h:Slot2 w b x y) (hne:b'≠b) (u:Value):Slot2 (w.setCell ⟨b',i,none⟩ u) b x y:=h.of (Below.heap_setCell _ _ _ _ (fun e=>hne e.symm))
theorem Slot2.set0 {w:World} {b:Nat} {x y:Value} (h:Slot2 w b x y) (u:Value):Slot2 (w.setCell ⟨b,0,none⟩ u) b u y:=⟨heap_setCell_same w b 0 #[x,y] _ u h.blk⟩
theorem Slot2.set1 {w:World} {b:Nat} {x y:Value} (h:Slot2 w b x y) (u:Value):Slot2 (w.setCell ⟨b,1,none⟩ u) b x u:=⟨heap_setCell_same w b 1 #[x,y] _ u h.blk⟩
theorem own_slot {w:World} {b i B n:Nat} {x y v:Value} {xs:List Value} (ho:w.ownsRow B 3 1 v n xs) (h:Slot2 w b x y) (u:Value):(w.setCell ⟨b,i,none⟩ u).ownsRow B 3 1 v n xs:=by
 refine ⟨ho.1,?_⟩
 rcases ho.2 with h0 | ⟨g,cap,cur,hv,hg,hh,r⟩
 ·exact Or.inl h0
 ·refine Or.inr ⟨g,cap,cur,hv,hg,?_,r⟩
  rw [Below.heap_setCell _ _ _ _ (fun e=>?_)]
  ·exact hh
  ·simp at e
   subst e
   rw [h.blk] at hh
   simp at hh
theorem own_nums {w:World} {base:Nat} {v:Value} {l:List Int} (h:w.ownsRow base 3 1 v l.length (nums l)):∃ a g c,v=.slice a l.length c∧IntS w a g 0 l∧base≤g∧(a=none→c=0):=by
 rcases h.2 with ⟨hv,hn⟩ | ⟨g,cap,cur,hv,hg,hh,r⟩
 ·have:l=[]:=List.length_eq_zero_iff.1 hn
  subst this
  exact ⟨none,base,0,hv,IntS.nil _ _ _ _,Nat.le_refl _,fun _=>rfl⟩
 ·refine ⟨_,g,cap,hv,⟨fun _=>rfl,fun i hi=>?_⟩,hg,fun h=>by cases h⟩
  have hc:=h.cells (g:=g) (by rw [hv];rfl) i (.int .i64 l[i]) (by simp [nums,hi])
  rwa [Go.WideShapes.add_plain] at hc
theorem three {m:List Int} (h:m.length=3):∃ x y z,m=[x,y,z]:=by
 match m,h with
 | [x,y,z],_=>exact ⟨x,y,z,rfl⟩
theorem own_cap {w:World} {base g n cap:Nat} {e:TypeId} {size:Nat} {xs:List Value} (h:w.ownsRow base e size (.slice (some ⟨g,0,none⟩) n cap) n xs):n≤cap:=by
 rcases h.2 with ⟨hv,_⟩ | ⟨g',cap',cur,hv,_,_,hc,_⟩
 ·simp at hv
 ·simp at hv
  obtain ⟨_,rfl⟩:=hv
  exact hc
theorem alloc_new (w:World) (o:Obj) (n:Nat) (hn:n=w.heap.size):(w.alloc o).heap[n]?=some o:=by subst hn;exact heap_alloc_new w o
theorem alloc_old (w:World) (o:Obj) (k:Nat) (hk:k < w.heap.size):(w.alloc o).heap[k]?=w.heap[k]?:=(below1 w o).block k hk
theorem Tryz.infoInt:(Tryz.prog.info? 3).map (fun i=>(i.zero,i.size,i.bytes))=some (some (.int .i64 0),1,8):=by kernel_rfl
theorem IntS.but {w w':World} {a:Option Addr} {rb b o:Nat} {l:List Int} (h:IntS w a b o l) (hb:But rb w w') (hne:b≠rb):IntS w' a b o l :=
 ⟨h.addr,fun i hi=>by rw [hb.cell (p:=⟨b,o+i,none⟩) (h.lt (by omega)) hne];exact h.row i hi⟩
theorem IntS.far {w:World} {a:Option Addr} {b o B i:Nat} {l:List Int} {u:Value} (h:IntS w a b o l) (hb:0 < l.length→b≠B):IntS (w.setCell ⟨B,i,none⟩ u) a b o l :=
 ⟨h.addr,fun j hj=>by rw [World.cell?_setCell_other _ _ _ _ (fun e=>hb (by omega) (congrArg Addr.block e).symm)];exact h.row j hj⟩
theorem Sn.At.far {s:Sn} {w:World} {B i:Nat} {u:Value} (h:s.At w) (h1:0 < s.l1.length→s.b1≠B) (h2:0 < s.l2.length→s.b2≠B):s.At (w.setCell ⟨B,i,none⟩ u):=⟨h.reads.far h1,h.last.far h2⟩
theorem own_fzS {w:World} {B g n cap:Nat} {e:TypeId} {size:Nat} {xs:List Value} (h:w.ownsRow B e size (.slice (some ⟨g,0,none⟩) n cap) n xs) (i:Nat):w.frozen? ⟨g,i,none⟩=false:=by
 rcases h.2 with ⟨hv,_⟩ | ⟨g',cap',cur,hv,_,hh,_⟩
 ·simp at hv
 ·simp at hv
  obtain ⟨rfl,_⟩:=hv
  simp [World.frozen?,hh]
theorem own_capP {w:World} {base g n cap:Nat} {e:TypeId} {size:Nat} {xs:List Value} (h:w.ownsRow base e size (.slice (some ⟨g,0,none⟩) n cap) n xs):n≤cap:=by
 rcases h.2 with ⟨hv,_⟩ | ⟨g',cap',cur,hv,_,_,hc,_⟩
 ·simp at hv
 ·simp at hv
  obtain ⟨_,rfl⟩:=hv
  exact hc
def Sn.blk (s:Sn) (b:Nat):Prop:=(0 < s.l1.length∧b=s.b1)∨(0 < s.l2.length∧b=s.b2)
theorem Sn.blk_lt {s:Sn} {w:World} {b:Nat} (h:s.At w) (hb:s.blk b):b < w.heap.size:=by
 rcases hb with ⟨h0,rfl⟩ | ⟨h0,rfl⟩
 ·exact h.reads.lt h0
 ·exact h.last.lt h0
structure Own2 (w:World) (s:Sn):Prop where
 ne:0 < s.l1.length→0 < s.l2.length→s.b1≠s.b2
 fz:∀ b,s.blk b→∀ j,w.frozen? ⟨b,j,none⟩=false
theorem Own2.below {w w':World} {s:Sn} (h:Own2 w s) (ha:s.At w) (hb:Below w.heap.size w w'):Own2 w' s :=
 ⟨h.ne,fun b hk j=>(hb.frozen (p:=⟨b,j,none⟩) (Sn.blk_lt ha hk)).trans (h.fz b hk j)⟩
theorem Own2.far {w:World} {s:Sn} {p:Addr} {u:Value} (h:Own2 w s):Own2 (w.setCell p u) s:=⟨h.ne,fun b hk j=>by rw [World.frozen?_setCell];exact h.fz b hk j⟩
structure Sep (uu:List Sn):Prop where
 far:∀ i j (hi:i < uu.length) (hj:j < uu.length),i≠j→∀ b,uu[i].blk b→¬ uu[j].blk b
 ne:∀ s∈uu,0 < s.l1.length→0 < s.l2.length→s.b1≠s.b2
end Go.Proofs.YtihfibjckkmmbaaGreat
