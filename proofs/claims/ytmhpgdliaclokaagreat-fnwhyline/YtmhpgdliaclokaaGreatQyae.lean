/- spec's ProgOk. Of programs of at most 1048576 threads, each of at most 1048576 steps. The reader of a code (spec.l6Rd): its box, and what a pick does. -/
import Derived.Test.YtmhpgdliaclokaaGreatRows
import Derived.Test.YtmhpgdliaclokaaGreatQyad
namespace Go.Proofs.YtmhpgdliaclokaaGreat
section
open Go.RowKit
set_option maxHeartbeats 1000000 in
theorem sprog_any (a : Option Addr) (b o c : Nat) (ll : List (List M.D)) (w : World) (hl : ll.length ≤ 1048576) (hls : ∀ t ∈ ll, t.length ≤ 1048576) (h : DoSS w a b o ll) :
    Calls Tryz.prog 109 #[.agg #[.slice a ll.length c]] w fun e w' => e = .returned (.bool (M.prog ll)) ∧ Below w.heap.size w w' := by
  by_cases h3 : ll.length ≤ 3
  · have h3' : ¬ (3 : Int) < ll.length := by omega
    go_enter Tryz.func109, Tryz.ntmps109
    go_wp2_with fail
    go_loopw [3, 4, 5] (fun s3 s4 s5 wr => ∃ x u n : Nat, s3 = .int .i64 x ∧ s4 = .int .i64 u ∧ s5 = .int .i64 n ∧ n ≤ ll.length ∧ x ≤ 7 * n ∧ u ≤ 7 * n ∧ M.progFrom 0 0 ll = M.progFrom x u (ll.drop n) ∧ Below (w.heap.size + 1) (w.alloc (.cells #[.slice a ll.length c] 25)) wr) (fun _ _ s5 _ => ll.length - (intOf s5).toNat)
    case atStart => exact ⟨0, 0, 0, rfl, rfl, rfl, Nat.zero_le _, Nat.le_refl _, Nat.le_refl _, rfl, Below.refl _ _⟩
    case round =>
      obtain ⟨x, u, n, rfl, rfl, rfl, hn, hx, hu, hpass, hbel⟩ := hrel
      have HP : Hid (M.progFrom 0 0 ll = M.progFrom x u (ll.drop n)) := hpass
      clear hpass
      have hbox : wr.cell? ⟨w.heap.size, 0, none⟩ = some (.slice a ll.length c) := by rw [hbel.cell (p := ⟨w.heap.size, 0, none⟩) (by show w.heap.size < w.heap.size + 1; omega)]; simp
      have hsz := hbel.size
      simp only [World.size_alloc] at hsz
      by_cases hlt : n < ll.length
      · obtain ⟨rfl⟩ := h.addr (by omega)
        obtain ⟨a', b', o', c', hc, hd⟩ := ((h.below (below1 w _) (Nat.le_refl _)).below hbel (by simp)).row n hlt
        have HD : Hid (ll.drop n = ll[n] :: ll.drop (n + 1)) := M.drop_at' ll n hlt
        have hlt' := hls _ (List.getElem_mem hlt)
        generalize ll[n] = t at hd hc HD hlt'
        cases ht : M.thread t
        · go_wp2_with (go_at_call 164; refine (l1Thread_any a' b' o' c' t _ hlt' hd).mono ?_; rw [M.sthread_eq]; rintro e w1 ⟨rfl, hb1⟩)
          go_ret
          exact ⟨ret_bool (M.from_bad HP.out HD.out ht).symm, (below1 w _).trans ((hbel.mono (by omega)).trans (hb1.mono (by omega)))⟩
        · have ht7 := M.thread_le ht
          have hcn := M.cnt_le M.uses t
          have hbl : b < wr.heap.size := World.block_lt_of_cell? _ _ hc
          go_wp2_with (go_at_call 164; go_must (refine (l1Thread_any a' b' o' c' t _ hlt' hd).mono ?_; rw [M.sthread_eq]; rintro e w1 ⟨rfl, hb1⟩; have hbox1 : w1.cell? ⟨w.heap.size, 0, none⟩ = some (.slice (some ⟨b, o, none⟩) ll.length c) := (hb1.cell (p := ⟨w.heap.size, 0, none⟩) hsz).trans hbox; have hc1 : w1.cell? ⟨b, o + n, none⟩ = some (.slice a' t.length c') := (hb1.cell (p := ⟨b, o + n, none⟩) hbl).trans hc))
          have hd1 := hd.below hb1 (Nat.le_refl _)
          have hw1 : Below (w.heap.size + 1) (w.alloc (.cells #[.slice (some ⟨b, o, none⟩) ll.length c] 25)) w1 := hbel.trans (hb1.mono hsz)
          have hsz1 : w.heap.size + 1 ≤ w1.heap.size := Nat.le_trans hsz hb1.size
          have hbl1 : b < w1.heap.size := Nat.lt_of_lt_of_le hbl hb1.size
          clear hbox hc hd hbel hb1 hsz hbl
          go_loopw [4, 6] (fun s4 s6 wi => ∃ m k : Nat, s4 = .int .i64 (u + m) ∧ s6 = .int .i64 k ∧ k ≤ t.length ∧ m ≤ k ∧ M.cnt M.uses t = m + M.cnt M.uses (t.drop k) ∧ Below w1.heap.size w1 wi) (fun _ s6 _ => t.length - (intOf s6).toNat)
          case atStart => exact ⟨0, 0, by simp, rfl, Nat.zero_le _, Nat.le_refl _, by simp, Below.refl _ _⟩
          case round =>
            obtain ⟨m, k, rfl, rfl, hk, hmk, hpass, hbi⟩ := hrel
            have HP2 : Hid (M.cnt M.uses t = m + M.cnt M.uses (t.drop k)) := hpass
            clear hpass
            have hbox : wr.cell? ⟨w.heap.size, 0, none⟩ = some (.slice (some ⟨b, o, none⟩) ll.length c) := by rw [hbi.cell (p := ⟨w.heap.size, 0, none⟩) hsz1]; exact hbox1
            have hc : wr.cell? ⟨b, o + n, none⟩ = some (.slice a' t.length c') := by rw [hbi.cell (p := ⟨b, o + n, none⟩) hbl1]; exact hc1
            clear hbox1 hc1
            by_cases hkt : k < t.length
            · obtain ⟨rfl⟩ := hd1.addr (by omega)
              have hdk := (hd1.row k hkt).below hbi (Nat.le_refl _)
              have HK : Hid (t.drop k = t[k] :: t.drop (k + 1)) := M.drop_at t k hkt
              generalize t[k] = d at hdk HK
              obtain ⟨kk, p, v⟩ := d
              have hl2 : b' < wr.heap.size := hdk.lt
              have hl3 : w.heap.size < wr.heap.size := Nat.lt_of_lt_of_le hsz1 hbi.size
              have hl4 : b < wr.heap.size := Nat.lt_of_lt_of_le hbl1 hbi.size
              obtain ⟨ck, cp, cv⟩ := hdk
              cases hr : M.reads kk
              · cases hw : M.writes kk
                · go_wp2_with (first | (go_at_call 76; refine (l1Reads_any ⟨_, _, _⟩ _).mono ?_; rintro e w2 ⟨rfl, rfl⟩) | (go_at_call 78; refine (l1Writes_any ⟨_, _, _⟩ _).mono ?_; rintro e w2 ⟨rfl, rfl⟩))
                  exact ⟨⟨m, k + 1, rfl, by go_num, by omega, by omega, M.cnt_step HP2.out HK.out (by simp [M.uses, hr, hw]), (hbi.alloc hbi.size _).alloc (by have := hbi.size; simp; omega) _⟩, by simp [intOf]; omega⟩
                · go_wp2_with (first | (go_at_call 76; refine (l1Reads_any ⟨_, _, _⟩ _).mono ?_; rintro e w2 ⟨rfl, rfl⟩) | (go_at_call 78; refine (l1Writes_any ⟨_, _, _⟩ _).mono ?_; rintro e w2 ⟨rfl, rfl⟩))
                  exact ⟨⟨m + 1, k + 1, by go_num, by go_num, by omega, by omega, M.cnt_step HP2.out HK.out (by simp [M.uses, hr, hw]), (hbi.alloc hbi.size _).alloc (by have := hbi.size; simp; omega) _⟩, by simp [intOf]; omega⟩
              · go_wp2_with (first | (go_at_call 76; refine (l1Reads_any ⟨_, _, _⟩ _).mono ?_; rintro e w2 ⟨rfl, rfl⟩) | (go_at_call 78; refine (l1Writes_any ⟨_, _, _⟩ _).mono ?_; rintro e w2 ⟨rfl, rfl⟩))
                exact ⟨⟨m + 1, k + 1, by go_num, by go_num, by omega, by omega, M.cnt_step HP2.out HK.out (by simp [M.uses, hr]), hbi.alloc hbi.size _⟩, by simp [intOf]; omega⟩
            · go_wp2_with fail
              have hm := M.cnt_fin HP2.out (by omega)
              exact ⟨⟨x + t.length, u + m, n + 1, by go_num, by go_num, by go_num, by omega, by omega, by omega, by rw [hm]; exact M.from_ok HP.out HD.out ht, hw1.trans (hbi.mono hsz1)⟩, by simp [intOf]; omega⟩
      · by_cases hx14 : (x : Int) ≤ 14
        · go_wp2_with fail
          go_ret
          exact ⟨ret_bool (by rw [M.from_fin HP.out (by omega) h3]; have : x ≤ 14 := by omega
                              simp [this]; omega), (below1 w _).trans (hbel.mono (by omega))⟩
        · have hx14' : decide ((x : Int) ≤ 14) = false := by simpa using hx14
          go_wp2_with fail
          go_ret
          exact ⟨ret_bool (by rw [M.from_fin HP.out (by omega) h3]; have : ¬ x ≤ 14 := by omega
                              simp [this]), (below1 w _).trans (hbel.mono (by omega))⟩
  · have h3' : (3 : Int) < ll.length := by omega
    go_enter Tryz.func109, Tryz.ntmps109
    go_wp2_with fail
    go_ret
    exact ⟨ret_bool (by simp [M.prog, h3]), below1 _ _⟩
end
section
open Go.RowKit
structure Rd (w:World) (B rb:Nat) (ca:Option Addr) (cb co L C:Nat) (x:Nat→Int) (p:Nat):Prop where
 s:w.cell? ⟨rb,0,none⟩=some (.slice ca L C)
 p:w.cell? ⟨rb,1,none⟩=some (.int .i64 p)
 fz:w.frozen? ⟨rb,1,none⟩=false
 ad:0 < L→ca=some ⟨cb,co,none⟩
 le:L≤2000
 cells:∀ i,i < L→w.cell? ⟨cb,co+i,none⟩=some (.int .u8 (x i))∧0≤x i∧x i≤255
 ne:0 < L→cb < B
 ge:B≤rb
theorem Rd.lt {w:World} {B rb:Nat} {ca:Option Addr} {cb co L C:Nat} {x:Nat→Int} {p:Nat} (h:Rd w B rb ca cb co L C x p):rb < w.heap.size:=World.block_lt_of_cell? _ _ h.s
theorem Rd.below {w w':World} {B rb:Nat} {ca:Option Addr} {cb co L C:Nat} {x:Nat→Int} {p E:Nat} (h:Rd w B rb ca cb co L C x p) (hb:Below E w w') (hB:w.heap.size≤E):Rd w' B rb ca cb co L C x p :=
 ⟨(hb.cell (p:=⟨rb,0,none⟩) (Nat.lt_of_lt_of_le h.lt hB)).trans h.s,(hb.cell (p:=⟨rb,1,none⟩) (Nat.lt_of_lt_of_le h.lt hB)).trans h.p,(hb.frozen (p:=⟨rb,1,none⟩) (Nat.lt_of_lt_of_le h.lt hB)).trans h.fz,h.ad,h.le,
  fun i hi=>⟨(hb.cell (p:=⟨cb,co+i,none⟩) (Nat.lt_of_lt_of_le (World.block_lt_of_cell? _ _ (h.cells i hi).1) hB)).trans (h.cells i hi).1,(h.cells i hi).2⟩,h.ne,h.ge⟩
theorem Rd.drew {w:World} {B rb:Nat} {ca:Option Addr} {cb co L C:Nat} {x:Nat→Int} {p:Nat} (h:Rd w B rb ca cb co L C x p):Rd w.drew B rb ca cb co L C x p:=⟨h.s,h.p,h.fz,h.ad,h.le,h.cells,h.ne,h.ge⟩
theorem Rd.drewN {w:World} {B rb:Nat} {ca:Option Addr} {cb co L C:Nat} {x:Nat→Int} {p:Nat} (h:Rd w B rb ca cb co L C x p):∀ n,Rd (w.drewN n) B rb ca cb co L C x p
 | 0=>h
 | n+1=>(h.drewN n).drew
theorem Rd.step {w:World} {B rb:Nat} {ca:Option Addr} {cb co L C:Nat} {x:Nat→Int} {p:Nat} (h:Rd w B rb ca cb co L C x p):Rd (w.setCell ⟨rb,1,none⟩ (.int .i64 ((p:Int)+1))) B rb ca cb co L C x (p+1):=by
 refine ⟨?_,?_,?_,h.ad,h.le,fun i hi=>⟨?_,(h.cells i hi).2⟩,h.ne,h.ge⟩
 ·rw [World.cell?_setCell_other _ _ _ _ (fun e=>by have:=congrArg Addr.off e;simp at this)];exact h.s
 ·rw [World.cell?_setCell_same _ _ _ h.p,Int.natCast_add];rfl
 ·rw [World.frozen?_setCell];exact h.fz
 ·rw [World.cell?_setCell_other _ _ _ _ (fun e=>by have e1:rb=cb:=congrArg Addr.block e;have:=h.ne (by omega);have:=h.ge;omega)];exact (h.cells i hi).1
theorem bits_xor_small (a b:Nat) (ha:a < 4294967296) (hb:b < 4294967296):bits .xor .i64 (a:Int) (b:Int)=((a ^^^ b:Nat):Int):=by
 have hx:a ^^^ b < 2 ^ 32:=Nat.xor_lt_two_pow (by omega) (by omega)
 have h1:(BitVec.ofInt 64 (a:Int)).toNat=a:=by
  rw [BitVec.ofInt_natCast,BitVec.toNat_ofNat];exact Nat.mod_eq_of_lt (by omega)
 have h2:(BitVec.ofInt 64 (b:Int)).toNat=b:=by
  rw [BitVec.ofInt_natCast,BitVec.toNat_ofNat];exact Nat.mod_eq_of_lt (by omega)
 show IntKind.i64.wrap ((BitVec.ofInt 64 (a:Int) ^^^ BitVec.ofInt 64 (b:Int)).toNat:Int)=_
 rw [BitVec.toNat_xor,h1,h2,IntKind.wrap_i64]
 omega
theorem mixed_in (X n:Int) (h0:0≤X) (h1:X < 4294967296) (hn:1≤n):0≤(bits .xor .i64 X (X / 64)).tmod n∧(bits .xor .i64 X (X / 64)).tmod n < n:=by
 obtain ⟨a,rfl⟩:=Int.eq_ofNat_of_zero_le h0
 have e:(a:Int) / 64=((a / 64:Nat):Int):=by omega
 rw [e,bits_xor_small a (a / 64) (by omega) (by omega),Int.tmod_eq_emod_of_nonneg (by omega)]
 exact ⟨Int.emod_nonneg _ (by omega),Int.emod_lt_of_pos _ (by omega)⟩
set_option maxHeartbeats 400000 in
theorem pick_any (B rb:Nat) (ca:Option Addr) (cb co L C:Nat) (x:Nat→Int) (p:Nat) (n:Int) (w:World) (hn:1≤n) (hn2:n≤10000000000) (hp:p≤1000000) (h:Rd w B rb ca cb co L C x p) :
  Calls Tryz.prog 65 #[.pointer (some ⟨rb,0,none⟩),.int .i64 n] w fun e w'=>∃ r:Int,e=.returned (.int .i64 r)∧0≤r∧r < n∧Rd w' B rb ca cb co L C x (p+1)∧But rb w w':=by
 have hs:=h.s
 have hpp:=h.p
 have hfz:=h.fz
 have hle:=h.le
 have h2:=h.step
 have hbut:But rb w (w.setCell ⟨rb,1,none⟩ (.int .i64 ((p:Int)+1))):=(But.refl rb w).setCell (Or.inr rfl) _
 have n1:decide (n < 1)=false:=by simp;omega
 rcases Nat.eq_zero_or_pos L with hL | hL
 ·subst hL
  go_enter Tryz.func65,Tryz.ntmps65
  go_wp2_with fail
  go_ret
  exact ⟨0,rfl,by omega,by omega,h2,hbut⟩
 ·have hL0:((L:Int)==0)=false:=by simp;omega
  obtain ⟨rfl⟩:=h.ad hL
  by_cases hpl:p < L
  ·obtain ⟨hc,hx0,hx1⟩:=h2.cells p hpl
   go_enter Tryz.func65,Tryz.ntmps65
   go_wp2_with fail
   go_ret
   exact ⟨x p % n,rfl,Int.emod_nonneg _ (by omega),Int.emod_lt_of_pos _ (by omega),h2,hbut⟩
  ·have hL1:¬ ((L:Int)=0):=by omega
   have hL2:¬ (L=0):=by omega
   have hL3:(0:Int) < L:=by omega
   have hpl':¬ ((p:Int) < L):=by omega
   obtain ⟨q1,hq1,hq1l⟩:∃ q:Nat,(p:Int).tmod L=q∧q < L:=⟨p % L,by rw [Int.tmod_eq_emod_of_nonneg (by omega)];omega,Nat.mod_lt _ hL⟩
   obtain ⟨q2,hq2,hq2l⟩:∃ q:Nat,((p:Int) * 7+3).tmod L=q∧q < L:=⟨(p * 7+3) % L,by rw [show ((p:Int) * 7+3)=((p * 7+3:Nat):Int) from by omega,Int.tmod_eq_emod_of_nonneg (by omega)];exact (Int.natCast_emod _ _).symm,Nat.mod_lt _ hL⟩
   obtain ⟨q3,hq3,hq3l⟩:∃ q:Nat,(p:Int).tdiv L=q∧q≤p:=⟨p / L,by rw [Int.tdiv_eq_ediv_of_nonneg (by omega)];omega,Nat.div_le_self _ _⟩
   obtain ⟨hc1,hx0,hx1⟩:=h2.cells q1 hq1l
   obtain ⟨hc2,hy0,hy1⟩:=h2.cells q2 hq2l
   have i1:(q1:Int) < L:=by omega
   have i2:(q2:Int) < L:=by omega
   generalize x q1=y1 at hc1 hx0 hx1
   generalize x q2=y2 at hc2 hy0 hy1
   go_enter Tryz.func65,Tryz.ntmps65
   go_wp2_with fail
   go_quiet (fail)
   go_wp2_with fail
   go_ret
   obtain ⟨r0,r1⟩:=mixed_in (y1 * 131+y2 * 1117+p * 29+q3 * 53) n (by omega) (by omega) hn
   exact ⟨_,rfl,r0,r1,h2.drewN _,hbut.drewN _⟩
def Rdr (w:World) (B rb p:Nat):Prop:=∃ ca cb co L C x,Rd w B rb ca cb co L C x p
theorem Rdr.lt {w:World} {B rb p:Nat} (h:Rdr w B rb p):rb < w.heap.size:=by obtain ⟨_,_,_,_,_,_,h⟩:=h;exact h.lt
theorem Rdr.ge {w:World} {B rb p:Nat} (h:Rdr w B rb p):B≤rb:=by obtain ⟨_,_,_,_,_,_,h⟩:=h;exact h.ge
theorem Rdr.below {w w':World} {B rb p E:Nat} (h:Rdr w B rb p) (hb:Below E w w') (hB:w.heap.size≤E):Rdr w' B rb p:=by
 obtain ⟨ca,cb,co,L,C,x,h⟩:=h;exact ⟨ca,cb,co,L,C,x,h.below hb hB⟩
theorem Rdr.drew {w:World} {B rb p:Nat} (h:Rdr w B rb p):Rdr w.drew B rb p:=by
 obtain ⟨ca,cb,co,L,C,x,h⟩:=h;exact ⟨ca,cb,co,L,C,x,h.drew⟩
theorem Rdr.alloc {w:World} {B rb p:Nat} (h:Rdr w B rb p) (o:Obj):Rdr (w.alloc o) B rb p:=h.below (below1 w o) (Nat.le_refl _)
theorem Rdr.setCell {w:World} {B rb p:Nat} (h:Rdr w B rb p) {b i:Nat} (hb:B≤b) (hne:b≠rb) (u:Value):Rdr (w.setCell ⟨b,i,none⟩ u) B rb p:=by
 obtain ⟨ca,cb,co,L,C,x,h⟩:=h
 refine ⟨ca,cb,co,L,C,x,?_,?_,?_,h.ad,h.le,fun j hj=>⟨?_,(h.cells j hj).2⟩,h.ne,h.ge⟩
 ·rw [World.cell?_setCell_other _ _ _ _ (fun e=>hne (congrArg Addr.block e))];exact h.s
 ·rw [World.cell?_setCell_other _ _ _ _ (fun e=>hne (congrArg Addr.block e))];exact h.p
 ·rw [World.frozen?_setCell];exact h.fz
 ·rw [World.cell?_setCell_other _ _ _ _ (fun e=>by have e1:b=cb:=congrArg Addr.block e;have:=h.ne (by omega);omega)];exact (h.cells j hj).1
theorem pick_rdr (B rb p:Nat) (n:Int) (w:World) (hn:1≤n) (hn2:n≤1000) (hp:p≤1000000) (h:Rdr w B rb p) :
  Calls Tryz.prog 65 #[.pointer (some ⟨rb,0,none⟩),.int .i64 n] w fun e w'=>∃ r:Int,e=.returned (.int .i64 r)∧0≤r∧r < n∧Rdr w' B rb (p+1)∧But rb w w':=by
 obtain ⟨ca,cb,co,L,C,x,h⟩:=h
 refine (pick_any B rb ca cb co L C x p n w hn (by omega) hp h).mono ?_
 rintro e w' ⟨r,he,h0,h1,hr,hb⟩
 exact ⟨r,he,h0,h1,⟨ca,cb,co,L,C,x,hr⟩,hb⟩
theorem pick_big (B rb p:Nat) (n:Int) (w:World) (hn:1≤n) (hn2:n≤10000000000) (hp:p≤1000000) (h:Rdr w B rb p) :
  Calls Tryz.prog 65 #[.pointer (some ⟨rb,0,none⟩),.int .i64 n] w fun e w'=>∃ r:Int,e=.returned (.int .i64 r)∧0≤r∧r < n∧Rdr w' B rb (p+1)∧But rb w w':=by
 obtain ⟨ca,cb,co,L,C,x,h⟩:=h
 refine (pick_any B rb ca cb co L C x p n w hn hn2 hp h).mono ?_
 rintro e w' ⟨r,he,h0,h1,hr,hb⟩
 exact ⟨r,he,h0,h1,⟨ca,cb,co,L,C,x,hr⟩,hb⟩
end
end Go.Proofs.YtmhpgdliaclokaaGreat
