/- spec's orders: the reasons for which one event must be ahead of another one. Of at most 1048576 threads and steps. -/
import Derived.Test.YtmhpgdliaclokaaGreatRows
import Derived.Test.YtmhpgdliaclokaaGreatQyao
namespace Go.Proofs.YtmhpgdliaclokaaGreat
section
open Go.RowKit
structure Lp where
 O:Nat
 a:Option Addr
 b:Nat
 o:Nat
 c:Nat
 ll:List (List M.D)
 g:Nat
 cc:Nat
structure Lp.At (t:Lp) (w:World):Prop where
 p0:w.cell? ⟨t.O,0,none⟩=some (.slice t.a t.ll.length t.c)
 l0:w.cell? ⟨t.O,1,none⟩=some (.slice (some ⟨t.g,0,none⟩) (M.deeds t.ll).length t.cc)
 ss:DoSS w t.a t.b t.o t.ll
 dv:DvS w (some ⟨t.g,0,none⟩) t.g (M.deeds t.ll)
structure Lp.Ok (t:Lp):Prop where
 l:t.ll.length≤1048576
 ls:∀ s∈t.ll,s.length≤1048576
 dl:(M.deeds t.ll).length≤42
theorem cellC {W W':World} {p:Addr} {v:Value} (hb:Below W.heap.size W W') (h:W.cell? p=some v):W'.cell? p=some v:=(hb.cell (p:=p) (World.block_lt_of_cell? _ _ h)).trans h
theorem Lp.At.below {t:Lp} {w w':World} (h:t.At w) (hb:Below w.heap.size w w'):t.At w':=⟨cellC hb h.p0,cellC hb h.l0,h.ss.below hb (Nat.le_refl _),h.dv.bel hb (Nat.le_refl _)⟩
theorem Lp.lt {t:Lp} {n:Nat} {x:M.De} (hx:(M.deeds t.ll)[n]?=some x):n < (M.deeds t.ll).length:=by
 rcases Nat.lt_or_ge n (M.deeds t.ll).length with h | h
 ·exact h
 ·rw [List.getElem?_eq_none h] at hx;cases hx
theorem Lp.At.el {t:Lp} {w:World} (h:t.At w) {n:Nat} {x:M.De} (hx:(M.deeds t.ll)[n]?=some x):DvAt w t.g (n * 3) x:=by
 have hn:=Lp.lt hx
 rw [List.getElem?_eq_getElem hn] at hx
 obtain rfl:=Option.some.inj hx
 exact h.dv.at hn
structure Lq where
 rb:Nat
 rc:Nat
 wb:Nat
 wc:Nat
 fb:Nat
 fo:Nat
 fc:Nat
 l:List Int
 kb:Nat
 kc:Nat
 rows:List (List Int)
structure Lq.At (u:Lq) (t:Lp) (w:World):Prop where
 p:t.At w
 c2:w.cell? ⟨t.O,2,none⟩=some (.slice (some ⟨u.rb,0,none⟩) (M.deeds t.ll).length u.rc)
 c3:w.cell? ⟨t.O,3,none⟩=some (.slice (some ⟨u.wb,0,none⟩) (M.deeds t.ll).length u.wc)
 c4:w.cell? ⟨t.O,4,none⟩=some (.slice (some ⟨u.fb,u.fo,none⟩) u.l.length u.fc)
 c5:w.cell? ⟨t.O,5,none⟩=some (.slice (some ⟨u.kb,0,none⟩) (M.deeds t.ll).length u.kc)
 rd:∀ n x,(M.deeds t.ll)[n]?=some x→w.cell? ⟨u.rb,n,none⟩=some (.bool (M.reads x.d.k))
 wr:∀ n x,(M.deeds t.ll)[n]?=some x→w.cell? ⟨u.wb,n,none⟩=some (.bool (M.writes x.d.k))
 fr:IntS w (some ⟨u.fb,u.fo,none⟩) u.fb u.fo u.l
 len:Hid (u.l.length=(M.deeds t.ll).length)
 rk:∀ n x,(M.deeds t.ll)[n]?=some x→w.cell? ⟨u.kb,n,none⟩=some (.int .i64 (M.rankAt u.l u.rows n x))
theorem Lq.At.below {u:Lq} {t:Lp} {w w':World} (h:u.At t w) (hb:Below w.heap.size w w'):u.At t w' :=
 ⟨h.p.below hb,cellC hb h.c2,cellC hb h.c3,cellC hb h.c4,cellC hb h.c5,fun n x hx=>cellC hb (h.rd n x hx),fun n x hx=>cellC hb (h.wr n x hx),h.fr.below hb (Nat.le_refl _),h.len,fun n x hx=>cellC hb (h.rk n x hx)⟩
set_option maxHeartbeats 1000000 in
set_option maxRecDepth 100000 in
theorem do_any (t:Lp) (n:Nat) (x:M.De) (w:World) (hk:t.Ok) (h:t.At w) (hx:(M.deeds t.ll)[n]?=some x) :
  Calls Tryz.prog 77 #[.pointer (some ⟨t.O,0,none⟩),.int .i64 (n:Int)] w fun e w'=>e=.returned (.agg #[.int .i64 x.d.k,.int .i64 x.d.p,.int .i64 x.d.v])∧Below w.heap.size w w':=by
 have hn:=Lp.lt hx
 have hb1:=below1 w (.cells #[.int .i64 0,.int .i64 0,.int .i64 0] 94)
 have h1:=h.below hb1
 have hox:=M.ofEv x (List.mem_of_getElem? hx)
 obtain ⟨c0,c1,c2⟩:=h1.el hx
 have i1:(n:Int) < (M.deeds t.ll).length:=by omega
 have r0:(w.alloc (.cells #[.int .i64 0,.int .i64 0,.int .i64 0] 94)).cell? ⟨w.heap.size,0,none⟩=some (.int .i64 0):=by simp
 have r1:(w.alloc (.cells #[.int .i64 0,.int .i64 0,.int .i64 0] 94)).cell? ⟨w.heap.size,1,none⟩=some (.int .i64 0):=by simp
 have r2:(w.alloc (.cells #[.int .i64 0,.int .i64 0,.int .i64 0] 94)).cell? ⟨w.heap.size,2,none⟩=some (.int .i64 0):=by simp
 have rf:∀ j,(w.alloc (.cells #[.int .i64 0,.int .i64 0,.int .i64 0] 94)).frozen? ⟨w.heap.size,j,none⟩=false:=by intro j;simp
 have lO:t.O < w.heap.size:=World.block_lt_of_cell? _ _ h.p0
 have lg:t.g < w.heap.size:=World.block_lt_of_cell? _ _ (h.el hx).c0
 go_enter Tryz.func77,Tryz.ntmps77
 go_wp2_with fail
 generalize w.alloc (.cells #[.int .i64 0,.int .i64 0,.int .i64 0] 94)=W at *
 have lw:w.heap.size < W.heap.size:=World.block_lt_of_cell? _ _ r0
 have p0:=h1.p0
 have l0:=h1.l0
 have N0:w.heap.size≠t.O:=by omega
 have N1:w.heap.size≠t.g:=by omega
 have C:=l12Do_ev t.a t.b t.o t.c t.ll x W.drew hox hk.l hk.ls (h1.ss.below (Below.refl _ _).drew (Nat.le_refl _))
 go_region_held3 (fun w'=>w'.cell? ⟨t.O,0,none⟩=some (.slice t.a t.ll.length t.c)∧w'.cell? ⟨t.O,1,none⟩=some (.slice (some ⟨t.g,0,none⟩) (M.deeds t.ll).length t.cc)∧w'.cell? ⟨t.g,n * 3,none⟩=some (.int .i64 x.t)∧w'.cell? ⟨t.g,n * 3+1,none⟩=some (.int .i64 x.i)∧w'.cell? ⟨t.g,n * 3+2,none⟩=some (.bool x.last)) (go_keep) (first
  | (go_at_call 134;refine C.mono ?_;rintro e w1 ⟨rfl,hg1⟩;have hb2:Below W.heap.size W w1:=(Below.refl _ _).drew.trans hg1;have Y0:=cellC hb2 p0;have Y1:=cellC hb2 l0;have Y2:=cellC hb2 c0;have Y3:=cellC hb2 c1;have Y4:=cellC hb2 c2;have Z0:=cellC hb2 r0;have Z1:=cellC hb2 r1;have Z2:=cellC hb2 r2;have Zf:=fun j=>(hb2.frozen (p:=⟨w.heap.size,j,none⟩) lw).trans (rf j)))
 go_wp2_with fail
 have hbw:=hb1.trans (hb2.mono hb1.size)
 refine bodyPost_ret (v:=.agg #[.int .i64 x.d.k,.int .i64 x.d.p,.int .i64 x.d.v]) (by simp [results,Tryz.results77,go_sem,Z0,Z1,Z2]) rfl ⟨rfl,?_⟩
 exact ((hbw.setCell (by exact Nat.le_refl _) _).setCell (by exact Nat.le_refl _) _).setCell (by exact Nat.le_refl _) _
set_option maxHeartbeats 400000 in
set_option maxRecDepth 100000 in
theorem sown_any (t:Lp) (a b:Nat) (x y:M.De) (w:World) (_hk:t.Ok) (h:t.At w) (hx:(M.deeds t.ll)[a]?=some x) (hy:(M.deeds t.ll)[b]?=some y) :
  Calls Tryz.prog 135 #[.pointer (some ⟨t.O,0,none⟩),.int .i64 (a:Int),.int .i64 (b:Int)] w fun e w'=>e=.returned (.bool (M.own a b x y))∧Below w.heap.size w w':=by
 have ha:=Lp.lt hx
 have hb:=Lp.lt hy
 have i1:(a:Int) < (M.deeds t.ll).length:=by omega
 have i2:(b:Int) < (M.deeds t.ll).length:=by omega
 have K0:=BelowOf.cell h.l0
 have C0:=BelowOf.cell (h.el hx).c0
 have D0:=BelowOf.cell (h.el hy).c0
 haveI:Inhabited (BelowOf w):=⟨belOf w⟩
 by_cases hab:a < b
 ·have hab':(a:Int) < b:=by omega
  go_enter Tryz.func135,Tryz.ntmps135
  go_wp2_with fail
  refine wp_region_quiet_bel (by kernel_rfl) (by kernel_rfl) ?_
  repeat (quiet_step (fail))
  refine wpQuiet_nil ?_
  rintro _ ⟨⟨wq,hwq⟩,rfl⟩
  go_wp2_with fail
  go_ret
  exact ⟨ret_bool (by rw [Bool.eq_iff_iff];simp [M.own,hab];omega),hwq⟩
 ·have hab':decide ((a:Int) < b)=false:=by simp;omega
  go_enter Tryz.func135,Tryz.ntmps135
  go_wp2_with fail
  refine wp_region_quiet_bel (by kernel_rfl) (by kernel_rfl) ?_
  iterate 4 (quiet_step (fail))
  iterate 17 go_big_quiet_skip
  iterate 2 (quiet_step (fail))
  refine wpQuiet_nil ?_
  rintro _ ⟨⟨wq,hwq⟩,rfl⟩
  go_wp2_with fail
  go_ret
  exact ⟨ret_bool (by simp [M.own,hab]),hwq⟩
theorem Tryz.fld0 (k p v:Value) (w:World):(Instr.field 94 (.agg #[k,p,v]) 0).run Tryz.prog w=.ok k w:=by
 unfold Instr.field
 simp [run_underlying Tryz.underlying94,part,asAgg,go_sem]
theorem Tryz.fld1 (k p v:Value) (w:World):(Instr.field 94 (.agg #[k,p,v]) 1).run Tryz.prog w=.ok p w:=by
 unfold Instr.field
 simp [run_underlying Tryz.underlying94,part,asAgg,go_sem]
set_option maxHeartbeats 2000000 in
set_option maxRecDepth 100000 in
theorem same_any (t : Lp) (u : Lq) (a b : Nat) (x y : M.De) (w : World) (hk : t.Ok) (h : u.At t w) (hx : (M.deeds t.ll)[a]? = some x) (hy : (M.deeds t.ll)[b]? = some y) :
    Calls Tryz.prog 139 #[.pointer (some ⟨t.O, 0, none⟩), .int .i64 (a : Int), .int .i64 (b : Int)] w fun e w' => e = .returned (.bool (M.onePl x y)) ∧ Below w.heap.size w w' := by
  have fl := Tryz.fld1
  have ha := Lp.lt hx
  have hb := Lp.lt hy
  have i1 : (a : Int) < (M.deeds t.ll).length := by omega
  have i2 : (b : Int) < (M.deeds t.ll).length := by omega
  have k2 := h.c2
  have k3 := h.c3
  have rx := h.rd a x hx
  have wx := h.wr a x hx
  have ry := h.rd b y hy
  have wy := h.wr b y hy
  cases hrx : M.reads x.d.k <;> cases hwx : M.writes x.d.k <;> cases hry : M.reads y.d.k <;> cases hwy : M.writes y.d.k
  all_goals
    rw [hrx] at rx
    rw [hwx] at wx
    rw [hry] at ry
    rw [hwy] at wy
    go_enter Tryz.func139, Tryz.ntmps139
    go_wp2_with fail
    first
    | (go_ret
       exact ⟨ret_bool (by simp [M.onePl, M.De.uses, M.uses, hrx, hwx, hry, hwy]), Below.refl _ _⟩)
    | (refine (do_any t a x _ hk h.p hx).mono ?_
       rintro e w1 ⟨rfl, hb1⟩
       go_wp2_with fail
       refine (do_any t b y _ hk (h.p.below hb1) hy).mono ?_
       rintro e w2 ⟨rfl, hb2⟩
       go_wp2_with fail
       go_ret
       exact ⟨ret_bool (by simp [M.onePl, M.De.uses, M.uses, hrx, hwx, hry, hwy]), hb1.trans (hb2.mono hb1.size)⟩)
set_option maxHeartbeats 1000000 in
set_option maxRecDepth 100000 in
theorem sread_any (t:Lp) (u:Lq) (a b:Nat) (x y:M.De) (w:World) (_hk:t.Ok) (h:u.At t w) (hx:(M.deeds t.ll)[a]?=some x) (hy:(M.deeds t.ll)[b]?=some y) :
  Calls Tryz.prog 136 #[.pointer (some ⟨t.O,0,none⟩),.int .i64 (a:Int),.int .i64 (b:Int)] w fun e w'=>e=.returned (.bool (M.sRead u.l a b x y))∧Below w.heap.size w w':=by
 have ha:=Lp.lt hx
 have hb:=Lp.lt hy
 have hbl:b < u.l.length:=by rw [h.len.out];exact hb
 have i1:(a:Int) < (M.deeds t.ll).length:=by omega
 have i2:(b:Int) < (M.deeds t.ll).length:=by omega
 have i3:(b:Int) < u.l.length:=by omega
 have k2:=h.c2
 have k3:=h.c3
 have k4:=h.c4
 have wx:=h.wr a x hx
 have ry:=h.rd b y hy
 have fb:=h.fr.row b hbl
 have HG:Hid (u.l.getD b 0=u.l[b]):=by show _=_;simp [hbl]
 generalize u.l[b]=f at *
 cases hwx:M.writes x.d.k<;>cases hry:M.reads y.d.k
 all_goals
  rw [hwx] at wx
  rw [hry] at ry
  go_enter Tryz.func136,Tryz.ntmps136
  go_wp2_with fail
  go_ret
  exact ⟨ret_bool (by rw [M.sRead,HG.out,hwx,hry];rfl),Below.refl _ _⟩
set_option maxHeartbeats 1000000 in
set_option maxRecDepth 100000 in
theorem sover_any (t:Lp) (u:Lq) (a b:Nat) (x y:M.De) (w:World) (hk:t.Ok) (h:u.At t w) (hx:(M.deeds t.ll)[a]?=some x) (hy:(M.deeds t.ll)[b]?=some y) :
  Calls Tryz.prog 137 #[.pointer (some ⟨t.O,0,none⟩),.int .i64 (a:Int),.int .i64 (b:Int)] w fun e w'=>e=.returned (.bool (M.sOver u.l u.rows a b x y))∧Below w.heap.size w w':=by
 have ha:=Lp.lt hx
 have hb:=Lp.lt hy
 have i1:(a:Int) < (M.deeds t.ll).length:=by omega
 have i2:(b:Int) < (M.deeds t.ll).length:=by omega
 have K3:=BelowOf.cell h.c3
 have K5:=BelowOf.cell h.c5
 have WY:=BelowOf.cell (h.wr b y hy)
 have RX:=BelowOf.cell (h.rk a x hx)
 have RY:=BelowOf.cell (h.rk b y hy)
 have C:=fun q:BelowOf w=>same_any t u a b x y q.x hk (h.below q.h) hx hy
 haveI:Inhabited (BelowOf w):=⟨belOf w⟩
 go_enter Tryz.func137,Tryz.ntmps137
 go_wp2_with fail
 cases hwy:M.writes y.d.k
 ·rw [hwy] at WY
  refine wp_region_quiet_bel (by kernel_rfl) (by kernel_rfl) ?_
  iterate 8 (quiet_step (fail))
  iterate 3 go_big_quiet_skip
  iterate 2 (quiet_step (fail))
  iterate 4 go_big_quiet_skip
  iterate 2 (quiet_step (fail))
  iterate 15 go_big_quiet_skip
  iterate 2 (quiet_step (fail))
  refine wpQuiet_nil ?_
  rintro _ ⟨⟨wq,hwq⟩,rfl⟩
  go_wp2_with fail
  go_ret
  exact ⟨ret_bool (by simp [M.sOver,hwy]),hwq⟩
 ·rw [hwy] at WY
  by_cases hab:a=b
  ·subst hab
   refine wp_region_quiet_bel (by kernel_rfl) (by kernel_rfl) ?_
   iterate 13 (quiet_step (fail))
   iterate 4 go_big_quiet_skip
   iterate 2 (quiet_step (fail))
   iterate 15 go_big_quiet_skip
   iterate 2 (quiet_step (fail))
   refine wpQuiet_nil ?_
   rintro _ ⟨⟨wq,hwq⟩,rfl⟩
   go_wp2_with fail
   go_ret
   exact ⟨ret_bool (by simp [M.sOver]),hwq⟩
  ·have hab':((a:Int) != b)=true:=by simp;omega
   have hab2:((a:Int)==b)=false:=by simp;omega
   cases ho:M.onePl x y
   ·rw [ho] at C
    refine wp_region_quiet_bel (by kernel_rfl) (by kernel_rfl) ?_
    iterate 19 (quiet_step (first | (go_at_call 139;exact Calls.bel_of (C _))))
    iterate 15 go_big_quiet_skip
    iterate 2 (quiet_step (fail))
    refine wpQuiet_nil ?_
    rintro _ ⟨⟨wq,hwq⟩,rfl⟩
    go_wp2_with fail
    go_ret
    exact ⟨ret_bool (by simp [M.sOver,hwy,ho]),hwq⟩
   ·rw [ho] at C
    refine wp_region_quiet_bel (by kernel_rfl) (by kernel_rfl) ?_
    repeat (quiet_step (first | (go_at_call 139;exact Calls.bel_of (C _))))
    refine wpQuiet_nil ?_
    rintro _ ⟨⟨wq,hwq⟩,rfl⟩
    go_wp2_with fail
    go_ret
    exact ⟨ret_bool (by simp [M.sOver,hwy,ho,hab2]),hwq⟩
theorem wall13_any (d:M.D) (w:World):Calls Tryz.prog 180 #[.agg #[.int .i64 d.k,.int .i64 d.p,.int .i64 d.v]] w fun e w'=>e=.returned (.bool (M.isWall d.k))∧Below w.heap.size w w':=by
 cases h:(d.k==4)
 all_goals
  go_enter Tryz.func180,Tryz.ntmps180
  go_wp2_with fail
  go_ret
  exact ⟨ret_bool (by simp [M.isWall,h]),below1 _ _⟩
end
end Go.Proofs.YtmhpgdliaclokaaGreat
