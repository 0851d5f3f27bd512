/- spec.ShapeOf, and what it calls. No condition. spec.ShapeOf. No condition. spec.l6Open: a reader of a code. spec.DrawShapeOf: a shape and a way, drawn. Of codes of at most 1048576 bytes. Small facts for the rows' proofs. No condition. What an argument of a law reads as: a code, bytes in memory. No condition. -/
import Derived.Test.YtbipmookmhihlaaGreatBnQf
import Derived.Test.YtbipmookmhihlaaGreatRd
import Derived.Handy
import Derived.Test.YtbipmookmhihlaaGreatRows
import Derived.ProofKit
import Derived.Deep.Slices
import Derived.ChangeSlices
import Derived.OpenShut

namespace Go.Proofs.YtbipmookmhihlaaGreat
open Go.RowKit

set_option maxHeartbeats 400000 in
theorem l23Store_any (h pl v k : Int) (w : World) (hk : M.kst h = k) :
    Calls Tryz.prog 19 #[.int .i64 pl, .int .i64 v, .int .i64 h] w fun e w' => e = .returned (.agg #[.int .i64 k, .int .i64 pl, .int .i64 v]) ∧ Below w.heap.size w w' := by
  subst hk
  by_cases h2 : h = 2
  · rw [M.kst_yes h2]
    subst h2
    go_enter Tryz.func19, Tryz.ntmps19
    go_wp2_with fail
    go_returns
    exact ⟨rfl, by go_grown⟩
  · rw [M.kst_no h2]
    have h2' : (h == 2) = false := by simpa using h2
    go_enter Tryz.func19, Tryz.ntmps19
    go_wp2_with fail
    go_returns
    exact ⟨rfl, by go_grown⟩

set_option maxHeartbeats 400000 in
theorem l23Load_any (h pl k : Int) (w : World) (hk : M.kld h = k) :
    Calls Tryz.prog 20 #[.int .i64 pl, .int .i64 h] w fun e w' => e = .returned (.agg #[.int .i64 k, .int .i64 pl, .int .i64 0]) ∧ Below w.heap.size w w' := by
  subst hk
  by_cases h2 : h = 2
  · rw [M.kld_yes h2]
    subst h2
    go_enter Tryz.func20, Tryz.ntmps20
    go_wp2_with fail
    go_returns
    exact ⟨rfl, by go_grown⟩
  · rw [M.kld_no h2]
    have h2' : (h == 2) = false := by simpa using h2
    go_enter Tryz.func20, Tryz.ntmps20
    go_wp2_with fail
    go_returns
    exact ⟨rfl, by go_grown⟩

/-- What is answered: a row of the call's own. -/
structure TwoAns (w w' : World) (e : Ending) (l : List M.D) : Prop where
  ex : ∃ x c, e = .returned (.slice x l.length c) ∧ w'.ownsRow w.heap.size 45 3 (.slice x l.length c) l.length (flat l)
  bel : Below w.heap.size w w'
theorem two_lit {w W : World} {N : Nat} (l : List M.D) {cs : Array Value} (hb : Below w.heap.size w W) (hcs : cs.toList = flat l) (hn : l.length ≤ 1000) (hN : W.heap.size = N) : TwoAns w (W.alloc (.cells cs 45)) (.returned (.slice (some ⟨N, 0, none⟩) l.length l.length)) l := by
  subst hN
  exact ⟨⟨_, _, rfl, own_lit (w := W) (B := w.heap.size) l hb.size hcs hn⟩, hb.alloc hb.size _⟩

set_option maxHeartbeats 1000000 in
set_option maxRecDepth 100000 in
theorem l23Two_any (h ak ap av bk bp bv : Int) (w : World) :
    Calls Tryz.prog 18 #[.agg #[.int .i64 ak, .int .i64 ap, .int .i64 av], .agg #[.int .i64 bk, .int .i64 bp, .int .i64 bv], .int .i64 h] w fun e w' => TwoAns w w' e (M.fin h [⟨ak, ap, av⟩, ⟨bk, bp, bv⟩]) := by
  have C1 := fun W => l1Reads_any ⟨ak, ap, av⟩ W
  have C2 := fun W => l1Writes_any ⟨bk, bp, bv⟩ W
  simp only at C1 C2
  by_cases h1 : h = 1
  · subst h1
    go_enter Tryz.func18, Tryz.ntmps18
    go_wp2_with fail
    go_ret
    exact two_lit [⟨ak, ap, av⟩, ⟨4, 0, 0⟩, ⟨bk, bp, bv⟩] (below2 _ _ _) rfl (by simp) (by simp only [World.size_alloc])
  · have h1' : (h == 1) = false := by simpa using h1
    by_cases h3 : h = 3
    · subst h3
      cases hr : M.reads ak
      · have e : M.fin 3 [⟨ak, ap, av⟩, ⟨bk, bp, bv⟩] = [⟨ak, ap, av⟩, ⟨bk, bp, bv⟩] := by simp [M.fin, hr]
        rw [e]
        rw [hr] at C1
        go_enter Tryz.func18, Tryz.ntmps18
        go_wp2_with (first | (go_at_call 32; refine (C1 _).mono ?_; rintro e w1 ⟨rfl, rfl⟩) | (go_at_call 33; refine (C2 _).mono ?_; rintro e w1 ⟨rfl, rfl⟩))
        go_ret
        exact two_lit [⟨ak, ap, av⟩, ⟨bk, bp, bv⟩] (below3 _ _ _ _) rfl (by simp) (by simp only [World.size_alloc])
      · cases hw : M.writes bk
        · have e : M.fin 3 [⟨ak, ap, av⟩, ⟨bk, bp, bv⟩] = [⟨ak, ap, av⟩, ⟨bk, bp, bv⟩] := by simp [M.fin, hw]
          rw [e]
          rw [hr] at C1
          rw [hw] at C2
          go_enter Tryz.func18, Tryz.ntmps18
          go_wp2_with (first | (go_at_call 32; refine (C1 _).mono ?_; rintro e w1 ⟨rfl, rfl⟩) | (go_at_call 33; refine (C2 _).mono ?_; rintro e w1 ⟨rfl, rfl⟩))
          go_ret
          exact two_lit [⟨ak, ap, av⟩, ⟨bk, bp, bv⟩] ((below3 _ _ _ _).alloc (by simp; omega) _) rfl (by simp) (by simp only [World.size_alloc])
        · have e : M.fin 3 [⟨ak, ap, av⟩, ⟨bk, bp, bv⟩] = [⟨ak, ap, av⟩, ⟨3, bp, 0⟩] := by simp [M.fin, hr, hw]
          rw [e]
          rw [hr] at C1
          rw [hw] at C2
          go_enter Tryz.func18, Tryz.ntmps18
          go_wp2_with (first | (go_at_call 32; refine (C1 _).mono ?_; rintro e w1 ⟨rfl, rfl⟩) | (go_at_call 33; refine (C2 _).mono ?_; rintro e w1 ⟨rfl, rfl⟩))
          go_ret
          exact two_lit [⟨ak, ap, av⟩, ⟨3, bp, 0⟩] ((below3 _ _ _ _).alloc (by simp; omega) _) rfl (by simp) (by simp only [World.size_alloc])
    · have h3' : (h == 3) = false := by simpa using h3
      have e : M.fin h [⟨ak, ap, av⟩, ⟨bk, bp, bv⟩] = [⟨ak, ap, av⟩, ⟨bk, bp, bv⟩] := by simp [M.fin, h1, h3]
      rw [e]
      go_enter Tryz.func18, Tryz.ntmps18
      go_wp2_with fail
      go_ret
      exact two_lit [⟨ak, ap, av⟩, ⟨bk, bp, bv⟩] (below2 _ _ _) rfl (by simp) (by simp only [World.size_alloc])

end Go.Proofs.YtbipmookmhihlaaGreat

namespace Go.Proofs.YtbipmookmhihlaaGreat
open Go.RowKit

set_option maxHeartbeats 2000000 in
set_option linter.unusedSimpArgs false in
set_option maxRecDepth 100000 in
theorem ssh_cross (h : Int) (w : World) (o3 : 0 ≤ h) (o4 : h ≤ 3) :
    Calls Tryz.prog 10 #[.int .i64 1, .int .i64 h] w fun e w' => ∃ v, e = .returned (.tuple #[.agg #[v], .bool true]) ∧ (∃ vs, Rdg w' w.heap.size v ((M.raw 1 h).map (M.fin h)) vs) ∧ Below w.heap.size w w' := by
  have bP := below2 w (.cells #[.slice none 0 0] 27) (.cells #[.slice none 0 0] 27)
  have hQ := (Slot1.new w (.slice none 0 0) 27).bl' (below1 _ (.cells #[.slice none 0 0] 27))
  have hP := Slot1.new (w.alloc (.cells #[.slice none 0 0] 27)) (.slice none 0 0) 27
  rw [World.size_alloc] at hP
  have C1 := fun W => l6In_any 1 1 6 W
  have C2 := fun W => l6In_any h 0 3 W
  rw [show M.rng 1 6 1 = true by decide] at C1
  rw [show M.rng 0 3 h = true by simp [M.rng, o3, o4]] at C2
  obtain ⟨ks, hks⟩ : ∃ x, M.kst h = x := ⟨_, rfl⟩
  obtain ⟨kl, hkl⟩ : ∃ x, M.kld h = x := ⟨_, rfl⟩
  have hs : Hid (M.kst h = ks) := hks
  have hl : Hid (M.kld h = kl) := hkl
  obtain ⟨l0, hl0⟩ : ∃ x, M.fin h [⟨ks, 0, 1⟩, ⟨kl, 1, 0⟩] = x := ⟨_, rfl⟩
  have T0 := fun W => l23Two_any h ks 0 1 kl 1 0 W
  rw [hl0] at T0
  obtain ⟨l1, hl1⟩ : ∃ x, M.fin h [⟨ks, 1, 1⟩, ⟨kl, 0, 0⟩] = x := ⟨_, rfl⟩
  have T1 := fun W => l23Two_any h ks 1 1 kl 0 0 W
  rw [hl1] at T1
  have er : (M.raw 1 h).map (M.fin h) = [l0, l1] := by
    have e0 : M.raw 1 h = [[⟨ks, 0, 1⟩, ⟨kl, 1, 0⟩], [⟨ks, 1, 1⟩, ⟨kl, 0, 0⟩]] := by simp [M.raw, M.sst, M.sld, hks, hkl, M.kst_no, M.kld_no]
    rw [e0]
    simp only [List.map_cons, List.map_nil, hl0, hl1]
  rw [er]
  clear er hks hkl hl0 hl1
  go_enter Tryz.func10, Tryz.ntmps10
  go_wp2_with fail
  refine (C1 _).mono ?_
  rintro e w0 ⟨rfl, rfl⟩
  go_wp2_with fail
  refine (C2 _).mono ?_
  rintro e w0 ⟨rfl, rfl⟩
  clear C1 C2
  go_wp2_with fail
  generalize hV : ((w.alloc (.cells #[.slice none 0 0] 27)).alloc (.cells #[.slice none 0 0] 27)) = V at *
  have hb := Below.refl V.heap.size V
  have sV : V.heap.size = w.heap.size + 2 := by rw [← hV]; simp
  clear hV
  refine (l23Store_any h 0 1 ks _ hs.out).mono ?_
  rintro e W1 ⟨rfl, b⟩
  replace hb := hb.trans (b.mono hb.size)
  clear b
  go_wp2_with fail
  refine (l23Load_any h 1 kl _ hl.out).mono ?_
  rintro e W2 ⟨rfl, b⟩
  replace hb := hb.trans (b.mono hb.size)
  clear b
  go_wp2_with fail
  refine (T0 _).mono ?_
  rintro e W3 ⟨⟨x0, c0, rfl, R0⟩, b⟩
  replace R0 := ownsRow_mono R0 hb.size
  replace hb := hb.trans (b.mono hb.size)
  clear b
  go_wp2_with fail
  refine (l23Store_any h 1 1 ks _ hs.out).mono ?_
  rintro e W4 ⟨rfl, b⟩
  replace hb := hb.trans (b.mono hb.size)
  replace R0 := ownsRow_below R0 b
  clear b
  go_wp2_with fail
  refine (l23Load_any h 0 kl _ hl.out).mono ?_
  rintro e W5 ⟨rfl, b⟩
  replace hb := hb.trans (b.mono hb.size)
  replace R0 := ownsRow_below R0 b
  clear b
  go_wp2_with fail
  refine (T1 _).mono ?_
  rintro e W6 ⟨⟨x1, c1, rfl, R1⟩, b⟩
  have hne : ∀ k, (Value.slice x0 l0.length c0).ownBlock = some k → (Value.slice x1 l1.length c1).ownBlock ≠ some k := fun k h1 h2 => by have := (R0.lt k h1).2; have := own_ge R1 k h2; omega
  replace R0 := ownsRow_below R0 b
  replace R1 := ownsRow_mono R1 hb.size
  replace hb := hb.trans (b.mono hb.size)
  clear b
  have O := own_lit2 (w := W6) (B := V.heap.size) (v1 := (.slice x0 l0.length c0)) (v2 := (.slice x1 l1.length c1)) hb.size
  have bo := below1 W6 (.cells #[.slice x0 l0.length c0, .slice x1 l1.length c1] 42)
  replace R0 := ownsRow_below R0 bo
  replace R1 := ownsRow_below R1 bo
  replace hb := hb.trans (bo.mono hb.size)
  have RD := rdg_two (l1 := l0) (l2 := l1) R0 R1 hne O
  have P1 := hP.bl' hb
  have Q1 := hQ.bl' hb
  have bw := bP.trans (hb.mono bP.size)
  have p0 := P1.c
  have pf := P1.fz
  have q0 := Q1.c
  have qf := Q1.fz
  have lP := P1.lt
  have lQ := Q1.lt
  have nPQ : w.heap.size ≠ w.heap.size + 1 := by omega
  have P2 := P1.set (.slice (some ⟨W6.heap.size, 0, none⟩) 2 2)
  have Q2 := Q1.far (b' := w.heap.size + 1) (i := 0) (by omega) (.slice (some ⟨W6.heap.size, 0, none⟩) 2 2)
  have Q3 := Q2.set (.slice (some ⟨W6.heap.size, 0, none⟩) 2 2)
  have p2 := P2.c
  have q2 := Q2.c
  have qf2 := Q2.fz
  have q3 := Q3.c
  clear R0 R1 O bo
  go_wp2_with fail
  exact bodyPost_ret (v := .tuple #[.agg #[.slice (some ⟨W6.heap.size, 0, none⟩) 2 2], .bool true]) (by simp [results, Tryz.results10, go_sem, q3]) rfl ⟨_, rfl, ⟨_, ((RD.far (by omega) _).far (by omega) _).mono (by omega)⟩, (bw.setCell (by show w.heap.size ≤ w.heap.size + 1; omega) _).setCell (Nat.le_refl _) _⟩

set_option maxHeartbeats 2000000 in
set_option linter.unusedSimpArgs false in
set_option maxRecDepth 100000 in
theorem ssh_pass (h : Int) (w : World) (o3 : 0 ≤ h) (o4 : h ≤ 3) :
    Calls Tryz.prog 10 #[.int .i64 2, .int .i64 h] w fun e w' => ∃ v, e = .returned (.tuple #[.agg #[v], .bool true]) ∧ (∃ vs, Rdg w' w.heap.size v ((M.raw 2 h).map (M.fin h)) vs) ∧ Below w.heap.size w w' := by
  have bP := below2 w (.cells #[.slice none 0 0] 27) (.cells #[.slice none 0 0] 27)
  have hQ := (Slot1.new w (.slice none 0 0) 27).bl' (below1 _ (.cells #[.slice none 0 0] 27))
  have hP := Slot1.new (w.alloc (.cells #[.slice none 0 0] 27)) (.slice none 0 0) 27
  rw [World.size_alloc] at hP
  have C1 := fun W => l6In_any 2 1 6 W
  have C2 := fun W => l6In_any h 0 3 W
  rw [show M.rng 1 6 2 = true by decide] at C1
  rw [show M.rng 0 3 h = true by simp [M.rng, o3, o4]] at C2
  obtain ⟨ks, hks⟩ : ∃ x, M.kst h = x := ⟨_, rfl⟩
  obtain ⟨kl, hkl⟩ : ∃ x, M.kld h = x := ⟨_, rfl⟩
  have hs : Hid (M.kst h = ks) := hks
  have hl : Hid (M.kld h = kl) := hkl
  obtain ⟨l0, hl0⟩ : ∃ x, M.fin h [⟨1, 0, 1⟩, ⟨ks, 1, 1⟩] = x := ⟨_, rfl⟩
  have T0 := fun W => l23Two_any h 1 0 1 ks 1 1 W
  rw [hl0] at T0
  obtain ⟨l1, hl1⟩ : ∃ x, M.fin h [⟨kl, 1, 0⟩, ⟨2, 0, 0⟩] = x := ⟨_, rfl⟩
  have T1 := fun W => l23Two_any h kl 1 0 2 0 0 W
  rw [hl1] at T1
  have er : (M.raw 2 h).map (M.fin h) = [l0, l1] := by
    have e0 : M.raw 2 h = [[⟨1, 0, 1⟩, ⟨ks, 1, 1⟩], [⟨kl, 1, 0⟩, ⟨2, 0, 0⟩]] := by simp [M.raw, M.sst, M.sld, hks, hkl, M.kst_no, M.kld_no]
    rw [e0]
    simp only [List.map_cons, List.map_nil, hl0, hl1]
  rw [er]
  clear er hks hkl hl0 hl1
  go_enter Tryz.func10, Tryz.ntmps10
  go_wp2_with fail
  refine (C1 _).mono ?_
  rintro e w0 ⟨rfl, rfl⟩
  go_wp2_with fail
  refine (C2 _).mono ?_
  rintro e w0 ⟨rfl, rfl⟩
  clear C1 C2
  go_wp2_with fail
  generalize hV : ((w.alloc (.cells #[.slice none 0 0] 27)).alloc (.cells #[.slice none 0 0] 27)) = V at *
  have hb := Below.refl V.heap.size V
  have sV : V.heap.size = w.heap.size + 2 := by rw [← hV]; simp
  clear hV
  refine (l23Store_any 0 0 1 1 _ rfl).mono ?_
  rintro e W1 ⟨rfl, b⟩
  replace hb := hb.trans (b.mono hb.size)
  clear b
  go_wp2_with fail
  refine (l23Store_any h 1 1 ks _ hs.out).mono ?_
  rintro e W2 ⟨rfl, b⟩
  replace hb := hb.trans (b.mono hb.size)
  clear b
  go_wp2_with fail
  refine (T0 _).mono ?_
  rintro e W3 ⟨⟨x0, c0, rfl, R0⟩, b⟩
  replace R0 := ownsRow_mono R0 hb.size
  replace hb := hb.trans (b.mono hb.size)
  clear b
  go_wp2_with fail
  refine (l23Load_any h 1 kl _ hl.out).mono ?_
  rintro e W4 ⟨rfl, b⟩
  replace hb := hb.trans (b.mono hb.size)
  replace R0 := ownsRow_below R0 b
  clear b
  go_wp2_with fail
  refine (l23Load_any 0 0 2 _ rfl).mono ?_
  rintro e W5 ⟨rfl, b⟩
  replace hb := hb.trans (b.mono hb.size)
  replace R0 := ownsRow_below R0 b
  clear b
  go_wp2_with fail
  refine (T1 _).mono ?_
  rintro e W6 ⟨⟨x1, c1, rfl, R1⟩, b⟩
  have hne : ∀ k, (Value.slice x0 l0.length c0).ownBlock = some k → (Value.slice x1 l1.length c1).ownBlock ≠ some k := fun k h1 h2 => by have := (R0.lt k h1).2; have := own_ge R1 k h2; omega
  replace R0 := ownsRow_below R0 b
  replace R1 := ownsRow_mono R1 hb.size
  replace hb := hb.trans (b.mono hb.size)
  clear b
  have O := own_lit2 (w := W6) (B := V.heap.size) (v1 := (.slice x0 l0.length c0)) (v2 := (.slice x1 l1.length c1)) hb.size
  have bo := below1 W6 (.cells #[.slice x0 l0.length c0, .slice x1 l1.length c1] 42)
  replace R0 := ownsRow_below R0 bo
  replace R1 := ownsRow_below R1 bo
  replace hb := hb.trans (bo.mono hb.size)
  have RD := rdg_two (l1 := l0) (l2 := l1) R0 R1 hne O
  have P1 := hP.bl' hb
  have Q1 := hQ.bl' hb
  have bw := bP.trans (hb.mono bP.size)
  have p0 := P1.c
  have pf := P1.fz
  have q0 := Q1.c
  have qf := Q1.fz
  have lP := P1.lt
  have lQ := Q1.lt
  have nPQ : w.heap.size ≠ w.heap.size + 1 := by omega
  have P2 := P1.set (.slice (some ⟨W6.heap.size, 0, none⟩) 2 2)
  have Q2 := Q1.far (b' := w.heap.size + 1) (i := 0) (by omega) (.slice (some ⟨W6.heap.size, 0, none⟩) 2 2)
  have Q3 := Q2.set (.slice (some ⟨W6.heap.size, 0, none⟩) 2 2)
  have p2 := P2.c
  have q2 := Q2.c
  have qf2 := Q2.fz
  have q3 := Q3.c
  clear R0 R1 O bo
  go_wp2_with fail
  exact bodyPost_ret (v := .tuple #[.agg #[.slice (some ⟨W6.heap.size, 0, none⟩) 2 2], .bool true]) (by simp [results, Tryz.results10, go_sem, q3]) rfl ⟨_, rfl, ⟨_, ((RD.far (by omega) _).far (by omega) _).mono (by omega)⟩, (bw.setCell (by show w.heap.size ≤ w.heap.size + 1; omega) _).setCell (Nat.le_refl _) _⟩

set_option maxHeartbeats 2000000 in
set_option linter.unusedSimpArgs false in
set_option maxRecDepth 100000 in
theorem ssh_round (h : Int) (w : World) (o3 : 0 ≤ h) (o4 : h ≤ 3) :
    Calls Tryz.prog 10 #[.int .i64 3, .int .i64 h] w fun e w' => ∃ v, e = .returned (.tuple #[.agg #[v], .bool true]) ∧ (∃ vs, Rdg w' w.heap.size v ((M.raw 3 h).map (M.fin h)) vs) ∧ Below w.heap.size w w' := by
  have bP := below2 w (.cells #[.slice none 0 0] 27) (.cells #[.slice none 0 0] 27)
  have hQ := (Slot1.new w (.slice none 0 0) 27).bl' (below1 _ (.cells #[.slice none 0 0] 27))
  have hP := Slot1.new (w.alloc (.cells #[.slice none 0 0] 27)) (.slice none 0 0) 27
  rw [World.size_alloc] at hP
  have C1 := fun W => l6In_any 3 1 6 W
  have C2 := fun W => l6In_any h 0 3 W
  rw [show M.rng 1 6 3 = true by decide] at C1
  rw [show M.rng 0 3 h = true by simp [M.rng, o3, o4]] at C2
  obtain ⟨ks, hks⟩ : ∃ x, M.kst h = x := ⟨_, rfl⟩
  obtain ⟨kl, hkl⟩ : ∃ x, M.kld h = x := ⟨_, rfl⟩
  have hs : Hid (M.kst h = ks) := hks
  have hl : Hid (M.kld h = kl) := hkl
  obtain ⟨l0, hl0⟩ : ∃ x, M.fin h [⟨kl, 0, 0⟩, ⟨ks, 1, 1⟩] = x := ⟨_, rfl⟩
  have T0 := fun W => l23Two_any h kl 0 0 ks 1 1 W
  rw [hl0] at T0
  obtain ⟨l1, hl1⟩ : ∃ x, M.fin h [⟨kl, 1, 0⟩, ⟨ks, 0, 1⟩] = x := ⟨_, rfl⟩
  have T1 := fun W => l23Two_any h kl 1 0 ks 0 1 W
  rw [hl1] at T1
  have er : (M.raw 3 h).map (M.fin h) = [l0, l1] := by
    have e0 : M.raw 3 h = [[⟨kl, 0, 0⟩, ⟨ks, 1, 1⟩], [⟨kl, 1, 0⟩, ⟨ks, 0, 1⟩]] := by simp [M.raw, M.sst, M.sld, hks, hkl, M.kst_no, M.kld_no]
    rw [e0]
    simp only [List.map_cons, List.map_nil, hl0, hl1]
  rw [er]
  clear er hks hkl hl0 hl1
  go_enter Tryz.func10, Tryz.ntmps10
  go_wp2_with fail
  refine (C1 _).mono ?_
  rintro e w0 ⟨rfl, rfl⟩
  go_wp2_with fail
  refine (C2 _).mono ?_
  rintro e w0 ⟨rfl, rfl⟩
  clear C1 C2
  go_wp2_with fail
  generalize hV : ((w.alloc (.cells #[.slice none 0 0] 27)).alloc (.cells #[.slice none 0 0] 27)) = V at *
  have hb := Below.refl V.heap.size V
  have sV : V.heap.size = w.heap.size + 2 := by rw [← hV]; simp
  clear hV
  refine (l23Load_any h 0 kl _ hl.out).mono ?_
  rintro e W1 ⟨rfl, b⟩
  replace hb := hb.trans (b.mono hb.size)
  clear b
  go_wp2_with fail
  refine (l23Store_any h 1 1 ks _ hs.out).mono ?_
  rintro e W2 ⟨rfl, b⟩
  replace hb := hb.trans (b.mono hb.size)
  clear b
  go_wp2_with fail
  refine (T0 _).mono ?_
  rintro e W3 ⟨⟨x0, c0, rfl, R0⟩, b⟩
  replace R0 := ownsRow_mono R0 hb.size
  replace hb := hb.trans (b.mono hb.size)
  clear b
  go_wp2_with fail
  refine (l23Load_any h 1 kl _ hl.out).mono ?_
  rintro e W4 ⟨rfl, b⟩
  replace hb := hb.trans (b.mono hb.size)
  replace R0 := ownsRow_below R0 b
  clear b
  go_wp2_with fail
  refine (l23Store_any h 0 1 ks _ hs.out).mono ?_
  rintro e W5 ⟨rfl, b⟩
  replace hb := hb.trans (b.mono hb.size)
  replace R0 := ownsRow_below R0 b
  clear b
  go_wp2_with fail
  refine (T1 _).mono ?_
  rintro e W6 ⟨⟨x1, c1, rfl, R1⟩, b⟩
  have hne : ∀ k, (Value.slice x0 l0.length c0).ownBlock = some k → (Value.slice x1 l1.length c1).ownBlock ≠ some k := fun k h1 h2 => by have := (R0.lt k h1).2; have := own_ge R1 k h2; omega
  replace R0 := ownsRow_below R0 b
  replace R1 := ownsRow_mono R1 hb.size
  replace hb := hb.trans (b.mono hb.size)
  clear b
  have O := own_lit2 (w := W6) (B := V.heap.size) (v1 := (.slice x0 l0.length c0)) (v2 := (.slice x1 l1.length c1)) hb.size
  have bo := below1 W6 (.cells #[.slice x0 l0.length c0, .slice x1 l1.length c1] 42)
  replace R0 := ownsRow_below R0 bo
  replace R1 := ownsRow_below R1 bo
  replace hb := hb.trans (bo.mono hb.size)
  have RD := rdg_two (l1 := l0) (l2 := l1) R0 R1 hne O
  have P1 := hP.bl' hb
  have Q1 := hQ.bl' hb
  have bw := bP.trans (hb.mono bP.size)
  have p0 := P1.c
  have pf := P1.fz
  have q0 := Q1.c
  have qf := Q1.fz
  have lP := P1.lt
  have lQ := Q1.lt
  have nPQ : w.heap.size ≠ w.heap.size + 1 := by omega
  have P2 := P1.set (.slice (some ⟨W6.heap.size, 0, none⟩) 2 2)
  have Q2 := Q1.far (b' := w.heap.size + 1) (i := 0) (by omega) (.slice (some ⟨W6.heap.size, 0, none⟩) 2 2)
  have Q3 := Q2.set (.slice (some ⟨W6.heap.size, 0, none⟩) 2 2)
  have p2 := P2.c
  have q2 := Q2.c
  have qf2 := Q2.fz
  have q3 := Q3.c
  clear R0 R1 O bo
  go_wp2_with fail
  exact bodyPost_ret (v := .tuple #[.agg #[.slice (some ⟨W6.heap.size, 0, none⟩) 2 2], .bool true]) (by simp [results, Tryz.results10, go_sem, q3]) rfl ⟨_, rfl, ⟨_, ((RD.far (by omega) _).far (by omega) _).mono (by omega)⟩, (bw.setCell (by show w.heap.size ≤ w.heap.size + 1; omega) _).setCell (Nat.le_refl _) _⟩

set_option maxHeartbeats 2000000 in
set_option linter.unusedSimpArgs false in
set_option maxRecDepth 100000 in
theorem ssh_twice (h : Int) (w : World) (o3 : 0 ≤ h) (o4 : h ≤ 3) :
    Calls Tryz.prog 10 #[.int .i64 4, .int .i64 h] w fun e w' => ∃ v, e = .returned (.tuple #[.agg #[v], .bool true]) ∧ (∃ vs, Rdg w' w.heap.size v ((M.raw 4 h).map (M.fin h)) vs) ∧ Below w.heap.size w w' := by
  have bP := below2 w (.cells #[.slice none 0 0] 27) (.cells #[.slice none 0 0] 27)
  have hQ := (Slot1.new w (.slice none 0 0) 27).bl' (below1 _ (.cells #[.slice none 0 0] 27))
  have hP := Slot1.new (w.alloc (.cells #[.slice none 0 0] 27)) (.slice none 0 0) 27
  rw [World.size_alloc] at hP
  have C1 := fun W => l6In_any 4 1 6 W
  have C2 := fun W => l6In_any h 0 3 W
  rw [show M.rng 1 6 4 = true by decide] at C1
  rw [show M.rng 0 3 h = true by simp [M.rng, o3, o4]] at C2
  obtain ⟨ks, hks⟩ : ∃ x, M.kst h = x := ⟨_, rfl⟩
  obtain ⟨kl, hkl⟩ : ∃ x, M.kld h = x := ⟨_, rfl⟩
  have hs : Hid (M.kst h = ks) := hks
  have hl : Hid (M.kld h = kl) := hkl
  obtain ⟨l1, hl1⟩ : ∃ x, M.fin h [⟨kl, 0, 0⟩, ⟨kl, 0, 0⟩] = x := ⟨_, rfl⟩
  have T1 := fun W => l23Two_any h kl 0 0 kl 0 0 W
  rw [hl1] at T1
  have er : (M.raw 4 h).map (M.fin h) = [[⟨ks, 0, 1⟩], l1] := by
    have e0 : M.raw 4 h = [[⟨ks, 0, 1⟩], [⟨kl, 0, 0⟩, ⟨kl, 0, 0⟩]] := by simp [M.raw, M.sst, M.sld, hks, hkl, M.kst_no, M.kld_no]
    rw [e0]
    simp only [List.map_cons, List.map_nil, hl1]
    rfl
  rw [er]
  clear er hks hkl hl1
  go_enter Tryz.func10, Tryz.ntmps10
  go_wp2_with fail
  refine (C1 _).mono ?_
  rintro e w0 ⟨rfl, rfl⟩
  go_wp2_with fail
  refine (C2 _).mono ?_
  rintro e w0 ⟨rfl, rfl⟩
  clear C1 C2
  go_wp2_with fail
  generalize hV : ((w.alloc (.cells #[.slice none 0 0] 27)).alloc (.cells #[.slice none 0 0] 27)) = V at *
  have hb := Below.refl V.heap.size V
  have sV : V.heap.size = w.heap.size + 2 := by rw [← hV]; simp
  clear hV
  refine (l23Store_any h 0 1 ks _ hs.out).mono ?_
  rintro e W1 ⟨rfl, b⟩
  replace hb := hb.trans (b.mono hb.size)
  clear b
  have R0 := own_lit (w := W1) (B := V.heap.size) [⟨ks, 0, 1⟩] (cs := #[.int .i64 ks, .int .i64 0, .int .i64 1]) hb.size rfl (by simp)
  replace hb := hb.alloc hb.size (.cells #[.int .i64 ks, .int .i64 0, .int .i64 1] 45)
  simp only [List.length_cons, List.length_nil, Nat.zero_add, Nat.reduceAdd] at R0
  go_wp2_with fail
  generalize W1.alloc (.cells #[.int .i64 ks, .int .i64 0, .int .i64 1] 45) = V0 at *
  generalize W1.heap.size = G0 at *
  refine (l23Load_any h 0 kl _ hl.out).mono ?_
  rintro e W2 ⟨rfl, b⟩
  replace hb := hb.trans (b.mono hb.size)
  replace R0 := ownsRow_below R0 b
  clear b
  go_wp2_with fail
  refine (l23Load_any h 0 kl _ hl.out).mono ?_
  rintro e W3 ⟨rfl, b⟩
  replace hb := hb.trans (b.mono hb.size)
  replace R0 := ownsRow_below R0 b
  clear b
  go_wp2_with fail
  refine (T1 _).mono ?_
  rintro e W4 ⟨⟨x1, c1, rfl, R1⟩, b⟩
  have hne : ∀ k, (Value.slice (some ⟨G0, 0, none⟩) 1 1).ownBlock = some k → (Value.slice x1 l1.length c1).ownBlock ≠ some k := fun k h1 h2 => by have := (R0.lt k h1).2; have := own_ge R1 k h2; omega
  replace R0 := ownsRow_below R0 b
  replace R1 := ownsRow_mono R1 hb.size
  replace hb := hb.trans (b.mono hb.size)
  clear b
  have O := own_lit2 (w := W4) (B := V.heap.size) (v1 := (.slice (some ⟨G0, 0, none⟩) 1 1)) (v2 := (.slice x1 l1.length c1)) hb.size
  have bo := below1 W4 (.cells #[.slice (some ⟨G0, 0, none⟩) 1 1, .slice x1 l1.length c1] 42)
  replace R0 := ownsRow_below R0 bo
  replace R1 := ownsRow_below R1 bo
  replace hb := hb.trans (bo.mono hb.size)
  have RD := rdg_two (l1 := [⟨ks, 0, 1⟩]) (l2 := l1) R0 R1 hne O
  have P1 := hP.bl' hb
  have Q1 := hQ.bl' hb
  have bw := bP.trans (hb.mono bP.size)
  have p0 := P1.c
  have pf := P1.fz
  have q0 := Q1.c
  have qf := Q1.fz
  have lP := P1.lt
  have lQ := Q1.lt
  have nPQ : w.heap.size ≠ w.heap.size + 1 := by omega
  have P2 := P1.set (.slice (some ⟨W4.heap.size, 0, none⟩) 2 2)
  have Q2 := Q1.far (b' := w.heap.size + 1) (i := 0) (by omega) (.slice (some ⟨W4.heap.size, 0, none⟩) 2 2)
  have Q3 := Q2.set (.slice (some ⟨W4.heap.size, 0, none⟩) 2 2)
  have p2 := P2.c
  have q2 := Q2.c
  have qf2 := Q2.fz
  have q3 := Q3.c
  clear R0 R1 O bo
  go_wp2_with fail
  exact bodyPost_ret (v := .tuple #[.agg #[.slice (some ⟨W4.heap.size, 0, none⟩) 2 2], .bool true]) (by simp [results, Tryz.results10, go_sem, q3]) rfl ⟨_, rfl, ⟨_, ((RD.far (by omega) _).far (by omega) _).mono (by omega)⟩, (bw.setCell (by show w.heap.size ≤ w.heap.size + 1; omega) _).setCell (Nat.le_refl _) _⟩

set_option maxHeartbeats 2000000 in
set_option linter.unusedSimpArgs false in
set_option maxRecDepth 100000 in
theorem ssh_four (h : Int) (w : World) (o3 : 0 ≤ h) (o4 : h ≤ 3) :
    Calls Tryz.prog 10 #[.int .i64 5, .int .i64 h] w fun e w' => ∃ v, e = .returned (.tuple #[.agg #[v], .bool true]) ∧ (∃ vs, Rdg w' w.heap.size v ((M.raw 5 h).map (M.fin h)) vs) ∧ Below w.heap.size w w' := by
  have bP := below2 w (.cells #[.slice none 0 0] 27) (.cells #[.slice none 0 0] 27)
  have hQ := (Slot1.new w (.slice none 0 0) 27).bl' (below1 _ (.cells #[.slice none 0 0] 27))
  have hP := Slot1.new (w.alloc (.cells #[.slice none 0 0] 27)) (.slice none 0 0) 27
  rw [World.size_alloc] at hP
  have C1 := fun W => l6In_any 5 1 6 W
  have C2 := fun W => l6In_any h 0 3 W
  rw [show M.rng 1 6 5 = true by decide] at C1
  rw [show M.rng 0 3 h = true by simp [M.rng, o3, o4]] at C2
  obtain ⟨ks, hks⟩ : ∃ x, M.kst h = x := ⟨_, rfl⟩
  obtain ⟨kl, hkl⟩ : ∃ x, M.kld h = x := ⟨_, rfl⟩
  have hs : Hid (M.kst h = ks) := hks
  have hl : Hid (M.kld h = kl) := hkl
  obtain ⟨l0, hl0⟩ : ∃ x, M.fin h [⟨ks, 0, 2⟩, ⟨ks, 1, 1⟩] = x := ⟨_, rfl⟩
  have T0 := fun W => l23Two_any h ks 0 2 ks 1 1 W
  rw [hl0] at T0
  obtain ⟨l1, hl1⟩ : ∃ x, M.fin h [⟨ks, 1, 2⟩, ⟨ks, 0, 1⟩] = x := ⟨_, rfl⟩
  have T1 := fun W => l23Two_any h ks 1 2 ks 0 1 W
  rw [hl1] at T1
  have er : (M.raw 5 h).map (M.fin h) = [l0, l1] := by
    have e0 : M.raw 5 h = [[⟨ks, 0, 2⟩, ⟨ks, 1, 1⟩], [⟨ks, 1, 2⟩, ⟨ks, 0, 1⟩]] := by simp [M.raw, M.sst, M.sld, hks, hkl, M.kst_no, M.kld_no]
    rw [e0]
    simp only [List.map_cons, List.map_nil, hl0, hl1]
  rw [er]
  clear er hks hkl hl0 hl1
  go_enter Tryz.func10, Tryz.ntmps10
  go_wp2_with fail
  refine (C1 _).mono ?_
  rintro e w0 ⟨rfl, rfl⟩
  go_wp2_with fail
  refine (C2 _).mono ?_
  rintro e w0 ⟨rfl, rfl⟩
  clear C1 C2
  go_wp2_with fail
  generalize hV : ((w.alloc (.cells #[.slice none 0 0] 27)).alloc (.cells #[.slice none 0 0] 27)) = V at *
  have hb := Below.refl V.heap.size V
  have sV : V.heap.size = w.heap.size + 2 := by rw [← hV]; simp
  clear hV
  refine (l23Store_any h 0 2 ks _ hs.out).mono ?_
  rintro e W1 ⟨rfl, b⟩
  replace hb := hb.trans (b.mono hb.size)
  clear b
  go_wp2_with fail
  refine (l23Store_any h 1 1 ks _ hs.out).mono ?_
  rintro e W2 ⟨rfl, b⟩
  replace hb := hb.trans (b.mono hb.size)
  clear b
  go_wp2_with fail
  refine (T0 _).mono ?_
  rintro e W3 ⟨⟨x0, c0, rfl, R0⟩, b⟩
  replace R0 := ownsRow_mono R0 hb.size
  replace hb := hb.trans (b.mono hb.size)
  clear b
  go_wp2_with fail
  refine (l23Store_any h 1 2 ks _ hs.out).mono ?_
  rintro e W4 ⟨rfl, b⟩
  replace hb := hb.trans (b.mono hb.size)
  replace R0 := ownsRow_below R0 b
  clear b
  go_wp2_with fail
  refine (l23Store_any h 0 1 ks _ hs.out).mono ?_
  rintro e W5 ⟨rfl, b⟩
  replace hb := hb.trans (b.mono hb.size)
  replace R0 := ownsRow_below R0 b
  clear b
  go_wp2_with fail
  refine (T1 _).mono ?_
  rintro e W6 ⟨⟨x1, c1, rfl, R1⟩, b⟩
  have hne : ∀ k, (Value.slice x0 l0.length c0).ownBlock = some k → (Value.slice x1 l1.length c1).ownBlock ≠ some k := fun k h1 h2 => by have := (R0.lt k h1).2; have := own_ge R1 k h2; omega
  replace R0 := ownsRow_below R0 b
  replace R1 := ownsRow_mono R1 hb.size
  replace hb := hb.trans (b.mono hb.size)
  clear b
  have O := own_lit2 (w := W6) (B := V.heap.size) (v1 := (.slice x0 l0.length c0)) (v2 := (.slice x1 l1.length c1)) hb.size
  have bo := below1 W6 (.cells #[.slice x0 l0.length c0, .slice x1 l1.length c1] 42)
  replace R0 := ownsRow_below R0 bo
  replace R1 := ownsRow_below R1 bo
  replace hb := hb.trans (bo.mono hb.size)
  have RD := rdg_two (l1 := l0) (l2 := l1) R0 R1 hne O
  have P1 := hP.bl' hb
  have Q1 := hQ.bl' hb
  have bw := bP.trans (hb.mono bP.size)
  have p0 := P1.c
  have pf := P1.fz
  have q0 := Q1.c
  have qf := Q1.fz
  have lP := P1.lt
  have lQ := Q1.lt
  have nPQ : w.heap.size ≠ w.heap.size + 1 := by omega
  have P2 := P1.set (.slice (some ⟨W6.heap.size, 0, none⟩) 2 2)
  have Q2 := Q1.far (b' := w.heap.size + 1) (i := 0) (by omega) (.slice (some ⟨W6.heap.size, 0, none⟩) 2 2)
  have Q3 := Q2.set (.slice (some ⟨W6.heap.size, 0, none⟩) 2 2)
  have p2 := P2.c
  have q2 := Q2.c
  have qf2 := Q2.fz
  have q3 := Q3.c
  clear R0 R1 O bo
  go_wp2_with fail
  exact bodyPost_ret (v := .tuple #[.agg #[.slice (some ⟨W6.heap.size, 0, none⟩) 2 2], .bool true]) (by simp [results, Tryz.results10, go_sem, q3]) rfl ⟨_, rfl, ⟨_, ((RD.far (by omega) _).far (by omega) _).mono (by omega)⟩, (bw.setCell (by show w.heap.size ≤ w.heap.size + 1; omega) _).setCell (Nat.le_refl _) _⟩

set_option maxHeartbeats 2000000 in
set_option linter.unusedSimpArgs false in
set_option maxRecDepth 100000 in
theorem ssh_wait (h : Int) (w : World) (o3 : 0 ≤ h) (o4 : h ≤ 3) :
    Calls Tryz.prog 10 #[.int .i64 6, .int .i64 h] w fun e w' => ∃ v, e = .returned (.tuple #[.agg #[v], .bool true]) ∧ (∃ vs, Rdg w' w.heap.size v ((M.raw 6 h).map (M.fin h)) vs) ∧ Below w.heap.size w w' := by
  have bP := below2 w (.cells #[.slice none 0 0] 27) (.cells #[.slice none 0 0] 27)
  have hQ := (Slot1.new w (.slice none 0 0) 27).bl' (below1 _ (.cells #[.slice none 0 0] 27))
  have hP := Slot1.new (w.alloc (.cells #[.slice none 0 0] 27)) (.slice none 0 0) 27
  rw [World.size_alloc] at hP
  have C1 := fun W => l6In_any 6 1 6 W
  have C2 := fun W => l6In_any h 0 3 W
  rw [show M.rng 1 6 6 = true by decide] at C1
  rw [show M.rng 0 3 h = true by simp [M.rng, o3, o4]] at C2
  obtain ⟨ks, hks⟩ : ∃ x, M.kst h = x := ⟨_, rfl⟩
  obtain ⟨kl, hkl⟩ : ∃ x, M.kld h = x := ⟨_, rfl⟩
  have hs : Hid (M.kst h = ks) := hks
  have hl : Hid (M.kld h = kl) := hkl
  have er : (M.raw 6 h).map (M.fin h) = [[⟨7, 0, 0⟩, ⟨2, 1, 0⟩, ⟨2, 0, 0⟩, ⟨8, 0, 0⟩], [⟨1, 0, 1⟩, ⟨9, 0, 0⟩, ⟨ks, 1, 1⟩]] := by
    have e0 : M.raw 6 h = [[⟨7, 0, 0⟩, ⟨2, 1, 0⟩, ⟨2, 0, 0⟩, ⟨8, 0, 0⟩], [⟨1, 0, 1⟩, ⟨9, 0, 0⟩, ⟨ks, 1, 1⟩]] := by simp [M.raw, M.sst, M.sld, hks, hkl, M.kst_no, M.kld_no]
    rw [e0]
    simp only [List.map_cons, List.map_nil]
    rfl
  rw [er]
  clear er hks hkl 
  go_enter Tryz.func10, Tryz.ntmps10
  go_wp2_with fail
  refine (C1 _).mono ?_
  rintro e w0 ⟨rfl, rfl⟩
  go_wp2_with fail
  refine (C2 _).mono ?_
  rintro e w0 ⟨rfl, rfl⟩
  clear C1 C2
  go_wp2_with fail
  generalize hV : ((w.alloc (.cells #[.slice none 0 0] 27)).alloc (.cells #[.slice none 0 0] 27)) = V at *
  have hb := Below.refl V.heap.size V
  have sV : V.heap.size = w.heap.size + 2 := by rw [← hV]; simp
  clear hV
  refine (l23Load_any 0 1 2 _ rfl).mono ?_
  rintro e W1 ⟨rfl, b⟩
  replace hb := hb.trans (b.mono hb.size)
  clear b
  go_wp2_with fail
  refine (l23Load_any 0 0 2 _ rfl).mono ?_
  rintro e W2 ⟨rfl, b⟩
  replace hb := hb.trans (b.mono hb.size)
  clear b
  have R0 := own_lit (w := W2) (B := V.heap.size) [⟨7, 0, 0⟩, ⟨2, 1, 0⟩, ⟨2, 0, 0⟩, ⟨8, 0, 0⟩] (cs := #[.int .i64 7, .int .i64 0, .int .i64 0, .int .i64 2, .int .i64 1, .int .i64 0, .int .i64 2, .int .i64 0, .int .i64 0, .int .i64 8, .int .i64 0, .int .i64 0]) hb.size rfl (by simp)
  replace hb := hb.alloc hb.size (.cells #[.int .i64 7, .int .i64 0, .int .i64 0, .int .i64 2, .int .i64 1, .int .i64 0, .int .i64 2, .int .i64 0, .int .i64 0, .int .i64 8, .int .i64 0, .int .i64 0] 45)
  simp only [List.length_cons, List.length_nil, Nat.zero_add, Nat.reduceAdd] at R0
  go_wp2_with fail
  generalize W2.alloc (.cells #[.int .i64 7, .int .i64 0, .int .i64 0, .int .i64 2, .int .i64 1, .int .i64 0, .int .i64 2, .int .i64 0, .int .i64 0, .int .i64 8, .int .i64 0, .int .i64 0] 45) = V0 at *
  generalize W2.heap.size = G0 at *
  refine (l23Store_any 0 0 1 1 _ rfl).mono ?_
  rintro e W3 ⟨rfl, b⟩
  replace hb := hb.trans (b.mono hb.size)
  replace R0 := ownsRow_below R0 b
  clear b
  go_wp2_with fail
  refine (l23Store_any h 1 1 ks _ hs.out).mono ?_
  rintro e W4 ⟨rfl, b⟩
  replace hb := hb.trans (b.mono hb.size)
  replace R0 := ownsRow_below R0 b
  clear b
  have R1 := own_lit (w := W4) (B := V.heap.size) [⟨1, 0, 1⟩, ⟨9, 0, 0⟩, ⟨ks, 1, 1⟩] (cs := #[.int .i64 1, .int .i64 0, .int .i64 1, .int .i64 9, .int .i64 0, .int .i64 0, .int .i64 ks, .int .i64 1, .int .i64 1]) hb.size rfl (by simp)
  have hne := own_ne (m := 3) (c := 3) R0 (Nat.le_refl W4.heap.size)
  replace R0 := ownsRow_below R0 (below1 W4 (.cells #[.int .i64 1, .int .i64 0, .int .i64 1, .int .i64 9, .int .i64 0, .int .i64 0, .int .i64 ks, .int .i64 1, .int .i64 1] 45))
  replace hb := hb.alloc hb.size (.cells #[.int .i64 1, .int .i64 0, .int .i64 1, .int .i64 9, .int .i64 0, .int .i64 0, .int .i64 ks, .int .i64 1, .int .i64 1] 45)
  simp only [List.length_cons, List.length_nil, Nat.zero_add, Nat.reduceAdd] at R1
  have O := own_lit2 (w := (W4.alloc (.cells #[.int .i64 1, .int .i64 0, .int .i64 1, .int .i64 9, .int .i64 0, .int .i64 0, .int .i64 ks, .int .i64 1, .int .i64 1] 45))) (B := V.heap.size) (v1 := (.slice (some ⟨G0, 0, none⟩) 4 4)) (v2 := (.slice (some ⟨W4.heap.size, 0, none⟩) 3 3)) hb.size
  have bo := below1 (W4.alloc (.cells #[.int .i64 1, .int .i64 0, .int .i64 1, .int .i64 9, .int .i64 0, .int .i64 0, .int .i64 ks, .int .i64 1, .int .i64 1] 45)) (.cells #[.slice (some ⟨G0, 0, none⟩) 4 4, .slice (some ⟨W4.heap.size, 0, none⟩) 3 3] 42)
  replace R0 := ownsRow_below R0 bo
  replace R1 := ownsRow_below R1 bo
  replace hb := hb.trans (bo.mono hb.size)
  rw [World.size_alloc] at O
  have RD := rdg_two (l1 := [⟨7, 0, 0⟩, ⟨2, 1, 0⟩, ⟨2, 0, 0⟩, ⟨8, 0, 0⟩]) (l2 := [⟨1, 0, 1⟩, ⟨9, 0, 0⟩, ⟨ks, 1, 1⟩]) R0 R1 hne O
  have P1 := hP.bl' hb
  have Q1 := hQ.bl' hb
  have bw := bP.trans (hb.mono bP.size)
  have p0 := P1.c
  have pf := P1.fz
  have q0 := Q1.c
  have qf := Q1.fz
  have lP := P1.lt
  have lQ := Q1.lt
  have nPQ : w.heap.size ≠ w.heap.size + 1 := by omega
  have P2 := P1.set (.slice (some ⟨W4.heap.size + 1, 0, none⟩) 2 2)
  have Q2 := Q1.far (b' := w.heap.size + 1) (i := 0) (by omega) (.slice (some ⟨W4.heap.size + 1, 0, none⟩) 2 2)
  have Q3 := Q2.set (.slice (some ⟨W4.heap.size + 1, 0, none⟩) 2 2)
  have p2 := P2.c
  have q2 := Q2.c
  have qf2 := Q2.fz
  have q3 := Q3.c
  clear R0 R1 O bo
  go_wp2_with fail
  exact bodyPost_ret (v := .tuple #[.agg #[.slice (some ⟨W4.heap.size + 1, 0, none⟩) 2 2], .bool true]) (by simp [results, Tryz.results10, go_sem, q3]) rfl ⟨_, rfl, ⟨_, ((RD.far (by omega) _).far (by omega) _).mono (by omega)⟩, (bw.setCell (by show w.heap.size ≤ w.heap.size + 1; omega) _).setCell (Nat.le_refl _) _⟩

set_option maxHeartbeats 1000000 in
theorem sshapeOf_any (s h : Int) (w : World) :
    Calls Tryz.prog 10 #[.int .i64 s, .int .i64 h] w fun e w' => ∃ v, e = .returned (.tuple #[.agg #[v], .bool (M.shape s h).isSome]) ∧ (∃ vs, Rdg w' w.heap.size v ((M.shape s h).getD []) vs) ∧ Below w.heap.size w w' := by
  cases hok : M.shapeOk s h
  · rw [M.shape_no hok]
    have C1 := fun W => l6In_any s 1 6 W
    have C2 := fun W => l6In_any h 0 3 W
    cases hs : M.rng 1 6 s
    · rw [hs] at C1
      go_enter Tryz.func10, Tryz.ntmps10
      go_wp2_with fail
      refine (C1 _).mono ?_
      rintro e w0 ⟨rfl, rfl⟩
      go_wp2_with fail
      go_returns
      exact ⟨_, rfl, ⟨[], Rdg.nil _ _⟩, by go_grown⟩
    · have hh : M.rng 0 3 h = false := by
        simp only [M.rng, M.shapeOk, Bool.and_eq_true, decide_eq_true_eq, Bool.and_eq_false_iff, decide_eq_false_iff_not] at *
        omega
      rw [hs] at C1
      rw [hh] at C2
      go_enter Tryz.func10, Tryz.ntmps10
      go_wp2_with fail
      refine (C1 _).mono ?_
      rintro e w0 ⟨rfl, rfl⟩
      go_wp2_with fail
      refine (C2 _).mono ?_
      rintro e w0 ⟨rfl, rfl⟩
      go_wp2_with fail
      go_returns
      exact ⟨_, rfl, ⟨[], Rdg.nil _ _⟩, by go_grown⟩
  · rw [M.shape_yes hok]
    simp only [M.shapeOk, Bool.and_eq_true, decide_eq_true_eq] at hok
    obtain ⟨⟨⟨o1, o2⟩, o3⟩, o4⟩ := hok
    have hcs : s = 1 ∨ s = 2 ∨ s = 3 ∨ s = 4 ∨ s = 5 ∨ s = 6 := by omega
    rcases hcs with rfl | rfl | rfl | rfl | rfl | rfl
    · exact ssh_cross h w o3 o4
    · exact ssh_pass h w o3 o4
    · exact ssh_round h w o3 o4
    · exact ssh_twice h w o3 o4
    · exact ssh_four h w o3 o4
    · exact ssh_wait h w o3 o4

end Go.Proofs.YtbipmookmhihlaaGreat

namespace Go.Proofs.YtbipmookmhihlaaGreat
open Go.RowKit

set_option maxHeartbeats 400000 in
theorem l6Open_any (ca : Option Addr) (cb co L C : Nat) (x : Nat → Int) (w : World) (hL : L ≤ C) (had : 0 < L → ca = some ⟨cb, co, none⟩) (hc : ∀ i, i < L → w.cell? ⟨cb, co + i, none⟩ = some (.int .u8 (x i)) ∧ 0 ≤ x i ∧ x i ≤ 255) (hLb : L ≤ 1048576) :
    Calls Tryz.prog 15 #[.slice ca L C] w fun e w' => e = .returned (.pointer (some ⟨w.heap.size, 0, none⟩)) ∧ Rdr w' w.heap.size w.heap.size 0 ∧ Below w.heap.size w w' := by
  by_cases h2 : L ≤ 2000
  · have h2' : ¬ (2000 : Int) < L := by omega
    go_enter Tryz.func15, Tryz.ntmps15
    go_wp2_with fail
    go_ret
    refine ⟨rfl, ⟨ca, cb, co, L, C, x, by simp, by simp, by simp, had, h2, fun i hi => ⟨?_, (hc i hi).2⟩, fun h0 => World.block_lt_of_cell? _ _ (hc 0 h0).1, Nat.le_refl _⟩, below1 _ _⟩
    rw [World.cell?_alloc_past _ _ _ (World.block_lt_of_cell? _ _ (hc i hi).1)]
    exact (hc i hi).1
  · have h2' : (2000 : Int) < L := by omega
    obtain ⟨rfl⟩ := had (by omega)
    go_enter Tryz.func15, Tryz.ntmps15
    go_wp2_with fail
    go_ret
    refine ⟨rfl, ⟨_, cb, co, 2000, C, x, by simp, by simp, by simp, fun _ => rfl, by omega, fun i hi => ⟨?_, (hc i (by omega)).2⟩, fun h0 => World.block_lt_of_cell? _ _ (hc 0 (by omega)).1, Nat.le_refl _⟩, below1 _ _⟩
    rw [World.cell?_alloc_past _ _ _ (World.block_lt_of_cell? _ _ (hc i (by omega)).1)]
    exact (hc i (by omega)).1

end Go.Proofs.YtbipmookmhihlaaGreat

namespace Go.Proofs.YtbipmookmhihlaaGreat
open Go.RowKit

set_option maxHeartbeats 1000000 in
set_option maxRecDepth 100000 in
theorem DrawShapeOf_any (ca : Option Addr) (cb co L C : Nat) (x : Nat → Int) (w : World) (hL : L ≤ C) (had : 0 < L → ca = some ⟨cb, co, none⟩) (hc : ∀ i, i < L → w.cell? ⟨cb, co + i, none⟩ = some (.int .u8 (x i)) ∧ 0 ≤ x i ∧ x i ≤ 255) (hLb : L ≤ 1048576) :
    Calls Tryz.prog 9 #[.slice ca L C] w fun e w' => ∃ s h : Int, e = .returned (.tuple #[.int .i64 s, .int .i64 h]) ∧ Below w.heap.size w w' := by
  go_enter Tryz.func9, Tryz.ntmps9
  go_wp2_with fail
  refine (l6Open_any ca cb co L C x _ hL had hc hLb).mono ?_
  rintro e w1 ⟨rfl, hr1, hb1⟩
  have hlt1 := hr1.lt
  clear hc had
  go_wp2_with fail
  refine (pick_rdr _ w.heap.size 0 6 w1 (by omega) (by omega) (by omega) hr1).mono ?_
  rintro e w2 ⟨r2, rfl, r20, r21, hr2, hb2⟩
  have bw2 := But.below hb1 hb2 (by omega)
  by_cases h0 : r2 = 0
  · subst h0
    go_wp2_with fail
    refine (pick_rdr _ w.heap.size 1 9 w2 (by omega) (by omega) (by omega) hr2).mono ?_
    rintro e w3 ⟨r3, rfl, r30, r31, hr3, hb3⟩
    have bw3 := But.below bw2 hb3 (by omega)
    go_wp2_with fail
    refine (pick_rdr _ w.heap.size 2 6 w3 (by omega) (by omega) (by omega) hr3).mono ?_
    rintro e w4 ⟨r4, rfl, r40, r41, hr4, hb4⟩
    have bw4 := But.below bw3 hb4 (by omega)
    go_wp2_with fail
    go_returns
    exact ⟨_, _, rfl, bw4⟩
  · have h0' : (r2 == 0) = false := by simpa using h0
    go_wp2_with fail
    refine (pick_rdr _ w.heap.size 1 6 w2 (by omega) (by omega) (by omega) hr2).mono ?_
    rintro e w3 ⟨r3, rfl, r30, r31, hr3, hb3⟩
    have bw3 := But.below bw2 hb3 (by omega)
    go_wp2_with fail
    refine (pick_rdr _ w.heap.size 2 4 w3 (by omega) (by omega) (by omega) hr3).mono ?_
    rintro e w4 ⟨r4, rfl, r40, r41, hr4, hb4⟩
    have bw4 := But.below bw3 hb4 (by omega)
    go_wp2_with fail
    go_returns
    exact ⟨_, _, rfl, bw4⟩

end Go.Proofs.YtbipmookmhihlaaGreat

namespace Go.Proofs.YtbipmookmhihlaaGreat
open Go.ChangeShapes Go.WideShapes Go.ChangeAt Go.RowKit Go.Deep

theorem Tryz.own : ownKnob Tryz.prog.godebug = none := by kernel_rfl
theorem Tryz.laidOut : laidOutB Tryz.prog = true := by kernel_rfl

theorem one_of_size {cs : Array Value} (h : cs.size = 1) : ∃ u, cs = #[u] := by
  obtain ⟨l⟩ := cs
  match l, h with
  | [u], _ => exact ⟨u, rfl⟩
end Go.Proofs.YtbipmookmhihlaaGreat

namespace Go.Proofs.YtbipmookmhihlaaGreat
open Go.ChangeShapes Go.WideShapes Go.ChangeAt Go.RowKit Go.Deep

theorem Tryz.cellsByte : Tryz.prog.cellsOf 5 = 1 := by kernel_rfl

/-- A code lies in memory. -/
def Code8 (w : World) (u : Value) : Prop := ∃ ca cb co L C, ∃ x : Nat → Int, u = .slice ca L C ∧ L ≤ C ∧ (0 < L → ca = some ⟨cb, co, none⟩) ∧ ∀ i, i < L → w.cell? ⟨cb, co + i, none⟩ = some (.int .u8 (x i)) ∧ 0 ≤ x i ∧ x i ≤ 255

section
variable {H : Type} {enc : TypeId × Value → H} {w : World} {base : Nat} {spare : Nat → Bool} {held : Bool}

set_option maxRecDepth 100000 in
theorem open_code {fuel : Nat} {u : Value} {x : DataW H × List MemPlace} (h : DataW.trod enc Tryz.prog w base spare held fuel 22 [u] = some x) : Code8 w u := by
  rcases open_ints Tryz.underlying22 Tryz.underlying5 Tryz.cellsByte h with ⟨hcs, _⟩ | ⟨a, len, cap, zs, hcs, _, hl, hm, hmm, _, hel, hwf⟩
  · simp at hcs
    exact ⟨none, 0, 0, 0, 0, fun _ => 0, hcs, Nat.le_refl _, fun h => absurd h (Nat.lt_irrefl _), fun i hi => absurd hi (Nat.not_lt_zero _)⟩
  · simp at hcs
    obtain ⟨gb, go, gs⟩ := a
    have hlm : len ≤ zs.length := by rw [hmm]; split <;> omega
    rcases Nat.eq_zero_or_pos len with h0 | hpos
    · subst h0
      exact ⟨_, 0, 0, 0, cap, fun _ => 0, hcs, Nat.zero_le _, fun h => absurd h (Nat.lt_irrefl _), fun i hi => absurd hi (Nat.not_lt_zero _)⟩
    · have hgs : gs = none := by simpa [Addr.add] using World.cell?_spot (hel 0 (by omega))
      subst hgs
      refine ⟨_, gb, go, len, cap, fun i => zs.getD i 0, hcs, hl, fun _ => rfl, fun i hi => ?_⟩
      have h1 := hel i (by omega)
      rw [add_plain] at h1
      have hw := hwf (zs.getD i 0) (by rw [List.getD_eq_getElem?_getD, List.getElem?_eq_getElem (by omega)]; exact List.getElem_mem _)
      exact ⟨h1, bounds_u8 hw⟩

end
end Go.Proofs.YtbipmookmhihlaaGreat
