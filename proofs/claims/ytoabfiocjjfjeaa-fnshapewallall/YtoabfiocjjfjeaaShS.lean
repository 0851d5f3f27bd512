/- spec.ShapeOf. No condition. -/
import Derived.Test.YtoabfiocjjfjeaaShS0
namespace Go.Proofs.Ytoabfiocjjfjeaa
open Go.RowKit

set_option maxHeartbeats 2000000 in
set_option linter.unusedSimpArgs false in
set_option maxRecDepth 100000 in
theorem ssh_cross (h : Int) (w : World) (o3 : 0 ≤ h) (o4 : h ≤ 3) :
    Calls Try.prog 20 #[.int .i64 1, .int .i64 h] w fun e w' => ∃ v, e = .returned (.tuple #[.agg #[v], .bool true]) ∧ (∃ vs, Rdg w' w.heap.size v ((M.raw 1 h).map (M.fin h)) vs) ∧ Below w.heap.size w w' := by
  have bP := below2 w (.cells #[.slice none 0 0] 25) (.cells #[.slice none 0 0] 25)
  have hQ := (Slot1.new w (.slice none 0 0) 25).bl' (below1 _ (.cells #[.slice none 0 0] 25))
  have hP := Slot1.new (w.alloc (.cells #[.slice none 0 0] 25)) (.slice none 0 0) 25
  rw [World.size_alloc] at hP
  have C1 := fun W => l6In_any 1 1 6 W
  have C2 := fun W => l6In_any h 0 3 W
  rw [show M.rng 1 6 1 = true by decide] at C1
  rw [show M.rng 0 3 h = true by simp [M.rng, o3, o4]] at C2
  obtain ⟨ks, hks⟩ : ∃ x, M.kst h = x := ⟨_, rfl⟩
  obtain ⟨kl, hkl⟩ : ∃ x, M.kld h = x := ⟨_, rfl⟩
  have hs : Hid (M.kst h = ks) := hks
  have hl : Hid (M.kld h = kl) := hkl
  obtain ⟨l0, hl0⟩ : ∃ x, M.fin h [⟨ks, 0, 1⟩, ⟨kl, 1, 0⟩] = x := ⟨_, rfl⟩
  have T0 := fun W => l23Two_any h ks 0 1 kl 1 0 W
  rw [hl0] at T0
  obtain ⟨l1, hl1⟩ : ∃ x, M.fin h [⟨ks, 1, 1⟩, ⟨kl, 0, 0⟩] = x := ⟨_, rfl⟩
  have T1 := fun W => l23Two_any h ks 1 1 kl 0 0 W
  rw [hl1] at T1
  have er : (M.raw 1 h).map (M.fin h) = [l0, l1] := by
    have e0 : M.raw 1 h = [[⟨ks, 0, 1⟩, ⟨kl, 1, 0⟩], [⟨ks, 1, 1⟩, ⟨kl, 0, 0⟩]] := by simp [M.raw, M.sst, M.sld, hks, hkl, M.kst_no, M.kld_no]
    rw [e0]
    simp only [List.map_cons, List.map_nil, hl0, hl1]
  rw [er]
  clear er hks hkl hl0 hl1
  go_enter Try.func20, Try.ntmps20
  go_wp2_with fail
  refine (C1 _).mono ?_
  rintro e w0 ⟨rfl, rfl⟩
  go_wp2_with fail
  refine (C2 _).mono ?_
  rintro e w0 ⟨rfl, rfl⟩
  clear C1 C2
  go_wp2_with fail
  generalize hV : ((w.alloc (.cells #[.slice none 0 0] 25)).alloc (.cells #[.slice none 0 0] 25)) = V at *
  have hb := Below.refl V.heap.size V
  have sV : V.heap.size = w.heap.size + 2 := by rw [← hV]; simp
  clear hV
  refine (l23Store_any h 0 1 ks _ hs.out).mono ?_
  rintro e W1 ⟨rfl, b⟩
  replace hb := hb.trans (b.mono hb.size)
  clear b
  go_wp2_with fail
  refine (l23Load_any h 1 kl _ hl.out).mono ?_
  rintro e W2 ⟨rfl, b⟩
  replace hb := hb.trans (b.mono hb.size)
  clear b
  go_wp2_with fail
  refine (T0 _).mono ?_
  rintro e W3 ⟨⟨x0, c0, rfl, R0⟩, b⟩
  replace R0 := ownsRow_mono R0 hb.size
  replace hb := hb.trans (b.mono hb.size)
  clear b
  go_wp2_with fail
  refine (l23Store_any h 1 1 ks _ hs.out).mono ?_
  rintro e W4 ⟨rfl, b⟩
  replace hb := hb.trans (b.mono hb.size)
  replace R0 := ownsRow_below R0 b
  clear b
  go_wp2_with fail
  refine (l23Load_any h 0 kl _ hl.out).mono ?_
  rintro e W5 ⟨rfl, b⟩
  replace hb := hb.trans (b.mono hb.size)
  replace R0 := ownsRow_below R0 b
  clear b
  go_wp2_with fail
  refine (T1 _).mono ?_
  rintro e W6 ⟨⟨x1, c1, rfl, R1⟩, b⟩
  have hne : ∀ k, (Value.slice x0 l0.length c0).ownBlock = some k → (Value.slice x1 l1.length c1).ownBlock ≠ some k := fun k h1 h2 => by have := (R0.lt k h1).2; have := own_ge R1 k h2; omega
  replace R0 := ownsRow_below R0 b
  replace R1 := ownsRow_mono R1 hb.size
  replace hb := hb.trans (b.mono hb.size)
  clear b
  have O := own_lit2 (w := W6) (B := V.heap.size) (v1 := (.slice x0 l0.length c0)) (v2 := (.slice x1 l1.length c1)) hb.size
  have bo := below1 W6 (.cells #[.slice x0 l0.length c0, .slice x1 l1.length c1] 32)
  replace R0 := ownsRow_below R0 bo
  replace R1 := ownsRow_below R1 bo
  replace hb := hb.trans (bo.mono hb.size)
  have RD := rdg_two (l1 := l0) (l2 := l1) R0 R1 hne O
  have P1 := hP.bl' hb
  have Q1 := hQ.bl' hb
  have bw := bP.trans (hb.mono bP.size)
  have p0 := P1.c
  have pf := P1.fz
  have q0 := Q1.c
  have qf := Q1.fz
  have lP := P1.lt
  have lQ := Q1.lt
  have nPQ : w.heap.size ≠ w.heap.size + 1 := by omega
  have P2 := P1.set (.slice (some ⟨W6.heap.size, 0, none⟩) 2 2)
  have Q2 := Q1.far (b' := w.heap.size + 1) (i := 0) (by omega) (.slice (some ⟨W6.heap.size, 0, none⟩) 2 2)
  have Q3 := Q2.set (.slice (some ⟨W6.heap.size, 0, none⟩) 2 2)
  have p2 := P2.c
  have q2 := Q2.c
  have qf2 := Q2.fz
  have q3 := Q3.c
  clear R0 R1 O bo
  go_wp2_with fail
  exact bodyPost_ret (v := .tuple #[.agg #[.slice (some ⟨W6.heap.size, 0, none⟩) 2 2], .bool true]) (by simp [results, Try.results20, go_sem, q3]) rfl ⟨_, rfl, ⟨_, ((RD.far (by omega) _).far (by omega) _).mono (by omega)⟩, (bw.setCell (by show w.heap.size ≤ w.heap.size + 1; omega) _).setCell (Nat.le_refl _) _⟩

set_option maxHeartbeats 2000000 in
set_option linter.unusedSimpArgs false in
set_option maxRecDepth 100000 in
theorem ssh_pass (h : Int) (w : World) (o3 : 0 ≤ h) (o4 : h ≤ 3) :
    Calls Try.prog 20 #[.int .i64 2, .int .i64 h] w fun e w' => ∃ v, e = .returned (.tuple #[.agg #[v], .bool true]) ∧ (∃ vs, Rdg w' w.heap.size v ((M.raw 2 h).map (M.fin h)) vs) ∧ Below w.heap.size w w' := by
  have bP := below2 w (.cells #[.slice none 0 0] 25) (.cells #[.slice none 0 0] 25)
  have hQ := (Slot1.new w (.slice none 0 0) 25).bl' (below1 _ (.cells #[.slice none 0 0] 25))
  have hP := Slot1.new (w.alloc (.cells #[.slice none 0 0] 25)) (.slice none 0 0) 25
  rw [World.size_alloc] at hP
  have C1 := fun W => l6In_any 2 1 6 W
  have C2 := fun W => l6In_any h 0 3 W
  rw [show M.rng 1 6 2 = true by decide] at C1
  rw [show M.rng 0 3 h = true by simp [M.rng, o3, o4]] at C2
  obtain ⟨ks, hks⟩ : ∃ x, M.kst h = x := ⟨_, rfl⟩
  obtain ⟨kl, hkl⟩ : ∃ x, M.kld h = x := ⟨_, rfl⟩
  have hs : Hid (M.kst h = ks) := hks
  have hl : Hid (M.kld h = kl) := hkl
  obtain ⟨l0, hl0⟩ : ∃ x, M.fin h [⟨1, 0, 1⟩, ⟨ks, 1, 1⟩] = x := ⟨_, rfl⟩
  have T0 := fun W => l23Two_any h 1 0 1 ks 1 1 W
  rw [hl0] at T0
  obtain ⟨l1, hl1⟩ : ∃ x, M.fin h [⟨kl, 1, 0⟩, ⟨2, 0, 0⟩] = x := ⟨_, rfl⟩
  have T1 := fun W => l23Two_any h kl 1 0 2 0 0 W
  rw [hl1] at T1
  have er : (M.raw 2 h).map (M.fin h) = [l0, l1] := by
    have e0 : M.raw 2 h = [[⟨1, 0, 1⟩, ⟨ks, 1, 1⟩], [⟨kl, 1, 0⟩, ⟨2, 0, 0⟩]] := by simp [M.raw, M.sst, M.sld, hks, hkl, M.kst_no, M.kld_no]
    rw [e0]
    simp only [List.map_cons, List.map_nil, hl0, hl1]
  rw [er]
  clear er hks hkl hl0 hl1
  go_enter Try.func20, Try.ntmps20
  go_wp2_with fail
  refine (C1 _).mono ?_
  rintro e w0 ⟨rfl, rfl⟩
  go_wp2_with fail
  refine (C2 _).mono ?_
  rintro e w0 ⟨rfl, rfl⟩
  clear C1 C2
  go_wp2_with fail
  generalize hV : ((w.alloc (.cells #[.slice none 0 0] 25)).alloc (.cells #[.slice none 0 0] 25)) = V at *
  have hb := Below.refl V.heap.size V
  have sV : V.heap.size = w.heap.size + 2 := by rw [← hV]; simp
  clear hV
  refine (l23Store_any 0 0 1 1 _ rfl).mono ?_
  rintro e W1 ⟨rfl, b⟩
  replace hb := hb.trans (b.mono hb.size)
  clear b
  go_wp2_with fail
  refine (l23Store_any h 1 1 ks _ hs.out).mono ?_
  rintro e W2 ⟨rfl, b⟩
  replace hb := hb.trans (b.mono hb.size)
  clear b
  go_wp2_with fail
  refine (T0 _).mono ?_
  rintro e W3 ⟨⟨x0, c0, rfl, R0⟩, b⟩
  replace R0 := ownsRow_mono R0 hb.size
  replace hb := hb.trans (b.mono hb.size)
  clear b
  go_wp2_with fail
  refine (l23Load_any h 1 kl _ hl.out).mono ?_
  rintro e W4 ⟨rfl, b⟩
  replace hb := hb.trans (b.mono hb.size)
  replace R0 := ownsRow_below R0 b
  clear b
  go_wp2_with fail
  refine (l23Load_any 0 0 2 _ rfl).mono ?_
  rintro e W5 ⟨rfl, b⟩
  replace hb := hb.trans (b.mono hb.size)
  replace R0 := ownsRow_below R0 b
  clear b
  go_wp2_with fail
  refine (T1 _).mono ?_
  rintro e W6 ⟨⟨x1, c1, rfl, R1⟩, b⟩
  have hne : ∀ k, (Value.slice x0 l0.length c0).ownBlock = some k → (Value.slice x1 l1.length c1).ownBlock ≠ some k := fun k h1 h2 => by have := (R0.lt k h1).2; have := own_ge R1 k h2; omega
  replace R0 := ownsRow_below R0 b
  replace R1 := ownsRow_mono R1 hb.size
  replace hb := hb.trans (b.mono hb.size)
  clear b
  have O := own_lit2 (w := W6) (B := V.heap.size) (v1 := (.slice x0 l0.length c0)) (v2 := (.slice x1 l1.length c1)) hb.size
  have bo := below1 W6 (.cells #[.slice x0 l0.length c0, .slice x1 l1.length c1] 32)
  replace R0 := ownsRow_below R0 bo
  replace R1 := ownsRow_below R1 bo
  replace hb := hb.trans (bo.mono hb.size)
  have RD := rdg_two (l1 := l0) (l2 := l1) R0 R1 hne O
  have P1 := hP.bl' hb
  have Q1 := hQ.bl' hb
  have bw := bP.trans (hb.mono bP.size)
  have p0 := P1.c
  have pf := P1.fz
  have q0 := Q1.c
  have qf := Q1.fz
  have lP := P1.lt
  have lQ := Q1.lt
  have nPQ : w.heap.size ≠ w.heap.size + 1 := by omega
  have P2 := P1.set (.slice (some ⟨W6.heap.size, 0, none⟩) 2 2)
  have Q2 := Q1.far (b' := w.heap.size + 1) (i := 0) (by omega) (.slice (some ⟨W6.heap.size, 0, none⟩) 2 2)
  have Q3 := Q2.set (.slice (some ⟨W6.heap.size, 0, none⟩) 2 2)
  have p2 := P2.c
  have q2 := Q2.c
  have qf2 := Q2.fz
  have q3 := Q3.c
  clear R0 R1 O bo
  go_wp2_with fail
  exact bodyPost_ret (v := .tuple #[.agg #[.slice (some ⟨W6.heap.size, 0, none⟩) 2 2], .bool true]) (by simp [results, Try.results20, go_sem, q3]) rfl ⟨_, rfl, ⟨_, ((RD.far (by omega) _).far (by omega) _).mono (by omega)⟩, (bw.setCell (by show w.heap.size ≤ w.heap.size + 1; omega) _).setCell (Nat.le_refl _) _⟩

set_option maxHeartbeats 2000000 in
set_option linter.unusedSimpArgs false in
set_option maxRecDepth 100000 in
theorem ssh_round (h : Int) (w : World) (o3 : 0 ≤ h) (o4 : h ≤ 3) :
    Calls Try.prog 20 #[.int .i64 3, .int .i64 h] w fun e w' => ∃ v, e = .returned (.tuple #[.agg #[v], .bool true]) ∧ (∃ vs, Rdg w' w.heap.size v ((M.raw 3 h).map (M.fin h)) vs) ∧ Below w.heap.size w w' := by
  have bP := below2 w (.cells #[.slice none 0 0] 25) (.cells #[.slice none 0 0] 25)
  have hQ := (Slot1.new w (.slice none 0 0) 25).bl' (below1 _ (.cells #[.slice none 0 0] 25))
  have hP := Slot1.new (w.alloc (.cells #[.slice none 0 0] 25)) (.slice none 0 0) 25
  rw [World.size_alloc] at hP
  have C1 := fun W => l6In_any 3 1 6 W
  have C2 := fun W => l6In_any h 0 3 W
  rw [show M.rng 1 6 3 = true by decide] at C1
  rw [show M.rng 0 3 h = true by simp [M.rng, o3, o4]] at C2
  obtain ⟨ks, hks⟩ : ∃ x, M.kst h = x := ⟨_, rfl⟩
  obtain ⟨kl, hkl⟩ : ∃ x, M.kld h = x := ⟨_, rfl⟩
  have hs : Hid (M.kst h = ks) := hks
  have hl : Hid (M.kld h = kl) := hkl
  obtain ⟨l0, hl0⟩ : ∃ x, M.fin h [⟨kl, 0, 0⟩, ⟨ks, 1, 1⟩] = x := ⟨_, rfl⟩
  have T0 := fun W => l23Two_any h kl 0 0 ks 1 1 W
  rw [hl0] at T0
  obtain ⟨l1, hl1⟩ : ∃ x, M.fin h [⟨kl, 1, 0⟩, ⟨ks, 0, 1⟩] = x := ⟨_, rfl⟩
  have T1 := fun W => l23Two_any h kl 1 0 ks 0 1 W
  rw [hl1] at T1
  have er : (M.raw 3 h).map (M.fin h) = [l0, l1] := by
    have e0 : M.raw 3 h = [[⟨kl, 0, 0⟩, ⟨ks, 1, 1⟩], [⟨kl, 1, 0⟩, ⟨ks, 0, 1⟩]] := by simp [M.raw, M.sst, M.sld, hks, hkl, M.kst_no, M.kld_no]
    rw [e0]
    simp only [List.map_cons, List.map_nil, hl0, hl1]
  rw [er]
  clear er hks hkl hl0 hl1
  go_enter Try.func20, Try.ntmps20
  go_wp2_with fail
  refine (C1 _).mono ?_
  rintro e w0 ⟨rfl, rfl⟩
  go_wp2_with fail
  refine (C2 _).mono ?_
  rintro e w0 ⟨rfl, rfl⟩
  clear C1 C2
  go_wp2_with fail
  generalize hV : ((w.alloc (.cells #[.slice none 0 0] 25)).alloc (.cells #[.slice none 0 0] 25)) = V at *
  have hb := Below.refl V.heap.size V
  have sV : V.heap.size = w.heap.size + 2 := by rw [← hV]; simp
  clear hV
  refine (l23Load_any h 0 kl _ hl.out).mono ?_
  rintro e W1 ⟨rfl, b⟩
  replace hb := hb.trans (b.mono hb.size)
  clear b
  go_wp2_with fail
  refine (l23Store_any h 1 1 ks _ hs.out).mono ?_
  rintro e W2 ⟨rfl, b⟩
  replace hb := hb.trans (b.mono hb.size)
  clear b
  go_wp2_with fail
  refine (T0 _).mono ?_
  rintro e W3 ⟨⟨x0, c0, rfl, R0⟩, b⟩
  replace R0 := ownsRow_mono R0 hb.size
  replace hb := hb.trans (b.mono hb.size)
  clear b
  go_wp2_with fail
  refine (l23Load_any h 1 kl _ hl.out).mono ?_
  rintro e W4 ⟨rfl, b⟩
  replace hb := hb.trans (b.mono hb.size)
  replace R0 := ownsRow_below R0 b
  clear b
  go_wp2_with fail
  refine (l23Store_any h 0 1 ks _ hs.out).mono ?_
  rintro e W5 ⟨rfl, b⟩
  replace hb := hb.trans (b.mono hb.size)
  replace R0 := ownsRow_below R0 b
  clear b
  go_wp2_with fail
  refine (T1 _).mono ?_
  rintro e W6 ⟨⟨x1, c1, rfl, R1⟩, b⟩
  have hne : ∀ k, (Value.slice x0 l0.length c0).ownBlock = some k → (Value.slice x1 l1.length c1).ownBlock ≠ some k := fun k h1 h2 => by have := (R0.lt k h1).2; have := own_ge R1 k h2; omega
  replace R0 := ownsRow_below R0 b
  replace R1 := ownsRow_mono R1 hb.size
  replace hb := hb.trans (b.mono hb.size)
  clear b
  have O := own_lit2 (w := W6) (B := V.heap.size) (v1 := (.slice x0 l0.length c0)) (v2 := (.slice x1 l1.length c1)) hb.size
  have bo := below1 W6 (.cells #[.slice x0 l0.length c0, .slice x1 l1.length c1] 32)
  replace R0 := ownsRow_below R0 bo
  replace R1 := ownsRow_below R1 bo
  replace hb := hb.trans (bo.mono hb.size)
  have RD := rdg_two (l1 := l0) (l2 := l1) R0 R1 hne O
  have P1 := hP.bl' hb
  have Q1 := hQ.bl' hb
  have bw := bP.trans (hb.mono bP.size)
  have p0 := P1.c
  have pf := P1.fz
  have q0 := Q1.c
  have qf := Q1.fz
  have lP := P1.lt
  have lQ := Q1.lt
  have nPQ : w.heap.size ≠ w.heap.size + 1 := by omega
  have P2 := P1.set (.slice (some ⟨W6.heap.size, 0, none⟩) 2 2)
  have Q2 := Q1.far (b' := w.heap.size + 1) (i := 0) (by omega) (.slice (some ⟨W6.heap.size, 0, none⟩) 2 2)
  have Q3 := Q2.set (.slice (some ⟨W6.heap.size, 0, none⟩) 2 2)
  have p2 := P2.c
  have q2 := Q2.c
  have qf2 := Q2.fz
  have q3 := Q3.c
  clear R0 R1 O bo
  go_wp2_with fail
  exact bodyPost_ret (v := .tuple #[.agg #[.slice (some ⟨W6.heap.size, 0, none⟩) 2 2], .bool true]) (by simp [results, Try.results20, go_sem, q3]) rfl ⟨_, rfl, ⟨_, ((RD.far (by omega) _).far (by omega) _).mono (by omega)⟩, (bw.setCell (by show w.heap.size ≤ w.heap.size + 1; omega) _).setCell (Nat.le_refl _) _⟩

set_option maxHeartbeats 2000000 in
set_option linter.unusedSimpArgs false in
set_option maxRecDepth 100000 in
theorem ssh_twice (h : Int) (w : World) (o3 : 0 ≤ h) (o4 : h ≤ 3) :
    Calls Try.prog 20 #[.int .i64 4, .int .i64 h] w fun e w' => ∃ v, e = .returned (.tuple #[.agg #[v], .bool true]) ∧ (∃ vs, Rdg w' w.heap.size v ((M.raw 4 h).map (M.fin h)) vs) ∧ Below w.heap.size w w' := by
  have bP := below2 w (.cells #[.slice none 0 0] 25) (.cells #[.slice none 0 0] 25)
  have hQ := (Slot1.new w (.slice none 0 0) 25).bl' (below1 _ (.cells #[.slice none 0 0] 25))
  have hP := Slot1.new (w.alloc (.cells #[.slice none 0 0] 25)) (.slice none 0 0) 25
  rw [World.size_alloc] at hP
  have C1 := fun W => l6In_any 4 1 6 W
  have C2 := fun W => l6In_any h 0 3 W
  rw [show M.rng 1 6 4 = true by decide] at C1
  rw [show M.rng 0 3 h = true by simp [M.rng, o3, o4]] at C2
  obtain ⟨ks, hks⟩ : ∃ x, M.kst h = x := ⟨_, rfl⟩
  obtain ⟨kl, hkl⟩ : ∃ x, M.kld h = x := ⟨_, rfl⟩
  have hs : Hid (M.kst h = ks) := hks
  have hl : Hid (M.kld h = kl) := hkl
  obtain ⟨l1, hl1⟩ : ∃ x, M.fin h [⟨kl, 0, 0⟩, ⟨kl, 0, 0⟩] = x := ⟨_, rfl⟩
  have T1 := fun W => l23Two_any h kl 0 0 kl 0 0 W
  rw [hl1] at T1
  have er : (M.raw 4 h).map (M.fin h) = [[⟨ks, 0, 1⟩], l1] := by
    have e0 : M.raw 4 h = [[⟨ks, 0, 1⟩], [⟨kl, 0, 0⟩, ⟨kl, 0, 0⟩]] := by simp [M.raw, M.sst, M.sld, hks, hkl, M.kst_no, M.kld_no]
    rw [e0]
    simp only [List.map_cons, List.map_nil, hl1]
    rfl
  rw [er]
  clear er hks hkl hl1
  go_enter Try.func20, Try.ntmps20
  go_wp2_with fail
  refine (C1 _).mono ?_
  rintro e w0 ⟨rfl, rfl⟩
  go_wp2_with fail
  refine (C2 _).mono ?_
  rintro e w0 ⟨rfl, rfl⟩
  clear C1 C2
  go_wp2_with fail
  generalize hV : ((w.alloc (.cells #[.slice none 0 0] 25)).alloc (.cells #[.slice none 0 0] 25)) = V at *
  have hb := Below.refl V.heap.size V
  have sV : V.heap.size = w.heap.size + 2 := by rw [← hV]; simp
  clear hV
  refine (l23Store_any h 0 1 ks _ hs.out).mono ?_
  rintro e W1 ⟨rfl, b⟩
  replace hb := hb.trans (b.mono hb.size)
  clear b
  have R0 := own_lit (w := W1) (B := V.heap.size) [⟨ks, 0, 1⟩] (cs := #[.int .i64 ks, .int .i64 0, .int .i64 1]) hb.size rfl (by simp)
  replace hb := hb.alloc hb.size (.cells #[.int .i64 ks, .int .i64 0, .int .i64 1] 34)
  simp only [List.length_cons, List.length_nil, Nat.zero_add, Nat.reduceAdd] at R0
  go_wp2_with fail
  generalize W1.alloc (.cells #[.int .i64 ks, .int .i64 0, .int .i64 1] 34) = V0 at *
  generalize W1.heap.size = G0 at *
  refine (l23Load_any h 0 kl _ hl.out).mono ?_
  rintro e W2 ⟨rfl, b⟩
  replace hb := hb.trans (b.mono hb.size)
  replace R0 := ownsRow_below R0 b
  clear b
  go_wp2_with fail
  refine (l23Load_any h 0 kl _ hl.out).mono ?_
  rintro e W3 ⟨rfl, b⟩
  replace hb := hb.trans (b.mono hb.size)
  replace R0 := ownsRow_below R0 b
  clear b
  go_wp2_with fail
  refine (T1 _).mono ?_
  rintro e W4 ⟨⟨x1, c1, rfl, R1⟩, b⟩
  have hne : ∀ k, (Value.slice (some ⟨G0, 0, none⟩) 1 1).ownBlock = some k → (Value.slice x1 l1.length c1).ownBlock ≠ some k := fun k h1 h2 => by have := (R0.lt k h1).2; have := own_ge R1 k h2; omega
  replace R0 := ownsRow_below R0 b
  replace R1 := ownsRow_mono R1 hb.size
  replace hb := hb.trans (b.mono hb.size)
  clear b
  have O := own_lit2 (w := W4) (B := V.heap.size) (v1 := (.slice (some ⟨G0, 0, none⟩) 1 1)) (v2 := (.slice x1 l1.length c1)) hb.size
  have bo := below1 W4 (.cells #[.slice (some ⟨G0, 0, none⟩) 1 1, .slice x1 l1.length c1] 32)
  replace R0 := ownsRow_below R0 bo
  replace R1 := ownsRow_below R1 bo
  replace hb := hb.trans (bo.mono hb.size)
  have RD := rdg_two (l1 := [⟨ks, 0, 1⟩]) (l2 := l1) R0 R1 hne O
  have P1 := hP.bl' hb
  have Q1 := hQ.bl' hb
  have bw := bP.trans (hb.mono bP.size)
  have p0 := P1.c
  have pf := P1.fz
  have q0 := Q1.c
  have qf := Q1.fz
  have lP := P1.lt
  have lQ := Q1.lt
  have nPQ : w.heap.size ≠ w.heap.size + 1 := by omega
  have P2 := P1.set (.slice (some ⟨W4.heap.size, 0, none⟩) 2 2)
  have Q2 := Q1.far (b' := w.heap.size + 1) (i := 0) (by omega) (.slice (some ⟨W4.heap.size, 0, none⟩) 2 2)
  have Q3 := Q2.set (.slice (some ⟨W4.heap.size, 0, none⟩) 2 2)
  have p2 := P2.c
  have q2 := Q2.c
  have qf2 := Q2.fz
  have q3 := Q3.c
  clear R0 R1 O bo
  go_wp2_with fail
  exact bodyPost_ret (v := .tuple #[.agg #[.slice (some ⟨W4.heap.size, 0, none⟩) 2 2], .bool true]) (by simp [results, Try.results20, go_sem, q3]) rfl ⟨_, rfl, ⟨_, ((RD.far (by omega) _).far (by omega) _).mono (by omega)⟩, (bw.setCell (by show w.heap.size ≤ w.heap.size + 1; omega) _).setCell (Nat.le_refl _) _⟩

set_option maxHeartbeats 2000000 in
set_option linter.unusedSimpArgs false in
set_option maxRecDepth 100000 in
theorem ssh_four (h : Int) (w : World) (o3 : 0 ≤ h) (o4 : h ≤ 3) :
    Calls Try.prog 20 #[.int .i64 5, .int .i64 h] w fun e w' => ∃ v, e = .returned (.tuple #[.agg #[v], .bool true]) ∧ (∃ vs, Rdg w' w.heap.size v ((M.raw 5 h).map (M.fin h)) vs) ∧ Below w.heap.size w w' := by
  have bP := below2 w (.cells #[.slice none 0 0] 25) (.cells #[.slice none 0 0] 25)
  have hQ := (Slot1.new w (.slice none 0 0) 25).bl' (below1 _ (.cells #[.slice none 0 0] 25))
  have hP := Slot1.new (w.alloc (.cells #[.slice none 0 0] 25)) (.slice none 0 0) 25
  rw [World.size_alloc] at hP
  have C1 := fun W => l6In_any 5 1 6 W
  have C2 := fun W => l6In_any h 0 3 W
  rw [show M.rng 1 6 5 = true by decide] at C1
  rw [show M.rng 0 3 h = true by simp [M.rng, o3, o4]] at C2
  obtain ⟨ks, hks⟩ : ∃ x, M.kst h = x := ⟨_, rfl⟩
  obtain ⟨kl, hkl⟩ : ∃ x, M.kld h = x := ⟨_, rfl⟩
  have hs : Hid (M.kst h = ks) := hks
  have hl : Hid (M.kld h = kl) := hkl
  obtain ⟨l0, hl0⟩ : ∃ x, M.fin h [⟨ks, 0, 2⟩, ⟨ks, 1, 1⟩] = x := ⟨_, rfl⟩
  have T0 := fun W => l23Two_any h ks 0 2 ks 1 1 W
  rw [hl0] at T0
  obtain ⟨l1, hl1⟩ : ∃ x, M.fin h [⟨ks, 1, 2⟩, ⟨ks, 0, 1⟩] = x := ⟨_, rfl⟩
  have T1 := fun W => l23Two_any h ks 1 2 ks 0 1 W
  rw [hl1] at T1
  have er : (M.raw 5 h).map (M.fin h) = [l0, l1] := by
    have e0 : M.raw 5 h = [[⟨ks, 0, 2⟩, ⟨ks, 1, 1⟩], [⟨ks, 1, 2⟩, ⟨ks, 0, 1⟩]] := by simp [M.raw, M.sst, M.sld, hks, hkl, M.kst_no, M.kld_no]
    rw [e0]
    simp only [List.map_cons, List.map_nil, hl0, hl1]
  rw [er]
  clear er hks hkl hl0 hl1
  go_enter Try.func20, Try.ntmps20
  go_wp2_with fail
  refine (C1 _).mono ?_
  rintro e w0 ⟨rfl, rfl⟩
  go_wp2_with fail
  refine (C2 _).mono ?_
  rintro e w0 ⟨rfl, rfl⟩
  clear C1 C2
  go_wp2_with fail
  generalize hV : ((w.alloc (.cells #[.slice none 0 0] 25)).alloc (.cells #[.slice none 0 0] 25)) = V at *
  have hb := Below.refl V.heap.size V
  have sV : V.heap.size = w.heap.size + 2 := by rw [← hV]; simp
  clear hV
  refine (l23Store_any h 0 2 ks _ hs.out).mono ?_
  rintro e W1 ⟨rfl, b⟩
  replace hb := hb.trans (b.mono hb.size)
  clear b
  go_wp2_with fail
  refine (l23Store_any h 1 1 ks _ hs.out).mono ?_
  rintro e W2 ⟨rfl, b⟩
  replace hb := hb.trans (b.mono hb.size)
  clear b
  go_wp2_with fail
  refine (T0 _).mono ?_
  rintro e W3 ⟨⟨x0, c0, rfl, R0⟩, b⟩
  replace R0 := ownsRow_mono R0 hb.size
  replace hb := hb.trans (b.mono hb.size)
  clear b
  go_wp2_with fail
  refine (l23Store_any h 1 2 ks _ hs.out).mono ?_
  rintro e W4 ⟨rfl, b⟩
  replace hb := hb.trans (b.mono hb.size)
  replace R0 := ownsRow_below R0 b
  clear b
  go_wp2_with fail
  refine (l23Store_any h 0 1 ks _ hs.out).mono ?_
  rintro e W5 ⟨rfl, b⟩
  replace hb := hb.trans (b.mono hb.size)
  replace R0 := ownsRow_below R0 b
  clear b
  go_wp2_with fail
  refine (T1 _).mono ?_
  rintro e W6 ⟨⟨x1, c1, rfl, R1⟩, b⟩
  have hne : ∀ k, (Value.slice x0 l0.length c0).ownBlock = some k → (Value.slice x1 l1.length c1).ownBlock ≠ some k := fun k h1 h2 => by have := (R0.lt k h1).2; have := own_ge R1 k h2; omega
  replace R0 := ownsRow_below R0 b
  replace R1 := ownsRow_mono R1 hb.size
  replace hb := hb.trans (b.mono hb.size)
  clear b
  have O := own_lit2 (w := W6) (B := V.heap.size) (v1 := (.slice x0 l0.length c0)) (v2 := (.slice x1 l1.length c1)) hb.size
  have bo := below1 W6 (.cells #[.slice x0 l0.length c0, .slice x1 l1.length c1] 32)
  replace R0 := ownsRow_below R0 bo
  replace R1 := ownsRow_below R1 bo
  replace hb := hb.trans (bo.mono hb.size)
  have RD := rdg_two (l1 := l0) (l2 := l1) R0 R1 hne O
  have P1 := hP.bl' hb
  have Q1 := hQ.bl' hb
  have bw := bP.trans (hb.mono bP.size)
  have p0 := P1.c
  have pf := P1.fz
  have q0 := Q1.c
  have qf := Q1.fz
  have lP := P1.lt
  have lQ := Q1.lt
  have nPQ : w.heap.size ≠ w.heap.size + 1 := by omega
  have P2 := P1.set (.slice (some ⟨W6.heap.size, 0, none⟩) 2 2)
  have Q2 := Q1.far (b' := w.heap.size + 1) (i := 0) (by omega) (.slice (some ⟨W6.heap.size, 0, none⟩) 2 2)
  have Q3 := Q2.set (.slice (some ⟨W6.heap.size, 0, none⟩) 2 2)
  have p2 := P2.c
  have q2 := Q2.c
  have qf2 := Q2.fz
  have q3 := Q3.c
  clear R0 R1 O bo
  go_wp2_with fail
  exact bodyPost_ret (v := .tuple #[.agg #[.slice (some ⟨W6.heap.size, 0, none⟩) 2 2], .bool true]) (by simp [results, Try.results20, go_sem, q3]) rfl ⟨_, rfl, ⟨_, ((RD.far (by omega) _).far (by omega) _).mono (by omega)⟩, (bw.setCell (by show w.heap.size ≤ w.heap.size + 1; omega) _).setCell (Nat.le_refl _) _⟩

set_option maxHeartbeats 2000000 in
set_option linter.unusedSimpArgs false in
set_option maxRecDepth 100000 in
theorem ssh_wait (h : Int) (w : World) (o3 : 0 ≤ h) (o4 : h ≤ 3) :
    Calls Try.prog 20 #[.int .i64 6, .int .i64 h] w fun e w' => ∃ v, e = .returned (.tuple #[.agg #[v], .bool true]) ∧ (∃ vs, Rdg w' w.heap.size v ((M.raw 6 h).map (M.fin h)) vs) ∧ Below w.heap.size w w' := by
  have bP := below2 w (.cells #[.slice none 0 0] 25) (.cells #[.slice none 0 0] 25)
  have hQ := (Slot1.new w (.slice none 0 0) 25).bl' (below1 _ (.cells #[.slice none 0 0] 25))
  have hP := Slot1.new (w.alloc (.cells #[.slice none 0 0] 25)) (.slice none 0 0) 25
  rw [World.size_alloc] at hP
  have C1 := fun W => l6In_any 6 1 6 W
  have C2 := fun W => l6In_any h 0 3 W
  rw [show M.rng 1 6 6 = true by decide] at C1
  rw [show M.rng 0 3 h = true by simp [M.rng, o3, o4]] at C2
  obtain ⟨ks, hks⟩ : ∃ x, M.kst h = x := ⟨_, rfl⟩
  obtain ⟨kl, hkl⟩ : ∃ x, M.kld h = x := ⟨_, rfl⟩
  have hs : Hid (M.kst h = ks) := hks
  have hl : Hid (M.kld h = kl) := hkl
  have er : (M.raw 6 h).map (M.fin h) = [[⟨7, 0, 0⟩, ⟨2, 1, 0⟩, ⟨2, 0, 0⟩, ⟨8, 0, 0⟩], [⟨1, 0, 1⟩, ⟨9, 0, 0⟩, ⟨ks, 1, 1⟩]] := by
    have e0 : M.raw 6 h = [[⟨7, 0, 0⟩, ⟨2, 1, 0⟩, ⟨2, 0, 0⟩, ⟨8, 0, 0⟩], [⟨1, 0, 1⟩, ⟨9, 0, 0⟩, ⟨ks, 1, 1⟩]] := by simp [M.raw, M.sst, M.sld, hks, hkl, M.kst_no, M.kld_no]
    rw [e0]
    simp only [List.map_cons, List.map_nil]
    rfl
  rw [er]
  clear er hks hkl 
  go_enter Try.func20, Try.ntmps20
  go_wp2_with fail
  refine (C1 _).mono ?_
  rintro e w0 ⟨rfl, rfl⟩
  go_wp2_with fail
  refine (C2 _).mono ?_
  rintro e w0 ⟨rfl, rfl⟩
  clear C1 C2
  go_wp2_with fail
  generalize hV : ((w.alloc (.cells #[.slice none 0 0] 25)).alloc (.cells #[.slice none 0 0] 25)) = V at *
  have hb := Below.refl V.heap.size V
  have sV : V.heap.size = w.heap.size + 2 := by rw [← hV]; simp
  clear hV
  refine (l23Load_any 0 1 2 _ rfl).mono ?_
  rintro e W1 ⟨rfl, b⟩
  replace hb := hb.trans (b.mono hb.size)
  clear b
  go_wp2_with fail
  refine (l23Load_any 0 0 2 _ rfl).mono ?_
  rintro e W2 ⟨rfl, b⟩
  replace hb := hb.trans (b.mono hb.size)
  clear b
  have R0 := own_lit (w := W2) (B := V.heap.size) [⟨7, 0, 0⟩, ⟨2, 1, 0⟩, ⟨2, 0, 0⟩, ⟨8, 0, 0⟩] (cs := #[.int .i64 7, .int .i64 0, .int .i64 0, .int .i64 2, .int .i64 1, .int .i64 0, .int .i64 2, .int .i64 0, .int .i64 0, .int .i64 8, .int .i64 0, .int .i64 0]) hb.size rfl (by simp)
  replace hb := hb.alloc hb.size (.cells #[.int .i64 7, .int .i64 0, .int .i64 0, .int .i64 2, .int .i64 1, .int .i64 0, .int .i64 2, .int .i64 0, .int .i64 0, .int .i64 8, .int .i64 0, .int .i64 0] 34)
  simp only [List.length_cons, List.length_nil, Nat.zero_add, Nat.reduceAdd] at R0
  go_wp2_with fail
  generalize W2.alloc (.cells #[.int .i64 7, .int .i64 0, .int .i64 0, .int .i64 2, .int .i64 1, .int .i64 0, .int .i64 2, .int .i64 0, .int .i64 0, .int .i64 8, .int .i64 0, .int .i64 0] 34) = V0 at *
  generalize W2.heap.size = G0 at *
  refine (l23Store_any 0 0 1 1 _ rfl).mono ?_
  rintro e W3 ⟨rfl, b⟩
  replace hb := hb.trans (b.mono hb.size)
  replace R0 := ownsRow_below R0 b
  clear b
  go_wp2_with fail
  refine (l23Store_any h 1 1 ks _ hs.out).mono ?_
  rintro e W4 ⟨rfl, b⟩
  replace hb := hb.trans (b.mono hb.size)
  replace R0 := ownsRow_below R0 b
  clear b
  have R1 := own_lit (w := W4) (B := V.heap.size) [⟨1, 0, 1⟩, ⟨9, 0, 0⟩, ⟨ks, 1, 1⟩] (cs := #[.int .i64 1, .int .i64 0, .int .i64 1, .int .i64 9, .int .i64 0, .int .i64 0, .int .i64 ks, .int .i64 1, .int .i64 1]) hb.size rfl (by simp)
  have hne := own_ne (m := 3) (c := 3) R0 (Nat.le_refl W4.heap.size)
  replace R0 := ownsRow_below R0 (below1 W4 (.cells #[.int .i64 1, .int .i64 0, .int .i64 1, .int .i64 9, .int .i64 0, .int .i64 0, .int .i64 ks, .int .i64 1, .int .i64 1] 34))
  replace hb := hb.alloc hb.size (.cells #[.int .i64 1, .int .i64 0, .int .i64 1, .int .i64 9, .int .i64 0, .int .i64 0, .int .i64 ks, .int .i64 1, .int .i64 1] 34)
  simp only [List.length_cons, List.length_nil, Nat.zero_add, Nat.reduceAdd] at R1
  have O := own_lit2 (w := (W4.alloc (.cells #[.int .i64 1, .int .i64 0, .int .i64 1, .int .i64 9, .int .i64 0, .int .i64 0, .int .i64 ks, .int .i64 1, .int .i64 1] 34))) (B := V.heap.size) (v1 := (.slice (some ⟨G0, 0, none⟩) 4 4)) (v2 := (.slice (some ⟨W4.heap.size, 0, none⟩) 3 3)) hb.size
  have bo := below1 (W4.alloc (.cells #[.int .i64 1, .int .i64 0, .int .i64 1, .int .i64 9, .int .i64 0, .int .i64 0, .int .i64 ks, .int .i64 1, .int .i64 1] 34)) (.cells #[.slice (some ⟨G0, 0, none⟩) 4 4, .slice (some ⟨W4.heap.size, 0, none⟩) 3 3] 32)
  replace R0 := ownsRow_below R0 bo
  replace R1 := ownsRow_below R1 bo
  replace hb := hb.trans (bo.mono hb.size)
  rw [World.size_alloc] at O
  have RD := rdg_two (l1 := [⟨7, 0, 0⟩, ⟨2, 1, 0⟩, ⟨2, 0, 0⟩, ⟨8, 0, 0⟩]) (l2 := [⟨1, 0, 1⟩, ⟨9, 0, 0⟩, ⟨ks, 1, 1⟩]) R0 R1 hne O
  have P1 := hP.bl' hb
  have Q1 := hQ.bl' hb
  have bw := bP.trans (hb.mono bP.size)
  have p0 := P1.c
  have pf := P1.fz
  have q0 := Q1.c
  have qf := Q1.fz
  have lP := P1.lt
  have lQ := Q1.lt
  have nPQ : w.heap.size ≠ w.heap.size + 1 := by omega
  have P2 := P1.set (.slice (some ⟨W4.heap.size + 1, 0, none⟩) 2 2)
  have Q2 := Q1.far (b' := w.heap.size + 1) (i := 0) (by omega) (.slice (some ⟨W4.heap.size + 1, 0, none⟩) 2 2)
  have Q3 := Q2.set (.slice (some ⟨W4.heap.size + 1, 0, none⟩) 2 2)
  have p2 := P2.c
  have q2 := Q2.c
  have qf2 := Q2.fz
  have q3 := Q3.c
  clear R0 R1 O bo
  go_wp2_with fail
  exact bodyPost_ret (v := .tuple #[.agg #[.slice (some ⟨W4.heap.size + 1, 0, none⟩) 2 2], .bool true]) (by simp [results, Try.results20, go_sem, q3]) rfl ⟨_, rfl, ⟨_, ((RD.far (by omega) _).far (by omega) _).mono (by omega)⟩, (bw.setCell (by show w.heap.size ≤ w.heap.size + 1; omega) _).setCell (Nat.le_refl _) _⟩

set_option maxHeartbeats 1000000 in
theorem sshapeOf_any (s h : Int) (w : World) :
    Calls Try.prog 20 #[.int .i64 s, .int .i64 h] w fun e w' => ∃ v, e = .returned (.tuple #[.agg #[v], .bool (M.shape s h).isSome]) ∧ (∃ vs, Rdg w' w.heap.size v ((M.shape s h).getD []) vs) ∧ Below w.heap.size w w' := by
  cases hok : M.shapeOk s h
  · rw [M.shape_no hok]
    have C1 := fun W => l6In_any s 1 6 W
    have C2 := fun W => l6In_any h 0 3 W
    cases hs : M.rng 1 6 s
    · rw [hs] at C1
      go_enter Try.func20, Try.ntmps20
      go_wp2_with fail
      refine (C1 _).mono ?_
      rintro e w0 ⟨rfl, rfl⟩
      go_wp2_with fail
      go_returns
      exact ⟨_, rfl, ⟨[], Rdg.nil _ _⟩, by go_grown⟩
    · have hh : M.rng 0 3 h = false := by
        simp only [M.rng, M.shapeOk, Bool.and_eq_true, decide_eq_true_eq, Bool.and_eq_false_iff, decide_eq_false_iff_not] at *
        omega
      rw [hs] at C1
      rw [hh] at C2
      go_enter Try.func20, Try.ntmps20
      go_wp2_with fail
      refine (C1 _).mono ?_
      rintro e w0 ⟨rfl, rfl⟩
      go_wp2_with fail
      refine (C2 _).mono ?_
      rintro e w0 ⟨rfl, rfl⟩
      go_wp2_with fail
      go_returns
      exact ⟨_, rfl, ⟨[], Rdg.nil _ _⟩, by go_grown⟩
  · rw [M.shape_yes hok]
    simp only [M.shapeOk, Bool.and_eq_true, decide_eq_true_eq] at hok
    obtain ⟨⟨⟨o1, o2⟩, o3⟩, o4⟩ := hok
    have hcs : s = 1 ∨ s = 2 ∨ s = 3 ∨ s = 4 ∨ s = 5 ∨ s = 6 := by omega
    rcases hcs with rfl | rfl | rfl | rfl | rfl | rfl
    · exact ssh_cross h w o3 o4
    · exact ssh_pass h w o3 o4
    · exact ssh_round h w o3 o4
    · exact ssh_twice h w o3 o4
    · exact ssh_four h w o3 o4
    · exact ssh_wait h w o3 o4

end Go.Proofs.Ytoabfiocjjfjeaa
