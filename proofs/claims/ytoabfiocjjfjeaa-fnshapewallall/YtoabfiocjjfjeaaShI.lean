/- impl's shapes: each one's threads, in rows of their own. No condition. -/
import Derived.Test.YtoabfiocjjfjeaaShRow
namespace Go.Proofs.Ytoabfiocjjfjeaa
open Go.RowKit

set_option maxHeartbeats 400000 in
theorem hstore_any (h pl v k : Int) (w : World) (hk : M.kst h = k) :
    Calls Try.prog 94 #[.int .i64 h, .int .i64 pl, .int .i64 v] w fun e w' => e = .returned (.agg #[.int .i64 k, .int .i64 pl, .int .i64 v]) ∧ Below w.heap.size w w' := by
  subst hk
  by_cases h2 : h = 2
  · rw [M.kst_yes h2]
    subst h2
    go_enter Try.func94, Try.ntmps94
    go_wp2_with fail
    go_returns
    exact ⟨rfl, by go_grown⟩
  · rw [M.kst_no h2]
    have h2' : (h == 2) = false := by simpa using h2
    go_enter Try.func94, Try.ntmps94
    go_wp2_with fail
    go_returns
    exact ⟨rfl, by go_grown⟩

set_option maxHeartbeats 400000 in
theorem hread_any (h pl k : Int) (w : World) (hk : M.kld h = k) :
    Calls Try.prog 92 #[.int .i64 h, .int .i64 pl] w fun e w' => e = .returned (.agg #[.int .i64 k, .int .i64 pl, .int .i64 0]) ∧ Below w.heap.size w w' := by
  subst hk
  by_cases h2 : h = 2
  · rw [M.kld_yes h2]
    subst h2
    go_enter Try.func92, Try.ntmps92
    go_wp2_with fail
    go_returns
    exact ⟨rfl, by go_grown⟩
  · rw [M.kld_no h2]
    have h2' : (h == 2) = false := by simpa using h2
    go_enter Try.func92, Try.ntmps92
    go_wp2_with fail
    go_returns
    exact ⟨rfl, by go_grown⟩

set_option maxHeartbeats 1000000 in
theorem thr_cross (h ks kl : Int) (w : World) (hs : M.kst h = ks) (_hl : M.kld h = kl) :
    Calls Try.prog 93 #[.agg #[], .int .i64 h] w fun e w' => ∃ v vs, e = .returned v ∧ Rdg w' w.heap.size v [[⟨ks, 0, 1⟩, ⟨kl, 1, 0⟩], [⟨ks, 1, 1⟩, ⟨kl, 0, 0⟩]] vs ∧ Below w.heap.size w w' := by
  have hb := below1 w (.cells #[] 86)
  go_enter Try.func93, Try.ntmps93
  go_wp2_with fail
  generalize w.alloc (.cells #[] 86) = V at *
  refine (hstore_any h 0 1 ks _ hs).mono ?_
  rintro e W1 ⟨rfl, b⟩
  replace hb := hb.trans (b.mono hb.size)
  clear b
  go_wp2_with fail
  refine (hread_any h 1 kl _ _hl).mono ?_
  rintro e W2 ⟨rfl, b⟩
  replace hb := hb.trans (b.mono hb.size)
  clear b
  have R0 := own_lit (w := W2) (B := w.heap.size) [⟨ks, 0, 1⟩, ⟨kl, 1, 0⟩] (cs := #[.int .i64 ks, .int .i64 0, .int .i64 1, .int .i64 kl, .int .i64 1, .int .i64 0]) hb.size rfl (by simp)
  replace hb := hb.alloc hb.size (.cells #[.int .i64 ks, .int .i64 0, .int .i64 1, .int .i64 kl, .int .i64 1, .int .i64 0] 34)
  go_wp2_with fail
  generalize W2.alloc (.cells #[.int .i64 ks, .int .i64 0, .int .i64 1, .int .i64 kl, .int .i64 1, .int .i64 0] 34) = V0 at *
  generalize W2.heap.size = G0 at *
  refine (hstore_any h 1 1 ks _ hs).mono ?_
  rintro e W3 ⟨rfl, b⟩
  replace hb := hb.trans (b.mono hb.size)
  replace R0 := ownsRow_below R0 b
  clear b
  go_wp2_with fail
  refine (hread_any h 0 kl _ _hl).mono ?_
  rintro e W4 ⟨rfl, b⟩
  replace hb := hb.trans (b.mono hb.size)
  replace R0 := ownsRow_below R0 b
  clear b
  have R1 := own_lit (w := W4) (B := w.heap.size) [⟨ks, 1, 1⟩, ⟨kl, 0, 0⟩] (cs := #[.int .i64 ks, .int .i64 1, .int .i64 1, .int .i64 kl, .int .i64 0, .int .i64 0]) hb.size rfl (by simp)
  have hne := own_ne (m := 2) (c := 2) R0 (Nat.le_refl W4.heap.size)
  replace R0 := ownsRow_below R0 (below1 W4 (.cells #[.int .i64 ks, .int .i64 1, .int .i64 1, .int .i64 kl, .int .i64 0, .int .i64 0] 34))
  replace hb := hb.alloc hb.size (.cells #[.int .i64 ks, .int .i64 1, .int .i64 1, .int .i64 kl, .int .i64 0, .int .i64 0] 34)
  simp only [List.length_cons, List.length_nil, Nat.zero_add, Nat.reduceAdd] at R0 R1
  go_wp2_with fail
  have O := own_lit2 (w := (W4.alloc (.cells #[.int .i64 ks, .int .i64 1, .int .i64 1, .int .i64 kl, .int .i64 0, .int .i64 0] 34))) (B := w.heap.size) (v1 := (.slice (some ⟨G0, 0, none⟩) 2 2)) (v2 := (.slice (some ⟨W4.heap.size, 0, none⟩) 2 2)) hb.size
  have bo := below1 (W4.alloc (.cells #[.int .i64 ks, .int .i64 1, .int .i64 1, .int .i64 kl, .int .i64 0, .int .i64 0] 34)) (.cells #[.slice (some ⟨G0, 0, none⟩) 2 2, .slice (some ⟨W4.heap.size, 0, none⟩) 2 2] 32)
  replace R0 := ownsRow_below R0 bo
  replace R1 := ownsRow_below R1 bo
  replace hb := hb.trans (bo.mono hb.size)
  rw [World.size_alloc] at O
  go_ret
  exact ⟨_, _, rfl, rdg_two (l1 := [⟨ks, 0, 1⟩, ⟨kl, 1, 0⟩]) (l2 := [⟨ks, 1, 1⟩, ⟨kl, 0, 0⟩]) R0 R1 hne O, hb⟩

set_option maxHeartbeats 1000000 in
theorem thr_pass (h ks kl : Int) (w : World) (hs : M.kst h = ks) (_hl : M.kld h = kl) :
    Calls Try.prog 95 #[.agg #[], .int .i64 h] w fun e w' => ∃ v vs, e = .returned v ∧ Rdg w' w.heap.size v [[⟨1, 0, 1⟩, ⟨ks, 1, 1⟩], [⟨kl, 1, 0⟩, ⟨2, 0, 0⟩]] vs ∧ Below w.heap.size w w' := by
  have hb := below1 w (.cells #[] 87)
  go_enter Try.func95, Try.ntmps95
  go_wp2_with fail
  generalize w.alloc (.cells #[] 87) = V at *
  refine (hstore_any 0 0 1 1 _ rfl).mono ?_
  rintro e W1 ⟨rfl, b⟩
  replace hb := hb.trans (b.mono hb.size)
  clear b
  go_wp2_with fail
  refine (hstore_any h 1 1 ks _ hs).mono ?_
  rintro e W2 ⟨rfl, b⟩
  replace hb := hb.trans (b.mono hb.size)
  clear b
  have R0 := own_lit (w := W2) (B := w.heap.size) [⟨1, 0, 1⟩, ⟨ks, 1, 1⟩] (cs := #[.int .i64 1, .int .i64 0, .int .i64 1, .int .i64 ks, .int .i64 1, .int .i64 1]) hb.size rfl (by simp)
  replace hb := hb.alloc hb.size (.cells #[.int .i64 1, .int .i64 0, .int .i64 1, .int .i64 ks, .int .i64 1, .int .i64 1] 34)
  go_wp2_with fail
  generalize W2.alloc (.cells #[.int .i64 1, .int .i64 0, .int .i64 1, .int .i64 ks, .int .i64 1, .int .i64 1] 34) = V0 at *
  generalize W2.heap.size = G0 at *
  refine (hread_any h 1 kl _ _hl).mono ?_
  rintro e W3 ⟨rfl, b⟩
  replace hb := hb.trans (b.mono hb.size)
  replace R0 := ownsRow_below R0 b
  clear b
  go_wp2_with fail
  refine (hread_any 0 0 2 _ rfl).mono ?_
  rintro e W4 ⟨rfl, b⟩
  replace hb := hb.trans (b.mono hb.size)
  replace R0 := ownsRow_below R0 b
  clear b
  have R1 := own_lit (w := W4) (B := w.heap.size) [⟨kl, 1, 0⟩, ⟨2, 0, 0⟩] (cs := #[.int .i64 kl, .int .i64 1, .int .i64 0, .int .i64 2, .int .i64 0, .int .i64 0]) hb.size rfl (by simp)
  have hne := own_ne (m := 2) (c := 2) R0 (Nat.le_refl W4.heap.size)
  replace R0 := ownsRow_below R0 (below1 W4 (.cells #[.int .i64 kl, .int .i64 1, .int .i64 0, .int .i64 2, .int .i64 0, .int .i64 0] 34))
  replace hb := hb.alloc hb.size (.cells #[.int .i64 kl, .int .i64 1, .int .i64 0, .int .i64 2, .int .i64 0, .int .i64 0] 34)
  simp only [List.length_cons, List.length_nil, Nat.zero_add, Nat.reduceAdd] at R0 R1
  go_wp2_with fail
  have O := own_lit2 (w := (W4.alloc (.cells #[.int .i64 kl, .int .i64 1, .int .i64 0, .int .i64 2, .int .i64 0, .int .i64 0] 34))) (B := w.heap.size) (v1 := (.slice (some ⟨G0, 0, none⟩) 2 2)) (v2 := (.slice (some ⟨W4.heap.size, 0, none⟩) 2 2)) hb.size
  have bo := below1 (W4.alloc (.cells #[.int .i64 kl, .int .i64 1, .int .i64 0, .int .i64 2, .int .i64 0, .int .i64 0] 34)) (.cells #[.slice (some ⟨G0, 0, none⟩) 2 2, .slice (some ⟨W4.heap.size, 0, none⟩) 2 2] 32)
  replace R0 := ownsRow_below R0 bo
  replace R1 := ownsRow_below R1 bo
  replace hb := hb.trans (bo.mono hb.size)
  rw [World.size_alloc] at O
  go_ret
  exact ⟨_, _, rfl, rdg_two (l1 := [⟨1, 0, 1⟩, ⟨ks, 1, 1⟩]) (l2 := [⟨kl, 1, 0⟩, ⟨2, 0, 0⟩]) R0 R1 hne O, hb⟩

set_option maxHeartbeats 1000000 in
theorem thr_round (h ks kl : Int) (w : World) (hs : M.kst h = ks) (_hl : M.kld h = kl) :
    Calls Try.prog 96 #[.agg #[], .int .i64 h] w fun e w' => ∃ v vs, e = .returned v ∧ Rdg w' w.heap.size v [[⟨kl, 0, 0⟩, ⟨ks, 1, 1⟩], [⟨kl, 1, 0⟩, ⟨ks, 0, 1⟩]] vs ∧ Below w.heap.size w w' := by
  have hb := below1 w (.cells #[] 88)
  go_enter Try.func96, Try.ntmps96
  go_wp2_with fail
  generalize w.alloc (.cells #[] 88) = V at *
  refine (hread_any h 0 kl _ _hl).mono ?_
  rintro e W1 ⟨rfl, b⟩
  replace hb := hb.trans (b.mono hb.size)
  clear b
  go_wp2_with fail
  refine (hstore_any h 1 1 ks _ hs).mono ?_
  rintro e W2 ⟨rfl, b⟩
  replace hb := hb.trans (b.mono hb.size)
  clear b
  have R0 := own_lit (w := W2) (B := w.heap.size) [⟨kl, 0, 0⟩, ⟨ks, 1, 1⟩] (cs := #[.int .i64 kl, .int .i64 0, .int .i64 0, .int .i64 ks, .int .i64 1, .int .i64 1]) hb.size rfl (by simp)
  replace hb := hb.alloc hb.size (.cells #[.int .i64 kl, .int .i64 0, .int .i64 0, .int .i64 ks, .int .i64 1, .int .i64 1] 34)
  go_wp2_with fail
  generalize W2.alloc (.cells #[.int .i64 kl, .int .i64 0, .int .i64 0, .int .i64 ks, .int .i64 1, .int .i64 1] 34) = V0 at *
  generalize W2.heap.size = G0 at *
  refine (hread_any h 1 kl _ _hl).mono ?_
  rintro e W3 ⟨rfl, b⟩
  replace hb := hb.trans (b.mono hb.size)
  replace R0 := ownsRow_below R0 b
  clear b
  go_wp2_with fail
  refine (hstore_any h 0 1 ks _ hs).mono ?_
  rintro e W4 ⟨rfl, b⟩
  replace hb := hb.trans (b.mono hb.size)
  replace R0 := ownsRow_below R0 b
  clear b
  have R1 := own_lit (w := W4) (B := w.heap.size) [⟨kl, 1, 0⟩, ⟨ks, 0, 1⟩] (cs := #[.int .i64 kl, .int .i64 1, .int .i64 0, .int .i64 ks, .int .i64 0, .int .i64 1]) hb.size rfl (by simp)
  have hne := own_ne (m := 2) (c := 2) R0 (Nat.le_refl W4.heap.size)
  replace R0 := ownsRow_below R0 (below1 W4 (.cells #[.int .i64 kl, .int .i64 1, .int .i64 0, .int .i64 ks, .int .i64 0, .int .i64 1] 34))
  replace hb := hb.alloc hb.size (.cells #[.int .i64 kl, .int .i64 1, .int .i64 0, .int .i64 ks, .int .i64 0, .int .i64 1] 34)
  simp only [List.length_cons, List.length_nil, Nat.zero_add, Nat.reduceAdd] at R0 R1
  go_wp2_with fail
  have O := own_lit2 (w := (W4.alloc (.cells #[.int .i64 kl, .int .i64 1, .int .i64 0, .int .i64 ks, .int .i64 0, .int .i64 1] 34))) (B := w.heap.size) (v1 := (.slice (some ⟨G0, 0, none⟩) 2 2)) (v2 := (.slice (some ⟨W4.heap.size, 0, none⟩) 2 2)) hb.size
  have bo := below1 (W4.alloc (.cells #[.int .i64 kl, .int .i64 1, .int .i64 0, .int .i64 ks, .int .i64 0, .int .i64 1] 34)) (.cells #[.slice (some ⟨G0, 0, none⟩) 2 2, .slice (some ⟨W4.heap.size, 0, none⟩) 2 2] 32)
  replace R0 := ownsRow_below R0 bo
  replace R1 := ownsRow_below R1 bo
  replace hb := hb.trans (bo.mono hb.size)
  rw [World.size_alloc] at O
  go_ret
  exact ⟨_, _, rfl, rdg_two (l1 := [⟨kl, 0, 0⟩, ⟨ks, 1, 1⟩]) (l2 := [⟨kl, 1, 0⟩, ⟨ks, 0, 1⟩]) R0 R1 hne O, hb⟩

set_option maxHeartbeats 1000000 in
theorem thr_twice (h ks kl : Int) (w : World) (hs : M.kst h = ks) (_hl : M.kld h = kl) :
    Calls Try.prog 97 #[.agg #[], .int .i64 h] w fun e w' => ∃ v vs, e = .returned v ∧ Rdg w' w.heap.size v [[⟨ks, 0, 1⟩], [⟨kl, 0, 0⟩, ⟨kl, 0, 0⟩]] vs ∧ Below w.heap.size w w' := by
  have hb := below1 w (.cells #[] 89)
  go_enter Try.func97, Try.ntmps97
  go_wp2_with fail
  generalize w.alloc (.cells #[] 89) = V at *
  refine (hstore_any h 0 1 ks _ hs).mono ?_
  rintro e W1 ⟨rfl, b⟩
  replace hb := hb.trans (b.mono hb.size)
  clear b
  have R0 := own_lit (w := W1) (B := w.heap.size) [⟨ks, 0, 1⟩] (cs := #[.int .i64 ks, .int .i64 0, .int .i64 1]) hb.size rfl (by simp)
  replace hb := hb.alloc hb.size (.cells #[.int .i64 ks, .int .i64 0, .int .i64 1] 34)
  go_wp2_with fail
  generalize W1.alloc (.cells #[.int .i64 ks, .int .i64 0, .int .i64 1] 34) = V0 at *
  generalize W1.heap.size = G0 at *
  refine (hread_any h 0 kl _ _hl).mono ?_
  rintro e W2 ⟨rfl, b⟩
  replace hb := hb.trans (b.mono hb.size)
  replace R0 := ownsRow_below R0 b
  clear b
  go_wp2_with fail
  refine (hread_any h 0 kl _ _hl).mono ?_
  rintro e W3 ⟨rfl, b⟩
  replace hb := hb.trans (b.mono hb.size)
  replace R0 := ownsRow_below R0 b
  clear b
  have R1 := own_lit (w := W3) (B := w.heap.size) [⟨kl, 0, 0⟩, ⟨kl, 0, 0⟩] (cs := #[.int .i64 kl, .int .i64 0, .int .i64 0, .int .i64 kl, .int .i64 0, .int .i64 0]) hb.size rfl (by simp)
  have hne := own_ne (m := 2) (c := 2) R0 (Nat.le_refl W3.heap.size)
  replace R0 := ownsRow_below R0 (below1 W3 (.cells #[.int .i64 kl, .int .i64 0, .int .i64 0, .int .i64 kl, .int .i64 0, .int .i64 0] 34))
  replace hb := hb.alloc hb.size (.cells #[.int .i64 kl, .int .i64 0, .int .i64 0, .int .i64 kl, .int .i64 0, .int .i64 0] 34)
  simp only [List.length_cons, List.length_nil, Nat.zero_add, Nat.reduceAdd] at R0 R1
  go_wp2_with fail
  have O := own_lit2 (w := (W3.alloc (.cells #[.int .i64 kl, .int .i64 0, .int .i64 0, .int .i64 kl, .int .i64 0, .int .i64 0] 34))) (B := w.heap.size) (v1 := (.slice (some ⟨G0, 0, none⟩) 1 1)) (v2 := (.slice (some ⟨W3.heap.size, 0, none⟩) 2 2)) hb.size
  have bo := below1 (W3.alloc (.cells #[.int .i64 kl, .int .i64 0, .int .i64 0, .int .i64 kl, .int .i64 0, .int .i64 0] 34)) (.cells #[.slice (some ⟨G0, 0, none⟩) 1 1, .slice (some ⟨W3.heap.size, 0, none⟩) 2 2] 32)
  replace R0 := ownsRow_below R0 bo
  replace R1 := ownsRow_below R1 bo
  replace hb := hb.trans (bo.mono hb.size)
  rw [World.size_alloc] at O
  go_ret
  exact ⟨_, _, rfl, rdg_two (l1 := [⟨ks, 0, 1⟩]) (l2 := [⟨kl, 0, 0⟩, ⟨kl, 0, 0⟩]) R0 R1 hne O, hb⟩

set_option maxHeartbeats 1000000 in
theorem thr_four (h ks kl : Int) (w : World) (hs : M.kst h = ks) (_hl : M.kld h = kl) :
    Calls Try.prog 98 #[.agg #[], .int .i64 h] w fun e w' => ∃ v vs, e = .returned v ∧ Rdg w' w.heap.size v [[⟨ks, 0, 2⟩, ⟨ks, 1, 1⟩], [⟨ks, 1, 2⟩, ⟨ks, 0, 1⟩]] vs ∧ Below w.heap.size w w' := by
  have hb := below1 w (.cells #[] 90)
  go_enter Try.func98, Try.ntmps98
  go_wp2_with fail
  generalize w.alloc (.cells #[] 90) = V at *
  refine (hstore_any h 0 2 ks _ hs).mono ?_
  rintro e W1 ⟨rfl, b⟩
  replace hb := hb.trans (b.mono hb.size)
  clear b
  go_wp2_with fail
  refine (hstore_any h 1 1 ks _ hs).mono ?_
  rintro e W2 ⟨rfl, b⟩
  replace hb := hb.trans (b.mono hb.size)
  clear b
  have R0 := own_lit (w := W2) (B := w.heap.size) [⟨ks, 0, 2⟩, ⟨ks, 1, 1⟩] (cs := #[.int .i64 ks, .int .i64 0, .int .i64 2, .int .i64 ks, .int .i64 1, .int .i64 1]) hb.size rfl (by simp)
  replace hb := hb.alloc hb.size (.cells #[.int .i64 ks, .int .i64 0, .int .i64 2, .int .i64 ks, .int .i64 1, .int .i64 1] 34)
  go_wp2_with fail
  generalize W2.alloc (.cells #[.int .i64 ks, .int .i64 0, .int .i64 2, .int .i64 ks, .int .i64 1, .int .i64 1] 34) = V0 at *
  generalize W2.heap.size = G0 at *
  refine (hstore_any h 1 2 ks _ hs).mono ?_
  rintro e W3 ⟨rfl, b⟩
  replace hb := hb.trans (b.mono hb.size)
  replace R0 := ownsRow_below R0 b
  clear b
  go_wp2_with fail
  refine (hstore_any h 0 1 ks _ hs).mono ?_
  rintro e W4 ⟨rfl, b⟩
  replace hb := hb.trans (b.mono hb.size)
  replace R0 := ownsRow_below R0 b
  clear b
  have R1 := own_lit (w := W4) (B := w.heap.size) [⟨ks, 1, 2⟩, ⟨ks, 0, 1⟩] (cs := #[.int .i64 ks, .int .i64 1, .int .i64 2, .int .i64 ks, .int .i64 0, .int .i64 1]) hb.size rfl (by simp)
  have hne := own_ne (m := 2) (c := 2) R0 (Nat.le_refl W4.heap.size)
  replace R0 := ownsRow_below R0 (below1 W4 (.cells #[.int .i64 ks, .int .i64 1, .int .i64 2, .int .i64 ks, .int .i64 0, .int .i64 1] 34))
  replace hb := hb.alloc hb.size (.cells #[.int .i64 ks, .int .i64 1, .int .i64 2, .int .i64 ks, .int .i64 0, .int .i64 1] 34)
  simp only [List.length_cons, List.length_nil, Nat.zero_add, Nat.reduceAdd] at R0 R1
  go_wp2_with fail
  have O := own_lit2 (w := (W4.alloc (.cells #[.int .i64 ks, .int .i64 1, .int .i64 2, .int .i64 ks, .int .i64 0, .int .i64 1] 34))) (B := w.heap.size) (v1 := (.slice (some ⟨G0, 0, none⟩) 2 2)) (v2 := (.slice (some ⟨W4.heap.size, 0, none⟩) 2 2)) hb.size
  have bo := below1 (W4.alloc (.cells #[.int .i64 ks, .int .i64 1, .int .i64 2, .int .i64 ks, .int .i64 0, .int .i64 1] 34)) (.cells #[.slice (some ⟨G0, 0, none⟩) 2 2, .slice (some ⟨W4.heap.size, 0, none⟩) 2 2] 32)
  replace R0 := ownsRow_below R0 bo
  replace R1 := ownsRow_below R1 bo
  replace hb := hb.trans (bo.mono hb.size)
  rw [World.size_alloc] at O
  go_ret
  exact ⟨_, _, rfl, rdg_two (l1 := [⟨ks, 0, 2⟩, ⟨ks, 1, 1⟩]) (l2 := [⟨ks, 1, 2⟩, ⟨ks, 0, 1⟩]) R0 R1 hne O, hb⟩

set_option maxHeartbeats 1000000 in
theorem thr_wait (h ks kl : Int) (w : World) (hs : M.kst h = ks) (_hl : M.kld h = kl) :
    Calls Try.prog 99 #[.agg #[], .int .i64 h] w fun e w' => ∃ v vs, e = .returned v ∧ Rdg w' w.heap.size v [[⟨7, 0, 0⟩, ⟨2, 1, 0⟩, ⟨2, 0, 0⟩, ⟨8, 0, 0⟩], [⟨1, 0, 1⟩, ⟨9, 0, 0⟩, ⟨ks, 1, 1⟩]] vs ∧ Below w.heap.size w w' := by
  have hb := below1 w (.cells #[] 91)
  go_enter Try.func99, Try.ntmps99
  go_wp2_with fail
  generalize w.alloc (.cells #[] 91) = V at *
  refine (hread_any 0 1 2 _ rfl).mono ?_
  rintro e W1 ⟨rfl, b⟩
  replace hb := hb.trans (b.mono hb.size)
  clear b
  go_wp2_with fail
  refine (hread_any 0 0 2 _ rfl).mono ?_
  rintro e W2 ⟨rfl, b⟩
  replace hb := hb.trans (b.mono hb.size)
  clear b
  have R0 := own_lit (w := W2) (B := w.heap.size) [⟨7, 0, 0⟩, ⟨2, 1, 0⟩, ⟨2, 0, 0⟩, ⟨8, 0, 0⟩] (cs := #[.int .i64 7, .int .i64 0, .int .i64 0, .int .i64 2, .int .i64 1, .int .i64 0, .int .i64 2, .int .i64 0, .int .i64 0, .int .i64 8, .int .i64 0, .int .i64 0]) hb.size rfl (by simp)
  replace hb := hb.alloc hb.size (.cells #[.int .i64 7, .int .i64 0, .int .i64 0, .int .i64 2, .int .i64 1, .int .i64 0, .int .i64 2, .int .i64 0, .int .i64 0, .int .i64 8, .int .i64 0, .int .i64 0] 34)
  go_wp2_with fail
  generalize W2.alloc (.cells #[.int .i64 7, .int .i64 0, .int .i64 0, .int .i64 2, .int .i64 1, .int .i64 0, .int .i64 2, .int .i64 0, .int .i64 0, .int .i64 8, .int .i64 0, .int .i64 0] 34) = V0 at *
  generalize W2.heap.size = G0 at *
  refine (hstore_any 0 0 1 1 _ rfl).mono ?_
  rintro e W3 ⟨rfl, b⟩
  replace hb := hb.trans (b.mono hb.size)
  replace R0 := ownsRow_below R0 b
  clear b
  go_wp2_with fail
  refine (hstore_any h 1 1 ks _ hs).mono ?_
  rintro e W4 ⟨rfl, b⟩
  replace hb := hb.trans (b.mono hb.size)
  replace R0 := ownsRow_below R0 b
  clear b
  have R1 := own_lit (w := W4) (B := w.heap.size) [⟨1, 0, 1⟩, ⟨9, 0, 0⟩, ⟨ks, 1, 1⟩] (cs := #[.int .i64 1, .int .i64 0, .int .i64 1, .int .i64 9, .int .i64 0, .int .i64 0, .int .i64 ks, .int .i64 1, .int .i64 1]) hb.size rfl (by simp)
  have hne := own_ne (m := 3) (c := 3) R0 (Nat.le_refl W4.heap.size)
  replace R0 := ownsRow_below R0 (below1 W4 (.cells #[.int .i64 1, .int .i64 0, .int .i64 1, .int .i64 9, .int .i64 0, .int .i64 0, .int .i64 ks, .int .i64 1, .int .i64 1] 34))
  replace hb := hb.alloc hb.size (.cells #[.int .i64 1, .int .i64 0, .int .i64 1, .int .i64 9, .int .i64 0, .int .i64 0, .int .i64 ks, .int .i64 1, .int .i64 1] 34)
  simp only [List.length_cons, List.length_nil, Nat.zero_add, Nat.reduceAdd] at R0 R1
  go_wp2_with fail
  have O := own_lit2 (w := (W4.alloc (.cells #[.int .i64 1, .int .i64 0, .int .i64 1, .int .i64 9, .int .i64 0, .int .i64 0, .int .i64 ks, .int .i64 1, .int .i64 1] 34))) (B := w.heap.size) (v1 := (.slice (some ⟨G0, 0, none⟩) 4 4)) (v2 := (.slice (some ⟨W4.heap.size, 0, none⟩) 3 3)) hb.size
  have bo := below1 (W4.alloc (.cells #[.int .i64 1, .int .i64 0, .int .i64 1, .int .i64 9, .int .i64 0, .int .i64 0, .int .i64 ks, .int .i64 1, .int .i64 1] 34)) (.cells #[.slice (some ⟨G0, 0, none⟩) 4 4, .slice (some ⟨W4.heap.size, 0, none⟩) 3 3] 32)
  replace R0 := ownsRow_below R0 bo
  replace R1 := ownsRow_below R1 bo
  replace hb := hb.trans (bo.mono hb.size)
  rw [World.size_alloc] at O
  go_ret
  exact ⟨_, _, rfl, rdg_two (l1 := [⟨7, 0, 0⟩, ⟨2, 1, 0⟩, ⟨2, 0, 0⟩, ⟨8, 0, 0⟩]) (l2 := [⟨1, 0, 1⟩, ⟨9, 0, 0⟩, ⟨ks, 1, 1⟩]) R0 R1 hne O, hb⟩

end Go.Proofs.Ytoabfiocjjfjeaa
