/- laws.lpIdle: a program with a thread more that does nothing. Of one with some thread, of at most 1048576 threads and steps. -/
import Derived.Deep.AppendLies
import Derived.Test.YtphijhpleemjoaaGreatBFai
import Derived.Test.YtphijhpleemjoaaGreatBFan
import Derived.Test.YtphijhpleemjoaaGreatBFbf
import Derived.Test.YtphijhpleemjoaaGreatBFbv
namespace Go.Proofs.YtphijhpleemjoaaGreat
open Go.RowKit
structure Thb (w : World) (g : Nat) (vs : List Value) (ll : List (List M.D)) : Prop where
 thr : Thr w vs ll
 cell : ∀ i (h : i < vs.length), w.cell? ⟨g, i, none⟩ = some vs[i]
theorem Thb.below {w w' : World} {g : Nat} {vs : List Value} {ll : List (List M.D)} (h : Thb w g vs ll) (hb : Below w.heap.size w w') : Thb w' g vs ll :=
 ⟨h.thr.below hb (Nat.le_refl _), fun i hi => (hb.cell (p := ⟨g, i, none⟩) (World.block_lt_of_cell? _ _ (h.cell i hi))).trans (h.cell i hi)⟩
theorem DoSN.thb {N : Nat} {w : World} {a : Option Addr} {g : Nat} {ll : List (List M.D)} (h : DoSN N w a g 0 ll) : ∃ vs, Thb w g vs ll := by
 obtain ⟨vs, h1, h2⟩ := h.vals
 exact ⟨vs, h1, fun i hi => by have := h2 i hi; rwa [Nat.zero_add] at this⟩
theorem DoS.none (w : World) (a : Option Addr) (b o : Nat) : DoS w a b o [] := ⟨fun h => absurd h (Nat.lt_irrefl _), fun _ hi => absurd hi (Nat.not_lt_zero _)⟩
structure IdleAns (w w' : World) (ll : List (List M.D)) (ok : Bool) (q : Value) : Prop where
 yes : ok = true → ∃ a' g' c', q = .slice a' (ll.length + 1) c' ∧ DoSS w' a' g' 0 (ll ++ [[]])
 bel : Below w.heap.size w w'
set_option maxHeartbeats 2000000 in
set_option maxRecDepth 100000 in
theorem lpIdle_any (g c : Nat) (ll : List (List M.D)) (vs : List Value) (w : World) (hpos : 0 < ll.length) (hl : ll.length ≤ 1048576) (hls : ∀ t ∈ ll, t.length ≤ 1048576) (h : DoSS w (some ⟨g, 0, none⟩) g 0 ll) (hT : Thb w g vs ll) :
  Calls Tryz.prog 29 #[.agg #[.slice (some ⟨g, 0, none⟩) ll.length c]] w fun e w' => ∃ qa qn qc, e = .returned (.tuple #[.agg #[.slice qa qn qc], .bool (M.prog ll && decide (ll.length < 3))]) ∧ IdleAns w w' ll (M.prog ll && decide (ll.length < 3)) (.slice qa qn qc) := by
 obtain ⟨i0, hi, hz0, hz1, hz2⟩ := info_parts Tryz.info50
 obtain ⟨ok, hok⟩ : ∃ ok, (M.prog ll && decide (ll.length < 3)) = ok := ⟨_, rfl⟩
 rw [hok]
 have b1 := below2 w (.cells #[.slice (some ⟨g, 0, none⟩) ll.length c] 25) (.cells #[.slice none 0 0] 25)
 have hP : Slot1 ((w.alloc (.cells #[.slice (some ⟨g, 0, none⟩) ll.length c] 25)).alloc (.cells #[.slice none 0 0] 25)) w.heap.size (.slice (some ⟨g, 0, none⟩) ll.length c) := ⟨by simp, by simp⟩
 have hR : Slot1 ((w.alloc (.cells #[.slice (some ⟨g, 0, none⟩) ll.length c] 25)).alloc (.cells #[.slice none 0 0] 25)) (w.heap.size + 1) (.slice none 0 0) := by
  have := Slot1.new (w.alloc (.cells #[.slice (some ⟨g, 0, none⟩) ll.length c] 25)) (.slice none 0 0) 25
  rwa [World.size_alloc] at this
 have hp1 := h.below b1 (Nat.le_refl _)
 have hT1 := hT.below b1
 have C1 := sprog_any (some ⟨g, 0, none⟩) g 0 c ll _ hl hls hp1
 go_enter Tryz.func29, Tryz.ntmps29
 go_wp2_with fail
 generalize (w.alloc (.cells #[.slice (some ⟨g, 0, none⟩) ll.length c] 25)).alloc (.cells #[.slice none 0 0] 25) = W0 at *
 obtain ⟨R, hRe⟩ : ∃ R, w.heap.size + 1 = R := ⟨_, rfl⟩
 rw [hRe] at hR ⊢
 cases hp : M.prog ll
 ·rw [hp] at C1
  obtain rfl : ok = false := by rw [← hok, hp]; rfl
  clear hok
  refine C1.mono ?_
  rintro e W1 ⟨rfl, b2⟩
  have hP1 := hP.bel b2
  have hR1 := hR.bel b2
  have p0 := hP1.c
  have r0 := hR1.c
  have rf := hR1.fz
  have bw := b1.trans (b2.mono b1.size)
  clear C1 hp
  go_wp2_with fail
  have s4 := (hR1.set (.slice (some ⟨g, 0, none⟩) ll.length c)).c
  refine bodyPost_ret (v := .tuple #[.agg #[.slice (some ⟨g, 0, none⟩) ll.length c], .bool false]) (by simp [results, Tryz.results29, go_sem, s4]) rfl ⟨_, _, _, rfl, ⟨fun he => (by cases he), bw.setCell (by show w.heap.size ≤ R; omega) _⟩⟩
 ·rw [hp] at C1
  by_cases h3 : ll.length < 3
  ·obtain rfl : ok = true := by rw [← hok, hp, decide_eq_true h3]; rfl
   clear hok
   have i1 : ¬ (3 : Int) ≤ ll.length := by omega
   refine C1.mono ?_
   rintro e W1 ⟨rfl, b2⟩
   have hP1 := hP.bel b2
   have hR1 := hR.bel b2
   have hT2 := hT1.below b2
   have p0 := hP1.c
   have bw := b1.trans (b2.mono b1.size)
   have hvl := hT2.thr.1
   have hgl : g < W1.heap.size := World.block_lt_of_cell? _ _ (hT2.cell 0 (by omega))
   have hPl := hP1.lt
   clear C1 hp hT1 hP hR
   have hown2 : (W1.alloc (.cells #[] 50)).ownsRow W1.heap.size 50 1 (.slice (some ⟨W1.heap.size, 0, none⟩) 0 0) 0 [] := World.ownsRow_made W1 _ 0 (Nat.le_refl _) (Nat.zero_le _) rfl
   go_wp2_with (at_builtin; refine wpList_append_own _ rfl (.tmp 14) (.tmp 16) 23 rfl W1.heap.size 50 i0 _ 1 24 Tryz.underlying23 hi hz0 hz1 hz2 rfl (by decide) _ _ _ rfl hown2 ⟨g, 0, none⟩ ll.length c vs rfl (by omega) ?c1 (fun y hy => hT2.thr.one y hy) (by unfold maxLen; omega) (by omega) (by simp) ?_)
   case c1 =>
    intro j u hj
    have hjl := M.lt_of_get hj
    rw [List.getElem?_eq_getElem hjl] at hj
    obtain ⟨rfl⟩ := hj
    rw [Go.WideShapes.add_plain, World.cell?_alloc_past _ _ _ hgl, Nat.zero_add]
    exact hT2.cell j hjl
   intro v5 w5 hown5 hg5 _
   have b5 : Below W1.heap.size W1 w5 := below_grown (below1 W1 _) hg5 (fun k hk => by simp [Value.ownBlock] at hk; omega)
   have hT5 := hT2.below b5
   have hR5 := hR1.bel b5
   have hown5' : w5.ownsRow W1.heap.size 50 1 v5 ll.length vs := by simpa using hown5
   have s5 := b5.size
   clear hown5 hg5 hown2
   have hown6 := (hown5'.alloc (.cells #[] 52)).alloc (.cells #[.slice (some ⟨w5.heap.size, 0, none⟩) 0 0] 50)
   have b6 := below2 w5 (.cells #[] 52) (.cells #[.slice (some ⟨w5.heap.size, 0, none⟩) 0 0] 50)
   have k6 : ((w5.alloc (.cells #[] 52)).alloc (.cells #[.slice (some ⟨w5.heap.size, 0, none⟩) 0 0] 50)).cell? ⟨w5.heap.size + 1, 0, none⟩ = some (.slice (some ⟨w5.heap.size, 0, none⟩) 0 0) := by simp
   have z6 : ((w5.alloc (.cells #[] 52)).alloc (.cells #[.slice (some ⟨w5.heap.size, 0, none⟩) 0 0] 50)).heap.size = w5.heap.size + 2 := by simp
   go_wp2_with (at_builtin; refine wpList_append_own _ rfl (.tmp 17) (.tmp 19) 23 rfl W1.heap.size 50 i0 _ 1 24 Tryz.underlying23 hi hz0 hz1 hz2 rfl (by decide) _ _ _ rfl hown6 ⟨w5.heap.size + 1, 0, none⟩ 1 1 [.slice (some ⟨w5.heap.size, 0, none⟩) 0 0] rfl (by rfl) ?c2 (fun y hy => by rw [List.mem_singleton.1 hy]; rfl) (by unfold maxLen; omega) (by omega) (by rw [z6]; omega) ?_)
   case c2 =>
    intro j u hj
    have hjl := M.lt_of_get hj
    obtain rfl : j = 0 := by simp at hjl; omega
    obtain rfl : Value.slice (some ⟨w5.heap.size, 0, none⟩) 0 0 = u := by simpa using hj
    rw [Go.WideShapes.add_plain]
    exact k6
   intro v7 w7 hown7 hg7 _
   have b7 : Below W1.heap.size W1 w7 := below_grown (b5.trans (b6.mono b5.size)) hg7 (fun k hk => (hown5'.lt k hk).1) (by simp; omega)
   have hR7 := hR1.bel b7
   have r0 := hR7.c
   have rf := hR7.fz
   have bw7 := bw.trans (b7.mono bw.size)
   have hRl := hR1.lt
   obtain ⟨a8, c8, rfl⟩ := own_slx hown7
   have hown8 := ownsRow_far hown7 (b := R) (i := 0) (by omega) (.slice a8 (ll.length + 1) c8)
   have bw8 := bw7.setCell (p := ⟨R, 0, none⟩) (by show w.heap.size ≤ R; omega) (.slice a8 (ll.length + 1) c8)
   have hT8 : Thr (w7.setCell ⟨R, 0, none⟩ (.slice a8 (ll.length + 1) c8)) (vs ++ [.slice (some ⟨w5.heap.size, 0, none⟩) 0 0]) (ll ++ [[]]) := (hT.thr.below bw8 (Nat.le_refl _)).snoc (DoS.none _ (some ⟨w5.heap.size, 0, none⟩) w5.heap.size 0) (Nat.le_refl _)
   obtain ⟨a9, g9, c9, e9, hss⟩ := hT8.ss (B := W1.heap.size) (by rw [List.length_append]; exact hown8)
   simp only [Value.slice.injEq] at e9
   obtain ⟨rfl, hx9, rfl⟩ := e9
   clear hx9
   clear hown6 hown7 hg7 k6 hT8 hown8
   go_wp2_with fail
   have s4 := (hR7.set (.slice a8 (ll.length + 1) c8)).c
   refine bodyPost_ret (v := .tuple #[.agg #[.slice a8 (ll.length + 1) c8], .bool true]) (by simp [results, Tryz.results29, go_sem, s4]) rfl ⟨_, _, _, rfl, ⟨fun _ => ⟨a8, g9, c8, rfl, hss⟩, bw8⟩⟩
  ·obtain rfl : ok = false := by rw [← hok, hp, decide_eq_false h3]; rfl
   clear hok
   have i1 : (3 : Int) ≤ ll.length := by omega
   refine C1.mono ?_
   rintro e W1 ⟨rfl, b2⟩
   have hP1 := hP.bel b2
   have hR1 := hR.bel b2
   have p0 := hP1.c
   have r0 := hR1.c
   have rf := hR1.fz
   have bw := b1.trans (b2.mono b1.size)
   clear C1 hp
   go_wp2_with fail
   have s4 := (hR1.set (.slice (some ⟨g, 0, none⟩) ll.length c)).c
   refine bodyPost_ret (v := .tuple #[.agg #[.slice (some ⟨g, 0, none⟩) ll.length c], .bool false]) (by simp [results, Tryz.results29, go_sem, s4]) rfl ⟨_, _, _, rfl, ⟨fun he => (by cases he), bw.setCell (by show w.heap.size ≤ R; omega) _⟩⟩
end Go.Proofs.YtphijhpleemjoaaGreat
