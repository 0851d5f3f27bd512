/- impl.TurnThreads. Of at most 1048576 threads, steps of a thread and numbers. -/
import Derived.Test.YtmbhnkdhoffnmaaTnCp
namespace Go.Proofs.Ytmbhnkdhoffnmaa
open Go.RowKit

theorem M.turnThreads_get {ll : List (List M.D)} {row : List Int} (h : M.prog ll = true) : (M.turnThreads ll row).getD [] = M.turned [] row ll ∧ (M.turnThreads ll row).isSome = M.rowN row ll.length := by
  cases hr : M.rowN row ll.length
  · rw [M.turnThreads_row hr, M.turned_no hr]; exact ⟨rfl, rfl⟩
  · rw [M.turnThreads_yes h hr, M.turned_yes hr]; exact ⟨rfl, rfl⟩
theorem M.turned_small {ll mm : List (List M.D)} {row : List Int} (h : M.prog ll = true) (e : M.turned [] row ll = mm) : mm.length ≤ 3 ∧ ∀ t ∈ mm, t.length ≤ 7 :=
  M.turnThreads_small (ll := ll) (row := row) (by rw [(M.turnThreads_get h).1]; exact e)

set_option maxHeartbeats 1000000 in
theorem iturnThreads_any (a : Option Addr) (b o c : Nat) (ll : List (List M.D)) (hl : ll.length ≤ 1048576) (hls : ∀ t ∈ ll, t.length ≤ 1048576) (ga : Option Addr) (gb go gc : Nat) (gs : List Int) (hgl : gs.length ≤ 1048576) (w : World) (h : DoSS w a b o ll) (hG : IntS w ga gb go gs) :
    Calls Try.prog 11 #[.agg #[.slice a ll.length c], .slice ga gs.length gc] w fun e w' => ∃ v, e = .returned (.tuple #[.agg #[v], .bool (M.turnThreads ll gs).isSome]) ∧ (∃ vs, Rdg w' w.heap.size v ((M.turnThreads ll gs).getD []) vs) ∧ Below w.heap.size w w' := by
  have b2 := below2 w (.cells #[.slice a ll.length c] 25) (.cells #[.slice none 0 0] 25)
  have h2 := h.below b2 (Nat.le_refl _)
  have hG2 := hG.below b2 (Nat.le_refl _)
  have hX := (Slot1.new w (.slice a ll.length c) 25).bl' (below1 _ (.cells #[.slice none 0 0] 25))
  have hY := Slot1.new (w.alloc (.cells #[.slice a ll.length c] 25)) (.slice none 0 0) 25
  rw [World.size_alloc] at hY
  go_enter Try.func11, Try.ntmps11
  go_wp2_with fail
  generalize (w.alloc (.cells #[.slice a ll.length c] 25)).alloc (.cells #[.slice none 0 0] 25) = W at *
  have CP := iprog_any a b o c ll W hl hls h2
  cases hp : M.prog ll
  · rw [hp] at CP
    refine CP.mono ?_
    rintro e W1 ⟨rfl, b1⟩
    have hY1 := hY.bl' b1
    have y0 := hY1.c
    have yf := hY1.fz
    have ly := hY1.lt
    have bw1 := b2.trans (b1.mono b2.size)
    have hno := M.turnThreads_bad (row := gs) hp
    go_wp2_with fail
    have q1 := (hY1.set (.slice none 0 0)).c
    exact bodyPost_ret (v := .tuple #[.agg #[.slice none 0 0], .bool false]) (by simp [results, Try.results11, go_sem, q1]) rfl ⟨_, by rw [hno]; rfl, ⟨[], by rw [hno]; exact Rdg.nil _ _⟩, bw1.setCell (by show w.heap.size ≤ w.heap.size + 1; omega) _⟩
  · rw [hp] at CP
    obtain ⟨h3, h7⟩ := M.prog_le hp
    obtain ⟨e1, e2⟩ := M.turnThreads_get (row := gs) hp
    obtain ⟨mm, hmm⟩ : ∃ mm, M.turned [] gs ll = mm := ⟨_, rfl⟩
    obtain ⟨hm3, hm7⟩ := M.turned_small hp hmm
    obtain ⟨ok, hok⟩ : ∃ ok, M.rowN gs ll.length = ok := ⟨_, rfl⟩
    have E1 : Hid ((M.turnThreads ll gs).getD [] = mm) := e1.trans hmm
    have E2 : Hid ((M.turnThreads ll gs).isSome = ok) := e2.trans hok
    have CT := fun A B C D W x y => turnT_any ga gb go gc gs A B C D ll W hgl (by omega) x y
    rw [hmm, hok] at CT
    clear hp hmm hok e1 e2
    refine CP.mono ?_
    rintro e W1 ⟨rfl, b1⟩
    have h1 := h2.below b1 (Nat.le_refl _)
    have hG1 := hG2.below b1 (Nat.le_refl _)
    have hX1 := hX.bl' b1
    have hY1 := hY.bl' b1
    have bw1 := b2.trans (b1.mono b2.size)
    have x0 := hX1.c
    clear CP h2 hG2 hX hY b1 b2
    go_wp2_with fail
    refine (CT a b o c W1 hG1 h1).mono ?_
    rintro e W2 ⟨v2, rfl, ⟨a2, ⟨c2, rfl⟩, g2, hs2⟩, b2⟩
    go_wp2_with fail
    refine (copyProg_any a2 g2 0 c2 mm W2 (by omega) (fun t ht => by have := hm7 t ht; omega) hs2).mono ?_
    rintro e W3 ⟨v3, rfl, ⟨vs, hR⟩, b3⟩
    have hY3 := (hY1.bl' b2).bl' b3
    have y0 := hY3.c
    have yf := hY3.fz
    have ly := hY3.lt
    have ly1 := hY1.lt
    have b13 := b2.trans (b3.mono b2.size)
    have bw3 := bw1.trans (b13.mono bw1.size)
    have hsz := b2.size
    obtain ⟨av, gv, cv, rfl, _⟩ := hR.b.ss
    go_wp2_with fail
    have q1 := (hY3.set (.slice av mm.length cv)).c
    exact bodyPost_ret (v := .tuple #[.agg #[.slice av mm.length cv], .bool ok]) (by simp [results, Try.results11, go_sem, q1]) rfl ⟨_, by rw [E2.out], ⟨vs, by rw [E1.out]; exact (hR.far (by omega) _).mono (by have := bw1.size; omega)⟩, bw3.setCell (by show w.heap.size ≤ w.heap.size + 1; omega) _⟩

end Go.Proofs.Ytmbhnkdhoffnmaa
