/- impl's ProgOk. Of programs of at most 1048576 threads, each of at most 1048576 steps. -/
import Derived.Test.YtefmkenljongpaaDoorCount
namespace Go.Proofs.YtefmkenljongpaaDoor
open Go.RowKit

/-- A value is a slice of threads. -/
structure DoSS (w : World) (a : Option Addr) (b o : Nat) (ll : List (List M.D)) : Prop where
  addr : 0 < ll.length → a = some ⟨b, o, none⟩
  row : ∀ i (h : i < ll.length), ∃ a' b' o' c', w.cell? ⟨b, o + i, none⟩ = some (.slice a' ll[i].length c') ∧ DoS w a' b' o' ll[i]

theorem DoSS.below {w w' : World} {a : Option Addr} {B b o : Nat} {ll : List (List M.D)} (h : DoSS w a b o ll) (hb : Below B w w') (hB : w.heap.size ≤ B) : DoSS w' a b o ll := by
  refine ⟨h.addr, fun i hi => ?_⟩
  obtain ⟨a', b', o', c', hc, hd⟩ := h.row i hi
  have hl := World.block_lt_of_cell? _ _ hc
  exact ⟨a', b', o', c', by rw [hb.cell (p := ⟨b, o + i, none⟩) (by show b < B; exact Nat.lt_of_lt_of_le hl hB)]; exact hc, hd.below hb hB⟩

theorem M.thread_le {t : List M.D} (h : M.thread t = true) : t.length ≤ 7 := by
  simp only [M.thread, Bool.and_eq_true, decide_eq_true_eq] at h; exact h.1.1.1
theorem M.drop_at' (l : List (List M.D)) (n : Nat) (h : n < l.length) : l.drop n = l[n] :: l.drop (n + 1) := (List.getElem_cons_drop h).symm
theorem M.from_bad {l : List (List M.D)} {x u n : Nat} {t : List M.D} (hp : M.progFrom 0 0 l = M.progFrom x u (l.drop n)) (hd : l.drop n = t :: l.drop (n + 1)) (hb : M.thread t = false) : M.prog l = false := by
  simp [M.prog, hp, hd, M.progFrom, hb]
theorem M.from_ok {l : List (List M.D)} {x u n : Nat} {t : List M.D} (hp : M.progFrom 0 0 l = M.progFrom x u (l.drop n)) (hd : l.drop n = t :: l.drop (n + 1)) (hb : M.thread t = true) : M.progFrom 0 0 l = M.progFrom (x + t.length) (u + M.cnt M.uses t) (l.drop (n + 1)) := by
  rw [hp, hd]; simp [M.progFrom, hb]
theorem M.from_fin {l : List (List M.D)} {x u n : Nat} (hp : M.progFrom 0 0 l = M.progFrom x u (l.drop n)) (hn : l.length ≤ n) (h3 : l.length ≤ 3) : M.prog l = (decide (x ≤ 14) && decide (u ≤ 6)) := by
  rw [List.drop_eq_nil_of_le hn] at hp
  simp [M.prog, hp, M.progFrom, h3]

end Go.Proofs.YtefmkenljongpaaDoor
