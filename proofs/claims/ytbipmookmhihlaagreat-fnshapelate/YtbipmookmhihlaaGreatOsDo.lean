/- spec's ways: the step of an event, whether a number is among others. Of at most 1048576 threads, steps and numbers. -/
import Derived.Test.YtbipmookmhihlaaGreatOkMath
import Derived.Test.YtbipmookmhihlaaGreatOkOrd
import Derived.Test.YtbipmookmhihlaaGreatQuietB
import Derived.Test.YtbipmookmhihlaaGreatLDo
import Derived.Deep.RegionHeld3
namespace Go.Proofs.YtbipmookmhihlaaGreat
open Go.RowKit

/-- A step of a program, told by an event. -/
def M.OfEv (ll : List (List M.D)) (x : M.De) : Prop := ∃ (ht : x.t < ll.length) (hi : x.i < ll[x.t].length), ll[x.t][x.i] = x.d
theorem M.ofEv {ll : List (List M.D)} : ∀ x ∈ M.deeds ll, M.OfEv ll x := by
  have hT : ∀ (ll : List (List M.D)) (t : Nat) (ht : t < ll.length) (l : List M.D) (i : Nat) (lr : Int) (n : Nat), ll[t].drop i = l → ∀ x ∈ M.deT t i lr n l, M.OfEv ll x := by
    intro ll t ht l
    induction l with
    | nil => intro i lr n _ x hx; simp [M.deT] at hx
    | cons d l ih =>
      intro i lr n hd x hx
      have hi : i < ll[t].length := by
        rcases Nat.lt_or_ge i ll[t].length with h | h
        · exact h
        · rw [List.drop_eq_nil_of_le h] at hd; cases hd
      rw [← List.getElem_cons_drop hi] at hd
      obtain ⟨hd1, hd2⟩ := List.cons.inj hd
      rw [M.deT] at hx
      rcases List.mem_append.1 hx with hx | hx
      · have : x.t = t ∧ x.i = i ∧ x.d = d := by
          unfold M.deD at hx
          split at hx
          · simp only [List.mem_cons, List.not_mem_nil, or_false] at hx
            rcases hx with rfl | rfl <;> exact ⟨rfl, rfl, rfl⟩
          · simp only [List.mem_cons, List.not_mem_nil, or_false] at hx
            subst hx; exact ⟨rfl, rfl, rfl⟩
        obtain ⟨xt, xi, xl, xd, xr⟩ := x
        obtain ⟨rfl, rfl, rfl⟩ := this
        exact ⟨ht, hi, hd1⟩
      · exact ih _ _ _ hd2 x hx
  have hF : ∀ (ll : List (List M.D)) (l : List (List M.D)) (t n : Nat), ll.drop t = l → ∀ x ∈ M.deF t n l, M.OfEv ll x := by
    intro ll l
    induction l with
    | nil => intro t n _ x hx; simp [M.deF] at hx
    | cons d l ih =>
      intro t n hd x hx
      have ht : t < ll.length := by
        rcases Nat.lt_or_ge t ll.length with h | h
        · exact h
        · rw [List.drop_eq_nil_of_le h] at hd; cases hd
      rw [← List.getElem_cons_drop ht] at hd
      obtain ⟨hd1, hd2⟩ := List.cons.inj hd
      rw [M.deF] at hx
      rcases List.mem_append.1 hx with hx | hx
      · exact hT ll t ht d 0 _ _ (by rw [hd1]; rfl) x hx
      · exact ih _ _ hd2 x hx
  exact hF ll ll 0 0 rfl

/-- The events of a program, as a slice. -/
abbrev DvS (w : World) (va : Option Addr) (g : Nat) (ds : List M.De) : Prop := RS (fun x : M.De => x.ev.cells) 3 w va g ds
structure DvAt (w : World) (g o : Nat) (x : M.De) : Prop where
  c0 : w.cell? ⟨g, o, none⟩ = some (.int .i64 x.t)
  c1 : w.cell? ⟨g, o + 1, none⟩ = some (.int .i64 x.i)
  c2 : w.cell? ⟨g, o + 2, none⟩ = some (.bool x.last)
theorem DvS.at {w : World} {va : Option Addr} {g : Nat} {l : List M.De} (h : DvS w va g l) {n : Nat} (hn : n < l.length) : DvAt w g (n * 3) l[n] :=
  ⟨h.row n hn 0 (by omega), h.row n hn 1 (by omega), h.row n hn 2 (by omega)⟩
theorem DvS.bel {w w' : World} {va : Option Addr} {g B : Nat} {l : List M.De} (h : DvS w va g l) (hb : Below B w w') (hB : w.heap.size ≤ B) : DvS w' va g l := h.below (fun _ => rfl) hb hB
theorem DvS.of {w : World} {va : Option Addr} {g : Nat} {l : List M.De} (h : RS M.Ev.cells 3 w va g (l.map M.De.ev)) : DvS w va g l :=
  ⟨fun hl => h.addr (by simpa using hl), fun i hi j hj => by
    have := h.row i (by simpa using hi) j hj
    rw [this, List.getElem_map]⟩
end Go.Proofs.YtbipmookmhihlaaGreat
