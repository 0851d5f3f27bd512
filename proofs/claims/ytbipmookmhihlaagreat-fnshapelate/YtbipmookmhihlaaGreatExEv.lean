/- impl.ExecEvents, spec.ExecEvents. Of programs of at most 1048576 threads, each of at most 1048576 steps. -/
import Derived.Test.YtbipmookmhihlaaGreatExDe
import Derived.Test.YtbipmookmhihlaaGreatSProg
namespace Go.Proofs.YtbipmookmhihlaaGreat
open Go.RowKit

def M.Ev.cells (x : M.Ev) : List Value := [.int .i64 x.t, .int .i64 x.i, .bool x.last]
def flatEv (l : List M.Ev) : List Value := (l.map M.Ev.cells).flatten
theorem flatEv_append (l m : List M.Ev) : flatEv (l ++ m) = flatEv l ++ flatEv m := by simp [flatEv]
theorem flatEv_one (x : M.Ev) : flatEv [x] = x.cells := by simp [flatEv]
theorem M.De.len (x : M.De) : x.cells.length = 7 := rfl
theorem M.Ev.len (x : M.Ev) : x.cells.length = 3 := rfl
/-- All events of a program; none, if it is not ok. -/
def M.evAll (ll : List (List M.D)) : List M.Ev := if M.prog ll then M.events ll else []
theorem M.prog_bounds {ll : List (List M.D)} (h : M.prog ll = true) : ll.length ≤ 3 ∧ ∀ l ∈ ll, l.length ≤ 7 := by
  simp only [M.prog, Bool.and_eq_true, decide_eq_true_eq] at h
  refine ⟨h.1, ?_⟩
  have key : ∀ (ll : List (List M.D)) (a u : Nat), M.progFrom a u ll = true → ∀ l ∈ ll, l.length ≤ 7 := by
    intro ll
    induction ll with
    | nil => intro a u _ l hl; cases hl
    | cons x ll ih =>
      intro a u hp l hl
      simp only [M.progFrom] at hp
      split at hp
      · rename_i hx
        rcases List.mem_cons.1 hl with rfl | hl
        · exact M.thread_le hx
        · exact ih _ _ hp l hl
      · cases hp
  exact key ll 0 0 h.2

theorem Tryz.infoEvent : (Tryz.prog.info? 91).map (fun i => (i.zero, i.size, i.bytes)) = some (some (.agg #[.int .i64 0, .int .i64 0, .bool false]), 3, 24) := by kernel_rfl

theorem M.ev_step {ll : List (List M.D)} {l : List M.D} {t i : Nat} {es : List M.Ev} {xs : List M.De} {lr : Int} (he : es = xs.map M.De.ev) (h : M.deeds ll = xs ++ M.toTell ll l t i lr xs.length) (hi : i < l.length) :
    ∃ (ys : List M.De) (lr' : Int), M.deeds ll = ys ++ M.toTell ll l t (i + 1) lr' ys.length ∧ ys.map M.De.ev = if l[i].k == 9 then es ++ [⟨t, i, false⟩] ++ [⟨t, i, true⟩] else es ++ [⟨t, i, false⟩] := by
  refine ⟨_, _, M.tell_step h hi, ?_⟩
  subst he
  rw [List.map_append]
  unfold M.deD
  split <;> simp [M.De.ev]

end Go.Proofs.YtbipmookmhihlaaGreat
