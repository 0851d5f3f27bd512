/- The plain mathematics of how many reads a program has. No condition. -/
import Derived.Test.YtflmejjhnkpodaaIProg
namespace Go.Proofs.Ytflmejjhnkpodaa
open Go.RowKit

def M.tot (f : Int → Bool) : List (List M.D) → Nat
  | [] => 0
  | t :: l => M.cnt f t + M.tot f l
def M.nreads (ll : List (List M.D)) : Int := if M.prog ll then (M.tot M.reads ll : Int) else -1

theorem M.from_le {ll : List (List M.D)} : ∀ {a u : Nat}, M.progFrom a u ll = true → ∀ t ∈ ll, t.length ≤ 7 := by
  induction ll with
  | nil => intro a u _ t ht; simp at ht
  | cons t l ih =>
    intro a u h t' ht'
    by_cases hb : M.thread t = true
    · simp only [M.progFrom, hb, if_true] at h
      rcases List.mem_cons.1 ht' with rfl | hm
      · exact M.thread_le hb
      · exact ih h t' hm
    · simp [M.progFrom, hb] at h
theorem M.prog_le {ll : List (List M.D)} (h : M.prog ll = true) : ll.length ≤ 3 ∧ ∀ t ∈ ll, t.length ≤ 7 := by
  simp only [M.prog, Bool.and_eq_true, decide_eq_true_eq] at h
  exact ⟨h.1, M.from_le h.2⟩
theorem M.tot_step {f : Int → Bool} {l : List (List M.D)} {m n : Nat} {t : List M.D} (hp : M.tot f l = m + M.tot f (l.drop n)) (hd : l.drop n = t :: l.drop (n + 1)) : M.tot f l = (m + M.cnt f t) + M.tot f (l.drop (n + 1)) := by
  rw [hp, hd, M.tot]; omega
theorem M.tot_fin {f : Int → Bool} {l : List (List M.D)} {m n : Nat} (hp : M.tot f l = m + M.tot f (l.drop n)) (hn : l.length ≤ n) : m = M.tot f l := by
  rw [hp, List.drop_eq_nil_of_le hn]; rfl
theorem M.nreads_ok {ll : List (List M.D)} (h : M.prog ll = true) : M.nreads ll = M.tot M.reads ll := by simp [M.nreads, h]
theorem M.nreads_no {ll : List (List M.D)} (h : M.prog ll = false) : M.nreads ll = -1 := by simp [M.nreads, h]


end Go.Proofs.Ytflmejjhnkpodaa
