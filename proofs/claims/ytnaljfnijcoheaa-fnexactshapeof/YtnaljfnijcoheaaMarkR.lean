/- A program in rows of its own is marked, and whether the marks stand: laws.markProg, heldProg. -/
import Derived.Test.YtnaljfnijcoheaaMarkE
import Derived.Test.YtnaljfnijcoheaaRdM
namespace Go.Proofs.Ytnaljfnijcoheaa
open Go.RowKit

def rqOf : Value → Rq
  | .slice a n c => ⟨a, (a.map Addr.block).getD 0, n, c⟩
  | _ => ⟨none, 0, 0, 0⟩

theorem Rdg.rw_ {w : World} {B : Nat} {v : Value} {ll : List (List M.D)} {vs : List Value} (h : Rdg w B v ll vs) :
    ∃ (a : Option Addr) (g c : Nat) (rs : List Rq), v = .slice a ll.length c ∧ Hid (rs.length = ll.length) ∧ (∀ r ∈ rs, ∃ t ∈ ll, r.n = t.length) ∧ Rw w a g rs ∧ (∀ k, InR rs k → B ≤ k) ∧ DoSS w a g 0 ll := by
  obtain ⟨a, g, c, rfl, hss⟩ := h.b.ss
  have hlen := h.b.len
  have key : ∀ i (hi : i < vs.length), ∃ ai gi ci, vs[i] = .slice ai (ll[i]'(by omega)).length ci ∧ DoS w ai gi 0 (ll[i]'(by omega)) ∧ (0 < (ll[i]'(by omega)).length → B ≤ gi ∧ ai = some ⟨gi, 0, none⟩ ∧ ∀ j, w.frozen? ⟨gi, j, none⟩ = false) := by
    intro i hi
    have ho := h.b.inner i (by omega) hi
    obtain ⟨ai, gi, ci, e, hd, hg⟩ := own_steps ho
    refine ⟨ai, gi, ci, e, hd, fun hp => ?_⟩
    obtain rfl := hd.addr hp
    refine ⟨hg hp, rfl, fun j => ?_⟩
    rw [e] at ho
    exact own_fzS ho j
  refine ⟨a, g, c, vs.map rqOf, rfl, (by simp [hlen] : (vs.map rqOf).length = ll.length), ?_, ⟨?_, ?_, ?_, ?_, ?_, ?_⟩, ?_, hss⟩
  · intro r hr
    obtain ⟨v, hv, rfl⟩ := List.mem_map.1 hr
    obtain ⟨i, hi, rfl⟩ := List.getElem_of_mem hv
    obtain ⟨ai, gi, ci, e, _, _⟩ := key i hi
    exact ⟨_, List.getElem_mem (show i < ll.length by omega), by rw [e]; rfl⟩
  · intro hp
    exact hss.addr (by simpa [hlen] using hp)
  · intro i hi
    have hi' : i < vs.length := by simpa using hi
    obtain ⟨ai, gi, ci, e, _, _⟩ := key i hi'
    obtain rfl := hss.addr (by omega)
    have := h.b.outer.cells (g := g) rfl i vs[i] (List.getElem?_eq_getElem hi')
    rw [Go.WideShapes.add_plain] at this
    rw [List.getElem_map, e]
    rw [e] at this
    simpa [rqOf] using this
  · intro i hi hn
    have hi' : i < vs.length := by simpa using hi
    obtain ⟨ai, gi, ci, e, _, hp⟩ := key i hi'
    rw [List.getElem_map, e] at hn ⊢
    obtain ⟨_, rfl, _⟩ := hp hn
    rfl
  · intro i hi hn j
    have hi' : i < vs.length := by simpa using hi
    obtain ⟨ai, gi, ci, e, _, hp⟩ := key i hi'
    rw [List.getElem_map, e] at hn ⊢
    obtain ⟨_, rfl, hf⟩ := hp hn
    exact hf j
  · intro i hi j hj
    have hi' : i < vs.length := by simpa using hi
    obtain ⟨ai, gi, ci, e, hd, hp⟩ := key i hi'
    rw [List.getElem_map, e] at hj ⊢
    have hj' : j < (ll[i]'(by omega)).length * 3 := hj
    obtain ⟨_, rfl, _⟩ := hp (by omega)
    have hr := hd.row (j / 3) (by omega)
    rcases Nat.lt_or_ge (j % 3) 1 with h0 | h0
    · exact ⟨_, by rw [show j = 0 + j / 3 * 3 from by omega]; exact hr.k⟩
    · rcases Nat.lt_or_ge (j % 3) 2 with h1 | h1
      · exact ⟨_, by rw [show j = 0 + j / 3 * 3 + 1 from by omega]; exact hr.p⟩
      · exact ⟨_, by rw [show j = 0 + j / 3 * 3 + 2 from by omega]; exact hr.v⟩
  · intro i j hi hj hne hni hnj
    have hi' : i < vs.length := by simpa using hi
    have hj' : j < vs.length := by simpa using hj
    obtain ⟨ai, gi, ci, e, _, hp⟩ := key i hi'
    obtain ⟨aj, gj, cj, e2, _, hp2⟩ := key j hj'
    have hap := h.ap i j hi' hj' hne
    rw [e, e2] at hap
    rw [List.getElem_map, e] at hni ⊢
    rw [List.getElem_map, e2] at hnj ⊢
    obtain ⟨_, rfl, _⟩ := hp hni
    obtain ⟨_, rfl, _⟩ := hp2 hnj
    intro e3
    exact hap gi rfl (by have e4 : gi = gj := e3; rw [e4]; rfl)
  · rintro k ⟨i, hi, hn, rfl⟩
    have hi' : i < vs.length := by simpa using hi
    obtain ⟨ai, gi, ci, e, _, hp⟩ := key i hi'
    rw [List.getElem_map, e] at hn ⊢
    obtain ⟨hg, rfl, _⟩ := hp hn
    exact hg

theorem Rw.below {w w' : World} {a : Option Addr} {g : Nat} {rs : List Rq} (h : Rw w a g rs) (hb : Below w.heap.size w w') : Rw w' a g rs :=
  ⟨h.addr, fun i hi => (hb.cell (World.block_lt_of_cell? _ _ (h.outer i hi))).trans (h.outer i hi), h.at_,
   fun i hi hn j => by
    obtain ⟨x, hx⟩ := h.ints i hi 0 (by omega)
    exact (hb.frozen (p := ⟨rs[i].b, j, none⟩) (show rs[i].b < w.heap.size from World.block_lt_of_cell? _ _ hx)).trans (h.fz i hi hn j),
   fun i hi j hj => by
    obtain ⟨x, hx⟩ := h.ints i hi j hj
    exact ⟨x, (hb.cell (World.block_lt_of_cell? _ _ hx)).trans hx⟩, h.ap⟩
theorem Mkd.below {w w' : World} {rs : List Rq} {m : Nat} (h : Mkd w rs m) (hb : Below w.heap.size w w') : Mkd w' rs m :=
  fun i hi him j hj => (hb.cell (World.block_lt_of_cell? _ _ (h i hi him j hj))).trans (h i hi him j hj)

set_option maxHeartbeats 400000 in
theorem markProgv_any (a : Option Addr) (g c : Nat) (rs : List Rq) (w : World) (hl : rs.length ≤ 1048576) (hls : ∀ r ∈ rs, r.n ≤ 1048576) (h : Rw w a g rs) :
    Calls Try.prog 24 #[.agg #[.slice a rs.length c], .int .i64 1] w fun e w' => e = .returned (.int .i64 (1 + totq rs * 3)) ∧ Mkd w' rs rs.length ∧ Mk (InR rs) (w.alloc (.cells #[.slice a rs.length c] 25)) w' := by
  have hb1 := below1 w (.cells #[.slice a rs.length c] 25)
  have C := markDoSSv_any a g c rs _ hl hls (h.below hb1)
  go_enter Try.func24, Try.ntmps24
  go_wp2_with fail
  refine C.mono ?_
  rintro e w1 ⟨rfl, hd, hmk⟩
  go_wp2_with fail
  go_ret
  exact ⟨rfl, hd, hmk⟩

set_option maxHeartbeats 400000 in
theorem heldProg_any (a : Option Addr) (g c : Nat) (rs : List Rq) (w : World) (hl : rs.length ≤ 1048576) (hls : ∀ r ∈ rs, r.n ≤ 1048576) (h : Rw w a g rs) (hd : Mkd w rs rs.length) :
    Calls Try.prog 30 #[.agg #[.slice a rs.length c], .int .i64 1] w fun e w' => e = .returned (.int .i64 (1 + totq rs * 3)) ∧ Below w.heap.size w w' := by
  have hb1 := below1 w (.cells #[.slice a rs.length c] 25)
  have C := heldDoSS_any a g c rs _ hl hls (h.below hb1) (hd.below hb1)
  have hT := totq_le hls
  generalize totq rs = T at *
  have i2 : ¬ (1 + (T : Int) * 3 < 0) := by omega
  go_enter Try.func30, Try.ntmps30
  go_wp2_with fail
  refine C.mono ?_
  rintro e w1 ⟨rfl, rfl⟩
  go_wp2_with fail
  go_ret
  exact ⟨rfl, hb1⟩
end Go.Proofs.Ytnaljfnijcoheaa
