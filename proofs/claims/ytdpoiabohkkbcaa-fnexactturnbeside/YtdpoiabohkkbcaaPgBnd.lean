/- Programs in rows of their own, kept while other rows are marked. No condition. -/
import Derived.Test.YtdpoiabohkkbcaaMarkR
import Derived.Test.YtdpoiabohkkbcaaMarkP
import Derived.Test.YtdpoiabohkkbcaaEq
namespace Go.Proofs.Ytdpoiabohkkbcaa
open Go.RowKit

theorem ownsRow_mk {P : Nat → Prop} {w w' : World} {B : Nat} {e : TypeId} {size : Nat} {v : Value} {n : Nat} {xs : List Value} (h : w.ownsRow B e size v n xs) (hm : Mk P w w') (hP : ∀ j, P j → j < B) : w'.ownsRow B e size v n xs := by
  obtain ⟨h1, h2⟩ := h
  refine ⟨h1, ?_⟩
  rcases h2 with h2 | ⟨g, cap, cur, hv, hg, hh, r⟩
  · exact Or.inl h2
  · exact Or.inr ⟨g, cap, cur, hv, hg, (hm.block g (fun hp => by have := hP g hp; omega)).trans hh, r⟩
theorem Rdg.mkFar {P : Nat → Prop} {w w' : World} {B : Nat} {v : Value} {ll : List (List M.D)} {vs : List Value} (h : Rdg w B v ll vs) (hm : Mk P w w') (hP : ∀ j, P j → j < B) : Rdg w' B v ll vs :=
  ⟨⟨ownsRow_mk h.b.outer hm hP, h.b.len, fun i h1 h2 => ownsRow_mk (h.b.inner i h1 h2) hm hP⟩, h.ap⟩
theorem Slot1.mkFar {P : Nat → Prop} {w w' : World} {b : Nat} {x : Value} (h : Slot1 w b x) (hm : Mk P w w') (hP : ¬ P b) : Slot1 w' b x := ⟨(hm.cell (p := ⟨b, 0, none⟩) hP).trans h.c, (hm.fz _).trans h.fz⟩
theorem Slot1.kb {w w' : World} {K b : Nat} {x : Value} (h : Slot1 w b x) (hb : Below K w w') (hK : b < K) : Slot1 w' b x :=
  ⟨(hb.cell (p := ⟨b, 0, none⟩) hK).trans h.c, (hb.frozen (p := ⟨b, 0, none⟩) hK).trans h.fz⟩
theorem DoSS.kb {w w' : World} {a : Option Addr} {K b o : Nat} {ll : List (List M.D)} (h : DoSS w a b o ll) (hb : Below K w w') (hK : w.heap.size ≤ K) : DoSS w' a b o ll := h.below hb hK
theorem calls_bel' {P : Program} {f : FuncId} {args : Array Value} {W : World} {v : Value} (h : Calls P f args W fun e w' => e = .returned v ∧ Grown W w') : Calls P f args W fun e w' => e = .returned v ∧ Below W.heap.size W w' := h.mono fun _ _ ⟨he, hg⟩ => ⟨he, hg.bel⟩
end Go.Proofs.Ytdpoiabohkkbcaa
