/- Shapes, plainly. No condition. -/
import Derived.Test.YtoabfiocjjfjeaaMath
namespace Go.Proofs.Ytoabfiocjjfjeaa
namespace M

/-- A step that stores, and one that reads, made in a way. -/
def kst (h : Int) : Int := if h = 2 then 6 else 1
def kld (h : Int) : Int := if h = 2 then 5 else 2
theorem kst_yes {h : Int} (e : h = 2) : kst h = 6 := by simp [kst, e]
theorem kst_no {h : Int} (e : h ≠ 2) : kst h = 1 := by simp [kst, e]
theorem kld_yes {h : Int} (e : h = 2) : kld h = 5 := by simp [kld, e]
theorem kld_no {h : Int} (e : h ≠ 2) : kld h = 2 := by simp [kld, e]
def sst (h pl v : Int) : D := ⟨kst h, pl, v⟩
def sld (h pl : Int) : D := ⟨kld h, pl, 0⟩
/-- A shape's threads, ahead of walls and copies. -/
def raw (s h : Int) : List (List D) :=
  if s = 1 then [[sst h 0 1, sld h 1], [sst h 1 1, sld h 0]]
  else if s = 2 then [[sst 0 0 1, sst h 1 1], [sld h 1, sld 0 0]]
  else if s = 3 then [[sld h 0, sst h 1 1], [sld h 1, sst h 0 1]]
  else if s = 4 then [[sst h 0 1], [sld h 0, sld h 0]]
  else if s = 5 then [[sst h 0 2, sst h 1 1], [sst h 1 2, sst h 0 1]]
  else [[⟨7, 0, 0⟩, sld 0 1, sld 0 0, ⟨8, 0, 0⟩], [sst 0 0 1, ⟨9, 0, 0⟩, sst h 1 1]]
/-- Walls and copies. -/
def fin (h : Int) (l : List D) : List D :=
  match l with
  | [a, b] => if h = 1 then [a, ⟨4, 0, 0⟩, b] else if h = 3 ∧ reads a.k = true ∧ writes b.k = true then [a, ⟨3, b.p, 0⟩] else [a, b]
  | l => l
def shapeOk (s h : Int) : Bool := decide (1 ≤ s) && decide (s ≤ 6) && decide (0 ≤ h) && decide (h ≤ 3)
def shape (s h : Int) : Option (List (List D)) := if shapeOk s h then some ((raw s h).map (fin h)) else none
theorem fin_len (h : Int) (l : List D) (hl : l.length ≠ 2) : fin h l = l := by
  match l, hl with
  | [], _ => rfl
  | [a], _ => rfl
  | [a, b], hl => simp at hl
  | a :: b :: c :: l, _ => rfl
end M
end Go.Proofs.Ytoabfiocjjfjeaa
