/- slices.SortFunc at what was seen: in order. Of at most 1048576, each of at most 1048576 numbers. -/
import Derived.Test.YtkbjdhjcbhdpmabSoCo
import Derived.Test.YtkbjdhjcbhdpmabSoLay
namespace Go.Proofs.Ytkbjdhjcbhdpmab
open Go.RowKit Go.Sort

/-- One that lies outside the row. -/
abbrev OffIn (w : World) (g : Nat) := { s : Sn // Off w g s }
def offOf (w : World) (g : Nat) : OffIn w g := ⟨⟨none, 0, 0, 0, [], none, 0, 0, 0, []⟩, ⟨⟨IntS.nil _ _ _ _, IntS.nil _ _ _ _⟩, ⟨Nat.zero_le _, Nat.zero_le _⟩, fun h => absurd h (Nat.lt_irrefl _), fun h => absurd h (Nat.lt_irrefl _)⟩⟩
def encS {w : World} {g : Nat} (x : OffIn w g) : List Value := [.slice x.1.a1 x.1.l1.length x.1.c1, .slice x.1.a2 x.1.l2.length x.1.c2]
def cfS {w : World} {g : Nat} (x y : OffIn w g) : Int := M.cmpS x.1.l1 x.1.l2 y.1.l1 y.1.l2

theorem swoS {w : World} {g : Nat} : SWO (ltOf (cfS (w := w) (g := g))) := by
  refine ⟨fun x => ?_, fun x y z h1 h2 => ?_, fun x y z h1 h2 => ?_⟩
  · have := M.cmpK_self x.1.ky
    show decide (M.cmpK x.1.ky x.1.ky < 0) = false
    rw [this]; rfl
  · simp only [ltOf, decide_eq_true_eq] at *
    exact M.cmpS_trans h1 h2
  · simp only [ltOf, decide_eq_false_iff_not, Int.not_lt] at *
    have a1 : M.cmpK y.1.ky x.1.ky ≤ 0 := by rw [M.cmpK_neg x.1.ky y.1.ky]; have : 0 ≤ M.cmpK x.1.ky y.1.ky := h1; omega
    have a2 : M.cmpK z.1.ky y.1.ky ≤ 0 := by rw [M.cmpK_neg y.1.ky z.1.ky]; have : 0 ≤ M.cmpK y.1.ky z.1.ky := h2; omega
    have a3 := M.cmpK_le_trans a2 a1
    have a4 := M.cmpK_neg x.1.ky z.1.ky
    show 0 ≤ M.cmpK x.1.ky z.1.ky
    omega

theorem sortW_but {α : Type} [Inhabited α] (enc : α → List Value) (w : World) (g m : Nat) (d : Array α) (os : Array Obj) : But g w (sortWorldK enc 2 w g 0 m d os) := by
  refine ⟨rfl, rfl, rfl, by simp [sortWorldK, putRowK], fun k hk hne => ?_⟩
  unfold sortWorldK
  rw [heap_grow_old _ _ (by simpa [putRowK] using hk)]
  show ((Sort.ahead w m).heap.modify g _)[k]? = _
  rw [Array.getElem?_modify, if_neg (fun e => hne e.symm)]
  rfl

set_option maxHeartbeats 1000000 in
set_option maxRecDepth 100000 in
theorem sort_any (g cap : Nat) (ss : List Sn) (w : World) (hn : ss.length ≤ 1048576) (hl : 0 < ss.length) (h : SR w g ss) (hgd : ∀ s ∈ ss, Off w g s) :
    Calls Try.prog 31 #[.slice (some ⟨g, 0, none⟩) ss.length cap, .func (.func 20) #[] #[]] w fun e w' => e = .returned (.tuple #[]) ∧ ∃ tt : List Sn, tt.length = ss.length ∧ tt.Perm ss ∧ M.Ord (kys tt) ∧ SR w' g tt ∧ (∀ s ∈ tt, Off w' g s) ∧ But g w w' := by
  have hg := h.lt hl
  haveI : Inhabited (OffIn w g) := ⟨offOf w g⟩
  obtain ⟨d, hd⟩ : ∃ d : Array (OffIn w g), d = (ss.attachWith (Off w g) hgd).toArray := ⟨_, rfl⟩
  have hds : d.size = ss.length := by rw [hd]; simp
  have hdl : d.toList.map Subtype.val = ss := by rw [hd]; simp
  have hget : ∀ i (hi : i < ss.length), (d[i]!).1 = ss[i] := fun i hi => by
    rw [getElem!_pos d i (by omega)]
    subst hd
    simp
  have hH : HoldsK (encS (w := w) (g := g)) 2 w g 0 d := fun j hj => by
    have hj' : j < d.size * 2 := by simpa using hj
    refine ⟨?_, h.fz _⟩
    rw [Nat.zero_add]
    have hc := h.c (j / 2) (by omega)
    have e := hget (j / 2) (by omega)
    show _ = some (id (flatK encS 2 d)[j]!)
    rw [get_flatK _ _ _ _ hj']
    simp only [encS, e, id]
    rcases Nat.mod_two_eq_zero_or_one j with hm | hm
    · rw [hm]
      have : j = j / 2 * 2 := by omega
      rw [show w.cell? ⟨g, j, none⟩ = w.cell? ⟨g, j / 2 * 2, none⟩ by rw [← this], hc.1]; rfl
    · rw [hm]
      have : j = j / 2 * 2 + 1 := by omega
      rw [show w.cell? ⟨g, j, none⟩ = w.cell? ⟨g, j / 2 * 2 + 1, none⟩ by rw [← this], hc.2]; rfl
  have eg : ∀ args w, (callFunc 20 args).run Try.prog w = .ok (.enter 20 args) w := enters_of Try.func20 (by kernel_rfl) rfl
  have hcmp : CmpLays Try.prog 20 #[] (encS (w := w) (g := g)) 2 cfS g 0 d.size w := fun m os dk _ x y => by
    have hb := sortW_but (encS (w := w) (g := g)) w g m dk os
    refine (compareSeen_any x.1 y.1 _ x.2.le y.2.le (x.2.but hb).at_ (y.2.but hb).at_).mono ?_
    rintro e w' ⟨rfl, hgr⟩
    exact ⟨rfl, hgr.grow⟩
  have hcon := AnyQ.slices_SortFunc Try.laysSortSn 2 Try.isAgg35 Try.sizeOf35 (encS (w := w) (g := g)) (fun _ => rfl) (fun x v hv => by simp [encS] at hv; rcases hv with rfl | rfl <;> rfl) cfS swoS 20 #[] g 0 cap d w eg hcmp hH hg (by omega)
  rw [hds] at hcon
  refine hcon.mono ?_
  rintro e w' ⟨rfl, d', n, os, hperm, hsorted, rfl⟩
  obtain ⟨hsz, _, hpm⟩ := hperm
  have hsz' : d'.size = ss.length := hsz.trans hds
  have hb := sortW_but (encS (w := w) (g := g)) w g n d' os
  have hget' : ∀ i (hi : i < ss.length) (hi' : i < (d'.toList.map Subtype.val).length), (d'.toList.map Subtype.val)[i] = (d'[i]!).1 := fun i hi hi' => by
    rw [getElem!_pos d' i (by omega)]
    simp
  refine ⟨rfl, d'.toList.map Subtype.val, by simp [hsz'], ?_, ?_, ⟨fun i hi => ?_, fun j => ?_⟩, ?_, hb⟩
  · have e1 : (d'.extract 0 ss.length).toList = d'.toList := by rw [← hsz']; simp
    have e2 : (d.extract 0 ss.length).toList = d.toList := by rw [← hds]; simp
    rw [e1, e2] at hpm
    have := hpm.map Subtype.val
    rwa [hdl] at this
  · unfold M.Ord kys
    rw [List.pairwise_iff_getElem]
    intro i j hi hj hij
    simp only [List.length_map, Array.length_toList] at hi hj
    have hs := hsorted i j (Nat.zero_le _) hij (by omega)
    simp only [ltOf, decide_eq_false_iff_not, Int.not_lt] at hs
    rw [getElem!_pos d' i (by omega), getElem!_pos d' j (by omega)] at hs
    simp only [List.getElem_map, Array.getElem_toList]
    have hn2 := M.cmpK_neg (d'[j].1.ky) (d'[i].1.ky)
    have hs' : 0 ≤ M.cmpK d'[j].1.ky d'[i].1.ky := hs
    omega
  · have hi' : i < ss.length := by simpa [hsz'] using hi
    rw [hget' i hi' hi]
    have hH' : HoldsK (encS (w := w) (g := g)) 2 (sortWorldK encS 2 w g 0 n d' os) g 0 d' := by
      unfold sortWorldK
      exact holdsK_grow _ _ _ _ _ _ _ (by simpa [putRowK] using hg) (holdsK_putRowK _ _ _ _ _ d d' (holdsK_ahead _ _ _ _ _ _ _ hH) hsz)
    have c0 := (hH' (i * 2) (by simp; omega)).1
    have c1 := (hH' (i * 2 + 1) (by simp; omega)).1
    rw [Nat.zero_add] at c0 c1
    refine ⟨c0.trans ?_, c1.trans ?_⟩
    · rw [get_flatK _ _ _ _ (by omega), show i * 2 / 2 = i by omega, show i * 2 % 2 = 0 by omega]; rfl
    · rw [get_flatK _ _ _ _ (by omega), show (i * 2 + 1) / 2 = i by omega, show (i * 2 + 1) % 2 = 1 by omega]; rfl
  · unfold sortWorldK
    rw [frozen?_grow _ _ _ (by simpa [putRowK] using hg)]
    show (putRow id _ _ _ _).frozen? _ = _
    rw [frozen?_putRow]
    exact h.fz j
  · intro s hs
    obtain ⟨x, _, rfl⟩ := List.mem_map.1 hs
    exact x.2.but hb

end Go.Proofs.Ytkbjdhjcbhdpmab
