/- spec's ways: the step of an event, whether a number is among others. Of at most 1048576 threads, steps and numbers. -/
import Derived.Test.YtdpnnghomfaleaaOkMath
import Derived.Test.YtdpnnghomfaleaaOkOrd
import Derived.Test.YtdpnnghomfaleaaQuietB
import Derived.Test.YtdpnnghomfaleaaLDo
import Derived.Deep.RegionHeld3
namespace Go.Proofs.Ytdpnnghomfaleaa
open Go.RowKit

set_option maxHeartbeats 1000000 in
set_option maxRecDepth 100000 in
theorem l12Do_any (a : Option Addr) (b o c : Nat) (ll : List (List M.D)) (t i : Nat) (last : Bool) (d : M.D) (w : World) (ht : t < ll.length) (hi : i < ll[t].length) (hd : ll[t][i] = d) (hl : ll.length ≤ 1048576) (hls : ll[t].length ≤ 1048576) (h : DoSS w a b o ll) :
    Calls Try.prog 66 #[.agg #[.slice a ll.length c], .agg #[.int .i64 t, .int .i64 i, .bool last]] w fun e w' => e = .returned (.agg #[.int .i64 d.k, .int .i64 d.p, .int .i64 d.v]) ∧ Below w.heap.size w w' := by
  obtain ⟨rfl⟩ := h.addr (by omega)
  obtain ⟨a', b', o', c', hc, hr⟩ := h.row t ht
  obtain ⟨rfl⟩ := hr.addr (by omega)
  obtain ⟨ck, cp, cv⟩ := hr.row i hi
  rw [hd] at ck cp cv
  generalize ll[t] = l at *
  have i1 : (t : Int) < ll.length := by omega
  have i2 : (i : Int) < l.length := by omega
  have lb := World.block_lt_of_cell? _ _ hc
  have lb' := World.block_lt_of_cell? _ _ ck
  simp only at lb lb'
  have hb2 := below2 w (.cells #[.slice (some ⟨b, o, none⟩) ll.length c] 34) (.cells #[.int .i64 t, .int .i64 i, .bool last] 61)
  have hb3 := hb2.trans ((below1 _ (.cells #[.int .i64 0, .int .i64 0, .int .i64 0] 58)).mono hb2.size)
  have hc3 := (hb3.cell (p := ⟨b, o + t, none⟩) lb).trans hc
  have ck3 := (hb3.cell (p := ⟨b', o' + i * 3, none⟩) lb').trans ck
  have cp3 := (hb3.cell (p := ⟨b', o' + i * 3 + 1, none⟩) lb').trans cp
  have cv3 := (hb3.cell (p := ⟨b', o' + i * 3 + 2, none⟩) lb').trans cv
  clear hc ck cp cv
  go_enter Try.func66, Try.ntmps66
  go_wp2_with fail
  go_region
  go_wp2_with fail
  have hb4 := hb2.trans ((below1 _ (.cells #[.int .i64 d.k, .int .i64 d.p, .int .i64 d.v] 58)).mono hb2.size)
  exact bodyPost_ret (v := .agg #[.int .i64 d.k, .int .i64 d.p, .int .i64 d.v]) (by simp [results, Try.results66, go_sem]) rfl ⟨rfl, hb4.drew⟩

/-- A step of a program, told by an event. -/
def M.OfEv (ll : List (List M.D)) (x : M.De) : Prop := ∃ (ht : x.t < ll.length) (hi : x.i < ll[x.t].length), ll[x.t][x.i] = x.d
theorem M.ofEv {ll : List (List M.D)} : ∀ x ∈ M.deeds ll, M.OfEv ll x := by
  have hT : ∀ (ll : List (List M.D)) (t : Nat) (ht : t < ll.length) (l : List M.D) (i : Nat) (lr : Int) (n : Nat), ll[t].drop i = l → ∀ x ∈ M.deT t i lr n l, M.OfEv ll x := by
    intro ll t ht l
    induction l with
    | nil => intro i lr n _ x hx; simp [M.deT] at hx
    | cons d l ih =>
      intro i lr n hd x hx
      have hi : i < ll[t].length := by
        rcases Nat.lt_or_ge i ll[t].length with h | h
        · exact h
        · rw [List.drop_eq_nil_of_le h] at hd; cases hd
      rw [← List.getElem_cons_drop hi] at hd
      obtain ⟨hd1, hd2⟩ := List.cons.inj hd
      rw [M.deT] at hx
      rcases List.mem_append.1 hx with hx | hx
      · have : x.t = t ∧ x.i = i ∧ x.d = d := by
          unfold M.deD at hx
          split at hx
          · simp only [List.mem_cons, List.not_mem_nil, or_false] at hx
            rcases hx with rfl | rfl <;> exact ⟨rfl, rfl, rfl⟩
          · simp only [List.mem_cons, List.not_mem_nil, or_false] at hx
            subst hx; exact ⟨rfl, rfl, rfl⟩
        obtain ⟨xt, xi, xl, xd, xr⟩ := x
        obtain ⟨rfl, rfl, rfl⟩ := this
        exact ⟨ht, hi, hd1⟩
      · exact ih _ _ _ hd2 x hx
  have hF : ∀ (ll : List (List M.D)) (l : List (List M.D)) (t n : Nat), ll.drop t = l → ∀ x ∈ M.deF t n l, M.OfEv ll x := by
    intro ll l
    induction l with
    | nil => intro t n _ x hx; simp [M.deF] at hx
    | cons d l ih =>
      intro t n hd x hx
      have ht : t < ll.length := by
        rcases Nat.lt_or_ge t ll.length with h | h
        · exact h
        · rw [List.drop_eq_nil_of_le h] at hd; cases hd
      rw [← List.getElem_cons_drop ht] at hd
      obtain ⟨hd1, hd2⟩ := List.cons.inj hd
      rw [M.deF] at hx
      rcases List.mem_append.1 hx with hx | hx
      · exact hT ll t ht d 0 _ _ (by rw [hd1]; rfl) x hx
      · exact ih _ _ hd2 x hx
  exact hF ll ll 0 0 rfl

/-- The events of a program, as a slice. -/
abbrev DvS (w : World) (va : Option Addr) (g : Nat) (ds : List M.De) : Prop := RS (fun x : M.De => x.ev.cells) 3 w va g ds
structure DvAt (w : World) (g o : Nat) (x : M.De) : Prop where
  c0 : w.cell? ⟨g, o, none⟩ = some (.int .i64 x.t)
  c1 : w.cell? ⟨g, o + 1, none⟩ = some (.int .i64 x.i)
  c2 : w.cell? ⟨g, o + 2, none⟩ = some (.bool x.last)
theorem DvS.at {w : World} {va : Option Addr} {g : Nat} {l : List M.De} (h : DvS w va g l) {n : Nat} (hn : n < l.length) : DvAt w g (n * 3) l[n] :=
  ⟨h.row n hn 0 (by omega), h.row n hn 1 (by omega), h.row n hn 2 (by omega)⟩
theorem DvS.bel {w w' : World} {va : Option Addr} {g B : Nat} {l : List M.De} (h : DvS w va g l) (hb : Below B w w') (hB : w.heap.size ≤ B) : DvS w' va g l := h.below (fun _ => rfl) hb hB
theorem DvS.of {w : World} {va : Option Addr} {g : Nat} {l : List M.De} (h : RS M.Ev.cells 3 w va g (l.map M.De.ev)) : DvS w va g l :=
  ⟨fun hl => h.addr (by simpa using hl), fun i hi j hj => by
    have := h.row i (by simpa using hi) j hj
    rw [this, List.getElem_map]⟩
/-- The step of an event that is told. -/
theorem l12Do_ev (a : Option Addr) (b o c : Nat) (ll : List (List M.D)) (x : M.De) (w : World) (hx : M.OfEv ll x) (hl : ll.length ≤ 1048576) (hls : ∀ t ∈ ll, t.length ≤ 1048576) (h : DoSS w a b o ll) :
    Calls Try.prog 66 #[.agg #[.slice a ll.length c], .agg #[.int .i64 x.t, .int .i64 x.i, .bool x.last]] w fun e w' => e = .returned (.agg #[.int .i64 x.d.k, .int .i64 x.d.p, .int .i64 x.d.v]) ∧ Below w.heap.size w w' := by
  obtain ⟨ht, hi, hd⟩ := hx
  exact l12Do_any a b o c ll x.t x.i x.last x.d w ht hi hd hl (hls _ (List.getElem_mem ht)) h

end Go.Proofs.Ytdpnnghomfaleaa
