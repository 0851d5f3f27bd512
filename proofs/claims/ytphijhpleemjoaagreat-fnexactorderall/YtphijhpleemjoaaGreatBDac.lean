/- The law's own sizing, copying and comparing of numbers: laws.szIntS, toIntS, eqIntS. Of lists of at most 1048576 numbers (sizing: of at most 9223372036854775807). And what goes with it: IntConv, SnConv, SnLs, Front0, Front. -/
import Derived.Test.YtphijhpleemjoaaGreatBAae
import Derived.Deep.QuietTactic
import Derived.BigQuiet
import Derived.Deep.OwnRows
import Derived.Test.YtphijhpleemjoaaGreatRows
import Derived.ProofKit
import Derived.Deep.Slices
import Derived.Test.YtphijhpleemjoaaGreatBAax
import Derived.Test.YtphijhpleemjoaaGreatBDab
namespace Go.Proofs.YtphijhpleemjoaaGreat
open Go.RowKit
theorem IntS.other {w : World} {a : Option Addr} {b o B i : Nat} {l : List Int} {u : Value} (h : IntS w a b o l) (hb : b ≠ B) : IntS (w.setCell ⟨B, i, none⟩ u) a b o l :=
 ⟨h.addr, fun j hj => by rw [World.cell?_setCell_other _ _ _ _ (fun e => hb (congrArg Addr.block e).symm)]; exact h.row j hj⟩
set_option maxHeartbeats 400000 in
theorem eqIntS_same (a : Option Addr) (b o c : Nat) (a2 : Option Addr) (b2 o2 c2 : Nat) (l : List Int) (w : World) (hl : l.length ≤ 1048576) (h : IntS w a b o l) (h2 : IntS w a2 b2 o2 l) :
  Calls Tryz.prog 125 #[.slice a l.length c, .slice a2 l.length c2] w fun e w' => e = .returned (.bool true) ∧ Grown w w' := by
 go_enter Tryz.func125, Tryz.ntmps125
 go_wp2_with fail
 go_loopw [5] (fun s5 wr => ∃ n : Nat, s5 = .int .i64 n ∧ n ≤ l.length ∧ Grown w wr) (fun s5 _ => l.length - (intOf s5).toNat)
 case atStart => exact ⟨0, rfl, Nat.zero_le _, Grown.refl _⟩
 case round =>
  obtain ⟨n, rfl, hn, hg⟩ := hrel
  by_cases hlt : n < l.length
  ·obtain ⟨rfl⟩ := h.addr (by omega)
   obtain ⟨rfl⟩ := h2.addr (by omega)
   have hd := (h.below hg.bel (Nat.le_refl _)).row n hlt
   have hd2 := (h2.below hg.bel (Nat.le_refl _)).row n hlt
   generalize l[n] = x at hd hd2
   have i1 : (n : Int) < l.length := by omega
   go_wp2_with fail
   go_quiet (fail)
   go_wp2_with fail
   exact ⟨⟨n + 1, by go_num, by omega, hg.drewN _⟩, by simp [intOf]; omega⟩
  ·go_wp2_with fail
   go_ret
   exact ⟨rfl, hg⟩
end Go.Proofs.YtphijhpleemjoaaGreat
namespace Go.Proofs.YtphijhpleemjoaaGreat
open Go.RowKit
set_option maxHeartbeats 400000 in
theorem eqSeen_same (s t : Sn) (w : World) (hl : s.Le 1048576) (h1 : t.l1 = s.l1) (h2 : t.l2 = s.l2) (hs : s.At w) (ht : t.At w) :
  Calls Tryz.prog 74 #[.agg #[.slice s.a1 s.l1.length s.c1, .slice s.a2 s.l2.length s.c2], .agg #[.slice t.a1 t.l1.length t.c1, .slice t.a2 t.l2.length t.c2]] w fun e w' => e = .returned (.bool true) ∧ Grown w w' := by
 obtain ⟨a1, b1, o1, c1, l1, a2, b2, o2, c2, l2⟩ := s
 obtain ⟨d1, e1, f1, g1, m1, d2, e2, f2, g2, m2⟩ := t
 simp only at h1 h2
 subst h1; subst h2
 have hga := hs.grown (alloc2 w (.cells #[.slice a1 m1.length c1, .slice a2 m2.length c2] 40) (.cells #[.slice d1 m1.length g1, .slice d2 m2.length g2] 40))
 have hgb := ht.grown (alloc2 w (.cells #[.slice a1 m1.length c1, .slice a2 m2.length c2] 40) (.cells #[.slice d1 m1.length g1, .slice d2 m2.length g2] 40))
 obtain ⟨as1, as2⟩ := hga
 obtain ⟨at1, at2⟩ := hgb
 obtain ⟨hl1, hl2⟩ := hl
 simp only at as1 as2 at1 at2 hl1 hl2
 go_enter Tryz.func74, Tryz.ntmps74
 go_wp2_with fail
 refine (eqIntS_same a1 b1 o1 c1 d1 e1 f1 g1 m1 _ hl1 as1 at1).mono ?_
 rintro e w1 ⟨rfl, hg1⟩
 obtain ⟨hc1, hf1⟩ := bcell hg1.bel
 go_wp2_with fail
 refine (eqIntS_same a2 b2 o2 c2 d2 e2 f2 g2 m2 _ hl2 (as2.below hg1.bel (Nat.le_refl _)) (at2.below hg1.bel (Nat.le_refl _))).mono ?_
 rintro e w2 ⟨rfl, hg2⟩
 go_wp2_with fail
 go_ret
 exact ⟨rfl, ((alloc2 w _ _).trans hg1).trans hg2⟩
end Go.Proofs.YtphijhpleemjoaaGreat
namespace Go.Proofs.YtphijhpleemjoaaGreat
open Go.RowKit
theorem cell_far {w : World} {b i j : Nat} {u : Value} (h : i ≠ j) : (w.setCell ⟨b, i, none⟩ u).cell? ⟨b, j, none⟩ = w.cell? ⟨b, j, none⟩ :=
 World.cell?_setCell_other _ _ _ _ (fun e => h (by have := congrArg Addr.off e; simp at this; omega))
set_option maxHeartbeats 400000 in
set_option maxRecDepth 100000 in
theorem eqSeenS_same (a : Option Addr) (b o c : Nat) (a2 : Option Addr) (b2 o2 c2 : Nat) (ks : List Key) (w : World) (hl : ks.length ≤ 1048576) (hls : KLe ks 1048576) (h : KS w a b o ks) (h2 : KS w a2 b2 o2 ks) :
  Calls Tryz.prog 34 #[.slice a ks.length c, .slice a2 ks.length c2] w fun e w' => e = .returned (.bool true) ∧ Below w.heap.size w w' := by
 go_enter Tryz.func34, Tryz.ntmps34
 go_wp2_with fail
 go_loopw [5] (fun s5 wr => ∃ n : Nat, s5 = .int .i64 n ∧ n ≤ ks.length ∧ Below w.heap.size w wr) (fun s5 _ => ks.length - (intOf s5).toNat)
 case atStart => exact ⟨0, rfl, Nat.zero_le _, Below.refl _ _⟩
 case round =>
  obtain ⟨n, rfl, hn, hbel⟩ := hrel
  by_cases hlt : n < ks.length
  ·obtain ⟨rfl⟩ := h.addr (by omega)
   obtain ⟨rfl⟩ := h2.addr (by omega)
   obtain ⟨s, s1, s2, x0, x1, hsa⟩ := (h.below hbel (Nat.le_refl _)).row n hlt
   obtain ⟨t, t1, t2, y0, y1, hta⟩ := (h2.below hbel (Nat.le_refl _)).row n hlt
   obtain ⟨e1, e2⟩ := hls _ (List.getElem_mem hlt)
   have i1 : (n : Int) < ks.length := by omega
   have C := fun p : BelowOf wr => (eqSeen_same s t p.x ⟨by rw [s1]; exact e1, by rw [s2]; exact e2⟩ (t1.trans s1.symm) (t2.trans s2.symm) (hsa.below p.h (Nat.le_refl _)) (hta.below p.h (Nat.le_refl _))).mono fun _ _ ⟨he, hg⟩ => (⟨he, hg.bel⟩ : _ ∧ Below p.x.heap.size p.x _)
   have K0 := BelowOf.cell x0
   have K1 := BelowOf.cell x1
   have K2 := BelowOf.cell y0
   have K3 := BelowOf.cell y1
   clear s1 s2 t1 t2 e1 e2 hsa hta
   go_wp2_with fail
   haveI : Inhabited (BelowOf wr) := ⟨belOf wr⟩
   refine wp_region_quiet_bel (by kernel_rfl) (by kernel_rfl) ?_
   repeat (quiet_step (first | (go_at_call 74; exact Calls.bel_of (C _))))
   refine wpQuiet_nil ?_
   rintro _ ⟨⟨wq, hwq⟩, rfl⟩
   go_wp2_with fail
   exact ⟨⟨n + 1, by go_num, by omega, hbel.trans (hwq.mono hbel.size)⟩, by simp [intOf]; omega⟩
  ·go_wp2_with fail
   go_ret
   exact ⟨rfl, hbel⟩
end Go.Proofs.YtphijhpleemjoaaGreat
namespace Go.Proofs.YtphijhpleemjoaaGreat
open Go.ChangeShapes Go.WideShapes Go.ChangeAt Go.RowKit Go.Deep
theorem one_of_size {cs : Array Value} (h : cs.size = 1) : ∃ u, cs = #[u] := by
 obtain ⟨l⟩ := cs
 match l, h with
 | [u], _ => exact ⟨u, rfl⟩
end Go.Proofs.YtphijhpleemjoaaGreat
namespace Go.Proofs.YtphijhpleemjoaaGreat
open Go.ChangeShapes Go.WideShapes Go.ChangeAt Go.RowKit Go.Deep
theorem field_one {H : Type} {enc : TypeId × Value → H} {w : World} {base n : Nat} {spare : Nat → Bool} {held : Bool} {u : Value} {y : DataW H × List MemPlace}
  (h : DataW.trod enc Tryz.prog w base spare held n 55 (((Value.agg #[u]).cells.toList.drop 0).take (Tryz.prog.cellsOf 55)) = some y) : DataW.trod enc Tryz.prog w base spare held n 55 [u] = some y := by
 simpa [Value.cells, Tryz.cells55] using h
end Go.Proofs.YtphijhpleemjoaaGreat
