/- impl.OrderHas: what must be ahead of what by itself. Of at most 1048576 threads, steps, numbers and rows. -/
import Derived.Test.YtmhpgdliaclokaaGreatRows
import Derived.Test.YtmhpgdliaclokaaGreatQzbc
namespace Go.Proofs.YtmhpgdliaclokaaGreat
section
open Go.RowKit
theorem hasEvent_any (va:Option Addr) (c:Nat) (ds:List M.De) (v1 v2:Value) (n:Int) (w:World):Calls Tryz.prog 44 #[.agg #[.slice va ds.length c,v1,v2],.int .i64 n] w fun e w'=>e=.returned (.bool (decide (0≤n)&&decide (n < ds.length)))∧Below w.heap.size w w':=by
 by_cases h1:0≤n
 ·go_enter Tryz.func44,Tryz.ntmps44
  go_wp2_with fail
  go_ret
  exact ⟨ret_bool (by simp [h1]),below1 _ _⟩
 ·have h1':decide (0≤n)=false:=by simpa using h1
  go_enter Tryz.func44,Tryz.ntmps44
  go_wp2_with fail
  go_ret
  exact ⟨ret_bool (by simp),below1 _ _⟩
namespace M
def inR (n:Int) (m:Nat):Bool:=decide (0≤n)&&decide (n < m)
def orderHas (ll:List (List D)) (l:List Int) (rows:List (List Int)) (kind a b:Int):Bool :=
 (decide (1≤kind)&&decide (kind≤3))&&(execOk ll l rows&&(inR a (deeds ll).length&&(inR b (deeds ll).length&&mustAt (deeds ll) l rows kind.toNat a.toNat b.toNat)))
end M
set_option maxHeartbeats 1000000 in
set_option maxRecDepth 100000 in
theorem iorderHas_any (a : Option Addr) (b o c : Nat) (ll : List (List M.D)) (fa : Option Addr) (fb fo fc : Nat) (l : List Int) (ra : Option Addr) (rb ro rc : Nat) (rows : List (List Int)) (kind na nb : Int) (w : World) (hl : ll.length ≤ 1048576) (hls : ∀ t ∈ ll, t.length ≤ 1048576) (hl1 : l.length ≤ 1048576) (hl2 : rows.length ≤ 1048576) (hrs : ∀ r ∈ rows, r.length ≤ 1048576) (h : DoSS w a b o ll) (hf : IntS w fa fb fo l) (hr : IntSS w ra rb ro rows) :
    Calls Tryz.prog 13 #[.agg #[.slice a ll.length c], .agg #[.slice fa l.length fc, .slice ra rows.length rc], .int .i64 kind, .int .i64 na, .int .i64 nb] w fun e w' => e = .returned (.bool (M.orderHas ll l rows kind na nb)) ∧ Below w.heap.size w w' := by
  have hb1 := below2 w (.cells #[.slice a ll.length c] 25) (.cells #[.slice fa l.length fc, .slice ra rows.length rc] 29)
  have kp : ((w.alloc (.cells #[.slice a ll.length c] 25)).alloc (.cells #[.slice fa l.length fc, .slice ra rows.length rc] 29)).cell? ⟨w.heap.size, 0, none⟩ = some (.slice a ll.length c) := by simp
  have k0 : ((w.alloc (.cells #[.slice a ll.length c] 25)).alloc (.cells #[.slice fa l.length fc, .slice ra rows.length rc] 29)).cell? ⟨w.heap.size + 1, 0, none⟩ = some (.slice fa l.length fc) := by simp
  have k1 : ((w.alloc (.cells #[.slice a ll.length c] 25)).alloc (.cells #[.slice fa l.length fc, .slice ra rows.length rc] 29)).cell? ⟨w.heap.size + 1, 1, none⟩ = some (.slice ra rows.length rc) := by simp
  have hp1 := h.below hb1 (Nat.le_refl _)
  have hf1 := hf.below hb1 (Nat.le_refl _)
  have hr1 := hr.below hb1 (Nat.le_refl _)
  clear h hf hr
  cases hk : (decide (1 ≤ kind) && decide (kind ≤ 3))
  · go_enter Tryz.func13, Tryz.ntmps13
    go_wp2_with (go_at_call 42; refine (isOrder_any kind _).mono ?_; rw [hk]; rintro e w' ⟨rfl, rfl⟩)
    go_ret
    exact ⟨ret_bool (by simp only [M.orderHas, hk, Bool.false_and]), hb1⟩
  · have C1 := iexecOk_any a b o c ll fa fb fo fc l ra rb ro rc rows _ hl hls hl1 hl2 hrs hp1 hf1 hr1
    cases hok : M.execOk ll l rows
    · rw [hok] at C1
      go_enter Tryz.func13, Tryz.ntmps13
      go_wp2_with (first | (go_at_call 42; refine (isOrder_any kind _).mono ?_; rw [hk]; rintro e w' ⟨rfl, rfl⟩) | (go_at_call 43; refine C1.mono ?_; rintro e w1 ⟨rfl, hb2⟩))
      go_ret
      exact ⟨ret_bool (by simp only [M.orderHas, hok, Bool.false_and, Bool.and_false]), hb1.trans (hb2.mono hb1.size)⟩
    · rw [hok] at C1
      have hW := M.wok_of hok
      have HO : Hid (M.orderHas ll l rows kind na nb = (M.inR na (M.deeds ll).length && (M.inR nb (M.deeds ll).length && M.mustAt (M.deeds ll) l rows kind.toNat na.toNat nb.toNat))) := by show _ = _; simp only [M.orderHas, hk, hok, Bool.true_and]
      obtain ⟨h3, h7⟩ := M.prog_bounds hW.prog
      have hdl := M.deeds_len h3 h7
      go_enter Tryz.func13, Tryz.ntmps13
      go_wp2_with (go_at_call 42; refine (isOrder_any kind _).mono ?_; rw [hk]; rintro e w' ⟨rfl, rfl⟩)
      refine C1.mono ?_
      rintro e w1 ⟨rfl, hb2⟩
      have hb12 := hb1.trans (hb2.mono hb1.size)
      have lt0 : w.heap.size + 1 < w1.heap.size := by have := hb2.size; simp only [World.size_alloc] at this; omega
      have kp1 := cellB hb2 kp
      have k01 := cellB hb2 k0
      have k11 := cellB hb2 k1
      have hp2 := hp1.below hb2 (Nat.le_refl _)
      have hf2 := hf1.below hb2 (Nat.le_refl _)
      have hr2 := hr1.below hb2 (Nat.le_refl _)
      clear kp k0 k1 hp1 hf1 hr1 C1 hb1 hb2
      go_wp2_with fail
      have N0 : w1.heap.size ≠ w.heap.size := by omega
      have N1 : w1.heap.size ≠ w.heap.size + 1 := by omega
      go_region_held3 (fun w' => w'.cell? ⟨w.heap.size, 0, none⟩ = some (.slice a ll.length c) ∧ w'.cell? ⟨w.heap.size + 1, 0, none⟩ = some (.slice fa l.length fc) ∧ w'.cell? ⟨w.heap.size + 1, 1, none⟩ = some (.slice ra rows.length rc)) (go_keep) (first | (go_at_call 39; refine (deedsOf_any a b o c ll _ h3 h7 (hp2.below (by first | exact (Below.refl _ _).drew | exact (below1 _ _).drew) (Nat.le_refl _))).mono ?_; rintro e w2 ⟨v2, rfl, hown, hb3⟩; obtain ⟨va, g, cap, rfl, hds, hgB, _⟩ := own_rs M.De.len hown; have hW2 : Below w1.heap.size w1 w2 := (by first | exact (Below.refl _ _).drew.trans hb3 | exact ((below1 w1 _).drew).trans (hb3.mono (below1 w1 _).size)); have Z0 := cellB hW2 kp1; have Z1 := cellB hW2 k01; have Z2 := cellB hW2 k11; (try (have T3 := slot3_drew hb3; have t0 := T3.c0; have t1 := T3.c1; have t2 := T3.c2; have tf := T3.fz))))
      all_goals
        have hbw := hb12.trans (hW2.mono hb12.size)
        first
        | (have F : Wb w (((w2.setCell ⟨w1.heap.size, 0, none⟩ (.slice va (M.deeds ll).length cap)).setCell ⟨w1.heap.size, 1, none⟩ (.slice fa l.length fc)).setCell ⟨w1.heap.size, 2, none⟩ (.slice ra rows.length rc)) w1.heap.size va g cap (M.deeds ll) fa fb fo fc l ra rb ro rc rows := Wb.first hb12 hW2 T3 hds hf2 hr2 (fun hp => by have hg : (w1.alloc (.cells #[.slice none 0 0, .slice none 0 0, .slice none 0 0] 78)).heap.size ≤ g := hgB hp; rw [World.size_alloc] at hg; omega)
           generalize ((w2.setCell ⟨w1.heap.size, 0, none⟩ (.slice va (M.deeds ll).length cap)).setCell ⟨w1.heap.size, 1, none⟩ (.slice fa l.length fc)).setCell ⟨w1.heap.size, 2, none⟩ (.slice ra rows.length rc) = W at F ⊢
           generalize w1.heap.size = X at F ⊢)
        | (have F : Wb w (w2.alloc (.cells #[.slice va (M.deeds ll).length cap, .slice fa l.length fc, .slice ra rows.length rc] 78)) w2.heap.size va g cap (M.deeds ll) fa fb fo fc l ra rb ro rc rows := ⟨hbw.alloc hbw.size _, by simp, by simp, by simp, DeS.bel hds (below1 _ _) (Nat.le_refl _), (hf2.below hW2 (Nat.le_refl _)).below (below1 _ _) (Nat.le_refl _), (hr2.below hW2 (Nat.le_refl _)).below (below1 _ _) (Nat.le_refl _)⟩
           generalize w2.alloc (.cells #[.slice va (M.deeds ll).length cap, .slice fa l.length fc, .slice ra rows.length rc] 78) = W at F ⊢
           generalize w2.heap.size = X at F ⊢)
        clear kp1 k01 k11 Z0 Z1 Z2 hp2 hf2 hr2 hds hown hW2 hb3 hb12 N0 N1 lt0 hbw hgB
        (try clear T3 t0 t1 t2 tf)
        obtain ⟨hbW, c0, c1, c2, hd, hf, hr⟩ := F
        have K0 := BelowOf.cell c0
        have K1 := BelowOf.cell c1
        have K2 := BelowOf.cell c2
        have CE := fun (n : Int) (q : BelowOf W) => hasEvent_any va cap (M.deeds ll) (.slice fa l.length fc) (.slice ra rows.length rc) n q.x
        haveI : Inhabited (BelowOf W) := ⟨belOf W⟩
        clear c0 c1 c2
        go_wp2_with fail
        have CA := CE na
        have CB := CE nb
        cases ha : M.inR na (M.deeds ll).length
        · have ha' : (decide (0 ≤ na) && decide (na < (M.deeds ll).length)) = false := ha
          rw [ha'] at CA
          refine wp_region_quiet_bel (by kernel_rfl) (by kernel_rfl) ?_
          iterate 4 (quiet_step (first | (go_at_call 44; exact Calls.bel_of (CA _))))
          iterate 3 go_big_quiet_skip
          iterate 2 (quiet_step (fail))
          iterate 6 go_big_quiet_skip
          iterate 2 (quiet_step (fail))
          refine wpQuiet_nil ?_
          rintro _ ⟨⟨wq, hwq⟩, rfl⟩
          go_wp2_with fail
          go_ret
          exact ⟨ret_bool (by rw [HO.out, ha]; rfl), hbW.trans (hwq.mono hbW.size)⟩
        · have ha' : (decide (0 ≤ na) && decide (na < (M.deeds ll).length)) = true := ha
          rw [ha'] at CA
          cases hb : M.inR nb (M.deeds ll).length
          · have hb' : (decide (0 ≤ nb) && decide (nb < (M.deeds ll).length)) = false := hb
            rw [hb'] at CB
            refine wp_region_quiet_bel (by kernel_rfl) (by kernel_rfl) ?_
            iterate 4 (quiet_step (first | (go_at_call 44; exact Calls.bel_of (CA _))))
            iterate 5 (quiet_step (first | (go_at_call 44; exact Calls.bel_of (CB _))))
            iterate 6 go_big_quiet_skip
            iterate 2 (quiet_step (fail))
            refine wpQuiet_nil ?_
            rintro _ ⟨⟨wq, hwq⟩, rfl⟩
            go_wp2_with fail
            go_ret
            exact ⟨ret_bool (by rw [HO.out, ha, hb]; rfl), hbW.trans (hwq.mono hbW.size)⟩
          · have hb' : (decide (0 ≤ nb) && decide (nb < (M.deeds ll).length)) = true := hb
            rw [hb'] at CB
            simp only [Bool.and_eq_true, decide_eq_true_eq] at ha' hb' hk
            obtain ⟨pa, rfl⟩ : ∃ p : Nat, na = p := ⟨na.toNat, by omega⟩
            obtain ⟨pb, rfl⟩ : ∃ p : Nat, nb = p := ⟨nb.toNat, by omega⟩
            have hpa : pa < (M.deeds ll).length := by omega
            have hpb : pb < (M.deeds ll).length := by omega
            obtain ⟨rfl⟩ := hd.addr (by omega)
            obtain ⟨rfl⟩ := hf.addr (by have := hW.len.out; omega)
            obtain ⟨rfl⟩ := hr.addr (by have := hW.three.out; omega)
            have hx : (M.deeds ll)[pa]? = some (M.deeds ll)[pa] := List.getElem?_eq_getElem hpa
            have hy : (M.deeds ll)[pb]? = some (M.deeds ll)[pb] := List.getElem?_eq_getElem hpb
            have HM : Hid (∀ k, M.mustAt (M.deeds ll) l rows k pa pb = M.must (M.deeds ll) l rows k pa pb (M.deeds ll)[pa] (M.deeds ll)[pb]) := fun k => by rw [M.mustAt, hx, hy]
            have hOk : Wx.Ok ⟨g, cap, M.deeds ll, fb, fo, fc, l, rb, ro, rc, rows⟩ := ⟨by show (M.deeds ll).length ≤ _; omega, hW.len, hW.three, hrs, hW.run, hW.pl⟩
            have hAt : ∀ q : BelowOf W, Wx.At ⟨g, cap, M.deeds ll, fb, fo, fc, l, rb, ro, rc, rows⟩ q.x := fun q => ⟨hd.bel q.h (Nat.le_refl _), hf.below q.h (Nat.le_refl _), hr.below q.h (Nat.le_refl _)⟩
            generalize (M.deeds ll)[pa] = x at *
            generalize (M.deeds ll)[pb] = y at *
            have hk4 : kind = 1 ∨ kind = 2 ∨ kind = 3 := by omega
            rcases hk4 with rfl | rfl | rfl
            · have CM := fun q : BelowOf W => must1_any ⟨g, cap, M.deeds ll, fb, fo, fc, l, rb, ro, rc, rows⟩ pa pb x y q.x hOk (hAt q) hx hy
              have CR := fun q : BelowOf W => reasons1_any q.x
              clear hAt hOk
              refine wp_region_quiet_bel (by kernel_rfl) (by kernel_rfl) ?_
              iterate 4 (quiet_step (first | (go_at_call 44; exact Calls.bel_of (CA _))))
              iterate 5 (quiet_step (first | (go_at_call 44; exact Calls.bel_of (CB _))))
              repeat (quiet_step (first | (go_at_call 46; exact Calls.bel_of (CR _)) | (go_at_call 45; exact Calls.bel_of (CM _))))
              refine wpQuiet_nil ?_
              rintro _ ⟨⟨wq, hwq⟩, rfl⟩
              go_wp2_with fail
              go_ret
              exact ⟨ret_bool (by rw [HO.out, ha, hb, Int.toNat_natCast, Int.toNat_natCast, HM.out]; rfl), hbW.trans (hwq.mono hbW.size)⟩
            · have CM := fun q : BelowOf W => must2_any ⟨g, cap, M.deeds ll, fb, fo, fc, l, rb, ro, rc, rows⟩ pa pb x y q.x hOk (hAt q) hx hy
              have CR := fun q : BelowOf W => reasons2_any q.x
              clear hAt hOk
              refine wp_region_quiet_bel (by kernel_rfl) (by kernel_rfl) ?_
              iterate 4 (quiet_step (first | (go_at_call 44; exact Calls.bel_of (CA _))))
              iterate 5 (quiet_step (first | (go_at_call 44; exact Calls.bel_of (CB _))))
              repeat (quiet_step (first | (go_at_call 46; exact Calls.bel_of (CR _)) | (go_at_call 45; exact Calls.bel_of (CM _))))
              refine wpQuiet_nil ?_
              rintro _ ⟨⟨wq, hwq⟩, rfl⟩
              go_wp2_with fail
              go_ret
              exact ⟨ret_bool (by rw [HO.out, ha, hb, Int.toNat_natCast, Int.toNat_natCast, HM.out]; rfl), hbW.trans (hwq.mono hbW.size)⟩
            · have CM := fun q : BelowOf W => must3_any ⟨g, cap, M.deeds ll, fb, fo, fc, l, rb, ro, rc, rows⟩ pa pb x y q.x hOk (hAt q) hx hy
              have CR := fun q : BelowOf W => reasons3_any q.x
              clear hAt hOk
              refine wp_region_quiet_bel (by kernel_rfl) (by kernel_rfl) ?_
              iterate 4 (quiet_step (first | (go_at_call 44; exact Calls.bel_of (CA _))))
              iterate 5 (quiet_step (first | (go_at_call 44; exact Calls.bel_of (CB _))))
              repeat (quiet_step (first | (go_at_call 46; exact Calls.bel_of (CR _)) | (go_at_call 45; exact Calls.bel_of (CM _))))
              refine wpQuiet_nil ?_
              rintro _ ⟨⟨wq, hwq⟩, rfl⟩
              go_wp2_with fail
              go_ret
              exact ⟨ret_bool (by rw [HO.out, ha, hb, Int.toNat_natCast, Int.toNat_natCast, HM.out]; rfl), hbW.trans (hwq.mono hbW.size)⟩
end
end Go.Proofs.YtmhpgdliaclokaaGreat
