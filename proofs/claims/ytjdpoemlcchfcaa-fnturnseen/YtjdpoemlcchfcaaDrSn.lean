/- spec.l71Seen: what was seen, drawn. Of programs with at most 21 reads. -/
import Derived.Test.YtjdpoemlcchfcaaDrTh
import Derived.Test.YtjdpoemlcchfcaaReads
import Derived.Test.YtjdpoemlcchfcaaStepGo
import Derived.Test.YtjdpoemlcchfcaaSnFar
import Derived.Deep.AppendLies
import Derived.Deep.RegionHeld3
namespace Go.Proofs.Ytjdpoemlcchfcaa
open Go.RowKit

theorem own_numsC {w : World} {base : Nat} {v : Value} {l : List Int} (h : w.ownsRow base 3 1 v l.length (nums l)) : ∃ a g c, v = .slice a l.length c ∧ IntS w a g 0 l ∧ base ≤ g ∧ ((a = none → c = 0) ∧ l.length ≤ c) := by
  rcases h.2 with ⟨hv, hn⟩ | ⟨g, cap, cur, hv, hg, hh, hcp, r⟩
  · have : l = [] := List.length_eq_zero_iff.1 hn
    subst this
    exact ⟨none, base, 0, hv, IntS.nil _ _ _ _, Nat.le_refl _, fun _ => rfl, Nat.le_refl _⟩
  · refine ⟨_, g, cap, hv, ⟨fun _ => rfl, fun i hi => ?_⟩, hg, (fun h => by cases h), hcp⟩
    have hc := h.cells (g := g) (by rw [hv]; rfl) i (.int .i64 l[i]) (by simp [nums, hi])
    rwa [Go.WideShapes.add_plain] at hc

set_option maxHeartbeats 2000000 in
set_option maxRecDepth 100000 in
theorem l71Seen_cap (B rb p : Nat) (a : Option Addr) (b o c : Nat) (ll : List (List M.D)) (w : World) (hp : p ≤ 50000) (hl : ll.length ≤ 1048576) (hls : ∀ t ∈ ll, t.length ≤ 1048576) (hn : M.nreads ll ≤ 21) (h : Rdr w B rb p) (hd : DoSS w a b o ll) :
    Calls Try.prog 26 #[.pointer (some ⟨rb, 0, none⟩), .agg #[.slice a ll.length c]] w fun e w' => ∃ s : Sn, e = .returned (.agg #[.slice s.a1 s.l1.length s.c1, .slice s.a2 s.l2.length s.c2]) ∧ s.At w' ∧ s.Le 30 ∧ w.heap.size ≤ s.b1 ∧ w.heap.size ≤ s.b2 ∧ ((s.a1 = none → s.c1 = 0) ∧ s.l1.length ≤ s.c1) ∧ ∃ p' : Nat, p' ≤ p + 30 ∧ Rdr w' B rb p' ∧ But rb w w' := by
  have hlt := h.lt
  have hge := h.ge
  obtain ⟨i0, hi, hz0, hz1, hz2⟩ := info_parts Try.infoInt
  go_enter Try.func26, Try.ntmps26
  go_wp2_with fail
  have hb4 := (below3 w (.cells #[.slice a ll.length c] 25) (.cells #[.slice none 0 0, .slice none 0 0] 28) (.cells #[] 3)).alloc (by simp; omega) (.cells #[.slice (some ⟨w.heap.size + 1 + 1, 0, none⟩) 0 0, .slice none 0 0] 28)
  have hS0 : Slot2 ((((w.alloc (.cells #[.slice a ll.length c] 25)).alloc (.cells #[.slice none 0 0, .slice none 0 0] 28)).alloc (.cells #[] 3)).alloc (.cells #[.slice (some ⟨w.heap.size + 1 + 1, 0, none⟩) 0 0, .slice none 0 0] 28)) (w.heap.size + 1 + 1 + 1) (.slice (some ⟨w.heap.size + 1 + 1, 0, none⟩) 0 0) (.slice none 0 0) := ⟨alloc_new _ _ _ (by simp only [World.size_alloc])⟩
  have hR0 : Slot2 ((((w.alloc (.cells #[.slice a ll.length c] 25)).alloc (.cells #[.slice none 0 0, .slice none 0 0] 28)).alloc (.cells #[] 3)).alloc (.cells #[.slice (some ⟨w.heap.size + 1 + 1, 0, none⟩) 0 0, .slice none 0 0] 28)) (w.heap.size + 1) (.slice none 0 0) (.slice none 0 0) := ⟨by rw [alloc_old _ _ _ (by simp only [World.size_alloc]; omega), alloc_old _ _ _ (by simp only [World.size_alloc]; omega)]; exact alloc_new _ _ _ (by simp only [World.size_alloc])⟩
  have hE0 : ((((w.alloc (.cells #[.slice a ll.length c] 25)).alloc (.cells #[.slice none 0 0, .slice none 0 0] 28)).alloc (.cells #[] 3)).alloc (.cells #[.slice (some ⟨w.heap.size + 1 + 1, 0, none⟩) 0 0, .slice none 0 0] 28)).ownsRow w.heap.size 3 1 (.slice (some ⟨w.heap.size + 1 + 1, 0, none⟩) 0 0) 0 (nums []) :=
    ⟨rfl, Or.inr ⟨_, 0, #[], rfl, by omega, by rw [alloc_old _ _ _ (by simp only [World.size_alloc]; omega)]; exact alloc_new _ _ _ (by simp only [World.size_alloc]), Nat.le_refl _, Nat.zero_le _, rfl, rfl⟩⟩
  have hr0 : Rdr ((((w.alloc (.cells #[.slice a ll.length c] 25)).alloc (.cells #[.slice none 0 0, .slice none 0 0] 28)).alloc (.cells #[] 3)).alloc (.cells #[.slice (some ⟨w.heap.size + 1 + 1, 0, none⟩) 0 0, .slice none 0 0] 28)) B rb p := (((h.alloc _).alloc _).alloc _).alloc _
  generalize ((((w.alloc (.cells #[.slice a ll.length c] 25)).alloc (.cells #[.slice none 0 0, .slice none 0 0] 28)).alloc (.cells #[] 3)).alloc (.cells #[.slice (some ⟨w.heap.size + 1 + 1, 0, none⟩) 0 0, .slice none 0 0] 28)) = W at *
  refine (sreads_any a b o c ll _ hl hls (hd.below hb4 (Nat.le_refl _))).mono ?_
  rintro e w1 ⟨rfl, hb1⟩
  have hS1 := hS0.but (But.of (rb := rb) hb1) (by omega)
  have hR1 := hR0.but (But.of (rb := rb) hb1) (by omega)
  have hE1 := ownsRow_but hE0 (But.of (rb := rb) hb1) hlt
  have hr1 := hr0.below hb1 (Nat.le_refl _)
  have hbw : But rb w w1 := (But.of hb4).trans (But.of hb1)
  generalize M.nreads ll = z0 at hn ⊢
  clear hS0 hR0 hE0 hr0 hb1 hb4 hd h hl hls
  obtain ⟨R, hRe⟩ : ∃ R, w.heap.size + 1 = R := ⟨_, rfl⟩
  obtain ⟨S, hSe⟩ : ∃ S, w.heap.size + 1 + 1 + 1 = S := ⟨_, rfl⟩
  rw [hSe] at hS1 ⊢
  rw [hRe] at hR1
  have he38 : ∀ args w, (callFunc 48 args).run Try.prog w = .ok (.enter 48 args) w := enters_of Try.func48 (by kernel_rfl) rfl
  go_wp2_with fail
  go_loopw [6] (fun s6 wr => ∃ (l : List Int) (z : Int) (p' : Nat) (v : Value), s6 = .int .i64 z ∧ (l.length : Int) + z ≤ 21 ∧ l.length ≤ 21 ∧ p' ≤ p + l.length ∧ Slot2 wr S v (.slice none 0 0) ∧ Slot2 wr R (.slice none 0 0) (.slice none 0 0) ∧ wr.ownsRow w.heap.size 3 1 v l.length (nums l) ∧ Rdr wr B rb p' ∧ But rb w wr) (fun s6 _ => (intOf s6).toNat)
  case atStart => exact ⟨[], z0, p, _, rfl, by simpa using hn, by simp, by simp, hS1, hR1, hE1, hr1, hbw⟩
  case round =>
    obtain ⟨l, z, p', v, rfl, hlz, hl21, hp', hS, hR, hE, hr, hb⟩ := hrel
    clear hS1 hR1 hE1 hr1 hbw
    have cS := hS.c0
    have fS := hS.fz
    have hSlt := hS.lt
    have hsz := hb.size
    by_cases hz : 0 < z
    · go_wp2_with fail
      go_region_law (first
        | (refine step_go2 (by rfl) 48 _ _ _ (by rfl) _ _ (by rfl) (by rfl) he38 (pick_rdr B rb p' 4 _ (by omega) (by omega) (by omega) hr.drew) ?_; rintro e w2 ⟨r2, rfl, r20, r21, hr2, hb2⟩; have hb2d := (But.refl rb _).drew.trans hb2; have hS2 := hS.but hb2d (by omega); have cS2 := hS2.c0; have fS2 := hS2.fz; have hSlt2 := hS2.lt; have hsz2 := hb2d.size; have hE2 := ownsRow_but hE hb2d hlt; refine ⟨_, rfl, ?_⟩)
        | (refine step_append_lies _ (by rfl) _ _ _ (by rfl) w.heap.size 3 i0 _ 1 8 Try.underlying26 hi hz0 hz1 hz2 rfl (by omega) v l.length (nums l) (by rfl) (hE2.alloc _) ⟨w2.heap.size, 0, none⟩ 1 1 [.int .i64 r2] (by rfl) (by rfl) (World.news_of_block (cs := #[.int .i64 r2]) (t := 3) (fr := (0, 0)) (heap_alloc_new w2 _)) (by simp [Value.oneCell']) (by omega) (by unfold maxLen; omega) (by omega) (by simp only [World.size_alloc]; omega) (w2.heap.size + 1) (by simp) ?_; intro g cap w3 hown3 hgr hat hltg; have hS3 := (hS2.but (rb := rb) ((But.refl rb _).alloc (.cells #[.int .i64 r2] 3)) (by omega)).grown hgr (hE2.alloc _); have cS3 := hS3.c0; have fS3 := hS3.fz))
      all_goals
        have hge3 := own_ge hE2
        have hE3 : w3.ownsRow w.heap.size 3 1 (.slice (some ⟨g, 0, none⟩) (l.length + 1) cap) (l ++ [r2]).length (nums (l ++ [r2])) := by
          rw [List.length_append]; simpa [nums] using hown3
        have hS4 := hS3.set0 (.slice (some ⟨g, 0, none⟩) (l.length + 1) cap)
        have hE4 := own_slot (i := 0) hE3 hS3 (.slice (some ⟨g, 0, none⟩) (l.length + 1) cap)
        have hR4 := (((hR.but hb2d (by omega)).but (rb := rb) ((But.refl rb _).alloc (.cells #[.int .i64 r2] 3)) (by omega)).grown hgr (hE2.alloc _)).far (b' := S) (i := 0) (by omega) (.slice (some ⟨g, 0, none⟩) (l.length + 1) cap)
        have hr4 := ((hr2.alloc (.cells #[.int .i64 r2] 3)).grown hgr (fun k hk => ⟨by have := hge3 k hk; omega, by have := hge3 k hk; omega⟩)).setCell (b := S) (i := 0) (by omega) (by omega) (.slice (some ⟨g, 0, none⟩) (l.length + 1) cap)
        have hb4 := (((hb.trans hb2d).alloc (.cells #[.int .i64 r2] 3)).grown hgr hge3).setCell (p := ⟨S, 0, none⟩) (Or.inl (by show w.heap.size ≤ S; omega)) (.slice (some ⟨g, 0, none⟩) (l.length + 1) cap)
        clear hge3 hE3 hS3 cS3 fS3 hown3 hgr hat hltg hE2 hS2 cS2 fS2 hSlt2 hsz2 hb2d hb2 hr2 hS cS fS hSlt hR hE hr hb
        generalize w3.setCell ⟨S, 0, none⟩ (.slice (some ⟨g, 0, none⟩) (l.length + 1) cap) = w4 at *
        go_wp2_with fail
        exact ⟨⟨l ++ [r2], z - 1, p' + 1, _, rfl, by simp; omega, by simp; omega, by simp; omega, hS4, hR4, hE4, hr4, hb4⟩, by simp [intOf]; omega⟩
    · go_wp2_with fail
      have hvlt : ∀ k, v.ownBlock = some k → k < wr.heap.size := fun k hk => (hE.lt k hk).2
      obtain ⟨B2, hB2⟩ : ∃ B2, wr.heap.size = B2 := ⟨_, rfl⟩
      rw [hB2] at hvlt
      have hSB : S < B2 := by rw [← hB2]; exact hSlt
      go_loopw [7] (fun s7 wr2 => ∃ (m : List Int) (q' : Nat) (v2 : Value), s7 = .int .i64 (m.length : Nat) ∧ m.length ≤ 3 ∧ q' ≤ p' + m.length ∧ Slot2 wr2 S v v2 ∧ Slot2 wr2 R (.slice none 0 0) (.slice none 0 0) ∧ wr2.ownsRow w.heap.size 3 1 v l.length (nums l) ∧ wr2.ownsRow B2 3 1 v2 m.length (nums m) ∧ Rdr wr2 B rb q' ∧ But rb w wr2 ∧ B2 ≤ wr2.heap.size) (fun s7 _ => 3 - (intOf s7).toNat)
      case atStart => exact ⟨[], p', _, rfl, by simp, by simp, hS, hR, hE, World.ownsRow_nil _ _ _ _, hr, hb, by omega⟩
      case round =>
        obtain ⟨m, q', v2, rfl, hm3, hq', hS1, hR1, hE1, hF1, hr1, hb1, hBw⟩ := hrel
        clear hS hR hE hr hb cS fS hSlt hsz hB2
        have cS := hS1.c1
        have fS := hS1.fz
        have hSlt := hS1.lt
        have hsz := hb1.size
        by_cases hm : m.length < 3
        · have hm' : (m.length : Int) < 3 := by omega
          go_wp2_with fail
          go_region_law (first
            | (refine step_go2 (by rfl) 48 _ _ _ (by rfl) _ _ (by rfl) (by rfl) he38 (pick_rdr B rb q' 4 _ (by omega) (by omega) (by omega) hr1.drew) ?_; rintro e w2 ⟨r2, rfl, r20, r21, hr2, hb2⟩; have hb2d := (But.refl rb _).drew.trans hb2; have hS2 := hS1.but hb2d (by omega); have cS2 := hS2.c1; have fS2 := hS2.fz; have hSlt2 := hS2.lt; have hsz2 := hb2d.size; have hE2 := ownsRow_but hE1 hb2d hlt; have hF2 := ownsRow_but hF1 hb2d (by omega); refine ⟨_, rfl, ?_⟩)
            | (refine step_append_lies _ (by rfl) _ _ _ (by rfl) B2 3 i0 _ 1 8 Try.underlying26 hi hz0 hz1 hz2 rfl (by omega) v2 m.length (nums m) (by rfl) (hF2.alloc _) ⟨w2.heap.size, 0, none⟩ 1 1 [.int .i64 r2] (by rfl) (by rfl) (World.news_of_block (cs := #[.int .i64 r2]) (t := 3) (fr := (0, 0)) (heap_alloc_new w2 _)) (by simp [Value.oneCell']) (by omega) (by unfold maxLen; omega) (by omega) (by simp only [World.size_alloc]; omega) (w2.heap.size + 1) (by simp) ?_; intro g cap w3 hown3 hgr hat hltg; have hS3 := (hS2.but (rb := rb) ((But.refl rb _).alloc (.cells #[.int .i64 r2] 3)) (by omega)).grown hgr (hF2.alloc _); have cS3 := hS3.c1; have fS3 := hS3.fz))
          all_goals
            have hge3 := own_ge hF2
            have hF3 : w3.ownsRow B2 3 1 (.slice (some ⟨g, 0, none⟩) (m.length + 1) cap) (m ++ [r2]).length (nums (m ++ [r2])) := by
              rw [List.length_append]; simpa [nums] using hown3
            have hE3 := (hE2.alloc (.cells #[.int .i64 r2] 3)).kept hgr (own_below hvlt hge3)
            have hS4 := hS3.set1 (.slice (some ⟨g, 0, none⟩) (m.length + 1) cap)
            have hE4 := own_slot (i := 1) hE3 hS3 (.slice (some ⟨g, 0, none⟩) (m.length + 1) cap)
            have hF4 := own_slot (i := 1) hF3 hS3 (.slice (some ⟨g, 0, none⟩) (m.length + 1) cap)
            have hR4 := (((hR1.but hb2d (by omega)).but (rb := rb) ((But.refl rb _).alloc (.cells #[.int .i64 r2] 3)) (by omega)).grown hgr (hF2.alloc _)).far (b' := S) (i := 1) (by omega) (.slice (some ⟨g, 0, none⟩) (m.length + 1) cap)
            have hr4 := ((hr2.alloc (.cells #[.int .i64 r2] 3)).grown hgr (fun k hk => ⟨by have := hge3 k hk; omega, by have := hge3 k hk; omega⟩)).setCell (b := S) (i := 1) (by omega) (by omega) (.slice (some ⟨g, 0, none⟩) (m.length + 1) cap)
            have hb4 := (((hb1.trans hb2d).alloc (.cells #[.int .i64 r2] 3)).grown hgr (fun k hk => by have := hge3 k hk; omega)).setCell (p := ⟨S, 1, none⟩) (Or.inl (by show w.heap.size ≤ S; omega)) (.slice (some ⟨g, 0, none⟩) (m.length + 1) cap)
            have hB4 : B2 ≤ (w3.setCell ⟨S, 1, none⟩ (.slice (some ⟨g, 0, none⟩) (m.length + 1) cap)).heap.size := by
              have := hgr.size
              simp only [World.size_setCell, World.size_alloc] at *
              omega
            clear hge3 hE3 hF3 hS3 cS3 fS3 hown3 hgr hat hltg hE2 hF2 hS2 cS2 fS2 hSlt2 hsz2 hb2d hb2 hr2 hS1 cS fS hSlt hR1 hE1 hF1 hr1 hb1
            generalize w3.setCell ⟨S, 1, none⟩ (.slice (some ⟨g, 0, none⟩) (m.length + 1) cap) = w4 at *
            go_wp2_with fail
            exact ⟨⟨m ++ [r2], q' + 1, _, by simp, by simp; omega, by simp; omega, hS4, hR4, hE4, hF4, hr4, hb4, hB4⟩, by simp [intOf]; omega⟩
        · have hm' : ¬ (m.length : Int) < 3 := by omega
          go_wp2_with fail
          refine (pick_rdr B rb q' 16 _ (by omega) (by omega) (by omega) hr1).mono ?_
          rintro e w5 ⟨r5, rfl, r50, r51, hr5, hb5⟩
          have hS5 := hS1.but hb5 (by omega)
          have hR5 := hR1.but hb5 (by omega)
          have hE5 := ownsRow_but hE1 hb5 hlt
          have hF5 := ownsRow_but hF1 hb5 (by omega)
          have hb5' := hb1.trans hb5
          have hsz5 := hb5.size
          clear hS1 hR1 hE1 hF1 hb1 hb5 hr1 cS fS
          have hm3' : Hid (m.length = 3) := (by omega : m.length = 3)
          by_cases h0 : r5 = 0
          · subst h0
            have cS := hS5.c0
            have fS := hS5.fz
            have hSlt5 := hS5.lt
            go_wp2_with (at_builtin; refine wpList_append_own _ rfl (.tmp 39) (.tmp 40) 26 rfl w.heap.size 3 i0 _ 1 8 Try.underlying26 hi hz0 hz1 hz2 rfl (by decide) _ _ _ rfl (hE5.alloc _) ⟨w5.heap.size, 0, none⟩ 1 1 [.int .i64 0] rfl rfl ?c1 ?c2 ?c3 ?c4 ?c5 ?_)
            case c1 =>
              intro j u hj
              match j, hj with
              | 0, hj => simp at hj; subst hj; simp [Addr.add]
            case c2 => intro u hu; simp at hu; subst hu; rfl
            case c3 => unfold maxLen; omega
            case c4 => omega
            case c5 => simp; omega
            intro v' w6 hown6 hg6 _
            have hE6 : w6.ownsRow w.heap.size 3 1 v' (l ++ [0]).length (nums (l ++ [0])) := by
              rw [List.length_append]; simpa [nums] using hown6
            obtain ⟨L, hLe, hLl⟩ : ∃ L : List Int, l ++ [0] = L ∧ L.length ≤ 22 := ⟨_, rfl, by simp; omega⟩
            rw [hLe] at hE6
            have hge6 := own_ge hE5
            have hF6 := (hF5.alloc (.cells #[.int .i64 0] 3)).kept hg6 (own_above hvlt (own_ge hF5))
            have hS6 := (hS5.but (rb := rb) ((But.refl rb _).alloc (.cells #[.int .i64 0] 3)) (by omega)).grown hg6 (hE5.alloc _)
            have hR6 := (hR5.but (rb := rb) ((But.refl rb _).alloc (.cells #[.int .i64 0] 3)) (by omega)).grown hg6 (hE5.alloc _)
            have hr6 := (hr5.alloc (.cells #[.int .i64 0] 3)).grown hg6 (fun k hk => ⟨by have := hge6 k hk; omega, by have := hge6 k hk; omega⟩)
            have hb6 := (hb5'.alloc (.cells #[.int .i64 0] 3)).grown hg6 hge6
            have cS6 := hS6.c0
            have fS6 := hS6.fz
            have hS7 := hS6.set0 v'
            have hR7 := hR6.far (b' := S) (i := 0) (by omega) v'
            have hE7 := own_slot (i := 0) hE6 hS6 v'
            have hF7 := own_slot (i := 0) hF6 hS6 v'
            have hr7 := hr6.setCell (b := S) (i := 0) (by omega) (by omega) v'
            have hb7 := hb6.setCell (p := ⟨S, 0, none⟩) (Or.inl (by show w.heap.size ≤ S; omega)) v'
            clear hge6 hE6 hF6 hown6 hg6 hr6 hb6 hR6 hS5 hR5 hE5 hF5 hr5 hb5' cS fS hSlt5
            have hR9 := hR7.set0 v'
            have hE9 := own_slot (i := 1) (own_slot (i := 0) hE7 hR7 v') hR9 v2
            have hF9 := own_slot (i := 1) (own_slot (i := 0) hF7 hR7 v') hR9 v2
            obtain ⟨a1, g1, c1, rfl, i1, ge1, nc1⟩ := own_numsC hE9
            obtain ⟨a2, g2, c2, rfl, i2, ge2, _⟩ := own_nums hF9
            have x0 := hS7.c0
            have x1 := hS7.c1
            have y0 := hR7.c0
            have y1 := hR7.c1
            have yf := hR7.fz
            clear hE9 hF9 hR9
            go_wp2_with fail
            refine bodyPost_ret (v := .agg #[.slice a1 L.length c1, .slice a2 m.length c2]) (by simp [results, Try.results26, go_sem, y0, y1]) rfl ⟨⟨a1, g1, 0, c1, L, a2, g2, 0, c2, m⟩, rfl, ⟨i1, i2⟩, ⟨by show L.length ≤ 30; omega, by show m.length ≤ 30; omega⟩, ge1, by show w.heap.size ≤ g2; omega, nc1, q' + 1, by omega, ?_, ?_⟩
            · exact (hr7.setCell (by omega) (by omega) _).setCell (by omega) (by omega) _
            · exact (hb7.setCell (Or.inl (by show w.heap.size ≤ R; omega)) _).setCell (Or.inl (by show w.heap.size ≤ R; omega)) _
          have h0' : (r5 == 0) = false := by simpa using h0
          by_cases h1 : r5 = 1
          · subst h1
            obtain ⟨x, y, z', rfl⟩ := three hm3'.out
            obtain ⟨g2, cap2, rfl, gb2, glt2⟩ := hF5.form (by simp)
            have hcap := own_cap hF5
            obtain ⟨n2, hn2⟩ : ∃ n2, [x, y, z'].length = n2 := ⟨_, rfl⟩
            have hn3 : n2 = 3 := by rw [← hn2]; rfl
            rw [hn2] at hcap hF5 hS5
            subst hn3
            have x1 := hS5.c1
            have hSlt5 := hS5.lt
            have k0 := hF5.cellAt 0 (by decide)
            have kf := hF5.frozenAt 0
            simp only [nums, List.map_cons, List.getElem?_cons_zero] at k0
            have e1 : (0 : Int) < 3 := by omega
            go_wp2_with fail
            go_region_law (first
              | (refine step_go2 (by rfl) 48 _ _ _ (by rfl) _ _ (by rfl) (by rfl) he38 (pick_rdr B rb (q' + 1) 2 _ (by omega) (by omega) (by simp at hq'; omega) (by first | exact hr5.drew | exact (hr5.alloc _).drew | exact hr5.drew.alloc _)) ?_; rintro e w6 ⟨r6, rfl, r60, r61, hr6, hb6⟩; obtain ⟨q6, rfl⟩ := Int.eq_ofNat_of_zero_le r60; obtain ⟨x6, hx6⟩ := pick2 q6 (by omega); have hb56 : But rb w5 w6 := (by first | exact (But.refl rb _).drew.trans hb6 | exact ((But.refl rb _).alloc _).drew.trans hb6); have x6' := (hS5.but hb56 (by omega)).c1; have hSlt6 := (hS5.but hb56 (by omega)).lt; have k6 := (ownsRow_but hF5 hb56 (by omega)).cellAt 0 (by decide); have kf6 := (ownsRow_but hF5 hb56 (by omega)).frozenAt 0; simp only [nums, List.map_cons, List.getElem?_cons_zero] at k6; have gl6 : g2 < w6.heap.size := Nat.lt_of_lt_of_le glt2 hb56.size; have cA := pick2_alloc w6 3 hx6; try (have cL : w6.cell? ⟨w5.heap.size, q6, none⟩ = some (.int .i64 x6) := (hb6.cell (p := ⟨w5.heap.size, q6, none⟩) (by simp) (by show w5.heap.size ≠ rb; omega)).trans (pick2_alloc w5 3 hx6)); clear hx6; refine ⟨_, rfl, ?_⟩))
            all_goals
              have hF7 : (w6.setCell ⟨g2, 0, none⟩ (.int .i64 x6)).ownsRow B2 3 1 (.slice (some ⟨g2, 0, none⟩) 3 cap2) 3 (nums [x6, y, z']) := ((ownsRow_but hF5 hb56 (by omega)).stored 0 (.int .i64 x6)).1
              have hE7 := (ownsRow_but hE5 hb56 hlt).kept ((ownsRow_but hF5 hb56 (by omega)).stored 0 (.int .i64 x6)).2 (own_below (v' := .slice (some ⟨g2, 0, none⟩) 3 cap2) hvlt (fun k hk => by simp [Value.ownBlock] at hk; omega))
              have hS7 := (hS5.but hb56 (by omega)).far (b' := g2) (i := 0) (by omega) (.int .i64 x6)
              have hR7 := (hR5.but hb56 (by omega)).far (b' := g2) (i := 0) (by omega) (.int .i64 x6)
              have hr7 := hr6.setCell (b := g2) (i := 0) (by omega) (by omega) (.int .i64 x6)
              have hb7 := (hb5'.trans hb56).setCell (p := ⟨g2, 0, none⟩) (Or.inl (by show w.heap.size ≤ g2; omega)) (.int .i64 x6)
              obtain ⟨a1, g1, c1, rfl, _, _, nc1⟩ := own_numsC hE7
              clear k6 kf6 x6' hSlt6 cA hb6 hr6 hb56 hS5 hR5 hE5 hF5 hr5 hb5' x1 k0 kf
              generalize w6.setCell ⟨g2, 0, none⟩ (.int .i64 x6) = W7 at *
              first
              | (
                have hR9 := hR7.set0 (.slice a1 l.length c1)
                have hE9 := own_slot (i := 1) (own_slot (i := 0) hE7 hR7 (.slice a1 l.length c1)) hR9 (.slice (some ⟨g2, 0, none⟩) 3 cap2)
                have hF9 := own_slot (i := 1) (own_slot (i := 0) hF7 hR7 (.slice a1 l.length c1)) hR9 (.slice (some ⟨g2, 0, none⟩) 3 cap2)
                have hr9 := (hr7.setCell (b := R) (i := 0) (by omega) (by omega) (.slice a1 l.length c1)).setCell (b := R) (i := 1) (by omega) (by omega) (.slice (some ⟨g2, 0, none⟩) 3 cap2)
                have hb9 := (hb7.setCell (p := ⟨R, 0, none⟩) (Or.inl (by show w.heap.size ≤ R; omega)) (.slice a1 l.length c1)).setCell (p := ⟨R, 1, none⟩) (Or.inl (by show w.heap.size ≤ R; omega)) (.slice (some ⟨g2, 0, none⟩) 3 cap2)
                obtain ⟨a1', g1', c1', ev, i1, ge1', _⟩ := own_nums hE9
                simp only [Value.slice.injEq] at ev
                obtain ⟨rfl, _, rfl⟩ := ev
                obtain ⟨a2', g2', c2', ev2, i2, ge2', _⟩ := own_nums (l := [x6, y, z']) hF9
                simp only [Value.slice.injEq] at ev2
                obtain ⟨rfl, _, rfl⟩ := ev2
                have X0 := hS7.c0
                have X1 := hS7.c1
                have Y0 := hR7.c0
                have Y1 := hR7.c1
                have Yf := hR7.fz
                clear hE9 hF9 hR9
                go_wp2_with fail
                refine bodyPost_ret (v := .agg #[.slice a1 l.length c1, .slice (some ⟨g2, 0, none⟩) 3 cap2]) (by simp [results, Try.results26, go_sem, Y0, Y1]) rfl ⟨⟨a1, g1', 0, c1, l, some ⟨g2, 0, none⟩, g2', 0, cap2, [x6, y, z']⟩, rfl, ⟨i1, i2⟩, ⟨by show l.length ≤ 30; omega, by show 3 ≤ 30; omega⟩, ge1', by show w.heap.size ≤ g2'; omega, nc1, q' + 2, by simp at hq' ⊢; omega, hr9, hb9⟩
                )
              | (
                have hE8 := hE7.alloc (.cells #[.int .i64 (-1), .int .i64 4] 3)
                have hF8 := hF7.alloc (.cells #[.int .i64 (-1), .int .i64 4] 3)
                have hS8 := hS7.but (rb := rb) ((But.refl rb _).alloc (.cells #[.int .i64 (-1), .int .i64 4] 3)) (by omega)
                have hR8 := hR7.but (rb := rb) ((But.refl rb _).alloc (.cells #[.int .i64 (-1), .int .i64 4] 3)) (by omega)
                have hr8 := hr7.alloc (.cells #[.int .i64 (-1), .int .i64 4] 3)
                have hb8 := hb7.alloc (.cells #[.int .i64 (-1), .int .i64 4] 3)
                clear hE7 hF7 hS7 hR7 hr7 hb7
                generalize W7.alloc (.cells #[.int .i64 (-1), .int .i64 4] 3) = W8 at *
                have hR9 := hR8.set0 (.slice a1 l.length c1)
                have hE9 := own_slot (i := 1) (own_slot (i := 0) hE8 hR8 (.slice a1 l.length c1)) hR9 (.slice (some ⟨g2, 0, none⟩) 3 cap2)
                have hF9 := own_slot (i := 1) (own_slot (i := 0) hF8 hR8 (.slice a1 l.length c1)) hR9 (.slice (some ⟨g2, 0, none⟩) 3 cap2)
                have hr9 := (hr8.setCell (b := R) (i := 0) (by omega) (by omega) (.slice a1 l.length c1)).setCell (b := R) (i := 1) (by omega) (by omega) (.slice (some ⟨g2, 0, none⟩) 3 cap2)
                have hb9 := (hb8.setCell (p := ⟨R, 0, none⟩) (Or.inl (by show w.heap.size ≤ R; omega)) (.slice a1 l.length c1)).setCell (p := ⟨R, 1, none⟩) (Or.inl (by show w.heap.size ≤ R; omega)) (.slice (some ⟨g2, 0, none⟩) 3 cap2)
                obtain ⟨a1', g1', c1', ev, i1, ge1', _⟩ := own_nums hE9
                simp only [Value.slice.injEq] at ev
                obtain ⟨rfl, _, rfl⟩ := ev
                obtain ⟨a2', g2', c2', ev2, i2, ge2', _⟩ := own_nums (l := [x6, y, z']) hF9
                simp only [Value.slice.injEq] at ev2
                obtain ⟨rfl, _, rfl⟩ := ev2
                have X0 := hS8.c0
                have X1 := hS8.c1
                have Y0 := hR8.c0
                have Y1 := hR8.c1
                have Yf := hR8.fz
                clear hE9 hF9 hR9
                go_wp2_with fail
                refine bodyPost_ret (v := .agg #[.slice a1 l.length c1, .slice (some ⟨g2, 0, none⟩) 3 cap2]) (by simp [results, Try.results26, go_sem, Y0, Y1]) rfl ⟨⟨a1, g1', 0, c1, l, some ⟨g2, 0, none⟩, g2', 0, cap2, [x6, y, z']⟩, rfl, ⟨i1, i2⟩, ⟨by show l.length ≤ 30; omega, by show 3 ≤ 30; omega⟩, ge1', by show w.heap.size ≤ g2'; omega, nc1, q' + 2, by simp at hq' ⊢; omega, hr9, hb9⟩
                )
          have h1' : (r5 == 1) = false := by simpa using h1
          by_cases h2 : r5 = 2
          · subst h2
            obtain ⟨x, y, z', rfl⟩ := three hm3'.out
            obtain ⟨g2, cap2, rfl, gb2, glt2⟩ := hF5.form (by simp)
            have hcap := own_cap hF5
            obtain ⟨n2, hn2⟩ : ∃ n2, [x, y, z'].length = n2 := ⟨_, rfl⟩
            have hn3 : n2 = 3 := by rw [← hn2]; rfl
            rw [hn2] at hcap hF5 hS5
            subst hn3
            have x0 := hS5.c0
            have x1 := hS5.c1
            have xf := hS5.fz
            have k1 := hF5.cellAt 1 (by decide)
            have k2 := hF5.cellAt 2 (by decide)
            have e1 : (3 : Int) ≤ cap2 := by omega
            obtain ⟨a1, g1, c1, rfl, _, ge1, nc1⟩ := own_numsC hE5
            obtain ⟨u, hu⟩ : ∃ u, Value.slice (some ⟨g2, 1, none⟩) 2 (cap2 - 1) = u := ⟨_, rfl⟩
            have hS6 := hS5.set1 u
            have hR6 := hR5.far (b' := S) (i := 1) (by omega) u
            have hR7 := hR6.set0 (.slice a1 l.length c1)
            have hE8 := own_slot (i := 1) (own_slot (i := 0) (own_slot (i := 1) hE5 hS5 u) hR6 (.slice a1 l.length c1)) hR7 u
            have hF8 := own_slot (i := 1) (own_slot (i := 0) (own_slot (i := 1) hF5 hS5 u) hR6 (.slice a1 l.length c1)) hR7 u
            have hr8 := ((hr5.setCell (b := S) (i := 1) (by omega) (by omega) u).setCell (b := R) (i := 0) (by omega) (by omega) (.slice a1 l.length c1)).setCell (b := R) (i := 1) (by omega) (by omega) u
            have hb8 := ((hb5'.setCell (p := ⟨S, 1, none⟩) (Or.inl (by show w.heap.size ≤ S; omega)) u).setCell (p := ⟨R, 0, none⟩) (Or.inl (by show w.heap.size ≤ R; omega)) (.slice a1 l.length c1)).setCell (p := ⟨R, 1, none⟩) (Or.inl (by show w.heap.size ≤ R; omega)) u
            subst hu
            have x6 := hS6.c0
            have y0 := hR6.c0
            have y1 := hR6.c1
            have yf := hR6.fz
            have k1 := hF8.cellAt 1 (by decide)
            have k2 := hF8.cellAt 2 (by decide)
            obtain ⟨a1', g1', c1', ev, i1, ge1', _⟩ := own_nums hE8
            simp only [Value.slice.injEq] at ev
            obtain ⟨rfl, _, rfl⟩ := ev
            clear hE8 hF8 hR7
            go_wp2_with fail
            refine bodyPost_ret (v := .agg #[.slice a1 l.length c1, .slice (some ⟨g2, 1, none⟩) 2 (cap2 - 1)]) (by simp [results, Try.results26, go_sem, y0, y1]) rfl ⟨⟨a1, g1', 0, c1, l, some ⟨g2, 1, none⟩, g2, 1, cap2 - 1, [y, z']⟩, rfl, ⟨i1, ⟨fun _ => rfl, fun i hi => ?_⟩⟩, ⟨by show l.length ≤ 30; omega, by show 2 ≤ 30; omega⟩, ge1', by show w.heap.size ≤ g2; omega, nc1, q' + 1, by simp at hq' ⊢; omega, hr8, hb8⟩
            match i, hi with
            | 0, _ => exact k1
            | 1, _ => exact k2
          have h2' : (r5 == 2) = false := by simpa using h2
          have hR9 := hR5.set0 v
          have hE9 := own_slot (i := 1) (own_slot (i := 0) hE5 hR5 v) hR9 v2
          have hF9 := own_slot (i := 1) (own_slot (i := 0) hF5 hR5 v) hR9 v2
          obtain ⟨a1, g1, c1, rfl, i1, ge1, nc1⟩ := own_numsC hE9
          obtain ⟨a2, g2, c2, rfl, i2, ge2, _⟩ := own_nums hF9
          have x0 := hS5.c0
          have x1 := hS5.c1
          have y0 := hR5.c0
          have y1 := hR5.c1
          have yf := hR5.fz
          clear hE9 hF9 hR9
          go_wp2_with fail
          refine bodyPost_ret (v := .agg #[.slice a1 (l).length c1, .slice a2 m.length c2]) (by simp [results, Try.results26, go_sem, y0, y1]) rfl ⟨⟨a1, g1, 0, c1, l, a2, g2, 0, c2, m⟩, rfl, ⟨i1, i2⟩, ⟨by show (l).length ≤ 30; omega, by show m.length ≤ 30; omega⟩, ge1, by show w.heap.size ≤ g2; omega, nc1, q' + 1, by omega, ?_, ?_⟩
          · exact (hr5.setCell (by omega) (by omega) _).setCell (by omega) (by omega) _
          · exact (hb5'.setCell (Or.inl (by show w.heap.size ≤ R; omega)) _).setCell (Or.inl (by show w.heap.size ≤ R; omega)) _

theorem l71Seen_any (B rb p : Nat) (a : Option Addr) (b o c : Nat) (ll : List (List M.D)) (w : World) (hp : p ≤ 50000) (hl : ll.length ≤ 1048576) (hls : ∀ t ∈ ll, t.length ≤ 1048576) (hn : M.nreads ll ≤ 21) (h : Rdr w B rb p) (hd : DoSS w a b o ll) :
    Calls Try.prog 26 #[.pointer (some ⟨rb, 0, none⟩), .agg #[.slice a ll.length c]] w fun e w' => ∃ s : Sn, e = .returned (.agg #[.slice s.a1 s.l1.length s.c1, .slice s.a2 s.l2.length s.c2]) ∧ s.At w' ∧ s.Le 30 ∧ w.heap.size ≤ s.b1 ∧ w.heap.size ≤ s.b2 ∧ (s.a1 = none → s.c1 = 0) ∧ ∃ p' : Nat, p' ≤ p + 30 ∧ Rdr w' B rb p' ∧ But rb w w' :=
  (l71Seen_cap B rb p a b o c ll w hp hl hls hn h hd).mono fun _ _ ⟨s, h1, h2, h3, h4, h5, h6, h7⟩ => ⟨s, h1, h2, h3, h4, h5, h6.1, h7⟩

end Go.Proofs.Ytjdpoemlcchfcaa
