/- spec.DrawSeenLess: what was seen, drawn twice. Of codes of at most 1048576 bytes. -/
import Derived.Test.YtefmkenljongpaaDoorDrSnF
import Derived.Test.YtefmkenljongpaaDoorDrOp
import Derived.Test.YtefmkenljongpaaDoorDrPr
import Derived.Laws.AppendOwnNone
namespace Go.Proofs.YtefmkenljongpaaDoor
open Go.RowKit

theorem M.tot_le {ll : List (List M.D)} (f : Int → Bool) (h3 : ll.length ≤ 3) (h7 : ∀ t ∈ ll, t.length ≤ 7) : M.tot f ll ≤ 21 := by
  have key : ∀ l : List (List M.D), (∀ t ∈ l, t.length ≤ 7) → M.tot f l ≤ 7 * l.length := fun l => by
    induction l with
    | nil => intro _; simp [M.tot]
    | cons t l ih =>
      intro h
      have h1 := ih (fun t ht => h t (by simp [ht]))
      have h2 := h t (by simp)
      have h3 := M.cnt_le f t
      simp only [M.tot, List.length_cons]
      omega
  have := key ll h7
  omega

set_option maxHeartbeats 2000000 in
set_option maxRecDepth 100000 in
theorem DrawSeenLessF_any (ca : Option Addr) (cb co L C : Nat) (x : Nat → Int) (w : World) (hL : L ≤ C) (had : 0 < L → ca = some ⟨cb, co, none⟩) (hc : ∀ i, i < L → w.cell? ⟨cb, co + i, none⟩ = some (.int .u8 (x i)) ∧ 0 ≤ x i ∧ x i ≤ 255) (hLb : L ≤ 1048576) :
    Calls Tryd.prog 5 #[.slice ca L C] w fun e w' => ∃ s t : Sn, e = .returned (.tuple #[.agg #[.slice s.a1 s.l1.length s.c1, .slice s.a2 s.l2.length s.c2], .agg #[.slice t.a1 t.l1.length t.c1, .slice t.a2 t.l2.length t.c2]]) ∧ s.At w' ∧ t.At w' ∧ s.Le 30 ∧ t.Le 30 ∧ (Few s.l1 ∧ Few s.l2 ∧ Few t.l1 ∧ Few t.l2) ∧ Below w.heap.size w w' := by
  obtain ⟨i0, hi, hz0, hz1, hz2⟩ := info_parts Tryd.infoInt
  go_enter Tryd.func5, Tryd.ntmps5
  go_wp2_with fail
  have hb0 := below2 w (.cells #[.slice none 0 0, .slice none 0 0] 25) (.cells #[.slice none 0 0, .slice none 0 0] 25)
  have hR0 : Slot2 ((w.alloc (.cells #[.slice none 0 0, .slice none 0 0] 25)).alloc (.cells #[.slice none 0 0, .slice none 0 0] 25)) w.heap.size (.slice none 0 0) (.slice none 0 0) := ⟨by rw [alloc_old _ _ _ (by simp only [World.size_alloc]; omega)]; exact alloc_new _ _ _ rfl⟩
  have hQ0 : Slot2 ((w.alloc (.cells #[.slice none 0 0, .slice none 0 0] 25)).alloc (.cells #[.slice none 0 0, .slice none 0 0] 25)) (w.heap.size + 1) (.slice none 0 0) (.slice none 0 0) := ⟨alloc_new _ _ _ (by simp only [World.size_alloc])⟩
  have hsz0 : ((w.alloc (.cells #[.slice none 0 0, .slice none 0 0] 25)).alloc (.cells #[.slice none 0 0, .slice none 0 0] 25)).heap.size = w.heap.size + 1 + 1 := by simp only [World.size_alloc]
  generalize (w.alloc (.cells #[.slice none 0 0, .slice none 0 0] 25)).alloc (.cells #[.slice none 0 0, .slice none 0 0] 25) = W0 at *
  refine (l6Open_any ca cb co L C x _ hL had (fun i hi => ⟨by rw [hb0.cell (p := ⟨cb, co + i, none⟩) (World.block_lt_of_cell? _ _ (hc i hi).1)]; exact (hc i hi).1, (hc i hi).2⟩) hLb).mono ?_
  rintro e w1 ⟨rfl, hr1, hb1⟩
  rw [hsz0] at hr1 ⊢
  obtain ⟨rb, hrb⟩ : ∃ rb, w.heap.size + 1 + 1 = rb := ⟨_, rfl⟩
  rw [hrb] at hr1 ⊢
  have hb1w : Below w.heap.size w w1 := hb0.trans (hb1.mono (by omega))
  have hR1 := hR0.but (But.of (rb := rb) hb1) (by omega)
  have hQ1 := hQ0.but (But.of (rb := rb) hb1) (by omega)
  have hlt1 := hr1.lt
  clear hR0 hQ0 hb0 hb1 hsz0 hc had
  go_wp2_with fail
  refine (l71Prog_any rb rb 0 _ (by omega) hr1).mono ?_
  rintro e w2 ⟨ll, vs, v, rfl, hB2, hprog, _, _, p2, hp2, hr2, hb2⟩
  obtain ⟨h3, h7⟩ := M.prog_le hprog
  have hnr : M.nreads ll ≤ 21 := by rw [M.nreads_ok hprog]; have := M.tot_le M.reads h3 h7; omega
  have hR2 := hR1.but hb2 (by omega)
  have hQ2 := hQ1.but hb2 (by omega)
  have hsz2 := hb2.size
  obtain ⟨a, g, c, rfl, hd2⟩ := hB2.ss
  clear hr1 hR1 hQ1
  go_wp2_with fail
  have hal := (But.refl rb w2).alloc (.cells #[.slice a ll.length c] 40)
  have hB3 := hB2.but hal (by omega)
  have hR3 := hR2.but hal (by omega)
  have hQ3 := hQ2.but hal (by omega)
  have cP3 : (w2.alloc (.cells #[.slice a ll.length c] 40)).cell? ⟨w2.heap.size, 0, none⟩ = some (.slice a ll.length c) := by simp
  refine (l71SeenF_any rb rb p2 a g 0 c ll _ (by omega) (by omega) (fun t ht => by have := h7 t ht; omega) hnr (hr2.alloc _) (hd2.below (below1 w2 _) (Nat.le_refl _))).mono ?_
  rintro e w4 ⟨s, rfl, hs4, sle, ⟨sf1, sf2⟩, sb1, sb2, snc, p4, hp4, hr4, hb4⟩
  simp only [World.size_alloc] at sb1 sb2
  have hB4 := hB3.but hb4 (by omega)
  have hR4 := hR3.but hb4 (by omega)
  have hQ4 := hQ3.but hb4 (by omega)
  have cP4 : w4.cell? ⟨w2.heap.size, 0, none⟩ = some (.slice a ll.length c) := (hb4.cell (p := ⟨w2.heap.size, 0, none⟩) (by simp) (by show w2.heap.size ≠ rb; omega)).trans cP3
  have hlt4 : w2.heap.size < w4.heap.size := World.block_lt_of_cell? _ _ cP4
  have hb4' := (hb2.trans hal).trans hb4
  clear hB2 hB3 hR2 hR3 hQ2 hQ3 cP3 hal hb4 hr2 hb2 hd2
  go_wp2_with fail
  have hal := (But.refl rb w4).alloc (.cells #[.slice s.a1 s.l1.length s.c1, .slice s.a2 s.l2.length s.c2] 25)
  have hB5 := hB4.but hal (by omega)
  have hR5 := hR4.but hal (by omega)
  have hQ5 := hQ4.but hal (by omega)
  have hs5 := hs4.but hal (by omega) (by omega)
  have hA5 : Slot2 (w4.alloc (.cells #[.slice s.a1 s.l1.length s.c1, .slice s.a2 s.l2.length s.c2] 25)) w4.heap.size (.slice s.a1 s.l1.length s.c1) (.slice s.a2 s.l2.length s.c2) := ⟨alloc_new _ _ _ rfl⟩
  obtain ⟨a', g', c', ev, hd5⟩ := hB5.ss
  simp only [Value.slice.injEq] at ev
  obtain ⟨rfl, _, rfl⟩ := ev
  refine (l71SeenF_any rb rb p4 a g' 0 c ll _ (by omega) (by omega) (fun t ht => by have := h7 t ht; omega) hnr (hr4.alloc _) hd5).mono ?_
  rintro e w6 ⟨t, rfl, ht6, tle, ⟨tf1, tf2⟩, tb1, tb2, tnc, p6, hp6, hr6, hb6⟩
  simp only [World.size_alloc] at tb1 tb2
  have hR6 := hR5.but hb6 (by omega)
  have hQ6 := hQ5.but hb6 (by omega)
  have hA6 := hA5.but hb6 (by omega)
  have hs6 := hs5.but hb6 (by omega) (by omega)
  have hb6' := (hb4'.trans hal).trans hb6
  have sl1 : 0 < s.l1.length → s.b1 < w6.heap.size := hs6.reads.lt
  have sl2 : 0 < s.l2.length → s.b2 < w6.heap.size := hs6.last.lt
  have tl1 : 0 < t.l1.length → t.b1 < w6.heap.size := ht6.reads.lt
  have tl2 : 0 < t.l2.length → t.b2 < w6.heap.size := ht6.last.lt
  have hlt6 := hA6.lt
  clear hB4 hB5 hR4 hR5 hQ4 hQ5 hs4 hs5 hA5 hal hb6 hr4 hb4' hd5
  go_wp2_with fail
  have hal := (But.refl rb w6).alloc (.cells #[.slice t.a1 t.l1.length t.c1, .slice t.a2 t.l2.length t.c2] 25)
  refine (pick_rdr rb rb p6 2 _ (by omega) (by omega) (by omega) (hr6.alloc _)).mono ?_
  rintro e w8 ⟨r8, rfl, r80, r81, hr8, hb8⟩
  have hR8 := (hR6.but hal (by omega)).but hb8 (by omega)
  have hQ8 := (hQ6.but hal (by omega)).but hb8 (by omega)
  have hA8 := (hA6.but hal (by omega)).but hb8 (by omega)
  have hT8 := (⟨alloc_new _ _ _ rfl⟩ : Slot2 (w6.alloc (.cells #[.slice t.a1 t.l1.length t.c1, .slice t.a2 t.l2.length t.c2] 25)) w6.heap.size (.slice t.a1 t.l1.length t.c1) (.slice t.a2 t.l2.length t.c2)).but hb8 (by omega)
  have hs8 := (hs6.but hal (by omega) (by omega)).but hb8 (by omega) (by omega)
  have ht8 := (ht6.but hal (by omega) (by omega)).but hb8 (by omega) (by omega)
  have hb8' : Below w.heap.size w w8 := But.below hb1w ((hb6'.trans hal).trans hb8) (by omega)
  have hsz8 := hb8.size
  simp only [World.size_alloc] at hsz8
  clear hR6 hQ6 hA6 hs6 ht6 hal hb8 hr6 hb6' cP4
  have L4 := hA8.lt
  have L6 := hT8.lt
  generalize hG4 : w4.heap.size = G4 at *
  generalize hG6 : w6.heap.size = G6 at *
  by_cases h0 : r8 = 0
  · subst h0
    have A0 := hA8.c0
    have T0 := hT8.c0
    have Tf := hT8.fz
    have hsz8' : w.heap.size ≤ w8.heap.size := by omega
    have hown : (w8.alloc (.cells #[] 3)).ownsRow w8.heap.size 3 1 (.slice (some ⟨w8.heap.size, 0, none⟩) 0 0) 0 (nums []) := World.ownsRow_made w8 _ 0 (Nat.le_refl _) (Nat.zero_le _) rfl
    have hal := (But.refl rb w8).alloc (.cells #[] 3)
    have hAa := hA8.but hal (by omega)
    have hTa := hT8.but hal (by omega)
    have hRa := hR8.but hal (by omega)
    have hQa := hQ8.but hal (by omega)
    have hsa := hs8.but hal (by omega) (by omega)
    have hta := ht8.but hal (by omega) (by omega)
    have hba := hb8'.alloc hb8'.size (.cells #[] 3)
    have sl30 := sle.reads
    cases hsn : s.a1 with
    | none =>
      have hc0 := snc hsn
      have hl0 : s.l1 = [] := by
        rcases Nat.eq_zero_or_pos s.l1.length with h | h
        · exact List.length_eq_zero_iff.1 h
        · have := hs8.reads.addr h; rw [hsn] at this; cases this
      rw [hsn, hl0, hc0, List.length_nil] at A0
      go_wp2_with (at_builtin; refine wpList_append_own_none rfl (.tmp 21) (.tmp 23) 23 rfl w8.heap.size 3 i0 1 Tryd.underlying23 hi _ _ _ rfl hown rfl ?_)
      have hal' := (But.refl rb (w8.setCell ⟨G6, 0, none⟩ (.slice (some ⟨w8.heap.size, 0, none⟩) 0 0))).alloc (.cells #[] 3)
      have hAc := (hA8.far (b' := G6) (i := 0) (by omega) (.slice (some ⟨w8.heap.size, 0, none⟩) 0 0)).but hal' (by omega)
      have hTc := (hT8.set0 (.slice (some ⟨w8.heap.size, 0, none⟩) 0 0)).but hal' (by omega)
      have hRc := (hR8.far (b' := G6) (i := 0) (by omega) (.slice (some ⟨w8.heap.size, 0, none⟩) 0 0)).but hal' (by omega)
      have hQc := (hQ8.far (b' := G6) (i := 0) (by omega) (.slice (some ⟨w8.heap.size, 0, none⟩) 0 0)).but hal' (by omega)
      have hsc := (hs8.far (B := G6) (i := 0) (u := .slice (some ⟨w8.heap.size, 0, none⟩) 0 0) (fun h => by have := sl1 h; omega) (fun h => by have := sl2 h; omega)).but hal' (by omega) (by omega)
      have htc := (ht8.far (B := G6) (i := 0) (u := .slice (some ⟨w8.heap.size, 0, none⟩) 0 0) (fun h => by have := tl1 h; omega) (fun h => by have := tl2 h; omega)).but hal' (by omega) (by omega)
      have htd : (Sn.mk (some ⟨w8.heap.size, 0, none⟩) w8.heap.size 0 0 [] t.a2 t.b2 t.o2 t.c2 t.l2).At ((w8.setCell ⟨G6, 0, none⟩ (.slice (some ⟨w8.heap.size, 0, none⟩) 0 0)).alloc (.cells #[] 3)) := ⟨IntS.nil _ _ _ _, htc.last⟩
      have hbc := (hb8'.setCell (p := ⟨G6, 0, none⟩) (by show w.heap.size ≤ G6; omega) (.slice (some ⟨w8.heap.size, 0, none⟩) 0 0)).alloc (by simp [World.setCell]; omega) (.cells #[] 3)
      rw [hsn, hl0, hc0, List.length_nil] at hAc
      have A0 := hAc.c0; have A1 := hAc.c1; have T0 := hTc.c0; have T1 := hTc.c1; have R0 := hRc.c0; have R1 := hRc.c1; have Q0 := hQc.c0; have Q1 := hQc.c1; have Rf := hRc.fz; have Qf := hQc.fz
      go_wp2_with fail
      go_region
      go_wp2_with fail
      refine bodyPost_ret (v := .tuple #[.agg #[.slice none 0 0, .slice s.a2 s.l2.length s.c2], .agg #[.slice (some ⟨w8.heap.size, 0, none⟩) 0 0, .slice t.a2 t.l2.length t.c2]]) (by simp [results, Tryd.results5, go_sem, R0, R1, Q0, Q1]) rfl ⟨s, ⟨some ⟨w8.heap.size, 0, none⟩, w8.heap.size, 0, 0, [], t.a2, t.b2, t.o2, t.c2, t.l2⟩, by rw [hsn, hl0, hc0]; rfl, ?_, ?_, sle, ⟨by simp, tle.last⟩, ⟨sf1, sf2, Few.nil, tf2⟩, ?_⟩
      · exact (((((hsc.far (fun _ => by omega) (fun _ => by omega)).far (fun _ => by omega) (fun _ => by omega)).far (fun _ => by omega) (fun _ => by omega)).far (fun _ => by omega) (fun _ => by omega))).below (Below.refl _ _).drew (Nat.le_refl _)
      · exact (((((htd.far (fun h => absurd h (Nat.lt_irrefl _)) (fun _ => by show t.b2 ≠ _; omega)).far (fun h => absurd h (Nat.lt_irrefl _)) (fun _ => by show t.b2 ≠ _; omega)).far (fun h => absurd h (Nat.lt_irrefl _)) (fun _ => by show t.b2 ≠ _; omega)).far (fun h => absurd h (Nat.lt_irrefl _)) (fun _ => by show t.b2 ≠ _; omega))).below (Below.refl _ _).drew (Nat.le_refl _)
      · exact ((((hbc.setCell (by show w.heap.size ≤ w.heap.size; omega) _).setCell (by show w.heap.size ≤ w.heap.size; omega) _).setCell (by show w.heap.size ≤ w.heap.size + 1; omega) _).setCell (by show w.heap.size ≤ w.heap.size + 1; omega) _).drew
    | some ad =>
      have A0' : w8.cell? ⟨G4, 0, none⟩ = some (.slice (some ad) s.l1.length s.c1) := by rw [← hsn]; exact A0
      clear A0
      go_wp2_with (at_builtin; refine wpList_append_own _ rfl (.tmp 21) (.tmp 23) 23 rfl w8.heap.size 3 i0 _ 1 8 Tryd.underlying23 hi hz0 hz1 hz2 rfl (by decide) _ _ _ rfl hown ad s.l1.length s.c1 (nums s.l1) rfl (by simp [nums]) ?c1 ?c2 ?c3 ?c4 ?c5 ?_)
      case c1 =>
        intro j u hj
        have hjl : j < s.l1.length := by
          have := (List.getElem?_eq_some_iff.1 hj).1
          simpa [nums] using this
        have had := hs8.reads.addr (by omega)
        rw [hsn] at had
        simp only [Option.some.injEq] at had
        subst had
        rw [Go.WideShapes.add_plain]
        have := hsa.reads.row j hjl
        rw [this]
        simpa [nums, hjl] using hj
      case c2 => intro u hu; simp [nums] at hu; obtain ⟨_, _, rfl⟩ := hu; rfl
      case c3 => unfold maxLen; omega
      case c4 => omega
      case c5 => simp
      intro v' w9 hown9 hg9 _
      have hown9' : w9.ownsRow w8.heap.size 3 1 v' s.l1.length (nums s.l1) := by
        simpa [nums] using hown9
      have hAb := hAa.grown hg9 hown
      have hTb := hTa.grown hg9 hown
      have hRb := hRa.grown hg9 hown
      have hQb := hQa.grown hg9 hown
      have hsb := hsa.kept hg9 (fun hl e => by have := hs8.reads.lt hl; simp [Value.ownBlock] at e; omega) (fun hl e => by have := hs8.last.lt hl; simp [Value.ownBlock] at e; omega)
      have htb := hta.kept hg9 (fun hl e => by have := ht8.reads.lt hl; simp [Value.ownBlock] at e; omega) (fun hl e => by have := ht8.last.lt hl; simp [Value.ownBlock] at e; omega)
      have hbb : Below w.heap.size w w9 := ⟨hg9.os.trans hba.os, hg9.tape.trans hba.tape, hg9.output.trans hba.output, Nat.le_trans hba.size hg9.size, fun k hk => (hg9.block k (by simp; omega) (fun e => by simp [Value.ownBlock] at e; omega)).trans (hba.block k hk)⟩
      obtain ⟨a9, g9, c9, rfl, i9, ge9, _⟩ := own_nums (own_slot (i := 0) hown9' hTb v')
      have T9 := hTb.c0
      have Tf9 := hTb.fz
      have hAc := hAb.far (b' := G6) (i := 0) (by omega) (.slice a9 s.l1.length c9)
      have hTc := hTb.set0 (.slice a9 s.l1.length c9)
      have hRc := hRb.far (b' := G6) (i := 0) (by omega) (.slice a9 s.l1.length c9)
      have hQc := hQb.far (b' := G6) (i := 0) (by omega) (.slice a9 s.l1.length c9)
      have hsc := hsb.far (B := G6) (i := 0) (u := .slice a9 s.l1.length c9) (fun h => by have := sl1 h; omega) (fun h => by have := sl2 h; omega)
      have htc := htb.far (B := G6) (i := 0) (u := .slice a9 s.l1.length c9) (fun h => by have := tl1 h; omega) (fun h => by have := tl2 h; omega)
      have htd : (Sn.mk a9 g9 0 c9 s.l1 t.a2 t.b2 t.o2 t.c2 t.l2).At (w9.setCell ⟨G6, 0, none⟩ (.slice a9 s.l1.length c9)) := ⟨i9, htc.last⟩
      have hbc := hbb.setCell (p := ⟨G6, 0, none⟩) (by show w.heap.size ≤ G6; omega) (.slice a9 s.l1.length c9)
      rw [hsn] at hAc
      have A0 := hAc.c0; have A1 := hAc.c1; have T0 := hTc.c0; have T1 := hTc.c1; have R0 := hRc.c0; have R1 := hRc.c1; have Q0 := hQc.c0; have Q1 := hQc.c1; have Rf := hRc.fz; have Qf := hQc.fz
      go_wp2_with fail
      go_region
      go_wp2_with fail
      refine bodyPost_ret (v := .tuple #[.agg #[.slice (some ad) s.l1.length s.c1, .slice s.a2 s.l2.length s.c2], .agg #[.slice a9 s.l1.length c9, .slice t.a2 t.l2.length t.c2]]) (by simp [results, Tryd.results5, go_sem, R0, R1, Q0, Q1]) rfl ⟨s, ⟨a9, g9, 0, c9, s.l1, t.a2, t.b2, t.o2, t.c2, t.l2⟩, by rw [hsn], ?_, ?_, sle, ⟨sle.reads, tle.last⟩, ⟨sf1, sf2, sf1, tf2⟩, ?_⟩
      · exact (((((hsc.far (fun _ => by omega) (fun _ => by omega)).far (fun _ => by omega) (fun _ => by omega)).far (fun _ => by omega) (fun _ => by omega)).far (fun _ => by omega) (fun _ => by omega))).below (Below.refl _ _).drew (Nat.le_refl _)
      · exact (((((htd.far (fun _ => by show g9 ≠ _; omega) (fun _ => by show t.b2 ≠ _; omega)).far (fun _ => by show g9 ≠ _; omega) (fun _ => by show t.b2 ≠ _; omega)).far (fun _ => by show g9 ≠ _; omega) (fun _ => by show t.b2 ≠ _; omega)).far (fun _ => by show g9 ≠ _; omega) (fun _ => by show t.b2 ≠ _; omega))).below (Below.refl _ _).drew (Nat.le_refl _)
      · exact ((((hbc.setCell (by show w.heap.size ≤ w.heap.size; omega) _).setCell (by show w.heap.size ≤ w.heap.size; omega) _).setCell (by show w.heap.size ≤ w.heap.size + 1; omega) _).setCell (by show w.heap.size ≤ w.heap.size + 1; omega) _).drew
  · have h0' : (r8 == 0) = false := by simpa using h0
    have A0 := hA8.c0; have A1 := hA8.c1; have T0 := hT8.c0; have T1 := hT8.c1; have R0 := hR8.c0; have R1 := hR8.c1; have Q0 := hQ8.c0; have Q1 := hQ8.c1; have Rf := hR8.fz; have Qf := hQ8.fz
    go_wp2_with fail
    go_region
    go_wp2_with fail
    refine bodyPost_ret (v := .tuple #[.agg #[.slice s.a1 s.l1.length s.c1, .slice s.a2 s.l2.length s.c2], .agg #[.slice t.a1 t.l1.length t.c1, .slice t.a2 t.l2.length t.c2]]) (by simp [results, Tryd.results5, go_sem, R0, R1, Q0, Q1]) rfl ⟨s, t, rfl, ?_, ?_, sle, tle, ⟨sf1, sf2, tf1, tf2⟩, ?_⟩
    · exact (((((hs8.far (fun _ => by omega) (fun _ => by omega)).far (fun _ => by omega) (fun _ => by omega)).far (fun _ => by omega) (fun _ => by omega)).far (fun _ => by omega) (fun _ => by omega))).below (Below.refl _ _).drew (Nat.le_refl _)
    · exact (((((ht8.far (fun _ => by omega) (fun _ => by omega)).far (fun _ => by omega) (fun _ => by omega)).far (fun _ => by omega) (fun _ => by omega)).far (fun _ => by omega) (fun _ => by omega))).below (Below.refl _ _).drew (Nat.le_refl _)
    · exact ((((hb8'.setCell (by show w.heap.size ≤ w.heap.size; omega) _).setCell (by show w.heap.size ≤ w.heap.size; omega) _).setCell (by show w.heap.size ≤ w.heap.size + 1; omega) _).setCell (by show w.heap.size ≤ w.heap.size + 1; omega) _).drew

end Go.Proofs.YtefmkenljongpaaDoor
