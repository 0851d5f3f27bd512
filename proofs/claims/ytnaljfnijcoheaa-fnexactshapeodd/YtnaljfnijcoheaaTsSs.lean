/- spec.TurnSeen. Of programs of at most 1048576 threads and steps of a thread, of as many numbers. -/
import Derived.Test.YtnaljfnijcoheaaTsTs
import Derived.Test.YtnaljfnijcoheaaTsAp
import Derived.Test.YtnaljfnijcoheaaTnSr
import Derived.Test.YtnaljfnijcoheaaMathR
import Derived.Test.YtnaljfnijcoheaaWide
namespace Go.Proofs.Ytnaljfnijcoheaa
open Go.RowKit

/-- Where the reads of the first threads begin. -/
def M.froms (ll : List (List M.D)) (n : Nat) : List Int := (List.range (n + 1)).map fun i => ((M.tot M.reads (ll.take i) : Nat) : Int)
theorem M.froms_len (ll : List (List M.D)) (n : Nat) : (M.froms ll n).length = n + 1 := by simp [M.froms]
theorem M.froms_get (ll : List (List M.D)) (n i : Nat) (h : i < (M.froms ll n).length) : (M.froms ll n)[i] = ((M.tot M.reads (ll.take i) : Nat) : Int) := by simp [M.froms]
theorem M.froms_succ (ll : List (List M.D)) (n : Nat) : M.froms ll (n + 1) = M.froms ll n ++ [((M.tot M.reads (ll.take (n + 1)) : Nat) : Int)] := by
  unfold M.froms
  rw [List.range_succ (n := n + 1), List.map_append]; rfl

theorem nums_app (l m : List Int) : nums (l ++ m) = nums l ++ nums m := by simp [nums]
theorem ownsRow_blk {w w' : World} {base : Nat} {e : TypeId} {size : Nat} {v : Value} {n : Nat} {xs : List Value} (h : w.ownsRow base e size v n xs) (hb : ∀ k, v.ownBlock = some k → w'.heap[k]? = w.heap[k]?) : w'.ownsRow base e size v n xs := by
  obtain ⟨h1, h2⟩ := h
  refine ⟨h1, ?_⟩
  rcases h2 with h2 | ⟨g, cap, cur, hv, hg, hh, r⟩
  · exact Or.inl h2
  · refine Or.inr ⟨g, cap, cur, hv, hg, ?_, r⟩
    rw [hb g (by rw [hv]; rfl)]
    exact hh

set_option maxHeartbeats 4000000 in
set_option maxRecDepth 100000 in
set_option linter.unusedSimpArgs false in
theorem sturnSeen_any (a : Option Addr) (b o c : Nat) (ll : List (List M.D)) (hl : ll.length ≤ 1048576) (hpc : ll.length ≤ c) (hls : ∀ t ∈ ll, t.length ≤ 1048576) (s : Sn) (hs : s.Le 1048576) (hcap : s.l1.length ≤ s.c1) (ga : Option Addr) (gb go gc : Nat) (gs : List Int) (hgl : gs.length ≤ 1048576) (w : World) (h : DoSS w a b o ll) (sa : s.At w) (hG : IntS w ga gb go gs) :
    Calls Try.prog 10 #[.agg #[.slice a ll.length c], .agg #[.slice s.a1 s.l1.length s.c1, .slice s.a2 s.l2.length s.c2], .slice ga gs.length gc] w fun e w' => ∃ v1 v2, e = .returned (.tuple #[.agg #[v1, v2], .bool (M.turnSeen ll s.l1 s.l2 gs).isSome]) ∧ TsAns w w' v1 v2 ((M.turnSeen ll s.l1 s.l2 gs).getD ([], [])).1 ((M.turnSeen ll s.l1 s.l2 gs).getD ([], [])).2 := by
  obtain ⟨i0, hi, hz0, hz1, hz2⟩ := info_parts Try.infoInt
  have b3 := below3 w (.cells #[.slice a ll.length c] 25) (.cells #[.slice s.a1 s.l1.length s.c1, .slice s.a2 s.l2.length s.c2] 28) (.cells #[.slice none 0 0, .slice none 0 0] 28)
  have h1 := h.below b3 (Nat.le_refl _)
  have sa1 := sa.below b3 (Nat.le_refl _)
  have hG1 := hG.below b3 (Nat.le_refl _)
  have hX := ((Slot1.new w (.slice a ll.length c) 25).bl' (below1 _ (.cells #[.slice s.a1 s.l1.length s.c1, .slice s.a2 s.l2.length s.c2] 28))).bl' (below1 _ (.cells #[.slice none 0 0, .slice none 0 0] 28))
  have hY : Slot2 ((w.alloc (.cells #[.slice a ll.length c] 25)).alloc (.cells #[.slice s.a1 s.l1.length s.c1, .slice s.a2 s.l2.length s.c2] 28)) (w.heap.size + 1) (.slice s.a1 s.l1.length s.c1) (.slice s.a2 s.l2.length s.c2) := ⟨by have := heap_alloc_new (w.alloc (.cells #[.slice a ll.length c] 25)) (.cells #[.slice s.a1 s.l1.length s.c1, .slice s.a2 s.l2.length s.c2] 28); rwa [World.size_alloc] at this⟩
  have hZ : Slot2 (((w.alloc (.cells #[.slice a ll.length c] 25)).alloc (.cells #[.slice s.a1 s.l1.length s.c1, .slice s.a2 s.l2.length s.c2] 28)).alloc (.cells #[.slice none 0 0, .slice none 0 0] 28)) (w.heap.size + 1 + 1) (.slice none 0 0) (.slice none 0 0) := ⟨by have := heap_alloc_new ((w.alloc (.cells #[.slice a ll.length c] 25)).alloc (.cells #[.slice s.a1 s.l1.length s.c1, .slice s.a2 s.l2.length s.c2] 28)) (.cells #[.slice none 0 0, .slice none 0 0] 28); rwa [World.size_alloc, World.size_alloc] at this⟩
  have hY' := hY.bel2 (below1 _ (.cells #[.slice none 0 0, .slice none 0 0] 28))
  go_enter Try.func10, Try.ntmps10
  go_wp2_with fail
  generalize ((w.alloc (.cells #[.slice a ll.length c] 25)).alloc (.cells #[.slice s.a1 s.l1.length s.c1, .slice s.a2 s.l2.length s.c2] 28)).alloc (.cells #[.slice none 0 0, .slice none 0 0] 28) = W at *
  clear hY
  have CP := sseenOk_any a b o c ll s W hl hls hs h1 sa1
  obtain ⟨hs1, hs2⟩ := hs
  cases hp : M.seenOk ll s.l1 s.l2
  · rw [hp] at CP
    have hno := M.turnSeen_bad (row := gs) hp
    refine CP.mono ?_
    rintro e W1 ⟨rfl, b1⟩
    have hZ1 := hZ.bel2 b1
    have z0 := hZ1.c0
    have z1 := hZ1.c1
    have zf := hZ1.fz
    have lz := hZ1.lt
    have bw1 := b3.trans (b1.mono b3.size)
    go_wp2_with fail
    have q1 := (hZ1.set0 (.slice none 0 0)).set1 (.slice none 0 0)
    have q0 := q1.c0
    have q2 := q1.c1
    exact bodyPost_ret (v := .tuple #[.agg #[.slice none 0 0, .slice none 0 0], .bool false]) (by simp [results, Try.results10, go_sem, q0, q2]) rfl ⟨_, _, by rw [hno]; rfl, by rw [hno]; exact ⟨World.ownsRow_nil _ _ _ _, World.ownsRow_nil _ _ _ _, fun k hk => by simp [Value.ownBlock] at hk, (bw1.setCell (by show w.heap.size ≤ w.heap.size + 1 + 1; omega) _).setCell (by show w.heap.size ≤ w.heap.size + 1 + 1; omega) _⟩⟩
  · rw [hp] at CP
    obtain ⟨hpg, hl1, hl2⟩ := M.seenOk_len hp
    obtain ⟨h3, h7⟩ := M.prog_le hpg
    have CO := fun W hW => l22Row_any ga gb go gc gs ll.length W hgl (by omega) hW
    cases hok : M.rowN gs ll.length
    · rw [hok] at CO
      have hno := M.turnSeen_row (l1 := s.l1) (l2 := s.l2) hok
      clear hl1 hl2
      refine CP.mono ?_
      rintro e W1 ⟨rfl, b1⟩
      have hZ1 := hZ.bel2 b1
      have z0 := hZ1.c0
      have z1 := hZ1.c1
      have zf := hZ1.fz
      have lz := hZ1.lt
      have x0 := (hX.bl' b1).c
      have hG2 := hG1.below b1 (Nat.le_refl _)
      have bw1 := b3.trans (b1.mono b3.size)
      go_wp2_with (first | (go_at_call 42; refine (CO _ hG2).mono ?_; rintro e W2 ⟨rfl, rfl⟩))
      have q1 := (hZ1.set0 (.slice none 0 0)).set1 (.slice none 0 0)
      have q0 := q1.c0
      have q2 := q1.c1
      exact bodyPost_ret (v := .tuple #[.agg #[.slice none 0 0, .slice none 0 0], .bool false]) (by simp [results, Try.results10, go_sem, q0, q2]) rfl ⟨_, _, by rw [hno]; rfl, by rw [hno]; exact ⟨World.ownsRow_nil _ _ _ _, World.ownsRow_nil _ _ _ _, fun k hk => by simp [Value.ownBlock] at hk, (bw1.setCell (by show w.heap.size ≤ w.heap.size + 1 + 1; omega) _).setCell (by show w.heap.size ≤ w.heap.size + 1 + 1; omega) _⟩⟩
    · rw [hok] at CO
      have HYES : Hid (M.turnSeen ll s.l1 s.l2 gs = some ((M.pick [] gs (M.parts ll s.l1)).flatten, s.l2)) := M.turnSeen_yes hp hok
      have HR : Hid (M.rowN gs ll.length = true) := hok
      have HL1 : Hid (s.l1.length = M.tot M.reads ll) := hl1
      have HL2 : Hid (s.l2.length = 3) := hl2
      have HPG : Hid (M.prog ll = true) := hpg
      clear hp hok hl1 hl2 hpg
      refine CP.mono ?_
      rintro e W1 ⟨rfl, b1⟩
      have x0 := (hX.bl' b1).c
      have hG2 := hG1.below b1 (Nat.le_refl _)
      go_wp2_with (first | (go_at_call 42; refine (CO _ hG2).mono ?_; rintro e W2 ⟨rfl, rfl⟩))
      have bw1 := b3.trans (b1.mono b3.size)
      have hX2 := hX.bl' b1
      have hY2 := hY'.bel2 b1
      have hZ2 := hZ.bel2 b1
      have D2 := h1.below b1 (Nat.le_refl _)
      have sa2 := sa1.below b1 (Nat.le_refl _)
      have lX := hX2.lt
      clear CP CO h1 hG1 sa1 hX hY' hZ b1 b3 x0
      have hE : (W2.alloc (.cells #[.int .i64 0] 3)).ownsRow W2.heap.size 3 1 (.slice (some ⟨W2.heap.size, 0, none⟩) 1 1) 1 (nums [0]) := World.ownsRow_lit W2 _ 1 (Nat.le_refl _) (by decide) rfl
      go_loopw [8, 9] (fun s8 s9 wr => ∃ n : Nat, s9 = .int .i64 n ∧ n ≤ ll.length ∧ wr.ownsRow W2.heap.size 3 1 s8 (M.froms ll n).length (nums (M.froms ll n)) ∧ Below W2.heap.size W2 wr) (fun _ s9 _ => ll.length - (intOf s9).toNat)
      case atStart => exact ⟨0, rfl, Nat.zero_le _, hE, below1 _ _⟩
      case round =>
        obtain ⟨n, rfl, hn, hown, hbel⟩ := hrel
        clear hE
        have hbs := hbel.size
        have hXr := hX2.bl' hbel
        have x0 := hXr.c
        have lXr := hXr.lt
        by_cases hlt : n < ll.length
        · obtain ⟨rfl⟩ := h.addr (by omega)
          have i1 : (n : Int) < ll.length := by omega
          have HF : Hid (M.froms ll (n + 1) = M.froms ll n ++ [((M.tot M.reads (ll.take n) + M.cnt M.reads ll[n] : Nat) : Int)]) := by show _ = _; rw [M.froms_succ, M.tot_take M.reads ll n hlt]
          have HFL : Hid ((M.froms ll n).length = n + 1) := M.froms_len ll n
          have hf0 : (M.froms ll n)[n]'(by rw [M.froms_len]; omega) = ((M.tot M.reads (ll.take n) : Nat) : Int) := M.froms_get ll n n _
          obtain ⟨fa, fg, fc, e8, hIf, hfge, _⟩ := own_nums hown
          have f0 := hIf.row n (by rw [M.froms_len]; omega)
          rw [hf0, Nat.zero_add] at f0
          obtain rfl : fa = some ⟨fg, 0, none⟩ := hIf.addr (by rw [M.froms_len]; omega)
          obtain rfl := e8
          have hTb : M.tot M.reads (ll.take n) ≤ 1000 ∧ M.cnt M.reads ll[n] ≤ 7 := by
            have h1 := M.tot_take_le M.reads ll n
            have h2 := (M.prog_uses HPG.out).1
            have h4 := M.tot_mono (f := M.reads) (g := M.uses) (fun k hk => by simp [M.uses, hk]) ll
            have h5 := M.cnt_le M.reads ll[n]
            have h6 := h7 _ (List.getElem_mem hlt)
            omega
          have hal := M.prog_alone HPG.out (List.getElem_mem hlt)
          have hDr := (D2.below hbel (Nat.le_refl _)).below (Below.refl wr.heap.size wr).drew (Nat.le_refl _)
          have hOne : DoSS wr.drew (if c = n then some ⟨b, o, none⟩ else some ⟨b, o + n, none⟩) b (o + n) [ll[n]] := by
            refine ⟨fun _ => ?_, fun i hi => ?_⟩
            · rw [if_neg (by omega)]
            · obtain rfl : i = 0 := by simp at hi; omega
              exact hDr.row n hlt
          have CR := sreads_any (if c = n then some ⟨b, o, none⟩ else some ⟨b, o + n, none⟩) b (o + n) (c - n) [ll[n]] wr.drew (by simp) (fun t ht => by simp at ht; rw [ht]; have := h7 _ (List.getElem_mem hlt); omega) hOne
          have hnr : M.nreads [ll[n]] = ((M.cnt M.reads ll[n] : Nat) : Int) := by rw [M.nreads_ok hal]; simp [M.tot]
          rw [hnr] at CR
          clear hnr hOne hDr hal hf0 hIf
          generalize M.cnt M.reads ll[n] = m at *
          generalize M.tot M.reads (ll.take n) = T at *
          generalize hfs : M.froms ll n = fs at *
          obtain ⟨fl, hfl⟩ : ∃ fl, fs.length = fl := ⟨_, rfl⟩
          rw [hfl] at hown ⊢
          have HFL2 : Hid (fl = n + 1) := by show _ = _; have := HFL.out; omega
          have HFL : Hid (fs.length = fl) := hfl
          have hfl1 : fl = n + 1 := HFL2.out
          have hnfl : (n : Int) < fl := by omega
          have hfl9 : fl ≤ 1000 := by omega
          clear hfl hfl1
          have hnc : (n : Int) + 1 ≤ c := by omega
          have hwTm : IntKind.i64.wrap ((T : Int) + m) = ((T + m : Nat) : Int) := by rw [show ((T : Int) + m) = ((T + m : Nat) : Int) by omega]; exact IntWalk.i64_in _ (by omega)
          have lfg : fg < wr.heap.size := World.block_lt_of_cell? _ _ f0
          have F5 : Hid (∀ (r1 : World), Below wr.heap.size wr r1 → ∀ (u5 : World), (r1.alloc (.cells #[.int .i64 ((T + m : Nat) : Int)] 3)).grownBy u5 (Value.slice (some ⟨fg, 0, none⟩) fl fc).ownBlock → Below W2.heap.size W2 u5 ∧ u5.cell? ⟨w.heap.size, 0, none⟩ = some (.slice (some ⟨b, o, none⟩) ll.length c)) := by
            intro r1 hb1 u5 hg
            have hb2 := hb1.trans ((below1 r1 (.cells #[.int .i64 ((T + m : Nat) : Int)] 3)).mono hb1.size)
            have hb3 := hbel.trans (hb2.mono hbel.size)
            have hb4 : Below W2.heap.size W2 u5 := below_grown hb3 hg (fun k hk => by have : fg = k := Option.some.inj hk; omega) hb3.size
            exact ⟨hb4, (hX2.bl' hb4).c⟩
          go_wp2_with fail
          refine wp_region_held_drew (S := fun w' => w'.cell? ⟨w.heap.size, 0, none⟩ = some (.slice (some ⟨b, o, none⟩) ll.length c)) (by kernel_rfl) (by exact x0) (fun hH => ?_)
          refine takeD 0 (some 33) (.slice (some ⟨fg, 0, none⟩) fl fc) hH rfl rfl (by kernel_rfl) (by kernel_rfl) (by kernel_rfl) (fun _ _ _ h => h) (Or.inl ⟨by rfl, by intro w' hSw; go_simp⟩) ?_
          simp only [Act.put, List.setIfInBounds_toArray, List.set_cons_zero, List.set_cons_succ]
          refine takeD 1 (some 34) (.slice (some ⟨fg, 0, none⟩) fl fc) hH rfl rfl (by kernel_rfl) (by kernel_rfl) (by kernel_rfl) (fun _ _ _ h => h) (Or.inl ⟨by rfl, by intro w' hSw; go_simp⟩) ?_
          simp only [Act.put, List.setIfInBounds_toArray, List.set_cons_zero, List.set_cons_succ]
          refine takeD 2 (some 35) (.int .i64 n) hH rfl rfl (by kernel_rfl) (by kernel_rfl) (by kernel_rfl) (fun _ _ _ h => h) (Or.inl ⟨by rfl, by intro w' hSw; go_simp⟩) ?_
          simp only [Act.put, List.setIfInBounds_toArray, List.set_cons_zero, List.set_cons_succ]
          refine takeD 3 (some 36) (.pointer (some ⟨fg, n, none⟩)) hH rfl rfl (by kernel_rfl) (by kernel_rfl) (by kernel_rfl) (fun _ _ _ h => h) (Or.inl ⟨by rfl, by intro w' hSw; go_simp⟩) ?_
          simp only [Act.put, List.setIfInBounds_toArray, List.set_cons_zero, List.set_cons_succ]
          refine takeD 5 (some 38) (.pointer (some ⟨w.heap.size, 0, none⟩)) hH rfl rfl (by kernel_rfl) (by kernel_rfl) (by kernel_rfl) (fun _ _ _ h => h) (Or.inl ⟨by rfl, by intro w' hSw; go_simp⟩) ?_
          simp only [Act.put, List.setIfInBounds_toArray, List.set_cons_zero, List.set_cons_succ]
          refine takeD 6 (some 39) (.slice (some ⟨b, o, none⟩) ll.length c) hH rfl rfl (by kernel_rfl) (by kernel_rfl) (by kernel_rfl) (fun _ _ _ h => h) (Or.inl ⟨by rfl, by intro w' hSw; have hc := hSw; go_simp⟩) ?_
          simp only [Act.put, List.setIfInBounds_toArray, List.set_cons_zero, List.set_cons_succ]
          refine takeD 7 (some 40) (.int .i64 n) hH rfl rfl (by kernel_rfl) (by kernel_rfl) (by kernel_rfl) (fun _ _ _ h => h) (Or.inl ⟨by rfl, by intro w' hSw; go_simp⟩) ?_
          simp only [Act.put, List.setIfInBounds_toArray, List.set_cons_zero, List.set_cons_succ]
          refine takeD 8 (some 41) (.int .i64 n) hH rfl rfl (by kernel_rfl) (by kernel_rfl) (by kernel_rfl) (fun _ _ _ h => h) (Or.inl ⟨by rfl, by intro w' hSw; go_simp⟩) ?_
          simp only [Act.put, List.setIfInBounds_toArray, List.set_cons_zero, List.set_cons_succ]
          refine takeD 9 (some 42) (.int .i64 ((n : Int) + 1)) hH rfl rfl (by kernel_rfl) (by kernel_rfl) (by kernel_rfl) (fun _ _ _ h => h) (Or.inl ⟨by rfl, by intro w' hSw; go_simp; exact IntWalk.i64_in _ (by omega)⟩) ?_
          simp only [Act.put, List.setIfInBounds_toArray, List.set_cons_zero, List.set_cons_succ]
          refine takeD 10 (some 43) (.slice (if c = n then some ⟨b, o, none⟩ else some ⟨b, o + n, none⟩) 1 (c - n)) hH rfl rfl (by kernel_rfl) (by kernel_rfl) (by kernel_rfl) (fun _ _ _ h => h) (Or.inl ⟨by rfl, by intro w' hSw; have hn1 : ((n : Int) + 1).toNat = n + 1 := (by omega); go_simp; intro hneg; omega⟩) ?_
          simp only [Act.put, List.setIfInBounds_toArray, List.set_cons_zero, List.set_cons_succ]
          refine takeD 11 (some 44) (.agg #[.slice (if c = n then some ⟨b, o, none⟩ else some ⟨b, o + n, none⟩) 1 (c - n)]) hH rfl rfl (by kernel_rfl) (by kernel_rfl) (by kernel_rfl) (fun _ _ _ h => h) (Or.inl ⟨by rfl, by intro w' hSw; go_simp⟩) ?_
          simp only [Act.put, List.setIfInBounds_toArray, List.set_cons_zero, List.set_cons_succ]
          refine wpAnyH_ready (rs := [4, 12]) (by kernel_rfl) (by simp) ?_
          refine AllReadyH.cons rfl (fun K' hK => ?_) (AllReadyH.cons rfl (fun K' hK => ?_) AllReadyH.nil)
          · have xx := f0
            rw [if_pos (by rfl)]
            go_simp
            refine hK.out _ _ hH (fun _ => ?_)
            clear hK K' xx
            refine wpAnyH_ready (rs := [12]) (by kernel_rfl) (by simp) ?_
            refine AllReadyH.cons rfl (fun K' hK => ?_) AllReadyH.nil
            refine step_goV (by rfl) (some 45) rfl 43 #[.tmp 44] _ rfl #[.agg #[.slice (if c = n then some ⟨b, o, none⟩ else some ⟨b, o + n, none⟩) 1 (c - n)]] (by simp [Act.eval]) (fun _ _ => rfl) CR ?_
            rintro e r1 ⟨rfl, bb1⟩
            have b1r : Below wr.heap.size wr r1 := (Below.refl _ _).drew.trans bb1
            have x0r := (b1r.cell (p := ⟨w.heap.size, 0, none⟩) lXr).trans x0
            have f1 := (b1r.cell (p := ⟨fg, n, none⟩) lfg).trans f0
            have ho1 := ownsRow_below hown b1r
            refine ⟨_, rfl, ?_⟩
            simp only [Act.put, List.setIfInBounds_toArray, List.set_cons_zero, List.set_cons_succ]
            refine hK.out _ _ x0r (fun hH1 => ?_)
            clear hK K'
            refine takeD 13 (some 46) (.int .i64 (T + m : Nat)) hH1 rfl rfl (by kernel_rfl) (by kernel_rfl) (by kernel_rfl) (fun _ _ _ h => h) (Or.inl ⟨by rfl, by intro w' hSw; go_simp⟩) ?_
            simp only [Act.put, List.setIfInBounds_toArray, List.set_cons_zero, List.set_cons_succ]
            refine wpAnyH_ready (rs := [14]) (by kernel_rfl) (by simp) ?_
            refine AllReadyH.cons rfl (fun K' hK => ?_) AllReadyH.nil
            have x0a := (((below1 r1 (.cells #[.int .i64 ((T + m : Nat) : Int)] 3)).cell (p := ⟨w.heap.size, 0, none⟩) (Nat.lt_of_lt_of_le lXr b1r.size))).trans x0r
            rw [if_pos (by rfl)]
            go_simp
            refine hK.out _ _ x0a (fun _ => ?_)
            clear hK K'
            refine wpAnyH_ready (rs := [15]) (by kernel_rfl) (by simp) ?_
            refine AllReadyH.cons rfl (fun K' hK => ?_) AllReadyH.nil
            refine step_append_lies _ (by rfl) (.tmp 33) (.tmp 47) 26 (by rfl) W2.heap.size 3 i0 _ 1 8 Try.underlying26 hi hz0 hz1 hz2 rfl (by decide) (.slice (some ⟨fg, 0, none⟩) fl fc) fl (nums fs) (by rfl) (ho1.alloc _) ⟨r1.heap.size, 0, none⟩ 1 1 [.int .i64 ((T + m : Nat) : Int)] (by rfl) (by rfl) (World.news_of_block (cs := #[.int .i64 ((T + m : Nat) : Int)]) (t := 3) (fr := (0, 0)) (heap_alloc_new r1 _)) (by simp [Value.oneCell']) (by omega) (by unfold maxLen; omega) (by omega) (by have := b1r.size; simp; omega) (r1.heap.size + 1) (by simp) ?_
            intro g5 cap5 u5 hown5 hg5 hat5 hlt5
            obtain ⟨hb5, x5⟩ := F5.out r1 b1r u5 hg5
            simp only [Act.put, List.setIfInBounds_toArray, List.set_cons_zero, List.set_cons_succ]
            refine hK.out _ _ x5 (fun hH5 => ?_)
            clear hK K'
            refine takeD 16 (some 8) (.slice (some ⟨g5, 0, none⟩) (fl + 1) cap5) hH5 rfl rfl (by kernel_rfl) (by kernel_rfl) (by kernel_rfl) (fun _ _ _ h => h) (Or.inl ⟨by rfl, by intro w' hSw; go_simp⟩) ?_
            simp only [Act.put, List.setIfInBounds_toArray, List.set_cons_zero, List.set_cons_succ]
            refine wpAnyH_done (by kernel_rfl) ?_ _
            go_wp2_with fail
            exact ⟨⟨n + 1, by go_num, by omega, by rw [HF.out, nums_snoc, List.length_append, HFL.out]; exact hown5, hb5⟩, by simp [intOf]; omega⟩
          · refine step_goV (by rfl) (some 45) rfl 43 #[.tmp 44] _ rfl #[.agg #[.slice (if c = n then some ⟨b, o, none⟩ else some ⟨b, o + n, none⟩) 1 (c - n)]] (by simp [Act.eval]) (fun _ _ => rfl) CR ?_
            rintro e r1 ⟨rfl, bb1⟩
            have b1r : Below wr.heap.size wr r1 := (Below.refl _ _).drew.trans bb1
            have x0r := (b1r.cell (p := ⟨w.heap.size, 0, none⟩) lXr).trans x0
            have f1 := (b1r.cell (p := ⟨fg, n, none⟩) lfg).trans f0
            have ho1 := ownsRow_below hown b1r
            refine ⟨_, rfl, ?_⟩
            simp only [Act.put, List.setIfInBounds_toArray, List.set_cons_zero, List.set_cons_succ]
            refine hK.out _ _ x0r (fun hH1 => ?_)
            clear hK K'
            refine wpAnyH_ready (rs := [4]) (by kernel_rfl) (by simp) ?_
            refine AllReadyH.cons rfl (fun K' hK => ?_) AllReadyH.nil
            have xx := f1
            rw [if_pos (by rfl)]
            go_simp
            refine hK.out _ _ hH1 (fun _ => ?_)
            clear hK K' xx
            refine takeD 13 (some 46) (.int .i64 (T + m : Nat)) hH1 rfl rfl (by kernel_rfl) (by kernel_rfl) (by kernel_rfl) (fun _ _ _ h => h) (Or.inl ⟨by rfl, by intro w' hSw; go_simp⟩) ?_
            simp only [Act.put, List.setIfInBounds_toArray, List.set_cons_zero, List.set_cons_succ]
            refine wpAnyH_ready (rs := [14]) (by kernel_rfl) (by simp) ?_
            refine AllReadyH.cons rfl (fun K' hK => ?_) AllReadyH.nil
            have x0a := (((below1 r1 (.cells #[.int .i64 ((T + m : Nat) : Int)] 3)).cell (p := ⟨w.heap.size, 0, none⟩) (Nat.lt_of_lt_of_le lXr b1r.size))).trans x0r
            rw [if_pos (by rfl)]
            go_simp
            refine hK.out _ _ x0a (fun _ => ?_)
            clear hK K'
            refine wpAnyH_ready (rs := [15]) (by kernel_rfl) (by simp) ?_
            refine AllReadyH.cons rfl (fun K' hK => ?_) AllReadyH.nil
            refine step_append_lies _ (by rfl) (.tmp 33) (.tmp 47) 26 (by rfl) W2.heap.size 3 i0 _ 1 8 Try.underlying26 hi hz0 hz1 hz2 rfl (by decide) (.slice (some ⟨fg, 0, none⟩) fl fc) fl (nums fs) (by rfl) (ho1.alloc _) ⟨r1.heap.size, 0, none⟩ 1 1 [.int .i64 ((T + m : Nat) : Int)] (by rfl) (by rfl) (World.news_of_block (cs := #[.int .i64 ((T + m : Nat) : Int)]) (t := 3) (fr := (0, 0)) (heap_alloc_new r1 _)) (by simp [Value.oneCell']) (by omega) (by unfold maxLen; omega) (by omega) (by have := b1r.size; simp; omega) (r1.heap.size + 1) (by simp) ?_
            intro g5 cap5 u5 hown5 hg5 hat5 hlt5
            obtain ⟨hb5, x5⟩ := F5.out r1 b1r u5 hg5
            simp only [Act.put, List.setIfInBounds_toArray, List.set_cons_zero, List.set_cons_succ]
            refine hK.out _ _ x5 (fun hH5 => ?_)
            clear hK K'
            refine takeD 16 (some 8) (.slice (some ⟨g5, 0, none⟩) (fl + 1) cap5) hH5 rfl rfl (by kernel_rfl) (by kernel_rfl) (by kernel_rfl) (fun _ _ _ h => h) (Or.inl ⟨by rfl, by intro w' hSw; go_simp⟩) ?_
            simp only [Act.put, List.setIfInBounds_toArray, List.set_cons_zero, List.set_cons_succ]
            refine wpAnyH_done (by kernel_rfl) ?_ _
            go_wp2_with fail
            exact ⟨⟨n + 1, by go_num, by omega, by rw [HF.out, nums_snoc, List.length_append, HFL.out]; exact hown5, hb5⟩, by simp [intOf]; omega⟩
        · have i1 : ¬ (n : Int) < ll.length := by omega
          obtain rfl : n = ll.length := by omega
          obtain ⟨fs, hfs⟩ : ∃ fs, M.froms ll ll.length = fs := ⟨_, rfl⟩
          rw [hfs] at hown
          have FG : Hid (∀ (i : Nat) (h : i < fs.length), fs[i] = ((M.tot M.reads (ll.take i) : Nat) : Int)) := by subst hfs; exact fun i h => M.froms_get _ _ _ h
          have FL : Hid (fs.length = ll.length + 1) := by subst hfs; exact M.froms_len ll ll.length
          clear hfs
          obtain ⟨fa, fg, fc, e8, hIf, _, _⟩ := own_nums hown
          obtain rfl : fa = some ⟨fg, 0, none⟩ := hIf.addr (by rw [FL.out]; omega)
          obtain rfl := e8
          obtain ⟨fl, hfl⟩ : ∃ fl, fs.length = fl := ⟨_, rfl⟩
          rw [hfl]
          clear hown
          have hYr := hY2.bel2 hbel
          have y1 := hYr.c1
          have ly := hYr.lt
          have hL3 := sa2.last.below hbel (Nat.le_refl _)
          have E9 : (wr.alloc (.cells #[] 3)).ownsRow wr.heap.size 3 1 (.slice (some ⟨wr.heap.size, 0, none⟩) 0 0) 0 (nums []) := World.ownsRow_made wr _ 0 (Nat.le_refl _) (Nat.zero_le _) rfl
          have E10 : ((wr.alloc (.cells #[] 3)).alloc (.cells #[] 3)).ownsRow (wr.heap.size + 1) 3 1 (.slice (some ⟨wr.heap.size + 1, 0, none⟩) 0 0) 0 (nums []) := by
            have := World.ownsRow_made (base := wr.heap.size + 1) (e := 3) (size := 1) (wr.alloc (.cells #[] 3)) #[] 0 (by simp) (Nat.zero_le _) rfl
            rwa [World.size_alloc] at this
          have hL4 := hL3.below (below2 wr (.cells #[] 3) (.cells #[] 3)) (Nat.le_refl _)
          go_wp2_with (at_builtin; refine wpList_append_nums rfl (.tmp 50) (.tmp 52) 26 rfl (some 53) rfl (wr.heap.size + 1) 3 i0 Try.underlying26 hi hz0 hz1 hz2 (.slice (some ⟨wr.heap.size + 1, 0, none⟩) 0 0) 0 (nums []) rfl E10 (by simp) s.a2 s.b2 s.o2 s.c2 s.l2.length s.l2 rfl rfl hL4 (by omega) ?_)
          intro vL WO hL hgL hbL
          have bA : Below (wr.alloc (.cells #[] 3)).heap.size (wr.alloc (.cells #[] 3)) WO := below_grown (below1 _ _) hgL (fun k hk => by simp [Value.ownBlock] at hk; simp; omega) (by simp)
          have bO : Below wr.heap.size wr WO := (below1 wr (.cells #[] 3)).trans (bA.mono (below1 wr (.cells #[] 3)).size)
          have E9O := ownsRow_below E9 bA
          have hAs := bA.size
          rw [World.size_alloc] at hAs
          obtain ⟨ya, yc, rfl⟩ := own_slx hL
          clear hL4 E9 E10 hgL hbL y1
          go_wp2_with fail
          have hO : Slot2 (WO.alloc (.cells #[.slice (some ⟨wr.heap.size, 0, none⟩) 0 0, .slice ya s.l2.length yc] 28)) WO.heap.size (.slice (some ⟨wr.heap.size, 0, none⟩) 0 0) (.slice ya s.l2.length yc) := Slot2.mk (heap_alloc_new WO _)
          have bX := below1 WO (.cells #[.slice (some ⟨wr.heap.size, 0, none⟩) 0 0, .slice ya s.l2.length yc] 28)
          try simp only [Nat.zero_add] at hL
          generalize WO.alloc (.cells #[.slice (some ⟨wr.heap.size, 0, none⟩) 0 0, .slice ya s.l2.length yc] 28) = WX at *
          obtain ⟨wo, rfl⟩ : ∃ wo, wo = wr := ⟨_, rfl⟩
          have hbX := bO.trans (bX.mono bO.size)
          have E9X := ownsRow_below E9O bX
          go_loopw [11] (fun s11 wq => ∃ n : Nat, s11 = .int .i64 n ∧ n ≤ gs.length ∧ ∃ v1, Slot2 wq WO.heap.size v1 (.slice ya s.l2.length yc) ∧ wq.ownsRow wo.heap.size 3 1 v1 (M.pick [] (gs.take n) (M.parts ll s.l1)).flatten.length (nums (M.pick [] (gs.take n) (M.parts ll s.l1)).flatten) ∧ (∀ k, v1.ownBlock = some k → k = wo.heap.size ∨ WO.heap.size < k) ∧ Below wo.heap.size wo wq ∧ ∀ k, k < WO.heap.size → k ≠ wo.heap.size → wq.heap[k]? = WO.heap[k]?) (fun s11 _ => gs.length - (intOf s11).toNat)
          case atStart => exact ⟨0, rfl, Nat.zero_le _, _, hO, by simpa [M.pick] using E9X, fun k hk => Or.inl (by simp [Value.ownBlock] at hk; exact hk.symm), hbX, fun k hk _ => bX.block k hk⟩
          case round =>
            obtain ⟨n, rfl, hn, v1, hS, hown1, hblk, hbq, hfr⟩ := hrel
            clear hO bX hbX E9X E9O
            have hqs := hbq.size
            have hSl := hS.lt
            by_cases hlt : n < gs.length
            · have i2 : (n : Int) < gs.length := by omega
              obtain ⟨rfl⟩ := hG.addr (by omega)
              have hgl3 := M.rowN_len HR.out
              obtain ⟨hx0, hxl⟩ := M.rowN_get HR.out n hlt
              have hgc := (hG2.below hbel (Nat.le_refl _)).row n hlt
              obtain ⟨x, hx⟩ : ∃ x : Nat, gs[n] = (x : Int) := ⟨gs[n].toNat, by omega⟩
              have hxx : gs[n].toNat = x := by omega
              have hxl' : x < ll.length := by omega
              rw [hx] at hgc
              have hf0 := hIf.row x (by rw [FL.out]; omega)
              have hf1 := hIf.row (x + 1) (by rw [FL.out]; omega)
              rw [FG.out, Nat.zero_add] at hf0 hf1
              have hTU : M.tot M.reads (ll.take (x + 1)) = M.tot M.reads (ll.take x) + M.cnt M.reads ll[x] := M.tot_take M.reads ll x hxl'
              have hUl : M.tot M.reads (ll.take (x + 1)) ≤ s.l1.length := by rw [HL1.out]; exact M.tot_take_le M.reads ll (x + 1)
              have hl1k : s.l1.length ≤ 1000 := by
                have h2 := (M.prog_uses HPG.out).1
                have h4 := M.tot_mono (f := M.reads) (g := M.uses) (fun k hk => by simp [M.uses, hk]) ll
                have h5 := HL1.out
                omega
              have hLk : (M.pick [] (gs.take n) (M.parts ll s.l1)).flatten.length ≤ 3000 := by
                rw [M.lens_flat]
                have h1 := M.lens_pick (gs.take n) s.l1.length (M.parts ll s.l1) (M.parts_small ll s.l1)
                have h4 : s.l1.length * (gs.take n).length ≤ 1000 * 3 := Nat.mul_le_mul hl1k (by rw [List.length_take]; omega)
                omega
              have HN : Hid ((M.pick [] (gs.take (n + 1)) (M.parts ll s.l1)).flatten = (M.pick [] (gs.take n) (M.parts ll s.l1)).flatten ++ (s.l1.drop (M.tot M.reads (ll.take x))).take (M.tot M.reads (ll.take (x + 1)) - M.tot M.reads (ll.take x))) := by
                show _ = _
                rw [M.pick_take [] gs (M.parts ll s.l1) n hlt, List.flatten_append, hxx]
                have hp : x < (M.parts ll s.l1).length := by rw [M.parts_len]; exact hxl'
                rw [List.getD_eq_getElem?_getD, List.getElem?_eq_getElem hp, Option.getD_some, M.parts_get ll s.l1 x hxl' hp, hTU, Nat.add_sub_cancel_left]
                simp
              clear hx0 hxl hx hxx hgl3
              have hTU2 : M.tot M.reads (ll.take x) ≤ M.tot M.reads (ll.take (x + 1)) := by omega
              clear hTU
              generalize M.tot M.reads (ll.take (x + 1)) = U at *
              generalize M.tot M.reads (ll.take x) = T at *
              have hIr := sa2.reads.below hbel (Nat.le_refl _)
              have hIs : IntS wo (if s.c1 = T then s.a1 else Option.map (fun x => x.add T) s.a1) s.b1 (s.o1 + T) ((s.l1.drop T).take (U - T)) := ⟨fun hp => by
                rw [List.length_take, List.length_drop] at hp
                rw [if_neg (by omega), hIr.addr (by omega)]
                show some ((⟨s.b1, s.o1, none⟩ : Addr).add T) = _
                rw [Go.WideShapes.add_plain], fun i hi => by
                rw [List.length_take, List.length_drop] at hi
                have := hIr.row (T + i) (by omega)
                rw [List.getElem_take, List.getElem_drop, Nat.add_assoc]; exact this⟩
              have hsl : U - T = ((s.l1.drop T).take (U - T)).length := by rw [List.length_take, List.length_drop]; omega
              obtain ⟨sl, hslE⟩ : ∃ sl, (s.l1.drop T).take (U - T) = sl := ⟨_, rfl⟩
              rw [hslE] at HN hIs hsl
              have HSL : Hid (U - T = sl.length) := hsl
              have hsk : sl.length ≤ 1000 := by omega
              clear hslE hIr hsl
              obtain ⟨fl0, hfl0⟩ : ∃ l, (M.pick [] (gs.take n) (M.parts ll s.l1)).flatten = l := ⟨_, rfl⟩
              rw [hfl0] at HN hown1 hLk
              clear hfl0
              obtain ⟨L, hLE⟩ : ∃ L, fl0.length = L := ⟨_, rfl⟩
              rw [hLE] at hown1 hLk
              have HLE : Hid (fl0.length = L) := hLE
              clear hLE
              obtain ⟨va, vc, rfl⟩ := own_slx hown1
              have y0 := hYr.c0
              have lgb := World.block_lt_of_cell? _ _ hgc
              have lfg := World.block_lt_of_cell? _ _ hf0
              have hxf : (x : Int) < fl := by have := FL.out; omega
              have hxf1 : (x : Int) + 1 < fl := by have := FL.out; omega
              have hx3 : x ≤ 3 := by omega
              clear hl1k
              have hxn1 : ((x : Int) + 1).toNat = x + 1 := by omega
              have hTc : (T : Int) ≤ U := by omega
              have hUc : (U : Int) ≤ s.c1 := by omega
              go_wp2_with fail
              refine wp_region_held_drew (S := fun w' => Below wo.heap.size wo w') (by kernel_rfl) (by first | exact hbq | exact hbq.drew) (fun hH => ?_)
              refine takeD 0 (some 61) (.pointer (some ⟨WO.heap.size, 0, none⟩)) hH rfl rfl (by kernel_rfl) (by kernel_rfl) (by kernel_rfl) (fun _ _ _ h => h) (Or.inl ⟨by rfl, by intro w' hSw; go_simp⟩) ?_
              simp only [Act.put, List.setIfInBounds_toArray, List.set_cons_zero, List.set_cons_succ]
              refine takeD 2 (some 63) (.pointer (some ⟨w.heap.size + 1, 0, none⟩)) hH rfl rfl (by kernel_rfl) (by kernel_rfl) (by kernel_rfl) (fun _ _ _ h => h) (Or.inl ⟨by rfl, by intro w' hSw; go_simp⟩) ?_
              simp only [Act.put, List.setIfInBounds_toArray, List.set_cons_zero, List.set_cons_succ]
              refine takeD 3 (some 64) (.slice s.a1 s.l1.length s.c1) hH rfl rfl (by kernel_rfl) (by kernel_rfl) (by kernel_rfl) (fun _ _ _ h => h) (Or.inl ⟨by rfl, by intro w' hSw; have hc := (hSw.cell (p := ⟨w.heap.size + 1, 0, none⟩) hYr.lt).trans y0; go_simp⟩) ?_
              simp only [Act.put, List.setIfInBounds_toArray, List.set_cons_zero, List.set_cons_succ]
              refine takeD 4 (some 65) (.slice (some ⟨fg, 0, none⟩) fl fc) hH rfl rfl (by kernel_rfl) (by kernel_rfl) (by kernel_rfl) (fun _ _ _ h => h) (Or.inl ⟨by rfl, by intro w' hSw; go_simp⟩) ?_
              simp only [Act.put, List.setIfInBounds_toArray, List.set_cons_zero, List.set_cons_succ]
              refine takeD 5 (some 66) (.slice (some ⟨gb, go, none⟩) gs.length gc) hH rfl rfl (by kernel_rfl) (by kernel_rfl) (by kernel_rfl) (fun _ _ _ h => h) (Or.inl ⟨by rfl, by intro w' hSw; go_simp⟩) ?_
              simp only [Act.put, List.setIfInBounds_toArray, List.set_cons_zero, List.set_cons_succ]
              refine takeD 6 (some 67) (.int .i64 n) hH rfl rfl (by kernel_rfl) (by kernel_rfl) (by kernel_rfl) (fun _ _ _ h => h) (Or.inl ⟨by rfl, by intro w' hSw; go_simp⟩) ?_
              simp only [Act.put, List.setIfInBounds_toArray, List.set_cons_zero, List.set_cons_succ]
              refine takeD 7 (some 68) (.pointer (some ⟨gb, go + n, none⟩)) hH rfl rfl (by kernel_rfl) (by kernel_rfl) (by kernel_rfl) (fun _ _ _ h => h) (Or.inl ⟨by rfl, by intro w' hSw; go_simp⟩) ?_
              simp only [Act.put, List.setIfInBounds_toArray, List.set_cons_zero, List.set_cons_succ]
              refine takeD 8 (some 69) (.int .i64 x) hH rfl rfl (by kernel_rfl) (by kernel_rfl) (by kernel_rfl) (fun _ _ _ h => h) (Or.inl ⟨by rfl, by intro w' hSw; have hc := (hSw.cell (p := ⟨gb, go + n, none⟩) lgb).trans hgc; go_simp⟩) ?_
              simp only [Act.put, List.setIfInBounds_toArray, List.set_cons_zero, List.set_cons_succ]
              refine takeD 9 (some 70) (.pointer (some ⟨fg, x, none⟩)) hH rfl rfl (by kernel_rfl) (by kernel_rfl) (by kernel_rfl) (fun _ _ _ h => h) (Or.inl ⟨by rfl, by intro w' hSw; go_simp⟩) ?_
              simp only [Act.put, List.setIfInBounds_toArray, List.set_cons_zero, List.set_cons_succ]
              refine takeD 10 (some 71) (.int .i64 T) hH rfl rfl (by kernel_rfl) (by kernel_rfl) (by kernel_rfl) (fun _ _ _ h => h) (Or.inl ⟨by rfl, by intro w' hSw; have hc := (hSw.cell (p := ⟨fg, x, none⟩) lfg).trans hf0; go_simp⟩) ?_
              simp only [Act.put, List.setIfInBounds_toArray, List.set_cons_zero, List.set_cons_succ]
              refine takeD 11 (some 72) (.slice (some ⟨fg, 0, none⟩) fl fc) hH rfl rfl (by kernel_rfl) (by kernel_rfl) (by kernel_rfl) (fun _ _ _ h => h) (Or.inl ⟨by rfl, by intro w' hSw; go_simp⟩) ?_
              simp only [Act.put, List.setIfInBounds_toArray, List.set_cons_zero, List.set_cons_succ]
              refine takeD 12 (some 73) (.slice (some ⟨gb, go, none⟩) gs.length gc) hH rfl rfl (by kernel_rfl) (by kernel_rfl) (by kernel_rfl) (fun _ _ _ h => h) (Or.inl ⟨by rfl, by intro w' hSw; go_simp⟩) ?_
              simp only [Act.put, List.setIfInBounds_toArray, List.set_cons_zero, List.set_cons_succ]
              refine takeD 13 (some 74) (.int .i64 n) hH rfl rfl (by kernel_rfl) (by kernel_rfl) (by kernel_rfl) (fun _ _ _ h => h) (Or.inl ⟨by rfl, by intro w' hSw; go_simp⟩) ?_
              simp only [Act.put, List.setIfInBounds_toArray, List.set_cons_zero, List.set_cons_succ]
              refine takeD 14 (some 75) (.pointer (some ⟨gb, go + n, none⟩)) hH rfl rfl (by kernel_rfl) (by kernel_rfl) (by kernel_rfl) (fun _ _ _ h => h) (Or.inl ⟨by rfl, by intro w' hSw; go_simp⟩) ?_
              simp only [Act.put, List.setIfInBounds_toArray, List.set_cons_zero, List.set_cons_succ]
              refine takeD 15 (some 76) (.int .i64 x) hH rfl rfl (by kernel_rfl) (by kernel_rfl) (by kernel_rfl) (fun _ _ _ h => h) (Or.inl ⟨by rfl, by intro w' hSw; have hc := (hSw.cell (p := ⟨gb, go + n, none⟩) lgb).trans hgc; go_simp⟩) ?_
              simp only [Act.put, List.setIfInBounds_toArray, List.set_cons_zero, List.set_cons_succ]
              refine takeD 16 (some 77) (.int .i64 ((x : Int) + 1)) hH rfl rfl (by kernel_rfl) (by kernel_rfl) (by kernel_rfl) (fun _ _ _ h => h) (Or.inl ⟨by rfl, by intro w' hSw; go_simp; exact IntWalk.i64_in _ (by omega)⟩) ?_
              simp only [Act.put, List.setIfInBounds_toArray, List.set_cons_zero, List.set_cons_succ]
              refine takeD 17 (some 78) (.pointer (some ⟨fg, x + 1, none⟩)) hH rfl rfl (by kernel_rfl) (by kernel_rfl) (by kernel_rfl) (fun _ _ _ h => h) (Or.inl ⟨by rfl, by intro w' hSw; go_simp; first | done | (intro hneg; omega)⟩) ?_
              simp only [Act.put, List.setIfInBounds_toArray, List.set_cons_zero, List.set_cons_succ]
              refine takeD 18 (some 79) (.int .i64 U) hH rfl rfl (by kernel_rfl) (by kernel_rfl) (by kernel_rfl) (fun _ _ _ h => h) (Or.inl ⟨by rfl, by intro w' hSw; have hc := (hSw.cell (p := ⟨fg, x + 1, none⟩) lfg).trans hf1; go_simp⟩) ?_
              simp only [Act.put, List.setIfInBounds_toArray, List.set_cons_zero, List.set_cons_succ]
              refine takeD 19 (some 80) (.slice (if s.c1 = T then s.a1 else Option.map (fun x => x.add T) s.a1) (U - T) (s.c1 - T)) hH rfl rfl (by kernel_rfl) (by kernel_rfl) (by kernel_rfl) (fun _ _ _ h => h) (Or.inl ⟨by rfl, by intro w' hSw; go_simp⟩) ?_
              simp only [Act.put, List.setIfInBounds_toArray, List.set_cons_zero, List.set_cons_succ]
              refine wpAnyH_ready (rs := [1]) (by kernel_rfl) (by simp) ?_
              refine AllReadyH.cons rfl (fun K' hK => ?_) AllReadyH.nil
              have o0 := hS.c0
              rw [if_pos (by rfl)]
              go_simp
              refine hK.out _ _ hH (fun _ => ?_)
              clear hK K' o0
              refine wpAnyH_ready (rs := [20]) (by kernel_rfl) (by simp) ?_
              refine AllReadyH.cons rfl (fun K' hK => ?_) AllReadyH.nil
              refine step_append_nums (by rfl) (.tmp 62) (.tmp 80) 26 (by rfl) (some 81) rfl wo.heap.size 3 i0 Try.underlying26 hi hz0 hz1 hz2 (.slice va L vc) L (nums fl0) (by rfl) (ownsRow_below hown1 (Below.refl _ _).drew) (by first | exact hqs | (simp; omega)) (if s.c1 = T then s.a1 else Option.map (fun x => x.add T) s.a1) s.b1 (s.o1 + T) (s.c1 - T) (U - T) sl HSL.out (by rfl) (hIs.below hH (Nat.le_refl _)) (by omega) ?_
              intro v5 u5 hown5 hg5 hb5
              have hS5 := (hS.bel2 (Below.refl _ _).drew).grown hg5 (ownsRow_below hown1 (Below.refl _ _).drew)
              have hb5' : Below wo.heap.size wo u5 := below_grown hH hg5 (fun k hk => by rcases hblk k hk with h | h <;> omega) (by first | exact hqs | (simp; omega))
              simp only [Act.put, List.setIfInBounds_toArray, List.set_cons_zero, List.set_cons_succ]
              refine hK.out _ _ hb5' (fun hH5 => ?_)
              clear hK K'
              refine takeD 21 (some 82) (.pointer (some ⟨WO.heap.size, 0, none⟩)) hH5 rfl rfl (by kernel_rfl) (by kernel_rfl) (by kernel_rfl) (fun _ _ _ h => h) (Or.inl ⟨by rfl, by intro w' hSw; go_simp⟩) ?_
              simp only [Act.put, List.setIfInBounds_toArray, List.set_cons_zero, List.set_cons_succ]
              refine wpAnyH_ready (rs := [22]) (by kernel_rfl) (by simp) ?_
              refine AllReadyH.cons rfl (fun K' hK => ?_) AllReadyH.nil
              have o0 := hS5.c0
              have o1 := hS5.fz
              have lo := hS5.lt
              obtain ⟨v5a, v5c, rfl⟩ := own_slx hown5
              rw [if_pos (by rfl)]
              go_simp
              have hb6 := hb5'.setCell (p := ⟨WO.heap.size, 0, none⟩) (by show wo.heap.size ≤ WO.heap.size; omega) (.slice v5a (L + sl.length) v5c)
              refine hK.out _ _ hb6 (fun _ => ?_)
              clear hK K'
              refine wpAnyH_done (by kernel_rfl) ?_ _
              have hbk5 : ∀ k, (Value.slice v5a (L + sl.length) v5c).ownBlock = some k → k = wo.heap.size ∨ WO.heap.size < k := fun k hk => by
                rcases hb5 with h | h
                · exact hblk k (h.symm.trans hk)
                · right
                  have := Option.some.inj (h.symm.trans hk)
                  simp at this
                  omega
              have hown6 := ownsRow_blk (w' := u5.setCell ⟨WO.heap.size, 0, none⟩ (.slice v5a (L + sl.length) v5c)) hown5 (fun k hk => Below.heap_setCell _ _ _ _ (fun e => by
                rcases hbk5 k hk with h | h
                · have e' : k = WO.heap.size := e
                  omega
                · have e' : k = WO.heap.size := e
                  omega))
              have hfr6 : ∀ k, k < WO.heap.size → k ≠ wo.heap.size → (u5.setCell ⟨WO.heap.size, 0, none⟩ (.slice v5a (L + sl.length) v5c)).heap[k]? = WO.heap[k]? := fun k h1 h2 => by
                rw [Below.heap_setCell _ _ _ _ (fun e => by have e' : k = WO.heap.size := e; omega)]
                exact (hg5.block k (by simp; omega) (fun e => by rcases hblk k e.symm with h | h <;> omega)).trans (hfr k h1 h2)
              clear o0 o1
              go_wp2_with fail
              exact ⟨⟨n + 1, by go_num, by omega, _, hS5.set0 _, by rw [HN.out, nums_app, List.length_append, HLE.out]; exact hown6, hbk5, hb6, hfr6⟩, by simp [intOf]; omega⟩
            · have i2 : ¬ (n : Int) < gs.length := by omega
              obtain rfl : n = gs.length := by omega
              rw [List.take_length] at hown1
              obtain ⟨l9, h9⟩ : ∃ l, (M.pick [] gs (M.parts ll s.l1)).flatten = l := ⟨_, rfl⟩
              rw [h9] at hown1 HYES
              clear h9
              have hZo := hZ2.bel2 hbel
              have lZo := hZo.lt
              have hZq := hZo.bel2 hbq
              have z0 := hZq.c0
              have z1 := hZq.c1
              have zf := hZq.fz
              have lz := hZq.lt
              have o0 := hS.c0
              have o1 := hS.c1
              obtain ⟨xa, xc, rfl⟩ := own_slx hown1
              go_wp2_with fail
              have q1 := (hZq.set0 (.slice xa l9.length xc)).set1 (.slice ya s.l2.length yc)
              have q0 := q1.c0
              have q2 := q1.c1
              have bwo := bw1.trans (hbel.mono bw1.size)
              have bwq := bwo.trans (hbq.mono bwo.size)
              have hws := bwo.size
              have bF := (bwq.setCell (p := ⟨w.heap.size + 1 + 1, 0, none⟩) (by show w.heap.size ≤ w.heap.size + 1 + 1; omega) (.slice xa l9.length xc)).setCell (p := ⟨w.heap.size + 1 + 1, 1, none⟩) (by show w.heap.size ≤ w.heap.size + 1 + 1; omega) (.slice ya s.l2.length yc)
              have hLq := ownsRow_blk hL (fun k hk => hfr k (hL.lt k hk).2 (by have := (hL.lt k hk).1; omega))
              have hap : ∀ k, (Value.slice xa l9.length xc).ownBlock = some k → (Value.slice ya s.l2.length yc).ownBlock ≠ some k := fun k h1 h2 => by
                have e1 := hL.lt k h2
                rcases hblk k h1 with h | h <;> omega
              have f1 := (ownsRow_far (ownsRow_far hown1 (b := w.heap.size + 1 + 1) (i := 0) lZo (.slice xa l9.length xc)) (b := w.heap.size + 1 + 1) (i := 1) lZo (.slice ya s.l2.length yc))
              have f2 := (ownsRow_far (ownsRow_far hLq (b := w.heap.size + 1 + 1) (i := 0) (by omega) (.slice xa l9.length xc)) (b := w.heap.size + 1 + 1) (i := 1) (by omega) (.slice ya s.l2.length yc))
              exact bodyPost_ret (v := .tuple #[.agg #[.slice xa l9.length xc, .slice ya s.l2.length yc], .bool true]) (by simp [results, Try.results10, go_sem, q0, q2]) rfl ⟨_, _, by rw [HYES.out]; rfl, by rw [HYES.out]; exact ⟨ownsRow_mono f1 (by omega), ownsRow_mono f2 (by omega), hap, bF⟩⟩

end Go.Proofs.Ytnaljfnijcoheaa
