/- The law FnExactSeenSort, walked: it answers true, and leaves all as it was. Of lists of at most 9223372036854775807 parts each: more than a machine holds. -/
import Derived.Test.YtkbjdhjcbhdpmabSnLs
import Derived.Test.YtkbjdhjcbhdpmabSoFi
import Derived.Test.YtkbjdhjcbhdpmabSpSo
import Derived.Test.YtkbjdhjcbhdpmabMarkS
namespace Go.Proofs.Ytkbjdhjcbhdpmab
open Go.RowKit Go.Deep

theorem NewL.rowC {B : Nat} {w : World} {a : Option Addr} {g : Nat} {uu : List Sn} (h : NewL B w a g uu) : RowC w a g 0 uu :=
  ⟨h.addr, fun i hi => by rw [Nat.zero_add]; exact (h.sr (by omega)).c i hi, fun s hs => (h.off s hs).at_.reads.toC (fun hl => (h.own s hs).fz _ (Or.inl ⟨hl, rfl⟩)), fun s hs => (h.off s hs).at_.last.toC (fun hl => (h.own s hs).fz _ (Or.inr ⟨hl, rfl⟩))⟩
theorem NewL.les {B : Nat} {w : World} {a : Option Addr} {g : Nat} {uu : List Sn} (h : NewL B w a g uu) : ∀ s ∈ uu, s.Le 1048576 := fun s hs => (h.off s hs).le
theorem NewL.blk {B : Nat} {w : World} {a : Option Addr} {g : Nat} {uu : List Sn} (h : NewL B w a g uu) {b : Nat} (hb : anyBlk uu b) : B ≤ b ∧ b < w.heap.size := by
  obtain ⟨s, hs, hk⟩ := hb
  refine ⟨?_, Sn.blk_lt (h.off s hs).at_ hk⟩
  have := h.fresh s hs
  rcases hk with ⟨_, rfl⟩ | ⟨_, rfl⟩ <;> omega

/-- A list whose blocks lie below a bound. -/
structure LowS (w : World) (N : Nat) (a : Option Addr) (g : Nat) (ss : List Sn) : Prop where
  addr : 0 < ss.length → a = some ⟨g, 0, none⟩
  c : ∀ i (h : i < ss.length), w.cell? ⟨g, i * 2, none⟩ = some (.slice ss[i].a1 ss[i].l1.length ss[i].c1) ∧ w.cell? ⟨g, i * 2 + 1, none⟩ = some (.slice ss[i].a2 ss[i].l2.length ss[i].c2)
  at_ : ∀ s ∈ ss, s.At w
  lt : ∀ b, anyBlk ss b → b < N
theorem SL.low {w : World} {g : Nat} {ss : List Sn} (h : SL w g ss) : LowS w w.heap.size (some ⟨g, 0, none⟩) g ss :=
  ⟨fun _ => rfl, h.sr.c, fun s hs => (h.at_ s hs).1, fun _ ⟨s, hs, hk⟩ => Sn.blk_lt (h.at_ s hs).1 hk⟩
theorem LowS.below {w w' : World} {N : Nat} {a : Option Addr} {g : Nat} {ss : List Sn} (h : LowS w N a g ss) (hb : Below w.heap.size w w') : LowS w' N a g ss :=
  ⟨h.addr, fun i hi => ⟨(hb.cell (p := ⟨g, i * 2, none⟩) (World.block_lt_of_cell? _ _ (h.c i hi).1)).trans (h.c i hi).1, (hb.cell (p := ⟨g, i * 2 + 1, none⟩) (World.block_lt_of_cell? _ _ (h.c i hi).2)).trans (h.c i hi).2⟩, fun s hs => (h.at_ s hs).below hb (Nat.le_refl _), h.lt⟩
theorem LowS.mk_ {P : Nat → Prop} {w w' : World} {N : Nat} {a : Option Addr} {g : Nat} {ss : List Sn} (h : LowS w N a g ss) (hm : Mk P w w') (hP : ∀ b, P b → ¬ anyBlk ss b) : LowS w' N a g ss :=
  ⟨h.addr, fun i hi => ⟨hm.rest _ _ (h.c i hi).1 (fun _ e => by cases e), hm.rest _ _ (h.c i hi).2 (fun _ e => by cases e)⟩,
    fun s hs => ⟨(h.at_ s hs).reads.mkOff hm (fun hl hp => hP _ hp ⟨s, hs, Or.inl ⟨hl, rfl⟩⟩), (h.at_ s hs).last.mkOff hm (fun hl hp => hP _ hp ⟨s, hs, Or.inr ⟨hl, rfl⟩⟩)⟩, h.lt⟩
theorem LowS.ks {w : World} {N : Nat} {a : Option Addr} {g : Nat} {ss : List Sn} (h : LowS w N a g ss) : KS w a g 0 (kys ss) := by
  refine ⟨fun hl => h.addr (by simpa [kys] using hl), fun i hi => ?_⟩
  have hi' : i < ss.length := by simpa [kys] using hi
  obtain ⟨c1, c2⟩ := h.c i hi'
  exact ⟨ss[i], by simp [kys, Sn.ky], by simp [kys, Sn.ky], by rw [Nat.zero_add]; exact c1, by rw [Nat.zero_add]; exact c2, h.at_ _ (List.getElem_mem hi')⟩
theorem NewL.low {B : Nat} {w : World} {a : Option Addr} {g : Nat} {uu : List Sn} (h : NewL B w a g uu) : LowS w w.heap.size a g uu :=
  ⟨h.addr, fun i hi => (h.sr (by omega)).c i hi, fun s hs => (h.off s hs).at_, fun _ hb => (h.blk hb).2⟩
theorem RowC.below {w w' : World} {a : Option Addr} {g o : Nat} {ss : List Sn} (h : RowC w a g o ss) (hb : Below w.heap.size w w') : RowC w' a g o ss := by
  have IC : ∀ {a : Option Addr} {b o n : Nat}, IntC w a b o n → IntC w' a b o n := fun {a b o n} hc => by
    refine ⟨hc.addr, fun i hi => ?_, fun hn j => ?_⟩
    · obtain ⟨x, hx⟩ := hc.row i hi
      exact ⟨x, (hb.cell (p := ⟨b, o + i, none⟩) (World.block_lt_of_cell? _ _ hx)).trans hx⟩
    · obtain ⟨x, hx⟩ := hc.row 0 hn
      have hlt : b < w.heap.size := World.block_lt_of_cell? _ _ hx
      exact (hb.frozen (p := ⟨b, j, none⟩) hlt).trans (hc.fz hn j)
  exact ⟨h.addr, fun i hi => ⟨(hb.cell (p := ⟨g, o + i * 2, none⟩) (World.block_lt_of_cell? _ _ (h.c i hi).1)).trans (h.c i hi).1, (hb.cell (p := ⟨g, o + i * 2 + 1, none⟩) (World.block_lt_of_cell? _ _ (h.c i hi).2)).trans (h.c i hi).2⟩, fun s hs => IC (h.one s hs), fun s hs => IC (h.two s hs)⟩

/-- A list that was laid anew, with its blocks. -/
theorem NewKS.rowC {w : World} {B g : Nat} {ks : List Key} (h : NewKS w B g ks) : ∃ ss : List Sn, kys ss = ks ∧ RowC w (some ⟨g, 0, none⟩) g 0 ss ∧ ∀ b, anyBlk ss b → B ≤ b ∧ b < w.heap.size := by
  haveI : Inhabited Sn := ⟨⟨none, 0, 0, 0, [], none, 0, 0, 0, []⟩⟩
  have key : ∀ i, i < ks.length → ∃ s : Sn, s.ky = ks.getD i ([], []) ∧ w.cell? ⟨g, i * 2, none⟩ = some (.slice s.a1 s.l1.length s.c1) ∧ w.cell? ⟨g, i * 2 + 1, none⟩ = some (.slice s.a2 s.l2.length s.c2) ∧ IntC w s.a1 s.b1 s.o1 s.l1.length ∧ IntC w s.a2 s.b2 s.o2 s.l2.length ∧ ∀ b, s.blk b → B ≤ b ∧ b < w.heap.size := fun i hi => by
    obtain ⟨g1, g2, c1, c2, hn⟩ := h.row i hi
    obtain ⟨f1, o1⟩ := hn.own1
    obtain ⟨f2, o2⟩ := hn.own2
    have := hn.ge
    have := hn.lt
    refine ⟨newSn g1 g2 ks[i].1 ks[i].2, ?_, c1, c2, hn.reads.toC (fun _ j => o1.frozen j), hn.last.toC (fun _ j => o2.frozen j), fun b hk => ⟨?_, Sn.blk_lt hn.at hk⟩⟩
    · rw [List.getD_eq_getElem?_getD, List.getElem?_eq_getElem hi]; rfl
    · rcases hk with ⟨_, e⟩ | ⟨_, e⟩
      · have e' : b = g1 := e
        omega
      · have e' : b = g2 := e
        omega
  obtain ⟨f, hf⟩ := choose_lt (α := Sn) key
  have hl : ((List.range ks.length).map f).length = ks.length := by simp
  have hmem : ∀ s ∈ (List.range ks.length).map f, ∃ i, i < ks.length ∧ s = f i := fun s hs => by
    obtain ⟨i, hi, rfl⟩ := List.mem_map.1 hs
    exact ⟨i, List.mem_range.1 hi, rfl⟩
  refine ⟨(List.range ks.length).map f, ?_, ⟨fun _ => rfl, fun i hi => ?_, fun s hs => ?_, fun s hs => ?_⟩, fun b ⟨s, hs, hk⟩ => ?_⟩
  · apply List.ext_getElem
    · simp [kys]
    · intro i h1 h2
      simp only [kys, List.getElem_map, List.getElem_range]
      rw [(hf i h2).1, List.getD_eq_getElem?_getD, List.getElem?_eq_getElem h2]; rfl
  · simp only [List.length_map, List.length_range] at hi
    simp only [List.getElem_map, List.getElem_range, Nat.zero_add]
    exact ⟨(hf i hi).2.1, (hf i hi).2.2.1⟩
  · obtain ⟨i, hi, rfl⟩ := hmem s hs; exact (hf i hi).2.2.2.1
  · obtain ⟨i, hi, rfl⟩ := hmem s hs; exact (hf i hi).2.2.2.2.1
  · obtain ⟨i, hi, rfl⟩ := hmem s hs; exact (hf i hi).2.2.2.2.2 b hk

set_option maxHeartbeats 2000000 in
set_option maxRecDepth 100000 in
theorem lawSx_any (a : Option Addr) (b o c : Nat) (ks : List Key) (w : World) (hl0 : ks.length ≤ 9223372036854775807) (hls0 : KLe ks 9223372036854775807) (hk : KS w a b o ks) :
    Calls Try.prog 3 #[.slice a ks.length c] w fun e w' => e = .returned (.bool true) ∧ Below w.heap.size w w' := by
  go_enter Try.func3, Try.ntmps3
  go_wp2_with fail
  refine (szSeenS_any a b o c ks _ hl0 hls0 hk).mono ?_
  rintro e w1 ⟨r1, rfl, hb1, hor1⟩
  by_cases hn1 : r1 < 0
  · go_wp2_with fail
    go_ret
    exact ⟨rfl, hb1⟩
  obtain ⟨_, _, hl, hls⟩ := hor1.resolve_left hn1
  clear hor1 hl0 hls0
  have hk1 := hk.below hb1 (Nat.le_refl _)
  go_wp2_with fail
  refine (toSeenS_any a b o c ks _ hl hls hk1).mono ?_
  rintro e w2 ⟨y1, rfl, hy, hb2⟩
  go_wp2_with fail
  refine (sseenSort_any _ y1 0 ks.length ks _ hl hls hy.old).mono ?_
  rintro e w3 ⟨g3, c3, tt, rfl, hkt, hS3, hg3, htl, hb3⟩
  have hb03 : Below w.heap.size w w3 := (hb1.trans (hb2.mono hb1.size)).trans (hb3.mono (Nat.le_trans hb1.size hb2.size))
  have low3 := hS3.low
  have hsz3 := hb03.size
  obtain ⟨N, hN⟩ : ∃ N, w3.heap.size = N := ⟨_, rfl⟩
  rw [hN] at low3
  have htb : ∀ s ∈ tt, s.Le 1048576 := fun s hs => (hS3.at_ s hs).2
  clear hy hb2 hb3 hS3 hk1 hb1
  go_wp2_with fail
  refine (toSeenS_any a b o c ks _ hl hls (hk.below hb03 (Nat.le_refl _))).mono ?_
  rintro e w4 ⟨x1, rfl, hx, hb4⟩
  have hb04 := hb03.trans (hb4.mono hb03.size)
  have low4 := low3.below hb4
  go_wp2_with fail
  refine (iseenSort_any _ x1 0 ks.length ks _ hl hls hx.old).mono ?_
  rintro e w5 ⟨a5, g5, c5, uu, rfl, hku, hnew, hul, _, hb5⟩
  have hb05 := hb04.trans (hb5.mono hb04.size)
  have low5 := low4.below hb5
  have hx5 := hx.below hb5 (Nat.le_refl _)
  have hnles := hnew.les
  have hule : KLe (kys uu) 1048576 := fun k hk => by
    obtain ⟨s, hs, rfl⟩ := List.mem_map.1 hk
    exact ⟨(hnles s hs).reads, (hnles s hs).last⟩
  have hulen : (kys uu).length ≤ 1048576 := by rw [kys_len]; omega
  have HKT : Hid (kys tt = kys uu) := by show _ = _; rw [hkt, hku]
  have HKU : Hid (kys uu = M.sortK ks) := hku
  have hlen : tt.length = uu.length := by have := congrArg List.length HKT.out; rwa [kys_len, kys_len] at this
  clear low3 low4 hb03 hkt hku
  -- the answers are the same
  have E1 := fun W (hu : LowS W w5.heap.size a5 g5 uu) (ht : LowS W N (some ⟨g3, 0, none⟩) g3 tt) => eqSeenS_same a5 g5 0 c5 (some ⟨g3, 0, none⟩) g3 0 c3 (kys uu) W hulen hule hu.ks (HKT.out ▸ ht.ks)
  rw [kys_len] at E1
  rw [hlen]
  go_wp2_with fail
  refine (E1 w5 hnew.low low5).mono ?_
  rintro e w6 ⟨rfl, hb6⟩
  go_wp2_with fail
  have hb06 := hb05.trans (hb6.mono hb05.size)
  refine (toSeenS_any a b o c ks _ hl hls (hk.below hb06 (Nat.le_refl _))).mono ?_
  rintro e w7 ⟨z1, rfl, hz, hb7⟩
  have hb67 := hb6.trans (hb7.mono hb6.size)
  have hx7 := hx5.below hb67 (Nat.le_refl _)
  go_wp2_with fail
  refine (eqSeenS_same _ x1 0 ks.length _ z1 0 ks.length ks _ hl hls hx7.old hz.old).mono ?_
  rintro e w8 ⟨rfl, hb8⟩
  have hb58 := hb67.trans (hb8.mono hb67.size)
  have hb08 := hb05.trans (hb58.mono hb05.size)
  have hx8 := hx5.below hb58 (Nat.le_refl _)
  have low8 := low5.below hb58
  have lowu8 := hnew.low.below hb58
  have rowu8 := hnew.rowC.below hb58
  have hb48 := hb5.trans (hb58.mono hb5.size)
  obtain ⟨xx, hxx, hxr0, hxb0⟩ := hx.rowC
  have hxr := hxr0.below hb48
  have hxl : xx.length = ks.length := by rw [← kys_len, hxx]
  have hxle : ∀ s ∈ xx, s.Le 1048576 := fun s hs => by
    have := hls s.ky (by rw [← hxx]; exact List.mem_map.2 ⟨s, hs, rfl⟩)
    exact ⟨this.1, this.2⟩
  have hxt : ∀ b, anyBlk xx b → ¬ anyBlk tt b := fun b hb hb' => by
    have := (hxb0 b hb).1
    have := low8.lt b hb'
    omega
  have hxu : ∀ b, anyBlk xx b → ¬ anyBlk uu b := fun b hb hb' => by
    have := (hxb0 b hb).2
    have := (hnew.blk hb').1
    omega
  have hut : ∀ b, anyBlk uu b → ¬ anyBlk tt b := fun b hb hb' => by
    have := (hnew.blk hb).1
    have := low8.lt b hb'
    have := hb4.size
    omega
  have hw0 : ∀ b, anyBlk xx b → w.heap.size ≤ b := fun b hb => by
    have := (hxb0 b hb).1
    omega
  have hwu : ∀ b, anyBlk uu b → w.heap.size ≤ b := fun b hb => by
    have := (hnew.blk hb).1
    have := hb4.size
    omega
  clear hb48 hxr0 hx5 hx7 hx8 hz hb67 hb6 hb7 hb8 hb06
  -- the argument's copy is marked
  have M1 := markSeenS_any _ x1 0 ks.length xx w8 (by omega) hxle hxr
  rw [hxl] at M1
  have hT1 := tot2_le hxle
  have p1 : ¬ ((1 : Int) + tot2 xx < 0) := by omega
  go_wp2_with fail
  refine M1.mono ?_
  rintro e w9 ⟨rfl, mk9, _⟩
  have low9 := low8.mk_ mk9 hxt
  have lowu9 := lowu8.mk_ mk9 hxu
  have rowu9 := rowu8.mk_ mk9
  have hb09 := mk9.below hb08 hw0
  have p1' : decide ((1 : Int) + tot2 xx < 0) = false := by simpa using p1
  clear M1 low8 lowu8 rowu8
  generalize tot2 xx = T1 at *
  go_wp2_with fail
  refine (E1 w9 lowu9 low9).mono ?_
  rintro e w10 ⟨rfl, hb10⟩
  have low10 := low9.below hb10
  have rowu10 := rowu9.below hb10
  have hb010 := hb09.trans (hb10.mono hb09.size)
  clear low9 lowu9 rowu9 mk9
  -- the answer is marked
  have M2 := markSeenS_any a5 g5 0 c5 uu w10 (by omega) hnles rowu10
  have hT2 := tot2_le hnles
  have p2 : ¬ ((1 : Int) + tot2 uu < 0) := by omega
  go_wp2_with fail
  refine M2.mono ?_
  rintro e w11 ⟨rfl, mk11, hmm⟩
  have hmarked := hmm hnew.sep
  have low11 := low10.mk_ mk11 hut
  have rowu11 := rowu10.mk_ mk11
  have hb011 := mk11.below hb010 hwu
  clear M2 hmm low10 rowu10
  have H1 := fun W (hr : RowC W a5 g5 0 uu) (hm : Marked W 1 uu uu.length) => heldSeenS_any a5 g5 0 c5 uu W (by omega) hnles hr hm
  generalize tot2 uu = T2 at *
  go_wp2_with fail
  refine (H1 w11 rowu11 hmarked).mono ?_
  rintro e w12 ⟨rfl, rfl⟩
  go_wp2_with fail
  refine (toSeenS_any a b o c ks _ hl hls (hk.below hb011 (Nat.le_refl _))).mono ?_
  rintro e w13 ⟨v1, rfl, hv, hb13⟩
  go_wp2_with fail
  refine (iseenSort_any _ v1 0 ks.length ks _ hl hls hv.old).mono ?_
  rintro e w14 ⟨a14, g14, c14, vv, rfl, hkv, hnv, hvl, _, hb14⟩
  have hb1114 := hb13.trans (hb14.mono hb13.size)
  have low14 := low11.below hb1114
  have rowu14 := rowu11.below hb1114
  have hmk14 := hmarked.below hb1114
  have hb014 := hb011.trans (hb1114.mono hb011.size)
  have hkvt : kys vv = kys uu := by rw [hkv, ← HKU.out]
  have hvlen : vv.length = uu.length := by have := congrArg List.length hkvt; rwa [kys_len, kys_len] at this
  have E2 := eqSeenS_same a14 g14 0 c14 (some ⟨g3, 0, none⟩) g3 0 c3 (kys uu) w14 hulen hule (hkvt ▸ hnv.low.ks) (HKT.out ▸ low14.ks)
  rw [kys_len] at E2
  rw [hvlen]
  clear hkvt hkv
  go_wp2_with fail
  refine E2.mono ?_
  rintro e w15 ⟨rfl, hb15⟩
  go_wp2_with fail
  refine (H1 w15 (rowu14.below hb15) (hmk14.below hb15)).mono ?_
  rintro e w16 ⟨rfl, rfl⟩
  go_wp2_with fail
  go_ret
  exact ⟨rfl, hb014.trans (hb15.mono hb014.size)⟩

end Go.Proofs.Ytkbjdhjcbhdpmab
