/- spec.l71Kind: a drawn order. And what goes with it: DrKi, DrOa, EmbMath, OmMath. -/
import Derived.Test.YtphijhpleemjoaaGreatBFat
import Derived.Test.YtphijhpleemjoaaGreatBFaz
import Derived.Test.YtphijhpleemjoaaGreatBFbf
import Derived.Test.YtphijhpleemjoaaGreatBFbh
import Derived.Test.YtphijhpleemjoaaGreatBFbs
import Derived.Test.YtphijhpleemjoaaGreatBFbt
import Derived.Test.YtphijhpleemjoaaGreatBFbu
namespace Go.Proofs.YtphijhpleemjoaaGreat
open Go.RowKit
set_option maxHeartbeats 1000000 in
set_option maxRecDepth 100000 in
theorem l71Kind_any (B rb p : Nat) (w : World) (hp : p ≤ 900000) (h : Rdr w B rb p) :
  Calls Tryz.prog 41 #[.pointer (some ⟨rb, 0, none⟩)] w fun e w' => ∃ r : Int, e = .returned (.int .i64 r) ∧ -1 ≤ r ∧ r ≤ 4 ∧ Rdr w' B rb (p + 2) ∧ But rb w w' := by
 have hlt := h.lt
 go_enter Tryz.func41, Tryz.ntmps41
 go_wp2_with fail
 refine (pick_rdr B rb p 24 _ (by omega) (by omega) (by omega) h).mono ?_
 rintro e w1 ⟨r1, rfl, r10, r11, hr1, hb1⟩
 by_cases h0 : r1 = 0
 ·subst h0
  have hal := below1 w1 (.cells #[.int .i64 0, .int .i64 4, .int .i64 (-1)] 3)
  have hr2 := hr1.below hal (Nat.le_refl _)
  have hl1 := hb1.size
  go_wp2_with fail
  refine (pick_rdr B rb (p + 1) 3 _ (by omega) (by omega) (by omega) hr2).mono ?_
  rintro e w2 ⟨r2, rfl, r20, r21, hr3, hb2⟩
  have c0 : (w1.alloc (.cells #[.int .i64 0, .int .i64 4, .int .i64 (-1)] 3)).cell? ⟨w1.heap.size, 0, none⟩ = some (.int .i64 0) := by simp
  have c1 : (w1.alloc (.cells #[.int .i64 0, .int .i64 4, .int .i64 (-1)] 3)).cell? ⟨w1.heap.size, 1, none⟩ = some (.int .i64 4) := by simp
  have c2 : (w1.alloc (.cells #[.int .i64 0, .int .i64 4, .int .i64 (-1)] 3)).cell? ⟨w1.heap.size, 2, none⟩ = some (.int .i64 (-1)) := by simp
  have d0 := (hb2.cell (p := ⟨w1.heap.size, 0, none⟩) (by simp) (by show w1.heap.size ≠ rb; omega)).trans c0
  have d1 := (hb2.cell (p := ⟨w1.heap.size, 1, none⟩) (by simp) (by show w1.heap.size ≠ rb; omega)).trans c1
  have d2 := (hb2.cell (p := ⟨w1.heap.size, 2, none⟩) (by simp) (by show w1.heap.size ≠ rb; omega)).trans c2
  have hbw := (hb1.trans (But.of hal)).trans hb2
  clear c0 c1 c2 hal
  have hr : r2 = 0 ∨ r2 = 1 ∨ r2 = 2 := by omega
  rcases hr with rfl | rfl | rfl
  ·go_wp2_with fail
   go_ret
   exact ⟨_, rfl, by omega, by omega, hr3, hbw⟩
  ·go_wp2_with fail
   go_ret
   exact ⟨_, rfl, by omega, by omega, hr3, hbw⟩
  ·go_wp2_with fail
   go_ret
   exact ⟨_, rfl, by omega, by omega, hr3, hbw⟩
 ·have b0 : (r1 == 0) = false := by simp [h0]
  go_wp2_with fail
  refine (pick_rdr B rb (p + 1) 3 _ (by omega) (by omega) (by omega) hr1).mono ?_
  rintro e w2 ⟨r2, rfl, r20, r21, hr3, hb2⟩
  go_wp2_with fail
  go_ret
  exact ⟨_, rfl, by (try rw [IntKind.wrap_i64]); omega, by (try rw [IntKind.wrap_i64]); omega, hr3, hb1.trans hb2⟩
end Go.Proofs.YtphijhpleemjoaaGreat
namespace Go.Proofs.YtphijhpleemjoaaGreat
open Go.RowKit
set_option maxHeartbeats 1000000 in
set_option maxRecDepth 100000 in
theorem DrawOrderAll_any (ca : Option Addr) (cb co L C : Nat) (x : Nat → Int) (w : World) (hL : L ≤ C) (had : 0 < L → ca = some ⟨cb, co, none⟩) (hc : ∀ i, i < L → w.cell? ⟨cb, co + i, none⟩ = some (.int .u8 (x i)) ∧ 0 ≤ x i ∧ x i ≤ 255) (hLb : L ≤ 1048576) :
  Calls Tryz.prog 15 #[.slice ca L C] w fun e w' => ∃ (a : Option Addr) (g c : Nat) (mm : List (List M.D)) (kind : Int), e = .returned (.tuple #[.agg #[.slice a mm.length c], .int .i64 kind]) ∧ DoSN (w.heap.size + 1) w' a g 0 mm ∧ Small mm c ∧ -1 ≤ kind ∧ kind ≤ 4 ∧ Below w.heap.size w w' := by
 go_enter Tryz.func15, Tryz.ntmps15
 go_wp2_with fail
 have hb0 := below1 w (.cells #[.slice none 0 0] 25)
 refine (l6Open_any ca cb co L C x _ hL had (fun i hi => ⟨by rw [hb0.cell (p := ⟨cb, co + i, none⟩) (World.block_lt_of_cell? _ _ (hc i hi).1)]; exact (hc i hi).1, (hc i hi).2⟩) hLb).mono ?_
 rintro e w1 ⟨rfl, hr1, hb1⟩
 simp only [World.size_alloc] at hr1 hb1 ⊢
 have hb1w : Below w.heap.size w w1 := hb0.trans (hb1.mono (by omega))
 have hS1 := (Slot1.new w (.slice none 0 0) 25).but (But.of (rb := w.heap.size + 1) (by simpa only [World.size_alloc] using hb1)) (by omega)
 have hlt1 := hr1.lt
 clear hc had hb0 hb1
 go_wp2_with fail
 refine (l71Any_any _ (w.heap.size + 1) 0 _ (by omega) hr1).mono ?_
 rintro e w2 ⟨a, g, c, mm, rfl, hsn, hsm, p2, hp2, hr2, hb2⟩
 have hS2 := hS1.but hb2 (by omega)
 have hbw : Below w.heap.size w w2 := But.below hb1w hb2 (by omega)
 have hl2 := hr2.lt
 go_wp2_with fail
 refine (l71Kind_any _ (w.heap.size + 1) p2 _ (by omega) hr2).mono ?_
 rintro e w3 ⟨kind, rfl, k0, k1, hr3, hb3⟩
 have hS3 := hS2.but hb3 (by omega)
 have s0 := hS3.c
 have sf := hS3.fz
 have hsl := hS3.lt
 have hsn3 := (hsn.mono (N' := w.heap.size + 1 + 1) (by omega)).but hb3 (by omega)
 have hbw3 : Below w.heap.size w w3 := But.below hbw hb3 (by omega)
 go_wp2_with fail
 have s4 := (hS3.set (.slice a mm.length c)).c
 refine bodyPost_ret (v := .tuple #[.agg #[.slice a mm.length c], .int .i64 kind]) (by simp [results, Tryz.results15, go_sem, s4]) rfl ⟨a, g, c, mm, kind, rfl, (hsn3.far (by omega)).mono (by omega), hsm, k0, k1, hbw3.setCell (Nat.le_refl _) _⟩
end Go.Proofs.YtphijhpleemjoaaGreat
namespace Go.Proofs.YtphijhpleemjoaaGreat
namespace M
def up (f : Nat → Nat) (z : Int) : Int := if z < 0 then z else (f z.toNat : Int)
theorem lt_of_get {α : Type} {l : List α} {n : Nat} {x : α} (h : l[n]? = some x) : n < l.length := (List.getElem?_eq_some_iff.1 h).1
theorem mem_of_get {α : Type} {l : List α} {n : Nat} {x : α} (h : l[n]? = some x) : x ∈ l := List.mem_of_getElem? h
def Fro (ds : List De) (l : List Int) : Prop := ∀ (a : Nat) (x : De), ds[a]? = some x → if x.reads then l.getD a 0 = -1 ∨ ∃ (b : Nat) (y : De), l.getD a 0 = (b : Int) ∧ ds[b]? = some y ∧ y.to x.d.p = true else l.getD a 0 = -2
structure WO (ds : List De) (l : List Int) (rows : List (List Int)) : Prop where
 len : l.length = ds.length
 fro : Fro ds l
 three : rows.length = 3
 row : ∀ p : Int, 0 ≤ p → p < 3 → (rows.getD p.toNat []).Perm (wrs p 0 ds)
 fin : ends ds l = true
theorem isRow_iff {row evs : List Int} (hn : evs.Nodup) : isRow row evs = true ↔ row.Perm evs := by
 simp only [isRow, Bool.and_eq_true, decide_eq_true_eq, List.all_eq_true]
 constructor
 ·rintro ⟨h1, h2⟩
  exact (perm_of evs row hn (fun v hv => by simpa using h2 v hv) (by omega)).symm
 ·intro h
  exact ⟨h.length_eq, fun v hv => by simpa using h.mem_iff.2 hv⟩
theorem wo_iff {ds : List De} {l : List Int} {rows : List (List Int)} : wayOk ds l rows = true ↔ WO ds l rows := by
 simp only [wayOk, Bool.and_eq_true, fromOk, orderOk, decide_eq_true_eq]
 have fr : ∀ (h : l.length = ds.length), fromAt ds ds l = true ↔ Fro ds l := fun h => by
  rw [fromAt_iff ds l h]
  constructor
  ·intro hk a x hx
   obtain ⟨ha, rfl⟩ := List.getElem?_eq_some_iff.1 hx
   have := hk a ha
   rw [mayTell_iff] at this
   split at this
   ·rename_i hr
    rw [if_pos hr]
    refine this.imp id fun hm => ?_
    obtain ⟨i, hi, e, ht⟩ := mem_wrs.1 hm
    exact ⟨i, ds[i], by rw [e]; simp, List.getElem?_eq_getElem hi, ht⟩
   ·rename_i hr
    rw [if_neg hr]
    exact this
  ·intro hk a ha
   have := hk a _ (List.getElem?_eq_getElem ha)
   rw [mayTell_iff]
   split at this
   ·rename_i hr
    rw [if_pos hr]
    refine this.imp id fun ⟨b, y, e, hy, ht⟩ => ?_
    obtain ⟨hb, rfl⟩ := List.getElem?_eq_some_iff.1 hy
    rw [e]
    exact mem_wrs.2 ⟨b, hb, by simp, ht⟩
   ·rename_i hr
    rw [if_neg hr]
    exact this
 have od : ∀ (h : rows.length = 3), orderAt ds 0 rows = true ↔ ∀ p : Int, 0 ≤ p → p < 3 → (rows.getD p.toNat []).Perm (wrs p 0 ds) := fun h => by
  match rows, h with
  | [r0, r1, r2], _ =>
   simp only [orderAt, Bool.and_eq_true, and_true]
   rw [isRow_iff (nodup_wrs _ _ _), isRow_iff (nodup_wrs _ _ _), isRow_iff (nodup_wrs _ _ _)]
   constructor
   ·rintro ⟨h0, h1, h2⟩ p hp hp3
    rcases (show p = 0 ∨ p = 1 ∨ p = 2 by omega) with rfl | rfl | rfl
    ·exact h0
    ·exact h1
    ·exact h2
   ·intro hk
    exact ⟨hk 0 (by omega) (by omega), hk 1 (by omega) (by omega), hk 2 (by omega) (by omega)⟩
 constructor
 ·rintro ⟨⟨h1, h2⟩, ⟨h3, h4⟩, h5⟩
  exact ⟨h1, (fr h1).1 h2, h3, (od h3).1 h4, h5⟩
 ·intro h
  exact ⟨⟨h.len, (fr h.len).2 h.fro⟩, ⟨h.three, (od h.three).2 h.row⟩, h.fin⟩
section
variable {ds es : List De} {f : Nat → Nat} {g v : Int → Int}
end
end M
end Go.Proofs.YtphijhpleemjoaaGreat
namespace Go.Proofs.YtphijhpleemjoaaGreat
namespace M
theorem holds_iff {ll : List (List D)} {l : List Int} {rows : List (List Int)} {k : Nat} : orderHolds ll l rows k = true ↔ (1 ≤ k ∧ k ≤ 3) ∧ execOk ll l rows = true ∧ ¬ Round (linksOf (netOf (deeds ll) l rows 0) (deeds ll).length) ∧ Sat (linksOf (netOf (deeds ll) l rows k) (deeds ll).length) (choices (deeds ll)) := by
 unfold orderHolds
 simp only [Bool.and_eq_true, decide_eq_true_eq, Int.toNat_natCast]
 constructor
 ·rintro ⟨hk, he, h0, hw⟩
  rw [waits_ok _ _ _ fun c hc => (choices_ok (run_of (exec_prog he)) c hc).1] at hw
  exact ⟨by omega, he, (kahn_ok _ _).1 h0, hw⟩
 ·rintro ⟨hk, he, h0, hw⟩
  rw [waits_ok _ _ _ fun c hc => (choices_ok (run_of (exec_prog he)) c hc).1]
  exact ⟨by omega, he, (kahn_ok _ _).2 h0, hw⟩
theorem exec_wo {ll : List (List D)} {l : List Int} {rows : List (List Int)} : execOk ll l rows = true ↔ prog ll = true ∧ WO (deeds ll) l rows := by
 rw [execOk, Bool.and_eq_true, wo_iff]
theorem mem_net {ll : List (List D)} {l : List Int} {rows : List (List Int)} {k : Nat} {a b : Nat} : (a, b) ∈ linksOf (netOf (deeds ll) l rows k) (deeds ll).length ↔ ∃ x y, (deeds ll)[a]? = some x ∧ (deeds ll)[b]? = some y ∧ must (deeds ll) l rows k a b x y = true := by
 rw [mem_links]
 constructor
 ·rintro ⟨ha, hb, h⟩
  rw [netOf, mustAt, List.getElem?_eq_getElem ha, List.getElem?_eq_getElem hb] at h
  exact ⟨_, _, List.getElem?_eq_getElem ha, List.getElem?_eq_getElem hb, h⟩
 ·rintro ⟨x, y, hx, hy, h⟩
  refine ⟨lt_of_get hx, lt_of_get hy, ?_⟩
  rw [netOf, mustAt, hx, hy]
  exact h
theorem orderAll_congr {ll mm : List (List D)} (hd : deeds ll = deeds mm) (hp : prog ll = prog mm) (k : Int) : orderAll ll k = orderAll mm k := by
 have he : ∀ l rows, execOk ll l rows = execOk mm l rows := fun l rows => by rw [execOk, execOk, hd, hp]
 have ho : ∀ l rows, orderHolds ll l rows k = orderHolds mm l rows k := fun l rows => by rw [orderHolds, orderHolds, he, hd]
 have hs : seenOf ll = seenOf mm := funext fun x => by simp only [seenOf, hd]
 unfold orderAll orderList
 rw [hp, hd, hs]
 simp only [ho]
theorem deF_append : ∀ (ll mm : List (List D)) (t n : Nat), deF t n (ll ++ mm) = deF t n ll ++ deF (t + ll.length) (n + (deF t n ll).length) mm
 | [], mm, t, n => by simp [deF]
 | l :: ll, mm, t, n => by
  simp only [List.cons_append, deF, deF_append ll mm, List.append_assoc, List.length_append, List.length_cons]
  rw [show t + 1 + ll.length = t + (ll.length + 1) by omega, show n + (deT t 0 (-1) n l).length + (deF (t + 1) (n + (deT t 0 (-1) n l).length) ll).length = n + ((deT t 0 (-1) n l).length + (deF (t + 1) (n + (deT t 0 (-1) n l).length) ll).length) by omega]
theorem deeds_idle (ll : List (List D)) : deeds (ll ++ [[]]) = deeds ll := by
 unfold deeds
 rw [deF_append]
 simp [deF, deT]
theorem from_idle : ∀ (ll : List (List D)) (a u : Nat), progFrom a u (ll ++ [[]]) = progFrom a u ll
 | [], a, u => by simp [progFrom, thread, form, copies, readers, cnt]; rfl
 | l :: ll, a, u => by
  rw [List.cons_append, progFrom, progFrom, from_idle ll]
theorem prog_idle {ll : List (List D)} (hp : prog ll = true) (h3 : ll.length < 3) : prog (ll ++ [[]]) = true := by
 simp only [prog, Bool.and_eq_true, decide_eq_true_eq] at hp ⊢
 rw [from_idle]
 exact ⟨by simp; omega, hp.2⟩
theorem all_idle {ll : List (List D)} (hp : prog ll = true) (h3 : ll.length < 3) (k : Int) : orderAll (ll ++ [[]]) k = orderAll ll k := orderAll_congr (deeds_idle ll) (by rw [prog_idle hp h3, hp]) k
theorem mem_deT (t : Nat) : ∀ (l : List D) (i : Nat) (lr : Int) (n : Nat) (x : De), x ∈ deT t i lr n l → x.d ∈ l ∧ x.t = t
 | [], _, _, _, x, h => by simp [deT] at h
 | d :: l, i, lr, n, x, h => by
  rw [deT] at h
  rcases List.mem_append.1 h with h | h
  ·have h1 := deD_k t i lr n d x h
   refine ⟨by rw [h1]; exact List.mem_cons_self .., ?_⟩
   unfold deD at h
   split at h
   ·rcases List.mem_cons.1 h with rfl | h
    ·rfl
    ·rw [List.mem_singleton.1 h]
   ·rw [List.mem_singleton.1 h]
  ·obtain ⟨h1, h2⟩ := mem_deT t l _ _ _ x h
   exact ⟨List.mem_cons_of_mem _ h1, h2⟩
theorem mem_deF : ∀ (ll : List (List D)) (t n : Nat) (x : De), x ∈ deF t n ll → t ≤ x.t ∧ x.t < t + ll.length ∧ ∃ l, ll[x.t - t]? = some l ∧ x.d ∈ l
 | [], _, _, x, h => by simp [deF] at h
 | l :: ll, t, n, x, h => by
  rw [deF] at h
  rcases List.mem_append.1 h with h | h
  ·obtain ⟨h1, h2⟩ := mem_deT t l _ _ _ x h
   exact ⟨by omega, by simp; omega, l, by rw [h2]; simp, h1⟩
  ·obtain ⟨h1, h2, l', h3, h4⟩ := mem_deF ll _ _ x h
   exact ⟨by omega, by simp; omega, l', by rw [show x.t - t = (x.t - (t + 1)) + 1 by omega]; simpa using h3, h4⟩
theorem own_iff {a b : Nat} {x y : De} : own a b x y = true ↔ a < b ∧ x.t = y.t := by simp [own]
theorem tell_uses {ll : List (List D)} {l : List Int} {rows : List (List Int)} (h : WO (deeds ll) l rows) {a b : Nat} {x y : De} (hx : (deeds ll)[a]? = some x) (hy : (deeds ll)[b]? = some y) (ht : (read l a b || over l rows a b x y) = true) : a ≠ b ∧ x.uses = true ∧ y.uses = true ∧ x.d.p = y.d.p := by
 rw [Bool.or_eq_true] at ht
 rcases ht with ht | ht
 ·simp only [read, beq_iff_eq] at ht
  have hf := h.fro b y hy
  cases hr : y.reads
  ·rw [hr, if_neg (by simp)] at hf; omega
  ·rw [if_pos hr] at hf
   rcases hf with e | ⟨c, z, e, hz, hto⟩
   ·omega
   ·have : c = a := by omega
    subst this
    rw [hx] at hz
    obtain rfl := Option.some.inj hz
    simp only [De.to, Bool.and_eq_true, beq_iff_eq] at hto
    refine ⟨fun e => ?_, by show (M.reads _ || M.writes _) = true; rw [hto.1, Bool.or_true], by show (M.reads _ || M.writes _) = true; rw [show M.reads y.d.k = true from hr, Bool.true_or], hto.2⟩
    subst e
    rw [hx] at hy
    obtain rfl := Option.some.inj hy
    have h9 : M.reads x.d.k = true := hr
    rw [wr_rd hto.1] at h9; cases h9
 ·simp only [over, Bool.and_eq_true, decide_eq_true_eq, onePl, beq_iff_eq] at ht
  obtain ⟨⟨hu, hu2, hp⟩, hw, hlt⟩ := ht
  refine ⟨fun e => ?_, hu, hu2, hp⟩
  subst e
  rw [hx] at hy
  obtain rfl := Option.some.inj hy
  rw [wrote, wr_rd hw] at hlt
  simp at hlt
end M
end Go.Proofs.YtphijhpleemjoaaGreat
