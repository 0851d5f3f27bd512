/- impl's sets of events as values: whether an event must be ahead of itself; with one link more. Of words of 32 bits. impl's settling of choices. Of words of 32 bits, of at most 1048576 choices. impl's canChoose: whether of each choice one can be added. Of words of 32 bits, of at most 1048576 choices. -/
import Derived.Test.YtjpgpjjejbjldaaGreatBnHm
import Derived.Test.YtjpgpjjejbjldaaGreatArrOp
import Derived.Deep.MidRow
import Derived.Deep.WholeRow
import Derived.Test.YtjpgpjjejbjldaaGreatSnFar
import Derived.Test.YtjpgpjjejbjldaaGreatTold
import Derived.Test.YtjpgpjjejbjldaaGreatQuietB
import Derived.Test.YtjpgpjjejbjldaaGreatApRow
import Derived.BigQuiet

namespace Go.Proofs.YtjpgpjjejbjldaaGreat
open Go.RowKit

/-- Twenty-eight words, as a value. -/
def btA (N : Nat → Nat) : Array Value := ((List.range 28).map fun i => Value.int .u32 (N i)).toArray
theorem btA_size (N : Nat → Nat) : (btA N).size = 28 := by simp [btA]
theorem btA_get (N : Nat → Nat) (j : Nat) (h : j < 28) : (btA N)[j]? = some (.int .u32 (N j)) := by simp [btA, h]
theorem btA_one (N : Nat → Nat) : (btA N).all (·.oneCell') = true := by
  rw [Array.all_eq_true_iff_forall_mem]
  intro v hv
  have hv' : v ∈ (List.range 28).map fun i => Value.int .u32 (N i) := by simpa [btA] using hv
  obtain ⟨j, _, rfl⟩ := List.mem_map.1 hv'
  rfl
theorem Bt.of_block {w : World} {B : Nat} {N : Nat → Nat} {t : TypeId} (h : w.heap[B]? = some (.cells (btA N) t (0, 0))) (hN : ∀ i, N i < 4294967296) : Bt w B N :=
  ⟨fun j hj => by rw [cell_of_row _ _ _ _ _ _ h]; exact btA_get N j hj, hN, fun j => frozen_of_row _ _ _ _ _ h⟩
theorem Bt.range {w : World} {B : Nat} {N : Nat → Nat} (h : Bt w B N) : w.rangeAt B 0 (btA N).toList := fun j v hj => by
  have hlt : j < 28 := by
    have := (List.getElem?_eq_some_iff.1 hj).1
    simpa [btA] using this
  have e : (btA N)[j]? = some v := by simpa using hj
  rw [btA_get N j hlt] at e
  rw [Nat.zero_add, h.c j hlt, e]
theorem Bt.there {w : World} {B : Nat} {N : Nat → Nat} (h : Bt w B N) : w.there B 0 28 := fun j hj => by
  rw [Nat.zero_add]
  exact ⟨by rw [h.c j hj]; rfl, h.fz j⟩
theorem Bt.lt_ {w : World} {B : Nat} {N : Nat → Nat} (h : Bt w B N) : B < w.heap.size := World.block_lt_of_cell? _ _ (h.c 0 (by omega))
theorem Tryz.infoSets : (Tryz.prog.info? 94).map (·.size) = some 28 := by kernel_rfl
theorem Tryz.undSets : Tryz.prog.underlying 94 = some (.array 28 92) := by kernel_rfl
theorem Tryz.infoSet : (Tryz.prog.info? 92).map (·.size) = some 1 := by kernel_rfl
theorem Tryz.undSet : ∃ d, Tryz.prog.underlying 92 = some d ∧ d.isRow = false := ⟨_, Tryz.underlying92, rfl⟩
theorem btA_list (N : Nat → Nat) : (btA N).toList.toArray = btA N := by simp

/-- Whether one leads to itself. -/
def M.roundN (N : Nat → Nat) : Bool := (List.range 28).any fun a => (N a).testBit a
theorem M.round_hit {N : Nat → Nat} {k : Nat} (hk : k < 28) (h : (N k).testBit k = true) : M.roundN N = true := by
  unfold M.roundN
  rw [List.any_eq_true]
  exact ⟨k, List.mem_range.2 hk, h⟩
theorem M.round_fin {N : Nat → Nat} (h : ∀ k, k < 28 → (N k).testBit k = false) : M.roundN N = false := by
  unfold M.roundN
  rw [List.any_eq_false]
  intro k hk
  rw [h k (List.mem_range.1 hk)]
  simp

set_option maxHeartbeats 1000000 in
set_option maxRecDepth 100000 in
theorem goesRound_any (N : Nat → Nat) (w : World) (hN : ∀ i, N i < 4294967296) :
    Calls Tryz.prog 45 #[.agg (btA N)] w fun e w' => e = .returned (.bool (M.roundN N)) ∧ Below w.heap.size w w' := by
  have hB := Bt.of_block (t := 94) (heap_alloc_new w (.cells (btA N) 94)) hN
  have hb1 := below1 w (.cells (btA N) 94)
  obtain ⟨dS, hd1, hd2⟩ := Tryz.undSet
  have hsz := btA_size N
  have hr := hB.range
  have hi2 : (Tryz.prog.info? 94).map (·.size) = some (btA N).toList.length := by rw [Tryz.infoSets]; simp [btA]
  have hget := btA_get N
  generalize btA N = A at *
  go_enter Tryz.func45, Tryz.ntmps45
  go_wp2_with (refine wpList_load_mid rfl 94 (.tmp 1) rfl w.heap.size 0 rfl A.toList _ hr Tryz.undSets rfl hi2 ?_)
  go_loopw [6] (fun s6 wr => ∃ k : Nat, s6 = .int .i64 k ∧ k ≤ 28 ∧ (∀ j, j < k → (N j).testBit j = false) ∧ wr = w.alloc (.cells A 94)) (fun s6 _ => 28 - (intOf s6).toNat)
  case atStart => exact ⟨0, rfl, by omega, fun j hj => absurd hj (Nat.not_lt_zero _), rfl⟩
  case round =>
    obtain ⟨k, rfl, hk, hall, rfl⟩ := hrel
    have HA : Hid (∀ j, j < k → (N j).testBit j = false) := hall
    clear hall
    by_cases hlt : k < 28
    · have i1 : (k : Int) < 28 := by omega
      have hv : A.toList.toArray[k]? = some (.int .u32 (N k)) := by simpa using hget k hlt
      have CH := fun W => has_any (N k) k W (hN k) hlt
      cases ht : (N k).testBit k
      · rw [ht] at CH
        go_wp2_with (first | (refine wpList_index_one rfl 94 (.tmp 5) (.tmp 6) rfl A.toList.toArray k 28 92 dS _ rfl rfl Tryz.undSets hlt hd1 hd2 Tryz.infoSet hv ?_) | (go_at_call 77; refine (CH _).mono ?_; rintro e w1 ⟨rfl, rfl⟩))
        exact ⟨⟨k + 1, by go_num, by omega, fun j hj => by
          by_cases e : j = k
          · subst e; exact ht
          · exact HA.out j (by omega), by first | rfl | trivial⟩, by simp [intOf]; omega⟩
      · rw [ht] at CH
        go_wp2_with (first | (refine wpList_index_one rfl 94 (.tmp 5) (.tmp 6) rfl A.toList.toArray k 28 92 dS _ rfl rfl Tryz.undSets hlt hd1 hd2 Tryz.infoSet hv ?_) | (go_at_call 77; refine (CH _).mono ?_; rintro e w1 ⟨rfl, rfl⟩))
        go_ret
        exact ⟨ret_bool (M.round_hit hlt ht).symm, hb1⟩
    · have i1 : ¬ (k : Int) < 28 := by omega
      go_wp2_with fail
      go_ret
      exact ⟨ret_bool (M.round_fin fun j hj => HA.out j (by omega)).symm, hb1⟩

theorem results_cell_mid {P : Program} {fn : Func} {p : Tmp} {ty : TypeId} (h : fn.results = #[.cell p ty]) (tmps : Array Value) (w : World) (b o : Nat) (cs : List Value) (d : TypeDesc)
    (hp : tmps.getD p undef = .pointer (some ⟨b, o, none⟩)) (hc : w.rangeAt b o cs) (hu : P.underlying ty = some d) (hd : d.isRow = true) (hi : (P.info? ty).map (·.size) = some cs.length) :
    (results fn tmps).run P w = .ok (.agg cs.toArray) w := by
  have hp' : tmps[p]?.getD undef = .pointer (some ⟨b, o, none⟩) := by simpa using hp
  simp [results, h, hp', asAddr, run_loadVar_mid w b o ty cs d hc hu hd hi]
theorem Below.setCells {B : Nat} {a : World} {b : Nat} (hb : B ≤ b) : ∀ (vs : List Value) (o : Nat) (w : World), Below B a w → Below B a (w.setCells b o vs)
  | [], _, _, h => h
  | v :: r, o, _, h => Below.setCells hb r (o + 1) _ (h.setCell (p := ⟨b, o, none⟩) hb v)
theorem Bt.stored {w : World} {b : Nat} {N N' : Nat → Nat} (h : Bt w b N') (hN : ∀ i, N i < 4294967296) : Bt (w.setCells b 0 (btA N).toList) b N := by
  have hl : (btA N).toList.length = 28 := by simp [btA]
  refine ⟨fun i hi => ?_, hN, fun i => ?_⟩
  · have := World.rangeAt_setCells_same w b 0 (btA N).toList (by rw [hl]; exact h.there) i (.int .u32 (N i)) (by simpa using btA_get N i hi)
    rwa [Nat.zero_add] at this
  · rw [World.frozen?_setCells]; exact h.fz i
theorem Bt.grown {w w' : World} {b : Nat} {N : Nat → Nat} {row : Option Nat} (h : Bt w b N) (hg : w.grownBy w' row) (hne : some b ≠ row) : Bt w' b N :=
  ⟨fun i hi => hg.cell (h.c i hi) hne, h.lt, fun i => (World.frozen?_of_block (w := w) (a := ⟨b, i, none⟩) (hg.block b h.lt_ hne)).trans (h.fz i)⟩

set_option maxHeartbeats 1000000 in
set_option maxRecDepth 100000 in
theorem with_any (N : Nat → Nat) (l : M.Lk) (w : World) (hN : ∀ i, N i < 4294967296) (h1 : l.1 < 28) (h2 : l.2 < 28) :
    Calls Tryz.prog 79 #[.agg (btA N), .agg #[.int .i64 l.1, .int .i64 l.2]] w fun e w' => e = .returned (.agg (btA (M.addW N l))) ∧ Below w.heap.size w w' := by
  have hA2 : ∀ i, M.addW N l i < 4294967296 := M.addW_lt (k := 32) hN (by omega)
  go_enter Tryz.func79, Tryz.ntmps79
  go_wp2_with fail
  have hz : btA (fun _ => 0) = #[.int .u32 0, .int .u32 0, .int .u32 0, .int .u32 0, .int .u32 0, .int .u32 0, .int .u32 0, .int .u32 0, .int .u32 0, .int .u32 0, .int .u32 0, .int .u32 0, .int .u32 0, .int .u32 0, .int .u32 0, .int .u32 0, .int .u32 0, .int .u32 0, .int .u32 0, .int .u32 0, .int .u32 0, .int .u32 0, .int .u32 0, .int .u32 0, .int .u32 0, .int .u32 0, .int .u32 0, .int .u32 0] := by rfl
  rw [← hz]
  clear hz
  have b3 := below3 w (.cells (btA N) 94) (.cells #[.int .i64 l.1, .int .i64 l.2] 132) (.cells (btA fun _ => 0) 94)
  have B0 : Bt (((w.alloc (.cells (btA N) 94)).alloc (.cells #[.int .i64 l.1, .int .i64 l.2] 132)).alloc (.cells (btA fun _ => 0) 94)) w.heap.size N := ((Bt.of_block (t := 94) (heap_alloc_new w _) hN).below (below1 _ _)).below (below1 _ _)
  have BZ : Bt (((w.alloc (.cells (btA N) 94)).alloc (.cells #[.int .i64 l.1, .int .i64 l.2] 132)).alloc (.cells (btA fun _ => 0) 94)) (w.heap.size + 1 + 1) (fun _ => 0) := Bt.of_block (t := 94) (alloc_new _ _ _ (by simp)) (fun _ => by decide)
  generalize ((w.alloc (.cells (btA N) 94)).alloc (.cells #[.int .i64 l.1, .int .i64 l.2] 132)).alloc (.cells (btA fun _ => 0) 94) = W at *
  refine (add_any w.heap.size N l W h1 h2 B0).mono ?_
  rintro e w1 ⟨rfl, B1, hg⟩
  have BZ1 := BZ.grown hg (fun e => by have : w.heap.size + 1 + 1 = w.heap.size := Option.some.inj e; omega)
  have b1 : Below w.heap.size w w1 := below_grown b3 hg (fun k hk => by have : w.heap.size = k := Option.some.inj hk; omega) b3.size
  have hr := B1.range
  have hi2 : (Tryz.prog.info? 94).map (·.size) = some (btA (M.addW N l)).toList.length := by rw [Tryz.infoSets]; simp [btA]
  have hi3 : (Tryz.prog.info? 94).map (·.size) = some (btA (M.addW N l)).toList.toArray.size := by rw [Tryz.infoSets]; simp [btA]
  have hone : (btA (M.addW N l)).toList.toArray.all (·.oneCell') = true := by simpa using btA_one (M.addW N l)
  have hth : w1.there (w.heap.size + 1 + 1) 0 (btA (M.addW N l)).toList.toArray.size := by
    have : (btA (M.addW N l)).toList.toArray.size = 28 := by simp [btA]
    rw [this]; exact BZ1.there
  have BF := BZ1.stored hA2
  have hrF := BF.range
  have bF : Below w.heap.size w (w1.setCells (w.heap.size + 1 + 1) 0 (btA (M.addW N l)).toList) := Below.setCells (by omega) _ _ _ b1
  clear B0 BZ BZ1 B1 hg b3 BF
  generalize hAe : btA (M.addW N l) = A at hr hi2 hi3 hone hth hrF bF ⊢
  have HA : Hid (btA (M.addW N l) = A) := hAe
  clear hAe
  go_wp2_with (first | (refine wpList_load_mid rfl 94 (.tmp 2) rfl w.heap.size 0 rfl A.toList _ hr Tryz.undSets rfl hi2 ?_) | (refine wpList_store_mid rfl 94 (.tmp 4) (.tmp 7) rfl (w.heap.size + 1 + 1) 0 A.toList.toArray rfl rfl hth hi3 hone ?_))
  refine bodyPost_ret (v := .agg A) ?_ rfl ⟨by rw [HA.out], bF⟩
  have := results_cell_mid Tryz.results79 #[Value.agg (btA N), Value.agg #[Value.int .i64 l.1, Value.int .i64 l.2], Value.pointer (some ⟨w.heap.size, 0, none⟩), Value.pointer (some ⟨w.heap.size + 1, 0, none⟩), Value.pointer (some ⟨w.heap.size + 1 + 1, 0, none⟩), Value.agg #[Value.int .i64 l.1, Value.int .i64 l.2], Value.tuple #[], Value.agg A] _ (w.heap.size + 1 + 1) 0 A.toList _ (by simp) hrF Tryz.undSets rfl hi2
  rw [Array.toArray_toList] at this
  exact this

end Go.Proofs.YtjpgpjjejbjldaaGreat

namespace Go.Proofs.YtjpgpjjejbjldaaGreat
open Go.RowKit

/-- The four cells of a choice. -/
def M.c4 (c : M.Ch) : List Value := [.int .i64 c.1.1, .int .i64 c.1.2, .int .i64 c.2.1, .int .i64 c.2.2]
theorem M.c4_len (c : M.Ch) : (M.c4 c).length = 4 := rfl
structure ChAt (w : World) (g o : Nat) (c : M.Ch) : Prop where
  c0 : w.cell? ⟨g, o, none⟩ = some (.int .i64 c.1.1)
  c1 : w.cell? ⟨g, o + 1, none⟩ = some (.int .i64 c.1.2)
  c2 : w.cell? ⟨g, o + 2, none⟩ = some (.int .i64 c.2.1)
  c3 : w.cell? ⟨g, o + 3, none⟩ = some (.int .i64 c.2.2)
/-- A value is a slice of choices. -/
structure ChS (w : World) (va : Option Addr) (g o : Nat) (cs : List M.Ch) : Prop where
  addr : 0 < cs.length → va = some ⟨g, o, none⟩
  row : ∀ i (h : i < cs.length), ChAt w g (o + i * 4) cs[i]
theorem ChAt.below {w w' : World} {g o : Nat} {c : M.Ch} (h : ChAt w g o c) (hb : Below w.heap.size w w') : ChAt w' g o c := by
  have hl : g < w.heap.size := World.block_lt_of_cell? _ _ h.c0
  exact ⟨(hb.cell (p := ⟨g, o, none⟩) hl).trans h.c0, (hb.cell (p := ⟨g, o + 1, none⟩) hl).trans h.c1, (hb.cell (p := ⟨g, o + 2, none⟩) hl).trans h.c2, (hb.cell (p := ⟨g, o + 3, none⟩) hl).trans h.c3⟩
theorem ChS.below {w w' : World} {va : Option Addr} {g o : Nat} {cs : List M.Ch} (h : ChS w va g o cs) (hb : Below w.heap.size w w') : ChS w' va g o cs := ⟨h.addr, fun i hi => (h.row i hi).below hb⟩
theorem ChAt.grown {w w' : World} {g o : Nat} {c : M.Ch} {row : Option Nat} (h : ChAt w g o c) (hg : w.grownBy w' row) (hne : some g ≠ row) : ChAt w' g o c := ⟨hg.cell h.c0 hne, hg.cell h.c1 hne, hg.cell h.c2 hne, hg.cell h.c3 hne⟩
theorem ChS.grown {w w' : World} {va : Option Addr} {g o : Nat} {cs : List M.Ch} {row : Option Nat} (h : ChS w va g o cs) (hg : w.grownBy w' row) (hne : 0 < cs.length → some g ≠ row) : ChS w' va g o cs := ⟨h.addr, fun i hi => (h.row i hi).grown hg (hne (by omega))⟩
theorem ChS.nil (w : World) (va : Option Addr) (g o : Nat) : ChS w va g o [] := ⟨fun h => absurd h (Nat.lt_irrefl _), fun _ hi => absurd hi (Nat.not_lt_zero _)⟩
theorem own_ch {w : World} {base : Nat} {v : Value} {cs : List M.Ch} (h : w.ownsRow base 136 4 v cs.length (cs.map M.c4).flatten) : ∃ va g cap, v = .slice va cs.length cap ∧ ChS w va g 0 cs ∧ (0 < cs.length → base ≤ g) ∧ cs.length ≤ cap := by
  obtain ⟨va, g, cap, rfl, hrs, hge, hcap⟩ := own_rs M.c4_len h
  exact ⟨va, g, cap, rfl, ⟨hrs.addr, fun i hi => by
    rw [Nat.zero_add]
    exact ⟨hrs.row i hi 0 (by omega), hrs.row i hi 1 (by omega), hrs.row i hi 2 (by omega), hrs.row i hi 3 (by omega)⟩⟩, hge, hcap⟩
theorem Tryz.infoCh : (Tryz.prog.info? 136).map (fun i => (i.zero, i.size, i.bytes)) = some (some (.agg #[.int .i64 0, .int .i64 0, .int .i64 0, .int .i64 0]), 4, 32) := by kernel_rfl
theorem grown_trans {w w1 w2 : World} {row : Option Nat} (h : w.grownBy w1 row) (k : w1.grownBy w2 row) : w.grownBy w2 row :=
  ⟨k.os.trans h.os, k.tape.trans h.tape, k.output.trans h.output, Nat.le_trans h.size k.size, fun _ hi hn => (k.block _ (Nat.lt_of_lt_of_le hi h.size) hn).trans (h.block _ hi hn)⟩
theorem grown_bel {w w' : World} (h : Below w.heap.size w w') (row : Option Nat) : w.grownBy w' row := ⟨h.os, h.tape, h.output, h.size, fun i hi _ => h.block i hi⟩
/-- What lies elsewhere grows, too. -/
theorem grown_else {w w1 w2 : World} {b : Nat} {row : Option Nat} (h : w.grownBy w1 (some b)) (k : w1.grownBy w2 row) (hr : ∀ j, row = some j → w.heap.size ≤ j) : w.grownBy w2 (some b) :=
  ⟨k.os.trans h.os, k.tape.trans h.tape, k.output.trans h.output, Nat.le_trans h.size k.size, fun i hi hn => (k.block i (Nat.lt_of_lt_of_le hi h.size) (fun e => by have := hr i e.symm; omega)).trans (h.block i hi hn)⟩
/-- How long a slice is. -/
def sliceLen : Value → Nat
  | .slice _ n _ => n
  | _ => 0
theorem Bt.gbel {w w' : World} {b : Nat} {N : Nat → Nat} (h : Bt w b N) (hb : Below w.heap.size w w') : Bt w' b N := h.below hb

theorem own_moreC {w : World} {B : Nat} {v : Value} {l : List M.Ch} {p1 p2 q1 q2 : Nat} (h : w.ownsRow B 136 4 v (l.length + 1) ((l.map M.c4).flatten ++ [.int .i64 p1, .int .i64 p2, .int .i64 q1, .int .i64 q2])) : w.ownsRow B 136 4 v (l ++ [((p1, p2), q1, q2)]).length ((l ++ [((p1, p2), q1, q2)]).map M.c4).flatten := by
  rw [List.map_append, List.flatten_append, List.length_append]
  exact h
theorem cells_new4 (w : World) (x y z u : Value) (t : TypeId) (N : Nat) (hN : N = w.heap.size) : ∀ (j : Nat) (v : Value), [x, y, z, u][j]? = some v → (w.alloc (.cells #[x, y, z, u] t)).cell? ((⟨N, 0, none⟩ : Addr).add j) = some v := by
  subst hN
  intro j v hj
  match j, hj with
  | 0, hj => simp at hj; subst hj; simp [Addr.add]
  | 1, hj => simp at hj; subst hj; simp [Addr.add]
  | 2, hj => simp at hj; subst hj; simp [Addr.add]
  | 3, hj => simp at hj; subst hj; simp [Addr.add]
theorem one4 (x y z u : Int) : ∀ v ∈ [Value.int .i64 x, Value.int .i64 y, Value.int .i64 z, Value.int .i64 u], v.oneCell' = true := by
  intro v hv; simp at hv; rcases hv with rfl | rfl | rfl | rfl <;> rfl

set_option maxHeartbeats 4000000 in
set_option maxRecDepth 100000 in
theorem settle_any (b : Nat) (N0 : Nat → Nat) (va : Option Addr) (g o c : Nat) (cs0 : List M.Ch) (w : World) (hl : cs0.length ≤ 1048576) (hlow : ∀ c ∈ cs0, M.Low 28 c) (hB : Bt w b N0) (hC : ChS w va g o cs0) (hgb : 0 < cs0.length → g ≠ b) :
    Calls Tryz.prog 78 #[.pointer (some ⟨b, 0, none⟩), .slice va cs0.length c] w fun e w' => w.grownBy w' (some b) ∧ ((M.settleW (cs0.length + 1) N0 cs0 = none ∧ e = .returned (.tuple #[.slice none 0 0, .bool false])) ∨ ∃ N' left, M.settleW (cs0.length + 1) N0 cs0 = some (N', left) ∧ ∃ va' g' o' c', e = .returned (.tuple #[.slice va' left.length c', .bool true]) ∧ Bt w' b N' ∧ ChS w' va' g' o' left ∧ (0 < left.length → w.heap.size ≤ g') ∧ left.length ≤ c') := by
  obtain ⟨i0, hi, hz0, hz1, hz2⟩ := info_parts Tryz.infoCh
  have hbl := hB.lt_
  go_enter Tryz.func78, Tryz.ntmps78
  go_wp2_with fail
  go_loopw [1] (fun s1 wr => ∃ (f : Nat) (N : Nat → Nat) (cs : List M.Ch) (va : Option Addr) (g o c : Nat), s1 = .slice va cs.length c ∧ Hid (M.settleW (cs0.length + 1) N0 cs0 = M.settleW (f + 1) N cs) ∧ cs.length ≤ f ∧ f ≤ cs0.length ∧ (∀ c ∈ cs, M.Low 28 c) ∧ Bt wr b N ∧ ChS wr va g o cs ∧ (0 < cs.length → g ≠ b) ∧ w.grownBy wr (some b)) (fun s1 _ => sliceLen s1)
  case atStart => exact ⟨cs0.length, N0, cs0, va, g, o, c, rfl, by show _ = _; rfl, Nat.le_refl _, Nat.le_refl _, hlow, hB, hC, hgb, grownBy_refl _ _⟩
  case round =>
    obtain ⟨f, N, cs, va, g, o, c, rfl, HS, hcf, hfl, hlowc, hBr, hCr, hgbr, hgr⟩ := hrel
    clear hlow hB hC hgb
    have hbo := hBr.lt_
    have hszr := hgr.size
    go_wp2_with fail
    go_loopw [6, 13] (fun s6 s13 wi => ∃ (i : Nat) (N' : Nat → Nat) (left : List M.Ch), s13 = .int .i64 i ∧ i ≤ cs.length ∧ left.length ≤ i ∧ Hid (M.sweepW N cs [] = M.sweepW N' (cs.drop i) left) ∧ wi.ownsRow wr.heap.size 136 4 s6 left.length (left.map M.c4).flatten ∧ Bt wi b N' ∧ wr.grownBy wi (some b)) (fun _ s13 _ => cs.length - (intOf s13).toNat)
    case atStart => exact ⟨0, N, [], rfl, Nat.zero_le _, Nat.le_refl _, by show _ = _; rfl, World.ownsRow_nil _ _ _ _, hBr, grownBy_refl _ _⟩
    case round =>
      obtain ⟨i, N', left, rfl, hi', hli, HQ0, hown, hBi, hgi⟩ := hrel
      have hsz := hgi.size
      by_cases hlt : i < cs.length
      · obtain ⟨rfl⟩ := hCr.addr (by omega)
        have hne := hgbr (by omega)
        have hx := (hCr.row i hlt).grown hgi (fun e => hne (Option.some.inj e))
        have HQ : Hid (M.sweepW N cs [] = M.sweepW N' (cs[i] :: cs.drop (i + 1)) left) := by show _ = _; rw [HQ0.out, ← List.getElem_cons_drop hlt]
        have hlw := hlowc _ (List.getElem_mem hlt)
        clear HQ0
        generalize cs[i] = ch at *
        obtain ⟨⟨p1, p2⟩, q1, q2⟩ := ch
        obtain ⟨c0, c1, c2, c3⟩ := hx
        obtain ⟨⟨l1, l2⟩, l3, l4⟩ := hlw
        simp only at c0 c1 c2 c3 l1 l2 l3 l4
        have j1 : (i : Int) < cs.length := by omega
        have bA := below1 wr (.cells #[.int .i64 p1, .int .i64 p2, .int .i64 q1, .int .i64 q2] 136)
        have hBA := hBi.below bA
        go_wp2_with fail
        generalize hWA : wr.alloc (.cells #[.int .i64 p1, .int .i64 p2, .int .i64 q1, .int .i64 q2] 136) = WA at *
        have k0 : WA.cell? ⟨wr.heap.size, 0, none⟩ = some (.int .i64 p1) := by rw [← hWA]; simp
        have k1 : WA.cell? ⟨wr.heap.size, 1, none⟩ = some (.int .i64 p2) := by rw [← hWA]; simp
        have k2 : WA.cell? ⟨wr.heap.size, 2, none⟩ = some (.int .i64 q1) := by rw [← hWA]; simp
        have k3 : WA.cell? ⟨wr.heap.size, 3, none⟩ = some (.int .i64 q2) := by rw [← hWA]; simp
        clear hWA c0 c1 c2 c3
        have hKW : wr.heap.size < WA.heap.size := World.block_lt_of_cell? _ _ k0
        have X0 := BelowOf.cell k0
        have X1 := BelowOf.cell k1
        have X2 := BelowOf.cell k2
        have X3 := BelowOf.cell k3
        have C1 := fun q : BelowOf WA => mayAdd_any b N' (p1, p2) q.x l1 l2 (hBA.below q.h)
        have C2 := fun q : BelowOf WA => mayAdd_any b N' (q1, q2) q.x l3 l4 (hBA.below q.h)
        have hownA := ownsRow_below hown bA
        have hgA : _ := grown_trans hgi (grown_bel bA (some b))
        simp only at C1 C2
        obtain ⟨m1, hm1⟩ : ∃ m1, (!(N' p2).testBit p1) = m1 := ⟨_, rfl⟩
        obtain ⟨m2, hm2⟩ : ∃ m2, (!(N' q2).testBit q1) = m2 := ⟨_, rfl⟩
        have HM1 : Hid (M.mayW N' (p1, p2) = m1) := hm1
        have HM2 : Hid (M.mayW N' (q1, q2) = m2) := hm2
        rw [hm1] at C1
        rw [hm2] at C2
        clear hm1 hm2
        haveI : Inhabited (BelowOf WA) := ⟨belOf WA⟩
        refine wp_region_quiet_bel (by kernel_rfl) (by kernel_rfl) ?_
        iterate 3 (quiet_step (fail))
        iterate 1 (quiet_step (first | (go_at_call 115; exact Calls.bel_of (C1 _))))
        iterate 3 (quiet_step (fail))
        iterate 1 (quiet_step (first | (go_at_call 115; exact Calls.bel_of (C2 _))))
        iterate 2 (quiet_step (fail))
        refine wpQuiet_nil ?_
        rintro W1 ⟨⟨_, hw1⟩, rfl⟩
        have hB1 := hBA.below hw1
        have hown1 := ownsRow_below hownA hw1
        have hg1 : _ := grown_trans hgA (grown_bel hw1 (some b))
        have y0 := (hw1.cell (p := ⟨wr.heap.size, 0, none⟩) hKW).trans k0
        have y1 := (hw1.cell (p := ⟨wr.heap.size, 1, none⟩) hKW).trans k1
        have y2 := (hw1.cell (p := ⟨wr.heap.size, 2, none⟩) hKW).trans k2
        have y3 := (hw1.cell (p := ⟨wr.heap.size, 3, none⟩) hKW).trans k3
        have hl1 : wr.heap.size < W1.heap.size := World.block_lt_of_cell? _ _ y0
        have hblr : b < wr.heap.size := hBi.lt_
        clear X0 X1 X2 X3 C1 C2 k0 k1 k2 k3 hBA hownA hgA hown hBi hgi bA
        have D1 := hasLink_any b N' (p1, p2) W1 l1 l2 hB1
        have D2 := fun W (h : Bt W b N') => hasLink_any b N' (q1, q2) W l3 l4 h
        simp only at D1 D2
        obtain ⟨n1, hn1⟩ : ∃ n1, (N' p1).testBit p2 = n1 := ⟨_, rfl⟩
        obtain ⟨n2, hn2⟩ : ∃ n2, (N' q1).testBit q2 = n2 := ⟨_, rfl⟩
        have HN1 : Hid (M.hasW N' (p1, p2) = n1) := hn1
        have HN2 : Hid (M.hasW N' (q1, q2) = n2) := hn2
        rw [hn1] at D1
        rw [hn2] at D2
        clear hn1 hn2
        have HQ1 : Hid (M.sweepW N cs [] = if !m1 && !m2 then none else if n1 || n2 then M.sweepW N' (cs.drop (i + 1)) left else if m1 && m2 then M.sweepW N' (cs.drop (i + 1)) (left ++ [((p1, p2), q1, q2)]) else if m1 then M.sweepW (M.addW N' (p1, p2)) (cs.drop (i + 1)) left else M.sweepW (M.addW N' (q1, q2)) (cs.drop (i + 1)) left) := by
          show _ = _
          rw [HQ.out, M.sweepW, HM1.out, HM2.out, HN1.out, HN2.out]
        clear HQ HM1 HM2 HN1 HN2
        cases m1
        · cases m2
          · have hno : M.settleW (cs0.length + 1) N0 cs0 = none := by rw [HS.out, M.settleW, HQ1.out]; rfl
            go_wp2_with fail
            exact bodyPost_ret (v := .tuple #[.slice none 0 0, .bool false]) (by simp [results, Tryz.results78, go_sem]) rfl ⟨grown_trans hgr hg1, .inl ⟨hno, rfl⟩⟩
          · cases n1
            · cases n2
              · have HQ2 : Hid (M.sweepW N cs [] = M.sweepW (M.addW N' (q1, q2)) (cs.drop (i + 1)) left) := by show _ = _; rw [HQ1.out]; rfl
                clear HQ1
                go_wp2_with fail
                refine D1.mono ?_
                rintro e W2 ⟨rfl, b2⟩
                have z0 := (b2.cell (p := ⟨wr.heap.size, 0, none⟩) hl1).trans y0
                have z1 := (b2.cell (p := ⟨wr.heap.size, 1, none⟩) hl1).trans y1
                have z2 := (b2.cell (p := ⟨wr.heap.size, 2, none⟩) hl1).trans y2
                have z3 := (b2.cell (p := ⟨wr.heap.size, 3, none⟩) hl1).trans y3
                have hl2 : wr.heap.size < W2.heap.size := World.block_lt_of_cell? _ _ z0
                clear D1 y0 y1 y2 y3
                go_wp2_with fail
                refine (D2 W2 (hB1.below b2)).mono ?_
                rintro e W3 ⟨rfl, b3⟩
                have b23 := b2.trans (b3.mono b2.size)
                have hB3 := hB1.below b23
                have hown3 := ownsRow_below hown1 b23
                have hg3 : _ := grown_trans hg1 (grown_bel b23 (some b))
                have x0 := (b3.cell (p := ⟨wr.heap.size, 0, none⟩) hl2).trans z0
                have x1 := (b3.cell (p := ⟨wr.heap.size, 1, none⟩) hl2).trans z1
                have x2 := (b3.cell (p := ⟨wr.heap.size, 2, none⟩) hl2).trans z2
                have x3 := (b3.cell (p := ⟨wr.heap.size, 3, none⟩) hl2).trans z3
                have hl3 : wr.heap.size < W3.heap.size := World.block_lt_of_cell? _ _ x0
                clear D2 z0 z1 z2 z3 b2 b3 b23 hB1 hown1 hg1 hw1
                go_wp2_with fail
                refine (add_any b N' (q1, q2) W3 l3 l4 hB3).mono ?_
                rintro e W4 ⟨rfl, hB4, hg4⟩
                have hown4 := hown3.kept hg4 (by
                  rcases hk : Value.ownBlock _ with _ | k
                  · exact .inl rfl
                  · exact .inr (fun e => by
                      have h5 := own_ge hown3 k hk
                      have h6 : k = b := Option.some.inj e
                      omega))
                go_wp2_with fail
                exact ⟨⟨i + 1, M.addW N' (q1, q2), left, by go_num, by omega, by omega, HQ2, hown4, hB4, grown_trans hg3 hg4⟩, by simp [intOf]; omega⟩
              · have HQ2 : Hid (M.sweepW N cs [] = M.sweepW N' (cs.drop (i + 1)) left) := by show _ = _; rw [HQ1.out]; rfl
                clear HQ1
                go_wp2_with fail
                refine D1.mono ?_
                rintro e W2 ⟨rfl, b2⟩
                have z0 := (b2.cell (p := ⟨wr.heap.size, 0, none⟩) hl1).trans y0
                have z1 := (b2.cell (p := ⟨wr.heap.size, 1, none⟩) hl1).trans y1
                have z2 := (b2.cell (p := ⟨wr.heap.size, 2, none⟩) hl1).trans y2
                have z3 := (b2.cell (p := ⟨wr.heap.size, 3, none⟩) hl1).trans y3
                have hl2 : wr.heap.size < W2.heap.size := World.block_lt_of_cell? _ _ z0
                clear D1 y0 y1 y2 y3
                go_wp2_with fail
                refine (D2 W2 (hB1.below b2)).mono ?_
                rintro e W3 ⟨rfl, b3⟩
                have b23 := b2.trans (b3.mono b2.size)
                have hB3 := hB1.below b23
                have hown3 := ownsRow_below hown1 b23
                have hg3 : _ := grown_trans hg1 (grown_bel b23 (some b))
                have x0 := (b3.cell (p := ⟨wr.heap.size, 0, none⟩) hl2).trans z0
                have x1 := (b3.cell (p := ⟨wr.heap.size, 1, none⟩) hl2).trans z1
                have x2 := (b3.cell (p := ⟨wr.heap.size, 2, none⟩) hl2).trans z2
                have x3 := (b3.cell (p := ⟨wr.heap.size, 3, none⟩) hl2).trans z3
                have hl3 : wr.heap.size < W3.heap.size := World.block_lt_of_cell? _ _ x0
                clear D2 z0 z1 z2 z3 b2 b3 b23 hB1 hown1 hg1 hw1
                go_wp2_with fail
                exact ⟨⟨i + 1, N', left, by go_num, by omega, by omega, HQ2, hown3, hB3, hg3⟩, by simp [intOf]; omega⟩
            · have HQ2 : Hid (M.sweepW N cs [] = M.sweepW N' (cs.drop (i + 1)) left) := by show _ = _; rw [HQ1.out]; rfl
              clear HQ1
              go_wp2_with fail
              refine D1.mono ?_
              rintro e W2 ⟨rfl, b2⟩
              clear D1 D2 y0 y1 y2 y3
              go_wp2_with fail
              exact ⟨⟨i + 1, N', left, by go_num, by omega, by omega, HQ2, ownsRow_below hown1 b2, hB1.below b2, grown_trans hg1 (grown_bel b2 (some b))⟩, by simp [intOf]; omega⟩
        · cases m2
          · cases n1
            · cases n2
              · have HQ2 : Hid (M.sweepW N cs [] = M.sweepW (M.addW N' (p1, p2)) (cs.drop (i + 1)) left) := by show _ = _; rw [HQ1.out]; rfl
                clear HQ1
                go_wp2_with fail
                refine D1.mono ?_
                rintro e W2 ⟨rfl, b2⟩
                have z0 := (b2.cell (p := ⟨wr.heap.size, 0, none⟩) hl1).trans y0
                have z1 := (b2.cell (p := ⟨wr.heap.size, 1, none⟩) hl1).trans y1
                have z2 := (b2.cell (p := ⟨wr.heap.size, 2, none⟩) hl1).trans y2
                have z3 := (b2.cell (p := ⟨wr.heap.size, 3, none⟩) hl1).trans y3
                have hl2 : wr.heap.size < W2.heap.size := World.block_lt_of_cell? _ _ z0
                clear D1 y0 y1 y2 y3
                go_wp2_with fail
                refine (D2 W2 (hB1.below b2)).mono ?_
                rintro e W3 ⟨rfl, b3⟩
                have b23 := b2.trans (b3.mono b2.size)
                have hB3 := hB1.below b23
                have hown3 := ownsRow_below hown1 b23
                have hg3 : _ := grown_trans hg1 (grown_bel b23 (some b))
                have x0 := (b3.cell (p := ⟨wr.heap.size, 0, none⟩) hl2).trans z0
                have x1 := (b3.cell (p := ⟨wr.heap.size, 1, none⟩) hl2).trans z1
                have x2 := (b3.cell (p := ⟨wr.heap.size, 2, none⟩) hl2).trans z2
                have x3 := (b3.cell (p := ⟨wr.heap.size, 3, none⟩) hl2).trans z3
                have hl3 : wr.heap.size < W3.heap.size := World.block_lt_of_cell? _ _ x0
                clear D2 z0 z1 z2 z3 b2 b3 b23 hB1 hown1 hg1 hw1
                go_wp2_with fail
                refine (add_any b N' (p1, p2) W3 l1 l2 hB3).mono ?_
                rintro e W4 ⟨rfl, hB4, hg4⟩
                have hown4 := hown3.kept hg4 (by
                  rcases hk : Value.ownBlock _ with _ | k
                  · exact .inl rfl
                  · exact .inr (fun e => by
                      have h5 := own_ge hown3 k hk
                      have h6 : k = b := Option.some.inj e
                      omega))
                go_wp2_with fail
                exact ⟨⟨i + 1, M.addW N' (p1, p2), left, by go_num, by omega, by omega, HQ2, hown4, hB4, grown_trans hg3 hg4⟩, by simp [intOf]; omega⟩
              · have HQ2 : Hid (M.sweepW N cs [] = M.sweepW N' (cs.drop (i + 1)) left) := by show _ = _; rw [HQ1.out]; rfl
                clear HQ1
                go_wp2_with fail
                refine D1.mono ?_
                rintro e W2 ⟨rfl, b2⟩
                have z0 := (b2.cell (p := ⟨wr.heap.size, 0, none⟩) hl1).trans y0
                have z1 := (b2.cell (p := ⟨wr.heap.size, 1, none⟩) hl1).trans y1
                have z2 := (b2.cell (p := ⟨wr.heap.size, 2, none⟩) hl1).trans y2
                have z3 := (b2.cell (p := ⟨wr.heap.size, 3, none⟩) hl1).trans y3
                have hl2 : wr.heap.size < W2.heap.size := World.block_lt_of_cell? _ _ z0
                clear D1 y0 y1 y2 y3
                go_wp2_with fail
                refine (D2 W2 (hB1.below b2)).mono ?_
                rintro e W3 ⟨rfl, b3⟩
                have b23 := b2.trans (b3.mono b2.size)
                have hB3 := hB1.below b23
                have hown3 := ownsRow_below hown1 b23
                have hg3 : _ := grown_trans hg1 (grown_bel b23 (some b))
                have x0 := (b3.cell (p := ⟨wr.heap.size, 0, none⟩) hl2).trans z0
                have x1 := (b3.cell (p := ⟨wr.heap.size, 1, none⟩) hl2).trans z1
                have x2 := (b3.cell (p := ⟨wr.heap.size, 2, none⟩) hl2).trans z2
                have x3 := (b3.cell (p := ⟨wr.heap.size, 3, none⟩) hl2).trans z3
                have hl3 : wr.heap.size < W3.heap.size := World.block_lt_of_cell? _ _ x0
                clear D2 z0 z1 z2 z3 b2 b3 b23 hB1 hown1 hg1 hw1
                go_wp2_with fail
                exact ⟨⟨i + 1, N', left, by go_num, by omega, by omega, HQ2, hown3, hB3, hg3⟩, by simp [intOf]; omega⟩
            · have HQ2 : Hid (M.sweepW N cs [] = M.sweepW N' (cs.drop (i + 1)) left) := by show _ = _; rw [HQ1.out]; rfl
              clear HQ1
              go_wp2_with fail
              refine D1.mono ?_
              rintro e W2 ⟨rfl, b2⟩
              clear D1 D2 y0 y1 y2 y3
              go_wp2_with fail
              exact ⟨⟨i + 1, N', left, by go_num, by omega, by omega, HQ2, ownsRow_below hown1 b2, hB1.below b2, grown_trans hg1 (grown_bel b2 (some b))⟩, by simp [intOf]; omega⟩
          · cases n1
            · cases n2
              · have HQ2 : Hid (M.sweepW N cs [] = M.sweepW N' (cs.drop (i + 1)) (left ++ [((p1, p2), q1, q2)])) := by show _ = _; rw [HQ1.out]; rfl
                clear HQ1
                go_wp2_with fail
                refine D1.mono ?_
                rintro e W2 ⟨rfl, b2⟩
                have z0 := (b2.cell (p := ⟨wr.heap.size, 0, none⟩) hl1).trans y0
                have z1 := (b2.cell (p := ⟨wr.heap.size, 1, none⟩) hl1).trans y1
                have z2 := (b2.cell (p := ⟨wr.heap.size, 2, none⟩) hl1).trans y2
                have z3 := (b2.cell (p := ⟨wr.heap.size, 3, none⟩) hl1).trans y3
                have hl2 : wr.heap.size < W2.heap.size := World.block_lt_of_cell? _ _ z0
                clear D1 y0 y1 y2 y3
                go_wp2_with fail
                refine (D2 W2 (hB1.below b2)).mono ?_
                rintro e W3 ⟨rfl, b3⟩
                have b23 := b2.trans (b3.mono b2.size)
                have hB3 := hB1.below b23
                have hown3 := ownsRow_below hown1 b23
                have hg3 : _ := grown_trans hg1 (grown_bel b23 (some b))
                have x0 := (b3.cell (p := ⟨wr.heap.size, 0, none⟩) hl2).trans z0
                have x1 := (b3.cell (p := ⟨wr.heap.size, 1, none⟩) hl2).trans z1
                have x2 := (b3.cell (p := ⟨wr.heap.size, 2, none⟩) hl2).trans z2
                have x3 := (b3.cell (p := ⟨wr.heap.size, 3, none⟩) hl2).trans z3
                have hl3 : wr.heap.size < W3.heap.size := World.block_lt_of_cell? _ _ x0
                clear D2 z0 z1 z2 z3 b2 b3 b23 hB1 hown1 hg1 hw1
                go_wp2_with (at_builtin; refine wpList_append_own _ rfl (.tmp 52) (.tmp 54) 97 rfl _ 136 i0 _ 4 32 Tryz.underlying97 hi hz0 hz1 hz2 rfl (by decide) _ _ _ rfl (hown3.alloc _) ⟨W3.heap.size, 0, none⟩ 1 1 [.int .i64 p1, .int .i64 p2, .int .i64 q1, .int .i64 q2] rfl rfl (cells_new4 _ _ _ _ _ _ _ (by simp)) (one4 _ _ _ _) (by unfold maxLen; omega) (by omega) (by simp; omega) ?_)
                intro v4 W4 hown4 hg4 _
                have hge := own_ge hown3
                have hB4 := (hB3.below (below1 W3 _)).grown hg4 (fun e => by have := hge b e.symm; omega)
                have hg5 : _ := grown_else (grown_trans hg3 (grown_bel (below1 W3 (.cells #[.int .i64 p1, .int .i64 p2, .int .i64 q1, .int .i64 q2] 136)) (some b))) hg4 (fun j hj => hge j hj)
                have hown5 := own_moreC hown4
                clear hown4 hg4 hown3
                go_wp2_with fail
                exact ⟨⟨i + 1, N', left ++ [((p1, p2), q1, q2)], by go_num, by omega, by simp; omega, HQ2, hown5, hB4, hg5⟩, by simp [intOf]; omega⟩
              · have HQ2 : Hid (M.sweepW N cs [] = M.sweepW N' (cs.drop (i + 1)) left) := by show _ = _; rw [HQ1.out]; rfl
                clear HQ1
                go_wp2_with fail
                refine D1.mono ?_
                rintro e W2 ⟨rfl, b2⟩
                have z0 := (b2.cell (p := ⟨wr.heap.size, 0, none⟩) hl1).trans y0
                have z1 := (b2.cell (p := ⟨wr.heap.size, 1, none⟩) hl1).trans y1
                have z2 := (b2.cell (p := ⟨wr.heap.size, 2, none⟩) hl1).trans y2
                have z3 := (b2.cell (p := ⟨wr.heap.size, 3, none⟩) hl1).trans y3
                have hl2 : wr.heap.size < W2.heap.size := World.block_lt_of_cell? _ _ z0
                clear D1 y0 y1 y2 y3
                go_wp2_with fail
                refine (D2 W2 (hB1.below b2)).mono ?_
                rintro e W3 ⟨rfl, b3⟩
                have b23 := b2.trans (b3.mono b2.size)
                have hB3 := hB1.below b23
                have hown3 := ownsRow_below hown1 b23
                have hg3 : _ := grown_trans hg1 (grown_bel b23 (some b))
                have x0 := (b3.cell (p := ⟨wr.heap.size, 0, none⟩) hl2).trans z0
                have x1 := (b3.cell (p := ⟨wr.heap.size, 1, none⟩) hl2).trans z1
                have x2 := (b3.cell (p := ⟨wr.heap.size, 2, none⟩) hl2).trans z2
                have x3 := (b3.cell (p := ⟨wr.heap.size, 3, none⟩) hl2).trans z3
                have hl3 : wr.heap.size < W3.heap.size := World.block_lt_of_cell? _ _ x0
                clear D2 z0 z1 z2 z3 b2 b3 b23 hB1 hown1 hg1 hw1
                go_wp2_with fail
                exact ⟨⟨i + 1, N', left, by go_num, by omega, by omega, HQ2, hown3, hB3, hg3⟩, by simp [intOf]; omega⟩
            · have HQ2 : Hid (M.sweepW N cs [] = M.sweepW N' (cs.drop (i + 1)) left) := by show _ = _; rw [HQ1.out]; rfl
              clear HQ1
              go_wp2_with fail
              refine D1.mono ?_
              rintro e W2 ⟨rfl, b2⟩
              clear D1 D2 y0 y1 y2 y3
              go_wp2_with fail
              exact ⟨⟨i + 1, N', left, by go_num, by omega, by omega, HQ2, ownsRow_below hown1 b2, hB1.below b2, grown_trans hg1 (grown_bel b2 (some b))⟩, by simp [intOf]; omega⟩
      · have hie : i = cs.length := by omega
        have HQ : Hid (M.sweepW N cs [] = some (N', left)) := by show _ = _; rw [HQ0.out, List.drop_eq_nil_of_le (by omega)]; rfl
        have hmem : ∀ c ∈ left, c ∈ cs := fun c hc => by
          rcases M.sweepW_mem cs [] N N' left HQ.out c hc with h3 | h3
          · cases h3
          · exact h3
        have hll := M.sweepW_len cs [] N N' left HQ.out
        obtain ⟨va', g', c', rfl, hCl, hgel, hcap⟩ := own_ch hown
        have j1 : ¬ (i : Int) < cs.length := by omega
        by_cases hlen : left.length = cs.length
        · have HY : Hid (M.settleW (cs0.length + 1) N0 cs0 = some (N', left)) := by show _ = _; rw [HS.out, M.settleW, HQ.out]; simp only; rw [if_pos hlen]
          have e1 : ((left.length : Int) == cs.length) = true := by simp; omega
          clear hlen HQ HQ0 hie
          go_wp2_with fail
          exact bodyPost_ret (v := .tuple #[.slice va' left.length c', .bool true]) (by simp [results, Tryz.results78, go_sem]) rfl ⟨grown_trans hgr hgi, .inr ⟨N', left, HY.out, va', g', 0, c', rfl, hBi, hCl, fun hp => by have := hgel hp; omega, hcap⟩⟩
        · have e1 : ((left.length : Int) == cs.length) = false := by simp; omega
          have hlt2 : left.length < cs.length := by simp at hll; omega
          obtain ⟨f', rfl⟩ : ∃ f', f = f' + 1 := ⟨f - 1, by omega⟩
          have HS2 : Hid (M.settleW (cs0.length + 1) N0 cs0 = M.settleW (f' + 1) N' left) := by show _ = _; rw [HS.out, M.settleW, HQ.out]; simp only; rw [if_neg hlen]
          clear hlen HQ HQ0 HS hie
          go_wp2_with fail
          exact ⟨⟨f', N', left, va', g', 0, c', rfl, HS2, by omega, by omega, fun c hc => hlowc c (hmem c hc), hBi, hCl, fun hp => by have := hgel hp; omega, grown_trans hgr hgi⟩, by simp [sliceLen]; omega⟩

end Go.Proofs.YtjpgpjjejbjldaaGreat

namespace Go.Proofs.YtjpgpjjejbjldaaGreat
open Go.RowKit

/-- A whole array, read in a region that only reads. -/
theorem wpQuiet_load_mid {P : Program} {ops : Array Oper} {C : World → Prop} {Q : Act → Prop} {a : Act} {op : Oper} {rest : List Oper} (hw : Region.wanted op (yielded ops a.tmps) = true) (ty : TypeId) (x : Operand) (ho : op.op = .load ty x)
    (b o : Nat) (hx : a.eval x = .pointer (some ⟨b, o, none⟩)) (cs : List Value) (d : TypeDesc) (hc : ∀ w, C w → w.rangeAt b o cs) (hu : P.underlying ty = some d) (hd : d.isRow = true) (hi : (P.info? ty).map (·.size) = some cs.length)
    (h : wpQuiet P ops C Q rest (a.put op.dst (.agg cs.toArray))) : wpQuiet P ops C Q (op :: rest) a := by
  rw [wpQuiet, if_pos hw]
  refine ⟨.agg cs.toArray, fun w hC => ?_, h⟩
  unfold Oper.quietAt execOp
  simp only [ho, hx, Instr.loadAt, Instr.sureAddr, Sem.run_bind, Sem.run_pure, Result.andThen_ok, run_loadVar_mid w b o ty cs d (hc w hC) hu hd hi]
  exact ⟨rfl, rfl⟩
theorem ChS.tail {w : World} {g o : Nat} {ch : M.Ch} {cs : List M.Ch} (h : ChS w (some ⟨g, o, none⟩) g o (ch :: cs)) : ChS w (some ⟨g, o + 4, none⟩) g (o + 4) cs :=
  ⟨fun _ => rfl, fun i hi => by
    have := h.row (i + 1) (by simp; omega)
    rw [show o + (i + 1) * 4 = o + 4 + i * 4 from by omega] at this
    simpa using this⟩
theorem ChS.lt {w : World} {va : Option Addr} {g o : Nat} {cs : List M.Ch} (h : ChS w va g o cs) (hp : 0 < cs.length) : g < w.heap.size := World.block_lt_of_cell? _ _ (h.row 0 hp).c0

theorem Tryz.undCh : Tryz.prog.underlying 136 = some (.array 2 132) := by kernel_rfl
theorem Tryz.infoLink : (Tryz.prog.info? 132).map (·.size) = some 2 := by kernel_rfl
theorem idx_ch0 (p1 p2 q1 q2 : Int) (w : World) : (Instr.index 136 (.agg #[.int .i64 p1, .int .i64 p2, .int .i64 q1, .int .i64 q2]) (.int .i64 0)).run Tryz.prog w = .ok (.agg #[.int .i64 p1, .int .i64 p2]) w := by
  cases hq : Tryz.prog.info? 132 with
  | none => have := Tryz.infoLink; simp [hq] at this
  | some j =>
    have hs : j.size = 2 := by have := Tryz.infoLink; simpa [hq] using this
    simp [Instr.index, asIntOf, run_underlying Tryz.undCh, part, sizeOf, typeInfo, hq, hs]
theorem idx_ch1 (p1 p2 q1 q2 : Int) (w : World) : (Instr.index 136 (.agg #[.int .i64 p1, .int .i64 p2, .int .i64 q1, .int .i64 q2]) (.int .i64 1)).run Tryz.prog w = .ok (.agg #[.int .i64 q1, .int .i64 q2]) w := by
  cases hq : Tryz.prog.info? 132 with
  | none => have := Tryz.infoLink; simp [hq] at this
  | some j =>
    have hs : j.size = 2 := by have := Tryz.infoLink; simpa [hq] using this
    simp [Instr.index, asIntOf, run_underlying Tryz.undCh, part, sizeOf, typeInfo, hq, hs]

set_option maxHeartbeats 4000000 in
set_option maxRecDepth 100000 in
theorem canChoose_any : ∀ (n : Nat) (cs : List M.Ch) (N : Nat → Nat) (va : Option Addr) (g o c : Nat) (w : World), cs.length < n → cs.length ≤ 1048576 → (∀ c ∈ cs, M.Low 28 c) → (∀ a, N a < 4294967296) → ChS w va g o cs →
    Calls Tryz.prog 46 #[.agg (btA N), .slice va cs.length c] w fun e w' => e = .returned (.bool (M.chooseW n N cs)) ∧ Below w.heap.size w w' := by
  intro n
  induction n with
  | zero => intro cs N va g o c w h; omega
  | succ n ih =>
    intro cs N va g o c w hn hl hlow hN hC
    have hB := Bt.of_block (t := 94) (heap_alloc_new w (.cells (btA N) 94)) hN
    have bA := below1 w (.cells (btA N) 94)
    have hCA := hC.below bA
    have CS := settle_any w.heap.size N va g o c cs _ hl hlow hB hCA (fun hp => by have := hC.lt hp; omega)
    go_enter Tryz.func46, Tryz.ntmps46
    go_wp2_with fail
    generalize w.alloc (.cells (btA N) 94) = WA at *
    refine CS.mono ?_
    rintro e W1 ⟨hg, hor⟩
    have b1 : Below w.heap.size w W1 := below_grown bA hg (fun k hk => by have : w.heap.size = k := Option.some.inj hk; omega) bA.size
    rcases hor with ⟨hno, rfl⟩ | ⟨N', left, hyes, va', g', o', c', rfl, hB1, hC1, hge, hcap⟩
    · have HF : Hid (M.chooseW (n + 1) N cs = false) := by show _ = _; rw [M.chooseW, hno]
      clear hno CS
      go_wp2_with fail
      go_ret
      exact ⟨ret_bool HF.out.symm, b1⟩
    · obtain ⟨hmem, hlen⟩ := M.settleW_mem _ _ _ _ _ hyes
      cases left with
      | nil =>
        have HF : Hid (M.chooseW (n + 1) N cs = true) := by show _ = _; rw [M.chooseW, hyes]
        clear hyes CS
        go_wp2_with fail
        go_ret
        exact ⟨ret_bool HF.out.symm, b1⟩
      | cons ch rest =>
        have HF : Hid (M.chooseW (n + 1) N cs = (M.chooseW n (M.addW N' ch.1) rest || M.chooseW n (M.addW N' ch.2) rest)) := by show _ = _; rw [M.chooseW, hyes]
        have hlw := hlow ch (hmem ch (by simp))
        have hlr : ∀ x ∈ rest, M.Low 28 x := fun x hx => hlow x (hmem x (List.mem_cons_of_mem _ hx))
        clear hyes CS hlow hmem
        obtain ⟨rfl⟩ := hC1.addr (by simp)
        obtain ⟨VA, hIF⟩ : ∃ VA, (if c' = 1 then (some ⟨g', o', none⟩ : Option Addr) else some ⟨g', o' + 4, none⟩) = VA := ⟨_, rfl⟩
        have hT : ChS W1 VA g' (o' + 4) rest := ⟨fun hp => by rw [← hIF]; exact if_neg (by simp only [List.length_cons] at hcap; omega), hC1.tail.row⟩
        have hle1 : (1 : Int) ≤ (rest.length : Int) + 1 := by omega
        have hx := hC1.row 0 (by simp)
        obtain ⟨⟨p1, p2⟩, q1, q2⟩ := ch
        obtain ⟨c0, c1, c2, c3⟩ := hx
        obtain ⟨⟨l1, l2⟩, l3, l4⟩ := hlw
        simp only [List.getElem_cons_zero, Nat.zero_mul, Nat.add_zero] at c0 c1 c2 c3 l1 l2 l3 l4
        simp only [List.length_cons] at hlen hcap
        have hrl : rest.length < n := by omega
        have e0 : ((rest.length + 1 : Nat) : Int) ≠ 0 := by omega
        simp only [List.length_cons]
        go_wp2_with fail
        have HI0 : ∀ W, _ := idx_ch0 p1 p2 q1 q2
        have HI1 : ∀ W, _ := idx_ch1 p1 p2 q1 q2
        refine wp_loop_rounds 3 ?_
        rw [rounds_succ]
        go_wp2_with fail
        have bW := below1 W1 (.cells #[.int .i64 p1, .int .i64 p2] 132)
        have k0 : (W1.alloc (.cells #[.int .i64 p1, .int .i64 p2] 132)).cell? ⟨W1.heap.size, 0, none⟩ = some (.int .i64 p1) := by simp
        have k1 : (W1.alloc (.cells #[.int .i64 p1, .int .i64 p2] 132)).cell? ⟨W1.heap.size, 1, none⟩ = some (.int .i64 p2) := by simp
        have hBW := hB1.below bW
        have hTW := hT.below bW
        have bwW := b1.trans (bW.mono b1.size)
        generalize W1.alloc (.cells #[.int .i64 p1, .int .i64 p2] 132) = W2 at *
        have hN' := hB1.lt
        have HL : ∀ W, (∃ q : BelowOf W2, W = q.x) → W.rangeAt w.heap.size 0 (btA N').toList := fun W ⟨q, e⟩ => by rw [e]; exact (hBW.below q.h).range
        have hiA : (Tryz.prog.info? 94).map (·.size) = some (btA N').toList.length := by rw [Tryz.infoSets]; simp [btA]
        have X0 := BelowOf.cell k0
        have X1 := BelowOf.cell k1
        have C1 := fun q : BelowOf W2 => with_any N' (p1, p2) q.x hN' l1 l2
        have hA1 : ∀ i, M.addW N' (p1, p2) i < 4294967296 := M.addW_lt (k := 32) hN' (by omega)
        have C2 := fun q : BelowOf W2 => ih rest (M.addW N' (p1, p2)) VA g' (o' + 4) (c' - 1) q.x hrl (by omega) hlr hA1 (hTW.below q.h)
        simp only at C1
        obtain ⟨r1, hr1⟩ : ∃ r1, M.chooseW n (M.addW N' (p1, p2)) rest = r1 := ⟨_, rfl⟩
        have HR1 : Hid (M.chooseW n (M.addW N' (p1, p2)) rest = r1) := hr1
        rw [hr1] at C2
        clear hr1
        generalize btA (M.addW N' (p1, p2)) = A1 at *
        generalize btA N' = A0 at *
        haveI : Inhabited (BelowOf W2) := ⟨belOf W2⟩
        refine wp_region_quiet_bel (by kernel_rfl) (by kernel_rfl) ?_
        refine wpQuiet_load_mid (by rfl) 94 (.tmp 2) rfl w.heap.size 0 rfl A0.toList _ HL Tryz.undSets rfl hiA ?_
        rw [Array.toArray_toList]
        iterate 1 (quiet_step (fail))
        iterate 1 (quiet_step (first | (go_at_call 79; exact Calls.bel_of (C1 _))))
        iterate 2 (quiet_step (fail))
        iterate 1 (quiet_step (first | (go_at_call 46; exact Calls.bel_of (C2 _))))
        refine wpQuiet_nil ?_
        rintro W3 ⟨⟨_, hw3⟩, rfl⟩
        have b3 := bwW.trans (hw3.mono bwW.size)
        have hB3 := hBW.below hw3
        have hT3 := hTW.below hw3
        clear X0 X1 C1 C2 HL hBW hTW bwW hw3 k0 k1 bW hB1 hT b1
        cases r1
        · go_wp2_with fail
          rw [rounds_succ]
          go_wp2_with fail
          have bW := below1 W3 (.cells #[.int .i64 q1, .int .i64 q2] 132)
          have k0 : (W3.alloc (.cells #[.int .i64 q1, .int .i64 q2] 132)).cell? ⟨W3.heap.size, 0, none⟩ = some (.int .i64 q1) := by simp
          have k1 : (W3.alloc (.cells #[.int .i64 q1, .int .i64 q2] 132)).cell? ⟨W3.heap.size, 1, none⟩ = some (.int .i64 q2) := by simp
          have hBW := hB3.below bW
          have hTW := hT3.below bW
          have bwW := b3.trans (bW.mono b3.size)
          generalize W3.alloc (.cells #[.int .i64 q1, .int .i64 q2] 132) = V2 at *
          have hN' := hB3.lt
          have HL : ∀ W, (∃ q : BelowOf V2, W = q.x) → W.rangeAt w.heap.size 0 (btA N').toList := fun W ⟨q, e⟩ => by rw [e]; exact (hBW.below q.h).range
          have hiA : (Tryz.prog.info? 94).map (·.size) = some (btA N').toList.length := by rw [Tryz.infoSets]; simp [btA]
          have X0 := BelowOf.cell k0
          have X1 := BelowOf.cell k1
          have C1 := fun q : BelowOf V2 => with_any N' (q1, q2) q.x hN' l3 l4
          have hA2 : ∀ i, M.addW N' (q1, q2) i < 4294967296 := M.addW_lt (k := 32) hN' (by omega)
          have C2 := fun q : BelowOf V2 => ih rest (M.addW N' (q1, q2)) VA g' (o' + 4) (c' - 1) q.x hrl (by omega) hlr hA2 (hTW.below q.h)
          simp only at C1
          obtain ⟨r2, hr2⟩ : ∃ r2, M.chooseW n (M.addW N' (q1, q2)) rest = r2 := ⟨_, rfl⟩
          have HR2 : Hid (M.chooseW n (M.addW N' (q1, q2)) rest = r2) := hr2
          rw [hr2] at C2
          clear hr2
          generalize btA (M.addW N' (q1, q2)) = A2 at *
          generalize btA N' = A0 at *
          haveI : Inhabited (BelowOf V2) := ⟨belOf V2⟩
          refine wp_region_quiet_bel (by kernel_rfl) (by kernel_rfl) ?_
          refine wpQuiet_load_mid (by rfl) 94 (.tmp 2) rfl w.heap.size 0 rfl A0.toList _ HL Tryz.undSets rfl hiA ?_
          rw [Array.toArray_toList]
          iterate 1 (quiet_step (fail))
          iterate 1 (quiet_step (first | (go_at_call 79; exact Calls.bel_of (C1 _))))
          iterate 2 (quiet_step (fail))
          iterate 1 (quiet_step (first | (go_at_call 46; exact Calls.bel_of (C2 _))))
          refine wpQuiet_nil ?_
          rintro V3 ⟨⟨_, hv3⟩, rfl⟩
          have b5 := bwW.trans (hv3.mono bwW.size)
          clear X0 X1 C1 C2 HL hBW hTW bwW hv3 k0 k1 bW
          cases r2
          · go_wp2_with fail
            rw [rounds_succ]
            go_wp2_with fail
            go_ret
            exact ⟨ret_bool (by rw [HF.out, HR1.out, HR2.out]; rfl), b5⟩
          · go_wp2_with fail
            go_ret
            exact ⟨ret_bool (by rw [HF.out, HR1.out, HR2.out]; rfl), b5⟩
        · go_wp2_with fail
          go_ret
          exact ⟨ret_bool (by rw [HF.out, HR1.out]; rfl), b3⟩

end Go.Proofs.YtjpgpjjejbjldaaGreat
