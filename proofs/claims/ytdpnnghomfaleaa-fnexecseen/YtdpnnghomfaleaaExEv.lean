/- impl.ExecEvents, spec.ExecEvents. Of programs of at most 1048576 threads, each of at most 1048576 steps. -/
import Derived.Test.YtdpnnghomfaleaaExDe
import Derived.Test.YtdpnnghomfaleaaSProg
namespace Go.Proofs.Ytdpnnghomfaleaa
open Go.RowKit

def M.Ev.cells (x : M.Ev) : List Value := [.int .i64 x.t, .int .i64 x.i, .bool x.last]
def flatEv (l : List M.Ev) : List Value := (l.map M.Ev.cells).flatten
theorem flatEv_append (l m : List M.Ev) : flatEv (l ++ m) = flatEv l ++ flatEv m := by simp [flatEv]
theorem flatEv_one (x : M.Ev) : flatEv [x] = x.cells := by simp [flatEv]
theorem M.De.len (x : M.De) : x.cells.length = 7 := rfl
theorem M.Ev.len (x : M.Ev) : x.cells.length = 3 := rfl
/-- All events of a program; none, if it is not ok. -/
def M.evAll (ll : List (List M.D)) : List M.Ev := if M.prog ll then M.events ll else []
theorem M.prog_bounds {ll : List (List M.D)} (h : M.prog ll = true) : ll.length ≤ 3 ∧ ∀ l ∈ ll, l.length ≤ 7 := by
  simp only [M.prog, Bool.and_eq_true, decide_eq_true_eq] at h
  refine ⟨h.1, ?_⟩
  have key : ∀ (ll : List (List M.D)) (a u : Nat), M.progFrom a u ll = true → ∀ l ∈ ll, l.length ≤ 7 := by
    intro ll
    induction ll with
    | nil => intro a u _ l hl; cases hl
    | cons x ll ih =>
      intro a u hp l hl
      simp only [M.progFrom] at hp
      split at hp
      · rename_i hx
        rcases List.mem_cons.1 hl with rfl | hl
        · exact M.thread_le hx
        · exact ih _ _ hp l hl
      · cases hp
  exact key ll 0 0 h.2

theorem Try.infoEvent : (Try.prog.info? 61).map (fun i => (i.zero, i.size, i.bytes)) = some (some (.agg #[.int .i64 0, .int .i64 0, .bool false]), 3, 24) := by kernel_rfl

set_option maxHeartbeats 2000000 in
set_option maxRecDepth 100000 in
theorem iexecEvents_any (a : Option Addr) (b o c : Nat) (ll : List (List M.D)) (w : World) (hl : ll.length ≤ 1048576) (hls : ∀ t ∈ ll, t.length ≤ 1048576) (h : DoSS w a b o ll) :
    Calls Try.prog 27 #[.agg #[.slice a ll.length c]] w fun e w' => ∃ v, e = .returned v ∧ w'.ownsRow w.heap.size 61 3 v (M.evAll ll).length (flatEv (M.evAll ll)) ∧ Below w.heap.size w w' := by
  obtain ⟨i0, hi, hz0, hz1, hz2⟩ := info_parts Try.infoEvent
  have hbx := below1 w (.cells #[.slice a ll.length c] 34)
  have k0 : (w.alloc (.cells #[.slice a ll.length c] 34)).cell? ⟨w.heap.size, 0, none⟩ = some (.slice a ll.length c) := by simp
  go_enter Try.func27, Try.ntmps27
  go_wp2_with fail
  generalize w.alloc (.cells #[.slice a ll.length c] 34) = W at *
  have lt0 : w.heap.size < W.heap.size := World.block_lt_of_cell? _ _ k0
  refine (iprog_any a b o c ll _ hl hls (h.below hbx (Nat.le_refl _))).mono ?_
  rintro e w1 ⟨rfl, hb1⟩
  have k1 := (hb1.cell (p := ⟨w.heap.size, 0, none⟩) lt0).trans k0
  have hb01 := hbx.trans (hb1.mono hbx.size)
  cases hp : M.prog ll
  · have HE : Hid (M.evAll ll = []) := by show _ = _; simp [M.evAll, hp]
    go_wp2_with fail
    go_ret
    exact ⟨_, rfl, by rw [HE.out]; exact World.ownsRow_nil _ _ _ _, hb01⟩
  · have HE : Hid (M.evAll ll = M.events ll) := by show _ = _; simp [M.evAll, hp]
    obtain ⟨h3, h7⟩ := M.prog_bounds hp
    have hdl := M.deeds_len h3 h7
    go_wp2_with fail
    refine (deedsOf_any a b o c ll _ h3 h7 (h.below hb01 (Nat.le_refl _))).mono ?_
    rintro e w2 ⟨v2, rfl, hown2, hb2⟩
    have hb02 := hb01.trans (hb2.mono hb01.size)
    obtain ⟨va, g, cap, rfl, hrs, hge, _⟩ := own_rs M.De.len hown2
    have HV : Hid (M.events ll = (M.deeds ll).map M.De.ev) := by show _ = _; rfl
    clear hown2 hb2 hb1 k0 k1 hbx hb01
    generalize M.deeds ll = ds at *
    go_wp2_with fail
    go_loopw [3, 12] (fun s3 s12 wr => ∃ (n : Nat) (va : Option Addr) (vc : Nat), s3 = .slice va n vc ∧ s12 = .int .i64 n ∧ n ≤ ds.length ∧ Told w2 wr 61 3 (.slice va n vc) n (flatEv ((ds.map M.De.ev).take n))) (fun _ s12 _ => ds.length - (intOf s12).toNat)
    case atStart => exact ⟨0, none, 0, rfl, rfl, Nat.zero_le _, Told.start _ _ _ _ (Below.refl _ _)⟩
    case round =>
      obtain ⟨n, va2, vc, rfl, rfl, hn, hT⟩ := hrel
      by_cases hlt : n < ds.length
      · obtain ⟨rfl⟩ := hrs.addr (by omega)
        have hr := (hrs.below M.De.len hT.bel (Nat.le_refl _)).row n hlt
        have HD : Hid ((ds.map M.De.ev).take (n + 1) = (ds.map M.De.ev).take n ++ [ds[n].ev]) := by show _ = _; rw [List.take_succ_eq_append_getElem (by simpa using hlt)]; simp
        generalize ds[n] = x at *
        have c0 := hr 0 (by omega)
        have c1 := hr 1 (by omega)
        have c2 := hr 2 (by omega)
        have c3 := hr 3 (by omega)
        have c4 := hr 4 (by omega)
        have c5 := hr 5 (by omega)
        have c6 := hr 6 (by omega)
        change wr.cell? ⟨g, n * 7, none⟩ = some (.int .i64 x.t) at c0
        change wr.cell? ⟨g, n * 7 + 1, none⟩ = some (.int .i64 x.i) at c1
        change wr.cell? ⟨g, n * 7 + 2, none⟩ = some (.bool x.last) at c2
        change wr.cell? ⟨g, n * 7 + 3, none⟩ = some (.int .i64 x.d.k) at c3
        change wr.cell? ⟨g, n * 7 + 4, none⟩ = some (.int .i64 x.d.p) at c4
        change wr.cell? ⟨g, n * 7 + 5, none⟩ = some (.int .i64 x.d.v) at c5
        change wr.cell? ⟨g, n * 7 + 6, none⟩ = some (.int .i64 x.lr) at c6
        have i1 : (n : Int) < ds.length := by omega
        have lg : g < wr.heap.size := World.block_lt_of_cell? _ _ c0
        have hT1 := hT.below (below1 wr (.cells #[.int .i64 (x.t : Int), .int .i64 (x.i : Int), .bool x.last, .int .i64 x.d.k, .int .i64 x.d.p, .int .i64 x.d.v, .int .i64 x.lr] 89))
        clear hr
        go_wp2_with (at_builtin; refine wpList_append_lies _ rfl (.tmp 16) (.tmp 19) 54 rfl w2.heap.size 61 i0 _ 3 24 Try.underlying54 hi hz0 hz1 hz2 rfl (by decide) _ _ _ rfl (hT1.own.alloc _) ⟨wr.heap.size + 1, 0, none⟩ 1 1 [.int .i64 x.t, .int .i64 x.i, .bool x.last] rfl rfl (World.news_of_block (cs := #[.int .i64 (x.t : Int), .int .i64 (x.i : Int), .bool x.last]) (t := 61) (fr := (0, 0)) (heap_alloc2_new _ _ _)) (by simp [Value.oneCell']) (by omega) (by unfold maxLen; omega) (by omega) (by have := hT1.bel.size; simp at this ⊢; omega) (wr.heap.size + 1 + 1) (by simp) ?_)
        intro g6 cap6 w6 hown6 hg6 hat6 hlt6
        have hT6 : Told w2 w6 61 3 (.slice (some ⟨g6, 0, none⟩) (n + 1) cap6) (n + 1) (flatEv ((ds.map M.De.ev).take (n + 1))) := by
          rw [HD.out, flatEv_append]; exact hT1.snoc hown6 hg6
        clear hown6 hg6 hat6 hlt6 c0 c1 c2 c3 c4 c5 c6
        go_wp2_with fail
        exact ⟨⟨n + 1, some ⟨g6, 0, none⟩, cap6, rfl, by go_num, by omega, hT6⟩, by simp [intOf]; omega⟩
      · obtain rfl : n = ds.length := by omega
        go_wp2_with fail
        go_ret
        refine ⟨_, rfl, ?_, hb02.trans (hT.bel.mono hb02.size)⟩
        have := own_mono hT.own hb02.size
        rw [List.take_of_length_le (by simp), ← HV.out, ← HE.out] at this
        have hlen : ds.length = (M.evAll ll).length := by rw [HE.out, HV.out, List.length_map]
        rw [hlen] at this
        rw [hlen]
        exact this

/-- Where spec's loops stand. -/

theorem M.ev_step {ll : List (List M.D)} {l : List M.D} {t i : Nat} {es : List M.Ev} {xs : List M.De} {lr : Int} (he : es = xs.map M.De.ev) (h : M.deeds ll = xs ++ M.toTell ll l t i lr xs.length) (hi : i < l.length) :
    ∃ (ys : List M.De) (lr' : Int), M.deeds ll = ys ++ M.toTell ll l t (i + 1) lr' ys.length ∧ ys.map M.De.ev = if l[i].k == 9 then es ++ [⟨t, i, false⟩] ++ [⟨t, i, true⟩] else es ++ [⟨t, i, false⟩] := by
  refine ⟨_, _, M.tell_step h hi, ?_⟩
  subst he
  rw [List.map_append]
  unfold M.deD
  split <;> simp [M.De.ev]

set_option maxHeartbeats 2000000 in
set_option maxRecDepth 100000 in
theorem sexecEvents_any (a : Option Addr) (b o c : Nat) (ll : List (List M.D)) (w : World) (hl : ll.length ≤ 1048576) (hls : ∀ t ∈ ll, t.length ≤ 1048576) (h : DoSS w a b o ll) :
    Calls Try.prog 29 #[.agg #[.slice a ll.length c]] w fun e w' => ∃ v, e = .returned v ∧ w'.ownsRow w.heap.size 61 3 v (M.evAll ll).length (flatEv (M.evAll ll)) ∧ Below w.heap.size w w' := by
  obtain ⟨i0, hi, hz0, hz1, hz2⟩ := info_parts Try.infoEvent
  have hb0 := below1 w (.cells #[.slice a ll.length c] 34)
  have k0 : (w.alloc (.cells #[.slice a ll.length c] 34)).cell? ⟨w.heap.size, 0, none⟩ = some (.slice a ll.length c) := by simp
  have hT0 : Told (w.alloc (.cells #[.slice a ll.length c] 34)) ((w.alloc (.cells #[.slice a ll.length c] 34)).alloc (.cells #[] 61)) 61 3 (.slice (some ⟨w.heap.size + 1, 0, none⟩) 0 0) 0 [] := by
    have := World.ownsRow_made (w.alloc (.cells #[.slice a ll.length c] 34)) #[] 0 (base := (w.alloc (.cells #[.slice a ll.length c] 34)).heap.size) (e := 61) (size := 3) (Nat.le_refl _) (Nat.zero_le _) rfl
    exact ⟨by simpa using this, below1 _ _⟩
  go_enter Try.func29, Try.ntmps29
  go_wp2_with fail
  generalize (w.alloc (.cells #[.slice a ll.length c] 34)).alloc (.cells #[] 61) = W at *
  generalize w.alloc (.cells #[.slice a ll.length c] 34) = WB at *
  have lt0 : w.heap.size < WB.heap.size := World.block_lt_of_cell? _ _ k0
  have hbW := hb0.trans (hT0.bel.mono hb0.size)
  have kW := (hT0.bel.cell (p := ⟨w.heap.size, 0, none⟩) lt0).trans k0
  refine (sprog_any a b o c ll _ hl hls (h.below hbW (Nat.le_refl _))).mono ?_
  rintro e w1 ⟨rfl, hb1⟩
  have hT1 := hT0.below hb1
  have k1 := (hT1.bel.cell (p := ⟨w.heap.size, 0, none⟩) lt0).trans k0
  have toW : ∀ {wr : World}, Below WB.heap.size WB wr → Below w.heap.size w wr := fun hb => hb0.trans (hb.mono hb0.size)
  clear hbW kW hT0 hb1
  cases hp : M.prog ll
  · have HE : Hid (M.evAll ll = []) := by show _ = _; simp [M.evAll, hp]
    go_wp2_with fail
    go_ret
    exact ⟨_, rfl, by rw [HE.out]; exact own_mono hT1.own hb0.size, toW hT1.bel⟩
  · have HE : Hid (M.evAll ll = M.events ll) := by show _ = _; simp [M.evAll, hp]
    obtain ⟨h3, h7⟩ := M.prog_bounds hp
    have hdl := M.deeds_len h3 h7
    go_wp2_with fail
    go_loopw [3, 4] (fun s3 s4 wr => ∃ (xs : List M.De) (t : Nat) (va : Option Addr) (vc : Nat), s3 = .slice va xs.length vc ∧ s4 = .int .i64 t ∧ t ≤ ll.length ∧ xs.length ≤ 42 ∧ Hid (M.deeds ll = xs ++ M.deF t xs.length (ll.drop t)) ∧ Told WB wr 61 3 (.slice va xs.length vc) xs.length (flatEv (xs.map M.De.ev))) (fun _ s4 _ => ll.length - (intOf s4).toNat)
    case atStart => exact ⟨[], 0, _, 0, rfl, rfl, Nat.zero_le _, by simp, by show _ = _; rfl, hT1⟩
    case round =>
      clear hT1 k1
      obtain ⟨xs, t, va, vc, rfl, rfl, htl, hxl, HX, hT⟩ := hrel
      have kr := (hT.bel.cell (p := ⟨w.heap.size, 0, none⟩) lt0).trans k0
      by_cases hlt : t < ll.length
      · obtain ⟨rfl⟩ := h.addr (by omega)
        obtain ⟨a', b', o', c', hc, hd⟩ := h.row t hlt
        have hl7 := h7 _ (List.getElem_mem hlt)
        have HX2 : Hid (M.deeds ll = xs ++ M.toTell ll ll[t] t 0 (-1) xs.length) := M.tell_start HX.out hlt
        clear HX
        generalize ll[t] = l at *
        have i1 : (t : Int) < ll.length := by omega
        go_wp2_with fail
        go_loopw [3, 5] (fun s3 s5 wr => ∃ (xs : List M.De) (i : Nat) (lr : Int) (va : Option Addr) (vc : Nat), s3 = .slice va xs.length vc ∧ s5 = .int .i64 i ∧ i ≤ l.length ∧ xs.length ≤ 42 ∧ Hid (M.deeds ll = xs ++ M.toTell ll l t i lr xs.length) ∧ Told WB wr 61 3 (.slice va xs.length vc) xs.length (flatEv (xs.map M.De.ev))) (fun _ s5 _ => l.length - (intOf s5).toNat)
        case atStart => exact ⟨xs, 0, -1, va, vc, rfl, rfl, Nat.zero_le _, hxl, HX2, hT⟩
        case round =>
          clear hT HX2 hxl kr
          obtain ⟨xs, i, lr, va, vc, rfl, rfl, hil, hxl, HX, hT⟩ := hrel
          have hbr := toW hT.bel
          have kr := (hT.bel.cell (p := ⟨w.heap.size, 0, none⟩) lt0).trans k0
          have hcr := (hbr.cell (p := ⟨b, o + t, none⟩) (World.block_lt_of_cell? _ _ hc)).trans hc
          by_cases hlt2 : i < l.length
          · obtain ⟨rfl⟩ := hd.addr (by omega)
            obtain ⟨ck, _, _⟩ := (hd.below hbr (Nat.le_refl _)).row i hlt2
            have ckw := (hd.row i hlt2).k
            have HX3 : Hid (M.deeds ll = (xs ++ M.deD t i lr xs.length l[i]) ++ M.toTell ll l t (i + 1) (M.lrOf lr xs.length l[i]) (xs ++ M.deD t i lr xs.length l[i]).length) := M.tell_step HX.out hlt2
            clear HX
            generalize l[i] = d at *
            have hln : (xs ++ M.deD t i lr xs.length d).length ≤ 42 := by
              have := congrArg List.length HX3.out
              simp only [List.length_append] at this ⊢
              omega
            have HN : Hid ((xs ++ M.deD t i lr xs.length d).length ≤ 42) := hln
            have hxl2 : xs.length + 1 ≤ 42 := by have := (M.deD_len t i lr xs.length d).1; rw [List.length_append] at hln; omega
            clear hln
            have i2 : (i : Int) < l.length := by omega
            go_wp2_with (at_builtin; refine wpList_append_lies _ rfl (.tmp 28) (.tmp 32) 54 rfl WB.heap.size 61 i0 _ 3 24 Try.underlying54 hi hz0 hz1 hz2 rfl (by decide) _ _ _ rfl (hT.own.alloc _) ⟨wr.heap.size, 0, none⟩ 1 1 [.int .i64 t, .int .i64 i, .bool false] rfl rfl (World.news_of_block (cs := #[.int .i64 (t : Int), .int .i64 (i : Int), .bool false]) (t := 61) (fr := (0, 0)) (heap_alloc_new _ _)) (by simp [Value.oneCell']) (by omega) (by unfold maxLen; omega) (by omega) (by have := hT.bel.size; simp; omega) (wr.heap.size + 1) (by simp) ?_)
            intro g6 cap6 w6 hown6 hg6 hat6 hlt6
            have hT6 : Told WB w6 61 3 (.slice (some ⟨g6, 0, none⟩) (xs.length + 1) cap6) (xs.length + 1) (flatEv (xs.map M.De.ev ++ [⟨t, i, false⟩])) := by
              rw [flatEv_append]; exact hT.snoc hown6 hg6
            clear hown6 hg6 hat6 hlt6
            have hb6 := toW hT6.bel
            have k6 := (hT6.bel.cell (p := ⟨w.heap.size, 0, none⟩) lt0).trans k0
            have hc6 := (hb6.cell (p := ⟨b, o + t, none⟩) (World.block_lt_of_cell? _ _ hc)).trans hc
            have ck6 := (hb6.cell (p := ⟨b', o' + i * 3, none⟩) (World.block_lt_of_cell? _ _ ckw)).trans ckw
            cases h9 : (d.k == 9)
            · go_wp2_with fail
              refine ⟨⟨xs ++ M.deD t i lr xs.length d, i + 1, _, some ⟨g6, 0, none⟩, cap6, ?_, by go_num, by omega, HN.out, HX3.out, ?_⟩, by simp [intOf]; omega⟩
              · rw [M.deD_one h9]; simp
              · rw [M.deD_one h9, List.map_append, List.length_append]; exact hT6
            · have hN2 : xs.length + 2 ≤ 42 := by have := HN.out; rw [M.deD_wait h9] at this; simpa using this
              go_wp2_with (at_builtin; refine wpList_append_lies _ rfl (.tmp 44) (.tmp 48) 54 rfl WB.heap.size 61 i0 _ 3 24 Try.underlying54 hi hz0 hz1 hz2 rfl (by decide) _ _ _ rfl (hT6.own.alloc _) ⟨w6.heap.size, 0, none⟩ 1 1 [.int .i64 t, .int .i64 i, .bool true] rfl rfl (World.news_of_block (cs := #[.int .i64 (t : Int), .int .i64 (i : Int), .bool true]) (t := 61) (fr := (0, 0)) (heap_alloc_new _ _)) (by simp [Value.oneCell']) (by omega) (by unfold maxLen; omega) (by omega) (by have := hT6.bel.size; simp; omega) (w6.heap.size + 1) (by simp) ?_)
              intro g7 cap7 w7 hown7 hg7 hat7 hlt7
              have hT7 : Told WB w7 61 3 (.slice (some ⟨g7, 0, none⟩) (xs.length + 1 + 1) cap7) (xs.length + 1 + 1) (flatEv ((xs.map M.De.ev ++ [⟨t, i, false⟩]) ++ [⟨t, i, true⟩])) := by
                rw [flatEv_append _ [_]]; exact hT6.snoc hown7 hg7
              clear hown7 hg7 hat7 hlt7
              go_wp2_with fail
              refine ⟨⟨xs ++ M.deD t i lr xs.length d, i + 1, _, some ⟨g7, 0, none⟩, cap7, ?_, by go_num, by omega, HN.out, HX3.out, ?_⟩, by simp [intOf]; omega⟩
              · rw [M.deD_wait h9]; simp
              · rw [M.deD_wait h9, ← List.append_assoc, List.map_append, List.map_append, List.length_append, List.length_append]; exact hT7
          · go_wp2_with fail
            exact ⟨⟨xs, t + 1, va, vc, rfl, by go_num, by omega, hxl, M.tell_end HX.out (by omega), hT⟩, by simp [intOf]; omega⟩
      · go_wp2_with fail
        go_ret
        have hall := M.tell_all HX.out (by omega)
        refine ⟨_, rfl, ?_, toW hT.bel⟩
        have hlen : xs.length = (M.evAll ll).length := by rw [HE.out, M.events, List.length_map, hall]
        have := own_mono hT.own hb0.size
        rw [← hall] at this
        have e2 : (M.deeds ll).map M.De.ev = M.evAll ll := by rw [HE.out]; rfl
        rw [e2, hall, hlen] at this
        rw [hlen]
        exact this

end Go.Proofs.Ytdpnnghomfaleaa
