/- impl's writeStep and ProgText. Of programs of at most 1048576 threads, each of at most 1048576 steps. -/
import Derived.Test.YthgmolelipjdaaaTxB
import Derived.Test.YthgmolelipjdaaaIProg
namespace Go.Proofs.Ythgmolelipjdaaa
open Go.RowKit

/-- A step's box. -/
structure DoBox (w : World) (k : Nat) (d : M.D) : Prop where
  box : w.heap[k]? = some (.cells #[.int .i64 d.k, .int .i64 d.p, .int .i64 d.v] 56 (0, 0))
theorem DoBox.cells {w : World} {k : Nat} {d : M.D} (h : DoBox w k d) : w.cell? ⟨k, 0, none⟩ = some (.int .i64 d.k) ∧ w.cell? ⟨k, 1, none⟩ = some (.int .i64 d.p) ∧ w.cell? ⟨k, 2, none⟩ = some (.int .i64 d.v) := by
  refine ⟨?_, ?_, ?_⟩ <;> (rw [Lib.cell_of_heap h.box]; rfl)
theorem DoBox.fresh (w : World) (d : M.D) : DoBox (w.alloc (.cells #[.int .i64 d.k, .int .i64 d.p, .int .i64 d.v] 56)) w.heap.size d := ⟨heap_alloc_new _ _⟩
theorem DoBox.wrote {w w' : World} {k B b : Nat} {d : M.D} (h : DoBox w k d) (hw : Wrote B b w w') (hb : k ≠ b) : DoBox w' k d := ⟨hw.box h.box hb (by decide)⟩

theorem Bd.lt {B b : Nat} {acc : List UInt8} {w : World} (h : Bd B b acc w) : b < w.heap.size := by
  rcases h.is with ⟨_, v, hb, _⟩ | ⟨_, v, hb, _⟩ <;> exact (Array.getElem?_eq_some_iff.1 hb).1

set_option maxHeartbeats 400000 in
theorem writeStep_any (B b : Nat) (acc : List UInt8) (d : M.D) (w : World) (h : Bd B b acc w) (hd : M.doOk d = true) (hlen : acc.length ≤ 100000000000) :
    Calls Try.prog 26 #[.pointer (some ⟨b, 0, none⟩), .agg #[.int .i64 d.k, .int .i64 d.p, .int .i64 d.v]] w fun e w' => e = .returned (.tuple #[]) ∧ Bd B b (acc ++ M.say d) w' ∧ Wrote B b w w' := by
  have hpl := M.doOk_place hd
  have hvl := M.doOk_val hd
  have hw5 := M.word_sz d.k
  have hw6 := M.word_le d.k
  have hb0 : w.heap.size ≠ b := by have := h.lt; omega
  have h0 := h.alloc (.cells #[.int .i64 d.k, .int .i64 d.p, .int .i64 d.v] 56)
  have x0 := DoBox.fresh w d
  have k0 : Wrote B b w (w.alloc (.cells #[.int .i64 d.k, .int .i64 d.p, .int .i64 d.v] 56)) := (Wrote.refl B b w).alloc h.le _
  obtain ⟨k, p, v⟩ := d
  go_enter Try.func26, Try.ntmps26
  go_wp2_with (go_at_call 50; refine (word_any _ _).mono ?_; rintro e w1 ⟨rfl, rfl⟩)
  refine (wString_any B b acc (M.word k) _ h0 (by omega)).mono ?_
  rintro e w1 ⟨rfl, h1, k1⟩
  have x1 := x0.wrote k1 hb0
  obtain ⟨c0, c1, c2⟩ := x1.cells
  have hfin : ∀ {acc' : List UInt8} {w2 : World}, Bd B b acc' w2 → Wrote B b w w2 → acc' ++ [M.b8 10] = acc ++ M.say ⟨k, p, v⟩ → acc'.length ≤ 100000000050 →
      Calls Try.prog 25 #[.pointer (some ⟨b, 0, none⟩), .int .i32 10] w2 fun e w' => e = .returned (.tuple #[.int .i64 (Lib.runeCells 10).length, .nilIface]) ∧ Bd B b (acc ++ M.say ⟨k, p, v⟩) w' ∧ Wrote B b w w' :=
    fun h2 k2 he hl => (wRune_any B b _ 10 _ h2 (by omega) (by omega) (by omega)).mono fun e w' ⟨e1, h3, k3⟩ => ⟨e1, he ▸ h3, k2.trans k3⟩
  have hk1 := k0.trans k1
  have hl1 : (acc ++ (M.word k).data.toList).length ≤ 100000000010 := by simp only [List.length_append]; omega
  cases hu : M.uses k
  · cases hs : M.stores k
    · go_wp2_with (first | (go_at_call 41; refine (uses_any _ _).mono ?_; rintro e w2 ⟨rfl, rfl⟩) | (go_at_call 51; refine (stores_any _ _).mono ?_; rintro e w2 ⟨rfl, rfl⟩))
      refine (hfin h1 hk1 (by simp [M.say, hu, hs, M.b8]) (by omega)).mono ?_
      rintro e w2 ⟨rfl, h2, k2⟩
      go_wp2_with fail
      exact bodyPost_end (v := .tuple #[]) (results_none Try.results26 _ _ _) rfl ⟨rfl, h2, k2⟩
    · exact absurd hu (by simp [M.uses, M.writes, hs])
  · obtain ⟨hp0, hp1⟩ := hpl hu
    have ep : IntKind.i32.wrap p = p := IntWalk.i32_in _ (by omega)
    have ep2 : IntKind.i32.wrap (120 + p) = 120 + p := IntWalk.i32_in _ (by omega)
    go_wp2_with (go_at_call 41; refine (uses_any _ _).mono ?_; rintro e w2 ⟨rfl, rfl⟩)
    refine (wRune_any B b _ 32 _ h1 (by omega) (by omega) (by omega)).mono ?_
    rintro e w2 ⟨rfl, h2, k2⟩
    obtain ⟨c0, c1, c2⟩ := (x1.wrote k2 hb0).cells
    go_wp2_with fail
    refine (wRune_any B b _ (120 + p) _ h2 (by omega) (by omega) (by simp only [List.length_append, List.length_cons, List.length_nil]; omega)).mono ?_
    rintro e w3 ⟨rfl, h3, k3⟩
    have x3 := (x1.wrote k2 hb0).wrote k3 hb0
    have hk3 := (hk1.trans k2).trans k3
    obtain ⟨d0, d1, d2⟩ := x3.cells
    clear c0 c1 c2
    cases hs : M.stores k
    · go_wp2_with (go_at_call 51; refine (stores_any _ _).mono ?_; rintro e w2 ⟨rfl, rfl⟩)
      refine (hfin h3 hk3 (by simp [M.say, hu, hs, M.b8]) (by simp only [List.length_append, List.length_cons, List.length_nil]; omega)).mono ?_
      rintro e w4 ⟨rfl, h4, k4⟩
      go_wp2_with fail
      exact bodyPost_end (v := .tuple #[]) (results_none Try.results26 _ _ _) rfl ⟨rfl, h4, k4⟩
    · obtain ⟨hv0, hv1⟩ := hvl hs
      have ev : IntKind.i32.wrap v = v := IntWalk.i32_in _ (by omega)
      have ev2 : IntKind.i32.wrap (48 + v) = 48 + v := IntWalk.i32_in _ (by omega)
      go_wp2_with (go_at_call 51; refine (stores_any _ _).mono ?_; rintro e w2 ⟨rfl, rfl⟩)
      refine (wRune_any B b _ 32 _ h3 (by omega) (by omega) (by simp only [List.length_append, List.length_cons, List.length_nil]; omega)).mono ?_
      rintro e w4 ⟨rfl, h4, k4⟩
      obtain ⟨c0, c1, c2⟩ := (x3.wrote k4 hb0).cells
      go_wp2_with fail
      refine (wRune_any B b _ (48 + v) _ h4 (by omega) (by omega) (by simp only [List.length_append, List.length_cons, List.length_nil]; omega)).mono ?_
      rintro e w5 ⟨rfl, h5, k5⟩
      go_wp2_with fail
      refine (hfin h5 ((hk3.trans k4).trans k5) (by simp [M.say, hu, hs, M.b8]) (by simp only [List.length_append, List.length_cons, List.length_nil]; omega)).mono ?_
      rintro e w6 ⟨rfl, h6, k6⟩
      go_wp2_with fail
      exact bodyPost_end (v := .tuple #[]) (results_none Try.results26 _ _ _) rfl ⟨rfl, h6, k6⟩

def M.text (ll : List (List M.D)) : List UInt8 := if M.prog ll then M.sayProg ll else []
theorem M.thread_do {t : List M.D} (h : M.thread t = true) : ∀ d ∈ t, M.doOk d = true := by
  simp only [M.thread, M.form, Bool.and_eq_true, List.all_eq_true] at h
  exact h.1.1.2
theorem M.progFrom_thread {ll : List (List M.D)} : ∀ {a u : Nat}, M.progFrom a u ll = true → ∀ t ∈ ll, M.thread t = true := by
  induction ll with
  | nil => intro a u _ t ht; cases ht
  | cons x ll ih =>
    intro a u h t ht
    unfold M.progFrom at h
    split at h
    · rename_i hx
      rcases List.mem_cons.1 ht with rfl | ht
      · exact hx
      · exact ih h t ht
    · cases h
theorem M.prog_thread {ll : List (List M.D)} (h : M.prog ll = true) : ll.length ≤ 3 ∧ ∀ t ∈ ll, M.thread t = true := by
  simp only [M.prog, Bool.and_eq_true, decide_eq_true_eq] at h
  exact ⟨h.1, M.progFrom_thread h.2⟩

theorem M.sayProg_le (ll : List (List M.D)) (h7 : ∀ t ∈ ll, t.length ≤ 7) : (M.sayProg ll).length ≤ 77 * ll.length := by
  induction ll with
  | nil => simp [M.sayProg]
  | cons t ll ih =>
    have h1 := M.sayThread_le t
    have h2 := h7 t (List.mem_cons_self ..)
    have h3 := ih (fun x hx => h7 x (List.mem_cons_of_mem _ hx))
    simp only [M.sayProg, List.flatMap_cons, List.length_append, List.length_cons] at *
    omega

/-- A box stands behind a call, and one block more. -/
theorem box_past {w w1 : World} {v : Value} {T : TypeId} {o : Obj} (h : Below (w.alloc (.cells #[v] T)).heap.size (w.alloc (.cells #[v] T)) w1) : (w1.alloc o).cell? ⟨w.heap.size, 0, none⟩ = some v := by
  have h1 : w1.cell? ⟨w.heap.size, 0, none⟩ = some v := by rw [h.cell (p := ⟨w.heap.size, 0, none⟩) (by simp)]; simp
  have h2 : w.heap.size < w1.heap.size := World.block_lt_of_cell? _ _ h1
  rw [((Below.refl w1.heap.size w1).alloc (Nat.le_refl _) o).cell (p := ⟨w.heap.size, 0, none⟩) h2]
  exact h1

set_option maxHeartbeats 400000 in
theorem iprogText_any (a : Option Addr) (b o c : Nat) (ll : List (List M.D)) (w : World) (hl : ll.length ≤ 1048576) (hls : ∀ t ∈ ll, t.length ≤ 1048576) (h : DoSS w a b o ll) :
    Calls Try.prog 9 #[.agg #[.slice a ll.length c]] w fun e w' => e = .returned (.string ⟨(M.text ll).toArray⟩) ∧ Below w.heap.size w w' := by
  cases hp : M.prog ll
  · go_enter Try.func9, Try.ntmps9
    go_wp2_with (go_at_call 16; refine (iprog_any a b o c ll _ hl hls (h.below (below1 w _) (Nat.le_refl _))).mono ?_; rintro e w1 ⟨rfl, hb1⟩)
    go_ret
    exact ⟨by simp [M.text, hp], (below1 w _).trans (hb1.mono (by simp))⟩
  · obtain ⟨h3, hth⟩ := M.prog_thread hp
    have h7 : ∀ t ∈ ll, t.length ≤ 7 := fun t ht => M.thread_le (hth t ht)
    go_enter Try.func9, Try.ntmps9
    go_wp2_with (go_at_call 16; refine (iprog_any a b o c ll _ hl hls (h.below (below1 w _) (Nat.le_refl _))).mono ?_; rintro e w1 ⟨rfl, hb1⟩; have hcc : (w1.alloc (.cells #[.pointer none, .slice none 0 0] 48)).cell? ⟨w.heap.size, 0, none⟩ = some (.slice a ll.length c) := box_past hb1)
    have hs1 := (h.below (below1 w _) (Nat.le_refl _)).below hb1 (Nat.le_refl _)
    have hbw : Below w.heap.size w w1 := (below1 w _).trans (hb1.mono (by simp))
    have hbd := Bd.fresh w1
    clear hb1 hcc h
    go_loopw [14] (fun s14 wr => ∃ n : Nat, s14 = .int .i64 n ∧ n ≤ ll.length ∧ Bd w1.heap.size w1.heap.size (M.sayProg (ll.take n)) wr ∧ Below w1.heap.size w1 wr) (fun s14 _ => ll.length - (intOf s14).toNat)
    case atStart => exact ⟨0, rfl, Nat.zero_le _, by simpa [M.sayProg] using hbd, below1 _ _⟩
    case round =>
      obtain ⟨n, rfl, hn, hB, hbel⟩ := hrel
      have hlen : (M.sayProg (ll.take n)).length ≤ 300 := by
        have := M.sayProg_le (ll.take n) (fun t ht => h7 t (List.mem_of_mem_take ht))
        have h5 := List.length_take_le n ll
        simp only [List.length_take] at this h5
        omega
      by_cases hlt : n < ll.length
      · obtain ⟨rfl⟩ := hs1.addr (by omega)
        obtain ⟨a', b', o', c', hc, hd⟩ := (hs1.below hbel (Nat.le_refl _)).row n hlt
        have HD : Hid (ll.drop n = ll[n] :: ll.drop (n + 1)) := M.drop_at' ll n hlt
        obtain ⟨a2, b2, o2, c2, hc2, hd2⟩ := hs1.row n hlt
        have hlt7 := h7 _ (List.getElem_mem hlt)
        have hdo := M.thread_do (hth _ (List.getElem_mem hlt))
        generalize ll[n] = t at hd hc HD hlt7 hdo hc2 hd2
        obtain ⟨rfl, rfl⟩ : a2 = a' ∧ c2 = c' := by
          rw [hbel.cell (p := ⟨b, o + n, none⟩) (World.block_lt_of_cell? _ _ hc2)] at hc
          have := hc2.symm.trans hc
          simp at this
          exact this
        clear hd
        have HN : Hid (M.sayProg (ll.take (n + 1)) = M.sayProg (ll.take n) ++ M.sayThread t) := M.sayProg_step HD.out
        clear HD
        generalize M.sayProg (ll.take n) = acc at *
        go_wp2_with (go_at_call 24; refine (wString_any w1.heap.size w1.heap.size acc ⟨#[116, 104, 114, 101, 97, 100]⟩ _ hB (by simp [ByteArray.size]; omega)).mono ?_; rintro e w2 ⟨rfl, h2, k2⟩)
        refine (wRune_any w1.heap.size w1.heap.size _ 10 _ h2 (by omega) (by omega) (by simp; omega)).mono ?_
        rintro e w3 ⟨rfl, h3, k3⟩
        have hb3 := (hbel.trans k2.bel).trans k3.bel
        have h3' : Bd w1.heap.size w1.heap.size (acc ++ [116, 104, 114, 101, 97, 100, 10]) w3 := by simpa [M.b8] using h3
        clear h2 h3 k2 k3 hB hc
        go_wp2_with fail
        go_loopw [22] (fun s22 wi => ∃ k : Nat, s22 = .int .i64 k ∧ k ≤ t.length ∧ Bd w1.heap.size w1.heap.size (acc ++ [116, 104, 114, 101, 97, 100, 10] ++ M.sayAll (t.take k)) wi ∧ Below w1.heap.size w1 wi) (fun s22 _ => t.length - (intOf s22).toNat)
        case atStart => exact ⟨0, rfl, Nat.zero_le _, by simpa [M.sayAll] using h3', hb3⟩
        case round =>
          obtain ⟨k, rfl, hk, hBi, hbi⟩ := hrel
          by_cases hkt : k < t.length
          · obtain ⟨rfl⟩ := hd2.addr (by omega)
            have hdk := (hd2.row k hkt).below hbi (Nat.le_refl _)
            have HK : Hid (t.drop k = t[k] :: t.drop (k + 1)) := M.drop_at t k hkt
            have hok := hdo _ (List.getElem_mem hkt)
            have hle := M.sayAll_le (t.take k)
            have hle2 : (t.take k).length ≤ 7 := by simp only [List.length_take]; omega
            have HM : Hid (M.sayAll (t.take (k + 1)) = M.sayAll (t.take k) ++ M.say t[k]) := M.sayAll_step HK.out
            clear HK
            generalize t[k] = d at hdk hok HM
            generalize M.sayAll (t.take k) = acc2 at *
            obtain ⟨kk, p, v⟩ := d
            obtain ⟨ck, cp, cv⟩ := hdk
            go_wp2_with (go_at_call 26; refine (writeStep_any w1.heap.size w1.heap.size _ ⟨kk, p, v⟩ _ (hBi.alloc _) hok (by simp only [List.length_append, List.length_cons, List.length_nil]; omega)).mono ?_; rintro e w4 ⟨rfl, h4, k4⟩)
            exact ⟨⟨k + 1, by go_num, by omega, by rw [HM.out, ← List.append_assoc]; exact h4, (hbi.alloc hBi.le _).trans k4.bel⟩, by simp [intOf]; omega⟩
          · go_wp2_with fail
            exact ⟨⟨n + 1, by go_num, by omega, by rw [HN.out]; rw [List.take_of_length_le (by omega)] at hBi; simpa [M.sayThread] using hBi, hbi⟩, by simp [intOf]; omega⟩
      · go_wp2_with (go_at_call 27; refine (wText_any w1.heap.size w1.heap.size _ _ hB).mono ?_; rintro e w2 ⟨rfl, hb2⟩)
        go_ret
        refine ⟨?_, hbw.trans ((hbel.trans hb2).mono hbw.size)⟩
        rw [List.take_of_length_le (by omega)]
        simp [M.text, hp]

end Go.Proofs.Ythgmolelipjdaaa
