/- impl.ExecOk: whether a program may have been done so. Of at most 1048576 threads, steps, numbers and rows. -/
import Derived.Test.YtdpnnghomfaleaaOkFrom
import Derived.Test.YtdpnnghomfaleaaOkOrd
namespace Go.Proofs.Ytdpnnghomfaleaa
open Go.RowKit

/-- Whose value an event has is an event, or none. -/
def M.In (ds : List M.De) (l : List Int) : Prop := ∀ n, n < ds.length → M.valFrom ds l n < ds.length
theorem M.lr_lt {ll : List (List M.D)} : ∀ x ∈ M.deeds ll, x.lr < (M.deeds ll).length := by
  have hD : ∀ (t i : Nat) (lr : Int) (n : Nat) (d : M.D), ∀ x ∈ M.deD t i lr n d, x.lr = M.lrOf lr n d := fun t i lr n d x hx => by
    unfold M.deD at hx; split at hx <;> simp at hx <;> rcases hx with rfl | rfl <;> rfl
  have hT : ∀ (l : List M.D) (t i : Nat) (lr : Int) (n : Nat), lr < n → ∀ x ∈ M.deT t i lr n l, x.lr < ((n + (M.deT t i lr n l).length : Nat) : Int) := by
    intro l
    induction l with
    | nil => intro t i lr n _ x hx; simp [M.deT] at hx
    | cons d l ih =>
      intro t i lr n hlr x hx
      have h1 := (M.deD_len t i lr n d).1
      have hlo : M.lrOf lr n d < ((n + (M.deD t i lr n d).length : Nat) : Int) := by unfold M.lrOf; split <;> omega
      rw [M.deT, List.length_append]
      rw [M.deT] at hx
      rcases List.mem_append.1 hx with hx | hx
      · have := hD t i lr n d x hx
        omega
      · have := ih t (i + 1) (M.lrOf lr n d) _ hlo x hx
        omega
  have hF : ∀ (ll : List (List M.D)) (t n : Nat), ∀ x ∈ M.deF t n ll, x.lr < ((n + (M.deF t n ll).length : Nat) : Int) := by
    intro ll
    induction ll with
    | nil => intro t n x hx; simp [M.deF] at hx
    | cons l ll ih =>
      intro t n x hx
      rw [M.deF, List.length_append]
      rw [M.deF] at hx
      rcases List.mem_append.1 hx with hx | hx
      · have := hT l t 0 (-1) n (by omega) x hx
        omega
      · have := ih (t + 1) _ x hx
        omega
  intro x hx
  have := hF ll 0 0 x hx
  rw [Nat.zero_add] at this
  exact this
theorem M.fromAt_get {ds : List M.De} : ∀ {xs : List M.De} {l : List Int}, M.fromAt ds xs l = true → ∀ n (h : n < xs.length), ∃ h2 : n < l.length, M.mayTell ds xs[n] l[n] = true := by
  intro xs
  induction xs with
  | nil => intro l _ n h; exact absurd h (Nat.not_lt_zero _)
  | cons x xs ih =>
    intro l h n hn
    cases l with
    | nil => simp [M.fromAt] at h
    | cons f l =>
      simp only [M.fromAt, Bool.and_eq_true] at h
      cases n with
      | zero => exact ⟨by simp, h.1⟩
      | succ n =>
        obtain ⟨h2, h3⟩ := ih h.2 n (by simpa using hn)
        exact ⟨by simpa using h2, by simpa using h3⟩
theorem M.in_of {ll : List (List M.D)} {l : List Int} (h : M.fromOk (M.deeds ll) l = true) : M.In (M.deeds ll) l := by
  intro n hn
  simp only [M.fromOk, Bool.and_eq_true, decide_eq_true_eq] at h
  obtain ⟨h2, ht⟩ := M.fromAt_get h.2 n hn
  unfold M.valFrom
  rw [List.getElem?_eq_getElem hn]
  simp only []
  split
  · rename_i hr
    rw [List.getD_eq_getElem?_getD, List.getElem?_eq_getElem h2]
    show l[n] < _
    simp only [M.mayTell, hr, if_true, Bool.or_eq_true, Bool.and_eq_true, decide_eq_true_eq, beq_iff_eq] at ht
    rcases ht with ht | ht
    · omega
    · omega
  · split
    · exact M.lr_lt _ (List.getElem_mem hn)
    · omega

set_option maxHeartbeats 400000 in
theorem valueFrom_any (va : Option Addr) (g c : Nat) (ds : List M.De) (a : Option Addr) (b o c2 : Nat) (l : List Int) (n : Nat) (w : World) (hn : n < ds.length) (hln : n < l.length) (hl : ds.length ≤ 1048576) (hl2 : l.length ≤ 1048576) (h : DeS w va g ds) (h2 : IntS w a b o l) :
    Calls Try.prog 106 #[.slice va ds.length c, .slice a l.length c2, .int .i64 n] w fun e w' => e = .returned (.int .i64 (M.valFrom ds l n)) ∧ Below w.heap.size w w' := by
  obtain ⟨rfl⟩ := h.addr (by omega)
  obtain ⟨rfl⟩ := h2.addr (by omega)
  have hx := DeS.at h hn
  have hf := h2.row n hln
  have HV : Hid (M.valFrom ds l n = if (ds[n]).reads then l[n] else if (ds[n]).d.k == 3 then (ds[n]).lr else -1) := by
    show _ = _
    simp [M.valFrom, hn, hln]
  generalize ds[n] = x at *
  generalize l[n] = f at *
  obtain ⟨c0, c1, c2', c3, c4, c5, c6⟩ := hx
  have i1 : (n : Int) < ds.length := by omega
  have i2 : (n : Int) < l.length := by omega
  have lb : b < w.heap.size := World.block_lt_of_cell? _ _ hf
  cases hr : x.reads
  · cases h3 : (x.d.k == 3)
    all_goals
      go_enter Try.func106, Try.ntmps106
      go_wp2_with (go_at_call 77; refine (deReads_any x _).mono ?_; rw [hr]; rintro e w' ⟨rfl, rfl⟩)
      go_ret
      exact ⟨by rw [HV.out, hr, h3]; rfl, below2 _ _ _⟩
  · go_enter Try.func106, Try.ntmps106
    go_wp2_with (go_at_call 77; refine (deReads_any x _).mono ?_; rw [hr]; rintro e w' ⟨rfl, rfl⟩)
    go_ret
    exact ⟨by rw [HV.out, hr]; rfl, below2 _ _ _⟩

/-- What origin answers. -/
def M.origV (r : Option Nat) : Value := match r with | none => .tuple #[.int .i64 0, .bool false] | some n => .tuple #[.int .i64 n, .bool true]

set_option maxHeartbeats 1000000 in
theorem origin_any (va : Option Addr) (g c : Nat) (ds : List M.De) (a : Option Addr) (b o c2 : Nat) (l : List Int) (n : Nat) (w : World) (hn : n < ds.length) (hll : l.length = ds.length) (hin : M.In ds l) (hl : ds.length ≤ 1048576) (h : DeS w va g ds) (h2 : IntS w a b o l) :
    Calls Try.prog 93 #[.slice va ds.length c, .slice a l.length c2, .int .i64 n] w fun e w' => e = .returned (M.origV (M.orig ds l ds.length n)) ∧ Below w.heap.size w w' := by
  have HLL : Hid (l.length = ds.length) := hll
  have hl2 : l.length ≤ 1048576 := by omega
  clear hll
  go_enter Try.func93, Try.ntmps93
  go_wp2_with fail
  go_loopw [2, 11] (fun s2 s11 wr => ∃ m q : Nat, s2 = .int .i64 m ∧ s11 = .int .i64 q ∧ q ≤ ds.length ∧ m < ds.length ∧ Hid (M.orig ds l ds.length n = M.orig ds l (ds.length - q) m) ∧ Below w.heap.size w wr) (fun _ s11 _ => ds.length - (intOf s11).toNat)
  case atStart => exact ⟨n, 0, rfl, rfl, Nat.zero_le _, hn, by show _ = _; rfl, Below.refl _ _⟩
  case round =>
    obtain ⟨m, q, rfl, rfl, hq, hm, HO, hb⟩ := hrel
    by_cases hlt : q < ds.length
    · have HS : Hid (M.orig ds l ds.length n = if M.valFrom ds l m < 0 then some m else M.orig ds l (ds.length - (q + 1)) (M.valFrom ds l m).toNat) := by
        show _ = _
        rw [HO.out, show ds.length - q = (ds.length - (q + 1)) + 1 from by omega, M.orig]
      clear HO
      have hi := hin m hm
      have C := valueFrom_any va g c ds a b o c2 l m wr hm (by rw [HLL.out]; exact hm) hl hl2 (h.bel hb (Nat.le_refl _)) (h2.below hb (Nat.le_refl _))
      generalize M.valFrom ds l m = vf at *
      have i1 : (q : Int) < ds.length := by omega
      by_cases hneg : vf < 0
      · go_wp2_with (go_at_call 106; refine C.mono ?_; rintro e w1 ⟨rfl, hb1⟩)
        go_ret2
        exact ⟨by rw [HS.out, if_pos hneg]; rfl, hb.trans (hb1.mono hb.size)⟩
      · obtain ⟨m2, rfl⟩ : ∃ m2 : Nat, vf = m2 := ⟨vf.toNat, by omega⟩
        go_wp2_with (go_at_call 106; refine C.mono ?_; rintro e w1 ⟨rfl, hb1⟩)
        exact ⟨⟨m2, q + 1, rfl, by go_num, by omega, by omega, by show _ = _; rw [HS.out, if_neg (by omega), Int.toNat_natCast], hb.trans (hb1.mono hb.size)⟩, by simp [intOf]; omega⟩
    · go_wp2_with fail
      go_ret2
      exact ⟨by rw [HO.out, show ds.length - q = 0 from by omega]; rfl, hb⟩

theorem M.ends_step {ds : List M.De} {l : List Int} {n : Nat} (h : M.endsAt ds l 0 ds = M.endsAt ds l n (ds.drop n)) (hn : n < ds.length) : M.endsAt ds l 0 ds = ((M.orig ds l ds.length n).isSome && M.endsAt ds l (n + 1) (ds.drop (n + 1))) := by
  rw [h, ← List.getElem_cons_drop hn, M.endsAt]

set_option maxHeartbeats 1000000 in
theorem copiesEnd_any (va : Option Addr) (g c : Nat) (ds : List M.De) (a : Option Addr) (b o c2 : Nat) (l : List Int) (w : World) (hll : l.length = ds.length) (hin : M.In ds l) (hl : ds.length ≤ 1048576) (h : DeS w va g ds) (h2 : IntS w a b o l) :
    Calls Try.prog 75 #[.slice va ds.length c, .slice a l.length c2] w fun e w' => e = .returned (.bool (M.ends ds l)) ∧ Below w.heap.size w w' := by
  have HLL : Hid (l.length = ds.length) := hll
  clear hll
  go_enter Try.func75, Try.ntmps75
  go_wp2_with fail
  go_loopw [10] (fun s10 wr => ∃ n : Nat, s10 = .int .i64 n ∧ n ≤ ds.length ∧ Hid (M.endsAt ds l 0 ds = M.endsAt ds l n (ds.drop n)) ∧ Below w.heap.size w wr) (fun s10 _ => ds.length - (intOf s10).toNat)
  case atStart => exact ⟨0, rfl, Nat.zero_le _, by show _ = _; rfl, Below.refl _ _⟩
  case round =>
    obtain ⟨n, rfl, hn, HA, hb⟩ := hrel
    by_cases hlt : n < ds.length
    · have HS : Hid (M.endsAt ds l 0 ds = ((M.orig ds l ds.length n).isSome && M.endsAt ds l (n + 1) (ds.drop (n + 1)))) := M.ends_step HA.out hlt
      clear HA
      have C := origin_any va g c ds a b o c2 l n wr hlt HLL.out hin hl (h.bel hb (Nat.le_refl _)) (h2.below hb (Nat.le_refl _))
      have i1 : (n : Int) < ds.length := by omega
      cases ho : M.orig ds l ds.length n with
      | none =>
        rw [ho] at C
        change Calls _ _ _ _ fun e w' => e = .returned (.tuple #[.int .i64 0, .bool false]) ∧ _ at C
        go_wp2_with (go_at_call 93; refine C.mono ?_; rintro e w1 ⟨rfl, hb1⟩)
        go_ret
        exact ⟨ret_bool (by rw [M.ends, HS.out, ho]; rfl), hb.trans (hb1.mono hb.size)⟩
      | some q =>
        rw [ho] at C
        change Calls _ _ _ _ fun e w' => e = .returned (.tuple #[.int .i64 q, .bool true]) ∧ _ at C
        go_wp2_with (go_at_call 93; refine C.mono ?_; rintro e w1 ⟨rfl, hb1⟩)
        exact ⟨⟨n + 1, by go_num, by omega, by show _ = _; rw [HS.out, ho]; rfl, hb.trans (hb1.mono hb.size)⟩, by simp [intOf]; omega⟩
    · go_wp2_with fail
      go_ret
      exact ⟨ret_bool (by rw [M.ends, HA.out, List.drop_eq_nil_of_le (by omega)]; rfl), hb⟩

end Go.Proofs.Ytdpnnghomfaleaa
