/- impl's ProgOk. Of programs of at most 1048576 threads, each of at most 1048576 steps. -/
import Derived.Test.YtnddmlgnngdaoaaRows
import Derived.Test.YtnddmlgnngdaoaaQjam
import Derived.Test.YtnddmlgnngdaoaaQjan
namespace Go.Proofs.Ytnddmlgnngdaoaa
section
open Go.RowKit
structure DoSS (w:World) (a:Option Addr) (b o:Nat) (ll:List (List M.D)):Prop where
 addr:0 < ll.length→a=some ⟨b,o,none⟩
 row:∀ i (h:i < ll.length),∃ a' b' o' c',w.cell? ⟨b,o+i,none⟩=some (.slice a' ll[i].length c')∧DoS w a' b' o' ll[i]
theorem DoSS.below {w w':World} {a:Option Addr} {B b o:Nat} {ll:List (List M.D)} (h:DoSS w a b o ll) (hb:Below B w w') (hB:w.heap.size≤B):DoSS w' a b o ll:=by
 refine ⟨h.addr,fun i hi=>?_⟩
 obtain ⟨a',b',o',c',hc,hd⟩:=h.row i hi
 have hl:=World.block_lt_of_cell? _ _ hc
 exact ⟨a',b',o',c',by rw [hb.cell (p:=⟨b,o+i,none⟩) (by show b < B;exact Nat.lt_of_lt_of_le hl hB)];exact hc,hd.below hb hB⟩
theorem M.thread_le {t:List M.D} (h:M.thread t=true):t.length≤7:=by
 simp only [M.thread,Bool.and_eq_true,decide_eq_true_eq] at h;exact h.1.1.1
theorem M.drop_at' (l:List (List M.D)) (n:Nat) (h:n < l.length):l.drop n=l[n]::l.drop (n+1):=(List.getElem_cons_drop h).symm
theorem M.from_bad {l:List (List M.D)} {x u n:Nat} {t:List M.D} (hp:M.progFrom 0 0 l=M.progFrom x u (l.drop n)) (hd:l.drop n=t::l.drop (n+1)) (hb:M.thread t=false):M.prog l=false:=by
 simp [M.prog,hp,hd,M.progFrom,hb]
theorem M.from_ok {l:List (List M.D)} {x u n:Nat} {t:List M.D} (hp:M.progFrom 0 0 l=M.progFrom x u (l.drop n)) (hd:l.drop n=t::l.drop (n+1)) (hb:M.thread t=true):M.progFrom 0 0 l=M.progFrom (x+t.length) (u+M.cnt M.uses t) (l.drop (n+1)):=by
 rw [hp,hd];simp [M.progFrom,hb]
theorem M.from_fin {l:List (List M.D)} {x u n:Nat} (hp:M.progFrom 0 0 l=M.progFrom x u (l.drop n)) (hn:l.length≤n) (h3:l.length≤3):M.prog l=(decide (x≤14)&&decide (u≤6)):=by
 rw [List.drop_eq_nil_of_le hn] at hp
 simp [M.prog,hp,M.progFrom,h3]
set_option maxHeartbeats 400000 in
theorem iprog_any (a : Option Addr) (b o c : Nat) (ll : List (List M.D)) (w : World) (hl : ll.length ≤ 1048576) (hls : ∀ t ∈ ll, t.length ≤ 1048576) (h : DoSS w a b o ll) :
    Calls Try.prog 57 #[.agg #[.slice a ll.length c]] w fun e w' => e = .returned (.bool (M.prog ll)) ∧ Below w.heap.size w w' := by
  by_cases h3 : ll.length ≤ 3
  · have h3' : ¬ (3 : Int) < ll.length := by omega
    go_enter Try.func57, Try.ntmps57
    go_wp2_with fail
    go_loopw [3, 4, 14] (fun s3 s4 s14 wr => ∃ x u n : Nat, s3 = .int .i64 x ∧ s4 = .int .i64 u ∧ s14 = .int .i64 n ∧ n ≤ ll.length ∧ x ≤ 7 * n ∧ u ≤ 7 * n ∧ M.progFrom 0 0 ll = M.progFrom x u (ll.drop n) ∧ Below w.heap.size w wr) (fun _ _ s14 _ => ll.length - (intOf s14).toNat)
    case atStart => exact ⟨0, 0, 0, rfl, rfl, rfl, Nat.zero_le _, Nat.le_refl _, Nat.le_refl _, rfl, below1 _ _⟩
    case round =>
      obtain ⟨x, u, n, rfl, rfl, rfl, hn, hx, hu, hpass, hbel⟩ := hrel
      have HP : Hid (M.progFrom 0 0 ll = M.progFrom x u (ll.drop n)) := hpass
      clear hpass
      by_cases hlt : n < ll.length
      · obtain ⟨rfl⟩ := h.addr (by omega)
        obtain ⟨a', b', o', c', hc, hd⟩ := (h.below hbel (Nat.le_refl _)).row n hlt
        have HD : Hid (ll.drop n = ll[n] :: ll.drop (n + 1)) := M.drop_at' ll n hlt
        have hlt' := hls _ (List.getElem_mem hlt)
        generalize ll[n] = t at hd hc HD hlt'
        cases ht : M.thread t
        · go_wp2_with (go_at_call 72; refine (ithread_any a' b' o' c' t _ hlt' hd).mono ?_; rintro e w1 ⟨rfl, hb1⟩)
          go_ret
          exact ⟨ret_bool (M.from_bad HP.out HD.out ht).symm, hbel.trans (hb1.mono hbel.size)⟩
        · have ht7 := M.thread_le ht
          have hcn := M.cnt_le M.uses t
          go_wp2_with (first | (go_at_call 72; refine (ithread_any a' b' o' c' t _ hlt' hd).mono ?_; rintro e w1 ⟨rfl, hb1⟩) | (go_at_call 73; refine (cntUses_any a' b' o' c' t _ hlt' (hd.below hb1 (Nat.le_refl _))).mono ?_; rintro e w2 ⟨rfl, hb2⟩))
          exact ⟨⟨x + t.length, u + M.cnt M.uses t, n + 1, by go_num, by go_num, by go_num, by omega, by omega, by omega, M.from_ok HP.out HD.out ht, (hbel.trans (hb1.mono hbel.size)).trans (hb2.mono (Nat.le_trans hbel.size hb1.size))⟩, by simp [intOf]; omega⟩
      · by_cases hx14 : (x : Int) ≤ 14
        · go_wp2_with fail
          go_ret
          exact ⟨ret_bool (by rw [M.from_fin HP.out (by omega) h3]; have : x ≤ 14 := by omega
                              simp [this]; omega), hbel⟩
        · have hx14' : decide ((x : Int) ≤ 14) = false := by simpa using hx14
          go_wp2_with fail
          go_ret
          exact ⟨ret_bool (by rw [M.from_fin HP.out (by omega) h3]; have : ¬ x ≤ 14 := by omega
                              simp [this]), hbel⟩
  · have h3' : (3 : Int) < ll.length := by omega
    go_enter Try.func57, Try.ntmps57
    go_wp2_with fail
    go_ret
    exact ⟨ret_bool (by simp [M.prog, h3]), below1 _ _⟩
end
end Go.Proofs.Ytnddmlgnngdaoaa
