/- spec's ProgText. Of programs of at most 1048576 threads, each of at most 1048576 steps. -/
import Derived.Test.YthgmolelipjdaaaTxW
import Derived.Test.YthgmolelipjdaaaSProg
namespace Go.Proofs.Ythgmolelipjdaaa
open Go.RowKit

theorem bytes_add (a b : List UInt8) : (⟨a.toArray⟩ : ByteArray) ++ ⟨b.toArray⟩ = ⟨(a ++ b).toArray⟩ := by
  apply ByteArray.ext
  simp
theorem bytes_size (a : List UInt8) : (⟨a.toArray⟩ : ByteArray).size = a.length := by simp [ByteArray.size]
theorem M.say0_le (d : M.D) : (M.say0 d).length ≤ 9 := by
  have h := M.say_le d
  rw [M.say_eq, List.length_append, List.length_cons, List.length_nil] at h
  omega

set_option maxHeartbeats 400000 in
theorem sprogText_any (a : Option Addr) (b o c : Nat) (ll : List (List M.D)) (w : World) (hl : ll.length ≤ 1048576) (hls : ∀ t ∈ ll, t.length ≤ 1048576) (h : DoSS w a b o ll) :
    Calls Try.prog 10 #[.agg #[.slice a ll.length c]] w fun e w' => e = .returned (.string ⟨(M.text ll).toArray⟩) ∧ Below w.heap.size w w' := by
  cases hp : M.prog ll
  · go_enter Try.func10, Try.ntmps10
    go_wp2_with (go_at_call 11; refine (sprog_any a b o c ll _ hl hls (h.below (below1 w _) (Nat.le_refl _))).mono ?_; rintro e w1 ⟨rfl, hb1⟩)
    go_ret
    exact ⟨by simp [M.text, hp], (below1 w _).trans (hb1.mono (by simp))⟩
  · obtain ⟨h3, hth⟩ := M.prog_thread hp
    have h7 : ∀ t ∈ ll, t.length ≤ 7 := fun t ht => M.thread_le (hth t ht)
    go_enter Try.func10, Try.ntmps10
    go_wp2_with (go_at_call 11; refine (sprog_any a b o c ll _ hl hls (h.below (below1 w _) (Nat.le_refl _))).mono ?_; rintro e w1 ⟨rfl, hb1⟩)
    have hs1 := (h.below (below1 w _) (Nat.le_refl _)).below hb1 (Nat.le_refl _)
    have hbw : Below w.heap.size w w1 := (below1 w _).trans (hb1.mono (by simp))
    have hbox1 : w1.cell? ⟨w.heap.size, 0, none⟩ = some (.slice a ll.length c) := by rw [hb1.cell (p := ⟨w.heap.size, 0, none⟩) (by simp)]; simp
    have hlt1 : w.heap.size < w1.heap.size := World.block_lt_of_cell? _ _ hbox1
    clear hb1 h
    go_loopw [3, 4] (fun s3 s4 wr => ∃ n : Nat, s3 = .string ⟨(M.sayProg (ll.take n)).toArray⟩ ∧ s4 = .int .i64 n ∧ n ≤ ll.length ∧ Below w1.heap.size w1 wr) (fun _ s4 _ => ll.length - (intOf s4).toNat)
    case atStart => exact ⟨0, by simp [M.sayProg], rfl, Nat.zero_le _, Below.refl _ _⟩
    case round =>
      obtain ⟨n, rfl, rfl, hn, hbel⟩ := hrel
      have hlen : (M.sayProg (ll.take n)).length ≤ 300 := by
        have := M.sayProg_le (ll.take n) (fun t ht => h7 t (List.mem_of_mem_take ht))
        have h5 := List.length_take_le n ll
        simp only [List.length_take] at this h5
        omega
      have hbox : wr.cell? ⟨w.heap.size, 0, none⟩ = some (.slice a ll.length c) := (hbel.cell (p := ⟨w.heap.size, 0, none⟩) hlt1).trans hbox1
      by_cases hlt : n < ll.length
      · obtain ⟨rfl⟩ := hs1.addr (by omega)
        obtain ⟨a', b', o', c', hc, hd⟩ := hs1.row n hlt
        have HD : Hid (ll.drop n = ll[n] :: ll.drop (n + 1)) := M.drop_at' ll n hlt
        have hlt7 := h7 _ (List.getElem_mem hlt)
        have hdo := M.thread_do (hth _ (List.getElem_mem hlt))
        generalize ll[n] = t at hd hc HD hlt7 hdo
        have HN : Hid (M.sayProg (ll.take (n + 1)) = M.sayProg (ll.take n) ++ M.sayThread t) := M.sayProg_step HD.out
        clear HD
        generalize M.sayProg (ll.take n) = acc at *
        have hz : ¬ 9223372036854775807 < acc.length + 7 := by omega
        go_wp2_with fail
        go_loopw [3, 5] (fun s3 s5 wi => ∃ k : Nat, s3 = .string ⟨(acc ++ [116, 104, 114, 101, 97, 100, 10] ++ M.sayAll (t.take k)).toArray⟩ ∧ s5 = .int .i64 k ∧ k ≤ t.length ∧ Below w1.heap.size w1 wi) (fun _ s5 _ => t.length - (intOf s5).toNat)
        case atStart => exact ⟨0, (congrArg Value.string (bytes_add acc [116, 104, 114, 101, 97, 100, 10])).trans (by simp [M.sayAll]), rfl, Nat.zero_le _, hbel⟩
        case round =>
          obtain ⟨k, rfl, rfl, hk, hbi⟩ := hrel
          have hboxi := (hbi.cell (p := ⟨w.heap.size, 0, none⟩) hlt1).trans hbox1
          have hci := (hbi.cell (p := ⟨b, o + n, none⟩) (World.block_lt_of_cell? _ _ hc)).trans hc
          clear hbox hbox1 hc
          by_cases hkt : k < t.length
          · obtain ⟨rfl⟩ := hd.addr (by omega)
            have hdk := (hd.row k hkt).below hbi (Nat.le_refl _)
            have HK : Hid (t.drop k = t[k] :: t.drop (k + 1)) := M.drop_at t k hkt
            have hok := hdo _ (List.getElem_mem hkt)
            have hle := M.sayAll_le (t.take k)
            have hle2 : (t.take k).length ≤ 7 := by simp only [List.length_take]; omega
            have HM : Hid (M.sayAll (t.take (k + 1)) = M.sayAll (t.take k) ++ M.say t[k]) := M.sayAll_step HK.out
            clear HK
            have hsl := M.say0_le t[k]
            generalize t[k] = d at hdk hok HM hsl
            have hac : (acc ++ [116, 104, 114, 101, 97, 100, 10] ++ M.sayAll (t.take k)).length ≤ 400 := by simp only [List.length_append, List.length_cons, List.length_nil]; omega
            have HM2 : Hid (acc ++ [116, 104, 114, 101, 97, 100, 10] ++ M.sayAll (t.take (k + 1)) = (acc ++ [116, 104, 114, 101, 97, 100, 10] ++ M.sayAll (t.take k)) ++ M.say0 d ++ [10]) := by
              show _ = _
              rw [HM.out, M.say_eq]; simp
            clear HM hle hle2
            generalize acc ++ [116, 104, 114, 101, 97, 100, 10] ++ M.sayAll (t.take k) = A at *
            obtain ⟨kk, p, v⟩ := d
            obtain ⟨ck, cp, cv⟩ := hdk
            have hz1 : ¬ 9223372036854775807 < A.length + (M.say0 ⟨kk, p, v⟩).length := by omega
            have hz2 : ¬ 9223372036854775807 < A.length + (M.say0 ⟨kk, p, v⟩).length + 1 := by omega
            go_wp2_with (go_at_call 28; refine (l1Say_any ⟨kk, p, v⟩ _ hok).mono ?_; rintro e w4 ⟨rfl, hb4⟩)
            exact ⟨⟨k + 1, by rw [HM2.out, ← bytes_add, ← bytes_add], by go_num, by omega, hbi.trans (hb4.mono hbi.size)⟩, by simp [intOf]; omega⟩
          · go_wp2_with fail
            exact ⟨⟨n + 1, by rw [HN.out, List.take_of_length_le (by omega)]; simp [M.sayThread], by go_num, by omega, hbi⟩, by simp [intOf]; omega⟩
      · go_wp2_with fail
        go_ret
        refine ⟨?_, hbw.trans (hbel.mono hbw.size)⟩
        rw [List.take_of_length_le (by omega)]
        simp [M.text, hp]

end Go.Proofs.Ythgmolelipjdaaa
