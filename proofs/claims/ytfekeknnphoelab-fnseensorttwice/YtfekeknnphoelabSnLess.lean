/- impl's and spec's SeenLess. Of lists of at most 1048576 numbers. -/
import Derived.Test.YtfekeknnphoelabSnSee
namespace Go.Proofs.Ytfekeknnphoelab
open Go.RowKit

set_option maxHeartbeats 400000 in
theorem iless_any (s t : Sn) (w : World) (hs : s.Le 1048576) (ht : t.Le 1048576) (hsa : s.At w) (hta : t.At w) :
    Calls Try.prog 13 #[.agg #[.slice s.a1 s.l1.length s.c1, .slice s.a2 s.l2.length s.c2], .agg #[.slice t.a1 t.l1.length t.c1, .slice t.a2 t.l2.length t.c2]] w fun e w' => e = .returned (.bool (decide (M.cmpS s.l1 s.l2 t.l1 t.l2 < 0))) ∧ Grown w w' := by
  have C := compareSeen_any s t _ hs ht (hsa.grown (alloc2 w (.cells #[.slice s.a1 s.l1.length s.c1, .slice s.a2 s.l2.length s.c2] 30) (.cells #[.slice t.a1 t.l1.length t.c1, .slice t.a2 t.l2.length t.c2] 30))) (hta.grown (alloc2 w (.cells #[.slice s.a1 s.l1.length s.c1, .slice s.a2 s.l2.length s.c2] 30) (.cells #[.slice t.a1 t.l1.length t.c1, .slice t.a2 t.l2.length t.c2] 30)))
  go_enter Try.func13, Try.ntmps13
  go_wp2_with (go_at_call 29; refine C.mono ?_; rintro e w' ⟨rfl, hg⟩)
  go_ret
  exact ⟨rfl, (alloc2 w _ _).trans hg⟩

set_option maxHeartbeats 400000 in
theorem sless_any (s t : Sn) (w : World) (hs : s.Le 1048576) (ht : t.Le 1048576) (hsa : s.At w) (hta : t.At w) :
    Calls Try.prog 18 #[.agg #[.slice s.a1 s.l1.length s.c1, .slice s.a2 s.l2.length s.c2], .agg #[.slice t.a1 t.l1.length t.c1, .slice t.a2 t.l2.length t.c2]] w fun e w' => e = .returned (.bool (decide (M.cmpS s.l1 s.l2 t.l1 t.l2 < 0))) ∧ Grown w w' := by
  have C := l2Seen_any s t _ hs ht (hsa.grown (alloc2 w (.cells #[.slice s.a1 s.l1.length s.c1, .slice s.a2 s.l2.length s.c2] 30) (.cells #[.slice t.a1 t.l1.length t.c1, .slice t.a2 t.l2.length t.c2] 30))) (hta.grown (alloc2 w (.cells #[.slice s.a1 s.l1.length s.c1, .slice s.a2 s.l2.length s.c2] 30) (.cells #[.slice t.a1 t.l1.length t.c1, .slice t.a2 t.l2.length t.c2] 30)))
  go_enter Try.func18, Try.ntmps18
  go_wp2_with (go_at_call 36; refine C.mono ?_; rintro e w' ⟨rfl, hg⟩)
  go_ret
  exact ⟨rfl, (alloc2 w _ _).trans hg⟩

end Go.Proofs.Ytfekeknnphoelab
