/- What the rows' listed variables give: the library's table of powers of ten lies where it should. No condition. -/
import Derived.Test.YtefmkenljongpaaDoorRows
import Derived.Test.YtefmkenljongpaaDoorStI
import Derived.Test.YtefmkenljongpaaDoorFront0
import Derived.ProofKit
import Derived.LaidMore
import Derived.Stop.LaidErr
import Derived.Lib.LaidTab
namespace Go.Proofs.YtefmkenljongpaaDoor

theorem tabData_pow : (Rows.laid_internal_strconv_uint64pow10 : DataW Unit) = Lib.tabData .u64 Lib.pow10Tab := by kernel_rfl
theorem HasTab.met {W : World} (h : laidMetH Tryd.prog [("math/bits.deBruijn32tab", Rows.laid_math_bits_deBruijn32tab), ("math/bits.deBruijn64tab", Rows.laid_math_bits_deBruijn64tab), ("internal/strconv.uint64pow10", Rows.laid_internal_strconv_uint64pow10)] W) : HasTab W := by
  rw [MakeChecks.laidMetH_plain _ _ _ (by kernel_rfl), tabData_pow] at h
  obtain ⟨g, hg⟩ : ∃ g, Tryd.prog.globalNamed "internal/strconv.uint64pow10" = some g := Option.isSome_iff_exists.1 (by kernel_rfl)
  exact Lib.tabIs_of_head (t := 84) (e := 76) (n := 20) hg (by
    have : (Tryd.prog.globalNamed "internal/strconv.uint64pow10").bind (fun g => (Tryd.prog.globals[g]?).map (·.type)) = some 84 := by kernel_rfl
    rw [hg] at this
    exact this) Tryd.underlying84 Tryd.underlying76 (by kernel_rfl) (by kernel_rfl) h.tail.tail

end Go.Proofs.YtefmkenljongpaaDoor
