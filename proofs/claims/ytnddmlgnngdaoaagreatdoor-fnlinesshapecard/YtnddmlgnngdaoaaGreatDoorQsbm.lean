/- What the row's listed variables give: the library's table of powers of ten, and the package's two errors. No condition. -/
import Derived.LaidMore
import Derived.Stop.LaidErr
import Derived.Deep.OwnRows
import Derived.Test.YtnddmlgnngdaoaaGreatDoorRows
import Derived.Test.YtnddmlgnngdaoaaGreatDoorQsbk
namespace Go.Proofs.YtnddmlgnngdaoaaGreatDoor
section
open Go.RowKit
theorem tabData_powL:(Rows.laid_internal_strconv_uint64pow10:DataW Unit)=Lib.tabData .u64 Lib.pow10Tab:=by kernel_rfl
theorem gErr0 : Tryz.prog.globalNamed "loop.example/fathomline/impl.errText" = some 0 := by kernel_rfl
theorem gErr1 : Tryz.prog.globalNamed "loop.example/fathomline/impl.errAsk" = some 1 := by kernel_rfl
theorem gErr0T:(Tryz.prog.globals[0]?).map (·.type)=some 63:=by kernel_rfl
theorem gErr1T:(Tryz.prog.globals[1]?).map (·.type)=some 63:=by kernel_rfl
theorem errCells:Tryz.prog.cellsOf 303=1:=by kernel_rfl
theorem strCells1:Tryz.prog.cellsOf 9=1:=by kernel_rfl
theorem errStar : "*" ++ "errors.errorString" = "*errors.errorString" := by decide
theorem errRow (u : TypeId) (h : Tryz.prog.typeName? 3 u = some "*errors.errorString") : u = 279 :=
 typeName_ptr_named (nm := "errors.errorString") (by rw [errStar]; kernel_rfl) (by kernel_rfl) (by decide) u (by rw [errStar]; exact h)
theorem linesVars {W : World} (h : laidMetH Tryz.prog Rows.fnLinesShapeRow.laid W) : ∃ x0 x1 : Value, IsIface x0 ∧ IsIface x1 ∧ W.var? Tryz.prog "loop.example/fathomline/impl.errText" = some #[x0] ∧ W.var? Tryz.prog "loop.example/fathomline/impl.errAsk" = some #[x1] := by
 have h2 : laidMetH Tryz.prog [("math/bits.deBruijn32tab", Rows.laid_math_bits_deBruijn32tab), ("math/bits.deBruijn64tab", Rows.laid_math_bits_deBruijn64tab), ("internal/strconv.uint64pow10", Rows.laid_internal_strconv_uint64pow10), ("loop.example/fathomline/impl.errText", Rows.laid_loop_example_fathomline_impl_errText), ("loop.example/fathomline/impl.errAsk", Rows.laid_loop_example_fathomline_impl_errAsk)] W := h
 rw [MakeChecks.laidMetH_plain _ _ _ (by kernel_rfl)] at h2
 obtain ⟨a0,s0,v0,_,_,_⟩:=laid_sentinel h2.tail.tail.tail gErr0 gErr0T Tryz.underlying63 errRow Tryz.underlying279 Tryz.underlying303 rfl rfl Tryz.underlying9 errCells strCells1
 obtain ⟨a1,s1,v1,_,_,_⟩:=laid_sentinel h2.tail.tail.tail.tail gErr1 gErr1T Tryz.underlying63 errRow Tryz.underlying279 Tryz.underlying303 rfl rfl Tryz.underlying9 errCells strCells1
 exact ⟨.iface 279 (.pointer (some a0)),.iface 279 (.pointer (some a1)),trivial,trivial,v0,v1⟩
theorem var?_belL {W W':World} {n:String} {g:Nat} {cs:Array Value} (hg:Tryz.prog.globalNamed n=some g) (hb:Below W.heap.size W W') (h:W.var? Tryz.prog n=some cs):W'.var? Tryz.prog n=some cs:=by
 unfold World.var? at *
 rw [hg] at h ⊢
 by_cases hlt:g < W.heap.size
 ·have e:=hb.block g hlt
  simp only [Option.bind] at h ⊢
  rw [e]
  exact h
 ·have e:W.heap[g]?=none:=Array.getElem?_eq_none (by omega)
  simp [Option.bind,e] at h
theorem linesLaid {W:World} (h:laidMetH Tryz.prog Rows.fnLinesShapeRow.laid W):HasTab W∧HasErr W:=by
 have h2 : laidMetH Tryz.prog [("math/bits.deBruijn32tab", Rows.laid_math_bits_deBruijn32tab), ("math/bits.deBruijn64tab", Rows.laid_math_bits_deBruijn64tab), ("internal/strconv.uint64pow10", Rows.laid_internal_strconv_uint64pow10), ("loop.example/fathomline/impl.errText", Rows.laid_loop_example_fathomline_impl_errText), ("loop.example/fathomline/impl.errAsk", Rows.laid_loop_example_fathomline_impl_errAsk)] W := h
 rw [MakeChecks.laidMetH_plain _ _ _ (by kernel_rfl),tabData_powL] at h2
 constructor
 ·obtain ⟨g, hg⟩ : ∃ g, Tryz.prog.globalNamed "internal/strconv.uint64pow10" = some g := Option.isSome_iff_exists.1 (by kernel_rfl)
  exact Lib.tabIs_of_head (t:=232) (e:=155) (n:=20) hg (by
   have : (Tryz.prog.globalNamed "internal/strconv.uint64pow10").bind (fun g => (Tryz.prog.globals[g]?).map (·.type)) = some 232 := by kernel_rfl
   rw [hg] at this
   exact this) Tryz.underlying232 Tryz.underlying155 (by kernel_rfl) (by kernel_rfl) h2.tail.tail
 ·obtain ⟨a0,s0,v0,_,_,_⟩:=laid_sentinel h2.tail.tail.tail gErr0 gErr0T Tryz.underlying63 errRow Tryz.underlying279 Tryz.underlying303 rfl rfl Tryz.underlying9 errCells strCells1
  obtain ⟨a1,s1,v1,_,_,_⟩:=laid_sentinel h2.tail.tail.tail.tail gErr1 gErr1T Tryz.underlying63 errRow Tryz.underlying279 Tryz.underlying303 rfl rfl Tryz.underlying9 errCells strCells1
  exact ⟨⟨_,_,by simpa using World.var?_cell gErr0 v0 0⟩,⟨_,_,by simpa using World.var?_cell gErr1 v1 0⟩⟩
end
end Go.Proofs.YtnddmlgnngdaoaaGreatDoor
