/- Layer 8: the table of tens, out of what is laid. -/
import Derived.Test.YtjmpbkgdkpkpoaaGreatDoorJourNu
import Derived.LaidSub
import Derived.LaidMore
import Derived.MakeChecks
import Derived.Lib.LaidTab
namespace Go.Proofs.YtjmpbkgdkpkpoaaGreatDoor
open Go.RowKit Go.Maps
set_option maxRecDepth 100000
theorem tab_type : ∃ g, Tryz.prog.globalNamed "internal/strconv.uint64pow10" = some g ∧ (Tryz.prog.globals[g]?).map (·.type) = some 207 :=
  Option.bind_eq_some_iff.1 (show (Tryz.prog.globalNamed "internal/strconv.uint64pow10").bind (fun g => (Tryz.prog.globals[g]?).map (·.type)) = some 207 by kernel_rfl)
theorem tab_laid {l : List (String × DataW Unit)} {W : World} (h : laidMetH Tryz.prog l W) (e : (l.filter fun x => x.1 == "internal/strconv.uint64pow10") = [("internal/strconv.uint64pow10", Lib.tabData .u64 Lib.pow10Tab)]) : Tab W := by
  have h1 := h.filter (fun x => x.1 == "internal/strconv.uint64pow10")
  rw [e, MakeChecks.laidMetH_plain _ _ _ (by kernel_rfl)] at h1
  obtain ⟨g, hg, ht⟩ := tab_type
  exact Lib.tabIs_of_head hg ht Tryz.underlying207 Tryz.underlying29 (by kernel_rfl) (by kernel_rfl) h1
end Go.Proofs.YtjmpbkgdkpkpoaaGreatDoor
