/- From a walk to the row: the tables that the row lists. -/
import Derived.Test.YthhgkiihegmedaaDoorLiftSet
import Derived.Lib.LaidTab
namespace Go.Proofs.YthhgkiihegmedaaDoor
open Go.RowKit
set_option linter.unusedVariables false
set_option maxRecDepth 100000
def mskZ : List Int := (List.range 33).map fun k => ((msk k).toNat : Int)
theorem tab_masks {W : World} (h : laidMetH Tryd.prog Rows.cidrAllRow.laid W) : Lib.TabIs Tryd.prog W "rampart/cidr.masks" .u32 mskZ := by
  have h1 := h.filter (fun x => x.1 == "rampart/cidr.masks")
  rw [MakeChecks.laidMetH_plain _ _ _ (by kernel_rfl)] at h1
  have e : (Rows.cidrAllRow.laid.filter fun x => x.1 == "rampart/cidr.masks") = [("rampart/cidr.masks", Lib.tabData .u32 mskZ)] := by kernel_rfl
  rw [e] at h1
  exact Lib.tabIs_of_head (g := 0) (t := 38) (e := 25) (n := 33) (by kernel_rfl) (by kernel_rfl) Tryd.underlying38 Tryd.underlying25 (by kernel_rfl) (by kernel_rfl) h1
theorem tab_pow {W : World} (h : laidMetH Tryd.prog Rows.cidrAllRow.laid W) : Tb W := by
  have h1 := h.filter (fun x => x.1 == "internal/strconv.uint64pow10")
  rw [MakeChecks.laidMetH_plain _ _ _ (by kernel_rfl)] at h1
  have e : (Rows.cidrAllRow.laid.filter fun x => x.1 == "internal/strconv.uint64pow10") = [("internal/strconv.uint64pow10", Lib.tabData .u64 Lib.pow10Tab)] := by kernel_rfl
  rw [e] at h1
  exact Lib.tabIs_of_head (g := 1) (t := 73) (e := 63) (n := 20) (by kernel_rfl) (by kernel_rfl) Tryd.underlying73 Tryd.underlying63 (by kernel_rfl) (by kernel_rfl) h1
theorem mks_of {W : World} (h : laidMetH Tryd.prog Rows.cidrAllRow.laid W) : Mks W := by
  have ht := tab_masks h
  have hc : ∀ k, k < 33 → W.cell? ⟨0, k, none⟩ = some (.int .u32 ((msk k).toNat : Int)) := fun k hk => by
    have := Lib.TabIs.cell ht (g := 0) (by kernel_rfl) k (by simp [mskZ, hk])
    rw [this]
    congr 2
    simp [mskZ, List.getD_eq_getElem?_getD, hk]
  exact ⟨ciLt (hc 0 (by omega)), hc⟩
end Go.Proofs.YthhgkiihegmedaaDoor
