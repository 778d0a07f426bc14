/- The kernel check of the levels from 46 to 50. -/
import Derived.Test.YtfchfakkbdfajaaDoorCus
namespace Go.Proofs.YtfchfakkbdfajaaDoor
set_option maxRecDepth 1000000 in
theorem chkG_46 : chkG 46 = true := by decide +kernel
set_option maxRecDepth 1000000 in
theorem chkG_47 : chkG 47 = true := by decide +kernel
set_option maxRecDepth 1000000 in
theorem chkG_48 : chkG 48 = true := by decide +kernel
set_option maxRecDepth 1000000 in
theorem chkG_49 : chkG 49 = true := by decide +kernel
set_option maxRecDepth 1000000 in
theorem chkG_50 : chkG 50 = true := by decide +kernel
theorem chk_d : chkR 46 5 = true := by
  show (chkG 50 && (chkG 49 && (chkG 48 && (chkG 47 && (chkG 46 && true))))) = true
  rw [chkG_50, chkG_49, chkG_48, chkG_47, chkG_46]
  rfl
end Go.Proofs.YtfchfakkbdfajaaDoor
