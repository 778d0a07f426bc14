/- The kernel check of the levels from 55 to 57. -/
import Derived.Test.YtfchfakkbdfajaaDoorCus
namespace Go.Proofs.YtfchfakkbdfajaaDoor
set_option maxRecDepth 1000000 in
theorem chkG_55 : chkG 55 = true := by decide +kernel
set_option maxRecDepth 1000000 in
theorem chkG_56 : chkG 56 = true := by decide +kernel
set_option maxRecDepth 1000000 in
theorem chkG_57 : chkG 57 = true := by decide +kernel
theorem chk_f : chkR 55 3 = true := by
  show (chkG 57 && (chkG 56 && (chkG 55 && true))) = true
  rw [chkG_57, chkG_56, chkG_55]
  rfl
end Go.Proofs.YtfchfakkbdfajaaDoor
