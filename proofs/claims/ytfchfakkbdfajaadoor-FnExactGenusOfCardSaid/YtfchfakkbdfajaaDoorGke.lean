/- The kernel check of the levels from 51 to 54. -/
import Derived.Test.YtfchfakkbdfajaaDoorCus
namespace Go.Proofs.YtfchfakkbdfajaaDoor
set_option maxRecDepth 1000000 in
theorem chkG_51 : chkG 51 = true := by decide +kernel
set_option maxRecDepth 1000000 in
theorem chkG_52 : chkG 52 = true := by decide +kernel
set_option maxRecDepth 1000000 in
theorem chkG_53 : chkG 53 = true := by decide +kernel
set_option maxRecDepth 1000000 in
theorem chkG_54 : chkG 54 = true := by decide +kernel
theorem chk_e : chkR 51 4 = true := by
  show (chkG 54 && (chkG 53 && (chkG 52 && (chkG 51 && true)))) = true
  rw [chkG_54, chkG_53, chkG_52, chkG_51]
  rfl
end Go.Proofs.YtfchfakkbdfajaaDoor
