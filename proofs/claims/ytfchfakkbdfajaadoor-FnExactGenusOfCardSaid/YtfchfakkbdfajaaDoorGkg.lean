/- The kernel check of the levels from 58 to 60. -/
import Derived.Test.YtfchfakkbdfajaaDoorCus
namespace Go.Proofs.YtfchfakkbdfajaaDoor
set_option maxRecDepth 1000000 in
theorem chkG_58 : chkG 58 = true := by decide +kernel
set_option maxRecDepth 1000000 in
theorem chkG_59 : chkG 59 = true := by decide +kernel
set_option maxRecDepth 1000000 in
theorem chkG_60 : chkG 60 = true := by decide +kernel
theorem chk_g : chkR 58 3 = true := by
  show (chkG 60 && (chkG 59 && (chkG 58 && true))) = true
  rw [chkG_60, chkG_59, chkG_58]
  rfl
end Go.Proofs.YtfchfakkbdfajaaDoor
