/- The kernel check of the levels from 40 to 45. -/
import Derived.Test.YtfchfakkbdfajaaDoorCus
namespace Go.Proofs.YtfchfakkbdfajaaDoor
set_option maxRecDepth 1000000 in
theorem chkG_40 : chkG 40 = true := by decide +kernel
set_option maxRecDepth 1000000 in
theorem chkG_41 : chkG 41 = true := by decide +kernel
set_option maxRecDepth 1000000 in
theorem chkG_42 : chkG 42 = true := by decide +kernel
set_option maxRecDepth 1000000 in
theorem chkG_43 : chkG 43 = true := by decide +kernel
set_option maxRecDepth 1000000 in
theorem chkG_44 : chkG 44 = true := by decide +kernel
set_option maxRecDepth 1000000 in
theorem chkG_45 : chkG 45 = true := by decide +kernel
theorem chk_c : chkR 40 6 = true := by
  show (chkG 45 && (chkG 44 && (chkG 43 && (chkG 42 && (chkG 41 && (chkG 40 && true)))))) = true
  rw [chkG_45, chkG_44, chkG_43, chkG_42, chkG_41, chkG_40]
  rfl
end Go.Proofs.YtfchfakkbdfajaaDoor
