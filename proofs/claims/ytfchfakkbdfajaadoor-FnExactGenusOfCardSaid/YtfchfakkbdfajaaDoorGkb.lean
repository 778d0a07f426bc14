/- The kernel check of the levels from 31 to 39. -/
import Derived.Test.YtfchfakkbdfajaaDoorCus
namespace Go.Proofs.YtfchfakkbdfajaaDoor
set_option maxRecDepth 1000000 in
theorem chkG_31 : chkG 31 = true := by decide +kernel
set_option maxRecDepth 1000000 in
theorem chkG_32 : chkG 32 = true := by decide +kernel
set_option maxRecDepth 1000000 in
theorem chkG_33 : chkG 33 = true := by decide +kernel
set_option maxRecDepth 1000000 in
theorem chkG_34 : chkG 34 = true := by decide +kernel
set_option maxRecDepth 1000000 in
theorem chkG_35 : chkG 35 = true := by decide +kernel
set_option maxRecDepth 1000000 in
theorem chkG_36 : chkG 36 = true := by decide +kernel
set_option maxRecDepth 1000000 in
theorem chkG_37 : chkG 37 = true := by decide +kernel
set_option maxRecDepth 1000000 in
theorem chkG_38 : chkG 38 = true := by decide +kernel
set_option maxRecDepth 1000000 in
theorem chkG_39 : chkG 39 = true := by decide +kernel
theorem chk_b : chkR 31 9 = true := by
  show (chkG 39 && (chkG 38 && (chkG 37 && (chkG 36 && (chkG 35 && (chkG 34 && (chkG 33 && (chkG 32 && (chkG 31 && true))))))))) = true
  rw [chkG_39, chkG_38, chkG_37, chkG_36, chkG_35, chkG_34, chkG_33, chkG_32, chkG_31]
  rfl
end Go.Proofs.YtfchfakkbdfajaaDoor
