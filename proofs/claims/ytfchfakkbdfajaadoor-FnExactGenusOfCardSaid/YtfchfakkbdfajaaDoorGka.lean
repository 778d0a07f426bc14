/- The kernel check of the levels from 1 to 30. -/
import Derived.Test.YtfchfakkbdfajaaDoorCus
namespace Go.Proofs.YtfchfakkbdfajaaDoor
set_option maxRecDepth 1000000 in
theorem chk_z : chkR 1 15 = true := by decide +kernel
set_option maxRecDepth 1000000 in
theorem chkG_16 : chkG 16 = true := by decide +kernel
set_option maxRecDepth 1000000 in
theorem chkG_17 : chkG 17 = true := by decide +kernel
set_option maxRecDepth 1000000 in
theorem chkG_18 : chkG 18 = true := by decide +kernel
set_option maxRecDepth 1000000 in
theorem chkG_19 : chkG 19 = true := by decide +kernel
set_option maxRecDepth 1000000 in
theorem chkG_20 : chkG 20 = true := by decide +kernel
set_option maxRecDepth 1000000 in
theorem chkG_21 : chkG 21 = true := by decide +kernel
set_option maxRecDepth 1000000 in
theorem chkG_22 : chkG 22 = true := by decide +kernel
set_option maxRecDepth 1000000 in
theorem chkG_23 : chkG 23 = true := by decide +kernel
set_option maxRecDepth 1000000 in
theorem chkG_24 : chkG 24 = true := by decide +kernel
set_option maxRecDepth 1000000 in
theorem chkG_25 : chkG 25 = true := by decide +kernel
set_option maxRecDepth 1000000 in
theorem chkG_26 : chkG 26 = true := by decide +kernel
set_option maxRecDepth 1000000 in
theorem chkG_27 : chkG 27 = true := by decide +kernel
set_option maxRecDepth 1000000 in
theorem chkG_28 : chkG 28 = true := by decide +kernel
set_option maxRecDepth 1000000 in
theorem chkG_29 : chkG 29 = true := by decide +kernel
set_option maxRecDepth 1000000 in
theorem chkG_30 : chkG 30 = true := by decide +kernel
theorem chk_a : chkR 16 15 = true := by
  show (chkG 30 && (chkG 29 && (chkG 28 && (chkG 27 && (chkG 26 && (chkG 25 && (chkG 24 && (chkG 23 && (chkG 22 && (chkG 21 && (chkG 20 && (chkG 19 && (chkG 18 && (chkG 17 && (chkG 16 && true))))))))))))))) = true
  rw [chkG_30, chkG_29, chkG_28, chkG_27, chkG_26, chkG_25, chkG_24, chkG_23, chkG_22, chkG_21, chkG_20, chkG_19, chkG_18, chkG_17, chkG_16]
  rfl
end Go.Proofs.YtfchfakkbdfajaaDoor
