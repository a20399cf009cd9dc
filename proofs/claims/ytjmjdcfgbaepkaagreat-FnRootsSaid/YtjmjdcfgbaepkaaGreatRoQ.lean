/-
  The second half; and where a free tree is superfluous.
-/
import Derived.Test.YtjmjdcfgbaepkaaGreatRoP
namespace Go.Proofs.YtjmjdcfgbaepkaaGreat.Tr
set_option maxRecDepth 100000

theorem chkZ_10 : ((allLv.drop 428).take 11).all chkZ = true := by decide +kernel
theorem chkZ_11 : ((allLv.drop 439).take 11).all chkZ = true := by decide +kernel
theorem chkZ_12 : ((allLv.drop 450).take 11).all chkZ = true := by decide +kernel
theorem chkZ_13 : ((allLv.drop 461).take 11).all chkZ = true := by decide +kernel
theorem chkZ_14 : ((allLv.drop 472).take 11).all chkZ = true := by decide +kernel
theorem chkZ_15 : ((allLv.drop 483).take 11).all chkZ = true := by decide +kernel
theorem chkZ_16 : ((allLv.drop 494).take 11).all chkZ = true := by decide +kernel
theorem chkZ_17 : ((allLv.drop 505).take 11).all chkZ = true := by decide +kernel
theorem chkZ_18 : ((allLv.drop 516).take 11).all chkZ = true := by decide +kernel
theorem chkZ_19 : ((allLv.drop 527).take 11).all chkZ = true := by decide +kernel
theorem chkZ_20 : ((allLv.drop 538).take 11).all chkZ = true := by decide +kernel
theorem chkZ_21 : ((allLv.drop 549).take 11).all chkZ = true := by decide +kernel
theorem chkZ_22 : ((allLv.drop 560).take 11).all chkZ = true := by decide +kernel
theorem chkZ_23 : ((allLv.drop 571).take 11).all chkZ = true := by decide +kernel
theorem chkZ_24 : ((allLv.drop 582).take 11).all chkZ = true := by decide +kernel
theorem chkZ_25 : ((allLv.drop 593).take 11).all chkZ = true := by decide +kernel
theorem chkZ_26 : ((allLv.drop 604).take 11).all chkZ = true := by decide +kernel
theorem chkZ_27 : ((allLv.drop 615).take 11).all chkZ = true := by decide +kernel
theorem drop_noneZ : (allLv.drop 626).all chkZ = true := by
  rw [List.drop_of_length_le (by decide +kernel)]; rfl
theorem chkZ_all : allLv.all chkZ = true := all_dropP (a := 0) (k := 65) (b := 65) chkZ_0 (all_dropP (a := 65) (k := 66) (b := 131) chkZ_1 (all_dropP (a := 131) (k := 66) (b := 197) chkZ_2 (all_dropP (a := 197) (k := 33) (b := 230) chkZ_3 (all_dropP (a := 230) (k := 33) (b := 263) chkZ_4 (all_dropP (a := 263) (k := 33) (b := 296) chkZ_5 (all_dropP (a := 296) (k := 33) (b := 329) chkZ_6 (all_dropP (a := 329) (k := 33) (b := 362) chkZ_7 (all_dropP (a := 362) (k := 33) (b := 395) chkZ_8 (all_dropP (a := 395) (k := 33) (b := 428) chkZ_9 (all_dropP (a := 428) (k := 11) (b := 439) chkZ_10 (all_dropP (a := 439) (k := 11) (b := 450) chkZ_11 (all_dropP (a := 450) (k := 11) (b := 461) chkZ_12 (all_dropP (a := 461) (k := 11) (b := 472) chkZ_13 (all_dropP (a := 472) (k := 11) (b := 483) chkZ_14 (all_dropP (a := 483) (k := 11) (b := 494) chkZ_15 (all_dropP (a := 494) (k := 11) (b := 505) chkZ_16 (all_dropP (a := 505) (k := 11) (b := 516) chkZ_17 (all_dropP (a := 516) (k := 11) (b := 527) chkZ_18 (all_dropP (a := 527) (k := 11) (b := 538) chkZ_19 (all_dropP (a := 538) (k := 11) (b := 549) chkZ_20 (all_dropP (a := 549) (k := 11) (b := 560) chkZ_21 (all_dropP (a := 560) (k := 11) (b := 571) chkZ_22 (all_dropP (a := 571) (k := 11) (b := 582) chkZ_23 (all_dropP (a := 582) (k := 11) (b := 593) chkZ_24 (all_dropP (a := 593) (k := 11) (b := 604) chkZ_25 (all_dropP (a := 604) (k := 11) (b := 615) chkZ_26 (all_dropP (a := 615) (k := 11) (b := 626) chkZ_27 drop_noneZ rfl) rfl) rfl) rfl) rfl) rfl) rfl) rfl) rfl) rfl) rfl) rfl) rfl) rfl) rfl) rfl) rfl) rfl) rfl) rfl) rfl) rfl) rfl) rfl) rfl) rfl) rfl) rfl
theorem turns_same {t : List Int} (h : isLv t = true) (hc : can t = t) {k : Nat} (hk : k < t.length) : (turnsL (turnF 9 t k)).Perm (turnsL t) := by
  have h1 := all_of chkZ_all (isLv_iff.1 h)
  unfold chkZ at h1
  rw [hc] at h1
  simp only [decide_true, Bool.not_true, Bool.false_or, List.all_eq_true, List.mem_range] at h1
  exact List.isPerm_iff.1 (h1 k hk)
end Go.Proofs.YtjmjdcfgbaepkaaGreat.Tr
