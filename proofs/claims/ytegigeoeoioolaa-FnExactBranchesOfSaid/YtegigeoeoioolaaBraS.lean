/-
  The model's branches of a tree.
-/
import Derived.Test.YtegigeoeoioolaaSort
import Derived.Test.YtegigeoeoioolaaParts
import Derived.Test.YtegigeoeoioolaaTreeC
import Derived.Outline
namespace Go.Proofs.Ytegigeoeoioolaa
open Go.RowKit Fld
set_option linter.unusedVariables false
set_option linter.unusedSimpArgs false
set_option maxRecDepth 100000

theorem l03Branches_any (A : Option Addr) (n c B : Nat) (t : List Int) (w : World) (hl : t.length = n) (hlv : Tr.isLv t = true) (hB : B ≤ w.heap.size) (h : Row w B A (ints t)) :
    Calls Try.prog 139 #[.slice A n c] w (ResRws (Tr.branL t) w) := by
  have HL := Lib.hid hl
  have HLV := Lib.hid hlv
  obtain ⟨hclv, hcl⟩ := lv_can hlv
  have HCL : Hid ((Tr.can t).length = n) := hcl.trans hl
  have HCLV := Lib.hid hclv
  obtain ⟨_, PS, P7⟩ := Tr.can_parts hclv
  have HPS : Hid (∀ p ∈ Tr.partsL (Tr.can t), Tr.isLv p = true) := fun p hp => (PS p hp).1
  have HP7 : Hid ((Tr.partsL (Tr.can t)).length ≤ 8) := by rw [Hid]; omega
  clear hl hlv hclv hcl PS P7
  go_enter Try.func139, Try.ntmps139
  go_wp2_with fail
  refine (l03Canon_any A n c B t w HL.out HLV.out hB h).mono ?_
  rintro e w1 ⟨A1, c1, rfl, own1, bel1⟩
  have hs1 := bel1.size
  have HB1 := Lib.hid bel1
  have HR1 : Hid (Row w1 w1.heap.size A1 (ints (Tr.can t))) := row_of_own own1
  clear own1 bel1
  go_wp2_with fail
  refine (l03Parts_any A1 n c1 w1.heap.size (Tr.can t) w1 HCL.out HCLV.out (Nat.le_refl _) HR1.out).mono ?_
  rintro e w2 ⟨A2, c2, vs2, rfl, own2, bel2⟩
  have hs2 := bel2.size
  have HB2 := Lib.hid (HB1.out.trans (bel2.mono hs1))
  have HM2 : Hid (Mat w2 w2.heap.size A2 (Tr.partsL (Tr.can t))) := own2.mat
  clear own2 bel2
  go_wp2_with fail
  refine (l03Sort_any A2 (Tr.partsL (Tr.can t)).length c2 w2.heap.size (Tr.partsL (Tr.can t)) w2 rfl HP7.out HPS.out (Nat.le_refl _) HM2.out).mono ?_
  rintro e w3 ⟨b, o, cap, rfl, hcap, hrws, bel3⟩
  have G : Hid (ResRws (Tr.branL t) w (.returned (.slice (some ⟨b, o, none⟩) (Tr.sortL (Tr.partsL (Tr.can t))).length cap)) w3) := ⟨b, o, cap, rfl, hcap, hrws, HB2.out.trans (bel3.mono (by omega))⟩
  clear hrws bel3
  go_wp2
  go_ret
  exact G.out
end Go.Proofs.Ytegigeoeoioolaa
