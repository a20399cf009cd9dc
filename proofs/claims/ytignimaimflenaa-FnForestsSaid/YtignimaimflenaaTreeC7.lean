/-
  The model's texts at all level lists, gone through.
-/
import Derived.Test.YtignimaimflenaaTreeD
namespace Go.Proofs.Ytignimaimflenaa.Tr
set_option maxRecDepth 100000

def mt (t : List Int) : List UInt8 := textL 8 t
def chk7 (t : List Int) : Bool := decide (mt t = wrap ((partsL t).map mt)) && decide (mt (can t) = txt t) && decide ((mt t).length = 2 * t.length)
theorem chk7_all : allLv.all chk7 = true := by decide +kernel
theorem mt_parts {t : List Int} (h : isLv t = true) : mt t = wrap ((partsL t).map mt) ∧ mt (can t) = txt t ∧ (mt t).length = 2 * t.length := by
  have h1 := all_of chk7_all (isLv_iff.1 h)
  unfold chk7 at h1
  simp only [Bool.and_eq_true, decide_eq_true_eq] at h1
  exact ⟨h1.1.1, h1.1.2, h1.2⟩
end Go.Proofs.Ytignimaimflenaa.Tr
