/-
  The order of trees by their texts is that by their lists, gone through.
-/
import Derived.Test.YtnnihdkhblbdgaaTreeD
import Derived.Test.YtnnihdkhblbdgaaTreeC8
namespace Go.Proofs.Ytnnihdkhblbdgaa.Tr
set_option maxRecDepth 100000

/-- the texts of all trees -/
def allT : List (List UInt8) := (allLv.filter fun t => decide (can t = t)).map txt
def cmpL (u v : List Int) : Int := if beforeL u v then -1 else if beforeL v u then 1 else 0
def chk5 (x : List UInt8) : Bool := allT.all fun y => decide (x.length ≠ y.length) || decide (cmpT x y = cmpL (lvl x) (lvl y))
theorem chk5_all : allT.all chk5 = true := by decide +kernel
theorem txt_mem {t : List Int} (h : isLv t = true) : txt t ∈ allT := by
  have h1 := all_of chk1_all (isLv_iff.1 h)
  unfold chk1 at h1
  simp only [Bool.and_eq_true, beq_iff_eq] at h1
  obtain ⟨e1, e2⟩ := can_can h
  unfold allT
  rw [List.mem_map]
  refine ⟨can t, ?_, e2⟩
  rw [List.mem_filter]
  exact ⟨mem_all (isLv_iff.1 h1.1.1.2), by simpa using e1⟩
theorem cmp_eq {s t : List Int} (hs : isLv s = true) (ht : isLv t = true) : cmpT (txt s) (txt t) = cmpL (can s) (can t) := by
  have h1 := all_of chk1_all (isLv_iff.1 hs)
  have h2 := all_of chk1_all (isLv_iff.1 ht)
  unfold chk1 at h1 h2
  simp only [Bool.and_eq_true, beq_iff_eq] at h1 h2
  obtain ⟨⟨⟨a1, a2⟩, a3⟩, a4⟩ := h1
  obtain ⟨⟨⟨b1, b2⟩, b3⟩, b4⟩ := h2
  by_cases hl : s.length = t.length
  · have h := List.all_eq_true.1 chk5_all _ (txt_mem hs)
    unfold chk5 at h
    have h' := List.all_eq_true.1 h _ (txt_mem ht)
    simp only [Bool.or_eq_true, decide_eq_true_eq] at h'
    rcases h' with h' | h'
    · exact absurd (by rw [a4, b4, hl]) h'
    · rw [h', a1, b1]
  · unfold cmpT cmpL beforeL
    rw [a3, b3, a4, b4]
    have e1 : 2 * s.length / 2 = s.length := by omega
    have e2 : 2 * t.length / 2 = t.length := by omega
    rw [e1, e2]
    rcases Nat.lt_or_gt_of_ne hl with g | g
    · simp [g, hl]
    · have g' : ¬ s.length < t.length := by omega
      have hl' : ¬ t.length = s.length := fun e => hl e.symm
      simp [g, g', hl, hl']
def leT (x y : List UInt8) : Bool := decide (cmpT x y ≤ 0)
theorem leT_iff {x y : List UInt8} : leT x y = true ↔ x.length / 2 < y.length / 2 ∨ (x.length / 2 = y.length / 2 ∧ leS x y = true) := by
  unfold leT cmpT
  simp only [decide_eq_true_eq]
  by_cases h1 : x.length / 2 < y.length / 2
  · simp [h1]
  · by_cases h2 : y.length / 2 < x.length / 2
    · simp [h1, h2]; omega
    · have e : x.length / 2 = y.length / 2 := by omega
      rw [if_neg h1, if_neg h2]
      cases h3 : leS y x
      · have h4 := leS_to h3
        simp [ltS, h3, h4, e]
      · cases h4 : leS x y
        · simp [ltS, h3, h4, e]
        · simp [ltS, h3, h4, e]
theorem leT_tr {a b c : List UInt8} (h : leT a b = true) (k : leT b c = true) : leT a c = true := by
  rw [leT_iff] at *
  rcases h with h | ⟨h, h'⟩ <;> rcases k with k | ⟨k, k'⟩
  · exact .inl (by omega)
  · exact .inl (by omega)
  · exact .inl (by omega)
  · exact .inr ⟨by omega, leS_tr h' k'⟩
theorem leT_to {a b : List UInt8} (h : leT a b = false) : leT b a = true := by
  cases k : leT b a
  · exfalso
    have h' : ¬ leT a b = true := by rw [h]; simp
    have k' : ¬ leT b a = true := by rw [k]; simp
    rw [leT_iff] at h' k'
    have e : a.length / 2 = b.length / 2 := by omega
    cases q : leS a b
    · exact k' (.inr ⟨e.symm, leS_to q⟩)
    · exact h' (.inr ⟨e, q⟩)
  · rfl
theorem leT_as {a b : List UInt8} (h : leT a b = true) (k : leT b a = true) : a = b := by
  rw [leT_iff] at *
  rcases h with h | ⟨h, h'⟩ <;> rcases k with k | ⟨k, k'⟩
  · omega
  · omega
  · omega
  · exact leS_as h' k'
end Go.Proofs.Ytnnihdkhblbdgaa.Tr
