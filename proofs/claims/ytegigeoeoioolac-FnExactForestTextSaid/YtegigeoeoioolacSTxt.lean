/-
  The model's text of a tree; what TreeText answers, the program's and the model's.
-/
import Derived.Test.YtegigeoeoioolacTreeX
import Derived.Test.YtegigeoeoioolacTreeC7
namespace Go.Proofs.Ytegigeoeoioolac
open Go.RowKit Fld
set_option linter.unusedVariables false
set_option linter.unusedSimpArgs false
set_option maxRecDepth 100000

/-- a text beside a code -/
def ResS (r : List UInt8 × Int) (w : World) (e : Ending) (w' : World) : Prop := e = .returned (.tuple #[.string ⟨r.1.toArray⟩, .int .i64 r.2]) ∧ Below w.heap.size w w'
def SText (d : Nat) : Prop := ∀ (A : Option Addr) (n c B : Nat) (t : List Int) (w : World), t.length = n → n ≤ d → Tr.isLv t = true → B ≤ w.heap.size → Row w B A (ints t) →
    Calls Try.prog 30 #[.slice A n c] w fun e w' => e = .returned (.string ⟨(Tr.mt t).toArray⟩) ∧ Below w.heap.size w w'
set_option maxHeartbeats 1000000 in
theorem sText_succ (d : Nat) (IH : SText d) : SText (d + 1) := by
  intro A n c B t w hl hnd hlv hB h
  obtain ⟨_, PS, P7⟩ := Tr.can_parts hlv
  obtain ⟨M1, _, M2⟩ := Tr.mt_parts hlv
  have n8 : n ≤ 8 := by have := (Tr.isLv_iff.1 hlv).2.1; omega
  have HPS := Lib.hid PS
  have HL := Lib.hid hl
  have HM1 := Lib.hid M1
  have hmt : (Tr.mt t).length ≤ 16 := by omega
  have HMT := Lib.hid hmt
  obtain ⟨P, hP⟩ : ∃ P, P = (Tr.partsL t).length := ⟨_, rfl⟩
  have HP : Hid ((Tr.partsL t).length = P) := hP.symm
  have C0 := l03Parts_any A n c B t w hl hlv hB h
  rw [HP.out] at C0
  have hP7 : P ≤ 7 := by rw [hP]; exact P7
  clear hl hlv PS P7 hP M1 M2 hmt
  go_enter Try.func30, Try.ntmps30
  go_wp2_with fail
  refine C0.mono ?_
  rintro e w1 ⟨Ap, cp, pvs, rfl, ownp, belp⟩
  have HMP : Hid (Mat w1 w1.heap.size Ap (Tr.partsL t)) := ownp.mat
  have HB1 := Lib.hid belp
  have hs1 := belp.size
  clear ownp belp C0
  go_wp2_with fail
  go_loopw [3, 5] (fun v i wr => ∃ (k : Nat) (T : List UInt8), k ≤ P ∧ v = .string ⟨T.toArray⟩ ∧ i = .int .i64 k ∧ Hid (T = 91 :: (((Tr.partsL t).take k).map Tr.mt).flatten) ∧ Below w1.heap.size w1 wr) (fun _ i _ => P - (intOf i).toNat)
  case atStart => exact ⟨0, [91], Nat.zero_le _, rfl, rfl, rfl, Below.refl _ _⟩
  case round =>
    obtain ⟨k, T, hk, rfl, rfl, HT, HB⟩ := hrel
    have hsz := HB.size
    by_cases hlt : k < P
    · obtain ⟨p, hp⟩ := at_lt (show k < (Tr.partsL t).length by rw [HP.out]; exact hlt)
      obtain ⟨bp, op, Ak, ck, rfl, hbp, hcp, hlc, hcm, hrp⟩ := HMP.out.below HB (Nat.le_refl _) k p hp
      obtain ⟨hpl, hpt⟩ := HPS.out p (List.mem_of_getElem? hp)
      have hpt2 : p.length ≤ d := by have := HL.out; omega
      have hpm := (Tr.mt_parts hpl).2.2
      have hp8 : p.length ≤ 8 := (Tr.isLv_iff.1 hpl).2.1
      have hT : T.length ≤ 16 := by
        have h1 := flat_le ((Tr.partsL t).map Tr.mt) k
        have h2 := HMT.out
        rw [HM1.out, Tr.wrap, List.length_cons, List.length_append] at h2
        rw [← List.map_take] at h1
        rw [HT.out, List.length_cons]; omega
      have HTN : Hid (T ++ Tr.mt p = 91 :: (((Tr.partsL t).take (k + 1)).map Tr.mt).flatten) := by
        rw [Hid, HT.out, List.take_add_one, hp]; simp
      have C1 := IH Ak p.length ck w1.heap.size p wr rfl hpt2 hpl (by omega) hrp
      obtain ⟨M, hM⟩ : ∃ M, M = Tr.mt p := ⟨_, rfl⟩
      rw [← hM] at C1 HTN hpm
      have hm16 : M.length ≤ 16 := by omega
      have HBB := Lib.hid HB
      clear hp hpt hpl hpm hM hrp HB
      go_wp2_with fail
      refine C1.mono ?_
      rintro e w2 ⟨rfl, bel2⟩
      have GB := Lib.hid (HBB.out.trans (bel2.mono hsz))
      have GE : Hid ((⟨T.toArray⟩ : ByteArray) ++ ⟨M.toArray⟩ = ⟨(T ++ M).toArray⟩) := ByteArray.mk_append_mk T M
      clear bel2 C1
      go_wp2
      go_roundw
      case rel => exact ⟨k + 1, T ++ M, by omega, by rw [GE.out], by go_num, HTN, GB.out⟩
      case measure => simp [intOf]; omega
    · obtain rfl : k = P := by omega
      have HTE : Hid (T ++ [93] = Tr.mt t) := by
        rw [Hid, HM1.out, HT.out, ← HP.out, List.take_length]; rfl
      have hT : T.length ≤ 16 := by
        have h2 := HMT.out
        rw [← HTE.out, List.length_append] at h2; simp at h2; omega
      have GE : Hid ((⟨T.toArray⟩ : ByteArray) ++ ⟨#[93]⟩ = ⟨(Tr.mt t).toArray⟩) := by
        rw [Hid, show (ByteArray.mk #[93]) = ⟨([93] : List UInt8).toArray⟩ from rfl, ByteArray.mk_append_mk, HTE.out]
      have GB := Lib.hid (HB1.out.trans (HB.mono hs1))
      clear HB
      go_wp2
      go_ret
      refine ⟨?_, GB.out⟩
      rw [← GE.out]
      rfl
theorem sText_upto : ∀ d, SText d
  | 0 => fun A n c B t w hl hd hlv => by have := (Tr.isLv_iff.1 hlv).1; omega
  | d+1 => sText_succ d (sText_upto d)
theorem l03Text_any (A : Option Addr) (n c B : Nat) (t : List Int) (w : World) (hl : t.length = n) (hlv : Tr.isLv t = true) (hB : B ≤ w.heap.size) (h : Row w B A (ints t)) :
    Calls Try.prog 30 #[.slice A n c] w fun e w' => e = .returned (.string ⟨(Tr.mt t).toArray⟩) ∧ Below w.heap.size w w' := sText_upto n A n c B t w hl (Nat.le_refl _) hlv hB h
def textA (t : List Int) : List UInt8 × Int := if Tr.isLv t = true then (Tr.txt t, 0) else ([], 1)
theorem textA_yes {t : List Int} (h : Tr.isLv t = true) : textA t = (Tr.txt t, 0) := if_pos h
theorem textA_no {t : List Int} (h : Tr.isLv t = false) : textA t = ([], 1) := if_neg (by rw [h]; simp)
theorem ResS.of {r : List UInt8 × Int} {w w' : World} {l : List UInt8} {k : Int} (h : r = (l, k)) (hb : Below w.heap.size w w') : ResS r w (.returned (.tuple #[.string ⟨l.toArray⟩, .int .i64 k])) w' := by
  subst h; exact ⟨rfl, hb⟩
end Go.Proofs.Ytegigeoeoioolac
