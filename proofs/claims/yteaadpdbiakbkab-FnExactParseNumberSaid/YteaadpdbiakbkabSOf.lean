/-
  Reading a fraction: the model's answer.
-/
import Derived.Test.YteaadpdbiakbkabSParse
namespace Go.Proofs.Yteaadpdbiakbkab
open Go.RowKit Fld
set_option linter.unusedVariables false
set_option linter.unusedSimpArgs false

theorem dash_of {T : ByteArray} : (T.size = 0 ∧ Lib.hasPrefix T.data.toList [45] = false) ∨ (∃ h : 0 < T.size, (T[0].toNat : Int) ≠ 45 ∧ Lib.hasPrefix T.data.toList [45] = false) ∨ (∃ h : 0 < T.size, (T[0].toNat : Int) = 45 ∧ Lib.hasPrefix T.data.toList [45] = true) := by
  by_cases hT : T.size = 0
  · refine .inl ⟨hT, ?_⟩
    have : T.data.toList = [] := List.length_eq_zero_iff.1 hT
    rw [this]; rfl
  · have ht : 0 < T.size := by omega
    obtain ⟨b, l, hl⟩ : ∃ b l, T.data.toList = b :: l := by
      rcases e : T.data.toList with _ | ⟨b, l⟩
      · have : T.data.toList.length = T.size := rfl
        rw [e] at this; simp at this; omega
      · exact ⟨b, l, rfl⟩
    have hb : T[0] = b := by
      have h1 : T.data.toList[0]? = some b := by rw [hl]; rfl
      rw [List.getElem?_eq_getElem (by simpa using ht)] at h1
      exact Option.some.inj h1
    by_cases hc : (T[0].toNat : Int) = 45
    · refine .inr (.inr ⟨ht, hc, ?_⟩)
      have e : b = 45 := by rw [← hb]; exact UInt8.toNat_inj.mp (by simpa using (by omega : T[0].toNat = 45))
      rw [hl, e]; simp [Lib.hasPrefix]
    · refine .inr (.inl ⟨ht, hc, ?_⟩)
      have e : b ≠ 45 := by rintro rfl; rw [hb] at hc; exact hc rfl
      rw [hl]; simp [Lib.hasPrefix, List.isPrefixOf, Ne.symm e]
theorem trim_no {T : ByteArray} (h : Lib.hasPrefix T.data.toList [45] = false) : (⟨(Lib.trimPrefix T.data.toList [45]).toArray⟩ : ByteArray) = T := by
  unfold Lib.trimPrefix; rw [h]; simp
theorem trim_yes {T : ByteArray} (h : Lib.hasPrefix T.data.toList [45] = true) : (⟨(Lib.trimPrefix T.data.toList [45]).toArray⟩ : ByteArray).data.toList = (T.extract 1 T.size).data.toList := by
  unfold Lib.trimPrefix; rw [h]; simp
  exact (List.take_of_length_le (by rw [List.length_tail]; exact Nat.le_refl _)).symm
theorem sparse_all (s B : ByteArray) (n : Nat) (vs : List Value) (q : Int) (w : World) (hm : s.size ≤ 1048576) (sB : B.size ≤ 1048576) (hn : vs.length = n) (h0 : vs[0]? = some (.string (cutTop s)))
    (hq0 : -1 ≤ q) (hq1 : q ≤ 999999999) (hq : decA (botDigits s).data.toList = q)
    (hN : (n = 1 ∧ q = 1) ∨ (n = 2 ∧ vs[1]? = some (.string B) ∧ decA B.data.toList = q) ∨ (3 ≤ n ∧ q < 1))
    (hsp : ∀ w, Calls Try.prog 45 #[.string s, .int .u8 47] w (NewRow 9 n vs w)) :
    Calls Try.prog 16 #[.string s] w fun e w' => e = .returned (.tuple #[.int .i64 (parseA s).1, .int .i64 (parseA s).2]) ∧ Below w.heap.size w w' := by
  have e : parseA s = parseB (Lib.hasPrefix (cutTop s).data.toList [45]) (decA (⟨(Lib.trimPrefix (cutTop s).data.toList [45]).toArray⟩ : ByteArray).data.toList) q := by rw [← hq]; rfl
  rw [e]
  rcases dash_of (T := cutTop s) with ⟨hT, hd⟩ | ⟨ht, hc, hd⟩ | ⟨ht, hc, hd⟩
  · rw [trim_no hd, hd]
    rcases hN with ⟨h1, rfl⟩ | ⟨h2, hv1, hb⟩ | ⟨h3, hlt⟩
    · exact sparse_a1 s _ B n vs _ w (by have := cutTop_size s; omega) sB hn h0 (decA_le _).2 (decA_le _).1 hq0 hq1 rfl hT h1 hsp
    · exact sparse_a2 s _ B n vs _ q w (by have := cutTop_size s; omega) sB hn h0 (decA_le _).2 (decA_le _).1 hq0 hq1 rfl hT h2 hv1 hb hsp
    · exact sparse_a3 s _ B n vs _ q w (by have := cutTop_size s; omega) sB hn h0 (decA_le _).2 (decA_le _).1 hq0 hq1 rfl hT h3 hlt hsp
  · rw [trim_no hd, hd]
    rcases hN with ⟨h1, rfl⟩ | ⟨h2, hv1, hb⟩ | ⟨h3, hlt⟩
    · exact sparse_b1 s _ B n vs _ w (by have := cutTop_size s; omega) sB hn h0 (decA_le _).2 (decA_le _).1 hq0 hq1 rfl ht hc h1 hsp
    · exact sparse_b2 s _ B n vs _ q w (by have := cutTop_size s; omega) sB hn h0 (decA_le _).2 (decA_le _).1 hq0 hq1 rfl ht hc h2 hv1 hb hsp
    · exact sparse_b3 s _ B n vs _ q w (by have := cutTop_size s; omega) sB hn h0 (decA_le _).2 (decA_le _).1 hq0 hq1 rfl ht hc h3 hlt hsp
  · rw [trim_yes hd, hd]
    rcases hN with ⟨h1, rfl⟩ | ⟨h2, hv1, hb⟩ | ⟨h3, hlt⟩
    · exact sparse_c1 s _ B n vs _ w (by have := cutTop_size s; rw [ByteArray.size_extract]; omega) sB hn h0 (decA_le _).2 (decA_le _).1 hq0 hq1 rfl ht hc h1 hsp
    · exact sparse_c2 s _ B n vs _ q w (by have := cutTop_size s; rw [ByteArray.size_extract]; omega) sB hn h0 (decA_le _).2 (decA_le _).1 hq0 hq1 rfl ht hc h2 hv1 hb hsp
    · exact sparse_c3 s _ B n vs _ q w (by have := cutTop_size s; rw [ByteArray.size_extract]; omega) sB hn h0 (decA_le _).2 (decA_le _).1 hq0 hq1 rfl ht hc h3 hlt hsp
theorem not_dig {s : ByteArray} {a b k : Nat} (h : k < s.size) (hk : (s[k].toNat : Int) = 47) (ha : a ≤ k) (hb : k < b) (hbs : b ≤ s.size) : decA (s.extract a b).data.toList = -1 := by
  have hsz : (s.extract a b).size = b - a := by rw [ByteArray.size_extract]; omega
  have hlt : k - a < (s.extract a b).size := by omega
  refine decA_bad hlt (.inl ?_)
  have e : (s.extract a b)[k - a] = s[k] := by
    rw [ByteArray.getElem_extract]; congr 1; omega
  rw [e]; omega
theorem sParseNumber_any (s : ByteArray) (w : World) (hm : s.size ≤ 1048576) :
    Calls Try.prog 16 #[.string s] w fun e w' => e = .returned (.tuple #[.int .i64 (parseA s).1, .int .i64 (parseA s).2]) ∧ Below w.heap.size w w' := by
  have hlen : (strsOf s (pieces s 47)).length = (pieces s 47).length := by simp [strsOf]
  rcases slash_parts s with ⟨hs, hno⟩ | ⟨o, hs, ho, hbef, hat⟩
  · have e : pieces s 47 = [(0, s.size)] := by unfold pieces; rw [pieces_before s.size (fun k h _ => hno k h) (Nat.le_refl _)]; rfl
    refine sparse_all s ByteArray.empty _ (strsOf s (pieces s 47)) 1 w hm (Nat.zero_le _) hlen ?_ (by omega) (by omega) ?_ (.inl ⟨by rw [e]; rfl, rfl⟩) (fun w => l01Split_any s 47 w hm (by omega) (by omega))
    · rw [e, show cutTop s = s from if_neg (by omega)]
      simp [strsOf]
    · rw [botDigits_no (by omega)]; decide
  · have eB : cutBot s = s.extract (o + 1) s.size := by unfold cutBot; rw [if_pos (by omega), hs]; rfl
    have eT : cutTop s = s.extract 0 o := by unfold cutTop; rw [if_pos (by omega), hs]; rfl
    have hbd : botDigits s = cutBot s := botDigits_yes (by omega)
    have sB := cutBot_size s
    refine sparse_all s (cutBot s) _ (strsOf s (pieces s 47)) (decA (botDigits s).data.toList) w hm (by omega) hlen ?_ (decA_le _).2 (decA_le _).1 rfl ?_ (fun w => l01Split_any s 47 w hm (by omega) (by omega))
    · rw [eT]; unfold pieces
      rcases pieces_after ho hbef (hat ho) s.size (by omega) (Nat.le_refl _) with h | ⟨⟨x, xs, h⟩, _⟩
      · rw [h]; rfl
      · rw [h]; rfl
    · rcases pieces_after ho hbef (hat ho) s.size (by omega) (Nat.le_refl _) with h | ⟨⟨x, xs, h⟩, k, hk, hok, hc⟩
      · refine .inr (.inl ⟨by unfold pieces; rw [h]; rfl, ?_, by rw [hbd]⟩)
        unfold pieces; rw [h, eB]; rfl
      · refine .inr (.inr ⟨by unfold pieces; rw [h]; simp, ?_⟩)
        rw [hbd, eB, not_dig hk hc (by omega) hk (Nat.le_refl _)]; omega
end Go.Proofs.Yteaadpdbiakbkab
