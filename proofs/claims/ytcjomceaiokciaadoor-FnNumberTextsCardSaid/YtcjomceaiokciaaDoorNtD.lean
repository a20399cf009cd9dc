/-
  The model's decimals: spec.l01Dec is the numeral that the program's library lays.
-/
import Derived.Test.YtcjomceaiokciaaDoorNtP
import Derived.BigRegion
import Derived.BigQuiet
import Derived.StillTailTactics
import Derived.Deep.RegionLaw
import Derived.Deep.RegionHeld3
import Derived.Lib.Hide
import Derived.Laws.BytesArg
import Derived.Lib.ItoaLen
namespace Go.Proofs.YtcjomceaiokciaaDoor
open Go.RowKit Fld
set_option linter.unusedVariables false
set_option linter.unusedSimpArgs false
set_option maxRecDepth 100000

theorem conv_one (W : World) (b c : Nat) (x : UInt8) (h : W.cell? ⟨b, 0, none⟩ = some (.int .u8 (x.toNat : Int))) :
    (convert 22 9 (.slice (some ⟨b, 0, none⟩) 1 c)).run Tryd.prog W = .ok (.string ⟨#[x]⟩) W := by
  have h := run_convert_bytes_arg (P := Tryd.prog) W 22 5 Tryd.underlying22 Tryd.underlying5 b 0 1 c [(x.toNat : Int)] rfl (fun i hi => by
    obtain rfl : i = 0 := by omega
    exact h) 9 Tryd.underlying9
  rw [h]
  congr 2
  apply ByteArray.ext
  simp [strOfNums]
theorem alloc_lt (V : World) (o : Obj) : V.heap.size < (V.alloc o).heap.size := (Array.getElem?_eq_some_iff.1 (heap_alloc_new V o)).1
theorem cell_new (V : World) (T : TypeId) (x : UInt8) : (V.alloc (.cells #[.int .u8 (x.toNat : Int)] T)).cell? ⟨V.heap.size, 0, none⟩ = some (.int .u8 (x.toNat : Int)) := by
  obtain ⟨b, o, e, _, h9⟩ := Row.new V T [.int .u8 (x.toNat : Int)] 0 _ rfl
  cases e
  exact h9
theorem l01Dec_low (n : Nat) (w : World) (h : n < 10) : Calls Tryd.prog 37 #[.int .i64 (n : Int)] w fun e w' => e = .returned (.string ⟨(Lib.decDigits n).toArray⟩) ∧ Below w.heap.size w w' := by
  have G := Lib.hid (Lib.decDigits_one h)
  go_enter Tryd.func37, Tryd.ntmps37
  obtain ⟨x, hx⟩ : ∃ x : UInt8, x = UInt8.ofNat (48 + n) := ⟨_, rfl⟩
  have hv : (48 + (n : Int)) = (x.toNat : Int) := by rw [hx, UInt8.toNat_ofNat']; omega
  have kc : (convert 22 9 (.slice (some ⟨w.heap.size, 0, none⟩) 1 1)).run Tryd.prog (w.alloc (.cells #[.int .u8 (48 + (n : Int))] 5)) = .ok (.string ⟨#[x]⟩) (w.alloc (.cells #[.int .u8 (48 + (n : Int))] 5)) :=
    conv_one _ _ _ x (by rw [← hv]; obtain ⟨b, o, e, _, h9⟩ := Row.new w 5 [.int .u8 (48 + (n : Int))] 0 _ rfl; cases e; exact h9)
  have G1 := Lib.hid (show (⟨#[x]⟩ : ByteArray) = ⟨(Lib.decDigits n).toArray⟩ by rw [G.out, hx])
  clear G hx hv
  go_wp2
  go_ret
  exact ⟨by rw [← G1.out]; rfl, (Below.refl _ _).alloc (Nat.le_refl _) _⟩
theorem l01Dec_high (n d : Nat) (r : Nat) (P : List UInt8) (w : World) (h : 10 ≤ n) (hn : n ≤ 1000000) (r0 : r < 10) (hd1 : ((n : Int).tdiv 10) = (d : Int)) (hd2 : ((n : Int) / 10) = (d : Int)) (hr1 : ((n : Int).tmod 10) = (r : Int)) (hr2 : ((n : Int) % 10) = (r : Int))
    (lP : P.length ≤ 21) (hrec : ∀ w, Calls Tryd.prog 37 #[.int .i64 (d : Int)] w fun e w' => e = .returned (.string ⟨P.toArray⟩) ∧ Below w.heap.size w w') :
    Calls Tryd.prog 37 #[.int .i64 (n : Int)] w fun e w' => e = .returned (.string ⟨(P ++ [UInt8.ofNat (48 + r)]).toArray⟩) ∧ Below w.heap.size w w' := by
  obtain ⟨x, hx⟩ : ∃ x : UInt8, x = UInt8.ofNat (48 + r) := ⟨_, rfl⟩
  have hv : (48 + (r : Int)) = (x.toNat : Int) := by rw [hx, UInt8.toNat_ofNat']; omega
  rw [← hx]
  have kc0 : ∀ (V : World) (T : TypeId), (convert 22 9 (.slice (some ⟨V.heap.size, 0, none⟩) 1 1)).run Tryd.prog (V.alloc (.cells #[.int .u8 (x.toNat : Int)] T)) = .ok (.string ⟨#[x]⟩) (V.alloc (.cells #[.int .u8 (x.toNat : Int)] T)) := fun V T =>
    conv_one _ _ _ x (cell_new V T x)
  have kc1 : ∀ (V : World) (T : TypeId), (convert 22 9 (.slice (some ⟨V.heap.size, 0, none⟩) 1 1)).run Tryd.prog (V.alloc (.cells #[.int .u8 (x.toNat : Int)] T)).drew = .ok (.string ⟨#[x]⟩) (V.alloc (.cells #[.int .u8 (x.toNat : Int)] T)).drew := fun V T =>
    conv_one _ _ _ x (cell_new V T x)
  have kc8 : ∀ (V : World) (T : TypeId) (U : World), Below (V.alloc (.cells #[.int .u8 (x.toNat : Int)] T)).heap.size (V.alloc (.cells #[.int .u8 (x.toNat : Int)] T)) U → (convert 22 9 (.slice (some ⟨V.heap.size, 0, none⟩) 1 1)).run Tryd.prog U = .ok (.string ⟨#[x]⟩) U := fun V T U hb =>
    conv_one _ _ _ x ((hb.cell (p := ⟨V.heap.size, 0, none⟩) (alloc_lt V _)).trans (cell_new V T x))
  have kc9 : ∀ (V : World) (T : TypeId) (U : World), Below (V.alloc (.cells #[.int .u8 (x.toNat : Int)] T)).drew.heap.size (V.alloc (.cells #[.int .u8 (x.toNat : Int)] T)).drew U → (convert 22 9 (.slice (some ⟨V.heap.size, 0, none⟩) 1 1)).run Tryd.prog U = .ok (.string ⟨#[x]⟩) U := fun V T U hb =>
    kc8 V T U ⟨hb.os, hb.tape, hb.output, hb.size, hb.block⟩
  have hs : ¬ (9223372036854775807 < P.length + 1) := by omega
  have hw1 : IntKind.i64.wrap (d : Int) = (d : Int) := IntWalk.i64_in _ (by omega)
  have hw2 : IntKind.i64.wrap (48 + (r : Int)) = (x.toNat : Int) := (IntWalk.i64_in _ (by omega)).trans hv
  have hw3 : IntKind.u8.wrap (x.toNat : Int) = (x.toNat : Int) := IntWalk.u8_in _ (by omega)
  clear hx hv
  go_enter Tryd.func37, Tryd.ntmps37
  go_wp2_with fail
  clear hd2 hr2
  have p1 : 48 + (r : Int) ≤ 57 := by omega
  have GE : Hid ((⟨P.toArray⟩ : ByteArray) ++ ⟨#[x]⟩ = ⟨(P ++ [x]).toArray⟩) := ByteArray.mk_append_mk P [x]
  go_region_law (first
    | (go_simp; go_at_call 37; refine (hrec _).mono ?_; rintro e w6 ⟨rfl, be6⟩; try (first | have z6 := kc8 _ _ _ be6 | have z6 := kc9 _ _ _ be6)))
  all_goals (clear kc0 kc1 kc8 kc9 hrec; try clear z6)
  all_goals go_wp2
  all_goals go_ret
  all_goals refine ⟨by rw [← GE.out]; rfl, ?_⟩
  all_goals first
    | exact Below.alloc (a := w) ⟨be6.os, be6.tape, be6.output, be6.size, be6.block⟩ be6.size _
    | exact ((Below.refl w.heap.size w).alloc (Nat.le_refl _) _).trans (Below.mono (B := (w.alloc (.cells #[.int .u8 (x.toNat : Int)] 5)).heap.size) ⟨be6.os, be6.tape, be6.output, be6.size, be6.block⟩ (Nat.le_of_lt (alloc_lt w _)))
theorem l01Dec_any (n : Nat) : ∀ (w : World), n ≤ 1000000 → Calls Tryd.prog 37 #[.int .i64 (n : Int)] w fun e w' => e = .returned (.string ⟨(Lib.decDigits n).toArray⟩) ∧ Below w.heap.size w w' := by
  induction n using Nat.strongRecOn with
  | _ n ih =>
    intro w hn
    by_cases h : n < 10
    · exact l01Dec_low n w h
    · have := l01Dec_high n (n / 10) (n % 10) (Lib.decDigits (n / 10)) w (by omega) hn (by omega) (by rw [Int.tdiv_eq_ediv_of_nonneg (by omega)]; omega) (by omega) (by rw [Int.tmod_eq_emod_of_nonneg (by omega)]; omega) (by omega)
        (by rw [Lib.decDigits_length]; have := Lib.nDigits_le20 (n / 10) (by omega); omega) (fun w => ih (n / 10) (by omega) w (by omega))
      rw [show Lib.decDigits n = Lib.decDigits (n / 10) ++ [UInt8.ofNat (48 + n % 10)] by rw [Lib.decDigits, dif_neg h]]
      exact this
/-- the same with a letter for the text -/
theorem l01Dec_at {n : Int} {P : List UInt8} (hP : P = Lib.decDigits n.toNat) (h0 : 0 ≤ n) (h1 : n ≤ 1000000) (w : World) :
    Calls Tryd.prog 37 #[.int .i64 n] w fun e w' => e = .returned (.string ⟨P.toArray⟩) ∧ Below w.heap.size w w' := by
  have := l01Dec_any n.toNat w (by omega)
  rw [show ((n.toNat : Nat) : Int) = n by omega, ← hP] at this
  exact this
theorem dec_len (n : Nat) (h : n ≤ 1000000) : (Lib.decDigits n).length ≤ 20 := by
  rw [Lib.decDigits_length]; exact Lib.nDigits_le20 n (by omega)
end Go.Proofs.YtcjomceaiokciaaDoor
