/-
  The statement FnNumberTexts, as a card: for every code the law returns true: the text of a number is parsed to it, and the number of a fraction times that of its denominator is the number of its numerator. The one condition is the row's own: the tables that its list names hold what the program's text lays there.
-/
import Derived.Test.YtcjomceaiokciaaDoorCards
import Derived.Test.YtcjomceaiokciaaDoorTie
import Derived.Test.YtcjomceaiokciaaDoorNtI
import Derived.Test.YtcjomceaiokciaaDoorNtM
import Derived.Test.YtcjomceaiokciaaDoorNtB
import Derived.Test.YtcjomceaiokciaaDoorDrawQ
import Derived.WalkKit
import Derived.ProofKit
import Derived.OpenShut
import Derived.LaidMore
import Derived.LaidSub
import Derived.Deep.DeepHandedRow
import Derived.Lib.LaidTab
namespace Go.Proofs.YtcjomceaiokciaaDoor.fnNumberTexts
open Go.ChangeShapes Go.WideShapes Go.ChangeAt Go.RowKit Fld
set_option linter.unusedVariables false
set_option maxRecDepth 100000

theorem own : ownKnob Tryd.prog.godebug = none := by kernel_rfl
theorem laidOut : laidOutB Tryd.prog = true := by kernel_rfl
theorem gTab : Tryd.prog.globalNamed "internal/strconv.uint64pow10" = some 1 := by kernel_rfl
theorem gTabType : (Tryd.prog.globals[1]?).map (·.type) = some 69 := by kernel_rfl
theorem cellsT : Tryd.prog.cellsOf 69 = 20 := by kernel_rfl
theorem cellsE : Tryd.prog.cellsOf 51 = 1 := by kernel_rfl
theorem tabEq : (Rows.laid_internal_strconv_uint64pow10 : DataW Unit) = Lib.tabData .u64 Lib.pow10Tab := by kernel_rfl
theorem tabOnly : (Rows.fnNumberTextsRow.laid.filter fun x => x.1 == "internal/strconv.uint64pow10") = [("internal/strconv.uint64pow10", Rows.laid_internal_strconv_uint64pow10)] := by kernel_rfl

/-- the table that the row lists, as the contract of strconv.FormatInt asks for it -/
theorem table {W : World} (h : laidMetH Tryd.prog Rows.fnNumberTextsRow.laid W) : Lib.TabIs Tryd.prog W "internal/strconv.uint64pow10" .u64 Lib.pow10Tab := by
  have h1 := h.filter fun x => x.1 == "internal/strconv.uint64pow10"
  rw [tabOnly, tabEq] at h1
  exact Lib.tabIs_of_head (rest := []) gTab gTabType Tryd.underlying69 Tryd.underlying51 cellsE cellsT h1

theorem frac_law {p q : Int} (h : (fracA p q).2 = 0) : (fracA p q).1 * (q % 10007) % 10007 = p % 10007 := by
  unfold fracA at h ⊢
  split at h
  · rename_i h1
    rw [if_pos h1]
    split at h
    · cases h
    · rename_i h2
      rw [if_neg h2]
      have hq := inv_mul (q % 10007) (by omega) (by omega)
      have h3 : Eqm (p % 10007 * inv (q % 10007) % 10007 * (q % 10007)) (p % 10007) := by
        refine ((Eqm.mod _).mul (Eqm.refl _)).trans ?_
        rw [Int.mul_assoc]
        exact ((Eqm.refl _).mul hq).trans (Eqm.of_eq (Int.mul_one _))
      show p % 10007 * inv (q % 10007) % 10007 * (q % 10007) % 10007 = p % 10007
      have := h3.emod
      omega
  · cases h
theorem fracA_bd (p q : Int) : 0 ≤ (fracA p q).1 ∧ (fracA p q).1 < 10007 := by
  unfold fracA
  split
  · split
    · exact ⟨by decide, by decide⟩
    · exact ⟨Int.emod_nonneg _ (by omega), Int.emod_lt_of_pos _ (by omega)⟩
  · exact ⟨by decide, by decide⟩
set_option maxHeartbeats 2000000 in
theorem walk (w : World) (a0 : Option Addr) (len0 cap0 : Nat) (z0 : List Int) (w0 : IsRow .u8 w a0 len0 cap0 z0) (ht : Lib.TabIs Tryd.prog w "internal/strconv.uint64pow10" .u64 Lib.pow10Tab) :
    Calls Tryd.prog 3 #[.slice a0 len0 cap0] w fun e w' => e = .returned (.bool true) ∧ Below w.heap.size w w' := by
  have HT : Hid (Tens w.heap.size w) := Lib.hid (Lib.tabBelow_of_tabIs ht)
  have hcode := isCode_of w0
  have hcm := w0.2.2.1
  have hlc := w0.2.1
  unfold maxLen at hcm
  have HX := Lib.hid hcode
  clear hcode w0 ht
  by_cases hn : len0 ≤ 4096
  · have t0 : decide ((4096 : Int) < len0) = false := decide_eq_false (by omega)
    go_enter Tryd.func3, Tryd.ntmps3
    go_wp2_with fail
    refine (big_any _ _ _ _ (by omega)).mono ?_
    rintro e w' ⟨rfl, rfl⟩
    go_wp2_with fail
    refine (drawNumberText_any _ _ _ _ _ hn HX.out).mono ?_
    rintro e u1 ⟨a, rfl, ha, b1⟩
    have HB1 := Lib.hid b1
    have hz1 := b1.size
    have CS := sNumberText_any a
    have CP := pNumberText_any a
    have hback : isNum a = true → parseA ⟨(numTx a).1.toArray⟩ = (a, 0) ∧ (⟨(numTx a).1.toArray⟩ : ByteArray).size ≤ 1048576 ∧ (numTx a).2 = 0 := fun hh => by
      obtain ⟨q0, q1⟩ := isNum_iff.1 hh
      have e : numTx a = (numA a, 0) := if_pos hh
      rw [e]
      refine ⟨num_back q0 q1, ?_, rfl⟩
      show (numA a).length ≤ 1048576
      have := numA_size a q0 q1
      omega
    have hno : isNum a = false → (numTx a).2 = 2 := fun hh => by
      have e : numTx a = ([], 2) := if_neg (by rw [hh]; simp)
      rw [e]
    obtain ⟨N, hN⟩ : ∃ N, N = numTx a := ⟨_, rfl⟩
    rw [← hN] at CS CP hback hno
    clear hN
    obtain ⟨t, k⟩ := N
    obtain ⟨X, hX⟩ : ∃ X : ByteArray, X = ⟨t.toArray⟩ := ⟨_, rfl⟩
    simp only [← hX] at CS CP hback hno
    clear hX b1
    go_wp2_with fail
    refine (CP w.heap.size _ (HT.out.next HB1.out) hz1).mono ?_
    rintro e u2 ⟨rfl, b2⟩
    have HB2 := Lib.hid (HB1.out.trans b2)
    have hz2 : u1.heap.size ≤ u2.heap.size := b2.size
    clear CP b2
    go_wp2_with fail
    refine (CS u2).mono ?_
    rintro e u3 ⟨rfl, b3⟩
    have HB3 := Lib.hid (HB2.out.trans (b3.mono (by omega)))
    clear CS b3
    cases hnum : isNum a
    · obtain rfl : k = 2 := hno hnum
      clear hback hno hnum
      have HBT := HB3
      go_wp2_with fail
      refine (drawNumberOf_any _ _ _ _ _ hn (HX.out.below HBT.out)).mono ?_
      rintro e u4 ⟨p, q, rfl, hp, hq, b4⟩
      have HB4 := Lib.hid (HBT.out.trans (b4.mono HBT.out.size))
      have CN := numberOf_any p q
      have CM := sNumberOf_any p q
      have hfl := frac_law (p := p) (q := q)
      obtain ⟨f0, f1⟩ := fracA_bd p q
      obtain ⟨N, hN⟩ : ∃ N, N = fracA p q := ⟨_, rfl⟩
      rw [← hN] at CN CM hfl f0 f1
      clear hN b4
      obtain ⟨v, k2⟩ := N
      obtain ⟨m0, m1⟩ := mul_bd f0 f1 (Int.emod_nonneg q (by omega)) (Int.emod_lt_of_pos q (by omega))
      by_cases hk : k2 = 0
      · have hl : Hid (v * (q % 10007) % 10007 = p % 10007) := hfl hk
        subst hk
        clear hfl
        have hw : IntKind.i64.wrap (v * (q % 10007)) = v * (q % 10007) := by
          have h1 := m0
          have h2 := m1
          generalize v * (q % 10007) = z at h1 h2 ⊢
          exact IntWalk.i64_in z (by omega)
        have te := beq_t hl.out
        go_wp2_with (first
          | (go_at_call 11; refine (CN _).mono ?_; rintro e u5 ⟨rfl, rfl⟩)
          | (go_at_call 12; refine (CM _).mono ?_; rintro e u5 ⟨rfl, rfl⟩)
          | (go_at_call 13; refine (mod5_any _ _).mono ?_; rintro e u5 ⟨rfl, rfl⟩))
        go_ret
        exact ⟨rfl, HB4.out⟩
      · have tk := bne_t hk
        clear hfl hk
        go_wp2_with (first
          | (go_at_call 11; refine (CN _).mono ?_; rintro e u5 ⟨rfl, rfl⟩)
          | (go_at_call 12; refine (CM _).mono ?_; rintro e u5 ⟨rfl, rfl⟩)
          | (go_at_call 13; refine (mod5_any _ _).mono ?_; rintro e u5 ⟨rfl, rfl⟩))
        go_ret
        exact ⟨rfl, HB4.out⟩
    · obtain ⟨h1, h2, h3⟩ := hback hnum
      obtain rfl : k = 0 := h3
      clear hback hno
      have C5 := parseNumber_any X u3 h2
      rw [h1] at C5
      clear h1 h2
      go_wp2_with fail
      refine C5.mono ?_
      rintro e u9 ⟨rfl, b9⟩
      have HBT := Lib.hid (HB3.out.trans (b9.mono HB3.out.size))
      clear C5 b9
      go_wp2_with fail
      refine (drawNumberOf_any _ _ _ _ _ hn (HX.out.below HBT.out)).mono ?_
      rintro e u4 ⟨p, q, rfl, hp, hq, b4⟩
      have HB4 := Lib.hid (HBT.out.trans (b4.mono HBT.out.size))
      have CN := numberOf_any p q
      have CM := sNumberOf_any p q
      have hfl := frac_law (p := p) (q := q)
      obtain ⟨f0, f1⟩ := fracA_bd p q
      obtain ⟨N, hN⟩ : ∃ N, N = fracA p q := ⟨_, rfl⟩
      rw [← hN] at CN CM hfl f0 f1
      clear hN b4
      obtain ⟨v, k2⟩ := N
      obtain ⟨m0, m1⟩ := mul_bd f0 f1 (Int.emod_nonneg q (by omega)) (Int.emod_lt_of_pos q (by omega))
      by_cases hk : k2 = 0
      · have hl : Hid (v * (q % 10007) % 10007 = p % 10007) := hfl hk
        subst hk
        clear hfl
        have hw : IntKind.i64.wrap (v * (q % 10007)) = v * (q % 10007) := by
          have h1 := m0
          have h2 := m1
          generalize v * (q % 10007) = z at h1 h2 ⊢
          exact IntWalk.i64_in z (by omega)
        have te := beq_t hl.out
        go_wp2_with (first
          | (go_at_call 11; refine (CN _).mono ?_; rintro e u5 ⟨rfl, rfl⟩)
          | (go_at_call 12; refine (CM _).mono ?_; rintro e u5 ⟨rfl, rfl⟩)
          | (go_at_call 13; refine (mod5_any _ _).mono ?_; rintro e u5 ⟨rfl, rfl⟩))
        go_ret
        exact ⟨rfl, HB4.out⟩
      · have tk := bne_t hk
        clear hfl hk
        go_wp2_with (first
          | (go_at_call 11; refine (CN _).mono ?_; rintro e u5 ⟨rfl, rfl⟩)
          | (go_at_call 12; refine (CM _).mono ?_; rintro e u5 ⟨rfl, rfl⟩)
          | (go_at_call 13; refine (mod5_any _ _).mono ?_; rintro e u5 ⟨rfl, rfl⟩))
        go_ret
        exact ⟨rfl, HB4.out⟩
  · have t0 : decide ((4096 : Int) < len0) = true := decide_eq_true (by omega)
    go_enter Tryd.func3, Tryd.ntmps3
    go_wp2_with fail
    refine (big_any _ _ _ _ (by omega)).mono ?_
    rintro e w' ⟨rfl, rfl⟩
    go_wp2
    go_ret
    exact ⟨rfl, Below.refl _ _⟩

/-- what the walk gives, for every argument and every world that holds the tables -/
theorem contract (H : Type) (enc : TypeId × Value → H) (W : World) (base : Nat) (args : Array Value) (ds gs : List (DataW H)) (before : List MemPlace)
    (hval : ∀ (j : Nat) t v, Tryd.f3.params[j]? = some t → args[j]? = some v → Value.okWide Tryd.prog W .any base t v)
    (hW : DataW.Whole enc Tryd.prog Tryd.f3.params.toList Rows.fnNumberTextsSpec.vars false W args.toList ds gs before) (hL : laidMetH Tryd.prog Rows.fnNumberTextsRow.laid W) :
    Calls Tryd.prog 3 args W fun e W' => ∃ v, e = .returned v ∧ Rows.fnNumberTextsSpec.post enc Tryd.prog Tryd.f3 false true false false W args v W' := by
  have hW' := hW
  obtain ⟨p, q, hA0, hV, rfl, hfz, hnd⟩ := hW
  have hA : DataW.TrodAll enc Tryd.prog W 0 (fun _ => true) true Tryd.f3.params.toList args.toList ds p := hA0
  rw [Tryd.params3] at hA hval
  obtain ⟨v0, vs0, d0, ds0, p0, q0, hargs, rfl, rfl, h0, r0⟩ := trodAll_cons hA
  obtain ⟨rfl, rfl, rfl⟩ := trodAll_nil r0
  obtain rfl : args = #[v0] := by cases args; simp_all
  obtain ⟨rfl, rfl⟩ := trodVars_none hV
  obtain ⟨a0, len0, cap0, rfl⟩ := okWide_slice Tryd.underlying22 (hval 0 22 v0 rfl rfl)
  have k0 := h0
  have lt0 : ∀ x ∈ p0, x.block < W.heap.size := by obtain ⟨m, hm⟩ := k0; exact DataW.trod_lt m _ _ _ hm
  obtain ⟨z0, w0⟩ := isRow_of Tryd.underlying22 Tryd.underlying5 (by kernel_rfl) h0
  clear hA0
  refine (walk W a0 len0 cap0 z0 w0 (table hL)).mono fun e W' ⟨he, bel⟩ => ?_
  subst he
  exact ⟨_, rfl, _, _, _, [], _, [], hW', trodAll_mk1 (shut_bool Tryd.underlying4 _), trodAll_cons_mk (Below.trod laidOut (by kernel_rfl) (of_decide_eq_true (by kernel_rfl)) k0 bel lt0) trodAll_mk0, rfl, bel.frame _, fun h => by cases h⟩

theorem laid_met (os : Os) (args : Array Value) : laidMetH Tryd.prog Rows.fnNumberTextsRow.laid ((World.doorLaid Tryd.prog 400 os).forCall (fun _ _ => 0) ⟨#[], args, []⟩).memory :=
  laidMetH_of_parts3 (fuel := 8) (laidMet_of_run' 8 (by kernel_rfl) (by kernel_rfl)) (by kernel_rfl) (by kernel_rfl)
theorem reads (os : Os) {H : Type} (enc : TypeId × Value → H) : ∃ places, DataW.whole enc Tryd.prog ((World.doorLaid Tryd.prog 400 os).forCall (fun _ _ => 0) ⟨#[], #[.slice none 0 0], []⟩).memory Tryd.f3.params.toList Rows.fnNumberTextsSpec.vars false #[Value.slice none 0 0].toList 8 = some ([.nil], [], places) :=
  ⟨[], by kernel_rfl⟩

theorem lifted (os : Os) (started : os.Started) (H : Type) (enc : TypeId × Value → H) (F : Stop.Interp) :
    ReturnsInHanded {} Tryd.checked os 3 .any ((OpenSpec.ofChange Rows.fnNumberTextsSpec).preRow enc Tryd.prog Tryd.f3 Rows.fnNumberTextsRow.domain false Rows.fnNumberTextsRow.laid) (((OpenSpec.ofChange Rows.fnNumberTextsSpec).at F).post enc Tryd.prog Tryd.f3 false true false false) := by
  obtain ⟨places, hx⟩ := reads os enc
  refine returnsInHanded_of_row (C := Tryd.checked) (s := OpenSpec.ofChange Rows.fnNumberTextsSpec) own started (by kernel_rfl) Tryd.func3
    (witness_row_at (enc := enc) (C := Tryd.checked) false (World.doorLaid Tryd.prog 400 os) #[.slice none 0 0] rfl (by kernel_rfl) (by kernel_rfl) (by kernel_rfl)
      (OpenSpec.preRow_of_cond 8 hx (by kernel_rfl) (fun k hk => by cases hk) (by kernel_rfl) (laid_met os _))) ?_
  intro W base args ds gs before hval hW _ _ _ hL _ _
  exact contract H enc W base args ds gs before hval hW hL

theorem said : Rows.FnNumberTextsSaid :=
  OpenClaim.holds_of_cond 3 Tryd.f3 rfl rfl rfl rfl rfl rfl rfl ⟨rfl, rfl, rfl, rfl, rfl⟩ rfl rfl rfl rfl rfl (by kernel_rfl) Tryd.func3 (by kernel_rfl)
    (of_decide_eq_true (by kernel_rfl)) (by unfold Func.isWrapper; first | (rw [if_pos (by decide +kernel)]; kernel_rfl) | (rw [if_neg (by decide +kernel)]; exact ⟨rfl, rfl⟩))
    (fun os started H enc _ F => by rw [OpenClaim.pre_eq_preRow]; exact lifted os started H enc F)

theorem plain (f : FuncId) (fn : Func) (hf : Tryd.pinned.checked.prog.funcNamed "loop.example/g01100/laws.FnNumberTexts" = some f) (hfn : Tryd.pinned.checked.prog.funcs[f]? = some fn) :
    false = Tryd.pinned.checked.prog.looks [] ∧ ∀ (j : Nat) t, fn.params[j]? = some t → Tryd.pinned.checked.prog.wantsStandIn t = false := by
  obtain rfl : f = 3 := Option.some.inj ((show Tryd.prog.funcNamed "loop.example/g01100/laws.FnNumberTexts" = some 3 by kernel_rfl).symm.trans hf) |>.symm
  obtain rfl : fn = Tryd.f3 := (Option.some.inj (Tryd.func3.symm.trans hfn)).symm
  refine ⟨by kernel_rfl, fun j t ht => ?_⟩
  rw [Tryd.params3] at ht
  obtain rfl : t = 22 := by simpa using Array.mem_of_getElem? ht
  exact (show Tryd.prog.wantsStandIn 22 = false by kernel_rfl)

/-- the card -/
theorem card : Rows.FnNumberTextsCardSaid :=
  Claim7.holds_tied_plain_at .later [] _ _ _ _ said (fun _ h => by cases h) (by kernel_rfl) (fun _ h => by cases h) fnNumberTexts_row_tie rfl ⟨rfl, rfl⟩ (by kernel_rfl) rfl plain (by kernel_rfl)
end Go.Proofs.YtcjomceaiokciaaDoor.fnNumberTexts
