/-
  The frame of the statement of FnExactFreeNumbersOf: from a walk of the law's text to the statement. No condition.
-/
import Derived.Test.YtnnihdkhblbdgaaGreatBase
import Derived.Test.YtnnihdkhblbdgaaGreatFacts
import Derived.Test.YtnnihdkhblbdgaaGreatFactsE
import Derived.Test.YtnnihdkhblbdgaaGreatFactsL
namespace Go.Proofs.YtnnihdkhblbdgaaGreat.fnExactFreeNumbersOf
open Go.ChangeShapes Go.WideShapes Go.ChangeAt Go.RowKit
open Go.ChangeMaps (open_string shut_string)
set_option linter.unusedVariables false

theorem own : ownKnob Tryz.prog.godebug = none := by kernel_rfl
theorem laidOut : laidOutB Tryz.prog = true := Facts.k2
theorem k1 : (Rows.fnExactFreeNumbersOfRow.wf (OpenSpec.ofChange Rows.fnExactFreeNumbersOfSpec)) = true := by kernel_rfl
theorem k4 : (Tryz.f4.params.all (Tryz.prog.readableRec ·)) = true := by kernel_rfl
theorem k5 : (namedTie Tryz.prog Rows.fnExactFreeNumbersOfRow.named Rows.fnExactFreeNumbersOfSpec.vars) = true := by kernel_rfl
theorem k6 : ((Rows.fnExactFreeNumbersOfRow.stops == [])) = true := by kernel_rfl
theorem k8 : ((Rows.fnExactFreeNumbersOfRow.knobs == [])) = true := by kernel_rfl
theorem k10 : ((Rows.fnExactFreeNumbersOfRow.inPlace == Tryz.prog.inPlace 4)) = true := by kernel_rfl
theorem k11 : ((Rows.fnExactFreeNumbersOfRow.unfollowed == Tryz.prog.unfollowed 4)) = true := by kernel_rfl
theorem k12 : ((Rows.fnExactFreeNumbersOfRow.recurses == Tryz.prog.recurses 4)) = true := by kernel_rfl
theorem k13 : ((Rows.fnExactFreeNumbersOfRow.named == Tryz.prog.varsNamed 4)) = true := by kernel_rfl
theorem k14 : ((Rows.fnExactFreeNumbersOfRow.maps == (Tryz.f4.params.toList ++ Rows.fnExactFreeNumbersOfSpec.plain.varTypes Tryz.prog).any (Tryz.prog.mapsRec ·))) = true := by kernel_rfl
theorem k15 : ((Rows.fnExactFreeNumbersOfRow.ifaces == (Tryz.f4.params.toList ++ Rows.fnExactFreeNumbersOfSpec.plain.varTypes Tryz.prog).any (Tryz.prog.ifacesRec ·))) = true := by kernel_rfl
theorem k16 : ((Rows.fnExactFreeNumbersOfRow.mapsOut == Tryz.prog.mapsAmong Tryz.f4.resultTypes.toList)) = true := by kernel_rfl
theorem k17 : ((Rows.fnExactFreeNumbersOfRow.loops == (Tryz.f4.params.toList ++ Rows.fnExactFreeNumbersOfSpec.plain.varTypes Tryz.prog).any (Tryz.prog.loopsFrom ·))) = true := by kernel_rfl
theorem k17b : ((Rows.fnExactFreeNumbersOfRow.wideKeys == (Tryz.f4.params.toList ++ Rows.fnExactFreeNumbersOfSpec.plain.varTypes Tryz.prog ++ Tryz.f4.resultTypes.toList).any (Tryz.prog.wideKeysFrom ·))) = true := by kernel_rfl
theorem k18 : (Rows.fnExactFreeNumbersOfSpec.vars.all (Tryz.prog.varReadable ·)) = true := by kernel_rfl
theorem k19 : (Tryz.f4.resultTypes.all (fun t => Tryz.prog.readableRec t && decide (t < Tryz.prog.types.size))) = true := by kernel_rfl
theorem k20 : ((Rows.fnExactFreeNumbersOfRow.ifacesOut == Tryz.f4.resultTypes.toList.any (Tryz.prog.ifacesRec ·))) = true := by kernel_rfl
theorem k21 : ((Rows.fnExactFreeNumbersOfRow.loopsOut == Tryz.f4.resultTypes.toList.any (Tryz.prog.loopsFrom ·))) = true := by kernel_rfl
theorem k22 : ((Rows.fnExactFreeNumbersOfRow.plainKeys == Tryz.prog.plainKeys)) = true := by kernel_rfl
theorem k23 : (Rows.fnExactFreeNumbersOfRow.shortTexts.isNone) = true := by kernel_rfl
theorem k24b : (Rows.fnExactFreeNumbersOfRow.lifted == Tryz.prog.liftsFinal) = true := by
  rw [eq_of_beq Facts.klf]; kernel_rfl
theorem k24c : (Tryz.prog.make == some Rows.fnExactFreeNumbersOfRow.make) = true := by
  rw [eq_of_beq Facts.kmk]; kernel_rfl
theorem k26 : ((Rows.fnExactFreeNumbersOfRow.pinned == Rows.fnExactFreeNumbersOfRow.pinnedBy)) = true := by kernel_rfl
theorem k27 : ((Rows.fnExactFreeNumbersOfRow.veiled == (Tryz.f4.params.toList ++ Rows.fnExactFreeNumbersOfSpec.plain.varTypes Tryz.prog ++ Tryz.f4.resultTypes.toList).any (Tryz.prog.veiledRec ·))) = true := by kernel_rfl
theorem k28 : (Rows.fnExactFreeNumbersOfRow.veiledFits Tryz.prog Tryz.f4.params.toList (Tryz.f4.params.toList ++ Rows.fnExactFreeNumbersOfSpec.plain.varTypes Tryz.prog ++ Tryz.f4.resultTypes.toList)) = true := by kernel_rfl
theorem closed : joinedFacts Tryz.prog 4 Tryz.f4 Rows.fnExactFreeNumbersOfSpec Rows.fnExactFreeNumbersOfRow = true := by
  unfold joinedFacts
  exact (Facts.and_t (Facts.and_t (Facts.and_t (Facts.and_t (Facts.and_t (Facts.and_t (Facts.and_t (Facts.and_t (Facts.and_t (Facts.and_t (Facts.and_t (Facts.and_t (Facts.and_t (Facts.and_t (Facts.and_t (Facts.and_t (Facts.and_t (Facts.and_t (Facts.and_t (Facts.and_t (Facts.and_t (Facts.and_t (Facts.and_t (Facts.and_t (Facts.and_t (Facts.and_t (Facts.and_t (Facts.and_t (Facts.and_t (Facts.and_t (Facts.and_t k1 Facts.k2) Facts.k3) k4) k5) k6) Facts.k7) k8) Facts.k9) k10) k11) k12) k13) k14) k15) k16) k17) k17b) k18) k19) k20) k21) k22) k23) Facts.k23b) Facts.k24) k24b) k24c) (by kernel_rfl)) k26) k27) k28)
def Walk : Prop := ∀ (w : World) (a0 : Option Addr) (len0 cap0 : Nat) (z0 : List Int) (w0 : IsRow .i64 w a0 len0 cap0 z0), Calls Tryz.prog 4 #[.slice a0 len0 cap0] w fun e w' => e = .returned (.bool true) ∧ Below w.heap.size w w'
set_option maxRecDepth 100000 in
theorem lifted (walk : Walk) (os : Os) (started : os.Started) (H : Type) (enc : TypeId × Value → H) :
    ReturnsInHanded {} Tryz.checked os 4 .any (Rows.fnExactFreeNumbersOfSpec.pre6 enc Tryz.prog Tryz.f4 Rows.fnExactFreeNumbersOfRow.domain false) (Rows.fnExactFreeNumbersOfSpec.post enc Tryz.prog Tryz.f4 false true false false) := by
  refine returnsInHanded_of_change (C := Tryz.checked) own started (by kernel_rfl) Tryz.func4
    (ChangeSpec.witness6 (enc := enc) (C := Tryz.checked) false ⟨#[], #[.slice none 0 0], []⟩ 8 (by kernel_rfl) (by kernel_rfl) (by kernel_rfl) (by kernel_rfl)) ?_
  intro W base args ds gs before hval0 hW hcnd _
  have hval : ∀ (j : Nat) t v, Tryz.f4.params[j]? = some t → args[j]? = some v → Value.okWide Tryz.prog W .any base t v := hval0
  have hW' := hW
  obtain ⟨p, q, hA0, hV, rfl, hfz, hnd⟩ := hW
  have hA : DataW.TrodAll enc Tryz.prog W 0 (fun _ => true) true Tryz.f4.params.toList args.toList ds p := hA0
  rw [Tryz.params4] at hA hval
  obtain ⟨v0, vs0, d0, ds0, p0, q0, hargs, rfl, rfl, h0, r0⟩ := trodAll_cons hA
  obtain ⟨rfl, rfl, rfl⟩ := trodAll_nil r0
  obtain rfl : args = #[v0] := by cases args; simp_all
  obtain ⟨rfl, rfl⟩ := trodVars_none hV
  obtain ⟨a0, len0, cap0, rfl⟩ := okWide_slice Tryz.underlying22 (hval 0 22 v0 rfl rfl)
  have k0 := h0
  have lt0 : ∀ x ∈ p0, x.block < W.heap.size := by obtain ⟨m, hm⟩ := k0; exact DataW.trod_lt m _ _ _ hm
  obtain ⟨z0, w0⟩ := isRow_of Tryz.underlying22 Tryz.underlying2 (by kernel_rfl) h0
  clear hA0 hval0
  refine (walk W a0 len0 cap0 z0 w0).mono fun e W' ⟨he, bel⟩ => ?_
  subst he
  exact ⟨_, rfl, _, _, _, [], _, [], hW', trodAll_mk1 (shut_bool Tryz.underlying4 _), (trodAll_cons_mk (Below.trod laidOut (by kernel_rfl) (of_decide_eq_true (by kernel_rfl)) k0 bel lt0) trodAll_mk0), rfl, bel.frame _, fun h => by cases h⟩
theorem of_walk (walk : Walk) : Rows.FnExactFreeNumbersOfSaid :=
  OpenClaim.holds_of_wide 4 Tryz.f4 rfl rfl rfl rfl rfl rfl rfl ⟨rfl, rfl, rfl, rfl, rfl⟩ rfl rfl rfl rfl rfl (by kernel_rfl) Tryz.func4 closed
    (of_decide_eq_true (by kernel_rfl)) (by unfold Func.isWrapper; first | (rw [if_pos (by decide +kernel)]; kernel_rfl) | (rw [if_neg (by decide +kernel)]; exact ⟨rfl, rfl⟩))
    (fun os started H enc _ => lifted walk os started H enc)
end Go.Proofs.YtnnihdkhblbdgaaGreat.fnExactFreeNumbersOf
