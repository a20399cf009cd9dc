/-
  The frame of the statement of FnExactFreeConditions: from a walk of the law's text to the statement. No condition.
-/
import Derived.Test.YtnnihdkhblbdgaaBase
import Derived.Test.YtnnihdkhblbdgaaFacts
import Derived.Test.YtnnihdkhblbdgaaFactsE
import Derived.Test.YtnnihdkhblbdgaaFactsL
namespace Go.Proofs.Ytnnihdkhblbdgaa.fnExactFreeConditions
open Go.ChangeShapes Go.WideShapes Go.ChangeAt Go.RowKit
open Go.ChangeMaps (open_string shut_string)
set_option linter.unusedVariables false

theorem own : ownKnob Try.prog.godebug = none := by kernel_rfl
theorem laidOut : laidOutB Try.prog = true := Facts.k2
theorem k1 : (Rows.fnExactFreeConditionsRow.wf (OpenSpec.ofChange Rows.fnExactFreeConditionsSpec)) = true := by kernel_rfl
theorem k4 : (Try.f8.params.all (Try.prog.readableRec ·)) = true := by kernel_rfl
theorem k5 : (namedTie Try.prog Rows.fnExactFreeConditionsRow.named Rows.fnExactFreeConditionsSpec.vars) = true := by kernel_rfl
theorem k6 : ((Rows.fnExactFreeConditionsRow.stops == [])) = true := by kernel_rfl
theorem k8 : ((Rows.fnExactFreeConditionsRow.knobs == [])) = true := by kernel_rfl
theorem k10 : ((Rows.fnExactFreeConditionsRow.inPlace == Try.prog.inPlace 8)) = true := by kernel_rfl
theorem k11 : ((Rows.fnExactFreeConditionsRow.unfollowed == Try.prog.unfollowed 8)) = true := by kernel_rfl
theorem k12 : ((Rows.fnExactFreeConditionsRow.recurses == Try.prog.recurses 8)) = true := by kernel_rfl
theorem k13 : ((Rows.fnExactFreeConditionsRow.named == Try.prog.varsNamed 8)) = true := by kernel_rfl
theorem k14 : ((Rows.fnExactFreeConditionsRow.maps == (Try.f8.params.toList ++ Rows.fnExactFreeConditionsSpec.plain.varTypes Try.prog).any (Try.prog.mapsRec ·))) = true := by kernel_rfl
theorem k15 : ((Rows.fnExactFreeConditionsRow.ifaces == (Try.f8.params.toList ++ Rows.fnExactFreeConditionsSpec.plain.varTypes Try.prog).any (Try.prog.ifacesRec ·))) = true := by kernel_rfl
theorem k16 : ((Rows.fnExactFreeConditionsRow.mapsOut == Try.prog.mapsAmong Try.f8.resultTypes.toList)) = true := by kernel_rfl
theorem k17 : ((Rows.fnExactFreeConditionsRow.loops == (Try.f8.params.toList ++ Rows.fnExactFreeConditionsSpec.plain.varTypes Try.prog).any (Try.prog.loopsFrom ·))) = true := by kernel_rfl
theorem k17b : ((Rows.fnExactFreeConditionsRow.wideKeys == (Try.f8.params.toList ++ Rows.fnExactFreeConditionsSpec.plain.varTypes Try.prog ++ Try.f8.resultTypes.toList).any (Try.prog.wideKeysFrom ·))) = true := by kernel_rfl
theorem k18 : (Rows.fnExactFreeConditionsSpec.vars.all (Try.prog.varReadable ·)) = true := by kernel_rfl
theorem k19 : (Try.f8.resultTypes.all (fun t => Try.prog.readableRec t && decide (t < Try.prog.types.size))) = true := by kernel_rfl
theorem k20 : ((Rows.fnExactFreeConditionsRow.ifacesOut == Try.f8.resultTypes.toList.any (Try.prog.ifacesRec ·))) = true := by kernel_rfl
theorem k21 : ((Rows.fnExactFreeConditionsRow.loopsOut == Try.f8.resultTypes.toList.any (Try.prog.loopsFrom ·))) = true := by kernel_rfl
theorem k22 : ((Rows.fnExactFreeConditionsRow.plainKeys == Try.prog.plainKeys)) = true := by kernel_rfl
theorem k23 : (Rows.fnExactFreeConditionsRow.shortTexts.isNone) = true := by kernel_rfl
theorem k24b : (Rows.fnExactFreeConditionsRow.lifted == Try.prog.liftsFinal) = true := by
  rw [eq_of_beq Facts.klf]; kernel_rfl
theorem k24c : (Try.prog.make == some Rows.fnExactFreeConditionsRow.make) = true := by
  rw [eq_of_beq Facts.kmk]; kernel_rfl
theorem k26 : ((Rows.fnExactFreeConditionsRow.pinned == Rows.fnExactFreeConditionsRow.pinnedBy)) = true := by kernel_rfl
theorem k27 : ((Rows.fnExactFreeConditionsRow.veiled == (Try.f8.params.toList ++ Rows.fnExactFreeConditionsSpec.plain.varTypes Try.prog ++ Try.f8.resultTypes.toList).any (Try.prog.veiledRec ·))) = true := by kernel_rfl
theorem k28 : (Rows.fnExactFreeConditionsRow.veiledFits Try.prog Try.f8.params.toList (Try.f8.params.toList ++ Rows.fnExactFreeConditionsSpec.plain.varTypes Try.prog ++ Try.f8.resultTypes.toList)) = true := by kernel_rfl
theorem closed : joinedFacts Try.prog 8 Try.f8 Rows.fnExactFreeConditionsSpec Rows.fnExactFreeConditionsRow = true := by
  unfold joinedFacts
  exact (Facts.and_t (Facts.and_t (Facts.and_t (Facts.and_t (Facts.and_t (Facts.and_t (Facts.and_t (Facts.and_t (Facts.and_t (Facts.and_t (Facts.and_t (Facts.and_t (Facts.and_t (Facts.and_t (Facts.and_t (Facts.and_t (Facts.and_t (Facts.and_t (Facts.and_t (Facts.and_t (Facts.and_t (Facts.and_t (Facts.and_t (Facts.and_t (Facts.and_t (Facts.and_t (Facts.and_t (Facts.and_t (Facts.and_t (Facts.and_t (Facts.and_t k1 Facts.k2) Facts.k3) k4) k5) k6) Facts.k7) k8) Facts.k9) k10) k11) k12) k13) k14) k15) k16) k17) k17b) k18) k19) k20) k21) k22) k23) Facts.k23b) Facts.k24) k24b) k24c) (by kernel_rfl)) k26) k27) k28)
def Walk : Prop := ∀ (w : World) (a0 : Int) (w0 : (Lit.int .i64 a0).wf = true), Calls Try.prog 8 #[.int .i64 a0] w fun e w' => e = .returned (.bool true) ∧ Below w.heap.size w w'
set_option maxRecDepth 100000 in
theorem lifted (walk : Walk) (os : Os) (started : os.Started) (H : Type) (enc : TypeId × Value → H) :
    ReturnsInHanded {} Try.checked os 8 .any (Rows.fnExactFreeConditionsSpec.pre6 enc Try.prog Try.f8 Rows.fnExactFreeConditionsRow.domain false) (Rows.fnExactFreeConditionsSpec.post enc Try.prog Try.f8 false true false false) := by
  refine returnsInHanded_of_change (C := Try.checked) own started (by kernel_rfl) Try.func8
    (ChangeSpec.witness6 (enc := enc) (C := Try.checked) false ⟨#[], #[.int .i64 0], []⟩ 8 (by kernel_rfl) (by kernel_rfl) (by kernel_rfl) (by kernel_rfl)) ?_
  intro W base args ds gs before hval0 hW hcnd _
  have hval : ∀ (j : Nat) t v, Try.f8.params[j]? = some t → args[j]? = some v → Value.okWide Try.prog W .any base t v := hval0
  have hW' := hW
  obtain ⟨p, q, hA0, hV, rfl, hfz, hnd⟩ := hW
  have hA : DataW.TrodAll enc Try.prog W 0 (fun _ => true) true Try.f8.params.toList args.toList ds p := hA0
  rw [Try.params8] at hA hval
  obtain ⟨v0, vs0, d0, ds0, p0, q0, hargs, rfl, rfl, h0, r0⟩ := trodAll_cons hA
  obtain ⟨rfl, rfl, rfl⟩ := trodAll_nil r0
  obtain rfl : args = #[v0] := by cases args; simp_all
  obtain ⟨rfl, rfl⟩ := trodVars_none hV
  obtain ⟨a0, rfl, rfl, rfl, w0⟩ := open_int Try.underlying2 (hval 0 2 v0 rfl rfl) h0
  clear hA0 hval0
  refine (walk W a0 w0).mono fun e W' ⟨he, bel⟩ => ?_
  subst he
  exact ⟨_, rfl, _, _, _, [], _, [], hW', trodAll_mk1 (shut_bool Try.underlying4 _), (trodAll_cons_mk (shut_int Try.underlying2 w0) trodAll_mk0), rfl, bel.frame _, fun h => by cases h⟩
theorem of_walk (walk : Walk) : Rows.FnExactFreeConditionsSaid :=
  OpenClaim.holds_of_wide 8 Try.f8 rfl rfl rfl rfl rfl rfl rfl ⟨rfl, rfl, rfl, rfl, rfl⟩ rfl rfl rfl rfl rfl (by kernel_rfl) Try.func8 closed
    (of_decide_eq_true (by kernel_rfl)) (by unfold Func.isWrapper; first | (rw [if_pos (by decide +kernel)]; kernel_rfl) | (rw [if_neg (by decide +kernel)]; exact ⟨rfl, rfl⟩))
    (fun os started H enc _ => lifted walk os started H enc)
end Go.Proofs.Ytnnihdkhblbdgaa.fnExactFreeConditions
