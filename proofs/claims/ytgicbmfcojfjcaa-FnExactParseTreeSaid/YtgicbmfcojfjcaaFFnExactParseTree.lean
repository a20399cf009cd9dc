/-
  The frame of the statement of FnExactParseTree: from a walk of the law's text to the statement. No condition.
-/
import Derived.Test.YtgicbmfcojfjcaaBase
import Derived.Test.YtgicbmfcojfjcaaFacts
import Derived.Test.YtgicbmfcojfjcaaFactsE
import Derived.Test.YtgicbmfcojfjcaaFactsL
namespace Go.Proofs.Ytgicbmfcojfjcaa.fnExactParseTree
open Go.ChangeShapes Go.WideShapes Go.ChangeAt Go.RowKit
open Go.ChangeMaps (open_string shut_string)
set_option linter.unusedVariables false

theorem own : ownKnob Try.prog.godebug = none := by kernel_rfl
theorem laidOut : laidOutB Try.prog = true := Facts.k2
theorem k1 : (Rows.fnExactParseTreeRow.wf (OpenSpec.ofChange Rows.fnExactParseTreeSpec)) = true := by kernel_rfl
theorem k4 : (Try.f5.params.all (Try.prog.readableRec ·)) = true := by kernel_rfl
theorem k5 : (namedTie Try.prog Rows.fnExactParseTreeRow.named Rows.fnExactParseTreeSpec.vars) = true := by kernel_rfl
theorem k6 : ((Rows.fnExactParseTreeRow.stops == [])) = true := by kernel_rfl
theorem k8 : ((Rows.fnExactParseTreeRow.knobs == [])) = true := by kernel_rfl
theorem k10 : ((Rows.fnExactParseTreeRow.inPlace == Try.prog.inPlace 5)) = true := by kernel_rfl
theorem k11 : ((Rows.fnExactParseTreeRow.unfollowed == Try.prog.unfollowed 5)) = true := by kernel_rfl
theorem k12 : ((Rows.fnExactParseTreeRow.recurses == Try.prog.recurses 5)) = true := by kernel_rfl
theorem k13 : ((Rows.fnExactParseTreeRow.named == Try.prog.varsNamed 5)) = true := by kernel_rfl
theorem k14 : ((Rows.fnExactParseTreeRow.maps == (Try.f5.params.toList ++ Rows.fnExactParseTreeSpec.plain.varTypes Try.prog).any (Try.prog.mapsRec ·))) = true := by kernel_rfl
theorem k15 : ((Rows.fnExactParseTreeRow.ifaces == (Try.f5.params.toList ++ Rows.fnExactParseTreeSpec.plain.varTypes Try.prog).any (Try.prog.ifacesRec ·))) = true := by kernel_rfl
theorem k16 : ((Rows.fnExactParseTreeRow.mapsOut == Try.prog.mapsAmong Try.f5.resultTypes.toList)) = true := by kernel_rfl
theorem k17 : ((Rows.fnExactParseTreeRow.loops == (Try.f5.params.toList ++ Rows.fnExactParseTreeSpec.plain.varTypes Try.prog).any (Try.prog.loopsFrom ·))) = true := by kernel_rfl
theorem k17b : ((Rows.fnExactParseTreeRow.wideKeys == (Try.f5.params.toList ++ Rows.fnExactParseTreeSpec.plain.varTypes Try.prog ++ Try.f5.resultTypes.toList).any (Try.prog.wideKeysFrom ·))) = true := by kernel_rfl
theorem k18 : (Rows.fnExactParseTreeSpec.vars.all (Try.prog.varReadable ·)) = true := by kernel_rfl
theorem k19 : (Try.f5.resultTypes.all (fun t => Try.prog.readableRec t && decide (t < Try.prog.types.size))) = true := by kernel_rfl
theorem k20 : ((Rows.fnExactParseTreeRow.ifacesOut == Try.f5.resultTypes.toList.any (Try.prog.ifacesRec ·))) = true := by kernel_rfl
theorem k21 : ((Rows.fnExactParseTreeRow.loopsOut == Try.f5.resultTypes.toList.any (Try.prog.loopsFrom ·))) = true := by kernel_rfl
theorem k22 : ((Rows.fnExactParseTreeRow.plainKeys == Try.prog.plainKeys)) = true := by kernel_rfl
theorem k23 : (Rows.fnExactParseTreeRow.shortTexts.isNone) = true := by kernel_rfl
theorem k24b : (Rows.fnExactParseTreeRow.lifted == Try.prog.liftsFinal) = true := by
  rw [eq_of_beq Facts.klf]; kernel_rfl
theorem k24c : (Try.prog.make == some Rows.fnExactParseTreeRow.make) = true := by
  rw [eq_of_beq Facts.kmk]; kernel_rfl
theorem k26 : ((Rows.fnExactParseTreeRow.pinned == Rows.fnExactParseTreeRow.pinnedBy)) = true := by kernel_rfl
theorem k27 : ((Rows.fnExactParseTreeRow.veiled == (Try.f5.params.toList ++ Rows.fnExactParseTreeSpec.plain.varTypes Try.prog ++ Try.f5.resultTypes.toList).any (Try.prog.veiledRec ·))) = true := by kernel_rfl
theorem k28 : (Rows.fnExactParseTreeRow.veiledFits Try.prog Try.f5.params.toList (Try.f5.params.toList ++ Rows.fnExactParseTreeSpec.plain.varTypes Try.prog ++ Try.f5.resultTypes.toList)) = true := by kernel_rfl
theorem closed : joinedFacts Try.prog 5 Try.f5 Rows.fnExactParseTreeSpec Rows.fnExactParseTreeRow = true := by
  unfold joinedFacts
  exact (Facts.and_t (Facts.and_t (Facts.and_t (Facts.and_t (Facts.and_t (Facts.and_t (Facts.and_t (Facts.and_t (Facts.and_t (Facts.and_t (Facts.and_t (Facts.and_t (Facts.and_t (Facts.and_t (Facts.and_t (Facts.and_t (Facts.and_t (Facts.and_t (Facts.and_t (Facts.and_t (Facts.and_t (Facts.and_t (Facts.and_t (Facts.and_t (Facts.and_t (Facts.and_t (Facts.and_t (Facts.and_t (Facts.and_t (Facts.and_t (Facts.and_t k1 Facts.k2) Facts.k3) k4) k5) k6) Facts.k7) k8) Facts.k9) k10) k11) k12) k13) k14) k15) k16) k17) k17b) k18) k19) k20) k21) k22) k23) Facts.k23b) Facts.k24) k24b) k24c) (by kernel_rfl)) k26) k27) k28)
def Walk : Prop := ∀ (w : World) (a0 : ByteArray) (w0 : a0.size ≤ maxLen), Calls Try.prog 5 #[.string a0] w fun e w' => e = .returned (.bool true) ∧ Below w.heap.size w w'
set_option maxRecDepth 100000 in
theorem lifted (walk : Walk) (os : Os) (started : os.Started) (H : Type) (enc : TypeId × Value → H) :
    ReturnsInHanded {} Try.checked os 5 .any (Rows.fnExactParseTreeSpec.pre6 enc Try.prog Try.f5 Rows.fnExactParseTreeRow.domain false) (Rows.fnExactParseTreeSpec.post enc Try.prog Try.f5 false true false false) := by
  refine returnsInHanded_of_change (C := Try.checked) own started (by kernel_rfl) Try.func5
    (ChangeSpec.witness6 (enc := enc) (C := Try.checked) false ⟨#[], #[.string ByteArray.empty], []⟩ 8 (by kernel_rfl) (by kernel_rfl) (by kernel_rfl) (by kernel_rfl)) ?_
  intro W base args ds gs before hval0 hW hcnd _
  have hval : ∀ (j : Nat) t v, Try.f5.params[j]? = some t → args[j]? = some v → Value.okWide Try.prog W .any base t v := hval0
  have hW' := hW
  obtain ⟨p, q, hA0, hV, rfl, hfz, hnd⟩ := hW
  have hA : DataW.TrodAll enc Try.prog W 0 (fun _ => true) true Try.f5.params.toList args.toList ds p := hA0
  rw [Try.params5] at hA hval
  obtain ⟨v0, vs0, d0, ds0, p0, q0, hargs, rfl, rfl, h0, r0⟩ := trodAll_cons hA
  obtain ⟨rfl, rfl, rfl⟩ := trodAll_nil r0
  obtain rfl : args = #[v0] := by cases args; simp_all
  obtain ⟨rfl, rfl⟩ := trodVars_none hV
  obtain ⟨a0, rfl, rfl, rfl, w0⟩ := open_string Try.underlying9 (hval 0 9 v0 rfl rfl) h0
  clear hA0 hval0
  refine (walk W a0 w0).mono fun e W' ⟨he, bel⟩ => ?_
  subst he
  exact ⟨_, rfl, _, _, _, [], _, [], hW', trodAll_mk1 (shut_bool Try.underlying4 _), (trodAll_cons_mk (shut_string Try.underlying9 w0) trodAll_mk0), rfl, bel.frame _, fun h => by cases h⟩
theorem of_walk (walk : Walk) : Rows.FnExactParseTreeSaid :=
  OpenClaim.holds_of_wide 5 Try.f5 rfl rfl rfl rfl rfl rfl rfl ⟨rfl, rfl, rfl, rfl, rfl⟩ rfl rfl rfl rfl rfl (by kernel_rfl) Try.func5 closed
    (of_decide_eq_true (by kernel_rfl)) (by unfold Func.isWrapper; first | (rw [if_pos (by decide +kernel)]; kernel_rfl) | (rw [if_neg (by decide +kernel)]; exact ⟨rfl, rfl⟩))
    (fun os started H enc _ => lifted walk os started H enc)
end Go.Proofs.Ytgicbmfcojfjcaa.fnExactParseTree
