/-
  The frame of the statement of FnExactHamiltonianOf: from a walk of the law's text to the statement. No condition.
-/
import Derived.Test.YtnnihdkhblbdgaaBase
import Derived.Test.YtnnihdkhblbdgaaFacts
import Derived.Test.YtnnihdkhblbdgaaFactsE
import Derived.Test.YtnnihdkhblbdgaaFactsL
namespace Go.Proofs.Ytnnihdkhblbdgaa.fnExactHamiltonianOf
open Go.ChangeShapes Go.WideShapes Go.ChangeAt Go.RowKit
open Go.ChangeMaps (open_string shut_string)
set_option linter.unusedVariables false

theorem own : ownKnob Try.prog.godebug = none := by kernel_rfl
theorem laidOut : laidOutB Try.prog = true := Facts.k2
theorem k1 : (Rows.fnExactHamiltonianOfRow.wf (OpenSpec.ofChange Rows.fnExactHamiltonianOfSpec)) = true := by kernel_rfl
theorem k4 : (Try.f9.params.all (Try.prog.readableRec ·)) = true := by kernel_rfl
theorem k5 : (namedTie Try.prog Rows.fnExactHamiltonianOfRow.named Rows.fnExactHamiltonianOfSpec.vars) = true := by kernel_rfl
theorem k6 : ((Rows.fnExactHamiltonianOfRow.stops == [])) = true := by kernel_rfl
theorem k8 : ((Rows.fnExactHamiltonianOfRow.knobs == [])) = true := by kernel_rfl
theorem k10 : ((Rows.fnExactHamiltonianOfRow.inPlace == Try.prog.inPlace 9)) = true := by kernel_rfl
theorem k11 : ((Rows.fnExactHamiltonianOfRow.unfollowed == Try.prog.unfollowed 9)) = true := by kernel_rfl
theorem k12 : ((Rows.fnExactHamiltonianOfRow.recurses == Try.prog.recurses 9)) = true := by kernel_rfl
theorem k13 : ((Rows.fnExactHamiltonianOfRow.named == Try.prog.varsNamed 9)) = true := by kernel_rfl
theorem k14 : ((Rows.fnExactHamiltonianOfRow.maps == (Try.f9.params.toList ++ Rows.fnExactHamiltonianOfSpec.plain.varTypes Try.prog).any (Try.prog.mapsRec ·))) = true := by kernel_rfl
theorem k15 : ((Rows.fnExactHamiltonianOfRow.ifaces == (Try.f9.params.toList ++ Rows.fnExactHamiltonianOfSpec.plain.varTypes Try.prog).any (Try.prog.ifacesRec ·))) = true := by kernel_rfl
theorem k16 : ((Rows.fnExactHamiltonianOfRow.mapsOut == Try.prog.mapsAmong Try.f9.resultTypes.toList)) = true := by kernel_rfl
theorem k17 : ((Rows.fnExactHamiltonianOfRow.loops == (Try.f9.params.toList ++ Rows.fnExactHamiltonianOfSpec.plain.varTypes Try.prog).any (Try.prog.loopsFrom ·))) = true := by kernel_rfl
theorem k17b : ((Rows.fnExactHamiltonianOfRow.wideKeys == (Try.f9.params.toList ++ Rows.fnExactHamiltonianOfSpec.plain.varTypes Try.prog ++ Try.f9.resultTypes.toList).any (Try.prog.wideKeysFrom ·))) = true := by kernel_rfl
theorem k18 : (Rows.fnExactHamiltonianOfSpec.vars.all (Try.prog.varReadable ·)) = true := by kernel_rfl
theorem k19 : (Try.f9.resultTypes.all (fun t => Try.prog.readableRec t && decide (t < Try.prog.types.size))) = true := by kernel_rfl
theorem k20 : ((Rows.fnExactHamiltonianOfRow.ifacesOut == Try.f9.resultTypes.toList.any (Try.prog.ifacesRec ·))) = true := by kernel_rfl
theorem k21 : ((Rows.fnExactHamiltonianOfRow.loopsOut == Try.f9.resultTypes.toList.any (Try.prog.loopsFrom ·))) = true := by kernel_rfl
theorem k22 : ((Rows.fnExactHamiltonianOfRow.plainKeys == Try.prog.plainKeys)) = true := by kernel_rfl
theorem k23 : (Rows.fnExactHamiltonianOfRow.shortTexts.isNone) = true := by kernel_rfl
theorem k24b : (Rows.fnExactHamiltonianOfRow.lifted == Try.prog.liftsFinal) = true := by
  rw [eq_of_beq Facts.klf]; kernel_rfl
theorem k24c : (Try.prog.make == some Rows.fnExactHamiltonianOfRow.make) = true := by
  rw [eq_of_beq Facts.kmk]; kernel_rfl
theorem k26 : ((Rows.fnExactHamiltonianOfRow.pinned == Rows.fnExactHamiltonianOfRow.pinnedBy)) = true := by kernel_rfl
theorem k27 : ((Rows.fnExactHamiltonianOfRow.veiled == (Try.f9.params.toList ++ Rows.fnExactHamiltonianOfSpec.plain.varTypes Try.prog ++ Try.f9.resultTypes.toList).any (Try.prog.veiledRec ·))) = true := by kernel_rfl
theorem k28 : (Rows.fnExactHamiltonianOfRow.veiledFits Try.prog Try.f9.params.toList (Try.f9.params.toList ++ Rows.fnExactHamiltonianOfSpec.plain.varTypes Try.prog ++ Try.f9.resultTypes.toList)) = true := by kernel_rfl
theorem closed : joinedFacts Try.prog 9 Try.f9 Rows.fnExactHamiltonianOfSpec Rows.fnExactHamiltonianOfRow = true := by
  unfold joinedFacts
  exact (Facts.and_t (Facts.and_t (Facts.and_t (Facts.and_t (Facts.and_t (Facts.and_t (Facts.and_t (Facts.and_t (Facts.and_t (Facts.and_t (Facts.and_t (Facts.and_t (Facts.and_t (Facts.and_t (Facts.and_t (Facts.and_t (Facts.and_t (Facts.and_t (Facts.and_t (Facts.and_t (Facts.and_t (Facts.and_t (Facts.and_t (Facts.and_t (Facts.and_t (Facts.and_t (Facts.and_t (Facts.and_t (Facts.and_t (Facts.and_t (Facts.and_t k1 Facts.k2) Facts.k3) k4) k5) k6) Facts.k7) k8) Facts.k9) k10) k11) k12) k13) k14) k15) k16) k17) k17b) k18) k19) k20) k21) k22) k23) Facts.k23b) Facts.k24) k24b) k24c) (by kernel_rfl)) k26) k27) k28)
def Walk : Prop := ∀ (w : World) (a0 : Option Addr) (len0 cap0 : Nat) (z0 : List Int) (w0 : IsRow .i64 w a0 len0 cap0 z0), Calls Try.prog 9 #[.slice a0 len0 cap0] w fun e w' => e = .returned (.bool true) ∧ Below w.heap.size w w'
set_option maxRecDepth 100000 in
theorem lifted (walk : Walk) (os : Os) (started : os.Started) (H : Type) (enc : TypeId × Value → H) :
    ReturnsInHanded {} Try.checked os 9 .any (Rows.fnExactHamiltonianOfSpec.pre6 enc Try.prog Try.f9 Rows.fnExactHamiltonianOfRow.domain false) (Rows.fnExactHamiltonianOfSpec.post enc Try.prog Try.f9 false true false false) := by
  refine returnsInHanded_of_change (C := Try.checked) own started (by kernel_rfl) Try.func9
    (ChangeSpec.witness6 (enc := enc) (C := Try.checked) false ⟨#[], #[.slice none 0 0], []⟩ 8 (by kernel_rfl) (by kernel_rfl) (by kernel_rfl) (by kernel_rfl)) ?_
  intro W base args ds gs before hval0 hW hcnd _
  have hval : ∀ (j : Nat) t v, Try.f9.params[j]? = some t → args[j]? = some v → Value.okWide Try.prog W .any base t v := hval0
  have hW' := hW
  obtain ⟨p, q, hA0, hV, rfl, hfz, hnd⟩ := hW
  have hA : DataW.TrodAll enc Try.prog W 0 (fun _ => true) true Try.f9.params.toList args.toList ds p := hA0
  rw [Try.params9] at hA hval
  obtain ⟨v0, vs0, d0, ds0, p0, q0, hargs, rfl, rfl, h0, r0⟩ := trodAll_cons hA
  obtain ⟨rfl, rfl, rfl⟩ := trodAll_nil r0
  obtain rfl : args = #[v0] := by cases args; simp_all
  obtain ⟨rfl, rfl⟩ := trodVars_none hV
  obtain ⟨a0, len0, cap0, rfl⟩ := okWide_slice Try.underlying23 (hval 0 23 v0 rfl rfl)
  have k0 := h0
  have lt0 : ∀ x ∈ p0, x.block < W.heap.size := by obtain ⟨m, hm⟩ := k0; exact DataW.trod_lt m _ _ _ hm
  obtain ⟨z0, w0⟩ := isRow_of Try.underlying23 Try.underlying2 (by kernel_rfl) h0
  clear hA0 hval0
  refine (walk W a0 len0 cap0 z0 w0).mono fun e W' ⟨he, bel⟩ => ?_
  subst he
  exact ⟨_, rfl, _, _, _, [], _, [], hW', trodAll_mk1 (shut_bool Try.underlying4 _), (trodAll_cons_mk (Below.trod laidOut (by kernel_rfl) (of_decide_eq_true (by kernel_rfl)) k0 bel lt0) trodAll_mk0), rfl, bel.frame _, fun h => by cases h⟩
theorem of_walk (walk : Walk) : Rows.FnExactHamiltonianOfSaid :=
  OpenClaim.holds_of_wide 9 Try.f9 rfl rfl rfl rfl rfl rfl rfl ⟨rfl, rfl, rfl, rfl, rfl⟩ rfl rfl rfl rfl rfl (by kernel_rfl) Try.func9 closed
    (of_decide_eq_true (by kernel_rfl)) (by unfold Func.isWrapper; first | (rw [if_pos (by decide +kernel)]; kernel_rfl) | (rw [if_neg (by decide +kernel)]; exact ⟨rfl, rfl⟩))
    (fun os started H enc _ => lifted walk os started H enc)
end Go.Proofs.Ytnnihdkhblbdgaa.fnExactHamiltonianOf
