/-
  Results that are tableaus: what they own; the program's copy; marks held.
-/
import Derived.Test.YtchimobmkmgkmaaTqP
import Derived.Test.YtchimobmkmgkmaaTabS
namespace Go.Proofs.Ytchimobmkmgkmaa
open Go.RowKit Fld
set_option linter.unusedVariables false
set_option linter.unusedSimpArgs false
set_option maxRecDepth 100000

/-- a result in a cell beside one in a slot -/
theorem results_box {P : Program} {fn : Func} {p u : Tmp} {ty : TypeId} (h : fn.results = #[.cell p ty, .tmp u]) (tmps : Array Value) (w : World) (g : Nat) (t : TypeId) (cs : Array Value) (fr : Nat × Nat) (d : TypeDesc)
    (hp : tmps.getD p undef = .pointer (some ⟨g, 0, none⟩)) (hg : w.heap[g]? = some (.cells cs t fr))
    (hu : P.underlying ty = some d) (hd : (match d with | .struct _ | .array _ _ => true | _ => false) = true) (hi : (P.info? ty).map (·.size) = some cs.size) :
    (results fn tmps).run P w = .ok (.tuple #[.agg cs, tmps.getD u undef]) w := by
  have hp' : tmps[p]?.getD undef = .pointer (some ⟨g, 0, none⟩) := by simpa using hp
  simp [results, h, hp', asAddr, Sem.run_bind, Result.andThen, run_loadVar_row w g t ty cs fr d hg hu hd hi]
theorem info_tabR : (Try.prog.info? 27).map (·.size) = some 2 := by kernel_rfl
theorem info_schR : (Try.prog.info? 58).map (·.size) = some 2 := by kernel_rfl

/-- a tableau of the call's own beside a code: A's rows, then B -/
def ResT (r : (List (List Int) × List Int) × Int) (w : World) (e : Ending) (w' : World) : Prop :=
  (r.1.1.length ≤ 8 ∧ total r.1.1 ≤ 64 ∧ r.1.2.length ≤ 8) ∧ ∃ A c vs D d mid, e = .returned (.tuple #[.agg #[.slice A r.1.1.length c, .slice D r.1.2.length d], .int .i64 r.2]) ∧ w.heap.size ≤ mid ∧ mid ≤ w'.heap.size ∧
    OwnMat w' w.heap.size mid (.slice A r.1.1.length c) r.1.1.length r.1.1 vs ∧ OwnR w' mid w'.heap.size 2 (.slice D r.1.2.length d) r.1.2.length (ints r.1.2) ∧ Below w.heap.size w w'
/-- the model's: known by its cells -/
def ResTL (r : (List (List Int) × List Int) × Int) (w : World) (e : Ending) (w' : World) : Prop :=
  (r.1.1.length ≤ 8 ∧ total r.1.1 ≤ 64 ∧ r.1.2.length ≤ 8) ∧ ∃ A c D d, e = .returned (.tuple #[.agg #[.slice A r.1.1.length c, .slice D r.1.2.length d], .int .i64 r.2]) ∧ Mat w' w'.heap.size A r.1.1 ∧ Row w' w'.heap.size D (ints r.1.2) ∧ Below w.heap.size w w'
theorem Mat.nil (w : World) (B : Nat) (A : Option Addr) : Mat w B A [] := fun k r h => by simp at h
theorem OwnMat.nil (w : World) (lo hi : Nat) : OwnMat w lo hi (.slice none 0 0) 0 [] [] :=
  ⟨⟨World.ownsRow_nil _ _ _ _, fun g hg => by simp [Value.ownBlock] at hg⟩, rfl, fun r row h => by simp at h, fun r s u t g _ h => by simp at h⟩
theorem ResT.no {r : (List (List Int) × List Int) × Int} {w w' : World} {k : Int} (h : r = (([], []), k)) (hb : Below w.heap.size w w') : ResT r w (.returned (.tuple #[.agg #[.slice none 0 0, .slice none 0 0], .int .i64 k])) w' := by
  subst h
  exact ⟨⟨Nat.zero_le _, by simp [total], Nat.zero_le _⟩, none, 0, [], none, 0, w.heap.size, rfl, Nat.le_refl _, hb.size, OwnMat.nil _ _ _, ⟨World.ownsRow_nil _ _ _ _, fun g hg => by simp [Value.ownBlock] at hg⟩, hb⟩
theorem ResTL.no {r : (List (List Int) × List Int) × Int} {w w' : World} {k : Int} (h : r = (([], []), k)) (hb : Below w.heap.size w w') : ResTL r w (.returned (.tuple #[.agg #[.slice none 0 0, .slice none 0 0], .int .i64 k])) w' := by
  subst h
  exact ⟨⟨Nat.zero_le _, by simp [total], Nat.zero_le _⟩, none, 0, none, 0, rfl, Mat.nil _ _ _, Row.nil _ _ _, hb⟩
/-- a new tableau alone, known by its cells -/
def NewTL (n n' : Nat) (m : List (List Int)) (b : List Int) (w : World) (e : Ending) (w' : World) : Prop :=
  ∃ A c D d, e = .returned (.agg #[.slice A n c, .slice D n' d]) ∧ n ≤ c ∧ n' ≤ d ∧ Mat w' w'.heap.size A m ∧ Row w' w'.heap.size D (ints b) ∧ Below w.heap.size w w'

set_option maxHeartbeats 1000000 in
theorem heldTableau_any (A D : Option Addr) (n c n' d B B' : Nat) (m : List (List Int)) (k : Int) (w : World) (hl : m.length = n) (hn : n ≤ 1048576) (ht : total m ≤ 1048576) (hn' : n' ≤ 1048576) (k0 : 0 ≤ k) (k1 : k ≤ 1048576) (hB : B ≤ w.heap.size) (hB' : B' ≤ w.heap.size) (h : Mat w B A (marksM k m)) (r : Row w B' D (ints (marks (k + (total m : Nat)) n'))) :
    Calls Try.prog 22 #[.agg #[.slice A n c, .slice D n' d], .int .i64 k] w fun e w' => e = .returned (.int .i64 (k + (total m : Nat) + (n' : Int))) ∧ Below w.heap.size w w' := by
  have HL := Lib.hid hl
  obtain ⟨W0, hW0⟩ : ∃ W0, W0 = w.alloc (.cells #[.slice A n c, .slice D n' d] 27) := ⟨_, rfl⟩
  have HB : Hid (Below w.heap.size w W0) := by rw [hW0]; exact (Below.refl _ _).alloc (Nat.le_refl _) _
  have HM : Hid (Mat W0 B A (marksM k m)) := h.below HB.out hB
  have HR : Hid (Row W0 B' D (ints (marks (k + (total m : Nat)) n'))) := r.below HB.out hB'
  have HX : Bx W0 w.heap.size 27 (.slice A n c) (.slice D n' d) := by rw [hW0]; exact Bx.new _ _ _ _
  have q1 := HX.c1
  clear hl h r HX
  go_enter Try.func22, Try.ntmps22
  go_wp2_with fail
  rw [← hW0]
  clear hW0
  refine (heldInt64SS_any A n c B m k W0 HL.out (by omega) (by omega) k0 (by omega) HM.out).mono ?_
  rintro e w' ⟨rfl, rfl⟩
  obtain ⟨K, hK⟩ : ∃ K : Int, K = k + (total m : Nat) := ⟨_, rfl⟩
  have hK0 : 0 ≤ K := by omega
  have hK1 : K ≤ 2097152 := by omega
  rw [← hK] at HR ⊢
  have t0 : ¬ K < 0 := by omega
  have HK := Lib.hid hK
  clear hK
  go_wp2_with fail
  refine (heldInt64S_any D n' d B' K W0 (by omega) (by omega) (by omega) HR.out).mono ?_
  rintro e w' ⟨rfl, rfl⟩
  have t1 : ¬ K + (n' : Int) < 0 := by omega
  clear q1
  go_wp2
  go_ret
  exact ⟨ret_i64 (by rw [HK.out]), HB.out⟩

set_option maxHeartbeats 2000000 in
theorem tableau_any (A D : Option Addr) (n c n' d B B' : Nat) (m : List (List Int)) (b : List Int) (w : World) (hl : m.length = n) (hl' : b.length = n') (hn : n ≤ 8) (ht : total m ≤ 1048576) (hn' : n' ≤ 1048576) (hB : B ≤ w.heap.size) (hB' : B' ≤ w.heap.size) (h : Mat w B A m) (r : Row w B' D (ints b)) :
    Calls Try.prog 59 #[.agg #[.slice A n c, .slice D n' d]] w (NewTab n n' m b w) := by
  obtain ⟨i0, hi, hz0, hz1, hz2⟩ := info_parts info_row
  have HL := Lib.hid hl
  have HL' := Lib.hid hl'
  obtain ⟨W0, hW0⟩ : ∃ W0, W0 = (w.alloc (.cells #[.slice A n c, .slice D n' d] 58)).alloc (.cells #[.slice none 0 0, .slice none 0 0] 27) := ⟨_, rfl⟩
  have FB : Below w.heap.size w W0 := by rw [hW0]; exact ((Below.refl _ _).alloc (Nat.le_refl _) _).alloc (by simp) _
  have FS : W0.heap.size = w.heap.size + 2 := by rw [hW0]; simp
  have F1 : Bx W0 w.heap.size 58 (.slice A n c) (.slice D n' d) := by
    rw [hW0]; exact (Bx.new w _ _ _).next ((Below.refl _ _).alloc (Nat.le_refl _) _)
  have F2 : Bx W0 (w.heap.size + 1) 27 (.slice none 0 0) (.slice none 0 0) := by
    rw [hW0]; have := Bx.new (w.alloc (.cells #[.slice A n c, .slice D n' d] 58)) 27 (.slice none 0 0) (.slice none 0 0); simpa using this
  have HM := Lib.hid (h.below FB hB)
  have HR := Lib.hid (r.below FB hB')
  have HX1 := Lib.hid F1
  have HX2 := Lib.hid F2
  have HB := Lib.hid FB
  have HS := Lib.hid FS
  have q0 := F1.c0
  clear hl hl' h r F1 F2 FB FS
  go_enter Try.func59, Try.ntmps59
  go_wp2_with (at_make; rw [← hW0]; clear hW0; refine wpList_make_full _ rfl (.tmp 8) (.tmp 8) 22 rfl W0.heap.size 23 i0 _ 1 Try.underlying22 hi hz0 hz1 .i64 .i64 _ _ n rfl rfl rfl rfl (by rw [hz2]; omega) (by simp only [maxLen]; omega) (Nat.le_refl _) ?_; intro w1 hown hg; have q1 := (HX1.out.next ((Below.refl _ _).grown hg (Nat.le_refl _) (fun k hk => by cases hk))).c0)
  have F0 := FillM.start (m := m) hown hg
  clear hown hg hz0 hz1 hz2 hi q0 q1
  have hs0 : B ≤ W0.heap.size := by have := HS.out; omega
  have hs1 : B' ≤ W0.heap.size := by have := HS.out; omega
  go_loopw [13] (fun i wr => ∃ k : Nat, k ≤ n ∧ i = .int .i64 k ∧ FillM W0 n m k wr) (fun i _ => n - (intOf i).toNat)
  case atStart => exact ⟨0, Nat.zero_le _, rfl, F0⟩
  case round =>
    obtain ⟨k, hk, rfl, HF⟩ := hrel
    obtain ⟨vs, hvs, hbel, hsz⟩ := id HF
    by_cases hlt : k < n
    · obtain ⟨r, hr⟩ := at_lt (show k < m.length by rw [HL.out]; exact hlt)
      obtain ⟨b, o, Ak, ck, rfl, _, hc, hlc, hcm, hrow⟩ := HM.out.below hbel hs0 k r hr
      have hrl : r.length ≤ 1048576 := by
        have h1 := total_take hr
        have h2 := total_le m (k + 1)
        omega
      have HF' := Lib.hid HF
      have HR2 := Lib.hid hr
      have hBs := hbel.size
      clear hr F0 HF hvs hbel
      go_wp2_with fail
      refine (integersOf_any Ak r.length ck B r _ rfl hrl (by omega) hrow).mono ?_
      rintro e w2 ⟨A2, c2, rfl, own2, be2⟩
      obtain ⟨⟨u, hu⟩, hf⟩ := HF'.out.cell HL.out hlt be2
      have G := Lib.hid (HF'.out.step HL.out HR2.out own2 be2)
      clear own2
      go_wp2
      go_roundw
      case rel => exact ⟨k + 1, by omega, by go_num, G.out⟩
      case measure => simp [intOf]; omega
    · obtain rfl : k = n := by omega
      obtain ⟨A9, c9, vs9, he, own9, bel9⟩ := HF.done HL.out
      have hE := he
      injection he with he
      injection he with he1 he2 he3
      subst he1 he3
      have G1 := HX1.out.next hbel
      have G2 := HX2.out.next hbel
      have q1 := G1.c1
      have HR2 := Lib.hid (HR.out.below hbel hs1)
      have HG2 := Lib.hid G2
      have HO := Lib.hid own9
      have HBW := Lib.hid hbel
      have hzr := hbel.size
      clear F0 HF hvs hbel own9 bel9 G1 G2 hE
      go_wp2_with fail
      refine (integersOf_any D n' d B' b wr HL'.out hn' (by omega) HR2.out).mono ?_
      rintro e w5 ⟨A5, c5, rfl, own5, b5⟩
      have hz5 := b5.size
      have G5 := HG2.out.next b5
      have k0 := G5.c0
      have k1 := G5.c1
      have f0 := G5.free 0
      have f1 := G5.free 1
      have HG5 := Lib.hid G5
      have O5 := Lib.hid (OwnR.of own5)
      have M5 := Lib.hid (HO.out.below b5 (Nat.le_refl _))
      have B5 := Lib.hid (HB.out.trans ((HBW.out.trans (b5.mono HBW.out.size)).mono HB.out.size))
      clear own5 b5 G5 q1
      go_wp2
      obtain ⟨W7, hW7⟩ : ∃ W7, W7 = ((w5.setCell ⟨w.heap.size + 1, 0, none⟩ (.slice (some ⟨W0.heap.size, 0, none⟩) k k)).setCell ⟨w.heap.size + 1, 1, none⟩ (.slice A5 n' c5)) := ⟨_, rfl⟩
      have hk7 : ∀ g, W0.heap.size ≤ g → W7.heap[g]? = w5.heap[g]? := fun g hg => by
        have := HS.out
        rw [hW7, Below.heap_setCell _ _ _ _ (by show g ≠ w.heap.size + 1; omega), Below.heap_setCell _ _ _ _ (by show g ≠ w.heap.size + 1; omega)]
      have hx7 : Bx W7 (w.heap.size + 1) 27 (.slice (some ⟨W0.heap.size, 0, none⟩) k k) (.slice A5 n' c5) := by rw [hW7]; exact HG5.out.stored _ _
      have hs7 : W7.heap.size = w5.heap.size := by rw [hW7]; simp [World.setCell]
      have hb7 : Below w.heap.size w W7 := by rw [hW7]; exact below_set (below_set B5.out (by omega) _) (by omega) _
      rw [← hW7]
      clear hW7
      refine bodyPost_ret (v := .agg #[.slice (some ⟨W0.heap.size, 0, none⟩) k k, .slice A5 n' c5]) ?_ rfl ⟨_, _, vs9, _, _, wr.heap.size, rfl, by have := HS.out; omega, by omega, ?_, ?_, hb7⟩
      · exact results_cell_row rfl _ _ (w.heap.size + 1) 27 _ (0, 0) _ rfl hx7 Try.underlying27 rfl info_tabR
      · exact (M5.out.keep (fun g h1 h2 => hk7 g h1)).more (by have := HS.out; omega) (Nat.le_refl _)
      · rw [hs7]; exact O5.out.keep (fun g h1 h2 => hk7 g (by omega))
end Go.Proofs.Ytchimobmkmgkmaa
