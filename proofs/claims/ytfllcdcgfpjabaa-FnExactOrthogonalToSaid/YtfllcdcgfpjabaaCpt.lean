/-
  slices.Compact of numbers in a row of the call's own: whether it drops any.
-/
import Derived.Test.YtfllcdcgfpjabaaSrtN
import Derived.Lib.SliceRun
import Derived.Lib.LazyBuf
import Derived.OwnWalk
namespace Go.Proofs.Ytfllcdcgfpjabaa
open Go.RowKit Fld
set_option linter.unusedVariables false
set_option linter.unusedSimpArgs false
set_option maxRecDepth 100000

/-- no two numbers side by side are the same -/
def Adj (S : List Int) : Prop := ∀ j x y, S[j]? = some x → S[j + 1]? = some y → x ≠ y
def AdjTo (S : List Int) (k : Nat) : Prop := ∀ j x y, j + 1 < k → S[j]? = some x → S[j + 1]? = some y → x ≠ y
/-- a row that a call turns as it likes -/
def AnyRow (base g n cap : Nat) (w wr : World) : Prop := ∃ L : List Int, L.length = n ∧ wr.ownsRow base 79 1 (.slice (some ⟨g, 0, none⟩) n cap) n (ints L) ∧ Below base w wr
theorem AnyRow.at_ {base g n cap k : Nat} {w wr : World} (h : AnyRow base g n cap w wr) (hk : k < n) : (∃ x, wr.cell? ⟨g, k, none⟩ = some (.int .i64 x)) ∧ wr.frozen? ⟨g, k, none⟩ = false := by
  obtain ⟨L, hl, ho, _⟩ := h
  obtain ⟨x, hx⟩ := at_lt (show k < L.length by omega)
  have := ho.cellAt k (by omega)
  rw [ints_at hx] at this
  exact ⟨⟨x, this⟩, ho.frozenAt k⟩
theorem AnyRow.drewN {base g n cap : Nat} {w wr : World} (h : AnyRow base g n cap w wr) (m : Nat) : AnyRow base g n cap w (wr.drewN m) := by
  obtain ⟨L, hl, ho, hb⟩ := h
  exact ⟨L, hl, ho, below_drewN hb m⟩
theorem AnyRow.put {base g n cap k : Nat} {w wr : World} (h : AnyRow base g n cap w wr) (hg : base ≤ g) (x : Int) : AnyRow base g n cap w (wr.setCell ⟨g, k, none⟩ (.int .i64 x)) := by
  obtain ⟨L, hl, ho, hb⟩ := h
  refine ⟨L.set k x, by rw [List.length_set]; exact hl, ?_, below_set hb hg _⟩
  rw [intsN_set]; exact (ho.stored k _).1
/-- what is handed back: as long as before exactly if no two side by side were the same -/
def CptR (base n : Nat) (S : List Int) (w : World) (e : Ending) (w' : World) : Prop := (∃ (A2 : Option Addr) (q c2 : Nat), e = .returned (.slice A2 q c2) ∧ (q = n ↔ Adj S)) ∧ Below base w w'
theorem below_setsC {B g : Nat} (hg : B ≤ g) {a : World} : ∀ (vs : List Value) (o : Nat) (w : World), Below B a w → Below B a (w.setCells g o vs)
  | [], _, _, h => h
  | v :: r, o, w, h => below_setsC hg r (o + 1) _ (below_set h hg v)
set_option maxHeartbeats 4000000 in
theorem compact_any (A : Option Addr) (base n c : Nat) (S : List Int) (w : World) (hn : n ≤ 12) (hb : base ≤ w.heap.size) (h : w.ownsRow base 79 1 (.slice A n c) n (ints S)) :
    Calls Try.prog 90 #[.slice A n c] w (CptR base n S w) := by
  have hl : S.length = n := by rw [← ints_length]; exact own_len h
  have HL := Lib.hid hl
  by_cases h2 : n < 2
  · have G : Hid (Adj S) := fun j x y hx hy => by have := (List.getElem?_eq_some_iff.1 hy).1; omega
    have t2 : (n : Int) < 2 := by omega
    clear hl h
    go_enter Try.func90, Try.ntmps90
    go_wp2
    go_ret
    exact ⟨⟨A, n, c, rfl, ⟨fun _ => G.out, fun _ => rfl⟩⟩, Below.refl _ _⟩
  · obtain ⟨g, cap, hv⟩ := own_form h (by omega)
    injection hv with hA _ hcap
    subst hA hcap
    have HC := own_cap h
    have hg := (h.lt g rfl).1
    have HO := Lib.hid h
    have t2 : ¬ (n : Int) < 2 := by omega
    clear hl h
    go_enter Try.func90, Try.ntmps90
    go_wp2_with fail
    go_loopw [3] (fun kv wr => ∃ k m : Nat, 1 ≤ k ∧ k ≤ n ∧ kv = .int .i64 k ∧ wr = w.drewN m ∧ Hid (AdjTo S k)) (fun kv _ => n - (intOf kv).toNat)
    case atStart => exact ⟨1, 0, by omega, by omega, rfl, rfl, fun j x y hj => by omega⟩
    case round =>
      obtain ⟨k, m, k1, hk, rfl, rfl, HA⟩ := hrel
      by_cases hlt : k < n
      · obtain ⟨x, hx⟩ := at_lt (show k - 1 < S.length by rw [HL.out]; omega)
        obtain ⟨y, hy⟩ := at_lt (show k < S.length by rw [HL.out]; exact hlt)
        have cx := HO.out.cellAt (k - 1) (by omega)
        have cy := HO.out.cellAt k (by omega)
        rw [ints_at hx] at cx
        rw [ints_at hy] at cy
        have hwr : IntKind.i64.wrap ((k : Int) - 1) = ((k - 1 : Nat) : Int) := by rw [IntWalk.i64_in _ (by omega)]; omega
        have tk : (k : Int) < n := by omega
        have hkc : k < c := by have := HC.1; omega
        by_cases e : y = x
        · have G : Hid (¬ Adj S) := fun ha => ha (k - 1) x y hx (by rw [Nat.sub_add_cancel k1]; exact hy) e.symm
          subst e
          have F0 : Hid (∀ q, AnyRow base g n c w (w.drewN q)) := fun q => ⟨S, HL.out, HO.out, below_drewN (Below.refl _ _) q⟩
          clear hx hy HA
          go_wp2_with fail
          go_quiet (fail)
          go_wp2_with fail
          go_loopw [3, 5] (fun kv jv wr => ∃ k' j : Nat, k ≤ k' ∧ k' + 1 ≤ k + j ∧ 1 ≤ j ∧ j ≤ n - k ∧ kv = .int .i64 k' ∧ jv = .int .i64 j ∧ Hid (AnyRow base g n c w wr)) (fun _ jv _ => n - (intOf jv).toNat)
          case atStart => exact ⟨k, 1, by omega, by omega, by omega, by omega, rfl, rfl, F0.out _⟩
          case round =>
            obtain ⟨k', j, h1, h3, h4, h5, rfl, rfl, HF⟩ := hrel
            by_cases hjl : j < n - k
            · obtain ⟨⟨u, hu⟩, fu⟩ := HF.out.at_ (k := k + j) (by omega)
              obtain ⟨⟨v, hv⟩, fv⟩ := HF.out.at_ (k := k + (j - 1)) (by omega)
              obtain ⟨⟨z, hzz⟩, fz⟩ := HF.out.at_ (k := k') (by omega)
              have hwj : IntKind.i64.wrap ((j : Int) - 1) = ((j - 1 : Nat) : Int) := by rw [IntWalk.i64_in _ (by omega)]; omega
              have hj1 : j - 1 < n - k := by omega
              by_cases ee : u = v
              · have te := bne_f ee
                clear cx cy
                go_wp2_with fail
                go_quiet (fail)
                go_wp2
                go_roundw
                case rel => exact ⟨k', j + 1, by omega, by omega, by omega, by omega, rfl, by go_num, HF.out.drewN _⟩
                case measure => simp [intOf]; omega
              · have te := bne_t ee
                have G2 : Hid (∀ q, AnyRow base g n c w ((wr.drewN q).setCell ⟨g, k', none⟩ (.int .i64 u))) := fun q => (HF.out.drewN q).put hg u
                clear cx cy
                go_wp2_with fail
                go_quiet (fail)
                go_wp2
                go_roundw
                case rel => exact ⟨k' + 1, j + 1, by omega, by omega, by omega, by omega, by go_num, by go_num, G2.out _⟩
                case measure => simp [intOf]; omega
            · obtain rfl : j = n - k := by omega
              have hkn : k' < n := by omega
              have hkc2 : k' < c := by omega
              have hcl : ∀ ty, (Builtin.clear_ #[63] ty #[.slice (some ⟨g, k', none⟩) (n - k') (c - k')]).run Try.prog wr = .ok (.tuple #[]) (wr.setCells g k' (List.replicate (n - k') (.int .i64 0))) := fun ty =>
                Lib.run_clear_slice wr _ _ ty (.int .i64 0) Try.underlying63 (fun w => by rfl) rfl rfl g k' _ _ (by omega) (fun t ht => by obtain ⟨⟨x, hx⟩, _⟩ := HF.out.at_ (k := k' + t) (by omega); rw [hx]; rfl) (fun t ht => (HF.out.at_ (k := k' + t) (by omega)).2)
              have GF : Hid (CptR base n S w (.returned (.slice (some ⟨g, 0, none⟩) k' c)) (wr.setCells g k' (List.replicate (n - k') (.int .i64 0)))) := by
                obtain ⟨L, _, _, hbl⟩ := HF.out
                exact ⟨⟨_, k', c, rfl, ⟨fun hh => by omega, fun hh => absurd hh G.out⟩⟩, below_setsC hg _ _ _ hbl⟩
              clear cx cy HF F0
              go_wp2
              go_ret
              exact GF.out
        · have G : Hid (AdjTo S (k + 1)) := fun j u v hj hu hv => by
            by_cases ej : j + 1 = k
            · rw [ej, hy] at hv
              rw [show j = k - 1 by omega, hx] at hu
              injection hu with hu
              injection hv with hv
              rw [← hu, ← hv]; exact fun q => e q.symm
            · exact HA.out j u v (by omega) hu hv
          have te := beq_f e
          clear hx hy HA e
          go_wp2_with fail
          go_quiet (fail)
          go_wp2
          go_roundw
          case rel => exact ⟨k + 1, _, by omega, by omega, by go_num, by first | rfl | rw [World.drewN_drewN], G⟩
          case measure => simp [intOf]; omega
      · obtain rfl : k = n := by omega
        have G : Hid (Adj S) := fun j x y hx hy => HA.out j x y (by have := (List.getElem?_eq_some_iff.1 hy).1; rw [HL.out] at this; exact this) hx hy
        have tk : ¬ (k : Int) < k := by omega
        clear HA
        go_wp2
        go_ret
        exact ⟨⟨_, k, c, rfl, ⟨fun _ => G.out, fun _ => rfl⟩⟩, below_drewN (Below.refl _ _) _⟩
end Go.Proofs.Ytfllcdcgfpjabaa
