/-
  Are all lists maps?
-/
import Derived.Test.YtgklilckjpbdnaaMpA
import Derived.Test.YtgklilckjpbdnaaResO
namespace Go.Proofs.Ytgklilckjpbdnaa
open Go.RowKit Fld
set_option linter.unusedVariables false
set_option linter.unusedSimpArgs false
set_option maxRecDepth 100000

/-- lists that stand side by side in memory -/
def ListsM (w : World) (B : Nat) (A : Option Addr) (m : List (List Int)) : Prop :=
  ∀ k r, m[k]? = some r → ∃ b o Ak ck, A = some ⟨b, o, none⟩ ∧ w.cell? ⟨b, o + k, none⟩ = some (.slice Ak r.length ck) ∧ Row w B Ak (ints r)
def mapsM (m : List (List Int)) : Bool := m.all isMp
theorem mapsM_no {m : List (List Int)} {k : Nat} {r : List Int} (h : m[k]? = some r) (hr : isMp r = false) : mapsM m = false := by
  unfold mapsM
  rw [List.all_eq_false]
  exact ⟨r, List.mem_of_getElem? h, by rw [hr]; simp⟩
theorem mapsM_two (xs ys : List Int) : mapsM [xs, ys] = (isMp xs && isMp ys) := by simp [mapsM]
set_option maxHeartbeats 400000 in
theorem areMaps_any (A : Option Addr) (n c B : Nat) (m : List (List Int)) (w : World) (hl : m.length = n) (hn : n ≤ 1048576) (hq : ∀ r ∈ m, r.length ≤ 1048576) (h : ListsM w B A m) :
    Calls Try.prog 27 #[.slice A n c] w fun e w' => e = .returned (.bool (mapsM m)) ∧ w = w' := by
  have HL := Lib.hid hl
  have HQ := Lib.hid hq
  clear hl hq
  go_enter Try.func27, Try.ntmps27
  go_wp2_with fail
  go_loop [7] (fun i => ∃ k : Nat, k ≤ n ∧ i = .int .i64 k ∧ Hid ((m.take k).all isMp = true)) (fun i => n - (intOf i).toNat)
  case atStart => exact ⟨0, Nat.zero_le _, rfl, rfl⟩
  case round =>
    obtain ⟨k, hk, rfl, HT⟩ := hrel
    by_cases hlt : k < n
    · obtain ⟨r, hr⟩ := at_lt (show k < m.length by rw [HL.out]; exact hlt)
      obtain ⟨b, o, Ak, ck, rfl, hc, hrow⟩ := h k r hr
      have hrl := HQ.out r (List.mem_of_getElem? hr)
      cases hs : isMp r
      · have G := Lib.hid (mapsM_no hr hs)
        have C0 := fun w' => isMap_any Ak r.length ck B r w' rfl (by omega)
        rw [hs] at C0
        clear hr HT
        go_wp2_with (go_at_call 32; refine (C0 _ hrow).mono ?_; rintro e w' ⟨rfl, rfl⟩)
        go_ret
        exact ⟨ret_bool G.out.symm, rfl⟩
      · have G : Hid ((m.take (k + 1)).all isMp = true) := by
          unfold Hid
          rw [List.take_add_one, hr, List.all_append, HT.out]
          simp [hs]
        have C0 := fun w' => isMap_any Ak r.length ck B r w' rfl (by omega)
        rw [hs] at C0
        clear hr HT
        go_wp2_with (go_at_call 32; refine (C0 _ hrow).mono ?_; rintro e w' ⟨rfl, rfl⟩)
        go_round
        case rel => exact ⟨k + 1, by omega, by go_num, G⟩
        case measure => simp [intOf]; omega
    · have G : Hid (mapsM m = true) := by
        have := HT.out
        rw [List.take_of_length_le (by rw [HL.out]; omega)] at this
        exact this
      clear HT
      go_wp2
      go_ret
      exact ⟨ret_bool G.out.symm, rfl⟩
theorem ListsM.two {w : World} {A A' : Option Addr} {n n' c c' B : Nat} {xs ys : List Int} (T : TypeId) (hl : xs.length = n) (hl' : ys.length = n') (hB : B ≤ w.heap.size) (h : Row w B A (ints xs)) (h' : Row w B A' (ints ys)) : ListsM (w.alloc (.cells #[.slice A n c, .slice A' n' c'] T)) B (some ⟨w.heap.size, 0, none⟩) [xs, ys] := by
  intro k r hr
  match k, hr with
  | 0, hr =>
    obtain rfl : xs = r := by simpa using hr
    exact ⟨_, 0, A, c, rfl, by rw [World.cell?_alloc_at (hn := by simp)]; rw [hl]; rfl, h.alloc hB _⟩
  | 1, hr =>
    obtain rfl : ys = r := by simpa using hr
    exact ⟨_, 0, A', c', rfl, by rw [World.cell?_alloc_at (hn := by simp)]; rw [hl']; rfl, h'.alloc hB _⟩
  | k+2, hr => simp at hr

end Go.Proofs.Ytgklilckjpbdnaa
