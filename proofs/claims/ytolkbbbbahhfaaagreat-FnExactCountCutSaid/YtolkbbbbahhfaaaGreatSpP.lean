/-
  The model's lists of cuts, plainly.
-/
import Derived.Test.YtolkbbbbahhfaaaGreatOrdS
import Derived.Test.YtolkbbbbahhfaaaGreatForP
import Derived.Test.YtolkbbbbahhfaaaGreatRootP
namespace Go.Proofs.YtolkbbbbahhfaaaGreat
open Go.RowKit Fld
set_option linter.unusedVariables false
set_option linter.unusedSimpArgs false
set_option maxRecDepth 100000

/-- a cut: what is cut off, what stays, how often -/
abbrev Spl := List (List Int) × List (List Int) × Int
def ordSp (a b : Spl) : Int := if total a.1 = total b.1 then (if ord5 a.1 b.1 = 0 then ord5 a.2.1 b.2.1 else ord5 a.1 b.1) else if total a.1 < total b.1 then -1 else 1
def putGo (c : Spl) : Bool → List Spl → List Spl
  | true, S => S
  | false, [] => [c]
  | false, e :: r => if ordSp c e < 0 then c :: e :: r else if ordSp c e = 0 then (e.1, e.2.1, e.2.2 + c.2.2) :: r else e :: putGo c false r
def putSp (S : List Spl) (c : Spl) : List Spl := putGo c false S
def sumC (S : List Spl) : Int := (S.map fun s => s.2.2).sum
theorem sumC_cons (e : Spl) (S : List Spl) : sumC (e :: S) = e.2.2 + sumC S := by simp [sumC]
theorem sumC_app (S T : List Spl) : sumC (S ++ T) = sumC S + sumC T := by simp [sumC]
theorem putGo_sum (c : Spl) : ∀ S, sumC (putGo c false S) = sumC S + c.2.2
  | [] => by simp [putGo, sumC]
  | e :: r => by
    unfold putGo
    split
    · simp only [sumC_cons]; omega
    · split
      · simp only [sumC_cons]; omega
      · simp only [sumC_cons, putGo_sum c r]; omega
/-- a cut with m nodes of trees -/
def OkSp (m : Nat) (s : Spl) : Prop := (∀ r ∈ s.1, Tr.isLv r = true) ∧ (∀ r ∈ s.2.1, Tr.isLv r = true) ∧ total s.1 + total s.2.1 = m ∧ 1 ≤ s.2.2
theorem putGo_ok {m : Nat} {c : Spl} (hc : OkSp m c) : ∀ {S : List Spl}, (∀ s ∈ S, OkSp m s) → ∀ s ∈ putGo c false S, OkSp m s
  | [], _, s, hs => by simp only [putGo, List.mem_singleton] at hs; subst hs; exact hc
  | e :: r, hS, s, hs => by
    have he := hS e (by simp)
    have hr : ∀ s ∈ r, OkSp m s := fun s h => hS s (by simp [h])
    unfold putGo at hs
    split at hs
    · rw [List.mem_cons, List.mem_cons] at hs
      rcases hs with rfl | rfl | hs
      · exact hc
      · exact he
      · exact hr s hs
    · split at hs
      · rw [List.mem_cons] at hs
        rcases hs with rfl | hs
        · exact ⟨he.1, he.2.1, he.2.2.1, by have h1 := he.2.2.2; have h2 := hc.2.2.2; simp only; omega⟩
        · exact hr s hs
      · rw [List.mem_cons] at hs
        rcases hs with rfl | hs
        · exact he
        · exact putGo_ok hc hr s hs
theorem len_sumC {m : Nat} : ∀ {S : List Spl}, (∀ s ∈ S, OkSp m s) → (S.length : Int) ≤ sumC S
  | [], _ => by simp [sumC]
  | e :: r, h => by
    have h1 := (h e (by simp)).2.2.2
    have h2 := len_sumC (S := r) (fun s hs => h s (by simp [hs]))
    rw [sumC_cons, List.length_cons]; omega
theorem mem_sumC {m : Nat} {S : List Spl} (h : ∀ s ∈ S, OkSp m s) {s : Spl} (hs : s ∈ S) : s.2.2 ≤ sumC S := by
  induction S with
  | nil => cases hs
  | cons e r ih =>
    rw [sumC_cons]
    have h1 := (h e (by simp)).2.2.2
    have h2 := len_sumC (S := r) (fun s hs => h s (by simp [hs]))
    rcases List.mem_cons.1 hs with rfl | hs
    · omega
    · have := ih (fun s hs => h s (by simp [hs])) hs; omega
def mulSp (a b : Spl) : Spl := (Tr.sortL (a.1 ++ b.1), Tr.sortL (a.2.1 ++ b.2.1), a.2.2 * b.2.2)
/-- all products of one cut so far -/
def rowS (a : Spl) (B out : List Spl) : List Spl := B.foldl (fun out b => putSp out (mulSp a b)) out
def timesS (A B : List Spl) : List Spl := A.foldl (fun out a => rowS a B out) []
theorem sortL_lvl {L : List (List Int)} (h : ∀ r ∈ L, Tr.isLv r = true) : (∀ r ∈ Tr.sortL L, Tr.isLv r = true) ∧ total (Tr.sortL L) = total L := by
  have hp : ∀ (L acc : List (List Int)), (L.foldl (fun o p => Tr.insB p o) acc).Perm (L ++ acc) := fun L => by
    induction L with
    | nil => intro acc; exact List.Perm.refl _
    | cons a r ih =>
      intro acc
      rw [List.foldl_cons]
      exact (ih _).trans (((insB_perm a acc).append_left r).trans List.perm_middle)
  have hq : (Tr.sortL L).Perm L := by have := hp L []; rwa [List.append_nil] at this
  exact ⟨fun r hr => h r (hq.mem_iff.1 hr), total_perm hq⟩
theorem mulSp_ok {m n : Nat} {a b : Spl} (ha : OkSp m a) (hb : OkSp n b) : OkSp (m + n) (mulSp a b) := by
  obtain ⟨a1, a2, a3, a4⟩ := ha
  obtain ⟨b1, b2, b3, b4⟩ := hb
  obtain ⟨c1, c2⟩ := sortL_lvl (L := a.1 ++ b.1) (fun r hr => (List.mem_append.1 hr).elim (a1 r) (b1 r))
  obtain ⟨d1, d2⟩ := sortL_lvl (L := a.2.1 ++ b.2.1) (fun r hr => (List.mem_append.1 hr).elim (a2 r) (b2 r))
  refine ⟨c1, d1, ?_, ?_⟩
  · show total (Tr.sortL (a.1 ++ b.1)) + total (Tr.sortL (a.2.1 ++ b.2.1)) = m + n
    rw [c2, d2, total_app, total_app]; omega
  · show 1 ≤ a.2.2 * b.2.2
    have := Int.mul_le_mul a4 b4 (by omega) (by omega)
    omega
theorem rowS_ok {m n : Nat} {a : Spl} (ha : OkSp m a) : ∀ {B out : List Spl}, (∀ s ∈ B, OkSp n s) → (∀ s ∈ out, OkSp (m + n) s) → ∀ s ∈ rowS a B out, OkSp (m + n) s
  | [], out, _, ho => ho
  | b :: r, out, hB, ho => by
    have : rowS a (b :: r) out = rowS a r (putSp out (mulSp a b)) := rfl
    rw [this]
    exact rowS_ok ha (fun s hs => hB s (by simp [hs])) (putGo_ok (mulSp_ok ha (hB b (by simp))) ho)
theorem rowS_sum (a : Spl) : ∀ (B out : List Spl), sumC (rowS a B out) = sumC out + a.2.2 * sumC B
  | [], out => by simp [rowS, sumC]
  | b :: r, out => by
    have : rowS a (b :: r) out = rowS a r (putSp out (mulSp a b)) := rfl
    rw [this, rowS_sum a r, putSp, putGo_sum, sumC_cons]
    show sumC out + a.2.2 * b.2.2 + a.2.2 * sumC r = _
    rw [Int.mul_add]; omega
theorem foldS_ok {m n : Nat} {B : List Spl} (hB : ∀ s ∈ B, OkSp n s) : ∀ {A out : List Spl}, (∀ s ∈ A, OkSp m s) → (∀ s ∈ out, OkSp (m + n) s) → ∀ s ∈ A.foldl (fun out a => rowS a B out) out, OkSp (m + n) s
  | [], out, _, ho => ho
  | a :: r, out, hA, ho => by
    rw [List.foldl_cons]
    exact foldS_ok hB (fun s hs => hA s (by simp [hs])) (rowS_ok (hA a (by simp)) hB ho)
theorem foldS_sum (B : List Spl) : ∀ (A out : List Spl), sumC (A.foldl (fun out a => rowS a B out) out) = sumC out + sumC A * sumC B
  | [], out => by simp [sumC]
  | a :: r, out => by
    rw [List.foldl_cons, foldS_sum B r, rowS_sum, sumC_cons, Int.add_mul]; omega
theorem timesS_ok {m n : Nat} {A B : List Spl} (hA : ∀ s ∈ A, OkSp m s) (hB : ∀ s ∈ B, OkSp n s) : ∀ s ∈ timesS A B, OkSp (m + n) s := foldS_ok hB hA (fun s hs => by cases hs)
theorem timesS_sum (A B : List Spl) : sumC (timesS A B) = sumC A * sumC B := by
  unfold timesS
  rw [foldS_sum]
  simp [sumC]
def rootSp (b : Spl) : Spl := (b.1, [Tr.can (Tr.up b.2.1)], b.2.2)
def spF : Nat → List Int → List Spl
  | 0, _ => []
  | k+1, t => ((Tr.branL t).foldl (fun acc b => timesS acc (spF k b)) [([], [], 1)]).foldl (fun out b => putSp out (rootSp b)) [([t], [], 1)]
theorem spF_succ (k : Nat) (t : List Int) : spF (k + 1) t = ((Tr.branL t).foldl (fun acc b => timesS acc (spF k b)) [([], [], 1)]).foldl (fun out b => putSp out (rootSp b)) [([t], [], 1)] := rfl
def cntS : Nat → List Int → Int
  | 0, _ => 0
  | k+1, t => (Tr.branL t).foldl (fun a b => a * cntS k b) 1 + 1
def chkBr (t : List Int) : Bool := (Tr.branL t).all (fun b => Tr.isLv b && decide (Tr.can b = b) && decide (b.length < t.length)) && decide (total (Tr.branL t) + 1 = t.length) && decide ((Tr.branL t).length ≤ 7)
theorem chkBr_all : Tr.allLv.all chkBr = true := by decide +kernel
theorem branL_parts {t : List Int} (h : Tr.isLv t = true) : (∀ b ∈ Tr.branL t, Tr.isLv b = true ∧ Tr.can b = b ∧ b.length < t.length) ∧ total (Tr.branL t) + 1 = t.length ∧ (Tr.branL t).length ≤ 7 := by
  have h1 := Tr.all_of chkBr_all (Tr.isLv_iff.1 h)
  unfold chkBr at h1
  simp only [Bool.and_eq_true, List.all_eq_true, decide_eq_true_eq] at h1
  exact ⟨fun b hb => ⟨(h1.1.1 b hb).1.1, (h1.1.1 b hb).1.2, (h1.1.1 b hb).2⟩, h1.1.2, h1.2⟩
theorem fold_okS (f : List Int → List Spl) : ∀ (ts : List (List Int)) (acc : List Spl) (m : Nat), (∀ b ∈ ts, ∀ s ∈ f b, OkSp b.length s) → (∀ s ∈ acc, OkSp m s) → ∀ s ∈ ts.foldl (fun acc b => timesS acc (f b)) acc, OkSp (m + total ts) s
  | [], acc, m, _, ha, s, hs => by simpa [total] using ha s hs
  | b :: ts, acc, m, hf, ha, s, hs => by
    have := fold_okS f ts (timesS acc (f b)) (m + b.length) (fun b' hb' => hf b' (by simp [hb'])) (timesS_ok ha (hf b (by simp))) s hs
    rw [total_cons, ← Nat.add_assoc]; exact this
theorem root_ok {m : Nat} {b : Spl} (hb : OkSp m b) (h7 : m ≤ 7) : OkSp (m + 1) (rootSp b) := by
  obtain ⟨b1, b2, b3, b4⟩ := hb
  have hu := up_lv b2 (by omega)
  have hl : (Tr.can (Tr.up b.2.1)).length = total b.2.1 + 1 := by
    rw [(lv_can hu).2]
    unfold Tr.up; rw [List.length_cons, List.length_map, flat_total]
  refine ⟨b1, fun r hr => ?_, ?_, b4⟩
  · simp only [rootSp, List.mem_singleton] at hr
    subst hr
    exact (lv_can hu).1
  · show total b.1 + total [Tr.can (Tr.up b.2.1)] = m + 1
    rw [total_cons, hl, show total ([] : List (List Int)) = 0 from rfl]; omega
theorem rootFold_ok {m : Nat} (h7 : m ≤ 7) : ∀ {L out : List Spl}, (∀ s ∈ L, OkSp m s) → (∀ s ∈ out, OkSp (m + 1) s) → ∀ s ∈ L.foldl (fun out b => putSp out (rootSp b)) out, OkSp (m + 1) s
  | [], out, _, ho => ho
  | b :: r, out, hL, ho => by
    rw [List.foldl_cons]
    exact rootFold_ok h7 (fun s hs => hL s (by simp [hs])) (putGo_ok (root_ok (hL b (by simp)) h7) ho)
theorem rootFold_sum : ∀ (L out : List Spl), sumC (L.foldl (fun out b => putSp out (rootSp b)) out) = sumC out + sumC L
  | [], out => by simp [sumC]
  | b :: r, out => by
    rw [List.foldl_cons, rootFold_sum r, putSp, putGo_sum, sumC_cons]
    show sumC out + b.2.2 + sumC r = _
    omega
theorem one_okS : ∀ s ∈ ([([], [], 1)] : List Spl), OkSp 0 s := fun s hs => by
  rw [List.mem_singleton] at hs
  subst hs
  exact ⟨by simp, by simp, rfl, by simp⟩
theorem self_okS {t : List Int} (h : Tr.isLv t = true) : ∀ s ∈ ([([t], [], 1)] : List Spl), OkSp t.length s := fun s hs => by
  rw [List.mem_singleton] at hs
  subst hs
  exact ⟨fun r hr => by rw [List.mem_singleton] at hr; subst hr; exact h, by simp, by simp [total], by simp⟩
theorem mem_total {ts : List (List Int)} {b : List Int} (h : b ∈ ts) : b.length ≤ total ts := row_le_total b h
theorem spF_ok : ∀ (k : Nat) (t : List Int), Tr.isLv t = true → t.length ≤ k → ∀ s ∈ spF k t, OkSp t.length s
  | 0, t, h, hk, s, hs => by cases hs
  | k+1, t, h, hk, s, hs => by
    obtain ⟨hb, ht, h7⟩ := branL_parts h
    have h8 := (lv_bd h).2
    rw [spF_succ] at hs
    have hf := fold_okS (spF k) (Tr.branL t) [([], [], 1)] 0 (fun b hb' s hs => spF_ok k b (hb b hb').1 (by have := (hb b hb').2.2; omega) s hs) one_okS
    rw [Nat.zero_add] at hf
    have := rootFold_ok (m := total (Tr.branL t)) (by omega) hf (out := [([t], [], 1)]) (by rw [ht]; exact self_okS h) s hs
    rwa [ht] at this
theorem spF_sum : ∀ (k : Nat) (t : List Int), sumC (spF k t) = cntS k t
  | 0, t => rfl
  | k+1, t => by
    rw [spF_succ, rootFold_sum, cntS]
    have : ∀ (ts : List (List Int)) (acc : List Spl), sumC (ts.foldl (fun acc b => timesS acc (spF k b)) acc) = ts.foldl (fun a b => a * cntS k b) (sumC acc) := fun ts => by
      induction ts with
      | nil => intro acc; rw [List.foldl_nil, List.foldl_nil]
      | cons a r ih =>
        intro acc
        rw [List.foldl_cons, List.foldl_cons, ih, timesS_sum, spF_sum k a]
    rw [this]
    show 1 + _ = _ + 1
    rw [show sumC [(([] : List (List Int)), ([] : List (List Int)), (1 : Int))] = 1 from rfl]
    omega
end Go.Proofs.YtolkbbbbahhfaaaGreat
