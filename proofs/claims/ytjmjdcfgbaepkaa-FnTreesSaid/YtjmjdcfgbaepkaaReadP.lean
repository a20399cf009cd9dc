/-
  The model's parser of brackets and the program's, as plain functions.
-/
import Derived.Test.YtjmjdcfgbaepkaaTreeD
namespace Go.Proofs.Ytjmjdcfgbaepkaa.Tr
set_option maxRecDepth 100000

/-- the model's: lists that grow, and the level -/
def rdL : List (List Int) → Nat → List UInt8 → List (List Int) × Bool
  | out, o, [] => (out, o == 0)
  | out, o, c :: r =>
    if c = 91 then rdL (addNode out ((o : Int) + 1)) (o + 1) r
    else if c = 93 ∧ 0 < o then rdL out (o - 1) r
    else ([], false)
theorem rd_open {out : List (List Int)} {o : Nat} {s : List UInt8} {p : Nat} (h : s[p]? = some 91) : rdL out o (s.drop p) = rdL (addNode out ((o : Int) + 1)) (o + 1) (s.drop (p + 1)) := by
  have hlt : p < s.length := by
    rcases Nat.lt_or_ge p s.length with g | g
    · exact g
    · rw [List.getElem?_eq_none g] at h; cases h
  rw [List.getElem?_eq_getElem hlt] at h
  injection h with h
  rw [List.drop_eq_getElem_cons hlt, h, rdL, if_pos rfl]
theorem rd_close {out : List (List Int)} {o : Nat} {s : List UInt8} {p : Nat} (h : s[p]? = some 93) (ho : 0 < o) : rdL out o (s.drop p) = rdL out (o - 1) (s.drop (p + 1)) := by
  have hlt : p < s.length := by
    rcases Nat.lt_or_ge p s.length with g | g
    · exact g
    · rw [List.getElem?_eq_none g] at h; cases h
  rw [List.getElem?_eq_getElem hlt] at h
  injection h with h
  rw [List.drop_eq_getElem_cons hlt, h, rdL, if_neg (by decide), if_pos ⟨rfl, ho⟩]
theorem rd_bad {out : List (List Int)} {o : Nat} {s : List UInt8} {p : Nat} {c : UInt8} (h : s[p]? = some c) (h1 : c ≠ 91) (h2 : c = 93 → o = 0) : rdL out o (s.drop p) = ([], false) := by
  have hlt : p < s.length := by
    rcases Nat.lt_or_ge p s.length with g | g
    · exact g
    · rw [List.getElem?_eq_none g] at h; cases h
  rw [List.getElem?_eq_getElem hlt] at h
  injection h with h
  rw [List.drop_eq_getElem_cons hlt, h, rdL, if_neg h1, if_neg (fun e => by have := h2 e.1; omega)]
/-- the level behind a text -/
def lvE : Int → List UInt8 → Int
  | l, [] => l
  | l, c :: r => lvE (if c = 91 then l + 1 else l - 1) r
theorem lvE_app : ∀ (x y : List UInt8) (l : Int), lvE l (x ++ y) = lvE (lvE l x) y
  | [], y, l => rfl
  | c :: r, y, l => by rw [List.cons_append, lvE, lvE, lvE_app r]
theorem lvlF_app : ∀ (x y : List UInt8) (l : Int), lvlF l (x ++ y) = lvlF l x ++ lvlF (lvE l x) y
  | [], y, l => rfl
  | c :: r, y, l => by
    rw [List.cons_append, lvlF, lvlF, lvE]
    by_cases h : c = 91
    · rw [if_pos h, if_pos h, if_pos h, lvlF_app r, List.cons_append]
    · rw [if_neg h, if_neg h, if_neg h, lvlF_app r]
theorem addNode_new (l : List (List Int)) : addNode l 1 = l ++ [[0]] := by
  unfold addNode
  simp only [if_pos]
  rw [List.length_append, List.length_singleton, Nat.add_sub_cancel, List.getD_eq_getElem?_getD, List.getElem?_append_right (Nat.le_refl _), Nat.sub_self]
  rw [List.set_append, if_neg (Nat.lt_irrefl _), Nat.sub_self]
  rfl
theorem addNode_last (l : List (List Int)) (r : List Int) {x : Int} (hx : x ≠ 1) : addNode (l ++ [r]) x = l ++ [r ++ [x - 1]] := by
  unfold addNode
  simp only [if_neg hx]
  rw [List.length_append, List.length_singleton, Nat.add_sub_cancel, List.getD_eq_getElem?_getD, List.getElem?_append_right (Nat.le_refl _), Nat.sub_self]
  rw [List.set_append, if_neg (Nat.lt_irrefl _), Nat.sub_self]
  rfl
/-- both parsers -/
theorem rd_tr : ∀ (s cur : List UInt8) (o : Nat) (acc : List (List UInt8)), (o = 0 → cur = []) → (0 < o → cur ≠ []) → lvE 0 cur = (o : Int) →
    (rdL (acc.map lvl ++ (if o = 0 then [] else [lvl cur])) o s).2 = (trF cur o acc s).2 ∧ ((trF cur o acc s).2 = true → (rdL (acc.map lvl ++ (if o = 0 then [] else [lvl cur])) o s).1 = (trF cur o acc s).1.map lvl)
  | [], cur, o, acc, h0, h1, hl => by
    rw [rdL, trF]
    refine ⟨rfl, fun h => ?_⟩
    have : o = 0 := by simpa using h
    rw [if_pos this, List.append_nil]
  | c :: s, cur, o, acc, h0, h1, hl => by
    rw [rdL, trF]
    by_cases h91 : c = 91
    · rw [if_pos h91, if_pos h91]
      have ih := rd_tr s (cur ++ [c]) (o + 1) acc (by omega) (fun _ => by simp) (by rw [lvE_app, hl, lvE, if_pos h91, lvE]; omega)
      rw [if_neg (by omega)] at ih
      have e : addNode (acc.map lvl ++ (if o = 0 then [] else [lvl cur])) ((o : Int) + 1) = acc.map lvl ++ [lvl (cur ++ [c])] := by
        by_cases ho : o = 0
        · subst ho
          rw [if_pos rfl, List.append_nil, h0 rfl]
          show addNode (acc.map lvl) 1 = _
          rw [addNode_new, h91]; rfl
        · rw [if_neg ho, addNode_last _ _ (by omega)]
          unfold lvl
          rw [lvlF_app, hl]
          rw [lvlF, if_pos h91, lvlF]
          congr 4; omega
      rw [e]
      exact ih
    · rw [if_neg h91, if_neg h91]
      by_cases h93 : c = 93
      · rw [if_pos h93]
        by_cases ho : o = 0
        · rw [if_neg (by omega), if_pos ho]
          exact ⟨rfl, fun h => by cases h⟩
        · rw [if_pos ⟨h93, by omega⟩, if_neg ho]
          have el : lvE 0 (cur ++ [c]) = ((o - 1 : Nat) : Int) := by rw [lvE_app, hl, lvE, if_neg h91, lvE]; omega
          have ev : lvl (cur ++ [c]) = lvl cur := by
            unfold lvl
            rw [lvlF_app, lvlF, if_neg h91, lvlF, List.append_nil]
          by_cases h2 : o = 1
          · rw [if_pos h2]
            have ih := rd_tr s [] 0 (acc ++ [cur ++ [c]]) (fun _ => rfl) (by omega) rfl
            rw [if_pos rfl, List.append_nil, List.map_append, List.map_cons, List.map_nil, ev] at ih
            subst h2
            rw [if_neg (by omega)]
            exact ih
          · rw [if_neg h2]
            have ih := rd_tr s (cur ++ [c]) (o - 1) acc (by omega) (fun _ => by simp) el
            rw [if_neg (by omega), ev] at ih
            rw [if_neg ho]
            exact ih
      · rw [if_neg h93, if_neg (fun h => h93 h.1)]
        exact ⟨rfl, fun h => by cases h⟩
theorem rd_eq (s : List UInt8) : (rdL [] 0 s).2 = (trF [] 0 [] s).2 ∧ ((trF [] 0 [] s).2 = true → (rdL [] 0 s).1 = (trF [] 0 [] s).1.map lvl) := by
  have := rd_tr s [] 0 [] (fun _ => rfl) (by omega) rfl
  simpa using this
/-- what the program reads are brackets, and no more than there are -/
theorem tr_small : ∀ (s cur : List UInt8) (o : Nat) (acc : List (List UInt8)) (m : Nat), cur.length + s.length ≤ m → (∀ x ∈ acc, x.length ≤ m ∧ ∀ c ∈ x, c = 91 ∨ c = 93) → (∀ c ∈ cur, c = 91 ∨ c = 93) →
    (∀ x ∈ (trF cur o acc s).1, x.length ≤ m ∧ ∀ c ∈ x, c = 91 ∨ c = 93) ∧ (trF cur o acc s).1.length ≤ acc.length + s.length
  | [], cur, o, acc, m, hm, ha, hc => ⟨ha, Nat.le_refl _⟩
  | c :: s, cur, o, acc, m, hm, ha, hc => by
    rw [trF]
    rw [List.length_cons] at hm ⊢
    have none : (∀ x ∈ (([], false) : List (List UInt8) × Bool).1, x.length ≤ m ∧ ∀ c ∈ x, c = 91 ∨ c = 93) ∧ (([], false) : List (List UInt8) × Bool).1.length ≤ acc.length + (s.length + 1) := ⟨fun x hx => (by cases hx), Nat.zero_le _⟩
    have hcur : ∀ d : UInt8, (d = 91 ∨ d = 93) → ∀ c ∈ cur ++ [d], c = 91 ∨ c = 93 := fun d hd x hx => by
      rw [List.mem_append, List.mem_singleton] at hx
      rcases hx with hx | rfl
      · exact hc x hx
      · exact hd
    by_cases h91 : c = 91
    · rw [if_pos h91]
      have := tr_small s (cur ++ [c]) (o + 1) acc m (by rw [List.length_append, List.length_singleton]; omega) ha (hcur c (.inl h91))
      exact ⟨this.1, by omega⟩
    · rw [if_neg h91]
      by_cases h93 : c = 93
      · rw [if_pos h93]
        by_cases ho : o = 0
        · rw [if_pos ho]; exact none
        · rw [if_neg ho]
          by_cases h2 : o = 1
          · rw [if_pos h2]
            have := tr_small s [] 0 (acc ++ [cur ++ [c]]) m (by simp; omega) (fun x hx => by
              rw [List.mem_append, List.mem_singleton] at hx
              rcases hx with hx | rfl
              · exact ha x hx
              · exact ⟨by rw [List.length_append, List.length_singleton]; omega, hcur c (.inr h93)⟩) (fun c hc => by cases hc)
            rw [List.length_append, List.length_singleton] at this
            exact ⟨this.1, by omega⟩
          · rw [if_neg h2]
            have := tr_small s (cur ++ [c]) (o - 1) acc m (by rw [List.length_append, List.length_singleton]; omega) ha (hcur c (.inr h93))
            exact ⟨this.1, by omega⟩
      · rw [if_neg h93]; exact none
/-- how many nodes a text has that is read -/
theorem rd_total : ∀ (s : List UInt8) (out : List (List Int)) (o : Nat), (0 < o → out ≠ []) → (∀ r ∈ out, 1 ≤ r.length) → (rdL out o s).2 = true → 2 * total' (rdL out o s).1 + o = 2 * total' out + s.length ∧ ∀ r ∈ (rdL out o s).1, 1 ≤ r.length
  | [], out, o, h0, hr, h => by
    rw [rdL] at h ⊢
    have : o = 0 := by simpa using h
    exact ⟨by simp [this], hr⟩
  | c :: s, out, o, h0, hr, h => by
    rw [rdL] at h ⊢
    rw [List.length_cons]
    by_cases h91 : c = 91
    · rw [if_pos h91] at h ⊢
      by_cases ho : o = 0
      · subst ho
        have e : addNode out (((0 : Nat) : Int) + 1) = out ++ [[0]] := addNode_new out
        rw [e] at h ⊢
        have ih := rd_total s (out ++ [[0]]) (0 + 1) (fun _ => by simp) (fun r hr' => by
          rw [List.mem_append, List.mem_singleton] at hr'
          rcases hr' with hr' | rfl
          · exact hr r hr'
          · simp) h
        have et : total' (out ++ [[0]]) = total' out + 1 := by simp [total']
        exact ⟨by rw [et] at ih; omega, ih.2⟩
      · rcases List.eq_nil_or_concat out with e0 | ⟨l, r, e0⟩
        · exact absurd e0 (h0 (by omega))
        · rw [List.concat_eq_append] at e0
          subst e0
          rw [addNode_last _ _ (by omega)] at h ⊢
          have ih := rd_total s (l ++ [r ++ [(o : Int) + 1 - 1]]) (o + 1) (fun _ => by simp) (fun x hx => by
            rw [List.mem_append, List.mem_singleton] at hx
            rcases hx with hx | rfl
            · exact hr x (by simp [hx])
            · simp) h
          have et : total' (l ++ [r ++ [(o : Int) + 1 - 1]]) = total' (l ++ [r]) + 1 := by simp [total']; omega
          exact ⟨by rw [et] at ih; omega, ih.2⟩
    · rw [if_neg h91] at h ⊢
      by_cases h93 : c = 93 ∧ 0 < o
      · rw [if_pos h93] at h ⊢
        have ih := rd_total s out (o - 1) (fun _ => h0 h93.2) hr h
        exact ⟨by omega, ih.2⟩
      · rw [if_neg h93] at h; cases h
theorem len_total' : ∀ {f : List (List Int)}, (∀ r ∈ f, 1 ≤ r.length) → f.length ≤ total' f
  | [], _ => Nat.zero_le _
  | x :: f, h => by
    have h1 := len_total' (f := f) (fun r hr => h r (by simp [hr]))
    have h2 := h x (by simp)
    have e : total' (x :: f) = x.length + total' f := by simp [total']
    rw [e, List.length_cons]; omega
theorem rd_bd {s : List UInt8} (h : (rdL [] 0 s).2 = true) : (rdL [] 0 s).1.length + total' (rdL [] 0 s).1 ≤ s.length := by
  have h1 := rd_total s [] 0 (by omega) (fun r hr => by cases hr) h
  have h2 := len_total' h1.2
  have e : total' ([] : List (List Int)) = 0 := rfl
  omega
end Go.Proofs.Ytjmjdcfgbaepkaa.Tr
