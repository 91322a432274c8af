/-
  Plain functions and lemmas of chapter 4: rules of change. No program is named here.
-/
import Derived.Test.YthdelfhfglnhfabPlainB
namespace Go.Proofs.Ythdelfhfglnhfab
open Go.RowKit

/-- What stands in row k of a rule at place j. -/
def entOk (k j : Nat) (x : Int) : Bool := decide (0 ≤ x ∧ x ≤ 3) || (decide (x = -1) && decide (j = k))
def rowOkG (k : Nat) : Nat → List Int → Bool
  | _, [] => true
  | j, x :: r => entOk k j x && rowOkG k (j + 1) r
def rowsOkG (C : Nat) : Nat → List (List Int) → Bool
  | _, [] => true
  | k, l :: r => decide (l.length = C) && rowOkG k 0 l && rowsOkG C (k + 1) r
def ruleOk (c : Int) (rs : List (List Int)) : Bool := decide (1 ≤ c ∧ c ≤ 3) && decide ((rs.length : Int) = c) && rowsOkG c.toNat 0 rs
def startOk (zs : List Int) : Bool := urnOk zs && zs.all (fun z => decide (z ≤ 10))
def rowOf (rs : List (List Int)) (k : Nat) : List Int := rs[k]?.getD []

theorem rowOkG_yes {k j0 : Nat} {l : List Int} (h : rowOkG k j0 l = true) : ∀ j x, l[j]? = some x → (0 ≤ x ∧ x ≤ 3) ∨ (x = -1 ∧ j0 + j = k) := by
  induction l generalizing j0 with
  | nil => intro j x hx; simp at hx
  | cons y r ih =>
    simp only [rowOkG, Bool.and_eq_true] at h
    intro j x hx
    cases j with
    | zero =>
      simp at hx; subst hx
      have h1 := h.1
      simp only [entOk, Bool.or_eq_true, Bool.and_eq_true, decide_eq_true_eq] at h1
      exact h1
    | succ j =>
      have := ih h.2 j x (by simpa using hx)
      rcases this with h1 | h1
      · exact .inl h1
      · exact .inr ⟨h1.1, by omega⟩
theorem rowOkG_mk {k j0 : Nat} {l : List Int} (h : ∀ j x, l[j]? = some x → (0 ≤ x ∧ x ≤ 3) ∨ (x = -1 ∧ j0 + j = k)) : rowOkG k j0 l = true := by
  induction l generalizing j0 with
  | nil => rfl
  | cons y r ih =>
    simp only [rowOkG, Bool.and_eq_true]
    refine ⟨?_, ih fun j x hx => ?_⟩
    · have := h 0 y rfl
      simp only [entOk, Bool.or_eq_true, Bool.and_eq_true, decide_eq_true_eq]
      exact this
    · rcases h (j + 1) x (by simpa using hx) with h1 | h1
      · exact .inl h1
      · exact .inr ⟨h1.1, by omega⟩
theorem rowsOkG_yes {C k0 : Nat} {rs : List (List Int)} (h : rowsOkG C k0 rs = true) : ∀ (k : Nat) l, rs[k]? = some l → l.length = C ∧ rowOkG (k0 + k) 0 l = true := by
  induction rs generalizing k0 with
  | nil => intro k l hx; simp at hx
  | cons y r ih =>
    simp only [rowsOkG, Bool.and_eq_true, decide_eq_true_eq] at h
    intro k l hx
    cases k with
    | zero => simp at hx; subst hx; exact h.1
    | succ k =>
      have := ih h.2 k l (by simpa using hx)
      rw [show k0 + (k + 1) = k0 + 1 + k by omega]; exact this
theorem rowsOkG_mk {C k0 : Nat} {rs : List (List Int)} (h : ∀ (k : Nat) l, rs[k]? = some l → l.length = C ∧ rowOkG (k0 + k) 0 l = true) : rowsOkG C k0 rs = true := by
  induction rs generalizing k0 with
  | nil => rfl
  | cons y r ih =>
    simp only [rowsOkG, Bool.and_eq_true, decide_eq_true_eq]
    refine ⟨h 0 y rfl, ih fun k l hx => ?_⟩
    have := h (k + 1) l (by simpa using hx)
    rw [show k0 + 1 + k = k0 + (k + 1) by omega]; exact this
/-- A rule of C colours: each row has C numbers, 0 to 3, and -1 at most for the colour of the row itself. -/
structure Rule (C : Nat) (rs : List (List Int)) : Prop where
  pos : 1 ≤ C
  le : C ≤ 3
  len : rs.length = C
  rows : ∀ (k : Nat) l, rs[k]? = some l → l.length = C ∧ ∀ (j : Nat) x, l[j]? = some x → (0 ≤ x ∧ x ≤ 3) ∨ (x = -1 ∧ j = k)
theorem ruleOk_yes {c : Int} {rs : List (List Int)} (h : ruleOk c rs = true) : c = (c.toNat : Int) ∧ Rule c.toNat rs := by
  unfold ruleOk at h
  simp only [Bool.and_eq_true, decide_eq_true_eq] at h
  obtain ⟨⟨⟨h1, h2⟩, h3⟩, h4⟩ := h
  refine ⟨by omega, ⟨by omega, by omega, by omega, fun k l hl => ?_⟩⟩
  obtain ⟨e1, e2⟩ := rowsOkG_yes h4 k l hl
  exact ⟨e1, fun j x hx => by have := rowOkG_yes e2 j x hx; simpa using this⟩
theorem ruleOk_mk {C : Nat} {rs : List (List Int)} (h : Rule C rs) : ruleOk (C : Int) rs = true := by
  unfold ruleOk
  simp only [Bool.and_eq_true, decide_eq_true_eq]
  have h1 := h.pos; have h2 := h.le; have h3 := h.len
  refine ⟨⟨⟨by omega, by omega⟩, by omega⟩, ?_⟩
  rw [Int.toNat_natCast]
  refine rowsOkG_mk fun k l hl => ?_
  obtain ⟨e1, e2⟩ := h.rows k l hl
  exact ⟨e1, rowOkG_mk fun j x hx => by have := e2 j x hx; simpa using this⟩

/-- The ways of a word by a rule. -/
def rways (rs : List (List Int)) : List Int → List Int → Int
  | _, [] => 1
  | zs, x :: ws => max (ballsAt zs x) 0 * rways rs (addL zs (rowOf rs x.toNat)) ws
/-- All ways of m draws. -/
def rall (rs : List (List Int)) : Nat → List Int → Int
  | 0, _ => 1
  | m + 1, zs => nsum zs.length (fun c => max (zs[c]?.getD 0) 0 * rall rs m (addL zs (rowOf rs c)))
/-- Ways times the balls of a colour in the end. -/
def bsum (rs : List (List Int)) (col : Nat) : Nat → List Int → Int
  | 0, zs => zs[col]?.getD 0
  | m + 1, zs => nsum zs.length (fun c => max (zs[c]?.getD 0) 0 * bsum rs col m (addL zs (rowOf rs c)))
theorem rways_nonneg (rs : List (List Int)) (zs ws : List Int) : 0 ≤ rways rs zs ws := by
  induction ws generalizing zs with
  | nil => simp [rways]
  | cons x r ih => exact Int.mul_nonneg (by omega) (ih _)
theorem rowOf_len {C : Nat} {rs : List (List Int)} (h : Rule C rs) {c : Nat} (hc : c < C) : (rowOf rs c).length = C := by
  have hk := List.getElem?_eq_getElem (l := rs) (i := c) (by have := h.len; omega)
  unfold rowOf
  rw [hk]
  exact (h.rows c _ hk).1
theorem aft_len {C : Nat} {rs : List (List Int)} {zs : List Int} (h : Rule C rs) (hl : zs.length = C) {c : Nat} (hc : c < C) : (addL zs (rowOf rs c)).length = C := by
  rw [addL_len (by rw [hl, rowOf_len h hc]), hl]
/-- Each number stays in 0 to M + 3 if a ball of the colour was there. -/
theorem aft_mem {C : Nat} {rs : List (List Int)} {zs : List Int} {M z : Int} (h : Rule C rs) (hl : zs.length = C) {c : Nat} (hz : zs[c]? = some z) (h0 : 0 < z) (hm : ∀ y ∈ zs, 0 ≤ y ∧ y ≤ M) : ∀ y ∈ addL zs (rowOf rs c), 0 ≤ y ∧ y ≤ M + 3 := by
  have hc : c < C := by have := (List.getElem?_eq_some_iff.1 hz).1; omega
  intro y hy
  obtain ⟨j, hj, rfl⟩ := List.getElem_of_mem hy
  have hjl : j < C := by rw [aft_len h hl hc] at hj; exact hj
  have h1 := List.getElem?_eq_getElem (l := zs) (i := j) (by omega)
  have h2 := List.getElem?_eq_getElem (l := rowOf rs c) (i := j) (by rw [rowOf_len h hc]; exact hjl)
  have h3 := addL_at h1 h2
  rw [List.getElem?_eq_getElem hj] at h3
  injection h3 with h3
  rw [h3]
  have hb := hm zs[j] (List.getElem_mem _)
  obtain ⟨l, hk⟩ : ∃ l, rs[c]? = some l := ⟨_, List.getElem?_eq_getElem (by have := h.len; omega)⟩
  have hr := (h.rows c l hk).2 j _ (show l[j]? = some ((rowOf rs c)[j]'(by rw [rowOf_len h hc]; exact hjl)) by
    rw [← h2]; unfold rowOf; rw [hk]; rfl)
  rcases hr with hr | ⟨hr, hjc⟩
  · omega
  · subst hjc
    rw [h1] at hz
    injection hz with hz
    omega
theorem wsum_rways {C : Nat} {rs : List (List Int)} (h : Rule C rs) (m : Nat) (zs : List Int) (hl : zs.length = C) : wsum C m (rways rs zs) = rall rs m zs := by
  induction m generalizing zs with
  | zero => rfl
  | succ m ih =>
    simp only [wsum, rall]
    rw [hl]
    refine nsum_congr fun c hc => ?_
    have hk := List.getElem?_eq_getElem (l := zs) (i := c) (by omega)
    have hb : ballsAt zs (c : Int) = zs[c] := ballsAt_eq (by simp)
    have ec : ((c : Int)).toNat = c := by omega
    simp only [rways]
    rw [wsum_mul, hb, ec, hk, Option.getD_some, ih _ (aft_len h hl hc)]
/-- Row sums all alike. -/
def Even (C : Nat) (rs : List (List Int)) (e : Int) : Prop := ∀ c, c < C → isum (rowOf rs c) = e
def rprod (e : Int) : Nat → Int → Int
  | 0, _ => 1
  | m + 1, t => max t 0 * rprod e m (t + e)
theorem aft_sum {C : Nat} {rs : List (List Int)} {zs : List Int} {e : Int} (h : Rule C rs) (hl : zs.length = C) (he : Even C rs e) {c : Nat} (hc : c < C) : isum (addL zs (rowOf rs c)) = isum zs + e := by
  rw [isum_addL (by rw [hl, rowOf_len h hc]), he c hc]
theorem isum_nonneg {zs : List Int} (h : ∀ z ∈ zs, 0 ≤ z) : 0 ≤ isum zs := by
  induction zs with
  | nil => simp [isum]
  | cons z r ih => have := h z (by simp); have := ih (fun y hy => h y (by simp [hy])); simp only [isum]; omega
theorem rall_even {C : Nat} {rs : List (List Int)} {e : Int} (h : Rule C rs) (he : Even C rs e) (m : Nat) (zs : List Int) (M : Int) (hl : zs.length = C) (hm : ∀ y ∈ zs, 0 ≤ y ∧ y ≤ M) : rall rs m zs = rprod e m (isum zs) := by
  induction m generalizing zs M with
  | zero => rfl
  | succ m ih =>
    simp only [rall, rprod]
    have g : ∀ c, c < zs.length → max (zs[c]?.getD 0) 0 * rall rs m (addL zs (rowOf rs c)) = zs[c]?.getD 0 * rprod e m (isum zs + e) := by
      intro c hc
      have hk := List.getElem?_eq_getElem hc
      have hz := hm zs[c] (List.getElem_mem hc)
      rw [hk, Option.getD_some, Int.max_eq_left hz.1]
      rcases Int.lt_or_le 0 zs[c] with h0 | h0
      · rw [ih _ (M + 3) (aft_len h hl (by omega)) (aft_mem h hl hk h0 hm), aft_sum h hl he (by omega)]
      · have : zs[c] = 0 := by omega
        rw [this, Int.zero_mul, Int.zero_mul]
    rw [nsum_congr g, nsum_mulr, nsum_list, Int.max_eq_left (isum_nonneg fun z hz => (hm z hz).1)]
/-- Over all colours: all ways of one draw more. -/
theorem bsum_next {C : Nat} {rs : List (List Int)} (h : Rule C rs) (m : Nat) (zs : List Int) (M : Int) (hl : zs.length = C) (hm : ∀ y ∈ zs, 0 ≤ y ∧ y ≤ M) : nsum C (fun col => bsum rs col m zs) = rall rs (m + 1) zs := by
  induction m generalizing zs M with
  | zero =>
    simp only [bsum, rall]
    rw [hl]
    refine nsum_congr fun c hc => ?_
    have hk := List.getElem?_eq_getElem (l := zs) (i := c) (by omega)
    have hz := hm zs[c] (List.getElem_mem _)
    rw [hk, Option.getD_some, Int.max_eq_left hz.1, Int.mul_one]
  | succ m ih =>
    have e : nsum C (fun col => bsum rs col (m + 1) zs) = nsum C (fun c => nsum C (fun col => max (zs[c]?.getD 0) 0 * bsum rs col m (addL zs (rowOf rs c)))) := by
      rw [nsum_swap]
      exact nsum_congr fun col _ => by simp only [bsum]; rw [hl]
    rw [e]
    show _ = nsum zs.length (fun c => max (zs[c]?.getD 0) 0 * rall rs (m + 1) (addL zs (rowOf rs c)))
    rw [hl]
    refine nsum_congr fun c hc => ?_
    have hk := List.getElem?_eq_getElem (l := zs) (i := c) (by omega)
    have hz := hm zs[c] (List.getElem_mem _)
    rw [hk, Option.getD_some, nsum_mul]
    rcases Int.lt_or_le 0 zs[c] with h0 | h0
    · rw [ih _ (M + 3) (aft_len h hl hc) (aft_mem h hl hk h0 hm)]
    · rw [show max zs[c] 0 = 0 by omega, Int.zero_mul, Int.zero_mul]
theorem bsum_even {C : Nat} {rs : List (List Int)} {e : Int} (h : Rule C rs) (he : Even C rs e) (m : Nat) (zs : List Int) (M : Int) (hl : zs.length = C) (hm : ∀ y ∈ zs, 0 ≤ y ∧ y ≤ M) : nsum C (fun col => bsum rs col m zs) = (isum zs + m * e) * rall rs m zs := by
  induction m generalizing zs M with
  | zero =>
    simp only [bsum, rall]
    rw [← hl, nsum_list]; simp
  | succ m ih =>
    have e1 : nsum C (fun col => bsum rs col (m + 1) zs) = nsum C (fun c => nsum C (fun col => max (zs[c]?.getD 0) 0 * bsum rs col m (addL zs (rowOf rs c)))) := by
      rw [nsum_swap]
      exact nsum_congr fun col _ => by simp only [bsum]; rw [hl]
    rw [e1]
    simp only [rall]
    rw [hl, ← nsum_mul]
    refine nsum_congr fun c hc => ?_
    have hk := List.getElem?_eq_getElem (l := zs) (i := c) (by omega)
    have hz := hm zs[c] (List.getElem_mem _)
    rw [hk, Option.getD_some, nsum_mul]
    rcases Int.lt_or_le 0 zs[c] with h0 | h0
    · rw [ih _ (M + 3) (aft_len h hl hc) (aft_mem h hl hk h0 hm), aft_sum h hl he hc]
      have e2 : isum zs + e + (m : Int) * e = isum zs + ((m + 1 : Nat) : Int) * e := by rw [Int.natCast_add, Int.add_mul]; simp; omega
      rw [e2, Int.mul_left_comm]
    · rw [show max zs[c] 0 = 0 by omega, Int.zero_mul, Int.zero_mul, Int.mul_zero]
/-- The rule that puts in nothing. -/
def noRule (C : Nat) : List (List Int) := List.replicate C (List.replicate C 0)
/-- The rule that takes the drawn ball out. -/
def outRule (C : Nat) : List (List Int) := (List.range C).map (fun k => (List.replicate C 0).set k (-1))
theorem noRule_rule {C : Nat} (h1 : 1 ≤ C) (h3 : C ≤ 3) : Rule C (noRule C) := ⟨h1, h3, by simp [noRule], fun k l hl => by
  have hm := List.eq_of_mem_replicate (List.mem_of_getElem? hl)
  subst hm
  refine ⟨by simp, fun j x hx => ?_⟩
  have := List.eq_of_mem_replicate (List.mem_of_getElem? hx)
  omega⟩
theorem outRule_at {C k : Nat} (hk : k < C) : (outRule C)[k]? = some ((List.replicate C 0).set k (-1)) := by simp [outRule, hk]
theorem outRule_rule {C : Nat} (h1 : 1 ≤ C) (h3 : C ≤ 3) : Rule C (outRule C) := ⟨h1, h3, by simp [outRule], fun k l hl => by
  have hk : k < C := by have := (List.getElem?_eq_some_iff.1 hl).1; simpa [outRule] using this
  rw [outRule_at hk] at hl
  injection hl with hl
  subst hl
  refine ⟨by simp, fun j x hx => ?_⟩
  by_cases hjk : k = j
  · subst hjk
    rw [List.getElem?_set_self (by simpa using hk)] at hx
    injection hx with hx
    exact .inr ⟨hx.symm, rfl⟩
  · rw [List.getElem?_set_ne hjk] at hx
    have := List.eq_of_mem_replicate (List.mem_of_getElem? hx)
    omega⟩
theorem addL_zeros {zs : List Int} {n : Nat} (h : zs.length = n) : addL zs (List.replicate n 0) = zs := by
  apply List.ext_getElem?
  intro i
  rcases Nat.lt_or_ge i n with hi | hi
  · rw [addL_at (List.getElem?_eq_getElem (by omega)) (show (List.replicate n (0 : Int))[i]? = some 0 by rw [List.getElem?_replicate, if_pos hi]), List.getElem?_eq_getElem (by omega), Int.add_zero]
  · rw [List.getElem?_eq_none (by rw [addL_len (by simp [h])]; omega), List.getElem?_eq_none (by omega)]
theorem rways_no {C : Nat} {zs ws : List Int} (hl : zs.length = C) (hz : ∀ z ∈ zs, 0 ≤ z ∧ z ≤ 40) (hw : ∀ x ∈ ws, 0 ≤ x ∧ x < C) : rways (noRule C) zs ws = bw zs ws := by
  induction ws with
  | nil => rfl
  | cons x r ih =>
    have hx := hw x (by simp)
    have e : rowOf (noRule C) x.toNat = List.replicate C 0 := by
      unfold rowOf noRule
      rw [List.getElem?_replicate, if_pos (by omega)]; rfl
    simp only [rways, bw]
    rw [e, addL_zeros hl, ih (fun y hy => hw y (by simp [hy])), Int.max_eq_left (ballsAt_bounds hz (by decide) x).1]
theorem addL_out {C c : Nat} {zs : List Int} {z : Int} (hl : zs.length = C) (hz : zs[c]? = some z) : addL zs (rowOf (outRule C) c) = zs.set c (z - 1) := by
  have hc : c < C := by have := (List.getElem?_eq_some_iff.1 hz).1; omega
  have e : rowOf (outRule C) c = (List.replicate C 0).set c (-1) := by unfold rowOf; rw [outRule_at hc]; rfl
  rw [e]
  apply List.ext_getElem?
  intro i
  rcases Nat.lt_or_ge i C with hi | hi
  · have h1 := List.getElem?_eq_getElem (l := zs) (i := i) (by omega)
    by_cases hci : c = i
    · subst hci
      rw [addL_at h1 (List.getElem?_set_self (by simpa using hc)), List.getElem?_set_self (by omega)]
      rw [h1] at hz
      injection hz with hz
      rw [hz]; rfl
    · have h2 : ((List.replicate C (0 : Int)).set c (-1))[i]? = some 0 := by rw [List.getElem?_set_ne hci, List.getElem?_replicate, if_pos hi]
      rw [addL_at h1 h2, List.getElem?_set_ne hci, h1, Int.add_zero]
  · rw [List.getElem?_eq_none (by rw [addL_len (by simp [hl])]; omega), List.getElem?_eq_none (by rw [List.length_set]; omega)]
theorem rways_out {C : Nat} {zs ws : List Int} (hl : zs.length = C) (hw : ∀ x ∈ ws, 0 ≤ x ∧ x < C) : rways (outRule C) zs ws = ways zs ws := by
  induction ws generalizing zs with
  | nil => rfl
  | cons x r ih =>
    have hx := hw x (by simp)
    have hk := List.getElem?_eq_getElem (l := zs) (i := x.toNat) (by omega)
    simp only [rways, ways]
    rw [addL_out hl hk, ballsAt_eq hk, ih (by rw [List.length_set, hl]) (fun y hy => hw y (by simp [hy]))]

/-- What the draws of a word make of an urn. -/
def afterW (rs : List (List Int)) : List Int → List Int → Option (List Int)
  | zs, [] => some zs
  | zs, x :: ws => if ballsAt zs x < 1 then none else afterW rs (addL zs (rowOf rs x.toNat)) ws
theorem afterW_ways (rs : List (List Int)) (zs ws : List Int) : (afterW rs zs ws).isSome = true ↔ 0 < rways rs zs ws := by
  induction ws generalizing zs with
  | nil => simp [afterW, rways]
  | cons x r ih =>
    have e : rways rs zs (x :: r) = max (ballsAt zs x) 0 * rways rs (addL zs (rowOf rs x.toNat)) r := rfl
    rw [e]
    simp only [afterW]
    by_cases h : ballsAt zs x < 1
    · rw [if_pos h, show max (ballsAt zs x) 0 = 0 by omega, Int.zero_mul]; simp
    · rw [if_neg h, ih]
      have h2 := rways_nonneg rs (addL zs (rowOf rs x.toNat)) r
      rw [Int.max_eq_left (by omega)]
      constructor
      · intro h3
        exact Int.mul_pos (by omega) h3
      · intro h3
        rcases Int.lt_or_le 0 (rways rs (addL zs (rowOf rs x.toNat)) r) with h4 | h4
        · exact h4
        · have : rways rs (addL zs (rowOf rs x.toNat)) r = 0 := by omega
          rw [this, Int.mul_zero] at h3; omega
theorem afterW_good {C : Nat} {rs : List (List Int)} (h : Rule C rs) {zs ws us : List Int} {M : Int} (hl : zs.length = C) (hm : ∀ y ∈ zs, 0 ≤ y ∧ y ≤ M) (hw : ∀ x ∈ ws, 0 ≤ x ∧ x < C) (ha : afterW rs zs ws = some us) : us.length = C ∧ (∀ y ∈ us, 0 ≤ y ∧ y ≤ M + 3 * ws.length) ∧ ∀ e, Even C rs e → isum us = isum zs + e * ws.length := by
  induction ws generalizing zs M with
  | nil =>
    simp only [afterW, Option.some.injEq] at ha
    subst ha
    exact ⟨hl, by simpa using hm, fun e _ => by simp⟩
  | cons x r ih =>
    have hx := hw x (by simp)
    have hk := List.getElem?_eq_getElem (l := zs) (i := x.toNat) (by omega)
    have hb := ballsAt_eq hk
    simp only [afterW] at ha
    split at ha
    · cases ha
    · next h0 =>
      obtain ⟨e1, e2, e3⟩ := ih (aft_len h hl (by omega)) (aft_mem h hl hk (by omega) hm) (fun y hy => hw y (by simp [hy])) ha
      refine ⟨e1, fun y hy => ?_, fun e he => ?_⟩
      · have := e2 y hy
        rw [List.length_cons, Int.natCast_add]; omega
      · rw [e3 e he, aft_sum h hl he (by omega), List.length_cons, Int.natCast_add, Int.mul_add]; simp; omega
end Go.Proofs.Ythdelfhfglnhfab
