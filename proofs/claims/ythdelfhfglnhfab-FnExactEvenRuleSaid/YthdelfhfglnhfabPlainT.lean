/-
  Plain functions of chapter 4 as the contracts say them (with -1, nothing and false for others), and their bounds. No program is named here.
-/
import Derived.Test.YthdelfhfglnhfabPlainR
namespace Go.Proofs.Ythdelfhfglnhfab
open Go.RowKit

def begun (zs : List Int) (rs : List (List Int)) : Bool := startOk zs && ruleOk (zs.length : Int) rs
def afterC (zs : List Int) (rs : List (List Int)) (ws : List Int) : Bool := begun zs rs && wordOk (zs.length : Int) ws
def afterL (zs : List Int) (rs : List (List Int)) (ws : List Int) : List Int := if afterC zs rs ws then (afterW rs zs ws).getD [] else []
def afterOk (zs : List Int) (rs : List (List Int)) (ws : List Int) : Bool := afterC zs rs ws && (afterW rs zs ws).isSome
def ruleWays (zs : List Int) (rs : List (List Int)) (ws : List Int) : Int := if afterC zs rs ws then rways rs zs ws else -1
def ruleAll (zs : List Int) (rs : List (List Int)) (m : Int) : Int := if begun zs rs && decide (0 ≤ m ∧ m ≤ 6) then rall rs m.toNat zs else -1
def evenB (rs : List (List Int)) : Bool := rs.all (fun l => decide (isum l = isum (rowOf rs 0)))
def evenOk (c : Int) (rs : List (List Int)) : Bool := ruleOk c rs && evenB rs
def evenN (c : Int) (rs : List (List Int)) : Int := if evenOk c rs then isum (rowOf rs 0) else 0
def ballSum (zs : List Int) (rs : List (List Int)) (m col : Int) : Int := if begun zs rs && decide (0 ≤ m ∧ m ≤ 6) && decide (0 ≤ col ∧ col < zs.length) then bsum rs col.toNat m.toNat zs else -1

theorem startOk_yes {zs : List Int} (h : startOk zs = true) : urnOk zs = true ∧ ∀ z ∈ zs, 0 ≤ z ∧ z ≤ 10 := by
  unfold startOk at h
  simp only [Bool.and_eq_true, List.all_eq_true, decide_eq_true_eq] at h
  exact ⟨h.1, fun z hz => ⟨(urnOk_mem h.1 z hz).1, h.2 z hz⟩⟩
theorem startOk_mk {zs : List Int} (h : urnOk zs = true) (h2 : ∀ z ∈ zs, z ≤ 10) : startOk zs = true := by
  unfold startOk
  simp only [Bool.and_eq_true, List.all_eq_true, decide_eq_true_eq]
  exact ⟨h, h2⟩
theorem startOk_bad {zs : List Int} {k : Nat} {x : Int} (h : zs[k]? = some x) (hx : 10 < x) : startOk zs = false := by
  rw [Bool.eq_false_iff]
  intro hh
  have := (startOk_yes hh).2 x (List.mem_of_getElem? h)
  omega
theorem begun_yes {zs : List Int} {rs : List (List Int)} (h : begun zs rs = true) : urnOk zs = true ∧ (∀ z ∈ zs, 0 ≤ z ∧ z ≤ 10) ∧ Rule zs.length rs := by
  unfold begun at h
  simp only [Bool.and_eq_true] at h
  have h1 := startOk_yes h.1
  have h2 := (ruleOk_yes h.2).2
  rw [Int.toNat_natCast] at h2
  exact ⟨h1.1, h1.2, h2⟩
theorem afterC_yes {zs : List Int} {rs : List (List Int)} {ws : List Int} (h : afterC zs rs ws = true) : urnOk zs = true ∧ (∀ z ∈ zs, 0 ≤ z ∧ z ≤ 10) ∧ Rule zs.length rs ∧ ws.length ≤ 6 ∧ ∀ x ∈ ws, 0 ≤ x ∧ x < zs.length := by
  unfold afterC at h
  simp only [Bool.and_eq_true] at h
  obtain ⟨h1, h2, h3⟩ := begun_yes h.1
  obtain ⟨k1, k2, k3, k4⟩ := wordOk_yes h.2
  exact ⟨h1, h2, h3, by omega, k4⟩
theorem afterW_append (rs : List (List Int)) (zs a b : List Int) : afterW rs zs (a ++ b) = (afterW rs zs a).bind fun us => afterW rs us b := by
  induction a generalizing zs with
  | nil => rfl
  | cons x r ih =>
    simp only [List.cons_append, afterW]
    split
    · rfl
    · exact ih _
theorem rways_append {rs : List (List Int)} {zs a us : List Int} (b : List Int) (h : afterW rs zs a = some us) : rways rs zs (a ++ b) = rways rs zs a * rways rs us b := by
  induction a generalizing zs with
  | nil =>
    simp only [afterW, Option.some.injEq] at h
    subst h
    simp [rways]
  | cons x r ih =>
    simp only [afterW] at h
    split at h
    · cases h
    · simp only [List.cons_append, rways]
      rw [ih h, Int.mul_assoc]
theorem rways_none {rs : List (List Int)} {zs ws : List Int} (h : afterW rs zs ws = none) : rways rs zs ws = 0 := by
  have h1 := (afterW_ways rs zs ws)
  have h2 := rways_nonneg rs zs ws
  rw [h] at h1
  rcases Int.lt_or_le 0 (rways rs zs ws) with h3 | h3
  · have := h1.2 h3; cases this
  · omega
theorem rways_some {rs : List (List Int)} {zs ws us : List Int} (h : afterW rs zs ws = some us) : 0 < rways rs zs ws := (afterW_ways rs zs ws).1 (by rw [h]; rfl)
/-- One draw more behind the first k ones. -/
theorem afterW_step {rs : List (List Int)} {zs ws us : List Int} {k : Nat} {x : Int} (h : afterW rs zs (ws.take k) = some us) (hx : ws[k]? = some x) :
    (ballsAt us x < 1 → afterW rs zs ws = none ∧ afterW rs zs (ws.take (k + 1)) = none) ∧
    (¬ ballsAt us x < 1 → afterW rs zs (ws.take (k + 1)) = some (addL us (rowOf rs x.toNat)) ∧ rways rs zs (ws.take (k + 1)) = rways rs zs (ws.take k) * ballsAt us x) := by
  have e : ws = ws.take k ++ (x :: ws.drop (k + 1)) := by
    have hk := (List.getElem?_eq_some_iff.1 hx).1
    have := List.take_append_drop k ws
    rw [List.drop_eq_getElem_cons hk] at this
    have hg : ws[k] = x := (List.getElem?_eq_some_iff.1 hx).2
    rw [hg] at this
    exact this.symm
  refine ⟨fun hb => ⟨?_, ?_⟩, fun hb => ⟨?_, ?_⟩⟩
  · rw [e, afterW_append, h]
    simp only [Option.bind_some, afterW, if_pos hb]
  · rw [take_succ hx, afterW_append, h]
    simp only [Option.bind_some, afterW, if_pos hb]
  · rw [take_succ hx, afterW_append, h]
    simp only [Option.bind_some, afterW, if_neg hb]
  · rw [take_succ hx, rways_append _ h]
    simp only [rways]
    rw [Int.mul_one, Int.max_eq_left (by omega)]
/-- The urn behind the first k draws. -/
theorem afterW_take {C : Nat} {rs : List (List Int)} (h : Rule C rs) {zs ws us : List Int} (hl : zs.length = C) (hm : ∀ y ∈ zs, 0 ≤ y ∧ y ≤ 10) (hw : ∀ x ∈ ws, 0 ≤ x ∧ x < C) (h6 : ws.length ≤ 6) {k : Nat} (ha : afterW rs zs (ws.take k) = some us) : us.length = C ∧ ∀ y ∈ us, 0 ≤ y ∧ y ≤ 28 := by
  obtain ⟨e1, e2, _⟩ := afterW_good h hl hm (fun x hx => hw x (List.mem_of_mem_take hx)) ha
  refine ⟨e1, fun y hy => ?_⟩
  have := e2 y hy
  have h2 : (ws.take k).length ≤ ws.length := List.length_take_le' _ _
  omega
theorem pow28 (k : Nat) (h : k ≤ 6) : (28 : Int) ^ k ≤ 481890304 := by
  match k, h with
  | 0, _ | 1, _ | 2, _ | 3, _ | 4, _ | 5, _ | 6, _ => decide
theorem pow84 (k : Nat) (h : k ≤ 6) : (84 : Int) ^ k ≤ 351298031616 := by
  match k, h with
  | 0, _ | 1, _ | 2, _ | 3, _ | 4, _ | 5, _ | 6, _ => decide
theorem rways_bound {C : Nat} {rs : List (List Int)} (h : Rule C rs) {zs ws : List Int} {M : Int} (hl : zs.length = C) (hm : ∀ y ∈ zs, 0 ≤ y ∧ y ≤ M) (hw : ∀ x ∈ ws, 0 ≤ x ∧ x < C) (hM : M + 3 * ws.length ≤ 28) : rways rs zs ws ≤ 28 ^ ws.length := by
  induction ws generalizing zs M with
  | nil => simp [rways]
  | cons x r ih =>
    have hx := hw x (by simp)
    have hk := List.getElem?_eq_getElem (l := zs) (i := x.toNat) (by omega)
    have hb := ballsAt_eq hk
    have hz := hm zs[x.toNat] (List.getElem_mem _)
    rw [List.length_cons] at hM ⊢
    simp only [rways]
    rw [hb, Int.max_eq_left hz.1, Int.pow_succ, Int.mul_comm (28 ^ r.length)]
    rcases Int.lt_or_le 0 zs[x.toNat] with h0 | h0
    · exact Int.mul_le_mul (by omega) (ih (aft_len h hl (by omega)) (aft_mem h hl hk h0 hm) (fun y hy => hw y (by simp [hy])) (by rw [Int.natCast_add] at hM; omega)) (rways_nonneg _ _ _) (by decide)
    · have : zs[x.toNat] = 0 := by omega
      rw [this, Int.zero_mul]
      exact Int.mul_nonneg (by decide) (Int.pow_nonneg (by decide))
theorem nsum_le {n C : Nat} {f : Nat → Int} {B : Int} (hn : n ≤ C) (hB : 0 ≤ B) (h : ∀ k, k < C → 0 ≤ f k ∧ f k ≤ B) : 0 ≤ nsum n f ∧ nsum n f ≤ C * B := by
  have h1 := nsum_bounds (n := n) (f := f) (M := B) (fun q hq => h q (by omega))
  refine ⟨h1.1, Int.le_trans h1.2 ?_⟩
  rw [Int.mul_comm]
  exact Int.mul_le_mul_of_nonneg_right (show (n : Int) ≤ C by omega) hB
theorem rall_nonneg (rs : List (List Int)) (m : Nat) (zs : List Int) : 0 ≤ rall rs m zs := by
  induction m generalizing zs with
  | zero => simp [rall]
  | succ m ih =>
    simp only [rall]
    have : ∀ n (f : Nat → Int), (∀ k, 0 ≤ f k) → 0 ≤ nsum n f := fun n f hf => by
      induction n with
      | zero => simp [nsum]
      | succ n ihn => have := hf n; simp only [nsum]; omega
    exact this _ _ fun k => Int.mul_nonneg (by omega) (ih _)
/-- One way of one draw more: by a colour that is there, or nothing. -/
theorem way_bound {C m : Nat} {rs : List (List Int)} (h : Rule C rs) {zs : List Int} {M : Int} {P : Int} {F : List Int → Int} (hP : 0 ≤ P) (hl : zs.length = C) (hm : ∀ y ∈ zs, 0 ≤ y ∧ y ≤ M) (hM : M + 3 * ((m + 1 : Nat) : Int) ≤ 28)
    (ih : ∀ us : List Int, us.length = C → (∀ y ∈ us, 0 ≤ y ∧ y ≤ M + 3) → 0 ≤ F us ∧ F us ≤ P) {c : Nat} (hc : c < C) : 0 ≤ max (zs[c]?.getD 0) 0 * F (addL zs (rowOf rs c)) ∧ max (zs[c]?.getD 0) 0 * F (addL zs (rowOf rs c)) ≤ 28 * P := by
  have hk := List.getElem?_eq_getElem (l := zs) (i := c) (by omega)
  have hz := hm zs[c] (List.getElem_mem _)
  rw [hk, Option.getD_some, Int.max_eq_left hz.1]
  rcases Int.lt_or_le 0 zs[c] with h0 | h0
  · obtain ⟨b0, b1⟩ := ih _ (aft_len h hl hc) (aft_mem h hl hk h0 hm)
    exact ⟨Int.mul_nonneg hz.1 b0, Int.mul_le_mul (by omega) b1 b0 (by decide)⟩
  · have e : zs[c] = 0 := by omega
    rw [e, Int.zero_mul]
    exact ⟨Int.le_refl _, Int.mul_nonneg (by decide) hP⟩
theorem p84 (m : Nat) : (0 : Int) ≤ 84 ^ m := Int.pow_nonneg (by decide)
theorem rall_bound {C : Nat} {rs : List (List Int)} (h : Rule C rs) (m : Nat) {zs : List Int} {M : Int} (hl : zs.length = C) (hm : ∀ y ∈ zs, 0 ≤ y ∧ y ≤ M) (hM : M + 3 * (m : Int) ≤ 28) : 0 ≤ rall rs m zs ∧ rall rs m zs ≤ 84 ^ m := by
  induction m generalizing zs M with
  | zero => simp [rall]
  | succ m ih =>
    have hw : ∀ c, c < C → _ := fun c hc => way_bound (m := m) (F := rall rs m) h (p84 m) hl hm hM (fun us h1 h2 => ih h1 h2 (by rw [Int.natCast_add] at hM; omega)) hc
    have hs := nsum_le (n := zs.length) (C := C) (B := 28 * 84 ^ m) (by omega) (Int.mul_nonneg (by decide) (p84 m)) hw
    simp only [rall]
    refine ⟨hs.1, Int.le_trans hs.2 ?_⟩
    rw [Int.pow_succ, Int.mul_comm (84 ^ m)]
    have h3 := h.le
    have := Int.mul_le_mul_of_nonneg_right (show (C : Int) ≤ 3 by omega) (Int.mul_nonneg (show (0 : Int) ≤ 28 by decide) (p84 m))
    omega
theorem bsum_bound {C : Nat} {rs : List (List Int)} (h : Rule C rs) (col : Nat) (m : Nat) {zs : List Int} {M : Int} (hl : zs.length = C) (hm : ∀ y ∈ zs, 0 ≤ y ∧ y ≤ M) (hM : M + 3 * (m : Int) ≤ 28) : 0 ≤ bsum rs col m zs ∧ bsum rs col m zs ≤ 28 * 84 ^ m := by
  induction m generalizing zs M with
  | zero =>
    simp only [bsum, Int.pow_zero, Int.mul_one]
    rcases Nat.lt_or_ge col zs.length with hc | hc
    · rw [List.getElem?_eq_getElem hc, Option.getD_some]
      have := hm zs[col] (List.getElem_mem _)
      omega
    · rw [List.getElem?_eq_none hc]; decide
  | succ m ih =>
    have hw : ∀ c, c < C → _ := fun c hc => way_bound (m := m) (F := bsum rs col m) h (Int.mul_nonneg (by decide) (p84 m)) hl hm hM (fun us h1 h2 => ih h1 h2 (by rw [Int.natCast_add] at hM; omega)) hc
    have hs := nsum_le (n := zs.length) (C := C) (B := 28 * (28 * 84 ^ m)) (by omega) (Int.mul_nonneg (by decide) (Int.mul_nonneg (by decide) (p84 m))) hw
    simp only [bsum]
    refine ⟨hs.1, Int.le_trans hs.2 ?_⟩
    rw [Int.pow_succ, Int.mul_comm (84 ^ m)]
    have h3 := h.le
    have h4 := p84 m
    have := Int.mul_le_mul_of_nonneg_right (show (C : Int) ≤ 3 by omega) (Int.mul_nonneg (show (0 : Int) ≤ 28 by decide) (Int.mul_nonneg (show (0 : Int) ≤ 28 by decide) h4))
    omega
theorem evenB_yes {rs : List (List Int)} (h : evenB rs = true) : ∀ (k : Nat) l, rs[k]? = some l → isum l = isum (rowOf rs 0) := fun k l hl => by
  unfold evenB at h
  simp only [List.all_eq_true, decide_eq_true_eq] at h
  exact h l (List.mem_of_getElem? hl)
theorem evenB_mk {rs : List (List Int)} (h : ∀ (k : Nat) l, k < rs.length → rs[k]? = some l → isum l = isum (rowOf rs 0)) : evenB rs = true := by
  unfold evenB
  simp only [List.all_eq_true, decide_eq_true_eq]
  intro l hl
  obtain ⟨j, hj, rfl⟩ := List.getElem_of_mem hl
  exact h j _ hj (List.getElem?_eq_getElem hj)
theorem evenB_bad {rs : List (List Int)} {k : Nat} {l : List Int} (hl : rs[k]? = some l) (h : isum l ≠ isum (rowOf rs 0)) : evenB rs = false := by
  rw [Bool.eq_false_iff]
  exact fun hh => h (evenB_yes hh k l hl)
theorem even_of {c : Int} {rs : List (List Int)} (h : evenOk c rs = true) : Even c.toNat rs (isum (rowOf rs 0)) := by
  unfold evenOk at h
  simp only [Bool.and_eq_true] at h
  have h2 := (ruleOk_yes h.1).2
  intro k hk
  have hl := List.getElem?_eq_getElem (l := rs) (i := k) (by have := h2.len; omega)
  have := evenB_yes h.2 k _ hl
  unfold rowOf
  rw [hl]
  exact this
theorem row_sum {C : Nat} {rs : List (List Int)} (h : Rule C rs) {k : Nat} {l : List Int} (hl : rs[k]? = some l) : l.length = C ∧ (∀ x ∈ l, -1 ≤ x ∧ x ≤ 3) ∧ -1 ≤ isum l ∧ isum l ≤ 9 := by
  obtain ⟨e1, e2⟩ := h.rows k l hl
  have hm : ∀ x ∈ l, -1 ≤ x ∧ x ≤ 3 := fun x hx => by
    obtain ⟨j, hj, rfl⟩ := List.getElem_of_mem hx
    rcases e2 j _ (List.getElem?_eq_getElem hj) with h1 | h1 <;> omega
  refine ⟨e1, hm, ?_⟩
  have h1 := h.pos; have h3 := h.le
  have hk : k < C := by have := (List.getElem?_eq_some_iff.1 hl).1; have := h.len; omega
  have q : ∀ (j : Nat) x, l[j]? = some x → (0 ≤ x ∧ x ≤ 3) ∨ (x = -1 ∧ j = k) := e2
  match l, e1 with
  | [a], e1 => have a0 := q 0 a rfl; simp only [isum, List.length_cons, List.length_nil] at *; omega
  | [a, b], e1 => have a0 := q 0 a rfl; have b0 := q 1 b rfl; simp only [isum]; omega
  | [a, b, c], e1 => have a0 := q 0 a rfl; have b0 := q 1 b rfl; have c0 := q 2 c rfl; simp only [isum]; omega
  | [], e1 => simp at e1; omega
  | _ :: _ :: _ :: _ :: _, e1 => simp at e1; omega
end Go.Proofs.Ythdelfhfglnhfab
