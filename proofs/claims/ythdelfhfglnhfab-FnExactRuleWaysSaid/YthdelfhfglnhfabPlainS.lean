/-
  Sums over all words: plain lemmas. No program is named here.
-/
import Derived.Test.YthdelfhfglnhfabPlainX
namespace Go.Proofs.Ythdelfhfglnhfab
open Go.RowKit

/-- The sum over the numbers below n. -/
def nsum : Nat → (Nat → Int) → Int
  | 0, _ => 0
  | n + 1, f => nsum n f + f n
theorem nsum_congr {n : Nat} {f g : Nat → Int} (h : ∀ k, k < n → f k = g k) : nsum n f = nsum n g := by
  induction n with
  | zero => rfl
  | succ n ih => simp only [nsum]; rw [ih (fun k hk => h k (by omega)), h n (by omega)]
theorem nsum_add (n : Nat) (f g : Nat → Int) : nsum n (fun k => f k + g k) = nsum n f + nsum n g := by
  induction n with
  | zero => rfl
  | succ n ih => simp only [nsum, ih]; omega
theorem nsum_mul (n : Nat) (a : Int) (f : Nat → Int) : nsum n (fun k => a * f k) = a * nsum n f := by
  induction n with
  | zero => simp [nsum]
  | succ n ih => simp only [nsum, ih, Int.mul_add]
theorem nsum_mulr (n : Nat) (a : Int) (f : Nat → Int) : nsum n (fun k => f k * a) = nsum n f * a := by
  induction n with
  | zero => simp [nsum]
  | succ n ih => simp only [nsum, ih, Int.add_mul]
theorem nsum_zero (n : Nat) : nsum n (fun _ => 0) = 0 := by
  induction n with
  | zero => rfl
  | succ n ih => simp only [nsum, ih]; rfl
theorem nsum_swap (n m : Nat) (f : Nat → Nat → Int) : nsum n (fun i => nsum m (fun j => f i j)) = nsum m (fun j => nsum n (fun i => f i j)) := by
  induction n with
  | zero => simp only [nsum]; exact (nsum_zero m).symm
  | succ n ih => simp only [nsum, ih]; rw [nsum_add]
theorem nsum_append (n m : Nat) (f : Nat → Int) : nsum (n + m) f = nsum n f + nsum m (fun k => f (n + k)) := by
  induction m with
  | zero => simp [nsum]
  | succ m ih => show nsum (n + m) f + f (n + m) = nsum n f + (nsum m (fun k => f (n + k)) + f (n + m)); rw [ih]; omega
theorem nsum_split (C N : Nat) (f : Nat → Int) : nsum (C * N) f = nsum N (fun q => nsum C (fun c => f (C * q + c))) := by
  induction N with
  | zero => rfl
  | succ N ih => rw [Nat.mul_succ, nsum_append, ih]; rfl
theorem nsum_bounds {n : Nat} {f : Nat → Int} {M : Int} (h : ∀ k, k < n → 0 ≤ f k ∧ f k ≤ M) : 0 ≤ nsum n f ∧ nsum n f ≤ M * n := by
  induction n with
  | zero => simp [nsum]
  | succ n ih =>
    have h1 := ih (fun k hk => h k (by omega))
    have h2 := h n (by omega)
    have e : M * ((n + 1 : Nat) : Int) = M * (n : Int) + M := by rw [Int.natCast_add, Int.mul_add]; simp
    rw [e]; simp only [nsum]; omega
theorem nsum_only {n j : Nat} (hj : j < n) (v : Int) : nsum n (fun k => if k = j then v else 0) = v := by
  induction n with
  | zero => omega
  | succ n ih =>
    simp only [nsum]
    rcases Nat.lt_or_ge j n with h | h
    · rw [ih h, if_neg (by omega)]; omega
    · obtain rfl : j = n := by omega
      rw [if_pos rfl, nsum_congr (g := fun _ => 0) (fun k hk => if_neg (by omega)), nsum_zero]; omega
theorem nsum_list (zs : List Int) : nsum zs.length (fun k => zs[k]?.getD 0) = isum zs := by
  induction zs with
  | nil => rfl
  | cons z r ih =>
    have h : nsum (1 + r.length) (fun k => (z :: r)[k]?.getD 0) = _ := nsum_append 1 r.length _
    rw [List.length_cons, Nat.add_comm r.length 1, h]
    have e : nsum r.length (fun k => (z :: r)[1 + k]?.getD 0) = nsum r.length (fun k => r[k]?.getD 0) := nsum_congr (fun k _ => by rw [Nat.add_comm 1 k]; rfl)
    rw [e, ih]; simp [nsum, isum]

/-- The digits of a number, the lowest first. -/
def digs (C : Nat) : Nat → Nat → List Int
  | 0, _ => []
  | m + 1, k => ((k % C : Nat) : Int) :: digs C m (k / C)
theorem digs_len (C m k : Nat) : (digs C m k).length = m := by
  induction m generalizing k with
  | zero => rfl
  | succ m ih => simp [digs, ih]
theorem digs_mem {C : Nat} (hC : 0 < C) (m k : Nat) : ∀ x ∈ digs C m k, 0 ≤ x ∧ x < C := by
  induction m generalizing k with
  | zero => intro x hx; cases hx
  | succ m ih =>
    intro x hx
    rcases List.mem_cons.1 hx with h | h
    · have := Nat.mod_lt k hC; omega
    · exact ih _ x h
theorem digs_at {C : Nat} (m k j : Nat) (hj : j < m) : (digs C m k)[j]? = some (((k / C ^ j) % C : Nat) : Int) := by
  induction m generalizing k j with
  | zero => omega
  | succ m ih =>
    cases j with
    | zero => simp [digs]
    | succ j =>
      simp only [digs, List.getElem?_cons_succ]
      rw [ih _ _ (by omega), Nat.div_div_eq_div_mul, Nat.pow_succ, Nat.mul_comm C]
/-- The sum over all words of m draws of C colours. -/
def wsum (C : Nat) : Nat → (List Int → Int) → Int
  | 0, g => g []
  | m + 1, g => nsum C (fun c => wsum C m (fun ws => g ((c : Int) :: ws)))
theorem nsum_digs {C : Nat} (hC : 0 < C) (m : Nat) (g : List Int → Int) : nsum (C ^ m) (fun k => g (digs C m k)) = wsum C m g := by
  induction m generalizing g with
  | zero => simp [nsum, wsum, digs]
  | succ m ih =>
    rw [Nat.pow_succ, Nat.mul_comm, nsum_split, nsum_swap]
    simp only [wsum]
    refine nsum_congr fun c hc => ?_
    rw [← ih]
    refine nsum_congr fun q _ => ?_
    have h1 : (C * q + c) % C = c := by rw [Nat.mul_add_mod, Nat.mod_eq_of_lt hc]
    have h2 : (C * q + c) / C = q := by rw [Nat.mul_add_div hC, Nat.div_eq_of_lt hc]; rfl
    simp only [digs, h1, h2]
theorem wsum_congr {C m : Nat} {g h : List Int → Int} (e : ∀ ws : List Int, ws.length = m → (∀ x ∈ ws, 0 ≤ x ∧ x < C) → g ws = h ws) : wsum C m g = wsum C m h := by
  induction m generalizing g h with
  | zero => exact e [] rfl (fun _ h => by cases h)
  | succ m ih =>
    simp only [wsum]
    refine nsum_congr fun c hc => ih fun ws hl hw => ?_
    exact e _ (by simp [hl]) (fun x hx => by
      rcases List.mem_cons.1 hx with h | h
      · omega
      · exact hw x h)
theorem wsum_mul (C m : Nat) (a : Int) (g : List Int → Int) : wsum C m (fun ws => a * g ws) = a * wsum C m g := by
  induction m generalizing g with
  | zero => rfl
  | succ m ih => simp only [wsum]; rw [← nsum_mul]; exact nsum_congr fun c _ => ih _
theorem wsum_zero (C m : Nat) : wsum C m (fun _ => 0) = 0 := by
  induction m with
  | zero => rfl
  | succ m ih => simp only [wsum, ih]; exact nsum_zero C
theorem wsum_nsum (C m n : Nat) (f : Nat → List Int → Int) : wsum C m (fun ws => nsum n (fun i => f i ws)) = nsum n (fun i => wsum C m (f i)) := by
  induction m generalizing f with
  | zero => rfl
  | succ m ih =>
    simp only [wsum]
    rw [nsum_swap]
    exact nsum_congr fun c _ => ih _
theorem wsum_single {B : Nat} (l : List Int) (h : ∀ x ∈ l, 0 ≤ x ∧ x < B) (v : Int) : wsum B l.length (fun cs => if l = cs then v else 0) = v := by
  induction l with
  | nil => simp [wsum]
  | cons x r ih =>
    have hx := h x (by simp)
    have ih := ih (fun y hy => h y (by simp [hy]))
    simp only [List.length_cons, wsum]
    have e : ∀ c, c < B → wsum B r.length (fun ws => if x :: r = (c : Int) :: ws then v else 0) = if c = x.toNat then v else 0 := by
      intro c hc
      by_cases hcx : c = x.toNat
      · rw [if_pos hcx]
        refine Eq.trans (wsum_congr fun ws _ _ => ?_) ih
        have : x = (c : Int) := by omega
        simp [this]
      · rw [if_neg hcx]
        refine Eq.trans (wsum_congr (h := fun _ => 0) fun ws _ _ => ?_) (wsum_zero _ _)
        have : ¬ x = (c : Int) := by omega
        simp [this]
    rw [nsum_congr e]
    exact nsum_only (by omega) v

theorem isum_set' {zs : List Int} {k : Nat} (h : k < zs.length) (y : Int) : isum (zs.set k y) = isum zs - zs[k] + y := isum_set (List.getElem?_eq_getElem h) y
theorem wsum_ways {C : Nat} (m : Nat) (zs : List Int) (hl : zs.length = C) (h : ∀ z ∈ zs, 0 ≤ z) : wsum C m (ways zs) = fall (isum zs) m := by
  induction m generalizing zs with
  | zero => rfl
  | succ m ih =>
    have hs : 0 ≤ isum zs := by
      clear hl ih
      induction zs with
      | nil => simp [isum]
      | cons z r ih => have := h z (by simp); have := ih (fun y hy => h y (by simp [hy])); simp only [isum]; omega
    have e : ∀ c, c < C → wsum C m (fun ws => ways zs ((c : Int) :: ws)) = (zs[c]?.getD 0) * fall (isum zs - 1) m := by
      intro c hc
      have hk := List.getElem?_eq_getElem (l := zs) (i := c) (by omega)
      have hz := h zs[c] (List.getElem_mem _)
      have hb : ballsAt zs (c : Int) = zs[c] := ballsAt_eq (by simp)
      have ec : ((c : Int)).toNat = c := by omega
      simp only [ways]
      rw [wsum_mul, hb, ec, hk, Option.getD_some, Int.max_eq_left hz]
      rcases Int.lt_or_le 0 zs[c] with h0 | h0
      · rw [ih _ (by rw [List.length_set, hl]) (fun z hm => by
          rcases List.mem_or_eq_of_mem_set hm with h1 | h1
          · exact h z h1
          · omega), isum_set' (by omega)]
        rw [show isum zs - zs[c] + (zs[c] - 1) = isum zs - 1 by omega]
      · have : zs[c] = 0 := by omega
        rw [this]; simp
    simp only [wsum]
    rw [nsum_congr e, nsum_mulr, ← hl, nsum_list]
    simp only [fall]
    rw [Int.max_eq_left hs]

/-! Rows of counts -/
theorem row_split {c : Int} {cs : List Int} (h : countRowOk c cs = true) : (∃ a : Nat, a < 7 ∧ cs = [(a : Int)]) ∨ (∃ a b : Nat, a < 7 ∧ b < 7 ∧ a + b ≤ 6 ∧ cs = [(a : Int), (b : Int)]) ∨ (∃ a b d : Nat, a < 7 ∧ b < 7 ∧ d < 7 ∧ a + b + d ≤ 6 ∧ cs = [(a : Int), (b : Int), (d : Int)]) := by
  obtain ⟨h1, h2, h3, h4, h5⟩ := countRowOk_yes h
  match cs, h3, h4, h5 with
  | [], h3, _, _ => simp at h3; omega
  | [a], _, h4, h5 =>
    have := h4 a (by simp)
    exact .inl ⟨a.toNat, by omega, by rw [Int.toNat_of_nonneg this.1]⟩
  | [a, b], _, h4, h5 =>
    have ha := h4 a (by simp)
    have hb := h4 b (by simp)
    simp [isum] at h5
    exact .inr (.inl ⟨a.toNat, b.toNat, by omega, by omega, by omega, by rw [Int.toNat_of_nonneg ha.1, Int.toNat_of_nonneg hb.1]⟩)
  | [a, b, d], _, h4, h5 =>
    have ha := h4 a (by simp)
    have hb := h4 b (by simp)
    have hd := h4 d (by simp)
    simp [isum] at h5
    exact .inr (.inr ⟨a.toNat, b.toNat, d.toNat, by omega, by omega, by omega, by omega, by rw [Int.toNat_of_nonneg ha.1, Int.toNat_of_nonneg hb.1, Int.toNat_of_nonneg hd.1]⟩)
  | _ :: _ :: _ :: _ :: _, h3, _, _ => simp at h3; omega
/-- What is checked of each row. -/
def less (cs : List Int) (c : Nat) : List Int := cs.set c (cs[c]?.getD 0 - 1)
def recSum (cs : List Int) : Int := nsum cs.length (fun c => if 0 < cs[c]?.getD 0 then mult (less cs c) else 0)
def rowFine (cs : List Int) : Bool := decide (1 ≤ mult cs) && decide (mult cs.reverse = mult cs) && (decide (isum cs = 0) || decide (recSum cs = mult cs)) && (decide (isum cs ≠ 0) || decide (mult cs = 1))
theorem fine1 : ∀ a : Nat, a < 7 → rowFine [(a : Int)] = true := by decide +kernel
theorem fine2 : ∀ a : Nat, a < 7 → ∀ b : Nat, b < 7 → a + b ≤ 6 → rowFine [(a : Int), (b : Int)] = true := by decide +kernel
theorem fine3 : ∀ a : Nat, a < 7 → ∀ b : Nat, b < 7 → ∀ d : Nat, d < 7 → a + b + d ≤ 6 → rowFine [(a : Int), (b : Int), (d : Int)] = true := by decide +kernel
theorem row_fine {c : Int} {cs : List Int} (h : countRowOk c cs = true) : 1 ≤ mult cs ∧ mult cs.reverse = mult cs ∧ (isum cs ≠ 0 → recSum cs = mult cs) ∧ (isum cs = 0 → mult cs = 1) := by
  have hf : rowFine cs = true := by
    rcases row_split h with ⟨a, ha, rfl⟩ | ⟨a, b, ha, hb, hs, rfl⟩ | ⟨a, b, d, ha, hb, hd, hs, rfl⟩
    · exact fine1 a ha
    · exact fine2 a ha b hb hs
    · exact fine3 a ha b hb d hd hs
  unfold rowFine at hf
  simp only [Bool.and_eq_true, Bool.or_eq_true, decide_eq_true_eq] at hf
  obtain ⟨⟨⟨h1, h2⟩, h3⟩, h4⟩ := hf
  exact ⟨h1, h2, fun h => h3.resolve_left h, fun h => h4.resolve_left (fun hn => hn h)⟩
theorem less_row {c : Int} {cs : List Int} {k : Nat} {x : Int} (h : countRowOk c cs = true) (hx : cs[k]? = some x) (h0 : 0 < x) : countRowOk c (less cs k) = true ∧ isum (less cs k) = isum cs - 1 := by
  obtain ⟨h1, h2, h3, h4, h5⟩ := countRowOk_yes h
  have e : less cs k = cs.set k (x - 1) := by unfold less; rw [hx]; rfl
  have es : isum (cs.set k (x - 1)) = isum cs - 1 := by rw [isum_set hx]; omega
  rw [e]
  refine ⟨countRowOk_mk h1 h2 (by rw [List.length_set]; exact h3) (fun j y hj hy => ?_) (by omega), es⟩
  rcases List.mem_or_eq_of_mem_set (List.mem_of_getElem? hy) with hm | hm
  · exact h4 y hm
  · have := h4 x (List.mem_of_getElem? hx); omega
theorem cntL_cons {C : Nat} {ws : List Int} {c : Nat} (_hc : c < C) : cntL C ((c : Int) :: ws) = (cntL C ws).set c ((ws.count (c : Int) : Int) + 1) := by
  apply List.ext_getElem
  · simp [cntL]
  · intro i h2 h3
    rw [List.getElem_set]
    split
    · next e => subst e; simp [cntL, List.count_cons]
    · next e =>
      have : ¬ (c : Int) = (i : Int) := by omega
      simp [cntL, List.count_cons, this]
theorem isum_cntL {C : Nat} (ws : List Int) (h : ∀ x ∈ ws, 0 ≤ x ∧ x < C) : isum (cntL C ws) = ws.length := by
  induction ws with
  | nil => rw [cntL_nil, isum_zeros]; rfl
  | cons x r ih =>
    have hx := h x (by simp)
    have e : x = ((x.toNat : Nat) : Int) := by omega
    rw [e, cntL_cons (by omega), isum_set (cntL_at C r x.toNat (by omega)), ih (fun y hy => h y (by simp [hy])), List.length_cons]
    omega
theorem cntL_len (C : Nat) (ws : List Int) : (cntL C ws).length = C := by simp [cntL]
theorem cntL_mem {C : Nat} {ws : List Int} : ∀ x ∈ cntL C ws, 0 ≤ x ∧ x ≤ ws.length := by
  intro x hx
  simp only [cntL, List.mem_map] at hx
  obtain ⟨i, _, rfl⟩ := hx
  have := List.count_le_length (l := ws) (a := (i : Int))
  omega
theorem cntL_row {c : Int} {ws : List Int} (h : wordOk c ws = true) : countRowOk c (cntL c.toNat ws) = true := by
  obtain ⟨h1, h2, h3, h4⟩ := wordOk_yes h
  refine countRowOk_mk h1 h2 (by rw [cntL_len]; omega) (fun j x _ hx => ?_) ?_
  · have := cntL_mem x (List.mem_of_getElem? hx); omega
  · rw [isum_cntL ws (fun x hx => by have := h4 x hx; omega)]; omega
theorem cntL_less {C : Nat} {cs ws : List Int} {c : Nat} {x : Int} (hl : cs.length = C) (hc : c < C) (hx : cs[c]? = some x) : (cntL C ((c : Int) :: ws) = cs) ↔ (cntL C ws = cs.set c (x - 1)) := by
  have h6 : (cntL C ws)[c]? = some ((ws.count (c : Int) : Int)) := cntL_at C ws c hc
  rw [cntL_cons hc]
  constructor
  · intro e
    have h7 : cs[c]? = some ((ws.count (c : Int) : Int) + 1) := by rw [← e, List.getElem?_set_self (by rw [cntL_len]; exact hc)]
    rw [hx] at h7
    injection h7 with h7
    apply List.ext_getElem?
    intro i
    by_cases hi : c = i
    · subst hi
      rw [h6, List.getElem?_set_self (by omega)]; congr 1; omega
    · rw [← e, List.getElem?_set_ne hi, List.getElem?_set_ne hi]
  · intro e
    rw [e, List.getElem?_set_self (by omega)] at h6
    injection h6 with h6
    rw [e]
    apply List.ext_getElem?
    intro i
    by_cases hi : c = i
    · subst hi
      rw [hx, List.getElem?_set_self (by rw [List.length_set]; omega)]; congr 1; omega
    · rw [List.getElem?_set_ne hi, List.getElem?_set_ne hi]
/-- How many words have just these counts. -/
theorem wsum_count {C : Nat} (m : Nat) (cs : List Int) (h : countRowOk (C : Int) cs = true) (hs : isum cs = m) : wsum C m (fun ws => if cntL C ws = cs then 1 else 0) = mult cs := by
  induction m generalizing cs with
  | zero =>
    obtain ⟨_, _, _, h4⟩ := row_fine h
    obtain ⟨_, _, h3, h5, _⟩ := countRowOk_yes h
    simp only [wsum]
    rw [h4 (by omega), if_pos]
    rw [cntL_nil]
    apply List.ext_getElem
    · simp; omega
    · intro i h1 h2
      have hx := List.getElem?_eq_getElem h2
      have hb := h5 cs[i] (List.getElem_mem h2)
      have hle : cs[i] ≤ isum cs := part_le_sum (countRowOk_urn h) hx
      rw [List.getElem_replicate]; omega
  | succ m ih =>
    obtain ⟨_, _, h3, _⟩ := row_fine h
    obtain ⟨_, _, hl, h5, _⟩ := countRowOk_yes h
    have hl : cs.length = C := by omega
    rw [← h3 (by omega)]
    unfold recSum
    simp only [wsum]
    rw [hl]
    refine nsum_congr fun c hc => ?_
    obtain ⟨x, hx⟩ : ∃ x, cs[c]? = some x := ⟨_, List.getElem?_eq_getElem (by omega)⟩
    have eless : less cs c = cs.set c (x - 1) := by unfold less; rw [hx]; rfl
    have he := fun ws => cntL_less (ws := ws) hl hc hx
    rw [hx, Option.getD_some]
    by_cases h0 : 0 < x
    · rw [if_pos h0]
      obtain ⟨r1, r2⟩ := less_row h hx h0
      rw [← ih _ r1 (by omega), eless]
      refine wsum_congr fun ws _ _ => ?_
      by_cases hh : cntL C ws = cs.set c (x - 1)
      · rw [if_pos hh, if_pos ((he ws).2 hh)]
      · rw [if_neg hh, if_neg (fun e => hh ((he ws).1 e))]
    · rw [if_neg h0]
      refine Eq.trans (wsum_congr (h := fun _ => 0) fun ws _ _ => if_neg fun e => ?_) (wsum_zero _ _)
      rw [cntL_cons hc] at e
      have h6 : cs[c]? = some ((ws.count (c : Int) : Int) + 1) := by rw [← e, List.getElem?_set_self (by rw [cntL_len]; exact hc)]
      rw [hx] at h6
      injection h6 with h6
      omega

theorem prodK_prodF (zs cs : List Int) (f : Nat → Nat) (h : ∀ k, k < zs.length → (cs[k]?.getD 0).toNat = f k) : prodK zs cs zs.length = prodF zs f := by
  have g : ∀ (k : Nat), k ≤ zs.length → prodK zs cs k = prodF (zs.take k) f := by
    intro k
    induction k with
    | zero => intro _; rfl
    | succ k ih =>
      intro hk
      have hx := List.getElem?_eq_getElem (l := zs) (i := k) (by omega)
      have ap : ∀ (l : List Int) (x : Int) (f : Nat → Nat), prodF (l ++ [x]) f = prodF l f * fall x (f l.length) := by
        intro l x
        induction l with
        | nil => intro f; simp [prodF]
        | cons y r ih2 => intro f; simp only [List.cons_append, prodF, ih2, List.length_cons, Int.mul_assoc]
      rw [take_succ hx, ap, List.length_take, Nat.min_eq_left (by omega)]
      simp only [prodK]
      rw [ih (by omega), hx, h k (by omega)]; rfl
  have := g zs.length (Nat.le_refl _)
  rwa [List.take_length] at this
/-- The ways of a word with these counts. -/
theorem ways_prod {C : Nat} {zs ws : List Int} (hl : zs.length = C) (h : ∀ x ∈ ws, 0 ≤ x ∧ x < C) : ways zs ws = prodC zs (cntL C ws) := by
  rw [ways_counts zs ws (fun x hx => by have := h x hx; omega)]
  unfold prodC
  rw [cntL_len, ← hl]
  refine (prodK_prodF zs _ _ fun k hk => ?_).symm
  rw [cntL_at _ _ _ hk]; simp
/-- The ways of all words with just these counts. -/
theorem wsum_countWays {C : Nat} {zs cs : List Int} (m : Nat) (hl : zs.length = C) (h : countRowOk (C : Int) cs = true) (hs : isum cs = m) : wsum C m (fun ws => if cntL C ws = cs then ways zs ws else 0) = mult cs * prodC zs cs := by
  rw [← wsum_count m cs h hs, Int.mul_comm, ← wsum_mul]
  refine wsum_congr fun ws _ hw => ?_
  by_cases e : cntL C ws = cs
  · rw [if_pos e, if_pos e, ways_prod hl hw, e, Int.mul_one]
  · rw [if_neg e, if_neg e, Int.mul_zero]
theorem digs_row {C m k : Nat} (hC : 1 ≤ C) (hC3 : C ≤ 3) (hm : m ≤ 6) (h : isum (digs (m + 1) C k) = m) : countRowOk (C : Int) (digs (m + 1) C k) = true :=
  countRowOk_mk (by omega) (by omega) (by rw [digs_len]) (fun j x _ hx => by have := digs_mem (C := m + 1) (by omega) C k x (List.mem_of_getElem? hx); omega) (by omega)
/-- All counts of m draws have all ways. -/
theorem rows_ways {C : Nat} {zs : List Int} (m : Nat) (hl : zs.length = C) (hC : 1 ≤ C) (hC3 : C ≤ 3) (hm : m ≤ 6) (hz : ∀ z ∈ zs, 0 ≤ z) :
    nsum ((m + 1) ^ C) (fun k => if isum (digs (m + 1) C k) = m then mult (digs (m + 1) C k) * prodC zs (digs (m + 1) C k) else 0) = fall (isum zs) m := by
  have e1 : ∀ k, k < (m + 1) ^ C → (if isum (digs (m + 1) C k) = m then mult (digs (m + 1) C k) * prodC zs (digs (m + 1) C k) else 0) = wsum C m (fun ws => if cntL C ws = digs (m + 1) C k then ways zs ws else 0) := by
    intro k _
    by_cases h : isum (digs (m + 1) C k) = m
    · rw [if_pos h]; exact (wsum_countWays m hl (digs_row hC hC3 hm h) h).symm
    · rw [if_neg h]
      refine (Eq.trans (wsum_congr (h := fun _ => 0) fun ws hlw hw => if_neg fun e => ?_) (wsum_zero _ _)).symm
      rw [← e, isum_cntL ws hw, hlw] at h
      exact h rfl
  rw [nsum_congr e1, ← wsum_nsum, ← wsum_ways m zs hl hz]
  refine wsum_congr fun ws hlw hw => ?_
  rw [nsum_digs (C := m + 1) (by omega) C (fun l => if cntL C ws = l then ways zs ws else 0)]
  have := wsum_single (B := m + 1) (cntL C ws) (fun x hx => by have := cntL_mem x hx; omega) (ways zs ws)
  rwa [cntL_len] at this
theorem words_ways {C : Nat} {zs : List Int} (m : Nat) (hl : zs.length = C) (hC : 1 ≤ C) (hz : ∀ z ∈ zs, 0 ≤ z) : nsum (C ^ m) (fun k => ways zs (digs C m k)) = fall (isum zs) m := by
  rw [nsum_digs (by omega), wsum_ways m zs hl hz]
/-- Each place of three is as the first one. -/
theorem any_place {C : Nat} {zs : List Int} (hl : zs.length = C) (hC : 1 ≤ C) (col : Int) :
    nsum (C ^ 3) (fun k => if (digs C 3 k)[0]? = some col then ways zs (digs C 3 k) else 0) = nsum (C ^ 3) (fun k => if (digs C 3 k)[2]? = some col then ways zs (digs C 3 k) else 0) := by
  rw [nsum_digs (by omega) 3 (fun ws => if ws[0]? = some col then ways zs ws else 0), nsum_digs (by omega) 3 (fun ws => if ws[2]? = some col then ways zs ws else 0)]
  simp only [wsum]
  have sw : ∀ f : Nat → Nat → Nat → Int, nsum C (fun a => nsum C (fun b => nsum C (fun d => f a b d))) = nsum C (fun d => nsum C (fun b => nsum C (fun a => f a b d))) := by
    intro f
    have h1 : nsum C (fun a => nsum C (fun b => nsum C (fun d => f a b d))) = nsum C (fun a => nsum C (fun d => nsum C (fun b => f a b d))) := nsum_congr fun a _ => nsum_swap C C _
    rw [h1, nsum_swap]
    exact nsum_congr fun d _ => nsum_swap C C _
  rw [sw]
  refine nsum_congr fun a ha => nsum_congr fun b hb => nsum_congr fun d hd => ?_
  have e : ways zs [(d : Int), (b : Int), (a : Int)] = ways zs [(a : Int), (b : Int), (d : Int)] := ways_same zs _ _ (fun x hx => by simp at hx; rcases hx with h | h | h <;> subst h <;> omega) (fun x hx => by simp at hx; rcases hx with h | h | h <;> subst h <;> omega) (fun i => by simp only [List.count_cons, List.count_nil]; omega)
  rw [e]; rfl
/-- Two neighbours exchanged. -/
theorem swap_count {l : List Int} {k : Nat} {x y : Int} (hx : l[k]? = some x) (hy : l[k + 1]? = some y) (i : Int) : ((l.set k y).set (k + 1) x).count i = l.count i := by
  induction l generalizing k with
  | nil => simp at hx
  | cons z r ih =>
    cases k with
    | zero =>
      match r, hy with
      | u :: r, hy =>
        simp at hx hy
        subst hx; subst hy
        simp only [List.set_cons_zero, List.set_cons_succ, List.count_cons]; omega
    | succ k =>
      simp only [List.set_cons_succ, List.count_cons]
      rw [ih (by simpa using hx) (by simpa using hy)]
theorem ways_swap {zs l : List Int} {k : Nat} {x y : Int} (h : ∀ u ∈ l, 0 ≤ u ∧ u < zs.length) (hx : l[k]? = some x) (hy : l[k + 1]? = some y) : ways zs ((l.set k y).set (k + 1) x) = ways zs l :=
  ways_same zs _ _ (fun u hu => by
    rcases List.mem_or_eq_of_mem_set hu with h1 | h1
    · rcases List.mem_or_eq_of_mem_set h1 with h2 | h2
      · exact h u h2
      · exact h u (h2 ▸ List.mem_of_getElem? hy)
    · exact h u (h1 ▸ List.mem_of_getElem? hx)) h (swap_count hx hy)
theorem ways_reverse {zs l : List Int} (h : ∀ u ∈ l, 0 ≤ u ∧ u < zs.length) : ways zs l.reverse = ways zs l :=
  ways_same zs _ _ (fun u hu => h u (List.mem_reverse.1 hu)) h (fun _ => List.count_reverse)
theorem wordWays_swap {zs l : List Int} {k : Nat} {x y : Int} (hx : l[k]? = some x) (hy : l[k + 1]? = some y) : wordWays zs ((l.set k y).set (k + 1) x) = wordWays zs l := by
  have hw : wordOk zs.length ((l.set k y).set (k + 1) x) = wordOk zs.length l := by
    unfold wordOk
    rw [List.length_set, List.length_set]
    congr 1
    rw [Bool.eq_iff_iff, List.all_eq_true, List.all_eq_true]
    have hm : ∀ u, u ∈ (l.set k y).set (k + 1) x ↔ u ∈ l := fun u => by rw [← List.count_pos_iff, ← List.count_pos_iff, swap_count hx hy]
    exact ⟨fun g u hu => g u ((hm u).2 hu), fun g u hu => g u ((hm u).1 hu)⟩
  unfold wordWays
  rw [hw]
  split
  · next h =>
    rw [Bool.and_eq_true] at h
    exact ways_swap (wordOk_yes h.2).2.2.2 hx hy
  · rfl
theorem wordWays_reverse (zs l : List Int) : wordWays zs l.reverse = wordWays zs l := by
  unfold wordWays
  rw [wordOk_reverse]
  split
  · next h =>
    rw [Bool.and_eq_true] at h
    exact ways_reverse (wordOk_yes h.2).2.2.2
  · rfl
theorem fall_zero {z : Int} {k : Nat} (h0 : 0 ≤ z) : fall z k = 0 ↔ z < (k : Int) := by
  induction k generalizing z with
  | zero => simp only [fall]; omega
  | succ k ih =>
    simp only [fall, Int.mul_eq_zero]
    rcases Int.lt_or_le 0 z with h | h
    · rw [ih (by omega)]; omega
    · obtain rfl : z = 0 := by omega
      exact ⟨fun _ => by omega, fun _ => .inl (by decide)⟩
theorem prodK_zero {zs cs : List Int} (hz : ∀ z ∈ zs, 0 ≤ z) (hc : ∀ x ∈ cs, 0 ≤ x) (hl : cs.length = zs.length) (k : Nat) (hk : k ≤ cs.length) : prodK zs cs k = 0 ↔ ∃ j, j < k ∧ zs[j]?.getD 0 < cs[j]?.getD 0 := by
  induction k with
  | zero => simp [prodK]
  | succ k ih =>
    have hzk := hz zs[k] (List.getElem_mem _)
    have hck := hc cs[k] (List.getElem_mem _)
    simp only [prodK, Int.mul_eq_zero, ih (by omega)]
    rw [List.getElem?_eq_getElem (l := zs) (i := k) (by omega), List.getElem?_eq_getElem (l := cs) (i := k) (by omega), Option.getD_some, Option.getD_some, fall_zero hzk]
    constructor
    · rintro (⟨j, hj, h⟩ | h)
      · exact ⟨j, by omega, h⟩
      · refine ⟨k, by omega, ?_⟩
        rw [List.getElem?_eq_getElem (l := zs) (i := k) (by omega), List.getElem?_eq_getElem (l := cs) (i := k) (by omega), Option.getD_some, Option.getD_some]; omega
    · rintro ⟨j, hj, h⟩
      by_cases hjk : j < k
      · exact .inl ⟨j, hjk, h⟩
      · obtain rfl : j = k := by omega
        rw [List.getElem?_eq_getElem (l := zs) (i := j) (by omega), List.getElem?_eq_getElem (l := cs) (i := j) (by omega), Option.getD_some, Option.getD_some] at h
        exact .inr (by omega)
theorem isum_reverse (zs : List Int) : isum zs.reverse = isum zs := by
  induction zs with
  | nil => rfl
  | cons z r ih => rw [List.reverse_cons, isum_append, ih]; simp [isum]; omega
theorem countRowOk_reverse (c : Int) (cs : List Int) : countRowOk c cs.reverse = countRowOk c cs := by
  unfold countRowOk; rw [List.length_reverse, List.all_reverse, isum_reverse]
end Go.Proofs.Ythdelfhfglnhfab
