/-
  Plain functions and lemmas of chapter 3: balls put back. No program is named here.
-/
import Derived.Test.YthdelfhfglnhfabPlainS
namespace Go.Proofs.Ythdelfhfglnhfab
open Go.RowKit

/-- The ways of a word if each ball is put back. -/
def bw (zs : List Int) : List Int → Int
  | [] => 1
  | x :: r => ballsAt zs x * bw zs r
def backWays (zs ws : List Int) : Int := if urnOk zs && wordOk zs.length ws then bw zs ws else -1
def backAll (zs : List Int) (m : Int) : Int := if urnOk zs && decide (0 ≤ m ∧ m ≤ 6) then isum zs ^ m.toNat else -1
def powK (zs cs : List Int) : Nat → Int
  | 0 => 1
  | k + 1 => powK zs cs k * (zs[k]?.getD 0) ^ (cs[k]?.getD 0).toNat
def backCounts (zs cs : List Int) : Int := if urnOk zs && countRowOk zs.length cs then mult cs * powK zs cs cs.length else -1
def sqSum : List Int → Int
  | [] => 0
  | z :: r => z * z + sqSum r
def sameTwice (zs : List Int) : Int := if urnOk zs then sqSum zs else -1

theorem bw_append (zs a b : List Int) : bw zs (a ++ b) = bw zs a * bw zs b := by
  induction a with
  | nil => simp [bw]
  | cons x r ih => simp only [List.cons_append, bw, ih, Int.mul_assoc]
theorem bw_one (zs : List Int) (x : Int) : bw zs [x] = ballsAt zs x := by simp [bw]
theorem bw_snoc (zs : List Int) {ws : List Int} {k : Nat} {x : Int} (h : ws[k]? = some x) : bw zs (ws.take (k + 1)) = bw zs (ws.take k) * ballsAt zs x := by
  rw [take_succ h, bw_append, bw_one]
theorem bw_reverse (zs ws : List Int) : bw zs ws.reverse = bw zs ws := by
  induction ws with
  | nil => rfl
  | cons x r ih => rw [List.reverse_cons, bw_append, ih, bw_one, Int.mul_comm]; rfl
theorem ballsAt_bounds {M : Int} {zs : List Int} (h : ∀ z ∈ zs, 0 ≤ z ∧ z ≤ M) (hM : 0 ≤ M) (x : Int) : 0 ≤ ballsAt zs x ∧ ballsAt zs x ≤ M := by
  unfold ballsAt
  rcases Nat.lt_or_ge x.toNat zs.length with hk | hk
  · rw [List.getElem?_eq_getElem hk]; exact h _ (List.getElem_mem hk)
  · rw [List.getElem?_eq_none hk]; exact ⟨by decide, hM⟩
theorem bw_bounds {zs : List Int} (h : ∀ z ∈ zs, 0 ≤ z ∧ z ≤ 40) (ws : List Int) : 0 ≤ bw zs ws ∧ bw zs ws ≤ 40 ^ ws.length := by
  induction ws with
  | nil => simp [bw]
  | cons x r ih =>
    obtain ⟨b0, b1⟩ := ballsAt_bounds h (by decide) x
    simp only [bw, List.length_cons]
    rw [Int.pow_succ, Int.mul_comm (40 ^ r.length)]
    exact ⟨Int.mul_nonneg b0 ih.1, Int.mul_le_mul b1 ih.2 ih.1 (by decide)⟩
theorem ways_le_bw {zs vs ws : List Int} (h0 : ∀ z ∈ zs, 0 ≤ z ∧ z ≤ 40) (h : ∀ x, ballsAt vs x ≤ ballsAt zs x) : ways vs ws ≤ bw zs ws := by
  induction ws generalizing vs with
  | nil => simp [ways, bw]
  | cons x r ih =>
    simp only [ways, bw]
    obtain ⟨b0, _⟩ := ballsAt_bounds h0 (by decide) x
    have h2 : ∀ y, ballsAt (vs.set x.toNat (ballsAt vs x - 1)) y ≤ ballsAt zs y := fun y => by
      have hy := h y
      have hx := h x
      unfold ballsAt at hy hx ⊢
      rcases Nat.lt_or_ge x.toNat vs.length with hk | hk
      · rw [ballsAt_set _ hk]
        split
        · next e => rw [e]; omega
        · exact hy
      · rw [List.set_eq_of_length_le hk]; exact hy
    have h3 := h x
    exact Int.mul_le_mul (by omega) (ih h2) (ways_nonneg _ _) b0
theorem bw_ge {zs ws : List Int} (h0 : ∀ z ∈ zs, 0 ≤ z ∧ z ≤ 40) : ways zs ws ≤ bw zs ws := ways_le_bw h0 (fun _ => Int.le_refl _)
theorem wsum_bw {C : Nat} (m : Nat) (zs : List Int) (hl : zs.length = C) : wsum C m (bw zs) = isum zs ^ m := by
  induction m with
  | zero => simp [wsum, bw]
  | succ m ih =>
    simp only [wsum]
    have e : ∀ c, c < C → wsum C m (fun ws => bw zs ((c : Int) :: ws)) = (zs[c]?.getD 0) * isum zs ^ m := by
      intro c hc
      have hk := List.getElem?_eq_getElem (l := zs) (i := c) (by omega)
      have hb : ballsAt zs (c : Int) = zs[c] := ballsAt_eq (by simp)
      simp only [bw]
      rw [wsum_mul, ih, hb, hk]; rfl
    rw [nsum_congr e, nsum_mulr, ← hl, nsum_list, Int.pow_succ, Int.mul_comm]
theorem words_back {C : Nat} {zs : List Int} (m : Nat) (hl : zs.length = C) (hC : 1 ≤ C) : nsum (C ^ m) (fun k => bw zs (digs C m k)) = isum zs ^ m := by
  rw [nsum_digs (by omega), wsum_bw m zs hl]
theorem fall_le_pow {S : Int} (h : 0 ≤ S) (m : Nat) : fall S m ≤ S ^ m := by
  rcases Int.lt_or_le 0 S with h1 | h1
  · exact fall_le S S m (Int.le_refl _) (by omega)
  · obtain rfl : S = 0 := by omega
    cases m with
    | zero => decide
    | succ m =>
      have e : fall 0 (m + 1) = 0 := by simp [fall]
      rw [e]; exact Int.pow_nonneg (Int.le_refl 0)
theorem pow_bounds {z M : Int} (h0 : 0 ≤ z) (h1 : z ≤ M) (k : Nat) : 0 ≤ z ^ k ∧ z ^ k ≤ M ^ k := by
  induction k with
  | zero => simp
  | succ k ih =>
    rw [Int.pow_succ, Int.pow_succ]
    exact mul_bound ih.1 ih.2 h0 h1
theorem pow120 (k : Nat) (h : k ≤ 6) : (120 : Int) ^ k ≤ 2985984000000 := by
  match k, h with
  | 0, _ | 1, _ | 2, _ | 3, _ | 4, _ | 5, _ | 6, _ => decide
theorem powK_bounds {zs cs : List Int} (hz : ∀ z ∈ zs, 0 ≤ z ∧ z ≤ 40) (hc : ∀ x ∈ cs, 0 ≤ x ∧ x ≤ 6) (k : Nat) : 0 ≤ powK zs cs k ∧ powK zs cs k ≤ 40 ^ (isum (cs.take k)).toNat := by
  induction k with
  | zero => simp [powK, isum]
  | succ k ih =>
    simp only [powK]
    rcases Nat.lt_or_ge k cs.length with hk | hk
    · have hx := List.getElem?_eq_getElem hk
      have hcx := hc cs[k] (List.getElem_mem hk)
      have hs := (isum_bounds 6 (cs.take k) (fun x hx => hc x (List.mem_of_mem_take hx))).1
      rw [isum_take_succ hx, hx]
      have e : (isum (cs.take k) + cs[k]).toNat = (isum (cs.take k)).toNat + (cs[k]).toNat := by omega
      rw [e, Int.pow_add]
      have hzk : 0 ≤ zs[k]?.getD 0 ∧ zs[k]?.getD 0 ≤ 40 := by
        rcases Nat.lt_or_ge k zs.length with h2 | h2
        · rw [List.getElem?_eq_getElem h2]; exact hz _ (List.getElem_mem h2)
        · rw [List.getElem?_eq_none h2]; decide
      obtain ⟨p0, p1⟩ := pow_bounds hzk.1 hzk.2 (cs[k]).toNat
      exact mul_bound ih.1 ih.2 p0 p1
    · rw [List.getElem?_eq_none hk, List.take_of_length_le (by omega)]
      rw [List.take_of_length_le hk] at ih
      simpa using ih
theorem prodK_le_powK {zs cs : List Int} (hz : ∀ z ∈ zs, 0 ≤ z) (k : Nat) : prodK zs cs k ≤ powK zs cs k ∧ 0 ≤ powK zs cs k := by
  induction k with
  | zero => simp [prodK, powK]
  | succ k ih =>
    simp only [prodK, powK]
    have hzk : 0 ≤ zs[k]?.getD 0 := by
      rcases Nat.lt_or_ge k zs.length with h2 | h2
      · rw [List.getElem?_eq_getElem h2]; exact hz _ (List.getElem_mem h2)
      · rw [List.getElem?_eq_none h2]; decide
    exact ⟨Int.mul_le_mul ih.1 (fall_le_pow hzk _) (fall_nonneg _ _) ih.2, Int.mul_nonneg ih.2 (Int.pow_nonneg hzk)⟩
/-- The ways of a word by its counts. -/
theorem bw_pow {C : Nat} {zs ws : List Int} (_hl : zs.length = C) (h : ∀ x ∈ ws, 0 ≤ x ∧ x < C) : bw zs ws = powK zs (cntL C ws) C := by
  induction ws with
  | nil =>
    have : ∀ k, powK zs (cntL C []) k = 1 := by
      intro k
      induction k with
      | zero => rfl
      | succ k ih =>
        simp only [powK, ih]
        have : (cntL C [])[k]?.getD 0 = 0 := by
          rw [cntL_nil]
          rcases Nat.lt_or_ge k C with hk | hk
          · simp [hk]
          · rw [List.getElem?_eq_none (by simpa using hk)]; rfl
        rw [this]; simp
    rw [this]; rfl
  | cons x r ih =>
    have hx := h x (by simp)
    have ih := ih (fun y hy => h y (by simp [hy]))
    simp only [bw]
    rw [ih]
    obtain ⟨c, rfl⟩ : ∃ c : Nat, x = (c : Int) := ⟨x.toNat, by omega⟩
    have hc : c < C := by omega
    have g : ∀ k, powK zs (cntL C ((c : Int) :: r)) k = (if c < k then ballsAt zs (c : Int) else 1) * powK zs (cntL C r) k := by
      intro k
      induction k with
      | zero => simp [powK]
      | succ k ihk =>
        simp only [powK]
        rw [ihk, cntL_cons hc]
        by_cases hk : c = k
        · subst hk
          rw [if_neg (by omega), if_pos (by omega), List.getElem?_set_self (by rw [cntL_len]; exact hc), cntL_at C r c hc]
          have e1 : ballsAt zs (c : Int) = zs[c]?.getD 0 := by unfold ballsAt; rfl
          have e2 : ((some ((r.count (c : Int) : Int) + 1)).getD 0).toNat = ((some ((r.count (c : Int) : Nat) : Int)).getD 0).toNat + 1 := by first | (simp; done) | (simp; omega)
          rw [e1, e2, Int.pow_succ, Int.one_mul, Int.mul_comm _ (zs[c]?.getD 0), Int.mul_left_comm]
        · rw [List.getElem?_set_ne hk, Int.mul_assoc]
          congr 1
          by_cases h1 : c < k
          · rw [if_pos h1, if_pos (by omega)]
          · rw [if_neg h1, if_neg (by omega)]
    rw [g C, if_pos hc]
theorem wsum_backCounts {C : Nat} {zs cs : List Int} (m : Nat) (hl : zs.length = C) (h : countRowOk (C : Int) cs = true) (hs : isum cs = m) : wsum C m (fun ws => if cntL C ws = cs then bw zs ws else 0) = mult cs * powK zs cs cs.length := by
  have hlc : cs.length = C := by have := (countRowOk_yes h).2.2.1; omega
  rw [← wsum_count m cs h hs, Int.mul_comm, ← wsum_mul]
  refine wsum_congr fun ws _ hw => ?_
  by_cases e : cntL C ws = cs
  · rw [if_pos e, if_pos e, bw_pow hl hw, e, hlc, Int.mul_one]
  · rw [if_neg e, if_neg e, Int.mul_zero]
/-- All draws of a colour behind those of the colours before. -/
def sorted (cs : List Int) : Nat → List Int
  | 0 => []
  | k + 1 => sorted cs k ++ List.replicate (cs[k]?.getD 0).toNat (k : Int)
theorem bw_replicate (zs : List Int) (x : Int) (n : Nat) : bw zs (List.replicate n x) = ballsAt zs x ^ n := by
  induction n with
  | zero => simp [bw]
  | succ n ih => rw [List.replicate_succ, Int.pow_succ, Int.mul_comm]; simp only [bw]; rw [ih]
theorem bw_sorted (zs cs : List Int) (k : Nat) : bw zs (sorted cs k) = powK zs cs k := by
  induction k with
  | zero => rfl
  | succ k ih =>
    simp only [sorted, powK]
    rw [bw_append, ih, bw_replicate]
    unfold ballsAt
    rw [Int.toNat_natCast]
theorem sorted_len {cs : List Int} (hc : ∀ x ∈ cs, 0 ≤ x ∧ x ≤ 6) (k : Nat) : ((sorted cs k).length : Int) = isum (cs.take k) := by
  induction k with
  | zero => rfl
  | succ k ih =>
    simp only [sorted]
    rw [List.length_append, List.length_replicate, Int.natCast_add, ih]
    rcases Nat.lt_or_ge k cs.length with hk | hk
    · have hx := List.getElem?_eq_getElem hk
      have := hc cs[k] (List.getElem_mem hk)
      rw [isum_take_succ hx, hx]
      simp; omega
    · have e1 := List.take_of_length_le (i := k + 1) (l := cs) (by omega)
      have e0 := List.take_of_length_le (i := k) (l := cs) hk
      rw [List.getElem?_eq_none hk, e1, e0]; simp
theorem sorted_mem (cs : List Int) (k : Nat) : ∀ x ∈ sorted cs k, 0 ≤ x ∧ x < k := by
  induction k with
  | zero => intro x hx; cases hx
  | succ k ih =>
    intro x hx
    simp only [sorted, List.mem_append] at hx
    rcases hx with h | h
    · have := ih x h; omega
    · have := List.eq_of_mem_replicate h; omega
theorem sorted_word {c : Int} {cs : List Int} (h : countRowOk c cs = true) : wordOk c (sorted cs cs.length) = true := by
  obtain ⟨h1, h2, h3, h4, h5⟩ := countRowOk_yes h
  have hl := sorted_len h4 cs.length
  rw [List.take_length] at hl
  exact wordOk_mk h1 h2 (by omega) (fun j x _ hx => by have := sorted_mem cs cs.length x (List.mem_of_getElem? hx); omega)

theorem sqSum_append (xs ys : List Int) : sqSum (xs ++ ys) = sqSum xs + sqSum ys := by
  induction xs with
  | nil => simp [sqSum]
  | cons x r ih => simp only [List.cons_append, sqSum, ih]; omega
theorem sqSum_take_succ {zs : List Int} {k : Nat} {x : Int} (h : zs[k]? = some x) : sqSum (zs.take (k + 1)) = sqSum (zs.take k) + x * x := by
  rw [take_succ h, sqSum_append]; simp [sqSum]
theorem sqSum_bounds {zs : List Int} (h : ∀ z ∈ zs, 0 ≤ z ∧ z ≤ 40) : 0 ≤ sqSum zs ∧ sqSum zs ≤ 1600 * zs.length := by
  induction zs with
  | nil => simp [sqSum]
  | cons z r ih =>
    have hz := h z (by simp)
    have h1 := mul_bound hz.1 hz.2 hz.1 hz.2
    have h2 := ih (fun y hy => h y (by simp [hy]))
    have e : (1600 : Int) * ((z :: r).length : Int) = 1600 * (r.length : Int) + 1600 := by rw [List.length_cons, Int.natCast_add]; omega
    rw [e]; simp only [sqSum]; omega
theorem sqSum_take {zs : List Int} (h : urnOk zs = true) (k : Nat) : 0 ≤ sqSum (zs.take k) ∧ sqSum (zs.take k) ≤ 4800 := by
  have h1 := sqSum_bounds (zs := zs.take k) (fun z hz => urnOk_mem h z (List.mem_of_mem_take hz))
  have h2 := urnOk_size h
  have h3 : (zs.take k).length ≤ zs.length := List.length_take_le' _ _
  omega
theorem sq_same (zs : List Int) : sqSum zs - sameSum zs = isum zs := by
  induction zs with
  | nil => rfl
  | cons z r ih =>
    simp only [sqSum, sameSum, isum]
    have : z * (z - 1) = z * z - z := by rw [Int.mul_sub, Int.mul_one]
    omega
theorem sq_nonneg (a : Int) : 0 ≤ a * a ∧ (a * a = 0 ↔ a = 0) := by
  refine ⟨?_, by rw [Int.mul_eq_zero]; omega⟩
  rcases Int.le_total 0 a with h | h
  · exact Int.mul_nonneg h h
  · have := Int.mul_nonneg (show 0 ≤ -a by omega) (show 0 ≤ -a by omega)
    rwa [Int.neg_mul_neg] at this
/-- All colours have as many as the first one. -/
def allFirst (zs : List Int) : Bool := zs.all (fun z => z == zs[0]?.getD 0)
theorem sq_least {zs : List Int} (hu : urnOk zs = true) : isum zs * isum zs ≤ sqSum zs * zs.length ∧ (sqSum zs * zs.length = isum zs * isum zs ↔ allFirst zs = true) := by
  have hs := urnOk_size hu
  have ex : ∀ a b : Int, (a - b) * (a - b) = a * a + b * b - 2 * (a * b) := fun a b => by
    rw [Int.sub_mul, Int.mul_sub, Int.mul_sub, Int.mul_comm b a]; omega
  match zs, hs with
  | [a], _ => simp [sqSum, isum, allFirst]
  | [a, b], _ =>
    obtain ⟨p1, p2⟩ := sq_nonneg (a - b)
    rw [ex] at p1 p2
    have e1 : isum [a, b] * isum [a, b] = a * a + b * b + 2 * (a * b) := by
      simp only [isum, Int.add_zero]
      rw [Int.add_mul, Int.mul_add, Int.mul_add, Int.mul_comm b a]; omega
    have e2 : sqSum [a, b] * ([a, b].length : Int) = 2 * (a * a) + 2 * (b * b) := by
      simp only [sqSum, List.length_cons, List.length_nil]
      rw [Int.mul_comm]; simp; omega
    rw [e1, e2]
    refine ⟨by omega, ?_⟩
    simp only [allFirst, List.all_cons, List.all_nil, List.getElem?_cons_zero, Option.getD_some, Bool.and_true, beq_self_eq_true, Bool.true_and, beq_iff_eq]
    constructor
    · intro h
      have := p2.1 (by omega)
      omega
    · intro h
      have := p2.2 (by omega)
      omega
  | [a, b, c], _ =>
    obtain ⟨p1, p2⟩ := sq_nonneg (a - b)
    obtain ⟨q1, q2⟩ := sq_nonneg (b - c)
    obtain ⟨r1, r2⟩ := sq_nonneg (a - c)
    rw [ex] at p1 p2 q1 q2 r1 r2
    have e1 : isum [a, b, c] * isum [a, b, c] = a * a + b * b + c * c + 2 * (a * b) + 2 * (b * c) + 2 * (a * c) := by
      simp only [isum, Int.add_zero]
      simp only [Int.add_mul, Int.mul_add, Int.mul_comm b a, Int.mul_comm c a, Int.mul_comm c b]; omega
    have e2 : sqSum [a, b, c] * ([a, b, c].length : Int) = 3 * (a * a) + 3 * (b * b) + 3 * (c * c) := by
      simp only [sqSum, List.length_cons, List.length_nil]
      rw [Int.mul_comm]; simp; omega
    rw [e1, e2]
    refine ⟨by omega, ?_⟩
    simp only [allFirst, List.all_cons, List.all_nil, List.getElem?_cons_zero, Option.getD_some, Bool.and_true, beq_self_eq_true, Bool.true_and, Bool.and_eq_true, beq_iff_eq]
    constructor
    · intro h
      have h1 := p2.1 (by omega)
      have h2 := r2.1 (by omega)
      omega
    · intro h
      have h1 := p2.2 (by omega)
      have h2 := r2.2 (by omega)
      have h3 := q2.2 (by omega)
      omega
/-- Two draws of one colour as counts. -/
theorem countWays_two {zs : List Int} {k : Nat} {z : Int} (hu : urnOk zs = true) (h : zs[k]? = some z) : countWays zs ((List.replicate zs.length 0).set k 2) = z * (z - 1) := by
  have hk := (List.getElem?_eq_some_iff.1 h).1
  have hs := urnOk_size hu
  have hz := urnOk_elem hu h
  have hrow : countRowOk (zs.length : Int) ((List.replicate zs.length 0).set k 2) = true := by
    have : ∀ n : Nat, n < 4 → 1 ≤ n → ∀ j : Nat, j < n → countRowOk (n : Int) ((List.replicate n 0).set j 2) = true := by decide
    exact this _ (by omega) hs.1 k hk
  have hm : mult ((List.replicate zs.length 0).set k 2) = 1 := by
    have : ∀ n : Nat, n < 4 → 1 ≤ n → ∀ j : Nat, j < n → mult ((List.replicate n 0).set j 2) = 1 := by decide
    exact this _ (by omega) hs.1 k hk
  rw [countWays_end hu hrow, hm, Int.one_mul, List.length_set, List.length_replicate, ← fall_two hz.1]
  have g : ∀ j, j ≤ zs.length → prodK zs ((List.replicate zs.length 0).set k 2) j = if k < j then fall z 2 else 1 := by
    intro j
    induction j with
    | zero => intro _; simp [prodK]
    | succ j ih =>
      intro hj
      simp only [prodK]
      rw [ih (by omega)]
      by_cases hkj : k = j
      · subst hkj
        rw [if_neg (by omega), if_pos (by omega), List.getElem?_set_self (by simpa using hk), h]; simp
      · have e : (List.replicate zs.length (0 : Int))[j]? = some 0 := by rw [List.getElem?_replicate, if_pos (by omega)]
        rw [List.getElem?_set_ne hkj, e]
        simp only [Option.getD_some]
        have e0 : fall (zs[j]?.getD 0) (0 : Int).toNat = 1 := rfl
        rw [e0, Int.mul_one]
        by_cases h1 : k < j
        · rw [if_pos h1, if_pos (by omega)]
        · rw [if_neg h1, if_neg (by omega)]
  rw [g _ (Nat.le_refl _), if_pos hk]
end Go.Proofs.Ythdelfhfglnhfab
