/-
  Plain functions and lemmas on words of draws: falling products, counts. No program is named here.
-/
import Derived.Test.YthdelfhfglnhfabPlain
namespace Go.Proofs.Ythdelfhfglnhfab
open Go.RowKit

def colOk (c x : Int) : Bool := decide (0 ≤ x ∧ x < c)
def wordOk (c : Int) (ws : List Int) : Bool := decide (1 ≤ c ∧ c ≤ 3) && decide (ws.length ≤ 6) && ws.all (colOk c)
theorem wordOk_yes {c : Int} {ws : List Int} (h : wordOk c ws = true) : 1 ≤ c ∧ c ≤ 3 ∧ ws.length ≤ 6 ∧ ∀ x ∈ ws, 0 ≤ x ∧ x < c := by
  unfold wordOk at h
  rw [Bool.and_eq_true, Bool.and_eq_true, List.all_eq_true] at h
  have h1 := of_decide_eq_true h.1.1
  exact ⟨h1.1, h1.2, of_decide_eq_true h.1.2, fun x hx => of_decide_eq_true (h.2 x hx)⟩
theorem wordOk_mk {c : Int} {ws : List Int} (h1 : 1 ≤ c) (h2 : c ≤ 3) (h3 : ws.length ≤ 6) (h4 : ∀ j x, j < ws.length → ws[j]? = some x → 0 ≤ x ∧ x < c) : wordOk c ws = true := by
  unfold wordOk
  rw [decide_eq_true ⟨h1, h2⟩, decide_eq_true h3, Bool.true_and, Bool.true_and, List.all_eq_true]
  intro x hx
  obtain ⟨j, hj, rfl⟩ := List.getElem_of_mem hx
  exact decide_eq_true (h4 j _ hj (List.getElem?_eq_getElem hj))
theorem wordOk_size {c : Int} {ws : List Int} (h : c < 1 ∨ 3 < c ∨ 6 < ws.length) : wordOk c ws = false := by
  rw [Bool.eq_false_iff]
  intro hh
  obtain ⟨h1, h2, h3, _⟩ := wordOk_yes hh
  omega
theorem wordOk_bad {c : Int} {ws : List Int} {k : Nat} {x : Int} (h : ws[k]? = some x) (hx : x < 0 ∨ c ≤ x) : wordOk c ws = false := by
  rw [Bool.eq_false_iff]
  intro hh
  obtain ⟨_, _, _, h4⟩ := wordOk_yes hh
  have := h4 x (List.mem_of_getElem? h)
  omega
theorem wordOk_reverse (c : Int) (ws : List Int) : wordOk c ws.reverse = wordOk c ws := by
  unfold wordOk; rw [List.length_reverse, List.all_reverse]
theorem wordOk_elem {c : Int} {ws : List Int} {k : Nat} {x : Int} (h : wordOk c ws = true) (hx : ws[k]? = some x) : 0 ≤ x ∧ x < c := (wordOk_yes h).2.2.2 x (List.mem_of_getElem? hx)

/-- n, n - 1, .. : the product of so many numbers, none below 0. -/
def fall (n : Int) : Nat → Int
  | 0 => 1
  | k + 1 => max n 0 * fall (n - 1) k
theorem fall_snoc (n : Int) (k : Nat) : fall n (k + 1) = fall n k * max (n - k) 0 := by
  induction k generalizing n with
  | zero => simp [fall]
  | succ k ih =>
    have h := ih (n - 1)
    rw [show n - 1 - (k : Int) = n - ((k + 1 : Nat) : Int) from by omega] at h
    show max n 0 * fall (n - 1) (k + 1) = max n 0 * fall (n - 1) k * _
    rw [h, Int.mul_assoc]
theorem fall_nonneg (n : Int) (k : Nat) : 0 ≤ fall n k := by
  induction k generalizing n with
  | zero => simp [fall]
  | succ k ih => exact Int.mul_nonneg (by omega) (ih (n - 1))
theorem fall_le (M n : Int) (k : Nat) (h : n ≤ M) (hM : 1 ≤ M) : fall n k ≤ M ^ k := by
  induction k generalizing n with
  | zero => simp [fall]
  | succ k ih =>
    have h1 := ih (n - 1) (by omega)
    have h2 := fall_nonneg (n - 1) k
    rw [Int.pow_succ, Int.mul_comm (M ^ k)]
    exact Int.mul_le_mul (by omega) h1 h2 (by omega)
theorem pow40 (k : Nat) (h : k ≤ 5) : (40 : Int) ^ k ≤ 40 ^ 5 := by
  match k, h with
  | 0, _ | 1, _ | 2, _ | 3, _ | 4, _ | 5, _ => decide
theorem pow_small (k : Nat) (h : k ≤ 5) : (120 : Int) ^ k ≤ 1000000000000 := by
  match k, h with
  | 0, _ | 1, _ | 2, _ | 3, _ | 4, _ | 5, _ => decide
theorem mul_bound {a b M N : Int} (ha : 0 ≤ a) (ha' : a ≤ M) (hb : 0 ≤ b) (hb' : b ≤ N) : 0 ≤ a * b ∧ a * b ≤ M * N :=
  ⟨Int.mul_nonneg ha hb, Int.mul_le_mul ha' hb' hb (by omega)⟩
/-- The ways of a word: of each draw the balls of its colour that are left. -/
def ways (zs : List Int) : List Int → Int
  | [] => 1
  | x :: r => max (ballsAt zs x) 0 * ways (zs.set x.toNat (ballsAt zs x - 1)) r
theorem ways_nonneg (zs ws : List Int) : 0 ≤ ways zs ws := by
  induction ws generalizing zs with
  | nil => simp [ways]
  | cons x r ih => exact Int.mul_nonneg (by omega) (ih _)
def wordWays (zs ws : List Int) : Int := if urnOk zs && wordOk zs.length ws then ways zs ws else -1
def allWays (zs : List Int) (m : Int) : Int := if urnOk zs && decide (0 ≤ m ∧ m ≤ 6) then fall (isum zs) m.toNat else -1

/-- The product of falling products, so many of each colour. -/
def prodF : List Int → (Nat → Nat) → Int
  | [], _ => 1
  | z :: r, f => fall z (f 0) * prodF r (fun i => f (i + 1))
def bump (f : Nat → Nat) (k : Nat) : Nat → Nat := fun i => if i = k then f i + 1 else f i
theorem prodF_bump (zs : List Int) (f : Nat → Nat) (k : Nat) (z : Int) (h : zs[k]? = some z) : max z 0 * prodF (zs.set k (z - 1)) f = prodF zs (bump f k) := by
  induction zs generalizing k f with
  | nil => simp at h
  | cons y r ih =>
    cases k with
    | zero =>
      simp at h
      subst h
      have e : (fun i => bump f 0 (i + 1)) = fun i => f (i + 1) := by funext i; simp [bump]
      simp only [List.set_cons_zero, prodF, e]
      rw [show bump f 0 0 = f 0 + 1 from by simp [bump]]
      simp only [fall, Int.mul_assoc]
    | succ k =>
      have h1 := ih (fun i => f (i + 1)) k (by simpa using h)
      have e : (fun i => bump f (k + 1) (i + 1)) = bump (fun i => f (i + 1)) k := by funext i; simp [bump]
      simp only [List.set_cons_succ, prodF, e]
      rw [show bump f (k + 1) 0 = f 0 from by simp [bump], ← h1, Int.mul_left_comm]
theorem ways_counts (zs ws : List Int) (h : ∀ x ∈ ws, 0 ≤ x ∧ x < zs.length) : ways zs ws = prodF zs (fun i => ws.count (i : Int)) := by
  induction ws generalizing zs with
  | nil =>
    have : ∀ zs : List Int, prodF zs (fun _ => 0) = 1 := by
      intro zs
      induction zs with
      | nil => rfl
      | cons z r ih => simp [prodF, fall, ih]
    simp [ways, this]
  | cons x r ih =>
    have hx := h x (by simp)
    have h2 := ih (zs.set x.toNat (ballsAt zs x - 1)) (fun y hy => by rw [List.length_set]; exact h y (by simp [hy]))
    have hk := List.getElem?_eq_getElem (l := zs) (i := x.toNat) (by omega)
    have hb := ballsAt_eq hk
    have e : (fun i : Nat => (x :: r).count (i : Int)) = bump (fun i => r.count (i : Int)) x.toNat := by
      funext i
      rw [List.count_cons]
      unfold bump
      by_cases hi : i = x.toNat
      · rw [if_pos hi, if_pos (by simp; omega)]
      · rw [if_neg hi, if_neg (by simp; omega)]; rfl
    simp only [ways]
    rw [h2, e]
    exact prodF_bump zs _ _ _ (by rw [hk, hb])
theorem ways_same (zs ws vs : List Int) (h : ∀ x ∈ ws, 0 ≤ x ∧ x < zs.length) (h' : ∀ x ∈ vs, 0 ≤ x ∧ x < zs.length) (hc : ∀ i : Int, ws.count i = vs.count i) : ways zs ws = ways zs vs := by
  rw [ways_counts zs ws h, ways_counts zs vs h']
  congr 1
  funext i
  exact hc i

/-- Two of one colour. -/
def sameSum : List Int → Int
  | [] => 0
  | z :: r => z * (z - 1) + sameSum r
theorem sameSum_append (xs ys : List Int) : sameSum (xs ++ ys) = sameSum xs + sameSum ys := by
  induction xs with
  | nil => simp [sameSum]
  | cons x r ih => simp only [List.cons_append, sameSum, ih]; omega
theorem sameSum_take_succ {zs : List Int} {k : Nat} {x : Int} (h : zs[k]? = some x) : sameSum (zs.take (k + 1)) = sameSum (zs.take k) + x * (x - 1) := by
  rw [take_succ h, sameSum_append]; simp [sameSum]
theorem same_bound {x : Int} (h : 0 ≤ x ∧ x ≤ 40) : 0 ≤ x * (x - 1) ∧ x * (x - 1) ≤ 1600 := by
  rcases Int.lt_or_le 0 x with h0 | h0
  · have := mul_bound (a := x) (b := x - 1) h.1 h.2 (by omega) (show x - 1 ≤ 40 by omega)
    omega
  · obtain rfl : x = 0 := by omega
    decide
theorem sameSum_bounds (zs : List Int) (h : ∀ z ∈ zs, 0 ≤ z ∧ z ≤ 40) : 0 ≤ sameSum zs ∧ sameSum zs ≤ 1600 * zs.length := by
  induction zs with
  | nil => simp [sameSum]
  | cons z r ih =>
    have h1 := same_bound (h z (by simp))
    have h2 := ih (fun y hy => h y (by simp [hy]))
    have e : (1600 : Int) * ((z :: r).length : Int) = 1600 * (r.length : Int) + 1600 := by rw [List.length_cons, Int.natCast_add]; omega
    rw [e]; simp only [sameSum]; omega
theorem sameSum_take {zs : List Int} (h : urnOk zs = true) (k : Nat) : 0 ≤ sameSum (zs.take k) ∧ sameSum (zs.take k) ≤ 4800 := by
  have h1 := sameSum_bounds (zs.take k) (fun z hz => urnOk_mem h z (List.mem_of_mem_take hz))
  have h2 := urnOk_size h
  have h3 : (zs.take k).length ≤ zs.length := List.length_take_le' _ _
  omega
def sameApart (zs : List Int) : Int := if urnOk zs then sameSum zs else -1

/-- Where a word has come to: acc ways so far, 'left' the balls that are left. -/
theorem ways_step {left ws : List Int} {k : Nat} {x : Int} {acc : Int} (hx : ws[k]? = some x) : acc * ways left (ws.drop k) = (acc * max (ballsAt left x) 0) * ways (left.set x.toNat (ballsAt left x - 1)) (ws.drop (k + 1)) := by
  have hk := (List.getElem?_eq_some_iff.1 hx).1
  have e : ws.drop k = x :: ws.drop (k + 1) := by
    rw [List.drop_eq_getElem_cons hk]
    congr 1
    exact (List.getElem?_eq_some_iff.1 hx).2
  rw [e]
  simp only [ways]
  rw [Int.mul_assoc]
theorem ways_end (left ws : List Int) {k : Nat} (h : ws.length ≤ k) (acc : Int) : acc * ways left (ws.drop k) = acc := by
  rw [List.drop_eq_nil_of_le h]; simp [ways]

def cntOk (x : Int) : Bool := decide (0 ≤ x ∧ x ≤ 6)
def countRowOk (c : Int) (cs : List Int) : Bool := decide (1 ≤ c ∧ c ≤ 3) && decide ((cs.length : Int) = c) && cs.all cntOk && decide (isum cs ≤ 6)
theorem countRowOk_yes {c : Int} {cs : List Int} (h : countRowOk c cs = true) : 1 ≤ c ∧ c ≤ 3 ∧ (cs.length : Int) = c ∧ (∀ x ∈ cs, 0 ≤ x ∧ x ≤ 6) ∧ isum cs ≤ 6 := by
  unfold countRowOk at h
  rw [Bool.and_eq_true, Bool.and_eq_true, Bool.and_eq_true, List.all_eq_true] at h
  have h1 := of_decide_eq_true h.1.1.1
  exact ⟨h1.1, h1.2, of_decide_eq_true h.1.1.2, fun x hx => of_decide_eq_true (h.1.2 x hx), of_decide_eq_true h.2⟩
theorem countRowOk_mk {c : Int} {cs : List Int} (h1 : 1 ≤ c) (h2 : c ≤ 3) (h3 : (cs.length : Int) = c) (h4 : ∀ j x, j < cs.length → cs[j]? = some x → 0 ≤ x ∧ x ≤ 6) (h5 : isum cs ≤ 6) : countRowOk c cs = true := by
  unfold countRowOk
  have h6 : cs.all cntOk = true := by
    rw [List.all_eq_true]
    intro x hx
    obtain ⟨j, hj, rfl⟩ := List.getElem_of_mem hx
    exact decide_eq_true (h4 j _ hj (List.getElem?_eq_getElem hj))
  rw [decide_eq_true ⟨h1, h2⟩, decide_eq_true h3, h6, decide_eq_true h5]; rfl
theorem countRowOk_no {c : Int} {cs : List Int} (h : c < 1 ∨ 3 < c ∨ (cs.length : Int) ≠ c ∨ (∃ (k : Nat) (x : Int), cs[k]? = some x ∧ (x < 0 ∨ 6 < x)) ∨ 6 < isum cs) : countRowOk c cs = false := by
  rw [Bool.eq_false_iff]
  intro hh
  obtain ⟨h1, h2, h3, h4, h5⟩ := countRowOk_yes hh
  rcases h with h | h | h | ⟨k, x, hx, h⟩ | h
  · omega
  · omega
  · exact h h3
  · have := h4 x (List.mem_of_getElem? hx); omega
  · omega
theorem row_urn {c : Int} {cs : List Int} (h1 : 1 ≤ c) (h2 : c ≤ 3) (h3 : (cs.length : Int) = c) (h4 : ∀ j x, j < cs.length → cs[j]? = some x → 0 ≤ x ∧ x ≤ 6) : urnOk cs = true :=
  urnOk_good (by omega) (fun j x hj hx => by have := h4 j x hj hx; omega)
theorem countRowOk_urn {c : Int} {cs : List Int} (h : countRowOk c cs = true) : urnOk cs = true := by
  obtain ⟨h1, h2, h3, h4, h5⟩ := countRowOk_yes h
  exact row_urn h1 h2 h3 (fun j x hj hx => h4 x (List.mem_of_getElem? hx))

def factI : Nat → Int
  | 0 => 1
  | k + 1 => factI k * ((k : Int) + 1)
theorem factI_small (k : Nat) (h : k ≤ 6) : 1 ≤ factI k ∧ factI k ≤ 720 := by
  match k, h with
  | 0, _ | 1, _ | 2, _ | 3, _ | 4, _ | 5, _ | 6, _ => decide
def multGo (n : Int) : List Int → Int
  | [] => n
  | x :: r => multGo (n / factI x.toNat) r
theorem multGo_step {cs : List Int} {k : Nat} {x : Int} (hx : cs[k]? = some x) (n : Int) : multGo n (cs.drop k) = multGo (n / factI x.toNat) (cs.drop (k + 1)) := by
  have hk := (List.getElem?_eq_some_iff.1 hx).1
  have e : cs.drop k = x :: cs.drop (k + 1) := by
    rw [List.drop_eq_getElem_cons hk]
    congr 1
    exact (List.getElem?_eq_some_iff.1 hx).2
  rw [e]; rfl
def mult (cs : List Int) : Int := multGo (factI (isum cs).toNat) cs
def wordsWith (c : Int) (cs : List Int) : Int := if countRowOk c cs then mult cs else -1
theorem div_small {a f : Int} (ha : 0 ≤ a) (ha' : a ≤ 720) (hf : 1 ≤ f) : 0 ≤ a / f ∧ a / f ≤ 720 := by
  refine ⟨Int.ediv_nonneg ha (by omega), ?_⟩
  exact Int.le_trans (Int.ediv_le_self _ ha) ha'
theorem ballsAt_set {zs : List Int} {k : Nat} (y : Int) (h : k < zs.length) (j : Nat) : (zs.set k y)[j]?.getD 0 = if j = k then y else zs[j]?.getD 0 := by
  rw [List.getElem?_set]
  by_cases hj : k = j
  · rw [if_pos hj, if_pos hj.symm, if_pos (by omega)]; rfl
  · rw [if_neg hj, if_neg (fun e => hj e.symm)]

/-- How often each colour is in a word. -/
def cntL (c : Nat) (ws : List Int) : List Int := (List.range c).map fun (i : Nat) => ((ws.count (i : Int) : Nat) : Int)
theorem cntL_nil (c : Nat) : cntL c [] = List.replicate c 0 := by
  apply List.ext_getElem
  · simp [cntL]
  · intro i h1 h2; simp [cntL]
theorem cntL_at (c : Nat) (ws : List Int) (i : Nat) (h : i < c) : (cntL c ws)[i]? = some (ws.count (i : Int) : Int) := by simp [cntL, h]
theorem cntL_set {c : Nat} {ws : List Int} {k : Nat} {x : Int} (hx : ws[k]? = some x) (h0 : 0 ≤ x) : (cntL c (ws.take k)).set x.toNat (((ws.take k).count x : Int) + 1) = cntL c (ws.take (k + 1)) := by
  rw [take_succ hx]
  apply List.ext_getElem
  · simp [cntL]
  · intro i h2 h3
    rw [List.getElem_set]
    have hi : i < c := by simpa [cntL] using h3
    split
    · have e : (i : Int) = x := by omega
      simp [cntL, List.count_append, e]
    · have e : ¬ x = (i : Int) := by omega
      simp [cntL, List.count_append, e]
def countsOf (cl : Int) (ws : List Int) : List Int := if wordOk cl ws then cntL cl.toNat ws else []
theorem countsOf_len (cl : Int) (ws : List Int) : (countsOf cl ws).length ≤ 3 := by
  unfold countsOf
  split
  · next h =>
    have := wordOk_yes h
    simp [cntL]; omega
  · simp

/-- The falling products of the first k colours. -/
def prodK (zs cs : List Int) : Nat → Int
  | 0 => 1
  | k + 1 => prodK zs cs k * fall (zs[k]?.getD 0) (cs[k]?.getD 0).toNat
theorem prodK_nonneg (zs cs : List Int) (k : Nat) : 0 ≤ prodK zs cs k := by
  induction k with
  | zero => simp [prodK]
  | succ k ih => exact Int.mul_nonneg ih (fall_nonneg _ _)
theorem fall_le40 {z : Int} (h : z ≤ 40) (k : Nat) : fall z k ≤ 40 ^ k := fall_le 40 z k h (by omega)
theorem prodK_le {zs cs : List Int} (hz : ∀ z ∈ zs, 0 ≤ z ∧ z ≤ 40) (hc : ∀ x ∈ cs, 0 ≤ x ∧ x ≤ 6) (k : Nat) : prodK zs cs k ≤ 40 ^ (isum (cs.take k)).toNat := by
  induction k with
  | zero => simp [prodK, isum]
  | succ k ih =>
    simp only [prodK]
    rcases Nat.lt_or_ge k cs.length with hk | hk
    · have hx := List.getElem?_eq_getElem hk
      have hcx := hc cs[k] (List.getElem_mem hk)
      have hs := (isum_bounds 6 (cs.take k) (fun x hx => hc x (List.mem_of_mem_take hx))).1
      rw [isum_take_succ hx, hx]
      have e : (isum (cs.take k) + cs[k]).toNat = (isum (cs.take k)).toNat + (cs[k]).toNat := by omega
      rw [e, Int.pow_add]
      have hz40 : zs[k]?.getD 0 ≤ 40 := by
        rcases Nat.lt_or_ge k zs.length with h2 | h2
        · rw [List.getElem?_eq_getElem h2]; exact (hz _ (List.getElem_mem h2)).2
        · rw [List.getElem?_eq_none h2]; decide
      exact Int.mul_le_mul ih (fall_le40 hz40 _) (fall_nonneg _ _) (Int.pow_nonneg (by omega))
    · rw [List.getElem?_eq_none hk, List.take_of_length_le (by omega)]
      rw [List.take_of_length_le hk] at ih
      simpa [fall] using ih
def prodC (zs cs : List Int) : Int := prodK zs cs cs.length
def countWays (zs cs : List Int) : Int := if urnOk zs && countRowOk zs.length cs then mult cs * prodC zs cs else -1
theorem multGo_bound (cs : List Int) (hc : ∀ x ∈ cs, 0 ≤ x ∧ x ≤ 6) (n : Int) (h0 : 0 ≤ n) (h1 : n ≤ 720) : 0 ≤ multGo n cs ∧ multGo n cs ≤ 720 := by
  induction cs generalizing n with
  | nil => exact ⟨h0, h1⟩
  | cons x r ih =>
    have hx := hc x (by simp)
    obtain ⟨f1, _⟩ := factI_small x.toNat (by omega)
    obtain ⟨d1, d2⟩ := div_small h0 h1 f1
    exact ih (fun y hy => hc y (by simp [hy])) _ d1 d2
theorem mult_bound {c : Int} {cs : List Int} (h : countRowOk c cs = true) : 0 ≤ mult cs ∧ mult cs ≤ 720 := by
  obtain ⟨_, _, _, h4, h5⟩ := countRowOk_yes h
  have hs := (isum_bounds 6 cs h4).1
  obtain ⟨f1, f2⟩ := factI_small (isum cs).toNat (by omega)
  exact multGo_bound cs h4 _ (by omega) f2
theorem pow40_6 (k : Nat) (h : k ≤ 6) : (40 : Int) ^ k ≤ 4096000000 := by
  match k, h with
  | 0, _ | 1, _ | 2, _ | 3, _ | 4, _ | 5, _ | 6, _ => decide
/-- What the ways of counts have come to, within the k-th colour. -/
theorem countWays_bound {zs cs : List Int} {k : Nat} {x z W : Int} (hu : urnOk zs = true) (hc : countRowOk zs.length cs = true) (hx : cs[k]? = some x) (hz : zs[k]? = some z) (hW0 : 0 ≤ W) (hW1 : W ≤ 720) (j : Nat) (hj : (j : Int) ≤ x) :
    0 ≤ W * (prodK zs cs k * fall z j) ∧ W * (prodK zs cs k * fall z j) ≤ 2949120000000 := by
  obtain ⟨_, _, _, h4, h5⟩ := countRowOk_yes hc
  have hzm := urnOk_mem hu
  have hp0 := prodK_nonneg zs cs k
  have hp1 := prodK_le hzm h4 k
  have hf0 := fall_nonneg z j
  have hf1 := fall_le40 (hzm z (List.mem_of_getElem? hz)).2 j
  have hs0 := (isum_bounds 6 (cs.take k) (fun x hx => h4 x (List.mem_of_mem_take hx))).1
  have hst := isum_take_succ hx
  have hs1 : isum (cs.take (k + 1)) ≤ isum cs := by
    have e := isum_append (cs.take (k + 1)) (cs.drop (k + 1))
    rw [List.take_append_drop] at e
    have := (isum_bounds 6 (cs.drop (k + 1)) (fun x hx => h4 x (List.mem_of_mem_drop hx))).1
    omega
  have hq : prodK zs cs k * fall z j ≤ 4096000000 := by
    refine Int.le_trans (Int.mul_le_mul hp1 hf1 hf0 (Int.pow_nonneg (by omega))) ?_
    rw [← Int.pow_add]
    exact pow40_6 _ (by omega)
  have hq0 := Int.mul_nonneg hp0 hf0
  have := mul_bound hW0 hW1 hq0 hq
  omega
theorem countWays_end {zs cs : List Int} (hu : urnOk zs = true) (hc : countRowOk zs.length cs = true) : countWays zs cs = mult cs * prodK zs cs cs.length := by
  unfold countWays prodC
  rw [hu, hc]; rfl
end Go.Proofs.Ythdelfhfglnhfab
