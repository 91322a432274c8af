/-
  Plain functions and lemmas on lists of integers: sums, chances, greatest common divisors. No program is named here.
-/
import Derived.Test.YthdelfhfglnhfabWords
namespace Go.Proofs.Ythdelfhfglnhfab
open Go.RowKit

def isum : List Int → Int
  | [] => 0
  | x :: r => x + isum r
theorem isum_append (xs ys : List Int) : isum (xs ++ ys) = isum xs + isum ys := by
  induction xs with
  | nil => simp [isum]
  | cons x r ih => simp [isum, ih]; omega
theorem take_succ {zs : List Int} {k : Nat} {x : Int} (h : zs[k]? = some x) : zs.take (k + 1) = zs.take k ++ [x] := by
  rw [List.take_add_one, h]; rfl
theorem isum_take_succ {zs : List Int} {k : Nat} {x : Int} (h : zs[k]? = some x) : isum (zs.take (k + 1)) = isum (zs.take k) + x := by
  rw [take_succ h, isum_append]; simp [isum]
theorem isum_bounds (M : Int) (zs : List Int) (h : ∀ z ∈ zs, 0 ≤ z ∧ z ≤ M) : 0 ≤ isum zs ∧ isum zs ≤ M * zs.length := by
  induction zs with
  | nil => simp [isum]
  | cons x r ih =>
    have h1 := h x (by simp)
    have h2 := ih (fun z hz => h z (by simp [hz]))
    have e : M * ((x :: r).length : Int) = M * (r.length : Int) + M := by
      rw [List.length_cons, Int.natCast_add, Int.mul_add]; simp
    rw [e]
    simp only [isum]
    omega
theorem urnOk_mem {zs : List Int} (h : urnOk zs = true) : ∀ z ∈ zs, 0 ≤ z ∧ z ≤ 40 := by
  unfold urnOk at h
  rw [Bool.and_eq_true, List.all_eq_true] at h
  intro z hz
  simpa [ballsOk] using h.2 z hz
theorem urnOk_elem {zs : List Int} {k : Nat} {x : Int} (h : urnOk zs = true) (hx : zs[k]? = some x) : 0 ≤ x ∧ x ≤ 40 := urnOk_mem h x (List.mem_of_getElem? hx)
theorem urnOk_size {zs : List Int} (h : urnOk zs = true) : 1 ≤ zs.length ∧ zs.length ≤ 3 := by
  unfold urnOk at h
  rw [Bool.and_eq_true] at h
  exact of_decide_eq_true h.1
theorem urnOk_sum {zs : List Int} (h : urnOk zs = true) : 0 ≤ isum zs ∧ isum zs ≤ 120 := by
  have h1 := isum_bounds 40 zs (urnOk_mem h)
  have h2 := urnOk_size h
  omega
theorem take_sum {zs : List Int} (h : urnOk zs = true) (k : Nat) : 0 ≤ isum (zs.take k) ∧ isum (zs.take k) ≤ 120 := by
  have h1 := isum_bounds 40 (zs.take k) (fun z hz => urnOk_mem h z (List.mem_of_mem_take hz))
  have h2 := urnOk_size h
  have h3 : (zs.take k).length ≤ zs.length := List.length_take_le' _ _
  omega
theorem part_le_sum {zs : List Int} (h : urnOk zs = true) {k : Nat} {x : Int} (hx : zs[k]? = some x) : x ≤ isum zs := by
  have h0 := urnOk_mem h
  clear h
  induction zs generalizing k with
  | nil => simp at hx
  | cons z r ih =>
    have hr := (isum_bounds 40 r (fun y hy => h0 y (by simp [hy]))).1
    have hz := h0 z (by simp)
    cases k with
    | zero => simp at hx; subst hx; simp only [isum]; omega
    | succ k =>
      have := ih (by simpa using hx) (fun y hy => h0 y (by simp [hy]))
      simp only [isum]; omega

def totalF (zs : List Int) : Int := if urnOk zs then isum zs else -1
theorem totalF_ok {zs : List Int} (h : urnOk zs = true) : totalF zs = isum zs := by unfold totalF; rw [if_pos h]
theorem totalF_no {zs : List Int} (h : urnOk zs = false) : totalF zs = -1 := by unfold totalF; rw [if_neg (by rw [h]; decide)]
theorem totalF_lo (zs : List Int) : -1 ≤ totalF zs ∧ totalF zs ≤ 120 := by
  by_cases h : urnOk zs = true
  · rw [totalF_ok h]; have := urnOk_sum h; omega
  · rw [totalF_no (by simpa using h)]; omega

def gcdI (a b : Int) : Int := (Nat.gcd a.toNat b.toNat : Int)
theorem gcdI_zero {a : Int} (h : 0 ≤ a) : gcdI a 0 = a := by simp [gcdI]; omega
theorem gcdI_step {a b : Int} (ha : 0 ≤ a) (hb : 0 < b) : gcdI b (a % b) = gcdI a b := by
  unfold gcdI
  rw [Int.toNat_emod ha (by omega), Nat.gcd_comm, ← Nat.gcd_rec, Nat.gcd_comm]
theorem gcdI_pos {a b : Int} (h : 0 < b) : 0 < gcdI a b := by
  have := Nat.gcd_pos_of_pos_right a.toNat (n := b.toNat) (by omega)
  unfold gcdI; omega
theorem gcdI_le {a b : Int} (h : 0 < b) : gcdI a b ≤ b := by
  have := Nat.gcd_le_right a.toNat (n := b.toNat) (by omega)
  unfold gcdI; omega
theorem gcdI_dvd {a b : Int} (ha : 0 ≤ a) (hb : 0 ≤ b) : gcdI a b ∣ a ∧ gcdI a b ∣ b := by
  unfold gcdI
  constructor
  · have := Nat.gcd_dvd_left a.toNat b.toNat
    have h := Int.natCast_dvd_natCast.2 this
    rwa [Int.toNat_of_nonneg ha] at h
  · have := Nat.gcd_dvd_right a.toNat b.toNat
    have h := Int.natCast_dvd_natCast.2 this
    rwa [Int.toNat_of_nonneg hb] at h

/-- Does ChanceOf tell a chance? -/
def hasF (zs : List Int) (c : Int) : Bool := urnOk zs && decide (0 ≤ c ∧ c < zs.length) && decide (0 < isum zs)
theorem hasF_yes {zs : List Int} {c : Int} (h : hasF zs c = true) : urnOk zs = true ∧ 0 ≤ c ∧ c < zs.length ∧ 0 < isum zs := by
  simp [hasF] at h
  exact ⟨h.1.1, h.1.2.1, h.1.2.2, h.2⟩
theorem hasF_mk {zs : List Int} {c : Int} (h : urnOk zs = true) (h1 : 0 ≤ c) (h2 : c < zs.length) (h3 : 0 < isum zs) : hasF zs c = true := by
  simp [hasF, h, h1, h2, h3]
theorem hasF_no {zs : List Int} {c : Int} (h : urnOk zs = false ∨ c < 0 ∨ (zs.length : Int) ≤ c ∨ isum zs ≤ 0) : hasF zs c = false := by
  rw [Bool.eq_false_iff]
  intro hh
  obtain ⟨h1, h2, h3, h4⟩ := hasF_yes hh
  rcases h with h | h | h | h
  · rw [h1] at h; cases h
  all_goals omega
def ballsAt (zs : List Int) (c : Int) : Int := zs[c.toNat]?.getD 0
def chN (zs : List Int) (c : Int) : Int := if hasF zs c then ballsAt zs c / gcdI (ballsAt zs c) (isum zs) else 0
def chD (zs : List Int) (c : Int) : Int := if hasF zs c then isum zs / gcdI (ballsAt zs c) (isum zs) else 0

theorem urnOk_set {zs : List Int} {k : Nat} {x : Int} (h : urnOk zs = true) (hx : zs[k]? = some x) (y : Int) : urnOk (zs.set k y) = decide (0 ≤ y ∧ y ≤ 40) := by
  have hk : k < zs.length := (List.getElem?_eq_some_iff.1 hx).1
  by_cases hy : 0 ≤ y ∧ y ≤ 40
  · rw [decide_eq_true hy]
    refine urnOk_good (by rw [List.length_set]; exact urnOk_size h) (fun j z hj hz => ?_)
    rw [List.getElem?_set] at hz
    split at hz
    · first | (injection hz with hz; omega) | (split at hz; · injection hz with hz; omega; · cases hz)
    · exact urnOk_elem h hz
  · rw [decide_eq_false hy]
    exact urnOk_bad (k := k) (x := y) (by rw [List.getElem?_set_self hk]) (by omega)
/-- Can so many balls of a colour be put in? -/
def putOk (zs : List Int) (k m : Int) : Bool := urnOk zs && decide (0 ≤ k ∧ k < zs.length) && decide (0 ≤ ballsAt zs k + m ∧ ballsAt zs k + m ≤ 40)
def putL (zs : List Int) (k m : Int) : List Int := if putOk zs k m then zs.set k.toNat (ballsAt zs k + m) else []
theorem putOk_yes {zs : List Int} {k m : Int} (h : putOk zs k m = true) : urnOk zs = true ∧ 0 ≤ k ∧ k < zs.length ∧ 0 ≤ ballsAt zs k + m ∧ ballsAt zs k + m ≤ 40 := by
  simp [putOk] at h
  exact ⟨h.1.1, h.1.2.1, h.1.2.2, h.2.1, h.2.2⟩
theorem putOk_mk {zs : List Int} {k m : Int} (h1 : urnOk zs = true) (h2 : 0 ≤ k ∧ k < zs.length) (h3 : 0 ≤ ballsAt zs k + m ∧ ballsAt zs k + m ≤ 40) : putOk zs k m = true := by
  simp [putOk, h1, h2, h3]
theorem putOk_no {zs : List Int} {k m : Int} (h : urnOk zs = false ∨ ¬ (0 ≤ k ∧ k < zs.length) ∨ ¬ (0 ≤ ballsAt zs k + m ∧ ballsAt zs k + m ≤ 40)) : putOk zs k m = false := by
  rw [Bool.eq_false_iff]
  intro hh
  obtain ⟨h1, h2, h3, h4, h5⟩ := putOk_yes hh
  rcases h with h | h | h
  · rw [h1] at h; cases h
  · exact h ⟨h2, h3⟩
  · exact h ⟨h4, h5⟩
theorem putL_no {zs : List Int} {k m : Int} (h : putOk zs k m = false) : putL zs k m = [] := by unfold putL; rw [if_neg (by rw [h]; decide)]
theorem putL_yes {zs : List Int} {k m : Int} (h : putOk zs k m = true) : putL zs k m = zs.set k.toNat (ballsAt zs k + m) := by unfold putL; rw [if_pos h]
theorem ballsAt_eq {zs : List Int} {k : Int} {x : Int} (h : zs[k.toNat]? = some x) : ballsAt zs k = x := by unfold ballsAt; rw [h]; rfl
theorem putOk_eq {zs : List Int} {k m x : Int} (h1 : urnOk zs = true) (h2 : 0 ≤ k ∧ k < zs.length) (hx : zs[k.toNat]? = some x) : putOk zs k m = decide (0 ≤ x + m ∧ x + m ≤ 40) := by
  by_cases h : 0 ≤ x + m ∧ x + m ≤ 40
  · rw [decide_eq_true h]; exact putOk_mk h1 h2 (by rw [ballsAt_eq hx]; exact h)
  · rw [decide_eq_false h]; exact putOk_no (.inr (.inr (by rw [ballsAt_eq hx]; exact h)))

/-- The sums of both, place by place. -/
def addL (xs ys : List Int) : List Int := List.zipWith (fun x y => x + y) xs ys
theorem addL_len {xs ys : List Int} (h : xs.length = ys.length) : (addL xs ys).length = xs.length := by simp [addL, h]
theorem addL_at {xs ys : List Int} {k : Nat} {x y : Int} (hx : xs[k]? = some x) (hy : ys[k]? = some y) : (addL xs ys)[k]? = some (x + y) := by
  simp [addL, List.getElem?_zipWith, hx, hy]
theorem addL_comm (xs ys : List Int) : addL xs ys = addL ys xs := by
  unfold addL; rw [List.zipWith_comm]; simp [Int.add_comm]
theorem isum_addL {xs ys : List Int} (h : xs.length = ys.length) : isum (addL xs ys) = isum xs + isum ys := by
  induction xs generalizing ys with
  | nil => cases ys with
    | nil => rfl
    | cons y r => simp at h
  | cons x r ih => cases ys with
    | nil => simp at h
    | cons y s =>
      have := ih (ys := s) (by simpa using h)
      simp only [addL, List.zipWith_cons_cons, isum] at this ⊢
      omega
def pourOk (xs ys : List Int) : Bool := urnOk xs && urnOk ys && decide (xs.length = ys.length) && urnOk (addL xs ys)
def pourL (xs ys : List Int) : List Int := if pourOk xs ys then addL xs ys else []
theorem pourOk_yes {xs ys : List Int} (h : pourOk xs ys = true) : urnOk xs = true ∧ urnOk ys = true ∧ xs.length = ys.length ∧ urnOk (addL xs ys) = true := by
  simp [pourOk] at h
  exact ⟨h.1.1.1, h.1.1.2, h.1.2, h.2⟩
theorem pourOk_eq {xs ys : List Int} (h1 : urnOk xs = true) (h2 : urnOk ys = true) (h3 : xs.length = ys.length) : pourOk xs ys = urnOk (addL xs ys) := by simp [pourOk, h1, h2, h3]
theorem pourOk_no {xs ys : List Int} (h : urnOk xs = false ∨ urnOk ys = false ∨ xs.length ≠ ys.length) : pourOk xs ys = false := by
  rw [Bool.eq_false_iff]
  intro hh
  obtain ⟨h1, h2, h3, _⟩ := pourOk_yes hh
  rcases h with h | h | h
  · rw [h1] at h; cases h
  · rw [h2] at h; cases h
  · exact h h3
theorem pourL_no {xs ys : List Int} (h : pourOk xs ys = false) : pourL xs ys = [] := by unfold pourL; rw [if_neg (by rw [h]; decide)]
theorem pourL_yes {xs ys : List Int} (h : pourOk xs ys = true) : pourL xs ys = addL xs ys := by unfold pourL; rw [if_pos h]
theorem putL_len (zs : List Int) (k m : Int) : (putL zs k m).length ≤ zs.length := by
  unfold putL; split <;> simp
theorem pourL_len (xs ys : List Int) : (pourL xs ys).length ≤ 3 := by
  unfold pourL
  split
  · next h =>
    have h1 := pourOk_yes h
    exact (urnOk_size h1.2.2.2).2
  · simp
theorem isum_set {zs : List Int} {k : Nat} {x : Int} (h : zs[k]? = some x) (y : Int) : isum (zs.set k y) = isum zs - x + y := by
  induction zs generalizing k with
  | nil => simp at h
  | cons z r ih =>
    cases k with
    | zero => simp at h; subst h; simp only [List.set_cons_zero, isum]; omega
    | succ k =>
      have := ih (k := k) (by simpa using h)
      simp only [List.set_cons_succ, isum]; omega
theorem put_back {zs : List Int} {k m : Int} (h : putOk zs k m = true) : putOk (putL zs k m) k (-m) = true ∧ putL (putL zs k m) k (-m) = zs ∧ totalF (putL zs k m) = totalF zs + m := by
  obtain ⟨h1, h2, h3, h4, h5⟩ := putOk_yes h
  have hk : k.toNat < zs.length := by omega
  have hx := List.getElem?_eq_getElem hk
  have eb : ballsAt zs k = zs[k.toNat] := ballsAt_eq hx
  have e := putL_yes h
  have hx2 : (putL zs k m)[k.toNat]? = some (ballsAt zs k + m) := by rw [e, List.getElem?_set_self hk]
  have hok : urnOk (putL zs k m) = true := by rw [e, urnOk_set h1 hx]; exact decide_eq_true ⟨h4, h5⟩
  have hlen : (putL zs k m).length = zs.length := by rw [e, List.length_set]
  have hb0 := urnOk_elem h1 hx
  have hp : putOk (putL zs k m) k (-m) = true := putOk_mk hok (by omega) (by rw [ballsAt_eq hx2, eb]; omega)
  refine ⟨hp, ?_, ?_⟩
  · rw [putL_yes hp, ballsAt_eq hx2, e, List.set_set]
    rw [show ballsAt zs k + m + -m = zs[k.toNat] from by omega]
    exact List.set_getElem_self hk
  · rw [totalF_ok hok, totalF_ok h1, e, isum_set hx]; omega
theorem pour_comm (xs ys : List Int) : pourOk ys xs = pourOk xs ys ∧ pourL ys xs = pourL xs ys := by
  have e : pourOk ys xs = pourOk xs ys := by
    unfold pourOk
    rw [addL_comm ys xs]
    by_cases h : xs.length = ys.length
    · rw [decide_eq_true h, decide_eq_true h.symm]
      cases urnOk xs <;> cases urnOk ys <;> rfl
    · rw [decide_eq_false h, decide_eq_false (fun e => h e.symm)]
      simp
  refine ⟨e, ?_⟩
  unfold pourL
  rw [e, addL_comm ys xs]
theorem pour_total {xs ys : List Int} (h : pourOk xs ys = true) : totalF (pourL xs ys) = totalF xs + totalF ys ∧ urnOk (pourL xs ys) = true := by
  obtain ⟨h1, h2, h3, h4⟩ := pourOk_yes h
  rw [pourL_yes h]
  exact ⟨by rw [totalF_ok h4, totalF_ok h1, totalF_ok h2, isum_addL h3], h4⟩
theorem urnOk_reverse (zs : List Int) : urnOk zs.reverse = urnOk zs := by
  unfold urnOk; rw [List.length_reverse, List.all_reverse]
theorem urnOk_zeros (n : Nat) (h : 1 ≤ n ∧ n ≤ 3) : urnOk (List.replicate n 0) = true :=
  urnOk_good (by simpa using h) (fun j x hj hx => by rw [List.getElem?_replicate] at hx; split at hx <;> first | (injection hx with hx; omega) | cases hx)
theorem isum_zeros (n : Nat) : isum (List.replicate n 0) = 0 := by
  induction n with
  | zero => rfl
  | succ n ih => rw [List.replicate_succ]; simp only [isum]; omega
end Go.Proofs.Ythdelfhfglnhfab
