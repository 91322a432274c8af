/-
  Plain lemmas on chances: least terms, twice the balls, poured urns.
-/
import Derived.Test.YthdelfhfglnhfacPlain
namespace Go.Proofs.Ythdelfhfglnhfac
open Go.RowKit

/-- A chance told: its fraction is the balls over all balls, in least terms, in small numbers. -/
theorem chance_facts {zs : List Int} {k : Int} (h : hasF zs k = true) :
    0 ≤ chN zs k ∧ chN zs k ≤ chD zs k ∧ 1 ≤ chD zs k ∧ chD zs k ≤ 120 ∧ ∃ g, 0 < g ∧ chN zs k * g = ballsAt zs k ∧ chD zs k * g = isum zs := by
  obtain ⟨h1, h2, h3, h4⟩ := hasF_yes h
  have hk : k.toNat < zs.length := by omega
  have hx := List.getElem?_eq_getElem hk
  have hb := ballsAt_eq hx
  have hb2 := urnOk_elem h1 hx
  have hb3 := part_le_sum h1 hx
  have hs := urnOk_sum h1
  rw [← hb] at hb2 hb3
  have hd := gcdI_dvd (a := ballsAt zs k) (b := isum zs) hb2.1 (by omega)
  have hp := gcdI_pos (a := ballsAt zs k) h4
  have eN : chN zs k = ballsAt zs k / gcdI (ballsAt zs k) (isum zs) := by unfold chN; rw [if_pos h]
  have eD : chD zs k = isum zs / gcdI (ballsAt zs k) (isum zs) := by unfold chD; rw [if_pos h]
  have e1 : chN zs k * gcdI (ballsAt zs k) (isum zs) = ballsAt zs k := by rw [eN]; exact Int.ediv_mul_cancel hd.1
  have e2 : chD zs k * gcdI (ballsAt zs k) (isum zs) = isum zs := by rw [eD]; exact Int.ediv_mul_cancel hd.2
  have hn0 : 0 ≤ chN zs k := by rw [eN]; exact Int.ediv_nonneg hb2.1 (by omega)
  have hd0 : 1 ≤ chD zs k := by
    rcases Int.lt_or_le 0 (chD zs k) with hh | hh
    · omega
    · have : chD zs k * gcdI (ballsAt zs k) (isum zs) ≤ 0 := Int.mul_nonpos_of_nonpos_of_nonneg hh (by omega)
      omega
  refine ⟨hn0, ?_, hd0, ?_, _, hp, e1, e2⟩
  · rw [eN, eD]; exact Int.ediv_le_ediv hp hb3
  · have : chD zs k * 1 ≤ chD zs k * gcdI (ballsAt zs k) (isum zs) := Int.mul_le_mul_of_nonneg_left (by omega) (by omega)
    omega
theorem chN_no {zs : List Int} {k : Int} (h : hasF zs k = false) : chN zs k = 0 ∧ chD zs k = 0 := by
  unfold chN chD; exact ⟨if_neg (by rw [h]; decide), if_neg (by rw [h]; decide)⟩
theorem chance_mul {zs : List Int} {k : Int} (h : hasF zs k = true) : chN zs k * isum zs = ballsAt zs k * chD zs k := by
  obtain ⟨_, _, _, _, g, hg, e1, e2⟩ := chance_facts h
  rw [← e1, ← e2, Int.mul_assoc, Int.mul_comm g, ← Int.mul_assoc]
theorem chance_div {zs : List Int} {k : Int} (h : hasF zs k = true) : chN zs k * isum zs / chD zs k = ballsAt zs k := by
  obtain ⟨_, _, hd, _⟩ := chance_facts h
  rw [chance_mul h]
  exact Int.mul_ediv_cancel _ (by omega)
theorem mul_small {a b : Int} (ha : 0 ≤ a) (ha' : a ≤ 120) (hb : 0 ≤ b) (hb' : b ≤ 120) : 0 ≤ a * b ∧ a * b ≤ 14400 := by
  refine ⟨Int.mul_nonneg ha hb, ?_⟩
  have := Int.mul_le_mul ha' hb' hb (by omega)
  omega

theorem gcdI_twice {a b : Int} (ha : 0 ≤ a) (hb : 0 ≤ b) : gcdI (a + a) (b + b) = 2 * gcdI a b := by
  unfold gcdI
  have e1 : (a + a).toNat = 2 * a.toNat := by omega
  have e2 : (b + b).toNat = 2 * b.toNat := by omega
  rw [e1, e2, Nat.gcd_mul_left]
  omega
theorem ballsAt_add {xs ys : List Int} {k : Int} (h : xs.length = ys.length) (h0 : 0 ≤ k) (hk : k < xs.length) : ballsAt (addL xs ys) k = ballsAt xs k + ballsAt ys k := by
  have hx := List.getElem?_eq_getElem (l := xs) (i := k.toNat) (by omega)
  have hy := List.getElem?_eq_getElem (l := ys) (i := k.toNat) (by omega)
  rw [ballsAt_eq (addL_at hx hy), ballsAt_eq hx, ballsAt_eq hy]
/-- With twice the balls a chance is the same. -/
theorem chance_twice {zs : List Int} {k : Int} (h : hasF zs k = true) (hp : pourOk zs zs = true) :
    hasF (pourL zs zs) k = true ∧ chN (pourL zs zs) k = chN zs k ∧ chD (pourL zs zs) k = chD zs k := by
  obtain ⟨h1, h2, h3, h4⟩ := hasF_yes h
  have hu := (pourOk_yes hp).2.2.2
  rw [pourL_yes hp]
  have el := addL_len (xs := zs) (ys := zs) rfl
  have es := isum_addL (xs := zs) (ys := zs) rfl
  have eb := ballsAt_add (xs := zs) (ys := zs) rfl h2 h3
  have hh : hasF (addL zs zs) k = true := hasF_mk hu h2 (by omega) (by omega)
  have hx := List.getElem?_eq_getElem (l := zs) (i := k.toNat) (by omega)
  have hb2 := urnOk_elem h1 hx
  rw [← ballsAt_eq hx] at hb2
  have hg := gcdI_twice hb2.1 (Int.le_of_lt h4)
  refine ⟨hh, ?_, ?_⟩
  · unfold chN
    rw [if_pos hh, if_pos h, eb, es, hg, show ballsAt zs k + ballsAt zs k = 2 * ballsAt zs k from by omega]
    exact Int.mul_ediv_mul_of_pos _ _ (by omega)
  · unfold chD
    rw [if_pos hh, if_pos h, eb, es, hg, show isum zs + isum zs = 2 * isum zs from by omega]
    exact Int.mul_ediv_mul_of_pos _ _ (by omega)
/-- If one fraction is at most another one, that of both together lies between. -/
theorem between {p q r s u v a b S T : Int} {g1 g2 g3 : Int} (h1 : 0 < g1) (h2 : 0 < g2) (h3 : 0 < g3) (ep : p * g1 = a) (eq : q * g1 = S) (er : r * g2 = b) (es : s * g2 = T) (eu : u * g3 = a + b) (ev : v * g3 = S + T)
    (h : p * s ≤ r * q) : p * v ≤ u * q ∧ u * s ≤ r * v := by
  have key : a * T ≤ b * S := by
    have e1 : a * T = (g1 * g2) * (p * s) := by rw [← ep, ← es]; simp only [Int.mul_comm, Int.mul_left_comm]
    have e2 : b * S = (g1 * g2) * (r * q) := by rw [← er, ← eq]; simp only [Int.mul_comm, Int.mul_left_comm]
    rw [e1, e2]
    exact Int.mul_le_mul_of_nonneg_left h (Int.le_of_lt (Int.mul_pos h1 h2))
  constructor
  · have e1 : (g1 * g3) * (p * v) = a * (S + T) := by rw [← ep, ← ev]; simp only [Int.mul_comm, Int.mul_left_comm]
    have e2 : (g1 * g3) * (u * q) = (a + b) * S := by rw [← eu, ← eq]; simp only [Int.mul_comm, Int.mul_left_comm]
    refine Int.le_of_mul_le_mul_left ?_ (Int.mul_pos h1 h3)
    rw [e1, e2, Int.mul_add, Int.add_mul]
    omega
  · have e1 : (g2 * g3) * (u * s) = (a + b) * T := by rw [← eu, ← es]; simp only [Int.mul_comm, Int.mul_left_comm]
    have e2 : (g2 * g3) * (r * v) = b * (S + T) := by rw [← er, ← ev]; simp only [Int.mul_comm, Int.mul_left_comm]
    refine Int.le_of_mul_le_mul_left ?_ (Int.mul_pos h2 h3)
    rw [e1, e2, Int.mul_add, Int.add_mul]
    omega
theorem pour_has {xs ys : List Int} (hp : pourOk xs ys = true) (hx : hasF xs 0 = true) (hy : hasF ys 0 = true) : hasF (pourL xs ys) 0 = true := by
  obtain ⟨h1, h2, h3, h4⟩ := pourOk_yes hp
  obtain ⟨_, _, hl, hs⟩ := hasF_yes hx
  obtain ⟨_, _, _, hs'⟩ := hasF_yes hy
  rw [pourL_yes hp]
  exact hasF_mk h4 (by omega) (by rw [addL_len h3]; exact hl) (by rw [isum_addL h3]; omega)
theorem pour_between {xs ys : List Int} (hp : pourOk xs ys = true) (hx : hasF xs 0 = true) (hy : hasF ys 0 = true) :
    (chN xs 0 * chD ys 0 ≤ chN ys 0 * chD xs 0 → chN xs 0 * chD (pourL xs ys) 0 ≤ chN (pourL xs ys) 0 * chD xs 0 ∧ chN (pourL xs ys) 0 * chD ys 0 ≤ chN ys 0 * chD (pourL xs ys) 0) ∧
    (chN ys 0 * chD xs 0 ≤ chN xs 0 * chD ys 0 → chN ys 0 * chD (pourL xs ys) 0 ≤ chN (pourL xs ys) 0 * chD ys 0 ∧ chN (pourL xs ys) 0 * chD xs 0 ≤ chN xs 0 * chD (pourL xs ys) 0) := by
  obtain ⟨h1, h2, h3, h4⟩ := pourOk_yes hp
  have hz := pour_has hp hx hy
  obtain ⟨_, h0, hl, _⟩ := hasF_yes hx
  obtain ⟨_, _, _, _, g1, p1, e1, f1⟩ := chance_facts hx
  obtain ⟨_, _, _, _, g2, p2, e2, f2⟩ := chance_facts hy
  obtain ⟨_, _, _, _, g3, p3, e3, f3⟩ := chance_facts hz
  have eb : ballsAt (pourL xs ys) 0 = ballsAt xs 0 + ballsAt ys 0 := by rw [pourL_yes hp]; exact ballsAt_add h3 h0 hl
  have es : isum (pourL xs ys) = isum xs + isum ys := by rw [pourL_yes hp]; exact isum_addL h3
  rw [eb] at e3
  rw [es] at f3
  exact ⟨fun h => between p1 p2 p3 e1 f1 e2 f2 e3 f3 h, fun h => between p2 p1 p3 e2 f2 e1 f1 (by rw [e3]; omega) (by rw [f3]; omega) h⟩
end Go.Proofs.Ythdelfhfglnhfac
