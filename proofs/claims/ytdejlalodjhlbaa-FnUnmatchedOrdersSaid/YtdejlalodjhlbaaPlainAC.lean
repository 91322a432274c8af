/-
  Plain functions and lemmas of chapter 12: mixtures. No program is named here.
-/
import Derived.Test.YtdejlalodjhlbaaPlainAB
namespace Go.Proofs.Ytdejlalodjhlbaa
open Go.RowKit
set_option linter.unusedVariables false

def weightB (x : Int) : Bool := decide (0 ≤ x ∧ x ≤ 100000)
def mixOk (row : List Int) : Bool := row.all weightB && decide (1 ≤ row.length ∧ row.length ≤ 9)
def shortAt (row : List Int) (k : Nat) : Int := atI row k * ((row.length : Int) - 1 - (k : Int)) + atI row (k + 1) * ((k : Int) + 1)
def shortL (row : List Int) : List Int := (List.range (row.length - 1)).map (shortAt row)
def shortOk (row : List Int) : Bool := mixOk row && decide (2 ≤ row.length) && mixOk (shortL row)
def shortR (row : List Int) : List Int := if shortOk row then shortL row else []
def sampL (t m p : Int) : List Int := (List.range (p + 1).toNat).map fun (k : Nat) => markN t m p (k : Int)
def sampB (t m p : Int) : Bool := sampleB t m p && decide (p ≤ 8)
def sampOk (t m p : Int) : Bool := sampB t m p && mixOk (sampL t m p)
def sampR (t m p : Int) : List Int := if sampOk t m p then sampL t m p else []
def mixAtW (a : List Int) (p : Int) (b : List Int) (q : Int) (k : Nat) : Int := atI a k * p + atI b k * q
def mixW (a : List Int) (p : Int) (b : List Int) (q : Int) : List Int := (List.range a.length).map (mixAtW a p b q)
def mixB (a : List Int) (p : Int) (b : List Int) (q : Int) : Bool := mixOk a && mixOk b && decide (a.length = b.length) && decide (0 ≤ p ∧ p ≤ 9) && decide (0 ≤ q ∧ q ≤ 9)
def mixedOk (a : List Int) (p : Int) (b : List Int) (q : Int) : Bool := mixB a p b q && mixOk (mixW a p b q)
def mixedR (a : List Int) (p : Int) (b : List Int) (q : Int) : List Int := if mixedOk a p b q then mixW a p b q else []
def cntsTo (row : List Int) : Nat → Int
  | 0 => 0
  | k + 1 => cntsTo row k + (k : Int) * atI row k
def sumR (row : List Int) : Int := if mixOk row then isum row else 0
def cntsR (row : List Int) : Int := if mixOk row then cntsTo row row.length else 0

theorem mixOk_yes {row : List Int} (h : mixOk row = true) : (∀ x ∈ row, 0 ≤ x ∧ x ≤ 100000) ∧ 1 ≤ row.length ∧ row.length ≤ 9 := by
  obtain ⟨a, b⟩ := Bool.and_eq_true_iff.1 h
  have := of_decide_eq_true b
  exact ⟨fun x hx => of_decide_eq_true (List.all_eq_true.1 a x hx), this.1, this.2⟩
theorem mixOk_mk {row : List Int} (h : ∀ x ∈ row, 0 ≤ x ∧ x ≤ 100000) (h1 : 1 ≤ row.length) (h9 : row.length ≤ 9) : mixOk row = true := by
  unfold mixOk
  rw [Bool.and_eq_true]
  exact ⟨List.all_eq_true.2 fun x hx => decide_eq_true (h x hx), decide_eq_true ⟨h1, h9⟩⟩
theorem mixOk_bad {row : List Int} {k : Nat} {x : Int} (hx : row[k]? = some x) (h : ¬(0 ≤ x ∧ x ≤ 100000)) : mixOk row = false := by
  unfold mixOk
  rw [show row.all weightB = false from List.all_eq_false.2 ⟨x, List.mem_of_getElem? hx, by simpa [weightB] using h⟩]; rfl
theorem mixOk_end {row : List Int} (h : ∀ (k : Nat) x, row[k]? = some x → 0 ≤ x ∧ x ≤ 100000) : mixOk row = decide (1 ≤ row.length ∧ row.length ≤ 9) := by
  unfold mixOk
  rw [show row.all weightB = true from List.all_eq_true.2 fun x hx => by
    obtain ⟨k, hk, rfl⟩ := List.getElem_of_mem hx
    exact decide_eq_true (h k _ (List.getElem?_eq_getElem hk)), Bool.true_and]
theorem mixOk_turn (row : List Int) : mixOk row.reverse = mixOk row := by
  unfold mixOk
  rw [List.length_reverse, List.all_reverse]
theorem atI_bound {row : List Int} (h : mixOk row = true) (k : Nat) : 0 ≤ atI row k ∧ atI row k ≤ 100000 := by
  unfold atI
  cases hc : row[k]? with
  | none => simp
  | some x => exact (mixOk_yes h).1 x (List.mem_of_getElem? hc)
theorem shortL_len (row : List Int) : (shortL row).length = row.length - 1 := by simp [shortL]
theorem shortL_at {row : List Int} {k : Nat} (h : k < row.length - 1) : (shortL row)[k]? = some (shortAt row k) := by simp [shortL, h]
theorem sampL_len (t m p : Int) : (sampL t m p).length = (p + 1).toNat := by simp [sampL]
theorem sampL_at {t m p : Int} {k : Nat} (h : (k : Int) ≤ p) : (sampL t m p)[k]? = some (markN t m p (k : Int)) := by
  simp only [sampL, List.getElem?_map]
  rw [List.getElem?_range (by omega)]; rfl
theorem mixW_len (a : List Int) (p : Int) (b : List Int) (q : Int) : (mixW a p b q).length = a.length := by simp [mixW]
theorem mixW_at {a : List Int} {p : Int} {b : List Int} {q : Int} {k : Nat} (h : k < a.length) : (mixW a p b q)[k]? = some (mixAtW a p b q k) := by simp [mixW, h]
theorem atI_list {row : List Int} {k : Nat} (h : k < row.length) : row[k]? = some (atI row k) := by
  unfold atI
  rw [List.getElem?_eq_getElem h]; rfl
theorem shortAt_bound {row : List Int} (h : mixOk row = true) {k : Nat} (hk : k < row.length - 1) : 0 ≤ shortAt row k ∧ shortAt row k ≤ 2000000 := by
  have a := atI_bound h k
  have b := atI_bound h (k + 1)
  have c := (mixOk_yes h).2
  have d := mul_bound a.1 a.2 (b := (row.length : Int) - 1 - (k : Int)) (N := 8) (by omega) (by omega)
  have e := mul_bound b.1 b.2 (b := (k : Int) + 1) (N := 9) (by omega) (by omega)
  unfold shortAt
  omega
theorem mixAtW_bound {a b : List Int} {p q : Int} (h : mixB a p b q = true) (k : Nat) : 0 ≤ mixAtW a p b q k ∧ mixAtW a p b q k ≤ 2000000 := by
  unfold mixB at h
  simp only [Bool.and_eq_true] at h
  obtain ⟨⟨⟨⟨ha, hb⟩, _⟩, hp⟩, hq⟩ := h
  have hp := of_decide_eq_true hp
  have hq := of_decide_eq_true hq
  have c := atI_bound ha k
  have d := atI_bound hb k
  have e := mul_bound c.1 c.2 hp.1 hp.2
  have f := mul_bound d.1 d.2 hq.1 hq.2
  unfold mixAtW
  omega

theorem shortR_len (row : List Int) : (shortR row).length ≤ 9 := by
  unfold shortR
  by_cases h : shortOk row = true
  · rw [if_pos h]
    exact (mixOk_yes (Bool.and_eq_true_iff.1 h).2).2.2
  · rw [if_neg h]; simp
theorem sampR_len (t m p : Int) : (sampR t m p).length ≤ 9 := by
  unfold sampR
  by_cases h : sampOk t m p = true
  · rw [if_pos h]
    exact (mixOk_yes (Bool.and_eq_true_iff.1 h).2).2.2
  · rw [if_neg h]; simp
theorem mixedR_len (a : List Int) (p : Int) (b : List Int) (q : Int) : (mixedR a p b q).length ≤ 9 := by
  unfold mixedR
  by_cases h : mixedOk a p b q = true
  · rw [if_pos h]
    exact (mixOk_yes (Bool.and_eq_true_iff.1 h).2).2.2
  · rw [if_neg h]; simp

/-! Linear facts, length by length. -/
theorem row_cases {row : List Int} (h1 : 1 ≤ row.length) (h9 : row.length ≤ 9) : (∃ a, row = [a]) ∨ (∃ a b, row = [a, b]) ∨ (∃ a b c, row = [a, b, c]) ∨ (∃ a b c d, row = [a, b, c, d]) ∨ (∃ a b c d e, row = [a, b, c, d, e]) ∨ (∃ a b c d e f, row = [a, b, c, d, e, f]) ∨ (∃ a b c d e f g, row = [a, b, c, d, e, f, g]) ∨ (∃ a b c d e f g i, row = [a, b, c, d, e, f, g, i]) ∨ (∃ a b c d e f g i j, row = [a, b, c, d, e, f, g, i, j]) := by
  rcases row with _ | ⟨a, _ | ⟨b, _ | ⟨c, _ | ⟨d, _ | ⟨e, _ | ⟨f, _ | ⟨g, _ | ⟨i, _ | ⟨j, _ | ⟨z, row⟩⟩⟩⟩⟩⟩⟩⟩⟩⟩
  · simp at h1
  · exact .inl ⟨a, rfl⟩
  · exact .inr (.inl ⟨a, b, rfl⟩)
  · exact .inr (.inr (.inl ⟨a, b, c, rfl⟩))
  · exact .inr (.inr (.inr (.inl ⟨a, b, c, d, rfl⟩)))
  · exact .inr (.inr (.inr (.inr (.inl ⟨a, b, c, d, e, rfl⟩))))
  · exact .inr (.inr (.inr (.inr (.inr (.inl ⟨a, b, c, d, e, f, rfl⟩)))))
  · exact .inr (.inr (.inr (.inr (.inr (.inr (.inl ⟨a, b, c, d, e, f, g, rfl⟩))))))
  · exact .inr (.inr (.inr (.inr (.inr (.inr (.inr (.inl ⟨a, b, c, d, e, f, g, i, rfl⟩)))))))
  · exact .inr (.inr (.inr (.inr (.inr (.inr (.inr (.inr ⟨a, b, c, d, e, f, g, i, j, rfl⟩)))))))
  · simp at h9
theorem row_turn {row : List Int} (h1 : 1 ≤ row.length) (h9 : row.length ≤ 9) : isum row.reverse = isum row ∧ cntsTo row.reverse row.length + cntsTo row row.length = isum row * ((row.length : Int) - 1) := by
  rcases row_cases h1 h9 with ⟨a, rfl⟩ | ⟨a, b, rfl⟩ | ⟨a, b, c, rfl⟩ | ⟨a, b, c, d, rfl⟩ | ⟨a, b, c, d, e, rfl⟩ | ⟨a, b, c, d, e, f, rfl⟩ | ⟨a, b, c, d, e, f, g, rfl⟩ | ⟨a, b, c, d, e, f, g, i, rfl⟩ | ⟨a, b, c, d, e, f, g, i, j, rfl⟩ <;>
    · simp [cntsTo, atI, isum] <;> omega
theorem row_short {row : List Int} (h1 : 1 ≤ row.length) (h9 : row.length ≤ 9) : isum (shortL row) = isum row * ((row.length : Int) - 1) ∧ cntsTo (shortL row) (row.length - 1) = cntsTo row row.length * ((row.length : Int) - 2) := by
  rcases row_cases h1 h9 with ⟨a, rfl⟩ | ⟨a, b, rfl⟩ | ⟨a, b, c, rfl⟩ | ⟨a, b, c, d, rfl⟩ | ⟨a, b, c, d, e, rfl⟩ | ⟨a, b, c, d, e, f, rfl⟩ | ⟨a, b, c, d, e, f, g, rfl⟩ | ⟨a, b, c, d, e, f, g, i, rfl⟩ | ⟨a, b, c, d, e, f, g, i, j, rfl⟩ <;>
    · simp [shortL, shortAt, cntsTo, atI, isum, List.range_succ] <;> omega
theorem samp_sum (t m p : Int) (k : Nat) : isum ((List.range k).map fun (j : Nat) => markN t m p (j : Int)) = tailTo t m p 0 k := by
  induction k with
  | zero => rfl
  | succ k ih =>
    rw [List.range_succ, List.map_append, isum_append, ih, show tailTo t m p 0 (k + 1) = tailTo t m p 0 k + markN t m p (0 + (k : Int)) from rfl, Int.zero_add]
    simp [isum]
theorem samp_cnt : ((List.range 31).all fun t => (List.range 13).all fun m => (List.range 9).all fun p => Nat.blt t m || Nat.blt t p ||
    (decide (cntsTo (sampL (t : Int) (m : Int) (p : Int)) (p + 1) * (t : Int) = isum (sampL (t : Int) (m : Int) (p : Int)) * (m : Int) * (p : Int)) &&
     (List.range p).all fun k => decide (shortAt (sampL (t : Int) (m : Int) (p : Int)) k = markN (t : Int) (m : Int) ((p : Int) - 1) (k : Int) * ((t : Int) - (p : Int) + 1)))) = true := by kernel_rfl
end Go.Proofs.Ytdejlalodjhlbaa
