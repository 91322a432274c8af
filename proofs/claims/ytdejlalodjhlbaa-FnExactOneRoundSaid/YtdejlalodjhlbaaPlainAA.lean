/-
  Plain functions and lemmas of chapter 10: runs. Words are few: facts are counted out by the kernel. No program is named here.
-/
import Derived.Test.YtdejlalodjhlbaaPlainY
namespace Go.Proofs.Ytdejlalodjhlbaa
open Go.RowKit
set_option linter.unusedVariables false

def newAt (ws : List Int) (k : Nat) : Bool := Nat.beq k 0 || decide (ws[k]? ≠ ws[k - 1]?)
def runsTo (ws : List Int) : Nat → Nat
  | 0 => 0
  | k + 1 => runsTo ws k + (if newAt ws k then 1 else 0)
def nowTo (ws : List Int) : Nat → Nat
  | 0 => 0
  | k + 1 => (if newAt ws k then 0 else nowTo ws k) + 1
def streakTo (ws : List Int) : Nat → Nat
  | 0 => 0
  | k + 1 => max (streakTo ws k) (nowTo ws (k + 1))
def runsF (c : Int) (ws : List Int) : Int := if wordOk c ws then (runsTo ws ws.length : Int) else -1
def longF (c : Int) (ws : List Int) : Int := if wordOk c ws then (streakTo ws ws.length : Int) else -1
theorem runsTo_le (ws : List Int) (k : Nat) : runsTo ws k ≤ k := by
  induction k with
  | zero => exact Nat.le_refl _
  | succ k ih => unfold runsTo; split <;> omega
theorem nowTo_le (ws : List Int) (k : Nat) : nowTo ws k ≤ k := by
  induction k with
  | zero => exact Nat.le_refl _
  | succ k ih => unfold nowTo; split <;> omega
theorem streakTo_le (ws : List Int) (k : Nat) : streakTo ws k ≤ k := by
  induction k with
  | zero => exact Nat.le_refl _
  | succ k ih =>
    have := nowTo_le ws (k + 1)
    unfold streakTo; omega
theorem newAt_zero (ws : List Int) : newAt ws 0 = true := rfl
theorem newAt_yes {ws : List Int} {k : Nat} {x y : Int} (h0 : 0 < k) (hx : ws[k]? = some x) (hy : ws[k - 1]? = some y) (h : x ≠ y) : newAt ws k = true := by
  unfold newAt
  rw [hx, hy, decide_eq_true (by simpa using h), Bool.or_true]
theorem newAt_no {ws : List Int} {k : Nat} {x y : Int} (h0 : 0 < k) (hx : ws[k]? = some x) (hy : ws[k - 1]? = some y) (h : x = y) : newAt ws k = false := by
  unfold newAt
  rw [hx, hy, decide_eq_false (by simpa using h), Bool.or_false]
  cases k with
  | zero => omega
  | succ k => rfl

/-! All words of at most 6 draws. -/
def wordsUp : Nat → List (List Int)
  | 0 => [[]]
  | m + 1 => (wordsUp m).flatMap fun w => [0 :: w, 1 :: w, 2 :: w]
theorem wordsUp_mem {ws : List Int} (h : ∀ x ∈ ws, 0 ≤ x ∧ x < 3) : ws ∈ wordsUp ws.length := by
  induction ws with
  | nil => simp [wordsUp]
  | cons x r ih =>
    have h1 := ih (fun y hy => h y (List.mem_cons_of_mem _ hy))
    have h2 := h x List.mem_cons_self
    simp only [List.length_cons, wordsUp, List.mem_flatMap]
    refine ⟨r, h1, ?_⟩
    rcases (show x = 0 ∨ x = 1 ∨ x = 2 by omega) with rfl | rfl | rfl <;> simp
def wordFine (ws : List Int) : Bool :=
  let m := ws.length
  let r := runsTo ws m
  let b := streakTo ws m
  let h := m / 2
  let t := runsTo (ws.take h) h + runsTo (ws.drop h) (m - h)
  Nat.beq (runsTo ws.reverse m) r && Nat.beq (streakTo ws.reverse m) b && (Nat.beq t r || Nat.beq t (r + 1)) && Nat.ble m (b * r) && (Nat.beq m 0 || Nat.ble (b + r) (m + 1)) && (Nat.beq b 0 || Nat.ble 1 m)
theorem runsW_cnt : ((List.range 7).all fun m => (wordsUp m).all wordFine) = true := by kernel_rfl
structure WordFine (ws : List Int) : Prop where
  back : runsTo ws.reverse ws.length = runsTo ws ws.length
  backB : streakTo ws.reverse ws.length = streakTo ws ws.length
  two : runsTo (ws.take (ws.length / 2)) (ws.length / 2) + runsTo (ws.drop (ws.length / 2)) (ws.length - ws.length / 2) = runsTo ws ws.length ∨ runsTo (ws.take (ws.length / 2)) (ws.length / 2) + runsTo (ws.drop (ws.length / 2)) (ws.length - ws.length / 2) = runsTo ws ws.length + 1
  all : ws.length ≤ streakTo ws ws.length * runsTo ws ws.length
  most : ws.length = 0 ∨ streakTo ws ws.length + runsTo ws ws.length ≤ ws.length + 1
  none_ : streakTo ws ws.length = 0 ∨ 1 ≤ ws.length
theorem word_fine {c : Int} {ws : List Int} (h : wordOk c ws = true) : WordFine ws := by
  obtain ⟨_, h3, h6, hx⟩ := wordOk_yes h
  have hm := wordsUp_mem (ws := ws) (fun x hxm => by have := hx x hxm; omega)
  have ha : (wordsUp ws.length).all wordFine = true := all_range runsW_cnt (k := ws.length) (by omega)
  have hf := List.all_eq_true.1 ha ws hm
  unfold wordFine at hf
  simp only [Bool.and_eq_true, Bool.or_eq_true] at hf
  obtain ⟨⟨⟨⟨⟨a, b⟩, c⟩, d⟩, e⟩, f⟩ := hf
  refine ⟨Nat.eq_of_beq_eq_true a, Nat.eq_of_beq_eq_true b, ?_, Nat.le_of_ble_eq_true d, ?_, ?_⟩
  · rcases c with c | c
    · exact .inl (Nat.eq_of_beq_eq_true c)
    · exact .inr (Nat.eq_of_beq_eq_true c)
  · rcases e with e | e
    · exact .inl (Nat.eq_of_beq_eq_true e)
    · exact .inr (Nat.le_of_ble_eq_true e)
  · rcases f with f | f
    · exact .inl (Nat.eq_of_beq_eq_true f)
    · exact .inr (Nat.le_of_ble_eq_true f)

/-! Words of two colours by their runs. -/
def pairOk (f s : Int) : Bool := decide (0 ≤ f ∧ 0 ≤ s ∧ f + s ≤ 6)
theorem pairOk_row (f s : Int) : countRowOk 2 [f, s] = pairOk f s := by
  by_cases h : 0 ≤ f ∧ 0 ≤ s ∧ f + s ≤ 6
  · rw [show pairOk f s = true from decide_eq_true h]
    refine countRowOk_mk (by omega) (by omega) rfl (fun j x hj hx => ?_) (by simp [isum]; omega)
    rcases j with _ | _ | j
    · simp at hx; omega
    · simp at hx; omega
    · simp at hx
  · rw [show pairOk f s = false from decide_eq_false h]
    cases hc : countRowOk 2 [f, s] with
    | false => rfl
    | true =>
      obtain ⟨_, _, _, h4, h5⟩ := countRowOk_yes hc
      have a := h4 f (by simp)
      have b := h4 s (by simp)
      simp [isum] at h5
      omega
def runN (f s r : Nat) : Int :=
  if f = 0 ∨ s = 0 then (if r = min (f + s) 1 then 1 else 0) else if 6 < r then 0 else
  if r % 2 = 0 then 2 * chooseI ((f : Int) - 1) ((r / 2 : Nat) - 1 : Int) * chooseI ((s : Int) - 1) ((r / 2 : Nat) - 1 : Int) else
  chooseI ((f : Int) - 1) ((r / 2 : Nat) : Int) * chooseI ((s : Int) - 1) ((r / 2 : Nat) - 1 : Int) + chooseI ((f : Int) - 1) ((r / 2 : Nat) - 1 : Int) * chooseI ((s : Int) - 1) ((r / 2 : Nat) : Int)
def runW (f s r : Int) : Int := if pairOk f s && decide (0 ≤ r) then runN f.toNat s.toNat r.toNat else -1
def runSumTo (f s : Nat) : Nat → Int
  | 0 => 0
  | k + 1 => runSumTo f s k + (k : Int) * runN f s k
def runS (f s : Int) : Int := if pairOk f s then runSumTo f.toNat s.toNat (f.toNat + s.toNat + 1) else -1
def runAllTo (f s : Nat) : Nat → Int
  | 0 => 0
  | k + 1 => runAllTo f s k + runN f s k
def hitAt (f s r q : Nat) : Bool := decide (cntL 2 (digs 2 (f + s) q) = [(f : Int), (s : Int)]) && Nat.beq (runsTo (digs 2 (f + s) q) (f + s)) r
def hitTo (f s r : Nat) : Nat → Nat
  | 0 => 0
  | q + 1 => hitTo f s r q + (if hitAt f s r q then 1 else 0)
def allPair (p : Nat → Nat → Bool) : Bool := (List.range 7).all fun f => (List.range 7).all fun s => Nat.blt 6 (f + s) || p f s
theorem allPair_at {p : Nat → Nat → Bool} (h : allPair p = true) {f s : Nat} (hs : f + s ≤ 6) : p f s = true := by
  have a := all_range (all_range h (k := f) (by omega)) (k := s) (by omega)
  rcases Bool.or_eq_true_iff.1 a with a | a
  · have : 6 < f + s := blt_iff.1 a
    omega
  · exact a
theorem run_cnt : allPair (fun f s => ((List.range 9).all fun r => decide (0 ≤ runN f s r ∧ runN f s r ≤ 20 ∧ runN s f r = runN f s r ∧ (hitTo f s r (2 ^ (f + s)) : Int) = runN f s r)) && ((List.range 8).all fun k => decide (0 ≤ runAllTo f s k ∧ runAllTo f s k ≤ 200 ∧ 0 ≤ runSumTo f s k ∧ runSumTo f s k ≤ 1000)) && decide (runAllTo f s (f + s + 1) = mult [(f : Int), (s : Int)]) && decide (runSumTo f s (f + s + 1) = (if 0 < f + s then mult [(f : Int), (s : Int)] else 0) + (if 0 < f ∧ 0 < s then 2 * ((f : Int) + (s : Int) - 1) * mult [(f : Int) - 1, (s : Int) - 1] else 0))) = true := by kernel_rfl
theorem run_facts {f s k : Nat} (h : f + s ≤ 6) (hk : k ≤ 6) : 0 ≤ runN f s k ∧ runN f s k ≤ 20 ∧ 0 ≤ runSumTo f s k ∧ runSumTo f s k ≤ 1000 ∧ 0 ≤ runAllTo f s k ∧ runAllTo f s k ≤ 200 := by
  have a := allPair_at run_cnt h
  simp only [Bool.and_eq_true] at a
  obtain ⟨⟨⟨a, b⟩, c⟩, d⟩ := a
  have a1 := of_decide_eq_true (all_range a (k := k) (by omega))
  have b1 := of_decide_eq_true (all_range b (k := k) (by omega))
  exact ⟨a1.1, a1.2.1, b1.2.2.1, b1.2.2.2, b1.1, b1.2.1⟩
theorem run_swap {f s r : Nat} (h : f + s ≤ 6) (hr : r ≤ 8) : runN s f r = runN f s r ∧ (hitTo f s r (2 ^ (f + s)) : Int) = runN f s r ∧ 0 ≤ runN f s r := by
  have a := allPair_at run_cnt h
  simp only [Bool.and_eq_true] at a
  obtain ⟨⟨⟨a, b⟩, c⟩, d⟩ := a
  have a1 := of_decide_eq_true (all_range a (k := r) (by omega))
  exact ⟨a1.2.2.1, a1.2.2.2, a1.1⟩
theorem run_all {f s : Nat} (h : f + s ≤ 6) : runAllTo f s (f + s + 1) = mult [(f : Int), (s : Int)] := by
  have a := allPair_at run_cnt h
  simp only [Bool.and_eq_true] at a
  exact of_decide_eq_true a.1.2
theorem run_sum {f s : Nat} (h : f + s ≤ 6) : runSumTo f s (f + s + 1) = (if 0 < f + s then mult [(f : Int), (s : Int)] else 0) + (if 0 < f ∧ 0 < s then 2 * ((f : Int) + (s : Int) - 1) * mult [(f : Int) - 1, (s : Int) - 1] else 0) := by
  have a := allPair_at run_cnt h
  simp only [Bool.and_eq_true] at a
  exact of_decide_eq_true a.2
end Go.Proofs.Ytdejlalodjhlbaa
