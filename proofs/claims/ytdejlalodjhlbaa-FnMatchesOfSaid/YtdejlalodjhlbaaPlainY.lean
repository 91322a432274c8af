/-
  Plain functions and lemmas of chapter 7: two rooms. All valid arguments of RoomAfter are few: facts are counted out by the kernel. No program is named here.
-/
import Derived.Test.YtdejlalodjhlbaaZpl
namespace Go.Proofs.Ytdejlalodjhlbaa
open Go.RowKit
set_option linter.unusedVariables false

/-- Row k of Pascal's numbers, as the product with a division at each step. -/
def chooseTo (n k : Nat) : Nat → Nat
  | 0 => 1
  | j + 1 => chooseTo n k j * (n - k + (j + 1)) / (j + 1)
def chooseN (n k : Nat) : Nat := chooseTo n k k
def chooseI (n k : Int) : Int := if k < 0 ∨ k > n then 0 else (chooseN n.toNat k.toNat : Int)
def atI (row : List Int) (k : Nat) : Int := row[k]?.getD 0
def stepAt (M : Nat) (row : List Int) (k j : Nat) : Int := (if j + 1 < k then atI row (j + 1) * ((j : Int) + 1) else 0) + (if 1 ≤ j ∧ j ≤ k then atI row (j - 1) * ((M : Int) - ((j : Int) - 1)) else 0)
def stepTo (M : Nat) (row : List Int) (k : Nat) : List Int := (List.range (M + 1)).map (stepAt M row k)
def stepL (M : Nat) (row : List Int) : List Int := stepTo M row (M + 1)
def okX (x : Int) : Bool := decide (0 ≤ x ∧ x ≤ 10000000)
def roomOk (m : Int) (row : List Int) : Bool := decide (1 ≤ m ∧ m ≤ 6 ∧ (row.length : Int) = m + 1) && row.all okX
def roomStep (m : Int) (row : List Int) : List Int := if roomOk m row = true ∧ roomOk m (stepL m.toNat row) = true then stepL m.toNat row else []
def unitL (M F : Nat) : List Int := (List.replicate (M + 1) 0).set F 1
def roomL (M F : Nat) : Nat → List Int
  | 0 => unitL M F
  | S + 1 => stepL M (roomL M F S)
def roomArgs (m f s : Int) : Bool := decide (1 ≤ m ∧ m ≤ 6 ∧ 0 ≤ f ∧ f ≤ m ∧ 0 ≤ s ∧ s ≤ 6)
def roomA (m f s : Int) : List Int := if roomArgs m f s then roomL m.toNat f.toNat s.toNat else []
def restL (M : Nat) : List Int := (List.range (M + 1)).map (fun k => (chooseN M k : Int))
def restR (m : Int) : List Int := if 1 ≤ m ∧ m ≤ 6 then restL m.toNat else []
def leanTo (M : Nat) (row : List Int) : Nat → Int
  | 0 => 0
  | k + 1 => leanTo M row k + atI row k * (2 * (k : Int) - (M : Int))
def leanA (m f s : Int) : Int := if roomArgs m f s then leanTo m.toNat (roomL m.toNat f.toNat s.toNat) (m.toNat + 1) else 0

theorem roomArgs_yes {m f s : Int} (h : roomArgs m f s = true) : ∃ M F S : Nat, m = (M : Int) ∧ f = (F : Int) ∧ s = (S : Int) ∧ 1 ≤ M ∧ M ≤ 6 ∧ F ≤ M ∧ S ≤ 6 := by
  have := of_decide_eq_true h
  exact ⟨m.toNat, f.toNat, s.toNat, by omega, by omega, by omega, by omega, by omega, by omega, by omega⟩
theorem roomArgs_mk {M F S : Nat} (h1 : 1 ≤ M) (h6 : M ≤ 6) (hF : F ≤ M) (hS : S ≤ 6) : roomArgs (M : Int) (F : Int) (S : Int) = true := decide_eq_true (by omega)
theorem roomOk_yes {m : Int} {row : List Int} (h : roomOk m row = true) : ∃ M : Nat, m = (M : Int) ∧ 1 ≤ M ∧ M ≤ 6 ∧ row.length = M + 1 ∧ ∀ (k : Nat) x, row[k]? = some x → 0 ≤ x ∧ x ≤ 10000000 := by
  obtain ⟨a, b⟩ := Bool.and_eq_true_iff.1 h
  have := of_decide_eq_true a
  exact ⟨m.toNat, by omega, by omega, by omega, by omega, fun k x hx => of_decide_eq_true (List.all_eq_true.1 b x (List.mem_of_getElem? hx))⟩
theorem roomOk_mk {M : Nat} {row : List Int} (h1 : 1 ≤ M) (h6 : M ≤ 6) (hl : row.length = M + 1) (ha : ∀ x ∈ row, 0 ≤ x ∧ x ≤ 10000000) : roomOk (M : Int) row = true := by
  unfold roomOk
  rw [decide_eq_true (by omega), Bool.true_and, List.all_eq_true]
  exact fun x hx => decide_eq_true (ha x hx)
theorem atI_some {row : List Int} {k : Nat} {x : Int} (h : row[k]? = some x) : atI row k = x := by unfold atI; rw [h]; rfl
theorem stepTo_len (M : Nat) (row : List Int) (k : Nat) : (stepTo M row k).length = M + 1 := by simp [stepTo]
theorem stepTo_at {M : Nat} {row : List Int} {k j : Nat} (h : j < M + 1) : (stepTo M row k)[j]? = some (stepAt M row k j) := by simp [stepTo, h]
theorem stepTo_zero (M : Nat) (row : List Int) : stepTo M row 0 = List.replicate (M + 1) 0 := by
  apply List.ext_getElem?
  intro j
  by_cases h : j < M + 1
  · rw [stepTo_at h, List.getElem?_replicate, if_pos h]
    unfold stepAt
    rw [if_neg (by omega), if_neg (by omega)]
    rfl
  · rw [List.getElem?_eq_none (by rw [stepTo_len]; omega), List.getElem?_eq_none (by simp; omega)]
theorem stepAt_same {M : Nat} {row : List Int} {k k' j : Nat} (h1 : j + 1 < k ↔ j + 1 < k') (h2 : (1 ≤ j ∧ j ≤ k) ↔ (1 ≤ j ∧ j ≤ k')) : stepAt M row k j = stepAt M row k' j := by
  unfold stepAt
  simp only [h1, h2]
theorem stepTo_lo {M : Nat} {row : List Int} (h1 : 1 ≤ M) : (stepTo M row 0).set 1 (stepAt M row 0 1 + atI row 0 * ((M : Int) - ((0 : Nat) : Int))) = stepTo M row 1 := by
  apply List.ext_getElem?
  intro j
  by_cases h : j < M + 1
  · rw [List.getElem?_set, stepTo_at h, stepTo_at h, stepTo_len]
    unfold stepAt
    by_cases hj : 1 = j
    · subst hj
      simp
      omega
    · rw [if_neg hj]
      congr 1
      rw [if_neg (by omega), if_neg (by omega), if_neg (by omega), if_neg (by omega)]
  · rw [List.getElem?_eq_none (by rw [List.length_set, stepTo_len]; omega), List.getElem?_eq_none (by rw [stepTo_len]; omega)]
theorem stepTo_hi {M : Nat} {row : List Int} (h1 : 1 ≤ M) : (stepTo M row M).set (M - 1) (stepAt M row M (M - 1) + atI row M * (M : Int)) = stepTo M row (M + 1) := by
  apply List.ext_getElem?
  intro j
  by_cases h : j < M + 1
  · rw [List.getElem?_set, stepTo_at h, stepTo_at h, stepTo_len]
    by_cases hj : M - 1 = j
    · subst hj
      unfold stepAt
      rw [if_pos rfl, if_pos (by omega), if_neg (by omega), if_pos (show M - 1 + 1 < M + 1 by omega), show M - 1 + 1 = M by omega, show ((M - 1 : Nat) : Int) + 1 = (M : Int) by omega]
      by_cases h2 : 2 ≤ M
      · rw [if_pos (by omega), if_pos (by omega)]; congr 1; omega
      · rw [if_neg (by omega), if_neg (by omega)]; congr 1; omega
    · rw [if_neg hj]
      congr 1
      exact stepAt_same (by omega) (by omega)
  · rw [List.getElem?_eq_none (by rw [List.length_set, stepTo_len]; omega), List.getElem?_eq_none (by rw [stepTo_len]; omega)]
theorem stepTo_mid1 {M k : Nat} {row : List Int} (hk : k < M) : ((stepTo M row k).set (k - 1) (stepAt M row k (k - 1) + atI row k * (k : Int)))[k + 1]? = some (stepAt M row k (k + 1)) := by
  rw [List.getElem?_set, if_neg (by omega), stepTo_at (by omega)]
theorem stepTo_mid {M k : Nat} {row : List Int} (h0 : 1 ≤ k) (hk : k < M) : ((stepTo M row k).set (k - 1) (stepAt M row k (k - 1) + atI row k * (k : Int))).set (k + 1) (stepAt M row k (k + 1) + atI row k * ((M : Int) - (k : Int))) = stepTo M row (k + 1) := by
  apply List.ext_getElem?
  intro j
  by_cases h : j < M + 1
  · rw [List.getElem?_set, List.getElem?_set, stepTo_at h, stepTo_at h, List.length_set, stepTo_len]
    by_cases hj : k + 1 = j
    · subst hj
      unfold stepAt
      rw [if_pos rfl, if_pos (by omega), if_neg (by omega), if_neg (by omega), if_neg (by omega), if_pos (by omega), show k + 1 - 1 = k by omega]
      congr 1
      rw [show ((k + 1 : Nat) : Int) - 1 = (k : Int) by omega, Int.zero_add, Int.zero_add]
    · rw [if_neg hj]
      by_cases hj2 : k - 1 = j
      · subst hj2
        unfold stepAt
        rw [if_pos rfl, if_pos (by omega), if_neg (by omega), if_pos (show k - 1 + 1 < k + 1 by omega), show k - 1 + 1 = k by omega, show ((k - 1 : Nat) : Int) + 1 = (k : Int) by omega]
        by_cases h2 : 2 ≤ k
        · rw [if_pos (by omega), if_pos (by omega)]; congr 1; omega
        · rw [if_neg (by omega), if_neg (by omega)]; congr 1; omega
      · rw [if_neg hj2]
        congr 1
        exact stepAt_same (by omega) (by omega)
  · rw [List.getElem?_eq_none (by rw [List.length_set, List.length_set, stepTo_len]; omega), List.getElem?_eq_none (by rw [stepTo_len]; omega)]
theorem stepL_len (M : Nat) (row : List Int) : (stepL M row).length = M + 1 := stepTo_len _ _ _
theorem stepAt_bound {M : Nat} {row : List Int} (h6 : M ≤ 6) (ha : ∀ (k : Nat) x, row[k]? = some x → 0 ≤ x ∧ x ≤ 10000000) {k j : Nat} (hj : j ≤ M) : 0 ≤ stepAt M row k j ∧ stepAt M row k j ≤ 130000000 := by
  have hat : ∀ i, 0 ≤ atI row i ∧ atI row i ≤ 10000000 := by
    intro i
    unfold atI
    cases hi : row[i]? with
    | none => simp
    | some x => exact ha i x hi
  unfold stepAt
  have b1 := hat (j + 1)
  have b2 := hat (j - 1)
  have c1 := mul_bound b1.1 b1.2 (b := (j : Int) + 1) (N := 7) (by omega) (by omega)
  by_cases h2 : 1 ≤ j ∧ j ≤ k
  · have c2 := mul_bound b2.1 b2.2 (b := (M : Int) - ((j : Int) - 1)) (N := 6) (by omega) (by omega)
    rw [if_pos h2]
    split <;> omega
  · rw [if_neg h2]
    split <;> omega

theorem len_cases {M : Nat} {row : List Int} (h1 : 1 ≤ M) (h6 : M ≤ 6) (hl : row.length = M + 1) : (∃ a b, M = 1 ∧ row = [a, b]) ∨ (∃ a b c, M = 2 ∧ row = [a, b, c]) ∨ (∃ a b c d, M = 3 ∧ row = [a, b, c, d]) ∨ (∃ a b c d e, M = 4 ∧ row = [a, b, c, d, e]) ∨ (∃ a b c d e f, M = 5 ∧ row = [a, b, c, d, e, f]) ∨ (∃ a b c d e f g, M = 6 ∧ row = [a, b, c, d, e, f, g]) := by
  rcases row with _ | ⟨a, _ | ⟨b, _ | ⟨c, _ | ⟨d, _ | ⟨e, _ | ⟨f, _ | ⟨g, _ | ⟨z, row⟩⟩⟩⟩⟩⟩⟩⟩ <;> simp at hl <;> try omega
  · exact .inl ⟨a, b, by omega, rfl⟩
  · exact .inr (.inl ⟨a, b, c, by omega, rfl⟩)
  · exact .inr (.inr (.inl ⟨a, b, c, d, by omega, rfl⟩))
  · exact .inr (.inr (.inr (.inl ⟨a, b, c, d, e, by omega, rfl⟩)))
  · exact .inr (.inr (.inr (.inr (.inl ⟨a, b, c, d, e, f, by omega, rfl⟩))))
  · exact .inr (.inr (.inr (.inr (.inr ⟨a, b, c, d, e, f, g, by omega, rfl⟩))))
theorem stepL_sum {M : Nat} {row : List Int} (h1 : 1 ≤ M) (h6 : M ≤ 6) (hl : row.length = M + 1) : isum (stepL M row) = isum row * (M : Int) := by
  rcases len_cases h1 h6 hl with ⟨a, b, rfl, rfl⟩ | ⟨a, b, c, rfl, rfl⟩ | ⟨a, b, c, d, rfl, rfl⟩ | ⟨a, b, c, d, e, rfl, rfl⟩ | ⟨a, b, c, d, e, f, rfl, rfl⟩ | ⟨a, b, c, d, e, f, g, rfl, rfl⟩ <;>
    · simp [stepL, stepTo, stepAt, atI, List.range_succ, isum]
      omega
theorem stepL_turn {M : Nat} {row : List Int} (h1 : 1 ≤ M) (h6 : M ≤ 6) (hl : row.length = M + 1) : stepL M row.reverse = (stepL M row).reverse := by
  rcases len_cases h1 h6 hl with ⟨a, b, rfl, rfl⟩ | ⟨a, b, c, rfl, rfl⟩ | ⟨a, b, c, d, rfl, rfl⟩ | ⟨a, b, c, d, e, rfl, rfl⟩ | ⟨a, b, c, d, e, f, rfl, rfl⟩ | ⟨a, b, c, d, e, f, g, rfl, rfl⟩ <;>
    · simp [stepL, stepTo, stepAt, atI, List.range_succ] <;> omega
theorem roomOk_turn (m : Int) (row : List Int) : roomOk m row.reverse = roomOk m row := by
  unfold roomOk
  rw [List.length_reverse, List.all_reverse]
theorem roomStep_turn (m : Int) (row : List Int) : roomStep m row.reverse = (roomStep m row).reverse := by
  unfold roomStep
  rw [roomOk_turn]
  by_cases h : roomOk m row = true
  · obtain ⟨M, rfl, h1, h6, hl, _⟩ := roomOk_yes h
    rw [Int.toNat_natCast, stepL_turn h1 h6 hl, roomOk_turn]
    split <;> simp
  · rw [if_neg (fun a => h a.1), if_neg (fun a => h a.1)]; rfl

/-! All valid arguments. -/
def allRoom (p : Nat → Nat → Nat → Bool) : Bool := (List.range 6).all fun m => (List.range 7).all fun f => (List.range 7).all fun s => Nat.blt (m + 1) f || p (m + 1) f s
theorem allRoom_at {p : Nat → Nat → Nat → Bool} (h : allRoom p = true) {M F S : Nat} (h1 : 1 ≤ M) (h6 : M ≤ 6) (hF : F ≤ M) (hS : S ≤ 6) : p M F S = true := by
  unfold allRoom at h
  have a := List.all_eq_true.1 h (M - 1) (by simp; omega)
  have b := List.all_eq_true.1 a F (by simp; omega)
  have c := List.all_eq_true.1 b S (by simp; omega)
  rw [show M - 1 + 1 = M by omega] at c
  rcases Bool.or_eq_true_iff.1 c with c | c
  · have : M < F := blt_iff.1 c
    omega
  · exact c
theorem roomL_len (M F S : Nat) : (roomL M F S).length = M + 1 := by
  cases S with
  | zero => simp [roomL, unitL]
  | succ S => exact stepL_len _ _
def leanF (M F S : Nat) : Int := (2 * (F : Int) - (M : Int)) * ((M : Int) - 2) ^ S
theorem room_cnt : allRoom (fun M F S => ((roomL M F S).all fun x => decide (0 ≤ x ∧ x ≤ 46656)) && decide (isum (roomL M F S) = ((M ^ S : Nat) : Int)) && decide (leanTo M (roomL M F S) (M + 1) = leanF M F S)) = true := by kernel_rfl
theorem room_par : allRoom (fun M F S => (List.range (M + 1)).all fun k => Nat.beq ((k + F + S) % 2) 0 || decide (atI (roomL M F S) k = 0)) = true := by kernel_rfl
theorem room_bal : allRoom (fun M F S => (List.range (M + 1)).all fun k => decide (atI (restL M) F * atI (roomL M F S) k = atI (restL M) k * atI (roomL M k S) F)) = true := by kernel_rfl
/-- The ways to a number after one step and S others, over the first k numbers between. -/
def twoAt (M F S : Nat) : Nat → Nat → Int
  | 0, _ => 0
  | k + 1, j => twoAt M F S k j + atI (roomL M F 1) k * atI (roomL M k S) j
theorem room_two : allRoom (fun M F S => Nat.beq S 6 || (List.range (M + 1)).all fun j => decide (twoAt M F S (M + 1) j = atI (roomL M F (S + 1)) j)) = true := by kernel_rfl

theorem choose_cnt : ((List.range 31).all fun n => (List.range (n + 1)).all fun k => (List.range (k + 1)).all fun j => Nat.ble (chooseTo n k j) 200000000) = true := by kernel_rfl
theorem choose_bound {n k j : Nat} (hn : n ≤ 30) (hk : k ≤ n) (hj : j ≤ k) : chooseTo n k j ≤ 200000000 := Nat.le_of_ble_eq_true (all_range (all_range (all_range choose_cnt (k := n) (by omega)) (k := k) (by omega)) (k := j) (by omega))
theorem chooseI_in {n k : Nat} (h : k ≤ n) : chooseI (n : Int) (k : Int) = (chooseN n k : Int) := by
  unfold chooseI
  rw [if_neg (by omega), Int.toNat_natCast, Int.toNat_natCast]
theorem chooseI_out {n k : Int} (h : k < 0 ∨ k > n) : chooseI n k = 0 := if_pos h
theorem room_elem {M F S k : Nat} {x : Int} (h1 : 1 ≤ M) (h6 : M ≤ 6) (hF : F ≤ M) (hS : S ≤ 6) (hx : (roomL M F S)[k]? = some x) : 0 ≤ x ∧ x ≤ 46656 := by
  have h := allRoom_at room_cnt h1 h6 hF hS
  obtain ⟨h, c⟩ := Bool.and_eq_true_iff.1 h
  obtain ⟨a, b⟩ := Bool.and_eq_true_iff.1 h
  exact of_decide_eq_true (List.all_eq_true.1 a x (List.mem_of_getElem? hx))
theorem room_sum {M F S : Nat} (h1 : 1 ≤ M) (h6 : M ≤ 6) (hF : F ≤ M) (hS : S ≤ 6) : isum (roomL M F S) = ((M ^ S : Nat) : Int) := by
  have h := allRoom_at room_cnt h1 h6 hF hS
  obtain ⟨h, c⟩ := Bool.and_eq_true_iff.1 h
  exact of_decide_eq_true (Bool.and_eq_true_iff.1 h).2
theorem room_lean {M F S : Nat} (h1 : 1 ≤ M) (h6 : M ≤ 6) (hF : F ≤ M) (hS : S ≤ 6) : leanTo M (roomL M F S) (M + 1) = leanF M F S :=
  of_decide_eq_true (Bool.and_eq_true_iff.1 (allRoom_at room_cnt h1 h6 hF hS)).2
theorem lean_cnt : allRoom (fun M F S => (List.range (M + 2)).all fun k => decide (-2000000 ≤ leanTo M (roomL M F S) k) && decide (leanTo M (roomL M F S) k ≤ 2000000)) = true := by kernel_rfl
theorem lean_bound {M F S k : Nat} (h1 : 1 ≤ M) (h6 : M ≤ 6) (hF : F ≤ M) (hS : S ≤ 6) (hk : k ≤ M + 1) : -2000000 ≤ leanTo M (roomL M F S) k ∧ leanTo M (roomL M F S) k ≤ 2000000 := by
  have h := all_range (allRoom_at lean_cnt h1 h6 hF hS) (k := k) (by omega)
  obtain ⟨a, b⟩ := Bool.and_eq_true_iff.1 h
  exact ⟨of_decide_eq_true a, of_decide_eq_true b⟩
theorem restL_len (M : Nat) : (restL M).length = M + 1 := by simp [restL]
theorem restL_at {M k : Nat} (h : k < M + 1) : (restL M)[k]? = some (chooseN M k : Int) := by simp [restL, h]
theorem roomA_len (m f s : Int) : (roomA m f s).length ≤ 7 := by
  unfold roomA
  by_cases h : roomArgs m f s = true
  · have := of_decide_eq_true h
    rw [if_pos h, roomL_len]; omega
  · rw [if_neg h]; simp
theorem restR_len (m : Int) : (restR m).length ≤ 7 := by
  unfold restR
  by_cases h : 1 ≤ m ∧ m ≤ 6
  · rw [if_pos h, restL_len]; omega
  · rw [if_neg h]; simp
theorem roomStep_len (m : Int) (row : List Int) : (roomStep m row).length ≤ 7 := by
  unfold roomStep
  by_cases h : roomOk m row = true ∧ roomOk m (stepL m.toNat row) = true
  · obtain ⟨M, rfl, h1, h6, _⟩ := roomOk_yes h.1
    rw [if_pos h, Int.toNat_natCast, stepL_len]; omega
  · rw [if_neg h]; simp
/-! The row at rest. -/
def sqTo (M : Nat) (row : List Int) : Nat → Int
  | 0 => 0
  | k + 1 => sqTo M row k + atI row k * (2 * (k : Int) - (M : Int)) * (2 * (k : Int) - (M : Int))
theorem rest_cnt : ((List.range 6).all fun m => let M := m + 1
    ((restL M).all fun x => decide (1 ≤ x ∧ x ≤ 20)) && ((List.range (M + 2)).all fun k => decide (0 ≤ sqTo M (restL M) k ∧ sqTo M (restL M) k ≤ 1000) && decide (-1000 ≤ leanTo M (restL M) k ∧ leanTo M (restL M) k ≤ 1000)) && decide (sqTo M (restL M) (M + 1) = ((M * 2 ^ M : Nat) : Int)) && decide (leanTo M (restL M) (M + 1) = 0) && decide (isum (restL M) = ((2 ^ M : Nat) : Int)) && ((List.range (M + 1)).all fun k => decide (atI (stepL M (restL M)) k = atI (restL M) k * (M : Int)) && (Nat.beq k M || decide (atI (restL M) k * ((M : Int) - (k : Int)) = atI (restL M) (k + 1) * ((k : Int) + 1)))) && roomOk (M : Int) (restL M) && roomOk (M : Int) (stepL M (restL M))) = true := by kernel_rfl
structure RestFacts (M : Nat) : Prop where
  elem : ∀ (k : Nat) x, (restL M)[k]? = some x → 1 ≤ x ∧ x ≤ 20
  sqB : ∀ k, k ≤ M + 1 → 0 ≤ sqTo M (restL M) k ∧ sqTo M (restL M) k ≤ 1000
  leB : ∀ k, k ≤ M + 1 → -1000 ≤ leanTo M (restL M) k ∧ leanTo M (restL M) k ≤ 1000
  sq : sqTo M (restL M) (M + 1) = ((M * 2 ^ M : Nat) : Int)
  lean : leanTo M (restL M) (M + 1) = 0
  sum : isum (restL M) = ((2 ^ M : Nat) : Int)
  step : ∀ k, k ≤ M → atI (stepL M (restL M)) k = atI (restL M) k * (M : Int)
  flow : ∀ k, k < M → atI (restL M) k * ((M : Int) - (k : Int)) = atI (restL M) (k + 1) * ((k : Int) + 1)
  ok : roomStep (M : Int) (restL M) = stepL M (restL M)
theorem rest_facts {M : Nat} (h1 : 1 ≤ M) (h6 : M ≤ 6) : RestFacts M := by
  have h := all_range rest_cnt (k := M - 1) (by omega)
  rw [show M - 1 + 1 = M by omega] at h
  simp only [Bool.and_eq_true] at h
  obtain ⟨⟨⟨⟨⟨⟨⟨a, b⟩, c⟩, d⟩, e⟩, f⟩, g⟩, i⟩ := h
  have hf := fun (k : Nat) (hk : k ≤ M) => Bool.and_eq_true_iff.1 (all_range f (k := k) (by omega))
  have hb := fun (k : Nat) (hk : k ≤ M + 1) => Bool.and_eq_true_iff.1 (all_range b (k := k) (by omega))
  exact ⟨fun k x hx => of_decide_eq_true (List.all_eq_true.1 a x (List.mem_of_getElem? hx)), fun k hk => of_decide_eq_true (hb k hk).1, fun k hk => of_decide_eq_true (hb k hk).2, of_decide_eq_true c, of_decide_eq_true d, of_decide_eq_true e, fun k hk => of_decide_eq_true (hf k hk).1, fun k hk => by
    rcases Bool.or_eq_true_iff.1 (hf k (by omega)).2 with h | h
    · exact absurd (Nat.eq_of_beq_eq_true h) (by omega)
    · exact of_decide_eq_true h, by unfold roomStep; rw [Int.toNat_natCast, if_pos ⟨g, i⟩]⟩
theorem pow_cnt : ((List.range 6).all fun m => (List.range 7).all fun k => decide (-5000 ≤ (((m + 1 : Nat) : Int) - 2) ^ k ∧ (((m + 1 : Nat) : Int) - 2) ^ k ≤ 5000)) = true := by kernel_rfl
theorem pow_bound {M k : Nat} (h1 : 1 ≤ M) (h6 : M ≤ 6) (hk : k ≤ 6) : -5000 ≤ ((M : Int) - 2) ^ k ∧ ((M : Int) - 2) ^ k ≤ 5000 := by
  have h := of_decide_eq_true (all_range (all_range pow_cnt (k := M - 1) (by omega)) (k := k) (by omega))
  rwa [show M - 1 + 1 = M by omega] at h
theorem two_cnt : allRoom (fun M F S => Nat.beq S 6 || (List.range (M + 2)).all fun k => (List.range (M + 1)).all fun j => decide (0 ≤ twoAt M F S k j ∧ twoAt M F S k j ≤ 1000000)) = true := by kernel_rfl
theorem two_bound {M F S k j : Nat} (h1 : 1 ≤ M) (h6 : M ≤ 6) (hF : F ≤ M) (hS : S ≤ 5) (hk : k ≤ M + 1) (hj : j ≤ M) : 0 ≤ twoAt M F S k j ∧ twoAt M F S k j ≤ 1000000 := by
  rcases Bool.or_eq_true_iff.1 (allRoom_at two_cnt h1 h6 hF (S := S) (by omega)) with h | h
  · exact absurd (Nat.eq_of_beq_eq_true h) (by omega)
  · exact of_decide_eq_true (all_range (all_range h (k := k) (by omega)) (k := j) (by omega))
theorem two_end {M F S j : Nat} (h1 : 1 ≤ M) (h6 : M ≤ 6) (hF : F ≤ M) (hS : S ≤ 5) (hj : j ≤ M) : twoAt M F S (M + 1) j = atI (roomL M F (S + 1)) j := by
  rcases Bool.or_eq_true_iff.1 (allRoom_at room_two h1 h6 hF (S := S) (by omega)) with h | h
  · exact absurd (Nat.eq_of_beq_eq_true h) (by omega)
  · exact of_decide_eq_true (all_range h (k := j) (by omega))
def twoL (M F S k : Nat) : List Int := (List.range (M + 1)).map (twoAt M F S k)
def mixAt (M F S k j i : Nat) : Int := if i < j then twoAt M F S (k + 1) i else twoAt M F S k i
def mixL (M F S k j : Nat) : List Int := (List.range (M + 1)).map (mixAt M F S k j)
theorem mixL_len (M F S k j : Nat) : (mixL M F S k j).length = M + 1 := by simp [mixL]
theorem mixL_at {M F S k j i : Nat} (h : i < M + 1) : (mixL M F S k j)[i]? = some (mixAt M F S k j i) := by simp [mixL, h]
theorem mixL_zero (M F S k : Nat) : mixL M F S k 0 = twoL M F S k := by
  unfold mixL twoL
  exact List.map_congr_left fun i _ => by unfold mixAt; rw [if_neg (by omega)]
theorem mixL_end (M F S k : Nat) : mixL M F S k (M + 1) = twoL M F S (k + 1) := by
  unfold mixL twoL
  exact List.map_congr_left fun i hi => by unfold mixAt; rw [if_pos (by simpa using hi)]
theorem mixL_step {M F S k j : Nat} (h : j < M + 1) : (mixL M F S k j).set j (twoAt M F S k j + atI (roomL M F 1) k * atI (roomL M k S) j) = mixL M F S k (j + 1) := by
  apply List.ext_getElem?
  intro i
  by_cases hi : i < M + 1
  · rw [List.getElem?_set, mixL_at hi, mixL_at hi, mixL_len]
    by_cases hij : j = i
    · subst hij
      rw [if_pos rfl, if_pos h]
      unfold mixAt
      rw [if_pos (by omega)]
      rfl
    · rw [if_neg hij]
      unfold mixAt
      by_cases hl : i < j
      · rw [if_pos hl, if_pos (by omega)]
      · rw [if_neg hl, if_neg (by omega)]
  · rw [List.getElem?_eq_none (by rw [List.length_set, mixL_len]; omega), List.getElem?_eq_none (by rw [mixL_len]; omega)]
theorem twoL_zero (M F S : Nat) : twoL M F S 0 = List.replicate (M + 1) 0 := by
  apply List.ext_getElem?
  intro j
  by_cases h : j < M + 1
  · simp [twoL, h, twoAt]
  · rw [List.getElem?_eq_none (by simp [twoL]; omega), List.getElem?_eq_none (by simp; omega)]
theorem twoL_end {M F S : Nat} (h1 : 1 ≤ M) (h6 : M ≤ 6) (hF : F ≤ M) (hS : S ≤ 5) : twoL M F S (M + 1) = roomL M F (S + 1) := by
  apply List.ext_getElem?
  intro j
  by_cases h : j < M + 1
  · have hj : (roomL M F (S + 1))[j]? = some (atI (roomL M F (S + 1)) j) := by
      unfold atI
      rw [List.getElem?_eq_getElem (by rw [roomL_len]; exact h)]; rfl
    rw [hj, ← two_end h1 h6 hF hS (by omega)]
    simp [twoL, h]
  · rw [List.getElem?_eq_none (by simp [twoL]; omega), List.getElem?_eq_none (by rw [roomL_len]; omega)]
theorem par_at {M F S k : Nat} (h1 : 1 ≤ M) (h6 : M ≤ 6) (hF : F ≤ M) (hS : S ≤ 6) (hk : k ≤ M) : (k + F + S) % 2 = 0 ∨ atI (roomL M F S) k = 0 := by
  rcases Bool.or_eq_true_iff.1 (all_range (allRoom_at room_par h1 h6 hF hS) (k := k) (by omega)) with h | h
  · exact .inl (Nat.eq_of_beq_eq_true h)
  · exact .inr (of_decide_eq_true h)
theorem bal_at {M F S k : Nat} (h1 : 1 ≤ M) (h6 : M ≤ 6) (hF : F ≤ M) (hS : S ≤ 6) (hk : k ≤ M) : atI (restL M) F * atI (roomL M F S) k = atI (restL M) k * atI (roomL M k S) F :=
  of_decide_eq_true (all_range (allRoom_at room_bal h1 h6 hF hS) (k := k) (by omega))
theorem mul_two {a b M N : Int} (ha : 0 ≤ a) (ha' : a ≤ M) (hb : -N ≤ b) (hb' : b ≤ N) : -(M * N) ≤ a * b ∧ a * b ≤ M * N := by
  rcases Int.le_total 0 b with h | h
  · have := mul_bound ha ha' h hb'
    have h2 : 0 ≤ M * N := Int.mul_nonneg (by omega) (by omega)
    omega
  · have := mul_bound ha ha' (b := -b) (N := N) (by omega) (by omega)
    rw [Int.mul_neg] at this
    have h2 : 0 ≤ M * N := Int.mul_nonneg (by omega) (by omega)
    omega
end Go.Proofs.Ytdejlalodjhlbaa
