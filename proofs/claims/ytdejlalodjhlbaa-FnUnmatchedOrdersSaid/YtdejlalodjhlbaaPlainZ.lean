/-
  Plain functions and lemmas of chapter 8: balls in boxes. All valid arguments are few: facts are counted out by the kernel. No program is named here.
-/
import Derived.Test.YtdejlalodjhlbaaPlainY
namespace Go.Proofs.Ytdejlalodjhlbaa
open Go.RowKit
set_option linter.unusedVariables false

def fullAt (N B k : Nat) : Int := if k % 2 = 1 then -((chooseN B k * (B - k) ^ N : Nat) : Int) else ((chooseN B k * (B - k) ^ N : Nat) : Int)
def fullTo (N B : Nat) : Nat → Int
  | 0 => 0
  | k + 1 => fullTo N B k + fullAt N B k
def fullN (N B : Nat) : Int := fullTo N B (B + 1)
def groupsN : Nat → Nat → Nat
  | 0, 0 => 1
  | 0, _ + 1 => 0
  | _ + 1, 0 => 0
  | n + 1, k + 1 => (k + 1) * groupsN n (k + 1) + groupsN n k
def fallOk (n b : Int) : Bool := decide (0 ≤ n ∧ n ≤ 7 ∧ 1 ≤ b ∧ b ≤ 6)
def fullW (n b : Int) : Int := if fallOk n b then fullN n.toNat b.toNat else -1
def emptyOk (n b e : Int) : Bool := fallOk n b && decide (0 ≤ e ∧ e ≤ b)
def emptyN (N B E : Nat) : Int := (chooseN B E : Int) * fullN N (B - E)
def emptyW (n b e : Int) : Int := if emptyOk n b e then emptyN n.toNat b.toNat e.toNat else -1
def apartW (n b : Int) : Int := if fallOk n b then (fallN b.toNat n.toNat : Int) else -1
def groupsOk (n g : Int) : Bool := decide (0 ≤ n ∧ n ≤ 7 ∧ 0 ≤ g ∧ g ≤ 6)
def groupsW (n g : Int) : Int := if groupsOk n g then (groupsN n.toNat g.toNat : Int) else -1
def waitN (N B : Nat) : Int := if N = 0 then 0 else fullN N B - (B : Int) * fullN (N - 1) B
def waitW (n b : Int) : Int := if fallOk n b then waitN n.toNat b.toNat else -1
def pairN (N B : Nat) : Int := ((B ^ N : Nat) : Int) - (fallN B N : Int)
def pairW (n b : Int) : Int := if fallOk n b then pairN n.toNat b.toNat else -1

theorem fallOk_yes {n b : Int} (h : fallOk n b = true) : ∃ N B : Nat, n = (N : Int) ∧ b = (B : Int) ∧ N ≤ 7 ∧ 1 ≤ B ∧ B ≤ 6 := by
  have := of_decide_eq_true h
  exact ⟨n.toNat, b.toNat, by omega, by omega, by omega, by omega, by omega⟩
theorem fallOk_mk {N B : Nat} (hN : N ≤ 7) (h1 : 1 ≤ B) (h6 : B ≤ 6) : fallOk (N : Int) (B : Int) = true := decide_eq_true (by omega)
theorem groupsOk_yes {n g : Int} (h : groupsOk n g = true) : ∃ N K : Nat, n = (N : Int) ∧ g = (K : Int) ∧ N ≤ 7 ∧ K ≤ 6 := by
  have := of_decide_eq_true h
  exact ⟨n.toNat, g.toNat, by omega, by omega, by omega, by omega⟩
theorem fullW_in {N B : Nat} (hN : N ≤ 7) (h1 : 1 ≤ B) (h6 : B ≤ 6) : fullW (N : Int) (B : Int) = fullN N B := by unfold fullW; rw [if_pos (fallOk_mk hN h1 h6), Int.toNat_natCast, Int.toNat_natCast]
theorem apartW_in {N B : Nat} (hN : N ≤ 7) (h1 : 1 ≤ B) (h6 : B ≤ 6) : apartW (N : Int) (B : Int) = (fallN B N : Int) := by unfold apartW; rw [if_pos (fallOk_mk hN h1 h6), Int.toNat_natCast, Int.toNat_natCast]
theorem waitW_in {N B : Nat} (hN : N ≤ 7) (h1 : 1 ≤ B) (h6 : B ≤ 6) : waitW (N : Int) (B : Int) = waitN N B := by unfold waitW; rw [if_pos (fallOk_mk hN h1 h6), Int.toNat_natCast, Int.toNat_natCast]
theorem pairW_in {N B : Nat} (hN : N ≤ 7) (h1 : 1 ≤ B) (h6 : B ≤ 6) : pairW (N : Int) (B : Int) = pairN N B := by unfold pairW; rw [if_pos (fallOk_mk hN h1 h6), Int.toNat_natCast, Int.toNat_natCast]
theorem groupsW_in {N K : Nat} (hN : N ≤ 7) (hK : K ≤ 6) : groupsW (N : Int) (K : Int) = (groupsN N K : Int) := by unfold groupsW; rw [if_pos (show groupsOk _ _ = true from decide_eq_true (by omega)), Int.toNat_natCast, Int.toNat_natCast]
theorem emptyW_in {N B E : Nat} (hN : N ≤ 7) (h1 : 1 ≤ B) (h6 : B ≤ 6) (hE : E ≤ B) : emptyW (N : Int) (B : Int) (E : Int) = emptyN N B E := by
  unfold emptyW emptyOk
  rw [fallOk_mk hN h1 h6, decide_eq_true (by omega), Int.toNat_natCast, Int.toNat_natCast, Int.toNat_natCast]; rfl
theorem fullW_out {n b : Int} (h : fallOk n b = false) : fullW n b = -1 := by unfold fullW; rw [h]; rfl
theorem apartW_out {n b : Int} (h : fallOk n b = false) : apartW n b = -1 := by unfold apartW; rw [h]; rfl
theorem waitW_out {n b : Int} (h : fallOk n b = false) : waitW n b = -1 := by unfold waitW; rw [h]; rfl
theorem pairW_out {n b : Int} (h : fallOk n b = false) : pairW n b = -1 := by unfold pairW; rw [h]; rfl
theorem groupsW_out {n g : Int} (h : groupsOk n g = false) : groupsW n g = -1 := by unfold groupsW; rw [h]; rfl
theorem emptyW_out {n b e : Int} (h : emptyOk n b e = false) : emptyW n b e = -1 := by unfold emptyW; rw [h]; rfl

/-! All valid arguments: balls 0 to 7, boxes 0 to 6. -/
def allFall (p : Nat → Nat → Bool) : Bool := (List.range 8).all fun n => (List.range 7).all fun b => p n b
theorem allFall_at {p : Nat → Nat → Bool} (h : allFall p = true) {N B : Nat} (hN : N ≤ 7) (hB : B ≤ 6) : p N B = true := all_range (all_range h (k := N) (by omega)) (k := B) (by omega)
def inZ (x : Int) (m : Int) : Bool := decide (0 ≤ x) && decide (x ≤ m)
theorem inZ_yes {x m : Int} (h : inZ x m = true) : 0 ≤ x ∧ x ≤ m := by
  obtain ⟨a, b⟩ := Bool.and_eq_true_iff.1 h
  exact ⟨of_decide_eq_true a, of_decide_eq_true b⟩
theorem full_cnt : allFall (fun N B => (List.range (B + 2)).all (fun k => decide (-2000000 ≤ fullTo N B k) && decide (fullTo N B k ≤ 2000000) && Nat.ble (chooseN B k) 20 && Nat.ble ((B - k) ^ N) 279936 && Nat.ble (chooseN B k * (B - k) ^ N) 2000000) && inZ (fullN N B) 2000000 && inZ (fallN B N) 300000 && inZ (groupsN N B) 2000 && Nat.ble (B ^ N) 279936) = true := by kernel_rfl
theorem full_part {N B k : Nat} (hN : N ≤ 7) (hB : B ≤ 6) (hk : k ≤ B + 1) : -2000000 ≤ fullTo N B k ∧ fullTo N B k ≤ 2000000 ∧ chooseN B k ≤ 20 ∧ (B - k) ^ N ≤ 279936 ∧ chooseN B k * (B - k) ^ N ≤ 2000000 := by
  have h := allFall_at full_cnt hN hB
  simp only [Bool.and_eq_true] at h
  have h := all_range h.1.1.1.1 (k := k) (by omega)
  simp only [Bool.and_eq_true] at h
  exact ⟨of_decide_eq_true h.1.1.1.1, of_decide_eq_true h.1.1.1.2, Nat.le_of_ble_eq_true h.1.1.2, Nat.le_of_ble_eq_true h.1.2, Nat.le_of_ble_eq_true h.2⟩
theorem full_bound {N B : Nat} (hN : N ≤ 7) (hB : B ≤ 6) : 0 ≤ fullN N B ∧ fullN N B ≤ 2000000 ∧ fallN B N ≤ 300000 ∧ groupsN N B ≤ 2000 ∧ B ^ N ≤ 279936 := by
  have h := allFall_at full_cnt hN hB
  simp only [Bool.and_eq_true] at h
  have a := inZ_yes h.1.1.1.2
  have b := inZ_yes h.1.1.2
  have c := inZ_yes h.1.2
  exact ⟨a.1, a.2, by omega, by omega, Nat.le_of_ble_eq_true h.2⟩
/-- What the promises 49 to 56 say, counted out. -/
def emptySum (N B : Nat) : Nat → Int
  | 0 => 0
  | k + 1 => emptySum N B k + emptyN N B k
def emptyMean (N B : Nat) : Nat → Int
  | 0 => 0
  | k + 1 => emptyMean N B k + (k : Int) * emptyN N B k
def waitSum (N B : Nat) : Nat → Int
  | 0 => 0
  | k + 1 => waitSum N B k + waitN k B * ((B ^ (N - k) : Nat) : Int)
def groupSum (N B : Nat) : Nat → Int
  | 0 => 0
  | k + 1 => groupSum N B k + (groupsN N k : Int) * (fallN B k : Int)
theorem law_cnt : allFall (fun N B => Nat.beq B 0 || (
    decide ((groupsN N B : Int) * (factN B : Int) = fullN N B) && (decide (fullN N B = 0) == Nat.blt N B) && Nat.ble (factN B) 720
    && (List.range (B + 2)).all (fun k => inZ (emptyN N B k) 2000000 && inZ (emptySum N B k) 2000000 && inZ (emptyMean N B k) 2000000)
    && decide (emptySum N B (B + 1) = ((B ^ N : Nat) : Int)) && decide (emptyMean N B (B + 1) = (B : Int) * (((B - 1) ^ N : Nat) : Int))
    && (Nat.blt B N || (decide (emptyN N B (B - N) = (fallN B N : Int)) && Nat.blt 0 (fallN B N))) && (Nat.ble N B || Nat.beq (fallN B N) 0)
    && (Nat.beq N 7 || Nat.beq (groupsN (N + 1) B) (B * groupsN N B + groupsN N (B - 1)))
    && inZ (waitN N B) 2000000 && (Nat.beq N 0 || (decide (fullN N B = (B : Int) * fullN (N - 1) B + waitN N B) && (Nat.beq B 1 || decide (waitN N B = (B : Int) * fullN (N - 1) (B - 1)))))
    && (List.range (N + 2)).all (fun k => inZ (waitSum N B k) 2000000 && (Nat.blt 6 N || inZ (groupSum N B k) 2000000) && Nat.ble (B ^ (N - k)) 279936)
    && decide (waitSum N B (N + 1) = fullN N B) && (Nat.blt 6 N || decide (groupSum N B (N + 1) = ((B ^ N : Nat) : Int)))
    && inZ (pairN N B) 300000 && (decide (pairN N B = ((B ^ N : Nat) : Int)) == Nat.blt B N) && (decide (pairN N B = 0) == Nat.blt N 2) && (Nat.beq N 7 || decide (pairN N B * (B : Int) ≤ pairN (N + 1) B)))) = true := by kernel_rfl
structure FallFacts (N B : Nat) : Prop where
  full : (groupsN N B : Int) * (factN B : Int) = fullN N B
  zero : fullN N B = 0 ↔ N < B
  fac : factN B ≤ 720
  eB : ∀ k, k ≤ B + 1 → 0 ≤ emptyN N B k ∧ emptyN N B k ≤ 2000000 ∧ 0 ≤ emptySum N B k ∧ emptySum N B k ≤ 2000000 ∧ 0 ≤ emptyMean N B k ∧ emptyMean N B k ≤ 2000000
  eSum : emptySum N B (B + 1) = ((B ^ N : Nat) : Int)
  eMean : emptyMean N B (B + 1) = (B : Int) * (((B - 1) ^ N : Nat) : Int)
  apart1 : N ≤ B → emptyN N B (B - N) = (fallN B N : Int) ∧ 0 < fallN B N
  apart0 : B < N → fallN B N = 0
  grow : N < 7 → groupsN (N + 1) B = B * groupsN N B + groupsN N (B - 1)
  wB : 0 ≤ waitN N B ∧ waitN N B ≤ 2000000
  wEq : 1 ≤ N → fullN N B = (B : Int) * fullN (N - 1) B + waitN N B
  wLess : 1 ≤ N → 2 ≤ B → waitN N B = (B : Int) * fullN (N - 1) (B - 1)
  wsB : ∀ k, k ≤ N + 1 → 0 ≤ waitSum N B k ∧ waitSum N B k ≤ 2000000
  gsB : N ≤ 6 → ∀ k, k ≤ N + 1 → 0 ≤ groupSum N B k ∧ groupSum N B k ≤ 2000000
  pwB : ∀ k, k ≤ N + 1 → B ^ (N - k) ≤ 279936
  wSum : waitSum N B (N + 1) = fullN N B
  gSum : N ≤ 6 → groupSum N B (N + 1) = ((B ^ N : Nat) : Int)
  pB : 0 ≤ pairN N B ∧ pairN N B ≤ 300000
  pAll : pairN N B = ((B ^ N : Nat) : Int) ↔ B < N
  pZero : pairN N B = 0 ↔ N < 2
  pMore : N < 7 → pairN N B * (B : Int) ≤ pairN (N + 1) B
theorem dec_iff {p q : Prop} [Decidable p] [Decidable q] (h : (decide p == decide q) = true) : p ↔ q := by
  have := eq_of_beq h
  constructor
  · intro hp; exact of_decide_eq_true (this ▸ decide_eq_true hp)
  · intro hq; exact of_decide_eq_true (this ▸ decide_eq_true hq)
theorem dec_blt {p : Prop} [Decidable p] {a b : Nat} (h : (decide p == Nat.blt a b) = true) : p ↔ a < b := by
  have := eq_of_beq h
  constructor
  · intro hp; exact blt_iff.1 (this ▸ decide_eq_true hp)
  · intro hq; exact of_decide_eq_true (this ▸ blt_iff.2 hq)
theorem or_blt {a b : Nat} {c : Bool} (h : (Nat.blt a b || c) = true) (hn : ¬ a < b) : c = true := by
  rcases Bool.or_eq_true_iff.1 h with h | h
  · exact absurd (blt_iff.1 h) hn
  · exact h
theorem or_beq {a b : Nat} {c : Bool} (h : (Nat.beq a b || c) = true) (hn : a ≠ b) : c = true := by
  rcases Bool.or_eq_true_iff.1 h with h | h
  · exact absurd (Nat.eq_of_beq_eq_true h) hn
  · exact h
theorem or_ble {a b : Nat} {c : Bool} (h : (Nat.ble a b || c) = true) (hn : ¬ a ≤ b) : c = true := by
  rcases Bool.or_eq_true_iff.1 h with h | h
  · exact absurd (Nat.le_of_ble_eq_true h) hn
  · exact h
theorem fall_facts {N B : Nat} (hN : N ≤ 7) (h1 : 1 ≤ B) (h6 : B ≤ 6) : FallFacts N B := by
  have h := or_beq (allFall_at law_cnt hN h6) (by omega)
  simp only [Bool.and_eq_true] at h
  obtain ⟨⟨⟨⟨⟨⟨⟨⟨⟨⟨⟨⟨⟨⟨⟨⟨⟨a1, a2⟩, a3⟩, a4⟩, a5⟩, a6⟩, a7⟩, a8⟩, a9⟩, b1⟩, b2⟩, b3⟩, b4⟩, b5⟩, b6⟩, b7⟩, b8⟩, b9⟩ := h
  have e4 := fun (k : Nat) (hk : k ≤ B + 1) => all_range a4 (k := k) (by omega)
  have e3 := fun (k : Nat) (hk : k ≤ N + 1) => all_range b3 (k := k) (by omega)
  simp only [Bool.and_eq_true] at e4 e3
  refine ⟨of_decide_eq_true a1, dec_blt a2, Nat.le_of_ble_eq_true a3, fun k hk => ?_, of_decide_eq_true a5, of_decide_eq_true a6, fun hh => ?_, fun hh => Nat.eq_of_beq_eq_true (or_ble a8 (by omega)), fun hh => Nat.eq_of_beq_eq_true (or_beq a9 (by omega)), inZ_yes b1, fun hh => ?_, fun hh h2 => ?_, fun k hk => inZ_yes (e3 k hk).1.1, fun hh k hk => inZ_yes (or_blt (e3 k hk).1.2 (by omega)), fun k hk => Nat.le_of_ble_eq_true (e3 k hk).2, of_decide_eq_true b4, fun hh => of_decide_eq_true (or_blt b5 (by omega)), inZ_yes b6, dec_blt b7, dec_blt b8, fun hh => of_decide_eq_true (or_beq b9 (by omega))⟩
  · obtain ⟨⟨x, y⟩, z⟩ := e4 k hk
    have := inZ_yes x; have := inZ_yes y; have := inZ_yes z
    omega
  · have := or_blt a7 (by omega)
    simp only [Bool.and_eq_true] at this
    exact ⟨of_decide_eq_true this.1, blt_iff.1 this.2⟩
  · have := or_beq b2 (by omega)
    simp only [Bool.and_eq_true] at this
    exact of_decide_eq_true this.1
  · have := or_beq b2 (by omega)
    simp only [Bool.and_eq_true] at this
    exact of_decide_eq_true (or_beq this.2 (by omega))
theorem groups_same : ((List.range 7).all fun k => Nat.beq (groupsN k k) 1) = true := by kernel_rfl
end Go.Proofs.Ytdejlalodjhlbaa
