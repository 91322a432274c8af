/-
  Contracts of chapter 4, the program's side: ruleRowOk, RuleOk, slices.Max, StartOk, beginsOk, EvenRule.
-/
import Derived.Test.YtbjjlgnelbcmlabZrule
import Derived.Test.YtbjjlgnelbcmlabZimp
namespace Go.Proofs.Ytbjjlgnelbcmlab
open Go.RowKit

def rowOkB (cl : Int) (k : Nat) (l : List Int) : Bool := decide ((l.length : Int) = cl) && rowOkG k 0 l
theorem rowOkB_yes {cl : Int} {k : Nat} {l : List Int} (h : rowOkB cl k l = true) : (l.length : Int) = cl ∧ ∀ (j : Nat) x, l[j]? = some x → entP k j x := by
  unfold rowOkB at h
  simp only [Bool.and_eq_true, decide_eq_true_eq] at h
  exact ⟨h.1, fun j x hx => by have := rowOkG_yes h.2 j x hx; simpa [entP] using this⟩
theorem rowOkB_mk {cl : Int} {k : Nat} {l : List Int} (h1 : (l.length : Int) = cl) (h2 : ∀ (j : Nat) x, l[j]? = some x → entP k j x) : rowOkB cl k l = true := by
  unfold rowOkB
  simp only [Bool.and_eq_true, decide_eq_true_eq]
  exact ⟨h1, rowOkG_mk fun j x hx => by have := h2 j x hx; simpa [entP] using this⟩
theorem rowOkB_no {cl : Int} {k : Nat} {l : List Int} (h : (l.length : Int) ≠ cl ∨ ∃ (j : Nat) (x : Int), l[j]? = some x ∧ ¬ entP k j x) : rowOkB cl k l = false := by
  rw [Bool.eq_false_iff]
  intro hh
  obtain ⟨h1, h2⟩ := rowOkB_yes hh
  rcases h with h | ⟨j, x, hx, h⟩
  · exact h h1
  · exact h (h2 j x hx)

/-- The greatest of the first ones. -/
def mxN (zs : List Int) : Nat → Int
  | 0 => zs[0]?.getD 0
  | k + 1 => max (mxN zs k) (zs[k]?.getD 0)
theorem mxN_le {zs : List Int} {M : Int} (h : ∀ z ∈ zs, z ≤ M) (h0 : 0 < zs.length) {k : Nat} (hk : k ≤ zs.length) : mxN zs k ≤ M := by
  induction k with
  | zero => simp only [mxN]; rw [List.getElem?_eq_getElem h0]; exact h _ (List.getElem_mem h0)
  | succ k ih =>
    have h1 := ih (by omega)
    have h2 := h zs[k] (List.getElem_mem (by omega))
    simp only [mxN]; rw [List.getElem?_eq_getElem (by omega), Option.getD_some]; omega
theorem mxN_ge {zs : List Int} {j : Nat} {x : Int} (hx : zs[j]? = some x) {k : Nat} (hk : j < k) : x ≤ mxN zs k := by
  induction k with
  | zero => omega
  | succ k ih =>
    simp only [mxN]
    rcases Nat.lt_or_ge j k with h | h
    · have := ih h; omega
    · obtain rfl : j = k := by omega
      rw [hx, Option.getD_some]; omega

set_option maxHeartbeats 400000 in
theorem max_c (A : Option Addr) (n c B : Nat) (zs : List Int) (w : World) (h : Ints w B A n c zs) (hn1 : 1 ≤ n) :
    Calls Try.prog 31 #[.slice A n c] w fun e w' => e = .returned (.int .i64 (mxN zs n)) ∧ w = w' := by
  have hn := h.nb
  obtain ⟨b0, off0, x0, rfl, hb0, hx0, hcell0⟩ := h.look (show 0 < n by omega)
  rw [Nat.add_zero] at hcell0
  have h1 := hide (show mxN zs 1 = x0 by simp only [mxN]; rw [hx0.out, Option.getD_some]; omega)
  go_enter Try.func31, Try.ntmps31
  go_wp2
  go_loop [3, 4] (fun t i => ∃ k : Nat, 1 ≤ k ∧ k ≤ n ∧ i = .int .i64 k ∧ t = .int .i64 (mxN zs k)) (fun _ i => n - (intOf i).toNat)
  case atStart => exact ⟨1, Nat.le_refl _, hn1, rfl, by rw [h1.out]⟩
  case round =>
    obtain ⟨k, hk1, hk, rfl, rfl⟩ := hrel
    by_cases hlt : k < n
    · obtain ⟨b, off, x, hA, hb, hx, hcell⟩ := h.look hlt
      injection hA with hA
      injection hA with e1 e2 _
      subst e1; subst e2
      have hst := hide (show mxN zs (k + 1) = max (mxN zs k) x by simp only [mxN]; rw [hx.out, Option.getD_some])
      obtain ⟨S, hS⟩ : ∃ S, Hid (mxN zs k = S) := ⟨_, hide rfl⟩
      rw [hS.out] at hst ⊢
      have hmx := hide (show max S x = if S < x then x else S by split <;> omega)
      go_wp2
      go_round
      case rel => exact ⟨k + 1, by omega, by omega, by go_num, by rw [hst.out, hmx.out]⟩
      case measure => simp [intOf]; omega
    · obtain rfl : k = n := by omega
      go_wp2
      go_ret
      exact ⟨rfl, rfl⟩

theorem startOk_mx {zs : List Int} (h : urnOk zs = true) : startOk zs = decide (mxN zs zs.length ≤ 10) := by
  have h0 : 0 < zs.length := by have := (urnOk_size h).1; omega
  by_cases hm : mxN zs zs.length ≤ 10
  · rw [decide_eq_true hm]
    exact startOk_mk h fun z hz => by
      obtain ⟨j, hj, rfl⟩ := List.getElem_of_mem hz
      have := mxN_ge (List.getElem?_eq_getElem hj) hj
      omega
  · rw [decide_eq_false hm, Bool.eq_false_iff]
    intro hh
    exact hm (mxN_le (fun z hz => ((startOk_yes hh).2 z hz).2) h0 (Nat.le_refl _))
theorem startOk_no {zs : List Int} (h : urnOk zs = false) : startOk zs = false := by unfold startOk; rw [h]; rfl

set_option maxHeartbeats 400000 in
theorem sumOfG_c (A : Option Addr) (n c B : Nat) (zs : List Int) (w : World) (h : Ints w B A n c zs) (hn3 : n ≤ 10) (hz : ∀ x ∈ zs, -100 ≤ x ∧ x ≤ 100) :
    Calls Try.prog 25 #[.slice A n c] w fun e w' => e = .returned (.int .i64 (isum zs)) ∧ w = w' := by
  have hl := hide h.len
  have HT := hide (fun k => show -1000 ≤ isum (zs.take k) ∧ isum (zs.take k) ≤ 1000 by
    have h1 := sum_small (zs := zs.take k) (M := 100) (by decide) (fun x hx => hz x (List.mem_of_mem_take hx))
    have h2 : (zs.take k).length ≤ zs.length := List.length_take_le' _ _
    have h3 := hl.out
    omega)
  have HZ := hide (fun (k : Nat) x (hx : zs[k]? = some x) => hz x (List.mem_of_getElem? hx))
  clear hz
  go_enter Try.func25, Try.ntmps25
  go_wp2
  go_loop [3, 8] (fun t i => ∃ k : Nat, k ≤ n ∧ i = .int .i64 k ∧ t = .int .i64 (isum (zs.take k))) (fun _ i => n - (intOf i).toNat)
  case atStart => exact ⟨0, Nat.zero_le _, rfl, rfl⟩
  case round =>
    obtain ⟨k, hk, rfl, rfl⟩ := hrel
    obtain ⟨hs1, hs2⟩ := HT.out k
    by_cases hlt : k < n
    · obtain ⟨b, off, x, rfl, hb, hx, hcell⟩ := h.look hlt
      obtain ⟨hx1, hx2⟩ := HZ.out k x hx.out
      have hst := hide (isum_take_succ hx.out)
      go_wp2
      go_round
      case rel => exact ⟨k + 1, by omega, by go_num, by rw [hst.out]⟩
      case measure => simp [intOf]; omega
    · go_wp2
      go_ret
      exact ⟨ret_int (by rw [List.take_of_length_le (by have := hl.out; omega)]), rfl⟩

end Go.Proofs.Ytbjjlgnelbcmlab
