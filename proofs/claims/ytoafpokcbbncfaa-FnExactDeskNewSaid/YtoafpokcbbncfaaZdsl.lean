/-
  Words, plain lemmas and contracts that belong together, joined into one file.
-/
import Derived.Test.YtoafpokcbbncfaaZdsk
import Derived.Test.YtoafpokcbbncfaaZdd
import Derived.StillTailTactics
namespace Go.Proofs.Ytoafpokcbbncfaa
open Go.RowKit
set_option linter.unusedVariables false

theorem done_kind {d : Dsk} {q : Ded} (h : doneB d q = true) : kindB q = true := by
  obtain ⟨k, a, b⟩ := q
  unfold doneB at h
  rw [Bool.or_eq_true] at h
  rcases h with h | h
  · unfold backB at h
    simp only [Bool.and_eq_true, decide_eq_true_eq] at h
    obtain ⟨⟨rfl, rfl, rfl⟩, _⟩ := h
    rfl
  · unfold newB at h
    rw [Bool.and_eq_true] at h
    have h := h.1
    unfold madeP at h
    unfold kindB
    simp only at h ⊢
    by_cases h0 : k = 0
    · subst h0; simp
    · by_cases h1 : k = 1
      · subst h1
        by_cases hb : b = 0
        · subst hb; simp
        · simp [hb, noPlc_no] at h
      · by_cases h2 : k = 2
        · subst h2
          by_cases hb : b = 0
          · subst hb; simp
          · simp [hb, noPlc_no] at h
        · by_cases h3 : k = 3
          · subst h3
            by_cases ha : a = 0 ∧ b = 0
            · obtain ⟨rfl, rfl⟩ := ha; simp
            · simp [ha, noPlc_no] at h
          · simp [h0, h1, h2, h3, noPlc_no] at h
theorem kind_no {d : Dsk} {q : Ded} (h : kindB q = false) : deskB d q = false := by
  cases hd : doneB d q with
  | false => unfold deskB; rw [hd, Bool.and_false]
  | true => rw [done_kind hd] at h; cases h
theorem kind_nums {q : Ded} (h : kindB q = true) : (0 ≤ q.k ∧ q.k ≤ 4) ∧ (q.k ≠ 0 → q.b = 0) ∧ (q.k = 3 → q.a = 0) ∧ (q.k = 4 → q.a = 0) := by
  obtain ⟨k, a, b⟩ := q
  unfold kindB at h
  simp only at h ⊢
  simp at h
  omega
theorem back_eq {d : Dsk} (hok : deskOk d = true) : deskB d ⟨4, 0, 0⟩ = (!d.past.isEmpty) ∧ deskX d ⟨4, 0, 0⟩ = (if d.past = [] then d else ⟨d.past.getLast?.getD noPlc, d.past.dropLast⟩) := by
  have hn : newB d ⟨4, 0, 0⟩ = false := by
    unfold newB
    rw [show madeP d.now ⟨4, 0, 0⟩ = noPlc by unfold madeP; simp, noPlc_no]
    rfl
  have hb : backB d ⟨4, 0, 0⟩ = (!d.past.isEmpty) := by unfold backB; simp
  refine ⟨by unfold deskB doneB; rw [hok, hn, hb]; simp, ?_⟩
  unfold deskX deskD
  rw [if_pos hok, hb, hn]
  by_cases hp : d.past = []
  · rw [if_pos hp, hp]; rfl
  · rw [if_neg hp]
    have : d.past.isEmpty = false := by
      cases hc : d.past with
      | nil => exact absurd hc hp
      | cons x r => rfl
    rw [this]; rfl
theorem new_eq {d : Dsk} {q : Ded} (hok : deskOk d = true) (hk : kindB q = true) (h3 : q.k ≤ 3) : deskB d q = afterB d.now q ∧ (afterB d.now q = true → deskX d q = ⟨afterP d.now q, pushP d.past d.now⟩) := by
  obtain ⟨⟨h0, _⟩, hb, ha, _⟩ := kind_nums hk
  obtain ⟨e1, e2⟩ := after_new (deskOk_yes hok).2.1 h0 h3 hb ha
  have hn : newB d q = afterB d.now q := by rw [e2]; rfl
  have hbk : backB d q = false := by unfold backB; rw [decide_eq_false (by omega)]; rfl
  refine ⟨by unfold deskB doneB; rw [hok, hbk, hn]; rfl, fun h => ?_⟩
  unfold deskX deskD
  rw [if_pos hok, hbk, hn, h, e1]
  rfl
theorem pushP_drop {ps : List Plc} {p : Plc} {H : Nat} (h : H = ps.length + 1 - 8) (h8 : ps.length ≤ 8) : pushP ps p = (ps ++ [p]).drop H := by
  unfold pushP
  by_cases hc : 8 < (ps ++ [p]).length
  · rw [if_pos hc]
    rw [List.length_append] at hc
    simp only [List.length_cons, List.length_nil] at hc
    rw [show H = 1 by omega]
  · rw [if_neg hc]
    rw [List.length_append] at hc
    simp only [List.length_cons, List.length_nil] at hc
    rw [show H = 0 by omega, List.drop_zero]
theorem GrP.setNew {lo : Nat} {w w1 : World} {a : Addr} (h : GrP lo w w1) (ha : w.heap.size ≤ a.block) (x : Value) : GrP lo w (w1.setCell a x) :=
  ⟨h.os, h.tape, h.output, by rw [World.size_setCell]; exact h.size, fun k hk ho => (Below.heap_setCell w1 a x k (by omega)).trans (h.block k hk ho)⟩
end Go.Proofs.Ytoafpokcbbncfaa

namespace Go.Proofs.Ytoafpokcbbncfaa
open Go.RowKit
set_option linter.unusedVariables false

theorem small_ok {d : Dsk} (h : deskOk d = true) : smallP d.now ∧ d.past.length ≤ 1000 ∧ ∀ p ∈ d.past, smallP p := by
  have hs : ∀ p : Plc, placeOk p = true → smallP p := fun p hp => by
    obtain ⟨⟨_, h1⟩, _, _, h2, _⟩ := placeOk_yes hp
    exact ⟨by omega, by omega⟩
  obtain ⟨h1, h2, h3⟩ := deskOk_yes h
  exact ⟨hs _ h2, by omega, fun p hp => hs p (h1 p hp)⟩
theorem deskX_none {d : Dsk} {q : Ded} (h : deskOk d = false) : deskX d q = noDsk := by unfold deskX; rw [h]; rfl

end Go.Proofs.Ytoafpokcbbncfaa
