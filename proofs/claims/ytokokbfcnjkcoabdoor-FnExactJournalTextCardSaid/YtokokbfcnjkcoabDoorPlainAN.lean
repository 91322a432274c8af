/-
  Plain lemmas of chapter 14: what is read of a journal, of its beginnings, and of one more line. No program is named here.
-/
import Derived.Test.YtokokbfcnjkcoabDoorPlainAM
namespace Go.Proofs.YtokokbfcnjkcoabDoor
open Go.RowKit
set_option linter.unusedVariables false

theorem dropLast_ne {α : Type} (x : α) {l : List α} (h : l ≠ []) : (x :: l).dropLast = x :: l.dropLast := by
  cases l with
  | nil => exact absurd rfl h
  | cons y r => rfl
theorem readJ_free {s : Bs} (h : (10 : UInt8) ∉ s) : readJ s = ([], 0) := by
  unfold readJ
  rw [cutT_none h]; rfl
theorem readJ_line {l r : Bs} (h : (10 : UInt8) ∉ l) : readJ (l ++ 10 :: r) = (match readD l with
    | none => ([], 0)
    | some d => (d :: (readJ r).1, l.length + 1 + (readJ r).2)) := by
  unfold readJ
  rw [cutT_sep h, dropLast_ne _ (cutT_ne _ _)]
  simp only [jrnL]
  cases readD l <;> rfl
/-- A text has no newline, or a first one. -/
theorem line_split (s : Bs) : (10 : UInt8) ∉ s ∨ ∃ l r, s = l ++ 10 :: r ∧ (10 : UInt8) ∉ l := by
  induction s with
  | nil => left; simp
  | cons c r ih =>
    by_cases hc : c = 10
    · exact .inr ⟨[], r, by rw [hc]; rfl, by simp⟩
    · rcases ih with h | ⟨l, q, e, h⟩
      · exact .inl (by simp [h, Ne.symm hc])
      · exact .inr ⟨c :: l, q, by rw [e]; rfl, by simp [h, Ne.symm hc]⟩
theorem readJ_linesA (ds : List Ded) (t : Bs) (h : ∀ d ∈ ds, deedB d = true) : readJ (linesT ds ++ t) = (ds ++ (readJ t).1, (linesT ds).length + (readJ t).2) := by
  induction ds with
  | nil => simp [linesT]
  | cons d r ih =>
    have hr := ih (fun x hx => h x (List.mem_cons_of_mem _ hx))
    rw [show linesT (d :: r) ++ t = deedT d ++ 10 :: (linesT r ++ t) by simp [linesT], readJ_line deedT_line, deedT_back (h d List.mem_cons_self)]
    simp only [hr, linesT, List.cons_append, List.length_append, List.length_cons, Prod.mk.injEq, true_and]
    omega
theorem readJ_all {ds : List Ded} (h : ∀ d ∈ ds, deedB d = true) : readJ (linesT ds) = (ds, (linesT ds).length) := by
  have := readJ_linesA ds [] h
  rw [List.append_nil, readJ_free (s := []) (by simp)] at this
  simpa using this
theorem readD_deed {l : Bs} {d : Ded} (h : readD l = some d) : deedT d = l ∧ deedB d = true := by
  obtain ⟨h1, h2⟩ := readD_iff.1 h
  exact ⟨h1, deedT_ne.1 (by rw [h1]; exact h2)⟩
/-- What is read of a text are the lines with which it begins. -/
theorem readJ_spec : ∀ (n : Nat) (s : Bs), s.length ≤ n → (∀ d ∈ (readJ s).1, deedB d = true) ∧ (readJ s).2 ≤ s.length ∧ s.take (readJ s).2 = linesT (readJ s).1 ∧ (readJ s).2 = (linesT (readJ s).1).length
  | n, s, hn => by
    rcases line_split s with h | ⟨l, r, e, h⟩
    · rw [readJ_free h]
      exact ⟨(fun d hd => by cases hd), Nat.zero_le _, rfl, rfl⟩
    · subst e
      rw [readJ_line h]
      cases hd : readD l with
      | none => exact ⟨(fun d hd => by cases hd), Nat.zero_le _, rfl, rfl⟩
      | some d =>
        obtain ⟨m, rfl⟩ : ∃ m, n = m + 1 := ⟨n - 1, by simp at hn; omega⟩
        have hl : r.length ≤ m := by simp at hn; omega
        obtain ⟨h1, h2, h3, h4⟩ := readJ_spec m r hl
        obtain ⟨e1, e2⟩ := readD_deed hd
        refine ⟨fun x hx => ?_, ?_, ?_, ?_⟩
        · rcases List.mem_cons.1 hx with rfl | hx
          · exact e2
          · exact h1 x hx
        · simp only [List.length_append, List.length_cons]; omega
        · show (l ++ 10 :: r).take (l.length + 1 + (readJ r).2) = deedT d ++ 10 :: linesT (readJ r).1
          rw [e1, ← h3, show l ++ 10 :: r = (l ++ [10]) ++ r by simp, show l.length + 1 + (readJ r).2 = (l ++ [10]).length + (readJ r).2 by simp, List.take_length_add_append]
          simp
        · show l.length + 1 + (readJ r).2 = (deedT d ++ 10 :: linesT (readJ r).1).length
          rw [e1, h4]
          simp; omega
theorem readJ_ok (s : Bs) : ∀ d ∈ (readJ s).1, deedB d = true := (readJ_spec s.length s (Nat.le_refl _)).1
theorem readJ_len (s : Bs) : (readJ s).2 ≤ s.length := (readJ_spec s.length s (Nat.le_refl _)).2.1
theorem readJ_take (s : Bs) : s.take (readJ s).2 = linesT (readJ s).1 := (readJ_spec s.length s (Nat.le_refl _)).2.2.1
theorem readJ_num (s : Bs) : (readJ s).2 = (linesT (readJ s).1).length := (readJ_spec s.length s (Nat.le_refl _)).2.2.2
/-- The text of the deeds that are read is what was read. -/
theorem readJ_text (s : Bs) : journT (readJ s).1 = s.take (readJ s).2 := by
  rw [readJ_take]
  unfold journT
  rw [if_pos (List.all_eq_true.2 (readJ_ok s))]
/-- What is mended is read whole, and reads the same. -/
theorem readJ_mend (s : Bs) : readJ (s.take (readJ s).2) = readJ s := by
  rw [readJ_take, readJ_all (readJ_ok s)]
  exact Prod.ext rfl (readJ_num s).symm
theorem journT_read {ds : List Ded} (h : journT ds ≠ []) : readJ (journT ds) = (ds, (journT ds).length) := by
  unfold journT at h ⊢
  by_cases hh : ds.all deedB = true
  · rw [if_pos hh]
    exact readJ_all (List.all_eq_true.1 hh)
  · rw [if_neg hh] at h
    exact absurd rfl h
/-- One line more behind a text that is read whole. -/
theorem readJ_more {s : Bs} {a : Ded} (h : (readJ s).2 = s.length) (ha : deedB a = true) : readJ (s ++ (deedT a ++ [10])) = ((readJ s).1 ++ [a], s.length + (deedT a).length + 1) := by
  have e : s = linesT (readJ s).1 := by
    have := readJ_take s
    rwa [h, List.take_length] at this
  have e2 : s ++ (deedT a ++ [10]) = linesT ((readJ s).1 ++ [a]) := by
    rw [linesT_append, ← e]; rfl
  rw [e2, readJ_all (fun d hd => by
    rcases List.mem_append.1 hd with hd | hd
    · exact readJ_ok s d hd
    · rw [List.mem_singleton.1 hd]; exact ha)]
  rw [← e2]
  simp; omega
/-- Of a beginning of a text the first deeds are read. -/
theorem readJ_cut : ∀ (n : Nat) (s : Bs), s.length ≤ n → ∀ k, ∃ j, (readJ (s.take k)).1 = (readJ s).1.take j
  | n, s, hn, k => by
    rcases line_split s with h | ⟨l, r, e, h⟩
    · rw [readJ_free (fun hh => h (List.mem_of_mem_take hh))]
      exact ⟨0, rfl⟩
    · subst e
      by_cases hk : k ≤ l.length
      · rw [readJ_free (fun hh => h (by
          rw [List.take_append_of_le_length hk] at hh
          exact List.mem_of_mem_take hh))]
        exact ⟨0, rfl⟩
      · obtain ⟨q, rfl⟩ : ∃ q, k = l.length + 1 + q := ⟨k - l.length - 1, by omega⟩
        have e : (l ++ 10 :: r).take (l.length + 1 + q) = l ++ 10 :: r.take q := by
          rw [show l ++ 10 :: r = (l ++ [10]) ++ r by simp, show l.length + 1 + q = (l ++ [10]).length + q by simp, List.take_length_add_append]
          simp
        rw [e, readJ_line h, readJ_line h]
        cases hd : readD l with
        | none => exact ⟨0, rfl⟩
        | some d =>
          obtain ⟨m, rfl⟩ : ∃ m, n = m + 1 := ⟨n - 1, by simp at hn; omega⟩
          obtain ⟨j, hj⟩ := readJ_cut m r (by simp at hn; omega) q
          exact ⟨j + 1, by simp [hj]⟩
theorem take_self_len {α : Type} {l m : List α} (h : ∃ j, l = m.take j) : l.length ≤ m.length ∧ l = m.take l.length := by
  obtain ⟨j, rfl⟩ := h
  refine ⟨by rw [List.length_take]; omega, ?_⟩
  rw [List.length_take]
  rcases Nat.le_total j m.length with h | h
  · rw [Nat.min_eq_left h]
  · rw [Nat.min_eq_right h, List.take_length, List.take_of_length_le h]
theorem readJ_pre (s : Bs) (k : Nat) : (readJ (s.take k)).1.length ≤ (readJ s).1.length ∧ (readJ (s.take k)).1 = (readJ s).1.take (readJ (s.take k)).1.length := take_self_len (readJ_cut s.length s (Nat.le_refl _) k)
theorem readJ_mono (s : Bs) {k m : Nat} (h : k ≤ m) : (readJ (s.take k)).1.length ≤ (readJ (s.take m)).1.length := by
  have := (readJ_pre (s.take m) k).1
  rwa [List.take_take, Nat.min_eq_left h] at this
end Go.Proofs.YtokokbfcnjkcoabDoor
