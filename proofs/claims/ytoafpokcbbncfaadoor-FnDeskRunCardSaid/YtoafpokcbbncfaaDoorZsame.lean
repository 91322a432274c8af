/-
  Words, plain lemmas and contracts that belong together, joined into one file.
-/
import Derived.Test.YtoafpokcbbncfaaDoorZrule
import Derived.Test.YtoafpokcbbncfaaDoorZpl
import Derived.Test.YtoafpokcbbncfaaDoorZword
import Derived.Test.YtoafpokcbbncfaaDoorZrows
namespace Go.Proofs.YtoafpokcbbncfaaDoor
open Go.RowKit

theorem sameRule_no {c s : Int} (h : ¬(1 ≤ c ∧ c ≤ 3) ∨ ¬(-1 ≤ s ∧ s ≤ 3)) : sameRule c s = [] := by
  unfold sameRule
  rcases h with h | h
  · rw [decide_eq_false h]; rfl
  · rw [stepB_no h, Bool.and_false]; rfl
theorem sameRule_yes {C : Nat} {s : Int} (h : 1 ≤ C ∧ C ≤ 3) (hs : -1 ≤ s ∧ s ≤ 3) : sameRule (C : Int) s = sameR C s := by
  unfold sameRule
  rw [stepB_mk hs, decide_eq_true (show 1 ≤ (C : Int) ∧ (C : Int) ≤ 3 by omega)]; rfl

set_option maxRecDepth 100000 in
set_option maxHeartbeats 1600000 in
theorem sameRule_spec (cl s : Int) (w : World) (hw : (Lit.int .i64 s).wf = true) :
    Calls Tryd.prog 82 #[.int .i64 cl, .int .i64 s] w fun e w' => ∃ A n c, e = .returned (.slice A n c) ∧ OwnM w' w.heap.size w'.heap.size (.slice A n c) (sameRule cl s) ∧ Below w.heap.size w w' := by
  obtain ⟨i0, hi, hz0, hz1, hz2⟩ := info_parts infoInt
  obtain ⟨i1, hi1, hy0, hy1, hy2⟩ := info_parts infoRow
  by_cases hc : 1 ≤ cl ∧ cl ≤ 3
  · obtain ⟨C, rfl⟩ : ∃ C : Nat, cl = (C : Int) := ⟨cl.toNat, by omega⟩
    have hd := decide_eq_true hc
    by_cases hs : -1 ≤ s ∧ s ≤ 3
    · have hds := decide_eq_true hs
      have he := hide (sameRule_yes (C := C) (by omega) hs)
      have hat := hide (fun (k : Nat) (hk : k < C) => sameR_at (s := s) hk)
      have hln := hide (sameR_len C s)
      have hw := hide hw
      obtain ⟨s0, s1⟩ := hs
      have hC3 : C ≤ 3 := by omega
      have hC1 : 1 ≤ C := by omega
      rw [he.out]
      clear hc he
      go_enter Tryd.func82, Tryd.ntmps82
      go_wp2_with fail
      go_loopw [5, 6] (fun v i wr => ∃ k : Nat, ∃ A c, k ≤ C ∧ i = .int .i64 k ∧ v = .slice A k c ∧ Hid (OwnM wr w.heap.size wr.heap.size (.slice A k c) ((sameR C s).take k)) ∧ Hid (Below w.heap.size w wr)) (fun _ i _ => C - (intOf i).toNat)
      case atStart => exact ⟨0, _, _, Nat.zero_le _, rfl, rfl, ownM_empty (Nat.le_refl _), al w _⟩
      case round =>
        obtain ⟨k, A, c, hk, rfl, rfl, ho, hb⟩ := hrel
        have hst := hb.out.size
        by_cases hlt : k < C
        · have hrep := hide (show (List.replicate C (0 : Int))[k]? = some 0 by rw [List.getElem?_replicate, if_pos hlt])
          have htk := hide (take_succM (hat.out k hlt))
          have hol := hide ho.out.len
          go_wp2_with (first | (go_at_call 80; refine (l1In_c _ _ _ _).mono ?_; rintro e w' ⟨rfl, rfl⟩) | (at_make; refine wpList_make_full _ rfl _ _ 22 rfl wr.heap.size 3 i0 (.int .i64 0) 1 Tryd.underlying22 hi hz0 hz1 .i64 .i64 _ _ C rfl rfl rfl rfl (by rw [hz2]; omega) (by unfold maxLen; omega) (Nat.le_refl _) ?_; intro w4 hown4 hgrow4; have hom := own_made hown4; obtain ⟨g5, hA5, _, hgl5, hcy5, hfy5⟩ := hom.at2 hrep.out; injection hA5 with hA5; injection hA5 with hA5 _ _; subst hA5; have hrow7 := hide (hom.set_ (k := k) s hw.out); have ho7 := hide ((ho.out.kept hgrow4 (fun _ e => by cases e)).beside hom (grown_set w4 wr.heap.size k (.int .i64 s))); have hb7 := hide ((hb.out.grown hgrow4 hst (fun _ e => by cases e)).setCell (p := ⟨wr.heap.size, k, none⟩) hst (.int .i64 s)); have hst7 := hide (show w.heap.size ≤ (w4.setCell ⟨wr.heap.size, k, none⟩ (.int .i64 s)).heap.size by have := hgrow4.size; simp; omega); clear hown4 hgrow4 hom) | (at_builtin; refine wpList_appM _ rfl _ _ 57 rfl i1 Tryd.underlying57 hi1 hy0 hy1 hy2 _ ((sameR C s).take k) rfl (ho7.out.alloc _) _ ((List.replicate C 0).set k s) (hrow7.out.alloc _) hst (by have := hst7.out; simp; omega) ⟨_, 0, none⟩ 1 rfl (cell_new (by simp)) (by have := hol.out; omega) ?_; intro A₆ n₆ c₆ w6 ho6 hg6))
          have hn6 : n₆ = k + 1 := by have h1 := ho6.len; rw [List.length_append, ← hol.out] at h1; simpa using h1
          subst hn6
          rw [← htk.out] at ho6
          have hb6 := hide ((hb7.out.alloc hst7.out (.cells #[_] _)).grown hg6 (by have := hst7.out; simp; omega) (fun j hj => (ho7.out.lt j hj).1))
          have ho6 := hide ho6
          clear hg6 ho7 hb7 hrow7
          go_wp2_with fail
          go_roundw
          case rel => exact ⟨k + 1, _, _, by omega, by go_num, rfl, ho6, hb6⟩
          case measure => simp [intOf]; omega
        · obtain rfl : k = C := by omega
          have ho2 := hide (show OwnM wr w.heap.size wr.heap.size (.slice A k c) (sameR k s) by
            have := ho.out
            rwa [List.take_of_length_le (by rw [hln.out]; exact Nat.le_refl _)] at this)
          go_wp2_with fail
          go_ret
          exact ⟨_, _, _, rfl, ho2.out, hb.out⟩
    · have hds := decide_eq_false hs
      have he := hide (sameRule_no (c := (C : Int)) (.inr hs))
      rw [he.out]
      clear hs he
      go_enter Tryd.func82, Tryd.ntmps82
      go_wp2_with fail
      go_loop [5, 6] (fun v i => v = .slice (some ⟨w.heap.size, 0, none⟩) 0 0 ∧ i = .int .i64 0) (fun _ _ => 0)
      case atStart => exact ⟨rfl, rfl⟩
      case round =>
        obtain ⟨rfl, rfl⟩ := hrel
        go_wp2_with (go_at_call 80; refine (l1In_c _ _ _ _).mono ?_; rintro e w' ⟨rfl, rfl⟩)
        go_ret
        exact ⟨_, _, _, rfl, ownM_empty (Nat.le_refl _), al w _⟩
  · have hd := decide_eq_false hc
    have he := hide (sameRule_no (s := s) (.inl hc))
    rw [he.out]
    by_cases h0 : 0 < cl
    · clear hc he
      go_enter Tryd.func82, Tryd.ntmps82
      go_wp2_with fail
      go_loop [5, 6] (fun v i => v = .slice (some ⟨w.heap.size, 0, none⟩) 0 0 ∧ i = .int .i64 0) (fun _ _ => 0)
      case atStart => exact ⟨rfl, rfl⟩
      case round =>
        obtain ⟨rfl, rfl⟩ := hrel
        go_wp2_with (go_at_call 80; refine (l1In_c _ _ _ _).mono ?_; rintro e w' ⟨rfl, rfl⟩)
        go_ret
        exact ⟨_, _, _, rfl, ownM_empty (Nat.le_refl _), al w _⟩
    · clear hc he hd
      go_enter Tryd.func82, Tryd.ntmps82
      go_wp2_with fail
      go_loop [5, 6] (fun v i => v = .slice (some ⟨w.heap.size, 0, none⟩) 0 0 ∧ i = .int .i64 0) (fun _ _ => 0)
      case atStart => exact ⟨rfl, rfl⟩
      case round =>
        obtain ⟨rfl, rfl⟩ := hrel
        go_wp2_with fail
        go_ret
        exact ⟨_, _, _, rfl, ownM_empty (Nat.le_refl _), al w _⟩

end Go.Proofs.YtoafpokcbbncfaaDoor

namespace Go.Proofs.YtoafpokcbbncfaaDoor
open Go.RowKit

end Go.Proofs.YtoafpokcbbncfaaDoor
