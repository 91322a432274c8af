/-
  Contracts of chapter 5, the program's side: SameRule, RisingOf, SameCounts, ShareSum.
-/
import Derived.Test.YtoafpokcbbncfaaDoorZsame
import Derived.Test.YtoafpokcbbncfaaDoorZback
import Derived.Test.YtoafpokcbbncfaaDoorZrows
import Derived.Test.YtoafpokcbbncfaaDoorZri
namespace Go.Proofs.YtoafpokcbbncfaaDoor
open Go.RowKit

theorem stepOk_c (a : Int) (w : World) : Calls Tryd.prog 63 #[.int .i64 a] w fun e w' => e = .returned (.bool (stepB a)) ∧ w = w' := by
  unfold stepB
  by_cases h1 : -1 ≤ a
  · by_cases h2 : a ≤ 3
    · go_enter Tryd.func63, Tryd.ntmps63
      go_wp2
      go_ret
      exact ⟨ret_bool (by simp; omega), rfl⟩
    · go_enter Tryd.func63, Tryd.ntmps63
      go_wp2
      go_ret
      exact ⟨ret_bool (by simp; omega), rfl⟩
  · go_enter Tryd.func63, Tryd.ntmps63
    go_wp2
    go_ret
    exact ⟨ret_bool (by simp; omega), rfl⟩

set_option maxHeartbeats 1600000 in
theorem sameRule_impl (cl s : Int) (w : World) (hw : (Lit.int .i64 s).wf = true) :
    Calls Tryd.prog 26 #[.int .i64 cl, .int .i64 s] w fun e w' => ∃ A n c, e = .returned (.slice A n c) ∧ OwnM w' w.heap.size w'.heap.size (.slice A n c) (sameRule cl s) ∧ Below w.heap.size w w' := by
  obtain ⟨i0, hi, hz0, hz1, hz2⟩ := info_parts infoInt
  obtain ⟨i1, hi1, hy0, hy1, hy2⟩ := info_parts infoRow
  have HC := hide (coloursOk_c cl w)
  have HS := hide (stepOk_c s w)
  by_cases hc : 1 ≤ cl ∧ cl ≤ 3
  · obtain ⟨C, rfl⟩ : ∃ C : Nat, cl = (C : Int) := ⟨cl.toNat, by omega⟩
    rw [decide_eq_true hc] at HC
    by_cases hs : -1 ≤ s ∧ s ≤ 3
    · rw [stepB_mk hs] at HS
      have he := hide (sameRule_yes (C := C) (by omega) hs)
      have hat := hide (fun (k : Nat) (hk : k < C) => sameR_at (s := s) hk)
      have hln := hide (sameR_len C s)
      have hw := hide hw
      have hC3 : C ≤ 3 := by omega
      have hC1 : 1 ≤ C := by omega
      rw [he.out]
      clear hc he hs
      go_enter Tryd.func26, Tryd.ntmps26
      go_wp2_with (first | (go_at_call 62; refine (HC.out).mono ?_; rintro e w' ⟨rfl, rfl⟩) | (go_at_call 63; refine (HS.out).mono ?_; rintro e w' ⟨rfl, rfl⟩) | (at_make; refine wpList_make_full _ rfl _ _ 57 rfl w.heap.size 22 i1 (.slice none 0 0) 1 Tryd.underlying57 hi1 hy0 hy1 .i64 .i64 _ _ C rfl rfl rfl rfl (by rw [hy2]; omega) (by unfold maxLen; omega) (Nat.le_refl _) ?_; intro w1 hown0 hgrow0; have hown0 := hide hown0; have hgrow0 := hide hgrow0))
      have hb0 := hide (show Below w.heap.size w w1 from (Below.refl _ _).grown hgrow0.out (Nat.le_refl _) (fun k hk => by cases hk))
      have ho0 := hide (show OwnM w1 w.heap.size w1.heap.size (.slice (some ⟨w.heap.size, 0, none⟩) C C) (cpyM (sameR C s) 0) from by
        rw [cpyM_zero, hln.out]
        exact ownM_made hown0.out)
      clear hown0 hgrow0
      go_loopw [19] (fun i wr => ∃ k : Nat, k ≤ C ∧ i = .int .i64 k ∧ Hid (OwnM wr w.heap.size wr.heap.size (.slice (some ⟨w.heap.size, 0, none⟩) C C) (cpyM (sameR C s) k)) ∧ Hid (Below w.heap.size w wr)) (fun i _ => C - (intOf i).toNat)
      case atStart => exact ⟨0, Nat.zero_le _, rfl, ho0, hb0⟩
      case round =>
        clear ho0 hb0
        obtain ⟨k, hk, rfl, ho, hb⟩ := hrel
        have hst := hb.out.size
        by_cases hlt : k < C
        · have HA := hide (fun (w4 : World) (hown4 : w4.ownsRow wr.heap.size 3 1 (.slice (some ⟨wr.heap.size, 0, none⟩) C C) C (madeCells (Value.int .i64 0).cells (C * 1)).toList) (hgrow4 : wr.grownBy w4 none) => show ∃ y gk ck, w4.cell? ⟨w.heap.size, k, none⟩ = some y ∧ w4.frozen? ⟨w.heap.size, k, none⟩ = false ∧ (w4.setCell ⟨w.heap.size, k, none⟩ (.slice (some ⟨wr.heap.size, 0, none⟩) C C)).cell? ⟨w.heap.size, k, none⟩ = some (.slice (some ⟨gk, 0, none⟩) C ck) ∧ (w4.setCell ⟨w.heap.size, k, none⟩ (.slice (some ⟨wr.heap.size, 0, none⟩) C C)).cell? ⟨gk, k, none⟩ = some (.int .i64 0) ∧ (w4.setCell ⟨w.heap.size, k, none⟩ (.slice (some ⟨wr.heap.size, 0, none⟩) C C)).frozen? ⟨gk, k, none⟩ = false ∧ Hid (OwnM ((w4.setCell ⟨w.heap.size, k, none⟩ (.slice (some ⟨wr.heap.size, 0, none⟩) C C)).setCell ⟨gk, k, none⟩ (.int .i64 s)) w.heap.size ((w4.setCell ⟨w.heap.size, k, none⟩ (.slice (some ⟨wr.heap.size, 0, none⟩) C C)).setCell ⟨gk, k, none⟩ (.int .i64 s)).heap.size (.slice (some ⟨w.heap.size, 0, none⟩) C C) (cpyM (sameR C s) (k + 1))) ∧ Hid (Below w.heap.size w ((w4.setCell ⟨w.heap.size, k, none⟩ (.slice (some ⟨wr.heap.size, 0, none⟩) C C)).setCell ⟨gk, k, none⟩ (.int .i64 s))) from by
            have hom := own_made hown4
            have hm4 := ho.out.kept hgrow4 (fun _ e => by cases e)
            obtain ⟨hset, hf, ⟨y, hy⟩, _⟩ := hm4.setRow (k := k) hom hst (by rw [cpyM_len, hln.out]; exact hlt)
            have hrow : ((cpyM (sameR C s) k).set k (List.replicate C 0))[k]? = some (List.replicate C 0) := List.getElem?_set_self (by rw [cpyM_len, hln.out]; exact hlt)
            have hrep : (List.replicate C (0 : Int))[k]? = some 0 := by rw [List.getElem?_replicate, if_pos hlt]
            obtain ⟨g, c, gk, ck, hv, c1, c2, c3, c4, hset2⟩ := hset.setIn hrow hrep
            injection hv with e1
            injection e1 with e1
            injection e1 with e1 _ _
            subst e1
            have h5 := hset2 s hw.out
            rw [List.set_set, cpyM_set _ k _ (hat.out k hlt)] at h5
            refine ⟨y, gk, ck, hy, hf, by rw [c1, List.length_replicate], c2, c3, hide (h5.wide (by simp [World.setCell])), hide (((hb.out.grown hgrow4 hst (fun _ e => by cases e)).setCell (p := ⟨w.heap.size, k, none⟩) (Nat.le_refl _) _).setCell (p := ⟨gk, k, none⟩) c4 _)⟩)
          go_wp2_with (at_make; refine wpList_make_full _ rfl _ _ 22 rfl wr.heap.size 3 i0 (.int .i64 0) 1 Tryd.underlying22 hi hz0 hz1 .i64 .i64 _ _ C rfl rfl rfl rfl (by rw [hz2]; omega) (by unfold maxLen; omega) (Nat.le_refl _) ?_; intro w4 hown4 hgrow4; obtain ⟨y, gk, ck, q1, q2, q3, q4, q5, ho6, hb6⟩ := HA.out w4 hown4 hgrow4; clear hown4 hgrow4)
          go_roundw
          case rel => exact ⟨k + 1, by omega, by go_num, ho6, hb6⟩
          case measure => simp [intOf]; omega
        · obtain rfl : k = C := by omega
          have ho2 := hide (show OwnM wr w.heap.size wr.heap.size (.slice (some ⟨w.heap.size, 0, none⟩) k k) (sameR k s) by
            have e := cpyM_all (sameR k s)
            rw [hln.out] at e
            have := ho.out
            rwa [e] at this)
          go_wp2_with fail
          go_ret
          exact ⟨_, _, _, rfl, ho2.out, hb.out⟩
    · rw [stepB_no hs] at HS
      have he := hide (sameRule_no (c := (C : Int)) (.inr hs))
      rw [he.out]
      clear hs hc he
      go_enter Tryd.func26, Tryd.ntmps26
      go_wp2_with (first | (go_at_call 62; refine (HC.out).mono ?_; rintro e w' ⟨rfl, rfl⟩) | (go_at_call 63; refine (HS.out).mono ?_; rintro e w' ⟨rfl, rfl⟩))
      go_ret
      exact ⟨_, _, _, rfl, OwnM.none_, Below.refl _ _⟩
  · rw [decide_eq_false hc] at HC
    have he := hide (sameRule_no (s := s) (.inl hc))
    rw [he.out]
    clear hc he
    go_enter Tryd.func26, Tryd.ntmps26
    go_wp2_with (first | (go_at_call 62; refine (HC.out).mono ?_; rintro e w' ⟨rfl, rfl⟩))
    go_ret
    exact ⟨_, _, _, rfl, OwnM.none_, Below.refl _ _⟩

end Go.Proofs.YtoafpokcbbncfaaDoor
