/-
  The drawn rules: spec.l20Rule.
-/
import Derived.Test.YtffllkmaifjpfaaZrows
import Derived.Test.YtffllkmaifjpfaaZdraw
import Derived.StillTailTactics
namespace Go.Proofs.Ytffllkmaifjpfaa
open Go.RowKit
set_option linter.unusedVariables false

theorem setLen (l : List Int) (k : Nat) (x : Int) {C : Nat} (h : l.length = C) : (l.set k x).length = C := by rw [List.length_set, h]

set_option maxRecDepth 100000 in
set_option maxHeartbeats 6400000 in
theorem rule_mid (g m C : Nat) (q : Int) (w : World) (h : Rd w g m) (hm : m ≤ 10000) (hq : 1 ≤ q) (hq2 : q ≤ 1000000) (hC1 : 1 ≤ C) (hC3 : C ≤ 3) :
    Calls Try.prog 54 #[.pointer (some ⟨g, 0, none⟩), .int .i64 C, .int .i64 q] w fun e w' => ∃ A n c rs, e = .returned (.slice A n c) ∧ MatL w' w.heap.size A n c rs ∧ n ≤ 3 ∧ Rd w' g (m + 40) ∧ w.grownBy w' (some g) := by
  have hgl := h.lt
  obtain ⟨i0, hi, hz0, hz1, hz2⟩ := info_parts infoInt
  obtain ⟨i1, hi1, hy0, hy1, hy2⟩ := info_parts infoRow
  have HR0 := hide (h.kept (World.grownBy_alloc w (.cells #[] 39) none) (fun _ e => by cases e))
  clear h
  go_enter Try.func54, Try.ntmps54
  go_wp2_with fail
  refine (pick_c g m 4 _ HR0.out (by omega) (by omega) (by omega)).mono ?_
  rintro e w1 ⟨x, rfl, hx0, hx1, hr1, hg1⟩
  have hs1 := hg1.size
  have hgr1 := hide (show w.grownBy w1 (some g) from grown_new (grown_alloc (World.grownBy.refl w (some g)) _) hg1 (fun _ _ => .inr rfl))
  have ho1 := hide (((ownM_empty (w := w) (lo := w.heap.size) (hi := w1.heap.size) (Nat.le_refl _))).past hg1 hgl)
  have hr1 := hide hr1
  clear hg1 HR0
  go_wp2_with fail
  go_loopw [7, 9] (fun v i wr => ∃ k : Nat, ∃ A c rs, k ≤ C ∧ i = .int .i64 k ∧ v = .slice A k c ∧ Hid (∀ l ∈ rs, l.length = C) ∧ Hid (OwnM wr w.heap.size wr.heap.size (.slice A k c) rs) ∧ Hid (Rd wr g (m + 1 + 6 * k)) ∧ Hid (w.grownBy wr (some g))) (fun _ i _ => C - (intOf i).toNat)
  case atStart => exact ⟨0, _, _, [], Nat.zero_le _, rfl, rfl, (fun _ h => by cases h), ho1, hr1, hgr1⟩
  case round =>
    clear ho1 hr1 hgr1
    obtain ⟨k, A, c, rs, hk, rfl, rfl, hall, ho, hr, hgr⟩ := hrel
    obtain ⟨wo, hwo⟩ : ∃ m, m = wr := ⟨_, rfl⟩
    subst hwo
    have hgs := hgr.out.size
    by_cases hlt : k < C
    · go_wp2_with (at_make; refine wpList_make_full _ rfl _ _ 39 rfl wo.heap.size 3 i0 (.int .i64 0) 1 Try.underlying39 hi hz0 hz1 .i64 .i64 _ _ C rfl rfl rfl rfl (by rw [hz2]; omega) (by unfold maxLen; omega) (Nat.le_refl _) ?_; intro w2 hown2 hgrow2)
      have hs2 := hgrow2.size
      have hrow := hide (own_made hown2)
      have hlt2 := hrow.out.row.lt _ rfl
      have hr2 := hide (hr.out.kept hgrow2 (fun _ e => by cases e))
      have hgr2 := hide (grown_new hgr.out hgrow2 (fun _ e => by cases e))
      have ho2 := hide (ho.out.kept hgrow2 (fun _ e => by cases e))
      have hlo : w.heap.size ≤ wo.heap.size := hgs
      clear hown2 hgrow2 ho hr hgr
      go_loopw [11] (fun j w3 => ∃ jj : Nat, ∃ l, jj ≤ C ∧ j = .int .i64 jj ∧ Hid (l.length = C) ∧ wo.heap.size < w3.heap.size ∧ Hid (Own w3 wo.heap.size (.slice (some ⟨wo.heap.size, 0, none⟩) C C) l) ∧ Hid (OwnM w3 w.heap.size wo.heap.size (.slice A k c) rs) ∧ Hid (Rd w3 g (m + 1 + 6 * k + 2 * jj)) ∧ Hid (w.grownBy w3 (some g))) (fun j _ => C - (intOf j).toNat)
      case atStart => exact ⟨0, _, Nat.zero_le _, rfl, hide (by simp), hlt2.2, hrow, ho2, hr2, hgr2⟩
      case round =>
        clear hrow ho2 hr2 hgr2 hlt2 hs2
        obtain ⟨j, l, hj, rfl, hll, hsz, hrow, ho, hr, hgr⟩ := hrel
        by_cases hjt : j < C
        · go_wp2_with fail
          refine (pick_c g _ 3 _ hr.out (by omega) (by omega) (by omega)).mono ?_
          rintro e w4 ⟨y, rfl, hp0, hp1, hr4, hg4⟩
          have hrow4 := hide (hrow.out.past hg4 (by omega))
          have ho4 := hide (ho.out.past hg4 hgl)
          have hgr4 := hide (grown_new hgr.out hg4 (fun _ _ => .inr rfl))
          have hr4 := hide hr4
          have hs4 := hg4.size
          clear hg4 hrow ho hr hgr
          go_wp2_with fail
          refine (pick_c g _ 2 _ hr4.out (by omega) (by omega) (by omega)).mono ?_
          rintro e w5 ⟨z, rfl, hq0, hq1, hr5, hg5⟩
          have hrow5 := hide (hrow4.out.past hg5 (by omega))
          have ho5 := hide (ho4.out.past hg5 hgl)
          have hgr5 := hide (grown_new hgr4.out hg5 (fun _ _ => .inr rfl))
          have hr5 := hide hr5
          have hs5 := hg5.size
          clear hg5 hrow4 ho4 hr4 hgr4
          obtain ⟨p0, p1⟩ := mul_bound hp0 (show y ≤ 2 by omega) hq0 (show z ≤ 1 by omega)
          obtain ⟨u, hu⟩ : ∃ u, Hid (l[j]? = some u) := ⟨_, hide (List.getElem?_eq_getElem (by have := hll.out; omega))⟩
          obtain ⟨gr, hA, _, hgl2, hcu, hfu⟩ := hrow5.out.at2 hu.out
          injection hA with hA
          injection hA with hA _ _
          subst hA
          have hrow6 := hide (hrow5.out.set_ (k := j) (y * z) (wf_i64 (by omega)))
          have ho6 := hide (ho5.out.beside hrow5.out (grown_set w5 wo.heap.size j (.int .i64 (y * z))))
          have hr6 := hide ((hr5.out.kept (grown_set w5 wo.heap.size j (.int .i64 (y * z))) (fun j hj => by injection hj with hj; omega)).more (m' := m + 1 + 6 * k + 2 * (j + 1)) (by omega))
          have hgr6 := hide (grown_new hgr5.out (grown_set w5 wo.heap.size j (.int .i64 (y * z))) (fun j hj => by injection hj with hj; exact .inl (by omega)))
          have hll6 := hide (setLen l j (y * z) hll.out)
          have hsz6 : wo.heap.size < (w5.setCell ⟨wo.heap.size, j, none⟩ (.int .i64 (y * z))).heap.size := by simp; omega
          clear hrow5 ho5 hr5 hgr5
          go_wp2_with fail
          go_roundw
          case rel => exact ⟨j + 1, _, by omega, by go_num, hll6, hsz6, hrow6, ho6, hr6, hgr6⟩
          case measure => simp [intOf]; omega
        · have hr := hide (hr.out.more (m' := m + 1 + 6 * (k + 1)) (by omega))
          have hst5 := hide (show w.heap.size ≤ wr.heap.size from hgr.out.size)
          have hol := hide ho.out.len
          have hrep := hide (show (List.replicate C (0 : Int))[k]? = some 0 by rw [List.getElem?_replicate, if_pos hlt])
          rcases (show x = 0 ∨ x = 1 ∨ (2 ≤ x) by omega) with hx | hx | hx
          · subst hx
            go_wp2_with (first | (at_make; refine wpList_make_full _ rfl _ _ 39 rfl wr.heap.size 3 i0 (.int .i64 0) 1 Try.underlying39 hi hz0 hz1 .i64 .i64 _ _ C rfl rfl rfl rfl (by rw [hz2]; omega) (by unfold maxLen; omega) (Nat.le_refl _) ?_; intro w4 hown4 hgrow4; have hom := own_made hown4; obtain ⟨g5, hA5, _, hgl5, hcy5, hfy5⟩ := hom.at2 hrep.out; injection hA5 with hA5; injection hA5 with hA5 _ _; subst hA5; have hrow7 := hide ((hom.set_ (k := k) (1) (wf_i64 (by omega))).down (Nat.le_of_lt hsz)); have ho7 := hide ((ho.out.kept hgrow4 (fun _ e => by cases e)).beside (hom.down (Nat.le_of_lt hsz)) (grown_set w4 wr.heap.size k (.int .i64 (1)))); have hr7 := hide (((hr.out.kept hgrow4 (fun _ e => by cases e)).kept (grown_set w4 wr.heap.size k (.int .i64 (1))) (fun j hj => by injection hj with hj; omega))); have hgr7 := hide (grown_new (grown_new hgr.out hgrow4 (fun _ e => by cases e)) (grown_set w4 wr.heap.size k (.int .i64 (1))) (fun j hj => by injection hj with hj; exact .inl (by omega))); have hst7 := hide (show wr.heap.size ≤ (w4.setCell ⟨wr.heap.size, k, none⟩ (.int .i64 (1))).heap.size by have := hgrow4.size; simp; omega); clear hown4 hgrow4 hom) | (at_builtin; refine wpList_appM _ rfl _ _ 44 rfl i1 Try.underlying44 hi1 hy0 hy1 hy2 _ rs rfl (ho7.out.alloc _) _ ((List.replicate C 0).set k 1) (hrow7.out.alloc _) hlo (by have := hst5.out; simp; omega) ⟨_, 0, none⟩ 1 rfl (cell_new (by simp)) (by have := hol.out; omega) ?_; intro A₆ n₆ c₆ w6 ho6 hg6))
            have hn6 : n₆ = k + 1 := by have h1 := ho6.len; rw [List.length_append] at h1; have := hol.out; simp at h1; omega
            subst hn6
            have hr6 := hide (((hr7.out.kept (World.grownBy_alloc _ _ none) (fun _ e => by cases e)).kept hg6 (fun j hj => by have := (ho7.out.lt j hj).1; omega)).more (m' := m + 1 + 6 * (k + 1)) (by omega))
            have hgr6 := hide (grown_new (grown_alloc hgr7.out _) hg6 (fun j hj => .inl (ho7.out.lt j hj).1))
            have ho6 := hide ho6
            have hall6 := hide (show ∀ r ∈ rs ++ [((List.replicate C 0).set k 1)], r.length = C from fun r hm => by
              rcases List.mem_append.1 hm with h1 | h1
              · exact hall.out r h1
              · rw [List.mem_singleton.1 h1]; exact setLen _ _ _ (by simp))
            clear hg6 ho7 hr7 hgr7 hrow7
            go_wp2_with fail
            go_roundw
            case rel => exact ⟨k + 1, _, _, _, by omega, by go_num, rfl, hall6, ho6, hr6, hgr6⟩
            case measure => simp [intOf]; omega
          · subst hx
            go_wp2_with (at_make; refine wpList_make_full _ rfl _ _ 39 rfl wr.heap.size 3 i0 (.int .i64 0) 1 Try.underlying39 hi hz0 hz1 .i64 .i64 _ _ C rfl rfl rfl rfl (by rw [hz2]; omega) (by unfold maxLen; omega) (Nat.le_refl _) ?_; intro w4 hown4 hgrow4; have hom := own_made hown4; obtain ⟨g5, hA5, _, hgl5, hcy5, hfy5⟩ := hom.at2 hrep.out; injection hA5 with hA5; injection hA5 with hA5 _ _; subst hA5; have hrow7 := hide ((hom.set_ (k := k) (-1) (wf_i64 (by omega))).down (Nat.le_of_lt hsz)); have ho7 := hide ((ho.out.kept hgrow4 (fun _ e => by cases e)).beside (hom.down (Nat.le_of_lt hsz)) (grown_set w4 wr.heap.size k (.int .i64 (-1)))); have hr7 := hide (((hr.out.kept hgrow4 (fun _ e => by cases e)).kept (grown_set w4 wr.heap.size k (.int .i64 (-1))) (fun j hj => by injection hj with hj; omega))); have hgr7 := hide (grown_new (grown_new hgr.out hgrow4 (fun _ e => by cases e)) (grown_set w4 wr.heap.size k (.int .i64 (-1))) (fun j hj => by injection hj with hj; exact .inl (by omega))); have hst7 := hide (show wr.heap.size ≤ (w4.setCell ⟨wr.heap.size, k, none⟩ (.int .i64 (-1))).heap.size by have := hgrow4.size; simp; omega); clear hown4 hgrow4 hom)
            revert hrow7 ho7 hr7 hgr7 hst7
            generalize w4.setCell ⟨wr.heap.size, k, none⟩ (.int .i64 (-1)) = W7
            intro hrow7 ho7 hr7 hgr7 hst7
            obtain ⟨J, hJ, hJl⟩ : ∃ J, Hid ((k + 1) % C = J) ∧ J < C := ⟨_, hide rfl, Nat.mod_lt _ (by omega)⟩
            obtain ⟨u, hu, hu0, hu1⟩ : ∃ u, Hid (((List.replicate C (0 : Int)).set k (-1))[J]? = some u) ∧ -1 ≤ u ∧ u ≤ 0 := by
              have hl : J < ((List.replicate C (0 : Int)).set k (-1)).length := by simp; omega
              refine ⟨_, hide (List.getElem?_eq_getElem hl), ?_⟩
              rcases List.mem_or_eq_of_mem_set (List.getElem_mem hl) with h1 | h1
              · have := List.eq_of_mem_replicate h1; omega
              · omega
            obtain ⟨gr, hA, _, hgl2, hcu, hfu⟩ := hrow7.out.at2 hu.out
            injection hA with hA
            injection hA with hA _ _
            subst hA
            have r1 : IntKind.i64.wrap ((k : Int) + 1) = (k : Int) + 1 := IntWalk.i64_in _ (by omega)
            have r2 : IntKind.i64.wrap (u + 1) = u + 1 := IntWalk.i64_in _ (by omega)
            have hne : ¬ C = 0 := by omega
            have hJi : (J : Int) < (C : Int) := by omega
            have ht : ((k : Int) + 1).tmod (C : Int) = (J : Int) := by
              rw [← hJ.out, Int.tmod_eq_emod_of_nonneg (by omega), Int.natCast_emod]; rfl
            have hrow8 := hide ((hrow7.out.set_ (k := J) (u + 1) (wf_i64 (by omega))).drew)
            have ho8 := hide ((ho7.out.beside hrow7.out (grown_set _ wr.heap.size J (.int .i64 (u + 1)))).up (Below.drew (Below.refl _ _)))
            have hr8 := hide ((hr7.out.kept (grown_set _ wr.heap.size J (.int .i64 (u + 1))) (fun j hj => by injection hj with hj; omega)).drewN 1)
            have hgr8 := hide (only_drewN (grown_new hgr7.out (grown_set _ wr.heap.size J (.int .i64 (u + 1))) (fun j hj => by injection hj with hj; exact .inl (by omega))) 1)
            have hst8 := hst7
            clear hrow7 ho7 hr7 hgr7
            refine wp_region_still_tail 14 (by kernel_rfl) (by kernel_rfl) ?_
            simp only [List.take_succ_cons, List.take_zero, List.drop_succ_cons, List.drop_zero]
            repeat still_step
            refine wpStill_nil ?_
            clear ht r1 r2 hne hJi
            go_wp2_with (at_builtin; refine wpList_appM _ rfl _ _ 44 rfl i1 Try.underlying44 hi1 hy0 hy1 hy2 _ rs rfl (ho8.out.alloc _) _ (((List.replicate C 0).set k (-1)).set J (u + 1)) (hrow8.out.alloc _) hlo (by have := hst5.out; simp; omega) ⟨_, 0, none⟩ 1 rfl (cell_new (by simp)) (by have := hol.out; omega) ?_; intro A₆ n₆ c₆ w6 ho6 hg6)
            have hn6 : n₆ = k + 1 := by have h1 := ho6.len; rw [List.length_append] at h1; have := hol.out; simp at h1; omega
            subst hn6
            have hr6 := hide (((hr8.out.kept (World.grownBy_alloc _ _ none) (fun _ e => by cases e)).kept hg6 (fun j hj => by have := (ho8.out.lt j hj).1; omega)).more (m' := m + 1 + 6 * (k + 1)) (by omega))
            have hgr6 := hide (grown_new (grown_alloc hgr8.out _) hg6 (fun j hj => .inl (ho8.out.lt j hj).1))
            have ho6 := hide ho6
            have hall6 := hide (show ∀ r ∈ rs ++ [(((List.replicate C 0).set k (-1)).set J (u + 1))], r.length = C from fun r hm => by
              rcases List.mem_append.1 hm with h1 | h1
              · exact hall.out r h1
              · rw [List.mem_singleton.1 h1]; exact setLen _ _ _ (setLen _ _ _ (by simp)))
            clear hg6 ho8 hr8 hgr8 hrow8
            go_wp2_with fail
            go_roundw
            case rel => exact ⟨k + 1, _, _, _, by omega, by go_num, rfl, hall6, ho6, hr6, hgr6⟩
            case measure => simp [intOf]; omega
          · have hxa : (x == 0) = false := by simp; omega
            have hxb : (x == 1) = false := by simp; omega
            go_wp2_with (at_builtin; refine wpList_appM _ rfl _ _ 44 rfl i1 Try.underlying44 hi1 hy0 hy1 hy2 _ rs rfl (ho.out.alloc _) _ l (hrow.out.alloc _) hlo (by have := hst5.out; simp; omega) ⟨_, 0, none⟩ 1 rfl (cell_new (by simp)) (by have := hol.out; omega) ?_; intro A₆ n₆ c₆ w6 ho6 hg6)
            have hn6 : n₆ = k + 1 := by have h1 := ho6.len; rw [List.length_append] at h1; have := hol.out; simp at h1; omega
            subst hn6
            have hr6 := hide (((hr.out.kept (World.grownBy_alloc _ _ none) (fun _ e => by cases e)).kept hg6 (fun j hj => by have := (ho.out.lt j hj).1; omega)).more (m' := m + 1 + 6 * (k + 1)) (by omega))
            have hgr6 := hide (grown_new (grown_alloc hgr.out _) hg6 (fun j hj => .inl (ho.out.lt j hj).1))
            have ho6 := hide ho6
            have hall6 := hide (show ∀ r ∈ rs ++ [l], r.length = C from fun r hm => by
              rcases List.mem_append.1 hm with h1 | h1
              · exact hall.out r h1
              · rw [List.mem_singleton.1 h1]; exact hll.out)
            clear hg6 ho hr hgr hrow
            go_wp2_with fail
            go_roundw
            case rel => exact ⟨k + 1, _, _, _, by omega, by go_num, rfl, hall6, ho6, hr6, hgr6⟩
            case measure => simp [intOf]; omega
    · have hkC := hide (show k = C by omega)
      have hk1 : 0 < k := by have := hkC.out; omega
      have hk3 : k ≤ 3 := by have := hkC.out; omega
      have hol := hide ho.out.len
      have hr := hide (hr.out.more (m' := m + 19) (by omega))
      go_wp2_with fail
      refine (odd_c g _ q _ hr.out (by omega) hq hq2).mono ?_
      rintro e w2 ⟨b, rfl, hr2, hg2⟩
      have ho2 := hide (ho.out.past hg2 hgl)
      have hr2 := hide hr2
      have hgr2 := hide (grown_new hgr.out hg2 (fun _ _ => .inr rfl))
      clear hg2 ho hr hgr
      cases b with
      | false =>
        go_wp2_with fail
        go_ret
        exact ⟨A, k, c, rs, rfl, ho2.out.matL, hk3, hr2.out.more (by omega), hgr2.out⟩
      | true =>
        go_wp2_with fail
        refine (pick_c g _ 2 _ hr2.out (by omega) (by omega) (by omega)).mono ?_
        rintro e w3 ⟨y, rfl, hp0, hp1, hr3, hg3⟩
        have ho3 := hide (ho2.out.past hg3 hgl)
        have hr3 := hide (hr3.more (m' := m + 40) (by omega))
        have hgr3 := hide (grown_new hgr2.out hg3 (fun _ _ => .inr rfl))
        clear hg3 ho2 hr2 hgr2
        obtain ⟨l, hl⟩ : ∃ l, Hid (rs[0]? = some l) := ⟨_, hide (List.getElem?_eq_getElem (by have := hol.out; omega))⟩
        rcases (show y = 0 ∨ y = 1 by omega) with hy | hy
        · subst hy
          obtain ⟨J, rfl⟩ : ∃ J, C = J + 1 := ⟨C - 1, by omega⟩
          have hll := hide (hall.out l (List.mem_of_getElem? hl.out))
          obtain ⟨u, hu⟩ : ∃ u, Hid (l[J]? = some u) := ⟨_, hide (List.getElem?_eq_getElem (by have := hll.out; omega))⟩
          obtain ⟨g1, c1, gk, ck, hv, hc1, hc2, hf2, hlk, hset⟩ := ho3.out.setIn hl.out hu.out
          injection hv with e1 e2 e3
          subst e1
          clear e2 e3
          rw [hll.out] at hc1
          have ho4 := hide (hset 4 (wf_i64 (by omega)))
          have hr4 := hide (hr3.out.kept (grown_set w3 gk J (.int .i64 4)) (fun j hj => by injection hj with hj; omega))
          have hgr4 := hide (grown_new hgr3.out (grown_set w3 gk J (.int .i64 4)) (fun j hj => by injection hj with hj; exact .inl (by omega)))
          clear hset
          go_wp2_with fail
          go_ret
          exact ⟨_, k, c, _, rfl, ho4.out.matL, hk3, hr4.out, hgr4.out⟩
        · subst hy
          have hM := hide ho3.out.matL
          have hle := hM.out.le
          have hbig := hM.out.big
          unfold maxLen at hbig
          obtain ⟨b, off, hA, _⟩ := hM.out.cells hk1
          subst hA
          by_cases hc1 : c = 1
          · subst hc1
            have hk0 : k = 1 := by omega
            subst hk0
            go_wp2_with fail
            go_ret
            exact ⟨_, _, _, [], rfl, MatL.empty (by decide) (fun e => by cases e), by omega, hr3.out, hgr3.out⟩
          · have hc2 : 1 < c := by omega
            clear hc1
            go_wp2_with fail
            go_ret
            exact ⟨_, _, _, _, rfl, hM.out.tail hk1, by omega, hr3.out, hgr3.out⟩

set_option maxRecDepth 100000 in
set_option maxHeartbeats 6400000 in
theorem rule_lo (g m : Nat) (cl q : Int) (w : World) (h : Rd w g m) (hm : m ≤ 10000) (hq : 1 ≤ q) (hq2 : q ≤ 1000000) (hcl : cl < 1) :
    Calls Try.prog 54 #[.pointer (some ⟨g, 0, none⟩), .int .i64 cl, .int .i64 q] w fun e w' => ∃ A n c rs, e = .returned (.slice A n c) ∧ MatL w' w.heap.size A n c rs ∧ n ≤ 3 ∧ Rd w' g (m + 40) ∧ w.grownBy w' (some g) := by
  have hgl := h.lt
  obtain ⟨i0, hi, hz0, hz1, hz2⟩ := info_parts infoInt
  obtain ⟨i1, hi1, hy0, hy1, hy2⟩ := info_parts infoRow
  have HR0 := hide (h.kept (World.grownBy_alloc w (.cells #[] 39) none) (fun _ e => by cases e))
  clear h
  go_enter Try.func54, Try.ntmps54
  go_wp2_with fail
  refine (pick_c g m 4 _ HR0.out (by omega) (by omega) (by omega)).mono ?_
  rintro e w1 ⟨x, rfl, hx0, hx1, hr1, hg1⟩
  have hs1 := hg1.size
  have hgr1 := hide (show w.grownBy w1 (some g) from grown_new (grown_alloc (World.grownBy.refl w (some g)) _) hg1 (fun _ _ => .inr rfl))
  have ho1 := hide (((ownM_empty (w := w) (lo := w.heap.size) (hi := w1.heap.size) (Nat.le_refl _))).past hg1 hgl)
  have hr1 := hide hr1
  clear hg1 HR0
  go_wp2_with fail
  go_loopw [7, 9] (fun v i wr => ∃ k : Nat, ∃ A c rs, k ≤ 1 ∧ i = .int .i64 k ∧ v = .slice A k c ∧ Hid (∀ l ∈ rs, l.length = 1) ∧ Hid (OwnM wr w.heap.size wr.heap.size (.slice A k c) rs) ∧ Hid (Rd wr g (m + 1 + 6 * k)) ∧ Hid (w.grownBy wr (some g))) (fun _ i _ => 1 - (intOf i).toNat)
  case atStart => exact ⟨0, _, _, [], Nat.zero_le _, rfl, rfl, (fun _ h => by cases h), ho1, hr1, hgr1⟩
  case round =>
    clear ho1 hr1 hgr1
    obtain ⟨k, A, c, rs, hk, rfl, rfl, hall, ho, hr, hgr⟩ := hrel
    obtain ⟨wo, hwo⟩ : ∃ m, m = wr := ⟨_, rfl⟩
    subst hwo
    have hgs := hgr.out.size
    by_cases hlt : k < 1
    · go_wp2_with (at_make; refine wpList_make_full _ rfl _ _ 39 rfl wo.heap.size 3 i0 (.int .i64 0) 1 Try.underlying39 hi hz0 hz1 .i64 .i64 _ _ 1 rfl rfl rfl rfl (by rw [hz2]; omega) (by unfold maxLen; omega) (Nat.le_refl _) ?_; intro w2 hown2 hgrow2)
      have hs2 := hgrow2.size
      have hrow := hide (own_made hown2)
      have hlt2 := hrow.out.row.lt _ rfl
      have hr2 := hide (hr.out.kept hgrow2 (fun _ e => by cases e))
      have hgr2 := hide (grown_new hgr.out hgrow2 (fun _ e => by cases e))
      have ho2 := hide (ho.out.kept hgrow2 (fun _ e => by cases e))
      have hlo : w.heap.size ≤ wo.heap.size := hgs
      clear hown2 hgrow2 ho hr hgr
      go_loopw [11] (fun j w3 => ∃ jj : Nat, ∃ l, jj ≤ 1 ∧ j = .int .i64 jj ∧ Hid (l.length = 1) ∧ wo.heap.size < w3.heap.size ∧ Hid (Own w3 wo.heap.size (.slice (some ⟨wo.heap.size, 0, none⟩) 1 1) l) ∧ Hid (OwnM w3 w.heap.size wo.heap.size (.slice A k c) rs) ∧ Hid (Rd w3 g (m + 1 + 6 * k + 2 * jj)) ∧ Hid (w.grownBy w3 (some g))) (fun j _ => 1 - (intOf j).toNat)
      case atStart => exact ⟨0, _, Nat.zero_le _, rfl, hide (by simp), hlt2.2, hrow, ho2, hr2, hgr2⟩
      case round =>
        clear hrow ho2 hr2 hgr2 hlt2 hs2
        obtain ⟨j, l, hj, rfl, hll, hsz, hrow, ho, hr, hgr⟩ := hrel
        by_cases hjt : j < 1
        · go_wp2_with fail
          refine (pick_c g _ 3 _ hr.out (by omega) (by omega) (by omega)).mono ?_
          rintro e w4 ⟨y, rfl, hp0, hp1, hr4, hg4⟩
          have hrow4 := hide (hrow.out.past hg4 (by omega))
          have ho4 := hide (ho.out.past hg4 hgl)
          have hgr4 := hide (grown_new hgr.out hg4 (fun _ _ => .inr rfl))
          have hr4 := hide hr4
          have hs4 := hg4.size
          clear hg4 hrow ho hr hgr
          go_wp2_with fail
          refine (pick_c g _ 2 _ hr4.out (by omega) (by omega) (by omega)).mono ?_
          rintro e w5 ⟨z, rfl, hq0, hq1, hr5, hg5⟩
          have hrow5 := hide (hrow4.out.past hg5 (by omega))
          have ho5 := hide (ho4.out.past hg5 hgl)
          have hgr5 := hide (grown_new hgr4.out hg5 (fun _ _ => .inr rfl))
          have hr5 := hide hr5
          have hs5 := hg5.size
          clear hg5 hrow4 ho4 hr4 hgr4
          obtain ⟨p0, p1⟩ := mul_bound hp0 (show y ≤ 2 by omega) hq0 (show z ≤ 1 by omega)
          obtain ⟨u, hu⟩ : ∃ u, Hid (l[j]? = some u) := ⟨_, hide (List.getElem?_eq_getElem (by have := hll.out; omega))⟩
          obtain ⟨gr, hA, _, hgl2, hcu, hfu⟩ := hrow5.out.at2 hu.out
          injection hA with hA
          injection hA with hA _ _
          subst hA
          have hrow6 := hide (hrow5.out.set_ (k := j) (y * z) (wf_i64 (by omega)))
          have ho6 := hide (ho5.out.beside hrow5.out (grown_set w5 wo.heap.size j (.int .i64 (y * z))))
          have hr6 := hide ((hr5.out.kept (grown_set w5 wo.heap.size j (.int .i64 (y * z))) (fun j hj => by injection hj with hj; omega)).more (m' := m + 1 + 6 * k + 2 * (j + 1)) (by omega))
          have hgr6 := hide (grown_new hgr5.out (grown_set w5 wo.heap.size j (.int .i64 (y * z))) (fun j hj => by injection hj with hj; exact .inl (by omega)))
          have hll6 := hide (setLen l j (y * z) hll.out)
          have hsz6 : wo.heap.size < (w5.setCell ⟨wo.heap.size, j, none⟩ (.int .i64 (y * z))).heap.size := by simp; omega
          clear hrow5 ho5 hr5 hgr5
          go_wp2_with fail
          go_roundw
          case rel => exact ⟨j + 1, _, by omega, by go_num, hll6, hsz6, hrow6, ho6, hr6, hgr6⟩
          case measure => simp [intOf]; omega
        · have hr := hide (hr.out.more (m' := m + 1 + 6 * (k + 1)) (by omega))
          have hst5 := hide (show w.heap.size ≤ wr.heap.size from hgr.out.size)
          have hol := hide ho.out.len
          have hrep := hide (show (List.replicate 1 (0 : Int))[k]? = some 0 by rw [List.getElem?_replicate, if_pos hlt])
          rcases (show x = 0 ∨ x = 1 ∨ (2 ≤ x) by omega) with hx | hx | hx
          · subst hx
            go_wp2_with (first | (at_make; refine wpList_make_full _ rfl _ _ 39 rfl wr.heap.size 3 i0 (.int .i64 0) 1 Try.underlying39 hi hz0 hz1 .i64 .i64 _ _ 1 rfl rfl rfl rfl (by rw [hz2]; omega) (by unfold maxLen; omega) (Nat.le_refl _) ?_; intro w4 hown4 hgrow4; have hom := own_made hown4; obtain ⟨g5, hA5, _, hgl5, hcy5, hfy5⟩ := hom.at2 hrep.out; injection hA5 with hA5; injection hA5 with hA5 _ _; subst hA5; have hrow7 := hide ((hom.set_ (k := k) (1) (wf_i64 (by omega))).down (Nat.le_of_lt hsz)); have ho7 := hide ((ho.out.kept hgrow4 (fun _ e => by cases e)).beside (hom.down (Nat.le_of_lt hsz)) (grown_set w4 wr.heap.size k (.int .i64 (1)))); have hr7 := hide (((hr.out.kept hgrow4 (fun _ e => by cases e)).kept (grown_set w4 wr.heap.size k (.int .i64 (1))) (fun j hj => by injection hj with hj; omega))); have hgr7 := hide (grown_new (grown_new hgr.out hgrow4 (fun _ e => by cases e)) (grown_set w4 wr.heap.size k (.int .i64 (1))) (fun j hj => by injection hj with hj; exact .inl (by omega))); have hst7 := hide (show wr.heap.size ≤ (w4.setCell ⟨wr.heap.size, k, none⟩ (.int .i64 (1))).heap.size by have := hgrow4.size; simp; omega); clear hown4 hgrow4 hom) | (at_builtin; refine wpList_appM _ rfl _ _ 44 rfl i1 Try.underlying44 hi1 hy0 hy1 hy2 _ rs rfl (ho7.out.alloc _) _ ((List.replicate 1 0).set k 1) (hrow7.out.alloc _) hlo (by have := hst5.out; simp; omega) ⟨_, 0, none⟩ 1 rfl (cell_new (by simp)) (by have := hol.out; omega) ?_; intro A₆ n₆ c₆ w6 ho6 hg6))
            have hn6 : n₆ = k + 1 := by have h1 := ho6.len; rw [List.length_append] at h1; have := hol.out; simp at h1; omega
            subst hn6
            have hr6 := hide (((hr7.out.kept (World.grownBy_alloc _ _ none) (fun _ e => by cases e)).kept hg6 (fun j hj => by have := (ho7.out.lt j hj).1; omega)).more (m' := m + 1 + 6 * (k + 1)) (by omega))
            have hgr6 := hide (grown_new (grown_alloc hgr7.out _) hg6 (fun j hj => .inl (ho7.out.lt j hj).1))
            have ho6 := hide ho6
            have hall6 := hide (show ∀ r ∈ rs ++ [((List.replicate 1 0).set k 1)], r.length = 1 from fun r hm => by
              rcases List.mem_append.1 hm with h1 | h1
              · exact hall.out r h1
              · rw [List.mem_singleton.1 h1]; exact setLen _ _ _ (by simp))
            clear hg6 ho7 hr7 hgr7 hrow7
            go_wp2_with fail
            go_roundw
            case rel => exact ⟨k + 1, _, _, _, by omega, by go_num, rfl, hall6, ho6, hr6, hgr6⟩
            case measure => simp [intOf]; omega
          · subst hx
            go_wp2_with (at_make; refine wpList_make_full _ rfl _ _ 39 rfl wr.heap.size 3 i0 (.int .i64 0) 1 Try.underlying39 hi hz0 hz1 .i64 .i64 _ _ 1 rfl rfl rfl rfl (by rw [hz2]; omega) (by unfold maxLen; omega) (Nat.le_refl _) ?_; intro w4 hown4 hgrow4; have hom := own_made hown4; obtain ⟨g5, hA5, _, hgl5, hcy5, hfy5⟩ := hom.at2 hrep.out; injection hA5 with hA5; injection hA5 with hA5 _ _; subst hA5; have hrow7 := hide ((hom.set_ (k := k) (-1) (wf_i64 (by omega))).down (Nat.le_of_lt hsz)); have ho7 := hide ((ho.out.kept hgrow4 (fun _ e => by cases e)).beside (hom.down (Nat.le_of_lt hsz)) (grown_set w4 wr.heap.size k (.int .i64 (-1)))); have hr7 := hide (((hr.out.kept hgrow4 (fun _ e => by cases e)).kept (grown_set w4 wr.heap.size k (.int .i64 (-1))) (fun j hj => by injection hj with hj; omega))); have hgr7 := hide (grown_new (grown_new hgr.out hgrow4 (fun _ e => by cases e)) (grown_set w4 wr.heap.size k (.int .i64 (-1))) (fun j hj => by injection hj with hj; exact .inl (by omega))); have hst7 := hide (show wr.heap.size ≤ (w4.setCell ⟨wr.heap.size, k, none⟩ (.int .i64 (-1))).heap.size by have := hgrow4.size; simp; omega); clear hown4 hgrow4 hom)
            revert hrow7 ho7 hr7 hgr7 hst7
            generalize w4.setCell ⟨wr.heap.size, k, none⟩ (.int .i64 (-1)) = W7
            intro hrow7 ho7 hr7 hgr7 hst7
            obtain ⟨J, hJ, hJl⟩ : ∃ J, Hid ((k + 1) % 1 = J) ∧ J < 1 := ⟨_, hide rfl, Nat.mod_lt _ (by omega)⟩
            obtain ⟨u, hu, hu0, hu1⟩ : ∃ u, Hid (((List.replicate 1 (0 : Int)).set k (-1))[J]? = some u) ∧ -1 ≤ u ∧ u ≤ 0 := by
              have hl : J < ((List.replicate 1 (0 : Int)).set k (-1)).length := by simp; omega
              refine ⟨_, hide (List.getElem?_eq_getElem hl), ?_⟩
              rcases List.mem_or_eq_of_mem_set (List.getElem_mem hl) with h1 | h1
              · have := List.eq_of_mem_replicate h1; omega
              · omega
            obtain ⟨gr, hA, _, hgl2, hcu, hfu⟩ := hrow7.out.at2 hu.out
            injection hA with hA
            injection hA with hA _ _
            subst hA
            have r1 : IntKind.i64.wrap ((k : Int) + 1) = (k : Int) + 1 := IntWalk.i64_in _ (by omega)
            have r2 : IntKind.i64.wrap (u + 1) = u + 1 := IntWalk.i64_in _ (by omega)
            have hne : ¬ 1 = 0 := by omega
            have hJi : (J : Int) < (1 : Int) := by omega
            have ht : ((k : Int) + 1).tmod (1 : Int) = (J : Int) := by
              rw [← hJ.out, Int.tmod_eq_emod_of_nonneg (by omega), Int.natCast_emod]; rfl
            have hrow8 := hide ((hrow7.out.set_ (k := J) (u + 1) (wf_i64 (by omega))).drew)
            have ho8 := hide ((ho7.out.beside hrow7.out (grown_set _ wr.heap.size J (.int .i64 (u + 1)))).up (Below.drew (Below.refl _ _)))
            have hr8 := hide ((hr7.out.kept (grown_set _ wr.heap.size J (.int .i64 (u + 1))) (fun j hj => by injection hj with hj; omega)).drewN 1)
            have hgr8 := hide (only_drewN (grown_new hgr7.out (grown_set _ wr.heap.size J (.int .i64 (u + 1))) (fun j hj => by injection hj with hj; exact .inl (by omega))) 1)
            have hst8 := hst7
            clear hrow7 ho7 hr7 hgr7
            refine wp_region_still_tail 14 (by kernel_rfl) (by kernel_rfl) ?_
            simp only [List.take_succ_cons, List.take_zero, List.drop_succ_cons, List.drop_zero]
            repeat still_step
            refine wpStill_nil ?_
            clear ht r1 r2 hne hJi
            go_wp2_with (at_builtin; refine wpList_appM _ rfl _ _ 44 rfl i1 Try.underlying44 hi1 hy0 hy1 hy2 _ rs rfl (ho8.out.alloc _) _ (((List.replicate 1 0).set k (-1)).set J (u + 1)) (hrow8.out.alloc _) hlo (by have := hst5.out; simp; omega) ⟨_, 0, none⟩ 1 rfl (cell_new (by simp)) (by have := hol.out; omega) ?_; intro A₆ n₆ c₆ w6 ho6 hg6)
            have hn6 : n₆ = k + 1 := by have h1 := ho6.len; rw [List.length_append] at h1; have := hol.out; simp at h1; omega
            subst hn6
            have hr6 := hide (((hr8.out.kept (World.grownBy_alloc _ _ none) (fun _ e => by cases e)).kept hg6 (fun j hj => by have := (ho8.out.lt j hj).1; omega)).more (m' := m + 1 + 6 * (k + 1)) (by omega))
            have hgr6 := hide (grown_new (grown_alloc hgr8.out _) hg6 (fun j hj => .inl (ho8.out.lt j hj).1))
            have ho6 := hide ho6
            have hall6 := hide (show ∀ r ∈ rs ++ [(((List.replicate 1 0).set k (-1)).set J (u + 1))], r.length = 1 from fun r hm => by
              rcases List.mem_append.1 hm with h1 | h1
              · exact hall.out r h1
              · rw [List.mem_singleton.1 h1]; exact setLen _ _ _ (setLen _ _ _ (by simp)))
            clear hg6 ho8 hr8 hgr8 hrow8
            go_wp2_with fail
            go_roundw
            case rel => exact ⟨k + 1, _, _, _, by omega, by go_num, rfl, hall6, ho6, hr6, hgr6⟩
            case measure => simp [intOf]; omega
          · have hxa : (x == 0) = false := by simp; omega
            have hxb : (x == 1) = false := by simp; omega
            go_wp2_with (at_builtin; refine wpList_appM _ rfl _ _ 44 rfl i1 Try.underlying44 hi1 hy0 hy1 hy2 _ rs rfl (ho.out.alloc _) _ l (hrow.out.alloc _) hlo (by have := hst5.out; simp; omega) ⟨_, 0, none⟩ 1 rfl (cell_new (by simp)) (by have := hol.out; omega) ?_; intro A₆ n₆ c₆ w6 ho6 hg6)
            have hn6 : n₆ = k + 1 := by have h1 := ho6.len; rw [List.length_append] at h1; have := hol.out; simp at h1; omega
            subst hn6
            have hr6 := hide (((hr.out.kept (World.grownBy_alloc _ _ none) (fun _ e => by cases e)).kept hg6 (fun j hj => by have := (ho.out.lt j hj).1; omega)).more (m' := m + 1 + 6 * (k + 1)) (by omega))
            have hgr6 := hide (grown_new (grown_alloc hgr.out _) hg6 (fun j hj => .inl (ho.out.lt j hj).1))
            have ho6 := hide ho6
            have hall6 := hide (show ∀ r ∈ rs ++ [l], r.length = 1 from fun r hm => by
              rcases List.mem_append.1 hm with h1 | h1
              · exact hall.out r h1
              · rw [List.mem_singleton.1 h1]; exact hll.out)
            clear hg6 ho hr hgr hrow
            go_wp2_with fail
            go_roundw
            case rel => exact ⟨k + 1, _, _, _, by omega, by go_num, rfl, hall6, ho6, hr6, hgr6⟩
            case measure => simp [intOf]; omega
    · have hkC := hide (show k = 1 by omega)
      have hk1 : 0 < k := by have := hkC.out; omega
      have hk3 : k ≤ 3 := by have := hkC.out; omega
      have hol := hide ho.out.len
      have hr := hide (hr.out.more (m' := m + 19) (by omega))
      go_wp2_with fail
      refine (odd_c g _ q _ hr.out (by omega) hq hq2).mono ?_
      rintro e w2 ⟨b, rfl, hr2, hg2⟩
      have ho2 := hide (ho.out.past hg2 hgl)
      have hr2 := hide hr2
      have hgr2 := hide (grown_new hgr.out hg2 (fun _ _ => .inr rfl))
      clear hg2 ho hr hgr
      cases b with
      | false =>
        go_wp2_with fail
        go_ret
        exact ⟨A, k, c, rs, rfl, ho2.out.matL, hk3, hr2.out.more (by omega), hgr2.out⟩
      | true =>
        go_wp2_with fail
        refine (pick_c g _ 2 _ hr2.out (by omega) (by omega) (by omega)).mono ?_
        rintro e w3 ⟨y, rfl, hp0, hp1, hr3, hg3⟩
        have ho3 := hide (ho2.out.past hg3 hgl)
        have hr3 := hide (hr3.more (m' := m + 40) (by omega))
        have hgr3 := hide (grown_new hgr2.out hg3 (fun _ _ => .inr rfl))
        clear hg3 ho2 hr2 hgr2
        obtain ⟨l, hl⟩ : ∃ l, Hid (rs[0]? = some l) := ⟨_, hide (List.getElem?_eq_getElem (by have := hol.out; omega))⟩
        rcases (show y = 0 ∨ y = 1 by omega) with hy | hy
        · subst hy
          have hll := hide (hall.out l (List.mem_of_getElem? hl.out))
          obtain ⟨u, hu⟩ : ∃ u, Hid (l[0]? = some u) := ⟨_, hide (List.getElem?_eq_getElem (by have := hll.out; omega))⟩
          obtain ⟨g1, c1, gk, ck, hv, hc1, hc2, hf2, hlk, hset⟩ := ho3.out.setIn hl.out hu.out
          injection hv with e1 e2 e3
          subst e1
          clear e2 e3
          rw [hll.out] at hc1
          have ho4 := hide (hset 4 (wf_i64 (by omega)))
          have hr4 := hide (hr3.out.kept (grown_set w3 gk 0 (.int .i64 4)) (fun j hj => by injection hj with hj; omega))
          have hgr4 := hide (grown_new hgr3.out (grown_set w3 gk 0 (.int .i64 4)) (fun j hj => by injection hj with hj; exact .inl (by omega)))
          clear hset
          go_wp2_with fail
          go_ret
          exact ⟨_, k, c, _, rfl, ho4.out.matL, hk3, hr4.out, hgr4.out⟩
        · subst hy
          have hM := hide ho3.out.matL
          have hle := hM.out.le
          have hbig := hM.out.big
          unfold maxLen at hbig
          obtain ⟨b, off, hA, _⟩ := hM.out.cells hk1
          subst hA
          by_cases hc1 : c = 1
          · subst hc1
            have hk0 : k = 1 := by omega
            subst hk0
            go_wp2_with fail
            go_ret
            exact ⟨_, _, _, [], rfl, MatL.empty (by decide) (fun e => by cases e), by omega, hr3.out, hgr3.out⟩
          · have hc2 : 1 < c := by omega
            clear hc1
            obtain rfl : k = 1 := by have := hkC.out; omega
            go_wp2_with fail
            go_ret
            exact ⟨_, _, _, _, rfl, hM.out.tail hk1, by omega, hr3.out, hgr3.out⟩

set_option maxRecDepth 100000 in
set_option maxHeartbeats 6400000 in
theorem rule_hi (g m : Nat) (cl q : Int) (w : World) (h : Rd w g m) (hm : m ≤ 10000) (hq : 1 ≤ q) (hq2 : q ≤ 1000000) (hcl : 3 < cl) :
    Calls Try.prog 54 #[.pointer (some ⟨g, 0, none⟩), .int .i64 cl, .int .i64 q] w fun e w' => ∃ A n c rs, e = .returned (.slice A n c) ∧ MatL w' w.heap.size A n c rs ∧ n ≤ 3 ∧ Rd w' g (m + 40) ∧ w.grownBy w' (some g) := by
  have hgl := h.lt
  obtain ⟨i0, hi, hz0, hz1, hz2⟩ := info_parts infoInt
  obtain ⟨i1, hi1, hy0, hy1, hy2⟩ := info_parts infoRow
  have HR0 := hide (h.kept (World.grownBy_alloc w (.cells #[] 39) none) (fun _ e => by cases e))
  clear h
  go_enter Try.func54, Try.ntmps54
  go_wp2_with fail
  refine (pick_c g m 4 _ HR0.out (by omega) (by omega) (by omega)).mono ?_
  rintro e w1 ⟨x, rfl, hx0, hx1, hr1, hg1⟩
  have hs1 := hg1.size
  have hgr1 := hide (show w.grownBy w1 (some g) from grown_new (grown_alloc (World.grownBy.refl w (some g)) _) hg1 (fun _ _ => .inr rfl))
  have ho1 := hide (((ownM_empty (w := w) (lo := w.heap.size) (hi := w1.heap.size) (Nat.le_refl _))).past hg1 hgl)
  have hr1 := hide hr1
  clear hg1 HR0
  go_wp2_with fail
  go_loopw [7, 9] (fun v i wr => ∃ k : Nat, ∃ A c rs, k ≤ 3 ∧ i = .int .i64 k ∧ v = .slice A k c ∧ Hid (∀ l ∈ rs, l.length = 3) ∧ Hid (OwnM wr w.heap.size wr.heap.size (.slice A k c) rs) ∧ Hid (Rd wr g (m + 1 + 6 * k)) ∧ Hid (w.grownBy wr (some g))) (fun _ i _ => 3 - (intOf i).toNat)
  case atStart => exact ⟨0, _, _, [], Nat.zero_le _, rfl, rfl, (fun _ h => by cases h), ho1, hr1, hgr1⟩
  case round =>
    clear ho1 hr1 hgr1
    obtain ⟨k, A, c, rs, hk, rfl, rfl, hall, ho, hr, hgr⟩ := hrel
    obtain ⟨wo, hwo⟩ : ∃ m, m = wr := ⟨_, rfl⟩
    subst hwo
    have hgs := hgr.out.size
    by_cases hlt : k < 3
    · go_wp2_with (at_make; refine wpList_make_full _ rfl _ _ 39 rfl wo.heap.size 3 i0 (.int .i64 0) 1 Try.underlying39 hi hz0 hz1 .i64 .i64 _ _ 3 rfl rfl rfl rfl (by rw [hz2]; omega) (by unfold maxLen; omega) (Nat.le_refl _) ?_; intro w2 hown2 hgrow2)
      have hs2 := hgrow2.size
      have hrow := hide (own_made hown2)
      have hlt2 := hrow.out.row.lt _ rfl
      have hr2 := hide (hr.out.kept hgrow2 (fun _ e => by cases e))
      have hgr2 := hide (grown_new hgr.out hgrow2 (fun _ e => by cases e))
      have ho2 := hide (ho.out.kept hgrow2 (fun _ e => by cases e))
      have hlo : w.heap.size ≤ wo.heap.size := hgs
      clear hown2 hgrow2 ho hr hgr
      go_loopw [11] (fun j w3 => ∃ jj : Nat, ∃ l, jj ≤ 3 ∧ j = .int .i64 jj ∧ Hid (l.length = 3) ∧ wo.heap.size < w3.heap.size ∧ Hid (Own w3 wo.heap.size (.slice (some ⟨wo.heap.size, 0, none⟩) 3 3) l) ∧ Hid (OwnM w3 w.heap.size wo.heap.size (.slice A k c) rs) ∧ Hid (Rd w3 g (m + 1 + 6 * k + 2 * jj)) ∧ Hid (w.grownBy w3 (some g))) (fun j _ => 3 - (intOf j).toNat)
      case atStart => exact ⟨0, _, Nat.zero_le _, rfl, hide (by simp), hlt2.2, hrow, ho2, hr2, hgr2⟩
      case round =>
        clear hrow ho2 hr2 hgr2 hlt2 hs2
        obtain ⟨j, l, hj, rfl, hll, hsz, hrow, ho, hr, hgr⟩ := hrel
        by_cases hjt : j < 3
        · go_wp2_with fail
          refine (pick_c g _ 3 _ hr.out (by omega) (by omega) (by omega)).mono ?_
          rintro e w4 ⟨y, rfl, hp0, hp1, hr4, hg4⟩
          have hrow4 := hide (hrow.out.past hg4 (by omega))
          have ho4 := hide (ho.out.past hg4 hgl)
          have hgr4 := hide (grown_new hgr.out hg4 (fun _ _ => .inr rfl))
          have hr4 := hide hr4
          have hs4 := hg4.size
          clear hg4 hrow ho hr hgr
          go_wp2_with fail
          refine (pick_c g _ 2 _ hr4.out (by omega) (by omega) (by omega)).mono ?_
          rintro e w5 ⟨z, rfl, hq0, hq1, hr5, hg5⟩
          have hrow5 := hide (hrow4.out.past hg5 (by omega))
          have ho5 := hide (ho4.out.past hg5 hgl)
          have hgr5 := hide (grown_new hgr4.out hg5 (fun _ _ => .inr rfl))
          have hr5 := hide hr5
          have hs5 := hg5.size
          clear hg5 hrow4 ho4 hr4 hgr4
          obtain ⟨p0, p1⟩ := mul_bound hp0 (show y ≤ 2 by omega) hq0 (show z ≤ 1 by omega)
          obtain ⟨u, hu⟩ : ∃ u, Hid (l[j]? = some u) := ⟨_, hide (List.getElem?_eq_getElem (by have := hll.out; omega))⟩
          obtain ⟨gr, hA, _, hgl2, hcu, hfu⟩ := hrow5.out.at2 hu.out
          injection hA with hA
          injection hA with hA _ _
          subst hA
          have hrow6 := hide (hrow5.out.set_ (k := j) (y * z) (wf_i64 (by omega)))
          have ho6 := hide (ho5.out.beside hrow5.out (grown_set w5 wo.heap.size j (.int .i64 (y * z))))
          have hr6 := hide ((hr5.out.kept (grown_set w5 wo.heap.size j (.int .i64 (y * z))) (fun j hj => by injection hj with hj; omega)).more (m' := m + 1 + 6 * k + 2 * (j + 1)) (by omega))
          have hgr6 := hide (grown_new hgr5.out (grown_set w5 wo.heap.size j (.int .i64 (y * z))) (fun j hj => by injection hj with hj; exact .inl (by omega)))
          have hll6 := hide (setLen l j (y * z) hll.out)
          have hsz6 : wo.heap.size < (w5.setCell ⟨wo.heap.size, j, none⟩ (.int .i64 (y * z))).heap.size := by simp; omega
          clear hrow5 ho5 hr5 hgr5
          go_wp2_with fail
          go_roundw
          case rel => exact ⟨j + 1, _, by omega, by go_num, hll6, hsz6, hrow6, ho6, hr6, hgr6⟩
          case measure => simp [intOf]; omega
        · have hr := hide (hr.out.more (m' := m + 1 + 6 * (k + 1)) (by omega))
          have hst5 := hide (show w.heap.size ≤ wr.heap.size from hgr.out.size)
          have hol := hide ho.out.len
          have hrep := hide (show (List.replicate 3 (0 : Int))[k]? = some 0 by rw [List.getElem?_replicate, if_pos hlt])
          rcases (show x = 0 ∨ x = 1 ∨ (2 ≤ x) by omega) with hx | hx | hx
          · subst hx
            go_wp2_with (first | (at_make; refine wpList_make_full _ rfl _ _ 39 rfl wr.heap.size 3 i0 (.int .i64 0) 1 Try.underlying39 hi hz0 hz1 .i64 .i64 _ _ 3 rfl rfl rfl rfl (by rw [hz2]; omega) (by unfold maxLen; omega) (Nat.le_refl _) ?_; intro w4 hown4 hgrow4; have hom := own_made hown4; obtain ⟨g5, hA5, _, hgl5, hcy5, hfy5⟩ := hom.at2 hrep.out; injection hA5 with hA5; injection hA5 with hA5 _ _; subst hA5; have hrow7 := hide ((hom.set_ (k := k) (1) (wf_i64 (by omega))).down (Nat.le_of_lt hsz)); have ho7 := hide ((ho.out.kept hgrow4 (fun _ e => by cases e)).beside (hom.down (Nat.le_of_lt hsz)) (grown_set w4 wr.heap.size k (.int .i64 (1)))); have hr7 := hide (((hr.out.kept hgrow4 (fun _ e => by cases e)).kept (grown_set w4 wr.heap.size k (.int .i64 (1))) (fun j hj => by injection hj with hj; omega))); have hgr7 := hide (grown_new (grown_new hgr.out hgrow4 (fun _ e => by cases e)) (grown_set w4 wr.heap.size k (.int .i64 (1))) (fun j hj => by injection hj with hj; exact .inl (by omega))); have hst7 := hide (show wr.heap.size ≤ (w4.setCell ⟨wr.heap.size, k, none⟩ (.int .i64 (1))).heap.size by have := hgrow4.size; simp; omega); clear hown4 hgrow4 hom) | (at_builtin; refine wpList_appM _ rfl _ _ 44 rfl i1 Try.underlying44 hi1 hy0 hy1 hy2 _ rs rfl (ho7.out.alloc _) _ ((List.replicate 3 0).set k 1) (hrow7.out.alloc _) hlo (by have := hst5.out; simp; omega) ⟨_, 0, none⟩ 1 rfl (cell_new (by simp)) (by have := hol.out; omega) ?_; intro A₆ n₆ c₆ w6 ho6 hg6))
            have hn6 : n₆ = k + 1 := by have h1 := ho6.len; rw [List.length_append] at h1; have := hol.out; simp at h1; omega
            subst hn6
            have hr6 := hide (((hr7.out.kept (World.grownBy_alloc _ _ none) (fun _ e => by cases e)).kept hg6 (fun j hj => by have := (ho7.out.lt j hj).1; omega)).more (m' := m + 1 + 6 * (k + 1)) (by omega))
            have hgr6 := hide (grown_new (grown_alloc hgr7.out _) hg6 (fun j hj => .inl (ho7.out.lt j hj).1))
            have ho6 := hide ho6
            have hall6 := hide (show ∀ r ∈ rs ++ [((List.replicate 3 0).set k 1)], r.length = 3 from fun r hm => by
              rcases List.mem_append.1 hm with h1 | h1
              · exact hall.out r h1
              · rw [List.mem_singleton.1 h1]; exact setLen _ _ _ (by simp))
            clear hg6 ho7 hr7 hgr7 hrow7
            go_wp2_with fail
            go_roundw
            case rel => exact ⟨k + 1, _, _, _, by omega, by go_num, rfl, hall6, ho6, hr6, hgr6⟩
            case measure => simp [intOf]; omega
          · subst hx
            go_wp2_with (at_make; refine wpList_make_full _ rfl _ _ 39 rfl wr.heap.size 3 i0 (.int .i64 0) 1 Try.underlying39 hi hz0 hz1 .i64 .i64 _ _ 3 rfl rfl rfl rfl (by rw [hz2]; omega) (by unfold maxLen; omega) (Nat.le_refl _) ?_; intro w4 hown4 hgrow4; have hom := own_made hown4; obtain ⟨g5, hA5, _, hgl5, hcy5, hfy5⟩ := hom.at2 hrep.out; injection hA5 with hA5; injection hA5 with hA5 _ _; subst hA5; have hrow7 := hide ((hom.set_ (k := k) (-1) (wf_i64 (by omega))).down (Nat.le_of_lt hsz)); have ho7 := hide ((ho.out.kept hgrow4 (fun _ e => by cases e)).beside (hom.down (Nat.le_of_lt hsz)) (grown_set w4 wr.heap.size k (.int .i64 (-1)))); have hr7 := hide (((hr.out.kept hgrow4 (fun _ e => by cases e)).kept (grown_set w4 wr.heap.size k (.int .i64 (-1))) (fun j hj => by injection hj with hj; omega))); have hgr7 := hide (grown_new (grown_new hgr.out hgrow4 (fun _ e => by cases e)) (grown_set w4 wr.heap.size k (.int .i64 (-1))) (fun j hj => by injection hj with hj; exact .inl (by omega))); have hst7 := hide (show wr.heap.size ≤ (w4.setCell ⟨wr.heap.size, k, none⟩ (.int .i64 (-1))).heap.size by have := hgrow4.size; simp; omega); clear hown4 hgrow4 hom)
            revert hrow7 ho7 hr7 hgr7 hst7
            generalize w4.setCell ⟨wr.heap.size, k, none⟩ (.int .i64 (-1)) = W7
            intro hrow7 ho7 hr7 hgr7 hst7
            obtain ⟨J, hJ, hJl⟩ : ∃ J, Hid ((k + 1) % 3 = J) ∧ J < 3 := ⟨_, hide rfl, Nat.mod_lt _ (by omega)⟩
            obtain ⟨u, hu, hu0, hu1⟩ : ∃ u, Hid (((List.replicate 3 (0 : Int)).set k (-1))[J]? = some u) ∧ -1 ≤ u ∧ u ≤ 0 := by
              have hl : J < ((List.replicate 3 (0 : Int)).set k (-1)).length := by simp; omega
              refine ⟨_, hide (List.getElem?_eq_getElem hl), ?_⟩
              rcases List.mem_or_eq_of_mem_set (List.getElem_mem hl) with h1 | h1
              · have := List.eq_of_mem_replicate h1; omega
              · omega
            obtain ⟨gr, hA, _, hgl2, hcu, hfu⟩ := hrow7.out.at2 hu.out
            injection hA with hA
            injection hA with hA _ _
            subst hA
            have r1 : IntKind.i64.wrap ((k : Int) + 1) = (k : Int) + 1 := IntWalk.i64_in _ (by omega)
            have r2 : IntKind.i64.wrap (u + 1) = u + 1 := IntWalk.i64_in _ (by omega)
            have hne : ¬ 3 = 0 := by omega
            have hJi : (J : Int) < (3 : Int) := by omega
            have ht : ((k : Int) + 1).tmod (3 : Int) = (J : Int) := by
              rw [← hJ.out, Int.tmod_eq_emod_of_nonneg (by omega), Int.natCast_emod]; rfl
            have hrow8 := hide ((hrow7.out.set_ (k := J) (u + 1) (wf_i64 (by omega))).drew)
            have ho8 := hide ((ho7.out.beside hrow7.out (grown_set _ wr.heap.size J (.int .i64 (u + 1)))).up (Below.drew (Below.refl _ _)))
            have hr8 := hide ((hr7.out.kept (grown_set _ wr.heap.size J (.int .i64 (u + 1))) (fun j hj => by injection hj with hj; omega)).drewN 1)
            have hgr8 := hide (only_drewN (grown_new hgr7.out (grown_set _ wr.heap.size J (.int .i64 (u + 1))) (fun j hj => by injection hj with hj; exact .inl (by omega))) 1)
            have hst8 := hst7
            clear hrow7 ho7 hr7 hgr7
            refine wp_region_still_tail 14 (by kernel_rfl) (by kernel_rfl) ?_
            simp only [List.take_succ_cons, List.take_zero, List.drop_succ_cons, List.drop_zero]
            repeat still_step
            refine wpStill_nil ?_
            clear ht r1 r2 hne hJi
            go_wp2_with (at_builtin; refine wpList_appM _ rfl _ _ 44 rfl i1 Try.underlying44 hi1 hy0 hy1 hy2 _ rs rfl (ho8.out.alloc _) _ (((List.replicate 3 0).set k (-1)).set J (u + 1)) (hrow8.out.alloc _) hlo (by have := hst5.out; simp; omega) ⟨_, 0, none⟩ 1 rfl (cell_new (by simp)) (by have := hol.out; omega) ?_; intro A₆ n₆ c₆ w6 ho6 hg6)
            have hn6 : n₆ = k + 1 := by have h1 := ho6.len; rw [List.length_append] at h1; have := hol.out; simp at h1; omega
            subst hn6
            have hr6 := hide (((hr8.out.kept (World.grownBy_alloc _ _ none) (fun _ e => by cases e)).kept hg6 (fun j hj => by have := (ho8.out.lt j hj).1; omega)).more (m' := m + 1 + 6 * (k + 1)) (by omega))
            have hgr6 := hide (grown_new (grown_alloc hgr8.out _) hg6 (fun j hj => .inl (ho8.out.lt j hj).1))
            have ho6 := hide ho6
            have hall6 := hide (show ∀ r ∈ rs ++ [(((List.replicate 3 0).set k (-1)).set J (u + 1))], r.length = 3 from fun r hm => by
              rcases List.mem_append.1 hm with h1 | h1
              · exact hall.out r h1
              · rw [List.mem_singleton.1 h1]; exact setLen _ _ _ (setLen _ _ _ (by simp)))
            clear hg6 ho8 hr8 hgr8 hrow8
            go_wp2_with fail
            go_roundw
            case rel => exact ⟨k + 1, _, _, _, by omega, by go_num, rfl, hall6, ho6, hr6, hgr6⟩
            case measure => simp [intOf]; omega
          · have hxa : (x == 0) = false := by simp; omega
            have hxb : (x == 1) = false := by simp; omega
            go_wp2_with (at_builtin; refine wpList_appM _ rfl _ _ 44 rfl i1 Try.underlying44 hi1 hy0 hy1 hy2 _ rs rfl (ho.out.alloc _) _ l (hrow.out.alloc _) hlo (by have := hst5.out; simp; omega) ⟨_, 0, none⟩ 1 rfl (cell_new (by simp)) (by have := hol.out; omega) ?_; intro A₆ n₆ c₆ w6 ho6 hg6)
            have hn6 : n₆ = k + 1 := by have h1 := ho6.len; rw [List.length_append] at h1; have := hol.out; simp at h1; omega
            subst hn6
            have hr6 := hide (((hr.out.kept (World.grownBy_alloc _ _ none) (fun _ e => by cases e)).kept hg6 (fun j hj => by have := (ho.out.lt j hj).1; omega)).more (m' := m + 1 + 6 * (k + 1)) (by omega))
            have hgr6 := hide (grown_new (grown_alloc hgr.out _) hg6 (fun j hj => .inl (ho.out.lt j hj).1))
            have ho6 := hide ho6
            have hall6 := hide (show ∀ r ∈ rs ++ [l], r.length = 3 from fun r hm => by
              rcases List.mem_append.1 hm with h1 | h1
              · exact hall.out r h1
              · rw [List.mem_singleton.1 h1]; exact hll.out)
            clear hg6 ho hr hgr hrow
            go_wp2_with fail
            go_roundw
            case rel => exact ⟨k + 1, _, _, _, by omega, by go_num, rfl, hall6, ho6, hr6, hgr6⟩
            case measure => simp [intOf]; omega
    · have hkC := hide (show k = 3 by omega)
      have hk1 : 0 < k := by have := hkC.out; omega
      have hk3 : k ≤ 3 := by have := hkC.out; omega
      have hol := hide ho.out.len
      have hr := hide (hr.out.more (m' := m + 19) (by omega))
      go_wp2_with fail
      refine (odd_c g _ q _ hr.out (by omega) hq hq2).mono ?_
      rintro e w2 ⟨b, rfl, hr2, hg2⟩
      have ho2 := hide (ho.out.past hg2 hgl)
      have hr2 := hide hr2
      have hgr2 := hide (grown_new hgr.out hg2 (fun _ _ => .inr rfl))
      clear hg2 ho hr hgr
      cases b with
      | false =>
        go_wp2_with fail
        go_ret
        exact ⟨A, k, c, rs, rfl, ho2.out.matL, hk3, hr2.out.more (by omega), hgr2.out⟩
      | true =>
        go_wp2_with fail
        refine (pick_c g _ 2 _ hr2.out (by omega) (by omega) (by omega)).mono ?_
        rintro e w3 ⟨y, rfl, hp0, hp1, hr3, hg3⟩
        have ho3 := hide (ho2.out.past hg3 hgl)
        have hr3 := hide (hr3.more (m' := m + 40) (by omega))
        have hgr3 := hide (grown_new hgr2.out hg3 (fun _ _ => .inr rfl))
        clear hg3 ho2 hr2 hgr2
        obtain ⟨l, hl⟩ : ∃ l, Hid (rs[0]? = some l) := ⟨_, hide (List.getElem?_eq_getElem (by have := hol.out; omega))⟩
        rcases (show y = 0 ∨ y = 1 by omega) with hy | hy
        · subst hy
          have hll := hide (hall.out l (List.mem_of_getElem? hl.out))
          obtain ⟨u, hu⟩ : ∃ u, Hid (l[2]? = some u) := ⟨_, hide (List.getElem?_eq_getElem (by have := hll.out; omega))⟩
          obtain ⟨g1, c1, gk, ck, hv, hc1, hc2, hf2, hlk, hset⟩ := ho3.out.setIn hl.out hu.out
          injection hv with e1 e2 e3
          subst e1
          clear e2 e3
          rw [hll.out] at hc1
          have ho4 := hide (hset 4 (wf_i64 (by omega)))
          have hr4 := hide (hr3.out.kept (grown_set w3 gk 2 (.int .i64 4)) (fun j hj => by injection hj with hj; omega))
          have hgr4 := hide (grown_new hgr3.out (grown_set w3 gk 2 (.int .i64 4)) (fun j hj => by injection hj with hj; exact .inl (by omega)))
          clear hset
          go_wp2_with fail
          go_ret
          exact ⟨_, k, c, _, rfl, ho4.out.matL, hk3, hr4.out, hgr4.out⟩
        · subst hy
          have hM := hide ho3.out.matL
          have hle := hM.out.le
          have hbig := hM.out.big
          unfold maxLen at hbig
          obtain ⟨b, off, hA, _⟩ := hM.out.cells hk1
          subst hA
          by_cases hc1 : c = 1
          · subst hc1
            have hk0 : k = 1 := by omega
            subst hk0
            go_wp2_with fail
            go_ret
            exact ⟨_, _, _, [], rfl, MatL.empty (by decide) (fun e => by cases e), by omega, hr3.out, hgr3.out⟩
          · have hc2 : 1 < c := by omega
            clear hc1
            go_wp2_with fail
            go_ret
            exact ⟨_, _, _, _, rfl, hM.out.tail hk1, by omega, hr3.out, hgr3.out⟩

end Go.Proofs.Ytffllkmaifjpfaa
