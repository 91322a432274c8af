/-
  Laws of chapter 5 walked: FnSameCounts (written by wip/gen_s3.py).
-/
import Derived.Test.YtffllkmaifjpfadZdraw
import Derived.Test.YtffllkmaifjpfadZruled
import Derived.Test.YtffllkmaifjpfadSameI
import Derived.Test.YtffllkmaifjpfadZsame
import Derived.Test.YtffllkmaifjpfadZrows
import Derived.Test.YtffllkmaifjpfadRuleI
import Derived.Test.YtffllkmaifjpfadZback
import Derived.Test.YtffllkmaifjpfadZimp
import Derived.Test.YtffllkmaifjpfadZoks
namespace Go.Proofs.Ytffllkmaifjpfad
open Go.RowKit
set_option linter.unusedVariables false

set_option maxHeartbeats 6400000 in
theorem lawSameCounts {A : Option Addr} {n c : Nat} {bs : List Int} {w : World} (h : Bts w w.heap.size A n c bs) :
    Calls Try.prog 3 #[.slice A n c] w fun e w' => e = .returned (.bool true) ∧ Below w.heap.size w w' := by
  have hbig := h.big
  have hle := h.le
  unfold maxLen at hbig
  by_cases hn : 1048576 < n
  · go_enter Try.func3, Try.ntmps3
    go_wp2
    go_ret
    exact ⟨rfl, Below.refl _ _⟩
  · have hD := hide (DrawSameCounts_c A n c bs w h)
    obtain ⟨i0, hi, hz0, hz1, hz2⟩ := info_parts infoInt
    go_enter Try.func3, Try.ntmps3
    go_wp2_with fail
    refine hD.out.mono ?_
    rintro e w0 ⟨Azs, nzs, czs, zs, Acs, ncs, ccs, cs, s, rfl, hzzs, hnzs, hzcs, hncs, hlos, hhis, hb⟩
    have hlzs := hide hzzs.len
    replace hzzs := hide hzzs
    have hlcs := hide hzcs.len
    replace hzcs := hide hzcs
    replace hb := hide hb
    clear hD
    have hws := wf_i64 (z := s) (by omega)
    go_wp2_with fail
    refine (sameCounts_impl _ _ _ _ _ _ _ _ zs cs s _ hzzs.out hzcs.out (Nat.le_refl _) (Nat.le_refl _) hws).mono ?_
    rintro e w1 ⟨rfl, hq⟩
    replace hzzs := hide (hzzs.out.up hq)
    replace hzcs := hide (hzcs.out.up hq)
    replace hb := hide (upB hb.out (hq))
    clear hq
    go_wp2_with fail
    refine (quietB (sameCounts_spec _ _ _ _ _ _ _ _ zs cs s _ hzzs.out hzcs.out)).mono ?_
    rintro e w2 ⟨rfl, hq⟩
    replace hzzs := hide (hzzs.out.up hq)
    replace hzcs := hide (hzcs.out.up hq)
    replace hb := hide (upB hb.out (hq))
    clear hq
    by_cases hok : (startOk zs && countRowOk (zs.length : Int) cs && stepB s) = true
    · have he : sameCounts zs s cs = mult cs * risK s zs cs cs.length := by unfold sameCounts; rw [if_pos hok]
      obtain ⟨hok2, hsB⟩ := Bool.and_eq_true_iff.1 hok
      obtain ⟨hst, hr⟩ := Bool.and_eq_true_iff.1 hok2
      obtain ⟨s0, s1⟩ := stepB_yes hsB
      obtain ⟨hu, hz10⟩ := startOk_yes hst
      obtain ⟨m1, m2b⟩ := mult_bound hr
      obtain ⟨k1, k2, k3, k4, k5⟩ := countRowOk_yes hr
      have hnn : nzs = ncs := by have := hlcs.out; have := hlzs.out; omega
      subst hnn
      have hn1 : 1 ≤ nzs := by have := hlcs.out; omega
      have hn3 : nzs ≤ 3 := by have := hlcs.out; omega
      have hR := sameR_rule (C := nzs) (s := s) hn1 hn3 ⟨s0, s1⟩
      have hEc := hide (fun (k : Nat) x (hx : cs[k]? = some x) => k4 x (List.mem_of_getElem? hx))
      obtain ⟨p0, p1⟩ := risK_bound s1 hz10 hr cs.length
      have hsw := sorted_word hr
      have hsw2 := hsw
      rw [← wordOk_reverse] at hsw2
      have hcnt := cntL_sorted hr
      rw [hlcs.out] at hcnt hsw hsw2
      have hsm : ∀ x ∈ sorted cs nzs, 0 ≤ x ∧ x < (nzs : Int) := sorted_mem cs nzs
      have hRW : ∀ ws : List Int, wordOk (zs.length : Int) ws = true → (∀ x ∈ ws, 0 ≤ x ∧ x < (nzs : Int)) → cntL nzs ws = cs → ruleWays zs (sameR nzs s) ws = risK s zs cs cs.length := fun ws h1 h2 h3 => by
        unfold ruleWays afterC begun
        rw [hst, hlzs.out, ruleOk_mk hR, ← hlzs.out, h1]
        show rways (sameR zs.length s) zs ws = _
        rw [hlzs.out, rways_same hlzs.out h2, h3, hlcs.out]
      have hW1 := hide (hRW _ hsw hsm hcnt)
      have hW2 := hide (hRW _ hsw2 (fun x hx => hsm x (by simpa using hx)) (by rw [cntL_reverse]; exact hcnt))
      have hWW := hide (show wordsWith (nzs : Int) cs = mult cs by unfold wordsWith; rw [show (nzs : Int) = (zs.length : Int) by rw [hlzs.out], if_pos hr])
      have hSR := hide (sameRule_yes (C := nzs) (s := s) ⟨hn1, hn3⟩ ⟨s0, s1⟩)
      have hSL := hide (fun (k : Nat) (j : Nat) x (hx : cs[k]? = some x) (hj : (j : Int) ≤ x) => show (sorted cs k ++ List.replicate j (k : Int)).length ≤ 6 by
        have h1 := sorted_len k4 k
        have h2 := isum_take_succ hx
        have h3 := (isum_bounds 6 (cs.drop (k + 1)) (fun x hx => k4 x (List.mem_of_mem_drop hx))).1
        have e := isum_append (cs.take (k + 1)) (cs.drop (k + 1))
        rw [List.take_append_drop] at e
        rw [List.length_append, List.length_replicate]; omega)
      have hSS := hide (fun (k : Nat) x (hx : cs[k]? = some x) => show sorted cs k ++ List.replicate x.toNat (k : Int) = sorted cs (k + 1) by simp only [sorted]; rw [hx]; rfl)
      rw [he]
      obtain ⟨M, hM⟩ : ∃ M, Hid (mult cs = M) := ⟨_, hide rfl⟩
      obtain ⟨P, hP⟩ : ∃ P, Hid (risK s zs cs cs.length = P) := ⟨_, hide rfl⟩
      rw [hM.out] at m1 m2b hWW ⊢
      rw [hP.out] at p0 p1 hW1 hW2 ⊢
      obtain ⟨v0, v1⟩ := mul_bound m1 m2b p0 p1
      have hn0 : ¬ M * P < 0 := by omega
      clear he hok hok2 hsB hst hr hu hz10 k1 k2 k3 k4 k5 hsw hsw2 hcnt hR hRW hsm
      have how := hide ((own_empty (w := w2) (base := w2.heap.size) (Nat.le_refl _)).alloc (.cells #[] 3))
      have hwl := hide (show ∀ g, (Value.slice (some ⟨w2.heap.size, 0, none⟩) 0 0).ownBlock = some g → w2.heap.size ≤ g ∧ g < w2.heap.size + 1 from fun g hg => by simp [Value.ownBlock] at hg; omega)
      have hob := hide (show Own ((w2.alloc (.cells #[] 3)).alloc (.cells #[] 3)) (w2.heap.size + 1) (.slice (some ⟨w2.heap.size + 1, 0, none⟩) 0 0) [] by
        have := own_empty (w := w2.alloc (.cells #[] 3)) (base := w2.heap.size + 1) (by simp)
        simpa using this)
      have hq := hide ((al w2 (.cells #[] 3)).alloc (by simp) (.cells #[] 3))
      go_wp2_with fail
      go_loopw [7, 8, 9] (fun v u i wr => ∃ k M : Nat, ∃ B d f B' d' f', k ≤ nzs ∧ i = .int .i64 k ∧ v = .slice B d f ∧ u = .slice B' d' f' ∧ M ≤ wr.heap.size ∧ Hid (Own wr w2.heap.size (.slice B d f) (sorted cs k)) ∧ Hid (∀ g, (Value.slice B d f).ownBlock = some g → w2.heap.size ≤ g ∧ g < M) ∧ Hid (Own wr M (.slice B' d' f') (sorted cs k).reverse) ∧ Hid (Below w2.heap.size w2 wr)) (fun _ _ i _ => nzs - (intOf i).toNat)
      case atStart => exact ⟨0, w2.heap.size + 1, _, _, _, _, _, _, Nat.zero_le _, rfl, rfl, rfl, by simp, how, hwl, hob, hq⟩
      case round =>
        clear how hq hwl hob
        obtain ⟨k, M1, B, d, f, B', d', f', hk, rfl, rfl, rfl, hMs, how, hwl, hob, hq⟩ := hrel
        by_cases hlt : k < nzs
        · obtain ⟨b, off, x, rfl, hbB, hx, hcell⟩ := (hzcs.out.up hq.out).look hlt
          obtain ⟨x0, x6⟩ := hEc.out k x hx.out
          have how := hide (show Own wr w2.heap.size (.slice B d f) (sorted cs k ++ List.replicate 0 (k : Int)) by simpa using how.out)
          have hob := hide (show Own wr M1 (.slice B' d' f') (sorted cs k ++ List.replicate 0 (k : Int)).reverse by simpa using hob.out)
          clear hcell
          go_wp2_with fail
          go_loopw [7, 8, 10] (fun v u i wr => ∃ j M : Nat, ∃ B d f B' d' f', (j : Int) ≤ x ∧ i = .int .i64 j ∧ v = .slice B d f ∧ u = .slice B' d' f' ∧ M ≤ wr.heap.size ∧ Hid (Own wr w2.heap.size (.slice B d f) (sorted cs k ++ List.replicate j (k : Int))) ∧ Hid (∀ g, (Value.slice B d f).ownBlock = some g → w2.heap.size ≤ g ∧ g < M) ∧ Hid (Own wr M (.slice B' d' f') (sorted cs k ++ List.replicate j (k : Int)).reverse) ∧ Hid (Below w2.heap.size w2 wr)) (fun _ _ i _ => (x - intOf i).toNat)
          case atStart => exact ⟨0, M1, _, _, _, _, _, _, x0, rfl, rfl, rfl, hMs, how, hwl, hob, hq⟩
          case round =>
            clear how hq hwl hob hMs
            obtain ⟨j, M1, B, d, f, B', d', f', hj, rfl, rfl, rfl, hMs, how, hwl, hob, hq⟩ := hrel
            obtain ⟨b2, off2, x2, hA2, hbB2, hx2, hcell⟩ := (hzcs.out.up hq.out).look hlt
            injection hA2 with hA2
            injection hA2 with e1 e2 _
            subst e1; subst e2
            obtain rfl : x2 = x := by have h1 := hx.out; have h2 := hx2.out; rw [h1] at h2; injection h2 with h2; exact h2.symm
            by_cases hjx : (j : Int) < x2
            · have hs := hq.out.size
              have hlen := hide (hSL.out k j x2 hx.out hj)
              have hkw := hide (wf_i64 (z := (k : Int)) (by omega))
              have hld := hide hob.out.len
              go_wp2_with (first
                | (at_builtin; refine wpList_app _ rfl _ _ 23 rfl i0 Try.underlying23 hi hz0 hz1 hz2 _ (sorted cs k ++ List.replicate j (k : Int)) rfl (how.out.alloc _) _ 1 1 _ [(k : Int)] rfl (ints_lit1 hkw.out) (by simp; omega) (by have := hlen.out; simp only [List.length_append] at this ⊢; omega) ?_; intro A₃ n₃ c₃ w3 ho3 hg3; have hob3 := hide ((hob.out.alloc (.cells #[.int .i64 (k : Int)] 3)).kept hg3 (apart (hob.out.alloc (.cells #[.int .i64 (k : Int)] 3)).row.lt hwl.out (.inr (Nat.le_refl _)))); have hq3 := hide ((hq.out.alloc hs (.cells #[.int .i64 (k : Int)] 3)).grown hg3 (by simp; omega) (fun i hi => (how.out.row.lt i hi).1)); have hs3 := hg3.size; have ho3 := hide ho3; clear hg3)
                | (at_builtin; refine wpList_app _ rfl _ _ 23 rfl i0 Try.underlying23 hi hz0 hz1 hz2 _ [(k : Int)] rfl (ints_lit [(k : Int)] (by intro y hy; simp at hy; subst hy; exact hkw.out) (by simp) rfl) _ d' f' _ (sorted cs k ++ List.replicate j (k : Int)).reverse rfl (hob3.out.alloc _).ints (by simp) (by have h1 := hld.out; have h2 := hlen.out; rw [List.length_reverse] at h1; rw [h1]; simp only [List.length_cons, List.length_nil]; omega) ?_; intro A₄ n₄ c₄ w4 ho4 hg4))
              have hq34 := al_grown hg4 (Nat.le_refl _)
              have hwl4 := hide (show ∀ g, (Value.slice A₃ n₃ c₃).ownBlock = some g → w2.heap.size ≤ g ∧ g < w3.heap.size from ho3.out.row.lt)
              have ho5 := hide (show Own w4 w2.heap.size (.slice A₃ n₃ c₃) (sorted cs k ++ List.replicate (j + 1) (k : Int)) by
                rw [List.replicate_succ', ← List.append_assoc]; exact ho3.out.up hq34)
              have ho6 := hide (show Own w4 w3.heap.size (.slice A₄ n₄ c₄) (sorted cs k ++ List.replicate (j + 1) (k : Int)).reverse by
                rw [List.replicate_succ', ← List.append_assoc, List.reverse_append]
                exact ho4)
              have hq5 := hide (upB hq3.out hq34)
              have hs4 := hq34.size
              clear hg4 how hq hcell ho3 ho4 hob hob3 hq3 hwl
              go_wp2
              go_roundw
              case rel => exact ⟨j + 1, w3.heap.size, _, _, _, _, _, _, by omega, by go_num, rfl, rfl, hs4, ho5, hwl4, ho6, hq5⟩
              case measure => simp [intOf]; omega
            · have hjn : j = x2.toNat := by omega
              have how := hide (show Own wr w2.heap.size (.slice B d f) (sorted cs (k + 1)) by
                rw [← hSS.out k x2 hx.out, ← hjn]; exact how.out)
              have hob := hide (show Own wr M1 (.slice B' d' f') (sorted cs (k + 1)).reverse by
                rw [← hSS.out k x2 hx.out, ← hjn]; exact hob.out)
              go_wp2_with fail
              go_roundw
              case rel => exact ⟨k + 1, M1, _, _, _, _, _, _, by omega, by go_num, rfl, rfl, hMs, how, hwl, hob, hq⟩
              case measure => simp [intOf]; omega
        · obtain rfl : k = nzs := by omega
          replace hzzs := hide (hzzs.out.up hq.out)
          replace hzcs := hide (hzcs.out.up hq.out)
          replace hb := hide (upB hb.out hq.out)
          have howd := hide (how.out.down (Nat.zero_le _))
          have hobk := hide (hob.out.down (Nat.zero_le _))
          clear how hq hob hwl
          go_wp2_with fail
          refine (sameRule_impl (k : Int) s _ hws).mono ?_
          rintro e w3 ⟨Ars, nrs, crs, rfl, ho, hq⟩
          replace hzzs := hide (hzzs.out.up hq)
          replace hzcs := hide (hzcs.out.up hq)
          replace howd := hide (howd.out.up hq)
          replace hobk := hide (hobk.out.up hq)
          replace hb := hide (upB hb.out (hq))
          have hzrs := hide ho.mat
          have hlrs := hide hzrs.out.len
          clear hq ho
          rw [hSR.out] at hzrs hlrs
          go_wp2_with fail
          refine (wordsWith_impl (k : Int) _ _ _ _ cs _ hzcs.out (Nat.le_refl _)).mono ?_
          rw [hWW.out]
          rintro e w4 ⟨rfl, hq⟩
          replace hzzs := hide (hzzs.out.up hq)
          replace hzcs := hide (hzcs.out.up hq)
          replace hzrs := hide (hzrs.out.up hq)
          replace howd := hide (howd.out.up hq)
          replace hobk := hide (hobk.out.up hq)
          replace hb := hide (upB hb.out (hq))
          clear hq
          go_wp2_with fail
          refine (ruleWays_impl _ _ _ _ _ _ _ _ _ _ _ _ zs (sameR k s) (sorted cs k) _ hzzs.out hzrs.out howd.out.ints (Nat.le_refl _) (Nat.le_refl _) (Nat.le_refl _)).mono ?_
          rw [hW1.out]
          rintro e w5 ⟨rfl, hq⟩
          replace hzzs := hide (hzzs.out.up hq)
          replace hzcs := hide (hzcs.out.up hq)
          replace hzrs := hide (hzrs.out.up hq)
          replace howd := hide (howd.out.up hq)
          replace hobk := hide (hobk.out.up hq)
          replace hb := hide (upB hb.out (hq))
          clear hq
          go_wp2_with fail
          refine (ruleWays_impl _ _ _ _ _ _ _ _ _ _ _ _ zs (sameR k s) (sorted cs k).reverse _ hzzs.out hzrs.out hobk.out.ints (Nat.le_refl _) (Nat.le_refl _) (Nat.le_refl _)).mono ?_
          rw [hW2.out]
          rintro e w6 ⟨rfl, hq⟩
          replace hzzs := hide (hzzs.out.up hq)
          replace hzcs := hide (hzcs.out.up hq)
          replace hzrs := hide (hzrs.out.up hq)
          replace howd := hide (howd.out.up hq)
          replace hobk := hide (hobk.out.up hq)
          replace hb := hide (upB hb.out (hq))
          clear hq
          go_wp2_with fail
          go_ret
          exact ⟨by simp, hb.out⟩
    · have he : sameCounts zs s cs = -1 := by unfold sameCounts; rw [if_neg hok]
      rw [he]
      clear he hok
      go_wp2_with fail
      refine (alive_c _).mono ?_
      rintro e wz ⟨rfl, hq⟩
      go_wp2_with fail
      go_ret
      exact ⟨by simp, upB hb.out hq⟩
end Go.Proofs.Ytffllkmaifjpfad
