/-
  Laws of chapter 4 walked: FnRuleWays (written by wip/gen_r2.py).
-/
import Derived.Test.YthdelfhfglnhfaaLawAid
import Derived.Test.YthdelfhfglnhfaaDrawCh4
import Derived.Test.YthdelfhfglnhfaaRuleI
import Derived.Test.YthdelfhfglnhfaaRuleX
import Derived.Test.YthdelfhfglnhfaaAidW
import Derived.Test.YthdelfhfglnhfaaRowsC
import Derived.Test.YthdelfhfglnhfaaBackK
namespace Go.Proofs.Ythdelfhfglnhfaa
open Go.RowKit
set_option linter.unusedVariables false

set_option maxHeartbeats 6400000 in
theorem lawRuleWays {A : Option Addr} {n c : Nat} {bs : List Int} {w : World} (h : Bts w w.heap.size A n c bs) :
    Calls Try.prog 6 #[.slice A n c] w fun e w' => e = .returned (.bool true) ∧ Below w.heap.size w w' := by
  have hbig := h.big
  have hle := h.le
  unfold maxLen at hbig
  by_cases hn : 1048576 < n
  · go_enter Try.func6, Try.ntmps6
    go_wp2
    go_ret
    exact ⟨rfl, Below.refl _ _⟩
  · have hD := hide (DrawRuleWays_c A n c bs w h)
    obtain ⟨i0, hi, hz0, hz1, hz2⟩ := info_parts infoInt
    go_enter Try.func6, Try.ntmps6
    go_wp2_with fail
    refine hD.out.mono ?_
    rintro e w0 ⟨Azs, nzs, czs, zs, Ars, nrs, crs, rs, Aws, nws, cws, ws, rfl, hzzs, hnzs, hzrs, hnrs, hzws, hnws, hb⟩
    have hlzs := hide hzzs.len
    replace hzzs := hide hzzs
    have hlrs := hide hzrs.len
    replace hzrs := hide hzrs
    have hlws := hide hzws.len
    replace hzws := hide hzws
    replace hb := hide hb
    clear hD
    go_wp2_with fail
    refine (ruleWays_impl _ _ _ _ _ _ _ _ _ _ _ _ zs rs ws _ hzzs.out hzrs.out hzws.out (Nat.le_refl _) (Nat.le_refl _) (Nat.le_refl _)).mono ?_
    rintro e w1 ⟨rfl, hq⟩
    replace hzzs := hide (hzzs.out.up hq)
    replace hzrs := hide (hzrs.out.up hq)
    replace hzws := hide (hzws.out.up hq)
    replace hb := hide (upB hb.out (hq))
    clear hq
    go_wp2_with fail
    refine (ruleWays_spec _ _ _ _ _ _ _ _ _ _ _ _ zs rs ws _ hzzs.out hzrs.out hzws.out (Nat.le_refl _) (Nat.le_refl _) (Nat.le_refl _)).mono ?_
    rintro e w2 ⟨rfl, hq⟩
    replace hzzs := hide (hzzs.out.up hq)
    replace hzrs := hide (hzrs.out.up hq)
    replace hzws := hide (hzws.out.up hq)
    replace hb := hide (upB hb.out (hq))
    clear hq
    by_cases hok : afterC zs rs ws = true
    · obtain ⟨hu, hz10, hR, hw6, hwm⟩ := afterC_yes hok
      rw [ruleWays_yes hok]
      have hpos := rways_nonneg rs zs ws
      have hC1 : 1 ≤ nzs := by have := hR.pos; have := hlzs.out; omega
      have hC3 : nzs ≤ 3 := by have := hR.le; have := hlzs.out; omega
      have hp3 : afterC zs rs ws = true := hok
      unfold afterC begun at hp3
      simp only [Bool.and_eq_true] at hp3
      rw [hlzs.out] at hp3
      have hr1 := ruleOk_mk (noRule_rule hC1 hC3)
      have hr2 := ruleOk_mk (outRule_rule hC1 hC3)
      have hv1 : ruleWays zs (noRule nzs) ws = bw zs ws := by
        rw [ruleWays_yes (afterC_all hlzs.out hp3.1.1 hr1 hp3.2)]
        exact rways_no hlzs.out (fun z hz => by have := hz10 z hz; omega) (fun x hx => by have := hwm x hx; have := hlzs.out; omega)
      have hv2 : ruleWays zs (outRule nzs) ws = ways zs ws := by
        rw [ruleWays_yes (afterC_all hlzs.out hp3.1.1 hr2 hp3.2)]
        exact rways_out hlzs.out (fun x hx => by have := hwm x hx; have := hlzs.out; omega)
      have hb1 := hide (show backWays zs ws = bw zs ws by unfold backWays; rw [hu, hlzs.out, hp3.2]; rfl)
      have hb2 := hide (show wordWays zs ws = ways zs ws by unfold wordWays; rw [hu, hlzs.out, hp3.2]; rfl)
      have hv1 := hide hv1
      have hv2 := hide hv2
      obtain ⟨V, hV⟩ : ∃ V, Hid (rways rs zs ws = V) := ⟨_, hide rfl⟩
      rw [hV.out] at hpos ⊢
      clear hu hz10 hR hw6 hwm hok hp3 hr1 hr2
      skip
      have ho1 := hide (((ownM_empty (w := w2) (lo := w2.heap.size) (hi := w2.heap.size) (Nat.le_refl _)).alloc (.cells #[] 28)).wide (hi' := ((w2.alloc (.cells #[] 28)).alloc (.cells #[] 28)).heap.size) (by simp; omega))
      have ho2 := hide (ownM_empty' (w := w2.alloc (.cells #[] 28)) (lo := w2.heap.size) (hi := ((w2.alloc (.cells #[] 28)).alloc (.cells #[] 28)).heap.size) (g := w2.heap.size + 1) (by simp) (by simp))
      have hbq := hide ((al w2 (.cells #[] 28)).alloc (by simp) (.cells #[] 28))
      obtain ⟨i1, hi1, hy0, hy1, hy2⟩ := info_parts infoRow
      go_wp2_with fail
      go_loopw [7, 8, 9] (fun v1 v2 i wr => ∃ k g1 c1 g2 c2 : Nat, k ≤ nzs ∧ i = .int .i64 k ∧ v1 = .slice (some ⟨g1, 0, none⟩) k c1 ∧ v2 = .slice (some ⟨g2, 0, none⟩) k c2 ∧ Hid (g1 ≠ g2) ∧ Hid (OwnM wr w2.heap.size wr.heap.size (.slice (some ⟨g1, 0, none⟩) k c1) (List.replicate k (List.replicate nzs 0))) ∧ Hid (OwnM wr w2.heap.size wr.heap.size (.slice (some ⟨g2, 0, none⟩) k c2) ((outRule nzs).take k)) ∧ Hid (Below w2.heap.size w2 wr)) (fun _ _ i _ => nzs - (intOf i).toNat)
      case atStart => exact ⟨0, _, _, _, _, Nat.zero_le _, rfl, rfl, rfl, hide (by simp), ho1, ho2, hbq⟩
      case round =>
        clear ho1 ho2 hbq
        obtain ⟨k, g1, c1, g2, c2, hk, rfl, rfl, rfl, hne, ho1, ho2, hbq⟩ := hrel
        have hbs := hbq.out.size
        by_cases hlt : k < nzs
        · have hrep := hide (show (List.replicate nzs (0 : Int))[k]? = some 0 by rw [List.getElem?_replicate, if_pos hlt])
          have hlen2 := hide (show ((outRule nzs).take k).length = k by simp [outRule]; omega)
          have hgl1 := (ho1.out.lt g1 rfl)
          have hgl2 := (ho2.out.lt g2 rfl)
          go_wp2_with (first
            | (at_make; refine wpList_make_full _ rfl _ _ 28 rfl wr.heap.size 3 i0 (.int .i64 0) 1 Try.underlying28 hi hz0 hz1 .i64 .i64 _ _ nzs rfl rfl rfl rfl (by rw [hz2]; omega) (by unfold maxLen; omega) (Nat.le_refl _) ?_; intro wa hown2 hgrow2; have hrA := hide (own_made hown2); have hoA := hide (ho1.out.kept hgrow2 (fun _ e => by cases e)); have hoB := hide (ho2.out.kept hgrow2 (fun _ e => by cases e)); have hbA := hide (hbq.out.grown hgrow2 hbs (fun _ e => by cases e)); have hsA := hgrow2.size; clear hown2 hgrow2)
            | (at_builtin; refine wpList_appM2 _ rfl _ _ 23 rfl i1 Try.underlying23 hi1 hy0 hy1 hy2 _ (List.replicate k (List.replicate nzs 0)) rfl (hoA.out.alloc _) _ (List.replicate nzs 0) (hrA.out.alloc _) hbs (by simp; omega) ⟨_, 0, none⟩ 1 rfl (cell_new (by simp)) k (by simp) (by omega) ?_; intro g3 c3 wb ho3 hg3 hgg3; have hoB3 := hide ((hoB.out.alloc _).kept2 (hoA.out.alloc _) (own_other hne.out) hg3); have hbB := hide ((hbA.out.alloc (by omega) _).grown hg3 (by simp; omega) (fun j hj => (hoA.out.lt j hj).1)); have hsB := hg3.size; have hne3 := hide (new_other hgg3 hne.out (by simp; omega)); have hoA3 := hide ho3; clear hg3 hgg3 ho3 hoA hoB hrA hbA)
            | (at_make; refine wpList_make_full _ rfl _ _ 28 rfl wb.heap.size 3 i0 (.int .i64 0) 1 Try.underlying28 hi hz0 hz1 .i64 .i64 _ _ nzs rfl rfl rfl rfl (by rw [hz2]; omega) (by unfold maxLen; omega) (Nat.le_refl _) ?_; intro wc hown4 hgrow4; have hom := own_made hown4; obtain ⟨g5, hA5, _, hgl5, hcy5, hfy5⟩ := hom.at2 hrep.out; injection hA5 with hA5; injection hA5 with hA5 _ _; subst hA5; have hsB2 : wr.heap.size ≤ wb.heap.size := (by simp at hsB; omega); have hrB := hide (hom.set_ (k := k) (-1) (wf_i64 (by omega))); have hoA4 := hide ((hoA3.out.kept hgrow4 (fun _ e => by cases e)).beside hom (grown_set wc wb.heap.size k (.int .i64 (-1)))); have hoB4 := hide (((hoB3.out.wide hsB2).kept hgrow4 (fun _ e => by cases e)).beside hom (grown_set wc wb.heap.size k (.int .i64 (-1)))); have hbC := hide ((hbB.out.grown hgrow4 (by omega) (fun _ e => by cases e)).setCell (p := ⟨wb.heap.size, k, none⟩) (by simp; omega) (.int .i64 (-1))); have hsC := hgrow4.size; have hgl3 := (hoA4.out.lt g3 rfl).2; simp at hgl3; clear hown4 hgrow4 hom hoA3 hoB3 hbB)
            | (at_builtin; refine wpList_appM2 _ rfl _ _ 23 rfl i1 Try.underlying23 hi1 hy0 hy1 hy2 _ ((outRule nzs).take k) rfl (hoB4.out.alloc _) _ ((List.replicate nzs 0).set k (-1)) (hrB.out.alloc _) (by omega) (by simp; omega) ⟨_, 0, none⟩ 1 rfl (cell_new (by simp)) k hlen2.out (by omega) ?_; intro g6 c6 wd ho6 hg6 hgg6; have hoA6 := hide (((hoA4.out.alloc _).kept2 (hoB4.out.alloc _) (own_other (fun e => hne3.out e.symm)) hg6).wide (hi' := wd.heap.size) (by have := hg6.size; simp at this; omega)); have hbD := hide ((hbC.out.alloc (by simp; omega) _).grown hg6 (by simp; omega) (fun j hj => (hoB4.out.lt j hj).1)); have hne6 := hide (fun e => new_other hgg6 (fun e => hne3.out e.symm) (by simp; omega) (Eq.symm e)); have hoB6 := hide ho6; clear hg6 hgg6 ho6 hoA4 hoB4 hrB hbC))
          have hoA7 := hide (show OwnM wd w2.heap.size wd.heap.size (.slice (some ⟨g3, 0, none⟩) (k + 1) c3) (List.replicate (k + 1) (List.replicate nzs 0)) by
            have := hoA6.out
            rwa [← List.replicate_succ'] at this)
          have hoB7 := hide (show OwnM wd w2.heap.size wd.heap.size (.slice (some ⟨g6, 0, none⟩) (k + 1) c6) ((outRule nzs).take (k + 1)) by
            rw [take_succM (outRule_at hlt)]; exact hoB6.out)
          clear hoA6 hoB6
          go_wp2_with fail
          go_roundw
          case rel => exact ⟨k + 1, _, _, _, _, by omega, by go_num, rfl, rfl, hne6, hoA7, hoB7, hbD⟩
          case measure => simp [intOf]; omega
        · obtain ⟨kk, hkk⟩ : ∃ m, m = k := ⟨_, rfl⟩
          have hkC := hide (show k = nzs by omega)
          obtain rfl : k = nzs := hkC.out
          clear hkk kk
          obtain ⟨nzs, hk0⟩ : ∃ m, m = k := ⟨_, rfl⟩
          subst hk0
          replace hzzs := hide (hzzs.out.up hbq.out)
          replace hzrs := hide (hzrs.out.up hbq.out)
          replace hzws := hide (hzws.out.up hbq.out)
          replace hb := hide (upB hb.out (hbq.out))
          have hznn := hide (show Mat wr wr.heap.size (some ⟨g1, 0, none⟩) nzs c1 (noRule nzs) from ho1.out.mat)
          have hzls := hide (show Mat wr wr.heap.size (some ⟨g2, 0, none⟩) nzs c2 (outRule nzs) from by
            have := ho2.out.mat
            rwa [List.take_of_length_le (by simp [outRule])] at this)
          clear ho1 ho2 hbq
          go_wp2_with fail
          refine (ruleWays_impl _ _ _ _ _ _ _ _ _ _ _ _ zs (noRule nzs) ws _ hzzs.out hznn.out hzws.out (Nat.le_refl _) (Nat.le_refl _) (Nat.le_refl _)).mono ?_
          rw [hv1.out]
          rintro e w3 ⟨rfl, hq⟩
          replace hzzs := hide (hzzs.out.up hq)
          replace hzrs := hide (hzrs.out.up hq)
          replace hzws := hide (hzws.out.up hq)
          replace hznn := hide (hznn.out.up hq)
          replace hzls := hide (hzls.out.up hq)
          replace hb := hide (upB hb.out (hq))
          clear hq
          go_wp2_with fail
          refine (backWays_impl _ _ _ _ _ _ _ _ zs ws _ hzzs.out hzws.out (Nat.le_refl _) (Nat.le_refl _)).mono ?_
          rw [hb1.out]
          rintro e w4 ⟨rfl, hq⟩
          replace hzzs := hide (hzzs.out.up hq)
          replace hzrs := hide (hzrs.out.up hq)
          replace hzws := hide (hzws.out.up hq)
          replace hznn := hide (hznn.out.up hq)
          replace hzls := hide (hzls.out.up hq)
          replace hb := hide (upB hb.out (hq))
          clear hq
          go_wp2_with fail
          refine (ruleWays_impl _ _ _ _ _ _ _ _ _ _ _ _ zs (outRule nzs) ws _ hzzs.out hzls.out hzws.out (Nat.le_refl _) (Nat.le_refl _) (Nat.le_refl _)).mono ?_
          rw [hv2.out]
          rintro e w5 ⟨rfl, hq⟩
          replace hzzs := hide (hzzs.out.up hq)
          replace hzrs := hide (hzrs.out.up hq)
          replace hzws := hide (hzws.out.up hq)
          replace hznn := hide (hznn.out.up hq)
          replace hzls := hide (hzls.out.up hq)
          replace hb := hide (upB hb.out (hq))
          clear hq
          go_wp2_with fail
          refine (wordWays_impl _ _ _ _ _ _ _ _ zs ws _ hzzs.out hzws.out (Nat.le_refl _) (Nat.le_refl _)).mono ?_
          rw [hb2.out]
          rintro e w6 ⟨rfl, hq⟩
          replace hzzs := hide (hzzs.out.up hq)
          replace hzrs := hide (hzrs.out.up hq)
          replace hzws := hide (hzws.out.up hq)
          replace hznn := hide (hznn.out.up hq)
          replace hzls := hide (hzls.out.up hq)
          replace hb := hide (upB hb.out (hq))
          clear hq
          go_wp2_with fail
          go_ret
          exact ⟨by simp, hb.out⟩
    · have hok : afterC zs rs ws = false := by simpa using hok
      rw [ruleWays_no hok]
      clear hok
      go_wp2_with fail
      refine (alive_c _).mono ?_
      rintro e wz ⟨rfl, hq⟩
      go_wp2_with fail
      go_ret
      exact ⟨by simp, upB hb.out hq⟩
end Go.Proofs.Ythdelfhfglnhfaa
