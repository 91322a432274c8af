/-
  Laws of chapter 3 walked: FnSameTwice (written by wip/gen_b3.py).
-/
import Derived.Test.YtffllkmaifjpfadZdraw
import Derived.Test.YtffllkmaifjpfadZback
namespace Go.Proofs.Ytffllkmaifjpfad
open Go.RowKit
set_option linter.unusedVariables false

set_option maxHeartbeats 3200000 in
theorem lawSameTwice {A : Option Addr} {n c : Nat} {bs : List Int} {w : World} (h : Bts w w.heap.size A n c bs) :
    Calls Try.prog 5 #[.slice A n c] w fun e w' => e = .returned (.bool true) ∧ Below w.heap.size w w' := by
  have hbig := h.big
  have hle := h.le
  unfold maxLen at hbig
  by_cases hn : 1048576 < n
  · go_enter Try.func5, Try.ntmps5
    go_wp2
    go_ret
    exact ⟨rfl, Below.refl _ _⟩
  · have hD := hide (DrawSameTwice_c A n c bs w h)
    obtain ⟨i0, hi, hz0, hz1, hz2⟩ := info_parts infoInt
    go_enter Try.func5, Try.ntmps5
    go_wp2_with fail
    refine hD.out.mono ?_
    rintro e w0 ⟨Azs, nzs, czs, zs, rfl, hzzs, hnzs, hb⟩
    have hlzs := hide hzzs.len
    replace hzzs := hide hzzs
    replace hb := hide hb
    clear hD
    go_wp2_with fail
    refine (sameTwice_impl _ _ _ _ zs _ hzzs.out (Nat.le_refl _)).mono ?_
    rintro e w1 ⟨rfl, hq⟩
    replace hzzs := hide (hzzs.out.up hq)
    replace hb := hide (upB hb.out (hq))
    clear hq
    go_wp2_with fail
    refine (quietB (sameTwice_spec _ _ _ _ zs _ hzzs.out)).mono ?_
    rintro e w2 ⟨rfl, hq⟩
    replace hzzs := hide (hzzs.out.up hq)
    replace hb := hide (upB hb.out (hq))
    clear hq
    by_cases hok : urnOk zs = true
    · have he : sameTwice zs = sqSum zs := by unfold sameTwice; rw [if_pos hok]
      rw [he]
      have hn3 := urnOk_size hok
      rw [hlzs.out] at hn3
      obtain ⟨hn1, hn3⟩ := hn3
      obtain ⟨t0, t1⟩ := urnOk_sum hok
      have hTo := hide (totalF_ok hok)
      have hSA := hide (sq_same zs)
      obtain ⟨q1, q2⟩ := sq_least hok
      rw [hlzs.out] at q1 q2
      obtain ⟨n0, n1⟩ := sqSum_take hok nzs
      rw [List.take_of_length_le (by have := hlzs.out; omega)] at n0 n1
      have hEl := hide (fun (k : Nat) z (hx : zs[k]? = some z) => urnOk_elem hok hx)
      have hCW := hide (fun (k : Nat) z (hx : zs[k]? = some z) => countWays_two hok hx)
      have hTk := hide (sameSum_take hok)
      have hAF := hide (show allFirst zs = true ↔ ∀ j, j < nzs → zs[j]? = zs[0]? by
        unfold allFirst
        rw [List.all_eq_true]
        constructor
        · intro h j hj
          have hjl : j < zs.length := by have := hlzs.out; omega
          have h1 := h zs[j] (List.getElem_mem hjl)
          rw [List.getElem?_eq_getElem hjl, List.getElem?_eq_getElem (show 0 < zs.length by omega)]
          simp only [beq_iff_eq] at h1
          rw [h1, List.getElem?_eq_getElem (show 0 < zs.length by omega)]; rfl
        · intro h z hz
          obtain ⟨j, hj, rfl⟩ := List.getElem_of_mem hz
          have h1 := h j (by have := hlzs.out; omega)
          rw [List.getElem?_eq_getElem hj] at h1
          rw [← h1]; simp)
      obtain ⟨p0, p1⟩ := mul_bound n0 n1 (show 0 ≤ (nzs : Int) by omega) (show (nzs : Int) ≤ 3 by omega)
      obtain ⟨u0, u1⟩ := mul_bound t0 t1 t0 t1
      obtain ⟨S, hS⟩ : ∃ S, Hid (sqSum zs = S) := ⟨_, hide rfl⟩
      obtain ⟨T, hT⟩ : ∃ T, Hid (isum zs = T) := ⟨_, hide rfl⟩
      rw [hS.out] at q1 q2 n0 n1 hSA p0 p1 ⊢
      rw [hT.out] at q1 q2 t0 t1 hTo hSA u0 u1
      obtain ⟨Y, hY⟩ : ∃ Y, Hid (S * (nzs : Int) = Y) := ⟨_, hide rfl⟩
      obtain ⟨Z, hZ⟩ : ∃ Z, Hid (T * T = Z) := ⟨_, hide rfl⟩
      have q2 := hide q2
      clear he hok
      go_wp2_with fail
      refine (sameB (totalOf_impl _ _ _ _ zs _ hzzs.out)).mono ?_
      rw [hTo.out]
      rintro e w3 ⟨rfl, hq⟩
      replace hzzs := hide (hzzs.out.up hq)
      replace hb := hide (upB hb.out (hq))
      clear hq
      go_wp2_with fail
      go_loopw [6, 7, 8] (fun y t i wr => ∃ k : Nat, ∃ sh : Bool, k ≤ nzs ∧ i = .int .i64 k ∧ y = .bool sh ∧ t = .int .i64 (sameSum (zs.take k)) ∧ Hid (sh = true ↔ ∀ j, j < k → zs[j]? = zs[0]?) ∧ Hid (Ints wr wr.heap.size Azs nzs czs zs) ∧ Hid (Below w.heap.size w wr)) (fun _ _ i _ => nzs - (intOf i).toNat)
      case atStart => exact ⟨0, true, Nat.zero_le _, rfl, rfl, rfl, hide ⟨fun _ j hj => absurd hj (by omega), fun _ => rfl⟩, hzzs, hb⟩
      case round =>
        clear hzzs hb
        obtain ⟨k, sh, hk, rfl, rfl, rfl, hsh, hzzs, hb⟩ := hrel
        obtain ⟨s0, s1⟩ := hTk.out k
        by_cases hlt : k < nzs
        · obtain ⟨b, off, x, rfl, hbB, hx, hcell⟩ := hzzs.out.look hlt
          obtain ⟨b2, off2, z, hA2, hbB2, hz, hcell2⟩ := hzzs.out.look (show 0 < nzs by omega)
          injection hA2 with hA2
          injection hA2 with e1 e2 _
          subst e1; subst e2
          have hcell0 : wr.cell? ⟨b, off, none⟩ = some (.int .i64 z) := hcell2
          have hn1' : (0 : Int) < (nzs : Int) := by omega
          clear hcell2
          obtain ⟨x0, x1⟩ := hEl.out k x hx.out
          obtain ⟨y0, y1⟩ := same_bound (x := x) ⟨x0, x1⟩
          have hst := hide (sameSum_take_succ hx.out)
          have hcw := hide (hCW.out k x hx.out)
          have hstep := hide (show ∀ sh' : Bool, (sh' = true ↔ sh = true ∧ x = z) → (sh' = true ↔ ∀ j, j < k + 1 → zs[j]? = zs[0]?) from fun sh' h => by
            rw [h, hsh.out]
            constructor
            · rintro ⟨h1, h2⟩ j hj
              rcases Nat.lt_or_ge j k with hjk | hjk
              · exact h1 j hjk
              · obtain rfl : j = k := by omega
                rw [hx.out, hz.out, h2]
            · intro h1
              refine ⟨fun j hj => h1 j (by omega), ?_⟩
              have h2 := h1 k (by omega)
              rw [hx.out, hz.out] at h2
              exact Option.some.inj h2)
          obtain ⟨sh', hsh'⟩ : ∃ sh' : Bool, Hid ((sh && (x == z)) = sh') := ⟨_, hide rfl⟩
          have hn1 := hide (hstep.out sh' (by rw [← hsh'.out]; simp))
          rw [show zs.length = nzs from hlzs.out] at hcw
          have hrep : (List.replicate nzs (0 : Int))[k]? = some 0 := by rw [List.getElem?_replicate, if_pos hlt]
          have hrep := hide hrep
          cases sh with
          | true =>
            have hd : (x == z) = sh' := by rw [← hsh'.out]; rfl
            go_wp2_with fail
            go_quiet (fail)
            go_wp2_with (at_make; refine wpList_make_full _ rfl _ _ 23 rfl wr.heap.size 3 i0 (.int .i64 0) 1 Try.underlying23 hi hz0 hz1 .i64 .i64 _ _ nzs rfl rfl rfl rfl (by rw [hz2]; omega) (by unfold maxLen; omega) (Nat.le_refl _) ?_; intro w5 hown0 hgrow0; have hom := own_made hown0; obtain ⟨g, hA5, hg5, hgl5, hcy5, hfy5⟩ := hom.at2 hrep.out; injection hA5 with hA5; injection hA5 with hA5 _ _; subst hA5; have hom := hide hom; have hgrow0 := hide hgrow0; clear hown0)
            have hqm := hide (((below_drewN (Below.refl wr.heap.size wr) nq).grown hgrow0.out (Nat.le_refl _) (fun k hk => by cases hk)).setCell (p := ⟨wr.heap.size, k, none⟩) (Nat.le_refl _) (.int .i64 2))
            have hom := hide (show Own (w5.setCell ⟨wr.heap.size, k, none⟩ (.int .i64 2)) 0 (.slice (some ⟨wr.heap.size, 0, none⟩) nzs nzs) ((List.replicate nzs 0).set k 2) from (hom.out.set_ 2 (by decide)).down (Nat.zero_le _))
            clear hgrow0
            replace hzzs := hide (hzzs.out.up hqm.out)
            replace hb := hide (upB hb.out (hqm.out))
            clear hqm
            refine (countWays_impl _ _ _ _ _ _ _ _ zs ((List.replicate nzs 0).set k 2) _ hzzs.out hom.out.ints (Nat.le_refl _) (Nat.le_refl _)).mono ?_
            rw [hcw.out]
            rintro e w4 ⟨rfl, hq⟩
            replace hzzs := hide (hzzs.out.up hq)
            replace hb := hide (upB hb.out (hq))
            clear hq
            clear hom
            go_wp2_with fail
            go_roundw
            case rel => exact ⟨k + 1, _, by omega, by go_num, rfl, by rw [hst.out], hide (by have := hn1.out; simpa using this), hzzs, hb⟩
            case measure => simp [intOf]; omega
          | false =>
            have hd : false = sh' := by rw [← hsh'.out]; rfl
            subst hd
            go_wp2_with fail
            go_quiet (fail)
            go_wp2_with (at_make; refine wpList_make_full _ rfl _ _ 23 rfl wr.heap.size 3 i0 (.int .i64 0) 1 Try.underlying23 hi hz0 hz1 .i64 .i64 _ _ nzs rfl rfl rfl rfl (by rw [hz2]; omega) (by unfold maxLen; omega) (Nat.le_refl _) ?_; intro w5 hown0 hgrow0; have hom := own_made hown0; obtain ⟨g, hA5, hg5, hgl5, hcy5, hfy5⟩ := hom.at2 hrep.out; injection hA5 with hA5; injection hA5 with hA5 _ _; subst hA5; have hom := hide hom; have hgrow0 := hide hgrow0; clear hown0)
            have hqm := hide (((below_drewN (Below.refl wr.heap.size wr) nq).grown hgrow0.out (Nat.le_refl _) (fun k hk => by cases hk)).setCell (p := ⟨wr.heap.size, k, none⟩) (Nat.le_refl _) (.int .i64 2))
            have hom := hide (show Own (w5.setCell ⟨wr.heap.size, k, none⟩ (.int .i64 2)) 0 (.slice (some ⟨wr.heap.size, 0, none⟩) nzs nzs) ((List.replicate nzs 0).set k 2) from (hom.out.set_ 2 (by decide)).down (Nat.zero_le _))
            clear hgrow0
            replace hzzs := hide (hzzs.out.up hqm.out)
            replace hb := hide (upB hb.out (hqm.out))
            clear hqm
            refine (countWays_impl _ _ _ _ _ _ _ _ zs ((List.replicate nzs 0).set k 2) _ hzzs.out hom.out.ints (Nat.le_refl _) (Nat.le_refl _)).mono ?_
            rw [hcw.out]
            rintro e w5 ⟨rfl, hq⟩
            replace hzzs := hide (hzzs.out.up hq)
            replace hb := hide (upB hb.out (hq))
            clear hq
            clear hom
            go_wp2_with fail
            go_roundw
            case rel => exact ⟨k + 1, _, by omega, by go_num, rfl, by rw [hst.out], hide (by have := hn1.out; simpa using this), hzzs, hb⟩
            case measure => simp [intOf]; omega
        · obtain rfl : k = nzs := by omega
          have eS : sameSum (zs.take k) = S - T := by rw [List.take_of_length_le (by have := hlzs.out; omega)]; have := hSA.out; omega
          rw [eS]
          clear eS s0 s1 hTk
          rw [hY.out, hZ.out] at q1 q2
          rw [hY.out] at p0 p1
          rw [hZ.out] at u0 u1
          have hYe := hY.out
          have hZe := hZ.out
          have hsV : (Y == Z) = sh := by
            rw [Bool.eq_iff_iff, hsh.out, ← hAF.out, ← q2.out]; simp
          have hd : decide (Z ≤ Y) = true := decide_eq_true q1
          have hwY : IntKind.i64.wrap Y = Y := IntWalk.i64_in _ (by omega)
          have hwZ : IntKind.i64.wrap Z = Z := IntWalk.i64_in _ (by omega)
          go_wp2_with fail
          go_ret
          exact ⟨by first | (simp; done) | (simp; omega), hb.out⟩
    · have hok : urnOk zs = false := by simpa using hok
      have he : sameTwice zs = -1 := by unfold sameTwice; rw [hok]; rfl
      rw [he]
      go_wp2_with fail
      refine (sameB (urnOk_impl _ _ _ _ zs _ hzzs.out)).mono ?_
      rw [hok]
      rintro e w6 ⟨rfl, hq⟩
      replace hzzs := hide (hzzs.out.up hq)
      replace hb := hide (upB hb.out (hq))
      clear hq
      go_wp2_with fail
      refine (alive_c _).mono ?_
      rintro e wz ⟨rfl, hq⟩
      go_wp2_with fail
      go_ret
      exact ⟨by simp, upB hb.out hq⟩
end Go.Proofs.Ytffllkmaifjpfad
