/-
  Laws of chapter 2 walked: FnCountsOf, FnCountRowOk (written by wip/gen_w3.py).
-/
import Derived.Test.YtlhjgcfiaakllaaLawAid
import Derived.Test.YtlhjgcfiaakllaaDrawCh2
import Derived.Test.YtlhjgcfiaakllaaImpD
import Derived.Test.YtlhjgcfiaakllaaWordF
import Derived.Test.YtlhjgcfiaakllaaAidW
namespace Go.Proofs.Ytlhjgcfiaakllaa
open Go.RowKit
set_option linter.unusedVariables false

set_option maxHeartbeats 1600000 in
theorem lawCountsOf {A : Option Addr} {n c : Nat} {bs : List Int} {w : World} (h : Bts w w.heap.size A n c bs) :
    Calls Try.prog 4 #[.slice A n c] w fun e w' => e = .returned (.bool true) ∧ Below w.heap.size w w' := by
  have hbig := h.big
  have hle := h.le
  unfold maxLen at hbig
  by_cases hn : 1048576 < n
  · go_enter Try.func4, Try.ntmps4
    go_wp2
    go_ret
    exact ⟨rfl, Below.refl _ _⟩
  · have hD := hide (DrawCountsOf_c A n c bs w h)
    obtain ⟨i0, hi, hz0, hz1, hz2⟩ := info_parts infoInt
    go_enter Try.func4, Try.ntmps4
    go_wp2_with fail
    refine hD.out.mono ?_
    rintro e w0 ⟨Aws, nws, cws, ws, cl, rfl, hzws, hnws, hlocl, hhicl, hb⟩
    have hlws := hide hzws.len
    replace hzws := hide hzws
    replace hb := hide hb
    clear hD
    go_wp2_with fail
    refine (countsOf_impl cl _ _ _ _ ws _ hzws.out (Nat.le_refl _)).mono ?_
    rintro e w1 ⟨Acs, ncs, ccs, rfl, ho, hq⟩
    replace hzws := hide (hzws.out.up hq)
    replace hb := hide (upB hb.out (hq))
    have hocs := hide (ho.down (Nat.zero_le _))
    clear hq ho
    go_wp2_with fail
    refine (countsOf_spec cl _ _ _ _ ws _ hzws.out (Nat.le_refl _)).mono ?_
    rintro e w2 ⟨Asp, nsp, csp, rfl, ho, hq⟩
    replace hzws := hide (hzws.out.up hq)
    replace hocs := hide (hocs.out.up hq)
    replace hb := hide (upB hb.out (hq))
    have hosp := hide (ho.down (Nat.zero_le _))
    clear hq ho
    go_wp2_with fail
    refine (quietB (sameInts_c _ _ _ _ _ _ _ _ _ _ _ hocs.out.ints hosp.out.ints)).mono ?_
    rw [sameL_refl]
    rintro e w3 ⟨rfl, hq⟩
    replace hzws := hide (hzws.out.up hq)
    replace hocs := hide (hocs.out.up hq)
    replace hosp := hide (hosp.out.up hq)
    replace hb := hide (upB hb.out (hq))
    clear hq
    clear hosp
    have hlc := hide hocs.out.len
    by_cases hok : wordOk cl ws = true
    · have he : countsOf cl ws = cntL cl.toNat ws := by unfold countsOf; rw [if_pos hok]
      rw [he] at hocs hlc
      obtain ⟨k1, k2, k3, k4⟩ := wordOk_yes hok
      have hrow := hide (cntL_row hok)
      have hww : 1 ≤ wordsWith cl (cntL cl.toNat ws) := by unfold wordsWith; rw [if_pos hrow.out]; exact (row_fine hrow.out).1
      have hsm := hide (isum_cntL (C := cl.toNat) ws (fun x hx => by have := k4 x hx; omega))
      have hce := hide (cntL_mem (C := cl.toNat) (ws := ws))
      have hct := hide (take_sum (countRowOk_urn hrow.out))
      have hcu := hide (fun (k : Nat) z (hx : (cntL cl.toNat ws)[k]? = some z) => urnOk_elem (countRowOk_urn hrow.out) hx)
      have hn0 : 1 ≤ ncs ∧ ncs ≤ 3 := by have := hlc.out; rw [cntL_len] at this; omega
      have hn6 : nws ≤ 6 := by have := hlws.out; omega
      obtain ⟨cs, hcs⟩ : ∃ cs, Hid (cntL cl.toNat ws = cs) := ⟨_, rfl⟩
      rw [hcs.out] at hocs hlc hrow hww hsm hce hct hcu
      obtain ⟨V, hV⟩ : ∃ V, Hid (wordsWith cl cs = V) := ⟨_, rfl⟩
      rw [hV.out] at hww
      clear he hok k1 k2 k3 k4
      go_wp2_with fail
      go_loopw [6, 7] (fun t i wr => ∃ k : Nat, k ≤ ncs ∧ i = .int .i64 k ∧ t = .int .i64 (isum (cs.take k)) ∧ Hid (Ints wr wr.heap.size Aws nws cws ws) ∧ Hid (Own wr 0 (.slice Acs ncs ccs) (cs)) ∧ Hid (Below w.heap.size w wr)) (fun _ i _ => ncs - (intOf i).toNat)
      case atStart => exact ⟨0, Nat.zero_le _, rfl, rfl, hzws, hocs, hb⟩
      case round =>
        clear hzws hocs hb
        obtain ⟨k, hk, rfl, rfl, hzws, hocs, hb⟩ := hrel
        obtain ⟨s1, s2⟩ := hct.out k
        by_cases hlt : k < ncs
        · obtain ⟨b, off, x, rfl, hbB, hx, hcell⟩ := hocs.out.ints.look hlt
          obtain ⟨x0, x1⟩ := hcu.out k x hx.out
          have hst := hide (isum_take_succ hx.out)
          go_wp2_with fail
          go_roundw
          case rel => exact ⟨k + 1, by omega, by go_num, by rw [hst.out], hzws, hocs, hb⟩
          case measure => simp [intOf]; omega
        · obtain rfl : k = ncs := by omega
          have eS : isum (cs.take k) = nws := by rw [List.take_of_length_le (by have := hlc.out; omega), hsm.out, hlws.out]
          rw [eS]
          clear eS s1 s2
          obtain ⟨ncs, hk0⟩ : ∃ m, m = k := ⟨_, rfl⟩
          subst hk0
          go_wp2_with fail
          refine (countRowOk_impl cl _ _ _ _ cs _ hocs.out.ints (Nat.le_refl _)).mono ?_
          rw [hrow.out]
          rintro e w4 ⟨rfl, hq⟩
          replace hzws := hide (hzws.out.up hq)
          replace hocs := hide (hocs.out.up hq)
          replace hb := hide (upB hb.out (hq))
          clear hq
          go_wp2_with fail
          refine (wordsWith_impl cl _ _ _ _ cs _ hocs.out.ints (Nat.le_refl _)).mono ?_
          rw [hV.out]
          rintro e w5 ⟨rfl, hq⟩
          replace hzws := hide (hzws.out.up hq)
          replace hocs := hide (hocs.out.up hq)
          replace hb := hide (upB hb.out (hq))
          clear hq
          go_wp2_with fail
          go_ret
          exact ⟨by simp, hb.out⟩
    · have hok : wordOk cl ws = false := by simpa using hok
      have he : countsOf cl ws = [] := by unfold countsOf; rw [hok]; rfl
      rw [he] at hocs hlc
      have hlc := hlc.out
      simp only [List.length_nil] at hlc
      subst hlc
      go_wp2_with fail
      refine (wordOk_impl cl _ _ _ _ ws _ hzws.out (Nat.le_refl _)).mono ?_
      rw [hok]
      rintro e w6 ⟨rfl, hq⟩
      replace hzws := hide (hzws.out.up hq)
      replace hocs := hide (hocs.out.up hq)
      replace hb := hide (upB hb.out (hq))
      clear hq
      go_wp2_with fail
      refine (alive_c _).mono ?_
      rintro e wz ⟨rfl, hq⟩
      go_wp2_with fail
      go_ret
      exact ⟨rfl, upB hb.out hq⟩

set_option maxHeartbeats 1600000 in
theorem lawCountRowOk {A : Option Addr} {n c : Nat} {bs : List Int} {w : World} (h : Bts w w.heap.size A n c bs) :
    Calls Try.prog 7 #[.slice A n c] w fun e w' => e = .returned (.bool true) ∧ Below w.heap.size w w' := by
  have hbig := h.big
  have hle := h.le
  unfold maxLen at hbig
  by_cases hn : 1048576 < n
  · go_enter Try.func7, Try.ntmps7
    go_wp2
    go_ret
    exact ⟨rfl, Below.refl _ _⟩
  · have hD := hide (DrawCountRowOk_c A n c bs w h)
    obtain ⟨i0, hi, hz0, hz1, hz2⟩ := info_parts infoInt
    go_enter Try.func7, Try.ntmps7
    go_wp2_with fail
    refine hD.out.mono ?_
    rintro e w0 ⟨Acs, ncs, ccs, cs, cl, rfl, hzcs, hncs, hlocl, hhicl, hb⟩
    have hlcs := hide hzcs.len
    replace hzcs := hide hzcs
    replace hb := hide hb
    clear hD
    go_wp2_with fail
    refine (countRowOk_impl cl _ _ _ _ cs _ hzcs.out (Nat.le_refl _)).mono ?_
    rintro e w1 ⟨rfl, hq⟩
    replace hzcs := hide (hzcs.out.up hq)
    replace hb := hide (upB hb.out (hq))
    clear hq
    go_wp2_with fail
    refine (sameB (countRowOk_spec cl _ _ _ _ cs _ hzcs.out)).mono ?_
    rintro e w2 ⟨rfl, hq⟩
    replace hzcs := hide (hzcs.out.up hq)
    replace hb := hide (upB hb.out (hq))
    clear hq
    by_cases hcl : cl < 1 ∨ 3 < cl
    · have hno : countRowOk cl cs = false := countRowOk_no (by omega)
      rw [hno]
      rcases hcl with hcl | hcl
      ·
        go_wp2_with fail
        refine (alive_c _).mono ?_
        rintro e wz ⟨rfl, hq⟩
        go_wp2_with fail
        go_ret
        exact ⟨by simp, upB hb.out hq⟩
      ·
        go_wp2_with fail
        refine (alive_c _).mono ?_
        rintro e wz ⟨rfl, hq⟩
        go_wp2_with fail
        go_ret
        exact ⟨by simp, upB hb.out hq⟩
    · obtain ⟨hc1, hc3⟩ : 1 ≤ cl ∧ cl ≤ 3 := by omega
      clear hcl
      obtain ⟨q, rfl⟩ : ∃ q : Nat, cl = (q : Int) := ⟨cl.toNat, by omega⟩
      have hq1 : 1 ≤ q := by omega
      have hq3 : q ≤ 3 := by omega
      have hR := hide (countRowOk_reverse (q : Int) cs)
      have hZ := hide (show countRowOk (q : Int) (List.replicate q 0) = true from countRowOk_mk hc1 hc3 (by simp) (fun j x _ hx => by have := List.eq_of_mem_replicate (List.mem_of_getElem? hx); omega) (by rw [isum_zeros]; decide))
      have hobk := hide (own_empty (w := w2) (base := 0) (Nat.zero_le _))
      replace hzcs := hide (hzcs.out.up (al _ (.cells #[] 3)))
      replace hb := hide (upB hb.out ((al _ (.cells #[] 3))))
      go_wp2_with fail
      go_loopw [6, 7] (fun v i wr => ∃ k : Nat, ∃ B d f, k ≤ ncs ∧ i = .int .i64 k ∧ v = .slice B d f ∧ Hid (Own wr 0 (.slice B d f) (cs.take k).reverse) ∧ Hid (Ints wr wr.heap.size Acs ncs ccs cs) ∧ Hid (Below w.heap.size w wr)) (fun _ i _ => ncs - (intOf i).toNat)
      case atStart => exact ⟨0, _, _, _, Nat.zero_le _, rfl, rfl, hobk, hzcs, hb⟩
      case round =>
        clear hobk hzcs hb
        obtain ⟨k, B, d, f, hk, rfl, rfl, hobk, hzcs, hb⟩ := hrel
        by_cases hlt : k < ncs
        · obtain ⟨b, off, x, rfl, hbB, hx, hcell⟩ := hzcs.out.look hlt
          have hwx := hide (hzcs.out.wf_at hx.out)
          have hld := hide hobk.out.len
          go_wp2_with (at_builtin; refine wpList_app _ rfl _ _ 23 rfl i0 Try.underlying23 hi hz0 hz1 hz2 _ [x] rfl (ints_lit [x] (by intro y hy; simp at hy; subst hy; exact hwx.out) (by simp) rfl) _ d f _ (cs.take k).reverse rfl (hobk.out.alloc _).ints (by simp) (by have := hld.out; rw [List.length_reverse, List.length_take] at this; simp; omega) ?_; intro A₃ n₃ c₃ w3 ho3 hg3)
          have hq := al_grown hg3 (Nat.le_refl _)
          have ho3 := hide (show Own w3 0 (.slice A₃ n₃ c₃) (cs.take (k + 1)).reverse by
            rw [take_succ hx.out, List.reverse_append]
            exact ho3.down (Nat.zero_le _))
          clear hg3 hcell
          replace hzcs := hide (hzcs.out.up hq)
          replace hb := hide (upB hb.out (hq))
          clear hq hobk
          go_wp2
          go_roundw
          case rel => exact ⟨k + 1, _, _, _, by omega, by go_num, rfl, ho3, hzcs, hb⟩
          case measure => simp [intOf]; omega
        · obtain rfl : k = ncs := by omega
          obtain ⟨ncs, hk0⟩ : ∃ m, m = k := ⟨_, rfl⟩
          subst hk0
          replace hobk := hide (show Own wr 0 (.slice B d f) cs.reverse by
            have := hobk.out
            rwa [List.take_of_length_le (by have := hlcs.out; omega)] at this)
          go_wp2_with (at_make; refine wpList_make_full _ rfl _ _ 23 rfl wr.heap.size 3 i0 (.int .i64 0) 1 Try.underlying23 hi hz0 hz1 .i64 .i64 _ _ q rfl rfl rfl rfl (by rw [hz2]; omega) (by unfold maxLen; omega) (Nat.le_refl _) ?_; intro w9 hown0 hgrow0; have hgrow0 := hide hgrow0; have hown0 := hide hown0)
          have hq0 := hide (show Below wr.heap.size wr w9 from (Below.refl _ _).grown hgrow0.out (Nat.le_refl _) (fun k hk => by cases hk))
          have hozr := hide (show Own w9 0 (.slice (some ⟨wr.heap.size, 0, none⟩) q q) (List.replicate q 0) from Own.down ⟨by
            have e1 : (madeCells (Value.int .i64 0).cells (q * 1)).toList = (List.replicate q (0 : Int)).map (Value.int .i64) := by
              simp [Value.cells, toList_madeCells_one]
            rw [List.length_replicate, ← e1]; exact hown0.out, fun z hz => by
              have := List.eq_of_mem_replicate hz
              subst this; decide⟩ (Nat.zero_le _))
          clear hown0 hgrow0
          replace hzcs := hide (hzcs.out.up hq0.out)
          replace hobk := hide (hobk.out.up hq0.out)
          replace hb := hide (upB hb.out (hq0.out))
          clear hq0
          refine (countRowOk_impl (q : Int) _ _ _ _ _ _ hozr.out.ints (Nat.le_refl _)).mono ?_
          rw [hZ.out]
          rintro e w3 ⟨rfl, hq⟩
          replace hzcs := hide (hzcs.out.up hq)
          replace hobk := hide (hobk.out.up hq)
          replace hozr := hide (hozr.out.up hq)
          replace hb := hide (upB hb.out (hq))
          clear hq
          go_wp2_with fail
          refine (countRowOk_impl (q : Int) _ _ _ _ _ _ hobk.out.ints (Nat.le_refl _)).mono ?_
          rw [hR.out]
          rintro e w4 ⟨rfl, hq⟩
          replace hzcs := hide (hzcs.out.up hq)
          replace hobk := hide (hobk.out.up hq)
          replace hozr := hide (hozr.out.up hq)
          replace hb := hide (upB hb.out (hq))
          clear hq
          go_wp2_with fail
          refine (alive_c _).mono ?_
          rintro e wz ⟨rfl, hq⟩
          go_wp2_with fail
          go_ret
          exact ⟨by simp, upB hb.out hq⟩
end Go.Proofs.Ytlhjgcfiaakllaa
