/-
  Laws of chapter 7 walked: FnRoomRowOk (written by wip/gen_v1.py).
-/
import Derived.Test.YtpjbccdhfnhopaaZdraw
import Derived.Test.YtpjbccdhfnhopaaDrawCh7
import Derived.Test.YtpjbccdhfnhopaaRoomI
namespace Go.Proofs.Ytpjbccdhfnhopaa
open Go.RowKit
set_option linter.unusedVariables false

theorem roomOk_no {m : Int} {row : List Int} (h : ¬(1 ≤ m ∧ m ≤ 6)) : roomOk m row = false := by
  unfold roomOk
  rw [decide_eq_false (by omega), Bool.false_and]
theorem roomStep_yes {m : Int} {zs : List Int} (h : roomStep m zs ≠ []) : ∃ M : Nat, m = (M : Int) ∧ 1 ≤ M ∧ M ≤ 6 ∧ zs.length = M + 1 ∧ (∀ (k : Nat) x, zs[k]? = some x → 0 ≤ x ∧ x ≤ 10000000) ∧ roomStep m zs = stepL M zs ∧ (∀ (k : Nat) x, (stepL M zs)[k]? = some x → 0 ≤ x ∧ x ≤ 10000000) := by
  unfold roomStep at *
  by_cases hc : roomOk m zs = true ∧ roomOk m (stepL m.toNat zs) = true
  · obtain ⟨M, rfl, h1, h6, hl, hb⟩ := roomOk_yes hc.1
    obtain ⟨M', e, _, _, _, hb'⟩ := roomOk_yes hc.2
    rw [if_pos hc]
    rw [Int.toNat_natCast] at *
    exact ⟨M, rfl, h1, h6, hl, hb, rfl, hb'⟩
  · rw [if_neg hc] at h
    exact absurd rfl h
theorem part_bound {zs : List Int} (hl : zs.length ≤ 7) (h : ∀ (k : Nat) x, zs[k]? = some x → 0 ≤ x ∧ x ≤ 10000000) {k : Nat} : 0 ≤ isum (zs.take k) ∧ isum (zs.take k) ≤ 70000000 := by
  have := isum_bounds 10000000 (zs.take k) (fun z hz => by
    obtain ⟨j, hj, rfl⟩ := List.getElem_of_mem (List.mem_of_mem_take hz)
    exact h j _ (List.getElem?_eq_getElem hj))
  have hlen : (zs.take k).length ≤ 7 := by rw [List.length_take]; omega
  omega

set_option maxHeartbeats 1600000 in
theorem lawRoomRowOk {A : Option Addr} {n c : Nat} {bs : List Int} {w : World} (h : Bts w w.heap.size A n c bs) :
    Calls Try.prog 3 #[.slice A n c] w fun e w' => e = .returned (.bool true) ∧ Below w.heap.size w w' := by
  have hbig := h.big
  have hle := h.le
  unfold maxLen at hbig
  by_cases hn : 1048576 < n
  · go_enter Try.func3, Try.ntmps3
    go_wp2
    go_ret
    exact ⟨rfl, Below.refl _ _⟩
  · have hD := hide (DrawRoomRowOk_c A n c bs w h)
    obtain ⟨i0, hi, hz0, hz1, hz2⟩ := info_parts infoInt
    go_enter Try.func3, Try.ntmps3
    go_wp2_with fail
    refine hD.out.mono ?_
    rintro e w0 ⟨Azs, nzs, czs, zs, m, rfl, hzzs, hnzs, hlom, hhim, hb⟩
    have hlzs := hide hzzs.len
    replace hzzs := hide hzzs
    replace hb := hide hb
    clear hD
    have hwm := wf_i64 (z := m) (by omega)
    go_wp2_with fail
    refine (roomRowOk_impl m _ _ _ _ zs _ hzzs.out (Nat.le_refl _) hwm).mono ?_
    rintro e w1 ⟨rfl, hq⟩
    replace hzzs := hide (hzzs.out.up hq)
    replace hb := hide (upB hb.out (hq))
    clear hq
    go_wp2_with fail
    refine (sameB (roomRowOk_spec m _ _ _ _ zs _ hzzs.out)).mono ?_
    rintro e w2 ⟨rfl, hq⟩
    replace hzzs := hide (hzzs.out.up hq)
    replace hb := hide (upB hb.out (hq))
    clear hq
    by_cases hcl : m < 1 ∨ 6 < m
    · have hno : roomOk m zs = false := roomOk_no (by omega)
      rw [hno]
      rcases hcl with hcl | hcl
      ·
        go_wp2_with fail
        refine (alive_c _).mono ?_
        rintro e wz ⟨rfl, hq⟩
        go_wp2_with fail
        go_ret
        exact ⟨by simp, upB hb.out hq⟩
      ·
        go_wp2_with fail
        refine (alive_c _).mono ?_
        rintro e wz ⟨rfl, hq⟩
        go_wp2_with fail
        go_ret
        exact ⟨by simp, upB hb.out hq⟩
    · obtain ⟨hc1, hc6⟩ : 1 ≤ m ∧ m ≤ 6 := by omega
      clear hcl
      obtain ⟨q, rfl⟩ : ∃ q : Nat, m = (q : Int) := ⟨m.toNat, by omega⟩
      have hq1 : 1 ≤ q := by omega
      have hq6 : q ≤ 6 := by omega
      have hR := hide (roomOk_turn (q : Int) zs)
      have hZ := hide (show roomOk (q : Int) (List.replicate (q + 1) 0) = true from roomOk_mk hq1 hq6 (by simp) (fun x hx => by have := List.eq_of_mem_replicate hx; omega))
      have hobk := hide (own_empty (w := w2) (base := 0) (Nat.zero_le _))
      replace hzzs := hide (hzzs.out.up (al _ (.cells #[] 3)))
      replace hb := hide (upB hb.out ((al _ (.cells #[] 3))))
      go_wp2_with fail
      go_loopw [6, 7] (fun v i wr => ∃ k : Nat, ∃ B d f, k ≤ nzs ∧ i = .int .i64 k ∧ v = .slice B d f ∧ Hid (Own wr 0 (.slice B d f) (zs.take k).reverse) ∧ Hid (Ints wr wr.heap.size Azs nzs czs zs) ∧ Hid (Below w.heap.size w wr)) (fun _ i _ => nzs - (intOf i).toNat)
      case atStart => exact ⟨0, _, _, _, Nat.zero_le _, rfl, rfl, hobk, hzzs, hb⟩
      case round =>
        clear hobk hzzs hb
        obtain ⟨k, B, d, f, hk, rfl, rfl, hobk, hzzs, hb⟩ := hrel
        by_cases hlt : k < nzs
        · obtain ⟨b, off, x, rfl, hbB, hx, hcell⟩ := hzzs.out.look hlt
          have hwx := hide (hzzs.out.wf_at hx.out)
          have hld := hide hobk.out.len
          go_wp2_with (at_builtin; refine wpList_app _ rfl _ _ 23 rfl i0 Try.underlying23 hi hz0 hz1 hz2 _ [x] rfl (ints_lit [x] (by intro y hy; simp at hy; subst hy; exact hwx.out) (by simp) rfl) _ d f _ (zs.take k).reverse rfl (hobk.out.alloc _).ints (by simp) (by have := hld.out; rw [List.length_reverse, List.length_take] at this; simp; omega) ?_; intro A₃ n₃ c₃ w3 ho3 hg3)
          have hq := al_grown hg3 (Nat.le_refl _)
          have ho3 := hide (show Own w3 0 (.slice A₃ n₃ c₃) (zs.take (k + 1)).reverse by
            rw [take_succ hx.out, List.reverse_append]
            exact ho3.down (Nat.zero_le _))
          clear hg3 hcell
          replace hzzs := hide (hzzs.out.up hq)
          replace hb := hide (upB hb.out (hq))
          clear hq hobk
          go_wp2
          go_roundw
          case rel => exact ⟨k + 1, _, _, _, by omega, by go_num, rfl, ho3, hzzs, hb⟩
          case measure => simp [intOf]; omega
        · obtain rfl : k = nzs := by omega
          obtain ⟨nzs, hk0⟩ : ∃ m, m = k := ⟨_, rfl⟩
          subst hk0
          replace hobk := hide (show Own wr 0 (.slice B d f) zs.reverse by
            have := hobk.out
            rwa [List.take_of_length_le (by have := hlzs.out; omega)] at this)
          go_wp2_with (at_make; refine wpList_make_full _ rfl _ _ 23 rfl wr.heap.size 3 i0 (.int .i64 0) 1 Try.underlying23 hi hz0 hz1 .i64 .i64 _ _ (q + 1) rfl rfl (by simp) (by simp) (by rw [hz2]; omega) (by unfold maxLen; omega) (Nat.le_refl _) ?_; intro w9 hown0 hgrow0; have hgrow0 := hide hgrow0; have hown0 := hide hown0)
          have hq0 := hide (show Below wr.heap.size wr w9 from (Below.refl _ _).grown hgrow0.out (Nat.le_refl _) (fun k hk => by cases hk))
          have hozr := hide ((own_made hown0.out).down (Nat.zero_le _))
          clear hown0 hgrow0
          replace hzzs := hide (hzzs.out.up hq0.out)
          replace hobk := hide (hobk.out.up hq0.out)
          replace hb := hide (upB hb.out (hq0.out))
          clear hq0
          refine (roomRowOk_impl (q : Int) _ _ _ _ _ _ hozr.out.ints (Nat.le_refl _) hwm).mono ?_
          rw [hZ.out]
          rintro e w3 ⟨rfl, hq⟩
          replace hzzs := hide (hzzs.out.up hq)
          replace hobk := hide (hobk.out.up hq)
          replace hozr := hide (hozr.out.up hq)
          replace hb := hide (upB hb.out (hq))
          clear hq
          go_wp2_with fail
          refine (roomRowOk_impl (q : Int) _ _ _ _ _ _ hobk.out.ints (Nat.le_refl _) hwm).mono ?_
          rw [hR.out]
          rintro e w4 ⟨rfl, hq⟩
          replace hzzs := hide (hzzs.out.up hq)
          replace hobk := hide (hobk.out.up hq)
          replace hozr := hide (hozr.out.up hq)
          replace hb := hide (upB hb.out (hq))
          clear hq
          go_wp2_with fail
          refine (alive_c _).mono ?_
          rintro e wz ⟨rfl, hq⟩
          go_wp2_with fail
          go_ret
          exact ⟨by simp, upB hb.out hq⟩
end Go.Proofs.Ytpjbccdhfnhopaa
