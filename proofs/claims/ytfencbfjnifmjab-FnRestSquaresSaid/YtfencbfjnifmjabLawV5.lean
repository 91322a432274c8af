/-
  Laws of chapter 7 walked: FnRestSquares (written by wip/gen_v2.py).
-/
import Derived.Test.YtfencbfjnifmjabLawV1
import Derived.Test.YtfencbfjnifmjabPowI
namespace Go.Proofs.Ytfencbfjnifmjab
open Go.RowKit
set_option linter.unusedVariables false

set_option maxHeartbeats 3200000 in
theorem lawRestSquares {A : Option Addr} {n c : Nat} {bs : List Int} {w : World} (h : Bts w w.heap.size A n c bs) :
    Calls Try.prog 10 #[.slice A n c] w fun e w' => e = .returned (.bool true) ∧ Below w.heap.size w w' := by
  have hbig := h.big
  have hle := h.le
  unfold maxLen at hbig
  by_cases hn : 1048576 < n
  · go_enter Try.func10, Try.ntmps10
    go_wp2
    go_ret
    exact ⟨rfl, Below.refl _ _⟩
  · have hD := hide (DrawRestRow_c A n c bs w h)
    obtain ⟨i0, hi, hz0, hz1, hz2⟩ := info_parts infoInt
    go_enter Try.func10, Try.ntmps10
    go_wp2_with fail
    refine hD.out.mono ?_
    rintro e w0 ⟨m, rfl, hlom, hhim, hb⟩
    replace hb := hide hb
    clear hD
    have hwm := wf_i64 (z := m) (by omega)
    go_wp2_with fail
    refine (restRow_impl m _ hwm).mono ?_
    rintro e w1 ⟨Als, nls, cls, rfl, ho, hq⟩
    replace hb := hide (upB hb.out (hq))
    have hols := hide (ho.down (Nat.zero_le _))
    clear hq ho
    by_cases hok : 1 ≤ m ∧ m ≤ 6
    · obtain ⟨M, rfl⟩ : ∃ M : Nat, m = (M : Int) := ⟨m.toNat, by omega⟩
      have h1 : 1 ≤ M := by omega
      have h6 : M ≤ 6 := by omega
      have eR : restR (M : Int) = restL M := by unfold restR; rw [if_pos hok, Int.toNat_natCast]
      rw [eR] at hols
      have hlen := hols.out.len
      rw [restL_len] at hlen
      subst hlen
      have HF := hide (rest_facts h1 h6)
      have hne0 : ((M : Int) + 1 == 0) = false := by simp; omega
      clear hok eR
      have hzls := hide hols.out.ints
      clear hols
      go_wp2_with fail
      go_loop [5, 6, 7] (fun s t i => ∃ k : Nat, k ≤ M + 1 ∧ i = .int .i64 k ∧ s = .int .i64 (sqTo M (restL M) k) ∧ t = .int .i64 (leanTo M (restL M) k)) (fun _ _ i => M + 1 - (intOf i).toNat)
      case atStart => exact ⟨0, Nat.zero_le _, rfl, rfl, rfl⟩
      case round =>
        obtain ⟨k, hk, rfl, rfl, rfl⟩ := hrel
        obtain ⟨s0, s1⟩ := HF.out.sqB k hk
        obtain ⟨t0, t1⟩ := HF.out.leB k hk
        by_cases hlt : k < M + 1
        · obtain ⟨g, off, x, rfl, hgB, hx, hcellx⟩ := hzls.out.look hlt
          obtain ⟨x0, x1⟩ := HF.out.elem k x hx.out
          obtain ⟨p0, p1⟩ := mul_two (a := x) (M := 20) (by omega) x1 (b := 2 * (k : Int) - (M : Int)) (N := 8) (by omega) (by omega)
          obtain ⟨q0, q1⟩ := mul_abs p0 p1 (b := 2 * (k : Int) - (M : Int)) (N := 8) (by omega) (by omega)
          have e1 := hide (show sqTo M (restL M) k + x * (2 * (k : Int) - (M : Int)) * (2 * (k : Int) - (M : Int)) = sqTo M (restL M) (k + 1) by rw [← atI_some hx.out]; rfl)
          have e2 := hide (show leanTo M (restL M) k + x * (2 * (k : Int) - (M : Int)) = leanTo M (restL M) (k + 1) by rw [← atI_some hx.out]; rfl)
          go_wp2
          go_round
          case rel => exact ⟨k + 1, by omega, by go_num, by rw [e1.out], by rw [e2.out]⟩
          case measure => simp [intOf]; omega
        · have hkM := hide (show k = M + 1 by omega)
          have e1 := hide (show sqTo M (restL M) k = ((M * 2 ^ M : Nat) : Int) by rw [hkM.out, HF.out.sq])
          have e2 := hide (show leanTo M (restL M) k = 0 by rw [hkM.out, HF.out.lean])
          rw [e1.out, e2.out]
          clear s0 s1 t0 t1
          rcases (show M = 1 ∨ M = 2 ∨ M = 3 ∨ M = 4 ∨ M = 5 ∨ M = 6 by omega) with rfl | rfl | rfl | rfl | rfl | rfl <;>
          · obtain rfl : k = _ := Nat.le_antisymm hk (Nat.le_of_not_lt hlt)
            go_wp2_with fail
            refine (alive_c _).mono ?_
            rintro e wz ⟨rfl, hq⟩
            go_wp2_with fail
            go_ret
            exact ⟨by simp, upB hb.out hq⟩
    ·
      have e0 : restR m = [] := by unfold restR; rw [if_neg hok]
      rw [e0] at hols
      have hlen : nls = 0 := hols.out.len
      subst hlen
      clear e0
      go_wp2_with fail
      refine (restRow_spec m _).mono ?_
      rintro e w2 ⟨Asp, nsp, csp, rfl, ho, hq⟩
      replace hols := hide (hols.out.up hq)
      replace hb := hide (upB hb.out (hq))
      have hosp := hide (ho.down (Nat.zero_le _))
      clear hq ho
      have e0 : restR m = [] := by unfold restR; rw [if_neg hok]
      rw [e0] at hosp
      have hlen : nsp = 0 := hosp.out.len
      subst hlen
      clear e0
      clear hok
      go_wp2_with fail
      refine (alive_c _).mono ?_
      rintro e wz ⟨rfl, hq⟩
      go_wp2_with fail
      go_ret
      exact ⟨by simp, upB hb.out hq⟩
end Go.Proofs.Ytfencbfjnifmjab
