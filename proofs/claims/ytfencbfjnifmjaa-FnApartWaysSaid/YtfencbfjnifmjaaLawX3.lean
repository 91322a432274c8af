/-
  Laws of chapter 8 walked: FnApartWays (written by wip/gen_x2.py).
-/
import Derived.Test.YtfencbfjnifmjaaLawX1
namespace Go.Proofs.Ytfencbfjnifmjaa
open Go.RowKit
set_option linter.unusedVariables false

set_option maxRecDepth 100000 in
set_option maxHeartbeats 3200000 in
theorem lawApartWays {A : Option Addr} {n c : Nat} {bs : List Int} {w : World} (h : Bts w w.heap.size A n c bs) :
    Calls Try.prog 5 #[.slice A n c] w fun e w' => e = .returned (.bool true) ∧ Below w.heap.size w w' := by
  have hbig := h.big
  have hle := h.le
  unfold maxLen at hbig
  by_cases hn : 1048576 < n
  · go_enter Try.func5, Try.ntmps5
    go_wp2
    go_ret
    exact ⟨rfl, Below.refl _ _⟩
  · have hD := hide (DrawApartWays_c A n c bs w h)
    obtain ⟨i0, hi, hz0, hz1, hz2⟩ := info_parts infoInt
    go_enter Try.func5, Try.ntmps5
    go_wp2_with fail
    refine hD.out.mono ?_
    rintro e w0 ⟨x, y, rfl, hlox, hhix, hloy, hhiy, hb⟩
    replace hb := hide hb
    clear hD
    have hwx := wf_i64 (z := x) (by omega)
    have hwy := wf_i64 (z := y) (by omega)
    go_wp2_with fail
    refine (apartWays_impl x y _ hwx hwy).mono ?_
    rintro e w1 ⟨rfl, hq⟩
    replace hb := hide (upB hb.out (hq))
    clear hq
    go_wp2_with fail
    refine (sameB (apartWays_spec x y _)).mono ?_
    rintro e w2 ⟨rfl, hq⟩
    replace hb := hide (upB hb.out (hq))
    clear hq
    by_cases hok : fallOk x y = true
    · obtain ⟨N, B, rfl, rfl, h7, h1, h6⟩ := fallOk_yes hok
      have F := fall_facts h7 h1 h6
      replace F := hide F
      have hfb := full_bound h7 h6
      obtain ⟨u0, u1, u2, u3, u4⟩ := hfb
      rw [apartW_in h7 h1 h6]
      have ha1 := hide F.out.apart1
      have ha0 := hide F.out.apart0
      clear F hok
      obtain ⟨Z, hZ⟩ : ∃ Z : Nat, Hid (fallN B N = Z) := ⟨_, hide rfl⟩
      rw [hZ.out] at ha1 ha0 u2 ⊢
      by_cases hlt : B < N
      · obtain rfl : Z = 0 := ha0.out hlt
        go_wp2_with fail
        refine (alive_c _).mono ?_
        rintro e wz ⟨rfl, hq⟩
        go_wp2_with fail
        go_ret
        exact ⟨by simp, upB hb.out hq⟩
      · obtain ⟨e1, e2⟩ := ha1.out (by omega)
        have eW := emptyW_in h7 h1 h6 (E := B - N) (by omega)
        rw [e1, Int.natCast_sub (by omega)] at eW
        have hwd := wf_i64 (z := (B : Int) - (N : Int)) (by omega)
        replace eW := hide eW
        clear e1 ha1 ha0
        go_wp2_with fail
        refine (emptyWays_impl (N : Int) (B : Int) ((B : Int) - (N : Int)) _ hwx hwy hwd).mono ?_
        rw [eW.out]
        rintro e w3 ⟨rfl, hq⟩
        replace hb := hide (upB hb.out (hq))
        clear hq
        go_wp2_with fail
        go_ret
        exact ⟨by simp, hb.out⟩
    · have hok : fallOk x y = false := by simpa using hok
      rw [apartW_out hok]
      clear hok
      go_wp2_with fail
      refine (alive_c _).mono ?_
      rintro e wz ⟨rfl, hq⟩
      go_wp2_with fail
      go_ret
      exact ⟨by simp, upB hb.out hq⟩
end Go.Proofs.Ytfencbfjnifmjaa
