/-
  Laws of chapter 6 walked: FnUnknownUrn (written by wip/gen_u2.py).
-/
import Derived.Test.YtbjjlgnelbcmlaaLawU1
import Derived.Test.YtbjjlgnelbcmlaaSameI
import Derived.Test.YtbjjlgnelbcmlaaRuleI
import Derived.Test.YtbjjlgnelbcmlaaZrows
namespace Go.Proofs.Ytbjjlgnelbcmlaa
open Go.RowKit
set_option linter.unusedVariables false

set_option maxHeartbeats 3200000 in
theorem lawUnknownUrn {A : Option Addr} {n c : Nat} {bs : List Int} {w : World} (h : Bts w w.heap.size A n c bs) :
    Calls Try.prog 9 #[.slice A n c] w fun e w' => e = .returned (.bool true) ∧ Below w.heap.size w w' := by
  have hbig := h.big
  have hle := h.le
  unfold maxLen at hbig
  by_cases hn : 1048576 < n
  · go_enter Try.func9, Try.ntmps9
    go_wp2
    go_ret
    exact ⟨rfl, Below.refl _ _⟩
  · have hD := hide (DrawBoxSum_c A n c bs w h)
    obtain ⟨i0, hi, hz0, hz1, hz2⟩ := info_parts infoInt
    go_enter Try.func9, Try.ntmps9
    go_wp2_with fail
    refine hD.out.mono ?_
    rintro e w0 ⟨m, f, s, rfl, hlom, hhim, hlof, hhif, hlos, hhis, hb⟩
    replace hb := hide hb
    clear hD
    have hwm := wf_i64 (z := m) (by omega)
    have hwf := wf_i64 (z := f) (by omega)
    have hws := wf_i64 (z := s) (by omega)
    go_wp2_with fail
    refine (boxSum_impl m f s _ hwm hwf hws).mono ?_
    rintro e w1 ⟨rfl, hq⟩
    replace hb := hide (upB hb.out (hq))
    clear hq
    by_cases hok : boxOk m f s = true
    · obtain ⟨M, F, S, rfl, rfl, rfl, h1, h8, hs⟩ := boxOk_yes hok
      have e0 : boxSum (M : Int) (F : Int) (S : Int) = (boxT M F S (M + 1) : Int) := by unfold boxSum; rw [if_pos hok, Int.toNat_natCast, Int.toNat_natCast, Int.toNat_natCast]
      obtain ⟨t0, t1, _, _⟩ := sum_bound h1 h8 hs
      have hus := fun h => unk_step h1 h8 hs h
      rw [e0]
      obtain ⟨T, hT⟩ : ∃ T : Nat, Hid (boxT M F S (M + 1) = T) := ⟨_, hide rfl⟩
      rw [hT.out] at t0 t1 hus ⊢
      clear e0 hok
      by_cases h6 : F + S ≤ 6
      · have hus := hus h6
        have hall := hide (all_one h6)
        have hwrd := hide (word_one h6)
        have hUL := hide (wordU_len F S)
        have hUT := hide (fun (k : Nat) (h : k < F + S) => take_succ (wordU_at h))
        have hFB := hide (fun (k : Nat) (h : k ≤ 6) => fallU_bound (M := M) h8 h)
        have hFS := hide (fun (k : Nat) => show fallU M (k + 1) = fallU M k * (M - k) from rfl)
        have hw1 := wf_i64 (z := 1) (by omega)
        have hw0 := wf_i64 (z := 0) (by omega)
        have hsr : sameRule 2 1 = sameR 2 1 := by decide
        have fb1 := fact_bound (k := F + S + 1) (by omega)
        have fb2 := fact_bound (k := F) (by omega)
        have fb3 := fact_bound (k := S) (by omega)
        have fm := Nat.mul_le_mul fb2 fb3
        have fuB := hFB.out (F + S) h6
        obtain ⟨X, hX⟩ : ∃ X : Nat, Hid (factN (F + S + 1) = X) := ⟨_, hide rfl⟩
        obtain ⟨Y, hY⟩ : ∃ Y : Nat, Hid (factN F * factN S = Y) := ⟨_, hide rfl⟩
        obtain ⟨U, hU⟩ : ∃ U : Nat, Hid (fallU M (F + S) = U) := ⟨_, hide rfl⟩
        rw [hX.out] at fb1 hall hus
        rw [hY.out] at fm hwrd hus
        rw [hU.out] at fuB hus
        obtain ⟨p0, p1⟩ := mul_bound (a := (T : Int)) (M := 1000000) (by omega) (by omega) (b := (X : Int)) (N := 5040) (by omega) (by omega)
        obtain ⟨p2, p3⟩ := mul_bound (a := (U : Int)) (M := 181440) (by omega) (by omega) (b := (Y : Int)) (N := 25401600) (by omega) (by omega)
        have hfin : ((T : Int) * (X : Int) == (U : Int) * (Y : Int)) = true := by
          have e : ((T * X : Nat) : Int) = ((U * Y : Nat) : Int) := by rw [hus]
          rw [Int.natCast_mul, Int.natCast_mul] at e
          simpa using e
        have hF8 : F ≤ 6 := by omega
        have hS8 : S ≤ 6 := by omega
        have hFS6 : (F : Int) + (S : Int) ≤ 6 := by omega
        have hs2 := hide hs
        clear hus hs
        have howd0 := hide (own_empty (w := w1) (base := w.heap.size) hb.out.size)
        have hbw0 := hide (upB hb.out (al _ (.cells #[] 3)))
        go_wp2_with fail
        go_loopw [7, 8, 9] (fun v t i wr => ∃ k : Nat, ∃ A c, ∃ Z : Int, k ≤ F + S ∧ i = .int .i64 k ∧ v = .slice A k c ∧ t = .int .i64 Z ∧ Hid (Z = (fallU M k : Int)) ∧ Hid (Own wr w.heap.size (.slice A k c) ((wordU F S).take k)) ∧ Hid (Below w.heap.size w wr)) (fun _ _ i _ => F + S - (intOf i).toNat)
        case atStart => exact ⟨0, _, _, _, Nat.zero_le _, rfl, rfl, rfl, hide (by simp [fallU]), howd0, hbw0⟩
        case round =>
          clear howd0 hbw0
          obtain ⟨k, A1, c1, Z, hk, rfl, rfl, rfl, hZ, howd, hbw⟩ := hrel
          have hst := hbw.out.size
          by_cases hlt : k < F + S
          · have hltI : (k : Int) < (F : Int) + (S : Int) := by omega
            have hzb := hFB.out k (by omega)
            have hZ0 : 0 ≤ Z ∧ Z ≤ 181440 := by rw [hZ.out]; omega
            obtain ⟨z0, z1⟩ := hZ0
            clear hzb
            have hnx := hide (show Z * ((M : Int) - (k : Int)) = (fallU M (k + 1) : Int) by rw [hFS.out k, hZ.out, Int.natCast_mul, Int.natCast_sub (show k ≤ M by have := hs2.out; omega)])
            obtain ⟨q0, q1⟩ := mul_bound z0 z1 (b := (M : Int) - (k : Int)) (N := 8) (by have := hs2.out; omega) (by omega)
            have htk := hide (hUT.out k hlt)
            have hol := hide howd.out.len
            by_cases hkF : k < F
            · have hv := hide (show (if k < F then (0 : Int) else 1) = 0 from if_pos hkF)
              go_wp2_with (at_builtin; refine wpList_app _ rfl _ _ 32 rfl i0 Try.underlying32 hi hz0 hz1 hz2 _ _ rfl (howd.out.alloc _) _ 1 1 _ [0] rfl (ints_lit1 hw0) (by simp; omega) (by have := hol.out; omega) ?_; intro A₃ n₃ c₃ w3 ho3 hg3)
              have hn3 : n₃ = k + 1 := by have e := ho3.len; rw [List.length_append, ← hol.out] at e; simpa using e
              subst hn3
              have ho3 := hide (show Own w3 w.heap.size (.slice A₃ (k + 1) c₃) ((wordU F S).take (k + 1)) by rw [htk.out, hv.out]; exact ho3)
              have hb3 := hide ((hbw.out.alloc hst (.cells #[.int .i64 0] 3)).grown hg3 (by simp; omega) (fun j hj => (howd.out.row.lt j hj).1))
              clear hg3
              go_wp2_with fail
              go_roundw
              case rel => exact ⟨k + 1, _, _, _, by omega, by go_num, rfl, rfl, hnx, ho3, hb3⟩
              case measure => simp [intOf]; omega
            · have hv := hide (show (if k < F then (0 : Int) else 1) = 1 from if_neg hkF)
              go_wp2_with (at_builtin; refine wpList_app _ rfl _ _ 32 rfl i0 Try.underlying32 hi hz0 hz1 hz2 _ _ rfl (howd.out.alloc _) _ 1 1 _ [1] rfl (ints_lit1 hw1) (by simp; omega) (by have := hol.out; omega) ?_; intro A₃ n₃ c₃ w3 ho3 hg3)
              have hn3 : n₃ = k + 1 := by have e := ho3.len; rw [List.length_append, ← hol.out] at e; simpa using e
              subst hn3
              have ho3 := hide (show Own w3 w.heap.size (.slice A₃ (k + 1) c₃) ((wordU F S).take (k + 1)) by rw [htk.out, hv.out]; exact ho3)
              have hb3 := hide ((hbw.out.alloc hst (.cells #[.int .i64 1] 3)).grown hg3 (by simp; omega) (fun j hj => (howd.out.row.lt j hj).1))
              clear hg3
              go_wp2_with fail
              go_roundw
              case rel => exact ⟨k + 1, _, _, _, by omega, by go_num, rfl, rfl, hnx, ho3, hb3⟩
              case measure => simp [intOf]; omega
          · obtain ⟨kk, hkk⟩ : ∃ m, m = F + S := ⟨_, rfl⟩
            have hkc := hide (show k = F + S by omega)
            have hkI : ¬ (k : Int) < (F : Int) + (S : Int) := by omega
            clear hkk kk
            have hZf := hide (show Z = (U : Int) by rw [hZ.out, hkc.out, hU.out])
            have hows := hide (show Own wr 0 (.slice A1 k c1) (wordU F S) by
              have := howd.out.down (Nat.zero_le _)
              rwa [List.take_of_length_le (by rw [hUL.out, hkc.out]; exact Nat.le_refl _)] at this)
            clear howd hZ
            replace hb := hbw
            have hkn : (k : Int) = ((F + S : Nat) : Int) := by have := hkc.out; omega
            replace hkn := hide hkn
            go_wp2_with fail
            refine (sameRule_impl 2 1 _ hw1).mono ?_
            rintro e w2 ⟨Ars, nrs, crs, rfl, ho, hq⟩
            replace hows := hide (hows.out.up hq)
            replace hb := hide (upB hb.out (hq))
            have hzrs := hide ho.mat
            have hlrs := hide hzrs.out.len
            clear hq ho
            rw [hsr] at hzrs hlrs
            go_wp2_with fail
            refine (alive_c _).mono ?_
            rintro e w3 ⟨rfl, hq⟩
            replace hzrs := hide (hzrs.out.up hq)
            replace hows := hide (hows.out.up hq)
            replace hb := hide (upB hb.out (hq))
            clear hq
            have houa := hide (show Ints (w3.alloc (.cells #[.int .i64 1, .int .i64 1] 3)) (w3.alloc (.cells #[.int .i64 1, .int .i64 1] 3)).heap.size (some ⟨w3.heap.size, 0, none⟩) 2 2 [1, 1] from ints_lit2 hw1 hw1 w3)
            replace hzrs := hide (hzrs.out.up (al _ (.cells #[.int .i64 1, .int .i64 1] 3)))
            replace hows := hide (hows.out.up (al _ (.cells #[.int .i64 1, .int .i64 1] 3)))
            replace hb := hide (upB hb.out ((al _ (.cells #[.int .i64 1, .int .i64 1] 3))))
            go_wp2_with fail
            rw [hkn.out]
            refine (ruleAll_impl _ _ _ _ _ _ _ _ [1, 1] (sameR 2 1) ((F + S : Nat) : Int) _ houa.out hzrs.out (Nat.le_refl _) (Nat.le_refl _)).mono ?_
            rw [hall.out]
            rintro e w4 ⟨rfl, hq⟩
            replace hzrs := hide (hzrs.out.up hq)
            replace hows := hide (hows.out.up hq)
            replace hb := hide (upB hb.out (hq))
            clear hq
            clear houa
            have houb := hide (show Ints (w4.alloc (.cells #[.int .i64 1, .int .i64 1] 3)) (w4.alloc (.cells #[.int .i64 1, .int .i64 1] 3)).heap.size (some ⟨w4.heap.size, 0, none⟩) 2 2 [1, 1] from ints_lit2 hw1 hw1 w4)
            replace hzrs := hide (hzrs.out.up (al _ (.cells #[.int .i64 1, .int .i64 1] 3)))
            replace hows := hide (hows.out.up (al _ (.cells #[.int .i64 1, .int .i64 1] 3)))
            replace hb := hide (upB hb.out ((al _ (.cells #[.int .i64 1, .int .i64 1] 3))))
            go_wp2_with fail
            refine (ruleWays_impl _ _ _ _ _ _ _ _ _ _ _ _ [1, 1] (sameR 2 1) (wordU F S) _ houb.out hzrs.out hows.out.ints (Nat.le_refl _) (Nat.le_refl _) (Nat.le_refl _)).mono ?_
            rw [hwrd.out]
            rintro e w5 ⟨rfl, hq⟩
            replace hzrs := hide (hzrs.out.up hq)
            replace hows := hide (hows.out.up hq)
            replace hb := hide (upB hb.out (hq))
            clear hq
            rw [hZf.out]
            go_wp2_with fail
            go_ret
            exact ⟨by first | rfl | exact ret_bool hfin | simp, hb.out⟩
      · have h6I : 6 < (F : Int) + (S : Int) := by omega
        have hF8 : F ≤ 8 := by omega
        have hS8 : S ≤ 8 := by omega
        clear hus
        go_wp2_with fail
        refine (alive_c _).mono ?_
        rintro e wz ⟨rfl, hq⟩
        go_wp2_with fail
        go_ret
        exact ⟨by simp, upB hb.out hq⟩
    · have e0 : boxSum m f s = -1 := by unfold boxSum; rw [if_neg hok]
      rw [e0]
      clear e0 hok
      go_wp2_with fail
      refine (alive_c _).mono ?_
      rintro e wz ⟨rfl, hq⟩
      go_wp2_with fail
      go_ret
      exact ⟨by simp, upB hb.out hq⟩
end Go.Proofs.Ytbjjlgnelbcmlaa
