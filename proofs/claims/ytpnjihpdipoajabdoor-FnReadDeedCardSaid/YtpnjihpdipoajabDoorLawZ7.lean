/-
  Laws of chapter 14 walked: FnReadDeed (written by wip/gen_f11.py).
-/
import Derived.Test.YtpnjihpdipoajabDoorDrawRd
import Derived.Test.YtpnjihpdipoajabDoorDeedK
import Derived.Test.YtpnjihpdipoajabDoorReadD
import Derived.Test.YtpnjihpdipoajabDoorZdraw
import Derived.Test.YtpnjihpdipoajabDoorStrE
namespace Go.Proofs.YtpnjihpdipoajabDoor
open Go.RowKit
set_option linter.unusedVariables false

set_option maxRecDepth 100000 in
set_option maxHeartbeats 3200000 in
theorem lawReadDeed {A : Option Addr} {n c : Nat} {bs : List Int} {w : World} (h : Bts w w.heap.size A n c bs) (hL : LaidN w) (hD : LaidD w) :
    Calls Tryd.prog 4 #[.slice A n c] w fun e w' => e = .returned (.bool true) ∧ Below w.heap.size w w' := by
  have hbig := h.big
  have hle := h.le
  unfold maxLen at hbig
  by_cases hn : 1048576 < n
  · go_enter Tryd.func4, Tryd.ntmps4
    go_wp2
    go_ret
    exact ⟨rfl, Below.refl _ _⟩
  ·
    have hDr := hide (DrawReadDeed_c A n c bs w h)
    go_enter Tryd.func4, Tryd.ntmps4
    go_wp2_with fail
    refine hDr.out.mono ?_
    rintro e w0 ⟨s, rfl, hs, hb⟩
    replace hb := hide hb
    clear hDr
    have HI := hide (fun (W : World) (hl : LaidN W) (hd : LaidD W) => readDeed_impl s W hl hd (by omega))
    have HS := hide (fun (W : World) => readDeed_spec s W (by omega))
    have hyes := hide (fun (h : readDB (bts s) = true) => show strB (deedT (readDQ (bts s))) = s ∧ readDB (bts (s ++ ⟨#[32]⟩)) = false ∧ readDQ (bts (s ++ ⟨#[32]⟩)) = noDed from by
      obtain ⟨d, hd⟩ : ∃ d, readD (bts s) = some d := by unfold readDB at h; exact Option.isSome_iff_exists.1 h
      have e0 : bts (s ++ ⟨#[32]⟩) = bts s ++ [32] := by rw [← bts_strB (bts s ++ [32]), strB_append, strB_bts]; rfl
      have hn := readD_space hd
      refine ⟨by unfold readDQ; rw [hd]; show strB (deedT d) = s; rw [(readD_iff.1 hd).1, strB_bts], ?_, ?_⟩
      · unfold readDB; rw [e0, hn]; rfl
      · unfold readDQ; rw [e0, hn]; rfl)
    have hno := hide (fun (h : readDB (bts s) = false) => show readDQ (bts s) = noDed from by
      unfold readDB at h
      unfold readDQ
      cases hr : readD (bts s) with
      | none => rfl
      | some d => rw [hr] at h; cases h)
    obtain ⟨V, hV⟩ : ∃ V, Hid (readDB (bts s) = V) := ⟨_, hide rfl⟩
    obtain ⟨P, hP⟩ : ∃ P, Hid (readDQ (bts s) = P) := ⟨_, hide rfl⟩
    rw [hV.out, hP.out] at HI HS hyes hno
    go_wp2_with fail
    refine (HI.out _ (hL.up hb.out) (hD.up hb.out)).mono ?_
    rintro e w1 ⟨rfl, hq⟩
    replace hb := hide (upB hb.out hq)
    clear hq
    replace hb := hide (upB hb.out (al w1 (.cells #[.int .i64 P.k, .int .i64 P.a, .int .i64 P.b] 24)))
    have t4 := hide (TriW.made w1 (.int .i64 P.k) (.int .i64 P.a) (.int .i64 P.b) 24)
    obtain ⟨q1c0, q1c1, q1c2, q1f0, q1f1, q1f2, _⟩ := t4.out
    go_wp2_with fail
    refine (HS.out _).mono ?_
    rintro e w2 ⟨rfl, hq⟩
    replace t4 := hide (t4.out.up hq)
    replace hb := hide (upB hb.out hq)
    clear hq
    replace t4 := hide (t4.out.up (al w2 (.cells #[.int .i64 P.k, .int .i64 P.a, .int .i64 P.b] 24)))
    replace hb := hide (upB hb.out (al w2 (.cells #[.int .i64 P.k, .int .i64 P.a, .int .i64 P.b] 24)))
    have t6 := hide (TriW.made w2 (.int .i64 P.k) (.int .i64 P.a) (.int .i64 P.b) 24)
    cases V with
    | false =>
      have hPn := hno.out rfl
      subst hPn
      clear hyes HI HS hno hP
      clear q1c0 q1c1 q1c2 q1f0 q1f1 q1f2
      obtain ⟨q2c0, q2c1, q2c2, q2f0, q2f1, q2f2, _⟩ := t4.out
      obtain ⟨q3c0, q3c1, q3c2, q3f0, q3f1, q3f2, _⟩ := t6.out
      go_wp2_with fail
      refine (alive_c _).mono ?_
      rintro e w3 ⟨rfl, hq⟩
      replace t4 := hide (t4.out.up hq)
      replace t6 := hide (t6.out.up hq)
      replace hb := hide (upB hb.out hq)
      clear hq
      clear q2c0 q2c1 q2c2 q2f0 q2f1 q2f2 q3c0 q3c1 q3c2 q3f0 q3f1 q3f2
      obtain ⟨q4c0, q4c1, q4c2, q4f0, q4f1, q4f2, _⟩ := t4.out
      obtain ⟨q5c0, q5c1, q5c2, q5f0, q5f1, q5f2, _⟩ := t6.out
      go_wp2_with fail
      go_ret
      exact ⟨rfl, hb.out⟩
    | true =>
      obtain ⟨hT, hv2, hq2⟩ := hyes.out rfl
      have hT := hide hT
      have HI2 := hide (fun (W : World) (hl : LaidN W) (hd : LaidD W) => readDeed_impl (s ++ ⟨#[32]⟩) W hl hd (by rw [ByteArray.size_append]; show s.size + 1 < _; omega))
      rw [hv2, hq2] at HI2
      clear hv2 hq2
      have q1 : ¬ 9223372036854775807 < s.size + 1 := by omega
      clear q1c0 q1c1 q1c2 q1f0 q1f1 q1f2
      obtain ⟨q6c0, q6c1, q6c2, q6f0, q6f1, q6f2, _⟩ := t4.out
      obtain ⟨q7c0, q7c1, q7c2, q7f0, q7f1, q7f2, _⟩ := t6.out
      go_wp2_with fail
      refine (HI2.out _ (hL.up hb.out) (hD.up hb.out)).mono ?_
      rintro e w3 ⟨rfl, hq⟩
      replace t4 := hide (t4.out.up hq)
      replace t6 := hide (t6.out.up hq)
      replace hb := hide (upB hb.out hq)
      clear hq
      replace t4 := hide (t4.out.up (al w3 (.cells #[.int .i64 noDed.k, .int .i64 noDed.a, .int .i64 noDed.b] 24)))
      replace t6 := hide (t6.out.up (al w3 (.cells #[.int .i64 noDed.k, .int .i64 noDed.a, .int .i64 noDed.b] 24)))
      replace hb := hide (upB hb.out (al w3 (.cells #[.int .i64 noDed.k, .int .i64 noDed.a, .int .i64 noDed.b] 24)))
      have t8 := hide (TriW.made w3 (.int .i64 noDed.k) (.int .i64 noDed.a) (.int .i64 noDed.b) 24)
      have HT := hide (deedText_impl P _ (hL.up hb.out).t (hD.up hb.out))
      rw [hT.out] at HT
      clear q6c0 q6c1 q6c2 q6f0 q6f1 q6f2 q7c0 q7c1 q7c2 q7f0 q7f1 q7f2
      obtain ⟨q8c0, q8c1, q8c2, q8f0, q8f1, q8f2, _⟩ := t4.out
      obtain ⟨q9c0, q9c1, q9c2, q9f0, q9f1, q9f2, _⟩ := t6.out
      obtain ⟨q10c0, q10c1, q10c2, q10f0, q10f1, q10f2, _⟩ := t8.out
      go_wp2_with fail
      refine (HT.out).mono ?_
      rintro e w4 ⟨rfl, hq⟩
      replace t4 := hide (t4.out.up hq)
      replace t6 := hide (t6.out.up hq)
      replace t8 := hide (t8.out.up hq)
      replace hb := hide (upB hb.out hq)
      clear hq
      clear q8c0 q8c1 q8c2 q8f0 q8f1 q8f2 q9c0 q9c1 q9c2 q9f0 q9f1 q9f2 q10c0 q10c1 q10c2 q10f0 q10f1 q10f2
      obtain ⟨q11c0, q11c1, q11c2, q11f0, q11f1, q11f2, _⟩ := t4.out
      obtain ⟨q12c0, q12c1, q12c2, q12f0, q12f1, q12f2, _⟩ := t6.out
      obtain ⟨q13c0, q13c1, q13c2, q13f0, q13f1, q13f2, _⟩ := t8.out
      go_wp2_with fail
      go_ret
      exact ⟨by simp, hb.out⟩
end Go.Proofs.YtpnjihpdipoajabDoor
