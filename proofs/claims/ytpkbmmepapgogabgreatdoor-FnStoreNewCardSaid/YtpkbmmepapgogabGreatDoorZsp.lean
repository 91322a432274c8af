/-
  Words, plain lemmas and contracts that belong together, joined into one file.
-/
import Derived.Test.YtpkbmmepapgogabGreatDoorZpb
import Derived.Test.YtpkbmmepapgogabGreatDoorZdf
import Derived.Test.YtpkbmmepapgogabGreatDoorZst
import Derived.Test.YtpkbmmepapgogabGreatDoorZjs
import Derived.Test.YtpkbmmepapgogabGreatDoorZtx
import Derived.Test.YtpkbmmepapgogabGreatDoorStrE
import Derived.Test.YtpkbmmepapgogabGreatDoorStoreI
import Derived.Test.YtpkbmmepapgogabGreatDoorJournJ
import Derived.Test.YtpkbmmepapgogabGreatDoorZdsl
import Derived.Test.YtpkbmmepapgogabGreatDoorZdd
import Derived.Test.YtpkbmmepapgogabGreatDoorZmd
namespace Go.Proofs.YtpkbmmepapgogabGreatDoor
open Go.RowKit
set_option linter.unusedVariables false

theorem linesT_ge (l : List Ded) : l.length ≤ (linesT l).length := by
  induction l with
  | nil => exact Nat.le_refl _
  | cons d r ih =>
    show r.length + 1 ≤ (deedT d ++ 10 :: linesT r).length
    rw [List.length_append, List.length_cons]
    omega
theorem readJ_cnt (s : Bs) : (readJ s).1.length ≤ s.length := by
  have h1 := linesT_ge (readJ s).1
  have h2 := readJ_num s
  have h3 := readJ_len s
  omega
theorem openX_no {s : Sto} (h : storeOk s = false) : openX s = noDsk := by unfold openX; rw [h]; rfl
end Go.Proofs.YtpkbmmepapgogabGreatDoor

namespace Go.Proofs.YtpkbmmepapgogabGreatDoor
open Go.RowKit
set_option linter.unusedVariables false

end Go.Proofs.YtpkbmmepapgogabGreatDoor

namespace Go.Proofs.YtpkbmmepapgogabGreatDoor
open Go.RowKit
set_option linter.unusedVariables false

theorem OwnD.gr {w w' : World} {b lo : Nat} {v : Value} {ds : List Ded} (ho : OwnD w b v ds) (h : GrP lo w w') : OwnD w' b v ds :=
  ⟨row_sameP ho.row fun k hk => by
    rcases ho.row.2 with ⟨rfl, _⟩ | ⟨g, cap, cur, rfl, _, hh, _⟩
    · cases hk
    · simp [Value.ownBlock] at hk
      subst hk
      exact h.obj hh (by decide), ho.wf⟩
/-- The world stands over an elder one. -/
structure Fr (a w : World) : Prop where
  b : Below a.heap.size a w
theorem Fr.up {a w w' : World} (h : Fr a w) (hq : Below w.heap.size w w') : Fr a w' := ⟨upB h.b hq⟩

set_option maxRecDepth 100000 in
set_option maxHeartbeats 3200000 in
theorem storeOpen_impl (s : Sto) (w : World) (hL : LaidN w) (hD : LaidD w) :
    Calls Tryz.prog 16 #[.agg #[.string s.saved, .string s.log, .int .i64 s.sure]] w fun e w' => ∃ u, e = .returned (.tuple #[u, .bool (storeOk s)]) ∧ DkR w' w.heap.size u (openX s) ∧ Below w.heap.size w w' := by
  obtain ⟨sv, lg, su⟩ := s
  show Calls Tryz.prog 16 #[.agg #[.string sv, .string lg, .int .i64 su]] w _
  have hb := hide (show Below w.heap.size w ((w.alloc (.cells #[.string sv, .string lg, .int .i64 su] 24)).alloc (.cells #[.slice none 0 0, .int .i64 0, .slice none 0 0, .slice none 0 0] 37)) from (al w _).alloc (by simp) _)
  have ta := hide (show TriW ((w.alloc (.cells #[.string sv, .string lg, .int .i64 su] 24)).alloc (.cells #[.slice none 0 0, .int .i64 0, .slice none 0 0, .slice none 0 0] 37)) (w.heap.size) (.string sv) (.string lg) (.int .i64 su) from (TriW.made w (.string sv) (.string lg) (.int .i64 su) 24).alloc (.cells #[.slice none 0 0, .int .i64 0, .slice none 0 0, .slice none 0 0] 37))
  have tr := hide (show DBox ((w.alloc (.cells #[.string sv, .string lg, .int .i64 su] 24)).alloc (.cells #[.slice none 0 0, .int .i64 0, .slice none 0 0, .slice none 0 0] 37)) (w.heap.size + 1) (.slice none 0 0) (.int .i64 0) (.slice none 0 0) (.slice none 0 0) from DBox.madeAt (by simp))
  replace hL := hide hL
  replace hD := hide hD
  have HO := hide (storeOk_impl ⟨sv, lg, su⟩ ((w.alloc (.cells #[.string sv, .string lg, .int .i64 su] 24)).alloc (.cells #[.slice none 0 0, .int .i64 0, .slice none 0 0, .slice none 0 0] 37)) (hL.out.up hb.out))
  cases hok : storeOk ⟨sv, lg, su⟩ with
  | false =>
    rw [hok] at HO
    have e1 := hide (openX_no hok)
    go_enter Tryz.func16, Tryz.ntmps16
    obtain ⟨q1c0, q1c1, q1c2, q1f0, q1f1, q1f2, _⟩ := ta.out
    go_wp2_with fail
    refine (HO.out).mono ?_
    rintro e w1 ⟨rfl, hq⟩
    replace tr := hide (tr.out.up hq)
    replace ta := hide (ta.out.up hq)
    replace hb := hide (upB hb.out hq)
    clear hq
    clear q1c0 q1c1 q1c2 q1f0 q1f1 q1f2
    obtain ⟨q2c0, q2c1, q2c2, q2f0, q2f1, q2f2, _⟩ := ta.out
    obtain ⟨o0, o1, o2, o3, p0, p1, p2, p3, _⟩ := tr.out.qua
    go_wp2_with fail
    obtain ⟨z0, z1, z2, z3, _⟩ := (tr.out.set (.slice none 0 0) (.int .i64 0) (.slice none 0 0) (.slice none 0 0)).qua
    exact bodyPost_ret (v := .tuple #[.agg #[.slice none 0 0, .int .i64 0, .slice none 0 0, .slice none 0 0], .bool false]) (by simp [results, Tryz.results16, go_sem, z0, z1, z2, z3]) rfl ⟨_, rfl, by rw [e1.out]; exact noDkR, ((((hb.out).setCell (by simp only; omega) _).setCell (by simp only; omega) _).setCell (by simp only; omega) _).setCell (by simp only; omega) _⟩
  | true =>
    rw [hok] at HO
    have e1 := hide (openX_D hok)
    have hdok := hide (savedD_ok hok)
    have hlg := (storeOk_yes hok).2.1
    have hcn := readJ_cnt (bts lg)
    rw [bts_len] at hcn
    simp only at hlg
    have eD := hide (show openD ⟨sv, lg, su⟩ = runD ⟨readQ (bts sv), []⟩ (readJ (bts lg)).1 from rfl)
    obtain ⟨P, hP⟩ : ∃ P, Hid (readQ (bts sv) = P) := ⟨_, hide rfl⟩
    obtain ⟨J, hJ⟩ : ∃ J, Hid ((readJ (bts lg)).1 = J) := ⟨_, hide rfl⟩
    obtain ⟨N, hN⟩ : ∃ N, Hid ((readJ (bts lg)).2 = N) := ⟨_, hide rfl⟩
    replace hdok := hide (show deskOk ⟨P, []⟩ = true by rw [← hP.out]; exact hdok.out)
    rw [hP.out, hJ.out] at eD
    rw [hJ.out] at hcn
    have HR := hide (fun (W : World) (hl : LaidN W) => readPlace_impl sv W hl)
    have HJ := hide (fun (W : World) (hl : LaidN W) (hd : LaidD W) => readJournal_impl lg W hl hd (by omega))
    rw [hP.out] at HR
    rw [hJ.out, hN.out] at HJ
    go_enter Tryz.func16, Tryz.ntmps16
    obtain ⟨q3c0, q3c1, q3c2, q3f0, q3f1, q3f2, _⟩ := ta.out
    go_wp2_with fail
    refine (HO.out).mono ?_
    rintro e w1 ⟨rfl, hq⟩
    replace tr := hide (tr.out.up hq)
    replace ta := hide (ta.out.up hq)
    replace hb := hide (upB hb.out hq)
    clear hq
    have hlt := hide (show w.heap.size + 1 < w1.heap.size from tr.out.lt)
    have fr := hide (Fr.mk (Below.refl w1.heap.size w1))
    have ta_1 := ta
    have tr_1 := tr
    have hb_1 := hb
    clear q3c0 q3c1 q3c2 q3f0 q3f1 q3f2
    obtain ⟨q4c0, q4c1, q4c2, q4f0, q4f1, q4f2, _⟩ := ta.out
    go_wp2_with fail
    refine (HR.out _ (hL.out.up hb.out)).mono ?_
    rintro e w2 ⟨u, rfl, hp, hq⟩
    replace tr := hide (tr.out.up hq)
    replace fr := hide (fr.out.up hq)
    replace ta := hide (ta.out.up hq)
    replace hb := hide (upB hb.out hq)
    clear hq
    obtain ⟨A1, n1, c1, B1, m1, d1, rfl, o1, o2, hne, hwf⟩ := hp.ex
    have hone := hide (show OneT w2 w1.heap.size (.slice A1 n1 c1, .slice B1 m1 d1, P) from ⟨o1, o2, ap_of hne, hwf⟩)
    clear hp o1 o2 hne hwf
    replace tr := hide (tr.out.up (al w2 (.cells #[.slice A1 n1 c1, .int .i64 P.step, .slice B1 m1 d1] 31)))
    replace fr := hide (fr.out.up (al w2 (.cells #[.slice A1 n1 c1, .int .i64 P.step, .slice B1 m1 d1] 31)))
    replace hone := hide (hone.out.up (al w2 (.cells #[.slice A1 n1 c1, .int .i64 P.step, .slice B1 m1 d1] 31)))
    replace ta := hide (ta.out.up (al w2 (.cells #[.slice A1 n1 c1, .int .i64 P.step, .slice B1 m1 d1] 31)))
    replace hb := hide (upB hb.out (al w2 (.cells #[.slice A1 n1 c1, .int .i64 P.step, .slice B1 m1 d1] 31)))
    have t4 := hide (TriW.made w2 (.slice A1 n1 c1) (.int .i64 P.step) (.slice B1 m1 d1) 31)
    clear q4c0 q4c1 q4c2 q4f0 q4f1 q4f2
    obtain ⟨q5c0, q5c1, q5c2, q5f0, q5f1, q5f2, _⟩ := ta.out
    obtain ⟨q6c0, q6c1, q6c2, q6f0, q6f1, q6f2, _⟩ := t4.out
    go_wp2_with fail
    refine (HJ.out _ (hL.out.up hb.out) (hD.out.up hb.out)).mono ?_
    rintro e w3 ⟨AJ, nJ, cJ, rfl, hj, hq⟩
    replace tr := hide (tr.out.up hq)
    replace fr := hide (fr.out.up hq)
    replace hone := hide (hone.out.up hq)
    replace ta := hide (ta.out.up hq)
    replace t4 := hide (t4.out.up hq)
    replace hb := hide (upB hb.out hq)
    clear hq
    have hjl := hide hj.len
    replace hj := hide hj
    clear q5c0 q5c1 q5c2 q5f0 q5f1 q5f2 q6c0 q6c1 q6c2 q6f0 q6f1 q6f2
    obtain ⟨q7c0, q7c1, q7c2, q7f0, q7f1, q7f2, _⟩ := ta.out
    obtain ⟨q8c0, q8c1, q8c2, q8f0, q8f1, q8f2, _⟩ := t4.out
    go_wp2_with fail
    refine (deskAfterAll_c (.agg #[.slice A1 n1 c1, .int .i64 P.step, .slice B1 m1 d1, .slice none 0 0]) ⟨P, []⟩ J AJ nJ cJ w1.heap.size w3 (dkR_mk (ts := []) hone.out rfl rfl SlO.nil ⟨fun t ht => by rw [List.mem_singleton] at ht; rw [ht]; exact hone.out, List.pairwise_singleton _ _⟩ rfl) fr.out.b.size hdok.out (by have := hjl.out; omega) (fun w2 hg => ⟨hD.out.up (upB hb_1.out (hg.belowUp fr.out.b (Nat.le_refl _) (Nat.le_refl _))), (hj.out.gr hg).deeds⟩)).mono ?_
    rintro e w4 ⟨u, rfl, hF, hg⟩
    clear q7c0 q7c1 q7c2 q7f0 q7f1 q7f2 q8c0 q8c1 q8c2 q8f0 q8f1 q8f2
    have hq1 := hide (GrP.belowUp hg fr.out.b (Nat.le_refl _) (Nat.le_refl _))
    replace ta := hide (ta_1.out.up hq1.out)
    replace tr := hide (tr_1.out.up hq1.out)
    replace hb := hide (upB hb_1.out hq1.out)
    replace fr := hide (Fr.mk hq1.out)
    clear hq1
    obtain ⟨A2, n2, c2, B2, m2, d2, E2, r2, s2, ts2, rfl, y1, y2, y3, y4⟩ := hF.open_
    clear y1 y2 y3 y4 ts2 hg
    replace hF := hide hF
    rw [← eD.out, ← e1.out] at hF
    rw [show (runD ⟨P, []⟩ J).now.step = (openX ⟨sv, lg, su⟩).now.step by rw [e1.out, eD.out]]
    replace tr := hide (tr.out.up (al w4 (.cells #[.slice A2 n2 c2, .int .i64 (openX ⟨sv, lg, su⟩).now.step, .slice B2 m2 d2, .slice E2 r2 s2] 37)))
    replace fr := hide (fr.out.up (al w4 (.cells #[.slice A2 n2 c2, .int .i64 (openX ⟨sv, lg, su⟩).now.step, .slice B2 m2 d2, .slice E2 r2 s2] 37)))
    replace hF := hide (hF.out.up (al w4 (.cells #[.slice A2 n2 c2, .int .i64 (openX ⟨sv, lg, su⟩).now.step, .slice B2 m2 d2, .slice E2 r2 s2] 37)))
    replace ta := hide (ta.out.up (al w4 (.cells #[.slice A2 n2 c2, .int .i64 (openX ⟨sv, lg, su⟩).now.step, .slice B2 m2 d2, .slice E2 r2 s2] 37)))
    replace hb := hide (upB hb.out (al w4 (.cells #[.slice A2 n2 c2, .int .i64 (openX ⟨sv, lg, su⟩).now.step, .slice B2 m2 d2, .slice E2 r2 s2] 37)))
    have t8 := hide (QuaW.made w4 (.slice A2 n2 c2) (.int .i64 (openX ⟨sv, lg, su⟩).now.step) (.slice B2 m2 d2) (.slice E2 r2 s2) 37)
    obtain ⟨q9c0, q9c1, q9c2, q9f0, q9f1, q9f2, _⟩ := ta.out
    obtain ⟨q10c0, q10c1, q10c2, q10c3, q10f0, q10f1, q10f2, q10f3, _⟩ := t8.out
    obtain ⟨o0, o1, o2, o3, p0, p1, p2, p3, _⟩ := tr.out.qua
    go_wp2_with fail
    obtain ⟨z0, z1, z2, z3, _⟩ := (tr.out.set (.slice A2 n2 c2) (.int .i64 (openX ⟨sv, lg, su⟩).now.step) (.slice B2 m2 d2) (.slice E2 r2 s2)).qua
    exact bodyPost_ret (v := .tuple #[.agg #[.slice A2 n2 c2, .int .i64 (openX ⟨sv, lg, su⟩).now.step, .slice B2 m2 d2, .slice E2 r2 s2], .bool true]) (by simp [results, Tryz.results16, go_sem, z0, z1, z2, z3]) rfl ⟨_, rfl, (hF.out.set4 ⟨tr.out.ob⟩ _ _ _ _).down (by have := hlt.out; omega), ((((hb.out).setCell (by simp only; omega) _).setCell (by simp only; omega) _).setCell (by simp only; omega) _).setCell (by simp only; omega) _⟩

end Go.Proofs.YtpkbmmepapgogabGreatDoor
