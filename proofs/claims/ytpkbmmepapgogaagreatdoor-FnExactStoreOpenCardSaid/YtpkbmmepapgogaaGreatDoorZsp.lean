/-
  Words, plain lemmas and contracts that belong together, joined into one file.
-/
import Derived.Test.YtpkbmmepapgogaaGreatDoorZpb
import Derived.Test.YtpkbmmepapgogaaGreatDoorZdf
import Derived.Test.YtpkbmmepapgogaaGreatDoorZst
import Derived.Test.YtpkbmmepapgogaaGreatDoorZjs
import Derived.Test.YtpkbmmepapgogaaGreatDoorZtx
import Derived.Test.YtpkbmmepapgogaaGreatDoorStrE
import Derived.Test.YtpkbmmepapgogaaGreatDoorStoreI
import Derived.Test.YtpkbmmepapgogaaGreatDoorJournJ
import Derived.Test.YtpkbmmepapgogaaGreatDoorZdsl
import Derived.Test.YtpkbmmepapgogaaGreatDoorZdd
import Derived.Test.YtpkbmmepapgogaaGreatDoorZmd
namespace Go.Proofs.YtpkbmmepapgogaaGreatDoor
open Go.RowKit
set_option linter.unusedVariables false

theorem linesT_ge (l : List Ded) : l.length ≤ (linesT l).length := by
  induction l with
  | nil => exact Nat.le_refl _
  | cons d r ih =>
    show r.length + 1 ≤ (deedT d ++ 10 :: linesT r).length
    rw [List.length_append, List.length_cons]
    omega
theorem readJ_cnt (s : Bs) : (readJ s).1.length ≤ s.length := by
  have h1 := linesT_ge (readJ s).1
  have h2 := readJ_num s
  have h3 := readJ_len s
  omega
theorem openX_no {s : Sto} (h : storeOk s = false) : openX s = noDsk := by unfold openX; rw [h]; rfl
theorem saveX_no {s : Sto} (h : storeOk s = false) : saveX s = noSto := by unfold saveX; rw [h]; rfl
theorem save_eq (s : Sto) : newX (openX s).now = saveX s ∧ placeOk (openX s).now = storeOk s := by
  cases h : storeOk s with
  | false => rw [openX_no h, saveX_no h]; exact ⟨by unfold newX; rw [show placeOk noDsk.now = false from noPlc_no]; rfl, noPlc_no⟩
  | true => rw [saveX_new h, openX_D h]; exact ⟨rfl, (deskOk_yes (openD_ok h)).2.1⟩

set_option maxRecDepth 100000 in
set_option maxHeartbeats 3200000 in
theorem storeOpen_spec (s : Sto) (w : World) (hs : s.saved.size ≤ 1048576) :
    Calls Tryz.prog 10 #[.agg #[.string s.saved, .string s.log, .int .i64 s.sure]] w fun e w' => ∃ u, e = .returned (.tuple #[u, .bool (storeOk s)]) ∧ DkF w' w.heap.size u (openX s) ∧ Below w.heap.size w w' := by
  obtain ⟨sv, lg, su⟩ := s
  show Calls Tryz.prog 10 #[.agg #[.string sv, .string lg, .int .i64 su]] w _
  have hs : sv.size ≤ 1048576 := hs
  have hb := hide (show Below w.heap.size w ((w.alloc (.cells #[.string sv, .string lg, .int .i64 su] 33)).alloc (.cells #[.slice none 0 0, .int .i64 0, .slice none 0 0, .slice none 0 0] 30)) from (al w _).alloc (by simp) _)
  have ta := hide (show TriW ((w.alloc (.cells #[.string sv, .string lg, .int .i64 su] 33)).alloc (.cells #[.slice none 0 0, .int .i64 0, .slice none 0 0, .slice none 0 0] 30)) (w.heap.size) (.string sv) (.string lg) (.int .i64 su) from (TriW.made w (.string sv) (.string lg) (.int .i64 su) 33).alloc (.cells #[.slice none 0 0, .int .i64 0, .slice none 0 0, .slice none 0 0] 30))
  have tr := hide (show DBox ((w.alloc (.cells #[.string sv, .string lg, .int .i64 su] 33)).alloc (.cells #[.slice none 0 0, .int .i64 0, .slice none 0 0, .slice none 0 0] 30)) (w.heap.size + 1) (.slice none 0 0) (.int .i64 0) (.slice none 0 0) (.slice none 0 0) from DBox.madeAt (by simp))
  have HO := hide (storeOk_spec ⟨sv, lg, su⟩ ((w.alloc (.cells #[.string sv, .string lg, .int .i64 su] 33)).alloc (.cells #[.slice none 0 0, .int .i64 0, .slice none 0 0, .slice none 0 0] 30)) hs)
  cases hok : storeOk ⟨sv, lg, su⟩ with
  | false =>
    rw [hok] at HO
    have e1 := hide (openX_no hok)
    go_enter Tryz.func10, Tryz.ntmps10
    obtain ⟨q1c0, q1c1, q1c2, q1f0, q1f1, q1f2, _⟩ := ta.out
    go_wp2_with fail
    refine (HO.out).mono ?_
    rintro e w1 ⟨rfl, hq⟩
    replace tr := hide (tr.out.up hq)
    replace ta := hide (ta.out.up hq)
    replace hb := hide (upB hb.out hq)
    clear hq
    clear q1c0 q1c1 q1c2 q1f0 q1f1 q1f2
    obtain ⟨q2c0, q2c1, q2c2, q2f0, q2f1, q2f2, _⟩ := ta.out
    obtain ⟨o0, o1, o2, o3, p0, p1, p2, p3, _⟩ := tr.out.qua
    go_wp2_with fail
    obtain ⟨z0, z1, z2, z3, _⟩ := (tr.out.set (.slice none 0 0) (.int .i64 0) (.slice none 0 0) (.slice none 0 0)).qua
    exact bodyPost_ret (v := .tuple #[.agg #[.slice none 0 0, .int .i64 0, .slice none 0 0, .slice none 0 0], .bool false]) (by simp [results, Tryz.results10, go_sem, z0, z1, z2, z3]) rfl ⟨_, rfl, by rw [e1.out]; exact DkS.none_.toF, ((((hb.out).setCell (by simp only; omega) _).setCell (by simp only; omega) _).setCell (by simp only; omega) _).setCell (by simp only; omega) _⟩
  | true =>
    rw [hok] at HO
    have e1 := hide (openX_D hok)
    have hdok := hide (savedD_ok hok)
    have hlg := (storeOk_yes hok).2.1
    have hcn := readJ_cnt (bts lg)
    rw [bts_len] at hcn
    simp only at hlg
    have eD := hide (show openD ⟨sv, lg, su⟩ = runD ⟨readQ (bts sv), []⟩ (readJ (bts lg)).1 from rfl)
    obtain ⟨P, hP⟩ : ∃ P, Hid (readQ (bts sv) = P) := ⟨_, hide rfl⟩
    obtain ⟨J, hJ⟩ : ∃ J, Hid ((readJ (bts lg)).1 = J) := ⟨_, hide rfl⟩
    obtain ⟨N, hN⟩ : ∃ N, Hid ((readJ (bts lg)).2 = N) := ⟨_, hide rfl⟩
    replace hdok := hide (show deskOk ⟨P, []⟩ = true by rw [← hP.out]; exact hdok.out)
    rw [hP.out, hJ.out] at eD
    rw [hJ.out] at hcn
    have HR := hide (fun (W : World) => readPlace_spec sv W hs)
    have HJ := hide (fun (W : World) => readJournal_spec lg W (by omega))
    rw [hP.out] at HR
    rw [hJ.out, hN.out] at HJ
    go_enter Tryz.func10, Tryz.ntmps10
    obtain ⟨q3c0, q3c1, q3c2, q3f0, q3f1, q3f2, _⟩ := ta.out
    go_wp2_with fail
    refine (HO.out).mono ?_
    rintro e w1 ⟨rfl, hq⟩
    replace tr := hide (tr.out.up hq)
    replace ta := hide (ta.out.up hq)
    replace hb := hide (upB hb.out hq)
    clear hq
    have hlt := hide (show w.heap.size + 1 < w1.heap.size from tr.out.lt)
    clear q3c0 q3c1 q3c2 q3f0 q3f1 q3f2
    obtain ⟨q4c0, q4c1, q4c2, q4f0, q4f1, q4f2, _⟩ := ta.out
    go_wp2_with fail
    refine (HR.out _).mono ?_
    rintro e w2 ⟨u, rfl, hp, hq⟩
    replace tr := hide (tr.out.up hq)
    replace ta := hide (ta.out.up hq)
    replace hb := hide (upB hb.out hq)
    clear hq
    obtain ⟨A1, n1, c1, B1, m1, d1, rfl, _⟩ := hp.ex
    replace hp := hide hp
    replace tr := hide (tr.out.up (al w2 (.cells #[.slice A1 n1 c1, .int .i64 P.step, .slice B1 m1 d1] 27)))
    replace hp := hide (hp.out.up (al w2 (.cells #[.slice A1 n1 c1, .int .i64 P.step, .slice B1 m1 d1] 27)))
    replace ta := hide (ta.out.up (al w2 (.cells #[.slice A1 n1 c1, .int .i64 P.step, .slice B1 m1 d1] 27)))
    replace hb := hide (upB hb.out (al w2 (.cells #[.slice A1 n1 c1, .int .i64 P.step, .slice B1 m1 d1] 27)))
    have t4 := hide (TriW.made w2 (.slice A1 n1 c1) (.int .i64 P.step) (.slice B1 m1 d1) 27)
    clear q4c0 q4c1 q4c2 q4f0 q4f1 q4f2
    obtain ⟨q5c0, q5c1, q5c2, q5f0, q5f1, q5f2, _⟩ := ta.out
    obtain ⟨q6c0, q6c1, q6c2, q6f0, q6f1, q6f2, _⟩ := t4.out
    go_wp2_with fail
    refine (HJ.out _).mono ?_
    rintro e w3 ⟨AJ, nJ, cJ, rfl, hj, hq⟩
    replace tr := hide (tr.out.up hq)
    replace hp := hide (hp.out.up hq)
    replace ta := hide (ta.out.up hq)
    replace t4 := hide (t4.out.up hq)
    replace hb := hide (upB hb.out hq)
    clear hq
    have hjl := hide hj.len
    replace hj := hide hj
    clear q5c0 q5c1 q5c2 q5f0 q5f1 q5f2 q6c0 q6c1 q6c2 q6f0 q6f1 q6f2
    obtain ⟨q7c0, q7c1, q7c2, q7f0, q7f1, q7f2, _⟩ := ta.out
    obtain ⟨q8c0, q8c1, q8c2, q8f0, q8f1, q8f2, _⟩ := t4.out
    go_wp2_with fail
    refine (l15Run_c (.agg #[.slice A1 n1 c1, .int .i64 P.step, .slice B1 m1 d1, .slice none 0 0]) ⟨P, []⟩ J AJ nJ cJ _ _ (dkM_mk hp.out PsM.nil) (Nat.le_refl _) hdok.out (by have := hjl.out; omega) hj.out.deeds).mono ?_
    rintro e w4 ⟨u, rfl, hF, hq⟩
    replace tr := hide (tr.out.up hq)
    replace hp := hide (hp.out.up hq)
    replace hj := hide (hj.out.up hq)
    replace ta := hide (ta.out.up hq)
    replace t4 := hide (t4.out.up hq)
    replace hb := hide (upB hb.out hq)
    clear hq
    obtain ⟨A2, n2, c2, B2, m2, d2, E2, r2, s2, rfl⟩ := hF.open_
    replace hF := hide hF
    rw [← eD.out, ← e1.out] at hF
    rw [show (runD ⟨P, []⟩ J).now.step = (openX ⟨sv, lg, su⟩).now.step by rw [e1.out, eD.out]]
    replace tr := hide (tr.out.up (al w4 (.cells #[.slice A2 n2 c2, .int .i64 (openX ⟨sv, lg, su⟩).now.step, .slice B2 m2 d2, .slice E2 r2 s2] 30)))
    replace hp := hide (hp.out.up (al w4 (.cells #[.slice A2 n2 c2, .int .i64 (openX ⟨sv, lg, su⟩).now.step, .slice B2 m2 d2, .slice E2 r2 s2] 30)))
    replace hj := hide (hj.out.up (al w4 (.cells #[.slice A2 n2 c2, .int .i64 (openX ⟨sv, lg, su⟩).now.step, .slice B2 m2 d2, .slice E2 r2 s2] 30)))
    replace hF := hide (hF.out.up (al w4 (.cells #[.slice A2 n2 c2, .int .i64 (openX ⟨sv, lg, su⟩).now.step, .slice B2 m2 d2, .slice E2 r2 s2] 30)))
    replace ta := hide (ta.out.up (al w4 (.cells #[.slice A2 n2 c2, .int .i64 (openX ⟨sv, lg, su⟩).now.step, .slice B2 m2 d2, .slice E2 r2 s2] 30)))
    replace t4 := hide (t4.out.up (al w4 (.cells #[.slice A2 n2 c2, .int .i64 (openX ⟨sv, lg, su⟩).now.step, .slice B2 m2 d2, .slice E2 r2 s2] 30)))
    replace hb := hide (upB hb.out (al w4 (.cells #[.slice A2 n2 c2, .int .i64 (openX ⟨sv, lg, su⟩).now.step, .slice B2 m2 d2, .slice E2 r2 s2] 30)))
    have t8 := hide (QuaW.made w4 (.slice A2 n2 c2) (.int .i64 (openX ⟨sv, lg, su⟩).now.step) (.slice B2 m2 d2) (.slice E2 r2 s2) 30)
    clear q7c0 q7c1 q7c2 q7f0 q7f1 q7f2 q8c0 q8c1 q8c2 q8f0 q8f1 q8f2
    obtain ⟨q9c0, q9c1, q9c2, q9f0, q9f1, q9f2, _⟩ := ta.out
    obtain ⟨q10c0, q10c1, q10c2, q10f0, q10f1, q10f2, _⟩ := t4.out
    obtain ⟨q11c0, q11c1, q11c2, q11c3, q11f0, q11f1, q11f2, q11f3, _⟩ := t8.out
    obtain ⟨o0, o1, o2, o3, p0, p1, p2, p3, _⟩ := tr.out.qua
    go_wp2_with fail
    obtain ⟨z0, z1, z2, z3, _⟩ := (tr.out.set (.slice A2 n2 c2) (.int .i64 (openX ⟨sv, lg, su⟩).now.step) (.slice B2 m2 d2) (.slice E2 r2 s2)).qua
    exact bodyPost_ret (v := .tuple #[.agg #[.slice A2 n2 c2, .int .i64 (openX ⟨sv, lg, su⟩).now.step, .slice B2 m2 d2, .slice E2 r2 s2], .bool true]) (by simp [results, Tryz.results10, go_sem, z0, z1, z2, z3]) rfl ⟨_, rfl, (hF.out.set4 tr.out _ _ _ _).down (by have := hlt.out; have := hp.out; omega), ((((hb.out).setCell (by simp only; omega) _).setCell (by simp only; omega) _).setCell (by simp only; omega) _).setCell (by simp only; omega) _⟩

set_option maxRecDepth 100000 in
set_option maxHeartbeats 3200000 in
theorem storeSave_spec (s : Sto) (w : World) (hs : s.saved.size ≤ 1048576) :
    Calls Tryz.prog 20 #[.agg #[.string s.saved, .string s.log, .int .i64 s.sure]] w fun e w' => e = .returned (.tuple #[.agg #[.string (saveX s).saved, .string (saveX s).log, .int .i64 (saveX s).sure], .bool (storeOk s)]) ∧ Below w.heap.size w w' := by
  obtain ⟨sv, lg, su⟩ := s
  show Calls Tryz.prog 20 #[.agg #[.string sv, .string lg, .int .i64 su]] w _
  have hs : sv.size ≤ 1048576 := hs
  have hb := hide (show Below w.heap.size w ((w.alloc (.cells #[.string sv, .string lg, .int .i64 su] 33)).alloc (.cells #[.string ⟨#[]⟩, .string ⟨#[]⟩, .int .i64 0] 33)) from (al w _).alloc (by simp) _)
  have ta := hide (show TriW ((w.alloc (.cells #[.string sv, .string lg, .int .i64 su] 33)).alloc (.cells #[.string ⟨#[]⟩, .string ⟨#[]⟩, .int .i64 0] 33)) (w.heap.size) (.string sv) (.string lg) (.int .i64 su) from (TriW.made w (.string sv) (.string lg) (.int .i64 su) 33).alloc (.cells #[.string ⟨#[]⟩, .string ⟨#[]⟩, .int .i64 0] 33))
  have tr := hide (show TriW ((w.alloc (.cells #[.string sv, .string lg, .int .i64 su] 33)).alloc (.cells #[.string ⟨#[]⟩, .string ⟨#[]⟩, .int .i64 0] 33)) (w.heap.size + 1) (.string ⟨#[]⟩) (.string ⟨#[]⟩) (.int .i64 0) from by have := TriW.made (w.alloc (.cells #[.string sv, .string lg, .int .i64 su] 33)) (.string ⟨#[]⟩) (.string ⟨#[]⟩) (.int .i64 0) 33; simpa using this)
  have HO := hide (storeOpen_spec ⟨sv, lg, su⟩ ((w.alloc (.cells #[.string sv, .string lg, .int .i64 su] 33)).alloc (.cells #[.string ⟨#[]⟩, .string ⟨#[]⟩, .int .i64 0] 33)) hs)
  obtain ⟨D, hD⟩ : ∃ D, Hid (openX ⟨sv, lg, su⟩ = D) := ⟨_, hide rfl⟩
  have hno := hide (fun (h : storeOk ⟨sv, lg, su⟩ = false) => saveX_no h)
  have hye := hide (fun (h : storeOk ⟨sv, lg, su⟩ = true) => show saveX ⟨sv, lg, su⟩ = ⟨strB (placeT D.now), ⟨#[]⟩, 0⟩ from by unfold saveX; rw [if_pos h, ← openX_D h, hD.out])
  obtain ⟨K, hK⟩ : ∃ K, Hid (storeOk ⟨sv, lg, su⟩ = K) := ⟨_, hide rfl⟩
  rw [hD.out, hK.out] at HO
  rw [hK.out] at hno hye ⊢
  clear hD hK
  go_enter Tryz.func20, Tryz.ntmps20
  obtain ⟨q1c0, q1c1, q1c2, q1f0, q1f1, q1f2, _⟩ := ta.out
  obtain ⟨q2c0, q2c1, q2c2, q2f0, q2f1, q2f2, _⟩ := tr.out
  go_wp2_with fail
  refine (HO.out).mono ?_
  rintro e w1 ⟨u, rfl, hF, hq⟩
  replace ta := hide (ta.out.up hq)
  replace tr := hide (tr.out.up hq)
  replace hb := hide (upB hb.out hq)
  clear hq
  obtain ⟨A2, n2, c2, B2, m2, d2, E2, r2, s2, rfl⟩ := hF.open_
  have hnow := hide hF.dkM.now
  clear hF
  replace hnow := hide (hnow.out.up (al w1 (.cells #[.slice A2 n2 c2, .int .i64 D.now.step, .slice B2 m2 d2, .slice E2 r2 s2] 30)))
  replace ta := hide (ta.out.up (al w1 (.cells #[.slice A2 n2 c2, .int .i64 D.now.step, .slice B2 m2 d2, .slice E2 r2 s2] 30)))
  replace tr := hide (tr.out.up (al w1 (.cells #[.slice A2 n2 c2, .int .i64 D.now.step, .slice B2 m2 d2, .slice E2 r2 s2] 30)))
  replace hb := hide (upB hb.out (al w1 (.cells #[.slice A2 n2 c2, .int .i64 D.now.step, .slice B2 m2 d2, .slice E2 r2 s2] 30)))
  have t4 := hide (QuaW.made w1 (.slice A2 n2 c2) (.int .i64 D.now.step) (.slice B2 m2 d2) (.slice E2 r2 s2) 30)
  cases K with
  | false =>
    clear q1c0 q1c1 q1c2 q1f0 q1f1 q1f2 q2c0 q2c1 q2c2 q2f0 q2f1 q2f2
    obtain ⟨q3c0, q3c1, q3c2, q3f0, q3f1, q3f2, _⟩ := ta.out
    obtain ⟨q4c0, q4c1, q4c2, q4f0, q4f1, q4f2, _⟩ := tr.out
    obtain ⟨q5c0, q5c1, q5c2, q5c3, q5f0, q5f1, q5f2, q5f3, _⟩ := t4.out
    go_wp2_with fail
    obtain ⟨z0, z1, z2, _⟩ := ((tr.out.set0 (.string ⟨#[]⟩)).set1 (.string ⟨#[]⟩)).set2 (.int .i64 0)
    exact bodyPost_ret (v := .tuple #[.agg #[.string ⟨#[]⟩, .string ⟨#[]⟩, .int .i64 0], .bool false]) (by simp [results, Tryz.results20, go_sem, z0, z1, z2]) rfl ⟨by rw [hno.out (by simp)]; rfl, (((hb.out).setCell (by simp only; omega) _).setCell (by simp only; omega) _).setCell (by simp only; omega) _⟩
  | true =>
    have e2 := hide (hye.out (by simp))
    clear hye hno
    clear q1c0 q1c1 q1c2 q1f0 q1f1 q1f2 q2c0 q2c1 q2c2 q2f0 q2f1 q2f2
    obtain ⟨q6c0, q6c1, q6c2, q6f0, q6f1, q6f2, _⟩ := ta.out
    obtain ⟨q7c0, q7c1, q7c2, q7f0, q7f1, q7f2, _⟩ := tr.out
    obtain ⟨q8c0, q8c1, q8c2, q8c3, q8f0, q8f1, q8f2, q8f3, _⟩ := t4.out
    go_wp2_with fail
    refine (placeText_spec _ D.now _ _ hnow.out (Nat.le_refl _)).mono ?_
    rintro e w2 ⟨rfl, hq⟩
    replace hnow := hide (hnow.out.up hq)
    replace ta := hide (ta.out.up hq)
    replace tr := hide (tr.out.up hq)
    replace t4 := hide (t4.out.up hq)
    replace hb := hide (upB hb.out hq)
    clear hq
    obtain ⟨T, hT⟩ : ∃ T, Hid (strB (placeT D.now) = T) := ⟨_, hide rfl⟩
    rw [hT.out]
    clear q6c0 q6c1 q6c2 q6f0 q6f1 q6f2 q7c0 q7c1 q7c2 q7f0 q7f1 q7f2 q8c0 q8c1 q8c2 q8c3 q8f0 q8f1 q8f2 q8f3
    obtain ⟨q9c0, q9c1, q9c2, q9f0, q9f1, q9f2, _⟩ := ta.out
    obtain ⟨q10c0, q10c1, q10c2, q10f0, q10f1, q10f2, _⟩ := tr.out
    obtain ⟨q11c0, q11c1, q11c2, q11c3, q11f0, q11f1, q11f2, q11f3, _⟩ := t4.out
    go_wp2_with fail
    obtain ⟨z0, z1, z2, _⟩ := ((tr.out.set0 (.string T)).set1 (.string ⟨#[]⟩)).set2 (.int .i64 0)
    exact bodyPost_ret (v := .tuple #[.agg #[.string T, .string ⟨#[]⟩, .int .i64 0], .bool true]) (by simp [results, Tryz.results20, go_sem, z0, z1, z2]) rfl ⟨by rw [e2.out, hT.out], (((hb.out).setCell (by simp only; omega) _).setCell (by simp only; omega) _).setCell (by simp only; omega) _⟩
end Go.Proofs.YtpkbmmepapgogaaGreatDoor

namespace Go.Proofs.YtpkbmmepapgogaaGreatDoor
open Go.RowKit
set_option linter.unusedVariables false

end Go.Proofs.YtpkbmmepapgogaaGreatDoor

namespace Go.Proofs.YtpkbmmepapgogaaGreatDoor
open Go.RowKit
set_option linter.unusedVariables false

theorem OwnD.gr {w w' : World} {b lo : Nat} {v : Value} {ds : List Ded} (ho : OwnD w b v ds) (h : GrP lo w w') : OwnD w' b v ds :=
  ⟨row_sameP ho.row fun k hk => by
    rcases ho.row.2 with ⟨rfl, _⟩ | ⟨g, cap, cur, rfl, _, hh, _⟩
    · cases hk
    · simp [Value.ownBlock] at hk
      subst hk
      exact h.obj hh (by decide), ho.wf⟩
/-- The world stands over an elder one. -/
structure Fr (a w : World) : Prop where
  b : Below a.heap.size a w
theorem Fr.up {a w w' : World} (h : Fr a w) (hq : Below w.heap.size w w') : Fr a w' := ⟨upB h.b hq⟩

set_option maxRecDepth 100000 in
set_option maxHeartbeats 3200000 in
theorem storeOpen_impl (s : Sto) (w : World) (hL : LaidN w) (hD : LaidD w) :
    Calls Tryz.prog 12 #[.agg #[.string s.saved, .string s.log, .int .i64 s.sure]] w fun e w' => ∃ u, e = .returned (.tuple #[u, .bool (storeOk s)]) ∧ DkR w' w.heap.size u (openX s) ∧ Below w.heap.size w w' := by
  obtain ⟨sv, lg, su⟩ := s
  show Calls Tryz.prog 12 #[.agg #[.string sv, .string lg, .int .i64 su]] w _
  have hb := hide (show Below w.heap.size w ((w.alloc (.cells #[.string sv, .string lg, .int .i64 su] 33)).alloc (.cells #[.slice none 0 0, .int .i64 0, .slice none 0 0, .slice none 0 0] 30)) from (al w _).alloc (by simp) _)
  have ta := hide (show TriW ((w.alloc (.cells #[.string sv, .string lg, .int .i64 su] 33)).alloc (.cells #[.slice none 0 0, .int .i64 0, .slice none 0 0, .slice none 0 0] 30)) (w.heap.size) (.string sv) (.string lg) (.int .i64 su) from (TriW.made w (.string sv) (.string lg) (.int .i64 su) 33).alloc (.cells #[.slice none 0 0, .int .i64 0, .slice none 0 0, .slice none 0 0] 30))
  have tr := hide (show DBox ((w.alloc (.cells #[.string sv, .string lg, .int .i64 su] 33)).alloc (.cells #[.slice none 0 0, .int .i64 0, .slice none 0 0, .slice none 0 0] 30)) (w.heap.size + 1) (.slice none 0 0) (.int .i64 0) (.slice none 0 0) (.slice none 0 0) from DBox.madeAt (by simp))
  replace hL := hide hL
  replace hD := hide hD
  have HO := hide (storeOk_impl ⟨sv, lg, su⟩ ((w.alloc (.cells #[.string sv, .string lg, .int .i64 su] 33)).alloc (.cells #[.slice none 0 0, .int .i64 0, .slice none 0 0, .slice none 0 0] 30)) (hL.out.up hb.out))
  cases hok : storeOk ⟨sv, lg, su⟩ with
  | false =>
    rw [hok] at HO
    have e1 := hide (openX_no hok)
    go_enter Tryz.func12, Tryz.ntmps12
    obtain ⟨q1c0, q1c1, q1c2, q1f0, q1f1, q1f2, _⟩ := ta.out
    go_wp2_with fail
    refine (HO.out).mono ?_
    rintro e w1 ⟨rfl, hq⟩
    replace tr := hide (tr.out.up hq)
    replace ta := hide (ta.out.up hq)
    replace hb := hide (upB hb.out hq)
    clear hq
    clear q1c0 q1c1 q1c2 q1f0 q1f1 q1f2
    obtain ⟨q2c0, q2c1, q2c2, q2f0, q2f1, q2f2, _⟩ := ta.out
    obtain ⟨o0, o1, o2, o3, p0, p1, p2, p3, _⟩ := tr.out.qua
    go_wp2_with fail
    obtain ⟨z0, z1, z2, z3, _⟩ := (tr.out.set (.slice none 0 0) (.int .i64 0) (.slice none 0 0) (.slice none 0 0)).qua
    exact bodyPost_ret (v := .tuple #[.agg #[.slice none 0 0, .int .i64 0, .slice none 0 0, .slice none 0 0], .bool false]) (by simp [results, Tryz.results12, go_sem, z0, z1, z2, z3]) rfl ⟨_, rfl, by rw [e1.out]; exact noDkR, ((((hb.out).setCell (by simp only; omega) _).setCell (by simp only; omega) _).setCell (by simp only; omega) _).setCell (by simp only; omega) _⟩
  | true =>
    rw [hok] at HO
    have e1 := hide (openX_D hok)
    have hdok := hide (savedD_ok hok)
    have hlg := (storeOk_yes hok).2.1
    have hcn := readJ_cnt (bts lg)
    rw [bts_len] at hcn
    simp only at hlg
    have eD := hide (show openD ⟨sv, lg, su⟩ = runD ⟨readQ (bts sv), []⟩ (readJ (bts lg)).1 from rfl)
    obtain ⟨P, hP⟩ : ∃ P, Hid (readQ (bts sv) = P) := ⟨_, hide rfl⟩
    obtain ⟨J, hJ⟩ : ∃ J, Hid ((readJ (bts lg)).1 = J) := ⟨_, hide rfl⟩
    obtain ⟨N, hN⟩ : ∃ N, Hid ((readJ (bts lg)).2 = N) := ⟨_, hide rfl⟩
    replace hdok := hide (show deskOk ⟨P, []⟩ = true by rw [← hP.out]; exact hdok.out)
    rw [hP.out, hJ.out] at eD
    rw [hJ.out] at hcn
    have HR := hide (fun (W : World) (hl : LaidN W) => readPlace_impl sv W hl)
    have HJ := hide (fun (W : World) (hl : LaidN W) (hd : LaidD W) => readJournal_impl lg W hl hd (by omega))
    rw [hP.out] at HR
    rw [hJ.out, hN.out] at HJ
    go_enter Tryz.func12, Tryz.ntmps12
    obtain ⟨q3c0, q3c1, q3c2, q3f0, q3f1, q3f2, _⟩ := ta.out
    go_wp2_with fail
    refine (HO.out).mono ?_
    rintro e w1 ⟨rfl, hq⟩
    replace tr := hide (tr.out.up hq)
    replace ta := hide (ta.out.up hq)
    replace hb := hide (upB hb.out hq)
    clear hq
    have hlt := hide (show w.heap.size + 1 < w1.heap.size from tr.out.lt)
    have fr := hide (Fr.mk (Below.refl w1.heap.size w1))
    have ta_1 := ta
    have tr_1 := tr
    have hb_1 := hb
    clear q3c0 q3c1 q3c2 q3f0 q3f1 q3f2
    obtain ⟨q4c0, q4c1, q4c2, q4f0, q4f1, q4f2, _⟩ := ta.out
    go_wp2_with fail
    refine (HR.out _ (hL.out.up hb.out)).mono ?_
    rintro e w2 ⟨u, rfl, hp, hq⟩
    replace tr := hide (tr.out.up hq)
    replace fr := hide (fr.out.up hq)
    replace ta := hide (ta.out.up hq)
    replace hb := hide (upB hb.out hq)
    clear hq
    obtain ⟨A1, n1, c1, B1, m1, d1, rfl, o1, o2, hne, hwf⟩ := hp.ex
    have hone := hide (show OneT w2 w1.heap.size (.slice A1 n1 c1, .slice B1 m1 d1, P) from ⟨o1, o2, ap_of hne, hwf⟩)
    clear hp o1 o2 hne hwf
    replace tr := hide (tr.out.up (al w2 (.cells #[.slice A1 n1 c1, .int .i64 P.step, .slice B1 m1 d1] 27)))
    replace fr := hide (fr.out.up (al w2 (.cells #[.slice A1 n1 c1, .int .i64 P.step, .slice B1 m1 d1] 27)))
    replace hone := hide (hone.out.up (al w2 (.cells #[.slice A1 n1 c1, .int .i64 P.step, .slice B1 m1 d1] 27)))
    replace ta := hide (ta.out.up (al w2 (.cells #[.slice A1 n1 c1, .int .i64 P.step, .slice B1 m1 d1] 27)))
    replace hb := hide (upB hb.out (al w2 (.cells #[.slice A1 n1 c1, .int .i64 P.step, .slice B1 m1 d1] 27)))
    have t4 := hide (TriW.made w2 (.slice A1 n1 c1) (.int .i64 P.step) (.slice B1 m1 d1) 27)
    clear q4c0 q4c1 q4c2 q4f0 q4f1 q4f2
    obtain ⟨q5c0, q5c1, q5c2, q5f0, q5f1, q5f2, _⟩ := ta.out
    obtain ⟨q6c0, q6c1, q6c2, q6f0, q6f1, q6f2, _⟩ := t4.out
    go_wp2_with fail
    refine (HJ.out _ (hL.out.up hb.out) (hD.out.up hb.out)).mono ?_
    rintro e w3 ⟨AJ, nJ, cJ, rfl, hj, hq⟩
    replace tr := hide (tr.out.up hq)
    replace fr := hide (fr.out.up hq)
    replace hone := hide (hone.out.up hq)
    replace ta := hide (ta.out.up hq)
    replace t4 := hide (t4.out.up hq)
    replace hb := hide (upB hb.out hq)
    clear hq
    have hjl := hide hj.len
    replace hj := hide hj
    clear q5c0 q5c1 q5c2 q5f0 q5f1 q5f2 q6c0 q6c1 q6c2 q6f0 q6f1 q6f2
    obtain ⟨q7c0, q7c1, q7c2, q7f0, q7f1, q7f2, _⟩ := ta.out
    obtain ⟨q8c0, q8c1, q8c2, q8f0, q8f1, q8f2, _⟩ := t4.out
    go_wp2_with fail
    refine (deskAfterAll_c (.agg #[.slice A1 n1 c1, .int .i64 P.step, .slice B1 m1 d1, .slice none 0 0]) ⟨P, []⟩ J AJ nJ cJ w1.heap.size w3 (dkR_mk (ts := []) hone.out rfl rfl SlO.nil ⟨fun t ht => by rw [List.mem_singleton] at ht; rw [ht]; exact hone.out, List.pairwise_singleton _ _⟩ rfl) fr.out.b.size hdok.out (by have := hjl.out; omega) (fun w2 hg => ⟨hD.out.up (upB hb_1.out (hg.belowUp fr.out.b (Nat.le_refl _) (Nat.le_refl _))), (hj.out.gr hg).deeds⟩)).mono ?_
    rintro e w4 ⟨u, rfl, hF, hg⟩
    clear q7c0 q7c1 q7c2 q7f0 q7f1 q7f2 q8c0 q8c1 q8c2 q8f0 q8f1 q8f2
    have hq1 := hide (GrP.belowUp hg fr.out.b (Nat.le_refl _) (Nat.le_refl _))
    replace ta := hide (ta_1.out.up hq1.out)
    replace tr := hide (tr_1.out.up hq1.out)
    replace hb := hide (upB hb_1.out hq1.out)
    replace fr := hide (Fr.mk hq1.out)
    clear hq1
    obtain ⟨A2, n2, c2, B2, m2, d2, E2, r2, s2, ts2, rfl, y1, y2, y3, y4⟩ := hF.open_
    clear y1 y2 y3 y4 ts2 hg
    replace hF := hide hF
    rw [← eD.out, ← e1.out] at hF
    rw [show (runD ⟨P, []⟩ J).now.step = (openX ⟨sv, lg, su⟩).now.step by rw [e1.out, eD.out]]
    replace tr := hide (tr.out.up (al w4 (.cells #[.slice A2 n2 c2, .int .i64 (openX ⟨sv, lg, su⟩).now.step, .slice B2 m2 d2, .slice E2 r2 s2] 30)))
    replace fr := hide (fr.out.up (al w4 (.cells #[.slice A2 n2 c2, .int .i64 (openX ⟨sv, lg, su⟩).now.step, .slice B2 m2 d2, .slice E2 r2 s2] 30)))
    replace hF := hide (hF.out.up (al w4 (.cells #[.slice A2 n2 c2, .int .i64 (openX ⟨sv, lg, su⟩).now.step, .slice B2 m2 d2, .slice E2 r2 s2] 30)))
    replace ta := hide (ta.out.up (al w4 (.cells #[.slice A2 n2 c2, .int .i64 (openX ⟨sv, lg, su⟩).now.step, .slice B2 m2 d2, .slice E2 r2 s2] 30)))
    replace hb := hide (upB hb.out (al w4 (.cells #[.slice A2 n2 c2, .int .i64 (openX ⟨sv, lg, su⟩).now.step, .slice B2 m2 d2, .slice E2 r2 s2] 30)))
    have t8 := hide (QuaW.made w4 (.slice A2 n2 c2) (.int .i64 (openX ⟨sv, lg, su⟩).now.step) (.slice B2 m2 d2) (.slice E2 r2 s2) 30)
    obtain ⟨q9c0, q9c1, q9c2, q9f0, q9f1, q9f2, _⟩ := ta.out
    obtain ⟨q10c0, q10c1, q10c2, q10c3, q10f0, q10f1, q10f2, q10f3, _⟩ := t8.out
    obtain ⟨o0, o1, o2, o3, p0, p1, p2, p3, _⟩ := tr.out.qua
    go_wp2_with fail
    obtain ⟨z0, z1, z2, z3, _⟩ := (tr.out.set (.slice A2 n2 c2) (.int .i64 (openX ⟨sv, lg, su⟩).now.step) (.slice B2 m2 d2) (.slice E2 r2 s2)).qua
    exact bodyPost_ret (v := .tuple #[.agg #[.slice A2 n2 c2, .int .i64 (openX ⟨sv, lg, su⟩).now.step, .slice B2 m2 d2, .slice E2 r2 s2], .bool true]) (by simp [results, Tryz.results12, go_sem, z0, z1, z2, z3]) rfl ⟨_, rfl, (hF.out.set4 ⟨tr.out.ob⟩ _ _ _ _).down (by have := hlt.out; omega), ((((hb.out).setCell (by simp only; omega) _).setCell (by simp only; omega) _).setCell (by simp only; omega) _).setCell (by simp only; omega) _⟩

set_option maxRecDepth 100000 in
set_option maxHeartbeats 3200000 in
theorem storeSave_impl (s : Sto) (w : World) (hL : LaidN w) (hD : LaidD w) :
    Calls Tryz.prog 21 #[.agg #[.string s.saved, .string s.log, .int .i64 s.sure]] w fun e w' => e = .returned (.tuple #[.agg #[.string (saveX s).saved, .string (saveX s).log, .int .i64 (saveX s).sure], .bool (storeOk s)]) ∧ Below w.heap.size w w' := by
  obtain ⟨sv, lg, su⟩ := s
  show Calls Tryz.prog 21 #[.agg #[.string sv, .string lg, .int .i64 su]] w _
  have hb := hide (show Below w.heap.size w ((w.alloc (.cells #[.string sv, .string lg, .int .i64 su] 33)).alloc (.cells #[.string ⟨#[]⟩, .string ⟨#[]⟩, .int .i64 0] 33)) from (al w _).alloc (by simp) _)
  have ta := hide (show TriW ((w.alloc (.cells #[.string sv, .string lg, .int .i64 su] 33)).alloc (.cells #[.string ⟨#[]⟩, .string ⟨#[]⟩, .int .i64 0] 33)) (w.heap.size) (.string sv) (.string lg) (.int .i64 su) from (TriW.made w (.string sv) (.string lg) (.int .i64 su) 33).alloc (.cells #[.string ⟨#[]⟩, .string ⟨#[]⟩, .int .i64 0] 33))
  have tr := hide (show TriW ((w.alloc (.cells #[.string sv, .string lg, .int .i64 su] 33)).alloc (.cells #[.string ⟨#[]⟩, .string ⟨#[]⟩, .int .i64 0] 33)) (w.heap.size + 1) (.string ⟨#[]⟩) (.string ⟨#[]⟩) (.int .i64 0) from by have := TriW.made (w.alloc (.cells #[.string sv, .string lg, .int .i64 su] 33)) (.string ⟨#[]⟩) (.string ⟨#[]⟩) (.int .i64 0) 33; simpa using this)
  replace hL := hide hL
  replace hD := hide hD
  have HO := hide (storeOpen_impl ⟨sv, lg, su⟩ ((w.alloc (.cells #[.string sv, .string lg, .int .i64 su] 33)).alloc (.cells #[.string ⟨#[]⟩, .string ⟨#[]⟩, .int .i64 0] 33)) (hL.out.up hb.out) (hD.out.up hb.out))
  obtain ⟨e1, e2⟩ := save_eq ⟨sv, lg, su⟩
  obtain ⟨D, hDD⟩ : ∃ D, Hid (openX ⟨sv, lg, su⟩ = D) := ⟨_, hide rfl⟩
  obtain ⟨X, hX⟩ : ∃ X, Hid (saveX ⟨sv, lg, su⟩ = X) := ⟨_, hide rfl⟩
  obtain ⟨K, hK⟩ : ∃ K, Hid (storeOk ⟨sv, lg, su⟩ = K) := ⟨_, hide rfl⟩
  rw [hDD.out] at HO e1 e2
  rw [hK.out] at HO e2 ⊢
  rw [hX.out] at e1 ⊢
  replace e1 := hide e1
  replace e2 := hide e2
  clear hDD hK hX
  go_enter Tryz.func21, Tryz.ntmps21
  obtain ⟨q1c0, q1c1, q1c2, q1f0, q1f1, q1f2, _⟩ := ta.out
  obtain ⟨q2c0, q2c1, q2c2, q2f0, q2f1, q2f2, _⟩ := tr.out
  go_wp2_with fail
  refine (HO.out).mono ?_
  rintro e w1 ⟨u, rfl, hF, hq⟩
  replace ta := hide (ta.out.up hq)
  replace tr := hide (tr.out.up hq)
  replace hb := hide (upB hb.out hq)
  clear hq
  obtain ⟨A2, n2, c2, B2, m2, d2, E2, r2, s2, rfl⟩ := hF.dkM.open_
  have hnow := hide hF.dkM.now
  clear hF
  replace hnow := hide (hnow.out.up (al w1 (.cells #[.slice A2 n2 c2, .int .i64 D.now.step, .slice B2 m2 d2, .slice E2 r2 s2] 30)))
  replace ta := hide (ta.out.up (al w1 (.cells #[.slice A2 n2 c2, .int .i64 D.now.step, .slice B2 m2 d2, .slice E2 r2 s2] 30)))
  replace tr := hide (tr.out.up (al w1 (.cells #[.slice A2 n2 c2, .int .i64 D.now.step, .slice B2 m2 d2, .slice E2 r2 s2] 30)))
  replace hb := hide (upB hb.out (al w1 (.cells #[.slice A2 n2 c2, .int .i64 D.now.step, .slice B2 m2 d2, .slice E2 r2 s2] 30)))
  have t4 := hide (QuaW.made w1 (.slice A2 n2 c2) (.int .i64 D.now.step) (.slice B2 m2 d2) (.slice E2 r2 s2) 30)
  clear q1c0 q1c1 q1c2 q1f0 q1f1 q1f2 q2c0 q2c1 q2c2 q2f0 q2f1 q2f2
  obtain ⟨q3c0, q3c1, q3c2, q3f0, q3f1, q3f2, _⟩ := ta.out
  obtain ⟨q4c0, q4c1, q4c2, q4f0, q4f1, q4f2, _⟩ := tr.out
  obtain ⟨q5c0, q5c1, q5c2, q5c3, q5f0, q5f1, q5f2, q5f3, _⟩ := t4.out
  go_wp2_with fail
  refine (storeNew_impl _ D.now _ _ hnow.out (Nat.le_refl _) (hL.out.up hb.out).t).mono ?_
  rw [e1.out, e2.out]
  rintro e w2 ⟨rfl, hq⟩
  replace hnow := hide (hnow.out.up hq)
  replace ta := hide (ta.out.up hq)
  replace tr := hide (tr.out.up hq)
  replace t4 := hide (t4.out.up hq)
  replace hb := hide (upB hb.out hq)
  clear hq
  clear q3c0 q3c1 q3c2 q3f0 q3f1 q3f2 q4c0 q4c1 q4c2 q4f0 q4f1 q4f2 q5c0 q5c1 q5c2 q5c3 q5f0 q5f1 q5f2 q5f3
  obtain ⟨q6c0, q6c1, q6c2, q6f0, q6f1, q6f2, _⟩ := ta.out
  obtain ⟨q7c0, q7c1, q7c2, q7f0, q7f1, q7f2, _⟩ := tr.out
  obtain ⟨q8c0, q8c1, q8c2, q8c3, q8f0, q8f1, q8f2, q8f3, _⟩ := t4.out
  go_wp2_with fail
  obtain ⟨z0, z1, z2, _⟩ := ((tr.out.set0 (.string X.saved)).set1 (.string X.log)).set2 (.int .i64 X.sure)
  exact bodyPost_ret (v := .tuple #[.agg #[.string X.saved, .string X.log, .int .i64 X.sure], .bool K]) (by simp [results, Tryz.results21, go_sem, z0, z1, z2]) rfl ⟨rfl, (((hb.out).setCell (by simp only; omega) _).setCell (by simp only; omega) _).setCell (by simp only; omega) _⟩

end Go.Proofs.YtpkbmmepapgogaaGreatDoor
