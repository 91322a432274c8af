/-
  Contracts of chapter 14, the program: ReadPlace (written by wip/gen_f8.py).
-/
import Derived.Test.YtkgfbmlhplclfaaGreatDoorReadI
namespace Go.Proofs.YtkgfbmlhplclfaaGreatDoor
open Go.RowKit
set_option linter.unusedVariables false

theorem noPlQ {w : World} {base : Nat} : PlQ w base (.agg #[.slice none 0 0, .int .i64 0, .slice none 0 0]) noPlc := ⟨_, _, _, _, _, _, rfl, Own.none_, Own.none_, .inl rfl, by decide⟩
set_option maxRecDepth 100000 in
set_option maxHeartbeats 3200000 in
theorem readPlace_impl (s : ByteArray) (w : World) (hL : LaidN w) :
    Calls Tryz.prog 9 #[.string s] w fun e w' => ∃ u, e = .returned (.tuple #[u, .bool (readPB (bts s))]) ∧ PlQ w' w.heap.size u (readQ (bts s)) ∧ Below w.heap.size w w' := by
  have hz := hide (TriW.made w (.slice none 0 0) (.int .i64 0) (.slice none 0 0) 24)
  have hq0 := hide (al w (.cells #[.slice none 0 0, .int .i64 0, .slice none 0 0] 24))
  by_cases h18 : 18 < s.size
  · have hr := readP_long (s := bts s) (by rw [bts_len]; exact h18)
    have e1 := hide (show readPB (bts s) = false by unfold readPB; rw [hr]; rfl)
    have e2 := hide (show readQ (bts s) = noPlc by unfold readQ; rw [hr]; rfl)
    clear hr
    obtain ⟨z0, z1, z2, y0, y1, y2, _⟩ := hz.out
    go_enter Tryz.func9, Tryz.ntmps9
    go_wp2_with fail
    exact bodyPost_ret (v := .tuple #[.agg #[.slice none 0 0, .int .i64 0, .slice none 0 0], .bool false]) (by simp [results, Tryz.results9, go_sem]) rfl ⟨_, by rw [e1.out], by rw [e2.out]; exact noPlQ, hq0.out⟩
  · obtain ⟨G, hG⟩ : ∃ G, Hid (partsP (bts s) = G) := ⟨_, hide rfl⟩
    have hl1 := cut_len (bts s) 32
    have hl2 := cut_len (Lib.cut (bts s) [32]).2.1 32
    rw [bts_len] at hl1
    have HC1 := hide (fun (W : World) (hq : Below w.heap.size w W) => cutI_c s W (hL.up hq) (by omega))
    have hg0 := hide (show (partsP (bts s)).start = (cutT 44 (Lib.cut (bts s) [32]).1).map numL from rfl)
    have hg1 := hide (show (partsP (bts s)).step = numL (Lib.cut (Lib.cut (bts s) [32]).2.1 [32]).1 from rfl)
    have hg2 := hide (show (partsP (bts s)).word = drwL (Lib.cut (Lib.cut (bts s) [32]).2.1 [32]).2.1 from rfl)
    have hY := hide (fun (h0 : bts s ≠ []) (h : placeT (partsP (bts s)) = bts s) => partsP_yes h0 h)
    have hNo := hide (fun (h : placeT (partsP (bts s)) ≠ bts s) => partsP_no h)
    rw [hG.out] at hg0 hg1 hg2 hY hNo
    obtain ⟨X1, hX1⟩ : ∃ X, Hid ((Lib.cut (bts s) [32]).1 = X) := ⟨_, hide rfl⟩
    obtain ⟨X2, hX2⟩ : ∃ X, Hid ((Lib.cut (bts s) [32]).2.1 = X) := ⟨_, hide rfl⟩
    obtain ⟨X3, hX3⟩ : ∃ X, Hid ((Lib.cut (bts s) [32]).2.2 = X) := ⟨_, hide rfl⟩
    rw [hX1.out, hX2.out, hX3.out] at HC1
    rw [hX1.out] at hg0 hl1
    rw [hX2.out] at hg1 hg2 hl1 hl2
    have HC2 := hide (fun (W : World) (hq : Below w.heap.size w W) => cutI_c (strB X2) W (hL.up hq) (by rw [strB_size]; omega))
    rw [bts_strB] at HC2
    obtain ⟨Y1, hY1⟩ : ∃ X, Hid ((Lib.cut X2 [32]).1 = X) := ⟨_, hide rfl⟩
    obtain ⟨Y2, hY2⟩ : ∃ X, Hid ((Lib.cut X2 [32]).2.1 = X) := ⟨_, hide rfl⟩
    obtain ⟨Y3, hY3⟩ : ∃ X, Hid ((Lib.cut X2 [32]).2.2 = X) := ⟨_, hide rfl⟩
    rw [hY1.out, hY2.out, hY3.out] at HC2
    rw [hY1.out] at hg1 hl2
    rw [hY2.out] at hg2 hl2
    have HA := hide (fun (W : World) (hq : Below w.heap.size w W) => show Calls Tryz.prog 31 #[.string (strB X1)] W (fun e w' => ∃ A' n' c', e = .returned (.slice A' n' c') ∧ Own w' W.heap.size (.slice A' n' c') G.start ∧ Below W.heap.size W w') from by
      rw [hg0.out]
      have := readRowText_c (strB X1) W (hL.up hq) (by rw [strB_size]; omega)
      rwa [bts_strB] at this)
    have HB := hide (fun (W : World) (hq : Below w.heap.size w W) => show Calls Tryz.prog 32 #[.string (strB Y1)] W (fun e w' => e = .returned (.int .i64 G.step) ∧ Below W.heap.size W w') from by
      rw [hg1.out]
      have := numberOf_c (strB Y1) W (hL.up hq) (by rw [strB_size]; omega)
      rwa [bts_strB] at this)
    have HD := hide (fun (W : World) (hq : Below w.heap.size w W) => show Calls Tryz.prog 33 #[.string (strB Y2)] W (fun e w' => ∃ A' n' c', e = .returned (.slice A' n' c') ∧ Own w' W.heap.size (.slice A' n' c') G.word ∧ Below W.heap.size W w') from by
      rw [hg2.out]
      have := readDraws_c (strB Y2) W (by rw [strB_size]; omega)
      rwa [bts_strB] at this)
    have hwfS := hide (show (Lit.int .i64 G.step).wf = true by rw [hg1.out]; exact numL_wf _)
    obtain ⟨S1, hS1⟩ : ∃ S, Hid (strB X1 = S) := ⟨_, hide rfl⟩
    obtain ⟨S2, hS2⟩ : ∃ S, Hid (strB X2 = S) := ⟨_, hide rfl⟩
    obtain ⟨R1, hR1⟩ : ∃ S, Hid (strB Y1 = S) := ⟨_, hide rfl⟩
    obtain ⟨R2, hR2⟩ : ∃ S, Hid (strB Y2 = S) := ⟨_, hide rfl⟩
    rw [hS1.out, hS2.out] at HC1
    rw [hS2.out, hR1.out, hR2.out] at HC2
    rw [hS1.out] at HA
    rw [hR1.out] at HB
    rw [hR2.out] at HD
    clear hg0 hg1 hg2 hl1 hl2
    obtain ⟨z0, z1, z2, y0, y1, y2, _⟩ := hz.out
    go_enter Tryz.func9, Tryz.ntmps9
    go_wp2_with fail
    refine (HC1.out _ hq0.out).mono ?_
    rintro e w1 ⟨rfl, hq⟩
    have hb1 := hide (upB hq0.out hq)
    have hz1 := hide (hz.out.up hq)
    clear hq HC1
    go_wp2_with fail
    refine (HC2.out _ hb1.out).mono ?_
    rintro e w2 ⟨rfl, hq⟩
    have hb2 := hide (upB hb1.out hq)
    have hz2 := hide (hz1.out.up hq)
    clear hq HC2 hb1 hz1
    go_wp2_with fail
    refine (HA.out _ hb2.out).mono ?_
    rintro e w3 ⟨A1, n1, c1, rfl, hoA, hq⟩
    have hb3 := hide (upB hb2.out hq)
    have hz3 := hide (hz2.out.up hq)
    have hs23 := hide hq.size
    have hs2 := hide hz2.out.lt
    have hoA := hide hoA
    clear hq HA hb2 hz2
    go_wp2_with fail
    refine (HB.out _ hb3.out).mono ?_
    rintro e w4 ⟨rfl, hq⟩
    have hb4 := hide (upB hb3.out hq)
    have hz4 := hide (hz3.out.up hq)
    have hs34 := hide hq.size
    have hoA4 := hide (hoA.out.up hq)
    clear hq HB hb3 hz3 hoA
    go_wp2_with fail
    refine (HD.out _ hb4.out).mono ?_
    rintro e w5 ⟨A2, n2, c2, rfl, hoB, hq⟩
    have hb5 := hide (upB hb4.out hq)
    have hz5 := hide (hz4.out.up hq)
    have hoA5 := hide (hoA4.out.up hq)
    have hne := hide (apart_new hoA4.out hoB (Nat.le_refl _))
    have hoB5 := hide (hoB.down (show w2.heap.size ≤ w4.heap.size by have := hs23.out; have := hs34.out; omega))
    clear hq HD hb4 hz4 hoA4 hoB hs23 hs34
    have hB6 := hide (TriW.made w5 (.slice A1 n1 c1) (.int .i64 G.step) (.slice A2 n2 c2) 24)
    have hq5 := hide (al w5 (.cells #[.slice A1 n1 c1, .int .i64 G.step, .slice A2 n2 c2] 24))
    have hz6 := hide (hz5.out.up hq5.out)
    have hb6 := hide (upB hb5.out hq5.out)
    have hP6 := hide (show PlM (w5.alloc (.cells #[.slice A1 n1 c1, .int .i64 G.step, .slice A2 n2 c2] 24)) (w5.alloc (.cells #[.slice A1 n1 c1, .int .i64 G.step, .slice A2 n2 c2] 24)).heap.size (.agg #[.slice A1 n1 c1, .int .i64 G.step, .slice A2 n2 c2]) G from (plM_mk hoA5.out.ints hoB5.out.ints hwfS.out).up hq5.out)
    have hoA6 := hide (hoA5.out.up hq5.out)
    have hoB6 := hide (hoB5.out.up hq5.out)
    have HT := hide (placeText_impl _ G _ _ hP6.out (Nat.le_refl _) (hL.up hb6.out).t)
    obtain ⟨a0, a1, a2, c0, d1, d2, _⟩ := hz6.out
    obtain ⟨b0, b1, b2, _⟩ := hB6.out
    clear hz5 hb5 hoA5 hoB5
    by_cases hemp : s = ⟨#[]⟩
    · have hr : readP (bts s) = none := by rw [hemp]; exact readP_nil
      have e1 := hide (show readPB (bts s) = false by unfold readPB; rw [hr]; rfl)
      have e2 := hide (show readQ (bts s) = noPlc by unfold readQ; rw [hr]; rfl)
      clear hr hX1 hX2 hX3 hG
      subst hemp
      go_wp2_with fail
      obtain ⟨k0, k1, k2, _, _, _, _⟩ := ((hz6.out.set0 (.slice none 0 0)).set1 (.int .i64 0)).set2 (.slice none 0 0)
      exact bodyPost_ret (v := .tuple #[.agg #[.slice none 0 0, .int .i64 0, .slice none 0 0], .bool false]) (by simp [results, Tryz.results9, go_sem, k0, k1, k2]) rfl ⟨_, by rw [e1.out], by rw [e2.out]; exact noPlQ, ((hb6.out.setCell (Nat.le_refl _) _).setCell (Nat.le_refl _) _).setCell (Nat.le_refl _) _⟩
    · obtain ⟨hn0, hn1⟩ := str_ne hemp
      have hbe : bts s ≠ [] := fun e => hemp (by rw [← strB_bts s, e]; rfl)
      by_cases hT : placeT G = bts s
      · have hr := hY.out hbe hT
        have e1 := hide (show readPB (bts s) = true by unfold readPB; rw [hr]; rfl)
        have e2 := hide (show readQ (bts s) = G by unfold readQ; rw [hr]; rfl)
        have eT := hide (show strB (placeT G) = s by rw [hT, strB_bts])
        rw [eT.out] at HT
        clear hr hbe hT eT hemp
        go_wp2_with fail
        refine HT.out.mono ?_
        rintro e w7 ⟨rfl, hq⟩
        have hz7 := hide (hz6.out.up hq)
        have hB7 := hide (hB6.out.up hq)
        have hb7 := hide (upB hb6.out hq)
        have hoA7 := hide (hoA6.out.up hq)
        have hoB7 := hide (hoB6.out.up hq)
        clear hq a0 a1 a2 c0 d1 d2 b0 b1 b2
        obtain ⟨a0, a1, a2, c0, d1, d2, _⟩ := hz7.out
        obtain ⟨b0, b1, b2, _⟩ := hB7.out
        go_wp2_with fail
        obtain ⟨k0, k1, k2, _, _, _, _⟩ := ((hz7.out.set0 (.slice A1 n1 c1)).set1 (.int .i64 G.step)).set2 (.slice A2 n2 c2)
        have hlow : ∀ {X : World} {u : Value} {l : List Int} (v0 v1 v2 : Value), Own X w2.heap.size u l → Own (((X.setCell ⟨w.heap.size, 0, none⟩ v0).setCell ⟨w.heap.size, 1, none⟩ v1).setCell ⟨w.heap.size, 2, none⟩ v2) w.heap.size u l := fun {X u l} v0 v1 v2 hu => (((hu.setLow (a := ⟨w.heap.size, 0, none⟩) hs2.out v0).setLow (a := ⟨w.heap.size, 1, none⟩) hs2.out v1).setLow (a := ⟨w.heap.size, 2, none⟩) hs2.out v2).down (Nat.le_of_lt hs2.out)
        exact bodyPost_ret (v := .tuple #[.agg #[.slice A1 n1 c1, .int .i64 G.step, .slice A2 n2 c2], .bool true]) (by simp [results, Tryz.results9, go_sem, k0, k1, k2]) rfl ⟨_, by rw [e1.out], by rw [e2.out]; exact ⟨A1, n1, c1, A2, n2, c2, rfl, hlow _ _ _ hoA7.out, hlow _ _ _ hoB7.out, hne.out, hwfS.out⟩, ((hb7.out.setCell (Nat.le_refl _) _).setCell (Nat.le_refl _) _).setCell (Nat.le_refl _) _⟩
      · have hr := hNo.out hT
        have e1 := hide (show readPB (bts s) = false by unfold readPB; rw [hr]; rfl)
        have e2 := hide (show readQ (bts s) = noPlc by unfold readQ; rw [hr]; rfl)
        have hne2 : strB (placeT G) ≠ s := fun e => hT (by rw [← e, bts_strB])
        obtain ⟨TT, hTT⟩ : ∃ T, Hid (strB (placeT G) = T) := ⟨_, hide rfl⟩
        rw [hTT.out] at HT hne2
        obtain ⟨hm0, hm1⟩ := str_neq hne2
        clear hr hbe hT hemp hne2
        go_wp2_with fail
        refine HT.out.mono ?_
        rintro e w7 ⟨rfl, hq⟩
        have hz7 := hide (hz6.out.up hq)
        have hb7 := hide (upB hb6.out hq)
        clear hq a0 a1 a2 c0 d1 d2 b0 b1 b2
        obtain ⟨a0, a1, a2, c0, d1, d2, _⟩ := hz7.out
        go_wp2_with fail
        obtain ⟨k0, k1, k2, _, _, _, _⟩ := ((hz7.out.set0 (.slice none 0 0)).set1 (.int .i64 0)).set2 (.slice none 0 0)
        exact bodyPost_ret (v := .tuple #[.agg #[.slice none 0 0, .int .i64 0, .slice none 0 0], .bool false]) (by simp [results, Tryz.results9, go_sem, k0, k1, k2]) rfl ⟨_, by rw [e1.out], by rw [e2.out]; exact noPlQ, ((hb7.out.setCell (Nat.le_refl _) _).setCell (Nat.le_refl _) _).setCell (Nat.le_refl _) _⟩
end Go.Proofs.YtkgfbmlhplclfaaGreatDoor
