/-
  Contracts of chapter 14, the program: ReadDeed.
-/
import Derived.Test.YtpnjihpdipoajabDoorPlainAP
namespace Go.Proofs.YtpnjihpdipoajabDoor
open Go.RowKit
set_option linter.unusedVariables false

set_option maxRecDepth 100000 in
set_option maxHeartbeats 1600000 in
theorem readDeed_impl (s : ByteArray) (w : World) (hL : LaidN w) (hD : LaidD w) (hs : s.size < 4294967281) :
    Calls Tryd.prog 11 #[.string s] w fun e w' => e = .returned (.tuple #[.agg #[.int .i64 (readDQ (bts s)).k, .int .i64 (readDQ (bts s)).a, .int .i64 (readDQ (bts s)).b], .bool (readDB (bts s))]) ∧ Below w.heap.size w w' := by
  obtain ⟨d, hd⟩ : ∃ d, Hid (partsD (bts s) = d) := ⟨_, hide rfl⟩
  have hz := hide (TriW.made w (.int .i64 0) (.int .i64 0) (.int .i64 0) 24)
  have hq0 := hide (al w (.cells #[.int .i64 0, .int .i64 0, .int .i64 0] 24))
  have HC1 := hide (fun (W : World) (hq : Below w.heap.size w W) => cutI_c s W (hL.up hq) hs)
  have hl1 := cut_len (bts s) 32
  have hl2 := cut_len (Lib.cut (bts s) [32]).2.1 32
  rw [bts_len] at hl1
  have hkd := hide (show (partsD (bts s)).k = kindL (Lib.cut (bts s) [32]).1 from rfl)
  have had := hide (show (partsD (bts s)).a = numL (Lib.cut (Lib.cut (bts s) [32]).2.1 [32]).1 from rfl)
  have hbd := hide (show (partsD (bts s)).b = numL (Lib.cut (Lib.cut (bts s) [32]).2.1 [32]).2.1 from rfl)
  rw [hd.out] at hkd had hbd
  obtain ⟨X1, hX1⟩ : ∃ X, Hid ((Lib.cut (bts s) [32]).1 = X) := ⟨_, hide rfl⟩
  obtain ⟨X2, hX2⟩ : ∃ X, Hid ((Lib.cut (bts s) [32]).2.1 = X) := ⟨_, hide rfl⟩
  obtain ⟨X3, hX3⟩ : ∃ X, Hid ((Lib.cut (bts s) [32]).2.2 = X) := ⟨_, hide rfl⟩
  rw [hX1.out, hX2.out, hX3.out] at HC1
  rw [hX1.out] at hkd hl1
  rw [hX2.out] at had hbd hl1 hl2
  have HC2 := hide (fun (W : World) (hq : Below w.heap.size w W) => cutI_c (strB X2) W (hL.up hq) (by rw [strB_size]; omega))
  rw [bts_strB] at HC2
  obtain ⟨Y1, hY1⟩ : ∃ X, Hid ((Lib.cut X2 [32]).1 = X) := ⟨_, hide rfl⟩
  obtain ⟨Y2, hY2⟩ : ∃ X, Hid ((Lib.cut X2 [32]).2.1 = X) := ⟨_, hide rfl⟩
  obtain ⟨Y3, hY3⟩ : ∃ X, Hid ((Lib.cut X2 [32]).2.2 = X) := ⟨_, hide rfl⟩
  rw [hY1.out, hY2.out, hY3.out] at HC2
  rw [hY1.out] at had hl2
  rw [hY2.out] at hbd hl2
  have HK := hide (fun (W : World) (hq : Below w.heap.size w W) => show Calls Tryd.prog 34 #[.string (strB X1)] W (fun e w' => e = .returned (.int .i64 d.k) ∧ Below W.heap.size W w') from by
    rw [hkd.out, ← bts_strB X1, bts_strB X1]
    exact (kindOf_c (strB X1) W (hD.up hq)).mono fun e w' ⟨he, hb⟩ => ⟨by rw [he, bts_strB], hb⟩)
  have HNa := hide (fun (W : World) (hq : Below w.heap.size w W) => show Calls Tryd.prog 35 #[.string (strB Y1)] W (fun e w' => e = .returned (.int .i64 d.a) ∧ Below W.heap.size W w') from
    (numberOf_c (strB Y1) W (hL.up hq) (by rw [strB_size]; omega)).mono fun e w' ⟨he, hb⟩ => ⟨by rw [he, bts_strB, had.out], hb⟩)
  have HNb := hide (fun (W : World) (hq : Below w.heap.size w W) => show Calls Tryd.prog 35 #[.string (strB Y2)] W (fun e w' => e = .returned (.int .i64 d.b) ∧ Below W.heap.size W w') from
    (numberOf_c (strB Y2) W (hL.up hq) (by rw [strB_size]; omega)).mono fun e w' ⟨he, hb⟩ => ⟨by rw [he, bts_strB, hbd.out], hb⟩)
  have HT := hide (fun (W : World) (hq : Below w.heap.size w W) => deedText_impl d W (hL.up hq).t (hD.up hq))
  obtain ⟨S1, hS1⟩ : ∃ S, Hid (strB X1 = S) := ⟨_, hide rfl⟩
  obtain ⟨S2, hS2⟩ : ∃ S, Hid (strB X2 = S) := ⟨_, hide rfl⟩
  obtain ⟨R1, hR1⟩ : ∃ S, Hid (strB Y1 = S) := ⟨_, hide rfl⟩
  obtain ⟨R2, hR2⟩ : ∃ S, Hid (strB Y2 = S) := ⟨_, hide rfl⟩
  obtain ⟨ST, hST⟩ : ∃ S, Hid (strB (deedT d) = S) := ⟨_, hide rfl⟩
  rw [hS1.out, hS2.out] at HC1
  rw [hS2.out, hR1.out, hR2.out] at HC2
  rw [hS1.out] at HK
  rw [hR1.out] at HNa
  rw [hR2.out] at HNb
  rw [hST.out] at HT
  clear hl1 hl2 hkd had hbd hX1 hX2 hX3 hY1 hY2 hY3 hS1 hS2 hR1 hR2
  go_enter Tryd.func11, Tryd.ntmps11
  go_wp2_with fail
  refine (HC1.out _ hq0.out).mono ?_
  rintro e w2 ⟨rfl, hq2⟩
  have hz2 := hide (hz.out.up hq2)
  have hb2 := hide (upB hq0.out hq2)
  clear hq2 HC1
  go_wp2_with fail
  refine (HC2.out _ hb2.out).mono ?_
  rintro e w3 ⟨rfl, hq3⟩
  have hz3 := hide (hz2.out.up hq3)
  have hb3 := hide (upB hb2.out hq3)
  clear hq3 HC2 hb2 hz2
  go_wp2_with fail
  refine (HK.out _ hb3.out).mono ?_
  rintro e w4 ⟨rfl, hq4⟩
  have hz4 := hide (hz3.out.up hq4)
  have hb4 := hide (upB hb3.out hq4)
  clear hq4 HK hb3 hz3
  go_wp2_with fail
  refine (HNa.out _ hb4.out).mono ?_
  rintro e w5 ⟨rfl, hq5⟩
  have hz5 := hide (hz4.out.up hq5)
  have hb5 := hide (upB hb4.out hq5)
  clear hq5 HNa hb4 hz4
  go_wp2_with fail
  refine (HNb.out _ hb5.out).mono ?_
  rintro e w6 ⟨rfl, hq6⟩
  have hz6 := hide (hz5.out.up hq6)
  have hb6 := hide (upB hb5.out hq6)
  clear hq6 HNb hb5 hz5
  by_cases h0 : bts s = []
  · have hsz0 : (s.toList == []) = true := by
      rw [ByteArray.toList_eq]
      show (bts s == []) = true
      rw [h0]; rfl
    have hr := hide (show readD (bts s) = none by
      rw [h0]
      cases hr : readD [] with
      | none => rfl
      | some e => exact absurd rfl (readD_iff.1 hr).2)
    obtain ⟨x0, x1, x2, y0, y1, y2, _⟩ := hz6.out
    obtain ⟨k0, k1, k2, _⟩ := (((hz6.out.set0 (.int .i64 0)).set1 (.int .i64 0)).set2 (.int .i64 0)).alloc (.cells #[.int .i64 d.k, .int .i64 d.a, .int .i64 d.b] 24)
    have hb7 := hide ((((hb6.out.setCell (p := ⟨w.heap.size, 0, none⟩) (Nat.le_refl _) (.int .i64 0)).setCell (p := ⟨w.heap.size, 1, none⟩) (Nat.le_refl _) (.int .i64 0)).setCell (p := ⟨w.heap.size, 2, none⟩) (Nat.le_refl _) (.int .i64 0)).alloc (by have := hb6.out.size; simpa using this) (.cells #[.int .i64 d.k, .int .i64 d.a, .int .i64 d.b] 24))
    clear h0
    go_wp2_with fail
    exact bodyPost_ret (v := .tuple #[.agg #[.int .i64 0, .int .i64 0, .int .i64 0], .bool false]) (by simp [results, Tryd.results11, go_sem, k0, k1, k2]) rfl ⟨by unfold readDQ readDB; rw [hr.out]; rfl, hb7.out⟩
  · have hsz0 : (s.toList == []) = false := by
      rw [ByteArray.toList_eq]
      exact beq_eq_false_iff_ne.2 h0
    have HT6 := hide (HT.out (w6.alloc (.cells #[.int .i64 d.k, .int .i64 d.a, .int .i64 d.b] 24)) (hb6.out.alloc hb6.out.size _))
    by_cases heq : deedT d = bts s
    · have hst : (ST.toList == s.toList) = true := by
        rw [← hST.out, heq, strB_bts]; simp
      have hr := hide (show readD (bts s) = some d by
        have := parts_yes h0 (by rw [hd.out]; exact heq)
        rwa [hd.out] at this)
      clear heq h0 HT
      go_wp2_with (go_at_call 8; refine HT6.out.mono ?_; rintro e w7 ⟨rfl, hq7⟩; have hz7 := hide ((hz6.out.alloc (.cells #[.int .i64 d.k, .int .i64 d.a, .int .i64 d.b] 24)).up hq7); have ht7 := hide ((TriW.made w6 (.int .i64 d.k) (.int .i64 d.a) (.int .i64 d.b) 24).up hq7); have hb7 := hide (upB (hb6.out.alloc hb6.out.size _) hq7); obtain ⟨x0, x1, x2, y0, y1, y2, _⟩ := hz7.out; obtain ⟨a0, a1, a2, _⟩ := ht7.out)
      obtain ⟨k0, k1, k2, _⟩ := (((hz7.out.set0 (.int .i64 d.k)).set1 (.int .i64 d.a)).set2 (.int .i64 d.b))
      exact bodyPost_ret (v := .tuple #[.agg #[.int .i64 d.k, .int .i64 d.a, .int .i64 d.b], .bool true]) (by simp [results, Tryd.results11, go_sem, k0, k1, k2]) rfl ⟨by unfold readDQ readDB; rw [hr.out]; rfl, ((hb7.out.setCell (p := ⟨w.heap.size, 0, none⟩) (Nat.le_refl _) (.int .i64 d.k)).setCell (p := ⟨w.heap.size, 1, none⟩) (Nat.le_refl _) (.int .i64 d.a)).setCell (p := ⟨w.heap.size, 2, none⟩) (Nat.le_refl _) (.int .i64 d.b)⟩
    · have hst : (ST.toList == s.toList) = false := by
        rw [← hST.out, ByteArray.toList_eq, ByteArray.toList_eq]
        refine beq_eq_false_iff_ne.2 (fun e => heq ?_)
        have e2 : bts (strB (deedT d)) = bts s := e
        rwa [bts_strB] at e2
      have hr := hide (show readD (bts s) = none from parts_no (by rw [hd.out]; exact heq))
      clear heq h0 HT
      go_wp2_with (go_at_call 8; refine HT6.out.mono ?_; rintro e w7 ⟨rfl, hq7⟩; have hz7 := hide ((hz6.out.alloc (.cells #[.int .i64 d.k, .int .i64 d.a, .int .i64 d.b] 24)).up hq7); have hb7 := hide (upB (hb6.out.alloc hb6.out.size _) hq7); obtain ⟨x0, x1, x2, y0, y1, y2, _⟩ := hz7.out)
      obtain ⟨k0, k1, k2, _⟩ := (((hz7.out.set0 (.int .i64 0)).set1 (.int .i64 0)).set2 (.int .i64 0))
      exact bodyPost_ret (v := .tuple #[.agg #[.int .i64 0, .int .i64 0, .int .i64 0], .bool false]) (by simp [results, Tryd.results11, go_sem, k0, k1, k2]) rfl ⟨by unfold readDQ readDB; rw [hr.out]; rfl, ((hb7.out.setCell (p := ⟨w.heap.size, 0, none⟩) (Nat.le_refl _) (.int .i64 0)).setCell (p := ⟨w.heap.size, 1, none⟩) (Nat.le_refl _) (.int .i64 0)).setCell (p := ⟨w.heap.size, 2, none⟩) (Nat.le_refl _) (.int .i64 0)⟩
end Go.Proofs.YtpnjihpdipoajabDoor
