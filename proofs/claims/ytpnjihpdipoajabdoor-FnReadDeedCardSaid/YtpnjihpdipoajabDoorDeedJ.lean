/-
  Contracts of chapter 14, the program: the kind that a word tells; DeedText (written by wip/gen_e3.py).
-/
import Derived.Test.YtpnjihpdipoajabDoorDeedI
import Derived.Deep.DeepCutAuto
namespace Go.Proofs.YtpnjihpdipoajabDoor
open Go.RowKit
set_option linter.unusedVariables false

def kindL (l : Bs) : Int := if l = wPut then 0 else if l = wStep then 1 else if l = wDraw then 2 else if l = wAgain then 3 else if l = wBack then 4 else -1
set_option maxRecDepth 100000 in
set_option maxHeartbeats 1600000 in
theorem kindOf_c (s : ByteArray) (w : World) (hD : LaidD w) :
    Calls Tryd.prog 34 #[.string s] w fun e w' => e = .returned (.int .i64 (kindL (bts s))) ∧ Below w.heap.size w w' := by
  obtain ⟨w0, n0, w1, n1, w2, n2, w3, n3, w4, n4⟩ := hD
  go_enter Tryd.func34, Tryd.ntmps34
  go_wp2_with fail
  go_loopw [6] (fun i wr => ∃ k : Nat, k ≤ 5 ∧ i = .int .i64 k ∧ Hid (∀ j : Nat, j < k → bts s ≠ formW j) ∧ Hid (Below w.heap.size w wr)) (fun i _ => 5 - (intOf i).toNat)
  case atStart => exact ⟨0, by omega, rfl, hide (fun j hj => absurd hj (by omega)), hide (Below.refl _ _)⟩
  case round =>
    obtain ⟨k, hk, rfl, hall, hb⟩ := hrel
    rcases (show k = 0 ∨ k = 1 ∨ k = 2 ∨ k = 3 ∨ k = 4 ∨ k = 5 by omega) with h | h | h | h | h | h
    · subst h
      have hix : ∀ w : World, (Instr.index 83 (.agg #[.string ⟨#[112, 117, 116]⟩, .int .i64 2, .string ⟨#[115, 116, 101, 112]⟩, .int .i64 1, .string ⟨#[100, 114, 97, 119]⟩, .int .i64 1, .string ⟨#[97, 103, 97, 105, 110]⟩, .int .i64 0, .string ⟨#[98, 97, 99, 107]⟩, .int .i64 0]) (.int .i64 0)).run Tryd.prog w = .ok (.agg #[.string ⟨#[112, 117, 116]⟩, .int .i64 2]) w := fun _ => by kernel_rfl
      by_cases hs : bts s = wPut
      · have hse : s = ⟨#[112, 117, 116]⟩ := bts_inj hs
        subst hse
        go_wp2_with fail
        go_ret
        exact ⟨rfl, by first | exact hb.out.alloc hb.out.size _ | exact hb.out⟩
      · have hse : ([112, 117, 116] == s.toList) = false := by
          rw [ByteArray.toList_eq]
          exact beq_eq_false_iff_ne.2 (fun e => hs e.symm)
        have hall2 := hide (show ∀ j : Nat, j < 1 → bts s ≠ formW j from fun j hj => by
          rcases Nat.lt_or_ge j 0 with hl | hl
          · exact hall.out j hl
          · obtain rfl : j = 0 := by omega
            exact hs)
        clear hs
        go_wp2_with fail
        go_roundw
        case rel => exact ⟨1, by omega, rfl, hall2, hide (by first | exact hb.out.alloc hb.out.size _ | exact hb.out)⟩
        case measure => simp [intOf]
    · subst h
      have hix : ∀ w : World, (Instr.index 83 (.agg #[.string ⟨#[112, 117, 116]⟩, .int .i64 2, .string ⟨#[115, 116, 101, 112]⟩, .int .i64 1, .string ⟨#[100, 114, 97, 119]⟩, .int .i64 1, .string ⟨#[97, 103, 97, 105, 110]⟩, .int .i64 0, .string ⟨#[98, 97, 99, 107]⟩, .int .i64 0]) (.int .i64 1)).run Tryd.prog w = .ok (.agg #[.string ⟨#[115, 116, 101, 112]⟩, .int .i64 1]) w := fun _ => by kernel_rfl
      by_cases hs : bts s = wStep
      · have hse : s = ⟨#[115, 116, 101, 112]⟩ := bts_inj hs
        subst hse
        go_wp2_with fail
        go_ret
        exact ⟨rfl, by first | exact hb.out.alloc hb.out.size _ | exact hb.out⟩
      · have hse : ([115, 116, 101, 112] == s.toList) = false := by
          rw [ByteArray.toList_eq]
          exact beq_eq_false_iff_ne.2 (fun e => hs e.symm)
        have hall2 := hide (show ∀ j : Nat, j < 2 → bts s ≠ formW j from fun j hj => by
          rcases Nat.lt_or_ge j 1 with hl | hl
          · exact hall.out j hl
          · obtain rfl : j = 1 := by omega
            exact hs)
        clear hs
        go_wp2_with fail
        go_roundw
        case rel => exact ⟨2, by omega, rfl, hall2, hide (by first | exact hb.out.alloc hb.out.size _ | exact hb.out)⟩
        case measure => simp [intOf]
    · subst h
      have hix : ∀ w : World, (Instr.index 83 (.agg #[.string ⟨#[112, 117, 116]⟩, .int .i64 2, .string ⟨#[115, 116, 101, 112]⟩, .int .i64 1, .string ⟨#[100, 114, 97, 119]⟩, .int .i64 1, .string ⟨#[97, 103, 97, 105, 110]⟩, .int .i64 0, .string ⟨#[98, 97, 99, 107]⟩, .int .i64 0]) (.int .i64 2)).run Tryd.prog w = .ok (.agg #[.string ⟨#[100, 114, 97, 119]⟩, .int .i64 1]) w := fun _ => by kernel_rfl
      by_cases hs : bts s = wDraw
      · have hse : s = ⟨#[100, 114, 97, 119]⟩ := bts_inj hs
        subst hse
        go_wp2_with fail
        go_ret
        exact ⟨rfl, by first | exact hb.out.alloc hb.out.size _ | exact hb.out⟩
      · have hse : ([100, 114, 97, 119] == s.toList) = false := by
          rw [ByteArray.toList_eq]
          exact beq_eq_false_iff_ne.2 (fun e => hs e.symm)
        have hall2 := hide (show ∀ j : Nat, j < 3 → bts s ≠ formW j from fun j hj => by
          rcases Nat.lt_or_ge j 2 with hl | hl
          · exact hall.out j hl
          · obtain rfl : j = 2 := by omega
            exact hs)
        clear hs
        go_wp2_with fail
        go_roundw
        case rel => exact ⟨3, by omega, rfl, hall2, hide (by first | exact hb.out.alloc hb.out.size _ | exact hb.out)⟩
        case measure => simp [intOf]
    · subst h
      have hix : ∀ w : World, (Instr.index 83 (.agg #[.string ⟨#[112, 117, 116]⟩, .int .i64 2, .string ⟨#[115, 116, 101, 112]⟩, .int .i64 1, .string ⟨#[100, 114, 97, 119]⟩, .int .i64 1, .string ⟨#[97, 103, 97, 105, 110]⟩, .int .i64 0, .string ⟨#[98, 97, 99, 107]⟩, .int .i64 0]) (.int .i64 3)).run Tryd.prog w = .ok (.agg #[.string ⟨#[97, 103, 97, 105, 110]⟩, .int .i64 0]) w := fun _ => by kernel_rfl
      by_cases hs : bts s = wAgain
      · have hse : s = ⟨#[97, 103, 97, 105, 110]⟩ := bts_inj hs
        subst hse
        go_wp2_with fail
        go_ret
        exact ⟨rfl, by first | exact hb.out.alloc hb.out.size _ | exact hb.out⟩
      · have hse : ([97, 103, 97, 105, 110] == s.toList) = false := by
          rw [ByteArray.toList_eq]
          exact beq_eq_false_iff_ne.2 (fun e => hs e.symm)
        have hall2 := hide (show ∀ j : Nat, j < 4 → bts s ≠ formW j from fun j hj => by
          rcases Nat.lt_or_ge j 3 with hl | hl
          · exact hall.out j hl
          · obtain rfl : j = 3 := by omega
            exact hs)
        clear hs
        go_wp2_with fail
        go_roundw
        case rel => exact ⟨4, by omega, rfl, hall2, hide (by first | exact hb.out.alloc hb.out.size _ | exact hb.out)⟩
        case measure => simp [intOf]
    · subst h
      have hix : ∀ w : World, (Instr.index 83 (.agg #[.string ⟨#[112, 117, 116]⟩, .int .i64 2, .string ⟨#[115, 116, 101, 112]⟩, .int .i64 1, .string ⟨#[100, 114, 97, 119]⟩, .int .i64 1, .string ⟨#[97, 103, 97, 105, 110]⟩, .int .i64 0, .string ⟨#[98, 97, 99, 107]⟩, .int .i64 0]) (.int .i64 4)).run Tryd.prog w = .ok (.agg #[.string ⟨#[98, 97, 99, 107]⟩, .int .i64 0]) w := fun _ => by kernel_rfl
      by_cases hs : bts s = wBack
      · have hse : s = ⟨#[98, 97, 99, 107]⟩ := bts_inj hs
        subst hse
        go_wp2_with fail
        go_ret
        exact ⟨rfl, by first | exact hb.out.alloc hb.out.size _ | exact hb.out⟩
      · have hse : ([98, 97, 99, 107] == s.toList) = false := by
          rw [ByteArray.toList_eq]
          exact beq_eq_false_iff_ne.2 (fun e => hs e.symm)
        have hall2 := hide (show ∀ j : Nat, j < 5 → bts s ≠ formW j from fun j hj => by
          rcases Nat.lt_or_ge j 4 with hl | hl
          · exact hall.out j hl
          · obtain rfl : j = 4 := by omega
            exact hs)
        clear hs
        go_wp2_with fail
        go_roundw
        case rel => exact ⟨5, by omega, rfl, hall2, hide (by first | exact hb.out.alloc hb.out.size _ | exact hb.out)⟩
        case measure => simp [intOf]
    · subst h
      have hl := hide (show kindL (bts s) = -1 by
        unfold kindL
        rw [if_neg (show bts s ≠ wPut from hall.out 0 (by omega)), if_neg (show bts s ≠ wStep from hall.out 1 (by omega)), if_neg (show bts s ≠ wDraw from hall.out 2 (by omega)), if_neg (show bts s ≠ wAgain from hall.out 3 (by omega)), if_neg (show bts s ≠ wBack from hall.out 4 (by omega))])
      go_wp2_with fail
      go_ret
      exact ⟨ret_int hl.out.symm, hb.out⟩

set_option maxRecDepth 100000 in
set_option maxHeartbeats 3200000 in
theorem deedText_impl (d : Ded) (w : World) (hL : LaidT w) (hD : LaidD w) :
    Calls Tryd.prog 8 #[.agg #[.int .i64 d.k, .int .i64 d.a, .int .i64 d.b]] w fun e w' => e = .returned (.string (strB (deedT d))) ∧ Below w.heap.size w w' := by
  obtain ⟨k, a, b⟩ := d
  show Calls Tryd.prog 8 #[.agg #[.int .i64 k, .int .i64 a, .int .i64 b]] w _
  have ht := hide (TriW.made w (.int .i64 k) (.int .i64 a) (.int .i64 b) 24)
  have hq0 := hide (al w (.cells #[.int .i64 k, .int .i64 a, .int .i64 b] 24))
  have HF := hide (formOf_c ⟨k, a, b⟩ (w.alloc (.cells #[.int .i64 k, .int .i64 a, .int .i64 b] 24)) (hD.up hq0.out))
  cases hkb : kindB ⟨k, a, b⟩ with
  | false =>
    rw [hkb] at HF
    have he := hide (show deedT ⟨k, a, b⟩ = [] from deedT_no (by unfold deedB; rw [hkb, Bool.and_false]))
    clear hkb
    go_enter Tryd.func8, Tryd.ntmps8
    go_wp2_with fail
    refine HF.out.mono ?_
    rintro e w2 ⟨rfl, hq2⟩
    obtain ⟨c0, c1, c2, _⟩ := ht.out.up hq2
    go_wp2_with fail
    go_ret
    exact ⟨by rw [he.out]; rfl, upB hq0.out (hq2.alloc hq2.size _)⟩
  | true =>
    rw [hkb] at HF
    have HA := hide (fun W => hasText_c a W)
    have HB := hide (fun W => hasText_c b W)
    by_cases ha : -99 ≤ a ∧ a ≤ 99
    · rw [decide_eq_true ha] at HA
      by_cases hb : -99 ≤ b ∧ b ≤ 99
      · rw [decide_eq_true hb] at HB
        have hdb := hide (show deedB ⟨k, a, b⟩ = true by unfold deedB numB; rw [hkb, decide_eq_true ⟨ha, hb⟩]; rfl)
        have hkk := hide (deedB_yes hdb.out).2.2
        have sa := hide (itoa_at ha.1 ha.2)
        have sb := hide (itoa_at hb.1 hb.2)
        have la := (step_at ha.1 ha.2).2.2.2
        have lb := (step_at hb.1 hb.2).2.2.2
        have hTa := hide (fun (W : World) (hq : Below w.heap.size w W) => show Calls Tryd.prog 29 #[.int .i64 a] W (fun e w' => e = .returned (.string (strB (stepT a))) ∧ Below W.heap.size W w') from by rw [← sa.out.1]; exact itoa_impl a W (hL.up hq) (by omega) (by omega))
        have hTb := hide (fun (W : World) (hq : Below w.heap.size w W) => show Calls Tryd.prog 29 #[.int .i64 b] W (fun e w' => e = .returned (.string (strB (stepT b))) ∧ Below W.heap.size W w') from by rw [← sb.out.1]; exact itoa_impl b W (hL.up hq) (by omega) (by omega))
        have he := hide (deedT_ok hdb.out)
        rw [← strB_size] at la lb
        obtain ⟨SA, hSA⟩ : ∃ S, Hid (strB (stepT a) = S) := ⟨_, hide rfl⟩
        obtain ⟨SB, hSB⟩ : ∃ S, Hid (strB (stepT b) = S) := ⟨_, hide rfl⟩
        rw [hSA.out] at hTa la
        rw [hSB.out] at hTb lb
        have hk5 : k = 0 ∨ k = 1 ∨ k = 2 ∨ k = 3 ∨ k = 4 := by have := hkk.out; simp at this; omega
        clear hkb ha hb hkk sa sb
        obtain ⟨WD, hWD⟩ : ∃ X, Hid (strB (formW k) = X) := ⟨_, hide rfl⟩
        obtain ⟨NN, hNN⟩ : ∃ X, Hid (formN k = X) := ⟨_, hide rfl⟩
        have HF2 := hide (show Calls Tryd.prog 27 #[.agg #[.int .i64 k, .int .i64 a, .int .i64 b]] (w.alloc (.cells #[.int .i64 k, .int .i64 a, .int .i64 b] 24)) (fun e w' => e = .returned (.tuple #[.agg #[.string WD, .int .i64 NN], .bool true]) ∧ Below (w.alloc (.cells #[.int .i64 k, .int .i64 a, .int .i64 b] 24)).heap.size (w.alloc (.cells #[.int .i64 k, .int .i64 a, .int .i64 b] 24)) w') from by rw [← hWD.out, ← hNN.out]; exact HF.out)
        clear HF
        have hk5' := hide hk5
        clear hk5
        go_enter Tryd.func8, Tryd.ntmps8
        go_wp2_with fail
        refine HF2.out.mono ?_
        rintro e w2 ⟨rfl, hq2⟩
        have ht2 := hide ((ht.out.up hq2).alloc (.cells #[.string WD, .int .i64 NN] 52))
        obtain ⟨c0, c1, c2, hlt⟩ := ht.out.up hq2
        have hb2 := hide ((upB hq0.out hq2).alloc (upB hq0.out hq2).size (.cells #[.string WD, .int .i64 NN] 52))
        clear hq2 HF2
        go_upto_region 4 with (go_at_call 28; first | (refine (HA.out _).mono ?_; rintro e w' ⟨rfl, rfl⟩) | (refine (HB.out _).mono ?_; rintro e w' ⟨rfl, rfl⟩))
        go_cut [5] (fun t wx => t = .string WD ∧ TriW wx w.heap.size (.int .i64 k) (.int .i64 a) (.int .i64 b) ∧ wx.cell? ⟨w2.heap.size, 0, none⟩ = some (.string WD) ∧ wx.cell? ⟨w2.heap.size, 1, none⟩ = some (.int .i64 NN) ∧ wx.heap.size = w2.heap.size + 1 ∧ Below w.heap.size w wx)
        case first =>
          go_wp2_with fail
          go_meet
          exact ⟨rfl, ht2.out, by rw [World.cell?_alloc_at _ _ _ _ rfl]; rfl, by rw [World.cell?_alloc_at _ _ _ _ rfl]; rfl, by simp, hb2.out⟩
        case rest =>
         obtain ⟨rfl, htc, f0, f1, hsz, hbc⟩ := hcut
         obtain ⟨c0, c1, c2, _, _, _, hltc⟩ := htc
         have hl2 : w2.heap.size < wc.heap.size := by omega
         have hb3 := hide (hbc.alloc hbc.size (.cells #[.int .i64 a, .int .i64 b] 3))
         have hbc := hide hbc
         replace hsz := hide hsz
         have he5 := hk5'.out
         rcases he5 with h | h | h | h | h
         · subst h
           obtain rfl : WD = ⟨#[112, 117, 116]⟩ := hWD.out.symm
           obtain rfl : NN = 2 := hNN.out.symm
           have hfin := hide (show strB (deedT ⟨0, a, b⟩) = ⟨#[112, 117, 116]⟩ ++ (⟨#[32]⟩ ++ SA) ++ (⟨#[32]⟩ ++ SB) by
             rw [he.out, ← hSA.out, ← hSB.out]
             show strB (wPut ++ 32 :: (stepT a ++ 32 :: stepT b)) = strB wPut ++ (strB [32] ++ strB (stepT a)) ++ (strB [32] ++ strB (stepT b))
             rw [← strB_append, ← strB_append, ← strB_append, ← strB_append]
             exact congrArg strB (by simp))
           have q0 : ¬ 9223372036854775807 < 1 + SA.size := by omega
           have q1 : ¬ 9223372036854775807 < 3 + (1 + SA.size) := by omega
           have q2 : ¬ 9223372036854775807 < 1 + SB.size := by omega
           have q3 : ¬ 9223372036854775807 < 3 + (1 + SA.size) + (1 + SB.size) := by omega
           clear he hSA hSB hdb hWD hNN hk5' ht2 hb2
           go_wp2_with fail
           go_loopw [5, 7, 38] (fun txt num i wr => ∃ j : Nat, i = .int .i64 j ∧ ((j = 0 ∧ txt = .string (⟨#[112, 117, 116]⟩)) ∨ (j = 1 ∧ txt = .string (⟨#[112, 117, 116]⟩ ++ (⟨#[32]⟩ ++ SA))) ∨ (j = 2 ∧ txt = .string (⟨#[112, 117, 116]⟩ ++ (⟨#[32]⟩ ++ SA) ++ (⟨#[32]⟩ ++ SB)))) ∧ wr.cell? ⟨wc.heap.size, 0, none⟩ = some (.int .i64 a) ∧ wr.cell? ⟨wc.heap.size, 1, none⟩ = some (.int .i64 b) ∧ wc.heap.size < wr.heap.size ∧ Hid (Below w.heap.size w wr)) (fun _ _ i _ => 3 - (intOf i).toNat)
           case atStart => exact ⟨0, rfl, .inl ⟨rfl, rfl⟩, by rw [World.cell?_alloc_at _ _ _ _ rfl]; rfl, by rw [World.cell?_alloc_at _ _ _ _ rfl]; rfl, by simp, hb3⟩
           case round =>
             clear hb3
             obtain ⟨j, rfl, hj, d0, d1, hl, hb⟩ := hrel
             rcases hj with ⟨rfl, rfl⟩ | ⟨rfl, rfl⟩ | ⟨rfl, rfl⟩
             · have HT := hide (hTa.out wr hb.out)
               go_wp2_with (go_at_call 29; refine HT.out.mono ?_; rintro e w4 ⟨rfl, hq4⟩; have e0 := hide (cell_up d0 hq4); have e1 := hide (cell_up d1 hq4); have e2 := hide (Nat.lt_of_lt_of_le hl hq4.size); have e3 := hide (upB hb.out hq4))
               go_roundw
               case rel => exact ⟨1, rfl, .inr (.inl ⟨rfl, rfl⟩), e0.out, e1.out, e2.out, e3⟩
               case measure => simp [intOf]
             · have HT := hide (hTb.out wr hb.out)
               go_wp2_with (go_at_call 29; refine HT.out.mono ?_; rintro e w4 ⟨rfl, hq4⟩; have e0 := hide (cell_up d0 hq4); have e1 := hide (cell_up d1 hq4); have e2 := hide (Nat.lt_of_lt_of_le hl hq4.size); have e3 := hide (upB hb.out hq4))
               go_roundw
               case rel => exact ⟨2, rfl, .inr (.inr ⟨rfl, rfl⟩), e0.out, e1.out, e2.out, e3⟩
               case measure => simp [intOf]
             · go_wp2_with fail
               go_ret
               exact ⟨by rw [hfin.out]; rfl, hb.out⟩
         · subst h
           obtain rfl : WD = ⟨#[115, 116, 101, 112]⟩ := hWD.out.symm
           obtain rfl : NN = 1 := hNN.out.symm
           have hfin := hide (show strB (deedT ⟨1, a, b⟩) = ⟨#[115, 116, 101, 112]⟩ ++ (⟨#[32]⟩ ++ SA) by
             rw [he.out, ← hSA.out]
             show strB (wStep ++ 32 :: stepT a) = strB wStep ++ (strB [32] ++ strB (stepT a))
             rw [← strB_append, ← strB_append]
             exact congrArg strB (by simp))
           have q0 : ¬ 9223372036854775807 < 1 + SA.size := by omega
           have q1 : ¬ 9223372036854775807 < 4 + (1 + SA.size) := by omega
           clear he hSA hSB hdb hWD hNN hk5' ht2 hb2
           go_wp2_with fail
           go_loopw [5, 7, 38] (fun txt num i wr => ∃ j : Nat, i = .int .i64 j ∧ ((j = 0 ∧ txt = .string (⟨#[115, 116, 101, 112]⟩)) ∨ (j = 1 ∧ txt = .string (⟨#[115, 116, 101, 112]⟩ ++ (⟨#[32]⟩ ++ SA)))) ∧ wr.cell? ⟨wc.heap.size, 0, none⟩ = some (.int .i64 a) ∧ wr.cell? ⟨wc.heap.size, 1, none⟩ = some (.int .i64 b) ∧ wc.heap.size < wr.heap.size ∧ Hid (Below w.heap.size w wr)) (fun _ _ i _ => 3 - (intOf i).toNat)
           case atStart => exact ⟨0, rfl, .inl ⟨rfl, rfl⟩, by rw [World.cell?_alloc_at _ _ _ _ rfl]; rfl, by rw [World.cell?_alloc_at _ _ _ _ rfl]; rfl, by simp, hb3⟩
           case round =>
             clear hb3
             obtain ⟨j, rfl, hj, d0, d1, hl, hb⟩ := hrel
             rcases hj with ⟨rfl, rfl⟩ | ⟨rfl, rfl⟩
             · have HT := hide (hTa.out wr hb.out)
               go_wp2_with (go_at_call 29; refine HT.out.mono ?_; rintro e w4 ⟨rfl, hq4⟩; have e0 := hide (cell_up d0 hq4); have e1 := hide (cell_up d1 hq4); have e2 := hide (Nat.lt_of_lt_of_le hl hq4.size); have e3 := hide (upB hb.out hq4))
               go_roundw
               case rel => exact ⟨1, rfl, .inr ⟨rfl, rfl⟩, e0.out, e1.out, e2.out, e3⟩
               case measure => simp [intOf]
             · go_wp2_with fail
               go_ret
               exact ⟨by rw [hfin.out]; rfl, hb.out⟩
         · subst h
           obtain rfl : WD = ⟨#[100, 114, 97, 119]⟩ := hWD.out.symm
           obtain rfl : NN = 1 := hNN.out.symm
           have hfin := hide (show strB (deedT ⟨2, a, b⟩) = ⟨#[100, 114, 97, 119]⟩ ++ (⟨#[32]⟩ ++ SA) by
             rw [he.out, ← hSA.out]
             show strB (wDraw ++ 32 :: stepT a) = strB wDraw ++ (strB [32] ++ strB (stepT a))
             rw [← strB_append, ← strB_append]
             exact congrArg strB (by simp))
           have q0 : ¬ 9223372036854775807 < 1 + SA.size := by omega
           have q1 : ¬ 9223372036854775807 < 4 + (1 + SA.size) := by omega
           clear he hSA hSB hdb hWD hNN hk5' ht2 hb2
           go_wp2_with fail
           go_loopw [5, 7, 38] (fun txt num i wr => ∃ j : Nat, i = .int .i64 j ∧ ((j = 0 ∧ txt = .string (⟨#[100, 114, 97, 119]⟩)) ∨ (j = 1 ∧ txt = .string (⟨#[100, 114, 97, 119]⟩ ++ (⟨#[32]⟩ ++ SA)))) ∧ wr.cell? ⟨wc.heap.size, 0, none⟩ = some (.int .i64 a) ∧ wr.cell? ⟨wc.heap.size, 1, none⟩ = some (.int .i64 b) ∧ wc.heap.size < wr.heap.size ∧ Hid (Below w.heap.size w wr)) (fun _ _ i _ => 3 - (intOf i).toNat)
           case atStart => exact ⟨0, rfl, .inl ⟨rfl, rfl⟩, by rw [World.cell?_alloc_at _ _ _ _ rfl]; rfl, by rw [World.cell?_alloc_at _ _ _ _ rfl]; rfl, by simp, hb3⟩
           case round =>
             clear hb3
             obtain ⟨j, rfl, hj, d0, d1, hl, hb⟩ := hrel
             rcases hj with ⟨rfl, rfl⟩ | ⟨rfl, rfl⟩
             · have HT := hide (hTa.out wr hb.out)
               go_wp2_with (go_at_call 29; refine HT.out.mono ?_; rintro e w4 ⟨rfl, hq4⟩; have e0 := hide (cell_up d0 hq4); have e1 := hide (cell_up d1 hq4); have e2 := hide (Nat.lt_of_lt_of_le hl hq4.size); have e3 := hide (upB hb.out hq4))
               go_roundw
               case rel => exact ⟨1, rfl, .inr ⟨rfl, rfl⟩, e0.out, e1.out, e2.out, e3⟩
               case measure => simp [intOf]
             · go_wp2_with fail
               go_ret
               exact ⟨by rw [hfin.out]; rfl, hb.out⟩
         · subst h
           obtain rfl : WD = ⟨#[97, 103, 97, 105, 110]⟩ := hWD.out.symm
           obtain rfl : NN = 0 := hNN.out.symm
           have hfin := hide (show strB (deedT ⟨3, a, b⟩) = ⟨#[97, 103, 97, 105, 110]⟩ by
             rw [he.out]
             rfl)
           clear he hSA hSB hdb hWD hNN hk5' ht2 hb2
           go_wp2_with fail
           go_loopw [5, 7, 38] (fun txt num i wr => ∃ j : Nat, i = .int .i64 j ∧ ((j = 0 ∧ txt = .string (⟨#[97, 103, 97, 105, 110]⟩))) ∧ wr.cell? ⟨wc.heap.size, 0, none⟩ = some (.int .i64 a) ∧ wr.cell? ⟨wc.heap.size, 1, none⟩ = some (.int .i64 b) ∧ wc.heap.size < wr.heap.size ∧ Hid (Below w.heap.size w wr)) (fun _ _ i _ => 3 - (intOf i).toNat)
           case atStart => exact ⟨0, rfl, ⟨rfl, rfl⟩, by rw [World.cell?_alloc_at _ _ _ _ rfl]; rfl, by rw [World.cell?_alloc_at _ _ _ _ rfl]; rfl, by simp, hb3⟩
           case round =>
             clear hb3
             obtain ⟨j, rfl, hj, d0, d1, hl, hb⟩ := hrel
             obtain ⟨rfl, rfl⟩ := hj
             go_wp2_with fail
             go_ret
             exact ⟨by rw [hfin.out]; rfl, hb.out⟩
         · subst h
           obtain rfl : WD = ⟨#[98, 97, 99, 107]⟩ := hWD.out.symm
           obtain rfl : NN = 0 := hNN.out.symm
           have hfin := hide (show strB (deedT ⟨4, a, b⟩) = ⟨#[98, 97, 99, 107]⟩ by
             rw [he.out]
             rfl)
           clear he hSA hSB hdb hWD hNN hk5' ht2 hb2
           go_wp2_with fail
           go_loopw [5, 7, 38] (fun txt num i wr => ∃ j : Nat, i = .int .i64 j ∧ ((j = 0 ∧ txt = .string (⟨#[98, 97, 99, 107]⟩))) ∧ wr.cell? ⟨wc.heap.size, 0, none⟩ = some (.int .i64 a) ∧ wr.cell? ⟨wc.heap.size, 1, none⟩ = some (.int .i64 b) ∧ wc.heap.size < wr.heap.size ∧ Hid (Below w.heap.size w wr)) (fun _ _ i _ => 3 - (intOf i).toNat)
           case atStart => exact ⟨0, rfl, ⟨rfl, rfl⟩, by rw [World.cell?_alloc_at _ _ _ _ rfl]; rfl, by rw [World.cell?_alloc_at _ _ _ _ rfl]; rfl, by simp, hb3⟩
           case round =>
             clear hb3
             obtain ⟨j, rfl, hj, d0, d1, hl, hb⟩ := hrel
             obtain ⟨rfl, rfl⟩ := hj
             go_wp2_with fail
             go_ret
             exact ⟨by rw [hfin.out]; rfl, hb.out⟩
      · rw [decide_eq_false hb] at HB
        have he := hide (show deedT ⟨k, a, b⟩ = [] from deedT_no (by unfold deedB numB; rw [decide_eq_false (fun h => hb h.2)]; rfl))
        clear hkb ha hb
        go_enter Tryd.func8, Tryd.ntmps8
        go_wp2_with fail
        refine HF.out.mono ?_
        rintro e w2 ⟨rfl, hq2⟩
        obtain ⟨c0, c1, c2, hlt⟩ := ht.out.up hq2
        have hb2 := hide (upB hq0.out hq2)
        clear hq2
        go_wp2_with (go_at_call 28; first | (refine (HA.out _).mono ?_; rintro e w' ⟨rfl, rfl⟩) | (refine (HB.out _).mono ?_; rintro e w' ⟨rfl, rfl⟩))
        go_ret
        exact ⟨by rw [he.out]; rfl, hb2.out.alloc hb2.out.size _⟩
    · rw [decide_eq_false ha] at HA
      have he := hide (show deedT ⟨k, a, b⟩ = [] from deedT_no (by unfold deedB numB; rw [decide_eq_false (fun h => ha h.1)]; rfl))
      clear hkb ha
      go_enter Tryd.func8, Tryd.ntmps8
      go_wp2_with fail
      refine HF.out.mono ?_
      rintro e w2 ⟨rfl, hq2⟩
      obtain ⟨c0, c1, c2, hlt⟩ := ht.out.up hq2
      have hb2 := hide (upB hq0.out hq2)
      clear hq2
      go_wp2_with (go_at_call 28; first | (refine (HA.out _).mono ?_; rintro e w' ⟨rfl, rfl⟩) | (refine (HB.out _).mono ?_; rintro e w' ⟨rfl, rfl⟩))
      go_ret
      exact ⟨by rw [he.out]; rfl, hb2.out.alloc hb2.out.size _⟩
end Go.Proofs.YtpnjihpdipoajabDoor
