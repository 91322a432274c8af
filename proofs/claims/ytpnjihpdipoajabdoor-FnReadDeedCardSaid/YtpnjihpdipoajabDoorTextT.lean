/-
  Contracts of chapter 14, the specification's side: PlaceText.
-/
import Derived.Test.YtpnjihpdipoajabDoorTextS
namespace Go.Proofs.YtpnjihpdipoajabDoor
open Go.RowKit
set_option linter.unusedVariables false

theorem abc_cut {c : Nat} (h : c < 3) : (⟨#[97, 98, 99]⟩ : ByteArray).extract c (c + 1) = strB [UInt8.ofNat (97 + c)] := by
  match c, h with
  | 0, _ => decide
  | 1, _ => decide
  | 2, _ => decide
set_option maxRecDepth 100000 in
set_option maxHeartbeats 1600000 in
theorem placeText_spec (v : Value) (p : Plc) (B : Nat) (w : World) (h : PlM w B v p) (hB : B ≤ w.heap.size) :
    Calls Tryd.prog 20 #[v] w fun e w' => e = .returned (.string (strB (placeT p))) ∧ Below w.heap.size w w' := by
  obtain ⟨A, n, c, A', n', c', rfl, h1, h2, hwf⟩ := h.ex
  obtain ⟨W0, hW0⟩ : ∃ W0, Hid (w.alloc (.cells #[.slice A n c, .int .i64 p.step, .slice A' n' c'] 43) = W0) := ⟨_, hide rfl⟩
  have hq0 := hide (show Below w.heap.size w W0 by rw [← hW0.out]; exact al w _)
  have ht0 := hide (show Tri W0 w.heap.size (.slice A n c) (.int .i64 p.step) (.slice A' n' c') by rw [← hW0.out]; exact Tri.made w _ _ _ _)
  have hl := hide h1.len
  have hl' := hide h2.len
  have i1 := hide ((h1.more hB).up hq0.out)
  have i2 := hide ((h2.more hB).up hq0.out)
  have HO := hide (placeOk_spec _ p _ W0 (plM_mk i1.out i2.out hwf) (Nat.le_refl _))
  by_cases hok : placeOk p = true
  · rw [hok] at HO
    obtain ⟨⟨g1, g3⟩, gz, ⟨gs0, gs1⟩, g6, gw⟩ := placeOk_yes hok
    have hn3 : n ≤ 3 := by have := hl.out; omega
    have hn6 : n' ≤ 6 := by have := hl'.out; omega
    have HW := hide (fun (k : Nat) x (hx : p.word[k]? = some x) => show 0 ≤ x ∧ x < 3 by have := gw x (List.mem_of_getElem? hx); omega)
    have HS := hide (fun (k : Nat) x (hx : p.word[k]? = some x) => wordTo_step hx)
    have HZ := hide (fun (k : Nat) (hk : k ≤ n') => show (strB (wordTo p.word k)).size ≤ k + 1 by rw [strB_size]; exact wordTo_len _ _)
    have HE := hide (wordT_to p.word)
    have hfin := hide (show strB (placeT p) = strB (rowT p.start) ++ ⟨#[32]⟩ ++ strB (stepT p.step) ++ ⟨#[32]⟩ ++ strB (wordT p.word) by
      rw [placeT_ok hok]; unfold rawT
      rw [strB_append, strB_cons, strB_append, strB_cons]
      simp only [ByteArray.append_assoc])
    have hz1 := (show (strB (rowT p.start)).size ≤ 8 by rw [strB_size]; exact rowT_len g3 gz)
    have hz2 := (show (strB (stepT p.step)).size ≤ 3 by rw [strB_size]; exact (step_at (by omega) (by omega)).2.2.2)
    obtain ⟨S1, hS1⟩ : ∃ S, Hid (strB (rowT p.start) = S) := ⟨_, hide rfl⟩
    obtain ⟨S2, hS2⟩ : ∃ S, Hid (strB (stepT p.step) = S) := ⟨_, hide rfl⟩
    rw [hS1.out, hS2.out] at hfin
    rw [hS1.out] at hz1
    rw [hS2.out] at hz2
    clear gz gw hok g1 g3 g6
    have hW1 := hW0.out
    subst hW1
    go_enter Tryd.func20, Tryd.ntmps20
    go_wp2_with (go_at_call 45; refine HO.out.mono ?_; rintro e w2 ⟨rfl, hq2⟩)
    have hq2 := hide hq2
    go_loopw [3, 4] (fun v i wr => ∃ k : Nat, ∃ S : ByteArray, k ≤ n' ∧ i = .int .i64 k ∧ v = .string S ∧ Hid (S = strB (wordTo p.word k)) ∧ Hid (Below (w.alloc (.cells #[.slice A n c, .int .i64 p.step, .slice A' n' c'] 43)).heap.size (w.alloc (.cells #[.slice A n c, .int .i64 p.step, .slice A' n' c'] 43)) wr)) (fun _ i _ => n' - (intOf i).toNat)
    case atStart => exact ⟨0, ⟨#[46]⟩, Nat.zero_le _, rfl, rfl, hide rfl, hq2⟩
    case round =>
      obtain ⟨k, S, hk, rfl, rfl, hS, hb⟩ := hrel
      obtain ⟨f0, f1, f2, f3⟩ := ht0.out.up hb.out
      have hsz := HZ.out k hk
      rw [← hS.out] at hsz
      by_cases hlt : k < n'
      · obtain ⟨b, off, x, rfl, hbB, hx, hcell⟩ := (i2.out.up hb.out).look hlt
        obtain ⟨x0, x3⟩ := HW.out k x hx.out
        obtain ⟨cc, rfl⟩ : ∃ cc : Nat, x = (cc : Int) := ⟨x.toNat, by omega⟩
        have hst := hide (congrArg strB (HS.out k _ hx.out))
        have hcut := abc_cut (c := cc) (by omega)
        obtain ⟨L, hL⟩ : ∃ L, Hid (strB [UInt8.ofNat (97 + cc)] = L) := ⟨_, hide rfl⟩
        have hLs : L.size = 1 := by rw [← hL.out, strB_size]; rfl
        rw [hL.out] at hcut
        by_cases hk0 : k = 0
        · subst hk0
          rw [Nat.add_zero] at hcell
          have hnx := hide (show ⟨#[]⟩ ++ L = strB (wordTo p.word 1) by rw [hst.out, if_pos rfl, strB_append]; show _ = _ ++ strB ([UInt8.ofNat (97 + ((cc : Int)).toNat)]); rw [Int.toNat_natCast, hL.out]; rfl)
          go_wp2_with fail
          go_quiet (fail)
          go_wp2_with fail
          go_roundw
          case rel => exact ⟨1, _, by omega, by go_num, rfl, hnx, hide (below_drewN hb.out _)⟩
          case measure => simp [intOf] <;> omega
        · have hkp : 0 < k := by omega
          have hnx := hide (show S ++ L = strB (wordTo p.word (k + 1)) by rw [hst.out, if_neg hk0, strB_append, hS.out]; show _ = _ ++ strB ([UInt8.ofNat (97 + ((cc : Int)).toNat)]); rw [Int.toNat_natCast, hL.out])
          go_wp2_with fail
          go_quiet (fail)
          go_wp2_with fail
          go_roundw
          case rel => exact ⟨k + 1, _, by omega, by go_num, rfl, hnx, hide (below_drewN hb.out _)⟩
          case measure => simp [intOf]; omega
      · obtain rfl : n' = k := by omega
        have hS3 := hide (show S = strB (wordT p.word) by rw [hS.out, HE.out, hl'.out])
        have HA := hide (fun (W : World) (hq : Below (w.alloc (.cells #[.slice A n c, .int .i64 p.step, .slice A' n' c'] 43)).heap.size (w.alloc (.cells #[.slice A n c, .int .i64 p.step, .slice A' n' c'] 43)) W) => show Calls Tryd.prog 46 #[.slice A n c] W (fun e w' => e = .returned (.string S1) ∧ Below (w.alloc (.cells #[.slice A n c, .int .i64 p.step, .slice A' n' c'] 43)).heap.size (w.alloc (.cells #[.slice A n c, .int .i64 p.step, .slice A' n' c'] 43)) w' ∧ w'.cell? ⟨w.heap.size, 0, none⟩ = some (.slice A n c) ∧ w'.cell? ⟨w.heap.size, 1, none⟩ = some (.int .i64 p.step)) from
          (l15Row_c A n c _ p.start W (i1.out.up hq) (Nat.le_refl _) (by omega)).mono fun e w' ⟨e1, hq'⟩ => by
            have hk := ht0.out.up (upB hq hq')
            rw [hS1.out] at e1
            exact ⟨e1, upB hq hq', hk.c0, hk.c1⟩)
        have HB := hide (fun (W : World) (hq : Below (w.alloc (.cells #[.slice A n c, .int .i64 p.step, .slice A' n' c'] 43)).heap.size (w.alloc (.cells #[.slice A n c, .int .i64 p.step, .slice A' n' c'] 43)) W) => show Calls Tryd.prog 31 #[.int .i64 p.step] W (fun e w' => e = .returned (.string S2) ∧ Below (w.alloc (.cells #[.slice A n c, .int .i64 p.step, .slice A' n' c'] 43)).heap.size (w.alloc (.cells #[.slice A n c, .int .i64 p.step, .slice A' n' c'] 43)) w' ∧ w'.cell? ⟨w.heap.size, 0, none⟩ = some (.slice A n c) ∧ w'.cell? ⟨w.heap.size, 1, none⟩ = some (.int .i64 p.step)) from
          (l15Step_c p.step W (by omega) (by omega)).mono fun e w' ⟨e1, hq'⟩ => by
            have hk := ht0.out.up (upB hq hq')
            rw [hS2.out] at e1
            exact ⟨e1, upB hq hq', hk.c0, hk.c1⟩)
        rw [← hS3.out] at hfin
        have hb := hb.out
        have q1 : ¬ 9223372036854775807 < S1.size + 1 := by omega
        have q2 : ¬ 9223372036854775807 < S1.size + 1 + S2.size := by omega
        have q3 : ¬ 9223372036854775807 < S1.size + 1 + S2.size + 1 := by omega
        have q4 : ¬ 9223372036854775807 < S1.size + 1 + S2.size + 1 + S.size := by omega
        go_wp2_with fail
        go_region_held3 (fun W => W.cell? ⟨w.heap.size, 0, none⟩ = some (.slice A n c) ∧ W.cell? ⟨w.heap.size, 1, none⟩ = some (.int .i64 p.step)) (first | exact ⟨f0, f1⟩ | exact ⟨k0, k1⟩ | exact ⟨m0, m1⟩) (first | (go_at_call 46; (with_reducible refine (HA.out _ ?_).mono ?_); (focus (repeat (first | assumption | exact Below.refl _ _ | refine Below.drew ?_)); done); rintro e w' ⟨rfl, hq, k0, k1⟩) | (go_at_call 31; (with_reducible refine (HB.out _ ?_).mono ?_); (focus (repeat (first | assumption | exact Below.refl _ _ | refine Below.drew ?_)); done); rintro e w' ⟨rfl, hq, m0, m1⟩))
        all_goals
          go_wp2_with fail
          go_ret
          exact ⟨by rw [hfin.out]; rfl, upB hq0.out (by assumption)⟩
  · have hok : placeOk p = false := by simpa using hok
    rw [hok] at HO
    have he := hide (show strB (placeT p) = ⟨#[]⟩ by rw [placeT_no hok]; rfl)
    have hW1 := hW0.out
    subst hW1
    go_enter Tryd.func20, Tryd.ntmps20
    go_wp2_with (go_at_call 45; refine HO.out.mono ?_; rintro e w2 ⟨rfl, hq2⟩)
    go_ret
    exact ⟨by rw [he.out]; rfl, upB hq0.out hq2⟩
end Go.Proofs.YtpnjihpdipoajabDoor
