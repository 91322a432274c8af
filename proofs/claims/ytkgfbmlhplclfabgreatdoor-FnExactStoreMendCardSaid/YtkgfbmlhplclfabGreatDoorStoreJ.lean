/-
  Contracts of chapter 14, the program: StoreMend (written by wip/gen_f12.py).
-/
import Derived.Test.YtkgfbmlhplclfabGreatDoorStoreI
import Derived.Test.YtkgfbmlhplclfabGreatDoorZst
import Derived.Test.YtkgfbmlhplclfabGreatDoorJournJ
namespace Go.Proofs.YtkgfbmlhplclfabGreatDoor
open Go.RowKit
set_option linter.unusedVariables false
set_option linter.unusedSimpArgs false

set_option maxRecDepth 100000 in
set_option maxHeartbeats 3200000 in
theorem storeMend_impl (s : Sto) (w : World) (hL : LaidN w) (hD : LaidD w) :
    Calls Tryz.prog 15 #[.agg #[.string s.saved, .string s.log, .int .i64 s.sure]] w fun e w' => e = .returned (.tuple #[.agg #[.string (mendX s).saved, .string (mendX s).log, .int .i64 (mendX s).sure], .bool (storeOk s)]) ∧ Below w.heap.size w w' := by
  obtain ⟨sv, lg, su⟩ := s
  show Calls Tryz.prog 15 #[.agg #[.string sv, .string lg, .int .i64 su]] w _
  have hq0 := hide (show Below w.heap.size w ((w.alloc (.cells #[.string sv, .string lg, .int .i64 su] 25)).alloc (.cells #[.string ⟨#[]⟩, .string ⟨#[]⟩, .int .i64 0] 25)) from (al w _).alloc (by simp) _)
  have ht := hide (show Tri ((w.alloc (.cells #[.string sv, .string lg, .int .i64 su] 25)).alloc (.cells #[.string ⟨#[]⟩, .string ⟨#[]⟩, .int .i64 0] 25)) w.heap.size (.string sv) (.string lg) (.int .i64 su) from (Tri.made w _ _ _ _).up (al _ _))
  have hz := hide (show TriW ((w.alloc (.cells #[.string sv, .string lg, .int .i64 su] 25)).alloc (.cells #[.string ⟨#[]⟩, .string ⟨#[]⟩, .int .i64 0] 25)) (w.heap.size + 1) (.string ⟨#[]⟩) (.string ⟨#[]⟩) (.int .i64 0) from by have := TriW.made (w.alloc (.cells #[.string sv, .string lg, .int .i64 su] 25)) (.string ⟨#[]⟩) (.string ⟨#[]⟩) (.int .i64 0) 25; simpa using this)
  have HO := hide (storeOk_impl ⟨sv, lg, su⟩ ((w.alloc (.cells #[.string sv, .string lg, .int .i64 su] 25)).alloc (.cells #[.string ⟨#[]⟩, .string ⟨#[]⟩, .int .i64 0] 25)) (hL.up hq0.out))
  cases hok : storeOk ⟨sv, lg, su⟩ with
  | false =>
    rw [hok] at HO
    have e1 := hide (show (mendX ⟨sv, lg, su⟩) = noSto by unfold mendX; rw [hok]; rfl)
    have e2 := hide (show (storeOk ⟨sv, lg, su⟩) = false by exact hok)
    clear hok
    go_enter Tryz.func15, Tryz.ntmps15
    go_wp2_with fail
    refine HO.out.mono ?_
    rintro e w2 ⟨rfl, hq⟩
    obtain ⟨c0, c1, c2, _⟩ := ht.out.up hq
    have hz2 := hide (hz.out.up hq)
    obtain ⟨x0, x1, x2, y0, y1, y2, _⟩ := hz2.out
    have hb := hide (upB hq0.out hq)
    clear hq HO
    go_wp2_with fail
    obtain ⟨k0, k1, k2, _, _, _, _⟩ := ((hz2.out.set0 (.string ⟨#[]⟩)).set1 (.string ⟨#[]⟩)).set2 (.int .i64 0)
    exact bodyPost_ret (v := .tuple #[.agg #[.string ⟨#[]⟩, .string ⟨#[]⟩, .int .i64 0], .bool false]) (by simp [results, Tryz.results15, go_sem, k0, k1, k2]) rfl ⟨by (first | (rw [e1.out]; done) | (rw [e1.out]; rfl) | (rw [e1.out, e2.out]; done) | (rw [e1.out, e2.out]; rfl)), ((hb.out.setCell (Nat.le_succ _) _).setCell (Nat.le_succ _) _).setCell (Nat.le_succ _) _⟩
  | true =>
    rw [hok] at HO
    obtain ⟨hp, hl, hs0, hs1⟩ := storeOk_yes hok
    have hl : lg.size ≤ 1000 := hl
    have hs0 : 0 ≤ su := hs0
    have hs1 : su ≤ (lg.size : Int) := hs1
    have HJ := hide (fun (W : World) (hq : Below w.heap.size w W) => readJournal_impl lg W (hL.up hq) (hD.up hq) (by omega))
    have hN := readJ_le (bts lg)
    rw [bts_len] at hN
    have e1 := hide (show mendX ⟨sv, lg, su⟩ = ⟨sv, lg.extract 0 (readJ (bts lg)).2, min su ((readJ (bts lg)).2 : Int)⟩ by unfold mendX; rw [hok]; rfl)
    have e2 := hide (show storeOk ⟨sv, lg, su⟩ = true from hok)
    obtain ⟨N, hNe⟩ : ∃ N, Hid ((readJ (bts lg)).2 = N) := ⟨_, hide rfl⟩
    rw [hNe.out] at HJ hN e1
    clear hok
    go_enter Tryz.func15, Tryz.ntmps15
    go_wp2_with fail
    refine HO.out.mono ?_
    rintro e w2 ⟨rfl, hq⟩
    obtain ⟨c0, c1, c2, hc3⟩ := ht.out.up hq
    have ht2 := hide (ht.out.up hq)
    have hz2 := hide (hz.out.up hq)
    obtain ⟨x0, x1, x2, y0, y1, y2, _⟩ := hz2.out
    have hb := hide (upB hq0.out hq)
    clear hq HO
    go_wp2_with (go_at_call 32; refine (HJ.out _ hb.out).mono ?_; rintro e w3 ⟨A, n, c, rfl, _, hq3⟩; have ht3 := ht2.out.up hq3; have hz3 := hide (hz2.out.up hq3); have hb3 := hide (upB hb.out hq3); obtain ⟨m0, m1, m2, _⟩ := ht3; obtain ⟨z0, z1, z2, z3, z4, z5, _⟩ := hz3.out; clear hq3)
    go_region
    all_goals
      go_wp2_with fail
      obtain ⟨k0, k1, k2, _, _, _, _⟩ := ((((hz3.out).set0 (.string sv)).set1 (.string (lg.extract 0 N))).set2 (.int .i64 (min su (N : Int)))).drew
      exact bodyPost_ret (v := .tuple #[.agg #[.string sv, .string (lg.extract 0 N), .int .i64 (min su (N : Int))], .bool true]) (by simp [results, Tryz.results15, go_sem, k0, k1, k2]) rfl ⟨by (first | (rw [e1.out]; done) | (rw [e1.out]; rfl) | (rw [e1.out, e2.out]; done) | (rw [e1.out, e2.out]; rfl)), ((((hb3.out).setCell (Nat.le_succ _) _).setCell (Nat.le_succ _) _).setCell (Nat.le_succ _) _).drew⟩

end Go.Proofs.YtkgfbmlhplclfabGreatDoor
