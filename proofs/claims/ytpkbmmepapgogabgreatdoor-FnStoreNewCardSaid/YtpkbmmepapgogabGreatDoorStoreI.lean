/-
  Contracts of chapter 14, the program: StoreOk, StoreNew, StoreSync, StoreCrash; the exact laws' eqStore, szStore, toStore (written by wip/gen_f12.py).
-/
import Derived.Test.YtpkbmmepapgogabGreatDoorZrdi
import Derived.Test.YtpkbmmepapgogabGreatDoorZpb
import Derived.Test.YtpkbmmepapgogabGreatDoorPlaceS
namespace Go.Proofs.YtpkbmmepapgogabGreatDoor
open Go.RowKit
set_option linter.unusedVariables false
set_option linter.unusedSimpArgs false

set_option maxRecDepth 100000 in
set_option maxHeartbeats 1600000 in
theorem storeOk_impl (s : Sto) (w : World) (hL : LaidN w) :
    Calls Tryz.prog 10 #[.agg #[.string s.saved, .string s.log, .int .i64 s.sure]] w fun e w' => e = .returned (.bool (storeOk s)) ∧ Below w.heap.size w w' := by
  obtain ⟨sv, lg, su⟩ := s
  show Calls Tryz.prog 10 #[.agg #[.string sv, .string lg, .int .i64 su]] w _
  have ht := hide (Tri.made w (.string sv) (.string lg) (.int .i64 su) 24)
  have hq0 := hide (al w (.cells #[.string sv, .string lg, .int .i64 su] 24))
  have HR := hide (readPlace_impl sv (w.alloc (.cells #[.string sv, .string lg, .int .i64 su] 24)) (hL.up hq0.out))
  have he := hide (show storeOk ⟨sv, lg, su⟩ = (readPB (bts sv) && decide (lg.size ≤ 1000) && decide (0 ≤ su ∧ su ≤ (lg.size : Int))) from rfl)
  obtain ⟨V, hV⟩ : ∃ V, Hid (readPB (bts sv) = V) := ⟨_, hide rfl⟩
  rw [hV.out] at HR he
  go_enter Tryz.func10, Tryz.ntmps10
  go_wp2_with fail
  refine HR.out.mono ?_
  rintro e w2 ⟨v, rfl, hp, hq⟩
  obtain ⟨A, n, c, A', n', c', rfl, _, _, _⟩ := hp.ex
  have hq2 := hide (al w2 (.cells #[.slice A n c, .int .i64 (readQ (bts sv)).step, .slice A' n' c'] 31))
  obtain ⟨c0, c1, c2, hlt⟩ := (ht.out.up hq).up hq2.out
  have hb := hide (upB (upB hq0.out hq) hq2.out)
  clear hp hq HR
  cases V with
  | false =>
    go_wp2_with fail
    go_ret
    exact ⟨ret_bool (by rw [he.out]; rfl), hb.out⟩
  | true =>
    by_cases hl : lg.size ≤ 1000
    · by_cases hs0 : 0 ≤ su
      · by_cases hs1 : su ≤ (lg.size : Int)
        · have he2 := hide (show storeOk ⟨sv, lg, su⟩ = true by rw [he.out, decide_eq_true hl, decide_eq_true (show 0 ≤ su ∧ su ≤ (lg.size : Int) from ⟨hs0, hs1⟩)]; rfl)
          go_wp2_with fail
          go_ret
          exact ⟨ret_bool (by rw [he2.out]), hb.out⟩
        · have he2 := hide (show storeOk ⟨sv, lg, su⟩ = false by rw [he.out, decide_eq_false (show ¬ (0 ≤ su ∧ su ≤ (lg.size : Int)) from fun h => hs1 h.2), Bool.and_false])
          go_wp2_with fail
          go_ret
          exact ⟨ret_bool (by rw [he2.out]; exact decide_eq_false (by omega)), hb.out⟩
      · have he2 := hide (show storeOk ⟨sv, lg, su⟩ = false by rw [he.out, decide_eq_false (show ¬ (0 ≤ su ∧ su ≤ (lg.size : Int)) from fun h => hs0 h.1), Bool.and_false])
        go_wp2_with fail
        go_ret
        exact ⟨ret_bool (by rw [he2.out]), hb.out⟩
    · have he2 := hide (show storeOk ⟨sv, lg, su⟩ = false by rw [he.out, decide_eq_false hl]; rfl)
      go_wp2_with fail
      go_ret
      exact ⟨ret_bool (by rw [he2.out]), hb.out⟩
set_option maxRecDepth 100000 in
set_option maxHeartbeats 1600000 in
theorem storeNew_impl (v : Value) (p : Plc) (B : Nat) (w : World) (h : PlM w B v p) (hB : B ≤ w.heap.size) (hL : LaidT w) :
    Calls Tryz.prog 14 #[v] w fun e w' => e = .returned (.tuple #[.agg #[.string (newX p).saved, .string (newX p).log, .int .i64 (newX p).sure], .bool (placeOk p)]) ∧ Below w.heap.size w w' := by
  obtain ⟨A, n, c, A', n', c', rfl, h1, h2, hwf⟩ := h.ex
  have hq0 := hide (show Below w.heap.size w ((w.alloc (.cells #[.slice A n c, .int .i64 p.step, .slice A' n' c'] 31)).alloc (.cells #[.string ⟨#[]⟩, .string ⟨#[]⟩, .int .i64 0] 24)) from (al w _).alloc (by simp) _)
  have ht := hide (show Tri ((w.alloc (.cells #[.slice A n c, .int .i64 p.step, .slice A' n' c'] 31)).alloc (.cells #[.string ⟨#[]⟩, .string ⟨#[]⟩, .int .i64 0] 24)) w.heap.size (.slice A n c) (.int .i64 p.step) (.slice A' n' c') from (Tri.made w _ _ _ _).up (al _ _))
  have hz := hide (show TriW ((w.alloc (.cells #[.slice A n c, .int .i64 p.step, .slice A' n' c'] 31)).alloc (.cells #[.string ⟨#[]⟩, .string ⟨#[]⟩, .int .i64 0] 24)) (w.heap.size + 1) (.string ⟨#[]⟩) (.string ⟨#[]⟩) (.int .i64 0) from by have := TriW.made (w.alloc (.cells #[.slice A n c, .int .i64 p.step, .slice A' n' c'] 31)) (.string ⟨#[]⟩) (.string ⟨#[]⟩) (.int .i64 0) 24; simpa using this)
  obtain ⟨WX, hW0⟩ : ∃ W, Hid (((w.alloc (.cells #[.slice A n c, .int .i64 p.step, .slice A' n' c'] 31)).alloc (.cells #[.string ⟨#[]⟩, .string ⟨#[]⟩, .int .i64 0] 24)) = W) := ⟨_, hide rfl⟩
  rw [hW0.out] at hq0 ht hz
  have HT := hide (placeText_impl _ p _ WX (plM_mk ((h1.more hB).up hq0.out) ((h2.more hB).up hq0.out) hwf) (Nat.le_refl _) (hL.up hq0.out))
  obtain ⟨t0, t1, t2, _⟩ := ht.out
  have e0 := hide (show newX p = ⟨strB (placeT p), ⟨#[]⟩, 0⟩ from by
    unfold newX
    cases hok : placeOk p with
    | true => rfl
    | false => rw [placeT_no hok]; rfl)
  have e1 := hide (fun (h : strB (placeT p) = ⟨#[]⟩) => show placeOk p = false from by
    cases hok : placeOk p with
    | false => rfl
    | true => exact absurd (by rw [← bts_strB (placeT p), h]; rfl) (placeT_ne.2 hok))
  have e2 := hide (fun (h : strB (placeT p) ≠ ⟨#[]⟩) => show placeOk p = true from placeT_ne.1 (fun e => h (by rw [e]; rfl)))
  obtain ⟨T, hT⟩ : ∃ T, Hid (strB (placeT p) = T) := ⟨_, hide rfl⟩
  rw [hT.out] at HT e0 e1 e2
  have hW1 := hW0.out
  subst hW1
  go_enter Tryz.func14, Tryz.ntmps14
  go_wp2_with fail
  refine HT.out.mono ?_
  rintro e w2 ⟨rfl, hq⟩
  have hz2 := hide (hz.out.up hq)
  have hb := hide (upB hq0.out hq)
  obtain ⟨x0, x1, x2, y0, y1, y2, _⟩ := hz2.out
  clear hq HT
  obtain ⟨k0, k1, k2, _, _, _, _⟩ := ((hz2.out.set0 (.string T)).set1 (.string ⟨#[]⟩)).set2 (.int .i64 0)
  by_cases he : T = ⟨#[]⟩
  · have hok := hide (e1.out he)
    clear e1 e2 hT
    subst he
    go_wp2_with fail
    exact bodyPost_ret (v := .tuple #[.agg #[.string ⟨#[]⟩, .string ⟨#[]⟩, .int .i64 0], .bool false]) (by simp [results, Tryz.results14, go_sem, k0, k1, k2]) rfl ⟨by rw [e0.out, hok.out], ((hb.out.setCell (Nat.le_succ _) _).setCell (Nat.le_succ _) _).setCell (Nat.le_succ _) _⟩
  · have hok := hide (e2.out he)
    obtain ⟨hn0, hn1⟩ := str_ne he
    clear e1 e2 hT
    go_wp2_with fail
    exact bodyPost_ret (v := .tuple #[.agg #[.string T, .string ⟨#[]⟩, .int .i64 0], .bool true]) (by simp [results, Tryz.results14, go_sem, k0, k1, k2, hn0]) rfl ⟨by rw [e0.out, hok.out], ((hb.out.setCell (Nat.le_succ _) _).setCell (Nat.le_succ _) _).setCell (Nat.le_succ _) _⟩

end Go.Proofs.YtpkbmmepapgogabGreatDoor
