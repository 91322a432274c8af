/-
  Contracts of chapter 14, the program: StoreOk, StoreNew, StoreSync, StoreCrash; the exact laws' eqStore, szStore, toStore (written by wip/gen_f12.py).
-/
import Derived.Test.YtkgfbmlhplclfaaDoorZrdi
import Derived.Test.YtkgfbmlhplclfaaDoorZpb
import Derived.Test.YtkgfbmlhplclfaaDoorPlaceS
namespace Go.Proofs.YtkgfbmlhplclfaaDoor
open Go.RowKit
set_option linter.unusedVariables false
set_option linter.unusedSimpArgs false

set_option maxRecDepth 100000 in
set_option maxHeartbeats 1600000 in
theorem storeNew_impl (v : Value) (p : Plc) (B : Nat) (w : World) (h : PlM w B v p) (hB : B ≤ w.heap.size) (hL : LaidT w) :
    Calls Tryd.prog 7 #[v] w fun e w' => e = .returned (.tuple #[.agg #[.string (newX p).saved, .string (newX p).log, .int .i64 (newX p).sure], .bool (placeOk p)]) ∧ Below w.heap.size w w' := by
  obtain ⟨A, n, c, A', n', c', rfl, h1, h2, hwf⟩ := h.ex
  have hq0 := hide (show Below w.heap.size w ((w.alloc (.cells #[.slice A n c, .int .i64 p.step, .slice A' n' c'] 30)).alloc (.cells #[.string ⟨#[]⟩, .string ⟨#[]⟩, .int .i64 0] 27)) from (al w _).alloc (by simp) _)
  have ht := hide (show Tri ((w.alloc (.cells #[.slice A n c, .int .i64 p.step, .slice A' n' c'] 30)).alloc (.cells #[.string ⟨#[]⟩, .string ⟨#[]⟩, .int .i64 0] 27)) w.heap.size (.slice A n c) (.int .i64 p.step) (.slice A' n' c') from (Tri.made w _ _ _ _).up (al _ _))
  have hz := hide (show TriW ((w.alloc (.cells #[.slice A n c, .int .i64 p.step, .slice A' n' c'] 30)).alloc (.cells #[.string ⟨#[]⟩, .string ⟨#[]⟩, .int .i64 0] 27)) (w.heap.size + 1) (.string ⟨#[]⟩) (.string ⟨#[]⟩) (.int .i64 0) from by have := TriW.made (w.alloc (.cells #[.slice A n c, .int .i64 p.step, .slice A' n' c'] 30)) (.string ⟨#[]⟩) (.string ⟨#[]⟩) (.int .i64 0) 27; simpa using this)
  obtain ⟨WX, hW0⟩ : ∃ W, Hid (((w.alloc (.cells #[.slice A n c, .int .i64 p.step, .slice A' n' c'] 30)).alloc (.cells #[.string ⟨#[]⟩, .string ⟨#[]⟩, .int .i64 0] 27)) = W) := ⟨_, hide rfl⟩
  rw [hW0.out] at hq0 ht hz
  have HT := hide (placeText_impl _ p _ WX (plM_mk ((h1.more hB).up hq0.out) ((h2.more hB).up hq0.out) hwf) (Nat.le_refl _) (hL.up hq0.out))
  obtain ⟨t0, t1, t2, _⟩ := ht.out
  have e0 := hide (show newX p = ⟨strB (placeT p), ⟨#[]⟩, 0⟩ from by
    unfold newX
    cases hok : placeOk p with
    | true => rfl
    | false => rw [placeT_no hok]; rfl)
  have e1 := hide (fun (h : strB (placeT p) = ⟨#[]⟩) => show placeOk p = false from by
    cases hok : placeOk p with
    | false => rfl
    | true => exact absurd (by rw [← bts_strB (placeT p), h]; rfl) (placeT_ne.2 hok))
  have e2 := hide (fun (h : strB (placeT p) ≠ ⟨#[]⟩) => show placeOk p = true from placeT_ne.1 (fun e => h (by rw [e]; rfl)))
  obtain ⟨T, hT⟩ : ∃ T, Hid (strB (placeT p) = T) := ⟨_, hide rfl⟩
  rw [hT.out] at HT e0 e1 e2
  have hW1 := hW0.out
  subst hW1
  go_enter Tryd.func7, Tryd.ntmps7
  go_wp2_with fail
  refine HT.out.mono ?_
  rintro e w2 ⟨rfl, hq⟩
  have hz2 := hide (hz.out.up hq)
  have hb := hide (upB hq0.out hq)
  obtain ⟨x0, x1, x2, y0, y1, y2, _⟩ := hz2.out
  clear hq HT
  obtain ⟨k0, k1, k2, _, _, _, _⟩ := ((hz2.out.set0 (.string T)).set1 (.string ⟨#[]⟩)).set2 (.int .i64 0)
  by_cases he : T = ⟨#[]⟩
  · have hok := hide (e1.out he)
    clear e1 e2 hT
    subst he
    go_wp2_with fail
    exact bodyPost_ret (v := .tuple #[.agg #[.string ⟨#[]⟩, .string ⟨#[]⟩, .int .i64 0], .bool false]) (by simp [results, Tryd.results7, go_sem, k0, k1, k2]) rfl ⟨by rw [e0.out, hok.out], ((hb.out.setCell (Nat.le_succ _) _).setCell (Nat.le_succ _) _).setCell (Nat.le_succ _) _⟩
  · have hok := hide (e2.out he)
    obtain ⟨hn0, hn1⟩ := str_ne he
    clear e1 e2 hT
    go_wp2_with fail
    exact bodyPost_ret (v := .tuple #[.agg #[.string T, .string ⟨#[]⟩, .int .i64 0], .bool true]) (by simp [results, Tryd.results7, go_sem, k0, k1, k2, hn0]) rfl ⟨by rw [e0.out, hok.out], ((hb.out.setCell (Nat.le_succ _) _).setCell (Nat.le_succ _) _).setCell (Nat.le_succ _) _⟩

set_option maxRecDepth 100000 in
theorem eqStore_c (s : Sto) (w : World) :
    Calls Tryd.prog 8 #[.agg #[.string s.saved, .string s.log, .int .i64 s.sure], .agg #[.string s.saved, .string s.log, .int .i64 s.sure]] w fun e w' => e = .returned (.bool true) ∧ Below w.heap.size w w' := by
  have hq0 := hide (show Below w.heap.size w ((w.alloc (.cells #[.string s.saved, .string s.log, .int .i64 s.sure] 27)).alloc (.cells #[.string s.saved, .string s.log, .int .i64 s.sure] 27)) from (al w _).alloc (by simp) _)
  obtain ⟨a0, a1, a2, _⟩ := (Tri.made w (.string s.saved) (.string s.log) (.int .i64 s.sure) 27).up (al _ (.cells #[.string s.saved, .string s.log, .int .i64 s.sure] 27))
  obtain ⟨b0, b1, b2, _⟩ := show Tri ((w.alloc (.cells #[.string s.saved, .string s.log, .int .i64 s.sure] 27)).alloc (.cells #[.string s.saved, .string s.log, .int .i64 s.sure] 27)) (w.heap.size + 1) (.string s.saved) (.string s.log) (.int .i64 s.sure) from by have := Tri.made (w.alloc (.cells #[.string s.saved, .string s.log, .int .i64 s.sure] 27)) (.string s.saved) (.string s.log) (.int .i64 s.sure) 27; simpa using this
  go_enter Tryd.func8, Tryd.ntmps8
  go_wp2_with fail
  go_ret
  exact ⟨rfl, hq0.out⟩
end Go.Proofs.YtkgfbmlhplclfaaDoor
