/-
  Contracts of chapter 14, the specification's side: StoreNew.
-/
import Derived.Test.YtpkbmmepapgogabGreatDoorZtx
import Derived.Test.YtpkbmmepapgogabGreatDoorZpb
namespace Go.Proofs.YtpkbmmepapgogabGreatDoor
open Go.RowKit
set_option linter.unusedVariables false

set_option maxRecDepth 100000 in
set_option maxHeartbeats 3200000 in
theorem storeNew_spec (v : Value) (p : Plc) (B : Nat) (w : World) (h : PlM w B v p) (hB : B ≤ w.heap.size) :
    Calls Tryz.prog 15 #[v] w fun e w' => e = .returned (.tuple #[.agg #[.string (newX p).saved, .string (newX p).log, .int .i64 (newX p).sure], .bool (placeOk p)]) ∧ Below w.heap.size w w' := by
  obtain ⟨A, n, c, A', n', c', rfl, h1, h2, hwf⟩ := h.ex
  have hq0 := hide (show Below w.heap.size w ((w.alloc (.cells #[.slice A n c, .int .i64 p.step, .slice A' n' c'] 31)).alloc (.cells #[.string ⟨#[]⟩, .string ⟨#[]⟩, .int .i64 0] 24)) from (al w _).alloc (by simp) _)
  have ht := hide (show Tri ((w.alloc (.cells #[.slice A n c, .int .i64 p.step, .slice A' n' c'] 31)).alloc (.cells #[.string ⟨#[]⟩, .string ⟨#[]⟩, .int .i64 0] 24)) w.heap.size (.slice A n c) (.int .i64 p.step) (.slice A' n' c') from (Tri.made w _ _ _ _).up (al _ _))
  have hz := hide (show TriW ((w.alloc (.cells #[.slice A n c, .int .i64 p.step, .slice A' n' c'] 31)).alloc (.cells #[.string ⟨#[]⟩, .string ⟨#[]⟩, .int .i64 0] 24)) (w.heap.size + 1) (.string ⟨#[]⟩) (.string ⟨#[]⟩) (.int .i64 0) from by have := TriW.made (w.alloc (.cells #[.slice A n c, .int .i64 p.step, .slice A' n' c'] 31)) (.string ⟨#[]⟩) (.string ⟨#[]⟩) (.int .i64 0) 24; simpa using this)
  obtain ⟨WX, hW0⟩ : ∃ WX, Hid (((w.alloc (.cells #[.slice A n c, .int .i64 p.step, .slice A' n' c'] 31)).alloc (.cells #[.string ⟨#[]⟩, .string ⟨#[]⟩, .int .i64 0] 24)) = WX) := ⟨_, hide rfl⟩
  rw [hW0.out] at hq0 ht hz
  have i1 := hide ((h1.more hB).up hq0.out)
  have i2 := hide ((h2.more hB).up hq0.out)
  have HO := hide (placeOk_spec _ p _ WX (plM_mk i1.out i2.out hwf) (Nat.le_refl _))
  cases hok : placeOk p with
  | false =>
    rw [hok] at HO
    have e2 := hide (show newX p = noSto by unfold newX; rw [hok]; rfl)
    clear hok
    have hW1 := hW0.out
    subst hW1
    go_enter Tryz.func15, Tryz.ntmps15
    go_wp2_with (go_at_call 41; refine HO.out.mono ?_; rintro e w2 ⟨rfl, hq⟩; have hz2 := hide (hz.out.up hq); have hb := hide (upB hq0.out hq); obtain ⟨x0, x1, x2, y0, y1, y2, _⟩ := hz2.out; clear hq)
    obtain ⟨k0, k1, k2, _, _, _, _⟩ := ((hz2.out.set0 (.string ⟨#[]⟩)).set1 (.string ⟨#[]⟩)).set2 (.int .i64 0)
    exact bodyPost_ret (v := .tuple #[.agg #[.string ⟨#[]⟩, .string ⟨#[]⟩, .int .i64 0], .bool false]) (by simp [results, Tryz.results15, go_sem, k0, k1, k2]) rfl ⟨by rw [e2.out]; rfl, ((hb.out.setCell (Nat.le_succ _) _).setCell (Nat.le_succ _) _).setCell (Nat.le_succ _) _⟩
  | true =>
    rw [hok] at HO
    have e2 := hide (show newX p = ⟨strB (placeT p), ⟨#[]⟩, 0⟩ by unfold newX; rw [hok]; rfl)
    have HC := hide (fun (W : World) (hq : Below WX.heap.size WX W) => placeText_spec _ p _ W (plM_mk (i1.out.up hq) (i2.out.up hq) hwf) (Nat.le_refl _))
    obtain ⟨T, hT⟩ : ∃ T, Hid (strB (placeT p) = T) := ⟨_, hide rfl⟩
    rw [hT.out] at HC e2
    clear hok
    have hW1 := hW0.out
    subst hW1
    go_enter Tryz.func15, Tryz.ntmps15
    go_wp2_with (go_at_call 41; refine HO.out.mono ?_; rintro e w2 ⟨rfl, hq⟩; have hz2 := hide (hz.out.up hq); have hb := hide (upB hq0.out hq); obtain ⟨t0, t1, t2, _⟩ := ht.out.up hq; replace HC := hide (HC.out _ hq))
    refine HC.out.mono ?_
    rintro e w3 ⟨rfl, hq3⟩
    have hz3 := hide (hz2.out.up hq3)
    have hb3 := hide (upB hb.out hq3)
    obtain ⟨x0, x1, x2, y0, y1, y2, _⟩ := hz3.out
    go_wp2_with fail
    obtain ⟨k0, k1, k2, _, _, _, _⟩ := ((hz3.out.set0 (.string T)).set1 (.string ⟨#[]⟩)).set2 (.int .i64 0)
    exact bodyPost_ret (v := .tuple #[.agg #[.string T, .string ⟨#[]⟩, .int .i64 0], .bool true]) (by simp [results, Tryz.results15, go_sem, k0, k1, k2]) rfl ⟨by rw [e2.out], ((hb3.out.setCell (Nat.le_succ _) _).setCell (Nat.le_succ _) _).setCell (Nat.le_succ _) _⟩
end Go.Proofs.YtpkbmmepapgogabGreatDoor
