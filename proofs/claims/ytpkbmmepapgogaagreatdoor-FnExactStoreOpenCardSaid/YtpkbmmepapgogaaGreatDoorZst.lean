/-
  Contracts of chapter 14, the specification's side: StoreOk, StoreSync, StoreCrash.
-/
import Derived.Test.YtpkbmmepapgogaaGreatDoorZjs
import Derived.Test.YtpkbmmepapgogaaGreatDoorZpb
namespace Go.Proofs.YtpkbmmepapgogaaGreatDoor
open Go.RowKit
set_option linter.unusedVariables false

set_option maxRecDepth 100000 in
set_option maxHeartbeats 1600000 in
theorem storeOk_spec (s : Sto) (w : World) (hs : s.saved.size ≤ 1048576) :
    Calls Tryz.prog 35 #[.agg #[.string s.saved, .string s.log, .int .i64 s.sure]] w fun e w' => e = .returned (.bool (storeOk s)) ∧ Below w.heap.size w w' := by
  obtain ⟨sv, lg, su⟩ := s
  show Calls Tryz.prog 35 #[.agg #[.string sv, .string lg, .int .i64 su]] w _
  have hs : sv.size ≤ 1048576 := hs
  have ht := hide (Tri.made w (.string sv) (.string lg) (.int .i64 su) 33)
  have hq0 := hide (al w (.cells #[.string sv, .string lg, .int .i64 su] 33))
  have HR := hide (readPlace_spec sv (w.alloc (.cells #[.string sv, .string lg, .int .i64 su] 33)) hs)
  have he := hide (show storeOk ⟨sv, lg, su⟩ = (readPB (bts sv) && decide (lg.size ≤ 1000) && decide (0 ≤ su ∧ su ≤ (lg.size : Int))) from rfl)
  obtain ⟨V, hV⟩ : ∃ V, Hid (readPB (bts sv) = V) := ⟨_, hide rfl⟩
  rw [hV.out] at HR he
  go_enter Tryz.func35, Tryz.ntmps35
  go_wp2_with fail
  refine HR.out.mono ?_
  rintro e w2 ⟨v, rfl, hp, hq⟩
  obtain ⟨A, n, c, A', n', c', rfl, _, _, _⟩ := hp.ex
  obtain ⟨c0, c1, c2, hlt⟩ := ht.out.up hq
  have hb := hide (upB hq0.out hq)
  clear hp hq HR
  cases V with
  | false =>
    go_wp2_with fail
    go_ret
    exact ⟨ret_bool (by rw [he.out]; rfl), hb.out.alloc hb.out.size _⟩
  | true =>
    by_cases hl : lg.size ≤ 1000
    · by_cases hsu : 0 ≤ su ∧ su ≤ (lg.size : Int)
      · have HI := hide (fun W => inY su 0 (lg.size : Int) W hsu)
        have he2 := hide (show storeOk ⟨sv, lg, su⟩ = true by rw [he.out, decide_eq_true hl, decide_eq_true hsu]; rfl)
        clear hsu
        go_wp2_with (go_at_call 61; refine (HI.out _).mono ?_; rintro e w' ⟨rfl, rfl⟩)
        go_ret
        exact ⟨ret_bool (by rw [he2.out]), hb.out.alloc hb.out.size _⟩
      · have HI := hide (fun W => inN su 0 (lg.size : Int) W hsu)
        have he2 := hide (show storeOk ⟨sv, lg, su⟩ = false by rw [he.out, decide_eq_false hsu, Bool.and_false])
        clear hsu
        go_wp2_with (go_at_call 61; refine (HI.out _).mono ?_; rintro e w' ⟨rfl, rfl⟩)
        go_ret
        exact ⟨ret_bool (by rw [he2.out]), hb.out.alloc hb.out.size _⟩
    · have he2 := hide (show storeOk ⟨sv, lg, su⟩ = false by rw [he.out, decide_eq_false hl]; rfl)
      go_wp2_with fail
      go_ret
      exact ⟨ret_bool (by rw [he2.out]), hb.out.alloc hb.out.size _⟩
end Go.Proofs.YtpkbmmepapgogaaGreatDoor
