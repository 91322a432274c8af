/-
  Words, plain lemmas and contracts that belong together, joined into one file.
-/
import Derived.Test.YtkgfbmlhplclfabGreatDoorZjs
import Derived.Test.YtkgfbmlhplclfabGreatDoorZpb
namespace Go.Proofs.YtkgfbmlhplclfabGreatDoor
open Go.RowKit
set_option linter.unusedVariables false

set_option maxRecDepth 100000 in
set_option maxHeartbeats 1600000 in
theorem storeOk_spec (s : Sto) (w : World) (hs : s.saved.size ≤ 1048576) :
    Calls Tryz.prog 18 #[.agg #[.string s.saved, .string s.log, .int .i64 s.sure]] w fun e w' => e = .returned (.bool (storeOk s)) ∧ Below w.heap.size w w' := by
  obtain ⟨sv, lg, su⟩ := s
  show Calls Tryz.prog 18 #[.agg #[.string sv, .string lg, .int .i64 su]] w _
  have hs : sv.size ≤ 1048576 := hs
  have ht := hide (Tri.made w (.string sv) (.string lg) (.int .i64 su) 25)
  have hq0 := hide (al w (.cells #[.string sv, .string lg, .int .i64 su] 25))
  have HR := hide (readPlace_spec sv (w.alloc (.cells #[.string sv, .string lg, .int .i64 su] 25)) hs)
  have he := hide (show storeOk ⟨sv, lg, su⟩ = (readPB (bts sv) && decide (lg.size ≤ 1000) && decide (0 ≤ su ∧ su ≤ (lg.size : Int))) from rfl)
  obtain ⟨V, hV⟩ : ∃ V, Hid (readPB (bts sv) = V) := ⟨_, hide rfl⟩
  rw [hV.out] at HR he
  go_enter Tryz.func18, Tryz.ntmps18
  go_wp2_with fail
  refine HR.out.mono ?_
  rintro e w2 ⟨v, rfl, hp, hq⟩
  obtain ⟨A, n, c, A', n', c', rfl, _, _, _⟩ := hp.ex
  obtain ⟨c0, c1, c2, hlt⟩ := ht.out.up hq
  have hb := hide (upB hq0.out hq)
  clear hp hq HR
  cases V with
  | false =>
    go_wp2_with fail
    go_ret
    exact ⟨ret_bool (by rw [he.out]; rfl), hb.out.alloc hb.out.size _⟩
  | true =>
    by_cases hl : lg.size ≤ 1000
    · by_cases hsu : 0 ≤ su ∧ su ≤ (lg.size : Int)
      · have HI := hide (fun W => inY su 0 (lg.size : Int) W hsu)
        have he2 := hide (show storeOk ⟨sv, lg, su⟩ = true by rw [he.out, decide_eq_true hl, decide_eq_true hsu]; rfl)
        clear hsu
        go_wp2_with (go_at_call 30; refine (HI.out _).mono ?_; rintro e w' ⟨rfl, rfl⟩)
        go_ret
        exact ⟨ret_bool (by rw [he2.out]), hb.out.alloc hb.out.size _⟩
      · have HI := hide (fun W => inN su 0 (lg.size : Int) W hsu)
        have he2 := hide (show storeOk ⟨sv, lg, su⟩ = false by rw [he.out, decide_eq_false hsu, Bool.and_false])
        clear hsu
        go_wp2_with (go_at_call 30; refine (HI.out _).mono ?_; rintro e w' ⟨rfl, rfl⟩)
        go_ret
        exact ⟨ret_bool (by rw [he2.out]), hb.out.alloc hb.out.size _⟩
    · have he2 := hide (show storeOk ⟨sv, lg, su⟩ = false by rw [he.out, decide_eq_false hl]; rfl)
      go_wp2_with fail
      go_ret
      exact ⟨ret_bool (by rw [he2.out]), hb.out.alloc hb.out.size _⟩
end Go.Proofs.YtkgfbmlhplclfabGreatDoor

namespace Go.Proofs.YtkgfbmlhplclfabGreatDoor
open Go.RowKit
set_option linter.unusedVariables false

def totL : List Bs → Nat
  | [] => 0
  | l :: r => l.length + 1 + totL r
theorem totL_append (p q : List Bs) : totL (p ++ q) = totL p + totL q := by
  induction p with
  | nil => simp [totL]
  | cons l r ih => simp only [List.cons_append, totL, ih]; omega
theorem jrnL_tot (p : List Bs) : (jrnL p).2 ≤ totL p := by
  induction p with
  | nil => exact Nat.le_refl _
  | cons l r ih =>
    cases hd : readD l with
    | none => rw [jrnL_cons_none hd]; exact Nat.zero_le _
    | some d => rw [jrnL_cons_some hd]; simp only [totL]; omega
theorem cutTo_tot (c : UInt8) (l : Bs) : ∀ k, k ≤ l.length → totL (cutTo c l k).1 = (cutTo c l k).2
  | 0, _ => rfl
  | k + 1, hk => by
    have ih := cutTo_tot c l k (by omega)
    have hle := cutTo_le c l k
    by_cases h : l[k]? = some c
    · rw [cutTo_hit h, totL_append, ih]
      simp only [totL, List.length_drop, List.length_take]
      omega
    · rw [cutTo_miss h]; exact ih
theorem readJ_le (l : Bs) : (readJ l).2 ≤ l.length := by
  rw [readJ_lines]
  have h1 := jrnL_tot (cutTo 10 l l.length).1
  rw [cutTo_tot 10 l l.length (Nat.le_refl _)] at h1
  exact Nat.le_trans h1 (cutTo_le 10 l l.length)
set_option maxRecDepth 100000 in
set_option maxHeartbeats 3200000 in
theorem storeSync_spec (s : Sto) (w : World) (hs : s.saved.size ≤ 1048576) :
    Calls Tryz.prog 22 #[.agg #[.string s.saved, .string s.log, .int .i64 s.sure]] w fun e w' => e = .returned (.tuple #[.agg #[.string (syncX s).saved, .string (syncX s).log, .int .i64 (syncX s).sure], .bool (storeOk s)]) ∧ Below w.heap.size w w' := by
  obtain ⟨sv, lg, su⟩ := s
  show Calls Tryz.prog 22 #[.agg #[.string sv, .string lg, .int .i64 su]] w _
  have hs : sv.size ≤ 1048576 := hs
  have hq0 := hide (show Below w.heap.size w ((w.alloc (.cells #[.string sv, .string lg, .int .i64 su] 25)).alloc (.cells #[.string ⟨#[]⟩, .string ⟨#[]⟩, .int .i64 0] 25)) from (al w _).alloc (by simp) _)
  have ht := hide (show Tri ((w.alloc (.cells #[.string sv, .string lg, .int .i64 su] 25)).alloc (.cells #[.string ⟨#[]⟩, .string ⟨#[]⟩, .int .i64 0] 25)) w.heap.size (.string sv) (.string lg) (.int .i64 su) from (Tri.made w _ _ _ _).up (al _ _))
  have hz := hide (show TriW ((w.alloc (.cells #[.string sv, .string lg, .int .i64 su] 25)).alloc (.cells #[.string ⟨#[]⟩, .string ⟨#[]⟩, .int .i64 0] 25)) (w.heap.size + 1) (.string ⟨#[]⟩) (.string ⟨#[]⟩) (.int .i64 0) from by have := TriW.made (w.alloc (.cells #[.string sv, .string lg, .int .i64 su] 25)) (.string ⟨#[]⟩) (.string ⟨#[]⟩) (.int .i64 0) 25; simpa using this)
  have HO := hide (storeOk_spec ⟨sv, lg, su⟩ ((w.alloc (.cells #[.string sv, .string lg, .int .i64 su] 25)).alloc (.cells #[.string ⟨#[]⟩, .string ⟨#[]⟩, .int .i64 0] 25)) hs)
  cases hok : storeOk ⟨sv, lg, su⟩ with
  | false =>
    rw [hok] at HO
    have e1 := hide (show (syncX ⟨sv, lg, su⟩) = noSto by unfold syncX; rw [hok]; rfl)
    have e2 := hide (show (storeOk ⟨sv, lg, su⟩) = false by exact hok)
    clear hok
    go_enter Tryz.func22, Tryz.ntmps22
    go_wp2_with fail
    refine HO.out.mono ?_
    rintro e w2 ⟨rfl, hq⟩
    obtain ⟨c0, c1, c2, _⟩ := ht.out.up hq
    have hz2 := hide (hz.out.up hq)
    obtain ⟨x0, x1, x2, y0, y1, y2, _⟩ := hz2.out
    have hb := hide (upB hq0.out hq)
    clear hq HO
    go_wp2_with fail
    obtain ⟨k0, k1, k2, _, _, _, _⟩ := ((hz2.out.set0 (.string ⟨#[]⟩)).set1 (.string ⟨#[]⟩)).set2 (.int .i64 0)
    exact bodyPost_ret (v := .tuple #[.agg #[.string ⟨#[]⟩, .string ⟨#[]⟩, .int .i64 0], .bool false]) (by simp [results, Tryz.results22, go_sem, k0, k1, k2]) rfl ⟨by (first | (rw [e1.out]; done) | (rw [e1.out]; rfl) | (rw [e1.out, e2.out]; done) | (rw [e1.out, e2.out]; rfl)), ((hb.out.setCell (Nat.le_succ _) _).setCell (Nat.le_succ _) _).setCell (Nat.le_succ _) _⟩
  | true =>
    rw [hok] at HO
    obtain ⟨hp, hl, hs0, hs1⟩ := storeOk_yes hok
    have hl : lg.size ≤ 1000 := hl
    have hs0 : 0 ≤ su := hs0
    have hs1 : su ≤ (lg.size : Int) := hs1
    have e1 := hide (show syncX ⟨sv, lg, su⟩ = ⟨sv, lg, (lg.size : Int)⟩ by unfold syncX; rw [hok]; rfl)
    have e2 := hide (show storeOk ⟨sv, lg, su⟩ = true from hok)
    clear hok
    go_enter Tryz.func22, Tryz.ntmps22
    go_wp2_with fail
    refine HO.out.mono ?_
    rintro e w2 ⟨rfl, hq⟩
    obtain ⟨c0, c1, c2, hc3⟩ := ht.out.up hq
    have ht2 := hide (ht.out.up hq)
    have hz2 := hide (hz.out.up hq)
    obtain ⟨x0, x1, x2, y0, y1, y2, _⟩ := hz2.out
    have hb := hide (upB hq0.out hq)
    clear hq HO
    go_wp2_with fail
    obtain ⟨k0, k1, k2, _, _, _, _⟩ := ((((hz2.out).set0 (.string sv)).set1 (.string lg)).set2 (.int .i64 (lg.size : Int)))
    exact bodyPost_ret (v := .tuple #[.agg #[.string sv, .string lg, .int .i64 (lg.size : Int)], .bool true]) (by simp [results, Tryz.results22, go_sem, k0, k1, k2]) rfl ⟨by (first | (rw [e1.out]; done) | (rw [e1.out]; rfl) | (rw [e1.out, e2.out]; done) | (rw [e1.out, e2.out]; rfl)), ((((hb.out).setCell (Nat.le_succ _) _).setCell (Nat.le_succ _) _).setCell (Nat.le_succ _) _)⟩

set_option maxRecDepth 100000 in
set_option maxHeartbeats 3200000 in
theorem storeCrash_spec (s : Sto) (l : Int) (w : World) (hs : s.saved.size ≤ 1048576) (wf0 : (Lit.int .i64 l).wf = true) :
    Calls Tryz.prog 10 #[.agg #[.string s.saved, .string s.log, .int .i64 s.sure], .int .i64 l] w fun e w' => e = .returned (.tuple #[.agg #[.string (crashX s l).saved, .string (crashX s l).log, .int .i64 (crashX s l).sure], .bool (crashB s l)]) ∧ Below w.heap.size w w' := by
  obtain ⟨sv, lg, su⟩ := s
  show Calls Tryz.prog 10 #[.agg #[.string sv, .string lg, .int .i64 su], .int .i64 l] w _
  have hs : sv.size ≤ 1048576 := hs
  have hq0 := hide (show Below w.heap.size w ((w.alloc (.cells #[.string sv, .string lg, .int .i64 su] 25)).alloc (.cells #[.string ⟨#[]⟩, .string ⟨#[]⟩, .int .i64 0] 25)) from (al w _).alloc (by simp) _)
  have ht := hide (show Tri ((w.alloc (.cells #[.string sv, .string lg, .int .i64 su] 25)).alloc (.cells #[.string ⟨#[]⟩, .string ⟨#[]⟩, .int .i64 0] 25)) w.heap.size (.string sv) (.string lg) (.int .i64 su) from (Tri.made w _ _ _ _).up (al _ _))
  have hz := hide (show TriW ((w.alloc (.cells #[.string sv, .string lg, .int .i64 su] 25)).alloc (.cells #[.string ⟨#[]⟩, .string ⟨#[]⟩, .int .i64 0] 25)) (w.heap.size + 1) (.string ⟨#[]⟩) (.string ⟨#[]⟩) (.int .i64 0) from by have := TriW.made (w.alloc (.cells #[.string sv, .string lg, .int .i64 su] 25)) (.string ⟨#[]⟩) (.string ⟨#[]⟩) (.int .i64 0) 25; simpa using this)
  have HO := hide (storeOk_spec ⟨sv, lg, su⟩ ((w.alloc (.cells #[.string sv, .string lg, .int .i64 su] 25)).alloc (.cells #[.string ⟨#[]⟩, .string ⟨#[]⟩, .int .i64 0] 25)) hs)
  cases hok : storeOk ⟨sv, lg, su⟩ with
  | false =>
    rw [hok] at HO
    have e1 := hide (show (crashX ⟨sv, lg, su⟩ l) = noSto by unfold crashX crashB; rw [hok]; rfl)
    have e2 := hide (show (crashB ⟨sv, lg, su⟩ l) = false by unfold crashB; rw [hok]; rfl)
    clear hok
    go_enter Tryz.func10, Tryz.ntmps10
    go_wp2_with fail
    refine HO.out.mono ?_
    rintro e w2 ⟨rfl, hq⟩
    obtain ⟨c0, c1, c2, _⟩ := ht.out.up hq
    have hz2 := hide (hz.out.up hq)
    obtain ⟨x0, x1, x2, y0, y1, y2, _⟩ := hz2.out
    have hb := hide (upB hq0.out hq)
    clear hq HO
    go_wp2_with fail
    obtain ⟨k0, k1, k2, _, _, _, _⟩ := ((hz2.out.set0 (.string ⟨#[]⟩)).set1 (.string ⟨#[]⟩)).set2 (.int .i64 0)
    exact bodyPost_ret (v := .tuple #[.agg #[.string ⟨#[]⟩, .string ⟨#[]⟩, .int .i64 0], .bool false]) (by simp [results, Tryz.results10, go_sem, k0, k1, k2]) rfl ⟨by (first | (rw [e1.out]; done) | (rw [e1.out]; rfl) | (rw [e1.out, e2.out]; done) | (rw [e1.out, e2.out]; rfl)), ((hb.out.setCell (Nat.le_succ _) _).setCell (Nat.le_succ _) _).setCell (Nat.le_succ _) _⟩
  | true =>
    rw [hok] at HO
    obtain ⟨hp, hl, hs0, hs1⟩ := storeOk_yes hok
    have hl : lg.size ≤ 1000 := hl
    have hs0 : 0 ≤ su := hs0
    have hs1 : su ≤ (lg.size : Int) := hs1
    by_cases hr : su ≤ l ∧ l ≤ (lg.size : Int)
    · have HI := hide (fun W => inY l su (lg.size : Int) W hr)
      obtain ⟨L, rfl⟩ : ∃ L : Nat, l = (L : Int) := ⟨l.toNat, by omega⟩
      have hLl : L ≤ lg.size := by omega
      have hcb : crashB ⟨sv, lg, su⟩ (L : Int) = true := by unfold crashB; rw [hok]; exact decide_eq_true hr
      have e1 := hide (show crashX ⟨sv, lg, su⟩ (L : Int) = ⟨sv, lg.extract 0 L, su⟩ by unfold crashX; rw [if_pos hcb, Int.toNat_natCast])
      have e2 := hide hcb
      clear hcb hr hok
      go_enter Tryz.func10, Tryz.ntmps10
      go_wp2_with fail
      refine HO.out.mono ?_
      rintro e w2 ⟨rfl, hq⟩
      obtain ⟨c0, c1, c2, hc3⟩ := ht.out.up hq
      have ht2 := hide (ht.out.up hq)
      have hz2 := hide (hz.out.up hq)
      obtain ⟨x0, x1, x2, y0, y1, y2, _⟩ := hz2.out
      have hb := hide (upB hq0.out hq)
      clear hq HO
      go_wp2_with (go_at_call 30; refine (HI.out _).mono ?_; rintro e w' ⟨rfl, rfl⟩)
      go_region
      all_goals
        go_wp2_with fail
        obtain ⟨k0, k1, k2, _, _, _, _⟩ := ((((hz2.out).set0 (.string sv)).set1 (.string (lg.extract 0 L))).set2 (.int .i64 su)).drew
        exact bodyPost_ret (v := .tuple #[.agg #[.string sv, .string (lg.extract 0 L), .int .i64 su], .bool true]) (by simp [results, Tryz.results10, go_sem, k0, k1, k2]) rfl ⟨by (first | (rw [e1.out]; done) | (rw [e1.out]; rfl) | (rw [e1.out, e2.out]; done) | (rw [e1.out, e2.out]; rfl)), ((((hb.out).setCell (Nat.le_succ _) _).setCell (Nat.le_succ _) _).setCell (Nat.le_succ _) _).drew⟩
    · have HI := hide (fun W => inN l su (lg.size : Int) W hr)
      have hcb : crashB ⟨sv, lg, su⟩ l = false := by unfold crashB; rw [hok]; exact decide_eq_false hr
      have e1 := hide (show crashX ⟨sv, lg, su⟩ l = noSto by unfold crashX; rw [hcb]; rfl)
      have e2 := hide hcb
      clear hcb hr hok
      go_enter Tryz.func10, Tryz.ntmps10
      go_wp2_with fail
      refine HO.out.mono ?_
      rintro e w2 ⟨rfl, hq⟩
      obtain ⟨c0, c1, c2, hc3⟩ := ht.out.up hq
      have ht2 := hide (ht.out.up hq)
      have hz2 := hide (hz.out.up hq)
      obtain ⟨x0, x1, x2, y0, y1, y2, _⟩ := hz2.out
      have hb := hide (upB hq0.out hq)
      clear hq HO
      go_wp2_with (go_at_call 30; refine (HI.out _).mono ?_; rintro e w' ⟨rfl, rfl⟩)
      obtain ⟨k0, k1, k2, _, _, _, _⟩ := ((((hz2.out).set0 (.string ⟨#[]⟩)).set1 (.string ⟨#[]⟩)).set2 (.int .i64 0))
      exact bodyPost_ret (v := .tuple #[.agg #[.string ⟨#[]⟩, .string ⟨#[]⟩, .int .i64 0], .bool false]) (by simp [results, Tryz.results10, go_sem, k0, k1, k2]) rfl ⟨by (first | (rw [e1.out]; done) | (rw [e1.out]; rfl) | (rw [e1.out, e2.out]; done) | (rw [e1.out, e2.out]; rfl)), ((((hb.out).setCell (Nat.le_succ _) _).setCell (Nat.le_succ _) _).setCell (Nat.le_succ _) _)⟩

set_option maxRecDepth 100000 in
set_option maxHeartbeats 3200000 in
theorem storeMend_spec (s : Sto) (w : World) (hs : s.saved.size ≤ 1048576) :
    Calls Tryz.prog 14 #[.agg #[.string s.saved, .string s.log, .int .i64 s.sure]] w fun e w' => e = .returned (.tuple #[.agg #[.string (mendX s).saved, .string (mendX s).log, .int .i64 (mendX s).sure], .bool (storeOk s)]) ∧ Below w.heap.size w w' := by
  obtain ⟨sv, lg, su⟩ := s
  show Calls Tryz.prog 14 #[.agg #[.string sv, .string lg, .int .i64 su]] w _
  have hs : sv.size ≤ 1048576 := hs
  have hq0 := hide (show Below w.heap.size w ((w.alloc (.cells #[.string sv, .string lg, .int .i64 su] 25)).alloc (.cells #[.string ⟨#[]⟩, .string ⟨#[]⟩, .int .i64 0] 25)) from (al w _).alloc (by simp) _)
  have ht := hide (show Tri ((w.alloc (.cells #[.string sv, .string lg, .int .i64 su] 25)).alloc (.cells #[.string ⟨#[]⟩, .string ⟨#[]⟩, .int .i64 0] 25)) w.heap.size (.string sv) (.string lg) (.int .i64 su) from (Tri.made w _ _ _ _).up (al _ _))
  have hz := hide (show TriW ((w.alloc (.cells #[.string sv, .string lg, .int .i64 su] 25)).alloc (.cells #[.string ⟨#[]⟩, .string ⟨#[]⟩, .int .i64 0] 25)) (w.heap.size + 1) (.string ⟨#[]⟩) (.string ⟨#[]⟩) (.int .i64 0) from by have := TriW.made (w.alloc (.cells #[.string sv, .string lg, .int .i64 su] 25)) (.string ⟨#[]⟩) (.string ⟨#[]⟩) (.int .i64 0) 25; simpa using this)
  have HO := hide (storeOk_spec ⟨sv, lg, su⟩ ((w.alloc (.cells #[.string sv, .string lg, .int .i64 su] 25)).alloc (.cells #[.string ⟨#[]⟩, .string ⟨#[]⟩, .int .i64 0] 25)) hs)
  cases hok : storeOk ⟨sv, lg, su⟩ with
  | false =>
    rw [hok] at HO
    have e1 := hide (show (mendX ⟨sv, lg, su⟩) = noSto by unfold mendX; rw [hok]; rfl)
    have e2 := hide (show (storeOk ⟨sv, lg, su⟩) = false by exact hok)
    clear hok
    go_enter Tryz.func14, Tryz.ntmps14
    go_wp2_with fail
    refine HO.out.mono ?_
    rintro e w2 ⟨rfl, hq⟩
    obtain ⟨c0, c1, c2, _⟩ := ht.out.up hq
    have hz2 := hide (hz.out.up hq)
    obtain ⟨x0, x1, x2, y0, y1, y2, _⟩ := hz2.out
    have hb := hide (upB hq0.out hq)
    clear hq HO
    go_wp2_with fail
    obtain ⟨k0, k1, k2, _, _, _, _⟩ := ((hz2.out.set0 (.string ⟨#[]⟩)).set1 (.string ⟨#[]⟩)).set2 (.int .i64 0)
    exact bodyPost_ret (v := .tuple #[.agg #[.string ⟨#[]⟩, .string ⟨#[]⟩, .int .i64 0], .bool false]) (by simp [results, Tryz.results14, go_sem, k0, k1, k2]) rfl ⟨by (first | (rw [e1.out]; done) | (rw [e1.out]; rfl) | (rw [e1.out, e2.out]; done) | (rw [e1.out, e2.out]; rfl)), ((hb.out.setCell (Nat.le_succ _) _).setCell (Nat.le_succ _) _).setCell (Nat.le_succ _) _⟩
  | true =>
    rw [hok] at HO
    obtain ⟨hp, hl, hs0, hs1⟩ := storeOk_yes hok
    have hl : lg.size ≤ 1000 := hl
    have hs0 : 0 ≤ su := hs0
    have hs1 : su ≤ (lg.size : Int) := hs1
    have HJ := hide (fun W => readJournal_spec lg W (by omega))
    have hN := readJ_le (bts lg)
    rw [bts_len] at hN
    have e1 := hide (show mendX ⟨sv, lg, su⟩ = ⟨sv, lg.extract 0 (readJ (bts lg)).2, min su ((readJ (bts lg)).2 : Int)⟩ by unfold mendX; rw [hok]; rfl)
    have e2 := hide (show storeOk ⟨sv, lg, su⟩ = true from hok)
    obtain ⟨N, hNe⟩ : ∃ N, Hid ((readJ (bts lg)).2 = N) := ⟨_, hide rfl⟩
    rw [hNe.out] at HJ hN e1
    clear hok
    go_enter Tryz.func14, Tryz.ntmps14
    go_wp2_with fail
    refine HO.out.mono ?_
    rintro e w2 ⟨rfl, hq⟩
    obtain ⟨c0, c1, c2, hc3⟩ := ht.out.up hq
    have ht2 := hide (ht.out.up hq)
    have hz2 := hide (hz.out.up hq)
    obtain ⟨x0, x1, x2, y0, y1, y2, _⟩ := hz2.out
    have hb := hide (upB hq0.out hq)
    clear hq HO
    by_cases hmn : su ≤ (N : Int)
    · have hmin := hide (show min su (N : Int) = su from Int.min_eq_left hmn)
      rw [hmin.out] at e1
      go_wp2_with (go_at_call 31; refine (HJ.out _).mono ?_; rintro e w3 ⟨A, n, c, rfl, _, hq3⟩; have ht3 := ht2.out.up hq3; have hz3 := hide (hz2.out.up hq3); have hb3 := hide (upB hb.out hq3); obtain ⟨m0, m1, m2, _⟩ := ht3; obtain ⟨z0, z1, z2, z3, z4, z5, _⟩ := hz3.out; clear hq3)
      go_region
      all_goals
        go_wp2_with fail
        obtain ⟨k0, k1, k2, _, _, _, _⟩ := ((((hz3.out).set0 (.string sv)).set1 (.string (lg.extract 0 N))).set2 (.int .i64 su)).drew
        exact bodyPost_ret (v := .tuple #[.agg #[.string sv, .string (lg.extract 0 N), .int .i64 su], .bool true]) (by simp [results, Tryz.results14, go_sem, k0, k1, k2]) rfl ⟨by (first | (rw [e1.out]; done) | (rw [e1.out]; rfl) | (rw [e1.out, e2.out]; done) | (rw [e1.out, e2.out]; rfl)), ((((hb3.out).setCell (Nat.le_succ _) _).setCell (Nat.le_succ _) _).setCell (Nat.le_succ _) _).drew⟩
    · have hmin := hide (show min su (N : Int) = (N : Int) from Int.min_eq_right (by omega))
      rw [hmin.out] at e1
      go_wp2_with (go_at_call 31; refine (HJ.out _).mono ?_; rintro e w3 ⟨A, n, c, rfl, _, hq3⟩; have ht3 := ht2.out.up hq3; have hz3 := hide (hz2.out.up hq3); have hb3 := hide (upB hb.out hq3); obtain ⟨m0, m1, m2, _⟩ := ht3; obtain ⟨z0, z1, z2, z3, z4, z5, _⟩ := hz3.out; clear hq3)
      go_region
      all_goals
        go_wp2_with fail
        obtain ⟨k0, k1, k2, _, _, _, _⟩ := ((((hz3.out).set0 (.string sv)).set1 (.string (lg.extract 0 N))).set2 (.int .i64 (N : Int))).drew
        exact bodyPost_ret (v := .tuple #[.agg #[.string sv, .string (lg.extract 0 N), .int .i64 (N : Int)], .bool true]) (by simp [results, Tryz.results14, go_sem, k0, k1, k2]) rfl ⟨by (first | (rw [e1.out]; done) | (rw [e1.out]; rfl) | (rw [e1.out, e2.out]; done) | (rw [e1.out, e2.out]; rfl)), ((((hb3.out).setCell (Nat.le_succ _) _).setCell (Nat.le_succ _) _).setCell (Nat.le_succ _) _).drew⟩
end Go.Proofs.YtkgfbmlhplclfabGreatDoor
