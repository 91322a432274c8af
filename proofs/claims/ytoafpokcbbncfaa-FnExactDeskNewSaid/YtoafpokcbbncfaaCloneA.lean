/-
  Contracts: slices.Clone of any slice of ints; copiedPlace.
-/
import Derived.Test.YtoafpokcbbncfaaZoks
import Derived.Test.YtoafpokcbbncfaaZpx
import Derived.Deep.RegionHeld3
namespace Go.Proofs.Ytoafpokcbbncfaa
open Go.RowKit
set_option linter.unusedVariables false

set_option maxRecDepth 100000 in
set_option maxHeartbeats 800000 in
theorem cloneA_c (A : Option Addr) (n c B : Nat) (zs : List Int) (w : World) (h : Ints w B A n c zs) (hn : n ≤ 1048576) (hB : B ≤ w.heap.size) :
    Calls Try.prog 31 #[.slice A n c] w fun e w' => ∃ A' c', e = .returned (.slice A' n c') ∧ Own w' w.heap.size (.slice A' n c') zs ∧ Below w.heap.size w w' := by
  obtain ⟨i0, hi, hz0, hz1, hz2⟩ := info_parts infoInt
  have hl := h.len
  cases A with
  | none =>
    obtain rfl : c = 0 := h.nil0 rfl
    obtain rfl : n = 0 := by have := h.le; omega
    obtain rfl := List.eq_nil_of_length_eq_zero hl
    have hnil := fun w => Lib.run_eql_slice_nil (P := Try.prog) w 22 3 none 0 0 0 0 Try.underlying22
    go_enter Try.func31, Try.ntmps31
    go_wp2
    go_ret
    exact ⟨none, 0, rfl, Own.none_, Below.refl _ _⟩
  | some a =>
    have hnil := fun w => Lib.run_eql_slice_nil (P := Try.prog) w 22 3 (some a) n c 0 0 Try.underlying22
    go_enter Try.func31, Try.ntmps31
    go_wp2_with (at_builtin; refine wpList_app _ rfl _ _ 22 rfl i0 Try.underlying22 hi hz0 hz1 hz2 _ _ rfl (own_empty (base := w.heap.size) (Nat.le_refl _)) _ n c _ zs rfl (h.alloc hB _) (by simp) (by simp; omega) ?_; intro A' n' c' w1 ho hg)
    obtain rfl : n' = n := by have := ho.len; simp at this; omega
    go_ret
    exact ⟨A', c', rfl, ho, (below_empty (Below.refl _ _) _).grown hg (by simp) (fun k hk => Nat.le_of_eq (Option.some.inj hk))⟩

/-- A place whose rows the call made. -/
structure PlQ (w : World) (base : Nat) (v : Value) (p : Plc) : Prop where
  ex : ∃ A n c A' n' c', v = .agg #[.slice A n c, .int .i64 p.step, .slice A' n' c'] ∧ Own w base (.slice A n c) p.start ∧ Own w base (.slice A' n' c') p.word ∧ ((Value.slice A n c).ownBlock = none ∨ (Value.slice A n c).ownBlock ≠ (Value.slice A' n' c').ownBlock) ∧ (Lit.int .i64 p.step).wf = true
theorem PlQ.up {w w' : World} {base : Nat} {v : Value} {p : Plc} (h : PlQ w base v p) (hq : Below w.heap.size w w') : PlQ w' base v p := by
  obtain ⟨A, n, c, A', n', c', e, h1, h2, h3, h4⟩ := h.ex
  exact ⟨A, n, c, A', n', c', e, h1.up hq, h2.up hq, h3, h4⟩
theorem PlQ.plM {w : World} {base : Nat} {v : Value} {p : Plc} (h : PlQ w base v p) : PlM w w.heap.size v p := by
  obtain ⟨A, n, c, A', n', c', rfl, h1, h2, h3, h4⟩ := h.ex
  exact plM_mk h1.ints h2.ints h4
theorem PlQ.down {w : World} {base base' : Nat} {v : Value} {p : Plc} (h : PlQ w base v p) (hb : base' ≤ base) : PlQ w base' v p := by
  obtain ⟨A, n, c, A', n', c', e, h1, h2, h3, h4⟩ := h.ex
  exact ⟨A, n, c, A', n', c', e, h1.down hb, h2.down hb, h3, h4⟩
theorem apart_new {w1 w2 : World} {b1 b2 : Nat} {u v : Value} {xs ys : List Int} (h1 : Own w1 b1 u xs) (h2 : Own w2 b2 v ys) (hb : w1.heap.size ≤ b2) : u.ownBlock = none ∨ u.ownBlock ≠ v.ownBlock := by
  cases hu : u.ownBlock with
  | none => exact .inl rfl
  | some k => exact .inr fun e => by have := (h1.row.lt k hu).2; have := (h2.row.lt k e.symm).1; omega
theorem apart_old {w1 w2 : World} {b1 b2 : Nat} {u v : Value} {xs ys : List Int} (h1 : Own w1 b1 u xs) (h2 : Own w2 b2 v ys) (hb : w2.heap.size ≤ b1) : u.ownBlock = none ∨ u.ownBlock ≠ v.ownBlock := by
  cases hu : u.ownBlock with
  | none => exact .inl rfl
  | some k => exact .inr fun e => by have := (h1.row.lt k hu).1; have := (h2.row.lt k e.symm).2; omega

set_option maxRecDepth 100000 in
set_option maxHeartbeats 3200000 in
theorem copiedPlace_c (v : Value) (p : Plc) (B : Nat) (w : World) (h : PlM w B v p) (hB : B ≤ w.heap.size) (h1 : p.start.length ≤ 1048576) (h2 : p.word.length ≤ 1048576) :
    Calls Try.prog 18 #[v] w fun e w' => ∃ u, e = .returned u ∧ PlQ w' w.heap.size u p ∧ Below w.heap.size w w' := by
  obtain ⟨A, n, c, A', n', c', rfl, i1, i2, hwf⟩ := h.ex
  have hl1 := hide i1.len
  have hl2 := hide i2.len
  have hq0 := hide (show Below w.heap.size w ((w.alloc (.cells #[.slice A n c, .int .i64 p.step, .slice A' n' c'] 26)).alloc (.cells #[.slice none 0 0, .int .i64 0, .slice none 0 0] 26)) from (al w _).alloc (by simp) _)
  have ht := hide (show Tri ((w.alloc (.cells #[.slice A n c, .int .i64 p.step, .slice A' n' c'] 26)).alloc (.cells #[.slice none 0 0, .int .i64 0, .slice none 0 0] 26)) w.heap.size (.slice A n c) (.int .i64 p.step) (.slice A' n' c') from (Tri.made w _ _ _ _).up (al _ _))
  have hz := hide (show TriW ((w.alloc (.cells #[.slice A n c, .int .i64 p.step, .slice A' n' c'] 26)).alloc (.cells #[.slice none 0 0, .int .i64 0, .slice none 0 0] 26)) (w.heap.size + 1) (.slice none 0 0) (.int .i64 0) (.slice none 0 0) from by have := TriW.made (w.alloc (.cells #[.slice A n c, .int .i64 p.step, .slice A' n' c'] 26)) (.slice none 0 0) (.int .i64 0) (.slice none 0 0) 26; simpa using this)
  obtain ⟨W0, hW0⟩ : ∃ W, Hid ((w.alloc (.cells #[.slice A n c, .int .i64 p.step, .slice A' n' c'] 26)).alloc (.cells #[.slice none 0 0, .int .i64 0, .slice none 0 0] 26) = W) := ⟨_, hide rfl⟩
  rw [hW0.out] at hq0 ht hz
  have hgs := hide (show w.heap.size + 2 = W0.heap.size by rw [← hW0.out]; simp)
  have hS := hide ((i1.more hB).up hq0.out)
  have hWd := hide ((i2.more hB).up hq0.out)
  have HA := hide (fun (W : World) (hq : Below W0.heap.size W0 W) => show Calls Try.prog 31 #[.slice A n c] W (fun e w' => ∃ A1 c1, e = .returned (.slice A1 n c1) ∧ Hid (Own w' W.heap.size (.slice A1 n c1) p.start) ∧ Below W.heap.size W w' ∧ Below W0.heap.size W0 w' ∧ w'.cell? ⟨w.heap.size, 0, none⟩ = some (.slice A n c) ∧ w'.cell? ⟨w.heap.size, 1, none⟩ = some (.int .i64 p.step) ∧ w'.cell? ⟨w.heap.size, 2, none⟩ = some (.slice A' n' c')) from
    (cloneA_c A n c _ p.start W (hS.out.up hq) (by have := hl1.out; omega) (Nat.le_refl _)).mono fun e w' ⟨A1, c1, e1, ho, hq'⟩ => by
      have hk := ht.out.up (upB hq hq')
      exact ⟨A1, c1, e1, hide ho, hq', upB hq hq', hk.c0, hk.c1, hk.c2⟩)
  have HB := hide (fun (W : World) (hq : Below W0.heap.size W0 W) => show Calls Try.prog 31 #[.slice A' n' c'] W (fun e w' => ∃ A2 c2, e = .returned (.slice A2 n' c2) ∧ Hid (Own w' W.heap.size (.slice A2 n' c2) p.word) ∧ Below W.heap.size W w' ∧ Below W0.heap.size W0 w' ∧ w'.cell? ⟨w.heap.size, 0, none⟩ = some (.slice A n c) ∧ w'.cell? ⟨w.heap.size, 1, none⟩ = some (.int .i64 p.step) ∧ w'.cell? ⟨w.heap.size, 2, none⟩ = some (.slice A' n' c')) from
    (cloneA_c A' n' c' _ p.word W (hWd.out.up hq) (by have := hl2.out; omega) (Nat.le_refl _)).mono fun e w' ⟨A1, c1, e1, ho, hq'⟩ => by
      have hk := ht.out.up (upB hq hq')
      exact ⟨A1, c1, e1, hide ho, hq', upB hq hq', hk.c0, hk.c1, hk.c2⟩)
  obtain ⟨a0, b0, d0, _⟩ := ht.out
  go_enter Try.func18, Try.ntmps18
  go_wp2_with fail
  rw [hW0.out]
  go_region_held3 (fun W => W.cell? ⟨w.heap.size, 0, none⟩ = some (.slice A n c) ∧ W.cell? ⟨w.heap.size, 1, none⟩ = some (.int .i64 p.step) ∧ W.cell? ⟨w.heap.size, 2, none⟩ = some (.slice A' n' c')) (first | exact ⟨a0, b0, d0⟩ | exact ⟨k0, k1, k2⟩ | exact ⟨m0, m1, m2⟩ | go_keep) (first | (go_at_call 31; (with_reducible refine (HA.out _ ?_).mono ?_); (focus (repeat (first | assumption | exact Below.refl _ _ | refine Below.drew ?_)); done); rintro e w1 ⟨A1, c1, rfl, hoA, hkA, hqA, k0, k1, k2⟩) | (go_at_call 31; (with_reducible refine (HB.out _ ?_).mono ?_); (focus (repeat (first | assumption | exact Below.refl _ _ | refine Below.drew ?_)); done); rintro e w2 ⟨A2, c2, rfl, hoB, hkB, hqB, m0, m1, m2⟩; obtain ⟨x0, x1, x2, y0, y1, y2, _⟩ := hz.out.up hqB))
  all_goals
    have hz2 := hide (hz.out.up hqB)
    have hb2 := hide (upB hq0.out hqB)
    have hsA := hide hqA.size
    have hO1 : Hid (Own w2 W0.heap.size (.slice A1 n c1) p.start) := hide (by first | exact (hoA.out.up hkB).down (Nat.le_refl _) | exact (hoA.out.drew.up hkB).down (Nat.le_refl _))
    have hO2 : Hid (Own w2 W0.heap.size (.slice A2 n' c2) p.word) := hide (hoB.out.down (by first | exact hsA.out | (simp; exact hsA.out)))
    have hne := hide (apart_new hoA.out hoB.out (by first | exact Nat.le_refl _ | (simp; done)))
    have hl : ∀ {W : World} {u v0 v1 v2 : Value} {l : List Int}, Own W W0.heap.size u l → Own (((W.setCell ⟨w.heap.size + 1, 0, none⟩ v0).setCell ⟨w.heap.size + 1, 1, none⟩ v1).setCell ⟨w.heap.size + 1, 2, none⟩ v2) W0.heap.size u l := fun {W u v0 v1 v2 l} hu => ((hu.setLow (a := ⟨w.heap.size + 1, 0, none⟩) (by have := hgs.out; simp only; omega) v0).setLow (a := ⟨w.heap.size + 1, 1, none⟩) (by have := hgs.out; simp only; omega) v1).setLow (a := ⟨w.heap.size + 1, 2, none⟩) (by have := hgs.out; simp only; omega) v2
    clear hoA hoB hkA hkB hqA hqB
    go_wp2_with fail
    first
      | (obtain ⟨k0, k1, k2, _, _, _, _⟩ := (((hz2.out).set0 (.slice A1 n c1)).set1 (.int .i64 p.step)).set2 (.slice A2 n' c2)
         refine bodyPost_ret (v := .agg #[(.slice A1 n c1), .int .i64 p.step, (.slice A2 n' c2)]) ?_ rfl ⟨_, rfl, ⟨A1, n, c1, A2, n', c2, rfl, (hl hO1.out).down (by have := hgs.out; omega), (hl hO2.out).down (by have := hgs.out; omega), hne.out, hwf⟩, (((hb2.out).setCell (p := ⟨w.heap.size + 1, 0, none⟩) (Nat.le_succ _) _).setCell (p := ⟨w.heap.size + 1, 1, none⟩) (Nat.le_succ _) _).setCell (p := ⟨w.heap.size + 1, 2, none⟩) (Nat.le_succ _) _⟩
         (focus (simp [results, Try.results18, go_sem, k0, k1, k2]; done)))
      | (obtain ⟨k0, k1, k2, _, _, _, _⟩ := (((hz2.out.drew).set0 (.slice A1 n c1)).set1 (.int .i64 p.step)).set2 (.slice A2 n' c2)
         refine bodyPost_ret (v := .agg #[(.slice A1 n c1), .int .i64 p.step, (.slice A2 n' c2)]) ?_ rfl ⟨_, rfl, ⟨A1, n, c1, A2, n', c2, rfl, (hl hO1.out.drew).down (by have := hgs.out; omega), (hl hO2.out.drew).down (by have := hgs.out; omega), hne.out, hwf⟩, (((hb2.out.drew).setCell (p := ⟨w.heap.size + 1, 0, none⟩) (Nat.le_succ _) _).setCell (p := ⟨w.heap.size + 1, 1, none⟩) (Nat.le_succ _) _).setCell (p := ⟨w.heap.size + 1, 2, none⟩) (Nat.le_succ _) _⟩
         (focus (simp [results, Try.results18, go_sem, k0, k1, k2]; done)))
end Go.Proofs.Ytoafpokcbbncfaa
