/-
  Contracts: slices.Clone of any slice of ints; copiedPlace.
-/
import Derived.Test.YtkgfbmlhplclfaaGreatDoorZoks
import Derived.Test.YtkgfbmlhplclfaaGreatDoorPlaceX
import Derived.Deep.RegionHeld3
namespace Go.Proofs.YtkgfbmlhplclfaaGreatDoor
open Go.RowKit
set_option linter.unusedVariables false

set_option maxRecDepth 100000 in
set_option maxHeartbeats 800000 in
theorem cloneA_c (A : Option Addr) (n c B : Nat) (zs : List Int) (w : World) (h : Ints w B A n c zs) (hn : n ≤ 1048576) (hB : B ≤ w.heap.size) :
    Calls Tryz.prog 85 #[.slice A n c] w fun e w' => ∃ A' c', e = .returned (.slice A' n c') ∧ Own w' w.heap.size (.slice A' n c') zs ∧ Below w.heap.size w w' := by
  obtain ⟨i0, hi, hz0, hz1, hz2⟩ := info_parts infoInt
  have hl := h.len
  cases A with
  | none =>
    obtain rfl : c = 0 := h.nil0 rfl
    obtain rfl : n = 0 := by have := h.le; omega
    obtain rfl := List.eq_nil_of_length_eq_zero hl
    have hnil := fun w => Lib.run_eql_slice_nil (P := Tryz.prog) w 22 3 none 0 0 0 0 Tryz.underlying22
    go_enter Tryz.func85, Tryz.ntmps85
    go_wp2
    go_ret
    exact ⟨none, 0, rfl, Own.none_, Below.refl _ _⟩
  | some a =>
    have hnil := fun w => Lib.run_eql_slice_nil (P := Tryz.prog) w 22 3 (some a) n c 0 0 Tryz.underlying22
    go_enter Tryz.func85, Tryz.ntmps85
    go_wp2_with (at_builtin; refine wpList_app _ rfl _ _ 22 rfl i0 Tryz.underlying22 hi hz0 hz1 hz2 _ _ rfl (own_empty (base := w.heap.size) (Nat.le_refl _)) _ n c _ zs rfl (h.alloc hB _) (by simp) (by simp; omega) ?_; intro A' n' c' w1 ho hg)
    obtain rfl : n' = n := by have := ho.len; simp at this; omega
    go_ret
    exact ⟨A', c', rfl, ho, (below_empty (Below.refl _ _) _).grown hg (by simp) (fun k hk => Nat.le_of_eq (Option.some.inj hk))⟩

/-- A place whose rows the call made. -/
structure PlQ (w : World) (base : Nat) (v : Value) (p : Plc) : Prop where
  ex : ∃ A n c A' n' c', v = .agg #[.slice A n c, .int .i64 p.step, .slice A' n' c'] ∧ Own w base (.slice A n c) p.start ∧ Own w base (.slice A' n' c') p.word ∧ ((Value.slice A n c).ownBlock = none ∨ (Value.slice A n c).ownBlock ≠ (Value.slice A' n' c').ownBlock) ∧ (Lit.int .i64 p.step).wf = true
theorem PlQ.up {w w' : World} {base : Nat} {v : Value} {p : Plc} (h : PlQ w base v p) (hq : Below w.heap.size w w') : PlQ w' base v p := by
  obtain ⟨A, n, c, A', n', c', e, h1, h2, h3, h4⟩ := h.ex
  exact ⟨A, n, c, A', n', c', e, h1.up hq, h2.up hq, h3, h4⟩
theorem PlQ.plM {w : World} {base : Nat} {v : Value} {p : Plc} (h : PlQ w base v p) : PlM w w.heap.size v p := by
  obtain ⟨A, n, c, A', n', c', rfl, h1, h2, h3, h4⟩ := h.ex
  exact plM_mk h1.ints h2.ints h4
theorem PlQ.down {w : World} {base base' : Nat} {v : Value} {p : Plc} (h : PlQ w base v p) (hb : base' ≤ base) : PlQ w base' v p := by
  obtain ⟨A, n, c, A', n', c', e, h1, h2, h3, h4⟩ := h.ex
  exact ⟨A, n, c, A', n', c', e, h1.down hb, h2.down hb, h3, h4⟩
theorem apart_new {w1 w2 : World} {b1 b2 : Nat} {u v : Value} {xs ys : List Int} (h1 : Own w1 b1 u xs) (h2 : Own w2 b2 v ys) (hb : w1.heap.size ≤ b2) : u.ownBlock = none ∨ u.ownBlock ≠ v.ownBlock := by
  cases hu : u.ownBlock with
  | none => exact .inl rfl
  | some k => exact .inr fun e => by have := (h1.row.lt k hu).2; have := (h2.row.lt k e.symm).1; omega
theorem apart_old {w1 w2 : World} {b1 b2 : Nat} {u v : Value} {xs ys : List Int} (h1 : Own w1 b1 u xs) (h2 : Own w2 b2 v ys) (hb : w2.heap.size ≤ b1) : u.ownBlock = none ∨ u.ownBlock ≠ v.ownBlock := by
  cases hu : u.ownBlock with
  | none => exact .inl rfl
  | some k => exact .inr fun e => by have := (h1.row.lt k hu).1; have := (h2.row.lt k e.symm).2; omega

end Go.Proofs.YtkgfbmlhplclfaaGreatDoor
