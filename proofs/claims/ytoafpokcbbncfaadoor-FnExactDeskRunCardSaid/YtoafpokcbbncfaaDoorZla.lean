/-
  What the library's package-level variables hold, that it stays; strconv.Itoa and numberOf.
-/
import Derived.Test.YtoafpokcbbncfaaDoorZdraw
import Derived.Test.YtoafpokcbbncfaaDoorZpb
import Derived.Test.YtoafpokcbbncfaaDoorShelf
import Derived.Lib.AtoiAll
import Derived.Lib.AtoiAllCases
import Derived.Lib.AppendIntMem
import Derived.Lib.SmallJoins
namespace Go.Proofs.YtoafpokcbbncfaaDoor
open Go.RowKit
set_option linter.unusedVariables false

structure LaidN (w : World) : Prop where
  max : ∃ m, w.cell? ⟨1, 0, none⟩ = some (.int .i64 m)
  syn : ∃ te pe, w.cell? ⟨3, 0, none⟩ = some (.iface te pe)
  rng : ∃ te pe, w.cell? ⟨4, 0, none⟩ = some (.iface te pe)
  tab : Lib.TabBelow Tryd.prog w.heap.size w "internal/strconv.uint64pow10" .u64 Lib.pow10Tab
theorem cell_up {w w' : World} {p : Addr} {v : Value} (h : w.cell? p = some v) (hq : Below w.heap.size w w') : w'.cell? p = some v :=
  (hq.cell (World.block_lt_of_cell? w p h)).trans h
theorem LaidN.up {w w' : World} (h : LaidN w) (hq : Below w.heap.size w w') : LaidN w' := by
  obtain ⟨⟨m, hm⟩, ⟨t1, p1, h1⟩, ⟨t2, p2, h2⟩, ht⟩ := h
  exact ⟨⟨m, cell_up hm hq⟩, ⟨t1, p1, cell_up h1 hq⟩, ⟨t2, p2, cell_up h2 hq⟩, fun w2 h2 => ht w2 (upB hq h2)⟩

/-- The table alone. -/
structure LaidT (w : World) : Prop where
  tab : Lib.TabBelow Tryd.prog w.heap.size w "internal/strconv.uint64pow10" .u64 Lib.pow10Tab
theorem LaidT.up {w w' : World} (h : LaidT w) (hq : Below w.heap.size w w') : LaidT w' := ⟨fun w2 h2 => h.tab w2 (upB hq h2)⟩
theorem LaidN.t {w : World} (h : LaidN w) : LaidT w := ⟨h.tab⟩
theorem itoa_impl (n : Int) (w : World) (hL : LaidT w) (h0 : -9223372036854775808 ≤ n) (h1 : n ≤ 9223372036854775807) :
    Calls Tryd.prog 104 #[.int .i64 n] w fun e w' => e = .returned (.string (strB (Lib.itoa n))) ∧ Below w.heap.size w w' :=
  (Tryd.strconv_Itoa n h0 h1 w hL.tab.here).mono fun e w' ⟨he, k, os, hw⟩ => ⟨he, by rw [hw]; exact Lib.below_grow _ _ (Nat.le_refl _) _ _⟩

/-- What numberOf tells of a text. -/
def endL (x : Lib.NumEnd Int) (z : Int) : Int := Lib.NumEnd.casesOn x (fun v => v) 0 z
def numL (l : Bs) : Int := endL (Lib.atoiAll l) (Lib.atoiSat l)
theorem numberOf_c (s : ByteArray) (w : World) (hL : LaidN w) (hs : s.size ≤ 281474976710656) :
    Calls Tryd.prog 108 #[.string s] w fun e w' => e = .returned (.int .i64 (numL (bts s))) ∧ Below w.heap.size w w' := by
  rcases h : Lib.atoiAll s.data.toList with v | _ | _
  · have hA := hide (Tryd.strconv_Atoi_ok s (by omega) v h w)
    have he := hide (show numL (bts s) = v by unfold numL bts; rw [h]; rfl)
    clear h
    go_enter Tryd.func108, Tryd.ntmps108
    go_wp2_with fail
    refine hA.out.mono ?_
    rintro e w' ⟨rfl, hw⟩
    have hb := hide (show Below w.heap.size w w' by
      rcases hw with rfl | ⟨t, rfl⟩
      · exact Below.refl _ _
      · exact Go.Joins.below_bytesWorld _ _ _ _ (Nat.le_refl _))
    clear hw
    go_wp2_with fail
    go_ret
    exact ⟨ret_int he.out.symm, hb.out⟩
  · obtain ⟨te, pe, hv⟩ := hL.syn
    have hA := hide (show Calls Tryd.prog 125 #[.string s] w (fun e w' => ∃ v, e = .returned (.tuple #[.int .i64 0, v]) ∧ Below w.heap.size w w') from (Any.strconv_Atoi_syntax Tryd.laysC172 s hs h _ w hv (.inr ⟨te, pe, rfl⟩)).mono fun e w' ⟨N, he, _, _, hb⟩ => ⟨_, he, hb⟩)
    have he := hide (show numL (bts s) = 0 by unfold numL bts; rw [h]; rfl)
    clear h
    go_enter Tryd.func108, Tryd.ntmps108
    go_wp2_with fail
    refine hA.out.mono ?_
    rintro e w' ⟨v, rfl, hb⟩
    go_wp2_with fail
    go_ret
    exact ⟨ret_int he.out.symm, hb⟩
  · obtain ⟨te, pe, hv⟩ := hL.rng
    have hA := hide (Tryd.strconv_Atoi_range s hs h _ w hv (.inr ⟨te, pe, rfl⟩))
    have he := hide (show numL (bts s) = Lib.atoiSat s.data.toList by unfold numL bts; rw [h]; rfl)
    clear h
    go_enter Tryd.func108, Tryd.ntmps108
    go_wp2_with fail
    refine hA.out.mono ?_
    rintro e w' ⟨N, rfl, _, _, hb⟩
    go_wp2_with fail
    go_ret
    exact ⟨ret_int he.out.symm, hb⟩
theorem numL_wf (l : Bs) : (Lit.int .i64 (numL l)).wf = true := by
  unfold numL
  rcases h : Lib.atoiAll l with v | _ | _
  · have := Lib.atoiAll_bounds h
    show (Lit.int .i64 v).wf = true
    exact wf_i64 (by omega)
  · show (Lit.int .i64 0).wf = true
    decide
  · show (Lit.int .i64 (Lib.atoiSat l)).wf = true
    unfold Lib.atoiSat
    split <;> decide
/-- Numbers of two digits at most, counted out. -/
theorem itoa_cnt : ((List.range 199).all fun n => decide (Lib.itoa ((n : Int) - 99) = stepT ((n : Int) - 99)) && decide (numL (stepT ((n : Int) - 99)) = (n : Int) - 99)) = true := by kernel_rfl
theorem itoa_at {z : Int} (h0 : -99 ≤ z) (h1 : z ≤ 99) : Lib.itoa z = stepT z ∧ numL (stepT z) = z := by
  have := List.all_eq_true.1 itoa_cnt (z + 99).toNat (List.mem_range.2 (by omega))
  rw [show (((z + 99).toNat : Nat) : Int) - 99 = z by omega] at this
  simp only [Bool.and_eq_true, decide_eq_true_eq] at this
  exact this
end Go.Proofs.YtoafpokcbbncfaaDoor
