/-
  The walks of exact laws (chapter 9): written by wip/exgen.py.
-/
import Derived.Test.YtffllkmaifjpfabTermI
import Derived.Test.YtffllkmaifjpfabMarkX
import Derived.Test.YtffllkmaifjpfabZrows
namespace Go.Proofs.Ytffllkmaifjpfab
open Go.RowKit
set_option linter.unusedVariables false

set_option maxHeartbeats 1600000 in
theorem exTermOk {a0 : Int} {A1 : Option Addr} {n1 c1 : Nat} {ts1 : List Mk} {w : World} (wf0 : (Lit.int .i64 a0).wf = true) (h1 : Marks w w.heap.size A1 n1 c1 ts1) :
    Calls Try.prog 3 #[.int .i64 a0, .slice A1 n1 c1] w fun e w' => e = .returned (.bool true) ∧ Below w.heap.size w w' := by
  have hn1 := h1.nb
  have hz1 := hide h1.len
  have hb0 := Below.refl w.heap.size w
  go_enter Try.func3, Try.ntmps3
  go_wp2_with fail
  refine (szMarkS_c A1 n1 c1 _ ts1 _ 1048576 (h1.below hb0) (by omega) (by omega)).mono ?_
  rintro e w1 ⟨⟨y1, rfl, hx1, hx2, hx3⟩, hq1⟩
  have hx3 := hide hx3
  by_cases hy1 : y1 < 0
  · go_wp2_with fail
    go_ret
    exact ⟨rfl, hb0.trans (hq1.mono hb0.size)⟩
  have hsm1 := hx3.out (by omega)
  clear hx3
  have hb1 := hb0.trans (hq1.mono hb0.size)
  have hs1 := hq1.size
  clear hq1
  go_wp2_with fail
  refine (toMarkS_c A1 n1 c1 _ ts1 _ (h1.below hb1) hb1.size hsm1).mono ?_
  rintro e w2 ⟨g1, rfl, ho1, hq2⟩
  have hlo1 := ho1.row.lt
  have hb2 := hb1.trans (hq2.mono hb1.size)
  have hs2 := hq2.size
  clear hq2
  go_wp2_with fail
  refine (termOk_spec a0 _ _ _ _ ts1 _ ho1.marks (Nat.le_refl _) hsm1).mono ?_
  rintro e w3 ⟨rfl, hq3⟩
  have hb3 := hb2.trans (hq3.mono hb2.size)
  have hs3 := hq3.size
  replace ho1 := ho1.up hq3
  clear hq3
  clear ho1 hlo1
  go_wp2_with fail
  refine (toMarkS_c A1 n1 c1 _ ts1 _ (h1.below hb3) hb3.size hsm1).mono ?_
  rintro e w4 ⟨g2, rfl, ho2, hq4⟩
  have hlo2 := ho2.row.lt
  have hb4 := hb3.trans (hq4.mono hb3.size)
  have hs4 := hq4.size
  clear hq4
  go_wp2_with fail
  refine (termOk_impl a0 _ _ _ _ ts1 _ ho2.marks (Nat.le_refl _) hsm1 wf0).mono ?_
  rintro e w5 ⟨rfl, hq5⟩
  have hb5 := hb4.trans (hq5.mono hb4.size)
  have hs5 := hq5.size
  replace ho2 := ho2.up hq5
  clear hq5
  go_wp2_with fail
  refine (toMarkS_c A1 n1 c1 _ ts1 _ (h1.below hb5) hb5.size hsm1).mono ?_
  rintro e w6 ⟨g3, rfl, ho3, hq6⟩
  have hlo3 := ho3.row.lt
  have hb6 := hb5.trans (hq6.mono hb5.size)
  have hs6 := hq6.size
  replace ho2 := ho2.up hq6
  clear hq6
  go_wp2_with fail
  refine (eqMarkS_c _ _ _ _ _ _ _ _ _ _ ho2.marks ho3.marks (Nat.le_refl _) (Nat.le_refl _)).mono ?_
  rintro e w7 ⟨rfl, hq7⟩
  have hb7 := hb6.trans (hq7.mono hb6.size)
  have hs7 := hq7.size
  replace ho2 := ho2.up hq7
  replace ho3 := ho3.up hq7
  clear hq7
  clear ho3 hlo3
  go_wp2_with fail
  go_ret
  exact ⟨rfl, hb7⟩

set_option maxHeartbeats 1600000 in
theorem exLengthOf {a0 : Int} {A1 : Option Addr} {n1 c1 : Nat} {ts1 : List Mk} {w : World} (wf0 : (Lit.int .i64 a0).wf = true) (h1 : Marks w w.heap.size A1 n1 c1 ts1) :
    Calls Try.prog 4 #[.int .i64 a0, .slice A1 n1 c1] w fun e w' => e = .returned (.bool true) ∧ Below w.heap.size w w' := by
  have hn1 := h1.nb
  have hz1 := hide h1.len
  have hb0 := Below.refl w.heap.size w
  go_enter Try.func4, Try.ntmps4
  go_wp2_with fail
  refine (szMarkS_c A1 n1 c1 _ ts1 _ 1048576 (h1.below hb0) (by omega) (by omega)).mono ?_
  rintro e w1 ⟨⟨y1, rfl, hx1, hx2, hx3⟩, hq1⟩
  have hx3 := hide hx3
  by_cases hy1 : y1 < 0
  · go_wp2_with fail
    go_ret
    exact ⟨rfl, hb0.trans (hq1.mono hb0.size)⟩
  have hsm1 := hx3.out (by omega)
  clear hx3
  have hb1 := hb0.trans (hq1.mono hb0.size)
  have hs1 := hq1.size
  clear hq1
  go_wp2_with fail
  refine (toMarkS_c A1 n1 c1 _ ts1 _ (h1.below hb1) hb1.size hsm1).mono ?_
  rintro e w2 ⟨g1, rfl, ho1, hq2⟩
  have hlo1 := ho1.row.lt
  have hb2 := hb1.trans (hq2.mono hb1.size)
  have hs2 := hq2.size
  clear hq2
  go_wp2_with fail
  refine (lengthOf_spec a0 _ _ _ _ ts1 _ ho1.marks (Nat.le_refl _) hsm1).mono ?_
  rintro e w3 ⟨rfl, hq3⟩
  have hb3 := hb2.trans (hq3.mono hb2.size)
  have hs3 := hq3.size
  replace ho1 := ho1.up hq3
  clear hq3
  clear ho1 hlo1
  go_wp2_with fail
  refine (toMarkS_c A1 n1 c1 _ ts1 _ (h1.below hb3) hb3.size hsm1).mono ?_
  rintro e w4 ⟨g2, rfl, ho2, hq4⟩
  have hlo2 := ho2.row.lt
  have hb4 := hb3.trans (hq4.mono hb3.size)
  have hs4 := hq4.size
  clear hq4
  go_wp2_with fail
  refine (lengthOf_impl a0 _ _ _ _ ts1 _ ho2.marks (Nat.le_refl _) hsm1 wf0).mono ?_
  rintro e w5 ⟨rfl, hq5⟩
  have hb5 := hb4.trans (hq5.mono hb4.size)
  have hs5 := hq5.size
  replace ho2 := ho2.up hq5
  clear hq5
  go_wp2_with fail
  refine (toMarkS_c A1 n1 c1 _ ts1 _ (h1.below hb5) hb5.size hsm1).mono ?_
  rintro e w6 ⟨g3, rfl, ho3, hq6⟩
  have hlo3 := ho3.row.lt
  have hb6 := hb5.trans (hq6.mono hb5.size)
  have hs6 := hq6.size
  replace ho2 := ho2.up hq6
  clear hq6
  go_wp2_with fail
  refine (eqMarkS_c _ _ _ _ _ _ _ _ _ _ ho2.marks ho3.marks (Nat.le_refl _) (Nat.le_refl _)).mono ?_
  rintro e w7 ⟨rfl, hq7⟩
  have hb7 := hb6.trans (hq7.mono hb6.size)
  have hs7 := hq7.size
  replace ho2 := ho2.up hq7
  replace ho3 := ho3.up hq7
  clear hq7
  clear ho3 hlo3
  go_wp2_with fail
  go_ret
  exact ⟨rfl, hb7⟩

set_option maxHeartbeats 1600000 in
theorem exTermText {a0 : Int} {A1 : Option Addr} {n1 c1 : Nat} {ts1 : List Mk} {w : World} (wf0 : (Lit.int .i64 a0).wf = true) (h1 : Marks w w.heap.size A1 n1 c1 ts1) :
    Calls Try.prog 5 #[.int .i64 a0, .slice A1 n1 c1] w fun e w' => e = .returned (.bool true) ∧ Below w.heap.size w w' := by
  have hn1 := h1.nb
  have hz1 := hide h1.len
  have hb0 := Below.refl w.heap.size w
  go_enter Try.func5, Try.ntmps5
  go_wp2_with fail
  refine (szMarkS_c A1 n1 c1 _ ts1 _ 1048576 (h1.below hb0) (by omega) (by omega)).mono ?_
  rintro e w1 ⟨⟨y1, rfl, hx1, hx2, hx3⟩, hq1⟩
  have hx3 := hide hx3
  by_cases hy1 : y1 < 0
  · go_wp2_with fail
    go_ret
    exact ⟨rfl, hb0.trans (hq1.mono hb0.size)⟩
  have hsm1 := hx3.out (by omega)
  clear hx3
  have hb1 := hb0.trans (hq1.mono hb0.size)
  have hs1 := hq1.size
  clear hq1
  go_wp2_with fail
  refine (toMarkS_c A1 n1 c1 _ ts1 _ (h1.below hb1) hb1.size hsm1).mono ?_
  rintro e w2 ⟨g1, rfl, ho1, hq2⟩
  have hlo1 := ho1.row.lt
  have hb2 := hb1.trans (hq2.mono hb1.size)
  have hs2 := hq2.size
  clear hq2
  go_wp2_with fail
  refine (termText_spec a0 _ _ _ _ ts1 _ ho1.marks (Nat.le_refl _) hsm1).mono ?_
  rintro e w3 ⟨rfl, hq3⟩
  have hb3 := hb2.trans (hq3.mono hb2.size)
  have hs3 := hq3.size
  replace ho1 := ho1.up hq3
  clear hq3
  clear ho1 hlo1
  go_wp2_with fail
  refine (toMarkS_c A1 n1 c1 _ ts1 _ (h1.below hb3) hb3.size hsm1).mono ?_
  rintro e w4 ⟨g2, rfl, ho2, hq4⟩
  have hlo2 := ho2.row.lt
  have hb4 := hb3.trans (hq4.mono hb3.size)
  have hs4 := hq4.size
  clear hq4
  go_wp2_with fail
  refine (termText_impl a0 _ _ _ _ ts1 _ ho2.marks (Nat.le_refl _) hsm1 wf0).mono ?_
  rintro e w5 ⟨rfl, hq5⟩
  have hb5 := hb4.trans (hq5.mono hb4.size)
  have hs5 := hq5.size
  replace ho2 := ho2.up hq5
  clear hq5
  go_wp2_with fail
  refine (toMarkS_c A1 n1 c1 _ ts1 _ (h1.below hb5) hb5.size hsm1).mono ?_
  rintro e w6 ⟨g3, rfl, ho3, hq6⟩
  have hlo3 := ho3.row.lt
  have hb6 := hb5.trans (hq6.mono hb5.size)
  have hs6 := hq6.size
  replace ho2 := ho2.up hq6
  clear hq6
  go_wp2_with fail
  refine (eqMarkS_c _ _ _ _ _ _ _ _ _ _ ho2.marks ho3.marks (Nat.le_refl _) (Nat.le_refl _)).mono ?_
  rintro e w7 ⟨rfl, hq7⟩
  have hb7 := hb6.trans (hq7.mono hb6.size)
  have hs7 := hq7.size
  replace ho2 := ho2.up hq7
  replace ho3 := ho3.up hq7
  clear hq7
  clear ho3 hlo3
  go_wp2_with fail
  go_ret
  exact ⟨rfl, hb7⟩

set_option maxHeartbeats 1600000 in
theorem exReadTerm {a0 : Int} {a1 : ByteArray} {w : World} (wf0 : (Lit.int .i64 a0).wf = true) (hs1 : a1.size ≤ maxLen) :
    Calls Try.prog 6 #[.int .i64 a0, .string a1] w fun e w' => e = .returned (.bool true) ∧ Below w.heap.size w w' := by
  unfold maxLen at hs1
  by_cases hbig1 : 1048576 < a1.size
  · go_enter Try.func6, Try.ntmps6
    go_wp2
    go_ret
    exact ⟨rfl, Below.refl _ _⟩
  have hbs1 : a1.size ≤ 1048576 := by omega
  clear hbig1 hs1
  have hb0 := Below.refl w.heap.size w
  go_enter Try.func6, Try.ntmps6
  go_wp2_with fail
  refine (readTerm_spec a0 a1 _).mono ?_
  rintro e w1 ⟨B1, m1, d1, rfl, ho1, hq1⟩
  have hlo1 := ho1.row.lt
  have hm1 := hide ho1.len
  have hb1 := hb0.trans (hq1.mono hb0.size)
  have hs1 := hq1.size
  clear hq1
  go_wp2_with fail
  refine (readTerm_impl a0 a1 _ wf0).mono ?_
  rintro e w2 ⟨B2, m2, d2, rfl, ho2, hq2⟩
  have hlo2 := ho2.row.lt
  have hm2 := hide ho2.len
  have hb2 := hb1.trans (hq2.mono hb1.size)
  have hs2 := hq2.size
  replace ho1 := ho1.up hq2
  clear hq2
  go_wp2_with fail
  refine (eqMarkS_c _ _ _ _ _ _ _ _ _ _ ho2.marks ho1.marks (Nat.le_refl _) (Nat.le_refl _)).mono ?_
  rintro e w3 ⟨rfl, hq3⟩
  have hb3 := hb2.trans (hq3.mono hb2.size)
  have hs3 := hq3.size
  replace ho1 := ho1.up hq3
  replace ho2 := ho2.up hq3
  clear hq3
  have hmb2 := hide (show m2 ≤ 1048576 from by have := hm2.out; exact Nat.le_trans (Nat.le_of_eq this) (Nat.le_trans (readL_len a0 (bts a1)) (by decide)))
  go_wp2_with fail
  refine (markMarkS_c _ _ _ _ _ _ _ ho2 (by omega) (by omega) hmb2.out).mono ?_
  rintro e w4 ⟨rfl, ho, hg⟩
  have hb4 := hb3.grown hg hb3.size (fun k hk => by have := (hlo2 k hk).1; omega)
  have hs4 := hg.size
  replace ho1 := ho1.kept hg (apart hlo1 hlo2 (by omega))
  clear ho2 hg
  have ho2 := ho
  clear ho
  go_wp2_with fail
  refine (sameB (heldMarkS_c _ _ _ _ _ _ _ ho2.marks (by omega) (by omega) hmb2.out)).mono ?_
  rintro e w5 ⟨rfl, hq5⟩
  have hb5 := hb4.trans (hq5.mono hb4.size)
  have hs5 := hq5.size
  replace ho1 := ho1.up hq5
  replace ho2 := ho2.up hq5
  clear hq5
  go_wp2_with fail
  refine (readTerm_impl a0 a1 _ wf0).mono ?_
  rintro e w6 ⟨B3, m3, d3, rfl, ho3, hq6⟩
  have hlo3 := ho3.row.lt
  have hm3 := hide ho3.len
  have hb6 := hb5.trans (hq6.mono hb5.size)
  have hs6 := hq6.size
  replace ho1 := ho1.up hq6
  replace ho2 := ho2.up hq6
  clear hq6
  go_wp2_with fail
  refine (eqMarkS_c _ _ _ _ _ _ _ _ _ _ ho3.marks ho1.marks (Nat.le_refl _) (Nat.le_refl _)).mono ?_
  rintro e w7 ⟨rfl, hq7⟩
  have hb7 := hb6.trans (hq7.mono hb6.size)
  have hs7 := hq7.size
  replace ho1 := ho1.up hq7
  replace ho2 := ho2.up hq7
  replace ho3 := ho3.up hq7
  clear hq7
  go_wp2_with fail
  refine (sameB (heldMarkS_c _ _ _ _ _ _ _ ho2.marks (by omega) (by omega) hmb2.out)).mono ?_
  rintro e w8 ⟨rfl, hq8⟩
  have hb8 := hb7.trans (hq8.mono hb7.size)
  have hs8 := hq8.size
  replace ho1 := ho1.up hq8
  replace ho2 := ho2.up hq8
  replace ho3 := ho3.up hq8
  clear hq8
  go_wp2_with fail
  go_ret
  exact ⟨rfl, hb8⟩

set_option maxHeartbeats 1600000 in
theorem exFitsOk {a0 : Int} {A1 : Option Addr} {n1 c1 : Nat} {ts1 : List Mk} {A2 : Option Addr} {n2 c2 : Nat} {zs2 : List Int} {w : World} (wf0 : (Lit.int .i64 a0).wf = true) (h1 : Marks w w.heap.size A1 n1 c1 ts1) (h2 : Ints w w.heap.size A2 n2 c2 zs2) :
    Calls Try.prog 7 #[.int .i64 a0, .slice A1 n1 c1, .slice A2 n2 c2] w fun e w' => e = .returned (.bool true) ∧ Below w.heap.size w w' := by
  have hn1 := h1.nb
  have hn2 := h2.nb
  by_cases hbig2 : 1048576 < n2
  · go_enter Try.func7, Try.ntmps7
    go_wp2
    go_ret
    exact ⟨rfl, Below.refl _ _⟩
  have hz1 := hide h1.len
  have hz2 := hide h2.len
  have hsm2 : n2 ≤ 1048576 := by omega
  clear hbig2
  have hsamez2 := sameL_refl zs2
  have hb0 := Below.refl w.heap.size w
  go_enter Try.func7, Try.ntmps7
  go_wp2_with fail
  refine (szMarkS_c A1 n1 c1 _ ts1 _ 1048576 (h1.below hb0) (by omega) (by omega)).mono ?_
  rintro e w1 ⟨⟨y1, rfl, hx1, hx2, hx3⟩, hq1⟩
  have hx3 := hide hx3
  by_cases hy1 : y1 < 0
  · go_wp2_with fail
    go_ret
    exact ⟨rfl, hb0.trans (hq1.mono hb0.size)⟩
  have hsm1 := hx3.out (by omega)
  clear hx3
  have hb1 := hb0.trans (hq1.mono hb0.size)
  have hs1 := hq1.size
  clear hq1
  go_wp2_with fail
  refine (toMarkS_c A1 n1 c1 _ ts1 _ (h1.below hb1) hb1.size hsm1).mono ?_
  rintro e w2 ⟨g1, rfl, ho1, hq2⟩
  have hlo1 := ho1.row.lt
  have hb2 := hb1.trans (hq2.mono hb1.size)
  have hs2 := hq2.size
  clear hq2
  go_wp2_with fail
  refine (toIntS_c A2 n2 c2 _ zs2 _ (h2.below hb2) hb2.size hsm2).mono ?_
  rintro e w3 ⟨g2, rfl, ho2, hq3⟩
  have hlo2 := ho2.row.lt
  have hb3 := hb2.trans (hq3.mono hb2.size)
  have hs3 := hq3.size
  replace ho1 := ho1.up hq3
  clear hq3
  go_wp2_with fail
  refine (fitsOk_spec a0 _ _ _ _ _ _ _ _ ts1 zs2 _ ho1.marks ho2.ints (Nat.le_refl _) (Nat.le_refl _) hsm1).mono ?_
  rintro e w4 ⟨rfl, hq4⟩
  have hb4 := hb3.trans (hq4.mono hb3.size)
  have hs4 := hq4.size
  replace ho1 := ho1.up hq4
  replace ho2 := ho2.below hq4 (Nat.le_refl _)
  clear hq4
  clear ho1 hlo1
  clear ho2 hlo2
  go_wp2_with fail
  refine (toMarkS_c A1 n1 c1 _ ts1 _ (h1.below hb4) hb4.size hsm1).mono ?_
  rintro e w5 ⟨g3, rfl, ho3, hq5⟩
  have hlo3 := ho3.row.lt
  have hb5 := hb4.trans (hq5.mono hb4.size)
  have hs5 := hq5.size
  clear hq5
  go_wp2_with fail
  refine (toIntS_c A2 n2 c2 _ zs2 _ (h2.below hb5) hb5.size hsm2).mono ?_
  rintro e w6 ⟨g4, rfl, ho4, hq6⟩
  have hlo4 := ho4.row.lt
  have hb6 := hb5.trans (hq6.mono hb5.size)
  have hs6 := hq6.size
  replace ho3 := ho3.up hq6
  clear hq6
  go_wp2_with fail
  refine (fitsOk_impl a0 _ _ _ _ _ _ _ _ ts1 zs2 _ ho3.marks ho4.ints (Nat.le_refl _) (Nat.le_refl _) hsm1 wf0).mono ?_
  rintro e w7 ⟨rfl, hq7⟩
  have hb7 := hb6.trans (hq7.mono hb6.size)
  have hs7 := hq7.size
  replace ho3 := ho3.up hq7
  replace ho4 := ho4.below hq7 (Nat.le_refl _)
  clear hq7
  go_wp2_with fail
  refine (toMarkS_c A1 n1 c1 _ ts1 _ (h1.below hb7) hb7.size hsm1).mono ?_
  rintro e w8 ⟨g5, rfl, ho5, hq8⟩
  have hlo5 := ho5.row.lt
  have hb8 := hb7.trans (hq8.mono hb7.size)
  have hs8 := hq8.size
  replace ho3 := ho3.up hq8
  replace ho4 := ho4.below hq8 (Nat.le_refl _)
  clear hq8
  go_wp2_with fail
  refine (eqMarkS_c _ _ _ _ _ _ _ _ _ _ ho3.marks ho5.marks (Nat.le_refl _) (Nat.le_refl _)).mono ?_
  rintro e w9 ⟨rfl, hq9⟩
  have hb9 := hb8.trans (hq9.mono hb8.size)
  have hs9 := hq9.size
  replace ho3 := ho3.up hq9
  replace ho4 := ho4.below hq9 (Nat.le_refl _)
  replace ho5 := ho5.up hq9
  clear hq9
  clear ho5 hlo5
  go_wp2_with fail
  refine (toIntS_c A2 n2 c2 _ zs2 _ (h2.below hb9) hb9.size hsm2).mono ?_
  rintro e w10 ⟨g6, rfl, ho6, hq10⟩
  have hlo6 := ho6.row.lt
  have hb10 := hb9.trans (hq10.mono hb9.size)
  have hs10 := hq10.size
  replace ho3 := ho3.up hq10
  replace ho4 := ho4.below hq10 (Nat.le_refl _)
  clear hq10
  go_wp2_with fail
  refine (quietB (eqIntS_c _ _ _ _ _ _ _ _ _ _ _ ho4.ints ho6.ints)).mono ?_
  rintro e w11 ⟨rfl, hq11⟩
  have hb11 := hb10.trans (hq11.mono hb10.size)
  have hs11 := hq11.size
  replace ho3 := ho3.up hq11
  replace ho4 := ho4.below hq11 (Nat.le_refl _)
  replace ho6 := ho6.below hq11 (Nat.le_refl _)
  clear hq11
  clear ho6 hlo6
  go_wp2_with fail
  go_ret
  exact ⟨rfl, hb11⟩

set_option maxHeartbeats 1600000 in
theorem exTermWays {A0 : Option Addr} {n0 c0 : Nat} {zs0 : List Int} {A1 : Option Addr} {n1 c1 : Nat} {rs1 : List (List Int)} {A2 : Option Addr} {n2 c2 : Nat} {ts2 : List Mk} {w : World} (h0 : Ints w w.heap.size A0 n0 c0 zs0) (h1 : Mat w w.heap.size A1 n1 c1 rs1) (h2 : Marks w w.heap.size A2 n2 c2 ts2) :
    Calls Try.prog 8 #[.slice A0 n0 c0, .slice A1 n1 c1, .slice A2 n2 c2] w fun e w' => e = .returned (.bool true) ∧ Below w.heap.size w w' := by
  have hn0 := h0.nb
  have hn1 := h1.nb
  have hn2 := h2.nb
  by_cases hbig0 : 1048576 < n0
  · go_enter Try.func8, Try.ntmps8
    go_wp2
    go_ret
    exact ⟨rfl, Below.refl _ _⟩
  have hz0 := hide h0.len
  have hz1 := hide h1.len
  have hz2 := hide h2.len
  have hsm0 : n0 ≤ 1048576 := by omega
  clear hbig0
  have hsamez0 := sameL_refl zs0
  have hsamez1 := sameM_refl rs1
  have hb0 := Below.refl w.heap.size w
  go_enter Try.func8, Try.ntmps8
  go_wp2_with fail
  refine (szIntSS_c A1 n1 c1 _ rs1 _ (h1.below hb0)).mono ?_
  rintro e w1 ⟨⟨x, rfl, hx1, hx2, hx3⟩, hq1⟩
  have hx3 := hide hx3
  by_cases hx0 : x < 0
  · go_wp2_with fail
    go_ret
    exact ⟨rfl, hb0.trans (hq1.mono hb0.size)⟩
  have hsm1 := (hx3.out (by omega)).1
  have ht1 := hide (hx3.out (by omega)).2
  have hrl1 := hide (fun l (hl : l ∈ rs1) => Nat.le_trans (totLen_mem hl) ht1.out)
  clear hx3
  have hb1 := hb0.trans (hq1.mono hb0.size)
  have hs1 := hq1.size
  clear hq1
  go_wp2_with fail
  refine (szMarkS_c A2 n2 c2 _ ts2 _ x (h2.below hb1) (by omega) (by omega)).mono ?_
  rintro e w2 ⟨⟨y2, rfl, hx1, hx2, hx3⟩, hq2⟩
  have hx3 := hide hx3
  by_cases hy2 : y2 < 0
  · go_wp2_with fail
    go_ret
    exact ⟨rfl, hb1.trans (hq2.mono hb1.size)⟩
  have hsm2 := hx3.out (by omega)
  clear hx3
  have hb2 := hb1.trans (hq2.mono hb1.size)
  have hs2 := hq2.size
  clear hq2
  go_wp2_with fail
  refine (toIntS_c A0 n0 c0 _ zs0 _ (h0.below hb2) hb2.size hsm0).mono ?_
  rintro e w3 ⟨g1, rfl, ho1, hq3⟩
  have hlo1 := ho1.row.lt
  have hb3 := hb2.trans (hq3.mono hb2.size)
  have hs3 := hq3.size
  clear hq3
  go_wp2_with fail
  refine (toIntSS_c A1 n1 c1 _ rs1 _ (h1.below hb3) hb3.size hsm1 hrl1.out).mono ?_
  rintro e w4 ⟨g2, rfl, ho2, hq4⟩
  have hb4 := hb3.trans (hq4.mono hb3.size)
  have hs4 := hq4.size
  replace ho1 := ho1.below hq4 (Nat.le_refl _)
  clear hq4
  go_wp2_with fail
  refine (toMarkS_c A2 n2 c2 _ ts2 _ (h2.below hb4) hb4.size hsm2).mono ?_
  rintro e w5 ⟨g3, rfl, ho3, hq5⟩
  have hlo3 := ho3.row.lt
  have hb5 := hb4.trans (hq5.mono hb4.size)
  have hs5 := hq5.size
  replace ho1 := ho1.below hq5 (Nat.le_refl _)
  replace ho2 := ho2.up hq5
  clear hq5
  go_wp2_with fail
  refine (termWays_spec _ _ _ _ _ _ _ _ _ _ _ _ zs0 rs1 ts2 _ ho1.ints ho2.mat ho3.marks (Nat.le_refl _) (Nat.le_refl _) (Nat.le_refl _) hsm2).mono ?_
  rintro e w6 ⟨rfl, hq6⟩
  have hb6 := hb5.trans (hq6.mono hb5.size)
  have hs6 := hq6.size
  replace ho1 := ho1.below hq6 (Nat.le_refl _)
  replace ho2 := ho2.up hq6
  replace ho3 := ho3.up hq6
  clear hq6
  clear ho1 hlo1
  clear ho2
  clear ho3 hlo3
  go_wp2_with fail
  refine (toIntS_c A0 n0 c0 _ zs0 _ (h0.below hb6) hb6.size hsm0).mono ?_
  rintro e w7 ⟨g4, rfl, ho4, hq7⟩
  have hlo4 := ho4.row.lt
  have hb7 := hb6.trans (hq7.mono hb6.size)
  have hs7 := hq7.size
  clear hq7
  go_wp2_with fail
  refine (toIntSS_c A1 n1 c1 _ rs1 _ (h1.below hb7) hb7.size hsm1 hrl1.out).mono ?_
  rintro e w8 ⟨g5, rfl, ho5, hq8⟩
  have hb8 := hb7.trans (hq8.mono hb7.size)
  have hs8 := hq8.size
  replace ho4 := ho4.below hq8 (Nat.le_refl _)
  clear hq8
  go_wp2_with fail
  refine (toMarkS_c A2 n2 c2 _ ts2 _ (h2.below hb8) hb8.size hsm2).mono ?_
  rintro e w9 ⟨g6, rfl, ho6, hq9⟩
  have hlo6 := ho6.row.lt
  have hb9 := hb8.trans (hq9.mono hb8.size)
  have hs9 := hq9.size
  replace ho4 := ho4.below hq9 (Nat.le_refl _)
  replace ho5 := ho5.up hq9
  clear hq9
  go_wp2_with fail
  refine (termWays_impl _ _ _ _ _ _ _ _ _ _ _ _ zs0 rs1 ts2 _ ho4.ints ho5.mat ho6.marks (Nat.le_refl _) (Nat.le_refl _) (Nat.le_refl _) hsm2).mono ?_
  rintro e w10 ⟨rfl, hq10⟩
  have hb10 := hb9.trans (hq10.mono hb9.size)
  have hs10 := hq10.size
  replace ho4 := ho4.below hq10 (Nat.le_refl _)
  replace ho5 := ho5.up hq10
  replace ho6 := ho6.up hq10
  clear hq10
  go_wp2_with fail
  refine (toIntS_c A0 n0 c0 _ zs0 _ (h0.below hb10) hb10.size hsm0).mono ?_
  rintro e w11 ⟨g7, rfl, ho7, hq11⟩
  have hlo7 := ho7.row.lt
  have hb11 := hb10.trans (hq11.mono hb10.size)
  have hs11 := hq11.size
  replace ho4 := ho4.below hq11 (Nat.le_refl _)
  replace ho5 := ho5.up hq11
  replace ho6 := ho6.up hq11
  clear hq11
  go_wp2_with fail
  refine (quietB (eqIntS_c _ _ _ _ _ _ _ _ _ _ _ ho4.ints ho7.ints)).mono ?_
  rintro e w12 ⟨rfl, hq12⟩
  have hb12 := hb11.trans (hq12.mono hb11.size)
  have hs12 := hq12.size
  replace ho4 := ho4.below hq12 (Nat.le_refl _)
  replace ho5 := ho5.up hq12
  replace ho6 := ho6.up hq12
  replace ho7 := ho7.below hq12 (Nat.le_refl _)
  clear hq12
  clear ho7 hlo7
  go_wp2_with fail
  refine (toIntSS_c A1 n1 c1 _ rs1 _ (h1.below hb12) hb12.size hsm1 hrl1.out).mono ?_
  rintro e w13 ⟨g8, rfl, ho8, hq13⟩
  have hb13 := hb12.trans (hq13.mono hb12.size)
  have hs13 := hq13.size
  replace ho4 := ho4.below hq13 (Nat.le_refl _)
  replace ho5 := ho5.up hq13
  replace ho6 := ho6.up hq13
  clear hq13
  go_wp2_with fail
  refine (quietB (eqIntSS_c _ _ _ _ _ _ _ _ _ _ _ ho5.mat ho8.mat)).mono ?_
  rintro e w14 ⟨rfl, hq14⟩
  have hb14 := hb13.trans (hq14.mono hb13.size)
  have hs14 := hq14.size
  replace ho4 := ho4.below hq14 (Nat.le_refl _)
  replace ho5 := ho5.up hq14
  replace ho6 := ho6.up hq14
  replace ho8 := ho8.up hq14
  clear hq14
  clear ho8
  go_wp2_with fail
  refine (toMarkS_c A2 n2 c2 _ ts2 _ (h2.below hb14) hb14.size hsm2).mono ?_
  rintro e w15 ⟨g9, rfl, ho9, hq15⟩
  have hlo9 := ho9.row.lt
  have hb15 := hb14.trans (hq15.mono hb14.size)
  have hs15 := hq15.size
  replace ho4 := ho4.below hq15 (Nat.le_refl _)
  replace ho5 := ho5.up hq15
  replace ho6 := ho6.up hq15
  clear hq15
  go_wp2_with fail
  refine (eqMarkS_c _ _ _ _ _ _ _ _ _ _ ho6.marks ho9.marks (Nat.le_refl _) (Nat.le_refl _)).mono ?_
  rintro e w16 ⟨rfl, hq16⟩
  have hb16 := hb15.trans (hq16.mono hb15.size)
  have hs16 := hq16.size
  replace ho4 := ho4.below hq16 (Nat.le_refl _)
  replace ho5 := ho5.up hq16
  replace ho6 := ho6.up hq16
  replace ho9 := ho9.up hq16
  clear hq16
  clear ho9 hlo9
  go_wp2_with fail
  go_ret
  exact ⟨rfl, hb16⟩

set_option maxHeartbeats 1600000 in
theorem exBackTerm {a0 : Int} {A1 : Option Addr} {n1 c1 : Nat} {ts1 : List Mk} {w : World} (wf0 : (Lit.int .i64 a0).wf = true) (h1 : Marks w w.heap.size A1 n1 c1 ts1) :
    Calls Try.prog 9 #[.int .i64 a0, .slice A1 n1 c1] w fun e w' => e = .returned (.bool true) ∧ Below w.heap.size w w' := by
  have hn1 := h1.nb
  have hz1 := hide h1.len
  have hb0 := Below.refl w.heap.size w
  go_enter Try.func9, Try.ntmps9
  go_wp2_with fail
  refine (szMarkS_c A1 n1 c1 _ ts1 _ 1048576 (h1.below hb0) (by omega) (by omega)).mono ?_
  rintro e w1 ⟨⟨y1, rfl, hx1, hx2, hx3⟩, hq1⟩
  have hx3 := hide hx3
  by_cases hy1 : y1 < 0
  · go_wp2_with fail
    go_ret
    exact ⟨rfl, hb0.trans (hq1.mono hb0.size)⟩
  have hsm1 := hx3.out (by omega)
  clear hx3
  have hb1 := hb0.trans (hq1.mono hb0.size)
  have hs1 := hq1.size
  clear hq1
  go_wp2_with fail
  refine (toMarkS_c A1 n1 c1 _ ts1 _ (h1.below hb1) hb1.size hsm1).mono ?_
  rintro e w2 ⟨g1, rfl, ho1, hq2⟩
  have hlo1 := ho1.row.lt
  have hb2 := hb1.trans (hq2.mono hb1.size)
  have hs2 := hq2.size
  clear hq2
  go_wp2_with fail
  refine (backTerm_spec a0 _ _ _ _ ts1 _ ho1.marks (Nat.le_refl _) hsm1).mono ?_
  rintro e w3 ⟨B2, m2, d2, rfl, ho2, hq3⟩
  have hlo2 := ho2.row.lt
  have hm2 := hide ho2.len
  have hb3 := hb2.trans (hq3.mono hb2.size)
  have hs3 := hq3.size
  replace ho1 := ho1.up hq3
  clear hq3
  clear ho1 hlo1
  go_wp2_with fail
  refine (toMarkS_c A1 n1 c1 _ ts1 _ (h1.below hb3) hb3.size hsm1).mono ?_
  rintro e w4 ⟨g3, rfl, ho3, hq4⟩
  have hlo3 := ho3.row.lt
  have hb4 := hb3.trans (hq4.mono hb3.size)
  have hs4 := hq4.size
  replace ho2 := ho2.up hq4
  clear hq4
  go_wp2_with fail
  refine (backTerm_impl a0 _ _ _ _ ts1 _ ho3.marks (Nat.le_refl _) hsm1 wf0).mono ?_
  rintro e w5 ⟨B4, m4, d4, rfl, ho4, hq5⟩
  have hlo4 := ho4.row.lt
  have hm4 := hide ho4.len
  have hb5 := hb4.trans (hq5.mono hb4.size)
  have hs5 := hq5.size
  replace ho2 := ho2.up hq5
  replace ho3 := ho3.up hq5
  clear hq5
  go_wp2_with fail
  refine (eqMarkS_c _ _ _ _ _ _ _ _ _ _ ho4.marks ho2.marks (Nat.le_refl _) (Nat.le_refl _)).mono ?_
  rintro e w6 ⟨rfl, hq6⟩
  have hb6 := hb5.trans (hq6.mono hb5.size)
  have hs6 := hq6.size
  replace ho2 := ho2.up hq6
  replace ho3 := ho3.up hq6
  replace ho4 := ho4.up hq6
  clear hq6
  go_wp2_with fail
  refine (toMarkS_c A1 n1 c1 _ ts1 _ (h1.below hb6) hb6.size hsm1).mono ?_
  rintro e w7 ⟨g5, rfl, ho5, hq7⟩
  have hlo5 := ho5.row.lt
  have hb7 := hb6.trans (hq7.mono hb6.size)
  have hs7 := hq7.size
  replace ho2 := ho2.up hq7
  replace ho3 := ho3.up hq7
  replace ho4 := ho4.up hq7
  clear hq7
  go_wp2_with fail
  refine (eqMarkS_c _ _ _ _ _ _ _ _ _ _ ho3.marks ho5.marks (Nat.le_refl _) (Nat.le_refl _)).mono ?_
  rintro e w8 ⟨rfl, hq8⟩
  have hb8 := hb7.trans (hq8.mono hb7.size)
  have hs8 := hq8.size
  replace ho2 := ho2.up hq8
  replace ho3 := ho3.up hq8
  replace ho4 := ho4.up hq8
  replace ho5 := ho5.up hq8
  clear hq8
  clear ho5 hlo5
  go_wp2_with fail
  refine (markMarkS_c _ _ _ _ _ _ _ ho3 (by omega) (by omega) hsm1).mono ?_
  rintro e w9 ⟨rfl, ho, hg⟩
  have hb9 := hb8.grown hg hb8.size (fun k hk => by have := (hlo3 k hk).1; omega)
  have hs9 := hg.size
  replace ho2 := ho2.kept hg (apart hlo2 hlo3 (by omega))
  replace ho4 := ho4.kept hg (apart hlo4 hlo3 (by omega))
  clear ho3 hg
  have ho3 := ho
  clear ho
  clear ho3 hlo3
  go_wp2_with fail
  refine (eqMarkS_c _ _ _ _ _ _ _ _ _ _ ho4.marks ho2.marks (Nat.le_refl _) (Nat.le_refl _)).mono ?_
  rintro e w10 ⟨rfl, hq10⟩
  have hb10 := hb9.trans (hq10.mono hb9.size)
  have hs10 := hq10.size
  replace ho2 := ho2.up hq10
  replace ho4 := ho4.up hq10
  clear hq10
  have hmb4 := hide (show m4 ≤ 1048576 from by have := hm4.out; exact Nat.le_trans (Nat.le_of_eq this) (Nat.le_trans (backL_len a0 ts1) (by have := hz1.out; omega)))
  go_wp2_with fail
  refine (markMarkS_c _ _ _ _ _ _ _ ho4 (by omega) (by omega) hmb4.out).mono ?_
  rintro e w11 ⟨rfl, ho, hg⟩
  have hb11 := hb10.grown hg hb10.size (fun k hk => by have := (hlo4 k hk).1; omega)
  have hs11 := hg.size
  replace ho2 := ho2.kept hg (apart hlo2 hlo4 (by omega))
  clear ho4 hg
  have ho4 := ho
  clear ho
  go_wp2_with fail
  refine (sameB (heldMarkS_c _ _ _ _ _ _ _ ho4.marks (by omega) (by omega) hmb4.out)).mono ?_
  rintro e w12 ⟨rfl, hq12⟩
  have hb12 := hb11.trans (hq12.mono hb11.size)
  have hs12 := hq12.size
  replace ho2 := ho2.up hq12
  replace ho4 := ho4.up hq12
  clear hq12
  go_wp2_with fail
  refine (toMarkS_c A1 n1 c1 _ ts1 _ (h1.below hb12) hb12.size hsm1).mono ?_
  rintro e w13 ⟨g6, rfl, ho6, hq13⟩
  have hlo6 := ho6.row.lt
  have hb13 := hb12.trans (hq13.mono hb12.size)
  have hs13 := hq13.size
  replace ho2 := ho2.up hq13
  replace ho4 := ho4.up hq13
  clear hq13
  go_wp2_with fail
  refine (backTerm_impl a0 _ _ _ _ ts1 _ ho6.marks (Nat.le_refl _) hsm1 wf0).mono ?_
  rintro e w14 ⟨B7, m7, d7, rfl, ho7, hq14⟩
  have hlo7 := ho7.row.lt
  have hm7 := hide ho7.len
  have hb14 := hb13.trans (hq14.mono hb13.size)
  have hs14 := hq14.size
  replace ho2 := ho2.up hq14
  replace ho4 := ho4.up hq14
  replace ho6 := ho6.up hq14
  clear hq14
  go_wp2_with fail
  refine (eqMarkS_c _ _ _ _ _ _ _ _ _ _ ho7.marks ho2.marks (Nat.le_refl _) (Nat.le_refl _)).mono ?_
  rintro e w15 ⟨rfl, hq15⟩
  have hb15 := hb14.trans (hq15.mono hb14.size)
  have hs15 := hq15.size
  replace ho2 := ho2.up hq15
  replace ho4 := ho4.up hq15
  replace ho6 := ho6.up hq15
  replace ho7 := ho7.up hq15
  clear hq15
  go_wp2_with fail
  refine (sameB (heldMarkS_c _ _ _ _ _ _ _ ho4.marks (by omega) (by omega) hmb4.out)).mono ?_
  rintro e w16 ⟨rfl, hq16⟩
  have hb16 := hb15.trans (hq16.mono hb15.size)
  have hs16 := hq16.size
  replace ho2 := ho2.up hq16
  replace ho4 := ho4.up hq16
  replace ho6 := ho6.up hq16
  replace ho7 := ho7.up hq16
  clear hq16
  go_wp2_with fail
  go_ret
  exact ⟨rfl, hb16⟩

end Go.Proofs.Ytffllkmaifjpfab
