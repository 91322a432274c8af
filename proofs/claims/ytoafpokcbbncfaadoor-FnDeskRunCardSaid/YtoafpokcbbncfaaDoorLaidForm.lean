/-
  What a row lists of deedForms, as the walks want it.
-/
import Derived.Test.YtoafpokcbbncfaaDoorZdd
import Derived.Test.YtoafpokcbbncfaaDoorLaidOpen
namespace Go.Proofs.YtoafpokcbbncfaaDoor
open Go Go.RowKit
set_option linter.unusedVariables false

def formsData : DataW Unit := .agg [.agg [.lit (.string [112, 117, 116]), .lit (.int .i64 2)], .agg [.lit (.string [115, 116, 101, 112]), .lit (.int .i64 1)], .agg [.lit (.string [100, 114, 97, 119]), .lit (.int .i64 1)], .agg [.lit (.string [97, 103, 97, 105, 110]), .lit (.int .i64 0)], .agg [.lit (.string [98, 97, 99, 107]), .lit (.int .i64 0)]]
theorem gForms : Tryd.prog.globalNamed "loop.example/urnsandballs/impl.deedForms" = some 0 := by kernel_rfl
theorem gFormsT : (Tryd.prog.globals[0]?).map (·.type) = some 135 := by kernel_rfl
theorem form_open {W : World} {m : Nat} {c0 c1 : Value} {z : DataW Unit × List MemPlace} {l : List UInt8} {k : Int} (h : DataW.trod (fun _ => ()) Tryd.prog W 0 (fun _ => true) false m 116 [c0, c1] = some z) (hz : z.1 = .agg [.lit (.string l), .lit (.int .i64 k)]) : c0 = .string ⟨l.toArray⟩ ∧ c1 = .int .i64 k := by
  obtain ⟨y0, y1, n, rfl, _, h0, h1⟩ := ChangeShapes.trod_struct2 Tryd.underlying116 h
  simp only [DataW.agg.injEq, List.cons.injEq, and_true] at hz
  have e0 : Tryd.prog.cellsOf 9 = 1 := by kernel_rfl
  have e1 : Tryd.prog.cellsOf 3 = 1 := by kernel_rfl
  simp only [e0, e1, List.drop_zero, List.take_succ_cons, List.take_zero, List.drop_succ_cons] at h0 h1
  obtain ⟨s, hs, hx, _⟩ := DataW.trod_string Tryd.underlying9 h0
  obtain ⟨i, hi, hy, _⟩ := DataW.trod_int Tryd.underlying3 h1
  injection hs with hs
  injection hi with hi
  subst hs; subst hi
  rw [hx, hy] at hz
  simp only [DataW.lit.injEq, Lit.string.injEq, Lit.int.injEq, true_and] at hz
  refine ⟨?_, by rw [hz.2]⟩
  rw [← hz.1]
set_option maxRecDepth 100000 in
theorem laidD_of {W : World} {l : List (String × DataW Unit)} (hL : laidMetH Tryd.prog l W) (hp : (l.all fun x => x.2.handleName?.isNone) = true) (i : Nat) (hi : l[i]? = some ("loop.example/urnsandballs/impl.deedForms", formsData)) : LaidD W := by
  rw [MakeChecks.laidMetH_plain _ _ _ hp] at hL
  obtain ⟨_, ps, ⟨g, t, cs, fuel, p, q, hg, ht, hv, hd, _, _⟩, _⟩ := laid_nth i hL hi
  obtain rfl := Option.some.inj (gForms.symm.trans hg)
  obtain rfl := Option.some.inj (gFormsT.symm.trans ht)
  obtain ⟨xs, m, rfl, hx, hlen, hn, hel⟩ := DataW.trod_array Tryd.underlying135 hd
  have c10 : Tryd.prog.cellsOf 135 = 10 := by kernel_rfl
  have c2 : Tryd.prog.cellsOf 116 = 2 := by kernel_rfl
  rw [c10] at hlen
  simp only [Prod.mk.injEq] at hx
  obtain ⟨l0⟩ := cs
  simp only at hlen hel
  match xs, hn, l0, hlen, hv with
  | [x0, x1, x2, x3, x4], _, [v0, v1, v2, v3, v4, v5, v6, v7, v8, v9], _, hv =>
    have hx := hx.1
    unfold formsData at hx
    simp only [List.map_cons, List.map_nil, DataW.agg.injEq, List.cons.injEq, and_true] at hx
    obtain ⟨hx0, hx1, hx2, hx3, hx4⟩ := hx
    rw [c2] at hel
    obtain ⟨rfl, rfl⟩ := form_open (show DataW.trod _ _ W 0 _ false m _ [v0, v1] = some x0 from hel 0 (by decide)) (by rw [← hx0])
    obtain ⟨rfl, rfl⟩ := form_open (show DataW.trod _ _ W 0 _ false m _ [v2, v3] = some x1 from hel 1 (by decide)) (by rw [← hx1])
    obtain ⟨rfl, rfl⟩ := form_open (show DataW.trod _ _ W 0 _ false m _ [v4, v5] = some x2 from hel 2 (by decide)) (by rw [← hx2])
    obtain ⟨rfl, rfl⟩ := form_open (show DataW.trod _ _ W 0 _ false m _ [v6, v7] = some x3 from hel 3 (by decide)) (by rw [← hx3])
    obtain ⟨rfl, rfl⟩ := form_open (show DataW.trod _ _ W 0 _ false m _ [v8, v9] = some x4 from hel 4 (by decide)) (by rw [← hx4])
    have hc := fun i => World.var?_cell gForms hv i
    exact ⟨(hc 0).trans rfl, (hc 1).trans rfl, (hc 2).trans rfl, (hc 3).trans rfl, (hc 4).trans rfl, (hc 5).trans rfl, (hc 6).trans rfl, (hc 7).trans rfl, (hc 8).trans rfl, (hc 9).trans rfl⟩
end Go.Proofs.YtoafpokcbbncfaaDoor
