/-
  From the frame's own word for an argument that is a slice of slices of ints to 'Mat'.
-/
import Derived.Test.YtffllkmaifjpfabZpl
import Derived.Deep.Matrix
namespace Go.Proofs.Ytffllkmaifjpfab
open Go.RowKit Go.Deep

theorem mat_open {H : Type} {enc : TypeId × Value → H} {P : Program} {w : World} {base : Nat} {held : Bool} {t e q : TypeId} {fuel : Nat} {a : Option Addr} {len cap : Nat} {x : DataW H × List MemPlace}
    (ht : P.underlying t = some (.slice e)) (he : P.underlying e = some (.slice q)) (hq : P.underlying q = some (.int .i64)) (ce : P.cellsOf e = 1) (cq : P.cellsOf q = 1)
    (h : DataW.trod enc P w base (fun _ => true) held fuel t [.slice a len cap] = some x) : ∃ rs, Mat w w.heap.size a len cap rs := by
  rcases open_int_rows ht he hq ce cq h with ⟨hcs, _⟩ | ⟨y, len', cap', A, L, C, Z, hcs, _, hl, hm, _, hrow⟩
  · simp only [List.cons.injEq, Value.slice.injEq, and_true] at hcs
    obtain ⟨rfl, rfl, rfl⟩ := hcs
    exact ⟨[], Mat.nil⟩
  · simp only [List.cons.injEq, Value.slice.injEq, and_true] at hcs
    obtain ⟨rfl, rfl, rfl⟩ := hcs
    refine ⟨(List.range len).map fun r => (Z r).take (L r), by simp, hl, hm, fun hp => ?_, fun e => by cases e⟩
    obtain ⟨b, off, spot⟩ := y
    have h0 := (hrow 0 (by omega)).1
    have hspot : spot = none := by simpa [Addr.add] using World.cell?_spot h0
    subst hspot
    have eadd : ∀ j, (Addr.mk b off none).add j = ⟨b, off + j, none⟩ := fun j => by
      unfold Addr.add
      by_cases hj0 : j = 0 <;> simp [hj0]
    refine ⟨b, off, rfl, ?_, fun j l hj => ?_⟩
    · have := World.block_lt_of_cell? w _ h0
      simpa [Addr.add] using this
    · have hjl : j < len := by have := (List.getElem?_eq_some_iff.1 hj).1; simpa using this
      obtain ⟨c1, c2, c3, c4, c5, c6, c7⟩ := hrow j (by omega)
      rw [eadd] at c1
      have e : l = (Z j).take (L j) := by
        rw [List.getElem?_map, List.getElem?_range hjl] at hj
        simpa using hj.symm
      subst e
      refine ⟨A j, L j, C j, c1, ints_of ?_⟩
      cases hA : A j with
      | none =>
        have hC := c6 hA
        have hZ : Z j = [] := List.eq_nil_of_length_eq_zero (by omega)
        exact .inl ⟨rfl, by omega, hC, hZ⟩
      | some a' => exact .inr ⟨a', rfl, c2, c3, c4, fun i hi => (c7 a' hA).2 i (by omega), c5⟩
end Go.Proofs.Ytffllkmaifjpfab
