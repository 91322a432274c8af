/-
  From the frame's own word for an argument that is a slice of structs of two ints to 'Marks'.
-/
import Derived.Test.YtffllkmaifjpfabZmark
import Derived.Deep.SlicePairs
import Derived.ChangeArms
namespace Go.Proofs.Ytffllkmaifjpfab
open Go.RowKit Go.Deep

theorem marks_open {H : Type} {enc : TypeId × Value → H} {P : Program} {w : World} {base : Nat} {held : Bool} {t e : TypeId} {f0 f1 : Field} {fuel : Nat} {a : Option Addr} {len cap : Nat} {x : DataW H × List MemPlace}
    (ht : P.underlying t = some (.slice e)) (he : P.underlying e = some (.struct #[f0, f1])) (ce : P.cellsOf e = 2) (o0 : f0.offset = 0) (o1 : f1.offset = 1) (c0 : P.cellsOf f0.type = 1) (c1 : P.cellsOf f1.type = 1)
    (q0 : P.underlying f0.type = some (.int .i64)) (q1 : P.underlying f1.type = some (.int .i64))
    (h : DataW.trod enc P w base (fun _ => true) held fuel t [.slice a len cap] = some x) : ∃ ts, Marks w w.heap.size a len cap ts := by
  rcases open_slice_pairs ht he ce o0 o1 c0 c1 h with ⟨hcs, _⟩ | ⟨y, len', cap', m, n, V0, V1, D0, D1, P0, P1, hcs, _, hl, hm, hmm, _, hrow⟩
  · simp only [List.cons.injEq, Value.slice.injEq, and_true] at hcs
    obtain ⟨rfl, rfl, rfl⟩ := hcs
    exact ⟨[], Marks.nil⟩
  · simp only [List.cons.injEq, Value.slice.injEq, and_true] at hcs
    obtain ⟨rfl, rfl, rfl⟩ := hcs
    simp only [if_true] at hmm
    subst hmm
    have hv : ∀ i, i < len → V0 i = .int .i64 (intOf (V0 i)) ∧ V1 i = .int .i64 (intOf (V1 i)) ∧ (Lit.int .i64 (intOf (V0 i))).wf = true ∧ (Lit.int .i64 (intOf (V1 i))).wf = true := fun i hi => by
      obtain ⟨_, _, h3, h4⟩ := hrow i (by omega)
      obtain ⟨n0, e0, _, w0⟩ := DataW.trod_int q0 h3
      obtain ⟨n1, e1, _, w1⟩ := DataW.trod_int q1 h4
      simp only [List.cons.injEq, and_true] at e0 e1
      rw [e0, e1]
      exact ⟨rfl, rfl, w0, w1⟩
    refine ⟨(List.range len).map fun r => (intOf (V0 r), intOf (V1 r)), by simp, hl, hm, fun hp => ?_, fun z hz => ?_, fun e => by cases e⟩
    · obtain ⟨b, off, spot⟩ := y
      have h0 := (hrow 0 (by omega)).1
      have hspot : spot = none := by simpa [Addr.add] using World.cell?_spot h0
      subst hspot
      have eadd : ∀ j, (Addr.mk b off none).add j = ⟨b, off + j, none⟩ := fun j => by
        unfold Addr.add
        by_cases hj0 : j = 0 <;> simp [hj0]
      refine ⟨b, off, rfl, ?_, fun j l hj => ?_⟩
      · have := World.block_lt_of_cell? w _ h0
        simpa [Addr.add] using this
      · have hjl : j < len := by have := (List.getElem?_eq_some_iff.1 hj).1; simpa using this
        obtain ⟨d1, d2, _, _⟩ := hrow j (by omega)
        obtain ⟨v1, v2, _, _⟩ := hv j hjl
        rw [eadd] at d1 d2
        have e : l = (intOf (V0 j), intOf (V1 j)) := by
          rw [List.getElem?_map, List.getElem?_range hjl] at hj
          simpa using hj.symm
        subst e
        refine ⟨d1.trans (by rw [← v1]), ?_⟩
        rw [Nat.add_assoc]
        exact d2.trans (by rw [← v2])
    · obtain ⟨r, hr, rfl⟩ := List.mem_map.1 hz
      have := hv r (by simpa using hr)
      exact ⟨this.2.2.1, this.2.2.2⟩
end Go.Proofs.Ytffllkmaifjpfab
