/-
  From the frame's own word for an argument that is a slice of structs of three ints to 'DdM'.
-/
import Derived.Test.YtoafpokcbbncfaaDoorZpd
import Derived.Deep.Slices
import Derived.ChangeArms
import Derived.ChangeSame
namespace Go.Proofs.YtoafpokcbbncfaaDoor
open Go.RowKit Go.Deep

theorem deeds_open {H : Type} {enc : TypeId × Value → H} {P : Program} {w : World} {base : Nat} {held : Bool} {t e : TypeId} {f0 f1 f2 : Field} {fuel : Nat} {a : Option Addr} {len cap : Nat} {x : DataW H × List MemPlace}
    (ht : P.underlying t = some (.slice e)) (he : P.underlying e = some (.struct #[f0, f1, f2])) (ce : P.cellsOf e = 3) (o0 : f0.offset = 0) (o1 : f1.offset = 1) (o2 : f2.offset = 2) (c0 : P.cellsOf f0.type = 1) (c1 : P.cellsOf f1.type = 1) (c2 : P.cellsOf f2.type = 1)
    (q0 : P.underlying f0.type = some (.int .i64)) (q1 : P.underlying f1.type = some (.int .i64)) (q2 : P.underlying f2.type = some (.int .i64))
    (h : DataW.trod enc P w base (fun _ => true) held fuel t [.slice a len cap] = some x) : ∃ ds, DdM w w.heap.size a len cap ds := by
  rcases open_slice ht h with ⟨hcs, _⟩ | ⟨y, len', cap', m, n, D, Pl, hcs, _, hl, hm, hmm, _, hx⟩
  · simp only [List.cons.injEq, Value.slice.injEq, and_true] at hcs
    obtain ⟨rfl, rfl, rfl⟩ := hcs
    exact ⟨[], DdM.nil⟩
  · simp only [List.cons.injEq, Value.slice.injEq, and_true] at hcs
    obtain ⟨rfl, rfl, rfl⟩ := hcs
    simp only [if_true] at hmm
    subst hmm
    have each : ∀ i, i < len → ∃ d : Ded, w.cell? (y.add (i * 3)) = some (.int .i64 d.k) ∧ w.cell? (y.add (i * 3 + 1)) = some (.int .i64 d.a) ∧ w.cell? (y.add (i * 3 + 2)) = some (.int .i64 d.b) ∧ wfD d := by
      intro i hi
      obtain ⟨cs', h1, h2⟩ := hx i (by omega)
      rw [ce] at h1
      obtain ⟨_, hlen, hcell⟩ := World.cells?_some h1
      obtain ⟨xs, k, hk, hxy, _, hxl, hf⟩ := DataW.trod_struct he h2
      match xs, hxl, cs', hlen with
      | [y0, y1, y2], _, [v0, v1, v2], _ =>
        have g0 := hf 0 f0 rfl
        have g1 := hf 1 f1 rfl
        have g2 := hf 2 f2 rfl
        simp [o0, o1, o2, c0, c1, c2] at g0 g1 g2
        have e0 := hcell 0 (by omega)
        have e1 := hcell 1 (by omega)
        have e2 := hcell 2 (by omega)
        rw [add_add] at e0 e1 e2
        obtain ⟨n0, r0, _, w0⟩ := DataW.trod_int q0 g0
        obtain ⟨n1, r1, _, w1⟩ := DataW.trod_int q1 g1
        obtain ⟨n2, r2, _, w2⟩ := DataW.trod_int q2 g2
        simp only [List.cons.injEq, and_true] at r0 r1 r2
        subst r0; subst r1; subst r2
        exact ⟨⟨n0, n1, n2⟩, by simpa using e0, by simpa using e1, by simpa using e2, w0, w1, w2⟩
    have inh : Inhabited Ded := ⟨noDed⟩
    obtain ⟨f, hf⟩ := choose_lt each
    refine ⟨(List.range len).map f, by simp, hl, hm, fun hp => ?_, fun z hz => ?_, fun e => by cases e⟩
    · obtain ⟨b, off, spot⟩ := y
      have h0 := (hf 0 hp).1
      have hspot : spot = none := by simpa [Addr.add] using World.cell?_spot h0
      subst hspot
      have eadd : ∀ j, (Addr.mk b off none).add j = ⟨b, off + j, none⟩ := fun j => by
        unfold Addr.add
        by_cases hj0 : j = 0 <;> simp [hj0]
      refine ⟨b, off, rfl, ?_, fun j l hj => ?_⟩
      · have := World.block_lt_of_cell? w _ h0
        simpa [Addr.add] using this
      · have hjl : j < len := by have := (List.getElem?_eq_some_iff.1 hj).1; simpa using this
        obtain ⟨d1, d2, d3, _⟩ := hf j hjl
        rw [eadd] at d1 d2 d3
        have e : l = f j := by
          rw [List.getElem?_map, List.getElem?_range hjl] at hj
          simpa using hj.symm
        subst e
        exact ⟨d1, by rw [Nat.add_assoc]; exact d2, by rw [Nat.add_assoc]; exact d3⟩
    · obtain ⟨r, hr, rfl⟩ := List.mem_map.1 hz
      exact (hf r (by simpa using hr)).2.2.2
end Go.Proofs.YtoafpokcbbncfaaDoor
