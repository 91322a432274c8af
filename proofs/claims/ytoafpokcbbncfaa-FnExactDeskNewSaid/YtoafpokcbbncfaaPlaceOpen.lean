/-
  From the frame's own word for an argument that is a place, a slice of places or a desk to 'PlM', 'PsM', 'DkM'.
-/
import Derived.Test.YtoafpokcbbncfaaPlaceM
import Derived.Deep.Slices
import Derived.ChangeArms
import Derived.ChangeSame
import Derived.OpenShut
import Derived.ProofKit
namespace Go.Proofs.Ytoafpokcbbncfaa
open Go Go.RowKit Go.Deep Go.ChangeShapes Go.WideShapes

/-- The type t is a struct of a row of ints, an int, and a row of ints. -/
structure IsPl (P : Program) (t : TypeId) : Prop where
  ex : ∃ (f0 f1 f2 : Field) (i : TypeId), P.underlying t = some (.struct #[f0, f1, f2]) ∧ P.cellsOf t = 3 ∧ (f0.offset = 0 ∧ f1.offset = 1 ∧ f2.offset = 2) ∧ (P.cellsOf f0.type = 1 ∧ P.cellsOf f1.type = 1 ∧ P.cellsOf f2.type = 1) ∧
    P.underlying f0.type = some (.slice i) ∧ P.underlying f1.type = some (.int .i64) ∧ P.underlying f2.type = some (.slice i) ∧ P.underlying i = some (.int .i64) ∧ P.cellsOf i = 1
/-- The type t is a struct of a place and a slice of places. -/
structure IsDk (P : Program) (t : TypeId) : Prop where
  ex : ∃ (g0 g1 : Field) (e : TypeId), P.underlying t = some (.struct #[g0, g1]) ∧ P.cellsOf t = 4 ∧ (g0.offset = 0 ∧ g1.offset = 3) ∧ (P.cellsOf g0.type = 3 ∧ P.cellsOf g1.type = 1) ∧ IsPl P g0.type ∧ P.underlying g1.type = some (.slice e) ∧ IsPl P e
section
variable {H : Type} {enc : TypeId × Value → H} {P : Program} {w : World} {base : Nat} {held : Bool}
theorem ints_trod {t e : TypeId} {fuel : Nat} {cs : List Value} {x : DataW H × List MemPlace} (ht : P.underlying t = some (.slice e)) (he : P.underlying e = some (.int .i64)) (hc : P.cellsOf e = 1)
    (h : DataW.trod enc P w base (fun _ => true) held fuel t cs = some x) : ∃ A n c zs, cs = [.slice A n c] ∧ Ints w w.heap.size A n c zs := by
  rcases open_ints ht he hc h with ⟨hcs, _⟩ | ⟨a, l, c, zs, hcs, _, hl, hm, hz, _, hcell, hwz⟩
  · exact ⟨none, 0, 0, [], hcs, Ints.nil⟩
  · exact ⟨some a, l, c, zs.take l, hcs, ints_of (.inr ⟨a, rfl, hl, hm, by simpa using hz, hcell, hwz⟩)⟩
theorem place_trod {t : TypeId} {fuel : Nat} {cs : List Value} {x : DataW H × List MemPlace} (ht : IsPl P t) (h : DataW.trod enc P w base (fun _ => true) held fuel t cs = some x) :
    ∃ (p : Plc) (A : Option Addr) (n c : Nat) (A' : Option Addr) (n' c' : Nat), cs = [.slice A n c, .int .i64 p.step, .slice A' n' c'] ∧ Ints w w.heap.size A n c p.start ∧ Ints w w.heap.size A' n' c' p.word ∧ (Lit.int .i64 p.step).wf = true := by
  obtain ⟨f0, f1, f2, i, hs, hC, ⟨o0, o1, o2⟩, ⟨c0, c1, c2⟩, q0, q1, q2, qi, ci⟩ := ht.ex
  obtain ⟨xs, k, hk, hxy, hl, hxl, hf⟩ := DataW.trod_struct hs h
  rw [hC] at hl
  match xs, hxl, cs, hl with
  | [y0, y1, y2], _, [v0, v1, v2], _ =>
    have g0 := hf 0 f0 rfl
    have g1 := hf 1 f1 rfl
    have g2 := hf 2 f2 rfl
    simp [o0, o1, o2, c0, c1, c2] at g0 g1 g2
    obtain ⟨A, n, c, zs, e0, h0⟩ := ints_trod q0 qi ci g0
    obtain ⟨m, e1, _, hw⟩ := DataW.trod_int q1 g1
    obtain ⟨A', n', c', zs', e2, h2⟩ := ints_trod q2 qi ci g2
    simp only [List.cons.injEq, and_true] at e0 e1 e2
    subst e0; subst e1; subst e2
    exact ⟨⟨zs, m, zs'⟩, A, n, c, A', n', c', rfl, h0, h2, hw⟩
theorem places_trod {t e : TypeId} {fuel : Nat} {cs : List Value} {x : DataW H × List MemPlace} (ht : P.underlying t = some (.slice e)) (he : IsPl P e)
    (h : DataW.trod enc P w base (fun _ => true) held fuel t cs = some x) : ∃ A n c ps, cs = [.slice A n c] ∧ PsM w w.heap.size A n c ps := by
  have ce : P.cellsOf e = 3 := by obtain ⟨_, _, _, _, _, h, _⟩ := he.ex; exact h
  rcases open_slice ht h with ⟨hcs, _⟩ | ⟨y, len, cap, m, n, D, Pl, hcs, _, hl, hm, hmm, _, hx⟩
  · exact ⟨none, 0, 0, [], hcs, PsM.nil⟩
  · simp only [if_true] at hmm
    refine ⟨some y, len, cap, ?_⟩
    have each : ∀ i, i < len → ∃ d : Plc, ∃ A n c A' n' c', w.cell? (y.add (i * 3)) = some (.slice A n c) ∧ w.cell? (y.add (i * 3 + 1)) = some (.int .i64 d.step) ∧ w.cell? (y.add (i * 3 + 2)) = some (.slice A' n' c') ∧ Ints w w.heap.size A n c d.start ∧ Ints w w.heap.size A' n' c' d.word ∧ (Lit.int .i64 d.step).wf = true := by
      intro i hi
      obtain ⟨cs', h1, h2⟩ := hx i (by omega)
      rw [ce] at h1
      obtain ⟨_, hlen, hcell⟩ := World.cells?_some h1
      obtain ⟨p, A, n, c, A', n', c', e, i1, i2, hw⟩ := place_trod he h2
      subst e
      have e0 := hcell 0 (by omega)
      have e1 := hcell 1 (by omega)
      have e2 := hcell 2 (by omega)
      rw [add_add] at e0 e1 e2
      exact ⟨p, A, n, c, A', n', c', by simpa using e0, by simpa using e1, by simpa using e2, i1, i2, hw⟩
    have inh : Inhabited Plc := ⟨noPlc⟩
    obtain ⟨f, hf⟩ := choose_lt each
    refine ⟨(List.range len).map f, hcs, by simp, hl, hm, fun hp => ?_, fun e => by cases e⟩
    obtain ⟨b, off, spot⟩ := y
    obtain ⟨_, _, _, _, _, _, h0, _⟩ := hf 0 hp
    have hspot : spot = none := by simpa [Addr.add] using World.cell?_spot h0
    subst hspot
    have eadd : ∀ j, (Addr.mk b off none).add j = ⟨b, off + j, none⟩ := fun j => by
      unfold Addr.add
      by_cases hj0 : j = 0 <;> simp [hj0]
    refine ⟨b, off, rfl, ?_, fun j l hj => ?_⟩
    · have := World.block_lt_of_cell? w _ h0
      simpa [Addr.add] using this
    · have hjl : j < len := by have := (List.getElem?_eq_some_iff.1 hj).1; simpa using this
      obtain ⟨A, n, c, A', n', c', d1, d2, d3, d4⟩ := hf j hjl
      rw [eadd] at d1 d2 d3
      have e : l = f j := by
        rw [List.getElem?_map, List.getElem?_range hjl] at hj
        simpa using hj.symm
      subst e
      exact ⟨A, n, c, A', n', c', d1, by rw [Nat.add_assoc]; exact d2, by rw [Nat.add_assoc]; exact d3, d4⟩
theorem place_open {r : Reach} {b0 : Nat} {t : TypeId} {v : Value} {d : DataW H} {q : List MemPlace} (ht : IsPl P t) (hv : Value.okWide P w r b0 t v) (h : DataW.Trod enc P w base (fun _ => true) held t v d q) : ∃ p, PlM w w.heap.size v p := by
  obtain ⟨f0, f1, f2, i, hs, hC, _⟩ := ht.ex
  obtain ⟨cs, rfl, hsz⟩ := okWide_struct hs hv
  obtain ⟨fuel, hf⟩ := h
  obtain ⟨p, A, n, c, A', n', c', e, h1, h2, h3⟩ := place_trod ht hf
  have e2 : cs = #[.slice A n c, .int .i64 p.step, .slice A' n' c'] := by
    apply Array.toList_inj.1
    simpa [Value.cells] using e
  rw [e2]
  exact ⟨p, plM_mk h1 h2 h3⟩
theorem desk_open {r : Reach} {b0 : Nat} {t : TypeId} {v : Value} {d : DataW H} {q : List MemPlace} (ht : IsDk P t) (hv : Value.okWide P w r b0 t v) (h : DataW.Trod enc P w base (fun _ => true) held t v d q) : ∃ p, DkM w w.heap.size v p := by
  obtain ⟨g0, g1, e, hs, hC, ⟨o0, o1⟩, ⟨c0, c1⟩, hp, hsl, he⟩ := ht.ex
  obtain ⟨cs, rfl, hsz⟩ := okWide_struct hs hv
  obtain ⟨fuel, hf⟩ := h
  obtain ⟨y0, y1, n, _, hl, h0, h1⟩ := trod_struct2 hs hf
  rw [o0, c0] at h0
  rw [o1, c1] at h1
  obtain ⟨p, A, n, c, A', n', c', e, i1, i2, i3⟩ := place_trod hp h0
  obtain ⟨A3, n3, c3, ps, e3, i4⟩ := places_trod hsl he h1
  have e2 : cs = #[.slice A n c, .int .i64 p.step, .slice A' n' c', .slice A3 n3 c3] := by
    apply Array.toList_inj.1
    have hl4 : cs.toList.length = 4 := by rw [Array.length_toList, hsz, hC]
    have e' : cs.toList.take 3 = [.slice A n c, .int .i64 p.step, .slice A' n' c'] := by simpa [Value.cells] using e
    have e3' : (cs.toList.drop 3).take 1 = [.slice A3 n3 c3] := by simpa [Value.cells] using e3
    match cs.toList, hl4, e', e3' with
    | [a, b, c, d], _, e', e3' =>
      simp at e' e3'
      obtain ⟨rfl, rfl, rfl⟩ := e'
      subst e3'
      rfl
  rw [e2]
  exact ⟨⟨p, ps⟩, A, n, c, A', n', c', A3, n3, c3, rfl, i1, i2, i3, i4⟩
end
end Go.Proofs.Ytoafpokcbbncfaa
