/-
  Words, plain lemmas and contracts that belong together, joined into one file.
-/
import Derived.Test.YtoafpokcbbncfaaDoorPlaceS
import Derived.Test.YtoafpokcbbncfaaDoorZrows
import Derived.Test.YtoafpokcbbncfaaDoorZpd
import Derived.Test.YtoafpokcbbncfaaDoorZpb
import Derived.Deep.RegionHeld3
import Derived.Test.YtoafpokcbbncfaaDoorZpl
namespace Go.Proofs.YtoafpokcbbncfaaDoor
open Go.RowKit
set_option linter.unusedVariables false

/-- What toPlace hands back: a place whose two rows the call made. -/
structure PlO (w : World) (base : Nat) (v : Value) (p : Plc) : Prop where
  ex : ∃ g n c g' n' c', v = .agg #[.slice (some ⟨g, 0, none⟩) n c, .int .i64 p.step, .slice (some ⟨g', 0, none⟩) n' c'] ∧ Own w base (.slice (some ⟨g, 0, none⟩) n c) p.start ∧ Own w base (.slice (some ⟨g', 0, none⟩) n' c') p.word ∧ g ≠ g' ∧ (Lit.int .i64 p.step).wf = true
theorem PlO.up {w w' : World} {base : Nat} {v : Value} {p : Plc} (h : PlO w base v p) (hq : Below w.heap.size w w') : PlO w' base v p := by
  obtain ⟨g, n, c, g', n', c', e, h1, h2, h3, h4⟩ := h.ex
  exact ⟨g, n, c, g', n', c', e, h1.up hq, h2.up hq, h3, h4⟩
theorem PlO.plM {w : World} {base : Nat} {v : Value} {p : Plc} (h : PlO w base v p) : PlM w w.heap.size v p := by
  obtain ⟨g, n, c, g', n', c', rfl, h1, h2, h3, h4⟩ := h.ex
  exact plM_mk h1.ints h2.ints h4
theorem PlO.down {w : World} {base base' : Nat} {v : Value} {p : Plc} (h : PlO w base v p) (hb : base' ≤ base) : PlO w base' v p := by
  obtain ⟨g, n, c, g', n', c', e, h1, h2, h3, h4⟩ := h.ex
  exact ⟨g, n, c, g', n', c', e, h1.down hb, h2.down hb, h3, h4⟩
theorem PlO.setLow {w : World} {base : Nat} {v : Value} {p : Plc} (h : PlO w base v p) {a : Addr} (ha : a.block < base) (u : Value) : PlO (w.setCell a u) base v p := by
  obtain ⟨g, n, c, g', n', c', e, h1, h2, h3, h4⟩ := h.ex
  exact ⟨g, n, c, g', n', c', e, h1.setLow ha u, h2.setLow ha u, h3, h4⟩

/-- Whether two places read alike. -/
def sameP (p q : Plc) : Bool := sameL p.start q.start && decide (p.step = q.step) && sameL p.word q.word
theorem sameP_refl (p : Plc) : sameP p p = true := by simp [sameP, sameL_refl]
end Go.Proofs.YtoafpokcbbncfaaDoor

namespace Go.Proofs.YtoafpokcbbncfaaDoor
open Go.RowKit
set_option linter.unusedVariables false

/-- The rows of all places, in order. -/
def rowsP (ps : List Plc) : List (List Int) := ps.flatMap fun p => [p.start, p.word]
/-- The cells of the places whose rows are the slices vs. -/
def cells3 : List Value → List Plc → List Value
  | a :: b :: vs, p :: ps => a :: .int .i64 p.step :: b :: cells3 vs ps
  | _, _ => []
theorem rowsP_cons (p : Plc) (ps : List Plc) : rowsP (p :: ps) = p.start :: p.word :: rowsP ps := by simp [rowsP]
theorem rowsP_len (ps : List Plc) : (rowsP ps).length = 2 * ps.length := by
  induction ps with
  | nil => rfl
  | cons p r ih => rw [rowsP_cons]; simp only [List.length_cons, ih]; omega
theorem rowsP_at {ps : List Plc} {j : Nat} {p : Plc} (h : ps[j]? = some p) : (rowsP ps)[2 * j]? = some p.start ∧ (rowsP ps)[2 * j + 1]? = some p.word := by
  induction ps generalizing j with
  | nil => simp at h
  | cons q r ih =>
    rw [rowsP_cons]
    cases j with
    | zero => simp at h; subst h; exact ⟨rfl, rfl⟩
    | succ j =>
      have := ih (j := j) (by simpa using h)
      rw [show 2 * (j + 1) = 2 * j + 1 + 1 by omega]
      simpa using this
theorem rowsP_set {ps : List Plc} {j : Nat} {q : Plc} (h : j < ps.length) : rowsP (ps.set j q) = ((rowsP ps).set (2 * j) q.start).set (2 * j + 1) q.word := by
  induction ps generalizing j with
  | nil => simp at h
  | cons p r ih =>
    cases j with
    | zero => rw [List.set_cons_zero, rowsP_cons, rowsP_cons]; rfl
    | succ j =>
      rw [List.set_cons_succ, rowsP_cons, rowsP_cons, ih (j := j) (by simpa using h), show 2 * (j + 1) = 2 * j + 1 + 1 by omega]
      rfl
theorem cells3_at {vs : List Value} {ps : List Plc} {j : Nat} {p : Plc} (hl : vs.length = 2 * ps.length) (h : ps[j]? = some p) : ∃ a b, vs[2 * j]? = some a ∧ vs[2 * j + 1]? = some b ∧ (cells3 vs ps)[j * 3]? = some a ∧ (cells3 vs ps)[j * 3 + 1]? = some (.int .i64 p.step) ∧ (cells3 vs ps)[j * 3 + 2]? = some b := by
  induction ps generalizing j vs with
  | nil => simp at h
  | cons q r ih =>
    match vs, hl with
    | a :: b :: vs, hl =>
      cases j with
      | zero => simp at h; subst h; exact ⟨a, b, rfl, rfl, rfl, rfl, rfl⟩
      | succ j =>
        obtain ⟨x, y, h1, h2, h3, h4, h5⟩ := ih (vs := vs) (j := j) (by simp only [List.length_cons] at hl; omega) (by simpa using h)
        refine ⟨x, y, ?_, ?_, ?_, ?_, ?_⟩
        · rw [show 2 * (j + 1) = 2 * j + 1 + 1 by omega]; simpa using h1
        · rw [show 2 * (j + 1) + 1 = 2 * j + 1 + 1 + 1 by omega]; simpa using h2
        · rw [show (j + 1) * 3 = j * 3 + 1 + 1 + 1 by omega]; simpa [cells3] using h3
        · rw [show (j + 1) * 3 + 1 = j * 3 + 1 + 1 + 1 + 1 by omega]; simpa [cells3] using h4
        · rw [show (j + 1) * 3 + 2 = j * 3 + 2 + 1 + 1 + 1 by omega]; simpa [cells3] using h5
theorem cells3_len {vs : List Value} {ps : List Plc} (hl : vs.length = 2 * ps.length) : (cells3 vs ps).length = ps.length * 3 := by
  induction ps generalizing vs with
  | nil => cases vs with
    | nil => rfl
    | cons a r => simp at hl
  | cons q r ih =>
    match vs, hl with
    | a :: b :: vs, hl =>
      simp only [cells3, List.length_cons]
      rw [ih (vs := vs) (by simp only [List.length_cons] at hl; omega)]
      omega
theorem cells3_set {vs : List Value} {ps : List Plc} {j : Nat} {q : Plc} {a b : Value} (hl : vs.length = 2 * ps.length) (h : j < ps.length) :
    (((cells3 vs ps).set (j * 3) a).set (j * 3 + 1) (.int .i64 q.step)).set (j * 3 + 2) b = cells3 ((vs.set (2 * j) a).set (2 * j + 1) b) (ps.set j q) := by
  induction ps generalizing j vs with
  | nil => simp at h
  | cons p r ih =>
    match vs, hl with
    | x :: y :: vs, hl =>
      cases j with
      | zero => rfl
      | succ j =>
        have := ih (vs := vs) (j := j) (by simp only [List.length_cons] at hl; omega) (by simpa using h)
        rw [show (j + 1) * 3 = j * 3 + 1 + 1 + 1 by omega, show 2 * (j + 1) = 2 * j + 1 + 1 by omega]
        simp only [cells3, List.set_cons_succ]
        rw [← this]
/-- A row of places never shares its block with a slice of ints. -/
theorem own_neQ {w : World} {b b' n : Nat} {v u : Value} {xs : List Value} {l : List Int} (h : w.ownsRow b 31 3 v n xs) (k : Own w b' u l) : u.ownBlock = none ∨ u.ownBlock ≠ v.ownBlock := by
  rcases k.row.2 with ⟨rfl, _⟩ | ⟨g, cap, cur, rfl, _, hg, _⟩
  · exact .inl rfl
  · refine .inr fun e => ?_
    rcases h.2 with ⟨rfl, _⟩ | ⟨g', cap', cur', rfl, _, hg', _⟩
    · simp [Value.ownBlock] at e
    · simp [Value.ownBlock] at e
      subst e
      rw [hg] at hg'
      simp at hg'
/-- What the call itself made: the slice v owns just the places ps with their rows. Its own block lies from 'lo' on; the rows' blocks lie from 'lo' on and below 'hi', and no two of them are one. -/
structure OwnQ (w : World) (lo hi : Nat) (v : Value) (ps : List Plc) : Prop where
  ex : ∃ vs : List Value, vs.length = 2 * ps.length ∧ w.ownsRow lo 31 3 v ps.length (cells3 vs ps) ∧
    (∀ (k : Nat) u l, vs[k]? = some u → (rowsP ps)[k]? = some l → Own w lo u l ∧ ∀ g, u.ownBlock = some g → g < hi) ∧
    (∀ (j k : Nat) u u', j < k → vs[j]? = some u → vs[k]? = some u' → u.ownBlock = none ∨ u.ownBlock ≠ u'.ownBlock) ∧
    (∀ p ∈ ps, (Lit.int .i64 p.step).wf = true)
section
variable {w w' : World} {lo hi lo' hi' n c k g j : Nat} {v a b : Value} {A : Option Addr} {ps : List Plc} {q : Plc}
theorem OwnQ.shape (h : OwnQ w lo hi v ps) : (v = .slice none 0 0 ∧ ps = []) ∨ ∃ g c, v = .slice (some ⟨g, 0, none⟩) ps.length c ∧ lo ≤ g ∧ g < w.heap.size := by
  obtain ⟨vs, _, h1, _⟩ := h.ex
  rcases h1.2 with ⟨hv, h0⟩ | ⟨g, cap, cur, hv, hg, hh, _⟩
  · exact .inl ⟨hv, List.eq_nil_of_length_eq_zero h0⟩
  · exact .inr ⟨g, cap, hv, hg, (Array.getElem?_eq_some_iff.1 hh).1⟩
theorem OwnQ.len (h : OwnQ w lo hi (.slice A n c) ps) : n = ps.length := by
  rcases h.shape with ⟨e, rfl⟩ | ⟨g, c', e, _⟩
  · injection e
  · injection e
theorem OwnQ.kept {row : Option Nat} (h : OwnQ w lo hi v ps) (hg : w.grownBy w' row) (hr : ∀ k, row = some k → k < lo ∨ w.heap.size ≤ k) : OwnQ w' lo hi v ps := by
  obtain ⟨vs, h0, h1, h2, h3⟩ := h.ex
  have hf : ∀ u : Value, (∀ k, u.ownBlock = some k → lo ≤ k ∧ k < w.heap.size) → u.ownBlock = none ∨ u.ownBlock ≠ row := fun u hu => by
    cases hk : u.ownBlock with
    | none => exact .inl rfl
    | some k => exact .inr fun e => by have a := hu k hk; have b := hr k e.symm; omega
  exact ⟨vs, h0, h1.kept hg (hf _ h1.lt), fun k u l hu hl => ⟨(h2 k u l hu hl).1.kept hg (hf _ (h2 k u l hu hl).1.row.lt), (h2 k u l hu hl).2⟩, h3⟩
theorem OwnQ.up (h : OwnQ w lo hi v ps) (hq : Below w.heap.size w w') : OwnQ w' lo hi v ps :=
  h.kept (row := none) ⟨hq.os, hq.tape, hq.output, hq.size, fun k hk _ => hq.block k hk⟩ (fun _ e => by cases e)
theorem OwnQ.wide (h : OwnQ w lo hi v ps) (hh : hi ≤ hi') : OwnQ w lo hi' v ps := by
  obtain ⟨vs, h0, h1, h2, h3⟩ := h.ex
  exact ⟨vs, h0, h1, fun k u l hu hl => ⟨(h2 k u l hu hl).1, fun g hg => by have := (h2 k u l hu hl).2 g hg; omega⟩, h3⟩
theorem OwnQ.down (h : OwnQ w lo hi v ps) (hb : lo' ≤ lo) : OwnQ w lo' hi v ps := by
  obtain ⟨vs, h0, h1, h2, h3⟩ := h.ex
  exact ⟨vs, h0, ownsRow_down h1 hb, fun k u l hu hl => ⟨(h2 k u l hu hl).1.down hb, (h2 k u l hu hl).2⟩, h3⟩
theorem OwnQ.psM (h : OwnQ w lo hi (.slice A n c) ps) : PsM w w.heap.size A n c ps := by
  obtain ⟨vs, h0, h1, h2, h3, h4⟩ := h.ex
  rcases h1.2 with ⟨hv, he⟩ | ⟨g, cap, cur, hv, hg, hh, hn, hm, hs, ht⟩
  · injection hv with e1 e2 e3
    subst e1; subst e2; subst e3
    obtain rfl := List.eq_nil_of_length_eq_zero he
    exact PsM.nil
  · injection hv with e1 e2 e3
    subst e1; subst e2; subst e3
    refine ⟨rfl, hn, hm, fun hp => ⟨g, 0, rfl, (Array.getElem?_eq_some_iff.1 hh).1, fun j p hp => ?_⟩, fun e => by cases e⟩
    have hj : j < ps.length := (List.getElem?_eq_some_iff.1 hp).1
    obtain ⟨x, y, e1, e2, e3, e4, e5⟩ := cells3_at h0 hp
    obtain ⟨r1, r2⟩ := rowsP_at hp
    have o1 := (h2 _ _ _ e1 r1).1
    have o2 := (h2 _ _ _ e2 r2).1
    obtain ⟨A1, c1, rfl⟩ := o1.slice
    obtain ⟨A2, c2, rfl⟩ := o2.slice
    have hcl := cells3_len h0
    refine ⟨A1, _, c1, A2, _, c2, ?_, ?_, ?_, o1.ints, o2.ints, h4 p (List.mem_of_getElem? hp)⟩
    · rw [Nat.zero_add, h1.cellAt _ (by omega)]; exact e3
    · rw [Nat.zero_add, h1.cellAt _ (by omega)]; exact e4
    · rw [Nat.zero_add, h1.cellAt _ (by omega)]; exact e5
/-- What a store into the three fields of a place asks. -/
theorem OwnQ.at3 (h : OwnQ w lo hi (.slice A n c) ps) {x : Plc} (hx : ps[j]? = some x) (u s : Value) : ∃ g x0 x1 x2, A = some ⟨g, 0, none⟩ ∧ lo ≤ g ∧ g < w.heap.size ∧ (w.cell? ⟨g, j * 3, none⟩ = some x0 ∧ w.frozen? ⟨g, j * 3, none⟩ = false) ∧ (w.cell? ⟨g, j * 3 + 1, none⟩ = some x1 ∧ w.frozen? ⟨g, j * 3 + 1, none⟩ = false) ∧ (w.cell? ⟨g, j * 3 + 2, none⟩ = some x2 ∧ w.frozen? ⟨g, j * 3 + 2, none⟩ = false) ∧
    ((w.setCell ⟨g, j * 3, none⟩ u).cell? ⟨g, j * 3 + 1, none⟩ = some x1 ∧ (w.setCell ⟨g, j * 3, none⟩ u).frozen? ⟨g, j * 3 + 1, none⟩ = false) ∧ (((w.setCell ⟨g, j * 3, none⟩ u).setCell ⟨g, j * 3 + 1, none⟩ s).cell? ⟨g, j * 3 + 2, none⟩ = some x2 ∧ ((w.setCell ⟨g, j * 3, none⟩ u).setCell ⟨g, j * 3 + 1, none⟩ s).frozen? ⟨g, j * 3 + 2, none⟩ = false) := by
  have hj := (List.getElem?_eq_some_iff.1 hx).1
  have hn := h.len
  subst hn
  obtain ⟨vs, h0, h1, h2, h3, h4⟩ := h.ex
  obtain ⟨x0, x2, _, _, m1, m2, m3⟩ := cells3_at h0 hx
  have hcl := cells3_len h0
  rcases h.shape with ⟨hv, rfl⟩ | ⟨g, c2, hv, hg, hgl⟩
  · simp at hx
  · injection hv with e1 e2 e3
    subst e1; subst e3
    have hs := (h1.stored (j * 3) u).1
    have hs2 := (hs.stored (j * 3 + 1) s).1
    refine ⟨g, x0, .int .i64 x.step, x2, rfl, hg, hgl, ⟨?_, h1.frozenAt _⟩, ⟨?_, h1.frozenAt _⟩, ⟨?_, h1.frozenAt _⟩, ⟨?_, hs.frozenAt _⟩, ⟨?_, hs2.frozenAt _⟩⟩
    · rw [h1.cellAt _ (by omega)]; exact m1
    · rw [h1.cellAt _ (by omega)]; exact m2
    · rw [h1.cellAt _ (by omega)]; exact m3
    · rw [hs.cellAt _ (by omega), List.getElem?_set_ne (by omega)]; exact m2
    · rw [hs2.cellAt _ (by omega), List.getElem?_set_ne (by omega), List.getElem?_set_ne (by omega)]; exact m3
def setP (w : World) (g j : Nat) (a : Value) (s : Int) (b : Value) : World := ((w.setCell ⟨g, j * 3, none⟩ a).setCell ⟨g, j * 3 + 1, none⟩ (.int .i64 s)).setCell ⟨g, j * 3 + 2, none⟩ b
theorem grown_setP (w : World) (g j : Nat) (a : Value) (s : Int) (b : Value) : w.grownBy (setP w g j a s b) (some g) := ((grown_set w g (j * 3) a).trans (grown_set _ g (j * 3 + 1) (.int .i64 s))).trans (grown_set _ g (j * 3 + 2) b)
/-- A fresh place is stored. -/
theorem OwnQ.put (h : OwnQ w lo hi (.slice (some ⟨g, 0, none⟩) n c) ps) (hj : j < ps.length) (ha : Own w hi a q.start) (hb : Own w hi b q.word) (hne : a.ownBlock = none ∨ a.ownBlock ≠ b.ownBlock) (hq : (Lit.int .i64 q.step).wf = true) (hlo : lo ≤ hi) (hs : w.heap.size ≤ hi') (hhi : hi ≤ hi') :
    OwnQ (setP w g j a q.step b) lo hi' (.slice (some ⟨g, 0, none⟩) n c) (ps.set j q) := by
  have hn := h.len
  subst hn
  obtain ⟨vs, h0, h1, h2, h3, h4⟩ := h.ex
  have hgr := grown_setP w g j a q.step b
  have hk : ∀ {u : Value} {l : List Int} {b' : Nat}, Own w b' u l → Own (setP w g j a q.step b) b' u l := fun {u l b'} hu => hu.kept hgr (own_neQ h1 hu)
  have hvl : ((vs.set (2 * j) a).set (2 * j + 1) b).length = 2 * (ps.set j q).length := by simp only [List.length_set]; exact h0
  have hget : ∀ (k : Nat) u, ((vs.set (2 * j) a).set (2 * j + 1) b)[k]? = some u → (k = 2 * j ∧ u = a) ∨ (k = 2 * j + 1 ∧ u = b) ∨ (k ≠ 2 * j ∧ k ≠ 2 * j + 1 ∧ vs[k]? = some u) := fun k u hu => by
    by_cases e1 : k = 2 * j + 1
    · subst e1
      rw [List.getElem?_set_self (by simp only [List.length_set]; omega)] at hu
      injection hu with hu
      exact .inr (.inl ⟨rfl, hu.symm⟩)
    · rw [List.getElem?_set_ne (Ne.symm e1)] at hu
      by_cases e2 : k = 2 * j
      · subst e2
        rw [List.getElem?_set_self (by omega)] at hu
        injection hu with hu
        exact .inl ⟨rfl, hu.symm⟩
      · rw [List.getElem?_set_ne (Ne.symm e2)] at hu
        exact .inr (.inr ⟨e2, e1, hu⟩)
  refine ⟨(vs.set (2 * j) a).set (2 * j + 1) b, hvl, ?_, fun k u l hu hl => ?_, fun i k u u' hik hu hu' => ?_, fun p hp => ?_⟩
  · have := (((h1.stored (j * 3) a).1.stored (j * 3 + 1) (.int .i64 q.step)).1.stored (j * 3 + 2) b).1
    rw [List.length_set, ← cells3_set h0 hj]
    exact this
  · rw [rowsP_set hj] at hl
    rcases hget k u hu with ⟨rfl, rfl⟩ | ⟨rfl, rfl⟩ | ⟨e1, e2, hu⟩
    · rw [List.getElem?_set_ne (by omega), List.getElem?_set_self (by rw [rowsP_len]; omega)] at hl
      injection hl with hl
      subst hl
      exact ⟨hk (ha.down hlo), fun x hx => by have := (ha.row.lt x hx).2; omega⟩
    · rw [List.getElem?_set_self (by rw [List.length_set, rowsP_len]; omega)] at hl
      injection hl with hl
      subst hl
      exact ⟨hk (hb.down hlo), fun x hx => by have := (hb.row.lt x hx).2; omega⟩
    · rw [List.getElem?_set_ne (Ne.symm e2), List.getElem?_set_ne (Ne.symm e1)] at hl
      exact ⟨hk (h2 k u l hu hl).1, fun x hx => by have := (h2 k u l hu hl).2 x hx; omega⟩
  · have hlow : ∀ (k : Nat) u, vs[k]? = some u → ∀ x, u.ownBlock = some x → x < hi := fun k u hu x hx => by
      have hkl : k < (rowsP ps).length := by have := (List.getElem?_eq_some_iff.1 hu).1; rw [rowsP_len]; omega
      exact (h2 k u _ hu (List.getElem?_eq_getElem hkl)).2 x hx
    have hap : ∀ {x y : Value}, (∀ z, x.ownBlock = some z → ∀ t, y.ownBlock = some t → z ≠ t) → x.ownBlock = none ∨ x.ownBlock ≠ y.ownBlock := fun {x y} hxy => by
      cases hz : x.ownBlock with
      | none => exact .inl rfl
      | some z => exact .inr fun e => hxy z hz z e.symm rfl
    rcases hget i u hu with ⟨r1, r3⟩ | ⟨r1, r3⟩ | ⟨r1, r2, r3⟩
    · rcases hget k u' hu' with ⟨s1, s3⟩ | ⟨s1, s3⟩ | ⟨s1, s2, s3⟩
      · omega
      · rw [r3, s3]; exact hne
      · exact hap fun z hz t ht => by rw [r3] at hz; have := (ha.row.lt z hz).1; have := hlow _ _ s3 t ht; omega
    · rcases hget k u' hu' with ⟨s1, s3⟩ | ⟨s1, s3⟩ | ⟨s1, s2, s3⟩
      · omega
      · omega
      · exact hap fun z hz t ht => by rw [r3] at hz; have := (hb.row.lt z hz).1; have := hlow _ _ s3 t ht; omega
    · rcases hget k u' hu' with ⟨s1, s3⟩ | ⟨s1, s3⟩ | ⟨s1, s2, s3⟩
      · exact hap fun z hz t ht => by rw [s3] at ht; have := hlow _ _ r3 z hz; have := (ha.row.lt t ht).1; omega
      · exact hap fun z hz t ht => by rw [s3] at ht; have := hlow _ _ r3 z hz; have := (hb.row.lt t ht).1; omega
      · exact h3 i k u u' hik r3 s3
  · rcases List.mem_or_eq_of_mem_set hp with e | e
    · exact h4 p e
    · rw [e]; exact hq
theorem infoPl : (Tryd.prog.info? 31).map (fun i => (i.zero, i.size, i.bytes)) = some (some (.agg #[.slice none 0 0, .int .i64 0, .slice none 0 0]), 3, 56) := by kernel_rfl
theorem infoPl_parts : ∃ i, Tryd.prog.info? 31 = some i ∧ i.zero = some (.agg #[.slice none 0 0, .int .i64 0, .slice none 0 0]) ∧ i.size = 3 ∧ i.bytes = 56 := info_parts infoPl
theorem cells3_nil (m : Nat) : cells3 (List.replicate (2 * m) (.slice none 0 0)) (List.replicate m noPlc) = (madeCells (Value.agg #[.slice none 0 0, .int .i64 0, .slice none 0 0]).cells (m * 3)).toList := by
  refine List.ext_getElem? fun i => ?_
  have hl : (List.replicate (2 * m) (Value.slice none 0 0)).length = 2 * (List.replicate m noPlc).length := by simp
  have hcl := cells3_len hl
  rw [List.length_replicate] at hcl
  rcases Nat.lt_or_ge i (m * 3) with hi | hi
  · obtain ⟨a, b, e1, e2, e3, e4, e5⟩ := cells3_at (j := i / 3) (p := noPlc) hl (by rw [List.getElem?_replicate, if_pos (by omega)])
    rw [List.getElem?_replicate, if_pos (by omega)] at e1 e2
    injection e1 with e1
    injection e2 with e2
    subst e1; subst e2
    have hm : (madeCells (Value.agg #[.slice none 0 0, .int .i64 0, .slice none 0 0]).cells (m * 3)).toList[i]? = ((#[Value.slice none 0 0, .int .i64 0, .slice none 0 0] : Array Value)[i % 3]?) := by
      simp only [madeCells, Array.toList_map, List.getElem?_map]
      rcases (show i % 3 = 0 ∨ i % 3 = 1 ∨ i % 3 = 2 by omega) with e | e | e <;> simp [Value.cells, e, hi]
    rw [hm]
    rcases (show i % 3 = 0 ∨ i % 3 = 1 ∨ i % 3 = 2 by omega) with e | e | e
    · rw [e, show i = i / 3 * 3 by omega, e3]; rfl
    · rw [e, show i = i / 3 * 3 + 1 by omega, e4]; rfl
    · rw [e, show i = i / 3 * 3 + 2 by omega, e5]; rfl
  · rw [List.getElem?_eq_none (by omega), List.getElem?_eq_none (by simp [madeCells]; omega)]
theorem ownQ_made {h m : Nat} (ho : w.ownsRow h 31 3 (.slice (some ⟨h, 0, none⟩) m m) m (madeCells (Value.agg #[.slice none 0 0, .int .i64 0, .slice none 0 0]).cells (m * 3)).toList) : OwnQ w h hi (.slice (some ⟨h, 0, none⟩) m m) (List.replicate m noPlc) := by
  refine ⟨List.replicate (2 * m) (.slice none 0 0), by simp, by rw [List.length_replicate, cells3_nil]; exact ho, fun k u l hu hl => ?_, fun i k u u' _ hu _ => ?_, fun p hp => ?_⟩
  · have e := List.eq_of_mem_replicate (List.mem_of_getElem? hu)
    subst e
    have hl0 : ∀ (m k : Nat) (l : List Int), (rowsP (List.replicate m noPlc))[k]? = some l → l = [] := fun m => by
      induction m with
      | zero => intro k l h; simp [rowsP] at h
      | succ m ih =>
        intro k l h
        rw [List.replicate_succ, rowsP_cons] at h
        match k, h with
        | 0, h => simp [noPlc] at h; exact h
        | 1, h => simp [noPlc] at h; exact h
        | k + 2, h => exact ih k l (by simpa using h)
    rw [hl0 _ _ _ hl]
    exact ⟨Own.none_, fun g hg => by simp [Value.ownBlock] at hg⟩
  · have e := List.eq_of_mem_replicate (List.mem_of_getElem? hu)
    subst e
    exact .inl rfl
  · rw [List.eq_of_mem_replicate hp]; decide
end
end Go.Proofs.YtoafpokcbbncfaaDoor

namespace Go.Proofs.YtoafpokcbbncfaaDoor
open Go.RowKit
set_option linter.unusedVariables false

def cpyP (ps : List Plc) (k : Nat) : List Plc := ps.take k ++ List.replicate (ps.length - k) noPlc
theorem cpyP_len {ps : List Plc} {k : Nat} (h : k ≤ ps.length) : (cpyP ps k).length = ps.length := by simp [cpyP]; omega
theorem cpyP_zero (ps : List Plc) : cpyP ps 0 = List.replicate ps.length noPlc := by simp [cpyP]
theorem cpyP_all (ps : List Plc) : cpyP ps ps.length = ps := by simp [cpyP]
theorem cpyP_at {ps : List Plc} {k : Nat} (h : k < ps.length) : (cpyP ps k)[k]? = some noPlc := by
  unfold cpyP
  rw [List.getElem?_append_right (by rw [List.length_take]; omega), List.length_take, List.getElem?_replicate, if_pos (by omega)]
theorem cpyP_set {ps : List Plc} {k : Nat} {m : Plc} (h : ps[k]? = some m) : (cpyP ps k).set k m = cpyP ps (k + 1) := by
  have hk := (List.getElem?_eq_some_iff.1 h).1
  unfold cpyP
  rw [List.set_append_right _ _ (by rw [List.length_take]; omega), List.length_take, show k - min k ps.length = 0 by omega, show ps.length - k = (ps.length - (k + 1)) + 1 by omega, List.replicate_succ, List.set_cons_zero, List.take_add_one, h]
  simp
def smallP (p : Plc) : Prop := p.start.length ≤ 1048576 ∧ p.word.length ≤ 1048576

end Go.Proofs.YtoafpokcbbncfaaDoor

namespace Go.Proofs.YtoafpokcbbncfaaDoor
open Go.RowKit
set_option linter.unusedVariables false

/-- What toDesk hands back: a desk all of whose rows the call made. -/
structure DkO (w : World) (lo hi : Nat) (v : Value) (p : Dsk) : Prop where
  ex : ∃ g m d g' m' d' g3 m3 d3, v = .agg #[.slice (some ⟨g, 0, none⟩) m d, .int .i64 p.now.step, .slice (some ⟨g', 0, none⟩) m' d', .slice (some ⟨g3, 0, none⟩) m3 d3] ∧
    Own w lo (.slice (some ⟨g, 0, none⟩) m d) p.now.start ∧ Own w lo (.slice (some ⟨g', 0, none⟩) m' d') p.now.word ∧ g ≠ g' ∧ (Lit.int .i64 p.now.step).wf = true ∧ g < hi ∧ g' < hi ∧ OwnQ w hi w.heap.size (.slice (some ⟨g3, 0, none⟩) m3 d3) p.past ∧ lo ≤ hi
theorem DkO.up {w w' : World} {lo hi : Nat} {v : Value} {p : Dsk} (h : DkO w lo hi v p) (hq : Below w.heap.size w w') : DkO w' lo hi v p := by
  obtain ⟨g, m, d, g', m', d', g3, m3, d3, e, h1, h2, h3, h4, h5, h6, h7, h8⟩ := h.ex
  exact ⟨g, m, d, g', m', d', g3, m3, d3, e, h1.up hq, h2.up hq, h3, h4, h5, h6, (h7.up hq).wide hq.size, h8⟩
theorem DkO.dkM {w : World} {lo hi : Nat} {v : Value} {p : Dsk} (h : DkO w lo hi v p) : DkM w w.heap.size v p := by
  obtain ⟨g, m, d, g', m', d', g3, m3, d3, rfl, h1, h2, h3, h4, h5, h6, h7, h8⟩ := h.ex
  exact ⟨_, _, _, _, _, _, _, _, _, rfl, h1.ints, h2.ints, h4, h7.psM⟩
end Go.Proofs.YtoafpokcbbncfaaDoor
