/-
  Words, plain lemmas and contracts that belong together, joined into one file.
-/
import Derived.Test.YtoafpokcbbncfaaDoorZpl
import Derived.Test.YtoafpokcbbncfaaDoorZdraw
import Derived.Deep.AppendLies
namespace Go.Proofs.YtoafpokcbbncfaaDoor
open Go.RowKit

/-- The slice '.slice A n c' holds rows of ints; all its cells lie in blocks from lo on. -/
structure MatL (w : World) (lo : Nat) (A : Option Addr) (n c : Nat) (rs : List (List Int)) : Prop where
  len : rs.length = n
  le : n ≤ c
  big : c ≤ maxLen
  cells : 0 < n → ∃ b off, A = some ⟨b, off, none⟩ ∧ lo ≤ b ∧ b < w.heap.size ∧ ∀ (j : Nat) l, rs[j]? = some l → ∃ A' n' c', w.cell? ⟨b, off + j, none⟩ = some (.slice A' n' c') ∧ Ints w w.heap.size A' n' c' l ∧ (0 < n' → ∃ b' off', A' = some ⟨b', off', none⟩ ∧ lo ≤ b')
  nil0 : A = none → c = 0

section
variable {w w' : World} {lo hi n c k g : Nat} {A : Option Addr} {v u : Value} {rs : List (List Int)} {l : List Int}
theorem MatL.mat (h : MatL w lo A n c rs) : Mat w w.heap.size A n c rs := ⟨h.len, h.le, h.big, fun hn => by
  obtain ⟨b, off, e, _, hb, hc⟩ := h.cells hn
  refine ⟨b, off, e, hb, fun j l hl => ?_⟩
  obtain ⟨A', n', c', h1, h2, _⟩ := hc j l hl
  exact ⟨A', n', c', h1, h2⟩, h.nil0⟩
theorem Ints.past {zs : List Int} (h : Ints w w.heap.size A n c zs) (hlo : 0 < n → ∃ b' off', A = some ⟨b', off', none⟩ ∧ lo ≤ b') (hg : w.grownBy w' (some g)) (hlt : g < lo) : Ints w' w'.heap.size A n c zs :=
  ⟨h.len, h.le, h.big, fun hn => by
    obtain ⟨b, off, e, hb, hc⟩ := h.cells hn
    obtain ⟨b', off', e', hlb⟩ := hlo hn
    rw [e] at e'
    injection e' with e'
    injection e' with e1 e2
    subst e1; subst e2
    refine ⟨b, off, e, Nat.lt_of_lt_of_le hb hg.size, fun j x hx => ?_⟩
    rw [World.cell?_of_block (hg.block b hb (fun e => by injection e with e; omega))]
    exact hc j x hx, h.wf, h.nil0⟩
theorem MatL.past (h : MatL w lo A n c rs) (hg : w.grownBy w' (some g)) (hlt : g < lo) : MatL w' lo A n c rs :=
  ⟨h.len, h.le, h.big, fun hn => by
    obtain ⟨b, off, e, hlb, hb, hc⟩ := h.cells hn
    refine ⟨b, off, e, hlb, Nat.lt_of_lt_of_le hb hg.size, fun j l hl => ?_⟩
    obtain ⟨A', n', c', h1, h2, h3⟩ := hc j l hl
    refine ⟨A', n', c', ?_, h2.past h3 hg hlt, h3⟩
    rw [World.cell?_of_block (hg.block b hb (fun e => by injection e with e; omega))]
    exact h1, h.nil0⟩
theorem MatL.down {lo' : Nat} (h : MatL w lo A n c rs) (hl : lo' ≤ lo) : MatL w lo' A n c rs :=
  ⟨h.len, h.le, h.big, fun hn => by
    obtain ⟨b, off, e, hlb, hb, hc⟩ := h.cells hn
    refine ⟨b, off, e, by omega, hb, fun j l hl => ?_⟩
    obtain ⟨A', n', c', h1, h2, h3⟩ := hc j l hl
    exact ⟨A', n', c', h1, h2, fun hn => by obtain ⟨b', off', e', h4⟩ := h3 hn; exact ⟨b', off', e', by omega⟩⟩, h.nil0⟩
/-- All rows but the first one. -/
theorem MatL.tail (h : MatL w lo (some ⟨g, k, none⟩) n c rs) (hn : 0 < n) : MatL w lo (some ⟨g, k + 1, none⟩) (n - 1) (c - 1) (rs.drop 1) := by
  refine ⟨by rw [List.length_drop, h.len], by have := h.le; omega, by have := h.big; omega, fun hp => ?_, fun e => by cases e⟩
  obtain ⟨b, off, e, hlb, hb, hc⟩ := h.cells hn
  injection e with e
  injection e with e1 e2
  subst e1; subst e2
  refine ⟨g, k + 1, rfl, hlb, hb, fun j l hl => ?_⟩
  rw [List.getElem?_drop] at hl
  have := hc (1 + j) l hl
  rw [show k + 1 + j = k + (1 + j) by omega]
  exact this
theorem MatL.empty (hc : c ≤ maxLen) (h0 : A = none → c = 0) : MatL w lo A 0 c [] := ⟨rfl, Nat.zero_le _, hc, fun h => absurd h (by omega), h0⟩
/-- A change of a row that the call owns besides the others. -/
theorem OwnM.beside (h : OwnM w lo hi v rs) (hu : Own w hi u l) (hg : w.grownBy w' u.ownBlock) : OwnM w' lo hi v rs := by
  obtain ⟨vs, h1, h2, h3⟩ := h.ex
  have hne := own_ne h1 hu
  refine ⟨vs, h1.kept hg ?_, fun k x m hx hm => ⟨(h2 k x m hx hm).1.kept hg ?_, (h2 k x m hx hm).2⟩, h3⟩
  · rcases hne with e | e
    · rw [e]; cases v.ownBlock <;> simp
    · exact .inr fun e' => e e'.symm
  · cases hk : x.ownBlock with
    | none => exact .inl rfl
    | some j =>
      refine .inr fun e => ?_
      have a := (h2 k x m hx hm).2 j hk
      have b := (hu.row.lt j e.symm).1
      omega
theorem OwnM.lt (h : OwnM w lo hi v rs) : ∀ k, v.ownBlock = some k → lo ≤ k ∧ k < w.heap.size := by
  obtain ⟨vs, h1, _⟩ := h.ex
  exact h1.lt
theorem grown_set (w : World) (g j : Nat) (y : Value) : w.grownBy (w.setCell ⟨g, j, none⟩ y) (some g) := ⟨rfl, rfl, rfl, by simp, fun q _ hq => heap_setCell_other w ⟨g, j, none⟩ q _ (fun e => hq (by simp [e]))⟩
end

theorem cell_new {w : World} {b : Nat} {x : Value} {t : TypeId} (hb : b = w.heap.size) : (w.alloc (.cells #[x] t)).cell? ⟨b, 0, none⟩ = some x := by
  subst hb
  rw [World.cell?_alloc_at _ _ _ _ rfl]; rfl
theorem take_succM {rs : List (List Int)} {k : Nat} {l : List Int} (h : rs[k]? = some l) : rs.take (k + 1) = rs.take k ++ [l] := by
  obtain ⟨hk, rfl⟩ := List.getElem?_eq_some_iff.1 h
  exact List.take_succ_eq_append_getElem hk
section
variable {P : Program} (w : World)
end
end Go.Proofs.YtoafpokcbbncfaaDoor

namespace Go.Proofs.YtoafpokcbbncfaaDoor
open Go.RowKit

theorem infoRow : (Tryd.prog.info? 22).map (fun i => (i.zero, i.size, i.bytes)) = some (some (.slice none 0 0), 1, 24) := by kernel_rfl

/-- The first k rows, and nil for the others. -/
def cpyM (rs : List (List Int)) (k : Nat) : List (List Int) := rs.take k ++ List.replicate (rs.length - k) []
theorem cpyM_zero (rs : List (List Int)) : cpyM rs 0 = List.replicate rs.length [] := by simp [cpyM]
theorem cpyM_all (rs : List (List Int)) : cpyM rs rs.length = rs := by simp [cpyM]
theorem cpyM_len (rs : List (List Int)) (k : Nat) : (cpyM rs k).length = rs.length := by
  simp [cpyM]; omega
theorem cpyM_set (rs : List (List Int)) (k : Nat) (x : List Int) (h : rs[k]? = some x) : (cpyM rs k).set k x = cpyM rs (k + 1) := by
  obtain ⟨hk, rfl⟩ := List.getElem?_eq_some_iff.1 h
  apply List.ext_getElem
  · simp [cpyM]; omega
  · intro j h1 h2
    rw [List.getElem_set]
    split
    · subst_vars; simp [cpyM, List.getElem_append]; omega
    · simp only [cpyM, List.getElem_append, List.length_take, List.getElem_take, List.getElem_replicate]
      split <;> split <;> first | rfl | omega

/-- What a change of the rows that lie in the blocks from lo on and below hi leaves as it was. -/
def KeepM (w w' : World) (lo hi : Nat) : Prop :=
  (∀ (b : Nat) (v : Value) (zs : List Int), Own w b v zs → (∀ k, v.ownBlock = some k → k < lo ∨ hi ≤ k) → Own w' b v zs) ∧ (∀ (B : Nat) (a : World), B ≤ lo → B ≤ w.heap.size → Below B a w → Below B a w') ∧ w.heap.size ≤ w'.heap.size
theorem KeepM.refl (w : World) (lo hi : Nat) : KeepM w w lo hi := ⟨fun _ _ _ h _ => h, fun _ _ _ _ h => h, Nat.le_refl _⟩
theorem KeepM.step {w w1 w2 : World} {lo hi : Nat} {u : Value} (h : KeepM w w1 lo hi) (hg : w1.grownBy w2 u.ownBlock) (hu : ∀ k, u.ownBlock = some k → lo ≤ k ∧ k < hi) : KeepM w w2 lo hi :=
  ⟨fun b v zs ho hv => (h.1 b v zs ho hv).kept hg (by
    cases hk : v.ownBlock with
    | none => exact .inl rfl
    | some j =>
      refine .inr fun e => ?_
      have a := hv j hk
      have b := hu j e.symm
      omega), fun B a hB hs hb => (h.2.1 B a hB hs hb).grown hg (Nat.le_trans hs h.2.2) (fun k hk => by have := hu k hk; omega), Nat.le_trans h.2.2 hg.size⟩

end Go.Proofs.YtoafpokcbbncfaaDoor
