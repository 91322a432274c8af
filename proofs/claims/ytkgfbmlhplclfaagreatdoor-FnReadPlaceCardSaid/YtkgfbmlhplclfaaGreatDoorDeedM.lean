/-
  Words for slices of deeds: what such a slice reads as; slices of deeds that the call itself made.
-/
import Derived.Test.YtkgfbmlhplclfaaGreatDoorPlainAJ
import Derived.Test.YtkgfbmlhplclfaaGreatDoorPush
namespace Go.Proofs.YtkgfbmlhplclfaaGreatDoor
open Go.RowKit
set_option linter.unusedVariables false

def wfD (d : Ded) : Prop := (Lit.int .i64 d.k).wf = true ∧ (Lit.int .i64 d.a).wf = true ∧ (Lit.int .i64 d.b).wf = true
/-- The slice '.slice A n c' holds the deeds ds; its cells lie below block B. -/
structure DdM (w : World) (B : Nat) (A : Option Addr) (n c : Nat) (ds : List Ded) : Prop where
  len : ds.length = n
  le : n ≤ c
  big : c ≤ maxLen
  cells : 0 < n → ∃ b off, A = some ⟨b, off, none⟩ ∧ b < B ∧ ∀ j x, ds[j]? = some x → w.cell? ⟨b, off + j * 3, none⟩ = some (.int .i64 x.k) ∧ w.cell? ⟨b, off + j * 3 + 1, none⟩ = some (.int .i64 x.a) ∧ w.cell? ⟨b, off + j * 3 + 2, none⟩ = some (.int .i64 x.b)
  wf : ∀ x ∈ ds, wfD x
  nil0 : A = none → c = 0
section
variable {w w' : World} {B B' n c k : Nat} {A : Option Addr} {ds : List Ded}
theorem DdM.look (h : DdM w B A n c ds) (hk : k < n) : ∃ b off x, A = some ⟨b, off, none⟩ ∧ b < B ∧ Hid (ds[k]? = some x) ∧ w.cell? ⟨b, off + k * 3, none⟩ = some (.int .i64 x.k) ∧ w.cell? ⟨b, off + k * 3 + 1, none⟩ = some (.int .i64 x.a) ∧ w.cell? ⟨b, off + k * 3 + 2, none⟩ = some (.int .i64 x.b) := by
  obtain ⟨b, off, e, hb, hc⟩ := h.cells (by omega)
  have hl : k < ds.length := by have := h.len; omega
  obtain ⟨h1, h2, h3⟩ := hc k _ (List.getElem?_eq_getElem hl)
  exact ⟨b, off, ds[k], e, hb, hide (List.getElem?_eq_getElem hl), h1, h2, h3⟩
theorem DdM.nb (h : DdM w B A n c ds) : n ≤ 9223372036854775807 := by have := h.le; have := h.big; unfold maxLen at this; omega
theorem DdM.keep (h : DdM w B A n c ds) (hk : ∀ p : Addr, p.block < B → w'.cell? p = w.cell? p) : DdM w' B A n c ds :=
  ⟨h.len, h.le, h.big, fun hn => by
    obtain ⟨b, off, e, hb, hc⟩ := h.cells hn
    exact ⟨b, off, e, hb, fun j x hx => ⟨(hk _ hb).trans (hc j x hx).1, (hk _ hb).trans (hc j x hx).2.1, (hk _ hb).trans (hc j x hx).2.2⟩⟩, h.wf, h.nil0⟩
theorem DdM.more (h : DdM w B A n c ds) (hB : B ≤ B') : DdM w B' A n c ds :=
  ⟨h.len, h.le, h.big, fun hn => by
    obtain ⟨b, off, e, hb, hc⟩ := h.cells hn
    exact ⟨b, off, e, by omega, hc⟩, h.wf, h.nil0⟩
theorem DdM.below (h : DdM w B A n c ds) (hb : Below B w w') : DdM w' B A n c ds := h.keep fun _ hp => hb.cell hp
theorem DdM.up (h : DdM w w.heap.size A n c ds) (hq : Below w.heap.size w w') : DdM w' w'.heap.size A n c ds := (h.below hq).more hq.size
theorem DdM.nil : DdM w B none 0 0 [] := ⟨rfl, Nat.le_refl _, Nat.zero_le _, fun h => absurd h (by omega), (fun _ h => by cases h), fun _ => rfl⟩
theorem DdM.takeS {h : Nat} (hz : DdM w B A n c ds) (hh : h ≤ n) : DdM w B A h c (ds.take h) :=
  ⟨by rw [List.length_take, hz.len]; omega, Nat.le_trans hh hz.le, hz.big, fun hp => by
    obtain ⟨b, off, e, hb, hc⟩ := hz.cells (by omega)
    refine ⟨b, off, e, hb, fun j x hx => hc j x ?_⟩
    have hj : j < h := by
      have := (List.getElem?_eq_some_iff.1 hx).1
      rw [List.length_take] at this; omega
    rwa [List.getElem?_take_of_lt hj] at hx, fun x hx => hz.wf x (List.mem_of_mem_take hx), hz.nil0⟩
end

def ddC : List Ded → List Value
  | [] => []
  | x :: r => .int .i64 x.k :: .int .i64 x.a :: .int .i64 x.b :: ddC r
theorem ddC_len (ds : List Ded) : (ddC ds).length = ds.length * 3 := by
  induction ds with
  | nil => rfl
  | cons x r ih => simp only [ddC, List.length_cons, ih]; omega
theorem ddC_append (a b : List Ded) : ddC (a ++ b) = ddC a ++ ddC b := by
  induction a with
  | nil => rfl
  | cons x r ih => simp only [List.cons_append, ddC, ih]
theorem ddC_at {ds : List Ded} {j : Nat} {x : Ded} (h : ds[j]? = some x) : (ddC ds)[j * 3]? = some (.int .i64 x.k) ∧ (ddC ds)[j * 3 + 1]? = some (.int .i64 x.a) ∧ (ddC ds)[j * 3 + 2]? = some (.int .i64 x.b) := by
  induction ds generalizing j with
  | nil => simp at h
  | cons y r ih =>
    cases j with
    | zero =>
      simp only [List.getElem?_cons_zero, Option.some.injEq] at h
      subst h
      exact ⟨rfl, rfl, rfl⟩
    | succ j =>
      rw [List.getElem?_cons_succ] at h
      rw [show (j + 1) * 3 = j * 3 + 1 + 1 + 1 by omega]
      simp only [ddC, List.getElem?_cons_succ]
      exact ih h
theorem ddC_one (ds : List Ded) : ∀ u ∈ ddC ds, u.oneCell' = true := by
  induction ds with
  | nil => intro u hu; cases hu
  | cons x r ih =>
    intro u hu
    simp only [ddC, List.mem_cons] at hu
    rcases hu with rfl | rfl | rfl | hu
    · rfl
    · rfl
    · rfl
    · exact ih u hu
section
variable {w w' : World} {base n c : Nat} {A : Option Addr} {ds : List Ded} {v : Value}
theorem wfD_small {d : Ded} (h : deedB d = true) : wfD d := by
  obtain ⟨ha, hb, hk⟩ := deedB_yes h
  exact ⟨wf_i64 (by omega), wf_i64 (by omega), wf_i64 (by omega)⟩
end
end Go.Proofs.YtkgfbmlhplclfaaGreatDoor
