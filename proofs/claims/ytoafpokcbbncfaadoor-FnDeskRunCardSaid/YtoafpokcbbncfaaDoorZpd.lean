/-
  Words, plain lemmas and contracts that belong together, joined into one file.
-/
import Derived.Test.YtoafpokcbbncfaaDoorZdraw
import Derived.Test.YtoafpokcbbncfaaDoorZpb
import Derived.Test.YtoafpokcbbncfaaDoorZpl
import Derived.Laws.AppendOwn
namespace Go.Proofs.YtoafpokcbbncfaaDoor
open Go.RowKit
set_option linter.unusedVariables false

theorem row_shape {w : World} {base n size : Nat} {e : TypeId} {v : Value} {xs : List Value} (h : w.ownsRow base e size v n xs) : (v = .slice none 0 0 ∧ n = 0) ∨ ∃ g c, v = .slice (some ⟨g, 0, none⟩) n c ∧ base ≤ g ∧ g < w.heap.size ∧ n ≤ c ∧ c ≤ maxLen := by
  rcases h.2 with hn | ⟨g, cap, cur, hv, hg, hh, hn, hm, _⟩
  · exact .inl hn
  · exact .inr ⟨g, cap, hv, hg, (Array.getElem?_eq_some_iff.1 hh).1, hn, hm⟩
theorem row_slice {w : World} {base n size : Nat} {e : TypeId} {v : Value} {xs : List Value} (h : w.ownsRow base e size v n xs) : ∃ A c, v = .slice A n c := by
  rcases row_shape h with ⟨rfl, rfl⟩ | ⟨g, c, rfl, _⟩
  · exact ⟨_, _, rfl⟩
  · exact ⟨_, _, rfl⟩

section
variable {P : Program} (w : World)
theorem wp_push {o : Oper} {a : Act} {K : Act → World → Prop} {Q : Exit → Act → World → Prop} (s x : Operand) (t : TypeId)
    (ho : o.op = .call { callee := .builtin .append, args := #[s, x], argTypes := #[t, t] })
    (base : Nat) (e : TypeId) (i : TypeInfo) (z : Value) (size bytes : Nat) (ht : P.underlying t = some (.slice e)) (hi : P.info? e = some i) (hz : i.zero = some z) (hsize : i.size = size) (hby : i.bytes = bytes) (hzs : z.cells.size = size) (hsz : 0 < size) (hb100 : bytes ≤ 100)
    (v : Value) (n : Nat) (xs : List Value) (hs : a.eval s = v) (hown : w.ownsRow base e size v n xs) (g c : Nat) (us : List Value) (hx : a.eval x = .slice (some ⟨g, 0, none⟩) 1 c) (hus : us.length = size) (hc : ∀ j u, us[j]? = some u → w.cell? ⟨g, j, none⟩ = some u) (h1 : ∀ u ∈ us, u.oneCell' = true)
    (hn : n ≤ 1048576000) (hbase : base ≤ w.heap.size)
    (h : ∀ A' c' w', w'.ownsRow base e size (.slice A' (n + 1) c') (n + 1) (xs ++ us) → w.grownBy w' v.ownBlock → K (a.put o.dst (.slice A' (n + 1) c')) w') : o.wp P a w K Q := by
  refine wp_append_own w s x t ho base e i z size bytes ht hi hz hsize hby hzs hsz v n xs hs hown ⟨g, 0, none⟩ 1 c us hx (by omega) (fun j u hu => ?_) h1 (by unfold maxLen; omega) ?_ hbase fun v' w' hr hg _ => ?_
  · have := hc j u hu
    unfold Addr.add
    by_cases hj0 : j = 0
    · subst hj0; simpa using this
    · simpa [hj0] using this
  · exact Nat.le_trans (Nat.mul_le_mul (show n + 1 ≤ 1048576001 by omega) hb100) (by decide)
  · obtain ⟨A', c', rfl⟩ := row_slice hr
    exact h A' c' w' hr hg
theorem wpList_push {ops : Array Oper} {rest : List Oper} {o : Oper} {a : Act} {Q : Exit → Act → World → Prop} (hgd : o.guard = none) (s x : Operand) (t : TypeId)
    (ho : o.op = .call { callee := .builtin .append, args := #[s, x], argTypes := #[t, t] })
    (base : Nat) (e : TypeId) (i : TypeInfo) (z : Value) (size bytes : Nat) (ht : P.underlying t = some (.slice e)) (hi : P.info? e = some i) (hz : i.zero = some z) (hsize : i.size = size) (hby : i.bytes = bytes) (hzs : z.cells.size = size) (hsz : 0 < size) (hb100 : bytes ≤ 100)
    (v : Value) (n : Nat) (xs : List Value) (hs : a.eval s = v) (hown : w.ownsRow base e size v n xs) (g c : Nat) (us : List Value) (hx : a.eval x = .slice (some ⟨g, 0, none⟩) 1 c) (hus : us.length = size) (hc : ∀ j u, us[j]? = some u → w.cell? ⟨g, j, none⟩ = some u) (h1 : ∀ u ∈ us, u.oneCell' = true)
    (hn : n ≤ 1048576000) (hbase : base ≤ w.heap.size)
    (h : ∀ A' c' w', w'.ownsRow base e size (.slice A' (n + 1) c') (n + 1) (xs ++ us) → w.grownBy w' v.ownBlock → wpList P ops Q rest (a.put o.dst (.slice A' (n + 1) c')) w') : wpList P ops Q (o :: rest) a w :=
  wpList_plain hgd fun _ hK => wp_push w s x t ho base e i z size bytes ht hi hz hsize hby hzs hsz hb100 v n xs hs hown g c us hx hus hc h1 hn hbase fun A' c' w' h2 h3 => hK _ _ (h A' c' w' h2 h3)
theorem step_push {ops : Array Oper} {o : Oper} {a : Act} {K : Act → World → Prop} {Q : Exit → Act → World → Prop} {E : Prop} (hgd : o.guard = none) (s x : Operand) (t : TypeId)
    (ho : o.op = .call { callee := .builtin .append, args := #[s, x], argTypes := #[t, t] })
    (base : Nat) (e : TypeId) (i : TypeInfo) (z : Value) (size bytes : Nat) (ht : P.underlying t = some (.slice e)) (hi : P.info? e = some i) (hz : i.zero = some z) (hsize : i.size = size) (hby : i.bytes = bytes) (hzs : z.cells.size = size) (hsz : 0 < size) (hb100 : bytes ≤ 100)
    (v : Value) (n : Nat) (xs : List Value) (hs : a.eval s = v) (hown : w.ownsRow base e size v n xs) (g c : Nat) (us : List Value) (hx : a.eval x = .slice (some ⟨g, 0, none⟩) 1 c) (hus : us.length = size) (hc : ∀ j u, us[j]? = some u → w.cell? ⟨g, j, none⟩ = some u) (h1 : ∀ u ∈ us, u.oneCell' = true)
    (hn : n ≤ 1048576000) (hbase : base ≤ w.heap.size)
    (h : ∀ A' c' w', w'.ownsRow base e size (.slice A' (n + 1) c') (n + 1) (xs ++ us) → w.grownBy w' v.ownBlock → K (a.put o.dst (.slice A' (n + 1) c')) w') :
    if Region.wanted o (yielded ops a.tmps) = true then Oper.wp P o a w K Q else E := by
  have hw : Region.wanted o (yielded ops a.tmps) = true := by simp [Region.wanted, hgd]
  rw [if_pos hw]
  exact wp_push w s x t ho base e i z size bytes ht hi hz hsize hby hzs hsz hb100 v n xs hs hown g c us hx hus hc h1 hn hbase h
end

/-- The cells of a literal, as a push reads them. -/
theorem lit_cells (w : World) (us : List Value) (T : TypeId) : ∀ j u, us[j]? = some u → (w.alloc (.cells us.toArray T)).cell? ⟨w.heap.size, j, none⟩ = some u := by
  intro j u hu
  rw [World.cell?_alloc_at _ _ _ _ rfl]
  simpa using hu
theorem lit_cellsAt (w : World) (us : List Value) (T : TypeId) (g : Nat) (hg : g = w.heap.size) : ∀ j u, us[j]? = some u → (w.alloc (.cells us.toArray T)).cell? ⟨g, j, none⟩ = some u := by subst hg; exact lit_cells w us T
theorem Own.setLow {w : World} {base : Nat} {v : Value} {zs : List Int} (h : Own w base v zs) {a : Addr} (ha : a.block < base) (u : Value) : Own (w.setCell a u) base v zs := ⟨ownsRow_setCell_below h.row ha u, h.wf⟩
/-- The slice '.slice A n c' holds the strings ss; its cells lie below block B. -/
structure StrM (w : World) (B : Nat) (A : Option Addr) (n c : Nat) (ss : List ByteArray) : Prop where
  len : ss.length = n
  le : n ≤ c
  big : c ≤ maxLen
  cells : 0 < n → ∃ b off, A = some ⟨b, off, none⟩ ∧ b < B ∧ ∀ j x, ss[j]? = some x → w.cell? ⟨b, off + j, none⟩ = some (.string x)
  nil0 : A = none → c = 0
section
variable {w w' : World} {B B' n c k base : Nat} {A : Option Addr} {ss : List ByteArray} {v : Value}
theorem StrM.look (h : StrM w B A n c ss) (hk : k < n) : ∃ b off x, A = some ⟨b, off, none⟩ ∧ b < B ∧ Hid (ss[k]? = some x) ∧ w.cell? ⟨b, off + k, none⟩ = some (.string x) := by
  obtain ⟨b, off, e, hb, hc⟩ := h.cells (by omega)
  have hl : k < ss.length := by have := h.len; omega
  exact ⟨b, off, ss[k], e, hb, hide (List.getElem?_eq_getElem hl), hc k _ (List.getElem?_eq_getElem hl)⟩
theorem StrM.nb (h : StrM w B A n c ss) : n ≤ 9223372036854775807 := by have := h.le; have := h.big; unfold maxLen at this; omega
theorem StrM.keep (h : StrM w B A n c ss) (hk : ∀ p : Addr, p.block < B → w'.cell? p = w.cell? p) : StrM w' B A n c ss :=
  ⟨h.len, h.le, h.big, fun hn => by
    obtain ⟨b, off, e, hb, hc⟩ := h.cells hn
    exact ⟨b, off, e, hb, fun j x hx => (hk _ hb).trans (hc j x hx)⟩, h.nil0⟩
theorem StrM.more (h : StrM w B A n c ss) (hB : B ≤ B') : StrM w B' A n c ss :=
  ⟨h.len, h.le, h.big, fun hn => by
    obtain ⟨b, off, e, hb, hc⟩ := h.cells hn
    exact ⟨b, off, e, by omega, hc⟩, h.nil0⟩
theorem StrM.below (h : StrM w B A n c ss) (hb : Below B w w') : StrM w' B A n c ss := h.keep fun _ hp => hb.cell hp
theorem StrM.up (h : StrM w w.heap.size A n c ss) (hq : Below w.heap.size w w') : StrM w' w'.heap.size A n c ss := (h.below hq).more hq.size
theorem StrM.nil : StrM w B none 0 0 [] := ⟨rfl, Nat.le_refl _, Nat.zero_le _, fun h => absurd h (by omega), fun _ => rfl⟩

/-- What the call itself made: the slice v owns just the strings ss. -/
structure OwnS (w : World) (base : Nat) (v : Value) (ss : List ByteArray) : Prop where
  row : w.ownsRow base 9 1 v ss.length (ss.map Value.string)
theorem OwnS.len (h : OwnS w base (.slice A n c) ss) : n = ss.length := by
  rcases row_shape h.row with ⟨hv, h0⟩ | ⟨g, cap, hv, _⟩
  · injection hv with h1 h2 h3; omega
  · injection hv
theorem OwnS.kept {row : Option Nat} (h : OwnS w base v ss) (hg : w.grownBy w' row) (hne : v.ownBlock = none ∨ v.ownBlock ≠ row) : OwnS w' base v ss := ⟨h.row.kept hg hne⟩
theorem OwnS.up (h : OwnS w base v ss) (hq : Below w.heap.size w w') : OwnS w' base v ss :=
  h.kept (row := none) ⟨hq.os, hq.tape, hq.output, hq.size, fun k hk _ => hq.block k hk⟩ (by cases v.ownBlock <;> simp)
theorem OwnS.down {base' : Nat} (h : OwnS w base v ss) (hb : base' ≤ base) : OwnS w base' v ss := ⟨ownsRow_down h.row hb⟩
theorem OwnS.drew (h : OwnS w base v ss) : OwnS w.drew base v ss := ⟨h.row⟩
theorem OwnS.drewN (h : OwnS w base v ss) (k : Nat) : OwnS (w.drewN k) base v ss := ⟨h.row⟩
theorem OwnS.alloc (h : OwnS w base v ss) (o : Obj) : OwnS (w.alloc o) base v ss := ⟨h.row.alloc o⟩
theorem OwnS.setBelow (h : OwnS w base v ss) {a : Addr} (ha : a.block < base) (u : Value) : OwnS (w.setCell a u) base v ss := ⟨ownsRow_setCell_below h.row ha u⟩
theorem OwnS.none_ : OwnS w base (.slice none 0 0) [] := ⟨World.ownsRow_nil _ _ _ _⟩
theorem OwnS.rowN (h : OwnS w base (.slice A n c) ss) : w.ownsRow base 9 1 (.slice A n c) n (ss.map Value.string) := by
  have := h.row
  rwa [← h.len] at this
theorem OwnS.push {c' : Nat} {A' : Option Addr} {x : ByteArray} (hn : n = ss.length) (h : w'.ownsRow base 9 1 (.slice A' (n + 1) c') (n + 1) (ss.map Value.string ++ [.string x])) : OwnS w' base (.slice A' (n + 1) c') (ss ++ [x]) := ⟨by
  subst hn
  rw [List.length_append, List.map_append]; exact h⟩
end
end Go.Proofs.YtoafpokcbbncfaaDoor

namespace Go.Proofs.YtoafpokcbbncfaaDoor
open Go.RowKit
set_option linter.unusedVariables false

def wfD (d : Ded) : Prop := (Lit.int .i64 d.k).wf = true ∧ (Lit.int .i64 d.a).wf = true ∧ (Lit.int .i64 d.b).wf = true
/-- The slice '.slice A n c' holds the deeds ds; its cells lie below block B. -/
structure DdM (w : World) (B : Nat) (A : Option Addr) (n c : Nat) (ds : List Ded) : Prop where
  len : ds.length = n
  le : n ≤ c
  big : c ≤ maxLen
  cells : 0 < n → ∃ b off, A = some ⟨b, off, none⟩ ∧ b < B ∧ ∀ j x, ds[j]? = some x → w.cell? ⟨b, off + j * 3, none⟩ = some (.int .i64 x.k) ∧ w.cell? ⟨b, off + j * 3 + 1, none⟩ = some (.int .i64 x.a) ∧ w.cell? ⟨b, off + j * 3 + 2, none⟩ = some (.int .i64 x.b)
  wf : ∀ x ∈ ds, wfD x
  nil0 : A = none → c = 0
section
variable {w w' : World} {B B' n c k : Nat} {A : Option Addr} {ds : List Ded}
theorem DdM.look (h : DdM w B A n c ds) (hk : k < n) : ∃ b off x, A = some ⟨b, off, none⟩ ∧ b < B ∧ Hid (ds[k]? = some x) ∧ w.cell? ⟨b, off + k * 3, none⟩ = some (.int .i64 x.k) ∧ w.cell? ⟨b, off + k * 3 + 1, none⟩ = some (.int .i64 x.a) ∧ w.cell? ⟨b, off + k * 3 + 2, none⟩ = some (.int .i64 x.b) := by
  obtain ⟨b, off, e, hb, hc⟩ := h.cells (by omega)
  have hl : k < ds.length := by have := h.len; omega
  obtain ⟨h1, h2, h3⟩ := hc k _ (List.getElem?_eq_getElem hl)
  exact ⟨b, off, ds[k], e, hb, hide (List.getElem?_eq_getElem hl), h1, h2, h3⟩
theorem DdM.nb (h : DdM w B A n c ds) : n ≤ 9223372036854775807 := by have := h.le; have := h.big; unfold maxLen at this; omega
theorem DdM.keep (h : DdM w B A n c ds) (hk : ∀ p : Addr, p.block < B → w'.cell? p = w.cell? p) : DdM w' B A n c ds :=
  ⟨h.len, h.le, h.big, fun hn => by
    obtain ⟨b, off, e, hb, hc⟩ := h.cells hn
    exact ⟨b, off, e, hb, fun j x hx => ⟨(hk _ hb).trans (hc j x hx).1, (hk _ hb).trans (hc j x hx).2.1, (hk _ hb).trans (hc j x hx).2.2⟩⟩, h.wf, h.nil0⟩
theorem DdM.more (h : DdM w B A n c ds) (hB : B ≤ B') : DdM w B' A n c ds :=
  ⟨h.len, h.le, h.big, fun hn => by
    obtain ⟨b, off, e, hb, hc⟩ := h.cells hn
    exact ⟨b, off, e, by omega, hc⟩, h.wf, h.nil0⟩
theorem DdM.below (h : DdM w B A n c ds) (hb : Below B w w') : DdM w' B A n c ds := h.keep fun _ hp => hb.cell hp
theorem DdM.up (h : DdM w w.heap.size A n c ds) (hq : Below w.heap.size w w') : DdM w' w'.heap.size A n c ds := (h.below hq).more hq.size
theorem DdM.nil : DdM w B none 0 0 [] := ⟨rfl, Nat.le_refl _, Nat.zero_le _, fun h => absurd h (by omega), (fun _ h => by cases h), fun _ => rfl⟩
theorem DdM.takeS {h : Nat} (hz : DdM w B A n c ds) (hh : h ≤ n) : DdM w B A h c (ds.take h) :=
  ⟨by rw [List.length_take, hz.len]; omega, Nat.le_trans hh hz.le, hz.big, fun hp => by
    obtain ⟨b, off, e, hb, hc⟩ := hz.cells (by omega)
    refine ⟨b, off, e, hb, fun j x hx => hc j x ?_⟩
    have hj : j < h := by
      have := (List.getElem?_eq_some_iff.1 hx).1
      rw [List.length_take] at this; omega
    rwa [List.getElem?_take_of_lt hj] at hx, fun x hx => hz.wf x (List.mem_of_mem_take hx), hz.nil0⟩
end

def ddC : List Ded → List Value
  | [] => []
  | x :: r => .int .i64 x.k :: .int .i64 x.a :: .int .i64 x.b :: ddC r
theorem ddC_append (a b : List Ded) : ddC (a ++ b) = ddC a ++ ddC b := by
  induction a with
  | nil => rfl
  | cons x r ih => simp only [List.cons_append, ddC, ih]
theorem ddC_at {ds : List Ded} {j : Nat} {x : Ded} (h : ds[j]? = some x) : (ddC ds)[j * 3]? = some (.int .i64 x.k) ∧ (ddC ds)[j * 3 + 1]? = some (.int .i64 x.a) ∧ (ddC ds)[j * 3 + 2]? = some (.int .i64 x.b) := by
  induction ds generalizing j with
  | nil => simp at h
  | cons y r ih =>
    cases j with
    | zero =>
      simp only [List.getElem?_cons_zero, Option.some.injEq] at h
      subst h
      exact ⟨rfl, rfl, rfl⟩
    | succ j =>
      rw [List.getElem?_cons_succ] at h
      rw [show (j + 1) * 3 = j * 3 + 1 + 1 + 1 by omega]
      simp only [ddC, List.getElem?_cons_succ]
      exact ih h
/-- What the call itself made: the slice v owns just the deeds ds. -/
structure OwnD (w : World) (base : Nat) (v : Value) (ds : List Ded) : Prop where
  row : w.ownsRow base 38 3 v ds.length (ddC ds)
  wf : ∀ x ∈ ds, wfD x
section
variable {w w' : World} {base n c : Nat} {A : Option Addr} {ds : List Ded} {v : Value}
theorem OwnD.len (h : OwnD w base (.slice A n c) ds) : n = ds.length := by
  rcases row_shape h.row with ⟨hv, h0⟩ | ⟨g, cap, hv, _⟩
  · injection hv with h1 h2 h3; omega
  · injection hv
theorem OwnD.deeds (h : OwnD w base (.slice A n c) ds) : DdM w w.heap.size A n c ds := by
  rcases row_shape h.row with ⟨hv, h0⟩ | ⟨g, cap, hv, hg, hh, hn, hm⟩
  · injection hv with h1 h2 h3
    subst h1; subst h2; subst h3
    obtain rfl := List.eq_nil_of_length_eq_zero h0
    exact DdM.nil
  · injection hv with h1 h2 h3
    subst h1; subst h2; subst h3
    refine ⟨rfl, hn, hm, fun hp => ⟨g, 0, rfl, hh, fun j x hx => ?_⟩, h.wf, fun e => by cases e⟩
    have hj : j < ds.length := (List.getElem?_eq_some_iff.1 hx).1
    obtain ⟨m1, m2, m3⟩ := ddC_at hx
    rw [Nat.zero_add, h.row.cellAt _ (by omega), h.row.cellAt _ (by omega), h.row.cellAt _ (by omega)]
    exact ⟨m1, m2, m3⟩
theorem OwnD.rowN (h : OwnD w base (.slice A n c) ds) : w.ownsRow base 38 3 (.slice A n c) n (ddC ds) := by
  have := h.row
  rwa [← h.len] at this
theorem OwnD.kept {row : Option Nat} (h : OwnD w base v ds) (hg : w.grownBy w' row) (hne : v.ownBlock = none ∨ v.ownBlock ≠ row) : OwnD w' base v ds := ⟨h.row.kept hg hne, h.wf⟩
theorem OwnD.up (h : OwnD w base v ds) (hq : Below w.heap.size w w') : OwnD w' base v ds :=
  h.kept (row := none) ⟨hq.os, hq.tape, hq.output, hq.size, fun k hk _ => hq.block k hk⟩ (by cases v.ownBlock <;> simp)
theorem OwnD.down {base' : Nat} (h : OwnD w base v ds) (hb : base' ≤ base) : OwnD w base' v ds := ⟨ownsRow_down h.row hb, h.wf⟩
theorem OwnD.drew (h : OwnD w base v ds) : OwnD w.drew base v ds := ⟨h.row, h.wf⟩
theorem OwnD.drewN (h : OwnD w base v ds) (k : Nat) : OwnD (w.drewN k) base v ds := ⟨h.row, h.wf⟩
theorem OwnD.alloc (h : OwnD w base v ds) (o : Obj) : OwnD (w.alloc o) base v ds := ⟨h.row.alloc o, h.wf⟩
theorem OwnD.setBelow (h : OwnD w base v ds) {a : Addr} (ha : a.block < base) (u : Value) : OwnD (w.setCell a u) base v ds := ⟨ownsRow_setCell_below h.row ha u, h.wf⟩
theorem OwnD.none_ : OwnD w base (.slice none 0 0) [] := ⟨World.ownsRow_nil _ _ _ _, fun _ h => by cases h⟩
theorem ownD_empty (hb : base ≤ w.heap.size) : OwnD (w.alloc (.cells #[] 38)) base (.slice (some ⟨w.heap.size, 0, none⟩) 0 0) [] :=
  ⟨World.ownsRow_made w #[] 0 hb (Nat.zero_le _) rfl, fun _ h => by cases h⟩
theorem OwnD.push {c' : Nat} {A' : Option Addr} {d : Ded} (hn : n = ds.length) (hw : wfD d) (hws : ∀ x ∈ ds, wfD x) (h : w'.ownsRow base 38 3 (.slice A' (n + 1) c') (n + 1) (ddC ds ++ [.int .i64 d.k, .int .i64 d.a, .int .i64 d.b])) : OwnD w' base (.slice A' (n + 1) c') (ds ++ [d]) := ⟨by
  subst hn
  rw [List.length_append, ddC_append]; exact h, fun x hx => by
  rcases List.mem_append.1 hx with h | h
  · exact hws x h
  · simp at h; subst h; exact hw⟩
theorem infoDeed : (Tryd.prog.info? 38).map (fun i => (i.zero, i.size, i.bytes)) = some (some (.agg #[.int .i64 0, .int .i64 0, .int .i64 0]), 3, 24) := by kernel_rfl
end
end Go.Proofs.YtoafpokcbbncfaaDoor
