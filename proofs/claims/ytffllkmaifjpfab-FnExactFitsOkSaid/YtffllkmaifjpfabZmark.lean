/-
  Words, plain lemmas and contracts that belong together, joined into one file.
-/
import Derived.Test.YtffllkmaifjpfabZpm
import Derived.Test.YtffllkmaifjpfabZoks
import Derived.Test.YtffllkmaifjpfabZpl
import Derived.Test.YtffllkmaifjpfabZdraw
namespace Go.Proofs.Ytffllkmaifjpfab
open Go.RowKit
set_option linter.unusedVariables false

/-- The slice '.slice A n c' holds the marks ts; its cells lie below block B. -/
structure Marks (w : World) (B : Nat) (A : Option Addr) (n c : Nat) (ts : List Mk) : Prop where
  len : ts.length = n
  le : n ≤ c
  big : c ≤ maxLen
  cells : 0 < n → ∃ b off, A = some ⟨b, off, none⟩ ∧ b < B ∧ ∀ j x, ts[j]? = some x → w.cell? ⟨b, off + j * 2, none⟩ = some (.int .i64 x.1) ∧ w.cell? ⟨b, off + j * 2 + 1, none⟩ = some (.int .i64 x.2)
  wf : ∀ x ∈ ts, (Lit.int .i64 x.1).wf = true ∧ (Lit.int .i64 x.2).wf = true
  nil0 : A = none → c = 0

section
variable {w w' : World} {B B' n c k : Nat} {A : Option Addr} {ts : List Mk}
theorem Marks.look (h : Marks w B A n c ts) (hk : k < n) : ∃ b off x y, A = some ⟨b, off, none⟩ ∧ b < B ∧ Hid (ts[k]? = some (x, y)) ∧ w.cell? ⟨b, off + k * 2, none⟩ = some (.int .i64 x) ∧ w.cell? ⟨b, off + k * 2 + 1, none⟩ = some (.int .i64 y) := by
  obtain ⟨b, off, e, hb, hc⟩ := h.cells (by omega)
  have hl : k < ts.length := by have := h.len; omega
  obtain ⟨h1, h2⟩ := hc k _ (List.getElem?_eq_getElem hl)
  exact ⟨b, off, ts[k].1, ts[k].2, e, hb, List.getElem?_eq_getElem hl, h1, h2⟩
theorem Marks.nb (h : Marks w B A n c ts) : n ≤ 9223372036854775807 := by have := h.le; have := h.big; unfold maxLen at this; omega
theorem Marks.wf_at (h : Marks w B A n c ts) {x y : Int} (hx : ts[k]? = some (x, y)) : (Lit.int .i64 x).wf = true ∧ (Lit.int .i64 y).wf = true := h.wf _ (List.mem_of_getElem? hx)
theorem Marks.keep (h : Marks w B A n c ts) (hk : ∀ p : Addr, p.block < B → w'.cell? p = w.cell? p) : Marks w' B A n c ts :=
  ⟨h.len, h.le, h.big, fun hn => by
    obtain ⟨b, off, e, hb, hc⟩ := h.cells hn
    exact ⟨b, off, e, hb, fun j x hx => ⟨(hk _ hb).trans (hc j x hx).1, (hk _ hb).trans (hc j x hx).2⟩⟩, h.wf, h.nil0⟩
theorem Marks.more (h : Marks w B A n c ts) (hB : B ≤ B') : Marks w B' A n c ts :=
  ⟨h.len, h.le, h.big, fun hn => by
    obtain ⟨b, off, e, hb, hc⟩ := h.cells hn
    exact ⟨b, off, e, by omega, hc⟩, h.wf, h.nil0⟩
theorem Marks.below (h : Marks w B A n c ts) (hb : Below B w w') : Marks w' B A n c ts := h.keep fun _ hp => hb.cell hp
theorem Marks.drewN (h : Marks w B A n c ts) (k : Nat) : Marks (w.drewN k) B A n c ts := ⟨h.len, h.le, h.big, h.cells, h.wf, h.nil0⟩
theorem Marks.alloc (h : Marks w B A n c ts) (hB : B ≤ w.heap.size) (o : Obj) : Marks (w.alloc o) B A n c ts := h.keep fun p hp => World.cell?_alloc_lt w o p (by omega)
theorem Marks.setCell (h : Marks w B A n c ts) {p : Addr} (hB : B ≤ p.block) (u : Value) : Marks (w.setCell p u) B A n c ts :=
  h.keep fun q hq => World.cell?_setCell_other w p q u (fun e => by subst e; omega)
theorem Marks.nil : Marks w B none 0 0 [] := ⟨rfl, Nat.le_refl _, Nat.zero_le _, fun h => absurd h (by omega), (fun _ h => by cases h), fun _ => rfl⟩
theorem Marks.takeS {h : Nat} (hz : Marks w B A n c ts) (hh : h ≤ n) : Marks w B A h c (ts.take h) :=
  ⟨by rw [List.length_take, hz.len]; omega, Nat.le_trans hh hz.le, hz.big, fun hp => by
    obtain ⟨b, off, e, hb, hc⟩ := hz.cells (by omega)
    refine ⟨b, off, e, hb, fun j x hx => hc j x ?_⟩
    have hj : j < h := by
      have := (List.getElem?_eq_some_iff.1 hx).1
      rw [List.length_take] at this; omega
    rwa [List.getElem?_take_of_lt hj] at hx, fun x hx => hz.wf x (List.mem_of_mem_take hx), hz.nil0⟩
theorem Marks.dropS {h b off : Nat} (hz : Marks w B (some ⟨b, off, none⟩) n c ts) (hh : h ≤ n) : Marks w B (some ⟨b, off + h * 2, none⟩) (n - h) (c - h) (ts.drop h) :=
  ⟨by rw [List.length_drop, hz.len], by have := hz.le; omega, by have := hz.big; omega, fun hp => by
    obtain ⟨b', off', e, hb, hc⟩ := hz.cells (by omega)
    injection e with e
    injection e with e1 e2 _
    subst e1; subst e2
    refine ⟨b, off + h * 2, rfl, hb, fun j x hx => ?_⟩
    rw [List.getElem?_drop] at hx
    have := hc _ x hx
    rw [show off + h * 2 + j * 2 = off + (h + j) * 2 by omega]
    exact this, fun x hx => hz.wf x (List.mem_of_mem_drop hx), fun e => by cases e⟩
end
theorem take_succM' {ts : List Mk} {j : Nat} {m : Mk} (h : ts[j]? = some m) : ts.take (j + 1) = ts.take j ++ [m] := by
  obtain ⟨hj, rfl⟩ := List.getElem?_eq_some_iff.1 h
  exact List.take_succ_eq_append_getElem hj
end Go.Proofs.Ytffllkmaifjpfab

namespace Go.Proofs.Ytffllkmaifjpfab
open Go.RowKit
set_option linter.unusedVariables false

def mkC : List Mk → List Value
  | [] => []
  | x :: r => .int .i64 x.1 :: .int .i64 x.2 :: mkC r
theorem mkC_len (ts : List Mk) : (mkC ts).length = ts.length * 2 := by
  induction ts with
  | nil => rfl
  | cons x r ih => simp only [mkC, List.length_cons, ih]; omega
theorem mkC_append (a b : List Mk) : mkC (a ++ b) = mkC a ++ mkC b := by
  induction a with
  | nil => rfl
  | cons x r ih => simp only [List.cons_append, mkC, ih]
theorem mkC_at {ts : List Mk} {j : Nat} {x : Mk} (h : ts[j]? = some x) : (mkC ts)[j * 2]? = some (.int .i64 x.1) ∧ (mkC ts)[j * 2 + 1]? = some (.int .i64 x.2) := by
  induction ts generalizing j with
  | nil => simp at h
  | cons y r ih =>
    cases j with
    | zero =>
      simp only [List.getElem?_cons_zero, Option.some.injEq] at h
      subst h
      exact ⟨rfl, rfl⟩
    | succ j =>
      rw [List.getElem?_cons_succ] at h
      rw [show (j + 1) * 2 = j * 2 + 1 + 1 by omega]
      simp only [mkC, List.getElem?_cons_succ]
      exact ih h
theorem mkC_of {ts : List Mk} {i : Nat} {u : Value} (h : (mkC ts)[i]? = some u) : ∃ j x, ts[j]? = some x ∧ ((i = j * 2 ∧ u = .int .i64 x.1) ∨ (i = j * 2 + 1 ∧ u = .int .i64 x.2)) := by
  induction ts generalizing i with
  | nil => simp [mkC] at h
  | cons y r ih =>
    match i, h with
    | 0, h =>
      simp only [mkC, List.getElem?_cons_zero, Option.some.injEq] at h
      exact ⟨0, y, rfl, .inl ⟨rfl, h.symm⟩⟩
    | 1, h =>
      simp only [mkC, List.getElem?_cons_succ, List.getElem?_cons_zero, Option.some.injEq] at h
      exact ⟨0, y, rfl, .inr ⟨rfl, h.symm⟩⟩
    | i + 2, h =>
      simp only [mkC, List.getElem?_cons_succ] at h
      obtain ⟨j, x, hx, hu⟩ := ih h
      refine ⟨j + 1, x, by rw [List.getElem?_cons_succ]; exact hx, ?_⟩
      rcases hu with ⟨a, b⟩ | ⟨a, b⟩
      · exact .inl ⟨by omega, b⟩
      · exact .inr ⟨by omega, b⟩
theorem mkC_one (ts : List Mk) : ∀ u ∈ mkC ts, u.oneCell' = true := by
  intro u hu
  obtain ⟨i, hi⟩ := List.getElem?_of_mem hu
  obtain ⟨j, x, _, h | h⟩ := mkC_of hi
  · rw [h.2]; rfl
  · rw [h.2]; rfl
def wfM (ts : List Mk) : Prop := ∀ x ∈ ts, (Lit.int .i64 x.1).wf = true ∧ (Lit.int .i64 x.2).wf = true

/-- What the call itself made: the slice v owns just the marks ts, in a block from 'base' on. -/
structure OwnK (w : World) (base : Nat) (v : Value) (ts : List Mk) : Prop where
  row : w.ownsRow base 57 2 v ts.length (mkC ts)
  wf : wfM ts

section
variable {w w' : World} {base base' n c : Nat} {v : Value} {A : Option Addr} {ts : List Mk}
theorem OwnK.shape (h : OwnK w base v ts) : (v = .slice none 0 0 ∧ ts = []) ∨ ∃ g c, v = .slice (some ⟨g, 0, none⟩) ts.length c ∧ base ≤ g ∧ g < w.heap.size := by
  rcases h.row.2 with ⟨hv, h0⟩ | ⟨g, cap, cur, hv, hg, hh, _⟩
  · exact .inl ⟨hv, List.eq_nil_of_length_eq_zero h0⟩
  · exact .inr ⟨g, cap, hv, hg, (Array.getElem?_eq_some_iff.1 hh).1⟩
theorem OwnK.slice (h : OwnK w base v ts) : ∃ A c, v = .slice A ts.length c := by
  rcases h.shape with ⟨rfl, rfl⟩ | ⟨g, c, rfl, _⟩
  · exact ⟨_, _, rfl⟩
  · exact ⟨_, _, rfl⟩
theorem OwnK.marks (h : OwnK w base (.slice A n c) ts) : Marks w w.heap.size A n c ts := by
  rcases h.row.2 with ⟨hv, h0⟩ | ⟨g, cap, cur, hv, hg, hh, hn, hm, hs, ht⟩
  · injection hv with h1 h2 h3
    subst h1; subst h2; subst h3
    obtain rfl := List.eq_nil_of_length_eq_zero h0
    exact Marks.nil
  · injection hv with h1 h2 h3
    subst h1; subst h2; subst h3
    refine ⟨rfl, hn, hm, fun hp => ⟨g, 0, rfl, (Array.getElem?_eq_some_iff.1 hh).1, fun j x hx => ?_⟩, h.wf, fun e => by cases e⟩
    have hj : j < ts.length := (List.getElem?_eq_some_iff.1 hx).1
    obtain ⟨m1, m2⟩ := mkC_at hx
    rw [Nat.zero_add, h.row.cellAt _ (by omega), h.row.cellAt _ (by omega)]
    exact ⟨m1, m2⟩
theorem OwnK.len (h : OwnK w base (.slice A n c) ts) : n = ts.length := by
  rcases h.row.2 with ⟨hv, h0⟩ | ⟨g, cap, cur, hv, _⟩
  · injection hv with h1 h2 h3; omega
  · injection hv
theorem OwnK.kept {row : Option Nat} (h : OwnK w base v ts) (hg : w.grownBy w' row) (hne : v.ownBlock = none ∨ v.ownBlock ≠ row) : OwnK w' base v ts := ⟨h.row.kept hg hne, h.wf⟩
theorem OwnK.below {B : Nat} (h : OwnK w base v ts) (hb : Below B w w') (hB : w.heap.size ≤ B) : OwnK w' base v ts :=
  h.kept (row := none) ⟨hb.os, hb.tape, hb.output, hb.size, fun k hk _ => hb.block k (by omega)⟩ (by cases v.ownBlock <;> simp)
theorem OwnK.up (h : OwnK w base v ts) (hq : Below w.heap.size w w') : OwnK w' base v ts := h.below hq (Nat.le_refl _)
theorem OwnK.down (h : OwnK w base v ts) (hb : base' ≤ base) : OwnK w base' v ts := by
  refine ⟨⟨h.row.1, ?_⟩, h.wf⟩
  rcases h.row.2 with hn | ⟨g, cap, cur, hv, hg, r⟩
  · exact .inl hn
  · exact .inr ⟨g, cap, cur, hv, by omega, r⟩
theorem OwnK.drewN (h : OwnK w base v ts) (k : Nat) : OwnK (w.drewN k) base v ts := ⟨h.row, h.wf⟩
theorem OwnK.drew (h : OwnK w base v ts) : OwnK w.drew base v ts := ⟨h.row, h.wf⟩
theorem OwnK.alloc (h : OwnK w base v ts) (o : Obj) : OwnK (w.alloc o) base v ts := ⟨h.row.alloc o, h.wf⟩
theorem OwnK.none_ : OwnK w base (.slice none 0 0) [] := ⟨World.ownsRow_nil _ _ _ _, fun _ h => by cases h⟩
end
theorem Marks.drew {w : World} {B n c : Nat} {A : Option Addr} {ts : List Mk} (h : Marks w B A n c ts) : Marks w.drew B A n c ts := ⟨h.len, h.le, h.big, h.cells, h.wf, h.nil0⟩
theorem Marks.up {w w' : World} {n c : Nat} {A : Option Addr} {ts : List Mk} (h : Marks w w.heap.size A n c ts) (hq : Below w.heap.size w w') : Marks w' w'.heap.size A n c ts := (h.below hq).more hq.size
theorem ownK_empty {w : World} {base : Nat} (hb : base ≤ w.heap.size) : OwnK (w.alloc (.cells #[] 57)) base (.slice (some ⟨w.heap.size, 0, none⟩) 0 0) [] :=
  ⟨World.ownsRow_made w #[] 0 hb (Nat.zero_le _) rfl, fun _ h => by cases h⟩
theorem infoMark : (Try.prog.info? 57).map (fun i => (i.zero, i.size, i.bytes)) = some (some (.agg #[.int .i64 0, .int .i64 0]), 2, 16) := by kernel_rfl
theorem add_plain (b off j : Nat) : (Addr.mk b off none).add j = ⟨b, off + j, none⟩ := by
  unfold Addr.add
  by_cases hj0 : j = 0 <;> simp [hj0]
theorem marks_cells {w : World} {B b off n c : Nat} {ts : List Mk} (h : Marks w B (some ⟨b, off, none⟩) n c ts) : ∀ i u, (mkC ts)[i]? = some u → w.cell? ((⟨b, off, none⟩ : Addr).add i) = some u := by
  intro i u hu
  obtain ⟨j, x, hx, hh⟩ := mkC_of hu
  have hj : j < n := by have := (List.getElem?_eq_some_iff.1 hx).1; have := h.len; omega
  obtain ⟨b', off', e, _, hc⟩ := h.cells (by omega)
  injection e with e
  injection e with e1 e2
  subst e1; subst e2
  obtain ⟨c1, c2⟩ := hc j x hx
  rw [add_plain]
  rcases hh with ⟨rfl, rfl⟩ | ⟨rfl, rfl⟩
  · exact c1
  · rw [← Nat.add_assoc]; exact c2

section
variable {P : Program} (w : World)
theorem run_appK (t ty : TypeId) (i : TypeInfo) (ht : P.underlying t = some (.slice 57)) (hi : P.info? 57 = some i) (hz0 : i.zero = some (.agg #[.int .i64 0, .int .i64 0])) (hz1 : i.size = 2) (hz2 : i.bytes = 16)
    {base : Nat} {v : Value} {zs : List Mk} (hown : OwnK w base v zs) {A : Option Addr} {m c B : Nat} {news : List Mk} (hr : Marks w B A m c news) (hbase : base ≤ w.heap.size) (hsz : zs.length + m ≤ 1048576000) :
    ∃ A' n' c' w', (Builtin.append_ #[t, t] ty #[v, .slice A m c]).run P w = .ok (.slice A' n' c') w' ∧ OwnK w' base (.slice A' n' c') (zs ++ news) ∧ w.grownBy w' v.ownBlock := by
  have hl := hr.len
  cases A with
  | none =>
    have hm : m = 0 := by
      rcases Nat.eq_zero_or_pos m with h0 | h0
      · exact h0
      · obtain ⟨b, off, e, _⟩ := hr.cells h0
        cases e
    have hc := hr.nil0 rfl
    subst hm; subst hc
    obtain rfl := List.eq_nil_of_length_eq_zero hl
    obtain ⟨A', c', rfl⟩ := hown.slice
    exact ⟨A', _, c', w, run_append_owned_none w base t ty 57 i 2 ht hi _ _ _ hown.row, by simpa using hown, World.grownBy.refl w _⟩
  | some ad =>
    have hnews : ∀ j u, (mkC news)[j]? = some u → w.cell? (ad.add j) = some u := by
      intro j u hu
      have hj : 0 < m := by
        have := (List.getElem?_eq_some_iff.1 hu).1
        rw [mkC_len] at this
        omega
      obtain ⟨b, off, e, _⟩ := hr.cells hj
      injection e with e
      subst e
      exact marks_cells hr j u hu
    obtain ⟨v', w', hrun, h2, h3, _⟩ := run_append_own (P := P) w base t ty 57 i (.agg #[.int .i64 0, .int .i64 0]) 2 16 ht hi hz0 hz1 hz2 rfl (by decide) v zs.length _ hown.row ad m c (mkC news) (by rw [mkC_len]; omega) hnews (mkC_one _) (by unfold maxLen; omega) (by omega) hbase
    have hO : OwnK w' base v' (zs ++ news) := ⟨by
      rw [List.length_append, mkC_append, hl]; exact h2, fun z hz => by
      rcases List.mem_append.1 hz with h | h
      · exact hown.wf z h
      · exact hr.wf z h⟩
    obtain ⟨A', c', rfl⟩ := hO.slice
    exact ⟨A', _, c', w', hrun, hO, h3⟩
theorem wp_appK {o : Oper} {a : Act} {K : Act → World → Prop} {Q : Exit → Act → World → Prop} (s x : Operand) (t : TypeId)
    (ho : o.op = .call { callee := .builtin .append, args := #[s, x], argTypes := #[t, t] })
    (i : TypeInfo) (ht : P.underlying t = some (.slice 57)) (hi : P.info? 57 = some i) (hz0 : i.zero = some (.agg #[.int .i64 0, .int .i64 0])) (hz1 : i.size = 2) (hz2 : i.bytes = 16)
    {base : Nat} (v : Value) (zs : List Mk) (hs : a.eval s = v) (hown : OwnK w base v zs) (A : Option Addr) (m c B : Nat) (news : List Mk) (hx : a.eval x = .slice A m c) (hr : Marks w B A m c news) (hbase : base ≤ w.heap.size) (hsz : zs.length + m ≤ 1048576000)
    (h : ∀ A' n' c' w', OwnK w' base (.slice A' n' c') (zs ++ news) → w.grownBy w' v.ownBlock → K (a.put o.dst (.slice A' n' c')) w') : o.wp P a w K Q := by
  obtain ⟨A', n', c', w', hrun, h2, h3⟩ := run_appK (P := P) w t o.type i ht hi hz0 hz1 hz2 hown hr hbase hsz
  unfold Oper.wp execOp
  simp only [ho, resolve, invoke, builtin, Sem.run_bind, Sem.run_pure, Result.andThen_ok, List.map_toArray, List.map_cons, List.map_nil, hs, hx, hrun]
  exact h A' n' c' w' h2 h3
theorem wpList_appK {ops : Array Oper} {rest : List Oper} {o : Oper} {a : Act} {Q : Exit → Act → World → Prop} (hgd : o.guard = none) (s x : Operand) (t : TypeId)
    (ho : o.op = .call { callee := .builtin .append, args := #[s, x], argTypes := #[t, t] })
    (i : TypeInfo) (ht : P.underlying t = some (.slice 57)) (hi : P.info? 57 = some i) (hz0 : i.zero = some (.agg #[.int .i64 0, .int .i64 0])) (hz1 : i.size = 2) (hz2 : i.bytes = 16)
    {base : Nat} (v : Value) (zs : List Mk) (hs : a.eval s = v) (hown : OwnK w base v zs) (A : Option Addr) (m c B : Nat) (news : List Mk) (hx : a.eval x = .slice A m c) (hr : Marks w B A m c news) (hbase : base ≤ w.heap.size) (hsz : zs.length + m ≤ 1048576000)
    (h : ∀ A' n' c' w', OwnK w' base (.slice A' n' c') (zs ++ news) → w.grownBy w' v.ownBlock → wpList P ops Q rest (a.put o.dst (.slice A' n' c')) w') : wpList P ops Q (o :: rest) a w :=
  wpList_plain hgd fun _ hK => wp_appK w s x t ho i ht hi hz0 hz1 hz2 v zs hs hown A m c B news hx hr hbase hsz fun A' n' c' w' h2 h3 => hK _ _ (h A' n' c' w' h2 h3)
theorem step_appK {ops : Array Oper} {o : Oper} {a : Act} {K : Act → World → Prop} {Q : Exit → Act → World → Prop} {E : Prop} (hgd : o.guard = none) (s x : Operand) (t : TypeId)
    (ho : o.op = .call { callee := .builtin .append, args := #[s, x], argTypes := #[t, t] })
    (i : TypeInfo) (ht : P.underlying t = some (.slice 57)) (hi : P.info? 57 = some i) (hz0 : i.zero = some (.agg #[.int .i64 0, .int .i64 0])) (hz1 : i.size = 2) (hz2 : i.bytes = 16)
    {base : Nat} (v : Value) (zs : List Mk) (hs : a.eval s = v) (hown : OwnK w base v zs) (A : Option Addr) (m c B : Nat) (news : List Mk) (hx : a.eval x = .slice A m c) (hr : Marks w B A m c news) (hbase : base ≤ w.heap.size) (hsz : zs.length + m ≤ 1048576000)
    (h : ∀ A' n' c' w', OwnK w' base (.slice A' n' c') (zs ++ news) → w.grownBy w' v.ownBlock → K (a.put o.dst (.slice A' n' c')) w') :
    if Region.wanted o (yielded ops a.tmps) = true then Oper.wp P o a w K Q else E := by
  have hw : Region.wanted o (yielded ops a.tmps) = true := by simp [Region.wanted, hgd]
  rw [if_pos hw]
  exact wp_appK w s x t ho i ht hi hz0 hz1 hz2 v zs hs hown A m c B news hx hr hbase hsz h
end
/-- A slice literal of one mark, ready to be appended. -/
theorem marks_lit1 {w : World} {x y : Int} (hx : (Lit.int .i64 x).wf = true) (hy : (Lit.int .i64 y).wf = true) : Marks (w.alloc (.cells #[.int .i64 x, .int .i64 y] 57)) (w.heap.size + 1) (some ⟨w.heap.size, 0, none⟩) 1 1 [(x, y)] := by
  refine ⟨rfl, Nat.le_refl _, by unfold maxLen; omega, fun _ => ⟨w.heap.size, 0, rfl, by omega, fun j z hz => ?_⟩, fun z hz => ?_, fun e => by cases e⟩
  · cases j with
    | zero =>
      simp at hz; subst hz
      rw [Nat.zero_add, World.cell?_alloc_at _ _ _ _ rfl, World.cell?_alloc_at _ _ _ _ rfl]; exact ⟨rfl, rfl⟩
    | succ j => simp at hz
  · simp at hz; subst hz; exact ⟨hx, hy⟩
theorem ownK_lit1 {w : World} {x y : Int} (hx : (Lit.int .i64 x).wf = true) (hy : (Lit.int .i64 y).wf = true) : OwnK (w.alloc (.cells #[.int .i64 x, .int .i64 y] 57)) w.heap.size (.slice (some ⟨w.heap.size, 0, none⟩) 1 1) [(x, y)] :=
  ⟨World.ownsRow_lit w #[.int .i64 x, .int .i64 y] 1 (Nat.le_refl _) (by unfold maxLen; omega) rfl, fun z hz => by simp at hz; subst hz; exact ⟨hx, hy⟩⟩
theorem Marks.beside {w w' : World} {B b off n c : Nat} {ts : List Mk} {row : Option Nat} (h : Marks w B (some ⟨b, off, none⟩) n c ts) (hb : b < w.heap.size) (hg : w.grownBy w' row) (hr : ∀ k, row = some k → k ≠ b) : Marks w' B (some ⟨b, off, none⟩) n c ts :=
  ⟨h.len, h.le, h.big, fun hn => by
    obtain ⟨b', off', e, hb', hc⟩ := h.cells hn
    injection e with e
    injection e with e1 e2 _
    subst e1; subst e2
    have key : ∀ o, w'.cell? ⟨b, o, none⟩ = w.cell? ⟨b, o, none⟩ := fun o => World.cell?_of_block (hg.block b hb (fun e => hr b e.symm rfl))
    exact ⟨b, off, rfl, hb', fun j x hx => ⟨(key _).trans (hc j x hx).1, (key _).trans (hc j x hx).2⟩⟩, h.wf, h.nil0⟩
end Go.Proofs.Ytffllkmaifjpfab
