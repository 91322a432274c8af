/-
  append onto an empty slice literal: the copy lies in a new block. No program is named here.
-/
import Derived.Test.YtoafpokcbbncfaaDoorZpl
import Derived.Test.YtoafpokcbbncfaaDoorZdraw
namespace Go.Proofs.YtoafpokcbbncfaaDoor
open Go.RowKit
set_option linter.unusedVariables false

section
variable {P : Program} (w : World)
theorem run_fresh (t ty e : TypeId) (i : TypeInfo) (z : Value) (size bytes : Nat) (ht : P.underlying t = some (.slice e)) (hi : P.info? e = some i) (hz : i.zero = some z) (hsize : i.size = size) (hby : i.bytes = bytes) (hzs : z.cells.size = size) (hb100 : bytes ≤ 100)
    (b0 : Addr) (a : Addr) (m c : Nat) (news : List Value) (hl : news.length = m * size) (hnews : ∀ j u, news[j]? = some u → w.cell? (a.add j) = some u) (h0 : 0 < m) (hm : m ≤ 1048576000) :
    ∃ cap w', (Builtin.append_ #[t, t] ty #[.slice (some b0) 0 0, .slice (some a) m c]).run P w = .ok (.slice (some ⟨w.heap.size, 0, none⟩) m cap) w' ∧ w'.ownsRow w.heap.size e size (.slice (some ⟨w.heap.size, 0, none⟩) m cap) m news ∧ w.grownBy w' none := by
  subst hsize
  subst hby
  have h63 : m ≤ maxLen := by unfold maxLen; omega
  have hbb : m * i.bytes ≤ 140737488355328 := Nat.le_trans (Nat.mul_le_mul hm hb100) (by decide)
  have hr := run_append_grow (P := P) w t ty e i z ht hi hz b0 0 0 [] (by simp) (by intro j v hj; simp at hj) a m c news hl hnews (by omega) (by rw [Nat.zero_add]; omega) (by rw [Nat.zero_add]; exact growslice_fits (by omega) hbb)
  rw [Nat.zero_add] at hr
  have hge := grownCap_ge w m 0 e
  have hcm : grownCap w m 0 e ≤ maxLen := grownCap_le_maxLen w m 0 e h63
  refine ⟨grownCap w m 0 e, _, hr, ⟨hl, .inr ⟨w.heap.size, _, _, rfl, Nat.le_refl _, heap_alloc_new w.drew _, hge, hcm, ?_, ?_⟩⟩, ⟨rfl, rfl, rfl, by simp, fun k hk _ => heap_alloc_old w.drew _ hk⟩⟩
  · simp only [Array.size_append, List.size_toArray, List.length_nil, Nat.zero_add, size_zeroCells, hzs, hl, ← Nat.add_mul]
    congr 1
    omega
  · simp only [Array.toList_append, List.nil_append]
    rw [← hl]
    exact List.take_left
theorem wp_copy {o : Oper} {a : Act} {K : Act → World → Prop} {Q : Exit → Act → World → Prop} (s x : Operand) (t : TypeId)
    (ho : o.op = .call { callee := .builtin .append, args := #[s, x], argTypes := #[t, t] })
    (i : TypeInfo) (ht : P.underlying t = some (.slice 3)) (hi : P.info? 3 = some i) (hz0 : i.zero = some (.int .i64 0)) (hz1 : i.size = 1) (hz2 : i.bytes = 8)
    (b0 : Addr) (zs : List Int) (hs : a.eval s = .slice (some b0) 0 0) (A : Option Addr) (m c B : Nat) (hx : a.eval x = .slice A m c) (hr : Ints w B A m c zs) (h0 : 0 < m) (hm : m ≤ 1048576000)
    (h : ∀ g c' w', Hid (g = w.heap.size) → Own w' w.heap.size (.slice (some ⟨g, 0, none⟩) m c') zs → w.grownBy w' none → K (a.put o.dst (.slice (some ⟨g, 0, none⟩) m c')) w') : o.wp P a w K Q := by
  have hl := hr.len
  obtain ⟨b, off, rfl, hb, hc⟩ := hr.cells h0
  obtain ⟨cap, w', hrun, h2, h3⟩ := run_fresh (P := P) w t o.type 3 i (.int .i64 0) 1 8 ht hi hz0 hz1 hz2 rfl (by decide) b0 ⟨b, off, none⟩ m c (zs.map (Value.int .i64)) (by rw [List.length_map]; omega) (fun j u hu => ints_cells hr j u hu) h0 hm
  unfold Oper.wp execOp
  simp only [ho, resolve, invoke, builtin, Sem.run_bind, Sem.run_pure, Result.andThen_ok, List.map_toArray, List.map_cons, List.map_nil, hs, hx, hrun]
  exact h w.heap.size cap w' (hide rfl) ⟨by rw [hl]; exact h2, hr.wf⟩ h3
theorem step_copy {ops : Array Oper} {o : Oper} {a : Act} {K : Act → World → Prop} {Q : Exit → Act → World → Prop} {E : Prop} (hgd : o.guard = none) (s x : Operand) (t : TypeId)
    (ho : o.op = .call { callee := .builtin .append, args := #[s, x], argTypes := #[t, t] })
    (i : TypeInfo) (ht : P.underlying t = some (.slice 3)) (hi : P.info? 3 = some i) (hz0 : i.zero = some (.int .i64 0)) (hz1 : i.size = 1) (hz2 : i.bytes = 8)
    (b0 : Addr) (zs : List Int) (hs : a.eval s = .slice (some b0) 0 0) (A : Option Addr) (m c B : Nat) (hx : a.eval x = .slice A m c) (hr : Ints w B A m c zs) (h0 : 0 < m) (hm : m ≤ 1048576000)
    (h : ∀ g c' w', Hid (g = w.heap.size) → Own w' w.heap.size (.slice (some ⟨g, 0, none⟩) m c') zs → w.grownBy w' none → K (a.put o.dst (.slice (some ⟨g, 0, none⟩) m c')) w') :
    if Region.wanted o (yielded ops a.tmps) = true then Oper.wp P o a w K Q else E := by
  have hw : Region.wanted o (yielded ops a.tmps) = true := by simp [Region.wanted, hgd]
  rw [if_pos hw]
  exact wp_copy w s x t ho i ht hi hz0 hz1 hz2 b0 zs hs A m c B hx hr h0 hm h
/-- Nothing is appended: the slice stays. -/
theorem step_nothing {ops : Array Oper} {o : Oper} {a : Act} {K : Act → World → Prop} {Q : Exit → Act → World → Prop} {E : Prop} (hgd : o.guard = none) (s x : Operand) (t : TypeId)
    (ho : o.op = .call { callee := .builtin .append, args := #[s, x], argTypes := #[t, t] })
    (i : TypeInfo) (ht : P.underlying t = some (.slice 3)) (hi : P.info? 3 = some i)
    (b0 : Addr) (hs : a.eval s = .slice (some b0) 0 0) (A : Option Addr) (c : Nat) (hx : a.eval x = .slice A 0 c)
    (h : ∀ b1 : Addr, Hid (b1 = b0) → K (a.put o.dst (.slice (some b1) 0 0)) w) :
    if Region.wanted o (yielded ops a.tmps) = true then Oper.wp P o a w K Q else E := by
  have hw : Region.wanted o (yielded ops a.tmps) = true := by simp [Region.wanted, hgd]
  rw [if_pos hw]
  have hrun : (Builtin.append_ #[t, t] o.type #[.slice (some b0) 0 0, .slice A 0 c]).run P w = .ok (.slice (some b0) 0 0) w := by
    cases A <;> simp [Builtin.append_, run_underlying ht, sizeOf, typeInfo, hi, Builtin.lenOf, storeCells, Builtin.firstCells, loadCells, loadCellsFrom]
  unfold Oper.wp execOp
  simp only [ho, resolve, invoke, builtin, Sem.run_bind, Sem.run_pure, Result.andThen_ok, List.map_toArray, List.map_cons, List.map_nil, hs, hx, hrun]
  exact h b0 (hide rfl)
end
/-- A copy: owned, or an empty slice without room. -/
def OwnZ (w : World) (base : Nat) (v : Value) (zs : List Int) : Prop := Own w base v zs ∨ (zs = [] ∧ ∃ b0, v = .slice (some b0) 0 0)
theorem wpList_copy {P : Program} (w : World) {ops : Array Oper} {rest : List Oper} {o : Oper} {a : Act} {Q : Exit → Act → World → Prop} (hgd : o.guard = none) (s x : Operand) (t : TypeId)
    (ho : o.op = .call { callee := .builtin .append, args := #[s, x], argTypes := #[t, t] })
    (i : TypeInfo) (ht : P.underlying t = some (.slice 3)) (hi : P.info? 3 = some i) (hz0 : i.zero = some (.int .i64 0)) (hz1 : i.size = 1) (hz2 : i.bytes = 8)
    (b0 : Addr) (zs : List Int) (hs : a.eval s = .slice (some b0) 0 0) (A : Option Addr) (m c B : Nat) (hx : a.eval x = .slice A m c) (hr : Ints w B A m c zs) (h0 : 0 < m) (hm : m ≤ 1048576000)
    (h : ∀ A' n' c' w', Own w' w.heap.size (.slice A' n' c') zs → w.grownBy w' none → wpList P ops Q rest (a.put o.dst (.slice A' n' c')) w') : wpList P ops Q (o :: rest) a w :=
  wpList_plain hgd fun _ hK => wp_copy w s x t ho i ht hi hz0 hz1 hz2 b0 zs hs A m c B hx hr h0 hm fun g c' w' _ h2 h3 => hK _ _ (h _ _ _ w' h2 h3)
end Go.Proofs.YtoafpokcbbncfaaDoor
