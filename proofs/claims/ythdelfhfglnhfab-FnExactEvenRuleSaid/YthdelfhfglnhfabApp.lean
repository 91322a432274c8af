/-
  append of ints to a row of the call's own, whatever the source; a store into such a row; slice literals.
-/
import Derived.Test.YthdelfhfglnhfabWords
import Derived.Laws.AppendOwnNone
import Derived.Deep.RegionLaw
namespace Go.Proofs.Ythdelfhfglnhfab
open Go.RowKit

/-- A slice literal without elements: a new block. -/
theorem own_lit0 (w : World) : (w.alloc (.cells #[] 3)).ownsRow w.heap.size 3 1 (.slice (some ⟨w.heap.size, 0, none⟩) 0 0) 0 [] :=
  World.ownsRow_made w #[] 0 (Nat.le_refl _) (Nat.zero_le _) rfl

theorem ints_cells {w : World} {B b off c : Nat} {n : Nat} {zs : List Int} (h : Ints w B (some ⟨b, off, none⟩) n c zs) :
    ∀ j u, (zs.map (Value.int .i64))[j]? = some u → w.cell? ((⟨b, off, none⟩ : Addr).add j) = some u := by
  intro j u hu
  rw [List.getElem?_map] at hu
  obtain ⟨x, hx, rfl⟩ := Option.map_eq_some_iff.1 hu
  have hl := h.len
  have hj : j < n := by have := (List.getElem?_eq_some_iff.1 hx).1; omega
  obtain ⟨b', off', e, _, hc⟩ := h.cells (by omega)
  injection e with e
  injection e with e1 e2
  subst e1; subst e2
  have e : (Addr.mk b off none).add j = ⟨b, off + j, none⟩ := by
    unfold Addr.add
    by_cases hj0 : j = 0 <;> simp [hj0]
  rw [e]
  exact hc j x hx
theorem ints_one (zs : List Int) : ∀ u ∈ zs.map (Value.int .i64), u.oneCell' = true := by
  intro u hu
  obtain ⟨x, _, rfl⟩ := List.mem_map.1 hu
  rfl

/-- A number that wraps is none of an urn. -/
theorem wrap_ok (x m : Int) (hx : 0 ≤ x ∧ x ≤ 40) (hm : (Lit.int .i64 m).wf = true) : (0 ≤ wrap64 (x + m) ∧ wrap64 (x + m) ≤ 40) ↔ (0 ≤ x + m ∧ x + m ≤ 40) := by
  have := i64_wf hm
  simp only [wrap64]
  omega
theorem wrap_in (x m : Int) (h : 0 ≤ x + m ∧ x + m ≤ 40) : wrap64 (x + m) = x + m := by
  simp only [wrap64]
  omega
theorem wf_wrap64 (x : Int) : (Lit.int .i64 (wrap64 x)).wf = true := wf_i64 (by simp only [wrap64]; omega)

theorem Own.set_ {w : World} {base g n c k : Nat} {zs : List Int} (h : Own w base (.slice (some ⟨g, 0, none⟩) n c) zs) (y : Int) (hy : (Lit.int .i64 y).wf = true) :
    Own (w.setCell ⟨g, k, none⟩ (.int .i64 y)) base (.slice (some ⟨g, 0, none⟩) n c) (zs.set k y) := by
  have hn := h.len
  subst hn
  refine ⟨?_, fun z hz => ?_⟩
  · have := (h.row.stored k (.int .i64 y)).1
    rw [List.length_set, List.map_set]
    exact this
  · rcases List.mem_or_eq_of_mem_set hz with h1 | h1
    · exact h.wf z h1
    · rw [h1]; exact hy
theorem Own.froz {w : World} {base g n c : Nat} {zs : List Int} (h : Own w base (.slice (some ⟨g, 0, none⟩) n c) zs) (k : Nat) : w.frozen? ⟨g, k, none⟩ = false := by
  have hn := h.len
  subst hn
  exact h.row.frozenAt k
theorem Own.at_ {w : World} {base k : Nat} {v : Value} {x : Int} {zs : List Int} (h : Own w base v zs) (hx : zs[k]? = some x) : ∃ g c, v = .slice (some ⟨g, 0, none⟩) zs.length c ∧ base ≤ g ∧ g < w.heap.size ∧ w.cell? ⟨g, k, none⟩ = some (.int .i64 x) := by
  rcases h.shape with ⟨_, rfl⟩ | ⟨g, c, rfl, hg, hlt⟩
  · simp at hx
  · refine ⟨g, c, rfl, hg, hlt, ?_⟩
    have hk := (List.getElem?_eq_some_iff.1 hx).1
    rw [h.row.cellAt k (by omega)]
    simp [hx]

theorem own_empty {w : World} {base : Nat} (hb : base ≤ w.heap.size) : Own (w.alloc (.cells #[] 3)) base (.slice (some ⟨w.heap.size, 0, none⟩) 0 0) [] :=
  ⟨World.ownsRow_made w #[] 0 hb (Nat.zero_le _) rfl, fun _ h => by cases h⟩
theorem own_empty' {w : World} {base g : Nat} (hg : g = w.heap.size) (hb : base ≤ w.heap.size) : Own (w.alloc (.cells #[] 3)) base (.slice (some ⟨g, 0, none⟩) 0 0) [] := by
  subst hg; exact own_empty hb
theorem below_empty {w w1 : World} (hb : Below w.heap.size w w1) (o : Obj) : Below w.heap.size w (w1.alloc o) := hb.alloc hb.size o


section
variable {P : Program} (w : World)
theorem run_app (t ty : TypeId) (i : TypeInfo) (ht : P.underlying t = some (.slice 3)) (hi : P.info? 3 = some i) (hz0 : i.zero = some (.int .i64 0)) (hz1 : i.size = 1) (hz2 : i.bytes = 8)
    {base : Nat} {v : Value} {zs : List Int} (hown : Own w base v zs) {A : Option Addr} {m c B : Nat} {news : List Int} (hr : Ints w B A m c news) (hbase : base ≤ w.heap.size) (hsz : zs.length + m ≤ 1048576000) :
    ∃ A' n' c' w', (Builtin.append_ #[t, t] ty #[v, .slice A m c]).run P w = .ok (.slice A' n' c') w' ∧ Own w' base (.slice A' n' c') (zs ++ news) ∧ w.grownBy w' v.ownBlock := by
  have hl := hr.len
  cases A with
  | none =>
    have hm : m = 0 := by
      rcases Nat.eq_zero_or_pos m with h0 | h0
      · exact h0
      · obtain ⟨b, off, e, _⟩ := hr.cells h0
        cases e
    have hc := hr.nil0 rfl
    subst hm; subst hc
    obtain rfl := List.eq_nil_of_length_eq_zero hl
    obtain ⟨A', c', rfl⟩ := hown.slice
    exact ⟨A', _, c', w, run_append_owned_none w base t ty 3 i 1 ht hi _ _ _ hown.row, by simpa using hown, World.grownBy.refl w _⟩
  | some ad =>
    have hnews : ∀ j u, (news.map (Value.int .i64))[j]? = some u → w.cell? (ad.add j) = some u := by
      intro j u hu
      have hj : j < m := by
        have := (List.getElem?_eq_some_iff.1 hu).1
        rw [List.length_map] at this
        omega
      obtain ⟨b, off, e, _⟩ := hr.cells (by omega)
      injection e with e
      subst e
      exact ints_cells hr j u hu
    obtain ⟨v', w', hrun, h2, h3, _⟩ := run_append_own (P := P) w base t ty 3 i (.int .i64 0) 1 8 ht hi hz0 hz1 hz2 rfl (by decide) v zs.length _ hown.row ad m c (news.map (Value.int .i64)) (by rw [List.length_map]; omega) hnews (ints_one _) (by unfold maxLen; omega) (by omega) hbase
    have hO : Own w' base v' (zs ++ news) := ⟨by
      rw [List.length_append, List.map_append, hl]; exact h2, fun z hz => by
      rcases List.mem_append.1 hz with h | h
      · exact hown.wf z h
      · exact hr.wf z h⟩
    obtain ⟨A', c', rfl⟩ := hO.slice
    exact ⟨A', _, c', w', hrun, hO, h3⟩

theorem wp_app {o : Oper} {a : Act} {K : Act → World → Prop} {Q : Exit → Act → World → Prop} (s x : Operand) (t : TypeId)
    (ho : o.op = .call { callee := .builtin .append, args := #[s, x], argTypes := #[t, t] })
    (i : TypeInfo) (ht : P.underlying t = some (.slice 3)) (hi : P.info? 3 = some i) (hz0 : i.zero = some (.int .i64 0)) (hz1 : i.size = 1) (hz2 : i.bytes = 8)
    {base : Nat} (v : Value) (zs : List Int) (hs : a.eval s = v) (hown : Own w base v zs) (A : Option Addr) (m c B : Nat) (news : List Int) (hx : a.eval x = .slice A m c) (hr : Ints w B A m c news) (hbase : base ≤ w.heap.size) (hsz : zs.length + m ≤ 1048576000)
    (h : ∀ A' n' c' w', Own w' base (.slice A' n' c') (zs ++ news) → w.grownBy w' v.ownBlock → K (a.put o.dst (.slice A' n' c')) w') : o.wp P a w K Q := by
  obtain ⟨A', n', c', w', hrun, h2, h3⟩ := run_app (P := P) w t o.type i ht hi hz0 hz1 hz2 hown hr hbase hsz
  unfold Oper.wp execOp
  simp only [ho, resolve, invoke, builtin, Sem.run_bind, Sem.run_pure, Result.andThen_ok, List.map_toArray, List.map_cons, List.map_nil, hs, hx, hrun]
  exact h A' n' c' w' h2 h3

theorem wpList_app {ops : Array Oper} {rest : List Oper} {o : Oper} {a : Act} {Q : Exit → Act → World → Prop} (hgd : o.guard = none) (s x : Operand) (t : TypeId)
    (ho : o.op = .call { callee := .builtin .append, args := #[s, x], argTypes := #[t, t] })
    (i : TypeInfo) (ht : P.underlying t = some (.slice 3)) (hi : P.info? 3 = some i) (hz0 : i.zero = some (.int .i64 0)) (hz1 : i.size = 1) (hz2 : i.bytes = 8)
    {base : Nat} (v : Value) (zs : List Int) (hs : a.eval s = v) (hown : Own w base v zs) (A : Option Addr) (m c B : Nat) (news : List Int) (hx : a.eval x = .slice A m c) (hr : Ints w B A m c news) (hbase : base ≤ w.heap.size) (hsz : zs.length + m ≤ 1048576000)
    (h : ∀ A' n' c' w', Own w' base (.slice A' n' c') (zs ++ news) → w.grownBy w' v.ownBlock → wpList P ops Q rest (a.put o.dst (.slice A' n' c')) w') : wpList P ops Q (o :: rest) a w :=
  wpList_plain hgd fun _ hK => wp_app w s x t ho i ht hi hz0 hz1 hz2 v zs hs hown A m c B news hx hr hbase hsz fun A' n' c' w' h2 h3 => hK _ _ (h A' n' c' w' h2 h3)

theorem step_app {ops : Array Oper} {o : Oper} {a : Act} {K : Act → World → Prop} {Q : Exit → Act → World → Prop} {E : Prop} (hgd : o.guard = none) (s x : Operand) (t : TypeId)
    (ho : o.op = .call { callee := .builtin .append, args := #[s, x], argTypes := #[t, t] })
    (i : TypeInfo) (ht : P.underlying t = some (.slice 3)) (hi : P.info? 3 = some i) (hz0 : i.zero = some (.int .i64 0)) (hz1 : i.size = 1) (hz2 : i.bytes = 8)
    {base : Nat} (v : Value) (zs : List Int) (hs : a.eval s = v) (hown : Own w base v zs) (A : Option Addr) (m c B : Nat) (news : List Int) (hx : a.eval x = .slice A m c) (hr : Ints w B A m c news) (hbase : base ≤ w.heap.size) (hsz : zs.length + m ≤ 1048576000)
    (h : ∀ A' n' c' w', Own w' base (.slice A' n' c') (zs ++ news) → w.grownBy w' v.ownBlock → K (a.put o.dst (.slice A' n' c')) w') :
    if Region.wanted o (yielded ops a.tmps) = true then Oper.wp P o a w K Q else E := by
  have hw : Region.wanted o (yielded ops a.tmps) = true := by simp [Region.wanted, hgd]
  rw [if_pos hw]
  exact wp_app w s x t ho i ht hi hz0 hz1 hz2 v zs hs hown A m c B news hx hr hbase hsz h
end

/-- A slice literal of one element, ready to be appended. -/
theorem ints_lit1 {w : World} {x : Int} (hx : (Lit.int .i64 x).wf = true) : Ints (w.alloc (.cells #[.int .i64 x] 3)) (w.heap.size + 1) (some ⟨w.heap.size, 0, none⟩) 1 1 [x] := by
  refine ⟨rfl, Nat.le_refl _, by unfold maxLen; omega, fun _ => ⟨w.heap.size, 0, rfl, by omega, fun j y hy => ?_⟩, fun z hz => ?_, fun e => by cases e⟩
  · cases j with
    | zero => simp at hy; subst hy; rw [Nat.zero_add, World.cell?_alloc_at _ _ _ _ rfl]; rfl
    | succ j => simp at hy
  · simp at hz; subst hz; exact hx
theorem Own.alloc {w : World} {base : Nat} {v : Value} {zs : List Int} (h : Own w base v zs) (o : Obj) : Own (w.alloc o) base v zs := ⟨h.row.alloc o, h.wf⟩
theorem Own.at2 {w : World} {base k n c : Nat} {A : Option Addr} {x : Int} {zs : List Int} (h : Own w base (.slice A n c) zs) (hx : zs[k]? = some x) : ∃ g, A = some ⟨g, 0, none⟩ ∧ base ≤ g ∧ g < w.heap.size ∧ w.cell? ⟨g, k, none⟩ = some (.int .i64 x) ∧ w.frozen? ⟨g, k, none⟩ = false := by
  obtain ⟨g, c2, hv, hg, hgl, hcell⟩ := h.at_ hx
  injection hv with h1 h2 h3
  subst h1; subst h2
  exact ⟨g, rfl, hg, hgl, hcell, h.froz k⟩
theorem Own.ltI {w : World} {base n c : Nat} {k x : Int} {A : Option Addr} {zs : List Int} (h : Own w base (.slice A n c) zs) (hx : zs[k.toNat]? = some x) : k < (n : Int) := by
  have h1 := h.len
  have h2 := (List.getElem?_eq_some_iff.1 hx).1
  omega
end Go.Proofs.Ythdelfhfglnhfab
