/-
  Slices of slices of ints that the call itself made: what it owns, how that is carried, and what append, a store of a row and a store into a row make of it.
-/
import Derived.Test.YthdelfhfglnhfabApp
import Derived.Test.YthdelfhfglnhfabMat
namespace Go.Proofs.Ythdelfhfglnhfab
open Go.RowKit

/-- What the call itself made: the slice v owns just the rows rs. Its own block lies from 'lo' on; the rows' blocks lie from 'lo' on and below 'hi', and no two of them are one. -/
structure OwnM (w : World) (lo hi : Nat) (v : Value) (rs : List (List Int)) : Prop where
  ex : ∃ vs : List Value, w.ownsRow lo 27 1 v rs.length vs ∧
    (∀ (k : Nat) u l, vs[k]? = some u → rs[k]? = some l → Own w lo u l ∧ ∀ g, u.ownBlock = some g → g < hi) ∧
    (∀ (j k : Nat) u u', j < k → vs[j]? = some u → vs[k]? = some u' → u.ownBlock = none ∨ u.ownBlock ≠ u'.ownBlock)

theorem own_ne {w : World} {b b' : Nat} {v u : Value} {n : Nat} {xs : List Value} {l : List Int} (h : w.ownsRow b 27 1 v n xs) (k : Own w b' u l) : u.ownBlock = none ∨ u.ownBlock ≠ v.ownBlock := by
  rcases k.row.2 with ⟨rfl, _⟩ | ⟨g, cap, cur, rfl, _, hg, _⟩
  · exact .inl rfl
  · refine .inr fun e => ?_
    rcases h.2 with ⟨rfl, _⟩ | ⟨g', cap', cur', rfl, _, hg', _⟩
    · simp [Value.ownBlock] at e
    · simp [Value.ownBlock] at e
      subst e
      rw [hg] at hg'
      simp at hg'

section
variable {w w' : World} {lo hi lo' hi' n c k : Nat} {v : Value} {A : Option Addr} {rs : List (List Int)}
theorem OwnM.shape (h : OwnM w lo hi v rs) : (v = .slice none 0 0 ∧ rs = []) ∨ ∃ g c, v = .slice (some ⟨g, 0, none⟩) rs.length c ∧ lo ≤ g ∧ g < w.heap.size := by
  obtain ⟨vs, h1, _⟩ := h.ex
  rcases h1.2 with ⟨hv, h0⟩ | ⟨g, cap, cur, hv, hg, hh, _⟩
  · exact .inl ⟨hv, List.eq_nil_of_length_eq_zero h0⟩
  · exact .inr ⟨g, cap, hv, hg, (Array.getElem?_eq_some_iff.1 hh).1⟩
theorem OwnM.slice (h : OwnM w lo hi v rs) : ∃ A c, v = .slice A rs.length c := by
  rcases h.shape with ⟨rfl, rfl⟩ | ⟨g, c, rfl, _⟩
  · exact ⟨_, _, rfl⟩
  · exact ⟨_, _, rfl⟩
theorem OwnM.len (h : OwnM w lo hi (.slice A n c) rs) : n = rs.length := by
  obtain ⟨A', c', e⟩ := h.slice
  injection e
theorem OwnM.mat (h : OwnM w lo hi (.slice A n c) rs) : Mat w w.heap.size A n c rs := by
  obtain ⟨vs, h1, h2, _⟩ := h.ex
  have hvl := h1.1
  rcases h1.2 with ⟨hv, h0⟩ | ⟨g, cap, cur, hv, hg, hh, hn, hm, hs, ht⟩
  · injection hv with e1 e2 e3
    subst e1; subst e2; subst e3
    obtain rfl := List.eq_nil_of_length_eq_zero h0
    exact Mat.nil
  · injection hv with e1 e2 e3
    subst e1; subst e2; subst e3
    refine ⟨rfl, hn, hm, fun hp => ⟨g, 0, rfl, (Array.getElem?_eq_some_iff.1 hh).1, fun j l hl => ?_⟩, fun e => by cases e⟩
    have hj : j < rs.length := (List.getElem?_eq_some_iff.1 hl).1
    have hjv : j < vs.length := by omega
    have hu := List.getElem?_eq_getElem hjv
    obtain ⟨A', c', e⟩ := (h2 j _ l hu hl).1.slice
    have ho := (h2 j _ l hu hl).1
    rw [e] at ho
    refine ⟨A', l.length, c', ?_, ho.ints⟩
    rw [Nat.zero_add, h1.cellAt j (by omega), hu, e]
theorem OwnM.kept {row : Option Nat} (h : OwnM w lo hi v rs) (hg : w.grownBy w' row) (hr : ∀ k, row = some k → k < lo ∨ w.heap.size ≤ k) : OwnM w' lo hi v rs := by
  obtain ⟨vs, h1, h2, h3⟩ := h.ex
  have hf : ∀ u : Value, (∀ k, u.ownBlock = some k → lo ≤ k ∧ k < w.heap.size) → u.ownBlock = none ∨ u.ownBlock ≠ row := fun u hu => by
    cases hk : u.ownBlock with
    | none => exact .inl rfl
    | some k => exact .inr fun e => by have a := hu k hk; have b := hr k e.symm; omega
  exact ⟨vs, h1.kept hg (hf _ h1.lt), fun k u l hu hl => ⟨(h2 k u l hu hl).1.kept hg (hf _ (h2 k u l hu hl).1.row.lt), (h2 k u l hu hl).2⟩, h3⟩
theorem OwnM.up (h : OwnM w lo hi v rs) (hq : Below w.heap.size w w') : OwnM w' lo hi v rs :=
  h.kept (row := none) ⟨hq.os, hq.tape, hq.output, hq.size, fun k hk _ => hq.block k hk⟩ (fun _ e => by cases e)
theorem OwnM.drewN (h : OwnM w lo hi v rs) (k : Nat) : OwnM (w.drewN k) lo hi v rs := h.up (below_drewN (Below.refl _ _) k)
theorem OwnM.alloc (h : OwnM w lo hi v rs) (o : Obj) : OwnM (w.alloc o) lo hi v rs := h.up ((Below.refl _ _).alloc (Nat.le_refl _) o)
theorem OwnM.past {g : Nat} (h : OwnM w lo hi v rs) (hg : w.grownBy w' (some g)) (hlt : g < lo) : OwnM w' lo hi v rs := h.kept hg (fun k e => by injection e with e; omega)
theorem OwnM.wide (h : OwnM w lo hi v rs) (hh : hi ≤ hi') : OwnM w lo hi' v rs := by
  obtain ⟨vs, h1, h2, h3⟩ := h.ex
  exact ⟨vs, h1, fun k u l hu hl => ⟨(h2 k u l hu hl).1, fun g hg => by have := (h2 k u l hu hl).2 g hg; omega⟩, h3⟩
theorem ownsRow_down {e : TypeId} {size : Nat} {xs : List Value} (h : w.ownsRow lo e size v n xs) (hb : lo' ≤ lo) : w.ownsRow lo' e size v n xs := by
  refine ⟨h.1, ?_⟩
  rcases h.2 with hn | ⟨g, cap, cur, hv, hg, r⟩
  · exact .inl hn
  · exact .inr ⟨g, cap, cur, hv, by omega, r⟩
theorem OwnM.down (h : OwnM w lo hi v rs) (hb : lo' ≤ lo) : OwnM w lo' hi v rs := by
  obtain ⟨vs, h1, h2, h3⟩ := h.ex
  exact ⟨vs, ownsRow_down h1 hb, fun k u l hu hl => ⟨(h2 k u l hu hl).1.down hb, (h2 k u l hu hl).2⟩, h3⟩
theorem OwnM.none_ : OwnM w lo hi (.slice none 0 0) [] := ⟨[], World.ownsRow_nil _ _ _ _, fun _ _ _ h => by simp at h, fun _ _ _ _ _ h => by simp at h⟩
/-- A slice literal without rows. -/
theorem ownM_empty (hb : lo ≤ w.heap.size) : OwnM (w.alloc (.cells #[] 27)) lo hi (.slice (some ⟨w.heap.size, 0, none⟩) 0 0) [] :=
  ⟨[], World.ownsRow_made w #[] 0 hb (Nat.zero_le _) rfl, fun _ _ _ h => by simp at h, fun _ _ _ _ _ h => by simp at h⟩
/-- The rows that 'make' lays: all nil. -/
theorem ownM_made {h0 m : Nat} (ho : w.ownsRow h0 27 1 (.slice (some ⟨h0, 0, none⟩) m m) m (madeCells (Value.slice none 0 0).cells (m * 1)).toList) : OwnM w h0 hi (.slice (some ⟨h0, 0, none⟩) m m) (List.replicate m []) := by
  have e1 : (madeCells (Value.slice none 0 0).cells (m * 1)).toList = List.replicate m (Value.slice none 0 0) := by
    simp [Value.cells, toList_madeCells_one]
  rw [e1] at ho
  refine ⟨_, by rw [List.length_replicate]; exact ho, fun k u l hu hl => ?_, fun j k u u' _ hu _ => ?_⟩
  · have a := List.eq_of_mem_replicate (List.mem_of_getElem? hu)
    have b := List.eq_of_mem_replicate (List.mem_of_getElem? hl)
    subst a; subst b
    exact ⟨Own.none_, fun g e => by simp [Value.ownBlock] at e⟩
  · have a := List.eq_of_mem_replicate (List.mem_of_getElem? hu)
    subst a
    exact .inl rfl
end

section
variable {w w' : World} {lo hi : Nat} {v u v' : Value} {rs : List (List Int)} {l : List Int} {n : Nat} {vs : List Value}
/-- One row more behind the others. -/
theorem OwnM.pushed (h1 : w.ownsRow lo 27 1 v rs.length vs)
    (h2 : ∀ (k : Nat) u l, vs[k]? = some u → rs[k]? = some l → Own w lo u l ∧ ∀ g, u.ownBlock = some g → g < hi)
    (h3 : ∀ (j k : Nat) u u', j < k → vs[j]? = some u → vs[k]? = some u' → u.ownBlock = none ∨ u.ownBlock ≠ u'.ownBlock)
    (hu : Own w hi u l) (hlo : lo ≤ hi) (hn : w'.ownsRow lo 27 1 v' (rs.length + 1) (vs ++ [u])) (hg : w.grownBy w' v.ownBlock) : OwnM w' lo w'.heap.size v' (rs ++ [l]) := by
  have hvl : vs.length = rs.length := by have := h1.1; omega
  have hk : ∀ (u : Value) (l : List Int) {b : Nat}, Own w b u l → Own w' b u l := fun u l b ho => ho.kept hg (own_ne h1 ho)
  refine ⟨vs ++ [u], by rw [List.length_append]; exact hn, fun k y m hy hm => ?_, fun j k y y' hjk hy hy' => ?_⟩
  · rcases Nat.lt_or_ge k vs.length with hlt | hge
    · rw [List.getElem?_append_left hlt] at hy
      rw [List.getElem?_append_left (by omega)] at hm
      have ho := hk y m (h2 k y m hy hm).1
      exact ⟨ho, fun g e => (ho.row.lt g e).2⟩
    · have hkl : k = vs.length := by
        have := (List.getElem?_eq_some_iff.1 hy).1
        rw [List.length_append] at this; simp at this; omega
      subst hkl
      rw [List.getElem?_concat_length] at hy
      rw [hvl, List.getElem?_concat_length] at hm
      injection hy with hy; injection hm with hm
      subst hy; subst hm
      have ho := hk _ _ hu
      exact ⟨ho.down hlo, fun g e => (ho.row.lt g e).2⟩
  · rcases Nat.lt_or_ge k vs.length with hlt | hge
    · rw [List.getElem?_append_left hlt] at hy'
      rw [List.getElem?_append_left (by omega)] at hy
      exact h3 j k y y' hjk hy hy'
    · have hkl : k = vs.length := by
        have := (List.getElem?_eq_some_iff.1 hy').1
        rw [List.length_append] at this; simp at this; omega
      subst hkl
      rw [List.getElem?_concat_length] at hy'
      injection hy' with hy'
      subst hy'
      rw [List.getElem?_append_left hjk] at hy
      have hm := List.getElem?_eq_getElem (l := rs) (i := j) (by omega)
      have hb := (h2 j y _ hy hm).2
      cases hyb : y.ownBlock with
      | none => exact .inl rfl
      | some g =>
        refine .inr fun e => ?_
        have a := hb g hyb
        have b := (hu.row.lt g e.symm).1
        omega
end

section
variable {P : Program} (w : World)
theorem wpList_appM {ops : Array Oper} {rest : List Oper} {o : Oper} {a : Act} {Q : Exit → Act → World → Prop} (hgd : o.guard = none) (s x : Operand) (t : TypeId)
    (ho : o.op = .call { callee := .builtin .append, args := #[s, x], argTypes := #[t, t] })
    (i : TypeInfo) (ht : P.underlying t = some (.slice 27)) (hi : P.info? 27 = some i) (hz0 : i.zero = some (.slice none 0 0)) (hz1 : i.size = 1) (hz2 : i.bytes = 24)
    {lo hi' : Nat} (v : Value) (rs : List (List Int)) (hs : a.eval s = v) (hown : OwnM w lo hi' v rs) (u : Value) (l : List Int) (hu : Own w hi' u l) (hlo : lo ≤ hi') (hbase : lo ≤ w.heap.size) (ad : Addr) (c : Nat) (hx : a.eval x = .slice (some ad) 1 c)
    (hcell : w.cell? ad = some u) (hsz : rs.length ≤ 1048576000)
    (h : ∀ A' n' c' w', OwnM w' lo w'.heap.size (.slice A' n' c') (rs ++ [l]) → w.grownBy w' v.ownBlock → wpList P ops Q rest (a.put o.dst (.slice A' n' c')) w') : wpList P ops Q (o :: rest) a w := by
  obtain ⟨vs, h1, h2, h3⟩ := hown.ex
  obtain ⟨Au, cu, eu⟩ := hu.slice
  refine wpList_append_own w hgd s x t ho lo 27 i (.slice none 0 0) 1 24 ht hi hz0 hz1 hz2 rfl (by decide) v rs.length vs hs h1 ad 1 c [u] hx rfl (fun j y hy => ?_) (fun y hy => ?_) (by unfold maxLen; omega) (by omega) hbase fun v' w' hr hg _ => ?_
  · cases j with
    | zero => simp at hy; subst hy; simpa [Addr.add] using hcell
    | succ j => simp at hy
  · simp at hy; subst hy; rw [eu]; rfl
  · have hO := OwnM.pushed h1 h2 h3 hu hlo hr hg
    obtain ⟨A', c', e⟩ := hO.slice
    subst e
    exact h A' _ c' w' hO hg
end

section
variable {w w' : World} {lo hi n c k : Nat} {A : Option Addr} {v : Value} {rs : List (List Int)} {l l' : List Int}
/-- Row k, as the walk meets it. -/
theorem OwnM.at_ (h : OwnM w lo hi v rs) (hl : rs[k]? = some l) : ∃ g c u, v = .slice (some ⟨g, 0, none⟩) rs.length c ∧ lo ≤ g ∧ w.cell? ⟨g, k, none⟩ = some u ∧ w.frozen? ⟨g, k, none⟩ = false ∧ Own w lo u l ∧ (∀ j, u.ownBlock = some j → j < hi) ∧
    (∀ w' l', Own w' lo u l' → w.grownBy w' u.ownBlock → OwnM w' lo hi v (rs.set k l')) := by
  obtain ⟨vs, h1, h2, h3⟩ := h.ex
  have hk := (List.getElem?_eq_some_iff.1 hl).1
  have hvl : vs.length = rs.length := by have := h1.1; omega
  rcases h.shape with ⟨_, rfl⟩ | ⟨g, c, rfl, hg, hlt⟩
  · simp at hl
  · have hu := List.getElem?_eq_getElem (l := vs) (i := k) (by omega)
    refine ⟨g, c, vs[k], rfl, hg, by rw [h1.cellAt k (by omega), hu], h1.frozenAt k, (h2 k _ l hu hl).1, (h2 k _ l hu hl).2, fun w' l' ho hgr => ?_⟩
    have hne := own_ne h1 (h2 k _ l hu hl).1
    refine ⟨vs, by rw [List.length_set]; exact h1.kept hgr (by
      rcases hne with e | e
      · rw [e]; cases (Value.slice (some ⟨g, 0, none⟩) rs.length c).ownBlock <;> simp
      · exact .inr fun e' => e e'.symm), fun j y m hy hm => ?_, h3⟩
    by_cases hjk : j = k
    · subst hjk
      rw [hu] at hy
      injection hy with hy
      subst hy
      rw [List.getElem?_set_self hk] at hm
      injection hm with hm
      subst hm
      exact ⟨ho, (h2 j _ l hu hl).2⟩
    · rw [List.getElem?_set_ne (fun e => hjk e.symm)] at hm
      refine ⟨(h2 j y m hy hm).1.kept hgr ?_, (h2 j y m hy hm).2⟩
      rcases Nat.lt_or_ge j k with hlt | hge
      · rcases h3 j k y _ hlt hy hu with e | e
        · exact .inl e
        · exact .inr e
      · rcases h3 k j _ y (by omega) hu hy with e | e
        · rw [e]; cases y.ownBlock <;> simp
        · exact .inr fun e' => e e'.symm
/-- A store into row k. -/
theorem OwnM.setIn (h : OwnM w lo hi v rs) (hl : rs[k]? = some l) {j : Nat} {x : Int} (hx : l[j]? = some x) : ∃ g c gk ck, v = .slice (some ⟨g, 0, none⟩) rs.length c ∧ w.cell? ⟨g, k, none⟩ = some (.slice (some ⟨gk, 0, none⟩) l.length ck) ∧ w.cell? ⟨gk, j, none⟩ = some (.int .i64 x) ∧ w.frozen? ⟨gk, j, none⟩ = false ∧ lo ≤ gk ∧
    ∀ y : Int, (Lit.int .i64 y).wf = true → OwnM (w.setCell ⟨gk, j, none⟩ (.int .i64 y)) lo hi v (rs.set k (l.set j y)) := by
  obtain ⟨g, c, u, hv, hg, hcell, _, ho, _, hset⟩ := h.at_ hl
  obtain ⟨gk, ck, hu, hgk, _, hcj⟩ := ho.at_ hx
  subst hu
  refine ⟨g, c, gk, ck, hv, hcell, hcj, ho.froz j, hgk, fun y hy => hset _ _ (ho.set_ y hy) ?_⟩
  exact (ho.row.stored j (.int .i64 y)).2
/-- A new row in place of row k. -/
theorem OwnM.setRow {g : Nat} (h : OwnM w lo hi (.slice (some ⟨g, 0, none⟩) n c) rs) {u : Value} (hu : Own w hi u l) (hlo : lo ≤ hi) (hk : k < rs.length) : OwnM (w.setCell ⟨g, k, none⟩ u) lo w.heap.size (.slice (some ⟨g, 0, none⟩) n c) (rs.set k l) ∧ w.frozen? ⟨g, k, none⟩ = false ∧ (∃ y, w.cell? ⟨g, k, none⟩ = some y) ∧ lo ≤ g := by
  obtain ⟨vs, h1, h2, h3⟩ := h.ex
  have hn := h.len
  subst hn
  have hvl : vs.length = rs.length := by have := h1.1; omega
  have hst := h1.stored k u
  have hkp : ∀ (y : Value) (m : List Int) {b : Nat}, Own w b y m → Own (w.setCell ⟨g, k, none⟩ u) b y m := fun y m b ho => ho.kept hst.2 (own_ne h1 ho)
  have hsz : (w.setCell ⟨g, k, none⟩ u).heap.size = w.heap.size := by simp [World.setCell]
  refine ⟨⟨vs.set k u, by rw [List.length_set]; exact hst.1, fun j y m hy hm => ?_, fun i j y y' hij hy hy' => ?_⟩, h1.frozenAt k, ⟨vs[k]'(by omega), by rw [h1.cellAt k (by omega), List.getElem?_eq_getElem]⟩, ?_⟩
  · by_cases hjk : j = k
    · subst hjk
      rw [List.getElem?_set_self (by omega)] at hy hm
      injection hy with hy; injection hm with hm
      subst hy; subst hm
      have ho := hkp _ _ hu
      exact ⟨ho.down hlo, fun q e => by have := (ho.row.lt q e).2; omega⟩
    · rw [List.getElem?_set_ne (fun e => hjk e.symm)] at hy hm
      have ho := hkp _ _ (h2 j y m hy hm).1
      exact ⟨ho, fun q e => by have := (ho.row.lt q e).2; omega⟩
  · have hfr : ∀ {j : Nat} {y : Value}, j ≠ k → vs[j]? = some y → y.ownBlock = none ∨ y.ownBlock ≠ u.ownBlock := fun {j y} hj hy => by
      have hjl := (List.getElem?_eq_some_iff.1 hy).1
      have hm := List.getElem?_eq_getElem (l := rs) (i := j) (by omega)
      have hb := (h2 j y _ hy hm).2
      cases hyb : y.ownBlock with
      | none => exact .inl rfl
      | some q =>
        refine .inr fun e => ?_
        have a := hb q hyb
        have b := (hu.row.lt q e.symm).1
        omega
    by_cases hik : i = k
    · subst hik
      rw [List.getElem?_set_self (by omega)] at hy
      rw [List.getElem?_set_ne (by omega)] at hy'
      injection hy with hy
      subst hy
      rcases hfr (by omega) hy' with e | e
      · rw [e]; cases u.ownBlock <;> simp
      · exact .inr fun e' => e e'.symm
    · by_cases hjk : j = k
      · subst hjk
        rw [List.getElem?_set_self (by omega)] at hy'
        rw [List.getElem?_set_ne (fun e => hik e.symm)] at hy
        injection hy' with hy'
        subst hy'
        exact hfr hik hy
      · rw [List.getElem?_set_ne (fun e => hik e.symm)] at hy
        rw [List.getElem?_set_ne (fun e => hjk e.symm)] at hy'
        exact h3 i j y y' hij hy hy'
  · rcases h.shape with ⟨hv, _⟩ | ⟨g', c', hv, hg, _⟩
    · cases hv
    · injection hv with e1; injection e1 with e1; injection e1 with e1; omega
/-- A nil row in the rows that 'make' lays: what the cell holds is what is written over; see 'setRow'. -/
theorem ownBlock_slice (g n c : Nat) : (Value.slice (some ⟨g, 0, none⟩) n c).ownBlock = some g := rfl
end
end Go.Proofs.Ythdelfhfglnhfab
