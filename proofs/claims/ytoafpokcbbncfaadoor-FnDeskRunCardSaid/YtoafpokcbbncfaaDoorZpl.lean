/-
  Words, plain lemmas and contracts that belong together, joined into one file.
-/
import Derived.WalkKit
import Derived.WalkSpells
import Derived.Below
import Derived.Deep.Draws
import Derived.Laws.OwnMore
import Derived.OwnWalk
import Derived.Deep.QuietTactic
import Derived.Laws.AppendOwnNone
import Derived.Deep.RegionLaw
namespace Go.Proofs.YtoafpokcbbncfaaDoor
open Go.RowKit

theorem hide {p : Prop} (h : p) : Hid p := h

/-- The slice '.slice A n c' holds the ints zs; its cells lie below block B. -/
structure Ints (w : World) (B : Nat) (A : Option Addr) (n c : Nat) (zs : List Int) : Prop where
  len : zs.length = n
  le : n ≤ c
  big : c ≤ maxLen
  cells : 0 < n → ∃ b off, A = some ⟨b, off, none⟩ ∧ b < B ∧ ∀ j x, zs[j]? = some x → w.cell? ⟨b, off + j, none⟩ = some (.int .i64 x)
  wf : ∀ z ∈ zs, (Lit.int .i64 z).wf = true
  nil0 : A = none → c = 0

section
variable {w w' : World} {B B' n c k : Nat} {A : Option Addr} {zs : List Int}
theorem Ints.look (h : Ints w B A n c zs) (hk : k < n) : ∃ b off x, A = some ⟨b, off, none⟩ ∧ b < B ∧ Hid (zs[k]? = some x) ∧ w.cell? ⟨b, off + k, none⟩ = some (.int .i64 x) := by
  obtain ⟨b, off, e, hb, hc⟩ := h.cells (by omega)
  have hl : k < zs.length := by have := h.len; omega
  exact ⟨b, off, zs[k], e, hb, List.getElem?_eq_getElem hl, hc k _ (List.getElem?_eq_getElem hl)⟩
theorem Ints.nb (h : Ints w B A n c zs) : n ≤ 9223372036854775807 := by have := h.le; have := h.big; unfold maxLen at this; omega
theorem Ints.keep (h : Ints w B A n c zs) (hk : ∀ p : Addr, p.block < B → w'.cell? p = w.cell? p) : Ints w' B A n c zs :=
  ⟨h.len, h.le, h.big, fun hn => by
    obtain ⟨b, off, e, hb, hc⟩ := h.cells hn
    exact ⟨b, off, e, hb, fun j x hx => (hk _ hb).trans (hc j x hx)⟩, h.wf, h.nil0⟩
theorem Ints.more (h : Ints w B A n c zs) (hB : B ≤ B') : Ints w B' A n c zs :=
  ⟨h.len, h.le, h.big, fun hn => by
    obtain ⟨b, off, e, hb, hc⟩ := h.cells hn
    exact ⟨b, off, e, by omega, hc⟩, h.wf, h.nil0⟩
theorem Ints.below (h : Ints w B A n c zs) (hb : Below B w w') : Ints w' B A n c zs := h.keep fun _ hp => hb.cell hp
theorem Ints.drew (h : Ints w B A n c zs) : Ints w.drew B A n c zs := ⟨h.len, h.le, h.big, h.cells, h.wf, h.nil0⟩
theorem Ints.drewN (h : Ints w B A n c zs) (k : Nat) : Ints (w.drewN k) B A n c zs := ⟨h.len, h.le, h.big, h.cells, h.wf, h.nil0⟩
theorem Ints.alloc (h : Ints w B A n c zs) (hB : B ≤ w.heap.size) (o : Obj) : Ints (w.alloc o) B A n c zs := h.keep fun p hp => World.cell?_alloc_lt w o p (by omega)
theorem Ints.setCell (h : Ints w B A n c zs) {p : Addr} (hB : B ≤ p.block) (u : Value) : Ints (w.setCell p u) B A n c zs :=
  h.keep fun q hq => World.cell?_setCell_other w p q u (fun e => by subst e; omega)
theorem Ints.nil : Ints w B none 0 0 [] := ⟨rfl, Nat.le_refl _, Nat.zero_le _, fun h => absurd h (by omega), (fun _ h => by cases h), fun _ => rfl⟩
end
theorem below_drewN {B : Nat} {a w : World} (h : Below B a w) (n : Nat) : Below B a (w.drewN n) := ⟨h.os, h.tape, h.output, h.size, h.block⟩
/-! A quiet callee at a call inside a region that draws: its post says 'w = w'' (or some draws), the region wants draws over its own first world. -/
section
variable {P : Program} {f : FuncId} {args : Array Value} {w : World} {a n : Nat} {v : Value}
end
theorem quietB {P : Program} {f : FuncId} {args : Array Value} {w : World} {e0 : Ending} (h : Calls P f args w fun e w' => e = e0 ∧ ∃ q, w' = w.drewN q) : Calls P f args w fun e w' => e = e0 ∧ Below w.heap.size w w' :=
  h.mono fun _ _ ⟨he, q, hw⟩ => ⟨he, by rw [hw]; exact below_drewN (Below.refl _ _) q⟩
/-- Two slices of blocks in ranges that lie apart share no block. -/
theorem apart {v u : Value} {a b c d : Nat} (hv : ∀ k, v.ownBlock = some k → a ≤ k ∧ k < b) (hu : ∀ k, u.ownBlock = some k → c ≤ k ∧ k < d) (h : b ≤ c ∨ d ≤ a) : v.ownBlock = none ∨ v.ownBlock ≠ u.ownBlock := by
  cases hk : v.ownBlock with
  | none => exact .inl rfl
  | some k =>
    refine .inr fun e => ?_
    have h1 := hv k hk
    have h2 := hu k e.symm
    omega
theorem ret_bool {a b : Bool} (h : a = b) : Ending.returned (.bool a) = .returned (.bool b) := by rw [h]
/-- What the call itself made: the slice v owns just the ints zs, in a block from 'base' on. -/
structure Own (w : World) (base : Nat) (v : Value) (zs : List Int) : Prop where
  row : w.ownsRow base 3 1 v zs.length (zs.map (Value.int .i64))
  wf : ∀ z ∈ zs, (Lit.int .i64 z).wf = true

section
variable {w w' : World} {base base' n c : Nat} {v : Value} {A : Option Addr} {zs : List Int}
theorem Own.shape (h : Own w base v zs) : (v = .slice none 0 0 ∧ zs = []) ∨ ∃ g c, v = .slice (some ⟨g, 0, none⟩) zs.length c ∧ base ≤ g ∧ g < w.heap.size := by
  rcases h.row.2 with ⟨hv, h0⟩ | ⟨g, cap, cur, hv, hg, hh, _⟩
  · exact .inl ⟨hv, List.eq_nil_of_length_eq_zero h0⟩
  · exact .inr ⟨g, cap, hv, hg, (Array.getElem?_eq_some_iff.1 hh).1⟩
theorem Own.slice (h : Own w base v zs) : ∃ A c, v = .slice A zs.length c := by
  rcases h.shape with ⟨rfl, rfl⟩ | ⟨g, c, rfl, _⟩
  · exact ⟨_, _, rfl⟩
  · exact ⟨_, _, rfl⟩
theorem Own.ints (h : Own w base (.slice A n c) zs) : Ints w w.heap.size A n c zs := by
  rcases h.row.2 with ⟨hv, h0⟩ | ⟨g, cap, cur, hv, hg, hh, hn, hm, hs, ht⟩
  · injection hv with h1 h2 h3
    subst h1; subst h2; subst h3
    obtain rfl := List.eq_nil_of_length_eq_zero h0
    exact Ints.nil
  · injection hv with h1 h2 h3
    subst h1; subst h2; subst h3
    refine ⟨rfl, hn, hm, fun hp => ⟨g, 0, rfl, (Array.getElem?_eq_some_iff.1 hh).1, fun j x hx => ?_⟩, h.wf, fun e => by cases e⟩
    have hj : j < zs.length := (List.getElem?_eq_some_iff.1 hx).1
    rw [Nat.zero_add, h.row.cellAt j (by omega)]
    simp [hx]
theorem Own.len (h : Own w base (.slice A n c) zs) : n = zs.length := by
  rcases h.row.2 with ⟨hv, h0⟩ | ⟨g, cap, cur, hv, _⟩
  · injection hv with h1 h2 h3; omega
  · injection hv
theorem Own.kept {row : Option Nat} (h : Own w base v zs) (hg : w.grownBy w' row) (hne : v.ownBlock = none ∨ v.ownBlock ≠ row) : Own w' base v zs := ⟨h.row.kept hg hne, h.wf⟩
theorem Own.below {B : Nat} (h : Own w base v zs) (hb : Below B w w') (hB : w.heap.size ≤ B) : Own w' base v zs :=
  h.kept (row := none) ⟨hb.os, hb.tape, hb.output, hb.size, fun k hk _ => hb.block k (by omega)⟩ (by cases v.ownBlock <;> simp)
theorem Own.down (h : Own w base v zs) (hb : base' ≤ base) : Own w base' v zs := by
  refine ⟨⟨h.row.1, ?_⟩, h.wf⟩
  rcases h.row.2 with hn | ⟨g, cap, cur, hv, hg, r⟩
  · exact .inl hn
  · exact .inr ⟨g, cap, cur, hv, by omega, r⟩
theorem Own.drew (h : Own w base v zs) : Own w.drew base v zs := ⟨h.row, h.wf⟩
theorem Own.drewN (h : Own w base v zs) (k : Nat) : Own (w.drewN k) base v zs := ⟨h.row, h.wf⟩
theorem Own.none_ : Own w base (.slice none 0 0) [] := ⟨World.ownsRow_nil _ _ _ _, fun _ h => by cases h⟩
end
/-- From the frame's own word ('IsRow', unfolded) to 'Ints'. -/
theorem ints_of {w : World} {a : Option Addr} {len cap : Nat} {zs : List Int}
    (h : (a = none ∧ len = 0 ∧ cap = 0 ∧ zs = []) ∨ ∃ x, a = some x ∧ len ≤ cap ∧ cap ≤ maxLen ∧ zs.length = cap ∧ (∀ i, i < zs.length → w.cell? (x.add i) = some (.int .i64 (zs.getD i 0))) ∧ ∀ n ∈ zs, (Lit.int .i64 n).wf = true) :
    Ints w w.heap.size a len cap (zs.take len) := by
  rcases h with ⟨rfl, rfl, rfl, rfl⟩ | ⟨x, rfl, hl, hm, hz, hc, hw⟩
  · exact Ints.nil
  · refine ⟨by rw [List.length_take]; omega, hl, hm, fun hp => ?_, fun z hz => hw z (List.mem_of_mem_take hz), fun e => by cases e⟩
    obtain ⟨b, off, spot⟩ := x
    have h0 := hc 0 (by omega)
    have hspot : spot = none := by simpa [Addr.add] using World.cell?_spot h0
    subst hspot
    refine ⟨b, off, rfl, ?_, fun j y hy => ?_⟩
    · have := World.block_lt_of_cell? w _ h0
      simpa [Addr.add] using this
    · have hj : j < len := by
        have := (List.getElem?_eq_some_iff.1 hy).1
        rw [List.length_take] at this
        omega
      have h1 := hc j (by omega)
      rw [List.getElem?_take_of_lt hj] at hy
      have e : (Addr.mk b off none).add j = ⟨b, off + j, none⟩ := by
        unfold Addr.add
        by_cases hj0 : j = 0 <;> simp [hj0]
      rw [e] at h1
      rw [h1]
      simp [hy]
/-- The first k of zs, and zeros up to its length. -/
def cpy (zs : List Int) (k : Nat) : List Int := zs.take k ++ List.replicate (zs.length - k) 0
theorem cpy_zero (zs : List Int) : cpy zs 0 = List.replicate zs.length 0 := by simp [cpy]
theorem cpy_all (zs : List Int) : cpy zs zs.length = zs := by simp [cpy]
theorem cpy_len (zs : List Int) (k : Nat) : (cpy zs k).length = zs.length := by
  simp [cpy]; omega
theorem cpy_set (zs : List Int) (k : Nat) (x : Int) (h : zs[k]? = some x) : (cpy zs k).set k x = cpy zs (k + 1) := by
  obtain ⟨hk, rfl⟩ := List.getElem?_eq_some_iff.1 h
  apply List.ext_getElem
  · simp [cpy]; omega
  · intro j h1 h2
    rw [List.getElem_set]
    split
    · subst_vars; simp [cpy, List.getElem_append]; omega
    · simp only [cpy, List.getElem_append, List.length_take, List.getElem_take, List.getElem_replicate]
      split <;> split <;> first | rfl | omega
theorem wf_i64 {z : Int} (h : -9223372036854775808 ≤ z ∧ z ≤ 9223372036854775807) : (Lit.int .i64 z).wf = true := by
  simp [Lit.wf, IntKind.min, IntKind.max, IntKind.signed, IntKind.bits]; omega
theorem i64_wf {z : Int} (h : (Lit.int .i64 z).wf = true) : -9223372036854775808 ≤ z ∧ z ≤ 9223372036854775807 := by
  simp [Lit.wf, IntKind.min, IntKind.max, IntKind.signed, IntKind.bits] at h; omega

/-! ### Plain functions -/
def ballsOk (z : Int) : Bool := decide (0 ≤ z ∧ z ≤ 40)
def urnOk (zs : List Int) : Bool := decide (1 ≤ zs.length ∧ zs.length ≤ 3) && zs.all ballsOk
theorem urnOk_len {zs : List Int} (h : zs.length < 1 ∨ 3 < zs.length) : urnOk zs = false := by
  unfold urnOk; rw [decide_eq_false (by omega)]; rfl
theorem urnOk_bad {zs : List Int} {k : Nat} {x : Int} (h : zs[k]? = some x) (hx : x < 0 ∨ 40 < x) : urnOk zs = false := by
  have hm := List.mem_of_getElem? h
  have : zs.all ballsOk = false := by
    rw [List.all_eq_false]
    exact ⟨x, hm, by simp [ballsOk]; omega⟩
  unfold urnOk; rw [this, Bool.and_false]
theorem urnOk_good {zs : List Int} (hl : 1 ≤ zs.length ∧ zs.length ≤ 3) (h : ∀ j x, j < zs.length → zs[j]? = some x → 0 ≤ x ∧ x ≤ 40) : urnOk zs = true := by
  unfold urnOk
  rw [decide_eq_true hl, Bool.true_and, List.all_eq_true]
  intro x hx
  obtain ⟨j, hj, rfl⟩ := List.getElem_of_mem hx
  simpa [ballsOk] using h j _ hj (List.getElem?_eq_getElem hj)

def sameL (xs ys : List Int) : Bool := decide (xs = ys)
theorem sameL_len {xs ys : List Int} (h : xs.length ≠ ys.length) : sameL xs ys = false := decide_eq_false (fun e => h (by rw [e]))
theorem sameL_bad {xs ys : List Int} {k : Nat} {x y : Int} (hx : xs[k]? = some x) (hy : ys[k]? = some y) (h : x ≠ y) : sameL xs ys = false :=
  decide_eq_false (fun e => by subst e; rw [hx] at hy; injection hy with hy; exact h hy)
theorem sameL_good {xs ys : List Int} (hl : xs.length = ys.length) (h : ∀ j, j < xs.length → xs[j]? = ys[j]?) : sameL xs ys = true :=
  decide_eq_true (List.ext_getElem? fun j => by
    rcases Nat.lt_or_ge j xs.length with hj | hj
    · exact h j hj
    · rw [List.getElem?_eq_none hj, List.getElem?_eq_none (by omega)])
theorem sameL_refl (xs : List Int) : sameL xs xs = true := decide_eq_true rfl
end Go.Proofs.YtoafpokcbbncfaaDoor

namespace Go.Proofs.YtoafpokcbbncfaaDoor
open Go.RowKit

theorem ints_cells {w : World} {B b off c : Nat} {n : Nat} {zs : List Int} (h : Ints w B (some ⟨b, off, none⟩) n c zs) :
    ∀ j u, (zs.map (Value.int .i64))[j]? = some u → w.cell? ((⟨b, off, none⟩ : Addr).add j) = some u := by
  intro j u hu
  rw [List.getElem?_map] at hu
  obtain ⟨x, hx, rfl⟩ := Option.map_eq_some_iff.1 hu
  have hl := h.len
  have hj : j < n := by have := (List.getElem?_eq_some_iff.1 hx).1; omega
  obtain ⟨b', off', e, _, hc⟩ := h.cells (by omega)
  injection e with e
  injection e with e1 e2
  subst e1; subst e2
  have e : (Addr.mk b off none).add j = ⟨b, off + j, none⟩ := by
    unfold Addr.add
    by_cases hj0 : j = 0 <;> simp [hj0]
  rw [e]
  exact hc j x hx
theorem ints_one (zs : List Int) : ∀ u ∈ zs.map (Value.int .i64), u.oneCell' = true := by
  intro u hu
  obtain ⟨x, _, rfl⟩ := List.mem_map.1 hu
  rfl

/-- A number that wraps is none of an urn. -/
theorem wrap_ok (x m : Int) (hx : 0 ≤ x ∧ x ≤ 40) (hm : (Lit.int .i64 m).wf = true) : (0 ≤ wrap64 (x + m) ∧ wrap64 (x + m) ≤ 40) ↔ (0 ≤ x + m ∧ x + m ≤ 40) := by
  have := i64_wf hm
  simp only [wrap64]
  omega
theorem wrap_in (x m : Int) (h : 0 ≤ x + m ∧ x + m ≤ 40) : wrap64 (x + m) = x + m := by
  simp only [wrap64]
  omega
theorem wf_wrap64 (x : Int) : (Lit.int .i64 (wrap64 x)).wf = true := wf_i64 (by simp only [wrap64]; omega)

theorem Own.set_ {w : World} {base g n c k : Nat} {zs : List Int} (h : Own w base (.slice (some ⟨g, 0, none⟩) n c) zs) (y : Int) (hy : (Lit.int .i64 y).wf = true) :
    Own (w.setCell ⟨g, k, none⟩ (.int .i64 y)) base (.slice (some ⟨g, 0, none⟩) n c) (zs.set k y) := by
  have hn := h.len
  subst hn
  refine ⟨?_, fun z hz => ?_⟩
  · have := (h.row.stored k (.int .i64 y)).1
    rw [List.length_set, List.map_set]
    exact this
  · rcases List.mem_or_eq_of_mem_set hz with h1 | h1
    · exact h.wf z h1
    · rw [h1]; exact hy
theorem Own.froz {w : World} {base g n c : Nat} {zs : List Int} (h : Own w base (.slice (some ⟨g, 0, none⟩) n c) zs) (k : Nat) : w.frozen? ⟨g, k, none⟩ = false := by
  have hn := h.len
  subst hn
  exact h.row.frozenAt k
theorem Own.at_ {w : World} {base k : Nat} {v : Value} {x : Int} {zs : List Int} (h : Own w base v zs) (hx : zs[k]? = some x) : ∃ g c, v = .slice (some ⟨g, 0, none⟩) zs.length c ∧ base ≤ g ∧ g < w.heap.size ∧ w.cell? ⟨g, k, none⟩ = some (.int .i64 x) := by
  rcases h.shape with ⟨_, rfl⟩ | ⟨g, c, rfl, hg, hlt⟩
  · simp at hx
  · refine ⟨g, c, rfl, hg, hlt, ?_⟩
    have hk := (List.getElem?_eq_some_iff.1 hx).1
    rw [h.row.cellAt k (by omega)]
    simp [hx]

theorem own_empty {w : World} {base : Nat} (hb : base ≤ w.heap.size) : Own (w.alloc (.cells #[] 3)) base (.slice (some ⟨w.heap.size, 0, none⟩) 0 0) [] :=
  ⟨World.ownsRow_made w #[] 0 hb (Nat.zero_le _) rfl, fun _ h => by cases h⟩
theorem own_empty' {w : World} {base g : Nat} (hg : g = w.heap.size) (hb : base ≤ w.heap.size) : Own (w.alloc (.cells #[] 3)) base (.slice (some ⟨g, 0, none⟩) 0 0) [] := by
  subst hg; exact own_empty hb
theorem below_empty {w w1 : World} (hb : Below w.heap.size w w1) (o : Obj) : Below w.heap.size w (w1.alloc o) := hb.alloc hb.size o


section
variable {P : Program} (w : World)
theorem run_app (t ty : TypeId) (i : TypeInfo) (ht : P.underlying t = some (.slice 3)) (hi : P.info? 3 = some i) (hz0 : i.zero = some (.int .i64 0)) (hz1 : i.size = 1) (hz2 : i.bytes = 8)
    {base : Nat} {v : Value} {zs : List Int} (hown : Own w base v zs) {A : Option Addr} {m c B : Nat} {news : List Int} (hr : Ints w B A m c news) (hbase : base ≤ w.heap.size) (hsz : zs.length + m ≤ 1048576000) :
    ∃ A' n' c' w', (Builtin.append_ #[t, t] ty #[v, .slice A m c]).run P w = .ok (.slice A' n' c') w' ∧ Own w' base (.slice A' n' c') (zs ++ news) ∧ w.grownBy w' v.ownBlock := by
  have hl := hr.len
  cases A with
  | none =>
    have hm : m = 0 := by
      rcases Nat.eq_zero_or_pos m with h0 | h0
      · exact h0
      · obtain ⟨b, off, e, _⟩ := hr.cells h0
        cases e
    have hc := hr.nil0 rfl
    subst hm; subst hc
    obtain rfl := List.eq_nil_of_length_eq_zero hl
    obtain ⟨A', c', rfl⟩ := hown.slice
    exact ⟨A', _, c', w, run_append_owned_none w base t ty 3 i 1 ht hi _ _ _ hown.row, by simpa using hown, World.grownBy.refl w _⟩
  | some ad =>
    have hnews : ∀ j u, (news.map (Value.int .i64))[j]? = some u → w.cell? (ad.add j) = some u := by
      intro j u hu
      have hj : j < m := by
        have := (List.getElem?_eq_some_iff.1 hu).1
        rw [List.length_map] at this
        omega
      obtain ⟨b, off, e, _⟩ := hr.cells (by omega)
      injection e with e
      subst e
      exact ints_cells hr j u hu
    obtain ⟨v', w', hrun, h2, h3, _⟩ := run_append_own (P := P) w base t ty 3 i (.int .i64 0) 1 8 ht hi hz0 hz1 hz2 rfl (by decide) v zs.length _ hown.row ad m c (news.map (Value.int .i64)) (by rw [List.length_map]; omega) hnews (ints_one _) (by unfold maxLen; omega) (by omega) hbase
    have hO : Own w' base v' (zs ++ news) := ⟨by
      rw [List.length_append, List.map_append, hl]; exact h2, fun z hz => by
      rcases List.mem_append.1 hz with h | h
      · exact hown.wf z h
      · exact hr.wf z h⟩
    obtain ⟨A', c', rfl⟩ := hO.slice
    exact ⟨A', _, c', w', hrun, hO, h3⟩

theorem wp_app {o : Oper} {a : Act} {K : Act → World → Prop} {Q : Exit → Act → World → Prop} (s x : Operand) (t : TypeId)
    (ho : o.op = .call { callee := .builtin .append, args := #[s, x], argTypes := #[t, t] })
    (i : TypeInfo) (ht : P.underlying t = some (.slice 3)) (hi : P.info? 3 = some i) (hz0 : i.zero = some (.int .i64 0)) (hz1 : i.size = 1) (hz2 : i.bytes = 8)
    {base : Nat} (v : Value) (zs : List Int) (hs : a.eval s = v) (hown : Own w base v zs) (A : Option Addr) (m c B : Nat) (news : List Int) (hx : a.eval x = .slice A m c) (hr : Ints w B A m c news) (hbase : base ≤ w.heap.size) (hsz : zs.length + m ≤ 1048576000)
    (h : ∀ A' n' c' w', Own w' base (.slice A' n' c') (zs ++ news) → w.grownBy w' v.ownBlock → K (a.put o.dst (.slice A' n' c')) w') : o.wp P a w K Q := by
  obtain ⟨A', n', c', w', hrun, h2, h3⟩ := run_app (P := P) w t o.type i ht hi hz0 hz1 hz2 hown hr hbase hsz
  unfold Oper.wp execOp
  simp only [ho, resolve, invoke, builtin, Sem.run_bind, Sem.run_pure, Result.andThen_ok, List.map_toArray, List.map_cons, List.map_nil, hs, hx, hrun]
  exact h A' n' c' w' h2 h3

theorem wpList_app {ops : Array Oper} {rest : List Oper} {o : Oper} {a : Act} {Q : Exit → Act → World → Prop} (hgd : o.guard = none) (s x : Operand) (t : TypeId)
    (ho : o.op = .call { callee := .builtin .append, args := #[s, x], argTypes := #[t, t] })
    (i : TypeInfo) (ht : P.underlying t = some (.slice 3)) (hi : P.info? 3 = some i) (hz0 : i.zero = some (.int .i64 0)) (hz1 : i.size = 1) (hz2 : i.bytes = 8)
    {base : Nat} (v : Value) (zs : List Int) (hs : a.eval s = v) (hown : Own w base v zs) (A : Option Addr) (m c B : Nat) (news : List Int) (hx : a.eval x = .slice A m c) (hr : Ints w B A m c news) (hbase : base ≤ w.heap.size) (hsz : zs.length + m ≤ 1048576000)
    (h : ∀ A' n' c' w', Own w' base (.slice A' n' c') (zs ++ news) → w.grownBy w' v.ownBlock → wpList P ops Q rest (a.put o.dst (.slice A' n' c')) w') : wpList P ops Q (o :: rest) a w :=
  wpList_plain hgd fun _ hK => wp_app w s x t ho i ht hi hz0 hz1 hz2 v zs hs hown A m c B news hx hr hbase hsz fun A' n' c' w' h2 h3 => hK _ _ (h A' n' c' w' h2 h3)

theorem step_app {ops : Array Oper} {o : Oper} {a : Act} {K : Act → World → Prop} {Q : Exit → Act → World → Prop} {E : Prop} (hgd : o.guard = none) (s x : Operand) (t : TypeId)
    (ho : o.op = .call { callee := .builtin .append, args := #[s, x], argTypes := #[t, t] })
    (i : TypeInfo) (ht : P.underlying t = some (.slice 3)) (hi : P.info? 3 = some i) (hz0 : i.zero = some (.int .i64 0)) (hz1 : i.size = 1) (hz2 : i.bytes = 8)
    {base : Nat} (v : Value) (zs : List Int) (hs : a.eval s = v) (hown : Own w base v zs) (A : Option Addr) (m c B : Nat) (news : List Int) (hx : a.eval x = .slice A m c) (hr : Ints w B A m c news) (hbase : base ≤ w.heap.size) (hsz : zs.length + m ≤ 1048576000)
    (h : ∀ A' n' c' w', Own w' base (.slice A' n' c') (zs ++ news) → w.grownBy w' v.ownBlock → K (a.put o.dst (.slice A' n' c')) w') :
    if Region.wanted o (yielded ops a.tmps) = true then Oper.wp P o a w K Q else E := by
  have hw : Region.wanted o (yielded ops a.tmps) = true := by simp [Region.wanted, hgd]
  rw [if_pos hw]
  exact wp_app w s x t ho i ht hi hz0 hz1 hz2 v zs hs hown A m c B news hx hr hbase hsz h
end

/-- A slice literal of one element, ready to be appended. -/
theorem ints_lit1 {w : World} {x : Int} (hx : (Lit.int .i64 x).wf = true) : Ints (w.alloc (.cells #[.int .i64 x] 3)) (w.heap.size + 1) (some ⟨w.heap.size, 0, none⟩) 1 1 [x] := by
  refine ⟨rfl, Nat.le_refl _, by unfold maxLen; omega, fun _ => ⟨w.heap.size, 0, rfl, by omega, fun j y hy => ?_⟩, fun z hz => ?_, fun e => by cases e⟩
  · cases j with
    | zero => simp at hy; subst hy; rw [Nat.zero_add, World.cell?_alloc_at _ _ _ _ rfl]; rfl
    | succ j => simp at hy
  · simp at hz; subst hz; exact hx
theorem Own.alloc {w : World} {base : Nat} {v : Value} {zs : List Int} (h : Own w base v zs) (o : Obj) : Own (w.alloc o) base v zs := ⟨h.row.alloc o, h.wf⟩
theorem Own.at2 {w : World} {base k n c : Nat} {A : Option Addr} {x : Int} {zs : List Int} (h : Own w base (.slice A n c) zs) (hx : zs[k]? = some x) : ∃ g, A = some ⟨g, 0, none⟩ ∧ base ≤ g ∧ g < w.heap.size ∧ w.cell? ⟨g, k, none⟩ = some (.int .i64 x) ∧ w.frozen? ⟨g, k, none⟩ = false := by
  obtain ⟨g, c2, hv, hg, hgl, hcell⟩ := h.at_ hx
  injection hv with h1 h2 h3
  subst h1; subst h2
  exact ⟨g, rfl, hg, hgl, hcell, h.froz k⟩
theorem Own.ltI {w : World} {base n c : Nat} {k x : Int} {A : Option Addr} {zs : List Int} (h : Own w base (.slice A n c) zs) (hx : zs[k.toNat]? = some x) : k < (n : Int) := by
  have h1 := h.len
  have h2 := (List.getElem?_eq_some_iff.1 hx).1
  omega
end Go.Proofs.YtoafpokcbbncfaaDoor

namespace Go.Proofs.YtoafpokcbbncfaaDoor
open Go.RowKit

def isum : List Int → Int
  | [] => 0
  | x :: r => x + isum r
theorem take_succ {zs : List Int} {k : Nat} {x : Int} (h : zs[k]? = some x) : zs.take (k + 1) = zs.take k ++ [x] := by
  rw [List.take_add_one, h]; rfl
theorem urnOk_mem {zs : List Int} (h : urnOk zs = true) : ∀ z ∈ zs, 0 ≤ z ∧ z ≤ 40 := by
  unfold urnOk at h
  rw [Bool.and_eq_true, List.all_eq_true] at h
  intro z hz
  simpa [ballsOk] using h.2 z hz
theorem urnOk_elem {zs : List Int} {k : Nat} {x : Int} (h : urnOk zs = true) (hx : zs[k]? = some x) : 0 ≤ x ∧ x ≤ 40 := urnOk_mem h x (List.mem_of_getElem? hx)
theorem urnOk_size {zs : List Int} (h : urnOk zs = true) : 1 ≤ zs.length ∧ zs.length ≤ 3 := by
  unfold urnOk at h
  rw [Bool.and_eq_true] at h
  exact of_decide_eq_true h.1
def ballsAt (zs : List Int) (c : Int) : Int := zs[c.toNat]?.getD 0
theorem urnOk_set {zs : List Int} {k : Nat} {x : Int} (h : urnOk zs = true) (hx : zs[k]? = some x) (y : Int) : urnOk (zs.set k y) = decide (0 ≤ y ∧ y ≤ 40) := by
  have hk : k < zs.length := (List.getElem?_eq_some_iff.1 hx).1
  by_cases hy : 0 ≤ y ∧ y ≤ 40
  · rw [decide_eq_true hy]
    refine urnOk_good (by rw [List.length_set]; exact urnOk_size h) (fun j z hj hz => ?_)
    rw [List.getElem?_set] at hz
    split at hz
    · first | (injection hz with hz; omega) | (split at hz; · injection hz with hz; omega; · cases hz)
    · exact urnOk_elem h hz
  · rw [decide_eq_false hy]
    exact urnOk_bad (k := k) (x := y) (by rw [List.getElem?_set_self hk]) (by omega)
/-- Can so many balls of a colour be put in? -/
def putOk (zs : List Int) (k m : Int) : Bool := urnOk zs && decide (0 ≤ k ∧ k < zs.length) && decide (0 ≤ ballsAt zs k + m ∧ ballsAt zs k + m ≤ 40)
def putL (zs : List Int) (k m : Int) : List Int := if putOk zs k m then zs.set k.toNat (ballsAt zs k + m) else []
theorem putOk_yes {zs : List Int} {k m : Int} (h : putOk zs k m = true) : urnOk zs = true ∧ 0 ≤ k ∧ k < zs.length ∧ 0 ≤ ballsAt zs k + m ∧ ballsAt zs k + m ≤ 40 := by
  simp [putOk] at h
  exact ⟨h.1.1, h.1.2.1, h.1.2.2, h.2.1, h.2.2⟩
theorem putOk_mk {zs : List Int} {k m : Int} (h1 : urnOk zs = true) (h2 : 0 ≤ k ∧ k < zs.length) (h3 : 0 ≤ ballsAt zs k + m ∧ ballsAt zs k + m ≤ 40) : putOk zs k m = true := by
  simp [putOk, h1, h2, h3]
theorem putOk_no {zs : List Int} {k m : Int} (h : urnOk zs = false ∨ ¬ (0 ≤ k ∧ k < zs.length) ∨ ¬ (0 ≤ ballsAt zs k + m ∧ ballsAt zs k + m ≤ 40)) : putOk zs k m = false := by
  rw [Bool.eq_false_iff]
  intro hh
  obtain ⟨h1, h2, h3, h4, h5⟩ := putOk_yes hh
  rcases h with h | h | h
  · rw [h1] at h; cases h
  · exact h ⟨h2, h3⟩
  · exact h ⟨h4, h5⟩
theorem putL_no {zs : List Int} {k m : Int} (h : putOk zs k m = false) : putL zs k m = [] := by unfold putL; rw [if_neg (by rw [h]; decide)]
theorem putL_yes {zs : List Int} {k m : Int} (h : putOk zs k m = true) : putL zs k m = zs.set k.toNat (ballsAt zs k + m) := by unfold putL; rw [if_pos h]
theorem ballsAt_eq {zs : List Int} {k : Int} {x : Int} (h : zs[k.toNat]? = some x) : ballsAt zs k = x := by unfold ballsAt; rw [h]; rfl
theorem putOk_eq {zs : List Int} {k m x : Int} (h1 : urnOk zs = true) (h2 : 0 ≤ k ∧ k < zs.length) (hx : zs[k.toNat]? = some x) : putOk zs k m = decide (0 ≤ x + m ∧ x + m ≤ 40) := by
  by_cases h : 0 ≤ x + m ∧ x + m ≤ 40
  · rw [decide_eq_true h]; exact putOk_mk h1 h2 (by rw [ballsAt_eq hx]; exact h)
  · rw [decide_eq_false h]; exact putOk_no (.inr (.inr (by rw [ballsAt_eq hx]; exact h)))

/-- The sums of both, place by place. -/
def addL (xs ys : List Int) : List Int := List.zipWith (fun x y => x + y) xs ys
theorem addL_len {xs ys : List Int} (h : xs.length = ys.length) : (addL xs ys).length = xs.length := by simp [addL, h]
theorem addL_at {xs ys : List Int} {k : Nat} {x y : Int} (hx : xs[k]? = some x) (hy : ys[k]? = some y) : (addL xs ys)[k]? = some (x + y) := by
  simp [addL, List.getElem?_zipWith, hx, hy]
theorem isum_addL {xs ys : List Int} (h : xs.length = ys.length) : isum (addL xs ys) = isum xs + isum ys := by
  induction xs generalizing ys with
  | nil => cases ys with
    | nil => rfl
    | cons y r => simp at h
  | cons x r ih => cases ys with
    | nil => simp at h
    | cons y s =>
      have := ih (ys := s) (by simpa using h)
      simp only [addL, List.zipWith_cons_cons, isum] at this ⊢
      omega
end Go.Proofs.YtoafpokcbbncfaaDoor

namespace Go.Proofs.YtoafpokcbbncfaaDoor
open Go.RowKit

def colOk (c x : Int) : Bool := decide (0 ≤ x ∧ x < c)
def wordOk (c : Int) (ws : List Int) : Bool := decide (1 ≤ c ∧ c ≤ 3) && decide (ws.length ≤ 6) && ws.all (colOk c)
theorem wordOk_yes {c : Int} {ws : List Int} (h : wordOk c ws = true) : 1 ≤ c ∧ c ≤ 3 ∧ ws.length ≤ 6 ∧ ∀ x ∈ ws, 0 ≤ x ∧ x < c := by
  unfold wordOk at h
  rw [Bool.and_eq_true, Bool.and_eq_true, List.all_eq_true] at h
  have h1 := of_decide_eq_true h.1.1
  exact ⟨h1.1, h1.2, of_decide_eq_true h.1.2, fun x hx => of_decide_eq_true (h.2 x hx)⟩
theorem wordOk_mk {c : Int} {ws : List Int} (h1 : 1 ≤ c) (h2 : c ≤ 3) (h3 : ws.length ≤ 6) (h4 : ∀ j x, j < ws.length → ws[j]? = some x → 0 ≤ x ∧ x < c) : wordOk c ws = true := by
  unfold wordOk
  rw [decide_eq_true ⟨h1, h2⟩, decide_eq_true h3, Bool.true_and, Bool.true_and, List.all_eq_true]
  intro x hx
  obtain ⟨j, hj, rfl⟩ := List.getElem_of_mem hx
  exact decide_eq_true (h4 j _ hj (List.getElem?_eq_getElem hj))
theorem wordOk_size {c : Int} {ws : List Int} (h : c < 1 ∨ 3 < c ∨ 6 < ws.length) : wordOk c ws = false := by
  rw [Bool.eq_false_iff]
  intro hh
  obtain ⟨h1, h2, h3, _⟩ := wordOk_yes hh
  omega
theorem wordOk_bad {c : Int} {ws : List Int} {k : Nat} {x : Int} (h : ws[k]? = some x) (hx : x < 0 ∨ c ≤ x) : wordOk c ws = false := by
  rw [Bool.eq_false_iff]
  intro hh
  obtain ⟨_, _, _, h4⟩ := wordOk_yes hh
  have := h4 x (List.mem_of_getElem? h)
  omega
/-- The ways of a word: of each draw the balls of its colour that are left. -/
def ways (zs : List Int) : List Int → Int
  | [] => 1
  | x :: r => max (ballsAt zs x) 0 * ways (zs.set x.toNat (ballsAt zs x - 1)) r
end Go.Proofs.YtoafpokcbbncfaaDoor

namespace Go.Proofs.YtoafpokcbbncfaaDoor
open Go.RowKit

end Go.Proofs.YtoafpokcbbncfaaDoor

namespace Go.Proofs.YtoafpokcbbncfaaDoor
open Go.RowKit

/-! Rows of counts -/
/-- What is checked of each row. -/
def less (cs : List Int) (c : Nat) : List Int := cs.set c (cs[c]?.getD 0 - 1)
end Go.Proofs.YtoafpokcbbncfaaDoor

namespace Go.Proofs.YtoafpokcbbncfaaDoor
open Go.RowKit

/-- All draws of a colour behind those of the colours before. -/
def sorted (cs : List Int) : Nat → List Int
  | 0 => []
  | k + 1 => sorted cs k ++ List.replicate (cs[k]?.getD 0).toNat (k : Int)
end Go.Proofs.YtoafpokcbbncfaaDoor

namespace Go.Proofs.YtoafpokcbbncfaaDoor
open Go.RowKit

/-- What stands in row k of a rule at place j. -/
def entOk (k j : Nat) (x : Int) : Bool := decide (0 ≤ x ∧ x ≤ 3) || (decide (x = -1) && decide (j = k))
def rowOkG (k : Nat) : Nat → List Int → Bool
  | _, [] => true
  | j, x :: r => entOk k j x && rowOkG k (j + 1) r
def rowsOkG (C : Nat) : Nat → List (List Int) → Bool
  | _, [] => true
  | k, l :: r => decide (l.length = C) && rowOkG k 0 l && rowsOkG C (k + 1) r
def ruleOk (c : Int) (rs : List (List Int)) : Bool := decide (1 ≤ c ∧ c ≤ 3) && decide ((rs.length : Int) = c) && rowsOkG c.toNat 0 rs
def startOk (zs : List Int) : Bool := urnOk zs && zs.all (fun z => decide (z ≤ 10))
def rowOf (rs : List (List Int)) (k : Nat) : List Int := rs[k]?.getD []

theorem rowOkG_yes {k j0 : Nat} {l : List Int} (h : rowOkG k j0 l = true) : ∀ j x, l[j]? = some x → (0 ≤ x ∧ x ≤ 3) ∨ (x = -1 ∧ j0 + j = k) := by
  induction l generalizing j0 with
  | nil => intro j x hx; simp at hx
  | cons y r ih =>
    simp only [rowOkG, Bool.and_eq_true] at h
    intro j x hx
    cases j with
    | zero =>
      simp at hx; subst hx
      have h1 := h.1
      simp only [entOk, Bool.or_eq_true, Bool.and_eq_true, decide_eq_true_eq] at h1
      exact h1
    | succ j =>
      have := ih h.2 j x (by simpa using hx)
      rcases this with h1 | h1
      · exact .inl h1
      · exact .inr ⟨h1.1, by omega⟩
theorem rowOkG_mk {k j0 : Nat} {l : List Int} (h : ∀ j x, l[j]? = some x → (0 ≤ x ∧ x ≤ 3) ∨ (x = -1 ∧ j0 + j = k)) : rowOkG k j0 l = true := by
  induction l generalizing j0 with
  | nil => rfl
  | cons y r ih =>
    simp only [rowOkG, Bool.and_eq_true]
    refine ⟨?_, ih fun j x hx => ?_⟩
    · have := h 0 y rfl
      simp only [entOk, Bool.or_eq_true, Bool.and_eq_true, decide_eq_true_eq]
      exact this
    · rcases h (j + 1) x (by simpa using hx) with h1 | h1
      · exact .inl h1
      · exact .inr ⟨h1.1, by omega⟩
theorem rowsOkG_yes {C k0 : Nat} {rs : List (List Int)} (h : rowsOkG C k0 rs = true) : ∀ (k : Nat) l, rs[k]? = some l → l.length = C ∧ rowOkG (k0 + k) 0 l = true := by
  induction rs generalizing k0 with
  | nil => intro k l hx; simp at hx
  | cons y r ih =>
    simp only [rowsOkG, Bool.and_eq_true, decide_eq_true_eq] at h
    intro k l hx
    cases k with
    | zero => simp at hx; subst hx; exact h.1
    | succ k =>
      have := ih h.2 k l (by simpa using hx)
      rw [show k0 + (k + 1) = k0 + 1 + k by omega]; exact this
theorem rowsOkG_mk {C k0 : Nat} {rs : List (List Int)} (h : ∀ (k : Nat) l, rs[k]? = some l → l.length = C ∧ rowOkG (k0 + k) 0 l = true) : rowsOkG C k0 rs = true := by
  induction rs generalizing k0 with
  | nil => rfl
  | cons y r ih =>
    simp only [rowsOkG, Bool.and_eq_true, decide_eq_true_eq]
    refine ⟨h 0 y rfl, ih fun k l hx => ?_⟩
    have := h (k + 1) l (by simpa using hx)
    rw [show k0 + 1 + k = k0 + (k + 1) by omega]; exact this
/-- A rule of C colours: each row has C numbers, 0 to 3, and -1 at most for the colour of the row itself. -/
structure Rule (C : Nat) (rs : List (List Int)) : Prop where
  pos : 1 ≤ C
  le : C ≤ 3
  len : rs.length = C
  rows : ∀ (k : Nat) l, rs[k]? = some l → l.length = C ∧ ∀ (j : Nat) x, l[j]? = some x → (0 ≤ x ∧ x ≤ 3) ∨ (x = -1 ∧ j = k)
theorem ruleOk_yes {c : Int} {rs : List (List Int)} (h : ruleOk c rs = true) : c = (c.toNat : Int) ∧ Rule c.toNat rs := by
  unfold ruleOk at h
  simp only [Bool.and_eq_true, decide_eq_true_eq] at h
  obtain ⟨⟨⟨h1, h2⟩, h3⟩, h4⟩ := h
  refine ⟨by omega, ⟨by omega, by omega, by omega, fun k l hl => ?_⟩⟩
  obtain ⟨e1, e2⟩ := rowsOkG_yes h4 k l hl
  exact ⟨e1, fun j x hx => by have := rowOkG_yes e2 j x hx; simpa using this⟩
theorem ruleOk_mk {C : Nat} {rs : List (List Int)} (h : Rule C rs) : ruleOk (C : Int) rs = true := by
  unfold ruleOk
  simp only [Bool.and_eq_true, decide_eq_true_eq]
  have h1 := h.pos; have h2 := h.le; have h3 := h.len
  refine ⟨⟨⟨by omega, by omega⟩, by omega⟩, ?_⟩
  rw [Int.toNat_natCast]
  refine rowsOkG_mk fun k l hl => ?_
  obtain ⟨e1, e2⟩ := h.rows k l hl
  exact ⟨e1, rowOkG_mk fun j x hx => by have := e2 j x hx; simpa using this⟩

/-- The ways of a word by a rule. -/
def rways (rs : List (List Int)) : List Int → List Int → Int
  | _, [] => 1
  | zs, x :: ws => max (ballsAt zs x) 0 * rways rs (addL zs (rowOf rs x.toNat)) ws
theorem rways_nonneg (rs : List (List Int)) (zs ws : List Int) : 0 ≤ rways rs zs ws := by
  induction ws generalizing zs with
  | nil => simp [rways]
  | cons x r ih => exact Int.mul_nonneg (by omega) (ih _)
theorem rowOf_len {C : Nat} {rs : List (List Int)} (h : Rule C rs) {c : Nat} (hc : c < C) : (rowOf rs c).length = C := by
  have hk := List.getElem?_eq_getElem (l := rs) (i := c) (by have := h.len; omega)
  unfold rowOf
  rw [hk]
  exact (h.rows c _ hk).1
theorem aft_len {C : Nat} {rs : List (List Int)} {zs : List Int} (h : Rule C rs) (hl : zs.length = C) {c : Nat} (hc : c < C) : (addL zs (rowOf rs c)).length = C := by
  rw [addL_len (by rw [hl, rowOf_len h hc]), hl]
/-- Each number stays in 0 to M + 3 if a ball of the colour was there. -/
theorem aft_mem {C : Nat} {rs : List (List Int)} {zs : List Int} {M z : Int} (h : Rule C rs) (hl : zs.length = C) {c : Nat} (hz : zs[c]? = some z) (h0 : 0 < z) (hm : ∀ y ∈ zs, 0 ≤ y ∧ y ≤ M) : ∀ y ∈ addL zs (rowOf rs c), 0 ≤ y ∧ y ≤ M + 3 := by
  have hc : c < C := by have := (List.getElem?_eq_some_iff.1 hz).1; omega
  intro y hy
  obtain ⟨j, hj, rfl⟩ := List.getElem_of_mem hy
  have hjl : j < C := by rw [aft_len h hl hc] at hj; exact hj
  have h1 := List.getElem?_eq_getElem (l := zs) (i := j) (by omega)
  have h2 := List.getElem?_eq_getElem (l := rowOf rs c) (i := j) (by rw [rowOf_len h hc]; exact hjl)
  have h3 := addL_at h1 h2
  rw [List.getElem?_eq_getElem hj] at h3
  injection h3 with h3
  rw [h3]
  have hb := hm zs[j] (List.getElem_mem _)
  obtain ⟨l, hk⟩ : ∃ l, rs[c]? = some l := ⟨_, List.getElem?_eq_getElem (by have := h.len; omega)⟩
  have hr := (h.rows c l hk).2 j _ (show l[j]? = some ((rowOf rs c)[j]'(by rw [rowOf_len h hc]; exact hjl)) by
    rw [← h2]; unfold rowOf; rw [hk]; rfl)
  rcases hr with hr | ⟨hr, hjc⟩
  · omega
  · subst hjc
    rw [h1] at hz
    injection hz with hz
    omega
/-- Row sums all alike. -/
def Even (C : Nat) (rs : List (List Int)) (e : Int) : Prop := ∀ c, c < C → isum (rowOf rs c) = e
theorem aft_sum {C : Nat} {rs : List (List Int)} {zs : List Int} {e : Int} (h : Rule C rs) (hl : zs.length = C) (he : Even C rs e) {c : Nat} (hc : c < C) : isum (addL zs (rowOf rs c)) = isum zs + e := by
  rw [isum_addL (by rw [hl, rowOf_len h hc]), he c hc]
/-- What the draws of a word make of an urn. -/
def afterW (rs : List (List Int)) : List Int → List Int → Option (List Int)
  | zs, [] => some zs
  | zs, x :: ws => if ballsAt zs x < 1 then none else afterW rs (addL zs (rowOf rs x.toNat)) ws
theorem afterW_ways (rs : List (List Int)) (zs ws : List Int) : (afterW rs zs ws).isSome = true ↔ 0 < rways rs zs ws := by
  induction ws generalizing zs with
  | nil => simp [afterW, rways]
  | cons x r ih =>
    have e : rways rs zs (x :: r) = max (ballsAt zs x) 0 * rways rs (addL zs (rowOf rs x.toNat)) r := rfl
    rw [e]
    simp only [afterW]
    by_cases h : ballsAt zs x < 1
    · rw [if_pos h, show max (ballsAt zs x) 0 = 0 by omega, Int.zero_mul]; simp
    · rw [if_neg h, ih]
      have h2 := rways_nonneg rs (addL zs (rowOf rs x.toNat)) r
      rw [Int.max_eq_left (by omega)]
      constructor
      · intro h3
        exact Int.mul_pos (by omega) h3
      · intro h3
        rcases Int.lt_or_le 0 (rways rs (addL zs (rowOf rs x.toNat)) r) with h4 | h4
        · exact h4
        · have : rways rs (addL zs (rowOf rs x.toNat)) r = 0 := by omega
          rw [this, Int.mul_zero] at h3; omega
theorem afterW_good {C : Nat} {rs : List (List Int)} (h : Rule C rs) {zs ws us : List Int} {M : Int} (hl : zs.length = C) (hm : ∀ y ∈ zs, 0 ≤ y ∧ y ≤ M) (hw : ∀ x ∈ ws, 0 ≤ x ∧ x < C) (ha : afterW rs zs ws = some us) : us.length = C ∧ (∀ y ∈ us, 0 ≤ y ∧ y ≤ M + 3 * ws.length) ∧ ∀ e, Even C rs e → isum us = isum zs + e * ws.length := by
  induction ws generalizing zs M with
  | nil =>
    simp only [afterW, Option.some.injEq] at ha
    subst ha
    exact ⟨hl, by simpa using hm, fun e _ => by simp⟩
  | cons x r ih =>
    have hx := hw x (by simp)
    have hk := List.getElem?_eq_getElem (l := zs) (i := x.toNat) (by omega)
    have hb := ballsAt_eq hk
    simp only [afterW] at ha
    split at ha
    · cases ha
    · next h0 =>
      obtain ⟨e1, e2, e3⟩ := ih (aft_len h hl (by omega)) (aft_mem h hl hk (by omega) hm) (fun y hy => hw y (by simp [hy])) ha
      refine ⟨e1, fun y hy => ?_, fun e he => ?_⟩
      · have := e2 y hy
        rw [List.length_cons, Int.natCast_add]; omega
      · rw [e3 e he, aft_sum h hl he (by omega), List.length_cons, Int.natCast_add, Int.mul_add]; simp; omega
end Go.Proofs.YtoafpokcbbncfaaDoor

namespace Go.Proofs.YtoafpokcbbncfaaDoor
open Go.RowKit

def begun (zs : List Int) (rs : List (List Int)) : Bool := startOk zs && ruleOk (zs.length : Int) rs
def afterC (zs : List Int) (rs : List (List Int)) (ws : List Int) : Bool := begun zs rs && wordOk (zs.length : Int) ws
def afterL (zs : List Int) (rs : List (List Int)) (ws : List Int) : List Int := if afterC zs rs ws then (afterW rs zs ws).getD [] else []
def afterOk (zs : List Int) (rs : List (List Int)) (ws : List Int) : Bool := afterC zs rs ws && (afterW rs zs ws).isSome
theorem startOk_yes {zs : List Int} (h : startOk zs = true) : urnOk zs = true ∧ ∀ z ∈ zs, 0 ≤ z ∧ z ≤ 10 := by
  unfold startOk at h
  simp only [Bool.and_eq_true, List.all_eq_true, decide_eq_true_eq] at h
  exact ⟨h.1, fun z hz => ⟨(urnOk_mem h.1 z hz).1, h.2 z hz⟩⟩
theorem startOk_mk {zs : List Int} (h : urnOk zs = true) (h2 : ∀ z ∈ zs, z ≤ 10) : startOk zs = true := by
  unfold startOk
  simp only [Bool.and_eq_true, List.all_eq_true, decide_eq_true_eq]
  exact ⟨h, h2⟩
theorem startOk_bad {zs : List Int} {k : Nat} {x : Int} (h : zs[k]? = some x) (hx : 10 < x) : startOk zs = false := by
  rw [Bool.eq_false_iff]
  intro hh
  have := (startOk_yes hh).2 x (List.mem_of_getElem? h)
  omega
theorem begun_yes {zs : List Int} {rs : List (List Int)} (h : begun zs rs = true) : urnOk zs = true ∧ (∀ z ∈ zs, 0 ≤ z ∧ z ≤ 10) ∧ Rule zs.length rs := by
  unfold begun at h
  simp only [Bool.and_eq_true] at h
  have h1 := startOk_yes h.1
  have h2 := (ruleOk_yes h.2).2
  rw [Int.toNat_natCast] at h2
  exact ⟨h1.1, h1.2, h2⟩
theorem afterC_yes {zs : List Int} {rs : List (List Int)} {ws : List Int} (h : afterC zs rs ws = true) : urnOk zs = true ∧ (∀ z ∈ zs, 0 ≤ z ∧ z ≤ 10) ∧ Rule zs.length rs ∧ ws.length ≤ 6 ∧ ∀ x ∈ ws, 0 ≤ x ∧ x < zs.length := by
  unfold afterC at h
  simp only [Bool.and_eq_true] at h
  obtain ⟨h1, h2, h3⟩ := begun_yes h.1
  obtain ⟨k1, k2, k3, k4⟩ := wordOk_yes h.2
  exact ⟨h1, h2, h3, by omega, k4⟩
theorem afterW_append (rs : List (List Int)) (zs a b : List Int) : afterW rs zs (a ++ b) = (afterW rs zs a).bind fun us => afterW rs us b := by
  induction a generalizing zs with
  | nil => rfl
  | cons x r ih =>
    simp only [List.cons_append, afterW]
    split
    · rfl
    · exact ih _
theorem rways_append {rs : List (List Int)} {zs a us : List Int} (b : List Int) (h : afterW rs zs a = some us) : rways rs zs (a ++ b) = rways rs zs a * rways rs us b := by
  induction a generalizing zs with
  | nil =>
    simp only [afterW, Option.some.injEq] at h
    subst h
    simp [rways]
  | cons x r ih =>
    simp only [afterW] at h
    split at h
    · cases h
    · simp only [List.cons_append, rways]
      rw [ih h, Int.mul_assoc]
theorem rways_none {rs : List (List Int)} {zs ws : List Int} (h : afterW rs zs ws = none) : rways rs zs ws = 0 := by
  have h1 := (afterW_ways rs zs ws)
  have h2 := rways_nonneg rs zs ws
  rw [h] at h1
  rcases Int.lt_or_le 0 (rways rs zs ws) with h3 | h3
  · have := h1.2 h3; cases this
  · omega
theorem rways_some {rs : List (List Int)} {zs ws us : List Int} (h : afterW rs zs ws = some us) : 0 < rways rs zs ws := (afterW_ways rs zs ws).1 (by rw [h]; rfl)
/-- One draw more behind the first k ones. -/
theorem afterW_step {rs : List (List Int)} {zs ws us : List Int} {k : Nat} {x : Int} (h : afterW rs zs (ws.take k) = some us) (hx : ws[k]? = some x) :
    (ballsAt us x < 1 → afterW rs zs ws = none ∧ afterW rs zs (ws.take (k + 1)) = none) ∧
    (¬ ballsAt us x < 1 → afterW rs zs (ws.take (k + 1)) = some (addL us (rowOf rs x.toNat)) ∧ rways rs zs (ws.take (k + 1)) = rways rs zs (ws.take k) * ballsAt us x) := by
  have e : ws = ws.take k ++ (x :: ws.drop (k + 1)) := by
    have hk := (List.getElem?_eq_some_iff.1 hx).1
    have := List.take_append_drop k ws
    rw [List.drop_eq_getElem_cons hk] at this
    have hg : ws[k] = x := (List.getElem?_eq_some_iff.1 hx).2
    rw [hg] at this
    exact this.symm
  refine ⟨fun hb => ⟨?_, ?_⟩, fun hb => ⟨?_, ?_⟩⟩
  · rw [e, afterW_append, h]
    simp only [Option.bind_some, afterW, if_pos hb]
  · rw [take_succ hx, afterW_append, h]
    simp only [Option.bind_some, afterW, if_pos hb]
  · rw [take_succ hx, afterW_append, h]
    simp only [Option.bind_some, afterW, if_neg hb]
  · rw [take_succ hx, rways_append _ h]
    simp only [rways]
    rw [Int.mul_one, Int.max_eq_left (by omega)]
/-- The urn behind the first k draws. -/
theorem afterW_take {C : Nat} {rs : List (List Int)} (h : Rule C rs) {zs ws us : List Int} (hl : zs.length = C) (hm : ∀ y ∈ zs, 0 ≤ y ∧ y ≤ 10) (hw : ∀ x ∈ ws, 0 ≤ x ∧ x < C) (h6 : ws.length ≤ 6) {k : Nat} (ha : afterW rs zs (ws.take k) = some us) : us.length = C ∧ ∀ y ∈ us, 0 ≤ y ∧ y ≤ 28 := by
  obtain ⟨e1, e2, _⟩ := afterW_good h hl hm (fun x hx => hw x (List.mem_of_mem_take hx)) ha
  refine ⟨e1, fun y hy => ?_⟩
  have := e2 y hy
  have h2 : (ws.take k).length ≤ ws.length := List.length_take_le' _ _
  omega
theorem pow28 (k : Nat) (h : k ≤ 6) : (28 : Int) ^ k ≤ 481890304 := by
  match k, h with
  | 0, _ | 1, _ | 2, _ | 3, _ | 4, _ | 5, _ | 6, _ => decide
theorem rways_bound {C : Nat} {rs : List (List Int)} (h : Rule C rs) {zs ws : List Int} {M : Int} (hl : zs.length = C) (hm : ∀ y ∈ zs, 0 ≤ y ∧ y ≤ M) (hw : ∀ x ∈ ws, 0 ≤ x ∧ x < C) (hM : M + 3 * ws.length ≤ 28) : rways rs zs ws ≤ 28 ^ ws.length := by
  induction ws generalizing zs M with
  | nil => simp [rways]
  | cons x r ih =>
    have hx := hw x (by simp)
    have hk := List.getElem?_eq_getElem (l := zs) (i := x.toNat) (by omega)
    have hb := ballsAt_eq hk
    have hz := hm zs[x.toNat] (List.getElem_mem _)
    rw [List.length_cons] at hM ⊢
    simp only [rways]
    rw [hb, Int.max_eq_left hz.1, Int.pow_succ, Int.mul_comm (28 ^ r.length)]
    rcases Int.lt_or_le 0 zs[x.toNat] with h0 | h0
    · exact Int.mul_le_mul (by omega) (ih (aft_len h hl (by omega)) (aft_mem h hl hk h0 hm) (fun y hy => hw y (by simp [hy])) (by rw [Int.natCast_add] at hM; omega)) (rways_nonneg _ _ _) (by decide)
    · have : zs[x.toNat] = 0 := by omega
      rw [this, Int.zero_mul]
      exact Int.mul_nonneg (by decide) (Int.pow_nonneg (by decide))
theorem row_sum {C : Nat} {rs : List (List Int)} (h : Rule C rs) {k : Nat} {l : List Int} (hl : rs[k]? = some l) : l.length = C ∧ (∀ x ∈ l, -1 ≤ x ∧ x ≤ 3) ∧ -1 ≤ isum l ∧ isum l ≤ 9 := by
  obtain ⟨e1, e2⟩ := h.rows k l hl
  have hm : ∀ x ∈ l, -1 ≤ x ∧ x ≤ 3 := fun x hx => by
    obtain ⟨j, hj, rfl⟩ := List.getElem_of_mem hx
    rcases e2 j _ (List.getElem?_eq_getElem hj) with h1 | h1 <;> omega
  refine ⟨e1, hm, ?_⟩
  have h1 := h.pos; have h3 := h.le
  have hk : k < C := by have := (List.getElem?_eq_some_iff.1 hl).1; have := h.len; omega
  have q : ∀ (j : Nat) x, l[j]? = some x → (0 ≤ x ∧ x ≤ 3) ∨ (x = -1 ∧ j = k) := e2
  match l, e1 with
  | [a], e1 => have a0 := q 0 a rfl; simp only [isum, List.length_cons, List.length_nil] at *; omega
  | [a, b], e1 => have a0 := q 0 a rfl; have b0 := q 1 b rfl; simp only [isum]; omega
  | [a, b, c], e1 => have a0 := q 0 a rfl; have b0 := q 1 b rfl; have c0 := q 2 c rfl; simp only [isum]; omega
  | [], e1 => simp at e1; omega
  | _ :: _ :: _ :: _ :: _, e1 => simp at e1; omega
end Go.Proofs.YtoafpokcbbncfaaDoor

namespace Go.Proofs.YtoafpokcbbncfaaDoor
open Go.RowKit

def stepB (s : Int) : Bool := decide (-1 ≤ s ∧ s ≤ 3)
def sameR (C : Nat) (s : Int) : List (List Int) := (List.range C).map (fun k => (List.replicate C 0).set k s)
def sameRule (c s : Int) : List (List Int) := if decide (1 ≤ c ∧ c ≤ 3) && stepB s then sameR c.toNat s else []
theorem stepB_yes {s : Int} (h : stepB s = true) : -1 ≤ s ∧ s ≤ 3 := by simpa [stepB] using h
theorem stepB_mk {s : Int} (h : -1 ≤ s ∧ s ≤ 3) : stepB s = true := by simpa [stepB] using h
theorem stepB_no {s : Int} (h : ¬(-1 ≤ s ∧ s ≤ 3)) : stepB s = false := decide_eq_false h

/-! The rule. -/
theorem sameR_len (C : Nat) (s : Int) : (sameR C s).length = C := by simp [sameR]
theorem sameR_at {C k : Nat} {s : Int} (hk : k < C) : (sameR C s)[k]? = some ((List.replicate C 0).set k s) := by simp [sameR, hk]
/-! Rising products. -/
/-! Products over the colours. -/
/-! Words sorted by their colours. -/
/-! Shares. -/
/-! Products of numbers that rise by a step from -1 on: those below 0 come behind a 0. -/
end Go.Proofs.YtoafpokcbbncfaaDoor

namespace Go.Proofs.YtoafpokcbbncfaaDoor
open Go.RowKit

/-- The slice '.slice A n c' holds rows of ints; all its cells lie below block B. -/
structure Mat (w : World) (B : Nat) (A : Option Addr) (n c : Nat) (rs : List (List Int)) : Prop where
  len : rs.length = n
  le : n ≤ c
  big : c ≤ maxLen
  cells : 0 < n → ∃ b off, A = some ⟨b, off, none⟩ ∧ b < B ∧ ∀ j l, rs[j]? = some l → ∃ A' n' c', w.cell? ⟨b, off + j, none⟩ = some (.slice A' n' c') ∧ Ints w B A' n' c' l
  nil0 : A = none → c = 0

section
variable {w w' : World} {B B' n c k : Nat} {A : Option Addr} {rs : List (List Int)}
theorem Mat.look (h : Mat w B A n c rs) (hk : k < n) : ∃ b off l A' n' c', A = some ⟨b, off, none⟩ ∧ b < B ∧ Hid (rs[k]? = some l) ∧ w.cell? ⟨b, off + k, none⟩ = some (.slice A' n' c') ∧ Hid (Ints w B A' n' c' l) := by
  obtain ⟨b, off, e, hb, hc⟩ := h.cells (by omega)
  have hl : k < rs.length := by have := h.len; omega
  obtain ⟨A', n', c', h1, h2⟩ := hc k _ (List.getElem?_eq_getElem hl)
  exact ⟨b, off, rs[k], A', n', c', e, hb, hide (List.getElem?_eq_getElem hl), h1, hide h2⟩
theorem Mat.nb (h : Mat w B A n c rs) : n ≤ 9223372036854775807 := by have := h.le; have := h.big; unfold maxLen at this; omega
theorem Mat.keep (h : Mat w B A n c rs) (hk : ∀ p : Addr, p.block < B → w'.cell? p = w.cell? p) : Mat w' B A n c rs :=
  ⟨h.len, h.le, h.big, fun hn => by
    obtain ⟨b, off, e, hb, hc⟩ := h.cells hn
    refine ⟨b, off, e, hb, fun j l hl => ?_⟩
    obtain ⟨A', n', c', h1, h2⟩ := hc j l hl
    exact ⟨A', n', c', (hk _ hb).trans h1, h2.keep hk⟩, h.nil0⟩
theorem Mat.more (h : Mat w B A n c rs) (hB : B ≤ B') : Mat w B' A n c rs :=
  ⟨h.len, h.le, h.big, fun hn => by
    obtain ⟨b, off, e, hb, hc⟩ := h.cells hn
    refine ⟨b, off, e, by omega, fun j l hl => ?_⟩
    obtain ⟨A', n', c', h1, h2⟩ := hc j l hl
    exact ⟨A', n', c', h1, h2.more hB⟩, h.nil0⟩
theorem Mat.below (h : Mat w B A n c rs) (hb : Below B w w') : Mat w' B A n c rs := h.keep fun _ hp => hb.cell hp
theorem Mat.up (h : Mat w w.heap.size A n c rs) (hq : Below w.heap.size w w') : Mat w' w'.heap.size A n c rs := (h.below hq).more hq.size
theorem Mat.drewN (h : Mat w B A n c rs) (k : Nat) : Mat (w.drewN k) B A n c rs := h.keep fun _ _ => rfl
theorem Mat.alloc (h : Mat w B A n c rs) (hB : B ≤ w.heap.size) (o : Obj) : Mat (w.alloc o) B A n c rs := h.keep fun p hp => World.cell?_alloc_lt w o p (by omega)
theorem Mat.nil : Mat w B none 0 0 [] := ⟨rfl, Nat.le_refl _, Nat.zero_le _, fun h => absurd h (by omega), fun _ => rfl⟩
/-- One row more at the end of a slice of slices that the call owns: what a store into the cells says. -/
theorem Mat.at_ (h : Mat w B A n c rs) {l : List Int} (hl : rs[k]? = some l) : ∃ b off A' n' c', A = some ⟨b, off, none⟩ ∧ b < B ∧ w.cell? ⟨b, off + k, none⟩ = some (.slice A' n' c') ∧ Ints w B A' n' c' l := by
  have hk := (List.getElem?_eq_some_iff.1 hl).1
  obtain ⟨b, off, e, hb, hc⟩ := h.cells (by have := h.len; omega)
  obtain ⟨A', n', c', h1, h2⟩ := hc k l hl
  exact ⟨b, off, A', n', c', e, hb, h1, h2⟩
end
end Go.Proofs.YtoafpokcbbncfaaDoor

namespace Go.Proofs.YtoafpokcbbncfaaDoor
open Go.RowKit

/-- What the call itself made: the slice v owns just the rows rs. Its own block lies from 'lo' on; the rows' blocks lie from 'lo' on and below 'hi', and no two of them are one. -/
structure OwnM (w : World) (lo hi : Nat) (v : Value) (rs : List (List Int)) : Prop where
  ex : ∃ vs : List Value, w.ownsRow lo 22 1 v rs.length vs ∧
    (∀ (k : Nat) u l, vs[k]? = some u → rs[k]? = some l → Own w lo u l ∧ ∀ g, u.ownBlock = some g → g < hi) ∧
    (∀ (j k : Nat) u u', j < k → vs[j]? = some u → vs[k]? = some u' → u.ownBlock = none ∨ u.ownBlock ≠ u'.ownBlock)

theorem own_ne {w : World} {b b' : Nat} {v u : Value} {n : Nat} {xs : List Value} {l : List Int} (h : w.ownsRow b 22 1 v n xs) (k : Own w b' u l) : u.ownBlock = none ∨ u.ownBlock ≠ v.ownBlock := by
  rcases k.row.2 with ⟨rfl, _⟩ | ⟨g, cap, cur, rfl, _, hg, _⟩
  · exact .inl rfl
  · refine .inr fun e => ?_
    rcases h.2 with ⟨rfl, _⟩ | ⟨g', cap', cur', rfl, _, hg', _⟩
    · simp [Value.ownBlock] at e
    · simp [Value.ownBlock] at e
      subst e
      rw [hg] at hg'
      simp at hg'

section
variable {w w' : World} {lo hi lo' hi' n c k : Nat} {v : Value} {A : Option Addr} {rs : List (List Int)}
theorem OwnM.shape (h : OwnM w lo hi v rs) : (v = .slice none 0 0 ∧ rs = []) ∨ ∃ g c, v = .slice (some ⟨g, 0, none⟩) rs.length c ∧ lo ≤ g ∧ g < w.heap.size := by
  obtain ⟨vs, h1, _⟩ := h.ex
  rcases h1.2 with ⟨hv, h0⟩ | ⟨g, cap, cur, hv, hg, hh, _⟩
  · exact .inl ⟨hv, List.eq_nil_of_length_eq_zero h0⟩
  · exact .inr ⟨g, cap, hv, hg, (Array.getElem?_eq_some_iff.1 hh).1⟩
theorem OwnM.slice (h : OwnM w lo hi v rs) : ∃ A c, v = .slice A rs.length c := by
  rcases h.shape with ⟨rfl, rfl⟩ | ⟨g, c, rfl, _⟩
  · exact ⟨_, _, rfl⟩
  · exact ⟨_, _, rfl⟩
theorem OwnM.len (h : OwnM w lo hi (.slice A n c) rs) : n = rs.length := by
  obtain ⟨A', c', e⟩ := h.slice
  injection e
theorem OwnM.mat (h : OwnM w lo hi (.slice A n c) rs) : Mat w w.heap.size A n c rs := by
  obtain ⟨vs, h1, h2, _⟩ := h.ex
  have hvl := h1.1
  rcases h1.2 with ⟨hv, h0⟩ | ⟨g, cap, cur, hv, hg, hh, hn, hm, hs, ht⟩
  · injection hv with e1 e2 e3
    subst e1; subst e2; subst e3
    obtain rfl := List.eq_nil_of_length_eq_zero h0
    exact Mat.nil
  · injection hv with e1 e2 e3
    subst e1; subst e2; subst e3
    refine ⟨rfl, hn, hm, fun hp => ⟨g, 0, rfl, (Array.getElem?_eq_some_iff.1 hh).1, fun j l hl => ?_⟩, fun e => by cases e⟩
    have hj : j < rs.length := (List.getElem?_eq_some_iff.1 hl).1
    have hjv : j < vs.length := by omega
    have hu := List.getElem?_eq_getElem hjv
    obtain ⟨A', c', e⟩ := (h2 j _ l hu hl).1.slice
    have ho := (h2 j _ l hu hl).1
    rw [e] at ho
    refine ⟨A', l.length, c', ?_, ho.ints⟩
    rw [Nat.zero_add, h1.cellAt j (by omega), hu, e]
theorem OwnM.kept {row : Option Nat} (h : OwnM w lo hi v rs) (hg : w.grownBy w' row) (hr : ∀ k, row = some k → k < lo ∨ w.heap.size ≤ k) : OwnM w' lo hi v rs := by
  obtain ⟨vs, h1, h2, h3⟩ := h.ex
  have hf : ∀ u : Value, (∀ k, u.ownBlock = some k → lo ≤ k ∧ k < w.heap.size) → u.ownBlock = none ∨ u.ownBlock ≠ row := fun u hu => by
    cases hk : u.ownBlock with
    | none => exact .inl rfl
    | some k => exact .inr fun e => by have a := hu k hk; have b := hr k e.symm; omega
  exact ⟨vs, h1.kept hg (hf _ h1.lt), fun k u l hu hl => ⟨(h2 k u l hu hl).1.kept hg (hf _ (h2 k u l hu hl).1.row.lt), (h2 k u l hu hl).2⟩, h3⟩
theorem OwnM.up (h : OwnM w lo hi v rs) (hq : Below w.heap.size w w') : OwnM w' lo hi v rs :=
  h.kept (row := none) ⟨hq.os, hq.tape, hq.output, hq.size, fun k hk _ => hq.block k hk⟩ (fun _ e => by cases e)
theorem OwnM.drewN (h : OwnM w lo hi v rs) (k : Nat) : OwnM (w.drewN k) lo hi v rs := h.up (below_drewN (Below.refl _ _) k)
theorem OwnM.alloc (h : OwnM w lo hi v rs) (o : Obj) : OwnM (w.alloc o) lo hi v rs := h.up ((Below.refl _ _).alloc (Nat.le_refl _) o)
theorem OwnM.past {g : Nat} (h : OwnM w lo hi v rs) (hg : w.grownBy w' (some g)) (hlt : g < lo) : OwnM w' lo hi v rs := h.kept hg (fun k e => by injection e with e; omega)
theorem OwnM.wide (h : OwnM w lo hi v rs) (hh : hi ≤ hi') : OwnM w lo hi' v rs := by
  obtain ⟨vs, h1, h2, h3⟩ := h.ex
  exact ⟨vs, h1, fun k u l hu hl => ⟨(h2 k u l hu hl).1, fun g hg => by have := (h2 k u l hu hl).2 g hg; omega⟩, h3⟩
theorem ownsRow_down {e : TypeId} {size : Nat} {xs : List Value} (h : w.ownsRow lo e size v n xs) (hb : lo' ≤ lo) : w.ownsRow lo' e size v n xs := by
  refine ⟨h.1, ?_⟩
  rcases h.2 with hn | ⟨g, cap, cur, hv, hg, r⟩
  · exact .inl hn
  · exact .inr ⟨g, cap, cur, hv, by omega, r⟩
theorem OwnM.down (h : OwnM w lo hi v rs) (hb : lo' ≤ lo) : OwnM w lo' hi v rs := by
  obtain ⟨vs, h1, h2, h3⟩ := h.ex
  exact ⟨vs, ownsRow_down h1 hb, fun k u l hu hl => ⟨(h2 k u l hu hl).1.down hb, (h2 k u l hu hl).2⟩, h3⟩
theorem OwnM.none_ : OwnM w lo hi (.slice none 0 0) [] := ⟨[], World.ownsRow_nil _ _ _ _, fun _ _ _ h => by simp at h, fun _ _ _ _ _ h => by simp at h⟩
/-- A slice literal without rows. -/
theorem ownM_empty (hb : lo ≤ w.heap.size) : OwnM (w.alloc (.cells #[] 22)) lo hi (.slice (some ⟨w.heap.size, 0, none⟩) 0 0) [] :=
  ⟨[], World.ownsRow_made w #[] 0 hb (Nat.zero_le _) rfl, fun _ _ _ h => by simp at h, fun _ _ _ _ _ h => by simp at h⟩
/-- The rows that 'make' lays: all nil. -/
theorem ownM_made {h0 m : Nat} (ho : w.ownsRow h0 22 1 (.slice (some ⟨h0, 0, none⟩) m m) m (madeCells (Value.slice none 0 0).cells (m * 1)).toList) : OwnM w h0 hi (.slice (some ⟨h0, 0, none⟩) m m) (List.replicate m []) := by
  have e1 : (madeCells (Value.slice none 0 0).cells (m * 1)).toList = List.replicate m (Value.slice none 0 0) := by
    simp [Value.cells, toList_madeCells_one]
  rw [e1] at ho
  refine ⟨_, by rw [List.length_replicate]; exact ho, fun k u l hu hl => ?_, fun j k u u' _ hu _ => ?_⟩
  · have a := List.eq_of_mem_replicate (List.mem_of_getElem? hu)
    have b := List.eq_of_mem_replicate (List.mem_of_getElem? hl)
    subst a; subst b
    exact ⟨Own.none_, fun g e => by simp [Value.ownBlock] at e⟩
  · have a := List.eq_of_mem_replicate (List.mem_of_getElem? hu)
    subst a
    exact .inl rfl
end

section
variable {w w' : World} {lo hi : Nat} {v u v' : Value} {rs : List (List Int)} {l : List Int} {n : Nat} {vs : List Value}
/-- One row more behind the others. -/
theorem OwnM.pushed (h1 : w.ownsRow lo 22 1 v rs.length vs)
    (h2 : ∀ (k : Nat) u l, vs[k]? = some u → rs[k]? = some l → Own w lo u l ∧ ∀ g, u.ownBlock = some g → g < hi)
    (h3 : ∀ (j k : Nat) u u', j < k → vs[j]? = some u → vs[k]? = some u' → u.ownBlock = none ∨ u.ownBlock ≠ u'.ownBlock)
    (hu : Own w hi u l) (hlo : lo ≤ hi) (hn : w'.ownsRow lo 22 1 v' (rs.length + 1) (vs ++ [u])) (hg : w.grownBy w' v.ownBlock) : OwnM w' lo w'.heap.size v' (rs ++ [l]) := by
  have hvl : vs.length = rs.length := by have := h1.1; omega
  have hk : ∀ (u : Value) (l : List Int) {b : Nat}, Own w b u l → Own w' b u l := fun u l b ho => ho.kept hg (own_ne h1 ho)
  refine ⟨vs ++ [u], by rw [List.length_append]; exact hn, fun k y m hy hm => ?_, fun j k y y' hjk hy hy' => ?_⟩
  · rcases Nat.lt_or_ge k vs.length with hlt | hge
    · rw [List.getElem?_append_left hlt] at hy
      rw [List.getElem?_append_left (by omega)] at hm
      have ho := hk y m (h2 k y m hy hm).1
      exact ⟨ho, fun g e => (ho.row.lt g e).2⟩
    · have hkl : k = vs.length := by
        have := (List.getElem?_eq_some_iff.1 hy).1
        rw [List.length_append] at this; simp at this; omega
      subst hkl
      rw [List.getElem?_concat_length] at hy
      rw [hvl, List.getElem?_concat_length] at hm
      injection hy with hy; injection hm with hm
      subst hy; subst hm
      have ho := hk _ _ hu
      exact ⟨ho.down hlo, fun g e => (ho.row.lt g e).2⟩
  · rcases Nat.lt_or_ge k vs.length with hlt | hge
    · rw [List.getElem?_append_left hlt] at hy'
      rw [List.getElem?_append_left (by omega)] at hy
      exact h3 j k y y' hjk hy hy'
    · have hkl : k = vs.length := by
        have := (List.getElem?_eq_some_iff.1 hy').1
        rw [List.length_append] at this; simp at this; omega
      subst hkl
      rw [List.getElem?_concat_length] at hy'
      injection hy' with hy'
      subst hy'
      rw [List.getElem?_append_left hjk] at hy
      have hm := List.getElem?_eq_getElem (l := rs) (i := j) (by omega)
      have hb := (h2 j y _ hy hm).2
      cases hyb : y.ownBlock with
      | none => exact .inl rfl
      | some g =>
        refine .inr fun e => ?_
        have a := hb g hyb
        have b := (hu.row.lt g e.symm).1
        omega
end

section
variable {P : Program} (w : World)
theorem wpList_appM {ops : Array Oper} {rest : List Oper} {o : Oper} {a : Act} {Q : Exit → Act → World → Prop} (hgd : o.guard = none) (s x : Operand) (t : TypeId)
    (ho : o.op = .call { callee := .builtin .append, args := #[s, x], argTypes := #[t, t] })
    (i : TypeInfo) (ht : P.underlying t = some (.slice 22)) (hi : P.info? 22 = some i) (hz0 : i.zero = some (.slice none 0 0)) (hz1 : i.size = 1) (hz2 : i.bytes = 24)
    {lo hi' : Nat} (v : Value) (rs : List (List Int)) (hs : a.eval s = v) (hown : OwnM w lo hi' v rs) (u : Value) (l : List Int) (hu : Own w hi' u l) (hlo : lo ≤ hi') (hbase : lo ≤ w.heap.size) (ad : Addr) (c : Nat) (hx : a.eval x = .slice (some ad) 1 c)
    (hcell : w.cell? ad = some u) (hsz : rs.length ≤ 1048576000)
    (h : ∀ A' n' c' w', OwnM w' lo w'.heap.size (.slice A' n' c') (rs ++ [l]) → w.grownBy w' v.ownBlock → wpList P ops Q rest (a.put o.dst (.slice A' n' c')) w') : wpList P ops Q (o :: rest) a w := by
  obtain ⟨vs, h1, h2, h3⟩ := hown.ex
  obtain ⟨Au, cu, eu⟩ := hu.slice
  refine wpList_append_own w hgd s x t ho lo 22 i (.slice none 0 0) 1 24 ht hi hz0 hz1 hz2 rfl (by decide) v rs.length vs hs h1 ad 1 c [u] hx rfl (fun j y hy => ?_) (fun y hy => ?_) (by unfold maxLen; omega) (by omega) hbase fun v' w' hr hg _ => ?_
  · cases j with
    | zero => simp at hy; subst hy; simpa [Addr.add] using hcell
    | succ j => simp at hy
  · simp at hy; subst hy; rw [eu]; rfl
  · have hO := OwnM.pushed h1 h2 h3 hu hlo hr hg
    obtain ⟨A', c', e⟩ := hO.slice
    subst e
    exact h A' _ c' w' hO hg
end

section
variable {w w' : World} {lo hi n c k : Nat} {A : Option Addr} {v : Value} {rs : List (List Int)} {l l' : List Int}
/-- Row k, as the walk meets it. -/
theorem OwnM.at_ (h : OwnM w lo hi v rs) (hl : rs[k]? = some l) : ∃ g c u, v = .slice (some ⟨g, 0, none⟩) rs.length c ∧ lo ≤ g ∧ w.cell? ⟨g, k, none⟩ = some u ∧ w.frozen? ⟨g, k, none⟩ = false ∧ Own w lo u l ∧ (∀ j, u.ownBlock = some j → j < hi) ∧
    (∀ w' l', Own w' lo u l' → w.grownBy w' u.ownBlock → OwnM w' lo hi v (rs.set k l')) := by
  obtain ⟨vs, h1, h2, h3⟩ := h.ex
  have hk := (List.getElem?_eq_some_iff.1 hl).1
  have hvl : vs.length = rs.length := by have := h1.1; omega
  rcases h.shape with ⟨_, rfl⟩ | ⟨g, c, rfl, hg, hlt⟩
  · simp at hl
  · have hu := List.getElem?_eq_getElem (l := vs) (i := k) (by omega)
    refine ⟨g, c, vs[k], rfl, hg, by rw [h1.cellAt k (by omega), hu], h1.frozenAt k, (h2 k _ l hu hl).1, (h2 k _ l hu hl).2, fun w' l' ho hgr => ?_⟩
    have hne := own_ne h1 (h2 k _ l hu hl).1
    refine ⟨vs, by rw [List.length_set]; exact h1.kept hgr (by
      rcases hne with e | e
      · rw [e]; cases (Value.slice (some ⟨g, 0, none⟩) rs.length c).ownBlock <;> simp
      · exact .inr fun e' => e e'.symm), fun j y m hy hm => ?_, h3⟩
    by_cases hjk : j = k
    · subst hjk
      rw [hu] at hy
      injection hy with hy
      subst hy
      rw [List.getElem?_set_self hk] at hm
      injection hm with hm
      subst hm
      exact ⟨ho, (h2 j _ l hu hl).2⟩
    · rw [List.getElem?_set_ne (fun e => hjk e.symm)] at hm
      refine ⟨(h2 j y m hy hm).1.kept hgr ?_, (h2 j y m hy hm).2⟩
      rcases Nat.lt_or_ge j k with hlt | hge
      · rcases h3 j k y _ hlt hy hu with e | e
        · exact .inl e
        · exact .inr e
      · rcases h3 k j _ y (by omega) hu hy with e | e
        · rw [e]; cases y.ownBlock <;> simp
        · exact .inr fun e' => e e'.symm
/-- A store into row k. -/
theorem OwnM.setIn (h : OwnM w lo hi v rs) (hl : rs[k]? = some l) {j : Nat} {x : Int} (hx : l[j]? = some x) : ∃ g c gk ck, v = .slice (some ⟨g, 0, none⟩) rs.length c ∧ w.cell? ⟨g, k, none⟩ = some (.slice (some ⟨gk, 0, none⟩) l.length ck) ∧ w.cell? ⟨gk, j, none⟩ = some (.int .i64 x) ∧ w.frozen? ⟨gk, j, none⟩ = false ∧ lo ≤ gk ∧
    ∀ y : Int, (Lit.int .i64 y).wf = true → OwnM (w.setCell ⟨gk, j, none⟩ (.int .i64 y)) lo hi v (rs.set k (l.set j y)) := by
  obtain ⟨g, c, u, hv, hg, hcell, _, ho, _, hset⟩ := h.at_ hl
  obtain ⟨gk, ck, hu, hgk, _, hcj⟩ := ho.at_ hx
  subst hu
  refine ⟨g, c, gk, ck, hv, hcell, hcj, ho.froz j, hgk, fun y hy => hset _ _ (ho.set_ y hy) ?_⟩
  exact (ho.row.stored j (.int .i64 y)).2
/-- A new row in place of row k. -/
theorem OwnM.setRow {g : Nat} (h : OwnM w lo hi (.slice (some ⟨g, 0, none⟩) n c) rs) {u : Value} (hu : Own w hi u l) (hlo : lo ≤ hi) (hk : k < rs.length) : OwnM (w.setCell ⟨g, k, none⟩ u) lo w.heap.size (.slice (some ⟨g, 0, none⟩) n c) (rs.set k l) ∧ w.frozen? ⟨g, k, none⟩ = false ∧ (∃ y, w.cell? ⟨g, k, none⟩ = some y) ∧ lo ≤ g := by
  obtain ⟨vs, h1, h2, h3⟩ := h.ex
  have hn := h.len
  subst hn
  have hvl : vs.length = rs.length := by have := h1.1; omega
  have hst := h1.stored k u
  have hkp : ∀ (y : Value) (m : List Int) {b : Nat}, Own w b y m → Own (w.setCell ⟨g, k, none⟩ u) b y m := fun y m b ho => ho.kept hst.2 (own_ne h1 ho)
  have hsz : (w.setCell ⟨g, k, none⟩ u).heap.size = w.heap.size := by simp [World.setCell]
  refine ⟨⟨vs.set k u, by rw [List.length_set]; exact hst.1, fun j y m hy hm => ?_, fun i j y y' hij hy hy' => ?_⟩, h1.frozenAt k, ⟨vs[k]'(by omega), by rw [h1.cellAt k (by omega), List.getElem?_eq_getElem]⟩, ?_⟩
  · by_cases hjk : j = k
    · subst hjk
      rw [List.getElem?_set_self (by omega)] at hy hm
      injection hy with hy; injection hm with hm
      subst hy; subst hm
      have ho := hkp _ _ hu
      exact ⟨ho.down hlo, fun q e => by have := (ho.row.lt q e).2; omega⟩
    · rw [List.getElem?_set_ne (fun e => hjk e.symm)] at hy hm
      have ho := hkp _ _ (h2 j y m hy hm).1
      exact ⟨ho, fun q e => by have := (ho.row.lt q e).2; omega⟩
  · have hfr : ∀ {j : Nat} {y : Value}, j ≠ k → vs[j]? = some y → y.ownBlock = none ∨ y.ownBlock ≠ u.ownBlock := fun {j y} hj hy => by
      have hjl := (List.getElem?_eq_some_iff.1 hy).1
      have hm := List.getElem?_eq_getElem (l := rs) (i := j) (by omega)
      have hb := (h2 j y _ hy hm).2
      cases hyb : y.ownBlock with
      | none => exact .inl rfl
      | some q =>
        refine .inr fun e => ?_
        have a := hb q hyb
        have b := (hu.row.lt q e.symm).1
        omega
    by_cases hik : i = k
    · subst hik
      rw [List.getElem?_set_self (by omega)] at hy
      rw [List.getElem?_set_ne (by omega)] at hy'
      injection hy with hy
      subst hy
      rcases hfr (by omega) hy' with e | e
      · rw [e]; cases u.ownBlock <;> simp
      · exact .inr fun e' => e e'.symm
    · by_cases hjk : j = k
      · subst hjk
        rw [List.getElem?_set_self (by omega)] at hy'
        rw [List.getElem?_set_ne (fun e => hik e.symm)] at hy
        injection hy' with hy'
        subst hy'
        exact hfr hik hy
      · rw [List.getElem?_set_ne (fun e => hik e.symm)] at hy
        rw [List.getElem?_set_ne (fun e => hjk e.symm)] at hy'
        exact h3 i j y y' hij hy hy'
  · rcases h.shape with ⟨hv, _⟩ | ⟨g', c', hv, hg, _⟩
    · cases hv
    · injection hv with e1; injection e1 with e1; injection e1 with e1; omega
end
end Go.Proofs.YtoafpokcbbncfaaDoor
