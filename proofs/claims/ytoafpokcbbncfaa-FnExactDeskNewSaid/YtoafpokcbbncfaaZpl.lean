/-
  Words, plain lemmas and contracts that belong together, joined into one file.
-/
import Derived.WalkKit
import Derived.WalkSpells
import Derived.Below
import Derived.Deep.Draws
import Derived.Laws.OwnMore
import Derived.OwnWalk
import Derived.Deep.QuietTactic
import Derived.Laws.AppendOwnNone
import Derived.Deep.RegionLaw
namespace Go.Proofs.Ytoafpokcbbncfaa
open Go.RowKit

theorem hide {p : Prop} (h : p) : Hid p := h

/-- The slice '.slice A n c' holds the ints zs; its cells lie below block B. -/
structure Ints (w : World) (B : Nat) (A : Option Addr) (n c : Nat) (zs : List Int) : Prop where
  len : zs.length = n
  le : n ≤ c
  big : c ≤ maxLen
  cells : 0 < n → ∃ b off, A = some ⟨b, off, none⟩ ∧ b < B ∧ ∀ j x, zs[j]? = some x → w.cell? ⟨b, off + j, none⟩ = some (.int .i64 x)
  wf : ∀ z ∈ zs, (Lit.int .i64 z).wf = true
  nil0 : A = none → c = 0

section
variable {w w' : World} {B B' n c k : Nat} {A : Option Addr} {zs : List Int}
theorem Ints.look (h : Ints w B A n c zs) (hk : k < n) : ∃ b off x, A = some ⟨b, off, none⟩ ∧ b < B ∧ Hid (zs[k]? = some x) ∧ w.cell? ⟨b, off + k, none⟩ = some (.int .i64 x) := by
  obtain ⟨b, off, e, hb, hc⟩ := h.cells (by omega)
  have hl : k < zs.length := by have := h.len; omega
  exact ⟨b, off, zs[k], e, hb, List.getElem?_eq_getElem hl, hc k _ (List.getElem?_eq_getElem hl)⟩
theorem Ints.nb (h : Ints w B A n c zs) : n ≤ 9223372036854775807 := by have := h.le; have := h.big; unfold maxLen at this; omega
theorem Ints.keep (h : Ints w B A n c zs) (hk : ∀ p : Addr, p.block < B → w'.cell? p = w.cell? p) : Ints w' B A n c zs :=
  ⟨h.len, h.le, h.big, fun hn => by
    obtain ⟨b, off, e, hb, hc⟩ := h.cells hn
    exact ⟨b, off, e, hb, fun j x hx => (hk _ hb).trans (hc j x hx)⟩, h.wf, h.nil0⟩
theorem Ints.more (h : Ints w B A n c zs) (hB : B ≤ B') : Ints w B' A n c zs :=
  ⟨h.len, h.le, h.big, fun hn => by
    obtain ⟨b, off, e, hb, hc⟩ := h.cells hn
    exact ⟨b, off, e, by omega, hc⟩, h.wf, h.nil0⟩
theorem Ints.below (h : Ints w B A n c zs) (hb : Below B w w') : Ints w' B A n c zs := h.keep fun _ hp => hb.cell hp
theorem Ints.drew (h : Ints w B A n c zs) : Ints w.drew B A n c zs := ⟨h.len, h.le, h.big, h.cells, h.wf, h.nil0⟩
theorem Ints.drewN (h : Ints w B A n c zs) (k : Nat) : Ints (w.drewN k) B A n c zs := ⟨h.len, h.le, h.big, h.cells, h.wf, h.nil0⟩
theorem Ints.alloc (h : Ints w B A n c zs) (hB : B ≤ w.heap.size) (o : Obj) : Ints (w.alloc o) B A n c zs := h.keep fun p hp => World.cell?_alloc_lt w o p (by omega)
theorem Ints.setCell (h : Ints w B A n c zs) {p : Addr} (hB : B ≤ p.block) (u : Value) : Ints (w.setCell p u) B A n c zs :=
  h.keep fun q hq => World.cell?_setCell_other w p q u (fun e => by subst e; omega)
theorem Ints.nil : Ints w B none 0 0 [] := ⟨rfl, Nat.le_refl _, Nat.zero_le _, fun h => absurd h (by omega), (fun _ h => by cases h), fun _ => rfl⟩
end
theorem below_drewN {B : Nat} {a w : World} (h : Below B a w) (n : Nat) : Below B a (w.drewN n) := ⟨h.os, h.tape, h.output, h.size, h.block⟩
/-! A quiet callee at a call inside a region that draws: its post says 'w = w'' (or some draws), the region wants draws over its own first world. -/
section
variable {P : Program} {f : FuncId} {args : Array Value} {w : World} {a n : Nat} {v : Value}
theorem qs0 (h : Calls P f args w fun e w' => e = .returned v ∧ w = w') : Calls P f args w fun e w'' => e = .returned v ∧ ∃ m, w'' = w.drewN m :=
  h.mono fun _ _ ⟨he, hm⟩ => ⟨he, 0, hm.symm⟩
theorem qs1 (h : Calls P f args (w.drewN n) fun e w' => e = .returned v ∧ w.drewN n = w') : Calls P f args (w.drewN n) fun e w'' => e = .returned v ∧ ∃ m, w'' = w.drewN m :=
  h.mono fun _ _ ⟨he, hm⟩ => ⟨he, n, hm.symm⟩
theorem qs2 (h : Calls P f args (w.drewN (a + n)) fun e w' => e = .returned v ∧ w.drewN (a + n) = w') : Calls P f args (w.drewN (a + n)) fun e w'' => e = .returned v ∧ ∃ m, w'' = w.drewN (a + m) :=
  h.mono fun _ _ ⟨he, hm⟩ => ⟨he, n, hm.symm⟩
theorem qd1 (h : Calls P f args (w.drewN n) fun e w' => e = .returned v ∧ ∃ m, w' = (w.drewN n).drewN m) : Calls P f args (w.drewN n) fun e w'' => e = .returned v ∧ ∃ m, w'' = w.drewN m :=
  h.mono fun _ _ ⟨he, m, hm⟩ => ⟨he, n + m, by rw [hm, World.drewN_drewN]⟩
theorem qd2 (h : Calls P f args (w.drewN (a + n)) fun e w' => e = .returned v ∧ ∃ m, w' = (w.drewN (a + n)).drewN m) : Calls P f args (w.drewN (a + n)) fun e w'' => e = .returned v ∧ ∃ m, w'' = w.drewN (a + m) :=
  h.mono fun _ _ ⟨he, m, hm⟩ => ⟨he, n + m, by rw [hm, World.drewN_drewN, Nat.add_assoc]⟩
end
theorem quietB {P : Program} {f : FuncId} {args : Array Value} {w : World} {e0 : Ending} (h : Calls P f args w fun e w' => e = e0 ∧ ∃ q, w' = w.drewN q) : Calls P f args w fun e w' => e = e0 ∧ Below w.heap.size w w' :=
  h.mono fun _ _ ⟨he, q, hw⟩ => ⟨he, by rw [hw]; exact below_drewN (Below.refl _ _) q⟩
theorem sameB {P : Program} {f : FuncId} {args : Array Value} {w : World} {e0 : Ending} (h : Calls P f args w fun e w' => e = e0 ∧ w = w') : Calls P f args w fun e w' => e = e0 ∧ Below w.heap.size w w' :=
  h.mono fun _ _ ⟨he, hw⟩ => ⟨he, by rw [← hw]; exact Below.refl _ _⟩
/-- Two slices of blocks in ranges that lie apart share no block. -/
theorem apart {v u : Value} {a b c d : Nat} (hv : ∀ k, v.ownBlock = some k → a ≤ k ∧ k < b) (hu : ∀ k, u.ownBlock = some k → c ≤ k ∧ k < d) (h : b ≤ c ∨ d ≤ a) : v.ownBlock = none ∨ v.ownBlock ≠ u.ownBlock := by
  cases hk : v.ownBlock with
  | none => exact .inl rfl
  | some k =>
    refine .inr fun e => ?_
    have h1 := hv k hk
    have h2 := hu k e.symm
    omega
theorem ret_bool {a b : Bool} (h : a = b) : Ending.returned (.bool a) = .returned (.bool b) := by rw [h]
theorem ret_int {k : IntKind} {a b : Int} (h : a = b) : Ending.returned (.int k a) = .returned (.int k b) := by rw [h]

/-- What the call itself made: the slice v owns just the ints zs, in a block from 'base' on. -/
structure Own (w : World) (base : Nat) (v : Value) (zs : List Int) : Prop where
  row : w.ownsRow base 3 1 v zs.length (zs.map (Value.int .i64))
  wf : ∀ z ∈ zs, (Lit.int .i64 z).wf = true

section
variable {w w' : World} {base base' n c : Nat} {v : Value} {A : Option Addr} {zs : List Int}
theorem Own.shape (h : Own w base v zs) : (v = .slice none 0 0 ∧ zs = []) ∨ ∃ g c, v = .slice (some ⟨g, 0, none⟩) zs.length c ∧ base ≤ g ∧ g < w.heap.size := by
  rcases h.row.2 with ⟨hv, h0⟩ | ⟨g, cap, cur, hv, hg, hh, _⟩
  · exact .inl ⟨hv, List.eq_nil_of_length_eq_zero h0⟩
  · exact .inr ⟨g, cap, hv, hg, (Array.getElem?_eq_some_iff.1 hh).1⟩
theorem Own.slice (h : Own w base v zs) : ∃ A c, v = .slice A zs.length c := by
  rcases h.shape with ⟨rfl, rfl⟩ | ⟨g, c, rfl, _⟩
  · exact ⟨_, _, rfl⟩
  · exact ⟨_, _, rfl⟩
theorem Own.ints (h : Own w base (.slice A n c) zs) : Ints w w.heap.size A n c zs := by
  rcases h.row.2 with ⟨hv, h0⟩ | ⟨g, cap, cur, hv, hg, hh, hn, hm, hs, ht⟩
  · injection hv with h1 h2 h3
    subst h1; subst h2; subst h3
    obtain rfl := List.eq_nil_of_length_eq_zero h0
    exact Ints.nil
  · injection hv with h1 h2 h3
    subst h1; subst h2; subst h3
    refine ⟨rfl, hn, hm, fun hp => ⟨g, 0, rfl, (Array.getElem?_eq_some_iff.1 hh).1, fun j x hx => ?_⟩, h.wf, fun e => by cases e⟩
    have hj : j < zs.length := (List.getElem?_eq_some_iff.1 hx).1
    rw [Nat.zero_add, h.row.cellAt j (by omega)]
    simp [hx]
theorem Own.len (h : Own w base (.slice A n c) zs) : n = zs.length := by
  rcases h.row.2 with ⟨hv, h0⟩ | ⟨g, cap, cur, hv, _⟩
  · injection hv with h1 h2 h3; omega
  · injection hv
theorem Own.kept {row : Option Nat} (h : Own w base v zs) (hg : w.grownBy w' row) (hne : v.ownBlock = none ∨ v.ownBlock ≠ row) : Own w' base v zs := ⟨h.row.kept hg hne, h.wf⟩
theorem Own.below {B : Nat} (h : Own w base v zs) (hb : Below B w w') (hB : w.heap.size ≤ B) : Own w' base v zs :=
  h.kept (row := none) ⟨hb.os, hb.tape, hb.output, hb.size, fun k hk _ => hb.block k (by omega)⟩ (by cases v.ownBlock <;> simp)
theorem Own.down (h : Own w base v zs) (hb : base' ≤ base) : Own w base' v zs := by
  refine ⟨⟨h.row.1, ?_⟩, h.wf⟩
  rcases h.row.2 with hn | ⟨g, cap, cur, hv, hg, r⟩
  · exact .inl hn
  · exact .inr ⟨g, cap, cur, hv, by omega, r⟩
theorem Own.drew (h : Own w base v zs) : Own w.drew base v zs := ⟨h.row, h.wf⟩
theorem Own.drewN (h : Own w base v zs) (k : Nat) : Own (w.drewN k) base v zs := ⟨h.row, h.wf⟩
theorem Own.none_ : Own w base (.slice none 0 0) [] := ⟨World.ownsRow_nil _ _ _ _, fun _ h => by cases h⟩
end
/-- From the frame's own word ('IsRow', unfolded) to 'Ints'. -/
theorem ints_of {w : World} {a : Option Addr} {len cap : Nat} {zs : List Int}
    (h : (a = none ∧ len = 0 ∧ cap = 0 ∧ zs = []) ∨ ∃ x, a = some x ∧ len ≤ cap ∧ cap ≤ maxLen ∧ zs.length = cap ∧ (∀ i, i < zs.length → w.cell? (x.add i) = some (.int .i64 (zs.getD i 0))) ∧ ∀ n ∈ zs, (Lit.int .i64 n).wf = true) :
    Ints w w.heap.size a len cap (zs.take len) := by
  rcases h with ⟨rfl, rfl, rfl, rfl⟩ | ⟨x, rfl, hl, hm, hz, hc, hw⟩
  · exact Ints.nil
  · refine ⟨by rw [List.length_take]; omega, hl, hm, fun hp => ?_, fun z hz => hw z (List.mem_of_mem_take hz), fun e => by cases e⟩
    obtain ⟨b, off, spot⟩ := x
    have h0 := hc 0 (by omega)
    have hspot : spot = none := by simpa [Addr.add] using World.cell?_spot h0
    subst hspot
    refine ⟨b, off, rfl, ?_, fun j y hy => ?_⟩
    · have := World.block_lt_of_cell? w _ h0
      simpa [Addr.add] using this
    · have hj : j < len := by
        have := (List.getElem?_eq_some_iff.1 hy).1
        rw [List.length_take] at this
        omega
      have h1 := hc j (by omega)
      rw [List.getElem?_take_of_lt hj] at hy
      have e : (Addr.mk b off none).add j = ⟨b, off + j, none⟩ := by
        unfold Addr.add
        by_cases hj0 : j = 0 <;> simp [hj0]
      rw [e] at h1
      rw [h1]
      simp [hy]
theorem Ints.wf_at {w : World} {B n c k : Nat} {A : Option Addr} {zs : List Int} {x : Int} (h : Ints w B A n c zs) (hx : zs[k]? = some x) : (Lit.int .i64 x).wf = true := h.wf x (List.mem_of_getElem? hx)

/-- The first k of zs, and zeros up to its length. -/
def cpy (zs : List Int) (k : Nat) : List Int := zs.take k ++ List.replicate (zs.length - k) 0
theorem cpy_zero (zs : List Int) : cpy zs 0 = List.replicate zs.length 0 := by simp [cpy]
theorem cpy_all (zs : List Int) : cpy zs zs.length = zs := by simp [cpy]
theorem cpy_len (zs : List Int) (k : Nat) : (cpy zs k).length = zs.length := by
  simp [cpy]; omega
theorem cpy_set (zs : List Int) (k : Nat) (x : Int) (h : zs[k]? = some x) : (cpy zs k).set k x = cpy zs (k + 1) := by
  obtain ⟨hk, rfl⟩ := List.getElem?_eq_some_iff.1 h
  apply List.ext_getElem
  · simp [cpy]; omega
  · intro j h1 h2
    rw [List.getElem_set]
    split
    · subst_vars; simp [cpy, List.getElem_append]; omega
    · simp only [cpy, List.getElem_append, List.length_take, List.getElem_take, List.getElem_replicate]
      split <;> split <;> first | rfl | omega
/-- k, k + 1, .. in the first j places. -/
def mrk (zs : List Int) (k : Int) (j : Nat) : List Int := (List.range j).map (fun (i : Nat) => k + (i : Int)) ++ zs.drop j
theorem mrk_zero (zs : List Int) (k : Int) : mrk zs k 0 = zs := by simp [mrk]
theorem mrk_len (zs : List Int) (k : Int) (j : Nat) (h : j ≤ zs.length) : (mrk zs k j).length = zs.length := by simp [mrk]; omega
theorem mrk_set (zs : List Int) (k : Int) (j : Nat) (h : j < zs.length) : (mrk zs k j).set j (k + (j : Int)) = mrk zs k (j + 1) := by
  apply List.ext_getElem
  · simp [mrk]; omega
  · intro i h1 h2
    rw [List.getElem_set]
    split
    · subst_vars; simp [mrk]
    · simp only [mrk, List.getElem_append, List.length_map, List.length_range, List.getElem_map, List.getElem_range, List.getElem_drop]
      split <;> split <;> first | rfl | omega | (congr 1; omega)
theorem mrk_get (zs : List Int) (k : Int) (i : Nat) (h : i < zs.length) : (mrk zs k zs.length)[i]? = some (k + (i : Int)) := by
  simp [mrk, h]
theorem wf_i64 {z : Int} (h : -9223372036854775808 ≤ z ∧ z ≤ 9223372036854775807) : (Lit.int .i64 z).wf = true := by
  simp [Lit.wf, IntKind.min, IntKind.max, IntKind.signed, IntKind.bits]; omega
theorem i64_wf {z : Int} (h : (Lit.int .i64 z).wf = true) : -9223372036854775808 ≤ z ∧ z ≤ 9223372036854775807 := by
  simp [Lit.wf, IntKind.min, IntKind.max, IntKind.signed, IntKind.bits] at h; omega

/-! ### Plain functions -/
def ballsOk (z : Int) : Bool := decide (0 ≤ z ∧ z ≤ 40)
def urnOk (zs : List Int) : Bool := decide (1 ≤ zs.length ∧ zs.length ≤ 3) && zs.all ballsOk
theorem urnOk_len {zs : List Int} (h : zs.length < 1 ∨ 3 < zs.length) : urnOk zs = false := by
  unfold urnOk; rw [decide_eq_false (by omega)]; rfl
theorem urnOk_bad {zs : List Int} {k : Nat} {x : Int} (h : zs[k]? = some x) (hx : x < 0 ∨ 40 < x) : urnOk zs = false := by
  have hm := List.mem_of_getElem? h
  have : zs.all ballsOk = false := by
    rw [List.all_eq_false]
    exact ⟨x, hm, by simp [ballsOk]; omega⟩
  unfold urnOk; rw [this, Bool.and_false]
theorem urnOk_good {zs : List Int} (hl : 1 ≤ zs.length ∧ zs.length ≤ 3) (h : ∀ j x, j < zs.length → zs[j]? = some x → 0 ≤ x ∧ x ≤ 40) : urnOk zs = true := by
  unfold urnOk
  rw [decide_eq_true hl, Bool.true_and, List.all_eq_true]
  intro x hx
  obtain ⟨j, hj, rfl⟩ := List.getElem_of_mem hx
  simpa [ballsOk] using h j _ hj (List.getElem?_eq_getElem hj)

def sameL (xs ys : List Int) : Bool := decide (xs = ys)
theorem sameL_len {xs ys : List Int} (h : xs.length ≠ ys.length) : sameL xs ys = false := decide_eq_false (fun e => h (by rw [e]))
theorem sameL_bad {xs ys : List Int} {k : Nat} {x y : Int} (hx : xs[k]? = some x) (hy : ys[k]? = some y) (h : x ≠ y) : sameL xs ys = false :=
  decide_eq_false (fun e => by subst e; rw [hx] at hy; injection hy with hy; exact h hy)
theorem sameL_good {xs ys : List Int} (hl : xs.length = ys.length) (h : ∀ j, j < xs.length → xs[j]? = ys[j]?) : sameL xs ys = true :=
  decide_eq_true (List.ext_getElem? fun j => by
    rcases Nat.lt_or_ge j xs.length with hj | hj
    · exact h j hj
    · rw [List.getElem?_eq_none hj, List.getElem?_eq_none (by omega)])
theorem sameL_refl (xs : List Int) : sameL xs xs = true := decide_eq_true rfl
end Go.Proofs.Ytoafpokcbbncfaa

namespace Go.Proofs.Ytoafpokcbbncfaa
open Go.RowKit

/-- A slice literal without elements: a new block. -/
theorem own_lit0 (w : World) : (w.alloc (.cells #[] 3)).ownsRow w.heap.size 3 1 (.slice (some ⟨w.heap.size, 0, none⟩) 0 0) 0 [] :=
  World.ownsRow_made w #[] 0 (Nat.le_refl _) (Nat.zero_le _) rfl

theorem ints_cells {w : World} {B b off c : Nat} {n : Nat} {zs : List Int} (h : Ints w B (some ⟨b, off, none⟩) n c zs) :
    ∀ j u, (zs.map (Value.int .i64))[j]? = some u → w.cell? ((⟨b, off, none⟩ : Addr).add j) = some u := by
  intro j u hu
  rw [List.getElem?_map] at hu
  obtain ⟨x, hx, rfl⟩ := Option.map_eq_some_iff.1 hu
  have hl := h.len
  have hj : j < n := by have := (List.getElem?_eq_some_iff.1 hx).1; omega
  obtain ⟨b', off', e, _, hc⟩ := h.cells (by omega)
  injection e with e
  injection e with e1 e2
  subst e1; subst e2
  have e : (Addr.mk b off none).add j = ⟨b, off + j, none⟩ := by
    unfold Addr.add
    by_cases hj0 : j = 0 <;> simp [hj0]
  rw [e]
  exact hc j x hx
theorem ints_one (zs : List Int) : ∀ u ∈ zs.map (Value.int .i64), u.oneCell' = true := by
  intro u hu
  obtain ⟨x, _, rfl⟩ := List.mem_map.1 hu
  rfl

/-- A number that wraps is none of an urn. -/
theorem wrap_ok (x m : Int) (hx : 0 ≤ x ∧ x ≤ 40) (hm : (Lit.int .i64 m).wf = true) : (0 ≤ wrap64 (x + m) ∧ wrap64 (x + m) ≤ 40) ↔ (0 ≤ x + m ∧ x + m ≤ 40) := by
  have := i64_wf hm
  simp only [wrap64]
  omega
theorem wrap_in (x m : Int) (h : 0 ≤ x + m ∧ x + m ≤ 40) : wrap64 (x + m) = x + m := by
  simp only [wrap64]
  omega
theorem wf_wrap64 (x : Int) : (Lit.int .i64 (wrap64 x)).wf = true := wf_i64 (by simp only [wrap64]; omega)

theorem Own.set_ {w : World} {base g n c k : Nat} {zs : List Int} (h : Own w base (.slice (some ⟨g, 0, none⟩) n c) zs) (y : Int) (hy : (Lit.int .i64 y).wf = true) :
    Own (w.setCell ⟨g, k, none⟩ (.int .i64 y)) base (.slice (some ⟨g, 0, none⟩) n c) (zs.set k y) := by
  have hn := h.len
  subst hn
  refine ⟨?_, fun z hz => ?_⟩
  · have := (h.row.stored k (.int .i64 y)).1
    rw [List.length_set, List.map_set]
    exact this
  · rcases List.mem_or_eq_of_mem_set hz with h1 | h1
    · exact h.wf z h1
    · rw [h1]; exact hy
theorem Own.froz {w : World} {base g n c : Nat} {zs : List Int} (h : Own w base (.slice (some ⟨g, 0, none⟩) n c) zs) (k : Nat) : w.frozen? ⟨g, k, none⟩ = false := by
  have hn := h.len
  subst hn
  exact h.row.frozenAt k
theorem Own.at_ {w : World} {base k : Nat} {v : Value} {x : Int} {zs : List Int} (h : Own w base v zs) (hx : zs[k]? = some x) : ∃ g c, v = .slice (some ⟨g, 0, none⟩) zs.length c ∧ base ≤ g ∧ g < w.heap.size ∧ w.cell? ⟨g, k, none⟩ = some (.int .i64 x) := by
  rcases h.shape with ⟨_, rfl⟩ | ⟨g, c, rfl, hg, hlt⟩
  · simp at hx
  · refine ⟨g, c, rfl, hg, hlt, ?_⟩
    have hk := (List.getElem?_eq_some_iff.1 hx).1
    rw [h.row.cellAt k (by omega)]
    simp [hx]

theorem own_empty {w : World} {base : Nat} (hb : base ≤ w.heap.size) : Own (w.alloc (.cells #[] 3)) base (.slice (some ⟨w.heap.size, 0, none⟩) 0 0) [] :=
  ⟨World.ownsRow_made w #[] 0 hb (Nat.zero_le _) rfl, fun _ h => by cases h⟩
theorem own_empty' {w : World} {base g : Nat} (hg : g = w.heap.size) (hb : base ≤ w.heap.size) : Own (w.alloc (.cells #[] 3)) base (.slice (some ⟨g, 0, none⟩) 0 0) [] := by
  subst hg; exact own_empty hb
theorem below_empty {w w1 : World} (hb : Below w.heap.size w w1) (o : Obj) : Below w.heap.size w (w1.alloc o) := hb.alloc hb.size o


section
variable {P : Program} (w : World)
theorem run_app (t ty : TypeId) (i : TypeInfo) (ht : P.underlying t = some (.slice 3)) (hi : P.info? 3 = some i) (hz0 : i.zero = some (.int .i64 0)) (hz1 : i.size = 1) (hz2 : i.bytes = 8)
    {base : Nat} {v : Value} {zs : List Int} (hown : Own w base v zs) {A : Option Addr} {m c B : Nat} {news : List Int} (hr : Ints w B A m c news) (hbase : base ≤ w.heap.size) (hsz : zs.length + m ≤ 1048576000) :
    ∃ A' n' c' w', (Builtin.append_ #[t, t] ty #[v, .slice A m c]).run P w = .ok (.slice A' n' c') w' ∧ Own w' base (.slice A' n' c') (zs ++ news) ∧ w.grownBy w' v.ownBlock := by
  have hl := hr.len
  cases A with
  | none =>
    have hm : m = 0 := by
      rcases Nat.eq_zero_or_pos m with h0 | h0
      · exact h0
      · obtain ⟨b, off, e, _⟩ := hr.cells h0
        cases e
    have hc := hr.nil0 rfl
    subst hm; subst hc
    obtain rfl := List.eq_nil_of_length_eq_zero hl
    obtain ⟨A', c', rfl⟩ := hown.slice
    exact ⟨A', _, c', w, run_append_owned_none w base t ty 3 i 1 ht hi _ _ _ hown.row, by simpa using hown, World.grownBy.refl w _⟩
  | some ad =>
    have hnews : ∀ j u, (news.map (Value.int .i64))[j]? = some u → w.cell? (ad.add j) = some u := by
      intro j u hu
      have hj : j < m := by
        have := (List.getElem?_eq_some_iff.1 hu).1
        rw [List.length_map] at this
        omega
      obtain ⟨b, off, e, _⟩ := hr.cells (by omega)
      injection e with e
      subst e
      exact ints_cells hr j u hu
    obtain ⟨v', w', hrun, h2, h3, _⟩ := run_append_own (P := P) w base t ty 3 i (.int .i64 0) 1 8 ht hi hz0 hz1 hz2 rfl (by decide) v zs.length _ hown.row ad m c (news.map (Value.int .i64)) (by rw [List.length_map]; omega) hnews (ints_one _) (by unfold maxLen; omega) (by omega) hbase
    have hO : Own w' base v' (zs ++ news) := ⟨by
      rw [List.length_append, List.map_append, hl]; exact h2, fun z hz => by
      rcases List.mem_append.1 hz with h | h
      · exact hown.wf z h
      · exact hr.wf z h⟩
    obtain ⟨A', c', rfl⟩ := hO.slice
    exact ⟨A', _, c', w', hrun, hO, h3⟩

theorem wp_app {o : Oper} {a : Act} {K : Act → World → Prop} {Q : Exit → Act → World → Prop} (s x : Operand) (t : TypeId)
    (ho : o.op = .call { callee := .builtin .append, args := #[s, x], argTypes := #[t, t] })
    (i : TypeInfo) (ht : P.underlying t = some (.slice 3)) (hi : P.info? 3 = some i) (hz0 : i.zero = some (.int .i64 0)) (hz1 : i.size = 1) (hz2 : i.bytes = 8)
    {base : Nat} (v : Value) (zs : List Int) (hs : a.eval s = v) (hown : Own w base v zs) (A : Option Addr) (m c B : Nat) (news : List Int) (hx : a.eval x = .slice A m c) (hr : Ints w B A m c news) (hbase : base ≤ w.heap.size) (hsz : zs.length + m ≤ 1048576000)
    (h : ∀ A' n' c' w', Own w' base (.slice A' n' c') (zs ++ news) → w.grownBy w' v.ownBlock → K (a.put o.dst (.slice A' n' c')) w') : o.wp P a w K Q := by
  obtain ⟨A', n', c', w', hrun, h2, h3⟩ := run_app (P := P) w t o.type i ht hi hz0 hz1 hz2 hown hr hbase hsz
  unfold Oper.wp execOp
  simp only [ho, resolve, invoke, builtin, Sem.run_bind, Sem.run_pure, Result.andThen_ok, List.map_toArray, List.map_cons, List.map_nil, hs, hx, hrun]
  exact h A' n' c' w' h2 h3

theorem wpList_app {ops : Array Oper} {rest : List Oper} {o : Oper} {a : Act} {Q : Exit → Act → World → Prop} (hgd : o.guard = none) (s x : Operand) (t : TypeId)
    (ho : o.op = .call { callee := .builtin .append, args := #[s, x], argTypes := #[t, t] })
    (i : TypeInfo) (ht : P.underlying t = some (.slice 3)) (hi : P.info? 3 = some i) (hz0 : i.zero = some (.int .i64 0)) (hz1 : i.size = 1) (hz2 : i.bytes = 8)
    {base : Nat} (v : Value) (zs : List Int) (hs : a.eval s = v) (hown : Own w base v zs) (A : Option Addr) (m c B : Nat) (news : List Int) (hx : a.eval x = .slice A m c) (hr : Ints w B A m c news) (hbase : base ≤ w.heap.size) (hsz : zs.length + m ≤ 1048576000)
    (h : ∀ A' n' c' w', Own w' base (.slice A' n' c') (zs ++ news) → w.grownBy w' v.ownBlock → wpList P ops Q rest (a.put o.dst (.slice A' n' c')) w') : wpList P ops Q (o :: rest) a w :=
  wpList_plain hgd fun _ hK => wp_app w s x t ho i ht hi hz0 hz1 hz2 v zs hs hown A m c B news hx hr hbase hsz fun A' n' c' w' h2 h3 => hK _ _ (h A' n' c' w' h2 h3)

theorem step_app {ops : Array Oper} {o : Oper} {a : Act} {K : Act → World → Prop} {Q : Exit → Act → World → Prop} {E : Prop} (hgd : o.guard = none) (s x : Operand) (t : TypeId)
    (ho : o.op = .call { callee := .builtin .append, args := #[s, x], argTypes := #[t, t] })
    (i : TypeInfo) (ht : P.underlying t = some (.slice 3)) (hi : P.info? 3 = some i) (hz0 : i.zero = some (.int .i64 0)) (hz1 : i.size = 1) (hz2 : i.bytes = 8)
    {base : Nat} (v : Value) (zs : List Int) (hs : a.eval s = v) (hown : Own w base v zs) (A : Option Addr) (m c B : Nat) (news : List Int) (hx : a.eval x = .slice A m c) (hr : Ints w B A m c news) (hbase : base ≤ w.heap.size) (hsz : zs.length + m ≤ 1048576000)
    (h : ∀ A' n' c' w', Own w' base (.slice A' n' c') (zs ++ news) → w.grownBy w' v.ownBlock → K (a.put o.dst (.slice A' n' c')) w') :
    if Region.wanted o (yielded ops a.tmps) = true then Oper.wp P o a w K Q else E := by
  have hw : Region.wanted o (yielded ops a.tmps) = true := by simp [Region.wanted, hgd]
  rw [if_pos hw]
  exact wp_app w s x t ho i ht hi hz0 hz1 hz2 v zs hs hown A m c B news hx hr hbase hsz h
end

/-- A slice literal of one element, ready to be appended. -/
theorem ints_lit1 {w : World} {x : Int} (hx : (Lit.int .i64 x).wf = true) : Ints (w.alloc (.cells #[.int .i64 x] 3)) (w.heap.size + 1) (some ⟨w.heap.size, 0, none⟩) 1 1 [x] := by
  refine ⟨rfl, Nat.le_refl _, by unfold maxLen; omega, fun _ => ⟨w.heap.size, 0, rfl, by omega, fun j y hy => ?_⟩, fun z hz => ?_, fun e => by cases e⟩
  · cases j with
    | zero => simp at hy; subst hy; rw [Nat.zero_add, World.cell?_alloc_at _ _ _ _ rfl]; rfl
    | succ j => simp at hy
  · simp at hz; subst hz; exact hx
theorem Own.alloc {w : World} {base : Nat} {v : Value} {zs : List Int} (h : Own w base v zs) (o : Obj) : Own (w.alloc o) base v zs := ⟨h.row.alloc o, h.wf⟩
theorem Own.at2 {w : World} {base k n c : Nat} {A : Option Addr} {x : Int} {zs : List Int} (h : Own w base (.slice A n c) zs) (hx : zs[k]? = some x) : ∃ g, A = some ⟨g, 0, none⟩ ∧ base ≤ g ∧ g < w.heap.size ∧ w.cell? ⟨g, k, none⟩ = some (.int .i64 x) ∧ w.frozen? ⟨g, k, none⟩ = false := by
  obtain ⟨g, c2, hv, hg, hgl, hcell⟩ := h.at_ hx
  injection hv with h1 h2 h3
  subst h1; subst h2
  exact ⟨g, rfl, hg, hgl, hcell, h.froz k⟩
theorem Own.ltI {w : World} {base n c : Nat} {k x : Int} {A : Option Addr} {zs : List Int} (h : Own w base (.slice A n c) zs) (hx : zs[k.toNat]? = some x) : k < (n : Int) := by
  have h1 := h.len
  have h2 := (List.getElem?_eq_some_iff.1 hx).1
  omega
end Go.Proofs.Ytoafpokcbbncfaa

namespace Go.Proofs.Ytoafpokcbbncfaa
open Go.RowKit

def isum : List Int → Int
  | [] => 0
  | x :: r => x + isum r
theorem isum_append (xs ys : List Int) : isum (xs ++ ys) = isum xs + isum ys := by
  induction xs with
  | nil => simp [isum]
  | cons x r ih => simp [isum, ih]; omega
theorem take_succ {zs : List Int} {k : Nat} {x : Int} (h : zs[k]? = some x) : zs.take (k + 1) = zs.take k ++ [x] := by
  rw [List.take_add_one, h]; rfl
theorem isum_take_succ {zs : List Int} {k : Nat} {x : Int} (h : zs[k]? = some x) : isum (zs.take (k + 1)) = isum (zs.take k) + x := by
  rw [take_succ h, isum_append]; simp [isum]
theorem isum_bounds (M : Int) (zs : List Int) (h : ∀ z ∈ zs, 0 ≤ z ∧ z ≤ M) : 0 ≤ isum zs ∧ isum zs ≤ M * zs.length := by
  induction zs with
  | nil => simp [isum]
  | cons x r ih =>
    have h1 := h x (by simp)
    have h2 := ih (fun z hz => h z (by simp [hz]))
    have e : M * ((x :: r).length : Int) = M * (r.length : Int) + M := by
      rw [List.length_cons, Int.natCast_add, Int.mul_add]; simp
    rw [e]
    simp only [isum]
    omega
theorem urnOk_mem {zs : List Int} (h : urnOk zs = true) : ∀ z ∈ zs, 0 ≤ z ∧ z ≤ 40 := by
  unfold urnOk at h
  rw [Bool.and_eq_true, List.all_eq_true] at h
  intro z hz
  simpa [ballsOk] using h.2 z hz
theorem urnOk_elem {zs : List Int} {k : Nat} {x : Int} (h : urnOk zs = true) (hx : zs[k]? = some x) : 0 ≤ x ∧ x ≤ 40 := urnOk_mem h x (List.mem_of_getElem? hx)
theorem urnOk_size {zs : List Int} (h : urnOk zs = true) : 1 ≤ zs.length ∧ zs.length ≤ 3 := by
  unfold urnOk at h
  rw [Bool.and_eq_true] at h
  exact of_decide_eq_true h.1
theorem urnOk_sum {zs : List Int} (h : urnOk zs = true) : 0 ≤ isum zs ∧ isum zs ≤ 120 := by
  have h1 := isum_bounds 40 zs (urnOk_mem h)
  have h2 := urnOk_size h
  omega
theorem take_sum {zs : List Int} (h : urnOk zs = true) (k : Nat) : 0 ≤ isum (zs.take k) ∧ isum (zs.take k) ≤ 120 := by
  have h1 := isum_bounds 40 (zs.take k) (fun z hz => urnOk_mem h z (List.mem_of_mem_take hz))
  have h2 := urnOk_size h
  have h3 : (zs.take k).length ≤ zs.length := List.length_take_le' _ _
  omega
theorem part_le_sum {zs : List Int} (h : urnOk zs = true) {k : Nat} {x : Int} (hx : zs[k]? = some x) : x ≤ isum zs := by
  have h0 := urnOk_mem h
  clear h
  induction zs generalizing k with
  | nil => simp at hx
  | cons z r ih =>
    have hr := (isum_bounds 40 r (fun y hy => h0 y (by simp [hy]))).1
    have hz := h0 z (by simp)
    cases k with
    | zero => simp at hx; subst hx; simp only [isum]; omega
    | succ k =>
      have := ih (by simpa using hx) (fun y hy => h0 y (by simp [hy]))
      simp only [isum]; omega

def totalF (zs : List Int) : Int := if urnOk zs then isum zs else -1
theorem totalF_ok {zs : List Int} (h : urnOk zs = true) : totalF zs = isum zs := by unfold totalF; rw [if_pos h]
theorem totalF_no {zs : List Int} (h : urnOk zs = false) : totalF zs = -1 := by unfold totalF; rw [if_neg (by rw [h]; decide)]
theorem totalF_lo (zs : List Int) : -1 ≤ totalF zs ∧ totalF zs ≤ 120 := by
  by_cases h : urnOk zs = true
  · rw [totalF_ok h]; have := urnOk_sum h; omega
  · rw [totalF_no (by simpa using h)]; omega

def gcdI (a b : Int) : Int := (Nat.gcd a.toNat b.toNat : Int)
theorem gcdI_zero {a : Int} (h : 0 ≤ a) : gcdI a 0 = a := by simp [gcdI]; omega
theorem gcdI_step {a b : Int} (ha : 0 ≤ a) (hb : 0 < b) : gcdI b (a % b) = gcdI a b := by
  unfold gcdI
  rw [Int.toNat_emod ha (by omega), Nat.gcd_comm, ← Nat.gcd_rec, Nat.gcd_comm]
theorem gcdI_pos {a b : Int} (h : 0 < b) : 0 < gcdI a b := by
  have := Nat.gcd_pos_of_pos_right a.toNat (n := b.toNat) (by omega)
  unfold gcdI; omega
theorem gcdI_le {a b : Int} (h : 0 < b) : gcdI a b ≤ b := by
  have := Nat.gcd_le_right a.toNat (n := b.toNat) (by omega)
  unfold gcdI; omega
theorem gcdI_dvd {a b : Int} (ha : 0 ≤ a) (hb : 0 ≤ b) : gcdI a b ∣ a ∧ gcdI a b ∣ b := by
  unfold gcdI
  constructor
  · have := Nat.gcd_dvd_left a.toNat b.toNat
    have h := Int.natCast_dvd_natCast.2 this
    rwa [Int.toNat_of_nonneg ha] at h
  · have := Nat.gcd_dvd_right a.toNat b.toNat
    have h := Int.natCast_dvd_natCast.2 this
    rwa [Int.toNat_of_nonneg hb] at h

/-- Does ChanceOf tell a chance? -/
def hasF (zs : List Int) (c : Int) : Bool := urnOk zs && decide (0 ≤ c ∧ c < zs.length) && decide (0 < isum zs)
theorem hasF_yes {zs : List Int} {c : Int} (h : hasF zs c = true) : urnOk zs = true ∧ 0 ≤ c ∧ c < zs.length ∧ 0 < isum zs := by
  simp [hasF] at h
  exact ⟨h.1.1, h.1.2.1, h.1.2.2, h.2⟩
theorem hasF_mk {zs : List Int} {c : Int} (h : urnOk zs = true) (h1 : 0 ≤ c) (h2 : c < zs.length) (h3 : 0 < isum zs) : hasF zs c = true := by
  simp [hasF, h, h1, h2, h3]
theorem hasF_no {zs : List Int} {c : Int} (h : urnOk zs = false ∨ c < 0 ∨ (zs.length : Int) ≤ c ∨ isum zs ≤ 0) : hasF zs c = false := by
  rw [Bool.eq_false_iff]
  intro hh
  obtain ⟨h1, h2, h3, h4⟩ := hasF_yes hh
  rcases h with h | h | h | h
  · rw [h1] at h; cases h
  all_goals omega
def ballsAt (zs : List Int) (c : Int) : Int := zs[c.toNat]?.getD 0
def chN (zs : List Int) (c : Int) : Int := if hasF zs c then ballsAt zs c / gcdI (ballsAt zs c) (isum zs) else 0
def chD (zs : List Int) (c : Int) : Int := if hasF zs c then isum zs / gcdI (ballsAt zs c) (isum zs) else 0

theorem urnOk_set {zs : List Int} {k : Nat} {x : Int} (h : urnOk zs = true) (hx : zs[k]? = some x) (y : Int) : urnOk (zs.set k y) = decide (0 ≤ y ∧ y ≤ 40) := by
  have hk : k < zs.length := (List.getElem?_eq_some_iff.1 hx).1
  by_cases hy : 0 ≤ y ∧ y ≤ 40
  · rw [decide_eq_true hy]
    refine urnOk_good (by rw [List.length_set]; exact urnOk_size h) (fun j z hj hz => ?_)
    rw [List.getElem?_set] at hz
    split at hz
    · first | (injection hz with hz; omega) | (split at hz; · injection hz with hz; omega; · cases hz)
    · exact urnOk_elem h hz
  · rw [decide_eq_false hy]
    exact urnOk_bad (k := k) (x := y) (by rw [List.getElem?_set_self hk]) (by omega)
/-- Can so many balls of a colour be put in? -/
def putOk (zs : List Int) (k m : Int) : Bool := urnOk zs && decide (0 ≤ k ∧ k < zs.length) && decide (0 ≤ ballsAt zs k + m ∧ ballsAt zs k + m ≤ 40)
def putL (zs : List Int) (k m : Int) : List Int := if putOk zs k m then zs.set k.toNat (ballsAt zs k + m) else []
theorem putOk_yes {zs : List Int} {k m : Int} (h : putOk zs k m = true) : urnOk zs = true ∧ 0 ≤ k ∧ k < zs.length ∧ 0 ≤ ballsAt zs k + m ∧ ballsAt zs k + m ≤ 40 := by
  simp [putOk] at h
  exact ⟨h.1.1, h.1.2.1, h.1.2.2, h.2.1, h.2.2⟩
theorem putOk_mk {zs : List Int} {k m : Int} (h1 : urnOk zs = true) (h2 : 0 ≤ k ∧ k < zs.length) (h3 : 0 ≤ ballsAt zs k + m ∧ ballsAt zs k + m ≤ 40) : putOk zs k m = true := by
  simp [putOk, h1, h2, h3]
theorem putOk_no {zs : List Int} {k m : Int} (h : urnOk zs = false ∨ ¬ (0 ≤ k ∧ k < zs.length) ∨ ¬ (0 ≤ ballsAt zs k + m ∧ ballsAt zs k + m ≤ 40)) : putOk zs k m = false := by
  rw [Bool.eq_false_iff]
  intro hh
  obtain ⟨h1, h2, h3, h4, h5⟩ := putOk_yes hh
  rcases h with h | h | h
  · rw [h1] at h; cases h
  · exact h ⟨h2, h3⟩
  · exact h ⟨h4, h5⟩
theorem putL_no {zs : List Int} {k m : Int} (h : putOk zs k m = false) : putL zs k m = [] := by unfold putL; rw [if_neg (by rw [h]; decide)]
theorem putL_yes {zs : List Int} {k m : Int} (h : putOk zs k m = true) : putL zs k m = zs.set k.toNat (ballsAt zs k + m) := by unfold putL; rw [if_pos h]
theorem ballsAt_eq {zs : List Int} {k : Int} {x : Int} (h : zs[k.toNat]? = some x) : ballsAt zs k = x := by unfold ballsAt; rw [h]; rfl
theorem putOk_eq {zs : List Int} {k m x : Int} (h1 : urnOk zs = true) (h2 : 0 ≤ k ∧ k < zs.length) (hx : zs[k.toNat]? = some x) : putOk zs k m = decide (0 ≤ x + m ∧ x + m ≤ 40) := by
  by_cases h : 0 ≤ x + m ∧ x + m ≤ 40
  · rw [decide_eq_true h]; exact putOk_mk h1 h2 (by rw [ballsAt_eq hx]; exact h)
  · rw [decide_eq_false h]; exact putOk_no (.inr (.inr (by rw [ballsAt_eq hx]; exact h)))

/-- The sums of both, place by place. -/
def addL (xs ys : List Int) : List Int := List.zipWith (fun x y => x + y) xs ys
theorem addL_len {xs ys : List Int} (h : xs.length = ys.length) : (addL xs ys).length = xs.length := by simp [addL, h]
theorem addL_at {xs ys : List Int} {k : Nat} {x y : Int} (hx : xs[k]? = some x) (hy : ys[k]? = some y) : (addL xs ys)[k]? = some (x + y) := by
  simp [addL, List.getElem?_zipWith, hx, hy]
theorem addL_comm (xs ys : List Int) : addL xs ys = addL ys xs := by
  unfold addL; rw [List.zipWith_comm]; simp [Int.add_comm]
theorem isum_addL {xs ys : List Int} (h : xs.length = ys.length) : isum (addL xs ys) = isum xs + isum ys := by
  induction xs generalizing ys with
  | nil => cases ys with
    | nil => rfl
    | cons y r => simp at h
  | cons x r ih => cases ys with
    | nil => simp at h
    | cons y s =>
      have := ih (ys := s) (by simpa using h)
      simp only [addL, List.zipWith_cons_cons, isum] at this ⊢
      omega
def pourOk (xs ys : List Int) : Bool := urnOk xs && urnOk ys && decide (xs.length = ys.length) && urnOk (addL xs ys)
def pourL (xs ys : List Int) : List Int := if pourOk xs ys then addL xs ys else []
theorem pourOk_yes {xs ys : List Int} (h : pourOk xs ys = true) : urnOk xs = true ∧ urnOk ys = true ∧ xs.length = ys.length ∧ urnOk (addL xs ys) = true := by
  simp [pourOk] at h
  exact ⟨h.1.1.1, h.1.1.2, h.1.2, h.2⟩
theorem pourOk_eq {xs ys : List Int} (h1 : urnOk xs = true) (h2 : urnOk ys = true) (h3 : xs.length = ys.length) : pourOk xs ys = urnOk (addL xs ys) := by simp [pourOk, h1, h2, h3]
theorem pourOk_no {xs ys : List Int} (h : urnOk xs = false ∨ urnOk ys = false ∨ xs.length ≠ ys.length) : pourOk xs ys = false := by
  rw [Bool.eq_false_iff]
  intro hh
  obtain ⟨h1, h2, h3, _⟩ := pourOk_yes hh
  rcases h with h | h | h
  · rw [h1] at h; cases h
  · rw [h2] at h; cases h
  · exact h h3
theorem pourL_no {xs ys : List Int} (h : pourOk xs ys = false) : pourL xs ys = [] := by unfold pourL; rw [if_neg (by rw [h]; decide)]
theorem pourL_yes {xs ys : List Int} (h : pourOk xs ys = true) : pourL xs ys = addL xs ys := by unfold pourL; rw [if_pos h]
theorem putL_len (zs : List Int) (k m : Int) : (putL zs k m).length ≤ zs.length := by
  unfold putL; split <;> simp
theorem pourL_len (xs ys : List Int) : (pourL xs ys).length ≤ 3 := by
  unfold pourL
  split
  · next h =>
    have h1 := pourOk_yes h
    exact (urnOk_size h1.2.2.2).2
  · simp
theorem isum_set {zs : List Int} {k : Nat} {x : Int} (h : zs[k]? = some x) (y : Int) : isum (zs.set k y) = isum zs - x + y := by
  induction zs generalizing k with
  | nil => simp at h
  | cons z r ih =>
    cases k with
    | zero => simp at h; subst h; simp only [List.set_cons_zero, isum]; omega
    | succ k =>
      have := ih (k := k) (by simpa using h)
      simp only [List.set_cons_succ, isum]; omega
theorem put_back {zs : List Int} {k m : Int} (h : putOk zs k m = true) : putOk (putL zs k m) k (-m) = true ∧ putL (putL zs k m) k (-m) = zs ∧ totalF (putL zs k m) = totalF zs + m := by
  obtain ⟨h1, h2, h3, h4, h5⟩ := putOk_yes h
  have hk : k.toNat < zs.length := by omega
  have hx := List.getElem?_eq_getElem hk
  have eb : ballsAt zs k = zs[k.toNat] := ballsAt_eq hx
  have e := putL_yes h
  have hx2 : (putL zs k m)[k.toNat]? = some (ballsAt zs k + m) := by rw [e, List.getElem?_set_self hk]
  have hok : urnOk (putL zs k m) = true := by rw [e, urnOk_set h1 hx]; exact decide_eq_true ⟨h4, h5⟩
  have hlen : (putL zs k m).length = zs.length := by rw [e, List.length_set]
  have hb0 := urnOk_elem h1 hx
  have hp : putOk (putL zs k m) k (-m) = true := putOk_mk hok (by omega) (by rw [ballsAt_eq hx2, eb]; omega)
  refine ⟨hp, ?_, ?_⟩
  · rw [putL_yes hp, ballsAt_eq hx2, e, List.set_set]
    rw [show ballsAt zs k + m + -m = zs[k.toNat] from by omega]
    exact List.set_getElem_self hk
  · rw [totalF_ok hok, totalF_ok h1, e, isum_set hx]; omega
theorem pour_comm (xs ys : List Int) : pourOk ys xs = pourOk xs ys ∧ pourL ys xs = pourL xs ys := by
  have e : pourOk ys xs = pourOk xs ys := by
    unfold pourOk
    rw [addL_comm ys xs]
    by_cases h : xs.length = ys.length
    · rw [decide_eq_true h, decide_eq_true h.symm]
      cases urnOk xs <;> cases urnOk ys <;> rfl
    · rw [decide_eq_false h, decide_eq_false (fun e => h e.symm)]
      simp
  refine ⟨e, ?_⟩
  unfold pourL
  rw [e, addL_comm ys xs]
theorem pour_total {xs ys : List Int} (h : pourOk xs ys = true) : totalF (pourL xs ys) = totalF xs + totalF ys ∧ urnOk (pourL xs ys) = true := by
  obtain ⟨h1, h2, h3, h4⟩ := pourOk_yes h
  rw [pourL_yes h]
  exact ⟨by rw [totalF_ok h4, totalF_ok h1, totalF_ok h2, isum_addL h3], h4⟩
theorem urnOk_reverse (zs : List Int) : urnOk zs.reverse = urnOk zs := by
  unfold urnOk; rw [List.length_reverse, List.all_reverse]
theorem urnOk_zeros (n : Nat) (h : 1 ≤ n ∧ n ≤ 3) : urnOk (List.replicate n 0) = true :=
  urnOk_good (by simpa using h) (fun j x hj hx => by rw [List.getElem?_replicate] at hx; split at hx <;> first | (injection hx with hx; omega) | cases hx)
theorem isum_zeros (n : Nat) : isum (List.replicate n 0) = 0 := by
  induction n with
  | zero => rfl
  | succ n ih => rw [List.replicate_succ]; simp only [isum]; omega
end Go.Proofs.Ytoafpokcbbncfaa

namespace Go.Proofs.Ytoafpokcbbncfaa
open Go.RowKit

def colOk (c x : Int) : Bool := decide (0 ≤ x ∧ x < c)
def wordOk (c : Int) (ws : List Int) : Bool := decide (1 ≤ c ∧ c ≤ 3) && decide (ws.length ≤ 6) && ws.all (colOk c)
theorem wordOk_yes {c : Int} {ws : List Int} (h : wordOk c ws = true) : 1 ≤ c ∧ c ≤ 3 ∧ ws.length ≤ 6 ∧ ∀ x ∈ ws, 0 ≤ x ∧ x < c := by
  unfold wordOk at h
  rw [Bool.and_eq_true, Bool.and_eq_true, List.all_eq_true] at h
  have h1 := of_decide_eq_true h.1.1
  exact ⟨h1.1, h1.2, of_decide_eq_true h.1.2, fun x hx => of_decide_eq_true (h.2 x hx)⟩
theorem wordOk_mk {c : Int} {ws : List Int} (h1 : 1 ≤ c) (h2 : c ≤ 3) (h3 : ws.length ≤ 6) (h4 : ∀ j x, j < ws.length → ws[j]? = some x → 0 ≤ x ∧ x < c) : wordOk c ws = true := by
  unfold wordOk
  rw [decide_eq_true ⟨h1, h2⟩, decide_eq_true h3, Bool.true_and, Bool.true_and, List.all_eq_true]
  intro x hx
  obtain ⟨j, hj, rfl⟩ := List.getElem_of_mem hx
  exact decide_eq_true (h4 j _ hj (List.getElem?_eq_getElem hj))
theorem wordOk_size {c : Int} {ws : List Int} (h : c < 1 ∨ 3 < c ∨ 6 < ws.length) : wordOk c ws = false := by
  rw [Bool.eq_false_iff]
  intro hh
  obtain ⟨h1, h2, h3, _⟩ := wordOk_yes hh
  omega
theorem wordOk_bad {c : Int} {ws : List Int} {k : Nat} {x : Int} (h : ws[k]? = some x) (hx : x < 0 ∨ c ≤ x) : wordOk c ws = false := by
  rw [Bool.eq_false_iff]
  intro hh
  obtain ⟨_, _, _, h4⟩ := wordOk_yes hh
  have := h4 x (List.mem_of_getElem? h)
  omega
theorem wordOk_reverse (c : Int) (ws : List Int) : wordOk c ws.reverse = wordOk c ws := by
  unfold wordOk; rw [List.length_reverse, List.all_reverse]
theorem wordOk_elem {c : Int} {ws : List Int} {k : Nat} {x : Int} (h : wordOk c ws = true) (hx : ws[k]? = some x) : 0 ≤ x ∧ x < c := (wordOk_yes h).2.2.2 x (List.mem_of_getElem? hx)

/-- n, n - 1, .. : the product of so many numbers, none below 0. -/
def fall (n : Int) : Nat → Int
  | 0 => 1
  | k + 1 => max n 0 * fall (n - 1) k
theorem fall_snoc (n : Int) (k : Nat) : fall n (k + 1) = fall n k * max (n - k) 0 := by
  induction k generalizing n with
  | zero => simp [fall]
  | succ k ih =>
    have h := ih (n - 1)
    rw [show n - 1 - (k : Int) = n - ((k + 1 : Nat) : Int) from by omega] at h
    show max n 0 * fall (n - 1) (k + 1) = max n 0 * fall (n - 1) k * _
    rw [h, Int.mul_assoc]
theorem fall_nonneg (n : Int) (k : Nat) : 0 ≤ fall n k := by
  induction k generalizing n with
  | zero => simp [fall]
  | succ k ih => exact Int.mul_nonneg (by omega) (ih (n - 1))
theorem fall_le (M n : Int) (k : Nat) (h : n ≤ M) (hM : 1 ≤ M) : fall n k ≤ M ^ k := by
  induction k generalizing n with
  | zero => simp [fall]
  | succ k ih =>
    have h1 := ih (n - 1) (by omega)
    have h2 := fall_nonneg (n - 1) k
    rw [Int.pow_succ, Int.mul_comm (M ^ k)]
    exact Int.mul_le_mul (by omega) h1 h2 (by omega)
theorem pow40 (k : Nat) (h : k ≤ 5) : (40 : Int) ^ k ≤ 40 ^ 5 := by
  match k, h with
  | 0, _ | 1, _ | 2, _ | 3, _ | 4, _ | 5, _ => decide
theorem pow_small (k : Nat) (h : k ≤ 5) : (120 : Int) ^ k ≤ 1000000000000 := by
  match k, h with
  | 0, _ | 1, _ | 2, _ | 3, _ | 4, _ | 5, _ => decide
theorem mul_bound {a b M N : Int} (ha : 0 ≤ a) (ha' : a ≤ M) (hb : 0 ≤ b) (hb' : b ≤ N) : 0 ≤ a * b ∧ a * b ≤ M * N :=
  ⟨Int.mul_nonneg ha hb, Int.mul_le_mul ha' hb' hb (by omega)⟩
/-- The ways of a word: of each draw the balls of its colour that are left. -/
def ways (zs : List Int) : List Int → Int
  | [] => 1
  | x :: r => max (ballsAt zs x) 0 * ways (zs.set x.toNat (ballsAt zs x - 1)) r
theorem ways_nonneg (zs ws : List Int) : 0 ≤ ways zs ws := by
  induction ws generalizing zs with
  | nil => simp [ways]
  | cons x r ih => exact Int.mul_nonneg (by omega) (ih _)
def wordWays (zs ws : List Int) : Int := if urnOk zs && wordOk zs.length ws then ways zs ws else -1
def allWays (zs : List Int) (m : Int) : Int := if urnOk zs && decide (0 ≤ m ∧ m ≤ 6) then fall (isum zs) m.toNat else -1

/-- The product of falling products, so many of each colour. -/
def prodF : List Int → (Nat → Nat) → Int
  | [], _ => 1
  | z :: r, f => fall z (f 0) * prodF r (fun i => f (i + 1))
def bump (f : Nat → Nat) (k : Nat) : Nat → Nat := fun i => if i = k then f i + 1 else f i
theorem prodF_bump (zs : List Int) (f : Nat → Nat) (k : Nat) (z : Int) (h : zs[k]? = some z) : max z 0 * prodF (zs.set k (z - 1)) f = prodF zs (bump f k) := by
  induction zs generalizing k f with
  | nil => simp at h
  | cons y r ih =>
    cases k with
    | zero =>
      simp at h
      subst h
      have e : (fun i => bump f 0 (i + 1)) = fun i => f (i + 1) := by funext i; simp [bump]
      simp only [List.set_cons_zero, prodF, e]
      rw [show bump f 0 0 = f 0 + 1 from by simp [bump]]
      simp only [fall, Int.mul_assoc]
    | succ k =>
      have h1 := ih (fun i => f (i + 1)) k (by simpa using h)
      have e : (fun i => bump f (k + 1) (i + 1)) = bump (fun i => f (i + 1)) k := by funext i; simp [bump]
      simp only [List.set_cons_succ, prodF, e]
      rw [show bump f (k + 1) 0 = f 0 from by simp [bump], ← h1, Int.mul_left_comm]
theorem ways_counts (zs ws : List Int) (h : ∀ x ∈ ws, 0 ≤ x ∧ x < zs.length) : ways zs ws = prodF zs (fun i => ws.count (i : Int)) := by
  induction ws generalizing zs with
  | nil =>
    have : ∀ zs : List Int, prodF zs (fun _ => 0) = 1 := by
      intro zs
      induction zs with
      | nil => rfl
      | cons z r ih => simp [prodF, fall, ih]
    simp [ways, this]
  | cons x r ih =>
    have hx := h x (by simp)
    have h2 := ih (zs.set x.toNat (ballsAt zs x - 1)) (fun y hy => by rw [List.length_set]; exact h y (by simp [hy]))
    have hk := List.getElem?_eq_getElem (l := zs) (i := x.toNat) (by omega)
    have hb := ballsAt_eq hk
    have e : (fun i : Nat => (x :: r).count (i : Int)) = bump (fun i => r.count (i : Int)) x.toNat := by
      funext i
      rw [List.count_cons]
      unfold bump
      by_cases hi : i = x.toNat
      · rw [if_pos hi, if_pos (by simp; omega)]
      · rw [if_neg hi, if_neg (by simp; omega)]; rfl
    simp only [ways]
    rw [h2, e]
    exact prodF_bump zs _ _ _ (by rw [hk, hb])
theorem ways_same (zs ws vs : List Int) (h : ∀ x ∈ ws, 0 ≤ x ∧ x < zs.length) (h' : ∀ x ∈ vs, 0 ≤ x ∧ x < zs.length) (hc : ∀ i : Int, ws.count i = vs.count i) : ways zs ws = ways zs vs := by
  rw [ways_counts zs ws h, ways_counts zs vs h']
  congr 1
  funext i
  exact hc i

/-- Two of one colour. -/
def sameSum : List Int → Int
  | [] => 0
  | z :: r => z * (z - 1) + sameSum r
theorem sameSum_append (xs ys : List Int) : sameSum (xs ++ ys) = sameSum xs + sameSum ys := by
  induction xs with
  | nil => simp [sameSum]
  | cons x r ih => simp only [List.cons_append, sameSum, ih]; omega
theorem sameSum_take_succ {zs : List Int} {k : Nat} {x : Int} (h : zs[k]? = some x) : sameSum (zs.take (k + 1)) = sameSum (zs.take k) + x * (x - 1) := by
  rw [take_succ h, sameSum_append]; simp [sameSum]
theorem same_bound {x : Int} (h : 0 ≤ x ∧ x ≤ 40) : 0 ≤ x * (x - 1) ∧ x * (x - 1) ≤ 1600 := by
  rcases Int.lt_or_le 0 x with h0 | h0
  · have := mul_bound (a := x) (b := x - 1) h.1 h.2 (by omega) (show x - 1 ≤ 40 by omega)
    omega
  · obtain rfl : x = 0 := by omega
    decide
theorem sameSum_bounds (zs : List Int) (h : ∀ z ∈ zs, 0 ≤ z ∧ z ≤ 40) : 0 ≤ sameSum zs ∧ sameSum zs ≤ 1600 * zs.length := by
  induction zs with
  | nil => simp [sameSum]
  | cons z r ih =>
    have h1 := same_bound (h z (by simp))
    have h2 := ih (fun y hy => h y (by simp [hy]))
    have e : (1600 : Int) * ((z :: r).length : Int) = 1600 * (r.length : Int) + 1600 := by rw [List.length_cons, Int.natCast_add]; omega
    rw [e]; simp only [sameSum]; omega
theorem sameSum_take {zs : List Int} (h : urnOk zs = true) (k : Nat) : 0 ≤ sameSum (zs.take k) ∧ sameSum (zs.take k) ≤ 4800 := by
  have h1 := sameSum_bounds (zs.take k) (fun z hz => urnOk_mem h z (List.mem_of_mem_take hz))
  have h2 := urnOk_size h
  have h3 : (zs.take k).length ≤ zs.length := List.length_take_le' _ _
  omega
def sameApart (zs : List Int) : Int := if urnOk zs then sameSum zs else -1

/-- Where a word has come to: acc ways so far, 'left' the balls that are left. -/
theorem ways_step {left ws : List Int} {k : Nat} {x : Int} {acc : Int} (hx : ws[k]? = some x) : acc * ways left (ws.drop k) = (acc * max (ballsAt left x) 0) * ways (left.set x.toNat (ballsAt left x - 1)) (ws.drop (k + 1)) := by
  have hk := (List.getElem?_eq_some_iff.1 hx).1
  have e : ws.drop k = x :: ws.drop (k + 1) := by
    rw [List.drop_eq_getElem_cons hk]
    congr 1
    exact (List.getElem?_eq_some_iff.1 hx).2
  rw [e]
  simp only [ways]
  rw [Int.mul_assoc]
theorem ways_end (left ws : List Int) {k : Nat} (h : ws.length ≤ k) (acc : Int) : acc * ways left (ws.drop k) = acc := by
  rw [List.drop_eq_nil_of_le h]; simp [ways]

def cntOk (x : Int) : Bool := decide (0 ≤ x ∧ x ≤ 6)
def countRowOk (c : Int) (cs : List Int) : Bool := decide (1 ≤ c ∧ c ≤ 3) && decide ((cs.length : Int) = c) && cs.all cntOk && decide (isum cs ≤ 6)
theorem countRowOk_yes {c : Int} {cs : List Int} (h : countRowOk c cs = true) : 1 ≤ c ∧ c ≤ 3 ∧ (cs.length : Int) = c ∧ (∀ x ∈ cs, 0 ≤ x ∧ x ≤ 6) ∧ isum cs ≤ 6 := by
  unfold countRowOk at h
  rw [Bool.and_eq_true, Bool.and_eq_true, Bool.and_eq_true, List.all_eq_true] at h
  have h1 := of_decide_eq_true h.1.1.1
  exact ⟨h1.1, h1.2, of_decide_eq_true h.1.1.2, fun x hx => of_decide_eq_true (h.1.2 x hx), of_decide_eq_true h.2⟩
theorem countRowOk_mk {c : Int} {cs : List Int} (h1 : 1 ≤ c) (h2 : c ≤ 3) (h3 : (cs.length : Int) = c) (h4 : ∀ j x, j < cs.length → cs[j]? = some x → 0 ≤ x ∧ x ≤ 6) (h5 : isum cs ≤ 6) : countRowOk c cs = true := by
  unfold countRowOk
  have h6 : cs.all cntOk = true := by
    rw [List.all_eq_true]
    intro x hx
    obtain ⟨j, hj, rfl⟩ := List.getElem_of_mem hx
    exact decide_eq_true (h4 j _ hj (List.getElem?_eq_getElem hj))
  rw [decide_eq_true ⟨h1, h2⟩, decide_eq_true h3, h6, decide_eq_true h5]; rfl
theorem countRowOk_no {c : Int} {cs : List Int} (h : c < 1 ∨ 3 < c ∨ (cs.length : Int) ≠ c ∨ (∃ (k : Nat) (x : Int), cs[k]? = some x ∧ (x < 0 ∨ 6 < x)) ∨ 6 < isum cs) : countRowOk c cs = false := by
  rw [Bool.eq_false_iff]
  intro hh
  obtain ⟨h1, h2, h3, h4, h5⟩ := countRowOk_yes hh
  rcases h with h | h | h | ⟨k, x, hx, h⟩ | h
  · omega
  · omega
  · exact h h3
  · have := h4 x (List.mem_of_getElem? hx); omega
  · omega
theorem row_urn {c : Int} {cs : List Int} (h1 : 1 ≤ c) (h2 : c ≤ 3) (h3 : (cs.length : Int) = c) (h4 : ∀ j x, j < cs.length → cs[j]? = some x → 0 ≤ x ∧ x ≤ 6) : urnOk cs = true :=
  urnOk_good (by omega) (fun j x hj hx => by have := h4 j x hj hx; omega)
theorem countRowOk_urn {c : Int} {cs : List Int} (h : countRowOk c cs = true) : urnOk cs = true := by
  obtain ⟨h1, h2, h3, h4, h5⟩ := countRowOk_yes h
  exact row_urn h1 h2 h3 (fun j x hj hx => h4 x (List.mem_of_getElem? hx))

def factI : Nat → Int
  | 0 => 1
  | k + 1 => factI k * ((k : Int) + 1)
theorem factI_small (k : Nat) (h : k ≤ 6) : 1 ≤ factI k ∧ factI k ≤ 720 := by
  match k, h with
  | 0, _ | 1, _ | 2, _ | 3, _ | 4, _ | 5, _ | 6, _ => decide
def multGo (n : Int) : List Int → Int
  | [] => n
  | x :: r => multGo (n / factI x.toNat) r
theorem multGo_step {cs : List Int} {k : Nat} {x : Int} (hx : cs[k]? = some x) (n : Int) : multGo n (cs.drop k) = multGo (n / factI x.toNat) (cs.drop (k + 1)) := by
  have hk := (List.getElem?_eq_some_iff.1 hx).1
  have e : cs.drop k = x :: cs.drop (k + 1) := by
    rw [List.drop_eq_getElem_cons hk]
    congr 1
    exact (List.getElem?_eq_some_iff.1 hx).2
  rw [e]; rfl
def mult (cs : List Int) : Int := multGo (factI (isum cs).toNat) cs
def wordsWith (c : Int) (cs : List Int) : Int := if countRowOk c cs then mult cs else -1
theorem div_small {a f : Int} (ha : 0 ≤ a) (ha' : a ≤ 720) (hf : 1 ≤ f) : 0 ≤ a / f ∧ a / f ≤ 720 := by
  refine ⟨Int.ediv_nonneg ha (by omega), ?_⟩
  exact Int.le_trans (Int.ediv_le_self _ ha) ha'
theorem ballsAt_set {zs : List Int} {k : Nat} (y : Int) (h : k < zs.length) (j : Nat) : (zs.set k y)[j]?.getD 0 = if j = k then y else zs[j]?.getD 0 := by
  rw [List.getElem?_set]
  by_cases hj : k = j
  · rw [if_pos hj, if_pos hj.symm, if_pos (by omega)]; rfl
  · rw [if_neg hj, if_neg (fun e => hj e.symm)]

/-- How often each colour is in a word. -/
def cntL (c : Nat) (ws : List Int) : List Int := (List.range c).map fun (i : Nat) => ((ws.count (i : Int) : Nat) : Int)
theorem cntL_nil (c : Nat) : cntL c [] = List.replicate c 0 := by
  apply List.ext_getElem
  · simp [cntL]
  · intro i h1 h2; simp [cntL]
theorem cntL_at (c : Nat) (ws : List Int) (i : Nat) (h : i < c) : (cntL c ws)[i]? = some (ws.count (i : Int) : Int) := by simp [cntL, h]
theorem cntL_set {c : Nat} {ws : List Int} {k : Nat} {x : Int} (hx : ws[k]? = some x) (h0 : 0 ≤ x) : (cntL c (ws.take k)).set x.toNat (((ws.take k).count x : Int) + 1) = cntL c (ws.take (k + 1)) := by
  rw [take_succ hx]
  apply List.ext_getElem
  · simp [cntL]
  · intro i h2 h3
    rw [List.getElem_set]
    have hi : i < c := by simpa [cntL] using h3
    split
    · have e : (i : Int) = x := by omega
      simp [cntL, List.count_append, e]
    · have e : ¬ x = (i : Int) := by omega
      simp [cntL, List.count_append, e]
def countsOf (cl : Int) (ws : List Int) : List Int := if wordOk cl ws then cntL cl.toNat ws else []
theorem countsOf_len (cl : Int) (ws : List Int) : (countsOf cl ws).length ≤ 3 := by
  unfold countsOf
  split
  · next h =>
    have := wordOk_yes h
    simp [cntL]; omega
  · simp

/-- The falling products of the first k colours. -/
def prodK (zs cs : List Int) : Nat → Int
  | 0 => 1
  | k + 1 => prodK zs cs k * fall (zs[k]?.getD 0) (cs[k]?.getD 0).toNat
theorem prodK_nonneg (zs cs : List Int) (k : Nat) : 0 ≤ prodK zs cs k := by
  induction k with
  | zero => simp [prodK]
  | succ k ih => exact Int.mul_nonneg ih (fall_nonneg _ _)
theorem fall_le40 {z : Int} (h : z ≤ 40) (k : Nat) : fall z k ≤ 40 ^ k := fall_le 40 z k h (by omega)
theorem prodK_le {zs cs : List Int} (hz : ∀ z ∈ zs, 0 ≤ z ∧ z ≤ 40) (hc : ∀ x ∈ cs, 0 ≤ x ∧ x ≤ 6) (k : Nat) : prodK zs cs k ≤ 40 ^ (isum (cs.take k)).toNat := by
  induction k with
  | zero => simp [prodK, isum]
  | succ k ih =>
    simp only [prodK]
    rcases Nat.lt_or_ge k cs.length with hk | hk
    · have hx := List.getElem?_eq_getElem hk
      have hcx := hc cs[k] (List.getElem_mem hk)
      have hs := (isum_bounds 6 (cs.take k) (fun x hx => hc x (List.mem_of_mem_take hx))).1
      rw [isum_take_succ hx, hx]
      have e : (isum (cs.take k) + cs[k]).toNat = (isum (cs.take k)).toNat + (cs[k]).toNat := by omega
      rw [e, Int.pow_add]
      have hz40 : zs[k]?.getD 0 ≤ 40 := by
        rcases Nat.lt_or_ge k zs.length with h2 | h2
        · rw [List.getElem?_eq_getElem h2]; exact (hz _ (List.getElem_mem h2)).2
        · rw [List.getElem?_eq_none h2]; decide
      exact Int.mul_le_mul ih (fall_le40 hz40 _) (fall_nonneg _ _) (Int.pow_nonneg (by omega))
    · rw [List.getElem?_eq_none hk, List.take_of_length_le (by omega)]
      rw [List.take_of_length_le hk] at ih
      simpa [fall] using ih
def prodC (zs cs : List Int) : Int := prodK zs cs cs.length
def countWays (zs cs : List Int) : Int := if urnOk zs && countRowOk zs.length cs then mult cs * prodC zs cs else -1
theorem multGo_bound (cs : List Int) (hc : ∀ x ∈ cs, 0 ≤ x ∧ x ≤ 6) (n : Int) (h0 : 0 ≤ n) (h1 : n ≤ 720) : 0 ≤ multGo n cs ∧ multGo n cs ≤ 720 := by
  induction cs generalizing n with
  | nil => exact ⟨h0, h1⟩
  | cons x r ih =>
    have hx := hc x (by simp)
    obtain ⟨f1, _⟩ := factI_small x.toNat (by omega)
    obtain ⟨d1, d2⟩ := div_small h0 h1 f1
    exact ih (fun y hy => hc y (by simp [hy])) _ d1 d2
theorem mult_bound {c : Int} {cs : List Int} (h : countRowOk c cs = true) : 0 ≤ mult cs ∧ mult cs ≤ 720 := by
  obtain ⟨_, _, _, h4, h5⟩ := countRowOk_yes h
  have hs := (isum_bounds 6 cs h4).1
  obtain ⟨f1, f2⟩ := factI_small (isum cs).toNat (by omega)
  exact multGo_bound cs h4 _ (by omega) f2
theorem pow40_6 (k : Nat) (h : k ≤ 6) : (40 : Int) ^ k ≤ 4096000000 := by
  match k, h with
  | 0, _ | 1, _ | 2, _ | 3, _ | 4, _ | 5, _ | 6, _ => decide
/-- What the ways of counts have come to, within the k-th colour. -/
theorem countWays_bound {zs cs : List Int} {k : Nat} {x z W : Int} (hu : urnOk zs = true) (hc : countRowOk zs.length cs = true) (hx : cs[k]? = some x) (hz : zs[k]? = some z) (hW0 : 0 ≤ W) (hW1 : W ≤ 720) (j : Nat) (hj : (j : Int) ≤ x) :
    0 ≤ W * (prodK zs cs k * fall z j) ∧ W * (prodK zs cs k * fall z j) ≤ 2949120000000 := by
  obtain ⟨_, _, _, h4, h5⟩ := countRowOk_yes hc
  have hzm := urnOk_mem hu
  have hp0 := prodK_nonneg zs cs k
  have hp1 := prodK_le hzm h4 k
  have hf0 := fall_nonneg z j
  have hf1 := fall_le40 (hzm z (List.mem_of_getElem? hz)).2 j
  have hs0 := (isum_bounds 6 (cs.take k) (fun x hx => h4 x (List.mem_of_mem_take hx))).1
  have hst := isum_take_succ hx
  have hs1 : isum (cs.take (k + 1)) ≤ isum cs := by
    have e := isum_append (cs.take (k + 1)) (cs.drop (k + 1))
    rw [List.take_append_drop] at e
    have := (isum_bounds 6 (cs.drop (k + 1)) (fun x hx => h4 x (List.mem_of_mem_drop hx))).1
    omega
  have hq : prodK zs cs k * fall z j ≤ 4096000000 := by
    refine Int.le_trans (Int.mul_le_mul hp1 hf1 hf0 (Int.pow_nonneg (by omega))) ?_
    rw [← Int.pow_add]
    exact pow40_6 _ (by omega)
  have hq0 := Int.mul_nonneg hp0 hf0
  have := mul_bound hW0 hW1 hq0 hq
  omega
theorem countWays_end {zs cs : List Int} (hu : urnOk zs = true) (hc : countRowOk zs.length cs = true) : countWays zs cs = mult cs * prodK zs cs cs.length := by
  unfold countWays prodC
  rw [hu, hc]; rfl
end Go.Proofs.Ytoafpokcbbncfaa

namespace Go.Proofs.Ytoafpokcbbncfaa
open Go.RowKit

/-- How many colours have balls. -/
def posCnt : List Int → Int
  | [] => 0
  | z :: r => (if 0 < z then 1 else 0) + posCnt r
theorem posCnt_append (xs ys : List Int) : posCnt (xs ++ ys) = posCnt xs + posCnt ys := by
  induction xs with
  | nil => simp [posCnt]
  | cons x r ih => simp only [List.cons_append, posCnt, ih]; omega
theorem posCnt_take_succ {zs : List Int} {k : Nat} {x : Int} (h : zs[k]? = some x) : posCnt (zs.take (k + 1)) = posCnt (zs.take k) + (if 0 < x then 1 else 0) := by
  rw [take_succ h, posCnt_append]; simp [posCnt]
theorem posCnt_bound (zs : List Int) : 0 ≤ posCnt zs ∧ posCnt zs ≤ zs.length := by
  induction zs with
  | nil => simp [posCnt]
  | cons z r ih => simp only [posCnt, List.length_cons]; split <;> omega
theorem ways_twice {zs : List Int} {k : Nat} {z : Int} (h : zs[k]? = some z) (h0 : 0 ≤ z) : ways zs [(k : Int), (k : Int)] = z * (z - 1) := by
  have hk := (List.getElem?_eq_some_iff.1 h).1
  have e : (k : Int).toNat = k := by omega
  have eb : ballsAt zs (k : Int) = z := ballsAt_eq (by rw [e]; exact h)
  have eb2 : ballsAt (zs.set k (z - 1)) (k : Int) = z - 1 := ballsAt_eq (by rw [e, List.getElem?_set_self hk])
  simp only [ways]
  rw [eb, e, eb2, Int.mul_one]
  rcases Int.lt_or_le 0 z with h1 | h1
  · rw [Int.max_eq_left h0, Int.max_eq_left (by omega)]
  · obtain rfl : z = 0 := by omega
    simp
theorem wordWays_twice {zs : List Int} {k : Nat} {z : Int} (hu : urnOk zs = true) (h : zs[k]? = some z) : wordWays zs [(k : Int), (k : Int)] = z * (z - 1) := by
  have hk := (List.getElem?_eq_some_iff.1 h).1
  have hs := urnOk_size hu
  have hw : wordOk (zs.length : Int) [(k : Int), (k : Int)] = true := wordOk_mk (by omega) (by omega) (by simp) (fun j x hj hx => by
    match j, hj with
    | 0, _ => simp at hx; omega
    | 1, _ => simp at hx; omega)
  unfold wordWays
  rw [hu, hw]
  exact ways_twice h (urnOk_elem hu h).1
theorem fall_two {S : Int} (h : 0 ≤ S) : fall S 2 = S * (S - 1) := by
  simp only [fall, Int.mul_one]
  rcases Int.lt_or_le 0 S with h1 | h1
  · rw [Int.max_eq_left h, Int.max_eq_left (by omega)]
  · obtain rfl : S = 0 := by omega
    simp
theorem allWays_two {zs : List Int} (hu : urnOk zs = true) : allWays zs 2 = isum zs * (isum zs - 1) := by
  unfold allWays
  rw [hu]
  exact fall_two (urnOk_sum hu).1
theorem pair_eq (a b : Int) : (a + b) * (a + b - 1) = a * (a - 1) + b * (b - 1) + 2 * (a * b) := by
  simp only [Int.sub_eq_add_neg, Int.add_mul, Int.mul_add]
  rw [Int.mul_comm b a]; omega
theorem same_all {zs : List Int} (hu : urnOk zs = true) : sameSum zs ≤ isum zs * (isum zs - 1) ∧ (sameSum zs = isum zs * (isum zs - 1) ↔ posCnt zs < 2) := by
  have hs := urnOk_size hu
  have hm := urnOk_mem hu
  have pos : ∀ a b : Int, 0 ≤ a → 0 ≤ b → 0 ≤ a * b ∧ (a * b = 0 ↔ a = 0 ∨ b = 0) := fun a b ha hb => ⟨Int.mul_nonneg ha hb, Int.mul_eq_zero⟩
  match zs, hs with
  | [a], _ =>
    have ha := hm a (by simp)
    simp only [sameSum, isum, posCnt, Int.add_zero]
    refine ⟨Int.le_refl _, ?_⟩
    split <;> simp
  | [a, b], _ =>
    have ha := hm a (by simp)
    have hb := hm b (by simp)
    obtain ⟨p1, p2⟩ := pos a b ha.1 hb.1
    simp only [sameSum, isum, posCnt, Int.add_zero]
    rw [pair_eq]
    constructor
    · omega
    · constructor
      · intro h
        have : a * b = 0 := by omega
        rcases p2.1 this with h | h <;> subst h <;> ((repeat' split) <;> omega)
      · intro h
        have : a = 0 ∨ b = 0 := by
          revert h; split <;> split <;> omega
        have := p2.2 this
        omega
  | [a, b, c], _ =>
    have ha := hm a (by simp)
    have hb := hm b (by simp)
    have hc := hm c (by simp)
    obtain ⟨p1, p2⟩ := pos a (b + c) ha.1 (by omega)
    obtain ⟨q1, q2⟩ := pos b c hb.1 hc.1
    simp only [sameSum, isum, posCnt, Int.add_zero]
    rw [pair_eq, pair_eq]
    constructor
    · omega
    · constructor
      · intro h
        have h1 : a * (b + c) = 0 := by omega
        have h2 : b * c = 0 := by omega
        rcases p2.1 h1 with h | h
        · subst h
          rcases q2.1 h2 with h | h <;> subst h <;> ((repeat' split) <;> omega)
        · have hb0 : b = 0 := by omega
          have hc0 : c = 0 := by omega
          subst hb0; subst hc0
          (repeat' split) <;> omega
      · intro h
        have h3 : (a = 0 ∨ b + c = 0) ∧ (b = 0 ∨ c = 0) := by
          revert h; split <;> split <;> split <;> omega
        have h1 := p2.2 h3.1
        have h2 := q2.2 h3.2
        omega
theorem sameApart_lt {zs : List Int} (h : urnOk zs = true) : 0 ≤ sameSum zs := by
  have := sameSum_take h zs.length
  rw [List.take_length] at this
  exact this.1
end Go.Proofs.Ytoafpokcbbncfaa

namespace Go.Proofs.Ytoafpokcbbncfaa
open Go.RowKit

/-- The sum over the numbers below n. -/
def nsum : Nat → (Nat → Int) → Int
  | 0, _ => 0
  | n + 1, f => nsum n f + f n
theorem nsum_congr {n : Nat} {f g : Nat → Int} (h : ∀ k, k < n → f k = g k) : nsum n f = nsum n g := by
  induction n with
  | zero => rfl
  | succ n ih => simp only [nsum]; rw [ih (fun k hk => h k (by omega)), h n (by omega)]
theorem nsum_add (n : Nat) (f g : Nat → Int) : nsum n (fun k => f k + g k) = nsum n f + nsum n g := by
  induction n with
  | zero => rfl
  | succ n ih => simp only [nsum, ih]; omega
theorem nsum_mul (n : Nat) (a : Int) (f : Nat → Int) : nsum n (fun k => a * f k) = a * nsum n f := by
  induction n with
  | zero => simp [nsum]
  | succ n ih => simp only [nsum, ih, Int.mul_add]
theorem nsum_mulr (n : Nat) (a : Int) (f : Nat → Int) : nsum n (fun k => f k * a) = nsum n f * a := by
  induction n with
  | zero => simp [nsum]
  | succ n ih => simp only [nsum, ih, Int.add_mul]
theorem nsum_zero (n : Nat) : nsum n (fun _ => 0) = 0 := by
  induction n with
  | zero => rfl
  | succ n ih => simp only [nsum, ih]; rfl
theorem nsum_swap (n m : Nat) (f : Nat → Nat → Int) : nsum n (fun i => nsum m (fun j => f i j)) = nsum m (fun j => nsum n (fun i => f i j)) := by
  induction n with
  | zero => simp only [nsum]; exact (nsum_zero m).symm
  | succ n ih => simp only [nsum, ih]; rw [nsum_add]
theorem nsum_append (n m : Nat) (f : Nat → Int) : nsum (n + m) f = nsum n f + nsum m (fun k => f (n + k)) := by
  induction m with
  | zero => simp [nsum]
  | succ m ih => show nsum (n + m) f + f (n + m) = nsum n f + (nsum m (fun k => f (n + k)) + f (n + m)); rw [ih]; omega
theorem nsum_split (C N : Nat) (f : Nat → Int) : nsum (C * N) f = nsum N (fun q => nsum C (fun c => f (C * q + c))) := by
  induction N with
  | zero => rfl
  | succ N ih => rw [Nat.mul_succ, nsum_append, ih]; rfl
theorem nsum_bounds {n : Nat} {f : Nat → Int} {M : Int} (h : ∀ k, k < n → 0 ≤ f k ∧ f k ≤ M) : 0 ≤ nsum n f ∧ nsum n f ≤ M * n := by
  induction n with
  | zero => simp [nsum]
  | succ n ih =>
    have h1 := ih (fun k hk => h k (by omega))
    have h2 := h n (by omega)
    have e : M * ((n + 1 : Nat) : Int) = M * (n : Int) + M := by rw [Int.natCast_add, Int.mul_add]; simp
    rw [e]; simp only [nsum]; omega
theorem nsum_only {n j : Nat} (hj : j < n) (v : Int) : nsum n (fun k => if k = j then v else 0) = v := by
  induction n with
  | zero => omega
  | succ n ih =>
    simp only [nsum]
    rcases Nat.lt_or_ge j n with h | h
    · rw [ih h, if_neg (by omega)]; omega
    · obtain rfl : j = n := by omega
      rw [if_pos rfl, nsum_congr (g := fun _ => 0) (fun k hk => if_neg (by omega)), nsum_zero]; omega
theorem nsum_list (zs : List Int) : nsum zs.length (fun k => zs[k]?.getD 0) = isum zs := by
  induction zs with
  | nil => rfl
  | cons z r ih =>
    have h : nsum (1 + r.length) (fun k => (z :: r)[k]?.getD 0) = _ := nsum_append 1 r.length _
    rw [List.length_cons, Nat.add_comm r.length 1, h]
    have e : nsum r.length (fun k => (z :: r)[1 + k]?.getD 0) = nsum r.length (fun k => r[k]?.getD 0) := nsum_congr (fun k _ => by rw [Nat.add_comm 1 k]; rfl)
    rw [e, ih]; simp [nsum, isum]

/-- The digits of a number, the lowest first. -/
def digs (C : Nat) : Nat → Nat → List Int
  | 0, _ => []
  | m + 1, k => ((k % C : Nat) : Int) :: digs C m (k / C)
theorem digs_len (C m k : Nat) : (digs C m k).length = m := by
  induction m generalizing k with
  | zero => rfl
  | succ m ih => simp [digs, ih]
theorem digs_mem {C : Nat} (hC : 0 < C) (m k : Nat) : ∀ x ∈ digs C m k, 0 ≤ x ∧ x < C := by
  induction m generalizing k with
  | zero => intro x hx; cases hx
  | succ m ih =>
    intro x hx
    rcases List.mem_cons.1 hx with h | h
    · have := Nat.mod_lt k hC; omega
    · exact ih _ x h
theorem digs_at {C : Nat} (m k j : Nat) (hj : j < m) : (digs C m k)[j]? = some (((k / C ^ j) % C : Nat) : Int) := by
  induction m generalizing k j with
  | zero => omega
  | succ m ih =>
    cases j with
    | zero => simp [digs]
    | succ j =>
      simp only [digs, List.getElem?_cons_succ]
      rw [ih _ _ (by omega), Nat.div_div_eq_div_mul, Nat.pow_succ, Nat.mul_comm C]
/-- The sum over all words of m draws of C colours. -/
def wsum (C : Nat) : Nat → (List Int → Int) → Int
  | 0, g => g []
  | m + 1, g => nsum C (fun c => wsum C m (fun ws => g ((c : Int) :: ws)))
theorem nsum_digs {C : Nat} (hC : 0 < C) (m : Nat) (g : List Int → Int) : nsum (C ^ m) (fun k => g (digs C m k)) = wsum C m g := by
  induction m generalizing g with
  | zero => simp [nsum, wsum, digs]
  | succ m ih =>
    rw [Nat.pow_succ, Nat.mul_comm, nsum_split, nsum_swap]
    simp only [wsum]
    refine nsum_congr fun c hc => ?_
    rw [← ih]
    refine nsum_congr fun q _ => ?_
    have h1 : (C * q + c) % C = c := by rw [Nat.mul_add_mod, Nat.mod_eq_of_lt hc]
    have h2 : (C * q + c) / C = q := by rw [Nat.mul_add_div hC, Nat.div_eq_of_lt hc]; rfl
    simp only [digs, h1, h2]
theorem wsum_congr {C m : Nat} {g h : List Int → Int} (e : ∀ ws : List Int, ws.length = m → (∀ x ∈ ws, 0 ≤ x ∧ x < C) → g ws = h ws) : wsum C m g = wsum C m h := by
  induction m generalizing g h with
  | zero => exact e [] rfl (fun _ h => by cases h)
  | succ m ih =>
    simp only [wsum]
    refine nsum_congr fun c hc => ih fun ws hl hw => ?_
    exact e _ (by simp [hl]) (fun x hx => by
      rcases List.mem_cons.1 hx with h | h
      · omega
      · exact hw x h)
theorem wsum_mul (C m : Nat) (a : Int) (g : List Int → Int) : wsum C m (fun ws => a * g ws) = a * wsum C m g := by
  induction m generalizing g with
  | zero => rfl
  | succ m ih => simp only [wsum]; rw [← nsum_mul]; exact nsum_congr fun c _ => ih _
theorem wsum_zero (C m : Nat) : wsum C m (fun _ => 0) = 0 := by
  induction m with
  | zero => rfl
  | succ m ih => simp only [wsum, ih]; exact nsum_zero C
theorem wsum_nsum (C m n : Nat) (f : Nat → List Int → Int) : wsum C m (fun ws => nsum n (fun i => f i ws)) = nsum n (fun i => wsum C m (f i)) := by
  induction m generalizing f with
  | zero => rfl
  | succ m ih =>
    simp only [wsum]
    rw [nsum_swap]
    exact nsum_congr fun c _ => ih _
theorem wsum_single {B : Nat} (l : List Int) (h : ∀ x ∈ l, 0 ≤ x ∧ x < B) (v : Int) : wsum B l.length (fun cs => if l = cs then v else 0) = v := by
  induction l with
  | nil => simp [wsum]
  | cons x r ih =>
    have hx := h x (by simp)
    have ih := ih (fun y hy => h y (by simp [hy]))
    simp only [List.length_cons, wsum]
    have e : ∀ c, c < B → wsum B r.length (fun ws => if x :: r = (c : Int) :: ws then v else 0) = if c = x.toNat then v else 0 := by
      intro c hc
      by_cases hcx : c = x.toNat
      · rw [if_pos hcx]
        refine Eq.trans (wsum_congr fun ws _ _ => ?_) ih
        have : x = (c : Int) := by omega
        simp [this]
      · rw [if_neg hcx]
        refine Eq.trans (wsum_congr (h := fun _ => 0) fun ws _ _ => ?_) (wsum_zero _ _)
        have : ¬ x = (c : Int) := by omega
        simp [this]
    rw [nsum_congr e]
    exact nsum_only (by omega) v

theorem isum_set' {zs : List Int} {k : Nat} (h : k < zs.length) (y : Int) : isum (zs.set k y) = isum zs - zs[k] + y := isum_set (List.getElem?_eq_getElem h) y
theorem wsum_ways {C : Nat} (m : Nat) (zs : List Int) (hl : zs.length = C) (h : ∀ z ∈ zs, 0 ≤ z) : wsum C m (ways zs) = fall (isum zs) m := by
  induction m generalizing zs with
  | zero => rfl
  | succ m ih =>
    have hs : 0 ≤ isum zs := by
      clear hl ih
      induction zs with
      | nil => simp [isum]
      | cons z r ih => have := h z (by simp); have := ih (fun y hy => h y (by simp [hy])); simp only [isum]; omega
    have e : ∀ c, c < C → wsum C m (fun ws => ways zs ((c : Int) :: ws)) = (zs[c]?.getD 0) * fall (isum zs - 1) m := by
      intro c hc
      have hk := List.getElem?_eq_getElem (l := zs) (i := c) (by omega)
      have hz := h zs[c] (List.getElem_mem _)
      have hb : ballsAt zs (c : Int) = zs[c] := ballsAt_eq (by simp)
      have ec : ((c : Int)).toNat = c := by omega
      simp only [ways]
      rw [wsum_mul, hb, ec, hk, Option.getD_some, Int.max_eq_left hz]
      rcases Int.lt_or_le 0 zs[c] with h0 | h0
      · rw [ih _ (by rw [List.length_set, hl]) (fun z hm => by
          rcases List.mem_or_eq_of_mem_set hm with h1 | h1
          · exact h z h1
          · omega), isum_set' (by omega)]
        rw [show isum zs - zs[c] + (zs[c] - 1) = isum zs - 1 by omega]
      · have : zs[c] = 0 := by omega
        rw [this]; simp
    simp only [wsum]
    rw [nsum_congr e, nsum_mulr, ← hl, nsum_list]
    simp only [fall]
    rw [Int.max_eq_left hs]

/-! Rows of counts -/
theorem row_split {c : Int} {cs : List Int} (h : countRowOk c cs = true) : (∃ a : Nat, a < 7 ∧ cs = [(a : Int)]) ∨ (∃ a b : Nat, a < 7 ∧ b < 7 ∧ a + b ≤ 6 ∧ cs = [(a : Int), (b : Int)]) ∨ (∃ a b d : Nat, a < 7 ∧ b < 7 ∧ d < 7 ∧ a + b + d ≤ 6 ∧ cs = [(a : Int), (b : Int), (d : Int)]) := by
  obtain ⟨h1, h2, h3, h4, h5⟩ := countRowOk_yes h
  match cs, h3, h4, h5 with
  | [], h3, _, _ => simp at h3; omega
  | [a], _, h4, h5 =>
    have := h4 a (by simp)
    exact .inl ⟨a.toNat, by omega, by rw [Int.toNat_of_nonneg this.1]⟩
  | [a, b], _, h4, h5 =>
    have ha := h4 a (by simp)
    have hb := h4 b (by simp)
    simp [isum] at h5
    exact .inr (.inl ⟨a.toNat, b.toNat, by omega, by omega, by omega, by rw [Int.toNat_of_nonneg ha.1, Int.toNat_of_nonneg hb.1]⟩)
  | [a, b, d], _, h4, h5 =>
    have ha := h4 a (by simp)
    have hb := h4 b (by simp)
    have hd := h4 d (by simp)
    simp [isum] at h5
    exact .inr (.inr ⟨a.toNat, b.toNat, d.toNat, by omega, by omega, by omega, by omega, by rw [Int.toNat_of_nonneg ha.1, Int.toNat_of_nonneg hb.1, Int.toNat_of_nonneg hd.1]⟩)
  | _ :: _ :: _ :: _ :: _, h3, _, _ => simp at h3; omega
/-- What is checked of each row. -/
def less (cs : List Int) (c : Nat) : List Int := cs.set c (cs[c]?.getD 0 - 1)
def recSum (cs : List Int) : Int := nsum cs.length (fun c => if 0 < cs[c]?.getD 0 then mult (less cs c) else 0)
def rowFine (cs : List Int) : Bool := decide (1 ≤ mult cs) && decide (mult cs.reverse = mult cs) && (decide (isum cs = 0) || decide (recSum cs = mult cs)) && (decide (isum cs ≠ 0) || decide (mult cs = 1))
theorem fine1 : ∀ a : Nat, a < 7 → rowFine [(a : Int)] = true := by decide +kernel
theorem fine2 : ∀ a : Nat, a < 7 → ∀ b : Nat, b < 7 → a + b ≤ 6 → rowFine [(a : Int), (b : Int)] = true := by decide +kernel
theorem fine3 : ∀ a : Nat, a < 7 → ∀ b : Nat, b < 7 → ∀ d : Nat, d < 7 → a + b + d ≤ 6 → rowFine [(a : Int), (b : Int), (d : Int)] = true := by decide +kernel
theorem row_fine {c : Int} {cs : List Int} (h : countRowOk c cs = true) : 1 ≤ mult cs ∧ mult cs.reverse = mult cs ∧ (isum cs ≠ 0 → recSum cs = mult cs) ∧ (isum cs = 0 → mult cs = 1) := by
  have hf : rowFine cs = true := by
    rcases row_split h with ⟨a, ha, rfl⟩ | ⟨a, b, ha, hb, hs, rfl⟩ | ⟨a, b, d, ha, hb, hd, hs, rfl⟩
    · exact fine1 a ha
    · exact fine2 a ha b hb hs
    · exact fine3 a ha b hb d hd hs
  unfold rowFine at hf
  simp only [Bool.and_eq_true, Bool.or_eq_true, decide_eq_true_eq] at hf
  obtain ⟨⟨⟨h1, h2⟩, h3⟩, h4⟩ := hf
  exact ⟨h1, h2, fun h => h3.resolve_left h, fun h => h4.resolve_left (fun hn => hn h)⟩
theorem less_row {c : Int} {cs : List Int} {k : Nat} {x : Int} (h : countRowOk c cs = true) (hx : cs[k]? = some x) (h0 : 0 < x) : countRowOk c (less cs k) = true ∧ isum (less cs k) = isum cs - 1 := by
  obtain ⟨h1, h2, h3, h4, h5⟩ := countRowOk_yes h
  have e : less cs k = cs.set k (x - 1) := by unfold less; rw [hx]; rfl
  have es : isum (cs.set k (x - 1)) = isum cs - 1 := by rw [isum_set hx]; omega
  rw [e]
  refine ⟨countRowOk_mk h1 h2 (by rw [List.length_set]; exact h3) (fun j y hj hy => ?_) (by omega), es⟩
  rcases List.mem_or_eq_of_mem_set (List.mem_of_getElem? hy) with hm | hm
  · exact h4 y hm
  · have := h4 x (List.mem_of_getElem? hx); omega
theorem cntL_cons {C : Nat} {ws : List Int} {c : Nat} (_hc : c < C) : cntL C ((c : Int) :: ws) = (cntL C ws).set c ((ws.count (c : Int) : Int) + 1) := by
  apply List.ext_getElem
  · simp [cntL]
  · intro i h2 h3
    rw [List.getElem_set]
    split
    · next e => subst e; simp [cntL, List.count_cons]
    · next e =>
      have : ¬ (c : Int) = (i : Int) := by omega
      simp [cntL, List.count_cons, this]
theorem isum_cntL {C : Nat} (ws : List Int) (h : ∀ x ∈ ws, 0 ≤ x ∧ x < C) : isum (cntL C ws) = ws.length := by
  induction ws with
  | nil => rw [cntL_nil, isum_zeros]; rfl
  | cons x r ih =>
    have hx := h x (by simp)
    have e : x = ((x.toNat : Nat) : Int) := by omega
    rw [e, cntL_cons (by omega), isum_set (cntL_at C r x.toNat (by omega)), ih (fun y hy => h y (by simp [hy])), List.length_cons]
    omega
theorem cntL_len (C : Nat) (ws : List Int) : (cntL C ws).length = C := by simp [cntL]
theorem cntL_mem {C : Nat} {ws : List Int} : ∀ x ∈ cntL C ws, 0 ≤ x ∧ x ≤ ws.length := by
  intro x hx
  simp only [cntL, List.mem_map] at hx
  obtain ⟨i, _, rfl⟩ := hx
  have := List.count_le_length (l := ws) (a := (i : Int))
  omega
theorem cntL_row {c : Int} {ws : List Int} (h : wordOk c ws = true) : countRowOk c (cntL c.toNat ws) = true := by
  obtain ⟨h1, h2, h3, h4⟩ := wordOk_yes h
  refine countRowOk_mk h1 h2 (by rw [cntL_len]; omega) (fun j x _ hx => ?_) ?_
  · have := cntL_mem x (List.mem_of_getElem? hx); omega
  · rw [isum_cntL ws (fun x hx => by have := h4 x hx; omega)]; omega
theorem cntL_less {C : Nat} {cs ws : List Int} {c : Nat} {x : Int} (hl : cs.length = C) (hc : c < C) (hx : cs[c]? = some x) : (cntL C ((c : Int) :: ws) = cs) ↔ (cntL C ws = cs.set c (x - 1)) := by
  have h6 : (cntL C ws)[c]? = some ((ws.count (c : Int) : Int)) := cntL_at C ws c hc
  rw [cntL_cons hc]
  constructor
  · intro e
    have h7 : cs[c]? = some ((ws.count (c : Int) : Int) + 1) := by rw [← e, List.getElem?_set_self (by rw [cntL_len]; exact hc)]
    rw [hx] at h7
    injection h7 with h7
    apply List.ext_getElem?
    intro i
    by_cases hi : c = i
    · subst hi
      rw [h6, List.getElem?_set_self (by omega)]; congr 1; omega
    · rw [← e, List.getElem?_set_ne hi, List.getElem?_set_ne hi]
  · intro e
    rw [e, List.getElem?_set_self (by omega)] at h6
    injection h6 with h6
    rw [e]
    apply List.ext_getElem?
    intro i
    by_cases hi : c = i
    · subst hi
      rw [hx, List.getElem?_set_self (by rw [List.length_set]; omega)]; congr 1; omega
    · rw [List.getElem?_set_ne hi, List.getElem?_set_ne hi]
/-- How many words have just these counts. -/
theorem wsum_count {C : Nat} (m : Nat) (cs : List Int) (h : countRowOk (C : Int) cs = true) (hs : isum cs = m) : wsum C m (fun ws => if cntL C ws = cs then 1 else 0) = mult cs := by
  induction m generalizing cs with
  | zero =>
    obtain ⟨_, _, _, h4⟩ := row_fine h
    obtain ⟨_, _, h3, h5, _⟩ := countRowOk_yes h
    simp only [wsum]
    rw [h4 (by omega), if_pos]
    rw [cntL_nil]
    apply List.ext_getElem
    · simp; omega
    · intro i h1 h2
      have hx := List.getElem?_eq_getElem h2
      have hb := h5 cs[i] (List.getElem_mem h2)
      have hle : cs[i] ≤ isum cs := part_le_sum (countRowOk_urn h) hx
      rw [List.getElem_replicate]; omega
  | succ m ih =>
    obtain ⟨_, _, h3, _⟩ := row_fine h
    obtain ⟨_, _, hl, h5, _⟩ := countRowOk_yes h
    have hl : cs.length = C := by omega
    rw [← h3 (by omega)]
    unfold recSum
    simp only [wsum]
    rw [hl]
    refine nsum_congr fun c hc => ?_
    obtain ⟨x, hx⟩ : ∃ x, cs[c]? = some x := ⟨_, List.getElem?_eq_getElem (by omega)⟩
    have eless : less cs c = cs.set c (x - 1) := by unfold less; rw [hx]; rfl
    have he := fun ws => cntL_less (ws := ws) hl hc hx
    rw [hx, Option.getD_some]
    by_cases h0 : 0 < x
    · rw [if_pos h0]
      obtain ⟨r1, r2⟩ := less_row h hx h0
      rw [← ih _ r1 (by omega), eless]
      refine wsum_congr fun ws _ _ => ?_
      by_cases hh : cntL C ws = cs.set c (x - 1)
      · rw [if_pos hh, if_pos ((he ws).2 hh)]
      · rw [if_neg hh, if_neg (fun e => hh ((he ws).1 e))]
    · rw [if_neg h0]
      refine Eq.trans (wsum_congr (h := fun _ => 0) fun ws _ _ => if_neg fun e => ?_) (wsum_zero _ _)
      rw [cntL_cons hc] at e
      have h6 : cs[c]? = some ((ws.count (c : Int) : Int) + 1) := by rw [← e, List.getElem?_set_self (by rw [cntL_len]; exact hc)]
      rw [hx] at h6
      injection h6 with h6
      omega

theorem prodK_prodF (zs cs : List Int) (f : Nat → Nat) (h : ∀ k, k < zs.length → (cs[k]?.getD 0).toNat = f k) : prodK zs cs zs.length = prodF zs f := by
  have g : ∀ (k : Nat), k ≤ zs.length → prodK zs cs k = prodF (zs.take k) f := by
    intro k
    induction k with
    | zero => intro _; rfl
    | succ k ih =>
      intro hk
      have hx := List.getElem?_eq_getElem (l := zs) (i := k) (by omega)
      have ap : ∀ (l : List Int) (x : Int) (f : Nat → Nat), prodF (l ++ [x]) f = prodF l f * fall x (f l.length) := by
        intro l x
        induction l with
        | nil => intro f; simp [prodF]
        | cons y r ih2 => intro f; simp only [List.cons_append, prodF, ih2, List.length_cons, Int.mul_assoc]
      rw [take_succ hx, ap, List.length_take, Nat.min_eq_left (by omega)]
      simp only [prodK]
      rw [ih (by omega), hx, h k (by omega)]; rfl
  have := g zs.length (Nat.le_refl _)
  rwa [List.take_length] at this
/-- The ways of a word with these counts. -/
theorem ways_prod {C : Nat} {zs ws : List Int} (hl : zs.length = C) (h : ∀ x ∈ ws, 0 ≤ x ∧ x < C) : ways zs ws = prodC zs (cntL C ws) := by
  rw [ways_counts zs ws (fun x hx => by have := h x hx; omega)]
  unfold prodC
  rw [cntL_len, ← hl]
  refine (prodK_prodF zs _ _ fun k hk => ?_).symm
  rw [cntL_at _ _ _ hk]; simp
/-- The ways of all words with just these counts. -/
theorem wsum_countWays {C : Nat} {zs cs : List Int} (m : Nat) (hl : zs.length = C) (h : countRowOk (C : Int) cs = true) (hs : isum cs = m) : wsum C m (fun ws => if cntL C ws = cs then ways zs ws else 0) = mult cs * prodC zs cs := by
  rw [← wsum_count m cs h hs, Int.mul_comm, ← wsum_mul]
  refine wsum_congr fun ws _ hw => ?_
  by_cases e : cntL C ws = cs
  · rw [if_pos e, if_pos e, ways_prod hl hw, e, Int.mul_one]
  · rw [if_neg e, if_neg e, Int.mul_zero]
theorem digs_row {C m k : Nat} (hC : 1 ≤ C) (hC3 : C ≤ 3) (hm : m ≤ 6) (h : isum (digs (m + 1) C k) = m) : countRowOk (C : Int) (digs (m + 1) C k) = true :=
  countRowOk_mk (by omega) (by omega) (by rw [digs_len]) (fun j x _ hx => by have := digs_mem (C := m + 1) (by omega) C k x (List.mem_of_getElem? hx); omega) (by omega)
/-- All counts of m draws have all ways. -/
theorem rows_ways {C : Nat} {zs : List Int} (m : Nat) (hl : zs.length = C) (hC : 1 ≤ C) (hC3 : C ≤ 3) (hm : m ≤ 6) (hz : ∀ z ∈ zs, 0 ≤ z) :
    nsum ((m + 1) ^ C) (fun k => if isum (digs (m + 1) C k) = m then mult (digs (m + 1) C k) * prodC zs (digs (m + 1) C k) else 0) = fall (isum zs) m := by
  have e1 : ∀ k, k < (m + 1) ^ C → (if isum (digs (m + 1) C k) = m then mult (digs (m + 1) C k) * prodC zs (digs (m + 1) C k) else 0) = wsum C m (fun ws => if cntL C ws = digs (m + 1) C k then ways zs ws else 0) := by
    intro k _
    by_cases h : isum (digs (m + 1) C k) = m
    · rw [if_pos h]; exact (wsum_countWays m hl (digs_row hC hC3 hm h) h).symm
    · rw [if_neg h]
      refine (Eq.trans (wsum_congr (h := fun _ => 0) fun ws hlw hw => if_neg fun e => ?_) (wsum_zero _ _)).symm
      rw [← e, isum_cntL ws hw, hlw] at h
      exact h rfl
  rw [nsum_congr e1, ← wsum_nsum, ← wsum_ways m zs hl hz]
  refine wsum_congr fun ws hlw hw => ?_
  rw [nsum_digs (C := m + 1) (by omega) C (fun l => if cntL C ws = l then ways zs ws else 0)]
  have := wsum_single (B := m + 1) (cntL C ws) (fun x hx => by have := cntL_mem x hx; omega) (ways zs ws)
  rwa [cntL_len] at this
theorem words_ways {C : Nat} {zs : List Int} (m : Nat) (hl : zs.length = C) (hC : 1 ≤ C) (hz : ∀ z ∈ zs, 0 ≤ z) : nsum (C ^ m) (fun k => ways zs (digs C m k)) = fall (isum zs) m := by
  rw [nsum_digs (by omega), wsum_ways m zs hl hz]
/-- Each place of three is as the first one. -/
theorem any_place {C : Nat} {zs : List Int} (hl : zs.length = C) (hC : 1 ≤ C) (col : Int) :
    nsum (C ^ 3) (fun k => if (digs C 3 k)[0]? = some col then ways zs (digs C 3 k) else 0) = nsum (C ^ 3) (fun k => if (digs C 3 k)[2]? = some col then ways zs (digs C 3 k) else 0) := by
  rw [nsum_digs (by omega) 3 (fun ws => if ws[0]? = some col then ways zs ws else 0), nsum_digs (by omega) 3 (fun ws => if ws[2]? = some col then ways zs ws else 0)]
  simp only [wsum]
  have sw : ∀ f : Nat → Nat → Nat → Int, nsum C (fun a => nsum C (fun b => nsum C (fun d => f a b d))) = nsum C (fun d => nsum C (fun b => nsum C (fun a => f a b d))) := by
    intro f
    have h1 : nsum C (fun a => nsum C (fun b => nsum C (fun d => f a b d))) = nsum C (fun a => nsum C (fun d => nsum C (fun b => f a b d))) := nsum_congr fun a _ => nsum_swap C C _
    rw [h1, nsum_swap]
    exact nsum_congr fun d _ => nsum_swap C C _
  rw [sw]
  refine nsum_congr fun a ha => nsum_congr fun b hb => nsum_congr fun d hd => ?_
  have e : ways zs [(d : Int), (b : Int), (a : Int)] = ways zs [(a : Int), (b : Int), (d : Int)] := ways_same zs _ _ (fun x hx => by simp at hx; rcases hx with h | h | h <;> subst h <;> omega) (fun x hx => by simp at hx; rcases hx with h | h | h <;> subst h <;> omega) (fun i => by simp only [List.count_cons, List.count_nil]; omega)
  rw [e]; rfl
/-- Two neighbours exchanged. -/
theorem swap_count {l : List Int} {k : Nat} {x y : Int} (hx : l[k]? = some x) (hy : l[k + 1]? = some y) (i : Int) : ((l.set k y).set (k + 1) x).count i = l.count i := by
  induction l generalizing k with
  | nil => simp at hx
  | cons z r ih =>
    cases k with
    | zero =>
      match r, hy with
      | u :: r, hy =>
        simp at hx hy
        subst hx; subst hy
        simp only [List.set_cons_zero, List.set_cons_succ, List.count_cons]; omega
    | succ k =>
      simp only [List.set_cons_succ, List.count_cons]
      rw [ih (by simpa using hx) (by simpa using hy)]
theorem ways_swap {zs l : List Int} {k : Nat} {x y : Int} (h : ∀ u ∈ l, 0 ≤ u ∧ u < zs.length) (hx : l[k]? = some x) (hy : l[k + 1]? = some y) : ways zs ((l.set k y).set (k + 1) x) = ways zs l :=
  ways_same zs _ _ (fun u hu => by
    rcases List.mem_or_eq_of_mem_set hu with h1 | h1
    · rcases List.mem_or_eq_of_mem_set h1 with h2 | h2
      · exact h u h2
      · exact h u (h2 ▸ List.mem_of_getElem? hy)
    · exact h u (h1 ▸ List.mem_of_getElem? hx)) h (swap_count hx hy)
theorem ways_reverse {zs l : List Int} (h : ∀ u ∈ l, 0 ≤ u ∧ u < zs.length) : ways zs l.reverse = ways zs l :=
  ways_same zs _ _ (fun u hu => h u (List.mem_reverse.1 hu)) h (fun _ => List.count_reverse)
theorem wordWays_swap {zs l : List Int} {k : Nat} {x y : Int} (hx : l[k]? = some x) (hy : l[k + 1]? = some y) : wordWays zs ((l.set k y).set (k + 1) x) = wordWays zs l := by
  have hw : wordOk zs.length ((l.set k y).set (k + 1) x) = wordOk zs.length l := by
    unfold wordOk
    rw [List.length_set, List.length_set]
    congr 1
    rw [Bool.eq_iff_iff, List.all_eq_true, List.all_eq_true]
    have hm : ∀ u, u ∈ (l.set k y).set (k + 1) x ↔ u ∈ l := fun u => by rw [← List.count_pos_iff, ← List.count_pos_iff, swap_count hx hy]
    exact ⟨fun g u hu => g u ((hm u).2 hu), fun g u hu => g u ((hm u).1 hu)⟩
  unfold wordWays
  rw [hw]
  split
  · next h =>
    rw [Bool.and_eq_true] at h
    exact ways_swap (wordOk_yes h.2).2.2.2 hx hy
  · rfl
theorem wordWays_reverse (zs l : List Int) : wordWays zs l.reverse = wordWays zs l := by
  unfold wordWays
  rw [wordOk_reverse]
  split
  · next h =>
    rw [Bool.and_eq_true] at h
    exact ways_reverse (wordOk_yes h.2).2.2.2
  · rfl
theorem fall_zero {z : Int} {k : Nat} (h0 : 0 ≤ z) : fall z k = 0 ↔ z < (k : Int) := by
  induction k generalizing z with
  | zero => simp only [fall]; omega
  | succ k ih =>
    simp only [fall, Int.mul_eq_zero]
    rcases Int.lt_or_le 0 z with h | h
    · rw [ih (by omega)]; omega
    · obtain rfl : z = 0 := by omega
      exact ⟨fun _ => by omega, fun _ => .inl (by decide)⟩
theorem prodK_zero {zs cs : List Int} (hz : ∀ z ∈ zs, 0 ≤ z) (hc : ∀ x ∈ cs, 0 ≤ x) (hl : cs.length = zs.length) (k : Nat) (hk : k ≤ cs.length) : prodK zs cs k = 0 ↔ ∃ j, j < k ∧ zs[j]?.getD 0 < cs[j]?.getD 0 := by
  induction k with
  | zero => simp [prodK]
  | succ k ih =>
    have hzk := hz zs[k] (List.getElem_mem _)
    have hck := hc cs[k] (List.getElem_mem _)
    simp only [prodK, Int.mul_eq_zero, ih (by omega)]
    rw [List.getElem?_eq_getElem (l := zs) (i := k) (by omega), List.getElem?_eq_getElem (l := cs) (i := k) (by omega), Option.getD_some, Option.getD_some, fall_zero hzk]
    constructor
    · rintro (⟨j, hj, h⟩ | h)
      · exact ⟨j, by omega, h⟩
      · refine ⟨k, by omega, ?_⟩
        rw [List.getElem?_eq_getElem (l := zs) (i := k) (by omega), List.getElem?_eq_getElem (l := cs) (i := k) (by omega), Option.getD_some, Option.getD_some]; omega
    · rintro ⟨j, hj, h⟩
      by_cases hjk : j < k
      · exact .inl ⟨j, hjk, h⟩
      · obtain rfl : j = k := by omega
        rw [List.getElem?_eq_getElem (l := zs) (i := j) (by omega), List.getElem?_eq_getElem (l := cs) (i := j) (by omega), Option.getD_some, Option.getD_some] at h
        exact .inr (by omega)
theorem isum_reverse (zs : List Int) : isum zs.reverse = isum zs := by
  induction zs with
  | nil => rfl
  | cons z r ih => rw [List.reverse_cons, isum_append, ih]; simp [isum]; omega
theorem countRowOk_reverse (c : Int) (cs : List Int) : countRowOk c cs.reverse = countRowOk c cs := by
  unfold countRowOk; rw [List.length_reverse, List.all_reverse, isum_reverse]
end Go.Proofs.Ytoafpokcbbncfaa

namespace Go.Proofs.Ytoafpokcbbncfaa
open Go.RowKit

/-- The ways of a word if each ball is put back. -/
def bw (zs : List Int) : List Int → Int
  | [] => 1
  | x :: r => ballsAt zs x * bw zs r
def backWays (zs ws : List Int) : Int := if urnOk zs && wordOk zs.length ws then bw zs ws else -1
def backAll (zs : List Int) (m : Int) : Int := if urnOk zs && decide (0 ≤ m ∧ m ≤ 6) then isum zs ^ m.toNat else -1
def powK (zs cs : List Int) : Nat → Int
  | 0 => 1
  | k + 1 => powK zs cs k * (zs[k]?.getD 0) ^ (cs[k]?.getD 0).toNat
def backCounts (zs cs : List Int) : Int := if urnOk zs && countRowOk zs.length cs then mult cs * powK zs cs cs.length else -1
def sqSum : List Int → Int
  | [] => 0
  | z :: r => z * z + sqSum r
def sameTwice (zs : List Int) : Int := if urnOk zs then sqSum zs else -1

theorem bw_append (zs a b : List Int) : bw zs (a ++ b) = bw zs a * bw zs b := by
  induction a with
  | nil => simp [bw]
  | cons x r ih => simp only [List.cons_append, bw, ih, Int.mul_assoc]
theorem bw_one (zs : List Int) (x : Int) : bw zs [x] = ballsAt zs x := by simp [bw]
theorem bw_snoc (zs : List Int) {ws : List Int} {k : Nat} {x : Int} (h : ws[k]? = some x) : bw zs (ws.take (k + 1)) = bw zs (ws.take k) * ballsAt zs x := by
  rw [take_succ h, bw_append, bw_one]
theorem bw_reverse (zs ws : List Int) : bw zs ws.reverse = bw zs ws := by
  induction ws with
  | nil => rfl
  | cons x r ih => rw [List.reverse_cons, bw_append, ih, bw_one, Int.mul_comm]; rfl
theorem ballsAt_bounds {M : Int} {zs : List Int} (h : ∀ z ∈ zs, 0 ≤ z ∧ z ≤ M) (hM : 0 ≤ M) (x : Int) : 0 ≤ ballsAt zs x ∧ ballsAt zs x ≤ M := by
  unfold ballsAt
  rcases Nat.lt_or_ge x.toNat zs.length with hk | hk
  · rw [List.getElem?_eq_getElem hk]; exact h _ (List.getElem_mem hk)
  · rw [List.getElem?_eq_none hk]; exact ⟨by decide, hM⟩
theorem bw_bounds {zs : List Int} (h : ∀ z ∈ zs, 0 ≤ z ∧ z ≤ 40) (ws : List Int) : 0 ≤ bw zs ws ∧ bw zs ws ≤ 40 ^ ws.length := by
  induction ws with
  | nil => simp [bw]
  | cons x r ih =>
    obtain ⟨b0, b1⟩ := ballsAt_bounds h (by decide) x
    simp only [bw, List.length_cons]
    rw [Int.pow_succ, Int.mul_comm (40 ^ r.length)]
    exact ⟨Int.mul_nonneg b0 ih.1, Int.mul_le_mul b1 ih.2 ih.1 (by decide)⟩
theorem ways_le_bw {zs vs ws : List Int} (h0 : ∀ z ∈ zs, 0 ≤ z ∧ z ≤ 40) (h : ∀ x, ballsAt vs x ≤ ballsAt zs x) : ways vs ws ≤ bw zs ws := by
  induction ws generalizing vs with
  | nil => simp [ways, bw]
  | cons x r ih =>
    simp only [ways, bw]
    obtain ⟨b0, _⟩ := ballsAt_bounds h0 (by decide) x
    have h2 : ∀ y, ballsAt (vs.set x.toNat (ballsAt vs x - 1)) y ≤ ballsAt zs y := fun y => by
      have hy := h y
      have hx := h x
      unfold ballsAt at hy hx ⊢
      rcases Nat.lt_or_ge x.toNat vs.length with hk | hk
      · rw [ballsAt_set _ hk]
        split
        · next e => rw [e]; omega
        · exact hy
      · rw [List.set_eq_of_length_le hk]; exact hy
    have h3 := h x
    exact Int.mul_le_mul (by omega) (ih h2) (ways_nonneg _ _) b0
theorem bw_ge {zs ws : List Int} (h0 : ∀ z ∈ zs, 0 ≤ z ∧ z ≤ 40) : ways zs ws ≤ bw zs ws := ways_le_bw h0 (fun _ => Int.le_refl _)
theorem wsum_bw {C : Nat} (m : Nat) (zs : List Int) (hl : zs.length = C) : wsum C m (bw zs) = isum zs ^ m := by
  induction m with
  | zero => simp [wsum, bw]
  | succ m ih =>
    simp only [wsum]
    have e : ∀ c, c < C → wsum C m (fun ws => bw zs ((c : Int) :: ws)) = (zs[c]?.getD 0) * isum zs ^ m := by
      intro c hc
      have hk := List.getElem?_eq_getElem (l := zs) (i := c) (by omega)
      have hb : ballsAt zs (c : Int) = zs[c] := ballsAt_eq (by simp)
      simp only [bw]
      rw [wsum_mul, ih, hb, hk]; rfl
    rw [nsum_congr e, nsum_mulr, ← hl, nsum_list, Int.pow_succ, Int.mul_comm]
theorem words_back {C : Nat} {zs : List Int} (m : Nat) (hl : zs.length = C) (hC : 1 ≤ C) : nsum (C ^ m) (fun k => bw zs (digs C m k)) = isum zs ^ m := by
  rw [nsum_digs (by omega), wsum_bw m zs hl]
theorem fall_le_pow {S : Int} (h : 0 ≤ S) (m : Nat) : fall S m ≤ S ^ m := by
  rcases Int.lt_or_le 0 S with h1 | h1
  · exact fall_le S S m (Int.le_refl _) (by omega)
  · obtain rfl : S = 0 := by omega
    cases m with
    | zero => decide
    | succ m =>
      have e : fall 0 (m + 1) = 0 := by simp [fall]
      rw [e]; exact Int.pow_nonneg (Int.le_refl 0)
theorem pow_bounds {z M : Int} (h0 : 0 ≤ z) (h1 : z ≤ M) (k : Nat) : 0 ≤ z ^ k ∧ z ^ k ≤ M ^ k := by
  induction k with
  | zero => simp
  | succ k ih =>
    rw [Int.pow_succ, Int.pow_succ]
    exact mul_bound ih.1 ih.2 h0 h1
theorem pow120 (k : Nat) (h : k ≤ 6) : (120 : Int) ^ k ≤ 2985984000000 := by
  match k, h with
  | 0, _ | 1, _ | 2, _ | 3, _ | 4, _ | 5, _ | 6, _ => decide
theorem powK_bounds {zs cs : List Int} (hz : ∀ z ∈ zs, 0 ≤ z ∧ z ≤ 40) (hc : ∀ x ∈ cs, 0 ≤ x ∧ x ≤ 6) (k : Nat) : 0 ≤ powK zs cs k ∧ powK zs cs k ≤ 40 ^ (isum (cs.take k)).toNat := by
  induction k with
  | zero => simp [powK, isum]
  | succ k ih =>
    simp only [powK]
    rcases Nat.lt_or_ge k cs.length with hk | hk
    · have hx := List.getElem?_eq_getElem hk
      have hcx := hc cs[k] (List.getElem_mem hk)
      have hs := (isum_bounds 6 (cs.take k) (fun x hx => hc x (List.mem_of_mem_take hx))).1
      rw [isum_take_succ hx, hx]
      have e : (isum (cs.take k) + cs[k]).toNat = (isum (cs.take k)).toNat + (cs[k]).toNat := by omega
      rw [e, Int.pow_add]
      have hzk : 0 ≤ zs[k]?.getD 0 ∧ zs[k]?.getD 0 ≤ 40 := by
        rcases Nat.lt_or_ge k zs.length with h2 | h2
        · rw [List.getElem?_eq_getElem h2]; exact hz _ (List.getElem_mem h2)
        · rw [List.getElem?_eq_none h2]; decide
      obtain ⟨p0, p1⟩ := pow_bounds hzk.1 hzk.2 (cs[k]).toNat
      exact mul_bound ih.1 ih.2 p0 p1
    · rw [List.getElem?_eq_none hk, List.take_of_length_le (by omega)]
      rw [List.take_of_length_le hk] at ih
      simpa using ih
theorem prodK_le_powK {zs cs : List Int} (hz : ∀ z ∈ zs, 0 ≤ z) (k : Nat) : prodK zs cs k ≤ powK zs cs k ∧ 0 ≤ powK zs cs k := by
  induction k with
  | zero => simp [prodK, powK]
  | succ k ih =>
    simp only [prodK, powK]
    have hzk : 0 ≤ zs[k]?.getD 0 := by
      rcases Nat.lt_or_ge k zs.length with h2 | h2
      · rw [List.getElem?_eq_getElem h2]; exact hz _ (List.getElem_mem h2)
      · rw [List.getElem?_eq_none h2]; decide
    exact ⟨Int.mul_le_mul ih.1 (fall_le_pow hzk _) (fall_nonneg _ _) ih.2, Int.mul_nonneg ih.2 (Int.pow_nonneg hzk)⟩
/-- The ways of a word by its counts. -/
theorem bw_pow {C : Nat} {zs ws : List Int} (_hl : zs.length = C) (h : ∀ x ∈ ws, 0 ≤ x ∧ x < C) : bw zs ws = powK zs (cntL C ws) C := by
  induction ws with
  | nil =>
    have : ∀ k, powK zs (cntL C []) k = 1 := by
      intro k
      induction k with
      | zero => rfl
      | succ k ih =>
        simp only [powK, ih]
        have : (cntL C [])[k]?.getD 0 = 0 := by
          rw [cntL_nil]
          rcases Nat.lt_or_ge k C with hk | hk
          · simp [hk]
          · rw [List.getElem?_eq_none (by simpa using hk)]; rfl
        rw [this]; simp
    rw [this]; rfl
  | cons x r ih =>
    have hx := h x (by simp)
    have ih := ih (fun y hy => h y (by simp [hy]))
    simp only [bw]
    rw [ih]
    obtain ⟨c, rfl⟩ : ∃ c : Nat, x = (c : Int) := ⟨x.toNat, by omega⟩
    have hc : c < C := by omega
    have g : ∀ k, powK zs (cntL C ((c : Int) :: r)) k = (if c < k then ballsAt zs (c : Int) else 1) * powK zs (cntL C r) k := by
      intro k
      induction k with
      | zero => simp [powK]
      | succ k ihk =>
        simp only [powK]
        rw [ihk, cntL_cons hc]
        by_cases hk : c = k
        · subst hk
          rw [if_neg (by omega), if_pos (by omega), List.getElem?_set_self (by rw [cntL_len]; exact hc), cntL_at C r c hc]
          have e1 : ballsAt zs (c : Int) = zs[c]?.getD 0 := by unfold ballsAt; rfl
          have e2 : ((some ((r.count (c : Int) : Int) + 1)).getD 0).toNat = ((some ((r.count (c : Int) : Nat) : Int)).getD 0).toNat + 1 := by first | (simp; done) | (simp; omega)
          rw [e1, e2, Int.pow_succ, Int.one_mul, Int.mul_comm _ (zs[c]?.getD 0), Int.mul_left_comm]
        · rw [List.getElem?_set_ne hk, Int.mul_assoc]
          congr 1
          by_cases h1 : c < k
          · rw [if_pos h1, if_pos (by omega)]
          · rw [if_neg h1, if_neg (by omega)]
    rw [g C, if_pos hc]
theorem wsum_backCounts {C : Nat} {zs cs : List Int} (m : Nat) (hl : zs.length = C) (h : countRowOk (C : Int) cs = true) (hs : isum cs = m) : wsum C m (fun ws => if cntL C ws = cs then bw zs ws else 0) = mult cs * powK zs cs cs.length := by
  have hlc : cs.length = C := by have := (countRowOk_yes h).2.2.1; omega
  rw [← wsum_count m cs h hs, Int.mul_comm, ← wsum_mul]
  refine wsum_congr fun ws _ hw => ?_
  by_cases e : cntL C ws = cs
  · rw [if_pos e, if_pos e, bw_pow hl hw, e, hlc, Int.mul_one]
  · rw [if_neg e, if_neg e, Int.mul_zero]
/-- All draws of a colour behind those of the colours before. -/
def sorted (cs : List Int) : Nat → List Int
  | 0 => []
  | k + 1 => sorted cs k ++ List.replicate (cs[k]?.getD 0).toNat (k : Int)
theorem bw_replicate (zs : List Int) (x : Int) (n : Nat) : bw zs (List.replicate n x) = ballsAt zs x ^ n := by
  induction n with
  | zero => simp [bw]
  | succ n ih => rw [List.replicate_succ, Int.pow_succ, Int.mul_comm]; simp only [bw]; rw [ih]
theorem bw_sorted (zs cs : List Int) (k : Nat) : bw zs (sorted cs k) = powK zs cs k := by
  induction k with
  | zero => rfl
  | succ k ih =>
    simp only [sorted, powK]
    rw [bw_append, ih, bw_replicate]
    unfold ballsAt
    rw [Int.toNat_natCast]
theorem sorted_len {cs : List Int} (hc : ∀ x ∈ cs, 0 ≤ x ∧ x ≤ 6) (k : Nat) : ((sorted cs k).length : Int) = isum (cs.take k) := by
  induction k with
  | zero => rfl
  | succ k ih =>
    simp only [sorted]
    rw [List.length_append, List.length_replicate, Int.natCast_add, ih]
    rcases Nat.lt_or_ge k cs.length with hk | hk
    · have hx := List.getElem?_eq_getElem hk
      have := hc cs[k] (List.getElem_mem hk)
      rw [isum_take_succ hx, hx]
      simp; omega
    · have e1 := List.take_of_length_le (i := k + 1) (l := cs) (by omega)
      have e0 := List.take_of_length_le (i := k) (l := cs) hk
      rw [List.getElem?_eq_none hk, e1, e0]; simp
theorem sorted_mem (cs : List Int) (k : Nat) : ∀ x ∈ sorted cs k, 0 ≤ x ∧ x < k := by
  induction k with
  | zero => intro x hx; cases hx
  | succ k ih =>
    intro x hx
    simp only [sorted, List.mem_append] at hx
    rcases hx with h | h
    · have := ih x h; omega
    · have := List.eq_of_mem_replicate h; omega
theorem sorted_word {c : Int} {cs : List Int} (h : countRowOk c cs = true) : wordOk c (sorted cs cs.length) = true := by
  obtain ⟨h1, h2, h3, h4, h5⟩ := countRowOk_yes h
  have hl := sorted_len h4 cs.length
  rw [List.take_length] at hl
  exact wordOk_mk h1 h2 (by omega) (fun j x _ hx => by have := sorted_mem cs cs.length x (List.mem_of_getElem? hx); omega)

theorem sqSum_append (xs ys : List Int) : sqSum (xs ++ ys) = sqSum xs + sqSum ys := by
  induction xs with
  | nil => simp [sqSum]
  | cons x r ih => simp only [List.cons_append, sqSum, ih]; omega
theorem sqSum_take_succ {zs : List Int} {k : Nat} {x : Int} (h : zs[k]? = some x) : sqSum (zs.take (k + 1)) = sqSum (zs.take k) + x * x := by
  rw [take_succ h, sqSum_append]; simp [sqSum]
theorem sqSum_bounds {zs : List Int} (h : ∀ z ∈ zs, 0 ≤ z ∧ z ≤ 40) : 0 ≤ sqSum zs ∧ sqSum zs ≤ 1600 * zs.length := by
  induction zs with
  | nil => simp [sqSum]
  | cons z r ih =>
    have hz := h z (by simp)
    have h1 := mul_bound hz.1 hz.2 hz.1 hz.2
    have h2 := ih (fun y hy => h y (by simp [hy]))
    have e : (1600 : Int) * ((z :: r).length : Int) = 1600 * (r.length : Int) + 1600 := by rw [List.length_cons, Int.natCast_add]; omega
    rw [e]; simp only [sqSum]; omega
theorem sqSum_take {zs : List Int} (h : urnOk zs = true) (k : Nat) : 0 ≤ sqSum (zs.take k) ∧ sqSum (zs.take k) ≤ 4800 := by
  have h1 := sqSum_bounds (zs := zs.take k) (fun z hz => urnOk_mem h z (List.mem_of_mem_take hz))
  have h2 := urnOk_size h
  have h3 : (zs.take k).length ≤ zs.length := List.length_take_le' _ _
  omega
theorem sq_same (zs : List Int) : sqSum zs - sameSum zs = isum zs := by
  induction zs with
  | nil => rfl
  | cons z r ih =>
    simp only [sqSum, sameSum, isum]
    have : z * (z - 1) = z * z - z := by rw [Int.mul_sub, Int.mul_one]
    omega
theorem sq_nonneg (a : Int) : 0 ≤ a * a ∧ (a * a = 0 ↔ a = 0) := by
  refine ⟨?_, by rw [Int.mul_eq_zero]; omega⟩
  rcases Int.le_total 0 a with h | h
  · exact Int.mul_nonneg h h
  · have := Int.mul_nonneg (show 0 ≤ -a by omega) (show 0 ≤ -a by omega)
    rwa [Int.neg_mul_neg] at this
/-- All colours have as many as the first one. -/
def allFirst (zs : List Int) : Bool := zs.all (fun z => z == zs[0]?.getD 0)
theorem sq_least {zs : List Int} (hu : urnOk zs = true) : isum zs * isum zs ≤ sqSum zs * zs.length ∧ (sqSum zs * zs.length = isum zs * isum zs ↔ allFirst zs = true) := by
  have hs := urnOk_size hu
  have ex : ∀ a b : Int, (a - b) * (a - b) = a * a + b * b - 2 * (a * b) := fun a b => by
    rw [Int.sub_mul, Int.mul_sub, Int.mul_sub, Int.mul_comm b a]; omega
  match zs, hs with
  | [a], _ => simp [sqSum, isum, allFirst]
  | [a, b], _ =>
    obtain ⟨p1, p2⟩ := sq_nonneg (a - b)
    rw [ex] at p1 p2
    have e1 : isum [a, b] * isum [a, b] = a * a + b * b + 2 * (a * b) := by
      simp only [isum, Int.add_zero]
      rw [Int.add_mul, Int.mul_add, Int.mul_add, Int.mul_comm b a]; omega
    have e2 : sqSum [a, b] * ([a, b].length : Int) = 2 * (a * a) + 2 * (b * b) := by
      simp only [sqSum, List.length_cons, List.length_nil]
      rw [Int.mul_comm]; simp; omega
    rw [e1, e2]
    refine ⟨by omega, ?_⟩
    simp only [allFirst, List.all_cons, List.all_nil, List.getElem?_cons_zero, Option.getD_some, Bool.and_true, beq_self_eq_true, Bool.true_and, beq_iff_eq]
    constructor
    · intro h
      have := p2.1 (by omega)
      omega
    · intro h
      have := p2.2 (by omega)
      omega
  | [a, b, c], _ =>
    obtain ⟨p1, p2⟩ := sq_nonneg (a - b)
    obtain ⟨q1, q2⟩ := sq_nonneg (b - c)
    obtain ⟨r1, r2⟩ := sq_nonneg (a - c)
    rw [ex] at p1 p2 q1 q2 r1 r2
    have e1 : isum [a, b, c] * isum [a, b, c] = a * a + b * b + c * c + 2 * (a * b) + 2 * (b * c) + 2 * (a * c) := by
      simp only [isum, Int.add_zero]
      simp only [Int.add_mul, Int.mul_add, Int.mul_comm b a, Int.mul_comm c a, Int.mul_comm c b]; omega
    have e2 : sqSum [a, b, c] * ([a, b, c].length : Int) = 3 * (a * a) + 3 * (b * b) + 3 * (c * c) := by
      simp only [sqSum, List.length_cons, List.length_nil]
      rw [Int.mul_comm]; simp; omega
    rw [e1, e2]
    refine ⟨by omega, ?_⟩
    simp only [allFirst, List.all_cons, List.all_nil, List.getElem?_cons_zero, Option.getD_some, Bool.and_true, beq_self_eq_true, Bool.true_and, Bool.and_eq_true, beq_iff_eq]
    constructor
    · intro h
      have h1 := p2.1 (by omega)
      have h2 := r2.1 (by omega)
      omega
    · intro h
      have h1 := p2.2 (by omega)
      have h2 := r2.2 (by omega)
      have h3 := q2.2 (by omega)
      omega
/-- Two draws of one colour as counts. -/
theorem countWays_two {zs : List Int} {k : Nat} {z : Int} (hu : urnOk zs = true) (h : zs[k]? = some z) : countWays zs ((List.replicate zs.length 0).set k 2) = z * (z - 1) := by
  have hk := (List.getElem?_eq_some_iff.1 h).1
  have hs := urnOk_size hu
  have hz := urnOk_elem hu h
  have hrow : countRowOk (zs.length : Int) ((List.replicate zs.length 0).set k 2) = true := by
    have : ∀ n : Nat, n < 4 → 1 ≤ n → ∀ j : Nat, j < n → countRowOk (n : Int) ((List.replicate n 0).set j 2) = true := by decide
    exact this _ (by omega) hs.1 k hk
  have hm : mult ((List.replicate zs.length 0).set k 2) = 1 := by
    have : ∀ n : Nat, n < 4 → 1 ≤ n → ∀ j : Nat, j < n → mult ((List.replicate n 0).set j 2) = 1 := by decide
    exact this _ (by omega) hs.1 k hk
  rw [countWays_end hu hrow, hm, Int.one_mul, List.length_set, List.length_replicate, ← fall_two hz.1]
  have g : ∀ j, j ≤ zs.length → prodK zs ((List.replicate zs.length 0).set k 2) j = if k < j then fall z 2 else 1 := by
    intro j
    induction j with
    | zero => intro _; simp [prodK]
    | succ j ih =>
      intro hj
      simp only [prodK]
      rw [ih (by omega)]
      by_cases hkj : k = j
      · subst hkj
        rw [if_neg (by omega), if_pos (by omega), List.getElem?_set_self (by simpa using hk), h]; simp
      · have e : (List.replicate zs.length (0 : Int))[j]? = some 0 := by rw [List.getElem?_replicate, if_pos (by omega)]
        rw [List.getElem?_set_ne hkj, e]
        simp only [Option.getD_some]
        have e0 : fall (zs[j]?.getD 0) (0 : Int).toNat = 1 := rfl
        rw [e0, Int.mul_one]
        by_cases h1 : k < j
        · rw [if_pos h1, if_pos (by omega)]
        · rw [if_neg h1, if_neg (by omega)]
  rw [g _ (Nat.le_refl _), if_pos hk]
end Go.Proofs.Ytoafpokcbbncfaa

namespace Go.Proofs.Ytoafpokcbbncfaa
open Go.RowKit

/-- What stands in row k of a rule at place j. -/
def entOk (k j : Nat) (x : Int) : Bool := decide (0 ≤ x ∧ x ≤ 3) || (decide (x = -1) && decide (j = k))
def rowOkG (k : Nat) : Nat → List Int → Bool
  | _, [] => true
  | j, x :: r => entOk k j x && rowOkG k (j + 1) r
def rowsOkG (C : Nat) : Nat → List (List Int) → Bool
  | _, [] => true
  | k, l :: r => decide (l.length = C) && rowOkG k 0 l && rowsOkG C (k + 1) r
def ruleOk (c : Int) (rs : List (List Int)) : Bool := decide (1 ≤ c ∧ c ≤ 3) && decide ((rs.length : Int) = c) && rowsOkG c.toNat 0 rs
def startOk (zs : List Int) : Bool := urnOk zs && zs.all (fun z => decide (z ≤ 10))
def rowOf (rs : List (List Int)) (k : Nat) : List Int := rs[k]?.getD []

theorem rowOkG_yes {k j0 : Nat} {l : List Int} (h : rowOkG k j0 l = true) : ∀ j x, l[j]? = some x → (0 ≤ x ∧ x ≤ 3) ∨ (x = -1 ∧ j0 + j = k) := by
  induction l generalizing j0 with
  | nil => intro j x hx; simp at hx
  | cons y r ih =>
    simp only [rowOkG, Bool.and_eq_true] at h
    intro j x hx
    cases j with
    | zero =>
      simp at hx; subst hx
      have h1 := h.1
      simp only [entOk, Bool.or_eq_true, Bool.and_eq_true, decide_eq_true_eq] at h1
      exact h1
    | succ j =>
      have := ih h.2 j x (by simpa using hx)
      rcases this with h1 | h1
      · exact .inl h1
      · exact .inr ⟨h1.1, by omega⟩
theorem rowOkG_mk {k j0 : Nat} {l : List Int} (h : ∀ j x, l[j]? = some x → (0 ≤ x ∧ x ≤ 3) ∨ (x = -1 ∧ j0 + j = k)) : rowOkG k j0 l = true := by
  induction l generalizing j0 with
  | nil => rfl
  | cons y r ih =>
    simp only [rowOkG, Bool.and_eq_true]
    refine ⟨?_, ih fun j x hx => ?_⟩
    · have := h 0 y rfl
      simp only [entOk, Bool.or_eq_true, Bool.and_eq_true, decide_eq_true_eq]
      exact this
    · rcases h (j + 1) x (by simpa using hx) with h1 | h1
      · exact .inl h1
      · exact .inr ⟨h1.1, by omega⟩
theorem rowsOkG_yes {C k0 : Nat} {rs : List (List Int)} (h : rowsOkG C k0 rs = true) : ∀ (k : Nat) l, rs[k]? = some l → l.length = C ∧ rowOkG (k0 + k) 0 l = true := by
  induction rs generalizing k0 with
  | nil => intro k l hx; simp at hx
  | cons y r ih =>
    simp only [rowsOkG, Bool.and_eq_true, decide_eq_true_eq] at h
    intro k l hx
    cases k with
    | zero => simp at hx; subst hx; exact h.1
    | succ k =>
      have := ih h.2 k l (by simpa using hx)
      rw [show k0 + (k + 1) = k0 + 1 + k by omega]; exact this
theorem rowsOkG_mk {C k0 : Nat} {rs : List (List Int)} (h : ∀ (k : Nat) l, rs[k]? = some l → l.length = C ∧ rowOkG (k0 + k) 0 l = true) : rowsOkG C k0 rs = true := by
  induction rs generalizing k0 with
  | nil => rfl
  | cons y r ih =>
    simp only [rowsOkG, Bool.and_eq_true, decide_eq_true_eq]
    refine ⟨h 0 y rfl, ih fun k l hx => ?_⟩
    have := h (k + 1) l (by simpa using hx)
    rw [show k0 + 1 + k = k0 + (k + 1) by omega]; exact this
/-- A rule of C colours: each row has C numbers, 0 to 3, and -1 at most for the colour of the row itself. -/
structure Rule (C : Nat) (rs : List (List Int)) : Prop where
  pos : 1 ≤ C
  le : C ≤ 3
  len : rs.length = C
  rows : ∀ (k : Nat) l, rs[k]? = some l → l.length = C ∧ ∀ (j : Nat) x, l[j]? = some x → (0 ≤ x ∧ x ≤ 3) ∨ (x = -1 ∧ j = k)
theorem ruleOk_yes {c : Int} {rs : List (List Int)} (h : ruleOk c rs = true) : c = (c.toNat : Int) ∧ Rule c.toNat rs := by
  unfold ruleOk at h
  simp only [Bool.and_eq_true, decide_eq_true_eq] at h
  obtain ⟨⟨⟨h1, h2⟩, h3⟩, h4⟩ := h
  refine ⟨by omega, ⟨by omega, by omega, by omega, fun k l hl => ?_⟩⟩
  obtain ⟨e1, e2⟩ := rowsOkG_yes h4 k l hl
  exact ⟨e1, fun j x hx => by have := rowOkG_yes e2 j x hx; simpa using this⟩
theorem ruleOk_mk {C : Nat} {rs : List (List Int)} (h : Rule C rs) : ruleOk (C : Int) rs = true := by
  unfold ruleOk
  simp only [Bool.and_eq_true, decide_eq_true_eq]
  have h1 := h.pos; have h2 := h.le; have h3 := h.len
  refine ⟨⟨⟨by omega, by omega⟩, by omega⟩, ?_⟩
  rw [Int.toNat_natCast]
  refine rowsOkG_mk fun k l hl => ?_
  obtain ⟨e1, e2⟩ := h.rows k l hl
  exact ⟨e1, rowOkG_mk fun j x hx => by have := e2 j x hx; simpa using this⟩

/-- The ways of a word by a rule. -/
def rways (rs : List (List Int)) : List Int → List Int → Int
  | _, [] => 1
  | zs, x :: ws => max (ballsAt zs x) 0 * rways rs (addL zs (rowOf rs x.toNat)) ws
/-- All ways of m draws. -/
def rall (rs : List (List Int)) : Nat → List Int → Int
  | 0, _ => 1
  | m + 1, zs => nsum zs.length (fun c => max (zs[c]?.getD 0) 0 * rall rs m (addL zs (rowOf rs c)))
/-- Ways times the balls of a colour in the end. -/
def bsum (rs : List (List Int)) (col : Nat) : Nat → List Int → Int
  | 0, zs => zs[col]?.getD 0
  | m + 1, zs => nsum zs.length (fun c => max (zs[c]?.getD 0) 0 * bsum rs col m (addL zs (rowOf rs c)))
theorem rways_nonneg (rs : List (List Int)) (zs ws : List Int) : 0 ≤ rways rs zs ws := by
  induction ws generalizing zs with
  | nil => simp [rways]
  | cons x r ih => exact Int.mul_nonneg (by omega) (ih _)
theorem rowOf_len {C : Nat} {rs : List (List Int)} (h : Rule C rs) {c : Nat} (hc : c < C) : (rowOf rs c).length = C := by
  have hk := List.getElem?_eq_getElem (l := rs) (i := c) (by have := h.len; omega)
  unfold rowOf
  rw [hk]
  exact (h.rows c _ hk).1
theorem aft_len {C : Nat} {rs : List (List Int)} {zs : List Int} (h : Rule C rs) (hl : zs.length = C) {c : Nat} (hc : c < C) : (addL zs (rowOf rs c)).length = C := by
  rw [addL_len (by rw [hl, rowOf_len h hc]), hl]
/-- Each number stays in 0 to M + 3 if a ball of the colour was there. -/
theorem aft_mem {C : Nat} {rs : List (List Int)} {zs : List Int} {M z : Int} (h : Rule C rs) (hl : zs.length = C) {c : Nat} (hz : zs[c]? = some z) (h0 : 0 < z) (hm : ∀ y ∈ zs, 0 ≤ y ∧ y ≤ M) : ∀ y ∈ addL zs (rowOf rs c), 0 ≤ y ∧ y ≤ M + 3 := by
  have hc : c < C := by have := (List.getElem?_eq_some_iff.1 hz).1; omega
  intro y hy
  obtain ⟨j, hj, rfl⟩ := List.getElem_of_mem hy
  have hjl : j < C := by rw [aft_len h hl hc] at hj; exact hj
  have h1 := List.getElem?_eq_getElem (l := zs) (i := j) (by omega)
  have h2 := List.getElem?_eq_getElem (l := rowOf rs c) (i := j) (by rw [rowOf_len h hc]; exact hjl)
  have h3 := addL_at h1 h2
  rw [List.getElem?_eq_getElem hj] at h3
  injection h3 with h3
  rw [h3]
  have hb := hm zs[j] (List.getElem_mem _)
  obtain ⟨l, hk⟩ : ∃ l, rs[c]? = some l := ⟨_, List.getElem?_eq_getElem (by have := h.len; omega)⟩
  have hr := (h.rows c l hk).2 j _ (show l[j]? = some ((rowOf rs c)[j]'(by rw [rowOf_len h hc]; exact hjl)) by
    rw [← h2]; unfold rowOf; rw [hk]; rfl)
  rcases hr with hr | ⟨hr, hjc⟩
  · omega
  · subst hjc
    rw [h1] at hz
    injection hz with hz
    omega
theorem wsum_rways {C : Nat} {rs : List (List Int)} (h : Rule C rs) (m : Nat) (zs : List Int) (hl : zs.length = C) : wsum C m (rways rs zs) = rall rs m zs := by
  induction m generalizing zs with
  | zero => rfl
  | succ m ih =>
    simp only [wsum, rall]
    rw [hl]
    refine nsum_congr fun c hc => ?_
    have hk := List.getElem?_eq_getElem (l := zs) (i := c) (by omega)
    have hb : ballsAt zs (c : Int) = zs[c] := ballsAt_eq (by simp)
    have ec : ((c : Int)).toNat = c := by omega
    simp only [rways]
    rw [wsum_mul, hb, ec, hk, Option.getD_some, ih _ (aft_len h hl hc)]
/-- Row sums all alike. -/
def Even (C : Nat) (rs : List (List Int)) (e : Int) : Prop := ∀ c, c < C → isum (rowOf rs c) = e
def rprod (e : Int) : Nat → Int → Int
  | 0, _ => 1
  | m + 1, t => max t 0 * rprod e m (t + e)
theorem aft_sum {C : Nat} {rs : List (List Int)} {zs : List Int} {e : Int} (h : Rule C rs) (hl : zs.length = C) (he : Even C rs e) {c : Nat} (hc : c < C) : isum (addL zs (rowOf rs c)) = isum zs + e := by
  rw [isum_addL (by rw [hl, rowOf_len h hc]), he c hc]
theorem isum_nonneg {zs : List Int} (h : ∀ z ∈ zs, 0 ≤ z) : 0 ≤ isum zs := by
  induction zs with
  | nil => simp [isum]
  | cons z r ih => have := h z (by simp); have := ih (fun y hy => h y (by simp [hy])); simp only [isum]; omega
theorem rall_even {C : Nat} {rs : List (List Int)} {e : Int} (h : Rule C rs) (he : Even C rs e) (m : Nat) (zs : List Int) (M : Int) (hl : zs.length = C) (hm : ∀ y ∈ zs, 0 ≤ y ∧ y ≤ M) : rall rs m zs = rprod e m (isum zs) := by
  induction m generalizing zs M with
  | zero => rfl
  | succ m ih =>
    simp only [rall, rprod]
    have g : ∀ c, c < zs.length → max (zs[c]?.getD 0) 0 * rall rs m (addL zs (rowOf rs c)) = zs[c]?.getD 0 * rprod e m (isum zs + e) := by
      intro c hc
      have hk := List.getElem?_eq_getElem hc
      have hz := hm zs[c] (List.getElem_mem hc)
      rw [hk, Option.getD_some, Int.max_eq_left hz.1]
      rcases Int.lt_or_le 0 zs[c] with h0 | h0
      · rw [ih _ (M + 3) (aft_len h hl (by omega)) (aft_mem h hl hk h0 hm), aft_sum h hl he (by omega)]
      · have : zs[c] = 0 := by omega
        rw [this, Int.zero_mul, Int.zero_mul]
    rw [nsum_congr g, nsum_mulr, nsum_list, Int.max_eq_left (isum_nonneg fun z hz => (hm z hz).1)]
/-- Over all colours: all ways of one draw more. -/
theorem bsum_next {C : Nat} {rs : List (List Int)} (h : Rule C rs) (m : Nat) (zs : List Int) (M : Int) (hl : zs.length = C) (hm : ∀ y ∈ zs, 0 ≤ y ∧ y ≤ M) : nsum C (fun col => bsum rs col m zs) = rall rs (m + 1) zs := by
  induction m generalizing zs M with
  | zero =>
    simp only [bsum, rall]
    rw [hl]
    refine nsum_congr fun c hc => ?_
    have hk := List.getElem?_eq_getElem (l := zs) (i := c) (by omega)
    have hz := hm zs[c] (List.getElem_mem _)
    rw [hk, Option.getD_some, Int.max_eq_left hz.1, Int.mul_one]
  | succ m ih =>
    have e : nsum C (fun col => bsum rs col (m + 1) zs) = nsum C (fun c => nsum C (fun col => max (zs[c]?.getD 0) 0 * bsum rs col m (addL zs (rowOf rs c)))) := by
      rw [nsum_swap]
      exact nsum_congr fun col _ => by simp only [bsum]; rw [hl]
    rw [e]
    show _ = nsum zs.length (fun c => max (zs[c]?.getD 0) 0 * rall rs (m + 1) (addL zs (rowOf rs c)))
    rw [hl]
    refine nsum_congr fun c hc => ?_
    have hk := List.getElem?_eq_getElem (l := zs) (i := c) (by omega)
    have hz := hm zs[c] (List.getElem_mem _)
    rw [hk, Option.getD_some, nsum_mul]
    rcases Int.lt_or_le 0 zs[c] with h0 | h0
    · rw [ih _ (M + 3) (aft_len h hl hc) (aft_mem h hl hk h0 hm)]
    · rw [show max zs[c] 0 = 0 by omega, Int.zero_mul, Int.zero_mul]
theorem bsum_even {C : Nat} {rs : List (List Int)} {e : Int} (h : Rule C rs) (he : Even C rs e) (m : Nat) (zs : List Int) (M : Int) (hl : zs.length = C) (hm : ∀ y ∈ zs, 0 ≤ y ∧ y ≤ M) : nsum C (fun col => bsum rs col m zs) = (isum zs + m * e) * rall rs m zs := by
  induction m generalizing zs M with
  | zero =>
    simp only [bsum, rall]
    rw [← hl, nsum_list]; simp
  | succ m ih =>
    have e1 : nsum C (fun col => bsum rs col (m + 1) zs) = nsum C (fun c => nsum C (fun col => max (zs[c]?.getD 0) 0 * bsum rs col m (addL zs (rowOf rs c)))) := by
      rw [nsum_swap]
      exact nsum_congr fun col _ => by simp only [bsum]; rw [hl]
    rw [e1]
    simp only [rall]
    rw [hl, ← nsum_mul]
    refine nsum_congr fun c hc => ?_
    have hk := List.getElem?_eq_getElem (l := zs) (i := c) (by omega)
    have hz := hm zs[c] (List.getElem_mem _)
    rw [hk, Option.getD_some, nsum_mul]
    rcases Int.lt_or_le 0 zs[c] with h0 | h0
    · rw [ih _ (M + 3) (aft_len h hl hc) (aft_mem h hl hk h0 hm), aft_sum h hl he hc]
      have e2 : isum zs + e + (m : Int) * e = isum zs + ((m + 1 : Nat) : Int) * e := by rw [Int.natCast_add, Int.add_mul]; simp; omega
      rw [e2, Int.mul_left_comm]
    · rw [show max zs[c] 0 = 0 by omega, Int.zero_mul, Int.zero_mul, Int.mul_zero]
/-- The rule that puts in nothing. -/
def noRule (C : Nat) : List (List Int) := List.replicate C (List.replicate C 0)
/-- The rule that takes the drawn ball out. -/
def outRule (C : Nat) : List (List Int) := (List.range C).map (fun k => (List.replicate C 0).set k (-1))
theorem noRule_rule {C : Nat} (h1 : 1 ≤ C) (h3 : C ≤ 3) : Rule C (noRule C) := ⟨h1, h3, by simp [noRule], fun k l hl => by
  have hm := List.eq_of_mem_replicate (List.mem_of_getElem? hl)
  subst hm
  refine ⟨by simp, fun j x hx => ?_⟩
  have := List.eq_of_mem_replicate (List.mem_of_getElem? hx)
  omega⟩
theorem outRule_at {C k : Nat} (hk : k < C) : (outRule C)[k]? = some ((List.replicate C 0).set k (-1)) := by simp [outRule, hk]
theorem outRule_rule {C : Nat} (h1 : 1 ≤ C) (h3 : C ≤ 3) : Rule C (outRule C) := ⟨h1, h3, by simp [outRule], fun k l hl => by
  have hk : k < C := by have := (List.getElem?_eq_some_iff.1 hl).1; simpa [outRule] using this
  rw [outRule_at hk] at hl
  injection hl with hl
  subst hl
  refine ⟨by simp, fun j x hx => ?_⟩
  by_cases hjk : k = j
  · subst hjk
    rw [List.getElem?_set_self (by simpa using hk)] at hx
    injection hx with hx
    exact .inr ⟨hx.symm, rfl⟩
  · rw [List.getElem?_set_ne hjk] at hx
    have := List.eq_of_mem_replicate (List.mem_of_getElem? hx)
    omega⟩
theorem addL_zeros {zs : List Int} {n : Nat} (h : zs.length = n) : addL zs (List.replicate n 0) = zs := by
  apply List.ext_getElem?
  intro i
  rcases Nat.lt_or_ge i n with hi | hi
  · rw [addL_at (List.getElem?_eq_getElem (by omega)) (show (List.replicate n (0 : Int))[i]? = some 0 by rw [List.getElem?_replicate, if_pos hi]), List.getElem?_eq_getElem (by omega), Int.add_zero]
  · rw [List.getElem?_eq_none (by rw [addL_len (by simp [h])]; omega), List.getElem?_eq_none (by omega)]
theorem rways_no {C : Nat} {zs ws : List Int} (hl : zs.length = C) (hz : ∀ z ∈ zs, 0 ≤ z ∧ z ≤ 40) (hw : ∀ x ∈ ws, 0 ≤ x ∧ x < C) : rways (noRule C) zs ws = bw zs ws := by
  induction ws with
  | nil => rfl
  | cons x r ih =>
    have hx := hw x (by simp)
    have e : rowOf (noRule C) x.toNat = List.replicate C 0 := by
      unfold rowOf noRule
      rw [List.getElem?_replicate, if_pos (by omega)]; rfl
    simp only [rways, bw]
    rw [e, addL_zeros hl, ih (fun y hy => hw y (by simp [hy])), Int.max_eq_left (ballsAt_bounds hz (by decide) x).1]
theorem addL_out {C c : Nat} {zs : List Int} {z : Int} (hl : zs.length = C) (hz : zs[c]? = some z) : addL zs (rowOf (outRule C) c) = zs.set c (z - 1) := by
  have hc : c < C := by have := (List.getElem?_eq_some_iff.1 hz).1; omega
  have e : rowOf (outRule C) c = (List.replicate C 0).set c (-1) := by unfold rowOf; rw [outRule_at hc]; rfl
  rw [e]
  apply List.ext_getElem?
  intro i
  rcases Nat.lt_or_ge i C with hi | hi
  · have h1 := List.getElem?_eq_getElem (l := zs) (i := i) (by omega)
    by_cases hci : c = i
    · subst hci
      rw [addL_at h1 (List.getElem?_set_self (by simpa using hc)), List.getElem?_set_self (by omega)]
      rw [h1] at hz
      injection hz with hz
      rw [hz]; rfl
    · have h2 : ((List.replicate C (0 : Int)).set c (-1))[i]? = some 0 := by rw [List.getElem?_set_ne hci, List.getElem?_replicate, if_pos hi]
      rw [addL_at h1 h2, List.getElem?_set_ne hci, h1, Int.add_zero]
  · rw [List.getElem?_eq_none (by rw [addL_len (by simp [hl])]; omega), List.getElem?_eq_none (by rw [List.length_set]; omega)]
theorem rways_out {C : Nat} {zs ws : List Int} (hl : zs.length = C) (hw : ∀ x ∈ ws, 0 ≤ x ∧ x < C) : rways (outRule C) zs ws = ways zs ws := by
  induction ws generalizing zs with
  | nil => rfl
  | cons x r ih =>
    have hx := hw x (by simp)
    have hk := List.getElem?_eq_getElem (l := zs) (i := x.toNat) (by omega)
    simp only [rways, ways]
    rw [addL_out hl hk, ballsAt_eq hk, ih (by rw [List.length_set, hl]) (fun y hy => hw y (by simp [hy]))]

/-- What the draws of a word make of an urn. -/
def afterW (rs : List (List Int)) : List Int → List Int → Option (List Int)
  | zs, [] => some zs
  | zs, x :: ws => if ballsAt zs x < 1 then none else afterW rs (addL zs (rowOf rs x.toNat)) ws
theorem afterW_ways (rs : List (List Int)) (zs ws : List Int) : (afterW rs zs ws).isSome = true ↔ 0 < rways rs zs ws := by
  induction ws generalizing zs with
  | nil => simp [afterW, rways]
  | cons x r ih =>
    have e : rways rs zs (x :: r) = max (ballsAt zs x) 0 * rways rs (addL zs (rowOf rs x.toNat)) r := rfl
    rw [e]
    simp only [afterW]
    by_cases h : ballsAt zs x < 1
    · rw [if_pos h, show max (ballsAt zs x) 0 = 0 by omega, Int.zero_mul]; simp
    · rw [if_neg h, ih]
      have h2 := rways_nonneg rs (addL zs (rowOf rs x.toNat)) r
      rw [Int.max_eq_left (by omega)]
      constructor
      · intro h3
        exact Int.mul_pos (by omega) h3
      · intro h3
        rcases Int.lt_or_le 0 (rways rs (addL zs (rowOf rs x.toNat)) r) with h4 | h4
        · exact h4
        · have : rways rs (addL zs (rowOf rs x.toNat)) r = 0 := by omega
          rw [this, Int.mul_zero] at h3; omega
theorem afterW_good {C : Nat} {rs : List (List Int)} (h : Rule C rs) {zs ws us : List Int} {M : Int} (hl : zs.length = C) (hm : ∀ y ∈ zs, 0 ≤ y ∧ y ≤ M) (hw : ∀ x ∈ ws, 0 ≤ x ∧ x < C) (ha : afterW rs zs ws = some us) : us.length = C ∧ (∀ y ∈ us, 0 ≤ y ∧ y ≤ M + 3 * ws.length) ∧ ∀ e, Even C rs e → isum us = isum zs + e * ws.length := by
  induction ws generalizing zs M with
  | nil =>
    simp only [afterW, Option.some.injEq] at ha
    subst ha
    exact ⟨hl, by simpa using hm, fun e _ => by simp⟩
  | cons x r ih =>
    have hx := hw x (by simp)
    have hk := List.getElem?_eq_getElem (l := zs) (i := x.toNat) (by omega)
    have hb := ballsAt_eq hk
    simp only [afterW] at ha
    split at ha
    · cases ha
    · next h0 =>
      obtain ⟨e1, e2, e3⟩ := ih (aft_len h hl (by omega)) (aft_mem h hl hk (by omega) hm) (fun y hy => hw y (by simp [hy])) ha
      refine ⟨e1, fun y hy => ?_, fun e he => ?_⟩
      · have := e2 y hy
        rw [List.length_cons, Int.natCast_add]; omega
      · rw [e3 e he, aft_sum h hl he (by omega), List.length_cons, Int.natCast_add, Int.mul_add]; simp; omega
end Go.Proofs.Ytoafpokcbbncfaa

namespace Go.Proofs.Ytoafpokcbbncfaa
open Go.RowKit

def begun (zs : List Int) (rs : List (List Int)) : Bool := startOk zs && ruleOk (zs.length : Int) rs
def afterC (zs : List Int) (rs : List (List Int)) (ws : List Int) : Bool := begun zs rs && wordOk (zs.length : Int) ws
def afterL (zs : List Int) (rs : List (List Int)) (ws : List Int) : List Int := if afterC zs rs ws then (afterW rs zs ws).getD [] else []
def afterOk (zs : List Int) (rs : List (List Int)) (ws : List Int) : Bool := afterC zs rs ws && (afterW rs zs ws).isSome
def ruleWays (zs : List Int) (rs : List (List Int)) (ws : List Int) : Int := if afterC zs rs ws then rways rs zs ws else -1
def ruleAll (zs : List Int) (rs : List (List Int)) (m : Int) : Int := if begun zs rs && decide (0 ≤ m ∧ m ≤ 6) then rall rs m.toNat zs else -1
def evenB (rs : List (List Int)) : Bool := rs.all (fun l => decide (isum l = isum (rowOf rs 0)))
def evenOk (c : Int) (rs : List (List Int)) : Bool := ruleOk c rs && evenB rs
def evenN (c : Int) (rs : List (List Int)) : Int := if evenOk c rs then isum (rowOf rs 0) else 0
def ballSum (zs : List Int) (rs : List (List Int)) (m col : Int) : Int := if begun zs rs && decide (0 ≤ m ∧ m ≤ 6) && decide (0 ≤ col ∧ col < zs.length) then bsum rs col.toNat m.toNat zs else -1

theorem startOk_yes {zs : List Int} (h : startOk zs = true) : urnOk zs = true ∧ ∀ z ∈ zs, 0 ≤ z ∧ z ≤ 10 := by
  unfold startOk at h
  simp only [Bool.and_eq_true, List.all_eq_true, decide_eq_true_eq] at h
  exact ⟨h.1, fun z hz => ⟨(urnOk_mem h.1 z hz).1, h.2 z hz⟩⟩
theorem startOk_mk {zs : List Int} (h : urnOk zs = true) (h2 : ∀ z ∈ zs, z ≤ 10) : startOk zs = true := by
  unfold startOk
  simp only [Bool.and_eq_true, List.all_eq_true, decide_eq_true_eq]
  exact ⟨h, h2⟩
theorem startOk_bad {zs : List Int} {k : Nat} {x : Int} (h : zs[k]? = some x) (hx : 10 < x) : startOk zs = false := by
  rw [Bool.eq_false_iff]
  intro hh
  have := (startOk_yes hh).2 x (List.mem_of_getElem? h)
  omega
theorem begun_yes {zs : List Int} {rs : List (List Int)} (h : begun zs rs = true) : urnOk zs = true ∧ (∀ z ∈ zs, 0 ≤ z ∧ z ≤ 10) ∧ Rule zs.length rs := by
  unfold begun at h
  simp only [Bool.and_eq_true] at h
  have h1 := startOk_yes h.1
  have h2 := (ruleOk_yes h.2).2
  rw [Int.toNat_natCast] at h2
  exact ⟨h1.1, h1.2, h2⟩
theorem afterC_yes {zs : List Int} {rs : List (List Int)} {ws : List Int} (h : afterC zs rs ws = true) : urnOk zs = true ∧ (∀ z ∈ zs, 0 ≤ z ∧ z ≤ 10) ∧ Rule zs.length rs ∧ ws.length ≤ 6 ∧ ∀ x ∈ ws, 0 ≤ x ∧ x < zs.length := by
  unfold afterC at h
  simp only [Bool.and_eq_true] at h
  obtain ⟨h1, h2, h3⟩ := begun_yes h.1
  obtain ⟨k1, k2, k3, k4⟩ := wordOk_yes h.2
  exact ⟨h1, h2, h3, by omega, k4⟩
theorem afterW_append (rs : List (List Int)) (zs a b : List Int) : afterW rs zs (a ++ b) = (afterW rs zs a).bind fun us => afterW rs us b := by
  induction a generalizing zs with
  | nil => rfl
  | cons x r ih =>
    simp only [List.cons_append, afterW]
    split
    · rfl
    · exact ih _
theorem rways_append {rs : List (List Int)} {zs a us : List Int} (b : List Int) (h : afterW rs zs a = some us) : rways rs zs (a ++ b) = rways rs zs a * rways rs us b := by
  induction a generalizing zs with
  | nil =>
    simp only [afterW, Option.some.injEq] at h
    subst h
    simp [rways]
  | cons x r ih =>
    simp only [afterW] at h
    split at h
    · cases h
    · simp only [List.cons_append, rways]
      rw [ih h, Int.mul_assoc]
theorem rways_none {rs : List (List Int)} {zs ws : List Int} (h : afterW rs zs ws = none) : rways rs zs ws = 0 := by
  have h1 := (afterW_ways rs zs ws)
  have h2 := rways_nonneg rs zs ws
  rw [h] at h1
  rcases Int.lt_or_le 0 (rways rs zs ws) with h3 | h3
  · have := h1.2 h3; cases this
  · omega
theorem rways_some {rs : List (List Int)} {zs ws us : List Int} (h : afterW rs zs ws = some us) : 0 < rways rs zs ws := (afterW_ways rs zs ws).1 (by rw [h]; rfl)
/-- One draw more behind the first k ones. -/
theorem afterW_step {rs : List (List Int)} {zs ws us : List Int} {k : Nat} {x : Int} (h : afterW rs zs (ws.take k) = some us) (hx : ws[k]? = some x) :
    (ballsAt us x < 1 → afterW rs zs ws = none ∧ afterW rs zs (ws.take (k + 1)) = none) ∧
    (¬ ballsAt us x < 1 → afterW rs zs (ws.take (k + 1)) = some (addL us (rowOf rs x.toNat)) ∧ rways rs zs (ws.take (k + 1)) = rways rs zs (ws.take k) * ballsAt us x) := by
  have e : ws = ws.take k ++ (x :: ws.drop (k + 1)) := by
    have hk := (List.getElem?_eq_some_iff.1 hx).1
    have := List.take_append_drop k ws
    rw [List.drop_eq_getElem_cons hk] at this
    have hg : ws[k] = x := (List.getElem?_eq_some_iff.1 hx).2
    rw [hg] at this
    exact this.symm
  refine ⟨fun hb => ⟨?_, ?_⟩, fun hb => ⟨?_, ?_⟩⟩
  · rw [e, afterW_append, h]
    simp only [Option.bind_some, afterW, if_pos hb]
  · rw [take_succ hx, afterW_append, h]
    simp only [Option.bind_some, afterW, if_pos hb]
  · rw [take_succ hx, afterW_append, h]
    simp only [Option.bind_some, afterW, if_neg hb]
  · rw [take_succ hx, rways_append _ h]
    simp only [rways]
    rw [Int.mul_one, Int.max_eq_left (by omega)]
/-- The urn behind the first k draws. -/
theorem afterW_take {C : Nat} {rs : List (List Int)} (h : Rule C rs) {zs ws us : List Int} (hl : zs.length = C) (hm : ∀ y ∈ zs, 0 ≤ y ∧ y ≤ 10) (hw : ∀ x ∈ ws, 0 ≤ x ∧ x < C) (h6 : ws.length ≤ 6) {k : Nat} (ha : afterW rs zs (ws.take k) = some us) : us.length = C ∧ ∀ y ∈ us, 0 ≤ y ∧ y ≤ 28 := by
  obtain ⟨e1, e2, _⟩ := afterW_good h hl hm (fun x hx => hw x (List.mem_of_mem_take hx)) ha
  refine ⟨e1, fun y hy => ?_⟩
  have := e2 y hy
  have h2 : (ws.take k).length ≤ ws.length := List.length_take_le' _ _
  omega
theorem pow28 (k : Nat) (h : k ≤ 6) : (28 : Int) ^ k ≤ 481890304 := by
  match k, h with
  | 0, _ | 1, _ | 2, _ | 3, _ | 4, _ | 5, _ | 6, _ => decide
theorem pow84 (k : Nat) (h : k ≤ 6) : (84 : Int) ^ k ≤ 351298031616 := by
  match k, h with
  | 0, _ | 1, _ | 2, _ | 3, _ | 4, _ | 5, _ | 6, _ => decide
theorem rways_bound {C : Nat} {rs : List (List Int)} (h : Rule C rs) {zs ws : List Int} {M : Int} (hl : zs.length = C) (hm : ∀ y ∈ zs, 0 ≤ y ∧ y ≤ M) (hw : ∀ x ∈ ws, 0 ≤ x ∧ x < C) (hM : M + 3 * ws.length ≤ 28) : rways rs zs ws ≤ 28 ^ ws.length := by
  induction ws generalizing zs M with
  | nil => simp [rways]
  | cons x r ih =>
    have hx := hw x (by simp)
    have hk := List.getElem?_eq_getElem (l := zs) (i := x.toNat) (by omega)
    have hb := ballsAt_eq hk
    have hz := hm zs[x.toNat] (List.getElem_mem _)
    rw [List.length_cons] at hM ⊢
    simp only [rways]
    rw [hb, Int.max_eq_left hz.1, Int.pow_succ, Int.mul_comm (28 ^ r.length)]
    rcases Int.lt_or_le 0 zs[x.toNat] with h0 | h0
    · exact Int.mul_le_mul (by omega) (ih (aft_len h hl (by omega)) (aft_mem h hl hk h0 hm) (fun y hy => hw y (by simp [hy])) (by rw [Int.natCast_add] at hM; omega)) (rways_nonneg _ _ _) (by decide)
    · have : zs[x.toNat] = 0 := by omega
      rw [this, Int.zero_mul]
      exact Int.mul_nonneg (by decide) (Int.pow_nonneg (by decide))
theorem nsum_le {n C : Nat} {f : Nat → Int} {B : Int} (hn : n ≤ C) (hB : 0 ≤ B) (h : ∀ k, k < C → 0 ≤ f k ∧ f k ≤ B) : 0 ≤ nsum n f ∧ nsum n f ≤ C * B := by
  have h1 := nsum_bounds (n := n) (f := f) (M := B) (fun q hq => h q (by omega))
  refine ⟨h1.1, Int.le_trans h1.2 ?_⟩
  rw [Int.mul_comm]
  exact Int.mul_le_mul_of_nonneg_right (show (n : Int) ≤ C by omega) hB
theorem rall_nonneg (rs : List (List Int)) (m : Nat) (zs : List Int) : 0 ≤ rall rs m zs := by
  induction m generalizing zs with
  | zero => simp [rall]
  | succ m ih =>
    simp only [rall]
    have : ∀ n (f : Nat → Int), (∀ k, 0 ≤ f k) → 0 ≤ nsum n f := fun n f hf => by
      induction n with
      | zero => simp [nsum]
      | succ n ihn => have := hf n; simp only [nsum]; omega
    exact this _ _ fun k => Int.mul_nonneg (by omega) (ih _)
/-- One way of one draw more: by a colour that is there, or nothing. -/
theorem way_bound {C m : Nat} {rs : List (List Int)} (h : Rule C rs) {zs : List Int} {M : Int} {P : Int} {F : List Int → Int} (hP : 0 ≤ P) (hl : zs.length = C) (hm : ∀ y ∈ zs, 0 ≤ y ∧ y ≤ M) (hM : M + 3 * ((m + 1 : Nat) : Int) ≤ 28)
    (ih : ∀ us : List Int, us.length = C → (∀ y ∈ us, 0 ≤ y ∧ y ≤ M + 3) → 0 ≤ F us ∧ F us ≤ P) {c : Nat} (hc : c < C) : 0 ≤ max (zs[c]?.getD 0) 0 * F (addL zs (rowOf rs c)) ∧ max (zs[c]?.getD 0) 0 * F (addL zs (rowOf rs c)) ≤ 28 * P := by
  have hk := List.getElem?_eq_getElem (l := zs) (i := c) (by omega)
  have hz := hm zs[c] (List.getElem_mem _)
  rw [hk, Option.getD_some, Int.max_eq_left hz.1]
  rcases Int.lt_or_le 0 zs[c] with h0 | h0
  · obtain ⟨b0, b1⟩ := ih _ (aft_len h hl hc) (aft_mem h hl hk h0 hm)
    exact ⟨Int.mul_nonneg hz.1 b0, Int.mul_le_mul (by omega) b1 b0 (by decide)⟩
  · have e : zs[c] = 0 := by omega
    rw [e, Int.zero_mul]
    exact ⟨Int.le_refl _, Int.mul_nonneg (by decide) hP⟩
theorem p84 (m : Nat) : (0 : Int) ≤ 84 ^ m := Int.pow_nonneg (by decide)
theorem rall_bound {C : Nat} {rs : List (List Int)} (h : Rule C rs) (m : Nat) {zs : List Int} {M : Int} (hl : zs.length = C) (hm : ∀ y ∈ zs, 0 ≤ y ∧ y ≤ M) (hM : M + 3 * (m : Int) ≤ 28) : 0 ≤ rall rs m zs ∧ rall rs m zs ≤ 84 ^ m := by
  induction m generalizing zs M with
  | zero => simp [rall]
  | succ m ih =>
    have hw : ∀ c, c < C → _ := fun c hc => way_bound (m := m) (F := rall rs m) h (p84 m) hl hm hM (fun us h1 h2 => ih h1 h2 (by rw [Int.natCast_add] at hM; omega)) hc
    have hs := nsum_le (n := zs.length) (C := C) (B := 28 * 84 ^ m) (by omega) (Int.mul_nonneg (by decide) (p84 m)) hw
    simp only [rall]
    refine ⟨hs.1, Int.le_trans hs.2 ?_⟩
    rw [Int.pow_succ, Int.mul_comm (84 ^ m)]
    have h3 := h.le
    have := Int.mul_le_mul_of_nonneg_right (show (C : Int) ≤ 3 by omega) (Int.mul_nonneg (show (0 : Int) ≤ 28 by decide) (p84 m))
    omega
theorem bsum_bound {C : Nat} {rs : List (List Int)} (h : Rule C rs) (col : Nat) (m : Nat) {zs : List Int} {M : Int} (hl : zs.length = C) (hm : ∀ y ∈ zs, 0 ≤ y ∧ y ≤ M) (hM : M + 3 * (m : Int) ≤ 28) : 0 ≤ bsum rs col m zs ∧ bsum rs col m zs ≤ 28 * 84 ^ m := by
  induction m generalizing zs M with
  | zero =>
    simp only [bsum, Int.pow_zero, Int.mul_one]
    rcases Nat.lt_or_ge col zs.length with hc | hc
    · rw [List.getElem?_eq_getElem hc, Option.getD_some]
      have := hm zs[col] (List.getElem_mem _)
      omega
    · rw [List.getElem?_eq_none hc]; decide
  | succ m ih =>
    have hw : ∀ c, c < C → _ := fun c hc => way_bound (m := m) (F := bsum rs col m) h (Int.mul_nonneg (by decide) (p84 m)) hl hm hM (fun us h1 h2 => ih h1 h2 (by rw [Int.natCast_add] at hM; omega)) hc
    have hs := nsum_le (n := zs.length) (C := C) (B := 28 * (28 * 84 ^ m)) (by omega) (Int.mul_nonneg (by decide) (Int.mul_nonneg (by decide) (p84 m))) hw
    simp only [bsum]
    refine ⟨hs.1, Int.le_trans hs.2 ?_⟩
    rw [Int.pow_succ, Int.mul_comm (84 ^ m)]
    have h3 := h.le
    have h4 := p84 m
    have := Int.mul_le_mul_of_nonneg_right (show (C : Int) ≤ 3 by omega) (Int.mul_nonneg (show (0 : Int) ≤ 28 by decide) (Int.mul_nonneg (show (0 : Int) ≤ 28 by decide) h4))
    omega
theorem evenB_yes {rs : List (List Int)} (h : evenB rs = true) : ∀ (k : Nat) l, rs[k]? = some l → isum l = isum (rowOf rs 0) := fun k l hl => by
  unfold evenB at h
  simp only [List.all_eq_true, decide_eq_true_eq] at h
  exact h l (List.mem_of_getElem? hl)
theorem evenB_mk {rs : List (List Int)} (h : ∀ (k : Nat) l, k < rs.length → rs[k]? = some l → isum l = isum (rowOf rs 0)) : evenB rs = true := by
  unfold evenB
  simp only [List.all_eq_true, decide_eq_true_eq]
  intro l hl
  obtain ⟨j, hj, rfl⟩ := List.getElem_of_mem hl
  exact h j _ hj (List.getElem?_eq_getElem hj)
theorem evenB_bad {rs : List (List Int)} {k : Nat} {l : List Int} (hl : rs[k]? = some l) (h : isum l ≠ isum (rowOf rs 0)) : evenB rs = false := by
  rw [Bool.eq_false_iff]
  exact fun hh => h (evenB_yes hh k l hl)
theorem even_of {c : Int} {rs : List (List Int)} (h : evenOk c rs = true) : Even c.toNat rs (isum (rowOf rs 0)) := by
  unfold evenOk at h
  simp only [Bool.and_eq_true] at h
  have h2 := (ruleOk_yes h.1).2
  intro k hk
  have hl := List.getElem?_eq_getElem (l := rs) (i := k) (by have := h2.len; omega)
  have := evenB_yes h.2 k _ hl
  unfold rowOf
  rw [hl]
  exact this
theorem row_sum {C : Nat} {rs : List (List Int)} (h : Rule C rs) {k : Nat} {l : List Int} (hl : rs[k]? = some l) : l.length = C ∧ (∀ x ∈ l, -1 ≤ x ∧ x ≤ 3) ∧ -1 ≤ isum l ∧ isum l ≤ 9 := by
  obtain ⟨e1, e2⟩ := h.rows k l hl
  have hm : ∀ x ∈ l, -1 ≤ x ∧ x ≤ 3 := fun x hx => by
    obtain ⟨j, hj, rfl⟩ := List.getElem_of_mem hx
    rcases e2 j _ (List.getElem?_eq_getElem hj) with h1 | h1 <;> omega
  refine ⟨e1, hm, ?_⟩
  have h1 := h.pos; have h3 := h.le
  have hk : k < C := by have := (List.getElem?_eq_some_iff.1 hl).1; have := h.len; omega
  have q : ∀ (j : Nat) x, l[j]? = some x → (0 ≤ x ∧ x ≤ 3) ∨ (x = -1 ∧ j = k) := e2
  match l, e1 with
  | [a], e1 => have a0 := q 0 a rfl; simp only [isum, List.length_cons, List.length_nil] at *; omega
  | [a, b], e1 => have a0 := q 0 a rfl; have b0 := q 1 b rfl; simp only [isum]; omega
  | [a, b, c], e1 => have a0 := q 0 a rfl; have b0 := q 1 b rfl; have c0 := q 2 c rfl; simp only [isum]; omega
  | [], e1 => simp at e1; omega
  | _ :: _ :: _ :: _ :: _, e1 => simp at e1; omega
end Go.Proofs.Ytoafpokcbbncfaa

namespace Go.Proofs.Ytoafpokcbbncfaa
open Go.RowKit

def stepB (s : Int) : Bool := decide (-1 ≤ s ∧ s ≤ 3)
/-- The product of m numbers that rise by s, from z on; 0 for those below 0. -/
def ris (s : Int) : Int → Nat → Int
  | _, 0 => 1
  | z, m + 1 => max z 0 * ris s (z + s) m
def sameR (C : Nat) (s : Int) : List (List Int) := (List.range C).map (fun k => (List.replicate C 0).set k s)
def sameRule (c s : Int) : List (List Int) := if decide (1 ≤ c ∧ c ≤ 3) && stepB s then sameR c.toNat s else []
def risingOf (z m s : Int) : Int := if decide (0 ≤ z ∧ z ≤ 40) && decide (0 ≤ m ∧ m ≤ 6) && stepB s then ris s z m.toNat else -1
def risK (s : Int) (zs cs : List Int) : Nat → Int
  | 0 => 1
  | k + 1 => risK s zs cs k * ris s (zs[k]?.getD 0) (cs[k]?.getD 0).toNat
def sameCounts (zs : List Int) (s : Int) (cs : List Int) : Int := if startOk zs && countRowOk zs.length cs && stepB s then mult cs * risK s zs cs cs.length else -1
def shareSum (zs : List Int) (s m col : Int) : Int := if startOk zs && stepB s && decide (0 ≤ m ∧ m ≤ 6) && decide (0 ≤ col ∧ col < zs.length) then bsum (sameR zs.length s) col.toNat m.toNat zs else -1

theorem stepB_yes {s : Int} (h : stepB s = true) : -1 ≤ s ∧ s ≤ 3 := by simpa [stepB] using h
theorem stepB_mk {s : Int} (h : -1 ≤ s ∧ s ≤ 3) : stepB s = true := by simpa [stepB] using h
theorem stepB_no {s : Int} (h : ¬(-1 ≤ s ∧ s ≤ 3)) : stepB s = false := decide_eq_false h

/-! The rule. -/
theorem sameR_len (C : Nat) (s : Int) : (sameR C s).length = C := by simp [sameR]
theorem sameR_at {C k : Nat} {s : Int} (hk : k < C) : (sameR C s)[k]? = some ((List.replicate C 0).set k s) := by simp [sameR, hk]
theorem sameR_rowOf {C k : Nat} {s : Int} (hk : k < C) : rowOf (sameR C s) k = (List.replicate C 0).set k s := by unfold rowOf; rw [sameR_at hk]; rfl
theorem sameR_rule {C : Nat} {s : Int} (h1 : 1 ≤ C) (h3 : C ≤ 3) (hs : -1 ≤ s ∧ s ≤ 3) : Rule C (sameR C s) := ⟨h1, h3, sameR_len C s, fun k l hl => by
  have hk : k < C := by have := (List.getElem?_eq_some_iff.1 hl).1; rwa [sameR_len] at this
  rw [sameR_at hk] at hl
  injection hl with hl
  subst hl
  refine ⟨by simp, fun j x hx => ?_⟩
  by_cases hjk : k = j
  · subst hjk
    rw [List.getElem?_set_self (by simpa using hk)] at hx
    injection hx with hx
    subst hx
    rcases Int.lt_or_le s 0 with h | h
    · exact .inr ⟨by omega, rfl⟩
    · exact .inl ⟨h, hs.2⟩
  · rw [List.getElem?_set_ne hjk] at hx
    have := List.eq_of_mem_replicate (List.mem_of_getElem? hx)
    omega⟩
theorem isum_replicate0 (C : Nat) : isum (List.replicate C 0) = 0 := by
  induction C with
  | zero => rfl
  | succ C ih => rw [List.replicate_succ]; simp only [isum]; omega
theorem sameR_even (C : Nat) (s : Int) : Even C (sameR C s) s := fun c hc => by
  rw [sameR_rowOf hc, isum_set (show (List.replicate C (0 : Int))[c]? = some 0 by simp [hc]), isum_replicate0]; omega
theorem addL_same {C c : Nat} {zs : List Int} {z s : Int} (hl : zs.length = C) (hz : zs[c]? = some z) : addL zs (rowOf (sameR C s) c) = zs.set c (z + s) := by
  have hc : c < C := by have := (List.getElem?_eq_some_iff.1 hz).1; omega
  rw [sameR_rowOf hc]
  apply List.ext_getElem?
  intro i
  rcases Nat.lt_or_ge i C with hi | hi
  · have h1 := List.getElem?_eq_getElem (l := zs) (i := i) (by omega)
    by_cases hci : c = i
    · subst hci
      rw [addL_at h1 (List.getElem?_set_self (by simpa using hc)), List.getElem?_set_self (by omega)]
      rw [h1] at hz
      injection hz with hz
      rw [hz]
    · have h2 : ((List.replicate C (0 : Int)).set c s)[i]? = some 0 := by rw [List.getElem?_set_ne hci, List.getElem?_replicate, if_pos hi]
      rw [addL_at h1 h2, List.getElem?_set_ne hci, h1, Int.add_zero]
  · rw [List.getElem?_eq_none (by rw [addL_len (by simp [hl])]; omega), List.getElem?_eq_none (by rw [List.length_set]; omega)]
theorem sameR_out (C : Nat) : sameR C (-1) = outRule C := rfl

/-! Rising products. -/
theorem ris_nonneg (s z : Int) (m : Nat) : 0 ≤ ris s z m := by
  induction m generalizing z with
  | zero => simp [ris]
  | succ m ih => exact Int.mul_nonneg (by omega) (ih _)
theorem ris_add (s z : Int) (a b : Nat) : ris s z (a + b) = ris s z a * ris s (z + a * s) b := by
  induction a generalizing z with
  | zero => simp [ris]
  | succ a ih =>
    rw [show a + 1 + b = (a + b) + 1 by omega]
    simp only [ris]
    rw [ih, Int.mul_assoc]
    congr 3
    rw [Int.natCast_add, Int.add_mul]; simp; omega
theorem ris_snoc (s z : Int) (k : Nat) : ris s z (k + 1) = ris s z k * max (z + k * s) 0 := by rw [ris_add]; simp [ris]
theorem ris_pow {z : Int} (h : 0 ≤ z) (m : Nat) : ris 0 z m = z ^ m := by
  induction m with
  | zero => simp [ris]
  | succ m ih => simp only [ris]; rw [Int.add_zero, ih, Int.max_eq_left h, Int.pow_succ, Int.mul_comm]
theorem ris_fall (z : Int) (m : Nat) : ris (-1) z m = fall z m := by
  induction m generalizing z with
  | zero => rfl
  | succ m ih => simp only [ris, fall]; rw [ih]; rfl
theorem ris_le {s z M B : Int} (hs : s ≤ 3) (hB : 0 ≤ B) {m : Nat} (hz : z ≤ M) (hM : M + 3 * (m : Int) ≤ B + 3) : ris s z m ≤ B ^ m := by
  induction m generalizing z M with
  | zero => simp [ris]
  | succ m ih =>
    simp only [ris]
    rw [Int.natCast_add] at hM
    have h1 := ih (z := z + s) (M := M + 3) (by omega) (by omega)
    rw [Int.pow_succ, Int.mul_comm (B ^ m)]
    exact Int.mul_le_mul (by omega) h1 (ris_nonneg _ _ _) hB
theorem pow58 (m : Nat) (h : m ≤ 6) : (58 : Int) ^ m ≤ 38068692544 := by
  match m, h with
  | 0, _ | 1, _ | 2, _ | 3, _ | 4, _ | 5, _ | 6, _ => decide
theorem ris_bound {s z : Int} {m : Nat} (hs : s ≤ 3) (hz : z ≤ 40) (hm : m ≤ 6) : 0 ≤ ris s z m ∧ ris s z m ≤ 38068692544 :=
  ⟨ris_nonneg _ _ _, Int.le_trans (ris_le (M := 40) (B := 58) hs (by decide) hz (by omega)) (pow58 m hm)⟩

/-! Products over the colours. -/
def risF (s : Int) : List Int → (Nat → Nat) → Int
  | [], _ => 1
  | z :: r, f => ris s z (f 0) * risF s r (fun i => f (i + 1))
theorem risF_bump (s : Int) (zs : List Int) (f : Nat → Nat) (k : Nat) (z : Int) (h : zs[k]? = some z) : max z 0 * risF s (zs.set k (z + s)) f = risF s zs (bump f k) := by
  induction zs generalizing k f with
  | nil => simp at h
  | cons y r ih =>
    cases k with
    | zero =>
      simp at h
      subst h
      have e : (fun i => bump f 0 (i + 1)) = fun i => f (i + 1) := by funext i; simp [bump]
      simp only [List.set_cons_zero, risF, e]
      rw [show bump f 0 0 = f 0 + 1 from by simp [bump]]
      simp only [ris, Int.mul_assoc]
    | succ k =>
      have h1 := ih (fun i => f (i + 1)) k (by simpa using h)
      have e : (fun i => bump f (k + 1) (i + 1)) = bump (fun i => f (i + 1)) k := by funext i; simp [bump]
      simp only [List.set_cons_succ, risF, e]
      rw [show bump f (k + 1) 0 = f 0 from by simp [bump], ← h1, Int.mul_left_comm]
theorem rways_risF {C : Nat} (s : Int) (zs ws : List Int) (hl : zs.length = C) (h : ∀ x ∈ ws, 0 ≤ x ∧ x < C) : rways (sameR C s) zs ws = risF s zs (fun i => ws.count (i : Int)) := by
  induction ws generalizing zs with
  | nil =>
    have : ∀ zs : List Int, risF s zs (fun _ => 0) = 1 := by
      intro zs
      induction zs with
      | nil => rfl
      | cons z r ih => simp [risF, ris, ih]
    simp [rways, this]
  | cons x r ih =>
    have hx := h x (by simp)
    have hk := List.getElem?_eq_getElem (l := zs) (i := x.toNat) (by omega)
    have hb := ballsAt_eq hk
    have h2 := ih (zs.set x.toNat (zs[x.toNat] + s)) (by rw [List.length_set]; exact hl) (fun y hy => h y (by simp [hy]))
    have e : (fun i : Nat => (x :: r).count (i : Int)) = bump (fun i => r.count (i : Int)) x.toNat := by
      funext i
      rw [List.count_cons]
      unfold bump
      by_cases hi : i = x.toNat
      · rw [if_pos hi, if_pos (by simp; omega)]
      · rw [if_neg hi, if_neg (by simp; omega)]; rfl
    simp only [rways]
    rw [addL_same hl hk, h2, e, hb]
    exact risF_bump s zs _ _ _ hk
theorem risK_risF (s : Int) (zs cs : List Int) (f : Nat → Nat) (h : ∀ k, k < zs.length → (cs[k]?.getD 0).toNat = f k) : risK s zs cs zs.length = risF s zs f := by
  have g : ∀ (k : Nat), k ≤ zs.length → risK s zs cs k = risF s (zs.take k) f := by
    intro k
    induction k with
    | zero => intro _; rfl
    | succ k ih =>
      intro hk
      have hx := List.getElem?_eq_getElem (l := zs) (i := k) (by omega)
      have ap : ∀ (l : List Int) (x : Int) (f : Nat → Nat), risF s (l ++ [x]) f = risF s l f * ris s x (f l.length) := by
        intro l x
        induction l with
        | nil => intro f; simp [risF]
        | cons y r ih2 => intro f; simp only [List.cons_append, risF, ih2, List.length_cons, Int.mul_assoc]
      rw [take_succ hx, ap, List.length_take, Nat.min_eq_left (by omega)]
      simp only [risK]
      rw [ih (by omega), hx, h k (by omega)]; rfl
  have := g zs.length (Nat.le_refl _)
  rwa [List.take_length] at this
/-- The ways of a word by its counts. -/
theorem rways_same {C : Nat} {s : Int} {zs ws : List Int} (hl : zs.length = C) (h : ∀ x ∈ ws, 0 ≤ x ∧ x < C) : rways (sameR C s) zs ws = risK s zs (cntL C ws) C := by
  rw [rways_risF s zs ws hl h, ← hl]
  refine (risK_risF s zs _ _ fun k hk => ?_).symm
  rw [cntL_at _ _ _ hk]; simp
theorem wsum_same {C : Nat} {s : Int} {zs cs : List Int} (m : Nat) (hl : zs.length = C) (h : countRowOk (C : Int) cs = true) (hs : isum cs = m) : wsum C m (fun ws => if cntL C ws = cs then rways (sameR C s) zs ws else 0) = mult cs * risK s zs cs cs.length := by
  have hlc : cs.length = C := by have := (countRowOk_yes h).2.2.1; omega
  rw [← wsum_count m cs h hs, Int.mul_comm, ← wsum_mul]
  refine wsum_congr fun ws _ hw => ?_
  by_cases e : cntL C ws = cs
  · rw [if_pos e, if_pos e, rways_same hl hw, e, hlc, Int.mul_one]
  · rw [if_neg e, if_neg e, Int.mul_zero]
/-- All counts of m draws have all ways. -/
theorem rows_same {C : Nat} {s : Int} {zs : List Int} (m : Nat) (hl : zs.length = C) (hC : 1 ≤ C) (hC3 : C ≤ 3) (hs : -1 ≤ s ∧ s ≤ 3) (hm : m ≤ 6) :
    nsum ((m + 1) ^ C) (fun k => if isum (digs (m + 1) C k) = m then mult (digs (m + 1) C k) * risK s zs (digs (m + 1) C k) (digs (m + 1) C k).length else 0) = rall (sameR C s) m zs := by
  have e1 : ∀ k, k < (m + 1) ^ C → (if isum (digs (m + 1) C k) = m then mult (digs (m + 1) C k) * risK s zs (digs (m + 1) C k) (digs (m + 1) C k).length else 0) = wsum C m (fun ws => if cntL C ws = digs (m + 1) C k then rways (sameR C s) zs ws else 0) := by
    intro k _
    by_cases h : isum (digs (m + 1) C k) = m
    · rw [if_pos h]; exact (wsum_same m hl (digs_row hC hC3 hm h) h).symm
    · rw [if_neg h]
      refine (Eq.trans (wsum_congr (h := fun _ => 0) fun ws hlw hw => if_neg fun e => ?_) (wsum_zero _ _)).symm
      rw [← e, isum_cntL ws hw, hlw] at h
      exact h rfl
  rw [nsum_congr e1, ← wsum_nsum, ← wsum_rways (sameR_rule hC hC3 hs) m zs hl]
  refine wsum_congr fun ws hlw hw => ?_
  rw [nsum_digs (C := m + 1) (by omega) C (fun l => if cntL C ws = l then rways (sameR C s) zs ws else 0)]
  have := wsum_single (B := m + 1) (cntL C ws) (fun x hx => by have := cntL_mem x hx; omega) (rways (sameR C s) zs ws)
  rwa [cntL_len] at this
theorem risK_nonneg (s : Int) (zs cs : List Int) (k : Nat) : 0 ≤ risK s zs cs k := by
  induction k with
  | zero => simp [risK]
  | succ k ih => exact Int.mul_nonneg ih (ris_nonneg _ _ _)
theorem risK_le {s : Int} {zs cs : List Int} (hs : s ≤ 3) (hz : ∀ z ∈ zs, 0 ≤ z ∧ z ≤ 10) (hc : ∀ x ∈ cs, 0 ≤ x ∧ x ≤ 6) (k : Nat) : risK s zs cs k ≤ 28 ^ (isum (cs.take k)).toNat := by
  induction k with
  | zero => simp [risK, isum]
  | succ k ih =>
    simp only [risK]
    rcases Nat.lt_or_ge k cs.length with hk | hk
    · have hx := List.getElem?_eq_getElem hk
      have hcx := hc cs[k] (List.getElem_mem hk)
      have h2 := (isum_bounds 6 (cs.take k) (fun x hx => hc x (List.mem_of_mem_take hx))).1
      rw [isum_take_succ hx, hx]
      have e : (isum (cs.take k) + cs[k]).toNat = (isum (cs.take k)).toNat + (cs[k]).toNat := by omega
      rw [e, Int.pow_add]
      have hz10 : zs[k]?.getD 0 ≤ 10 := by
        rcases Nat.lt_or_ge k zs.length with h2 | h2
        · rw [List.getElem?_eq_getElem h2]; exact (hz _ (List.getElem_mem h2)).2
        · rw [List.getElem?_eq_none h2]; decide
      exact Int.mul_le_mul ih (ris_le (M := 10) (B := 28) hs (by decide) hz10 (by simp only [Option.getD_some]; omega)) (ris_nonneg _ _ _) (Int.pow_nonneg (by decide))
    · rw [List.getElem?_eq_none hk, List.take_of_length_le (by omega)]
      rw [List.take_of_length_le hk] at ih
      simpa [ris] using ih
theorem risK_bound {c s : Int} {zs cs : List Int} (hs : s ≤ 3) (hz : ∀ z ∈ zs, 0 ≤ z ∧ z ≤ 10) (h : countRowOk c cs = true) (k : Nat) : 0 ≤ risK s zs cs k ∧ risK s zs cs k ≤ 481890304 := by
  obtain ⟨_, _, _, h4, h5⟩ := countRowOk_yes h
  refine ⟨risK_nonneg _ _ _ _, Int.le_trans (risK_le hs hz h4 k) (pow28 _ ?_)⟩
  have h6 := (isum_bounds 6 (cs.drop k) (fun x hx => h4 x (List.mem_of_mem_drop hx))).1
  have e := isum_append (cs.take k) (cs.drop k)
  rw [List.take_append_drop] at e
  omega
theorem risK_pow {zs cs : List Int} (hz : ∀ z ∈ zs, 0 ≤ z) (k : Nat) : risK 0 zs cs k = powK zs cs k := by
  induction k with
  | zero => rfl
  | succ k ih =>
    simp only [risK, powK]
    rw [ih, ris_pow]
    rcases Nat.lt_or_ge k zs.length with h2 | h2
    · rw [List.getElem?_eq_getElem h2]; exact hz _ (List.getElem_mem h2)
    · rw [List.getElem?_eq_none h2]; decide
theorem risK_fall (zs cs : List Int) (k : Nat) : risK (-1) zs cs k = prodK zs cs k := by
  induction k with
  | zero => rfl
  | succ k ih => simp only [risK, prodK]; rw [ih, ris_fall]

/-! Words sorted by their colours. -/
theorem sorted_count (cs : List Int) (k i : Nat) : (sorted cs k).count (i : Int) = if i < k then (cs[i]?.getD 0).toNat else 0 := by
  induction k with
  | zero => simp [sorted]
  | succ k ih =>
    simp only [sorted]
    rw [List.count_append, ih, List.count_replicate]
    by_cases h : i = k
    · subst h; simp
    · have e : ((k : Int) == (i : Int)) = false := beq_false_of_ne (by omega)
      rw [e, if_neg Bool.false_ne_true, Nat.add_zero]
      by_cases h2 : i < k
      · rw [if_pos h2, if_pos (by omega)]
      · rw [if_neg h2, if_neg (by omega)]
theorem cntL_sorted {c : Int} {cs : List Int} (h : countRowOk c cs = true) : cntL cs.length (sorted cs cs.length) = cs := by
  obtain ⟨_, _, _, h4, _⟩ := countRowOk_yes h
  apply List.ext_getElem?
  intro i
  rcases Nat.lt_or_ge i cs.length with hi | hi
  · rw [cntL_at _ _ _ hi, sorted_count, if_pos hi, List.getElem?_eq_getElem hi, Option.getD_some]
    have := h4 cs[i] (List.getElem_mem hi)
    congr 1
    omega
  · rw [List.getElem?_eq_none (by rw [cntL_len]; exact hi), List.getElem?_eq_none hi]
theorem cntL_reverse (C : Nat) (ws : List Int) : cntL C ws.reverse = cntL C ws := by
  unfold cntL
  simp only [List.count_reverse]

/-! Shares. -/
def shr (s : Int) : Nat → Int → Int
  | 0, _ => 1
  | m + 1, T => (T + s) * shr s m (T + s)
theorem bsum_same {C col : Nat} {s : Int} (h1 : 1 ≤ C) (h3 : C ≤ 3) (hs : -1 ≤ s ∧ s ≤ 3) (hcol : col < C) (m : Nat) (zs : List Int) (M : Int) (hl : zs.length = C) (hm : ∀ y ∈ zs, 0 ≤ y ∧ y ≤ M) : bsum (sameR C s) col m zs = zs[col]?.getD 0 * shr s m (isum zs) := by
  induction m generalizing zs M with
  | zero => simp [bsum, shr]
  | succ m ih =>
    simp only [bsum, shr]
    obtain ⟨z, hz⟩ : ∃ z, zs[col]? = some z := ⟨_, List.getElem?_eq_getElem (by omega)⟩
    have hR := sameR_rule h1 h3 hs
    have e : ∀ c, c < zs.length → max (zs[c]?.getD 0) 0 * bsum (sameR C s) col m (addL zs (rowOf (sameR C s) c)) = (zs[c]?.getD 0 * z + if c = col then z * s else 0) * shr s m (isum zs + s) := by
      intro c hc
      have hk := List.getElem?_eq_getElem hc
      have hzc := hm zs[c] (List.getElem_mem hc)
      rw [hk, Option.getD_some, Int.max_eq_left hzc.1]
      rcases Int.lt_or_le 0 zs[c] with h0 | h0
      · rw [ih _ (M + 3) (aft_len hR hl (by omega)) (aft_mem hR hl hk h0 hm), aft_sum hR hl (sameR_even C s) (by omega), addL_same hl hk]
        by_cases hcc : c = col
        · subst hcc
          rw [List.getElem?_set_self (by omega), if_pos rfl, Option.getD_some]
          rw [hk] at hz; injection hz with hz
          rw [hz, ← Int.mul_assoc, Int.mul_add]
        · rw [List.getElem?_set_ne hcc, if_neg hcc, hz, Option.getD_some, Int.add_zero, Int.mul_assoc]
      · have hz0 : zs[c] = 0 := by omega
        rw [hz0, Int.zero_mul, Int.zero_mul]
        by_cases hcc : c = col
        · subst hcc
          rw [hk] at hz; injection hz with hz
          rw [if_pos rfl, ← hz, hz0]; simp
        · rw [if_neg hcc]; simp
    rw [nsum_congr e, nsum_mulr, nsum_add, nsum_mulr, nsum_list, nsum_only (by omega), hz, Option.getD_some, Int.mul_comm (isum zs) z, ← Int.mul_add, Int.mul_assoc]
theorem shr_total {s : Int} (hs : -1 ≤ s) (m : Nat) (T : Int) (hT : 0 ≤ T) : shr s m T * T = (T + m * s) * rprod s m T := by
  induction m generalizing T with
  | zero => simp [shr, rprod]
  | succ m ih =>
    simp only [shr, rprod]
    rcases Int.lt_or_le 0 T with h | h
    · have h2 := ih (T + s) (by omega)
      rw [Int.max_eq_left hT, Int.mul_comm (T + s), h2]
      have e : T + s + (m : Int) * s = T + ((m + 1 : Nat) : Int) * s := by rw [Int.natCast_add, Int.add_mul]; simp; omega
      rw [e, Int.mul_assoc, Int.mul_comm _ T]
    · have h0 : T = 0 := by omega
      subst h0
      simp
theorem share_total {C col : Nat} {s : Int} (h1 : 1 ≤ C) (h3 : C ≤ 3) (hs : -1 ≤ s ∧ s ≤ 3) (hcol : col < C) (m : Nat) (zs : List Int) (M : Int) (hl : zs.length = C) (hm : ∀ y ∈ zs, 0 ≤ y ∧ y ≤ M) :
    bsum (sameR C s) col m zs * isum zs = zs[col]?.getD 0 * (isum zs + m * s) * rall (sameR C s) m zs := by
  rw [bsum_same h1 h3 hs hcol m zs M hl hm, rall_even (sameR_rule h1 h3 hs) (sameR_even C s) m zs M hl hm, Int.mul_assoc, shr_total hs.1 m _ (isum_nonneg fun z hz => (hm z hz).1), Int.mul_assoc]
theorem share_all {C : Nat} {s : Int} (h1 : 1 ≤ C) (h3 : C ≤ 3) (hs : -1 ≤ s ∧ s ≤ 3) (m : Nat) (zs : List Int) (M : Int) (hl : zs.length = C) (hm : ∀ y ∈ zs, 0 ≤ y ∧ y ≤ M) :
    nsum C (fun col => bsum (sameR C s) col m zs) = (isum zs + m * s) * rall (sameR C s) m zs := bsum_even (sameR_rule h1 h3 hs) (sameR_even C s) m zs M hl hm

/-! Products of numbers that rise by a step from -1 on: those below 0 come behind a 0. -/
theorem ris_gone {s z : Int} (hz : 0 ≤ z) (hs : -1 ≤ s) (k : Nat) (h : z + (k : Int) * s < 0) : ris s z k = 0 := by
  induction k with
  | zero => simp at h; omega
  | succ k ih =>
    rw [ris_snoc]
    have e : z + ((k + 1 : Nat) : Int) * s = z + (k : Int) * s + s := by rw [Int.natCast_add, Int.add_mul]; simp; omega
    rw [e] at h
    rcases Int.lt_or_le (z + (k : Int) * s) 0 with h1 | h1
    · rw [ih h1, Int.zero_mul]
    · rw [show z + (k : Int) * s = 0 by omega]; simp
theorem ris_next {s z : Int} (hz : 0 ≤ z) (hs : -1 ≤ s) (k : Nat) : ris s z (k + 1) = ris s z k * (z + (k : Int) * s) := by
  rw [ris_snoc]
  rcases Int.lt_or_le (z + (k : Int) * s) 0 with h1 | h1
  · rw [ris_gone hz hs k h1, Int.zero_mul, Int.zero_mul]
  · rw [Int.max_eq_left h1]
theorem pow135 (m : Nat) (h : m ≤ 6) : (135 : Int) ^ m ≤ 6053445140625 := by
  match m, h with
  | 0, _ | 1, _ | 2, _ | 3, _ | 4, _ | 5, _ | 6, _ => decide
theorem ris_bound120 {s z : Int} {m : Nat} (hs : s ≤ 3) (hz : z ≤ 120) (hm : m ≤ 6) : 0 ≤ ris s z m ∧ ris s z m ≤ 6053445140625 :=
  ⟨ris_nonneg _ _ _, Int.le_trans (ris_le (M := 120) (B := 135) hs (by decide) hz (by omega)) (pow135 m hm)⟩
end Go.Proofs.Ytoafpokcbbncfaa

namespace Go.Proofs.Ytoafpokcbbncfaa
open Go.RowKit

/-- The slice '.slice A n c' holds rows of ints; all its cells lie below block B. -/
structure Mat (w : World) (B : Nat) (A : Option Addr) (n c : Nat) (rs : List (List Int)) : Prop where
  len : rs.length = n
  le : n ≤ c
  big : c ≤ maxLen
  cells : 0 < n → ∃ b off, A = some ⟨b, off, none⟩ ∧ b < B ∧ ∀ j l, rs[j]? = some l → ∃ A' n' c', w.cell? ⟨b, off + j, none⟩ = some (.slice A' n' c') ∧ Ints w B A' n' c' l
  nil0 : A = none → c = 0

section
variable {w w' : World} {B B' n c k : Nat} {A : Option Addr} {rs : List (List Int)}
theorem Mat.look (h : Mat w B A n c rs) (hk : k < n) : ∃ b off l A' n' c', A = some ⟨b, off, none⟩ ∧ b < B ∧ Hid (rs[k]? = some l) ∧ w.cell? ⟨b, off + k, none⟩ = some (.slice A' n' c') ∧ Hid (Ints w B A' n' c' l) := by
  obtain ⟨b, off, e, hb, hc⟩ := h.cells (by omega)
  have hl : k < rs.length := by have := h.len; omega
  obtain ⟨A', n', c', h1, h2⟩ := hc k _ (List.getElem?_eq_getElem hl)
  exact ⟨b, off, rs[k], A', n', c', e, hb, hide (List.getElem?_eq_getElem hl), h1, hide h2⟩
theorem Mat.nb (h : Mat w B A n c rs) : n ≤ 9223372036854775807 := by have := h.le; have := h.big; unfold maxLen at this; omega
theorem Mat.keep (h : Mat w B A n c rs) (hk : ∀ p : Addr, p.block < B → w'.cell? p = w.cell? p) : Mat w' B A n c rs :=
  ⟨h.len, h.le, h.big, fun hn => by
    obtain ⟨b, off, e, hb, hc⟩ := h.cells hn
    refine ⟨b, off, e, hb, fun j l hl => ?_⟩
    obtain ⟨A', n', c', h1, h2⟩ := hc j l hl
    exact ⟨A', n', c', (hk _ hb).trans h1, h2.keep hk⟩, h.nil0⟩
theorem Mat.more (h : Mat w B A n c rs) (hB : B ≤ B') : Mat w B' A n c rs :=
  ⟨h.len, h.le, h.big, fun hn => by
    obtain ⟨b, off, e, hb, hc⟩ := h.cells hn
    refine ⟨b, off, e, by omega, fun j l hl => ?_⟩
    obtain ⟨A', n', c', h1, h2⟩ := hc j l hl
    exact ⟨A', n', c', h1, h2.more hB⟩, h.nil0⟩
theorem Mat.below (h : Mat w B A n c rs) (hb : Below B w w') : Mat w' B A n c rs := h.keep fun _ hp => hb.cell hp
theorem Mat.up (h : Mat w w.heap.size A n c rs) (hq : Below w.heap.size w w') : Mat w' w'.heap.size A n c rs := (h.below hq).more hq.size
theorem Mat.drewN (h : Mat w B A n c rs) (k : Nat) : Mat (w.drewN k) B A n c rs := h.keep fun _ _ => rfl
theorem Mat.alloc (h : Mat w B A n c rs) (hB : B ≤ w.heap.size) (o : Obj) : Mat (w.alloc o) B A n c rs := h.keep fun p hp => World.cell?_alloc_lt w o p (by omega)
theorem Mat.nil : Mat w B none 0 0 [] := ⟨rfl, Nat.le_refl _, Nat.zero_le _, fun h => absurd h (by omega), fun _ => rfl⟩
/-- One row more at the end of a slice of slices that the call owns: what a store into the cells says. -/
theorem Mat.at_ (h : Mat w B A n c rs) {l : List Int} (hl : rs[k]? = some l) : ∃ b off A' n' c', A = some ⟨b, off, none⟩ ∧ b < B ∧ w.cell? ⟨b, off + k, none⟩ = some (.slice A' n' c') ∧ Ints w B A' n' c' l := by
  have hk := (List.getElem?_eq_some_iff.1 hl).1
  obtain ⟨b, off, e, hb, hc⟩ := h.cells (by have := h.len; omega)
  obtain ⟨A', n', c', h1, h2⟩ := hc k l hl
  exact ⟨b, off, A', n', c', e, hb, h1, h2⟩
end
end Go.Proofs.Ytoafpokcbbncfaa

namespace Go.Proofs.Ytoafpokcbbncfaa
open Go.RowKit

/-- What the call itself made: the slice v owns just the rows rs. Its own block lies from 'lo' on; the rows' blocks lie from 'lo' on and below 'hi', and no two of them are one. -/
structure OwnM (w : World) (lo hi : Nat) (v : Value) (rs : List (List Int)) : Prop where
  ex : ∃ vs : List Value, w.ownsRow lo 22 1 v rs.length vs ∧
    (∀ (k : Nat) u l, vs[k]? = some u → rs[k]? = some l → Own w lo u l ∧ ∀ g, u.ownBlock = some g → g < hi) ∧
    (∀ (j k : Nat) u u', j < k → vs[j]? = some u → vs[k]? = some u' → u.ownBlock = none ∨ u.ownBlock ≠ u'.ownBlock)

theorem own_ne {w : World} {b b' : Nat} {v u : Value} {n : Nat} {xs : List Value} {l : List Int} (h : w.ownsRow b 22 1 v n xs) (k : Own w b' u l) : u.ownBlock = none ∨ u.ownBlock ≠ v.ownBlock := by
  rcases k.row.2 with ⟨rfl, _⟩ | ⟨g, cap, cur, rfl, _, hg, _⟩
  · exact .inl rfl
  · refine .inr fun e => ?_
    rcases h.2 with ⟨rfl, _⟩ | ⟨g', cap', cur', rfl, _, hg', _⟩
    · simp [Value.ownBlock] at e
    · simp [Value.ownBlock] at e
      subst e
      rw [hg] at hg'
      simp at hg'

section
variable {w w' : World} {lo hi lo' hi' n c k : Nat} {v : Value} {A : Option Addr} {rs : List (List Int)}
theorem OwnM.shape (h : OwnM w lo hi v rs) : (v = .slice none 0 0 ∧ rs = []) ∨ ∃ g c, v = .slice (some ⟨g, 0, none⟩) rs.length c ∧ lo ≤ g ∧ g < w.heap.size := by
  obtain ⟨vs, h1, _⟩ := h.ex
  rcases h1.2 with ⟨hv, h0⟩ | ⟨g, cap, cur, hv, hg, hh, _⟩
  · exact .inl ⟨hv, List.eq_nil_of_length_eq_zero h0⟩
  · exact .inr ⟨g, cap, hv, hg, (Array.getElem?_eq_some_iff.1 hh).1⟩
theorem OwnM.slice (h : OwnM w lo hi v rs) : ∃ A c, v = .slice A rs.length c := by
  rcases h.shape with ⟨rfl, rfl⟩ | ⟨g, c, rfl, _⟩
  · exact ⟨_, _, rfl⟩
  · exact ⟨_, _, rfl⟩
theorem OwnM.len (h : OwnM w lo hi (.slice A n c) rs) : n = rs.length := by
  obtain ⟨A', c', e⟩ := h.slice
  injection e
theorem OwnM.mat (h : OwnM w lo hi (.slice A n c) rs) : Mat w w.heap.size A n c rs := by
  obtain ⟨vs, h1, h2, _⟩ := h.ex
  have hvl := h1.1
  rcases h1.2 with ⟨hv, h0⟩ | ⟨g, cap, cur, hv, hg, hh, hn, hm, hs, ht⟩
  · injection hv with e1 e2 e3
    subst e1; subst e2; subst e3
    obtain rfl := List.eq_nil_of_length_eq_zero h0
    exact Mat.nil
  · injection hv with e1 e2 e3
    subst e1; subst e2; subst e3
    refine ⟨rfl, hn, hm, fun hp => ⟨g, 0, rfl, (Array.getElem?_eq_some_iff.1 hh).1, fun j l hl => ?_⟩, fun e => by cases e⟩
    have hj : j < rs.length := (List.getElem?_eq_some_iff.1 hl).1
    have hjv : j < vs.length := by omega
    have hu := List.getElem?_eq_getElem hjv
    obtain ⟨A', c', e⟩ := (h2 j _ l hu hl).1.slice
    have ho := (h2 j _ l hu hl).1
    rw [e] at ho
    refine ⟨A', l.length, c', ?_, ho.ints⟩
    rw [Nat.zero_add, h1.cellAt j (by omega), hu, e]
theorem OwnM.kept {row : Option Nat} (h : OwnM w lo hi v rs) (hg : w.grownBy w' row) (hr : ∀ k, row = some k → k < lo ∨ w.heap.size ≤ k) : OwnM w' lo hi v rs := by
  obtain ⟨vs, h1, h2, h3⟩ := h.ex
  have hf : ∀ u : Value, (∀ k, u.ownBlock = some k → lo ≤ k ∧ k < w.heap.size) → u.ownBlock = none ∨ u.ownBlock ≠ row := fun u hu => by
    cases hk : u.ownBlock with
    | none => exact .inl rfl
    | some k => exact .inr fun e => by have a := hu k hk; have b := hr k e.symm; omega
  exact ⟨vs, h1.kept hg (hf _ h1.lt), fun k u l hu hl => ⟨(h2 k u l hu hl).1.kept hg (hf _ (h2 k u l hu hl).1.row.lt), (h2 k u l hu hl).2⟩, h3⟩
theorem OwnM.up (h : OwnM w lo hi v rs) (hq : Below w.heap.size w w') : OwnM w' lo hi v rs :=
  h.kept (row := none) ⟨hq.os, hq.tape, hq.output, hq.size, fun k hk _ => hq.block k hk⟩ (fun _ e => by cases e)
theorem OwnM.drewN (h : OwnM w lo hi v rs) (k : Nat) : OwnM (w.drewN k) lo hi v rs := h.up (below_drewN (Below.refl _ _) k)
theorem OwnM.alloc (h : OwnM w lo hi v rs) (o : Obj) : OwnM (w.alloc o) lo hi v rs := h.up ((Below.refl _ _).alloc (Nat.le_refl _) o)
theorem OwnM.past {g : Nat} (h : OwnM w lo hi v rs) (hg : w.grownBy w' (some g)) (hlt : g < lo) : OwnM w' lo hi v rs := h.kept hg (fun k e => by injection e with e; omega)
theorem OwnM.wide (h : OwnM w lo hi v rs) (hh : hi ≤ hi') : OwnM w lo hi' v rs := by
  obtain ⟨vs, h1, h2, h3⟩ := h.ex
  exact ⟨vs, h1, fun k u l hu hl => ⟨(h2 k u l hu hl).1, fun g hg => by have := (h2 k u l hu hl).2 g hg; omega⟩, h3⟩
theorem ownsRow_down {e : TypeId} {size : Nat} {xs : List Value} (h : w.ownsRow lo e size v n xs) (hb : lo' ≤ lo) : w.ownsRow lo' e size v n xs := by
  refine ⟨h.1, ?_⟩
  rcases h.2 with hn | ⟨g, cap, cur, hv, hg, r⟩
  · exact .inl hn
  · exact .inr ⟨g, cap, cur, hv, by omega, r⟩
theorem OwnM.down (h : OwnM w lo hi v rs) (hb : lo' ≤ lo) : OwnM w lo' hi v rs := by
  obtain ⟨vs, h1, h2, h3⟩ := h.ex
  exact ⟨vs, ownsRow_down h1 hb, fun k u l hu hl => ⟨(h2 k u l hu hl).1.down hb, (h2 k u l hu hl).2⟩, h3⟩
theorem OwnM.none_ : OwnM w lo hi (.slice none 0 0) [] := ⟨[], World.ownsRow_nil _ _ _ _, fun _ _ _ h => by simp at h, fun _ _ _ _ _ h => by simp at h⟩
/-- A slice literal without rows. -/
theorem ownM_empty (hb : lo ≤ w.heap.size) : OwnM (w.alloc (.cells #[] 22)) lo hi (.slice (some ⟨w.heap.size, 0, none⟩) 0 0) [] :=
  ⟨[], World.ownsRow_made w #[] 0 hb (Nat.zero_le _) rfl, fun _ _ _ h => by simp at h, fun _ _ _ _ _ h => by simp at h⟩
/-- The rows that 'make' lays: all nil. -/
theorem ownM_made {h0 m : Nat} (ho : w.ownsRow h0 22 1 (.slice (some ⟨h0, 0, none⟩) m m) m (madeCells (Value.slice none 0 0).cells (m * 1)).toList) : OwnM w h0 hi (.slice (some ⟨h0, 0, none⟩) m m) (List.replicate m []) := by
  have e1 : (madeCells (Value.slice none 0 0).cells (m * 1)).toList = List.replicate m (Value.slice none 0 0) := by
    simp [Value.cells, toList_madeCells_one]
  rw [e1] at ho
  refine ⟨_, by rw [List.length_replicate]; exact ho, fun k u l hu hl => ?_, fun j k u u' _ hu _ => ?_⟩
  · have a := List.eq_of_mem_replicate (List.mem_of_getElem? hu)
    have b := List.eq_of_mem_replicate (List.mem_of_getElem? hl)
    subst a; subst b
    exact ⟨Own.none_, fun g e => by simp [Value.ownBlock] at e⟩
  · have a := List.eq_of_mem_replicate (List.mem_of_getElem? hu)
    subst a
    exact .inl rfl
end

section
variable {w w' : World} {lo hi : Nat} {v u v' : Value} {rs : List (List Int)} {l : List Int} {n : Nat} {vs : List Value}
/-- One row more behind the others. -/
theorem OwnM.pushed (h1 : w.ownsRow lo 22 1 v rs.length vs)
    (h2 : ∀ (k : Nat) u l, vs[k]? = some u → rs[k]? = some l → Own w lo u l ∧ ∀ g, u.ownBlock = some g → g < hi)
    (h3 : ∀ (j k : Nat) u u', j < k → vs[j]? = some u → vs[k]? = some u' → u.ownBlock = none ∨ u.ownBlock ≠ u'.ownBlock)
    (hu : Own w hi u l) (hlo : lo ≤ hi) (hn : w'.ownsRow lo 22 1 v' (rs.length + 1) (vs ++ [u])) (hg : w.grownBy w' v.ownBlock) : OwnM w' lo w'.heap.size v' (rs ++ [l]) := by
  have hvl : vs.length = rs.length := by have := h1.1; omega
  have hk : ∀ (u : Value) (l : List Int) {b : Nat}, Own w b u l → Own w' b u l := fun u l b ho => ho.kept hg (own_ne h1 ho)
  refine ⟨vs ++ [u], by rw [List.length_append]; exact hn, fun k y m hy hm => ?_, fun j k y y' hjk hy hy' => ?_⟩
  · rcases Nat.lt_or_ge k vs.length with hlt | hge
    · rw [List.getElem?_append_left hlt] at hy
      rw [List.getElem?_append_left (by omega)] at hm
      have ho := hk y m (h2 k y m hy hm).1
      exact ⟨ho, fun g e => (ho.row.lt g e).2⟩
    · have hkl : k = vs.length := by
        have := (List.getElem?_eq_some_iff.1 hy).1
        rw [List.length_append] at this; simp at this; omega
      subst hkl
      rw [List.getElem?_concat_length] at hy
      rw [hvl, List.getElem?_concat_length] at hm
      injection hy with hy; injection hm with hm
      subst hy; subst hm
      have ho := hk _ _ hu
      exact ⟨ho.down hlo, fun g e => (ho.row.lt g e).2⟩
  · rcases Nat.lt_or_ge k vs.length with hlt | hge
    · rw [List.getElem?_append_left hlt] at hy'
      rw [List.getElem?_append_left (by omega)] at hy
      exact h3 j k y y' hjk hy hy'
    · have hkl : k = vs.length := by
        have := (List.getElem?_eq_some_iff.1 hy').1
        rw [List.length_append] at this; simp at this; omega
      subst hkl
      rw [List.getElem?_concat_length] at hy'
      injection hy' with hy'
      subst hy'
      rw [List.getElem?_append_left hjk] at hy
      have hm := List.getElem?_eq_getElem (l := rs) (i := j) (by omega)
      have hb := (h2 j y _ hy hm).2
      cases hyb : y.ownBlock with
      | none => exact .inl rfl
      | some g =>
        refine .inr fun e => ?_
        have a := hb g hyb
        have b := (hu.row.lt g e.symm).1
        omega
end

section
variable {P : Program} (w : World)
theorem wpList_appM {ops : Array Oper} {rest : List Oper} {o : Oper} {a : Act} {Q : Exit → Act → World → Prop} (hgd : o.guard = none) (s x : Operand) (t : TypeId)
    (ho : o.op = .call { callee := .builtin .append, args := #[s, x], argTypes := #[t, t] })
    (i : TypeInfo) (ht : P.underlying t = some (.slice 22)) (hi : P.info? 22 = some i) (hz0 : i.zero = some (.slice none 0 0)) (hz1 : i.size = 1) (hz2 : i.bytes = 24)
    {lo hi' : Nat} (v : Value) (rs : List (List Int)) (hs : a.eval s = v) (hown : OwnM w lo hi' v rs) (u : Value) (l : List Int) (hu : Own w hi' u l) (hlo : lo ≤ hi') (hbase : lo ≤ w.heap.size) (ad : Addr) (c : Nat) (hx : a.eval x = .slice (some ad) 1 c)
    (hcell : w.cell? ad = some u) (hsz : rs.length ≤ 1048576000)
    (h : ∀ A' n' c' w', OwnM w' lo w'.heap.size (.slice A' n' c') (rs ++ [l]) → w.grownBy w' v.ownBlock → wpList P ops Q rest (a.put o.dst (.slice A' n' c')) w') : wpList P ops Q (o :: rest) a w := by
  obtain ⟨vs, h1, h2, h3⟩ := hown.ex
  obtain ⟨Au, cu, eu⟩ := hu.slice
  refine wpList_append_own w hgd s x t ho lo 22 i (.slice none 0 0) 1 24 ht hi hz0 hz1 hz2 rfl (by decide) v rs.length vs hs h1 ad 1 c [u] hx rfl (fun j y hy => ?_) (fun y hy => ?_) (by unfold maxLen; omega) (by omega) hbase fun v' w' hr hg _ => ?_
  · cases j with
    | zero => simp at hy; subst hy; simpa [Addr.add] using hcell
    | succ j => simp at hy
  · simp at hy; subst hy; rw [eu]; rfl
  · have hO := OwnM.pushed h1 h2 h3 hu hlo hr hg
    obtain ⟨A', c', e⟩ := hO.slice
    subst e
    exact h A' _ c' w' hO hg
end

section
variable {w w' : World} {lo hi n c k : Nat} {A : Option Addr} {v : Value} {rs : List (List Int)} {l l' : List Int}
/-- Row k, as the walk meets it. -/
theorem OwnM.at_ (h : OwnM w lo hi v rs) (hl : rs[k]? = some l) : ∃ g c u, v = .slice (some ⟨g, 0, none⟩) rs.length c ∧ lo ≤ g ∧ w.cell? ⟨g, k, none⟩ = some u ∧ w.frozen? ⟨g, k, none⟩ = false ∧ Own w lo u l ∧ (∀ j, u.ownBlock = some j → j < hi) ∧
    (∀ w' l', Own w' lo u l' → w.grownBy w' u.ownBlock → OwnM w' lo hi v (rs.set k l')) := by
  obtain ⟨vs, h1, h2, h3⟩ := h.ex
  have hk := (List.getElem?_eq_some_iff.1 hl).1
  have hvl : vs.length = rs.length := by have := h1.1; omega
  rcases h.shape with ⟨_, rfl⟩ | ⟨g, c, rfl, hg, hlt⟩
  · simp at hl
  · have hu := List.getElem?_eq_getElem (l := vs) (i := k) (by omega)
    refine ⟨g, c, vs[k], rfl, hg, by rw [h1.cellAt k (by omega), hu], h1.frozenAt k, (h2 k _ l hu hl).1, (h2 k _ l hu hl).2, fun w' l' ho hgr => ?_⟩
    have hne := own_ne h1 (h2 k _ l hu hl).1
    refine ⟨vs, by rw [List.length_set]; exact h1.kept hgr (by
      rcases hne with e | e
      · rw [e]; cases (Value.slice (some ⟨g, 0, none⟩) rs.length c).ownBlock <;> simp
      · exact .inr fun e' => e e'.symm), fun j y m hy hm => ?_, h3⟩
    by_cases hjk : j = k
    · subst hjk
      rw [hu] at hy
      injection hy with hy
      subst hy
      rw [List.getElem?_set_self hk] at hm
      injection hm with hm
      subst hm
      exact ⟨ho, (h2 j _ l hu hl).2⟩
    · rw [List.getElem?_set_ne (fun e => hjk e.symm)] at hm
      refine ⟨(h2 j y m hy hm).1.kept hgr ?_, (h2 j y m hy hm).2⟩
      rcases Nat.lt_or_ge j k with hlt | hge
      · rcases h3 j k y _ hlt hy hu with e | e
        · exact .inl e
        · exact .inr e
      · rcases h3 k j _ y (by omega) hu hy with e | e
        · rw [e]; cases y.ownBlock <;> simp
        · exact .inr fun e' => e e'.symm
/-- A store into row k. -/
theorem OwnM.setIn (h : OwnM w lo hi v rs) (hl : rs[k]? = some l) {j : Nat} {x : Int} (hx : l[j]? = some x) : ∃ g c gk ck, v = .slice (some ⟨g, 0, none⟩) rs.length c ∧ w.cell? ⟨g, k, none⟩ = some (.slice (some ⟨gk, 0, none⟩) l.length ck) ∧ w.cell? ⟨gk, j, none⟩ = some (.int .i64 x) ∧ w.frozen? ⟨gk, j, none⟩ = false ∧ lo ≤ gk ∧
    ∀ y : Int, (Lit.int .i64 y).wf = true → OwnM (w.setCell ⟨gk, j, none⟩ (.int .i64 y)) lo hi v (rs.set k (l.set j y)) := by
  obtain ⟨g, c, u, hv, hg, hcell, _, ho, _, hset⟩ := h.at_ hl
  obtain ⟨gk, ck, hu, hgk, _, hcj⟩ := ho.at_ hx
  subst hu
  refine ⟨g, c, gk, ck, hv, hcell, hcj, ho.froz j, hgk, fun y hy => hset _ _ (ho.set_ y hy) ?_⟩
  exact (ho.row.stored j (.int .i64 y)).2
/-- A new row in place of row k. -/
theorem OwnM.setRow {g : Nat} (h : OwnM w lo hi (.slice (some ⟨g, 0, none⟩) n c) rs) {u : Value} (hu : Own w hi u l) (hlo : lo ≤ hi) (hk : k < rs.length) : OwnM (w.setCell ⟨g, k, none⟩ u) lo w.heap.size (.slice (some ⟨g, 0, none⟩) n c) (rs.set k l) ∧ w.frozen? ⟨g, k, none⟩ = false ∧ (∃ y, w.cell? ⟨g, k, none⟩ = some y) ∧ lo ≤ g := by
  obtain ⟨vs, h1, h2, h3⟩ := h.ex
  have hn := h.len
  subst hn
  have hvl : vs.length = rs.length := by have := h1.1; omega
  have hst := h1.stored k u
  have hkp : ∀ (y : Value) (m : List Int) {b : Nat}, Own w b y m → Own (w.setCell ⟨g, k, none⟩ u) b y m := fun y m b ho => ho.kept hst.2 (own_ne h1 ho)
  have hsz : (w.setCell ⟨g, k, none⟩ u).heap.size = w.heap.size := by simp [World.setCell]
  refine ⟨⟨vs.set k u, by rw [List.length_set]; exact hst.1, fun j y m hy hm => ?_, fun i j y y' hij hy hy' => ?_⟩, h1.frozenAt k, ⟨vs[k]'(by omega), by rw [h1.cellAt k (by omega), List.getElem?_eq_getElem]⟩, ?_⟩
  · by_cases hjk : j = k
    · subst hjk
      rw [List.getElem?_set_self (by omega)] at hy hm
      injection hy with hy; injection hm with hm
      subst hy; subst hm
      have ho := hkp _ _ hu
      exact ⟨ho.down hlo, fun q e => by have := (ho.row.lt q e).2; omega⟩
    · rw [List.getElem?_set_ne (fun e => hjk e.symm)] at hy hm
      have ho := hkp _ _ (h2 j y m hy hm).1
      exact ⟨ho, fun q e => by have := (ho.row.lt q e).2; omega⟩
  · have hfr : ∀ {j : Nat} {y : Value}, j ≠ k → vs[j]? = some y → y.ownBlock = none ∨ y.ownBlock ≠ u.ownBlock := fun {j y} hj hy => by
      have hjl := (List.getElem?_eq_some_iff.1 hy).1
      have hm := List.getElem?_eq_getElem (l := rs) (i := j) (by omega)
      have hb := (h2 j y _ hy hm).2
      cases hyb : y.ownBlock with
      | none => exact .inl rfl
      | some q =>
        refine .inr fun e => ?_
        have a := hb q hyb
        have b := (hu.row.lt q e.symm).1
        omega
    by_cases hik : i = k
    · subst hik
      rw [List.getElem?_set_self (by omega)] at hy
      rw [List.getElem?_set_ne (by omega)] at hy'
      injection hy with hy
      subst hy
      rcases hfr (by omega) hy' with e | e
      · rw [e]; cases u.ownBlock <;> simp
      · exact .inr fun e' => e e'.symm
    · by_cases hjk : j = k
      · subst hjk
        rw [List.getElem?_set_self (by omega)] at hy'
        rw [List.getElem?_set_ne (fun e => hik e.symm)] at hy
        injection hy' with hy'
        subst hy'
        exact hfr hik hy
      · rw [List.getElem?_set_ne (fun e => hik e.symm)] at hy
        rw [List.getElem?_set_ne (fun e => hjk e.symm)] at hy'
        exact h3 i j y y' hij hy hy'
  · rcases h.shape with ⟨hv, _⟩ | ⟨g', c', hv, hg, _⟩
    · cases hv
    · injection hv with e1; injection e1 with e1; injection e1 with e1; omega
/-- A nil row in the rows that 'make' lays: what the cell holds is what is written over; see 'setRow'. -/
theorem ownBlock_slice (g n c : Nat) : (Value.slice (some ⟨g, 0, none⟩) n c).ownBlock = some g := rfl
end
end Go.Proofs.Ytoafpokcbbncfaa
