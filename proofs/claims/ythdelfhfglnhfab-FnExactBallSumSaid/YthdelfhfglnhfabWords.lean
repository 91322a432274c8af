/-
  Words for slices of ints: what a slice reads as, and how that is carried over draws, new blocks and stores. No program is named here.
-/
import Derived.WalkKit
import Derived.WalkSpells
import Derived.Below
import Derived.Deep.Draws
import Derived.Laws.OwnMore
import Derived.OwnWalk
import Derived.Deep.QuietTactic
namespace Go.Proofs.Ythdelfhfglnhfab
open Go.RowKit

theorem hide {p : Prop} (h : p) : Hid p := h

/-- The slice '.slice A n c' holds the ints zs; its cells lie below block B. -/
structure Ints (w : World) (B : Nat) (A : Option Addr) (n c : Nat) (zs : List Int) : Prop where
  len : zs.length = n
  le : n ≤ c
  big : c ≤ maxLen
  cells : 0 < n → ∃ b off, A = some ⟨b, off, none⟩ ∧ b < B ∧ ∀ j x, zs[j]? = some x → w.cell? ⟨b, off + j, none⟩ = some (.int .i64 x)
  wf : ∀ z ∈ zs, (Lit.int .i64 z).wf = true
  nil0 : A = none → c = 0

section
variable {w w' : World} {B B' n c k : Nat} {A : Option Addr} {zs : List Int}
theorem Ints.look (h : Ints w B A n c zs) (hk : k < n) : ∃ b off x, A = some ⟨b, off, none⟩ ∧ b < B ∧ Hid (zs[k]? = some x) ∧ w.cell? ⟨b, off + k, none⟩ = some (.int .i64 x) := by
  obtain ⟨b, off, e, hb, hc⟩ := h.cells (by omega)
  have hl : k < zs.length := by have := h.len; omega
  exact ⟨b, off, zs[k], e, hb, List.getElem?_eq_getElem hl, hc k _ (List.getElem?_eq_getElem hl)⟩
theorem Ints.nb (h : Ints w B A n c zs) : n ≤ 9223372036854775807 := by have := h.le; have := h.big; unfold maxLen at this; omega
theorem Ints.keep (h : Ints w B A n c zs) (hk : ∀ p : Addr, p.block < B → w'.cell? p = w.cell? p) : Ints w' B A n c zs :=
  ⟨h.len, h.le, h.big, fun hn => by
    obtain ⟨b, off, e, hb, hc⟩ := h.cells hn
    exact ⟨b, off, e, hb, fun j x hx => (hk _ hb).trans (hc j x hx)⟩, h.wf, h.nil0⟩
theorem Ints.more (h : Ints w B A n c zs) (hB : B ≤ B') : Ints w B' A n c zs :=
  ⟨h.len, h.le, h.big, fun hn => by
    obtain ⟨b, off, e, hb, hc⟩ := h.cells hn
    exact ⟨b, off, e, by omega, hc⟩, h.wf, h.nil0⟩
theorem Ints.below (h : Ints w B A n c zs) (hb : Below B w w') : Ints w' B A n c zs := h.keep fun _ hp => hb.cell hp
theorem Ints.drew (h : Ints w B A n c zs) : Ints w.drew B A n c zs := ⟨h.len, h.le, h.big, h.cells, h.wf, h.nil0⟩
theorem Ints.drewN (h : Ints w B A n c zs) (k : Nat) : Ints (w.drewN k) B A n c zs := ⟨h.len, h.le, h.big, h.cells, h.wf, h.nil0⟩
theorem Ints.alloc (h : Ints w B A n c zs) (hB : B ≤ w.heap.size) (o : Obj) : Ints (w.alloc o) B A n c zs := h.keep fun p hp => World.cell?_alloc_lt w o p (by omega)
theorem Ints.setCell (h : Ints w B A n c zs) {p : Addr} (hB : B ≤ p.block) (u : Value) : Ints (w.setCell p u) B A n c zs :=
  h.keep fun q hq => World.cell?_setCell_other w p q u (fun e => by subst e; omega)
theorem Ints.nil : Ints w B none 0 0 [] := ⟨rfl, Nat.le_refl _, Nat.zero_le _, fun h => absurd h (by omega), (fun _ h => by cases h), fun _ => rfl⟩
end
theorem below_drewN {B : Nat} {a w : World} (h : Below B a w) (n : Nat) : Below B a (w.drewN n) := ⟨h.os, h.tape, h.output, h.size, h.block⟩
/-! A quiet callee at a call inside a region that draws: its post says 'w = w'' (or some draws), the region wants draws over its own first world. -/
section
variable {P : Program} {f : FuncId} {args : Array Value} {w : World} {a n : Nat} {v : Value}
theorem qs0 (h : Calls P f args w fun e w' => e = .returned v ∧ w = w') : Calls P f args w fun e w'' => e = .returned v ∧ ∃ m, w'' = w.drewN m :=
  h.mono fun _ _ ⟨he, hm⟩ => ⟨he, 0, hm.symm⟩
theorem qs1 (h : Calls P f args (w.drewN n) fun e w' => e = .returned v ∧ w.drewN n = w') : Calls P f args (w.drewN n) fun e w'' => e = .returned v ∧ ∃ m, w'' = w.drewN m :=
  h.mono fun _ _ ⟨he, hm⟩ => ⟨he, n, hm.symm⟩
theorem qs2 (h : Calls P f args (w.drewN (a + n)) fun e w' => e = .returned v ∧ w.drewN (a + n) = w') : Calls P f args (w.drewN (a + n)) fun e w'' => e = .returned v ∧ ∃ m, w'' = w.drewN (a + m) :=
  h.mono fun _ _ ⟨he, hm⟩ => ⟨he, n, hm.symm⟩
theorem qd1 (h : Calls P f args (w.drewN n) fun e w' => e = .returned v ∧ ∃ m, w' = (w.drewN n).drewN m) : Calls P f args (w.drewN n) fun e w'' => e = .returned v ∧ ∃ m, w'' = w.drewN m :=
  h.mono fun _ _ ⟨he, m, hm⟩ => ⟨he, n + m, by rw [hm, World.drewN_drewN]⟩
theorem qd2 (h : Calls P f args (w.drewN (a + n)) fun e w' => e = .returned v ∧ ∃ m, w' = (w.drewN (a + n)).drewN m) : Calls P f args (w.drewN (a + n)) fun e w'' => e = .returned v ∧ ∃ m, w'' = w.drewN (a + m) :=
  h.mono fun _ _ ⟨he, m, hm⟩ => ⟨he, n + m, by rw [hm, World.drewN_drewN, Nat.add_assoc]⟩
end
theorem quietB {P : Program} {f : FuncId} {args : Array Value} {w : World} {e0 : Ending} (h : Calls P f args w fun e w' => e = e0 ∧ ∃ q, w' = w.drewN q) : Calls P f args w fun e w' => e = e0 ∧ Below w.heap.size w w' :=
  h.mono fun _ _ ⟨he, q, hw⟩ => ⟨he, by rw [hw]; exact below_drewN (Below.refl _ _) q⟩
theorem sameB {P : Program} {f : FuncId} {args : Array Value} {w : World} {e0 : Ending} (h : Calls P f args w fun e w' => e = e0 ∧ w = w') : Calls P f args w fun e w' => e = e0 ∧ Below w.heap.size w w' :=
  h.mono fun _ _ ⟨he, hw⟩ => ⟨he, by rw [← hw]; exact Below.refl _ _⟩
/-- Two slices of blocks in ranges that lie apart share no block. -/
theorem apart {v u : Value} {a b c d : Nat} (hv : ∀ k, v.ownBlock = some k → a ≤ k ∧ k < b) (hu : ∀ k, u.ownBlock = some k → c ≤ k ∧ k < d) (h : b ≤ c ∨ d ≤ a) : v.ownBlock = none ∨ v.ownBlock ≠ u.ownBlock := by
  cases hk : v.ownBlock with
  | none => exact .inl rfl
  | some k =>
    refine .inr fun e => ?_
    have h1 := hv k hk
    have h2 := hu k e.symm
    omega
theorem ret_bool {a b : Bool} (h : a = b) : Ending.returned (.bool a) = .returned (.bool b) := by rw [h]
theorem ret_int {k : IntKind} {a b : Int} (h : a = b) : Ending.returned (.int k a) = .returned (.int k b) := by rw [h]

/-- What the call itself made: the slice v owns just the ints zs, in a block from 'base' on. -/
structure Own (w : World) (base : Nat) (v : Value) (zs : List Int) : Prop where
  row : w.ownsRow base 3 1 v zs.length (zs.map (Value.int .i64))
  wf : ∀ z ∈ zs, (Lit.int .i64 z).wf = true

section
variable {w w' : World} {base base' n c : Nat} {v : Value} {A : Option Addr} {zs : List Int}
theorem Own.shape (h : Own w base v zs) : (v = .slice none 0 0 ∧ zs = []) ∨ ∃ g c, v = .slice (some ⟨g, 0, none⟩) zs.length c ∧ base ≤ g ∧ g < w.heap.size := by
  rcases h.row.2 with ⟨hv, h0⟩ | ⟨g, cap, cur, hv, hg, hh, _⟩
  · exact .inl ⟨hv, List.eq_nil_of_length_eq_zero h0⟩
  · exact .inr ⟨g, cap, hv, hg, (Array.getElem?_eq_some_iff.1 hh).1⟩
theorem Own.slice (h : Own w base v zs) : ∃ A c, v = .slice A zs.length c := by
  rcases h.shape with ⟨rfl, rfl⟩ | ⟨g, c, rfl, _⟩
  · exact ⟨_, _, rfl⟩
  · exact ⟨_, _, rfl⟩
theorem Own.ints (h : Own w base (.slice A n c) zs) : Ints w w.heap.size A n c zs := by
  rcases h.row.2 with ⟨hv, h0⟩ | ⟨g, cap, cur, hv, hg, hh, hn, hm, hs, ht⟩
  · injection hv with h1 h2 h3
    subst h1; subst h2; subst h3
    obtain rfl := List.eq_nil_of_length_eq_zero h0
    exact Ints.nil
  · injection hv with h1 h2 h3
    subst h1; subst h2; subst h3
    refine ⟨rfl, hn, hm, fun hp => ⟨g, 0, rfl, (Array.getElem?_eq_some_iff.1 hh).1, fun j x hx => ?_⟩, h.wf, fun e => by cases e⟩
    have hj : j < zs.length := (List.getElem?_eq_some_iff.1 hx).1
    rw [Nat.zero_add, h.row.cellAt j (by omega)]
    simp [hx]
theorem Own.len (h : Own w base (.slice A n c) zs) : n = zs.length := by
  rcases h.row.2 with ⟨hv, h0⟩ | ⟨g, cap, cur, hv, _⟩
  · injection hv with h1 h2 h3; omega
  · injection hv
theorem Own.kept {row : Option Nat} (h : Own w base v zs) (hg : w.grownBy w' row) (hne : v.ownBlock = none ∨ v.ownBlock ≠ row) : Own w' base v zs := ⟨h.row.kept hg hne, h.wf⟩
theorem Own.below {B : Nat} (h : Own w base v zs) (hb : Below B w w') (hB : w.heap.size ≤ B) : Own w' base v zs :=
  h.kept (row := none) ⟨hb.os, hb.tape, hb.output, hb.size, fun k hk _ => hb.block k (by omega)⟩ (by cases v.ownBlock <;> simp)
theorem Own.down (h : Own w base v zs) (hb : base' ≤ base) : Own w base' v zs := by
  refine ⟨⟨h.row.1, ?_⟩, h.wf⟩
  rcases h.row.2 with hn | ⟨g, cap, cur, hv, hg, r⟩
  · exact .inl hn
  · exact .inr ⟨g, cap, cur, hv, by omega, r⟩
theorem Own.drew (h : Own w base v zs) : Own w.drew base v zs := ⟨h.row, h.wf⟩
theorem Own.drewN (h : Own w base v zs) (k : Nat) : Own (w.drewN k) base v zs := ⟨h.row, h.wf⟩
theorem Own.none_ : Own w base (.slice none 0 0) [] := ⟨World.ownsRow_nil _ _ _ _, fun _ h => by cases h⟩
end
/-- From the frame's own word ('IsRow', unfolded) to 'Ints'. -/
theorem ints_of {w : World} {a : Option Addr} {len cap : Nat} {zs : List Int}
    (h : (a = none ∧ len = 0 ∧ cap = 0 ∧ zs = []) ∨ ∃ x, a = some x ∧ len ≤ cap ∧ cap ≤ maxLen ∧ zs.length = cap ∧ (∀ i, i < zs.length → w.cell? (x.add i) = some (.int .i64 (zs.getD i 0))) ∧ ∀ n ∈ zs, (Lit.int .i64 n).wf = true) :
    Ints w w.heap.size a len cap (zs.take len) := by
  rcases h with ⟨rfl, rfl, rfl, rfl⟩ | ⟨x, rfl, hl, hm, hz, hc, hw⟩
  · exact Ints.nil
  · refine ⟨by rw [List.length_take]; omega, hl, hm, fun hp => ?_, fun z hz => hw z (List.mem_of_mem_take hz), fun e => by cases e⟩
    obtain ⟨b, off, spot⟩ := x
    have h0 := hc 0 (by omega)
    have hspot : spot = none := by simpa [Addr.add] using World.cell?_spot h0
    subst hspot
    refine ⟨b, off, rfl, ?_, fun j y hy => ?_⟩
    · have := World.block_lt_of_cell? w _ h0
      simpa [Addr.add] using this
    · have hj : j < len := by
        have := (List.getElem?_eq_some_iff.1 hy).1
        rw [List.length_take] at this
        omega
      have h1 := hc j (by omega)
      rw [List.getElem?_take_of_lt hj] at hy
      have e : (Addr.mk b off none).add j = ⟨b, off + j, none⟩ := by
        unfold Addr.add
        by_cases hj0 : j = 0 <;> simp [hj0]
      rw [e] at h1
      rw [h1]
      simp [hy]
theorem Ints.wf_at {w : World} {B n c k : Nat} {A : Option Addr} {zs : List Int} {x : Int} (h : Ints w B A n c zs) (hx : zs[k]? = some x) : (Lit.int .i64 x).wf = true := h.wf x (List.mem_of_getElem? hx)

/-- The first k of zs, and zeros up to its length. -/
def cpy (zs : List Int) (k : Nat) : List Int := zs.take k ++ List.replicate (zs.length - k) 0
theorem cpy_zero (zs : List Int) : cpy zs 0 = List.replicate zs.length 0 := by simp [cpy]
theorem cpy_all (zs : List Int) : cpy zs zs.length = zs := by simp [cpy]
theorem cpy_len (zs : List Int) (k : Nat) : (cpy zs k).length = zs.length := by
  simp [cpy]; omega
theorem cpy_set (zs : List Int) (k : Nat) (x : Int) (h : zs[k]? = some x) : (cpy zs k).set k x = cpy zs (k + 1) := by
  obtain ⟨hk, rfl⟩ := List.getElem?_eq_some_iff.1 h
  apply List.ext_getElem
  · simp [cpy]; omega
  · intro j h1 h2
    rw [List.getElem_set]
    split
    · subst_vars; simp [cpy, List.getElem_append]; omega
    · simp only [cpy, List.getElem_append, List.length_take, List.getElem_take, List.getElem_replicate]
      split <;> split <;> first | rfl | omega
/-- k, k + 1, .. in the first j places. -/
def mrk (zs : List Int) (k : Int) (j : Nat) : List Int := (List.range j).map (fun (i : Nat) => k + (i : Int)) ++ zs.drop j
theorem mrk_zero (zs : List Int) (k : Int) : mrk zs k 0 = zs := by simp [mrk]
theorem mrk_len (zs : List Int) (k : Int) (j : Nat) (h : j ≤ zs.length) : (mrk zs k j).length = zs.length := by simp [mrk]; omega
theorem mrk_set (zs : List Int) (k : Int) (j : Nat) (h : j < zs.length) : (mrk zs k j).set j (k + (j : Int)) = mrk zs k (j + 1) := by
  apply List.ext_getElem
  · simp [mrk]; omega
  · intro i h1 h2
    rw [List.getElem_set]
    split
    · subst_vars; simp [mrk]
    · simp only [mrk, List.getElem_append, List.length_map, List.length_range, List.getElem_map, List.getElem_range, List.getElem_drop]
      split <;> split <;> first | rfl | omega | (congr 1; omega)
theorem mrk_get (zs : List Int) (k : Int) (i : Nat) (h : i < zs.length) : (mrk zs k zs.length)[i]? = some (k + (i : Int)) := by
  simp [mrk, h]
theorem wf_i64 {z : Int} (h : -9223372036854775808 ≤ z ∧ z ≤ 9223372036854775807) : (Lit.int .i64 z).wf = true := by
  simp [Lit.wf, IntKind.min, IntKind.max, IntKind.signed, IntKind.bits]; omega
theorem i64_wf {z : Int} (h : (Lit.int .i64 z).wf = true) : -9223372036854775808 ≤ z ∧ z ≤ 9223372036854775807 := by
  simp [Lit.wf, IntKind.min, IntKind.max, IntKind.signed, IntKind.bits] at h; omega

/-! ### Plain functions -/
def ballsOk (z : Int) : Bool := decide (0 ≤ z ∧ z ≤ 40)
def urnOk (zs : List Int) : Bool := decide (1 ≤ zs.length ∧ zs.length ≤ 3) && zs.all ballsOk
theorem urnOk_len {zs : List Int} (h : zs.length < 1 ∨ 3 < zs.length) : urnOk zs = false := by
  unfold urnOk; rw [decide_eq_false (by omega)]; rfl
theorem urnOk_bad {zs : List Int} {k : Nat} {x : Int} (h : zs[k]? = some x) (hx : x < 0 ∨ 40 < x) : urnOk zs = false := by
  have hm := List.mem_of_getElem? h
  have : zs.all ballsOk = false := by
    rw [List.all_eq_false]
    exact ⟨x, hm, by simp [ballsOk]; omega⟩
  unfold urnOk; rw [this, Bool.and_false]
theorem urnOk_good {zs : List Int} (hl : 1 ≤ zs.length ∧ zs.length ≤ 3) (h : ∀ j x, j < zs.length → zs[j]? = some x → 0 ≤ x ∧ x ≤ 40) : urnOk zs = true := by
  unfold urnOk
  rw [decide_eq_true hl, Bool.true_and, List.all_eq_true]
  intro x hx
  obtain ⟨j, hj, rfl⟩ := List.getElem_of_mem hx
  simpa [ballsOk] using h j _ hj (List.getElem?_eq_getElem hj)

def sameL (xs ys : List Int) : Bool := decide (xs = ys)
theorem sameL_len {xs ys : List Int} (h : xs.length ≠ ys.length) : sameL xs ys = false := decide_eq_false (fun e => h (by rw [e]))
theorem sameL_bad {xs ys : List Int} {k : Nat} {x y : Int} (hx : xs[k]? = some x) (hy : ys[k]? = some y) (h : x ≠ y) : sameL xs ys = false :=
  decide_eq_false (fun e => by subst e; rw [hx] at hy; injection hy with hy; exact h hy)
theorem sameL_good {xs ys : List Int} (hl : xs.length = ys.length) (h : ∀ j, j < xs.length → xs[j]? = ys[j]?) : sameL xs ys = true :=
  decide_eq_true (List.ext_getElem? fun j => by
    rcases Nat.lt_or_ge j xs.length with hj | hj
    · exact h j hj
    · rw [List.getElem?_eq_none hj, List.getElem?_eq_none (by omega)])
theorem sameL_refl (xs : List Int) : sameL xs xs = true := decide_eq_true rfl
end Go.Proofs.Ythdelfhfglnhfab
