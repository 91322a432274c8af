/-
  Words, plain lemmas and contracts that belong together, joined into one file.
-/
import Derived.Test.YtffllkmaifjpfabZmark
import Derived.Test.YtffllkmaifjpfabPush
import Derived.Test.YtffllkmaifjpfabZterm
import Derived.Test.YtffllkmaifjpfabZpm
import Derived.Test.YtffllkmaifjpfabZimp
import Derived.Deep.RegionHeld3
import Derived.Lib.AppendZerosOnto
import Derived.Lib.Walk
import Derived.Laws.Externs
import Derived.Lib.Bytealg
namespace Go.Proofs.Ytffllkmaifjpfab
open Go.RowKit
set_option linter.unusedVariables false

/-- A block that holds one part: its last mark, its length, its two parts. -/
def NodeAt (w : World) (B : Nat) (v : Value) (k a : Int) (l : Nat) (p q : Value) : Prop :=
  ∃ g, v = .pointer (some ⟨g, 0, none⟩) ∧ g < B ∧ w.heap[g]? = some (.cells #[.int .i64 k, .int .i64 a, .int .i64 (l : Int), p, q] 67 (0, 0))
def PartAt (w : World) (B : Nat) : Tr → Value → Prop
  | .col c, v => NodeAt w B v 0 (c : Int) 1 (.pointer none) (.pointer none)
  | .any, v => NodeAt w B v 1 0 1 (.pointer none) (.pointer none)
  | .thn a b, v => ∃ p q, NodeAt w B v 2 0 (ln a + ln b) p q ∧ PartAt w B a p ∧ PartAt w B b q
  | .alt a b, v => ∃ p q, NodeAt w B v 3 0 (ln a) p q ∧ PartAt w B a p ∧ PartAt w B b q
section
variable {w w' : World} {B B' : Nat} {v p q : Value} {k a : Int} {l : Nat}
theorem NodeAt.keep (h : NodeAt w B v k a l p q) (hB : B ≤ B') (hk : ∀ g, g < B → (∀ cur, w.heap[g]? = some (.cells cur 67 (0, 0)) → w'.heap[g]? = w.heap[g]?)) : NodeAt w' B' v k a l p q := by
  obtain ⟨g, e, hg, hh⟩ := h
  exact ⟨g, e, Nat.lt_of_lt_of_le hg hB, (hk g hg _ hh).trans hh⟩
theorem PartAt.keep (hB : B ≤ B') (hk : ∀ g, g < B → (∀ cur, w.heap[g]? = some (.cells cur 67 (0, 0)) → w'.heap[g]? = w.heap[g]?)) : ∀ {x : Tr} {v : Value}, PartAt w B x v → PartAt w' B' x v
  | .col c, v, h => NodeAt.keep (w := w) h hB hk
  | .any, v, h => NodeAt.keep (w := w) h hB hk
  | .thn a b, v, ⟨p, q, h, h1, h2⟩ => ⟨p, q, h.keep hB hk, PartAt.keep hB hk h1, PartAt.keep hB hk h2⟩
  | .alt a b, v, ⟨p, q, h, h1, h2⟩ => ⟨p, q, h.keep hB hk, PartAt.keep hB hk h1, PartAt.keep hB hk h2⟩
theorem PartAt.below {x : Tr} (h : PartAt w B x v) (hb : Below B w w') : PartAt w' B x v := PartAt.keep (Nat.le_refl _) (fun g hg _ _ => hb.block g hg) h
theorem PartAt.more {x : Tr} (h : PartAt w B x v) (hB : B ≤ B') : PartAt w B' x v := PartAt.keep hB (fun _ _ _ _ => rfl) h
theorem PartAt.up {x : Tr} (h : PartAt w w.heap.size x v) (hq : Below w.heap.size w w') : PartAt w' w'.heap.size x v := (h.below hq).more hq.size
theorem PartAt.drewN {x : Tr} (h : PartAt w B x v) (k : Nat) : PartAt (w.drewN k) B x v := PartAt.keep (w := w) (w' := w.drewN k) (Nat.le_refl _) (fun _ _ _ _ => rfl) h
theorem PartAt.drew {x : Tr} (h : PartAt w B x v) : PartAt w.drew B x v := PartAt.keep (w := w) (w' := w.drew) (Nat.le_refl _) (fun _ _ _ _ => rfl) h
theorem NodeAt.look (h : NodeAt w B v k a l p q) : ∃ g, v = .pointer (some ⟨g, 0, none⟩) ∧ g < B ∧ w.cell? ⟨g, 0, none⟩ = some (.int .i64 k) ∧ w.cell? ⟨g, 1, none⟩ = some (.int .i64 a) ∧ w.cell? ⟨g, 2, none⟩ = some (.int .i64 (l : Int)) ∧ w.cell? ⟨g, 3, none⟩ = some p ∧ w.cell? ⟨g, 4, none⟩ = some q := by
  obtain ⟨g, e, hg, hh⟩ := h
  exact ⟨g, e, hg, by simp [World.cell?, hh], by simp [World.cell?, hh], by simp [World.cell?, hh], by simp [World.cell?, hh], by simp [World.cell?, hh]⟩
/-- What is told of the last mark of a part. -/
theorem PartAt.last {x : Tr} (h : PartAt w B x v) : ∃ g, v = .pointer (some ⟨g, 0, none⟩) ∧ g < B ∧ w.cell? ⟨g, 0, none⟩ = some (.int .i64 (lastK x)) ∧ w.cell? ⟨g, 2, none⟩ = some (.int .i64 (ln x : Int)) := by
  cases x with
  | col c => obtain ⟨g, e, hg, h0, _, h2, _⟩ := NodeAt.look h; exact ⟨g, e, hg, h0, h2⟩
  | any => obtain ⟨g, e, hg, h0, _, h2, _⟩ := NodeAt.look h; exact ⟨g, e, hg, h0, h2⟩
  | thn a b => obtain ⟨p, q, h, _, _⟩ := h; obtain ⟨g, e, hg, h0, _, h2, _⟩ := NodeAt.look h; exact ⟨g, e, hg, h0, h2⟩
  | alt a b => obtain ⟨p, q, h, _, _⟩ := h; obtain ⟨g, e, hg, h0, _, h2, _⟩ := NodeAt.look h; exact ⟨g, e, hg, h0, h2⟩
theorem PartAt.lastP {x : Tr} {a : Option Addr} (h : PartAt w B x (.pointer a)) : ∃ g, a = some ⟨g, 0, none⟩ ∧ g < B ∧ w.cell? ⟨g, 0, none⟩ = some (.int .i64 (lastK x)) ∧ w.cell? ⟨g, 2, none⟩ = some (.int .i64 (ln x : Int)) := by
  obtain ⟨g, e, h⟩ := h.last
  injection e with e
  exact ⟨g, e, h⟩
theorem PartAt.ptr {x : Tr} (h : PartAt w B x v) : ∃ g, v = .pointer (some ⟨g, 0, none⟩) ∧ g < B := by
  obtain ⟨g, e, hg, _⟩ := h.last; exact ⟨g, e, hg⟩

/-- What the call itself made: the slice v owns just the pointers vs to the parts st. -/
structure OwnP (w : World) (base : Nat) (v : Value) (st : List Tr) (vs : List Value) : Prop where
  row : w.ownsRow base 61 1 v st.length vs
  parts : ∀ (j : Nat) (x : Tr) (u : Value), st[j]? = some x → vs[j]? = some u → PartAt w w.heap.size x u
theorem OwnP.len {base : Nat} {st : List Tr} {vs : List Value} (h : OwnP w base v st vs) : vs.length = st.length := by have := h.row.1; omega
theorem OwnP.slice {base : Nat} {st : List Tr} {vs : List Value} (h : OwnP w base v st vs) : ∃ A c, v = .slice A st.length c := row_slice h.row
theorem OwnP.none_ {base : Nat} : OwnP w base (.slice none 0 0) [] [] := ⟨World.ownsRow_nil _ _ _ _, fun j x u h => by simp at h⟩
theorem OwnP.up {base : Nat} {st : List Tr} {vs : List Value} (h : OwnP w base v st vs) (hq : Below w.heap.size w w') : OwnP w' base v st vs :=
  ⟨h.row.kept (row := none) ⟨hq.os, hq.tape, hq.output, hq.size, fun k hk _ => hq.block k hk⟩ (by cases v.ownBlock <;> simp), fun j x u h1 h2 => (h.parts j x u h1 h2).up hq⟩
theorem ptr_one {x : Tr} (h : PartAt w B x v) : v.oneCell' = true := by obtain ⟨g, rfl, _⟩ := h.ptr; rfl
/-- The row of a stack lies in a block of its own kind: parts stay while it is written. -/
theorem part_beside {base n : Nat} {u : Value} {vs : List Value} {row : Option Nat} {x : Tr} (hr : w.ownsRow base 61 1 u n vs) (hrow : row = u.ownBlock) (hg : w.grownBy w' row) (h : PartAt w w.heap.size x v) : PartAt w' w'.heap.size x v := by
  refine PartAt.keep hg.size (fun g hgl cur hc => hg.block g hgl ?_) h
  intro e
  rw [hrow] at e
  rcases hr.2 with ⟨rfl, _⟩ | ⟨g', cap, cur', rfl, _, hh, _⟩
  · cases e
  · simp only [Value.ownBlock, Option.some.injEq] at e
    subst e
    rw [hh] at hc
    injection hc with hc
    injection hc with _ h2
    exact absurd h2 (by decide)
theorem node_made (w : World) (k a : Int) (l : Nat) (p q : Value) : NodeAt (w.alloc (.cells #[.int .i64 k, .int .i64 a, .int .i64 (l : Int), p, q] 67)) (w.heap.size + 1) (.pointer (some ⟨w.heap.size, 0, none⟩)) k a l p q :=
  ⟨w.heap.size, rfl, Nat.lt_succ_self _, heap_alloc_new w _⟩
end
end Go.Proofs.Ytffllkmaifjpfab

namespace Go.Proofs.Ytffllkmaifjpfab
open Go.RowKit
set_option linter.unusedVariables false

/-- What a part's first side is: nothing, or a part. -/
theorem PartAt.first {w : World} {B : Nat} {x : Tr} {v : Value} (h : PartAt w B x v) : ∃ g p, v = .pointer (some ⟨g, 0, none⟩) ∧ g < B ∧ w.cell? ⟨g, 3, none⟩ = some p ∧ ((isLeaf x = true ∧ p = .pointer none) ∨ (isLeaf x = false ∧ ∃ g', p = .pointer (some ⟨g', 0, none⟩))) := by
  cases x with
  | col c => obtain ⟨g, e, hg, _, _, _, h3, _⟩ := NodeAt.look h; exact ⟨g, _, e, hg, h3, .inl ⟨rfl, rfl⟩⟩
  | any => obtain ⟨g, e, hg, _, _, _, h3, _⟩ := NodeAt.look h; exact ⟨g, _, e, hg, h3, .inl ⟨rfl, rfl⟩⟩
  | thn a b => obtain ⟨p, q, h, h1, _⟩ := h; obtain ⟨g, e, hg, _, _, _, h3, _⟩ := NodeAt.look h; obtain ⟨g', e', _⟩ := h1.ptr; exact ⟨g, _, e, hg, h3, .inr ⟨rfl, g', e'⟩⟩
  | alt a b => obtain ⟨p, q, h, h1, _⟩ := h; obtain ⟨g, e, hg, _, _, _, h3, _⟩ := NodeAt.look h; obtain ⟨g', e', _⟩ := h1.ptr; exact ⟨g, _, e, hg, h3, .inr ⟨rfl, g', e'⟩⟩

theorem isJoined_c (x : Tr) (v : Value) (B : Nat) (w : World) (h : PartAt w B x v) :
    Calls Try.prog 86 #[v] w fun e w' => e = .returned (.bool (!isLeaf x)) ∧ w = w' := by
  obtain ⟨g, p, rfl, _, h3, ⟨hl, rfl⟩ | ⟨hl, g', rfl⟩⟩ := h.first
  · rw [hl]
    clear h hl
    go_enter Try.func86, Try.ntmps86
    go_wp2
    go_ret
    exact ⟨rfl, rfl⟩
  · rw [hl]
    clear h hl
    go_enter Try.func86, Try.ntmps86
    go_wp2
    go_ret
    exact ⟨rfl, rfl⟩
theorem isOr_c (x : Tr) (v : Value) (B : Nat) (w : World) (h : PartAt w B x v) :
    Calls Try.prog 85 #[v] w fun e w' => e = .returned (.bool (isAlt x)) ∧ w = w' := by
  obtain ⟨g, rfl, _, h0, _⟩ := h.last
  have hk := hide (show (lastK x == 3) = isAlt x by cases x <;> rfl)
  obtain ⟨K, hK⟩ : ∃ K, Hid (lastK x = K) := ⟨_, hide rfl⟩
  rw [hK.out] at h0 hk
  rw [← hk.out]
  clear h
  go_enter Try.func85, Try.ntmps85
  go_wp2
  go_ret
  exact ⟨rfl, rfl⟩
def drawOk (C k a : Int) : Bool := if k = 1 then decide (a = 0) else decide (0 ≤ a ∧ a < C)
theorem drawMarkOk_c (C k a : Int) (w : World) :
    Calls Try.prog 102 #[.int .i64 C, .agg #[.int .i64 k, .int .i64 a]] w fun e w' => e = .returned (.bool (drawOk C k a)) ∧ Below w.heap.size w w' := by
  by_cases h1 : k = 1
  · subst h1
    have he := hide (show drawOk C 1 a = (a == 0) by unfold drawOk; rw [if_pos rfl]; rfl)
    go_enter Try.func102, Try.ntmps102
    go_wp2
    go_ret
    exact ⟨ret_bool he.out.symm, al _ _⟩
  · have he := hide (show drawOk C k a = decide (0 ≤ a ∧ a < C) by unfold drawOk; rw [if_neg h1])
    have hk : (k == 1) = false := by simpa using h1
    by_cases h2 : 0 ≤ a
    · by_cases h3 : a < C
      · go_enter Try.func102, Try.ntmps102
        go_wp2
        go_ret
        exact ⟨ret_bool (by rw [he.out]; exact (decide_eq_true ⟨h2, h3⟩).symm), al _ _⟩
      · go_enter Try.func102, Try.ntmps102
        go_wp2
        go_ret
        exact ⟨ret_bool (by rw [he.out]; exact (decide_eq_false (by omega)).symm), al _ _⟩
    · go_enter Try.func102, Try.ntmps102
      go_wp2
      go_ret
      exact ⟨ret_bool (by rw [he.out]; exact (decide_eq_false (by omega)).symm), al _ _⟩
def joinL (k : Int) (l m : Nat) : Nat := if k = 2 then l + m else if k = 3 then l else 0
def joinB (k : Int) (l m : Nat) : Bool := if k = 2 then decide (l + m ≤ 6) else if k = 3 then decide (l = m) else false
theorem joinedLength_c (k : Int) (l m : Nat) (w : World) (hl : l ≤ 6) (hm : m ≤ 6) :
    Calls Try.prog 103 #[.int .i64 k, .int .i64 (l : Int), .int .i64 (m : Int)] w fun e w' => e = .returned (.tuple #[.int .i64 (joinL k l m : Int), .bool (joinB k l m)]) ∧ w = w' := by
  by_cases h2 : k = 2
  · subst h2
    have e1 := hide (show (joinL 2 l m : Int) = (l : Int) + (m : Int) by unfold joinL; rw [if_pos rfl]; omega)
    have e2 := hide (show joinB 2 l m = decide ((l : Int) + (m : Int) ≤ 6) by unfold joinB; rw [if_pos rfl]; exact decide_eq_decide.2 (by omega))
    go_enter Try.func103, Try.ntmps103
    go_wp2
    go_ret2
    exact ⟨by rw [e1.out, e2.out]; rfl, rfl⟩
  · have hk2 : (k == 2) = false := by simpa using h2
    by_cases h3 : k = 3
    · subst h3
      have e1 := hide (show joinL 3 l m = l by unfold joinL; rw [if_neg (by decide), if_pos rfl])
      by_cases h6 : l = m
      · subst h6
        have e2 := hide (show joinB 3 l l = true by unfold joinB; rw [if_neg (by decide), if_pos rfl]; exact decide_eq_true rfl)
        go_enter Try.func103, Try.ntmps103
        go_wp2
        go_ret2
        exact ⟨by rw [e1.out, e2.out]; rfl, rfl⟩
      · have hlm : ((l : Int) == (m : Int)) = false := by simp; omega
        have e2 := hide (show joinB 3 l m = false by unfold joinB; rw [if_neg (by decide), if_pos rfl]; exact decide_eq_false h6)
        go_enter Try.func103, Try.ntmps103
        go_wp2
        go_ret2
        exact ⟨by rw [e1.out, e2.out]; rfl, rfl⟩
    · have hk3 : (k == 3) = false := by simpa using h3
      have e1 := hide (show joinL k l m = 0 by unfold joinL; rw [if_neg h2, if_neg h3])
      have e2 := hide (show joinB k l m = false by unfold joinB; rw [if_neg h2, if_neg h3])
      go_enter Try.func103, Try.ntmps103
      go_wp2
      go_ret2
      exact ⟨by rw [e1.out, e2.out]; rfl, rfl⟩
end Go.Proofs.Ytffllkmaifjpfab

namespace Go.Proofs.Ytffllkmaifjpfab
open Go.RowKit
set_option linter.unusedVariables false

theorem rowDr {w : World} {b m : Nat} {e : TypeId} {sz : Nat} {v : Value} {xs : List Value} (h : w.ownsRow b e sz v m xs) : w.drew.ownsRow b e sz v m xs := h
theorem rowAl {w : World} {b m : Nat} {e : TypeId} {sz : Nat} {v : Value} {xs : List Value} (h : w.ownsRow b e sz v m xs) (o : Obj) : (w.alloc o).ownsRow b e sz v m xs := h.alloc o
theorem rowUp {w w' : World} {b m : Nat} {e : TypeId} {sz : Nat} {v : Value} {xs : List Value} (h : w.ownsRow b e sz v m xs) (hq : Below w.heap.size w w') : w'.ownsRow b e sz v m xs :=
  h.kept (row := none) ⟨hq.os, hq.tape, hq.output, hq.size, fun k hk _ => hq.block k hk⟩ (by cases v.ownBlock <;> simp)
theorem partDr {w : World} {x : Tr} {v : Value} (h : PartAt w w.heap.size x v) : PartAt w.drew w.drew.heap.size x v := h.drew
theorem partAl {w : World} {x : Tr} {v : Value} (h : PartAt w w.heap.size x v) (o : Obj) : PartAt (w.alloc o) (w.alloc o).heap.size x v := h.up (al w o)
theorem partUp {w w' : World} {x : Tr} {v : Value} (h : PartAt w w.heap.size x v) (hq : Below w.heap.size w w') : PartAt w' w'.heap.size x v := h.up hq
def Carry (w w' : World) : Prop := ∀ (x : Tr) (v : Value), PartAt w w.heap.size x v → PartAt w' w'.heap.size x v
theorem partApp {w w' : World} {x : Tr} {v : Value} (hc : Carry w w') (h : PartAt w w.heap.size x v) : PartAt w' w'.heap.size x v := hc x v h
theorem carryApp {w w' : World} {base n : Nat} {u : Value} {vs : List Value} (hg : w.grownBy w' u.ownBlock) (hr : w.ownsRow base 61 1 u n vs) : Carry w w' := fun x v h => part_beside hr rfl hg h
theorem bAl {base : Nat} {w W : World} (h : Below base w W) (hB : base ≤ w.heap.size) (o : Obj) : Below base w (W.alloc o) := h.alloc (Nat.le_trans hB h.size) o
theorem bUp {base : Nat} {w W w' : World} (h : Below base w W) (hB : base ≤ w.heap.size) (hq : Below W.heap.size W w') : Below base w w' := h.trans (hq.mono (Nat.le_trans hB h.size))
def BCarry (base : Nat) (w W w' : World) : Prop := Below base w W → Below base w w'
theorem bApp {base : Nat} {w W w' : World} (hc : BCarry base w W w') (h : Below base w W) : Below base w w' := hc h
theorem bCarry {base : Nat} {w W w' : World} {row : Option Nat} (hg : W.grownBy w' row) (hB : base ≤ w.heap.size) (hrow : ∀ j, row = some j → base ≤ j) : BCarry base w W w' := fun h => h.grown hg (Nat.le_trans hB h.size) hrow
theorem partLeaf (X : World) {C k a : Int} (hk : k = 0 ∨ k = 1) (hd : drawOk C k a = true) (g : Nat) (hg : g = X.heap.size) : PartAt (X.alloc (.cells #[.int .i64 k, .int .i64 a, .int .i64 1, .pointer none, .pointer none] 67)) (X.alloc (.cells #[.int .i64 k, .int .i64 a, .int .i64 1, .pointer none, .pointer none] 67)).heap.size (if k = 1 then .any else .col a.toNat) (.pointer (some ⟨g, 0, none⟩)) := by
  subst hg
  have := node_made X k a 1 (.pointer none) (.pointer none)
  rw [World.size_alloc]
  unfold drawOk at hd
  rcases hk with rfl | rfl
  · rw [if_neg (by decide)] at hd ⊢
    have h := of_decide_eq_true hd
    obtain ⟨c, rfl⟩ : ∃ c : Nat, a = (c : Int) := ⟨a.toNat, by omega⟩
    exact this
  · rw [if_pos rfl] at hd ⊢
    have h := of_decide_eq_true hd
    subst h
    exact this
theorem ownP_push {w w2 : World} {base n c' : Nat} {v p : Value} {A' : Option Addr} {st : List Tr} {vs : List Value} {X : Tr} (ho : OwnP w base v st vs) (hn : n = st.length) (hold : ∀ x u, PartAt w w.heap.size x u → PartAt w2 w2.heap.size x u) (hr : w2.ownsRow base 61 1 (.slice A' (n + 1) c') (n + 1) (vs ++ [p])) (hx : PartAt w2 w2.heap.size X p) : OwnP w2 base (.slice A' (n + 1) c') (st ++ [X]) (vs ++ [p]) := by
  subst hn
  refine ⟨by rw [List.length_append]; exact hr, fun j x u h1 h2 => ?_⟩
  have hl := ho.len
  rcases Nat.lt_or_ge j st.length with h | h
  · rw [List.getElem?_append_left h] at h1
    rw [List.getElem?_append_left (by omega)] at h2
    exact hold x u (ho.parts j x u h1 h2)
  · rw [List.getElem?_append_right h] at h1
    rw [List.getElem?_append_right (by omega), hl] at h2
    obtain ⟨i, hi⟩ : ∃ i, j - st.length = i := ⟨_, rfl⟩
    rw [hi] at h1 h2
    cases i with
    | zero => simp at h1 h2; subst h1; subst h2; exact hx
    | succ i => simp at h1
theorem infoPtr : (Try.prog.info? 61).map (fun i => (i.zero, i.size, i.bytes)) = some (some (.pointer none), 1, 8) := by kernel_rfl
theorem leaf_step {C k a : Int} {st : List Tr} (hk : k = 0 ∨ k = 1) : stepT C st (k, a) = if drawOk C k a then some ((if k = 1 then .any else .col a.toNat) :: st) else none := by
  unfold stepT drawOk
  rcases hk with rfl | rfl
  · by_cases h : 0 ≤ a ∧ a < C
    · simp [h]
    · have h2 : ¬ (0 ≤ a ∧ a < C) := h
      simp only [h2, and_false, if_false, decide_false]
      simp
      rcases st with _ | ⟨b, _ | ⟨c, r⟩⟩ <;> simp
  · by_cases h : a = 0
    · simp [h]
    · simp [h]
      rcases st with _ | ⟨b, _ | ⟨c, r⟩⟩ <;> simp

set_option maxRecDepth 100000 in
set_option maxHeartbeats 6400000 in
/-- A mark of one draw: one part more on the stack. -/
theorem stackLeaf_c (C k a : Int) (base : Nat) (A : Option Addr) (n c : Nat) (st : List Tr) (vs : List Value) (w : World) (ho : OwnP w base (.slice A n c) st vs) (hn : n = st.length) (hn15 : n ≤ 1000) (hB : base ≤ w.heap.size) (hk : k = 0 ∨ k = 1) :
    Calls Try.prog 82 #[.int .i64 C, .slice A n c, .agg #[.int .i64 k, .int .i64 a]] w fun e w' => ∃ A' c', e = .returned (.tuple #[.slice A' (n + 1) c', .bool (drawOk C k a)]) ∧ Below base w w' ∧ (drawOk C k a = true → ∃ vs', OwnP w' base (.slice A' (n + 1) c') (st ++ [if k = 1 then .any else .col a.toNat]) vs') := by
  obtain ⟨ip, hip, hp0, hp1, hp2⟩ := info_parts infoPtr
  have hrow := hide ho.row
  replace hn := hide hn
  have hlt := fun (j : Nat) (hj : (Value.slice A n c).ownBlock = some j) => hrow.out.lt j hj
  have hkk : ((k == 0) || (k == 1)) = true := by rcases hk with rfl | rfl <;> rfl
  replace ho := hide ho
  replace hlt := hide hlt
  have hrow3 := hide (show World.ownsRow (((w.alloc (.cells #[.int .i64 k, .int .i64 a] 57)).alloc (.cells #[.int .i64 k, .int .i64 a, .int .i64 1, .pointer none, .pointer none] 67)).alloc (.cells #[.pointer (some ⟨w.heap.size + 1, 0, none⟩)] 61)).drew base 61 1 (.slice A n c) n vs from by
    have := ho.out.row
    rw [← hn.out] at this
    exact rowDr (rowAl (rowAl (rowAl this _) _) _))
  have hlit3 := hide (lit_cellsAt ((w.alloc (.cells #[.int .i64 k, .int .i64 a] 57)).alloc (.cells #[.int .i64 k, .int .i64 a, .int .i64 1, .pointer none, .pointer none] 67)) [.pointer (some ⟨w.heap.size + 1, 0, none⟩)] 61 (w.heap.size + 1 + 1) (by simp))
  have hB3 : base ≤ (((w.alloc (.cells #[.int .i64 k, .int .i64 a] 57)).alloc (.cells #[.int .i64 k, .int .i64 a, .int .i64 1, .pointer none, .pointer none] 67)).alloc (.cells #[.pointer (some ⟨w.heap.size + 1, 0, none⟩)] 61)).drew.heap.size := by simp; omega
  have hat3 := fun (w3 : World) (hg : World.grownBy (((w.alloc (.cells #[.int .i64 k, .int .i64 a] 57)).alloc (.cells #[.int .i64 k, .int .i64 a, .int .i64 1, .pointer none, .pointer none] 67)).alloc (.cells #[.pointer (some ⟨w.heap.size + 1, 0, none⟩)] 61)).drew w3 (Value.slice A n c).ownBlock) => show w3.cell? ⟨w.heap.size, 0, none⟩ = some (.int .i64 k) ∧ w3.cell? ⟨w.heap.size, 1, none⟩ = some (.int .i64 a) from
    ⟨hg.cell (a := ⟨w.heap.size, 0, none⟩) ((World.cell?_alloc_lt _ _ _ (by simp; omega)).trans ((World.cell?_alloc_lt _ _ _ (by simp)).trans (by rw [World.cell?_alloc_at _ _ _ _ rfl]; rfl))) (fun e => by have := (hlt.out _ e.symm).2; simp at this), hg.cell (a := ⟨w.heap.size, 1, none⟩) ((World.cell?_alloc_lt _ _ _ (by simp; omega)).trans ((World.cell?_alloc_lt _ _ _ (by simp)).trans (by rw [World.cell?_alloc_at _ _ _ _ rfl]; rfl))) (fun e => by have := (hlt.out _ e.symm).2; simp at this)⟩
  have hsz3 := fun (w3 : World) (hg : World.grownBy (((w.alloc (.cells #[.int .i64 k, .int .i64 a] 57)).alloc (.cells #[.int .i64 k, .int .i64 a, .int .i64 1, .pointer none, .pointer none] 67)).alloc (.cells #[.pointer (some ⟨w.heap.size + 1, 0, none⟩)] 61)).drew w3 (Value.slice A n c).ownBlock) => show w.heap.size < w3.heap.size from Nat.lt_of_lt_of_le (by simp; omega) hg.size
  have hbel3 := hide (fun (w3 : World) (hg : World.grownBy (((w.alloc (.cells #[.int .i64 k, .int .i64 a] 57)).alloc (.cells #[.int .i64 k, .int .i64 a, .int .i64 1, .pointer none, .pointer none] 67)).alloc (.cells #[.pointer (some ⟨w.heap.size + 1, 0, none⟩)] 61)).drew w3 (Value.slice A n c).ownBlock) => show Below base w w3 from
    (bAl (bAl (bAl (Below.refl _ _) hB _) hB _) hB _).drew.grown hg hB3 (fun j hj => (hlt.out j hj).1))
  rcases hk with rfl | rfl
  · go_enter Try.func82, Try.ntmps82
    go_wp2_with fail
    go_region_held3 (fun wX => wX.cell? ⟨w.heap.size, 0, none⟩ = some (.int .i64 0) ∧ wX.cell? ⟨w.heap.size, 1, none⟩ = some (.int .i64 a)) (first | exact ⟨v0, v1⟩ | exact ⟨s0, s1⟩ | go_keep) (first | (refine step_push _ rfl _ _ 92 rfl base 61 ip (.pointer none) 1 8 Try.underlying92 hip hp0 hp1 hp2 rfl (by decide) (by decide) (.slice A n c) n vs rfl hrow3.out _ 1 [.pointer (some ⟨w.heap.size + 1, 0, none⟩)] rfl rfl hlit3.out (by intro u hu; simp at hu; subst hu; rfl) (by omega) hB3 ?_; intro A3 c3 w3 hr3 hg3; have v0 : w3.cell? ⟨w.heap.size, 0, none⟩ = some (.int .i64 0) := (hat3 w3 hg3).1; have v1 : w3.cell? ⟨w.heap.size, 1, none⟩ = some (.int .i64 a) := (hat3 w3 hg3).2) | (go_at_call 102; (refine (drawMarkOk_c C 0 a _).mono ?_); rintro e w2 ⟨rfl, hq2⟩; have s0 : w2.cell? ⟨w.heap.size, 0, none⟩ = some (.int .i64 0) := (hq2.cell (p := ⟨w.heap.size, 0, none⟩) (hsz3 w3 hg3)).trans v0; have s1 : w2.cell? ⟨w.heap.size, 1, none⟩ = some (.int .i64 a) := (hq2.cell (p := ⟨w.heap.size, 1, none⟩) (hsz3 w3 hg3)).trans v1))
    go_wp2_with fail
    go_ret2
    exact ⟨A3, c3, rfl, bUp (hbel3.out w3 hg3) hB hq2, fun hd => ⟨_, ownP_push ho.out hn.out (fun x u hp => partUp (carryApp hg3 hrow3.out x u (partDr (partAl (partAl (partAl hp _) _) _))) hq2) (rowUp hr3 hq2) (partUp (carryApp hg3 hrow3.out _ _ (partDr (partAl (partLeaf (w.alloc (.cells #[.int .i64 0, .int .i64 a] 57)) (.inl rfl) hd (w.heap.size + 1) (by simp)) _))) hq2)⟩⟩
  · go_enter Try.func82, Try.ntmps82
    go_wp2_with fail
    go_region_held3 (fun wX => wX.cell? ⟨w.heap.size, 0, none⟩ = some (.int .i64 1) ∧ wX.cell? ⟨w.heap.size, 1, none⟩ = some (.int .i64 a)) (first | exact ⟨v0, v1⟩ | exact ⟨s0, s1⟩ | go_keep) (first | (refine step_push _ rfl _ _ 92 rfl base 61 ip (.pointer none) 1 8 Try.underlying92 hip hp0 hp1 hp2 rfl (by decide) (by decide) (.slice A n c) n vs rfl hrow3.out _ 1 [.pointer (some ⟨w.heap.size + 1, 0, none⟩)] rfl rfl hlit3.out (by intro u hu; simp at hu; subst hu; rfl) (by omega) hB3 ?_; intro A3 c3 w3 hr3 hg3; have v0 : w3.cell? ⟨w.heap.size, 0, none⟩ = some (.int .i64 1) := (hat3 w3 hg3).1; have v1 : w3.cell? ⟨w.heap.size, 1, none⟩ = some (.int .i64 a) := (hat3 w3 hg3).2) | (go_at_call 102; (refine (drawMarkOk_c C 1 a _).mono ?_); rintro e w2 ⟨rfl, hq2⟩; have s0 : w2.cell? ⟨w.heap.size, 0, none⟩ = some (.int .i64 1) := (hq2.cell (p := ⟨w.heap.size, 0, none⟩) (hsz3 w3 hg3)).trans v0; have s1 : w2.cell? ⟨w.heap.size, 1, none⟩ = some (.int .i64 a) := (hq2.cell (p := ⟨w.heap.size, 1, none⟩) (hsz3 w3 hg3)).trans v1))
    go_wp2_with fail
    go_ret2
    exact ⟨A3, c3, rfl, bUp (hbel3.out w3 hg3) hB hq2, fun hd => ⟨_, ownP_push ho.out hn.out (fun x u hp => partUp (carryApp hg3 hrow3.out x u (partDr (partAl (partAl (partAl hp _) _) _))) hq2) (rowUp hr3 hq2) (partUp (carryApp hg3 hrow3.out _ _ (partDr (partAl (partLeaf (w.alloc (.cells #[.int .i64 1, .int .i64 a] 57)) (.inr rfl) hd (w.heap.size + 1) (by simp)) _))) hq2)⟩⟩
def joinT (k : Int) (x y : Tr) : Tr := if k = 2 then .thn x y else .alt x y
theorem join_step {C k : Int} {x y : Tr} {r : List Tr} (h0 : k ≠ 0) (h1 : k ≠ 1) : stepT C (y :: x :: r) (k, 0) = if joinB k (ln x) (ln y) then some ((joinT k x y) :: r) else none := by
  unfold stepT joinB joinT
  simp only [h0, h1, false_and, if_false, true_and]
  by_cases h2 : k = 2
  · subst h2
    by_cases h : ln x + ln y ≤ 6 <;> simp [h]
  · by_cases h3 : k = 3
    · subst h3
      by_cases h : ln x = ln y <;> simp [h]
    · simp [h2, h3]
theorem join_short {C k a : Int} {st : List Tr} (h0 : k ≠ 0) (h1 : k ≠ 1) (h : st.length < 2 ∨ a ≠ 0) : stepT C st (k, a) = none := by
  unfold stepT
  simp only [h0, h1, false_and, if_false]
  rcases st with _ | ⟨b, _ | ⟨c, r⟩⟩
  · rfl
  · rfl
  · rcases h with h | h
    · simp at h; omega
    · simp [h]
theorem rowCut {w : World} {base n c k g : Nat} {e : TypeId} {vs : List Value} (h : w.ownsRow base e 1 (.slice (some ⟨g, 0, none⟩) n c) n vs) (hk : k ≤ n) : w.ownsRow base e 1 (.slice (some ⟨g, 0, none⟩) k c) k (vs.take k) := by
  obtain ⟨h1, h2⟩ := h
  rcases h2 with ⟨e, _⟩ | ⟨g', cap, cur, e, hg, hh, hn, hm, hs, ht⟩
  · cases e
  · injection e with e1 e2 e3
    injection e1 with e1
    injection e1 with e1
    subst e1; subst e3
    refine ⟨by rw [List.length_take]; omega, .inr ⟨_, _, cur, rfl, hg, hh, by omega, hm, hs, ?_⟩⟩
    rw [← ht, Nat.mul_one, Nat.mul_one, List.take_take, Nat.min_eq_left hk]
theorem partJoin (X : World) {k : Int} {x y : Tr} {p q : Value} (hd : joinB k (ln x) (ln y) = true) (hp : PartAt X X.heap.size x p) (hq : PartAt X X.heap.size y q) (g : Nat) (hg : g = X.heap.size) : PartAt (X.alloc (.cells #[.int .i64 k, .int .i64 0, .int .i64 (joinL k (ln x) (ln y) : Int), p, q] 67)) (X.alloc (.cells #[.int .i64 k, .int .i64 0, .int .i64 (joinL k (ln x) (ln y) : Int), p, q] 67)).heap.size (joinT k x y) (.pointer (some ⟨g, 0, none⟩)) := by
  subst hg
  unfold joinT
  have hn := node_made X k 0 (joinL k (ln x) (ln y)) p q
  have h1 := partAl hp (.cells #[.int .i64 k, .int .i64 0, .int .i64 (joinL k (ln x) (ln y) : Int), p, q] 67)
  have h2 := partAl hq (.cells #[.int .i64 k, .int .i64 0, .int .i64 (joinL k (ln x) (ln y) : Int), p, q] 67)
  have hz := World.size_alloc X (.cells #[.int .i64 k, .int .i64 0, .int .i64 (joinL k (ln x) (ln y) : Int), p, q] 67)
  rw [← hz] at hn
  unfold joinB at hd
  by_cases h2' : k = 2
  · subst h2'
    rw [if_pos rfl]
    have e : joinL 2 (ln x) (ln y) = ln x + ln y := by unfold joinL; rw [if_pos rfl]
    rw [e] at hn h1 h2 ⊢
    exact ⟨p, q, hn, h1, h2⟩
  · rw [if_neg h2'] at hd ⊢
    by_cases h3 : k = 3
    · subst h3
      have e : joinL 3 (ln x) (ln y) = ln x := by unfold joinL; rw [if_neg (by decide), if_pos rfl]
      rw [e] at hn h1 h2 ⊢
      exact ⟨p, q, hn, h1, h2⟩
    · rw [if_neg h3] at hd; cases hd
theorem partJoin' (X : World) {k : Int} {x y : Tr} {p q : Value} {lx ly : Nat} (hlx : ln x = lx) (hly : ln y = ly) (hd : joinB k (ln x) (ln y) = true) (hp : PartAt X X.heap.size x p) (hq : PartAt X X.heap.size y q) (g : Nat) (hg : g = X.heap.size) : PartAt (X.alloc (.cells #[.int .i64 k, .int .i64 0, .int .i64 (joinL k lx ly : Int), p, q] 67)) (X.alloc (.cells #[.int .i64 k, .int .i64 0, .int .i64 (joinL k lx ly : Int), p, q] 67)).heap.size (joinT k x y) (.pointer (some ⟨g, 0, none⟩)) := by
  subst hlx; subst hly
  exact partJoin X hd hp hq g hg

set_option maxRecDepth 100000 in
set_option maxHeartbeats 6400000 in
/-- A mark that puts two parts together, where it cannot. -/
theorem stackShort_c (C k a : Int) (A : Option Addr) (n c : Nat) (w : World) (hn15 : n ≤ 1000) (h0 : k ≠ 0) (h1 : k ≠ 1) (h : n < 2 ∨ a ≠ 0) :
    Calls Try.prog 82 #[.int .i64 C, .slice A n c, .agg #[.int .i64 k, .int .i64 a]] w fun e w' => e = .returned (.tuple #[.slice none 0 0, .bool false]) ∧ Below w.heap.size w w' := by
  have hk0 : (k == 0) = false := by simpa using h0
  have hk1 : (k == 1) = false := by simpa using h1
  by_cases h2 : n < 2
  · go_enter Try.func82, Try.ntmps82
    go_wp2
    go_ret2
    exact ⟨rfl, al _ _⟩
  · have ha : (a != 0) = true := by rcases h with h | h; (· omega); (· simpa using h)
    go_enter Try.func82, Try.ntmps82
    go_wp2
    go_ret2
    exact ⟨rfl, al _ _⟩

set_option maxRecDepth 100000 in
set_option maxHeartbeats 6400000 in
/-- A mark that puts the last two parts together. -/
theorem stackJoin_c (C k : Int) (base g K : Nat) (n c : Nat) (s0 : List Tr) (x y : Tr) (vs : List Value) (w : World) (ho : OwnP w base (.slice (some ⟨g, 0, none⟩) n c) (s0 ++ [x, y]) vs) (hn : n = K + 2) (hK : s0.length = K) (hn15 : n ≤ 1000) (hB : base ≤ w.heap.size) (h0 : k ≠ 0) (h1 : k ≠ 1) (hx6 : ln x ≤ 6) (hy6 : ln y ≤ 6) :
    Calls Try.prog 82 #[.int .i64 C, .slice (some ⟨g, 0, none⟩) n c, .agg #[.int .i64 k, .int .i64 0]] w fun e w' => ∃ A' c', e = .returned (.tuple #[.slice A' (K + 1) c', .bool (joinB k (ln x) (ln y))]) ∧ Below base w w' ∧ (joinB k (ln x) (ln y) = true → ∃ vs', OwnP w' base (.slice A' (K + 1) c') (s0 ++ [joinT k x y]) vs') := by
  obtain ⟨ip, hip, hp0, hp1, hp2⟩ := info_parts infoPtr
  have hk0 : (k == 0) = false := by simpa using h0
  have hk1 : (k == 1) = false := by simpa using h1
  have hvl := ho.len
  simp only [List.length_append, List.length_cons, List.length_nil] at hvl
  obtain ⟨K1, hK1⟩ : ∃ K1 : Nat, K1 = K + 1 := ⟨_, rfl⟩
  have hrow := ho.row
  rw [show (s0 ++ [x, y]).length = n by simp; omega] at hrow
  obtain ⟨p, hp⟩ : ∃ p, vs[K]? = some p := ⟨_, List.getElem?_eq_getElem (by omega)⟩
  obtain ⟨q, hq⟩ : ∃ q, vs[K1]? = some q := ⟨_, List.getElem?_eq_getElem (by omega)⟩
  have hpx := ho.parts K x p (by rw [List.getElem?_append_right (by omega), hK, Nat.sub_self]; rfl) hp
  have hqy := ho.parts K1 y q (by rw [List.getElem?_append_right (by omega), hK1, hK, show K + 1 - K = 1 by omega]; rfl) hq
  have hcp : w.cell? ⟨g, K, none⟩ = some p := by rw [hrow.cellAt K (by omega), hp]
  have hcq : w.cell? ⟨g, K1, none⟩ = some q := by rw [hrow.cellAt K1 (by omega), hq]
  have hnK : (n : Int) - 2 = (K : Int) := by omega
  have hKK : (K : Int) + 1 = (K1 : Int) := by omega
  obtain ⟨gp, rfl, hgp, _, hlp⟩ := hpx.last
  obtain ⟨gq, rfl, hgq, _, hlq⟩ := hqy.last
  have hKn : K < n := by omega
  have hK1n : K1 < n := by omega
  have hgw : g < w.heap.size := (hrow.lt g rfl).2
  have hKc : K ≤ c := by
    rcases row_shape hrow with ⟨e, _⟩ | ⟨g', c', e, _, _, hc, _⟩
    · cases e
    · injection e with _ _ e3; omega
  replace ho := hide ho
  replace hrow := hide hrow
  replace hpx := hide hpx
  replace hqy := hide hqy
  replace hp := hide hp
  replace hq := hide hq
  replace hn := hide hn
  replace hK := hide hK
  replace hK1 := hide hK1
  replace hvl := hide hvl
  obtain ⟨lx, hlx⟩ : ∃ l, Hid (ln x = l) := ⟨_, hide rfl⟩
  obtain ⟨ly, hly⟩ : ∃ l, Hid (ln y = l) := ⟨_, hide rfl⟩
  rw [hlx.out] at hlp hx6
  rw [hly.out] at hlq hy6
  have HJ := hide (fun W => joinedLength_c k lx ly W hx6 hy6)
  have hrow3 := hide (fun (N : Nat) => show World.ownsRow ((((w.alloc (.cells #[.int .i64 k, .int .i64 0] 57)).drewN N).alloc (.cells #[.int .i64 k, .int .i64 0, .int .i64 (joinL k lx ly : Int), .pointer (some ⟨gp, 0, none⟩), .pointer (some ⟨gq, 0, none⟩)] 67)).alloc (.cells #[.pointer (some ⟨w.heap.size + 1, 0, none⟩)] 61)) base 61 1 (.slice (some ⟨g, 0, none⟩) K c) K (vs.take K) from rowAl (rowAl (rowCut (show ((w.alloc (.cells #[.int .i64 k, .int .i64 0] 57)).drewN N).ownsRow base 61 1 _ n vs from rowAl hrow.out _) (by omega)) _) _)
  have hlit3 := hide (fun (N : Nat) => lit_cellsAt (((w.alloc (.cells #[.int .i64 k, .int .i64 0] 57)).drewN N).alloc (.cells #[.int .i64 k, .int .i64 0, .int .i64 (joinL k lx ly : Int), .pointer (some ⟨gp, 0, none⟩), .pointer (some ⟨gq, 0, none⟩)] 67)) [.pointer (some ⟨w.heap.size + 1, 0, none⟩)] 61 (w.heap.size + 1 + 1) (by simp))
  have hB3 := hide (fun (N : Nat) => show base ≤ ((((w.alloc (.cells #[.int .i64 k, .int .i64 0] 57)).drewN N).alloc (.cells #[.int .i64 k, .int .i64 0, .int .i64 (joinL k lx ly : Int), .pointer (some ⟨gp, 0, none⟩), .pointer (some ⟨gq, 0, none⟩)] 67)).alloc (.cells #[.pointer (some ⟨w.heap.size + 1, 0, none⟩)] 61)).heap.size from by simp; omega)
  have hlt3 := hide (fun (j : Nat) (hj : (Value.slice (some ⟨g, 0, none⟩) K c).ownBlock = some j) => show base ≤ j ∧ j < w.heap.size from hrow.out.lt j (by simpa [Value.ownBlock] using hj))
  have hbel3 := hide (fun (N : Nat) (w3 : World) (hg : World.grownBy ((((w.alloc (.cells #[.int .i64 k, .int .i64 0] 57)).drewN N).alloc (.cells #[.int .i64 k, .int .i64 0, .int .i64 (joinL k lx ly : Int), .pointer (some ⟨gp, 0, none⟩), .pointer (some ⟨gq, 0, none⟩)] 67)).alloc (.cells #[.pointer (some ⟨w.heap.size + 1, 0, none⟩)] 61)) w3 (Value.slice (some ⟨g, 0, none⟩) K c).ownBlock) => show Below base w w3 from
    (bAl (bAl (below_drewN (bAl (Below.refl _ _) hB _) N) hB _) hB _).grown hg (hB3.out N) (fun j hj => (hlt3.out j hj).1))
  have hat3 := hide (fun (N : Nat) (w3 : World) (hg : World.grownBy ((((w.alloc (.cells #[.int .i64 k, .int .i64 0] 57)).drewN N).alloc (.cells #[.int .i64 k, .int .i64 0, .int .i64 (joinL k lx ly : Int), .pointer (some ⟨gp, 0, none⟩), .pointer (some ⟨gq, 0, none⟩)] 67)).alloc (.cells #[.pointer (some ⟨w.heap.size + 1, 0, none⟩)] 61)) w3 (Value.slice (some ⟨g, 0, none⟩) K c).ownBlock) => show w3.cell? ⟨w.heap.size, 0, none⟩ = some (.int .i64 k) ∧ w3.cell? ⟨w.heap.size, 1, none⟩ = some (.int .i64 0) from
    ⟨hg.cell (a := ⟨w.heap.size, 0, none⟩) ((World.cell?_alloc_lt _ _ _ (by simp; omega)).trans ((World.cell?_alloc_lt _ _ _ (by simp)).trans (show (w.alloc _).cell? _ = _ by rw [World.cell?_alloc_at _ _ _ _ rfl]; rfl))) (fun e => by have := (hlt3.out _ e.symm).2; simp at this), hg.cell (a := ⟨w.heap.size, 1, none⟩) ((World.cell?_alloc_lt _ _ _ (by simp; omega)).trans ((World.cell?_alloc_lt _ _ _ (by simp)).trans (show (w.alloc _).cell? _ = _ by rw [World.cell?_alloc_at _ _ _ _ rfl]; rfl))) (fun e => by have := (hlt3.out _ e.symm).2; simp at this)⟩)
  clear h0 h1
  go_enter Try.func82, Try.ntmps82
  go_wp2_with fail
  go_quiet (fail)
  go_wp2_with fail
  go_quiet (first | (go_at_call 103; with_reducible exact qs1 (HJ.out _)) | (go_at_call 103; with_reducible exact qs2 (HJ.out _)) | (go_at_call 103; with_reducible exact qs0 (HJ.out _)))
  go_wp2_with fail
  go_region_held3 (fun wX => wX.cell? ⟨w.heap.size, 0, none⟩ = some (.int .i64 k) ∧ wX.cell? ⟨w.heap.size, 1, none⟩ = some (.int .i64 0)) (first | exact ⟨v0, v1⟩ | go_keep) (first | (refine step_push _ (by rfl) _ _ 92 (by rfl) base 61 ip (.pointer none) 1 8 Try.underlying92 hip hp0 hp1 hp2 rfl (by decide) (by decide) (.slice (some ⟨g, 0, none⟩) K c) K (vs.take K) (by rfl) (hrow3.out _) _ 1 [.pointer (some ⟨w.heap.size + 1, 0, none⟩)] (by rfl) rfl (hlit3.out _) (by intro u hu; simp at hu; subst hu; rfl) (by omega) (hB3.out _) ?_; intro A3 c3 w3 hr3 hg3; have v0 : w3.cell? ⟨w.heap.size, 0, none⟩ = some (.int .i64 k) := (hat3.out _ w3 hg3).1; have v1 : w3.cell? ⟨w.heap.size, 1, none⟩ = some (.int .i64 0) := (hat3.out _ w3 hg3).2) | (refine step_push _ (by rfl) _ _ 92 (by rfl) base 61 ip (.pointer none) 1 8 Try.underlying92 hip hp0 hp1 hp2 rfl (by decide) (by decide) (.slice (some ⟨g, 0, none⟩) K c) K (vs.take K) (by rfl) (rowDr (hrow3.out _)) _ 1 [.pointer (some ⟨w.heap.size + 1, 0, none⟩)] (by rfl) rfl (hlit3.out _) (by intro u hu; simp at hu; subst hu; rfl) (by omega) (hB3.out _) ?_; intro A3 c3 w3 hr3 hg3; have v0 : w3.cell? ⟨w.heap.size, 0, none⟩ = some (.int .i64 k) := (hat3.out _ w3 hg3).1; have v1 : w3.cell? ⟨w.heap.size, 1, none⟩ = some (.int .i64 0) := (hat3.out _ w3 hg3).2))
  go_wp2_with fail
  go_ret2
  have hoc : OwnP w base (.slice (some ⟨g, 0, none⟩) K c) s0 (vs.take K) := ⟨by rw [hK.out]; exact rowCut hrow.out (by omega), fun j z u h1 h2 => by
    have hj : j < s0.length := (List.getElem?_eq_some_iff.1 h1).1
    refine ho.out.parts j z u (by rw [List.getElem?_append_left hj]; exact h1) ?_
    rwa [List.getElem?_take_of_lt (by have := hK.out; omega)] at h2⟩
  rw [← hlx.out, ← hly.out]
  have hcar : ∀ (z : Tr) (u : Value), PartAt w w.heap.size z u → PartAt w3 w3.heap.size z u := fun z u hz => carryApp hg3 (hrow3.out _) z u (partAl (partAl ((partAl hz (.cells #[.int .i64 k, .int .i64 0] 57)).drewN _) _) _)
  exact ⟨A3, c3, rfl, hbel3.out _ w3 hg3, fun hd => ⟨_, ownP_push hoc hK.out.symm hcar hr3 (carryApp hg3 (hrow3.out _) _ _ (partAl (partJoin' _ hlx.out hly.out hd ((partAl hpx.out _).drewN _) ((partAl hqy.out _).drewN _) _ (by simp)) _))⟩⟩

theorem two_last {st : List Tr} (h : 2 ≤ st.length) : ∃ y x r, st = y :: x :: r := by
  rcases st with _ | ⟨y, _ | ⟨x, r⟩⟩
  · simp at h
  · simp at h
  · exact ⟨y, x, r, rfl⟩
theorem isSome_ite {p : Bool} {α : Type} (x : α) : (if p = true then some x else none).isSome = p := by cases p <;> rfl
/-- One mark more. -/
theorem stackAfter_c (C k a : Int) (base : Nat) (A : Option Addr) (n c : Nat) (st : List Tr) (vs : List Value) (w : World) (ho : OwnP w base (.slice A n c) st.reverse vs) (hn15 : n ≤ 1000) (hB : base ≤ w.heap.size) (hg : allGood C st) :
    Calls Try.prog 82 #[.int .i64 C, .slice A n c, .agg #[.int .i64 k, .int .i64 a]] w fun e w' => ∃ A' n' c', e = .returned (.tuple #[.slice A' n' c', .bool (stepT C st (k, a)).isSome]) ∧ Below base w w' ∧ ∀ st', stepT C st (k, a) = some st' → n' = st'.length ∧ ∃ vs', OwnP w' base (.slice A' n' c') st'.reverse vs' := by
  have hn : n = st.length := by
    obtain ⟨A', c', e⟩ := ho.slice
    injection e with _ e2 _
    rw [e2, List.length_reverse]
  by_cases h01 : k = 0 ∨ k = 1
  · refine (stackLeaf_c C k a base A n c _ vs w ho (by rw [hn, List.length_reverse]) hn15 hB h01).mono ?_
    rintro e w' ⟨A', c', rfl, hb, hh⟩
    rw [leaf_step h01]
    refine ⟨A', n + 1, c', by rw [isSome_ite], hb, fun st' e' => ?_⟩
    cases hd : drawOk C k a with
    | false => rw [hd] at e'; cases e'
    | true =>
      rw [hd] at e'
      injection e' with e'
      subst e'
      obtain ⟨vs', hv⟩ := hh hd
      exact ⟨by rw [hn]; rfl, vs', by rw [List.reverse_cons]; exact hv⟩
  · have h0 : k ≠ 0 := fun e => h01 (.inl e)
    have h1 : k ≠ 1 := fun e => h01 (.inr e)
    by_cases h2 : n < 2 ∨ a ≠ 0
    · rw [join_short h0 h1 (by rw [← hn]; exact h2)]
      refine (stackShort_c C k a A n c w hn15 h0 h1 h2).mono ?_
      rintro e w' ⟨rfl, hb⟩
      exact ⟨_, _, _, rfl, hb.mono hB, fun st' e' => by cases e'⟩
    · have h2' := not_or.1 h2
      have ha : a = 0 := Decidable.not_not.1 h2'.2
      replace h2 : 2 ≤ n := by omega
      subst ha
      obtain ⟨y, x, r, rfl⟩ := two_last (by rw [← hn]; exact h2)
      have hsh : ∃ g, A = some ⟨g, 0, none⟩ := by
        rcases row_shape ho.row with ⟨e, _⟩ | ⟨g, c', e, _⟩
        · injection e with _ e2 _; omega
        · injection e with e1 _ _; exact ⟨g, e1⟩
      obtain ⟨g, rfl⟩ := hsh
      have e2 : (y :: x :: r).reverse = r.reverse ++ [x, y] := by simp
      rw [e2] at ho
      refine (stackJoin_c C k base g r.length n c r.reverse x y vs w ho (by rw [hn]; rfl) (List.length_reverse) hn15 hB h0 h1 (ln_le x (hg x (by simp))) (ln_le y (hg y (by simp)))).mono ?_
      rintro e w' ⟨A', c', rfl, hb, hh⟩
      rw [join_step h0 h1]
      refine ⟨A', r.length + 1, c', by rw [isSome_ite], hb, fun st' e' => ?_⟩
      cases hd : joinB k (ln x) (ln y) with
      | false => rw [hd] at e'; cases e'
      | true =>
        rw [hd] at e'
        injection e' with e'
        subst e'
        obtain ⟨vs', hv⟩ := hh hd
        exact ⟨rfl, vs', by rw [List.reverse_cons]; exact hv⟩

theorem stepT_len {C : Int} {st st' : List Tr} {m : Mk} (h : stepT C st m = some st') : st'.length ≤ st.length + 1 := by
  have h2 := congrArg List.length (stepT_sound h).2
  unfold stepT at h
  split at h
  · injection h with h; subst h; simp
  · split at h
    · injection h with h; subst h; simp
    · split at h
      · split at h
        · injection h with h; subst h; simp
        · split at h
          · injection h with h; subst h; simp
          · cases h
      · cases h
theorem runT_len {C : Int} {ts : List Mk} {st : List Tr} (h : runT C [] ts = some st) : st.length ≤ ts.length := by
  have key : ∀ (ts : List Mk) (s st : List Tr), runT C s ts = some st → st.length ≤ s.length + ts.length := by
    intro ts
    induction ts with
    | nil => intro s st h; simp only [runT] at h; injection h with h; subst h; simp
    | cons m r ih =>
      intro s st h
      simp only [runT] at h
      cases hs : stepT C s m with
      | none => rw [hs] at h; cases h
      | some s' =>
        rw [hs] at h
        have h1 := ih _ _ h
        have h2 := stepT_len hs
        simp only [List.length_cons]; omega
  have := key ts [] st h
  simpa using this

set_option maxRecDepth 100000 in
set_option maxHeartbeats 3200000 in
theorem readMarks_c (C : Int) (A : Option Addr) (n c B : Nat) (ts : List Mk) (w : World) (h : Marks w B A n c ts) (hB : B ≤ w.heap.size) (wf0 : (Lit.int .i64 C).wf = true) :
    Calls Try.prog 45 #[.int .i64 C, .slice A n c] w fun e w' => ∃ p, e = .returned (.tuple #[.pointer p, .bool (termOk C ts)]) ∧ Below w.heap.size w w' ∧ ∀ x, termOk C ts = true → Is C ts x → PartAt w' w'.heap.size x (.pointer p) := by
  have hlen := hide h.len
  have hnb := h.nb
  have HC := hide (fun W => coloursOk_c C W)
  by_cases h1 : 1 ≤ C ∧ C ≤ 3
  · rw [decide_eq_true h1] at HC
    by_cases h15 : 15 < n
    · have hF := hide (show termOk C ts = false by
        cases ht : termOk C ts with
        | false => rfl
        | true => have := (termOk_yes ht).2.2.1; have := hlen.out; omega)
      clear h1
      go_enter Try.func45, Try.ntmps45
      go_wp2_with (go_at_call 81; refine (HC.out _).mono ?_; rintro e w' ⟨rfl, rfl⟩)
      go_ret2
      exact ⟨_, by rw [hF.out]; rfl, Below.refl _ _, fun x hx => by rw [hF.out] at hx; cases hx⟩
    · replace h1 := hide h1
      go_enter Try.func45, Try.ntmps45
      go_wp2_with (go_at_call 81; refine (HC.out _).mono ?_; rintro e w' ⟨rfl, rfl⟩)
      go_loopw [6, 21] (fun v i wr => ∃ k : Nat, ∃ A2 n2 c2, ∃ st : List Tr, ∃ vs, k ≤ n ∧ i = .int .i64 k ∧ v = .slice A2 n2 c2 ∧ n2 ≤ k ∧ Hid (n2 = st.length) ∧ Hid (runT C [] (ts.take k) = some st) ∧ Hid (OwnP wr w.heap.size (.slice A2 n2 c2) st.reverse vs) ∧ Hid (Below w.heap.size w wr)) (fun _ i _ => n - (intOf i).toNat)
      case atStart => exact ⟨0, _, _, _, [], _, Nat.zero_le _, rfl, rfl, Nat.le_refl _, hide rfl, hide rfl, OwnP.none_, Below.refl _ _⟩
      case round =>
        obtain ⟨k, A2, n2, c2, st, vs, hk, rfl, rfl, hn2k, hn2, hrun, ho, hb⟩ := hrel
        have hst := hb.out.size
        by_cases hlt : k < n
        · obtain ⟨b, off, u, v, rfl, hbB, hu, hc1, hc2⟩ := (h.below (hb.out.mono hB)).look hlt
          have hgd := (runT_sound _ hrun.out).1 (fun y hy => by cases hy)
          have HS := hide (fun (o : Obj) => stackAfter_c C u v w.heap.size A2 n2 c2 st vs (wr.alloc o) (ho.out.up (al wr o)) (by omega) (by simp; omega) hgd)
          have hbo := hide (fun (o : Obj) => hb.out.alloc hst o)
          clear hgd hbB
          cases hs : stepT C st (u, v) with
          | none =>
            have hF := hide (termOk_stop hrun.out hu.out hs)
            rw [hs] at HS
            clear hs
            go_wp2_with (go_at_call 82; refine (HS.out _).mono ?_; rintro e w2 ⟨A3, n3, c3, rfl, hb2, hh⟩)
            have hb3 := hide ((hbo.out _).trans hb2)
            clear hh hb2
            go_wp2_with fail
            go_ret2
            exact ⟨_, by rw [hF.out]; rfl, hb3.out, fun x hx => by rw [hF.out] at hx; cases hx⟩
          | some st' =>
            have hnx := hide (runT_next hrun.out hu.out hs)
            rw [hs] at HS
            clear hs
            go_wp2_with (go_at_call 82; refine (HS.out _).mono ?_; rintro e w2 ⟨A3, n3, c3, rfl, hb2, hh⟩; replace hh := hide hh)
            obtain ⟨hn3, vs', hv⟩ := hh.out st' rfl
            have hb3 := hide ((hbo.out _).trans hb2)
            have hlk := hide (runT_len hnx.out)
            have hn3k : n3 ≤ k + 1 := by have := hlk.out; rw [List.length_take] at this; omega
            replace hv := hide hv
            replace hn3 := hide hn3
            clear hh hb2 hlk
            go_wp2_with fail
            go_roundw
            case rel => exact ⟨k + 1, _, _, _, _, _, by omega, by go_num, rfl, hn3k, hn3, hnx, hv, hb3⟩
            case measure => simp [intOf]; omega
        · obtain rfl : k = n := by omega
          have hrt := hide (show runT C [] ts = some st by have := hrun.out; rwa [List.take_of_length_le (by have := hlen.out; omega)] at this)
          match st, hn2, hrt, ho with
          | [x], hn2, hrt, ho =>
            obtain rfl : n2 = 1 := hn2.out
            have hT := hide (show termOk C ts = true by
              unfold termOk
              rw [decide_eq_true h1.out, hrt.out, decide_eq_true (by have := hlen.out; omega)]; rfl)
            have hsh : ∃ g, A2 = some ⟨g, 0, none⟩ := by
              rcases row_shape ho.out.row with ⟨e, _⟩ | ⟨g, c', e, _⟩
              · injection e with _ e2 _; simp at e2
              · injection e with e1 _ _; exact ⟨g, e1⟩
            obtain ⟨g, rfl⟩ := hsh
            obtain ⟨p, hp⟩ : ∃ p, vs[0]? = some p := ⟨_, List.getElem?_eq_getElem (by have := ho.out.len; simp at this; omega)⟩
            have hcp : wr.cell? ⟨g, 0, none⟩ = some p := by rw [ho.out.row.cellAt 0 (by simp), hp]
            have hpx := hide (ho.out.parts 0 x p rfl hp)
            replace hp := hide hp
            obtain ⟨gp, rfl, _⟩ := hpx.out.ptr
            go_wp2_with fail
            go_ret2
            exact ⟨_, by rw [hT.out]; rfl, hb.out, fun y _ hy => by
              have e := is_run hy
              rw [hrt.out] at e
              injection e with e
              injection e with e
              subst e
              exact hpx.out⟩
          | [], hn2, hrt, ho =>
            obtain rfl : n2 = 0 := hn2.out
            have hF := hide (show termOk C ts = false by unfold termOk; rw [hrt.out]; simp [isOne])
            go_wp2_with fail
            go_ret2
            exact ⟨_, by rw [hF.out]; rfl, hb.out, fun x hx => by rw [hF.out] at hx; cases hx⟩
          | y :: x :: r, hn2, hrt, ho =>
            have hF := hide (show termOk C ts = false by unfold termOk; rw [hrt.out]; simp [isOne])
            have h2n : 2 ≤ n2 := by have := hn2.out; simp at this; omega
            have hne : ((n2 : Int) != 1) = true := by simp; omega
            go_wp2_with fail
            go_ret2
            exact ⟨_, by rw [hF.out]; rfl, hb.out, fun x hx => by rw [hF.out] at hx; cases hx⟩
  · rw [decide_eq_false h1] at HC
    have hF := hide (show termOk C ts = false by
      cases ht : termOk C ts with
      | false => rfl
      | true => exact absurd ⟨(termOk_yes ht).1, (termOk_yes ht).2.1⟩ h1)
    clear h1
    go_enter Try.func45, Try.ntmps45
    go_wp2_with (go_at_call 81; refine (HC.out _).mono ?_; rintro e w' ⟨rfl, rfl⟩)
    go_ret2
    exact ⟨_, by rw [hF.out]; rfl, Below.refl _ _, fun x hx => by rw [hF.out] at hx; cases hx⟩
end Go.Proofs.Ytffllkmaifjpfab

namespace Go.Proofs.Ytffllkmaifjpfab
open Go.RowKit
set_option linter.unusedVariables false

set_option maxHeartbeats 1600000 in
theorem heldText_c (l : List UInt8) (v : Value) (p : Bool) (w : World) (hl : l.length ≤ 36) (HT : ∀ q, Calls Try.prog 49 #[v] (w.drewN q) fun e w' => e = .returned (.string (strB l)) ∧ ∃ m, w' = (w.drewN q).drewN m) :
    Calls Try.prog 84 #[v, .bool p] w fun e w' => e = .returned (.string (strB (wrapB p l))) ∧ ∃ q, w' = w.drewN q := by
  have HT0 := hide (show Calls Try.prog 49 #[v] w (fun e w' => e = .returned (.string (strB l)) ∧ ∃ m, w' = w.drewN m) from HT 0)
  rw [strB_wrap]
  have hs : (strB l).size ≤ 36 := by rw [strB_size]; exact hl
  obtain ⟨S, hS⟩ : ∃ S, Hid (strB l = S) := ⟨_, hide rfl⟩
  rw [hS.out] at HT0 hs ⊢
  clear HT
  cases p with
  | true =>
    rw [if_pos rfl]
    go_enter Try.func84, Try.ntmps84
    go_wp2_with (go_at_call 49; refine (HT0.out).mono ?_; rintro e w' ⟨rfl, q, rfl⟩)
    go_ret
    exact ⟨by rfl, _, rfl⟩
  | false =>
    rw [if_neg (by decide)]
    go_enter Try.func84, Try.ntmps84
    go_wp2_with (go_at_call 49; refine (HT0.out).mono ?_; rintro e w' ⟨rfl, q, rfl⟩)
    go_ret
    exact ⟨by rfl, _, rfl⟩

set_option maxRecDepth 100000 in
set_option maxHeartbeats 3200000 in
theorem textOf_c : ∀ (x : Tr), small x = true → (flat x).length ≤ 15 → ∀ (v : Value) (B : Nat) (w : World), PartAt w B x v →
    Calls Try.prog 49 #[v] w fun e w' => e = .returned (.string (strB (txt x))) ∧ ∃ q, w' = w.drewN q
  | .col cc, hs, hlen, v, B, w, h => by
    obtain ⟨g, rfl, hg, h0, h1, h2, h3, h4⟩ := NodeAt.look h
    have hcc := of_decide_eq_true hs
    have hF := hide (letter_str hcc)
    clear h
    go_enter Try.func49, Try.ntmps49
    go_wp2_with fail
    go_quiet (fail)
    go_wp2
    go_ret
    exact ⟨by rw [show strB (txt (.col cc)) = strB [UInt8.ofNat (97 + cc)] from rfl, ← hF.out]; rfl, _, rfl⟩
  | .any, hs, hlen, v, B, w, h => by
    obtain ⟨g, rfl, hg, h0, h1, h2, h3, h4⟩ := NodeAt.look h
    clear h
    go_enter Try.func49, Try.ntmps49
    go_wp2
    go_ret
    exact ⟨by rfl, 0, rfl⟩
  | .alt a b, hs, hlen, v, B, w, ⟨p, q, hnode, hp, hq⟩ => by
    have hs2 : small a = true ∧ small b = true := by simpa only [small, Bool.and_eq_true] using hs
    have hl2 : (flat a).length ≤ 15 ∧ (flat b).length ≤ 15 := by simp only [flat, List.length_append] at hlen; omega
    obtain ⟨g, rfl, hg, h0, h1, h2, h3, h4⟩ := hnode.look
    have HA := hide (fun n => textOf_c a hs2.1 hl2.1 p B (w.drewN n) (hp.drewN n))
    have HO := hide (fun n => isOr_c b q B (w.drewN n) (hq.drewN n))
    have hsa := txt_small hl2.1
    have hlb : (txt b).length ≤ 36 := by have := txt_small hl2.2; rwa [strB_size] at this
    have HB := hide (fun n => heldText_c (txt b) q (isAlt b) (w.drewN n) hlb (fun m => textOf_c b hs2.2 hl2.2 q B ((w.drewN n).drewN m) ((hq.drewN n).drewN m)))
    have hsb : (strB (wrapB (isAlt b) (txt b))).size ≤ 38 := by rw [strB_size]; have := (wrapB_len (isAlt b) (txt b)).1; omega
    have hF : strB (txt (.alt a b)) = (strB (txt a) ++ ⟨#[124]⟩) ++ strB (wrapB (isAlt b) (txt b)) := by
      rw [show txt (.alt a b) = txt a ++ ([124] ++ wrapB (isAlt b) (txt b)) from rfl, strB_append, strB_append, ByteArray.append_assoc]; rfl
    rw [hF]
    obtain ⟨SA, hSA⟩ : ∃ SA, Hid (strB (txt a) = SA) := ⟨_, hide rfl⟩
    obtain ⟨SB, hSB⟩ : ∃ SB, Hid (strB (wrapB (isAlt b) (txt b)) = SB) := ⟨_, hide rfl⟩
    rw [hSA.out] at HA hsa ⊢
    rw [hSB.out] at HB hsb ⊢
    obtain ⟨pb, hpb⟩ : ∃ p, Hid (isAlt b = p) := ⟨_, hide rfl⟩
    rw [hpb.out] at HO HB
    clear hs hs2 hlen hl2 hlb hF hp hq hnode
    go_enter Try.func49, Try.ntmps49
    go_wp2_with fail
    go_quiet (first | (go_at_call 85; with_reducible exact qs1 (HO.out _)) | (go_at_call 85; with_reducible exact qs2 (HO.out _)) | (go_at_call 49; with_reducible exact qd1 (HA.out _)) | (go_at_call 49; with_reducible exact qd2 (HA.out _)) | (go_at_call 84; with_reducible exact qd1 (HB.out _)) | (go_at_call 84; with_reducible exact qd2 (HB.out _)))
    go_wp2
    go_ret
    exact ⟨by rfl, _, by first | rfl | exact World.drewN_drewN _ _ _⟩
  | .thn a b, hs, hlen, v, B, w, ⟨p, q, hnode, hp, hq⟩ => by
    have hs2 : small a = true ∧ small b = true := by simpa only [small, Bool.and_eq_true] using hs
    have hl2 : (flat a).length ≤ 15 ∧ (flat b).length ≤ 15 := by simp only [flat, List.length_append] at hlen; omega
    obtain ⟨g, rfl, hg, h0, h1, h2, h3, h4⟩ := hnode.look
    have HO := hide (fun n => isOr_c a p B (w.drewN n) (hp.drewN n))
    have HJ := hide (fun n => isJoined_c b q B (w.drewN n) (hq.drewN n))
    have hla : (txt a).length ≤ 36 := by have := txt_small hl2.1; rwa [strB_size] at this
    have hlb : (txt b).length ≤ 36 := by have := txt_small hl2.2; rwa [strB_size] at this
    have HA := hide (fun n => heldText_c (txt a) p (isAlt a) (w.drewN n) hla (fun m => textOf_c a hs2.1 hl2.1 p B ((w.drewN n).drewN m) ((hp.drewN n).drewN m)))
    have HB := hide (fun n => heldText_c (txt b) q (!isLeaf b) (w.drewN n) hlb (fun m => textOf_c b hs2.2 hl2.2 q B ((w.drewN n).drewN m) ((hq.drewN n).drewN m)))
    have hsa : (strB (wrapB (isAlt a) (txt a))).size ≤ 38 := by rw [strB_size]; have := (wrapB_len (isAlt a) (txt a)).1; omega
    have hsb : (strB (wrapB (!isLeaf b) (txt b))).size ≤ 38 := by rw [strB_size]; have := (wrapB_len (!isLeaf b) (txt b)).1; omega
    have hF : strB (txt (.thn a b)) = strB (wrapB (isAlt a) (txt a)) ++ strB (wrapB (!isLeaf b) (txt b)) := strB_append _ _
    rw [hF]
    obtain ⟨SA, hSA⟩ : ∃ SA, Hid (strB (wrapB (isAlt a) (txt a)) = SA) := ⟨_, hide rfl⟩
    obtain ⟨SB, hSB⟩ : ∃ SB, Hid (strB (wrapB (!isLeaf b) (txt b)) = SB) := ⟨_, hide rfl⟩
    rw [hSA.out] at HA hsa ⊢
    rw [hSB.out] at HB hsb ⊢
    obtain ⟨pa, hpa⟩ : ∃ p, Hid (isAlt a = p) := ⟨_, hide rfl⟩
    obtain ⟨pb, hpb⟩ : ∃ p, Hid ((!isLeaf b) = p) := ⟨_, hide rfl⟩
    rw [hpa.out] at HO HA
    rw [hpb.out] at HJ HB
    clear hs hs2 hlen hl2 hla hlb hF hp hq hnode
    go_enter Try.func49, Try.ntmps49
    go_wp2_with fail
    go_quiet (first | (go_at_call 85; with_reducible exact qs1 (HO.out _)) | (go_at_call 85; with_reducible exact qs2 (HO.out _)) | (go_at_call 86; with_reducible exact qs1 (HJ.out _)) | (go_at_call 86; with_reducible exact qs2 (HJ.out _)) | (go_at_call 84; with_reducible exact qd1 (HA.out _)) | (go_at_call 84; with_reducible exact qd2 (HA.out _)) | (go_at_call 84; with_reducible exact qd1 (HB.out _)) | (go_at_call 84; with_reducible exact qd2 (HB.out _)))
    go_wp2
    go_ret
    exact ⟨by rfl, _, by first | rfl | exact World.drewN_drewN _ _ _⟩
end Go.Proofs.Ytffllkmaifjpfab

namespace Go.Proofs.Ytffllkmaifjpfab
open Go.RowKit
set_option linter.unusedVariables false

set_option maxRecDepth 100000 in
set_option maxHeartbeats 3200000 in
theorem fits_c {C : Int} : ∀ (x : Tr), good C x = true → ∀ (v : Value) (B : Nat) (A2 : Option Addr) (m c2 B2 : Nat) (ws : List Int) (w : World), PartAt w B x v → Ints w B2 A2 m c2 ws → m = ln x →
    Calls Try.prog 55 #[v, .slice A2 m c2] w fun e w' => e = .returned (.bool (fitsT x ws)) ∧ ∃ q, w' = w.drewN q
  | .col cc, hg, v, B, A2, m, c2, B2, ws, w, h, h2', hm => by
    obtain ⟨g, rfl, hgB, h0, h1, h2, h3, h4⟩ := NodeAt.look h
    have hm1 : m = 1 := hm
    subst hm1
    have hl2 := h2'.len
    obtain ⟨b', off', y, rfl, hb', hy, hcy⟩ := h2'.look (show 0 < 1 by omega)
    rw [Nat.add_zero] at hcy
    obtain ⟨y', rfl⟩ := one_word hl2
    have e2 := hy.out
    simp only [List.getElem?_cons_zero, Option.some.injEq] at e2
    subst e2
    have hF := hide (show fitsT (.col cc) [y'] = (y' == (cc : Int)) by
      simp only [fitsT, List.cons.injEq, and_true]
      exact (Bool.beq_eq_decide_eq y' (cc : Int)).symm)
    clear h hm hl2
    go_enter Try.func55, Try.ntmps55
    go_wp2_with fail
    go_quiet (fail)
    go_wp2
    go_ret
    exact ⟨ret_bool hF.out.symm, _, rfl⟩
  | .any, hg, v, B, A2, m, c2, B2, ws, w, h, h2', hm => by
    obtain ⟨g, rfl, hgB, h0, h1, h2, h3, h4⟩ := NodeAt.look h
    have hF := hide (show fitsT .any ws = true from decide_eq_true (by rw [h2'.len]; exact hm))
    clear h hm
    go_enter Try.func55, Try.ntmps55
    go_wp2
    go_ret
    exact ⟨ret_bool hF.out.symm, 0, rfl⟩
  | .alt a b, hg, v, B, A2, m, c2, B2, ws, w, ⟨p, q, hnode, hp, hq⟩, h2', hm => by
    have hgg : good C a = true ∧ good C b = true ∧ ln a = ln b := by simp only [good, Bool.and_eq_true] at hg; exact ⟨hg.1.1, hg.1.2, of_decide_eq_true hg.2⟩
    have hma : m = ln a := hm
    have hmb : m = ln b := by rw [hma]; exact hgg.2.2
    obtain ⟨g, rfl, hgB, h0, h1, h2, h3, h4⟩ := hnode.look
    have HA := hide (fun n => fits_c a hgg.1 p B A2 m c2 B2 ws (w.drewN n) (hp.drewN n) (h2'.drewN n) hma)
    have HB := hide (fun n => fits_c b hgg.2.1 q B A2 m c2 B2 ws (w.drewN n) (hq.drewN n) (h2'.drewN n) hmb)
    have HA0 := hide (show Calls Try.prog 55 #[p, .slice A2 m c2] w (fun e w' => e = .returned (.bool (fitsT a ws)) ∧ ∃ q, w' = w.drewN q) from HA.out 0)
    have hF : fitsT (.alt a b) ws = (fitsT a ws || fitsT b ws) := rfl
    rw [hF]
    obtain ⟨r, hr⟩ : ∃ p, Hid (fitsT a ws = p) := ⟨_, hide rfl⟩
    obtain ⟨s, hs⟩ : ∃ r, Hid (fitsT b ws = r) := ⟨_, hide rfl⟩
    rw [hr.out] at HA0 ⊢
    rw [hs.out] at HB ⊢
    clear hp hq hnode hm hma hmb hF HA
    cases r with
    | true =>
      go_enter Try.func55, Try.ntmps55
      go_wp2_with (first | (go_at_call 55; with_reducible refine (HA0.out).mono ?_; rintro e w' ⟨rfl, q, rfl⟩) | (go_at_call 55; with_reducible refine (HB.out _).mono ?_; rintro e w' ⟨rfl, q', rfl⟩))
      go_ret
      exact ⟨by rfl, _, rfl⟩
    | false =>
      rw [Bool.false_or]
      go_enter Try.func55, Try.ntmps55
      go_wp2_with (first | (go_at_call 55; with_reducible refine (HA0.out).mono ?_; rintro e w' ⟨rfl, q, rfl⟩) | (go_at_call 55; with_reducible refine (HB.out _).mono ?_; rintro e w' ⟨rfl, q', rfl⟩))
      go_ret
      exact ⟨by rfl, _, by first | rfl | exact World.drewN_drewN _ _ _⟩
  | .thn a b, hg, v, B, A2, m, c2, B2, ws, w, ⟨p, q, hnode, hp, hq⟩, h2', hm => by
    have hgg : good C a = true ∧ good C b = true := by simp only [good, Bool.and_eq_true] at hg; exact ⟨hg.1.1, hg.1.2⟩
    obtain ⟨g, rfl, hgB, h0, h1, h2, h3, h4⟩ := hnode.look
    obtain ⟨gp, rfl, hgp, _, hlp⟩ := hp.last
    have hmm : m = ln a + ln b := hm
    have hl1 := ln_pos a
    have hl2 := ln_pos b
    have hlen := h2'.len
    have hmc := h2'.le
    have hmn := h2'.nb
    have hF : fitsT (.thn a b) ws = (fitsT a (ws.take (ln a)) && fitsT b (ws.drop (ln a))) := by
      simp only [fitsT]
      rw [decide_eq_true (by omega), Bool.true_and]
    rw [hF]
    obtain ⟨b2, o2, rfl, hb2B, _⟩ := h2'.cells (by omega)
    have hw1 := hide (fun n => (h2'.takeS (h := ln a) (by omega)).drewN n)
    have hw2 := hide (fun n => (h2'.dropS (h := ln a) (by omega)).drewN n)
    have HA := hide (fun n => fits_c a hgg.1 _ B (some ⟨b2, o2, none⟩) (ln a) c2 B2 (ws.take (ln a)) (w.drewN n) (hp.drewN n) (hw1.out n) rfl)
    have HB := hide (fun n => fits_c b hgg.2 q B (some ⟨b2, o2 + ln a, none⟩) (m - ln a) (c2 - ln a) B2 (ws.drop (ln a)) (w.drewN n) (hq.drewN n) (hw2.out n) (by omega))
    obtain ⟨r, hr⟩ : ∃ p, Hid (fitsT a (ws.take (ln a)) = p) := ⟨_, hide rfl⟩
    obtain ⟨s, hs⟩ : ∃ r, Hid (fitsT b (ws.drop (ln a)) = r) := ⟨_, hide rfl⟩
    rw [hr.out] at HA ⊢
    rw [hs.out] at HB ⊢
    obtain ⟨L, hLl⟩ : ∃ L, Hid (ln a = L) := ⟨_, hide rfl⟩
    rw [hLl.out] at HA HB hlp hl1 hmm
    have hLm : L ≤ m := by omega
    have hLc : L ≤ c2 := by omega
    have hLne : ¬ c2 = L := by omega
    have hLcI : (L : Int) ≤ (c2 : Int) := by omega
    have hLmI : (L : Int) ≤ (m : Int) := by omega
    have hmcI : (m : Int) ≤ (c2 : Int) := by omega
    clear hp hq hnode hm hmm hF hw1 hw2 hl2 h2'
    cases r with
    | false =>
      go_enter Try.func55, Try.ntmps55
      go_wp2_with fail
      go_quiet (first | (go_at_call 55; with_reducible exact qd2 (HA.out _)) | (go_at_call 55; with_reducible exact qd1 (HA.out _)) | (go_at_call 55; with_reducible exact qd2 (HB.out _)) | (go_at_call 55; with_reducible exact qd1 (HB.out _)))
      go_wp2
      go_ret
      exact ⟨by rfl, _, by first | rfl | exact World.drewN_drewN _ _ _⟩
    | true =>
      rw [Bool.true_and]
      go_enter Try.func55, Try.ntmps55
      go_wp2_with fail
      go_quiet (first | (go_at_call 55; with_reducible exact qd2 (HA.out _)) | (go_at_call 55; with_reducible exact qd1 (HA.out _)) | (go_at_call 55; with_reducible exact qd2 (HB.out _)) | (go_at_call 55; with_reducible exact qd1 (HB.out _)))
      go_wp2
      all_goals
        go_ret
        exact ⟨by rfl, _, by first | rfl | exact World.drewN_drewN _ _ _⟩
end Go.Proofs.Ytffllkmaifjpfab

namespace Go.Proofs.Ytffllkmaifjpfab
open Go.RowKit
set_option linter.unusedVariables false

/-- The slice '.slice A n c' holds slices of marks; all its cells lie below block B. -/
structure MatK (w : World) (B : Nat) (A : Option Addr) (n c : Nat) (rs : List (List Mk)) : Prop where
  len : rs.length = n
  le : n ≤ c
  big : c ≤ maxLen
  cells : 0 < n → ∃ b off, A = some ⟨b, off, none⟩ ∧ b < B ∧ ∀ j l, rs[j]? = some l → ∃ A' n' c', w.cell? ⟨b, off + j, none⟩ = some (.slice A' n' c') ∧ Marks w B A' n' c' l
section
variable {w w' : World} {B B' n c k : Nat} {A : Option Addr} {rs : List (List Mk)}
theorem MatK.look (h : MatK w B A n c rs) (hk : k < n) : ∃ b off l A' n' c', A = some ⟨b, off, none⟩ ∧ b < B ∧ Hid (rs[k]? = some l) ∧ w.cell? ⟨b, off + k, none⟩ = some (.slice A' n' c') ∧ Hid (Marks w B A' n' c' l) := by
  obtain ⟨b, off, e, hb, hc⟩ := h.cells (by omega)
  have hl : k < rs.length := by have := h.len; omega
  obtain ⟨A', n', c', h1, h2⟩ := hc k _ (List.getElem?_eq_getElem hl)
  exact ⟨b, off, rs[k], A', n', c', e, hb, hide (List.getElem?_eq_getElem hl), h1, hide h2⟩
theorem MatK.nb (h : MatK w B A n c rs) : n ≤ 9223372036854775807 := by have := h.le; have := h.big; unfold maxLen at this; omega
theorem MatK.below (h : MatK w B A n c rs) (hq : Below B w w') : MatK w' B A n c rs :=
  ⟨h.len, h.le, h.big, fun hn => by
    obtain ⟨b, off, e, hb, hc⟩ := h.cells hn
    refine ⟨b, off, e, hb, fun j l hl => ?_⟩
    obtain ⟨A', n', c', h1, h2⟩ := hc j l hl
    exact ⟨A', n', c', (hq.cell (p := ⟨b, off + j, none⟩) hb).trans h1, h2.below hq⟩⟩
end
theorem matK_three {w : World} {B b n c n' c' n2 c2 : Nat} {A A' A2 : Option Addr} {l l' l2 : List Mk} (h0 : w.cell? ⟨b, 0, none⟩ = some (.slice A n c)) (h1 : w.cell? ⟨b, 1, none⟩ = some (.slice A' n' c')) (h2 : w.cell? ⟨b, 2, none⟩ = some (.slice A2 n2 c2)) (hz : Marks w B A n c l) (hz' : Marks w B A' n' c' l') (hz2 : Marks w B A2 n2 c2 l2) (hb : b < B) : MatK w B (some ⟨b, 0, none⟩) 3 3 [l, l', l2] := by
  refine ⟨rfl, Nat.le_refl _, by unfold maxLen; omega, fun _ => ⟨b, 0, rfl, hb, fun j x hl => ?_⟩⟩
  rcases j with _ | _ | _ | j
  · simp at hl; subst hl; exact ⟨_, _, _, h0, hz⟩
  · simp at hl; subst hl; exact ⟨_, _, _, h1, hz'⟩
  · simp at hl; subst hl; exact ⟨_, _, _, h2, hz2⟩
  · simp at hl
theorem flatK_take {rs : List (List Mk)} {k : Nat} {l : List Mk} (h : rs[k]? = some l) : (rs.take (k + 1)).flatten = (rs.take k).flatten ++ l := by
  rw [List.take_add_one, h, List.flatten_append]; simp
theorem flatK_len {rs : List (List Mk)} (k : Nat) : (rs.take k).flatten.length ≤ rs.flatten.length := by
  have := congrArg List.length (congrArg List.flatten (List.take_append_drop k rs))
  rw [List.flatten_append, List.length_append] at this
  omega

set_option maxRecDepth 100000 in
set_option maxHeartbeats 1600000 in
theorem growK_c (N : Nat) (w : World) (h1 : 1 ≤ N) (h2 : N ≤ 100000) :
    Calls Try.prog 107 #[.slice none 0 0, .int .i64 (N : Int)] w fun e w' => ∃ A' c', e = .returned (.slice A' 0 c') ∧ OwnK w' w.heap.size (.slice A' 0 c') [] ∧ Below w.heap.size w w' := by
  obtain ⟨i0, hi, hz0, hz1, hz2⟩ := infoMark_parts
  have hrz : ∀ ty, (Builtin.append_ #[25, 3] ty #[.slice none 0 0, .int .i64 (N : Int)]).run Try.prog w = .ok (.slice (some ⟨w.heap.size, 0, none⟩) N (grownCap w N 0 57)) (w.drew.alloc (.cells ((#[] : Array Value) ++ Builtin.zeroCells (Value.agg #[.int .i64 0, .int .i64 0]).cells N ++ Builtin.zeroCells (Value.agg #[.int .i64 0, .int .i64 0]).cells (grownCap w N 0 57 - N)) 57)) := fun ty => by
    have h := Lib.run_append_grow_zeros (P := Try.prog) w 25 3 ty 57 i0 (.agg #[.int .i64 0, .int .i64 0]) .i64 .i64 Try.underlying25 Try.underlying3 hi hz0 none 0 0 [] (run_firstCells_none w.drew i0.size 0 0 0) N (by omega) (by rw [hz1]; decide) (by omega) (by omega) (by rw [hz2]; omega) (growslice_fits (by omega) (by rw [hz2]; omega))
    rw [Nat.zero_add] at h
    exact h
  have hGn : N ≤ grownCap w N 0 57 := grownCap_ge w _ _ _
  have hGm := grownCap_le_maxLen w N 0 57 (by unfold maxLen; omega)
  obtain ⟨G, hG⟩ : ∃ G, G = grownCap w N 0 57 := ⟨_, rfl⟩
  rw [← hG] at hrz hGn hGm
  have hG63 : G ≤ 9223372036854775807 := by unfold maxLen at hGm; omega
  obtain ⟨cs, hcs⟩ : ∃ cs : Array Value, cs = (#[] : Array Value) ++ Builtin.zeroCells (Value.agg #[.int .i64 0, .int .i64 0]).cells N ++ Builtin.zeroCells (Value.agg #[.int .i64 0, .int .i64 0]).cells (G - N) := ⟨_, rfl⟩
  have hsz : cs.size = G * 2 := by rw [hcs]; simp [Builtin.zeroCells, Value.cells]; omega
  rw [← hcs] at hrz
  have ho := hide (show OwnK (w.drew.alloc (.cells cs 57)) w.heap.size (.slice (some ⟨w.heap.size, 0, none⟩) 0 G) [] from ⟨World.ownsRow_made w.drew cs G (Nat.le_refl _) hGm hsz, fun _ h => by cases h⟩)
  have hb := hide (show Below w.heap.size w (w.drew.alloc (.cells cs 57)) from (below_drewN (Below.refl _ _) 1).alloc (Nat.le_refl _) _)
  clear hG hcs hsz hGm
  go_enter Try.func107, Try.ntmps107
  go_wp2_with (at_builtin; refine Lib.wpList_append_run _ rfl _ _ _ _ rfl _ _ rfl rfl _ _ (hrz _) ?_)
  go_ret
  exact ⟨_, _, rfl, ho.out, hb.out⟩

set_option maxRecDepth 100000 in
set_option maxHeartbeats 3200000 in
theorem concatK_c (A : Option Addr) (n c B : Nat) (rs : List (List Mk)) (w : World) (h : MatK w B A n c rs) (hB : B ≤ w.heap.size) (hp : 1 ≤ rs.flatten.length) (hm : rs.flatten.length ≤ 100000) :
    Calls Try.prog 90 #[.slice A n c] w fun e w' => ∃ A' n' c', e = .returned (.slice A' n' c') ∧ OwnK w' w.heap.size (.slice A' n' c') rs.flatten ∧ Below w.heap.size w w' := by
  obtain ⟨i0, hi, hz0, hz1, hz2⟩ := infoMark_parts
  have hn := h.nb
  have HL := hide (fun k => flatK_len (rs := rs) k)
  have HT := hide (fun (k : Nat) l (hx : rs[k]? = some l) => flatK_take hx)
  have hall := hide (show rs.take n = rs from List.take_of_length_le (by have := h.len; omega))
  obtain ⟨N, hN⟩ : ∃ N, Hid (N = rs.flatten.length) := ⟨_, hide rfl⟩
  rw [← hN.out] at hp hm HL
  go_enter Try.func90, Try.ntmps90
  go_wp2
  go_loop [3, 11] (fun t i => ∃ k L : Nat, k ≤ n ∧ i = .int .i64 k ∧ t = .int .i64 (L : Int) ∧ Hid (L = (rs.take k).flatten.length)) (fun _ i => n - (intOf i).toNat)
  case atStart => exact ⟨0, 0, Nat.zero_le _, rfl, rfl, hide rfl⟩
  case round =>
    obtain ⟨k, L, hk, rfl, rfl, hL⟩ := hrel
    by_cases hlt : k < n
    · obtain ⟨b, off, l, A', n', c', rfl, hb, hx, hcell, hz'⟩ := h.look hlt
      have hll := hide hz'.out.len
      have hnx := hide (show L + n' = (rs.take (k + 1)).flatten.length by rw [HT.out k l hx.out, List.length_append, ← hL.out, hll.out])
      have hLb := HL.out (k + 1)
      rw [← hnx.out] at hLb
      have hnn := hz'.out.nb
      go_wp2
      go_round
      case rel => exact ⟨k + 1, L + n', by omega, by go_num, by go_num, hnx⟩
      case measure => simp [intOf]; omega
    · obtain rfl : n = k := by omega
      obtain rfl : L = N := by rw [hN.out, hL.out, hall.out]
      have HG := hide (growK_c L w hp hm)
      go_wp2_with fail
      refine HG.out.mono ?_
      rintro e w1 ⟨A1, c1, rfl, ho1, hb1⟩
      replace ho1 := hide ho1
      replace hb1 := hide hb1
      clear HG hL
      go_wp2_with fail
      go_loopw [6, 27] (fun v i wr => ∃ k m : Nat, ∃ A c, k ≤ n ∧ i = .int .i64 k ∧ v = .slice A m c ∧ Hid (OwnK wr w.heap.size (.slice A m c) (rs.take k).flatten) ∧ Hid (Below w.heap.size w wr)) (fun _ i _ => n - (intOf i).toNat)
      case atStart => exact ⟨0, 0, _, _, Nat.zero_le _, rfl, rfl, ho1, hb1⟩
      case round =>
        clear ho1 hb1
        obtain ⟨k, m, Ar, cr, hk, rfl, rfl, ho, hb⟩ := hrel
        have hst := hb.out.size
        by_cases hlt : k < n
        · obtain ⟨b, off, l, A', n', c', rfl, hbB, hx, hcell, hz'⟩ := (h.below (hb.out.mono hB)).look hlt
          have hll := hide hz'.out.len
          have hnx := hide (HT.out k l hx.out)
          have hLb := HL.out (k + 1)
          rw [hnx.out, List.length_append, hll.out] at hLb
          go_wp2_with (at_builtin; refine wpList_appK _ rfl _ _ 25 rfl i0 Try.underlying25 hi hz0 hz1 hz2 _ _ rfl ho.out A' n' c' B l rfl hz'.out (by omega) (by omega) ?_; intro A₃ n₃ c₃ w3 ho3 hg3; have ho3 := hide (show OwnK w3 w.heap.size (.slice A₃ n₃ c₃) (rs.take (k + 1)).flatten by rw [hnx.out]; exact ho3); have hb3 := hide (hb.out.grown hg3 (by omega) (fun j hj => (ho.out.row.lt j hj).1)); clear hg3)
          go_roundw
          case rel => exact ⟨k + 1, _, _, _, by omega, by go_num, rfl, ho3, hb3⟩
          case measure => simp [intOf]; omega
        · obtain rfl : k = n := by omega
          go_wp2
          go_ret
          exact ⟨_, _, _, rfl, by have := ho.out; rwa [hall.out] at this, hb.out⟩
end Go.Proofs.Ytffllkmaifjpfab

namespace Go.Proofs.Ytffllkmaifjpfab
open Go.RowKit
set_option linter.unusedVariables false

/-- slices.Concat of two slices of marks that the call owns, and of one mark more. -/
theorem concat3_c (A A2 : Option Addr) (n c n2 c2 B : Nat) (l l2 : List Mk) (k a : Int) (w : World) (h : Marks w w.heap.size A n c l) (h2 : Marks w w.heap.size A2 n2 c2 l2) (hk : (Lit.int .i64 k).wf = true) (ha : (Lit.int .i64 a).wf = true) (hn : n ≤ 30000) (hn2 : n2 ≤ 30000) :
    Calls Try.prog 90 #[.slice (some ⟨w.heap.size + 1, 0, none⟩) 3 3] ((w.alloc (.cells #[.int .i64 k, .int .i64 a] 57)).alloc (.cells #[.slice A n c, .slice A2 n2 c2, .slice (some ⟨w.heap.size, 0, none⟩) 1 1] 25)) fun e w' => ∃ A' n' c', e = .returned (.slice A' n' c') ∧ OwnK w' w.heap.size (.slice A' n' c') (l ++ l2 ++ [(k, a)]) ∧ Below w.heap.size w w' := by
  obtain ⟨W1, hW1⟩ : ∃ W1, W1 = w.alloc (.cells #[.int .i64 k, .int .i64 a] 57) := ⟨_, rfl⟩
  have hz1 : W1.heap.size = w.heap.size + 1 := by rw [hW1]; simp
  have hq1 : Below w.heap.size w W1 := by rw [hW1]; exact al _ _
  have hlit : Marks W1 (w.heap.size + 1) (some ⟨w.heap.size, 0, none⟩) 1 1 [(k, a)] := by rw [hW1]; exact marks_lit1 hk ha
  rw [← hW1, ← hz1]
  have hm1 : Marks W1 W1.heap.size A n c l := (h.below hq1).more hq1.size
  have hm2 : Marks W1 W1.heap.size A2 n2 c2 l2 := (h2.below hq1).more hq1.size
  rw [← hz1] at hlit
  obtain ⟨W2, hW2⟩ : ∃ W2, W2 = W1.alloc (.cells #[.slice A n c, .slice A2 n2 c2, .slice (some ⟨w.heap.size, 0, none⟩) 1 1] 25) := ⟨_, rfl⟩
  have hz2 : W2.heap.size = W1.heap.size + 1 := by rw [hW2]; simp
  have hq2 : Below W1.heap.size W1 W2 := by rw [hW2]; exact al _ _
  have hc0 : W2.cell? ⟨W1.heap.size, 0, none⟩ = some (.slice A n c) := by rw [hW2, World.cell?_alloc_at _ _ _ _ rfl]; rfl
  have hc1 : W2.cell? ⟨W1.heap.size, 1, none⟩ = some (.slice A2 n2 c2) := by rw [hW2, World.cell?_alloc_at _ _ _ _ rfl]; rfl
  have hc2 : W2.cell? ⟨W1.heap.size, 2, none⟩ = some (.slice (some ⟨w.heap.size, 0, none⟩) 1 1) := by rw [hW2, World.cell?_alloc_at _ _ _ _ rfl]; rfl
  rw [← hW2]
  have hM : MatK W2 W2.heap.size (some ⟨W1.heap.size, 0, none⟩) 3 3 [l, l2, [(k, a)]] := matK_three hc0 hc1 hc2 ((hm1.below hq2).more hq2.size) ((hm2.below hq2).more hq2.size) ((hlit.below hq2).more hq2.size) (by omega)
  have hl := h.len
  have hl2 := h2.len
  have e : [l, l2, [(k, a)]].flatten = l ++ l2 ++ [(k, a)] := by simp
  refine (concatK_c _ 3 3 _ _ W2 hM (Nat.le_refl _) (by rw [e]; simp <;> omega) (by rw [e]; simp; omega)).mono ?_
  rintro e' w' ⟨A', n', c', rfl, ho, hb⟩
  rw [e] at ho
  exact ⟨A', n', c', rfl, ho.down (by omega), upB (upB hq1 hq2) hb⟩

set_option maxRecDepth 100000 in
set_option maxHeartbeats 6400000 in
theorem backMarks_c : ∀ (x : Tr), small x = true → (flat x).length ≤ 15 → ∀ (v : Value) (B : Nat) (w : World), PartAt w B x v → B ≤ w.heap.size →
    Calls Try.prog 67 #[v] w fun e w' => ∃ A n c, e = .returned (.slice A n c) ∧ OwnK w' w.heap.size (.slice A n c) (flat (back x)) ∧ Below w.heap.size w w'
  | .col cc, hs, hlen, v, B, w, h, hB => by
    have HJ := hide (isJoined_c (.col cc) v B w h)
    obtain ⟨g, rfl, hg, h0, h1, h2, h3, h4⟩ := NodeAt.look h
    have hcc := of_decide_eq_true hs
    have hw0 := wf_i64 (z := 0) (by omega)
    have hw1 := wf_i64 (z := (cc : Int)) (by omega)
    clear h
    go_enter Try.func67, Try.ntmps67
    go_wp2_with (go_at_call 86; refine (HJ.out).mono ?_; rintro e w' ⟨rfl, rfl⟩)
    go_ret
    exact ⟨_, _, _, rfl, ownK_lit1 hw0 hw1, al _ _⟩
  | .any, hs, hlen, v, B, w, h, hB => by
    have HJ := hide (isJoined_c .any v B w h)
    obtain ⟨g, rfl, hg, h0, h1, h2, h3, h4⟩ := NodeAt.look h
    have hw0 := wf_i64 (z := 0) (by omega)
    have hw1 := wf_i64 (z := 1) (by omega)
    clear h
    go_enter Try.func67, Try.ntmps67
    go_wp2_with (go_at_call 86; refine (HJ.out).mono ?_; rintro e w' ⟨rfl, rfl⟩)
    go_ret
    exact ⟨_, _, _, rfl, ownK_lit1 hw1 hw0, al _ _⟩
  | .alt a b, hs, hlen, v, B, w, ⟨p, q, hnode, hp, hq⟩, hB => by
    have HJ := hide (show Calls Try.prog 86 #[v] w (fun e w' => e = .returned (.bool true) ∧ w = w') from isJoined_c (.alt a b) v B w ⟨p, q, hnode, hp, hq⟩)
    have hs2 : small a = true ∧ small b = true := by simpa only [small, Bool.and_eq_true] using hs
    have hl2 : (flat a).length ≤ 15 ∧ (flat b).length ≤ 15 := by simp only [flat, List.length_append] at hlen; omega
    have hb1 := back_len a
    have hb2 := back_len b
    obtain ⟨g, rfl, hg, h0, h1, h2, h3, h4⟩ := hnode.look
    have hgw : g < w.heap.size := Nat.lt_of_lt_of_le hg hB
    have hcell := hide (fun (W : World) (hqq : Below w.heap.size w W) => show W.cell? ⟨g, 0, none⟩ = some (.int .i64 3) ∧ W.cell? ⟨g, 1, none⟩ = some (.int .i64 0) ∧ W.cell? ⟨g, 3, none⟩ = some p ∧ W.cell? ⟨g, 4, none⟩ = some q from
      ⟨(hqq.cell (p := ⟨g, 0, none⟩) hgw).trans h0, (hqq.cell (p := ⟨g, 1, none⟩) hgw).trans h1, (hqq.cell (p := ⟨g, 3, none⟩) hgw).trans h3, (hqq.cell (p := ⟨g, 4, none⟩) hgw).trans h4⟩)
    have HA := hide (fun (W : World) (hqq : Below w.heap.size w W) => show Calls Try.prog 67 #[p] W (fun e w' => ∃ A n c, e = .returned (.slice A n c) ∧ Hid (OwnK w' w.heap.size (.slice A n c) (flat (back a))) ∧ Below w.heap.size w w' ∧ Hid (Below W.heap.size W w') ∧ w'.cell? ⟨g, 3, none⟩ = some p ∧ w'.cell? ⟨g, 4, none⟩ = some q) from
      (backMarks_c a hs2.1 hl2.1 p B W (hp.below (hqq.mono hB)) (Nat.le_trans hB hqq.size)).mono fun e w' ⟨A, n, c, e1, ho, hb⟩ => ⟨A, n, c, e1, ho.down hqq.size, upB hqq hb, hb, (hcell.out w' (upB hqq hb)).2.2.1, (hcell.out w' (upB hqq hb)).2.2.2⟩)
    have HB := hide (fun (W : World) (hqq : Below w.heap.size w W) => show Calls Try.prog 67 #[q] W (fun e w' => ∃ A n c, e = .returned (.slice A n c) ∧ Hid (OwnK w' w.heap.size (.slice A n c) (flat (back b))) ∧ Below w.heap.size w w' ∧ Hid (Below W.heap.size W w') ∧ w'.cell? ⟨g, 3, none⟩ = some p ∧ w'.cell? ⟨g, 4, none⟩ = some q) from
      (backMarks_c b hs2.2 hl2.2 q B W (hq.below (hqq.mono hB)) (Nat.le_trans hB hqq.size)).mono fun e w' ⟨A, n, c, e1, ho, hb⟩ => ⟨A, n, c, e1, ho.down hqq.size, upB hqq hb, hb, (hcell.out w' (upB hqq hb)).2.2.1, (hcell.out w' (upB hqq hb)).2.2.2⟩)
    have hw0 := wf_i64 (z := 0) (by omega)
    have hwK := wf_i64 (z := 3) (by omega)
    have hbk := hide (show flat (back (.alt a b)) = flat (back a) ++ flat (back b) ++ [(3, 0)] by simp [back, flat])
    rw [hbk.out]
    obtain ⟨la, hla⟩ : ∃ l, Hid (flat (back a) = l) := ⟨_, hide rfl⟩
    obtain ⟨lb, hlb⟩ : ∃ l, Hid (flat (back b) = l) := ⟨_, hide rfl⟩
    rw [hla.out] at HA hb1 ⊢
    rw [hlb.out] at HB hb2 ⊢
    have hla15 := hide (show la.length ≤ 15 by omega)
    have hlb15 := hide (show lb.length ≤ 15 by omega)
    clear hp hq hnode h2 hs hlen hs2 hl2 hb1 hb2
    go_enter Try.func67, Try.ntmps67
    go_wp2_with (go_at_call 86; refine (HJ.out).mono ?_; rintro e w' ⟨rfl, rfl⟩)
    go_region_held3 (fun wX => wX.cell? ⟨g, 3, none⟩ = some p ∧ wX.cell? ⟨g, 4, none⟩ = some q) (first | exact ⟨h3, h4⟩ | exact ⟨s3, s4⟩ | exact ⟨t3, t4⟩ | go_keep) (first | (go_at_call 67; (with_reducible refine (HA.out _ ?_).mono ?_); (focus (repeat (first | assumption | exact Below.refl _ _ | refine Below.drew ?_)); done); rintro e w2 ⟨A4, n4, c4, rfl, ho4, hq4, hb4, s3, s4⟩) | (go_at_call 67; (with_reducible refine (HB.out _ ?_).mono ?_); (focus (repeat (first | assumption | exact Below.refl _ _ | refine Below.drew ?_)); done); rintro e w3 ⟨A5, n5, c5, rfl, ho5, hq5, hb5, t3, t4⟩))
    obtain ⟨t0, t1, _, _⟩ := hcell.out w3 hq5
    have ho6 := hide (show OwnK w3 w.heap.size (.slice A4 n4 c4) la by first | exact ho4.out.up hb5.out | exact ho4.out.drew.up hb5.out)
    have h4n := hide (show n4 ≤ 30000 by have := ho6.out.len; have := hla15.out; omega)
    have h5n := hide (show n5 ≤ 30000 by have := ho5.out.len; have := hlb15.out; omega)
    have HC := hide (concat3_c A4 A5 n4 c4 n5 c5 0 la lb 3 0 w3 ho6.out.marks ho5.out.marks hwK hw0 h4n.out h5n.out)
    have hq6 := hide hq5
    clear hq4 hq5 s3 s4 h0 h1 h3 h4 hb4 hb5 ho4
    go_wp2_with (go_at_call 90; refine (HC.out).mono ?_; rintro e w4 ⟨A6, n6, c6, rfl, ho7, hb7⟩)
    go_ret
    exact ⟨_, _, _, rfl, ho7.down hq6.out.size, upB hq6.out hb7⟩
  | .thn a b, hs, hlen, v, B, w, ⟨p, q, hnode, hp, hq⟩, hB => by
    have HJ := hide (show Calls Try.prog 86 #[v] w (fun e w' => e = .returned (.bool true) ∧ w = w') from isJoined_c (.thn a b) v B w ⟨p, q, hnode, hp, hq⟩)
    have hs2 : small a = true ∧ small b = true := by simpa only [small, Bool.and_eq_true] using hs
    have hl2 : (flat a).length ≤ 15 ∧ (flat b).length ≤ 15 := by simp only [flat, List.length_append] at hlen; omega
    have hb1 := back_len a
    have hb2 := back_len b
    obtain ⟨g, rfl, hg, h0, h1, h2, h3, h4⟩ := hnode.look
    have hgw : g < w.heap.size := Nat.lt_of_lt_of_le hg hB
    have hcell := hide (fun (W : World) (hqq : Below w.heap.size w W) => show W.cell? ⟨g, 0, none⟩ = some (.int .i64 2) ∧ W.cell? ⟨g, 1, none⟩ = some (.int .i64 0) ∧ W.cell? ⟨g, 3, none⟩ = some p ∧ W.cell? ⟨g, 4, none⟩ = some q from
      ⟨(hqq.cell (p := ⟨g, 0, none⟩) hgw).trans h0, (hqq.cell (p := ⟨g, 1, none⟩) hgw).trans h1, (hqq.cell (p := ⟨g, 3, none⟩) hgw).trans h3, (hqq.cell (p := ⟨g, 4, none⟩) hgw).trans h4⟩)
    have HA := hide (fun (W : World) (hqq : Below w.heap.size w W) => show Calls Try.prog 67 #[p] W (fun e w' => ∃ A n c, e = .returned (.slice A n c) ∧ Hid (OwnK w' w.heap.size (.slice A n c) (flat (back a))) ∧ Below w.heap.size w w' ∧ Hid (Below W.heap.size W w') ∧ w'.cell? ⟨g, 3, none⟩ = some p ∧ w'.cell? ⟨g, 4, none⟩ = some q) from
      (backMarks_c a hs2.1 hl2.1 p B W (hp.below (hqq.mono hB)) (Nat.le_trans hB hqq.size)).mono fun e w' ⟨A, n, c, e1, ho, hb⟩ => ⟨A, n, c, e1, ho.down hqq.size, upB hqq hb, hb, (hcell.out w' (upB hqq hb)).2.2.1, (hcell.out w' (upB hqq hb)).2.2.2⟩)
    have HB := hide (fun (W : World) (hqq : Below w.heap.size w W) => show Calls Try.prog 67 #[q] W (fun e w' => ∃ A n c, e = .returned (.slice A n c) ∧ Hid (OwnK w' w.heap.size (.slice A n c) (flat (back b))) ∧ Below w.heap.size w w' ∧ Hid (Below W.heap.size W w') ∧ w'.cell? ⟨g, 3, none⟩ = some p ∧ w'.cell? ⟨g, 4, none⟩ = some q) from
      (backMarks_c b hs2.2 hl2.2 q B W (hq.below (hqq.mono hB)) (Nat.le_trans hB hqq.size)).mono fun e w' ⟨A, n, c, e1, ho, hb⟩ => ⟨A, n, c, e1, ho.down hqq.size, upB hqq hb, hb, (hcell.out w' (upB hqq hb)).2.2.1, (hcell.out w' (upB hqq hb)).2.2.2⟩)
    have hw0 := wf_i64 (z := 0) (by omega)
    have hwK := wf_i64 (z := 2) (by omega)
    have hbk := hide (show flat (back (.thn a b)) = flat (back b) ++ flat (back a) ++ [(2, 0)] by simp [back, flat])
    rw [hbk.out]
    obtain ⟨la, hla⟩ : ∃ l, Hid (flat (back a) = l) := ⟨_, hide rfl⟩
    obtain ⟨lb, hlb⟩ : ∃ l, Hid (flat (back b) = l) := ⟨_, hide rfl⟩
    rw [hla.out] at HA hb1 ⊢
    rw [hlb.out] at HB hb2 ⊢
    have hla15 := hide (show la.length ≤ 15 by omega)
    have hlb15 := hide (show lb.length ≤ 15 by omega)
    clear hp hq hnode h2 hs hlen hs2 hl2 hb1 hb2
    go_enter Try.func67, Try.ntmps67
    go_wp2_with (go_at_call 86; refine (HJ.out).mono ?_; rintro e w' ⟨rfl, rfl⟩)
    go_region_held3 (fun wX => wX.cell? ⟨g, 3, none⟩ = some p ∧ wX.cell? ⟨g, 4, none⟩ = some q) (first | exact ⟨h3, h4⟩ | exact ⟨s3, s4⟩ | exact ⟨t3, t4⟩ | go_keep) (first | (go_at_call 67; (with_reducible refine (HA.out _ ?_).mono ?_); (focus (repeat (first | assumption | exact Below.refl _ _ | refine Below.drew ?_)); done); rintro e w2 ⟨A4, n4, c4, rfl, ho4, hq4, hb4, s3, s4⟩) | (go_at_call 67; (with_reducible refine (HB.out _ ?_).mono ?_); (focus (repeat (first | assumption | exact Below.refl _ _ | refine Below.drew ?_)); done); rintro e w3 ⟨A5, n5, c5, rfl, ho5, hq5, hb5, t3, t4⟩))
    obtain ⟨t0, t1, _, _⟩ := hcell.out w3 hq5
    have ho6 := hide (show OwnK w3 w.heap.size (.slice A4 n4 c4) la by first | exact ho4.out.up hb5.out | exact ho4.out.drew.up hb5.out)
    have h4n := hide (show n4 ≤ 30000 by have := ho6.out.len; have := hla15.out; omega)
    have h5n := hide (show n5 ≤ 30000 by have := ho5.out.len; have := hlb15.out; omega)
    have HC := hide (concat3_c A5 A4 n5 c5 n4 c4 0 lb la 2 0 w3 ho5.out.marks ho6.out.marks hwK hw0 h5n.out h4n.out)
    have hq6 := hide hq5
    clear hq4 hq5 s3 s4 h0 h1 h3 h4 hb4 hb5 ho4
    go_wp2_with (go_at_call 90; refine (HC.out).mono ?_; rintro e w4 ⟨A6, n6, c6, rfl, ho7, hb7⟩)
    go_ret
    exact ⟨_, _, _, rfl, ho7.down hq6.out.size, upB hq6.out hb7⟩
end Go.Proofs.Ytffllkmaifjpfab

namespace Go.Proofs.Ytffllkmaifjpfab
open Go.RowKit
set_option linter.unusedVariables false

theorem tail_bts (s : ByteArray) : bts (s.extract 1 s.size) = (bts s).tail := by
  rw [strB_take, bts_strB, List.take_of_length_le (by rw [bts_len]; exact Nat.le_refl _), List.drop_one]
theorem tail_size (s : ByteArray) (h : 0 < s.size) : (s.extract 1 s.size).size + 1 = s.size := by
  have h1 := bts_len (s.extract 1 s.size)
  rw [tail_bts, List.length_tail, bts_len] at h1
  omega
theorem bts_head (s : ByteArray) (h : 0 < s.size) : bts s = (s[0]'h) :: (bts s).tail := by
  have := bts_drop s 0 h
  rw [List.drop_zero] at this
  rw [this]; rfl
theorem bts_nil {s : ByteArray} (h : s.size = 0) : bts s = [] := List.eq_nil_of_length_eq_zero (by rw [bts_len]; exact h)
theorem str_nil {s : ByteArray} (h : s.size = 0) : s = ⟨#[]⟩ := by rw [← strB_bts s, bts_nil h]; rfl

theorem indexByte_run (s : ByteArray) (c : Int) (w : World) : Sem.run Try.prog (callFunc 118 #[.string s, .int .u8 c]) w = .ok (.value (.int .i64 (Lib.indexByte s.data.toList c.toNat.toUInt8))) w := by
  rw [run_callFunc_extern Try.func118 (by kernel_rfl) (by kernel_rfl) (by kernel_rfl) (e := Extern.BytealgIndexByte.indexByte) (by kernel_rfl), Lib.run_indexByteString]
  rfl
def abcAt (c : UInt8) : Int := if 97 ≤ c.toNat ∧ c.toNat ≤ 99 then (c.toNat : Int) - 97 else -1
theorem abc_at (c : UInt8) : Lib.indexByte [97, 98, 99] (c.toNat : Int).toNat.toUInt8 = abcAt c := by
  have e : ((c.toNat : Int).toNat.toUInt8) = c := by simp
  rw [e]
  have key : ((List.range 256).all fun k => Lib.indexByte [97, 98, 99] (UInt8.ofNat k) == abcAt (UInt8.ofNat k)) = true := by kernel_rfl
  have := List.all_eq_true.1 key c.toNat (List.mem_range.2 c.toNat_lt)
  simpa using this
theorem stringsIndexByte_c (c : UInt8) (w : World) :
    Calls Try.prog 114 #[.string ⟨#[97, 98, 99]⟩, .int .u8 (c.toNat : Int)] w fun e w' => e = .returned (.int .i64 (abcAt c)) ∧ w = w' := by
  have H1 := indexByte_run ⟨#[97, 98, 99]⟩ (c.toNat : Int)
  rw [show (⟨#[97, 98, 99]⟩ : ByteArray).data.toList = [97, 98, 99] from rfl, abc_at] at H1
  have H2 : Calls Try.prog 117 #[.string ⟨#[97, 98, 99]⟩, .int .u8 (c.toNat : Int)] w fun e w' => e = .returned (.int .i64 (abcAt c)) ∧ w = w' := by
    go_enter Try.func117, Try.ntmps117
    go_wp2
    go_ret
    exact ⟨rfl, rfl⟩
  replace H2 := hide H2
  clear H1
  go_enter Try.func114, Try.ntmps114
  go_wp2_with (go_at_call 117; refine (H2.out).mono ?_; rintro e w' ⟨rfl, rfl⟩)
  go_ret
  exact ⟨rfl, rfl⟩

def headIs (d : UInt8) : List UInt8 → Bool
  | c :: _ => c == d
  | [] => false
theorem prefixLite_c (s : ByteArray) (d : UInt8) (w : World) (hs : s.size ≤ 60) :
    Calls Try.prog 106 #[.string s, .string ⟨#[d]⟩] w fun e w' => e = .returned (.bool (headIs d (bts s))) ∧ w = w' := by
  by_cases h0 : 0 < s.size
  · have hd := hide (bts_head s h0)
    have he : ((s.extract 0 1).toList == [d]) = headIs d (bts s) := by
      rw [ByteArray.toList_eq, strB_take, List.drop_zero]
      rw [show (strB ((bts s).take 1)).data.toList = (bts s).take 1 from bts_strB _, hd.out]
      simp [headIs]
    obtain ⟨b, hb⟩ : ∃ b, Hid (headIs d (bts s) = b) := ⟨_, hide rfl⟩
    rw [hb.out] at he ⊢
    have hz : (ByteArray.mk #[d]).size = 1 := rfl
    go_enter Try.func106, Try.ntmps106
    go_wp2
    go_ret
    exact ⟨rfl, rfl⟩
  · have hd := hide (show headIs d (bts s) = false by rw [bts_nil (by omega)]; rfl)
    have hz : (ByteArray.mk #[d]).size = 1 := rfl
    have hs0 : s.size = 0 := by omega
    clear h0
    go_enter Try.func106, Try.ntmps106
    go_wp2
    go_ret
    exact ⟨ret_bool hd.out.symm, rfl⟩
theorem hasPrefix_c (s : ByteArray) (d : UInt8) (w : World) (hs : s.size ≤ 60) :
    Calls Try.prog 89 #[.string s, .string ⟨#[d]⟩] w fun e w' => e = .returned (.bool (headIs d (bts s))) ∧ w = w' := by
  have H2 := hide (prefixLite_c s d w hs)
  go_enter Try.func89, Try.ntmps89
  go_wp2_with (go_at_call 106; refine (H2.out).mono ?_; rintro e w' ⟨rfl, rfl⟩)
  go_ret
  exact ⟨rfl, rfl⟩
end Go.Proofs.Ytffllkmaifjpfab

namespace Go.Proofs.Ytffllkmaifjpfab
open Go.RowKit
set_option linter.unusedVariables false

/-- What a reader of the program hands back for a text. -/
def Said (f : List UInt8 → Rest) (l : List UInt8) (ms : List Mk) (s' : ByteArray) (ok : Bool) : Prop := (f l = none ∧ ok = false) ∨ ∃ t, f l = some (t, bts s') ∧ ok = true ∧ ms = flat t
def Scan (f : List UInt8 → Rest) (l : List UInt8) (w : World) (e : Ending) (w' : World) : Prop :=
  ∃ (A : Option Addr) (n c : Nat) (s' : ByteArray) (ok : Bool) (ms : List Mk), e = .returned (.tuple #[.slice A n c, .string s', .bool ok]) ∧ OwnK w' w.heap.size (.slice A n c) ms ∧ Below w.heap.size w w' ∧ n ≤ 2 * l.length + 1 ∧ Said f l ms s' ok ∧ s'.size ≤ 60
/-- What stands in brackets. -/
def heldF (f : List UInt8 → Rest) (r : List UInt8) : Rest := match f r with
      | some (t, d :: r') => if d = 41 then some (t, r') else none
      | _ => none
theorem atom_held (f : List UInt8 → Rest) {c : UInt8} (r : List UInt8) (h1 : c.toNat = 40) : pAtom f (c :: r) = heldF f r := atom_open f r h1
theorem heldF_no {f : List UInt8 → Rest} {r : List UInt8} (h : f r = none) : heldF f r = none := by unfold heldF; rw [h]
theorem heldF_yes {f : List UInt8 → Rest} {r l : List UInt8} {t : Tr} (h : f r = some (t, l)) (hh : headIs 41 l = true) : heldF f r = some (t, l.tail) := by
  unfold heldF
  rw [h]
  cases l with
  | nil => cases hh
  | cons d l =>
    have : d = 41 := by simpa [headIs] using hh
    simp [this]
theorem heldF_bad {f : List UInt8 → Rest} {r l : List UInt8} {t : Tr} (h : f r = some (t, l)) (hh : headIs 41 l = false) : heldF f r = none := by
  unfold heldF
  rw [h]
  cases l with
  | nil => rfl
  | cons d l =>
    have : ¬ d = 41 := by simpa [headIs] using hh
    simp [this]
theorem head_pos {d : UInt8} {s : ByteArray} (h : headIs d (bts s) = true) : 0 < s.size := by
  rcases Nat.eq_zero_or_pos s.size with h0 | h0
  · rw [bts_nil h0] at h; cases h
  · exact h0

set_option maxRecDepth 100000 in
set_option maxHeartbeats 1600000 in
theorem readHeld_c (f : List UInt8 → Rest) (s : ByteArray) (w : World) (hs : s.size ≤ 60)
    (HB : Calls Try.prog 51 #[.string s] w fun e w' => Scan f (bts s) w e w') :
    Calls Try.prog 113 #[.string s] w fun e w' => Scan (heldF f) (bts s) w e w' := by
  replace HB := hide HB
  have HH := hide (fun (s' : ByteArray) (h : s'.size ≤ 60) (W : World) => hasPrefix_c s' 41 W h)
  go_enter Try.func113, Try.ntmps113
  go_wp2_with fail
  refine HB.out.mono ?_
  rintro e w1 ⟨A, n, c, s', ok, ms, rfl, ho, hq, hn, hsd, hs6⟩
  have ho := hide ho
  have hq := hide hq
  replace HH := hide (HH.out s' hs6)
  rcases hsd with ⟨hf, rfl⟩ | ⟨t, hf, rfl, hms⟩
  · have hf2 := hide (heldF_no hf)
    clear hf
    go_wp2_with fail
    go_ret3
    exact ⟨_, _, _, _, _, [], rfl, OwnK.none_, hq.out, by omega, .inl ⟨hf2.out, rfl⟩, by decide⟩
  · obtain ⟨b, hb⟩ : ∃ b, Hid (headIs 41 (bts s') = b) := ⟨_, hide rfl⟩
    rw [hb.out] at HH
    replace hms := hide hms
    cases b with
    | true =>
      have hpos := head_pos hb.out
      have hf2 := hide (heldF_yes hf hb.out)
      have hsz : (1 : Int) ≤ (s'.size : Int) := by omega
      have htb := hide (tail_bts s')
      have hts := hide (tail_size s' hpos)
      clear hf
      go_wp2_with (go_at_call 89; refine (HH.out _).mono ?_; rintro e w' ⟨rfl, rfl⟩)
      go_quiet (fail)
      go_wp2_with fail
      go_ret3
      exact ⟨_, _, _, _, _, ms, rfl, ho.out.drewN _, below_drewN hq.out _, hn, .inr ⟨t, by rw [htb.out]; exact hf2.out, rfl, hms.out⟩, by have := hts.out; omega⟩
    | false =>
      have hf2 := hide (heldF_bad hf hb.out)
      clear hf
      go_wp2_with (go_at_call 89; refine (HH.out _).mono ?_; rintro e w' ⟨rfl, rfl⟩)
      go_ret3
      exact ⟨_, _, _, _, _, [], rfl, OwnK.none_, hq.out, by omega, .inl ⟨hf2.out, rfl⟩, by decide⟩

set_option maxRecDepth 100000 in
set_option maxHeartbeats 1600000 in
theorem readOne_c (f : List UInt8 → Rest) (s : ByteArray) (w : World) (hs : s.size ≤ 60)
    (HB : ∀ W, 0 < s.size → Calls Try.prog 51 #[.string (s.extract 1 s.size)] W fun e w' => Scan f (bts (s.extract 1 s.size)) W e w') :
    Calls Try.prog 105 #[.string s] w fun e w' => Scan (pAtom f) (bts s) w e w' := by
  by_cases h0 : 0 < s.size
  · have hd := hide (bts_head s h0)
    have htb := hide (tail_bts s)
    have hts := tail_size s h0
    have hsz : (1 : Int) ≤ (s.size : Int) := by omega
    have hne : (s.toList == ([] : List UInt8)) = false := by
      rw [ByteArray.toList_eq]
      show (bts s == []) = false
      rw [hd.out]; rfl
    have HH := hide (fun W => readHeld_c f (s.extract 1 s.size) W (by omega) (HB W h0))
    have HI := hide (fun W => stringsIndexByte_c (s[0]'h0) W)
    have hlen : (bts s).length = s.size := bts_len s
    have hlenT : (bts (s.extract 1 s.size)).length + 1 = s.size := by rw [bts_len]; exact hts
    replace hts := hide hts
    replace hlen := hide hlen
    replace hlenT := hide hlenT
    have hw0 := wf_i64 (z := 0) (by omega)
    have hw1 := wf_i64 (z := 1) (by omega)
    obtain ⟨R, hR⟩ : ∃ R, Hid (s.extract 1 s.size = R) := ⟨_, hide rfl⟩
    rw [hR.out] at htb hts HH hlenT
    by_cases h1 : (s[0]'h0).toNat = 40
    · have ha := hide (atom_held f (bts s).tail h1)
      go_enter Try.func105, Try.ntmps105
      go_wp2_with fail
      go_quiet (fail)
      rw [hR.out]
      go_wp2_with fail
      refine (HH.out _).mono ?_
      rintro e w1 ⟨A, n, c, s', ok, ms, rfl, ho, hq, hn, hsd, hs6⟩
      have ho := hide ho
      have hq := hide hq
      replace hsd := hide hsd
      go_wp2_with fail
      go_ret3
      exact ⟨_, _, _, _, _, ms, rfl, ho.out, (below_drewN (Below.refl _ _) _).trans hq.out, by have := hlenT.out; have := hlen.out; omega, by
        rw [hd.out, ← htb.out]
        rw [← htb.out] at ha
        unfold Said
        rw [ha.out]
        exact hsd.out, hs6⟩
    · by_cases h2 : (s[0]'h0).toNat = 46
      · have ha := hide (atom_any f (bts s).tail h2)
        clear h1
        go_enter Try.func105, Try.ntmps105
        go_wp2_with fail
        go_quiet (fail)
        rw [hR.out]
        go_wp2_with fail
        go_ret3
        exact ⟨_, _, _, _, _, _, rfl, ownK_lit1 hw1 hw0, (below_drewN (Below.refl _ _) _).alloc (Nat.le_refl _) _, by omega, .inr ⟨.any, by rw [hd.out, htb.out]; exact ha.out, rfl, rfl⟩, by have := hts.out; omega⟩
      · have hb40 : (((s[0]'h0).toNat : Int) == 40) = false := by simp; omega
        have hb46 : (((s[0]'h0).toNat : Int) == 46) = false := by simp; omega
        by_cases h3 : 97 ≤ (s[0]'h0).toNat ∧ (s[0]'h0).toNat ≤ 99
        · have ha := hide (atom_col f (bts s).tail h3.1 h3.2)
          have hab := hide (show abcAt (s[0]'h0) = (((s[0]'h0).toNat - 97 : Nat) : Int) by unfold abcAt; rw [if_pos h3]; omega)
          obtain ⟨y, hy⟩ : ∃ y : Nat, Hid ((s[0]'h0).toNat - 97 = y) := ⟨_, hide rfl⟩
          have hy2 : y ≤ 2 := by have := hy.out; omega
          rw [hy.out] at hab ha
          rw [hab.out] at HI
          have hwy := wf_i64 (z := (y : Int)) (by omega)
          clear h1 h2 h3
          go_enter Try.func105, Try.ntmps105
          go_wp2_with fail
          go_quiet (fail)
          rw [hR.out]
          go_wp2_with (go_at_call 114; refine (HI.out _).mono ?_; rintro e w' ⟨rfl, rfl⟩)
          go_ret3
          exact ⟨_, _, _, _, _, _, rfl, ownK_lit1 hw0 hwy, (below_drewN (Below.refl _ _) _).alloc (Nat.le_refl _) _, by omega, .inr ⟨.col y, by rw [hd.out, htb.out]; exact ha.out, rfl, rfl⟩, by have := hts.out; omega⟩
        · have ha := hide (atom_none f (bts s).tail h3 h2 h1)
          have hab := hide (show abcAt (s[0]'h0) = -1 by unfold abcAt; rw [if_neg h3])
          rw [hab.out] at HI
          clear h1 h2 h3
          go_enter Try.func105, Try.ntmps105
          go_wp2_with fail
          go_quiet (fail)
          rw [hR.out]
          go_wp2_with (go_at_call 114; refine (HI.out _).mono ?_; rintro e w' ⟨rfl, rfl⟩)
          go_ret3
          exact ⟨_, _, _, _, _, [], rfl, OwnK.none_, below_drewN (Below.refl _ _) _, by omega, .inl ⟨by rw [hd.out]; exact ha.out, rfl⟩, by decide⟩
  · have hs0 : s.size = 0 := by omega
    have hd := hide (bts_nil hs0)
    obtain rfl := str_nil hs0
    clear h0 hs0
    go_enter Try.func105, Try.ntmps105
    go_wp2_with fail
    go_ret3
    exact ⟨_, _, _, _, _, [], rfl, OwnK.none_, Below.refl _ _, by omega, .inl ⟨by rw [hd.out]; rfl, rfl⟩, by decide⟩
/-- What is left to be read. -/
def measS : Value → Value → Nat
  | .string s, .bool true => s.size + 1
  | _, _ => 0
theorem measS_yes (s : ByteArray) : measS (.string s) (.bool true) = s.size + 1 := rfl
theorem measS_no (s : ByteArray) : measS (.string s) (.bool false) = 0 := rfl

set_option maxRecDepth 100000 in
set_option maxHeartbeats 3200000 in
theorem readRow_c (m : Nat) (s : ByteArray) (w : World) (hs : s.size ≤ 60)
    (HA : ∀ (s1 : ByteArray) (W : World), s1.size ≤ s.size → Calls Try.prog 105 #[.string s1] W fun e w' => Scan (atN m) (bts s1) W e w') :
    Calls Try.prog 88 #[.string s] w fun e w' => Scan (rowN m) (bts s) w e w' := by
  have HA0 := hide (HA s w (Nat.le_refl _))
  replace HA := hide HA
  have hwK := wf_i64 (z := 2) (by omega)
  have hw0 := wf_i64 (z := 0) (by omega)
  have hl := hide (bts_len s)
  go_enter Try.func88, Try.ntmps88
  go_wp2_with fail
  refine HA0.out.mono ?_
  rintro e w1 ⟨A0, n0, c0, s0, ok0, ms0, rfl, ho0, hq0, hn0, hsd0, hz0⟩
  have ho0 := hide ho0
  have hq0 := hide hq0
  have hst0 := hide (show (rowN m (bts s) = none ∧ ok0 = false) ∨ ∃ t j, rowN m (bts s) = rowLoop (atN m) j t (bts s0) ∧ ok0 = true ∧ ms0 = flat t ∧ s0.size ≤ j ∧ s0.size ≤ s.size ∧ n0 + 2 * s0.size + 1 ≤ 2 * s.size by
    rcases hsd0 with ⟨hf, h⟩ | ⟨t, hf, h, hms⟩
    · exact .inl ⟨by show pRow (atN m) _ = none; unfold pRow; rw [hf], h⟩
    · refine .inr ⟨t, (bts s0).length, by show pRow (atN m) _ = _; unfold pRow; rw [hf], h, hms, by rw [bts_len]; exact Nat.le_refl _, ?_, ?_⟩
      · obtain ⟨k, k1, k2, k3⟩ := atN_eats m _ _ _ hf
        have := congrArg List.length k3
        rw [List.length_drop, bts_len, bts_len] at this
        omega
      · have h1 := atN_thin m _ _ _ hf
        have h2 := ho0.out.len
        rw [bts_len, bts_len] at h1
        rw [h2, hms]
        omega)
  have hn0s : n0 ≤ 2 * s.size + 1 := by have := hl.out; omega
  replace hn0 := hide hn0
  clear hsd0
  go_wp2_with fail
  go_loopw [5, 6, 7] (fun v t o wr => ∃ A n c s' ok ms, v = .slice A n c ∧ t = .string s' ∧ o = .bool ok ∧ n ≤ 2 * s.size + 1 ∧ s'.size ≤ 60 ∧ Hid (OwnK wr w.heap.size (.slice A n c) ms) ∧ Hid (Below w.heap.size w wr) ∧ Hid ((rowN m (bts s) = none ∧ ok = false) ∨ ∃ t j, rowN m (bts s) = rowLoop (atN m) j t (bts s') ∧ ok = true ∧ ms = flat t ∧ s'.size ≤ j ∧ s'.size ≤ s.size ∧ n + 2 * s'.size + 1 ≤ 2 * s.size)) (fun _ t o _ => measS t o)
  case atStart => exact ⟨_, _, _, _, _, _, rfl, rfl, rfl, hn0s, hz0, ho0, hq0, hst0⟩
  case round =>
    clear ho0 hq0 hst0 HA0 hn0 hn0s hz0
    obtain ⟨A, n, c, s', ok, ms, rfl, rfl, rfl, hnb, hz, ho, hb, hst⟩ := hrel
    have hsz := hb.out.size
    rcases hst.out with ⟨hf, rfl⟩ | ⟨t, j, hf, rfl, hms, hj, hss, hth⟩
    · replace hf := hide hf
      go_wp2_with fail
      go_ret3
      exact ⟨_, _, _, _, _, _, rfl, ho.out, hb.out, by have := hl.out; omega, .inl ⟨hf.out, rfl⟩, hz⟩
    · replace hf := hide hf
      replace hms := hide hms
      replace hj := hide hj
      replace hth := hide hth
      clear hst
      by_cases hpos : 0 < s'.size
      · have hd := hide (bts_head s' hpos)
        have hne : (s'.toList != ([] : List UInt8)) = true := by
          rw [ByteArray.toList_eq]
          show (bts s' != []) = true
          rw [hd.out]; rfl
        have hne2 : (s'.toList == ([] : List UInt8)) = false := by
          rw [ByteArray.toList_eq]
          show (bts s' == []) = false
          rw [hd.out]; rfl
        by_cases h124 : (s'[0]'hpos).toNat = 124
        · have he := hide (rowLoop_end (atN m) j t (l := bts s') (.inr ⟨_, _, hd.out, .inl (u8_124.2 h124)⟩))
          have ha2 : (((s'[0]'hpos).toNat : Int) != 124) = false := by simp; omega
          clear h124
          go_wp2_with fail
          go_ret3
          exact ⟨_, _, _, _, _, _, rfl, ho.out, hb.out, by have := hl.out; omega, .inr ⟨t, by rw [hf.out, he.out], rfl, hms.out⟩, hz⟩
        · have ha2 : (((s'[0]'hpos).toNat : Int) != 124) = true := by simp; omega
          by_cases h41 : (s'[0]'hpos).toNat = 41
          · have he := hide (rowLoop_end (atN m) j t (l := bts s') (.inr ⟨_, _, hd.out, .inr (u8_41.2 h41)⟩))
            have hb2 : (((s'[0]'hpos).toNat : Int) != 41) = false := by simp; omega
            clear h124 h41
            go_wp2_with fail
            go_ret3
            exact ⟨_, _, _, _, _, _, rfl, ho.out, hb.out, by have := hl.out; omega, .inr ⟨t, by rw [hf.out, he.out], rfl, hms.out⟩, hz⟩
          · have hb2 : (((s'[0]'hpos).toNat : Int) != 41) = true := by simp; omega
            have hng := hide (show ¬((s'[0]'hpos) = 124 ∨ (s'[0]'hpos) = 41) from fun h => h.elim (fun h => h124 (u8_124.1 h)) (fun h => h41 (u8_41.1 h)))
            clear h124 h41
            obtain ⟨j', hj'⟩ : ∃ j', Hid (j = j' + 1) := ⟨j - 1, hide (by have := hj.out; omega)⟩
            have hnx := hide (show rowN m (bts s) = (match atN m (bts s') with
                | some (u, l') => rowLoop (atN m) j' (.thn t u) l'
                | none => none) by
              rw [hf.out, hj'.out]
              exact rowL_at _ _ _ hd.out hng.out)
            have HAp := hide (HA.out s' wr hss)
            have hlp := hide (bts_len s')
            have hzj := hide (show s'.size ≤ j' + 1 by have := hj.out; have := hj'.out; omega)
            obtain ⟨s9, hs9⟩ : ∃ s9, Hid (s9 = s') := ⟨_, hide rfl⟩
            go_wp2_with fail
            refine HAp.out.mono ?_
            rintro e w2 ⟨A2, n2, c2, s2, ok2, ms2, rfl, ho2, hq2, hn2, hsd2, hz2⟩
            have hq2 := hide hq2
            have ho1 := hide (ho.out.up hq2.out)
            have ho2 := hide (ho2.down hsz)
            have hbw := hide (upB hb.out hq2.out)
            have hl1 := hide ho1.out.len
            have hl2 := hide ho2.out.len
            have hn3 := hide (show n ≤ 30000 ∧ n2 ≤ 30000 by have := hlp.out; have := hss; omega)
            have HC := hide (concat3_c A A2 n c n2 c2 0 ms ms2 2 0 w2 ho1.out.marks ho2.out.marks hwK hw0 hn3.out.1 hn3.out.2)
            have hnew := hide (show n + n2 + 1 ≤ 2 * s.size + 1 by have := hlp.out; have := hth.out; have := hss; omega)
            have hst2 := hide (show ((rowN m (bts s) = none ∧ ok2 = false) ∨ ∃ t j, rowN m (bts s) = rowLoop (atN m) j t (bts s2) ∧ ok2 = true ∧ ms ++ ms2 ++ [(2, 0)] = flat t ∧ s2.size ≤ j ∧ s2.size ≤ s.size ∧ (n + n2 + 1) + 2 * s2.size + 1 ≤ 2 * s.size) ∧ measS (.string s2) (.bool ok2) < measS (.string s') (.bool true) by
              rcases hsd2 with ⟨hg, h⟩ | ⟨u, hg, h, hms2⟩
              · subst h
                exact ⟨.inl ⟨by rw [hnx.out, hg], rfl⟩, by rw [measS_no, measS_yes]; omega⟩
              · subst h
                obtain ⟨k, k1, k2, k3⟩ := atN_eats m _ _ _ hg
                have hk := congrArg List.length k3
                rw [List.length_drop, bts_len, bts_len] at hk
                have hth2 := atN_thin m _ _ _ hg
                rw [bts_len, bts_len, ← hms2, ← hl2.out] at hth2
                have e9 := hss
                have k2' := k2
                rw [bts_len] at k2'
                refine ⟨.inr ⟨.thn t u, j', by rw [hnx.out, hg], rfl, by rw [hms.out, hms2]; simp [flat], ?_, ?_, ?_⟩, ?_⟩
                · have := hzj.out; omega
                · omega
                · have := hth.out; omega
                · rw [measS_yes, measS_yes]; omega)
            clear hsd2 hnx HAp hn2
            go_wp2_with (go_at_call 90; refine (HC.out).mono ?_; rintro e w4 ⟨A6, n6, c6, rfl, ho7, hb7⟩)
            have hn6 := hide (show n6 = n + n2 + 1 by have := ho7.len; simp only [List.length_append, List.length_cons, List.length_nil] at this; have := hl1.out; have := hl2.out; omega)
            have ho8 := hide (ho7.down hbw.out.size)
            have hb8 := hide (upB hbw.out hb7)
            clear ho7 hb7
            go_wp2_with fail
            go_roundw
            case rel => exact ⟨_, _, _, _, _, _, rfl, rfl, rfl, by rw [hn6.out]; exact hnew.out, hz2, ho8, hb8, by rw [hn6.out]; exact hst2.out.1⟩
            case measure => exact hst2.out.2
      · have hs0 : s'.size = 0 := by omega
        have hd := hide (bts_nil hs0)
        obtain rfl := str_nil hs0
        clear hpos hs0
        have he := hide (rowLoop_end (atN m) j t (l := bts ⟨#[]⟩) (.inl hd.out))
        go_wp2_with fail
        go_ret3
        exact ⟨_, _, _, _, _, _, rfl, ho.out, hb.out, by have := hl.out; omega, .inr ⟨t, by rw [hf.out, he.out], rfl, hms.out⟩, hz⟩

set_option maxRecDepth 100000 in
set_option maxHeartbeats 3200000 in
theorem readBars_c (m : Nat) (s : ByteArray) (w : World) (hs : s.size ≤ 60)
    (HA : ∀ (s1 : ByteArray) (W : World), s1.size ≤ s.size → Calls Try.prog 88 #[.string s1] W fun e w' => Scan (rowN m) (bts s1) W e w') :
    Calls Try.prog 51 #[.string s] w fun e w' => Scan (pOr (m + 1)) (bts s) w e w' := by
  have HA0 := hide (HA s w (Nat.le_refl _))
  replace HA := hide HA
  have hwK := wf_i64 (z := 3) (by omega)
  have hw0 := wf_i64 (z := 0) (by omega)
  have hl := hide (bts_len s)
  go_enter Try.func51, Try.ntmps51
  go_wp2_with fail
  refine HA0.out.mono ?_
  rintro e w1 ⟨A0, n0, c0, s0, ok0, ms0, rfl, ho0, hq0, hn0, hsd0, hz0⟩
  have ho0 := hide ho0
  have hq0 := hide hq0
  have hst0 := hide (show (pOr (m + 1) (bts s) = none ∧ ok0 = false) ∨ ∃ t j, pOr (m + 1) (bts s) = orLoop (rowN m) j t (bts s0) ∧ ok0 = true ∧ ms0 = flat t ∧ s0.size ≤ j ∧ s0.size ≤ s.size ∧ n0 + 2 * s0.size + 1 ≤ 2 * s.size by
    rcases hsd0 with ⟨hf, h⟩ | ⟨t, hf, h, hms⟩
    · exact .inl ⟨by show pOrF (rowN m) _ = none; unfold pOrF; rw [hf], h⟩
    · refine .inr ⟨t, (bts s0).length, by show pOrF (rowN m) _ = _; unfold pOrF; rw [hf], h, hms, by rw [bts_len]; exact Nat.le_refl _, ?_, ?_⟩
      · obtain ⟨k, k1, k2, k3⟩ := rowN_eats m _ _ _ hf
        have := congrArg List.length k3
        rw [List.length_drop, bts_len, bts_len] at this
        omega
      · have h1 := rowN_thin m _ _ _ hf
        have h2 := ho0.out.len
        rw [bts_len, bts_len] at h1
        rw [h2, hms]
        omega)
  have hn0s : n0 ≤ 2 * s.size + 1 := by have := hl.out; omega
  replace hn0 := hide hn0
  clear hsd0
  go_wp2_with fail
  go_loopw [5, 6, 7] (fun v t o wr => ∃ A n c s' ok ms, v = .slice A n c ∧ t = .string s' ∧ o = .bool ok ∧ n ≤ 2 * s.size + 1 ∧ s'.size ≤ 60 ∧ Hid (OwnK wr w.heap.size (.slice A n c) ms) ∧ Hid (Below w.heap.size w wr) ∧ Hid ((pOr (m + 1) (bts s) = none ∧ ok = false) ∨ ∃ t j, pOr (m + 1) (bts s) = orLoop (rowN m) j t (bts s') ∧ ok = true ∧ ms = flat t ∧ s'.size ≤ j ∧ s'.size ≤ s.size ∧ n + 2 * s'.size + 1 ≤ 2 * s.size)) (fun _ t o _ => measS t o)
  case atStart => exact ⟨_, _, _, _, _, _, rfl, rfl, rfl, hn0s, hz0, ho0, hq0, hst0⟩
  case round =>
    clear ho0 hq0 hst0 HA0 hn0 hn0s hz0
    obtain ⟨A, n, c, s', ok, ms, rfl, rfl, rfl, hnb, hz, ho, hb, hst⟩ := hrel
    have hsz := hb.out.size
    rcases hst.out with ⟨hf, rfl⟩ | ⟨t, j, hf, rfl, hms, hj, hss, hth⟩
    · replace hf := hide hf
      go_wp2_with fail
      go_ret3
      exact ⟨_, _, _, _, _, _, rfl, ho.out, hb.out, by have := hl.out; omega, .inl ⟨hf.out, rfl⟩, hz⟩
    · replace hf := hide hf
      replace hms := hide hms
      replace hj := hide hj
      replace hth := hide hth
      clear hst
      have HH := hide (fun W => hasPrefix_c s' 124 W hz)
      cases hh : headIs 124 (bts s') with
      | true =>
        have hpos := head_pos hh
        have hd := hide (bts_head s' hpos)
        rw [hh] at HH
        have htb := hide (tail_bts s')
        have hts := tail_size s' hpos
        have hsz1 : (1 : Int) ≤ (s'.size : Int) := by omega
        have hc := hide (show (s'[0]'hpos) = 124 by rw [hd.out] at hh; simpa [headIs] using hh)
        clear hh
        obtain ⟨j', hj'⟩ : ∃ j', Hid (j = j' + 1) := ⟨j - 1, hide (by have := hj.out; omega)⟩
        obtain ⟨s9, hs9⟩ : ∃ s9, Hid (s'.extract 1 s'.size = s9) := ⟨_, hide rfl⟩
        rw [hs9.out] at htb hts
        have hnx := hide (show pOr (m + 1) (bts s) = (match rowN m (bts s9) with
            | some (u, l') => orLoop (rowN m) j' (.alt t u) l'
            | none => none) by
          rw [hf.out, hj'.out, htb.out]
          exact orL_at _ _ _ hd.out hc.out)
        have HAp := hide (HA.out s9 wr (by omega))
        have hlp := hide (bts_len s9)
        have hzj := hide (show s9.size ≤ j' + 1 by have := hj.out; have := hj'.out; omega)
        replace hts := hide hts
        go_wp2_with (go_at_call 89; refine (HH.out _).mono ?_; rintro e w' ⟨rfl, rfl⟩)
        rw [hs9.out]
        refine HAp.out.mono ?_
        rintro e w2 ⟨A2, n2, c2, s2, ok2, ms2, rfl, ho2, hq2, hn2, hsd2, hz2⟩
        have hq2 := hide hq2
        have ho1 := hide (ho.out.up hq2.out)
        have ho2 := hide (ho2.down hsz)
        have hbw := hide (upB hb.out hq2.out)
        have hl1 := hide ho1.out.len
        have hl2 := hide ho2.out.len
        have hn3 := hide (show n ≤ 30000 ∧ n2 ≤ 30000 by have := hlp.out; have := hts.out; omega)
        have HC := hide (concat3_c A A2 n c n2 c2 0 ms ms2 3 0 w2 ho1.out.marks ho2.out.marks hwK hw0 hn3.out.1 hn3.out.2)
        have hnew := hide (show n + n2 + 1 ≤ 2 * s.size + 1 by have := hlp.out; have := hth.out; have := hts.out; omega)
        have hst2 := hide (show ((pOr (m + 1) (bts s) = none ∧ ok2 = false) ∨ ∃ t j, pOr (m + 1) (bts s) = orLoop (rowN m) j t (bts s2) ∧ ok2 = true ∧ ms ++ ms2 ++ [(3, 0)] = flat t ∧ s2.size ≤ j ∧ s2.size ≤ s.size ∧ (n + n2 + 1) + 2 * s2.size + 1 ≤ 2 * s.size) ∧ measS (.string s2) (.bool ok2) < measS (.string s') (.bool true) by
          rcases hsd2 with ⟨hg, h⟩ | ⟨u, hg, h, hms2⟩
          · subst h
            exact ⟨.inl ⟨by rw [hnx.out, hg], rfl⟩, by rw [measS_no, measS_yes]; omega⟩
          · subst h
            obtain ⟨k, k1, k2, k3⟩ := rowN_eats m _ _ _ hg
            have hk := congrArg List.length k3
            rw [List.length_drop, bts_len, bts_len] at hk
            have hth2 := rowN_thin m _ _ _ hg
            rw [bts_len, bts_len, ← hms2, ← hl2.out] at hth2
            have e9 := hts.out
            have k2' := k2
            rw [bts_len] at k2'
            refine ⟨.inr ⟨.alt t u, j', by rw [hnx.out, hg], rfl, by rw [hms.out, hms2]; simp [flat], ?_, ?_, ?_⟩, ?_⟩
            · have := hzj.out; omega
            · omega
            · have := hth.out; omega
            · rw [measS_yes, measS_yes]; omega)
        clear hsd2 hnx HAp hn2
        go_wp2_with (go_at_call 90; refine (HC.out).mono ?_; rintro e w4 ⟨A6, n6, c6, rfl, ho7, hb7⟩)
        have hn6 := hide (show n6 = n + n2 + 1 by have := ho7.len; simp only [List.length_append, List.length_cons, List.length_nil] at this; have := hl1.out; have := hl2.out; omega)
        have ho8 := hide (ho7.down hbw.out.size)
        have hb8 := hide (upB hbw.out hb7)
        clear ho7 hb7
        go_wp2_with fail
        go_roundw
        case rel => exact ⟨_, _, _, _, _, _, rfl, rfl, rfl, by rw [hn6.out]; exact hnew.out, hz2, ho8, hb8, by rw [hn6.out]; exact hst2.out.1⟩
        case measure => exact hst2.out.2
      | false =>
        rw [hh] at HH
        have he := hide (show orLoop (rowN m) j t (bts s') = some (t, bts s') by
          rcases Nat.eq_zero_or_pos s'.size with h0 | h0
          · rw [bts_nil h0]; cases j <;> rfl
          · have hd := bts_head s' h0
            refine orL_end (rowN m) j t hd (fun e => ?_)
            rw [hd, e] at hh
            cases hh)
        clear hh
        go_wp2_with (go_at_call 89; refine (HH.out _).mono ?_; rintro e w' ⟨rfl, rfl⟩)
        go_ret3
        exact ⟨_, _, _, _, _, _, rfl, ho.out, hb.out, by have := hl.out; omega, .inr ⟨t, by rw [hf.out, he.out], rfl, hms.out⟩, hz⟩
end Go.Proofs.Ytffllkmaifjpfab
