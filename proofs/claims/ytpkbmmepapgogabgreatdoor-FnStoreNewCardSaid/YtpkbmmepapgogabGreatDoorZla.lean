/-
  Words, plain lemmas and contracts that belong together, joined into one file.
-/
import Derived.Test.YtpkbmmepapgogabGreatDoorZdraw
import Derived.Test.YtpkbmmepapgogabGreatDoorZpb
import Derived.Test.YtpkbmmepapgogabGreatDoorShelf
import Derived.Lib.AtoiAll
import Derived.Lib.AtoiAllCases
import Derived.Lib.AppendIntMem
import Derived.Lib.SmallJoins
import Derived.Lib.IndexMore
import Derived.Lib.Split
import Derived.Lib.Join
namespace Go.Proofs.YtpkbmmepapgogabGreatDoor
open Go.RowKit
set_option linter.unusedVariables false

structure LaidN (w : World) : Prop where
  max : ∃ m, w.cell? ⟨1, 0, none⟩ = some (.int .i64 m)
  syn : ∃ te pe, w.cell? ⟨2, 0, none⟩ = some (.iface te pe)
  rng : ∃ te pe, w.cell? ⟨3, 0, none⟩ = some (.iface te pe)
  tab : Lib.TabBelow Tryz.prog w.heap.size w "internal/strconv.uint64pow10" .u64 Lib.pow10Tab
theorem cell_up {w w' : World} {p : Addr} {v : Value} (h : w.cell? p = some v) (hq : Below w.heap.size w w') : w'.cell? p = some v :=
  (hq.cell (World.block_lt_of_cell? w p h)).trans h
theorem LaidN.up {w w' : World} (h : LaidN w) (hq : Below w.heap.size w w') : LaidN w' := by
  obtain ⟨⟨m, hm⟩, ⟨t1, p1, h1⟩, ⟨t2, p2, h2⟩, ht⟩ := h
  exact ⟨⟨m, cell_up hm hq⟩, ⟨t1, p1, cell_up h1 hq⟩, ⟨t2, p2, cell_up h2 hq⟩, fun w2 h2 => ht w2 (upB hq h2)⟩

/-- The table alone. -/
structure LaidT (w : World) : Prop where
  tab : Lib.TabBelow Tryz.prog w.heap.size w "internal/strconv.uint64pow10" .u64 Lib.pow10Tab
theorem LaidT.up {w w' : World} (h : LaidT w) (hq : Below w.heap.size w w') : LaidT w' := ⟨fun w2 h2 => h.tab w2 (upB hq h2)⟩
theorem LaidN.t {w : World} (h : LaidN w) : LaidT w := ⟨h.tab⟩
theorem itoa_impl (n : Int) (w : World) (hL : LaidT w) (h0 : -9223372036854775808 ≤ n) (h1 : n ≤ 9223372036854775807) :
    Calls Tryz.prog 68 #[.int .i64 n] w fun e w' => e = .returned (.string (strB (Lib.itoa n))) ∧ Below w.heap.size w w' :=
  (Tryz.strconv_Itoa n h0 h1 w hL.tab.here).mono fun e w' ⟨he, k, os, hw⟩ => ⟨he, by rw [hw]; exact Lib.below_grow _ _ (Nat.le_refl _) _ _⟩

/-- What numberOf tells of a text. -/
def endL (x : Lib.NumEnd Int) (z : Int) : Int := Lib.NumEnd.casesOn x (fun v => v) 0 z
def numL (l : Bs) : Int := endL (Lib.atoiAll l) (Lib.atoiSat l)
theorem numberOf_c (s : ByteArray) (w : World) (hL : LaidN w) (hs : s.size ≤ 281474976710656) :
    Calls Tryz.prog 54 #[.string s] w fun e w' => e = .returned (.int .i64 (numL (bts s))) ∧ Below w.heap.size w w' := by
  rcases h : Lib.atoiAll s.data.toList with v | _ | _
  · have hA := hide (Tryz.strconv_Atoi_ok s (by omega) v h w)
    have he := hide (show numL (bts s) = v by unfold numL bts; rw [h]; rfl)
    clear h
    go_enter Tryz.func54, Tryz.ntmps54
    go_wp2_with fail
    refine hA.out.mono ?_
    rintro e w' ⟨rfl, hw⟩
    have hb := hide (show Below w.heap.size w w' by
      rcases hw with rfl | ⟨t, rfl⟩
      · exact Below.refl _ _
      · exact Go.Joins.below_bytesWorld _ _ _ _ (Nat.le_refl _))
    clear hw
    go_wp2_with fail
    go_ret
    exact ⟨ret_int he.out.symm, hb.out⟩
  · obtain ⟨te, pe, hv⟩ := hL.syn
    have hA := hide (show Calls Tryz.prog 87 #[.string s] w (fun e w' => ∃ v, e = .returned (.tuple #[.int .i64 0, v]) ∧ Below w.heap.size w w') from (Any.strconv_Atoi_syntax Tryz.laysC172 s hs h _ w hv (.inr ⟨te, pe, rfl⟩)).mono fun e w' ⟨N, he, _, _, hb⟩ => ⟨_, he, hb⟩)
    have he := hide (show numL (bts s) = 0 by unfold numL bts; rw [h]; rfl)
    clear h
    go_enter Tryz.func54, Tryz.ntmps54
    go_wp2_with fail
    refine hA.out.mono ?_
    rintro e w' ⟨v, rfl, hb⟩
    go_wp2_with fail
    go_ret
    exact ⟨ret_int he.out.symm, hb⟩
  · obtain ⟨te, pe, hv⟩ := hL.rng
    have hA := hide (Tryz.strconv_Atoi_range s hs h _ w hv (.inr ⟨te, pe, rfl⟩))
    have he := hide (show numL (bts s) = Lib.atoiSat s.data.toList by unfold numL bts; rw [h]; rfl)
    clear h
    go_enter Tryz.func54, Tryz.ntmps54
    go_wp2_with fail
    refine hA.out.mono ?_
    rintro e w' ⟨N, rfl, _, _, hb⟩
    go_wp2_with fail
    go_ret
    exact ⟨ret_int he.out.symm, hb⟩
theorem numL_wf (l : Bs) : (Lit.int .i64 (numL l)).wf = true := by
  unfold numL
  rcases h : Lib.atoiAll l with v | _ | _
  · have := Lib.atoiAll_bounds h
    show (Lit.int .i64 v).wf = true
    exact wf_i64 (by omega)
  · show (Lit.int .i64 0).wf = true
    decide
  · show (Lit.int .i64 (Lib.atoiSat l)).wf = true
    unfold Lib.atoiSat
    split <;> decide
/-- Numbers of two digits at most, counted out. -/
theorem itoa_cnt : ((List.range 199).all fun n => decide (Lib.itoa ((n : Int) - 99) = stepT ((n : Int) - 99)) && decide (numL (stepT ((n : Int) - 99)) = (n : Int) - 99)) = true := by kernel_rfl
theorem itoa_at {z : Int} (h0 : -99 ≤ z) (h1 : z ≤ 99) : Lib.itoa z = stepT z ∧ numL (stepT z) = z := by
  have := List.all_eq_true.1 itoa_cnt (z + 99).toNat (List.mem_range.2 (by omega))
  rw [show (((z + 99).toNat : Nat) : Int) - 99 = z by omega] at this
  simp only [Bool.and_eq_true, decide_eq_true_eq] at this
  exact this
end Go.Proofs.YtpkbmmepapgogabGreatDoor

namespace Go.Proofs.YtpkbmmepapgogabGreatDoor
open Go.RowKit
set_option linter.unusedVariables false

theorem index_sep {c : UInt8} {l : Bs} (r : Bs) (h : c ∉ l) : Lib.index (l ++ c :: r) [c] = (l.length : Int) := by
  induction l with
  | nil => simp [Lib.index, List.isPrefixOf]
  | cons x l ih =>
    have hx : (c == x) = false := beq_eq_false_iff_ne.2 (fun e => h (by rw [e]; exact List.mem_cons_self))
    have := ih (fun e => h (List.mem_cons_of_mem _ e))
    show Lib.index (x :: (l ++ c :: r)) [c] = _
    unfold Lib.index
    rw [this]
    have hp : [c].isPrefixOf (x :: (l ++ c :: r)) = false := by simp [List.isPrefixOf, hx]
    rw [hp]
    have : ((l.length : Int) == -1) = false := beq_eq_false_iff_ne.2 (by omega)
    rw [this]
    simp
theorem index_free {c : UInt8} {l : Bs} (h : c ∉ l) : Lib.index l [c] = -1 := by
  induction l with
  | nil => rfl
  | cons x l ih =>
    have hx : (c == x) = false := beq_eq_false_iff_ne.2 (fun e => h (by rw [e]; exact List.mem_cons_self))
    have := ih (fun e => h (List.mem_cons_of_mem _ e))
    unfold Lib.index
    rw [this]
    have hp : [c].isPrefixOf (x :: l) = false := by simp [List.isPrefixOf, hx]
    rw [hp]
    simp
theorem cut_at {c : UInt8} {l : Bs} (r : Bs) (h : c ∉ l) : Lib.cut (l ++ c :: r) [c] = (l, r, true) := by
  unfold Lib.cut
  rw [index_sep r h, if_pos (by omega)]
  simp
theorem cut_free' {c : UInt8} {l : Bs} (h : c ∉ l) : Lib.cut l [c] = (l, [], false) := by
  unfold Lib.cut
  rw [index_free h, if_neg (by omega)]
theorem cut_len (l : Bs) (c : UInt8) : (Lib.cut l [c]).1.length ≤ l.length ∧ (Lib.cut l [c]).2.1.length ≤ l.length := by
  unfold Lib.cut
  split
  · simp only [List.length_take, List.length_drop]; omega
  · simp
theorem cutI_c (s : ByteArray) (w : World) (hL : LaidN w) (hs : s.size < 4294967281) :
    Calls Tryz.prog 49 #[.string s, .string ⟨#[32]⟩] w fun e w' => e = .returned (.tuple #[.string (strB (Lib.cut (bts s) [32]).1), .string (strB (Lib.cut (bts s) [32]).2.1), .bool (Lib.cut (bts s) [32]).2.2]) ∧ Below w.heap.size w w' := by
  obtain ⟨m, hm⟩ := hL.max
  exact (Tryz.strings_Cut s ⟨#[32]⟩ m w hs hm).mono fun e w' ⟨he, n, hw⟩ => ⟨he, by rw [hw]; exact below_drewN (Below.refl _ _) n⟩
end Go.Proofs.YtpkbmmepapgogabGreatDoor

namespace Go.Proofs.YtpkbmmepapgogabGreatDoor
open Go.RowKit
set_option linter.unusedVariables false

theorem index_cut {c : UInt8} (l : Bs) : (c ∉ l ∧ Lib.index l [c] = -1) ∨ ∃ a r, l = a ++ c :: r ∧ c ∉ a ∧ Lib.index l [c] = (a.length : Int) := by
  induction l with
  | nil => exact .inl ⟨by simp, rfl⟩
  | cons x l ih =>
    by_cases hx : x = c
    · subst hx
      exact .inr ⟨[], l, rfl, by simp, by have := index_sep (c := x) (l := []) l (by simp); simpa using this⟩
    · rcases ih with ⟨h1, h2⟩ | ⟨a, r, rfl, h1, h2⟩
      · have hn : c ∉ x :: l := fun h => by rcases List.mem_cons.1 h with h | h; exact hx h.symm; exact h1 h
        exact .inl ⟨hn, index_free hn⟩
      · have hn : c ∉ x :: a := fun h => by rcases List.mem_cons.1 h with h | h; exact hx h.symm; exact h1 h
        exact .inr ⟨x :: a, r, rfl, hn, index_sep r hn⟩
/-- strings.Split at one byte is the text cut at that byte. -/
theorem split_cut (c : UInt8) : ∀ (n : Nat) (s : ByteArray), s.size ≤ n → (Lib.splitB ⟨#[c]⟩ 0 (Lib.countB s ⟨#[c]⟩) s).map bts = cutT c (bts s) := by
  intro n
  induction n with
  | zero =>
    intro s hs
    have e : bts s = [] := List.eq_nil_of_length_eq_zero (by rw [bts_len]; omega)
    have hi : Lib.indexB s ⟨#[c]⟩ = -1 := by
      show Lib.index (bts s) [c] = -1
      rw [e]; rfl
    rw [Lib.splitB_miss _ _ _ _ hi, e]
    show [bts s] = _
    rw [e]; rfl
  | succ n ih =>
    intro s hs
    rcases index_cut (c := c) (bts s) with ⟨h1, h2⟩ | ⟨a, r, e, h1, h2⟩
    · have hi : Lib.indexB s ⟨#[c]⟩ = -1 := h2
      rw [Lib.splitB_miss _ _ _ _ hi, cutT_none h1]
      rfl
    · have hi : Lib.indexB s ⟨#[c]⟩ = (a.length : Nat) := h2
      have hsz : s.size = a.length + (r.length + 1) := by rw [← bts_len, e, List.length_append, List.length_cons]
      have hx : bts (s.extract (a.length + (⟨#[c]⟩ : ByteArray).size) s.size) = r := by
        rw [strB_take, bts_strB, List.take_of_length_le (by rw [bts_len]; exact Nat.le_refl _), e]
        show (a ++ c :: r).drop (a.length + 1) = r
        rw [← List.drop_drop, List.drop_left]
        rfl
      have hz : (s.extract (a.length + (⟨#[c]⟩ : ByteArray).size) s.size).size ≤ n := by
        rw [← bts_len, hx]; omega
      have ih2 := ih _ hz
      rw [Lib.countB_hit s ⟨#[c]⟩ a.length (Nat.le_refl 1) hi, Nat.add_comm 1, Lib.splitB_hit _ _ _ _ _ hi, List.map_cons, ih2, hx, e, cutT_sep h1]
      congr 1
      rw [strB_take, bts_strB, e]
      simp
theorem split_len (c : UInt8) : ∀ (n : Nat) (s : ByteArray), s.size ≤ n → (Lib.splitB ⟨#[c]⟩ 0 (Lib.countB s ⟨#[c]⟩) s).length = Lib.countB s ⟨#[c]⟩ + 1 := by
  intro n
  induction n with
  | zero =>
    intro s hs
    have e : bts s = [] := List.eq_nil_of_length_eq_zero (by rw [bts_len]; omega)
    have hi : Lib.indexB s ⟨#[c]⟩ = -1 := by
      show Lib.index (bts s) [c] = -1
      rw [e]; rfl
    rw [Lib.splitB_miss _ _ _ _ hi, Lib.countB_miss _ _ hi]
    rfl
  | succ n ih =>
    intro s hs
    rcases index_cut (c := c) (bts s) with ⟨h1, h2⟩ | ⟨a, r, e, h1, h2⟩
    · have hi : Lib.indexB s ⟨#[c]⟩ = -1 := h2
      rw [Lib.splitB_miss _ _ _ _ hi, Lib.countB_miss _ _ hi]
      rfl
    · have hi : Lib.indexB s ⟨#[c]⟩ = (a.length : Nat) := h2
      have hsz : s.size = a.length + (r.length + 1) := by rw [← bts_len, e, List.length_append, List.length_cons]
      have hz : (s.extract (a.length + (⟨#[c]⟩ : ByteArray).size) s.size).size ≤ n := by
        have h1 : (⟨#[c]⟩ : ByteArray).size = 1 := rfl
        simp only [ByteArray.size_extract, h1]
        omega
      have ih2 := ih _ hz
      rw [Lib.countB_hit s ⟨#[c]⟩ a.length (Nat.le_refl 1) hi, Nat.add_comm 1, Lib.splitB_hit _ _ _ _ _ hi, List.length_cons, ih2]
theorem cutT_len (c : UInt8) (l : Bs) : (cutT c l).length ≤ l.length + 1 := by
  induction l with
  | nil => simp [cutT]
  | cons x r ih =>
    unfold cutT
    split
    · simp only [List.length_cons]; omega
    · cases h : cutT c r with
      | nil => simp
      | cons a b => rw [h] at ih; simp only [List.length_cons] at ih ⊢; omega
theorem cutT_each (c : UInt8) (l : Bs) : ∀ p ∈ cutT c l, p.length ≤ l.length := by
  induction l with
  | nil => intro p hp; simp only [cutT, List.mem_singleton] at hp; subst hp; simp
  | cons x r ih =>
    intro p hp
    unfold cutT at hp
    split at hp
    · rcases List.mem_cons.1 hp with h | h
      · subst h; simp
      · have := ih p h; simp only [List.length_cons]; omega
    · cases h : cutT c r with
      | nil => rw [h] at hp; simp only [List.mem_singleton] at hp; subst hp; simp
      | cons a b =>
        rw [h] at hp ih
        rcases List.mem_cons.1 hp with e | e
        · subst e; have := ih a List.mem_cons_self; simp only [List.length_cons]; omega
        · have := ih p (List.mem_cons_of_mem _ e); simp only [List.length_cons]; omega
/-- strings.Join with one byte between. -/
theorem join_sep (c : UInt8) (l : List Bs) : Lib.join l [c] = joinT c l := by
  cases l with
  | nil => rfl
  | cons x r =>
    rw [Lib.join_cons]
    induction r generalizing x with
    | nil => simp [Lib.joinTail, joinT]
    | cons y r ih =>
      show x ++ Lib.joinTail [c] (y :: r) = x ++ c :: joinT c (y :: r)
      rw [← ih y]
      simp [Lib.joinTail]

def abcL : Bs := [97, 98, 99]
/-- The word that the letters are read as. -/
def drwL (l : Bs) : List Int := if l = [46] then [] else l.map (fun b => Lib.indexByte abcL b)
theorem letter_at {x : Int} (h0 : 0 ≤ x) (h1 : x < 3) : Lib.indexByte abcL (UInt8.ofNat (97 + x.toNat)) = x ∧ UInt8.ofNat (97 + x.toNat) ≠ 46 := by
  have : x = 0 ∨ x = 1 ∨ x = 2 := by omega
  rcases this with rfl | rfl | rfl <;> decide
theorem drwL_word {l : List Int} (h : ∀ x ∈ l, 0 ≤ x ∧ x < 3) : drwL (wordT l) = l := by
  unfold wordT
  split
  · next e => subst e; rfl
  · next e =>
    unfold drwL
    rw [if_neg ?_, List.map_map]
    · have : ∀ x ∈ l, ((fun b => Lib.indexByte abcL b) ∘ fun z : Int => UInt8.ofNat (97 + z.toNat)) x = x := fun x hx => (letter_at (h x hx).1 (h x hx).2).1
      rw [List.map_congr_left this, List.map_id']
    · intro he
      cases l with
      | nil => exact e rfl
      | cons a r =>
        simp only [List.map_cons, List.cons.injEq] at he
        exact (letter_at (h a (by simp)).1 (h a (by simp)).2).2 he.1
/-- What a text is taken apart into. -/
def partsP (s : Bs) : Plc := ⟨(cutT 44 (Lib.cut s [32]).1).map numL, numL (Lib.cut (Lib.cut s [32]).2.1 [32]).1, drwL (Lib.cut (Lib.cut s [32]).2.1 [32]).2.1⟩
theorem numT_step {z : Int} (h : 0 ≤ z) : numT z.toNat = stepT z := by unfold stepT; rw [if_neg (by omega)]
theorem parts_place {p : Plc} (h : placeOk p = true) : partsP (rawT p) = p := by
  obtain ⟨hl, hz, hs, h6, hw⟩ := placeOk_yes h
  have hne : p.start ≠ [] := fun e => by rw [e] at hl; simp at hl
  obtain ⟨f1, g1⟩ := rowT_free hne hz
  have f2 := step_free (z := p.step) (by omega) (by omega)
  have hrow : cutT 44 (rowT p.start) = p.start.map (fun z => numT z.toNat) := by
    unfold rowT
    rw [if_neg hne, cutT_join _ (by simpa using hne)]
    intro q hq hm
    obtain ⟨z, hzz, rfl⟩ := List.mem_map.1 hq
    have hb := hz z hzz
    have := ((num_at (n := z.toNat) (by omega)).2.1 44 hm).1
    exact absurd this (by decide)
  unfold partsP rawT
  rw [cut_at _ f1]
  show Plc.mk ((cutT 44 (rowT p.start)).map numL) (numL (Lib.cut (stepT p.step ++ 32 :: wordT p.word) [32]).1) (drwL (Lib.cut (stepT p.step ++ 32 :: wordT p.word) [32]).2.1) = p
  rw [cut_at _ f2, hrow, List.map_map]
  show Plc.mk _ (numL (stepT p.step)) (drwL (wordT p.word)) = p
  have : ∀ z ∈ p.start, (numL ∘ fun z : Int => numT z.toNat) z = z := fun z hzz => by
    have hb := hz z hzz
    show numL (numT z.toNat) = z
    rw [numT_step hb.1]
    exact (itoa_at (by omega) (by omega)).2
  rw [List.map_congr_left this, List.map_id', (itoa_at (z := p.step) (by omega) (by omega)).2, drwL_word (fun x hx => by have := hw x hx; omega)]
theorem partsP_read {s : Bs} {p : Plc} (h : readP s = some p) : partsP s = p := by
  obtain ⟨h1, h2⟩ := readP_out h
  rw [← h2]
  exact parts_place h1
theorem partsP_yes {s : Bs} (h0 : s ≠ []) (h : placeT (partsP s) = s) : readP s = some (partsP s) := by
  have hok : placeOk (partsP s) = true := placeT_ne.1 (by rw [h]; exact h0)
  exact readP_iff.2 ⟨hok, by rw [← placeT_ok hok]; exact h⟩
theorem partsP_no {s : Bs} (h : placeT (partsP s) ≠ s) : readP s = none := by
  cases hr : readP s with
  | none => rfl
  | some p =>
    have h2 := partsP_read hr
    obtain ⟨h1, h3⟩ := readP_out hr
    rw [h2, placeT_ok h1] at h
    exact absurd h3 h
theorem readP_nil : readP [] = none := by
  cases hr : readP [] with
  | none => rfl
  | some p => exact absurd (readP_out hr).2 (rawT_ne p)
theorem small_cnt : ((List.range 5).all fun n => decide ((stepT ((n : Int) - 1)).length ≤ 2)) = true := by decide
theorem rawT_len18 {p : Plc} (h : placeOk p = true) : (rawT p).length ≤ 18 := by
  obtain ⟨hl, hz, hs, h6, hw⟩ := placeOk_yes h
  have h1 := rowT_len hl.2 hz
  have h2 : (stepT p.step).length ≤ 2 := by
    have := List.all_eq_true.1 small_cnt (p.step + 1).toNat (List.mem_range.2 (by omega))
    rw [show (((p.step + 1).toNat : Nat) : Int) - 1 = p.step by omega] at this
    exact of_decide_eq_true this
  have h3 : (wordT p.word).length ≤ 6 := by
    unfold wordT
    split
    · simp
    · simpa using h6
  unfold rawT
  simp only [List.length_append, List.length_cons]
  omega
theorem readP_long {s : Bs} (h : 18 < s.length) : readP s = none := by
  cases hr : readP s with
  | none => rfl
  | some p =>
    obtain ⟨h1, h2⟩ := readP_out hr
    have := rawT_len18 h1
    rw [h2] at this
    omega
end Go.Proofs.YtpkbmmepapgogabGreatDoor
