/-
  Words, plain lemmas and contracts that belong together, joined into one file.
-/
import Derived.Test.YtoafpokcbbncfaaDoorZoks
import Derived.Test.YtoafpokcbbncfaaDoorZpx
import Derived.Deep.RegionHeld3
import Derived.ArgAppend
namespace Go.Proofs.YtoafpokcbbncfaaDoor
open Go.RowKit
set_option linter.unusedVariables false

set_option maxRecDepth 100000 in
set_option maxHeartbeats 800000 in
theorem cloneA_c (A : Option Addr) (n c B : Nat) (zs : List Int) (w : World) (h : Ints w B A n c zs) (hn : n ≤ 1048576) (hB : B ≤ w.heap.size) :
    Calls Tryd.prog 100 #[.slice A n c] w fun e w' => ∃ A' c', e = .returned (.slice A' n c') ∧ Own w' w.heap.size (.slice A' n c') zs ∧ Below w.heap.size w w' := by
  obtain ⟨i0, hi, hz0, hz1, hz2⟩ := info_parts infoInt
  have hl := h.len
  cases A with
  | none =>
    obtain rfl : c = 0 := h.nil0 rfl
    obtain rfl : n = 0 := by have := h.le; omega
    obtain rfl := List.eq_nil_of_length_eq_zero hl
    have hnil := fun w => Lib.run_eql_slice_nil (P := Tryd.prog) w 22 3 none 0 0 0 0 Tryd.underlying22
    go_enter Tryd.func100, Tryd.ntmps100
    go_wp2
    go_ret
    exact ⟨none, 0, rfl, Own.none_, Below.refl _ _⟩
  | some a =>
    have hnil := fun w => Lib.run_eql_slice_nil (P := Tryd.prog) w 22 3 (some a) n c 0 0 Tryd.underlying22
    go_enter Tryd.func100, Tryd.ntmps100
    go_wp2_with (at_builtin; refine wpList_app _ rfl _ _ 22 rfl i0 Tryd.underlying22 hi hz0 hz1 hz2 _ _ rfl (own_empty (base := w.heap.size) (Nat.le_refl _)) _ n c _ zs rfl (h.alloc hB _) (by simp) (by simp; omega) ?_; intro A' n' c' w1 ho hg)
    obtain rfl : n' = n := by have := ho.len; simp at this; omega
    go_ret
    exact ⟨A', c', rfl, ho, (below_empty (Below.refl _ _) _).grown hg (by simp) (fun k hk => Nat.le_of_eq (Option.some.inj hk))⟩

/-- A place whose rows the call made. -/
structure PlQ (w : World) (base : Nat) (v : Value) (p : Plc) : Prop where
  ex : ∃ A n c A' n' c', v = .agg #[.slice A n c, .int .i64 p.step, .slice A' n' c'] ∧ Own w base (.slice A n c) p.start ∧ Own w base (.slice A' n' c') p.word ∧ ((Value.slice A n c).ownBlock = none ∨ (Value.slice A n c).ownBlock ≠ (Value.slice A' n' c').ownBlock) ∧ (Lit.int .i64 p.step).wf = true
theorem PlQ.up {w w' : World} {base : Nat} {v : Value} {p : Plc} (h : PlQ w base v p) (hq : Below w.heap.size w w') : PlQ w' base v p := by
  obtain ⟨A, n, c, A', n', c', e, h1, h2, h3, h4⟩ := h.ex
  exact ⟨A, n, c, A', n', c', e, h1.up hq, h2.up hq, h3, h4⟩
theorem PlQ.plM {w : World} {base : Nat} {v : Value} {p : Plc} (h : PlQ w base v p) : PlM w w.heap.size v p := by
  obtain ⟨A, n, c, A', n', c', rfl, h1, h2, h3, h4⟩ := h.ex
  exact plM_mk h1.ints h2.ints h4
theorem PlQ.down {w : World} {base base' : Nat} {v : Value} {p : Plc} (h : PlQ w base v p) (hb : base' ≤ base) : PlQ w base' v p := by
  obtain ⟨A, n, c, A', n', c', e, h1, h2, h3, h4⟩ := h.ex
  exact ⟨A, n, c, A', n', c', e, h1.down hb, h2.down hb, h3, h4⟩
theorem apart_new {w1 w2 : World} {b1 b2 : Nat} {u v : Value} {xs ys : List Int} (h1 : Own w1 b1 u xs) (h2 : Own w2 b2 v ys) (hb : w1.heap.size ≤ b2) : u.ownBlock = none ∨ u.ownBlock ≠ v.ownBlock := by
  cases hu : u.ownBlock with
  | none => exact .inl rfl
  | some k => exact .inr fun e => by have := (h1.row.lt k hu).2; have := (h2.row.lt k e.symm).1; omega
theorem apart_old {w1 w2 : World} {b1 b2 : Nat} {u v : Value} {xs ys : List Int} (h1 : Own w1 b1 u xs) (h2 : Own w2 b2 v ys) (hb : w2.heap.size ≤ b1) : u.ownBlock = none ∨ u.ownBlock ≠ v.ownBlock := by
  cases hu : u.ownBlock with
  | none => exact .inl rfl
  | some k => exact .inr fun e => by have := (h1.row.lt k hu).1; have := (h2.row.lt k e.symm).2; omega

set_option maxRecDepth 100000 in
set_option maxHeartbeats 3200000 in
theorem copiedPlace_c (v : Value) (p : Plc) (B : Nat) (w : World) (h : PlM w B v p) (hB : B ≤ w.heap.size) (h1 : p.start.length ≤ 1048576) (h2 : p.word.length ≤ 1048576) :
    Calls Tryd.prog 89 #[v] w fun e w' => ∃ u, e = .returned u ∧ PlQ w' w.heap.size u p ∧ Below w.heap.size w w' := by
  obtain ⟨A, n, c, A', n', c', rfl, i1, i2, hwf⟩ := h.ex
  have hl1 := hide i1.len
  have hl2 := hide i2.len
  have hq0 := hide (show Below w.heap.size w ((w.alloc (.cells #[.slice A n c, .int .i64 p.step, .slice A' n' c'] 31)).alloc (.cells #[.slice none 0 0, .int .i64 0, .slice none 0 0] 31)) from (al w _).alloc (by simp) _)
  have ht := hide (show Tri ((w.alloc (.cells #[.slice A n c, .int .i64 p.step, .slice A' n' c'] 31)).alloc (.cells #[.slice none 0 0, .int .i64 0, .slice none 0 0] 31)) w.heap.size (.slice A n c) (.int .i64 p.step) (.slice A' n' c') from (Tri.made w _ _ _ _).up (al _ _))
  have hz := hide (show TriW ((w.alloc (.cells #[.slice A n c, .int .i64 p.step, .slice A' n' c'] 31)).alloc (.cells #[.slice none 0 0, .int .i64 0, .slice none 0 0] 31)) (w.heap.size + 1) (.slice none 0 0) (.int .i64 0) (.slice none 0 0) from by have := TriW.made (w.alloc (.cells #[.slice A n c, .int .i64 p.step, .slice A' n' c'] 31)) (.slice none 0 0) (.int .i64 0) (.slice none 0 0) 31; simpa using this)
  obtain ⟨W0, hW0⟩ : ∃ W, Hid ((w.alloc (.cells #[.slice A n c, .int .i64 p.step, .slice A' n' c'] 31)).alloc (.cells #[.slice none 0 0, .int .i64 0, .slice none 0 0] 31) = W) := ⟨_, hide rfl⟩
  rw [hW0.out] at hq0 ht hz
  have hgs := hide (show w.heap.size + 2 = W0.heap.size by rw [← hW0.out]; simp)
  have hS := hide ((i1.more hB).up hq0.out)
  have hWd := hide ((i2.more hB).up hq0.out)
  have HA := hide (fun (W : World) (hq : Below W0.heap.size W0 W) => show Calls Tryd.prog 100 #[.slice A n c] W (fun e w' => ∃ A1 c1, e = .returned (.slice A1 n c1) ∧ Hid (Own w' W.heap.size (.slice A1 n c1) p.start) ∧ Below W.heap.size W w' ∧ Below W0.heap.size W0 w' ∧ w'.cell? ⟨w.heap.size, 0, none⟩ = some (.slice A n c) ∧ w'.cell? ⟨w.heap.size, 1, none⟩ = some (.int .i64 p.step) ∧ w'.cell? ⟨w.heap.size, 2, none⟩ = some (.slice A' n' c')) from
    (cloneA_c A n c _ p.start W (hS.out.up hq) (by have := hl1.out; omega) (Nat.le_refl _)).mono fun e w' ⟨A1, c1, e1, ho, hq'⟩ => by
      have hk := ht.out.up (upB hq hq')
      exact ⟨A1, c1, e1, hide ho, hq', upB hq hq', hk.c0, hk.c1, hk.c2⟩)
  have HB := hide (fun (W : World) (hq : Below W0.heap.size W0 W) => show Calls Tryd.prog 100 #[.slice A' n' c'] W (fun e w' => ∃ A2 c2, e = .returned (.slice A2 n' c2) ∧ Hid (Own w' W.heap.size (.slice A2 n' c2) p.word) ∧ Below W.heap.size W w' ∧ Below W0.heap.size W0 w' ∧ w'.cell? ⟨w.heap.size, 0, none⟩ = some (.slice A n c) ∧ w'.cell? ⟨w.heap.size, 1, none⟩ = some (.int .i64 p.step) ∧ w'.cell? ⟨w.heap.size, 2, none⟩ = some (.slice A' n' c')) from
    (cloneA_c A' n' c' _ p.word W (hWd.out.up hq) (by have := hl2.out; omega) (Nat.le_refl _)).mono fun e w' ⟨A1, c1, e1, ho, hq'⟩ => by
      have hk := ht.out.up (upB hq hq')
      exact ⟨A1, c1, e1, hide ho, hq', upB hq hq', hk.c0, hk.c1, hk.c2⟩)
  obtain ⟨a0, b0, d0, _⟩ := ht.out
  go_enter Tryd.func89, Tryd.ntmps89
  go_wp2_with fail
  rw [hW0.out]
  go_region_held3 (fun W => W.cell? ⟨w.heap.size, 0, none⟩ = some (.slice A n c) ∧ W.cell? ⟨w.heap.size, 1, none⟩ = some (.int .i64 p.step) ∧ W.cell? ⟨w.heap.size, 2, none⟩ = some (.slice A' n' c')) (first | exact ⟨a0, b0, d0⟩ | exact ⟨k0, k1, k2⟩ | exact ⟨m0, m1, m2⟩ | go_keep) (first | (go_at_call 100; (with_reducible refine (HA.out _ ?_).mono ?_); (focus (repeat (first | assumption | exact Below.refl _ _ | refine Below.drew ?_)); done); rintro e w1 ⟨A1, c1, rfl, hoA, hkA, hqA, k0, k1, k2⟩) | (go_at_call 100; (with_reducible refine (HB.out _ ?_).mono ?_); (focus (repeat (first | assumption | exact Below.refl _ _ | refine Below.drew ?_)); done); rintro e w2 ⟨A2, c2, rfl, hoB, hkB, hqB, m0, m1, m2⟩; obtain ⟨x0, x1, x2, y0, y1, y2, _⟩ := hz.out.up hqB))
  all_goals
    have hz2 := hide (hz.out.up hqB)
    have hb2 := hide (upB hq0.out hqB)
    have hsA := hide hqA.size
    have hO1 : Hid (Own w2 W0.heap.size (.slice A1 n c1) p.start) := hide (by first | exact (hoA.out.up hkB).down (Nat.le_refl _) | exact (hoA.out.drew.up hkB).down (Nat.le_refl _))
    have hO2 : Hid (Own w2 W0.heap.size (.slice A2 n' c2) p.word) := hide (hoB.out.down (by first | exact hsA.out | (simp; exact hsA.out)))
    have hne := hide (apart_new hoA.out hoB.out (by first | exact Nat.le_refl _ | (simp; done)))
    have hl : ∀ {W : World} {u v0 v1 v2 : Value} {l : List Int}, Own W W0.heap.size u l → Own (((W.setCell ⟨w.heap.size + 1, 0, none⟩ v0).setCell ⟨w.heap.size + 1, 1, none⟩ v1).setCell ⟨w.heap.size + 1, 2, none⟩ v2) W0.heap.size u l := fun {W u v0 v1 v2 l} hu => ((hu.setLow (a := ⟨w.heap.size + 1, 0, none⟩) (by have := hgs.out; simp only; omega) v0).setLow (a := ⟨w.heap.size + 1, 1, none⟩) (by have := hgs.out; simp only; omega) v1).setLow (a := ⟨w.heap.size + 1, 2, none⟩) (by have := hgs.out; simp only; omega) v2
    clear hoA hoB hkA hkB hqA hqB
    go_wp2_with fail
    first
      | (obtain ⟨k0, k1, k2, _, _, _, _⟩ := (((hz2.out).set0 (.slice A1 n c1)).set1 (.int .i64 p.step)).set2 (.slice A2 n' c2)
         refine bodyPost_ret (v := .agg #[(.slice A1 n c1), .int .i64 p.step, (.slice A2 n' c2)]) ?_ rfl ⟨_, rfl, ⟨A1, n, c1, A2, n', c2, rfl, (hl hO1.out).down (by have := hgs.out; omega), (hl hO2.out).down (by have := hgs.out; omega), hne.out, hwf⟩, (((hb2.out).setCell (p := ⟨w.heap.size + 1, 0, none⟩) (Nat.le_succ _) _).setCell (p := ⟨w.heap.size + 1, 1, none⟩) (Nat.le_succ _) _).setCell (p := ⟨w.heap.size + 1, 2, none⟩) (Nat.le_succ _) _⟩
         (focus (simp [results, Tryd.results89, go_sem, k0, k1, k2]; done)))
      | (obtain ⟨k0, k1, k2, _, _, _, _⟩ := (((hz2.out.drew).set0 (.slice A1 n c1)).set1 (.int .i64 p.step)).set2 (.slice A2 n' c2)
         refine bodyPost_ret (v := .agg #[(.slice A1 n c1), .int .i64 p.step, (.slice A2 n' c2)]) ?_ rfl ⟨_, rfl, ⟨A1, n, c1, A2, n', c2, rfl, (hl hO1.out.drew).down (by have := hgs.out; omega), (hl hO2.out.drew).down (by have := hgs.out; omega), hne.out, hwf⟩, (((hb2.out.drew).setCell (p := ⟨w.heap.size + 1, 0, none⟩) (Nat.le_succ _) _).setCell (p := ⟨w.heap.size + 1, 1, none⟩) (Nat.le_succ _) _).setCell (p := ⟨w.heap.size + 1, 2, none⟩) (Nat.le_succ _) _⟩
         (focus (simp [results, Tryd.results89, go_sem, k0, k1, k2]; done)))
end Go.Proofs.YtoafpokcbbncfaaDoor

namespace Go.Proofs.YtoafpokcbbncfaaDoor
open Go.RowKit
set_option linter.unusedVariables false

/-- A place with its two rows. -/
abbrev Trp := Value × Value × Plc
def Ap (x y : Value) : Prop := ∀ g, x.ownBlock = some g → y.ownBlock ≠ some g
def ApT (s t : Trp) : Prop := Ap s.1 t.1 ∧ Ap s.1 t.2.1 ∧ Ap s.2.1 t.1 ∧ Ap s.2.1 t.2.1
def cellT (t : Trp) : List Value := [t.1, .int .i64 t.2.2.step, t.2.1]
def cellsT (ts : List Trp) : List Value := ts.flatMap cellT
def valT (t : Trp) : Value := .agg #[t.1, .int .i64 t.2.2.step, t.2.1]
def plcs (ts : List Trp) : List Plc := ts.map fun t => t.2.2
theorem Ap.symm {x y : Value} (h : Ap x y) : Ap y x := fun g hy hx => h g hx hy
theorem ApT.symm {s t : Trp} (h : ApT s t) : ApT t s := ⟨h.1.symm, h.2.2.1.symm, h.2.1.symm, h.2.2.2.symm⟩
theorem Ap.or {x y : Value} (h : Ap x y) : x.ownBlock = none ∨ x.ownBlock ≠ y.ownBlock := by
  cases hx : x.ownBlock with
  | none => exact .inl rfl
  | some g => exact .inr fun e => h g hx e.symm
theorem ap_of {x y : Value} (h : x.ownBlock = none ∨ x.ownBlock ≠ y.ownBlock) : Ap x y := fun g hx hy => by
  rcases h with h | h
  · rw [h] at hx; cases hx
  · exact h (hx.trans hy.symm)
theorem ap_nil {c n : Nat} {y : Value} : Ap (.slice none n c) y := fun g hx => by cases hx
theorem cellsT_append (a b : List Trp) : cellsT (a ++ b) = cellsT a ++ cellsT b := by unfold cellsT; simp
theorem cellsT_one (t : Trp) : cellsT [t] = cellT t := by simp [cellsT]
theorem cellsT_len (ts : List Trp) : (cellsT ts).length = ts.length * 3 := by
  induction ts with
  | nil => rfl
  | cons t r ih =>
    show (cellT t ++ cellsT r).length = _
    rw [List.length_append, ih, List.length_cons]
    show 3 + _ = _
    omega
theorem cellsT_drop (ts : List Trp) (h : Nat) : cellsT (ts.drop h) = (cellsT ts).drop (h * 3) := by
  induction ts generalizing h with
  | nil => simp [cellsT]
  | cons t r ih =>
    cases h with
    | zero => simp
    | succ h =>
      rw [List.drop_succ_cons, ih]
      show _ = (t.1 :: .int .i64 t.2.2.step :: t.2.1 :: cellsT r).drop ((h + 1) * 3)
      rw [show (h + 1) * 3 = h * 3 + 1 + 1 + 1 by omega]
      simp only [List.drop_succ_cons]
theorem cellsT_take (ts : List Trp) (h : Nat) : cellsT (ts.take h) = (cellsT ts).take (h * 3) := by
  induction ts generalizing h with
  | nil => simp [cellsT]
  | cons t r ih =>
    cases h with
    | zero => simp [cellsT]
    | succ h =>
      show t.1 :: .int .i64 t.2.2.step :: t.2.1 :: cellsT (r.take h) = (t.1 :: .int .i64 t.2.2.step :: t.2.1 :: cellsT r).take ((h + 1) * 3)
      rw [ih, show (h + 1) * 3 = h * 3 + 1 + 1 + 1 by omega]
      simp only [List.take_succ_cons]
theorem cellsT_at {ts : List Trp} {j : Nat} {t : Trp} (h : ts[j]? = some t) : (cellsT ts)[j * 3]? = some t.1 ∧ (cellsT ts)[j * 3 + 1]? = some (.int .i64 t.2.2.step) ∧ (cellsT ts)[j * 3 + 2]? = some t.2.1 := by
  induction ts generalizing j with
  | nil => simp at h
  | cons s r ih =>
    have e : cellsT (s :: r) = s.1 :: .int .i64 s.2.2.step :: s.2.1 :: cellsT r := rfl
    rw [e]
    cases j with
    | zero => simp at h; subst h; exact ⟨rfl, rfl, rfl⟩
    | succ j =>
      obtain ⟨h1, h2, h3⟩ := ih (j := j) (by simpa using h)
      refine ⟨?_, ?_, ?_⟩
      · rw [show (j + 1) * 3 = j * 3 + 1 + 1 + 1 by omega]; simpa using h1
      · rw [show (j + 1) * 3 + 1 = j * 3 + 1 + 1 + 1 + 1 by omega]; simpa using h2
      · rw [show (j + 1) * 3 + 2 = j * 3 + 2 + 1 + 1 + 1 by omega]; simpa using h3
theorem plcs_len (ts : List Trp) : (plcs ts).length = ts.length := by unfold plcs; simp

/-- Of the blocks that were there, only blocks of places from 'lo' on may have changed. -/
structure GrP (lo : Nat) (w w' : World) : Prop where
  os : w'.os = w.os
  tape : w'.tape = w.tape
  output : w'.output = w.output
  size : w.heap.size ≤ w'.heap.size
  block : ∀ k, k < w.heap.size → (k < lo ∨ ∀ cur, w.heap[k]? ≠ some (.cells cur 31 (0, 0))) → w'.heap[k]? = w.heap[k]?
section
variable {w w' w1 w2 : World} {lo lo' hi B n c b h m : Nat} {v u : Value} {A : Option Addr} {zs : List Int} {x y z : Value} {ps : List Plc} {xs us : List Value} {t s : Trp} {ts : List Trp} {d : Dsk} {p : Plc}
theorem GrP.refl (lo : Nat) (w : World) : GrP lo w w := ⟨rfl, rfl, rfl, Nat.le_refl _, fun _ _ _ => rfl⟩
theorem GrP.of_below (hq : Below w.heap.size w w') : GrP lo w w' := ⟨hq.os, hq.tape, hq.output, hq.size, fun k hk _ => hq.block k hk⟩
theorem GrP.of_grown {row : Option Nat} (hg : w.grownBy w' row) (hr : ∀ k, row = some k → lo ≤ k ∧ ∃ cur, w.heap[k]? = some (.cells cur 31 (0, 0))) : GrP lo w w' :=
  ⟨hg.os, hg.tape, hg.output, hg.size, fun k hk ho => hg.block k hk fun e => by
    obtain ⟨h1, cur, h2⟩ := hr k e.symm
    rcases ho with ho | ho
    · omega
    · exact ho cur h2⟩
theorem GrP.trans (h1 : GrP lo w w1) (h2 : GrP lo w1 w2) : GrP lo w w2 :=
  ⟨h2.os.trans h1.os, h2.tape.trans h1.tape, h2.output.trans h1.output, Nat.le_trans h1.size h2.size, fun k hk ho => by
    have e := h1.block k hk ho
    refine (h2.block k (Nat.lt_of_lt_of_le hk h1.size) ?_).trans e
    rcases ho with ho | ho
    · exact .inl ho
    · exact .inr fun cur => by rw [e]; exact ho cur⟩
theorem GrP.up (h1 : GrP lo w w1) (hq : Below w1.heap.size w1 w2) : GrP lo w w2 := h1.trans (.of_below hq)
theorem GrP.down (h1 : GrP lo w w1) (hl : lo' ≤ lo) : GrP lo' w w1 := ⟨h1.os, h1.tape, h1.output, h1.size, fun k hk ho => h1.block k hk (by
  rcases ho with ho | ho
  · exact .inl (by omega)
  · exact .inr ho)⟩
theorem GrP.below (h : GrP lo w w') (hl : lo ≤ w.heap.size) : Below lo w w' := ⟨h.os, h.tape, h.output, h.size, fun k hk => h.block k (by omega) (.inl hk)⟩
theorem GrP.belowUp {a : World} (h : GrP lo w w') (hb : Below B a w) (hB : B ≤ lo) (hs : B ≤ a.heap.size) : Below B a w' :=
  ⟨h.os.trans hb.os, h.tape.trans hb.tape, h.output.trans hb.output, Nat.le_trans hb.size h.size, fun k hk => (h.block k (by have := hb.size; omega) (.inl (by omega))).trans (hb.block k hk)⟩
/-- A block of another type stays. -/
theorem GrP.obj {cur : Array Value} {T : TypeId} {fz : Nat × Nat} (h : GrP lo w w') (hh : w.heap[b]? = some (.cells cur T fz)) (hT : T ≠ 31) : w'.heap[b]? = w.heap[b]? :=
  h.block b (Array.getElem?_eq_some_iff.1 hh).1 (.inr fun c e => by rw [hh] at e; injection e with e; injection e with e1 e2; exact hT e2)
theorem row_sameP {e : TypeId} {size : Nat} (h : w.ownsRow b e size v n xs) (hs : ∀ k, v.ownBlock = some k → w'.heap[k]? = w.heap[k]?) : w'.ownsRow b e size v n xs := by
  refine ⟨h.1, ?_⟩
  rcases h.2 with hn | ⟨g, cap, cur, hv, hg, hh, r⟩
  · exact .inl hn
  · exact .inr ⟨g, cap, cur, hv, hg, (hs g (by rw [hv]; rfl)).trans hh, r⟩
theorem Own.gr (ho : Own w b v zs) (h : GrP lo w w') : Own w' b v zs :=
  ⟨row_sameP ho.row fun k hk => by
    rcases ho.row.2 with ⟨rfl, _⟩ | ⟨g, cap, cur, rfl, _, hh, _⟩
    · cases hk
    · simp [Value.ownBlock] at hk
      subst hk
      exact h.obj hh (by decide), ho.wf⟩

/-- A place with its two rows, each in a block of its own that the call made. -/
structure OneT (w : World) (lo : Nat) (t : Trp) : Prop where
  s : Own w lo t.1 t.2.2.start
  d : Own w lo t.2.1 t.2.2.word
  ne : Ap t.1 t.2.1
  wf : (Lit.int .i64 t.2.2.step).wf = true
theorem OneT.gr (h : OneT w b t) (hg : GrP lo w w') : OneT w' b t := ⟨h.s.gr hg, h.d.gr hg, h.ne, h.wf⟩
theorem OneT.up (h : OneT w b t) (hq : Below w.heap.size w w') : OneT w' b t := ⟨h.s.up hq, h.d.up hq, h.ne, h.wf⟩
theorem OneT.down (h : OneT w lo t) (hl : lo' ≤ lo) : OneT w lo' t := ⟨h.s.down hl, h.d.down hl, h.ne, h.wf⟩
theorem OneT.pl (h : OneT w lo t) : PlQ w lo (valT t) t.2.2 := by
  obtain ⟨a, b, p⟩ := t
  obtain ⟨A, c, e1⟩ := h.s.slice
  obtain ⟨A', c', e2⟩ := h.d.slice
  have o1 := h.s
  have o2 := h.d
  have o3 := h.ne
  have o4 := h.wf
  simp only at e1 e2 o1 o2 o3 o4
  subst e1; subst e2
  exact ⟨A, _, c, A', _, c', rfl, o1, o2, o3.or, o4⟩
theorem PlQ.one (h : PlQ w lo v p) : ∃ t : Trp, v = valT t ∧ t.2.2 = p ∧ OneT w lo t := by
  obtain ⟨A, n, c, A', n', c', rfl, h1, h2, h3, h4⟩ := h.ex
  exact ⟨(_, _, p), rfl, rfl, h1, h2, ap_of h3, h4⟩
theorem PlQ.gr (h : PlQ w lo' v p) (hg : GrP lo w w') : PlQ w' lo' v p := by
  obtain ⟨A, n, c, A', n', c', e, h1, h2, h3, h4⟩ := h.ex
  exact ⟨A, n, c, A', n', c', e, h1.gr hg, h2.gr hg, h3, h4⟩
theorem apT_new (h1 : OneT w1 b s) (h2 : OneT w2 B t) (hb : w1.heap.size ≤ B) : ApT s t :=
  ⟨ap_of (apart_new h1.s h2.s hb), ap_of (apart_new h1.s h2.d hb), ap_of (apart_new h1.d h2.s hb), ap_of (apart_new h1.d h2.d hb)⟩
structure RowsT (w : World) (lo : Nat) (ts : List Trp) : Prop where
  one : ∀ t ∈ ts, OneT w lo t
  two : ts.Pairwise ApT
theorem RowsT.gr (hr : RowsT w b ts) (hg : GrP lo w w') : RowsT w' b ts := ⟨fun t ht => (hr.one t ht).gr hg, hr.two⟩
theorem RowsT.up (hr : RowsT w b ts) (hq : Below w.heap.size w w') : RowsT w' b ts := ⟨fun t ht => (hr.one t ht).up hq, hr.two⟩
theorem RowsT.down (hr : RowsT w lo ts) (hl : lo' ≤ lo) : RowsT w lo' ts := ⟨fun t ht => (hr.one t ht).down hl, hr.two⟩
theorem RowsT.sub {ts' : List Trp} (hr : RowsT w lo ts) (hs : ts'.Sublist ts) : RowsT w lo ts' := ⟨fun t ht => hr.one t (hs.subset ht), hr.two.sublist hs⟩
theorem RowsT.snoc (hr : RowsT w lo (t :: ts)) : RowsT w lo (ts ++ [t]) := by
  have h2 := List.pairwise_cons.1 hr.two
  refine ⟨fun s hs => hr.one s (by simp at hs ⊢; rcases hs with hs | hs; exact .inr hs; exact .inl hs), List.pairwise_append.2 ⟨h2.2, List.pairwise_singleton _ _, fun a ha b hb => ?_⟩⟩
  rw [List.mem_singleton] at hb
  subst hb
  exact (h2.1 a ha).symm
theorem RowsT.cons (hr : RowsT w1 lo ts) (hg : RowsT w2 lo ts) (ho : OneT w2 B t) (hb : w1.heap.size ≤ B) (hl : lo ≤ B) : RowsT w2 lo (t :: ts) :=
  ⟨fun s hs => by
    rcases List.mem_cons.1 hs with e | hs
    · rw [e]; exact ho.down hl
    · exact hg.one s hs, List.pairwise_cons.2 ⟨fun s hs => (apT_new (hr.one s hs) ho hb).symm, hr.two⟩⟩
theorem RowsT.append (hr : RowsT w1 lo ts) (hg : RowsT w2 lo ts) (ho : OneT w2 B t) (hb : w1.heap.size ≤ B) (hl : lo ≤ B) : RowsT w2 lo (ts ++ [t]) := (hr.cons hg ho hb hl).snoc
theorem RowsT.nil : RowsT w lo [] := ⟨fun t ht => by simp at ht, List.Pairwise.nil⟩

/-- A slice of places, wherever it begins in its block, that the call owns. -/
structure SlO (w : World) (lo : Nat) (A : Option Addr) (n c : Nat) (xs : List Value) : Prop where
  len : xs.length = n * 3
  le : n ≤ c
  big : c ≤ maxLen
  ex : (A = none ∧ c = 0) ∨ ∃ g off cur, A = some ⟨g, off, none⟩ ∧ lo ≤ g ∧ w.heap[g]? = some (.cells cur 31 (0, 0)) ∧ off + c * 3 ≤ cur.size ∧ ∀ j x, xs[j]? = some x → cur[off + j]? = some x
theorem SlO.nil : SlO w lo none 0 0 [] := ⟨rfl, Nat.le_refl _, Nat.zero_le _, .inl ⟨rfl, rfl⟩⟩
theorem SlO.same (ho : SlO w lo A n c xs) (hs : ∀ k, (Value.slice A n c).ownBlock = some k → w'.heap[k]? = w.heap[k]?) : SlO w' lo A n c xs := by
  refine ⟨ho.len, ho.le, ho.big, ?_⟩
  rcases ho.ex with hn | ⟨g, off, cur, rfl, hg, hh, r⟩
  · exact .inl hn
  · exact .inr ⟨g, off, cur, rfl, hg, (hs g rfl).trans hh, r⟩
theorem SlO.lt (ho : SlO w lo A n c xs) : ∀ k, (Value.slice A n c).ownBlock = some k → lo ≤ k ∧ k < w.heap.size ∧ ∃ cur, w.heap[k]? = some (.cells cur 31 (0, 0)) := fun k hk => by
  rcases ho.ex with ⟨rfl, _⟩ | ⟨g, off, cur, rfl, hg, hh, r⟩
  · cases hk
  · simp [Value.ownBlock] at hk
    subst hk
    exact ⟨hg, (Array.getElem?_eq_some_iff.1 hh).1, cur, hh⟩
theorem SlO.up (ho : SlO w lo A n c xs) (hq : Below w.heap.size w w') : SlO w' lo A n c xs := ho.same fun k hk => hq.block k (ho.lt k hk).2.1
theorem SlO.kept {row : Option Nat} (ho : SlO w lo A n c xs) (hg : w.grownBy w' row) (hne : ∀ k, row = some k → (Value.slice A n c).ownBlock ≠ some k) : SlO w' lo A n c xs :=
  ho.same fun k hk => hg.block k (ho.lt k hk).2.1 (fun e => hne k e.symm hk)
theorem SlO.down (ho : SlO w lo A n c xs) (hl : lo' ≤ lo) : SlO w lo' A n c xs := by
  refine ⟨ho.len, ho.le, ho.big, ?_⟩
  rcases ho.ex with hn | ⟨g, off, cur, rfl, hg, r⟩
  · exact .inl hn
  · exact .inr ⟨g, off, cur, rfl, by omega, r⟩
theorem SlO.ofRow (hr : w.ownsRow lo 31 3 (.slice A n c) n xs) : SlO w lo A n c xs := by
  rcases hr.2 with ⟨hv, h0⟩ | ⟨g, cap, cur, hv, hg, hh, hn, hm, hs, ht⟩
  · injection hv with e1 e2 e3
    subst e1; subst e2; subst e3
    exact ⟨hr.1, Nat.le_refl _, Nat.zero_le _, .inl ⟨rfl, rfl⟩⟩
  · injection hv with e1 e2 e3
    subst e1; subst e3
    refine ⟨hr.1, hn, hm, .inr ⟨g, 0, cur, rfl, hg, hh, by omega, fun j x hx => ?_⟩⟩
    have hj : j < n * 3 := by rw [← hr.1]; exact (List.getElem?_eq_some_iff.1 hx).1
    rw [← ht, List.getElem?_take, if_pos hj] at hx
    rw [Nat.zero_add]
    simpa using hx
theorem SlO.at (ho : SlO w lo A n c xs) {j : Nat} {x : Value} (hx : xs[j]? = some x) : ∃ g off, A = some ⟨g, off, none⟩ ∧ lo ≤ g ∧ g < w.heap.size ∧ w.cell? ⟨g, off + j, none⟩ = some x ∧ w.frozen? ⟨g, off + j, none⟩ = false := by
  have hj := (List.getElem?_eq_some_iff.1 hx).1
  rcases ho.ex with ⟨rfl, rfl⟩ | ⟨g, off, cur, rfl, hg, hh, hs, hc⟩
  · have := ho.len; have := ho.le; omega
  · refine ⟨g, off, rfl, hg, (Array.getElem?_eq_some_iff.1 hh).1, ?_, ?_⟩
    · unfold World.cell?
      rw [hh]
      exact hc j x hx
    · unfold World.frozen?
      rw [hh]
      simp
/-- All but the first places. -/
theorem SlO.drop {g off : Nat} (ho : SlO w lo (some ⟨g, off, none⟩) n c xs) (hh : h ≤ n) : SlO w lo (some ⟨g, off + h * 3, none⟩) (n - h) (c - h) (xs.drop (h * 3)) := by
  refine ⟨by rw [List.length_drop, ho.len]; omega, by have := ho.le; omega, by have := ho.big; omega, ?_⟩
  rcases ho.ex with ⟨e, _⟩ | ⟨g', off', cur, e, hg, hb, hs, hc⟩
  · cases e
  · injection e with e
    injection e with e1 e2
    subst e1; subst e2
    refine .inr ⟨g, off + h * 3, cur, rfl, hg, hb, by have := ho.le; omega, fun j x hx => ?_⟩
    rw [List.getElem?_drop] at hx
    rw [Nat.add_assoc]
    exact hc _ x hx
/-- The first places alone. -/
theorem SlO.cut (ho : SlO w lo A n c xs) (hh : m ≤ n) : SlO w lo A m m (xs.take (m * 3)) := by
  refine ⟨by rw [List.length_take, ho.len]; omega, Nat.le_refl _, by have := ho.le; have := ho.big; omega, ?_⟩
  rcases ho.ex with ⟨rfl, rfl⟩ | ⟨g, off, cur, rfl, hg, hb, hs, hc⟩
  · exact .inl ⟨rfl, by have := ho.le; omega⟩
  · refine .inr ⟨g, off, cur, rfl, hg, hb, by have := ho.le; omega, fun j x hx => hc j x ?_⟩
    rw [List.getElem?_take] at hx
    split at hx
    · exact hx
    · cases hx
theorem SlO.set {g off j : Nat} (ho : SlO w lo (some ⟨g, off, none⟩) n c xs) (hj : j < n * 3) (x : Value) : SlO (w.setCell ⟨g, off + j, none⟩ x) lo (some ⟨g, off, none⟩) n c (xs.set j x) := by
  refine ⟨by rw [List.length_set]; exact ho.len, ho.le, ho.big, ?_⟩
  rcases ho.ex with ⟨e, _⟩ | ⟨g', off', cur, e, hg, hb, hs, hc⟩
  · cases e
  · injection e with e
    injection e with e1 e2
    subst e1; subst e2
    refine .inr ⟨g, off, cur.setIfInBounds (off + j) x, rfl, hg, heap_setCell_same w g (off + j) cur _ x hb, by simpa using hs, fun i y hy => ?_⟩
    rw [Array.getElem?_setIfInBounds]
    rcases Nat.decEq j i with hne | rfl
    · rw [List.getElem?_set_ne hne] at hy
      rw [if_neg (by omega)]
      exact hc i y hy
    · rw [List.getElem?_set_self (by rw [ho.len]; exact hj)] at hy
      injection hy with hy
      subst hy
      rw [if_pos rfl, if_pos (by have := ho.le; omega)]
theorem SlO.room {g off : Nat} {x y z : Value} (ho : SlO w lo (some ⟨g, off, none⟩) n c xs) (hn : n + 1 ≤ c) : SlO (w.setCells g (off + n * 3) [x, y, z]) lo (some ⟨g, off, none⟩) (n + 1) c (xs ++ [x, y, z]) := by
  rcases ho.ex with ⟨e, _⟩ | ⟨g', off', cur, e, hg, hb, hs, hc⟩
  · cases e
  · injection e with e
    injection e with e1 e2
    subst e1; subst e2
    have h1 := heap_setCell_same w g (off + n * 3) cur _ x hb
    have h2 := heap_setCell_same _ g (off + n * 3 + 1) _ _ y h1
    have h3 := heap_setCell_same _ g (off + n * 3 + 1 + 1) _ _ z h2
    refine ⟨by rw [List.length_append, ho.len]; show _ + 3 = _; omega, hn, ho.big, .inr ⟨g, off, _, rfl, hg, h3, by simp only [Array.size_setIfInBounds]; exact hs, fun i u hu => ?_⟩⟩
    have hl := ho.len
    rcases Nat.lt_or_ge i (n * 3) with hi | hi
    · rw [List.getElem?_append_left (by omega)] at hu
      rw [Array.getElem?_setIfInBounds, if_neg (by omega), Array.getElem?_setIfInBounds, if_neg (by omega), Array.getElem?_setIfInBounds, if_neg (by omega)]
      exact hc i u hu
    · rw [List.getElem?_append_right (by omega), hl] at hu
      obtain ⟨k, rfl⟩ : ∃ k, i = n * 3 + k := ⟨i - n * 3, by omega⟩
      rw [Nat.add_sub_cancel_left] at hu
      match k, hu with
      | 0, hu =>
        simp at hu
        subst hu
        rw [Array.getElem?_setIfInBounds, if_neg (by omega), Array.getElem?_setIfInBounds, if_neg (by omega), Array.getElem?_setIfInBounds, if_pos (by omega), if_pos (by omega)]
      | 1, hu =>
        simp at hu
        subst hu
        rw [Array.getElem?_setIfInBounds, if_neg (by omega), Array.getElem?_setIfInBounds, if_pos (by omega), if_pos (by simp only [Array.size_setIfInBounds]; omega)]
      | 2, hu =>
        simp at hu
        subst hu
        rw [Array.getElem?_setIfInBounds, if_pos (by omega), if_pos (by simp only [Array.size_setIfInBounds]; omega)]
      | k + 3, hu => simp at hu
theorem SlO.psM (ho : SlO w lo A n c (cellsT ts)) (hr : RowsT w b ts) : PsM w w.heap.size A n c (plcs ts) := by
  have hl := cellsT_len ts
  have hn : n = ts.length := by have := ho.len; omega
  refine ⟨by rw [plcs_len]; omega, ho.le, ho.big, fun hp => ?_, fun e => ?_⟩
  · rcases ho.ex with ⟨rfl, rfl⟩ | ⟨g, off, cur, rfl, hg, hb, hs, hc⟩
    · have := ho.le; omega
    · refine ⟨g, off, rfl, (Array.getElem?_eq_some_iff.1 hb).1, fun j p hj => ?_⟩
      unfold plcs at hj
      rw [List.getElem?_map] at hj
      obtain ⟨⟨a, b', q⟩, ht, e⟩ := Option.map_eq_some_iff.1 hj
      obtain ⟨i1, i2, i3⟩ := cellsT_at ht
      have h1 := hr.one _ (List.mem_of_getElem? ht)
      subst e
      obtain ⟨A1, c1, e1⟩ := h1.s.slice
      obtain ⟨A2, c2, e2⟩ := h1.d.slice
      have o1 := h1.s
      have o2 := h1.d
      simp only at e1 e2 o1 o2 i1 i2 i3
      subst e1; subst e2
      have hcell : ∀ i x, (cellsT ts)[i]? = some x → w.cell? ⟨g, off + i, none⟩ = some x := fun i x hx => by
        unfold World.cell?
        rw [hb]
        exact hc i x hx
      exact ⟨A1, _, c1, A2, _, c2, hcell _ _ i1, by rw [Nat.add_assoc]; exact hcell _ _ i2, by rw [Nat.add_assoc]; exact hcell _ _ i3, o1.ints, o2.ints, h1.wf⟩
  · rcases ho.ex with ⟨_, h0⟩ | ⟨g, off, cur, e2, _⟩
    · exact h0
    · rw [e] at e2; cases e2

/-- A desk that the call owns, with all its rows in blocks of their own. -/
structure DkR (w : World) (lo : Nat) (v : Value) (d : Dsk) : Prop where
  ex : ∃ (t : Trp) (ts : List Trp) (A : Option Addr) (n c : Nat), v = .agg #[t.1, .int .i64 t.2.2.step, t.2.1, .slice A n c] ∧ t.2.2 = d.now ∧ plcs ts = d.past ∧ n = ts.length ∧ SlO w lo A n c (cellsT ts) ∧ RowsT w lo (t :: ts)
theorem DkR.up (hd : DkR w lo v d) (hq : Below w.heap.size w w') : DkR w' lo v d := by
  obtain ⟨t, ts, A, n, c, e, h1, h2, h3, h4, h5⟩ := hd.ex
  exact ⟨t, ts, A, n, c, e, h1, h2, h3, h4.up hq, h5.up hq⟩
theorem DkR.down (hd : DkR w lo v d) (hl : lo' ≤ lo) : DkR w lo' v d := by
  obtain ⟨t, ts, A, n, c, e, h1, h2, h3, h4, h5⟩ := hd.ex
  exact ⟨t, ts, A, n, c, e, h1, h2, h3, h4.down hl, h5.down hl⟩
theorem DkR.dkM (hd : DkR w lo v d) : DkM w w.heap.size v d := by
  obtain ⟨⟨a, b, p⟩, ts, A, n, c, rfl, h1, h2, h3, h4, h5⟩ := hd.ex
  have ho := h5.one _ List.mem_cons_self
  obtain ⟨A1, c1, e1⟩ := ho.s.slice
  obtain ⟨A2, c2, e2⟩ := ho.d.slice
  have o1 := ho.s
  have o2 := ho.d
  have o3 := ho.wf
  simp only at e1 e2 o1 o2 o3 h1
  subst e1; subst e2; subst h1
  exact ⟨A1, _, c1, A2, _, c2, A, n, c, rfl, o1.ints, o2.ints, o3, by rw [← h2]; exact h4.psM (h5.sub (List.sublist_cons_self _ _))⟩
theorem noDkR : DkR w lo (.agg #[.slice none 0 0, .int .i64 0, .slice none 0 0, .slice none 0 0]) noDsk :=
  ⟨(.slice none 0 0, .slice none 0 0, noPlc), [], none, 0, 0, rfl, rfl, rfl, rfl, SlO.nil, ⟨fun t ht => by
    rw [List.mem_singleton] at ht
    subst ht
    exact ⟨Own.none_, Own.none_, ap_nil, by decide⟩, List.pairwise_singleton _ _⟩⟩
end
section
variable {P : Program} (w : World)
/-- One place more behind a slice of places that the call owns. -/
theorem wpList_pushO {ops : Array Oper} {rest : List Oper} {o : Oper} {a : Act} {Q : Exit → Act → World → Prop} (hgd : o.guard = none) (s x : Operand) (t : TypeId)
    (ho : o.op = .call { callee := .builtin .append, args := #[s, x], argTypes := #[t, t] })
    (i : TypeInfo) (z : Value) (ht : P.underlying t = some (.slice 31)) (hi : P.info? 31 = some i) (hz : i.zero = some z) (hsize : i.size = 3) (hby : i.bytes = 56) (hzs : z.cells.size = 3)
    (lo : Nat) (A : Option Addr) (n c : Nat) (xs : List Value) (hs : a.eval s = .slice A n c) (hown : SlO w lo A n c xs) (g cc : Nat) (x0 x1 x2 : Value) (hx : a.eval x = .slice (some ⟨g, 0, none⟩) 1 cc) (hc : ∀ j u, [x0, x1, x2][j]? = some u → w.cell? ⟨g, j, none⟩ = some u) (h1 : ∀ u ∈ [x0, x1, x2], u.oneCell' = true)
    (hn : n ≤ 1048576000) (hlo : lo ≤ w.heap.size)
    (h : ∀ A' c' w', SlO w' lo A' (n + 1) c' (xs ++ [x0, x1, x2]) → w.grownBy w' (Value.slice A n c).ownBlock → wpList P ops Q rest (a.put o.dst (.slice A' (n + 1) c')) w') : wpList P ops Q (o :: rest) a w := by
  have hcc : ∀ j u, [x0, x1, x2][j]? = some u → w.cell? ((Addr.mk g 0 none).add j) = some u := fun j u hu => by
    have := hc j u hu
    unfold Addr.add
    by_cases hj0 : j = 0
    · subst hj0; simpa using this
    · simpa [hj0] using this
  rcases hown.ex with ⟨rfl, rfl⟩ | ⟨b, off, cur, rfl, hg, hh, hsz, hcur⟩
  · obtain rfl : n = 0 := by have := hown.le; omega
    refine wpList_append_grows w hgd s x t ho _ i z 3 56 ht hi hz hsize hby hzs (by decide) none 0 0 xs hs (fun _ => ⟨rfl, rfl⟩) hown.len (fun b e => by cases e) ⟨g, 0, none⟩ 1 cc [x0, x1, x2] hx rfl hcc h1 (by decide) (by decide) (by decide) fun v' w' hr hg => ?_
    obtain ⟨A', c', rfl⟩ := row_slice hr
    exact h A' c' w' (SlO.ofRow (ownsRow_down hr hlo)) hg
  · refine wpList_append_arg w hgd s x t ho _ i z 3 56 ht hi hz hsize hby hzs (by decide) b off n c xs hs hown.len (fun j u hu => ?_) ⟨g, 0, none⟩ 1 cc [x0, x1, x2] hx rfl hcc h1 (fun hr j hj => ?_) (by unfold maxLen; omega) ?_ (fun hr => ?_) (fun hr v' w' hrow hg => ?_)
    · unfold World.cell?
      rw [hh]
      exact hcur j u hu
    · have hj : j < 3 := hj
      constructor
      · unfold World.cell?
        rw [hh]
        have : off + n * 3 + j < cur.size := by omega
        simp [this]
      · unfold World.frozen?
        rw [hh]
        simp
    · exact Nat.le_trans (Nat.mul_le_mul (show n + 1 ≤ 1048576001 by omega) (Nat.le_refl 56)) (by decide)
    · refine h _ c _ (hown.room hr) ?_
      have s3 : ∀ (W : World) (o0 : Nat) (y : Value), W.grownBy (W.setCell ⟨b, o0, none⟩ y) (some b) := fun W o0 y => grown_set W b o0 y
      exact ((s3 _ _ _).trans (s3 _ _ _)).trans (s3 _ _ _)
    · obtain ⟨A', c', rfl⟩ := row_slice hrow
      exact h A' c' w' (SlO.ofRow (ownsRow_down hrow hlo)) ⟨hg.os, hg.tape, hg.output, hg.size, fun k hk hne => hg.block k hk (by simp)⟩
end
/-- A row one element longer in place. -/
theorem row_room {w : World} {lo g n cap : Nat} {e : TypeId} {xs : List Value} (hr : w.ownsRow lo e 1 (.slice (some ⟨g, 0, none⟩) n cap) n xs) (hn : n + 1 ≤ cap) (u : Value) : (w.setCell ⟨g, n, none⟩ u).ownsRow lo e 1 (.slice (some ⟨g, 0, none⟩) (n + 1) cap) (n + 1) (xs ++ [u]) := by
  obtain ⟨h1, h2⟩ := hr
  refine ⟨by rw [List.length_append, h1]; simp, .inr ?_⟩
  rcases h2 with ⟨e, _⟩ | ⟨g', cap', cur, e, hg, hh, hle, hm, hs, ht⟩
  · cases e
  · injection e with e1 e2 e3
    injection e1 with e1
    injection e1 with e1
    subst e1; subst e3
    refine ⟨_, _, _, rfl, hg, heap_setCell_same w _ n cur _ u hh, hn, hm, by simpa using hs, ?_⟩
    have hl : n < cur.toList.length := by rw [Array.length_toList]; omega
    rw [Array.toList_setIfInBounds, Nat.mul_one, List.take_add_one, List.take_set_of_le (Nat.le_refl n), List.getElem?_set_self hl]
    rw [Nat.mul_one] at ht
    rw [ht]
    rfl
/-- One int more behind a row that the call owns: in its own block, or in a new one. -/
theorem wpList_appE {P : Program} (w : World) {ops : Array Oper} {rest : List Oper} {o : Oper} {a : Act} {Q : Exit → Act → World → Prop} (hgd : o.guard = none) (s x : Operand) (t : TypeId)
    (ho : o.op = .call { callee := .builtin .append, args := #[s, x], argTypes := #[t, t] })
    (i : TypeInfo) (ht : P.underlying t = some (.slice 3)) (hi : P.info? 3 = some i) (hz0 : i.zero = some (.int .i64 0)) (hz1 : i.size = 1) (hz2 : i.bytes = 8)
    (base : Nat) (A : Option Addr) (n c : Nat) (zs : List Int) (hs : a.eval s = .slice A n c) (hown : Own w base (.slice A n c) zs) (g cc : Nat) (y : Int) (hx : a.eval x = .slice (some ⟨g, 0, none⟩) 1 cc) (hc : w.cell? ⟨g, 0, none⟩ = some (.int .i64 y)) (hy : (Lit.int .i64 y).wf = true)
    (hn : n ≤ 1048576000) (hbase : base ≤ w.heap.size)
    (h : ∀ A' n' c' w', Own w' base (.slice A' n' c') (zs ++ [y]) → w.grownBy w' (Value.slice A n c).ownBlock → (∀ k, (Value.slice A' n' c').ownBlock = some k → (Value.slice A n c).ownBlock = some k ∨ w.heap.size ≤ k) → wpList P ops Q rest (a.put o.dst (.slice A' n' c')) w') : wpList P ops Q (o :: rest) a w := by
  have hcc : ∀ j u, [Value.int .i64 y][j]? = some u → w.cell? ((Addr.mk g 0 none).add j) = some u := fun j u hu => by
    match j, hu with
    | 0, hu => simp at hu; subst hu; simpa [Addr.add] using hc
    | j + 1, hu => simp at hu
  have hone : ∀ u ∈ [Value.int .i64 y], u.oneCell' = true := by intro u hu; simp at hu; subst hu; rfl
  have hwf : ∀ z ∈ zs ++ [y], (Lit.int .i64 z).wf = true := fun z hz => by
    rcases List.mem_append.1 hz with hz | hz
    · exact hown.wf z hz
    · rw [List.mem_singleton] at hz; subst hz; exact hy
  have hln := hown.len
  have mk : ∀ {w' : World} {v' : Value} {b : Nat}, base ≤ b → w'.ownsRow b 3 1 v' (n + 1) (zs.map (Value.int .i64) ++ [Value.int .i64 y]) → Own w' base v' (zs ++ [y]) := fun {w' v' b} hb hr => ⟨by
    rw [List.length_append, List.map_append, ← hln]; exact ownsRow_down hr hb, hwf⟩
  rcases hown.row.2 with ⟨hv, h0⟩ | ⟨b, cap, cur, hv, hg, hh, hle, hm, hsz, htk⟩
  · injection hv with e1 e2 e3
    subst e1; subst e2; subst e3
    obtain rfl := List.eq_nil_of_length_eq_zero h0
    refine wpList_append_grows w hgd s x t ho _ i (.int .i64 0) 1 8 ht hi hz0 hz1 hz2 rfl (by decide) none 0 0 [] hs (fun _ => ⟨rfl, rfl⟩) rfl (fun b e => by cases e) ⟨g, 0, none⟩ 1 cc [.int .i64 y] hx rfl hcc hone (by decide) (by decide) (by decide) fun v' w' hr hg => ?_
    have hO := mk hbase hr
    obtain ⟨A', c', rfl⟩ := hO.slice
    exact h A' _ c' w' hO hg (fun k hk => .inr (hr.lt k hk).1)
  · injection hv with e1 e2 e3
    subst e1; subst e3
    have hrow : w.ownsRow base 3 1 (.slice (some ⟨b, 0, none⟩) n c) n (zs.map (Value.int .i64)) := by have := hown.row; rwa [← hln] at this
    refine wpList_append_arg w hgd s x t ho _ i (.int .i64 0) 1 8 ht hi hz0 hz1 hz2 rfl (by decide) b 0 n c (zs.map (Value.int .i64)) hs (by rw [List.length_map]; omega) (fun j u hu => ?_) ⟨g, 0, none⟩ 1 cc [.int .i64 y] hx rfl hcc hone (fun hr j hj => ?_) (by unfold maxLen; omega) ?_ (fun hr => ?_) (fun hr v' w' hrw hg => ?_)
    · have hj : j < n * 1 := by have := (List.getElem?_eq_some_iff.1 hu).1; rw [List.length_map] at this; omega
      rw [Nat.zero_add, hrow.cellAt j hj]
      exact hu
    · have hj : j < 1 := hj
      obtain rfl : j = 0 := by omega
      constructor
      · unfold World.cell?
        rw [hh]
        simp
        omega
      · unfold World.frozen?
        rw [hh]
        simp
    · exact Nat.le_trans (Nat.mul_le_mul (show n + 1 ≤ 1048576001 by omega) (Nat.le_refl 8)) (by decide)
    · have hroom := row_room hrow hr (.int .i64 y)
      rw [show 0 + n * 1 = n by omega]
      exact h _ _ c _ (mk (Nat.le_refl _) hroom) (grown_set w b n (.int .i64 y)) (fun k hk => .inl hk)
    · have hO := mk hbase hrw
      obtain ⟨A', c', rfl⟩ := hO.slice
      exact h A' _ c' w' hO ⟨hg.os, hg.tape, hg.output, hg.size, fun k hk hne => hg.block k hk (by simp)⟩ (fun k hk => .inr (hrw.lt k hk).1)
/-- A block of a desk stands with its tag. -/
structure DTag (w : World) (g : Nat) : Prop where
  ob : ∃ cs, w.heap[g]? = some (.cells cs 34 (0, 0))
section
variable {w w' : World} {lo hi g b : Nat} {v : Value} {d : Dsk} {x y z u : Value} {A : Option Addr} {n c : Nat} {xs : List Value} {ts : List Trp} {t : Trp} {zs : List Int} {ps : List Plc}
theorem DTag.lt (h : DTag w g) : g < w.heap.size := by
  obtain ⟨cs, e⟩ := h.ob
  exact (Array.getElem?_eq_some_iff.1 e).1
theorem DTag.up (h : DTag w g) (hq : Below w.heap.size w w') : DTag w' g := by
  obtain ⟨cs, e⟩ := h.ob
  exact ⟨cs, (hq.block g h.lt).trans e⟩
theorem DTag.gr (h : DTag w g) (hq : GrP lo w w') : DTag w' g := by
  obtain ⟨cs, e⟩ := h.ob
  exact ⟨cs, (hq.obj e (by decide)).trans e⟩
theorem DTag.made (w : World) (cs : Array Value) : DTag (w.alloc (.cells cs 34)) w.heap.size := ⟨cs, by show (w.heap.push _)[w.heap.size]? = _; simp⟩
theorem DTag.set (h : DTag w g) (i : Nat) (x : Value) : DTag (w.setCell ⟨g, i, none⟩ x) g := by
  obtain ⟨cs, e⟩ := h.ob
  exact ⟨_, heap_setCell_same w g i cs _ x e⟩
theorem heap_other {k : Nat} (hk : k ≠ g) (i : Nat) (x : Value) : (w.setCell ⟨g, i, none⟩ x).heap[k]? = w.heap[k]? := heap_setCell_other w ⟨g, i, none⟩ k x hk
theorem Own.setD (ho : Own w b v zs) (h : DTag w g) (i : Nat) (x : Value) : Own (w.setCell ⟨g, i, none⟩ x) b v zs :=
  ⟨row_sameP ho.row fun k hk => by
    rcases ho.row.2 with ⟨rfl, _⟩ | ⟨g', cap, cur, rfl, _, hh, _⟩
    · cases hk
    · simp [Value.ownBlock] at hk
      subst hk
      refine heap_other (fun e => ?_) i x
      subst e
      obtain ⟨cs, e⟩ := h.ob
      rw [hh] at e
      injection e with e
      injection e with e1 e2
      exact absurd e2 (by decide), ho.wf⟩
theorem OneT.setD (ho : OneT w b t) (h : DTag w g) (i : Nat) (x : Value) : OneT (w.setCell ⟨g, i, none⟩ x) b t := ⟨ho.s.setD h i x, ho.d.setD h i x, ho.ne, ho.wf⟩
theorem RowsT.setD (ho : RowsT w b ts) (h : DTag w g) (i : Nat) (x : Value) : RowsT (w.setCell ⟨g, i, none⟩ x) b ts := ⟨fun t ht => (ho.one t ht).setD h i x, ho.two⟩
theorem SlO.setD (ho : SlO w lo A n c xs) (h : DTag w g) (i : Nat) (x : Value) : SlO (w.setCell ⟨g, i, none⟩ x) lo A n c xs :=
  ho.same fun k hk => heap_other (fun e => by
    subst e
    obtain ⟨_, _, cur, hh⟩ := ho.lt k hk
    obtain ⟨cs, e⟩ := h.ob
    rw [hh] at e
    injection e with e
    injection e with e1 e2
    exact absurd e2 (by decide)) i x
theorem DkR.setD (hd : DkR w lo v d) (h : DTag w g) (i : Nat) (x : Value) : DkR (w.setCell ⟨g, i, none⟩ x) lo v d := by
  obtain ⟨t, ts, A, n, c, e, h1, h2, h3, h4, h5⟩ := hd.ex
  exact ⟨t, ts, A, n, c, e, h1, h2, h3, h4.setD h i x, h5.setD h i x⟩
theorem DkR.set4 (hd : DkR w lo v d) (h : DTag w g) (x y z u : Value) : DkR ((((w.setCell ⟨g, 0, none⟩ x).setCell ⟨g, 1, none⟩ y).setCell ⟨g, 2, none⟩ z).setCell ⟨g, 3, none⟩ u) lo v d :=
  (((hd.setD h 0 x).setD (h.set 0 x) 1 y).setD ((h.set 0 x).set 1 y) 2 z).setD (((h.set 0 x).set 1 y).set 2 z) 3 u
/-- The pieces of a row of places whose rows are the slices vs. -/
def zipT : List Value → List Plc → List Trp
  | a :: b :: vs, p :: ps => (a, b, p) :: zipT vs ps
  | _, _ => []
theorem zipT_facts {vs : List Value} {ps : List Plc} (hl : vs.length = 2 * ps.length) : plcs (zipT vs ps) = ps ∧ cellsT (zipT vs ps) = cells3 vs ps ∧ (zipT vs ps).length = ps.length ∧ ∀ (j : Nat) s, (zipT vs ps)[j]? = some s → vs[2 * j]? = some s.1 ∧ vs[2 * j + 1]? = some s.2.1 ∧ ps[j]? = some s.2.2 := by
  induction ps generalizing vs with
  | nil =>
    have : zipT vs [] = [] := by unfold zipT; split <;> simp_all
    rw [this]
    refine ⟨rfl, ?_, rfl, fun j s h => by simp at h⟩
    cases vs with
    | nil => rfl
    | cons a r => simp at hl
  | cons p r ih =>
    match vs, hl with
    | a :: b :: vs, hl =>
      obtain ⟨h1, h2, h3, h4⟩ := ih (vs := vs) (by simp only [List.length_cons] at hl; omega)
      have e : zipT (a :: b :: vs) (p :: r) = (a, b, p) :: zipT vs r := rfl
      rw [e]
      refine ⟨?_, ?_, by simp [h3], fun j s hs => ?_⟩
      · show p :: plcs (zipT vs r) = _
        rw [h1]
      · show a :: .int .i64 p.step :: b :: cellsT (zipT vs r) = _
        rw [h2]
        rfl
      · cases j with
        | zero => simp at hs; subst hs; exact ⟨rfl, rfl, rfl⟩
        | succ j =>
          obtain ⟨q1, q2, q3⟩ := h4 j s (by simpa using hs)
          refine ⟨?_, ?_, by simpa using q3⟩
          · rw [show 2 * (j + 1) = 2 * j + 1 + 1 by omega]; simpa using q1
          · rw [show 2 * (j + 1) + 1 = 2 * j + 1 + 1 + 1 by omega]; simpa using q2
theorem OwnQ.slo (h : OwnQ w lo hi (.slice A n c) ps) : ∃ ts, plcs ts = ps ∧ n = ts.length ∧ SlO w lo A n c (cellsT ts) ∧ RowsT w lo ts := by
  have hn := h.len
  obtain ⟨vs, h0, h1, h2, h3, h4⟩ := h.ex
  obtain ⟨z1, z2, z3, z4⟩ := zipT_facts h0
  refine ⟨zipT vs ps, z1, by rw [z3]; exact hn, ?_, ⟨fun t ht => ?_, ?_⟩⟩
  · rw [z2]
    rw [← hn] at h1
    exact SlO.ofRow h1
  · obtain ⟨j, hj, rfl⟩ := List.getElem_of_mem ht
    obtain ⟨q1, q2, q3⟩ := z4 j _ (List.getElem?_eq_getElem hj)
    obtain ⟨r1, r2⟩ := rowsP_at q3
    exact ⟨(h2 _ _ _ q1 r1).1, (h2 _ _ _ q2 r2).1, ap_of (h3 _ _ _ _ (by omega) q1 q2), h4 _ (List.mem_of_getElem? q3)⟩
  · rw [List.pairwise_iff_getElem]
    intro i j hi hj hij
    obtain ⟨q1, q2, q3⟩ := z4 i _ (List.getElem?_eq_getElem hi)
    obtain ⟨r1, r2, r3⟩ := z4 j _ (List.getElem?_eq_getElem hj)
    exact ⟨ap_of (h3 _ _ _ _ (by omega) q1 r1), ap_of (h3 _ _ _ _ (by omega) q1 r2), ap_of (h3 _ _ _ _ (by omega) q2 r1), ap_of (h3 _ _ _ _ (by omega) q2 r2)⟩
/-- A desk put together. -/
theorem dkR_mk {p : Plc} {ps : List Plc} {A1 A2 : Option Addr} {n1 c1 n2 c2 : Nat} {s : Int} (ho : OneT w lo (.slice A1 n1 c1, .slice A2 n2 c2, p)) (hp : plcs ts = ps) (hn : n = ts.length) (h4 : SlO w lo A n c (cellsT ts)) (h5 : RowsT w lo ((.slice A1 n1 c1, .slice A2 n2 c2, p) :: ts)) (hs : s = p.step) :
    DkR w lo (.agg #[.slice A1 n1 c1, .int .i64 s, .slice A2 n2 c2, .slice A n c]) ⟨p, ps⟩ := by
  subst hs
  exact ⟨(.slice A1 n1 c1, .slice A2 n2 c2, p), ts, A, n, c, rfl, rfl, hp, hn, h4, h5⟩
end
end Go.Proofs.YtoafpokcbbncfaaDoor
