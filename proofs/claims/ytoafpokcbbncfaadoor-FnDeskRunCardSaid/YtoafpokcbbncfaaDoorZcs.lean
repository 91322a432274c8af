/-
  Words, plain lemmas and contracts that belong together, joined into one file.
-/
import Derived.Test.YtoafpokcbbncfaaDoorPlaceS
import Derived.Test.YtoafpokcbbncfaaDoorZpd
import Derived.Test.YtoafpokcbbncfaaDoorCopy
import Derived.Test.YtoafpokcbbncfaaDoorZpb
import Derived.Deep.RegionHeld3
import Derived.Deep.AppendLies
import Derived.Test.YtoafpokcbbncfaaDoorZtx
namespace Go.Proofs.YtoafpokcbbncfaaDoor
open Go.RowKit
set_option linter.unusedVariables false

theorem gB {w w' : World} (hg : w.grownBy w' none) : Below w.heap.size w w' := ⟨hg.os, hg.tape, hg.output, hg.size, fun k hk => hg.block k hk (by simp)⟩
theorem TriW.tri {w : World} {g : Nat} {x y z : Value} (h : TriW w g x y z) : Tri w g x y z := ⟨h.c0, h.c1, h.c2, h.lt⟩
/-- What l15Place hands back. -/
structure PlZ (w : World) (base : Nat) (v : Value) (p : Plc) : Prop where
  ex : ∃ A n c A' n' c', v = .agg #[.slice A n c, .int .i64 p.step, .slice A' n' c'] ∧ Own w base (.slice A n c) p.start ∧ OwnZ w base (.slice A' n' c') p.word ∧ ((p.word ≠ [] → (Value.slice A n c).ownBlock ≠ (Value.slice A' n' c').ownBlock) ∧ (p.word = [] → ∃ b0, Value.slice A' n' c' = .slice (some b0) 0 0)) ∧ (Lit.int .i64 p.step).wf = true

set_option maxRecDepth 100000 in
set_option maxHeartbeats 6400000 in
theorem l15Place_c (v : Value) (p : Plc) (B : Nat) (w : World) (h : PlM w B v p) (hB : B ≤ w.heap.size) (h0 : 1 ≤ p.start.length) (h1 : p.start.length ≤ 1000) (h2 : p.word.length ≤ 1000) :
    Calls Tryd.prog 77 #[v] w fun e w' => ∃ u, e = .returned u ∧ PlZ w' w.heap.size u p ∧ Below w.heap.size w w' := by
  obtain ⟨i0, hi, hz0, hz1, hz2⟩ := info_parts infoInt
  obtain ⟨A, n, c, A', n', c', rfl, i1, i2, hwf⟩ := h.ex
  have hl1 := i1.len
  have hl2 := i2.len
  have hq0 := hide (show Below w.heap.size w ((w.alloc (.cells #[.slice A n c, .int .i64 p.step, .slice A' n' c'] 31)).alloc (.cells #[.slice none 0 0, .int .i64 0, .slice none 0 0] 31)) from (al w _).alloc (by simp) _)
  have hS := hide (fun (W : World) (hq : Below ((w.alloc (.cells #[.slice A n c, .int .i64 p.step, .slice A' n' c'] 31)).alloc (.cells #[.slice none 0 0, .int .i64 0, .slice none 0 0] 31)).heap.size ((w.alloc (.cells #[.slice A n c, .int .i64 p.step, .slice A' n' c'] 31)).alloc (.cells #[.slice none 0 0, .int .i64 0, .slice none 0 0] 31)) W) => (i1.more hB).below (upB hq0.out hq))
  have hW := hide (fun (W : World) (hq : Below ((w.alloc (.cells #[.slice A n c, .int .i64 p.step, .slice A' n' c'] 31)).alloc (.cells #[.slice none 0 0, .int .i64 0, .slice none 0 0] 31)).heap.size ((w.alloc (.cells #[.slice A n c, .int .i64 p.step, .slice A' n' c'] 31)).alloc (.cells #[.slice none 0 0, .int .i64 0, .slice none 0 0] 31)) W) => (i2.more hB).below (upB hq0.out hq))
  have hn0 : 0 < n := by omega
  have hnb : n ≤ 1048576000 := by omega
  have ht := hide (show Tri ((w.alloc (.cells #[.slice A n c, .int .i64 p.step, .slice A' n' c'] 31)).alloc (.cells #[.slice none 0 0, .int .i64 0, .slice none 0 0] 31)) w.heap.size (.slice A n c) (.int .i64 p.step) (.slice A' n' c') from (Tri.made w _ _ _ _).up (al _ _))
  have hz := hide (show TriW ((w.alloc (.cells #[.slice A n c, .int .i64 p.step, .slice A' n' c'] 31)).alloc (.cells #[.slice none 0 0, .int .i64 0, .slice none 0 0] 31)) (w.heap.size + 1) (.slice none 0 0) (.int .i64 0) (.slice none 0 0) from by have := TriW.made (w.alloc (.cells #[.slice A n c, .int .i64 p.step, .slice A' n' c'] 31)) (.slice none 0 0) (.int .i64 0) (.slice none 0 0) 31; simpa using this)
  obtain ⟨a0, b0, d0, _⟩ := ht.out
  obtain ⟨x0, y0, z0, xf0, yf0, zf0, _⟩ := hz.out
  have hs0 : ((w.alloc (.cells #[.slice A n c, .int .i64 p.step, .slice A' n' c'] 31)).alloc (.cells #[.slice none 0 0, .int .i64 0, .slice none 0 0] 31)).heap.size = w.heap.size + 2 := by simp
  have hs0 := hide hs0
  have hlt0 := hide (show w.heap.size + 1 < ((w.alloc (.cells #[.slice A n c, .int .i64 p.step, .slice A' n' c'] 31)).alloc (.cells #[.slice none 0 0, .int .i64 0, .slice none 0 0] 31)).heap.size by simp)
  by_cases hw0 : n' = 0
  · subst hw0
    have hpw : p.word = [] := List.eq_nil_of_length_eq_zero hl2
    go_enter Tryd.func77, Tryd.ntmps77
    go_wp2_with fail
    go_region_held3 (fun W => W.cell? ⟨w.heap.size, 0, none⟩ = some (.slice A n c) ∧ W.cell? ⟨w.heap.size, 1, none⟩ = some (.int .i64 p.step) ∧ W.cell? ⟨w.heap.size, 2, none⟩ = some (.slice A' 0 c')) (first | exact ⟨a0, b0, d0⟩ | exact ⟨a3, b3, d3⟩ | exact ⟨a4, b4, d4⟩ | go_keep) (first | (refine (fun (hbW3 : Below ((w.alloc (.cells #[.slice A n c, .int .i64 p.step, .slice A' 0 c'] 31)).alloc (.cells #[.slice none 0 0, .int .i64 0, .slice none 0 0] 31)).heap.size ((w.alloc (.cells #[.slice A n c, .int .i64 p.step, .slice A' 0 c'] 31)).alloc (.cells #[.slice none 0 0, .int .i64 0, .slice none 0 0] 31)) _) => step_copy _ rfl _ _ 22 rfl i0 Tryd.underlying22 hi hz0 hz1 hz2 _ p.start rfl A n c _ rfl (hS.out _ hbW3) hn0 hnb ?_) ?_; rotate_left; (focus (repeat (first | assumption | exact Below.refl _ _ | refine Below.drew ?_ | refine below_empty ?_ _)); done); intro g3 c3 w3 he3 ho3 hg3; have hb3 := upB hbW3 (gB hg3); have hl3 := Nat.lt_of_lt_of_le hlt0.out hbW3.size; obtain ⟨a3, b3, d3, _⟩ := (ht.out.up hb3); obtain ⟨x3, y3, z3, xf3, yf3, zf3, _⟩ := (hz.out.up hb3)) | (refine step_nothing _ rfl _ _ 22 rfl i0 Tryd.underlying22 hi _ rfl A' c' rfl ?_; intro b1 hb1))
    all_goals
      have hT := hide ((((hz.out.up hb3).set0 (.slice (some ⟨g3, 0, none⟩) n c3)).set1 (.int .i64 p.step)).set2 (.slice (some b1) 0 0))
      have hO := hide (((ho3.setLow (a := ⟨w.heap.size + 1, 0, none⟩) hl3 (.slice (some ⟨g3, 0, none⟩) n c3)).setLow (a := ⟨w.heap.size + 1, 1, none⟩) hl3 (.int .i64 p.step)).setLow (a := ⟨w.heap.size + 1, 2, none⟩) hl3 (.slice (some b1) 0 0))
      have hBl := hide ((((upB hq0.out hb3).setCell (p := ⟨w.heap.size + 1, 0, none⟩) (Nat.le_succ _) (.slice (some ⟨g3, 0, none⟩) n c3)).setCell (p := ⟨w.heap.size + 1, 1, none⟩) (Nat.le_succ _) (.int .i64 p.step)).setCell (p := ⟨w.heap.size + 1, 2, none⟩) (Nat.le_succ _) (.slice (some b1) 0 0))
      clear hg3 ho3 hb3
      go_wp2_with fail
      first
        | (obtain ⟨k0, k1, k2, _, _, _, _⟩ := hT.out
           refine bodyPost_ret (v := .agg #[.slice (some ⟨g3, 0, none⟩) n c3, .int .i64 p.step, .slice (some b1) 0 0]) ?_ rfl ⟨_, rfl, ⟨_, _, _, _, _, _, rfl, (hO.out).down (by omega), .inr ⟨hpw, _, rfl⟩, ⟨fun e => absurd hpw e, fun _ => ⟨_, rfl⟩⟩, hwf⟩, hBl.out⟩
           (focus (simp [results, Tryd.results77, go_sem, k0, k1, k2]; done)))
        | (obtain ⟨k0, k1, k2, _, _, _, _⟩ := hT.out.alloc (.cells #[] 3)
           refine bodyPost_ret (v := .agg #[.slice (some ⟨g3, 0, none⟩) n c3, .int .i64 p.step, .slice (some b1) 0 0]) ?_ rfl ⟨_, rfl, ⟨_, _, _, _, _, _, rfl, ((hO.out).down (by omega)).alloc _, .inr ⟨hpw, _, rfl⟩, ⟨fun e => absurd hpw e, fun _ => ⟨_, rfl⟩⟩, hwf⟩, hBl.out.alloc hBl.out.size _⟩
           (focus (simp [results, Tryd.results77, go_sem, k0, k1, k2]; done)))
  · have hw1 : 0 < n' := by omega
    have hnb2 : n' ≤ 1048576000 := by omega
    go_enter Tryd.func77, Tryd.ntmps77
    go_wp2_with fail
    go_region_held3 (fun W => W.cell? ⟨w.heap.size, 0, none⟩ = some (.slice A n c) ∧ W.cell? ⟨w.heap.size, 1, none⟩ = some (.int .i64 p.step) ∧ W.cell? ⟨w.heap.size, 2, none⟩ = some (.slice A' n' c')) (first | exact ⟨a0, b0, d0⟩ | exact ⟨a3, b3, d3⟩ | exact ⟨a4, b4, d4⟩ | go_keep) (first | (refine (fun (hbW3 : Below ((w.alloc (.cells #[.slice A n c, .int .i64 p.step, .slice A' n' c'] 31)).alloc (.cells #[.slice none 0 0, .int .i64 0, .slice none 0 0] 31)).heap.size ((w.alloc (.cells #[.slice A n c, .int .i64 p.step, .slice A' n' c'] 31)).alloc (.cells #[.slice none 0 0, .int .i64 0, .slice none 0 0] 31)) _) => step_copy _ rfl _ _ 22 rfl i0 Tryd.underlying22 hi hz0 hz1 hz2 _ p.start rfl A n c _ rfl (hS.out _ hbW3) hn0 hnb ?_) ?_; rotate_left; (focus (repeat (first | assumption | exact Below.refl _ _ | refine Below.drew ?_ | refine below_empty ?_ _)); done); intro g3 c3 w3 he3 ho3 hg3; have hb3 := upB hbW3 (gB hg3); have hl3 := Nat.lt_of_lt_of_le hlt0.out hbW3.size; obtain ⟨a3, b3, d3, _⟩ := (ht.out.up hb3); obtain ⟨x3, y3, z3, xf3, yf3, zf3, _⟩ := (hz.out.up hb3)) | (refine (fun (hbW4 : Below ((w.alloc (.cells #[.slice A n c, .int .i64 p.step, .slice A' n' c'] 31)).alloc (.cells #[.slice none 0 0, .int .i64 0, .slice none 0 0] 31)).heap.size ((w.alloc (.cells #[.slice A n c, .int .i64 p.step, .slice A' n' c'] 31)).alloc (.cells #[.slice none 0 0, .int .i64 0, .slice none 0 0] 31)) _) => step_copy _ rfl _ _ 22 rfl i0 Tryd.underlying22 hi hz0 hz1 hz2 _ p.word rfl A' n' c' _ rfl (hW.out _ hbW4) hw1 hnb2 ?_) ?_; rotate_left; (focus (repeat (first | assumption | exact Below.refl _ _ | refine Below.drew ?_ | refine below_empty ?_ _)); done); intro g4 c4 w4 he4 ho4 hg4; have hb4 := upB hbW4 (gB hg4); have hl4 := Nat.lt_of_lt_of_le hlt0.out hbW4.size; obtain ⟨a4, b4, d4, _⟩ := (ht.out.up hb4); obtain ⟨x4, y4, z4, xf4, yf4, zf4, _⟩ := (hz.out.up hb4)))
    all_goals
      go_wp2_with fail
      first
        | (refine (fun (hk0 : Below w3.heap.size w3 _) => (fun (hkk : Below w3.heap.size w3 w4) => ?_) (upB hk0 (gB hg4))) ?_; rotate_left; (focus (repeat (first | exact Below.refl _ _ | refine Below.drew ?_ | refine below_empty ?_ _)); done);
           have hT := hide ((((hz.out.up hb4).set0 (.slice (some ⟨g3, 0, none⟩) n c3)).set1 (.int .i64 p.step)).set2 (.slice (some ⟨g4, 0, none⟩) n' c4));
           have hOa := hide ((((ho3.up hkk).setLow (a := ⟨w.heap.size + 1, 0, none⟩) hl3 (.slice (some ⟨g3, 0, none⟩) n c3)).setLow (a := ⟨w.heap.size + 1, 1, none⟩) hl3 (.int .i64 p.step)).setLow (a := ⟨w.heap.size + 1, 2, none⟩) hl3 (.slice (some ⟨g4, 0, none⟩) n' c4)); have hOb := hide (((ho4.setLow (a := ⟨w.heap.size + 1, 0, none⟩) hl4 (.slice (some ⟨g3, 0, none⟩) n c3)).setLow (a := ⟨w.heap.size + 1, 1, none⟩) hl4 (.int .i64 p.step)).setLow (a := ⟨w.heap.size + 1, 2, none⟩) hl4 (.slice (some ⟨g4, 0, none⟩) n' c4));
           have hne : g3 ≠ g4 := (by have u1 := (ho3.row.lt g3 rfl).2; have u2 := (ho4.row.lt g4 rfl).1; have u3 := hk0.size; omega);
           have hBl := hide ((((upB hq0.out hb4).setCell (p := ⟨w.heap.size + 1, 0, none⟩) (Nat.le_succ _) (.slice (some ⟨g3, 0, none⟩) n c3)).setCell (p := ⟨w.heap.size + 1, 1, none⟩) (Nat.le_succ _) (.int .i64 p.step)).setCell (p := ⟨w.heap.size + 1, 2, none⟩) (Nat.le_succ _) (.slice (some ⟨g4, 0, none⟩) n' c4));
           obtain ⟨k0, k1, k2, _, _, _, _⟩ := hT.out;
           refine bodyPost_ret (v := .agg #[.slice (some ⟨g3, 0, none⟩) n c3, .int .i64 p.step, .slice (some ⟨g4, 0, none⟩) n' c4]) ?_ rfl ⟨_, rfl, ⟨_, _, _, _, _, _, rfl, ((hOa.out).down (by omega)), .inl ((hOb.out).down (by omega)), ⟨fun _ e => hne (by simpa [Value.ownBlock] using e), fun e => by rw [e] at hl2; simp at hl2; omega⟩, hwf⟩, hBl.out⟩;
           (focus (simp [results, Tryd.results77, go_sem, k0, k1, k2]; done)))
        | (refine (fun (hk0 : Below w4.heap.size w4 _) => (fun (hkk : Below w4.heap.size w4 w3) => ?_) (upB hk0 (gB hg3))) ?_; rotate_left; (focus (repeat (first | exact Below.refl _ _ | refine Below.drew ?_ | refine below_empty ?_ _)); done);
           have hT := hide ((((hz.out.up hb3).set0 (.slice (some ⟨g3, 0, none⟩) n c3)).set1 (.int .i64 p.step)).set2 (.slice (some ⟨g4, 0, none⟩) n' c4));
           have hOa := hide ((((ho4.up hkk).setLow (a := ⟨w.heap.size + 1, 0, none⟩) hl4 (.slice (some ⟨g3, 0, none⟩) n c3)).setLow (a := ⟨w.heap.size + 1, 1, none⟩) hl4 (.int .i64 p.step)).setLow (a := ⟨w.heap.size + 1, 2, none⟩) hl4 (.slice (some ⟨g4, 0, none⟩) n' c4)); have hOb := hide (((ho3.setLow (a := ⟨w.heap.size + 1, 0, none⟩) hl3 (.slice (some ⟨g3, 0, none⟩) n c3)).setLow (a := ⟨w.heap.size + 1, 1, none⟩) hl3 (.int .i64 p.step)).setLow (a := ⟨w.heap.size + 1, 2, none⟩) hl3 (.slice (some ⟨g4, 0, none⟩) n' c4));
           have hne : g3 ≠ g4 := (by have u1 := (ho4.row.lt g4 rfl).2; have u2 := (ho3.row.lt g3 rfl).1; have u3 := hk0.size; omega);
           have hBl := hide ((((upB hq0.out hb3).setCell (p := ⟨w.heap.size + 1, 0, none⟩) (Nat.le_succ _) (.slice (some ⟨g3, 0, none⟩) n c3)).setCell (p := ⟨w.heap.size + 1, 1, none⟩) (Nat.le_succ _) (.int .i64 p.step)).setCell (p := ⟨w.heap.size + 1, 2, none⟩) (Nat.le_succ _) (.slice (some ⟨g4, 0, none⟩) n' c4));
           obtain ⟨k0, k1, k2, _, _, _, _⟩ := hT.out;
           refine bodyPost_ret (v := .agg #[.slice (some ⟨g3, 0, none⟩) n c3, .int .i64 p.step, .slice (some ⟨g4, 0, none⟩) n' c4]) ?_ rfl ⟨_, rfl, ⟨_, _, _, _, _, _, rfl, ((hOb.out).down (by omega)), .inl ((hOa.out).down (by omega)), ⟨fun _ e => hne (by simpa [Value.ownBlock] using e), fun e => by rw [e] at hl2; simp at hl2; omega⟩, hwf⟩, hBl.out⟩;
           (focus (simp [results, Tryd.results77, go_sem, k0, k1, k2]; done)))
end Go.Proofs.YtoafpokcbbncfaaDoor

namespace Go.Proofs.YtoafpokcbbncfaaDoor
open Go.RowKit
set_option linter.unusedVariables false

theorem OwnZ.ints {w : World} {base n c : Nat} {A : Option Addr} {zs : List Int} (h : OwnZ w base (.slice A n c) zs) : Ints w w.heap.size A n c zs := by
  rcases h with h | ⟨rfl, b0, e⟩
  · exact h.ints
  · injection e with e1 e2 e3
    subst e1; subst e2; subst e3
    exact ⟨rfl, Nat.le_refl _, Nat.zero_le _, fun h => absurd h (by omega), (fun _ h => by cases h), fun e => by cases e⟩
theorem OwnZ.setLow {w : World} {base : Nat} {v : Value} {zs : List Int} (h : OwnZ w base v zs) {a : Addr} (ha : a.block < base) (u : Value) : OwnZ (w.setCell a u) base v zs := by
  rcases h with h | h
  · exact .inl (h.setLow ha u)
  · exact .inr h
theorem PlZ.plM {w : World} {base : Nat} {v : Value} {p : Plc} (h : PlZ w base v p) : PlM w w.heap.size v p := by
  obtain ⟨A, n, c, A', n', c', rfl, h1, h2, _, h3⟩ := h.ex
  exact plM_mk h1.ints h2.ints h3
def newDsk (p : Plc) : Dsk := if placeOk p then ⟨p, []⟩ else noDsk
end Go.Proofs.YtoafpokcbbncfaaDoor

namespace Go.Proofs.YtoafpokcbbncfaaDoor
open Go.RowKit
set_option linter.unusedVariables false

/-- A row of places never shares its block with a slice of ints. -/
theorem own_neP {w : World} {b b' n : Nat} {v u : Value} {xs : List Value} {l : List Int} (h : w.ownsRow b 31 3 v n xs) (k : Own w b' u l) : u.ownBlock = none ∨ u.ownBlock ≠ v.ownBlock := by
  rcases k.row.2 with ⟨rfl, _⟩ | ⟨g, cap, cur, rfl, _, hg, _⟩
  · exact .inl rfl
  · refine .inr fun e => ?_
    rcases h.2 with ⟨rfl, _⟩ | ⟨g', cap', cur', rfl, _, hg', _⟩
    · simp [Value.ownBlock] at e
    · simp [Value.ownBlock] at e
      subst e
      rw [hg] at hg'
      simp at hg'
section
variable {w w' : World} {base base' n c : Nat} {v u : Value} {A : Option Addr} {p : Plc} {ps : List Plc} {zs : List Int}
theorem OwnZ.kept {row : Option Nat} (h : OwnZ w base v zs) (hg : w.grownBy w' row) (hne : ∀ l, Own w base v l → v.ownBlock = none ∨ v.ownBlock ≠ row) : OwnZ w' base v zs := by
  rcases h with h | h
  · exact .inl (h.kept hg (hne _ h))
  · exact .inr h
theorem OwnZ.up (h : OwnZ w base v zs) (hq : Below w.heap.size w w') : OwnZ w' base v zs := by
  rcases h with h | h
  · exact .inl (h.up hq)
  · exact .inr h
theorem OwnZ.down (h : OwnZ w base v zs) (hb : base' ≤ base) : OwnZ w base' v zs := by
  rcases h with h | h
  · exact .inl (h.down hb)
  · exact .inr h
theorem PlZ.up (h : PlZ w base v p) (hq : Below w.heap.size w w') : PlZ w' base v p := by
  obtain ⟨A, n, c, A', n', c', e, h1, h2, h3, h4⟩ := h.ex
  exact ⟨A, n, c, A', n', c', e, h1.up hq, h2.up hq, h3, h4⟩
theorem PlZ.down (h : PlZ w base v p) (hb : base' ≤ base) : PlZ w base' v p := by
  obtain ⟨A, n, c, A', n', c', e, h1, h2, h3, h4⟩ := h.ex
  exact ⟨A, n, c, A', n', c', e, h1.down hb, h2.down hb, h3, h4⟩
theorem PlZ.setLow (h : PlZ w base v p) {a : Addr} (ha : a.block < base) (u : Value) : PlZ (w.setCell a u) base v p := by
  obtain ⟨A, n, c, A', n', c', e, h1, h2, h3, h4⟩ := h.ex
  exact ⟨A, n, c, A', n', c', e, h1.setLow ha u, h2.setLow ha u, h3, h4⟩
/-- Over a growth of a row of places the copies stay. -/
theorem PlZ.kept {b m : Nat} {r : Value} {xs : List Value} (h : PlZ w base v p) (hr : w.ownsRow b 31 3 r m xs) (hg : w.grownBy w' r.ownBlock) : PlZ w' base v p := by
  obtain ⟨A, n, c, A', n', c', e, h1, h2, h3, h4⟩ := h.ex
  exact ⟨A, n, c, A', n', c', e, h1.kept hg (own_neP hr h1), h2.kept hg (fun l hl => own_neP hr hl), h3, h4⟩
def cellsP (us : List Value) : List Value := us.flatMap fun u => u.cells.toList
theorem cellsP_append (a b : List Value) : cellsP (a ++ b) = cellsP a ++ cellsP b := by unfold cellsP; simp
/-- What the call itself made: the slice v owns just the places ps, each one a copy. -/
structure PsZ (w : World) (base : Nat) (v : Value) (ps : List Plc) : Prop where
  ex : ∃ us : List Value, us.length = ps.length ∧ w.ownsRow base 31 3 v ps.length (cellsP us) ∧ ∀ (j : Nat) u p, us[j]? = some u → ps[j]? = some p → PlZ w base u p
theorem PsZ.row (h : PsZ w base (.slice A n c) ps) : n = ps.length ∧ ∃ xs, w.ownsRow base 31 3 (.slice A n c) ps.length xs := by
  obtain ⟨us, h1, h2, h3⟩ := h.ex
  obtain ⟨A', c', e⟩ := row_slice h2
  injection e with e1 e2 e3
  exact ⟨e2, _, h2⟩
theorem PsZ.up (h : PsZ w base v ps) (hq : Below w.heap.size w w') : PsZ w' base v ps := by
  obtain ⟨us, h1, h2, h3⟩ := h.ex
  exact ⟨us, h1, h2.kept (row := none) ⟨hq.os, hq.tape, hq.output, hq.size, fun k hk _ => hq.block k hk⟩ (by cases v.ownBlock <;> simp), fun j u p hu hp => (h3 j u p hu hp).up hq⟩
theorem PsZ.setLow (h : PsZ w base v ps) {a : Addr} (ha : a.block < base) (x : Value) : PsZ (w.setCell a x) base v ps := by
  obtain ⟨us, h1, h2, h3⟩ := h.ex
  exact ⟨us, h1, ownsRow_setCell_below h2 ha x, fun j u p hu hp => (h3 j u p hu hp).setLow ha x⟩
theorem PsZ.none_ : PsZ w base (.slice none 0 0) [] := ⟨[], rfl, World.ownsRow_nil _ _ _ _, fun _ _ _ h => by simp at h⟩
/-- One place more behind the others. -/
theorem PsZ.push {c' : Nat} {A' : Option Addr} {us : List Value} (h1 : us.length = ps.length) (h2 : w.ownsRow base 31 3 v ps.length (cellsP us)) (h3 : ∀ (j : Nat) u p, us[j]? = some u → ps[j]? = some p → PlZ w base u p)
    (hu : PlZ w base u p) (hr : w'.ownsRow base 31 3 (.slice A' (ps.length + 1) c') (ps.length + 1) (cellsP us ++ u.cells.toList)) (hg : w.grownBy w' v.ownBlock) : PsZ w' base (.slice A' (ps.length + 1) c') (ps ++ [p]) := by
  refine ⟨us ++ [u], by simp [h1], ?_, fun j x q hx hq => ?_⟩
  · rw [List.length_append, cellsP_append]
    have : cellsP [u] = u.cells.toList := by unfold cellsP; simp
    rw [this]
    exact hr
  · rcases Nat.lt_or_ge j us.length with hj | hj
    · rw [List.getElem?_append_left hj] at hx
      rw [List.getElem?_append_left (by omega)] at hq
      exact (h3 j x q hx hq).kept h2 hg
    · have hj2 : j = us.length := by
        have := (List.getElem?_eq_some_iff.1 hx).1
        rw [List.length_append] at this
        simp at this
        omega
      subst hj2
      rw [List.getElem?_concat_length] at hx
      rw [h1, List.getElem?_concat_length] at hq
      injection hx with hx
      injection hq with hq
      subst hx; subst hq
      exact hu.kept h2 hg
theorem cellsP_at {us : List Value} (h : ∀ u ∈ us, u.cells.size = 3) {j : Nat} {x y z : Value} (hj : us[j]? = some (.agg #[x, y, z])) : (cellsP us)[j * 3]? = some x ∧ (cellsP us)[j * 3 + 1]? = some y ∧ (cellsP us)[j * 3 + 2]? = some z := by
  induction us generalizing j with
  | nil => simp at hj
  | cons a r ih =>
    have ha := h a List.mem_cons_self
    have hc : cellsP (a :: r) = a.cells.toList ++ cellsP r := by unfold cellsP; simp
    rw [hc]
    cases j with
    | zero =>
      simp at hj
      subst hj
      exact ⟨rfl, rfl, rfl⟩
    | succ j =>
      have hl : a.cells.toList.length = 3 := by rw [Array.length_toList]; exact ha
      have ih2 := ih (fun u hu => h u (List.mem_cons_of_mem _ hu)) (j := j) (by simpa using hj)
      have e : ∀ i, (a.cells.toList ++ cellsP r)[(j + 1) * 3 + i]? = (cellsP r)[j * 3 + i]? := fun i => by
        rw [List.getElem?_append_right (by rw [hl]; omega), hl]
        congr 1
        omega
      refine ⟨(e 0).trans ih2.1, (e 1).trans ih2.2.1, (e 2).trans ih2.2.2⟩
theorem PsZ.psM (h : PsZ w base (.slice A n c) ps) : PsM w w.heap.size A n c ps := by
  obtain ⟨us, h1, h2, h3⟩ := h.ex
  have h3e : ∀ u ∈ us, u.cells.size = 3 := by
    intro u hu
    obtain ⟨j, hj, rfl⟩ := List.getElem_of_mem hu
    obtain ⟨A1, n1, c1, A2, n2, c2, e, _⟩ := (h3 j _ _ (List.getElem?_eq_getElem hj) (List.getElem?_eq_getElem (by omega))).ex
    rw [e]; rfl
  rcases row_shape h2 with ⟨hv, h0⟩ | ⟨g, cap, hv, hg, hh, hn, hm⟩
  · injection hv with e1 e2 e3
    subst e1; subst e2; subst e3
    obtain rfl := List.eq_nil_of_length_eq_zero h0
    exact PsM.nil
  · injection hv with e1 e2 e3
    subst e1; subst e2; subst e3
    refine ⟨rfl, hn, hm, fun hp => ⟨g, 0, rfl, hh, fun j p hp => ?_⟩, fun e => by cases e⟩
    have hj : j < ps.length := (List.getElem?_eq_some_iff.1 hp).1
    obtain ⟨A1, n1, c1, A2, n2, c2, e, i1, i2, _, hwf⟩ := (h3 j _ p (List.getElem?_eq_getElem (by omega)) hp).ex
    have hat := cellsP_at h3e (j := j) (x := .slice A1 n1 c1) (y := .int .i64 p.step) (z := .slice A2 n2 c2) (by rw [List.getElem?_eq_getElem (by omega), e])
    have hlen := h2.1
    refine ⟨A1, n1, c1, A2, n2, c2, ?_, ?_, ?_, i1.ints, i2.ints, hwf⟩
    · rw [Nat.zero_add, h2.cellAt _ (by omega)]; exact hat.1
    · rw [Nat.zero_add, h2.cellAt _ (by omega)]; exact hat.2.1
    · rw [Nat.zero_add, h2.cellAt _ (by omega)]; exact hat.2.2
theorem infoPlace : (Tryd.prog.info? 31).map (fun i => (i.zero, i.size, i.bytes)) = some (some (.agg #[.slice none 0 0, .int .i64 0, .slice none 0 0]), 3, 56) := by kernel_rfl
end
end Go.Proofs.YtoafpokcbbncfaaDoor

namespace Go.Proofs.YtoafpokcbbncfaaDoor
open Go.RowKit
set_option linter.unusedVariables false

theorem PsZ.pushM {w w' : World} {base m c' : Nat} {v u : Value} {A' : Option Addr} {us : List Value} {ps : List Plc} {p : Plc} (hm : m = ps.length) (h1 : us.length = ps.length) (h2 : w.ownsRow base 31 3 v m (cellsP us)) (h3 : ∀ (j : Nat) u p, us[j]? = some u → ps[j]? = some p → PlZ w base u p)
    (hu : PlZ w base u p) (hr : w'.ownsRow base 31 3 (.slice A' (m + 1) c') (m + 1) (cellsP us ++ u.cells.toList)) (hg : w.grownBy w' v.ownBlock) : PsZ w' base (.slice A' (m + 1) c') (ps ++ [p]) := by
  subst hm
  exact PsZ.push h1 h2 h3 hu hr hg
theorem PsZ.down {w : World} {base base' : Nat} {v : Value} {ps : List Plc} (h : PsZ w base v ps) (hb : base' ≤ base) : PsZ w base' v ps := by
  obtain ⟨us, h1, h2, h3⟩ := h.ex
  exact ⟨us, h1, ownsRow_down h2 hb, fun j u p hu hp => (h3 j u p hu hp).down hb⟩
theorem PlZ.drew {w : World} {base : Nat} {v : Value} {p : Plc} (h : PlZ w base v p) : PlZ w.drew base v p := h.up (Below.refl _ _).drew
theorem PlZ.alloc {w : World} {base : Nat} {v : Value} {p : Plc} (h : PlZ w base v p) (o : Obj) : PlZ (w.alloc o) base v p := h.up (al w o)
theorem drewRow {w : World} {b m : Nat} {e : TypeId} {sz : Nat} {v : Value} {xs : List Value} (h : w.ownsRow b e sz v m xs) : w.drew.ownsRow b e sz v m xs := h
set_option maxRecDepth 100000 in
set_option maxHeartbeats 6400000 in
theorem l15Copy_c (v : Value) (d : Dsk) (B : Nat) (w : World) (h : DkM w B v d) (hB : B ≤ w.heap.size) (hok : deskOk d = true) :
    Calls Tryd.prog 39 #[v] w fun e w' => ∃ A n c A' n' c' A3 n3 c3, e = .returned (.agg #[.slice A n c, .int .i64 d.now.step, .slice A' n' c', .slice A3 n3 c3]) ∧ PlZ w' w.heap.size (.agg #[.slice A n c, .int .i64 d.now.step, .slice A' n' c']) d.now ∧ PsZ w' w.heap.size (.slice A3 n3 c3) d.past ∧ Below w.heap.size w w' := by
  obtain ⟨i0, hi, hz0, hz1, hz2⟩ := info_parts infoPlace
  obtain ⟨A, n, c, A', n', c', A3, n3, c3, rfl, h1, h2, hwf, hps⟩ := h.ex
  obtain ⟨hpast, hnow, h8⟩ := deskOk_yes hok
  have hl3 := hps.len
  have hn8 : n3 ≤ 8 := by omega
  have hl3 := hide hl3
  have hq0 := hide (show Below w.heap.size w ((w.alloc (.cells #[.slice A n c, .int .i64 d.now.step, .slice A' n' c', .slice A3 n3 c3] 34)).alloc (.cells #[.slice none 0 0, .int .i64 0, .slice none 0 0, .slice none 0 0] 34)) from (al w _).alloc (by simp) _)
  have ht := hide (show Qua ((w.alloc (.cells #[.slice A n c, .int .i64 d.now.step, .slice A' n' c', .slice A3 n3 c3] 34)).alloc (.cells #[.slice none 0 0, .int .i64 0, .slice none 0 0, .slice none 0 0] 34)) w.heap.size (.slice A n c) (.int .i64 d.now.step) (.slice A' n' c') (.slice A3 n3 c3) from (Qua.made w _ _ _ _ _).up (al _ _))
  have hz9 := hide (show QuaW ((w.alloc (.cells #[.slice A n c, .int .i64 d.now.step, .slice A' n' c', .slice A3 n3 c3] 34)).alloc (.cells #[.slice none 0 0, .int .i64 0, .slice none 0 0, .slice none 0 0] 34)) (w.heap.size + 1) (.slice none 0 0) (.int .i64 0) (.slice none 0 0) (.slice none 0 0) from by have := QuaW.made (w.alloc (.cells #[.slice A n c, .int .i64 d.now.step, .slice A' n' c', .slice A3 n3 c3] 34)) (.slice none 0 0) (.int .i64 0) (.slice none 0 0) (.slice none 0 0) 34; simpa using this)
  obtain ⟨⟨g1, g3⟩, _, _, g6, _⟩ := placeOk_yes hnow
  obtain ⟨WX, hWe⟩ : ∃ WX, Hid (((w.alloc (.cells #[.slice A n c, .int .i64 d.now.step, .slice A' n' c', .slice A3 n3 c3] 34)).alloc (.cells #[.slice none 0 0, .int .i64 0, .slice none 0 0, .slice none 0 0] 34)) = WX) := ⟨_, hide rfl⟩
  rw [hWe.out] at hq0 ht hz9
  have HN := hide (l15Place_c _ d.now _ WX (plM_mk ((h1.more hB).up hq0.out) ((h2.more hB).up hq0.out) hwf) (Nat.le_refl _) g1 (by omega) (by omega))
  have hpX := hide ((hps.more hB).up hq0.out)
  obtain ⟨q0, q1, q2, q3, _⟩ := ht.out
  have hpast := hide hpast
  clear hok hnow g1 g3 g6 h8
  have hW1 := hWe.out
  subst hW1
  go_enter Tryd.func39, Tryd.ntmps39
  go_wp2_with fail
  refine HN.out.mono ?_
  rintro e w1 ⟨u, rfl, hp1, hq1⟩
  have hp1 := hide hp1
  obtain ⟨A4, n4, c4, A5, n5, c5, rfl, _⟩ := hp1.out.ex
  have ht1 := hide (ht.out.up hq1)
  have hz91 := hide (hz9.out.up hq1)
  have hb1 := hide (upB hq0.out hq1)
  have hpX1 := hide (hpX.out.up hq1)
  have hlw := hz91.out.lt
  clear hq1 HN q0 q1 q2 q3
  go_wp2_with fail
  have hzs := hide (QuaW.made w1 (.slice A4 n4 c4) (.int .i64 d.now.step) (.slice A5 n5 c5) (.slice none 0 0) 34)
  have hbs := hide (al w1 (.cells #[.slice A4 n4 c4, .int .i64 d.now.step, .slice A5 n5 c5, .slice none 0 0] 34))
  go_loopw [4] (fun i wr => ∃ k : Nat, ∃ Ap mp cp, k ≤ n3 ∧ i = .int .i64 k ∧ Hid (PsZ wr (w1.heap.size + 1) (.slice Ap mp cp) (d.past.take k)) ∧ Hid (QuaW wr w1.heap.size (.slice A4 n4 c4) (.int .i64 d.now.step) (.slice A5 n5 c5) (.slice Ap mp cp)) ∧ Hid (Below w1.heap.size w1 wr)) (fun i _ => n3 - (intOf i).toNat)
  case atStart => exact ⟨0, none, 0, 0, Nat.zero_le _, rfl, hide PsZ.none_, hzs, hbs⟩
  case round =>
    clear hzs hbs
    obtain ⟨k, Ap, mp, cp, hk, rfl, hP, hz, hb⟩ := hrel
    have hzlt := hz.out.lt
    obtain ⟨z0, z1, z2, z3, y0, y1, y2, y3, _⟩ := hz.out
    obtain ⟨t0, t1, t2, t3, _⟩ := ht1.out.up hb.out
    by_cases hlt : k < n3
    · obtain ⟨b, off, p, rfl, hbB, hx, hc⟩ := (hpX1.out.below hb.out).look hlt
      obtain ⟨B1, m1, k1, B2, m2, k2, e1, e2, e3, hm⟩ := hc.plM
      obtain ⟨⟨p1, p3⟩, _, _, p6, _⟩ := placeOk_yes (hpast.out p (List.mem_of_getElem? hx.out))
      obtain ⟨us, hus, hrow0, hall⟩ := hP.out.ex
      have hmp := hide hP.out.row.1
      have hmk : mp ≤ 8 := by have := hmp.out; rw [List.length_take] at this; omega
      have hrow := hide (show wr.ownsRow (w1.heap.size + 1) 31 3 (.slice Ap mp cp) mp (cellsP us) by rw [← hmp.out] at hrow0; exact hrow0)
      have hus := hide hus
      have hall := hide hall
      clear hrow0 hc
      have HC := hide (fun (W : World) (hq : Below wr.heap.size wr W) => show Calls Tryd.prog 77 #[.agg #[.slice B1 m1 k1, .int .i64 p.step, .slice B2 m2 k2]] W (fun e w' => ∃ A7 n7 c7 A8 n8 c8, e = .returned (.agg #[.slice A7 n7 c7, .int .i64 p.step, .slice A8 n8 c8]) ∧ Hid (PlZ w' wr.heap.size (.agg #[.slice A7 n7 c7, .int .i64 p.step, .slice A8 n8 c8]) p) ∧ Below wr.heap.size wr w' ∧ w'.cell? ⟨w.heap.size, 3, none⟩ = some (.slice (some ⟨b, off, none⟩) n3 c3) ∧ w'.cell? ⟨b, off + k * 3, none⟩ = some (.slice B1 m1 k1) ∧ w'.cell? ⟨b, off + k * 3 + 1, none⟩ = some (.int .i64 p.step) ∧ w'.cell? ⟨b, off + k * 3 + 2, none⟩ = some (.slice B2 m2 k2)) from
        (l15Place_c _ p _ W ((hm.more (Nat.le_of_lt hzlt)).up hq) (Nat.le_refl _) p1 (by omega) (by omega)).mono fun e w' ⟨u, e0, hp0, hq0⟩ => by
          obtain ⟨A7, n7, c7, A8, n8, c8, e5, _⟩ := hp0.ex
          subst e5
          have hqq := upB hq hq0
          exact ⟨A7, n7, c7, A8, n8, c8, e0, hide (hp0.down hq.size), hqq, (hqq.cell (p := ⟨w.heap.size, 3, none⟩) (show w.heap.size < wr.heap.size by omega)).trans t3, (hqq.cell (p := ⟨b, off + k * 3, none⟩) (Nat.lt_trans hbB hzlt)).trans e1, (hqq.cell (p := ⟨b, off + k * 3 + 1, none⟩) (Nat.lt_trans hbB hzlt)).trans e2, (hqq.cell (p := ⟨b, off + k * 3 + 2, none⟩) (Nat.lt_trans hbB hzlt)).trans e3⟩)
      go_wp2_with fail
      go_region_law (first | (refine step_push _ rfl _ _ 32 rfl (w1.heap.size + 1) 31 i0 (.agg #[.slice none 0 0, .int .i64 0, .slice none 0 0]) 3 56 Tryd.underlying32 hi hz0 hz1 hz2 rfl (by decide) (by decide) (.slice Ap mp cp) mp _ rfl hr3.out _ 1 [.slice A7 n7 c7, .int .i64 p.step, .slice A8 n8 c8] rfl rfl (fun j u hu => hlc.out j u hu) (by intro u hu; simp at hu; rcases hu with rfl | rfl | rfl <;> rfl) (by omega) (by simp; omega) ?_; intro A9 c9 w4 hr4 hg4; have hz4 := hide (QuaW.grown hz3.out hg4 (fun q hq => by have := (hrow.out.lt q hq).1; omega)); obtain ⟨x0, x1, x2, x3, y0, y1, y2, y3, _⟩ := hz4.out; have hb4 := hide (Below.grown hb3.out hg4 (by simp; omega) (fun q hq => (hrow.out.lt q hq).1)); have v1 := (hb4.out.cell (p := ⟨w.heap.size, 3, none⟩) (show w.heap.size < w1.heap.size + 1 by omega)).trans t3; have hb5 := hide ((hb4.out.mono (Nat.le_succ w1.heap.size)).setCell (p := ⟨w1.heap.size, 3, none⟩) (Nat.le_refl _) (.slice A9 (mp + 1) c9))) | (refine step_push _ rfl _ _ 32 rfl (w1.heap.size + 1) 31 i0 (.agg #[.slice none 0 0, .int .i64 0, .slice none 0 0]) 3 56 Tryd.underlying32 hi hz0 hz1 hz2 rfl (by decide) (by decide) (.slice Ap mp cp) mp _ rfl (drewRow hr3.out) _ 1 [.slice A7 n7 c7, .int .i64 p.step, .slice A8 n8 c8] rfl rfl (fun j u hu => hlc.out j u hu) (by intro u hu; simp at hu; rcases hu with rfl | rfl | rfl <;> rfl) (by omega) (by simp; omega) ?_; intro A9 c9 w4 hr4 hg4; have hz4 := hide (QuaW.grown hz3.out.drew hg4 (fun q hq => by have := (hrow.out.lt q hq).1; omega)); obtain ⟨x0, x1, x2, x3, y0, y1, y2, y3, _⟩ := hz4.out; have hb4 := hide (Below.grown hb3.out.drew hg4 (by simp; omega) (fun q hq => (hrow.out.lt q hq).1)); have v1 := (hb4.out.cell (p := ⟨w.heap.size, 3, none⟩) (show w.heap.size < w1.heap.size + 1 by omega)).trans t3; have hb5 := hide ((hb4.out.mono (Nat.le_succ w1.heap.size)).setCell (p := ⟨w1.heap.size, 3, none⟩) (Nat.le_refl _) (.slice A9 (mp + 1) c9))) | (refine step_push _ rfl _ _ 32 rfl (w1.heap.size + 1) 31 i0 (.agg #[.slice none 0 0, .int .i64 0, .slice none 0 0]) 3 56 Tryd.underlying32 hi hz0 hz1 hz2 rfl (by decide) (by decide) (.slice Ap mp cp) mp _ rfl (drewRow (drewRow hr3.out)) _ 1 [.slice A7 n7 c7, .int .i64 p.step, .slice A8 n8 c8] rfl rfl (fun j u hu => hlc.out j u hu) (by intro u hu; simp at hu; rcases hu with rfl | rfl | rfl <;> rfl) (by omega) (by simp; omega) ?_; intro A9 c9 w4 hr4 hg4; have hz4 := hide (QuaW.grown hz3.out.drew.drew hg4 (fun q hq => by have := (hrow.out.lt q hq).1; omega)); obtain ⟨x0, x1, x2, x3, y0, y1, y2, y3, _⟩ := hz4.out; have hb4 := hide (Below.grown hb3.out.drew.drew hg4 (by simp; omega) (fun q hq => (hrow.out.lt q hq).1)); have v1 := (hb4.out.cell (p := ⟨w.heap.size, 3, none⟩) (show w.heap.size < w1.heap.size + 1 by omega)).trans t3; have hb5 := hide ((hb4.out.mono (Nat.le_succ w1.heap.size)).setCell (p := ⟨w1.heap.size, 3, none⟩) (Nat.le_refl _) (.slice A9 (mp + 1) c9))) | (go_simp; go_at_call 77; (with_reducible refine (HC.out _ ?_).mono ?_); (focus (repeat (first | assumption | exact Below.refl _ _ | refine Below.drew ?_)); done); rintro e w2 ⟨A7, n7, c7, A8, n8, c8, rfl, hp2, hq2, s1, s2, s3, s4⟩; have hq2s := hq2.size; have s5 : w2.cell? ⟨w1.heap.size, 3, none⟩ = some (.slice Ap mp cp) := (hz.out.up hq2).c3; have s6 : ∀ o, (w2.alloc o).cell? ⟨w1.heap.size, 3, none⟩ = some (.slice Ap mp cp) := fun o => (World.cell?_alloc_lt w2 o ⟨w1.heap.size, 3, none⟩ (Nat.lt_of_lt_of_le hzlt hq2s)).trans s5; have hr2 := hide (hrow.out.kept (row := none) ⟨hq2.os, hq2.tape, hq2.output, hq2.size, fun k hk _ => hq2.block k hk⟩ (by cases (Value.slice Ap mp cp).ownBlock <;> simp)); have hlc := hide (show ∀ j u, ([.slice A7 n7 c7, .int .i64 p.step, .slice A8 n8 c8] : List Value)[j]? = some u → (w2.alloc (.cells #[.slice A7 n7 c7, .int .i64 p.step, .slice A8 n8 c8] 31)).cell? ⟨w2.heap.size, j, none⟩ = some u from lit_cellsAt w2 [.slice A7 n7 c7, .int .i64 p.step, .slice A8 n8 c8] _ _ rfl); have hr3 := hide (hr2.out.alloc (.cells #[.slice A7 n7 c7, .int .i64 p.step, .slice A8 n8 c8] 31)); have hz3 := hide ((hz.out.up hq2).alloc (.cells #[.slice A7 n7 c7, .int .i64 p.step, .slice A8 n8 c8] 31)); have hb3 := hide ((hq2.mono (Nat.succ_le_of_lt hzlt)).alloc (by omega) (.cells #[.slice A7 n7 c7, .int .i64 p.step, .slice A8 n8 c8] 31))))
      all_goals
        have hnx := hide (show d.past.take (k + 1) = d.past.take k ++ [p] by rw [List.take_add_one, hx.out]; rfl)
        have hP4 := hide (PsZ.pushM hmp.out hus.out (by first | exact hr3.out | exact drewRow hr3.out | exact drewRow (drewRow hr3.out)) (fun j u q hu hq => by first | exact ((hall.out j u q hu hq).up hq2).alloc _ | exact (((hall.out j u q hu hq).up hq2).alloc _).drew | exact (((hall.out j u q hu hq).up hq2).alloc _).drew.drew) (by first | exact (hp2.out.down (Nat.succ_le_of_lt hzlt)).alloc _ | exact ((hp2.out.down (Nat.succ_le_of_lt hzlt)).alloc _).drew | exact ((hp2.out.down (Nat.succ_le_of_lt hzlt)).alloc _).drew.drew) hr4 hg4)
        rw [← hnx.out] at hP4
        have hP5 := hide (hP4.out.setLow (a := ⟨w1.heap.size, 3, none⟩) (Nat.lt_succ_self _) (.slice A9 (mp + 1) c9))
        have hz5 := hide (hz4.out.set3 (.slice A9 (mp + 1) c9))
        have hb6 := hide (hb.out.trans hb5.out)
        clear hP4 hr4 hg4 hz4 hb4 hb5 hp2 hr2 hr3 hlc hz3 hb3 hall hP hz hb
        go_wp2_with fail
        go_roundw
        case rel => exact ⟨k + 1, _, _, _, by omega, by go_num, hP5, hz5, hb6⟩
        case measure => simp [intOf]; omega
    · obtain rfl : k = n3 := by omega
      have hall := hide (show d.past.take k = d.past from List.take_of_length_le (by have := hl3.out; omega))
      have hP2 := hide hP.out
      rw [hall.out] at hP2
      have hz8 := hide (hz91.out.up hb.out)
      obtain ⟨u0, u1, u2, u3, f0, f1, f2, f3, _⟩ := hz8.out
      have hT := hide ((((hz8.out.set0 (.slice A4 n4 c4)).set1 (.int .i64 d.now.step)).set2 (.slice A5 n5 c5)).set3 (.slice Ap mp cp))
      have hl9 : w.heap.size + 1 < w.heap.size + 2 := Nat.lt_succ_self _
      have hPl := hide (((((hp1.out.down (Nat.le_refl _)).up hb.out).setLow (a := ⟨w.heap.size + 1, 0, none⟩) (by simp) (.slice A4 n4 c4)).setLow (a := ⟨w.heap.size + 1, 1, none⟩) (by simp) (.int .i64 d.now.step)).setLow (a := ⟨w.heap.size + 1, 2, none⟩) (by simp) (.slice A5 n5 c5) |>.setLow (a := ⟨w.heap.size + 1, 3, none⟩) (by simp) (.slice Ap mp cp))
      have hPs := hide ((((hP2.out.setLow (a := ⟨w.heap.size + 1, 0, none⟩) (Nat.lt_succ_of_lt hlw) (.slice A4 n4 c4)).setLow (a := ⟨w.heap.size + 1, 1, none⟩) (Nat.lt_succ_of_lt hlw) (.int .i64 d.now.step)).setLow (a := ⟨w.heap.size + 1, 2, none⟩) (Nat.lt_succ_of_lt hlw) (.slice A5 n5 c5)).setLow (a := ⟨w.heap.size + 1, 3, none⟩) (Nat.lt_succ_of_lt hlw) (.slice Ap mp cp))
      have hBl := hide (((((upB hb1.out hb.out).setCell (p := ⟨w.heap.size + 1, 0, none⟩) (Nat.le_succ _) (.slice A4 n4 c4)).setCell (p := ⟨w.heap.size + 1, 1, none⟩) (Nat.le_succ _) (.int .i64 d.now.step)).setCell (p := ⟨w.heap.size + 1, 2, none⟩) (Nat.le_succ _) (.slice A5 n5 c5)).setCell (p := ⟨w.heap.size + 1, 3, none⟩) (Nat.le_succ _) (.slice Ap mp cp))
      go_wp2_with fail
      obtain ⟨k0, k1', k2', k3, _⟩ := hT.out
      exact bodyPost_ret (v := .agg #[.slice A4 n4 c4, .int .i64 d.now.step, .slice A5 n5 c5, .slice Ap mp cp]) (by simp [results, Tryd.results39, go_sem, k0, k1', k2', k3]) rfl ⟨_, _, _, _, _, _, _, _, _, rfl, hPl.out.down (by simp; omega), hPs.out.down (by omega), hBl.out⟩
end Go.Proofs.YtoafpokcbbncfaaDoor
