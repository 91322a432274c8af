/-
  Words, plain lemmas and contracts that belong together, joined into one file.
-/
import Derived.Test.YtoafpokcbbncfaaPlaceS
import Derived.Test.YtoafpokcbbncfaaZpd
import Derived.Test.YtoafpokcbbncfaaCopy
import Derived.Test.YtoafpokcbbncfaaZpb
import Derived.Deep.RegionHeld3
import Derived.Deep.AppendLies
import Derived.Test.YtoafpokcbbncfaaZtx
namespace Go.Proofs.Ytoafpokcbbncfaa
open Go.RowKit
set_option linter.unusedVariables false

theorem gB {w w' : World} (hg : w.grownBy w' none) : Below w.heap.size w w' := ⟨hg.os, hg.tape, hg.output, hg.size, fun k hk => hg.block k hk (by simp)⟩
theorem TriW.tri {w : World} {g : Nat} {x y z : Value} (h : TriW w g x y z) : Tri w g x y z := ⟨h.c0, h.c1, h.c2, h.lt⟩
/-- What l15Place hands back. -/
structure PlZ (w : World) (base : Nat) (v : Value) (p : Plc) : Prop where
  ex : ∃ A n c A' n' c', v = .agg #[.slice A n c, .int .i64 p.step, .slice A' n' c'] ∧ Own w base (.slice A n c) p.start ∧ OwnZ w base (.slice A' n' c') p.word ∧ ((p.word ≠ [] → (Value.slice A n c).ownBlock ≠ (Value.slice A' n' c').ownBlock) ∧ (p.word = [] → ∃ b0, Value.slice A' n' c' = .slice (some b0) 0 0)) ∧ (Lit.int .i64 p.step).wf = true

set_option maxRecDepth 100000 in
set_option maxHeartbeats 6400000 in
theorem l15Place_c (v : Value) (p : Plc) (B : Nat) (w : World) (h : PlM w B v p) (hB : B ≤ w.heap.size) (h0 : 1 ≤ p.start.length) (h1 : p.start.length ≤ 1000) (h2 : p.word.length ≤ 1000) :
    Calls Try.prog 15 #[v] w fun e w' => ∃ u, e = .returned u ∧ PlZ w' w.heap.size u p ∧ Below w.heap.size w w' := by
  obtain ⟨i0, hi, hz0, hz1, hz2⟩ := info_parts infoInt
  obtain ⟨A, n, c, A', n', c', rfl, i1, i2, hwf⟩ := h.ex
  have hl1 := i1.len
  have hl2 := i2.len
  have hq0 := hide (show Below w.heap.size w ((w.alloc (.cells #[.slice A n c, .int .i64 p.step, .slice A' n' c'] 26)).alloc (.cells #[.slice none 0 0, .int .i64 0, .slice none 0 0] 26)) from (al w _).alloc (by simp) _)
  have hS := hide (fun (W : World) (hq : Below ((w.alloc (.cells #[.slice A n c, .int .i64 p.step, .slice A' n' c'] 26)).alloc (.cells #[.slice none 0 0, .int .i64 0, .slice none 0 0] 26)).heap.size ((w.alloc (.cells #[.slice A n c, .int .i64 p.step, .slice A' n' c'] 26)).alloc (.cells #[.slice none 0 0, .int .i64 0, .slice none 0 0] 26)) W) => (i1.more hB).below (upB hq0.out hq))
  have hW := hide (fun (W : World) (hq : Below ((w.alloc (.cells #[.slice A n c, .int .i64 p.step, .slice A' n' c'] 26)).alloc (.cells #[.slice none 0 0, .int .i64 0, .slice none 0 0] 26)).heap.size ((w.alloc (.cells #[.slice A n c, .int .i64 p.step, .slice A' n' c'] 26)).alloc (.cells #[.slice none 0 0, .int .i64 0, .slice none 0 0] 26)) W) => (i2.more hB).below (upB hq0.out hq))
  have hn0 : 0 < n := by omega
  have hnb : n ≤ 1048576000 := by omega
  have ht := hide (show Tri ((w.alloc (.cells #[.slice A n c, .int .i64 p.step, .slice A' n' c'] 26)).alloc (.cells #[.slice none 0 0, .int .i64 0, .slice none 0 0] 26)) w.heap.size (.slice A n c) (.int .i64 p.step) (.slice A' n' c') from (Tri.made w _ _ _ _).up (al _ _))
  have hz := hide (show TriW ((w.alloc (.cells #[.slice A n c, .int .i64 p.step, .slice A' n' c'] 26)).alloc (.cells #[.slice none 0 0, .int .i64 0, .slice none 0 0] 26)) (w.heap.size + 1) (.slice none 0 0) (.int .i64 0) (.slice none 0 0) from by have := TriW.made (w.alloc (.cells #[.slice A n c, .int .i64 p.step, .slice A' n' c'] 26)) (.slice none 0 0) (.int .i64 0) (.slice none 0 0) 26; simpa using this)
  obtain ⟨a0, b0, d0, _⟩ := ht.out
  obtain ⟨x0, y0, z0, xf0, yf0, zf0, _⟩ := hz.out
  have hs0 : ((w.alloc (.cells #[.slice A n c, .int .i64 p.step, .slice A' n' c'] 26)).alloc (.cells #[.slice none 0 0, .int .i64 0, .slice none 0 0] 26)).heap.size = w.heap.size + 2 := by simp
  have hs0 := hide hs0
  have hlt0 := hide (show w.heap.size + 1 < ((w.alloc (.cells #[.slice A n c, .int .i64 p.step, .slice A' n' c'] 26)).alloc (.cells #[.slice none 0 0, .int .i64 0, .slice none 0 0] 26)).heap.size by simp)
  by_cases hw0 : n' = 0
  · subst hw0
    have hpw : p.word = [] := List.eq_nil_of_length_eq_zero hl2
    go_enter Try.func15, Try.ntmps15
    go_wp2_with fail
    go_region_held3 (fun W => W.cell? ⟨w.heap.size, 0, none⟩ = some (.slice A n c) ∧ W.cell? ⟨w.heap.size, 1, none⟩ = some (.int .i64 p.step) ∧ W.cell? ⟨w.heap.size, 2, none⟩ = some (.slice A' 0 c')) (first | exact ⟨a0, b0, d0⟩ | exact ⟨a3, b3, d3⟩ | exact ⟨a4, b4, d4⟩ | go_keep) (first | (refine (fun (hbW3 : Below ((w.alloc (.cells #[.slice A n c, .int .i64 p.step, .slice A' 0 c'] 26)).alloc (.cells #[.slice none 0 0, .int .i64 0, .slice none 0 0] 26)).heap.size ((w.alloc (.cells #[.slice A n c, .int .i64 p.step, .slice A' 0 c'] 26)).alloc (.cells #[.slice none 0 0, .int .i64 0, .slice none 0 0] 26)) _) => step_copy _ rfl _ _ 22 rfl i0 Try.underlying22 hi hz0 hz1 hz2 _ p.start rfl A n c _ rfl (hS.out _ hbW3) hn0 hnb ?_) ?_; rotate_left; (focus (repeat (first | assumption | exact Below.refl _ _ | refine Below.drew ?_ | refine below_empty ?_ _)); done); intro g3 c3 w3 he3 ho3 hg3; have hb3 := upB hbW3 (gB hg3); have hl3 := Nat.lt_of_lt_of_le hlt0.out hbW3.size; obtain ⟨a3, b3, d3, _⟩ := (ht.out.up hb3); obtain ⟨x3, y3, z3, xf3, yf3, zf3, _⟩ := (hz.out.up hb3)) | (refine step_nothing _ rfl _ _ 22 rfl i0 Try.underlying22 hi _ rfl A' c' rfl ?_; intro b1 hb1))
    all_goals
      have hT := hide ((((hz.out.up hb3).set0 (.slice (some ⟨g3, 0, none⟩) n c3)).set1 (.int .i64 p.step)).set2 (.slice (some b1) 0 0))
      have hO := hide (((ho3.setLow (a := ⟨w.heap.size + 1, 0, none⟩) hl3 (.slice (some ⟨g3, 0, none⟩) n c3)).setLow (a := ⟨w.heap.size + 1, 1, none⟩) hl3 (.int .i64 p.step)).setLow (a := ⟨w.heap.size + 1, 2, none⟩) hl3 (.slice (some b1) 0 0))
      have hBl := hide ((((upB hq0.out hb3).setCell (p := ⟨w.heap.size + 1, 0, none⟩) (Nat.le_succ _) (.slice (some ⟨g3, 0, none⟩) n c3)).setCell (p := ⟨w.heap.size + 1, 1, none⟩) (Nat.le_succ _) (.int .i64 p.step)).setCell (p := ⟨w.heap.size + 1, 2, none⟩) (Nat.le_succ _) (.slice (some b1) 0 0))
      clear hg3 ho3 hb3
      go_wp2_with fail
      first
        | (obtain ⟨k0, k1, k2, _, _, _, _⟩ := hT.out
           refine bodyPost_ret (v := .agg #[.slice (some ⟨g3, 0, none⟩) n c3, .int .i64 p.step, .slice (some b1) 0 0]) ?_ rfl ⟨_, rfl, ⟨_, _, _, _, _, _, rfl, (hO.out).down (by omega), .inr ⟨hpw, _, rfl⟩, ⟨fun e => absurd hpw e, fun _ => ⟨_, rfl⟩⟩, hwf⟩, hBl.out⟩
           (focus (simp [results, Try.results15, go_sem, k0, k1, k2]; done)))
        | (obtain ⟨k0, k1, k2, _, _, _, _⟩ := hT.out.alloc (.cells #[] 3)
           refine bodyPost_ret (v := .agg #[.slice (some ⟨g3, 0, none⟩) n c3, .int .i64 p.step, .slice (some b1) 0 0]) ?_ rfl ⟨_, rfl, ⟨_, _, _, _, _, _, rfl, ((hO.out).down (by omega)).alloc _, .inr ⟨hpw, _, rfl⟩, ⟨fun e => absurd hpw e, fun _ => ⟨_, rfl⟩⟩, hwf⟩, hBl.out.alloc hBl.out.size _⟩
           (focus (simp [results, Try.results15, go_sem, k0, k1, k2]; done)))
  · have hw1 : 0 < n' := by omega
    have hnb2 : n' ≤ 1048576000 := by omega
    go_enter Try.func15, Try.ntmps15
    go_wp2_with fail
    go_region_held3 (fun W => W.cell? ⟨w.heap.size, 0, none⟩ = some (.slice A n c) ∧ W.cell? ⟨w.heap.size, 1, none⟩ = some (.int .i64 p.step) ∧ W.cell? ⟨w.heap.size, 2, none⟩ = some (.slice A' n' c')) (first | exact ⟨a0, b0, d0⟩ | exact ⟨a3, b3, d3⟩ | exact ⟨a4, b4, d4⟩ | go_keep) (first | (refine (fun (hbW3 : Below ((w.alloc (.cells #[.slice A n c, .int .i64 p.step, .slice A' n' c'] 26)).alloc (.cells #[.slice none 0 0, .int .i64 0, .slice none 0 0] 26)).heap.size ((w.alloc (.cells #[.slice A n c, .int .i64 p.step, .slice A' n' c'] 26)).alloc (.cells #[.slice none 0 0, .int .i64 0, .slice none 0 0] 26)) _) => step_copy _ rfl _ _ 22 rfl i0 Try.underlying22 hi hz0 hz1 hz2 _ p.start rfl A n c _ rfl (hS.out _ hbW3) hn0 hnb ?_) ?_; rotate_left; (focus (repeat (first | assumption | exact Below.refl _ _ | refine Below.drew ?_ | refine below_empty ?_ _)); done); intro g3 c3 w3 he3 ho3 hg3; have hb3 := upB hbW3 (gB hg3); have hl3 := Nat.lt_of_lt_of_le hlt0.out hbW3.size; obtain ⟨a3, b3, d3, _⟩ := (ht.out.up hb3); obtain ⟨x3, y3, z3, xf3, yf3, zf3, _⟩ := (hz.out.up hb3)) | (refine (fun (hbW4 : Below ((w.alloc (.cells #[.slice A n c, .int .i64 p.step, .slice A' n' c'] 26)).alloc (.cells #[.slice none 0 0, .int .i64 0, .slice none 0 0] 26)).heap.size ((w.alloc (.cells #[.slice A n c, .int .i64 p.step, .slice A' n' c'] 26)).alloc (.cells #[.slice none 0 0, .int .i64 0, .slice none 0 0] 26)) _) => step_copy _ rfl _ _ 22 rfl i0 Try.underlying22 hi hz0 hz1 hz2 _ p.word rfl A' n' c' _ rfl (hW.out _ hbW4) hw1 hnb2 ?_) ?_; rotate_left; (focus (repeat (first | assumption | exact Below.refl _ _ | refine Below.drew ?_ | refine below_empty ?_ _)); done); intro g4 c4 w4 he4 ho4 hg4; have hb4 := upB hbW4 (gB hg4); have hl4 := Nat.lt_of_lt_of_le hlt0.out hbW4.size; obtain ⟨a4, b4, d4, _⟩ := (ht.out.up hb4); obtain ⟨x4, y4, z4, xf4, yf4, zf4, _⟩ := (hz.out.up hb4)))
    all_goals
      go_wp2_with fail
      first
        | (refine (fun (hk0 : Below w3.heap.size w3 _) => (fun (hkk : Below w3.heap.size w3 w4) => ?_) (upB hk0 (gB hg4))) ?_; rotate_left; (focus (repeat (first | exact Below.refl _ _ | refine Below.drew ?_ | refine below_empty ?_ _)); done);
           have hT := hide ((((hz.out.up hb4).set0 (.slice (some ⟨g3, 0, none⟩) n c3)).set1 (.int .i64 p.step)).set2 (.slice (some ⟨g4, 0, none⟩) n' c4));
           have hOa := hide ((((ho3.up hkk).setLow (a := ⟨w.heap.size + 1, 0, none⟩) hl3 (.slice (some ⟨g3, 0, none⟩) n c3)).setLow (a := ⟨w.heap.size + 1, 1, none⟩) hl3 (.int .i64 p.step)).setLow (a := ⟨w.heap.size + 1, 2, none⟩) hl3 (.slice (some ⟨g4, 0, none⟩) n' c4)); have hOb := hide (((ho4.setLow (a := ⟨w.heap.size + 1, 0, none⟩) hl4 (.slice (some ⟨g3, 0, none⟩) n c3)).setLow (a := ⟨w.heap.size + 1, 1, none⟩) hl4 (.int .i64 p.step)).setLow (a := ⟨w.heap.size + 1, 2, none⟩) hl4 (.slice (some ⟨g4, 0, none⟩) n' c4));
           have hne : g3 ≠ g4 := (by have u1 := (ho3.row.lt g3 rfl).2; have u2 := (ho4.row.lt g4 rfl).1; have u3 := hk0.size; omega);
           have hBl := hide ((((upB hq0.out hb4).setCell (p := ⟨w.heap.size + 1, 0, none⟩) (Nat.le_succ _) (.slice (some ⟨g3, 0, none⟩) n c3)).setCell (p := ⟨w.heap.size + 1, 1, none⟩) (Nat.le_succ _) (.int .i64 p.step)).setCell (p := ⟨w.heap.size + 1, 2, none⟩) (Nat.le_succ _) (.slice (some ⟨g4, 0, none⟩) n' c4));
           obtain ⟨k0, k1, k2, _, _, _, _⟩ := hT.out;
           refine bodyPost_ret (v := .agg #[.slice (some ⟨g3, 0, none⟩) n c3, .int .i64 p.step, .slice (some ⟨g4, 0, none⟩) n' c4]) ?_ rfl ⟨_, rfl, ⟨_, _, _, _, _, _, rfl, ((hOa.out).down (by omega)), .inl ((hOb.out).down (by omega)), ⟨fun _ e => hne (by simpa [Value.ownBlock] using e), fun e => by rw [e] at hl2; simp at hl2; omega⟩, hwf⟩, hBl.out⟩;
           (focus (simp [results, Try.results15, go_sem, k0, k1, k2]; done)))
        | (refine (fun (hk0 : Below w4.heap.size w4 _) => (fun (hkk : Below w4.heap.size w4 w3) => ?_) (upB hk0 (gB hg3))) ?_; rotate_left; (focus (repeat (first | exact Below.refl _ _ | refine Below.drew ?_ | refine below_empty ?_ _)); done);
           have hT := hide ((((hz.out.up hb3).set0 (.slice (some ⟨g3, 0, none⟩) n c3)).set1 (.int .i64 p.step)).set2 (.slice (some ⟨g4, 0, none⟩) n' c4));
           have hOa := hide ((((ho4.up hkk).setLow (a := ⟨w.heap.size + 1, 0, none⟩) hl4 (.slice (some ⟨g3, 0, none⟩) n c3)).setLow (a := ⟨w.heap.size + 1, 1, none⟩) hl4 (.int .i64 p.step)).setLow (a := ⟨w.heap.size + 1, 2, none⟩) hl4 (.slice (some ⟨g4, 0, none⟩) n' c4)); have hOb := hide (((ho3.setLow (a := ⟨w.heap.size + 1, 0, none⟩) hl3 (.slice (some ⟨g3, 0, none⟩) n c3)).setLow (a := ⟨w.heap.size + 1, 1, none⟩) hl3 (.int .i64 p.step)).setLow (a := ⟨w.heap.size + 1, 2, none⟩) hl3 (.slice (some ⟨g4, 0, none⟩) n' c4));
           have hne : g3 ≠ g4 := (by have u1 := (ho4.row.lt g4 rfl).2; have u2 := (ho3.row.lt g3 rfl).1; have u3 := hk0.size; omega);
           have hBl := hide ((((upB hq0.out hb3).setCell (p := ⟨w.heap.size + 1, 0, none⟩) (Nat.le_succ _) (.slice (some ⟨g3, 0, none⟩) n c3)).setCell (p := ⟨w.heap.size + 1, 1, none⟩) (Nat.le_succ _) (.int .i64 p.step)).setCell (p := ⟨w.heap.size + 1, 2, none⟩) (Nat.le_succ _) (.slice (some ⟨g4, 0, none⟩) n' c4));
           obtain ⟨k0, k1, k2, _, _, _, _⟩ := hT.out;
           refine bodyPost_ret (v := .agg #[.slice (some ⟨g3, 0, none⟩) n c3, .int .i64 p.step, .slice (some ⟨g4, 0, none⟩) n' c4]) ?_ rfl ⟨_, rfl, ⟨_, _, _, _, _, _, rfl, ((hOb.out).down (by omega)), .inl ((hOa.out).down (by omega)), ⟨fun _ e => hne (by simpa [Value.ownBlock] using e), fun e => by rw [e] at hl2; simp at hl2; omega⟩, hwf⟩, hBl.out⟩;
           (focus (simp [results, Try.results15, go_sem, k0, k1, k2]; done)))
end Go.Proofs.Ytoafpokcbbncfaa

namespace Go.Proofs.Ytoafpokcbbncfaa
open Go.RowKit
set_option linter.unusedVariables false

theorem OwnZ.ints {w : World} {base n c : Nat} {A : Option Addr} {zs : List Int} (h : OwnZ w base (.slice A n c) zs) : Ints w w.heap.size A n c zs := by
  rcases h with h | ⟨rfl, b0, e⟩
  · exact h.ints
  · injection e with e1 e2 e3
    subst e1; subst e2; subst e3
    exact ⟨rfl, Nat.le_refl _, Nat.zero_le _, fun h => absurd h (by omega), (fun _ h => by cases h), fun e => by cases e⟩
theorem OwnZ.setLow {w : World} {base : Nat} {v : Value} {zs : List Int} (h : OwnZ w base v zs) {a : Addr} (ha : a.block < base) (u : Value) : OwnZ (w.setCell a u) base v zs := by
  rcases h with h | h
  · exact .inl (h.setLow ha u)
  · exact .inr h
theorem PlZ.plM {w : World} {base : Nat} {v : Value} {p : Plc} (h : PlZ w base v p) : PlM w w.heap.size v p := by
  obtain ⟨A, n, c, A', n', c', rfl, h1, h2, _, h3⟩ := h.ex
  exact plM_mk h1.ints h2.ints h3
def newDsk (p : Plc) : Dsk := if placeOk p then ⟨p, []⟩ else noDsk
set_option maxRecDepth 100000 in
set_option maxHeartbeats 3200000 in
theorem deskNew_spec (v : Value) (p : Plc) (B : Nat) (w : World) (h : PlM w B v p) (hB : B ≤ w.heap.size) :
    Calls Try.prog 5 #[v] w fun e w' => ∃ u, e = .returned (.tuple #[u, .bool (placeOk p)]) ∧ DkM w' w'.heap.size u (newDsk p) ∧ Below w.heap.size w w' := by
  obtain ⟨A, n, c, A', n', c', rfl, h1, h2, hwf⟩ := h.ex
  have hq0 := hide (show Below w.heap.size w ((w.alloc (.cells #[.slice A n c, .int .i64 p.step, .slice A' n' c'] 26)).alloc (.cells #[.slice none 0 0, .int .i64 0, .slice none 0 0, .slice none 0 0] 29)) from (al w _).alloc (by simp) _)
  have ht := hide (show Tri ((w.alloc (.cells #[.slice A n c, .int .i64 p.step, .slice A' n' c'] 26)).alloc (.cells #[.slice none 0 0, .int .i64 0, .slice none 0 0, .slice none 0 0] 29)) w.heap.size (.slice A n c) (.int .i64 p.step) (.slice A' n' c') from (Tri.made w _ _ _ _).up (al _ _))
  have hz := hide (show QuaW ((w.alloc (.cells #[.slice A n c, .int .i64 p.step, .slice A' n' c'] 26)).alloc (.cells #[.slice none 0 0, .int .i64 0, .slice none 0 0, .slice none 0 0] 29)) (w.heap.size + 1) (.slice none 0 0) (.int .i64 0) (.slice none 0 0) (.slice none 0 0) from by have := QuaW.made (w.alloc (.cells #[.slice A n c, .int .i64 p.step, .slice A' n' c'] 26)) (.slice none 0 0) (.int .i64 0) (.slice none 0 0) (.slice none 0 0) 29; simpa using this)
  obtain ⟨W0, hW0⟩ : ∃ W0, Hid ((w.alloc (.cells #[.slice A n c, .int .i64 p.step, .slice A' n' c'] 26)).alloc (.cells #[.slice none 0 0, .int .i64 0, .slice none 0 0, .slice none 0 0] 29) = W0) := ⟨_, hide rfl⟩
  rw [hW0.out] at hq0 ht hz
  have hgs := hide (show w.heap.size + 2 = W0.heap.size by rw [← hW0.out]; simp)
  have i1 := hide ((h1.more hB).up hq0.out)
  have i2 := hide ((h2.more hB).up hq0.out)
  have HO := hide (placeOk_spec _ p _ W0 (plM_mk i1.out i2.out hwf) (Nat.le_refl _))
  cases hok : placeOk p with
  | false =>
    rw [hok] at HO
    have e2 := hide (show newDsk p = noDsk by unfold newDsk; rw [hok]; rfl)
    clear hok
    have hW1 := hW0.out
    subst hW1
    go_enter Try.func5, Try.ntmps5
    go_wp2_with (go_at_call 14; refine HO.out.mono ?_; rintro e w2 ⟨rfl, hq⟩; have hz2 := hide (hz.out.up hq); have hb := hide (upB hq0.out hq); obtain ⟨x0, x1, x2, x3, y0, y1, y2, y3, _⟩ := hz2.out; clear hq)
    obtain ⟨k0, k1, k2, k3, _, _, _, _, _⟩ := (((hz2.out.set0 (.slice none 0 0)).set1 (.int .i64 0)).set2 (.slice none 0 0)).set3 (.slice none 0 0)
    exact bodyPost_ret (v := .tuple #[.agg #[.slice none 0 0, .int .i64 0, .slice none 0 0, .slice none 0 0], .bool false]) (by simp [results, Try.results5, go_sem, k0, k1, k2, k3]) rfl ⟨_, rfl, by rw [e2.out]; exact noDkM, (((hb.out.setCell (Nat.le_succ _) _).setCell (Nat.le_succ _) _).setCell (Nat.le_succ _) _).setCell (Nat.le_succ _) _⟩
  | true =>
    rw [hok] at HO
    have e2 := hide (show newDsk p = ⟨p, []⟩ by unfold newDsk; rw [hok]; rfl)
    obtain ⟨⟨g1, g3⟩, _, _, g6, _⟩ := placeOk_yes hok
    have HC := hide (fun (W : World) (hq : Below W0.heap.size W0 W) => l15Place_c _ p _ W (plM_mk (i1.out.up hq) (i2.out.up hq) hwf) (Nat.le_refl _) g1 (by omega) (by omega))
    clear hok
    have hW1 := hW0.out
    subst hW1
    go_enter Try.func5, Try.ntmps5
    go_wp2_with (go_at_call 14; refine HO.out.mono ?_; rintro e w2 ⟨rfl, hq⟩; have hz2 := hide (hz.out.up hq); have hb := hide (upB hq0.out hq); obtain ⟨t0, t1, t2, _⟩ := ht.out.up hq; replace HC := hide (HC.out _ hq))
    refine HC.out.mono ?_
    rintro e w3 ⟨u, rfl, hp, hq3⟩
    obtain ⟨A3, n3, c3, A4, n4, c4, rfl, ho3, ho4, _, _⟩ := hp.ex
    have hz3 := hide (hz2.out.up hq3)
    have hb3 := hide (upB hb.out hq3)
    obtain ⟨x0, x1, x2, x3, y0, y1, y2, y3, hlt3⟩ := hz3.out
    have hsz := hide (show w.heap.size + 1 < w2.heap.size from hz2.out.lt)
    have hF3 := hide ((((ho3.setLow (a := ⟨w.heap.size + 1, 0, none⟩) hsz.out (.slice A3 n3 c3)).setLow (a := ⟨w.heap.size + 1, 1, none⟩) hsz.out (.int .i64 p.step)).setLow (a := ⟨w.heap.size + 1, 2, none⟩) hsz.out (.slice A4 n4 c4)).setLow (a := ⟨w.heap.size + 1, 3, none⟩) hsz.out (.slice none 0 0))
    have hF4 := hide ((((ho4.setLow (a := ⟨w.heap.size + 1, 0, none⟩) hsz.out (.slice A3 n3 c3)).setLow (a := ⟨w.heap.size + 1, 1, none⟩) hsz.out (.int .i64 p.step)).setLow (a := ⟨w.heap.size + 1, 2, none⟩) hsz.out (.slice A4 n4 c4)).setLow (a := ⟨w.heap.size + 1, 3, none⟩) hsz.out (.slice none 0 0))
    go_wp2_with fail
    obtain ⟨k0, k1, k2, k3, _, _, _, _, _⟩ := (((hz3.out.set0 (.slice A3 n3 c3)).set1 (.int .i64 p.step)).set2 (.slice A4 n4 c4)).set3 (.slice none 0 0)
    exact bodyPost_ret (v := .tuple #[.agg #[.slice A3 n3 c3, .int .i64 p.step, .slice A4 n4 c4, .slice none 0 0], .bool true]) (by simp [results, Try.results5, go_sem, k0, k1, k2, k3]) rfl ⟨_, rfl, by rw [e2.out]; exact ⟨A3, n3, c3, A4, n4, c4, none, 0, 0, rfl, hF3.out.ints, hF4.out.ints, hwf, PsM.nil⟩, (((hb3.out.setCell (Nat.le_succ _) _).setCell (Nat.le_succ _) _).setCell (Nat.le_succ _) _).setCell (Nat.le_succ _) _⟩
end Go.Proofs.Ytoafpokcbbncfaa

namespace Go.Proofs.Ytoafpokcbbncfaa
open Go.RowKit
set_option linter.unusedVariables false

/-- A row of places never shares its block with a slice of ints. -/
theorem own_neP {w : World} {b b' n : Nat} {v u : Value} {xs : List Value} {l : List Int} (h : w.ownsRow b 26 3 v n xs) (k : Own w b' u l) : u.ownBlock = none ∨ u.ownBlock ≠ v.ownBlock := by
  rcases k.row.2 with ⟨rfl, _⟩ | ⟨g, cap, cur, rfl, _, hg, _⟩
  · exact .inl rfl
  · refine .inr fun e => ?_
    rcases h.2 with ⟨rfl, _⟩ | ⟨g', cap', cur', rfl, _, hg', _⟩
    · simp [Value.ownBlock] at e
    · simp [Value.ownBlock] at e
      subst e
      rw [hg] at hg'
      simp at hg'
section
variable {w w' : World} {base base' n c : Nat} {v u : Value} {A : Option Addr} {p : Plc} {ps : List Plc} {zs : List Int}
theorem OwnZ.kept {row : Option Nat} (h : OwnZ w base v zs) (hg : w.grownBy w' row) (hne : ∀ l, Own w base v l → v.ownBlock = none ∨ v.ownBlock ≠ row) : OwnZ w' base v zs := by
  rcases h with h | h
  · exact .inl (h.kept hg (hne _ h))
  · exact .inr h
theorem OwnZ.up (h : OwnZ w base v zs) (hq : Below w.heap.size w w') : OwnZ w' base v zs := by
  rcases h with h | h
  · exact .inl (h.up hq)
  · exact .inr h
theorem OwnZ.down (h : OwnZ w base v zs) (hb : base' ≤ base) : OwnZ w base' v zs := by
  rcases h with h | h
  · exact .inl (h.down hb)
  · exact .inr h
theorem PlZ.up (h : PlZ w base v p) (hq : Below w.heap.size w w') : PlZ w' base v p := by
  obtain ⟨A, n, c, A', n', c', e, h1, h2, h3, h4⟩ := h.ex
  exact ⟨A, n, c, A', n', c', e, h1.up hq, h2.up hq, h3, h4⟩
theorem PlZ.down (h : PlZ w base v p) (hb : base' ≤ base) : PlZ w base' v p := by
  obtain ⟨A, n, c, A', n', c', e, h1, h2, h3, h4⟩ := h.ex
  exact ⟨A, n, c, A', n', c', e, h1.down hb, h2.down hb, h3, h4⟩
theorem PlZ.setLow (h : PlZ w base v p) {a : Addr} (ha : a.block < base) (u : Value) : PlZ (w.setCell a u) base v p := by
  obtain ⟨A, n, c, A', n', c', e, h1, h2, h3, h4⟩ := h.ex
  exact ⟨A, n, c, A', n', c', e, h1.setLow ha u, h2.setLow ha u, h3, h4⟩
/-- Over a growth of a row of places the copies stay. -/
theorem PlZ.kept {b m : Nat} {r : Value} {xs : List Value} (h : PlZ w base v p) (hr : w.ownsRow b 26 3 r m xs) (hg : w.grownBy w' r.ownBlock) : PlZ w' base v p := by
  obtain ⟨A, n, c, A', n', c', e, h1, h2, h3, h4⟩ := h.ex
  exact ⟨A, n, c, A', n', c', e, h1.kept hg (own_neP hr h1), h2.kept hg (fun l hl => own_neP hr hl), h3, h4⟩
def cellsP (us : List Value) : List Value := us.flatMap fun u => u.cells.toList
theorem cellsP_append (a b : List Value) : cellsP (a ++ b) = cellsP a ++ cellsP b := by unfold cellsP; simp
/-- What the call itself made: the slice v owns just the places ps, each one a copy. -/
structure PsZ (w : World) (base : Nat) (v : Value) (ps : List Plc) : Prop where
  ex : ∃ us : List Value, us.length = ps.length ∧ w.ownsRow base 26 3 v ps.length (cellsP us) ∧ ∀ (j : Nat) u p, us[j]? = some u → ps[j]? = some p → PlZ w base u p
theorem PsZ.row (h : PsZ w base (.slice A n c) ps) : n = ps.length ∧ ∃ xs, w.ownsRow base 26 3 (.slice A n c) ps.length xs := by
  obtain ⟨us, h1, h2, h3⟩ := h.ex
  obtain ⟨A', c', e⟩ := row_slice h2
  injection e with e1 e2 e3
  exact ⟨e2, _, h2⟩
theorem PsZ.up (h : PsZ w base v ps) (hq : Below w.heap.size w w') : PsZ w' base v ps := by
  obtain ⟨us, h1, h2, h3⟩ := h.ex
  exact ⟨us, h1, h2.kept (row := none) ⟨hq.os, hq.tape, hq.output, hq.size, fun k hk _ => hq.block k hk⟩ (by cases v.ownBlock <;> simp), fun j u p hu hp => (h3 j u p hu hp).up hq⟩
theorem PsZ.setLow (h : PsZ w base v ps) {a : Addr} (ha : a.block < base) (x : Value) : PsZ (w.setCell a x) base v ps := by
  obtain ⟨us, h1, h2, h3⟩ := h.ex
  exact ⟨us, h1, ownsRow_setCell_below h2 ha x, fun j u p hu hp => (h3 j u p hu hp).setLow ha x⟩
theorem PsZ.none_ : PsZ w base (.slice none 0 0) [] := ⟨[], rfl, World.ownsRow_nil _ _ _ _, fun _ _ _ h => by simp at h⟩
/-- One place more behind the others. -/
theorem PsZ.push {c' : Nat} {A' : Option Addr} {us : List Value} (h1 : us.length = ps.length) (h2 : w.ownsRow base 26 3 v ps.length (cellsP us)) (h3 : ∀ (j : Nat) u p, us[j]? = some u → ps[j]? = some p → PlZ w base u p)
    (hu : PlZ w base u p) (hr : w'.ownsRow base 26 3 (.slice A' (ps.length + 1) c') (ps.length + 1) (cellsP us ++ u.cells.toList)) (hg : w.grownBy w' v.ownBlock) : PsZ w' base (.slice A' (ps.length + 1) c') (ps ++ [p]) := by
  refine ⟨us ++ [u], by simp [h1], ?_, fun j x q hx hq => ?_⟩
  · rw [List.length_append, cellsP_append]
    have : cellsP [u] = u.cells.toList := by unfold cellsP; simp
    rw [this]
    exact hr
  · rcases Nat.lt_or_ge j us.length with hj | hj
    · rw [List.getElem?_append_left hj] at hx
      rw [List.getElem?_append_left (by omega)] at hq
      exact (h3 j x q hx hq).kept h2 hg
    · have hj2 : j = us.length := by
        have := (List.getElem?_eq_some_iff.1 hx).1
        rw [List.length_append] at this
        simp at this
        omega
      subst hj2
      rw [List.getElem?_concat_length] at hx
      rw [h1, List.getElem?_concat_length] at hq
      injection hx with hx
      injection hq with hq
      subst hx; subst hq
      exact hu.kept h2 hg
theorem cellsP_at {us : List Value} (h : ∀ u ∈ us, u.cells.size = 3) {j : Nat} {x y z : Value} (hj : us[j]? = some (.agg #[x, y, z])) : (cellsP us)[j * 3]? = some x ∧ (cellsP us)[j * 3 + 1]? = some y ∧ (cellsP us)[j * 3 + 2]? = some z := by
  induction us generalizing j with
  | nil => simp at hj
  | cons a r ih =>
    have ha := h a List.mem_cons_self
    have hc : cellsP (a :: r) = a.cells.toList ++ cellsP r := by unfold cellsP; simp
    rw [hc]
    cases j with
    | zero =>
      simp at hj
      subst hj
      exact ⟨rfl, rfl, rfl⟩
    | succ j =>
      have hl : a.cells.toList.length = 3 := by rw [Array.length_toList]; exact ha
      have ih2 := ih (fun u hu => h u (List.mem_cons_of_mem _ hu)) (j := j) (by simpa using hj)
      have e : ∀ i, (a.cells.toList ++ cellsP r)[(j + 1) * 3 + i]? = (cellsP r)[j * 3 + i]? := fun i => by
        rw [List.getElem?_append_right (by rw [hl]; omega), hl]
        congr 1
        omega
      refine ⟨(e 0).trans ih2.1, (e 1).trans ih2.2.1, (e 2).trans ih2.2.2⟩
theorem PsZ.psM (h : PsZ w base (.slice A n c) ps) : PsM w w.heap.size A n c ps := by
  obtain ⟨us, h1, h2, h3⟩ := h.ex
  have h3e : ∀ u ∈ us, u.cells.size = 3 := by
    intro u hu
    obtain ⟨j, hj, rfl⟩ := List.getElem_of_mem hu
    obtain ⟨A1, n1, c1, A2, n2, c2, e, _⟩ := (h3 j _ _ (List.getElem?_eq_getElem hj) (List.getElem?_eq_getElem (by omega))).ex
    rw [e]; rfl
  rcases row_shape h2 with ⟨hv, h0⟩ | ⟨g, cap, hv, hg, hh, hn, hm⟩
  · injection hv with e1 e2 e3
    subst e1; subst e2; subst e3
    obtain rfl := List.eq_nil_of_length_eq_zero h0
    exact PsM.nil
  · injection hv with e1 e2 e3
    subst e1; subst e2; subst e3
    refine ⟨rfl, hn, hm, fun hp => ⟨g, 0, rfl, hh, fun j p hp => ?_⟩, fun e => by cases e⟩
    have hj : j < ps.length := (List.getElem?_eq_some_iff.1 hp).1
    obtain ⟨A1, n1, c1, A2, n2, c2, e, i1, i2, _, hwf⟩ := (h3 j _ p (List.getElem?_eq_getElem (by omega)) hp).ex
    have hat := cellsP_at h3e (j := j) (x := .slice A1 n1 c1) (y := .int .i64 p.step) (z := .slice A2 n2 c2) (by rw [List.getElem?_eq_getElem (by omega), e])
    have hlen := h2.1
    refine ⟨A1, n1, c1, A2, n2, c2, ?_, ?_, ?_, i1.ints, i2.ints, hwf⟩
    · rw [Nat.zero_add, h2.cellAt _ (by omega)]; exact hat.1
    · rw [Nat.zero_add, h2.cellAt _ (by omega)]; exact hat.2.1
    · rw [Nat.zero_add, h2.cellAt _ (by omega)]; exact hat.2.2
theorem infoPlace : (Try.prog.info? 26).map (fun i => (i.zero, i.size, i.bytes)) = some (some (.agg #[.slice none 0 0, .int .i64 0, .slice none 0 0]), 3, 56) := by kernel_rfl
end
end Go.Proofs.Ytoafpokcbbncfaa

namespace Go.Proofs.Ytoafpokcbbncfaa
open Go.RowKit
set_option linter.unusedVariables false

theorem PsZ.pushM {w w' : World} {base m c' : Nat} {v u : Value} {A' : Option Addr} {us : List Value} {ps : List Plc} {p : Plc} (hm : m = ps.length) (h1 : us.length = ps.length) (h2 : w.ownsRow base 26 3 v m (cellsP us)) (h3 : ∀ (j : Nat) u p, us[j]? = some u → ps[j]? = some p → PlZ w base u p)
    (hu : PlZ w base u p) (hr : w'.ownsRow base 26 3 (.slice A' (m + 1) c') (m + 1) (cellsP us ++ u.cells.toList)) (hg : w.grownBy w' v.ownBlock) : PsZ w' base (.slice A' (m + 1) c') (ps ++ [p]) := by
  subst hm
  exact PsZ.push h1 h2 h3 hu hr hg
theorem PsZ.down {w : World} {base base' : Nat} {v : Value} {ps : List Plc} (h : PsZ w base v ps) (hb : base' ≤ base) : PsZ w base' v ps := by
  obtain ⟨us, h1, h2, h3⟩ := h.ex
  exact ⟨us, h1, ownsRow_down h2 hb, fun j u p hu hp => (h3 j u p hu hp).down hb⟩
theorem PlZ.drew {w : World} {base : Nat} {v : Value} {p : Plc} (h : PlZ w base v p) : PlZ w.drew base v p := h.up (Below.refl _ _).drew
theorem PlZ.alloc {w : World} {base : Nat} {v : Value} {p : Plc} (h : PlZ w base v p) (o : Obj) : PlZ (w.alloc o) base v p := h.up (al w o)
theorem drewRow {w : World} {b m : Nat} {e : TypeId} {sz : Nat} {v : Value} {xs : List Value} (h : w.ownsRow b e sz v m xs) : w.drew.ownsRow b e sz v m xs := h
end Go.Proofs.Ytoafpokcbbncfaa
