/-
  Contracts of chapter 14, the specification's side: l15Place.
-/
import Derived.Test.YtpnjihpdipoajaaPlaceS
import Derived.Test.YtpnjihpdipoajaaPush
import Derived.Test.YtpnjihpdipoajaaCopy
import Derived.Test.YtpnjihpdipoajaaTri
import Derived.Deep.RegionHeld3
import Derived.Deep.AppendLies
namespace Go.Proofs.Ytpnjihpdipoajaa
open Go.RowKit
set_option linter.unusedVariables false

theorem gB {w w' : World} (hg : w.grownBy w' none) : Below w.heap.size w w' := ⟨hg.os, hg.tape, hg.output, hg.size, fun k hk => hg.block k hk (by simp)⟩
theorem TriW.tri {w : World} {g : Nat} {x y z : Value} (h : TriW w g x y z) : Tri w g x y z := ⟨h.c0, h.c1, h.c2, h.lt⟩
/-- What l15Place hands back. -/
structure PlZ (w : World) (base : Nat) (v : Value) (p : Plc) : Prop where
  ex : ∃ A n c A' n' c', v = .agg #[.slice A n c, .int .i64 p.step, .slice A' n' c'] ∧ Own w base (.slice A n c) p.start ∧ OwnZ w base (.slice A' n' c') p.word ∧ ((p.word ≠ [] → (Value.slice A n c).ownBlock ≠ (Value.slice A' n' c').ownBlock) ∧ (p.word = [] → ∃ b0, Value.slice A' n' c' = .slice (some b0) 0 0)) ∧ (Lit.int .i64 p.step).wf = true

set_option maxRecDepth 100000 in
set_option maxHeartbeats 6400000 in
theorem l15Place_c (v : Value) (p : Plc) (B : Nat) (w : World) (h : PlM w B v p) (hB : B ≤ w.heap.size) (h0 : 1 ≤ p.start.length) (h1 : p.start.length ≤ 1000) (h2 : p.word.length ≤ 1000) :
    Calls Try.prog 38 #[v] w fun e w' => ∃ u, e = .returned u ∧ PlZ w' w.heap.size u p ∧ Below w.heap.size w w' := by
  obtain ⟨i0, hi, hz0, hz1, hz2⟩ := info_parts infoInt
  obtain ⟨A, n, c, A', n', c', rfl, i1, i2, hwf⟩ := h.ex
  have hl1 := i1.len
  have hl2 := i2.len
  have hq0 := hide (show Below w.heap.size w ((w.alloc (.cells #[.slice A n c, .int .i64 p.step, .slice A' n' c'] 25)).alloc (.cells #[.slice none 0 0, .int .i64 0, .slice none 0 0] 25)) from (al w _).alloc (by simp) _)
  have hS := hide (fun (W : World) (hq : Below ((w.alloc (.cells #[.slice A n c, .int .i64 p.step, .slice A' n' c'] 25)).alloc (.cells #[.slice none 0 0, .int .i64 0, .slice none 0 0] 25)).heap.size ((w.alloc (.cells #[.slice A n c, .int .i64 p.step, .slice A' n' c'] 25)).alloc (.cells #[.slice none 0 0, .int .i64 0, .slice none 0 0] 25)) W) => (i1.more hB).below (upB hq0.out hq))
  have hW := hide (fun (W : World) (hq : Below ((w.alloc (.cells #[.slice A n c, .int .i64 p.step, .slice A' n' c'] 25)).alloc (.cells #[.slice none 0 0, .int .i64 0, .slice none 0 0] 25)).heap.size ((w.alloc (.cells #[.slice A n c, .int .i64 p.step, .slice A' n' c'] 25)).alloc (.cells #[.slice none 0 0, .int .i64 0, .slice none 0 0] 25)) W) => (i2.more hB).below (upB hq0.out hq))
  have hn0 : 0 < n := by omega
  have hnb : n ≤ 1048576000 := by omega
  have ht := hide (show Tri ((w.alloc (.cells #[.slice A n c, .int .i64 p.step, .slice A' n' c'] 25)).alloc (.cells #[.slice none 0 0, .int .i64 0, .slice none 0 0] 25)) w.heap.size (.slice A n c) (.int .i64 p.step) (.slice A' n' c') from (Tri.made w _ _ _ _).up (al _ _))
  have hz := hide (show TriW ((w.alloc (.cells #[.slice A n c, .int .i64 p.step, .slice A' n' c'] 25)).alloc (.cells #[.slice none 0 0, .int .i64 0, .slice none 0 0] 25)) (w.heap.size + 1) (.slice none 0 0) (.int .i64 0) (.slice none 0 0) from by have := TriW.made (w.alloc (.cells #[.slice A n c, .int .i64 p.step, .slice A' n' c'] 25)) (.slice none 0 0) (.int .i64 0) (.slice none 0 0) 25; simpa using this)
  obtain ⟨a0, b0, d0, _⟩ := ht.out
  obtain ⟨x0, y0, z0, xf0, yf0, zf0, _⟩ := hz.out
  have hs0 : ((w.alloc (.cells #[.slice A n c, .int .i64 p.step, .slice A' n' c'] 25)).alloc (.cells #[.slice none 0 0, .int .i64 0, .slice none 0 0] 25)).heap.size = w.heap.size + 2 := by simp
  have hs0 := hide hs0
  have hlt0 := hide (show w.heap.size + 1 < ((w.alloc (.cells #[.slice A n c, .int .i64 p.step, .slice A' n' c'] 25)).alloc (.cells #[.slice none 0 0, .int .i64 0, .slice none 0 0] 25)).heap.size by simp)
  by_cases hw0 : n' = 0
  · subst hw0
    have hpw : p.word = [] := List.eq_nil_of_length_eq_zero hl2
    go_enter Try.func38, Try.ntmps38
    go_wp2_with fail
    go_region_held3 (fun W => W.cell? ⟨w.heap.size, 0, none⟩ = some (.slice A n c) ∧ W.cell? ⟨w.heap.size, 1, none⟩ = some (.int .i64 p.step) ∧ W.cell? ⟨w.heap.size, 2, none⟩ = some (.slice A' 0 c')) (first | exact ⟨a0, b0, d0⟩ | exact ⟨a3, b3, d3⟩ | exact ⟨a4, b4, d4⟩ | go_keep) (first | (refine (fun (hbW3 : Below ((w.alloc (.cells #[.slice A n c, .int .i64 p.step, .slice A' 0 c'] 25)).alloc (.cells #[.slice none 0 0, .int .i64 0, .slice none 0 0] 25)).heap.size ((w.alloc (.cells #[.slice A n c, .int .i64 p.step, .slice A' 0 c'] 25)).alloc (.cells #[.slice none 0 0, .int .i64 0, .slice none 0 0] 25)) _) => step_copy _ rfl _ _ 23 rfl i0 Try.underlying23 hi hz0 hz1 hz2 _ p.start rfl A n c _ rfl (hS.out _ hbW3) hn0 hnb ?_) ?_; rotate_left; (focus (repeat (first | assumption | exact Below.refl _ _ | refine Below.drew ?_ | refine below_empty ?_ _)); done); intro g3 c3 w3 he3 ho3 hg3; have hb3 := upB hbW3 (gB hg3); have hl3 := Nat.lt_of_lt_of_le hlt0.out hbW3.size; obtain ⟨a3, b3, d3, _⟩ := (ht.out.up hb3); obtain ⟨x3, y3, z3, xf3, yf3, zf3, _⟩ := (hz.out.up hb3)) | (refine step_nothing _ rfl _ _ 23 rfl i0 Try.underlying23 hi _ rfl A' c' rfl ?_; intro b1 hb1))
    all_goals
      have hT := hide ((((hz.out.up hb3).set0 (.slice (some ⟨g3, 0, none⟩) n c3)).set1 (.int .i64 p.step)).set2 (.slice (some b1) 0 0))
      have hO := hide (((ho3.setLow (a := ⟨w.heap.size + 1, 0, none⟩) hl3 (.slice (some ⟨g3, 0, none⟩) n c3)).setLow (a := ⟨w.heap.size + 1, 1, none⟩) hl3 (.int .i64 p.step)).setLow (a := ⟨w.heap.size + 1, 2, none⟩) hl3 (.slice (some b1) 0 0))
      have hBl := hide ((((upB hq0.out hb3).setCell (p := ⟨w.heap.size + 1, 0, none⟩) (Nat.le_succ _) (.slice (some ⟨g3, 0, none⟩) n c3)).setCell (p := ⟨w.heap.size + 1, 1, none⟩) (Nat.le_succ _) (.int .i64 p.step)).setCell (p := ⟨w.heap.size + 1, 2, none⟩) (Nat.le_succ _) (.slice (some b1) 0 0))
      clear hg3 ho3 hb3
      go_wp2_with fail
      first
        | (obtain ⟨k0, k1, k2, _, _, _, _⟩ := hT.out
           refine bodyPost_ret (v := .agg #[.slice (some ⟨g3, 0, none⟩) n c3, .int .i64 p.step, .slice (some b1) 0 0]) ?_ rfl ⟨_, rfl, ⟨_, _, _, _, _, _, rfl, (hO.out).down (by omega), .inr ⟨hpw, _, rfl⟩, ⟨fun e => absurd hpw e, fun _ => ⟨_, rfl⟩⟩, hwf⟩, hBl.out⟩
           (focus (simp [results, Try.results38, go_sem, k0, k1, k2]; done)))
        | (obtain ⟨k0, k1, k2, _, _, _, _⟩ := hT.out.alloc (.cells #[] 3)
           refine bodyPost_ret (v := .agg #[.slice (some ⟨g3, 0, none⟩) n c3, .int .i64 p.step, .slice (some b1) 0 0]) ?_ rfl ⟨_, rfl, ⟨_, _, _, _, _, _, rfl, ((hO.out).down (by omega)).alloc _, .inr ⟨hpw, _, rfl⟩, ⟨fun e => absurd hpw e, fun _ => ⟨_, rfl⟩⟩, hwf⟩, hBl.out.alloc hBl.out.size _⟩
           (focus (simp [results, Try.results38, go_sem, k0, k1, k2]; done)))
  · have hw1 : 0 < n' := by omega
    have hnb2 : n' ≤ 1048576000 := by omega
    go_enter Try.func38, Try.ntmps38
    go_wp2_with fail
    go_region_held3 (fun W => W.cell? ⟨w.heap.size, 0, none⟩ = some (.slice A n c) ∧ W.cell? ⟨w.heap.size, 1, none⟩ = some (.int .i64 p.step) ∧ W.cell? ⟨w.heap.size, 2, none⟩ = some (.slice A' n' c')) (first | exact ⟨a0, b0, d0⟩ | exact ⟨a3, b3, d3⟩ | exact ⟨a4, b4, d4⟩ | go_keep) (first | (refine (fun (hbW3 : Below ((w.alloc (.cells #[.slice A n c, .int .i64 p.step, .slice A' n' c'] 25)).alloc (.cells #[.slice none 0 0, .int .i64 0, .slice none 0 0] 25)).heap.size ((w.alloc (.cells #[.slice A n c, .int .i64 p.step, .slice A' n' c'] 25)).alloc (.cells #[.slice none 0 0, .int .i64 0, .slice none 0 0] 25)) _) => step_copy _ rfl _ _ 23 rfl i0 Try.underlying23 hi hz0 hz1 hz2 _ p.start rfl A n c _ rfl (hS.out _ hbW3) hn0 hnb ?_) ?_; rotate_left; (focus (repeat (first | assumption | exact Below.refl _ _ | refine Below.drew ?_ | refine below_empty ?_ _)); done); intro g3 c3 w3 he3 ho3 hg3; have hb3 := upB hbW3 (gB hg3); have hl3 := Nat.lt_of_lt_of_le hlt0.out hbW3.size; obtain ⟨a3, b3, d3, _⟩ := (ht.out.up hb3); obtain ⟨x3, y3, z3, xf3, yf3, zf3, _⟩ := (hz.out.up hb3)) | (refine (fun (hbW4 : Below ((w.alloc (.cells #[.slice A n c, .int .i64 p.step, .slice A' n' c'] 25)).alloc (.cells #[.slice none 0 0, .int .i64 0, .slice none 0 0] 25)).heap.size ((w.alloc (.cells #[.slice A n c, .int .i64 p.step, .slice A' n' c'] 25)).alloc (.cells #[.slice none 0 0, .int .i64 0, .slice none 0 0] 25)) _) => step_copy _ rfl _ _ 23 rfl i0 Try.underlying23 hi hz0 hz1 hz2 _ p.word rfl A' n' c' _ rfl (hW.out _ hbW4) hw1 hnb2 ?_) ?_; rotate_left; (focus (repeat (first | assumption | exact Below.refl _ _ | refine Below.drew ?_ | refine below_empty ?_ _)); done); intro g4 c4 w4 he4 ho4 hg4; have hb4 := upB hbW4 (gB hg4); have hl4 := Nat.lt_of_lt_of_le hlt0.out hbW4.size; obtain ⟨a4, b4, d4, _⟩ := (ht.out.up hb4); obtain ⟨x4, y4, z4, xf4, yf4, zf4, _⟩ := (hz.out.up hb4)))
    all_goals
      go_wp2_with fail
      first
        | (refine (fun (hk0 : Below w3.heap.size w3 _) => (fun (hkk : Below w3.heap.size w3 w4) => ?_) (upB hk0 (gB hg4))) ?_; rotate_left; (focus (repeat (first | exact Below.refl _ _ | refine Below.drew ?_ | refine below_empty ?_ _)); done);
           have hT := hide ((((hz.out.up hb4).set0 (.slice (some ⟨g3, 0, none⟩) n c3)).set1 (.int .i64 p.step)).set2 (.slice (some ⟨g4, 0, none⟩) n' c4));
           have hOa := hide ((((ho3.up hkk).setLow (a := ⟨w.heap.size + 1, 0, none⟩) hl3 (.slice (some ⟨g3, 0, none⟩) n c3)).setLow (a := ⟨w.heap.size + 1, 1, none⟩) hl3 (.int .i64 p.step)).setLow (a := ⟨w.heap.size + 1, 2, none⟩) hl3 (.slice (some ⟨g4, 0, none⟩) n' c4)); have hOb := hide (((ho4.setLow (a := ⟨w.heap.size + 1, 0, none⟩) hl4 (.slice (some ⟨g3, 0, none⟩) n c3)).setLow (a := ⟨w.heap.size + 1, 1, none⟩) hl4 (.int .i64 p.step)).setLow (a := ⟨w.heap.size + 1, 2, none⟩) hl4 (.slice (some ⟨g4, 0, none⟩) n' c4));
           have hne : g3 ≠ g4 := (by have u1 := (ho3.row.lt g3 rfl).2; have u2 := (ho4.row.lt g4 rfl).1; have u3 := hk0.size; omega);
           have hBl := hide ((((upB hq0.out hb4).setCell (p := ⟨w.heap.size + 1, 0, none⟩) (Nat.le_succ _) (.slice (some ⟨g3, 0, none⟩) n c3)).setCell (p := ⟨w.heap.size + 1, 1, none⟩) (Nat.le_succ _) (.int .i64 p.step)).setCell (p := ⟨w.heap.size + 1, 2, none⟩) (Nat.le_succ _) (.slice (some ⟨g4, 0, none⟩) n' c4));
           obtain ⟨k0, k1, k2, _, _, _, _⟩ := hT.out;
           refine bodyPost_ret (v := .agg #[.slice (some ⟨g3, 0, none⟩) n c3, .int .i64 p.step, .slice (some ⟨g4, 0, none⟩) n' c4]) ?_ rfl ⟨_, rfl, ⟨_, _, _, _, _, _, rfl, ((hOa.out).down (by omega)), .inl ((hOb.out).down (by omega)), ⟨fun _ e => hne (by simpa [Value.ownBlock] using e), fun e => by rw [e] at hl2; simp at hl2; omega⟩, hwf⟩, hBl.out⟩;
           (focus (simp [results, Try.results38, go_sem, k0, k1, k2]; done)))
        | (refine (fun (hk0 : Below w4.heap.size w4 _) => (fun (hkk : Below w4.heap.size w4 w3) => ?_) (upB hk0 (gB hg3))) ?_; rotate_left; (focus (repeat (first | exact Below.refl _ _ | refine Below.drew ?_ | refine below_empty ?_ _)); done);
           have hT := hide ((((hz.out.up hb3).set0 (.slice (some ⟨g3, 0, none⟩) n c3)).set1 (.int .i64 p.step)).set2 (.slice (some ⟨g4, 0, none⟩) n' c4));
           have hOa := hide ((((ho4.up hkk).setLow (a := ⟨w.heap.size + 1, 0, none⟩) hl4 (.slice (some ⟨g3, 0, none⟩) n c3)).setLow (a := ⟨w.heap.size + 1, 1, none⟩) hl4 (.int .i64 p.step)).setLow (a := ⟨w.heap.size + 1, 2, none⟩) hl4 (.slice (some ⟨g4, 0, none⟩) n' c4)); have hOb := hide (((ho3.setLow (a := ⟨w.heap.size + 1, 0, none⟩) hl3 (.slice (some ⟨g3, 0, none⟩) n c3)).setLow (a := ⟨w.heap.size + 1, 1, none⟩) hl3 (.int .i64 p.step)).setLow (a := ⟨w.heap.size + 1, 2, none⟩) hl3 (.slice (some ⟨g4, 0, none⟩) n' c4));
           have hne : g3 ≠ g4 := (by have u1 := (ho4.row.lt g4 rfl).2; have u2 := (ho3.row.lt g3 rfl).1; have u3 := hk0.size; omega);
           have hBl := hide ((((upB hq0.out hb3).setCell (p := ⟨w.heap.size + 1, 0, none⟩) (Nat.le_succ _) (.slice (some ⟨g3, 0, none⟩) n c3)).setCell (p := ⟨w.heap.size + 1, 1, none⟩) (Nat.le_succ _) (.int .i64 p.step)).setCell (p := ⟨w.heap.size + 1, 2, none⟩) (Nat.le_succ _) (.slice (some ⟨g4, 0, none⟩) n' c4));
           obtain ⟨k0, k1, k2, _, _, _, _⟩ := hT.out;
           refine bodyPost_ret (v := .agg #[.slice (some ⟨g3, 0, none⟩) n c3, .int .i64 p.step, .slice (some ⟨g4, 0, none⟩) n' c4]) ?_ rfl ⟨_, rfl, ⟨_, _, _, _, _, _, rfl, ((hOb.out).down (by omega)), .inl ((hOa.out).down (by omega)), ⟨fun _ e => hne (by simpa [Value.ownBlock] using e), fun e => by rw [e] at hl2; simp at hl2; omega⟩, hwf⟩, hBl.out⟩;
           (focus (simp [results, Try.results38, go_sem, k0, k1, k2]; done)))
end Go.Proofs.Ytpnjihpdipoajaa
