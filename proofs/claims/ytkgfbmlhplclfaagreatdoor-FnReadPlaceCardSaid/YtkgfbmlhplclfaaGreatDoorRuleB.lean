/-
  Contracts of chapter 4, the program's side: the closure of drawnByRule (a step of a fold over a struct).
-/
import Derived.Test.YtkgfbmlhplclfaaGreatDoorRuleA
import Derived.Test.YtkgfbmlhplclfaaGreatDoorZrule
import Derived.Test.YtkgfbmlhplclfaaGreatDoorZdraw
import Derived.Test.YtkgfbmlhplclfaaGreatDoorZoks
import Derived.Deep.RegionWith
namespace Go.Proofs.YtkgfbmlhplclfaaGreatDoor
open Go.RowKit

/-- A block of two cells that may be written. -/
structure Two (w : World) (g : Nat) (x y : Value) : Prop where
  c0 : w.cell? ⟨g, 0, none⟩ = some x
  c1 : w.cell? ⟨g, 1, none⟩ = some y
  f0 : w.frozen? ⟨g, 0, none⟩ = false
  f1 : w.frozen? ⟨g, 1, none⟩ = false
  lt : g < w.heap.size
theorem Two.below {w w' : World} {B g : Nat} {x y : Value} (h : Two w g x y) (hb : Below B w w') (hg : g < B) : Two w' g x y :=
  ⟨(hb.cell (p := ⟨g, 0, none⟩) hg).trans h.c0, (hb.cell (p := ⟨g, 1, none⟩) hg).trans h.c1, (hb.frozen (p := ⟨g, 0, none⟩) hg).trans h.f0, (hb.frozen (p := ⟨g, 1, none⟩) hg).trans h.f1, Nat.lt_of_lt_of_le h.lt hb.size⟩
theorem Two.made (w : World) (x y : Value) (T : TypeId) : Two (w.alloc (.cells #[x, y] T)) w.heap.size x y :=
  ⟨by rw [World.cell?_alloc_new]; rfl, by rw [World.cell?_alloc_new]; rfl, World.frozen?_alloc_new w _ _ _, World.frozen?_alloc_new w _ _ _, by simp⟩
theorem Two.set2 {w : World} {g : Nat} {x y : Value} (h : Two w g x y) (u v : Value) : Two ((w.setCell ⟨g, 0, none⟩ u).setCell ⟨g, 1, none⟩ v) g u v := by
  refine ⟨?_, ?_, by simp [h.f0], by simp [h.f1], by simpa using h.lt⟩
  · rw [World.cell?_setCell_other _ _ _ _ (by simp)]
    exact World.cell?_setCell_same _ _ _ h.c0
  · exact World.cell?_setCell_same _ _ _ ((World.cell?_setCell_other _ _ _ _ (by simp)).trans h.c1)
theorem Two.setOther {w : World} {g : Nat} {x y : Value} (h : Two w g x y) {a : Addr} (hg : a.block ≠ g) (u : Value) : Two (w.setCell a u) g x y :=
  ⟨(World.cell?_setCell_other _ _ _ _ (fun e => hg (by rw [e]))).trans h.c0, (World.cell?_setCell_other _ _ _ _ (fun e => hg (by rw [e]))).trans h.c1, by simp [h.f0], by simp [h.f1], by simpa using h.lt⟩
theorem grown_two (w : World) (a : Addr) (u : Value) : w.grownBy (w.setCell a u) (some a.block) :=
  ⟨rfl, rfl, rfl, by simp, fun k _ hk => Below.heap_setCell _ _ _ k (fun e => hk (by rw [e]))⟩
theorem Own.setOther {w : World} {base : Nat} {v : Value} {zs : List Int} (h : Own w base v zs) {a : Addr} (hne : v.ownBlock ≠ some a.block) (u : Value) : Own (w.setCell a u) base v zs :=
  h.kept (grown_two w a u) (.inr hne)
theorem Own.setBelow {w : World} {base : Nat} {v : Value} {zs : List Int} (h : Own w base v zs) {a : Addr} (ha : a.block < base) (u : Value) : Own (w.setCell a u) base v zs := ⟨ownsRow_setCell_below h.row ha u, h.wf⟩

set_option maxHeartbeats 800000 in
theorem drawStep0_c (A : Option Addr) (n c B g X : Nat) (us : List Int) (P y : Int) (w : World) (h : Ints w B A n c us) (hB : B ≤ w.heap.size) (hy : us[X]? = some y) (hP : P * y = 0) :
    Calls Tryz.prog 86 #[.agg #[.slice A n c, .int .i64 P], .int .i64 X, .pointer (some ⟨g, 0, none⟩)] w fun e w' => e = .returned (.agg #[.slice A n c, .int .i64 0]) ∧ Below w.heap.size w w' := by
  have hn := h.nb
  have hlt : X < n := by have := (List.getElem?_eq_some_iff.1 hy).1; have := h.len; omega
  obtain ⟨b, off, y', rfl, hb, hy', hcell⟩ := h.look hlt
  have hyy := hide (show y' = y by have e := hy'.out; rw [hy] at e; injection e with e; exact e.symm)
  have hP2 := hide (show wrap64 (P * y') = 0 by rw [hyy.out, hP]; exact IntWalk.wrap64_in 0 (by decide))
  have hbs : b < w.heap.size := Nat.lt_of_lt_of_le hb hB
  clear hy hP
  go_enter Tryz.func86, Tryz.ntmps86
  go_wp2_with fail
  go_quiet (fail)
  rw [hP2.out]
  go_wp2_with fail
  exact bodyPost_ret (v := .agg #[.slice (some ⟨b, off, none⟩) n c, .int .i64 0]) (by simp [results, Tryz.results86, go_sem]) rfl ⟨rfl, ((below_drewN ((al w _).alloc (by simp) _) _).setCell (Nat.le_succ _) _).setCell (Nat.le_succ _) _⟩

set_option maxHeartbeats 800000 in
theorem drawStep_c (A A1 : Option Addr) (n c B n1 c1 B1 g X : Nat) (us l : List Int) (rs : List (List Int)) (P y : Int) (w : World) (h : Ints w B A n c us) (hB : B ≤ w.heap.size) (h1 : Mat w B1 A1 n1 c1 rs) (hB1 : B1 ≤ w.heap.size) (hg : w.cell? ⟨g, 0, none⟩ = some (.slice A1 n1 c1)) (hgs : g < w.heap.size) (hy : us[X]? = some y) (hr : rs[X]? = some l) (hll : l.length = n) (hP : 0 < P * y) (hP2 : P * y ≤ 9223372036854775807) (hn3 : n ≤ 1000) (hm : ∀ x ∈ us, -1000 ≤ x ∧ x ≤ 1000) (hm' : ∀ x ∈ l, -1000 ≤ x ∧ x ≤ 1000) :
    Calls Tryz.prog 86 #[.agg #[.slice A n c, .int .i64 P], .int .i64 X, .pointer (some ⟨g, 0, none⟩)] w fun e w' => ∃ A₂ n₂ c₂, e = .returned (.agg #[.slice A₂ n₂ c₂, .int .i64 (P * y)]) ∧ Own w' w.heap.size (.slice A₂ n₂ c₂) (addL us l) ∧ Below w.heap.size w w' := by
  have hn := h.nb
  have hlt : X < n := by have := (List.getElem?_eq_some_iff.1 hy).1; have := h.len; omega
  have hlt1 : X < n1 := by have := (List.getElem?_eq_some_iff.1 hr).1; have := h1.len; omega
  obtain ⟨b, off, y', rfl, hb, hy', hcell⟩ := h.look hlt
  obtain ⟨b1, off1, l', A3, n3, c3, rfl, hb1, hl', hcell1, hrow⟩ := h1.look hlt1
  obtain rfl : l' = l := by have e := hl'.out; rw [hr] at e; injection e with e; exact e.symm
  obtain rfl : n3 = n := by rw [← hrow.out.len, hll]
  obtain rfl : y' = y := by have e := hy'.out; rw [hy] at e; injection e with e; exact e.symm
  have hw := hide (show wrap64 (P * y') = P * y' from IntWalk.wrap64_in _ ⟨Int.le_trans (by decide) (Int.le_of_lt hP), hP2⟩)
  have hne : (P * y' == 0) = false := beq_false_of_ne (Int.ne_of_gt hP)
  have hbs : b < w.heap.size := Nat.lt_of_lt_of_le hb hB
  have hb1s : b1 < w.heap.size := Nat.lt_of_lt_of_le hb1 hB1
  obtain ⟨W0, hW0⟩ : ∃ W0, Hid ((w.alloc (.cells #[.slice (some ⟨b, off, none⟩) n3 c, .int .i64 P] 82)).alloc (.cells #[.slice none 0 0, .int .i64 0] 82) = W0) := ⟨_, hide rfl⟩
  have hz0 := hide (show W0.heap.size = w.heap.size + 2 by rw [← hW0.out]; simp)
  have hq0 := hide (show Below w.heap.size w W0 by rw [← hW0.out]; exact (al w _).alloc (by simp) _)
  have hc0 := hide (show W0.cell? ⟨w.heap.size + 1, 0, none⟩ = some (.slice none 0 0) by rw [← hW0.out]; rw [World.cell?_alloc_at _ _ _ _ (by simp)]; rfl)
  have hc1 := hide (show W0.cell? ⟨w.heap.size + 1, 1, none⟩ = some (.int .i64 0) by rw [← hW0.out]; rw [World.cell?_alloc_at _ _ _ _ (by simp)]; rfl)
  have hf0 := hide (show W0.frozen? ⟨w.heap.size + 1, 0, none⟩ = false ∧ W0.frozen? ⟨w.heap.size + 1, 1, none⟩ = false by rw [← hW0.out]; exact ⟨by simp, by simp⟩)
  have HA := hide (fun (W : World) (hq : Below (w.heap.size + 2) W0 W) => show Calls Tryz.prog 87 #[.slice (some ⟨b, off, none⟩) n3 c, .slice A3 n3 c3] W (fun e w' => ∃ A₂ n₂ c₂, e = .returned (.slice A₂ n₂ c₂) ∧ Hid (Own w' (w.heap.size + 2) (.slice A₂ n₂ c₂) (addL us l')) ∧ Hid (Below (w.heap.size + 2) W0 w') ∧ w'.cell? ⟨w.heap.size + 1, 0, none⟩ = some (.slice none 0 0) ∧ w'.cell? ⟨w.heap.size + 1, 1, none⟩ = some (.int .i64 0) ∧ w'.frozen? ⟨w.heap.size + 1, 0, none⟩ = false ∧ w'.frozen? ⟨w.heap.size + 1, 1, none⟩ = false) from by
    have hs2 : w.heap.size + 2 ≤ W.heap.size := by have := hq.size; have := hz0.out; omega
    have hqw := hq0.out.trans (hq.mono (by omega))
    refine (added_c _ A3 n3 c B c3 B1 us l' W (h.below (hqw.mono hB)) (hrow.out.below (hqw.mono hB1)) (Nat.le_trans hB (by omega)) (Nat.le_trans hB1 (by omega)) hn3 hm hm').mono ?_
    rintro e w' ⟨A₂, n₂, c₂, e1, ho, hq'⟩
    have hq2 := hq.trans (hq'.mono hs2)
    exact ⟨A₂, n₂, c₂, e1, ho.down hs2, hq2, (hq2.cell (p := ⟨w.heap.size + 1, 0, none⟩) (Nat.lt_succ_self _)).trans hc0.out, (hq2.cell (p := ⟨w.heap.size + 1, 1, none⟩) (Nat.lt_succ_self _)).trans hc1.out, (hq2.frozen (p := ⟨w.heap.size + 1, 0, none⟩) (Nat.lt_succ_self _)).trans hf0.out.1, (hq2.frozen (p := ⟨w.heap.size + 1, 1, none⟩) (Nat.lt_succ_self _)).trans hf0.out.2⟩)
  have e0 := hW0.out
  subst e0
  clear hW0 hz0 hq0 hc0 hc1 hf0 hy hr hP hP2 hm hm' hll
  go_enter Tryz.func86, Tryz.ntmps86
  go_wp2_with fail
  go_quiet (fail)
  rw [hw.out]
  go_wp2_with fail
  go_region_with (first | (go_at_call 87; (with_reducible refine (HA.out _ ?_).mono ?_); (focus (repeat (first | assumption | exact Below.refl _ _ | refine below_drewN ?_ _ | refine Below.drew ?_)); done); rintro e w' ⟨A₂, n₂, c₂, rfl, ho, hq, q1, q2, q3, q4⟩))
  all_goals
    go_wp2_with fail
    exact bodyPost_ret (v := .agg #[.slice A₂ n₂ c₂, .int .i64 (P * y')]) (by simp [results, Tryz.results86, go_sem, q1, q2]) rfl ⟨_, _, _, rfl, ((ho.out.setBelow (Nat.lt_succ_self _) _).setBelow (Nat.lt_succ_self _) _).down (by omega), ((((al w _).alloc (by simp) _).trans (hq.out.mono (by omega))).setCell (Nat.le_succ _) _).setCell (Nat.le_succ _) _⟩
end Go.Proofs.YtkgfbmlhplclfaaGreatDoor
