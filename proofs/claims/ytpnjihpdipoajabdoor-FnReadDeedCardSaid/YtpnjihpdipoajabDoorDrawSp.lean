/-
  Draws of chapter 14: a byte of a text is changed (l20Spoil).
-/
import Derived.Test.YtpnjihpdipoajabDoorDrawDd
import Derived.Test.YtpnjihpdipoajabDoorStrE
namespace Go.Proofs.YtpnjihpdipoajabDoor
open Go.RowKit
set_option linter.unusedVariables false

def lit6 : Array Value := #[.string ⟨#[]⟩, .string ⟨#[48]⟩, .string ⟨#[32]⟩, .string ⟨#[10]⟩, .string ⟨#[49]⟩, .string ⟨#[98, 97, 99, 107]⟩]
abbrev lit6O : Obj := .cells #[.string ⟨#[]⟩, .string ⟨#[48]⟩, .string ⟨#[32]⟩, .string ⟨#[10]⟩, .string ⟨#[49]⟩, .string ⟨#[98, 97, 99, 107]⟩] 9
theorem lit6_at (X : Nat) (h : X < 6) : ∃ v : ByteArray, lit6[X]? = some (.string v) ∧ v.size ≤ 4 := by
  rcases (show X = 0 ∨ X = 1 ∨ X = 2 ∨ X = 3 ∨ X = 4 ∨ X = 5 by omega) with rfl | rfl | rfl | rfl | rfl | rfl <;> exact ⟨_, rfl, by decide⟩
theorem lit6_cell {w : World} {X : Nat} {v : ByteArray} (h : lit6[X]? = some (.string v)) : (w.alloc lit6O).cell? ⟨w.heap.size, X, none⟩ = some (.string v) := by
  rw [World.cell?_alloc_at _ _ _ _ rfl]; exact h
theorem lit6_get {X : Nat} {v : ByteArray} (h : lit6[X]? = some (.string v)) (hX : X < [Value.string ⟨#[]⟩, Value.string ⟨#[48]⟩, Value.string ⟨#[32]⟩, Value.string ⟨#[10]⟩, Value.string ⟨#[49]⟩, Value.string ⟨#[98, 97, 99, 107]⟩].length) :
    [Value.string ⟨#[]⟩, Value.string ⟨#[48]⟩, Value.string ⟨#[32]⟩, Value.string ⟨#[10]⟩, Value.string ⟨#[49]⟩, Value.string ⟨#[98, 97, 99, 107]⟩][X] = .string v := by
  have e : lit6[X]? = ([Value.string ⟨#[]⟩, Value.string ⟨#[48]⟩, Value.string ⟨#[32]⟩, Value.string ⟨#[10]⟩, Value.string ⟨#[49]⟩, Value.string ⟨#[98, 97, 99, 107]⟩] : List Value)[X]? := by unfold lit6; simp
  rw [e, List.getElem?_eq_getElem hX] at h
  exact Option.some.inj h
theorem pick6 (g m : Nat) (w : World) (h : Rd w g m) (hm : m ≤ 100000) :
    Calls Tryd.prog 36 #[.pointer (some ⟨g, 0, none⟩), .int .i64 6] w fun e w' => ∃ x : Nat, e = .returned (.int .i64 (x : Int)) ∧ x < 6 ∧ Rd w' g (m + 1) ∧ w.grownBy w' (some g) := pickQ g m 6 w h hm (by omega) (by omega)
theorem Rd.al {w : World} {g m : Nat} (h : Rd w g m) (o : Obj) : Rd (w.alloc o) g m := h.kept (World.grownBy_alloc _ _ none) (fun _ e => by cases e)
theorem Rd.dr {w : World} {g m : Nat} (h : Rd w g m) : Rd w.drew g m := h.kept (row := none) ⟨rfl, rfl, rfl, Nat.le_refl _, fun _ _ _ => rfl⟩ (fun _ e => by cases e)
theorem gr_al {w0 W W' : World} {g : Nat} {o : Obj} (h : w0.grownBy W (some g)) (h2 : (W.alloc o).grownBy W' (some g)) : w0.grownBy W' (some g) := grown_new (grown_alloc h o) h2 (fun _ _ => .inr rfl)
theorem gr_dr {w0 W : World} {g : Nat} (h : w0.grownBy W (some g)) : w0.grownBy W.drew (some g) := grown_new h (q := none) ⟨rfl, rfl, rfl, Nat.le_refl _, fun _ _ _ => rfl⟩ (fun _ e => by cases e)
theorem gr_tr {w0 W W' : World} {g : Nat} (h : w0.grownBy W (some g)) (h2 : W.grownBy W' (some g)) : w0.grownBy W' (some g) := grown_new h h2 (fun _ _ => .inr rfl)
set_option maxRecDepth 100000 in
set_option maxHeartbeats 3200000 in
theorem l20Spoil_c (g m : Nat) (s : ByteArray) (w : World) (h : Rd w g m) (hm : m ≤ 50000) (hs : s.size ≤ 100000) :
    Calls Tryd.prog 37 #[.pointer (some ⟨g, 0, none⟩), .string s] w fun e w' => ∃ t, e = .returned (.string t) ∧ t.size ≤ s.size + 4 ∧ Rd w' g (m + 2) ∧ w.grownBy w' (some g) := by
  by_cases h0 : s.size = 0
  · have hh0 : (s.size : Int) = 0 := by omega
    go_enter Tryd.func37, Tryd.ntmps37
    go_wp2_with fail
    go_ret
    exact ⟨_, rfl, by show 1 ≤ s.size + 4; omega, h.more (by omega), World.grownBy.refl w _⟩
  · have hP := hide (pick_c g m (s.size : Int) w h (by omega) (by omega) (by omega))
    have hh0 : ((s.size : Int) == 0) = false := beq_eq_false_iff_ne.2 (by omega)
    have hgl := h.lt
    go_enter Tryd.func37, Tryd.ntmps37
    go_wp2_with fail
    refine hP.out.mono ?_
    rintro e w1 ⟨k0, rfl, hk0, hk1, hr1, hg1⟩
    obtain ⟨k, rfl⟩ : ∃ k : Nat, k0 = (k : Int) := ⟨k0.toNat, by omega⟩
    have hks : k < s.size := by omega
    have hkw : IntKind.i64.wrap ((k : Int) + 1) = (k : Int) + 1 := IntWalk.i64_in _ (by omega)
    have ha1 : (0 : Int) ≤ (k : Int) := by omega
    have ha2 : (k : Int) ≤ (s.size : Int) := by omega
    have ha3 : (0 : Int) ≤ (k : Int) + 1 := by omega
    have ha4 : (k : Int) + 1 ≤ (s.size : Int) := by omega
    have ha5 : ((k : Int) + 1).toNat = k + 1 := by omega
    have hE1 := hide (show (s.extract 0 k).size = k by simp; omega)
    have hE2 := hide (show (s.extract (k + 1) s.size).size = s.size - (k + 1) by simp)
    replace hr1 := hide hr1
    replace hg1 := hide hg1
    have hgr : g < w1.heap.size := hr1.out.lt
    have hn1 : w1.heap.size ≠ g := by omega
    have hl1 : w1.heap.size < w1.heap.size + 1 := by omega
    go_wp2_with fail
    go_region_law (
         (go_simp
          go_at_call 36
          (with_reducible refine (pick6 g (m + 1) _ (by (repeat (first | exact hr1.out | with_reducible refine Rd.dr ?_ | with_reducible refine Rd.al ?_ _)); done) (by omega)).mono ?_)
          rintro e wp ⟨X, rfl, hX, hrp, hgp⟩
          obtain ⟨v, hv, hvs⟩ := lit6_at X hX
          have hX6 : (X : Int) < 6 := by omega
          have q1 : ¬ 9223372036854775807 < min k s.size + v.size := by omega
          have q2 : ¬ 9223372036854775807 < min k s.size + v.size + (s.size - (k + 1)) := by omega
          have hfin := hide (show (s.extract 0 k ++ v ++ s.extract (k + 1) s.size).size ≤ s.size + 4 by rw [ByteArray.size_append, ByteArray.size_append, hE1.out, hE2.out]; omega)
          have hcU : ∀ W : World, (W.alloc lit6O).cell? ⟨W.heap.size, X, none⟩ = some (.string v) := fun W => lit6_cell hv
          have hgE := lit6_get hv (by simpa using hX)
          have hAC := allocC
          have hCp := farC hgp
          have hgw : Hid (w.grownBy wp (some g)) := gr_tr (by (repeat (first | exact hg1.out | with_reducible refine gr_dr ?_ | with_reducible refine grown_alloc ?_ _)); done) hgp
          replace hrp := hide hrp
          replace hgp := hide hgp))
    all_goals
      go_wp2_with fail
      go_ret
      exact ⟨_, rfl, hfin.out, (by repeat (first | exact hrp.out.more (by omega) | exact hrp.out | refine Rd.dr ?_ | refine Rd.al ?_ _)), (by repeat (first | exact hgw.out | refine gr_dr ?_ | refine grown_alloc ?_ _))⟩
end Go.Proofs.YtpnjihpdipoajabDoor
