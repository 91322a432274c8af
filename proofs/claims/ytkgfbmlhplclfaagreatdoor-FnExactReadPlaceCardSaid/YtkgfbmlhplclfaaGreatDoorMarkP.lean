/-
  What a call leaves as it was outside a row of blocks; the exact laws' marks on places.
-/
import Derived.Test.YtkgfbmlhplclfaaGreatDoorCloneA
import Derived.Test.YtkgfbmlhplclfaaGreatDoorPlsX
namespace Go.Proofs.YtkgfbmlhplclfaaGreatDoor
open Go.RowKit
set_option linter.unusedVariables false

/-- All blocks but those from 'lo' on, below 'hi', are as they were. -/
structure Only (w w' : World) (lo hi : Nat) : Prop where
  b0 : Below 0 w w'
  block : ∀ k, k < w.heap.size → (k < lo ∨ hi ≤ k) → w'.heap[k]? = w.heap[k]?
section
variable {w w' w1 w2 : World} {lo hi lo' hi' B n c b : Nat} {v : Value} {A : Option Addr} {zs : List Int} {x y z u : Value} {ps : List Plc}
theorem Only.size (h : Only w w' lo hi) : w.heap.size ≤ w'.heap.size := h.b0.size
theorem Only.refl (w : World) (lo hi : Nat) : Only w w lo hi := ⟨Below.refl _ _, fun _ _ _ => rfl⟩
theorem Only.up (h : Only w w1 lo hi) (hq : Below w1.heap.size w1 w2) : Only w w2 lo hi :=
  ⟨h.b0.trans (hq.mono (Nat.zero_le _)), fun k hk ho => (hq.block k (Nat.lt_of_lt_of_le hk h.size)).trans (h.block k hk ho)⟩
theorem Only.grown {row : Option Nat} (h : Only w w1 lo hi) (hg : w1.grownBy w2 row) (hr : ∀ k, row = some k → lo ≤ k ∧ k < hi) : Only w w2 lo hi :=
  ⟨h.b0.trans ⟨hg.os, hg.tape, hg.output, hg.size, fun k hk => absurd hk (Nat.not_lt_zero _)⟩, fun k hk ho => (hg.block k (Nat.lt_of_lt_of_le hk h.size) (fun e => by have := hr k e.symm; omega)).trans (h.block k hk ho)⟩
theorem Only.trans (h : Only w w1 lo hi) (h2 : Only w1 w2 lo hi) : Only w w2 lo hi :=
  ⟨h.b0.trans h2.b0, fun k hk ho => (h2.block k (Nat.lt_of_lt_of_le hk h.size) ho).trans (h.block k hk ho)⟩
theorem Only.wide (h : Only w w' lo hi) (h1 : lo' ≤ lo) (h2 : hi ≤ hi') : Only w w' lo' hi' := ⟨h.b0, fun k hk ho => h.block k hk (by omega)⟩
theorem Only.cell (h : Only w w' lo hi) {a : Addr} (ha : a.block < w.heap.size) (ho : a.block < lo ∨ hi ≤ a.block) : w'.cell? a = w.cell? a := World.cell?_of_block (h.block _ ha ho)
theorem row_same {e : TypeId} {size : Nat} {xs : List Value} (h : w.ownsRow b e size v n xs) (hs : ∀ k, v.ownBlock = some k → w'.heap[k]? = w.heap[k]?) : w'.ownsRow b e size v n xs := by
  refine ⟨h.1, ?_⟩
  rcases h.2 with hn | ⟨g, cap, cur, hv, hg, hh, r⟩
  · exact .inl hn
  · exact .inr ⟨g, cap, cur, hv, hg, (hs g (by rw [hv]; rfl)).trans hh, r⟩
theorem Only.own (h : Only w w' lo hi) (ho : Own w b v zs) (hv : ∀ k, v.ownBlock = some k → k < lo ∨ hi ≤ k) : Own w' b v zs :=
  ⟨row_same ho.row fun k hk => h.block k (ho.row.lt k hk).2 (hv k hk), ho.wf⟩
theorem Only.tri {g : Nat} (h : Only w w' lo hi) (ht : Tri w g x y z) (hg : g < lo ∨ hi ≤ g) : Tri w' g x y z :=
  ⟨(h.cell ht.lt hg).trans ht.c0, (h.cell ht.lt hg).trans ht.c1, (h.cell ht.lt hg).trans ht.c2, Nat.lt_of_lt_of_le ht.lt h.size⟩
theorem Only.qua {g : Nat} (h : Only w w' lo hi) (ht : Qua w g x y z u) (hg : g < lo ∨ hi ≤ g) : Qua w' g x y z u :=
  ⟨(h.cell ht.lt hg).trans ht.c0, (h.cell ht.lt hg).trans ht.c1, (h.cell ht.lt hg).trans ht.c2, (h.cell ht.lt hg).trans ht.c3, Nat.lt_of_lt_of_le ht.lt h.size⟩
theorem Only.below {a : World} (h : Only w w' lo hi) (hb : Below B a w) (hB : B ≤ lo) (hs : B ≤ a.heap.size) : Below B a w' :=
  ⟨h.b0.os.trans hb.os, h.b0.tape.trans hb.tape, h.b0.output.trans hb.output, Nat.le_trans hb.size h.size, fun k hk => (h.block k (by have := hb.size; omega) (.inl (by omega))).trans (hb.block k hk)⟩
theorem Only.plM {p : Plc} (h : Only w w' lo hi) (hp : PlM w B v p) (hB : B ≤ lo) (hs : B ≤ w.heap.size) : PlM w' B v p := hp.keep fun q hq => h.cell (by omega) (.inl (by omega))
theorem Only.dkM {p : Dsk} (h : Only w w' lo hi) (hp : DkM w B v p) (hB : B ≤ lo) (hs : B ≤ w.heap.size) : DkM w' B v p := hp.keep fun q hq => h.cell (by omega) (.inl (by omega))
end

set_option maxRecDepth 100000 in
set_option maxHeartbeats 1600000 in
theorem markPlace_c (A : Option Addr) (n c : Nat) (S : Int) (A' : Option Addr) (n' c' lo hi : Nat) (k : Int) (zs ws : List Int) (w : World) (h1 : Own w lo (.slice A n c) zs) (h2 : Own w lo (.slice A' n' c') ws)
    (hne : (Value.slice A n c).ownBlock = none ∨ (Value.slice A n c).ownBlock ≠ (Value.slice A' n' c').ownBlock) (hb1 : ∀ g, (Value.slice A n c).ownBlock = some g → g < hi) (hb2 : ∀ g, (Value.slice A' n' c').ownBlock = some g → g < hi) (h0 : 0 ≤ k) (hk : k ≤ 100000000) (hn : n ≤ 1048576) (hn' : n' ≤ 1048576) :
    Calls Tryz.prog 11 #[.agg #[.slice A n c, .int .i64 S, .slice A' n' c'], .int .i64 k] w fun e w' => e = .returned (.int .i64 (k + (n : Int) + (n' : Int))) ∧ Own w' lo (.slice A n c) (mrk zs k n) ∧ Own w' lo (.slice A' n' c') (mrk ws (k + (n : Int)) n') ∧ Only w w' lo hi := by
  have hlo1 := hide h1.row.lt
  have hlo2 := hide h2.row.lt
  have hap : ∀ {x y : Value}, (x.ownBlock = none ∨ x.ownBlock ≠ y.ownBlock) → (y.ownBlock = none ∨ y.ownBlock ≠ x.ownBlock) := fun {x y} h => by
    cases hy : y.ownBlock with
    | none => exact .inl rfl
    | some j => exact .inr fun e => by rcases h with h | h
                                       · rw [h] at e; cases e
                                       · exact h (by rw [hy, e])
  have ht := hide (Tri.made w (.slice A n c) (.int .i64 S) (.slice A' n' c') 24)
  have hq0 := hide (al w (.cells #[.slice A n c, .int .i64 S, .slice A' n' c'] 24))
  have HA := hide (mark_c A n c lo k zs _ (h1.up hq0.out) h0 (by omega) hn)
  have ho2 := hide (h2.up hq0.out)
  obtain ⟨t0, t1, t2, _⟩ := ht.out
  go_enter Tryz.func11, Tryz.ntmps11
  go_wp2_with fail
  refine HA.out.mono ?_
  rintro e w1 ⟨rfl, ho1, hg1⟩
  have hO1 := hide (((Only.refl w lo hi).up hq0.out).grown hg1 (fun j e => ⟨(hlo1.out j e).1, hb1 j e⟩))
  have ht1 := hide (show Tri w1 w.heap.size (.slice A n c) (.int .i64 S) (.slice A' n' c') from by
    have hbl := hg1.block w.heap.size ht.out.lt (fun e => by have := (hlo1.out _ e.symm).2; omega)
    have hc : ∀ o, w1.cell? ⟨w.heap.size, o, none⟩ = (w.alloc (.cells #[.slice A n c, .int .i64 S, .slice A' n' c'] 24)).cell? ⟨w.heap.size, o, none⟩ := fun o => World.cell?_of_block hbl
    exact ⟨(hc 0).trans ht.out.c0, (hc 1).trans ht.out.c1, (hc 2).trans ht.out.c2, Nat.lt_of_lt_of_le ht.out.lt hg1.size⟩)
  have HB := hide (mark_c A' n' c' lo (k + (n : Int)) ws w1 (ho2.out.kept hg1 (hap hne)) (by omega) (by omega) hn')
  obtain ⟨a0, a1, a2, _⟩ := ht1.out
  replace ho1 := hide ho1
  clear hg1 HA
  go_wp2_with fail
  refine HB.out.mono ?_
  rintro e w2 ⟨rfl, ho3, hg2⟩
  have hO2 := hide (hO1.out.grown hg2 (fun j e => ⟨(hlo2.out j e).1, hb2 j e⟩))
  have ho4 := hide (ho1.out.kept hg2 hne)
  clear hg2 HB
  go_wp2_with fail
  go_ret
  exact ⟨rfl, ho4.out, ho3, hO2.out⟩

end Go.Proofs.YtkgfbmlhplclfaaGreatDoor
