/-
  The exact laws' marks on places: what is held.
-/
import Derived.Test.YtkgfbmlhplclfaaGreatDoorMarkP
namespace Go.Proofs.YtkgfbmlhplclfaaGreatDoor
open Go.RowKit
set_option linter.unusedVariables false

set_option maxRecDepth 100000 in
set_option maxHeartbeats 3200000 in
theorem heldPlace_c (A : Option Addr) (n c : Nat) (S : Int) (A' : Option Addr) (n' c' B : Nat) (k : Int) (zs ws : List Int) (w : World) (h1 : Ints w B A n c (mrk zs k n)) (h2 : Ints w B A' n' c' (mrk ws (k + (n : Int)) n')) (hB : B ≤ w.heap.size) (hz : n = zs.length) (hz' : n' = ws.length) (h0 : 0 ≤ k) (hk : k ≤ 100000000) (hn : n ≤ 1048576) (hn' : n' ≤ 1048576) :
    Calls Tryz.prog 12 #[.agg #[.slice A n c, .int .i64 S, .slice A' n' c'], .int .i64 k] w fun e w' => e = .returned (.int .i64 (k + (n : Int) + (n' : Int))) ∧ Below w.heap.size w w' := by
  replace hz := hide hz
  replace hz' := hide hz'
  have ht := hide (Tri.made w (.slice A n c) (.int .i64 S) (.slice A' n' c') 24)
  have hq0 := hide (al w (.cells #[.slice A n c, .int .i64 S, .slice A' n' c'] 24))
  have HA := hide (heldIntS_c A n c B k zs _ (h1.keep fun q hq => hq0.out.cell (by omega)) hz.out h0 (by omega) hn)
  have HB := hide (heldIntS_c A' n' c' B (k + (n : Int)) ws _ (h2.keep fun q hq => hq0.out.cell (by omega)) hz'.out (by omega) (by omega) hn')
  obtain ⟨t0, t1, t2, _⟩ := ht.out
  obtain ⟨K, hK⟩ : ∃ K : Int, Hid (k + (n : Int) = K) := ⟨_, hide rfl⟩
  rw [hK.out] at HA HB ⊢
  have hK0 : 0 ≤ K := by have := hK.out; omega
  obtain ⟨M, hM⟩ : ∃ M : Int, Hid (K + (n' : Int) = M) := ⟨_, hide rfl⟩
  rw [hM.out] at HB ⊢
  have hM0 : 0 ≤ M := by have := hM.out; omega
  clear h0 hk hn hn'
  go_enter Tryz.func12, Tryz.ntmps12
  go_wp2_with fail
  refine HA.out.mono ?_
  rintro e w1 ⟨rfl, rfl⟩
  go_wp2_with fail
  refine HB.out.mono ?_
  rintro e w2 ⟨rfl, rfl⟩
  go_wp2_with fail
  go_ret
  exact ⟨rfl, hq0.out⟩
end Go.Proofs.YtkgfbmlhplclfaaGreatDoor
