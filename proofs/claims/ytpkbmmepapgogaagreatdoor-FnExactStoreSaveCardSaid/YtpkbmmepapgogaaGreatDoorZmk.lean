/-
  Words, plain lemmas and contracts that belong together, joined into one file.
-/
import Derived.Test.YtpkbmmepapgogaaGreatDoorZdk
import Derived.Test.YtpkbmmepapgogaaGreatDoorZpx
namespace Go.Proofs.YtpkbmmepapgogaaGreatDoor
open Go.RowKit
set_option linter.unusedVariables false

/-- All blocks but those from 'lo' on, below 'hi', are as they were. -/
structure Only (w w' : World) (lo hi : Nat) : Prop where
  b0 : Below 0 w w'
  block : ∀ k, k < w.heap.size → (k < lo ∨ hi ≤ k) → w'.heap[k]? = w.heap[k]?
section
variable {w w' w1 w2 : World} {lo hi lo' hi' B n c b : Nat} {v : Value} {A : Option Addr} {zs : List Int} {x y z u : Value} {ps : List Plc}
theorem Only.size (h : Only w w' lo hi) : w.heap.size ≤ w'.heap.size := h.b0.size
theorem Only.refl (w : World) (lo hi : Nat) : Only w w lo hi := ⟨Below.refl _ _, fun _ _ _ => rfl⟩
theorem Only.up (h : Only w w1 lo hi) (hq : Below w1.heap.size w1 w2) : Only w w2 lo hi :=
  ⟨h.b0.trans (hq.mono (Nat.zero_le _)), fun k hk ho => (hq.block k (Nat.lt_of_lt_of_le hk h.size)).trans (h.block k hk ho)⟩
theorem Only.grown {row : Option Nat} (h : Only w w1 lo hi) (hg : w1.grownBy w2 row) (hr : ∀ k, row = some k → lo ≤ k ∧ k < hi) : Only w w2 lo hi :=
  ⟨h.b0.trans ⟨hg.os, hg.tape, hg.output, hg.size, fun k hk => absurd hk (Nat.not_lt_zero _)⟩, fun k hk ho => (hg.block k (Nat.lt_of_lt_of_le hk h.size) (fun e => by have := hr k e.symm; omega)).trans (h.block k hk ho)⟩
theorem Only.trans (h : Only w w1 lo hi) (h2 : Only w1 w2 lo hi) : Only w w2 lo hi :=
  ⟨h.b0.trans h2.b0, fun k hk ho => (h2.block k (Nat.lt_of_lt_of_le hk h.size) ho).trans (h.block k hk ho)⟩
theorem Only.wide (h : Only w w' lo hi) (h1 : lo' ≤ lo) (h2 : hi ≤ hi') : Only w w' lo' hi' := ⟨h.b0, fun k hk ho => h.block k hk (by omega)⟩
theorem Only.cell (h : Only w w' lo hi) {a : Addr} (ha : a.block < w.heap.size) (ho : a.block < lo ∨ hi ≤ a.block) : w'.cell? a = w.cell? a := World.cell?_of_block (h.block _ ha ho)
theorem row_same {e : TypeId} {size : Nat} {xs : List Value} (h : w.ownsRow b e size v n xs) (hs : ∀ k, v.ownBlock = some k → w'.heap[k]? = w.heap[k]?) : w'.ownsRow b e size v n xs := by
  refine ⟨h.1, ?_⟩
  rcases h.2 with hn | ⟨g, cap, cur, hv, hg, hh, r⟩
  · exact .inl hn
  · exact .inr ⟨g, cap, cur, hv, hg, (hs g (by rw [hv]; rfl)).trans hh, r⟩
theorem Only.own (h : Only w w' lo hi) (ho : Own w b v zs) (hv : ∀ k, v.ownBlock = some k → k < lo ∨ hi ≤ k) : Own w' b v zs :=
  ⟨row_same ho.row fun k hk => h.block k (ho.row.lt k hk).2 (hv k hk), ho.wf⟩
theorem Only.tri {g : Nat} (h : Only w w' lo hi) (ht : Tri w g x y z) (hg : g < lo ∨ hi ≤ g) : Tri w' g x y z :=
  ⟨(h.cell ht.lt hg).trans ht.c0, (h.cell ht.lt hg).trans ht.c1, (h.cell ht.lt hg).trans ht.c2, Nat.lt_of_lt_of_le ht.lt h.size⟩
theorem Only.qua {g : Nat} (h : Only w w' lo hi) (ht : Qua w g x y z u) (hg : g < lo ∨ hi ≤ g) : Qua w' g x y z u :=
  ⟨(h.cell ht.lt hg).trans ht.c0, (h.cell ht.lt hg).trans ht.c1, (h.cell ht.lt hg).trans ht.c2, (h.cell ht.lt hg).trans ht.c3, Nat.lt_of_lt_of_le ht.lt h.size⟩
theorem Only.below {a : World} (h : Only w w' lo hi) (hb : Below B a w) (hB : B ≤ lo) (hs : B ≤ a.heap.size) : Below B a w' :=
  ⟨h.b0.os.trans hb.os, h.b0.tape.trans hb.tape, h.b0.output.trans hb.output, Nat.le_trans hb.size h.size, fun k hk => (h.block k (by have := hb.size; omega) (.inl (by omega))).trans (hb.block k hk)⟩
theorem Only.plM {p : Plc} (h : Only w w' lo hi) (hp : PlM w B v p) (hB : B ≤ lo) (hs : B ≤ w.heap.size) : PlM w' B v p := hp.keep fun q hq => h.cell (by omega) (.inl (by omega))
theorem Only.dkM {p : Dsk} (h : Only w w' lo hi) (hp : DkM w B v p) (hB : B ≤ lo) (hs : B ≤ w.heap.size) : DkM w' B v p := hp.keep fun q hq => h.cell (by omega) (.inl (by omega))
end

end Go.Proofs.YtpkbmmepapgogaaGreatDoor

namespace Go.Proofs.YtpkbmmepapgogaaGreatDoor
open Go.RowKit
set_option linter.unusedVariables false

end Go.Proofs.YtpkbmmepapgogaaGreatDoor

namespace Go.Proofs.YtpkbmmepapgogaaGreatDoor
open Go.RowKit
set_option linter.unusedVariables false

set_option maxHeartbeats 400000 in
theorem markIntSZ_c (g c base : Nat) (k : Int) (zs : List Int) (w : World) (h : Own w base (.slice (some ⟨g, 0, none⟩) zs.length c) zs) (h0 : 0 ≤ k) (h1 : k ≤ 2000000000000000) (hn : zs.length ≤ 1048576) :
    Calls Tryz.prog 74 #[.slice (some ⟨g, 0, none⟩) zs.length c, .int .i64 k] w fun e w' => e = .returned (.int .i64 (k + (zs.length : Int))) ∧ Own w' base (.slice (some ⟨g, 0, none⟩) zs.length c) (mrk zs k zs.length) ∧ w.grownBy w' (some g) := by
  obtain ⟨n, hl⟩ : ∃ n, Hid (n = zs.length) := ⟨_, rfl⟩
  rw [← hl.out] at h hn ⊢
  go_enter Tryz.func74, Tryz.ntmps74
  go_wp2
  go_loopw [1, 5] (fun q i wr => ∃ j : Nat, j ≤ n ∧ i = .int .i64 j ∧ q = .int .i64 (k + (j : Int)) ∧ Hid (wr.ownsRow base 3 1 (.slice (some ⟨g, 0, none⟩) n c) n ((mrk zs k j).map (Value.int .i64))) ∧ Hid (w.grownBy wr (some g))) (fun _ i _ => n - (intOf i).toNat)
  case atStart => exact ⟨0, Nat.zero_le _, rfl, by simp, by rw [mrk_zero, hl.out]; exact hl.out ▸ h.row, World.grownBy.refl w _⟩
  case round =>
    obtain ⟨j, hj, rfl, rfl, ho, hg⟩ := hrel
    by_cases hlt : j < n
    · have hkl : j < ((mrk zs k j).map (Value.int .i64)).length := by rw [List.length_map, mrk_len _ _ _ (by have := hl.out; omega), ← hl.out]; exact hlt
      have hc2 := ho.out.cellAt j (by omega)
      rw [List.getElem?_eq_getElem hkl] at hc2
      obtain ⟨u, hu⟩ : ∃ u, ((mrk zs k j).map (Value.int .i64))[j] = u := ⟨_, rfl⟩
      rw [hu] at hc2
      clear hu
      have hf2 := ho.out.frozenAt j
      have hst := hide (ho.out.stored j (.int .i64 (k + (j : Int))))
      go_wp2
      go_roundw
      case rel => exact ⟨j + 1, by omega, by go_num, by go_num, by
        have := hst.out.1
        rw [← List.map_set, mrk_set zs k j (by have := hl.out; omega)] at this
        exact this, World.grownBy.trans hg.out hst.out.2⟩
      case measure => simp [intOf]; omega
    · obtain rfl : j = n := by omega
      go_wp2
      go_ret
      refine ⟨rfl, ⟨?_, ?_⟩, hg.out⟩
      · have := ho.out
        have e := hl.out
        subst e
        rw [mrk_len _ _ _ (Nat.le_refl _)]
        exact this
      · intro z hz
        have e := hl.out
        subst e
        obtain ⟨i, hi, rfl⟩ := List.getElem_of_mem hz
        have hi2 : i < zs.length := by rw [mrk_len _ _ _ (Nat.le_refl _)] at hi; exact hi
        have := mrk_get zs k i hi2
        rw [List.getElem?_eq_getElem hi] at this
        injection this with this
        rw [this]
        exact wf_i64 (by omega)

set_option maxRecDepth 100000 in
set_option maxHeartbeats 1600000 in
/-- markIntS over whatever the call owns. -/
theorem markZ_c (A : Option Addr) (n c base : Nat) (k : Int) (zs : List Int) (w : World) (h : Own w base (.slice A n c) zs) (h0 : 0 ≤ k) (h1 : k ≤ 2000000000000000) (hn : n ≤ 1048576) :
    Calls Tryz.prog 74 #[.slice A n c, .int .i64 k] w fun e w' => e = .returned (.int .i64 (k + (n : Int))) ∧ Own w' base (.slice A n c) (mrk zs k n) ∧ w.grownBy w' ((Value.slice A n c).ownBlock) := by
  rcases h.shape with ⟨hv, rfl⟩ | ⟨g, c2, hv, _, _⟩
  · injection hv with e1 e2 e3
    subst e1; subst e2; subst e3
    go_enter Tryz.func74, Tryz.ntmps74
    go_wp2
    refine wp_loop_rounds 1 ?_
    rw [rounds_succ]
    go_wp2
    go_ret
    exact ⟨ret_int (by simp), Own.none_, World.grownBy.refl w _⟩
  · injection hv with e1 e2 e3
    subst e1; subst e2; subst e3
    exact markIntSZ_c g _ base k zs w h h0 h1 hn

set_option maxRecDepth 100000 in
set_option maxHeartbeats 1600000 in
/-- What markIntS wrote is still there. -/
theorem heldIntSZ_c (A : Option Addr) (n c B : Nat) (k : Int) (zs : List Int) (w : World) (h : Ints w B A n c (mrk zs k n)) (hz : n = zs.length) (h0 : 0 ≤ k) (h1 : k ≤ 2000000000000000) (hn : n ≤ 1048576) :
    Calls Tryz.prog 75 #[.slice A n c, .int .i64 k] w fun e w' => e = .returned (.int .i64 (k + (n : Int))) ∧ w = w' := by
  have hl := hide hz
  clear hz
  go_enter Tryz.func75, Tryz.ntmps75
  go_wp2
  go_loop [1, 5] (fun q i => ∃ j : Nat, j ≤ n ∧ i = .int .i64 j ∧ q = .int .i64 (k + (j : Int))) (fun _ i => n - (intOf i).toNat)
  case atStart => exact ⟨0, Nat.zero_le _, rfl, by simp⟩
  case round =>
    obtain ⟨j, hj, rfl, rfl⟩ := hrel
    by_cases hlt : j < n
    · obtain ⟨b, off, x, rfl, hb, hx, hcell⟩ := h.look hlt
      have hxe : x = k + (j : Int) := by
        have := hx.out
        have e := hl.out
        subst e
        rw [mrk_get zs k j hlt] at this
        injection this with this
        exact this.symm
      subst hxe
      go_wp2
      go_round
      case rel => exact ⟨j + 1, by omega, by go_num, by go_num⟩
      case measure => simp [intOf]; omega
    · obtain rfl : j = n := by omega
      go_wp2
      go_ret
      exact ⟨rfl, rfl⟩
set_option maxRecDepth 100000 in
set_option maxHeartbeats 3200000 in
theorem heldPlaceZ_c (A : Option Addr) (n c : Nat) (S : Int) (A' : Option Addr) (n' c' B : Nat) (k : Int) (zs ws : List Int) (w : World) (h1 : Ints w B A n c (mrk zs k n)) (h2 : Ints w B A' n' c' (mrk ws (k + (n : Int)) n')) (hB : B ≤ w.heap.size) (hz : n = zs.length) (hz' : n' = ws.length) (h0 : 0 ≤ k) (hk : k ≤ 1000000000000000) (hn : n ≤ 1048576) (hn' : n' ≤ 1048576) :
    Calls Tryz.prog 46 #[.agg #[.slice A n c, .int .i64 S, .slice A' n' c'], .int .i64 k] w fun e w' => e = .returned (.int .i64 (k + (n : Int) + (n' : Int))) ∧ Below w.heap.size w w' := by
  replace hz := hide hz
  replace hz' := hide hz'
  have ht := hide (Tri.made w (.slice A n c) (.int .i64 S) (.slice A' n' c') 27)
  have hq0 := hide (al w (.cells #[.slice A n c, .int .i64 S, .slice A' n' c'] 27))
  have HA := hide (heldIntSZ_c A n c B k zs _ (h1.keep fun q hq => hq0.out.cell (by omega)) hz.out h0 (by omega) hn)
  have HB := hide (heldIntSZ_c A' n' c' B (k + (n : Int)) ws _ (h2.keep fun q hq => hq0.out.cell (by omega)) hz'.out (by omega) (by omega) hn')
  obtain ⟨t0, t1, t2, _⟩ := ht.out
  obtain ⟨K, hK⟩ : ∃ K : Int, Hid (k + (n : Int) = K) := ⟨_, hide rfl⟩
  rw [hK.out] at HA HB ⊢
  have hK0 : 0 ≤ K := by have := hK.out; omega
  obtain ⟨M, hM⟩ : ∃ M : Int, Hid (K + (n' : Int) = M) := ⟨_, hide rfl⟩
  rw [hM.out] at HB ⊢
  have hM0 : 0 ≤ M := by have := hM.out; omega
  clear h0 hk hn hn'
  go_enter Tryz.func46, Tryz.ntmps46
  go_wp2_with fail
  refine HA.out.mono ?_
  rintro e w1 ⟨rfl, rfl⟩
  go_wp2_with fail
  refine HB.out.mono ?_
  rintro e w2 ⟨rfl, rfl⟩
  go_wp2_with fail
  go_ret
  exact ⟨rfl, hq0.out⟩
end Go.Proofs.YtpkbmmepapgogaaGreatDoor

namespace Go.Proofs.YtpkbmmepapgogaaGreatDoor
open Go.RowKit
set_option linter.unusedVariables false

/-- A place all of whose cells lie below block B, which is there. -/
structure PlB (w : World) (B : Nat) (v : Value) (p : Plc) : Prop where
  pl : PlM w B v p
  le : B ≤ w.heap.size
section
variable {w w' : World} {B lo hi b : Nat} {v x y z u : Value} {p : Plc} {zs : List Int}
theorem PlB.up (h : PlB w B v p) (hq : Below w.heap.size w w') : PlB w' B v p := ⟨h.pl.below (hq.mono h.le), Nat.le_trans h.le hq.size⟩
theorem PlB.only (h : PlB w B v p) (hO : Only w w' lo hi) (hB : B ≤ lo) : PlB w' B v p := ⟨hO.plM h.pl hB h.le, Nat.le_trans h.le hO.size⟩
theorem PlB.plM (h : PlB w B v p) : PlM w w.heap.size v p := h.pl.more h.le
theorem Only.frozen (h : Only w w' lo hi) {a : Addr} (ha : a.block < w.heap.size) (ho : a.block < lo ∨ hi ≤ a.block) : w'.frozen? a = w.frozen? a := World.frozen?_of_block (h.block _ ha ho)
theorem TriW.only (h : TriW w b x y z) (hO : Only w w' lo hi) (hb : b < lo ∨ hi ≤ b) : TriW w' b x y z :=
  ⟨(hO.cell h.lt hb).trans h.c0, (hO.cell h.lt hb).trans h.c1, (hO.cell h.lt hb).trans h.c2, (hO.frozen h.lt hb).trans h.f0, (hO.frozen h.lt hb).trans h.f1, (hO.frozen h.lt hb).trans h.f2, Nat.lt_of_lt_of_le h.lt hO.size⟩
theorem QuaW.only (h : QuaW w b x y z u) (hO : Only w w' lo hi) (hb : b < lo ∨ hi ≤ b) : QuaW w' b x y z u :=
  ⟨(hO.cell h.lt hb).trans h.c0, (hO.cell h.lt hb).trans h.c1, (hO.cell h.lt hb).trans h.c2, (hO.cell h.lt hb).trans h.c3, (hO.frozen h.lt hb).trans h.f0, (hO.frozen h.lt hb).trans h.f1, (hO.frozen h.lt hb).trans h.f2, (hO.frozen h.lt hb).trans h.f3, Nat.lt_of_lt_of_le h.lt hO.size⟩
theorem belowSize {w0 : World} (hb : Below w0.heap.size w0 w) (hO : Only w w' lo hi) (hl : w0.heap.size ≤ lo) : Below w0.heap.size w0 w' := hO.below hb hl (Nat.le_refl _)
end
end Go.Proofs.YtpkbmmepapgogaaGreatDoor
