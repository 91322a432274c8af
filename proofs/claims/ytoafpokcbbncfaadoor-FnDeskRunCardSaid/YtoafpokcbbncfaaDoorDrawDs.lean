/-
  Draws of chapter 14: deeds; a desk and deeds (written by wip/gen_h9.py).
-/
import Derived.Test.YtoafpokcbbncfaaDoorDrawDr
import Derived.Test.YtoafpokcbbncfaaDoorZpd
import Derived.Test.YtoafpokcbbncfaaDoorDeedX
namespace Go.Proofs.YtoafpokcbbncfaaDoor
open Go.RowKit
set_option linter.unusedVariables false

set_option maxRecDepth 100000 in
set_option maxHeartbeats 3200000 in
theorem l20Deeds_c (g m : Nat) (A : Option Addr) (n c : Nat) (S : Int) (A' : Option Addr) (n' c' : Nat) (w : World) (h : Rd w g m) (hm : m ≤ 5000) (hn : n ≤ 1000000) :
    Calls Tryd.prog 68 #[.pointer (some ⟨g, 0, none⟩), .agg #[.slice A n c, .int .i64 S, .slice A' n' c']] w fun e w' => ∃ (A1 : Option Addr) (n1 c1 : Nat) (ds : List Ded), e = .returned (.slice A1 n1 c1) ∧ OwnD w' w.heap.size (.slice A1 n1 c1) ds ∧ ds.length ≤ 5 ∧ Rd w' g (m + 60) ∧ w.grownBy w' (some g) := by
  obtain ⟨i0, hi, hz0, hz1, hz2⟩ := info_parts infoDeed
  have hgl := h.lt
  have ht0 := hide (show TriW ((w.alloc (.cells #[.slice A n c, .int .i64 S, .slice A' n' c'] 31)).alloc (.cells #[] 38)) w.heap.size (.slice A n c) (.int .i64 S) (.slice A' n' c') from (TriW.made w _ _ _ _).alloc _)
  have hR0 := hide (show Rd ((w.alloc (.cells #[.slice A n c, .int .i64 S, .slice A' n' c'] 31)).alloc (.cells #[] 38)) g m from (h.kept (World.grownBy_alloc w (.cells #[.slice A n c, .int .i64 S, .slice A' n' c'] 31) none) (fun _ e => by cases e)).kept (World.grownBy_alloc _ (.cells #[] 38) none) (fun _ e => by cases e))
  have hG0 := hide (show w.grownBy ((w.alloc (.cells #[.slice A n c, .int .i64 S, .slice A' n' c'] 31)).alloc (.cells #[] 38)) (some g) from grown_alloc (grown_alloc (World.grownBy.refl w (some g)) _) _)
  have ho0 := hide (show OwnD ((w.alloc (.cells #[.slice A n c, .int .i64 S, .slice A' n' c'] 31)).alloc (.cells #[] 38)) (w.heap.size + 1) (.slice (some ⟨w.heap.size + 1, 0, none⟩) 0 0) [] from by have := ownD_empty (w := (w.alloc (.cells #[.slice A n c, .int .i64 S, .slice A' n' c'] 31))) (base := w.heap.size + 1) (by simp); simpa using this)
  have hs0 := hide (show w.heap.size + 1 < ((w.alloc (.cells #[.slice A n c, .int .i64 S, .slice A' n' c'] 31)).alloc (.cells #[] 38)).heap.size by simp)
  clear h
  go_enter Tryd.func68, Tryd.ntmps68
  go_wp2_with fail
  refine (pick_c g _ 6 _ hR0.out (by omega) (by omega) (by omega)).mono ?_
  rintro e w1 ⟨k0, rfl, hk0, hk1, hr1, hg1⟩
  obtain ⟨K, rfl⟩ : ∃ K : Nat, k0 = (K : Int) := ⟨k0.toNat, by omega⟩
  have ht1 := hide (ht0.out.grown hg1 (fun k e => by have := Option.some.inj e; omega))
  have hG1 := hide (grown_new hG0.out hg1 (fun _ _ => .inr rfl))
  have ho1 := hide (ho0.out.kept hg1 (.inr (fun e => by have e2 : w.heap.size + 1 = g := Option.some.inj e; omega)))
  have hs1 := hide (Nat.lt_of_lt_of_le hs0.out hg1.size)
  have hr1 := hide hr1
  clear hR0 ht0 hG0 ho0 hs0 hg1
  go_wp2_with fail
  go_loopw [5, 6] (fun v5 v6 wr => ∃ (k : Nat) (A1 : Option Addr) (n1 c1 : Nat) (ds : List Ded), k ≤ 5 ∧ v6 = .int .i64 (k : Int) ∧ v5 = .slice A1 n1 c1 ∧ Hid (OwnD wr (w.heap.size + 1) (.slice A1 n1 c1) ds) ∧ Hid (ds.length + k ≤ 5) ∧ Hid (Rd wr g (m + 60 - 10 * k)) ∧ Hid (w.grownBy wr (some g)) ∧ Hid (TriW wr w.heap.size (.slice A n c) (.int .i64 S) (.slice A' n' c')) ∧ Hid (w.heap.size + 1 < wr.heap.size)) (fun _ v6 _ => (intOf v6).toNat)
  case atStart => exact ⟨K, _, _, _, [], by omega, rfl, rfl, ho1, hide (by show 0 + K ≤ 5; omega), hide (hr1.out.more (by omega)), hG1, ht1, hs1⟩
  case round =>
    clear ho1 hr1 hG1 ht1 hs1
    obtain ⟨k, A1, n1, c1, ds, hk5, rfl, rfl, ho, hl, hr, hG, ht, hs⟩ := hrel
    have hlen := hide ho.out.len
    by_cases hk : 0 < k
    · obtain ⟨t0, t1, t2, _⟩ := ht.out
      have HA := hide (l20Deed_c g (m + 60 - 10 * k) A n c S A' n' c' wr hr.out (by omega) hn)
      go_wp2_with fail
      refine HA.out.mono ?_
      rintro e w2 ⟨x, y, z, rfl, hx, hy, hz, hr2, hg2⟩
      have hne : ∀ q, (Value.slice A1 n1 c1).ownBlock = some q → w.heap.size + 1 ≤ q ∧ q < wr.heap.size := fun q hq => ho.out.row.lt q hq
      have ho2 := hide (ho.out.kept hg2 (by
        cases hq : (Value.slice A1 n1 c1).ownBlock with
        | none => exact .inl rfl
        | some q => exact .inr (fun e => by have := hne q hq; have e2 : q = g := Option.some.inj e; omega)))
      have hG2 := hide (grown_new hG.out hg2 (fun _ _ => .inr rfl))
      have ht2 := hide (ht.out.grown hg2 (fun k e => by have := Option.some.inj e; omega))
      have hs2 := hide (Nat.lt_of_lt_of_le hs.out hg2.size)
      have hwd := hide (show wfD ⟨x, y, z⟩ from ⟨wf_i64 (by simp only; omega), wf_i64 (by simp only; omega), wf_i64 (by simp only; omega)⟩)
      replace hr2 := hide hr2
      replace hne := hide hne
      clear HA hg2 ho hr hG ht hs hx hy hz t0 t1 t2
      go_wp2_with (at_builtin; refine wpList_push _ rfl _ _ 47 rfl (w.heap.size + 1) 38 i0 (.agg #[.int .i64 0, .int .i64 0, .int .i64 0]) 3 24 Tryd.underlying47 hi hz0 hz1 hz2 rfl (by decide) (by decide) _ n1 _ rfl (ho2.out.alloc _).rowN _ 1 [.int .i64 x, .int .i64 y, .int .i64 z] rfl rfl (lit_cellsAt _ _ _ _ (by simp)) (by intro u hu; simp at hu; rcases hu with rfl | rfl | rfl <;> rfl) (by have := hlen.out; have := hl.out; omega) (by have := hs2.out; simp; omega) ?_; intro A₃ c₃ w3 hr3 hg3; have ho3 := hide (OwnD.push hlen.out hwd.out ho2.out.wf hr3); have hbl : ∀ q, (Value.slice A1 n1 c1).ownBlock = some q → w.heap.size + 1 ≤ q := (fun q hq => (hne.out q hq).1); have hR3 := hide ((hr2.out.kept (World.grownBy_alloc w2 (.cells #[.int .i64 x, .int .i64 y, .int .i64 z] 38) none) (fun _ e => by cases e)).kept hg3 (fun q hq => by have := hbl q hq; omega)); have hG3 := hide (grown_new (grown_alloc hG2.out (.cells #[.int .i64 x, .int .i64 y, .int .i64 z] 38)) hg3 (fun q hq => .inl (by have := hbl q hq; omega))); have ht3 := hide (TriW.grown (ht2.out.alloc (.cells #[.int .i64 x, .int .i64 y, .int .i64 z] 38)) hg3 (fun q hq => by have := hbl q hq; omega)); have hs3 := hide (show w.heap.size + 1 < w3.heap.size from Nat.lt_of_lt_of_le hs2.out (Nat.le_trans (by simp) hg3.size)); clear hr3 hg3)
      go_roundw
      case rel => exact ⟨k - 1, _, _, _, _, by omega, by go_num, rfl, ho3, hide (by rw [List.length_append]; have := hl.out; simp only [List.length_cons, List.length_nil]; omega), hide (hR3.out.more (by omega)), hG3, ht3, hs3⟩
      case measure => simp [intOf]; omega
    · obtain rfl : k = 0 := by omega
      go_wp2_with fail
      go_ret
      exact ⟨A1, n1, c1, ds, rfl, ho.out.down (by omega), by have := hl.out; omega, hr.out.more (by omega), hG.out⟩
set_option maxRecDepth 100000 in
set_option maxHeartbeats 3200000 in
theorem DrawDeskRun_c (A : Option Addr) (n c : Nat) (bs : List Int) (w : World) (h : Bts w w.heap.size A n c bs) :
    Calls Tryd.prog 29 #[.slice A n c] w fun e w' => ∃ (u : Value) (d : Dsk) (A1 : Option Addr) (n1 c1 : Nat) (ds : List Ded), e = .returned (.tuple #[u, .slice A1 n1 c1]) ∧ DkM w' w'.heap.size u d ∧ OwnD w' w.heap.size (.slice A1 n1 c1) ds ∧ n1 ≤ 41 ∧ Below w.heap.size w w' := by
  have hq0 := hide (al w (.cells #[.slice none 0 0, .int .i64 0, .slice none 0 0, .slice none 0 0] 34))
  have hz := hide (QuaW.made w (.slice none 0 0) (.int .i64 0) (.slice none 0 0) (.slice none 0 0) 34)
  have HO := hide (open_c A n c bs _ ((h.below hq0.out).more hq0.out.size))
  go_enter Tryd.func29, Tryd.ntmps29
  go_wp2_with fail
  refine HO.out.mono ?_
  rintro e w1 ⟨g, rfl, hr1, hg, hb1⟩
  have hg1 : w.heap.size + 1 ≤ g := by simpa using hg
  have hz1 := hide (hz.out.up hb1)
  have hlt := hide (show w.heap.size < w1.heap.size from (hz.out.up hb1).lt)
  have hb1 := hide (upB hq0.out hb1)
  have hgw1 : g < w1.heap.size := hr1.lt
  have hr1 := hide hr1
  clear HO hg hz
  go_wp2_with fail
  refine (l20Desk_c g 0 12 _ hr1.out (by omega) (by omega) (by omega)).mono ?_
  rintro e w2 ⟨u, d, rfl, hd, hln, hr2, hg2⟩
  have hb2 := hide (below_ptr hb1.out hg2 (by omega))
  have hz2 := hide (hz1.out.grown hg2 (fun k e => by have := Option.some.inj e; omega))
  have hd' := hide hd
  obtain ⟨B1, m1, e1, B2, m2, e2, B3, m3, e3, rfl⟩ := hd.open_
  have hm1 : m1 ≤ 1000000 := by
    obtain ⟨_, _, _, _, _, _, e9, i9, _⟩ := hd.dkM.now.ex
    injection e9 with e9; injection e9 with e9; simp only [List.cons.injEq, Value.slice.injEq, and_true] at e9
    obtain ⟨⟨rfl, rfl, rfl⟩, _⟩ := e9
    have := i9.len
    omega
  clear hd hln
  have hq5 := al w2 (.cells #[.slice B1 m1 e1, .int .i64 d.now.step, .slice B2 m2 e2, .slice B3 m3 e3] 34)
  have h5 := hide (QuaW.made w2 (.slice B1 m1 e1) (.int .i64 d.now.step) (.slice B2 m2 e2) (.slice B3 m3 e3) 34)
  have hb5 := hide (upB hb2.out hq5)
  have hz5 := hide (hz2.out.up hq5)
  have hd5 := hide (hd'.out.up hq5)
  have hr5 := hide (hr2.kept (World.grownBy_alloc w2 (.cells #[.slice B1 m1 e1, .int .i64 d.now.step, .slice B2 m2 e2, .slice B3 m3 e3] 34) none) (fun _ e => by cases e))
  have hgw : g < w2.heap.size := hr2.lt
  clear hq5 hb2 hz2 hd' hr2 hg2 hz1 hb1 hr1
  go_wp2_with fail
  refine (odd_z g _ 30 _ hr5.out (by omega) (by omega) (by omega)).mono ?_
  rintro e w6 ⟨bo, rfl, hr6, hg6⟩
  have h6 := hide (h5.out.grown hg6 (fun k e => by have := Option.some.inj e; omega))
  have hb6 := hide (below_ptr hb5.out hg6 (by omega))
  have hz6 := hide (hz5.out.grown hg6 (fun k e => by have := Option.some.inj e; omega))
  have hd6 := hide (hd5.out.far hg6 hgw1)
  have hgw6 : g < w6.heap.size := hr6.lt
  have hl6 : w.heap.size < w6.heap.size := hz6.out.lt
  replace hr6 := hide hr6
  clear hg6 h5 hb5 hz5 hd5 hr5
  obtain ⟨a0, a1, a2, a3, _⟩ := h6.out
  obtain ⟨s0, s1, s2, s3, t0, t1, t2, t3, _⟩ := hz6.out
  have hl1 := hlt.out
  cases bo with
  | true =>
    obtain ⟨i0, hi, hz0, hz1, hz2⟩ := info_parts infoDeed
    obtain ⟨OB, hOB⟩ : ∃ o, Hid (Obj.cells (madeCells (Value.agg #[.int .i64 0, .int .i64 0, .int .i64 0]).cells (41 * 3)) 38 = o) := ⟨_, hide rfl⟩
    have hmk : ∀ W : World, (Instr.makeSlice 47 (.int .i64 41) (.int .i64 41)).run Tryd.prog W = .ok (.slice (some ⟨W.heap.size, 0, none⟩) 41 41) (W.alloc OB) := fun W => by
      have := run_make (P := Tryd.prog) W 47 38 i0 _ Tryd.underlying47 hi hz0 .i64 .i64 41 41 (by omega) (by omega) (by rw [hz2]; decide) (by decide)
      rw [hz1] at this
      rw [← hOB.out]
      exact this
    have ho9 := hide (fun W : World => show OwnD (W.alloc OB) W.heap.size (.slice (some ⟨W.heap.size, 0, none⟩) 41 41) (List.replicate 41 noDed) from by
      rw [← hOB.out]
      exact ownD_made (World.ownsRow_lit W _ 41 (Nat.le_refl _) (by unfold maxLen; omega) (size_madeCells _ _)))
    clear hOB
    have u0 := (h6.out.up (al w6 OB)).c0
    have u1 := (h6.out.up (al w6 OB)).c1
    have u2 := (h6.out.up (al w6 OB)).c2
    have u3 := (h6.out.up (al w6 OB)).c3
    have hdp := hide (hd6.out.up (al w6 OB))
    have hbp := hide (upB hb6.out (al w6 OB))
    have hzp := hide (hz6.out.up (al w6 OB))
    obtain ⟨s0', s1', s2', s3', t0', t1', t2', t3', _⟩ := hzp.out
    go_wp2_with fail
    go_region
    all_goals
      go_wp2_with fail
      first
      | (obtain ⟨k0, k1, k2, k3, _⟩ := (((hzp.out.set0 (.slice B1 m1 e1)).set1 (.int .i64 d.now.step)).set2 (.slice B2 m2 e2)).set3 (.slice B3 m3 e3)
         refine bodyPost_ret (v := .tuple #[.agg #[.slice B1 m1 e1, .int .i64 d.now.step, .slice B2 m2 e2, .slice B3 m3 e3], .slice (some ⟨w6.heap.size, 0, none⟩) 41 41]) ?_ rfl ⟨_, d, _, _, _, _, rfl, (dkF_low4 hdp.out hl1 _ _ _ _).dkM, (((((ho9.out w6).setBelow hl6 _).setBelow hl6 _).setBelow hl6 _).setBelow hl6 _).down (Nat.le_of_lt hl6), (by omega), (((hbp.out.setCell (Nat.le_refl _) _).setCell (Nat.le_refl _) _).setCell (Nat.le_refl _) _).setCell (Nat.le_refl _) _⟩
         focus (simp [results, Tryd.results29, go_sem, k0, k1, k2, k3]; done))
      | (obtain ⟨k0, k1, k2, k3, _⟩ := ((((hzp.out.set0 (.slice B1 m1 e1)).set1 (.int .i64 d.now.step)).set2 (.slice B2 m2 e2)).set3 (.slice B3 m3 e3)).drew
         refine bodyPost_ret (v := .tuple #[.agg #[.slice B1 m1 e1, .int .i64 d.now.step, .slice B2 m2 e2, .slice B3 m3 e3], .slice (some ⟨w6.heap.size, 0, none⟩) 41 41]) ?_ rfl ⟨_, d, _, _, _, _, rfl, ((dkF_low4 hdp.out hl1 _ _ _ _).up (Below.refl _ _).drew).dkM, ((((((ho9.out w6).setBelow hl6 _).setBelow hl6 _).setBelow hl6 _).setBelow hl6 _).drew).down (Nat.le_of_lt hl6), (by omega), ((((hbp.out.setCell (Nat.le_refl _) _).setCell (Nat.le_refl _) _).setCell (Nat.le_refl _) _).setCell (Nat.le_refl _) _).drew⟩
         focus (simp [results, Tryd.results29, go_sem, k0, k1, k2, k3]; done))
      | (obtain ⟨k0, k1, k2, k3, _⟩ := (((((hz6.out.set0 (.slice B1 m1 e1)).set1 (.int .i64 d.now.step)).set2 (.slice B2 m2 e2)).set3 (.slice B3 m3 e3)).alloc OB)
         refine bodyPost_ret (v := .tuple #[.agg #[.slice B1 m1 e1, .int .i64 d.now.step, .slice B2 m2 e2, .slice B3 m3 e3], .slice (some ⟨w6.heap.size, 0, none⟩) 41 41]) ?_ rfl ⟨_, d, _, _, _, _, rfl, (((dkF_low4 hd6.out hl1 _ _ _ _).up (al _ OB))).dkM, (OwnD.down (base := w6.heap.size) (ds := List.replicate 41 noDed) (by have := ho9.out ((((w6.setCell ⟨w.heap.size, 0, none⟩ (.slice B1 m1 e1)).setCell ⟨w.heap.size, 1, none⟩ (.int .i64 d.now.step)).setCell ⟨w.heap.size, 2, none⟩ (.slice B2 m2 e2)).setCell ⟨w.heap.size, 3, none⟩ (.slice B3 m3 e3)); simp only [World.size_setCell] at this; exact this)), (by omega), (((((hb6.out.setCell (Nat.le_refl _) _).setCell (Nat.le_refl _) _).setCell (Nat.le_refl _) _).setCell (Nat.le_refl _) _).alloc (by simp only [World.size_setCell]; omega) OB)⟩
         focus (simp [results, Tryd.results29, go_sem, k0, k1, k2, k3]; done))
      | (obtain ⟨k0, k1, k2, k3, _⟩ := (((((hz6.out.set0 (.slice B1 m1 e1)).set1 (.int .i64 d.now.step)).set2 (.slice B2 m2 e2)).set3 (.slice B3 m3 e3)).alloc OB).drew
         refine bodyPost_ret (v := .tuple #[.agg #[.slice B1 m1 e1, .int .i64 d.now.step, .slice B2 m2 e2, .slice B3 m3 e3], .slice (some ⟨w6.heap.size, 0, none⟩) 41 41]) ?_ rfl ⟨_, d, _, _, _, _, rfl, (((dkF_low4 hd6.out hl1 _ _ _ _).up (al _ OB)).up (Below.refl _ _).drew).dkM, (OwnD.down (base := w6.heap.size) (ds := List.replicate 41 noDed) (by have := ho9.out ((((w6.setCell ⟨w.heap.size, 0, none⟩ (.slice B1 m1 e1)).setCell ⟨w.heap.size, 1, none⟩ (.int .i64 d.now.step)).setCell ⟨w.heap.size, 2, none⟩ (.slice B2 m2 e2)).setCell ⟨w.heap.size, 3, none⟩ (.slice B3 m3 e3)); simp only [World.size_setCell] at this; exact this.drew) (Nat.le_of_lt hl6)), (by omega), (((((hb6.out.setCell (Nat.le_refl _) _).setCell (Nat.le_refl _) _).setCell (Nat.le_refl _) _).setCell (Nat.le_refl _) _).alloc (by simp only [World.size_setCell]; omega) OB).drew⟩
         focus (simp [results, Tryd.results29, go_sem, k0, k1, k2, k3]; done))
  | false =>
    have HA := hide (fun (W : World) (hr : Rd W g (0 + 90 + 1)) => l20Deeds_c g (0 + 90 + 1) B1 m1 e1 d.now.step B2 m2 e2 W hr (by omega) hm1)
    go_wp2_with fail
    go_region_with (go_at_call 68; (with_reducible refine (HA.out _ ?_).mono ?_); (first | exact hr6.out | exact hr6.out.drewN 1 | exact hr6.out.kept (row := none) ⟨rfl, rfl, rfl, Nat.le_refl _, fun _ _ _ => rfl⟩ (fun _ e => by cases e)); rintro e wp ⟨A9, n9, c9, ds, rfl, ho9, hl9, hrp, hgp⟩; have hgq : w6.grownBy wp (some g) := (by first | exact hgp | exact ⟨hgp.os, hgp.tape, hgp.output, hgp.size, hgp.block⟩); obtain ⟨b0, b1, b2, b3, _⟩ := h6.out.grown hgq (fun k e => by have := Option.some.inj e; omega); have hzp := hide (hz6.out.grown hgq (fun k e => by have := Option.some.inj e; omega)); obtain ⟨s0, s1, s2, s3, t0, t1, t2, t3, _⟩ := hzp.out; have ho9 := hide (show OwnD wp w6.heap.size (.slice A9 n9 c9) ds from ho9); have hn9 := hide ho9.out.len; replace hgq := hide hgq; clear hgp hrp)
    all_goals
      have hbp := hide (below_ptr hb6.out hgq.out (by omega))
      have hdp := hide (hd6.out.far hgq.out hgw1)
      go_wp2_with fail
      first
      | (obtain ⟨k0, k1, k2, k3, _⟩ := (((hzp.out.set0 (.slice B1 m1 e1)).set1 (.int .i64 d.now.step)).set2 (.slice B2 m2 e2)).set3 (.slice B3 m3 e3)
         refine bodyPost_ret (v := .tuple #[.agg #[.slice B1 m1 e1, .int .i64 d.now.step, .slice B2 m2 e2, .slice B3 m3 e3], .slice A9 n9 c9]) ?_ rfl ⟨_, d, A9, n9, c9, ds, rfl, (dkF_low4 hdp.out hl1 _ _ _ _).dkM, ((((ho9.out.setBelow hl6 _).setBelow hl6 _).setBelow hl6 _).setBelow hl6 _).down (Nat.le_of_lt hl6), (by have := hn9.out; omega), (((hbp.out.setCell (Nat.le_refl _) _).setCell (Nat.le_refl _) _).setCell (Nat.le_refl _) _).setCell (Nat.le_refl _) _⟩
         focus (simp [results, Tryd.results29, go_sem, k0, k1, k2, k3]; done))
      | (obtain ⟨k0, k1, k2, k3, _⟩ := ((((hzp.out.set0 (.slice B1 m1 e1)).set1 (.int .i64 d.now.step)).set2 (.slice B2 m2 e2)).set3 (.slice B3 m3 e3)).drew
         refine bodyPost_ret (v := .tuple #[.agg #[.slice B1 m1 e1, .int .i64 d.now.step, .slice B2 m2 e2, .slice B3 m3 e3], .slice A9 n9 c9]) ?_ rfl ⟨_, d, A9, n9, c9, ds, rfl, ((dkF_low4 hdp.out hl1 _ _ _ _).up (Below.refl _ _).drew).dkM, (((((ho9.out.setBelow hl6 _).setBelow hl6 _).setBelow hl6 _).setBelow hl6 _).drew).down (Nat.le_of_lt hl6), (by have := hn9.out; omega), ((((hbp.out.setCell (Nat.le_refl _) _).setCell (Nat.le_refl _) _).setCell (Nat.le_refl _) _).setCell (Nat.le_refl _) _).drew⟩
         focus (simp [results, Tryd.results29, go_sem, k0, k1, k2, k3]; done))
      | (trace_state; done)
end Go.Proofs.YtoafpokcbbncfaaDoor
