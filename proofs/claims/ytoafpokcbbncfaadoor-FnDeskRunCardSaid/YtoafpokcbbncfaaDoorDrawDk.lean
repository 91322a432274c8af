/-
  Draws of chapter 14: a desk (l20Desk) (written by wip/gen_f6.py).
-/
import Derived.Test.YtoafpokcbbncfaaDoorZdf
import Derived.Deep.RegionHeld3
namespace Go.Proofs.YtoafpokcbbncfaaDoor
open Go.RowKit
set_option linter.unusedVariables false

/-- The end: the result's block is filled. -/
theorem fin4 {w0 W : World} {g m : Nat} {x y z u : Value} {d : Dsk} (rd : Rd W g m) (gr : w0.grownBy W (some g)) (hg : g < w0.heap.size) (res : DBox W w0.heap.size (.slice none 0 0) (.int .i64 0) (.slice none 0 0) (.slice none 0 0)) (hd : DkF W w0.heap.size (.agg #[x, y, z, u]) d) :
    QuaW ((((W.setCell ⟨w0.heap.size, 0, none⟩ x).setCell ⟨w0.heap.size, 1, none⟩ y).setCell ⟨w0.heap.size, 2, none⟩ z).setCell ⟨w0.heap.size, 3, none⟩ u) w0.heap.size x y z u ∧
    DkF ((((W.setCell ⟨w0.heap.size, 0, none⟩ x).setCell ⟨w0.heap.size, 1, none⟩ y).setCell ⟨w0.heap.size, 2, none⟩ z).setCell ⟨w0.heap.size, 3, none⟩ u) w0.heap.size (.agg #[x, y, z, u]) d ∧
    Rd ((((W.setCell ⟨w0.heap.size, 0, none⟩ x).setCell ⟨w0.heap.size, 1, none⟩ y).setCell ⟨w0.heap.size, 2, none⟩ z).setCell ⟨w0.heap.size, 3, none⟩ u) g m ∧
    w0.grownBy ((((W.setCell ⟨w0.heap.size, 0, none⟩ x).setCell ⟨w0.heap.size, 1, none⟩ y).setCell ⟨w0.heap.size, 2, none⟩ z).setCell ⟨w0.heap.size, 3, none⟩ u) (some g) :=
  ⟨(res.set x y z u).qua, dks_set4 hd res x y z u, rd_set4 rd hg x y z u, grown_set4 gr (Nat.le_refl _) x y z u⟩
theorem one_set {w0 W : World} {g m b : Nat} (rd : Rd W g m) (gr : w0.grownBy W (some g)) (hg : g < w0.heap.size) (hb : w0.heap.size < b) (i : Nat) (v : Value) : Rd (W.setCell ⟨b, i, none⟩ v) g m ∧ w0.grownBy (W.setCell ⟨b, i, none⟩ v) (some g) :=
  ⟨rd.kept (grown_at W ⟨b, i, none⟩ v) (fun k e => by have e2 : b = k := Option.some.inj e; omega), grown_new gr (grown_at W ⟨b, i, none⟩ v) (fun j e => .inl (by have e2 : b = j := Option.some.inj e; omega))⟩
theorem DBox.rowed {W W' : World} {b base n : Nat} {x y z u v : Value} {xs : List Value} (h : DBox W b x y z u) (hr : W.ownsRow base 31 3 v n xs) (hg : W.grownBy W' v.ownBlock) : DBox W' b x y z u := by
  obtain ⟨cs, e⟩ := h.ob
  exact h.grown hg (fun k hk he => row_neDesk (by decide) hr e (by rw [hk, he]))
theorem PsW.owned {w : World} {base : Nat} {v : Value} {ps : List Plc} (h : PsW w base v ps) (hl : ps.length < 8) : PsZ w base v ps := by
  rcases h with h | ⟨_, _, _, _, _, _, _, _, h8⟩
  · exact h
  · omega

set_option maxRecDepth 100000 in
set_option maxHeartbeats 12800000 in
theorem l20Desk_c (g m : Nat) (q : Int) (w : World) (h : Rd w g m) (hm : m ≤ 500) (hq0 : 0 ≤ q) (hq : q ≤ 1000000) :
    Calls Tryd.prog 57 #[.pointer (some ⟨g, 0, none⟩), .int .i64 q] w fun e w' => ∃ (u : Value) (d : Dsk), e = .returned u ∧ DkF w' w.heap.size u d ∧ d.now.start.length ≤ 1000 ∧ Rd w' g (m + 90) ∧ w.grownBy w' (some g) := by
  have hgl := h.lt
  obtain ⟨i0, hi, hz0, hz1, hz2⟩ := info_parts infoPlace
  have hgl2 : g < w.heap.size := hgl
  have hR0 := hide (h.kept (World.grownBy_alloc w (.cells #[.slice none 0 0, .int .i64 0, .slice none 0 0, .slice none 0 0] 34) none) (fun _ e => by cases e))
  have hG0 := hide (World.grownBy_alloc w (.cells #[.slice none 0 0, .int .i64 0, .slice none 0 0, .slice none 0 0] 34) (some g))
  have hB0 := hide (DBox.madeAt (W := w) (x := .slice none 0 0) (y := .int .i64 0) (z := .slice none 0 0) (u := .slice none 0 0) rfl)
  go_enter Tryd.func57, Tryd.ntmps57
  go_wp2_with fail
  refine (l20Place_c g m 0 _ hR0.out (by omega) (by omega) (by omega)).mono ?_
  rintro e w1 ⟨A1, n1, c1, A2, n2, c2, zs, ws, S, rfl, ho1, ho2, hn1, hn2, hS0, hS1, hr1, hg1⟩
  have hP1 := hide (plM_mk (p := ⟨zs, S, ws⟩) ho1.ints ho2.ints (show (Lit.int .i64 S).wf = true from wf_i64 (by omega)))
  have hG1 := hide (grown_new hG0.out hg1 (fun _ _ => .inr rfl))
  have hB1 := hide (hB0.out.grown hg1 (fun k e => by injection e with e; omega))
  have hr1 := hide hr1
  have hs1 := hide hg1.size
  clear hR0 hG0 hB0 ho1 ho2 hg1
  go_wp2_with fail
  refine (deskNew_specS _ ⟨zs, S, ws⟩ _ _ hP1.out (Nat.le_refl _)).mono ?_
  rintro e w2 ⟨u, rfl, hd, hq2⟩
  have hsw : w.heap.size < w2.heap.size := by have := hs1.out; have := hq2.size; simp at *; omega
  obtain ⟨D, hD⟩ : ∃ D, Hid (newDsk ⟨zs, S, ws⟩ = D) := ⟨_, hide rfl⟩
  have hor := hide (newDsk_or ⟨zs, S, ws⟩)
  have hpl := hide (show (newDsk ⟨zs, S, ws⟩).past.length = 0 by unfold newDsk; split <;> rfl)
  rw [hD.out] at hd hor hpl
  have hd' := hide hd
  obtain ⟨B1, m1, e1, B2, m2, e2, B3, m3, e3, rfl, _⟩ := hd.ex
  have hK := hide (show Kq w (w2.alloc (.cells #[.slice B1 m1 e1, .int .i64 D.now.step, .slice B2 m2 e2, .slice B3 m3 e3] 34)) g (m + 40) w2.heap.size B1 m1 e1 B2 m2 e2 B3 m3 e3 D from
    ⟨(hr1.out.kept (row := none) ⟨hq2.os, hq2.tape, hq2.output, hq2.size, fun k hk _ => hq2.block k hk⟩ (fun _ e => by cases e)).kept (World.grownBy_alloc _ _ none) (fun _ e => by cases e),
     grown_alloc (grown_new hG1.out (q := none) ⟨hq2.os, hq2.tape, hq2.output, hq2.size, fun k hk _ => hq2.block k hk⟩ (fun _ e => by cases e)) _, hgl, hsw, (hB1.out.up hq2).up (al _ _), DBox.madeAt rfl, (hd'.out.up (al _ _)).down (by have := hs1.out; simp at this; omega)⟩)
  have hst := deskOk_start hor.out
  clear hP1 hG1 hB1 hr1 hs1 hd hd' hq2 hD
  go_wp2_with fail
  refine (pick_c g _ 5 _ hK.out.rd (by omega) (by omega) (by omega)).mono ?_
  rintro e w3 ⟨k0, rfl, hk0, hk1, hr3, hg3⟩
  obtain ⟨K, rfl⟩ : ∃ K : Nat, k0 = (K : Int) := ⟨k0.toNat, by omega⟩
  have hK3 := hide (hK.out.read hr3 hg3)
  clear hK hr3 hg3 hst
  go_wp2_with fail
  go_loopw [7, 8, 9] (fun i v8 v9 wr => ∃ (k : Nat) (A : Option Addr) (n c : Nat) (A' : Option Addr) (n' c' : Nat) (A3 : Option Addr) (n3 c3 : Nat) (d : Dsk), k ≤ 4 ∧ i = .int .i64 (k : Int) ∧ Hid (Kq w wr g (m + 81 - 10 * k) w2.heap.size A n c A' n' c' A3 n3 c3 d) ∧ Hid (deskOk d = true ∨ d = noDsk) ∧ Hid (d.past.length + k ≤ 4)) (fun i _ _ _ => (intOf i).toNat)
  case atStart => exact ⟨K, _, _, _, _, _, _, _, _, _, D, by omega, rfl, hide (hK3.out.more (by omega)), hor, hide (by have := hpl.out; omega)⟩
  case round =>
    clear hK3 hor hpl
    obtain ⟨k, A, n, c, A', n', c', A3, n3, c3, d, hk4, rfl, hK, hor, hpl⟩ := hrel
    obtain ⟨f0, f1, f2, f3, j0, j1, j2, j3, _⟩ := hK.out.box.qua
    have hst := deskOk_start hor.out
    have hln := hide (show n ≤ 3 from by
      obtain ⟨_, _, _, _, _, _, _, _, _, e, i1, _⟩ := hK.out.dk.dkM.ex
      simp only [Value.agg.injEq, Array.mk.injEq, List.cons.injEq, Value.slice.injEq, and_true] at e
      obtain ⟨⟨rfl, rfl, rfl⟩, _⟩ := e
      have := i1.len
      omega)
    have hn3 : n ≤ 1000000 := by have := hln.out; omega
    clear hst
    have hgr : g < wr.heap.size := hK.out.rd.lt
    have hlr : w2.heap.size < wr.heap.size := hK.out.box.lt
    by_cases hk : 0 < k
    · go_upto_region 5 with fail
      go_cut [8, 9] (fun v8 v9 wx => ∃ (b8 : Nat) (V : Bool) (x y z : Int) (B1 : Option Addr) (n1 c1 : Nat) (B2 : Option Addr) (n2 c2 : Nat) (B3 : Option Addr) (n5 c5 : Nat), v8 = .pointer (some ⟨b8, 0, none⟩) ∧ v9 = .bool V ∧ Hid (DBox wx b8 (.slice B1 n1 c1) (.int .i64 (deskX d ⟨x, y, z⟩).now.step) (.slice B2 n2 c2) (.slice B3 n5 c5)) ∧ Hid (DkS wx w.heap.size (.agg #[.slice B1 n1 c1, .int .i64 (deskX d ⟨x, y, z⟩).now.step, .slice B2 n2 c2, .slice B3 n5 c5]) (deskX d ⟨x, y, z⟩)) ∧ Hid (Kq w wx g (m + 81 - 10 * k + 10) w2.heap.size A n c A' n' c' A3 n3 c3 d))
      case first =>
        go_wp2_with fail
        go_region_held3 (fun W => W.cell? ⟨w2.heap.size, 0, none⟩ = some (.slice A n c) ∧ W.cell? ⟨w2.heap.size, 1, none⟩ = some (.int .i64 d.now.step) ∧ W.cell? ⟨w2.heap.size, 2, none⟩ = some (.slice A' n' c') ∧ W.cell? ⟨w2.heap.size, 3, none⟩ = some (.slice A3 n3 c3)) (first | exact ⟨f0, f1, f2, f3⟩ | exact ⟨k0, k1, k2, k3⟩ | exact ⟨m0, m1, m2, m3⟩ | go_keep | (refine ⟨?_, ?_, ?_, ?_⟩ <;> (repeat rw [World.cell?_setCell_other _ _ _ _ (by intro e; injection e; omega)]) <;> assumption)) (first | (go_at_call 58; (with_reducible refine (l20Deed_q (w0 := w) (A3 := A3) (n3 := n3) (c3 := c3) (d := d) (b := w2.heap.size) (m := m + 81 - 10 * k) (by (repeat (first | exact hK.out | with_reducible refine Kq.drew ?_ | with_reducible refine Kq.alloc ?_ _)); done) (by omega) hn3).mono ?_); rintro e wp ⟨x, y, z, rfl, hwd, hKp, hgp, k0, k1, k2, k3⟩; (first | (have hZp : Hid (DBox wp wr.heap.size (.slice none 0 0) (.int .i64 0) (.slice none 0 0) (.slice none 0 0)) := (by first | exact DBox.grown (DBox.madeAt rfl) hgp (ne_blk hgr) | exact DBox.grown (DBox.drew (DBox.madeAt rfl)) hgp (ne_blk hgr)); obtain ⟨zp0, zp1, zp2, zp3, yp0, yp1, yp2, yp3, _⟩ := hZp.out.qua) | skip); have hs1 : wr.heap.size ≤ wp.heap.size := (by have hz := hgp.size; (try simp at hz); omega); replace hgp := hide hgp; replace hKp := hide hKp) | (go_at_call 9; (with_reducible refine (deskDo_q (w0 := w) (d := d) (b := w2.heap.size) (g := g) (m := m + 81 - 10 * k + 10) (by (repeat (first | exact hKp.out | with_reducible refine Kq.drew ?_ | with_reducible refine Kq.alloc ?_ _)); done) hwd).mono ?_); rintro e wd ⟨B1, n1, c1, B2, n2, c2, B3, n5, c5, rfl, hdk, hKd, hqd, m0, m1, m2, m3⟩; (first | (have hZd : Hid (DBox wd wr.heap.size (.slice none 0 0) (.int .i64 0) (.slice none 0 0) (.slice none 0 0)) := hZp.out.up hqd; obtain ⟨zd0, zd1, zd2, zd3, yd0, yd1, yd2, yd3, _⟩ := hZd.out.qua) | (have hZd : Hid (DBox wd wr.heap.size (.slice none 0 0) (.int .i64 0) (.slice none 0 0) (.slice none 0 0)) := hZp.out.drew.up hqd; obtain ⟨zd0, zd1, zd2, zd3, yd0, yd1, yd2, yd3, _⟩ := hZd.out.qua) | (have hZd : Hid (DBox wd wp.heap.size (.slice none 0 0) (.int .i64 0) (.slice none 0 0) (.slice none 0 0)) := (by first | exact DBox.up (DBox.madeAt rfl) hqd | exact DBox.up (DBox.drew (DBox.madeAt rfl)) hqd); obtain ⟨zd0, zd1, zd2, zd3, yd0, yd1, yd2, yd3, _⟩ := hZd.out.qua) | skip); have hs2 : wp.heap.size ≤ wd.heap.size := (by have hz := hqd.size; (try simp at hz); omega); replace hdk := hide hdk; replace hKd := hide hKd; replace hqd := hide hqd))
        all_goals
          go_wp2_with fail
          go_meet
          first
            | exact ⟨wr.heap.size, _, x, y, z, B1, n1, c1, B2, n2, c2, B3, n5, c5, rfl, rfl, hide (hZd.out.set _ _ _ _), hide (dkS_set4 hdk.out hZd.out _ _ _ _), hide (Kq.put hKd.out hZd.out (Nat.lt_trans hsw hlr) (Nat.ne_of_gt hlr) _ _ _ _)⟩
            | exact ⟨wp.heap.size, _, x, y, z, B1, n1, c1, B2, n2, c2, B3, n5, c5, rfl, rfl, hide (hZd.out.set _ _ _ _), hide (dkS_set4 hdk.out hZd.out _ _ _ _), hide (Kq.put hKd.out hZd.out (Nat.lt_of_lt_of_le (Nat.lt_trans hsw hlr) hs1) (Nat.ne_of_gt (Nat.lt_of_lt_of_le hlr hs1)) _ _ _ _)⟩
            | exact ⟨wd.heap.size, _, x, y, z, B1, n1, c1, B2, n2, c2, B3, n5, c5, rfl, rfl, hide (DBox.madeAt rfl), hide (hdk.out.up (al _ _)), hide (hKd.out.alloc _)⟩
      case rest =>
        clear f0 f1 f2 f3 j0 j1 j2 j3 hK hgr hlr
        obtain ⟨b8, V, x, y, z, B1, n1, c1, B2, n2, c2, B3, n5, c5, rfl, rfl, h8, hS, hK⟩ := hcut
        obtain ⟨f0, f1, f2, f3, j0, j1, j2, j3, _⟩ := hK.out.box.qua
        obtain ⟨x0, x1, x2, x3, _⟩ := h8.out.qua
        cases V with
        | true =>
          have hK2 := hide ((hK.out.setD hS.out).more (show m + 81 - 10 * k + 10 ≤ m + 81 - 10 * (k - 1) by omega))
          have hor2 := hide (deskX_or (q := ⟨x, y, z⟩) hor.out)
          have hpl2 := hide (show (deskX d ⟨x, y, z⟩).past.length + (k - 1) ≤ 4 by have := deskX_past (d := d) (q := ⟨x, y, z⟩); have := hpl.out; omega)
          clear hK hS h8 hor hpl
          go_wp2_with fail
          go_roundw
          case rel => exact ⟨k - 1, _, _, _, _, _, _, _, _, _, deskX d ⟨x, y, z⟩, by omega, by go_num, hK2, hor2, hpl2⟩
          case measure => simp [intOf]; omega
        | false =>
          have hK2 := hide (hK.out.more (show m + 81 - 10 * k + 10 ≤ m + 81 - 10 * (k - 1) by omega))
          have hpl2 := hide (show d.past.length + (k - 1) ≤ 4 by have := hpl.out; omega)
          clear hK hS h8 hpl
          go_wp2_with fail
          go_roundw
          case rel => exact ⟨k - 1, _, _, _, _, _, _, _, _, _, d, by omega, by go_num, hK2, hor, hpl2⟩
          case measure => simp [intOf]; omega
    · obtain rfl : k = 0 := by omega
      have hst := hide (deskOk_start hor.out)
      go_wp2_with fail
      refine (odd_z g _ q _ hK.out.rd (by omega) hq0 hq).mono ?_
      rintro e w4 ⟨b, rfl, hr4, hg4⟩
      have hK4 := hide (hK.out.read hr4 hg4)
      clear hK hr4 hg4 f0 f1 f2 f3 j0 j1 j2 j3
      obtain ⟨f0, f1, f2, f3, j0, j1, j2, j3, _⟩ := hK4.out.box.qua
      obtain ⟨r0, r1, r2, r3, s0, s1, s2, s3, _⟩ := hK4.out.res.qua
      cases b with
      | false =>
        go_wp2_with fail
        obtain ⟨⟨k0, k1, k2, k3, _⟩, p1, p2, p3⟩ := fin4 hK4.out.rd hK4.out.gr hgl hK4.out.res hK4.out.dk.toF
        exact bodyPost_ret (v := .agg #[.slice A n c, .int .i64 d.now.step, .slice A' n' c', .slice A3 n3 c3]) (by simp [results, Tryd.results57, go_sem, k0, k1, k2, k3]) rfl ⟨_, d, rfl, p1, by have := hst.out; omega, p2.more (by omega), p3⟩
      | true =>
        go_wp2_with fail
        refine (pick_c g _ 3 _ hK4.out.rd (by omega) (by omega) (by omega)).mono ?_
        rintro e w5 ⟨y, rfl, hy0, hy1, hr5, hg5⟩
        have hK5 := hide (hK4.out.read hr5 hg5)
        clear hK4 hr5 hg5 f0 f1 f2 f3 j0 j1 j2 j3 r0 r1 r2 r3 s0 s1 s2 s3
        obtain ⟨f0, f1, f2, f3, j0, j1, j2, j3, _⟩ := hK5.out.box.qua
        obtain ⟨r0, r1, r2, r3, s0, s1, s2, s3, _⟩ := hK5.out.res.qua
        rcases (show y = 0 ∨ y = 1 ∨ y = 2 by omega) with hy | hy | hy
        · subst hy
          obtain ⟨cs, hob⟩ := hK5.out.box.ob
          obtain ⟨o1, o2⟩ := one_set hK5.out.rd hK5.out.gr hgl hsw 1 (.int .i64 4)
          have hdk6 := hide (show DkS (w5.setCell ⟨w2.heap.size, 1, none⟩ (.int .i64 4)) w.heap.size (.agg #[.slice A n c, .int .i64 4, .slice A' n' c', .slice A3 n3 c3]) ⟨⟨d.now.start, 4, d.now.word⟩, d.past⟩ from by
            have h1 := hK5.out.dk.setDesk (a := ⟨w2.heap.size, 1, none⟩) hob (.int .i64 4)
            obtain ⟨_, _, _, _, _, _, _, _, _, e, h2, h3⟩ := h1.ex
            simp only [Value.agg.injEq, Array.mk.injEq, List.cons.injEq, Value.slice.injEq, and_true, true_and] at e
            obtain ⟨⟨rfl, rfl, rfl⟩, ⟨rfl, rfl, rfl⟩, rfl, rfl, rfl⟩ := e
            obtain ⟨_, _, _, _, _, _, e, g1, g2, _⟩ := h2.ex
            simp only [Value.agg.injEq, Array.mk.injEq, List.cons.injEq, Value.slice.injEq, and_true, true_and] at e
            obtain ⟨⟨rfl, rfl, rfl⟩, rfl, rfl, rfl⟩ := e
            exact ⟨_, _, _, _, _, _, _, _, _, rfl, ⟨_, _, _, _, _, _, rfl, g1, g2, show (Lit.int .i64 4).wf = true by decide⟩, h3⟩)
          have hres := hide (hK5.out.res.other (a := ⟨w2.heap.size, 1, none⟩) (Nat.ne_of_gt hsw) (.int .i64 4))
          replace o1 := hide o1
          replace o2 := hide o2
          clear hob
          go_wp2_with fail
          obtain ⟨⟨k0, k1, k2, k3, _⟩, p1, p2, p3⟩ := fin4 o1.out o2.out hgl hres.out hdk6.out.toF
          exact bodyPost_ret (v := .agg #[.slice A n c, .int .i64 4, .slice A' n' c', .slice A3 n3 c3]) (by simp [results, Tryd.results57, go_sem, k0, k1, k2, k3]) rfl ⟨_, ⟨⟨d.now.start, 4, d.now.word⟩, d.past⟩, rfl, p1, by have := hst.out; show d.now.start.length ≤ 1000; omega, p2.more (by omega), p3⟩
        · subst hy
          obtain ⟨hPN, hPS⟩ : PlY w5 w.heap.size (.agg #[.slice A n c, .int .i64 d.now.step, .slice A' n' c']) d.now ∧ PsZ w5 w.heap.size (.slice A3 n3 c3) d.past := by
            obtain ⟨_, _, _, _, _, _, _, _, _, e, h2, h3⟩ := hK5.out.dk.ex
            simp only [Value.agg.injEq, Array.mk.injEq, List.cons.injEq, Value.slice.injEq, and_true, true_and] at e
            obtain ⟨⟨rfl, rfl, rfl⟩, ⟨rfl, rfl, rfl⟩, rfl, rfl, rfl⟩ := e
            exact ⟨h2, h3.owned (by have := hpl.out; omega)⟩
          have hn6 := hPS.row.1
          obtain ⟨us, hus, hrow, hall⟩ := hPS.ex
          rw [← hn6] at hrow
          have hn38 : n3 ≤ 8 := by have := hpl.out; omega
          have hs5 : w.heap.size ≤ w5.heap.size := hK5.out.gr.size
          replace hus := hide hus
          replace hrow := hide hrow
          replace hall := hide hall
          replace hn6 := hide hn6
          replace hPN := hide hPN
          clear hPS
          go_wp2_with (at_builtin; refine wpList_push _ rfl _ _ 32 rfl w.heap.size 31 i0 (.agg #[.slice none 0 0, .int .i64 0, .slice none 0 0]) 3 56 Tryd.underlying32 hi hz0 hz1 hz2 rfl (by decide) (by decide) _ n3 _ rfl (hrow.out.alloc _) _ 1 [.slice none 0 0, .int .i64 0, .slice none 0 0] rfl rfl (lit_cellsAt _ _ _ _ (by simp)) (by intro u hu; simp at hu; rcases hu with rfl | rfl | rfl <;> rfl) (by omega) (by simp; omega) ?_; go_loud (intro A9 c9 w7 hr7 hg7; have hB7 := hide (DBox.rowed (hK5.out.box.up (al w5 _)) (hrow.out.alloc _) hg7); have hR7 := hide (DBox.rowed (hK5.out.res.up (al w5 _)) (hrow.out.alloc _) hg7); have hrd7 := hide ((hK5.out.rd.kept (World.grownBy_alloc _ _ none) (fun _ e => by cases e)).kept hg7 (fun k e => by have := (hrow.out.lt k e).1; omega)); have hgr7 := hide (grown_new (grown_alloc hK5.out.gr _) hg7 (fun j e => .inl (hrow.out.lt j e).1)); have hPN7 := hide (PlY.kept (hPN.out.up (al w5 _)) (hrow.out.alloc _) hg7); have hPS7 := hide (PsY.pushM hn6.out hus.out (hrow.out.alloc _) (fun j u q hu hq => ((hall.out j u q hu hq).toY).up (al w5 _)) plZ_zero hr7 hg7); obtain ⟨b0, b1, b2, b3, l0, l1, l2, l3, _⟩ := hB7.out.qua; obtain ⟨t0, t1, t2, t3, v0, v1, v2, v3, _⟩ := hR7.out.qua; clear hr7 hg7 f0 f1 f2 f3 j0 j1 j2 j3 r0 r1 r2 r3 s0 s1 s2 s3))
          obtain ⟨cs, hob⟩ := hB7.out.ob
          obtain ⟨o1, o2⟩ := one_set hrd7.out hgr7.out hgl hsw 3 (.slice A9 (n3 + 1) c9)
          have hres := hide (hR7.out.other (a := ⟨w2.heap.size, 3, none⟩) (Nat.ne_of_gt hsw) (.slice A9 (n3 + 1) c9))
          have hdk6 := hide (show DkF (w7.setCell ⟨w2.heap.size, 3, none⟩ (.slice A9 (n3 + 1) c9)) w.heap.size (.agg #[.slice A n c, .int .i64 d.now.step, .slice A' n' c', .slice A9 (n3 + 1) c9]) ⟨d.now, d.past ++ [noPlc]⟩ from
            ⟨_, _, _, _, _, _, _, _, _, rfl, hPN7.out.setDesk (a := ⟨w2.heap.size, 3, none⟩) hob _, .inl (hPS7.out.setDesk (a := ⟨w2.heap.size, 3, none⟩) hob _)⟩)
          obtain ⟨⟨k0, k1, k2, k3, _⟩, p1, p2, p3⟩ := fin4 o1 o2 hgl hres.out hdk6.out
          exact bodyPost_ret (v := .agg #[.slice A n c, .int .i64 d.now.step, .slice A' n' c', .slice A9 (n3 + 1) c9]) (by simp [results, Tryd.results57, go_sem, k0, k1, k2, k3]) rfl ⟨_, ⟨d.now, d.past ++ [noPlc]⟩, rfl, p1, by have := hst.out; show d.now.start.length ≤ 1000; omega, p2.more (by omega), p3⟩
        · subst hy
          go_wp2_with fail
          obtain ⟨⟨k0, k1, k2, k3, _⟩, p1, p2, p3⟩ := fin4 hK5.out.rd hK5.out.gr hgl hK5.out.res (DkS.none_ (w := w5)).toF
          exact bodyPost_ret (v := .agg #[.slice none 0 0, .int .i64 0, .slice none 0 0, .slice none 0 0]) (by simp [results, Tryd.results57, go_sem, k0, k1, k2, k3]) rfl ⟨_, noDsk, rfl, p1, Nat.zero_le _, p2.more (by omega), p3⟩
end Go.Proofs.YtoafpokcbbncfaaDoor
