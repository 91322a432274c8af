/-
  Contracts of the laws' helpers samePlace, sameDesk and noDesk (written by wip/gen_f2.py).
-/
import Derived.Test.YtoafpokcbbncfaaDoorZpx
import Derived.Test.YtoafpokcbbncfaaDoorZdraw
import Derived.Deep.RegionHeld3
import Derived.Deep.RegionLaw
namespace Go.Proofs.YtoafpokcbbncfaaDoor
open Go.RowKit
set_option linter.unusedVariables false

theorem samePlace_c (v v' : Value) (p q : Plc) (B B' : Nat) (w : World) (h : PlM w B v p) (h' : PlM w B' v' q) (hB : B ≤ w.heap.size) (hB' : B' ≤ w.heap.size) :
    Calls Tryd.prog 59 #[v, v'] w fun e w' => e = .returned (.bool (sameP p q)) ∧ Below w.heap.size w w' := by
  obtain ⟨A, n, c, A', n', c', rfl, i1, i2, hwf⟩ := h.ex
  obtain ⟨D, m, d, D', m', d', rfl, k1, k2, hwf'⟩ := h'.ex
  have hq0 := hide (show Below w.heap.size w ((w.alloc (.cells #[.slice A n c, .int .i64 p.step, .slice A' n' c'] 31)).alloc (.cells #[.slice D m d, .int .i64 q.step, .slice D' m' d'] 31)) from (al w _).alloc (by simp) _)
  have ht := hide (show Tri ((w.alloc (.cells #[.slice A n c, .int .i64 p.step, .slice A' n' c'] 31)).alloc (.cells #[.slice D m d, .int .i64 q.step, .slice D' m' d'] 31)) w.heap.size (.slice A n c) (.int .i64 p.step) (.slice A' n' c') from (Tri.made w _ _ _ _).up (al _ _))
  have hu := hide (show Tri ((w.alloc (.cells #[.slice A n c, .int .i64 p.step, .slice A' n' c'] 31)).alloc (.cells #[.slice D m d, .int .i64 q.step, .slice D' m' d'] 31)) (w.heap.size + 1) (.slice D m d) (.int .i64 q.step) (.slice D' m' d') from by have := Tri.made (w.alloc (.cells #[.slice A n c, .int .i64 p.step, .slice A' n' c'] 31)) (.slice D m d) (.int .i64 q.step) (.slice D' m' d') 31; simpa using this)
  obtain ⟨WX, hW0⟩ : ∃ WX, Hid ((w.alloc (.cells #[.slice A n c, .int .i64 p.step, .slice A' n' c'] 31)).alloc (.cells #[.slice D m d, .int .i64 q.step, .slice D' m' d'] 31) = WX) := ⟨_, hide rfl⟩
  rw [hW0.out] at hq0 ht hu
  have j1 := hide ((i1.more hB).up hq0.out)
  have j2 := hide ((i2.more hB).up hq0.out)
  have l1 := hide ((k1.more hB').up hq0.out)
  have l2 := hide ((k2.more hB').up hq0.out)
  have HA := hide (quietB (sameInts_c A D n c _ m d _ p.start q.start WX j1.out l1.out))
  have HB := hide (fun (W : World) (hq : Below WX.heap.size WX W) => quietB (sameInts_c A' D' n' c' _ m' d' _ p.word q.word W (j2.out.up hq) (l2.out.up hq)))
  obtain ⟨t0, t1, t2, _⟩ := ht.out
  obtain ⟨u0, u1, u2, _⟩ := hu.out
  have he := hide (show sameP p q = (sameL p.start q.start && decide (p.step = q.step) && sameL p.word q.word) from rfl)
  obtain ⟨X, hX⟩ : ∃ X, Hid (sameL p.start q.start = X) := ⟨_, hide rfl⟩
  obtain ⟨Y, hY⟩ : ∃ Y, Hid (sameL p.word q.word = Y) := ⟨_, hide rfl⟩
  rw [hX.out] at HA he
  rw [hY.out] at HB he
  clear hX hY
  have hW1 := hW0.out
  subst hW1
  cases X with
  | false =>
    have he2 := hide (show sameP p q = false by rw [he.out]; rfl)
    go_enter Tryd.func59, Tryd.ntmps59
    go_wp2_with fail
    refine HA.out.mono ?_
    rintro e w2 ⟨rfl, hq⟩
    have hb := hide (upB hq0.out hq)
    go_wp2_with fail
    go_ret
    exact ⟨ret_bool he2.out.symm, hb.out⟩
  | true =>
    by_cases hst : p.step = q.step
    · have he2 := hide (show sameP p q = Y by rw [he.out, decide_eq_true hst]; rfl)
      replace hst := hide hst
      go_enter Tryd.func59, Tryd.ntmps59
      go_wp2_with fail
      refine HA.out.mono ?_
      rintro e w2 ⟨rfl, hq⟩
      have hb := hide (upB hq0.out hq)
      replace HB := hide (HB.out _ hq)
      obtain ⟨a0, a1, a2, _⟩ := ht.out.up hq
      obtain ⟨b0, b1, b2, _⟩ := hu.out.up hq
      rw [hst.out] at a1
      go_wp2_with fail
      refine HB.out.mono ?_
      rintro e w3 ⟨rfl, hq3⟩
      have hb3 := hide (upB hb.out hq3)
      cases Y with
      | false =>
        go_wp2_with fail
        go_ret
        exact ⟨ret_bool he2.out.symm, hb3.out⟩
      | true =>
        go_wp2_with fail
        go_ret
        exact ⟨ret_bool he2.out.symm, hb3.out⟩
    · have he2 := hide (show sameP p q = false by rw [he.out, decide_eq_false hst]; rfl)
      go_enter Tryd.func59, Tryd.ntmps59
      go_wp2_with fail
      refine HA.out.mono ?_
      rintro e w2 ⟨rfl, hq⟩
      have hb := hide (upB hq0.out hq)
      obtain ⟨a0, a1, a2, _⟩ := ht.out.up hq
      obtain ⟨b0, b1, b2, _⟩ := hu.out.up hq
      go_wp2_with fail
      go_ret
      exact ⟨ret_bool he2.out.symm, hb.out⟩

/-- Whether two desks read alike. -/
def sameAt (ps qs : List Plc) (j : Nat) : Bool := match ps[j]?, qs[j]? with
  | some p, some q => sameP p q
  | _, _ => true
def samePs (ps qs : List Plc) : Bool := decide (ps.length = qs.length) && (List.range ps.length).all (sameAt ps qs)
def sameK (d e : Dsk) : Bool := sameP d.now e.now && samePs d.past e.past
theorem samePs_len {ps qs : List Plc} (h : ps.length ≠ qs.length) : samePs ps qs = false := by unfold samePs; rw [decide_eq_false h]; rfl
theorem samePs_bad {ps qs : List Plc} {j : Nat} {p q : Plc} (h1 : ps[j]? = some p) (h2 : qs[j]? = some q) (h : sameP p q = false) : samePs ps qs = false := by
  unfold samePs
  rw [Bool.and_eq_false_iff]
  refine .inr (List.all_eq_false.2 ⟨j, List.mem_range.2 (List.getElem?_eq_some_iff.1 h1).1, ?_⟩)
  unfold sameAt
  rw [h1, h2]
  simp [h]
theorem samePs_good {ps qs : List Plc} (hl : ps.length = qs.length) (h : ∀ (j : Nat) p q, ps[j]? = some p → qs[j]? = some q → sameP p q = true) : samePs ps qs = true := by
  unfold samePs
  rw [decide_eq_true hl, Bool.true_and, List.all_eq_true]
  intro j _
  unfold sameAt
  cases h1 : ps[j]? with
  | none => rfl
  | some p =>
    cases h2 : qs[j]? with
    | none => rfl
    | some q => exact h j p q h1 h2
theorem samePs_refl (ps : List Plc) : samePs ps ps = true := samePs_good rfl fun j p q h1 h2 => by
  rw [h1] at h2
  injection h2 with h2
  rw [h2, sameP_refl]
theorem sameK_refl (d : Dsk) : sameK d d = true := by unfold sameK; rw [sameP_refl, samePs_refl]; rfl

set_option maxRecDepth 100000 in
set_option maxHeartbeats 3200000 in
theorem sameDesk_c (v v' : Value) (p q : Dsk) (B B' : Nat) (w : World) (h : DkM w B v p) (h' : DkM w B' v' q) (hB : B ≤ w.heap.size) (hB' : B' ≤ w.heap.size) :
    Calls Tryd.prog 23 #[v, v'] w fun e w' => e = .returned (.bool (sameK p q)) ∧ Below w.heap.size w w' := by
  obtain ⟨A, n, c, A', n', c', A3, n3, c3, rfl, i1, i2, hwf, i3⟩ := h.ex
  obtain ⟨D, m, d, D', m', d', D3, m3, d3, rfl, k1, k2, hwf', k3⟩ := h'.ex
  have hl3 := hide i3.len
  have hm3 := hide k3.len
  have hnb := i3.nb
  have hmb := k3.nb
  have hq0 := hide (show Below w.heap.size w ((w.alloc (.cells #[.slice A n c, .int .i64 p.now.step, .slice A' n' c', .slice A3 n3 c3] 34)).alloc (.cells #[.slice D m d, .int .i64 q.now.step, .slice D' m' d', .slice D3 m3 d3] 34)) from (al w _).alloc (by simp) _)
  have ht := hide (show Qua ((w.alloc (.cells #[.slice A n c, .int .i64 p.now.step, .slice A' n' c', .slice A3 n3 c3] 34)).alloc (.cells #[.slice D m d, .int .i64 q.now.step, .slice D' m' d', .slice D3 m3 d3] 34)) w.heap.size (.slice A n c) (.int .i64 p.now.step) (.slice A' n' c') (.slice A3 n3 c3) from (Qua.made w _ _ _ _ _).up (al _ _))
  have hu := hide (show Qua ((w.alloc (.cells #[.slice A n c, .int .i64 p.now.step, .slice A' n' c', .slice A3 n3 c3] 34)).alloc (.cells #[.slice D m d, .int .i64 q.now.step, .slice D' m' d', .slice D3 m3 d3] 34)) (w.heap.size + 1) (.slice D m d) (.int .i64 q.now.step) (.slice D' m' d') (.slice D3 m3 d3) from by have := Qua.made (w.alloc (.cells #[.slice A n c, .int .i64 p.now.step, .slice A' n' c', .slice A3 n3 c3] 34)) (.slice D m d) (.int .i64 q.now.step) (.slice D' m' d') (.slice D3 m3 d3) 34; simpa using this)
  obtain ⟨WX, hW0⟩ : ∃ WX, Hid (((w.alloc (.cells #[.slice A n c, .int .i64 p.now.step, .slice A' n' c', .slice A3 n3 c3] 34)).alloc (.cells #[.slice D m d, .int .i64 q.now.step, .slice D' m' d', .slice D3 m3 d3] 34)) = WX) := ⟨_, hide rfl⟩
  rw [hW0.out] at hq0 ht hu
  have HA := hide (samePlace_c _ _ p.now q.now _ _ WX (plM_mk ((i1.more hB).up hq0.out) ((i2.more hB).up hq0.out) hwf) (plM_mk ((k1.more hB').up hq0.out) ((k2.more hB').up hq0.out) hwf') (Nat.le_refl _) (Nat.le_refl _))
  have hI := hide (fun (W : World) (hq : Below WX.heap.size WX W) => ((i3.more hB).up hq0.out).up hq)
  have hK := hide (fun (W : World) (hq : Below WX.heap.size WX W) => ((k3.more hB').up hq0.out).up hq)
  have he := hide (show sameK p q = (sameP p.now q.now && samePs p.past q.past) from rfl)
  obtain ⟨X, hX⟩ : ∃ X, Hid (sameP p.now q.now = X) := ⟨_, hide rfl⟩
  rw [hX.out] at HA he
  clear hX
  obtain ⟨t0, t1, t2, t3, _⟩ := ht.out
  obtain ⟨u0, u1, u2, u3, _⟩ := hu.out
  have hW1 := hW0.out
  subst hW1
  cases X with
  | false =>
    have he2 := hide (show sameK p q = false by rw [he.out]; rfl)
    go_enter Tryd.func23, Tryd.ntmps23
    go_wp2_with fail
    refine HA.out.mono ?_
    rintro e w2 ⟨rfl, hq⟩
    have hb := hide (upB hq0.out hq)
    go_wp2_with fail
    go_ret
    exact ⟨ret_bool he2.out.symm, hb.out⟩
  | true =>
    have he2 := hide (show sameK p q = samePs p.past q.past by rw [he.out]; rfl)
    by_cases hne : n3 = m3
    · subst hne
      go_enter Tryd.func23, Tryd.ntmps23
      go_wp2_with fail
      refine HA.out.mono ?_
      rintro e w2 ⟨rfl, hq⟩
      have hb := hide (upB hq0.out hq)
      have hI2 := hide (hI.out _ hq)
      have hK2 := hide (hK.out _ hq)
      have ht2 := hide (ht.out.up hq)
      have hu2 := hide (hu.out.up hq)
      obtain ⟨a0, a1, a2, a3, _⟩ := ht2.out
      obtain ⟨b0, b1, b2, b3, _⟩ := hu2.out
      clear hq hI hK
      go_wp2_with fail
      obtain ⟨w5, hw5⟩ : ∃ W, Hid (W = w2) := ⟨_, hide rfl⟩
      go_loopw [5] (fun i wr => ∃ k : Nat, k ≤ n3 ∧ i = .int .i64 k ∧ Hid (∀ (j : Nat) x y, j < k → p.past[j]? = some x → q.past[j]? = some y → sameP x y = true) ∧ Hid (Below w2.heap.size w2 wr)) (fun i _ => n3 - (intOf i).toNat)
      case atStart => exact ⟨0, Nat.zero_le _, rfl, hide (fun j x y hj => absurd hj (by omega)), hide (Below.refl _ _)⟩
      case round =>
        obtain ⟨k, hk, rfl, hall, hbr⟩ := hrel
        clear t0 t1 t2 t3 u0 u1 u2 u3 a0 a1 a2 a3 b0 b1 b2 b3
        obtain ⟨a0, a1, a2, a3, _⟩ := ht2.out.up hbr.out
        obtain ⟨b0, b1, b2, b3, _⟩ := hu2.out.up hbr.out
        by_cases hlt : k < n3
        · obtain ⟨g, off, x, rfl, hgB, hx, hc⟩ := (hI2.out.up hbr.out).look hlt
          obtain ⟨g', off', y, rfl, hgB', hy, hc'⟩ := (hK2.out.up hbr.out).look hlt
          obtain ⟨A1, n1, c1, A2, n2, c2, e1, e2, e3, hm⟩ := hc.plM
          obtain ⟨A5, n5, c5, A4, n4, c4, f1, f2, f3, hm'⟩ := hc'.plM
          have HE := hide (fun (W : World) (hq : Below wr.heap.size wr W) => show Calls Tryd.prog 59 #[.agg #[.slice A1 n1 c1, .int .i64 x.step, .slice A2 n2 c2], .agg #[.slice A5 n5 c5, .int .i64 y.step, .slice A4 n4 c4]] W (fun e w' => e = .returned (.bool (sameP x y)) ∧ Below wr.heap.size wr w') from
            (samePlace_c _ _ x y _ _ W (hm.up hq) (hm'.up hq) (Nat.le_refl _) (Nat.le_refl _)).mono fun e w' ⟨e1, hq'⟩ => ⟨e1, upB hq hq'⟩)
          clear hc hc' hm hm'
          obtain ⟨Z, hZ⟩ : ∃ Z, Hid (sameP x y = Z) := ⟨_, hide rfl⟩
          rw [hZ.out] at HE
          go_wp2_with fail
          go_region_law (go_simp; go_at_call 59; (with_reducible refine (HE.out _ ?_).mono ?_); (focus (repeat (first | assumption | exact Below.refl _ _ | refine Below.drew ?_)); done); rintro e w3 ⟨rfl, hq3⟩; have hb3 := hide (upB hbr.out hq3))
          all_goals
            cases Z with
            | true =>
              go_wp2_with fail
              go_roundw
              case rel => exact ⟨k + 1, by omega, by go_num, hide (fun j x' y' hj hx' hy' => by
                rcases Nat.lt_or_ge j k with hjk | hjk
                · exact hall.out j x' y' hjk hx' hy'
                · obtain rfl : j = k := by omega
                  rw [hx.out] at hx'; injection hx' with hx'
                  rw [hy.out] at hy'; injection hy' with hy'
                  rw [← hx', ← hy']; exact hZ.out), by first | exact hb3 | exact hide (Below.drew hb3.out)⟩
              case measure => simp [intOf]; omega
            | false =>
              have he3 := hide (show sameK p q = false by rw [he2.out, samePs_bad hx.out hy.out hZ.out])
              go_wp2_with fail
              go_ret
              exact ⟨ret_bool he3.out.symm, by first | exact upB hb.out hb3.out | exact upB hb.out (Below.drew hb3.out)⟩
        · obtain rfl : k = n3 := by omega
          have he3 := hide (show sameK p q = true by
            rw [he2.out]
            exact samePs_good (by rw [hl3.out, hm3.out]) fun j x y hx hy => hall.out j x y (by have := hl3.out; have := (List.getElem?_eq_some_iff.1 hx).1; omega) hx hy)
          go_wp2_with fail
          go_ret
          exact ⟨ret_bool he3.out.symm, upB hb.out hbr.out⟩
    · have he3 := hide (show sameK p q = false by rw [he2.out, samePs_len (by rw [hl3.out, hm3.out]; exact hne)])
      have hd : ((n3 : Int) != (m3 : Int)) = true := by simp; omega
      go_enter Tryd.func23, Tryd.ntmps23
      go_wp2_with fail
      refine HA.out.mono ?_
      rintro e w2 ⟨rfl, hq⟩
      have hb := hide (upB hq0.out hq)
      obtain ⟨a0, a1, a2, a3, _⟩ := ht.out.up hq
      obtain ⟨b0, b1, b2, b3, _⟩ := hu.out.up hq
      go_wp2_with fail
      go_ret
      exact ⟨ret_bool he3.out.symm, hb.out⟩

theorem noDesk_c (v : Value) (p : Dsk) (B : Nat) (w : World) (h : DkM w B v p) (hB : B ≤ w.heap.size) :
    Calls Tryd.prog 31 #[v] w fun e w' => e = .returned (.bool (sameK p noDsk)) ∧ Below w.heap.size w w' := by
  obtain ⟨A, n, c, A', n', c', A3, n3, c3, rfl, i1, i2, hwf, i3⟩ := h.ex
  have hq0 := hide (al w (.cells #[.slice A n c, .int .i64 p.now.step, .slice A' n' c', .slice A3 n3 c3] 34))
  have HS := hide (sameDesk_c _ _ p noDsk _ _ _ ((h.more hB).up hq0.out) noDkM (Nat.le_refl _) (Nat.le_refl _))
  obtain ⟨t0, t1, t2, t3, _⟩ := Qua.made w (.slice A n c) (.int .i64 p.now.step) (.slice A' n' c') (.slice A3 n3 c3) 34
  go_enter Tryd.func31, Tryd.ntmps31
  go_wp2_with fail
  refine HS.out.mono ?_
  rintro e w2 ⟨rfl, hq⟩
  have hb := hide (upB hq0.out hq)
  go_wp2_with fail
  go_ret
  exact ⟨rfl, hb.out⟩
end Go.Proofs.YtoafpokcbbncfaaDoor
