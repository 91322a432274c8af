/-
  The laws of chapter 1 walked: FnPoured, FnChanceOf, FnTotalOf.
-/
import Derived.Test.YthdelfhfglnhfacLaw1
import Derived.Test.YthdelfhfglnhfacPlainCh
namespace Go.Proofs.Ythdelfhfglnhfac
open Go.RowKit

set_option maxHeartbeats 1600000 in
theorem lawPoured {A : Option Addr} {n c : Nat} {bs : List Int} {w : World} (h : Bts w w.heap.size A n c bs) :
    Calls Try.prog 5 #[.slice A n c] w fun e w' => e = .returned (.bool true) ∧ Below w.heap.size w w' := by
  have hbig := h.big
  have hle := h.le
  unfold maxLen at hbig
  by_cases hn : 1048576 < n
  · go_enter Try.func5, Try.ntmps5
    go_wp2
    go_ret
    exact ⟨rfl, Below.refl _ _⟩
  · have hD := hide (DrawPouredUrn_c A n c bs w h)
    go_enter Try.func5, Try.ntmps5
    go_wp2_with fail
    refine hD.out.mono ?_
    rintro e w1 ⟨A', n', c', zs, A'', n'', c'', zs', rfl, hz, hv, hn8, hn10, hb1⟩
    have hz := hide hz
    have hv := hide hv
    clear hD
    go_wp2_with fail
    refine (pour_impl _ _ _ _ _ _ _ _ zs zs' _ hz.out hv.out (Nat.le_refl _) (Nat.le_refl _)).mono ?_
    rintro e w2 ⟨B, d, f, rfl, hx, hb2⟩
    have hz2 := hide (hz.out.below hb2)
    have hv2 := hide (hv.out.below hb2)
    have hc2 := hide (hb1.trans (hb2.mono hb1.size))
    have hx := hide hx
    have hs2 := hb2.size
    clear hb2 hz hv
    have hT := hide (@pour_between zs zs')
    have hH := hide (@pour_has zs zs')
    have hF1 := hide (@chance_facts zs 0)
    have hF2 := hide (@chance_facts zs' 0)
    have hF3 := hide (@chance_facts (pourL zs zs') 0)
    go_wp2_with fail
    refine (quietB (chanceOf_impl _ _ _ _ zs 0 _ hz2.out)).mono ?_
    rintro e w3 ⟨rfl, hb3⟩
    have hv3 := hide (hv2.out.below (hb3.mono (by omega)))
    have hc3 := hide (hc2.out.trans (hb3.mono hc2.out.size))
    have hx3 := hide (hx.out.below hb3 (Nat.le_refl _))
    have hs3 := hb3.size
    clear hb3 hz2 hv2 hc2 hx
    go_wp2_with fail
    refine (quietB (chanceOf_impl _ _ _ _ zs' 0 _ hv3.out)).mono ?_
    rintro e w4 ⟨rfl, hb4⟩
    have hc4 := hide (hc3.out.trans (hb4.mono hc3.out.size))
    have hx4 := hide (hx3.out.below hb4 (Nat.le_refl _))
    clear hb4 hv3 hc3 hx3
    go_wp2_with fail
    refine (quietB (chanceOf_impl _ _ _ _ (pourL zs zs') 0 _ hx4.out.ints)).mono ?_
    rintro e w5 ⟨rfl, hb5⟩
    have hc5 := hide (hc4.out.trans (hb5.mono hc4.out.size))
    clear hb5 hx4 hc4
    obtain ⟨p, hp⟩ : ∃ x, chN zs 0 = x := ⟨_, rfl⟩
    obtain ⟨q, hq⟩ : ∃ x, chD zs 0 = x := ⟨_, rfl⟩
    obtain ⟨r, hr⟩ : ∃ x, chN zs' 0 = x := ⟨_, rfl⟩
    obtain ⟨s, hs⟩ : ∃ x, chD zs' 0 = x := ⟨_, rfl⟩
    obtain ⟨u, hu⟩ : ∃ x, chN (pourL zs zs') 0 = x := ⟨_, rfl⟩
    obtain ⟨v, hv⟩ : ∃ x, chD (pourL zs zs') 0 = x := ⟨_, rfl⟩
    rw [hp, hq] at hF1 hT ⊢
    rw [hr, hs] at hF2 hT ⊢
    rw [hu, hv] at hF3 hT ⊢
    clear hp hq hr hs hu hv
    by_cases hok : pourOk zs zs' = true
    · by_cases h1 : hasF zs 0 = true
      · by_cases h2 : hasF zs' 0 = true
        · have h3 := hH.out hok h1 h2
          obtain ⟨T1, T2⟩ := hT.out hok h1 h2
          obtain ⟨a1, a2, a3, a4, _⟩ := hF1.out h1
          obtain ⟨b1, b2, b3, b4, _⟩ := hF2.out h2
          obtain ⟨d1, d2, d3, d4, _⟩ := hF3.out h3
          obtain ⟨m1, m2⟩ := mul_small (a := p) (b := s) a1 (by omega) (by omega) b4
          obtain ⟨m3, m4⟩ := mul_small (a := r) (b := q) b1 (by omega) (by omega) a4
          obtain ⟨m5, m6⟩ := mul_small (a := p) (b := v) a1 (by omega) (by omega) d4
          obtain ⟨m7, m8⟩ := mul_small (a := u) (b := q) d1 (by omega) (by omega) a4
          obtain ⟨m9, m10⟩ := mul_small (a := u) (b := s) d1 (by omega) (by omega) b4
          obtain ⟨m11, m12⟩ := mul_small (a := r) (b := v) b1 (by omega) (by omega) d4
          clear hT hH hF1 hF2 hF3 a1 a2 a3 a4 b1 b2 b3 b4 d1 d2 d3 d4
          by_cases hgt : r * q < p * s
          · obtain ⟨t1, t2⟩ := T2 (Int.le_of_lt hgt)
            clear T1 T2
            go_wp2_with fail
            refine (alive_c _).mono ?_
            rintro e w6 ⟨rfl, hb6⟩
            go_wp2_with fail
            go_ret
            exact ⟨rfl, hc5.out.trans (hb6.mono hc5.out.size)⟩
          · obtain ⟨t1, t2⟩ := T1 (by omega)
            clear T1 T2
            go_wp2_with fail
            refine (alive_c _).mono ?_
            rintro e w6 ⟨rfl, hb6⟩
            go_wp2_with fail
            go_ret
            exact ⟨rfl, hc5.out.trans (hb6.mono hc5.out.size)⟩
        · have h2 : hasF zs' 0 = false := by simpa using h2
          clear hT hH hF1 hF2 hF3
          go_wp2_with fail
          refine (alive_c _).mono ?_
          rintro e w6 ⟨rfl, hb6⟩
          go_wp2_with fail
          go_ret
          exact ⟨rfl, hc5.out.trans (hb6.mono hc5.out.size)⟩
      · have h1 : hasF zs 0 = false := by simpa using h1
        clear hT hH hF1 hF2 hF3
        go_wp2_with fail
        refine (alive_c _).mono ?_
        rintro e w6 ⟨rfl, hb6⟩
        go_wp2_with fail
        go_ret
        exact ⟨rfl, hc5.out.trans (hb6.mono hc5.out.size)⟩
    · have hok : pourOk zs zs' = false := by simpa using hok
      clear hT hH hF1 hF2 hF3
      go_wp2_with fail
      refine (alive_c _).mono ?_
      rintro e w6 ⟨rfl, hb6⟩
      go_wp2_with fail
      go_ret
      exact ⟨rfl, hc5.out.trans (hb6.mono hc5.out.size)⟩

set_option maxHeartbeats 3200000 in
theorem lawChanceOf {A : Option Addr} {n c : Nat} {bs : List Int} {w : World} (h : Bts w w.heap.size A n c bs) :
    Calls Try.prog 3 #[.slice A n c] w fun e w' => e = .returned (.bool true) ∧ Below w.heap.size w w' := by
  have hbig := h.big
  have hle := h.le
  unfold maxLen at hbig
  by_cases hn : 1048576 < n
  · go_enter Try.func3, Try.ntmps3
    go_wp2
    go_ret
    exact ⟨rfl, Below.refl _ _⟩
  · have hD := hide (DrawChanceOf_c A n c bs w h)
    go_enter Try.func3, Try.ntmps3
    go_wp2_with fail
    refine hD.out.mono ?_
    rintro e w1 ⟨A', n', c', zs, k, rfl, hz, hn8, hk1, hk2, hb1⟩
    have hz := hide hz
    have hl := hide hz.out.len
    clear hD
    go_wp2_with fail
    refine (quietB (chanceOf_impl _ _ _ _ zs k _ hz.out)).mono ?_
    rintro e w2 ⟨rfl, hb2⟩
    have hz2 := hide (hz.out.below hb2)
    have hc2 := hide (hb1.trans (hb2.mono hb1.size))
    have hs2 := hb2.size
    clear hb2 hz
    go_wp2_with fail
    refine (quietB (chanceOf_spec _ _ _ _ zs k _ hz2.out)).mono ?_
    rintro e w3 ⟨rfl, hb3⟩
    have hz3 := hide (hz2.out.below (hb3.mono hs2))
    have hc3 := hide (hc2.out.trans (hb3.mono hc2.out.size))
    have hs3 := hb3.size
    clear hb3 hz2 hc2
    by_cases hok : hasF zs k = true
    · obtain ⟨u1, u2, u3, u4⟩ := hasF_yes hok
      have hF := hide (fun (j : Nat) (hj : j < n') => hasF_mk (zs := zs) (c := (j : Int)) u1 (by omega) (by have := hl.out; omega) u4)
      obtain ⟨a1, a2, a3, a4, _⟩ := chance_facts hok
      have hTw := hide (fun hp => chance_twice hok hp)
      have hTot := hide (totalF_ok u1)
      have hTk := hide (take_sum u1)
      have hEl := hide (fun (j : Nat) x (hx : zs[j]? = some x) => urnOk_elem u1 hx)
      have hS2 := urnOk_sum u1
      have hSum := hide (fun (j : Nat) x (hx : zs[j]? = some x) => isum_take_succ hx)
      obtain ⟨S, hS⟩ : ∃ S, Hid (S = isum zs) := ⟨_, rfl⟩
      rw [← hS.out] at hTot hS2 u4
      obtain ⟨s1, s2⟩ := hS2
      have hok := hide hok
      clear u1 u2 u3
      go_wp2_with fail
      refine (totalOf_impl _ _ _ _ zs _ hz3.out).mono ?_
      rw [hTot.out]
      rintro e w' ⟨rfl, rfl⟩
      go_wp2_with fail
      go_loopw [12, 13] (fun t i wr => ∃ j : Nat, j ≤ n' ∧ i = .int .i64 j ∧ t = .int .i64 (isum (zs.take j)) ∧ Hid (Ints wr w1.heap.size A' n' c' zs) ∧ Hid (Below w.heap.size w wr) ∧ w1.heap.size ≤ wr.heap.size) (fun _ i _ => n' - (intOf i).toNat)
      case atStart => exact ⟨0, by omega, rfl, rfl, hz3, hc3, by omega⟩
      case round =>
        clear hz3 hc3
        obtain ⟨j, hj, rfl, rfl, hz, hc, hs⟩ := hrel
        obtain ⟨t1, t2⟩ := hTk.out j
        by_cases hlt : j < n'
        · have hFj := hF.out j hlt
          go_wp2_with fail
          refine (quietB (chanceOf_impl _ _ _ _ zs (j : Int) _ hz.out)).mono ?_
          rw [hFj]
          rintro e w4 ⟨rfl, hb4⟩
          have hz4 := hide (hz.out.below (hb4.mono hs))
          have hc4 := hide (hc.out.trans (hb4.mono hc.out.size))
          have hs4 := hb4.size
          clear hb4 hz hc
          obtain ⟨b, off, x, hA, hbB, hx, hcell⟩ := hz4.out.look hlt
          have hx1 := hEl.out j x hx.out
          obtain ⟨b1, b2, b3, b4, _⟩ := chance_facts hFj
          have hm := chance_mul hFj
          have hdv := chance_div hFj
          rw [ballsAt_eq (k := (j : Int)) (x := x) (by simpa using hx.out), ← hS.out] at hm hdv
          have hst := hide (hSum.out j x hx.out)
          obtain ⟨P, hP⟩ : ∃ P, chN zs (j : Int) = P := ⟨_, rfl⟩
          obtain ⟨Q, hQ⟩ : ∃ Q, chD zs (j : Int) = Q := ⟨_, rfl⟩
          rw [hP, hQ] at hm ⊢
          rw [hP, hQ] at hdv
          rw [hP] at b1 b2
          rw [hQ] at b2 b3 b4
          obtain ⟨hx2, hx3⟩ := hx1
          obtain ⟨m1, m2⟩ := mul_small (a := x) (b := Q) hx2 (by omega) (by omega) b4
          rw [hm] at hdv
          have hq0 : (Q == 0) = false := by simp; omega
          clear hP hQ hFj
          subst hA
          go_wp2_with fail
          go_roundw
          case rel => exact ⟨j + 1, by omega, by go_num, by rw [hst.out], hz4, hc4, by omega⟩
          case measure => simp [intOf]; omega
        · obtain rfl : j = n' := by omega
          have hSj : isum (zs.take j) = S := by rw [List.take_of_length_le (by have := hl.out; omega), hS.out]
          rw [hSj]
          clear hF hTk hEl hSum hSj
          go_wp2_with fail
          refine (pour_impl _ _ _ _ _ _ _ _ zs zs _ hz.out hz.out hs hs).mono ?_
          rintro e w4 ⟨B4, d4, f4, rfl, ho4, hb4⟩
          have hc4 := hide (hc.out.trans (hb4.mono hc.out.size))
          have ho4 := hide ho4
          clear hb4 hc
          go_wp2_with fail
          refine (quietB (chanceOf_impl _ _ _ _ _ k _ ho4.out.ints)).mono ?_
          by_cases hp : pourOk zs zs = true
          · obtain ⟨e1, e2, e3⟩ := hTw.out hp
            rw [e1, e2, e3]
            rintro e w5 ⟨rfl, hb5⟩
            have hc5 := hide (hc4.out.trans (hb5.mono hc4.out.size))
            clear hb5 hTw e1 e2 e3
            go_wp2_with fail
            go_ret
            exact ⟨rfl, hc5.out⟩
          · have hp : pourOk zs zs = false := by simpa using hp
            rintro e w5 ⟨rfl, hb5⟩
            have hc5 := hide (hc4.out.trans (hb5.mono hc4.out.size))
            clear hb5 hTw
            go_wp2_with fail
            go_ret
            exact ⟨rfl, hc5.out⟩
    · have hok : hasF zs k = false := by simpa using hok
      obtain ⟨e1, e2⟩ := chN_no hok
      go_wp2_with fail
      refine (alive_c _).mono ?_
      rintro e w6 ⟨rfl, hb6⟩
      go_wp2_with fail
      go_ret
      exact ⟨rfl, hc3.out.trans (hb6.mono hc3.out.size)⟩
end Go.Proofs.Ythdelfhfglnhfac
