/-
  Laws of chapter 2 walked: FnSameApart.
-/
import Derived.Test.YtdnnobkkilffbaaZdraw
import Derived.Test.YtdnnobkkilffbaaZimp
import Derived.Test.YtdnnobkkilffbaaZword
import Derived.Test.YtdnnobkkilffbaaZpl
namespace Go.Proofs.Ytdnnobkkilffbaa
open Go.RowKit

set_option maxHeartbeats 1600000 in
theorem lawSameApart {A : Option Addr} {n c : Nat} {bs : List Int} {w : World} (h : Bts w w.heap.size A n c bs) :
    Calls Try.prog 4 #[.slice A n c] w fun e w' => e = .returned (.bool true) ∧ Below w.heap.size w w' := by
  have hbig := h.big
  have hle := h.le
  unfold maxLen at hbig
  by_cases hn : 1048576 < n
  · go_enter Try.func4, Try.ntmps4
    go_wp2
    go_ret
    exact ⟨rfl, Below.refl _ _⟩
  · have hD := hide (DrawSameApart_c A n c bs w h)
    go_enter Try.func4, Try.ntmps4
    go_wp2_with fail
    refine hD.out.mono ?_
    rintro e w0 ⟨A', n', c', zs, rfl, hz, hn8, hb0⟩
    have hz := hide hz
    have hl := hide hz.out.len
    have hb0 := hide hb0
    clear hD
    go_wp2_with fail
    refine (sameApart_impl _ _ _ _ zs _ hz.out (Nat.le_refl _)).mono ?_
    rintro e w1 ⟨rfl, hq1⟩
    have hs1 := hq1.size
    have hz := hide ((hz.out.below hq1).more hs1)
    have hb1 := hide (hb0.out.trans (hq1.mono hb0.out.size))
    clear hq1 hb0
    go_wp2_with fail
    refine (quietB (sameApart_spec _ _ _ _ zs _ hz.out)).mono ?_
    rintro e w2 ⟨rfl, hq2⟩
    have hs2 := hq2.size
    have hz := hide ((hz.out.below hq2).more hs2)
    have hb2 := hide (hb1.out.trans (hq2.mono hb1.out.size))
    clear hq2 hb1
    by_cases hok : urnOk zs = true
    · have he : sameApart zs = sameSum zs := by unfold sameApart; rw [if_pos hok]
      rw [he]
      have h0 := sameApart_lt hok
      have hTk := hide (sameSum_take hok)
      have hWT := hide (fun (k : Nat) z (hx : zs[k]? = some z) => wordWays_twice hok hx)
      have hEl := hide (fun (k : Nat) z (hx : zs[k]? = some z) => urnOk_elem hok hx)
      have hn3 : n' ≤ 3 := by have := (urnOk_size hok).2; have := hl.out; omega
      have hAll := hide (allWays_two hok)
      obtain ⟨q1, q2⟩ := same_all hok
      have q2 := hide q2
      obtain ⟨s1, s2⟩ := urnOk_sum hok
      have hpb := hide (fun k => posCnt_bound (zs.take k))
      obtain ⟨T, hT⟩ : ∃ T, Hid (isum zs * (isum zs - 1) = T) := ⟨_, rfl⟩
      rw [hT.out] at q1 q2 hAll
      obtain ⟨S, hS⟩ : ∃ S, Hid (sameSum zs = S) := ⟨_, rfl⟩
      rw [hS.out] at q1 q2 h0 ⊢
      clear he hok s1 s2
      go_wp2_with fail
      go_loopw [5, 6, 7] (fun t p i wr => ∃ k : Nat, k ≤ n' ∧ i = .int .i64 k ∧ t = .int .i64 (sameSum (zs.take k)) ∧ p = .int .i64 (posCnt (zs.take k)) ∧ Hid (Ints wr w2.heap.size A' n' c' zs) ∧ Hid (Below w.heap.size w wr) ∧ w2.heap.size ≤ wr.heap.size) (fun _ _ i _ => n' - (intOf i).toNat)
      case atStart => exact ⟨0, by omega, rfl, rfl, rfl, hz, hb2, Nat.le_refl _⟩
      case round =>
        clear hz hb2
        obtain ⟨k, hk, rfl, rfl, rfl, hz, hb, hs⟩ := hrel
        obtain ⟨t1, t2⟩ := hTk.out k
        obtain ⟨p1, p2⟩ := hpb.out k
        rw [List.length_take] at p2
        by_cases hlt : k < n'
        · obtain ⟨b, off, x, rfl, hbB, hx, hcell⟩ := hz.out.look hlt
          obtain ⟨x0, x1⟩ := hEl.out k x hx.out
          obtain ⟨y0, y1⟩ := same_bound (x := x) ⟨x0, x1⟩
          have hst := hide (sameSum_take_succ hx.out)
          have hpt := hide (posCnt_take_succ hx.out)
          have hlit := hide ((ints_lit (w := wr) [(k : Int), (k : Int)] (by intro y hy; simp at hy; subst hy; exact wf_i64 (by omega)) (by simp) (cs := #[.int .i64 (k : Int), .int .i64 (k : Int)]) rfl).ints)
          go_wp2_with fail
          refine (wordWays_impl _ _ _ _ _ 2 2 _ zs [(k : Int), (k : Int)] (wr.alloc (.cells #[.int .i64 (k : Int), .int .i64 (k : Int)] 3)) (hz.out.alloc hs _) hlit.out (by simp; omega) (by simp)).mono ?_
          rw [hWT.out k x hx.out]
          rintro e w4 ⟨rfl, hq4⟩
          have hs4 := hq4.size
          have hz4 := hide ((hz.out.alloc hs (.cells #[.int .i64 (k : Int), .int .i64 (k : Int)] 3)).below (hq4.mono (by simp; omega)))
          have hb4 := hide ((below_empty hb.out (.cells #[.int .i64 (k : Int), .int .i64 (k : Int)] 3)).trans (hq4.mono (below_empty hb.out _).size))
          have hs4' : w2.heap.size ≤ w4.heap.size := by simp at hs4; omega
          obtain ⟨b2, off2, x2, hA2, _, hx2, hcell2⟩ := hz4.out.look hlt
          have hxx : x2 = x := by have h1 := hx.out; have h2 := hx2.out; rw [h1] at h2; injection h2 with h2; exact h2.symm
          subst hxx
          clear hq4 hz hb hcell hlit hs4
          injection hA2 with hA2
          injection hA2 with hA2 hA3 _
          subst hA2; subst hA3
          by_cases hpx : 0 < x2
          · rw [if_pos hpx] at hpt
            go_wp2_with fail
            go_roundw
            case rel => exact ⟨k + 1, by omega, by go_num, by rw [hst.out], by rw [hpt.out], hz4, hb4, hs4'⟩
            case measure => simp [intOf]; omega
          · rw [if_neg hpx] at hpt
            go_wp2_with fail
            go_roundw
            case rel => exact ⟨k + 1, by omega, by go_num, by rw [hst.out], by rw [hpt.out]; simp, hz4, hb4, hs4'⟩
            case measure => simp [intOf]; omega
        · obtain rfl : k = n' := by omega
          have eS : sameSum (zs.take k) = S := by rw [List.take_of_length_le (by have := hl.out; omega), hS.out]
          have eP : posCnt (zs.take k) = posCnt zs := by rw [List.take_of_length_le (by have := hl.out; omega)]
          rw [eS, eP]
          clear eS eP hTk hWT hEl t1 t2 p1 p2
          go_wp2_with fail
          refine (allWays_impl _ _ _ _ zs 2 _ hz.out hs).mono ?_
          rw [hAll.out]
          rintro e w4 ⟨rfl, hq4⟩
          have hb4 := hide (hb.out.trans (hq4.mono hb.out.size))
          clear hq4 hb
          obtain ⟨p, hp⟩ : ∃ p, Hid (posCnt zs = p) := ⟨_, rfl⟩
          rw [hp.out] at q2 ⊢
          by_cases hpc : p < 2
          · have hST : (S == T) = true := by simpa using q2.out.2 hpc
            have hd : decide (p < 2) = true := decide_eq_true hpc
            clear hpc
            go_wp2_with fail
            refine (alive_c _).mono ?_
            rintro e w6 ⟨rfl, hb6⟩
            go_wp2_with fail
            go_ret
            exact ⟨by simp, hb4.out.trans (hb6.mono hb4.out.size)⟩
          · have hST : (S == T) = false := by
              simp only [beq_eq_false_iff_ne]
              exact fun e => hpc (q2.out.1 e)
            have hd : decide (p < 2) = false := decide_eq_false hpc
            clear hpc
            go_wp2_with fail
            refine (alive_c _).mono ?_
            rintro e w6 ⟨rfl, hb6⟩
            go_wp2_with fail
            go_ret
            exact ⟨by simp, hb4.out.trans (hb6.mono hb4.out.size)⟩
    · have hok : urnOk zs = false := by simpa using hok
      have he : sameApart zs = -1 := by unfold sameApart; rw [hok]; rfl
      rw [he]
      go_wp2_with fail
      refine (urnOk_impl _ _ _ _ zs _ hz.out).mono ?_
      rw [hok]
      rintro e w' ⟨rfl, rfl⟩
      go_wp2_with fail
      refine (alive_c _).mono ?_
      rintro e w6 ⟨rfl, hb6⟩
      go_wp2_with fail
      go_ret
      exact ⟨rfl, hb2.out.trans (hb6.mono hb2.out.size)⟩
end Go.Proofs.Ytdnnobkkilffbaa
