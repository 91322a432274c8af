/-
  The laws of chapter 1 walked: FnPutIn, FnPouredUrn.
-/
import Derived.Test.YthdelfhfglnhfacLawAid
import Derived.Test.YthdelfhfglnhfacDrawCh1
import Derived.Test.YthdelfhfglnhfacPour
namespace Go.Proofs.Ythdelfhfglnhfac
open Go.RowKit

set_option maxHeartbeats 1600000 in
theorem lawPouredUrn {A : Option Addr} {n c : Nat} {bs : List Int} {w : World} (h : Bts w w.heap.size A n c bs) :
    Calls Try.prog 4 #[.slice A n c] w fun e w' => e = .returned (.bool true) ∧ Below w.heap.size w w' := by
  have hbig := h.big
  have hle := h.le
  unfold maxLen at hbig
  by_cases hn : 1048576 < n
  · go_enter Try.func4, Try.ntmps4
    go_wp2
    go_ret
    exact ⟨rfl, Below.refl _ _⟩
  · have hD := hide (DrawPouredUrn_c A n c bs w h)
    go_enter Try.func4, Try.ntmps4
    go_wp2_with fail
    refine hD.out.mono ?_
    rintro e w1 ⟨A', n', c', zs, A'', n'', c'', zs', rfl, hz, hv, hn8, hn10, hb1⟩
    have hz := hide hz
    have hv := hide hv
    clear hD
    go_wp2_with fail
    refine (pour_impl _ _ _ _ _ _ _ _ zs zs' _ hz.out hv.out (Nat.le_refl _) (Nat.le_refl _)).mono ?_
    rintro e w2 ⟨B, d, f, rfl, hx, hb2⟩
    have hz2 := hide (hz.out.below hb2)
    have hv2 := hide (hv.out.below hb2)
    have hc2 := hide (hb1.trans (hb2.mono hb1.size))
    have hx := hide hx
    have hs2 := hb2.size
    clear hb2
    go_wp2_with fail
    refine (pour_spec _ _ _ _ _ _ _ _ zs zs' _ hz2.out hv2.out hs2 hs2).mono ?_
    rintro e w3 ⟨B', d', f', rfl, hy, hb3⟩
    have hz3 := hide (hz2.out.below (hb3.mono hs2))
    have hv3 := hide (hv2.out.below (hb3.mono hs2))
    have hc3 := hide (hc2.out.trans (hb3.mono hc2.out.size))
    have hx3 := hide (hx.out.below hb3 (Nat.le_refl _))
    have hs3 := hb3.size
    clear hb3 hx hz hz2 hv hv2 hc2
    have hsame := sameL_refl (pourL zs zs')
    go_wp2_with fail
    refine (quietB (sameInts_c _ _ _ _ _ _ _ _ _ _ _ hx3.out.ints hy.ints)).mono ?_
    rintro e w4 ⟨rfl, hb4⟩
    have hz4 := hide (hz3.out.below (hb4.mono (by omega)))
    have hv4 := hide (hv3.out.below (hb4.mono (by omega)))
    have hc4 := hide (hc3.out.trans (hb4.mono hc3.out.size))
    have hx4 := hide (hx3.out.below hb4 (Nat.le_refl _))
    have hs4 := hb4.size
    clear hb4 hx3 hz3 hv3 hc3 hy
    by_cases hok : pourOk zs zs' = true
    · obtain ⟨hp1, hp2⟩ := pour_comm zs zs'
      obtain ⟨ht, hu⟩ := pour_total hok
      have hpk := hide hp1
      have hpb := hide hp2
      have hLt := hide ht
      have hLu := hide hu
      obtain ⟨ht1, ht2⟩ := totalF_lo zs
      obtain ⟨ht3, ht4⟩ := totalF_lo zs'
      clear hp1 hp2 ht hu
      go_wp2_with fail
      refine (pour_impl _ _ _ _ _ _ _ _ zs' zs _ hv4.out hz4.out (by omega) (by omega)).mono ?_
      rw [hpb.out, hpk.out]
      rintro e w5 ⟨B5, d5, f5, rfl, ho5, hb5⟩
      have hz5 := hide (hz4.out.below (hb5.mono (by omega)))
      have hv5 := hide (hv4.out.below (hb5.mono (by omega)))
      have hc5 := hide (hc4.out.trans (hb5.mono hc4.out.size))
      have hx5 := hide (hx4.out.below hb5 (Nat.le_refl _))
      have hs5 := hb5.size
      clear hb5 hx4 hz4 hv4 hc4
      go_wp2_with fail
      refine (quietB (sameInts_c _ _ _ _ _ _ _ _ _ _ _ ho5.ints hx5.out.ints)).mono ?_
      rintro e w6 ⟨rfl, hb6⟩
      have hz6 := hide (hz5.out.below (hb6.mono (by omega)))
      have hv6 := hide (hv5.out.below (hb6.mono (by omega)))
      have hc6 := hide (hc5.out.trans (hb6.mono hc5.out.size))
      have hx6 := hide (hx5.out.below hb6 (Nat.le_refl _))
      clear hb6 hx5 hz5 hv5 hc5 ho5
      go_wp2_with fail
      refine (totalOf_impl _ _ _ _ _ _ hx6.out.ints).mono ?_
      rw [hLt.out]
      rintro e w' ⟨rfl, rfl⟩
      go_wp2_with fail
      refine (totalOf_impl _ _ _ _ zs _ hz6.out).mono ?_
      rintro e w' ⟨rfl, rfl⟩
      go_wp2_with fail
      refine (totalOf_impl _ _ _ _ zs' _ hv6.out).mono ?_
      rintro e w' ⟨rfl, rfl⟩
      go_wp2_with fail
      refine (urnOk_impl _ _ _ _ _ _ hx6.out.ints).mono ?_
      rw [hLu.out]
      rintro e w' ⟨rfl, rfl⟩
      go_wp2_with fail
      go_ret
      exact ⟨rfl, hc6.out⟩
    · have hok : pourOk zs zs' = false := by simpa using hok
      have hl := hx4.out.len
      rw [pourL_no hok] at hl
      simp at hl
      subst hl
      go_wp2_with fail
      refine (alive_c _).mono ?_
      rintro e w5 ⟨rfl, hb5⟩
      go_wp2_with fail
      go_ret
      exact ⟨rfl, hc4.out.trans (hb5.mono hc4.out.size)⟩

end Go.Proofs.Ythdelfhfglnhfac
