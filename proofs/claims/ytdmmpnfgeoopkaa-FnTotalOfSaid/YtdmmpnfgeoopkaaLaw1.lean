/-
  The laws of chapter 1 walked: FnPutIn, FnPouredUrn.
-/
import Derived.Test.YtdmmpnfgeoopkaaDrawUrn
import Derived.Test.YtdmmpnfgeoopkaaPour
namespace Go.Proofs.Ytdmmpnfgeoopkaa
open Go.RowKit

set_option maxHeartbeats 400000 in
theorem sameInts_c (A A' : Option Addr) (n c B n' c' B' : Nat) (zs zs' : List Int) (w : World) (h : Ints w B A n c zs) (h' : Ints w B' A' n' c' zs') :
    Calls Try.prog 28 #[.slice A n c, .slice A' n' c'] w fun e w' => e = .returned (.bool (sameL zs zs')) ∧ ∃ q, w' = w.drewN q := by
  have hl := hide h.len
  have hl' := hide h'.len
  have hn := h.nb
  have hn' := h'.nb
  by_cases hne : n = n'
  · subst hne
    go_enter Try.func28, Try.ntmps28
    go_wp2
    go_loopw [5] (fun i wr => ∃ k q : Nat, k ≤ n ∧ i = .int .i64 k ∧ wr = w.drewN q ∧ Hid (∀ j, j < k → zs[j]? = zs'[j]?)) (fun i _ => n - (intOf i).toNat)
    case atStart => exact ⟨0, 0, Nat.zero_le _, rfl, rfl, fun j hj => absurd hj (by omega)⟩
    case round =>
      obtain ⟨k, q, hk, rfl, rfl, hall⟩ := hrel
      by_cases hlt : k < n
      · obtain ⟨b, off, x, rfl, hb, hx, hcell⟩ := h.look hlt
        obtain ⟨b', off', x', rfl, hb', hx', hcell'⟩ := h'.look hlt
        by_cases hxx : x = x'
        · have hd : (x != x') = false := by simpa using hxx
          go_wp2
          go_quiet (fail)
          go_wp2
          go_roundw
          case rel => exact ⟨k + 1, _, by omega, by go_num, rfl, fun j hj => by
            rcases Nat.lt_or_ge j k with hjk | hjk
            · exact hall.out j hjk
            · obtain rfl : j = k := by omega
              rw [hx.out, hx'.out, hxx]⟩
          case measure => simp [intOf]; omega
        · have hd : (x != x') = true := by simpa using hxx
          go_wp2
          go_quiet (fail)
          go_wp2
          go_ret
          exact ⟨ret_bool (sameL_bad hx.out hx'.out hxx).symm, _, World.drewN_drewN _ _ _⟩
      · go_wp2
        go_ret
        exact ⟨ret_bool (sameL_good (hl.out.trans hl'.out.symm) (fun j hj => hall.out j (by have := hl.out; omega))).symm, _, rfl⟩
  · have hd : ((n : Int) != (n' : Int)) = true := by simp; omega
    go_enter Try.func28, Try.ntmps28
    go_wp2
    go_ret
    exact ⟨ret_bool (sameL_len (by have := hl.out; have := hl'.out; omega)).symm, 0, rfl⟩


theorem alive_c (w : World) : Calls Try.prog 20 #[] w fun e w' => e = .returned (.bool true) ∧ Below w.heap.size w w' := by
  have h1 := hide ((ints_lit (w := w) [1] (by intro x hx; simp at hx; subst hx; decide) (by decide) rfl).ints)
  have e1 : urnOk [1] = true := by decide
  have e0 : urnOk [] = false := by decide
  go_enter Try.func20, Try.ntmps20
  go_wp2_with fail
  refine (urnOk_impl _ _ _ _ _ _ h1.out).mono ?_
  rw [e1]
  rintro e w' ⟨rfl, rfl⟩
  go_wp2_with fail
  refine (urnOk_impl _ _ _ _ [] _ (own_empty' (by simp) (Nat.le_refl _)).ints).mono ?_
  rw [e0]
  rintro e w' ⟨rfl, rfl⟩
  go_wp2_with fail
  go_ret
  exact ⟨rfl, ((Below.refl _ _).alloc (Nat.le_refl _) _).alloc (by simp) _⟩

set_option maxHeartbeats 1600000 in
theorem lawPutIn {A : Option Addr} {n c : Nat} {bs : List Int} {w : World} (h : Bts w w.heap.size A n c bs) :
    Calls Try.prog 6 #[.slice A n c] w fun e w' => e = .returned (.bool true) ∧ Below w.heap.size w w' := by
  have hbig := h.big
  have hle := h.le
  unfold maxLen at hbig
  by_cases hn : 1048576 < n
  · go_enter Try.func6, Try.ntmps6
    go_wp2
    go_ret
    exact ⟨rfl, Below.refl _ _⟩
  · have hD := hide (DrawPutIn_c A n c bs w h)
    go_enter Try.func6, Try.ntmps6
    go_wp2_with fail
    refine hD.out.mono ?_
    rintro e w1 ⟨A', n', c', zs, k, m, rfl, hz, hn8, hk1, hk2, hm1, hm2, hb1⟩
    have hz := hide hz
    have hm := hide (wf_i64 (z := m) (by omega))
    have hm' := hide (wf_i64 (z := -m) (by omega))
    clear hD
    go_wp2_with fail
    refine (putIn_impl _ _ _ _ zs k m _ hz.out (Nat.le_refl _) hm.out).mono ?_
    rintro e w2 ⟨B, d, f, rfl, hx, hb2⟩
    have hz2 := hide (hz.out.below hb2)
    have hc2 := hide (hb1.trans (hb2.mono hb1.size))
    have hx := hide hx
    have hs2 := hb2.size
    clear hb2
    go_wp2_with fail
    refine (putIn_spec _ _ _ _ zs k m _ hz2.out hs2 hm.out).mono ?_
    rintro e w3 ⟨B', d', f', rfl, hy, hb3⟩
    have hz3 := hide (hz2.out.below (hb3.mono hs2))
    have hc3 := hide (hc2.out.trans (hb3.mono hc2.out.size))
    have hx3 := hide (hx.out.below hb3 (Nat.le_refl _))
    have hs3 := hb3.size
    clear hb3 hx hz hz2 hc2
    have hsame := sameL_refl (putL zs k m)
    go_wp2_with fail
    refine (quietB (sameInts_c _ _ _ _ _ _ _ _ _ _ _ hx3.out.ints hy.ints)).mono ?_
    rintro e w4 ⟨rfl, hb4⟩
    have hz4 := hide (hz3.out.below (hb4.mono (by omega)))
    have hc4 := hide (hc3.out.trans (hb4.mono hc3.out.size))
    have hx4 := hide (hx3.out.below hb4 (Nat.le_refl _))
    have hs4 := hb4.size
    clear hb4 hx3 hz3 hc3 hy
    by_cases hok : putOk zs k m = true
    · obtain ⟨hp1, hp2, hp3⟩ := put_back hok
      have hpb := hide hp2
      have ht := totalF_lo zs
      obtain ⟨ht1, ht2⟩ := ht
      have hLt := hide hp3
      go_wp2_with fail
      refine (putIn_impl _ _ _ _ (putL zs k m) k (-m) _ hx4.out.ints (Nat.le_refl _) hm'.out).mono ?_
      rw [hpb.out]
      clear hp2
      rintro e w5 ⟨B5, d5, f5, rfl, ho5, hb5⟩
      have hz5 := hide (hz4.out.below (hb5.mono (by omega)))
      have hc5 := hide (hc4.out.trans (hb5.mono hc4.out.size))
      have hx5 := hide (hx4.out.below hb5 (Nat.le_refl _))
      have hs5 := hb5.size
      clear hb5 hx4 hz4 hc4
      have hsame2 := sameL_refl zs
      go_wp2_with fail
      refine (quietB (sameInts_c _ _ _ _ _ _ _ _ _ _ _ ho5.ints hz5.out)).mono ?_
      rintro e w6 ⟨rfl, hb6⟩
      have hz6 := hide (hz5.out.below (hb6.mono (by omega)))
      have hc6 := hide (hc5.out.trans (hb6.mono hc5.out.size))
      have hx6 := hide (hx5.out.below hb6 (Nat.le_refl _))
      clear hb6 hx5 hz5 hc5 ho5
      go_wp2_with fail
      refine (totalOf_impl _ _ _ _ (putL zs k m) _ hx6.out.ints).mono ?_
      rw [hLt.out]
      clear hp3
      rintro e w' ⟨rfl, rfl⟩
      go_wp2_with fail
      refine (totalOf_impl _ _ _ _ zs _ hz6.out).mono ?_
      rintro e w' ⟨rfl, rfl⟩
      go_wp2_with fail
      go_ret
      exact ⟨rfl, hc6.out⟩
    · have hok : putOk zs k m = false := by simpa using hok
      have hl := hx4.out.len
      rw [putL_no hok] at hl
      simp at hl
      subst hl
      go_wp2_with fail
      refine (alive_c _).mono ?_
      rintro e w5 ⟨rfl, hb5⟩
      go_wp2_with fail
      go_ret
      exact ⟨rfl, hc4.out.trans (hb5.mono hc4.out.size)⟩

set_option maxHeartbeats 1600000 in
theorem lawPouredUrn {A : Option Addr} {n c : Nat} {bs : List Int} {w : World} (h : Bts w w.heap.size A n c bs) :
    Calls Try.prog 7 #[.slice A n c] w fun e w' => e = .returned (.bool true) ∧ Below w.heap.size w w' := by
  have hbig := h.big
  have hle := h.le
  unfold maxLen at hbig
  by_cases hn : 1048576 < n
  · go_enter Try.func7, Try.ntmps7
    go_wp2
    go_ret
    exact ⟨rfl, Below.refl _ _⟩
  · have hD := hide (DrawPouredUrn_c A n c bs w h)
    go_enter Try.func7, Try.ntmps7
    go_wp2_with fail
    refine hD.out.mono ?_
    rintro e w1 ⟨A', n', c', zs, A'', n'', c'', zs', rfl, hz, hv, hn8, hn10, hb1⟩
    have hz := hide hz
    have hv := hide hv
    clear hD
    go_wp2_with fail
    refine (pour_impl _ _ _ _ _ _ _ _ zs zs' _ hz.out hv.out (Nat.le_refl _) (Nat.le_refl _)).mono ?_
    rintro e w2 ⟨B, d, f, rfl, hx, hb2⟩
    have hz2 := hide (hz.out.below hb2)
    have hv2 := hide (hv.out.below hb2)
    have hc2 := hide (hb1.trans (hb2.mono hb1.size))
    have hx := hide hx
    have hs2 := hb2.size
    clear hb2
    go_wp2_with fail
    refine (pour_spec _ _ _ _ _ _ _ _ zs zs' _ hz2.out hv2.out hs2 hs2).mono ?_
    rintro e w3 ⟨B', d', f', rfl, hy, hb3⟩
    have hz3 := hide (hz2.out.below (hb3.mono hs2))
    have hv3 := hide (hv2.out.below (hb3.mono hs2))
    have hc3 := hide (hc2.out.trans (hb3.mono hc2.out.size))
    have hx3 := hide (hx.out.below hb3 (Nat.le_refl _))
    have hs3 := hb3.size
    clear hb3 hx hz hz2 hv hv2 hc2
    have hsame := sameL_refl (pourL zs zs')
    go_wp2_with fail
    refine (quietB (sameInts_c _ _ _ _ _ _ _ _ _ _ _ hx3.out.ints hy.ints)).mono ?_
    rintro e w4 ⟨rfl, hb4⟩
    have hz4 := hide (hz3.out.below (hb4.mono (by omega)))
    have hv4 := hide (hv3.out.below (hb4.mono (by omega)))
    have hc4 := hide (hc3.out.trans (hb4.mono hc3.out.size))
    have hx4 := hide (hx3.out.below hb4 (Nat.le_refl _))
    have hs4 := hb4.size
    clear hb4 hx3 hz3 hv3 hc3 hy
    by_cases hok : pourOk zs zs' = true
    · obtain ⟨hp1, hp2⟩ := pour_comm zs zs'
      obtain ⟨ht, hu⟩ := pour_total hok
      have hpk := hide hp1
      have hpb := hide hp2
      have hLt := hide ht
      have hLu := hide hu
      obtain ⟨ht1, ht2⟩ := totalF_lo zs
      obtain ⟨ht3, ht4⟩ := totalF_lo zs'
      clear hp1 hp2 ht hu
      go_wp2_with fail
      refine (pour_impl _ _ _ _ _ _ _ _ zs' zs _ hv4.out hz4.out (by omega) (by omega)).mono ?_
      rw [hpb.out, hpk.out]
      rintro e w5 ⟨B5, d5, f5, rfl, ho5, hb5⟩
      have hz5 := hide (hz4.out.below (hb5.mono (by omega)))
      have hv5 := hide (hv4.out.below (hb5.mono (by omega)))
      have hc5 := hide (hc4.out.trans (hb5.mono hc4.out.size))
      have hx5 := hide (hx4.out.below hb5 (Nat.le_refl _))
      have hs5 := hb5.size
      clear hb5 hx4 hz4 hv4 hc4
      go_wp2_with fail
      refine (quietB (sameInts_c _ _ _ _ _ _ _ _ _ _ _ ho5.ints hx5.out.ints)).mono ?_
      rintro e w6 ⟨rfl, hb6⟩
      have hz6 := hide (hz5.out.below (hb6.mono (by omega)))
      have hv6 := hide (hv5.out.below (hb6.mono (by omega)))
      have hc6 := hide (hc5.out.trans (hb6.mono hc5.out.size))
      have hx6 := hide (hx5.out.below hb6 (Nat.le_refl _))
      clear hb6 hx5 hz5 hv5 hc5 ho5
      go_wp2_with fail
      refine (totalOf_impl _ _ _ _ _ _ hx6.out.ints).mono ?_
      rw [hLt.out]
      rintro e w' ⟨rfl, rfl⟩
      go_wp2_with fail
      refine (totalOf_impl _ _ _ _ zs _ hz6.out).mono ?_
      rintro e w' ⟨rfl, rfl⟩
      go_wp2_with fail
      refine (totalOf_impl _ _ _ _ zs' _ hv6.out).mono ?_
      rintro e w' ⟨rfl, rfl⟩
      go_wp2_with fail
      refine (urnOk_impl _ _ _ _ _ _ hx6.out.ints).mono ?_
      rw [hLu.out]
      rintro e w' ⟨rfl, rfl⟩
      go_wp2_with fail
      go_ret
      exact ⟨rfl, hc6.out⟩
    · have hok : pourOk zs zs' = false := by simpa using hok
      have hl := hx4.out.len
      rw [pourL_no hok] at hl
      simp at hl
      subst hl
      go_wp2_with fail
      refine (alive_c _).mono ?_
      rintro e w5 ⟨rfl, hb5⟩
      go_wp2_with fail
      go_ret
      exact ⟨rfl, hc4.out.trans (hb5.mono hc4.out.size)⟩

set_option maxHeartbeats 1600000 in
theorem lawUrnOk {A : Option Addr} {n c : Nat} {bs : List Int} {w : World} (h : Bts w w.heap.size A n c bs) :
    Calls Try.prog 3 #[.slice A n c] w fun e w' => e = .returned (.bool true) ∧ Below w.heap.size w w' := by
  have hbig := h.big
  have hle := h.le
  unfold maxLen at hbig
  by_cases hn : 1048576 < n
  · go_enter Try.func3, Try.ntmps3
    go_wp2
    go_ret
    exact ⟨rfl, Below.refl _ _⟩
  · have hD := hide (DrawUrnOk_c A n c bs w h)
    obtain ⟨i0, hi, hz0, hz1, hz2⟩ := info_parts infoInt
    go_enter Try.func3, Try.ntmps3
    go_wp2_with fail
    refine hD.out.mono ?_
    rintro e w1 ⟨A', n', c', zs, rfl, hz, hn8, hb1⟩
    have hz := hide hz
    have hl := hide hz.out.len
    have hb1 := hide hb1
    clear hD
    go_wp2_with fail
    refine (urnOk_impl _ _ _ _ zs _ hz.out).mono ?_
    rintro e w' ⟨rfl, rfl⟩
    go_wp2_with fail
    refine (urnOk_spec _ _ _ _ zs _ hz.out).mono ?_
    rintro e w' ⟨rfl, rfl⟩
    have hbb := hide (below_empty hb1.out (.cells #[] 3))
    have hoo := hide (own_empty (w := w1) (base := w1.heap.size) (Nat.le_refl _))
    go_wp2_with fail
    go_loopw [5, 6] (fun v i wr => ∃ k : Nat, ∃ B d f, k ≤ n' ∧ i = .int .i64 k ∧ v = .slice B d f ∧ Hid (Own wr w1.heap.size (.slice B d f) (zs.take k).reverse) ∧ Hid (Below w1.heap.size w1 wr)) (fun _ i _ => n' - (intOf i).toNat)
    case atStart => exact ⟨0, _, _, _, by omega, rfl, rfl, hoo, hide ((Below.refl _ _).alloc (Nat.le_refl _) _)⟩
    case round =>
      clear hoo hbb
      obtain ⟨k, B, d, f, hk, rfl, rfl, ho, hb⟩ := hrel
      have hs := hb.out.size
      by_cases hlt : k < n'
      · obtain ⟨b, off, x, rfl, hbB, hx, hcell⟩ := (hz.out.below hb.out).look hlt
        have hwx := hide (hz.out.wf_at hx.out)
        have hld := hide ho.out.len
        go_wp2_with (at_builtin; refine wpList_app _ rfl _ _ 23 rfl i0 Try.underlying23 hi hz0 hz1 hz2 _ [x] rfl (ints_lit [x] (by intro y hy; simp at hy; subst hy; exact hwx.out) (by simp) rfl) _ d f _ (zs.take k).reverse rfl (ho.out.alloc _).ints (by simp) (by have := hld.out; rw [List.length_reverse, List.length_take] at this; simp; omega) ?_; intro A₃ n₃ c₃ w3 ho3 hg3)
        have hb3 := hide ((hb.out.alloc hs (.cells #[.int .i64 x] 3)).grown hg3 (by simp; omega) (fun j hj => Nat.le_trans hs (Nat.le_of_eq (Option.some.inj hj))))
        have ho3 := hide (show Own w3 w1.heap.size (.slice A₃ n₃ c₃) (zs.take (k + 1)).reverse by
          rw [take_succ hx.out, List.reverse_append]
          exact ho3.down hs)
        clear hg3 ho hb hcell
        go_wp2
        go_roundw
        case rel => exact ⟨k + 1, _, _, _, by omega, by go_num, rfl, ho3, hb3⟩
        case measure => simp [intOf]; omega
      · obtain rfl : k = n' := by omega
        have ho2 := hide (show Own wr w1.heap.size (.slice B d f) zs.reverse by
          have := ho.out
          rwa [List.take_of_length_le (by have := hl.out; omega)] at this)
        have e1 : urnOk [0] = true := by decide
        have e0 : urnOk [] = false := by decide
        have eR := hide (urnOk_reverse zs)
        have h1 := hide ((ints_lit (w := wr) [0] (by intro x hx; simp at hx; subst hx; decide) (by decide) rfl).ints)
        go_wp2_with fail
        refine (urnOk_impl _ _ _ _ _ _ h1.out).mono ?_
        rw [e1]
        rintro e w' ⟨rfl, rfl⟩
        go_wp2_with fail
        refine (urnOk_impl _ _ _ _ [] _ (own_empty' (by simp) (Nat.le_refl _)).ints).mono ?_
        rw [e0]
        rintro e w' ⟨rfl, rfl⟩
        go_wp2_with fail
        refine (urnOk_impl _ _ _ _ _ _ ((ho2.out.alloc _).alloc _).ints).mono ?_
        rw [eR.out]
        rintro e w' ⟨rfl, rfl⟩
        go_wp2_with fail
        go_ret
        exact ⟨by simp, (hb1.out.trans ((hb.out.alloc hs _).alloc (by simp; omega) _ |>.mono hb1.out.size))⟩
end Go.Proofs.Ytdmmpnfgeoopkaa
