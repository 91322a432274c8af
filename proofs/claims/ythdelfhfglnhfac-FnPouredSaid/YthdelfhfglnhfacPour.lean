/-
  Contracts of chapter 1: PouredUrn (impl and spec).
-/
import Derived.Test.YthdelfhfglnhfacPut
import Derived.Test.YthdelfhfglnhfacAdd
namespace Go.Proofs.Ythdelfhfglnhfac
open Go.RowKit

set_option maxHeartbeats 1000000 in
theorem pour_impl (A A' : Option Addr) (n c B n' c' B' : Nat) (zs zs' : List Int) (w : World) (h : Ints w B A n c zs) (h' : Ints w B' A' n' c' zs') (hB : B ≤ w.heap.size) (hB' : B' ≤ w.heap.size) :
    Calls Try.prog 11 #[.slice A n c, .slice A' n' c'] w fun e w' => ∃ A₂ n₂ c₂, e = .returned (.tuple #[.slice A₂ n₂ c₂, .bool (pourOk zs zs')]) ∧ Own w' w.heap.size (.slice A₂ n₂ c₂) (pourL zs zs') ∧ Below w.heap.size w w' := by
  have hl := hide h.len
  have hl' := hide h'.len
  have HI := hide (urnOk_impl _ _ _ _ _ w h)
  have HI' := hide (urnOk_impl _ _ _ _ _ w h')
  by_cases hok : urnOk zs = true
  · by_cases hok' : urnOk zs' = true
    · rw [hok] at HI
      rw [hok'] at HI'
      have hn3 : n ≤ 3 := by have := urnOk_size hok; have := hl.out; omega
      have hn3' : n' ≤ 3 := by have := urnOk_size hok'; have := hl'.out; omega
      by_cases hnn : n = n'
      · subst hnn
        have hJ := hide (added_c _ _ _ _ _ _ _ _ _ w h h' hB hB' (by omega) (fun x hx => by have := urnOk_mem hok x hx; omega) (fun x hx => by have := urnOk_mem hok' x hx; omega))
        have hpe := hide (pourOk_eq hok hok' (hl.out.trans hl'.out.symm))
        clear hok hok'
        go_enter Try.func11, Try.ntmps11
        go_wp2_with (first | (go_at_call 15; (with_reducible refine (HI.out).mono ?_); rintro e w' ⟨rfl, rfl⟩) | (go_at_call 15; (with_reducible refine (HI'.out).mono ?_); rintro e w' ⟨rfl, rfl⟩))
        refine hJ.out.mono ?_
        rintro e w1 ⟨A₂, n₂, c₂, rfl, ho, hb⟩
        go_wp2_with fail
        refine (urnOk_impl _ _ _ _ _ _ ho.ints).mono ?_
        rw [← hpe.out]
        by_cases hy : pourOk zs zs' = true
        · have eL := hide (pourL_yes hy)
          rintro e w' ⟨rfl, rfl⟩
          go_wp2_with fail
          go_ret2
          rw [hy, eL.out]
          exact ⟨_, _, _, rfl, ho, hb⟩
        · have hy : pourOk zs zs' = false := by simpa using hy
          have eL := hide (pourL_no hy)
          rintro e w' ⟨rfl, rfl⟩
          go_wp2_with fail
          go_ret2
          rw [hy, eL.out]
          exact ⟨_, _, _, rfl, Own.none_, hb⟩
      · have hne : ((n : Int) != (n' : Int)) = true := by simp; omega
        have hpk := hide (pourOk_no (xs := zs) (ys := zs') (.inr (.inr (by have := hl.out; have := hl'.out; omega))))
        have eL := hide (pourL_no hpk.out)
        clear hok hok' hnn
        go_enter Try.func11, Try.ntmps11
        go_wp2_with (first | (go_at_call 15; (with_reducible refine (HI.out).mono ?_); rintro e w' ⟨rfl, rfl⟩) | (go_at_call 15; (with_reducible refine (HI'.out).mono ?_); rintro e w' ⟨rfl, rfl⟩))
        go_ret2
        rw [hpk.out, eL.out]
        exact ⟨_, _, _, rfl, Own.none_, Below.refl _ _⟩
    · have hok' : urnOk zs' = false := by simpa using hok'
      have hpk := hide (pourOk_no (xs := zs) (ys := zs') (.inr (.inl hok')))
      have eL := hide (pourL_no hpk.out)
      rw [hok] at HI
      rw [hok'] at HI'
      clear hok hok'
      go_enter Try.func11, Try.ntmps11
      go_wp2_with (first | (go_at_call 15; (with_reducible refine (HI.out).mono ?_); rintro e w' ⟨rfl, rfl⟩) | (go_at_call 15; (with_reducible refine (HI'.out).mono ?_); rintro e w' ⟨rfl, rfl⟩))
      go_ret2
      rw [hpk.out, eL.out]
      exact ⟨_, _, _, rfl, Own.none_, Below.refl _ _⟩
  · have hok : urnOk zs = false := by simpa using hok
    have hpk := hide (pourOk_no (xs := zs) (ys := zs') (.inl hok))
    have eL := hide (pourL_no hpk.out)
    rw [hok] at HI
    clear hok
    go_enter Try.func11, Try.ntmps11
    go_wp2_with (first | (go_at_call 15; (with_reducible refine (HI.out).mono ?_); rintro e w' ⟨rfl, rfl⟩))
    go_ret2
    rw [hpk.out, eL.out]
    exact ⟨_, _, _, rfl, Own.none_, Below.refl _ _⟩

set_option maxHeartbeats 1000000 in
theorem pour_spec (A A' : Option Addr) (n c B n' c' B' : Nat) (zs zs' : List Int) (w : World) (h : Ints w B A n c zs) (h' : Ints w B' A' n' c' zs') (hB : B ≤ w.heap.size) (hB' : B' ≤ w.heap.size) :
    Calls Try.prog 13 #[.slice A n c, .slice A' n' c'] w fun e w' => ∃ A₂ n₂ c₂, e = .returned (.tuple #[.slice A₂ n₂ c₂, .bool (pourOk zs zs')]) ∧ Own w' w.heap.size (.slice A₂ n₂ c₂) (pourL zs zs') ∧ Below w.heap.size w w' := by
  have hl := hide h.len
  have hl' := hide h'.len
  have HI := hide (urnOk_spec _ _ _ _ _ w h)
  have HI' := hide (urnOk_spec _ _ _ _ _ w h')
  by_cases hok : urnOk zs = true
  · by_cases hok' : urnOk zs' = true
    · rw [hok] at HI
      rw [hok'] at HI'
      have hn3 : n ≤ 3 := by have := urnOk_size hok; have := hl.out; omega
      have hn3' : n' ≤ 3 := by have := urnOk_size hok'; have := hl'.out; omega
      by_cases hnn : n = n'
      · subst hnn
        have hE := hide (fun k x (hx : zs[k]? = some x) => urnOk_elem hok hx)
        have hE' := hide (fun k x (hx : zs'[k]? = some x) => urnOk_elem hok' hx)
        have hpe := hide (pourOk_eq hok hok' (hl.out.trans hl'.out.symm))
        have hz := hide (addL_len (h.len.trans h'.len.symm))
        obtain ⟨i0, hi, hz0, hz1, hz2⟩ := info_parts infoInt
        clear hok hok'
        go_enter Try.func13, Try.ntmps13
        go_wp2_with (first | (go_at_call 21; (with_reducible refine (HI.out).mono ?_); rintro e w' ⟨rfl, rfl⟩) | (go_at_call 21; (with_reducible refine (HI'.out).mono ?_); rintro e w' ⟨rfl, rfl⟩))
        clear HI HI'
        go_loopw [6, 7] (fun v i wr => ∃ k : Nat, ∃ A₂ n₂ c₂, k ≤ n ∧ i = .int .i64 k ∧ v = .slice A₂ n₂ c₂ ∧ Hid (Own wr w.heap.size (.slice A₂ n₂ c₂) ((addL zs zs').take k)) ∧ Below w.heap.size w wr) (fun _ i _ => n - (intOf i).toNat)
        case atStart => exact ⟨0, _, _, _, Nat.zero_le _, rfl, rfl, own_empty (Nat.le_refl _), below_empty (Below.refl _ _) _⟩
        case round =>
          obtain ⟨k, A₂, n₂, c₂, hk, rfl, rfl, ho, hb⟩ := hrel
          by_cases hlt : k < n
          · obtain ⟨b, off, x, rfl, hbB, hx, hcell⟩ := (h.below (hb.mono hB)).look hlt
            obtain ⟨b', off', x', rfl, hbB', hx', hcell'⟩ := (h'.below (hb.mono hB')).look hlt
            have hx1 := hE.out k x hx.out
            have hx2 := hE'.out k x' hx'.out
            obtain ⟨hx3, hx4⟩ := hx1
            obtain ⟨hx5, hx6⟩ := hx2
            have hsum : IntKind.i64.wrap (x + x') = x + x' := IntWalk.i64_in _ (by omega)
            have hs2 := hb.size
            have hlen2 : ((addL zs zs').take k).length + 1 ≤ 1048576000 := by have := hz.out; have := hl.out; rw [List.length_take]; omega
            have ha := hide (addL_at hx.out hx'.out)
            go_wp2
            go_region_law (refine step_app _ rfl _ _ 23 rfl i0 Try.underlying23 hi hz0 hz1 hz2 _ _ rfl (ho.out.alloc _).drew _ 1 1 _ [x + x'] rfl (ints_lit1 (wf_i64 (by omega))).drew (by simp; omega) hlen2 ?_; intro A₃ n₃ c₃ w3 ho3 hg3)
            all_goals
              clear hcell hcell'
              have ho4 := hide ho3
              have hb4 := hide ((hb.alloc hs2 (.cells #[.int .i64 (x + x')] 3)).drew.grown hg3 (by simp; omega) (fun q hq => (ho.out.row.lt q hq).1))
              clear ho3 hg3 hlen2
              go_wp2
              go_roundw
              case rel => exact ⟨k + 1, _, _, _, by omega, by go_num, rfl, by rw [take_succ ha.out]; exact ho4.out, hb4.out⟩
              case measure => simp [intOf]; omega
          · obtain rfl : k = n := by omega
            have ho2 := hide (show Own wr w.heap.size (.slice A₂ n₂ c₂) (addL zs zs') by
              have := ho.out
              rwa [List.take_of_length_le (by have := hz.out; have := hl.out; omega)] at this)
            go_wp2_with fail
            refine (urnOk_spec _ _ _ _ _ _ ho2.out.ints).mono ?_
            rw [← hpe.out]
            by_cases hy : pourOk zs zs' = true
            · have eL := hide (pourL_yes hy)
              rintro e w' ⟨rfl, rfl⟩
              go_wp2_with fail
              go_ret2
              rw [hy, eL.out]
              exact ⟨_, _, _, rfl, ho2.out, hb⟩
            · have hy : pourOk zs zs' = false := by simpa using hy
              have eL := hide (pourL_no hy)
              rintro e w' ⟨rfl, rfl⟩
              go_wp2_with fail
              go_ret2
              rw [hy, eL.out]
              exact ⟨_, _, _, rfl, own_empty hb.size, below_empty hb _⟩
      · have hne : ((n : Int) != (n' : Int)) = true := by simp; omega
        have hpk := hide (pourOk_no (xs := zs) (ys := zs') (.inr (.inr (by have := hl.out; have := hl'.out; omega))))
        have eL := hide (pourL_no hpk.out)
        clear hok hok' hnn
        go_enter Try.func13, Try.ntmps13
        go_wp2_with (first | (go_at_call 21; (with_reducible refine (HI.out).mono ?_); rintro e w' ⟨rfl, rfl⟩) | (go_at_call 21; (with_reducible refine (HI'.out).mono ?_); rintro e w' ⟨rfl, rfl⟩))
        go_ret2
        rw [hpk.out, eL.out]
        exact ⟨_, _, _, rfl, own_empty (Nat.le_refl _), below_empty (Below.refl _ _) _⟩
    · have hok' : urnOk zs' = false := by simpa using hok'
      have hpk := hide (pourOk_no (xs := zs) (ys := zs') (.inr (.inl hok')))
      have eL := hide (pourL_no hpk.out)
      rw [hok] at HI
      rw [hok'] at HI'
      clear hok hok'
      go_enter Try.func13, Try.ntmps13
      go_wp2_with (first | (go_at_call 21; (with_reducible refine (HI.out).mono ?_); rintro e w' ⟨rfl, rfl⟩) | (go_at_call 21; (with_reducible refine (HI'.out).mono ?_); rintro e w' ⟨rfl, rfl⟩))
      go_ret2
      rw [hpk.out, eL.out]
      exact ⟨_, _, _, rfl, own_empty (Nat.le_refl _), below_empty (Below.refl _ _) _⟩
  · have hok : urnOk zs = false := by simpa using hok
    have hpk := hide (pourOk_no (xs := zs) (ys := zs') (.inl hok))
    have eL := hide (pourL_no hpk.out)
    rw [hok] at HI
    clear hok
    go_enter Try.func13, Try.ntmps13
    go_wp2_with (first | (go_at_call 21; (with_reducible refine (HI.out).mono ?_); rintro e w' ⟨rfl, rfl⟩))
    go_ret2
    rw [hpk.out, eL.out]
    exact ⟨_, _, _, rfl, own_empty (Nat.le_refl _), below_empty (Below.refl _ _) _⟩
end Go.Proofs.Ythdelfhfglnhfac
