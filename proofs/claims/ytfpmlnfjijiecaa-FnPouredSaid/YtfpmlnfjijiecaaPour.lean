/-
  Contracts of chapter 1: joinedRows at the closure of PouredUrn, PouredUrn (impl and spec).
-/
import Derived.Test.YtfpmlnfjijiecaaPut
import Derived.StillTailTactics
namespace Go.Proofs.Ytfpmlnfjijiecaa
open Go.RowKit

theorem join_c (x y : Int) (w : World) (hx : 0 ≤ x ∧ x ≤ 40) (hy : 0 ≤ y ∧ y ≤ 40) :
    Calls Try.prog 39 #[.int .i64 x, .int .i64 y] w fun e w' => e = .returned (.int .i64 (x + y)) ∧ w' = w := by
  obtain ⟨hx1, hx2⟩ := hx
  obtain ⟨hy1, hy2⟩ := hy
  go_enter Try.func39, Try.ntmps39
  go_wp2
  go_ret
  exact ⟨rfl, rfl⟩

set_option maxHeartbeats 1000000 in
theorem joined_c (A A' : Option Addr) (n c B c' B' : Nat) (zs zs' : List Int) (w : World) (h : Ints w B A n c zs) (h' : Ints w B' A' n c' zs') (hB : B ≤ w.heap.size) (hB' : B' ≤ w.heap.size) (hok : urnOk zs = true) (hok' : urnOk zs' = true) :
    Calls Try.prog 38 #[.slice A n c, .slice A' n c', .func (.func 39) #[] #[]] w fun e w' => ∃ A₂ n₂ c₂, e = .returned (.slice A₂ n₂ c₂) ∧ Own w' w.heap.size (.slice A₂ n₂ c₂) (addL zs zs') ∧ Below w.heap.size w w' := by
  have hl := hide h.len
  have hl' := hide h'.len
  have hz := hide (addL_len (h.len.trans h'.len.symm))
  have hn3 : n ≤ 3 := by have := urnOk_size hok; have := hl.out; omega
  have hE := hide (fun k x (hx : zs[k]? = some x) => urnOk_elem hok hx)
  have hE' := hide (fun k x (hx : zs'[k]? = some x) => urnOk_elem hok' hx)
  clear hok hok'
  obtain ⟨i0, hi, hz0, hz1, hz2⟩ := info_parts infoInt
  go_enter Try.func38, Try.ntmps38
  go_wp2_with (at_make; refine wpList_make_full _ rfl _ _ 23 rfl w.heap.size 3 i0 (.int .i64 0) 1 Try.underlying23 hi hz0 hz1 .i64 .i64 _ _ n rfl rfl rfl rfl (by rw [hz2]; omega) (by unfold maxLen; omega) (Nat.le_refl _) ?_; intro w1 hown0 hgrow0)
  have hb0 : Below w.heap.size w w1 := (Below.refl _ _).grown hgrow0 (Nat.le_refl _) (fun k hk => by cases hk)
  have ho0 : Hid (w1.ownsRow w.heap.size 3 1 (.slice (some ⟨w.heap.size, 0, none⟩) n n) n ((cpy (addL zs zs') 0).map (Value.int .i64))) := by
    have e1 : (madeCells (Value.int .i64 0).cells (n * 1)).toList = (cpy (addL zs zs') 0).map (Value.int .i64) := by
      rw [cpy_zero, hz.out, hl.out]
      simp [Value.cells, toList_madeCells_one]
    rw [← e1]; exact hown0
  clear hown0 hgrow0
  go_loopw [8, 14] (fun _ i wr => ∃ k : Nat, k ≤ n ∧ i = .int .i64 k ∧ Hid (wr.ownsRow w.heap.size 3 1 (.slice (some ⟨w.heap.size, 0, none⟩) n n) n ((cpy (addL zs zs') k).map (Value.int .i64))) ∧ Below w.heap.size w wr) (fun _ i _ => n - (intOf i).toNat)
  case atStart => exact ⟨0, Nat.zero_le _, rfl, ho0, hb0⟩
  case round =>
    clear ho0 hb0
    obtain ⟨k, hk, rfl, ho, hb⟩ := hrel
    by_cases hlt : k < n
    · obtain ⟨b, off, x, rfl, hbB, hx, hcell⟩ := (h.below (hb.mono hB)).look hlt
      obtain ⟨b', off', x', rfl, hbB', hx', hcell'⟩ := (h'.below (hb.mono hB')).look hlt
      have hxx := hE.out k x hx.out
      have hxx' := hE'.out k x' hx'.out
      have hJ := hide (fun W => join_c x x' W hxx hxx')
      have hkl : k < ((cpy (addL zs zs') k).map (Value.int .i64)).length := by rw [List.length_map, cpy_len, hz.out, hl.out]; exact hlt
      have hc2 := ho.out.cellAt k (by omega)
      rw [List.getElem?_eq_getElem hkl] at hc2
      obtain ⟨u, hu⟩ : ∃ u, ((cpy (addL zs zs') k).map (Value.int .i64))[k] = u := ⟨_, rfl⟩
      rw [hu] at hc2
      clear hu
      have hf2 := ho.out.frozenAt k
      have hst := hide (ho.out.stored k (.int .i64 (x + x'))).1
      have hb2 := hb.setCell (p := ⟨w.heap.size, k, none⟩) (Nat.le_refl _) (.int .i64 (x + x'))
      go_wp2
      refine wp_region_still_tail 13 (by kernel_rfl) (by kernel_rfl) ?_
      simp only [List.take_succ_cons, List.take_zero, List.drop_succ_cons, List.drop_zero]
      repeat still_step
      still_call (hJ.out _)
      repeat still_step
      refine wpStill_nil ?_
      have hc3 := hide hc2
      have hb3 := hide hb2.drew
      have ho3 := hide (show Hid ((wr.setCell ⟨w.heap.size, k, none⟩ (.int .i64 (x + x'))).drew.ownsRow w.heap.size 3 1 (.slice (some ⟨w.heap.size, 0, none⟩) n n) n ((cpy (addL zs zs') (k + 1)).map (Value.int .i64))) by
        have := hst.out
        rw [← List.map_set, cpy_set _ k (x + x') (addL_at hx.out hx'.out)] at this
        exact this)
      go_wp2
      go_roundw
      case rel => exact ⟨k + 1, by omega, by go_num, ho3.out, hb3.out⟩
      case measure => simp [intOf]; omega
    · obtain rfl : k = n := by omega
      go_wp2
      go_ret
      have e := hl.out
      have e2 := hz.out
      have h3 := ho.out
      rw [← e, ← e2, cpy_all] at h3
      refine ⟨_, _, _, rfl, ⟨?_, ?_⟩, hb⟩
      · rw [← e, ← e2]
        exact h3
      · intro z hzm
        obtain ⟨j, hj, rfl⟩ := List.getElem_of_mem hzm
        have h1 := List.getElem?_eq_getElem (l := zs) (i := j) (by omega)
        have h2 := List.getElem?_eq_getElem (l := zs') (i := j) (by have := hl'.out; omega)
        have h4 := addL_at h1 h2
        rw [List.getElem?_eq_getElem hj] at h4
        injection h4 with h4
        have h5 := hE.out j _ h1
        have h6 := hE'.out j _ h2
        exact wf_i64 (by omega)

set_option maxHeartbeats 1000000 in
theorem pour_impl (A A' : Option Addr) (n c B n' c' B' : Nat) (zs zs' : List Int) (w : World) (h : Ints w B A n c zs) (h' : Ints w B' A' n' c' zs') (hB : B ≤ w.heap.size) (hB' : B' ≤ w.heap.size) :
    Calls Try.prog 19 #[.slice A n c, .slice A' n' c'] w fun e w' => ∃ A₂ n₂ c₂, e = .returned (.tuple #[.slice A₂ n₂ c₂, .bool (pourOk zs zs')]) ∧ Own w' w.heap.size (.slice A₂ n₂ c₂) (pourL zs zs') ∧ Below w.heap.size w w' := by
  have hl := hide h.len
  have hl' := hide h'.len
  have HI := hide (urnOk_impl _ _ _ _ _ w h)
  have HI' := hide (urnOk_impl _ _ _ _ _ w h')
  by_cases hok : urnOk zs = true
  · by_cases hok' : urnOk zs' = true
    · rw [hok] at HI
      rw [hok'] at HI'
      have hn3 : n ≤ 3 := by have := urnOk_size hok; have := hl.out; omega
      have hn3' : n' ≤ 3 := by have := urnOk_size hok'; have := hl'.out; omega
      by_cases hnn : n = n'
      · subst hnn
        have hJ := hide (joined_c _ _ _ _ _ _ _ _ _ w h h' hB hB' hok hok')
        have hpe := hide (pourOk_eq hok hok' (hl.out.trans hl'.out.symm))
        clear hok hok'
        go_enter Try.func19, Try.ntmps19
        go_wp2_with (first | (go_at_call 13; (with_reducible refine (HI.out).mono ?_); rintro e w' ⟨rfl, rfl⟩) | (go_at_call 13; (with_reducible refine (HI'.out).mono ?_); rintro e w' ⟨rfl, rfl⟩))
        refine hJ.out.mono ?_
        rintro e w1 ⟨A₂, n₂, c₂, rfl, ho, hb⟩
        go_wp2_with fail
        refine (urnOk_impl _ _ _ _ _ _ ho.ints).mono ?_
        rw [← hpe.out]
        by_cases hy : pourOk zs zs' = true
        · have eL := hide (pourL_yes hy)
          rintro e w' ⟨rfl, rfl⟩
          go_wp2_with fail
          go_ret2
          rw [hy, eL.out]
          exact ⟨_, _, _, rfl, ho, hb⟩
        · have hy : pourOk zs zs' = false := by simpa using hy
          have eL := hide (pourL_no hy)
          rintro e w' ⟨rfl, rfl⟩
          go_wp2_with fail
          go_ret2
          rw [hy, eL.out]
          exact ⟨_, _, _, rfl, Own.none_, hb⟩
      · have hne : ((n : Int) != (n' : Int)) = true := by simp; omega
        have hpk := hide (pourOk_no (xs := zs) (ys := zs') (.inr (.inr (by have := hl.out; have := hl'.out; omega))))
        have eL := hide (pourL_no hpk.out)
        clear hok hok' hnn
        go_enter Try.func19, Try.ntmps19
        go_wp2_with (first | (go_at_call 13; (with_reducible refine (HI.out).mono ?_); rintro e w' ⟨rfl, rfl⟩) | (go_at_call 13; (with_reducible refine (HI'.out).mono ?_); rintro e w' ⟨rfl, rfl⟩))
        go_ret2
        rw [hpk.out, eL.out]
        exact ⟨_, _, _, rfl, Own.none_, Below.refl _ _⟩
    · have hok' : urnOk zs' = false := by simpa using hok'
      have hpk := hide (pourOk_no (xs := zs) (ys := zs') (.inr (.inl hok')))
      have eL := hide (pourL_no hpk.out)
      rw [hok] at HI
      rw [hok'] at HI'
      clear hok hok'
      go_enter Try.func19, Try.ntmps19
      go_wp2_with (first | (go_at_call 13; (with_reducible refine (HI.out).mono ?_); rintro e w' ⟨rfl, rfl⟩) | (go_at_call 13; (with_reducible refine (HI'.out).mono ?_); rintro e w' ⟨rfl, rfl⟩))
      go_ret2
      rw [hpk.out, eL.out]
      exact ⟨_, _, _, rfl, Own.none_, Below.refl _ _⟩
  · have hok : urnOk zs = false := by simpa using hok
    have hpk := hide (pourOk_no (xs := zs) (ys := zs') (.inl hok))
    have eL := hide (pourL_no hpk.out)
    rw [hok] at HI
    clear hok
    go_enter Try.func19, Try.ntmps19
    go_wp2_with (first | (go_at_call 13; (with_reducible refine (HI.out).mono ?_); rintro e w' ⟨rfl, rfl⟩))
    go_ret2
    rw [hpk.out, eL.out]
    exact ⟨_, _, _, rfl, Own.none_, Below.refl _ _⟩

set_option maxHeartbeats 1000000 in
theorem pour_spec (A A' : Option Addr) (n c B n' c' B' : Nat) (zs zs' : List Int) (w : World) (h : Ints w B A n c zs) (h' : Ints w B' A' n' c' zs') (hB : B ≤ w.heap.size) (hB' : B' ≤ w.heap.size) :
    Calls Try.prog 24 #[.slice A n c, .slice A' n' c'] w fun e w' => ∃ A₂ n₂ c₂, e = .returned (.tuple #[.slice A₂ n₂ c₂, .bool (pourOk zs zs')]) ∧ Own w' w.heap.size (.slice A₂ n₂ c₂) (pourL zs zs') ∧ Below w.heap.size w w' := by
  have hl := hide h.len
  have hl' := hide h'.len
  have HI := hide (urnOk_spec _ _ _ _ _ w h)
  have HI' := hide (urnOk_spec _ _ _ _ _ w h')
  by_cases hok : urnOk zs = true
  · by_cases hok' : urnOk zs' = true
    · rw [hok] at HI
      rw [hok'] at HI'
      have hn3 : n ≤ 3 := by have := urnOk_size hok; have := hl.out; omega
      have hn3' : n' ≤ 3 := by have := urnOk_size hok'; have := hl'.out; omega
      by_cases hnn : n = n'
      · subst hnn
        have hE := hide (fun k x (hx : zs[k]? = some x) => urnOk_elem hok hx)
        have hE' := hide (fun k x (hx : zs'[k]? = some x) => urnOk_elem hok' hx)
        have hpe := hide (pourOk_eq hok hok' (hl.out.trans hl'.out.symm))
        have hz := hide (addL_len (h.len.trans h'.len.symm))
        obtain ⟨i0, hi, hz0, hz1, hz2⟩ := info_parts infoInt
        clear hok hok'
        go_enter Try.func24, Try.ntmps24
        go_wp2_with (first | (go_at_call 30; (with_reducible refine (HI.out).mono ?_); rintro e w' ⟨rfl, rfl⟩) | (go_at_call 30; (with_reducible refine (HI'.out).mono ?_); rintro e w' ⟨rfl, rfl⟩))
        clear HI HI'
        go_loopw [6, 7] (fun v i wr => ∃ k : Nat, ∃ A₂ n₂ c₂, k ≤ n ∧ i = .int .i64 k ∧ v = .slice A₂ n₂ c₂ ∧ Hid (Own wr w.heap.size (.slice A₂ n₂ c₂) ((addL zs zs').take k)) ∧ Below w.heap.size w wr) (fun _ i _ => n - (intOf i).toNat)
        case atStart => exact ⟨0, _, _, _, Nat.zero_le _, rfl, rfl, own_empty (Nat.le_refl _), below_empty (Below.refl _ _) _⟩
        case round =>
          obtain ⟨k, A₂, n₂, c₂, hk, rfl, rfl, ho, hb⟩ := hrel
          by_cases hlt : k < n
          · obtain ⟨b, off, x, rfl, hbB, hx, hcell⟩ := (h.below (hb.mono hB)).look hlt
            obtain ⟨b', off', x', rfl, hbB', hx', hcell'⟩ := (h'.below (hb.mono hB')).look hlt
            have hx1 := hE.out k x hx.out
            have hx2 := hE'.out k x' hx'.out
            obtain ⟨hx3, hx4⟩ := hx1
            obtain ⟨hx5, hx6⟩ := hx2
            have hsum : IntKind.i64.wrap (x + x') = x + x' := IntWalk.i64_in _ (by omega)
            have hs2 := hb.size
            have hlen2 : ((addL zs zs').take k).length + 1 ≤ 1048576000 := by have := hz.out; have := hl.out; rw [List.length_take]; omega
            have ha := hide (addL_at hx.out hx'.out)
            go_wp2
            go_region_law (refine step_app _ rfl _ _ 23 rfl i0 Try.underlying23 hi hz0 hz1 hz2 _ _ rfl (ho.out.alloc _).drew _ 1 1 _ [x + x'] rfl (ints_lit1 (wf_i64 (by omega))).drew (by simp; omega) hlen2 ?_; intro A₃ n₃ c₃ w3 ho3 hg3)
            all_goals
              clear hcell hcell'
              have ho4 := hide ho3
              have hb4 := hide ((hb.alloc hs2 (.cells #[.int .i64 (x + x')] 3)).drew.grown hg3 (by simp; omega) (fun q hq => (ho.out.row.lt q hq).1))
              clear ho3 hg3 hlen2
              go_wp2
              go_roundw
              case rel => exact ⟨k + 1, _, _, _, by omega, by go_num, rfl, by rw [take_succ ha.out]; exact ho4.out, hb4.out⟩
              case measure => simp [intOf]; omega
          · obtain rfl : k = n := by omega
            have ho2 := hide (show Own wr w.heap.size (.slice A₂ n₂ c₂) (addL zs zs') by
              have := ho.out
              rwa [List.take_of_length_le (by have := hz.out; have := hl.out; omega)] at this)
            go_wp2_with fail
            refine (urnOk_spec _ _ _ _ _ _ ho2.out.ints).mono ?_
            rw [← hpe.out]
            by_cases hy : pourOk zs zs' = true
            · have eL := hide (pourL_yes hy)
              rintro e w' ⟨rfl, rfl⟩
              go_wp2_with fail
              go_ret2
              rw [hy, eL.out]
              exact ⟨_, _, _, rfl, ho2.out, hb⟩
            · have hy : pourOk zs zs' = false := by simpa using hy
              have eL := hide (pourL_no hy)
              rintro e w' ⟨rfl, rfl⟩
              go_wp2_with fail
              go_ret2
              rw [hy, eL.out]
              exact ⟨_, _, _, rfl, own_empty hb.size, below_empty hb _⟩
      · have hne : ((n : Int) != (n' : Int)) = true := by simp; omega
        have hpk := hide (pourOk_no (xs := zs) (ys := zs') (.inr (.inr (by have := hl.out; have := hl'.out; omega))))
        have eL := hide (pourL_no hpk.out)
        clear hok hok' hnn
        go_enter Try.func24, Try.ntmps24
        go_wp2_with (first | (go_at_call 30; (with_reducible refine (HI.out).mono ?_); rintro e w' ⟨rfl, rfl⟩) | (go_at_call 30; (with_reducible refine (HI'.out).mono ?_); rintro e w' ⟨rfl, rfl⟩))
        go_ret2
        rw [hpk.out, eL.out]
        exact ⟨_, _, _, rfl, own_empty (Nat.le_refl _), below_empty (Below.refl _ _) _⟩
    · have hok' : urnOk zs' = false := by simpa using hok'
      have hpk := hide (pourOk_no (xs := zs) (ys := zs') (.inr (.inl hok')))
      have eL := hide (pourL_no hpk.out)
      rw [hok] at HI
      rw [hok'] at HI'
      clear hok hok'
      go_enter Try.func24, Try.ntmps24
      go_wp2_with (first | (go_at_call 30; (with_reducible refine (HI.out).mono ?_); rintro e w' ⟨rfl, rfl⟩) | (go_at_call 30; (with_reducible refine (HI'.out).mono ?_); rintro e w' ⟨rfl, rfl⟩))
      go_ret2
      rw [hpk.out, eL.out]
      exact ⟨_, _, _, rfl, own_empty (Nat.le_refl _), below_empty (Below.refl _ _) _⟩
  · have hok : urnOk zs = false := by simpa using hok
    have hpk := hide (pourOk_no (xs := zs) (ys := zs') (.inl hok))
    have eL := hide (pourL_no hpk.out)
    rw [hok] at HI
    clear hok
    go_enter Try.func24, Try.ntmps24
    go_wp2_with (first | (go_at_call 30; (with_reducible refine (HI.out).mono ?_); rintro e w' ⟨rfl, rfl⟩))
    go_ret2
    rw [hpk.out, eL.out]
    exact ⟨_, _, _, rfl, own_empty (Nat.le_refl _), below_empty (Below.refl _ _) _⟩
end Go.Proofs.Ytfpmlnfjijiecaa
