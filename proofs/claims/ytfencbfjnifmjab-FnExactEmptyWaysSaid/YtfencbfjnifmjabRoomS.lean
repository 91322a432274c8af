/-
  Contracts of chapter 7, the specification's side: l7Choose, RoomRowOk, l7Step, RoomStep, RoomAfter, RestRow, LeanAfter.
-/
import Derived.Test.YtfencbfjnifmjabPlainY
import Derived.Test.YtfencbfjnifmjabZoks
import Derived.Test.YtfencbfjnifmjabZpl
import Derived.Test.YtfencbfjnifmjabZdraw
import Derived.BigQuiet
import Derived.RegionTactic
namespace Go.Proofs.Ytfencbfjnifmjab
open Go.RowKit
set_option linter.unusedVariables false

theorem l1In_yes (a lo hi : Int) (w : World) (h : lo ≤ a ∧ a ≤ hi) : Calls Try.prog 36 #[.int .i64 a, .int .i64 lo, .int .i64 hi] w fun e w' => e = .returned (.bool true) ∧ w = w' := by
  have := l1In_c a lo hi w
  rwa [decide_eq_true h] at this
theorem l1In_no (a lo hi : Int) (w : World) (h : ¬(lo ≤ a ∧ a ≤ hi)) : Calls Try.prog 36 #[.int .i64 a, .int .i64 lo, .int .i64 hi] w fun e w' => e = .returned (.bool false) ∧ w = w' := by
  have := l1In_c a lo hi w
  rwa [decide_eq_false h] at this
theorem roomOk_bad {m : Int} {row : List Int} {k : Nat} {x : Int} (hx : row[k]? = some x) (h : ¬(0 ≤ x ∧ x ≤ 10000000)) : roomOk m row = false := by
  unfold roomOk
  have : row.all okX = false := List.all_eq_false.2 ⟨x, List.mem_of_getElem? hx, by simpa [okX] using h⟩
  rw [this, Bool.and_false]
theorem roomOk_end {m : Int} {row : List Int} (h : ∀ (k : Nat) x, row[k]? = some x → 0 ≤ x ∧ x ≤ 10000000) : roomOk m row = decide (1 ≤ m ∧ m ≤ 6 ∧ (row.length : Int) = m + 1) := by
  unfold roomOk
  have : row.all okX = true := List.all_eq_true.2 fun x hx => by
    obtain ⟨k, hk, rfl⟩ := List.getElem_of_mem hx
    exact decide_eq_true (h k _ (List.getElem?_eq_getElem hk))
  rw [this, Bool.and_true]

set_option maxHeartbeats 1600000 in
theorem l7Step_c (M : Nat) (A : Option Addr) (n c B : Nat) (zs : List Int) (w : World) (h : Ints w B A n c zs) (hB : B ≤ w.heap.size) (h1 : 1 ≤ M) (h6 : M ≤ 6) (hn : n = M + 1) (ha : ∀ (k : Nat) x, zs[k]? = some x → 0 ≤ x ∧ x ≤ 10000000) :
    Calls Try.prog 55 #[.int .i64 (M : Int), .slice A n c] w fun e w' => ∃ A' n' c', e = .returned (.slice A' n' c') ∧ Own w' w.heap.size (.slice A' n' c') (stepL M zs) ∧ Below w.heap.size w w' := by
  obtain ⟨i0, hi, hz0, hz1, hz2⟩ := info_parts infoInt
  have HE := hide ha
  have HB := hide (fun (k j : Nat) (hj : j ≤ M) => stepAt_bound (k := k) h6 ha hj)
  have hlo := hide (stepTo_lo (row := zs) h1)
  have hhi := hide (stepTo_hi (row := zs) h1)
  have hmid := hide (fun (k : Nat) (h0 : 1 ≤ k) (hk : k < M) => stepTo_mid (row := zs) h0 hk)
  clear ha
  go_enter Try.func55, Try.ntmps55
  go_wp2_with (at_make; refine wpList_make_full _ rfl _ _ 26 rfl w.heap.size 3 i0 (.int .i64 0) 1 Try.underlying26 hi hz0 hz1 .i64 .i64 _ _ (M + 1) rfl rfl (by simp) (by simp) (by rw [hz2]; omega) (by unfold maxLen; omega) (Nat.le_refl _) ?_; intro w1 hown0 hgrow0; have hgrow0 := hide hgrow0; have hown0 := hide hown0)
  have hb0 := hide (show Below w.heap.size w w1 from (Below.refl _ _).grown hgrow0.out (Nat.le_refl _) (fun k hk => by cases hk))
  have ho0 := hide (show Own w1 w.heap.size (.slice (some ⟨w.heap.size, 0, none⟩) (M + 1) (M + 1)) (stepTo M zs 0) by rw [stepTo_zero]; exact own_made hown0.out)
  clear hown0 hgrow0
  go_loopw [6] (fun i wr => ∃ k : Nat, k ≤ M + 1 ∧ i = .int .i64 k ∧ Hid (Own wr w.heap.size (.slice (some ⟨w.heap.size, 0, none⟩) (M + 1) (M + 1)) (stepTo M zs k)) ∧ Hid (Below w.heap.size w wr)) (fun i _ => M + 1 - (intOf i).toNat)
  case atStart => exact ⟨0, Nat.zero_le _, rfl, ho0, hb0⟩
  case round =>
    clear ho0 hb0
    obtain ⟨k, hk, rfl, ho, hb⟩ := hrel
    have hst := hb.out.size
    by_cases hlt : k < M + 1
    · obtain ⟨b, off, x, rfl, hbB, hx, hcell⟩ := (h.below (hb.out.mono hB)).look (show k < n by omega)
      obtain ⟨x0, x1⟩ := HE.out k x hx.out
      have hax := hide (atI_some hx.out)
      rcases Nat.eq_zero_or_pos k with hk0 | hk0
      · subst hk0
        rw [Nat.add_zero] at hcell
        have hat := stepTo_at (M := M) (row := zs) (k := 0) (j := 1) (by omega)
        obtain ⟨g, hA2, hg, hgl, hcy, hfy⟩ := ho.out.at2 hat
        injection hA2 with hA2
        injection hA2 with hA2 _ _
        subst hA2
        have hyb := HB.out 0 1 (by omega)
        obtain ⟨y, hy⟩ : ∃ y, Hid (y = stepAt M zs 0 1) := ⟨_, rfl⟩
        rw [← hy.out] at hyb hcy
        obtain ⟨y0, y1⟩ := hyb
        have hM := mul_bound x0 x1 (b := (M : Int)) (N := 6) (by omega) (by omega)
        obtain ⟨q0, q1⟩ := hM
        have ho2 := hide (show Own (wr.setCell ⟨w.heap.size, 1, none⟩ (.int .i64 (y + x * (M : Int)))) w.heap.size (.slice (some ⟨w.heap.size, 0, none⟩) (M + 1) (M + 1)) (stepTo M zs 1) by
          have := ho.out.set_ (k := 1) (y + x * (M : Int)) (wf_i64 (by omega))
          rw [← hlo.out, hax.out, ← hy.out]
          simpa using this)
        have hb2 := hide (hb.out.setCell (p := ⟨w.heap.size, 1, none⟩) (Nat.le_refl _) (.int .i64 (y + x * (M : Int))))
        clear hat
        go_wp2
        go_region
        go_wp2
        go_roundw
        case rel => exact ⟨1, by omega, by go_num, hide ho2.out.drew, hide (hb2.out.drew)⟩
        case measure => simp [intOf] <;> omega
      · obtain ⟨j, hj, hjk⟩ : ∃ j : Nat, (k : Int) - 1 = (j : Int) ∧ j = k - 1 := ⟨k - 1, by omega, rfl⟩
        have hjM : j ≤ M := by omega
        replace hjk := hide hjk
        have hat := stepTo_at (M := M) (row := zs) (k := k) (j := j) (by omega)
        obtain ⟨g, hA2, hg, hgl, hcy, hfy⟩ := ho.out.at2 hat
        injection hA2 with hA2
        injection hA2 with hA2 _ _
        subst hA2
        have hyb := HB.out k j (by omega)
        obtain ⟨y, hy⟩ : ∃ y, Hid (y = stepAt M zs k j) := ⟨_, rfl⟩
        rw [← hy.out] at hyb hcy
        obtain ⟨y0, y1⟩ := hyb
        have hM := mul_bound x0 x1 (b := (k : Int)) (N := 6) (by omega) (by omega)
        obtain ⟨q0, q1⟩ := hM
        have ho2 := hide (ho.out.set_ (k := j) (y + x * (k : Int)) (wf_i64 (by omega))).drew
        have hb2 := hide (hb.out.setCell (p := ⟨w.heap.size, j, none⟩) (Nat.le_refl _) (.int .i64 (y + x * (k : Int)))).drew
        rcases Nat.lt_or_ge k M with hkM | hkM
        · have hkI : (k : Int) < (M : Int) := by omega
          have hat2 : ((stepTo M zs k).set j (y + x * (k : Int)))[k + 1]? = some (stepAt M zs k (k + 1)) := by
            rw [hjk.out, hy.out, hjk.out, ← hax.out]; exact stepTo_mid1 hkM
          obtain ⟨g, hA2, hg2, hgl2, hcz, hfz⟩ := ho2.out.at2 hat2
          injection hA2 with hA2
          injection hA2 with hA2 _ _
          subst hA2
          have hzb := HB.out k (k + 1) (by omega)
          obtain ⟨z, hz⟩ : ∃ z, Hid (z = stepAt M zs k (k + 1)) := ⟨_, rfl⟩
          rw [← hz.out] at hzb hcz
          obtain ⟨z0, z1⟩ := hzb
          have hM2 := mul_bound x0 x1 (b := (M : Int) - (k : Int)) (N := 6) (by omega) (by omega)
          obtain ⟨r0, r1⟩ := hM2
          have hcx : (wr.setCell ⟨w.heap.size, j, none⟩ (.int .i64 (y + x * (k : Int)))).drew.cell? ⟨b, off + k, none⟩ = some (.int .i64 x) := by
            have := (h.below (hb2.out.mono hB)).look (show k < n by omega)
            obtain ⟨b', off', x', hA', _, hx', hc'⟩ := this
            injection hA' with hA'
            injection hA' with e1 e2 _
            subst e1; subst e2
            rw [hx.out] at hx'
            have := hx'.out
            injection this with this
            subst this
            exact hc'
          have ho3 := hide (show Own ((wr.setCell ⟨w.heap.size, j, none⟩ (.int .i64 (y + x * (k : Int)))).drew.setCell ⟨w.heap.size, k + 1, none⟩ (.int .i64 (z + x * ((M : Int) - (k : Int))))) w.heap.size (.slice (some ⟨w.heap.size, 0, none⟩) (M + 1) (M + 1)) (stepTo M zs (k + 1)) by
            have := ho2.out.set_ (k := k + 1) (z + x * ((M : Int) - (k : Int))) (wf_i64 (by omega))
            rw [← hmid.out k hk0 hkM, hax.out, ← hz.out, ← hjk.out, ← hy.out]
            exact this)
          have hb3 := hide (hb2.out.setCell (p := ⟨w.heap.size, k + 1, none⟩) (Nat.le_refl _) (.int .i64 (z + x * ((M : Int) - (k : Int)))))
          clear hat hat2
          go_wp2
          go_region
          go_wp2
          go_region
          go_wp2
          go_roundw
          case rel => exact ⟨k + 1, by omega, by go_num, hide ho3.out.drew, hide hb3.out.drew⟩
          case measure => simp [intOf]; omega
        · obtain rfl : k = M := by omega
          have ho3 := hide (show Own (wr.setCell ⟨w.heap.size, j, none⟩ (.int .i64 (y + x * (k : Int)))).drew w.heap.size (.slice (some ⟨w.heap.size, 0, none⟩) (k + 1) (k + 1)) (stepTo k zs (k + 1)) by
            rw [← hhi.out, hax.out, ← hjk.out, ← hy.out]
            exact ho2.out)
          clear hat
          go_wp2
          go_region
          go_wp2
          go_roundw
          case rel => exact ⟨k + 1, by omega, by go_num, ho3, hb2⟩
          case measure => simp [intOf]
    · obtain rfl : k = M + 1 := by omega
      go_wp2
      go_ret
      exact ⟨_, _, _, rfl, ho.out, hb.out⟩

set_option maxHeartbeats 800000 in
theorem l7Choose_c (n k : Int) (w : World) (hn : n ≤ 30) :
    Calls Try.prog 37 #[.int .i64 n, .int .i64 k] w fun e w' => e = .returned (.int .i64 (chooseI n k)) ∧ w = w' := by
  by_cases h0 : k < 0
  · have he := hide (chooseI_out (n := n) (.inl h0))
    go_enter Try.func37, Try.ntmps37
    go_wp2
    go_ret
    exact ⟨ret_int he.out.symm, rfl⟩
  · by_cases h1 : k > n
    · have he := hide (chooseI_out (n := n) (.inr h1))
      go_enter Try.func37, Try.ntmps37
      go_wp2
      go_ret
      exact ⟨ret_int he.out.symm, rfl⟩
    · obtain ⟨N, rfl⟩ : ∃ N : Nat, n = (N : Int) := ⟨n.toNat, by omega⟩
      obtain ⟨K, rfl⟩ : ∃ K : Nat, k = (K : Int) := ⟨k.toNat, by omega⟩
      have hKN : K ≤ N := by omega
      have hN30 : N ≤ 30 := by omega
      have he := hide (chooseI_in hKN)
      have HB := hide (fun (j : Nat) (hj : j ≤ K) => choose_bound hN30 hKN hj)
      have HS := hide (fun (j : Nat) => show chooseTo N K (j + 1) = chooseTo N K j * (N - K + (j + 1)) / (j + 1) from rfl)
      clear hn
      go_enter Try.func37, Try.ntmps37
      go_wp2
      go_loop [5, 6] (fun t i => ∃ j P : Nat, j ≤ K ∧ i = .int .i64 ((j : Int) + 1) ∧ t = .int .i64 (P : Int) ∧ Hid (P = chooseTo N K j)) (fun _ i => K + 1 - (intOf i).toNat)
      case atStart => exact ⟨0, 1, Nat.zero_le _, rfl, rfl, hide rfl⟩
      case round =>
        obtain ⟨j, P, hj, rfl, rfl, hP⟩ := hrel
        by_cases hlt : j < K
        · have hPb := HB.out j hj
          have hQb := HB.out (j + 1) hlt
          rw [HS.out, ← hP.out] at hQb
          rw [← hP.out] at hPb
          obtain ⟨Q, hQ⟩ : ∃ Q : Nat, Hid (P * (N - K + (j + 1)) / (j + 1) = Q) := ⟨_, hide rfl⟩
          rw [hQ.out] at hQb
          have hne : ((j : Int) + 1 == 0) = false := by simp; omega
          have hm := mul_bound (a := (P : Int)) (M := 200000000) (by omega) (by omega) (b := (N : Int) - (K : Int) + ((j : Int) + 1)) (N := 40) (by omega) (by omega)
          obtain ⟨q0, q1⟩ := hm
          have hw1 := hide (show (P : Int) * ((N : Int) - (K : Int) + ((j : Int) + 1)) / ((j : Int) + 1) = (Q : Int) by
            rw [← hQ.out, Int.natCast_ediv, Int.natCast_mul, Int.natCast_add (N - K), Int.natCast_sub hKN]
            rfl)
          have hQ2 := hide (show Q = chooseTo N K (j + 1) by rw [HS.out, ← hP.out, hQ.out])
          clear hQ
          go_wp2
          rw [hw1.out]
          go_round
          case rel => exact ⟨j + 1, Q, by omega, by go_num, rfl, hQ2⟩
          case measure => simp [intOf]; omega
        · obtain rfl : j = K := by omega
          go_wp2
          go_ret
          exact ⟨ret_int (by rw [he.out, hP.out]; rfl), rfl⟩

set_option maxHeartbeats 1600000 in
theorem roomAfter_spec (m f s : Int) (w : World) :
    Calls Try.prog 33 #[.int .i64 m, .int .i64 f, .int .i64 s] w fun e w' => ∃ A' n' c', e = .returned (.slice A' n' c') ∧ Own w' w.heap.size (.slice A' n' c') (roomA m f s) ∧ Below w.heap.size w w' := by
  by_cases hm : 1 ≤ m ∧ m ≤ 6
  · have hd1 := decide_eq_true hm
    by_cases hf : 0 ≤ f ∧ f ≤ m
    · have hd2 := decide_eq_true hf
      by_cases hs : 0 ≤ s ∧ s ≤ 6
      · have hd3 := decide_eq_true hs
        have hok : roomArgs m f s = true := decide_eq_true (by omega)
        have he := hide (show roomA m f s = roomL m.toNat f.toNat s.toNat by unfold roomA; rw [if_pos hok])
        clear hm hf hs hd1 hd2 hd3
        obtain ⟨M, F, S, rfl, rfl, rfl, h1, h6, hF, hS⟩ := roomArgs_yes hok
        clear hok
        rw [Int.toNat_natCast, Int.toNat_natCast, Int.toNat_natCast] at he
        rw [he.out]
        have HE := hide (fun (S' : Nat) (hS' : S' ≤ 6) (k : Nat) (x : Int) (hx : (roomL M F S')[k]? = some x) => room_elem h1 h6 hF hS' hx)
        have hrs := hide (fun (k : Nat) => show roomL M F (k + 1) = stepL M (roomL M F k) from rfl)
        obtain ⟨i0, hi, hz0, hz1, hz2⟩ := info_parts infoInt
        clear he
        have hrep := hide (show (List.replicate (M + 1) (0 : Int))[F]? = some 0 by rw [List.getElem?_replicate, if_pos (by omega)])
        go_enter Try.func33, Try.ntmps33
        go_wp2_with (first | (go_at_call 36; (with_reducible refine (l1In_yes _ _ _ _ (by omega)).mono ?_); rintro e w' ⟨rfl, rfl⟩) | (at_make; refine wpList_make_full _ rfl _ _ 26 rfl w.heap.size 3 i0 (.int .i64 0) 1 Try.underlying26 hi hz0 hz1 .i64 .i64 _ _ (M + 1) rfl rfl (by simp) (by simp) (by rw [hz2]; omega) (by unfold maxLen; omega) (Nat.le_refl _) ?_; intro w1 hown0 hgrow0; have hb0 := hide (show Below w.heap.size w w1 from (Below.refl _ _).grown hgrow0 (Nat.le_refl _) (fun k hk => by cases hk)); have ho0 := hide (own_made hown0); obtain ⟨g, hA2, hg, hgl, hcy, hfy⟩ := ho0.out.at2 hrep.out; injection hA2 with hA2; injection hA2 with hA2 _ _; subst hA2; clear hown0 hgrow0))
        have ho1 := hide (show Own (w1.setCell ⟨w.heap.size, F, none⟩ (.int .i64 1)) w.heap.size (.slice (some ⟨w.heap.size, 0, none⟩) (M + 1) (M + 1)) (roomL M F 0) from ho0.out.set_ (k := F) 1 (wf_i64 (by omega)))
        have hb1 := hide (hb0.out.setCell (p := ⟨w.heap.size, F, none⟩) (Nat.le_refl _) (.int .i64 1))
        clear ho0 hb0
        go_wp2_with fail
        go_loopw [7, 8] (fun v i wr => ∃ k : Nat, ∃ A n c, k ≤ S ∧ i = .int .i64 k ∧ v = .slice A n c ∧ Hid (Own wr w.heap.size (.slice A n c) (roomL M F k)) ∧ Hid (Below w.heap.size w wr)) (fun _ i _ => S - (intOf i).toNat)
        case atStart => exact ⟨0, _, _, _, Nat.zero_le _, rfl, rfl, ho1, hb1⟩
        case round =>
          clear ho1 hb1 hcy hfy hg hgl
          obtain ⟨k, A, n, c, hk, rfl, rfl, ho, hb⟩ := hrel
          by_cases hlt : k < S
          · have HS := hide (l7Step_c M A n c _ (roomL M F k) wr ho.out.ints (Nat.le_refl _) h1 h6 (by have := ho.out.len; rw [roomL_len] at this; exact this) (fun j x hx => by have := HE.out k (by omega) j x hx; omega))
            go_wp2_with fail
            refine HS.out.mono ?_
            rintro e w2 ⟨A1, n1, c1, rfl, ho2, hq⟩
            have hb2 := hide (upB hb.out hq)
            have ho2 := hide (show Own w2 w.heap.size (.slice A1 n1 c1) (roomL M F (k + 1)) by rw [hrs.out]; exact ho2.down hb.out.size)
            clear hq HS
            go_wp2_with fail
            go_roundw
            case rel => exact ⟨k + 1, _, _, _, by omega, by go_num, rfl, ho2, hb2⟩
            case measure => simp [intOf]; omega
          · obtain rfl : k = S := by omega
            go_wp2_with fail
            go_ret
            exact ⟨_, _, _, rfl, ho.out, hb.out⟩
      · have hd3 := decide_eq_false hs
        have he := hide (show roomA m f s = [] by unfold roomA; rw [show roomArgs m f s = false from decide_eq_false (by omega)]; rfl)
        clear hm hf hs
        go_enter Try.func33, Try.ntmps33
        go_wp2_with (go_at_call 36; (with_reducible refine (l1In_c _ _ _ _).mono ?_); rintro e w' ⟨rfl, rfl⟩)
        go_ret
        rw [he.out]
        exact ⟨_, _, _, rfl, own_empty (Nat.le_refl _), al _ _⟩
    · have hd2 := decide_eq_false hf
      have he := hide (show roomA m f s = [] by unfold roomA; rw [show roomArgs m f s = false from decide_eq_false (by omega)]; rfl)
      clear hm hf
      go_enter Try.func33, Try.ntmps33
      go_wp2_with (go_at_call 36; (with_reducible refine (l1In_c _ _ _ _).mono ?_); rintro e w' ⟨rfl, rfl⟩)
      go_ret
      rw [he.out]
      exact ⟨_, _, _, rfl, own_empty (Nat.le_refl _), al _ _⟩
  · have hd1 := decide_eq_false hm
    have he := hide (show roomA m f s = [] by unfold roomA; rw [show roomArgs m f s = false from decide_eq_false (by omega)]; rfl)
    clear hm
    go_enter Try.func33, Try.ntmps33
    go_wp2_with (go_at_call 36; (with_reducible refine (l1In_c _ _ _ _).mono ?_); rintro e w' ⟨rfl, rfl⟩)
    go_ret
    rw [he.out]
    exact ⟨_, _, _, rfl, own_empty (Nat.le_refl _), al _ _⟩
end Go.Proofs.Ytfencbfjnifmjab
