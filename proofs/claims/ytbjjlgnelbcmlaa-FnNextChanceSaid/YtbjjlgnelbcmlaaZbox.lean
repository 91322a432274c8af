/-
  Words, plain lemmas and contracts that belong together, joined into one file.
-/
import Derived.Test.YtbjjlgnelbcmlaaZpl
import Derived.Test.YtbjjlgnelbcmlaaZoks
import Derived.Test.YtbjjlgnelbcmlaaZdraw
import Derived.BigQuiet
namespace Go.Proofs.Ytbjjlgnelbcmlaa
open Go.RowKit

theorem boxOk_no {m f s : Int} (h : ¬(1 ≤ m ∧ m ≤ 8) ∨ ¬(0 ≤ f ∧ f ≤ m) ∨ ¬(0 ≤ s ∧ s ≤ m) ∨ ¬(f + s ≤ m)) : boxOk m f s = false := decide_eq_false (by omega)
theorem boxOk_all {m f s : Int} (h1 : 1 ≤ m ∧ m ≤ 8) (h2 : 0 ≤ f ∧ f ≤ m) (h3 : 0 ≤ s ∧ s ≤ m) (h4 : f + s ≤ m) : boxOk m f s = true := decide_eq_true (by omega)

set_option maxHeartbeats 800000 in
theorem boxOk_spec (m f s : Int) (w : World) :
    Calls Try.prog 13 #[.int .i64 m, .int .i64 f, .int .i64 s] w fun e w' => e = .returned (.bool (boxOk m f s)) ∧ w = w' := by
  by_cases hm : 1 ≤ m ∧ m ≤ 8
  · have hd1 := decide_eq_true hm
    by_cases hf : 0 ≤ f ∧ f ≤ m
    · have hd2 := decide_eq_true hf
      by_cases hs : 0 ≤ s ∧ s ≤ m
      · have hd3 := decide_eq_true hs
        by_cases hsum : f + s ≤ m
        · have he := hide (boxOk_all hm hf hs hsum)
          obtain ⟨m1, m8⟩ := hm
          obtain ⟨f0, fm⟩ := hf
          obtain ⟨s0, sm⟩ := hs
          go_enter Try.func13, Try.ntmps13
          go_wp2_with (go_at_call 37; (with_reducible refine (l1In_c _ _ _ _).mono ?_); rintro e w' ⟨rfl, rfl⟩)
          go_ret
          exact ⟨ret_bool he.out.symm, rfl⟩
        · have he := hide (boxOk_no (.inr (.inr (.inr hsum))))
          obtain ⟨m1, m8⟩ := hm
          obtain ⟨f0, fm⟩ := hf
          obtain ⟨s0, sm⟩ := hs
          go_enter Try.func13, Try.ntmps13
          go_wp2_with (go_at_call 37; (with_reducible refine (l1In_c _ _ _ _).mono ?_); rintro e w' ⟨rfl, rfl⟩)
          go_ret
          exact ⟨ret_bool (by rw [he.out]; exact decide_eq_false (by omega)), rfl⟩
      · have hd3 := decide_eq_false hs
        have he := hide (boxOk_no (f := f) (.inr (.inr (.inl hs))))
        clear hm hf hs
        go_enter Try.func13, Try.ntmps13
        go_wp2_with (go_at_call 37; (with_reducible refine (l1In_c _ _ _ _).mono ?_); rintro e w' ⟨rfl, rfl⟩)
        go_ret
        exact ⟨ret_bool he.out.symm, rfl⟩
    · have hd2 := decide_eq_false hf
      have he := hide (boxOk_no (s := s) (.inr (.inl hf)))
      clear hm hf
      go_enter Try.func13, Try.ntmps13
      go_wp2_with (go_at_call 37; (with_reducible refine (l1In_c _ _ _ _).mono ?_); rintro e w' ⟨rfl, rfl⟩)
      go_ret
      exact ⟨ret_bool he.out.symm, rfl⟩
  · have hd1 := decide_eq_false hm
    have he := hide (boxOk_no (f := f) (s := s) (.inl hm))
    clear hm
    go_enter Try.func13, Try.ntmps13
    go_wp2_with (go_at_call 37; (with_reducible refine (l1In_c _ _ _ _).mono ?_); rintro e w' ⟨rfl, rfl⟩)
    go_ret
    exact ⟨ret_bool he.out.symm, rfl⟩

theorem fallN_cnt : ((List.range 9).all fun n => (List.range 9).all fun k => Nat.ble (fallN n k) 40320) = true := by kernel_rfl
theorem fallN_bound {n k : Nat} (hn : n ≤ 8) (hk : k ≤ 8) : fallN n k ≤ 40320 := Nat.le_of_ble_eq_true (all_range (all_range fallN_cnt (k := n) (by omega)) (k := k) (by omega))

set_option maxHeartbeats 3200000 in
theorem boxWeights_spec (m f s : Int) (w : World) :
    Calls Try.prog 31 #[.int .i64 m, .int .i64 f, .int .i64 s] w fun e w' => ∃ A n c, e = .returned (.slice A n c) ∧ Own w' w.heap.size (.slice A n c) (boxW m f s) ∧ Below w.heap.size w w' := by
  obtain ⟨i0, hi, hz0, hz1, hz2⟩ := info_parts infoInt
  have HO := hide (fun w => boxOk_spec m f s w)
  by_cases hok : boxOk m f s = true
  · have he := hide (show boxW m f s = boxL m.toNat f.toNat s.toNat by unfold boxW; rw [if_pos hok])
    rw [hok] at HO
    obtain ⟨M, F, S, rfl, rfl, rfl, h1, h8, hs⟩ := boxOk_yes hok
    clear hok
    rw [Int.toNat_natCast, Int.toNat_natCast, Int.toNat_natCast] at he
    rw [he.out]
    have hL := hide (boxL_len M F S)
    have HT := hide (fun (k : Nat) (h : k < M + 1) => take_succ (boxL_at (M := M) (F := F) (S := S) h))
    clear he
    go_enter Try.func31, Try.ntmps31
    go_wp2_with fail
    go_loopw [7, 8] (fun v i wr => ∃ k : Nat, ∃ A c, k ≤ M + 1 ∧ i = .int .i64 k ∧ v = .slice A k c ∧ Hid (Own wr w.heap.size (.slice A k c) ((boxL M F S).take k)) ∧ Hid (Below w.heap.size w wr)) (fun _ i _ => M + 1 - (intOf i).toNat)
    case atStart => exact ⟨0, _, _, Nat.zero_le _, rfl, rfl, own_empty (Nat.le_refl _), al w _⟩
    case round =>
      obtain ⟨k, A, c, hk, rfl, rfl, ho, hb⟩ := hrel
      have hst := hb.out.size
      by_cases hlt : k < M + 1
      · have htk := hide (HT.out k hlt)
        have hol := hide ho.out.len
        go_wp2_with (go_at_call 13; refine (HO.out _).mono ?_; rintro e w' ⟨rfl, rfl⟩)
        go_loop [9, 10] (fun t i => ∃ j : Nat, ∃ P : Int, j ≤ F ∧ i = .int .i64 j ∧ t = .int .i64 P ∧ Hid (P = (fallN k j : Int))) (fun _ i => F - (intOf i).toNat)
        case atStart => exact ⟨0, 1, Nat.zero_le _, rfl, rfl, hide rfl⟩
        case round =>
          obtain ⟨j, P, hj, rfl, rfl, hP⟩ := hrel
          have hPb := fallN_bound (n := k) (k := j) (by omega) (by omega)
          have hP0 : 0 ≤ P ∧ P ≤ 40320 := by rw [hP.out]; omega
          obtain ⟨p0, p1⟩ := hP0
          clear hPb
          by_cases hjf : j < F
          · have hsn := hide (fallN_snoc k j)
            by_cases hneg : (k : Int) - (j : Int) < 0
            · have hnx := hide (show (P * 0 : Int) = (fallN k (j + 1) : Int) by rw [hsn.out, hP.out, show k - j = 0 by omega]; simp)
              go_wp2
              go_round
              case rel => exact ⟨j + 1, P * 0, by omega, by go_num, by simp, hnx⟩
              case measure => simp [intOf]; omega
            · have hnx := hide (show P * ((k : Int) - (j : Int)) = (fallN k (j + 1) : Int) by rw [hsn.out, hP.out, Int.natCast_mul, Int.natCast_sub (by omega)])
              obtain ⟨q0, q1⟩ := mul_bound p0 p1 (b := (k : Int) - (j : Int)) (N := 8) (by omega) (by omega)
              go_wp2
              go_round
              case rel => exact ⟨j + 1, P * ((k : Int) - (j : Int)), by omega, by go_num, by try rfl, hnx⟩
              case measure => simp [intOf]; omega
          · obtain rfl : j = F := by omega
            go_wp2
            go_loop [9, 11] (fun t i => ∃ l : Nat, ∃ R : Int, l ≤ S ∧ i = .int .i64 l ∧ t = .int .i64 R ∧ Hid (R = (fallN k j : Int) * (fallN (M - k) l : Int))) (fun _ i => S - (intOf i).toNat)
            case atStart => exact ⟨0, P, Nat.zero_le _, rfl, rfl, hide (by rw [hP.out]; simp [fallN])⟩
            case round =>
              obtain ⟨l, R, hl, rfl, rfl, hR⟩ := hrel
              have hR0 : 0 ≤ R ∧ R ≤ 1625702400 := by
                have b1 := fallN_bound (n := k) (k := j) (by omega) (by omega)
                have b2 := fallN_bound (n := M - k) (k := l) (by omega) (by omega)
                have := mul_bound (a := (fallN k j : Int)) (M := 40320) (by omega) (by omega) (b := (fallN (M - k) l : Int)) (N := 40320) (by omega) (by omega)
                rw [hR.out]; omega
              obtain ⟨r0, r1⟩ := hR0
              by_cases hls : l < S
              · have hsn := hide (fallN_snoc (M - k) l)
                by_cases hneg : (M : Int) - (k : Int) - (l : Int) < 0
                · have hnx := hide (show (R * 0 : Int) = (fallN k j : Int) * (fallN (M - k) (l + 1) : Int) by rw [hsn.out, show M - k - l = 0 by omega]; simp)
                  go_wp2
                  go_round
                  case rel => exact ⟨l + 1, R * 0, by omega, by go_num, by simp, hnx⟩
                  case measure => simp [intOf]; omega
                · have hnx := hide (show R * ((M : Int) - (k : Int) - (l : Int)) = (fallN k j : Int) * (fallN (M - k) (l + 1) : Int) by
                    rw [hsn.out, hR.out, Int.natCast_mul, Int.natCast_sub (by omega), Int.natCast_sub (by omega), Int.mul_assoc])
                  obtain ⟨q0, q1⟩ := mul_bound r0 r1 (b := (M : Int) - (k : Int) - (l : Int)) (N := 8) (by omega) (by omega)
                  go_wp2
                  go_round
                  case rel => exact ⟨l + 1, R * ((M : Int) - (k : Int) - (l : Int)), by omega, by go_num, by try rfl, hnx⟩
                  case measure => simp [intOf]; omega
              · obtain rfl : l = S := by omega
                have hRB := hide (show R = (bwN M j l k : Int) by rw [hR.out]; unfold bwN; rw [Int.natCast_mul])
                have hRw := wf_i64 (z := R) (by omega)
                go_wp2_with (at_builtin; refine wpList_app _ rfl _ _ 32 rfl i0 Try.underlying32 hi hz0 hz1 hz2 _ _ rfl (ho.out.alloc _) _ 1 1 _ [R] rfl (ints_lit1 hRw) (by simp; omega) (by have := hol.out; omega) ?_; intro A₃ n₃ c₃ w3 ho3 hg3)
                have hn3 : n₃ = k + 1 := by have e := ho3.len; rw [List.length_append, ← hol.out] at e; simpa using e
                subst hn3
                have ho3 := hide (show Own w3 w.heap.size (.slice A₃ (k + 1) c₃) ((boxL M j l).take (k + 1)) by
                  rw [htk.out, ← hRB.out]; exact ho3)
                have hb3 := hide ((hb.out.alloc hst (.cells #[.int .i64 R] 3)).grown hg3 (by simp; omega) (fun j hj => (ho.out.row.lt j hj).1))
                clear hg3 hRw
                go_wp2_with fail
                go_roundw
                case rel => exact ⟨k + 1, _, _, by omega, by go_num, rfl, ho3, hb3⟩
                case measure => simp [intOf]; omega
      · obtain rfl : k = M + 1 := by omega
        have ho2 := hide (show Own wr w.heap.size (.slice A (M + 1) c) (boxL M F S) by
          have := ho.out
          rwa [List.take_of_length_le (by rw [hL.out]; exact Nat.le_refl _)] at this)
        go_wp2_with fail
        go_ret
        exact ⟨_, _, _, rfl, ho2.out, hb.out⟩
  · have he := hide (show boxW m f s = [] by unfold boxW; rw [if_neg hok])
    have hok : boxOk m f s = false := by simpa using hok
    rw [hok] at HO
    rw [he.out]
    clear he
    by_cases h0 : 0 ≤ m
    · clear hok
      go_enter Try.func31, Try.ntmps31
      go_wp2_with fail
      go_loop [7, 8] (fun v i => v = .slice (some ⟨w.heap.size, 0, none⟩) 0 0 ∧ i = .int .i64 0) (fun _ _ => 0)
      case atStart => exact ⟨rfl, rfl⟩
      case round =>
        obtain ⟨rfl, rfl⟩ := hrel
        go_wp2_with (go_at_call 13; refine (HO.out _).mono ?_; rintro e w' ⟨rfl, rfl⟩)
        go_ret
        exact ⟨_, _, _, rfl, own_empty (Nat.le_refl _), al w _⟩
    · clear hok
      go_enter Try.func31, Try.ntmps31
      go_wp2_with fail
      go_loop [7, 8] (fun v i => v = .slice (some ⟨w.heap.size, 0, none⟩) 0 0 ∧ i = .int .i64 0) (fun _ _ => 0)
      case atStart => exact ⟨rfl, rfl⟩
      case round =>
        obtain ⟨rfl, rfl⟩ := hrel
        go_wp2_with fail
        go_ret
        exact ⟨_, _, _, rfl, own_empty (Nat.le_refl _), al w _⟩

theorem l1TotalA_c (A : Option Addr) (n c B : Nat) (zs : List Int) (w : World) (h : Ints w B A n c zs) (hb : ∀ k, 0 ≤ isum (zs.take k) ∧ isum (zs.take k) ≤ 1000000000000) (he : ∀ x ∈ zs, 0 ≤ x ∧ x ≤ 1000000000000) :
    Calls Try.prog 40 #[.slice A n c] w fun e w' => e = .returned (.int .i64 (isum zs)) ∧ w = w' := by
  have hl := hide h.len
  have hn := h.nb
  have HT := hide hb
  have HE := hide (fun k x (hx : zs[k]? = some x) => he x (List.mem_of_getElem? hx))
  clear hb he
  go_enter Try.func40, Try.ntmps40
  go_wp2
  go_loop [3, 4] (fun t i => ∃ k : Nat, k ≤ n ∧ i = .int .i64 k ∧ t = .int .i64 (isum (zs.take k))) (fun _ i => n - (intOf i).toNat)
  case atStart => exact ⟨0, Nat.zero_le _, rfl, rfl⟩
  case round =>
    obtain ⟨k, hk, rfl, rfl⟩ := hrel
    obtain ⟨hs1, hs2⟩ := HT.out k
    by_cases hlt : k < n
    · obtain ⟨b, off, x, rfl, hb, hx, hcell⟩ := h.look hlt
      obtain ⟨hx1, hx2⟩ := HE.out k x hx.out
      have hst := hide (isum_take_succ hx.out)
      go_wp2
      go_round
      case rel => exact ⟨k + 1, by omega, by go_num, by rw [hst.out]⟩
      case measure => simp [intOf]; omega
    · go_wp2
      go_ret
      exact ⟨ret_int (by rw [List.take_of_length_le (by have := hl.out; omega)]), rfl⟩

theorem boxL_elem {M F S : Nat} (h1 : 1 ≤ M) (h8 : M ≤ 8) (hs : F + S ≤ M) {k : Nat} {x : Int} (hx : (boxL M F S)[k]? = some x) : k ≤ M ∧ x = (bwN M F S k : Int) ∧ 0 ≤ x ∧ x ≤ 40320 := by
  have hk : k < M + 1 := by have := (List.getElem?_eq_some_iff.1 hx).1; rwa [boxL_len] at this
  rw [boxL_at hk] at hx
  injection hx with hx
  have := bw_bound h1 h8 hs (w := k) (by omega)
  omega
theorem boxL_part {M F S : Nat} (h1 : 1 ≤ M) (h8 : M ≤ 8) (hs : F + S ≤ M) (k : Nat) : 0 ≤ isum ((boxL M F S).take k) ∧ isum ((boxL M F S).take k) ≤ 1000000000000 := by
  have hb := sum_bound h1 h8 hs
  rcases Nat.lt_or_ge (M + 1) k with h | h
  · rw [List.take_of_length_le (by rw [boxL_len]; omega), boxL_sum]; omega
  · rw [boxL_take h]
    have := sumTo_mono (f := bwN M F S) h
    unfold boxT at *
    omega
theorem boxTotal_c {M F S : Nat} (h1 : 1 ≤ M) (h8 : M ≤ 8) (hs : F + S ≤ M) (A : Option Addr) (n c B : Nat) (w : World) (h : Ints w B A n c (boxL M F S)) :
    Calls Try.prog 40 #[.slice A n c] w fun e w' => e = .returned (.int .i64 (boxT M F S (M + 1) : Int)) ∧ w = w' := by
  have := l1TotalA_c A n c B _ w h (boxL_part h1 h8 hs) (fun x hx => by
    obtain ⟨k, hk, rfl⟩ := List.getElem_of_mem hx
    have := boxL_elem h1 h8 hs (List.getElem?_eq_getElem hk)
    omega)
  rwa [boxL_sum] at this

set_option maxHeartbeats 800000 in
theorem boxSum_spec (m f s : Int) (w : World) :
    Calls Try.prog 16 #[.int .i64 m, .int .i64 f, .int .i64 s] w fun e w' => e = .returned (.int .i64 (boxSum m f s)) ∧ Below w.heap.size w w' := by
  have HO := hide (boxOk_spec m f s w)
  by_cases hok : boxOk m f s = true
  · have hW := hide (show boxW m f s = boxL m.toNat f.toNat s.toNat by unfold boxW; rw [if_pos hok])
    have he := hide (show boxSum m f s = (boxT m.toNat f.toNat s.toNat (m.toNat + 1) : Int) by unfold boxSum; rw [if_pos hok])
    have HB := hide (boxWeights_spec m f s w)
    rw [hW.out] at HB
    rw [hok] at HO
    obtain ⟨M, F, S, rfl, rfl, rfl, h1, h8, hs⟩ := boxOk_yes hok
    clear hok hW
    rw [Int.toNat_natCast, Int.toNat_natCast, Int.toNat_natCast] at he HB
    go_enter Try.func16, Try.ntmps16
    go_wp2_with (go_at_call 13; refine (HO.out).mono ?_; rintro e w' ⟨rfl, rfl⟩)
    refine HB.out.mono ?_
    rintro e w1 ⟨A, n, c, rfl, ho, hq⟩
    have HT := hide (boxTotal_c h1 h8 hs A n c _ w1 ho.ints)
    clear ho
    go_wp2_with (go_at_call 40; refine (HT.out).mono ?_; rintro e w' ⟨rfl, rfl⟩)
    go_ret
    exact ⟨ret_int he.out.symm, hq⟩
  · have he := hide (show boxSum m f s = -1 by unfold boxSum; rw [if_neg hok])
    have hok : boxOk m f s = false := by simpa using hok
    rw [hok] at HO
    clear hok
    go_enter Try.func16, Try.ntmps16
    go_wp2_with (go_at_call 13; refine (HO.out).mono ?_; rintro e w' ⟨rfl, rfl⟩)
    go_ret
    exact ⟨ret_int he.out.symm, Below.refl _ _⟩

theorem overN_int (a c : Nat) : (a : Int) / gcdI (a : Int) (c : Int) = (overN a c : Int) := by
  unfold gcdI overN
  rw [Int.toNat_natCast, Int.toNat_natCast]
  exact (Int.natCast_ediv _ _).symm
theorem overN_int2 (a c : Nat) : (c : Int) / gcdI (a : Int) (c : Int) = (overN c a : Int) := by
  unfold gcdI overN
  rw [Int.toNat_natCast, Int.toNat_natCast, Nat.gcd_comm]
  exact (Int.natCast_ediv _ _).symm
end Go.Proofs.Ytbjjlgnelbcmlaa

namespace Go.Proofs.Ytbjjlgnelbcmlaa
open Go.RowKit

theorem boxUp_step {M F S k : Nat} (h1 : 1 ≤ M) (h8 : M ≤ 8) (hs : F + S ≤ M) (hk : k ≤ M) : (boxUp M F S k : Int) + (bwN M F S k : Int) * ((k : Int) - (F : Int)) = (boxUp M F S (k + 1) : Int) := by
  have e : (bwN M F S k : Int) * ((k : Int) - (F : Int)) = ((bwN M F S k * (k - F) : Nat) : Int) := by
    rcases Nat.lt_or_ge k F with h | h
    · rw [(bw_zero h1 h8 hs hk).2 (.inl h)]; simp
    · rw [Int.natCast_mul, Int.natCast_sub h]
  rw [e, ← Int.natCast_add]; rfl
theorem boxMe_step (M F S k : Nat) : (boxMe M F S k : Int) + (bwN M F S k : Int) * (k : Int) = (boxMe M F S (k + 1) : Int) := by
  rw [← Int.natCast_mul, ← Int.natCast_add]; rfl
theorem boxUp_bound {M F S k : Nat} (h1 : 1 ≤ M) (h8 : M ≤ 8) (hs : F + S ≤ M) (hk : k ≤ M + 1) : boxUp M F S k ≤ 1000000 :=
  Nat.le_trans (sumTo_mono hk) (sum_bound h1 h8 hs).2.2.1
theorem boxMe_bound {M F S k : Nat} (h1 : 1 ≤ M) (h8 : M ≤ 8) (hs : F + S ≤ M) (hk : k ≤ M + 1) : boxMe M F S k ≤ 1000000 :=
  Nat.le_trans (sumTo_mono hk) (sum_bound h1 h8 hs).2.2.2
theorem gcdI_small {a c : Nat} (hc : 0 < c) (hb : c ≤ 1000000000) : 0 < gcdI (a : Int) (c : Int) ∧ gcdI (a : Int) (c : Int) ≤ 1000000000 := by
  unfold gcdI
  rw [Int.toNat_natCast, Int.toNat_natCast]
  have h1 := Nat.gcd_pos_of_pos_right a hc
  have h2 := Nat.gcd_le_right a hc
  omega

theorem wrap_over {a b : Nat} (h : a ≤ 1000000000) : wrap64 (overN a b : Int) = (overN a b : Int) := by
  have : overN a b ≤ a := Nat.div_le_self _ _
  exact IntWalk.wrap64_in _ (by omega)

set_option maxHeartbeats 1600000 in
theorem nextChance_spec (m f s : Int) (w : World) :
    Calls Try.prog 20 #[.int .i64 m, .int .i64 f, .int .i64 s] w fun e w' => e = .returned (.tuple #[.int .i64 (nextN m f s), .int .i64 (nextD m f s), .bool (leftOk m f s)]) ∧ Below w.heap.size w w' := by
  have HO := hide (boxOk_spec m f s w)
  by_cases hok : boxOk m f s = true
  · obtain ⟨M, F, S, rfl, rfl, rfl, h1, h8, hs⟩ := boxOk_yes hok
    rw [hok] at HO
    by_cases hlt : F + S < M
    · have hl := hide (show leftOk (M : Int) (F : Int) (S : Int) = true by unfold leftOk; rw [hok, decide_eq_true (by omega)]; rfl)
      have HB := hide (boxWeights_spec (M : Int) (F : Int) (S : Int) w)
      rw [show boxW (M : Int) (F : Int) (S : Int) = boxL M F S by unfold boxW; rw [if_pos hok, Int.toNat_natCast, Int.toNat_natCast, Int.toNat_natCast]] at HB
      have eN := hide (show nextN (M : Int) (F : Int) (S : Int) = (overN (nextA M F S) (nextC M F S) : Int) by unfold nextN; rw [if_pos hl.out, Int.toNat_natCast, Int.toNat_natCast, Int.toNat_natCast])
      have eD := hide (show nextD (M : Int) (F : Int) (S : Int) = (overN (nextC M F S) (nextA M F S) : Int) by unfold nextD; rw [if_pos hl.out, Int.toNat_natCast, Int.toNat_natCast, Int.toNat_natCast])
      have hne : ((F : Int) + (S : Int) == (M : Int)) = false := by simp; omega
      have HU := hide (fun (k : Nat) (hk : k ≤ M) => boxUp_step h1 h8 hs hk)
      have HUB := hide (fun (k : Nat) (hk : k ≤ M + 1) => boxUp_bound h1 h8 hs hk)
      have hsb := sum_bound h1 h8 hs
      obtain ⟨t0, t1, _, _⟩ := hsb
      clear hok
      go_enter Try.func20, Try.ntmps20
      go_wp2_with (go_at_call 13; refine (HO.out).mono ?_; rintro e w' ⟨rfl, rfl⟩)
      clear hne
      refine HB.out.mono ?_
      rintro e w1 ⟨A, n, c, rfl, ho, hq⟩
      have hn : n = M + 1 := by rw [ho.len, boxL_len]
      subst hn
      have hi1 := hide ho.ints
      have HT := hide (boxTotal_c h1 h8 hs A (M + 1) c _ w1 ho.ints)
      have hq := hide hq
      clear ho HB HO
      go_wp2_with fail
      go_loop [10, 11] (fun t i => ∃ k : Nat, k ≤ M + 1 ∧ i = .int .i64 k ∧ t = .int .i64 (boxUp M F S k : Int)) (fun _ i => M + 1 - (intOf i).toNat)
      case atStart => exact ⟨0, Nat.zero_le _, rfl, rfl⟩
      case round =>
        obtain ⟨k, hk, rfl, rfl⟩ := hrel
        by_cases hkl : k < M + 1
        · obtain ⟨b, off, x, rfl, hbB, hx, hcell⟩ := hi1.out.look hkl
          obtain ⟨_, ex, x0, x1⟩ := boxL_elem h1 h8 hs hx.out
          have hst := hide (HU.out k (by omega))
          have hb1 := HUB.out k (by omega)
          have hb2 := HUB.out (k + 1) (by omega)
          rw [← ex] at hst
          obtain ⟨U, hU⟩ : ∃ U : Nat, Hid (boxUp M F S k = U) := ⟨_, hide rfl⟩
          obtain ⟨V, hV⟩ : ∃ V : Nat, Hid (boxUp M F S (k + 1) = V) := ⟨_, hide rfl⟩
          rw [hU.out] at hst hb1 ⊢
          rw [hV.out] at hst hb2
          have hmul := mul_bound (a := x) (M := 40320) x0 x1 (b := (k : Int) - (F : Int) + 8) (N := 16) (by omega) (by omega)
          have hx8 : x * ((k : Int) - (F : Int)) = x * ((k : Int) - (F : Int) + 8) - x * 8 := by rw [Int.mul_add]; omega
          have hmul2 := hide (show -1000000 ≤ x * ((k : Int) - (F : Int)) ∧ x * ((k : Int) - (F : Int)) ≤ 1000000 by rw [hx8]; omega)
          clear hmul hx8 ex
          obtain ⟨p0, p1⟩ := hmul2.out
          go_wp2
          go_round
          case rel => exact ⟨k + 1, by omega, by go_num, by rw [hst.out, hV.out]⟩
          case measure => simp [intOf]; omega
        · obtain rfl : k = M + 1 := by omega
          have hc1 := mul_bound (a := (boxT M F S (M + 1) : Int)) (M := 1000000) (by omega) (by omega) (b := (M : Int) - (F : Int) - (S : Int)) (N := 8) (by omega) (by omega)
          have hcC := hide (show (boxT M F S (M + 1) : Int) * ((M : Int) - (F : Int) - (S : Int)) = (nextC M F S : Int) by
            unfold nextC; rw [Int.natCast_mul, Int.natCast_sub (by omega), Int.natCast_sub (by omega)])
          have hcp : 0 < nextC M F S := Nat.mul_pos t0 (by omega)
          have hcb : nextC M F S ≤ 8000000 := by have := hcC.out; omega
          have hab := HUB.out (M + 1) (Nat.le_refl _)
          have hg := gcdI_small (a := nextA M F S) hcp (by omega)
          have HG := hide (fun w => l1Common_c (nextA M F S : Int) (nextC M F S : Int) w (by omega) (by unfold nextA; omega) (by omega) (by omega))
          have h6 := hide (overN_int (nextA M F S) (nextC M F S))
          have h7 := hide (overN_int2 (nextA M F S) (nextC M F S))
          have w6 := hide (wrap_over (a := nextA M F S) (b := nextC M F S) (by unfold nextA; omega))
          have w7 := hide (wrap_over (a := nextC M F S) (b := nextA M F S) (by omega))
          obtain ⟨C, hC⟩ : ∃ C : Nat, Hid (nextC M F S = C) := ⟨_, hide rfl⟩
          obtain ⟨U, hU⟩ : ∃ U : Nat, Hid (nextA M F S = U) := ⟨_, hide rfl⟩
          rw [show boxUp M F S (M + 1) = U from hU.out]
          rw [hC.out, hU.out] at eN eD h6 h7 w6 w7 HG hg
          rw [hC.out] at hcC hcp hcb
          rw [show boxUp M F S (M + 1) = U from hU.out] at hab
          obtain ⟨T, hT⟩ : ∃ T : Nat, Hid (boxT M F S (M + 1) = T) := ⟨_, hide rfl⟩
          rw [hT.out] at HT hcC hc1 t0 t1
          obtain ⟨G, hG⟩ : ∃ G : Int, Hid (gcdI (U : Int) (C : Int) = G) := ⟨_, hide rfl⟩
          rw [hG.out] at h6 h7 HG hg
          obtain ⟨g0, g1⟩ := hg
          obtain ⟨c0, c1⟩ := hc1
          have hG0 : (G == 0) = false := by simp; omega
          go_wp2_with (go_at_call 40; refine (HT.out).mono ?_; rintro e w' ⟨rfl, rfl⟩)
          rw [hcC.out]
          go_wp2_with (go_at_call 45; refine (HG.out _).mono ?_; rintro e w' ⟨rfl, rfl⟩)
          go_quiet (fail)
          go_wp2
          go_ret3
          exact ⟨by rw [eN.out, eD.out, hl.out, h6.out, h7.out, w6.out, w7.out]; rfl, below_drewN hq.out _⟩
    · have hl := hide (show leftOk (M : Int) (F : Int) (S : Int) = false by unfold leftOk; rw [decide_eq_false (by omega), Bool.and_false])
      have eN := hide (show nextN (M : Int) (F : Int) (S : Int) = 0 by unfold nextN; rw [hl.out]; rfl)
      have eD := hide (show nextD (M : Int) (F : Int) (S : Int) = 0 by unfold nextD; rw [hl.out]; rfl)
      have hne : ((F : Int) + (S : Int) == (M : Int)) = true := by simp; omega
      clear hok
      go_enter Try.func20, Try.ntmps20
      go_wp2_with (go_at_call 13; refine (HO.out).mono ?_; rintro e w' ⟨rfl, rfl⟩)
      go_ret3
      exact ⟨by rw [eN.out, eD.out, hl.out]; rfl, Below.refl _ _⟩
  · have hl := hide (show leftOk m f s = false by unfold leftOk; rw [show boxOk m f s = false by simpa using hok]; rfl)
    have eN := hide (show nextN m f s = 0 by unfold nextN; rw [hl.out]; rfl)
    have eD := hide (show nextD m f s = 0 by unfold nextD; rw [hl.out]; rfl)
    have hok : boxOk m f s = false := by simpa using hok
    rw [hok] at HO
    clear hok
    go_enter Try.func20, Try.ntmps20
    go_wp2_with (go_at_call 13; refine (HO.out).mono ?_; rintro e w' ⟨rfl, rfl⟩)
    go_ret3
    exact ⟨by rw [eN.out, eD.out, hl.out]; rfl, Below.refl _ _⟩

set_option maxHeartbeats 1600000 in
theorem boxMean_spec (m f s : Int) (w : World) :
    Calls Try.prog 24 #[.int .i64 m, .int .i64 f, .int .i64 s] w fun e w' => e = .returned (.tuple #[.int .i64 (meanN m f s), .int .i64 (meanD m f s), .bool (boxOk m f s)]) ∧ Below w.heap.size w w' := by
  have HO := hide (boxOk_spec m f s w)
  by_cases hok : boxOk m f s = true
  · obtain ⟨M, F, S, rfl, rfl, rfl, h1, h8, hs⟩ := boxOk_yes hok
    rw [hok] at HO ⊢
    have HB := hide (boxWeights_spec (M : Int) (F : Int) (S : Int) w)
    rw [show boxW (M : Int) (F : Int) (S : Int) = boxL M F S by unfold boxW; rw [if_pos hok, Int.toNat_natCast, Int.toNat_natCast, Int.toNat_natCast]] at HB
    have eN := hide (show meanN (M : Int) (F : Int) (S : Int) = (overN (meanA M F S) (meanC M F S) : Int) by unfold meanN; rw [if_pos hok, Int.toNat_natCast, Int.toNat_natCast, Int.toNat_natCast])
    have eD := hide (show meanD (M : Int) (F : Int) (S : Int) = (overN (meanC M F S) (meanA M F S) : Int) by unfold meanD; rw [if_pos hok, Int.toNat_natCast, Int.toNat_natCast, Int.toNat_natCast])
    have HU := hide (fun (k : Nat) => boxMe_step M F S k)
    have HUB := hide (fun (k : Nat) (hk : k ≤ M + 1) => boxMe_bound h1 h8 hs hk)
    have hsb := sum_bound h1 h8 hs
    obtain ⟨t0, t1, _, _⟩ := hsb
    clear hok
    go_enter Try.func24, Try.ntmps24
    go_wp2_with (go_at_call 13; refine (HO.out).mono ?_; rintro e w' ⟨rfl, rfl⟩)
    refine HB.out.mono ?_
    rintro e w1 ⟨A, n, c, rfl, ho, hq⟩
    have hn : n = M + 1 := by rw [ho.len, boxL_len]
    subst hn
    have hi1 := hide ho.ints
    have HT := hide (fun k => boxTotal_c h1 h8 hs A (M + 1) c _ (w1.drewN k) (ho.drewN k).ints)
    have hq := hide hq
    clear ho HB HO
    go_wp2_with fail
    go_loop [10, 11] (fun t i => ∃ k : Nat, k ≤ M + 1 ∧ i = .int .i64 k ∧ t = .int .i64 (boxMe M F S k : Int)) (fun _ i => M + 1 - (intOf i).toNat)
    case atStart => exact ⟨0, Nat.zero_le _, rfl, rfl⟩
    case round =>
      obtain ⟨k, hk, rfl, rfl⟩ := hrel
      by_cases hkl : k < M + 1
      · obtain ⟨b, off, x, rfl, hbB, hx, hcell⟩ := hi1.out.look hkl
        obtain ⟨_, ex, x0, x1⟩ := boxL_elem h1 h8 hs hx.out
        have hst := hide (HU.out k)
        have hb1 := HUB.out k (by omega)
        have hb2 := HUB.out (k + 1) (by omega)
        rw [← ex] at hst
        obtain ⟨U, hU⟩ : ∃ U : Nat, Hid (boxMe M F S k = U) := ⟨_, hide rfl⟩
        obtain ⟨V, hV⟩ : ∃ V : Nat, Hid (boxMe M F S (k + 1) = V) := ⟨_, hide rfl⟩
        rw [hU.out] at hst hb1 ⊢
        rw [hV.out] at hst hb2
        obtain ⟨p0, p1⟩ := mul_bound (a := x) (M := 40320) x0 x1 (b := (k : Int)) (N := 8) (by omega) (by omega)
        clear ex
        go_wp2
        go_round
        case rel => exact ⟨k + 1, by omega, by go_num, by rw [hst.out, hV.out]⟩
        case measure => simp [intOf]; omega
      · obtain rfl : k = M + 1 := by omega
        have hab := HUB.out (M + 1) (Nat.le_refl _)
        have hg := gcdI_small (a := meanA M F S) (c := boxT M F S (M + 1)) t0 (by omega)
        have HG := hide (fun w => l1Common_c (meanA M F S : Int) (boxT M F S (M + 1) : Int) w (by omega) (by unfold meanA; omega) (by omega) (by omega))
        have h6 := hide (overN_int (meanA M F S) (meanC M F S))
        have h7 := hide (overN_int2 (meanA M F S) (meanC M F S))
        have w6 := hide (wrap_over (a := meanA M F S) (b := meanC M F S) (by unfold meanA; omega))
        have w7 := hide (wrap_over (a := meanC M F S) (b := meanA M F S) (by unfold meanC; omega))
        obtain ⟨U, hU⟩ : ∃ U : Nat, Hid (meanA M F S = U) := ⟨_, hide rfl⟩
        obtain ⟨T, hT⟩ : ∃ T : Nat, Hid (boxT M F S (M + 1) = T) := ⟨_, hide rfl⟩
        have hT2 : meanC M F S = T := hT.out
        rw [show boxMe M F S (M + 1) = U from hU.out]
        rw [hT2, hU.out] at eN eD h6 h7 w6 w7
        rw [hT.out, hU.out] at HG hg
        rw [show boxMe M F S (M + 1) = U from hU.out] at hab
        rw [hT.out] at HT t0 t1
        obtain ⟨G, hG⟩ : ∃ G : Int, Hid (gcdI (U : Int) (T : Int) = G) := ⟨_, hide rfl⟩
        rw [hG.out] at h6 h7 HG hg
        obtain ⟨g0, g1⟩ := hg
        have hG0 : (G == 0) = false := by simp; omega
        clear hT2
        have HT0 := hide (HT.out 0)
        go_wp2_with (first | (go_at_call 40; refine (HT0.out).mono ?_; rintro e w' ⟨rfl, rfl⟩) | (go_at_call 45; refine (HG.out _).mono ?_; rintro e w' ⟨rfl, rfl⟩))
        go_quiet (first | (go_at_call 40; exact qs1 (HT.out _)) | (go_at_call 40; exact qs2 (HT.out _)) | (go_at_call 40; exact qs0 (HT.out _)))
        go_wp2
        go_ret3
        exact ⟨by rw [eN.out, eD.out, h6.out, h7.out, w6.out, w7.out]; rfl, below_drewN hq.out _⟩
  · have hok : boxOk m f s = false := by simpa using hok
    have eN := hide (show meanN m f s = 0 by unfold meanN; rw [hok]; rfl)
    have eD := hide (show meanD m f s = 0 by unfold meanD; rw [hok]; rfl)
    rw [hok] at HO ⊢
    clear hok
    go_enter Try.func24, Try.ntmps24
    go_wp2_with (go_at_call 13; refine (HO.out).mono ?_; rintro e w' ⟨rfl, rfl⟩)
    go_ret3
    exact ⟨by rw [eN.out, eD.out]; rfl, Below.refl _ _⟩

theorem bestTo_lt (f : Nat → Nat) (k : Nat) (h : 0 < k) : bestTo f k < k := by
  induction k with
  | zero => omega
  | succ k ih =>
    simp only [bestTo]
    cases hb : Nat.blt (f (bestTo f k)) (f k) with
    | true => simp
    | false =>
      rw [cond_false]
      rcases Nat.eq_zero_or_pos k with h0 | h0
      · subst h0; simp [bestTo]
      · have := ih h0; omega

set_option maxHeartbeats 1600000 in
theorem likeliestBox_spec (m f s : Int) (w : World) :
    Calls Try.prog 27 #[.int .i64 m, .int .i64 f, .int .i64 s] w fun e w' => e = .returned (.int .i64 (likeliB m f s)) ∧ Below w.heap.size w w' := by
  have HB := hide (boxWeights_spec m f s w)
  by_cases hok : boxOk m f s = true
  · obtain ⟨M, F, S, rfl, rfl, rfl, h1, h8, hs⟩ := boxOk_yes hok
    have he := hide (show likeliB (M : Int) (F : Int) (S : Int) = (bestTo (bwN M F S) (M + 1) : Int) by unfold likeliB; rw [if_pos hok, Int.toNat_natCast, Int.toNat_natCast, Int.toNat_natCast])
    rw [show boxW (M : Int) (F : Int) (S : Int) = boxL M F S by unfold boxW; rw [if_pos hok, Int.toNat_natCast, Int.toNat_natCast, Int.toNat_natCast]] at HB
    have HS := hide (fun k => show bestTo (bwN M F S) (k + 1) = bif Nat.blt (bwN M F S (bestTo (bwN M F S) k)) (bwN M F S k) then k else bestTo (bwN M F S) k from rfl)
    have HL := hide (fun k (hk : 0 < k) => bestTo_lt (bwN M F S) k hk)
    clear hok
    go_enter Try.func27, Try.ntmps27
    go_wp2_with fail
    refine HB.out.mono ?_
    rintro e w1 ⟨A, n, c, rfl, ho, hq⟩
    have hn : n = M + 1 := by rw [ho.len, boxL_len]
    subst hn
    have hi1 := hide ho.ints
    have hq := hide hq
    clear ho HB
    go_wp2_with fail
    go_loopw [7, 9] (fun t i wr => ∃ k q : Nat, ∃ b : Int, k ≤ M + 1 ∧ i = .int .i64 k ∧ t = .int .i64 b ∧ wr = w1.drewN q ∧ Hid (0 < k → b = (bestTo (bwN M F S) k : Int)) ∧ (k = 0 → b = -1) ∧ -1 ≤ b) (fun _ i _ => M + 1 - (intOf i).toNat)
    case atStart => exact ⟨0, 0, -1, Nat.zero_le _, rfl, rfl, rfl, fun h => absurd h (by omega), fun _ => rfl, by omega⟩
    case round =>
      obtain ⟨k, q, b, hk, rfl, rfl, rfl, hbest, hb0, hb1⟩ := hrel
      by_cases hkl : k < M + 1
      · rcases Nat.eq_zero_or_pos k with h0 | h0
        · subst h0
          have hbm := hb0 rfl
          subst hbm
          have hst := hide (show 0 < 0 + 1 → (0 : Int) = (bestTo (bwN M F S) (0 + 1) : Int) from fun _ => by
            rw [HS.out 0]
            cases Nat.blt (bwN M F S (bestTo (bwN M F S) 0)) (bwN M F S 0) <;> simp [bestTo])
          clear hbest hb0 hb1
          go_wp2_with fail
          go_quiet (fail)
          go_wp2_with fail
          go_roundw
          case rel => exact ⟨1, _, 0, by omega, rfl, rfl, rfl, hst, fun h => absurd h (by omega), by omega⟩
          case measure => simp [intOf] <;> omega
        · have hB := hbest.out h0
          have hBl := HL.out k h0
          obtain ⟨K, hK⟩ : ∃ K : Nat, Hid (bestTo (bwN M F S) k = K) := ⟨_, hide rfl⟩
          rw [hK.out] at hB hBl
          subst hB
          obtain ⟨g, off, x, hA, hbB, hx, hcell⟩ := hi1.out.look hkl
          obtain ⟨g', off', y, hA', hbB', hy, hcell'⟩ := hi1.out.look (show K < M + 1 by omega)
          subst hA
          injection hA' with hA'
          injection hA' with e1 e2 _
          subst e1; subst e2
          obtain ⟨_, ex, x0, x1⟩ := boxL_elem h1 h8 hs hx.out
          obtain ⟨_, ey, y0, y1⟩ := boxL_elem h1 h8 hs hy.out
          have hS := HS.out k
          rw [hK.out] at hS
          have hKd : decide ((K : Int) < 0) = false := decide_eq_false (by omega)
          have hKl : K < M + 1 := by omega
          clear hbest hb0 hb1
          by_cases hxy : y < x
          · have hst := hide (show 0 < k + 1 → (k : Int) = (bestTo (bwN M F S) (k + 1) : Int) from fun _ => by
              rw [hS, blt_iff.2 (by omega)]; rfl)
            clear ex ey hS
            go_wp2_with fail
            go_quiet (fail)
            go_wp2_with fail
            go_roundw
            case rel => exact ⟨k + 1, _, k, by omega, by go_num, rfl, rfl, hst, fun h => absurd h (by omega), by omega⟩
            case measure => simp [intOf]; omega
          · have hst := hide (show 0 < k + 1 → (K : Int) = (bestTo (bwN M F S) (k + 1) : Int) from fun _ => by
              have e : Nat.blt (bwN M F S K) (bwN M F S k) = false := by
                rw [Bool.eq_false_iff]
                intro h
                have := blt_iff.1 h
                omega
              rw [hS, e]; rfl)
            clear ex ey hS
            go_wp2_with fail
            go_quiet (fail)
            go_wp2_with fail
            go_roundw
            case rel => exact ⟨k + 1, _, K, by omega, by go_num, rfl, rfl, hst, fun h => absurd h (by omega), by omega⟩
            case measure => simp [intOf]; omega
      · obtain rfl : k = M + 1 := by omega
        have hB := hbest.out (by omega)
        clear hbest hb0 hb1
        go_wp2_with fail
        go_ret
        exact ⟨ret_int (by rw [he.out, hB]), below_drewN hq.out _⟩
  · have he := hide (show likeliB m f s = -1 by unfold likeliB; rw [if_neg hok])
    rw [show boxW m f s = [] by unfold boxW; rw [if_neg hok]] at HB
    clear hok
    go_enter Try.func27, Try.ntmps27
    go_wp2_with fail
    refine HB.out.mono ?_
    rintro e w1 ⟨A, n, c, rfl, ho, hq⟩
    have hn : n = 0 := ho.len
    subst hn
    have hq := hide hq
    clear ho HB
    go_wp2_with fail
    go_loop [7, 9] (fun v i => v = .int .i64 (-1) ∧ i = .int .i64 0) (fun _ _ => 0)
    case atStart => exact ⟨rfl, rfl⟩
    case round =>
      obtain ⟨rfl, rfl⟩ := hrel
      go_wp2_with fail
      go_ret
      exact ⟨ret_int he.out.symm, hq.out⟩
end Go.Proofs.Ytbjjlgnelbcmlaa
