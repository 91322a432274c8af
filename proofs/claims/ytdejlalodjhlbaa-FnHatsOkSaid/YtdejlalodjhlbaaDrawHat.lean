/-
  The drawn rows of chapter 13 (written by wip/gen_b4.py).
-/
import Derived.Test.YtdejlalodjhlbaaHatO
import Derived.Test.YtdejlalodjhlbaaZdraw
namespace Go.Proofs.Ytdejlalodjhlbaa
open Go.RowKit
set_option linter.unusedVariables false

theorem below_row {w w' : World} (hb : Below w.heap.size w w') : w.grownBy w' none := ⟨hb.os, hb.tape, hb.output, hb.size, fun k hk _ => hb.block k hk⟩
set_option maxRecDepth 100000 in
set_option maxHeartbeats 3200000 in
theorem DrawHatsOk_c (A : Option Addr) (n c : Nat) (bs : List Int) (w : World) (h : Bts w w.heap.size A n c bs) :
    Calls Try.prog 14 #[.slice A n c] w fun e w' => ∃ A1 n1 c1 zs1, e = .returned (.slice A1 n1 c1) ∧ Ints w' w'.heap.size A1 n1 c1 zs1 ∧ n1 ≤ 10 ∧ Below w.heap.size w w' := by
  have HO := hide (open_c A n c bs w h)
  obtain ⟨i0, hi, hz0, hz1, hz2⟩ := info_parts infoInt
  go_enter Try.func14, Try.ntmps14
  go_wp2_with fail
  refine HO.out.mono ?_
  rintro e w1 ⟨g, rfl, hr1, hg, hb1⟩
  have hgl := hr1.lt
  have ho0 := hide (own_empty (w := w1) (base := w1.heap.size) (Nat.le_refl _))
  have hr0 := hide (hr1.kept (World.grownBy_alloc w1 (.cells #[] 3) none) (fun _ e => by cases e))
  have hb0 := hide (hb1.alloc hb1.size (.cells #[] 3))
  clear HO hr1
  go_wp2_with fail
  go_loopw [4, 5, 6, 7] (fun v i a b wr => ∃ k g2 c2 : Nat, ∃ O : List Int, k ≤ 6 ∧ i = .int .i64 (k : Int) ∧ v = .slice (some ⟨g2, 0, none⟩) k c2 ∧ Hid (Own wr w1.heap.size (.slice (some ⟨g2, 0, none⟩) k c2) O) ∧ Hid (Rd wr g (2 * k)) ∧ Hid (Below w.heap.size w wr) ∧ w1.heap.size ≤ wr.heap.size) (fun _ i _ _ _ => 6 - (intOf i).toNat)
  case atStart => exact ⟨0, _, _, [], by omega, rfl, rfl, ho0, hr0, hb0, by simp⟩
  case round =>
    clear ho0 hr0 hb0 hb1
    obtain ⟨k, g2, c2, O, hk, rfl, rfl, ho, hr, hb, hw1⟩ := hrel
    go_wp2_with fail
    refine (pick_c g _ 7 _ hr.out (by omega) (by omega) (by omega)).mono ?_
    rintro e w2 ⟨x, rfl, hx0, hx1, hr2, hg2⟩
    have hb2 := hide (hb.out.grown hg2 hb.out.size (fun j hj => by injection hj with hj; omega))
    have ho2 := hide (ho.out.past hg2 hgl)
    have hs2 := hg2.size
    have hr2 := hide hr2
    clear hg2 ho hr hb
    by_cases hlt : (k : Int) < x
    · have hd : decide ((k : Int) < x) = true := decide_eq_true hlt
      go_wp2_with fail
      refine (pick_any g _ ((k : Int) + 1) _ hr2.out (by omega) (by omega)).mono ?_
      rintro e w3 ⟨p, rfl, hp0, hp1, hr3, hg3⟩
      have hb3 := hide (hb2.out.grown hg3 hb2.out.size (fun j hj => by injection hj with hj; omega))
      have ho3 := hide (ho2.out.past hg3 hgl)
      have hs3 := hg3.size
      have hr3 := hide hr3
      clear hg3 ho2 hr2 hb2
      obtain ⟨P, rfl⟩ : ∃ P : Nat, p = (P : Int) := ⟨p.toNat, by omega⟩
      have hPk : P ≤ k := by omega
      have hkc := ho3.out.ints.le
      have hlO := hide ho3.out.len
      have hoN := hide (own_empty (w := w3) (base := w3.heap.size) (Nat.le_refl _))
      go_wp2_with (first
        | (at_builtin; refine wpList_app _ rfl _ _ 23 rfl i0 Try.underlying23 hi hz0 hz1 hz2 _ [] rfl hoN.out _ P c2 _ (O.take P) rfl ((ho3.out.alloc _).ints.takeS hPk) (by simp) (by simp; omega) ?_; intro A₁ n₁ c₁ wa ho1 hg1; have hq1 := hide (al_grown hg1 (Nat.le_refl _)); have hn1 := hide (show n₁ ≤ k by have h1 := ho1.len; have := hlO.out; simp at h1; omega); have ho1 := hide ho1; have hsa := hq1.out.size; clear hg1)
        | (at_builtin; refine wpList_app _ rfl _ _ 23 rfl i0 Try.underlying23 hi hz0 hz1 hz2 _ _ rfl (ho1.out.alloc _) _ 1 1 _ [(k : Int)] rfl (ints_lit1 (wf_i64 (by omega))) (by simp; omega) (by have h1 := ho1.out.len; have := hn1.out; omega) ?_; intro A₂ n₂ c₂ wb hob hgb; have hq2 := hide ((hq1.out.alloc hsa _).grown hgb (by simp; omega) (fun j hj => (ho1.out.row.lt j hj).1)); have hob := hide hob; have hsb := hq2.out.size; have hzb := hide (ho3.out.up hq2.out).ints; clear hgb)
        | (at_builtin; refine wpList_app _ rfl _ _ 23 rfl i0 Try.underlying23 hi hz0 hz1 hz2 _ _ rfl hob.out _ (k - P) (c2 - P) _ (O.drop P) rfl (hzb.out.dropI hPk) hsb (by have h2 := ho1.out.len; have := hn1.out; rw [List.length_append, ← h2]; simp; omega) ?_; intro A₃ n₃ c₃ wc hoc hgc; have hq3 := hide (hq2.out.grown hgc hsb (fun j hj => (hob.out.row.lt j hj).1)); have hoc := hide hoc; clear hgc))
      have hn3 : n₃ = k + 1 := by
        have h1 := hoc.out.len
        have h2 := hlO.out
        simp at h1
        omega
      subst hn3
      obtain ⟨g3, rfl⟩ := own_some hoc.out (Nat.succ_pos k)
      have hs4 := hq3.out.size
      have ho4 := hide (hoc.out.down (show w1.heap.size ≤ w3.heap.size by omega))
      have hr4 := hide (show Rd wc g (2 * (k + 1)) from (hr3.out.kept (below_row hq3.out) (fun _ e => by cases e)).more (by omega))
      have hb4 := hide (upB hb3.out hq3.out)
      go_roundw
      case rel => exact ⟨k + 1, g3, c₃, _, by omega, by go_num, rfl, ho4, hr4, hb4, by omega⟩
      case measure => simp [intOf]; omega
    · have hd : decide ((k : Int) < x) = false := decide_eq_false hlt
      go_wp2_with fail
      refine (odd_c g _ 4 _ hr2.out (by omega) (by omega) (by omega)).mono ?_
      rintro e w3 ⟨b, rfl, hr3, hg3⟩
      have hb3 := hide (hb2.out.grown hg3 hb2.out.size (fun j hj => by injection hj with hj; omega))
      have ho3 := hide (ho2.out.past hg3 hgl)
      have hs3 := hg3.size
      have hr3 := hide hr3
      clear hg3 ho2 hr2 hb2
      cases b with
      | false =>
        go_wp2_with fail
        go_ret
        exact ⟨_, _, _, _, rfl, ho3.out.ints, by omega, hb3.out⟩
      | true =>
        go_wp2_with fail
        refine (pick_c g _ 7 _ hr3.out (by omega) (by omega) (by omega)).mono ?_
        rintro e w4 ⟨y, rfl, hy0, hy1, hr4, hg4⟩
        have hb4 := hide (hb3.out.grown hg4 hb3.out.size (fun j hj => by injection hj with hj; omega))
        have ho4 := hide (ho3.out.past hg4 hgl)
        have hs4 := hg4.size
        have hl4 := hide ho4.out.len
        clear hg4 ho3 hr3 hb3 hr4
        go_wp2_with (at_builtin; refine wpList_app _ rfl _ _ 23 rfl i0 Try.underlying23 hi hz0 hz1 hz2 _ _ rfl (ho4.out.alloc _) _ 1 1 _ [y - 1] rfl (ints_lit1 (wf_i64 (by omega))) (by simp; omega) (by have := hl4.out; omega) ?_; intro A₃ n₃ c₃ w5 ho5 hg5)
        have hn5 : n₃ ≤ 7 := by have h1 := ho5.len; have := hl4.out; simp at h1; omega
        have hb5 := hide ((hb4.out.alloc hb4.out.size (.cells #[.int .i64 (y - 1)] 3)).grown hg5 (by have := hb4.out.size; simp; omega) (fun j hj => by have := (ho4.out.row.lt j hj).1; omega))
        have ho5 := hide ho5
        go_wp2_with fail
        go_ret
        exact ⟨_, _, _, _, rfl, ho5.out.ints, by omega, hb5.out⟩

theorem DrawMatchesOf_c (A : Option Addr) (n c : Nat) (bs : List Int) (w : World) (h : Bts w w.heap.size A n c bs) :
    Calls Try.prog 17 #[.slice A n c] w fun e w' => ∃ A1 n1 c1 zs1, e = .returned (.slice A1 n1 c1) ∧ Ints w' w'.heap.size A1 n1 c1 zs1 ∧ n1 ≤ 10 ∧ Below w.heap.size w w' := by
  have HD := hide (DrawHatsOk_c A n c bs w h)
  go_enter Try.func17, Try.ntmps17
  go_wp2_with fail
  refine HD.out.mono ?_
  rintro e w1 ⟨A1, n1, c1, zs1, rfl, hz, hn, hb⟩
  go_wp2_with fail
  go_ret
  exact ⟨_, _, _, _, rfl, hz, hn, hb⟩
theorem DrawOneRound_c (A : Option Addr) (n c : Nat) (bs : List Int) (w : World) (h : Bts w w.heap.size A n c bs) :
    Calls Try.prog 29 #[.slice A n c] w fun e w' => ∃ A1 n1 c1 zs1, e = .returned (.slice A1 n1 c1) ∧ Ints w' w'.heap.size A1 n1 c1 zs1 ∧ n1 ≤ 10 ∧ Below w.heap.size w w' := by
  have HD := hide (DrawHatsOk_c A n c bs w h)
  go_enter Try.func29, Try.ntmps29
  go_wp2_with fail
  refine HD.out.mono ?_
  rintro e w1 ⟨A1, n1, c1, zs1, rfl, hz, hn, hb⟩
  go_wp2_with fail
  go_ret
  exact ⟨_, _, _, _, rfl, hz, hn, hb⟩

set_option maxHeartbeats 1000000 in
theorem DrawUnmatchedOrders_c (A : Option Addr) (n c : Nat) (bs : List Int) (w : World) (h : Bts w w.heap.size A n c bs) :
    Calls Try.prog 21 #[.slice A n c] w fun e w' => ∃ k1 : Int, e = .returned (.int .i64 k1) ∧ -100 ≤ k1 ∧ k1 ≤ 100 ∧ Below w.heap.size w w' := by
  have HO := hide (open_c A n c bs w h)
  go_enter Try.func21, Try.ntmps21
  go_wp2_with fail
  refine HO.out.mono ?_
  rintro e w1 ⟨g, rfl, hr1, hg, hb1⟩
  have hgl := hr1.lt
  have hr1 := hide hr1
  have hb1 := hide hb1
  clear HO
  go_wp2_with fail
  refine (pick_c g _ 9 _ hr1.out (by omega) (by omega) (by omega)).mono ?_
  rintro e w2 ⟨x2, rfl, hx2a, hx2b, hr2, hg2⟩
  have hb2 := hide (hb1.out.grown hg2 hb1.out.size (fun k hk => by injection hk with hk; omega))
  have hs2 := hg2.size
  have hr2 := hide hr2
  clear hg2 hb1 hr1
  go_wp2_with fail
  go_ret
  exact ⟨_, rfl, by omega, by omega, hb2.out⟩

set_option maxHeartbeats 1000000 in
theorem DrawMatchOrders_c (A : Option Addr) (n c : Nat) (bs : List Int) (w : World) (h : Bts w w.heap.size A n c bs) :
    Calls Try.prog 26 #[.slice A n c] w fun e w' => ∃ k1 k2 : Int, e = .returned (.tuple #[.int .i64 k1, .int .i64 k2]) ∧ -100 ≤ k1 ∧ k1 ≤ 100 ∧ -100 ≤ k2 ∧ k2 ≤ 100 ∧ Below w.heap.size w w' := by
  have HO := hide (open_c A n c bs w h)
  go_enter Try.func26, Try.ntmps26
  go_wp2_with fail
  refine HO.out.mono ?_
  rintro e w1 ⟨g, rfl, hr1, hg, hb1⟩
  have hgl := hr1.lt
  have hr1 := hide hr1
  have hb1 := hide hb1
  clear HO
  go_wp2_with fail
  refine (pick_c g _ 7 _ hr1.out (by omega) (by omega) (by omega)).mono ?_
  rintro e w2 ⟨x2, rfl, hx2a, hx2b, hr2, hg2⟩
  have hb2 := hide (hb1.out.grown hg2 hb1.out.size (fun k hk => by injection hk with hk; omega))
  have hs2 := hg2.size
  have hr2 := hide hr2
  clear hg2 hb1 hr1
  go_wp2_with fail
  refine (pick_c g _ 40 _ hr2.out (by omega) (by omega) (by omega)).mono ?_
  rintro e w3 ⟨x3, rfl, hx3a, hx3b, hr3, hg3⟩
  have hb3 := hide (hb2.out.grown hg3 hb2.out.size (fun k hk => by injection hk with hk; omega))
  have hs3 := hg3.size
  have hr3 := hide hr3
  clear hg3 hb2 hr2
  go_wp2_with fail
  refine (pick_any g _ (x2 + 1) _ hr3.out (by omega) (by omega)).mono ?_
  rintro e w4 ⟨x4, rfl, hx4a, hx4b, hr4, hg4⟩
  have hb4 := hide (hb3.out.grown hg4 hb3.out.size (fun k hk => by injection hk with hk; omega))
  have hs4 := hg4.size
  have hr4 := hide hr4
  clear hg4 hb3 hr3
  go_wp2_with fail
  refine (pick_c g _ 40 _ hr4.out (by omega) (by omega) (by omega)).mono ?_
  rintro e w5 ⟨x5, rfl, hx5a, hx5b, hr5, hg5⟩
  have hb5 := hide (hb4.out.grown hg5 hb4.out.size (fun k hk => by injection hk with hk; omega))
  have hs5 := hg5.size
  have hr5 := hide hr5
  clear hg5 hb4 hr4
  go_wp2_with fail
  go_ret2
  exact ⟨_, _, rfl, by omega, by omega, by omega, by omega, hb5.out⟩
end Go.Proofs.Ytdejlalodjhlbaa
