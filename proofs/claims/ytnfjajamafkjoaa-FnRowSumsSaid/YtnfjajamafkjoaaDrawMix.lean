/-
  The drawn rows of chapter 12: spec.l20Mix and the draws that use it (written by wip/gen_a7.py).
-/
import Derived.Test.YtnfjajamafkjoaaDrawCh11
namespace Go.Proofs.Ytnfjajamafkjoaa
open Go.RowKit
set_option linter.unusedVariables false

set_option maxRecDepth 100000 in
set_option maxHeartbeats 2000000 in
theorem mix_c (g m L : Nat) (q : Int) (w : World) (h : Rd w g m) (hm : m ≤ 10000) (hL : L ≤ 20) (hq : 1 ≤ q) (hq2 : q ≤ 1000000) :
    Calls Try.prog 49 #[.pointer (some ⟨g, 0, none⟩), .int .i64 (L : Int), .int .i64 q] w fun e w' => ∃ A n c zs, e = .returned (.slice A n c) ∧ Own w' w.heap.size (.slice A n c) zs ∧ n ≤ 30 ∧ Rd w' g (m + 100) ∧ w.grownBy w' (some g) := by
  have hgl := h.lt
  obtain ⟨i0, hi, hz0, hz1, hz2⟩ := info_parts infoInt
  have hr0 := hide (h.kept (World.grownBy_alloc w (.cells #[] 3) none) (fun _ e => by cases e))
  have ho0 := hide (own_empty (w := w) (base := w.heap.size) (Nat.le_refl _))
  have hg0 := hide (grown_alloc (World.grownBy.refl w (some g)) (.cells #[] 3))
  clear h
  go_enter Try.func49, Try.ntmps49
  go_wp2
  go_loopw [7, 8] (fun v i wr => ∃ k : Nat, ∃ A c zs, k ≤ L ∧ i = .int .i64 k ∧ v = .slice A k c ∧ Hid (Own wr w.heap.size (.slice A k c) zs) ∧ Hid (Rd wr g (m + 2 * k)) ∧ Hid (w.grownBy wr (some g))) (fun _ i _ => L - (intOf i).toNat)
  case atStart => exact ⟨0, _, _, _, Nat.zero_le _, rfl, rfl, ho0, hr0, hg0⟩
  case round =>
    clear ho0 hr0 hg0
    obtain ⟨k, A, c, zs, hk, rfl, rfl, ho, hr, hgr⟩ := hrel
    have hgs := hgr.out.size
    by_cases hlt : k < L
    · go_wp2_with fail
      refine (pick_c g _ 8 _ hr.out (by omega) (by omega) (by omega)).mono ?_
      rintro e w1 ⟨x, rfl, hx0, hx1, hr1, hg1⟩
      have ho1 := hide (ho.out.past hg1 hgl)
      have hgr1 := hide (grown_new hgr.out hg1 (fun _ _ => .inr rfl))
      have hr1 := hide hr1
      clear hg1 ho hr hgr
      go_wp2_with fail
      refine (pick_c g _ 14 _ hr1.out (by omega) (by omega) (by omega)).mono ?_
      rintro e w2 ⟨y, rfl, hy0, hy1, hr2, hg2⟩
      have ho2 := hide (ho1.out.past hg2 hgl)
      have hgr2 := hide (grown_new hgr1.out hg2 (fun _ _ => .inr rfl))
      have hr2 := hide hr2
      have hgs2 := hgr2.out.size
      have hl2 := hide ho2.out.len
      clear hg2 ho1 hr1 hgr1
      go_wp2_with (at_builtin; refine wpList_app _ rfl _ _ 22 rfl i0 Try.underlying22 hi hz0 hz1 hz2 _ _ rfl (ho2.out.alloc _) _ 1 1 _ [x + y / 13 * 90] rfl (ints_lit1 (wf_i64 (by omega))) (by simp <;> omega) (by have := hl2.out; omega) ?_; intro A₃ n₃ c₃ w3 ho3 hg3)
      have hn3 : n₃ = k + 1 := by have e := ho3.len; rw [List.length_append, ← hl2.out] at e; simpa using e
      subst hn3
      have hr3 := hide (show Rd w3 g (m + 2 * (k + 1)) from ((hr2.out.kept (World.grownBy_alloc _ (.cells #[.int .i64 (x + y / 13 * 90)] 3) none) (fun _ e => by cases e)).kept hg3 (fun j hj => by have := (ho2.out.row.lt j hj).1; omega)).more (by omega))
      have hgr3 := hide (grown_new (grown_alloc hgr2.out _) hg3 (fun j hj => .inl (ho2.out.row.lt j hj).1))
      have ho3 := hide ho3
      clear hg3 hr2 ho2 hgr2
      go_wp2
      go_roundw
      case rel => exact ⟨k + 1, A₃, c₃, _, by omega, by go_num, rfl, ho3, hr3, hgr3⟩
      case measure => simp [intOf]; omega
    · obtain rfl : k = L := by omega
      have hlk := hide ho.out.len
      go_wp2_with fail
      refine (odd_c g _ q _ hr.out (by omega) hq hq2).mono ?_
      rintro e w1 ⟨b, rfl, hr1, hg1⟩
      have ho1 := hide (ho.out.past hg1 hgl)
      have hgr1 := hide (grown_new hgr.out hg1 (fun _ _ => .inr rfl))
      have hr1 := hide hr1
      have hgs1 := hgr1.out.size
      clear hg1 ho hr hgr
      cases b with
      | false =>
        go_wp2_with fail
        go_ret
        exact ⟨_, _, _, _, rfl, ho1.out, by omega, hr1.out.more (by omega), hgr1.out⟩
      | true =>
        go_wp2_with fail
        refine (pick_c g _ 2 _ hr1.out (by omega) (by omega) (by omega)).mono ?_
        rintro e w2 ⟨y, rfl, hy0, hy1, hr2, hg2⟩
        have ho2 := hide (ho1.out.past hg2 hgl)
        have hgr2 := hide (grown_new hgr1.out hg2 (fun _ _ => .inr rfl))
        have hr2 := hide hr2
        have hgs2 := hgr2.out.size
        clear hg2 ho1 hr1 hgr1
        rcases (show y = 0 ∨ y = 1 by omega) with rfl | rfl
        · go_wp2_with fail
          go_ret
          exact ⟨_, _, _, _, rfl, own_empty hgs2, by omega, (hr2.out.kept (World.grownBy_alloc _ (.cells #[] 3) none) (fun _ e => by cases e)).more (by omega), grown_alloc hgr2.out _⟩
        · go_wp2_with (at_builtin; refine wpList_app _ rfl _ _ 22 rfl i0 Try.underlying22 hi hz0 hz1 hz2 _ _ rfl (ho2.out.alloc _) _ 1 1 _ [100001] rfl (ints_lit1 (wf_i64 (by omega))) (by simp <;> omega) (by have := hlk.out; omega) ?_; intro A₃ n₃ c₃ w3 ho3 hg3)
          have hn3 : n₃ = k + 1 := by have e := ho3.len; rw [List.length_append, ← hlk.out] at e; simpa using e
          have hr3 := hide (show Rd w3 g (m + 100) from ((hr2.out.kept (World.grownBy_alloc _ (.cells #[.int .i64 100001] 3) none) (fun _ e => by cases e)).kept hg3 (fun j hj => by have := (ho2.out.row.lt j hj).1; omega)).more (by omega))
          have hgr3 := hide (grown_new (grown_alloc hgr2.out _) hg3 (fun j hj => .inl (ho2.out.row.lt j hj).1))
          go_wp2_with fail
          go_ret
          exact ⟨_, _, _, _, rfl, ho3, by omega, hr3.out, hgr3.out⟩

set_option maxHeartbeats 1000000 in
theorem DrawMixOk_c (A : Option Addr) (n c : Nat) (bs : List Int) (w : World) (h : Bts w w.heap.size A n c bs) :
    Calls Try.prog 28 #[.slice A n c] w fun e w' => ∃ A1 n1 c1 zs1, e = .returned (.slice A1 n1 c1) ∧ Ints w' w'.heap.size A1 n1 c1 zs1 ∧ n1 ≤ 30 ∧ Below w.heap.size w w' := by
  have HO := hide (open_c A n c bs w h)
  go_enter Try.func28, Try.ntmps28
  go_wp2_with fail
  refine HO.out.mono ?_
  rintro e w1 ⟨g, rfl, hr1, hg, hb1⟩
  have hgl := hr1.lt
  have hr1 := hide hr1
  have hb1 := hide hb1
  clear HO
  go_wp2_with fail
  refine (pick_c g _ 10 _ hr1.out (by omega) (by omega) (by omega)).mono ?_
  rintro e w2 ⟨x2, rfl, hx2a, hx2b, hr2, hg2⟩
  have hb2 := hide (hb1.out.grown hg2 hb1.out.size (fun k hk => by injection hk with hk; omega))
  have hs2 := hg2.size
  have hr2 := hide hr2
  clear hg2 hb1 hr1
  obtain ⟨L, hL⟩ : ∃ L : Nat, 1 + x2 = (L : Int) := ⟨(1 + x2).toNat, by omega⟩
  have HM := mix_c g _ L 3 w2 hr2.out (by omega) (by omega) (by omega) (by omega)
  rw [← hL] at HM
  replace HM := hide HM
  replace hL := hide hL
  go_wp2_with fail
  refine (HM.out).mono ?_
  rintro e w3 ⟨A'1, n'1, c'1, zs'1, rfl, ho1, hn1, hr3, hg3⟩
  have hb3 := hide (hb2.out.grown hg3 hb2.out.size (fun k hk => by injection hk with hk; omega))
  have hs3 := hg3.size
  have ho1 := hide ho1
  have hr3 := hide hr3
  clear hg3 hb2 hr2
  go_wp2_with fail
  go_ret
  exact ⟨_, _, _, _, rfl, ho1.out.ints, by omega, hb3.out⟩

set_option maxHeartbeats 1000000 in
theorem DrawRowSums_c (A : Option Addr) (n c : Nat) (bs : List Int) (w : World) (h : Bts w w.heap.size A n c bs) :
    Calls Try.prog 32 #[.slice A n c] w fun e w' => ∃ A1 n1 c1 zs1, e = .returned (.slice A1 n1 c1) ∧ Ints w' w'.heap.size A1 n1 c1 zs1 ∧ n1 ≤ 30 ∧ Below w.heap.size w w' := by
  have HO := hide (open_c A n c bs w h)
  go_enter Try.func32, Try.ntmps32
  go_wp2_with fail
  refine HO.out.mono ?_
  rintro e w1 ⟨g, rfl, hr1, hg, hb1⟩
  have hgl := hr1.lt
  have hr1 := hide hr1
  have hb1 := hide hb1
  clear HO
  go_wp2_with fail
  refine (pick_c g _ 9 _ hr1.out (by omega) (by omega) (by omega)).mono ?_
  rintro e w2 ⟨x2, rfl, hx2a, hx2b, hr2, hg2⟩
  have hb2 := hide (hb1.out.grown hg2 hb1.out.size (fun k hk => by injection hk with hk; omega))
  have hs2 := hg2.size
  have hr2 := hide hr2
  clear hg2 hb1 hr1
  obtain ⟨L, hL⟩ : ∃ L : Nat, 1 + x2 = (L : Int) := ⟨(1 + x2).toNat, by omega⟩
  have HM := mix_c g _ L 9 w2 hr2.out (by omega) (by omega) (by omega) (by omega)
  rw [← hL] at HM
  replace HM := hide HM
  replace hL := hide hL
  go_wp2_with fail
  refine (HM.out).mono ?_
  rintro e w3 ⟨A'1, n'1, c'1, zs'1, rfl, ho1, hn1, hr3, hg3⟩
  have hb3 := hide (hb2.out.grown hg3 hb2.out.size (fun k hk => by injection hk with hk; omega))
  have hs3 := hg3.size
  have ho1 := hide ho1
  have hr3 := hide hr3
  clear hg3 hb2 hr2
  go_wp2_with fail
  go_ret
  exact ⟨_, _, _, _, rfl, ho1.out.ints, by omega, hb3.out⟩

set_option maxHeartbeats 1000000 in
theorem DrawShorterRow_c (A : Option Addr) (n c : Nat) (bs : List Int) (w : World) (h : Bts w w.heap.size A n c bs) :
    Calls Try.prog 35 #[.slice A n c] w fun e w' => ∃ A1 n1 c1 zs1, e = .returned (.slice A1 n1 c1) ∧ Ints w' w'.heap.size A1 n1 c1 zs1 ∧ n1 ≤ 30 ∧ Below w.heap.size w w' := by
  have HO := hide (open_c A n c bs w h)
  go_enter Try.func35, Try.ntmps35
  go_wp2_with fail
  refine HO.out.mono ?_
  rintro e w1 ⟨g, rfl, hr1, hg, hb1⟩
  have hgl := hr1.lt
  have hr1 := hide hr1
  have hb1 := hide hb1
  clear HO
  go_wp2_with fail
  refine (pick_c g _ 9 _ hr1.out (by omega) (by omega) (by omega)).mono ?_
  rintro e w2 ⟨x2, rfl, hx2a, hx2b, hr2, hg2⟩
  have hb2 := hide (hb1.out.grown hg2 hb1.out.size (fun k hk => by injection hk with hk; omega))
  have hs2 := hg2.size
  have hr2 := hide hr2
  clear hg2 hb1 hr1
  obtain ⟨L, hL⟩ : ∃ L : Nat, 1 + x2 = (L : Int) := ⟨(1 + x2).toNat, by omega⟩
  have HM := mix_c g _ L 9 w2 hr2.out (by omega) (by omega) (by omega) (by omega)
  rw [← hL] at HM
  replace HM := hide HM
  replace hL := hide hL
  go_wp2_with fail
  refine (HM.out).mono ?_
  rintro e w3 ⟨A'1, n'1, c'1, zs'1, rfl, ho1, hn1, hr3, hg3⟩
  have hb3 := hide (hb2.out.grown hg3 hb2.out.size (fun k hk => by injection hk with hk; omega))
  have hs3 := hg3.size
  have ho1 := hide ho1
  have hr3 := hide hr3
  clear hg3 hb2 hr2
  go_wp2_with fail
  refine (odd_c g _ 14 _ hr3.out (by omega) (by omega) (by omega)).mono ?_
  rintro e w4 ⟨b, rfl, hr4, hg4⟩
  have hb4 := hide (hb3.out.grown hg4 hb3.out.size (fun k hk => by injection hk with hk; omega))
  have hs4 := hg4.size
  replace ho1 := hide (ho1.out.past hg4 (by omega))
  have hr4 := hide hr4
  clear hg4 hb3 hr3
  cases b with
  | false =>
    go_wp2_with fail
    go_ret
    exact ⟨_, _, _, _, rfl, ho1.out.ints, by omega, hb4.out⟩
  | true =>
    by_cases hn0 : 0 < n'1
    · have hln := ho1.out.len
      obtain ⟨x, hx⟩ : ∃ x, zs'1[0]? = some x := ⟨_, List.getElem?_eq_getElem (by omega)⟩
      obtain ⟨g1, rfl, hgg, hgl1, hcy, hfy⟩ := ho1.out.at2 hx
      have ho2 := hide (show Own (w4.setCell ⟨g1, 0, none⟩ (.int .i64 99999)) w2.heap.size (.slice (some ⟨g1, 0, none⟩) n'1 c'1) (zs'1.set 0 99999) from ho1.out.set_ (k := 0) 99999 (wf_i64 (by omega)))
      have hb5 := hide (hb4.out.setCell (p := ⟨g1, 0, none⟩) (by show w.heap.size ≤ g1; omega) (.int .i64 99999))
      clear hx hln
      go_wp2_with fail
      go_ret
      exact ⟨_, _, _, _, rfl, ho2.out.ints, by omega, hb5.out⟩
    · obtain rfl : n'1 = 0 := by omega
      go_wp2_with fail
      go_ret
      exact ⟨_, _, _, _, rfl, ho1.out.ints, by omega, hb4.out⟩

set_option maxHeartbeats 1000000 in
theorem DrawMixedRow_c (A : Option Addr) (n c : Nat) (bs : List Int) (w : World) (h : Bts w w.heap.size A n c bs) :
    Calls Try.prog 29 #[.slice A n c] w fun e w' => ∃ A1 n1 c1 zs1 A2 n2 c2 zs2, ∃ k1 k2 : Int, e = .returned (.tuple #[.slice A1 n1 c1, .int .i64 k1, .slice A2 n2 c2, .int .i64 k2]) ∧ Ints w' w'.heap.size A1 n1 c1 zs1 ∧ n1 ≤ 30 ∧ Ints w' w'.heap.size A2 n2 c2 zs2 ∧ n2 ≤ 30 ∧ -100 ≤ k1 ∧ k1 ≤ 100 ∧ -100 ≤ k2 ∧ k2 ≤ 100 ∧ Below w.heap.size w w' := by
  have HO := hide (open_c A n c bs w h)
  go_enter Try.func29, Try.ntmps29
  go_wp2_with fail
  refine HO.out.mono ?_
  rintro e w1 ⟨g, rfl, hr1, hg, hb1⟩
  have hgl := hr1.lt
  have hr1 := hide hr1
  have hb1 := hide hb1
  clear HO
  go_wp2_with fail
  refine (pick_c g _ 7 _ hr1.out (by omega) (by omega) (by omega)).mono ?_
  rintro e w2 ⟨x2, rfl, hx2a, hx2b, hr2, hg2⟩
  have hb2 := hide (hb1.out.grown hg2 hb1.out.size (fun k hk => by injection hk with hk; omega))
  have hs2 := hg2.size
  have hr2 := hide hr2
  clear hg2 hb1 hr1
  obtain ⟨L, hL⟩ : ∃ L : Nat, 1 + x2 = (L : Int) := ⟨(1 + x2).toNat, by omega⟩
  have HM := mix_c g _ L 14 w2 hr2.out (by omega) (by omega) (by omega) (by omega)
  rw [← hL] at HM
  replace HM := hide HM
  replace hL := hide hL
  go_wp2_with fail
  refine (HM.out).mono ?_
  rintro e w3 ⟨A'1, n'1, c'1, zs'1, rfl, ho1, hn1, hr3, hg3⟩
  have hb3 := hide (hb2.out.grown hg3 hb2.out.size (fun k hk => by injection hk with hk; omega))
  have hs3 := hg3.size
  have ho1 := hide ho1
  have hr3 := hide hr3
  clear hg3 hb2 hr2
  go_wp2_with fail
  refine (pick_c g _ 5 _ hr3.out (by omega) (by omega) (by omega)).mono ?_
  rintro e w4 ⟨x4, rfl, hx4a, hx4b, hr4, hg4⟩
  have hb4 := hide (hb3.out.grown hg4 hb3.out.size (fun k hk => by injection hk with hk; omega))
  have hs4 := hg4.size
  replace ho1 := hide (ho1.out.past hg4 (by omega))
  have hr4 := hide hr4
  clear hg4 hb3 hr3
  go_wp2_with fail
  refine (pick_c g _ 40 _ hr4.out (by omega) (by omega) (by omega)).mono ?_
  rintro e w5 ⟨x5, rfl, hx5a, hx5b, hr5, hg5⟩
  have hb5 := hide (hb4.out.grown hg5 hb4.out.size (fun k hk => by injection hk with hk; omega))
  have hs5 := hg5.size
  replace ho1 := hide (ho1.out.past hg5 (by omega))
  have hr5 := hide hr5
  clear hg5 hb4 hr4
  go_wp2_with fail
  refine (pick_c g _ 20 _ hr5.out (by omega) (by omega) (by omega)).mono ?_
  rintro e w6 ⟨x6, rfl, hx6a, hx6b, hr6, hg6⟩
  have hb6 := hide (hb5.out.grown hg6 hb5.out.size (fun k hk => by injection hk with hk; omega))
  have hs6 := hg6.size
  replace ho1 := hide (ho1.out.past hg6 (by omega))
  have hr6 := hide hr6
  clear hg6 hb5 hr5
  obtain ⟨L2, hL2⟩ : ∃ L2 : Nat, 1 + x2 + x6 / 19 = (L2 : Int) := ⟨(1 + x2 + x6 / 19).toNat, by omega⟩
  have HM2 := mix_c g _ L2 14 w6 hr6.out (by omega) (by omega) (by omega) (by omega)
  rw [← hL2] at HM2
  replace HM2 := hide HM2
  replace hL2 := hide hL2
  go_wp2_with fail
  refine (HM2.out).mono ?_
  rintro e w7 ⟨A'2, n'2, c'2, zs'2, rfl, ho2, hn2, hr7, hg7⟩
  have hb7 := hide (hb6.out.grown hg7 hb6.out.size (fun k hk => by injection hk with hk; omega))
  have hs7 := hg7.size
  replace ho1 := hide (ho1.out.past hg7 (by omega))
  have ho2 := hide ho2
  have hr7 := hide hr7
  clear hg7 hb6 hr6
  go_wp2_with fail
  refine (pick_c g _ 5 _ hr7.out (by omega) (by omega) (by omega)).mono ?_
  rintro e w8 ⟨x8, rfl, hx8a, hx8b, hr8, hg8⟩
  have hb8 := hide (hb7.out.grown hg8 hb7.out.size (fun k hk => by injection hk with hk; omega))
  have hs8 := hg8.size
  replace ho1 := hide (ho1.out.past hg8 (by omega))
  replace ho2 := hide (ho2.out.past hg8 (by omega))
  have hr8 := hide hr8
  clear hg8 hb7 hr7
  go_wp2_with fail
  (try simp only [Exit.inBlock, Exit.then])
  refine bodyPost_ret (results_tmp4 rfl _ _ _) rfl ?_
  exact ⟨_, _, _, _, _, _, _, _, _, _, rfl, ho1.out.ints, by omega, ho2.out.ints, by omega, by omega, by omega, by omega, by omega, hb8.out⟩

set_option maxHeartbeats 1000000 in
theorem DrawSampleRow_c (A : Option Addr) (n c : Nat) (bs : List Int) (w : World) (h : Bts w w.heap.size A n c bs) :
    Calls Try.prog 33 #[.slice A n c] w fun e w' => ∃ k1 k2 k3 : Int, e = .returned (.tuple #[.int .i64 k1, .int .i64 k2, .int .i64 k3]) ∧ -100 ≤ k1 ∧ k1 ≤ 31 ∧ -100 ≤ k2 ∧ k2 ≤ 12 ∧ -100 ≤ k3 ∧ k3 ≤ 11 ∧ Below w.heap.size w w' := by
  have HO := hide (open_c A n c bs w h)
  go_enter Try.func33, Try.ntmps33
  go_wp2_with fail
  refine HO.out.mono ?_
  rintro e w1 ⟨g, rfl, hr1, hg, hb1⟩
  have hgl := hr1.lt
  have hr1 := hide hr1
  have hb1 := hide hb1
  clear HO
  go_wp2_with fail
  refine (l20Sample_r g _ w1 hr1.out (by omega)).mono ?_
  rintro e w2 ⟨k1, k2, k3, rfl, hl1, hh1, hl2, hh2, hl3, hh3, hr2, hg2⟩
  have hb2 := hide (hb1.out.grown hg2 hb1.out.size (fun k hk => by injection hk with hk; omega))
  have hs2 := hg2.size
  have hr2 := hide hr2
  clear hg2 hb1 hr1
  go_wp2_with fail
  go_ret3
  exact ⟨_, _, _, rfl, by omega, by omega, by omega, by omega, by omega, by omega, hb2.out⟩
end Go.Proofs.Ytnfjajamafkjoaa
