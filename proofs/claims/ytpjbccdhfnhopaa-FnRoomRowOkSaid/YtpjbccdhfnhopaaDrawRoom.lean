/-
  The drawn inputs of chapter 7: a number of balls and a row.
-/
import Derived.Test.YtpjbccdhfnhopaaZdraw
import Derived.Test.YtpjbccdhfnhopaaRoomT
namespace Go.Proofs.Ytpjbccdhfnhopaa
open Go.RowKit
set_option linter.unusedVariables false

set_option maxHeartbeats 1000000 in
theorem roomRow_c (g m : Nat) (w : World) (h : Rd w g m) (hm : m ≤ 10000) :
    Calls Try.prog 31 #[.pointer (some ⟨g, 0, none⟩)] w fun e w' => ∃ A n c zs, ∃ b : Int, e = .returned (.tuple #[.int .i64 b, .slice A n c]) ∧ 1 ≤ b ∧ b ≤ 12 ∧ Own w' w.heap.size (.slice A n c) zs ∧ n ≤ 9 ∧ Rd w' g (m + 60) ∧ w.grownBy w' (some g) := by
  have hgl := h.lt
  obtain ⟨i0, hi, hz0, hz1, hz2⟩ := info_parts infoInt
  have h := hide h
  go_enter Try.func31, Try.ntmps31
  go_wp2_with fail
  refine (pick_c g m 6 _ h.out (by omega) (by omega) (by omega)).mono ?_
  rintro e w1 ⟨b, rfl, hb0, hb1, hr1, hg1⟩
  have hgs1 := hg1.size
  have hr0 := hide (hr1.kept (World.grownBy_alloc w1 (.cells #[] 3) none) (fun _ e => by cases e))
  have hgr0 := hide (show w.grownBy (w1.alloc (.cells #[] 3)) (some g) from grown_alloc hg1 _)
  have ho0 := hide (own_empty (w := w1) (base := w.heap.size) hgs1)
  clear hr1 hg1 h
  go_wp2_with fail
  go_loopw [5, 6] (fun v i wr => ∃ k : Nat, ∃ A c zs, i = .int .i64 k ∧ v = .slice A k c ∧ k ≤ 9 ∧ Hid (Own wr w.heap.size (.slice A k c) zs) ∧ Hid (Rd wr g (m + 1 + 3 * k)) ∧ Hid (w.grownBy wr (some g))) (fun _ i _ => 10 - (intOf i).toNat)
  case atStart => exact ⟨0, _, _, _, rfl, rfl, by omega, ho0, hr0, hgr0⟩
  case round =>
    clear ho0 hr0 hgr0
    obtain ⟨k, A, c, zs, rfl, rfl, hk9, ho, hr, hgr⟩ := hrel
    have hgs := hgr.out.size
    go_wp2_with fail
    refine (pick_c g _ 20 _ hr.out (by omega) (by omega) (by omega)).mono ?_
    rintro e w2 ⟨x, rfl, hx0, hx1, hr2, hg2⟩
    have ho2 := hide (ho.out.past hg2 hgl)
    have hgs2 := hg2.size
    have hgr2 := hide (grown_new hgr.out hg2 (fun _ _ => .inr rfl))
    have hr2 := hide hr2
    clear hg2 ho hr hgr
    have hl2 := hide ho2.out.len
    by_cases hlt : (k : Int) ≤ 1 + b + x / 19
    · go_wp2_with fail
      refine (pick_c g _ 9 _ hr2.out (by omega) (by omega) (by omega)).mono ?_
      rintro e w3 ⟨y, rfl, hy0, hy1, hr3, hg3⟩
      have ho3 := hide (ho2.out.past hg3 hgl)
      have hgs3 := hg3.size
      have hgr3 := hide (grown_new hgr2.out hg3 (fun _ _ => .inr rfl))
      have hr3 := hide hr3
      clear hg3 ho2 hr2 hgr2
      go_wp2_with fail
      refine (pick_c g _ 60 _ hr3.out (by omega) (by omega) (by omega)).mono ?_
      rintro e w4 ⟨z, rfl, hz0', hz1', hr4, hg4⟩
      have ho4 := hide (ho3.out.past hg4 hgl)
      have hgs4 := hg4.size
      have hgr4 := hide (grown_new hgr3.out hg4 (fun _ _ => .inr rfl))
      have hr4 := hide hr4
      clear hg4 ho3 hr3 hgr3
      have hyz : -100 ≤ y - z / 59 * 9 ∧ y - z / 59 * 9 ≤ 100 := by omega
      obtain ⟨p, hp⟩ : ∃ p, p = y - z / 59 * 9 := ⟨_, rfl⟩
      rw [← hp] at hyz
      go_wp2_with (at_builtin; rw [← hp]; refine wpList_app _ rfl _ _ 23 rfl i0 Try.underlying23 hi hz0 hz1 hz2 _ _ rfl (ho4.out.alloc _) _ 1 1 _ [p] rfl (ints_lit1 (wf_i64 (by omega))) (by simp; omega) (by have := hl2.out; omega) ?_; intro A₃ n₃ c₃ w6 ho6 hg6)
      have hn6 : n₃ = k + 1 := by have h1 := ho6.len; rw [List.length_append] at h1; have := hl2.out; simp at h1; omega
      subst hn6
      have hr6 := hide (((hr4.out.kept (World.grownBy_alloc _ (.cells #[.int .i64 p] 3) none) (fun _ e => by cases e)).kept hg6 (fun j hj => by have := (ho4.out.row.lt j hj).1; omega)).more (m' := m + 1 + 3 * (k + 1)) (by omega))
      have hgr6 := hide (grown_new (grown_alloc hgr4.out _) hg6 (fun j hj => .inl (ho4.out.row.lt j hj).1))
      have ho6 := hide ho6
      clear hp hg6 ho4 hr4 hgr4
      go_wp2
      go_roundw
      case rel => exact ⟨k + 1, _, _, _, by go_num, rfl, by omega, ho6, hr6, hgr6⟩
      case measure => simp [intOf]; omega
    · go_wp2_with fail
      refine (pick_c g _ 30 _ hr2.out (by omega) (by omega) (by omega)).mono ?_
      rintro e w3 ⟨y, rfl, hy0, hy1, hr3, hg3⟩
      have ho3 := hide (ho2.out.past hg3 hgl)
      have hgr3 := hide (grown_new hgr2.out hg3 (fun _ _ => .inr rfl))
      have hr3 := hide hr3
      clear hg3 ho2 hr2 hgr2
      go_wp2_with fail
      go_ret2
      exact ⟨_, _, _, _, _, rfl, by omega, by omega, ho3.out, by omega, hr3.out.more (by omega), hgr3.out⟩

set_option maxHeartbeats 1000000 in
theorem DrawRoomRowOk_c (A : Option Addr) (n c : Nat) (bs : List Int) (w : World) (h : Bts w w.heap.size A n c bs) :
    Calls Try.prog 11 #[.slice A n c] w fun e w' => ∃ A1 n1 c1 zs1, ∃ k1 : Int, e = .returned (.tuple #[.int .i64 k1, .slice A1 n1 c1]) ∧ Ints w' w'.heap.size A1 n1 c1 zs1 ∧ n1 ≤ 10 ∧ -100 ≤ k1 ∧ k1 ≤ 100 ∧ Below w.heap.size w w' := by
  have HO := hide (open_c A n c bs w h)
  go_enter Try.func11, Try.ntmps11
  go_wp2_with fail
  refine HO.out.mono ?_
  rintro e w1 ⟨g, rfl, hr1, hg, hb1⟩
  have hr1 := hide hr1
  have hb1 := hide hb1
  clear HO
  go_wp2_with fail
  refine (roomRow_c g _ w1 hr1.out (by omega)).mono ?_
  rintro e w2 ⟨A1, n1, c1, zs1, b, rfl, hb0, hb1', ho, hn, hr2, hg2⟩
  have hb2 := hide (hb1.out.grown hg2 hb1.out.size (fun k hk => by injection hk with hk; omega))
  have ho := hide ho
  clear hr2 hg2 hb1
  go_wp2_with fail
  go_ret2
  exact ⟨_, _, _, _, _, rfl, ho.out.ints, by omega, by omega, by omega, hb2.out⟩

set_option maxHeartbeats 1000000 in
theorem DrawRoomStep_c (A : Option Addr) (n c : Nat) (bs : List Int) (w : World) (h : Bts w w.heap.size A n c bs) :
    Calls Try.prog 15 #[.slice A n c] w fun e w' => ∃ A1 n1 c1 zs1, ∃ k1 : Int, e = .returned (.tuple #[.int .i64 k1, .slice A1 n1 c1]) ∧ Ints w' w'.heap.size A1 n1 c1 zs1 ∧ n1 ≤ 10 ∧ -100 ≤ k1 ∧ k1 ≤ 100 ∧ Below w.heap.size w w' := by
  have HO := hide (open_c A n c bs w h)
  go_enter Try.func15, Try.ntmps15
  go_wp2_with fail
  refine HO.out.mono ?_
  rintro e w1 ⟨g, rfl, hr1, hg, hb1⟩
  have hgl := hr1.lt
  have hr1 := hide hr1
  have hb1 := hide hb1
  clear HO
  go_wp2_with fail
  refine (roomRow_c g _ w1 hr1.out (by omega)).mono ?_
  rintro e w2 ⟨A1, n1, c1, zs1, b, rfl, hb0, hb1', ho, hn, hr2, hg2⟩
  have hb2 := hide (hb1.out.grown hg2 hb1.out.size (fun k hk => by injection hk with hk; omega))
  have ho := hide ho
  have hr2 := hide hr2
  clear hg2 hb1 hr1
  go_wp2_with fail
  refine (pick_c g _ 3 _ hr2.out (by omega) (by omega) (by omega)).mono ?_
  rintro e w3 ⟨x, rfl, hx0, hx1, hr3, hg3⟩
  have hb3 := hide (hb2.out.grown hg3 hb2.out.size (fun k hk => by injection hk with hk; omega))
  have ho3 := hide (ho.out.past hg3 hgl)
  clear hr3 hg3 hb2 hr2 ho
  by_cases hx : x = 0
  · subst hx
    go_wp2_with fail
    refine (restRow_spec b w3).mono ?_
    rintro e w4 ⟨A2, n2, c2, rfl, ho4, hq⟩
    have hn2 : n2 ≤ 7 := by have := ho4.len; have := restR_len b; omega
    have hb4 := hide (upB hb3.out hq)
    have ho4 := hide ho4
    clear hq
    go_wp2_with fail
    go_ret2
    exact ⟨_, _, _, _, _, rfl, ho4.out.ints, by omega, by omega, by omega, hb4.out⟩
  · have hne : (x == 0) = false := by simp; omega
    go_wp2_with fail
    go_ret2
    exact ⟨_, _, _, _, _, rfl, ho3.out.ints, by omega, by omega, by omega, hb3.out⟩
end Go.Proofs.Ytpjbccdhfnhopaa
