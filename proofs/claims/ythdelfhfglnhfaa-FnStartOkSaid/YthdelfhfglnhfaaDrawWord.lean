/-
  The drawn words and counts: spec.l20Word, spec.l20Counts.
-/
import Derived.Test.YthdelfhfglnhfaaDrawUrn
namespace Go.Proofs.Ythdelfhfglnhfaa
open Go.RowKit

set_option maxHeartbeats 2000000 in
theorem word_c (g m : Nat) (cl q : Int) (w : World) (h : Rd w g m) (hm : m ≤ 10000) (hc : cl ≤ 1000) (hq : 1 ≤ q) (hq2 : q ≤ 1000000) :
    Calls Try.prog 68 #[.pointer (some ⟨g, 0, none⟩), .int .i64 cl, .int .i64 q] w fun e w' => ∃ A n c zs, e = .returned (.slice A n c) ∧ Own w' w.heap.size (.slice A n c) zs ∧ n ≤ 8 ∧ Rd w' g (m + 20) ∧ w.grownBy w' (some g) := by
  have hgl := h.lt
  obtain ⟨i0, hi, hz0, hz1, hz2⟩ := info_parts infoInt
  have HR0 := hide (h.kept (World.grownBy_alloc w (.cells #[] 3) none) (fun _ e => by cases e))
  go_enter Try.func68, Try.ntmps68
  go_wp2_with fail
  refine (pick_c g m 5 _ HR0.out (by omega) (by omega) (by omega)).mono ?_
  rintro e w1 ⟨x, rfl, hx0, hx1, hr1, hg1⟩
  have hgr1 := hide (show w.grownBy w1 (some g) from grown_new (grown_alloc (World.grownBy.refl w (some g)) _) hg1 (fun _ _ => .inr rfl))
  have ho1 := hide ((own_empty (w := w) (Nat.le_refl _)).past hg1 hgl)
  have hr1 := hide hr1
  clear hg1 HR0 h
  obtain ⟨y, hy⟩ : ∃ y : Nat, x = (y : Int) := ⟨x.toNat, by omega⟩
  subst hy
  go_wp2_with fail
  go_loopw [7, 8] (fun v i wr => ∃ k : Nat, ∃ A n c zs, i = .int .i64 k ∧ v = .slice A n c ∧ n + k ≤ 4 ∧ Hid (Own wr w.heap.size (.slice A n c) zs) ∧ Hid (Rd wr g (m + 1 + n)) ∧ Hid (w.grownBy wr (some g))) (fun _ i _ => (intOf i).toNat)
  case atStart => exact ⟨y, _, _, _, _, rfl, rfl, by omega, ho1, hr1, hgr1⟩
  case round =>
    clear ho1 hr1 hgr1
    obtain ⟨k, A, n, c, zs, rfl, rfl, hnk, ho, hr, hgr⟩ := hrel
    by_cases hk : 0 < k
    · have hgs := hgr.out.size
      obtain ⟨mx, hmx, hmx1, hmx2⟩ : ∃ mx : Int, Hid (max cl 1 = mx) ∧ 1 ≤ mx ∧ mx ≤ 1000 := ⟨_, hide rfl, by omega, by omega⟩
      have HP := hide (pick_c g _ mx _ hr.out (by omega) (by omega) (by omega))
      by_cases hcl : 1 ≤ cl
      · have hmc : mx = cl := by have := hmx.out; omega
        subst hmc
        go_wp2_with fail
        refine HP.out.mono ?_
        rintro e w2 ⟨y, rfl, hy0, hy1, hr2, hg2⟩
        have hgs2 := hg2.size
        have ho2 := hide (ho.out.past hg2 hgl)
        have hr2 := hide hr2
        have hgr2 := hide (grown_new hgr.out hg2 (fun _ _ => .inr rfl))
        have hl2 := hide ho2.out.len
        clear hg2 ho hr hgr HP
        go_wp2_with (at_builtin; refine wpList_app _ rfl _ _ 28 rfl i0 Try.underlying28 hi hz0 hz1 hz2 _ _ rfl (ho2.out.alloc _) _ 1 1 _ [y] rfl (ints_lit1 (wf_i64 (by omega))) (by simp; omega) (by have := hl2.out; omega) ?_; intro A₃ n₃ c₃ w3 ho3 hg3)
        have hn3 := ho3.len
        rw [List.length_append] at hn3
        have hn4 : n₃ = n + 1 := by have := hl2.out; simp at hn3; omega
        have hr3 := hide (show Rd w3 g (m + 1 + n₃) from ((hr2.out.kept (World.grownBy_alloc _ (.cells #[.int .i64 y] 3) none) (fun _ e => by cases e)).kept hg3 (fun j hj => by have := (ho2.out.row.lt j hj).1; omega)).more (by omega))
        have hgr3 := hide (grown_new (grown_alloc hgr2.out _) hg3 (fun j hj => .inl (ho2.out.row.lt j hj).1))
        have ho3 := hide ho3
        clear hn3 hg3 hr2 ho2 hgr2
        go_wp2
        go_roundw
        case rel => exact ⟨k - 1, A₃, n₃, c₃, _, by go_num, rfl, by omega, ho3, hr3, hgr3⟩
        case measure => simp [intOf]; omega
      · have hmc : mx = 1 := by have := hmx.out; omega
        subst hmc
        go_wp2_with fail
        refine HP.out.mono ?_
        rintro e w2 ⟨y, rfl, hy0, hy1, hr2, hg2⟩
        have hgs2 := hg2.size
        have ho2 := hide (ho.out.past hg2 hgl)
        have hr2 := hide hr2
        have hgr2 := hide (grown_new hgr.out hg2 (fun _ _ => .inr rfl))
        have hl2 := hide ho2.out.len
        clear hg2 ho hr hgr HP
        go_wp2_with (at_builtin; refine wpList_app _ rfl _ _ 28 rfl i0 Try.underlying28 hi hz0 hz1 hz2 _ _ rfl (ho2.out.alloc _) _ 1 1 _ [y] rfl (ints_lit1 (wf_i64 (by omega))) (by simp; omega) (by have := hl2.out; omega) ?_; intro A₃ n₃ c₃ w3 ho3 hg3)
        have hn3 := ho3.len
        rw [List.length_append] at hn3
        have hn4 : n₃ = n + 1 := by have := hl2.out; simp at hn3; omega
        have hr3 := hide (show Rd w3 g (m + 1 + n₃) from ((hr2.out.kept (World.grownBy_alloc _ (.cells #[.int .i64 y] 3) none) (fun _ e => by cases e)).kept hg3 (fun j hj => by have := (ho2.out.row.lt j hj).1; omega)).more (by omega))
        have hgr3 := hide (grown_new (grown_alloc hgr2.out _) hg3 (fun j hj => .inl (ho2.out.row.lt j hj).1))
        have ho3 := hide ho3
        clear hn3 hg3 hr2 ho2 hgr2
        go_wp2
        go_roundw
        case rel => exact ⟨k - 1, A₃, n₃, c₃, _, by go_num, rfl, by omega, ho3, hr3, hgr3⟩
        case measure => simp [intOf]; omega
    · obtain rfl : k = 0 := by omega
      have hl0 := hide ho.out.len
      go_wp2_with fail
      refine (odd_c g _ q _ hr.out (by omega) hq hq2).mono ?_
      rintro e w2 ⟨b, rfl, hr2, hg2⟩
      have ho2 := hide (ho.out.past hg2 hgl)
      have hr2 := hide hr2
      have hgr2 := hide (grown_new hgr.out hg2 (fun _ _ => .inr rfl))
      clear hg2 ho hr hgr
      cases b with
      | false =>
        go_wp2_with fail
        go_ret
        exact ⟨A, n, c, zs, rfl, ho2.out, by omega, hr2.out.more (by omega), hgr2.out⟩
      | true =>
        go_wp2_with fail
        refine (pick_c g _ 2 _ hr2.out (by omega) (by omega) (by omega)).mono ?_
        rintro e w3 ⟨y, rfl, hy0, hy1, hr3, hg3⟩
        have ho3 := hide (ho2.out.past hg3 hgl)
        have hr3 := hide hr3
        have hgr3 := hide (grown_new hgr2.out hg3 (fun _ _ => .inr rfl))
        clear hg3 ho2 hr2 hgr2
        have hs3 := hgr3.out.size
        rcases (show y = 0 ∨ y = 1 by omega) with h | h
        · subst h
          go_wp2_with (at_builtin; refine wpList_app _ rfl _ _ 28 rfl i0 Try.underlying28 hi hz0 hz1 hz2 _ _ rfl (ho3.out.alloc _) _ 1 1 _ [3] rfl (ints_lit1 (wf_i64 (by omega))) (by simp; omega) (by have := hl0.out; omega) ?_; intro A₃ n₃ c₃ w4 ho4 hg4)
          have hn4 : n₃ = n + 1 := by have h1 := ho4.len; rw [List.length_append] at h1; have := hl0.out; simp at h1; omega
          have hr4 := hide (((hr3.out.kept (World.grownBy_alloc _ (.cells #[.int .i64 3] 3) none) (fun _ e => by cases e)).kept hg4 (fun j hj => by have := (ho3.out.row.lt j hj).1; omega)).more (m' := m + 20) (by omega))
          have hgr4 := hide (grown_new (grown_alloc hgr3.out _) hg4 (fun j hj => .inl (ho3.out.row.lt j hj).1))
          go_ret
          exact ⟨A₃, n₃, c₃, _, rfl, ho4, by omega, hr4.out, hgr4.out⟩
        · subst h
          go_wp2_with fail
          go_ret
          refine ⟨_, _, _, [0, 0, 0, 0, 0, 0, 0], rfl, (ints_lit [0, 0, 0, 0, 0, 0, 0] ?_ (by decide) rfl).down hs3, by omega, (hr3.out.kept (World.grownBy_alloc _ _ none) (fun _ e => by cases e)).more (by omega), grown_alloc hgr3.out _⟩
          intro x hx
          simp at hx
          subst hx
          decide

end Go.Proofs.Ythdelfhfglnhfaa
