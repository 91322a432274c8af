/-
  The drawn words and counts: spec.l20Word, spec.l20Counts.
-/
import Derived.Test.YtaocbiocpklbmaaDrawUrn
namespace Go.Proofs.Ytaocbiocpklbmaa
open Go.RowKit

set_option maxHeartbeats 2000000 in
theorem word_c (g m : Nat) (cl q : Int) (w : World) (h : Rd w g m) (hm : m ≤ 10000) (hc : cl ≤ 1000) (hq : 1 ≤ q) (hq2 : q ≤ 1000000) :
    Calls Try.prog 58 #[.pointer (some ⟨g, 0, none⟩), .int .i64 cl, .int .i64 q] w fun e w' => ∃ A n c zs, e = .returned (.slice A n c) ∧ Own w' w.heap.size (.slice A n c) zs ∧ n ≤ 8 ∧ Rd w' g (m + 20) ∧ w.grownBy w' (some g) := by
  have hgl := h.lt
  obtain ⟨i0, hi, hz0, hz1, hz2⟩ := info_parts infoInt
  have HR0 := hide (h.kept (World.grownBy_alloc w (.cells #[] 3) none) (fun _ e => by cases e))
  go_enter Try.func58, Try.ntmps58
  go_wp2_with fail
  refine (pick_c g m 5 _ HR0.out (by omega) (by omega) (by omega)).mono ?_
  rintro e w1 ⟨x, rfl, hx0, hx1, hr1, hg1⟩
  have hgr1 := hide (show w.grownBy w1 (some g) from grown_new (grown_alloc (World.grownBy.refl w (some g)) _) hg1 (fun _ _ => .inr rfl))
  have ho1 := hide ((own_empty (w := w) (Nat.le_refl _)).past hg1 hgl)
  have hr1 := hide hr1
  clear hg1 HR0 h
  obtain ⟨y, hy⟩ : ∃ y : Nat, x = (y : Int) := ⟨x.toNat, by omega⟩
  subst hy
  go_wp2_with fail
  go_loopw [7, 8] (fun v i wr => ∃ k : Nat, ∃ A n c zs, i = .int .i64 k ∧ v = .slice A n c ∧ n + k ≤ 4 ∧ Hid (Own wr w.heap.size (.slice A n c) zs) ∧ Hid (Rd wr g (m + 1 + n)) ∧ Hid (w.grownBy wr (some g))) (fun _ i _ => (intOf i).toNat)
  case atStart => exact ⟨y, _, _, _, _, rfl, rfl, by omega, ho1, hr1, hgr1⟩
  case round =>
    clear ho1 hr1 hgr1
    obtain ⟨k, A, n, c, zs, rfl, rfl, hnk, ho, hr, hgr⟩ := hrel
    by_cases hk : 0 < k
    · have hgs := hgr.out.size
      obtain ⟨mx, hmx, hmx1, hmx2⟩ : ∃ mx : Int, Hid (max cl 1 = mx) ∧ 1 ≤ mx ∧ mx ≤ 1000 := ⟨_, hide rfl, by omega, by omega⟩
      have HP := hide (pick_c g _ mx _ hr.out (by omega) (by omega) (by omega))
      by_cases hcl : 1 ≤ cl
      · have hmc : mx = cl := by have := hmx.out; omega
        subst hmc
        go_wp2_with fail
        refine HP.out.mono ?_
        rintro e w2 ⟨y, rfl, hy0, hy1, hr2, hg2⟩
        have hgs2 := hg2.size
        have ho2 := hide (ho.out.past hg2 hgl)
        have hr2 := hide hr2
        have hgr2 := hide (grown_new hgr.out hg2 (fun _ _ => .inr rfl))
        have hl2 := hide ho2.out.len
        clear hg2 ho hr hgr HP
        go_wp2_with (at_builtin; refine wpList_app _ rfl _ _ 23 rfl i0 Try.underlying23 hi hz0 hz1 hz2 _ _ rfl (ho2.out.alloc _) _ 1 1 _ [y] rfl (ints_lit1 (wf_i64 (by omega))) (by simp; omega) (by have := hl2.out; omega) ?_; intro A₃ n₃ c₃ w3 ho3 hg3)
        have hn3 := ho3.len
        rw [List.length_append] at hn3
        have hn4 : n₃ = n + 1 := by have := hl2.out; simp at hn3; omega
        have hr3 := hide (show Rd w3 g (m + 1 + n₃) from ((hr2.out.kept (World.grownBy_alloc _ (.cells #[.int .i64 y] 3) none) (fun _ e => by cases e)).kept hg3 (fun j hj => by have := (ho2.out.row.lt j hj).1; omega)).more (by omega))
        have hgr3 := hide (grown_new (grown_alloc hgr2.out _) hg3 (fun j hj => .inl (ho2.out.row.lt j hj).1))
        have ho3 := hide ho3
        clear hn3 hg3 hr2 ho2 hgr2
        go_wp2
        go_roundw
        case rel => exact ⟨k - 1, A₃, n₃, c₃, _, by go_num, rfl, by omega, ho3, hr3, hgr3⟩
        case measure => simp [intOf]; omega
      · have hmc : mx = 1 := by have := hmx.out; omega
        subst hmc
        go_wp2_with fail
        refine HP.out.mono ?_
        rintro e w2 ⟨y, rfl, hy0, hy1, hr2, hg2⟩
        have hgs2 := hg2.size
        have ho2 := hide (ho.out.past hg2 hgl)
        have hr2 := hide hr2
        have hgr2 := hide (grown_new hgr.out hg2 (fun _ _ => .inr rfl))
        have hl2 := hide ho2.out.len
        clear hg2 ho hr hgr HP
        go_wp2_with (at_builtin; refine wpList_app _ rfl _ _ 23 rfl i0 Try.underlying23 hi hz0 hz1 hz2 _ _ rfl (ho2.out.alloc _) _ 1 1 _ [y] rfl (ints_lit1 (wf_i64 (by omega))) (by simp; omega) (by have := hl2.out; omega) ?_; intro A₃ n₃ c₃ w3 ho3 hg3)
        have hn3 := ho3.len
        rw [List.length_append] at hn3
        have hn4 : n₃ = n + 1 := by have := hl2.out; simp at hn3; omega
        have hr3 := hide (show Rd w3 g (m + 1 + n₃) from ((hr2.out.kept (World.grownBy_alloc _ (.cells #[.int .i64 y] 3) none) (fun _ e => by cases e)).kept hg3 (fun j hj => by have := (ho2.out.row.lt j hj).1; omega)).more (by omega))
        have hgr3 := hide (grown_new (grown_alloc hgr2.out _) hg3 (fun j hj => .inl (ho2.out.row.lt j hj).1))
        have ho3 := hide ho3
        clear hn3 hg3 hr2 ho2 hgr2
        go_wp2
        go_roundw
        case rel => exact ⟨k - 1, A₃, n₃, c₃, _, by go_num, rfl, by omega, ho3, hr3, hgr3⟩
        case measure => simp [intOf]; omega
    · obtain rfl : k = 0 := by omega
      have hl0 := hide ho.out.len
      go_wp2_with fail
      refine (odd_c g _ q _ hr.out (by omega) hq hq2).mono ?_
      rintro e w2 ⟨b, rfl, hr2, hg2⟩
      have ho2 := hide (ho.out.past hg2 hgl)
      have hr2 := hide hr2
      have hgr2 := hide (grown_new hgr.out hg2 (fun _ _ => .inr rfl))
      clear hg2 ho hr hgr
      cases b with
      | false =>
        go_wp2_with fail
        go_ret
        exact ⟨A, n, c, zs, rfl, ho2.out, by omega, hr2.out.more (by omega), hgr2.out⟩
      | true =>
        go_wp2_with fail
        refine (pick_c g _ 2 _ hr2.out (by omega) (by omega) (by omega)).mono ?_
        rintro e w3 ⟨y, rfl, hy0, hy1, hr3, hg3⟩
        have ho3 := hide (ho2.out.past hg3 hgl)
        have hr3 := hide hr3
        have hgr3 := hide (grown_new hgr2.out hg3 (fun _ _ => .inr rfl))
        clear hg3 ho2 hr2 hgr2
        have hs3 := hgr3.out.size
        rcases (show y = 0 ∨ y = 1 by omega) with h | h
        · subst h
          go_wp2_with (at_builtin; refine wpList_app _ rfl _ _ 23 rfl i0 Try.underlying23 hi hz0 hz1 hz2 _ _ rfl (ho3.out.alloc _) _ 1 1 _ [3] rfl (ints_lit1 (wf_i64 (by omega))) (by simp; omega) (by have := hl0.out; omega) ?_; intro A₃ n₃ c₃ w4 ho4 hg4)
          have hn4 : n₃ = n + 1 := by have h1 := ho4.len; rw [List.length_append] at h1; have := hl0.out; simp at h1; omega
          have hr4 := hide (((hr3.out.kept (World.grownBy_alloc _ (.cells #[.int .i64 3] 3) none) (fun _ e => by cases e)).kept hg4 (fun j hj => by have := (ho3.out.row.lt j hj).1; omega)).more (m' := m + 20) (by omega))
          have hgr4 := hide (grown_new (grown_alloc hgr3.out _) hg4 (fun j hj => .inl (ho3.out.row.lt j hj).1))
          go_ret
          exact ⟨A₃, n₃, c₃, _, rfl, ho4, by omega, hr4.out, hgr4.out⟩
        · subst h
          go_wp2_with fail
          go_ret
          refine ⟨_, _, _, [0, 0, 0, 0, 0, 0, 0], rfl, (ints_lit [0, 0, 0, 0, 0, 0, 0] ?_ (by decide) rfl).down hs3, by omega, (hr3.out.kept (World.grownBy_alloc _ _ none) (fun _ e => by cases e)).more (by omega), grown_alloc hgr3.out _⟩
          intro x hx
          simp at hx
          subst hx
          decide

set_option maxHeartbeats 2000000 in
theorem cnts_c (g m : Nat) (cl : Int) (w : World) (h : Rd w g m) (hm : m ≤ 10000) (hc0 : 0 ≤ cl) (hc : cl ≤ 8) :
    Calls Try.prog 61 #[.pointer (some ⟨g, 0, none⟩), .int .i64 cl] w fun e w' => ∃ A n c zs, e = .returned (.slice A n c) ∧ Own w' w.heap.size (.slice A n c) zs ∧ n ≤ 10 ∧ Rd w' g (m + 60) ∧ w.grownBy w' (some g) := by
  have hgl := h.lt
  obtain ⟨i0, hi, hz0, hz1, hz2⟩ := info_parts infoInt
  have hr0 := hide (h.kept (World.grownBy_alloc w (.cells #[] 3) none) (fun _ e => by cases e))
  have hgr0 := hide (show w.grownBy (w.alloc (.cells #[] 3)) (some g) from grown_alloc (World.grownBy.refl w (some g)) _)
  have ho0 := hide (own_empty (w := w) (Nat.le_refl _))
  go_enter Try.func61, Try.ntmps61
  go_wp2_with fail
  go_loopw [5, 6] (fun v i wr => ∃ k : Nat, ∃ A c zs, i = .int .i64 k ∧ v = .slice A k c ∧ k ≤ 9 ∧ Hid (Own wr w.heap.size (.slice A k c) zs) ∧ Hid (Rd wr g (m + 4 * k)) ∧ Hid (w.grownBy wr (some g))) (fun _ i _ => 10 - (intOf i).toNat)
  case atStart => exact ⟨0, _, _, _, rfl, rfl, by omega, ho0, hr0, hgr0⟩
  case round =>
    clear ho0 hr0 hgr0 h
    obtain ⟨k, A, c, zs, rfl, rfl, hk9, ho, hr, hgr⟩ := hrel
    have hgs := hgr.out.size
    go_wp2_with fail
    refine (pick_c g _ 30 _ hr.out (by omega) (by omega) (by omega)).mono ?_
    rintro e w2 ⟨x, rfl, hx0, hx1, hr2, hg2⟩
    have ho2 := hide (ho.out.past hg2 hgl)
    have hgs2 := hg2.size
    have hgr2 := hide (grown_new hgr.out hg2 (fun _ _ => .inr rfl))
    have hr2 := hide hr2
    clear hg2 ho hr hgr
    have hl2 := hide ho2.out.len
    by_cases hlt : (k : Int) < cl + x / 29
    · go_wp2_with fail
      refine (pick_c g _ 3 _ hr2.out (by omega) (by omega) (by omega)).mono ?_
      rintro e w3 ⟨y, rfl, hy0, hy1, hr3, hg3⟩
      have ho3 := hide (ho2.out.past hg3 hgl)
      have hgs3 := hg3.size
      have hgr3 := hide (grown_new hgr2.out hg3 (fun _ _ => .inr rfl))
      have hr3 := hide hr3
      clear hg3 ho2 hr2 hgr2
      go_wp2_with fail
      refine (pick_c g _ 12 _ hr3.out (by omega) (by omega) (by omega)).mono ?_
      rintro e w4 ⟨z, rfl, hz0', hz1', hr4, hg4⟩
      have ho4 := hide (ho3.out.past hg4 hgl)
      have hgs4 := hg4.size
      have hgr4 := hide (grown_new hgr3.out hg4 (fun _ _ => .inr rfl))
      have hr4 := hide hr4
      clear hg4 ho3 hr3 hgr3
      go_wp2_with fail
      refine (pick_c g _ 60 _ hr4.out (by omega) (by omega) (by omega)).mono ?_
      rintro e w5 ⟨u, rfl, hu0, hu1, hr5, hg5⟩
      have ho5 := hide (ho4.out.past hg5 hgl)
      have hgs5 := hg5.size
      have hgr5 := hide (grown_new hgr4.out hg5 (fun _ _ => .inr rfl))
      have hr5 := hide hr5
      clear hg5 ho4 hr4 hgr4
      have hyz : -100 ≤ y + z / 11 * 3 - u / 59 * 3 ∧ y + z / 11 * 3 - u / 59 * 3 ≤ 100 := by omega
      obtain ⟨p, hp⟩ : ∃ p, p = y + z / 11 * 3 - u / 59 * 3 := ⟨_, rfl⟩
      rw [← hp] at hyz
      go_wp2_with (at_builtin; rw [← hp]; refine wpList_app _ rfl _ _ 23 rfl i0 Try.underlying23 hi hz0 hz1 hz2 _ _ rfl (ho5.out.alloc _) _ 1 1 _ [p] rfl (ints_lit1 (wf_i64 (by omega))) (by simp; omega) (by have := hl2.out; omega) ?_; intro A₃ n₃ c₃ w6 ho6 hg6)
      have hn6 : n₃ = k + 1 := by have h1 := ho6.len; rw [List.length_append] at h1; have := hl2.out; simp at h1; omega
      subst hn6
      have hr6 := hide (((hr5.out.kept (World.grownBy_alloc _ (.cells #[.int .i64 p] 3) none) (fun _ e => by cases e)).kept hg6 (fun j hj => by have := (ho5.out.row.lt j hj).1; omega)).more (m' := m + 4 * (k + 1)) (by omega))
      have hgr6 := hide (grown_new (grown_alloc hgr5.out _) hg6 (fun j hj => .inl (ho5.out.row.lt j hj).1))
      have ho6 := hide ho6
      clear hp hg6 ho5 hr5 hgr5
      go_wp2
      go_roundw
      case rel => exact ⟨k + 1, _, _, _, by go_num, rfl, by omega, ho6, hr6, hgr6⟩
      case measure => simp [intOf]; omega
    · go_wp2_with fail
      go_ret
      exact ⟨_, _, _, _, rfl, ho2.out, by omega, hr2.out.more (by omega), hgr2.out⟩

set_option maxHeartbeats 1000000 in
theorem drawn_c (g m : Nat) (w : World) (h : Rd w g m) (hm : m ≤ 5000) :
    Calls Try.prog 34 #[.pointer (some ⟨g, 0, none⟩)] w fun e w' => ∃ A n c zs A' n' c' ws, e = .returned (.tuple #[.slice A n c, .slice A' n' c']) ∧ Own w' w.heap.size (.slice A n c) zs ∧ Own w' w.heap.size (.slice A' n' c') ws ∧ n ≤ 8 ∧ n' ≤ 8 ∧ Rd w' g (m + 40) ∧ w.grownBy w' (some g) := by
  have hgl := h.lt
  have h := hide h
  go_enter Try.func34, Try.ntmps34
  go_wp2_with fail
  refine (urn_c g m 14 _ h.out (by omega) (by omega) (by omega)).mono ?_
  rintro e w1 ⟨A, n, c, zs, rfl, ho, hn, hr, hg⟩
  have hs1 := hg.size
  have ho := hide ho
  have hr := hide hr
  have hg := hide hg
  clear h
  go_wp2_with fail
  refine (word_c g _ (n : Int) 14 _ hr.out (by omega) (by omega) (by omega) (by omega)).mono ?_
  rintro e w2 ⟨A', n', c', ws, rfl, ho', hn', hr', hg'⟩
  have ho2 := hide (ho.out.past hg' hgl)
  have hg2 := hide (grown_new hg.out hg' (fun _ _ => .inr rfl))
  have ho' := hide (ho'.down hs1)
  have hr' := hide hr'
  clear hg' hg ho hr
  go_wp2_with fail
  go_ret2
  exact ⟨_, _, _, zs, _, _, _, ws, rfl, ho2.out, ho'.out, hn, hn', hr'.out.more (by omega), hg2.out⟩

end Go.Proofs.Ytaocbiocpklbmaa
