/-
  The drawn inputs of chapter 1: DrawUrnOk, DrawTotalOf, DrawChanceOf, DrawPutIn, DrawPouredUrn.
-/
import Derived.Test.YthdelfhfglnhfacDrawUrn
namespace Go.Proofs.Ythdelfhfglnhfac
open Go.RowKit

set_option maxHeartbeats 1000000 in
theorem DrawChanceOf_c (A : Option Addr) (n c : Nat) (bs : List Int) (w : World) (h : Bts w w.heap.size A n c bs) :
    Calls Try.prog 6 #[.slice A n c] w fun e w' => ∃ A' n' c' zs, ∃ k : Int, e = .returned (.tuple #[.slice A' n' c', .int .i64 k]) ∧ Ints w' w'.heap.size A' n' c' zs ∧ n' ≤ 8 ∧ -100 ≤ k ∧ k ≤ 100 ∧ Below w.heap.size w w' := by
  have HO := hide (open_c A n c bs w h)
  go_enter Try.func6, Try.ntmps6
  go_wp2_with fail
  refine HO.out.mono ?_
  rintro e w1 ⟨g, rfl, hr, hg, hb⟩
  go_wp2_with fail
  refine (urn_c g 0 12 _ hr (by omega) (by omega) (by omega)).mono ?_
  rintro e w2 ⟨A', n', c', zs, rfl, ho, hn, hr2, hg2⟩
  have hb2 := hide (hb.grown hg2 hb.size (fun k hk => by injection hk with hk; omega))
  have hgl := hr.lt
  have ho := hide ho
  have hr2 := hide hr2
  clear hb hg2 hr HO
  go_wp2_with fail
  refine (pick_any g _ (n' : Int) _ hr2.out (by omega) (by omega)).mono ?_
  rintro e w3 ⟨x, rfl, hx0, hx1, hr3, hg3⟩
  have hb3 := hide (hb2.out.grown hg3 hb2.out.size (fun k hk => by injection hk with hk; omega))
  have ho3 := hide (ho.out.past hg3 hgl)
  have hr3 := hide hr3
  clear hg3 ho hr2 hb2
  go_wp2_with fail
  refine (pick_c g _ 30 _ hr3.out (by omega) (by omega) (by omega)).mono ?_
  rintro e w4 ⟨y, rfl, hy0, hy1, hr4, hg4⟩
  have hb4 := hide (hb3.out.grown hg4 hb3.out.size (fun k hk => by injection hk with hk; omega))
  have ho4 := hide (ho3.out.past hg4 hgl)
  have hr4 := hide hr4
  clear hg4 ho3 hr3 hb3
  go_wp2_with fail
  refine (pick_c g _ 40 _ hr4.out (by omega) (by omega) (by omega)).mono ?_
  rintro e w5 ⟨z, rfl, hz0, hz1, hr5, hg5⟩
  have hb5 := hide (hb4.out.grown hg5 hb4.out.size (fun k hk => by injection hk with hk; omega))
  have ho5 := hide (ho4.out.past hg5 hgl)
  clear hg5 ho4 hr4 hb4 hr5
  go_wp2_with fail
  go_ret2
  exact ⟨A', n', c', zs, _, rfl, ho5.out.ints, hn, by omega, by omega, hb5.out⟩

set_option maxHeartbeats 1000000 in
theorem DrawPouredUrn_c (A : Option Addr) (n c : Nat) (bs : List Int) (w : World) (h : Bts w w.heap.size A n c bs) :
    Calls Try.prog 12 #[.slice A n c] w fun e w' => ∃ A' n' c' zs A'' n'' c'' zs', e = .returned (.tuple #[.slice A' n' c', .slice A'' n'' c'']) ∧ Ints w' w'.heap.size A' n' c' zs ∧ Ints w' w'.heap.size A'' n'' c'' zs' ∧ n' ≤ 8 ∧ n'' ≤ 10 ∧ Below w.heap.size w w' := by
  have HO := hide (open_c A n c bs w h)
  obtain ⟨i0, hi, hz0, hz1, hz2⟩ := info_parts infoInt
  go_enter Try.func12, Try.ntmps12
  go_wp2_with fail
  refine HO.out.mono ?_
  rintro e w1 ⟨g, rfl, hr, hg, hb⟩
  go_wp2_with fail
  refine (urn_c g 0 14 _ hr (by omega) (by omega) (by omega)).mono ?_
  rintro e w2 ⟨A', n', c', zs, rfl, ho, hn, hr2, hg2⟩
  have hb2 := hide (hb.grown hg2 hb.size (fun k hk => by injection hk with hk; omega))
  have hgl := hr.lt
  have hs2 := hg2.size
  have hb2s : w.heap.size ≤ w2.heap.size := by have := hb.size; omega
  have hlo := hide ho.row.lt
  have ho2 := hide (ho.alloc (.cells #[] 3))
  have hr2 := hide (hr2.kept (World.grownBy_alloc w2 (.cells #[] 3) none) (fun _ e => by cases e))
  have hb2 := hide (below_empty hb2.out (.cells #[] 3))
  have hp2 := hide (own_empty (w := w2) (Nat.le_refl _))
  clear hb hg2 hr HO ho
  go_wp2_with fail
  go_loopw [6, 7] (fun v i wr => ∃ k : Nat, ∃ B d ys, i = .int .i64 k ∧ v = .slice B k d ∧ k ≤ n' + 1 ∧ Hid (Own wr w2.heap.size (.slice B k d) ys) ∧ Hid (Own wr w1.heap.size (.slice A' n' c') zs) ∧ Hid (Rd wr g (20 + 3 * k)) ∧ Hid (Below w.heap.size w wr) ∧ w2.heap.size ≤ wr.heap.size) (fun _ i _ => n' + 1 - (intOf i).toNat)
  case atStart => exact ⟨0, _, _, _, rfl, rfl, by omega, hp2, ho2, hr2, hb2, by simp⟩
  case round =>
    clear ho2 hr2 hb2 hp2
    obtain ⟨k, B, d, ys, rfl, rfl, hk, hp, ho, hr, hb, hs⟩ := hrel
    go_wp2_with fail
    refine (pick_c g _ 20 _ hr.out (by omega) (by omega) (by omega)).mono ?_
    rintro e w3 ⟨x, rfl, hx0, hx1, hr3, hg3⟩
    have hb3 := hide (hb.out.grown hg3 hb.out.size (fun k hk => by injection hk with hk; omega))
    have ho3 := hide (ho.out.past hg3 hgl)
    have hp3 := hide (hp.out.past hg3 (by omega))
    have hr3 := hide hr3
    have hs3 := hg3.size
    clear hg3 ho hr hb hp
    have hl3 := hide hp3.out.len
    by_cases hlt : (k : Int) < (n' : Int) + x / 19
    · go_wp2_with fail
      refine (pick_c g _ 5 _ hr3.out (by omega) (by omega) (by omega)).mono ?_
      rintro e w4 ⟨y, rfl, hy0, hy1, hr4, hg4⟩
      have hb4 := hide (hb3.out.grown hg4 hb3.out.size (fun k hk => by injection hk with hk; omega))
      have ho4 := hide (ho3.out.past hg4 hgl)
      have hp4 := hide (hp3.out.past hg4 (by omega))
      have hr4 := hide hr4
      have hs4 := hg4.size
      clear hg4 ho3 hr3 hb3 hp3
      go_wp2_with fail
      refine (pick_c g _ 40 _ hr4.out (by omega) (by omega) (by omega)).mono ?_
      rintro e w5 ⟨z, rfl, hz0', hz1', hr5, hg5⟩
      have hb5 := hide (hb4.out.grown hg5 hb4.out.size (fun k hk => by injection hk with hk; omega))
      have ho5 := hide (ho4.out.past hg5 hgl)
      have hp5 := hide (hp4.out.past hg5 (by omega))
      have hr5 := hide hr5
      have hs5 := hg5.size
      clear hg5 ho4 hr4 hb4 hp4
      have hyz : 0 ≤ y + z / 39 * 39 ∧ y + z / 39 * 39 ≤ 100 := by omega
      obtain ⟨q, hq⟩ : ∃ q, q = y + z / 39 * 39 := ⟨_, rfl⟩
      rw [← hq] at hyz
      go_wp2_with (at_builtin; rw [← hq]; refine wpList_app _ rfl _ _ 23 rfl i0 Try.underlying23 hi hz0 hz1 hz2 _ _ rfl (hp5.out.alloc _) _ 1 1 _ [q] rfl (ints_lit1 (wf_i64 (by omega))) (by simp; omega) (by have := hl3.out; omega) ?_; intro A₃ n₃ c₃ w6 hp6 hg6)
      have hn6 : n₃ = k + 1 := by have h1 := hp6.len; rw [List.length_append] at h1; have := hl3.out; simp at h1; omega
      subst hn6
      have hb6 := hide ((hb5.out.alloc hb5.out.size (.cells #[.int .i64 q] 3)).grown hg6 (by have := hb5.out.size; simp; omega) (fun j hj => by have := (hp5.out.row.lt j hj).1; have := hb2s; omega))
      have ho6 := hide ((ho5.out.alloc (.cells #[.int .i64 q] 3)).kept hg6 (apart hlo.out hp5.out.row.lt (.inl (Nat.le_refl _))))
      have hr6 := hide ((hr5.out.kept (World.grownBy_alloc _ (.cells #[.int .i64 q] 3) none) (fun _ e => by cases e)).kept hg6 (fun j hj => by have := (hp5.out.row.lt j hj).1; omega))
      have hs6 := hg6.size
      have hp6 := hide hp6
      clear hq hg6 hp5 ho5 hr5 hb5
      go_wp2
      go_roundw
      case rel => exact ⟨k + 1, A₃, c₃, _, by go_num, rfl, by omega, hp6, ho6, hr6.out.more (by omega), hb6, by simp at hs6; omega⟩
      case measure => simp [intOf]; omega
    · go_wp2_with fail
      go_ret2
      exact ⟨A', n', c', zs, _, _, _, ys, rfl, ho3.out.ints, hp3.out.ints, hn, by omega, hb3.out⟩
end Go.Proofs.Ythdelfhfglnhfac
