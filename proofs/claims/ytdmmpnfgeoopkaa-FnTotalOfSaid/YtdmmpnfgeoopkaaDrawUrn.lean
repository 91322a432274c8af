/-
  The drawn urns: spec.l20Urn, DrawUrnOk, DrawTotalOf, DrawChanceOf, DrawPutIn, DrawPouredUrn.
-/
import Derived.Test.YtdmmpnfgeoopkaaDraw
namespace Go.Proofs.Ytdmmpnfgeoopkaa
open Go.RowKit

theorem grown_new {a b c : World} {row : Option Nat} {q : Option Nat} (h : a.grownBy b row) (k : b.grownBy c q) (hq : ∀ j, q = some j → a.heap.size ≤ j ∨ q = row) : a.grownBy c row :=
  ⟨k.os.trans h.os, k.tape.trans h.tape, k.output.trans h.output, Nat.le_trans h.size k.size, fun i hi hne => (k.block i (Nat.lt_of_lt_of_le hi h.size) (fun e => by
    rcases hq i e.symm with h1 | h1
    · omega
    · exact hne (e.trans h1))).trans (h.block i hi hne)⟩
theorem grown_alloc {a b : World} {row : Option Nat} (h : a.grownBy b row) (o : Obj) : a.grownBy (b.alloc o) row :=
  grown_new h (World.grownBy_alloc b o none) (fun _ e => by cases e)

theorem ints_lit {w : World} (xs : List Int) (hx : ∀ x ∈ xs, (Lit.int .i64 x).wf = true) (hn : xs.length ≤ 1000) {cs : Array Value} (hc : cs = (xs.map (Value.int .i64)).toArray) : Own (w.alloc (.cells cs 3)) w.heap.size (.slice (some ⟨w.heap.size, 0, none⟩) xs.length xs.length) xs := by
  subst hc
  have := World.ownsRow_lit (e := 3) (size := 1) w (xs.map (Value.int .i64)).toArray xs.length (Nat.le_refl _) (by unfold maxLen; omega) (by simp)
  exact ⟨by simpa using this, hx⟩

theorem Own.past {w w' : World} {base g : Nat} {v : Value} {zs : List Int} (h : Own w base v zs) (hg : w.grownBy w' (some g)) (hlt : g < base) : Own w' base v zs :=
  h.kept hg (by
    cases hk : v.ownBlock with
    | none => exact .inl rfl
    | some k => exact .inr (fun e => by injection e with e; have := (h.row.lt k hk).1; omega))

set_option maxHeartbeats 2000000 in
theorem urn_c (g m : Nat) (q : Int) (w : World) (h : Rd w g m) (hm : m ≤ 10000) (hq : 1 ≤ q) (hq2 : q ≤ 1000000) :
    Calls Try.prog 35 #[.pointer (some ⟨g, 0, none⟩), .int .i64 q] w fun e w' => ∃ A n c zs, e = .returned (.slice A n c) ∧ Own w' w.heap.size (.slice A n c) zs ∧ n ≤ 8 ∧ Rd w' g (m + 20) ∧ w.grownBy w' (some g) := by
  have hgl := h.lt
  obtain ⟨i0, hi, hz0, hz1, hz2⟩ := info_parts infoInt
  have HR0 := hide (h.kept (World.grownBy_alloc w (.cells #[] 3) none) (fun _ e => by cases e))
  go_enter Try.func35, Try.ntmps35
  go_wp2_with fail
  refine (pick_c g m 3 _ HR0.out (by omega) (by omega) (by omega)).mono ?_
  rintro e w1 ⟨x, rfl, hx0, hx1, hr1, hg1⟩
  have hgr1 := hide (show w.grownBy w1 (some g) from grown_new (grown_alloc (World.grownBy.refl w (some g)) _) hg1 (fun _ _ => .inr rfl))
  have ho1 := hide ((own_empty (w := w) (Nat.le_refl _)).past hg1 hgl)
  have hr1 := hide hr1
  have hs1 := hg1.size
  clear hg1 HR0 h
  go_wp2_with fail
  go_loopw [5, 6] (fun v i wr => ∃ k : Nat, ∃ A n c zs, i = .int .i64 k ∧ v = .slice A n c ∧ n + k ≤ 3 ∧ 1 ≤ n + k ∧ Hid (Own wr w.heap.size (.slice A n c) zs) ∧ Hid (Rd wr g (m + 1 + n)) ∧ Hid (w.grownBy wr (some g))) (fun _ i _ => (intOf i).toNat)
  case atStart => exact ⟨(x + 1).toNat, _, _, _, _, by rw [Int.toNat_of_nonneg (by omega)]; go_num, rfl, by omega, by omega, ho1, hr1, hgr1⟩
  case round =>
    obtain ⟨k, A, n, c, zs, rfl, rfl, hnk, hnk1, ho, hr, hgr⟩ := hrel
    by_cases hk : 0 < k
    · have hgs := hgr.out.size
      go_wp2_with fail
      refine (pick_c g _ 6 _ hr.out (by omega) (by omega) (by omega)).mono ?_
      rintro e w2 ⟨y, rfl, hy0, hy1, hr2, hg2⟩
      have hgs2 := hg2.size
      have ho2 := hide (ho.out.past hg2 hgl)
      have hr2 := hide hr2
      have hgr2 := hide (grown_new hgr.out hg2 (fun _ _ => .inr rfl))
      have hl2 := hide ho2.out.len
      clear hg2
      go_wp2_with (at_builtin; refine wpList_app _ rfl _ _ 23 rfl i0 Try.underlying23 hi hz0 hz1 hz2 _ _ rfl (ho2.out.alloc _) _ 1 1 _ [y] rfl (ints_lit1 (wf_i64 (by omega))) (by simp; omega) (by have := hl2.out; omega) ?_; intro A₃ n₃ c₃ w3 ho3 hg3)
      have hn3 := ho3.len
      rw [List.length_append] at hn3
      have hn4 : n₃ = n + 1 := by have := hl2.out; simp at hn3; omega
      have hr3 := hide (show Rd w3 g (m + 1 + n₃) from ((hr2.out.kept (World.grownBy_alloc _ (.cells #[.int .i64 y] 3) none) (fun _ e => by cases e)).kept hg3 (fun j hj => by have := (ho2.out.row.lt j hj).1; omega)).more (by omega))
      have hgr3 := hide (grown_new (grown_alloc hgr2.out _) hg3 (fun j hj => .inl (ho2.out.row.lt j hj).1))
      have ho3 := hide ho3
      clear hn3 hg3 hr2 ho2 hgr2
      go_wp2
      go_roundw
      case rel => exact ⟨k - 1, A₃, n₃, c₃, _, by go_num, rfl, by omega, by omega, ho3, hr3, hgr3⟩
      case measure => simp [intOf]; omega
    · obtain rfl : k = 0 := by omega
      have hl0 := hide ho.out.len
      go_wp2_with fail
      refine (odd_c g _ q _ hr.out (by omega) hq hq2).mono ?_
      rintro e w2 ⟨b, rfl, hr2, hg2⟩
      have ho2 := hide (ho.out.past hg2 hgl)
      have hr2 := hide hr2
      have hgr2 := hide (grown_new hgr.out hg2 (fun _ _ => .inr rfl))
      clear hg2 ho hr hgr
      cases b with
      | false =>
        go_wp2_with fail
        go_ret
        exact ⟨A, n, c, zs, rfl, ho2.out, by omega, hr2.out.more (by omega), hgr2.out⟩
      | true =>
        go_wp2_with fail
        refine (pick_c g _ 3 _ hr2.out (by omega) (by omega) (by omega)).mono ?_
        rintro e w3 ⟨y, rfl, hy0, hy1, hr3, hg3⟩
        have ho3 := hide (ho2.out.past hg3 hgl)
        have hr3 := hide hr3
        have hgr3 := hide (grown_new hgr2.out hg3 (fun _ _ => .inr rfl))
        clear hg3 ho2 hr2 hgr2
        have hs3 := hgr3.out.size
        rcases (show y = 0 ∨ y = 1 ∨ y = 2 by omega) with h | h | h
        · subst h
          go_wp2_with fail
          go_ret
          exact ⟨_, _, _, _, rfl, own_empty hs3, by omega, (hr3.out.kept (World.grownBy_alloc _ _ none) (fun _ e => by cases e)).more (by omega), grown_alloc hgr3.out _⟩
        · subst h
          go_wp2_with fail
          have hr4 := hide (hr3.out.kept (World.grownBy_alloc w3 (.cells #[.int .i64 (-1), .int .i64 41] 3) none) (fun _ e => by cases e))
          refine (pick_c g _ 2 _ hr4.out (by omega) (by omega) (by omega)).mono ?_
          rintro e w4 ⟨z, rfl, hz0', hz1', hr5, hg4⟩
          have hgw : g < w3.heap.size := by have := hgr3.out.size; omega
          have hc0 : w4.cell? ⟨w3.heap.size, 0, none⟩ = some (.int .i64 (-1)) := hg4.cell (by rw [World.cell?_alloc_at _ _ _ _ rfl]; rfl) (fun e => by injection e with e; simp at e; omega)
          have hc1 : w4.cell? ⟨w3.heap.size, 1, none⟩ = some (.int .i64 41) := hg4.cell (by rw [World.cell?_alloc_at _ _ _ _ rfl]; rfl) (fun e => by injection e with e; simp at e; omega)
          have hr5 := hide hr5
          have ho5 := hide ((ho3.out.alloc (.cells #[.int .i64 (-1), .int .i64 41] 3)).past hg4 hgl)
          have hgr5 := hide (grown_new (grown_alloc hgr3.out (.cells #[.int .i64 (-1), .int .i64 41] 3)) hg4 (fun _ _ => .inr rfl))
          clear hg4 ho3 hr3 hr4 hgr3
          obtain ⟨u, hu⟩ : ∃ u, Hid (zs[0]? = some u) := ⟨_, hide (List.getElem?_eq_getElem (by have := hl0.out; omega))⟩
          obtain ⟨gu, hA, hgu, hgul, hcu, hfu⟩ := ho5.out.at2 hu.out
          subst hA
          have hst : ∀ v : Int, (Lit.int .i64 v).wf = true → Own (w4.setCell ⟨gu, 0, none⟩ (.int .i64 v)) w.heap.size (.slice (some ⟨gu, 0, none⟩) n c) (zs.set 0 v) ∧ Rd (w4.setCell ⟨gu, 0, none⟩ (.int .i64 v)) g (m + 20) ∧ w.grownBy (w4.setCell ⟨gu, 0, none⟩ (.int .i64 v)) (some g) := by
            intro v hv
            have hgg : w4.grownBy (w4.setCell ⟨gu, 0, none⟩ (.int .i64 v)) (some gu) := ⟨rfl, rfl, rfl, by simp, fun q _ hq => heap_setCell_other w4 ⟨gu, 0, none⟩ q _ (fun e => hq (by simp [e]))⟩
            exact ⟨ho5.out.set_ v hv, (hr5.out.kept hgg (fun j hj => by injection hj with hj; omega)).more (by omega), grown_new hgr5.out hgg (fun j hj => by injection hj with hj; exact .inl (by omega))⟩
          have hst := hide hst
          clear ho5 hr5 hgr5 hs3 hs1
          rcases (show z = 0 ∨ z = 1 by omega) with h | h
          · subst h
            go_wp2_with fail
            go_ret
            obtain ⟨p1, p2, p3⟩ := hst.out (-1) (by decide)
            exact ⟨_, _, _, _, rfl, p1, by omega, p2, p3⟩
          · subst h
            go_wp2_with fail
            go_ret
            obtain ⟨p1, p2, p3⟩ := hst.out 41 (by decide)
            exact ⟨_, _, _, _, rfl, p1, by omega, p2, p3⟩
        · subst h
          go_wp2_with fail
          go_ret
          refine ⟨_, _, _, [1, 1, 1, 1], rfl, (ints_lit [1, 1, 1, 1] ?_ (by decide) rfl).down hs3, by omega, (hr3.out.kept (World.grownBy_alloc _ _ none) (fun _ e => by cases e)).more (by omega), grown_alloc hgr3.out _⟩
          intro x hx
          simp at hx
          subst hx
          decide

theorem DrawUrnOk_c (A : Option Addr) (n c : Nat) (bs : List Int) (w : World) (h : Bts w w.heap.size A n c bs) :
    Calls Try.prog 14 #[.slice A n c] w fun e w' => ∃ A' n' c' zs, e = .returned (.slice A' n' c') ∧ Ints w' w'.heap.size A' n' c' zs ∧ n' ≤ 8 ∧ Below w.heap.size w w' := by
  have HO := hide (open_c A n c bs w h)
  go_enter Try.func14, Try.ntmps14
  go_wp2_with fail
  refine HO.out.mono ?_
  rintro e w1 ⟨g, rfl, hr, hg, hb⟩
  go_wp2_with fail
  refine (urn_c g 0 2 _ hr (by omega) (by omega) (by omega)).mono ?_
  rintro e w2 ⟨A', n', c', zs, rfl, ho, hn, hr2, hg2⟩
  have hb2 := hide (hb.grown hg2 hb.size (fun k hk => by injection hk with hk; omega))
  have ho := hide ho
  go_wp2_with fail
  go_ret
  exact ⟨A', n', c', zs, rfl, ho.out.ints, hn, hb2.out⟩

theorem DrawTotalOf_c (A : Option Addr) (n c : Nat) (bs : List Int) (w : World) (h : Bts w w.heap.size A n c bs) :
    Calls Try.prog 17 #[.slice A n c] w fun e w' => ∃ A' n' c' zs, e = .returned (.slice A' n' c') ∧ Ints w' w'.heap.size A' n' c' zs ∧ n' ≤ 8 ∧ Below w.heap.size w w' := by
  have HO := hide (open_c A n c bs w h)
  go_enter Try.func17, Try.ntmps17
  go_wp2_with fail
  refine HO.out.mono ?_
  rintro e w1 ⟨g, rfl, hr, hg, hb⟩
  go_wp2_with fail
  refine (urn_c g 0 9 _ hr (by omega) (by omega) (by omega)).mono ?_
  rintro e w2 ⟨A', n', c', zs, rfl, ho, hn, hr2, hg2⟩
  have hb2 := hide (hb.grown hg2 hb.size (fun k hk => by injection hk with hk; omega))
  have ho := hide ho
  go_wp2_with fail
  go_ret
  exact ⟨A', n', c', zs, rfl, ho.out.ints, hn, hb2.out⟩

set_option maxHeartbeats 1000000 in
theorem DrawChanceOf_c (A : Option Addr) (n c : Nat) (bs : List Int) (w : World) (h : Bts w w.heap.size A n c bs) :
    Calls Try.prog 22 #[.slice A n c] w fun e w' => ∃ A' n' c' zs, ∃ k : Int, e = .returned (.tuple #[.slice A' n' c', .int .i64 k]) ∧ Ints w' w'.heap.size A' n' c' zs ∧ n' ≤ 8 ∧ -100 ≤ k ∧ k ≤ 100 ∧ Below w.heap.size w w' := by
  have HO := hide (open_c A n c bs w h)
  go_enter Try.func22, Try.ntmps22
  go_wp2_with fail
  refine HO.out.mono ?_
  rintro e w1 ⟨g, rfl, hr, hg, hb⟩
  go_wp2_with fail
  refine (urn_c g 0 12 _ hr (by omega) (by omega) (by omega)).mono ?_
  rintro e w2 ⟨A', n', c', zs, rfl, ho, hn, hr2, hg2⟩
  have hb2 := hide (hb.grown hg2 hb.size (fun k hk => by injection hk with hk; omega))
  have hgl := hr.lt
  have ho := hide ho
  have hr2 := hide hr2
  clear hb hg2 hr HO
  go_wp2_with fail
  refine (pick_any g _ (n' : Int) _ hr2.out (by omega) (by omega)).mono ?_
  rintro e w3 ⟨x, rfl, hx0, hx1, hr3, hg3⟩
  have hb3 := hide (hb2.out.grown hg3 hb2.out.size (fun k hk => by injection hk with hk; omega))
  have ho3 := hide (ho.out.past hg3 hgl)
  have hr3 := hide hr3
  clear hg3 ho hr2 hb2
  go_wp2_with fail
  refine (pick_c g _ 30 _ hr3.out (by omega) (by omega) (by omega)).mono ?_
  rintro e w4 ⟨y, rfl, hy0, hy1, hr4, hg4⟩
  have hb4 := hide (hb3.out.grown hg4 hb3.out.size (fun k hk => by injection hk with hk; omega))
  have ho4 := hide (ho3.out.past hg4 hgl)
  have hr4 := hide hr4
  clear hg4 ho3 hr3 hb3
  go_wp2_with fail
  refine (pick_c g _ 40 _ hr4.out (by omega) (by omega) (by omega)).mono ?_
  rintro e w5 ⟨z, rfl, hz0, hz1, hr5, hg5⟩
  have hb5 := hide (hb4.out.grown hg5 hb4.out.size (fun k hk => by injection hk with hk; omega))
  have ho5 := hide (ho4.out.past hg5 hgl)
  clear hg5 ho4 hr4 hb4 hr5
  go_wp2_with fail
  go_ret2
  exact ⟨A', n', c', zs, _, rfl, ho5.out.ints, hn, by omega, by omega, hb5.out⟩

set_option maxHeartbeats 1000000 in
theorem DrawPutIn_c (A : Option Addr) (n c : Nat) (bs : List Int) (w : World) (h : Bts w w.heap.size A n c bs) :
    Calls Try.prog 26 #[.slice A n c] w fun e w' => ∃ A' n' c' zs, ∃ k m : Int, e = .returned (.tuple #[.slice A' n' c', .int .i64 k, .int .i64 m]) ∧ Ints w' w'.heap.size A' n' c' zs ∧ n' ≤ 8 ∧ -100 ≤ k ∧ k ≤ 100 ∧ -100 ≤ m ∧ m ≤ 100 ∧ Below w.heap.size w w' := by
  have HO := hide (open_c A n c bs w h)
  go_enter Try.func26, Try.ntmps26
  go_wp2_with fail
  refine HO.out.mono ?_
  rintro e w1 ⟨g, rfl, hr, hg, hb⟩
  go_wp2_with fail
  refine (urn_c g 0 14 _ hr (by omega) (by omega) (by omega)).mono ?_
  rintro e w2 ⟨A', n', c', zs, rfl, ho, hn, hr2, hg2⟩
  have hb2 := hide (hb.grown hg2 hb.size (fun k hk => by injection hk with hk; omega))
  have hgl := hr.lt
  have ho2 := hide ho
  have hr2 := hide hr2
  clear hb hg2 hr HO ho
  go_wp2_with fail
  refine (pick_any g _ (n' : Int) _ hr2.out (by omega) (by omega)).mono ?_
  rintro e w3 ⟨x3, rfl, hx3a, hx3b, hr3, hg3⟩
  have hb3 := hide (hb2.out.grown hg3 hb2.out.size (fun k hk => by injection hk with hk; omega))
  have ho3 := hide (ho2.out.past hg3 hgl)
  have hr3 := hide hr3
  clear hg3 ho2 hr2 hb2
  go_wp2_with fail
  refine (pick_c g _ 40 _ hr3.out (by omega) (by omega) (by omega)).mono ?_
  rintro e w4 ⟨x4, rfl, hx4a, hx4b, hr4, hg4⟩
  have hb4 := hide (hb3.out.grown hg4 hb3.out.size (fun k hk => by injection hk with hk; omega))
  have ho4 := hide (ho3.out.past hg4 hgl)
  have hr4 := hide hr4
  clear hg4 ho3 hr3 hb3
  go_wp2_with fail
  refine (pick_c g _ 9 _ hr4.out (by omega) (by omega) (by omega)).mono ?_
  rintro e w5 ⟨x5, rfl, hx5a, hx5b, hr5, hg5⟩
  have hb5 := hide (hb4.out.grown hg5 hb4.out.size (fun k hk => by injection hk with hk; omega))
  have ho5 := hide (ho4.out.past hg5 hgl)
  have hr5 := hide hr5
  clear hg5 ho4 hr4 hb4
  go_wp2_with fail
  refine (pick_c g _ 30 _ hr5.out (by omega) (by omega) (by omega)).mono ?_
  rintro e w6 ⟨x6, rfl, hx6a, hx6b, hr6, hg6⟩
  have hb6 := hide (hb5.out.grown hg6 hb5.out.size (fun k hk => by injection hk with hk; omega))
  have ho6 := hide (ho5.out.past hg6 hgl)
  have hr6 := hide hr6
  clear hg6 ho5 hr5 hb5
  go_wp2_with fail
  go_ret3
  exact ⟨A', n', c', zs, _, _, rfl, ho6.out.ints, hn, by omega, by omega, by omega, by omega, hb6.out⟩

set_option maxHeartbeats 1000000 in
theorem DrawPouredUrn_c (A : Option Addr) (n c : Nat) (bs : List Int) (w : World) (h : Bts w w.heap.size A n c bs) :
    Calls Try.prog 29 #[.slice A n c] w fun e w' => ∃ A' n' c' zs A'' n'' c'' zs', e = .returned (.tuple #[.slice A' n' c', .slice A'' n'' c'']) ∧ Ints w' w'.heap.size A' n' c' zs ∧ Ints w' w'.heap.size A'' n'' c'' zs' ∧ n' ≤ 8 ∧ n'' ≤ 10 ∧ Below w.heap.size w w' := by
  have HO := hide (open_c A n c bs w h)
  obtain ⟨i0, hi, hz0, hz1, hz2⟩ := info_parts infoInt
  go_enter Try.func29, Try.ntmps29
  go_wp2_with fail
  refine HO.out.mono ?_
  rintro e w1 ⟨g, rfl, hr, hg, hb⟩
  go_wp2_with fail
  refine (urn_c g 0 14 _ hr (by omega) (by omega) (by omega)).mono ?_
  rintro e w2 ⟨A', n', c', zs, rfl, ho, hn, hr2, hg2⟩
  have hb2 := hide (hb.grown hg2 hb.size (fun k hk => by injection hk with hk; omega))
  have hgl := hr.lt
  have hs2 := hg2.size
  have hb2s : w.heap.size ≤ w2.heap.size := by have := hb.size; omega
  have hlo := hide ho.row.lt
  have ho2 := hide (ho.alloc (.cells #[] 3))
  have hr2 := hide (hr2.kept (World.grownBy_alloc w2 (.cells #[] 3) none) (fun _ e => by cases e))
  have hb2 := hide (below_empty hb2.out (.cells #[] 3))
  have hp2 := hide (own_empty (w := w2) (Nat.le_refl _))
  clear hb hg2 hr HO ho
  go_wp2_with fail
  go_loopw [6, 7] (fun v i wr => ∃ k : Nat, ∃ B d ys, i = .int .i64 k ∧ v = .slice B k d ∧ k ≤ n' + 1 ∧ Hid (Own wr w2.heap.size (.slice B k d) ys) ∧ Hid (Own wr w1.heap.size (.slice A' n' c') zs) ∧ Hid (Rd wr g (20 + 3 * k)) ∧ Hid (Below w.heap.size w wr) ∧ w2.heap.size ≤ wr.heap.size) (fun _ i _ => n' + 1 - (intOf i).toNat)
  case atStart => exact ⟨0, _, _, _, rfl, rfl, by omega, hp2, ho2, hr2, hb2, by simp⟩
  case round =>
    clear ho2 hr2 hb2 hp2
    obtain ⟨k, B, d, ys, rfl, rfl, hk, hp, ho, hr, hb, hs⟩ := hrel
    go_wp2_with fail
    refine (pick_c g _ 20 _ hr.out (by omega) (by omega) (by omega)).mono ?_
    rintro e w3 ⟨x, rfl, hx0, hx1, hr3, hg3⟩
    have hb3 := hide (hb.out.grown hg3 hb.out.size (fun k hk => by injection hk with hk; omega))
    have ho3 := hide (ho.out.past hg3 hgl)
    have hp3 := hide (hp.out.past hg3 (by omega))
    have hr3 := hide hr3
    have hs3 := hg3.size
    clear hg3 ho hr hb hp
    have hl3 := hide hp3.out.len
    by_cases hlt : (k : Int) < (n' : Int) + x / 19
    · go_wp2_with fail
      refine (pick_c g _ 5 _ hr3.out (by omega) (by omega) (by omega)).mono ?_
      rintro e w4 ⟨y, rfl, hy0, hy1, hr4, hg4⟩
      have hb4 := hide (hb3.out.grown hg4 hb3.out.size (fun k hk => by injection hk with hk; omega))
      have ho4 := hide (ho3.out.past hg4 hgl)
      have hp4 := hide (hp3.out.past hg4 (by omega))
      have hr4 := hide hr4
      have hs4 := hg4.size
      clear hg4 ho3 hr3 hb3 hp3
      go_wp2_with fail
      refine (pick_c g _ 40 _ hr4.out (by omega) (by omega) (by omega)).mono ?_
      rintro e w5 ⟨z, rfl, hz0', hz1', hr5, hg5⟩
      have hb5 := hide (hb4.out.grown hg5 hb4.out.size (fun k hk => by injection hk with hk; omega))
      have ho5 := hide (ho4.out.past hg5 hgl)
      have hp5 := hide (hp4.out.past hg5 (by omega))
      have hr5 := hide hr5
      have hs5 := hg5.size
      clear hg5 ho4 hr4 hb4 hp4
      have hyz : 0 ≤ y + z / 39 * 39 ∧ y + z / 39 * 39 ≤ 100 := by omega
      obtain ⟨q, hq⟩ : ∃ q, q = y + z / 39 * 39 := ⟨_, rfl⟩
      rw [← hq] at hyz
      go_wp2_with (at_builtin; rw [← hq]; refine wpList_app _ rfl _ _ 23 rfl i0 Try.underlying23 hi hz0 hz1 hz2 _ _ rfl (hp5.out.alloc _) _ 1 1 _ [q] rfl (ints_lit1 (wf_i64 (by omega))) (by simp; omega) (by have := hl3.out; omega) ?_; intro A₃ n₃ c₃ w6 hp6 hg6)
      have hn6 : n₃ = k + 1 := by have h1 := hp6.len; rw [List.length_append] at h1; have := hl3.out; simp at h1; omega
      subst hn6
      have hb6 := hide ((hb5.out.alloc hb5.out.size (.cells #[.int .i64 q] 3)).grown hg6 (by have := hb5.out.size; simp; omega) (fun j hj => by have := (hp5.out.row.lt j hj).1; have := hb2s; omega))
      have ho6 := hide ((ho5.out.alloc (.cells #[.int .i64 q] 3)).kept hg6 (apart hlo.out hp5.out.row.lt (.inl (Nat.le_refl _))))
      have hr6 := hide ((hr5.out.kept (World.grownBy_alloc _ (.cells #[.int .i64 q] 3) none) (fun _ e => by cases e)).kept hg6 (fun j hj => by have := (hp5.out.row.lt j hj).1; omega))
      have hs6 := hg6.size
      have hp6 := hide hp6
      clear hq hg6 hp5 ho5 hr5 hb5
      go_wp2
      go_roundw
      case rel => exact ⟨k + 1, A₃, c₃, _, by go_num, rfl, by omega, hp6, ho6, hr6.out.more (by omega), hb6, by simp at hs6; omega⟩
      case measure => simp [intOf]; omega
    · go_wp2_with fail
      go_ret2
      exact ⟨A', n', c', zs, _, _, _, ys, rfl, ho3.out.ints, hp3.out.ints, hn, by omega, hb3.out⟩
end Go.Proofs.Ytdmmpnfgeoopkaa
