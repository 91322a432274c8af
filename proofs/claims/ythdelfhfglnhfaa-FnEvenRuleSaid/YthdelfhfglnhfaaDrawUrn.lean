/-
  The drawn urns: spec.l20Urn.
-/
import Derived.Test.YthdelfhfglnhfaaDraw
namespace Go.Proofs.Ythdelfhfglnhfaa
open Go.RowKit

theorem grown_new {a b c : World} {row : Option Nat} {q : Option Nat} (h : a.grownBy b row) (k : b.grownBy c q) (hq : ∀ j, q = some j → a.heap.size ≤ j ∨ q = row) : a.grownBy c row :=
  ⟨k.os.trans h.os, k.tape.trans h.tape, k.output.trans h.output, Nat.le_trans h.size k.size, fun i hi hne => (k.block i (Nat.lt_of_lt_of_le hi h.size) (fun e => by
    rcases hq i e.symm with h1 | h1
    · omega
    · exact hne (e.trans h1))).trans (h.block i hi hne)⟩
theorem grown_alloc {a b : World} {row : Option Nat} (h : a.grownBy b row) (o : Obj) : a.grownBy (b.alloc o) row :=
  grown_new h (World.grownBy_alloc b o none) (fun _ e => by cases e)

theorem ints_lit {w : World} (xs : List Int) (hx : ∀ x ∈ xs, (Lit.int .i64 x).wf = true) (hn : xs.length ≤ 1000) {cs : Array Value} (hc : cs = (xs.map (Value.int .i64)).toArray) : Own (w.alloc (.cells cs 3)) w.heap.size (.slice (some ⟨w.heap.size, 0, none⟩) xs.length xs.length) xs := by
  subst hc
  have := World.ownsRow_lit (e := 3) (size := 1) w (xs.map (Value.int .i64)).toArray xs.length (Nat.le_refl _) (by unfold maxLen; omega) (by simp)
  exact ⟨by simpa using this, hx⟩

theorem Own.past {w w' : World} {base g : Nat} {v : Value} {zs : List Int} (h : Own w base v zs) (hg : w.grownBy w' (some g)) (hlt : g < base) : Own w' base v zs :=
  h.kept hg (by
    cases hk : v.ownBlock with
    | none => exact .inl rfl
    | some k => exact .inr (fun e => by injection e with e; have := (h.row.lt k hk).1; omega))

set_option maxHeartbeats 2000000 in
theorem urn_c (g m : Nat) (q : Int) (w : World) (h : Rd w g m) (hm : m ≤ 10000) (hq : 1 ≤ q) (hq2 : q ≤ 1000000) :
    Calls Try.prog 48 #[.pointer (some ⟨g, 0, none⟩), .int .i64 q] w fun e w' => ∃ A n c zs, e = .returned (.slice A n c) ∧ Own w' w.heap.size (.slice A n c) zs ∧ n ≤ 8 ∧ Rd w' g (m + 20) ∧ w.grownBy w' (some g) := by
  have hgl := h.lt
  obtain ⟨i0, hi, hz0, hz1, hz2⟩ := info_parts infoInt
  have HR0 := hide (h.kept (World.grownBy_alloc w (.cells #[] 3) none) (fun _ e => by cases e))
  go_enter Try.func48, Try.ntmps48
  go_wp2_with fail
  refine (pick_c g m 3 _ HR0.out (by omega) (by omega) (by omega)).mono ?_
  rintro e w1 ⟨x, rfl, hx0, hx1, hr1, hg1⟩
  have hgr1 := hide (show w.grownBy w1 (some g) from grown_new (grown_alloc (World.grownBy.refl w (some g)) _) hg1 (fun _ _ => .inr rfl))
  have ho1 := hide ((own_empty (w := w) (Nat.le_refl _)).past hg1 hgl)
  have hr1 := hide hr1
  have hs1 := hg1.size
  clear hg1 HR0 h
  go_wp2_with fail
  go_loopw [5, 6] (fun v i wr => ∃ k : Nat, ∃ A n c zs, i = .int .i64 k ∧ v = .slice A n c ∧ n + k ≤ 3 ∧ 1 ≤ n + k ∧ Hid (Own wr w.heap.size (.slice A n c) zs) ∧ Hid (Rd wr g (m + 1 + n)) ∧ Hid (w.grownBy wr (some g))) (fun _ i _ => (intOf i).toNat)
  case atStart => exact ⟨(x + 1).toNat, _, _, _, _, by rw [Int.toNat_of_nonneg (by omega)]; go_num, rfl, by omega, by omega, ho1, hr1, hgr1⟩
  case round =>
    obtain ⟨k, A, n, c, zs, rfl, rfl, hnk, hnk1, ho, hr, hgr⟩ := hrel
    by_cases hk : 0 < k
    · have hgs := hgr.out.size
      go_wp2_with fail
      refine (pick_c g _ 6 _ hr.out (by omega) (by omega) (by omega)).mono ?_
      rintro e w2 ⟨y, rfl, hy0, hy1, hr2, hg2⟩
      have hgs2 := hg2.size
      have ho2 := hide (ho.out.past hg2 hgl)
      have hr2 := hide hr2
      have hgr2 := hide (grown_new hgr.out hg2 (fun _ _ => .inr rfl))
      have hl2 := hide ho2.out.len
      clear hg2
      go_wp2_with (at_builtin; refine wpList_app _ rfl _ _ 28 rfl i0 Try.underlying28 hi hz0 hz1 hz2 _ _ rfl (ho2.out.alloc _) _ 1 1 _ [y] rfl (ints_lit1 (wf_i64 (by omega))) (by simp; omega) (by have := hl2.out; omega) ?_; intro A₃ n₃ c₃ w3 ho3 hg3)
      have hn3 := ho3.len
      rw [List.length_append] at hn3
      have hn4 : n₃ = n + 1 := by have := hl2.out; simp at hn3; omega
      have hr3 := hide (show Rd w3 g (m + 1 + n₃) from ((hr2.out.kept (World.grownBy_alloc _ (.cells #[.int .i64 y] 3) none) (fun _ e => by cases e)).kept hg3 (fun j hj => by have := (ho2.out.row.lt j hj).1; omega)).more (by omega))
      have hgr3 := hide (grown_new (grown_alloc hgr2.out _) hg3 (fun j hj => .inl (ho2.out.row.lt j hj).1))
      have ho3 := hide ho3
      clear hn3 hg3 hr2 ho2 hgr2
      go_wp2
      go_roundw
      case rel => exact ⟨k - 1, A₃, n₃, c₃, _, by go_num, rfl, by omega, by omega, ho3, hr3, hgr3⟩
      case measure => simp [intOf]; omega
    · obtain rfl : k = 0 := by omega
      have hl0 := hide ho.out.len
      go_wp2_with fail
      refine (odd_c g _ q _ hr.out (by omega) hq hq2).mono ?_
      rintro e w2 ⟨b, rfl, hr2, hg2⟩
      have ho2 := hide (ho.out.past hg2 hgl)
      have hr2 := hide hr2
      have hgr2 := hide (grown_new hgr.out hg2 (fun _ _ => .inr rfl))
      clear hg2 ho hr hgr
      cases b with
      | false =>
        go_wp2_with fail
        go_ret
        exact ⟨A, n, c, zs, rfl, ho2.out, by omega, hr2.out.more (by omega), hgr2.out⟩
      | true =>
        go_wp2_with fail
        refine (pick_c g _ 3 _ hr2.out (by omega) (by omega) (by omega)).mono ?_
        rintro e w3 ⟨y, rfl, hy0, hy1, hr3, hg3⟩
        have ho3 := hide (ho2.out.past hg3 hgl)
        have hr3 := hide hr3
        have hgr3 := hide (grown_new hgr2.out hg3 (fun _ _ => .inr rfl))
        clear hg3 ho2 hr2 hgr2
        have hs3 := hgr3.out.size
        rcases (show y = 0 ∨ y = 1 ∨ y = 2 by omega) with h | h | h
        · subst h
          go_wp2_with fail
          go_ret
          exact ⟨_, _, _, _, rfl, own_empty hs3, by omega, (hr3.out.kept (World.grownBy_alloc _ _ none) (fun _ e => by cases e)).more (by omega), grown_alloc hgr3.out _⟩
        · subst h
          go_wp2_with fail
          have hr4 := hide (hr3.out.kept (World.grownBy_alloc w3 (.cells #[.int .i64 (-1), .int .i64 41] 3) none) (fun _ e => by cases e))
          refine (pick_c g _ 2 _ hr4.out (by omega) (by omega) (by omega)).mono ?_
          rintro e w4 ⟨z, rfl, hz0', hz1', hr5, hg4⟩
          have hgw : g < w3.heap.size := by have := hgr3.out.size; omega
          have hc0 : w4.cell? ⟨w3.heap.size, 0, none⟩ = some (.int .i64 (-1)) := hg4.cell (by rw [World.cell?_alloc_at _ _ _ _ rfl]; rfl) (fun e => by injection e with e; simp at e; omega)
          have hc1 : w4.cell? ⟨w3.heap.size, 1, none⟩ = some (.int .i64 41) := hg4.cell (by rw [World.cell?_alloc_at _ _ _ _ rfl]; rfl) (fun e => by injection e with e; simp at e; omega)
          have hr5 := hide hr5
          have ho5 := hide ((ho3.out.alloc (.cells #[.int .i64 (-1), .int .i64 41] 3)).past hg4 hgl)
          have hgr5 := hide (grown_new (grown_alloc hgr3.out (.cells #[.int .i64 (-1), .int .i64 41] 3)) hg4 (fun _ _ => .inr rfl))
          clear hg4 ho3 hr3 hr4 hgr3
          obtain ⟨u, hu⟩ : ∃ u, Hid (zs[0]? = some u) := ⟨_, hide (List.getElem?_eq_getElem (by have := hl0.out; omega))⟩
          obtain ⟨gu, hA, hgu, hgul, hcu, hfu⟩ := ho5.out.at2 hu.out
          subst hA
          have hst : ∀ v : Int, (Lit.int .i64 v).wf = true → Own (w4.setCell ⟨gu, 0, none⟩ (.int .i64 v)) w.heap.size (.slice (some ⟨gu, 0, none⟩) n c) (zs.set 0 v) ∧ Rd (w4.setCell ⟨gu, 0, none⟩ (.int .i64 v)) g (m + 20) ∧ w.grownBy (w4.setCell ⟨gu, 0, none⟩ (.int .i64 v)) (some g) := by
            intro v hv
            have hgg : w4.grownBy (w4.setCell ⟨gu, 0, none⟩ (.int .i64 v)) (some gu) := ⟨rfl, rfl, rfl, by simp, fun q _ hq => heap_setCell_other w4 ⟨gu, 0, none⟩ q _ (fun e => hq (by simp [e]))⟩
            exact ⟨ho5.out.set_ v hv, (hr5.out.kept hgg (fun j hj => by injection hj with hj; omega)).more (by omega), grown_new hgr5.out hgg (fun j hj => by injection hj with hj; exact .inl (by omega))⟩
          have hst := hide hst
          clear ho5 hr5 hgr5 hs3 hs1
          rcases (show z = 0 ∨ z = 1 by omega) with h | h
          · subst h
            go_wp2_with fail
            go_ret
            obtain ⟨p1, p2, p3⟩ := hst.out (-1) (by decide)
            exact ⟨_, _, _, _, rfl, p1, by omega, p2, p3⟩
          · subst h
            go_wp2_with fail
            go_ret
            obtain ⟨p1, p2, p3⟩ := hst.out 41 (by decide)
            exact ⟨_, _, _, _, rfl, p1, by omega, p2, p3⟩
        · subst h
          go_wp2_with fail
          go_ret
          refine ⟨_, _, _, [1, 1, 1, 1], rfl, (ints_lit [1, 1, 1, 1] ?_ (by decide) rfl).down hs3, by omega, (hr3.out.kept (World.grownBy_alloc _ _ none) (fun _ e => by cases e)).more (by omega), grown_alloc hgr3.out _⟩
          intro x hx
          simp at hx
          subst hx
          decide
end Go.Proofs.Ythdelfhfglnhfaa
