/-
  The draw of FitsOk (written by wip/gen_y4.py).
-/
import Derived.Test.YtffllkmaifjpfaaDrawTerm
import Derived.Test.YtffllkmaifjpfaaZterm
namespace Go.Proofs.Ytffllkmaifjpfaa
open Go.RowKit
set_option linter.unusedVariables false

theorem Rd.belowK {w w' : World} {g m : Nat} (h : Rd w g m) (hb : Below w.heap.size w w') : Rd w' g m :=
  h.kept (row := none) ⟨hb.os, hb.tape, hb.output, hb.size, fun k hk _ => hb.block k hk⟩ (fun _ e => by cases e)
theorem lenT_bounds (C : Int) (ts : List Mk) : -1 ≤ lenT C ts ∧ lenT C ts ≤ 6 := by
  cases hok : termOk C ts with
  | false => rw [lenT_out hok]; omega
  | true =>
    obtain ⟨_, _, _, t, ht⟩ := termOk_yes hok
    rw [lenT_in hok ht]
    have := ln_le t ht.1
    omega

theorem own_apart {w : World} {base g : Nat} {v u : Value} {ts : List Mk} {zs : List Int} (h : OwnK w base v ts) (k : Own w g u zs) : v.ownBlock = none ∨ v.ownBlock ≠ u.ownBlock := by
  rcases h.row.2 with ⟨rfl, _⟩ | ⟨b1, c1, x1, rfl, _, hh1, _⟩
  · exact .inl rfl
  · refine .inr fun e => ?_
    rcases k.row.2 with ⟨rfl, _⟩ | ⟨b2, c2, x2, rfl, _, hh2, _⟩
    · cases e
    · injection e with e
      dsimp only at e
      subst e
      rw [hh1] at hh2
      injection hh2 with hh2
      injection hh2 with _ ht _
      exact absurd ht (by decide)
set_option maxRecDepth 100000 in
set_option maxHeartbeats 3200000 in
theorem DrawFitsOk_c (A : Option Addr) (n c : Nat) (bs : List Int) (w : World) (h : Bts w w.heap.size A n c bs) :
    Calls Try.prog 26 #[.slice A n c] w fun e w' => ∃ A1 n1 c1 ts1 A2 n2 c2 zs2, ∃ k1 : Int, e = .returned (.tuple #[.int .i64 k1, .slice A1 n1 c1, .slice A2 n2 c2]) ∧ Marks w' w'.heap.size A1 n1 c1 ts1 ∧ n1 ≤ 600 ∧ Ints w' w'.heap.size A2 n2 c2 zs2 ∧ n2 ≤ 10 ∧ 1 ≤ k1 ∧ k1 ≤ 6 ∧ Below w.heap.size w w' := by
  obtain ⟨i0, hi, hz0, hz1, hz2⟩ := info_parts infoInt
  have HO := hide (open_c A n c bs w h)
  go_enter Try.func26, Try.ntmps26
  go_wp2_with fail
  refine HO.out.mono ?_
  rintro e w1 ⟨g, rfl, hr1, hg, hb1⟩
  have hr1 := hide hr1
  have hb1 := hide hb1
  have hglt := hr1.out.lt
  clear HO
  go_wp2_with fail
  refine (l20Termed_r g _ 14 w1 hr1.out (by omega) (by omega) (by omega)).mono ?_
  rintro e w2 ⟨k1, A1, n1, c1, ts1, rfl, hk1, hk2, ho1, hn1, hr2, hg2⟩
  have hb2 := hide (hb1.out.grown hg2 hb1.out.size (fun k hk => by injection hk with hk; omega))
  have ho1 := hide ho1
  have hs12 := hg2.size
  have hb2s := hide (show w.heap.size ≤ w2.heap.size from hb2.out.size)
  have hr2 := hide (hr2.kept (World.grownBy_alloc w2 (.cells #[] 3) none) (fun _ e => by cases e))
  have hLb := lenT_bounds k1 ts1
  obtain ⟨L, hL⟩ : ∃ L, Hid (lenT k1 ts1 = L) := ⟨_, hide rfl⟩
  rw [hL.out] at hLb
  obtain ⟨hLa, hLz⟩ := hLb
  have ho1a := hide (ho1.out.alloc (.cells #[] 3))
  have hb2a := hide (hb2.out.alloc hb2.out.size (.cells #[] 3))
  have hoE := hide (own_empty (w := w2) (base := w2.heap.size) (Nat.le_refl _))
  clear hg2 hb1 hr1
  go_wp2_with fail
  go_loopw [8, 9] (fun v i wr => ∃ k : Nat, ∃ A n c zs, i = .int .i64 k ∧ v = .slice A n c ∧ n = k ∧ k ≤ 7 ∧ w2.heap.size ≤ wr.heap.size ∧ Hid (Own wr w2.heap.size (.slice A n c) zs) ∧ Hid (OwnK wr w1.heap.size (.slice A1 n1 c1) ts1) ∧ Hid (Rd wr g (4012 + 2 * k)) ∧ Hid (Below w.heap.size w wr)) (fun _ i _ => 8 - (intOf i).toNat)
  case atStart => exact ⟨0, _, _, _, _, rfl, rfl, rfl, by omega, by simp, hoE, ho1a, hide (hr2.out.more (by omega)), hb2a⟩
  case round =>
    clear hoE ho1a hb2a hb2 ho1 hr2
    obtain ⟨k, A2, n2, c2, zs, rfl, rfl, hnk, hk7, hws, ho, hok, hr, hb⟩ := hrel
    subst hnk
    have HLN := hide (lengthOf_spec k1 A1 n1 c1 _ ts1 wr hok.out.marks (Nat.le_refl _) (by omega))
    rw [hL.out] at HLN
    go_wp2_with fail
    refine HLN.out.mono ?_
    rintro e w3 ⟨rfl, hq⟩
    have hs3 := hq.size
    have hok := hide (hok.out.up hq)
    have ho := hide (ho.out.up hq)
    have hr := hide (hr.out.belowK hq)
    have hb := hide (upB hb.out hq)
    clear hq HLN
    by_cases hL0 : L < 0
    · skip
      go_wp2_with fail
      refine (pick_c g _ 12 _ hr.out (by omega) (by omega) (by omega)).mono ?_
      rintro e w4 ⟨x, rfl, hxa, hxb, hr4, hg4⟩
      have hs4 := hg4.size
      have hok := hide (hok.out.past hg4 hglt)
      have ho := hide (ho.out.past hg4 (by omega))
      have hb := hide (hb.out.grown hg4 hb.out.size (fun k hk => by injection hk with hk; omega))
      have hr4 := hide hr4
      clear hg4 hr
      by_cases hx11 : x = 11
      · subst hx11
        by_cases hkl : (n2 : Int) < 0 + 1
        · skip
          go_wp2_with fail
          refine (pick_c g _ k1 _ hr4.out (by omega) (by omega) (by omega)).mono ?_
          rintro e w5 ⟨y, rfl, hya, hyb, hr5, hg5⟩
          have hs5 := hg5.size
          have hok := hide (hok.out.past hg5 hglt)
          have ho := hide (ho.out.past hg5 (by omega))
          have hb := hide (hb.out.grown hg5 hb.out.size (fun k hk => by injection hk with hk; omega))
          have hr5 := hide hr5
          clear hg5 hr4
          have hwy := wf_i64 (z := y) (by omega)
          have hlz := hide ho.out.len
          go_wp2_with (at_builtin; refine wpList_app _ rfl _ _ 39 rfl i0 Try.underlying39 hi hz0 hz1 hz2 _ zs rfl (ho.out.alloc _) _ 1 1 _ [y] rfl (ints_lit1 hwy) (by simp; omega) (by have := hlz.out; omega) ?_; intro A₃ n₃ c₃ w6 ho6 hg6)
          have hn6 : n₃ = n2 + 1 := by have e := ho6.len; rw [List.length_append, ← hlz.out] at e; simp at e; omega
          subst hn6
          have hr6 := hide ((hr5.out.kept (World.grownBy_alloc _ (.cells #[.int .i64 y] 3) none) (fun _ e => by cases e)).kept hg6 (fun j hj => by have := (ho.out.row.lt j hj).1; omega))
          have hok6 := hide ((hok.out.alloc (.cells #[.int .i64 y] 3)).kept hg6 (own_apart hok.out ho.out))
          have hb6 := hide ((hb.out.alloc hb.out.size (.cells #[.int .i64 y] 3)).grown hg6 (by have := hb.out.size; simp; omega) (fun j hj => by have := (ho.out.row.lt j hj).1; have := hb2s.out; omega))
          have hs6 : w5.heap.size + 1 ≤ w6.heap.size := by have := hg6.size; simpa using this
          have ho6 := hide ho6
          clear hg6
          go_wp2_with fail
          go_roundw
          case rel => exact ⟨n2 + 1, _, _, _, _, by go_num, rfl, rfl, by omega, by omega, ho6, hok6, hide (hr6.out.more (by omega)), hb6⟩
          case measure => simp [intOf]; omega
        · skip
          go_wp2_with fail
          go_ret3
          exact ⟨_, _, _, _, _, _, _, _, _, rfl, hok.out.marks, by omega, ho.out.ints, by omega, by omega, by omega, hb.out⟩
      · have hx0 : x / 11 = 0 := by omega
        by_cases hkl : (n2 : Int) < 0 + 0
        · skip
          omega
        · skip
          go_wp2_with fail
          go_ret3
          exact ⟨_, _, _, _, _, _, _, _, _, rfl, hok.out.marks, by omega, ho.out.ints, by omega, by omega, by omega, hb.out⟩
    · skip
      go_wp2_with fail
      refine (pick_c g _ 12 _ hr.out (by omega) (by omega) (by omega)).mono ?_
      rintro e w4 ⟨x, rfl, hxa, hxb, hr4, hg4⟩
      have hs4 := hg4.size
      have hok := hide (hok.out.past hg4 hglt)
      have ho := hide (ho.out.past hg4 (by omega))
      have hb := hide (hb.out.grown hg4 hb.out.size (fun k hk => by injection hk with hk; omega))
      have hr4 := hide hr4
      clear hg4 hr
      by_cases hx11 : x = 11
      · subst hx11
        by_cases hkl : (n2 : Int) < L + 1
        · skip
          go_wp2_with fail
          refine (pick_c g _ k1 _ hr4.out (by omega) (by omega) (by omega)).mono ?_
          rintro e w5 ⟨y, rfl, hya, hyb, hr5, hg5⟩
          have hs5 := hg5.size
          have hok := hide (hok.out.past hg5 hglt)
          have ho := hide (ho.out.past hg5 (by omega))
          have hb := hide (hb.out.grown hg5 hb.out.size (fun k hk => by injection hk with hk; omega))
          have hr5 := hide hr5
          clear hg5 hr4
          have hwy := wf_i64 (z := y) (by omega)
          have hlz := hide ho.out.len
          go_wp2_with (at_builtin; refine wpList_app _ rfl _ _ 39 rfl i0 Try.underlying39 hi hz0 hz1 hz2 _ zs rfl (ho.out.alloc _) _ 1 1 _ [y] rfl (ints_lit1 hwy) (by simp; omega) (by have := hlz.out; omega) ?_; intro A₃ n₃ c₃ w6 ho6 hg6)
          have hn6 : n₃ = n2 + 1 := by have e := ho6.len; rw [List.length_append, ← hlz.out] at e; simp at e; omega
          subst hn6
          have hr6 := hide ((hr5.out.kept (World.grownBy_alloc _ (.cells #[.int .i64 y] 3) none) (fun _ e => by cases e)).kept hg6 (fun j hj => by have := (ho.out.row.lt j hj).1; omega))
          have hok6 := hide ((hok.out.alloc (.cells #[.int .i64 y] 3)).kept hg6 (own_apart hok.out ho.out))
          have hb6 := hide ((hb.out.alloc hb.out.size (.cells #[.int .i64 y] 3)).grown hg6 (by have := hb.out.size; simp; omega) (fun j hj => by have := (ho.out.row.lt j hj).1; have := hb2s.out; omega))
          have hs6 : w5.heap.size + 1 ≤ w6.heap.size := by have := hg6.size; simpa using this
          have ho6 := hide ho6
          clear hg6
          go_wp2_with fail
          go_roundw
          case rel => exact ⟨n2 + 1, _, _, _, _, by go_num, rfl, rfl, by omega, by omega, ho6, hok6, hide (hr6.out.more (by omega)), hb6⟩
          case measure => simp [intOf]; omega
        · skip
          go_wp2_with fail
          go_ret3
          exact ⟨_, _, _, _, _, _, _, _, _, rfl, hok.out.marks, by omega, ho.out.ints, by omega, by omega, by omega, hb.out⟩
      · have hx0 : x / 11 = 0 := by omega
        by_cases hkl : (n2 : Int) < L + 0
        · skip
          go_wp2_with fail
          refine (pick_c g _ k1 _ hr4.out (by omega) (by omega) (by omega)).mono ?_
          rintro e w5 ⟨y, rfl, hya, hyb, hr5, hg5⟩
          have hs5 := hg5.size
          have hok := hide (hok.out.past hg5 hglt)
          have ho := hide (ho.out.past hg5 (by omega))
          have hb := hide (hb.out.grown hg5 hb.out.size (fun k hk => by injection hk with hk; omega))
          have hr5 := hide hr5
          clear hg5 hr4
          have hwy := wf_i64 (z := y) (by omega)
          have hlz := hide ho.out.len
          go_wp2_with (at_builtin; refine wpList_app _ rfl _ _ 39 rfl i0 Try.underlying39 hi hz0 hz1 hz2 _ zs rfl (ho.out.alloc _) _ 1 1 _ [y] rfl (ints_lit1 hwy) (by simp; omega) (by have := hlz.out; omega) ?_; intro A₃ n₃ c₃ w6 ho6 hg6)
          have hn6 : n₃ = n2 + 1 := by have e := ho6.len; rw [List.length_append, ← hlz.out] at e; simp at e; omega
          subst hn6
          have hr6 := hide ((hr5.out.kept (World.grownBy_alloc _ (.cells #[.int .i64 y] 3) none) (fun _ e => by cases e)).kept hg6 (fun j hj => by have := (ho.out.row.lt j hj).1; omega))
          have hok6 := hide ((hok.out.alloc (.cells #[.int .i64 y] 3)).kept hg6 (own_apart hok.out ho.out))
          have hb6 := hide ((hb.out.alloc hb.out.size (.cells #[.int .i64 y] 3)).grown hg6 (by have := hb.out.size; simp; omega) (fun j hj => by have := (ho.out.row.lt j hj).1; have := hb2s.out; omega))
          have hs6 : w5.heap.size + 1 ≤ w6.heap.size := by have := hg6.size; simpa using this
          have ho6 := hide ho6
          clear hg6
          go_wp2_with fail
          go_roundw
          case rel => exact ⟨n2 + 1, _, _, _, _, by go_num, rfl, rfl, by omega, by omega, ho6, hok6, hide (hr6.out.more (by omega)), hb6⟩
          case measure => simp [intOf]; omega
        · skip
          go_wp2_with fail
          go_ret3
          exact ⟨_, _, _, _, _, _, _, _, _, rfl, hok.out.marks, by omega, ho.out.ints, by omega, by omega, by omega, hb.out⟩
end Go.Proofs.Ytffllkmaifjpfaa
