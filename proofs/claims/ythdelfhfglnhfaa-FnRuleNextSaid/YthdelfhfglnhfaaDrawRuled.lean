/-
  The drawn rules: spec.l20Rule for every number of colours, spec.l20Ruled, DrawStartOk.
-/
import Derived.Test.YthdelfhfglnhfaaDrawRule
namespace Go.Proofs.Ythdelfhfglnhfaa
open Go.RowKit

theorem results_tmp4 {fn : Func} {t u v x : Tmp} (h : fn.results = #[.tmp t, .tmp u, .tmp v, .tmp x]) (tmps : Array Value) (P : Program) (w : World) :
    (results fn tmps).run P w = .ok (.tuple #[tmps.getD t undef, tmps.getD u undef, tmps.getD v undef, tmps.getD x undef]) w := by
  simp [results, h]

theorem rule_c (g m : Nat) (cl q : Int) (w : World) (h : Rd w g m) (hm : m ≤ 10000) (hq : 1 ≤ q) (hq2 : q ≤ 1000000) :
    Calls Try.prog 44 #[.pointer (some ⟨g, 0, none⟩), .int .i64 cl, .int .i64 q] w fun e w' => ∃ A n c rs, e = .returned (.slice A n c) ∧ MatL w' w.heap.size A n c rs ∧ n ≤ 3 ∧ Rd w' g (m + 40) ∧ w.grownBy w' (some g) := by
  rcases (show cl < 1 ∨ (1 ≤ cl ∧ cl ≤ 3) ∨ 3 < cl by omega) with hcl | ⟨hcl, hcl2⟩ | hcl
  · exact rule_lo g m cl q w h hm hq hq2 hcl
  · obtain ⟨C, rfl⟩ : ∃ C : Nat, cl = (C : Int) := ⟨cl.toNat, by omega⟩
    exact rule_mid g m C q w h hm hq hq2 (by omega) (by omega)
  · exact rule_hi g m cl q w h hm hq hq2 hcl

set_option maxHeartbeats 1000000 in
theorem ruled_c (g m : Nat) (w : World) (h : Rd w g m) (hm : m ≤ 5000) :
    Calls Try.prog 54 #[.pointer (some ⟨g, 0, none⟩)] w fun e w' => ∃ A n c zs A1 n1 c1 rs A' n' c' ws, e = .returned (.tuple #[.slice A n c, .slice A1 n1 c1, .slice A' n' c']) ∧ Own w' w.heap.size (.slice A n c) zs ∧ n ≤ 8 ∧ MatL w' w.heap.size A1 n1 c1 rs ∧ n1 ≤ 3 ∧ Own w' w.heap.size (.slice A' n' c') ws ∧ n' ≤ 8 ∧ Rd w' g (m + 80) ∧ w.grownBy w' (some g) := by
  have hgl := h.lt
  have h := hide h
  go_enter Try.func54, Try.ntmps54
  go_wp2_with fail
  refine (urn_c g m 14 _ h.out (by omega) (by omega) (by omega)).mono ?_
  rintro e w1 ⟨A, n, c, zs, rfl, ho, hn, hr, hg⟩
  have hs1 := hg.size
  have ho := hide ho
  have hr := hide hr
  have hg := hide hg
  clear h
  go_wp2_with fail
  refine (rule_c g _ (n : Int) 14 _ hr.out (by omega) (by omega) (by omega)).mono ?_
  rintro e w2 ⟨A1, n1, c1, rs, rfl, hM, hn1, hr2, hg2⟩
  have hs2 := hg2.size
  have ho2 := hide (ho.out.past hg2 hgl)
  have hgr2 := hide (grown_new hg.out hg2 (fun _ _ => .inr rfl))
  have hM := hide (hM.down hs1)
  have hr2 := hide hr2
  clear hg2 hg ho hr
  go_wp2_with fail
  refine (word_c g _ (n : Int) 14 _ hr2.out (by omega) (by omega) (by omega) (by omega)).mono ?_
  rintro e w3 ⟨A', n', c', ws, rfl, ho', hn', hr', hg'⟩
  have ho3 := hide (ho2.out.past hg' hgl)
  have hM3 := hide (hM.out.past hg' hgl)
  have hgr3 := hide (grown_new hgr2.out hg' (fun _ _ => .inr rfl))
  have ho' := hide (ho'.down (Nat.le_trans hs1 hs2))
  have hr' := hide hr'
  clear hg' hgr2 ho2 hM hr2
  go_wp2_with fail
  go_ret3
  exact ⟨_, _, _, zs, _, _, _, rs, _, _, _, ws, rfl, ho3.out, hn, hM3.out, hn1, ho'.out, hn', hr'.out.more (by omega), hgr3.out⟩

set_option maxHeartbeats 1000000 in
theorem DrawStartOk_c (A : Option Addr) (n c : Nat) (bs : List Int) (w : World) (h : Bts w w.heap.size A n c bs) :
    Calls Try.prog 16 #[.slice A n c] w fun e w' => ∃ A1 n1 c1 zs1, e = .returned (.slice A1 n1 c1) ∧ Ints w' w'.heap.size A1 n1 c1 zs1 ∧ n1 ≤ 10 ∧ Below w.heap.size w w' := by
  have HO := hide (open_c A n c bs w h)
  go_enter Try.func16, Try.ntmps16
  go_wp2_with fail
  refine HO.out.mono ?_
  rintro e w1 ⟨g, rfl, hr1, hg, hb1⟩
  have hgl := hr1.lt
  have hr1 := hide hr1
  have hb1 := hide hb1
  clear HO
  go_wp2_with fail
  refine (urn_c g _ 6 _ hr1.out (by omega) (by omega) (by omega)).mono ?_
  rintro e w2 ⟨A1, n1, c1, zs1, rfl, ho1, hn1, hr2, hg2⟩
  have hb2 := hide (hb1.out.grown hg2 hb1.out.size (fun k hk => by injection hk with hk; omega))
  have hs2 := hg2.size
  have ho1 := hide ho1
  have hr2 := hide hr2
  clear hg2 hb1 hr1
  go_wp2_with fail
  refine (odd_c g _ 4 _ hr2.out (by omega) (by omega) (by omega)).mono ?_
  rintro e w3 ⟨b, rfl, hr3, hg3⟩
  have hb3 := hide (hb2.out.grown hg3 hb2.out.size (fun k hk => by injection hk with hk; omega))
  have ho3 := hide (ho1.out.past hg3 (by omega))
  have hl3 := hide ho3.out.len
  clear hg3 hb2 hr2 ho1
  cases b with
  | false =>
    go_wp2_with fail
    go_ret
    exact ⟨_, _, _, _, rfl, ho3.out.ints, by omega, hb3.out⟩
  | true =>
    by_cases hn0 : 0 < n1
    · obtain ⟨u, hu⟩ : ∃ u, Hid (zs1[0]? = some u) := ⟨_, hide (List.getElem?_eq_getElem (by have := hl3.out; omega))⟩
      obtain ⟨gr, hA, hgb, hgl2, hcu, hfu⟩ := ho3.out.at2 hu.out
      subst hA
      have ho4 := hide (ho3.out.set_ (k := 0) 11 (wf_i64 (by omega)))
      have hb4 := hide (hb3.out.setCell (p := ⟨gr, 0, none⟩) (by simp; omega) (.int .i64 11))
      go_wp2_with fail
      go_ret
      exact ⟨_, _, _, _, rfl, ho4.out.ints, by omega, hb4.out⟩
    · obtain rfl : n1 = 0 := by omega
      go_wp2_with fail
      go_ret
      exact ⟨_, _, _, _, rfl, ho3.out.ints, by omega, hb3.out⟩
end Go.Proofs.Ythdelfhfglnhfaa
