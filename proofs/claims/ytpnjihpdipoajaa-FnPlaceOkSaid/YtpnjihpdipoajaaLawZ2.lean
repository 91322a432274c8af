/-
  Laws of chapter 14 walked: FnPlaceOk (written by wip/gen_f3.py).
-/
import Derived.Test.YtpnjihpdipoajaaDrawPo
import Derived.Test.YtpnjihpdipoajaaPlaceI
import Derived.Test.YtpnjihpdipoajaaPlaceS
import Derived.Test.YtpnjihpdipoajaaPlainAQ
import Derived.Test.YtpnjihpdipoajaaZdraw
namespace Go.Proofs.Ytpnjihpdipoajaa
open Go.RowKit
set_option linter.unusedVariables false

set_option maxRecDepth 100000 in
set_option maxHeartbeats 3200000 in
theorem lawPlaceOk {A : Option Addr} {n c : Nat} {bs : List Int} {w : World} (h : Bts w w.heap.size A n c bs) :
    Calls Try.prog 3 #[.slice A n c] w fun e w' => e = .returned (.bool true) ∧ Below w.heap.size w w' := by
  have hbig := h.big
  have hle := h.le
  unfold maxLen at hbig
  by_cases hn : 1048576 < n
  · go_enter Try.func3, Try.ntmps3
    go_wp2
    go_ret
    exact ⟨rfl, Below.refl _ _⟩
  · have hDr := hide (DrawPlaceOk_c A n c bs w h)
    obtain ⟨i0, hi, hz0, hz1, hz2⟩ := info_parts infoInt
    go_enter Try.func3, Try.ntmps3
    go_wp2_with fail
    refine hDr.out.mono ?_
    rintro e w1 ⟨u, p, rfl, hp, hl1, hl2, hb1⟩
    obtain ⟨A1, n1, c1, A2, n2, c2, rfl, i1, i2, hwf⟩ := hp.ex
    have hlen := hide i2.len
    have hn2 : n2 ≤ 10 := by have := hlen.out; omega
    have hq1 := hide (al w1 (.cells #[.slice A1 n1 c1, .int .i64 p.step, .slice A2 n2 c2] 25))
    have ht1 := hide (TriW.made w1 (.slice A1 n1 c1) (.int .i64 p.step) (.slice A2 n2 c2) 25)
    have hP1 := hide (hp.up hq1.out)
    have hi1 := hide (i1.up hq1.out)
    have hi2 := hide (i2.up hq1.out)
    have hb1 := hide (upB hb1 hq1.out)
    have hr := hide (placeOk_rev p)
    have hbare := hide (fun h : placeOk p = true => placeOk_bare h)
    have HI := hide (placeOk_impl _ p _ _ hP1.out (Nat.le_refl _))
    have HS := hide (fun (W : World) (hp : PlM W W.heap.size (.agg #[.slice A1 n1 c1, .int .i64 p.step, .slice A2 n2 c2]) p) => placeOk_spec _ p _ W hp (Nat.le_refl _))
    obtain ⟨V, hV⟩ : ∃ V, Hid (placeOk p = V) := ⟨_, hide rfl⟩
    rw [hV.out] at HI HS hr hbare
    obtain ⟨s0, s1, s2, t0, t1, t2, _⟩ := ht1.out
    clear hDr i1 i2 hp hl1 hl2
    go_wp2_with fail
    refine HI.out.mono ?_
    rintro e w2 ⟨rfl, hq2⟩
    have ht2 := hide (ht1.out.up hq2)
    have hP2 := hide (hP1.out.up hq2)
    have hj1 := hide (hi1.out.up hq2)
    have hj2 := hide (hi2.out.up hq2)
    have hb2 := hide (upB hb1.out hq2)
    clear HI hq2 ht1 hP1 hq1 hb1 hi1 hi2
    obtain ⟨a0, a1, a2, _, _, _, _⟩ := ht2.out
    go_wp2_with fail
    refine (HS.out _ hP2.out).mono ?_
    rintro e w3 ⟨rfl, hq3⟩
    have ht3 := hide (ht2.out.up hq3)
    have hk1 := hide (hj1.out.up hq3)
    have hk2 := hide (hj2.out.up hq3)
    have hb3 := hide (upB hb2.out hq3)
    clear HS hq3 ht2 hP2 hb2 hj1 hj2
    have hbb := hide (al w3 (.cells #[] 3))
    have hoo := hide (own_empty (w := w3) (base := w3.heap.size) (Nat.le_refl _))
    go_wp2_with fail
    go_loopw [5, 6] (fun v i wr => ∃ k : Nat, ∃ B d f, k ≤ n2 ∧ i = .int .i64 k ∧ v = .slice B d f ∧ Hid (Own wr w3.heap.size (.slice B d f) (p.word.take k).reverse) ∧ Hid (Below w3.heap.size w3 wr)) (fun _ i _ => n2 - (intOf i).toNat)
    case atStart => exact ⟨0, _, _, _, by omega, rfl, rfl, hoo, hbb⟩
    case round =>
      clear hoo hbb
      obtain ⟨k, B, d, f, hk, rfl, rfl, ho, hb⟩ := hrel
      have hs := hb.out.size
      have htr := hide (ht3.out.up hb.out)
      clear a0 a1 a2 s0 s1 s2 t0 t1 t2
      obtain ⟨a0, a1, a2, _, _, _, _⟩ := htr.out
      by_cases hlt : k < n2
      · obtain ⟨b, off, x, rfl, hbB, hx, hcell⟩ := (hk2.out.below hb.out).look hlt
        have hwx := hide (hk2.out.wf_at hx.out)
        have hld := hide ho.out.len
        go_wp2_with (at_builtin; refine wpList_app _ rfl _ _ 23 rfl i0 Try.underlying23 hi hz0 hz1 hz2 _ [x] rfl (ints_lit [x] (by intro y hy; simp at hy; subst hy; exact hwx.out) (by simp) rfl) _ d f _ (p.word.take k).reverse rfl (ho.out.alloc _).ints (by simp) (by have := hld.out; rw [List.length_reverse, List.length_take] at this; simp; omega) ?_; intro A₃ n₃ c₃ w4 ho3 hg3)
        have hb4 := hide ((hb.out.alloc hs (.cells #[.int .i64 x] 3)).grown hg3 (by simp; omega) (fun j hj => Nat.le_trans hs (Nat.le_of_eq (Option.some.inj hj))))
        have ho4 := hide (show Own w4 w3.heap.size (.slice A₃ n₃ c₃) (p.word.take (k + 1)).reverse by
          rw [take_succ hx.out, List.reverse_append]
          exact ho3.down hs)
        clear hg3 ho hb hcell
        go_wp2
        go_roundw
        case rel => exact ⟨k + 1, _, _, _, by omega, by go_num, rfl, ho4, hb4⟩
        case measure => simp [intOf]; omega
      · obtain rfl : k = n2 := by omega
        have ho2 := hide (show Own wr w3.heap.size (.slice B d f) p.word.reverse by
          have := ho.out
          rwa [List.take_of_length_le (by have := hlen.out; omega)] at this)
        have hbt := hide (upB hb3.out hb.out)
        have hk1r := hide (hk1.out.up hb.out)
        have HB := hide (placeOk_impl _ ⟨p.start, p.step, p.word.reverse⟩ _ wr (plM_mk hk1r.out ho2.out.ints hwf) (Nat.le_refl _))
        rw [hr.out] at HB
        have HA := hide (fun W => alive_c W)
        have HN := hide (fun (W : World) (hq : Below wr.heap.size wr W) (hv : V = true) => show Calls Try.prog 8 #[.agg #[.slice A1 n1 c1, .int .i64 p.step, .slice none 0 0]] W (fun e w' => e = .returned (.bool true) ∧ Below wr.heap.size wr w') from
          (placeOk_impl _ ⟨p.start, p.step, []⟩ _ W (plM_mk (hk1r.out.up hq) Ints.nil hwf) (Nat.le_refl _)).mono fun e w' ⟨e1, hq'⟩ => ⟨by rw [hbare.out hv] at e1; exact e1, upB hq hq'⟩)
        clear hb ho hr hbare
        go_wp2_with fail
        refine HB.out.mono ?_
        rintro e w4 ⟨rfl, hq4⟩
        obtain ⟨b0, b1, b2, _, _, _, _⟩ := htr.out.up hq4
        cases V with
        | false =>
          go_wp2_with fail
          refine (HA.out _).mono ?_
          rintro e w5 ⟨rfl, hq5⟩
          have hb5 := hide (upB hbt.out (upB hq4 hq5))
          go_wp2_with fail
          go_ret
          exact ⟨rfl, hb5.out⟩
        | true =>
          go_wp2_with fail
          refine (HN.out _ hq4 (by simp)).mono ?_
          rintro e w5 ⟨rfl, hq5⟩
          go_wp2_with fail
          refine (HA.out _).mono ?_
          rintro e w6 ⟨rfl, hq6⟩
          have hb5 := hide (upB hbt.out (upB hq5 hq6))
          go_wp2_with fail
          go_ret
          exact ⟨rfl, hb5.out⟩
end Go.Proofs.Ytpnjihpdipoajaa
