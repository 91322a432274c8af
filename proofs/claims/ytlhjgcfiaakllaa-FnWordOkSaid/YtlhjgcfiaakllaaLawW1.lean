/-
  Laws of chapter 2 walked: FnWordOk.
-/
import Derived.Test.YtlhjgcfiaakllaaLawAid
import Derived.Test.YtlhjgcfiaakllaaDrawCh2
import Derived.Test.YtlhjgcfiaakllaaImpD
import Derived.Test.YtlhjgcfiaakllaaWordE
import Derived.Test.YtlhjgcfiaakllaaPlainS
namespace Go.Proofs.Ytlhjgcfiaakllaa
open Go.RowKit

set_option maxHeartbeats 1600000 in
theorem lawWordOk {A : Option Addr} {n c : Nat} {bs : List Int} {w : World} (h : Bts w w.heap.size A n c bs) :
    Calls Try.prog 3 #[.slice A n c] w fun e w' => e = .returned (.bool true) ∧ Below w.heap.size w w' := by
  have hbig := h.big
  have hle := h.le
  unfold maxLen at hbig
  by_cases hn : 1048576 < n
  · go_enter Try.func3, Try.ntmps3
    go_wp2
    go_ret
    exact ⟨rfl, Below.refl _ _⟩
  · have hD := hide (DrawWordOk_c A n c bs w h)
    obtain ⟨i0, hi, hz0, hz1, hz2⟩ := info_parts infoInt
    go_enter Try.func3, Try.ntmps3
    go_wp2_with fail
    refine hD.out.mono ?_
    rintro e w0 ⟨A', n', c', zs, cl, rfl, hz, hn8, hcl1, hcl2, hb0⟩
    have hz := hide hz
    have hl := hide hz.out.len
    have hb0 := hide hb0
    clear hD
    go_wp2_with fail
    refine (wordOk_impl cl _ _ _ _ zs _ hz.out (Nat.le_refl _)).mono ?_
    rintro e w1 ⟨rfl, hq1⟩
    have hs1 := hq1.size
    have hz := hide ((hz.out.below hq1).more hs1)
    have hb1 := hide (hb0.out.trans (hq1.mono hb0.out.size))
    clear hq1 hb0
    go_wp2_with fail
    refine (wordOk_spec cl _ _ _ _ zs _ hz.out).mono ?_
    rintro e w' ⟨rfl, rfl⟩
    have hbb := hide (below_empty hb1.out (.cells #[] 3))
    have hoo := hide (own_empty (w := w1) (base := w1.heap.size) (Nat.le_refl _))
    go_wp2_with fail
    go_loopw [6, 7] (fun v i wr => ∃ k : Nat, ∃ B d f, k ≤ n' ∧ i = .int .i64 k ∧ v = .slice B d f ∧ Hid (Own wr w1.heap.size (.slice B d f) (zs.take k).reverse) ∧ Hid (Below w1.heap.size w1 wr)) (fun _ i _ => n' - (intOf i).toNat)
    case atStart => exact ⟨0, _, _, _, by omega, rfl, rfl, hoo, hide ((Below.refl _ _).alloc (Nat.le_refl _) _)⟩
    case round =>
      clear hoo hbb
      obtain ⟨k, B, d, f, hk, rfl, rfl, ho, hb⟩ := hrel
      have hs := hb.out.size
      by_cases hlt : k < n'
      · obtain ⟨b, off, x, rfl, hbB, hx, hcell⟩ := (hz.out.below hb.out).look hlt
        have hwx := hide (hz.out.wf_at hx.out)
        have hld := hide ho.out.len
        go_wp2_with (at_builtin; refine wpList_app _ rfl _ _ 23 rfl i0 Try.underlying23 hi hz0 hz1 hz2 _ [x] rfl (ints_lit [x] (by intro y hy; simp at hy; subst hy; exact hwx.out) (by simp) rfl) _ d f _ (zs.take k).reverse rfl (ho.out.alloc _).ints (by simp) (by have := hld.out; rw [List.length_reverse, List.length_take] at this; simp; omega) ?_; intro A₃ n₃ c₃ w3 ho3 hg3)
        have hb3 := hide ((hb.out.alloc hs (.cells #[.int .i64 x] 3)).grown hg3 (by simp; omega) (fun j hj => Nat.le_trans hs (Nat.le_of_eq (Option.some.inj hj))))
        have ho3 := hide (show Own w3 w1.heap.size (.slice A₃ n₃ c₃) (zs.take (k + 1)).reverse by
          rw [take_succ hx.out, List.reverse_append]
          exact ho3.down hs)
        clear hg3 ho hb hcell
        go_wp2
        go_roundw
        case rel => exact ⟨k + 1, _, _, _, by omega, by go_num, rfl, ho3, hb3⟩
        case measure => simp [intOf]; omega
      · obtain rfl : k = n' := by omega
        have ho2 := hide (show Own wr w1.heap.size (.slice B d f) zs.reverse by
          have := ho.out
          rwa [List.take_of_length_le (by have := hl.out; omega)] at this)
        have hbt := hide (hb1.out.trans (hb.out.mono hb1.out.size))
        have e1 : wordOk 1 [] = true := by decide
        have e0 : wordOk 0 [] = false := by decide
        have eR := hide (wordOk_reverse cl zs)
        clear hb ho hb1 hz
        go_wp2_with fail
        refine (wordOk_impl 1 _ _ _ _ [] _ (own_empty (base := wr.heap.size) (Nat.le_refl _)).ints (Nat.le_refl _)).mono ?_
        rw [e1]
        rintro e w4 ⟨rfl, hq4⟩
        have ho4 := hide ((ho2.out.alloc (.cells #[] 3)).below hq4 (Nat.le_refl _))
        have hb4 := hide ((below_empty hbt.out (.cells #[] 3)).trans (hq4.mono (below_empty hbt.out (.cells #[] 3)).size))
        clear hq4 ho2 hbt
        go_wp2_with fail
        refine (wordOk_impl 0 _ _ _ _ [] _ (own_empty (base := w4.heap.size) (Nat.le_refl _)).ints (Nat.le_refl _)).mono ?_
        rw [e0]
        rintro e w5 ⟨rfl, hq5⟩
        have ho5 := hide ((ho4.out.alloc (.cells #[] 3)).below hq5 (Nat.le_refl _))
        have hb5 := hide ((below_empty hb4.out (.cells #[] 3)).trans (hq5.mono (below_empty hb4.out (.cells #[] 3)).size))
        clear hq5 ho4 hb4
        go_wp2_with fail
        refine (wordOk_impl cl _ _ _ _ _ _ ho5.out.ints (Nat.le_refl _)).mono ?_
        rw [eR.out]
        rintro e w6 ⟨rfl, hq6⟩
        go_wp2_with fail
        go_ret
        exact ⟨by simp, hb5.out.trans (hq6.mono hb5.out.size)⟩
end Go.Proofs.Ytlhjgcfiaakllaa
