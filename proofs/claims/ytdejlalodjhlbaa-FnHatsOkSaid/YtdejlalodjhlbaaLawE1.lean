/-
  Laws of chapter 13 walked: FnHatsOk (written by wip/gen_b6.py).
-/
import Derived.Test.YtdejlalodjhlbaaHatI
import Derived.Test.YtdejlalodjhlbaaPlainAG
import Derived.Test.YtdejlalodjhlbaaDrawHat
import Derived.Test.YtdejlalodjhlbaaLawX1
import Derived.Test.YtdejlalodjhlbaaZdraw
namespace Go.Proofs.Ytdejlalodjhlbaa
open Go.RowKit
set_option linter.unusedVariables false

theorem hat_lit1 {w : World} {x : Int} (hx : (Lit.int .i64 x).wf = true) : Own (w.alloc (.cells #[.int .i64 x] 3)) w.heap.size (.slice (some ⟨w.heap.size, 0, none⟩) 1 1) [x] :=
  ⟨⟨rfl, .inr ⟨w.heap.size, 1, #[.int .i64 x], rfl, Nat.le_refl _, heap_alloc_new w _, Nat.le_refl _, by unfold maxLen; omega, rfl, rfl⟩⟩, fun z hz => by simp at hz; subst hz; exact hx⟩

set_option maxRecDepth 100000 in
set_option maxHeartbeats 3200000 in
theorem lawHatsOk {A : Option Addr} {n c : Nat} {bs : List Int} {w : World} (h : Bts w w.heap.size A n c bs) :
    Calls Try.prog 3 #[.slice A n c] w fun e w' => e = .returned (.bool true) ∧ Below w.heap.size w w' := by
  have hbig := h.big
  have hle := h.le
  unfold maxLen at hbig
  by_cases hn : 1048576 < n
  · go_enter Try.func3, Try.ntmps3
    go_wp2
    go_ret
    exact ⟨rfl, Below.refl _ _⟩
  · have hD := hide (DrawHatsOk_c A n c bs w h)
    obtain ⟨i0, hi, hz0, hz1, hz2⟩ := info_parts infoInt
    go_enter Try.func3, Try.ntmps3
    go_wp2_with fail
    refine hD.out.mono ?_
    rintro e w0 ⟨Arow, nrow, crow, row, rfl, hzrow, hnrow, hb⟩
    have hlrow := hide hzrow.len
    replace hzrow := hide hzrow
    replace hb := hide hb
    clear hD
    go_wp2_with fail
    refine (hatsOk_impl _ _ _ _ row _ hzrow.out (Nat.le_refl _)).mono ?_
    rintro e w1 ⟨rfl, hq⟩
    replace hzrow := hide (hzrow.out.up hq)
    replace hb := hide (upB hb.out (hq))
    clear hq
    go_wp2_with fail
    refine (sameB (hatsOk_spec _ _ _ _ row _ hzrow.out)).mono ?_
    rintro e w2 ⟨rfl, hq⟩
    replace hzrow := hide (hzrow.out.up hq)
    replace hb := hide (upB hb.out (hq))
    clear hq
    have ht := hide (hats_turn row)
    obtain ⟨V, hV⟩ : ∃ V, Hid (hatsB row = V) := ⟨_, hide rfl⟩
    rw [hV.out]
    rw [hV.out] at ht
    have hoback := hide (own_empty (w := w2) (base := 0) (Nat.zero_le _))
    replace hzrow := hide (hzrow.out.up (al _ (.cells #[] 3)))
    replace hb := hide (upB hb.out ((al _ (.cells #[] 3))))
    go_wp2_with fail
    go_loopw [5, 6] (fun v i wr => ∃ k : Nat, ∃ B d f, k ≤ nrow ∧ i = .int .i64 k ∧ v = .slice B d f ∧ Hid (Own wr 0 (.slice B d f) (row.take k).reverse) ∧ Hid (Ints wr wr.heap.size Arow nrow crow row) ∧ Hid (Below w.heap.size w wr)) (fun _ i _ => nrow - (intOf i).toNat)
    case atStart => exact ⟨0, _, _, _, Nat.zero_le _, rfl, rfl, hoback, hzrow, hb⟩
    case round =>
      clear hoback hzrow hb
      obtain ⟨k, B, d, f, hk, rfl, rfl, hoback, hzrow, hb⟩ := hrel
      by_cases hlt : k < nrow
      · obtain ⟨b, off, x, rfl, hbB, hx, hcell⟩ := hzrow.out.look hlt
        have hwx := hide (hzrow.out.wf_at hx.out)
        have hld := hide hoback.out.len
        go_wp2_with (at_builtin; refine wpList_app _ rfl _ _ 23 rfl i0 Try.underlying23 hi hz0 hz1 hz2 _ [x] rfl (ints_lit [x] (by intro y hy; simp at hy; subst hy; exact hwx.out) (by simp) rfl) _ d f _ (row.take k).reverse rfl (hoback.out.alloc _).ints (by simp) (by have := hld.out; rw [List.length_reverse, List.length_take] at this; simp; omega) ?_; intro A₃ n₃ c₃ w3 ho3 hg3)
        have hq := al_grown hg3 (Nat.le_refl _)
        have ho3 := hide (show Own w3 0 (.slice A₃ n₃ c₃) (row.take (k + 1)).reverse by
          rw [take_succ hx.out, List.reverse_append]
          exact ho3.down (Nat.zero_le _))
        clear hg3 hcell
        replace hzrow := hide (hzrow.out.up hq)
        replace hb := hide (upB hb.out (hq))
        clear hq hoback
        go_wp2
        go_roundw
        case rel => exact ⟨k + 1, _, _, _, by omega, by go_num, rfl, ho3, hzrow, hb⟩
        case measure => simp [intOf]; omega
      · obtain rfl : k = nrow := by omega
        obtain ⟨nrow, hk0⟩ : ∃ m, m = k := ⟨_, rfl⟩
        subst hk0
        replace hoback := hide (show Own wr 0 (.slice B d f) row.reverse by
          have := hoback.out
          rwa [List.take_of_length_le (by have := hlrow.out; omega)] at this)
        have honil := hide (own_empty (w := wr) (base := 0) (Nat.zero_le _))
        replace hzrow := hide (hzrow.out.up (al _ (.cells #[] 3)))
        replace hoback := hide (hoback.out.up (al _ (.cells #[] 3)))
        replace hb := hide (upB hb.out ((al _ (.cells #[] 3))))
        go_wp2_with fail
        refine (hatsOk_impl _ _ _ _ [] _ honil.out.ints (Nat.le_refl _)).mono ?_
        rw [show hatsB [] = true by decide]
        rintro e w3 ⟨rfl, hq⟩
        replace hzrow := hide (hzrow.out.up hq)
        replace hoback := hide (hoback.out.up hq)
        replace honil := hide (honil.out.up hq)
        replace hb := hide (upB hb.out (hq))
        clear hq
        have hoone := hide ((hat_lit1 (w := w3) (x := 1) (by decide)).down (Nat.zero_le _))
        replace hzrow := hide (hzrow.out.up (al _ (.cells #[.int .i64 1] 3)))
        replace hoback := hide (hoback.out.up (al _ (.cells #[.int .i64 1] 3)))
        replace honil := hide (honil.out.up (al _ (.cells #[.int .i64 1] 3)))
        replace hb := hide (upB hb.out ((al _ (.cells #[.int .i64 1] 3))))
        go_wp2_with fail
        refine (hatsOk_impl _ _ _ _ [1] _ hoone.out.ints (Nat.le_refl _)).mono ?_
        rw [show hatsB [1] = false by decide]
        rintro e w4 ⟨rfl, hq⟩
        replace hzrow := hide (hzrow.out.up hq)
        replace hoback := hide (hoback.out.up hq)
        replace honil := hide (honil.out.up hq)
        replace hoone := hide (hoone.out.up hq)
        replace hb := hide (upB hb.out (hq))
        clear hq
        go_wp2_with fail
        refine (hatsOk_impl _ _ _ _ row.reverse _ hoback.out.ints (Nat.le_refl _)).mono ?_
        rw [ht.out]
        rintro e w5 ⟨rfl, hq⟩
        replace hzrow := hide (hzrow.out.up hq)
        replace hoback := hide (hoback.out.up hq)
        replace honil := hide (honil.out.up hq)
        replace hoone := hide (hoone.out.up hq)
        replace hb := hide (upB hb.out (hq))
        clear hq
        go_wp2_with fail
        go_ret
        exact ⟨by simp, hb.out⟩
end Go.Proofs.Ytdejlalodjhlbaa
