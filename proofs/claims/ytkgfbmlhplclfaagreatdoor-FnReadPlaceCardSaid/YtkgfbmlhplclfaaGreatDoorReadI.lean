/-
  Contracts of chapter 14, the program: readRowText, readDraws, ReadPlace.
-/
import Derived.Test.YtkgfbmlhplclfaaGreatDoorTextI
import Derived.Test.YtkgfbmlhplclfaaGreatDoorCloneA
namespace Go.Proofs.YtkgfbmlhplclfaaGreatDoor
open Go.RowKit
set_option linter.unusedVariables false

set_option maxRecDepth 100000 in
set_option maxHeartbeats 1600000 in
theorem readRowText_c (s : ByteArray) (w : World) (hL : LaidN w) (hs : s.size ≤ 1000) :
    Calls Tryz.prog 31 #[.string s] w fun e w' => ∃ A' n' c', e = .returned (.slice A' n' c') ∧ Own w' w.heap.size (.slice A' n' c') ((cutT 44 (bts s)).map numL) ∧ Below w.heap.size w w' := by
  obtain ⟨i0, hi, hz0, hz1, hz2⟩ := info_parts infoInt
  obtain ⟨mx, hmx⟩ := hL.max
  have hSp := hide (Tryz.strings_Split s ⟨#[44]⟩ mx w (by omega) hmx (Nat.le_refl 1))
  obtain ⟨N, hN⟩ : ∃ N, Hid (Lib.countB s ⟨#[44]⟩ + 1 = N) := ⟨_, hide rfl⟩
  obtain ⟨L, hLL⟩ : ∃ L, Hid (Lib.splitB ⟨#[44]⟩ 0 (Lib.countB s ⟨#[44]⟩) s = L) := ⟨_, hide rfl⟩
  have hcut := hide (split_cut 44 s.size s (Nat.le_refl _))
  have hlen := hide (split_len 44 s.size s (Nat.le_refl _))
  rw [hLL.out] at hcut hlen hSp
  rw [hN.out] at hlen hSp
  have hNb : N ≤ 1001 := by
    have h1 := congrArg List.length hcut.out
    rw [List.length_map, hlen.out] at h1
    have h2 := cutT_len 44 (bts s)
    rw [bts_len] at h2
    omega
  have heach := hide (fun (k : Nat) x (hx : L[k]? = some x) => show x.size ≤ 1000 from by
    have h1 : (cutT 44 (bts s))[k]? = some (bts x) := by rw [← hcut.out, List.getElem?_map, hx]; rfl
    have h2 := cutT_each 44 (bts s) _ (List.mem_of_getElem? h1)
    rw [bts_len, bts_len] at h2
    omega)
  have hget := hide (fun (k : Nat) x (hx : L[k]? = some x) => show ((cutT 44 (bts s)).map numL)[k]? = some (numL (bts x)) from by
    rw [← hcut.out, List.getElem?_map, List.getElem?_map, hx]; rfl)
  obtain ⟨Z, hZ⟩ : ∃ Z, Hid ((cutT 44 (bts s)).map numL = Z) := ⟨_, hide rfl⟩
  have hZl := hide (show Z.length = N from by rw [← hZ.out, List.length_map, ← hlen.out, ← hcut.out, List.length_map])
  rw [hZ.out] at hget ⊢
  have hcel := hide (show ∀ (k : Nat) x, L[k]? = some x → (w.alloc (.cells (L.map Value.string).toArray 9)).cell? ⟨w.heap.size, k, none⟩ = some (.string x) from fun k x hx => lit_cells w (L.map Value.string) 9 k (.string x) (by rw [List.getElem?_map, hx]; rfl))
  have hq0 := hide (al w (.cells (L.map Value.string).toArray 9))
  go_enter Tryz.func31, Tryz.ntmps31
  go_wp2_with fail
  refine hSp.out.mono ?_
  rintro e w' ⟨rfl, hw'⟩
  obtain ⟨w1, hw1⟩ : ∃ W, Hid (w.alloc (.cells (L.map Value.string).toArray 9) = W) := ⟨_, hide rfl⟩
  rw [hw1.out] at hw' hcel hq0
  subst hw'
  have hsz := hide (show w.heap.size + 1 = w'.heap.size by rw [← hw1.out]; simp)
  have hlt0 : w.heap.size < w'.heap.size := by have := hsz.out; omega
  clear hSp hw1
  go_wp2_with fail
  go_loopw [3, 5, 9] (fun v v5 i wr => ∃ k : Nat, ∃ B d f, k ≤ N ∧ i = .int .i64 k ∧ v = .slice B d f ∧ Hid (Own wr w'.heap.size (.slice B d f) (Z.take k)) ∧ Hid (Below w'.heap.size w' wr)) (fun _ _ i _ => N - (intOf i).toNat)
  case atStart => exact ⟨0, none, 0, 0, Nat.zero_le _, rfl, rfl, hide Own.none_, hide (Below.refl _ _)⟩
  case round =>
    obtain ⟨k, B, d, f, hk, rfl, rfl, ho, hb⟩ := hrel
    have hbs := hb.out.size
    by_cases hlt : k < N
    · obtain ⟨x, hx⟩ : ∃ x, Hid (L[k]? = some x) := ⟨_, hide (List.getElem?_eq_getElem (by rw [hlen.out]; exact hlt))⟩
      have hc : wr.cell? ⟨w.heap.size, k, none⟩ = some (.string x) := (hb.out.cell (p := ⟨w.heap.size, k, none⟩) hlt0).trans (hcel.out k x hx.out)
      have hxs := heach.out k x hx.out
      have hzk := hide (hget.out k x hx.out)
      have HT := hide (numberOf_c x wr (hL.up (upB hq0.out hb.out)) (by omega))
      have hwf := hide (numL_wf (bts x))
      obtain ⟨z, hz⟩ : ∃ z, Hid (numL (bts x) = z) := ⟨_, hide rfl⟩
      rw [hz.out] at HT hzk hwf
      have hld := hide ho.out.len
      go_wp2_with fail
      refine HT.out.mono ?_
      rintro e w2 ⟨rfl, hq⟩
      have ho2 := hide (ho.out.up hq)
      have hb2 := hide (upB hb.out hq)
      have hbs2 := hb2.out.size
      clear hq ho hb HT
      go_wp2_with (at_builtin; refine wpList_app _ rfl _ _ 22 rfl i0 Tryz.underlying22 hi hz0 hz1 hz2 _ (Z.take k) rfl (ho2.out.alloc _) _ 1 1 _ [z] rfl (ints_lit1 hwf.out) (by simp; omega) (by rw [List.length_take]; omega) ?_; intro A3 n3 c3 w4 ho3 hg3)
      have hb4 := hide ((hb2.out.alloc hbs2 (.cells #[.int .i64 z] 3)).grown hg3 (by simp; omega) (fun j hj => ((ho2.out.alloc (.cells #[.int .i64 z] 3)).row.lt j hj).1))
      have ho4 := hide (show Own w4 w'.heap.size (.slice A3 n3 c3) (Z.take (k + 1)) by rw [take_succ hzk.out]; exact ho3)
      clear hg3 ho2 hb2
      go_wp2
      go_roundw
      case rel => exact ⟨k + 1, _, _, _, by omega, by go_num, rfl, ho4, hb4⟩
      case measure => simp [intOf]; omega
    · obtain rfl : k = N := by omega
      have ho2 := hide (show Own wr w'.heap.size (.slice B d f) Z by
        have := ho.out
        rwa [List.take_of_length_le (by rw [hZl.out]; exact Nat.le_refl _)] at this)
      go_wp2_with fail
      go_ret
      exact ⟨B, d, f, rfl, ho2.out.down (Nat.le_of_lt hlt0), upB hq0.out hb.out⟩
theorem ixb_cnt : ((List.range 256).all fun n => decide (-1 ≤ Lib.indexByte abcL (UInt8.ofNat n) ∧ Lib.indexByte abcL (UInt8.ofNat n) ≤ 2)) = true := by kernel_rfl
theorem ixb_at (b : UInt8) : -1 ≤ Lib.indexByte abcL b ∧ Lib.indexByte abcL b ≤ 2 := by
  have := List.all_eq_true.1 ixb_cnt b.toNat (List.mem_range.2 b.toNat_lt)
  rw [UInt8.ofNat_toNat] at this
  exact of_decide_eq_true this
set_option maxRecDepth 100000 in
set_option maxHeartbeats 1600000 in
theorem readDraws_c (s : ByteArray) (w : World) (hs : s.size ≤ 1000) :
    Calls Tryz.prog 33 #[.string s] w fun e w' => ∃ A' n' c', e = .returned (.slice A' n' c') ∧ Own w' w.heap.size (.slice A' n' c') (drwL (bts s)) ∧ Below w.heap.size w w' := by
  obtain ⟨i0, hi, hz0, hz1, hz2⟩ := info_parts infoInt
  by_cases hdot : s = ⟨#[46]⟩
  · have he := hide (show drwL (bts s) = [] by rw [hdot]; rfl)
    subst hdot
    go_enter Tryz.func33, Tryz.ntmps33
    go_wp2_with fail
    go_ret
    exact ⟨none, 0, 0, rfl, by rw [he.out]; exact Own.none_, Below.refl _ _⟩
  · have hne : bts s ≠ [46] := fun e => hdot (by rw [← strB_bts s, e]; rfl)
    obtain ⟨hd0, hd1⟩ := str_neq hdot
    rw [show (⟨#[46]⟩ : ByteArray).toList = [46] by rw [ByteArray.toList_eq]] at hd0 hd1
    have hget := hide (fun (k : Nat) (hk : k < s.size) => show (drwL (bts s))[k]? = some (Lib.indexByte abcL s[k]) from by
      unfold drwL
      rw [if_neg hne, List.getElem?_map, bts_at s k hk]; rfl)
    obtain ⟨Z, hZ⟩ : ∃ Z, Hid (drwL (bts s) = Z) := ⟨_, hide rfl⟩
    have hZl := hide (show Z.length = s.size from by rw [← hZ.out]; unfold drwL; rw [if_neg hne, List.length_map, bts_len])
    rw [hZ.out] at hget ⊢
    obtain ⟨N, hN⟩ : ∃ N, Hid (s.size = N) := ⟨_, hide rfl⟩
    clear hne hdot
    go_enter Tryz.func33, Tryz.ntmps33
    go_wp2_with fail
    go_loopw [3, 4, 9] (fun v v4 i wr => ∃ k : Nat, ∃ B d f, k ≤ s.size ∧ i = .int .i64 k ∧ v = .slice B d f ∧ Hid (Own wr w.heap.size (.slice B d f) (Z.take k)) ∧ Hid (Below w.heap.size w wr)) (fun _ _ i _ => s.size - (intOf i).toNat)
    case atStart => exact ⟨0, none, 0, 0, Nat.zero_le _, rfl, rfl, hide Own.none_, hide (Below.refl _ _)⟩
    case round =>
      obtain ⟨k, B, d, f, hk, rfl, rfl, ho, hb⟩ := hrel
      have hbs := hb.out.size
      by_cases hlt : k < s.size
      · have hzk := hide (hget.out k hlt)
        have hwf := hide (show (Lit.int .i64 (Lib.indexByte abcL s[k])).wf = true from wf_i64 (by have := ixb_at s[k]; omega))
        have HT := hide (fun (W : World) => show Calls Tryz.prog 55 #[.string ⟨#[97, 98, 99]⟩, .int .u8 (s[k].toNat : Int)] W (fun e w' => e = .returned (.int .i64 (Lib.indexByte abcL s[k])) ∧ Below W.heap.size W w') from
          (Tryz.strings_IndexByte ⟨#[97, 98, 99]⟩ (s[k].toNat : Int) W).mono fun e w' ⟨e1, e2⟩ => ⟨by rw [e1]; show _ = Ending.returned (.int .i64 (Lib.indexByte abcL s[k])); rw [Lib.byte_back']; rfl, by rw [e2]; exact Below.refl _ _⟩)
        obtain ⟨z, hz⟩ : ∃ z, Hid (Lib.indexByte abcL s[k] = z) := ⟨_, hide rfl⟩
        rw [hz.out] at HT hzk hwf
        have hld := hide ho.out.len
        have hlt2 := hide hlt
        go_wp2_with fail
        refine (HT.out _).mono ?_
        rintro e w2 ⟨rfl, hq⟩
        have ho2 := hide (ho.out.up hq)
        have hb2 := hide (upB hb.out hq)
        have hbs2 := hb2.out.size
        clear hq ho hb HT
        go_wp2_with (at_builtin; refine wpList_app _ rfl _ _ 22 rfl i0 Tryz.underlying22 hi hz0 hz1 hz2 _ (Z.take k) rfl (ho2.out.alloc _) _ 1 1 _ [z] rfl (ints_lit1 hwf.out) (by simp; omega) (by rw [List.length_take]; omega) ?_; intro A3 n3 c3 w4 ho3 hg3)
        have hb4 := hide ((hb2.out.alloc hbs2 (.cells #[.int .i64 z] 3)).grown hg3 (by simp; omega) (fun j hj => ((ho2.out.alloc (.cells #[.int .i64 z] 3)).row.lt j hj).1))
        have ho4 := hide (show Own w4 w.heap.size (.slice A3 n3 c3) (Z.take (k + 1)) by rw [take_succ hzk.out]; exact ho3)
        clear hg3 ho2 hb2
        go_wp2
        go_roundw
        case rel => exact ⟨k + 1, _, _, _, by omega, by go_num, rfl, ho4, hb4⟩
        case measure => simp [intOf]; omega
      · obtain ⟨kk, hkk⟩ : ∃ m, m = k := ⟨_, rfl⟩
        have hke := hide (show k = s.size by omega)
        have ho2 := hide (show Own wr w.heap.size (.slice B d f) Z by
          have := ho.out
          rwa [List.take_of_length_le (by rw [hZl.out, hke.out]; exact Nat.le_refl _)] at this)
        go_wp2_with fail
        go_ret
        exact ⟨B, d, f, rfl, ho2.out, hb.out⟩
end Go.Proofs.YtkgfbmlhplclfaaGreatDoor
