/-
  Words, plain lemmas and contracts that belong together, joined into one file.
-/
import Derived.Test.YtoafpokcbbncfaaDoorProg
import Derived.Test.YtoafpokcbbncfaaDoorZpl
import Derived.Deep.QuietTactic
import Derived.BigQuiet
import Derived.RegionTactic
import Derived.Lib.SliceRun
import Derived.StillTailTactics
namespace Go.Proofs.YtoafpokcbbncfaaDoor
open Go.RowKit

theorem infoInt : (Tryd.prog.info? 3).map (fun i => (i.zero, i.size, i.bytes)) = some (some (.int .i64 0), 1, 8) := by kernel_rfl

theorem l1In_c (a lo hi : Int) (w : World) : Calls Tryd.prog 80 #[.int .i64 a, .int .i64 lo, .int .i64 hi] w fun e w' => e = .returned (.bool (decide (lo ≤ a ∧ a ≤ hi))) ∧ w = w' := by
  by_cases h1 : lo ≤ a
  · by_cases h2 : a ≤ hi
    · go_enter Tryd.func80, Tryd.ntmps80
      go_wp2
      go_ret
      exact ⟨ret_bool (by simp; omega), rfl⟩
    · go_enter Tryd.func80, Tryd.ntmps80
      go_wp2
      go_ret
      exact ⟨ret_bool (by simp; omega), rfl⟩
  · go_enter Tryd.func80, Tryd.ntmps80
    go_wp2
    go_ret
    exact ⟨ret_bool (by simp; omega), rfl⟩

set_option maxHeartbeats 400000 in
theorem urnOk_impl (A : Option Addr) (n c B : Nat) (zs : List Int) (w : World) (h : Ints w B A n c zs) :
    Calls Tryd.prog 61 #[.slice A n c] w fun e w' => e = .returned (.bool (urnOk zs)) ∧ w = w' := by
  have hl := hide h.len
  have hn := h.nb
  by_cases h1 : n < 1
  · go_enter Tryd.func61, Tryd.ntmps61
    go_wp2
    go_ret
    exact ⟨ret_bool (urnOk_len (by have := hl.out; omega)).symm, rfl⟩
  · by_cases h3 : 3 < n
    · go_enter Tryd.func61, Tryd.ntmps61
      go_wp2
      go_ret
      exact ⟨ret_bool (urnOk_len (by have := hl.out; omega)).symm, rfl⟩
    · go_enter Tryd.func61, Tryd.ntmps61
      go_wp2
      go_loop [15] (fun i => ∃ k : Nat, k ≤ n ∧ i = .int .i64 k ∧ Hid (∀ j x, j < k → zs[j]? = some x → 0 ≤ x ∧ x ≤ 40)) (fun i => n - (intOf i).toNat)
      case atStart => exact ⟨0, Nat.zero_le _, rfl, fun j x hj _ => absurd hj (by omega)⟩
      case round =>
        obtain ⟨k, hk, rfl, hall⟩ := hrel
        by_cases hlt : k < n
        · obtain ⟨b, off, x, rfl, hb, hx, hcell⟩ := h.look hlt
          by_cases hx0 : x < 0
          · go_wp2
            go_ret
            exact ⟨ret_bool (urnOk_bad hx.out (.inl hx0)).symm, rfl⟩
          · by_cases hx1 : 40 < x
            · go_wp2
              go_ret
              exact ⟨ret_bool (urnOk_bad hx.out (.inr hx1)).symm, rfl⟩
            · go_wp2
              go_round
              case rel => exact ⟨k + 1, by omega, by go_num, fun j y hj hy => by
                rcases Nat.lt_or_ge j k with hjk | hjk
                · exact hall.out j y hjk hy
                · obtain rfl : j = k := by omega
                  rw [hx.out] at hy; injection hy with hy; omega⟩
              case measure => simp [intOf]; omega
        · go_wp2
          go_ret
          exact ⟨ret_bool (urnOk_good (by have := hl.out; omega) (fun j x hj hx => hall.out j x (by have := hl.out; omega) hx)).symm, rfl⟩

set_option maxHeartbeats 400000 in
theorem urnOk_spec (A : Option Addr) (n c B : Nat) (zs : List Int) (w : World) (h : Ints w B A n c zs) :
    Calls Tryd.prog 109 #[.slice A n c] w fun e w' => e = .returned (.bool (urnOk zs)) ∧ w = w' := by
  have hl := hide h.len
  have hn := h.nb
  go_enter Tryd.func109, Tryd.ntmps109
  go_wp2
  go_loop [3] (fun i => ∃ k : Nat, k ≤ n ∧ i = .int .i64 k ∧ Hid (∀ j x, j < k → zs[j]? = some x → 0 ≤ x ∧ x ≤ 40)) (fun i => n - (intOf i).toNat)
  case atStart => exact ⟨0, Nat.zero_le _, rfl, fun j x hj _ => absurd hj (by omega)⟩
  case round =>
    obtain ⟨k, hk, rfl, hall⟩ := hrel
    by_cases hlt : k < n
    · obtain ⟨b, off, x, rfl, hb, hx, hcell⟩ := h.look hlt
      by_cases hx0 : 0 ≤ x ∧ x ≤ 40
      · have hd : decide (0 ≤ x ∧ x ≤ 40) = true := decide_eq_true hx0
        obtain ⟨hx1, hx2⟩ := hx0
        go_wp2_with (go_at_call 80; refine (l1In_c _ _ _ _).mono ?_; rintro e w' ⟨rfl, rfl⟩)
        go_round
        case rel => exact ⟨k + 1, by omega, by go_num, fun j y hj hy => by
          rcases Nat.lt_or_ge j k with hjk | hjk
          · exact hall.out j y hjk hy
          · obtain rfl : j = k := by omega
            rw [hx.out] at hy; injection hy with hy; omega⟩
        case measure => simp [intOf]; omega
      · have hd : decide (0 ≤ x ∧ x ≤ 40) = false := decide_eq_false hx0
        have hx1 := hide hx0
        clear hx0
        go_wp2_with (go_at_call 80; refine (l1In_c _ _ _ _).mono ?_; rintro e w' ⟨rfl, rfl⟩)
        go_ret
        exact ⟨ret_bool (urnOk_bad hx.out (by have := hx1.out; omega)).symm, rfl⟩
    · go_wp2_with (go_at_call 80; refine (l1In_c _ _ _ _).mono ?_; rintro e w' ⟨rfl, rfl⟩)
      go_ret
      refine ⟨ret_bool ?_, rfl⟩
      by_cases h1 : 1 ≤ n ∧ n ≤ 3
      · rw [urnOk_good (by have := hl.out; omega) (fun j x hj hx => hall.out j x (by have := hl.out; omega) hx)]
        simp; omega
      · rw [urnOk_len (by have := hl.out; omega)]
        simp; omega

end Go.Proofs.YtoafpokcbbncfaaDoor

namespace Go.Proofs.YtoafpokcbbncfaaDoor
open Go.RowKit

end Go.Proofs.YtoafpokcbbncfaaDoor

namespace Go.Proofs.YtoafpokcbbncfaaDoor
open Go.RowKit

end Go.Proofs.YtoafpokcbbncfaaDoor

namespace Go.Proofs.YtoafpokcbbncfaaDoor
open Go.RowKit

theorem hasColour_c (A : Option Addr) (n c : Nat) (k : Int) (w : World) :
    Calls Tryd.prog 126 #[.slice A n c, .int .i64 k] w fun e w' => e = .returned (.bool (decide (0 ≤ k ∧ k < n))) ∧ w = w' := by
  by_cases h1 : 0 ≤ k
  · by_cases h2 : k < n
    · go_enter Tryd.func126, Tryd.ntmps126
      go_wp2
      go_ret
      exact ⟨ret_bool (by simp; omega), rfl⟩
    · go_enter Tryd.func126, Tryd.ntmps126
      go_wp2
      go_ret
      exact ⟨ret_bool (by simp; omega), rfl⟩
  · go_enter Tryd.func126, Tryd.ntmps126
    go_wp2
    go_ret
    exact ⟨ret_bool (by simp; omega), rfl⟩

end Go.Proofs.YtoafpokcbbncfaaDoor

namespace Go.Proofs.YtoafpokcbbncfaaDoor
open Go.RowKit

set_option maxHeartbeats 400000 in
theorem clone_c (A : Option Addr) (n c B : Nat) (zs : List Int) (w : World) (h : Ints w B A n c zs) (h0 : 0 < n) (hn : n ≤ 1048576) (hB : B ≤ w.heap.size) :
    Calls Tryd.prog 100 #[.slice A n c] w fun e w' => ∃ A' n' c', e = .returned (.slice A' n' c') ∧ Own w' w.heap.size (.slice A' n' c') zs ∧ Below w.heap.size w w' := by
  obtain ⟨b, off, x, rfl, hbB, _, _⟩ := h.look h0
  obtain ⟨i0, hi, hz0, hz1, hz2⟩ := info_parts infoInt
  have hnil := fun w => Lib.run_eql_slice_nil (P := Tryd.prog) w 22 3 (some ⟨b, off, none⟩) n c 0 0 Tryd.underlying22
  go_enter Tryd.func100, Tryd.ntmps100
  go_wp2_with (at_builtin; refine wpList_app _ rfl _ _ 22 rfl i0 Tryd.underlying22 hi hz0 hz1 hz2 _ _ rfl (own_empty (base := w.heap.size) (Nat.le_refl _)) _ n c _ zs rfl (h.alloc hB _) (by simp) (by simp; omega) ?_; intro A' n' c' w1 ho hg)
  go_ret
  exact ⟨A', n', c', rfl, ho, (below_empty (Below.refl _ _) _).grown hg (by simp) (fun k hk => Nat.le_of_eq (Option.some.inj hk))⟩
end Go.Proofs.YtoafpokcbbncfaaDoor

namespace Go.Proofs.YtoafpokcbbncfaaDoor
open Go.RowKit

set_option maxRecDepth 100000 in
set_option maxHeartbeats 1000000 in
theorem putIn_impl (A : Option Addr) (n c B : Nat) (zs : List Int) (k m : Int) (w : World) (h : Ints w B A n c zs) (hB : B ≤ w.heap.size) (hm : (Lit.int .i64 m).wf = true) :
    Calls Tryd.prog 115 #[.slice A n c, .int .i64 k, .int .i64 m] w fun e w' => ∃ A' n' c', e = .returned (.tuple #[.slice A' n' c', .bool (putOk zs k m)]) ∧ Own w' w.heap.size (.slice A' n' c') (putL zs k m) ∧ Below w.heap.size w w' := by
  have hl := hide h.len
  have hn := h.nb
  have HI := hide (urnOk_impl _ _ _ _ _ w h)
  by_cases hok : urnOk zs = true
  · rw [hok] at HI
    by_cases hk : 0 ≤ k ∧ k < n
    · have hsz := urnOk_size hok
      obtain ⟨x, hx⟩ : ∃ x, Hid (zs[k.toNat]? = some x) := ⟨_, List.getElem?_eq_getElem (by have := hl.out; omega)⟩
      have hx1 := urnOk_elem hok hx.out
      have hpk := hide (putOk_eq (m := m) hok (by have := hl.out; omega) hx.out)
      have hHC := hide (clone_c _ _ _ _ _ w h (by omega) (by have := hl.out; omega) hB)
      have hst := hide (fun y => urnOk_set hok hx.out y)
      have hin : decide (0 ≤ k ∧ k < n) = true := decide_eq_true hk
      have hwo := hide (wrap_ok x m hx1 hm)
      obtain ⟨hk0, hk1⟩ := hk
      clear hok hx1
      go_enter Tryd.func115, Tryd.ntmps115
      go_wp2_with (first | (go_at_call 61; refine (HI.out).mono ?_; rintro e w' ⟨rfl, rfl⟩) | (go_at_call 126; refine (hasColour_c _ _ _ _ _).mono ?_; rintro e w' ⟨rfl, rfl⟩))
      refine hHC.out.mono ?_
      rintro e w1 ⟨A', n', c', rfl, ho, hb⟩
      obtain ⟨g, c2, hv, hg, hgl, hcell⟩ := ho.at_ hx.out
      injection hv with h1 h2 h3
      subst h1; subst h2; subst h3
      have hfr := ho.froz k.toNat
      have hb2 := hide (hb.setCell (p := ⟨g, k.toNat, none⟩) hg (.int .i64 (wrap64 (x + m))))
      have hlen := hl.out
      have hlen2 : k < (zs.length : Int) := by omega
      clear hlen
      have ho2 := hide (ho.set_ (k := k.toNat) (wrap64 (x + m)) (wf_wrap64 _))
      go_wp2_with fail
      refine (urnOk_impl _ _ _ _ _ _ ho2.out.ints).mono ?_
      rw [hst.out]
      by_cases hy : 0 ≤ x + m ∧ x + m ≤ 40
      · have e1 := wrap_in x m hy
        rw [e1] at ho2 hb2 ⊢
        rw [decide_eq_true hy] at hpk ⊢
        clear hwo e1
        have eL := hide (show putL zs k m = zs.set k.toNat (x + m) by rw [putL_yes hpk.out, ballsAt_eq hx.out])
        clear hy
        rintro e w' ⟨rfl, rfl⟩
        go_wp2_with fail
        go_ret2
        rw [hpk.out, eL.out]
        exact ⟨_, _, _, rfl, ho2.out, hb2.out⟩
      · have hw2 := decide_eq_false (mt hwo.out.1 hy)
        rw [hw2]
        rw [decide_eq_false hy] at hpk
        have eL := hide (putL_no hpk.out)
        clear hy hw2
        rintro e w' ⟨rfl, rfl⟩
        go_wp2_with fail
        go_ret2
        rw [hpk.out, eL.out]
        exact ⟨_, _, _, rfl, Own.none_, hb2.out⟩
    · have hin : decide (0 ≤ k ∧ k < n) = false := decide_eq_false hk
      have hpk := hide (putOk_no (zs := zs) (k := k) (m := m) (.inr (.inl (by have := hl.out; omega))))
      have eL := hide (putL_no hpk.out)
      clear hk hok
      go_enter Tryd.func115, Tryd.ntmps115
      go_wp2_with (first | (go_at_call 61; refine (HI.out).mono ?_; rintro e w' ⟨rfl, rfl⟩) | (go_at_call 126; refine (hasColour_c _ _ _ _ _).mono ?_; rintro e w' ⟨rfl, rfl⟩))
      go_ret2
      rw [hpk.out, eL.out]
      exact ⟨_, _, _, rfl, Own.none_, Below.refl _ _⟩
  · have hok : urnOk zs = false := by simpa using hok
    have hpk := hide (putOk_no (zs := zs) (k := k) (m := m) (.inl hok))
    have eL := hide (putL_no hpk.out)
    rw [hok] at HI
    clear hok
    go_enter Tryd.func115, Tryd.ntmps115
    go_wp2_with (first | (go_at_call 61; refine (HI.out).mono ?_; rintro e w' ⟨rfl, rfl⟩))
    go_ret2
    rw [hpk.out, eL.out]
    exact ⟨_, _, _, rfl, Own.none_, Below.refl _ _⟩

set_option maxRecDepth 100000 in
set_option maxHeartbeats 1000000 in
theorem putIn_spec (A : Option Addr) (n c B : Nat) (zs : List Int) (k m : Int) (w : World) (h : Ints w B A n c zs) (hB : B ≤ w.heap.size) (_hm : (Lit.int .i64 m).wf = true) :
    Calls Tryd.prog 78 #[.slice A n c, .int .i64 k, .int .i64 m] w fun e w' => ∃ A' n' c', e = .returned (.tuple #[.slice A' n' c', .bool (putOk zs k m)]) ∧ Own w' w.heap.size (.slice A' n' c') (putL zs k m) ∧ Below w.heap.size w w' := by
  have hl := hide h.len
  have hn := h.nb
  have HI := hide (urnOk_spec _ _ _ _ _ w h)
  by_cases hok : urnOk zs = true
  · rw [hok] at HI
    by_cases hk : 0 ≤ k ∧ k < n
    · have hin : decide (0 ≤ k ∧ k ≤ (n : Int) - 1) = true := decide_eq_true (by omega)
      have hsz := urnOk_size hok
      obtain ⟨x, hx⟩ : ∃ x, Hid (zs[k.toNat]? = some x) := ⟨_, List.getElem?_eq_getElem (by have := hl.out; omega)⟩
      have hx1 := urnOk_elem hok hx.out
      have hpk := hide (putOk_eq (m := m) hok (by have := hl.out; omega) hx.out)
      by_cases hmm : -40 ≤ m ∧ m ≤ 40
      · have hin2 : decide (-40 ≤ m ∧ m ≤ 40) = true := decide_eq_true hmm
        have hst := hide (fun y => urnOk_set hok hx.out y)
        have hn3 : n ≤ 3 := by have := hl.out; omega
        obtain ⟨i0, hi, hz0, hz1, hz2⟩ := info_parts infoInt
        obtain ⟨hk0, hk1⟩ := hk
        obtain ⟨hm0, hm1⟩ := hmm
        obtain ⟨hx0, hx2⟩ := hx1
        clear hok hsz
        go_enter Tryd.func78, Tryd.ntmps78
        go_wp2_with (first | (go_at_call 109; (with_reducible refine (HI.out).mono ?_); rintro e w' ⟨rfl, rfl⟩) | (go_at_call 80; refine (l1In_c _ _ _ _).mono ?_; rintro e w' ⟨rfl, rfl⟩) | (at_builtin; refine wpList_app _ rfl _ _ 22 rfl i0 Tryd.underlying22 hi hz0 hz1 hz2 _ _ rfl (own_empty (base := w.heap.size) (Nat.le_refl _)) _ n c _ zs rfl (h.alloc hB _) (by simp) (by simp; omega) ?_; intro A' n' c' w1 ho hg; obtain ⟨g, rfl, hgg, hgl, hcell, hfr⟩ := ho.at2 hx.out; have hkn' := ho.ltI hx.out; have hb := hide ((below_empty (Below.refl _ _) _).grown hg (by simp) (fun k hk => Nat.le_of_eq (Option.some.inj hk))); clear hg))
        have hb2 := hide (hb.out.setCell (p := ⟨g, k.toNat, none⟩) hgg (.int .i64 (x + m)))
        have ho2 := hide (show Own (w1.setCell ⟨g, k.toNat, none⟩ (.int .i64 (x + m))) w.heap.size (.slice (some ⟨g, 0, none⟩) n' c') (zs.set k.toNat (x + m)) from ho.set_ (k := k.toNat) (x + m) (wf_i64 (by omega)))
        refine (urnOk_spec _ _ _ _ _ _ ho2.out.ints).mono ?_
        have e2 := hst.out (x + m)
        rw [e2, ← hpk.out]
        by_cases hy : putOk zs k m = true
        · have eL := hide (show putL zs k m = zs.set k.toNat (x + m) by rw [putL_yes hy, ballsAt_eq hx.out])
          rintro e w' ⟨rfl, rfl⟩
          go_wp2_with fail
          go_ret2
          rw [hy, eL.out]
          exact ⟨_, _, _, rfl, ho2.out, hb2.out⟩
        · have hy : putOk zs k m = false := by simpa using hy
          have eL := hide (putL_no hy)
          rintro e w' ⟨rfl, rfl⟩
          go_wp2_with fail
          go_ret2
          rw [hy, eL.out]
          exact ⟨_, _, _, rfl, own_empty' (by simp) hb2.out.size, below_empty hb2.out _⟩
      · have hin2 : decide (-40 ≤ m ∧ m ≤ 40) = false := decide_eq_false hmm
        have hpk2 := hide (show putOk zs k m = false by rw [hpk.out]; exact decide_eq_false (by omega))
        have eL := hide (putL_no hpk2.out)
        obtain ⟨hk0, hk1⟩ := hk
        clear hok hsz hmm
        go_enter Tryd.func78, Tryd.ntmps78
        go_wp2_with (first | (go_at_call 109; (with_reducible refine (HI.out).mono ?_); rintro e w' ⟨rfl, rfl⟩) | (go_at_call 80; refine (l1In_c _ _ _ _).mono ?_; rintro e w' ⟨rfl, rfl⟩))
        go_ret2
        rw [hpk2.out, eL.out]
        exact ⟨_, _, _, rfl, own_empty (Nat.le_refl _), below_empty (Below.refl _ _) _⟩
    · have hin : decide (0 ≤ k ∧ k ≤ (n : Int) - 1) = false := decide_eq_false (by omega)
      have hpk := hide (putOk_no (zs := zs) (k := k) (m := m) (.inr (.inl (by have := hl.out; omega))))
      have eL := hide (putL_no hpk.out)
      clear hk hok
      go_enter Tryd.func78, Tryd.ntmps78
      go_wp2_with (first | (go_at_call 109; (with_reducible refine (HI.out).mono ?_); rintro e w' ⟨rfl, rfl⟩) | (go_at_call 80; refine (l1In_c _ _ _ _).mono ?_; rintro e w' ⟨rfl, rfl⟩))
      go_ret2
      rw [hpk.out, eL.out]
      exact ⟨_, _, _, rfl, own_empty (Nat.le_refl _), below_empty (Below.refl _ _) _⟩
  · have hok : urnOk zs = false := by simpa using hok
    have hpk := hide (putOk_no (zs := zs) (k := k) (m := m) (.inl hok))
    have eL := hide (putL_no hpk.out)
    rw [hok] at HI
    clear hok
    go_enter Tryd.func78, Tryd.ntmps78
    go_wp2_with (first | (go_at_call 109; (with_reducible refine (HI.out).mono ?_); rintro e w' ⟨rfl, rfl⟩))
    go_ret2
    rw [hpk.out, eL.out]
    exact ⟨_, _, _, rfl, own_empty (Nat.le_refl _), below_empty (Below.refl _ _) _⟩
end Go.Proofs.YtoafpokcbbncfaaDoor

namespace Go.Proofs.YtoafpokcbbncfaaDoor
open Go.RowKit

set_option maxRecDepth 100000 in
theorem join_c (x y : Int) (w : World) (hx : -1000 ≤ x ∧ x ≤ 1000) (hy : -1000 ≤ y ∧ y ≤ 1000) :
    Calls Tryd.prog 121 #[.int .i64 x, .int .i64 y] w fun e w' => e = .returned (.int .i64 (x + y)) ∧ w' = w := by
  obtain ⟨hx1, hx2⟩ := hx
  obtain ⟨hy1, hy2⟩ := hy
  go_enter Tryd.func121, Tryd.ntmps121
  go_wp2
  go_ret
  exact ⟨rfl, rfl⟩

set_option maxRecDepth 100000 in
set_option maxHeartbeats 1000000 in
theorem joined_c (A A' : Option Addr) (n c B c' B' : Nat) (zs zs' : List Int) (w : World) (h : Ints w B A n c zs) (h' : Ints w B' A' n c' zs') (hB : B ≤ w.heap.size) (hB' : B' ≤ w.heap.size) (hn3 : n ≤ 1000) (hm : ∀ x ∈ zs, -1000 ≤ x ∧ x ≤ 1000) (hm' : ∀ x ∈ zs', -1000 ≤ x ∧ x ≤ 1000) :
    Calls Tryd.prog 120 #[.slice A n c, .slice A' n c', .func (.func 121) #[] #[]] w fun e w' => ∃ A₂ n₂ c₂, e = .returned (.slice A₂ n₂ c₂) ∧ Own w' w.heap.size (.slice A₂ n₂ c₂) (addL zs zs') ∧ Below w.heap.size w w' := by
  have hl := hide h.len
  have hl' := hide h'.len
  have hz := hide (addL_len (h.len.trans h'.len.symm))
  have hE := hide (fun (k : Nat) x (hx : zs[k]? = some x) => hm x (List.mem_of_getElem? hx))
  have hE' := hide (fun (k : Nat) x (hx : zs'[k]? = some x) => hm' x (List.mem_of_getElem? hx))
  clear hm hm'
  obtain ⟨i0, hi, hz0, hz1, hz2⟩ := info_parts infoInt
  go_enter Tryd.func120, Tryd.ntmps120
  go_wp2_with (at_make; refine wpList_make_full _ rfl _ _ 22 rfl w.heap.size 3 i0 (.int .i64 0) 1 Tryd.underlying22 hi hz0 hz1 .i64 .i64 _ _ n rfl rfl rfl rfl (by rw [hz2]; omega) (by unfold maxLen; omega) (Nat.le_refl _) ?_; intro w1 hown0 hgrow0)
  have hb0 : Below w.heap.size w w1 := (Below.refl _ _).grown hgrow0 (Nat.le_refl _) (fun k hk => by cases hk)
  have ho0 : Hid (w1.ownsRow w.heap.size 3 1 (.slice (some ⟨w.heap.size, 0, none⟩) n n) n ((cpy (addL zs zs') 0).map (Value.int .i64))) := by
    have e1 : (madeCells (Value.int .i64 0).cells (n * 1)).toList = (cpy (addL zs zs') 0).map (Value.int .i64) := by
      rw [cpy_zero, hz.out, hl.out]
      simp [Value.cells, toList_madeCells_one]
    rw [← e1]; exact hown0
  clear hown0 hgrow0
  go_loopw [8, 14] (fun _ i wr => ∃ k : Nat, k ≤ n ∧ i = .int .i64 k ∧ Hid (wr.ownsRow w.heap.size 3 1 (.slice (some ⟨w.heap.size, 0, none⟩) n n) n ((cpy (addL zs zs') k).map (Value.int .i64))) ∧ Below w.heap.size w wr) (fun _ i _ => n - (intOf i).toNat)
  case atStart => exact ⟨0, Nat.zero_le _, rfl, ho0, hb0⟩
  case round =>
    clear ho0 hb0
    obtain ⟨k, hk, rfl, ho, hb⟩ := hrel
    by_cases hlt : k < n
    · obtain ⟨b, off, x, rfl, hbB, hx, hcell⟩ := (h.below (hb.mono hB)).look hlt
      obtain ⟨b', off', x', rfl, hbB', hx', hcell'⟩ := (h'.below (hb.mono hB')).look hlt
      have hxx := hE.out k x hx.out
      have hxx' := hE'.out k x' hx'.out
      have hJ := hide (fun W => join_c x x' W hxx hxx')
      have hkl : k < ((cpy (addL zs zs') k).map (Value.int .i64)).length := by rw [List.length_map, cpy_len, hz.out, hl.out]; exact hlt
      have hc2 := ho.out.cellAt k (by omega)
      rw [List.getElem?_eq_getElem hkl] at hc2
      obtain ⟨u, hu⟩ : ∃ u, ((cpy (addL zs zs') k).map (Value.int .i64))[k] = u := ⟨_, rfl⟩
      rw [hu] at hc2
      clear hu
      have hf2 := ho.out.frozenAt k
      have hst := hide (ho.out.stored k (.int .i64 (x + x'))).1
      have hb2 := hb.setCell (p := ⟨w.heap.size, k, none⟩) (Nat.le_refl _) (.int .i64 (x + x'))
      go_wp2
      refine wp_region_still_tail 13 (by kernel_rfl) (by kernel_rfl) ?_
      simp only [List.take_succ_cons, List.take_zero, List.drop_succ_cons, List.drop_zero]
      repeat still_step
      still_call (hJ.out _)
      repeat still_step
      refine wpStill_nil ?_
      have hc3 := hide hc2
      have hb3 := hide hb2.drew
      have ho3 := hide (show Hid ((wr.setCell ⟨w.heap.size, k, none⟩ (.int .i64 (x + x'))).drew.ownsRow w.heap.size 3 1 (.slice (some ⟨w.heap.size, 0, none⟩) n n) n ((cpy (addL zs zs') (k + 1)).map (Value.int .i64))) by
        have := hst.out
        rw [← List.map_set, cpy_set _ k (x + x') (addL_at hx.out hx'.out)] at this
        exact this)
      go_wp2
      go_roundw
      case rel => exact ⟨k + 1, by omega, by go_num, ho3.out, hb3.out⟩
      case measure => simp [intOf]; omega
    · obtain rfl : k = n := by omega
      go_wp2
      go_ret
      have e := hl.out
      have e2 := hz.out
      have h3 := ho.out
      rw [← e, ← e2, cpy_all] at h3
      refine ⟨_, _, _, rfl, ⟨?_, ?_⟩, hb⟩
      · rw [← e, ← e2]
        exact h3
      · intro z hzm
        obtain ⟨j, hj, rfl⟩ := List.getElem_of_mem hzm
        have h1 := List.getElem?_eq_getElem (l := zs) (i := j) (by omega)
        have h2 := List.getElem?_eq_getElem (l := zs') (i := j) (by have := hl'.out; omega)
        have h4 := addL_at h1 h2
        rw [List.getElem?_eq_getElem hj] at h4
        injection h4 with h4
        have h5 := hE.out j _ h1
        have h6 := hE'.out j _ h2
        exact wf_i64 (by omega)

set_option maxRecDepth 100000 in
theorem added_c (A A' : Option Addr) (n c B c' B' : Nat) (zs zs' : List Int) (w : World) (h : Ints w B A n c zs) (h' : Ints w B' A' n c' zs') (hB : B ≤ w.heap.size) (hB' : B' ≤ w.heap.size) (hn3 : n ≤ 1000) (hm : ∀ x ∈ zs, -1000 ≤ x ∧ x ≤ 1000) (hm' : ∀ x ∈ zs', -1000 ≤ x ∧ x ≤ 1000) :
    Calls Tryd.prog 102 #[.slice A n c, .slice A' n c'] w fun e w' => ∃ A₂ n₂ c₂, e = .returned (.slice A₂ n₂ c₂) ∧ Own w' w.heap.size (.slice A₂ n₂ c₂) (addL zs zs') ∧ Below w.heap.size w w' := by
  have hJ := hide (joined_c _ _ _ _ _ _ _ _ _ w h h' hB hB' hn3 hm hm')
  clear hm hm'
  go_enter Tryd.func102, Tryd.ntmps102
  go_wp2_with fail
  refine hJ.out.mono ?_
  rintro e w1 ⟨A₂, n₂, c₂, rfl, ho, hb⟩
  go_wp2_with fail
  go_ret
  exact ⟨_, _, _, rfl, ho, hb⟩
end Go.Proofs.YtoafpokcbbncfaaDoor
