/-
  Words, plain lemmas and contracts that belong together, joined into one file.
-/
import Derived.Test.YtbjjlgnelbcmlabProg
import Derived.Test.YtbjjlgnelbcmlabZpl
import Derived.Deep.QuietTactic
import Derived.BigQuiet
import Derived.RegionTactic
namespace Go.Proofs.Ytbjjlgnelbcmlab
open Go.RowKit

theorem infoInt : (Try.prog.info? 3).map (fun i => (i.zero, i.size, i.bytes)) = some (some (.int .i64 0), 1, 8) := by kernel_rfl

theorem l1In_c (a lo hi : Int) (w : World) : Calls Try.prog 33 #[.int .i64 a, .int .i64 lo, .int .i64 hi] w fun e w' => e = .returned (.bool (decide (lo ≤ a ∧ a ≤ hi))) ∧ w = w' := by
  by_cases h1 : lo ≤ a
  · by_cases h2 : a ≤ hi
    · go_enter Try.func33, Try.ntmps33
      go_wp2
      go_ret
      exact ⟨ret_bool (by simp; omega), rfl⟩
    · go_enter Try.func33, Try.ntmps33
      go_wp2
      go_ret
      exact ⟨ret_bool (by simp; omega), rfl⟩
  · go_enter Try.func33, Try.ntmps33
    go_wp2
    go_ret
    exact ⟨ret_bool (by simp; omega), rfl⟩

set_option maxHeartbeats 400000 in
theorem eqIntS_c (A A' : Option Addr) (n c B n' c' B' : Nat) (zs zs' : List Int) (w : World) (h : Ints w B A n c zs) (h' : Ints w B' A' n' c' zs') :
    Calls Try.prog 10 #[.slice A n c, .slice A' n' c'] w fun e w' => e = .returned (.bool (sameL zs zs')) ∧ ∃ q, w' = w.drewN q := by
  have hl := hide h.len
  have hl' := hide h'.len
  have hn := h.nb
  have hn' := h'.nb
  by_cases hne : n = n'
  · subst hne
    go_enter Try.func10, Try.ntmps10
    go_wp2
    go_loopw [5] (fun i wr => ∃ k q : Nat, k ≤ n ∧ i = .int .i64 k ∧ wr = w.drewN q ∧ Hid (∀ j, j < k → zs[j]? = zs'[j]?)) (fun i _ => n - (intOf i).toNat)
    case atStart => exact ⟨0, 0, Nat.zero_le _, rfl, rfl, fun j hj => absurd hj (by omega)⟩
    case round =>
      obtain ⟨k, q, hk, rfl, rfl, hall⟩ := hrel
      by_cases hlt : k < n
      · obtain ⟨b, off, x, rfl, hb, hx, hcell⟩ := h.look hlt
        obtain ⟨b', off', x', rfl, hb', hx', hcell'⟩ := h'.look hlt
        by_cases hxx : x = x'
        · have hd : (x != x') = false := by simpa using hxx
          go_wp2
          go_quiet (fail)
          go_wp2
          go_roundw
          case rel => exact ⟨k + 1, _, by omega, by go_num, rfl, fun j hj => by
            rcases Nat.lt_or_ge j k with hjk | hjk
            · exact hall.out j hjk
            · obtain rfl : j = k := by omega
              rw [hx.out, hx'.out, hxx]⟩
          case measure => simp [intOf]; omega
        · have hd : (x != x') = true := by simpa using hxx
          go_wp2
          go_quiet (fail)
          go_wp2
          go_ret
          exact ⟨ret_bool (sameL_bad hx.out hx'.out hxx).symm, _, World.drewN_drewN _ _ _⟩
      · go_wp2
        go_ret
        exact ⟨ret_bool (sameL_good (hl.out.trans hl'.out.symm) (fun j hj => hall.out j (by have := hl.out; omega))).symm, _, rfl⟩
  · have hd : ((n : Int) != (n' : Int)) = true := by simp; omega
    go_enter Try.func10, Try.ntmps10
    go_wp2
    go_ret
    exact ⟨ret_bool (sameL_len (by have := hl.out; have := hl'.out; omega)).symm, 0, rfl⟩

set_option maxHeartbeats 400000 in
theorem markIntS_c (g c base : Nat) (k : Int) (zs : List Int) (w : World) (h : Own w base (.slice (some ⟨g, 0, none⟩) zs.length c) zs) (h0 : 0 ≤ k) (h1 : k ≤ 1000000000) (hn : zs.length ≤ 1048576) :
    Calls Try.prog 11 #[.slice (some ⟨g, 0, none⟩) zs.length c, .int .i64 k] w fun e w' => e = .returned (.int .i64 (k + (zs.length : Int))) ∧ Own w' base (.slice (some ⟨g, 0, none⟩) zs.length c) (mrk zs k zs.length) ∧ w.grownBy w' (some g) := by
  obtain ⟨n, hl⟩ : ∃ n, Hid (n = zs.length) := ⟨_, rfl⟩
  rw [← hl.out] at h hn ⊢
  go_enter Try.func11, Try.ntmps11
  go_wp2
  go_loopw [1, 5] (fun q i wr => ∃ j : Nat, j ≤ n ∧ i = .int .i64 j ∧ q = .int .i64 (k + (j : Int)) ∧ Hid (wr.ownsRow base 3 1 (.slice (some ⟨g, 0, none⟩) n c) n ((mrk zs k j).map (Value.int .i64))) ∧ Hid (w.grownBy wr (some g))) (fun _ i _ => n - (intOf i).toNat)
  case atStart => exact ⟨0, Nat.zero_le _, rfl, by simp, by rw [mrk_zero, hl.out]; exact hl.out ▸ h.row, World.grownBy.refl w _⟩
  case round =>
    obtain ⟨j, hj, rfl, rfl, ho, hg⟩ := hrel
    by_cases hlt : j < n
    · have hkl : j < ((mrk zs k j).map (Value.int .i64)).length := by rw [List.length_map, mrk_len _ _ _ (by have := hl.out; omega), ← hl.out]; exact hlt
      have hc2 := ho.out.cellAt j (by omega)
      rw [List.getElem?_eq_getElem hkl] at hc2
      obtain ⟨u, hu⟩ : ∃ u, ((mrk zs k j).map (Value.int .i64))[j] = u := ⟨_, rfl⟩
      rw [hu] at hc2
      clear hu
      have hf2 := ho.out.frozenAt j
      have hst := hide (ho.out.stored j (.int .i64 (k + (j : Int))))
      go_wp2
      go_roundw
      case rel => exact ⟨j + 1, by omega, by go_num, by go_num, by
        have := hst.out.1
        rw [← List.map_set, mrk_set zs k j (by have := hl.out; omega)] at this
        exact this, World.grownBy.trans hg.out hst.out.2⟩
      case measure => simp [intOf]; omega
    · obtain rfl : j = n := by omega
      go_wp2
      go_ret
      refine ⟨rfl, ⟨?_, ?_⟩, hg.out⟩
      · have := ho.out
        have e := hl.out
        subst e
        rw [mrk_len _ _ _ (Nat.le_refl _)]
        exact this
      · intro z hz
        have e := hl.out
        subst e
        obtain ⟨i, hi, rfl⟩ := List.getElem_of_mem hz
        have hi2 : i < zs.length := by rw [mrk_len _ _ _ (Nat.le_refl _)] at hi; exact hi
        have := mrk_get zs k i hi2
        rw [List.getElem?_eq_getElem hi] at this
        injection this with this
        rw [this]
        exact wf_i64 (by omega)

/-- markIntS over whatever the call owns. -/
theorem mark_c (A : Option Addr) (n c base : Nat) (k : Int) (zs : List Int) (w : World) (h : Own w base (.slice A n c) zs) (h0 : 0 ≤ k) (h1 : k ≤ 1000000000) (hn : n ≤ 1048576) :
    Calls Try.prog 11 #[.slice A n c, .int .i64 k] w fun e w' => e = .returned (.int .i64 (k + (n : Int))) ∧ Own w' base (.slice A n c) (mrk zs k n) ∧ w.grownBy w' ((Value.slice A n c).ownBlock) := by
  rcases h.shape with ⟨hv, rfl⟩ | ⟨g, c2, hv, _, _⟩
  · injection hv with e1 e2 e3
    subst e1; subst e2; subst e3
    go_enter Try.func11, Try.ntmps11
    go_wp2
    refine wp_loop_rounds 1 ?_
    rw [rounds_succ]
    go_wp2
    go_ret
    exact ⟨ret_int (by simp), Own.none_, World.grownBy.refl w _⟩
  · injection hv with e1 e2 e3
    subst e1; subst e2; subst e3
    exact markIntS_c g _ base k zs w h h0 h1 hn

/-- What markIntS wrote is still there. -/
theorem heldIntS_c (A : Option Addr) (n c B : Nat) (k : Int) (zs : List Int) (w : World) (h : Ints w B A n c (mrk zs k n)) (hz : n = zs.length) (h0 : 0 ≤ k) (h1 : k ≤ 1000000000) (hn : n ≤ 1048576) :
    Calls Try.prog 12 #[.slice A n c, .int .i64 k] w fun e w' => e = .returned (.int .i64 (k + (n : Int))) ∧ w = w' := by
  have hl := hide hz
  clear hz
  go_enter Try.func12, Try.ntmps12
  go_wp2
  go_loop [1, 5] (fun q i => ∃ j : Nat, j ≤ n ∧ i = .int .i64 j ∧ q = .int .i64 (k + (j : Int))) (fun _ i => n - (intOf i).toNat)
  case atStart => exact ⟨0, Nat.zero_le _, rfl, by simp⟩
  case round =>
    obtain ⟨j, hj, rfl, rfl⟩ := hrel
    by_cases hlt : j < n
    · obtain ⟨b, off, x, rfl, hb, hx, hcell⟩ := h.look hlt
      have hxe : x = k + (j : Int) := by
        have := hx.out
        have e := hl.out
        subst e
        rw [mrk_get zs k j hlt] at this
        injection this with this
        exact this.symm
      subst hxe
      go_wp2
      go_round
      case rel => exact ⟨j + 1, by omega, by go_num, by go_num⟩
      case measure => simp [intOf]; omega
    · obtain rfl : j = n := by omega
      go_wp2
      go_ret
      exact ⟨rfl, rfl⟩
end Go.Proofs.Ytbjjlgnelbcmlab

namespace Go.Proofs.Ytbjjlgnelbcmlab
open Go.RowKit

set_option maxHeartbeats 400000 in
theorem l1Total_c (A : Option Addr) (n c B : Nat) (zs : List Int) (w : World) (h : Ints w B A n c zs) (hok : urnOk zs = true) :
    Calls Try.prog 24 #[.slice A n c] w fun e w' => e = .returned (.int .i64 (isum zs)) ∧ w = w' := by
  have hl := hide h.len
  have hn := h.nb
  have HT := hide (take_sum hok)
  have hok := hide hok
  go_enter Try.func24, Try.ntmps24
  go_wp2
  go_loop [3, 4] (fun t i => ∃ k : Nat, k ≤ n ∧ i = .int .i64 k ∧ t = .int .i64 (isum (zs.take k))) (fun _ i => n - (intOf i).toNat)
  case atStart => exact ⟨0, Nat.zero_le _, rfl, rfl⟩
  case round =>
    obtain ⟨k, hk, rfl, rfl⟩ := hrel
    obtain ⟨hs1, hs2⟩ := HT.out k
    by_cases hlt : k < n
    · obtain ⟨b, off, x, rfl, hb, hx, hcell⟩ := h.look hlt
      obtain ⟨hx1, hx2⟩ := urnOk_elem hok.out hx.out
      have hst := hide (isum_take_succ hx.out)
      go_wp2
      go_round
      case rel => exact ⟨k + 1, by omega, by go_num, by rw [hst.out]⟩
      case measure => simp [intOf]; omega
    · go_wp2
      go_ret
      exact ⟨ret_int (by rw [List.take_of_length_le (by have := hl.out; omega)]), rfl⟩

end Go.Proofs.Ytbjjlgnelbcmlab

namespace Go.Proofs.Ytbjjlgnelbcmlab
open Go.RowKit

set_option maxHeartbeats 400000 in
theorem sumOf_c (A : Option Addr) (n c B : Nat) (zs : List Int) (w : World) (h : Ints w B A n c zs) (hok : urnOk zs = true) :
    Calls Try.prog 25 #[.slice A n c] w fun e w' => e = .returned (.int .i64 (isum zs)) ∧ w = w' := by
  have hl := hide h.len
  have hn := h.nb
  have HT := hide (take_sum hok)
  have hok := hide hok
  go_enter Try.func25, Try.ntmps25
  go_wp2
  go_loop [3, 8] (fun t i => ∃ k : Nat, k ≤ n ∧ i = .int .i64 k ∧ t = .int .i64 (isum (zs.take k))) (fun _ i => n - (intOf i).toNat)
  case atStart => exact ⟨0, Nat.zero_le _, rfl, rfl⟩
  case round =>
    obtain ⟨k, hk, rfl, rfl⟩ := hrel
    obtain ⟨hs1, hs2⟩ := HT.out k
    by_cases hlt : k < n
    · obtain ⟨b, off, x, rfl, hb, hx, hcell⟩ := h.look hlt
      obtain ⟨hx1, hx2⟩ := urnOk_elem hok.out hx.out
      have hst := hide (isum_take_succ hx.out)
      go_wp2
      go_round
      case rel => exact ⟨k + 1, by omega, by go_num, by rw [hst.out]⟩
      case measure => simp [intOf]; omega
    · go_wp2
      go_ret
      exact ⟨ret_int (by rw [List.take_of_length_le (by have := hl.out; omega)]), rfl⟩

end Go.Proofs.Ytbjjlgnelbcmlab

namespace Go.Proofs.Ytbjjlgnelbcmlab
open Go.RowKit

set_option maxHeartbeats 400000 in
theorem gcd_impl (a b : Int) (w : World) (ha : 0 ≤ a) (ha' : a ≤ 1000000000) (hb : 0 ≤ b) (hb' : b ≤ 1000000000) :
    Calls Try.prog 34 #[.int .i64 a, .int .i64 b] w fun e w' => e = .returned (.int .i64 (gcdI a b)) ∧ ∃ q, w' = w.drewN q := by
  go_enter Try.func34, Try.ntmps34
  go_wp2
  go_loopw [0, 1] (fun s t wr => ∃ x y : Int, ∃ q : Nat, 0 ≤ x ∧ x ≤ 1000000000 ∧ 0 ≤ y ∧ y ≤ 1000000000 ∧ s = .int .i64 x ∧ t = .int .i64 y ∧ wr = w.drewN q ∧ Hid (gcdI x y = gcdI a b)) (fun _ t _ => (intOf t).toNat)
  case atStart => exact ⟨a, b, 0, ha, ha', hb, hb', rfl, rfl, rfl, rfl⟩
  case round =>
    obtain ⟨x, y, q, hx, hx', hy, hy', rfl, rfl, rfl, hg⟩ := hrel
    by_cases hy0 : 0 < y
    · have hne : (y != 0) = true := by simp; omega
      have hne2 : (y == 0) = false := by simp; omega
      have hm1 : 0 ≤ x % y := Int.emod_nonneg _ (by omega)
      have hm2 : x % y < y := Int.emod_lt_of_pos _ hy0
      go_wp2
      go_quiet (fail)
      go_wp2
      go_roundw
      case rel => exact ⟨y, x % y, _, hy, hy', hm1, by omega, rfl, rfl, World.drewN_drewN _ _ _, (gcdI_step hx hy0).trans hg.out⟩
      case measure => simp [intOf]; omega
    · obtain rfl : y = 0 := by omega
      go_wp2
      go_ret
      exact ⟨ret_int (by rw [← hg.out, gcdI_zero hx]), _, rfl⟩

set_option maxHeartbeats 400000 in
theorem l1Common_c (a b : Int) (w : World) (ha : 0 ≤ a) (ha' : a ≤ 1000000000) (hb : 0 < b) (hb' : b ≤ 1000000000) :
    Calls Try.prog 26 #[.int .i64 a, .int .i64 b] w fun e w' => e = .returned (.int .i64 (gcdI a b)) ∧ w = w' := by
  go_enter Try.func26, Try.ntmps26
  go_wp2
  go_loop [0, 1] (fun s t => ∃ x y : Int, 0 ≤ x ∧ x ≤ 1000000000 ∧ 0 ≤ y ∧ y ≤ 1000000000 ∧ s = .int .i64 x ∧ t = .int .i64 y ∧ Hid (gcdI x y = gcdI a b)) (fun _ t => (intOf t).toNat)
  case atStart => exact ⟨a, b, ha, ha', by omega, hb', rfl, rfl, rfl⟩
  case round =>
    obtain ⟨x, y, hx, hx', hy, hy', rfl, rfl, hg⟩ := hrel
    by_cases hy0 : 0 < y
    · have hne2 : (y == 0) = false := by simp; omega
      have hm1 : 0 ≤ x % y := Int.emod_nonneg _ (by omega)
      have hm2 : x % y < y := Int.emod_lt_of_pos _ hy0
      go_wp2
      go_round
      case rel => exact ⟨y, x % y, hy, hy', hm1, by omega, rfl, rfl, (gcdI_step hx hy0).trans hg.out⟩
      case measure => simp [intOf]; omega
    · obtain rfl : y = 0 := by omega
      have hp : 0 < x := by
        have h1 := gcdI_pos (a := a) hb
        rw [← hg.out, gcdI_zero hx] at h1
        exact h1
      go_wp2
      all_goals
        go_ret
        exact ⟨ret_int (by rw [← hg.out, gcdI_zero hx]; try omega), rfl⟩

set_option maxHeartbeats 400000 in
theorem leastTerms_c (a b : Int) (w : World) (ha : 0 ≤ a) (ha' : a ≤ 1000000000) (hb : 0 < b) (hb' : b ≤ 1000000000) :
    Calls Try.prog 28 #[.int .i64 a, .int .i64 b] w fun e w' => e = .returned (.tuple #[.int .i64 (a / gcdI a b), .int .i64 (b / gcdI a b)]) ∧ ∃ q, w' = w.drewN q := by
  have hp := gcdI_pos (a := a) hb
  have hle := gcdI_le (a := a) hb
  obtain ⟨g, hg⟩ : ∃ g, Hid (g = gcdI a b) := ⟨_, rfl⟩
  have HG := hide (gcd_impl a b w ha ha' (by omega) hb')
  rw [← hg.out] at hp hle HG ⊢
  have hne : (g == 0) = false := by simp; omega
  go_enter Try.func28, Try.ntmps28
  go_wp2_with (go_at_call 34; refine (HG.out).mono ?_; rintro e w' ⟨rfl, q, rfl⟩)
  go_quiet (fail)
  go_wp2
  go_ret2
  exact ⟨rfl, _, World.drewN_drewN _ _ _⟩

/-- The element that a colour's index names. -/
theorem Ints.lookI {w : World} {B n c : Nat} {A : Option Addr} {zs : List Int} {k : Int} (h : Ints w B A n c zs) (h0 : 0 ≤ k) (hk : k < n) :
    ∃ b off x, A = some ⟨b, off, none⟩ ∧ b < B ∧ Hid (zs[k.toNat]? = some x) ∧ w.cell? ⟨b, off + k.toNat, none⟩ = some (.int .i64 x) := h.look (by omega)

end Go.Proofs.Ytbjjlgnelbcmlab
