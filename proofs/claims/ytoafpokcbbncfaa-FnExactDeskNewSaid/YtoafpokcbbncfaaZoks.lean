/-
  Words, plain lemmas and contracts that belong together, joined into one file.
-/
import Derived.Test.YtoafpokcbbncfaaProg
import Derived.Test.YtoafpokcbbncfaaZpl
import Derived.Deep.QuietTactic
import Derived.BigQuiet
import Derived.RegionTactic
import Derived.Lib.SliceRun
import Derived.StillTailTactics
namespace Go.Proofs.Ytoafpokcbbncfaa
open Go.RowKit

theorem infoInt : (Try.prog.info? 3).map (fun i => (i.zero, i.size, i.bytes)) = some (some (.int .i64 0), 1, 8) := by kernel_rfl

set_option maxHeartbeats 400000 in
theorem toIntS_c (A : Option Addr) (n c B : Nat) (zs : List Int) (w : World) (h : Ints w B A n c zs) (hB : B ≤ w.heap.size) (hn : n ≤ 1048576) :
    Calls Try.prog 16 #[.slice A n c] w fun e w' => ∃ g, e = .returned (.slice (some ⟨g, 0, none⟩) n n) ∧ Own w' w.heap.size (.slice (some ⟨g, 0, none⟩) n n) zs ∧ Below w.heap.size w w' := by
  have hl := hide h.len
  obtain ⟨i0, hi, hz0, hz1, hz2⟩ := info_parts infoInt
  go_enter Try.func16, Try.ntmps16
  go_wp2_with (at_make; refine wpList_make_full _ rfl _ _ 22 rfl w.heap.size 3 i0 (.int .i64 0) 1 Try.underlying22 hi hz0 hz1 .i64 .i64 _ _ n rfl rfl rfl rfl (by rw [hz2]; omega) (by unfold maxLen; omega) (Nat.le_refl _) ?_; intro w1 hown0 hgrow0)
  have hb0 : Below w.heap.size w w1 := (Below.refl _ _).grown hgrow0 (Nat.le_refl _) (fun k hk => by cases hk)
  have ho0 : Hid (w1.ownsRow w.heap.size 3 1 (.slice (some ⟨w.heap.size, 0, none⟩) n n) n ((cpy zs 0).map (Value.int .i64))) := by
    have e1 : (madeCells (Value.int .i64 0).cells (n * 1)).toList = (cpy zs 0).map (Value.int .i64) := by
      rw [cpy_zero, hl.out]
      simp [Value.cells, toList_madeCells_one]
    rw [← e1]; exact hown0
  clear hown0 hgrow0
  go_loopw [4] (fun i wr => ∃ k : Nat, k ≤ n ∧ i = .int .i64 k ∧ Hid (wr.ownsRow w.heap.size 3 1 (.slice (some ⟨w.heap.size, 0, none⟩) n n) n ((cpy zs k).map (Value.int .i64))) ∧ Below w.heap.size w wr) (fun i _ => n - (intOf i).toNat)
  case atStart => exact ⟨0, Nat.zero_le _, rfl, ho0, hb0⟩
  case round =>
    clear ho0 hb0
    obtain ⟨k, hk, rfl, ho, hb⟩ := hrel
    by_cases hlt : k < n
    · obtain ⟨b, off, x, rfl, hbB, hx, hcell⟩ := (h.below (hb.mono hB)).look hlt
      have hkl : k < ((cpy zs k).map (Value.int .i64)).length := by rw [List.length_map, cpy_len, hl.out]; exact hlt
      have hc2 := ho.out.cellAt k (by omega)
      rw [List.getElem?_eq_getElem hkl] at hc2
      obtain ⟨u, hu⟩ : ∃ u, ((cpy zs k).map (Value.int .i64))[k] = u := ⟨_, rfl⟩
      rw [hu] at hc2
      clear hu
      have hf2 := ho.out.frozenAt k
      have hst := hide (ho.out.stored k (.int .i64 x)).1
      have hb2 := hb.setCell (p := ⟨w.heap.size, k, none⟩) (Nat.le_refl _) (.int .i64 x)
      go_wp2
      go_roundw
      case rel => exact ⟨k + 1, by omega, by go_num, by
        have := hst.out
        rw [← List.map_set, cpy_set zs k x hx.out] at this
        exact this, hb2⟩
      case measure => simp [intOf]; omega
    · obtain rfl : k = n := by omega
      go_wp2
      go_ret
      refine ⟨_, rfl, ⟨?_, h.wf⟩, hb⟩
      have := ho.out
      have e := hl.out
      subst e
      rw [cpy_all] at this
      exact this

theorem l1In_c (a lo hi : Int) (w : World) : Calls Try.prog 26 #[.int .i64 a, .int .i64 lo, .int .i64 hi] w fun e w' => e = .returned (.bool (decide (lo ≤ a ∧ a ≤ hi))) ∧ w = w' := by
  by_cases h1 : lo ≤ a
  · by_cases h2 : a ≤ hi
    · go_enter Try.func26, Try.ntmps26
      go_wp2
      go_ret
      exact ⟨ret_bool (by simp; omega), rfl⟩
    · go_enter Try.func26, Try.ntmps26
      go_wp2
      go_ret
      exact ⟨ret_bool (by simp; omega), rfl⟩
  · go_enter Try.func26, Try.ntmps26
    go_wp2
    go_ret
    exact ⟨ret_bool (by simp; omega), rfl⟩

set_option maxHeartbeats 400000 in
theorem urnOk_impl (A : Option Addr) (n c B : Nat) (zs : List Int) (w : World) (h : Ints w B A n c zs) :
    Calls Try.prog 47 #[.slice A n c] w fun e w' => e = .returned (.bool (urnOk zs)) ∧ w = w' := by
  have hl := hide h.len
  have hn := h.nb
  by_cases h1 : n < 1
  · go_enter Try.func47, Try.ntmps47
    go_wp2
    go_ret
    exact ⟨ret_bool (urnOk_len (by have := hl.out; omega)).symm, rfl⟩
  · by_cases h3 : 3 < n
    · go_enter Try.func47, Try.ntmps47
      go_wp2
      go_ret
      exact ⟨ret_bool (urnOk_len (by have := hl.out; omega)).symm, rfl⟩
    · go_enter Try.func47, Try.ntmps47
      go_wp2
      go_loop [15] (fun i => ∃ k : Nat, k ≤ n ∧ i = .int .i64 k ∧ Hid (∀ j x, j < k → zs[j]? = some x → 0 ≤ x ∧ x ≤ 40)) (fun i => n - (intOf i).toNat)
      case atStart => exact ⟨0, Nat.zero_le _, rfl, fun j x hj _ => absurd hj (by omega)⟩
      case round =>
        obtain ⟨k, hk, rfl, hall⟩ := hrel
        by_cases hlt : k < n
        · obtain ⟨b, off, x, rfl, hb, hx, hcell⟩ := h.look hlt
          by_cases hx0 : x < 0
          · go_wp2
            go_ret
            exact ⟨ret_bool (urnOk_bad hx.out (.inl hx0)).symm, rfl⟩
          · by_cases hx1 : 40 < x
            · go_wp2
              go_ret
              exact ⟨ret_bool (urnOk_bad hx.out (.inr hx1)).symm, rfl⟩
            · go_wp2
              go_round
              case rel => exact ⟨k + 1, by omega, by go_num, fun j y hj hy => by
                rcases Nat.lt_or_ge j k with hjk | hjk
                · exact hall.out j y hjk hy
                · obtain rfl : j = k := by omega
                  rw [hx.out] at hy; injection hy with hy; omega⟩
              case measure => simp [intOf]; omega
        · go_wp2
          go_ret
          exact ⟨ret_bool (urnOk_good (by have := hl.out; omega) (fun j x hj hx => hall.out j x (by have := hl.out; omega) hx)).symm, rfl⟩

set_option maxHeartbeats 400000 in
theorem urnOk_spec (A : Option Addr) (n c B : Nat) (zs : List Int) (w : World) (h : Ints w B A n c zs) :
    Calls Try.prog 33 #[.slice A n c] w fun e w' => e = .returned (.bool (urnOk zs)) ∧ w = w' := by
  have hl := hide h.len
  have hn := h.nb
  go_enter Try.func33, Try.ntmps33
  go_wp2
  go_loop [3] (fun i => ∃ k : Nat, k ≤ n ∧ i = .int .i64 k ∧ Hid (∀ j x, j < k → zs[j]? = some x → 0 ≤ x ∧ x ≤ 40)) (fun i => n - (intOf i).toNat)
  case atStart => exact ⟨0, Nat.zero_le _, rfl, fun j x hj _ => absurd hj (by omega)⟩
  case round =>
    obtain ⟨k, hk, rfl, hall⟩ := hrel
    by_cases hlt : k < n
    · obtain ⟨b, off, x, rfl, hb, hx, hcell⟩ := h.look hlt
      by_cases hx0 : 0 ≤ x ∧ x ≤ 40
      · have hd : decide (0 ≤ x ∧ x ≤ 40) = true := decide_eq_true hx0
        obtain ⟨hx1, hx2⟩ := hx0
        go_wp2_with (go_at_call 26; refine (l1In_c _ _ _ _).mono ?_; rintro e w' ⟨rfl, rfl⟩)
        go_round
        case rel => exact ⟨k + 1, by omega, by go_num, fun j y hj hy => by
          rcases Nat.lt_or_ge j k with hjk | hjk
          · exact hall.out j y hjk hy
          · obtain rfl : j = k := by omega
            rw [hx.out] at hy; injection hy with hy; omega⟩
        case measure => simp [intOf]; omega
      · have hd : decide (0 ≤ x ∧ x ≤ 40) = false := decide_eq_false hx0
        have hx1 := hide hx0
        clear hx0
        go_wp2_with (go_at_call 26; refine (l1In_c _ _ _ _).mono ?_; rintro e w' ⟨rfl, rfl⟩)
        go_ret
        exact ⟨ret_bool (urnOk_bad hx.out (by have := hx1.out; omega)).symm, rfl⟩
    · go_wp2_with (go_at_call 26; refine (l1In_c _ _ _ _).mono ?_; rintro e w' ⟨rfl, rfl⟩)
      go_ret
      refine ⟨ret_bool ?_, rfl⟩
      by_cases h1 : 1 ≤ n ∧ n ≤ 3
      · rw [urnOk_good (by have := hl.out; omega) (fun j x hj hx => hall.out j x (by have := hl.out; omega) hx)]
        simp; omega
      · rw [urnOk_len (by have := hl.out; omega)]
        simp; omega

set_option maxHeartbeats 400000 in
theorem eqIntS_c (A A' : Option Addr) (n c B n' c' B' : Nat) (zs zs' : List Int) (w : World) (h : Ints w B A n c zs) (h' : Ints w B' A' n' c' zs') :
    Calls Try.prog 20 #[.slice A n c, .slice A' n' c'] w fun e w' => e = .returned (.bool (sameL zs zs')) ∧ ∃ q, w' = w.drewN q := by
  have hl := hide h.len
  have hl' := hide h'.len
  have hn := h.nb
  have hn' := h'.nb
  by_cases hne : n = n'
  · subst hne
    go_enter Try.func20, Try.ntmps20
    go_wp2
    go_loopw [5] (fun i wr => ∃ k q : Nat, k ≤ n ∧ i = .int .i64 k ∧ wr = w.drewN q ∧ Hid (∀ j, j < k → zs[j]? = zs'[j]?)) (fun i _ => n - (intOf i).toNat)
    case atStart => exact ⟨0, 0, Nat.zero_le _, rfl, rfl, fun j hj => absurd hj (by omega)⟩
    case round =>
      obtain ⟨k, q, hk, rfl, rfl, hall⟩ := hrel
      by_cases hlt : k < n
      · obtain ⟨b, off, x, rfl, hb, hx, hcell⟩ := h.look hlt
        obtain ⟨b', off', x', rfl, hb', hx', hcell'⟩ := h'.look hlt
        by_cases hxx : x = x'
        · have hd : (x != x') = false := by simpa using hxx
          go_wp2
          go_quiet (fail)
          go_wp2
          go_roundw
          case rel => exact ⟨k + 1, _, by omega, by go_num, rfl, fun j hj => by
            rcases Nat.lt_or_ge j k with hjk | hjk
            · exact hall.out j hjk
            · obtain rfl : j = k := by omega
              rw [hx.out, hx'.out, hxx]⟩
          case measure => simp [intOf]; omega
        · have hd : (x != x') = true := by simpa using hxx
          go_wp2
          go_quiet (fail)
          go_wp2
          go_ret
          exact ⟨ret_bool (sameL_bad hx.out hx'.out hxx).symm, _, World.drewN_drewN _ _ _⟩
      · go_wp2
        go_ret
        exact ⟨ret_bool (sameL_good (hl.out.trans hl'.out.symm) (fun j hj => hall.out j (by have := hl.out; omega))).symm, _, rfl⟩
  · have hd : ((n : Int) != (n' : Int)) = true := by simp; omega
    go_enter Try.func20, Try.ntmps20
    go_wp2
    go_ret
    exact ⟨ret_bool (sameL_len (by have := hl.out; have := hl'.out; omega)).symm, 0, rfl⟩

set_option maxHeartbeats 400000 in
theorem markIntS_c (g c base : Nat) (k : Int) (zs : List Int) (w : World) (h : Own w base (.slice (some ⟨g, 0, none⟩) zs.length c) zs) (h0 : 0 ≤ k) (h1 : k ≤ 1000000000) (hn : zs.length ≤ 1048576) :
    Calls Try.prog 21 #[.slice (some ⟨g, 0, none⟩) zs.length c, .int .i64 k] w fun e w' => e = .returned (.int .i64 (k + (zs.length : Int))) ∧ Own w' base (.slice (some ⟨g, 0, none⟩) zs.length c) (mrk zs k zs.length) ∧ w.grownBy w' (some g) := by
  obtain ⟨n, hl⟩ : ∃ n, Hid (n = zs.length) := ⟨_, rfl⟩
  rw [← hl.out] at h hn ⊢
  go_enter Try.func21, Try.ntmps21
  go_wp2
  go_loopw [1, 5] (fun q i wr => ∃ j : Nat, j ≤ n ∧ i = .int .i64 j ∧ q = .int .i64 (k + (j : Int)) ∧ Hid (wr.ownsRow base 3 1 (.slice (some ⟨g, 0, none⟩) n c) n ((mrk zs k j).map (Value.int .i64))) ∧ Hid (w.grownBy wr (some g))) (fun _ i _ => n - (intOf i).toNat)
  case atStart => exact ⟨0, Nat.zero_le _, rfl, by simp, by rw [mrk_zero, hl.out]; exact hl.out ▸ h.row, World.grownBy.refl w _⟩
  case round =>
    obtain ⟨j, hj, rfl, rfl, ho, hg⟩ := hrel
    by_cases hlt : j < n
    · have hkl : j < ((mrk zs k j).map (Value.int .i64)).length := by rw [List.length_map, mrk_len _ _ _ (by have := hl.out; omega), ← hl.out]; exact hlt
      have hc2 := ho.out.cellAt j (by omega)
      rw [List.getElem?_eq_getElem hkl] at hc2
      obtain ⟨u, hu⟩ : ∃ u, ((mrk zs k j).map (Value.int .i64))[j] = u := ⟨_, rfl⟩
      rw [hu] at hc2
      clear hu
      have hf2 := ho.out.frozenAt j
      have hst := hide (ho.out.stored j (.int .i64 (k + (j : Int))))
      go_wp2
      go_roundw
      case rel => exact ⟨j + 1, by omega, by go_num, by go_num, by
        have := hst.out.1
        rw [← List.map_set, mrk_set zs k j (by have := hl.out; omega)] at this
        exact this, World.grownBy.trans hg.out hst.out.2⟩
      case measure => simp [intOf]; omega
    · obtain rfl : j = n := by omega
      go_wp2
      go_ret
      refine ⟨rfl, ⟨?_, ?_⟩, hg.out⟩
      · have := ho.out
        have e := hl.out
        subst e
        rw [mrk_len _ _ _ (Nat.le_refl _)]
        exact this
      · intro z hz
        have e := hl.out
        subst e
        obtain ⟨i, hi, rfl⟩ := List.getElem_of_mem hz
        have hi2 : i < zs.length := by rw [mrk_len _ _ _ (Nat.le_refl _)] at hi; exact hi
        have := mrk_get zs k i hi2
        rw [List.getElem?_eq_getElem hi] at this
        injection this with this
        rw [this]
        exact wf_i64 (by omega)

/-- markIntS over whatever the call owns. -/
theorem mark_c (A : Option Addr) (n c base : Nat) (k : Int) (zs : List Int) (w : World) (h : Own w base (.slice A n c) zs) (h0 : 0 ≤ k) (h1 : k ≤ 1000000000) (hn : n ≤ 1048576) :
    Calls Try.prog 21 #[.slice A n c, .int .i64 k] w fun e w' => e = .returned (.int .i64 (k + (n : Int))) ∧ Own w' base (.slice A n c) (mrk zs k n) ∧ w.grownBy w' ((Value.slice A n c).ownBlock) := by
  rcases h.shape with ⟨hv, rfl⟩ | ⟨g, c2, hv, _, _⟩
  · injection hv with e1 e2 e3
    subst e1; subst e2; subst e3
    go_enter Try.func21, Try.ntmps21
    go_wp2
    refine wp_loop_rounds 1 ?_
    rw [rounds_succ]
    go_wp2
    go_ret
    exact ⟨ret_int (by simp), Own.none_, World.grownBy.refl w _⟩
  · injection hv with e1 e2 e3
    subst e1; subst e2; subst e3
    exact markIntS_c g _ base k zs w h h0 h1 hn

/-- What markIntS wrote is still there. -/
theorem heldIntS_c (A : Option Addr) (n c B : Nat) (k : Int) (zs : List Int) (w : World) (h : Ints w B A n c (mrk zs k n)) (hz : n = zs.length) (h0 : 0 ≤ k) (h1 : k ≤ 1000000000) (hn : n ≤ 1048576) :
    Calls Try.prog 32 #[.slice A n c, .int .i64 k] w fun e w' => e = .returned (.int .i64 (k + (n : Int))) ∧ w = w' := by
  have hl := hide hz
  clear hz
  go_enter Try.func32, Try.ntmps32
  go_wp2
  go_loop [1, 5] (fun q i => ∃ j : Nat, j ≤ n ∧ i = .int .i64 j ∧ q = .int .i64 (k + (j : Int))) (fun _ i => n - (intOf i).toNat)
  case atStart => exact ⟨0, Nat.zero_le _, rfl, by simp⟩
  case round =>
    obtain ⟨j, hj, rfl, rfl⟩ := hrel
    by_cases hlt : j < n
    · obtain ⟨b, off, x, rfl, hb, hx, hcell⟩ := h.look hlt
      have hxe : x = k + (j : Int) := by
        have := hx.out
        have e := hl.out
        subst e
        rw [mrk_get zs k j hlt] at this
        injection this with this
        exact this.symm
      subst hxe
      go_wp2
      go_round
      case rel => exact ⟨j + 1, by omega, by go_num, by go_num⟩
      case measure => simp [intOf]; omega
    · obtain rfl : j = n := by omega
      go_wp2
      go_ret
      exact ⟨rfl, rfl⟩
end Go.Proofs.Ytoafpokcbbncfaa

namespace Go.Proofs.Ytoafpokcbbncfaa
open Go.RowKit

set_option maxHeartbeats 400000 in
theorem clone_c (A : Option Addr) (n c B : Nat) (zs : List Int) (w : World) (h : Ints w B A n c zs) (h0 : 0 < n) (hn : n ≤ 1048576) (hB : B ≤ w.heap.size) :
    Calls Try.prog 31 #[.slice A n c] w fun e w' => ∃ A' n' c', e = .returned (.slice A' n' c') ∧ Own w' w.heap.size (.slice A' n' c') zs ∧ Below w.heap.size w w' := by
  obtain ⟨b, off, x, rfl, hbB, _, _⟩ := h.look h0
  obtain ⟨i0, hi, hz0, hz1, hz2⟩ := info_parts infoInt
  have hnil := fun w => Lib.run_eql_slice_nil (P := Try.prog) w 22 3 (some ⟨b, off, none⟩) n c 0 0 Try.underlying22
  go_enter Try.func31, Try.ntmps31
  go_wp2_with (at_builtin; refine wpList_app _ rfl _ _ 22 rfl i0 Try.underlying22 hi hz0 hz1 hz2 _ _ rfl (own_empty (base := w.heap.size) (Nat.le_refl _)) _ n c _ zs rfl (h.alloc hB _) (by simp) (by simp; omega) ?_; intro A' n' c' w1 ho hg)
  go_ret
  exact ⟨A', n', c', rfl, ho, (below_empty (Below.refl _ _) _).grown hg (by simp) (fun k hk => Nat.le_of_eq (Option.some.inj hk))⟩
end Go.Proofs.Ytoafpokcbbncfaa

namespace Go.Proofs.Ytoafpokcbbncfaa
open Go.RowKit

end Go.Proofs.Ytoafpokcbbncfaa

namespace Go.Proofs.Ytoafpokcbbncfaa
open Go.RowKit

end Go.Proofs.Ytoafpokcbbncfaa

namespace Go.Proofs.Ytoafpokcbbncfaa
open Go.RowKit

/-- The element that a colour's index names. -/
theorem Ints.lookI {w : World} {B n c : Nat} {A : Option Addr} {zs : List Int} {k : Int} (h : Ints w B A n c zs) (h0 : 0 ≤ k) (hk : k < n) :
    ∃ b off x, A = some ⟨b, off, none⟩ ∧ b < B ∧ Hid (zs[k.toNat]? = some x) ∧ w.cell? ⟨b, off + k.toNat, none⟩ = some (.int .i64 x) := h.look (by omega)

end Go.Proofs.Ytoafpokcbbncfaa

namespace Go.Proofs.Ytoafpokcbbncfaa
open Go.RowKit

set_option maxRecDepth 100000 in
theorem join_c (x y : Int) (w : World) (hx : -1000 ≤ x ∧ x ≤ 1000) (hy : -1000 ≤ y ∧ y ≤ 1000) :
    Calls Try.prog 51 #[.int .i64 x, .int .i64 y] w fun e w' => e = .returned (.int .i64 (x + y)) ∧ w' = w := by
  obtain ⟨hx1, hx2⟩ := hx
  obtain ⟨hy1, hy2⟩ := hy
  go_enter Try.func51, Try.ntmps51
  go_wp2
  go_ret
  exact ⟨rfl, rfl⟩

set_option maxRecDepth 100000 in
set_option maxHeartbeats 1000000 in
theorem joined_c (A A' : Option Addr) (n c B c' B' : Nat) (zs zs' : List Int) (w : World) (h : Ints w B A n c zs) (h' : Ints w B' A' n c' zs') (hB : B ≤ w.heap.size) (hB' : B' ≤ w.heap.size) (hn3 : n ≤ 1000) (hm : ∀ x ∈ zs, -1000 ≤ x ∧ x ≤ 1000) (hm' : ∀ x ∈ zs', -1000 ≤ x ∧ x ≤ 1000) :
    Calls Try.prog 50 #[.slice A n c, .slice A' n c', .func (.func 51) #[] #[]] w fun e w' => ∃ A₂ n₂ c₂, e = .returned (.slice A₂ n₂ c₂) ∧ Own w' w.heap.size (.slice A₂ n₂ c₂) (addL zs zs') ∧ Below w.heap.size w w' := by
  have hl := hide h.len
  have hl' := hide h'.len
  have hz := hide (addL_len (h.len.trans h'.len.symm))
  have hE := hide (fun (k : Nat) x (hx : zs[k]? = some x) => hm x (List.mem_of_getElem? hx))
  have hE' := hide (fun (k : Nat) x (hx : zs'[k]? = some x) => hm' x (List.mem_of_getElem? hx))
  clear hm hm'
  obtain ⟨i0, hi, hz0, hz1, hz2⟩ := info_parts infoInt
  go_enter Try.func50, Try.ntmps50
  go_wp2_with (at_make; refine wpList_make_full _ rfl _ _ 22 rfl w.heap.size 3 i0 (.int .i64 0) 1 Try.underlying22 hi hz0 hz1 .i64 .i64 _ _ n rfl rfl rfl rfl (by rw [hz2]; omega) (by unfold maxLen; omega) (Nat.le_refl _) ?_; intro w1 hown0 hgrow0)
  have hb0 : Below w.heap.size w w1 := (Below.refl _ _).grown hgrow0 (Nat.le_refl _) (fun k hk => by cases hk)
  have ho0 : Hid (w1.ownsRow w.heap.size 3 1 (.slice (some ⟨w.heap.size, 0, none⟩) n n) n ((cpy (addL zs zs') 0).map (Value.int .i64))) := by
    have e1 : (madeCells (Value.int .i64 0).cells (n * 1)).toList = (cpy (addL zs zs') 0).map (Value.int .i64) := by
      rw [cpy_zero, hz.out, hl.out]
      simp [Value.cells, toList_madeCells_one]
    rw [← e1]; exact hown0
  clear hown0 hgrow0
  go_loopw [8, 14] (fun _ i wr => ∃ k : Nat, k ≤ n ∧ i = .int .i64 k ∧ Hid (wr.ownsRow w.heap.size 3 1 (.slice (some ⟨w.heap.size, 0, none⟩) n n) n ((cpy (addL zs zs') k).map (Value.int .i64))) ∧ Below w.heap.size w wr) (fun _ i _ => n - (intOf i).toNat)
  case atStart => exact ⟨0, Nat.zero_le _, rfl, ho0, hb0⟩
  case round =>
    clear ho0 hb0
    obtain ⟨k, hk, rfl, ho, hb⟩ := hrel
    by_cases hlt : k < n
    · obtain ⟨b, off, x, rfl, hbB, hx, hcell⟩ := (h.below (hb.mono hB)).look hlt
      obtain ⟨b', off', x', rfl, hbB', hx', hcell'⟩ := (h'.below (hb.mono hB')).look hlt
      have hxx := hE.out k x hx.out
      have hxx' := hE'.out k x' hx'.out
      have hJ := hide (fun W => join_c x x' W hxx hxx')
      have hkl : k < ((cpy (addL zs zs') k).map (Value.int .i64)).length := by rw [List.length_map, cpy_len, hz.out, hl.out]; exact hlt
      have hc2 := ho.out.cellAt k (by omega)
      rw [List.getElem?_eq_getElem hkl] at hc2
      obtain ⟨u, hu⟩ : ∃ u, ((cpy (addL zs zs') k).map (Value.int .i64))[k] = u := ⟨_, rfl⟩
      rw [hu] at hc2
      clear hu
      have hf2 := ho.out.frozenAt k
      have hst := hide (ho.out.stored k (.int .i64 (x + x'))).1
      have hb2 := hb.setCell (p := ⟨w.heap.size, k, none⟩) (Nat.le_refl _) (.int .i64 (x + x'))
      go_wp2
      refine wp_region_still_tail 13 (by kernel_rfl) (by kernel_rfl) ?_
      simp only [List.take_succ_cons, List.take_zero, List.drop_succ_cons, List.drop_zero]
      repeat still_step
      still_call (hJ.out _)
      repeat still_step
      refine wpStill_nil ?_
      have hc3 := hide hc2
      have hb3 := hide hb2.drew
      have ho3 := hide (show Hid ((wr.setCell ⟨w.heap.size, k, none⟩ (.int .i64 (x + x'))).drew.ownsRow w.heap.size 3 1 (.slice (some ⟨w.heap.size, 0, none⟩) n n) n ((cpy (addL zs zs') (k + 1)).map (Value.int .i64))) by
        have := hst.out
        rw [← List.map_set, cpy_set _ k (x + x') (addL_at hx.out hx'.out)] at this
        exact this)
      go_wp2
      go_roundw
      case rel => exact ⟨k + 1, by omega, by go_num, ho3.out, hb3.out⟩
      case measure => simp [intOf]; omega
    · obtain rfl : k = n := by omega
      go_wp2
      go_ret
      have e := hl.out
      have e2 := hz.out
      have h3 := ho.out
      rw [← e, ← e2, cpy_all] at h3
      refine ⟨_, _, _, rfl, ⟨?_, ?_⟩, hb⟩
      · rw [← e, ← e2]
        exact h3
      · intro z hzm
        obtain ⟨j, hj, rfl⟩ := List.getElem_of_mem hzm
        have h1 := List.getElem?_eq_getElem (l := zs) (i := j) (by omega)
        have h2 := List.getElem?_eq_getElem (l := zs') (i := j) (by have := hl'.out; omega)
        have h4 := addL_at h1 h2
        rw [List.getElem?_eq_getElem hj] at h4
        injection h4 with h4
        have h5 := hE.out j _ h1
        have h6 := hE'.out j _ h2
        exact wf_i64 (by omega)

set_option maxRecDepth 100000 in
theorem added_c (A A' : Option Addr) (n c B c' B' : Nat) (zs zs' : List Int) (w : World) (h : Ints w B A n c zs) (h' : Ints w B' A' n c' zs') (hB : B ≤ w.heap.size) (hB' : B' ≤ w.heap.size) (hn3 : n ≤ 1000) (hm : ∀ x ∈ zs, -1000 ≤ x ∧ x ≤ 1000) (hm' : ∀ x ∈ zs', -1000 ≤ x ∧ x ≤ 1000) :
    Calls Try.prog 46 #[.slice A n c, .slice A' n c'] w fun e w' => ∃ A₂ n₂ c₂, e = .returned (.slice A₂ n₂ c₂) ∧ Own w' w.heap.size (.slice A₂ n₂ c₂) (addL zs zs') ∧ Below w.heap.size w w' := by
  have hJ := hide (joined_c _ _ _ _ _ _ _ _ _ w h h' hB hB' hn3 hm hm')
  clear hm hm'
  go_enter Try.func46, Try.ntmps46
  go_wp2_with fail
  refine hJ.out.mono ?_
  rintro e w1 ⟨A₂, n₂, c₂, rfl, ho, hb⟩
  go_wp2_with fail
  go_ret
  exact ⟨_, _, _, rfl, ho, hb⟩
end Go.Proofs.Ytoafpokcbbncfaa

namespace Go.Proofs.Ytoafpokcbbncfaa
open Go.RowKit

end Go.Proofs.Ytoafpokcbbncfaa
