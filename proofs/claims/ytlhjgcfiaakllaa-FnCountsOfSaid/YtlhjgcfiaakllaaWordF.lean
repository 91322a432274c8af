/-
  Contracts of chapter 2, the specification's side: l2Counts, CountsOf.
-/
import Derived.Test.YtlhjgcfiaakllaaWordE
namespace Go.Proofs.Ytlhjgcfiaakllaa
open Go.RowKit

set_option maxHeartbeats 1600000 in
theorem counts_spec (cl : Int) (A : Option Addr) (n c B : Nat) (ws : List Int) (w : World) (h : Ints w B A n c ws) (hB : B ≤ w.heap.size) (hok : wordOk cl ws = true) :
    Calls Try.prog 59 #[.int .i64 cl, .slice A n c] w fun e w' => ∃ A' n' c', e = .returned (.slice A' n' c') ∧ Own w' w.heap.size (.slice A' n' c') (cntL cl.toNat ws) ∧ Below w.heap.size w w' := by
  have hl := hide h.len
  obtain ⟨k1, k2, k3, k4⟩ := wordOk_yes hok
  have HC := hide (fun j x (hx : ws[j]? = some x) => k4 x (List.mem_of_getElem? hx))
  have hn6 : n ≤ 6 := by have := hl.out; omega
  clear hok k4 k3
  obtain ⟨q, hq⟩ : ∃ q : Nat, Hid (cl.toNat = q) := ⟨_, rfl⟩
  have hq3 : q ≤ 3 := by have := hq.out; omega
  have hqc : (q : Int) = cl := by have := hq.out; omega
  rw [hq.out]
  subst hqc
  obtain ⟨i0, hi, hz0, hz1, hz2⟩ := info_parts infoInt
  go_enter Try.func59, Try.ntmps59
  go_wp2_with (at_make; refine wpList_make_full _ rfl _ _ 23 rfl w.heap.size 3 i0 (.int .i64 0) 1 Try.underlying23 hi hz0 hz1 .i64 .i64 _ _ q rfl rfl rfl rfl (by rw [hz2]; omega) (by unfold maxLen; omega) (Nat.le_refl _) ?_; intro w1 hown0 hgrow0)
  have hb0 := hide (show Below w.heap.size w w1 from (Below.refl _ _).grown hgrow0 (Nat.le_refl _) (fun k hk => by cases hk))
  have ho0 := hide (show Own w1 w.heap.size (.slice (some ⟨w.heap.size, 0, none⟩) q q) (cntL q (ws.take 0)) from ⟨by
    have e1 : (madeCells (Value.int .i64 0).cells (q * 1)).toList = (cntL q []).map (Value.int .i64) := by
      rw [cntL_nil]
      simp [Value.cells, toList_madeCells_one]
    have e2 : (cntL q (ws.take 0)).length = q := by simp [cntL]
    rw [e2]
    show w1.ownsRow _ _ _ _ _ ((cntL q []).map _)
    rw [← e1]; exact hown0, fun z hz => by
      rw [List.take_zero, cntL_nil] at hz
      have := List.eq_of_mem_replicate hz
      subst this; decide⟩)
  clear hown0 hgrow0
  go_loopw [6] (fun i wr => ∃ k : Nat, k ≤ n ∧ i = .int .i64 k ∧ Hid (Own wr w.heap.size (.slice (some ⟨w.heap.size, 0, none⟩) q q) (cntL q (ws.take k))) ∧ Hid (Below w.heap.size w wr)) (fun i _ => n - (intOf i).toNat)
  case atStart => exact ⟨0, Nat.zero_le _, rfl, ho0, hb0⟩
  case round =>
    clear ho0 hb0
    obtain ⟨k, hk, rfl, ho, hb⟩ := hrel
    by_cases hlt : k < n
    · obtain ⟨b, off, x, rfl, hbB, hx, hcell⟩ := (h.below (hb.out.mono hB)).look hlt
      obtain ⟨x0, x1⟩ := HC.out k x hx.out
      have hat := cntL_at q (ws.take k) x.toNat (by omega)
      rw [show ((x.toNat : Nat) : Int) = x by omega] at hat
      obtain ⟨g, hA2, hg, hgl, hcy, hfy⟩ := ho.out.at2 hat
      injection hA2 with hA2
      injection hA2 with hA2 _ _
      subst hA2
      have hcl : (ws.take k).count x ≤ 6 := Nat.le_trans List.count_le_length (by rw [List.length_take]; omega)
      have hst := hide (cntL_set (c := q) hx.out x0)
      obtain ⟨y, hy⟩ : ∃ y, Hid (y = (ws.take k).count x) := ⟨_, rfl⟩
      rw [← hy.out] at hcl hst hcy
      have r1 : IntKind.i64.wrap ((y : Int) + 1) = (y : Int) + 1 := IntWalk.i64_in _ (by omega)
      have ho2 := hide (show Own (wr.setCell ⟨w.heap.size, x.toNat, none⟩ (.int .i64 ((y : Int) + 1))) w.heap.size (.slice (some ⟨w.heap.size, 0, none⟩) q q) (cntL q (ws.take (k + 1))) by rw [← hst.out]; exact ho.out.set_ _ (wf_i64 (by omega)))
      have hb2 := hide (hb.out.setCell (p := ⟨w.heap.size, x.toNat, none⟩) (Nat.le_refl _) (.int .i64 ((y : Int) + 1)))
      clear hat hst
      go_wp2
      refine wp_region_still_tail 14 (by kernel_rfl) (by kernel_rfl) ?_
      simp only [List.take_succ_cons, List.take_zero, List.drop_succ_cons, List.drop_zero]
      repeat still_step
      refine wpStill_nil ?_
      go_wp2
      go_roundw
      case rel => exact ⟨k + 1, by omega, by go_num, ho2.out.drew, hb2.out.drew⟩
      case measure => simp [intOf]; omega
    · obtain rfl : k = n := by omega
      go_wp2
      go_ret
      have := ho.out
      rw [List.take_of_length_le (by have := hl.out; omega)] at this
      exact ⟨_, _, _, rfl, this, hb.out⟩

theorem countsOf_spec (cl : Int) (A : Option Addr) (n c B : Nat) (ws : List Int) (w : World) (h : Ints w B A n c ws) (hB : B ≤ w.heap.size) :
    Calls Try.prog 26 #[.int .i64 cl, .slice A n c] w fun e w' => ∃ A' n' c', e = .returned (.slice A' n' c') ∧ Own w' w.heap.size (.slice A' n' c') (countsOf cl ws) ∧ Below w.heap.size w w' := by
  have HW := hide (wordOk_spec cl _ _ _ _ _ w h)
  by_cases hok : wordOk cl ws = true
  · have HT := hide (counts_spec cl _ _ _ _ _ w h hB hok)
    have he := hide (show countsOf cl ws = cntL cl.toNat ws by unfold countsOf; rw [if_pos hok])
    rw [hok] at HW
    clear hok
    go_enter Try.func26, Try.ntmps26
    go_wp2_with (go_at_call 22; refine (HW.out).mono ?_; rintro e w' ⟨rfl, rfl⟩)
    refine HT.out.mono ?_
    rintro e w1 ⟨A', n', c', rfl, ho, hb⟩
    go_wp2_with fail
    go_ret
    rw [he.out]
    exact ⟨_, _, _, rfl, ho, hb⟩
  · have hok : wordOk cl ws = false := by simpa using hok
    have he := hide (show countsOf cl ws = [] by unfold countsOf; rw [hok]; rfl)
    rw [hok] at HW
    clear hok
    go_enter Try.func26, Try.ntmps26
    go_wp2_with (go_at_call 22; refine (HW.out).mono ?_; rintro e w' ⟨rfl, rfl⟩)
    go_ret
    rw [he.out]
    exact ⟨_, _, _, rfl, own_empty (Nat.le_refl _), below_empty (Below.refl _ _) _⟩
end Go.Proofs.Ytlhjgcfiaakllaa
