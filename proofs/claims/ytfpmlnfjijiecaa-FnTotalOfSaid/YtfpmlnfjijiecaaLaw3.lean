/-
  The laws of chapter 1 walked: FnTotalOf.
-/
import Derived.Test.YtfpmlnfjijiecaaLaw1
import Derived.Deep.RegionWith
import Derived.Deep.RegionHeld3
namespace Go.Proofs.Ytfpmlnfjijiecaa
open Go.RowKit

def zeroC (n : Nat) : Array Value := ((List.replicate n (0 : Int)).map (Value.int .i64)).toArray
theorem run_zeros (n : Nat) (hn : n ≤ 1000) (W : World) : (Instr.makeSlice 23 (.int .i64 (n : Int)) (.int .i64 (n : Int))).run Try.prog W = .ok (.slice (some ⟨W.heap.size, 0, none⟩) n n) (W.alloc (.cells (zeroC n) 3)) := by
  obtain ⟨i0, hi, hz0, hz1, hz2⟩ := info_parts infoInt
  have hb : (i0.bytes : Int) * (n : Int) ≤ 281474976710656 := by rw [hz2]; omega
  have hr := run_make (P := Try.prog) W 23 3 i0 (.int .i64 0) Try.underlying23 hi hz0 .i64 .i64 n n (by omega) (by omega) hb (by omega)
  simp only [Int.toNat_natCast] at hr
  rw [hr, hz1]
  have e : madeCells (Value.int .i64 0).cells (n * 1) = zeroC n := by
    apply Array.toList_inj.1
    unfold zeroC
    rw [Nat.mul_one]
    simp [Value.cells, toList_madeCells_one]
  rw [e]

theorem zero_ints (n : Nat) (hn : n ≤ 1000) : ∀ V : World, Ints (V.alloc (.cells (zeroC n) 3)) (V.heap.size + 1) (some ⟨V.heap.size, 0, none⟩) n n (List.replicate n 0) := by
  intro V
  have h := (ints_lit (w := V) (List.replicate n 0) (by intro x hx; have := List.eq_of_mem_replicate hx; subst this; decide) (by simpa using hn) (cs := zeroC n) rfl).ints
  simpa using h

set_option maxHeartbeats 3200000 in
theorem lawTotalOf {A : Option Addr} {n c : Nat} {bs : List Int} {w : World} (h : Bts w w.heap.size A n c bs) :
    Calls Try.prog 3 #[.slice A n c] w fun e w' => e = .returned (.bool true) ∧ Below w.heap.size w w' := by
  have hbig := h.big
  have hle := h.le
  unfold maxLen at hbig
  by_cases hn : 1048576 < n
  · go_enter Try.func3, Try.ntmps3
    go_wp2
    go_ret
    exact ⟨rfl, Below.refl _ _⟩
  · have hD := hide (DrawTotalOf_c A n c bs w h)
    go_enter Try.func3, Try.ntmps3
    go_wp2_with fail
    refine hD.out.mono ?_
    rintro e w1 ⟨A', n', c', zs, rfl, hz, hn8, hb1⟩
    have hz := hide hz
    have hl := hide hz.out.len
    have hb1 := hide hb1
    clear hD
    by_cases hok : urnOk zs = true
    · have hsz := urnOk_size hok
      obtain ⟨s1, s2⟩ := urnOk_sum hok
      have hT := hide (totalF_ok hok)
      have hn1 : 1 ≤ n' := by have := hl.out; omega
      have hn3 : n' ≤ 3 := by have := hl.out; omega
      obtain ⟨x, hx⟩ : ∃ x, Hid (zs[0]? = some x) := ⟨_, hide (List.getElem?_eq_getElem (by omega))⟩
      obtain ⟨x1, x2⟩ := urnOk_elem hok hx.out
      have hpk := hide (show putOk zs 0 (-x) = true from putOk_mk hok (by omega) (by rw [ballsAt_eq hx.out]; omega))
      have hpt := hide (put_back hpk.out).2.2
      obtain ⟨S, hS⟩ : ∃ S, Hid (S = isum zs) := ⟨_, rfl⟩
      rw [hT.out] at hpt
      rw [← hS.out] at hT hpt s1 s2
      have hok := hide hok
      clear hsz
      go_wp2_with fail
      refine (totalOf_impl _ _ _ _ zs _ hz.out).mono ?_
      rw [hT.out]
      rintro e w' ⟨rfl, rfl⟩
      go_wp2_with fail
      refine (totalOf_spec _ _ _ _ zs _ hz.out).mono ?_
      rw [hT.out]
      rintro e w' ⟨rfl, rfl⟩
      obtain ⟨b, off, x', hA, hbB, hx', hcell⟩ := hz.out.look (k := 0) (by omega)
      have hxx : x' = x := by have := hx.out; have h2 := hx'.out; rw [this] at h2; injection h2 with h2; exact h2.symm
      subst hxx
      subst hA
      clear hx'
      rw [Nat.add_zero] at hcell
      go_wp2_with fail
      refine (putIn_impl _ _ _ _ zs 0 (-x') _ hz.out (Nat.le_refl _) (wf_i64 (by omega))).mono ?_
      rw [hpk.out]
      rintro e w2 ⟨B, d, f, rfl, ho, hb2⟩
      have hz2 := hide (hz.out.below hb2)
      have hc2 := hide (hb1.out.trans (hb2.mono hb1.out.size))
      have hcell2 : w2.cell? ⟨b, off, none⟩ = some (.int .i64 x') := (hb2.cell hbB).trans hcell
      have hs2 := hb2.size
      have ho := hide ho
      clear hb2 hz hcell
      have hmk := run_zeros n' (by omega)
      obtain ⟨D, hDD⟩ : ∃ D, Hid (totalF (putL zs 0 (-x')) = D) := ⟨_, rfl⟩
      have hDx : D + x' = S := by have h1 := hDD.out; have h2 := hpt.out; omega
      have r1 : IntKind.i64.wrap (D + x') = S := by rw [hDx]; exact IntWalk.i64_in _ (by omega)
      have r2 : wrap64 (D + x') = S := by rw [hDx]; exact IntWalk.wrap64_in _ (by omega)
      have HL := hide (fun W (hW : Below w2.heap.size w2 W) => (totalOf_impl _ _ _ _ _ W (ho.out.below hW (Nat.le_refl _)).ints))
      rw [hDD.out] at HL
      have hzu := hide (urnOk_zeros n' ⟨hn1, hn3⟩)
      have HZ := hide (fun (W : World) (g : Nat) (hg : Ints W (g + 1) (some ⟨g, 0, none⟩) n' n' (List.replicate n' 0)) => totalOf_impl _ _ _ _ _ W hg)
      rw [totalF_ok hzu.out, isum_zeros] at HZ
      have hlt : ¬ S < 0 := by omega
      have hb0 := hide (Below.refl w2.heap.size w2)
      have hn1' : (0 : Int) < (n' : Int) := by omega
      clear hDx hpt hn3
      go_wp2_with fail
      have hzi := hide (zero_ints n' (by omega))
      go_region_with (first
        | (go_at_call 11; (with_reducible refine (HL.out _ ?_).mono ?_); (focus (repeat (first | exact Below.refl _ _ | refine Below.drew ?_ | refine Below.alloc ?_ (by simp) _)); done); rintro e w' ⟨rfl, rfl⟩)
        | (go_at_call 11; (with_reducible refine (HZ.out _ _ ?_).mono ?_); (focus (first | exact hzi.out _ | exact (hzi.out _).drew); done); rintro e w' ⟨rfl, rfl⟩))
      all_goals
        go_wp2
        go_ret
        exact ⟨rfl, (hc2.out.alloc hc2.out.size _).drew⟩
    · have hok : urnOk zs = false := by simpa using hok
      have hT := hide (totalF_no hok)
      go_wp2_with fail
      refine (totalOf_impl _ _ _ _ zs _ hz.out).mono ?_
      rw [hT.out]
      rintro e w' ⟨rfl, rfl⟩
      go_wp2_with fail
      refine (totalOf_spec _ _ _ _ zs _ hz.out).mono ?_
      rw [hT.out]
      rintro e w' ⟨rfl, rfl⟩
      go_wp2_with fail
      refine (urnOk_impl _ _ _ _ zs _ hz.out).mono ?_
      rw [hok]
      rintro e w' ⟨rfl, rfl⟩
      go_wp2_with fail
      refine (alive_c _).mono ?_
      rintro e w6 ⟨rfl, hb6⟩
      go_wp2_with fail
      go_ret
      exact ⟨rfl, hb1.out.trans (hb6.mono hb1.out.size)⟩
end Go.Proofs.Ytfpmlnfjijiecaa
