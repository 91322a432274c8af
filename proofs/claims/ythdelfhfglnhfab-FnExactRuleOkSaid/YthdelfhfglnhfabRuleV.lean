/-
  Contracts of chapter 4, the specification's side: RuleWays, RuleAll, BallSum.
-/
import Derived.Test.YthdelfhfglnhfabRuleU
import Derived.Deep.RegionWith
namespace Go.Proofs.Ythdelfhfglnhfab
open Go.RowKit

theorem ruleWays_no {zs : List Int} {rs : List (List Int)} {ws : List Int} (h : afterC zs rs ws = false) : ruleWays zs rs ws = -1 := by
  unfold ruleWays; rw [h]; rfl
theorem ruleWays_yes {zs : List Int} {rs : List (List Int)} {ws : List Int} (h : afterC zs rs ws = true) : ruleWays zs rs ws = rways rs zs ws := by
  unfold ruleWays; rw [h]; rfl
theorem pow28k {k : Nat} (h : k ≤ 6) : (28 : Int) ^ k ≤ 481890304 := pow28 k h
/-- The state of the walk: so far the product is P and the urn us, or the product is 0 for good. -/
def WaysAt (rs : List (List Int)) (zs ws : List Int) (k : Nat) (P : Int) (us : List Int) : Prop :=
  (0 < P ∧ afterW rs zs (ws.take k) = some us ∧ P = rways rs zs (ws.take k)) ∨ (P = 0 ∧ rways rs zs ws = 0)

set_option maxHeartbeats 1600000 in
theorem ruleWays_spec (A A1 A' : Option Addr) (n c B n1 c1 B1 n' c' B' : Nat) (zs : List Int) (rs : List (List Int)) (ws : List Int) (w : World) (h : Ints w B A n c zs) (h1 : Mat w B1 A1 n1 c1 rs) (h' : Ints w B' A' n' c' ws) (hB : B ≤ w.heap.size) (hB1 : B1 ≤ w.heap.size) (hB' : B' ≤ w.heap.size) :
    Calls Try.prog 25 #[.slice A n c, .slice A1 n1 c1, .slice A' n' c'] w fun e w' => e = .returned (.int .i64 (ruleWays zs rs ws)) ∧ Below w.heap.size w w' := by
  have hl := hide h.len
  have hl' := hide h'.len
  have HS := hide (startOk_spec _ _ _ _ _ w h)
  have HR := hide (ruleOk_spec (n : Int) _ _ _ _ _ w h1)
  have HW := hide (wordOk_spec (n : Int) _ _ _ _ _ w h')
  by_cases hok : afterC zs rs ws = true
  · obtain ⟨hu, hm, hRl, hw6, hwm⟩ := afterC_yes hok
    have hyes := hide (ruleWays_yes hok)
    rw [hl.out] at hRl
    unfold afterC begun at hok
    simp only [Bool.and_eq_true] at hok
    obtain ⟨⟨o1, o2⟩, o3⟩ := hok
    rw [hl.out] at o2 o3
    rw [o1] at HS
    rw [o2] at HR
    rw [o3] at HW
    have hn6 : n' ≤ 6 := by have := hl'.out; omega
    have hn3 : n ≤ 3 := hRl.le
    have hwm2 : ∀ x ∈ ws, 0 ≤ x ∧ x < (n : Int) := fun x hx => by have := hwm x hx; have := hl.out; omega
    have HC := hide (fun (j : Nat) x (hx : ws[j]? = some x) => hwm2 x (List.mem_of_getElem? hx))
    have HT := hide (fun (k : Nat) us (ha : afterW rs zs (ws.take k) = some us) => afterW_take hRl hl.out hm hwm2 hw6 ha)
    have HStep := hide (fun (k : Nat) x us (ha : afterW rs zs (ws.take k) = some us) (hx : ws[k]? = some x) => afterW_step ha hx)
    have HRow := hide (fun (k : Nat) l (hl : rs[k]? = some l) => row_sum hRl hl)
    have HP := hide (fun (k : Nat) => show rways rs zs (ws.take k) ≤ 481890304 from by
      have hle : (ws.take k).length ≤ ws.length := List.length_take_le' _ _
      exact Int.le_trans (rways_bound hRl hl.out hm (fun x hx => hwm2 x (List.mem_of_mem_take hx)) (by omega)) (pow28 _ (by omega)))
    have HN := hide (fun (h : afterW rs zs ws = none) => rways_none h)
    have hrl := hide hRl.len
    obtain ⟨i0, hi, hz0, hz1, hz2⟩ := info_parts infoInt
    have hs0 := hide (show WaysAt rs zs ws 0 1 zs from .inl ⟨by decide, rfl, rfl⟩)
    clear hu hm hRl hw6 hwm hwm2 o1 o2 o3
    go_enter Try.func25, Try.ntmps25
    go_wp2_with (first | (go_at_call 16; refine (HS.out).mono ?_; rintro e w' ⟨rfl, rfl⟩) | (go_at_call 12; refine (HR.out).mono ?_; rintro e w' ⟨rfl, rfl⟩) | (go_at_call 42; refine (HW.out).mono ?_; rintro e w' ⟨rfl, rfl⟩) | (at_builtin; refine wpList_app _ rfl _ _ 27 rfl i0 Try.underlying27 hi hz0 hz1 hz2 _ _ rfl (own_empty (base := w.heap.size) (Nat.le_refl _)) _ n c _ zs rfl (h.alloc hB _) (by simp) (by simp; omega) ?_; intro A₂ n₂ c₂ w1 ho hg; have hb := hide ((below_empty (Below.refl _ _) _).grown hg (by simp) (fun k hk => Nat.le_of_eq (Option.some.inj hk))); have ho := hide ho; clear hg))
    have ho := hide (show Own w1 w.heap.size (.slice A₂ n₂ c₂) zs from ho.out)
    go_loopw [7, 8, 9] (fun v t i wr => ∃ k : Nat, ∃ A₂ n₂ c₂ us, ∃ P : Int, k ≤ n' ∧ i = .int .i64 k ∧ v = .slice A₂ n₂ c₂ ∧ t = .int .i64 P ∧ 0 ≤ P ∧ P ≤ 481890304 ∧ Hid (Own wr w.heap.size (.slice A₂ n₂ c₂) us) ∧ Hid (WaysAt rs zs ws k P us) ∧ Hid (Below w.heap.size w wr)) (fun _ _ i _ => n' - (intOf i).toNat)
    case atStart => exact ⟨0, _, _, _, zs, 1, Nat.zero_le _, rfl, rfl, rfl, by omega, by omega, ho, hs0, hb⟩
    case round =>
      clear ho hb hs0
      obtain ⟨k, A₂, n₂, c₂, us, P, hk, rfl, rfl, rfl, hP0, hP1, ho, ha, hb⟩ := hrel
      have hs := hb.out.size
      by_cases hlt : k < n'
      · by_cases hP : 0 < P
        · obtain ⟨ha2, hPe2⟩ : afterW rs zs (ws.take k) = some us ∧ P = rways rs zs (ws.take k) := by
            rcases ha.out with h | h
            · exact h.2
            · omega
          replace ha := hide ha2
          have hPe := hide hPe2
          clear ha2 hPe2
          obtain ⟨b, off, x, hA, hbB, hx, hcell⟩ := (h'.below (hb.out.mono hB')).look hlt
          subst hA
          obtain ⟨x0, x1⟩ := HC.out k x hx.out
          obtain ⟨X, rfl⟩ : ∃ X : Nat, x = (X : Int) := ⟨x.toNat, by omega⟩
          obtain ⟨t1, t2⟩ := HT.out k us ha.out
          have hn2 := ho.out.len
          rw [t1] at hn2
          subst hn2
          have hXn : X < n₂ := by omega
          obtain ⟨y, hy⟩ : ∃ y, Hid (us[X]? = some y) := ⟨_, hide (List.getElem?_eq_getElem (by omega))⟩
          obtain ⟨g, hA2, hg, hgl, hcy, hfy⟩ := ho.out.at2 hy.out
          subst hA2
          have hby : ballsAt us (X : Int) = y := ballsAt_eq (by simpa using hy.out)
          obtain ⟨s1, s2⟩ := HStep.out k _ us ha.out hx.out
          rw [hby] at s1 s2
          obtain ⟨y0, y1⟩ := t2 y (List.mem_of_getElem? hy.out)
          obtain ⟨l, hr⟩ : ∃ l, Hid (rs[X]? = some l) := ⟨_, hide (List.getElem?_eq_getElem (by have := hrl.out; omega))⟩
          obtain ⟨r1, r2, _, _⟩ := HRow.out X l hr.out
          have hrow : rowOf rs X = l := by unfold rowOf; rw [hr.out]; rfl
          have hnx : Hid (0 ≤ P * y ∧ P * y ≤ 481890304 ∧ WaysAt rs zs ws (k + 1) (P * y) (addL us l)) := by
            by_cases hy1 : y < 1
            · have hy0 : y = 0 := by omega
              rw [hy0, Int.mul_zero]
              exact ⟨by decide, by decide, .inr ⟨rfl, HN.out (s1 hy1).1⟩⟩
            · obtain ⟨s3, s4⟩ := s2 (by omega)
              rw [show ((X : Int)).toNat = X by omega, hrow] at s3
              rw [← hPe.out] at s4
              have hpos : 0 < P * y := Int.mul_pos hP (by omega)
              have hle := HP.out (k + 1)
              rw [s4] at hle
              exact ⟨by omega, hle, .inl ⟨hpos, s3, s4.symm⟩⟩
          obtain ⟨v0, v1, hwa⟩ := hnx.out
          have hwa := hide hwa
          have HA := hide (l4After_c _ _ _ _ _ _ _ _ X us l rs wr ho.out.ints (h1.below (hb.out.mono hB1)) (Nat.le_refl _) (Nat.le_trans hB1 hs) hn3 hr.out r1 (fun z hz => by have := t2 z hz; omega) (fun z hz => by have := r2 z hz; omega))
          clear s1 s2 t1 t2 hby r1 r2 hrow hnx
          go_wp2_with (go_at_call 43; refine (HA.out).mono ?_; rintro e w' ⟨A₃, n₃, c₃, rfl, ho3, hq⟩)
          have ho3 := hide (ho3.down hs)
          have hb3 := hide (hb.out.trans (hq.mono hs))
          clear hq HA ho
          go_wp2_with fail
          go_roundw
          case rel => exact ⟨k + 1, _, _, _, _, P * y, by omega, by go_num, rfl, rfl, v0, v1, ho3, hwa, hb3⟩
          case measure => simp [intOf]; omega
        · obtain rfl : P = 0 := by omega
          have hz := hide (show rways rs zs ws = 0 from by
            rcases ha.out with h | h
            · exact absurd h.1 (by decide)
            · exact h.2)
          clear hP
          go_wp2
          go_ret
          exact ⟨ret_int (by rw [hyes.out, hz.out]), hb.out⟩
      · have hz := hide (show rways rs zs ws = P from by
          rcases ha.out with h | h
          · have h2 := h.2.2
            rw [List.take_of_length_le (by have := hl'.out; omega)] at h2
            exact h2.symm
          · rw [h.2, h.1])
        go_wp2
        go_ret
        exact ⟨ret_int (by rw [hyes.out, hz.out]), hb.out⟩
  · have hok : afterC zs rs ws = false := by simpa using hok
    have e1 := hide (ruleWays_no hok)
    unfold afterC begun at hok
    rw [hl.out] at hok
    by_cases o1 : startOk zs = true
    · rw [o1] at HS
      by_cases o2 : ruleOk (n : Int) rs = true
      · rw [o2] at HR
        have o3 : wordOk (n : Int) ws = false := by simpa [o1, o2] using hok
        rw [o3] at HW
        clear hok o1 o2 o3
        go_enter Try.func25, Try.ntmps25
        go_wp2_with (first | (go_at_call 16; refine (HS.out).mono ?_; rintro e w' ⟨rfl, rfl⟩) | (go_at_call 12; refine (HR.out).mono ?_; rintro e w' ⟨rfl, rfl⟩) | (go_at_call 42; refine (HW.out).mono ?_; rintro e w' ⟨rfl, rfl⟩))
        go_ret
        exact ⟨ret_int e1.out.symm, Below.refl _ _⟩
      · have o2 : ruleOk (n : Int) rs = false := by simpa using o2
        rw [o2] at HR
        clear hok o1 o2
        go_enter Try.func25, Try.ntmps25
        go_wp2_with (first | (go_at_call 16; refine (HS.out).mono ?_; rintro e w' ⟨rfl, rfl⟩) | (go_at_call 12; refine (HR.out).mono ?_; rintro e w' ⟨rfl, rfl⟩))
        go_ret
        exact ⟨ret_int e1.out.symm, Below.refl _ _⟩
    · have o1 : startOk zs = false := by simpa using o1
      rw [o1] at HS
      clear hok o1
      go_enter Try.func25, Try.ntmps25
      go_wp2_with (first | (go_at_call 16; refine (HS.out).mono ?_; rintro e w' ⟨rfl, rfl⟩))
      go_ret
      exact ⟨ret_int e1.out.symm, Below.refl _ _⟩
end Go.Proofs.Ythdelfhfglnhfab
