/-
  Contracts of chapter 2, the specification's side: WordsWith, WordWays.
-/
import Derived.Test.YtaocbiocpklbmaaWordD
import Derived.Test.YtaocbiocpklbmaaApp
import Derived.StillTailTactics
namespace Go.Proofs.Ytaocbiocpklbmaa
open Go.RowKit

set_option maxHeartbeats 800000 in
theorem wordsWith_spec (cl : Int) (A : Option Addr) (n c B : Nat) (cs : List Int) (w : World) (h : Ints w B A n c cs) :
    Calls Try.prog 50 #[.int .i64 cl, .slice A n c] w fun e w' => e = .returned (.int .i64 (wordsWith cl cs)) ∧ w = w' := by
  have hl := hide h.len
  have hn := h.nb
  have HI := hide (countRowOk_spec cl _ _ _ _ _ w h)
  by_cases hok : countRowOk cl cs = true
  · rw [hok] at HI
    have hu := countRowOk_urn hok
    obtain ⟨_, _, _, h4, h5⟩ := countRowOk_yes hok
    have HT := hide (l1Total_c _ _ _ _ _ w h hu)
    obtain ⟨s1, s2⟩ := urnOk_sum hu
    have HE := hide (fun k x (hx : cs[k]? = some x) => h4 x (List.mem_of_getElem? hx))
    have he := hide (show wordsWith cl cs = mult cs by unfold wordsWith; rw [if_pos hok])
    obtain ⟨S, hS⟩ : ∃ S, Hid (S = isum cs) := ⟨_, rfl⟩
    have hM := hide (show mult cs = multGo (factI S.toNat) (cs.drop 0) by rw [hS.out]; rfl)
    rw [← hS.out] at HT s1 h5
    obtain ⟨f1, f2⟩ := factI_small S.toNat (by omega)
    have hF := hide factI_small
    clear hok hu h4 s2
    go_enter Try.func50, Try.ntmps50
    go_wp2_with (first | (go_at_call 49; refine (HI.out).mono ?_; rintro e w' ⟨rfl, rfl⟩) | (go_at_call 45; refine (HT.out).mono ?_; rintro e w' ⟨rfl, rfl⟩) | (go_at_call 62; refine (product_spec S _ (by omega) (by omega)).mono ?_; rintro e w' ⟨rfl, rfl⟩))
    go_loop [5, 6] (fun t i => ∃ k : Nat, ∃ a : Int, k ≤ n ∧ 0 ≤ a ∧ a ≤ 720 ∧ i = .int .i64 k ∧ t = .int .i64 a ∧ Hid (mult cs = multGo a (cs.drop k))) (fun _ i => n - (intOf i).toNat)
    case atStart => exact ⟨0, _, Nat.zero_le _, by omega, f2, rfl, rfl, hM⟩
    case round =>
      clear hM f1 f2
      obtain ⟨k, a, hk, ha0, ha1, rfl, rfl, hm⟩ := hrel
      by_cases hlt : k < n
      · obtain ⟨b, off, x, rfl, hb, hx, hcell⟩ := h.look hlt
        obtain ⟨x0, x6⟩ := HE.out k x hx.out
        obtain ⟨g1, g2⟩ := hF.out x.toNat (by omega)
        obtain ⟨d1, d2⟩ := div_small ha0 ha1 g1
        have hst := hide (multGo_step hx.out a)
        have hne : (factI x.toNat == 0) = false := by simp; omega
        go_wp2_with (go_at_call 62; refine (product_spec x _ x0 x6).mono ?_; rintro e w' ⟨rfl, rfl⟩)
        go_round
        case rel => exact ⟨k + 1, _, by omega, d1, d2, by go_num, rfl, hm.out.trans hst.out⟩
        case measure => simp [intOf]; omega
      · go_wp2
        go_ret
        exact ⟨ret_int (by rw [he.out, hm.out, List.drop_eq_nil_of_le (by have := hl.out; omega)]; rfl), rfl⟩
  · have hok : countRowOk cl cs = false := by simpa using hok
    rw [hok] at HI
    have he := hide (show wordsWith cl cs = -1 by unfold wordsWith; rw [hok]; rfl)
    clear hok
    go_enter Try.func50, Try.ntmps50
    go_wp2_with (go_at_call 49; refine (HI.out).mono ?_; rintro e w' ⟨rfl, rfl⟩)
    go_ret
    exact ⟨ret_int he.out.symm, rfl⟩

end Go.Proofs.Ytaocbiocpklbmaa
