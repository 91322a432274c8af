/-
  Contracts of chapter 1: PutIn (impl and spec).
-/
import Derived.Test.YthdelfhfglnhfaaUrns
import Derived.Test.YthdelfhfglnhfaaClone
namespace Go.Proofs.Ythdelfhfglnhfaa
open Go.RowKit

set_option maxHeartbeats 1000000 in
theorem putIn_impl (A : Option Addr) (n c B : Nat) (zs : List Int) (k m : Int) (w : World) (h : Ints w B A n c zs) (hB : B ≤ w.heap.size) (hm : (Lit.int .i64 m).wf = true) :
    Calls Try.prog 19 #[.slice A n c, .int .i64 k, .int .i64 m] w fun e w' => ∃ A' n' c', e = .returned (.tuple #[.slice A' n' c', .bool (putOk zs k m)]) ∧ Own w' w.heap.size (.slice A' n' c') (putL zs k m) ∧ Below w.heap.size w w' := by
  have hl := hide h.len
  have hn := h.nb
  have HI := hide (urnOk_impl _ _ _ _ _ w h)
  by_cases hok : urnOk zs = true
  · rw [hok] at HI
    by_cases hk : 0 ≤ k ∧ k < n
    · have hsz := urnOk_size hok
      obtain ⟨x, hx⟩ : ∃ x, Hid (zs[k.toNat]? = some x) := ⟨_, List.getElem?_eq_getElem (by have := hl.out; omega)⟩
      have hx1 := urnOk_elem hok hx.out
      have hpk := hide (putOk_eq (m := m) hok (by have := hl.out; omega) hx.out)
      have hHC := hide (clone_c _ _ _ _ _ w h (by omega) (by have := hl.out; omega) hB)
      have hst := hide (fun y => urnOk_set hok hx.out y)
      have hin : decide (0 ≤ k ∧ k < n) = true := decide_eq_true hk
      have hwo := hide (wrap_ok x m hx1 hm)
      obtain ⟨hk0, hk1⟩ := hk
      clear hok hx1
      go_enter Try.func19, Try.ntmps19
      go_wp2_with (first | (go_at_call 20; refine (HI.out).mono ?_; rintro e w' ⟨rfl, rfl⟩) | (go_at_call 52; refine (hasColour_c _ _ _ _ _).mono ?_; rintro e w' ⟨rfl, rfl⟩))
      refine hHC.out.mono ?_
      rintro e w1 ⟨A', n', c', rfl, ho, hb⟩
      obtain ⟨g, c2, hv, hg, hgl, hcell⟩ := ho.at_ hx.out
      injection hv with h1 h2 h3
      subst h1; subst h2; subst h3
      have hfr := ho.froz k.toNat
      have hb2 := hide (hb.setCell (p := ⟨g, k.toNat, none⟩) hg (.int .i64 (wrap64 (x + m))))
      have hlen := hl.out
      have hlen2 : k < (zs.length : Int) := by omega
      clear hlen
      have ho2 := hide (ho.set_ (k := k.toNat) (wrap64 (x + m)) (wf_wrap64 _))
      go_wp2_with fail
      refine (urnOk_impl _ _ _ _ _ _ ho2.out.ints).mono ?_
      rw [hst.out]
      by_cases hy : 0 ≤ x + m ∧ x + m ≤ 40
      · have e1 := wrap_in x m hy
        rw [e1] at ho2 hb2 ⊢
        rw [decide_eq_true hy] at hpk ⊢
        clear hwo e1
        have eL := hide (show putL zs k m = zs.set k.toNat (x + m) by rw [putL_yes hpk.out, ballsAt_eq hx.out])
        clear hy
        rintro e w' ⟨rfl, rfl⟩
        go_wp2_with fail
        go_ret2
        rw [hpk.out, eL.out]
        exact ⟨_, _, _, rfl, ho2.out, hb2.out⟩
      · have hw2 := decide_eq_false (mt hwo.out.1 hy)
        rw [hw2]
        rw [decide_eq_false hy] at hpk
        have eL := hide (putL_no hpk.out)
        clear hy hw2
        rintro e w' ⟨rfl, rfl⟩
        go_wp2_with fail
        go_ret2
        rw [hpk.out, eL.out]
        exact ⟨_, _, _, rfl, Own.none_, hb2.out⟩
    · have hin : decide (0 ≤ k ∧ k < n) = false := decide_eq_false hk
      have hpk := hide (putOk_no (zs := zs) (k := k) (m := m) (.inr (.inl (by have := hl.out; omega))))
      have eL := hide (putL_no hpk.out)
      clear hk hok
      go_enter Try.func19, Try.ntmps19
      go_wp2_with (first | (go_at_call 20; refine (HI.out).mono ?_; rintro e w' ⟨rfl, rfl⟩) | (go_at_call 52; refine (hasColour_c _ _ _ _ _).mono ?_; rintro e w' ⟨rfl, rfl⟩))
      go_ret2
      rw [hpk.out, eL.out]
      exact ⟨_, _, _, rfl, Own.none_, Below.refl _ _⟩
  · have hok : urnOk zs = false := by simpa using hok
    have hpk := hide (putOk_no (zs := zs) (k := k) (m := m) (.inl hok))
    have eL := hide (putL_no hpk.out)
    rw [hok] at HI
    clear hok
    go_enter Try.func19, Try.ntmps19
    go_wp2_with (first | (go_at_call 20; refine (HI.out).mono ?_; rintro e w' ⟨rfl, rfl⟩))
    go_ret2
    rw [hpk.out, eL.out]
    exact ⟨_, _, _, rfl, Own.none_, Below.refl _ _⟩

end Go.Proofs.Ythdelfhfglnhfaa
