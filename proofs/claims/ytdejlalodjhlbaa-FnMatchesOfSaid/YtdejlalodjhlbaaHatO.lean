/-
  laws.orderOf: the order of a number.
-/
import Derived.Test.YtdejlalodjhlbaaHatS
import Derived.Test.YtdejlalodjhlbaaZdraw
namespace Go.Proofs.Ytdejlalodjhlbaa
open Go.RowKit
set_option linter.unusedVariables false

theorem ord_len (J k : Nat) : (ordTo J k).1.length = k := by
  induction k with
  | zero => rfl
  | succ k ih =>
    have hlt := Nat.mod_lt (ordTo J k).2 (Nat.succ_pos k)
    simp only [ordTo, List.length_append, List.length_take, List.length_drop, List.length_cons, List.length_nil, ih]
    omega
theorem ord_le (J k : Nat) : (ordTo J k).2 ≤ J := by
  induction k with
  | zero => exact Nat.le_refl _
  | succ k ih => exact Nat.le_trans (Nat.div_le_self _ _) ih
theorem own_some {w : World} {base n c : Nat} {A : Option Addr} {zs : List Int} (h : Own w base (.slice A n c) zs) (hn : 0 < n) : ∃ g, A = some ⟨g, 0, none⟩ := by
  have hl := h.len
  obtain ⟨x, hx⟩ : ∃ x, zs[0]? = some x := ⟨_, List.getElem?_eq_getElem (by omega)⟩
  obtain ⟨g, hg, _⟩ := h.at2 hx
  exact ⟨g, hg⟩
/-- What stands behind the first h elements, as the walk spells it (a slice cut at its capacity keeps its pointer). -/
theorem Ints.dropI {w : World} {B n c h b : Nat} {zs : List Int} (hz : Ints w B (some ⟨b, 0, none⟩) n c zs) (hh : h ≤ n) : Ints w B (if c = h then some ⟨b, 0, none⟩ else some ⟨b, h, none⟩) (n - h) (c - h) (zs.drop h) := by
  have hl := hz.len
  have hc := hz.le
  by_cases e : c = h
  · rw [if_pos e, show n - h = 0 by omega, List.drop_eq_nil_of_le (by omega)]
    exact Ints.emptyS (Nat.le_trans (Nat.sub_le _ _) hz.big) (fun e => by cases e)
  · rw [if_neg e]
    have := hz.dropS hh
    rwa [Nat.zero_add] at this
set_option maxRecDepth 100000 in
set_option maxHeartbeats 3200000 in
theorem orderOf_c (H J : Nat) (w : World) (hH : H ≤ 6) (hJ : J ≤ 1000) :
    Calls Try.prog 25 #[.int .i64 (H : Int), .int .i64 (J : Int)] w fun e w' => ∃ A c, e = .returned (.slice A H c) ∧ Own w' w.heap.size (.slice A H c) (ordTo J H).1 ∧ Below w.heap.size w w' := by
  obtain ⟨i0, hi, hz0, hz1, hz2⟩ := info_parts infoInt
  have HL := hide (ord_len J)
  have HE := hide (ord_le J)
  have HS1 := hide (fun k => show (ordTo J (k + 1)).2 = (ordTo J k).2 / (k + 1) from rfl)
  have HS2 := hide (fun k => show (ordTo J (k + 1)).1 = (ordTo J k).1.take ((ordTo J k).2 % (k + 1)) ++ [(k : Int)] ++ (ordTo J k).1.drop ((ordTo J k).2 % (k + 1)) from rfl)
  have ho0 := hide (own_empty (w := w) (base := w.heap.size) (Nat.le_refl _))
  have hb0 := hide (al w (.cells #[] 3))
  go_enter Try.func25, Try.ntmps25
  go_wp2
  go_loopw [1, 5, 6, 7, 8] (fun u v i a b wr => ∃ k R g c : Nat, ∃ O : List Int, k ≤ H ∧ R ≤ J ∧ u = .int .i64 (R : Int) ∧ i = .int .i64 (k : Int) ∧ v = .slice (some ⟨g, 0, none⟩) k c ∧ Hid ((ordTo J k).2 = R) ∧ Hid ((ordTo J k).1 = O) ∧ Hid (Own wr w.heap.size (.slice (some ⟨g, 0, none⟩) k c) O) ∧ Hid (Below w.heap.size w wr)) (fun _ _ i _ _ _ => H - (intOf i).toNat)
  case atStart => exact ⟨0, J, _, _, [], Nat.zero_le _, Nat.le_refl _, rfl, rfl, rfl, hide rfl, hide rfl, ho0, hb0⟩
  case round =>
    clear ho0 hb0
    obtain ⟨k, R, g, c, O, hk, hR, rfl, rfl, rfl, hRe, hOe, ho, hb⟩ := hrel
    by_cases hlt : k < H
    · obtain ⟨Q, hQ⟩ : ∃ Q, Hid (R / (k + 1) = Q) := ⟨_, hide rfl⟩
      obtain ⟨P, hP⟩ : ∃ P, Hid (R % (k + 1) = P) := ⟨_, hide rfl⟩
      have hPk : P ≤ k := by rw [← hP.out]; exact Nat.le_of_lt_succ (Nat.mod_lt R (Nat.succ_pos k))
      have hm1 : (R : Int) % ((k : Int) + 1) = (P : Int) := by rw [← hP.out]; simp
      have hkc := ho.out.ints.le
      have hQJ : Q ≤ J := by rw [← hQ.out]; exact Nat.le_trans (Nat.div_le_self _ _) hR
      have hw2 := hide (show wrap64 ((R : Int) / ((k : Int) + 1)) = (Q : Int) by
        rw [show (R : Int) / ((k : Int) + 1) = (Q : Int) by rw [← hQ.out]; simp]
        exact IntWalk.wrap64_in _ (by omega))
      have hne : ((k : Int) + 1 == 0) = false := by simp; omega
      have hQ2 := hide (show (ordTo J (k + 1)).2 = Q by rw [HS1.out, hRe.out, hQ.out])
      have hO2 := HS2.out k
      rw [hRe.out, hOe.out, hP.out] at hO2
      replace hO2 := hide hO2
      have hlO := hide ho.out.len
      have hoN := hide (own_empty (w := wr) (base := wr.heap.size) (Nat.le_refl _))
      go_wp2_with (first
        | (at_builtin; refine wpList_app _ rfl _ _ 23 rfl i0 Try.underlying23 hi hz0 hz1 hz2 _ [] rfl hoN.out _ P c _ (O.take P) rfl ((ho.out.alloc _).ints.takeS hPk) (by simp) (by simp; omega) ?_; intro A₁ n₁ c₁ w1 ho1 hg1; have hq1 := hide (al_grown hg1 (Nat.le_refl _)); have hn1 := hide (show n₁ ≤ k by have h1 := ho1.len; have := hlO.out; simp at h1; omega); have ho1 := hide ho1; have hs1 := hq1.out.size; clear hg1)
        | (at_builtin; refine wpList_app _ rfl _ _ 23 rfl i0 Try.underlying23 hi hz0 hz1 hz2 _ _ rfl (ho1.out.alloc _) _ 1 1 _ [(k : Int)] rfl (ints_lit1 (wf_i64 (by omega))) (by simp; omega) (by have h1 := ho1.out.len; have := hn1.out; omega) ?_; intro A₂ n₂ c₂ w2 ho2 hg2; have hq2 := hide ((hq1.out.alloc hs1 _).grown hg2 (by simp; omega) (fun j hj => (ho1.out.row.lt j hj).1)); have ho2 := hide ho2; have hs2 := hq2.out.size; have hz2s := hide (ho.out.up hq2.out).ints; clear hg2)
        | (at_builtin; refine wpList_app _ rfl _ _ 23 rfl i0 Try.underlying23 hi hz0 hz1 hz2 _ _ rfl ho2.out _ (k - P) (c - P) _ (O.drop P) rfl (hz2s.out.dropI hPk) hs2 (by have h2 := ho1.out.len; have := hn1.out; rw [List.length_append, ← h2]; simp; omega) ?_; intro A₃ n₃ c₃ w3 ho3 hg3; have hq3 := hide (hq2.out.grown hg3 hs2 (fun j hj => (ho2.out.row.lt j hj).1)); have ho3 := hide ho3; clear hg3))
      have hn3 : n₃ = k + 1 := by
        have h1 := ho3.out.len
        have h2 := hlO.out
        simp at h1
        omega
      subst hn3
      obtain ⟨g3, rfl⟩ := own_some ho3.out (Nat.succ_pos k)
      have ho4 := hide (show Own w3 w.heap.size (.slice (some ⟨g3, 0, none⟩) (k + 1) c₃) ([] ++ O.take P ++ [(k : Int)] ++ O.drop P) from ho3.out.down hb.out.size)
      have hb4 := hide (upB hb.out hq3.out)
      have hO4 := hide (show (ordTo J (k + 1)).1 = [] ++ O.take P ++ [(k : Int)] ++ O.drop P by rw [hO2.out, List.nil_append])
      go_roundw
      case rel => exact ⟨k + 1, Q, g3, c₃, _, by omega, hQJ, by rw [hw2.out], by go_num, rfl, hQ2, hO4, ho4, hb4⟩
      case measure => simp [intOf]; omega
    · obtain rfl : k = H := by omega
      go_wp2_with fail
      go_ret
      rw [hOe.out]
      exact ⟨_, _, rfl, ho.out, hb.out⟩
end Go.Proofs.Ytdejlalodjhlbaa
