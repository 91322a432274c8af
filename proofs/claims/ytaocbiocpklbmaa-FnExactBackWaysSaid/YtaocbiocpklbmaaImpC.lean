/-
  Contracts of chapter 2, the program's side: writeInBase.
-/
import Derived.Test.YtaocbiocpklbmaaImpB
namespace Go.Proofs.Ytaocbiocpklbmaa
open Go.RowKit

set_option maxHeartbeats 800000 in
theorem write_c (A : Option Addr) (n c base C q : Nat) (zs : List Int) (w0 w : World) (h : Own w base (.slice A n c) zs) (hb0 : Below base w0 w) (hC1 : 1 ≤ C) (hC3 : C ≤ 3) (hn : n ≤ 6) (hq : q ≤ 729) :
    Calls Try.prog 63 #[.slice A n c, .int .i64 q, .int .i64 C] w fun e w' => e = .returned (.tuple #[]) ∧ Own w' base (.slice A n c) (digs C n q) ∧ Below base w0 w' := by
  have hD := hide (fun j (hj : j < n) => digs_at (C := C) n q j hj)
  have hDl := hide (digs_len C n q)
  have hne : ((C : Int) == 0) = false := by simp; omega
  have hdv := hide (fun k => show q / C ^ k / C = q / C ^ (k + 1) by rw [Nat.div_div_eq_div_mul, Nat.pow_succ])
  go_enter Try.func63, Try.ntmps63
  go_wp2
  go_loopw [1, 9] (fun t i wr => ∃ k p : Nat, ∃ L : List Int, k ≤ n ∧ p ≤ 729 ∧ i = .int .i64 k ∧ t = .int .i64 p ∧ Hid (p = q / C ^ k) ∧ Hid (Own wr base (.slice A n c) L) ∧ Hid (Below base w0 wr) ∧ Hid (∀ j, j < k → L[j]? = (digs C n q)[j]?)) (fun _ i _ => n - (intOf i).toNat)
  case atStart => exact ⟨0, q, zs, Nat.zero_le _, hq, rfl, rfl, by simp [hide], hide h, hide hb0, fun j hj => absurd hj (by omega)⟩
  case round =>
    clear h hb0
    obtain ⟨k, p, L, hk, hp, rfl, rfl, hpe, ho, hb, hL⟩ := hrel
    have hll := hide ho.out.len
    by_cases hlt : k < n
    · obtain ⟨y, hy⟩ : ∃ y, Hid (L[k]? = some y) := ⟨_, hide (List.getElem?_eq_getElem (by have := hll.out; omega))⟩
      obtain ⟨g, hA2, hg, hgl, hcy, hfy⟩ := ho.out.at2 hy.out
      have hm1 : p % C < C := Nat.mod_lt _ (by omega)
      have hm2 : p / C ≤ p := Nat.div_le_self _ _
      have hd := hide (hD.out k hlt)
      rw [← hpe.out] at hd
      have ho2 := hide (show Own (wr.setCell ⟨g, k, none⟩ (.int .i64 ((p % C : Nat) : Int))) base (.slice (some ⟨g, 0, none⟩) n c) (L.set k ((p % C : Nat) : Int)) from (hA2 ▸ ho.out).set_ _ (wf_i64 (by omega)))
      have hb2 := hide (hb.out.setCell (p := ⟨g, k, none⟩) hg (.int .i64 ((p % C : Nat) : Int)))
      have hL2 := hide (show ∀ j, j < k + 1 → (L.set k ((p % C : Nat) : Int))[j]? = (digs C n q)[j]? from fun j hj => by
        by_cases hjk : j = k
        · subst hjk
          rw [List.getElem?_set_self (by have := hll.out; omega), hd.out]
        · rw [List.getElem?_set_ne (by omega)]; exact hL.out j (by omega))
      have hp2 := hide (show p / C = q / C ^ (k + 1) by rw [hpe.out]; exact hdv.out k)
      clear hd hL hpe hll
      subst hA2
      have hw1 : wrap64 ((p : Int) / (C : Int)) = ((p / C : Nat) : Int) := by
        have e : ((p : Int) / (C : Int)) = ((p / C : Nat) : Int) := (Int.natCast_ediv _ _).symm
        have hz : p / C ≤ 729 := Nat.le_trans hm2 hp
        rw [e]
        generalize p / C = z at hz ⊢
        simp only [wrap64]; omega
      have hw1 := hide hw1
      go_wp2
      rw [hw1.out]
      rw [Int.natCast_emod] at ho2 hb2
      go_roundw
      case rel => exact ⟨k + 1, p / C, _, by omega, Nat.le_trans hm2 hp, by go_num, rfl, hp2, ho2, hb2, hL2⟩
      case measure => simp [intOf]; omega
    · obtain rfl : k = n := by omega
      have hLe : L = digs C k q := List.ext_getElem? fun j => by
        rcases Nat.lt_or_ge j k with hj | hj
        · exact hL.out j hj
        · rw [List.getElem?_eq_none (by have := hll.out; omega), List.getElem?_eq_none (by have := hDl.out; omega)]
      subst hLe
      go_wp2
      go_end0
      exact ⟨rfl, ho.out, hb.out⟩
end Go.Proofs.Ytaocbiocpklbmaa
