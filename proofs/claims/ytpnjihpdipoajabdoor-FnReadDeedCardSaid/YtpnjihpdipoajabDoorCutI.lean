/-
  Plain facts: strings.Cut at one byte, in the library's own words; its contract.
-/
import Derived.Test.YtpnjihpdipoajabDoorLaid
import Derived.Lib.IndexMore
namespace Go.Proofs.YtpnjihpdipoajabDoor
open Go.RowKit
set_option linter.unusedVariables false

theorem index_sep {c : UInt8} {l : Bs} (r : Bs) (h : c ∉ l) : Lib.index (l ++ c :: r) [c] = (l.length : Int) := by
  induction l with
  | nil => simp [Lib.index, List.isPrefixOf]
  | cons x l ih =>
    have hx : (c == x) = false := beq_eq_false_iff_ne.2 (fun e => h (by rw [e]; exact List.mem_cons_self))
    have := ih (fun e => h (List.mem_cons_of_mem _ e))
    show Lib.index (x :: (l ++ c :: r)) [c] = _
    unfold Lib.index
    rw [this]
    have hp : [c].isPrefixOf (x :: (l ++ c :: r)) = false := by simp [List.isPrefixOf, hx]
    rw [hp]
    have : ((l.length : Int) == -1) = false := beq_eq_false_iff_ne.2 (by omega)
    rw [this]
    simp
theorem index_free {c : UInt8} {l : Bs} (h : c ∉ l) : Lib.index l [c] = -1 := by
  induction l with
  | nil => rfl
  | cons x l ih =>
    have hx : (c == x) = false := beq_eq_false_iff_ne.2 (fun e => h (by rw [e]; exact List.mem_cons_self))
    have := ih (fun e => h (List.mem_cons_of_mem _ e))
    unfold Lib.index
    rw [this]
    have hp : [c].isPrefixOf (x :: l) = false := by simp [List.isPrefixOf, hx]
    rw [hp]
    simp
theorem cut_at {c : UInt8} {l : Bs} (r : Bs) (h : c ∉ l) : Lib.cut (l ++ c :: r) [c] = (l, r, true) := by
  unfold Lib.cut
  rw [index_sep r h, if_pos (by omega)]
  simp
theorem cut_free' {c : UInt8} {l : Bs} (h : c ∉ l) : Lib.cut l [c] = (l, [], false) := by
  unfold Lib.cut
  rw [index_free h, if_neg (by omega)]
theorem cut_len (l : Bs) (c : UInt8) : (Lib.cut l [c]).1.length ≤ l.length ∧ (Lib.cut l [c]).2.1.length ≤ l.length := by
  unfold Lib.cut
  split
  · simp only [List.length_take, List.length_drop]; omega
  · simp
theorem cutI_c (s : ByteArray) (w : World) (hL : LaidN w) (hs : s.size < 4294967281) :
    Calls Tryd.prog 33 #[.string s, .string ⟨#[32]⟩] w fun e w' => e = .returned (.tuple #[.string (strB (Lib.cut (bts s) [32]).1), .string (strB (Lib.cut (bts s) [32]).2.1), .bool (Lib.cut (bts s) [32]).2.2]) ∧ Below w.heap.size w w' := by
  obtain ⟨m, hm⟩ := hL.max
  exact (Tryd.strings_Cut s ⟨#[32]⟩ m w hs hm).mono fun e w' ⟨he, n, hw⟩ => ⟨he, by rw [hw]; exact below_drewN (Below.refl _ _) n⟩
end Go.Proofs.YtpnjihpdipoajabDoor
