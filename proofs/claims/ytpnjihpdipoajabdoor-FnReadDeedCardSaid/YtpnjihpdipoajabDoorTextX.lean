/-
  Contracts of chapter 14, the specification's side: l1Cut.
-/
import Derived.Test.YtpnjihpdipoajabDoorTextW
import Derived.Test.YtpnjihpdipoajabDoorPush
namespace Go.Proofs.YtpnjihpdipoajabDoor
open Go.RowKit
set_option linter.unusedVariables false

/-- The pieces found as far as byte k, and where the next one begins. -/
def cutTo (c : UInt8) (l : Bs) : Nat → List Bs × Nat
  | 0 => ([], 0)
  | k + 1 => if l[k]? = some c then ((cutTo c l k).1 ++ [(l.take k).drop (cutTo c l k).2], k + 1) else cutTo c l k
theorem cutTo_le (c : UInt8) (l : Bs) (k : Nat) : (cutTo c l k).2 ≤ k := by
  induction k with
  | zero => exact Nat.le_refl _
  | succ k ih =>
    unfold cutTo
    split
    · exact Nat.le_refl _
    · exact Nat.le_succ_of_le ih
theorem cutTo_len (c : UInt8) (l : Bs) (k : Nat) : (cutTo c l k).1.length ≤ k := by
  induction k with
  | zero => exact Nat.le_refl _
  | succ k ih =>
    unfold cutTo
    split
    · simp; exact ih
    · exact Nat.le_succ_of_le ih
theorem cutTo_free (c : UInt8) (l : Bs) (k : Nat) : c ∉ (l.take k).drop (cutTo c l k).2 := by
  induction k with
  | zero => simp
  | succ k ih =>
    unfold cutTo
    split
    · simp
    · next h =>
      rw [List.take_add_one]
      intro hm
      have hle := cutTo_le c l k
      by_cases hk : k < l.length
      · rw [List.getElem?_eq_getElem hk] at hm h
        simp only [Option.toList_some] at hm
        rw [List.drop_append_of_le_length (by rw [List.length_take]; omega)] at hm
        rcases List.mem_append.1 hm with hm | hm
        · exact ih hm
        · simp at hm; exact h (by rw [hm])
      · rw [List.getElem?_eq_none (by omega)] at hm
        simp only [Option.toList_none, List.append_nil] at hm
        exact ih hm
theorem cutTo_all (c : UInt8) (l : Bs) (k : Nat) (hk : k ≤ l.length) : cutT c l = (cutTo c l k).1 ++ cutT c (l.drop (cutTo c l k).2) := by
  induction k with
  | zero => rfl
  | succ k ih =>
    have ih := ih (by omega)
    unfold cutTo
    split
    · next h =>
      rw [ih]
      have hle := cutTo_le c l k
      have hk' : k < l.length := by omega
      have hsp : l.drop (cutTo c l k).2 = (l.take k).drop (cutTo c l k).2 ++ c :: l.drop (k + 1) := by
        have h1 : l = l.take k ++ c :: l.drop (k + 1) := by
          have h2 := List.take_append_drop k l
          rw [List.drop_eq_getElem_cons hk'] at h2
          rw [List.getElem?_eq_getElem hk'] at h
          injection h with h
          rw [h] at h2
          exact h2.symm
        generalize (cutTo c l k).2 = q at hle ⊢
        have h2 : l.drop q = (l.take k ++ c :: l.drop (k + 1)).drop q := congrArg (List.drop q) h1
        rw [h2, List.drop_append_of_le_length (by rw [List.length_take]; omega)]
      rw [hsp, cutT_sep (cutTo_free c l k)]
      simp
    · exact ih
theorem cutTo_end (c : UInt8) (l : Bs) : cutT c l = (cutTo c l l.length).1 ++ [l.drop (cutTo c l l.length).2] := by
  have hf := cutTo_free c l l.length
  rw [List.take_length] at hf
  rw [cutTo_all c l l.length (Nat.le_refl _), cutT_none hf]
theorem cutT_len (c : UInt8) (l : Bs) : (cutT c l).length ≤ l.length + 1 := by
  rw [cutTo_end]
  have := cutTo_len c l l.length
  simp; omega

theorem cutTo_hit {c : UInt8} {l : Bs} {k : Nat} (h : l[k]? = some c) : cutTo c l (k + 1) = ((cutTo c l k).1 ++ [(l.take k).drop (cutTo c l k).2], k + 1) := by
  show (if l[k]? = some c then _ else _) = _
  rw [if_pos h]
theorem cutTo_miss {c : UInt8} {l : Bs} {k : Nat} (h : l[k]? ≠ some c) : cutTo c l (k + 1) = cutTo c l k := by
  show (if l[k]? = some c then _ else _) = _
  rw [if_neg h]
set_option maxRecDepth 100000 in
set_option maxHeartbeats 1600000 in
theorem l1Cut_c (s : ByteArray) (z : Int) (c : UInt8) (w : World) (hz : z = (c.toNat : Int)) (hs : s.size ≤ 1048576) :
    Calls Tryd.prog 38 #[.string s, .int .u8 z] w fun e w' => ∃ A n cc, e = .returned (.slice A n cc) ∧ OwnS w' w.heap.size (.slice A n cc) ((cutT c (bts s)).map strB) ∧ Below w.heap.size w w' := by
  subst hz
  obtain ⟨i0, hi, hz0, hz1, hz2⟩ := info_parts infoStr
  have hlen := hide (bts_len s)
  have HL := hide (fun k => cutTo_le c (bts s) k)
  have HN := hide (fun k => cutTo_len c (bts s) k)
  have HE := hide (cutTo_end c (bts s))
  have HH := hide (fun (k : Nat) (h : (bts s)[k]? = some c) => cutTo_hit h)
  have HM := hide (fun (k : Nat) (h : (bts s)[k]? ≠ some c) => cutTo_miss h)
  have HX := hide (fun (j k : Nat) => strB_take s j k)
  go_enter Tryd.func38, Tryd.ntmps38
  go_wp2
  have ho0 := hide (show OwnS (w.alloc (.cells #[] 9)) w.heap.size (.slice (some ⟨w.heap.size, 0, none⟩) 0 0) ((cutTo c (bts s) 0).1.map strB) from ownS_empty (Nat.le_refl _))
  have hb0 := hide (al w (.cells #[] 9))
  go_loopw [5, 6, 7] (fun v f i wr => ∃ k F : Nat, ∃ A m cc, k ≤ s.size ∧ i = .int .i64 k ∧ f = .int .i64 F ∧ v = .slice A m cc ∧ Hid (F = (cutTo c (bts s) k).2) ∧ Hid (OwnS wr w.heap.size (.slice A m cc) ((cutTo c (bts s) k).1.map strB)) ∧ Hid (Below w.heap.size w wr)) (fun _ _ i _ => s.size - (intOf i).toNat)
  case atStart => exact ⟨0, 0, _, _, _, Nat.zero_le _, rfl, rfl, rfl, hide rfl, ho0, hb0⟩
  case round =>
    clear ho0 hb0
    obtain ⟨k, F, A, m, cc, hk, rfl, rfl, rfl, hF, ho, hb⟩ := hrel
    have hst := hb.out.size
    have hFk : F ≤ k := by rw [hF.out]; exact HL.out k
    have hmk : m ≤ k := by have := ho.out.len; rw [List.length_map] at this; rw [this]; exact HN.out k
    by_cases hlt : k < s.size
    · by_cases hc : s[k]'hlt = c
      · have hat := hide (HH.out k (by rw [bts_at s k hlt, hc]))
        have hcb : (((s[k]'hlt).toNat : Int) == (c.toNat : Int)) = true := by rw [hc]; simp
        have hc := hide hc
        have hpc := hide (show ((cutTo c (bts s) k).1.map strB) ++ [s.extract F k] = (cutTo c (bts s) (k + 1)).1.map strB by rw [hat.out, HX.out, hF.out, List.map_append]; rfl)
        have hF2 := hide (show k + 1 = (cutTo c (bts s) (k + 1)).2 by rw [hat.out])
        have hls := hide (show ((cutTo c (bts s) k).1.map strB).length ≤ k by rw [List.length_map]; exact HN.out k)
        go_wp2_with (at_builtin; refine wpList_push _ rfl _ _ 64 rfl w.heap.size 9 i0 (.string ⟨#[]⟩) 1 16 Tryd.underlying64 hi hz0 hz1 hz2 rfl (by decide) (by decide) _ _ _ rfl (ho.out.alloc _).rowN _ 1 [.string (s.extract F k)] rfl rfl (lit_cells _ _ _) (by intro u hu; simp at hu; subst hu; rfl) (by omega) (by simp; omega) ?_; intro A₃ c₃ w3 hr3 hg3; have ho3 := hide (OwnS.push ho.out.len hr3); have hb3 := hide ((hb.out.alloc (by omega) _).grown hg3 (by simp; omega) (fun j hj => (ho.out.row.lt j hj).1)); clear hr3 hg3)
        rw [hpc.out] at ho3
        go_roundw
        case rel => exact ⟨k + 1, k + 1, _, _, _, by omega, by go_num, by go_num, rfl, hF2, ho3, hb3⟩
        case measure => simp [intOf]; omega
      · have hat := hide (HM.out k (by rw [bts_at s k hlt]; intro e; injection e with e; exact hc e))
        have hcb : (((s[k]'hlt).toNat : Int) == (c.toNat : Int)) = false := by
          simp
          intro e
          exact hc (UInt8.toNat_inj.1 (by omega))
        have hF2 := hide (show F = (cutTo c (bts s) (k + 1)).2 by rw [hat.out, hF.out])
        rw [← hat.out] at ho
        go_wp2
        go_roundw
        case rel => exact ⟨k + 1, F, _, _, _, by omega, by go_num, rfl, rfl, hF2, ho, hb⟩
        case measure => simp [intOf]; omega
    · obtain rfl : k = s.size := by omega
      have hpc := hide (show ((cutTo c (bts s) s.size).1.map strB) ++ [s.extract F s.size] = (cutT c (bts s)).map strB by
        rw [HE.out, hlen.out, HX.out, hF.out, List.map_append, List.take_of_length_le (by rw [hlen.out]; exact Nat.le_refl _)]; rfl)
      have hls := hide (show ((cutTo c (bts s) s.size).1.map strB).length ≤ s.size by rw [List.length_map]; exact HN.out s.size)
      go_wp2_with (at_builtin; refine wpList_push _ rfl _ _ 64 rfl w.heap.size 9 i0 (.string ⟨#[]⟩) 1 16 Tryd.underlying64 hi hz0 hz1 hz2 rfl (by decide) (by decide) _ _ _ rfl (ho.out.alloc _).rowN _ 1 [.string (s.extract F s.size)] rfl rfl (lit_cells _ _ _) (by intro u hu; simp at hu; subst hu; rfl) (by omega) (by simp; omega) ?_; intro A₃ c₃ w3 hr3 hg3; have ho3 := hide (OwnS.push ho.out.len hr3); have hb3 := hide ((hb.out.alloc (by omega) _).grown hg3 (by simp; omega) (fun j hj => (ho.out.row.lt j hj).1)); clear hr3 hg3)
      rw [hpc.out] at ho3
      go_ret
      exact ⟨_, _, _, rfl, ho3.out, hb3.out⟩
end Go.Proofs.YtpnjihpdipoajabDoor
