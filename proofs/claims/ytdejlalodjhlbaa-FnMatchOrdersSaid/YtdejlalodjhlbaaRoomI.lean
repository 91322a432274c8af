/-
  Contracts of chapter 7, the program's side: roomsOk, RoomRowOk, RoomStep, RoomAfter, RestRow, LeanAfter (slices.Concat among what they call).
-/
import Derived.Test.YtdejlalodjhlbaaRoomT
import Derived.Test.YtdejlalodjhlbaaZoks
import Derived.Test.YtdejlalodjhlbaaZpl
import Derived.Lib.AppendZerosOnto
import Derived.Lib.Walk
namespace Go.Proofs.Ytdejlalodjhlbaa
open Go.RowKit
set_option linter.unusedVariables false

theorem roomStep_on {M F S : Nat} (h1 : 1 ≤ M) (h6 : M ≤ 6) (hF : F ≤ M) (hS : S < 6) : roomStep (M : Int) (roomL M F S) = roomL M F (S + 1) := by
  have a := roomOk_mk h1 h6 (roomL_len M F S) (fun x hx => by
    obtain ⟨k, hk, rfl⟩ := List.getElem_of_mem hx
    have := room_elem h1 h6 hF (show S ≤ 6 by omega) (List.getElem?_eq_getElem hk)
    omega)
  have b := roomOk_mk h1 h6 (roomL_len M F (S + 1)) (fun x hx => by
    obtain ⟨k, hk, rfl⟩ := List.getElem_of_mem hx
    have := room_elem h1 h6 hF (show S + 1 ≤ 6 by omega) (List.getElem?_eq_getElem hk)
    omega)
  unfold roomStep
  rw [Int.toNat_natCast, if_pos ⟨a, b⟩]
  rfl

theorem own_madeB {w : World} {b g m : Nat} (ho : w.ownsRow b 3 1 (.slice (some ⟨g, 0, none⟩) m m) m (madeCells (Value.int .i64 0).cells (m * 1)).toList) : Own w b (.slice (some ⟨g, 0, none⟩) m m) (List.replicate m 0) :=
  ⟨by
    have e1 : (madeCells (Value.int .i64 0).cells (m * 1)).toList = (List.replicate m (0 : Int)).map (Value.int .i64) := by
      simp [Value.cells, toList_madeCells_one]
    rw [List.length_replicate, ← e1]; exact ho, fun z hz => by
      have := List.eq_of_mem_replicate hz
      subst this; decide⟩

/-! slices.Grow of nil, slices.Concat of a slice of rows with elements. -/
theorem flat_take {rs : List (List Int)} {k : Nat} {l : List Int} (h : rs[k]? = some l) : (rs.take (k + 1)).flatten = (rs.take k).flatten ++ l := by
  rw [List.take_add_one, h, List.flatten_append]; simp
theorem flat_len {rs : List (List Int)} (k : Nat) : (rs.take k).flatten.length ≤ rs.flatten.length := by
  have := congrArg List.length (congrArg List.flatten (List.take_append_drop k rs))
  rw [List.flatten_append, List.length_append] at this
  omega

theorem mat_two {w : World} {B b n c n' c' : Nat} {A A' : Option Addr} {zs zs' : List Int} (h0 : w.cell? ⟨b, 0, none⟩ = some (.slice A n c)) (h1 : w.cell? ⟨b, 1, none⟩ = some (.slice A' n' c')) (hz : Ints w B A n c zs) (hz' : Ints w B A' n' c' zs') (hb : b < B) : Mat w B (some ⟨b, 0, none⟩) 2 2 [zs, zs'] := by
  refine ⟨rfl, Nat.le_refl _, by unfold maxLen; omega, fun _ => ⟨b, 0, rfl, hb, fun j l hl => ?_⟩, fun e => by cases e⟩
  rcases j with _ | _ | j
  · simp at hl; subst hl; exact ⟨_, _, _, h0, hz⟩
  · simp at hl; subst hl; exact ⟨_, _, _, h1, hz'⟩
  · simp at hl
theorem rest_pascal_cnt : ((List.range 6).all fun k => decide (addL (restL k ++ [0]) ([0] ++ restL k) = restL (k + 1)) && (restL k).all fun x => decide (0 ≤ x ∧ x ≤ 20)) = true := by kernel_rfl
theorem rest_pascal {k : Nat} (h : k < 6) : addL (restL k ++ [0]) ([0] ++ restL k) = restL (k + 1) := of_decide_eq_true (Bool.and_eq_true_iff.1 (all_range rest_pascal_cnt h)).1
theorem rest_small {k : Nat} (h : k < 6) {x : Int} (hx : x ∈ restL k) : 0 ≤ x ∧ x ≤ 20 := of_decide_eq_true (List.all_eq_true.1 (Bool.and_eq_true_iff.1 (all_range rest_pascal_cnt h)).2 x hx)

theorem own_lit1 {w : World} {x : Int} (hx : (Lit.int .i64 x).wf = true) : Own (w.alloc (.cells #[.int .i64 x] 3)) w.heap.size (.slice (some ⟨w.heap.size, 0, none⟩) 1 1) [x] :=
  ⟨⟨rfl, .inr ⟨w.heap.size, 1, #[.int .i64 x], rfl, Nat.le_refl _, heap_alloc_new w _, Nat.le_refl _, by unfold maxLen; omega, rfl, rfl⟩⟩, fun z hz => by simp at hz; subst hz; exact hx⟩

end Go.Proofs.Ytdejlalodjhlbaa
