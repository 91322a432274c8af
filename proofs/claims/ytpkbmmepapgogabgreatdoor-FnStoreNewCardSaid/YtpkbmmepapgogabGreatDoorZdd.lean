/-
  Words, plain lemmas and contracts that belong together, joined into one file.
-/
import Derived.Test.YtpkbmmepapgogabGreatDoorZla
import Derived.Test.YtpkbmmepapgogabGreatDoorZpb
import Derived.Deep.DeepCutAuto
namespace Go.Proofs.YtpkbmmepapgogabGreatDoor
open Go.RowKit
set_option linter.unusedVariables false

/-- What deedForms holds. -/
structure LaidD (w : World) : Prop where
  w0 : w.cell? ⟨0, 0, none⟩ = some (.string ⟨#[112, 117, 116]⟩)
  n0 : w.cell? ⟨0, 1, none⟩ = some (.int .i64 2)
  w1 : w.cell? ⟨0, 2, none⟩ = some (.string ⟨#[115, 116, 101, 112]⟩)
  n1 : w.cell? ⟨0, 3, none⟩ = some (.int .i64 1)
  w2 : w.cell? ⟨0, 4, none⟩ = some (.string ⟨#[100, 114, 97, 119]⟩)
  n2 : w.cell? ⟨0, 5, none⟩ = some (.int .i64 1)
  w3 : w.cell? ⟨0, 6, none⟩ = some (.string ⟨#[97, 103, 97, 105, 110]⟩)
  n3 : w.cell? ⟨0, 7, none⟩ = some (.int .i64 0)
  w4 : w.cell? ⟨0, 8, none⟩ = some (.string ⟨#[98, 97, 99, 107]⟩)
  n4 : w.cell? ⟨0, 9, none⟩ = some (.int .i64 0)
theorem LaidD.up {w w' : World} (h : LaidD w) (hq : Below w.heap.size w w') : LaidD w' :=
  ⟨cell_up h.w0 hq, cell_up h.n0 hq, cell_up h.w1 hq, cell_up h.n1 hq, cell_up h.w2 hq, cell_up h.n2 hq, cell_up h.w3 hq, cell_up h.n3 hq, cell_up h.w4 hq, cell_up h.n4 hq⟩

theorem hasText_c (a : Int) (w : World) :
    Calls Tryz.prog 85 #[.int .i64 a] w fun e w' => e = .returned (.bool (decide (-99 ≤ a ∧ a ≤ 99))) ∧ w = w' := by
  by_cases h1 : -99 ≤ a
  · by_cases h2 : a ≤ 99
    · have hd := hide (decide_eq_true (p := -99 ≤ a ∧ a ≤ 99) ⟨h1, h2⟩)
      go_enter Tryz.func85, Tryz.ntmps85
      go_wp2_with fail
      go_ret
      exact ⟨by first | exact ret_bool hd.out.symm | exact ret_bool (by simp; omega) | simp, rfl⟩
    · have hd := hide (decide_eq_false (p := -99 ≤ a ∧ a ≤ 99) (fun h => h2 h.2))
      go_enter Tryz.func85, Tryz.ntmps85
      go_wp2_with fail
      go_ret
      exact ⟨by first | exact ret_bool hd.out.symm | exact ret_bool (by simp; omega) | simp, rfl⟩
  · have hd := hide (decide_eq_false (p := -99 ≤ a ∧ a ≤ 99) (fun h => h1 h.1))
    go_enter Tryz.func85, Tryz.ntmps85
    go_wp2_with fail
    go_ret
    exact ⟨by first | exact ret_bool hd.out.symm | exact ret_bool (by simp; omega) | simp, rfl⟩

def formW (k : Int) : Bs := if k = 0 then wPut else if k = 1 then wStep else if k = 2 then wDraw else if k = 3 then wAgain else if k = 4 then wBack else []
def formN (k : Int) : Int := if k = 0 then 2 else if k = 1 then 1 else if k = 2 then 1 else 0
set_option maxRecDepth 100000 in
set_option maxHeartbeats 1600000 in
theorem formOf_c (d : Ded) (w : World) (hD : LaidD w) :
    Calls Tryz.prog 82 #[.agg #[.int .i64 d.k, .int .i64 d.a, .int .i64 d.b]] w fun e w' => e = .returned (.tuple #[.agg #[.string (strB (formW d.k)), .int .i64 (formN d.k)], .bool (kindB d)]) ∧ Below w.heap.size w w' := by
  obtain ⟨k, a, b⟩ := d
  show Calls Tryz.prog 82 #[.agg #[.int .i64 k, .int .i64 a, .int .i64 b]] w _
  have ht := hide (TriW.made w (.int .i64 k) (.int .i64 a) (.int .i64 b) 51)
  have hq0 := hide (al w (.cells #[.int .i64 k, .int .i64 a, .int .i64 b] 51))
  have hq1 := hide (show Below w.heap.size w ((w.alloc (.cells #[.int .i64 k, .int .i64 a, .int .i64 b] 51)).alloc (.cells #[.string ⟨#[]⟩, .int .i64 0] 95)) from (al w _).alloc (by simp) _)
  have hD1 := hide (hD.up hq1.out)
  obtain ⟨w0, n0, w1, n1, w2, n2, w3, n3, w4, n4⟩ := hD1.out
  by_cases hk : 0 ≤ k ∧ k < 5
  · rcases (show k = 0 ∨ k = 1 ∨ k = 2 ∨ k = 3 ∨ k = 4 by omega) with h | h | h | h | h
    · subst h
      clear hk
      go_enter Tryz.func82, Tryz.ntmps82
      have he := hide (show kindB ⟨0, a, b⟩ = true by unfold kindB; simp <;> omega)
      go_wp2_with fail
      go_region
      all_goals
        go_wp2_with fail
        exact bodyPost_ret (v := .tuple #[.agg #[.string ⟨#[112, 117, 116]⟩, .int .i64 2], .bool true]) (by simp [results, Tryz.results82, go_sem]) rfl ⟨congrArg (fun x => Ending.returned (.tuple #[.agg #[.string ⟨#[112, 117, 116]⟩, .int .i64 2], .bool x])) he.out.symm, by first | exact (((al w _).alloc (by simp) _).alloc (by simp; omega) _).drew | exact (((al w _).alloc (by simp) _).alloc (by simp; omega) _)⟩
    · subst h
      clear hk
      go_enter Tryz.func82, Tryz.ntmps82
      by_cases hb : b = 0
      · subst hb
        have he := hide (show kindB ⟨1, a, 0⟩ = true by unfold kindB; simp <;> omega)
        go_wp2_with fail
        go_region
        all_goals
          go_wp2_with fail
          exact bodyPost_ret (v := .tuple #[.agg #[.string ⟨#[115, 116, 101, 112]⟩, .int .i64 1], .bool true]) (by simp [results, Tryz.results82, go_sem]) rfl ⟨congrArg (fun x => Ending.returned (.tuple #[.agg #[.string ⟨#[115, 116, 101, 112]⟩, .int .i64 1], .bool x])) he.out.symm, by first | exact (((al w _).alloc (by simp) _).alloc (by simp; omega) _).drew | exact (((al w _).alloc (by simp) _).alloc (by simp; omega) _)⟩
      · have hd : (b == 0) = false := by simpa using hb
        have he := hide (show kindB ⟨1, a, b⟩ = false by unfold kindB; simp <;> omega)
        go_wp2_with fail
        go_region
        all_goals
          go_wp2_with fail
          exact bodyPost_ret (v := .tuple #[.agg #[.string ⟨#[115, 116, 101, 112]⟩, .int .i64 1], .bool false]) (by simp [results, Tryz.results82, go_sem]) rfl ⟨congrArg (fun x => Ending.returned (.tuple #[.agg #[.string ⟨#[115, 116, 101, 112]⟩, .int .i64 1], .bool x])) he.out.symm, by first | exact (((al w _).alloc (by simp) _).alloc (by simp; omega) _).drew | exact (((al w _).alloc (by simp) _).alloc (by simp; omega) _)⟩
    · subst h
      clear hk
      go_enter Tryz.func82, Tryz.ntmps82
      by_cases hb : b = 0
      · subst hb
        have he := hide (show kindB ⟨2, a, 0⟩ = true by unfold kindB; simp <;> omega)
        go_wp2_with fail
        go_region
        all_goals
          go_wp2_with fail
          exact bodyPost_ret (v := .tuple #[.agg #[.string ⟨#[100, 114, 97, 119]⟩, .int .i64 1], .bool true]) (by simp [results, Tryz.results82, go_sem]) rfl ⟨congrArg (fun x => Ending.returned (.tuple #[.agg #[.string ⟨#[100, 114, 97, 119]⟩, .int .i64 1], .bool x])) he.out.symm, by first | exact (((al w _).alloc (by simp) _).alloc (by simp; omega) _).drew | exact (((al w _).alloc (by simp) _).alloc (by simp; omega) _)⟩
      · have hd : (b == 0) = false := by simpa using hb
        have he := hide (show kindB ⟨2, a, b⟩ = false by unfold kindB; simp <;> omega)
        go_wp2_with fail
        go_region
        all_goals
          go_wp2_with fail
          exact bodyPost_ret (v := .tuple #[.agg #[.string ⟨#[100, 114, 97, 119]⟩, .int .i64 1], .bool false]) (by simp [results, Tryz.results82, go_sem]) rfl ⟨congrArg (fun x => Ending.returned (.tuple #[.agg #[.string ⟨#[100, 114, 97, 119]⟩, .int .i64 1], .bool x])) he.out.symm, by first | exact (((al w _).alloc (by simp) _).alloc (by simp; omega) _).drew | exact (((al w _).alloc (by simp) _).alloc (by simp; omega) _)⟩
    · subst h
      clear hk
      go_enter Tryz.func82, Tryz.ntmps82
      by_cases ha : a = 0
      · subst ha
        by_cases hb : b = 0
        · subst hb
          have he := hide (show kindB ⟨3, 0, 0⟩ = true by unfold kindB; simp <;> omega)
          go_wp2_with fail
          go_region
          all_goals
            go_wp2_with fail
            exact bodyPost_ret (v := .tuple #[.agg #[.string ⟨#[97, 103, 97, 105, 110]⟩, .int .i64 0], .bool true]) (by simp [results, Tryz.results82, go_sem]) rfl ⟨congrArg (fun x => Ending.returned (.tuple #[.agg #[.string ⟨#[97, 103, 97, 105, 110]⟩, .int .i64 0], .bool x])) he.out.symm, by first | exact (((al w _).alloc (by simp) _).alloc (by simp; omega) _).drew | exact (((al w _).alloc (by simp) _).alloc (by simp; omega) _)⟩
        · have hd : (b == 0) = false := by simpa using hb
          have he := hide (show kindB ⟨3, 0, b⟩ = false by unfold kindB; simp <;> omega)
          go_wp2_with fail
          go_region
          all_goals
            go_wp2_with fail
            exact bodyPost_ret (v := .tuple #[.agg #[.string ⟨#[97, 103, 97, 105, 110]⟩, .int .i64 0], .bool false]) (by simp [results, Tryz.results82, go_sem]) rfl ⟨congrArg (fun x => Ending.returned (.tuple #[.agg #[.string ⟨#[97, 103, 97, 105, 110]⟩, .int .i64 0], .bool x])) he.out.symm, by first | exact (((al w _).alloc (by simp) _).alloc (by simp; omega) _).drew | exact (((al w _).alloc (by simp) _).alloc (by simp; omega) _)⟩
      · have hd : (a == 0) = false := by simpa using ha
        have he := hide (show kindB ⟨3, a, b⟩ = false by unfold kindB; simp <;> omega)
        go_wp2_with fail
        go_region
        all_goals
          go_wp2_with fail
          exact bodyPost_ret (v := .tuple #[.agg #[.string ⟨#[97, 103, 97, 105, 110]⟩, .int .i64 0], .bool false]) (by simp [results, Tryz.results82, go_sem]) rfl ⟨congrArg (fun x => Ending.returned (.tuple #[.agg #[.string ⟨#[97, 103, 97, 105, 110]⟩, .int .i64 0], .bool x])) he.out.symm, by first | exact (((al w _).alloc (by simp) _).alloc (by simp; omega) _).drew | exact (((al w _).alloc (by simp) _).alloc (by simp; omega) _)⟩
    · subst h
      clear hk
      go_enter Tryz.func82, Tryz.ntmps82
      by_cases ha : a = 0
      · subst ha
        by_cases hb : b = 0
        · subst hb
          have he := hide (show kindB ⟨4, 0, 0⟩ = true by unfold kindB; simp <;> omega)
          go_wp2_with fail
          go_region
          all_goals
            go_wp2_with fail
            exact bodyPost_ret (v := .tuple #[.agg #[.string ⟨#[98, 97, 99, 107]⟩, .int .i64 0], .bool true]) (by simp [results, Tryz.results82, go_sem]) rfl ⟨congrArg (fun x => Ending.returned (.tuple #[.agg #[.string ⟨#[98, 97, 99, 107]⟩, .int .i64 0], .bool x])) he.out.symm, by first | exact (((al w _).alloc (by simp) _).alloc (by simp; omega) _).drew | exact (((al w _).alloc (by simp) _).alloc (by simp; omega) _)⟩
        · have hd : (b == 0) = false := by simpa using hb
          have he := hide (show kindB ⟨4, 0, b⟩ = false by unfold kindB; simp <;> omega)
          go_wp2_with fail
          go_region
          all_goals
            go_wp2_with fail
            exact bodyPost_ret (v := .tuple #[.agg #[.string ⟨#[98, 97, 99, 107]⟩, .int .i64 0], .bool false]) (by simp [results, Tryz.results82, go_sem]) rfl ⟨congrArg (fun x => Ending.returned (.tuple #[.agg #[.string ⟨#[98, 97, 99, 107]⟩, .int .i64 0], .bool x])) he.out.symm, by first | exact (((al w _).alloc (by simp) _).alloc (by simp; omega) _).drew | exact (((al w _).alloc (by simp) _).alloc (by simp; omega) _)⟩
      · have hd : (a == 0) = false := by simpa using ha
        have he := hide (show kindB ⟨4, a, b⟩ = false by unfold kindB; simp <;> omega)
        go_wp2_with fail
        go_region
        all_goals
          go_wp2_with fail
          exact bodyPost_ret (v := .tuple #[.agg #[.string ⟨#[98, 97, 99, 107]⟩, .int .i64 0], .bool false]) (by simp [results, Tryz.results82, go_sem]) rfl ⟨congrArg (fun x => Ending.returned (.tuple #[.agg #[.string ⟨#[98, 97, 99, 107]⟩, .int .i64 0], .bool x])) he.out.symm, by first | exact (((al w _).alloc (by simp) _).alloc (by simp; omega) _).drew | exact (((al w _).alloc (by simp) _).alloc (by simp; omega) _)⟩
  · have he := hide (show kindB ⟨k, a, b⟩ = false by unfold kindB; simp; omega)
    have hw := hide (show formW k = [] by unfold formW; rw [if_neg (by omega), if_neg (by omega), if_neg (by omega), if_neg (by omega), if_neg (by omega)])
    have hn := hide (show formN k = 0 by unfold formN; rw [if_neg (by omega), if_neg (by omega), if_neg (by omega)])
    by_cases hk0 : k < 0
    · go_enter Tryz.func82, Tryz.ntmps82
      go_wp2_with fail
      exact bodyPost_ret (v := .tuple #[.agg #[.string ⟨#[]⟩, .int .i64 0], .bool false]) (by simp [results, Tryz.results82, go_sem]) rfl ⟨by rw [he.out, hw.out, hn.out]; rfl, (al w _).alloc (by simp) _⟩
    · go_enter Tryz.func82, Tryz.ntmps82
      go_wp2_with fail
      exact bodyPost_ret (v := .tuple #[.agg #[.string ⟨#[]⟩, .int .i64 0], .bool false]) (by simp [results, Tryz.results82, go_sem]) rfl ⟨by rw [he.out, hw.out, hn.out]; rfl, (al w _).alloc (by simp) _⟩
end Go.Proofs.YtpkbmmepapgogabGreatDoor

namespace Go.Proofs.YtpkbmmepapgogabGreatDoor
open Go.RowKit
set_option linter.unusedVariables false

def kindL (l : Bs) : Int := if l = wPut then 0 else if l = wStep then 1 else if l = wDraw then 2 else if l = wAgain then 3 else if l = wBack then 4 else -1
set_option maxRecDepth 100000 in
set_option maxHeartbeats 1600000 in
theorem kindOf_c (s : ByteArray) (w : World) (hD : LaidD w) :
    Calls Tryz.prog 81 #[.string s] w fun e w' => e = .returned (.int .i64 (kindL (bts s))) ∧ Below w.heap.size w w' := by
  obtain ⟨w0, n0, w1, n1, w2, n2, w3, n3, w4, n4⟩ := hD
  go_enter Tryz.func81, Tryz.ntmps81
  go_wp2_with fail
  go_loopw [6] (fun i wr => ∃ k : Nat, k ≤ 5 ∧ i = .int .i64 k ∧ Hid (∀ j : Nat, j < k → bts s ≠ formW j) ∧ Hid (Below w.heap.size w wr)) (fun i _ => 5 - (intOf i).toNat)
  case atStart => exact ⟨0, by omega, rfl, hide (fun j hj => absurd hj (by omega)), hide (Below.refl _ _)⟩
  case round =>
    obtain ⟨k, hk, rfl, hall, hb⟩ := hrel
    rcases (show k = 0 ∨ k = 1 ∨ k = 2 ∨ k = 3 ∨ k = 4 ∨ k = 5 by omega) with h | h | h | h | h | h
    · subst h
      have hix : ∀ w : World, (Instr.index 115 (.agg #[.string ⟨#[112, 117, 116]⟩, .int .i64 2, .string ⟨#[115, 116, 101, 112]⟩, .int .i64 1, .string ⟨#[100, 114, 97, 119]⟩, .int .i64 1, .string ⟨#[97, 103, 97, 105, 110]⟩, .int .i64 0, .string ⟨#[98, 97, 99, 107]⟩, .int .i64 0]) (.int .i64 0)).run Tryz.prog w = .ok (.agg #[.string ⟨#[112, 117, 116]⟩, .int .i64 2]) w := fun _ => by kernel_rfl
      by_cases hs : bts s = wPut
      · have hse : s = ⟨#[112, 117, 116]⟩ := bts_inj hs
        subst hse
        go_wp2_with fail
        go_ret
        exact ⟨rfl, by first | exact hb.out.alloc hb.out.size _ | exact hb.out⟩
      · have hse : ([112, 117, 116] == s.toList) = false := by
          rw [ByteArray.toList_eq]
          exact beq_eq_false_iff_ne.2 (fun e => hs e.symm)
        have hall2 := hide (show ∀ j : Nat, j < 1 → bts s ≠ formW j from fun j hj => by
          rcases Nat.lt_or_ge j 0 with hl | hl
          · exact hall.out j hl
          · obtain rfl : j = 0 := by omega
            exact hs)
        clear hs
        go_wp2_with fail
        go_roundw
        case rel => exact ⟨1, by omega, rfl, hall2, hide (by first | exact hb.out.alloc hb.out.size _ | exact hb.out)⟩
        case measure => simp [intOf]
    · subst h
      have hix : ∀ w : World, (Instr.index 115 (.agg #[.string ⟨#[112, 117, 116]⟩, .int .i64 2, .string ⟨#[115, 116, 101, 112]⟩, .int .i64 1, .string ⟨#[100, 114, 97, 119]⟩, .int .i64 1, .string ⟨#[97, 103, 97, 105, 110]⟩, .int .i64 0, .string ⟨#[98, 97, 99, 107]⟩, .int .i64 0]) (.int .i64 1)).run Tryz.prog w = .ok (.agg #[.string ⟨#[115, 116, 101, 112]⟩, .int .i64 1]) w := fun _ => by kernel_rfl
      by_cases hs : bts s = wStep
      · have hse : s = ⟨#[115, 116, 101, 112]⟩ := bts_inj hs
        subst hse
        go_wp2_with fail
        go_ret
        exact ⟨rfl, by first | exact hb.out.alloc hb.out.size _ | exact hb.out⟩
      · have hse : ([115, 116, 101, 112] == s.toList) = false := by
          rw [ByteArray.toList_eq]
          exact beq_eq_false_iff_ne.2 (fun e => hs e.symm)
        have hall2 := hide (show ∀ j : Nat, j < 2 → bts s ≠ formW j from fun j hj => by
          rcases Nat.lt_or_ge j 1 with hl | hl
          · exact hall.out j hl
          · obtain rfl : j = 1 := by omega
            exact hs)
        clear hs
        go_wp2_with fail
        go_roundw
        case rel => exact ⟨2, by omega, rfl, hall2, hide (by first | exact hb.out.alloc hb.out.size _ | exact hb.out)⟩
        case measure => simp [intOf]
    · subst h
      have hix : ∀ w : World, (Instr.index 115 (.agg #[.string ⟨#[112, 117, 116]⟩, .int .i64 2, .string ⟨#[115, 116, 101, 112]⟩, .int .i64 1, .string ⟨#[100, 114, 97, 119]⟩, .int .i64 1, .string ⟨#[97, 103, 97, 105, 110]⟩, .int .i64 0, .string ⟨#[98, 97, 99, 107]⟩, .int .i64 0]) (.int .i64 2)).run Tryz.prog w = .ok (.agg #[.string ⟨#[100, 114, 97, 119]⟩, .int .i64 1]) w := fun _ => by kernel_rfl
      by_cases hs : bts s = wDraw
      · have hse : s = ⟨#[100, 114, 97, 119]⟩ := bts_inj hs
        subst hse
        go_wp2_with fail
        go_ret
        exact ⟨rfl, by first | exact hb.out.alloc hb.out.size _ | exact hb.out⟩
      · have hse : ([100, 114, 97, 119] == s.toList) = false := by
          rw [ByteArray.toList_eq]
          exact beq_eq_false_iff_ne.2 (fun e => hs e.symm)
        have hall2 := hide (show ∀ j : Nat, j < 3 → bts s ≠ formW j from fun j hj => by
          rcases Nat.lt_or_ge j 2 with hl | hl
          · exact hall.out j hl
          · obtain rfl : j = 2 := by omega
            exact hs)
        clear hs
        go_wp2_with fail
        go_roundw
        case rel => exact ⟨3, by omega, rfl, hall2, hide (by first | exact hb.out.alloc hb.out.size _ | exact hb.out)⟩
        case measure => simp [intOf]
    · subst h
      have hix : ∀ w : World, (Instr.index 115 (.agg #[.string ⟨#[112, 117, 116]⟩, .int .i64 2, .string ⟨#[115, 116, 101, 112]⟩, .int .i64 1, .string ⟨#[100, 114, 97, 119]⟩, .int .i64 1, .string ⟨#[97, 103, 97, 105, 110]⟩, .int .i64 0, .string ⟨#[98, 97, 99, 107]⟩, .int .i64 0]) (.int .i64 3)).run Tryz.prog w = .ok (.agg #[.string ⟨#[97, 103, 97, 105, 110]⟩, .int .i64 0]) w := fun _ => by kernel_rfl
      by_cases hs : bts s = wAgain
      · have hse : s = ⟨#[97, 103, 97, 105, 110]⟩ := bts_inj hs
        subst hse
        go_wp2_with fail
        go_ret
        exact ⟨rfl, by first | exact hb.out.alloc hb.out.size _ | exact hb.out⟩
      · have hse : ([97, 103, 97, 105, 110] == s.toList) = false := by
          rw [ByteArray.toList_eq]
          exact beq_eq_false_iff_ne.2 (fun e => hs e.symm)
        have hall2 := hide (show ∀ j : Nat, j < 4 → bts s ≠ formW j from fun j hj => by
          rcases Nat.lt_or_ge j 3 with hl | hl
          · exact hall.out j hl
          · obtain rfl : j = 3 := by omega
            exact hs)
        clear hs
        go_wp2_with fail
        go_roundw
        case rel => exact ⟨4, by omega, rfl, hall2, hide (by first | exact hb.out.alloc hb.out.size _ | exact hb.out)⟩
        case measure => simp [intOf]
    · subst h
      have hix : ∀ w : World, (Instr.index 115 (.agg #[.string ⟨#[112, 117, 116]⟩, .int .i64 2, .string ⟨#[115, 116, 101, 112]⟩, .int .i64 1, .string ⟨#[100, 114, 97, 119]⟩, .int .i64 1, .string ⟨#[97, 103, 97, 105, 110]⟩, .int .i64 0, .string ⟨#[98, 97, 99, 107]⟩, .int .i64 0]) (.int .i64 4)).run Tryz.prog w = .ok (.agg #[.string ⟨#[98, 97, 99, 107]⟩, .int .i64 0]) w := fun _ => by kernel_rfl
      by_cases hs : bts s = wBack
      · have hse : s = ⟨#[98, 97, 99, 107]⟩ := bts_inj hs
        subst hse
        go_wp2_with fail
        go_ret
        exact ⟨rfl, by first | exact hb.out.alloc hb.out.size _ | exact hb.out⟩
      · have hse : ([98, 97, 99, 107] == s.toList) = false := by
          rw [ByteArray.toList_eq]
          exact beq_eq_false_iff_ne.2 (fun e => hs e.symm)
        have hall2 := hide (show ∀ j : Nat, j < 5 → bts s ≠ formW j from fun j hj => by
          rcases Nat.lt_or_ge j 4 with hl | hl
          · exact hall.out j hl
          · obtain rfl : j = 4 := by omega
            exact hs)
        clear hs
        go_wp2_with fail
        go_roundw
        case rel => exact ⟨5, by omega, rfl, hall2, hide (by first | exact hb.out.alloc hb.out.size _ | exact hb.out)⟩
        case measure => simp [intOf]
    · subst h
      have hl := hide (show kindL (bts s) = -1 by
        unfold kindL
        rw [if_neg (show bts s ≠ wPut from hall.out 0 (by omega)), if_neg (show bts s ≠ wStep from hall.out 1 (by omega)), if_neg (show bts s ≠ wDraw from hall.out 2 (by omega)), if_neg (show bts s ≠ wAgain from hall.out 3 (by omega)), if_neg (show bts s ≠ wBack from hall.out 4 (by omega))])
      go_wp2_with fail
      go_ret
      exact ⟨ret_int hl.out.symm, hb.out⟩

set_option maxRecDepth 100000 in
set_option maxHeartbeats 3200000 in
theorem deedText_impl (d : Ded) (w : World) (hL : LaidT w) (hD : LaidD w) :
    Calls Tryz.prog 52 #[.agg #[.int .i64 d.k, .int .i64 d.a, .int .i64 d.b]] w fun e w' => e = .returned (.string (strB (deedT d))) ∧ Below w.heap.size w w' := by
  obtain ⟨k, a, b⟩ := d
  show Calls Tryz.prog 52 #[.agg #[.int .i64 k, .int .i64 a, .int .i64 b]] w _
  have ht := hide (TriW.made w (.int .i64 k) (.int .i64 a) (.int .i64 b) 51)
  have hq0 := hide (al w (.cells #[.int .i64 k, .int .i64 a, .int .i64 b] 51))
  have HF := hide (formOf_c ⟨k, a, b⟩ (w.alloc (.cells #[.int .i64 k, .int .i64 a, .int .i64 b] 51)) (hD.up hq0.out))
  cases hkb : kindB ⟨k, a, b⟩ with
  | false =>
    rw [hkb] at HF
    have he := hide (show deedT ⟨k, a, b⟩ = [] from deedT_no (by unfold deedB; rw [hkb, Bool.and_false]))
    clear hkb
    go_enter Tryz.func52, Tryz.ntmps52
    go_wp2_with fail
    refine HF.out.mono ?_
    rintro e w2 ⟨rfl, hq2⟩
    obtain ⟨c0, c1, c2, _⟩ := ht.out.up hq2
    go_wp2_with fail
    go_ret
    exact ⟨by rw [he.out]; rfl, upB hq0.out (hq2.alloc hq2.size _)⟩
  | true =>
    rw [hkb] at HF
    have HA := hide (fun W => hasText_c a W)
    have HB := hide (fun W => hasText_c b W)
    by_cases ha : -99 ≤ a ∧ a ≤ 99
    · rw [decide_eq_true ha] at HA
      by_cases hb : -99 ≤ b ∧ b ≤ 99
      · rw [decide_eq_true hb] at HB
        have hdb := hide (show deedB ⟨k, a, b⟩ = true by unfold deedB numB; rw [hkb, decide_eq_true ⟨ha, hb⟩]; rfl)
        have hkk := hide (deedB_yes hdb.out).2.2
        have sa := hide (itoa_at ha.1 ha.2)
        have sb := hide (itoa_at hb.1 hb.2)
        have la := (step_at ha.1 ha.2).2.2.2
        have lb := (step_at hb.1 hb.2).2.2.2
        have hTa := hide (fun (W : World) (hq : Below w.heap.size w W) => show Calls Tryz.prog 68 #[.int .i64 a] W (fun e w' => e = .returned (.string (strB (stepT a))) ∧ Below W.heap.size W w') from by rw [← sa.out.1]; exact itoa_impl a W (hL.up hq) (by omega) (by omega))
        have hTb := hide (fun (W : World) (hq : Below w.heap.size w W) => show Calls Tryz.prog 68 #[.int .i64 b] W (fun e w' => e = .returned (.string (strB (stepT b))) ∧ Below W.heap.size W w') from by rw [← sb.out.1]; exact itoa_impl b W (hL.up hq) (by omega) (by omega))
        have he := hide (deedT_ok hdb.out)
        rw [← strB_size] at la lb
        obtain ⟨SA, hSA⟩ : ∃ S, Hid (strB (stepT a) = S) := ⟨_, hide rfl⟩
        obtain ⟨SB, hSB⟩ : ∃ S, Hid (strB (stepT b) = S) := ⟨_, hide rfl⟩
        rw [hSA.out] at hTa la
        rw [hSB.out] at hTb lb
        have hk5 : k = 0 ∨ k = 1 ∨ k = 2 ∨ k = 3 ∨ k = 4 := by have := hkk.out; simp at this; omega
        clear hkb ha hb hkk sa sb
        obtain ⟨WD, hWD⟩ : ∃ X, Hid (strB (formW k) = X) := ⟨_, hide rfl⟩
        obtain ⟨NN, hNN⟩ : ∃ X, Hid (formN k = X) := ⟨_, hide rfl⟩
        have HF2 := hide (show Calls Tryz.prog 82 #[.agg #[.int .i64 k, .int .i64 a, .int .i64 b]] (w.alloc (.cells #[.int .i64 k, .int .i64 a, .int .i64 b] 51)) (fun e w' => e = .returned (.tuple #[.agg #[.string WD, .int .i64 NN], .bool true]) ∧ Below (w.alloc (.cells #[.int .i64 k, .int .i64 a, .int .i64 b] 51)).heap.size (w.alloc (.cells #[.int .i64 k, .int .i64 a, .int .i64 b] 51)) w') from by rw [← hWD.out, ← hNN.out]; exact HF.out)
        clear HF
        have hk5' := hide hk5
        clear hk5
        go_enter Tryz.func52, Tryz.ntmps52
        go_wp2_with fail
        refine HF2.out.mono ?_
        rintro e w2 ⟨rfl, hq2⟩
        have ht2 := hide ((ht.out.up hq2).alloc (.cells #[.string WD, .int .i64 NN] 95))
        obtain ⟨c0, c1, c2, hlt⟩ := ht.out.up hq2
        have hb2 := hide ((upB hq0.out hq2).alloc (upB hq0.out hq2).size (.cells #[.string WD, .int .i64 NN] 95))
        clear hq2 HF2
        go_upto_region 4 with (go_at_call 85; first | (refine (HA.out _).mono ?_; rintro e w' ⟨rfl, rfl⟩) | (refine (HB.out _).mono ?_; rintro e w' ⟨rfl, rfl⟩))
        go_cut [5] (fun t wx => t = .string WD ∧ TriW wx w.heap.size (.int .i64 k) (.int .i64 a) (.int .i64 b) ∧ wx.cell? ⟨w2.heap.size, 0, none⟩ = some (.string WD) ∧ wx.cell? ⟨w2.heap.size, 1, none⟩ = some (.int .i64 NN) ∧ wx.heap.size = w2.heap.size + 1 ∧ Below w.heap.size w wx)
        case first =>
          go_wp2_with fail
          go_meet
          exact ⟨rfl, ht2.out, by rw [World.cell?_alloc_at _ _ _ _ rfl]; rfl, by rw [World.cell?_alloc_at _ _ _ _ rfl]; rfl, by simp, hb2.out⟩
        case rest =>
         obtain ⟨rfl, htc, f0, f1, hsz, hbc⟩ := hcut
         obtain ⟨c0, c1, c2, _, _, _, hltc⟩ := htc
         have hl2 : w2.heap.size < wc.heap.size := by omega
         have hb3 := hide (hbc.alloc hbc.size (.cells #[.int .i64 a, .int .i64 b] 3))
         have hbc := hide hbc
         replace hsz := hide hsz
         have he5 := hk5'.out
         rcases he5 with h | h | h | h | h
         · subst h
           obtain rfl : WD = ⟨#[112, 117, 116]⟩ := hWD.out.symm
           obtain rfl : NN = 2 := hNN.out.symm
           have hfin := hide (show strB (deedT ⟨0, a, b⟩) = ⟨#[112, 117, 116]⟩ ++ (⟨#[32]⟩ ++ SA) ++ (⟨#[32]⟩ ++ SB) by
             rw [he.out, ← hSA.out, ← hSB.out]
             show strB (wPut ++ 32 :: (stepT a ++ 32 :: stepT b)) = strB wPut ++ (strB [32] ++ strB (stepT a)) ++ (strB [32] ++ strB (stepT b))
             rw [← strB_append, ← strB_append, ← strB_append, ← strB_append]
             exact congrArg strB (by simp))
           have q0 : ¬ 9223372036854775807 < 1 + SA.size := by omega
           have q1 : ¬ 9223372036854775807 < 3 + (1 + SA.size) := by omega
           have q2 : ¬ 9223372036854775807 < 1 + SB.size := by omega
           have q3 : ¬ 9223372036854775807 < 3 + (1 + SA.size) + (1 + SB.size) := by omega
           clear he hSA hSB hdb hWD hNN hk5' ht2 hb2
           go_wp2_with fail
           go_loopw [5, 7, 38] (fun txt num i wr => ∃ j : Nat, i = .int .i64 j ∧ ((j = 0 ∧ txt = .string (⟨#[112, 117, 116]⟩)) ∨ (j = 1 ∧ txt = .string (⟨#[112, 117, 116]⟩ ++ (⟨#[32]⟩ ++ SA))) ∨ (j = 2 ∧ txt = .string (⟨#[112, 117, 116]⟩ ++ (⟨#[32]⟩ ++ SA) ++ (⟨#[32]⟩ ++ SB)))) ∧ wr.cell? ⟨wc.heap.size, 0, none⟩ = some (.int .i64 a) ∧ wr.cell? ⟨wc.heap.size, 1, none⟩ = some (.int .i64 b) ∧ wc.heap.size < wr.heap.size ∧ Hid (Below w.heap.size w wr)) (fun _ _ i _ => 3 - (intOf i).toNat)
           case atStart => exact ⟨0, rfl, .inl ⟨rfl, rfl⟩, by rw [World.cell?_alloc_at _ _ _ _ rfl]; rfl, by rw [World.cell?_alloc_at _ _ _ _ rfl]; rfl, by simp, hb3⟩
           case round =>
             clear hb3
             obtain ⟨j, rfl, hj, d0, d1, hl, hb⟩ := hrel
             rcases hj with ⟨rfl, rfl⟩ | ⟨rfl, rfl⟩ | ⟨rfl, rfl⟩
             · have HT := hide (hTa.out wr hb.out)
               go_wp2_with (go_at_call 68; refine HT.out.mono ?_; rintro e w4 ⟨rfl, hq4⟩; have e0 := hide (cell_up d0 hq4); have e1 := hide (cell_up d1 hq4); have e2 := hide (Nat.lt_of_lt_of_le hl hq4.size); have e3 := hide (upB hb.out hq4))
               go_roundw
               case rel => exact ⟨1, rfl, .inr (.inl ⟨rfl, rfl⟩), e0.out, e1.out, e2.out, e3⟩
               case measure => simp [intOf]
             · have HT := hide (hTb.out wr hb.out)
               go_wp2_with (go_at_call 68; refine HT.out.mono ?_; rintro e w4 ⟨rfl, hq4⟩; have e0 := hide (cell_up d0 hq4); have e1 := hide (cell_up d1 hq4); have e2 := hide (Nat.lt_of_lt_of_le hl hq4.size); have e3 := hide (upB hb.out hq4))
               go_roundw
               case rel => exact ⟨2, rfl, .inr (.inr ⟨rfl, rfl⟩), e0.out, e1.out, e2.out, e3⟩
               case measure => simp [intOf]
             · go_wp2_with fail
               go_ret
               exact ⟨by rw [hfin.out]; rfl, hb.out⟩
         · subst h
           obtain rfl : WD = ⟨#[115, 116, 101, 112]⟩ := hWD.out.symm
           obtain rfl : NN = 1 := hNN.out.symm
           have hfin := hide (show strB (deedT ⟨1, a, b⟩) = ⟨#[115, 116, 101, 112]⟩ ++ (⟨#[32]⟩ ++ SA) by
             rw [he.out, ← hSA.out]
             show strB (wStep ++ 32 :: stepT a) = strB wStep ++ (strB [32] ++ strB (stepT a))
             rw [← strB_append, ← strB_append]
             exact congrArg strB (by simp))
           have q0 : ¬ 9223372036854775807 < 1 + SA.size := by omega
           have q1 : ¬ 9223372036854775807 < 4 + (1 + SA.size) := by omega
           clear he hSA hSB hdb hWD hNN hk5' ht2 hb2
           go_wp2_with fail
           go_loopw [5, 7, 38] (fun txt num i wr => ∃ j : Nat, i = .int .i64 j ∧ ((j = 0 ∧ txt = .string (⟨#[115, 116, 101, 112]⟩)) ∨ (j = 1 ∧ txt = .string (⟨#[115, 116, 101, 112]⟩ ++ (⟨#[32]⟩ ++ SA)))) ∧ wr.cell? ⟨wc.heap.size, 0, none⟩ = some (.int .i64 a) ∧ wr.cell? ⟨wc.heap.size, 1, none⟩ = some (.int .i64 b) ∧ wc.heap.size < wr.heap.size ∧ Hid (Below w.heap.size w wr)) (fun _ _ i _ => 3 - (intOf i).toNat)
           case atStart => exact ⟨0, rfl, .inl ⟨rfl, rfl⟩, by rw [World.cell?_alloc_at _ _ _ _ rfl]; rfl, by rw [World.cell?_alloc_at _ _ _ _ rfl]; rfl, by simp, hb3⟩
           case round =>
             clear hb3
             obtain ⟨j, rfl, hj, d0, d1, hl, hb⟩ := hrel
             rcases hj with ⟨rfl, rfl⟩ | ⟨rfl, rfl⟩
             · have HT := hide (hTa.out wr hb.out)
               go_wp2_with (go_at_call 68; refine HT.out.mono ?_; rintro e w4 ⟨rfl, hq4⟩; have e0 := hide (cell_up d0 hq4); have e1 := hide (cell_up d1 hq4); have e2 := hide (Nat.lt_of_lt_of_le hl hq4.size); have e3 := hide (upB hb.out hq4))
               go_roundw
               case rel => exact ⟨1, rfl, .inr ⟨rfl, rfl⟩, e0.out, e1.out, e2.out, e3⟩
               case measure => simp [intOf]
             · go_wp2_with fail
               go_ret
               exact ⟨by rw [hfin.out]; rfl, hb.out⟩
         · subst h
           obtain rfl : WD = ⟨#[100, 114, 97, 119]⟩ := hWD.out.symm
           obtain rfl : NN = 1 := hNN.out.symm
           have hfin := hide (show strB (deedT ⟨2, a, b⟩) = ⟨#[100, 114, 97, 119]⟩ ++ (⟨#[32]⟩ ++ SA) by
             rw [he.out, ← hSA.out]
             show strB (wDraw ++ 32 :: stepT a) = strB wDraw ++ (strB [32] ++ strB (stepT a))
             rw [← strB_append, ← strB_append]
             exact congrArg strB (by simp))
           have q0 : ¬ 9223372036854775807 < 1 + SA.size := by omega
           have q1 : ¬ 9223372036854775807 < 4 + (1 + SA.size) := by omega
           clear he hSA hSB hdb hWD hNN hk5' ht2 hb2
           go_wp2_with fail
           go_loopw [5, 7, 38] (fun txt num i wr => ∃ j : Nat, i = .int .i64 j ∧ ((j = 0 ∧ txt = .string (⟨#[100, 114, 97, 119]⟩)) ∨ (j = 1 ∧ txt = .string (⟨#[100, 114, 97, 119]⟩ ++ (⟨#[32]⟩ ++ SA)))) ∧ wr.cell? ⟨wc.heap.size, 0, none⟩ = some (.int .i64 a) ∧ wr.cell? ⟨wc.heap.size, 1, none⟩ = some (.int .i64 b) ∧ wc.heap.size < wr.heap.size ∧ Hid (Below w.heap.size w wr)) (fun _ _ i _ => 3 - (intOf i).toNat)
           case atStart => exact ⟨0, rfl, .inl ⟨rfl, rfl⟩, by rw [World.cell?_alloc_at _ _ _ _ rfl]; rfl, by rw [World.cell?_alloc_at _ _ _ _ rfl]; rfl, by simp, hb3⟩
           case round =>
             clear hb3
             obtain ⟨j, rfl, hj, d0, d1, hl, hb⟩ := hrel
             rcases hj with ⟨rfl, rfl⟩ | ⟨rfl, rfl⟩
             · have HT := hide (hTa.out wr hb.out)
               go_wp2_with (go_at_call 68; refine HT.out.mono ?_; rintro e w4 ⟨rfl, hq4⟩; have e0 := hide (cell_up d0 hq4); have e1 := hide (cell_up d1 hq4); have e2 := hide (Nat.lt_of_lt_of_le hl hq4.size); have e3 := hide (upB hb.out hq4))
               go_roundw
               case rel => exact ⟨1, rfl, .inr ⟨rfl, rfl⟩, e0.out, e1.out, e2.out, e3⟩
               case measure => simp [intOf]
             · go_wp2_with fail
               go_ret
               exact ⟨by rw [hfin.out]; rfl, hb.out⟩
         · subst h
           obtain rfl : WD = ⟨#[97, 103, 97, 105, 110]⟩ := hWD.out.symm
           obtain rfl : NN = 0 := hNN.out.symm
           have hfin := hide (show strB (deedT ⟨3, a, b⟩) = ⟨#[97, 103, 97, 105, 110]⟩ by
             rw [he.out]
             rfl)
           clear he hSA hSB hdb hWD hNN hk5' ht2 hb2
           go_wp2_with fail
           go_loopw [5, 7, 38] (fun txt num i wr => ∃ j : Nat, i = .int .i64 j ∧ ((j = 0 ∧ txt = .string (⟨#[97, 103, 97, 105, 110]⟩))) ∧ wr.cell? ⟨wc.heap.size, 0, none⟩ = some (.int .i64 a) ∧ wr.cell? ⟨wc.heap.size, 1, none⟩ = some (.int .i64 b) ∧ wc.heap.size < wr.heap.size ∧ Hid (Below w.heap.size w wr)) (fun _ _ i _ => 3 - (intOf i).toNat)
           case atStart => exact ⟨0, rfl, ⟨rfl, rfl⟩, by rw [World.cell?_alloc_at _ _ _ _ rfl]; rfl, by rw [World.cell?_alloc_at _ _ _ _ rfl]; rfl, by simp, hb3⟩
           case round =>
             clear hb3
             obtain ⟨j, rfl, hj, d0, d1, hl, hb⟩ := hrel
             obtain ⟨rfl, rfl⟩ := hj
             go_wp2_with fail
             go_ret
             exact ⟨by rw [hfin.out]; rfl, hb.out⟩
         · subst h
           obtain rfl : WD = ⟨#[98, 97, 99, 107]⟩ := hWD.out.symm
           obtain rfl : NN = 0 := hNN.out.symm
           have hfin := hide (show strB (deedT ⟨4, a, b⟩) = ⟨#[98, 97, 99, 107]⟩ by
             rw [he.out]
             rfl)
           clear he hSA hSB hdb hWD hNN hk5' ht2 hb2
           go_wp2_with fail
           go_loopw [5, 7, 38] (fun txt num i wr => ∃ j : Nat, i = .int .i64 j ∧ ((j = 0 ∧ txt = .string (⟨#[98, 97, 99, 107]⟩))) ∧ wr.cell? ⟨wc.heap.size, 0, none⟩ = some (.int .i64 a) ∧ wr.cell? ⟨wc.heap.size, 1, none⟩ = some (.int .i64 b) ∧ wc.heap.size < wr.heap.size ∧ Hid (Below w.heap.size w wr)) (fun _ _ i _ => 3 - (intOf i).toNat)
           case atStart => exact ⟨0, rfl, ⟨rfl, rfl⟩, by rw [World.cell?_alloc_at _ _ _ _ rfl]; rfl, by rw [World.cell?_alloc_at _ _ _ _ rfl]; rfl, by simp, hb3⟩
           case round =>
             clear hb3
             obtain ⟨j, rfl, hj, d0, d1, hl, hb⟩ := hrel
             obtain ⟨rfl, rfl⟩ := hj
             go_wp2_with fail
             go_ret
             exact ⟨by rw [hfin.out]; rfl, hb.out⟩
      · rw [decide_eq_false hb] at HB
        have he := hide (show deedT ⟨k, a, b⟩ = [] from deedT_no (by unfold deedB numB; rw [decide_eq_false (fun h => hb h.2)]; rfl))
        clear hkb ha hb
        go_enter Tryz.func52, Tryz.ntmps52
        go_wp2_with fail
        refine HF.out.mono ?_
        rintro e w2 ⟨rfl, hq2⟩
        obtain ⟨c0, c1, c2, hlt⟩ := ht.out.up hq2
        have hb2 := hide (upB hq0.out hq2)
        clear hq2
        go_wp2_with (go_at_call 85; first | (refine (HA.out _).mono ?_; rintro e w' ⟨rfl, rfl⟩) | (refine (HB.out _).mono ?_; rintro e w' ⟨rfl, rfl⟩))
        go_ret
        exact ⟨by rw [he.out]; rfl, hb2.out.alloc hb2.out.size _⟩
    · rw [decide_eq_false ha] at HA
      have he := hide (show deedT ⟨k, a, b⟩ = [] from deedT_no (by unfold deedB numB; rw [decide_eq_false (fun h => ha h.1)]; rfl))
      clear hkb ha
      go_enter Tryz.func52, Tryz.ntmps52
      go_wp2_with fail
      refine HF.out.mono ?_
      rintro e w2 ⟨rfl, hq2⟩
      obtain ⟨c0, c1, c2, hlt⟩ := ht.out.up hq2
      have hb2 := hide (upB hq0.out hq2)
      clear hq2
      go_wp2_with (go_at_call 85; first | (refine (HA.out _).mono ?_; rintro e w' ⟨rfl, rfl⟩) | (refine (HB.out _).mono ?_; rintro e w' ⟨rfl, rfl⟩))
      go_ret
      exact ⟨by rw [he.out]; rfl, hb2.out.alloc hb2.out.size _⟩
end Go.Proofs.YtpkbmmepapgogabGreatDoor

namespace Go.Proofs.YtpkbmmepapgogabGreatDoor
open Go.RowKit
set_option linter.unusedVariables false

/-- What a text is taken apart into. -/
def partsD (s : Bs) : Ded := ⟨kindL (Lib.cut s [32]).1, numL (Lib.cut (Lib.cut s [32]).2.1 [32]).1, numL (Lib.cut (Lib.cut s [32]).2.1 [32]).2.1⟩
theorem numL_nil : numL [] = 0 := by decide
theorem parts_deed {d : Ded} (h : deedB d = true) : partsD (deedT d) = d := by
  have hf := deedW_free h
  rw [deedT_ok h]
  obtain ⟨ha, hb, hk⟩ := deedB_yes h
  have na := (itoa_at ha.1 ha.2).2
  have nb := (itoa_at hb.1 hb.2).2
  obtain ⟨k, a, b⟩ := d
  simp only at ha hb hk na nb
  rcases hk with rfl | ⟨rfl, rfl⟩ | ⟨rfl, rfl⟩ | ⟨rfl, rfl, rfl⟩ | ⟨rfl, rfl, rfl⟩
  · have f0 := hf wPut (by simp [deedW])
    have f1 := hf (stepT a) (by simp [deedW])
    show partsD (wPut ++ 32 :: (stepT a ++ 32 :: stepT b)) = _
    unfold partsD
    rw [cut_at _ f0]
    show (⟨kindL wPut, numL (Lib.cut (stepT a ++ 32 :: stepT b) [32]).1, numL (Lib.cut (stepT a ++ 32 :: stepT b) [32]).2.1⟩ : Ded) = _
    rw [cut_at _ f1]
    show (⟨kindL wPut, numL (stepT a), numL (stepT b)⟩ : Ded) = _
    rw [na, nb]; rfl
  · have f0 := hf wStep (by simp [deedW])
    have f1 := hf (stepT a) (by simp [deedW])
    show partsD (wStep ++ 32 :: stepT a) = _
    unfold partsD
    rw [cut_at _ f0]
    show (⟨kindL wStep, numL (Lib.cut (stepT a) [32]).1, numL (Lib.cut (stepT a) [32]).2.1⟩ : Ded) = _
    rw [cut_free' f1]
    show (⟨kindL wStep, numL (stepT a), numL []⟩ : Ded) = _
    rw [na, numL_nil]; rfl
  · have f0 := hf wDraw (by simp [deedW])
    have f1 := hf (stepT a) (by simp [deedW])
    show partsD (wDraw ++ 32 :: stepT a) = _
    unfold partsD
    rw [cut_at _ f0]
    show (⟨kindL wDraw, numL (Lib.cut (stepT a) [32]).1, numL (Lib.cut (stepT a) [32]).2.1⟩ : Ded) = _
    rw [cut_free' f1]
    show (⟨kindL wDraw, numL (stepT a), numL []⟩ : Ded) = _
    rw [na, numL_nil]; rfl
  · show partsD (joinT 32 (deedW ⟨3, 0, 0⟩)) = ⟨3, 0, 0⟩
    clear ha hb h hf na nb
    rfl
  · show partsD (joinT 32 (deedW ⟨4, 0, 0⟩)) = ⟨4, 0, 0⟩
    clear ha hb h hf na nb
    rfl
theorem parts_read {s : Bs} {d : Ded} (h : readD s = some d) : partsD s = d := by
  obtain ⟨h1, h2⟩ := readD_iff.1 h
  rw [← h1]
  exact parts_deed (deedT_ne.1 (h1 ▸ h2))
theorem parts_yes {s : Bs} (h0 : s ≠ []) (h : deedT (partsD s) = s) : readD s = some (partsD s) := readD_iff.2 ⟨h, h0⟩
theorem parts_no {s : Bs} (h : deedT (partsD s) ≠ s) : readD s = none := by
  cases hr : readD s with
  | none => rfl
  | some d =>
    have := parts_read hr
    rw [this] at h
    exact absurd (readD_iff.1 hr).1 h
end Go.Proofs.YtpkbmmepapgogabGreatDoor

namespace Go.Proofs.YtpkbmmepapgogabGreatDoor
open Go.RowKit
set_option linter.unusedVariables false

set_option maxRecDepth 100000 in
set_option maxHeartbeats 1600000 in
theorem readDeed_impl (s : ByteArray) (w : World) (hL : LaidN w) (hD : LaidD w) (hs : s.size < 4294967281) :
    Calls Tryz.prog 50 #[.string s] w fun e w' => e = .returned (.tuple #[.agg #[.int .i64 (readDQ (bts s)).k, .int .i64 (readDQ (bts s)).a, .int .i64 (readDQ (bts s)).b], .bool (readDB (bts s))]) ∧ Below w.heap.size w w' := by
  obtain ⟨d, hd⟩ : ∃ d, Hid (partsD (bts s) = d) := ⟨_, hide rfl⟩
  have hz := hide (TriW.made w (.int .i64 0) (.int .i64 0) (.int .i64 0) 51)
  have hq0 := hide (al w (.cells #[.int .i64 0, .int .i64 0, .int .i64 0] 51))
  have HC1 := hide (fun (W : World) (hq : Below w.heap.size w W) => cutI_c s W (hL.up hq) hs)
  have hl1 := cut_len (bts s) 32
  have hl2 := cut_len (Lib.cut (bts s) [32]).2.1 32
  rw [bts_len] at hl1
  have hkd := hide (show (partsD (bts s)).k = kindL (Lib.cut (bts s) [32]).1 from rfl)
  have had := hide (show (partsD (bts s)).a = numL (Lib.cut (Lib.cut (bts s) [32]).2.1 [32]).1 from rfl)
  have hbd := hide (show (partsD (bts s)).b = numL (Lib.cut (Lib.cut (bts s) [32]).2.1 [32]).2.1 from rfl)
  rw [hd.out] at hkd had hbd
  obtain ⟨X1, hX1⟩ : ∃ X, Hid ((Lib.cut (bts s) [32]).1 = X) := ⟨_, hide rfl⟩
  obtain ⟨X2, hX2⟩ : ∃ X, Hid ((Lib.cut (bts s) [32]).2.1 = X) := ⟨_, hide rfl⟩
  obtain ⟨X3, hX3⟩ : ∃ X, Hid ((Lib.cut (bts s) [32]).2.2 = X) := ⟨_, hide rfl⟩
  rw [hX1.out, hX2.out, hX3.out] at HC1
  rw [hX1.out] at hkd hl1
  rw [hX2.out] at had hbd hl1 hl2
  have HC2 := hide (fun (W : World) (hq : Below w.heap.size w W) => cutI_c (strB X2) W (hL.up hq) (by rw [strB_size]; omega))
  rw [bts_strB] at HC2
  obtain ⟨Y1, hY1⟩ : ∃ X, Hid ((Lib.cut X2 [32]).1 = X) := ⟨_, hide rfl⟩
  obtain ⟨Y2, hY2⟩ : ∃ X, Hid ((Lib.cut X2 [32]).2.1 = X) := ⟨_, hide rfl⟩
  obtain ⟨Y3, hY3⟩ : ∃ X, Hid ((Lib.cut X2 [32]).2.2 = X) := ⟨_, hide rfl⟩
  rw [hY1.out, hY2.out, hY3.out] at HC2
  rw [hY1.out] at had hl2
  rw [hY2.out] at hbd hl2
  have HK := hide (fun (W : World) (hq : Below w.heap.size w W) => show Calls Tryz.prog 81 #[.string (strB X1)] W (fun e w' => e = .returned (.int .i64 d.k) ∧ Below W.heap.size W w') from by
    rw [hkd.out, ← bts_strB X1, bts_strB X1]
    exact (kindOf_c (strB X1) W (hD.up hq)).mono fun e w' ⟨he, hb⟩ => ⟨by rw [he, bts_strB], hb⟩)
  have HNa := hide (fun (W : World) (hq : Below w.heap.size w W) => show Calls Tryz.prog 54 #[.string (strB Y1)] W (fun e w' => e = .returned (.int .i64 d.a) ∧ Below W.heap.size W w') from
    (numberOf_c (strB Y1) W (hL.up hq) (by rw [strB_size]; omega)).mono fun e w' ⟨he, hb⟩ => ⟨by rw [he, bts_strB, had.out], hb⟩)
  have HNb := hide (fun (W : World) (hq : Below w.heap.size w W) => show Calls Tryz.prog 54 #[.string (strB Y2)] W (fun e w' => e = .returned (.int .i64 d.b) ∧ Below W.heap.size W w') from
    (numberOf_c (strB Y2) W (hL.up hq) (by rw [strB_size]; omega)).mono fun e w' ⟨he, hb⟩ => ⟨by rw [he, bts_strB, hbd.out], hb⟩)
  have HT := hide (fun (W : World) (hq : Below w.heap.size w W) => deedText_impl d W (hL.up hq).t (hD.up hq))
  obtain ⟨S1, hS1⟩ : ∃ S, Hid (strB X1 = S) := ⟨_, hide rfl⟩
  obtain ⟨S2, hS2⟩ : ∃ S, Hid (strB X2 = S) := ⟨_, hide rfl⟩
  obtain ⟨R1, hR1⟩ : ∃ S, Hid (strB Y1 = S) := ⟨_, hide rfl⟩
  obtain ⟨R2, hR2⟩ : ∃ S, Hid (strB Y2 = S) := ⟨_, hide rfl⟩
  obtain ⟨ST, hST⟩ : ∃ S, Hid (strB (deedT d) = S) := ⟨_, hide rfl⟩
  rw [hS1.out, hS2.out] at HC1
  rw [hS2.out, hR1.out, hR2.out] at HC2
  rw [hS1.out] at HK
  rw [hR1.out] at HNa
  rw [hR2.out] at HNb
  rw [hST.out] at HT
  clear hl1 hl2 hkd had hbd hX1 hX2 hX3 hY1 hY2 hY3 hS1 hS2 hR1 hR2
  go_enter Tryz.func50, Tryz.ntmps50
  go_wp2_with fail
  refine (HC1.out _ hq0.out).mono ?_
  rintro e w2 ⟨rfl, hq2⟩
  have hz2 := hide (hz.out.up hq2)
  have hb2 := hide (upB hq0.out hq2)
  clear hq2 HC1
  go_wp2_with fail
  refine (HC2.out _ hb2.out).mono ?_
  rintro e w3 ⟨rfl, hq3⟩
  have hz3 := hide (hz2.out.up hq3)
  have hb3 := hide (upB hb2.out hq3)
  clear hq3 HC2 hb2 hz2
  go_wp2_with fail
  refine (HK.out _ hb3.out).mono ?_
  rintro e w4 ⟨rfl, hq4⟩
  have hz4 := hide (hz3.out.up hq4)
  have hb4 := hide (upB hb3.out hq4)
  clear hq4 HK hb3 hz3
  go_wp2_with fail
  refine (HNa.out _ hb4.out).mono ?_
  rintro e w5 ⟨rfl, hq5⟩
  have hz5 := hide (hz4.out.up hq5)
  have hb5 := hide (upB hb4.out hq5)
  clear hq5 HNa hb4 hz4
  go_wp2_with fail
  refine (HNb.out _ hb5.out).mono ?_
  rintro e w6 ⟨rfl, hq6⟩
  have hz6 := hide (hz5.out.up hq6)
  have hb6 := hide (upB hb5.out hq6)
  clear hq6 HNb hb5 hz5
  by_cases h0 : bts s = []
  · have hsz0 : (s.toList == []) = true := by
      rw [ByteArray.toList_eq]
      show (bts s == []) = true
      rw [h0]; rfl
    have hr := hide (show readD (bts s) = none by
      rw [h0]
      cases hr : readD [] with
      | none => rfl
      | some e => exact absurd rfl (readD_iff.1 hr).2)
    obtain ⟨x0, x1, x2, y0, y1, y2, _⟩ := hz6.out
    obtain ⟨k0, k1, k2, _⟩ := (((hz6.out.set0 (.int .i64 0)).set1 (.int .i64 0)).set2 (.int .i64 0)).alloc (.cells #[.int .i64 d.k, .int .i64 d.a, .int .i64 d.b] 51)
    have hb7 := hide ((((hb6.out.setCell (p := ⟨w.heap.size, 0, none⟩) (Nat.le_refl _) (.int .i64 0)).setCell (p := ⟨w.heap.size, 1, none⟩) (Nat.le_refl _) (.int .i64 0)).setCell (p := ⟨w.heap.size, 2, none⟩) (Nat.le_refl _) (.int .i64 0)).alloc (by have := hb6.out.size; simpa using this) (.cells #[.int .i64 d.k, .int .i64 d.a, .int .i64 d.b] 51))
    clear h0
    go_wp2_with fail
    exact bodyPost_ret (v := .tuple #[.agg #[.int .i64 0, .int .i64 0, .int .i64 0], .bool false]) (by simp [results, Tryz.results50, go_sem, k0, k1, k2]) rfl ⟨by unfold readDQ readDB; rw [hr.out]; rfl, hb7.out⟩
  · have hsz0 : (s.toList == []) = false := by
      rw [ByteArray.toList_eq]
      exact beq_eq_false_iff_ne.2 h0
    have HT6 := hide (HT.out (w6.alloc (.cells #[.int .i64 d.k, .int .i64 d.a, .int .i64 d.b] 51)) (hb6.out.alloc hb6.out.size _))
    by_cases heq : deedT d = bts s
    · have hst : (ST.toList == s.toList) = true := by
        rw [← hST.out, heq, strB_bts]; simp
      have hr := hide (show readD (bts s) = some d by
        have := parts_yes h0 (by rw [hd.out]; exact heq)
        rwa [hd.out] at this)
      clear heq h0 HT
      go_wp2_with (go_at_call 52; refine HT6.out.mono ?_; rintro e w7 ⟨rfl, hq7⟩; have hz7 := hide ((hz6.out.alloc (.cells #[.int .i64 d.k, .int .i64 d.a, .int .i64 d.b] 51)).up hq7); have ht7 := hide ((TriW.made w6 (.int .i64 d.k) (.int .i64 d.a) (.int .i64 d.b) 51).up hq7); have hb7 := hide (upB (hb6.out.alloc hb6.out.size _) hq7); obtain ⟨x0, x1, x2, y0, y1, y2, _⟩ := hz7.out; obtain ⟨a0, a1, a2, _⟩ := ht7.out)
      obtain ⟨k0, k1, k2, _⟩ := (((hz7.out.set0 (.int .i64 d.k)).set1 (.int .i64 d.a)).set2 (.int .i64 d.b))
      exact bodyPost_ret (v := .tuple #[.agg #[.int .i64 d.k, .int .i64 d.a, .int .i64 d.b], .bool true]) (by simp [results, Tryz.results50, go_sem, k0, k1, k2]) rfl ⟨by unfold readDQ readDB; rw [hr.out]; rfl, ((hb7.out.setCell (p := ⟨w.heap.size, 0, none⟩) (Nat.le_refl _) (.int .i64 d.k)).setCell (p := ⟨w.heap.size, 1, none⟩) (Nat.le_refl _) (.int .i64 d.a)).setCell (p := ⟨w.heap.size, 2, none⟩) (Nat.le_refl _) (.int .i64 d.b)⟩
    · have hst : (ST.toList == s.toList) = false := by
        rw [← hST.out, ByteArray.toList_eq, ByteArray.toList_eq]
        refine beq_eq_false_iff_ne.2 (fun e => heq ?_)
        have e2 : bts (strB (deedT d)) = bts s := e
        rwa [bts_strB] at e2
      have hr := hide (show readD (bts s) = none from parts_no (by rw [hd.out]; exact heq))
      clear heq h0 HT
      go_wp2_with (go_at_call 52; refine HT6.out.mono ?_; rintro e w7 ⟨rfl, hq7⟩; have hz7 := hide ((hz6.out.alloc (.cells #[.int .i64 d.k, .int .i64 d.a, .int .i64 d.b] 51)).up hq7); have hb7 := hide (upB (hb6.out.alloc hb6.out.size _) hq7); obtain ⟨x0, x1, x2, y0, y1, y2, _⟩ := hz7.out)
      obtain ⟨k0, k1, k2, _⟩ := (((hz7.out.set0 (.int .i64 0)).set1 (.int .i64 0)).set2 (.int .i64 0))
      exact bodyPost_ret (v := .tuple #[.agg #[.int .i64 0, .int .i64 0, .int .i64 0], .bool false]) (by simp [results, Tryz.results50, go_sem, k0, k1, k2]) rfl ⟨by unfold readDQ readDB; rw [hr.out]; rfl, ((hb7.out.setCell (p := ⟨w.heap.size, 0, none⟩) (Nat.le_refl _) (.int .i64 0)).setCell (p := ⟨w.heap.size, 1, none⟩) (Nat.le_refl _) (.int .i64 0)).setCell (p := ⟨w.heap.size, 2, none⟩) (Nat.le_refl _) (.int .i64 0)⟩
end Go.Proofs.YtpkbmmepapgogabGreatDoor
