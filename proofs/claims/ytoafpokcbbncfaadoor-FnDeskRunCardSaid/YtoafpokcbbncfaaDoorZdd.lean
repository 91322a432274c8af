/-
  Contracts of chapter 14, the program: deeds and their texts (written by wip/gen_e2.py).
-/
import Derived.Test.YtoafpokcbbncfaaDoorZla
import Derived.Test.YtoafpokcbbncfaaDoorZpb
namespace Go.Proofs.YtoafpokcbbncfaaDoor
open Go.RowKit
set_option linter.unusedVariables false

/-- What deedForms holds. -/
structure LaidD (w : World) : Prop where
  w0 : w.cell? ⟨0, 0, none⟩ = some (.string ⟨#[112, 117, 116]⟩)
  n0 : w.cell? ⟨0, 1, none⟩ = some (.int .i64 2)
  w1 : w.cell? ⟨0, 2, none⟩ = some (.string ⟨#[115, 116, 101, 112]⟩)
  n1 : w.cell? ⟨0, 3, none⟩ = some (.int .i64 1)
  w2 : w.cell? ⟨0, 4, none⟩ = some (.string ⟨#[100, 114, 97, 119]⟩)
  n2 : w.cell? ⟨0, 5, none⟩ = some (.int .i64 1)
  w3 : w.cell? ⟨0, 6, none⟩ = some (.string ⟨#[97, 103, 97, 105, 110]⟩)
  n3 : w.cell? ⟨0, 7, none⟩ = some (.int .i64 0)
  w4 : w.cell? ⟨0, 8, none⟩ = some (.string ⟨#[98, 97, 99, 107]⟩)
  n4 : w.cell? ⟨0, 9, none⟩ = some (.int .i64 0)
theorem LaidD.up {w w' : World} (h : LaidD w) (hq : Below w.heap.size w w') : LaidD w' :=
  ⟨cell_up h.w0 hq, cell_up h.n0 hq, cell_up h.w1 hq, cell_up h.n1 hq, cell_up h.w2 hq, cell_up h.n2 hq, cell_up h.w3 hq, cell_up h.n3 hq, cell_up h.w4 hq, cell_up h.n4 hq⟩

def formW (k : Int) : Bs := if k = 0 then wPut else if k = 1 then wStep else if k = 2 then wDraw else if k = 3 then wAgain else if k = 4 then wBack else []
def formN (k : Int) : Int := if k = 0 then 2 else if k = 1 then 1 else if k = 2 then 1 else 0
set_option maxRecDepth 100000 in
set_option maxHeartbeats 1600000 in
theorem formOf_c (d : Ded) (w : World) (hD : LaidD w) :
    Calls Tryd.prog 86 #[.agg #[.int .i64 d.k, .int .i64 d.a, .int .i64 d.b]] w fun e w' => e = .returned (.tuple #[.agg #[.string (strB (formW d.k)), .int .i64 (formN d.k)], .bool (kindB d)]) ∧ Below w.heap.size w w' := by
  obtain ⟨k, a, b⟩ := d
  show Calls Tryd.prog 86 #[.agg #[.int .i64 k, .int .i64 a, .int .i64 b]] w _
  have ht := hide (TriW.made w (.int .i64 k) (.int .i64 a) (.int .i64 b) 38)
  have hq0 := hide (al w (.cells #[.int .i64 k, .int .i64 a, .int .i64 b] 38))
  have hq1 := hide (show Below w.heap.size w ((w.alloc (.cells #[.int .i64 k, .int .i64 a, .int .i64 b] 38)).alloc (.cells #[.string ⟨#[]⟩, .int .i64 0] 116)) from (al w _).alloc (by simp) _)
  have hD1 := hide (hD.up hq1.out)
  obtain ⟨w0, n0, w1, n1, w2, n2, w3, n3, w4, n4⟩ := hD1.out
  by_cases hk : 0 ≤ k ∧ k < 5
  · rcases (show k = 0 ∨ k = 1 ∨ k = 2 ∨ k = 3 ∨ k = 4 by omega) with h | h | h | h | h
    · subst h
      clear hk
      go_enter Tryd.func86, Tryd.ntmps86
      have he := hide (show kindB ⟨0, a, b⟩ = true by unfold kindB; simp <;> omega)
      go_wp2_with fail
      go_region
      all_goals
        go_wp2_with fail
        exact bodyPost_ret (v := .tuple #[.agg #[.string ⟨#[112, 117, 116]⟩, .int .i64 2], .bool true]) (by simp [results, Tryd.results86, go_sem]) rfl ⟨congrArg (fun x => Ending.returned (.tuple #[.agg #[.string ⟨#[112, 117, 116]⟩, .int .i64 2], .bool x])) he.out.symm, by first | exact (((al w _).alloc (by simp) _).alloc (by simp; omega) _).drew | exact (((al w _).alloc (by simp) _).alloc (by simp; omega) _)⟩
    · subst h
      clear hk
      go_enter Tryd.func86, Tryd.ntmps86
      by_cases hb : b = 0
      · subst hb
        have he := hide (show kindB ⟨1, a, 0⟩ = true by unfold kindB; simp <;> omega)
        go_wp2_with fail
        go_region
        all_goals
          go_wp2_with fail
          exact bodyPost_ret (v := .tuple #[.agg #[.string ⟨#[115, 116, 101, 112]⟩, .int .i64 1], .bool true]) (by simp [results, Tryd.results86, go_sem]) rfl ⟨congrArg (fun x => Ending.returned (.tuple #[.agg #[.string ⟨#[115, 116, 101, 112]⟩, .int .i64 1], .bool x])) he.out.symm, by first | exact (((al w _).alloc (by simp) _).alloc (by simp; omega) _).drew | exact (((al w _).alloc (by simp) _).alloc (by simp; omega) _)⟩
      · have hd : (b == 0) = false := by simpa using hb
        have he := hide (show kindB ⟨1, a, b⟩ = false by unfold kindB; simp <;> omega)
        go_wp2_with fail
        go_region
        all_goals
          go_wp2_with fail
          exact bodyPost_ret (v := .tuple #[.agg #[.string ⟨#[115, 116, 101, 112]⟩, .int .i64 1], .bool false]) (by simp [results, Tryd.results86, go_sem]) rfl ⟨congrArg (fun x => Ending.returned (.tuple #[.agg #[.string ⟨#[115, 116, 101, 112]⟩, .int .i64 1], .bool x])) he.out.symm, by first | exact (((al w _).alloc (by simp) _).alloc (by simp; omega) _).drew | exact (((al w _).alloc (by simp) _).alloc (by simp; omega) _)⟩
    · subst h
      clear hk
      go_enter Tryd.func86, Tryd.ntmps86
      by_cases hb : b = 0
      · subst hb
        have he := hide (show kindB ⟨2, a, 0⟩ = true by unfold kindB; simp <;> omega)
        go_wp2_with fail
        go_region
        all_goals
          go_wp2_with fail
          exact bodyPost_ret (v := .tuple #[.agg #[.string ⟨#[100, 114, 97, 119]⟩, .int .i64 1], .bool true]) (by simp [results, Tryd.results86, go_sem]) rfl ⟨congrArg (fun x => Ending.returned (.tuple #[.agg #[.string ⟨#[100, 114, 97, 119]⟩, .int .i64 1], .bool x])) he.out.symm, by first | exact (((al w _).alloc (by simp) _).alloc (by simp; omega) _).drew | exact (((al w _).alloc (by simp) _).alloc (by simp; omega) _)⟩
      · have hd : (b == 0) = false := by simpa using hb
        have he := hide (show kindB ⟨2, a, b⟩ = false by unfold kindB; simp <;> omega)
        go_wp2_with fail
        go_region
        all_goals
          go_wp2_with fail
          exact bodyPost_ret (v := .tuple #[.agg #[.string ⟨#[100, 114, 97, 119]⟩, .int .i64 1], .bool false]) (by simp [results, Tryd.results86, go_sem]) rfl ⟨congrArg (fun x => Ending.returned (.tuple #[.agg #[.string ⟨#[100, 114, 97, 119]⟩, .int .i64 1], .bool x])) he.out.symm, by first | exact (((al w _).alloc (by simp) _).alloc (by simp; omega) _).drew | exact (((al w _).alloc (by simp) _).alloc (by simp; omega) _)⟩
    · subst h
      clear hk
      go_enter Tryd.func86, Tryd.ntmps86
      by_cases ha : a = 0
      · subst ha
        by_cases hb : b = 0
        · subst hb
          have he := hide (show kindB ⟨3, 0, 0⟩ = true by unfold kindB; simp <;> omega)
          go_wp2_with fail
          go_region
          all_goals
            go_wp2_with fail
            exact bodyPost_ret (v := .tuple #[.agg #[.string ⟨#[97, 103, 97, 105, 110]⟩, .int .i64 0], .bool true]) (by simp [results, Tryd.results86, go_sem]) rfl ⟨congrArg (fun x => Ending.returned (.tuple #[.agg #[.string ⟨#[97, 103, 97, 105, 110]⟩, .int .i64 0], .bool x])) he.out.symm, by first | exact (((al w _).alloc (by simp) _).alloc (by simp; omega) _).drew | exact (((al w _).alloc (by simp) _).alloc (by simp; omega) _)⟩
        · have hd : (b == 0) = false := by simpa using hb
          have he := hide (show kindB ⟨3, 0, b⟩ = false by unfold kindB; simp <;> omega)
          go_wp2_with fail
          go_region
          all_goals
            go_wp2_with fail
            exact bodyPost_ret (v := .tuple #[.agg #[.string ⟨#[97, 103, 97, 105, 110]⟩, .int .i64 0], .bool false]) (by simp [results, Tryd.results86, go_sem]) rfl ⟨congrArg (fun x => Ending.returned (.tuple #[.agg #[.string ⟨#[97, 103, 97, 105, 110]⟩, .int .i64 0], .bool x])) he.out.symm, by first | exact (((al w _).alloc (by simp) _).alloc (by simp; omega) _).drew | exact (((al w _).alloc (by simp) _).alloc (by simp; omega) _)⟩
      · have hd : (a == 0) = false := by simpa using ha
        have he := hide (show kindB ⟨3, a, b⟩ = false by unfold kindB; simp <;> omega)
        go_wp2_with fail
        go_region
        all_goals
          go_wp2_with fail
          exact bodyPost_ret (v := .tuple #[.agg #[.string ⟨#[97, 103, 97, 105, 110]⟩, .int .i64 0], .bool false]) (by simp [results, Tryd.results86, go_sem]) rfl ⟨congrArg (fun x => Ending.returned (.tuple #[.agg #[.string ⟨#[97, 103, 97, 105, 110]⟩, .int .i64 0], .bool x])) he.out.symm, by first | exact (((al w _).alloc (by simp) _).alloc (by simp; omega) _).drew | exact (((al w _).alloc (by simp) _).alloc (by simp; omega) _)⟩
    · subst h
      clear hk
      go_enter Tryd.func86, Tryd.ntmps86
      by_cases ha : a = 0
      · subst ha
        by_cases hb : b = 0
        · subst hb
          have he := hide (show kindB ⟨4, 0, 0⟩ = true by unfold kindB; simp <;> omega)
          go_wp2_with fail
          go_region
          all_goals
            go_wp2_with fail
            exact bodyPost_ret (v := .tuple #[.agg #[.string ⟨#[98, 97, 99, 107]⟩, .int .i64 0], .bool true]) (by simp [results, Tryd.results86, go_sem]) rfl ⟨congrArg (fun x => Ending.returned (.tuple #[.agg #[.string ⟨#[98, 97, 99, 107]⟩, .int .i64 0], .bool x])) he.out.symm, by first | exact (((al w _).alloc (by simp) _).alloc (by simp; omega) _).drew | exact (((al w _).alloc (by simp) _).alloc (by simp; omega) _)⟩
        · have hd : (b == 0) = false := by simpa using hb
          have he := hide (show kindB ⟨4, 0, b⟩ = false by unfold kindB; simp <;> omega)
          go_wp2_with fail
          go_region
          all_goals
            go_wp2_with fail
            exact bodyPost_ret (v := .tuple #[.agg #[.string ⟨#[98, 97, 99, 107]⟩, .int .i64 0], .bool false]) (by simp [results, Tryd.results86, go_sem]) rfl ⟨congrArg (fun x => Ending.returned (.tuple #[.agg #[.string ⟨#[98, 97, 99, 107]⟩, .int .i64 0], .bool x])) he.out.symm, by first | exact (((al w _).alloc (by simp) _).alloc (by simp; omega) _).drew | exact (((al w _).alloc (by simp) _).alloc (by simp; omega) _)⟩
      · have hd : (a == 0) = false := by simpa using ha
        have he := hide (show kindB ⟨4, a, b⟩ = false by unfold kindB; simp <;> omega)
        go_wp2_with fail
        go_region
        all_goals
          go_wp2_with fail
          exact bodyPost_ret (v := .tuple #[.agg #[.string ⟨#[98, 97, 99, 107]⟩, .int .i64 0], .bool false]) (by simp [results, Tryd.results86, go_sem]) rfl ⟨congrArg (fun x => Ending.returned (.tuple #[.agg #[.string ⟨#[98, 97, 99, 107]⟩, .int .i64 0], .bool x])) he.out.symm, by first | exact (((al w _).alloc (by simp) _).alloc (by simp; omega) _).drew | exact (((al w _).alloc (by simp) _).alloc (by simp; omega) _)⟩
  · have he := hide (show kindB ⟨k, a, b⟩ = false by unfold kindB; simp; omega)
    have hw := hide (show formW k = [] by unfold formW; rw [if_neg (by omega), if_neg (by omega), if_neg (by omega), if_neg (by omega), if_neg (by omega)])
    have hn := hide (show formN k = 0 by unfold formN; rw [if_neg (by omega), if_neg (by omega), if_neg (by omega)])
    by_cases hk0 : k < 0
    · go_enter Tryd.func86, Tryd.ntmps86
      go_wp2_with fail
      exact bodyPost_ret (v := .tuple #[.agg #[.string ⟨#[]⟩, .int .i64 0], .bool false]) (by simp [results, Tryd.results86, go_sem]) rfl ⟨by rw [he.out, hw.out, hn.out]; rfl, (al w _).alloc (by simp) _⟩
    · go_enter Tryd.func86, Tryd.ntmps86
      go_wp2_with fail
      exact bodyPost_ret (v := .tuple #[.agg #[.string ⟨#[]⟩, .int .i64 0], .bool false]) (by simp [results, Tryd.results86, go_sem]) rfl ⟨by rw [he.out, hw.out, hn.out]; rfl, (al w _).alloc (by simp) _⟩
end Go.Proofs.YtoafpokcbbncfaaDoor
