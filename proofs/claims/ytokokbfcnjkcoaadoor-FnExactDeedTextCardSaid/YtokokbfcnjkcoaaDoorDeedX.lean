/-
  Contracts of the exact laws' helpers over slices of deeds: toDeedS, eqDeedS, szDeedS, markDeedS, heldDeedS (written by wip/gen_e5.py).
-/
import Derived.Test.YtokokbfcnjkcoaaDoorDeedM
import Derived.Test.YtokokbfcnjkcoaaDoorZdraw
import Derived.Test.YtokokbfcnjkcoaaDoorZrows
import Derived.Test.YtokokbfcnjkcoaaDoorTri
import Derived.StillTailTactics
import Derived.Deep.RegionHeld3
namespace Go.Proofs.YtokokbfcnjkcoaaDoor
open Go.RowKit
set_option linter.unusedVariables false

theorem infoDeed_parts : ∃ i, Tryd.prog.info? 33 = some i ∧ i.zero = some (.agg #[.int .i64 0, .int .i64 0, .int .i64 0]) ∧ i.size = 3 ∧ i.bytes = 24 := info_parts infoDeed
theorem ddC_set {ds : List Ded} {j : Nat} {x : Ded} (h : j < ds.length) : (((ddC ds).set (j * 3) (.int .i64 x.k)).set (j * 3 + 1) (.int .i64 x.a)).set (j * 3 + 2) (.int .i64 x.b) = ddC (ds.set j x) := by
  induction ds generalizing j with
  | nil => simp at h
  | cons a r ih =>
    cases j with
    | zero => simp [ddC]
    | succ j =>
      have := ih (j := j) (by simpa using h)
      simp only [ddC, List.set_cons_succ, Nat.succ_mul]
      rw [← this]
theorem OwnD.shape {w : World} {base : Nat} {v : Value} {ds : List Ded} (h : OwnD w base v ds) : (v = .slice none 0 0 ∧ ds = []) ∨ ∃ g c, v = .slice (some ⟨g, 0, none⟩) ds.length c ∧ base ≤ g ∧ g < w.heap.size := by
  rcases row_shape h.row with ⟨hv, h0⟩ | ⟨g, cap, hv, hg, hh, _⟩
  · exact .inl ⟨hv, List.eq_nil_of_length_eq_zero h0⟩
  · exact .inr ⟨g, cap, hv, hg, hh⟩
def set3 (w : World) (g j : Nat) (x : Ded) : World := ((w.setCell ⟨g, j * 3, none⟩ (.int .i64 x.k)).setCell ⟨g, j * 3 + 1, none⟩ (.int .i64 x.a)).setCell ⟨g, j * 3 + 2, none⟩ (.int .i64 x.b)
theorem OwnD.set3 {w : World} {base g n c j : Nat} {ds : List Ded} (h : OwnD w base (.slice (some ⟨g, 0, none⟩) n c) ds) (hj : j < ds.length) {x : Ded} (hx : wfD x) :
    OwnD (Go.Proofs.YtokokbfcnjkcoaaDoor.set3 w g j x) base (.slice (some ⟨g, 0, none⟩) n c) (ds.set j x) := by
  have hn := h.len
  subst hn
  refine ⟨?_, fun z hz => ?_⟩
  · have := (((((h.row.stored (j * 3) (.int .i64 x.k)).1).stored (j * 3 + 1) (.int .i64 x.a)).1).stored (j * 3 + 2) (.int .i64 x.b)).1
    rw [List.length_set, ← ddC_set hj]
    exact this
  · rcases List.mem_or_eq_of_mem_set hz with h1 | h1
    · exact h.wf z h1
    · rw [h1]; exact hx
/-- A deed that the call owns: what a store into its three fields asks. -/
theorem OwnD.at3 {w : World} {base j n c : Nat} {A : Option Addr} {x : Ded} {ds : List Ded} (h : OwnD w base (.slice A n c) ds) (hx : ds[j]? = some x) (u v : Value) : ∃ g, A = some ⟨g, 0, none⟩ ∧ base ≤ g ∧ g < w.heap.size ∧ (w.cell? ⟨g, j * 3, none⟩ = some (.int .i64 x.k) ∧ w.frozen? ⟨g, j * 3, none⟩ = false) ∧ (w.cell? ⟨g, j * 3 + 1, none⟩ = some (.int .i64 x.a) ∧ w.frozen? ⟨g, j * 3 + 1, none⟩ = false) ∧ (w.cell? ⟨g, j * 3 + 2, none⟩ = some (.int .i64 x.b) ∧ w.frozen? ⟨g, j * 3 + 2, none⟩ = false) ∧
    ((w.setCell ⟨g, j * 3, none⟩ u).cell? ⟨g, j * 3 + 1, none⟩ = some (.int .i64 x.a) ∧ (w.setCell ⟨g, j * 3, none⟩ u).frozen? ⟨g, j * 3 + 1, none⟩ = false) ∧ (((w.setCell ⟨g, j * 3, none⟩ u).setCell ⟨g, j * 3 + 1, none⟩ v).cell? ⟨g, j * 3 + 2, none⟩ = some (.int .i64 x.b) ∧ ((w.setCell ⟨g, j * 3, none⟩ u).setCell ⟨g, j * 3 + 1, none⟩ v).frozen? ⟨g, j * 3 + 2, none⟩ = false) := by
  have hj := (List.getElem?_eq_some_iff.1 hx).1
  have hn := h.len
  subst hn
  rcases h.shape with ⟨hv, rfl⟩ | ⟨g, c2, hv, hg, hgl⟩
  · simp at hx
  · injection hv with h1 h2 h3
    subst h1; subst h3
    obtain ⟨m1, m2, m3⟩ := ddC_at hx
    have hs := (h.row.stored (j * 3) u).1
    have hs2 := (hs.stored (j * 3 + 1) v).1
    refine ⟨g, rfl, hg, hgl, ⟨?_, h.row.frozenAt _⟩, ⟨?_, h.row.frozenAt _⟩, ⟨?_, h.row.frozenAt _⟩, ⟨?_, hs.frozenAt _⟩, ⟨?_, hs2.frozenAt _⟩⟩
    · rw [h.row.cellAt _ (by omega)]; exact m1
    · rw [h.row.cellAt _ (by omega)]; exact m2
    · rw [h.row.cellAt _ (by omega)]; exact m3
    · rw [hs.cellAt _ (by omega), List.getElem?_set_ne (by omega)]; exact m2
    · rw [hs2.cellAt _ (by omega), List.getElem?_set_ne (by omega), List.getElem?_set_ne (by omega)]; exact m3
def cpyD (ds : List Ded) (k : Nat) : List Ded := ds.take k ++ List.replicate (ds.length - k) noDed
theorem cpyD_len {ds : List Ded} {k : Nat} (h : k ≤ ds.length) : (cpyD ds k).length = ds.length := by simp [cpyD]; omega
theorem cpyD_zero (ds : List Ded) : cpyD ds 0 = List.replicate ds.length noDed := by simp [cpyD]
theorem cpyD_all (ds : List Ded) : cpyD ds ds.length = ds := by simp [cpyD]
theorem cpyD_at {ds : List Ded} {k : Nat} (h : k < ds.length) : (cpyD ds k)[k]? = some noDed := by
  unfold cpyD
  rw [List.getElem?_append_right (by rw [List.length_take]; omega), List.length_take, List.getElem?_replicate, if_pos (by omega)]
theorem cpyD_set {ds : List Ded} {k : Nat} {m : Ded} (h : ds[k]? = some m) : (cpyD ds k).set k m = cpyD ds (k + 1) := by
  have hk := (List.getElem?_eq_some_iff.1 h).1
  unfold cpyD
  rw [List.set_append_right _ _ (by rw [List.length_take]; omega), List.length_take, show k - min k ds.length = 0 by omega, show ds.length - k = (ds.length - (k + 1)) + 1 by omega, List.replicate_succ, List.set_cons_zero, List.take_add_one, h]
  simp
theorem ownD_made {w : World} {h m : Nat} (ho : w.ownsRow h 33 3 (.slice (some ⟨h, 0, none⟩) m m) m (madeCells (Value.agg #[.int .i64 0, .int .i64 0, .int .i64 0]).cells (m * 3)).toList) : OwnD w h (.slice (some ⟨h, 0, none⟩) m m) (List.replicate m noDed) :=
  ⟨by
    have e1 : (madeCells (Value.agg #[.int .i64 0, .int .i64 0, .int .i64 0]).cells (m * 3)).toList = ddC (List.replicate m noDed) := by
      have e2 : ddC (List.replicate m noDed) = List.replicate (m * 3) (.int .i64 0) := by
        clear ho
        induction m with
        | zero => rfl
        | succ m ih => rw [List.replicate_succ, ddC, ih, show (m + 1) * 3 = m * 3 + 1 + 1 + 1 by omega, List.replicate_succ, List.replicate_succ, List.replicate_succ]; rfl
      rw [e2]
      refine List.eq_replicate_iff.2 ⟨by simp [madeCells], fun b hb => ?_⟩
      simp only [madeCells, Array.toList_map, List.mem_map] at hb
      obtain ⟨i, _, rfl⟩ := hb
      rcases (show i % 3 = 0 ∨ i % 3 = 1 ∨ i % 3 = 2 by omega) with e | e | e <;> simp [Value.cells, e]
    rw [List.length_replicate, ← e1]; exact ho, fun z hz => by
      have := List.eq_of_mem_replicate hz
      subst this; exact ⟨by decide, by decide, by decide⟩⟩

set_option maxRecDepth 100000 in
theorem toDeed_c (k a b : Int) (w : World) :
    Calls Tryd.prog 16 #[.agg #[.int .i64 k, .int .i64 a, .int .i64 b]] w fun e w' => e = .returned (.agg #[.int .i64 k, .int .i64 a, .int .i64 b]) ∧ Below w.heap.size w w' := by
  go_enter Tryd.func16, Tryd.ntmps16
  go_wp2
  exact bodyPost_ret (v := .agg #[.int .i64 k, .int .i64 a, .int .i64 b]) (by simp [results, Tryd.results16, go_sem]) rfl ⟨rfl, ((al w _).alloc (by simp) _).alloc (by simp; omega) _⟩

def mk3 (k : Int) (i : Nat) : Ded := ⟨k + 3 * (i : Int), k + 3 * (i : Int) + 1, k + 3 * (i : Int) + 2⟩
def mrkD (ds : List Ded) (k : Int) (j : Nat) : List Ded := (List.range j).map (mk3 k) ++ ds.drop j
theorem mrkD_zero (ds : List Ded) (k : Int) : mrkD ds k 0 = ds := by simp [mrkD]
theorem mrkD_len {ds : List Ded} {k : Int} {j : Nat} (h : j ≤ ds.length) : (mrkD ds k j).length = ds.length := by simp [mrkD]; omega
theorem mrkD_at {ds : List Ded} {k : Int} {j i : Nat} (h : i < j) : (mrkD ds k j)[i]? = some (mk3 k i) := by
  unfold mrkD
  rw [List.getElem?_append_left (by simpa using h)]
  simp [h]
theorem mrkD_past {ds : List Ded} {k : Int} {j : Nat} : (mrkD ds k j)[j]? = ds[j]? := by
  unfold mrkD
  rw [List.getElem?_append_right (by simp)]
  simp
theorem mrkD_set {ds : List Ded} {k : Int} {j : Nat} (h : j < ds.length) : (mrkD ds k j).set j (mk3 k j) = mrkD ds k (j + 1) := by
  unfold mrkD
  rw [List.set_append_right _ _ (by simp), List.length_map, List.length_range, Nat.sub_self, List.drop_eq_getElem_cons h, List.set_cons_zero, List.range_succ, List.map_append]
  simp

end Go.Proofs.YtokokbfcnjkcoaaDoor
