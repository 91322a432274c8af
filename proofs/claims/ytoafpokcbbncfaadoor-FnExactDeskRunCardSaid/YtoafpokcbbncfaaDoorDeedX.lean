/-
  Contracts of the exact laws' helpers over slices of deeds: toDeedS, eqDeedS, szDeedS, markDeedS, heldDeedS (written by wip/gen_e5.py).
-/
import Derived.Test.YtoafpokcbbncfaaDoorZpd
import Derived.Test.YtoafpokcbbncfaaDoorZdraw
import Derived.Test.YtoafpokcbbncfaaDoorZrows
import Derived.Test.YtoafpokcbbncfaaDoorZpb
import Derived.StillTailTactics
import Derived.Deep.RegionHeld3
namespace Go.Proofs.YtoafpokcbbncfaaDoor
open Go.RowKit
set_option linter.unusedVariables false

theorem infoDeed_parts : ∃ i, Tryd.prog.info? 38 = some i ∧ i.zero = some (.agg #[.int .i64 0, .int .i64 0, .int .i64 0]) ∧ i.size = 3 ∧ i.bytes = 24 := info_parts infoDeed
theorem ddC_set {ds : List Ded} {j : Nat} {x : Ded} (h : j < ds.length) : (((ddC ds).set (j * 3) (.int .i64 x.k)).set (j * 3 + 1) (.int .i64 x.a)).set (j * 3 + 2) (.int .i64 x.b) = ddC (ds.set j x) := by
  induction ds generalizing j with
  | nil => simp at h
  | cons a r ih =>
    cases j with
    | zero => simp [ddC]
    | succ j =>
      have := ih (j := j) (by simpa using h)
      simp only [ddC, List.set_cons_succ, Nat.succ_mul]
      rw [← this]
theorem OwnD.shape {w : World} {base : Nat} {v : Value} {ds : List Ded} (h : OwnD w base v ds) : (v = .slice none 0 0 ∧ ds = []) ∨ ∃ g c, v = .slice (some ⟨g, 0, none⟩) ds.length c ∧ base ≤ g ∧ g < w.heap.size := by
  rcases row_shape h.row with ⟨hv, h0⟩ | ⟨g, cap, hv, hg, hh, _⟩
  · exact .inl ⟨hv, List.eq_nil_of_length_eq_zero h0⟩
  · exact .inr ⟨g, cap, hv, hg, hh⟩
def set3 (w : World) (g j : Nat) (x : Ded) : World := ((w.setCell ⟨g, j * 3, none⟩ (.int .i64 x.k)).setCell ⟨g, j * 3 + 1, none⟩ (.int .i64 x.a)).setCell ⟨g, j * 3 + 2, none⟩ (.int .i64 x.b)
theorem OwnD.set3 {w : World} {base g n c j : Nat} {ds : List Ded} (h : OwnD w base (.slice (some ⟨g, 0, none⟩) n c) ds) (hj : j < ds.length) {x : Ded} (hx : wfD x) :
    OwnD (Go.Proofs.YtoafpokcbbncfaaDoor.set3 w g j x) base (.slice (some ⟨g, 0, none⟩) n c) (ds.set j x) := by
  have hn := h.len
  subst hn
  refine ⟨?_, fun z hz => ?_⟩
  · have := (((((h.row.stored (j * 3) (.int .i64 x.k)).1).stored (j * 3 + 1) (.int .i64 x.a)).1).stored (j * 3 + 2) (.int .i64 x.b)).1
    rw [List.length_set, ← ddC_set hj]
    exact this
  · rcases List.mem_or_eq_of_mem_set hz with h1 | h1
    · exact h.wf z h1
    · rw [h1]; exact hx
/-- A deed that the call owns: what a store into its three fields asks. -/
theorem OwnD.at3 {w : World} {base j n c : Nat} {A : Option Addr} {x : Ded} {ds : List Ded} (h : OwnD w base (.slice A n c) ds) (hx : ds[j]? = some x) (u v : Value) : ∃ g, A = some ⟨g, 0, none⟩ ∧ base ≤ g ∧ g < w.heap.size ∧ (w.cell? ⟨g, j * 3, none⟩ = some (.int .i64 x.k) ∧ w.frozen? ⟨g, j * 3, none⟩ = false) ∧ (w.cell? ⟨g, j * 3 + 1, none⟩ = some (.int .i64 x.a) ∧ w.frozen? ⟨g, j * 3 + 1, none⟩ = false) ∧ (w.cell? ⟨g, j * 3 + 2, none⟩ = some (.int .i64 x.b) ∧ w.frozen? ⟨g, j * 3 + 2, none⟩ = false) ∧
    ((w.setCell ⟨g, j * 3, none⟩ u).cell? ⟨g, j * 3 + 1, none⟩ = some (.int .i64 x.a) ∧ (w.setCell ⟨g, j * 3, none⟩ u).frozen? ⟨g, j * 3 + 1, none⟩ = false) ∧ (((w.setCell ⟨g, j * 3, none⟩ u).setCell ⟨g, j * 3 + 1, none⟩ v).cell? ⟨g, j * 3 + 2, none⟩ = some (.int .i64 x.b) ∧ ((w.setCell ⟨g, j * 3, none⟩ u).setCell ⟨g, j * 3 + 1, none⟩ v).frozen? ⟨g, j * 3 + 2, none⟩ = false) := by
  have hj := (List.getElem?_eq_some_iff.1 hx).1
  have hn := h.len
  subst hn
  rcases h.shape with ⟨hv, rfl⟩ | ⟨g, c2, hv, hg, hgl⟩
  · simp at hx
  · injection hv with h1 h2 h3
    subst h1; subst h3
    obtain ⟨m1, m2, m3⟩ := ddC_at hx
    have hs := (h.row.stored (j * 3) u).1
    have hs2 := (hs.stored (j * 3 + 1) v).1
    refine ⟨g, rfl, hg, hgl, ⟨?_, h.row.frozenAt _⟩, ⟨?_, h.row.frozenAt _⟩, ⟨?_, h.row.frozenAt _⟩, ⟨?_, hs.frozenAt _⟩, ⟨?_, hs2.frozenAt _⟩⟩
    · rw [h.row.cellAt _ (by omega)]; exact m1
    · rw [h.row.cellAt _ (by omega)]; exact m2
    · rw [h.row.cellAt _ (by omega)]; exact m3
    · rw [hs.cellAt _ (by omega), List.getElem?_set_ne (by omega)]; exact m2
    · rw [hs2.cellAt _ (by omega), List.getElem?_set_ne (by omega), List.getElem?_set_ne (by omega)]; exact m3
def cpyD (ds : List Ded) (k : Nat) : List Ded := ds.take k ++ List.replicate (ds.length - k) noDed
theorem cpyD_len {ds : List Ded} {k : Nat} (h : k ≤ ds.length) : (cpyD ds k).length = ds.length := by simp [cpyD]; omega
theorem cpyD_zero (ds : List Ded) : cpyD ds 0 = List.replicate ds.length noDed := by simp [cpyD]
theorem cpyD_all (ds : List Ded) : cpyD ds ds.length = ds := by simp [cpyD]
theorem cpyD_at {ds : List Ded} {k : Nat} (h : k < ds.length) : (cpyD ds k)[k]? = some noDed := by
  unfold cpyD
  rw [List.getElem?_append_right (by rw [List.length_take]; omega), List.length_take, List.getElem?_replicate, if_pos (by omega)]
theorem cpyD_set {ds : List Ded} {k : Nat} {m : Ded} (h : ds[k]? = some m) : (cpyD ds k).set k m = cpyD ds (k + 1) := by
  have hk := (List.getElem?_eq_some_iff.1 h).1
  unfold cpyD
  rw [List.set_append_right _ _ (by rw [List.length_take]; omega), List.length_take, show k - min k ds.length = 0 by omega, show ds.length - k = (ds.length - (k + 1)) + 1 by omega, List.replicate_succ, List.set_cons_zero, List.take_add_one, h]
  simp
theorem ownD_made {w : World} {h m : Nat} (ho : w.ownsRow h 38 3 (.slice (some ⟨h, 0, none⟩) m m) m (madeCells (Value.agg #[.int .i64 0, .int .i64 0, .int .i64 0]).cells (m * 3)).toList) : OwnD w h (.slice (some ⟨h, 0, none⟩) m m) (List.replicate m noDed) :=
  ⟨by
    have e1 : (madeCells (Value.agg #[.int .i64 0, .int .i64 0, .int .i64 0]).cells (m * 3)).toList = ddC (List.replicate m noDed) := by
      have e2 : ddC (List.replicate m noDed) = List.replicate (m * 3) (.int .i64 0) := by
        clear ho
        induction m with
        | zero => rfl
        | succ m ih => rw [List.replicate_succ, ddC, ih, show (m + 1) * 3 = m * 3 + 1 + 1 + 1 by omega, List.replicate_succ, List.replicate_succ, List.replicate_succ]; rfl
      rw [e2]
      refine List.eq_replicate_iff.2 ⟨by simp [madeCells], fun b hb => ?_⟩
      simp only [madeCells, Array.toList_map, List.mem_map] at hb
      obtain ⟨i, _, rfl⟩ := hb
      rcases (show i % 3 = 0 ∨ i % 3 = 1 ∨ i % 3 = 2 by omega) with e | e | e <;> simp [Value.cells, e]
    rw [List.length_replicate, ← e1]; exact ho, fun z hz => by
      have := List.eq_of_mem_replicate hz
      subst this; exact ⟨by decide, by decide, by decide⟩⟩

set_option maxRecDepth 100000 in
theorem toDeed_c (k a b : Int) (w : World) :
    Calls Tryd.prog 11 #[.agg #[.int .i64 k, .int .i64 a, .int .i64 b]] w fun e w' => e = .returned (.agg #[.int .i64 k, .int .i64 a, .int .i64 b]) ∧ Below w.heap.size w w' := by
  go_enter Tryd.func11, Tryd.ntmps11
  go_wp2
  exact bodyPost_ret (v := .agg #[.int .i64 k, .int .i64 a, .int .i64 b]) (by simp [results, Tryd.results11, go_sem]) rfl ⟨rfl, ((al w _).alloc (by simp) _).alloc (by simp; omega) _⟩

set_option maxHeartbeats 1600000 in
theorem toDeedS_c (A : Option Addr) (n c B : Nat) (ds : List Ded) (w : World) (h : DdM w B A n c ds) (hB : B ≤ w.heap.size) (hn : n ≤ 1048576) :
    Calls Tryd.prog 18 #[.slice A n c] w fun e w' => ∃ g, e = .returned (.slice (some ⟨g, 0, none⟩) n n) ∧ OwnD w' w.heap.size (.slice (some ⟨g, 0, none⟩) n n) ds ∧ Below w.heap.size w w' := by
  have hl := hide h.len
  obtain ⟨i1, hi, hz0, hz1, hz2⟩ := infoDeed_parts
  go_enter Tryd.func18, Tryd.ntmps18
  go_wp2_with (at_make; refine wpList_make_full _ rfl _ _ 47 rfl w.heap.size 38 i1 (.agg #[.int .i64 0, .int .i64 0, .int .i64 0]) 3 Tryd.underlying47 hi hz0 hz1 .i64 .i64 _ _ n rfl rfl rfl rfl (by rw [hz2]; omega) (by unfold maxLen; omega) (Nat.le_refl _) ?_; intro w1 hown0 hgrow0)
  have hb0 := hide (show Below w.heap.size w w1 from (Below.refl _ _).grown hgrow0 (Nat.le_refl _) (fun k hk => by cases hk))
  have ho0 := hide (show OwnD w1 w.heap.size (.slice (some ⟨w.heap.size, 0, none⟩) n n) (cpyD ds 0) by rw [cpyD_zero, hl.out]; exact ownD_made hown0)
  clear hown0 hgrow0
  go_loopw [4] (fun i wr => ∃ k : Nat, k ≤ n ∧ i = .int .i64 k ∧ Hid (OwnD wr w.heap.size (.slice (some ⟨w.heap.size, 0, none⟩) n n) (cpyD ds k)) ∧ Hid (Below w.heap.size w wr)) (fun i _ => n - (intOf i).toNat)
  case atStart => exact ⟨0, Nat.zero_le _, rfl, ho0, hb0⟩
  case round =>
    clear ho0 hb0
    obtain ⟨k, hk, rfl, ho, hb⟩ := hrel
    have hst := hb.out.size
    by_cases hlt : k < n
    · obtain ⟨b, off, x, rfl, hbB, hx, hc1, hc2, hc3⟩ := (h.below (hb.out.mono hB)).look hlt
      have hkl : k < ds.length := by have := hl.out; omega
      have hwf := hide (h.wf x (List.mem_of_getElem? hx.out))
      have HT := hide (toDeed_c x.k x.a x.b wr)
      go_wp2_with fail
      refine HT.out.mono ?_
      rintro e w2 ⟨rfl, hq⟩
      have ho2 := ho.out.up hq
      have hb2 := hide (upB hb.out hq)
      obtain ⟨g, hA, hg, hgl, ⟨d1, d2⟩, ⟨d3, d4⟩, ⟨d5, d6⟩, ⟨d7, d8⟩, ⟨d9, d10⟩⟩ := ho2.at3 (cpyD_at hkl) (.int .i64 x.k) (.int .i64 x.a)
      injection hA with hA
      injection hA with hA _ _
      subst hA
      have ho3 := hide (show OwnD (((w2.setCell ⟨w.heap.size, k * 3, none⟩ (.int .i64 x.k)).setCell ⟨w.heap.size, k * 3 + 1, none⟩ (.int .i64 x.a)).setCell ⟨w.heap.size, k * 3 + 2, none⟩ (.int .i64 x.b)) w.heap.size (.slice (some ⟨w.heap.size, 0, none⟩) n n) (cpyD ds (k + 1)) by
        have := ho2.set3 (j := k) (x := x) (by rw [cpyD_len (by omega)]; exact hkl) hwf.out
        rw [cpyD_set hx.out] at this
        exact this)
      have hb3 := hide (((hb2.out.setCell (p := ⟨w.heap.size, k * 3, none⟩) (Nat.le_refl _) (.int .i64 x.k)).setCell (p := ⟨w.heap.size, k * 3 + 1, none⟩) (Nat.le_refl _) (.int .i64 x.a)).setCell (p := ⟨w.heap.size, k * 3 + 2, none⟩) (Nat.le_refl _) (.int .i64 x.b))
      clear hq ho2
      go_wp2
      go_roundw
      case rel => exact ⟨k + 1, by omega, by go_num, ho3, hb3⟩
      case measure => simp [intOf]; omega
    · obtain rfl : k = n := by omega
      go_wp2
      go_ret
      exact ⟨_, rfl, by have := ho.out; rwa [← hl.out, cpyD_all, hl.out] at this, hb.out⟩

theorem szDeedS_c (A : Option Addr) (n c B : Nat) (ds : List Ded) (w : World) (L : Int) (h : DdM w B A n c ds) (hL0 : 0 ≤ L) (hL1 : L ≤ 1048576) :
    Calls Tryd.prog 16 #[.slice A n c, .int .i64 L] w fun e w' => (∃ x : Int, e = .returned (.int .i64 x) ∧ -1 ≤ x ∧ x ≤ 1048576 ∧ (0 ≤ x → n ≤ 1048576)) ∧ Below w.heap.size w w' := by
  have hn := h.nb
  by_cases hs : (n : Int) ≤ L
  · go_enter Tryd.func16, Tryd.ntmps16
    go_wp2
    go_ret
    exact ⟨⟨_, rfl, by omega, by omega, fun _ => by omega⟩, Below.refl _ _⟩
  · go_enter Tryd.func16, Tryd.ntmps16
    go_wp2
    go_ret
    exact ⟨⟨_, rfl, by omega, by omega, fun h => by omega⟩, Below.refl _ _⟩

def mk3 (k : Int) (i : Nat) : Ded := ⟨k + 3 * (i : Int), k + 3 * (i : Int) + 1, k + 3 * (i : Int) + 2⟩
def mrkD (ds : List Ded) (k : Int) (j : Nat) : List Ded := (List.range j).map (mk3 k) ++ ds.drop j
theorem mrkD_zero (ds : List Ded) (k : Int) : mrkD ds k 0 = ds := by simp [mrkD]
theorem mrkD_len {ds : List Ded} {k : Int} {j : Nat} (h : j ≤ ds.length) : (mrkD ds k j).length = ds.length := by simp [mrkD]; omega
theorem mrkD_at {ds : List Ded} {k : Int} {j i : Nat} (h : i < j) : (mrkD ds k j)[i]? = some (mk3 k i) := by
  unfold mrkD
  rw [List.getElem?_append_left (by simpa using h)]
  simp [h]
theorem mrkD_past {ds : List Ded} {k : Int} {j : Nat} : (mrkD ds k j)[j]? = ds[j]? := by
  unfold mrkD
  rw [List.getElem?_append_right (by simp)]
  simp
theorem mrkD_set {ds : List Ded} {k : Int} {j : Nat} (h : j < ds.length) : (mrkD ds k j).set j (mk3 k j) = mrkD ds k (j + 1) := by
  unfold mrkD
  rw [List.set_append_right _ _ (by simp), List.length_map, List.length_range, Nat.sub_self, List.drop_eq_getElem_cons h, List.set_cons_zero, List.range_succ, List.map_append]
  simp

set_option maxHeartbeats 1600000 in
theorem markDeedS_c (A : Option Addr) (n c base : Nat) (k : Int) (ds : List Ded) (w : World) (h : OwnD w base (.slice A n c) ds) (h0 : 0 ≤ k) (h1 : k ≤ 100000000) (hn : n ≤ 1048576) :
    Calls Tryd.prog 21 #[.slice A n c, .int .i64 k] w fun e w' => e = .returned (.int .i64 (k + 3 * (n : Int))) ∧ OwnD w' base (.slice A n c) (mrkD ds k n) ∧ w.grownBy w' ((Value.slice A n c).ownBlock) := by
  have hl := hide h.len
  replace h := hide h
  go_enter Tryd.func21, Tryd.ntmps21
  go_wp2
  go_loopw [1, 5] (fun q i wr => ∃ j : Nat, j ≤ n ∧ i = .int .i64 j ∧ q = .int .i64 (k + 3 * (j : Int)) ∧ Hid (OwnD wr base (.slice A n c) (mrkD ds k j)) ∧ Hid (w.grownBy wr ((Value.slice A n c).ownBlock))) (fun _ i _ => n - (intOf i).toNat)
  case atStart => exact ⟨0, Nat.zero_le _, rfl, by simp, by rw [mrkD_zero]; exact h, hide (World.grownBy.refl w _)⟩
  case round =>
    clear h
    obtain ⟨j, hj, rfl, rfl, ho, hg⟩ := hrel
    by_cases hlt : j < n
    · have hjl : j < ds.length := by have := hl.out; omega
      obtain ⟨K, hK⟩ : ∃ K, Hid (k + 3 * (j : Int) = K) := ⟨_, hide rfl⟩
      have hKb : 0 ≤ K ∧ K ≤ 110000000 := by have := hK.out; omega
      have hmk := hide (show mk3 k j = ⟨K, K + 1, K + 2⟩ by unfold mk3; rw [hK.out])
      rw [hK.out]
      obtain ⟨K0, K1⟩ := hKb
      obtain ⟨x, hxy⟩ : ∃ m, ds[j]? = some m := ⟨_, List.getElem?_eq_getElem hjl⟩
      obtain ⟨g, rfl, hgb, hgl, ⟨d1, d2⟩, ⟨d3, d4⟩, ⟨d5, d6⟩, ⟨d7, d8⟩, ⟨d9, d10⟩⟩ := ho.out.at3 (mrkD_past.trans hxy) (.int .i64 K) (.int .i64 (K + 1))
      have ho3 := hide (show OwnD (((wr.setCell ⟨g, j * 3, none⟩ (.int .i64 K)).setCell ⟨g, j * 3 + 1, none⟩ (.int .i64 (K + 1))).setCell ⟨g, j * 3 + 2, none⟩ (.int .i64 (K + 2))) base (.slice (some ⟨g, 0, none⟩) n c) (mrkD ds k (j + 1)) by
        have := ho.out.set3 (j := j) (x := ⟨K, K + 1, K + 2⟩) (by rw [mrkD_len (by omega)]; exact hjl) ⟨wf_i64 (by simp only; omega), wf_i64 (by simp only; omega), wf_i64 (by simp only; omega)⟩
        rw [← hmk.out, mrkD_set hjl, hmk.out] at this
        exact this)
      have hg3 := hide (show w.grownBy (((wr.setCell ⟨g, j * 3, none⟩ (.int .i64 K)).setCell ⟨g, j * 3 + 1, none⟩ (.int .i64 (K + 1))).setCell ⟨g, j * 3 + 2, none⟩ (.int .i64 (K + 2))) (some g) from ((World.grownBy.trans hg.out (grown_set wr g (j * 3) (.int .i64 K))).trans (grown_set _ g (j * 3 + 1) (.int .i64 (K + 1)))).trans (grown_set _ g (j * 3 + 2) (.int .i64 (K + 2))))
      have hKn := hide (show K + 1 + 1 + 1 = k + 3 * ((j + 1 : Nat) : Int) by have := hK.out; omega)
      have hK2 : K + 1 + 1 = K + 2 := by omega
      clear hxy hmk
      go_wp2
      go_roundw
      case rel => exact ⟨j + 1, by omega, by go_num, by rw [← hKn.out] <;> first | rfl | (congr 1; omega), ho3, hg3⟩
      case measure => simp [intOf]; omega
    · obtain rfl : j = n := by omega
      go_wp2
      go_ret
      exact ⟨rfl, ho.out, hg.out⟩

theorem eqDeed_c (k a b : Int) (w : World) :
    Calls Tryd.prog 55 #[.agg #[.int .i64 k, .int .i64 a, .int .i64 b], .agg #[.int .i64 k, .int .i64 a, .int .i64 b]] w fun e w' => e = .returned (.bool true) ∧ Below w.heap.size w w' := by
  go_enter Tryd.func55, Tryd.ntmps55
  go_wp2
  go_ret
  exact ⟨rfl, (al w _).alloc (by simp) _⟩

set_option maxHeartbeats 1600000 in
theorem eqDeedS_c (A A' : Option Addr) (n c B n' c' B' : Nat) (ds : List Ded) (w : World) (h : DdM w B A n c ds) (h' : DdM w B' A' n' c' ds) (hB : B ≤ w.heap.size) (hB' : B' ≤ w.heap.size) :
    Calls Tryd.prog 20 #[.slice A n c, .slice A' n' c'] w fun e w' => e = .returned (.bool true) ∧ Below w.heap.size w w' := by
  have hl := h.len
  have hl' := h'.len
  have hn := h.nb
  obtain rfl : n = n' := hl.symm.trans hl'
  clear hl hl'
  go_enter Tryd.func20, Tryd.ntmps20
  go_wp2
  go_loopw [5] (fun i wr => ∃ k : Nat, k ≤ n ∧ i = .int .i64 k ∧ Hid (Below w.heap.size w wr)) (fun i _ => n - (intOf i).toNat)
  case atStart => exact ⟨0, Nat.zero_le _, rfl, hide (Below.refl _ _)⟩
  case round =>
    obtain ⟨k, hk, rfl, hb⟩ := hrel
    by_cases hlt : k < n
    · obtain ⟨b, off, x, rfl, hbB, hx, hc1, hc2, hc3⟩ := (h.below (hb.out.mono hB)).look hlt
      obtain ⟨b', off', x', rfl, hbB', hx', hc1', hc2', hc3'⟩ := (h'.below (hb.out.mono hB')).look hlt
      have he := hx.out.symm.trans hx'.out
      injection he with he
      subst he
      have HE := hide (fun W => eqDeed_c x.k x.a x.b W)
      go_wp2
      go_region_with (go_at_call 55; (with_reducible refine (HE.out _).mono ?_); rintro e w' ⟨rfl, hq⟩)
      all_goals (
        have hb2 := hide (upB (below_drewN hb.out 1) hq)
        go_wp2
        go_roundw
        case rel => exact ⟨k + 1, by omega, by go_num, hb2⟩
        case measure => simp [intOf]; omega)
    · obtain rfl : k = n := by omega
      go_wp2
      go_ret
      exact ⟨rfl, hb.out⟩
end Go.Proofs.YtoafpokcbbncfaaDoor
