/-
  Contracts of the exact laws' helpers over slices of marks: toMarkS, eqMarkS, szMarkS, markMarkS, heldMarkS.
-/
import Derived.Test.YtffllkmaifjpfabZmark
import Derived.Test.YtffllkmaifjpfabZdraw
import Derived.Test.YtffllkmaifjpfabZrows
import Derived.Test.YtffllkmaifjpfabZterm
import Derived.Test.YtffllkmaifjpfabZpm
import Derived.StillTailTactics
namespace Go.Proofs.Ytffllkmaifjpfab
open Go.RowKit
set_option linter.unusedVariables false

theorem mkC_set {ts : List Mk} {j : Nat} {x y : Int} (h : j < ts.length) : ((mkC ts).set (j * 2) (.int .i64 x)).set (j * 2 + 1) (.int .i64 y) = mkC (ts.set j (x, y)) := by
  induction ts generalizing j with
  | nil => simp at h
  | cons a r ih =>
    cases j with
    | zero => simp [mkC]
    | succ j =>
      have := ih (j := j) (by simpa using h)
      simp only [mkC, List.set_cons_succ, Nat.succ_mul]
      rw [← this]
theorem OwnK.set2 {w : World} {base g n c j : Nat} {ts : List Mk} (h : OwnK w base (.slice (some ⟨g, 0, none⟩) n c) ts) (hj : j < ts.length) {x y : Int} (hx : (Lit.int .i64 x).wf = true) (hy : (Lit.int .i64 y).wf = true) :
    OwnK ((w.setCell ⟨g, j * 2, none⟩ (.int .i64 x)).setCell ⟨g, j * 2 + 1, none⟩ (.int .i64 y)) base (.slice (some ⟨g, 0, none⟩) n c) (ts.set j (x, y)) := by
  have hn := h.len
  subst hn
  refine ⟨?_, fun z hz => ?_⟩
  · have := (((h.row.stored (j * 2) (.int .i64 x)).1).stored (j * 2 + 1) (.int .i64 y)).1
    rw [List.length_set, ← mkC_set hj]
    exact this
  · rcases List.mem_or_eq_of_mem_set hz with h1 | h1
    · exact h.wf z h1
    · rw [h1]; exact ⟨hx, hy⟩
/-- A mark that the call owns: what a store into both fields asks. -/
theorem OwnK.at2 {w : World} {base j n c : Nat} {A : Option Addr} {x y : Int} {ts : List Mk} (h : OwnK w base (.slice A n c) ts) (hx : ts[j]? = some (x, y)) (u : Value) : ∃ g, A = some ⟨g, 0, none⟩ ∧ base ≤ g ∧ g < w.heap.size ∧ w.cell? ⟨g, j * 2, none⟩ = some (.int .i64 x) ∧ w.frozen? ⟨g, j * 2, none⟩ = false ∧ w.cell? ⟨g, j * 2 + 1, none⟩ = some (.int .i64 y) ∧ w.frozen? ⟨g, j * 2 + 1, none⟩ = false ∧ (w.setCell ⟨g, j * 2, none⟩ u).cell? ⟨g, j * 2 + 1, none⟩ = some (.int .i64 y) ∧ (w.setCell ⟨g, j * 2, none⟩ u).frozen? ⟨g, j * 2 + 1, none⟩ = false := by
  have hj := (List.getElem?_eq_some_iff.1 hx).1
  have hn := h.len
  subst hn
  rcases h.shape with ⟨hv, rfl⟩ | ⟨g, c2, hv, hg, hgl⟩
  · simp at hx
  · injection hv with h1 h2 h3
    subst h1; subst h3
    obtain ⟨m1, m2⟩ := mkC_at hx
    have hs := (h.row.stored (j * 2) u).1
    refine ⟨g, rfl, hg, hgl, ?_, h.row.frozenAt _, ?_, h.row.frozenAt _, ?_, hs.frozenAt _⟩
    · rw [h.row.cellAt _ (by omega)]; exact m1
    · rw [h.row.cellAt _ (by omega)]; exact m2
    · rw [hs.cellAt _ (by omega), List.getElem?_set_ne (by omega)]; exact m2
def cpyK (ts : List Mk) (k : Nat) : List Mk := ts.take k ++ List.replicate (ts.length - k) (0, 0)
theorem cpyK_len {ts : List Mk} {k : Nat} (h : k ≤ ts.length) : (cpyK ts k).length = ts.length := by simp [cpyK]; omega
theorem cpyK_zero (ts : List Mk) : cpyK ts 0 = List.replicate ts.length (0, 0) := by simp [cpyK]
theorem cpyK_all (ts : List Mk) : cpyK ts ts.length = ts := by simp [cpyK]
theorem cpyK_at {ts : List Mk} {k : Nat} (h : k < ts.length) : (cpyK ts k)[k]? = some (0, 0) := by
  unfold cpyK
  rw [List.getElem?_append_right (by rw [List.length_take]; omega), List.length_take, List.getElem?_replicate, if_pos (by omega)]
theorem cpyK_set {ts : List Mk} {k : Nat} {m : Mk} (h : ts[k]? = some m) : (cpyK ts k).set k m = cpyK ts (k + 1) := by
  have hk := (List.getElem?_eq_some_iff.1 h).1
  unfold cpyK
  rw [List.set_append_right _ _ (by rw [List.length_take]; omega), List.length_take, show k - min k ts.length = 0 by omega, show ts.length - k = (ts.length - (k + 1)) + 1 by omega, List.replicate_succ, List.set_cons_zero, List.take_add_one, h]
  simp
theorem ownK_made {w : World} {h m : Nat} (ho : w.ownsRow h 57 2 (.slice (some ⟨h, 0, none⟩) m m) m (madeCells (Value.agg #[.int .i64 0, .int .i64 0]).cells (m * 2)).toList) : OwnK w h (.slice (some ⟨h, 0, none⟩) m m) (List.replicate m (0, 0)) :=
  ⟨by
    have e1 : (madeCells (Value.agg #[.int .i64 0, .int .i64 0]).cells (m * 2)).toList = mkC (List.replicate m (0, 0)) := by
      have e2 : mkC (List.replicate m (0, 0)) = List.replicate (m * 2) (.int .i64 0) := by
        clear ho
        induction m with
        | zero => rfl
        | succ m ih => rw [List.replicate_succ, mkC, ih, show (m + 1) * 2 = m * 2 + 1 + 1 by omega, List.replicate_succ, List.replicate_succ]
      rw [e2]
      refine List.eq_replicate_iff.2 ⟨by simp [madeCells], fun b hb => ?_⟩
      simp only [madeCells, Array.toList_map, List.mem_map] at hb
      obtain ⟨i, _, rfl⟩ := hb
      rcases (show i % 2 = 0 ∨ i % 2 = 1 by omega) with e | e <;> simp [Value.cells, e]
    rw [List.length_replicate, ← e1]; exact ho, fun z hz => by
      have := List.eq_of_mem_replicate hz
      subst this; exact ⟨by decide, by decide⟩⟩

theorem toMark_c (x y : Int) (w : World) :
    Calls Try.prog 44 #[.agg #[.int .i64 x, .int .i64 y]] w fun e w' => e = .returned (.agg #[.int .i64 x, .int .i64 y]) ∧ Below w.heap.size w w' := by
  go_enter Try.func44, Try.ntmps44
  go_wp2
  exact bodyPost_ret (v := .agg #[.int .i64 x, .int .i64 y]) (by simp [results, Try.results44, go_sem]) rfl ⟨rfl, ((al w _).alloc (by simp) _).alloc (by simp; omega) _⟩

set_option maxHeartbeats 1600000 in
theorem toMarkS_c (A : Option Addr) (n c B : Nat) (ts : List Mk) (w : World) (h : Marks w B A n c ts) (hB : B ≤ w.heap.size) (hn : n ≤ 1048576) :
    Calls Try.prog 13 #[.slice A n c] w fun e w' => ∃ g, e = .returned (.slice (some ⟨g, 0, none⟩) n n) ∧ OwnK w' w.heap.size (.slice (some ⟨g, 0, none⟩) n n) ts ∧ Below w.heap.size w w' := by
  have hl := hide h.len
  obtain ⟨i1, hi, hz0, hz1, hz2⟩ := infoMark_parts
  go_enter Try.func13, Try.ntmps13
  go_wp2_with (at_make; refine wpList_make_full _ rfl _ _ 25 rfl w.heap.size 57 i1 (.agg #[.int .i64 0, .int .i64 0]) 2 Try.underlying25 hi hz0 hz1 .i64 .i64 _ _ n rfl rfl rfl rfl (by rw [hz2]; omega) (by unfold maxLen; omega) (Nat.le_refl _) ?_; intro w1 hown0 hgrow0)
  have hb0 := hide (show Below w.heap.size w w1 from (Below.refl _ _).grown hgrow0 (Nat.le_refl _) (fun k hk => by cases hk))
  have ho0 := hide (show OwnK w1 w.heap.size (.slice (some ⟨w.heap.size, 0, none⟩) n n) (cpyK ts 0) by rw [cpyK_zero, hl.out]; exact ownK_made hown0)
  clear hown0 hgrow0
  go_loopw [4] (fun i wr => ∃ k : Nat, k ≤ n ∧ i = .int .i64 k ∧ Hid (OwnK wr w.heap.size (.slice (some ⟨w.heap.size, 0, none⟩) n n) (cpyK ts k)) ∧ Hid (Below w.heap.size w wr)) (fun i _ => n - (intOf i).toNat)
  case atStart => exact ⟨0, Nat.zero_le _, rfl, ho0, hb0⟩
  case round =>
    clear ho0 hb0
    obtain ⟨k, hk, rfl, ho, hb⟩ := hrel
    have hst := hb.out.size
    by_cases hlt : k < n
    · obtain ⟨b, off, x, y, rfl, hbB, hx, hc1, hc2⟩ := (h.below (hb.out.mono hB)).look hlt
      have hkl : k < ts.length := by have := hl.out; omega
      have hwf := hide (h.wf_at hx.out)
      have HT := hide (toMark_c x y wr)
      go_wp2_with fail
      refine HT.out.mono ?_
      rintro e w2 ⟨rfl, hq⟩
      have ho2 := ho.out.up hq
      have hb2 := hide (upB hb.out hq)
      obtain ⟨g, hA, hg, hgl, d1, d2, d3, d4, d5, d6⟩ := ho2.at2 (cpyK_at hkl) (.int .i64 x)
      injection hA with hA
      injection hA with hA _ _
      subst hA
      have ho3 := hide (show OwnK ((w2.setCell ⟨w.heap.size, k * 2, none⟩ (.int .i64 x)).setCell ⟨w.heap.size, k * 2 + 1, none⟩ (.int .i64 y)) w.heap.size (.slice (some ⟨w.heap.size, 0, none⟩) n n) (cpyK ts (k + 1)) by
        have := ho2.set2 (j := k) (x := x) (y := y) (by rw [cpyK_len (by omega)]; exact hkl) hwf.out.1 hwf.out.2
        rw [cpyK_set hx.out] at this
        exact this)
      have hb3 := hide ((hb2.out.setCell (p := ⟨w.heap.size, k * 2, none⟩) (Nat.le_refl _) (.int .i64 x)).setCell (p := ⟨w.heap.size, k * 2 + 1, none⟩) (Nat.le_refl _) (.int .i64 y))
      clear hq ho2
      go_wp2
      go_roundw
      case rel => exact ⟨k + 1, by omega, by go_num, ho3, hb3⟩
      case measure => simp [intOf]; omega
    · obtain rfl : k = n := by omega
      go_wp2
      go_ret
      exact ⟨_, rfl, by have := ho.out; rwa [← hl.out, cpyK_all, hl.out] at this, hb.out⟩

theorem szMarkS_c (A : Option Addr) (n c B : Nat) (ts : List Mk) (w : World) (L : Int) (h : Marks w B A n c ts) (hL0 : 0 ≤ L) (hL1 : L ≤ 1048576) :
    Calls Try.prog 11 #[.slice A n c, .int .i64 L] w fun e w' => (∃ x : Int, e = .returned (.int .i64 x) ∧ -1 ≤ x ∧ x ≤ 1048576 ∧ (0 ≤ x → n ≤ 1048576)) ∧ Below w.heap.size w w' := by
  have hn := h.nb
  by_cases hs : (n : Int) ≤ L
  · go_enter Try.func11, Try.ntmps11
    go_wp2
    go_ret
    exact ⟨⟨_, rfl, by omega, by omega, fun _ => by omega⟩, Below.refl _ _⟩
  · go_enter Try.func11, Try.ntmps11
    go_wp2
    go_ret
    exact ⟨⟨_, rfl, by omega, by omega, fun h => by omega⟩, Below.refl _ _⟩

def mrkM (ts : List Mk) (k : Int) (j : Nat) : List Mk := (List.range j).map (fun (i : Nat) => (k + 2 * (i : Int), k + 2 * (i : Int) + 1)) ++ ts.drop j
theorem mrkM_zero (ts : List Mk) (k : Int) : mrkM ts k 0 = ts := by simp [mrkM]
theorem mrkM_len {ts : List Mk} {k : Int} {j : Nat} (h : j ≤ ts.length) : (mrkM ts k j).length = ts.length := by simp [mrkM]; omega
theorem mrkM_at {ts : List Mk} {k : Int} {j i : Nat} (h : i < j) : (mrkM ts k j)[i]? = some (k + 2 * (i : Int), k + 2 * (i : Int) + 1) := by
  unfold mrkM
  rw [List.getElem?_append_left (by simpa using h)]
  simp [h]
theorem mrkM_past {ts : List Mk} {k : Int} {j : Nat} : (mrkM ts k j)[j]? = ts[j]? := by
  unfold mrkM
  rw [List.getElem?_append_right (by simp)]
  simp
theorem mrkM_set {ts : List Mk} {k : Int} {j : Nat} (h : j < ts.length) : (mrkM ts k j).set j (k + 2 * (j : Int), k + 2 * (j : Int) + 1) = mrkM ts k (j + 1) := by
  unfold mrkM
  rw [List.set_append_right _ _ (by simp), List.length_map, List.length_range, Nat.sub_self, List.drop_eq_getElem_cons h, List.set_cons_zero, List.range_succ, List.map_append]
  simp

set_option maxHeartbeats 1600000 in
theorem markMarkS_c (A : Option Addr) (n c base : Nat) (k : Int) (ts : List Mk) (w : World) (h : OwnK w base (.slice A n c) ts) (h0 : 0 ≤ k) (h1 : k ≤ 100000000) (hn : n ≤ 1048576) :
    Calls Try.prog 22 #[.slice A n c, .int .i64 k] w fun e w' => e = .returned (.int .i64 (k + 2 * (n : Int))) ∧ OwnK w' base (.slice A n c) (mrkM ts k n) ∧ w.grownBy w' ((Value.slice A n c).ownBlock) := by
  have hl := hide h.len
  replace h := hide h
  go_enter Try.func22, Try.ntmps22
  go_wp2
  go_loopw [1, 5] (fun q i wr => ∃ j : Nat, j ≤ n ∧ i = .int .i64 j ∧ q = .int .i64 (k + 2 * (j : Int)) ∧ Hid (OwnK wr base (.slice A n c) (mrkM ts k j)) ∧ Hid (w.grownBy wr ((Value.slice A n c).ownBlock))) (fun _ i _ => n - (intOf i).toNat)
  case atStart => exact ⟨0, Nat.zero_le _, rfl, by simp, by rw [mrkM_zero]; exact h, hide (World.grownBy.refl w _)⟩
  case round =>
    clear h
    obtain ⟨j, hj, rfl, rfl, ho, hg⟩ := hrel
    by_cases hlt : j < n
    · have hjl : j < ts.length := by have := hl.out; omega
      obtain ⟨K, hK⟩ : ∃ K, Hid (k + 2 * (j : Int) = K) := ⟨_, hide rfl⟩
      have hKb : 0 ≤ K ∧ K ≤ 110000000 := by have := hK.out; omega
      rw [hK.out]
      obtain ⟨K0, K1⟩ := hKb
      obtain ⟨⟨x, y⟩, hxy⟩ : ∃ m, ts[j]? = some m := ⟨_, List.getElem?_eq_getElem hjl⟩
      obtain ⟨g, rfl, hgb, hgl, d1, d2, d3, d4, d5, d6⟩ := ho.out.at2 (mrkM_past.trans hxy) (.int .i64 K)
      have ho3 := hide (show OwnK ((wr.setCell ⟨g, j * 2, none⟩ (.int .i64 K)).setCell ⟨g, j * 2 + 1, none⟩ (.int .i64 (K + 1))) base (.slice (some ⟨g, 0, none⟩) n c) (mrkM ts k (j + 1)) by
        have := ho.out.set2 (j := j) (x := K) (y := K + 1) (by rw [mrkM_len (by omega)]; exact hjl) (wf_i64 (by omega)) (wf_i64 (by omega))
        rw [← hK.out, mrkM_set hjl] at this
        rw [← hK.out]
        exact this)
      have hg3 := hide (show w.grownBy ((wr.setCell ⟨g, j * 2, none⟩ (.int .i64 K)).setCell ⟨g, j * 2 + 1, none⟩ (.int .i64 (K + 1))) (some g) from (World.grownBy.trans hg.out (grown_set wr g (j * 2) (.int .i64 K))).trans (grown_set _ g (j * 2 + 1) (.int .i64 (K + 1))))
      have hKn := hide (show K + 1 + 1 = k + 2 * ((j + 1 : Nat) : Int) by have := hK.out; omega)
      clear hxy
      go_wp2
      go_roundw
      case rel => exact ⟨j + 1, by omega, by go_num, by rw [← hKn.out], ho3, hg3⟩
      case measure => simp [intOf]; omega
    · obtain rfl : j = n := by omega
      go_wp2
      go_ret
      exact ⟨rfl, ho.out, hg.out⟩

theorem heldMarkS_c (A : Option Addr) (n c B : Nat) (k : Int) (ts : List Mk) (w : World) (h : Marks w B A n c (mrkM ts k n)) (h0 : 0 ≤ k) (h1 : k ≤ 100000000) (hn : n ≤ 1048576) :
    Calls Try.prog 23 #[.slice A n c, .int .i64 k] w fun e w' => e = .returned (.int .i64 (k + 2 * (n : Int))) ∧ w = w' := by
  go_enter Try.func23, Try.ntmps23
  go_wp2
  go_loop [1, 5] (fun q i => ∃ j : Nat, j ≤ n ∧ i = .int .i64 j ∧ q = .int .i64 (k + 2 * (j : Int))) (fun _ i => n - (intOf i).toNat)
  case atStart => exact ⟨0, Nat.zero_le _, rfl, by simp⟩
  case round =>
    obtain ⟨j, hj, rfl, rfl⟩ := hrel
    by_cases hlt : j < n
    · obtain ⟨b, off, x, y, rfl, hb, hx, hc1, hc2⟩ := h.look hlt
      have e := hx.out
      rw [mrkM_at hlt] at e
      injection e with e
      injection e with e1 e2
      obtain ⟨K, hK⟩ : ∃ K, Hid (k + 2 * (j : Int) = K) := ⟨_, hide rfl⟩
      rw [hK.out] at e1 e2 ⊢
      subst e1; subst e2
      have hKb : 0 ≤ K ∧ K ≤ 110000000 := by have := hK.out; omega
      obtain ⟨K0, K1⟩ := hKb
      have hKn := hide (show K + 1 + 1 = k + 2 * ((j + 1 : Nat) : Int) by have := hK.out; omega)
      clear hx
      go_wp2
      go_round
      case rel => exact ⟨j + 1, by omega, by go_num, by rw [← hKn.out]⟩
      case measure => simp [intOf]; omega
    · obtain rfl : j = n := by omega
      go_wp2
      go_ret
      exact ⟨rfl, rfl⟩

theorem eqMark_c (x y : Int) (w : World) :
    Calls Try.prog 46 #[.agg #[.int .i64 x, .int .i64 y], .agg #[.int .i64 x, .int .i64 y]] w fun e w' => e = .returned (.bool true) ∧ Below w.heap.size w w' := by
  go_enter Try.func46, Try.ntmps46
  go_wp2
  go_ret
  exact ⟨rfl, (al w _).alloc (by simp) _⟩

set_option maxHeartbeats 1600000 in
theorem eqMarkS_c (A A' : Option Addr) (n c B n' c' B' : Nat) (ts : List Mk) (w : World) (h : Marks w B A n c ts) (h' : Marks w B' A' n' c' ts) (hB : B ≤ w.heap.size) (hB' : B' ≤ w.heap.size) :
    Calls Try.prog 15 #[.slice A n c, .slice A' n' c'] w fun e w' => e = .returned (.bool true) ∧ Below w.heap.size w w' := by
  have hl := h.len
  have hl' := h'.len
  have hn := h.nb
  obtain rfl : n = n' := hl.symm.trans hl'
  clear hl hl'
  go_enter Try.func15, Try.ntmps15
  go_wp2
  go_loopw [5] (fun i wr => ∃ k : Nat, k ≤ n ∧ i = .int .i64 k ∧ Hid (Below w.heap.size w wr)) (fun i _ => n - (intOf i).toNat)
  case atStart => exact ⟨0, Nat.zero_le _, rfl, hide (Below.refl _ _)⟩
  case round =>
    obtain ⟨k, hk, rfl, hb⟩ := hrel
    by_cases hlt : k < n
    · obtain ⟨b, off, x, y, rfl, hbB, hx, hc1, hc2⟩ := (h.below (hb.out.mono hB)).look hlt
      obtain ⟨b', off', x', y', rfl, hbB', hx', hc1', hc2'⟩ := (h'.below (hb.out.mono hB')).look hlt
      have he := hx.out.symm.trans hx'.out
      injection he with he
      injection he with e1 e2
      subst e1; subst e2
      have HE := hide (fun W => eqMark_c x y W)
      go_wp2
      go_region_with (go_at_call 46; (with_reducible refine (HE.out _).mono ?_); rintro e w' ⟨rfl, hq⟩)
      all_goals (
        have hb2 := hide (upB (below_drewN hb.out 1) hq)
        go_wp2
        go_roundw
        case rel => exact ⟨k + 1, by omega, by go_num, hb2⟩
        case measure => simp [intOf]; omega)
    · obtain rfl : k = n := by omega
      go_wp2
      go_ret
      exact ⟨rfl, hb.out⟩

theorem readL_len (C : Int) (l : List UInt8) : (readL C l).length ≤ 15 := by
  unfold readL
  cases h : readT C l with
  | none => simp
  | some x => exact (termOk_yes (readT_yes h).2.1).2.2.1
theorem backL_len (C : Int) (ts : List Mk) : (backL C ts).length ≤ ts.length := by
  cases h : termOk C ts with
  | true =>
    obtain ⟨_, _, _, x, hx⟩ := termOk_yes h
    rw [backL_in h hx, back_len, hx.2]; exact Nat.le_refl _
  | false => rw [backL_out h]; simp
end Go.Proofs.Ytffllkmaifjpfab
