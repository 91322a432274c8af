/-
  Words, plain lemmas and contracts that belong together, joined into one file.
-/
import Derived.Test.YtoafpokcbbncfaaDoorZdk
import Derived.Test.YtoafpokcbbncfaaDoorZpx
import Derived.StillTailTactics
import Derived.Test.YtoafpokcbbncfaaDoorPlaceI
import Derived.Test.YtoafpokcbbncfaaDoorZoks
import Derived.Test.YtoafpokcbbncfaaDoorEqD
import Derived.Deep.RegionHeld3
namespace Go.Proofs.YtoafpokcbbncfaaDoor
open Go.RowKit
set_option linter.unusedVariables false

theorem clip_c (A : Option Addr) (n c : Nat) (hn : n ≤ c) (hc : c ≤ maxLen) (w : World) :
    Calls Tryd.prog 114 #[.slice A n c] w fun e w' => e = .returned (.slice A n n) ∧ w' = w := by
  unfold maxLen at hc
  go_enter Tryd.func114, Tryd.ntmps114
  go_wp2_with fail
  go_ret
  exact ⟨rfl, rfl⟩
/-- A desk of the call, laid open. -/
theorem DkR.open_ {w : World} {lo : Nat} {v : Value} {d : Dsk} (h : DkR w lo v d) : ∃ A1 n1 c1 A2 n2 c2 A n c ts, v = .agg #[.slice A1 n1 c1, .int .i64 d.now.step, .slice A2 n2 c2, .slice A n c] ∧ plcs ts = d.past ∧ n = ts.length ∧ SlO w lo A n c (cellsT ts) ∧ RowsT w lo ((.slice A1 n1 c1, .slice A2 n2 c2, d.now) :: ts) := by
  obtain ⟨⟨a, b, p⟩, ts, A, n, c, rfl, h1, h2, h3, h4, h5⟩ := h.ex
  have ho := h5.one _ List.mem_cons_self
  obtain ⟨A1, c1, e1⟩ := ho.s.slice
  obtain ⟨A2, c2, e2⟩ := ho.d.slice
  simp only at e1 e2 h1
  subst e1; subst e2; subst h1
  exact ⟨_, _, _, _, _, _, A, n, c, ts, rfl, h2, h3, h4, h5⟩
theorem OneT.shape {w : World} {lo : Nat} {t : Trp} (h : OneT w lo t) : ∃ A1 n1 c1 A2 n2 c2, t = (.slice A1 n1 c1, .slice A2 n2 c2, t.2.2) := by
  obtain ⟨a, b, p⟩ := t
  obtain ⟨A1, c1, e1⟩ := h.s.slice
  obtain ⟨A2, c2, e2⟩ := h.d.slice
  simp only at e1 e2
  subst e1; subst e2
  exact ⟨_, _, _, _, _, _, rfl⟩

set_option maxRecDepth 100000 in
set_option maxHeartbeats 3200000 in
theorem deskBefore_c (v : Value) (d : Dsk) (lo : Nat) (w : World) (h : DkR w lo v d) (hlo : lo ≤ w.heap.size) (hp : d.past.length ≤ 1000) :
    Calls Tryd.prog 87 #[v] w fun e w' => ∃ u, e = .returned (.tuple #[u, .bool (!d.past.isEmpty)]) ∧ DkR w' lo u (if d.past = [] then d else ⟨d.past.getLast?.getD noPlc, d.past.dropLast⟩) ∧ Below w.heap.size w w' := by
  obtain ⟨A, n, c, A2, n2, c2, A3, n3, c3, ts, rfl, hps, hn3, hsl, hrw⟩ := h.open_
  have hle := hide hsl.le
  have hbig := hide hsl.big
  by_cases hne : d.past = []
  ·
    rw [if_pos hne]
    have hts : ts = [] := by rw [hne] at hps; cases ts with
      | nil => rfl
      | cons x r => simp [plcs] at hps
    subst hts
    obtain rfl : n3 = 0 := hn3
    rw [hne]
    have hd := hide h
    clear hps hsl hrw
    have hb := hide (show Below w.heap.size w ((w.alloc (.cells #[.slice A n c, .int .i64 d.now.step, .slice A2 n2 c2, .slice A3 0 c3] 34)).alloc (.cells #[.slice none 0 0, .int .i64 0, .slice none 0 0, .slice none 0 0] 34)) from (al w _).alloc (by simp) _)
    have ta := hide (show QuaW ((w.alloc (.cells #[.slice A n c, .int .i64 d.now.step, .slice A2 n2 c2, .slice A3 0 c3] 34)).alloc (.cells #[.slice none 0 0, .int .i64 0, .slice none 0 0, .slice none 0 0] 34)) w.heap.size (.slice A n c) (.int .i64 d.now.step) (.slice A2 n2 c2) (.slice A3 0 c3) from (QuaW.made w _ _ _ _ _).alloc _)
    have tr := hide (show QuaW ((w.alloc (.cells #[.slice A n c, .int .i64 d.now.step, .slice A2 n2 c2, .slice A3 0 c3] 34)).alloc (.cells #[.slice none 0 0, .int .i64 0, .slice none 0 0, .slice none 0 0] 34)) (w.heap.size + 1) (.slice none 0 0) (.int .i64 0) (.slice none 0 0) (.slice none 0 0) from by have := QuaW.made (w.alloc (.cells #[.slice A n c, .int .i64 d.now.step, .slice A2 n2 c2, .slice A3 0 c3] 34)) (.slice none 0 0) (.int .i64 0) (.slice none 0 0) (.slice none 0 0) 34; simpa using this)
    have gr := hide (show DTag ((w.alloc (.cells #[.slice A n c, .int .i64 d.now.step, .slice A2 n2 c2, .slice A3 0 c3] 34)).alloc (.cells #[.slice none 0 0, .int .i64 0, .slice none 0 0, .slice none 0 0] 34)) (w.heap.size + 1) from by have := DTag.made (w.alloc (.cells #[.slice A n c, .int .i64 d.now.step, .slice A2 n2 c2, .slice A3 0 c3] 34)) #[.slice none 0 0, .int .i64 0, .slice none 0 0, .slice none 0 0]; simpa using this)
    have hdk := hide (hd.out.up ((al w (.cells #[.slice A n c, .int .i64 d.now.step, .slice A2 n2 c2, .slice A3 0 c3] 34)).alloc (by simp) (.cells #[.slice none 0 0, .int .i64 0, .slice none 0 0, .slice none 0 0] 34)))
    go_enter Tryd.func87, Tryd.ntmps87
    obtain ⟨q1c0, q1c1, q1c2, q1c3, q1f0, q1f1, q1f2, q1f3, _⟩ := ta.out
    obtain ⟨q2c0, q2c1, q2c2, q2c3, q2f0, q2f1, q2f2, q2f3, _⟩ := tr.out
    go_wp2_with fail
    have hk := hide (show DkR ((w.alloc (.cells #[.slice A n c, .int .i64 d.now.step, .slice A2 n2 c2, .slice A3 0 c3] 34)).alloc (.cells #[.slice A n c, .int .i64 d.now.step, .slice A2 n2 c2, .slice A3 0 c3] 34)) lo (.agg #[.slice A n c, .int .i64 d.now.step, .slice A2 n2 c2, .slice A3 0 c3]) d from (hd.out.up (al w _)).up (al _ _))
    exact bodyPost_ret (v := .tuple #[.agg #[.slice A n c, .int .i64 d.now.step, .slice A2 n2 c2, .slice A3 0 c3], .bool false]) (by simp [results, Tryd.results87, go_sem]) rfl ⟨_, rfl, hk.out, (al w _).alloc (by simp) _⟩
  ·
    rw [if_neg hne]
    have hpos := hide (List.length_pos_iff.2 hne)
    have hpl := plcs_len ts
    rw [hps] at hpl
    obtain ⟨L, rfl⟩ : ∃ L, n3 = L + 1 := ⟨n3 - 1, by have := hpos.out; omega⟩
    have hL : L < ts.length := by omega
    have hgt := List.getElem?_eq_getElem hL
    have hok := hrw.one _ (List.mem_cons_of_mem _ (List.mem_of_getElem? hgt))
    obtain ⟨B1, m1, e1, B2, m2, e2, hsh⟩ := hok.shape
    obtain ⟨p, hpe⟩ : ∃ p, (ts[L]).2.2 = p := ⟨_, rfl⟩
    rw [hpe] at hsh
    rw [hsh] at hgt hok
    obtain ⟨c0, c1', c2'⟩ := cellsT_at hgt
    obtain ⟨g, off, rfl, hg, hgl, k0, _⟩ := hsl.at c0
    obtain ⟨g', off', eA, _, _, k1, _⟩ := hsl.at c1'
    obtain ⟨g'', off'', eA2, _, _, k2, _⟩ := hsl.at c2'
    injection eA with eA
    injection eA with eA eA'
    injection eA2 with eA2
    injection eA2 with eA2 eA2'
    subst eA; subst eA'; subst eA2; subst eA2'
    have hlast : d.past.getLast?.getD noPlc = p := by
      rw [← hps, List.getLast?_eq_getElem?, plcs_len, show ts.length - 1 = L by omega]
      unfold plcs
      rw [List.getElem?_map, hgt]
      rfl
    have hdrop : d.past.dropLast = plcs (ts.take L) := by
      rw [← hps, List.dropLast_eq_take, plcs_len, show ts.length - 1 = L by omega]
      unfold plcs
      rw [List.map_take]
    have hemp : (!d.past.isEmpty) = true := by
      cases hc : d.past with
      | nil => exact absurd hc hne
      | cons x r => rfl
    rw [hlast, hdrop, hemp]
    have hsub : ((.slice B1 m1 e1, .slice B2 m2 e2, p) :: ts.take L : List Trp).Pairwise ApT := by
      have h2 := (List.pairwise_cons.1 hrw.two).2
      refine List.pairwise_cons.2 ⟨fun s hs => ?_, h2.sublist (List.take_sublist _ _)⟩
      obtain ⟨i, hi, rfl⟩ := List.getElem_of_mem hs
      have hiL : i < L := by rw [List.length_take] at hi; omega
      have := List.pairwise_iff_getElem.1 h2 i L (by omega) hL hiL
      rw [List.getElem_take]
      have e : ts[L] = (.slice B1 m1 e1, .slice B2 m2 e2, p) := hsh
      rw [e] at this
      exact this.symm
    have hrw2 := hide (show RowsT w lo ((.slice B1 m1 e1, .slice B2 m2 e2, p) :: ts.take L) from ⟨fun t ht => by
      rcases List.mem_cons.1 ht with e | ht
      · rw [e]; exact hok
      · exact hrw.one t (List.mem_cons_of_mem _ (List.mem_of_mem_take ht)), hsub⟩)
    have hsl2 := hide (show SlO w lo (some ⟨g, off, none⟩) L L (cellsT (ts.take L)) by rw [cellsT_take]; exact hsl.cut (by omega))
    have hdk := hide (show DkR w lo (.agg #[.slice B1 m1 e1, .int .i64 p.step, .slice B2 m2 e2, .slice (some ⟨g, off, none⟩) L L]) ⟨p, plcs (ts.take L)⟩ from dkR_mk (hrw2.out.one _ List.mem_cons_self) rfl (by rw [List.length_take]; omega) hsl2.out hrw2.out rfl)
    have hcl := hide (clip_c (some ⟨g, off, none⟩) L c3 (by have := hle.out; omega) hbig.out)
    have hle2 := hle.out
    have hLb : L ≤ 1000 := by omega
    have hwr : IntKind.i64.wrap (L : Int) = L := IntWalk.i64_in _ (by omega)
    clear hrw2 hsl2 hsub hok hsh hpe c0 c1' c2' hsl hrw hlast hdrop hemp hps hn3 hpl hgt hL hne h
    have hb := hide (show Below w.heap.size w ((w.alloc (.cells #[.slice A n c, .int .i64 d.now.step, .slice A2 n2 c2, .slice (some ⟨g, off, none⟩) (L + 1) c3] 34)).alloc (.cells #[.slice none 0 0, .int .i64 0, .slice none 0 0, .slice none 0 0] 34)) from (al w _).alloc (by simp) _)
    have ta := hide (show QuaW ((w.alloc (.cells #[.slice A n c, .int .i64 d.now.step, .slice A2 n2 c2, .slice (some ⟨g, off, none⟩) (L + 1) c3] 34)).alloc (.cells #[.slice none 0 0, .int .i64 0, .slice none 0 0, .slice none 0 0] 34)) w.heap.size (.slice A n c) (.int .i64 d.now.step) (.slice A2 n2 c2) (.slice (some ⟨g, off, none⟩) (L + 1) c3) from (QuaW.made w _ _ _ _ _).alloc _)
    have tr := hide (show QuaW ((w.alloc (.cells #[.slice A n c, .int .i64 d.now.step, .slice A2 n2 c2, .slice (some ⟨g, off, none⟩) (L + 1) c3] 34)).alloc (.cells #[.slice none 0 0, .int .i64 0, .slice none 0 0, .slice none 0 0] 34)) (w.heap.size + 1) (.slice none 0 0) (.int .i64 0) (.slice none 0 0) (.slice none 0 0) from by have := QuaW.made (w.alloc (.cells #[.slice A n c, .int .i64 d.now.step, .slice A2 n2 c2, .slice (some ⟨g, off, none⟩) (L + 1) c3] 34)) (.slice none 0 0) (.int .i64 0) (.slice none 0 0) (.slice none 0 0) 34; simpa using this)
    have gr := hide (show DTag ((w.alloc (.cells #[.slice A n c, .int .i64 d.now.step, .slice A2 n2 c2, .slice (some ⟨g, off, none⟩) (L + 1) c3] 34)).alloc (.cells #[.slice none 0 0, .int .i64 0, .slice none 0 0, .slice none 0 0] 34)) (w.heap.size + 1) from by have := DTag.made (w.alloc (.cells #[.slice A n c, .int .i64 d.now.step, .slice A2 n2 c2, .slice (some ⟨g, off, none⟩) (L + 1) c3] 34)) #[.slice none 0 0, .int .i64 0, .slice none 0 0, .slice none 0 0]; simpa using this)
    have m5 := hide (show ((w.alloc (.cells #[.slice A n c, .int .i64 d.now.step, .slice A2 n2 c2, .slice (some ⟨g, off, none⟩) (L + 1) c3] 34)).alloc (.cells #[.slice none 0 0, .int .i64 0, .slice none 0 0, .slice none 0 0] 34)).cell? ⟨g, off + L * 3, none⟩ = some (.slice B1 m1 e1) from (hb.out.cell (p := ⟨g, off + L * 3, none⟩) hgl).trans k0)
    have m6 := hide (show ((w.alloc (.cells #[.slice A n c, .int .i64 d.now.step, .slice A2 n2 c2, .slice (some ⟨g, off, none⟩) (L + 1) c3] 34)).alloc (.cells #[.slice none 0 0, .int .i64 0, .slice none 0 0, .slice none 0 0] 34)).cell? ⟨g, off + (L * 3 + 1), none⟩ = some (.int .i64 p.step) from (hb.out.cell (p := ⟨g, off + (L * 3 + 1), none⟩) hgl).trans k1)
    have m7 := hide (show ((w.alloc (.cells #[.slice A n c, .int .i64 d.now.step, .slice A2 n2 c2, .slice (some ⟨g, off, none⟩) (L + 1) c3] 34)).alloc (.cells #[.slice none 0 0, .int .i64 0, .slice none 0 0, .slice none 0 0] 34)).cell? ⟨g, off + (L * 3 + 2), none⟩ = some (.slice B2 m2 e2) from (hb.out.cell (p := ⟨g, off + (L * 3 + 2), none⟩) hgl).trans k2)
    replace m6 := hide (show ((w.alloc (.cells #[.slice A n c, .int .i64 d.now.step, .slice A2 n2 c2, .slice (some ⟨g, off, none⟩) (L + 1) c3] 34)).alloc (.cells #[.slice none 0 0, .int .i64 0, .slice none 0 0, .slice none 0 0] 34)).cell? ⟨g, off + L * 3 + 1, none⟩ = some (.int .i64 p.step) by rw [Nat.add_assoc]; exact m6.out)
    replace m7 := hide (show ((w.alloc (.cells #[.slice A n c, .int .i64 d.now.step, .slice A2 n2 c2, .slice (some ⟨g, off, none⟩) (L + 1) c3] 34)).alloc (.cells #[.slice none 0 0, .int .i64 0, .slice none 0 0, .slice none 0 0] 34)).cell? ⟨g, off + L * 3 + 2, none⟩ = some (.slice B2 m2 e2) by rw [Nat.add_assoc]; exact m7.out)
    have n5 := m5.out
    have n6 := m6.out
    have n7 := m7.out
    go_enter Tryd.func87, Tryd.ntmps87
    obtain ⟨q3c0, q3c1, q3c2, q3c3, q3f0, q3f1, q3f2, q3f3, _⟩ := ta.out
    obtain ⟨q4c0, q4c1, q4c2, q4c3, q4f0, q4f1, q4f2, q4f3, _⟩ := tr.out
    go_wp2_with fail
    clear n5 n6 n7 q3c0 q3c1 q3c2 q3c3 q3f0 q3f1 q3f2 q3f3 q4c0 q4c1 q4c2 q4c3 q4f0 q4f1 q4f2 q4f3
    obtain ⟨WX, hWX⟩ : ∃ W, Hid (((w.alloc (.cells #[.slice A n c, .int .i64 d.now.step, .slice A2 n2 c2, .slice (some ⟨g, off, none⟩) (L + 1) c3] 34)).alloc (.cells #[.slice none 0 0, .int .i64 0, .slice none 0 0, .slice none 0 0] 34)) = W) := ⟨_, hide rfl⟩
    have hdk2 := hide ((hdk.out.up (al w (.cells #[.slice A n c, .int .i64 d.now.step, .slice A2 n2 c2, .slice (some ⟨g, off, none⟩) (L + 1) c3] 34))).up (al _ (.cells #[.slice none 0 0, .int .i64 0, .slice none 0 0, .slice none 0 0] 34)))
    rw [hWX.out] at ta tr gr hb m5 m6 m7 hdk2 ⊢
    clear hWX
    obtain ⟨a0, a1, a2, a3, _⟩ := ta.out
    have n5 := m5.out
    have n6 := m6.out
    have n7 := m7.out
    have hl1 : (L : Int) < (L : Int) + 1 := by omega
    have hl2 : (L : Int) ≤ (c3 : Int) := by omega
    have hl3 : ¬ ((L : Int) < 0) := by omega
    have hl4 : L ≤ c3 := by omega
    refine wp_region_still_tail 11 (by kernel_rfl) (by kernel_rfl) ?_
    simp only [List.take_succ_cons, List.take_zero, List.drop_succ_cons, List.drop_zero]
    repeat still_step
    still_call (hcl.out _)
    repeat still_step
    refine wpStill_nil ?_
    obtain ⟨y0, y1, y2, y3, f0, f1, f2, f3, _⟩ := tr.out
    go_wp2_with fail
    obtain ⟨z0, z1, z2, z3, _⟩ := ((((tr.out.set0 (.slice B1 m1 e1)).set1 (.int .i64 p.step)).set2 (.slice B2 m2 e2)).set3 (.slice (some ⟨g, off, none⟩) L L)).drew
    exact bodyPost_ret (v := .tuple #[.agg #[.slice B1 m1 e1, .int .i64 p.step, .slice B2 m2 e2, .slice (some ⟨g, off, none⟩) L L], .bool true]) (by simp [results, Tryd.results87, go_sem, z0, z1, z2, z3]) rfl ⟨_, rfl, (hdk2.out.set4 gr.out _ _ _ _).up (Below.refl _ _).drew, ((((hb.out.setCell (Nat.le_succ _) _).setCell (Nat.le_succ _) _).setCell (Nat.le_succ _) _).setCell (Nat.le_succ _) _).drew⟩
end Go.Proofs.YtoafpokcbbncfaaDoor

namespace Go.Proofs.YtoafpokcbbncfaaDoor
open Go.RowKit
set_option linter.unusedVariables false

set_option maxRecDepth 100000 in
theorem samePlaceI_c (v v' : Value) (p q : Plc) (B B' : Nat) (w : World) (h : PlM w B v p) (h' : PlM w B' v' q) (hB : B ≤ w.heap.size) (hB' : B' ≤ w.heap.size) :
    Calls Tryd.prog 116 #[v, v'] w fun e w' => e = .returned (.bool (sameP p q)) ∧ Below w.heap.size w w' := by
  obtain ⟨A, n, c, A', n', c', rfl, i1, i2, hwf⟩ := h.ex
  obtain ⟨D, m, d, D', m', d', rfl, k1, k2, hwf'⟩ := h'.ex
  obtain ⟨ps, pz, pw⟩ := p
  obtain ⟨qs, qz, qw⟩ := q
  show Calls Tryd.prog 116 #[.agg #[.slice A n c, .int .i64 pz, .slice A' n' c'], .agg #[.slice D m d, .int .i64 qz, .slice D' m' d']] w _
  have i1 : Ints w B A n c ps := i1
  have i2 : Ints w B A' n' c' pw := i2
  have k1 : Ints w B' D m d qs := k1
  have k2 : Ints w B' D' m' d' qw := k2
  have hq0 := hide (show Below w.heap.size w ((w.alloc (.cells #[.slice A n c, .int .i64 pz, .slice A' n' c'] 31)).alloc (.cells #[.slice D m d, .int .i64 qz, .slice D' m' d'] 31)) from (al w _).alloc (by simp) _)
  have ht := hide (show Tri ((w.alloc (.cells #[.slice A n c, .int .i64 pz, .slice A' n' c'] 31)).alloc (.cells #[.slice D m d, .int .i64 qz, .slice D' m' d'] 31)) w.heap.size (.slice A n c) (.int .i64 pz) (.slice A' n' c') from (Tri.made w _ _ _ _).up (al _ _))
  have hu := hide (show Tri ((w.alloc (.cells #[.slice A n c, .int .i64 pz, .slice A' n' c'] 31)).alloc (.cells #[.slice D m d, .int .i64 qz, .slice D' m' d'] 31)) (w.heap.size + 1) (.slice D m d) (.int .i64 qz) (.slice D' m' d') from by have := Tri.made (w.alloc (.cells #[.slice A n c, .int .i64 pz, .slice A' n' c'] 31)) (.slice D m d) (.int .i64 qz) (.slice D' m' d') 31; simpa using this)
  obtain ⟨WX, hW0⟩ : ∃ WX, Hid (((w.alloc (.cells #[.slice A n c, .int .i64 pz, .slice A' n' c'] 31)).alloc (.cells #[.slice D m d, .int .i64 qz, .slice D' m' d'] 31)) = WX) := ⟨_, hide rfl⟩
  rw [hW0.out] at hq0 ht hu
  have j1 := hide ((i1.more hB).up hq0.out)
  have j2 := hide ((i2.more hB).up hq0.out)
  have l1 := hide ((k1.more hB').up hq0.out)
  have l2 := hide ((k2.more hB').up hq0.out)
  have HA := hide (quietB (equal_c A D n c _ m d _ ps qs WX j1.out l1.out))
  have HB := hide (fun (W : World) (hq : Below WX.heap.size WX W) => quietB (equal_c A' D' n' c' _ m' d' _ pw qw W (j2.out.up hq) (l2.out.up hq)))
  obtain ⟨t0, t1, t2, _⟩ := ht.out
  obtain ⟨u0, u1, u2, _⟩ := hu.out
  have he := hide (show sameP ⟨ps, pz, pw⟩ ⟨qs, qz, qw⟩ = (sameL ps qs && decide (pz = qz) && sameL pw qw) from rfl)
  obtain ⟨X, hX⟩ : ∃ X, Hid (sameL ps qs = X) := ⟨_, hide rfl⟩
  obtain ⟨Y, hY⟩ : ∃ Y, Hid (sameL pw qw = Y) := ⟨_, hide rfl⟩
  rw [hX.out] at HA he
  rw [hY.out] at HB he
  clear hX hY
  have hW1 := hW0.out
  subst hW1
  by_cases hst : pz = qz
  · rw [decide_eq_true hst, Bool.and_true] at he
    subst hst
    go_enter Tryd.func116, Tryd.ntmps116
    go_wp2_with fail
    refine HA.out.mono ?_
    rintro e w2 ⟨rfl, hq⟩
    have hb := hide (upB hq0.out hq)
    replace HB := hide (HB.out _ hq)
    obtain ⟨a0, a1, a2, _⟩ := ht.out.up hq
    obtain ⟨b0, b1, b2, _⟩ := hu.out.up hq
    cases X with
    | false =>
      go_wp2_with fail
      go_ret
      exact ⟨ret_bool he.out.symm, hb.out⟩
    | true =>
      go_wp2_with fail
      refine HB.out.mono ?_
      rintro e w3 ⟨rfl, hq3⟩
      have hb3 := hide (upB hb.out hq3)
      cases Y with
      | false =>
        go_wp2_with fail
        go_ret
        exact ⟨ret_bool he.out.symm, hb3.out⟩
      | true =>
        go_wp2_with fail
        go_ret
        exact ⟨ret_bool he.out.symm, hb3.out⟩
  · rw [decide_eq_false hst, Bool.and_false, Bool.false_and] at he
    go_enter Tryd.func116, Tryd.ntmps116
    go_wp2_with fail
    go_ret
    exact ⟨ret_bool he.out.symm, hq0.out⟩


/-- What a deed other than the way back makes of a place, and whether it can be done. -/
def afterP (p : Plc) (q : Ded) : Plc :=
  if (q.k = 0 ∨ q.k = 1) ∧ p.word ≠ [] then noPlc
  else if q.k = 0 then ⟨putL p.start q.a q.b, p.step, p.word⟩
  else if q.k = 1 then ⟨p.start, q.a, p.word⟩
  else if q.k = 2 then ⟨p.start, p.step, p.word ++ [q.a]⟩
  else ⟨p.start, p.step, []⟩
def afterB (p : Plc) (q : Ded) : Bool := placeOk (afterP p q) && !sameP p (afterP p q)
theorem sameP_iff {p q : Plc} : sameP p q = true ↔ p = q := by
  unfold sameP sameL
  obtain ⟨a, b, c⟩ := p
  obtain ⟨a', b', c'⟩ := q
  simp [Plc.mk.injEq, and_assoc]
theorem after_new {p : Plc} {q : Ded} (hp : placeOk p = true) (h0 : 0 ≤ q.k) (h3 : q.k ≤ 3) (hb : q.k ≠ 0 → q.b = 0) (ha : q.k = 3 → q.a = 0) : afterP p q = madeP p q ∧ afterB p q = (placeOk (madeP p q) && decide (placeT (madeP p q) ≠ placeT p)) := by
  have e : afterP p q = madeP p q := by
    unfold afterP madeP
    obtain ⟨k, a, b⟩ := q
    simp only at h0 h3 hb ha ⊢
    rcases (show k = 0 ∨ k = 1 ∨ k = 2 ∨ k = 3 by omega) with rfl | rfl | rfl | rfl
    · by_cases hw : p.word = [] <;> simp [hw]
    · have := hb (by omega)
      subst this
      by_cases hw : p.word = [] <;> simp [hw]
    · have := hb (by omega)
      subst this
      simp
    · have := hb (by omega)
      subst this
      have := ha rfl
      subst this
      simp
  refine ⟨e, ?_⟩
  unfold afterB
  rw [e]
  cases hok : placeOk (madeP p q) with
  | false => rfl
  | true =>
    rw [Bool.true_and, Bool.true_and]
    by_cases hs : p = madeP p q
    · rw [sameP_iff.2 hs, ← hs]
      simp
    · have h1 : sameP p (madeP p q) = false := by
        cases hx : sameP p (madeP p q) with
        | false => rfl
        | true => exact absurd (sameP_iff.1 hx) hs
      rw [h1]
      exact (decide_eq_true (p := placeT (madeP p q) ≠ placeT p) (fun e => hs (placeT_inj hp e.symm))).symm
/-- A block of a place stands with its tag. -/
structure PTag (w : World) (g : Nat) : Prop where
  ob : ∃ cs, w.heap[g]? = some (.cells cs 31 (0, 0))
theorem PTag.lt {w : World} {g : Nat} (h : PTag w g) : g < w.heap.size := by
  obtain ⟨cs, e⟩ := h.ob
  exact (Array.getElem?_eq_some_iff.1 e).1
theorem PTag.up {w w' : World} {g : Nat} (h : PTag w g) (hq : Below w.heap.size w w') : PTag w' g := by
  obtain ⟨cs, e⟩ := h.ob
  exact ⟨cs, (hq.block g h.lt).trans e⟩
theorem PTag.made (w : World) (cs : Array Value) : PTag (w.alloc (.cells cs 31)) w.heap.size := ⟨cs, by show (w.heap.push _)[w.heap.size]? = _; simp⟩
/-- A store into a block of a place leaves rows as they are. -/
theorem GrP.setP {w : World} {g : Nat} (h : PTag w g) (i : Nat) (x : Value) : GrP 0 w (w.setCell ⟨g, i, none⟩ x) := by
  obtain ⟨cs, e⟩ := h.ob
  exact .of_grown (grown_set w g i x) fun k hk => by
    injection hk with hk
    subst hk
    exact ⟨Nat.zero_le _, cs, e⟩

theorem plQ_mk {w : World} {lo : Nat} {A A' : Option Addr} {n c n' c' : Nat} {p : Plc} {z : Int} (h1 : Own w lo (.slice A n c) p.start) (h2 : Own w lo (.slice A' n' c') p.word) (hne : Ap (.slice A n c) (.slice A' n' c')) (hz : z = p.step) (hw : (Lit.int .i64 p.step).wf = true) : PlQ w lo (.agg #[.slice A n c, .int .i64 z, .slice A' n' c']) p := by
  subst hz
  exact ⟨A, n, c, A', n', c', rfl, h1, h2, hne.or, hw⟩
theorem PTag.set {w : World} {g : Nat} (h : PTag w g) (i : Nat) (x : Value) : PTag (w.setCell ⟨g, i, none⟩ x) g := by
  obtain ⟨cs, e⟩ := h.ob
  exact ⟨_, heap_setCell_same w g i cs _ x e⟩
theorem PTag.at {w : World} {g b i : Nat} (h : PTag w g) (x : Value) : PTag (w.setCell ⟨b, i, none⟩ x) g := by
  by_cases hg : g = b
  · subst hg; exact h.set i x
  · obtain ⟨cs, e⟩ := h.ob
    exact ⟨cs, (heap_setCell_other w ⟨b, i, none⟩ g x hg).trans e⟩
theorem PTag.grown {w w' : World} {g : Nat} {row : Option Nat} (h : PTag w g) (hg : w.grownBy w' row) (hne : ∀ k, row = some k → k ≠ g) : PTag w' g := by
  obtain ⟨cs, e⟩ := h.ob
  exact ⟨cs, (hg.block g h.lt (fun e => hne g e.symm rfl)).trans e⟩
theorem set3_plQ {w : World} {lo g : Nat} {v : Value} {p : Plc} (h : PlQ w lo v p) (hg : PTag w g) (x y z : Value) : PlQ (((w.setCell ⟨g, 0, none⟩ x).setCell ⟨g, 1, none⟩ y).setCell ⟨g, 2, none⟩ z) lo v p :=
  ((h.gr (GrP.setP hg 0 x)).gr (GrP.setP (hg.set 0 x) 1 y)).gr (GrP.setP ((hg.set 0 x).set 1 y) 2 z)

end Go.Proofs.YtoafpokcbbncfaaDoor

namespace Go.Proofs.YtoafpokcbbncfaaDoor
open Go.RowKit
set_option linter.unusedVariables false

set_option maxRecDepth 100000 in
set_option maxHeartbeats 3200000 in
theorem placeAfter0_c (v : Value) (p : Plc) (a b : Int) (B : Nat) (w : World) (h : PlM w B v p) (hB : B ≤ w.heap.size) (hs1 : p.start.length ≤ 1048576) (hs2 : p.word.length ≤ 1048576) (hwa : (Lit.int .i64 a).wf = true) (hwb : (Lit.int .i64 b).wf = true) :
    Calls Tryd.prog 88 #[v, .agg #[.int .i64 0, .int .i64 a, .int .i64 b]] w fun e w' => ∃ u, e = .returned (.tuple #[u, .bool (afterB p ⟨0, a, b⟩)]) ∧ PlQ w' w.heap.size u (afterP p ⟨0, a, b⟩) ∧ Below w.heap.size w w' := by
  obtain ⟨A, n, c, A2, n2, c2, rfl, i1, i2, hwf⟩ := h.ex
  have hl1 := hide i1.len
  have hl2 := hide i2.len
  obtain ⟨i0, hi, hz0, hz1, hz2⟩ := info_parts infoInt
  have hb := hide (show Below w.heap.size w (((w.alloc (.cells #[.slice A n c, .int .i64 p.step, .slice A2 n2 c2] 31)).alloc (.cells #[.int .i64 0, .int .i64 a, .int .i64 b] 38)).alloc (.cells #[.slice none 0 0, .int .i64 0, .slice none 0 0] 31)) from ((al w _).alloc (by simp) _).alloc (by simp; omega) _)
  have ta := hide (show TriW (((w.alloc (.cells #[.slice A n c, .int .i64 p.step, .slice A2 n2 c2] 31)).alloc (.cells #[.int .i64 0, .int .i64 a, .int .i64 b] 38)).alloc (.cells #[.slice none 0 0, .int .i64 0, .slice none 0 0] 31)) w.heap.size (.slice A n c) (.int .i64 p.step) (.slice A2 n2 c2) from ((TriW.made w _ _ _ _).alloc _).alloc _)
  have tb := hide (show TriW (((w.alloc (.cells #[.slice A n c, .int .i64 p.step, .slice A2 n2 c2] 31)).alloc (.cells #[.int .i64 0, .int .i64 a, .int .i64 b] 38)).alloc (.cells #[.slice none 0 0, .int .i64 0, .slice none 0 0] 31)) (w.heap.size + 1) (.int .i64 0) (.int .i64 a) (.int .i64 b) from by have := (TriW.made (w.alloc (.cells #[.slice A n c, .int .i64 p.step, .slice A2 n2 c2] 31)) (.int .i64 0) (.int .i64 a) (.int .i64 b) 38).alloc (.cells #[.slice none 0 0, .int .i64 0, .slice none 0 0] 31); simpa using this)
  have tc := hide (show TriW (((w.alloc (.cells #[.slice A n c, .int .i64 p.step, .slice A2 n2 c2] 31)).alloc (.cells #[.int .i64 0, .int .i64 a, .int .i64 b] 38)).alloc (.cells #[.slice none 0 0, .int .i64 0, .slice none 0 0] 31)) (w.heap.size + 1 + 1) (.slice none 0 0) (.int .i64 0) (.slice none 0 0) from by have := TriW.made ((w.alloc (.cells #[.slice A n c, .int .i64 p.step, .slice A2 n2 c2] 31)).alloc (.cells #[.int .i64 0, .int .i64 a, .int .i64 b] 38)) (.slice none 0 0) (.int .i64 0) (.slice none 0 0) 31; simpa using this)
  have hlt := hide (show w.heap.size + 1 + 1 + 1 ≤ (((w.alloc (.cells #[.slice A n c, .int .i64 p.step, .slice A2 n2 c2] 31)).alloc (.cells #[.int .i64 0, .int .i64 a, .int .i64 b] 38)).alloc (.cells #[.slice none 0 0, .int .i64 0, .slice none 0 0] 31)).heap.size by simp)
  have hgt := hide (show PTag (((w.alloc (.cells #[.slice A n c, .int .i64 p.step, .slice A2 n2 c2] 31)).alloc (.cells #[.int .i64 0, .int .i64 a, .int .i64 b] 38)).alloc (.cells #[.slice none 0 0, .int .i64 0, .slice none 0 0] 31)) (w.heap.size + 1 + 1) from by have := PTag.made ((w.alloc (.cells #[.slice A n c, .int .i64 p.step, .slice A2 n2 c2] 31)).alloc (.cells #[.int .i64 0, .int .i64 a, .int .i64 b] 38)) #[.slice none 0 0, .int .i64 0, .slice none 0 0]; simpa using this)
  by_cases hw : p.word = []
  ·
    have hn2 : n2 = 0 := by have := hl2.out; rw [hw] at this; exact this.symm
    subst hn2
    have eP := hide (show afterP p ⟨0, a, b⟩ = ⟨putL p.start a b, p.step, p.word⟩ by unfold afterP; rw [if_neg (fun e => e.2 hw), if_pos rfl])
    obtain ⟨R, hR⟩ : ∃ R, Hid (afterP p ⟨0, a, b⟩ = R) := ⟨_, hide rfl⟩
    have eB := hide (show afterB p ⟨0, a, b⟩ = (placeOk R && !sameP p R) by unfold afterB; rw [hR.out])
    obtain ⟨VA, hVA⟩ : ∃ V, Hid (placeOk R = V) := ⟨_, hide rfl⟩
    obtain ⟨VB, hVB⟩ : ∃ V, Hid (sameP p R = V) := ⟨_, hide rfl⟩
    rw [hVA.out, hVB.out] at eB
    rw [hR.out] at eP ⊢
    rw [eB.out]
    clear eB hR
    go_enter Tryd.func88, Tryd.ntmps88
    obtain ⟨q1c0, q1c1, q1c2, q1f0, q1f1, q1f2, _⟩ := ta.out
    obtain ⟨q2c0, q2c1, q2c2, q2f0, q2f1, q2f2, _⟩ := tb.out
    obtain ⟨q3c0, q3c1, q3c2, q3f0, q3f1, q3f2, _⟩ := tc.out
    go_wp2_with fail
    refine (copiedPlace_c _ p _ _ (plM_mk ((i1.more hB).up hb.out) ((i2.more hB).up hb.out) hwf) (Nat.le_refl _) (by omega) (by omega)).mono ?_
    rintro e w1 ⟨u, rfl, hu, hq⟩
    replace hgt := hide (hgt.out.up hq)
    replace ta := hide (ta.out.up hq)
    replace tb := hide (tb.out.up hq)
    replace tc := hide (tc.out.up hq)
    replace hb := hide (upB hb.out hq)
    clear hq
    obtain ⟨A4, n4, c4, A5, n5, c5, rfl, o1, o2, hne, hwf4⟩ := hu.ex
    clear hu
    have hlt1 := hide (show w.heap.size + 1 + 1 + 1 ≤ w1.heap.size from by have := tc.out.lt; omega)
    have hoS := hide (o1.down (base' := w.heap.size + 1 + 1 + 1) (by simp))
    have hoD := hide (o2.down (base' := w.heap.size + 1 + 1 + 1) (by simp))
    clear o1 o2
    have hne := hide (ap_of hne)
    have hn4 := hide hoS.out.len
    have hn5 := hide hoD.out.len
    have hoD1 := hoD
    have hoS1 := hoS
    replace hgt := hide (hgt.out.up (al w1 (.cells #[.slice A4 n4 c4, .int .i64 p.step, .slice A5 n5 c5] 31)))
    replace hoS := hide (hoS.out.up (al w1 (.cells #[.slice A4 n4 c4, .int .i64 p.step, .slice A5 n5 c5] 31)))
    replace hoD := hide (hoD.out.up (al w1 (.cells #[.slice A4 n4 c4, .int .i64 p.step, .slice A5 n5 c5] 31)))
    replace ta := hide (ta.out.up (al w1 (.cells #[.slice A4 n4 c4, .int .i64 p.step, .slice A5 n5 c5] 31)))
    replace tb := hide (tb.out.up (al w1 (.cells #[.slice A4 n4 c4, .int .i64 p.step, .slice A5 n5 c5] 31)))
    replace tc := hide (tc.out.up (al w1 (.cells #[.slice A4 n4 c4, .int .i64 p.step, .slice A5 n5 c5] 31)))
    replace hb := hide (upB hb.out (al w1 (.cells #[.slice A4 n4 c4, .int .i64 p.step, .slice A5 n5 c5] 31)))
    have t7 := hide (TriW.made w1 (.slice A4 n4 c4) (.int .i64 p.step) (.slice A5 n5 c5) 31)
    have g7 := hide (PTag.made w1 #[.slice A4 n4 c4, .int .i64 p.step, .slice A5 n5 c5])
    have hb7 := hide (show w.heap.size + 1 + 1 + 1 ≤ w1.heap.size from hlt1.out)
    have hoDz := hide hoD.out
    clear q1c0 q1c1 q1c2 q1f0 q1f1 q1f2 q2c0 q2c1 q2c2 q2f0 q2f1 q2f2 q3c0 q3c1 q3c2 q3f0 q3f1 q3f2
    obtain ⟨q4c0, q4c1, q4c2, q4f0, q4f1, q4f2, _⟩ := ta.out
    obtain ⟨q5c0, q5c1, q5c2, q5f0, q5f1, q5f2, _⟩ := tb.out
    obtain ⟨q6c0, q6c1, q6c2, q6f0, q6f1, q6f2, _⟩ := tc.out
    obtain ⟨q7c0, q7c1, q7c2, q7f0, q7f1, q7f2, _⟩ := t7.out
    go_wp2_with fail
    refine (putIn_impl A n c B p.start a b _ (i1.below (hb.out.mono hB)) (by have := hb.out.size; omega) hwb).mono ?_
    rintro e w2 ⟨A6, n6, c6, rfl, ho6, hq⟩
    replace hoS := hide (hoS.out.up hq)
    replace hoD := hide (hoD.out.up hq)
    replace g7 := hide (g7.out.up hq)
    replace hgt := hide (hgt.out.up hq)
    replace ta := hide (ta.out.up hq)
    replace tb := hide (tb.out.up hq)
    replace tc := hide (tc.out.up hq)
    replace t7 := hide (t7.out.up hq)
    replace hb := hide (upB hb.out hq)
    clear hq
    have hap := hide (ap_of (apart_old ho6 hoDz.out (Nat.le_refl _)))
    have hs7 := hide t7.out.lt
    replace ho6 := hide (ho6.down (base' := w.heap.size) (by have := hb7.out; simp; omega))
    clear hoDz
    clear q4c0 q4c1 q4c2 q4f0 q4f1 q4f2 q5c0 q5c1 q5c2 q5f0 q5f1 q5f2 q6c0 q6c1 q6c2 q6f0 q6f1 q6f2 q7c0 q7c1 q7c2 q7f0 q7f1 q7f2
    obtain ⟨q8c0, q8c1, q8c2, q8f0, q8f1, q8f2, _⟩ := ta.out
    obtain ⟨q9c0, q9c1, q9c2, q9f0, q9f1, q9f2, _⟩ := tb.out
    obtain ⟨q10c0, q10c1, q10c2, q10f0, q10f1, q10f2, _⟩ := tc.out
    obtain ⟨q11c0, q11c1, q11c2, q11f0, q11f1, q11f2, _⟩ := t7.out
    go_wp2_with fail
    have hgs := hide (GrP.setP g7.out 0 (.slice A6 n6 c6))
    replace t7 := hide (t7.out.set0 (.slice A6 n6 c6))
    replace ta := hide (ta.out.other (a := ⟨w1.heap.size, 0, none⟩) (by have := hb7.out; simp only; omega) (.slice A6 n6 c6))
    replace tc := hide (tc.out.other (a := ⟨w1.heap.size, 0, none⟩) (by have := hb7.out; simp only; omega) (.slice A6 n6 c6))
    have hsb := hide hb.out.size
    replace hb := hide (show Below w.heap.size w (w2.setCell ⟨w1.heap.size, 0, none⟩ (.slice A6 n6 c6)) from hb.out.setCell (by have := hb7.out; simp only; omega) _)
    replace hgt := hide (hgt.out.at (b := w1.heap.size) (i := 0) (.slice A6 n6 c6))
    replace ho6 := hide (ho6.out.gr hgs.out)
    replace hoD := hide (hoD.out.gr hgs.out)
    have hpq := hide (show PlQ (w2.setCell ⟨w1.heap.size, 0, none⟩ (.slice A6 n6 c6)) w.heap.size (.agg #[.slice A6 n6 c6, .int .i64 p.step, .slice A5 n5 c5]) R from plQ_mk (by rw [eP.out]; exact ho6.out) (by rw [eP.out]; exact hoD.out.down (by omega)) hap.out (by rw [eP.out]) (by rw [eP.out]; first | exact hwf | exact hwa))
    obtain ⟨WX, hWX⟩ : ∃ W, Hid ((w2.setCell ⟨w1.heap.size, 0, none⟩ (.slice A6 n6 c6)) = W) := ⟨_, hide rfl⟩
    rw [hWX.out] at ta tc t7 hb hpq hgt ⊢
    have HA := hide (fun (W : World) (hq : Below WX.heap.size WX W) => show Calls Tryd.prog 60 #[.agg #[.slice A6 n6 c6, .int .i64 p.step, .slice A5 n5 c5]] W (fun e w' => e = .returned (.bool VA) ∧ Below WX.heap.size WX w' ∧ w'.cell? ⟨w1.heap.size, 0, none⟩ = some (.slice A6 n6 c6) ∧ w'.cell? ⟨w1.heap.size, 1, none⟩ = some (.int .i64 p.step) ∧ w'.cell? ⟨w1.heap.size, 2, none⟩ = some (.slice A5 n5 c5) ∧ w'.cell? ⟨w.heap.size, 0, none⟩ = some (.slice A n c) ∧ w'.cell? ⟨w.heap.size, 1, none⟩ = some (.int .i64 p.step) ∧ w'.cell? ⟨w.heap.size, 2, none⟩ = some (.slice A2 0 c2)) from
        (placeOk_impl _ R _ W (hpq.out.up hq).plM (Nat.le_refl _)).mono fun e w' ⟨e1, hq'⟩ => by
          rw [hVA.out] at e1
          have hk := t7.out.up (upB hq hq')
          have hk2 := ta.out.up (upB hq hq')
          exact ⟨e1, upB hq hq', hk.c0, hk.c1, hk.c2, hk2.c0, hk2.c1, hk2.c2⟩)
    have HB := hide (fun (W : World) (hq : Below WX.heap.size WX W) => show Calls Tryd.prog 116 #[.agg #[.slice A n c, .int .i64 p.step, .slice A2 0 c2], .agg #[.slice A6 n6 c6, .int .i64 p.step, .slice A5 n5 c5]] W (fun e w' => e = .returned (.bool VB) ∧ Below WX.heap.size WX w' ∧ w'.cell? ⟨w1.heap.size, 0, none⟩ = some (.slice A6 n6 c6) ∧ w'.cell? ⟨w1.heap.size, 1, none⟩ = some (.int .i64 p.step) ∧ w'.cell? ⟨w1.heap.size, 2, none⟩ = some (.slice A5 n5 c5) ∧ w'.cell? ⟨w.heap.size, 0, none⟩ = some (.slice A n c) ∧ w'.cell? ⟨w.heap.size, 1, none⟩ = some (.int .i64 p.step) ∧ w'.cell? ⟨w.heap.size, 2, none⟩ = some (.slice A2 0 c2)) from
        (samePlaceI_c _ _ p R _ _ W (h.below ((upB hb.out hq).mono hB)) (hpq.out.up hq).plM (by have := hb.out.size; have := hq.size; omega) (Nat.le_refl _)).mono fun e w' ⟨e1, hq'⟩ => by
          rw [hVB.out] at e1
          have hk := t7.out.up (upB hq hq')
          have hk2 := ta.out.up (upB hq hq')
          exact ⟨e1, upB hq hq', hk.c0, hk.c1, hk.c2, hk2.c0, hk2.c1, hk2.c2⟩)
    have hb7n := hb7.out
    obtain ⟨a0, a1, a2, _⟩ := t7.out
    obtain ⟨b0, b1, b2, _⟩ := ta.out
    clear hVA hVB hWX eP
    cases VA with
    | false =>
      go_region_with ((go_at_call 60; (with_reducible refine (HA.out _ ?_).mono ?_); (focus (repeat (first | assumption | exact Below.refl _ _ | refine Below.drew ?_)); done); rintro e wa ⟨rfl, hqa, k0, k1, k2, k3, k4, k5⟩; have hza := hide (tc.out.up hqa); obtain ⟨xa0, xa1, xa2, ya0, ya1, ya2, _⟩ := hza.out))
      all_goals
        have hz := hide (tc.out.up hqa)
        have hb2 := hide (upB hb.out hqa)
        have hpo3 := fun (Y : World) (hy : Below wa.heap.size wa Y) => show PlQ (((Y.setCell ⟨w.heap.size + 1 + 1, 0, none⟩ (.slice A6 n6 c6)).setCell ⟨w.heap.size + 1 + 1, 1, none⟩ (.int .i64 p.step)).setCell ⟨w.heap.size + 1 + 1, 2, none⟩ (.slice A5 n5 c5)) w.heap.size (.agg #[.slice A6 n6 c6, .int .i64 p.step, .slice A5 n5 c5]) R from set3_plQ ((hpq.out.up hqa).up hy) ((hgt.out.up hqa).up hy) _ _ _
        have hb3 := fun (Y : World) (hy : Below wa.heap.size wa Y) => show Below w.heap.size w (((Y.setCell ⟨w.heap.size + 1 + 1, 0, none⟩ (.slice A6 n6 c6)).setCell ⟨w.heap.size + 1 + 1, 1, none⟩ (.int .i64 p.step)).setCell ⟨w.heap.size + 1 + 1, 2, none⟩ (.slice A5 n5 c5)) from (((upB hb2.out hy).setCell (by simp only; omega) _).setCell (by simp only; omega) _).setCell (by simp only; omega) _
        go_wp2_with fail
        first
          | (obtain ⟨z0, z1, z2, _, _, _, _⟩ := ((hz.out.set0 (.slice A6 n6 c6)).set1 (.int .i64 p.step)).set2 (.slice A5 n5 c5)
             refine bodyPost_ret (v := .tuple #[.agg #[.slice A6 n6 c6, .int .i64 p.step, .slice A5 n5 c5], .bool false]) ?_ rfl ⟨_, rfl, hpo3 _ (Below.refl _ _), hb3 _ (Below.refl _ _)⟩
             (focus (simp [results, Tryd.results88, go_sem, z0, z1, z2]; done)))
          | (obtain ⟨z0, z1, z2, _, _, _, _⟩ := ((hz.out.drew.set0 (.slice A6 n6 c6)).set1 (.int .i64 p.step)).set2 (.slice A5 n5 c5)
             refine bodyPost_ret (v := .tuple #[.agg #[.slice A6 n6 c6, .int .i64 p.step, .slice A5 n5 c5], .bool false]) ?_ rfl ⟨_, rfl, hpo3 _ ((Below.refl _ _).drew), hb3 _ ((Below.refl _ _).drew)⟩
             (focus (simp [results, Tryd.results88, go_sem, z0, z1, z2]; done)))
    | true =>
      cases VB with
      | true =>
        go_region_held3 (fun W => W.cell? ⟨w1.heap.size, 0, none⟩ = some (.slice A6 n6 c6) ∧ W.cell? ⟨w1.heap.size, 1, none⟩ = some (.int .i64 p.step) ∧ W.cell? ⟨w1.heap.size, 2, none⟩ = some (.slice A5 n5 c5) ∧ W.cell? ⟨w.heap.size, 0, none⟩ = some (.slice A n c) ∧ W.cell? ⟨w.heap.size, 1, none⟩ = some (.int .i64 p.step) ∧ W.cell? ⟨w.heap.size, 2, none⟩ = some (.slice A2 0 c2)) (first | exact ⟨a0, a1, a2, b0, b1, b2⟩ | exact ⟨k0, k1, k2, k3, k4, k5⟩ | exact ⟨m0, m1, m2, m3, m4, m5⟩ | (refine ⟨?_, ?_, ?_, ?_, ?_, ?_⟩ <;> (repeat rw [World.cell?_setCell_other _ _ _ _ (by intro e; injection e; omega)]) <;> assumption) | go_keep) (first | (go_at_call 60; (with_reducible refine (HA.out _ ?_).mono ?_); (focus (repeat (first | assumption | exact Below.refl _ _ | refine Below.drew ?_)); done); rintro e wa ⟨rfl, hqa, k0, k1, k2, k3, k4, k5⟩; have hza := hide (tc.out.up hqa); obtain ⟨xa0, xa1, xa2, ya0, ya1, ya2, _⟩ := hza.out) | (go_at_call 116; (with_reducible refine (HB.out _ ?_).mono ?_); (focus (repeat (first | assumption | exact Below.refl _ _ | refine Below.drew ?_)); done); rintro e wb ⟨rfl, hqb, m0, m1, m2, m3, m4, m5⟩; have hzb := hide (tc.out.up hqb); obtain ⟨xb0, xb1, xb2, yb0, yb1, yb2, _⟩ := hzb.out))
        all_goals
          have hz := hide (tc.out.up hqb)
          have hb2 := hide (upB hb.out hqb)
          have hpo3 := fun (Y : World) (hy : Below wb.heap.size wb Y) => show PlQ (((Y.setCell ⟨w.heap.size + 1 + 1, 0, none⟩ (.slice A6 n6 c6)).setCell ⟨w.heap.size + 1 + 1, 1, none⟩ (.int .i64 p.step)).setCell ⟨w.heap.size + 1 + 1, 2, none⟩ (.slice A5 n5 c5)) w.heap.size (.agg #[.slice A6 n6 c6, .int .i64 p.step, .slice A5 n5 c5]) R from set3_plQ ((hpq.out.up hqb).up hy) ((hgt.out.up hqb).up hy) _ _ _
          have hb3 := fun (Y : World) (hy : Below wb.heap.size wb Y) => show Below w.heap.size w (((Y.setCell ⟨w.heap.size + 1 + 1, 0, none⟩ (.slice A6 n6 c6)).setCell ⟨w.heap.size + 1 + 1, 1, none⟩ (.int .i64 p.step)).setCell ⟨w.heap.size + 1 + 1, 2, none⟩ (.slice A5 n5 c5)) from (((upB hb2.out hy).setCell (by simp only; omega) _).setCell (by simp only; omega) _).setCell (by simp only; omega) _
          go_wp2_with fail
          first
            | (obtain ⟨z0, z1, z2, _, _, _, _⟩ := ((hz.out.set0 (.slice A6 n6 c6)).set1 (.int .i64 p.step)).set2 (.slice A5 n5 c5)
               refine bodyPost_ret (v := .tuple #[.agg #[.slice A6 n6 c6, .int .i64 p.step, .slice A5 n5 c5], .bool false]) ?_ rfl ⟨_, rfl, hpo3 _ (Below.refl _ _), hb3 _ (Below.refl _ _)⟩
               (focus (simp [results, Tryd.results88, go_sem, z0, z1, z2]; done)))
            | (obtain ⟨z0, z1, z2, _, _, _, _⟩ := ((hz.out.drew.set0 (.slice A6 n6 c6)).set1 (.int .i64 p.step)).set2 (.slice A5 n5 c5)
               refine bodyPost_ret (v := .tuple #[.agg #[.slice A6 n6 c6, .int .i64 p.step, .slice A5 n5 c5], .bool false]) ?_ rfl ⟨_, rfl, hpo3 _ ((Below.refl _ _).drew), hb3 _ ((Below.refl _ _).drew)⟩
               (focus (simp [results, Tryd.results88, go_sem, z0, z1, z2]; done)))
      | false =>
        go_region_held3 (fun W => W.cell? ⟨w1.heap.size, 0, none⟩ = some (.slice A6 n6 c6) ∧ W.cell? ⟨w1.heap.size, 1, none⟩ = some (.int .i64 p.step) ∧ W.cell? ⟨w1.heap.size, 2, none⟩ = some (.slice A5 n5 c5) ∧ W.cell? ⟨w.heap.size, 0, none⟩ = some (.slice A n c) ∧ W.cell? ⟨w.heap.size, 1, none⟩ = some (.int .i64 p.step) ∧ W.cell? ⟨w.heap.size, 2, none⟩ = some (.slice A2 0 c2)) (first | exact ⟨a0, a1, a2, b0, b1, b2⟩ | exact ⟨k0, k1, k2, k3, k4, k5⟩ | exact ⟨m0, m1, m2, m3, m4, m5⟩ | (refine ⟨?_, ?_, ?_, ?_, ?_, ?_⟩ <;> (repeat rw [World.cell?_setCell_other _ _ _ _ (by intro e; injection e; omega)]) <;> assumption) | go_keep) (first | (go_at_call 60; (with_reducible refine (HA.out _ ?_).mono ?_); (focus (repeat (first | assumption | exact Below.refl _ _ | refine Below.drew ?_)); done); rintro e wa ⟨rfl, hqa, k0, k1, k2, k3, k4, k5⟩; have hza := hide (tc.out.up hqa); obtain ⟨xa0, xa1, xa2, ya0, ya1, ya2, _⟩ := hza.out) | (go_at_call 116; (with_reducible refine (HB.out _ ?_).mono ?_); (focus (repeat (first | assumption | exact Below.refl _ _ | refine Below.drew ?_)); done); rintro e wb ⟨rfl, hqb, m0, m1, m2, m3, m4, m5⟩; have hzb := hide (tc.out.up hqb); obtain ⟨xb0, xb1, xb2, yb0, yb1, yb2, _⟩ := hzb.out))
        all_goals
          have hz := hide (tc.out.up hqb)
          have hb2 := hide (upB hb.out hqb)
          have hpo3 := fun (Y : World) (hy : Below wb.heap.size wb Y) => show PlQ (((Y.setCell ⟨w.heap.size + 1 + 1, 0, none⟩ (.slice A6 n6 c6)).setCell ⟨w.heap.size + 1 + 1, 1, none⟩ (.int .i64 p.step)).setCell ⟨w.heap.size + 1 + 1, 2, none⟩ (.slice A5 n5 c5)) w.heap.size (.agg #[.slice A6 n6 c6, .int .i64 p.step, .slice A5 n5 c5]) R from set3_plQ ((hpq.out.up hqb).up hy) ((hgt.out.up hqb).up hy) _ _ _
          have hb3 := fun (Y : World) (hy : Below wb.heap.size wb Y) => show Below w.heap.size w (((Y.setCell ⟨w.heap.size + 1 + 1, 0, none⟩ (.slice A6 n6 c6)).setCell ⟨w.heap.size + 1 + 1, 1, none⟩ (.int .i64 p.step)).setCell ⟨w.heap.size + 1 + 1, 2, none⟩ (.slice A5 n5 c5)) from (((upB hb2.out hy).setCell (by simp only; omega) _).setCell (by simp only; omega) _).setCell (by simp only; omega) _
          go_wp2_with fail
          first
            | (obtain ⟨z0, z1, z2, _, _, _, _⟩ := ((hz.out.set0 (.slice A6 n6 c6)).set1 (.int .i64 p.step)).set2 (.slice A5 n5 c5)
               refine bodyPost_ret (v := .tuple #[.agg #[.slice A6 n6 c6, .int .i64 p.step, .slice A5 n5 c5], .bool true]) ?_ rfl ⟨_, rfl, hpo3 _ (Below.refl _ _), hb3 _ (Below.refl _ _)⟩
               (focus (simp [results, Tryd.results88, go_sem, z0, z1, z2]; done)))
            | (obtain ⟨z0, z1, z2, _, _, _, _⟩ := ((hz.out.drew.set0 (.slice A6 n6 c6)).set1 (.int .i64 p.step)).set2 (.slice A5 n5 c5)
               refine bodyPost_ret (v := .tuple #[.agg #[.slice A6 n6 c6, .int .i64 p.step, .slice A5 n5 c5], .bool true]) ?_ rfl ⟨_, rfl, hpo3 _ ((Below.refl _ _).drew), hb3 _ ((Below.refl _ _).drew)⟩
               (focus (simp [results, Tryd.results88, go_sem, z0, z1, z2]; done)))
  ·
    have eP := hide (show afterP p ⟨0, a, b⟩ = noPlc by unfold afterP; rw [if_pos ⟨by simp, hw⟩])
    have eB := hide (show afterB p ⟨0, a, b⟩ = false by unfold afterB; rw [eP.out, noPlc_no]; rfl)
    rw [eB.out, eP.out]
    have hn2 : 0 < n2 := by have := hl2.out; have := List.length_pos_iff.2 hw; omega
    go_enter Tryd.func88, Tryd.ntmps88
    obtain ⟨q12c0, q12c1, q12c2, q12f0, q12f1, q12f2, _⟩ := ta.out
    obtain ⟨q13c0, q13c1, q13c2, q13f0, q13f1, q13f2, _⟩ := tb.out
    obtain ⟨q14c0, q14c1, q14c2, q14f0, q14f1, q14f2, _⟩ := tc.out
    go_wp2_with fail
    exact bodyPost_ret (v := .tuple #[.agg #[.slice none 0 0, .int .i64 0, .slice none 0 0], .bool false]) (by simp [results, Tryd.results88, go_sem]) rfl ⟨_, rfl, plQ_mk Own.none_ Own.none_ ap_nil rfl (by decide), hb.out⟩
end Go.Proofs.YtoafpokcbbncfaaDoor

namespace Go.Proofs.YtoafpokcbbncfaaDoor
open Go.RowKit
set_option linter.unusedVariables false

set_option maxRecDepth 100000 in
set_option maxHeartbeats 3200000 in
theorem placeAfter1_c (v : Value) (p : Plc) (a b : Int) (B : Nat) (w : World) (h : PlM w B v p) (hB : B ≤ w.heap.size) (hs1 : p.start.length ≤ 1048576) (hs2 : p.word.length ≤ 1048576) (hwa : (Lit.int .i64 a).wf = true) (hwb : (Lit.int .i64 b).wf = true) :
    Calls Tryd.prog 88 #[v, .agg #[.int .i64 1, .int .i64 a, .int .i64 b]] w fun e w' => ∃ u, e = .returned (.tuple #[u, .bool (afterB p ⟨1, a, b⟩)]) ∧ PlQ w' w.heap.size u (afterP p ⟨1, a, b⟩) ∧ Below w.heap.size w w' := by
  obtain ⟨A, n, c, A2, n2, c2, rfl, i1, i2, hwf⟩ := h.ex
  have hl1 := hide i1.len
  have hl2 := hide i2.len
  obtain ⟨i0, hi, hz0, hz1, hz2⟩ := info_parts infoInt
  have hb := hide (show Below w.heap.size w (((w.alloc (.cells #[.slice A n c, .int .i64 p.step, .slice A2 n2 c2] 31)).alloc (.cells #[.int .i64 1, .int .i64 a, .int .i64 b] 38)).alloc (.cells #[.slice none 0 0, .int .i64 0, .slice none 0 0] 31)) from ((al w _).alloc (by simp) _).alloc (by simp; omega) _)
  have ta := hide (show TriW (((w.alloc (.cells #[.slice A n c, .int .i64 p.step, .slice A2 n2 c2] 31)).alloc (.cells #[.int .i64 1, .int .i64 a, .int .i64 b] 38)).alloc (.cells #[.slice none 0 0, .int .i64 0, .slice none 0 0] 31)) w.heap.size (.slice A n c) (.int .i64 p.step) (.slice A2 n2 c2) from ((TriW.made w _ _ _ _).alloc _).alloc _)
  have tb := hide (show TriW (((w.alloc (.cells #[.slice A n c, .int .i64 p.step, .slice A2 n2 c2] 31)).alloc (.cells #[.int .i64 1, .int .i64 a, .int .i64 b] 38)).alloc (.cells #[.slice none 0 0, .int .i64 0, .slice none 0 0] 31)) (w.heap.size + 1) (.int .i64 1) (.int .i64 a) (.int .i64 b) from by have := (TriW.made (w.alloc (.cells #[.slice A n c, .int .i64 p.step, .slice A2 n2 c2] 31)) (.int .i64 1) (.int .i64 a) (.int .i64 b) 38).alloc (.cells #[.slice none 0 0, .int .i64 0, .slice none 0 0] 31); simpa using this)
  have tc := hide (show TriW (((w.alloc (.cells #[.slice A n c, .int .i64 p.step, .slice A2 n2 c2] 31)).alloc (.cells #[.int .i64 1, .int .i64 a, .int .i64 b] 38)).alloc (.cells #[.slice none 0 0, .int .i64 0, .slice none 0 0] 31)) (w.heap.size + 1 + 1) (.slice none 0 0) (.int .i64 0) (.slice none 0 0) from by have := TriW.made ((w.alloc (.cells #[.slice A n c, .int .i64 p.step, .slice A2 n2 c2] 31)).alloc (.cells #[.int .i64 1, .int .i64 a, .int .i64 b] 38)) (.slice none 0 0) (.int .i64 0) (.slice none 0 0) 31; simpa using this)
  have hlt := hide (show w.heap.size + 1 + 1 + 1 ≤ (((w.alloc (.cells #[.slice A n c, .int .i64 p.step, .slice A2 n2 c2] 31)).alloc (.cells #[.int .i64 1, .int .i64 a, .int .i64 b] 38)).alloc (.cells #[.slice none 0 0, .int .i64 0, .slice none 0 0] 31)).heap.size by simp)
  have hgt := hide (show PTag (((w.alloc (.cells #[.slice A n c, .int .i64 p.step, .slice A2 n2 c2] 31)).alloc (.cells #[.int .i64 1, .int .i64 a, .int .i64 b] 38)).alloc (.cells #[.slice none 0 0, .int .i64 0, .slice none 0 0] 31)) (w.heap.size + 1 + 1) from by have := PTag.made ((w.alloc (.cells #[.slice A n c, .int .i64 p.step, .slice A2 n2 c2] 31)).alloc (.cells #[.int .i64 1, .int .i64 a, .int .i64 b] 38)) #[.slice none 0 0, .int .i64 0, .slice none 0 0]; simpa using this)
  by_cases hw : p.word = []
  ·
    have hn2 : n2 = 0 := by have := hl2.out; rw [hw] at this; exact this.symm
    subst hn2
    have eP := hide (show afterP p ⟨1, a, b⟩ = ⟨p.start, a, p.word⟩ by unfold afterP; rw [if_neg (fun e => e.2 hw), if_neg (by simp), if_pos rfl])
    obtain ⟨R, hR⟩ : ∃ R, Hid (afterP p ⟨1, a, b⟩ = R) := ⟨_, hide rfl⟩
    have eB := hide (show afterB p ⟨1, a, b⟩ = (placeOk R && !sameP p R) by unfold afterB; rw [hR.out])
    obtain ⟨VA, hVA⟩ : ∃ V, Hid (placeOk R = V) := ⟨_, hide rfl⟩
    obtain ⟨VB, hVB⟩ : ∃ V, Hid (sameP p R = V) := ⟨_, hide rfl⟩
    rw [hVA.out, hVB.out] at eB
    rw [hR.out] at eP ⊢
    rw [eB.out]
    clear eB hR
    go_enter Tryd.func88, Tryd.ntmps88
    obtain ⟨q1c0, q1c1, q1c2, q1f0, q1f1, q1f2, _⟩ := ta.out
    obtain ⟨q2c0, q2c1, q2c2, q2f0, q2f1, q2f2, _⟩ := tb.out
    obtain ⟨q3c0, q3c1, q3c2, q3f0, q3f1, q3f2, _⟩ := tc.out
    go_wp2_with fail
    refine (copiedPlace_c _ p _ _ (plM_mk ((i1.more hB).up hb.out) ((i2.more hB).up hb.out) hwf) (Nat.le_refl _) (by omega) (by omega)).mono ?_
    rintro e w1 ⟨u, rfl, hu, hq⟩
    replace hgt := hide (hgt.out.up hq)
    replace ta := hide (ta.out.up hq)
    replace tb := hide (tb.out.up hq)
    replace tc := hide (tc.out.up hq)
    replace hb := hide (upB hb.out hq)
    clear hq
    obtain ⟨A4, n4, c4, A5, n5, c5, rfl, o1, o2, hne, hwf4⟩ := hu.ex
    clear hu
    have hlt1 := hide (show w.heap.size + 1 + 1 + 1 ≤ w1.heap.size from by have := tc.out.lt; omega)
    have hoS := hide (o1.down (base' := w.heap.size + 1 + 1 + 1) (by simp))
    have hoD := hide (o2.down (base' := w.heap.size + 1 + 1 + 1) (by simp))
    clear o1 o2
    have hne := hide (ap_of hne)
    have hn4 := hide hoS.out.len
    have hn5 := hide hoD.out.len
    have hoD1 := hoD
    have hoS1 := hoS
    have ta_0 := ta
    have tb_0 := tb
    have tc_0 := tc
    have hgt_0 := hgt
    have hoS_0 := hoS
    have hoD_0 := hoD
    have hb_0 := hb
    replace hgt := hide (hgt.out.up (al w1 (.cells #[.slice A4 n4 c4, .int .i64 p.step, .slice A5 n5 c5] 31)))
    replace hoS := hide (hoS.out.up (al w1 (.cells #[.slice A4 n4 c4, .int .i64 p.step, .slice A5 n5 c5] 31)))
    replace hoD := hide (hoD.out.up (al w1 (.cells #[.slice A4 n4 c4, .int .i64 p.step, .slice A5 n5 c5] 31)))
    replace ta := hide (ta.out.up (al w1 (.cells #[.slice A4 n4 c4, .int .i64 p.step, .slice A5 n5 c5] 31)))
    replace tb := hide (tb.out.up (al w1 (.cells #[.slice A4 n4 c4, .int .i64 p.step, .slice A5 n5 c5] 31)))
    replace tc := hide (tc.out.up (al w1 (.cells #[.slice A4 n4 c4, .int .i64 p.step, .slice A5 n5 c5] 31)))
    replace hb := hide (upB hb.out (al w1 (.cells #[.slice A4 n4 c4, .int .i64 p.step, .slice A5 n5 c5] 31)))
    have t7 := hide (TriW.made w1 (.slice A4 n4 c4) (.int .i64 p.step) (.slice A5 n5 c5) 31)
    have g7 := hide (PTag.made w1 #[.slice A4 n4 c4, .int .i64 p.step, .slice A5 n5 c5])
    have hb7 := hide (show w.heap.size + 1 + 1 + 1 ≤ w1.heap.size from hlt1.out)
    clear q1c0 q1c1 q1c2 q1f0 q1f1 q1f2 q2c0 q2c1 q2c2 q2f0 q2f1 q2f2 q3c0 q3c1 q3c2 q3f0 q3f1 q3f2
    obtain ⟨q4c0, q4c1, q4c2, q4f0, q4f1, q4f2, _⟩ := ta.out
    obtain ⟨q5c0, q5c1, q5c2, q5f0, q5f1, q5f2, _⟩ := tb.out
    obtain ⟨q6c0, q6c1, q6c2, q6f0, q6f1, q6f2, _⟩ := tc.out
    obtain ⟨q7c0, q7c1, q7c2, q7f0, q7f1, q7f2, _⟩ := t7.out
    go_wp2_with fail
    replace ta := hide (ta_0.out.up (al w1 (.cells #[.slice A4 n4 c4, .int .i64 a, .slice A5 n5 c5] 31)))
    replace tc := hide (tc_0.out.up (al w1 (.cells #[.slice A4 n4 c4, .int .i64 a, .slice A5 n5 c5] 31)))
    replace hoS := hide (hoS_0.out.up (al w1 (.cells #[.slice A4 n4 c4, .int .i64 a, .slice A5 n5 c5] 31)))
    replace hoD := hide (hoD_0.out.up (al w1 (.cells #[.slice A4 n4 c4, .int .i64 a, .slice A5 n5 c5] 31)))
    replace hgt := hide (hgt_0.out.up (al w1 (.cells #[.slice A4 n4 c4, .int .i64 a, .slice A5 n5 c5] 31)))
    replace hb := hide (upB hb_0.out (al w1 (.cells #[.slice A4 n4 c4, .int .i64 a, .slice A5 n5 c5] 31)))
    replace t7 := hide (TriW.made w1 (.slice A4 n4 c4) (.int .i64 a) (.slice A5 n5 c5) 31)
    have hpq := hide (show PlQ (w1.alloc (.cells #[.slice A4 n4 c4, .int .i64 a, .slice A5 n5 c5] 31)) w.heap.size (.agg #[.slice A4 n4 c4, .int .i64 a, .slice A5 n5 c5]) R from plQ_mk (by rw [eP.out]; exact hoS.out.down (by omega)) (by rw [eP.out]; exact hoD.out.down (by omega)) hne.out (by rw [eP.out]) (by rw [eP.out]; first | exact hwf | exact hwa))
    obtain ⟨WX, hWX⟩ : ∃ W, Hid ((w1.alloc (.cells #[.slice A4 n4 c4, .int .i64 a, .slice A5 n5 c5] 31)) = W) := ⟨_, hide rfl⟩
    rw [hWX.out] at ta tc t7 hb hpq hgt ⊢
    have HA := hide (fun (W : World) (hq : Below WX.heap.size WX W) => show Calls Tryd.prog 60 #[.agg #[.slice A4 n4 c4, .int .i64 a, .slice A5 n5 c5]] W (fun e w' => e = .returned (.bool VA) ∧ Below WX.heap.size WX w' ∧ w'.cell? ⟨w1.heap.size, 0, none⟩ = some (.slice A4 n4 c4) ∧ w'.cell? ⟨w1.heap.size, 1, none⟩ = some (.int .i64 a) ∧ w'.cell? ⟨w1.heap.size, 2, none⟩ = some (.slice A5 n5 c5) ∧ w'.cell? ⟨w.heap.size, 0, none⟩ = some (.slice A n c) ∧ w'.cell? ⟨w.heap.size, 1, none⟩ = some (.int .i64 p.step) ∧ w'.cell? ⟨w.heap.size, 2, none⟩ = some (.slice A2 0 c2)) from
        (placeOk_impl _ R _ W (hpq.out.up hq).plM (Nat.le_refl _)).mono fun e w' ⟨e1, hq'⟩ => by
          rw [hVA.out] at e1
          have hk := t7.out.up (upB hq hq')
          have hk2 := ta.out.up (upB hq hq')
          exact ⟨e1, upB hq hq', hk.c0, hk.c1, hk.c2, hk2.c0, hk2.c1, hk2.c2⟩)
    have HB := hide (fun (W : World) (hq : Below WX.heap.size WX W) => show Calls Tryd.prog 116 #[.agg #[.slice A n c, .int .i64 p.step, .slice A2 0 c2], .agg #[.slice A4 n4 c4, .int .i64 a, .slice A5 n5 c5]] W (fun e w' => e = .returned (.bool VB) ∧ Below WX.heap.size WX w' ∧ w'.cell? ⟨w1.heap.size, 0, none⟩ = some (.slice A4 n4 c4) ∧ w'.cell? ⟨w1.heap.size, 1, none⟩ = some (.int .i64 a) ∧ w'.cell? ⟨w1.heap.size, 2, none⟩ = some (.slice A5 n5 c5) ∧ w'.cell? ⟨w.heap.size, 0, none⟩ = some (.slice A n c) ∧ w'.cell? ⟨w.heap.size, 1, none⟩ = some (.int .i64 p.step) ∧ w'.cell? ⟨w.heap.size, 2, none⟩ = some (.slice A2 0 c2)) from
        (samePlaceI_c _ _ p R _ _ W (h.below ((upB hb.out hq).mono hB)) (hpq.out.up hq).plM (by have := hb.out.size; have := hq.size; omega) (Nat.le_refl _)).mono fun e w' ⟨e1, hq'⟩ => by
          rw [hVB.out] at e1
          have hk := t7.out.up (upB hq hq')
          have hk2 := ta.out.up (upB hq hq')
          exact ⟨e1, upB hq hq', hk.c0, hk.c1, hk.c2, hk2.c0, hk2.c1, hk2.c2⟩)
    have hb7n := hb7.out
    obtain ⟨a0, a1, a2, _⟩ := t7.out
    obtain ⟨b0, b1, b2, _⟩ := ta.out
    clear hVA hVB hWX eP
    cases VA with
    | false =>
      go_region_with ((go_at_call 60; (with_reducible refine (HA.out _ ?_).mono ?_); (focus (repeat (first | assumption | exact Below.refl _ _ | refine Below.drew ?_)); done); rintro e wa ⟨rfl, hqa, k0, k1, k2, k3, k4, k5⟩; have hza := hide (tc.out.up hqa); obtain ⟨xa0, xa1, xa2, ya0, ya1, ya2, _⟩ := hza.out))
      all_goals
        have hz := hide (tc.out.up hqa)
        have hb2 := hide (upB hb.out hqa)
        have hpo3 := fun (Y : World) (hy : Below wa.heap.size wa Y) => show PlQ (((Y.setCell ⟨w.heap.size + 1 + 1, 0, none⟩ (.slice A4 n4 c4)).setCell ⟨w.heap.size + 1 + 1, 1, none⟩ (.int .i64 a)).setCell ⟨w.heap.size + 1 + 1, 2, none⟩ (.slice A5 n5 c5)) w.heap.size (.agg #[.slice A4 n4 c4, .int .i64 a, .slice A5 n5 c5]) R from set3_plQ ((hpq.out.up hqa).up hy) ((hgt.out.up hqa).up hy) _ _ _
        have hb3 := fun (Y : World) (hy : Below wa.heap.size wa Y) => show Below w.heap.size w (((Y.setCell ⟨w.heap.size + 1 + 1, 0, none⟩ (.slice A4 n4 c4)).setCell ⟨w.heap.size + 1 + 1, 1, none⟩ (.int .i64 a)).setCell ⟨w.heap.size + 1 + 1, 2, none⟩ (.slice A5 n5 c5)) from (((upB hb2.out hy).setCell (by simp only; omega) _).setCell (by simp only; omega) _).setCell (by simp only; omega) _
        go_wp2_with fail
        first
          | (obtain ⟨z0, z1, z2, _, _, _, _⟩ := ((hz.out.set0 (.slice A4 n4 c4)).set1 (.int .i64 a)).set2 (.slice A5 n5 c5)
             refine bodyPost_ret (v := .tuple #[.agg #[.slice A4 n4 c4, .int .i64 a, .slice A5 n5 c5], .bool false]) ?_ rfl ⟨_, rfl, hpo3 _ (Below.refl _ _), hb3 _ (Below.refl _ _)⟩
             (focus (simp [results, Tryd.results88, go_sem, z0, z1, z2]; done)))
          | (obtain ⟨z0, z1, z2, _, _, _, _⟩ := ((hz.out.drew.set0 (.slice A4 n4 c4)).set1 (.int .i64 a)).set2 (.slice A5 n5 c5)
             refine bodyPost_ret (v := .tuple #[.agg #[.slice A4 n4 c4, .int .i64 a, .slice A5 n5 c5], .bool false]) ?_ rfl ⟨_, rfl, hpo3 _ ((Below.refl _ _).drew), hb3 _ ((Below.refl _ _).drew)⟩
             (focus (simp [results, Tryd.results88, go_sem, z0, z1, z2]; done)))
    | true =>
      cases VB with
      | true =>
        go_region_held3 (fun W => W.cell? ⟨w1.heap.size, 0, none⟩ = some (.slice A4 n4 c4) ∧ W.cell? ⟨w1.heap.size, 1, none⟩ = some (.int .i64 a) ∧ W.cell? ⟨w1.heap.size, 2, none⟩ = some (.slice A5 n5 c5) ∧ W.cell? ⟨w.heap.size, 0, none⟩ = some (.slice A n c) ∧ W.cell? ⟨w.heap.size, 1, none⟩ = some (.int .i64 p.step) ∧ W.cell? ⟨w.heap.size, 2, none⟩ = some (.slice A2 0 c2)) (first | exact ⟨a0, a1, a2, b0, b1, b2⟩ | exact ⟨k0, k1, k2, k3, k4, k5⟩ | exact ⟨m0, m1, m2, m3, m4, m5⟩ | (refine ⟨?_, ?_, ?_, ?_, ?_, ?_⟩ <;> (repeat rw [World.cell?_setCell_other _ _ _ _ (by intro e; injection e; omega)]) <;> assumption) | go_keep) (first | (go_at_call 60; (with_reducible refine (HA.out _ ?_).mono ?_); (focus (repeat (first | assumption | exact Below.refl _ _ | refine Below.drew ?_)); done); rintro e wa ⟨rfl, hqa, k0, k1, k2, k3, k4, k5⟩; have hza := hide (tc.out.up hqa); obtain ⟨xa0, xa1, xa2, ya0, ya1, ya2, _⟩ := hza.out) | (go_at_call 116; (with_reducible refine (HB.out _ ?_).mono ?_); (focus (repeat (first | assumption | exact Below.refl _ _ | refine Below.drew ?_)); done); rintro e wb ⟨rfl, hqb, m0, m1, m2, m3, m4, m5⟩; have hzb := hide (tc.out.up hqb); obtain ⟨xb0, xb1, xb2, yb0, yb1, yb2, _⟩ := hzb.out))
        all_goals
          have hz := hide (tc.out.up hqb)
          have hb2 := hide (upB hb.out hqb)
          have hpo3 := fun (Y : World) (hy : Below wb.heap.size wb Y) => show PlQ (((Y.setCell ⟨w.heap.size + 1 + 1, 0, none⟩ (.slice A4 n4 c4)).setCell ⟨w.heap.size + 1 + 1, 1, none⟩ (.int .i64 a)).setCell ⟨w.heap.size + 1 + 1, 2, none⟩ (.slice A5 n5 c5)) w.heap.size (.agg #[.slice A4 n4 c4, .int .i64 a, .slice A5 n5 c5]) R from set3_plQ ((hpq.out.up hqb).up hy) ((hgt.out.up hqb).up hy) _ _ _
          have hb3 := fun (Y : World) (hy : Below wb.heap.size wb Y) => show Below w.heap.size w (((Y.setCell ⟨w.heap.size + 1 + 1, 0, none⟩ (.slice A4 n4 c4)).setCell ⟨w.heap.size + 1 + 1, 1, none⟩ (.int .i64 a)).setCell ⟨w.heap.size + 1 + 1, 2, none⟩ (.slice A5 n5 c5)) from (((upB hb2.out hy).setCell (by simp only; omega) _).setCell (by simp only; omega) _).setCell (by simp only; omega) _
          go_wp2_with fail
          first
            | (obtain ⟨z0, z1, z2, _, _, _, _⟩ := ((hz.out.set0 (.slice A4 n4 c4)).set1 (.int .i64 a)).set2 (.slice A5 n5 c5)
               refine bodyPost_ret (v := .tuple #[.agg #[.slice A4 n4 c4, .int .i64 a, .slice A5 n5 c5], .bool false]) ?_ rfl ⟨_, rfl, hpo3 _ (Below.refl _ _), hb3 _ (Below.refl _ _)⟩
               (focus (simp [results, Tryd.results88, go_sem, z0, z1, z2]; done)))
            | (obtain ⟨z0, z1, z2, _, _, _, _⟩ := ((hz.out.drew.set0 (.slice A4 n4 c4)).set1 (.int .i64 a)).set2 (.slice A5 n5 c5)
               refine bodyPost_ret (v := .tuple #[.agg #[.slice A4 n4 c4, .int .i64 a, .slice A5 n5 c5], .bool false]) ?_ rfl ⟨_, rfl, hpo3 _ ((Below.refl _ _).drew), hb3 _ ((Below.refl _ _).drew)⟩
               (focus (simp [results, Tryd.results88, go_sem, z0, z1, z2]; done)))
      | false =>
        go_region_held3 (fun W => W.cell? ⟨w1.heap.size, 0, none⟩ = some (.slice A4 n4 c4) ∧ W.cell? ⟨w1.heap.size, 1, none⟩ = some (.int .i64 a) ∧ W.cell? ⟨w1.heap.size, 2, none⟩ = some (.slice A5 n5 c5) ∧ W.cell? ⟨w.heap.size, 0, none⟩ = some (.slice A n c) ∧ W.cell? ⟨w.heap.size, 1, none⟩ = some (.int .i64 p.step) ∧ W.cell? ⟨w.heap.size, 2, none⟩ = some (.slice A2 0 c2)) (first | exact ⟨a0, a1, a2, b0, b1, b2⟩ | exact ⟨k0, k1, k2, k3, k4, k5⟩ | exact ⟨m0, m1, m2, m3, m4, m5⟩ | (refine ⟨?_, ?_, ?_, ?_, ?_, ?_⟩ <;> (repeat rw [World.cell?_setCell_other _ _ _ _ (by intro e; injection e; omega)]) <;> assumption) | go_keep) (first | (go_at_call 60; (with_reducible refine (HA.out _ ?_).mono ?_); (focus (repeat (first | assumption | exact Below.refl _ _ | refine Below.drew ?_)); done); rintro e wa ⟨rfl, hqa, k0, k1, k2, k3, k4, k5⟩; have hza := hide (tc.out.up hqa); obtain ⟨xa0, xa1, xa2, ya0, ya1, ya2, _⟩ := hza.out) | (go_at_call 116; (with_reducible refine (HB.out _ ?_).mono ?_); (focus (repeat (first | assumption | exact Below.refl _ _ | refine Below.drew ?_)); done); rintro e wb ⟨rfl, hqb, m0, m1, m2, m3, m4, m5⟩; have hzb := hide (tc.out.up hqb); obtain ⟨xb0, xb1, xb2, yb0, yb1, yb2, _⟩ := hzb.out))
        all_goals
          have hz := hide (tc.out.up hqb)
          have hb2 := hide (upB hb.out hqb)
          have hpo3 := fun (Y : World) (hy : Below wb.heap.size wb Y) => show PlQ (((Y.setCell ⟨w.heap.size + 1 + 1, 0, none⟩ (.slice A4 n4 c4)).setCell ⟨w.heap.size + 1 + 1, 1, none⟩ (.int .i64 a)).setCell ⟨w.heap.size + 1 + 1, 2, none⟩ (.slice A5 n5 c5)) w.heap.size (.agg #[.slice A4 n4 c4, .int .i64 a, .slice A5 n5 c5]) R from set3_plQ ((hpq.out.up hqb).up hy) ((hgt.out.up hqb).up hy) _ _ _
          have hb3 := fun (Y : World) (hy : Below wb.heap.size wb Y) => show Below w.heap.size w (((Y.setCell ⟨w.heap.size + 1 + 1, 0, none⟩ (.slice A4 n4 c4)).setCell ⟨w.heap.size + 1 + 1, 1, none⟩ (.int .i64 a)).setCell ⟨w.heap.size + 1 + 1, 2, none⟩ (.slice A5 n5 c5)) from (((upB hb2.out hy).setCell (by simp only; omega) _).setCell (by simp only; omega) _).setCell (by simp only; omega) _
          go_wp2_with fail
          first
            | (obtain ⟨z0, z1, z2, _, _, _, _⟩ := ((hz.out.set0 (.slice A4 n4 c4)).set1 (.int .i64 a)).set2 (.slice A5 n5 c5)
               refine bodyPost_ret (v := .tuple #[.agg #[.slice A4 n4 c4, .int .i64 a, .slice A5 n5 c5], .bool true]) ?_ rfl ⟨_, rfl, hpo3 _ (Below.refl _ _), hb3 _ (Below.refl _ _)⟩
               (focus (simp [results, Tryd.results88, go_sem, z0, z1, z2]; done)))
            | (obtain ⟨z0, z1, z2, _, _, _, _⟩ := ((hz.out.drew.set0 (.slice A4 n4 c4)).set1 (.int .i64 a)).set2 (.slice A5 n5 c5)
               refine bodyPost_ret (v := .tuple #[.agg #[.slice A4 n4 c4, .int .i64 a, .slice A5 n5 c5], .bool true]) ?_ rfl ⟨_, rfl, hpo3 _ ((Below.refl _ _).drew), hb3 _ ((Below.refl _ _).drew)⟩
               (focus (simp [results, Tryd.results88, go_sem, z0, z1, z2]; done)))
  ·
    have eP := hide (show afterP p ⟨1, a, b⟩ = noPlc by unfold afterP; rw [if_pos ⟨by simp, hw⟩])
    have eB := hide (show afterB p ⟨1, a, b⟩ = false by unfold afterB; rw [eP.out, noPlc_no]; rfl)
    rw [eB.out, eP.out]
    have hn2 : 0 < n2 := by have := hl2.out; have := List.length_pos_iff.2 hw; omega
    go_enter Tryd.func88, Tryd.ntmps88
    obtain ⟨q8c0, q8c1, q8c2, q8f0, q8f1, q8f2, _⟩ := ta.out
    obtain ⟨q9c0, q9c1, q9c2, q9f0, q9f1, q9f2, _⟩ := tb.out
    obtain ⟨q10c0, q10c1, q10c2, q10f0, q10f1, q10f2, _⟩ := tc.out
    go_wp2_with fail
    exact bodyPost_ret (v := .tuple #[.agg #[.slice none 0 0, .int .i64 0, .slice none 0 0], .bool false]) (by simp [results, Tryd.results88, go_sem]) rfl ⟨_, rfl, plQ_mk Own.none_ Own.none_ ap_nil rfl (by decide), hb.out⟩
end Go.Proofs.YtoafpokcbbncfaaDoor

namespace Go.Proofs.YtoafpokcbbncfaaDoor
open Go.RowKit
set_option linter.unusedVariables false

set_option maxRecDepth 100000 in
set_option maxHeartbeats 3200000 in
theorem placeAfter2_c (v : Value) (p : Plc) (a b : Int) (B : Nat) (w : World) (h : PlM w B v p) (hB : B ≤ w.heap.size) (hs1 : p.start.length ≤ 1048576) (hs2 : p.word.length ≤ 1048576) (hwa : (Lit.int .i64 a).wf = true) (hwb : (Lit.int .i64 b).wf = true) :
    Calls Tryd.prog 88 #[v, .agg #[.int .i64 2, .int .i64 a, .int .i64 b]] w fun e w' => ∃ u, e = .returned (.tuple #[u, .bool (afterB p ⟨2, a, b⟩)]) ∧ PlQ w' w.heap.size u (afterP p ⟨2, a, b⟩) ∧ Below w.heap.size w w' := by
  obtain ⟨A, n, c, A2, n2, c2, rfl, i1, i2, hwf⟩ := h.ex
  have hl1 := hide i1.len
  have hl2 := hide i2.len
  obtain ⟨i0, hi, hz0, hz1, hz2⟩ := info_parts infoInt
  have hb := hide (show Below w.heap.size w (((w.alloc (.cells #[.slice A n c, .int .i64 p.step, .slice A2 n2 c2] 31)).alloc (.cells #[.int .i64 2, .int .i64 a, .int .i64 b] 38)).alloc (.cells #[.slice none 0 0, .int .i64 0, .slice none 0 0] 31)) from ((al w _).alloc (by simp) _).alloc (by simp; omega) _)
  have ta := hide (show TriW (((w.alloc (.cells #[.slice A n c, .int .i64 p.step, .slice A2 n2 c2] 31)).alloc (.cells #[.int .i64 2, .int .i64 a, .int .i64 b] 38)).alloc (.cells #[.slice none 0 0, .int .i64 0, .slice none 0 0] 31)) w.heap.size (.slice A n c) (.int .i64 p.step) (.slice A2 n2 c2) from ((TriW.made w _ _ _ _).alloc _).alloc _)
  have tb := hide (show TriW (((w.alloc (.cells #[.slice A n c, .int .i64 p.step, .slice A2 n2 c2] 31)).alloc (.cells #[.int .i64 2, .int .i64 a, .int .i64 b] 38)).alloc (.cells #[.slice none 0 0, .int .i64 0, .slice none 0 0] 31)) (w.heap.size + 1) (.int .i64 2) (.int .i64 a) (.int .i64 b) from by have := (TriW.made (w.alloc (.cells #[.slice A n c, .int .i64 p.step, .slice A2 n2 c2] 31)) (.int .i64 2) (.int .i64 a) (.int .i64 b) 38).alloc (.cells #[.slice none 0 0, .int .i64 0, .slice none 0 0] 31); simpa using this)
  have tc := hide (show TriW (((w.alloc (.cells #[.slice A n c, .int .i64 p.step, .slice A2 n2 c2] 31)).alloc (.cells #[.int .i64 2, .int .i64 a, .int .i64 b] 38)).alloc (.cells #[.slice none 0 0, .int .i64 0, .slice none 0 0] 31)) (w.heap.size + 1 + 1) (.slice none 0 0) (.int .i64 0) (.slice none 0 0) from by have := TriW.made ((w.alloc (.cells #[.slice A n c, .int .i64 p.step, .slice A2 n2 c2] 31)).alloc (.cells #[.int .i64 2, .int .i64 a, .int .i64 b] 38)) (.slice none 0 0) (.int .i64 0) (.slice none 0 0) 31; simpa using this)
  have hlt := hide (show w.heap.size + 1 + 1 + 1 ≤ (((w.alloc (.cells #[.slice A n c, .int .i64 p.step, .slice A2 n2 c2] 31)).alloc (.cells #[.int .i64 2, .int .i64 a, .int .i64 b] 38)).alloc (.cells #[.slice none 0 0, .int .i64 0, .slice none 0 0] 31)).heap.size by simp)
  have hgt := hide (show PTag (((w.alloc (.cells #[.slice A n c, .int .i64 p.step, .slice A2 n2 c2] 31)).alloc (.cells #[.int .i64 2, .int .i64 a, .int .i64 b] 38)).alloc (.cells #[.slice none 0 0, .int .i64 0, .slice none 0 0] 31)) (w.heap.size + 1 + 1) from by have := PTag.made ((w.alloc (.cells #[.slice A n c, .int .i64 p.step, .slice A2 n2 c2] 31)).alloc (.cells #[.int .i64 2, .int .i64 a, .int .i64 b] 38)) #[.slice none 0 0, .int .i64 0, .slice none 0 0]; simpa using this)
  have eP := hide (show afterP p ⟨2, a, b⟩ = ⟨p.start, p.step, p.word ++ [a]⟩ by unfold afterP; rw [if_neg (by simp), if_neg (by simp), if_neg (by simp), if_pos rfl])
  obtain ⟨R, hR⟩ : ∃ R, Hid (afterP p ⟨2, a, b⟩ = R) := ⟨_, hide rfl⟩
  have eB := hide (show afterB p ⟨2, a, b⟩ = (placeOk R && !sameP p R) by unfold afterB; rw [hR.out])
  obtain ⟨VA, hVA⟩ : ∃ V, Hid (placeOk R = V) := ⟨_, hide rfl⟩
  obtain ⟨VB, hVB⟩ : ∃ V, Hid (sameP p R = V) := ⟨_, hide rfl⟩
  rw [hVA.out, hVB.out] at eB
  rw [hR.out] at eP ⊢
  rw [eB.out]
  clear eB hR
  go_enter Tryd.func88, Tryd.ntmps88
  obtain ⟨q1c0, q1c1, q1c2, q1f0, q1f1, q1f2, _⟩ := ta.out
  obtain ⟨q2c0, q2c1, q2c2, q2f0, q2f1, q2f2, _⟩ := tb.out
  obtain ⟨q3c0, q3c1, q3c2, q3f0, q3f1, q3f2, _⟩ := tc.out
  go_wp2_with fail
  refine (copiedPlace_c _ p _ _ (plM_mk ((i1.more hB).up hb.out) ((i2.more hB).up hb.out) hwf) (Nat.le_refl _) (by omega) (by omega)).mono ?_
  rintro e w1 ⟨u, rfl, hu, hq⟩
  replace hgt := hide (hgt.out.up hq)
  replace ta := hide (ta.out.up hq)
  replace tb := hide (tb.out.up hq)
  replace tc := hide (tc.out.up hq)
  replace hb := hide (upB hb.out hq)
  clear hq
  obtain ⟨A4, n4, c4, A5, n5, c5, rfl, o1, o2, hne, hwf4⟩ := hu.ex
  clear hu
  have hlt1 := hide (show w.heap.size + 1 + 1 + 1 ≤ w1.heap.size from by have := tc.out.lt; omega)
  have hoS := hide (o1.down (base' := w.heap.size + 1 + 1 + 1) (by simp))
  have hoD := hide (o2.down (base' := w.heap.size + 1 + 1 + 1) (by simp))
  clear o1 o2
  have hne := hide (ap_of hne)
  have hn4 := hide hoS.out.len
  have hn5 := hide hoD.out.len
  have hoD1 := hoD
  have hoS1 := hoS
  replace hgt := hide (hgt.out.up (al w1 (.cells #[.slice A4 n4 c4, .int .i64 p.step, .slice A5 n5 c5] 31)))
  replace hoS := hide (hoS.out.up (al w1 (.cells #[.slice A4 n4 c4, .int .i64 p.step, .slice A5 n5 c5] 31)))
  replace hoD := hide (hoD.out.up (al w1 (.cells #[.slice A4 n4 c4, .int .i64 p.step, .slice A5 n5 c5] 31)))
  replace ta := hide (ta.out.up (al w1 (.cells #[.slice A4 n4 c4, .int .i64 p.step, .slice A5 n5 c5] 31)))
  replace tb := hide (tb.out.up (al w1 (.cells #[.slice A4 n4 c4, .int .i64 p.step, .slice A5 n5 c5] 31)))
  replace tc := hide (tc.out.up (al w1 (.cells #[.slice A4 n4 c4, .int .i64 p.step, .slice A5 n5 c5] 31)))
  replace hb := hide (upB hb.out (al w1 (.cells #[.slice A4 n4 c4, .int .i64 p.step, .slice A5 n5 c5] 31)))
  have t7 := hide (TriW.made w1 (.slice A4 n4 c4) (.int .i64 p.step) (.slice A5 n5 c5) 31)
  have g7 := hide (PTag.made w1 #[.slice A4 n4 c4, .int .i64 p.step, .slice A5 n5 c5])
  have hb7 := hide (show w.heap.size + 1 + 1 + 1 ≤ w1.heap.size from hlt1.out)
  have hrow := hide (fun q (hq : (Value.slice A5 n5 c5).ownBlock = some q) => show w.heap.size + 1 + 1 + 1 ≤ q ∧ q < w1.heap.size from hoD1.out.row.lt q hq)
  have hoDz := hide (hoD.out.up (al _ (.cells #[.int .i64 a] 3)))
  have hoSz := hide (hoS.out.up (al _ (.cells #[.int .i64 a] 3)))
  have taz := hide (ta.out.up (al _ (.cells #[.int .i64 a] 3)))
  have tbz := hide (tb.out.up (al _ (.cells #[.int .i64 a] 3)))
  have tcz := hide (tc.out.up (al _ (.cells #[.int .i64 a] 3)))
  have t7z := hide (t7.out.up (al _ (.cells #[.int .i64 a] 3)))
  have g7z := hide (g7.out.up (al _ (.cells #[.int .i64 a] 3)))
  have hgtz := hide (hgt.out.up (al _ (.cells #[.int .i64 a] 3)))
  have hbz := hide (upB hb.out (al _ (.cells #[.int .i64 a] 3)))
  have hlit := hide (show ((w1.alloc (.cells #[.slice A4 n4 c4, .int .i64 p.step, .slice A5 n5 c5] 31)).alloc (.cells #[.int .i64 a] 3)).cell? ⟨w1.heap.size + 1, 0, none⟩ = some (.int .i64 a) by rw [World.cell?_alloc_at _ _ _ _ (by simp)]; rfl)
  have hbase : w.heap.size + 1 + 1 + 1 ≤ ((w1.alloc (.cells #[.slice A4 n4 c4, .int .i64 p.step, .slice A5 n5 c5] 31)).alloc (.cells #[.int .i64 a] 3)).heap.size := by have := hb7.out; simp; omega
  clear q1c0 q1c1 q1c2 q1f0 q1f1 q1f2 q2c0 q2c1 q2c2 q2f0 q2f1 q2f2 q3c0 q3c1 q3c2 q3f0 q3f1 q3f2
  obtain ⟨q4c0, q4c1, q4c2, q4f0, q4f1, q4f2, _⟩ := ta.out
  obtain ⟨q5c0, q5c1, q5c2, q5f0, q5f1, q5f2, _⟩ := tb.out
  obtain ⟨q6c0, q6c1, q6c2, q6f0, q6f1, q6f2, _⟩ := tc.out
  obtain ⟨q7c0, q7c1, q7c2, q7f0, q7f1, q7f2, _⟩ := t7.out
  go_wp2_with (at_builtin; refine wpList_appE _ rfl _ _ 22 rfl i0 Tryd.underlying22 hi hz0 hz1 hz2 _ A5 n5 c5 p.word rfl hoDz.out (w1.heap.size + 1) 1 a rfl hlit.out hwa (by have := hn5.out; omega) hbase ?_; intro A6 n6 c6 w3 ho6 hg6 hk6; have ta3 := hide (taz.out.grown hg6 (fun q hq => by have := hrow.out q hq; have := hb7.out; omega)); have tb3 := hide (tbz.out.grown hg6 (fun q hq => by have := hrow.out q hq; have := hb7.out; omega)); have tc3 := hide (tcz.out.grown hg6 (fun q hq => by have := hrow.out q hq; have := hb7.out; omega)); have t73 := hide (t7z.out.grown hg6 (fun q hq => by have := hrow.out q hq; have := hb7.out; omega)); have g73 := hide (g7z.out.grown hg6 (fun q hq => by have := hrow.out q hq; have := hb7.out; omega)); have hgt3 := hide (hgtz.out.grown hg6 (fun q hq => by have := hrow.out q hq; have := hb7.out; omega)); obtain ⟨u0, u1, u2, v0, v1, v2, _⟩ := t73.out)
  replace ta := ta3
  replace tb := tb3
  replace tc := tc3
  replace t7 := t73
  replace g7 := g73
  replace hgt := hgt3
  replace ho6 := hide ho6
  have hap := hide (show Ap (.slice A4 n4 c4) (.slice A6 n6 c6) from fun q h4 h6 => by
    rcases hk6 q h6 with h5 | h5
    · exact hne.out q h4 h5
    · have h7 := (hoSz.out.row.lt q h4).2
      omega)
  replace hoS := hide (hoSz.out.kept hg6 hne.out.or)
  replace hb := hide (hbz.out.grown hg6 (by have := hbz.out.size; exact this) (fun k hk => by have := hrow.out k hk; omega))
  have hgs := hide (GrP.setP g7.out 2 (.slice A6 n6 c6))
  replace t7 := hide (t7.out.set2 (.slice A6 n6 c6))
  replace ta := hide (ta.out.other (a := ⟨w1.heap.size, 2, none⟩) (by have := hb7.out; simp only; omega) (.slice A6 n6 c6))
  replace tc := hide (tc.out.other (a := ⟨w1.heap.size, 2, none⟩) (by have := hb7.out; simp only; omega) (.slice A6 n6 c6))
  have hsb := hide hb.out.size
  replace hb := hide (show Below w.heap.size w (w3.setCell ⟨w1.heap.size, 2, none⟩ (.slice A6 n6 c6)) from hb.out.setCell (by have := hb7.out; simp only; omega) _)
  replace hgt := hide (hgt.out.at (b := w1.heap.size) (i := 2) (.slice A6 n6 c6))
  replace hoS := hide (hoS.out.gr hgs.out)
  replace ho6 := hide (ho6.out.gr hgs.out)
  have hpq := hide (show PlQ (w3.setCell ⟨w1.heap.size, 2, none⟩ (.slice A6 n6 c6)) w.heap.size (.agg #[.slice A4 n4 c4, .int .i64 p.step, .slice A6 n6 c6]) R from plQ_mk (by rw [eP.out]; exact hoS.out.down (by omega)) (by rw [eP.out]; exact ho6.out.down (by omega)) hap.out (by rw [eP.out]) (by rw [eP.out]; first | exact hwf | exact hwa))
  obtain ⟨WX, hWX⟩ : ∃ W, Hid ((w3.setCell ⟨w1.heap.size, 2, none⟩ (.slice A6 n6 c6)) = W) := ⟨_, hide rfl⟩
  rw [hWX.out] at ta tc t7 hb hpq hgt ⊢
  have HA := hide (fun (W : World) (hq : Below WX.heap.size WX W) => show Calls Tryd.prog 60 #[.agg #[.slice A4 n4 c4, .int .i64 p.step, .slice A6 n6 c6]] W (fun e w' => e = .returned (.bool VA) ∧ Below WX.heap.size WX w' ∧ w'.cell? ⟨w1.heap.size, 0, none⟩ = some (.slice A4 n4 c4) ∧ w'.cell? ⟨w1.heap.size, 1, none⟩ = some (.int .i64 p.step) ∧ w'.cell? ⟨w1.heap.size, 2, none⟩ = some (.slice A6 n6 c6) ∧ w'.cell? ⟨w.heap.size, 0, none⟩ = some (.slice A n c) ∧ w'.cell? ⟨w.heap.size, 1, none⟩ = some (.int .i64 p.step) ∧ w'.cell? ⟨w.heap.size, 2, none⟩ = some (.slice A2 n2 c2)) from
      (placeOk_impl _ R _ W (hpq.out.up hq).plM (Nat.le_refl _)).mono fun e w' ⟨e1, hq'⟩ => by
        rw [hVA.out] at e1
        have hk := t7.out.up (upB hq hq')
        have hk2 := ta.out.up (upB hq hq')
        exact ⟨e1, upB hq hq', hk.c0, hk.c1, hk.c2, hk2.c0, hk2.c1, hk2.c2⟩)
  have HB := hide (fun (W : World) (hq : Below WX.heap.size WX W) => show Calls Tryd.prog 116 #[.agg #[.slice A n c, .int .i64 p.step, .slice A2 n2 c2], .agg #[.slice A4 n4 c4, .int .i64 p.step, .slice A6 n6 c6]] W (fun e w' => e = .returned (.bool VB) ∧ Below WX.heap.size WX w' ∧ w'.cell? ⟨w1.heap.size, 0, none⟩ = some (.slice A4 n4 c4) ∧ w'.cell? ⟨w1.heap.size, 1, none⟩ = some (.int .i64 p.step) ∧ w'.cell? ⟨w1.heap.size, 2, none⟩ = some (.slice A6 n6 c6) ∧ w'.cell? ⟨w.heap.size, 0, none⟩ = some (.slice A n c) ∧ w'.cell? ⟨w.heap.size, 1, none⟩ = some (.int .i64 p.step) ∧ w'.cell? ⟨w.heap.size, 2, none⟩ = some (.slice A2 n2 c2)) from
      (samePlaceI_c _ _ p R _ _ W (h.below ((upB hb.out hq).mono hB)) (hpq.out.up hq).plM (by have := hb.out.size; have := hq.size; omega) (Nat.le_refl _)).mono fun e w' ⟨e1, hq'⟩ => by
        rw [hVB.out] at e1
        have hk := t7.out.up (upB hq hq')
        have hk2 := ta.out.up (upB hq hq')
        exact ⟨e1, upB hq hq', hk.c0, hk.c1, hk.c2, hk2.c0, hk2.c1, hk2.c2⟩)
  have hb7n := hb7.out
  obtain ⟨a0, a1, a2, _⟩ := t7.out
  obtain ⟨b0, b1, b2, _⟩ := ta.out
  clear hVA hVB hWX eP
  cases VA with
  | false =>
    go_region_with ((go_at_call 60; (with_reducible refine (HA.out _ ?_).mono ?_); (focus (repeat (first | assumption | exact Below.refl _ _ | refine Below.drew ?_)); done); rintro e wa ⟨rfl, hqa, k0, k1, k2, k3, k4, k5⟩; have hza := hide (tc.out.up hqa); obtain ⟨xa0, xa1, xa2, ya0, ya1, ya2, _⟩ := hza.out))
    all_goals
      have hz := hide (tc.out.up hqa)
      have hb2 := hide (upB hb.out hqa)
      have hpo3 := fun (Y : World) (hy : Below wa.heap.size wa Y) => show PlQ (((Y.setCell ⟨w.heap.size + 1 + 1, 0, none⟩ (.slice A4 n4 c4)).setCell ⟨w.heap.size + 1 + 1, 1, none⟩ (.int .i64 p.step)).setCell ⟨w.heap.size + 1 + 1, 2, none⟩ (.slice A6 n6 c6)) w.heap.size (.agg #[.slice A4 n4 c4, .int .i64 p.step, .slice A6 n6 c6]) R from set3_plQ ((hpq.out.up hqa).up hy) ((hgt.out.up hqa).up hy) _ _ _
      have hb3 := fun (Y : World) (hy : Below wa.heap.size wa Y) => show Below w.heap.size w (((Y.setCell ⟨w.heap.size + 1 + 1, 0, none⟩ (.slice A4 n4 c4)).setCell ⟨w.heap.size + 1 + 1, 1, none⟩ (.int .i64 p.step)).setCell ⟨w.heap.size + 1 + 1, 2, none⟩ (.slice A6 n6 c6)) from (((upB hb2.out hy).setCell (by simp only; omega) _).setCell (by simp only; omega) _).setCell (by simp only; omega) _
      go_wp2_with fail
      first
        | (obtain ⟨z0, z1, z2, _, _, _, _⟩ := ((hz.out.set0 (.slice A4 n4 c4)).set1 (.int .i64 p.step)).set2 (.slice A6 n6 c6)
           refine bodyPost_ret (v := .tuple #[.agg #[.slice A4 n4 c4, .int .i64 p.step, .slice A6 n6 c6], .bool false]) ?_ rfl ⟨_, rfl, hpo3 _ (Below.refl _ _), hb3 _ (Below.refl _ _)⟩
           (focus (simp [results, Tryd.results88, go_sem, z0, z1, z2]; done)))
        | (obtain ⟨z0, z1, z2, _, _, _, _⟩ := ((hz.out.drew.set0 (.slice A4 n4 c4)).set1 (.int .i64 p.step)).set2 (.slice A6 n6 c6)
           refine bodyPost_ret (v := .tuple #[.agg #[.slice A4 n4 c4, .int .i64 p.step, .slice A6 n6 c6], .bool false]) ?_ rfl ⟨_, rfl, hpo3 _ ((Below.refl _ _).drew), hb3 _ ((Below.refl _ _).drew)⟩
           (focus (simp [results, Tryd.results88, go_sem, z0, z1, z2]; done)))
  | true =>
    cases VB with
    | true =>
      go_region_held3 (fun W => W.cell? ⟨w1.heap.size, 0, none⟩ = some (.slice A4 n4 c4) ∧ W.cell? ⟨w1.heap.size, 1, none⟩ = some (.int .i64 p.step) ∧ W.cell? ⟨w1.heap.size, 2, none⟩ = some (.slice A6 n6 c6) ∧ W.cell? ⟨w.heap.size, 0, none⟩ = some (.slice A n c) ∧ W.cell? ⟨w.heap.size, 1, none⟩ = some (.int .i64 p.step) ∧ W.cell? ⟨w.heap.size, 2, none⟩ = some (.slice A2 n2 c2)) (first | exact ⟨a0, a1, a2, b0, b1, b2⟩ | exact ⟨k0, k1, k2, k3, k4, k5⟩ | exact ⟨m0, m1, m2, m3, m4, m5⟩ | (refine ⟨?_, ?_, ?_, ?_, ?_, ?_⟩ <;> (repeat rw [World.cell?_setCell_other _ _ _ _ (by intro e; injection e; omega)]) <;> assumption) | go_keep) (first | (go_at_call 60; (with_reducible refine (HA.out _ ?_).mono ?_); (focus (repeat (first | assumption | exact Below.refl _ _ | refine Below.drew ?_)); done); rintro e wa ⟨rfl, hqa, k0, k1, k2, k3, k4, k5⟩; have hza := hide (tc.out.up hqa); obtain ⟨xa0, xa1, xa2, ya0, ya1, ya2, _⟩ := hza.out) | (go_at_call 116; (with_reducible refine (HB.out _ ?_).mono ?_); (focus (repeat (first | assumption | exact Below.refl _ _ | refine Below.drew ?_)); done); rintro e wb ⟨rfl, hqb, m0, m1, m2, m3, m4, m5⟩; have hzb := hide (tc.out.up hqb); obtain ⟨xb0, xb1, xb2, yb0, yb1, yb2, _⟩ := hzb.out))
      all_goals
        have hz := hide (tc.out.up hqb)
        have hb2 := hide (upB hb.out hqb)
        have hpo3 := fun (Y : World) (hy : Below wb.heap.size wb Y) => show PlQ (((Y.setCell ⟨w.heap.size + 1 + 1, 0, none⟩ (.slice A4 n4 c4)).setCell ⟨w.heap.size + 1 + 1, 1, none⟩ (.int .i64 p.step)).setCell ⟨w.heap.size + 1 + 1, 2, none⟩ (.slice A6 n6 c6)) w.heap.size (.agg #[.slice A4 n4 c4, .int .i64 p.step, .slice A6 n6 c6]) R from set3_plQ ((hpq.out.up hqb).up hy) ((hgt.out.up hqb).up hy) _ _ _
        have hb3 := fun (Y : World) (hy : Below wb.heap.size wb Y) => show Below w.heap.size w (((Y.setCell ⟨w.heap.size + 1 + 1, 0, none⟩ (.slice A4 n4 c4)).setCell ⟨w.heap.size + 1 + 1, 1, none⟩ (.int .i64 p.step)).setCell ⟨w.heap.size + 1 + 1, 2, none⟩ (.slice A6 n6 c6)) from (((upB hb2.out hy).setCell (by simp only; omega) _).setCell (by simp only; omega) _).setCell (by simp only; omega) _
        go_wp2_with fail
        first
          | (obtain ⟨z0, z1, z2, _, _, _, _⟩ := ((hz.out.set0 (.slice A4 n4 c4)).set1 (.int .i64 p.step)).set2 (.slice A6 n6 c6)
             refine bodyPost_ret (v := .tuple #[.agg #[.slice A4 n4 c4, .int .i64 p.step, .slice A6 n6 c6], .bool false]) ?_ rfl ⟨_, rfl, hpo3 _ (Below.refl _ _), hb3 _ (Below.refl _ _)⟩
             (focus (simp [results, Tryd.results88, go_sem, z0, z1, z2]; done)))
          | (obtain ⟨z0, z1, z2, _, _, _, _⟩ := ((hz.out.drew.set0 (.slice A4 n4 c4)).set1 (.int .i64 p.step)).set2 (.slice A6 n6 c6)
             refine bodyPost_ret (v := .tuple #[.agg #[.slice A4 n4 c4, .int .i64 p.step, .slice A6 n6 c6], .bool false]) ?_ rfl ⟨_, rfl, hpo3 _ ((Below.refl _ _).drew), hb3 _ ((Below.refl _ _).drew)⟩
             (focus (simp [results, Tryd.results88, go_sem, z0, z1, z2]; done)))
    | false =>
      go_region_held3 (fun W => W.cell? ⟨w1.heap.size, 0, none⟩ = some (.slice A4 n4 c4) ∧ W.cell? ⟨w1.heap.size, 1, none⟩ = some (.int .i64 p.step) ∧ W.cell? ⟨w1.heap.size, 2, none⟩ = some (.slice A6 n6 c6) ∧ W.cell? ⟨w.heap.size, 0, none⟩ = some (.slice A n c) ∧ W.cell? ⟨w.heap.size, 1, none⟩ = some (.int .i64 p.step) ∧ W.cell? ⟨w.heap.size, 2, none⟩ = some (.slice A2 n2 c2)) (first | exact ⟨a0, a1, a2, b0, b1, b2⟩ | exact ⟨k0, k1, k2, k3, k4, k5⟩ | exact ⟨m0, m1, m2, m3, m4, m5⟩ | (refine ⟨?_, ?_, ?_, ?_, ?_, ?_⟩ <;> (repeat rw [World.cell?_setCell_other _ _ _ _ (by intro e; injection e; omega)]) <;> assumption) | go_keep) (first | (go_at_call 60; (with_reducible refine (HA.out _ ?_).mono ?_); (focus (repeat (first | assumption | exact Below.refl _ _ | refine Below.drew ?_)); done); rintro e wa ⟨rfl, hqa, k0, k1, k2, k3, k4, k5⟩; have hza := hide (tc.out.up hqa); obtain ⟨xa0, xa1, xa2, ya0, ya1, ya2, _⟩ := hza.out) | (go_at_call 116; (with_reducible refine (HB.out _ ?_).mono ?_); (focus (repeat (first | assumption | exact Below.refl _ _ | refine Below.drew ?_)); done); rintro e wb ⟨rfl, hqb, m0, m1, m2, m3, m4, m5⟩; have hzb := hide (tc.out.up hqb); obtain ⟨xb0, xb1, xb2, yb0, yb1, yb2, _⟩ := hzb.out))
      all_goals
        have hz := hide (tc.out.up hqb)
        have hb2 := hide (upB hb.out hqb)
        have hpo3 := fun (Y : World) (hy : Below wb.heap.size wb Y) => show PlQ (((Y.setCell ⟨w.heap.size + 1 + 1, 0, none⟩ (.slice A4 n4 c4)).setCell ⟨w.heap.size + 1 + 1, 1, none⟩ (.int .i64 p.step)).setCell ⟨w.heap.size + 1 + 1, 2, none⟩ (.slice A6 n6 c6)) w.heap.size (.agg #[.slice A4 n4 c4, .int .i64 p.step, .slice A6 n6 c6]) R from set3_plQ ((hpq.out.up hqb).up hy) ((hgt.out.up hqb).up hy) _ _ _
        have hb3 := fun (Y : World) (hy : Below wb.heap.size wb Y) => show Below w.heap.size w (((Y.setCell ⟨w.heap.size + 1 + 1, 0, none⟩ (.slice A4 n4 c4)).setCell ⟨w.heap.size + 1 + 1, 1, none⟩ (.int .i64 p.step)).setCell ⟨w.heap.size + 1 + 1, 2, none⟩ (.slice A6 n6 c6)) from (((upB hb2.out hy).setCell (by simp only; omega) _).setCell (by simp only; omega) _).setCell (by simp only; omega) _
        go_wp2_with fail
        first
          | (obtain ⟨z0, z1, z2, _, _, _, _⟩ := ((hz.out.set0 (.slice A4 n4 c4)).set1 (.int .i64 p.step)).set2 (.slice A6 n6 c6)
             refine bodyPost_ret (v := .tuple #[.agg #[.slice A4 n4 c4, .int .i64 p.step, .slice A6 n6 c6], .bool true]) ?_ rfl ⟨_, rfl, hpo3 _ (Below.refl _ _), hb3 _ (Below.refl _ _)⟩
             (focus (simp [results, Tryd.results88, go_sem, z0, z1, z2]; done)))
          | (obtain ⟨z0, z1, z2, _, _, _, _⟩ := ((hz.out.drew.set0 (.slice A4 n4 c4)).set1 (.int .i64 p.step)).set2 (.slice A6 n6 c6)
             refine bodyPost_ret (v := .tuple #[.agg #[.slice A4 n4 c4, .int .i64 p.step, .slice A6 n6 c6], .bool true]) ?_ rfl ⟨_, rfl, hpo3 _ ((Below.refl _ _).drew), hb3 _ ((Below.refl _ _).drew)⟩
             (focus (simp [results, Tryd.results88, go_sem, z0, z1, z2]; done)))
end Go.Proofs.YtoafpokcbbncfaaDoor

namespace Go.Proofs.YtoafpokcbbncfaaDoor
open Go.RowKit
set_option linter.unusedVariables false

set_option maxRecDepth 100000 in
set_option maxHeartbeats 3200000 in
theorem placeAfter3_c (v : Value) (p : Plc) (a b : Int) (B : Nat) (w : World) (h : PlM w B v p) (hB : B ≤ w.heap.size) (hs1 : p.start.length ≤ 1048576) (hs2 : p.word.length ≤ 1048576) (hwa : (Lit.int .i64 a).wf = true) (hwb : (Lit.int .i64 b).wf = true) :
    Calls Tryd.prog 88 #[v, .agg #[.int .i64 3, .int .i64 a, .int .i64 b]] w fun e w' => ∃ u, e = .returned (.tuple #[u, .bool (afterB p ⟨3, a, b⟩)]) ∧ PlQ w' w.heap.size u (afterP p ⟨3, a, b⟩) ∧ Below w.heap.size w w' := by
  obtain ⟨A, n, c, A2, n2, c2, rfl, i1, i2, hwf⟩ := h.ex
  have hl1 := hide i1.len
  have hl2 := hide i2.len
  obtain ⟨i0, hi, hz0, hz1, hz2⟩ := info_parts infoInt
  have hb := hide (show Below w.heap.size w (((w.alloc (.cells #[.slice A n c, .int .i64 p.step, .slice A2 n2 c2] 31)).alloc (.cells #[.int .i64 3, .int .i64 a, .int .i64 b] 38)).alloc (.cells #[.slice none 0 0, .int .i64 0, .slice none 0 0] 31)) from ((al w _).alloc (by simp) _).alloc (by simp; omega) _)
  have ta := hide (show TriW (((w.alloc (.cells #[.slice A n c, .int .i64 p.step, .slice A2 n2 c2] 31)).alloc (.cells #[.int .i64 3, .int .i64 a, .int .i64 b] 38)).alloc (.cells #[.slice none 0 0, .int .i64 0, .slice none 0 0] 31)) w.heap.size (.slice A n c) (.int .i64 p.step) (.slice A2 n2 c2) from ((TriW.made w _ _ _ _).alloc _).alloc _)
  have tb := hide (show TriW (((w.alloc (.cells #[.slice A n c, .int .i64 p.step, .slice A2 n2 c2] 31)).alloc (.cells #[.int .i64 3, .int .i64 a, .int .i64 b] 38)).alloc (.cells #[.slice none 0 0, .int .i64 0, .slice none 0 0] 31)) (w.heap.size + 1) (.int .i64 3) (.int .i64 a) (.int .i64 b) from by have := (TriW.made (w.alloc (.cells #[.slice A n c, .int .i64 p.step, .slice A2 n2 c2] 31)) (.int .i64 3) (.int .i64 a) (.int .i64 b) 38).alloc (.cells #[.slice none 0 0, .int .i64 0, .slice none 0 0] 31); simpa using this)
  have tc := hide (show TriW (((w.alloc (.cells #[.slice A n c, .int .i64 p.step, .slice A2 n2 c2] 31)).alloc (.cells #[.int .i64 3, .int .i64 a, .int .i64 b] 38)).alloc (.cells #[.slice none 0 0, .int .i64 0, .slice none 0 0] 31)) (w.heap.size + 1 + 1) (.slice none 0 0) (.int .i64 0) (.slice none 0 0) from by have := TriW.made ((w.alloc (.cells #[.slice A n c, .int .i64 p.step, .slice A2 n2 c2] 31)).alloc (.cells #[.int .i64 3, .int .i64 a, .int .i64 b] 38)) (.slice none 0 0) (.int .i64 0) (.slice none 0 0) 31; simpa using this)
  have hlt := hide (show w.heap.size + 1 + 1 + 1 ≤ (((w.alloc (.cells #[.slice A n c, .int .i64 p.step, .slice A2 n2 c2] 31)).alloc (.cells #[.int .i64 3, .int .i64 a, .int .i64 b] 38)).alloc (.cells #[.slice none 0 0, .int .i64 0, .slice none 0 0] 31)).heap.size by simp)
  have hgt := hide (show PTag (((w.alloc (.cells #[.slice A n c, .int .i64 p.step, .slice A2 n2 c2] 31)).alloc (.cells #[.int .i64 3, .int .i64 a, .int .i64 b] 38)).alloc (.cells #[.slice none 0 0, .int .i64 0, .slice none 0 0] 31)) (w.heap.size + 1 + 1) from by have := PTag.made ((w.alloc (.cells #[.slice A n c, .int .i64 p.step, .slice A2 n2 c2] 31)).alloc (.cells #[.int .i64 3, .int .i64 a, .int .i64 b] 38)) #[.slice none 0 0, .int .i64 0, .slice none 0 0]; simpa using this)
  have eP := hide (show afterP p ⟨3, a, b⟩ = ⟨p.start, p.step, []⟩ by unfold afterP; rw [if_neg (by simp), if_neg (by simp), if_neg (by simp), if_neg (by simp)])
  obtain ⟨R, hR⟩ : ∃ R, Hid (afterP p ⟨3, a, b⟩ = R) := ⟨_, hide rfl⟩
  have eB := hide (show afterB p ⟨3, a, b⟩ = (placeOk R && !sameP p R) by unfold afterB; rw [hR.out])
  obtain ⟨VA, hVA⟩ : ∃ V, Hid (placeOk R = V) := ⟨_, hide rfl⟩
  obtain ⟨VB, hVB⟩ : ∃ V, Hid (sameP p R = V) := ⟨_, hide rfl⟩
  rw [hVA.out, hVB.out] at eB
  rw [hR.out] at eP ⊢
  rw [eB.out]
  clear eB hR
  go_enter Tryd.func88, Tryd.ntmps88
  obtain ⟨q1c0, q1c1, q1c2, q1f0, q1f1, q1f2, _⟩ := ta.out
  obtain ⟨q2c0, q2c1, q2c2, q2f0, q2f1, q2f2, _⟩ := tb.out
  obtain ⟨q3c0, q3c1, q3c2, q3f0, q3f1, q3f2, _⟩ := tc.out
  go_wp2_with fail
  refine (copiedPlace_c _ p _ _ (plM_mk ((i1.more hB).up hb.out) ((i2.more hB).up hb.out) hwf) (Nat.le_refl _) (by omega) (by omega)).mono ?_
  rintro e w1 ⟨u, rfl, hu, hq⟩
  replace hgt := hide (hgt.out.up hq)
  replace ta := hide (ta.out.up hq)
  replace tb := hide (tb.out.up hq)
  replace tc := hide (tc.out.up hq)
  replace hb := hide (upB hb.out hq)
  clear hq
  obtain ⟨A4, n4, c4, A5, n5, c5, rfl, o1, o2, hne, hwf4⟩ := hu.ex
  clear hu
  have hlt1 := hide (show w.heap.size + 1 + 1 + 1 ≤ w1.heap.size from by have := tc.out.lt; omega)
  have hoS := hide (o1.down (base' := w.heap.size + 1 + 1 + 1) (by simp))
  have hoD := hide (o2.down (base' := w.heap.size + 1 + 1 + 1) (by simp))
  clear o1 o2
  have hne := hide (ap_of hne)
  have hn4 := hide hoS.out.len
  have hn5 := hide hoD.out.len
  have hoD1 := hoD
  have hoS1 := hoS
  have ta_0 := ta
  have tb_0 := tb
  have tc_0 := tc
  have hgt_0 := hgt
  have hoS_0 := hoS
  have hoD_0 := hoD
  have hb_0 := hb
  replace hgt := hide (hgt.out.up (al w1 (.cells #[.slice A4 n4 c4, .int .i64 p.step, .slice A5 n5 c5] 31)))
  replace hoS := hide (hoS.out.up (al w1 (.cells #[.slice A4 n4 c4, .int .i64 p.step, .slice A5 n5 c5] 31)))
  replace hoD := hide (hoD.out.up (al w1 (.cells #[.slice A4 n4 c4, .int .i64 p.step, .slice A5 n5 c5] 31)))
  replace ta := hide (ta.out.up (al w1 (.cells #[.slice A4 n4 c4, .int .i64 p.step, .slice A5 n5 c5] 31)))
  replace tb := hide (tb.out.up (al w1 (.cells #[.slice A4 n4 c4, .int .i64 p.step, .slice A5 n5 c5] 31)))
  replace tc := hide (tc.out.up (al w1 (.cells #[.slice A4 n4 c4, .int .i64 p.step, .slice A5 n5 c5] 31)))
  replace hb := hide (upB hb.out (al w1 (.cells #[.slice A4 n4 c4, .int .i64 p.step, .slice A5 n5 c5] 31)))
  have t7 := hide (TriW.made w1 (.slice A4 n4 c4) (.int .i64 p.step) (.slice A5 n5 c5) 31)
  have g7 := hide (PTag.made w1 #[.slice A4 n4 c4, .int .i64 p.step, .slice A5 n5 c5])
  have hb7 := hide (show w.heap.size + 1 + 1 + 1 ≤ w1.heap.size from hlt1.out)
  clear q1c0 q1c1 q1c2 q1f0 q1f1 q1f2 q2c0 q2c1 q2c2 q2f0 q2f1 q2f2 q3c0 q3c1 q3c2 q3f0 q3f1 q3f2
  obtain ⟨q4c0, q4c1, q4c2, q4f0, q4f1, q4f2, _⟩ := ta.out
  obtain ⟨q5c0, q5c1, q5c2, q5f0, q5f1, q5f2, _⟩ := tb.out
  obtain ⟨q6c0, q6c1, q6c2, q6f0, q6f1, q6f2, _⟩ := tc.out
  obtain ⟨q7c0, q7c1, q7c2, q7f0, q7f1, q7f2, _⟩ := t7.out
  go_wp2_with fail
  replace ta := hide (ta_0.out.up (al w1 (.cells #[.slice A4 n4 c4, .int .i64 p.step, .slice none 0 0] 31)))
  replace tc := hide (tc_0.out.up (al w1 (.cells #[.slice A4 n4 c4, .int .i64 p.step, .slice none 0 0] 31)))
  replace hoS := hide (hoS_0.out.up (al w1 (.cells #[.slice A4 n4 c4, .int .i64 p.step, .slice none 0 0] 31)))
  replace hoD := hide (hoD_0.out.up (al w1 (.cells #[.slice A4 n4 c4, .int .i64 p.step, .slice none 0 0] 31)))
  replace hgt := hide (hgt_0.out.up (al w1 (.cells #[.slice A4 n4 c4, .int .i64 p.step, .slice none 0 0] 31)))
  replace hb := hide (upB hb_0.out (al w1 (.cells #[.slice A4 n4 c4, .int .i64 p.step, .slice none 0 0] 31)))
  replace t7 := hide (TriW.made w1 (.slice A4 n4 c4) (.int .i64 p.step) (.slice none 0 0) 31)
  have hpq := hide (show PlQ (w1.alloc (.cells #[.slice A4 n4 c4, .int .i64 p.step, .slice none 0 0] 31)) w.heap.size (.agg #[.slice A4 n4 c4, .int .i64 p.step, .slice none 0 0]) R from plQ_mk (by rw [eP.out]; exact hoS.out.down (by omega)) (by rw [eP.out]; exact Own.none_) (ap_nil.symm) (by rw [eP.out]) (by rw [eP.out]; first | exact hwf | exact hwa))
  obtain ⟨WX, hWX⟩ : ∃ W, Hid ((w1.alloc (.cells #[.slice A4 n4 c4, .int .i64 p.step, .slice none 0 0] 31)) = W) := ⟨_, hide rfl⟩
  rw [hWX.out] at ta tc t7 hb hpq hgt ⊢
  have HA := hide (fun (W : World) (hq : Below WX.heap.size WX W) => show Calls Tryd.prog 60 #[.agg #[.slice A4 n4 c4, .int .i64 p.step, .slice none 0 0]] W (fun e w' => e = .returned (.bool VA) ∧ Below WX.heap.size WX w' ∧ w'.cell? ⟨w1.heap.size, 0, none⟩ = some (.slice A4 n4 c4) ∧ w'.cell? ⟨w1.heap.size, 1, none⟩ = some (.int .i64 p.step) ∧ w'.cell? ⟨w1.heap.size, 2, none⟩ = some (.slice none 0 0) ∧ w'.cell? ⟨w.heap.size, 0, none⟩ = some (.slice A n c) ∧ w'.cell? ⟨w.heap.size, 1, none⟩ = some (.int .i64 p.step) ∧ w'.cell? ⟨w.heap.size, 2, none⟩ = some (.slice A2 n2 c2)) from
      (placeOk_impl _ R _ W (hpq.out.up hq).plM (Nat.le_refl _)).mono fun e w' ⟨e1, hq'⟩ => by
        rw [hVA.out] at e1
        have hk := t7.out.up (upB hq hq')
        have hk2 := ta.out.up (upB hq hq')
        exact ⟨e1, upB hq hq', hk.c0, hk.c1, hk.c2, hk2.c0, hk2.c1, hk2.c2⟩)
  have HB := hide (fun (W : World) (hq : Below WX.heap.size WX W) => show Calls Tryd.prog 116 #[.agg #[.slice A n c, .int .i64 p.step, .slice A2 n2 c2], .agg #[.slice A4 n4 c4, .int .i64 p.step, .slice none 0 0]] W (fun e w' => e = .returned (.bool VB) ∧ Below WX.heap.size WX w' ∧ w'.cell? ⟨w1.heap.size, 0, none⟩ = some (.slice A4 n4 c4) ∧ w'.cell? ⟨w1.heap.size, 1, none⟩ = some (.int .i64 p.step) ∧ w'.cell? ⟨w1.heap.size, 2, none⟩ = some (.slice none 0 0) ∧ w'.cell? ⟨w.heap.size, 0, none⟩ = some (.slice A n c) ∧ w'.cell? ⟨w.heap.size, 1, none⟩ = some (.int .i64 p.step) ∧ w'.cell? ⟨w.heap.size, 2, none⟩ = some (.slice A2 n2 c2)) from
      (samePlaceI_c _ _ p R _ _ W (h.below ((upB hb.out hq).mono hB)) (hpq.out.up hq).plM (by have := hb.out.size; have := hq.size; omega) (Nat.le_refl _)).mono fun e w' ⟨e1, hq'⟩ => by
        rw [hVB.out] at e1
        have hk := t7.out.up (upB hq hq')
        have hk2 := ta.out.up (upB hq hq')
        exact ⟨e1, upB hq hq', hk.c0, hk.c1, hk.c2, hk2.c0, hk2.c1, hk2.c2⟩)
  have hb7n := hb7.out
  obtain ⟨a0, a1, a2, _⟩ := t7.out
  obtain ⟨b0, b1, b2, _⟩ := ta.out
  clear hVA hVB hWX eP
  cases VA with
  | false =>
    go_region_with ((go_at_call 60; (with_reducible refine (HA.out _ ?_).mono ?_); (focus (repeat (first | assumption | exact Below.refl _ _ | refine Below.drew ?_)); done); rintro e wa ⟨rfl, hqa, k0, k1, k2, k3, k4, k5⟩; have hza := hide (tc.out.up hqa); obtain ⟨xa0, xa1, xa2, ya0, ya1, ya2, _⟩ := hza.out))
    all_goals
      have hz := hide (tc.out.up hqa)
      have hb2 := hide (upB hb.out hqa)
      have hpo3 := fun (Y : World) (hy : Below wa.heap.size wa Y) => show PlQ (((Y.setCell ⟨w.heap.size + 1 + 1, 0, none⟩ (.slice A4 n4 c4)).setCell ⟨w.heap.size + 1 + 1, 1, none⟩ (.int .i64 p.step)).setCell ⟨w.heap.size + 1 + 1, 2, none⟩ (.slice none 0 0)) w.heap.size (.agg #[.slice A4 n4 c4, .int .i64 p.step, .slice none 0 0]) R from set3_plQ ((hpq.out.up hqa).up hy) ((hgt.out.up hqa).up hy) _ _ _
      have hb3 := fun (Y : World) (hy : Below wa.heap.size wa Y) => show Below w.heap.size w (((Y.setCell ⟨w.heap.size + 1 + 1, 0, none⟩ (.slice A4 n4 c4)).setCell ⟨w.heap.size + 1 + 1, 1, none⟩ (.int .i64 p.step)).setCell ⟨w.heap.size + 1 + 1, 2, none⟩ (.slice none 0 0)) from (((upB hb2.out hy).setCell (by simp only; omega) _).setCell (by simp only; omega) _).setCell (by simp only; omega) _
      go_wp2_with fail
      first
        | (obtain ⟨z0, z1, z2, _, _, _, _⟩ := ((hz.out.set0 (.slice A4 n4 c4)).set1 (.int .i64 p.step)).set2 (.slice none 0 0)
           refine bodyPost_ret (v := .tuple #[.agg #[.slice A4 n4 c4, .int .i64 p.step, .slice none 0 0], .bool false]) ?_ rfl ⟨_, rfl, hpo3 _ (Below.refl _ _), hb3 _ (Below.refl _ _)⟩
           (focus (simp [results, Tryd.results88, go_sem, z0, z1, z2]; done)))
        | (obtain ⟨z0, z1, z2, _, _, _, _⟩ := ((hz.out.drew.set0 (.slice A4 n4 c4)).set1 (.int .i64 p.step)).set2 (.slice none 0 0)
           refine bodyPost_ret (v := .tuple #[.agg #[.slice A4 n4 c4, .int .i64 p.step, .slice none 0 0], .bool false]) ?_ rfl ⟨_, rfl, hpo3 _ ((Below.refl _ _).drew), hb3 _ ((Below.refl _ _).drew)⟩
           (focus (simp [results, Tryd.results88, go_sem, z0, z1, z2]; done)))
  | true =>
    cases VB with
    | true =>
      go_region_held3 (fun W => W.cell? ⟨w1.heap.size, 0, none⟩ = some (.slice A4 n4 c4) ∧ W.cell? ⟨w1.heap.size, 1, none⟩ = some (.int .i64 p.step) ∧ W.cell? ⟨w1.heap.size, 2, none⟩ = some (.slice none 0 0) ∧ W.cell? ⟨w.heap.size, 0, none⟩ = some (.slice A n c) ∧ W.cell? ⟨w.heap.size, 1, none⟩ = some (.int .i64 p.step) ∧ W.cell? ⟨w.heap.size, 2, none⟩ = some (.slice A2 n2 c2)) (first | exact ⟨a0, a1, a2, b0, b1, b2⟩ | exact ⟨k0, k1, k2, k3, k4, k5⟩ | exact ⟨m0, m1, m2, m3, m4, m5⟩ | (refine ⟨?_, ?_, ?_, ?_, ?_, ?_⟩ <;> (repeat rw [World.cell?_setCell_other _ _ _ _ (by intro e; injection e; omega)]) <;> assumption) | go_keep) (first | (go_at_call 60; (with_reducible refine (HA.out _ ?_).mono ?_); (focus (repeat (first | assumption | exact Below.refl _ _ | refine Below.drew ?_)); done); rintro e wa ⟨rfl, hqa, k0, k1, k2, k3, k4, k5⟩; have hza := hide (tc.out.up hqa); obtain ⟨xa0, xa1, xa2, ya0, ya1, ya2, _⟩ := hza.out) | (go_at_call 116; (with_reducible refine (HB.out _ ?_).mono ?_); (focus (repeat (first | assumption | exact Below.refl _ _ | refine Below.drew ?_)); done); rintro e wb ⟨rfl, hqb, m0, m1, m2, m3, m4, m5⟩; have hzb := hide (tc.out.up hqb); obtain ⟨xb0, xb1, xb2, yb0, yb1, yb2, _⟩ := hzb.out))
      all_goals
        have hz := hide (tc.out.up hqb)
        have hb2 := hide (upB hb.out hqb)
        have hpo3 := fun (Y : World) (hy : Below wb.heap.size wb Y) => show PlQ (((Y.setCell ⟨w.heap.size + 1 + 1, 0, none⟩ (.slice A4 n4 c4)).setCell ⟨w.heap.size + 1 + 1, 1, none⟩ (.int .i64 p.step)).setCell ⟨w.heap.size + 1 + 1, 2, none⟩ (.slice none 0 0)) w.heap.size (.agg #[.slice A4 n4 c4, .int .i64 p.step, .slice none 0 0]) R from set3_plQ ((hpq.out.up hqb).up hy) ((hgt.out.up hqb).up hy) _ _ _
        have hb3 := fun (Y : World) (hy : Below wb.heap.size wb Y) => show Below w.heap.size w (((Y.setCell ⟨w.heap.size + 1 + 1, 0, none⟩ (.slice A4 n4 c4)).setCell ⟨w.heap.size + 1 + 1, 1, none⟩ (.int .i64 p.step)).setCell ⟨w.heap.size + 1 + 1, 2, none⟩ (.slice none 0 0)) from (((upB hb2.out hy).setCell (by simp only; omega) _).setCell (by simp only; omega) _).setCell (by simp only; omega) _
        go_wp2_with fail
        first
          | (obtain ⟨z0, z1, z2, _, _, _, _⟩ := ((hz.out.set0 (.slice A4 n4 c4)).set1 (.int .i64 p.step)).set2 (.slice none 0 0)
             refine bodyPost_ret (v := .tuple #[.agg #[.slice A4 n4 c4, .int .i64 p.step, .slice none 0 0], .bool false]) ?_ rfl ⟨_, rfl, hpo3 _ (Below.refl _ _), hb3 _ (Below.refl _ _)⟩
             (focus (simp [results, Tryd.results88, go_sem, z0, z1, z2]; done)))
          | (obtain ⟨z0, z1, z2, _, _, _, _⟩ := ((hz.out.drew.set0 (.slice A4 n4 c4)).set1 (.int .i64 p.step)).set2 (.slice none 0 0)
             refine bodyPost_ret (v := .tuple #[.agg #[.slice A4 n4 c4, .int .i64 p.step, .slice none 0 0], .bool false]) ?_ rfl ⟨_, rfl, hpo3 _ ((Below.refl _ _).drew), hb3 _ ((Below.refl _ _).drew)⟩
             (focus (simp [results, Tryd.results88, go_sem, z0, z1, z2]; done)))
    | false =>
      go_region_held3 (fun W => W.cell? ⟨w1.heap.size, 0, none⟩ = some (.slice A4 n4 c4) ∧ W.cell? ⟨w1.heap.size, 1, none⟩ = some (.int .i64 p.step) ∧ W.cell? ⟨w1.heap.size, 2, none⟩ = some (.slice none 0 0) ∧ W.cell? ⟨w.heap.size, 0, none⟩ = some (.slice A n c) ∧ W.cell? ⟨w.heap.size, 1, none⟩ = some (.int .i64 p.step) ∧ W.cell? ⟨w.heap.size, 2, none⟩ = some (.slice A2 n2 c2)) (first | exact ⟨a0, a1, a2, b0, b1, b2⟩ | exact ⟨k0, k1, k2, k3, k4, k5⟩ | exact ⟨m0, m1, m2, m3, m4, m5⟩ | (refine ⟨?_, ?_, ?_, ?_, ?_, ?_⟩ <;> (repeat rw [World.cell?_setCell_other _ _ _ _ (by intro e; injection e; omega)]) <;> assumption) | go_keep) (first | (go_at_call 60; (with_reducible refine (HA.out _ ?_).mono ?_); (focus (repeat (first | assumption | exact Below.refl _ _ | refine Below.drew ?_)); done); rintro e wa ⟨rfl, hqa, k0, k1, k2, k3, k4, k5⟩; have hza := hide (tc.out.up hqa); obtain ⟨xa0, xa1, xa2, ya0, ya1, ya2, _⟩ := hza.out) | (go_at_call 116; (with_reducible refine (HB.out _ ?_).mono ?_); (focus (repeat (first | assumption | exact Below.refl _ _ | refine Below.drew ?_)); done); rintro e wb ⟨rfl, hqb, m0, m1, m2, m3, m4, m5⟩; have hzb := hide (tc.out.up hqb); obtain ⟨xb0, xb1, xb2, yb0, yb1, yb2, _⟩ := hzb.out))
      all_goals
        have hz := hide (tc.out.up hqb)
        have hb2 := hide (upB hb.out hqb)
        have hpo3 := fun (Y : World) (hy : Below wb.heap.size wb Y) => show PlQ (((Y.setCell ⟨w.heap.size + 1 + 1, 0, none⟩ (.slice A4 n4 c4)).setCell ⟨w.heap.size + 1 + 1, 1, none⟩ (.int .i64 p.step)).setCell ⟨w.heap.size + 1 + 1, 2, none⟩ (.slice none 0 0)) w.heap.size (.agg #[.slice A4 n4 c4, .int .i64 p.step, .slice none 0 0]) R from set3_plQ ((hpq.out.up hqb).up hy) ((hgt.out.up hqb).up hy) _ _ _
        have hb3 := fun (Y : World) (hy : Below wb.heap.size wb Y) => show Below w.heap.size w (((Y.setCell ⟨w.heap.size + 1 + 1, 0, none⟩ (.slice A4 n4 c4)).setCell ⟨w.heap.size + 1 + 1, 1, none⟩ (.int .i64 p.step)).setCell ⟨w.heap.size + 1 + 1, 2, none⟩ (.slice none 0 0)) from (((upB hb2.out hy).setCell (by simp only; omega) _).setCell (by simp only; omega) _).setCell (by simp only; omega) _
        go_wp2_with fail
        first
          | (obtain ⟨z0, z1, z2, _, _, _, _⟩ := ((hz.out.set0 (.slice A4 n4 c4)).set1 (.int .i64 p.step)).set2 (.slice none 0 0)
             refine bodyPost_ret (v := .tuple #[.agg #[.slice A4 n4 c4, .int .i64 p.step, .slice none 0 0], .bool true]) ?_ rfl ⟨_, rfl, hpo3 _ (Below.refl _ _), hb3 _ (Below.refl _ _)⟩
             (focus (simp [results, Tryd.results88, go_sem, z0, z1, z2]; done)))
          | (obtain ⟨z0, z1, z2, _, _, _, _⟩ := ((hz.out.drew.set0 (.slice A4 n4 c4)).set1 (.int .i64 p.step)).set2 (.slice none 0 0)
             refine bodyPost_ret (v := .tuple #[.agg #[.slice A4 n4 c4, .int .i64 p.step, .slice none 0 0], .bool true]) ?_ rfl ⟨_, rfl, hpo3 _ ((Below.refl _ _).drew), hb3 _ ((Below.refl _ _).drew)⟩
             (focus (simp [results, Tryd.results88, go_sem, z0, z1, z2]; done)))
end Go.Proofs.YtoafpokcbbncfaaDoor

namespace Go.Proofs.YtoafpokcbbncfaaDoor
open Go.RowKit
set_option linter.unusedVariables false

set_option maxRecDepth 100000 in
set_option maxHeartbeats 3200000 in
theorem copiedDesk_c (v : Value) (d : Dsk) (B : Nat) (w : World) (h : DkM w B v d) (hB : B ≤ w.heap.size) (h1 : smallP d.now) (h2 : d.past.length ≤ 1000) (h3 : ∀ p ∈ d.past, smallP p) :
    Calls Tryd.prog 46 #[v] w fun e w' => ∃ u, e = .returned u ∧ DkR w' w.heap.size u d ∧ Below w.heap.size w w' := by
  obtain ⟨A, n, c, A2, n2, c2, A3, n3, c3, rfl, i1, i2, hwf, i3⟩ := h.ex
  have hl3 := hide i3.len
  replace h3 := hide h3
  have hsn := hide h1
  clear h1
  have hn3 : n3 ≤ 1000 := by have := hl3.out; omega
  obtain ⟨i0, hi, hz0, hz1, hz2⟩ := infoPl_parts
  have hb := hide (show Below w.heap.size w ((w.alloc (.cells #[.slice A n c, .int .i64 d.now.step, .slice A2 n2 c2, .slice A3 n3 c3] 34)).alloc (.cells #[.slice none 0 0, .int .i64 0, .slice none 0 0, .slice none 0 0] 34)) from (al w _).alloc (by simp) _)
  have ta := hide (show QuaW ((w.alloc (.cells #[.slice A n c, .int .i64 d.now.step, .slice A2 n2 c2, .slice A3 n3 c3] 34)).alloc (.cells #[.slice none 0 0, .int .i64 0, .slice none 0 0, .slice none 0 0] 34)) w.heap.size (.slice A n c) (.int .i64 d.now.step) (.slice A2 n2 c2) (.slice A3 n3 c3) from (QuaW.made w _ _ _ _ _).alloc _)
  have tr := hide (show QuaW ((w.alloc (.cells #[.slice A n c, .int .i64 d.now.step, .slice A2 n2 c2, .slice A3 n3 c3] 34)).alloc (.cells #[.slice none 0 0, .int .i64 0, .slice none 0 0, .slice none 0 0] 34)) (w.heap.size + 1) (.slice none 0 0) (.int .i64 0) (.slice none 0 0) (.slice none 0 0) from by have := QuaW.made (w.alloc (.cells #[.slice A n c, .int .i64 d.now.step, .slice A2 n2 c2, .slice A3 n3 c3] 34)) (.slice none 0 0) (.int .i64 0) (.slice none 0 0) (.slice none 0 0) 34; simpa using this)
  have gr := hide (show DTag ((w.alloc (.cells #[.slice A n c, .int .i64 d.now.step, .slice A2 n2 c2, .slice A3 n3 c3] 34)).alloc (.cells #[.slice none 0 0, .int .i64 0, .slice none 0 0, .slice none 0 0] 34)) (w.heap.size + 1) from by have := DTag.made (w.alloc (.cells #[.slice A n c, .int .i64 d.now.step, .slice A2 n2 c2, .slice A3 n3 c3] 34)) #[.slice none 0 0, .int .i64 0, .slice none 0 0, .slice none 0 0]; simpa using this)
  go_enter Tryd.func46, Tryd.ntmps46
  obtain ⟨q1c0, q1c1, q1c2, q1c3, q1f0, q1f1, q1f2, q1f3, _⟩ := ta.out
  obtain ⟨q2c0, q2c1, q2c2, q2c3, q2f0, q2f1, q2f2, q2f3, _⟩ := tr.out
  go_wp2_with (at_make; refine wpList_make_full _ rfl _ _ 32 rfl (w.heap.size + 1 + 1) 31 i0 (.agg #[.slice none 0 0, .int .i64 0, .slice none 0 0]) 3 Tryd.underlying32 hi hz0 hz1 .i64 .i64 _ _ n3 rfl rfl rfl rfl (by rw [hz2]; omega) (by unfold maxLen; omega) (by simp) ?_; intro w1 hown0 hgrow0; have ta1 := hide (ta.out.grown hgrow0 (fun k e => by cases e)); obtain ⟨u0, u1, u2, u3, _⟩ := ta1.out)
  have hbm := hide (show Below ((w.alloc (.cells #[.slice A n c, .int .i64 d.now.step, .slice A2 n2 c2, .slice A3 n3 c3] 34)).alloc (.cells #[.slice none 0 0, .int .i64 0, .slice none 0 0, .slice none 0 0] 34)).heap.size ((w.alloc (.cells #[.slice A n c, .int .i64 d.now.step, .slice A2 n2 c2, .slice A3 n3 c3] 34)).alloc (.cells #[.slice none 0 0, .int .i64 0, .slice none 0 0, .slice none 0 0] 34)) w1 from (Below.refl _ _).grown hgrow0 (Nat.le_refl _) (fun k hk => by cases hk))
  have hM : ((w.alloc (.cells #[.slice A n c, .int .i64 d.now.step, .slice A2 n2 c2, .slice A3 n3 c3] 34)).alloc (.cells #[.slice none 0 0, .int .i64 0, .slice none 0 0, .slice none 0 0] 34)).heap.size = w.heap.size + 1 + 1 := by simp
  rw [hM] at hown0
  have ho0 := hide (show OwnQ w1 (w.heap.size + 1 + 1) w1.heap.size (.slice (some ⟨w.heap.size + 1 + 1, 0, none⟩) n3 n3) (cpyP d.past 0) by rw [cpyP_zero, hl3.out]; exact ownQ_made hown0)
  replace ta := ta1
  replace tr := hide (tr.out.up hbm.out)
  replace gr := hide (gr.out.up hbm.out)
  replace hb := hide (upB hb.out hbm.out)
  have hs0 := hide (show w.heap.size + 1 + 1 < w1.heap.size from by
    rcases ho0.out.shape with ⟨e, _⟩ | ⟨g, c', e, h1, h2⟩
    · injection e with e; cases e
    · omega)
  clear hown0 hgrow0 ta1 hbm u0 u1 u2 u3
  clear q1c0 q1c1 q1c2 q1c3 q1f0 q1f1 q1f2 q1f3 q2c0 q2c1 q2c2 q2c3 q2f0 q2f1 q2f2 q2f3
  go_loopw [13] (fun i wr => ∃ k : Nat, k ≤ n3 ∧ i = .int .i64 k ∧ Hid (OwnQ wr (w.heap.size + 1 + 1) wr.heap.size (.slice (some ⟨w.heap.size + 1 + 1, 0, none⟩) n3 n3) (cpyP d.past k)) ∧ Hid (Below w.heap.size w wr) ∧ Hid (w.heap.size + 1 + 1 < wr.heap.size) ∧ Hid (QuaW wr w.heap.size (.slice A n c) (.int .i64 d.now.step) (.slice A2 n2 c2) (.slice A3 n3 c3)) ∧ Hid (QuaW wr (w.heap.size + 1) (.slice none 0 0) (.int .i64 0) (.slice none 0 0) (.slice none 0 0)) ∧ Hid (DTag wr (w.heap.size + 1))) (fun i _ => n3 - (intOf i).toNat)
  case atStart => exact ⟨0, Nat.zero_le _, rfl, ho0, hb, hs0, ta, tr, gr⟩
  case round =>
    clear ho0 hb hs0 ta tr gr
    obtain ⟨k, hk, rfl, ho, hb, hs, ta, tr, gr⟩ := hrel
    by_cases hlt : k < n3
    ·
      obtain ⟨b, off, p, rfl, hbB, hx, hc⟩ := (i3.below (hb.out.mono hB)).look hlt
      obtain ⟨B1, m1, e1, B2, m2, e2, hc1, hc2, hc3, hpm⟩ := hc.plM
      have hkl : k < d.past.length := by have := hl3.out; omega
      have hsp := h3.out p (List.mem_of_getElem? hx.out)
      have hqx := hide (al wr (.cells #[.slice B1 m1 e1, .int .i64 p.step, .slice B2 m2 e2] 31))
      have HT := hide (copiedPlace_c _ p _ (wr.alloc (.cells #[.slice B1 m1 e1, .int .i64 p.step, .slice B2 m2 e2] 31)) (hpm.below (hqx.out.mono (by have := hb.out.size; omega))) (by have := hb.out.size; have := hqx.out.size; omega) hsp.1 hsp.2)
      have tp := hide (Tri.made wr (.slice B1 m1 e1) (.int .i64 p.step) (.slice B2 m2 e2) 31)
      obtain ⟨p0, p1, p2, _⟩ := tp.out
      clear hc hpm
      go_wp2_with fail
      refine HT.out.mono ?_
      rintro e w2 ⟨u, rfl, hou, hq⟩
      obtain ⟨A4, n4, c4, A5, n5, c5, rfl, o1, o2, hne, hwf2⟩ := hou.ex
      have hqq := hide (upB hqx.out hq)
      have ho2 := hide (ho.out.up hqq.out)
      have hb2 := hide (upB hb.out hqq.out)
      have hs2 := hide (Nat.lt_of_lt_of_le hs.out hqq.out.size)
      have ta2 := hide (ta.out.up hqq.out)
      have tr2 := hide (tr.out.up hqq.out)
      have gr2 := hide (gr.out.up hqq.out)
      obtain ⟨g, x0, x1, x2, hA, hg, hgl, ⟨a1, a2⟩, ⟨a3, a4⟩, ⟨a5, a6⟩, ⟨a7, a8⟩, ⟨a9, a10⟩⟩ := ho2.out.at3 (cpyP_at hkl) (.slice A4 n4 c4) (.int .i64 p.step)
      injection hA with hA
      injection hA with hA _ _
      subst hA
      have hgs := hide (grown_setP w2 (w.heap.size + 1 + 1) k (.slice A4 n4 c4) p.step (.slice A5 n5 c5))
      have ho3 := hide (show OwnQ (((w2.setCell ⟨w.heap.size + 1 + 1, k * 3, none⟩ (.slice A4 n4 c4)).setCell ⟨w.heap.size + 1 + 1, k * 3 + 1, none⟩ (.int .i64 p.step)).setCell ⟨w.heap.size + 1 + 1, k * 3 + 2, none⟩ (.slice A5 n5 c5)) (w.heap.size + 1 + 1) w2.heap.size (.slice (some ⟨w.heap.size + 1 + 1, 0, none⟩) n3 n3) (cpyP d.past (k + 1)) by
        have := ho2.out.put (j := k) (q := p) (hi' := w2.heap.size) (by rw [cpyP_len (by omega)]; exact hkl) (o1.down (by simp)) (o2.down (by simp)) hne hwf2 (Nat.le_of_lt hs.out) (Nat.le_refl _) hqq.out.size
        rw [cpyP_set hx.out] at this
        exact this)
      have hb3 := hide (show Below w.heap.size w (((w2.setCell ⟨w.heap.size + 1 + 1, k * 3, none⟩ (.slice A4 n4 c4)).setCell ⟨w.heap.size + 1 + 1, k * 3 + 1, none⟩ (.int .i64 p.step)).setCell ⟨w.heap.size + 1 + 1, k * 3 + 2, none⟩ (.slice A5 n5 c5)) from hb2.out.grown hgs.out hb2.out.size (fun j e => by injection e with e; omega))
      have ta3 := hide (show QuaW (((w2.setCell ⟨w.heap.size + 1 + 1, k * 3, none⟩ (.slice A4 n4 c4)).setCell ⟨w.heap.size + 1 + 1, k * 3 + 1, none⟩ (.int .i64 p.step)).setCell ⟨w.heap.size + 1 + 1, k * 3 + 2, none⟩ (.slice A5 n5 c5)) _ _ _ _ _ from ta2.out.grown hgs.out (fun j e => by injection e with e; omega))
      have tr3 := hide (show QuaW (((w2.setCell ⟨w.heap.size + 1 + 1, k * 3, none⟩ (.slice A4 n4 c4)).setCell ⟨w.heap.size + 1 + 1, k * 3 + 1, none⟩ (.int .i64 p.step)).setCell ⟨w.heap.size + 1 + 1, k * 3 + 2, none⟩ (.slice A5 n5 c5)) _ _ _ _ _ from tr2.out.grown hgs.out (fun j e => by injection e with e; omega))
      have gr3 := hide (show DTag (((w2.setCell ⟨w.heap.size + 1 + 1, k * 3, none⟩ (.slice A4 n4 c4)).setCell ⟨w.heap.size + 1 + 1, k * 3 + 1, none⟩ (.int .i64 p.step)).setCell ⟨w.heap.size + 1 + 1, k * 3 + 2, none⟩ (.slice A5 n5 c5)) (w.heap.size + 1) from by
        obtain ⟨cs, e⟩ := gr2.out.ob
        exact ⟨cs, (hgs.out.block _ gr2.out.lt (fun e => by injection e with e; omega)).trans e⟩)
      clear hq ho2 hgs hou o1 o2 hqx hqq ta2 tr2 gr2 ta tr gr ho hb
      go_wp2
      go_roundw
      case rel => exact ⟨k + 1, by omega, by go_num, hide (by simpa using ho3.out), hb3, hide (by simpa using hs2.out), ta3, tr3, gr3⟩
      case measure => simp [intOf]; omega
    ·
      obtain rfl : k = n3 := by omega
      have hoq := hide (show OwnQ wr (w.heap.size + 1 + 1) wr.heap.size (.slice (some ⟨w.heap.size + 1 + 1, 0, none⟩) k k) d.past by have := ho.out; rwa [← hl3.out, cpyP_all, hl3.out] at this)
      have HN := hide (copiedPlace_c _ d.now _ wr (plM_mk ((i1.below (hb.out.mono hB))) (i2.below (hb.out.mono hB)) hwf) (by have := hb.out.size; omega) hsn.out.1 hsn.out.2)
      obtain ⟨u0, u1, u2, u3, _⟩ := ta.out
      go_wp2_with fail
      refine HN.out.mono ?_
      rintro e w2 ⟨u, rfl, hou, hq⟩
      obtain ⟨A4, n4, c4, A5, n5, c5, rfl, o1, o2, hne, hwf2⟩ := hou.ex
      obtain ⟨ts, q1, q2, q3, q4⟩ := hoq.out.slo
      have hone : OneT w2 wr.heap.size (.slice A4 n4 c4, .slice A5 n5 c5, d.now) := ⟨o1, o2, ap_of hne, hwf2⟩
      have hdk := hide (show DkR w2 w.heap.size (.agg #[.slice A4 n4 c4, .int .i64 d.now.step, .slice A5 n5 c5, .slice (some ⟨w.heap.size + 1 + 1, 0, none⟩) k k]) ⟨d.now, d.past⟩ from
        (dkR_mk (lo := w.heap.size + 1 + 1) (hone.down (Nat.le_of_lt hs.out)) q1 q2 (q3.up hq) (q4.cons (q4.up hq) hone (Nat.le_refl _) (Nat.le_of_lt hs.out)) rfl).down (by omega))
      replace tr := hide (tr.out.up hq)
      replace gr := hide (gr.out.up hq)
      replace hb := hide (upB hb.out hq)
      obtain ⟨y0, y1, y2, y3, f0, f1, f2, f3, _⟩ := tr.out
      clear hq hou o1 o2 hone q1 q2 q3 q4 hoq ho
      go_wp2_with fail
      obtain ⟨z0, z1, z2, z3, _⟩ := (((tr.out.set0 (.slice A4 n4 c4)).set1 (.int .i64 d.now.step)).set2 (.slice A5 n5 c5)).set3 (.slice (some ⟨w.heap.size + 1 + 1, 0, none⟩) k k)
      exact bodyPost_ret (v := .agg #[.slice A4 n4 c4, .int .i64 d.now.step, .slice A5 n5 c5, .slice (some ⟨w.heap.size + 1 + 1, 0, none⟩) k k]) (by simp [results, Tryd.results46, go_sem, z0, z1, z2, z3]) rfl ⟨_, rfl, hdk.out.set4 gr.out _ _ _ _, (((hb.out.setCell (Nat.le_succ _) _).setCell (Nat.le_succ _) _).setCell (Nat.le_succ _) _).setCell (Nat.le_succ _) _⟩
end Go.Proofs.YtoafpokcbbncfaaDoor
