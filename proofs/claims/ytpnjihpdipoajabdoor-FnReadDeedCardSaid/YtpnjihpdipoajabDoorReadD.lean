/-
  Contracts of chapter 14, the specification's side: ReadDeed.
-/
import Derived.Test.YtpnjihpdipoajabDoorJournS
import Derived.Test.YtpnjihpdipoajabDoorReadP
namespace Go.Proofs.YtpnjihpdipoajabDoor
open Go.RowKit
set_option linter.unusedVariables false

theorem find_hit {α : Type} {p : α → Bool} {l : List α} {k : Nat} {x : α} (hx : l[k]? = some x) (hp : p x = true) (h : ∀ (j : Nat) y, j < k → l[j]? = some y → p y = false) : l.find? p = some x := by
  induction l generalizing k with
  | nil => simp at hx
  | cons a r ih =>
    cases k with
    | zero =>
      simp at hx; subst hx
      rw [List.find?_cons_of_pos hp]
    | succ k =>
      have h0 := h 0 a (by omega) rfl
      rw [List.find?_cons_of_neg (by rw [h0]; decide)]
      exact ih (k := k) (by simpa using hx) (fun j y hj hy => h (j + 1) y (by omega) (by simpa using hy))
theorem wfD_mk {k a b : Int} (h1 : (Lit.int .i64 k).wf = true) (h2 : (Lit.int .i64 a).wf = true) (h3 : (Lit.int .i64 b).wf = true) : wfD ⟨k, a, b⟩ := ⟨h1, h2, h3⟩
theorem wf_lit2 : ∀ x ∈ [(⟨3, 0, 0⟩ : Ded), ⟨4, 0, 0⟩], wfD x := by
  intro x hx
  simp at hx
  rcases hx with rfl | rfl
  · exact ⟨by decide, by decide, by decide⟩
  · exact ⟨by decide, by decide, by decide⟩
theorem StrM.look2 {w : World} {B cc : Nat} {A : Option Addr} {x y : ByteArray} (h : StrM w B A 2 cc [x, y]) : ∃ b off, A = some ⟨b, off, none⟩ ∧ b < B ∧ w.cell? ⟨b, off, none⟩ = some (.string x) ∧ w.cell? ⟨b, off + 1, none⟩ = some (.string y) := by
  obtain ⟨b, off, e, hb, hc⟩ := h.cells (by omega)
  exact ⟨b, off, e, hb, hc 0 x rfl, hc 1 y rfl⟩
theorem cands_2 {l a b : Bs} (h : cutT 32 l = [a, b]) : cands l = [⟨3, 0, 0⟩, ⟨4, 0, 0⟩] ++ [⟨1, signP b, 0⟩, ⟨2, signP b, 0⟩] := by unfold cands; rw [h]
theorem cands_3 {l a b c : Bs} (h : cutT 32 l = [a, b, c]) : cands l = [⟨3, 0, 0⟩, ⟨4, 0, 0⟩] ++ [⟨0, signP b, signP c⟩] := by unfold cands; rw [h]
theorem cands_0 {l : Bs} (h2 : (cutT 32 l).length ≠ 2) (h3 : (cutT 32 l).length ≠ 3) : cands l = [⟨3, 0, 0⟩, ⟨4, 0, 0⟩] := by
  unfold cands
  match hc : cutT 32 l with
  | [] => rfl
  | [a] => rfl
  | [a, b] => rw [hc] at h2; exact absurd rfl h2
  | [a, b, c] => rw [hc] at h3; exact absurd rfl h3
  | _ :: _ :: _ :: _ :: _ => rfl
set_option maxRecDepth 100000 in
set_option maxHeartbeats 6400000 in
theorem readDeed_spec (s : ByteArray) (w : World) (hs : s.size ≤ 1048576) :
    Calls Tryd.prog 13 #[.string s] w fun e w' => e = .returned (.tuple #[.agg #[.int .i64 (readDQ (bts s)).k, .int .i64 (readDQ (bts s)).a, .int .i64 (readDQ (bts s)).b], .bool (readDB (bts s))]) ∧ Below w.heap.size w w' := by
  obtain ⟨i0, hi, hz0, hz1, hz2⟩ := info_parts infoDeed
  have H1 := hide (fun W => l1Cut_c s 32 32 W rfl hs)
  by_cases h2 : (cutT 32 (bts s)).length = 2
  · obtain ⟨pa, pb, hcut⟩ : ∃ a b, cutT 32 (bts s) = [a, b] := by
      match hc : cutT 32 (bts s) with
      | [] => rw [hc] at h2; cases h2
      | [a] => rw [hc] at h2; cases h2
      | [a, b] => exact ⟨a, b, rfl⟩
      | _ :: _ :: _ :: _ => rw [hc] at h2; simp at h2
    have hca := hide (cands_2 hcut)
    rw [hcut] at H1
    have HS := hide (fun W => l15Signed_c (strB pb) W)
    rw [bts_strB] at HS
    obtain ⟨Sa, hSa⟩ : ∃ S, Hid (strB pa = S) := ⟨_, hide rfl⟩
    obtain ⟨Sb, hSb⟩ : ∃ S, Hid (strB pb = S) := ⟨_, hide rfl⟩
    have hDb := signP_bound pb
    obtain ⟨D, hD⟩ : ∃ D, Hid (signP pb = D) := ⟨_, hide rfl⟩
    rw [hD.out] at HS hDb hca
    rw [hSb.out] at HS
    rw [List.map_cons, List.map_cons, List.map_nil, hSa.out, hSb.out] at H1
    have hwe := hide (show ∀ x ∈ [(⟨1, D, 0⟩ : Ded), ⟨2, D, 0⟩], wfD x by
      intro x hx
      simp at hx
      rcases hx with rfl | rfl
      · exact wfD_mk (by decide) (wf_i64 (by omega)) (by decide)
      · exact wfD_mk (by decide) (wf_i64 (by omega)) (by decide))
    clear h2
    go_enter Tryd.func13, Tryd.ntmps13
    go_wp2_with fail
    refine (H1.out _).mono ?_
    rintro e w1 ⟨A, n, cc, rfl, ho, hq⟩
    have hn : 2 = n := by have := ho.len; simpa using this.symm
    subst hn
    have ht2 := hide ((TriW.made w (.int .i64 0) (.int .i64 0) (.int .i64 0) 24).up hq)
    have hst := hide ho.strs
    have hgw : w.heap.size < w1.heap.size := by have := hq.size; simp at this; omega
    have hq0 := hide (upB (al w _) hq)
    obtain ⟨bw, ow, rfl, hbw, hw0, hw1⟩ := hst.out.look2
    have hlit := hide (ownD_lit (w := w1) (base := w1.heap.size) (ds := [⟨3, 0, 0⟩, ⟨4, 0, 0⟩]) (Nat.le_refl _) (by decide) wf_lit2)
    have hlc := hide (show ∀ j u, (ddC [⟨1, D, 0⟩, ⟨2, D, 0⟩])[j]? = some u → ((w1.alloc (.cells #[.int .i64 3, .int .i64 0, .int .i64 0, .int .i64 4, .int .i64 0, .int .i64 0] 24)).alloc (.cells #[.int .i64 1, .int .i64 D, .int .i64 0, .int .i64 2, .int .i64 D, .int .i64 0] 24)).cell? ⟨w1.heap.size + 1, j, none⟩ = some u from lit_cellsAt _ _ _ _ (by simp))
    clear ho hq
    go_wp2_with (first | (go_at_call 39; refine (HS.out _).mono ?_; rintro e w' ⟨rfl, rfl⟩) | (at_builtin; refine wpList_pushN _ rfl _ _ 32 rfl w1.heap.size 24 i0 (.agg #[.int .i64 0, .int .i64 0, .int .i64 0]) 3 24 Tryd.underlying32 hi hz0 hz1 hz2 rfl (by decide) (by decide) _ 2 _ rfl (hlit.out.alloc _).rowN _ 2 _ (ddC [⟨1, D, 0⟩, ⟨2, D, 0⟩]) rfl rfl hlc.out (ddC_one _) (by omega) (by simp; omega) ?_; intro AL cL w3 hr3 hg3; have hoL := hide (OwnD.pushN (n := 2) (ds := [⟨3, 0, 0⟩, ⟨4, 0, 0⟩]) (es := [⟨1, D, 0⟩, ⟨2, D, 0⟩]) rfl rfl hwe.out wf_lit2 hr3); have hbL := hide (((al w1 (.cells (ddC [⟨3, 0, 0⟩, ⟨4, 0, 0⟩]).toArray 24)).alloc (by simp) (.cells (ddC [⟨1, D, 0⟩, ⟨2, D, 0⟩]).toArray 24)).grown hg3 (by simp; omega) (fun j hj => (hlit.out.row.lt j hj).1)); clear hr3 hg3))
    rw [← hca.out] at hoL
    have hoL := hide (show OwnD w3 w1.heap.size (.slice AL 4 cL) (cands (bts s)) from hoL.out)
    go_loopw [7] (fun i wr => ∃ k : Nat, k ≤ 4 ∧ i = .int .i64 k ∧ Hid (∀ (j : Nat) x, j < k → (cands (bts s))[j]? = some x → ¬(bts s ≠ [] ∧ deedT x = bts s)) ∧ Hid (OwnD wr w1.heap.size (.slice AL 4 cL) (cands (bts s))) ∧ Hid (Below w1.heap.size w1 wr)) (fun i _ => 4 - (intOf i).toNat)
    case atStart => exact ⟨0, Nat.zero_le _, rfl, hide (fun j x hj _ => absurd hj (by omega)), hoL, hbL⟩
    case round =>
      clear hoL hbL
      obtain ⟨k, hk, rfl, hall, hoL, hb⟩ := hrel
      have hst := hb.out.size
      have ht2 := hide (ht2.out.below hb.out hgw)
      by_cases hlt : k < 4
      · obtain ⟨b, off, x, rfl, hbB, hx, hc0, hc1, hc2⟩ := hoL.out.deeds.look hlt
        by_cases hemp : s = ⟨#[]⟩
        · have hno := hide (show bts s = [] by rw [hemp]; rfl)
          subst hemp
          go_wp2
          go_roundw
          case rel => exact ⟨k + 1, by omega, by go_num, hide (fun j y hj hy hh => hh.1 hno.out), hoL, hb⟩
          case measure => simp [intOf]; omega
        · have hbe := hide (show bts s ≠ [] from fun e => hemp (by rw [← strB_bts s, e]; rfl))
          have hsz0 : (s.toList == []) = false := by
            rw [ByteArray.toList_eq]
            simpa [bts] using hbe.out
          have hsz1 : (s.toList != []) = true := by unfold bne; rw [hsz0]; rfl
          have HD := hide (deedText_spec x wr)
          obtain ⟨ST, hST⟩ : ∃ S, Hid (strB (deedT x) = S) := ⟨_, hide rfl⟩
          rw [hST.out] at HD
          by_cases heq : ST = s
          · have hpe : deedT x = bts s := by rw [← bts_strB (deedT x), hST.out, heq]
            have e0 := hide (find_hit (p := fun d => decide (bts s ≠ []) && decide (deedT d = bts s)) hx.out (by rw [decide_eq_true hbe.out, decide_eq_true hpe]; rfl) (fun j y hj hy => by
              have := hall.out j y hj hy
              rw [decide_eq_true hbe.out, Bool.true_and]
              exact decide_eq_false (fun e => this ⟨hbe.out, e⟩)))
            have e1 := hide (show readDB (bts s) = true by unfold readDB readD; rw [e0.out]; rfl)
            have e2 := hide (show readDQ (bts s) = x by unfold readDQ readD; rw [e0.out]; rfl)
            have hc1' : (ST.toList == s.toList) = true := by rw [heq]; simp
            subst heq
            clear hpe hemp
            have hbs : b < wr.heap.size := hbB
            go_wp2_with (go_at_call 9; refine HD.out.mono ?_; rintro e w2 ⟨rfl, hq⟩; have hc0 := (hq.cell (p := ⟨b, off + k * 3, none⟩) (by assumption)).trans hc0; have hc1 := (hq.cell (p := ⟨b, off + k * 3 + 1, none⟩) (by assumption)).trans hc1; have hc2 := (hq.cell (p := ⟨b, off + k * 3 + 2, none⟩) (by assumption)).trans hc2; have ht7 := hide (ht2.out.up hq); have hb7 := hide (upB (hq0.out.trans (hb.out.mono (by omega))) hq); obtain ⟨z0, z1, z2, z3, z4, z5, _⟩ := ht7.out; clear hq)
            have hfin := hide (((ht7.out.set0 (.int .i64 x.k)).set1 (.int .i64 x.a)).set2 (.int .i64 x.b))
            obtain ⟨k0, k1, k2, _, _, _, _⟩ := hfin.out
            exact bodyPost_ret (v := .tuple #[.agg #[.int .i64 x.k, .int .i64 x.a, .int .i64 x.b], .bool true]) (by simp [results, Tryd.results13, go_sem, k0, k1, k2]) rfl ⟨by rw [e1.out, e2.out], ((hb7.out.setCell (Nat.le_refl _) _).setCell (Nat.le_refl _) _).setCell (Nat.le_refl _) _⟩
          · have hpe := hide (show deedT x ≠ bts s from fun h => heq (by rw [← hST.out, h, strB_bts]))
            have hc1' : (ST.toList == s.toList) = false := by
              rw [ByteArray.toList_eq, ByteArray.toList_eq]
              simp only [beq_eq_false_iff_ne, ne_eq]
              exact fun e => heq (bts_inj e)
            have heq := hide heq
            have hemp := hide hemp
            have hbs : b < wr.heap.size := hbB
            go_wp2_with (go_at_call 9; refine HD.out.mono ?_; rintro e w2 ⟨rfl, hq⟩; have hoL := hide (hoL.out.up hq); have hb := hide (hb.out.trans (hq.mono (by omega))); clear hq)
            go_roundw
            case rel => exact ⟨k + 1, by omega, by go_num, hide (fun j y hj hy hh => by
              rcases Nat.lt_or_ge j k with hjk | hjk
              · exact hall.out j y hjk hy hh
              · obtain rfl : j = k := by omega
                rw [hx.out] at hy; injection hy with hy; subst hy; exact hpe.out hh.2), hoL, hb⟩
            case measure => simp [intOf]; omega
      · obtain rfl : k = 4 := by omega
        have e0 := hide (show readD (bts s) = none from List.find?_eq_none.2 (fun x hx => by
          obtain ⟨j, hj, rfl⟩ := List.getElem_of_mem hx
          have := hall.out j _ (by have := hoL.out.len; omega) (List.getElem?_eq_getElem hj)
          simp only [Bool.and_eq_true, decide_eq_true_eq]
          exact this))
        have e1 := hide (show readDB (bts s) = false by unfold readDB; rw [e0.out]; rfl)
        have e2 := hide (show readDQ (bts s) = noDed by unfold readDQ; rw [e0.out]; rfl)
        have hb7 := hide (hq0.out.trans (hb.out.mono (by omega)))
        have hfin := hide (((ht2.out.set0 (.int .i64 0)).set1 (.int .i64 0)).set2 (.int .i64 0))
        obtain ⟨z0, z1, z2, z3, z4, z5, _⟩ := ht2.out
        go_wp2_with fail
        obtain ⟨k0, k1, k2, _, _, _, _⟩ := hfin.out
        exact bodyPost_ret (v := .tuple #[.agg #[.int .i64 0, .int .i64 0, .int .i64 0], .bool false]) (by simp [results, Tryd.results13, go_sem, k0, k1, k2]) rfl ⟨by rw [e1.out, e2.out]; rfl, ((hb7.out.setCell (Nat.le_refl _) _).setCell (Nat.le_refl _) _).setCell (Nat.le_refl _) _⟩
  · by_cases h3 : (cutT 32 (bts s)).length = 3
    · obtain ⟨pa, pb, pc, hcut⟩ : ∃ a b c, cutT 32 (bts s) = [a, b, c] := by
        match hc : cutT 32 (bts s) with
        | [] => rw [hc] at h3; cases h3
        | [a] => rw [hc] at h3; cases h3
        | [a, b] => rw [hc] at h3; cases h3
        | [a, b, c] => exact ⟨a, b, c, rfl⟩
        | _ :: _ :: _ :: _ :: _ => rw [hc] at h3; simp at h3
      have hca := hide (cands_3 hcut)
      rw [hcut] at H1
      have HS := hide (fun W => l15Signed_c (strB pb) W)
      have HS2 := hide (fun W => l15Signed_c (strB pc) W)
      rw [bts_strB] at HS HS2
      obtain ⟨Sa, hSa⟩ : ∃ S, Hid (strB pa = S) := ⟨_, hide rfl⟩
      obtain ⟨Sb, hSb⟩ : ∃ S, Hid (strB pb = S) := ⟨_, hide rfl⟩
      obtain ⟨Sc, hSc⟩ : ∃ S, Hid (strB pc = S) := ⟨_, hide rfl⟩
      have hDb := signP_bound pb
      have hEb := signP_bound pc
      obtain ⟨D, hD⟩ : ∃ D, Hid (signP pb = D) := ⟨_, hide rfl⟩
      obtain ⟨E, hE⟩ : ∃ D, Hid (signP pc = D) := ⟨_, hide rfl⟩
      rw [hD.out] at HS hDb hca
      rw [hE.out] at HS2 hEb hca
      rw [hSb.out] at HS
      rw [hSc.out] at HS2
      rw [List.map_cons, List.map_cons, List.map_cons, List.map_nil, hSa.out, hSb.out, hSc.out] at H1
      have hwe := hide (show wfD ⟨0, D, E⟩ from wfD_mk (by decide) (wf_i64 (by omega)) (wf_i64 (by omega)))
      clear h2 h3
      go_enter Tryd.func13, Tryd.ntmps13
      go_wp2_with fail
      refine (H1.out _).mono ?_
      rintro e w1 ⟨A, n, cc, rfl, ho, hq⟩
      have hn : 3 = n := by have := ho.len; simpa using this.symm
      subst hn
      have ht2 := hide ((TriW.made w (.int .i64 0) (.int .i64 0) (.int .i64 0) 24).up hq)
      have hst := hide ho.strs
      have hgw : w.heap.size < w1.heap.size := by have := hq.size; simp at this; omega
      have hq0 := hide (upB (al w _) hq)
      obtain ⟨bw, ow, rfl, hbw, hw0, hw1, hw2⟩ := hst.out.look3
      have hlit := hide (ownD_lit (w := w1) (base := w1.heap.size) (ds := [⟨3, 0, 0⟩, ⟨4, 0, 0⟩]) (Nat.le_refl _) (by decide) wf_lit2)
      have hlc := hide (show ∀ j u, ([.int .i64 0, .int .i64 D, .int .i64 E] : List Value)[j]? = some u → ((w1.alloc (.cells #[.int .i64 3, .int .i64 0, .int .i64 0, .int .i64 4, .int .i64 0, .int .i64 0] 24)).alloc (.cells #[.int .i64 0, .int .i64 D, .int .i64 E] 24)).drew.cell? ⟨w1.heap.size + 1, j, none⟩ = some u from lit_cellsAt (w1.alloc (.cells #[.int .i64 3, .int .i64 0, .int .i64 0, .int .i64 4, .int .i64 0, .int .i64 0] 24)) [.int .i64 0, .int .i64 D, .int .i64 E] _ _ (by simp))
      clear ho hq
      go_wp2_with fail
      go_region_law (first | (refine step_push _ rfl _ _ 32 rfl w1.heap.size 24 i0 (.agg #[.int .i64 0, .int .i64 0, .int .i64 0]) 3 24 Tryd.underlying32 hi hz0 hz1 hz2 rfl (by decide) (by decide) _ 2 _ rfl (hlit.out.alloc _).drew.rowN _ 1 [.int .i64 0, .int .i64 D, .int .i64 E] rfl rfl hlc.out (by intro u hu; simp at hu; rcases hu with rfl | rfl | rfl <;> rfl) (by omega) (by simp; omega) ?_; intro AL cL w3 hr3 hg3) | (go_simp; go_at_call 39; (first | (with_reducible refine (HS.out _).mono ?_) | (with_reducible refine (HS2.out _).mono ?_)); rintro e w' ⟨rfl, rfl⟩))
      all_goals
        have hoL := hide (show OwnD w3 w1.heap.size (.slice AL 3 cL) (cands (bts s)) by rw [hca.out]; exact OwnD.push (n := 2) (ds := [⟨3, 0, 0⟩, ⟨4, 0, 0⟩]) rfl hwe.out wf_lit2 hr3)
        have hbL := hide ((((al w1 (.cells (ddC [⟨3, 0, 0⟩, ⟨4, 0, 0⟩]).toArray 24)).alloc (by simp) (.cells #[.int .i64 0, .int .i64 D, .int .i64 E] 24)).drew).grown hg3 (by simp; omega) (fun j hj => (hlit.out.row.lt j hj).1))
        clear hr3 hg3
        go_wp2_with fail
        go_loopw [7] (fun i wr => ∃ k : Nat, k ≤ 3 ∧ i = .int .i64 k ∧ Hid (∀ (j : Nat) x, j < k → (cands (bts s))[j]? = some x → ¬(bts s ≠ [] ∧ deedT x = bts s)) ∧ Hid (OwnD wr w1.heap.size (.slice AL 3 cL) (cands (bts s))) ∧ Hid (Below w1.heap.size w1 wr)) (fun i _ => 3 - (intOf i).toNat)
        case atStart => exact ⟨0, Nat.zero_le _, rfl, hide (fun j x hj _ => absurd hj (by omega)), hoL, hbL⟩
        case round =>
          clear hoL hbL
          obtain ⟨k, hk, rfl, hall, hoL, hb⟩ := hrel
          have hst := hb.out.size
          have ht2 := hide (ht2.out.below hb.out hgw)
          by_cases hlt : k < 3
          · obtain ⟨b, off, x, rfl, hbB, hx, hc0, hc1, hc2⟩ := hoL.out.deeds.look hlt
            by_cases hemp : s = ⟨#[]⟩
            · have hno := hide (show bts s = [] by rw [hemp]; rfl)
              subst hemp
              go_wp2
              go_roundw
              case rel => exact ⟨k + 1, by omega, by go_num, hide (fun j y hj hy hh => hh.1 hno.out), hoL, hb⟩
              case measure => simp [intOf]; omega
            · have hbe := hide (show bts s ≠ [] from fun e => hemp (by rw [← strB_bts s, e]; rfl))
              have hsz0 : (s.toList == []) = false := by
                rw [ByteArray.toList_eq]
                simpa [bts] using hbe.out
              have hsz1 : (s.toList != []) = true := by unfold bne; rw [hsz0]; rfl
              have HD := hide (deedText_spec x wr)
              obtain ⟨ST, hST⟩ : ∃ S, Hid (strB (deedT x) = S) := ⟨_, hide rfl⟩
              rw [hST.out] at HD
              by_cases heq : ST = s
              · have hpe : deedT x = bts s := by rw [← bts_strB (deedT x), hST.out, heq]
                have e0 := hide (find_hit (p := fun d => decide (bts s ≠ []) && decide (deedT d = bts s)) hx.out (by rw [decide_eq_true hbe.out, decide_eq_true hpe]; rfl) (fun j y hj hy => by
                  have := hall.out j y hj hy
                  rw [decide_eq_true hbe.out, Bool.true_and]
                  exact decide_eq_false (fun e => this ⟨hbe.out, e⟩)))
                have e1 := hide (show readDB (bts s) = true by unfold readDB readD; rw [e0.out]; rfl)
                have e2 := hide (show readDQ (bts s) = x by unfold readDQ readD; rw [e0.out]; rfl)
                have hc1' : (ST.toList == s.toList) = true := by rw [heq]; simp
                subst heq
                clear hpe hemp
                have hbs : b < wr.heap.size := hbB
                go_wp2_with (go_at_call 9; refine HD.out.mono ?_; rintro e w2 ⟨rfl, hq⟩; have hc0 := (hq.cell (p := ⟨b, off + k * 3, none⟩) (by assumption)).trans hc0; have hc1 := (hq.cell (p := ⟨b, off + k * 3 + 1, none⟩) (by assumption)).trans hc1; have hc2 := (hq.cell (p := ⟨b, off + k * 3 + 2, none⟩) (by assumption)).trans hc2; have ht7 := hide (ht2.out.up hq); have hb7 := hide (upB (hq0.out.trans (hb.out.mono (by omega))) hq); obtain ⟨z0, z1, z2, z3, z4, z5, _⟩ := ht7.out; clear hq)
                have hfin := hide (((ht7.out.set0 (.int .i64 x.k)).set1 (.int .i64 x.a)).set2 (.int .i64 x.b))
                obtain ⟨k0, k1, k2, _, _, _, _⟩ := hfin.out
                exact bodyPost_ret (v := .tuple #[.agg #[.int .i64 x.k, .int .i64 x.a, .int .i64 x.b], .bool true]) (by simp [results, Tryd.results13, go_sem, k0, k1, k2]) rfl ⟨by rw [e1.out, e2.out], ((hb7.out.setCell (Nat.le_refl _) _).setCell (Nat.le_refl _) _).setCell (Nat.le_refl _) _⟩
              · have hpe := hide (show deedT x ≠ bts s from fun h => heq (by rw [← hST.out, h, strB_bts]))
                have hc1' : (ST.toList == s.toList) = false := by
                  rw [ByteArray.toList_eq, ByteArray.toList_eq]
                  simp only [beq_eq_false_iff_ne, ne_eq]
                  exact fun e => heq (bts_inj e)
                have heq := hide heq
                have hemp := hide hemp
                have hbs : b < wr.heap.size := hbB
                go_wp2_with (go_at_call 9; refine HD.out.mono ?_; rintro e w2 ⟨rfl, hq⟩; have hoL := hide (hoL.out.up hq); have hb := hide (hb.out.trans (hq.mono (by omega))); clear hq)
                go_roundw
                case rel => exact ⟨k + 1, by omega, by go_num, hide (fun j y hj hy hh => by
                  rcases Nat.lt_or_ge j k with hjk | hjk
                  · exact hall.out j y hjk hy hh
                  · obtain rfl : j = k := by omega
                    rw [hx.out] at hy; injection hy with hy; subst hy; exact hpe.out hh.2), hoL, hb⟩
                case measure => simp [intOf]; omega
          · obtain rfl : k = 3 := by omega
            have e0 := hide (show readD (bts s) = none from List.find?_eq_none.2 (fun x hx => by
              obtain ⟨j, hj, rfl⟩ := List.getElem_of_mem hx
              have := hall.out j _ (by have := hoL.out.len; omega) (List.getElem?_eq_getElem hj)
              simp only [Bool.and_eq_true, decide_eq_true_eq]
              exact this))
            have e1 := hide (show readDB (bts s) = false by unfold readDB; rw [e0.out]; rfl)
            have e2 := hide (show readDQ (bts s) = noDed by unfold readDQ; rw [e0.out]; rfl)
            have hb7 := hide (hq0.out.trans (hb.out.mono (by omega)))
            have hfin := hide (((ht2.out.set0 (.int .i64 0)).set1 (.int .i64 0)).set2 (.int .i64 0))
            obtain ⟨z0, z1, z2, z3, z4, z5, _⟩ := ht2.out
            go_wp2_with fail
            obtain ⟨k0, k1, k2, _, _, _, _⟩ := hfin.out
            exact bodyPost_ret (v := .tuple #[.agg #[.int .i64 0, .int .i64 0, .int .i64 0], .bool false]) (by simp [results, Tryd.results13, go_sem, k0, k1, k2]) rfl ⟨by rw [e1.out, e2.out]; rfl, ((hb7.out.setCell (Nat.le_refl _) _).setCell (Nat.le_refl _) _).setCell (Nat.le_refl _) _⟩
    · have hca := hide (cands_0 h2 h3)
      have hnn := hide (show (cutT 32 (bts s)).length ≠ 2 ∧ (cutT 32 (bts s)).length ≠ 3 from ⟨h2, h3⟩)
      clear h2 h3
      go_enter Tryd.func13, Tryd.ntmps13
      go_wp2_with fail
      refine (H1.out _).mono ?_
      rintro e w1 ⟨A, n, cc, rfl, ho, hq⟩
      have hn2 : n ≠ 2 := by have := ho.len; rw [List.length_map] at this; rw [this]; exact hnn.out.1
      have hn3 : n ≠ 3 := by have := ho.len; rw [List.length_map] at this; rw [this]; exact hnn.out.2
      have ht2 := hide ((TriW.made w (.int .i64 0) (.int .i64 0) (.int .i64 0) 24).up hq)
      have hgw : w.heap.size < w1.heap.size := by have := hq.size; simp at this; omega
      have hq0 := hide (upB (al w _) hq)
      have hoL := hide (show OwnD (w1.alloc (.cells #[.int .i64 3, .int .i64 0, .int .i64 0, .int .i64 4, .int .i64 0, .int .i64 0] 24)) w1.heap.size (.slice (some ⟨w1.heap.size, 0, none⟩) 2 2) (cands (bts s)) by rw [hca.out]; exact ownD_lit (ds := [⟨3, 0, 0⟩, ⟨4, 0, 0⟩]) (Nat.le_refl _) (by decide) wf_lit2)
      have hbL := hide (al w1 (.cells #[.int .i64 3, .int .i64 0, .int .i64 0, .int .i64 4, .int .i64 0, .int .i64 0] 24))
      have hz2 : ((n : Int) == 2) = false := by simp; omega
      have hz3 : ((n : Int) == 3) = false := by simp; omega
      clear ho hq
      go_wp2_with fail
      go_loopw [7] (fun i wr => ∃ k : Nat, k ≤ 2 ∧ i = .int .i64 k ∧ Hid (∀ (j : Nat) x, j < k → (cands (bts s))[j]? = some x → ¬(bts s ≠ [] ∧ deedT x = bts s)) ∧ Hid (OwnD wr w1.heap.size (.slice (some ⟨w1.heap.size, 0, none⟩) 2 2) (cands (bts s))) ∧ Hid (Below w1.heap.size w1 wr)) (fun i _ => 2 - (intOf i).toNat)
      case atStart => exact ⟨0, Nat.zero_le _, rfl, hide (fun j x hj _ => absurd hj (by omega)), hoL, hbL⟩
      case round =>
        clear hoL hbL
        obtain ⟨k, hk, rfl, hall, hoL, hb⟩ := hrel
        have hst := hb.out.size
        have ht2 := hide (ht2.out.below hb.out hgw)
        by_cases hlt : k < 2
        · obtain ⟨b, off, x, hAe, hbB, hx, hc0, hc1, hc2⟩ := hoL.out.deeds.look hlt
          injection hAe with hAe
          injection hAe with hA1 hA2
          subst hA1
          subst hA2
          rw [Nat.zero_add] at hc0 hc1 hc2
          by_cases hemp : s = ⟨#[]⟩
          · have hno := hide (show bts s = [] by rw [hemp]; rfl)
            subst hemp
            go_wp2
            go_roundw
            case rel => exact ⟨k + 1, by omega, by go_num, hide (fun j y hj hy hh => hh.1 hno.out), hoL, hb⟩
            case measure => simp [intOf]; omega
          · have hbe := hide (show bts s ≠ [] from fun e => hemp (by rw [← strB_bts s, e]; rfl))
            have hsz0 : (s.toList == []) = false := by
              rw [ByteArray.toList_eq]
              simpa [bts] using hbe.out
            have hsz1 : (s.toList != []) = true := by unfold bne; rw [hsz0]; rfl
            have HD := hide (deedText_spec x wr)
            obtain ⟨ST, hST⟩ : ∃ S, Hid (strB (deedT x) = S) := ⟨_, hide rfl⟩
            rw [hST.out] at HD
            by_cases heq : ST = s
            · have hpe : deedT x = bts s := by rw [← bts_strB (deedT x), hST.out, heq]
              have e0 := hide (find_hit (p := fun d => decide (bts s ≠ []) && decide (deedT d = bts s)) hx.out (by rw [decide_eq_true hbe.out, decide_eq_true hpe]; rfl) (fun j y hj hy => by
                have := hall.out j y hj hy
                rw [decide_eq_true hbe.out, Bool.true_and]
                exact decide_eq_false (fun e => this ⟨hbe.out, e⟩)))
              have e1 := hide (show readDB (bts s) = true by unfold readDB readD; rw [e0.out]; rfl)
              have e2 := hide (show readDQ (bts s) = x by unfold readDQ readD; rw [e0.out]; rfl)
              have hc1' : (ST.toList == s.toList) = true := by rw [heq]; simp
              subst heq
              clear hpe hemp
              have hbs : w1.heap.size < wr.heap.size := hbB
              go_wp2_with (go_at_call 9; refine HD.out.mono ?_; rintro e w2 ⟨rfl, hq⟩; have hc0 := (hq.cell (p := ⟨w1.heap.size, k * 3, none⟩) (by assumption)).trans hc0; have hc1 := (hq.cell (p := ⟨w1.heap.size, k * 3 + 1, none⟩) (by assumption)).trans hc1; have hc2 := (hq.cell (p := ⟨w1.heap.size, k * 3 + 2, none⟩) (by assumption)).trans hc2; have ht7 := hide (ht2.out.up hq); have hb7 := hide (upB (hq0.out.trans (hb.out.mono (by omega))) hq); obtain ⟨z0, z1, z2, z3, z4, z5, _⟩ := ht7.out; clear hq)
              have hfin := hide (((ht7.out.set0 (.int .i64 x.k)).set1 (.int .i64 x.a)).set2 (.int .i64 x.b))
              obtain ⟨k0, k1, k2, _, _, _, _⟩ := hfin.out
              exact bodyPost_ret (v := .tuple #[.agg #[.int .i64 x.k, .int .i64 x.a, .int .i64 x.b], .bool true]) (by simp [results, Tryd.results13, go_sem, k0, k1, k2]) rfl ⟨by rw [e1.out, e2.out], ((hb7.out.setCell (Nat.le_refl _) _).setCell (Nat.le_refl _) _).setCell (Nat.le_refl _) _⟩
            · have hpe := hide (show deedT x ≠ bts s from fun h => heq (by rw [← hST.out, h, strB_bts]))
              have hc1' : (ST.toList == s.toList) = false := by
                rw [ByteArray.toList_eq, ByteArray.toList_eq]
                simp only [beq_eq_false_iff_ne, ne_eq]
                exact fun e => heq (bts_inj e)
              have heq := hide heq
              have hemp := hide hemp
              have hbs : w1.heap.size < wr.heap.size := hbB
              go_wp2_with (go_at_call 9; refine HD.out.mono ?_; rintro e w2 ⟨rfl, hq⟩; have hoL := hide (hoL.out.up hq); have hb := hide (hb.out.trans (hq.mono (by omega))); clear hq)
              go_roundw
              case rel => exact ⟨k + 1, by omega, by go_num, hide (fun j y hj hy hh => by
                rcases Nat.lt_or_ge j k with hjk | hjk
                · exact hall.out j y hjk hy hh
                · obtain rfl : j = k := by omega
                  rw [hx.out] at hy; injection hy with hy; subst hy; exact hpe.out hh.2), hoL, hb⟩
              case measure => simp [intOf]; omega
        · obtain rfl : k = 2 := by omega
          have e0 := hide (show readD (bts s) = none from List.find?_eq_none.2 (fun x hx => by
            obtain ⟨j, hj, rfl⟩ := List.getElem_of_mem hx
            have := hall.out j _ (by have := hoL.out.len; omega) (List.getElem?_eq_getElem hj)
            simp only [Bool.and_eq_true, decide_eq_true_eq]
            exact this))
          have e1 := hide (show readDB (bts s) = false by unfold readDB; rw [e0.out]; rfl)
          have e2 := hide (show readDQ (bts s) = noDed by unfold readDQ; rw [e0.out]; rfl)
          have hb7 := hide (hq0.out.trans (hb.out.mono (by omega)))
          have hfin := hide (((ht2.out.set0 (.int .i64 0)).set1 (.int .i64 0)).set2 (.int .i64 0))
          obtain ⟨z0, z1, z2, z3, z4, z5, _⟩ := ht2.out
          go_wp2_with fail
          obtain ⟨k0, k1, k2, _, _, _, _⟩ := hfin.out
          exact bodyPost_ret (v := .tuple #[.agg #[.int .i64 0, .int .i64 0, .int .i64 0], .bool false]) (by simp [results, Tryd.results13, go_sem, k0, k1, k2]) rfl ⟨by rw [e1.out, e2.out]; rfl, ((hb7.out.setCell (Nat.le_refl _) _).setCell (Nat.le_refl _) _).setCell (Nat.le_refl _) _⟩
end Go.Proofs.YtpnjihpdipoajabDoor
