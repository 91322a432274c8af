/-
  Contracts of chapter 4, the program's side: drawnByRule (a fold over a struct), AfterWord, RuleWays.
-/
import Derived.Test.YtkgfbmlhplclfaaGreatDoorRuleB
namespace Go.Proofs.YtkgfbmlhplclfaaGreatDoor
open Go.RowKit

/-- What the fold has in its hand behind the first k draws. -/
structure DrawnAt (rs : List (List Int)) (zs ws : List Int) (k : Nat) (P : Int) (us : List Int) : Prop where
  len : us.length = zs.length
  lo : 0 ≤ P
  hi : P ≤ 481890304
  bd : ∀ y ∈ us, -1000 ≤ y ∧ y ≤ 1000
  at_ : WaysAt rs zs ws k P us

theorem DrawnAt.zero {rs : List (List Int)} {zs ws us : List Int} {k : Nat} (h : DrawnAt rs zs ws k 0 us) : rways rs zs ws = 0 := by
  rcases h.at_ with h1 | h1
  · exact absurd h1.1 (by decide)
  · exact h1.2
/-- The block of a slice that the call owns, or none. -/
def Off (A : Option Addr) (n c g : Nat) : Prop := (Value.slice A n c).ownBlock ≠ some g
theorem Off.of_own {w : World} {base n c g : Nat} {A : Option Addr} {zs : List Int} (h : Own w base (.slice A n c) zs) (hg : g < base) : Off A n c g := by
  unfold Off
  rcases h.shape with ⟨e, _⟩ | ⟨b, c', e, hb, _⟩
  · rw [e]; simp [Value.ownBlock]
  · rw [e]; simp [Value.ownBlock]; omega
theorem Off.of_own_lt {w : World} {base n c g : Nat} {A : Option Addr} {zs : List Int} (h : Own w base (.slice A n c) zs) (hg : w.heap.size ≤ g) : Off A n c g := by
  unfold Off
  rcases h.shape with ⟨e, _⟩ | ⟨b, c', e, _, hb⟩
  · rw [e]; simp [Value.ownBlock]
  · rw [e]; simp [Value.ownBlock]; omega

set_option maxHeartbeats 1600000 in
theorem foldDrawn_c (A A1 A' : Option Addr) (n c n1 c1 B1 n' c' B' g base : Nat) (zs : List Int) (rs : List (List Int)) (ws : List Int) (w : World) (ho : Own w base (.slice A n c) zs) (hbs : base ≤ w.heap.size) (h1 : Mat w B1 A1 n1 c1 rs) (h' : Ints w B' A' n' c' ws) (hB1 : B1 ≤ w.heap.size) (hB' : B' ≤ w.heap.size) (hg : w.cell? ⟨g, 0, none⟩ = some (.slice A1 n1 c1)) (hgs : g < w.heap.size) (hm : ∀ y ∈ zs, 0 ≤ y ∧ y ≤ 10) (hRl : Rule n rs) (hw6 : n' ≤ 6) (hwm : ∀ x ∈ ws, 0 ≤ x ∧ x < (n : Int)) :
    Calls Tryz.prog 84 #[.slice A' n' c', .agg #[.slice A n c, .int .i64 1], .func (.func 86) #[] #[.pointer (some ⟨g, 0, none⟩)]] w fun e w' => ∃ A₂ n₂ c₂ us P, e = .returned (.agg #[.slice A₂ n₂ c₂, .int .i64 P]) ∧ DrawnAt rs zs ws ws.length P us ∧ Own w' base (.slice A₂ n₂ c₂) us ∧ Below w.heap.size w w' := by
  have hl := hide ho.len
  have hl' := hide h'.len
  have hn6 : n' ≤ 6 := hw6
  have hn3 : n ≤ 3 := hRl.le
  have hwm2 : ∀ x ∈ ws, 0 ≤ x ∧ x < (n : Int) := hwm
  have hzl : zs.length = n := hl.out.symm
  have h6 : ws.length ≤ 6 := by have := hl'.out; omega
  have HC := hide (fun (j : Nat) x (hx : ws[j]? = some x) => hwm2 x (List.mem_of_getElem? hx))
  have HT := hide (fun (k : Nat) us (ha : afterW rs zs (ws.take k) = some us) => afterW_take hRl hzl hm hwm2 h6 ha)
  have HStep := hide (fun (k : Nat) x us (ha : afterW rs zs (ws.take k) = some us) (hx : ws[k]? = some x) => afterW_step ha hx)
  have HRow := hide (fun (k : Nat) l (hl : rs[k]? = some l) => row_sum hRl hl)
  have HP := hide (fun (k : Nat) => show rways rs zs (ws.take k) ≤ 481890304 from by
    have hle : (ws.take k).length ≤ ws.length := List.length_take_le' _ _
    exact Int.le_trans (rways_bound hRl hzl hm (fun x hx => hwm2 x (List.mem_of_mem_take hx)) (by omega)) (pow28 _ (by omega)))
  have HN := hide (fun (h : afterW rs zs ws = none) => rways_none h)
  have hrl := hide hRl.len
  have hd0 := hide (show DrawnAt rs zs ws 0 1 zs from ⟨rfl, by decide, by decide, fun y hy => by have := hm y hy; omega, .inl ⟨by decide, rfl, rfl⟩⟩)
  obtain ⟨W0, hW0⟩ : ∃ W0, Hid (((w.alloc (.cells #[.slice A n c, .int .i64 1] 82)).alloc (.cells #[.slice none 0 0, .int .i64 0] 82)).alloc (.cells #[.slice A n c, .int .i64 1] 82) = W0) := ⟨_, hide rfl⟩
  have hq0 := hide (show Below w.heap.size w W0 by rw [← hW0.out]; exact ((al w _).alloc (by simp) _).alloc (by simp; omega) _)
  have ht2 := hide (show Two W0 (w.heap.size + 2) (.slice A n c) (.int .i64 1) by rw [← hW0.out]; have := Two.made ((w.alloc (.cells #[.slice A n c, .int .i64 1] 82)).alloc (.cells #[.slice none 0 0, .int .i64 0] 82)) (.slice A n c) (.int .i64 1) 82; simpa using this)
  have ht1 := hide (show Two W0 (w.heap.size + 1) (.slice none 0 0) (.int .i64 0) by
    rw [← hW0.out]
    have := Two.made (w.alloc (.cells #[.slice A n c, .int .i64 1] 82)) (.slice none 0 0) (.int .i64 0) 82
    rw [show (w.alloc (.cells #[.slice A n c, .int .i64 1] 82)).heap.size = w.heap.size + 1 by simp] at this
    exact this.below (B := w.heap.size + 2) ((Below.refl _ _).alloc (by simp) _) (by omega))
  have ho0 := hide (show Own W0 base (.slice A n c) zs from ho.below hq0.out (Nat.le_refl _))
  have hoff := hide (Off.of_own_lt ho (show w.heap.size ≤ w.heap.size + 2 by omega))
  have hoff1 := hide (Off.of_own_lt ho (show w.heap.size ≤ w.heap.size + 1 by omega))
  clear hm hRl hwm hwm2 hzl h6 ho
  go_enter Tryz.func84, Tryz.ntmps84
  go_wp2_with fail
  rw [hW0.out]
  clear hW0
  go_loopw [13] (fun i wr => ∃ k : Nat, ∃ A₂ n₂ c₂ us, ∃ P : Int, k ≤ n' ∧ i = .int .i64 k ∧ Hid (Two wr (w.heap.size + 2) (.slice A₂ n₂ c₂) (.int .i64 P)) ∧ Hid (Two wr (w.heap.size + 1) (.slice none 0 0) (.int .i64 0)) ∧ Hid (Own wr base (.slice A₂ n₂ c₂) us) ∧ Hid (Off A₂ n₂ c₂ (w.heap.size + 2)) ∧ Hid (Off A₂ n₂ c₂ (w.heap.size + 1)) ∧ Hid (DrawnAt rs zs ws k P us) ∧ Hid (Below w.heap.size w wr)) (fun i _ => n' - (intOf i).toNat)
  case atStart => exact ⟨0, _, _, _, zs, 1, Nat.zero_le _, rfl, ht2, ht1, ho0, hoff, hoff1, hd0, hq0⟩
  case round =>
    clear ht2 ht1 ho0 hoff hoff1 hd0 hq0
    obtain ⟨k, A₂, n₂, c₂, us, P, hk, rfl, t2, t1, ho, hoff, hoff1, hd, hb⟩ := hrel
    obtain ⟨m20, m21, m22, m23, hz2⟩ := t2.out
    by_cases hlt : k < n'
    · have hs := hb.out.size
      have hgr := hide ((hb.out.cell (p := ⟨g, 0, none⟩) hgs).trans hg)
      obtain ⟨b, off, x, hA, hbB, hx, hcell⟩ := (h'.below (hb.out.mono hB')).look hlt
      subst hA
      obtain ⟨x0, x1⟩ := HC.out k x hx.out
      obtain ⟨X, rfl⟩ : ∃ X : Nat, x = (X : Int) := ⟨x.toNat, by omega⟩
      have hul := hide (show us.length = n by rw [hd.out.len, hl.out])
      have hX : X < us.length := by have := hul.out; omega
      obtain ⟨y, hy⟩ : ∃ y, Hid (us[X]? = some y) := ⟨_, hide (List.getElem?_eq_getElem hX)⟩
      obtain ⟨l, hr⟩ : ∃ l, Hid (rs[X]? = some l) := ⟨_, hide (List.getElem?_eq_getElem (by have := hrl.out; omega))⟩
      have hby : ballsAt us (X : Int) = y := ballsAt_eq (by simpa using hy.out)
      have hrow : rowOf rs X = l := by unfold rowOf; rw [hr.out]; rfl
      by_cases hPy : P * y = 0
      · have hd1 := hide (show DrawnAt rs zs ws (k + 1) 0 us from ⟨hd.out.len, by decide, by decide, hd.out.bd, .inr ⟨rfl, by
          rcases hd.out.at_ with h | h
          · refine HN.out ((HStep.out k _ us h.2.1 hx.out).1 ?_).1
            rw [hby]
            rcases Int.mul_eq_zero.1 hPy with h0 | h0
            · omega
            · omega
          · exact h.2⟩⟩)
        have HA := hide (drawStep0_c A₂ n₂ c₂ _ g X us P y wr ho.out.ints (Nat.le_refl _) hy.out hPy)
        clear hPy hby hrow
        go_wp2_with fail
        refine HA.out.mono ?_
        rintro e w1 ⟨rfl, hq⟩
        have t2b := t2.out.below hq hz2
        obtain ⟨m30, m31, m32, m33, hz3⟩ := t2b
        have t2c := hide ((show Two w1 (w.heap.size + 2) (.slice A₂ n₂ c₂) (.int .i64 P) from ⟨m30, m31, m32, m33, hz3⟩).set2 (.slice A₂ n₂ c₂) (.int .i64 0))
        have t1c := hide (((t1.out.below hq (Nat.lt_of_succ_lt hz2)).setOther (a := ⟨w.heap.size + 2, 0, none⟩) (by simp) (.slice A₂ n₂ c₂)).setOther (a := ⟨w.heap.size + 2, 1, none⟩) (by simp) (.int .i64 0))
        have ho3 := hide (((ho.out.below hq (Nat.le_refl _)).setOther (a := ⟨w.heap.size + 2, 0, none⟩) hoff.out (.slice A₂ n₂ c₂)).setOther (a := ⟨w.heap.size + 2, 1, none⟩) hoff.out (.int .i64 0))
        have hb3 := hide (((hb.out.trans (hq.mono hs)).setCell (p := ⟨w.heap.size + 2, 0, none⟩) (Nat.le_add_right _ _) (.slice A₂ n₂ c₂)).setCell (p := ⟨w.heap.size + 2, 1, none⟩) (Nat.le_add_right _ _) (.int .i64 0))
        clear hq HA ho hb t2 t1 m20 m21
        go_wp2_with fail
        go_roundw
        case rel => exact ⟨k + 1, _, _, _, us, 0, by omega, by go_num, t2c, t1c, ho3, hoff, hoff1, hd1, hb3⟩
        case measure => simp [intOf]; omega
      · have hat : 0 < P ∧ afterW rs zs (ws.take k) = some us ∧ P = rways rs zs (ws.take k) := by
          rcases hd.out.at_ with h | h
          · exact h
          · exact absurd (by rw [h.1, Int.zero_mul]) hPy
        obtain ⟨a1, a2, a3⟩ := hat
        obtain ⟨t21, t22⟩ := HT.out k us a2
        obtain ⟨y0, y1⟩ := t22 y (List.mem_of_getElem? hy.out)
        have hyn : ¬ y < 1 := by
          intro h
          have : y = 0 := by omega
          exact hPy (by rw [this, Int.mul_zero])
        obtain ⟨s1, s2⟩ := (HStep.out k _ us a2 hx.out).2 (by rw [hby]; omega)
        rw [show ((X : Int)).toNat = X by omega, hrow] at s1
        rw [hby, ← a3] at s2
        have hpos : 0 < P * y := Int.mul_pos a1 (by omega)
        have hle := HP.out (k + 1)
        rw [s2] at hle
        obtain ⟨t31, t32⟩ := HT.out (k + 1) _ s1
        obtain ⟨r1, r2, _, _⟩ := HRow.out X l hr.out
        have hd1 := hide (show DrawnAt rs zs ws (k + 1) (P * y) (addL us l) from ⟨by rw [t31, hl.out], by omega, hle, fun z hz => by have := t32 z hz; omega, .inl ⟨hpos, s1, s2.symm⟩⟩)
        have hnn := hide (show n = n₂ by rw [ho.out.len, hul.out])
        have HA := hide (drawStep_c A₂ A1 n₂ c₂ _ n1 c1 B1 g X us l rs P y wr ho.out.ints (Nat.le_refl _) (h1.below (hb.out.mono hB1)) (Nat.le_trans hB1 hs) hgr.out (Nat.lt_of_lt_of_le hgs hs) hy.out hr.out (by rw [r1]; exact hnn.out) hpos (by omega) (by have := hnn.out; omega) hd.out.bd (fun z hz => by have := r2 z hz; omega))
        obtain ⟨Q, hQ⟩ : ∃ Q, Hid (P * y = Q) := ⟨_, hide rfl⟩
        rw [hQ.out] at HA hd1
        clear hPy hby hrow s1 s2 t21 t22 t31 t32 r1 r2 a2 a3 hle hpos
        go_wp2_with fail
        refine HA.out.mono ?_
        rintro e w1 ⟨A₃, n₃, c₃, rfl, hoo, hq⟩
        have t2b := t2.out.below hq hz2
        obtain ⟨m30, m31, m32, m33, hz3⟩ := t2b
        have t2c := hide ((show Two w1 (w.heap.size + 2) (.slice A₂ n₂ c₂) (.int .i64 P) from ⟨m30, m31, m32, m33, hz3⟩).set2 (.slice A₃ n₃ c₃) (.int .i64 Q))
        have t1c := hide (((t1.out.below hq (Nat.lt_of_succ_lt hz2)).setOther (a := ⟨w.heap.size + 2, 0, none⟩) (by simp) (.slice A₃ n₃ c₃)).setOther (a := ⟨w.heap.size + 2, 1, none⟩) (by simp) (.int .i64 Q))
        have hoff2 := hide (Off.of_own hoo hz2)
        have hoff3 := hide (Off.of_own hoo (Nat.lt_of_succ_lt hz2))
        have ho3 := hide ((((hoo.down (Nat.le_trans hbs hs)).setOther (a := ⟨w.heap.size + 2, 0, none⟩) hoff2.out (.slice A₃ n₃ c₃)).setOther (a := ⟨w.heap.size + 2, 1, none⟩) hoff2.out (.int .i64 Q)))
        have hb3 := hide (((hb.out.trans (hq.mono hs)).setCell (p := ⟨w.heap.size + 2, 0, none⟩) (Nat.le_add_right _ _) (.slice A₃ n₃ c₃)).setCell (p := ⟨w.heap.size + 2, 1, none⟩) (Nat.le_add_right _ _) (.int .i64 Q))
        clear hq HA ho hb t2 t1 m20 m21 hoo
        go_wp2_with fail
        go_roundw
        case rel => exact ⟨k + 1, _, _, _, _, Q, by omega, by go_num, t2c, t1c, ho3, hoff2, hoff3, hd1, hb3⟩
        case measure => simp [intOf]; omega
    · obtain ⟨m10, m11, m12, m13, hz1⟩ := t1.out
      have hkn := hide (show ws.length = k by have := hl'.out; omega)
      go_wp2_with fail
      exact bodyPost_ret (v := .agg #[.slice A₂ n₂ c₂, .int .i64 P]) (by simp [results, Tryz.results84, go_sem, m10, m11]) rfl ⟨A₂, n₂, c₂, us, P, rfl, by rw [hkn.out]; exact hd.out, (ho.out.setOther (a := ⟨w.heap.size + 1, 0, none⟩) hoff1.out _).setOther (a := ⟨w.heap.size + 1, 1, none⟩) hoff1.out _, (hb.out.setCell (Nat.le_succ _) _).setCell (Nat.le_succ _) _⟩

set_option maxHeartbeats 1600000 in
theorem drawnRule_c (A A1 A' : Option Addr) (n c B n1 c1 B1 n' c' B' : Nat) (zs : List Int) (rs : List (List Int)) (ws : List Int) (w : World) (h : Ints w B A n c zs) (h1 : Mat w B1 A1 n1 c1 rs) (h' : Ints w B' A' n' c' ws) (hB : B ≤ w.heap.size) (hB1 : B1 ≤ w.heap.size) (hB' : B' ≤ w.heap.size) (hm : ∀ y ∈ zs, 0 ≤ y ∧ y ≤ 10) (hRl : Rule n rs) (hw6 : n' ≤ 6) (hwm : ∀ x ∈ ws, 0 ≤ x ∧ x < (n : Int)) :
    Calls Tryz.prog 66 #[.slice A n c, .slice A1 n1 c1, .slice A' n' c'] w fun e w' => ∃ A₂ n₂ c₂ us P, e = .returned (.agg #[.slice A₂ n₂ c₂, .int .i64 P]) ∧ DrawnAt rs zs ws ws.length P us ∧ Own w' w.heap.size (.slice A₂ n₂ c₂) us ∧ Below w.heap.size w w' := by
  have hn1 := hRl.pos
  have hn3 := hRl.le
  have hc := hide (fun (W : World) (hq : Below w.heap.size w W) (hs : w.heap.size + 2 ≤ W.heap.size) => clone_c A n c B zs W (h.below (hq.mono hB)) (by omega) (by omega) (by omega))
  obtain ⟨W0, hW0⟩ : ∃ W0, Hid ((w.alloc (.cells #[.slice A1 n1 c1] 62)).alloc (.cells #[.slice none 0 0, .int .i64 0] 82) = W0) := ⟨_, hide rfl⟩
  have hq0 := hide (show Below w.heap.size w W0 by rw [← hW0.out]; exact (al w _).alloc (by simp) _)
  have hz0 := hide (show W0.heap.size = w.heap.size + 2 by rw [← hW0.out]; simp)
  have hc0 := hide (show W0.cell? ⟨w.heap.size, 0, none⟩ = some (.slice A1 n1 c1) by rw [← hW0.out]; simp)
  have ht1 := hide (show Two W0 (w.heap.size + 1) (.slice none 0 0) (.int .i64 0) by
    rw [← hW0.out]
    have := Two.made (w.alloc (.cells #[.slice A1 n1 c1] 62)) (.slice none 0 0) (.int .i64 0) 82
    rwa [show (w.alloc (.cells #[.slice A1 n1 c1] 62)).heap.size = w.heap.size + 1 by simp] at this)
  have HC := hide (hc.out W0 hq0.out (by have := hz0.out; omega))
  go_enter Tryz.func66, Tryz.ntmps66
  go_wp2_with fail
  rw [hW0.out]
  refine HC.out.mono ?_
  rintro e w1 ⟨A4, n4, c4, rfl, ho, hb⟩
  obtain rfl : n4 = n := by rw [ho.len, h.len]
  have hb0 := hide (hq0.out.trans (hb.mono (by have := hz0.out; omega)))
  have hs1 := hide (show w.heap.size + 2 ≤ w1.heap.size by have := hb.size; have := hz0.out; omega)
  have t1 := hide (ht1.out.below hb (by have := hz0.out; omega))
  have HF := hide (foldDrawn_c A4 A1 A' n4 c4 n1 c1 B1 n' c' B' w.heap.size W0.heap.size zs rs ws w1 ho hb.size (h1.below (hb0.out.mono hB1)) (h'.below (hb0.out.mono hB')) (by have := hs1.out; omega) (by have := hs1.out; omega) ((hb.cell (p := ⟨w.heap.size, 0, none⟩) (show w.heap.size < W0.heap.size by have := hz0.out; omega)).trans hc0.out) (by have := hs1.out; omega) hm hRl hw6 hwm)
  clear hm hRl hwm hb ho
  go_wp2_with fail
  refine HF.out.mono ?_
  rintro e w2 ⟨A5, n5, c5, us, P, rfl, hd, ho, hb⟩
  have hd := hide hd
  have hw0 := hide (show W0.heap.size = w.heap.size + 2 from hz0.out)
  obtain ⟨m10, m11, m12, m13, hz1⟩ := t1.out.below hb (by have := hs1.out; omega)
  have ho3 := hide (((ho.setBelow (a := ⟨w.heap.size + 1, 0, none⟩) (show w.heap.size + 1 < W0.heap.size by have := hw0.out; omega) (.slice A5 n5 c5)).setBelow (a := ⟨w.heap.size + 1, 1, none⟩) (show w.heap.size + 1 < W0.heap.size by have := hw0.out; omega) (.int .i64 P)).down (show w.heap.size ≤ W0.heap.size by have := hw0.out; omega))
  have hb3 := hide (((hb0.out.trans (hb.mono (by have := hs1.out; omega))).setCell (p := ⟨w.heap.size + 1, 0, none⟩) (Nat.le_succ _) (.slice A5 n5 c5)).setCell (p := ⟨w.heap.size + 1, 1, none⟩) (Nat.le_succ _) (.int .i64 P))
  clear ho hb hb0 t1 HF
  go_wp2_with fail
  exact bodyPost_ret (v := .agg #[.slice A5 n5 c5, .int .i64 P]) (by simp [results, Tryz.results66, go_sem, m10, m11]) rfl ⟨A5, n5, c5, us, P, rfl, hd.out, ho3.out, hb3.out⟩

theorem DrawnAt.ways {rs : List (List Int)} {zs ws us : List Int} {P : Int} (h : DrawnAt rs zs ws ws.length P us) : P = rways rs zs ws := by
  rcases h.at_ with h1 | h1
  · have := h1.2.2
    rwa [List.take_length] at this
  · rw [h1.1, h1.2]
theorem DrawnAt.urn {rs : List (List Int)} {zs ws us : List Int} {P : Int} (h : DrawnAt rs zs ws ws.length P us) (hP : P ≠ 0) : afterW rs zs ws = some us := by
  rcases h.at_ with h1 | h1
  · have := h1.2.1
    rwa [List.take_length] at this
  · exact absurd h1.1 hP
theorem DrawnAt.none_ {rs : List (List Int)} {zs ws us : List Int} (h : DrawnAt rs zs ws ws.length 0 us) : afterW rs zs ws = none := by
  have h0 := h.ways
  cases ha : afterW rs zs ws with
  | none => rfl
  | some vs => have := rways_some ha; omega

theorem afterL_len (zs : List Int) (rs : List (List Int)) (ws : List Int) : (afterL zs rs ws).length ≤ zs.length := by
  by_cases h : afterC zs rs ws = true
  · obtain ⟨hu, hm, hR, hw6, hwm⟩ := afterC_yes h
    cases ha : afterW rs zs ws with
    | none => rw [(afterL_no ha).1]; exact Nat.zero_le _
    | some us => rw [(afterL_yes h ha).1, (afterW_good hR rfl hm hwm ha).1]; exact Nat.le_refl _
  · rw [(afterL_not (by simpa using h)).1]; exact Nat.zero_le _

set_option maxHeartbeats 800000 in
theorem afterWord_impl (A A1 A' : Option Addr) (n c B n1 c1 B1 n' c' B' : Nat) (zs : List Int) (rs : List (List Int)) (ws : List Int) (w : World) (h : Ints w B A n c zs) (h1 : Mat w B1 A1 n1 c1 rs) (h' : Ints w B' A' n' c' ws) (hB : B ≤ w.heap.size) (hB1 : B1 ≤ w.heap.size) (hB' : B' ≤ w.heap.size) :
    Calls Tryz.prog 45 #[.slice A n c, .slice A1 n1 c1, .slice A' n' c'] w fun e w' => ∃ A₂ n₂ c₂, e = .returned (.tuple #[.slice A₂ n₂ c₂, .bool (afterOk zs rs ws)]) ∧ Own w' w.heap.size (.slice A₂ n₂ c₂) (afterL zs rs ws) ∧ Below w.heap.size w w' := by
  have hl := hide h.len
  have hl' := hide h'.len
  have HG := hide (begins_c _ _ _ _ _ _ _ _ _ _ w h h1)
  have HW := hide (wordOk_impl0 (n : Int) _ _ _ _ _ w h')
  have he0 := hide (show afterC zs rs ws = (begun zs rs && wordOk (n : Int) ws) by unfold afterC; rw [hl.out])
  by_cases o1 : begun zs rs = true
  · rw [o1] at HG
    by_cases o2 : wordOk (n : Int) ws = true
    · rw [o2] at HW
      have hok : afterC zs rs ws = true := by rw [he0.out, o1, o2]; rfl
      obtain ⟨_, hm, hRl, hw6, hwm⟩ := afterC_yes hok
      rw [hl.out] at hRl
      have hyes := hide (fun us (e : afterW rs zs ws = some us) => afterL_yes hok e)
      have HD := hide (drawnRule_c _ _ _ _ _ _ _ _ _ _ _ _ zs rs ws w h h1 h' hB hB1 hB' hm hRl (by have := hl'.out; omega) (fun x hx => by have := hwm x hx; have := hl.out; omega))
      clear o1 o2 hok hm hRl hw6 hwm
      go_enter Tryz.func45, Tryz.ntmps45
      go_wp2_with (first | (go_at_call 64; refine (HG.out).mono ?_; rintro e w' ⟨rfl, rfl⟩) | (go_at_call 65; refine (HW.out).mono ?_; rintro e w' ⟨rfl, rfl⟩))
      refine HD.out.mono ?_
      rintro e w1 ⟨A₂, n₂, c₂, us, P, rfl, hd, ho, hq⟩
      by_cases hP : P = 0
      · subst hP
        obtain ⟨e1, e2⟩ := afterL_no (zs := zs) (rs := rs) (ws := ws) hd.none_
        have e1 := hide e1
        have e2 := hide e2
        have hq2 := hide (hq.alloc hq.size (.cells #[.slice A₂ n₂ c₂, .int .i64 0] 82))
        clear hd ho hq
        go_wp2_with fail
        go_ret2
        exact ⟨_, _, _, ret_sb e2.out.symm, by rw [e1.out]; exact Own.none_, hq2.out⟩
      · obtain ⟨e1, e2⟩ := hyes.out us (hd.urn hP)
        have e1 := hide e1
        have e2 := hide e2
        have hP2 : (P == 0) = false := beq_false_of_ne hP
        have hq2 := hide (hq.alloc hq.size (.cells #[.slice A₂ n₂ c₂, .int .i64 P] 82))
        have ho2 := hide (ho.below (al w1 (.cells #[.slice A₂ n₂ c₂, .int .i64 P] 82)) (Nat.le_refl _))
        clear hd hP ho hq
        go_wp2_with fail
        go_ret2
        exact ⟨_, _, _, ret_sb e2.out.symm, by rw [e1.out]; exact ho2.out, hq2.out⟩
    · have o2 : wordOk (n : Int) ws = false := by simpa using o2
      rw [o2] at HW
      obtain ⟨e1, e2⟩ := afterL_not (zs := zs) (rs := rs) (ws := ws) (by rw [he0.out, o2, Bool.and_false])
      have e1 := hide e1
      have e2 := hide e2
      clear o1 o2
      go_enter Tryz.func45, Tryz.ntmps45
      go_wp2_with (first | (go_at_call 64; refine (HG.out).mono ?_; rintro e w' ⟨rfl, rfl⟩) | (go_at_call 65; refine (HW.out).mono ?_; rintro e w' ⟨rfl, rfl⟩))
      go_ret2
      exact ⟨_, _, _, ret_sb e2.out.symm, by rw [e1.out]; exact Own.none_, Below.refl _ _⟩
  · have o1 : begun zs rs = false := by simpa using o1
    rw [o1] at HG
    obtain ⟨e1, e2⟩ := afterL_not (zs := zs) (rs := rs) (ws := ws) (by rw [he0.out, o1]; rfl)
    have e1 := hide e1
    have e2 := hide e2
    clear o1
    go_enter Tryz.func45, Tryz.ntmps45
    go_wp2_with (first | (go_at_call 64; refine (HG.out).mono ?_; rintro e w' ⟨rfl, rfl⟩))
    go_ret2
    exact ⟨_, _, _, ret_sb e2.out.symm, by rw [e1.out]; exact Own.none_, Below.refl _ _⟩
end Go.Proofs.YtkgfbmlhplclfaaGreatDoor
