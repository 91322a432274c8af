/-
  Contracts of chapter 7, the program's side: roomsOk, RoomRowOk, RoomStep, RoomAfter, RestRow, LeanAfter (slices.Concat among what they call).
-/
import Derived.Test.YtfencbfjnifmjabRoomT
import Derived.Test.YtfencbfjnifmjabZoks
import Derived.Test.YtfencbfjnifmjabZpl
import Derived.Lib.AppendZerosOnto
import Derived.Lib.Walk
namespace Go.Proofs.Ytfencbfjnifmjab
open Go.RowKit
set_option linter.unusedVariables false

theorem roomsOk_c (m : Int) (w : World) :
    Calls Try.prog 47 #[.int .i64 m] w fun e w' => e = .returned (.bool (decide (1 ≤ m ∧ m ≤ 6))) ∧ w = w' := by
  by_cases h1 : 1 ≤ m
  · by_cases h6 : m ≤ 6
    · have hd := hide (decide_eq_true (show 1 ≤ m ∧ m ≤ 6 from ⟨h1, h6⟩))
      go_enter Try.func47, Try.ntmps47
      go_wp2
      go_ret
      exact ⟨ret_bool hd.out.symm, rfl⟩
    · have hd := hide (decide_eq_false (show ¬(1 ≤ m ∧ m ≤ 6) by omega))
      go_enter Try.func47, Try.ntmps47
      go_wp2
      go_ret
      exact ⟨ret_bool (by simp <;> omega), rfl⟩
  · have hd := hide (decide_eq_false (show ¬(1 ≤ m ∧ m ≤ 6) by omega))
    go_enter Try.func47, Try.ntmps47
    go_wp2
    go_ret
    exact ⟨ret_bool (by simp <;> omega), rfl⟩
theorem roomsOk_yes (m : Int) (w : World) (h : 1 ≤ m ∧ m ≤ 6) : Calls Try.prog 47 #[.int .i64 m] w fun e w' => e = .returned (.bool true) ∧ w = w' := by
  have := roomsOk_c m w
  rwa [decide_eq_true h] at this
theorem roomsOk_no (m : Int) (w : World) (h : ¬(1 ≤ m ∧ m ≤ 6)) : Calls Try.prog 47 #[.int .i64 m] w fun e w' => e = .returned (.bool false) ∧ w = w' := by
  have := roomsOk_c m w
  rwa [decide_eq_false h] at this

set_option maxHeartbeats 800000 in
theorem roomRowOk_impl0 (m : Int) (A : Option Addr) (n c B : Nat) (zs : List Int) (w : World) (h : Ints w B A n c zs) :
    Calls Try.prog 51 #[.int .i64 m, .slice A n c] w fun e w' => e = .returned (.bool (roomOk m zs)) ∧ w = w' := by
  have hl := hide h.len
  have hn := h.nb
  by_cases hm : 1 ≤ m ∧ m ≤ 6
  · have HR := hide (roomsOk_yes m w hm)
    by_cases hlen : (n : Int) = m + 1
    · obtain ⟨M, rfl⟩ : ∃ M : Nat, m = (M : Int) := ⟨m.toNat, by omega⟩
      obtain rfl : n = M + 1 := by omega
      obtain ⟨m1, m6⟩ := hm
      clear hlen
      go_enter Try.func51, Try.ntmps51
      go_wp2_with fail
      refine HR.out.mono ?_
      rintro e w' ⟨rfl, rfl⟩
      go_wp2_with fail
      go_loop [19] (fun i => ∃ k : Nat, k ≤ M + 1 ∧ i = .int .i64 k ∧ Hid (∀ (j : Nat) x, j < k → zs[j]? = some x → 0 ≤ x ∧ x ≤ 10000000)) (fun i => M + 1 - (intOf i).toNat)
      case atStart => exact ⟨0, Nat.zero_le _, rfl, fun j x hj _ => absurd hj (by omega)⟩
      case round =>
        obtain ⟨k, hk, rfl, hall⟩ := hrel
        by_cases hlt : k < M + 1
        · obtain ⟨b, off, x, rfl, hb, hx, hcell⟩ := h.look hlt
          by_cases hx0 : 0 ≤ x
          · by_cases hx1 : x ≤ 10000000
            · go_wp2
              go_round
              case rel => exact ⟨k + 1, by omega, by go_num, fun j y hj hy => by
                rcases Nat.lt_or_ge j k with hjk | hjk
                · exact hall.out j y hjk hy
                · obtain rfl : j = k := by omega
                  rw [hx.out] at hy; injection hy with hy; omega⟩
              case measure => simp [intOf]; omega
            · have hbad := hide (roomOk_bad (m := (M : Int)) hx.out (by omega))
              go_wp2
              go_ret
              exact ⟨ret_bool hbad.out.symm, rfl⟩
          · have hbad := hide (roomOk_bad (m := (M : Int)) hx.out (by omega))
            go_wp2
            go_ret
            exact ⟨ret_bool hbad.out.symm, rfl⟩
        · obtain rfl : k = M + 1 := by omega
          have he := hide (roomOk_end (m := (M : Int)) (row := zs) (fun j x hx => hall.out j x (by have := hl.out; have := (List.getElem?_eq_some_iff.1 hx).1; omega) hx))
          have he2 := hide (decide_eq_true (show 1 ≤ (M : Int) ∧ (M : Int) ≤ 6 ∧ (zs.length : Int) = (M : Int) + 1 by have := hl.out; omega))
          go_wp2
          go_ret
          exact ⟨ret_bool (by rw [he.out, he2.out]), rfl⟩
    · have hne : ((n : Int) == m + 1) = false := by simp; omega
      have he := hide (show roomOk m zs = false by unfold roomOk; rw [decide_eq_false (by have := hl.out; omega)]; rfl)
      clear hlen
      go_enter Try.func51, Try.ntmps51
      go_wp2_with fail
      refine HR.out.mono ?_
      rintro e w' ⟨rfl, rfl⟩
      go_wp2_with fail
      go_ret
      exact ⟨ret_bool he.out.symm, rfl⟩
  · have HR := hide (roomsOk_no m w hm)
    have he := hide (show roomOk m zs = false by unfold roomOk; rw [decide_eq_false (by omega)]; rfl)
    clear hm
    go_enter Try.func51, Try.ntmps51
    go_wp2_with fail
    refine HR.out.mono ?_
    rintro e w' ⟨rfl, rfl⟩
    go_wp2_with fail
    go_ret
    exact ⟨ret_bool he.out.symm, rfl⟩
theorem roomRowOk_impl (m : Int) (A : Option Addr) (n c B : Nat) (zs : List Int) (w : World) (h : Ints w B A n c zs) (hB : B ≤ w.heap.size) (wf0 : (Lit.int .i64 m).wf = true) :
    Calls Try.prog 51 #[.int .i64 m, .slice A n c] w fun e w' => e = .returned (.bool (roomOk m zs)) ∧ Below w.heap.size w w' := sameB (roomRowOk_impl0 m A n c B zs w h)

set_option maxHeartbeats 3200000 in
theorem roomStep_impl0 (m : Int) (A : Option Addr) (n c B : Nat) (zs : List Int) (w : World) (h : Ints w B A n c zs) (hB : B ≤ w.heap.size) :
    Calls Try.prog 30 #[.int .i64 m, .slice A n c] w fun e w' => ∃ A' n' c', e = .returned (.slice A' n' c') ∧ Own w' w.heap.size (.slice A' n' c') (roomStep m zs) ∧ Below w.heap.size w w' := by
  have HO := hide (roomRowOk_impl0 m A n c B zs w h)
  by_cases hok : roomOk m zs = true
  · have hx := roomOk_yes hok
    rw [hok] at HO
    obtain ⟨M, rfl, h1, h6, hzl, ha⟩ := hx
    obtain rfl : n = M + 1 := by have := h.len; omega
    have hfin := hide (show roomStep (M : Int) zs = if roomOk (M : Int) (stepL M zs) = true then stepL M zs else [] by
      unfold roomStep
      rw [Int.toNat_natCast]
      by_cases h2 : roomOk (M : Int) (stepL M zs) = true
      · rw [if_pos ⟨hok, h2⟩, if_pos h2]
      · rw [if_neg (fun a => h2 a.2), if_neg h2])
    obtain ⟨i0, hi, hz0, hz1, hz2⟩ := info_parts infoInt
    have HE := hide ha
    have HB := hide (fun (k j : Nat) (hj : j ≤ M) => stepAt_bound (k := k) h6 ha hj)
    have hlo := hide (stepTo_lo (row := zs) h1)
    have hhi := hide (stepTo_hi (row := zs) h1)
    have hmid := hide (fun (k : Nat) (h0 : 1 ≤ k) (hk : k < M) => stepTo_mid (row := zs) h0 hk)
    clear ha hok hzl
    go_enter Try.func30, Try.ntmps30
    go_wp2_with fail
    refine HO.out.mono ?_
    rintro e w' ⟨rfl, rfl⟩
    clear HO
    go_wp2_with (at_make; refine wpList_make_full _ rfl _ _ 26 rfl w.heap.size 3 i0 (.int .i64 0) 1 Try.underlying26 hi hz0 hz1 .i64 .i64 _ _ (M + 1) rfl rfl (by simp) (by simp) (by rw [hz2]; omega) (by unfold maxLen; omega) (Nat.le_refl _) ?_; intro w1 hown0 hgrow0; have hgrow0 := hide hgrow0; have hown0 := hide hown0)
    have hb0 := hide (show Below w.heap.size w w1 from (Below.refl _ _).grown hgrow0.out (Nat.le_refl _) (fun k hk => by cases hk))
    have ho0 := hide (show Own w1 w.heap.size (.slice (some ⟨w.heap.size, 0, none⟩) (M + 1) (M + 1)) (stepTo M zs 0) by rw [stepTo_zero]; exact own_made hown0.out)
    clear hown0 hgrow0
    go_loopw [17] (fun i wr => ∃ k : Nat, k ≤ M + 1 ∧ i = .int .i64 k ∧ Hid (Own wr w.heap.size (.slice (some ⟨w.heap.size, 0, none⟩) (M + 1) (M + 1)) (stepTo M zs k)) ∧ Hid (Below w.heap.size w wr)) (fun i _ => M + 1 - (intOf i).toNat)
    case atStart => exact ⟨0, Nat.zero_le _, rfl, ho0, hb0⟩
    case round =>
      clear ho0 hb0
      obtain ⟨k, hk, rfl, ho, hb⟩ := hrel
      have hst := hb.out.size
      by_cases hlt : k < M + 1
      · obtain ⟨b, off, x, rfl, hbB, hx, hcell⟩ := (h.below (hb.out.mono hB)).look (show k < M + 1 by omega)
        obtain ⟨x0, x1⟩ := HE.out k x hx.out
        have hax := hide (atI_some hx.out)
        rcases Nat.eq_zero_or_pos k with hk0 | hk0
        · subst hk0
          rw [Nat.add_zero] at hcell
          have hat := stepTo_at (M := M) (row := zs) (k := 0) (j := 1) (by omega)
          obtain ⟨g, hA2, hg, hgl, hcy, hfy⟩ := ho.out.at2 hat
          injection hA2 with hA2
          injection hA2 with hA2 _ _
          subst hA2
          have hyb := HB.out 0 1 (by omega)
          obtain ⟨y, hy⟩ : ∃ y, Hid (y = stepAt M zs 0 1) := ⟨_, rfl⟩
          rw [← hy.out] at hyb hcy
          obtain ⟨y0, y1⟩ := hyb
          have hM := mul_bound x0 x1 (b := (M : Int)) (N := 6) (by omega) (by omega)
          obtain ⟨q0, q1⟩ := hM
          have ho2 := hide (show Own (wr.setCell ⟨w.heap.size, 1, none⟩ (.int .i64 (y + x * (M : Int)))) w.heap.size (.slice (some ⟨w.heap.size, 0, none⟩) (M + 1) (M + 1)) (stepTo M zs 1) by
            have := ho.out.set_ (k := 1) (y + x * (M : Int)) (wf_i64 (by omega))
            rw [← hlo.out, hax.out, ← hy.out]
            simpa using this)
          have hb2 := hide (hb.out.setCell (p := ⟨w.heap.size, 1, none⟩) (Nat.le_refl _) (.int .i64 (y + x * (M : Int))))
          clear hat
          go_wp2
          go_roundw
          case rel => exact ⟨1, by omega, by go_num, ho2, hb2⟩
          case measure => simp [intOf] <;> omega
        · obtain ⟨j, hj, hjk⟩ : ∃ j : Nat, (k : Int) - 1 = (j : Int) ∧ j = k - 1 := ⟨k - 1, by omega, rfl⟩
          have hjM : j ≤ M := by omega
          replace hjk := hide hjk
          have hat := stepTo_at (M := M) (row := zs) (k := k) (j := j) (by omega)
          obtain ⟨g, hA2, hg, hgl, hcy, hfy⟩ := ho.out.at2 hat
          injection hA2 with hA2
          injection hA2 with hA2 _ _
          subst hA2
          have hyb := HB.out k j (by omega)
          obtain ⟨y, hy⟩ : ∃ y, Hid (y = stepAt M zs k j) := ⟨_, rfl⟩
          rw [← hy.out] at hyb hcy
          obtain ⟨y0, y1⟩ := hyb
          have hM := mul_bound x0 x1 (b := (k : Int)) (N := 6) (by omega) (by omega)
          obtain ⟨q0, q1⟩ := hM
          have ho2 := hide (ho.out.set_ (k := j) (y + x * (k : Int)) (wf_i64 (by omega)))
          have hb2 := hide (hb.out.setCell (p := ⟨w.heap.size, j, none⟩) (Nat.le_refl _) (.int .i64 (y + x * (k : Int))))
          rcases Nat.lt_or_ge k M with hkM | hkM
          · have hkI : (k : Int) < (M : Int) := by omega
            have hat2 : ((stepTo M zs k).set j (y + x * (k : Int)))[k + 1]? = some (stepAt M zs k (k + 1)) := by
              rw [hjk.out, hy.out, hjk.out, ← hax.out]; exact stepTo_mid1 hkM
            obtain ⟨g, hA2, hg2, hgl2, hcz, hfz⟩ := ho2.out.at2 hat2
            injection hA2 with hA2
            injection hA2 with hA2 _ _
            subst hA2
            have hzb := HB.out k (k + 1) (by omega)
            obtain ⟨z, hz⟩ : ∃ z, Hid (z = stepAt M zs k (k + 1)) := ⟨_, rfl⟩
            rw [← hz.out] at hzb hcz
            obtain ⟨z0, z1⟩ := hzb
            have hM2 := mul_bound x0 x1 (b := (M : Int) - (k : Int)) (N := 6) (by omega) (by omega)
            obtain ⟨r0, r1⟩ := hM2
            have ho3 := hide (show Own ((wr.setCell ⟨w.heap.size, j, none⟩ (.int .i64 (y + x * (k : Int)))).setCell ⟨w.heap.size, k + 1, none⟩ (.int .i64 (z + x * ((M : Int) - (k : Int))))) w.heap.size (.slice (some ⟨w.heap.size, 0, none⟩) (M + 1) (M + 1)) (stepTo M zs (k + 1)) by
              have := ho2.out.set_ (k := k + 1) (z + x * ((M : Int) - (k : Int))) (wf_i64 (by omega))
              rw [← hmid.out k hk0 hkM, hax.out, ← hz.out, ← hjk.out, ← hy.out]
              exact this)
            have hb3 := hide (hb2.out.setCell (p := ⟨w.heap.size, k + 1, none⟩) (Nat.le_refl _) (.int .i64 (z + x * ((M : Int) - (k : Int)))))
            clear hat hat2
            go_wp2
            go_roundw
            case rel => exact ⟨k + 1, by omega, by go_num, ho3, hb3⟩
            case measure => simp [intOf]; omega
          · obtain rfl : k = M := by omega
            have ho3 := hide (show Own (wr.setCell ⟨w.heap.size, j, none⟩ (.int .i64 (y + x * (k : Int)))) w.heap.size (.slice (some ⟨w.heap.size, 0, none⟩) (k + 1) (k + 1)) (stepTo k zs (k + 1)) by
              rw [← hhi.out, hax.out, ← hjk.out, ← hy.out]
              exact ho2.out)
            clear hat
            go_wp2
            go_roundw
            case rel => exact ⟨k + 1, by omega, by go_num, ho3, hb2⟩
            case measure => simp [intOf]
      · obtain rfl : k = M + 1 := by omega
        have HO2 := hide (roomRowOk_impl0 (M : Int) _ _ _ _ (stepL M zs) wr ho.out.ints)
        by_cases hok2 : roomOk (M : Int) (stepL M zs) = true
        · have he := hide (hfin.out.trans (if_pos hok2))
          rw [hok2] at HO2
          clear hok2 hfin
          go_wp2_with fail
          refine HO2.out.mono ?_
          rintro e w' ⟨rfl, rfl⟩
          go_wp2_with fail
          go_ret
          rw [he.out]
          exact ⟨_, _, _, rfl, ho.out, hb.out⟩
        · have he := hide (hfin.out.trans (if_neg hok2))
          have hok2 : roomOk (M : Int) (stepL M zs) = false := by simpa using hok2
          rw [hok2] at HO2
          clear hok2 hfin
          go_wp2_with fail
          refine HO2.out.mono ?_
          rintro e w' ⟨rfl, rfl⟩
          go_wp2_with fail
          go_ret
          rw [he.out]
          exact ⟨_, _, _, rfl, Own.none_, hb.out⟩
  · have he := hide (show roomStep m zs = [] by unfold roomStep; rw [if_neg (fun a => hok a.1)])
    have hok : roomOk m zs = false := by simpa using hok
    rw [hok] at HO
    clear hok
    go_enter Try.func30, Try.ntmps30
    go_wp2_with fail
    refine HO.out.mono ?_
    rintro e w' ⟨rfl, rfl⟩
    go_wp2_with fail
    go_ret
    rw [he.out]
    exact ⟨_, _, _, rfl, Own.none_, Below.refl _ _⟩
theorem roomStep_impl (m : Int) (A : Option Addr) (n c B : Nat) (zs : List Int) (w : World) (h : Ints w B A n c zs) (hB : B ≤ w.heap.size) (wf0 : (Lit.int .i64 m).wf = true) :
    Calls Try.prog 30 #[.int .i64 m, .slice A n c] w fun e w' => ∃ A' n' c', e = .returned (.slice A' n' c') ∧ Own w' w.heap.size (.slice A' n' c') (roomStep m zs) ∧ Below w.heap.size w w' := roomStep_impl0 m A n c B zs w h hB

theorem afterStep_c (m : Int) (g : Nat) (A : Option Addr) (n c B : Nat) (zs : List Int) (w : World) (hg : w.cell? ⟨g, 0, none⟩ = some (.int .i64 m)) (h : Ints w B A n c zs) (hB : B ≤ w.heap.size) :
    Calls Try.prog 54 #[.slice A n c, .pointer (some ⟨g, 0, none⟩)] w fun e w' => ∃ A' n' c', e = .returned (.slice A' n' c') ∧ Own w' w.heap.size (.slice A' n' c') (roomStep m zs) ∧ Below w.heap.size w w' := by
  have HS := hide (roomStep_impl0 m A n c B zs w h hB)
  go_enter Try.func54, Try.ntmps54
  go_wp2_with fail
  refine HS.out.mono ?_
  rintro e w1 ⟨A1, n1, c1, rfl, ho, hq⟩
  go_wp2_with fail
  go_ret
  exact ⟨_, _, _, rfl, ho, hq⟩

theorem roomStep_on {M F S : Nat} (h1 : 1 ≤ M) (h6 : M ≤ 6) (hF : F ≤ M) (hS : S < 6) : roomStep (M : Int) (roomL M F S) = roomL M F (S + 1) := by
  have a := roomOk_mk h1 h6 (roomL_len M F S) (fun x hx => by
    obtain ⟨k, hk, rfl⟩ := List.getElem_of_mem hx
    have := room_elem h1 h6 hF (show S ≤ 6 by omega) (List.getElem?_eq_getElem hk)
    omega)
  have b := roomOk_mk h1 h6 (roomL_len M F (S + 1)) (fun x hx => by
    obtain ⟨k, hk, rfl⟩ := List.getElem_of_mem hx
    have := room_elem h1 h6 hF (show S + 1 ≤ 6 by omega) (List.getElem?_eq_getElem hk)
    omega)
  unfold roomStep
  rw [Int.toNat_natCast, if_pos ⟨a, b⟩]
  rfl

set_option maxHeartbeats 1600000 in
theorem repeatedA_c (M F S g base : Nat) (A : Option Addr) (n c : Nat) (w : World) (hg : w.cell? ⟨g, 0, none⟩ = some (.int .i64 (M : Int))) (hgw : g < w.heap.size) (hbase : base ≤ w.heap.size) (h1 : 1 ≤ M) (h6 : M ≤ 6) (hF : F ≤ M) (hS : S ≤ 6) (ho0 : Own w base (.slice A n c) (roomL M F 0)) :
    Calls Try.prog 53 #[.slice A n c, .int .i64 (S : Int), .func (.func 54) #[] #[.pointer (some ⟨g, 0, none⟩)]] w fun e w' => ∃ A' n' c', e = .returned (.slice A' n' c') ∧ Own w' base (.slice A' n' c') (roomL M F S) ∧ Below w.heap.size w w' := by
  have HN := hide (fun (k : Nat) (hk : k < 6) => roomStep_on (F := F) h1 h6 hF hk)
  replace ho0 := hide ho0
  replace hg := hide hg
  go_enter Try.func53, Try.ntmps53
  go_wp2
  go_loopw [7, 10] (fun v i wr => ∃ k : Nat, ∃ A n c, k ≤ S ∧ i = .int .i64 k ∧ v = .slice A n c ∧ Hid (Own wr base (.slice A n c) (roomL M F k)) ∧ Hid (Below w.heap.size w wr)) (fun _ i _ => S - (intOf i).toNat)
  case atStart => exact ⟨0, _, _, _, Nat.zero_le _, rfl, rfl, ho0, hide (Below.refl _ _)⟩
  case round =>
    clear ho0
    obtain ⟨k, A, n, c, hk, rfl, rfl, ho, hb⟩ := hrel
    by_cases hlt : k < S
    · have hg2 := (hb.out.cell (p := ⟨g, 0, none⟩) hgw).trans hg.out
      have HS := hide (afterStep_c (M : Int) g A n c _ (roomL M F k) wr hg2 ho.out.ints (Nat.le_refl _))
      rw [HN.out k (by omega)] at HS
      clear hg2
      go_wp2_with fail
      refine HS.out.mono ?_
      rintro e w2 ⟨A1, n1, c1, rfl, ho2, hq⟩
      have hb2 := hide (upB hb.out hq)
      have ho2 := hide (show Own w2 base (.slice A1 n1 c1) (roomL M F (k + 1)) from ho2.down (by have := hb.out.size; omega))
      clear hq HS
      go_wp2_with fail
      go_roundw
      case rel => exact ⟨k + 1, _, _, _, by omega, by go_num, rfl, ho2, hb2⟩
      case measure => simp [intOf]; omega
    · obtain rfl : k = S := by omega
      go_wp2_with fail
      go_ret
      exact ⟨_, _, _, rfl, ho.out, hb.out⟩

theorem own_madeB {w : World} {b g m : Nat} (ho : w.ownsRow b 3 1 (.slice (some ⟨g, 0, none⟩) m m) m (madeCells (Value.int .i64 0).cells (m * 1)).toList) : Own w b (.slice (some ⟨g, 0, none⟩) m m) (List.replicate m 0) :=
  ⟨by
    have e1 : (madeCells (Value.int .i64 0).cells (m * 1)).toList = (List.replicate m (0 : Int)).map (Value.int .i64) := by
      simp [Value.cells, toList_madeCells_one]
    rw [List.length_replicate, ← e1]; exact ho, fun z hz => by
      have := List.eq_of_mem_replicate hz
      subst this; decide⟩

set_option maxHeartbeats 3200000 in
theorem roomAfter_impl0 (m f s : Int) (w : World) :
    Calls Try.prog 32 #[.int .i64 m, .int .i64 f, .int .i64 s] w fun e w' => ∃ A' n' c', e = .returned (.slice A' n' c') ∧ Own w' w.heap.size (.slice A' n' c') (roomA m f s) ∧ Below w.heap.size w w' := by
  have HR := hide (fun o => roomsOk_c m (w.alloc o))
  by_cases hm : 1 ≤ m ∧ m ≤ 6
  · rw [decide_eq_true hm] at HR
    obtain ⟨m1, m6⟩ := hm
    by_cases hf0 : 0 ≤ f
    · by_cases hfm : f ≤ m
      · by_cases hs0 : 0 ≤ s
        · by_cases hs6 : s ≤ 6
          · have hok : roomArgs m f s = true := decide_eq_true (by omega)
            have he := hide (show roomA m f s = roomL m.toNat f.toNat s.toNat by unfold roomA; rw [if_pos hok])
            obtain ⟨M, F, S, rfl, rfl, rfl, h1, h6, hF, hS⟩ := roomArgs_yes hok
            clear hok
            rw [Int.toNat_natCast, Int.toNat_natCast, Int.toNat_natCast] at he
            rw [he.out]
            obtain ⟨i0, hi, hz0, hz1, hz2⟩ := info_parts infoInt
            clear he m1 m6 hf0 hfm hs0 hs6
            have hrep := hide (show (List.replicate (M + 1) (0 : Int))[F]? = some 0 by rw [List.getElem?_replicate, if_pos (by omega)])
            go_enter Try.func32, Try.ntmps32
            go_wp2_with (first | (go_at_call 47; refine (HR.out _).mono ?_; rintro e w' ⟨rfl, rfl⟩) | (at_make; refine wpList_make_full _ rfl _ _ 26 rfl w.heap.size 3 i0 (.int .i64 0) 1 Try.underlying26 hi hz0 hz1 .i64 .i64 _ _ (M + 1) rfl rfl (by simp) (by simp) (by rw [hz2]; omega) (by unfold maxLen; omega) (by simp) ?_; intro w1 hown0 hgrow0; have hb0 := hide (show Below w.heap.size w w1 from (al w _).grown hgrow0 (by simp) (fun k hk => by cases hk)); have hg1 := hide (show w1.cell? ⟨w.heap.size, 0, none⟩ = some (.int .i64 (M : Int)) from hgrow0.cell (by simp) (by simp)); have hs1 := hide (show w.heap.size + 1 ≤ w1.heap.size by have := hgrow0.size; simpa using this); have ho0 := own_madeB hown0; simp only [World.size_alloc] at ho0; replace ho0 := hide ho0; obtain ⟨g, hA2, hgg, hgl, hcy, hfy⟩ := ho0.out.at2 hrep.out; injection hA2 with hA2; injection hA2 with hA2 _ _; subst hA2; clear hown0 hgrow0))
            have ho1 := hide (show Own (w1.setCell ⟨w.heap.size + 1, F, none⟩ (.int .i64 1)) w.heap.size (.slice (some ⟨w.heap.size + 1, 0, none⟩) (M + 1) (M + 1)) (roomL M F 0) from ho0.out.set_ (k := F) 1 (wf_i64 (by omega)))
            have hb1 := hide (hb0.out.setCell (p := ⟨w.heap.size + 1, F, none⟩) (Nat.le_succ _) (.int .i64 1))
            have hg2 := hide ((World.cell?_setCell_other w1 ⟨w.heap.size + 1, F, none⟩ ⟨w.heap.size, 0, none⟩ (.int .i64 1) (fun e => by injection e with e; omega)).trans hg1.out)
            have HP := hide (repeatedA_c M F S w.heap.size w.heap.size _ _ _ (w1.setCell ⟨w.heap.size + 1, F, none⟩ (.int .i64 1)) hg2.out (by have := hb1.out.size; have := hs1.out; simp; omega) (by have := hb1.out.size; exact this) h1 h6 hF hS ho1.out)
            clear ho0 hb0 hg1 hs1 hrep
            go_wp2_with fail
            refine HP.out.mono ?_
            rintro e w2 ⟨A2, n2, c2, rfl, ho2, hq⟩
            have hb2 := hide (upB hb1.out hq)
            go_wp2_with fail
            go_ret
            exact ⟨_, _, _, rfl, ho2, hb2.out⟩
          · have he := hide (show roomA m f s = [] by unfold roomA; rw [show roomArgs m f s = false from decide_eq_false (by omega)]; rfl)
            go_enter Try.func32, Try.ntmps32
            go_wp2_with (go_at_call 47; refine (HR.out _).mono ?_; rintro e w' ⟨rfl, rfl⟩)
            go_ret
            rw [he.out]
            exact ⟨_, _, _, rfl, Own.none_, al _ _⟩
        · have he := hide (show roomA m f s = [] by unfold roomA; rw [show roomArgs m f s = false from decide_eq_false (by omega)]; rfl)
          go_enter Try.func32, Try.ntmps32
          go_wp2_with (go_at_call 47; refine (HR.out _).mono ?_; rintro e w' ⟨rfl, rfl⟩)
          go_ret
          rw [he.out]
          exact ⟨_, _, _, rfl, Own.none_, al _ _⟩
      · have he := hide (show roomA m f s = [] by unfold roomA; rw [show roomArgs m f s = false from decide_eq_false (by omega)]; rfl)
        go_enter Try.func32, Try.ntmps32
        go_wp2_with (go_at_call 47; refine (HR.out _).mono ?_; rintro e w' ⟨rfl, rfl⟩)
        go_ret
        rw [he.out]
        exact ⟨_, _, _, rfl, Own.none_, al _ _⟩
    · have he := hide (show roomA m f s = [] by unfold roomA; rw [show roomArgs m f s = false from decide_eq_false (by omega)]; rfl)
      go_enter Try.func32, Try.ntmps32
      go_wp2_with (go_at_call 47; refine (HR.out _).mono ?_; rintro e w' ⟨rfl, rfl⟩)
      go_ret
      rw [he.out]
      exact ⟨_, _, _, rfl, Own.none_, al _ _⟩
  · have he := hide (show roomA m f s = [] by unfold roomA; rw [show roomArgs m f s = false from decide_eq_false (by omega)]; rfl)
    rw [decide_eq_false hm] at HR
    clear hm
    go_enter Try.func32, Try.ntmps32
    go_wp2_with (go_at_call 47; refine (HR.out _).mono ?_; rintro e w' ⟨rfl, rfl⟩)
    go_ret
    rw [he.out]
    exact ⟨_, _, _, rfl, Own.none_, al _ _⟩
theorem roomAfter_impl (m f s : Int) (w : World) (wf0 : (Lit.int .i64 m).wf = true) (wf1 : (Lit.int .i64 f).wf = true) (wf2 : (Lit.int .i64 s).wf = true) :
    Calls Try.prog 32 #[.int .i64 m, .int .i64 f, .int .i64 s] w fun e w' => ∃ A' n' c', e = .returned (.slice A' n' c') ∧ Own w' w.heap.size (.slice A' n' c') (roomA m f s) ∧ Below w.heap.size w w' := roomAfter_impl0 m f s w

/-! slices.Grow of nil, slices.Concat of a slice of rows with elements. -/
set_option maxHeartbeats 1600000 in
theorem growNil_c (N : Nat) (w : World) (h1 : 1 ≤ N) (h2 : N ≤ 100000) :
    Calls Try.prog 61 #[.slice none 0 0, .int .i64 (N : Int)] w fun e w' => ∃ A' c', e = .returned (.slice A' 0 c') ∧ Own w' w.heap.size (.slice A' 0 c') [] ∧ Below w.heap.size w w' := by
  obtain ⟨i0, hi, hz0, hz1, hz2⟩ := info_parts infoInt
  have hrz : ∀ ty, (Builtin.append_ #[26, 3] ty #[.slice none 0 0, .int .i64 (N : Int)]).run Try.prog w = .ok (.slice (some ⟨w.heap.size, 0, none⟩) N (grownCap w N 0 3)) (w.drew.alloc (.cells ((#[] : Array Value) ++ Builtin.zeroCells (Value.int .i64 0).cells N ++ Builtin.zeroCells (Value.int .i64 0).cells (grownCap w N 0 3 - N)) 3)) := fun ty => by
    have h := Lib.run_append_grow_zeros (P := Try.prog) w 26 3 ty 3 i0 (.int .i64 0) .i64 .i64 Try.underlying26 Try.underlying3 hi hz0 none 0 0 [] (run_firstCells_none w.drew i0.size 0 0 0) N (by omega) (by rw [hz1]; decide) (by omega) (by omega) (by rw [hz2]; omega) (growslice_fits (by omega) (by rw [hz2]; omega))
    rw [Nat.zero_add] at h
    exact h
  have hGn : N ≤ grownCap w N 0 3 := grownCap_ge w _ _ _
  have hGm := grownCap_le_maxLen w N 0 3 (by unfold maxLen; omega)
  obtain ⟨G, hG⟩ : ∃ G, G = grownCap w N 0 3 := ⟨_, rfl⟩
  rw [← hG] at hrz hGn hGm
  have hG63 : G ≤ 9223372036854775807 := by unfold maxLen at hGm; omega
  obtain ⟨cs, hcs⟩ : ∃ cs : Array Value, cs = (#[] : Array Value) ++ Builtin.zeroCells (Value.int .i64 0).cells N ++ Builtin.zeroCells (Value.int .i64 0).cells (G - N) := ⟨_, rfl⟩
  have hsz : cs.size = G * 1 := by rw [hcs]; simp [Builtin.zeroCells, Value.cells]; omega
  rw [← hcs] at hrz
  have ho := hide (show Own (w.drew.alloc (.cells cs 3)) w.heap.size (.slice (some ⟨w.heap.size, 0, none⟩) 0 G) [] from ⟨World.ownsRow_made w.drew cs G (Nat.le_refl _) hGm hsz, fun _ h => by cases h⟩)
  have hb := hide (show Below w.heap.size w (w.drew.alloc (.cells cs 3)) from (below_drewN (Below.refl _ _) 1).alloc (Nat.le_refl _) _)
  clear hG hcs hsz hGm
  go_enter Try.func61, Try.ntmps61
  go_wp2_with (at_builtin; refine Lib.wpList_append_run _ rfl _ _ _ _ rfl _ _ rfl rfl _ _ (hrz _) ?_)
  go_ret
  exact ⟨_, _, rfl, ho.out, hb.out⟩

theorem flat_take {rs : List (List Int)} {k : Nat} {l : List Int} (h : rs[k]? = some l) : (rs.take (k + 1)).flatten = (rs.take k).flatten ++ l := by
  rw [List.take_add_one, h, List.flatten_append]; simp
theorem flat_len {rs : List (List Int)} (k : Nat) : (rs.take k).flatten.length ≤ rs.flatten.length := by
  have := congrArg List.length (congrArg List.flatten (List.take_append_drop k rs))
  rw [List.flatten_append, List.length_append] at this
  omega

set_option maxHeartbeats 3200000 in
theorem concat_c (A : Option Addr) (n c B : Nat) (rs : List (List Int)) (w : World) (h : Mat w B A n c rs) (hB : B ≤ w.heap.size) (hp : 1 ≤ rs.flatten.length) (hm : rs.flatten.length ≤ 100000) :
    Calls Try.prog 58 #[.slice A n c] w fun e w' => ∃ A' n' c', e = .returned (.slice A' n' c') ∧ Own w' w.heap.size (.slice A' n' c') rs.flatten ∧ Below w.heap.size w w' := by
  obtain ⟨i0, hi, hz0, hz1, hz2⟩ := info_parts infoInt
  have hn := h.nb
  have HL := hide (fun k => flat_len (rs := rs) k)
  have HT := hide (fun (k : Nat) l (hx : rs[k]? = some l) => flat_take hx)
  have hall := hide (show rs.take n = rs from List.take_of_length_le (by have := h.len; omega))
  obtain ⟨N, hN⟩ : ∃ N, Hid (N = rs.flatten.length) := ⟨_, hide rfl⟩
  rw [← hN.out] at hp hm HL
  go_enter Try.func58, Try.ntmps58
  go_wp2
  go_loop [3, 11] (fun t i => ∃ k L : Nat, k ≤ n ∧ i = .int .i64 k ∧ t = .int .i64 (L : Int) ∧ Hid (L = (rs.take k).flatten.length)) (fun _ i => n - (intOf i).toNat)
  case atStart => exact ⟨0, 0, Nat.zero_le _, rfl, rfl, hide rfl⟩
  case round =>
    obtain ⟨k, L, hk, rfl, rfl, hL⟩ := hrel
    by_cases hlt : k < n
    · obtain ⟨b, off, l, A', n', c', rfl, hb, hx, hcell, hz'⟩ := h.look hlt
      have hll := hide hz'.out.len
      have hnx := hide (show L + n' = (rs.take (k + 1)).flatten.length by rw [HT.out k l hx.out, List.length_append, ← hL.out, hll.out])
      have hLb := HL.out (k + 1)
      rw [← hnx.out] at hLb
      have hnn := hz'.out.nb
      go_wp2
      go_round
      case rel => exact ⟨k + 1, L + n', by omega, by go_num, by go_num, hnx⟩
      case measure => simp [intOf]; omega
    · obtain rfl : n = k := by omega
      obtain rfl : L = N := by rw [hN.out, hL.out, hall.out]
      have HG := hide (growNil_c L w hp hm)
      go_wp2_with fail
      refine HG.out.mono ?_
      rintro e w1 ⟨A1, c1, rfl, ho1, hb1⟩
      replace ho1 := hide ho1
      replace hb1 := hide hb1
      clear HG hL
      go_wp2_with fail
      go_loopw [6, 27] (fun v i wr => ∃ k m : Nat, ∃ A c, k ≤ n ∧ i = .int .i64 k ∧ v = .slice A m c ∧ Hid (Own wr w.heap.size (.slice A m c) (rs.take k).flatten) ∧ Hid (Below w.heap.size w wr)) (fun _ i _ => n - (intOf i).toNat)
      case atStart => exact ⟨0, 0, _, _, Nat.zero_le _, rfl, rfl, ho1, hb1⟩
      case round =>
        clear ho1 hb1
        obtain ⟨k, m, Ar, cr, hk, rfl, rfl, ho, hb⟩ := hrel
        have hst := hb.out.size
        by_cases hlt : k < n
        · obtain ⟨b, off, l, A', n', c', rfl, hbB, hx, hcell, hz'⟩ := (h.below (hb.out.mono hB)).look hlt
          have hll := hide hz'.out.len
          have hnx := hide (HT.out k l hx.out)
          have hLb := HL.out (k + 1)
          rw [hnx.out, List.length_append, hll.out] at hLb
          go_wp2_with (at_builtin; refine wpList_app _ rfl _ _ 26 rfl i0 Try.underlying26 hi hz0 hz1 hz2 _ _ rfl ho.out A' n' c' B l rfl hz'.out (by omega) (by omega) ?_; intro A₃ n₃ c₃ w3 ho3 hg3; have ho3 := hide (show Own w3 w.heap.size (.slice A₃ n₃ c₃) (rs.take (k + 1)).flatten by rw [hnx.out]; exact ho3); have hb3 := hide (hb.out.grown hg3 (by omega) (fun j hj => (ho.out.row.lt j hj).1)); clear hg3)
          go_roundw
          case rel => exact ⟨k + 1, _, _, _, by omega, by go_num, rfl, ho3, hb3⟩
          case measure => simp [intOf]; omega
        · obtain rfl : k = n := by omega
          go_wp2
          go_ret
          exact ⟨_, _, _, rfl, by have := ho.out; rwa [hall.out] at this, hb.out⟩

theorem mat_two {w : World} {B b n c n' c' : Nat} {A A' : Option Addr} {zs zs' : List Int} (h0 : w.cell? ⟨b, 0, none⟩ = some (.slice A n c)) (h1 : w.cell? ⟨b, 1, none⟩ = some (.slice A' n' c')) (hz : Ints w B A n c zs) (hz' : Ints w B A' n' c' zs') (hb : b < B) : Mat w B (some ⟨b, 0, none⟩) 2 2 [zs, zs'] := by
  refine ⟨rfl, Nat.le_refl _, by unfold maxLen; omega, fun _ => ⟨b, 0, rfl, hb, fun j l hl => ?_⟩, fun e => by cases e⟩
  rcases j with _ | _ | j
  · simp at hl; subst hl; exact ⟨_, _, _, h0, hz⟩
  · simp at hl; subst hl; exact ⟨_, _, _, h1, hz'⟩
  · simp at hl
theorem rest_pascal_cnt : ((List.range 6).all fun k => decide (addL (restL k ++ [0]) ([0] ++ restL k) = restL (k + 1)) && (restL k).all fun x => decide (0 ≤ x ∧ x ≤ 20)) = true := by kernel_rfl
theorem rest_pascal {k : Nat} (h : k < 6) : addL (restL k ++ [0]) ([0] ++ restL k) = restL (k + 1) := of_decide_eq_true (Bool.and_eq_true_iff.1 (all_range rest_pascal_cnt h)).1
theorem rest_small {k : Nat} (h : k < 6) {x : Int} (hx : x ∈ restL k) : 0 ≤ x ∧ x ≤ 20 := of_decide_eq_true (List.all_eq_true.1 (Bool.and_eq_true_iff.1 (all_range rest_pascal_cnt h)).2 x hx)

set_option maxHeartbeats 1600000 in
theorem oneMore_c (A : Option Addr) (n c B : Nat) (zs : List Int) (w : World) (h : Ints w B A n c zs) (hB : B ≤ w.heap.size) (hn : n ≤ 100) (hs : ∀ x ∈ zs, 0 ≤ x ∧ x ≤ 20) :
    Calls Try.prog 56 #[.slice A n c] w fun e w' => ∃ A' n' c', e = .returned (.slice A' n' c') ∧ Own w' w.heap.size (.slice A' n' c') (addL (zs ++ [0]) ([0] ++ zs)) ∧ Below w.heap.size w w' := by
  have hl := hide h.len
  have hb0 := hide (show Ints w w.heap.size A n c zs from h.more hB)
  have hw0 : (Lit.int .i64 0).wf = true := by decide
  have H1 := hide (fun (V : World) (hV : Ints V V.heap.size A n c zs) => concat_c (some ⟨V.heap.size + 1, 0, none⟩) 2 2 (V.heap.size + 2) [zs, [0]] ((V.alloc (.cells #[.int .i64 0] 3)).alloc (.cells #[.slice A n c, .slice (some ⟨V.heap.size, 0, none⟩) 1 1] 26)) (mat_two (by simp) (by simp) (((hV.alloc (Nat.le_refl _) _).alloc (by simp) _).more (by omega)) (((ints_lit1 hw0).alloc (by simp) _).more (by omega)) (by omega)) (by simp) (by simp) (by have := hl.out; simp; omega))
  have H2 := hide (fun (V : World) (hV : Ints V V.heap.size A n c zs) => concat_c (some ⟨V.heap.size + 1, 0, none⟩) 2 2 (V.heap.size + 2) [[0], zs] ((V.alloc (.cells #[.int .i64 0] 3)).alloc (.cells #[.slice (some ⟨V.heap.size, 0, none⟩) 1 1, .slice A n c] 26)) (mat_two (by simp) (by simp) (((ints_lit1 hw0).alloc (by simp) _).more (by omega)) (((hV.alloc (Nat.le_refl _) _).alloc (by simp) _).more (by omega)) (by omega)) (by simp) (by simp) (by have := hl.out; simp; omega))
  replace hs := hide hs
  clear h
  go_enter Try.func56, Try.ntmps56
  go_wp2_with fail
  refine (H1.out w hb0.out).mono ?_
  rintro e w1 ⟨A1, n1, c1, rfl, ho1, hq1⟩
  have hq1 := hide (upB ((al w _).trans ((al _ _).mono (by simp))) hq1)
  have ho1 := hide ho1
  go_wp2_with fail
  have hz1 := hide (hb0.out.up hq1.out)
  refine (H2.out w1 hz1.out).mono ?_
  rintro e w2 ⟨A2, n2, c2, rfl, ho2, hq2⟩
  have hq12 := hide (show Below w1.heap.size w1 w2 from upB ((al w1 _).trans ((al _ _).mono (by simp))) hq2)
  have ho1 := hide (ho1.out.up hq12.out)
  have hq := hide (upB hq1.out hq12.out)
  have e1 : [zs, [0]].flatten = zs ++ [0] := by simp
  have e2 : [[0], zs].flatten = [0] ++ zs := by simp
  rw [e1] at ho1
  rw [e2] at ho2
  have hn1 := ho1.out.len
  have hn2 := ho2.len
  have hnn : n2 = n1 := by rw [hn1, hn2]; simp
  subst hnn
  have HA := hide (added_c A1 A2 n2 c1 _ c2 _ (zs ++ [0]) ([0] ++ zs) w2 ho1.out.ints ho2.ints (Nat.le_refl _) (Nat.le_refl _) (by rw [hn2]; have := hl.out; simp; omega) (fun x hx => by
    rcases List.mem_append.1 hx with h | h
    · have := hs.out x h; omega
    · simp at h; subst h; omega) (fun x hx => by
    rcases List.mem_append.1 hx with h | h
    · simp at h; subst h; omega
    · have := hs.out x h; omega))
  clear ho1 ho2 hn1 hn2 hq2 hq12 hq1 e1 e2
  go_wp2_with fail
  refine HA.out.mono ?_
  rintro e w3 ⟨A3, n3, c3, rfl, ho3, hq3⟩
  go_wp2_with fail
  go_ret
  exact ⟨_, _, _, rfl, ho3.down (by have := hq.out.size; omega), upB hq.out hq3⟩

set_option maxHeartbeats 1600000 in
theorem repeatedR_c (M base : Nat) (A : Option Addr) (n c : Nat) (w : World) (hbase : base ≤ w.heap.size) (h6 : M ≤ 6) (ho0 : Own w base (.slice A n c) (restL 0)) :
    Calls Try.prog 53 #[.slice A n c, .int .i64 (M : Int), .func (.func 56) #[] #[]] w fun e w' => ∃ A' n' c', e = .returned (.slice A' n' c') ∧ Own w' base (.slice A' n' c') (restL M) ∧ Below w.heap.size w w' := by
  replace ho0 := hide ho0
  go_enter Try.func53, Try.ntmps53
  go_wp2
  go_loopw [7, 10] (fun v i wr => ∃ k : Nat, ∃ A n c, k ≤ M ∧ i = .int .i64 k ∧ v = .slice A n c ∧ Hid (Own wr base (.slice A n c) (restL k)) ∧ Hid (Below w.heap.size w wr)) (fun _ i _ => M - (intOf i).toNat)
  case atStart => exact ⟨0, _, _, _, Nat.zero_le _, rfl, rfl, ho0, hide (Below.refl _ _)⟩
  case round =>
    clear ho0
    obtain ⟨k, A, n, c, hk, rfl, rfl, ho, hb⟩ := hrel
    by_cases hlt : k < M
    · have HS := hide (oneMore_c A n c _ (restL k) wr ho.out.ints (Nat.le_refl _) (by have := ho.out.len; rw [restL_len] at this; omega) (fun x hx => rest_small (by omega) hx))
      rw [rest_pascal (show k < 6 by omega)] at HS
      go_wp2_with fail
      refine HS.out.mono ?_
      rintro e w2 ⟨A1, n1, c1, rfl, ho2, hq⟩
      have hb2 := hide (upB hb.out hq)
      have ho2 := hide (show Own w2 base (.slice A1 n1 c1) (restL (k + 1)) from ho2.down (by have := hb.out.size; omega))
      clear hq HS
      go_wp2_with fail
      go_roundw
      case rel => exact ⟨k + 1, _, _, _, by omega, by go_num, rfl, ho2, hb2⟩
      case measure => simp [intOf]; omega
    · obtain rfl : k = M := by omega
      go_wp2_with fail
      go_ret
      exact ⟨_, _, _, rfl, ho.out, hb.out⟩

theorem own_lit1 {w : World} {x : Int} (hx : (Lit.int .i64 x).wf = true) : Own (w.alloc (.cells #[.int .i64 x] 3)) w.heap.size (.slice (some ⟨w.heap.size, 0, none⟩) 1 1) [x] :=
  ⟨⟨rfl, .inr ⟨w.heap.size, 1, #[.int .i64 x], rfl, Nat.le_refl _, heap_alloc_new w _, Nat.le_refl _, by unfold maxLen; omega, rfl, rfl⟩⟩, fun z hz => by simp at hz; subst hz; exact hx⟩

set_option maxHeartbeats 1600000 in
theorem choicesRow_c (M : Nat) (w : World) (h6 : M ≤ 6) :
    Calls Try.prog 40 #[.int .i64 (M : Int)] w fun e w' => ∃ A' n' c', e = .returned (.slice A' n' c') ∧ Own w' w.heap.size (.slice A' n' c') (restL M) ∧ Below w.heap.size w w' := by
  have HP := hide (repeatedR_c M w.heap.size (some ⟨w.heap.size, 0, none⟩) 1 1 (w.alloc (.cells #[.int .i64 1] 3)) (by simp) h6 (own_lit1 (by decide)))
  go_enter Try.func40, Try.ntmps40
  go_wp2_with fail
  refine HP.out.mono ?_
  rintro e w2 ⟨A2, n2, c2, rfl, ho2, hq⟩
  go_wp2_with fail
  go_ret
  exact ⟨_, _, _, rfl, ho2, upB (al w _) hq⟩

set_option maxHeartbeats 1600000 in
theorem restRow_impl0 (m : Int) (w : World) :
    Calls Try.prog 23 #[.int .i64 m] w fun e w' => ∃ A' n' c', e = .returned (.slice A' n' c') ∧ Own w' w.heap.size (.slice A' n' c') (restR m) ∧ Below w.heap.size w w' := by
  have HR := hide (roomsOk_c m w)
  by_cases hm : 1 ≤ m ∧ m ≤ 6
  · rw [decide_eq_true hm] at HR
    have he := hide (show restR m = restL m.toNat by unfold restR; rw [if_pos hm])
    obtain ⟨M, rfl⟩ : ∃ M : Nat, m = (M : Int) := ⟨m.toNat, by omega⟩
    rw [Int.toNat_natCast] at he
    have HP := hide (choicesRow_c M w (by omega))
    clear hm
    go_enter Try.func23, Try.ntmps23
    go_wp2_with fail
    refine HR.out.mono ?_
    rintro e w' ⟨rfl, rfl⟩
    go_wp2_with fail
    refine HP.out.mono ?_
    rintro e w2 ⟨A2, n2, c2, rfl, ho2, hq⟩
    go_wp2_with fail
    go_ret
    rw [he.out]
    exact ⟨_, _, _, rfl, ho2, hq⟩
  · rw [decide_eq_false hm] at HR
    have he := hide (show restR m = [] by unfold restR; rw [if_neg hm])
    clear hm
    go_enter Try.func23, Try.ntmps23
    go_wp2_with fail
    refine HR.out.mono ?_
    rintro e w' ⟨rfl, rfl⟩
    go_wp2_with fail
    go_ret
    rw [he.out]
    exact ⟨_, _, _, rfl, Own.none_, Below.refl _ _⟩
theorem restRow_impl (m : Int) (w : World) (wf0 : (Lit.int .i64 m).wf = true) :
    Calls Try.prog 23 #[.int .i64 m] w fun e w' => ∃ A' n' c', e = .returned (.slice A' n' c') ∧ Own w' w.heap.size (.slice A' n' c') (restR m) ∧ Below w.heap.size w w' := restRow_impl0 m w
end Go.Proofs.Ytfencbfjnifmjab
