/-
  Words, plain lemmas and contracts that belong together, joined into one file.
-/
import Derived.Test.YtdnnobkkilffbabZrule
import Derived.Test.YtdnnobkkilffbabZpl
import Derived.Test.YtdnnobkkilffbabZword
import Derived.Test.YtdnnobkkilffbabZrows
import Derived.Test.YtdnnobkkilffbabRuleW
namespace Go.Proofs.Ytdnnobkkilffbab
open Go.RowKit

theorem sameRule_no {c s : Int} (h : ¬(1 ≤ c ∧ c ≤ 3) ∨ ¬(-1 ≤ s ∧ s ≤ 3)) : sameRule c s = [] := by
  unfold sameRule
  rcases h with h | h
  · rw [decide_eq_false h]; rfl
  · rw [stepB_no h, Bool.and_false]; rfl
theorem sameRule_yes {C : Nat} {s : Int} (h : 1 ≤ C ∧ C ≤ 3) (hs : -1 ≤ s ∧ s ≤ 3) : sameRule (C : Int) s = sameR C s := by
  unfold sameRule
  rw [stepB_mk hs, decide_eq_true (show 1 ≤ (C : Int) ∧ (C : Int) ≤ 3 by omega)]; rfl

set_option maxHeartbeats 1600000 in
theorem sameRule_spec (cl s : Int) (w : World) (hw : (Lit.int .i64 s).wf = true) :
    Calls Try.prog 28 #[.int .i64 cl, .int .i64 s] w fun e w' => ∃ A n c, e = .returned (.slice A n c) ∧ OwnM w' w.heap.size w'.heap.size (.slice A n c) (sameRule cl s) ∧ Below w.heap.size w w' := by
  obtain ⟨i0, hi, hz0, hz1, hz2⟩ := info_parts infoInt
  obtain ⟨i1, hi1, hy0, hy1, hy2⟩ := info_parts infoRow
  by_cases hc : 1 ≤ cl ∧ cl ≤ 3
  · obtain ⟨C, rfl⟩ : ∃ C : Nat, cl = (C : Int) := ⟨cl.toNat, by omega⟩
    have hd := decide_eq_true hc
    by_cases hs : -1 ≤ s ∧ s ≤ 3
    · have hds := decide_eq_true hs
      have he := hide (sameRule_yes (C := C) (by omega) hs)
      have hat := hide (fun (k : Nat) (hk : k < C) => sameR_at (s := s) hk)
      have hln := hide (sameR_len C s)
      have hw := hide hw
      obtain ⟨s0, s1⟩ := hs
      have hC3 : C ≤ 3 := by omega
      have hC1 : 1 ≤ C := by omega
      rw [he.out]
      clear hc he
      go_enter Try.func28, Try.ntmps28
      go_wp2_with fail
      go_loopw [5, 6] (fun v i wr => ∃ k : Nat, ∃ A c, k ≤ C ∧ i = .int .i64 k ∧ v = .slice A k c ∧ Hid (OwnM wr w.heap.size wr.heap.size (.slice A k c) ((sameR C s).take k)) ∧ Hid (Below w.heap.size w wr)) (fun _ i _ => C - (intOf i).toNat)
      case atStart => exact ⟨0, _, _, Nat.zero_le _, rfl, rfl, ownM_empty (Nat.le_refl _), al w _⟩
      case round =>
        obtain ⟨k, A, c, hk, rfl, rfl, ho, hb⟩ := hrel
        have hst := hb.out.size
        by_cases hlt : k < C
        · have hrep := hide (show (List.replicate C (0 : Int))[k]? = some 0 by rw [List.getElem?_replicate, if_pos hlt])
          have htk := hide (take_succM (hat.out k hlt))
          have hol := hide ho.out.len
          go_wp2_with (first | (go_at_call 40; refine (l1In_c _ _ _ _).mono ?_; rintro e w' ⟨rfl, rfl⟩) | (at_make; refine wpList_make_full _ rfl _ _ 23 rfl wr.heap.size 3 i0 (.int .i64 0) 1 Try.underlying23 hi hz0 hz1 .i64 .i64 _ _ C rfl rfl rfl rfl (by rw [hz2]; omega) (by unfold maxLen; omega) (Nat.le_refl _) ?_; intro w4 hown4 hgrow4; have hom := own_made hown4; obtain ⟨g5, hA5, _, hgl5, hcy5, hfy5⟩ := hom.at2 hrep.out; injection hA5 with hA5; injection hA5 with hA5 _ _; subst hA5; have hrow7 := hide (hom.set_ (k := k) s hw.out); have ho7 := hide ((ho.out.kept hgrow4 (fun _ e => by cases e)).beside hom (grown_set w4 wr.heap.size k (.int .i64 s))); have hb7 := hide ((hb.out.grown hgrow4 hst (fun _ e => by cases e)).setCell (p := ⟨wr.heap.size, k, none⟩) hst (.int .i64 s)); have hst7 := hide (show w.heap.size ≤ (w4.setCell ⟨wr.heap.size, k, none⟩ (.int .i64 s)).heap.size by have := hgrow4.size; simp; omega); clear hown4 hgrow4 hom) | (at_builtin; refine wpList_appM _ rfl _ _ 31 rfl i1 Try.underlying31 hi1 hy0 hy1 hy2 _ ((sameR C s).take k) rfl (ho7.out.alloc _) _ ((List.replicate C 0).set k s) (hrow7.out.alloc _) hst (by have := hst7.out; simp; omega) ⟨_, 0, none⟩ 1 rfl (cell_new (by simp)) (by have := hol.out; omega) ?_; intro A₆ n₆ c₆ w6 ho6 hg6))
          have hn6 : n₆ = k + 1 := by have h1 := ho6.len; rw [List.length_append, ← hol.out] at h1; simpa using h1
          subst hn6
          rw [← htk.out] at ho6
          have hb6 := hide ((hb7.out.alloc hst7.out (.cells #[_] _)).grown hg6 (by have := hst7.out; simp; omega) (fun j hj => (ho7.out.lt j hj).1))
          have ho6 := hide ho6
          clear hg6 ho7 hb7 hrow7
          go_wp2_with fail
          go_roundw
          case rel => exact ⟨k + 1, _, _, by omega, by go_num, rfl, ho6, hb6⟩
          case measure => simp [intOf]; omega
        · obtain rfl : k = C := by omega
          have ho2 := hide (show OwnM wr w.heap.size wr.heap.size (.slice A k c) (sameR k s) by
            have := ho.out
            rwa [List.take_of_length_le (by rw [hln.out]; exact Nat.le_refl _)] at this)
          go_wp2_with fail
          go_ret
          exact ⟨_, _, _, rfl, ho2.out, hb.out⟩
    · have hds := decide_eq_false hs
      have he := hide (sameRule_no (c := (C : Int)) (.inr hs))
      rw [he.out]
      clear hs he
      go_enter Try.func28, Try.ntmps28
      go_wp2_with fail
      go_loop [5, 6] (fun v i => v = .slice (some ⟨w.heap.size, 0, none⟩) 0 0 ∧ i = .int .i64 0) (fun _ _ => 0)
      case atStart => exact ⟨rfl, rfl⟩
      case round =>
        obtain ⟨rfl, rfl⟩ := hrel
        go_wp2_with (go_at_call 40; refine (l1In_c _ _ _ _).mono ?_; rintro e w' ⟨rfl, rfl⟩)
        go_ret
        exact ⟨_, _, _, rfl, ownM_empty (Nat.le_refl _), al w _⟩
  · have hd := decide_eq_false hc
    have he := hide (sameRule_no (s := s) (.inl hc))
    rw [he.out]
    by_cases h0 : 0 < cl
    · clear hc he
      go_enter Try.func28, Try.ntmps28
      go_wp2_with fail
      go_loop [5, 6] (fun v i => v = .slice (some ⟨w.heap.size, 0, none⟩) 0 0 ∧ i = .int .i64 0) (fun _ _ => 0)
      case atStart => exact ⟨rfl, rfl⟩
      case round =>
        obtain ⟨rfl, rfl⟩ := hrel
        go_wp2_with (go_at_call 40; refine (l1In_c _ _ _ _).mono ?_; rintro e w' ⟨rfl, rfl⟩)
        go_ret
        exact ⟨_, _, _, rfl, ownM_empty (Nat.le_refl _), al w _⟩
    · clear hc he hd
      go_enter Try.func28, Try.ntmps28
      go_wp2_with fail
      go_loop [5, 6] (fun v i => v = .slice (some ⟨w.heap.size, 0, none⟩) 0 0 ∧ i = .int .i64 0) (fun _ _ => 0)
      case atStart => exact ⟨rfl, rfl⟩
      case round =>
        obtain ⟨rfl, rfl⟩ := hrel
        go_wp2_with fail
        go_ret
        exact ⟨_, _, _, rfl, ownM_empty (Nat.le_refl _), al w _⟩

set_option maxHeartbeats 800000 in
theorem l5Rising_c (z s : Int) (m : Nat) (w : World) (h0 : 0 ≤ z) (h1 : z ≤ 40) (hm : m ≤ 6) (s0 : -1 ≤ s) (s1 : s ≤ 3) :
    Calls Try.prog 42 #[.int .i64 z, .int .i64 m, .int .i64 s] w fun e w' => e = .returned (.int .i64 (ris s z m)) ∧ w = w' := by
  have HB := hide (fun k (hk : k ≤ 6) => ris_bound (s := s) (z := z) (m := k) s1 h1 hk)
  have HS := hide (fun k => ris_snoc s z k)
  have HM := hide (fun (k : Nat) (hk : k ≤ 6) => show -6 ≤ (k : Int) * s ∧ (k : Int) * s ≤ 24 from by
    have a := mul_bound (a := (k : Int)) (M := 6) (by omega) (by omega) (b := s + 1) (N := 4) (by omega) (by omega)
    rw [Int.mul_add] at a
    omega)
  go_enter Try.func42, Try.ntmps42
  go_wp2
  go_loop [7, 8] (fun t i => ∃ k : Nat, ∃ P : Int, k ≤ m ∧ i = .int .i64 k ∧ t = .int .i64 P ∧ Hid (P = ris s z k)) (fun _ i => m - (intOf i).toNat)
  case atStart => exact ⟨0, 1, Nat.zero_le _, rfl, rfl, hide rfl⟩
  case round =>
    obtain ⟨k, P, hk, rfl, rfl, hP⟩ := hrel
    by_cases hlt : k < m
    · obtain ⟨b0, b1⟩ := HB.out k (by omega)
      obtain ⟨c0, c1⟩ := HB.out (k + 1) (by omega)
      obtain ⟨d0, d1⟩ := HM.out k (by omega)
      have hst := hide (HS.out k)
      rw [← hP.out] at b0 b1 hst
      rw [hst.out] at c0 c1
      obtain ⟨e0, e1⟩ : 0 ≤ max (z + (k : Int) * s) 0 ∧ max (z + (k : Int) * s) 0 ≤ 100 := by omega
      have hmx := hide (show max (z + (k : Int) * s) 0 = if z + (k : Int) * s < 0 then 0 else z + (k : Int) * s by split <;> omega)
      rw [hmx.out] at c0 c1
      by_cases hneg : z + (k : Int) * s < 0
      · rw [if_pos hneg] at c0 c1
        have hnx := hide (show P * 0 = ris s z (k + 1) by rw [hst.out, hmx.out, if_pos hneg])
        clear e0 e1
        go_wp2
        go_round
        case rel => exact ⟨k + 1, P * 0, by omega, by go_num, by simp, hnx⟩
        case measure => simp [intOf]; omega
      · rw [if_neg hneg] at c0 c1
        have hnx := hide (show P * (z + (k : Int) * s) = ris s z (k + 1) by rw [hst.out, hmx.out, if_neg hneg])
        clear e0 e1
        go_wp2
        go_round
        case rel => exact ⟨k + 1, P * (z + (k : Int) * s), by omega, by go_num, rfl, hnx⟩
        case measure => simp [intOf]; omega
    · obtain rfl : k = m := by omega
      go_wp2
      go_ret
      exact ⟨ret_int hP.out, rfl⟩
end Go.Proofs.Ytdnnobkkilffbab

namespace Go.Proofs.Ytdnnobkkilffbab
open Go.RowKit

theorem stepB_eq {s : Int} {b : Bool} (h : decide (-1 ≤ s ∧ s ≤ 3) = b) : stepB s = b := h
theorem risingOf_def (z m s : Int) : risingOf z m s = if decide (0 ≤ z ∧ z ≤ 40) && decide (0 ≤ m ∧ m ≤ 6) && stepB s then ris s z m.toNat else -1 := rfl

set_option maxHeartbeats 800000 in
theorem risingOf_spec (z m s : Int) (w : World) :
    Calls Try.prog 32 #[.int .i64 z, .int .i64 m, .int .i64 s] w fun e w' => e = .returned (.int .i64 (risingOf z m s)) ∧ w = w' := by
  have hd0 := hide (risingOf_def z m s)
  by_cases hz : 0 ≤ z ∧ z ≤ 40
  · have hdz := decide_eq_true hz
    by_cases hm : 0 ≤ m ∧ m ≤ 6
    · have hdm := decide_eq_true hm
      by_cases hs : -1 ≤ s ∧ s ≤ 3
      · have hds := decide_eq_true hs
        have HR := hide (l5Rising_c z s m.toNat w hz.1 hz.2 (by omega) hs.1 hs.2)
        rw [show ((m.toNat : Nat) : Int) = m by omega] at HR
        have he := hide (show risingOf z m s = ris s z m.toNat by rw [hd0.out, hdz, hdm, stepB_eq hds]; rfl)
        clear hz hm hs
        go_enter Try.func32, Try.ntmps32
        go_wp2_with (first | (go_at_call 40; refine (l1In_c _ _ _ _).mono ?_; rintro e w' ⟨rfl, rfl⟩) | (go_at_call 42; refine (HR.out).mono ?_; rintro e w' ⟨rfl, rfl⟩))
        go_ret
        exact ⟨ret_int he.out.symm, rfl⟩
      · have hds := decide_eq_false hs
        have he := hide (show risingOf z m s = -1 by rw [hd0.out, stepB_eq hds, Bool.and_false]; rfl)
        clear hz hm hs
        go_enter Try.func32, Try.ntmps32
        go_wp2_with (go_at_call 40; refine (l1In_c _ _ _ _).mono ?_; rintro e w' ⟨rfl, rfl⟩)
        go_ret
        exact ⟨ret_int he.out.symm, rfl⟩
    · have hdm := decide_eq_false hm
      have he := hide (show risingOf z m s = -1 by rw [hd0.out, hdm, Bool.and_false]; rfl)
      clear hz hm
      go_enter Try.func32, Try.ntmps32
      go_wp2_with (go_at_call 40; refine (l1In_c _ _ _ _).mono ?_; rintro e w' ⟨rfl, rfl⟩)
      go_ret
      exact ⟨ret_int he.out.symm, rfl⟩
  · have hdz := decide_eq_false hz
    have he := hide (show risingOf z m s = -1 by rw [hd0.out, hdz]; rfl)
    clear hz
    go_enter Try.func32, Try.ntmps32
    go_wp2_with (go_at_call 40; refine (l1In_c _ _ _ _).mono ?_; rintro e w' ⟨rfl, rfl⟩)
    go_ret
    exact ⟨ret_int he.out.symm, rfl⟩

theorem sameCounts_def {zs cs : List Int} {s : Int} {n : Nat} (hl : zs.length = n) : sameCounts zs s cs = if startOk zs && countRowOk (n : Int) cs && stepB s then mult cs * risK s zs cs cs.length else -1 := by unfold sameCounts; rw [hl]
theorem sameCounts_bound {c s : Int} {zs cs : List Int} {W : Int} (hs : s ≤ 3) (hz : ∀ z ∈ zs, 0 ≤ z ∧ z ≤ 10) (h : countRowOk c cs = true) (h0 : 0 ≤ W) (h1 : W ≤ 720) (k : Nat) : 0 ≤ W * risK s zs cs k ∧ W * risK s zs cs k ≤ 346961018880 := by
  obtain ⟨p0, p1⟩ := risK_bound hs hz h k
  have := mul_bound h0 h1 p0 p1
  omega

set_option maxHeartbeats 1600000 in
theorem sameCounts_spec (A A' : Option Addr) (n c B n' c' B' : Nat) (zs cs : List Int) (s : Int) (w : World) (h : Ints w B A n c zs) (h' : Ints w B' A' n' c' cs) :
    Calls Try.prog 12 #[.slice A n c, .int .i64 s, .slice A' n' c'] w fun e w' => e = .returned (.int .i64 (sameCounts zs s cs)) ∧ ∃ q, w' = w.drewN q := by
  have hl := hide h.len
  have hl' := hide h'.len
  have HI := hide (startOk_spec _ _ _ _ _ w h)
  have HR := hide (countRowOk_spec (n : Int) _ _ _ _ _ w h')
  have HW := hide (wordsWith_spec (n : Int) _ _ _ _ _ w h')
  have hd0 := hide (sameCounts_def (cs := cs) (s := s) hl.out)
  by_cases hok : startOk zs = true
  · rw [hok] at HI
    by_cases hrk : countRowOk (n : Int) cs = true
    · rw [hrk] at HR
      by_cases hs : -1 ≤ s ∧ s ≤ 3
      · have hds := decide_eq_true hs
        have he := hide (show sameCounts zs s cs = mult cs * risK s zs cs cs.length by rw [hd0.out, hok, hrk, stepB_eq hds]; rfl)
        have hwe := hide (show wordsWith (n : Int) cs = mult cs by unfold wordsWith; rw [if_pos hrk])
        rw [hwe.out] at HW
        obtain ⟨m0, m1⟩ := mult_bound hrk
        obtain ⟨_, _, hln, h4, h5⟩ := countRowOk_yes hrk
        have hnn : n' = n := by have := hl'.out; omega
        have hnn := hnn.symm
        subst hnn
        have hzm := (startOk_yes hok).2
        obtain ⟨W, hW⟩ : ∃ W, Hid (mult cs = W) := ⟨_, hide rfl⟩
        rw [hW.out] at HW m0 m1 he
        have HV := hide (fun k => sameCounts_bound hs.2 hzm hrk m0 m1 k)
        have HC := hide (fun k x (hx : cs[k]? = some x) => h4 x (List.mem_of_getElem? hx))
        have HE := hide (fun k x (hx : zs[k]? = some x) => hzm x (List.mem_of_getElem? hx))
        have HL := hide (fun (z : Int) (m : Nat) w (h0 : 0 ≤ z) (h1 : z ≤ 40) (hm : m ≤ 6) => l5Rising_c z s m w h0 h1 hm hs.1 hs.2)
        have HRB := hide (fun (z : Int) (m : Nat) (h1 : z ≤ 40) (hm : m ≤ 6) => ris_bound (s := s) (z := z) (m := m) hs.2 h1 hm)
        clear hok hrk h4 h5 hln hzm hs
        go_enter Try.func12, Try.ntmps12
        go_wp2_with (first | (go_at_call 38; refine (HI.out).mono ?_; rintro e w' ⟨rfl, rfl⟩) | (go_at_call 39; refine (HR.out).mono ?_; rintro e w' ⟨rfl, rfl⟩) | (go_at_call 40; refine (l1In_c _ _ _ _).mono ?_; rintro e w' ⟨rfl, rfl⟩) | (go_at_call 41; refine (HW.out).mono ?_; rintro e w' ⟨rfl, rfl⟩))
        clear HI HR HW
        go_loopw [7, 8] (fun t i wr => ∃ k q : Nat, k ≤ n ∧ i = .int .i64 k ∧ t = .int .i64 (W * risK s zs cs k) ∧ wr = w.drewN q) (fun _ i _ => n - (intOf i).toNat)
        case atStart => exact ⟨0, 0, Nat.zero_le _, rfl, by simp [risK], rfl⟩
        case round =>
          obtain ⟨k, q, hk, rfl, rfl, rfl⟩ := hrel
          by_cases hlt : k < n
          · obtain ⟨b, off, z, rfl, hb, hz, hcell⟩ := h.look hlt
            obtain ⟨b', off', x, rfl, hb', hx, hcell'⟩ := h'.look hlt
            obtain ⟨x0, x6⟩ := HC.out k x hx.out
            obtain ⟨z0, z10⟩ := HE.out k z hz.out
            obtain ⟨m, rfl⟩ : ∃ m : Nat, x = (m : Int) := ⟨x.toNat, by omega⟩
            have hpk := hide (show W * risK s zs cs (k + 1) = W * risK s zs cs k * ris s z m by simp only [risK]; rw [hz.out, hx.out, Int.mul_assoc]; rfl)
            obtain ⟨v0, v1⟩ := HV.out (k + 1)
            rw [hpk.out] at v0 v1
            have HP := hide (fun w => HL.out z m w z0 (by omega) (by omega))
            obtain ⟨T, hT⟩ : ∃ T, Hid (ris s z m = T) := ⟨_, hide rfl⟩
            rw [hT.out] at hpk v0 v1 HP
            obtain ⟨V, hV⟩ : ∃ V, Hid (W * risK s zs cs k = V) := ⟨_, hide rfl⟩
            rw [hV.out] at hpk v0 v1 ⊢
            go_wp2
            go_quiet (first | (go_at_call 42; exact qs1 (HP.out _)) | (go_at_call 42; exact qs2 (HP.out _)) | (go_at_call 42; exact qs0 (HP.out _)))
            go_wp2
            go_roundw
            case rel => exact ⟨k + 1, _, by omega, by go_num, by rw [hpk.out], rfl⟩
            case measure => simp [intOf]; omega
          · obtain rfl : k = n := by omega
            go_wp2
            go_ret
            exact ⟨ret_int (by rw [he.out, hl'.out]), _, rfl⟩
      · have hds := decide_eq_false hs
        have he := hide (show sameCounts zs s cs = -1 by rw [hd0.out, stepB_eq hds, Bool.and_false]; rfl)
        clear hok hrk hs
        go_enter Try.func12, Try.ntmps12
        go_wp2_with (first | (go_at_call 38; refine (HI.out).mono ?_; rintro e w' ⟨rfl, rfl⟩) | (go_at_call 39; refine (HR.out).mono ?_; rintro e w' ⟨rfl, rfl⟩) | (go_at_call 40; refine (l1In_c _ _ _ _).mono ?_; rintro e w' ⟨rfl, rfl⟩))
        go_ret
        exact ⟨ret_int he.out.symm, 0, rfl⟩
    · have hrk : countRowOk (n : Int) cs = false := by simpa using hrk
      rw [hrk] at HR
      have he := hide (show sameCounts zs s cs = -1 by rw [hd0.out, hrk, Bool.and_false]; rfl)
      clear hok hrk
      go_enter Try.func12, Try.ntmps12
      go_wp2_with (first | (go_at_call 38; refine (HI.out).mono ?_; rintro e w' ⟨rfl, rfl⟩) | (go_at_call 39; refine (HR.out).mono ?_; rintro e w' ⟨rfl, rfl⟩))
      go_ret
      exact ⟨ret_int he.out.symm, 0, rfl⟩
  · have hok : startOk zs = false := by simpa using hok
    rw [hok] at HI
    have he := hide (show sameCounts zs s cs = -1 by rw [hd0.out, hok]; rfl)
    clear hok
    go_enter Try.func12, Try.ntmps12
    go_wp2_with (first | (go_at_call 38; refine (HI.out).mono ?_; rintro e w' ⟨rfl, rfl⟩))
    go_ret
    exact ⟨ret_int he.out.symm, 0, rfl⟩

theorem shareSum_def {zs : List Int} {s m col : Int} {n : Nat} (hl : zs.length = n) : shareSum zs s m col = if startOk zs && stepB s && decide (0 ≤ m ∧ m ≤ 6) && decide (0 ≤ col ∧ col ≤ (n : Int) - 1) then bsum (sameR n s) col.toNat m.toNat zs else -1 := by
  unfold shareSum
  rw [hl, show decide (0 ≤ col ∧ col < (n : Int)) = decide (0 ≤ col ∧ col ≤ (n : Int) - 1) from by simp only [decide_eq_decide]; omega]

end Go.Proofs.Ytdnnobkkilffbab
