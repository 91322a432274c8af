/-
  Contracts of chapter 5, the program's side: SameRule, RisingOf, SameCounts, ShareSum.
-/
import Derived.Test.YtffllkmaifjpfadZsame
import Derived.Test.YtffllkmaifjpfadZback
import Derived.Test.YtffllkmaifjpfadZrows
import Derived.Test.YtffllkmaifjpfadRuleI
namespace Go.Proofs.Ytffllkmaifjpfad
open Go.RowKit

theorem stepOk_c (a : Int) (w : World) : Calls Try.prog 34 #[.int .i64 a] w fun e w' => e = .returned (.bool (stepB a)) ∧ w = w' := by
  unfold stepB
  by_cases h1 : -1 ≤ a
  · by_cases h2 : a ≤ 3
    · go_enter Try.func34, Try.ntmps34
      go_wp2
      go_ret
      exact ⟨ret_bool (by simp; omega), rfl⟩
    · go_enter Try.func34, Try.ntmps34
      go_wp2
      go_ret
      exact ⟨ret_bool (by simp; omega), rfl⟩
  · go_enter Try.func34, Try.ntmps34
    go_wp2
    go_ret
    exact ⟨ret_bool (by simp; omega), rfl⟩

set_option maxHeartbeats 800000 in
theorem risingOf_impl0 (z m s : Int) (w : World) :
    Calls Try.prog 37 #[.int .i64 z, .int .i64 m, .int .i64 s] w fun e w' => e = .returned (.int .i64 (risingOf z m s)) ∧ w = w' := by
  have hd0 := hide (risingOf_def z m s)
  have HD := hide (drawsOk_c m w)
  have HS := hide (stepOk_c s w)
  by_cases hz0 : 0 ≤ z
  · by_cases hz1 : z ≤ 40
    · by_cases hm : 0 ≤ m ∧ m ≤ 6
      · have hdm := decide_eq_true hm
        rw [hdm] at HD
        by_cases hs : -1 ≤ s ∧ s ≤ 3
        · have hds := stepB_mk hs
          rw [hds] at HS
          have HR := hide (stepP_c z s m.toNat w hz0 (by omega) (by omega) hs.1 hs.2)
          rw [show ((m.toNat : Nat) : Int) = m by omega] at HR
          have he := hide (show risingOf z m s = ris s z m.toNat by rw [hd0.out, hdm, decide_eq_true (show 0 ≤ z ∧ z ≤ 40 from ⟨hz0, hz1⟩), hds]; rfl)
          clear hm hs hdm hds
          go_enter Try.func37, Try.ntmps37
          go_wp2_with (first | (go_at_call 61; refine (HD.out).mono ?_; rintro e w' ⟨rfl, rfl⟩) | (go_at_call 34; refine (HS.out).mono ?_; rintro e w' ⟨rfl, rfl⟩) | (go_at_call 62; refine (HR.out).mono ?_; rintro e w' ⟨rfl, rfl⟩))
          go_ret
          exact ⟨ret_int he.out.symm, rfl⟩
        · have hds := stepB_no hs
          rw [hds] at HS
          have he := hide (show risingOf z m s = -1 by rw [hd0.out, hds, Bool.and_false]; rfl)
          clear hm hs hdm hds
          go_enter Try.func37, Try.ntmps37
          go_wp2_with (first | (go_at_call 61; refine (HD.out).mono ?_; rintro e w' ⟨rfl, rfl⟩) | (go_at_call 34; refine (HS.out).mono ?_; rintro e w' ⟨rfl, rfl⟩))
          go_ret
          exact ⟨ret_int he.out.symm, rfl⟩
      · have hdm := decide_eq_false hm
        rw [hdm] at HD
        have he := hide (show risingOf z m s = -1 by rw [hd0.out, hdm, Bool.and_false]; rfl)
        clear hm hdm
        go_enter Try.func37, Try.ntmps37
        go_wp2_with (first | (go_at_call 61; refine (HD.out).mono ?_; rintro e w' ⟨rfl, rfl⟩))
        go_ret
        exact ⟨ret_int he.out.symm, rfl⟩
    · have he := hide (show risingOf z m s = -1 by rw [hd0.out, decide_eq_false (show ¬(0 ≤ z ∧ z ≤ 40) from by omega)]; rfl)
      go_enter Try.func37, Try.ntmps37
      go_wp2_with fail
      go_ret
      exact ⟨ret_int he.out.symm, rfl⟩
  · have he := hide (show risingOf z m s = -1 by rw [hd0.out, decide_eq_false (show ¬(0 ≤ z ∧ z ≤ 40) from by omega)]; rfl)
    go_enter Try.func37, Try.ntmps37
    go_wp2_with fail
    go_ret
    exact ⟨ret_int he.out.symm, rfl⟩
theorem risingOf_impl (z m s : Int) (w : World) (_wf0 : (Lit.int .i64 z).wf = true) (_wf1 : (Lit.int .i64 m).wf = true) (_wf2 : (Lit.int .i64 s).wf = true) :
    Calls Try.prog 37 #[.int .i64 z, .int .i64 m, .int .i64 s] w fun e w' => e = .returned (.int .i64 (risingOf z m s)) ∧ Below w.heap.size w w' := sameB (risingOf_impl0 z m s w)
theorem risOne_c (z s : Int) (m g : Nat) (w : World) (h0 : 0 ≤ z) (h1 : z ≤ 40) (hm : m ≤ 6) (s0 : -1 ≤ s) (s1 : s ≤ 3) (hg : w.cell? ⟨g, 0, none⟩ = some (.int .i64 s)) :
    Calls Try.prog 36 #[.int .i64 z, .int .i64 m, .pointer (some ⟨g, 0, none⟩)] w fun e w' => e = .returned (.int .i64 (ris s z m)) ∧ w = w' := by
  have HR := hide (risingOf_impl0 z m s w)
  rw [show risingOf z m s = ris s z m by rw [risingOf_def, decide_eq_true (show 0 ≤ z ∧ z ≤ 40 from ⟨h0, h1⟩), decide_eq_true (show 0 ≤ (m : Int) ∧ (m : Int) ≤ 6 by omega), stepB_mk ⟨s0, s1⟩]; rfl] at HR
  go_enter Try.func36, Try.ntmps36
  go_wp2_with (first | (go_at_call 37; refine (HR.out).mono ?_; rintro e w' ⟨rfl, rfl⟩))
  go_ret
  exact ⟨rfl, rfl⟩

set_option maxHeartbeats 1600000 in
theorem ways_ris (A A' : Option Addr) (n c B n' c' B' : Nat) (zs cs : List Int) (s : Int) (g : Nat) (K : Nat → Int) (w : World) (h : Ints w B A n c zs) (h' : Ints w B' A' n' c' cs) (hB : B ≤ w.heap.size) (hB' : B' ≤ w.heap.size) (hrk : countRowOk (n : Int) cs = true) (hK0 : K 0 = 1) (hK : ∀ (k : Nat) (z : Int) (m : Nat), zs[k]? = some z → cs[k]? = some (m : Int) → K (k + 1) = K k * ris s z m) (hE : ∀ z ∈ zs, 0 ≤ z ∧ z ≤ 40) (hV : ∀ k, 0 ≤ mult cs * K k ∧ mult cs * K k ≤ 1000000000000000) (hs : -1 ≤ s ∧ s ≤ 3) (hgc : w.cell? ⟨g, 0, none⟩ = some (.int .i64 s)) (hgs : g < w.heap.size) :
    Calls Try.prog 35 #[.slice A n c, .slice A' n' c', .func (.func 36) #[] #[.pointer (some ⟨g, 0, none⟩)]] w fun e w' => e = .returned (.int .i64 (mult cs * K n)) ∧ Below w.heap.size w w' := by
  have hl := hide h.len
  have hl' := hide h'.len
  have HW := hide (wordsWith_impl (n : Int) _ _ _ _ _ w h' hB')
  have hwe := hide (show wordsWith (n : Int) cs = mult cs by unfold wordsWith; rw [if_pos hrk])
  rw [hwe.out] at HW
  obtain ⟨c1, c3, hln, h4, h5⟩ := countRowOk_yes hrk
  have hnn : n' = n := by have := hl'.out; omega
  have hnn := hnn.symm
  subst hnn
  have hn3 : n ≤ 3 := by omega
  obtain ⟨W, hW⟩ : ∃ W, Hid (mult cs = W) := ⟨_, hide rfl⟩
  rw [hW.out] at HW hV ⊢
  have HV := hide hV
  have HC := hide (fun k x (hx : cs[k]? = some x) => h4 x (List.mem_of_getElem? hx))
  have HE := hide (fun k x (hx : zs[k]? = some x) => hE x (List.mem_of_getElem? hx))
  have HK := hide hK
  have HK0 := hide hK0
  clear hrk h4 h5 hln hE hV hK hK0 c1 c3
  go_enter Try.func35, Try.ntmps35
  go_wp2_with fail
  refine HW.out.mono ?_
  rintro e w1 ⟨rfl, hb⟩
  have h1 := hide (h.below (hb.mono hB))
  have h1' := hide (h'.below (hb.mono hB'))
  have hgc1 : w1.cell? ⟨g, 0, none⟩ = some (.int .i64 s) := (hb.cell (p := ⟨g, 0, none⟩) hgs).trans hgc
  have hb := hide hb
  clear HW
  go_wp2_with fail
  go_loop [7, 16] (fun t i => ∃ k : Nat, k ≤ n ∧ i = .int .i64 k ∧ t = .int .i64 (W * K k)) (fun _ i => n - (intOf i).toNat)
  case atStart => exact ⟨0, Nat.zero_le _, rfl, by rw [HK0.out, Int.mul_one]⟩
  case round =>
    obtain ⟨k, hk, rfl, rfl⟩ := hrel
    by_cases hlt : k < n
    · obtain ⟨b, off, z, rfl, hb1, hz, hcell⟩ := h1.out.look hlt
      obtain ⟨b', off', x, rfl, hb2, hx, hcell'⟩ := h1'.out.look hlt
      obtain ⟨x0, x6⟩ := HC.out k x hx.out
      obtain ⟨z0, z40⟩ := HE.out k z hz.out
      obtain ⟨m, rfl⟩ : ∃ m : Nat, x = (m : Int) := ⟨x.toNat, by omega⟩
      have hpk := hide (show W * K (k + 1) = W * K k * ris s z m by rw [HK.out k z m hz.out hx.out, Int.mul_assoc])
      obtain ⟨v0, v1⟩ := HV.out (k + 1)
      rw [hpk.out] at v0 v1
      have HP := hide (risOne_c z s m g w1 z0 z40 (by omega) hs.1 hs.2 hgc1)
      obtain ⟨T, hT⟩ : ∃ T, Hid (ris s z m = T) := ⟨_, hide rfl⟩
      rw [hT.out] at hpk v0 v1 HP
      obtain ⟨V, hV⟩ : ∃ V, Hid (W * K k = V) := ⟨_, hide rfl⟩
      rw [hV.out] at hpk v0 v1 ⊢
      go_wp2_with fail
      refine (HP.out).mono ?_
      rintro e w' ⟨rfl, rfl⟩
      go_wp2_with fail
      go_round
      case rel => exact ⟨k + 1, by omega, by go_num, by rw [hpk.out]⟩
      case measure => simp [intOf]; omega
    · obtain rfl : k = n := by omega
      go_wp2
      go_ret
      exact ⟨rfl, hb.out⟩

set_option maxHeartbeats 1600000 in
theorem sameCounts_impl (A A' : Option Addr) (n c B n' c' B' : Nat) (zs cs : List Int) (s : Int) (w : World) (h : Ints w B A n c zs) (h' : Ints w B' A' n' c' cs) (hB : B ≤ w.heap.size) (hB' : B' ≤ w.heap.size) (_wf : (Lit.int .i64 s).wf = true) :
    Calls Try.prog 9 #[.slice A n c, .int .i64 s, .slice A' n' c'] w fun e w' => e = .returned (.int .i64 (sameCounts zs s cs)) ∧ Below w.heap.size w w' := by
  have hl := hide h.len
  have hl' := hide h'.len
  have hba := hide (al w (.cells #[.int .i64 s] 3))
  have hA0 := h.alloc hB (.cells #[.int .i64 s] 3)
  have hA1 := h'.alloc hB' (.cells #[.int .i64 s] 3)
  have HI := hide (startOk_impl0 _ _ _ _ _ (w.alloc (.cells #[.int .i64 s] 3)) hA0)
  have HS := hide (stepOk_c s (w.alloc (.cells #[.int .i64 s] 3)))
  have HR := hide (countRowOk_impl0 (n : Int) _ _ _ _ _ (w.alloc (.cells #[.int .i64 s] 3)) hA1)
  have hd0 := hide (sameCounts_def (cs := cs) (s := s) hl.out)
  by_cases hok : startOk zs = true
  · rw [hok] at HI
    by_cases hs : -1 ≤ s ∧ s ≤ 3
    · have hds := stepB_mk hs
      rw [hds] at HS
      by_cases hrk : countRowOk (n : Int) cs = true
      · rw [hrk] at HR
        have hnn : cs.length = n := by have := (countRowOk_yes hrk).2.2.1; omega
        have he := hide (show sameCounts zs s cs = mult cs * risK s zs cs n by rw [hd0.out, hok, hrk, hds, hnn]; rfl)
        obtain ⟨m0, m1⟩ := mult_bound hrk
        have hzm := (startOk_yes hok).2
        have HA := hide (ways_ris A A' n c B n' c' B' zs cs s w.heap.size (risK s zs cs) (w.alloc (.cells #[.int .i64 s] 3)) hA0 hA1 (Nat.le_trans hB (by simp)) (Nat.le_trans hB' (by simp)) hrk rfl (fun k z m hz hx => by simp only [risK]; rw [hz, hx]; rfl) (fun z hz => by have := hzm z hz; omega) (fun k => by
          obtain ⟨p0, p1⟩ := sameCounts_bound hs.2 hzm hrk m0 m1 k
          omega) hs (by rw [World.cell?_alloc_new]; rfl) (by simp))
        clear hok hrk hzm m0 m1 hnn hs hds
        go_enter Try.func9, Try.ntmps9
        go_wp2_with (first | (go_at_call 33; refine (HI.out).mono ?_; rintro e w' ⟨rfl, rfl⟩) | (go_at_call 34; refine (HS.out).mono ?_; rintro e w' ⟨rfl, rfl⟩) | (go_at_call 28; refine (HR.out).mono ?_; rintro e w' ⟨rfl, rfl⟩))
        refine HA.out.mono ?_
        rintro e w1 ⟨rfl, hq⟩
        go_wp2_with fail
        go_ret
        exact ⟨ret_int he.out.symm, upB hba.out hq⟩
      · have hrk : countRowOk (n : Int) cs = false := by simpa using hrk
        rw [hrk] at HR
        have he := hide (show sameCounts zs s cs = -1 by rw [hd0.out, hrk, Bool.and_false]; rfl)
        clear hok hrk hs hds
        go_enter Try.func9, Try.ntmps9
        go_wp2_with (first | (go_at_call 33; refine (HI.out).mono ?_; rintro e w' ⟨rfl, rfl⟩) | (go_at_call 34; refine (HS.out).mono ?_; rintro e w' ⟨rfl, rfl⟩) | (go_at_call 28; refine (HR.out).mono ?_; rintro e w' ⟨rfl, rfl⟩))
        go_ret
        exact ⟨ret_int he.out.symm, hba.out⟩
    · have hds := stepB_no hs
      rw [hds] at HS
      have he := hide (show sameCounts zs s cs = -1 by rw [hd0.out, hds, Bool.and_false]; rfl)
      clear hok hs hds
      go_enter Try.func9, Try.ntmps9
      go_wp2_with (first | (go_at_call 33; refine (HI.out).mono ?_; rintro e w' ⟨rfl, rfl⟩) | (go_at_call 34; refine (HS.out).mono ?_; rintro e w' ⟨rfl, rfl⟩))
      go_ret
      exact ⟨ret_int he.out.symm, hba.out⟩
  · have hok : startOk zs = false := by simpa using hok
    rw [hok] at HI
    have he := hide (show sameCounts zs s cs = -1 by rw [hd0.out, hok]; rfl)
    clear hok
    go_enter Try.func9, Try.ntmps9
    go_wp2_with (first | (go_at_call 33; refine (HI.out).mono ?_; rintro e w' ⟨rfl, rfl⟩))
    go_ret
    exact ⟨ret_int he.out.symm, hba.out⟩

set_option maxHeartbeats 1600000 in
theorem sameRule_impl (cl s : Int) (w : World) (hw : (Lit.int .i64 s).wf = true) :
    Calls Try.prog 12 #[.int .i64 cl, .int .i64 s] w fun e w' => ∃ A n c, e = .returned (.slice A n c) ∧ OwnM w' w.heap.size w'.heap.size (.slice A n c) (sameRule cl s) ∧ Below w.heap.size w w' := by
  obtain ⟨i0, hi, hz0, hz1, hz2⟩ := info_parts infoInt
  obtain ⟨i1, hi1, hy0, hy1, hy2⟩ := info_parts infoRow
  have HC := hide (coloursOk_c cl w)
  have HS := hide (stepOk_c s w)
  by_cases hc : 1 ≤ cl ∧ cl ≤ 3
  · obtain ⟨C, rfl⟩ : ∃ C : Nat, cl = (C : Int) := ⟨cl.toNat, by omega⟩
    rw [decide_eq_true hc] at HC
    by_cases hs : -1 ≤ s ∧ s ≤ 3
    · rw [stepB_mk hs] at HS
      have he := hide (sameRule_yes (C := C) (by omega) hs)
      have hat := hide (fun (k : Nat) (hk : k < C) => sameR_at (s := s) hk)
      have hln := hide (sameR_len C s)
      have hw := hide hw
      have hC3 : C ≤ 3 := by omega
      have hC1 : 1 ≤ C := by omega
      rw [he.out]
      clear hc he hs
      go_enter Try.func12, Try.ntmps12
      go_wp2_with (first | (go_at_call 42; refine (HC.out).mono ?_; rintro e w' ⟨rfl, rfl⟩) | (go_at_call 34; refine (HS.out).mono ?_; rintro e w' ⟨rfl, rfl⟩) | (at_make; refine wpList_make_full _ rfl _ _ 28 rfl w.heap.size 23 i1 (.slice none 0 0) 1 Try.underlying28 hi1 hy0 hy1 .i64 .i64 _ _ C rfl rfl rfl rfl (by rw [hy2]; omega) (by unfold maxLen; omega) (Nat.le_refl _) ?_; intro w1 hown0 hgrow0; have hown0 := hide hown0; have hgrow0 := hide hgrow0))
      have hb0 := hide (show Below w.heap.size w w1 from (Below.refl _ _).grown hgrow0.out (Nat.le_refl _) (fun k hk => by cases hk))
      have ho0 := hide (show OwnM w1 w.heap.size w1.heap.size (.slice (some ⟨w.heap.size, 0, none⟩) C C) (cpyM (sameR C s) 0) from by
        rw [cpyM_zero, hln.out]
        exact ownM_made hown0.out)
      clear hown0 hgrow0
      go_loopw [19] (fun i wr => ∃ k : Nat, k ≤ C ∧ i = .int .i64 k ∧ Hid (OwnM wr w.heap.size wr.heap.size (.slice (some ⟨w.heap.size, 0, none⟩) C C) (cpyM (sameR C s) k)) ∧ Hid (Below w.heap.size w wr)) (fun i _ => C - (intOf i).toNat)
      case atStart => exact ⟨0, Nat.zero_le _, rfl, ho0, hb0⟩
      case round =>
        clear ho0 hb0
        obtain ⟨k, hk, rfl, ho, hb⟩ := hrel
        have hst := hb.out.size
        by_cases hlt : k < C
        · have HA := hide (fun (w4 : World) (hown4 : w4.ownsRow wr.heap.size 3 1 (.slice (some ⟨wr.heap.size, 0, none⟩) C C) C (madeCells (Value.int .i64 0).cells (C * 1)).toList) (hgrow4 : wr.grownBy w4 none) => show ∃ y gk ck, w4.cell? ⟨w.heap.size, k, none⟩ = some y ∧ w4.frozen? ⟨w.heap.size, k, none⟩ = false ∧ (w4.setCell ⟨w.heap.size, k, none⟩ (.slice (some ⟨wr.heap.size, 0, none⟩) C C)).cell? ⟨w.heap.size, k, none⟩ = some (.slice (some ⟨gk, 0, none⟩) C ck) ∧ (w4.setCell ⟨w.heap.size, k, none⟩ (.slice (some ⟨wr.heap.size, 0, none⟩) C C)).cell? ⟨gk, k, none⟩ = some (.int .i64 0) ∧ (w4.setCell ⟨w.heap.size, k, none⟩ (.slice (some ⟨wr.heap.size, 0, none⟩) C C)).frozen? ⟨gk, k, none⟩ = false ∧ Hid (OwnM ((w4.setCell ⟨w.heap.size, k, none⟩ (.slice (some ⟨wr.heap.size, 0, none⟩) C C)).setCell ⟨gk, k, none⟩ (.int .i64 s)) w.heap.size ((w4.setCell ⟨w.heap.size, k, none⟩ (.slice (some ⟨wr.heap.size, 0, none⟩) C C)).setCell ⟨gk, k, none⟩ (.int .i64 s)).heap.size (.slice (some ⟨w.heap.size, 0, none⟩) C C) (cpyM (sameR C s) (k + 1))) ∧ Hid (Below w.heap.size w ((w4.setCell ⟨w.heap.size, k, none⟩ (.slice (some ⟨wr.heap.size, 0, none⟩) C C)).setCell ⟨gk, k, none⟩ (.int .i64 s))) from by
            have hom := own_made hown4
            have hm4 := ho.out.kept hgrow4 (fun _ e => by cases e)
            obtain ⟨hset, hf, ⟨y, hy⟩, _⟩ := hm4.setRow (k := k) hom hst (by rw [cpyM_len, hln.out]; exact hlt)
            have hrow : ((cpyM (sameR C s) k).set k (List.replicate C 0))[k]? = some (List.replicate C 0) := List.getElem?_set_self (by rw [cpyM_len, hln.out]; exact hlt)
            have hrep : (List.replicate C (0 : Int))[k]? = some 0 := by rw [List.getElem?_replicate, if_pos hlt]
            obtain ⟨g, c, gk, ck, hv, c1, c2, c3, c4, hset2⟩ := hset.setIn hrow hrep
            injection hv with e1
            injection e1 with e1
            injection e1 with e1 _ _
            subst e1
            have h5 := hset2 s hw.out
            rw [List.set_set, cpyM_set _ k _ (hat.out k hlt)] at h5
            refine ⟨y, gk, ck, hy, hf, by rw [c1, List.length_replicate], c2, c3, hide (h5.wide (by simp [World.setCell])), hide (((hb.out.grown hgrow4 hst (fun _ e => by cases e)).setCell (p := ⟨w.heap.size, k, none⟩) (Nat.le_refl _) _).setCell (p := ⟨gk, k, none⟩) c4 _)⟩)
          go_wp2_with (at_make; refine wpList_make_full _ rfl _ _ 23 rfl wr.heap.size 3 i0 (.int .i64 0) 1 Try.underlying23 hi hz0 hz1 .i64 .i64 _ _ C rfl rfl rfl rfl (by rw [hz2]; omega) (by unfold maxLen; omega) (Nat.le_refl _) ?_; intro w4 hown4 hgrow4; obtain ⟨y, gk, ck, q1, q2, q3, q4, q5, ho6, hb6⟩ := HA.out w4 hown4 hgrow4; clear hown4 hgrow4)
          go_roundw
          case rel => exact ⟨k + 1, by omega, by go_num, ho6, hb6⟩
          case measure => simp [intOf]; omega
        · obtain rfl : k = C := by omega
          have ho2 := hide (show OwnM wr w.heap.size wr.heap.size (.slice (some ⟨w.heap.size, 0, none⟩) k k) (sameR k s) by
            have e := cpyM_all (sameR k s)
            rw [hln.out] at e
            have := ho.out
            rwa [e] at this)
          go_wp2_with fail
          go_ret
          exact ⟨_, _, _, rfl, ho2.out, hb.out⟩
    · rw [stepB_no hs] at HS
      have he := hide (sameRule_no (c := (C : Int)) (.inr hs))
      rw [he.out]
      clear hs hc he
      go_enter Try.func12, Try.ntmps12
      go_wp2_with (first | (go_at_call 42; refine (HC.out).mono ?_; rintro e w' ⟨rfl, rfl⟩) | (go_at_call 34; refine (HS.out).mono ?_; rintro e w' ⟨rfl, rfl⟩))
      go_ret
      exact ⟨_, _, _, rfl, OwnM.none_, Below.refl _ _⟩
  · rw [decide_eq_false hc] at HC
    have he := hide (sameRule_no (s := s) (.inl hc))
    rw [he.out]
    clear hc he
    go_enter Try.func12, Try.ntmps12
    go_wp2_with (first | (go_at_call 42; refine (HC.out).mono ?_; rintro e w' ⟨rfl, rfl⟩))
    go_ret
    exact ⟨_, _, _, rfl, OwnM.none_, Below.refl _ _⟩

theorem shareSum_ball {zs : List Int} {s : Int} (m col : Int) {n : Nat} (hl : zs.length = n) : ballSum zs (sameRule (n : Int) s) m col = shareSum zs s m col := by
  subst hl
  unfold ballSum shareSum begun
  by_cases hok : startOk zs = true
  · obtain ⟨h1, h3⟩ := urnOk_size (startOk_yes hok).1
    by_cases hs : -1 ≤ s ∧ s ≤ 3
    · rw [stepB_mk hs, sameRule_yes ⟨h1, h3⟩ hs, ruleOk_mk (sameR_rule h1 h3 hs)]
    · have e : ruleOk (zs.length : Int) [] = false := by
        unfold ruleOk
        rw [show decide ((([] : List (List Int)).length : Int) = (zs.length : Int)) = false from decide_eq_false (by simp; omega)]
        simp
      rw [stepB_no hs, sameRule_no (.inr hs), e]
      simp
  · have hok : startOk zs = false := by simpa using hok
    simp [hok]

end Go.Proofs.Ytffllkmaifjpfad
