/-
  Contracts of chapter 3, the program's side: BackAll, BackCounts, SameTwice (a fold with a closure).
-/
import Derived.Test.YtaocbiocpklbmaaBackI
namespace Go.Proofs.Ytaocbiocpklbmaa
open Go.RowKit

set_option maxHeartbeats 400000 in
theorem powerI_c (z : Int) (m : Nat) (w : World) (h0 : 0 ≤ z) (h1 : z ≤ 120) (hm : m ≤ 6) :
    Calls Try.prog 42 #[.int .i64 z, .int .i64 m] w fun e w' => e = .returned (.int .i64 (z ^ m)) ∧ w = w' := by
  have HB := hide (fun k (hk : k ≤ 6) => show 0 ≤ z ^ k ∧ z ^ k ≤ 2985984000000 from ⟨(pow_bounds h0 h1 k).1, Int.le_trans (pow_bounds h0 h1 k).2 (pow120 k hk)⟩)
  have HS := hide (fun k => Int.pow_succ (m := z) (n := k))
  obtain ⟨T, hT⟩ : ∃ T, Hid (z ^ m = T) := ⟨_, hide rfl⟩
  rw [hT.out]
  go_enter Try.func42, Try.ntmps42
  go_wp2
  go_loop [5, 7] (fun t i => ∃ k : Nat, ∃ P : Int, k ≤ m ∧ i = .int .i64 k ∧ t = .int .i64 P ∧ Hid (P = z ^ k)) (fun _ i => m - (intOf i).toNat)
  case atStart => exact ⟨0, 1, Nat.zero_le _, rfl, rfl, hide (Int.pow_zero z).symm⟩
  case round =>
    obtain ⟨k, P, hk, rfl, rfl, hP⟩ := hrel
    by_cases hlt : k < m
    · obtain ⟨b0, b1⟩ := HB.out (k + 1) (by omega)
      have hst := hide (HS.out k)
      rw [hst.out, ← hP.out] at b0 b1
      go_wp2
      go_round
      case rel => exact ⟨k + 1, P * z, by omega, by go_num, rfl, by rw [hP.out]; exact hide hst.out.symm⟩
      case measure => simp [intOf]; omega
    · obtain rfl : k = m := by omega
      go_wp2
      go_ret
      exact ⟨ret_int (by rw [hP.out, hT.out]), rfl⟩

theorem backAll_impl0 (A : Option Addr) (n c B : Nat) (zs : List Int) (m : Int) (w : World) (h : Ints w B A n c zs) :
    Calls Try.prog 17 #[.slice A n c, .int .i64 m] w fun e w' => e = .returned (.int .i64 (backAll zs m)) ∧ w = w' := by
  have HI := hide (urnOk_impl _ _ _ _ _ w h)
  have HD := hide (drawsOk_c m w)
  by_cases hok : urnOk zs = true
  · by_cases hm : 0 ≤ m ∧ m ≤ 6
    · have hd : decide (0 ≤ m ∧ m ≤ 6) = true := decide_eq_true hm
      have HT := hide (totalOf_impl _ _ _ _ _ w h)
      rw [totalF_ok hok] at HT
      obtain ⟨s1, s2⟩ := urnOk_sum hok
      have he := hide (show backAll zs m = isum zs ^ m.toNat by unfold backAll; rw [hok, hd]; rfl)
      have HF := hide (powerI_c (isum zs) m.toNat w s1 s2 (by omega))
      rw [show ((m.toNat : Nat) : Int) = m by omega] at HF
      rw [hok] at HI
      rw [hd] at HD
      clear hok hm s1 s2
      go_enter Try.func17, Try.ntmps17
      go_wp2_with (first | (go_at_call 30; refine (HI.out).mono ?_; rintro e w' ⟨rfl, rfl⟩) | (go_at_call 41; refine (HD.out).mono ?_; rintro e w' ⟨rfl, rfl⟩) | (go_at_call 31; refine (HT.out).mono ?_; rintro e w' ⟨rfl, rfl⟩) | (go_at_call 42; refine (HF.out).mono ?_; rintro e w' ⟨rfl, rfl⟩))
      go_ret
      exact ⟨ret_int he.out.symm, rfl⟩
    · have hd : decide (0 ≤ m ∧ m ≤ 6) = false := decide_eq_false hm
      have he := hide (show backAll zs m = -1 by unfold backAll; rw [hd, Bool.and_false]; rfl)
      rw [hok] at HI
      rw [hd] at HD
      clear hok hm
      go_enter Try.func17, Try.ntmps17
      go_wp2_with (first | (go_at_call 30; refine (HI.out).mono ?_; rintro e w' ⟨rfl, rfl⟩) | (go_at_call 41; refine (HD.out).mono ?_; rintro e w' ⟨rfl, rfl⟩))
      go_ret
      exact ⟨ret_int he.out.symm, rfl⟩
  · have hok : urnOk zs = false := by simpa using hok
    have he := hide (show backAll zs m = -1 by unfold backAll; rw [hok]; rfl)
    rw [hok] at HI
    clear hok
    go_enter Try.func17, Try.ntmps17
    go_wp2_with (first | (go_at_call 30; refine (HI.out).mono ?_; rintro e w' ⟨rfl, rfl⟩))
    go_ret
    exact ⟨ret_int he.out.symm, rfl⟩
theorem backAll_impl (A : Option Addr) (n c B : Nat) (zs : List Int) (m : Int) (w : World) (h : Ints w B A n c zs) (_hB : B ≤ w.heap.size) :
    Calls Try.prog 17 #[.slice A n c, .int .i64 m] w fun e w' => e = .returned (.int .i64 (backAll zs m)) ∧ Below w.heap.size w w' := sameB (backAll_impl0 _ _ _ _ zs m w h)

set_option maxHeartbeats 1600000 in
theorem backCounts_impl (A A' : Option Addr) (n c B n' c' B' : Nat) (zs cs : List Int) (w : World) (h : Ints w B A n c zs) (h' : Ints w B' A' n' c' cs) (hB : B ≤ w.heap.size) (hB' : B' ≤ w.heap.size) :
    Calls Try.prog 23 #[.slice A n c, .slice A' n' c'] w fun e w' => e = .returned (.int .i64 (backCounts zs cs)) ∧ Below w.heap.size w w' := by
  have hl := hide h.len
  have hl' := hide h'.len
  have HI := hide (urnOk_impl _ _ _ _ _ w h)
  have HR := hide (countRowOk_impl0 (n : Int) _ _ _ _ _ w h')
  have HW := hide (wordsWith_impl (n : Int) _ _ _ _ _ w h' hB')
  by_cases hok : urnOk zs = true
  · rw [hok] at HI
    by_cases hrk : countRowOk (n : Int) cs = true
    · rw [hrk] at HR
      have he := hide (show backCounts zs cs = mult cs * powK zs cs cs.length by unfold backCounts; rw [hok, hl.out, hrk]; rfl)
      have hwe := hide (show wordsWith (n : Int) cs = mult cs by unfold wordsWith; rw [if_pos hrk])
      rw [hwe.out] at HW
      obtain ⟨m0, m1⟩ := mult_bound hrk
      obtain ⟨_, _, hln, h4, h5⟩ := countRowOk_yes hrk
      have hnn : n' = n := by have := hl'.out; omega
      have hnn := hnn.symm
      subst hnn
      have hn3 : n ≤ 3 := by have := (urnOk_size hok).2; have := hl.out; omega
      have hzm := urnOk_mem hok
      obtain ⟨W, hW⟩ : ∃ W, Hid (mult cs = W) := ⟨_, hide rfl⟩
      rw [hW.out] at HW m0 m1 he
      have HV := hide (fun k => show 0 ≤ W * powK zs cs k ∧ W * powK zs cs k ≤ 2949120000000 by
        obtain ⟨p0, p1⟩ := powK_bounds hzm h4 k
        have h6 := (isum_bounds 6 (cs.drop k) (fun x hx => h4 x (List.mem_of_mem_drop hx))).1
        have e := isum_append (cs.take k) (cs.drop k)
        rw [List.take_append_drop] at e
        have p2 : powK zs cs k ≤ 4096000000 := Int.le_trans p1 (pow40_6 _ (by omega))
        have := mul_bound m0 m1 p0 p2
        omega)
      have HC := hide (fun k x (hx : cs[k]? = some x) => h4 x (List.mem_of_getElem? hx))
      have HE := hide (fun k x (hx : zs[k]? = some x) => urnOk_elem hok hx)
      have HL := hide (fun (z : Int) (m : Nat) w (h0 : 0 ≤ z) (h1 : z ≤ 40) (hm : m ≤ 6) => powerI_c z m w h0 (by omega) hm)
      clear hok hrk h4 h5 hln hzm
      go_enter Try.func23, Try.ntmps23
      go_wp2_with (first | (go_at_call 30; refine (HI.out).mono ?_; rintro e w' ⟨rfl, rfl⟩) | (go_at_call 48; refine (HR.out).mono ?_; rintro e w' ⟨rfl, rfl⟩))
      refine HW.out.mono ?_
      rintro e w1 ⟨rfl, hb⟩
      have h1 := hide (h.below (hb.mono hB))
      have h1' := hide (h'.below (hb.mono hB'))
      have hb := hide hb
      clear HI HR HW
      go_wp2_with fail
      go_loop [5, 24] (fun t i => ∃ k : Nat, k ≤ n ∧ i = .int .i64 k ∧ t = .int .i64 (W * powK zs cs k)) (fun _ i => n - (intOf i).toNat)
      case atStart => exact ⟨0, Nat.zero_le _, rfl, by simp [powK]⟩
      case round =>
        obtain ⟨k, hk, rfl, rfl⟩ := hrel
        by_cases hlt : k < n
        · obtain ⟨b, off, z, rfl, hb1, hz, hcell⟩ := h1.out.look hlt
          obtain ⟨b', off', x, rfl, hb2, hx, hcell'⟩ := h1'.out.look hlt
          obtain ⟨x0, x6⟩ := HC.out k x hx.out
          obtain ⟨z0, z40⟩ := HE.out k z hz.out
          obtain ⟨m, rfl⟩ : ∃ m : Nat, x = (m : Int) := ⟨x.toNat, by omega⟩
          have hpk := hide (show W * powK zs cs (k + 1) = W * powK zs cs k * z ^ m by simp only [powK]; rw [hz.out, hx.out, Int.mul_assoc]; rfl)
          obtain ⟨v0, v1⟩ := HV.out (k + 1)
          rw [hpk.out] at v0 v1
          have HP := hide (HL.out z m w1 z0 z40 (by omega))
          obtain ⟨T, hT⟩ : ∃ T, Hid (z ^ m = T) := ⟨_, hide rfl⟩
          rw [hT.out] at hpk v0 v1 HP
          obtain ⟨V, hV⟩ : ∃ V, Hid (W * powK zs cs k = V) := ⟨_, hide rfl⟩
          rw [hV.out] at hpk v0 v1 ⊢
          go_wp2_with (first | (go_at_call 42; refine (HP.out).mono ?_; rintro e w' ⟨rfl, rfl⟩))
          go_round
          case rel => exact ⟨k + 1, by omega, by go_num, by rw [hpk.out]⟩
          case measure => simp [intOf]; omega
        · obtain rfl : k = n := by omega
          go_wp2
          go_ret
          exact ⟨ret_int (by rw [he.out, hl'.out]), hb.out⟩
    · have hrk : countRowOk (n : Int) cs = false := by simpa using hrk
      rw [hrk] at HR
      have he := hide (show backCounts zs cs = -1 by unfold backCounts; rw [hl.out, hrk, Bool.and_false]; rfl)
      clear hok hrk
      go_enter Try.func23, Try.ntmps23
      go_wp2_with (first | (go_at_call 30; refine (HI.out).mono ?_; rintro e w' ⟨rfl, rfl⟩) | (go_at_call 48; refine (HR.out).mono ?_; rintro e w' ⟨rfl, rfl⟩))
      go_ret
      exact ⟨ret_int he.out.symm, Below.refl _ _⟩
  · have hok : urnOk zs = false := by simpa using hok
    rw [hok] at HI
    have he := hide (show backCounts zs cs = -1 by unfold backCounts; rw [hok]; rfl)
    clear hok
    go_enter Try.func23, Try.ntmps23
    go_wp2_with (first | (go_at_call 30; refine (HI.out).mono ?_; rintro e w' ⟨rfl, rfl⟩))
    go_ret
    exact ⟨ret_int he.out.symm, Below.refl _ _⟩

theorem square_c (s z : Int) (w : World) (s0 : 0 ≤ s) (s1 : s ≤ 4800) (z0 : 0 ≤ z) (z1 : z ≤ 40) :
    Calls Try.prog 56 #[.int .i64 s, .int .i64 z] w fun e w' => e = .returned (.int .i64 (s + z * z)) ∧ w = w' := by
  obtain ⟨p0, p1⟩ := mul_bound z0 z1 z0 z1
  go_enter Try.func56, Try.ntmps56
  go_wp2
  go_ret
  exact ⟨rfl, rfl⟩

set_option maxHeartbeats 400000 in
theorem foldSq_c (A : Option Addr) (n c B : Nat) (zs : List Int) (w : World) (h : Ints w B A n c zs) (hok : urnOk zs = true) :
    Calls Try.prog 55 #[.slice A n c, .int .i64 0, .func (.func 56) #[] #[]] w fun e w' => e = .returned (.int .i64 (sqSum zs)) ∧ w = w' := by
  have hl := hide h.len
  have hn := h.nb
  have HT := hide (sqSum_take hok)
  have HE := hide (fun k x (hx : zs[k]? = some x) => urnOk_elem hok hx)
  clear hok
  go_enter Try.func55, Try.ntmps55
  go_wp2
  go_loop [7, 13] (fun t i => ∃ k : Nat, k ≤ n ∧ i = .int .i64 k ∧ t = .int .i64 (sqSum (zs.take k))) (fun _ i => n - (intOf i).toNat)
  case atStart => exact ⟨0, Nat.zero_le _, rfl, rfl⟩
  case round =>
    obtain ⟨k, hk, rfl, rfl⟩ := hrel
    obtain ⟨hs1, hs2⟩ := HT.out k
    by_cases hlt : k < n
    · obtain ⟨b, off, x, rfl, hb, hx, hcell⟩ := h.look hlt
      obtain ⟨hx1, hx2⟩ := HE.out k x hx.out
      have hst := hide (sqSum_take_succ hx.out)
      go_wp2_with fail
      refine (square_c _ _ _ hs1 hs2 hx1 hx2).mono ?_
      rintro e w' ⟨rfl, rfl⟩
      go_wp2_with fail
      go_round
      case rel => exact ⟨k + 1, by omega, by go_num, by rw [hst.out]⟩
      case measure => simp [intOf]; omega
    · obtain rfl : k = n := by omega
      go_wp2
      go_ret
      exact ⟨ret_int (by rw [List.take_of_length_le (by have := hl.out; omega)]), rfl⟩

theorem sameTwice_impl0 (A : Option Addr) (n c B : Nat) (zs : List Int) (w : World) (h : Ints w B A n c zs) :
    Calls Try.prog 28 #[.slice A n c] w fun e w' => e = .returned (.int .i64 (sameTwice zs)) ∧ w = w' := by
  have HI := hide (urnOk_impl _ _ _ _ _ w h)
  by_cases hok : urnOk zs = true
  · have HF := hide (foldSq_c _ _ _ _ _ w h hok)
    have he := hide (show sameTwice zs = sqSum zs by unfold sameTwice; rw [if_pos hok])
    rw [hok] at HI
    clear hok
    go_enter Try.func28, Try.ntmps28
    go_wp2_with (first | (go_at_call 30; refine (HI.out).mono ?_; rintro e w' ⟨rfl, rfl⟩))
    refine HF.out.mono ?_
    rintro e w1 ⟨rfl, rfl⟩
    go_wp2_with fail
    go_ret
    exact ⟨ret_int he.out.symm, rfl⟩
  · have hok : urnOk zs = false := by simpa using hok
    rw [hok] at HI
    have he := hide (show sameTwice zs = -1 by unfold sameTwice; rw [hok]; rfl)
    clear hok
    go_enter Try.func28, Try.ntmps28
    go_wp2_with (first | (go_at_call 30; refine (HI.out).mono ?_; rintro e w' ⟨rfl, rfl⟩))
    go_ret
    exact ⟨ret_int he.out.symm, rfl⟩
theorem sameTwice_impl (A : Option Addr) (n c B : Nat) (zs : List Int) (w : World) (h : Ints w B A n c zs) (_hB : B ≤ w.heap.size) :
    Calls Try.prog 28 #[.slice A n c] w fun e w' => e = .returned (.int .i64 (sameTwice zs)) ∧ Below w.heap.size w w' := sameB (sameTwice_impl0 _ _ _ _ zs w h)
end Go.Proofs.Ytaocbiocpklbmaa
