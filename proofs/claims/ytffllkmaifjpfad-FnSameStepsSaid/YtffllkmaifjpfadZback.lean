/-
  Words, plain lemmas and contracts that belong together, joined into one file.
-/
import Derived.Test.YtffllkmaifjpfadZimp
import Derived.Test.YtffllkmaifjpfadZpl
import Derived.Test.YtffllkmaifjpfadZword
namespace Go.Proofs.Ytffllkmaifjpfad
open Go.RowKit

end Go.Proofs.Ytffllkmaifjpfad

namespace Go.Proofs.Ytffllkmaifjpfad
open Go.RowKit

set_option maxHeartbeats 400000 in
theorem powerI_c (z : Int) (m : Nat) (w : World) (h0 : 0 ≤ z) (h1 : z ≤ 120) (hm : m ≤ 6) :
    Calls Try.prog 48 #[.int .i64 z, .int .i64 m] w fun e w' => e = .returned (.int .i64 (z ^ m)) ∧ w = w' := by
  have HB := hide (fun k (hk : k ≤ 6) => show 0 ≤ z ^ k ∧ z ^ k ≤ 2985984000000 from ⟨(pow_bounds h0 h1 k).1, Int.le_trans (pow_bounds h0 h1 k).2 (pow120 k hk)⟩)
  have HS := hide (fun k => Int.pow_succ (m := z) (n := k))
  obtain ⟨T, hT⟩ : ∃ T, Hid (z ^ m = T) := ⟨_, hide rfl⟩
  rw [hT.out]
  go_enter Try.func48, Try.ntmps48
  go_wp2
  go_loop [5, 7] (fun t i => ∃ k : Nat, ∃ P : Int, k ≤ m ∧ i = .int .i64 k ∧ t = .int .i64 P ∧ Hid (P = z ^ k)) (fun _ i => m - (intOf i).toNat)
  case atStart => exact ⟨0, 1, Nat.zero_le _, rfl, rfl, hide (Int.pow_zero z).symm⟩
  case round =>
    obtain ⟨k, P, hk, rfl, rfl, hP⟩ := hrel
    by_cases hlt : k < m
    · obtain ⟨b0, b1⟩ := HB.out (k + 1) (by omega)
      have hst := hide (HS.out k)
      rw [hst.out, ← hP.out] at b0 b1
      go_wp2
      go_round
      case rel => exact ⟨k + 1, P * z, by omega, by go_num, rfl, by rw [hP.out]; exact hide hst.out.symm⟩
      case measure => simp [intOf]; omega
    · obtain rfl : k = m := by omega
      go_wp2
      go_ret
      exact ⟨ret_int (by rw [hP.out, hT.out]), rfl⟩

set_option maxHeartbeats 1600000 in
theorem ways_pow (A A' : Option Addr) (n c B n' c' B' : Nat) (zs cs : List Int) (K : Nat → Int) (w : World) (h : Ints w B A n c zs) (h' : Ints w B' A' n' c' cs) (hB : B ≤ w.heap.size) (hB' : B' ≤ w.heap.size) (hrk : countRowOk (n : Int) cs = true) (hK0 : K 0 = 1) (hK : ∀ (k : Nat) (z : Int) (m : Nat), zs[k]? = some z → cs[k]? = some (m : Int) → K (k + 1) = K k * z ^ m) (hE : ∀ z ∈ zs, 0 ≤ z ∧ z ≤ 40) (hV : ∀ k, 0 ≤ mult cs * K k ∧ mult cs * K k ≤ 1000000000000000) :
    Calls Try.prog 35 #[.slice A n c, .slice A' n' c', .func (.func 48) #[] #[]] w fun e w' => e = .returned (.int .i64 (mult cs * K n)) ∧ Below w.heap.size w w' := by
  have hl := hide h.len
  have hl' := hide h'.len
  have HW := hide (wordsWith_impl (n : Int) _ _ _ _ _ w h' hB')
  have hwe := hide (show wordsWith (n : Int) cs = mult cs by unfold wordsWith; rw [if_pos hrk])
  rw [hwe.out] at HW
  obtain ⟨c1, c3, hln, h4, h5⟩ := countRowOk_yes hrk
  have hnn : n' = n := by have := hl'.out; omega
  have hnn := hnn.symm
  subst hnn
  have hn3 : n ≤ 3 := by omega
  obtain ⟨W, hW⟩ : ∃ W, Hid (mult cs = W) := ⟨_, hide rfl⟩
  rw [hW.out] at HW hV ⊢
  have HV := hide hV
  have HC := hide (fun k x (hx : cs[k]? = some x) => h4 x (List.mem_of_getElem? hx))
  have HE := hide (fun k x (hx : zs[k]? = some x) => hE x (List.mem_of_getElem? hx))
  have HK := hide hK
  have HK0 := hide hK0
  clear hrk h4 h5 hln hE hV hK hK0 c1 c3
  go_enter Try.func35, Try.ntmps35
  go_wp2_with fail
  refine HW.out.mono ?_
  rintro e w1 ⟨rfl, hb⟩
  have h1 := hide (h.below (hb.mono hB))
  have h1' := hide (h'.below (hb.mono hB'))
  have hb := hide hb
  clear HW
  go_wp2_with fail
  go_loop [7, 16] (fun t i => ∃ k : Nat, k ≤ n ∧ i = .int .i64 k ∧ t = .int .i64 (W * K k)) (fun _ i => n - (intOf i).toNat)
  case atStart => exact ⟨0, Nat.zero_le _, rfl, by rw [HK0.out, Int.mul_one]⟩
  case round =>
    obtain ⟨k, hk, rfl, rfl⟩ := hrel
    by_cases hlt : k < n
    · obtain ⟨b, off, z, rfl, hb1, hz, hcell⟩ := h1.out.look hlt
      obtain ⟨b', off', x, rfl, hb2, hx, hcell'⟩ := h1'.out.look hlt
      obtain ⟨x0, x6⟩ := HC.out k x hx.out
      obtain ⟨z0, z40⟩ := HE.out k z hz.out
      obtain ⟨m, rfl⟩ : ∃ m : Nat, x = (m : Int) := ⟨x.toNat, by omega⟩
      have hpk := hide (show W * K (k + 1) = W * K k * z ^ m by rw [HK.out k z m hz.out hx.out, Int.mul_assoc])
      obtain ⟨v0, v1⟩ := HV.out (k + 1)
      rw [hpk.out] at v0 v1
      have HP := hide (powerI_c z m w1 z0 (by omega) (by omega))
      obtain ⟨T, hT⟩ : ∃ T, Hid (z ^ m = T) := ⟨_, hide rfl⟩
      rw [hT.out] at hpk v0 v1 HP
      obtain ⟨V, hV⟩ : ∃ V, Hid (W * K k = V) := ⟨_, hide rfl⟩
      rw [hV.out] at hpk v0 v1 ⊢
      go_wp2_with fail
      refine (HP.out).mono ?_
      rintro e w' ⟨rfl, rfl⟩
      go_wp2_with fail
      go_round
      case rel => exact ⟨k + 1, by omega, by go_num, by rw [hpk.out]⟩
      case measure => simp [intOf]; omega
    · obtain rfl : k = n := by omega
      go_wp2
      go_ret
      exact ⟨rfl, hb.out⟩

set_option maxHeartbeats 800000 in
theorem backCounts_impl (A A' : Option Addr) (n c B n' c' B' : Nat) (zs cs : List Int) (w : World) (h : Ints w B A n c zs) (h' : Ints w B' A' n' c' cs) (hB : B ≤ w.heap.size) (hB' : B' ≤ w.heap.size) :
    Calls Try.prog 15 #[.slice A n c, .slice A' n' c'] w fun e w' => e = .returned (.int .i64 (backCounts zs cs)) ∧ Below w.heap.size w w' := by
  have hl := hide h.len
  have hl' := hide h'.len
  have HI := hide (urnOk_impl _ _ _ _ _ w h)
  have HR := hide (countRowOk_impl0 (n : Int) _ _ _ _ _ w h')
  by_cases hok : urnOk zs = true
  · rw [hok] at HI
    by_cases hrk : countRowOk (n : Int) cs = true
    · rw [hrk] at HR
      have hnn : cs.length = n := by have := (countRowOk_yes hrk).2.2.1; omega
      have he := hide (show backCounts zs cs = mult cs * powK zs cs n by unfold backCounts; rw [hok, hl.out, hrk, hnn]; rfl)
      obtain ⟨m0, m1⟩ := mult_bound hrk
      obtain ⟨_, _, hln, h4, h5⟩ := countRowOk_yes hrk
      have hzm := urnOk_mem hok
      have HA := hide (ways_pow A A' n c B n' c' B' zs cs (powK zs cs) w h h' hB hB' hrk rfl (fun k z m hz hx => by simp only [powK]; rw [hz, hx]; rfl) hzm (fun k => by
        obtain ⟨p0, p1⟩ := powK_bounds hzm h4 k
        have h6 := (isum_bounds 6 (cs.drop k) (fun x hx => h4 x (List.mem_of_mem_drop hx))).1
        have e := isum_append (cs.take k) (cs.drop k)
        rw [List.take_append_drop] at e
        have p2 : powK zs cs k ≤ 4096000000 := Int.le_trans p1 (pow40_6 _ (by omega))
        have := mul_bound m0 m1 p0 p2
        omega))
      clear hok hrk h4 h5 hln hzm m0 m1 hnn
      go_enter Try.func15, Try.ntmps15
      go_wp2_with (first | (go_at_call 20; refine (HI.out).mono ?_; rintro e w' ⟨rfl, rfl⟩) | (go_at_call 28; refine (HR.out).mono ?_; rintro e w' ⟨rfl, rfl⟩))
      refine HA.out.mono ?_
      rintro e w1 ⟨rfl, hq⟩
      go_wp2_with fail
      go_ret
      exact ⟨ret_int he.out.symm, hq⟩
    · have hrk : countRowOk (n : Int) cs = false := by simpa using hrk
      rw [hrk] at HR
      have he := hide (show backCounts zs cs = -1 by unfold backCounts; rw [hl.out, hrk, Bool.and_false]; rfl)
      clear hok hrk
      go_enter Try.func15, Try.ntmps15
      go_wp2_with (first | (go_at_call 20; refine (HI.out).mono ?_; rintro e w' ⟨rfl, rfl⟩) | (go_at_call 28; refine (HR.out).mono ?_; rintro e w' ⟨rfl, rfl⟩))
      go_ret
      exact ⟨ret_int he.out.symm, Below.refl _ _⟩
  · have hok : urnOk zs = false := by simpa using hok
    rw [hok] at HI
    have he := hide (show backCounts zs cs = -1 by unfold backCounts; rw [hok]; rfl)
    clear hok
    go_enter Try.func15, Try.ntmps15
    go_wp2_with (first | (go_at_call 20; refine (HI.out).mono ?_; rintro e w' ⟨rfl, rfl⟩))
    go_ret
    exact ⟨ret_int he.out.symm, Below.refl _ _⟩

theorem square_c (s z : Int) (w : World) (s0 : 0 ≤ s) (s1 : s ≤ 4800) (z0 : 0 ≤ z) (z1 : z ≤ 40) :
    Calls Try.prog 51 #[.int .i64 s, .int .i64 z] w fun e w' => e = .returned (.int .i64 (s + z * z)) ∧ w = w' := by
  obtain ⟨p0, p1⟩ := mul_bound z0 z1 z0 z1
  go_enter Try.func51, Try.ntmps51
  go_wp2
  go_ret
  exact ⟨rfl, rfl⟩

set_option maxHeartbeats 400000 in
theorem foldSq_c (A : Option Addr) (n c B : Nat) (zs : List Int) (w : World) (h : Ints w B A n c zs) (hok : urnOk zs = true) :
    Calls Try.prog 50 #[.slice A n c, .int .i64 0, .func (.func 51) #[] #[]] w fun e w' => e = .returned (.int .i64 (sqSum zs)) ∧ w = w' := by
  have hl := hide h.len
  have hn := h.nb
  have HT := hide (sqSum_take hok)
  have HE := hide (fun k x (hx : zs[k]? = some x) => urnOk_elem hok hx)
  clear hok
  go_enter Try.func50, Try.ntmps50
  go_wp2
  go_loop [7, 13] (fun t i => ∃ k : Nat, k ≤ n ∧ i = .int .i64 k ∧ t = .int .i64 (sqSum (zs.take k))) (fun _ i => n - (intOf i).toNat)
  case atStart => exact ⟨0, Nat.zero_le _, rfl, rfl⟩
  case round =>
    obtain ⟨k, hk, rfl, rfl⟩ := hrel
    obtain ⟨hs1, hs2⟩ := HT.out k
    by_cases hlt : k < n
    · obtain ⟨b, off, x, rfl, hb, hx, hcell⟩ := h.look hlt
      obtain ⟨hx1, hx2⟩ := HE.out k x hx.out
      have hst := hide (sqSum_take_succ hx.out)
      go_wp2_with fail
      refine (square_c _ _ _ hs1 hs2 hx1 hx2).mono ?_
      rintro e w' ⟨rfl, rfl⟩
      go_wp2_with fail
      go_round
      case rel => exact ⟨k + 1, by omega, by go_num, by rw [hst.out]⟩
      case measure => simp [intOf]; omega
    · obtain rfl : k = n := by omega
      go_wp2
      go_ret
      exact ⟨ret_int (by rw [List.take_of_length_le (by have := hl.out; omega)]), rfl⟩

theorem sameTwice_impl0 (A : Option Addr) (n c B : Nat) (zs : List Int) (w : World) (h : Ints w B A n c zs) :
    Calls Try.prog 18 #[.slice A n c] w fun e w' => e = .returned (.int .i64 (sameTwice zs)) ∧ w = w' := by
  have HI := hide (urnOk_impl _ _ _ _ _ w h)
  by_cases hok : urnOk zs = true
  · have HF := hide (foldSq_c _ _ _ _ _ w h hok)
    have he := hide (show sameTwice zs = sqSum zs by unfold sameTwice; rw [if_pos hok])
    rw [hok] at HI
    clear hok
    go_enter Try.func18, Try.ntmps18
    go_wp2_with (first | (go_at_call 20; refine (HI.out).mono ?_; rintro e w' ⟨rfl, rfl⟩))
    refine HF.out.mono ?_
    rintro e w1 ⟨rfl, rfl⟩
    go_wp2_with fail
    go_ret
    exact ⟨ret_int he.out.symm, rfl⟩
  · have hok : urnOk zs = false := by simpa using hok
    rw [hok] at HI
    have he := hide (show sameTwice zs = -1 by unfold sameTwice; rw [hok]; rfl)
    clear hok
    go_enter Try.func18, Try.ntmps18
    go_wp2_with (first | (go_at_call 20; refine (HI.out).mono ?_; rintro e w' ⟨rfl, rfl⟩))
    go_ret
    exact ⟨ret_int he.out.symm, rfl⟩
theorem sameTwice_impl (A : Option Addr) (n c B : Nat) (zs : List Int) (w : World) (h : Ints w B A n c zs) (_hB : B ≤ w.heap.size) :
    Calls Try.prog 18 #[.slice A n c] w fun e w' => e = .returned (.int .i64 (sameTwice zs)) ∧ Below w.heap.size w w' := sameB (sameTwice_impl0 _ _ _ _ zs w h)
end Go.Proofs.Ytffllkmaifjpfad

namespace Go.Proofs.Ytffllkmaifjpfad
open Go.RowKit

set_option maxHeartbeats 800000 in
theorem sameTwice_spec (A : Option Addr) (n c B : Nat) (zs : List Int) (w : World) (h : Ints w B A n c zs) :
    Calls Try.prog 19 #[.slice A n c] w fun e w' => e = .returned (.int .i64 (sameTwice zs)) ∧ ∃ q, w' = w.drewN q := by
  have hl := hide h.len
  have hn := h.nb
  have HI := hide (urnOk_spec _ _ _ _ _ w h)
  by_cases hok : urnOk zs = true
  · rw [hok] at HI
    have HT := hide (sqSum_take hok)
    have HE := hide (fun k x (hx : zs[k]? = some x) => urnOk_elem hok hx)
    have he := hide (show sameTwice zs = sqSum zs by unfold sameTwice; rw [if_pos hok])
    clear hok
    go_enter Try.func19, Try.ntmps19
    go_wp2_with (go_at_call 52; refine (HI.out).mono ?_; rintro e w' ⟨rfl, rfl⟩)
    go_loopw [3, 4] (fun t i wr => ∃ k q : Nat, k ≤ n ∧ i = .int .i64 k ∧ t = .int .i64 (sqSum (zs.take k)) ∧ wr = w.drewN q) (fun _ i _ => n - (intOf i).toNat)
    case atStart => exact ⟨0, 0, Nat.zero_le _, rfl, rfl, rfl⟩
    case round =>
      obtain ⟨k, q, hk, rfl, rfl, rfl⟩ := hrel
      obtain ⟨hs1, hs2⟩ := HT.out k
      by_cases hlt : k < n
      · obtain ⟨b, off, x, rfl, hb, hx, hcell⟩ := h.look hlt
        obtain ⟨hx0, hx1⟩ := HE.out k x hx.out
        obtain ⟨p1, p2⟩ := mul_bound hx0 hx1 hx0 hx1
        have hst := hide (sqSum_take_succ hx.out)
        have r2 : IntKind.i64.wrap (x * x) = x * x := IntWalk.i64_in _ (by omega)
        have r3 : IntKind.i64.wrap (sqSum (zs.take k) + x * x) = sqSum (zs.take k) + x * x := IntWalk.i64_in _ (by omega)
        go_wp2
        go_quiet (fail)
        go_wp2
        go_roundw
        case rel => exact ⟨k + 1, _, by omega, by go_num, by rw [hst.out], rfl⟩
        case measure => simp [intOf]; omega
      · go_wp2
        go_ret
        exact ⟨ret_int (by rw [he.out, List.take_of_length_le (by have := hl.out; omega)]), _, rfl⟩
  · have hok : urnOk zs = false := by simpa using hok
    rw [hok] at HI
    have he := hide (show sameTwice zs = -1 by unfold sameTwice; rw [hok]; rfl)
    clear hok
    go_enter Try.func19, Try.ntmps19
    go_wp2_with (go_at_call 52; refine (HI.out).mono ?_; rintro e w' ⟨rfl, rfl⟩)
    go_ret
    exact ⟨ret_int he.out.symm, 0, rfl⟩
end Go.Proofs.Ytffllkmaifjpfad
