/-
  Contracts of chapter 4, the specification's side: StartOk, l4After, l1Total of a rule's row, EvenRule.
-/
import Derived.Test.YthdelfhfglnhfabRuleS
import Derived.Test.YthdelfhfglnhfabPlainT
import Derived.Test.YthdelfhfglnhfabApp
import Derived.Test.YthdelfhfglnhfabUrns
namespace Go.Proofs.Ythdelfhfglnhfab
open Go.RowKit

set_option maxHeartbeats 400000 in
theorem startOk_spec (A : Option Addr) (n c B : Nat) (zs : List Int) (w : World) (h : Ints w B A n c zs) :
    Calls Try.prog 16 #[.slice A n c] w fun e w' => e = .returned (.bool (startOk zs)) ∧ w = w' := by
  have hl := hide h.len
  have hn := h.nb
  have HI := hide (urnOk_spec _ _ _ _ _ w h)
  go_enter Try.func16, Try.ntmps16
  go_wp2
  go_loop [3] (fun i => ∃ k : Nat, k ≤ n ∧ i = .int .i64 k ∧ Hid (∀ (j : Nat) x, j < k → zs[j]? = some x → x ≤ 10)) (fun i => n - (intOf i).toNat)
  case atStart => exact ⟨0, Nat.zero_le _, rfl, fun j x hj _ => absurd hj (by omega)⟩
  case round =>
    obtain ⟨k, hk, rfl, hall⟩ := hrel
    by_cases hlt : k < n
    · obtain ⟨b, off, x, rfl, hb, hx, hcell⟩ := h.look hlt
      by_cases hx10 : 10 < x
      · have hbad := hide (startOk_bad hx.out hx10)
        go_wp2
        go_ret
        exact ⟨ret_bool hbad.out.symm, rfl⟩
      · have hnx := hide (show ∀ (j : Nat) y, j < k + 1 → zs[j]? = some y → y ≤ 10 from fun j y hj hy => by
          rcases Nat.lt_or_ge j k with hjk | hjk
          · exact hall.out j y hjk hy
          · obtain rfl : j = k := by omega
            rw [hx.out] at hy; injection hy with hy; omega)
        go_wp2
        go_round
        case rel => exact ⟨k + 1, by omega, by go_num, hnx⟩
        case measure => simp [intOf]; omega
    · have hst := hide (show startOk zs = urnOk zs by
        by_cases hu : urnOk zs = true
        · rw [hu]
          exact startOk_mk hu (fun z hz => by
            obtain ⟨j, hj, rfl⟩ := List.getElem_of_mem hz
            exact hall.out j _ (by have := hl.out; omega) (List.getElem?_eq_getElem hj))
        · unfold startOk
          rw [show urnOk zs = false by simpa using hu]; rfl)
      go_wp2_with (go_at_call 39; refine (HI.out).mono ?_; rintro e w' ⟨rfl, rfl⟩)
      go_ret
      exact ⟨ret_bool hst.out.symm, rfl⟩

theorem sum_small {zs : List Int} {M : Int} (_hM : 0 ≤ M) (h : ∀ x ∈ zs, -M ≤ x ∧ x ≤ M) : -(M * zs.length) ≤ isum zs ∧ isum zs ≤ M * zs.length := by
  induction zs with
  | nil => simp [isum]
  | cons x r ih =>
    have h1 := h x (by simp)
    have h2 := ih (fun y hy => h y (by simp [hy]))
    have e : M * ((x :: r).length : Int) = M * (r.length : Int) + M := by rw [List.length_cons, Int.natCast_add, Int.mul_add]; simp
    rw [e]; simp only [isum]; omega

set_option maxHeartbeats 400000 in
theorem l1TotalG_c (A : Option Addr) (n c B : Nat) (zs : List Int) (w : World) (h : Ints w B A n c zs) (hn3 : n ≤ 10) (hz : ∀ x ∈ zs, -100 ≤ x ∧ x ≤ 100) :
    Calls Try.prog 51 #[.slice A n c] w fun e w' => e = .returned (.int .i64 (isum zs)) ∧ w = w' := by
  have hl := hide h.len
  have HT := hide (fun k => show -1000 ≤ isum (zs.take k) ∧ isum (zs.take k) ≤ 1000 by
    have h1 := sum_small (zs := zs.take k) (M := 100) (by decide) (fun x hx => hz x (List.mem_of_mem_take hx))
    have h2 : (zs.take k).length ≤ zs.length := List.length_take_le' _ _
    have h3 := hl.out
    omega)
  have HZ := hide (fun (k : Nat) x (hx : zs[k]? = some x) => hz x (List.mem_of_getElem? hx))
  clear hz
  go_enter Try.func51, Try.ntmps51
  go_wp2
  go_loop [3, 4] (fun t i => ∃ k : Nat, k ≤ n ∧ i = .int .i64 k ∧ t = .int .i64 (isum (zs.take k))) (fun _ i => n - (intOf i).toNat)
  case atStart => exact ⟨0, Nat.zero_le _, rfl, rfl⟩
  case round =>
    obtain ⟨k, hk, rfl, rfl⟩ := hrel
    obtain ⟨hs1, hs2⟩ := HT.out k
    by_cases hlt : k < n
    · obtain ⟨b, off, x, rfl, hb, hx, hcell⟩ := h.look hlt
      obtain ⟨hx1, hx2⟩ := HZ.out k x hx.out
      have hst := hide (isum_take_succ hx.out)
      go_wp2
      go_round
      case rel => exact ⟨k + 1, by omega, by go_num, by rw [hst.out]⟩
      case measure => simp [intOf]; omega
    · go_wp2
      go_ret
      exact ⟨ret_int (by rw [List.take_of_length_le (by have := hl.out; omega)]), rfl⟩

set_option maxHeartbeats 800000 in
theorem l4After_c (A A1 : Option Addr) (n c B n1 c1 B1 col : Nat) (zs l : List Int) (rs : List (List Int)) (w : World) (h : Ints w B A n c zs) (h1 : Mat w B1 A1 n1 c1 rs) (hB : B ≤ w.heap.size) (hB1 : B1 ≤ w.heap.size) (hn3 : n ≤ 3) (hr : rs[col]? = some l) (hll : l.length = n) (hz : ∀ x ∈ zs, -100 ≤ x ∧ x ≤ 100) (hlz : ∀ x ∈ l, -100 ≤ x ∧ x ≤ 100) :
    Calls Try.prog 43 #[.slice A n c, .slice A1 n1 c1, .int .i64 col] w fun e w' => ∃ A₂ n₂ c₂, e = .returned (.slice A₂ n₂ c₂) ∧ Own w' w.heap.size (.slice A₂ n₂ c₂) (addL zs l) ∧ Below w.heap.size w w' := by
  have hl := hide h.len
  have hz2 := hide (addL_len (h.len.trans hll.symm))
  have hE := hide (fun (k : Nat) x (hx : zs[k]? = some x) => hz x (List.mem_of_getElem? hx))
  have hE' := hide (fun (k : Nat) x (hx : l[k]? = some x) => hlz x (List.mem_of_getElem? hx))
  have hcl : col < n1 := by have := (List.getElem?_eq_some_iff.1 hr).1; have := h1.len; omega
  have hrk := hide hr
  have hll := hide hll
  obtain ⟨i0, hi, hz0, hz1, hzb⟩ := info_parts infoInt
  clear hz hlz hr
  go_enter Try.func43, Try.ntmps43
  go_wp2
  go_loopw [7, 8] (fun v i wr => ∃ k : Nat, ∃ A₂ n₂ c₂, k ≤ n ∧ i = .int .i64 k ∧ v = .slice A₂ n₂ c₂ ∧ Hid (Own wr w.heap.size (.slice A₂ n₂ c₂) ((addL zs l).take k)) ∧ Below w.heap.size w wr) (fun _ i _ => n - (intOf i).toNat)
  case atStart => exact ⟨0, _, _, _, Nat.zero_le _, rfl, rfl, own_empty (Nat.le_refl _), below_empty (Below.refl _ _) _⟩
  case round =>
    obtain ⟨k, A₂, n₂, c₂, hk, rfl, rfl, ho, hb⟩ := hrel
    by_cases hlt : k < n
    · obtain ⟨b, off, x, rfl, hbB, hx, hcell⟩ := (h.below (hb.mono hB)).look hlt
      obtain ⟨b1, off1, m, A3, n3, c3, rfl, hbB1, hm, hcell1, hrow⟩ := (h1.below (hb.mono hB1)).look hcl
      obtain rfl : m = l := by have e1 := hm.out; have e2 := hrk.out; rw [e1] at e2; injection e2
      have hn3' : n3 = n := by rw [← hrow.out.len, hll.out]
      have hlt3 : k < n3 := by omega
      obtain ⟨b', off', x', rfl, hbB', hx', hcell'⟩ := hrow.out.look hlt3
      obtain ⟨hx3, hx4⟩ := hE.out k x hx.out
      obtain ⟨hx5, hx6⟩ := hE'.out k x' hx'.out
      have hsum : IntKind.i64.wrap (x + x') = x + x' := IntWalk.i64_in _ (by omega)
      have hs2 := hb.size
      have hlen2 : ((addL zs m).take k).length + 1 ≤ 1048576000 := by have := hz2.out; have := hl.out; rw [List.length_take]; omega
      have ha := hide (addL_at hx.out hx'.out)
      clear hrow
      go_wp2
      go_region_law (refine step_app _ rfl _ _ 27 rfl i0 Try.underlying27 hi hz0 hz1 hzb _ _ rfl (ho.out.alloc _).drew _ 1 1 _ [x + x'] rfl (ints_lit1 (wf_i64 (by omega))).drew (by simp; omega) hlen2 ?_; intro A₃ n₃ c₃ w3 ho3 hg3)
      all_goals
        clear hcell hcell' hcell1
        have ho4 := hide ho3
        have hb4 := hide ((hb.alloc hs2 (.cells #[.int .i64 (x + x')] 3)).drew.grown hg3 (by simp; omega) (fun q hq => (ho.out.row.lt q hq).1))
        clear ho3 hg3 hlen2
        go_wp2
        go_roundw
        case rel => exact ⟨k + 1, _, _, _, by omega, by go_num, rfl, by rw [take_succ ha.out]; exact ho4.out, hb4.out⟩
        case measure => simp [intOf]; omega
    · obtain rfl : k = n := by omega
      have ho2 := hide (show Own wr w.heap.size (.slice A₂ n₂ c₂) (addL zs l) by
        have := ho.out
        rwa [List.take_of_length_le (by have := hz2.out; have := hl.out; omega)] at this)
      go_wp2
      go_ret
      exact ⟨_, _, _, rfl, ho2.out, hb⟩
end Go.Proofs.Ythdelfhfglnhfab
