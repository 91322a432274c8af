/-
  Contracts of chapter 4, the program's side: sumByRule, RuleAll, BallSum (written by wip/gen_rulec.py).
-/
import Derived.Test.YtffllkmaifjpfaaRuleA
import Derived.Test.YtffllkmaifjpfaaRuleX
import Derived.Test.YtffllkmaifjpfaaZoks
namespace Go.Proofs.Ytffllkmaifjpfaa
open Go.RowKit

theorem ruleOne_c (v : Value) (w : World) : Calls Try.prog 68 #[v] w fun e w' => e = .returned (.int .i64 1) ∧ w = w' := by
  go_enter Try.func68, Try.ntmps68
  go_wp2
  go_ret
  exact ⟨rfl, rfl⟩
set_option maxHeartbeats 3200000 in
theorem sumRall_c (m : Nat) : ∀ (A A1 : Option Addr) (n c B n1 c1 B1 : Nat) (zs : List Int) (rs : List (List Int)) (M mi : Int) (w : World), Ints w B A n c zs → Mat w B1 A1 n1 c1 rs → B ≤ w.heap.size → B1 ≤ w.heap.size → Rule n rs → (∀ y ∈ zs, 0 ≤ y ∧ y ≤ M) → M + 3 * (m : Int) ≤ 28 → 0 ≤ M → m ≤ 6 → mi = (m : Int) →
    Calls Try.prog 67 #[.slice A n c, .slice A1 n1 c1, .int .i64 mi, .func (.func 68) #[] #[]] w fun e w' => e = .returned (.int .i64 (rall rs m zs)) ∧ Below w.heap.size w w' := by
  induction m with
  | zero =>
    intro A A1 n c B n1 c1 B1 zs rs M mi w h h1 hB hB1 hR hm hM hM0 hm6' hmi
    subst hmi
    go_enter Try.func67, Try.ntmps67
    go_wp2_with fail
    refine (ruleOne_c _ _).mono ?_
    rintro e w1 ⟨rfl, rfl⟩
    go_wp2_with fail
    go_ret
    exact ⟨rfl, Below.refl _ _⟩
  | succ m ih =>
    intro A A1 n c B n1 c1 B1 zs rs M mi w h h1 hB hB1 hR hm hM hM0 hm6' hmi
    have hl := hide h.len
    have hn3 : n ≤ 3 := hR.le
    have hn := h.nb
    have hrl := hide hR.len
    have hn1 := hide (show n1 = n by have := h1.len; have := hR.len; omega)
    have hmi0 : (mi == 0) = false := by simp; omega
    have hmi1 : IntKind.i64.wrap (mi - 1) = mi - 1 := IntWalk.i64_in _ (by omega)
    have hmi2 : 1 ≤ mi := by omega
    have hmi3 : mi ≤ 6 := by omega
    have hm6 : m ≤ 5 := by omega
    have hP : (84 : Int) ^ m ≤ 4182119424 := by
      match m, hm6 with
      | 0, _ | 1, _ | 2, _ | 3, _ | 4, _ | 5, _ => decide
    have HN := hide (fun (k : Nat) (hk : k ≤ n) => show 0 ≤ nsum k (termF rs (rall rs m) zs) ∧ nsum k (termF rs (rall rs m) zs) ≤ 351298031616 from by
      have := nsum_term (m := m) (F := rall rs m) hR (p84 m) hl.out hm hM (fun us h1 h2 => rall_bound hR m h1 h2 (by rw [Int.natCast_add] at hM; omega)) hk
      exact ⟨this.1, by omega⟩)
    have HE := hide (fun (k : Nat) x (hx : zs[k]? = some x) => hm x (List.mem_of_getElem? hx))
    have HRow := hide (fun (k : Nat) l (hl : rs[k]? = some l) => row_sum hR hl)
    have HRB := hide (fun (us : List Int) (h1 : us.length = n) (h2 : ∀ y ∈ us, 0 ≤ y ∧ y ≤ M + 3) => show 0 ≤ rall rs m us ∧ rall rs m us ≤ 4182119424 from by
      have := rall_bound hR m h1 h2 (by rw [Int.natCast_add] at hM; omega)
      exact ⟨this.1, by omega⟩)
    have he := hide (show rall rs (m + 1) zs = nsum zs.length (termF rs (rall rs m) zs) from rfl)
    have HAft := hide (fun (c : Nat) z (hz : zs[c]? = some z) (h0 : 0 < z) => aft_mem hR hl.out hz h0 hm)
    have HIH := hide (fun (A : Option Addr) (c B : Nat) (us : List Int) (W : World) (hA : Ints W B A n c us) (hM1 : Mat W B1 A1 n1 c1 rs) (q : B ≤ W.heap.size) (q1 : B1 ≤ W.heap.size) (hus : ∀ y ∈ us, 0 ≤ y ∧ y ≤ M + 3) => ih A A1 n c B n1 c1 B1 us rs (M + 3) (mi - 1) W hA hM1 q q1 hR hus (by rw [Int.natCast_add] at hM; omega) (by omega) (by omega) (by omega))
    have hM28 : M ≤ 28 := by omega
    clear hmi hM hR ih hP hm
    go_enter Try.func67, Try.ntmps67
    go_wp2_with fail
    go_loopw [9, 19] (fun t i wr => ∃ k : Nat, k ≤ n ∧ i = .int .i64 k ∧ t = .int .i64 (nsum k (termF rs (rall rs m) zs)) ∧ Hid (Below w.heap.size w wr)) (fun _ i _ => n - (intOf i).toNat)
    case atStart => exact ⟨0, Nat.zero_le _, rfl, rfl, Below.refl _ _⟩
    case round =>
      obtain ⟨k, hk, rfl, rfl, hb⟩ := hrel
      have hs := hb.out.size
      obtain ⟨S, hS⟩ : ∃ S, Hid (nsum k (termF rs (rall rs m) zs) = S) := ⟨_, hide rfl⟩
      rw [hS.out]
      by_cases hlt : k < n
      · obtain ⟨b, off, x, hA, hbB, hx, hcell⟩ := (h.below (hb.out.mono hB)).look hlt
        subst hA
        obtain ⟨x0, x1⟩ := HE.out k x hx.out
        obtain ⟨n0, n1'⟩ := HN.out k hk
        rw [hS.out] at n0 n1'
        by_cases hx1 : 0 < x
        · have hlt1 : k < n1 := by have := hn1.out; omega
          obtain ⟨b1, off1, l, A3, n3, c3, hA1, hbB1, hr, hcell1, hrow⟩ := (h1.below (hb.out.mono hB1)).look hlt1
          subst hA1
          obtain ⟨r1, r2, _, _⟩ := HRow.out k l hr.out
          have hn3l := hrow.out.len
          rw [r1] at hn3l
          subst hn3l
          have hus := HAft.out k x hx.out hx1
          have hrow2 : rowOf rs k = l := by unfold rowOf; rw [hr.out]; rfl
          rw [hrow2] at hus
          have hul : (addL zs l).length = n := by rw [addL_len (by rw [hl.out, r1]), hl.out]
          obtain ⟨v0, v1⟩ := HRB.out _ hul hus
          have hst := termF_pos (F := rall rs m) hx.out hr.out hx1
          have hsn := nsum_succ k (termF rs (rall rs m) zs)
          rw [hst, hS.out] at hsn
          have hn2 := HN.out (k + 1) hlt
          rw [hsn] at hn2
          have HA := hide (added_c _ A3 n c _ c3 _ zs l wr (h.below (hb.out.mono hB)) hrow.out (Nat.le_trans hB hs) (Nat.le_trans hB1 hs) (by omega) (fun z hz => by obtain ⟨j, hj, rfl⟩ := List.getElem_of_mem hz; have := HE.out j _ (List.getElem?_eq_getElem hj); omega) (fun z hz => by have := r2 z hz; omega))
          have HB := hide (fun (A₂ : Option Addr) (n₂ c₂ lo : Nat) (W : World) (ho : Own W lo (.slice A₂ n₂ c₂) (addL zs l)) (hq : Below wr.heap.size wr W) => show Calls Try.prog 67 #[.slice A₂ n₂ c₂, .slice (some ⟨b1, off1, none⟩) n1 c1, .int .i64 (mi - 1), .func (.func 68) #[] #[]] W (fun e w' => e = .returned (.int .i64 (rall rs m (addL zs l))) ∧ Below wr.heap.size wr w') from by
            have e := ho.len
            rw [hul] at e
            subst e
            exact (HIH.out A₂ c₂ _ _ W ho.ints ((h1.below (hb.out.mono hB1)).below (hq.mono (Nat.le_trans hB1 hs))) (Nat.le_refl _) (Nat.le_trans (Nat.le_trans hB1 hs) hq.size) hus).mono fun e w' ⟨e1, hq'⟩ => ⟨e1, upB hq hq'⟩)
          obtain ⟨V, hV⟩ : ∃ V, Hid (rall rs m (addL zs l) = V) := ⟨_, hide rfl⟩
          rw [hV.out] at HB v0 v1 hn2 hsn
          obtain ⟨xv0, xv1⟩ := mul_bound x0 (show x ≤ 28 by omega) v0 v1
          obtain ⟨hn2a, hn2b⟩ := hn2
          have hsn := hide hsn
          clear hst hul hus hrow2 r1 r2
          go_wp2_with fail
          refine HA.out.mono ?_
          rintro e w1 ⟨A₂, n₂, c₂, rfl, ho, hq⟩
          have HB2 := hide (HB.out A₂ n₂ c₂ _ w1 ho hq)
          clear ho hq HB HA
          go_wp2_with fail
          refine HB2.out.mono ?_
          rintro e w2 ⟨rfl, hq⟩
          have hq := hide hq
          clear HB2
          go_wp2_with fail
          go_roundw
          case rel => exact ⟨k + 1, by omega, by go_num, by rw [hsn.out], hb.out.trans (Below.mono hq.out hs)⟩
          case measure => simp [intOf]; omega
        · have hst := hide (show nsum (k + 1) (termF rs (rall rs m) zs) = S from by rw [nsum_succ, termF_zero hx.out hx1, hS.out, Int.add_zero])
          go_wp2_with fail
          go_roundw
          case rel => exact ⟨k + 1, by omega, by go_num, by rw [hst.out], hb⟩
          case measure => simp [intOf]; omega
      · have hkn : k = n := by omega
        have hen := hide (show rall rs (m + 1) zs = S from by rw [he.out, hl.out, ← hkn, hS.out])
        clear hkn
        go_wp2_with fail
        go_ret
        exact ⟨ret_int hen.out.symm, hb.out⟩

set_option maxHeartbeats 800000 in
theorem ruleAll_impl (A A1 : Option Addr) (n c B n1 c1 B1 : Nat) (zs : List Int) (rs : List (List Int)) (m : Int) (w : World) (h : Ints w B A n c zs) (h1 : Mat w B1 A1 n1 c1 rs) (hB : B ≤ w.heap.size) (hB1 : B1 ≤ w.heap.size) :
    Calls Try.prog 34 #[.slice A n c, .slice A1 n1 c1, .int .i64 m] w fun e w' => e = .returned (.int .i64 (ruleAll zs rs m)) ∧ Below w.heap.size w w' := by
  have hl := hide h.len
  have HG := hide (begins_c _ _ _ _ _ _ _ _ _ _ w h h1)
  have HD := hide (drawsOk_c m w)
  have hd0 := hide (show ruleAll zs rs m = if begun zs rs && decide (0 ≤ m ∧ m ≤ 6) then rall rs m.toNat zs else -1 from rfl)
  by_cases o1 : begun zs rs = true
  · by_cases hm : 0 ≤ m ∧ m ≤ 6
    · have hd : decide (0 ≤ m ∧ m ≤ 6) = true := decide_eq_true hm
      obtain ⟨_, hz, hRl⟩ := begun_yes o1
      rw [hl.out] at hRl
      have HA := hide (sumRall_c m.toNat _ _ n c _ _ _ _ zs rs 10 m w h h1 hB hB1 hRl hz (by omega) (by decide) (by omega) (by omega))
      have hd0 := hide (show ruleAll zs rs m = rall rs m.toNat zs from by rw [hd0.out, o1, hd]; rfl)
      rw [o1] at HG
      rw [hd] at HD
      clear o1 hm hz hRl hd
      go_enter Try.func34, Try.ntmps34
      go_wp2_with (first | (go_at_call 55; refine (HG.out).mono ?_; rintro e w' ⟨rfl, rfl⟩) | (go_at_call 66; refine (HD.out).mono ?_; rintro e w' ⟨rfl, rfl⟩))
      refine HA.out.mono ?_
      rintro e w1 ⟨rfl, hq⟩
      go_wp2_with fail
      go_ret
      exact ⟨ret_int hd0.out.symm, hq⟩
    · have hd : decide (0 ≤ m ∧ m ≤ 6) = false := decide_eq_false hm
      have he := hide (show ruleAll zs rs m = -1 from by rw [hd0.out, hd, Bool.and_false]; rfl)
      rw [o1] at HG
      rw [hd] at HD
      clear o1 hm hd
      go_enter Try.func34, Try.ntmps34
      go_wp2_with (first | (go_at_call 55; refine (HG.out).mono ?_; rintro e w' ⟨rfl, rfl⟩) | (go_at_call 66; refine (HD.out).mono ?_; rintro e w' ⟨rfl, rfl⟩))
      go_ret
      exact ⟨ret_int he.out.symm, Below.refl _ _⟩
  · have o1 : begun zs rs = false := by simpa using o1
    have he := hide (show ruleAll zs rs m = -1 from by rw [hd0.out, o1]; rfl)
    rw [o1] at HG
    clear o1
    go_enter Try.func34, Try.ntmps34
    go_wp2_with (first | (go_at_call 55; refine (HG.out).mono ?_; rintro e w' ⟨rfl, rfl⟩) | (go_at_call 66; refine (HD.out).mono ?_; rintro e w' ⟨rfl, rfl⟩))
    go_ret
    exact ⟨ret_int he.out.symm, Below.refl _ _⟩

end Go.Proofs.Ytffllkmaifjpfaa
