/-
  Contracts of chapter 4, the specification's side: the recursion l4Balls; RuleAll, BallSum.
-/
import Derived.Test.YthdelfhfglnhfabRuleW
namespace Go.Proofs.Ythdelfhfglnhfab
open Go.RowKit

set_option maxHeartbeats 3200000 in
theorem l4Balls_c (col m : Nat) : ∀ (A A1 : Option Addr) (n c B n1 c1 B1 : Nat) (zs : List Int) (rs : List (List Int)) (M mi : Int) (w : World), Ints w B A n c zs → Mat w B1 A1 n1 c1 rs → B ≤ w.heap.size → B1 ≤ w.heap.size → Rule n rs → (∀ y ∈ zs, 0 ≤ y ∧ y ≤ M) → M + 3 * (m : Int) ≤ 28 → 0 ≤ M → m ≤ 6 → col < n → mi = (m : Int) →
    Calls Try.prog 53 #[.slice A n c, .slice A1 n1 c1, .int .i64 mi, .int .i64 (col : Int)] w fun e w' => e = .returned (.int .i64 (bsum rs col m zs)) ∧ Below w.heap.size w w' := by
  induction m with
  | zero =>
    intro A A1 n c B n1 c1 B1 zs rs M mi w h h1 hB hB1 hR hm hM hM0 hm6' hcol hmi
    subst hmi
    obtain ⟨b, off, x, rfl, hb, hx, hcell⟩ := h.look hcol
    have hst := hide (show bsum rs col 0 zs = x from by simp only [bsum]; rw [hx.out]; rfl)
    go_enter Try.func53, Try.ntmps53
    go_wp2_with fail
    go_ret
    exact ⟨ret_int hst.out.symm, Below.refl _ _⟩
  | succ m ih =>
    intro A A1 n c B n1 c1 B1 zs rs M mi w h h1 hB hB1 hR hm hM hM0 hm6' hcol hmi
    have hl := hide h.len
    have hn3 : n ≤ 3 := hR.le
    have hn := h.nb
    have hrl := hide hR.len
    have hmi0 : (mi == 0) = false := by simp; omega
    have hmi1 : IntKind.i64.wrap (mi - 1) = mi - 1 := IntWalk.i64_in _ (by omega)
    have hm6 : m ≤ 5 := by omega
    have hP : (84 : Int) ^ m ≤ 4182119424 := by
      match m, hm6 with
      | 0, _ | 1, _ | 2, _ | 3, _ | 4, _ | 5, _ => decide
    have HN := hide (fun (k : Nat) (hk : k ≤ n) => show 0 ≤ nsum k (termF rs (bsum rs col m) zs) ∧ nsum k (termF rs (bsum rs col m) zs) ≤ 9836344885248 from by
      have := nsum_term (m := m) (F := bsum rs col m) hR (Int.mul_nonneg (by decide) (p84 m)) hl.out hm hM (fun us h1 h2 => bsum_bound hR col m h1 h2 (by rw [Int.natCast_add] at hM; omega)) hk
      exact ⟨this.1, by omega⟩)
    have HE := hide (fun (k : Nat) x (hx : zs[k]? = some x) => hm x (List.mem_of_getElem? hx))
    have HRow := hide (fun (k : Nat) l (hl : rs[k]? = some l) => row_sum hR hl)
    have HRB := hide (fun (us : List Int) (h1 : us.length = n) (h2 : ∀ y ∈ us, 0 ≤ y ∧ y ≤ M + 3) => show 0 ≤ bsum rs col m us ∧ bsum rs col m us ≤ 117099343872 from by
      have := bsum_bound hR col m h1 h2 (by rw [Int.natCast_add] at hM; omega)
      exact ⟨this.1, by omega⟩)
    have he := hide (bsum_term rs col m zs)
    have HAft := hide (fun (c : Nat) z (hz : zs[c]? = some z) (h0 : 0 < z) => aft_mem hR hl.out hz h0 hm)
    have HIH := hide (fun (A : Option Addr) (c B : Nat) (us : List Int) (W : World) (hA : Ints W B A n c us) (hM1 : Mat W B1 A1 n1 c1 rs) (q : B ≤ W.heap.size) (q1 : B1 ≤ W.heap.size) (hus : ∀ y ∈ us, 0 ≤ y ∧ y ≤ M + 3) => ih A A1 n c B n1 c1 B1 us rs (M + 3) (mi - 1) W hA hM1 q q1 hR hus (by rw [Int.natCast_add] at hM; omega) (by omega) (by omega) hcol (by omega))
    have hM28 : M ≤ 28 := by omega
    clear hmi hM hR ih hP hm
    go_enter Try.func53, Try.ntmps53
    go_wp2_with fail
    go_loopw [9, 10] (fun t i wr => ∃ k : Nat, k ≤ n ∧ i = .int .i64 k ∧ t = .int .i64 (nsum k (termF rs (bsum rs col m) zs)) ∧ Hid (Below w.heap.size w wr)) (fun _ i _ => n - (intOf i).toNat)
    case atStart => exact ⟨0, Nat.zero_le _, rfl, rfl, Below.refl _ _⟩
    case round =>
      obtain ⟨k, hk, rfl, rfl, hb⟩ := hrel
      have hs := hb.out.size
      obtain ⟨S, hS⟩ : ∃ S, Hid (nsum k (termF rs (bsum rs col m) zs) = S) := ⟨_, hide rfl⟩
      rw [hS.out]
      by_cases hlt : k < n
      · obtain ⟨b, off, x, hA, hbB, hx, hcell⟩ := (h.below (hb.out.mono hB)).look hlt
        subst hA
        obtain ⟨x0, x1⟩ := HE.out k x hx.out
        obtain ⟨n0, n1'⟩ := HN.out k hk
        rw [hS.out] at n0 n1'
        by_cases hx1 : 0 < x
        · obtain ⟨l, hr⟩ : ∃ l, Hid (rs[k]? = some l) := ⟨_, hide (List.getElem?_eq_getElem (by have := hrl.out; omega))⟩
          obtain ⟨r1, r2, _, _⟩ := HRow.out k l hr.out
          have hus := HAft.out k x hx.out hx1
          have hrow : rowOf rs k = l := by unfold rowOf; rw [hr.out]; rfl
          rw [hrow] at hus
          have hul : (addL zs l).length = n := by rw [addL_len (by rw [hl.out, r1]), hl.out]
          obtain ⟨v0, v1⟩ := HRB.out _ hul hus
          have hst := termF_pos (F := bsum rs col m) hx.out hr.out hx1
          have hsn := nsum_succ k (termF rs (bsum rs col m) zs)
          rw [hst, hS.out] at hsn
          have hn2 := HN.out (k + 1) hlt
          rw [hsn] at hn2
          have hcl := hide (fun W (hq : Below wr.heap.size wr W) => show W.cell? ⟨b, off + k, none⟩ = some (.int .i64 x) from (hq.cell (p := ⟨b, off + k, none⟩) (show b < wr.heap.size by omega)).trans hcell)
          have HA := hide (fun W (hq : Below wr.heap.size wr W) => show Calls Try.prog 43 #[.slice (some ⟨b, off, none⟩) n c, .slice A1 n1 c1, .int .i64 k] W (fun e w' => ∃ A₂ n₂ c₂ lo, e = .returned (.slice A₂ n₂ c₂) ∧ Hid (Own w' lo (.slice A₂ n₂ c₂) (addL zs l)) ∧ Below wr.heap.size wr w' ∧ w'.cell? ⟨b, off + k, none⟩ = some (.int .i64 x)) from
            (l4After_c _ _ _ _ _ _ _ _ k zs l rs W ((h.below (hb.out.mono hB)).below (hq.mono (Nat.le_trans hB hs))) ((h1.below (hb.out.mono hB1)).below (hq.mono (Nat.le_trans hB1 hs))) (Nat.le_trans (Nat.le_trans hB hs) hq.size) (Nat.le_trans (Nat.le_trans hB1 hs) hq.size) hn3 hr.out r1 (fun z hz => by obtain ⟨j, hj, rfl⟩ := List.getElem_of_mem hz; have := HE.out j _ (List.getElem?_eq_getElem hj); omega) (fun z hz => by have := r2 z hz; omega)).mono
              fun e w' ⟨A₂, n₂, c₂, e1, ho, hq'⟩ => ⟨A₂, n₂, c₂, _, e1, ho, upB hq hq', hcl.out _ (upB hq hq')⟩)
          have HB := hide (fun (A₂ : Option Addr) (n₂ c₂ lo : Nat) (W0 W : World) (ho : Hid (Own W0 lo (.slice A₂ n₂ c₂) (addL zs l))) (hq0 : Below W0.heap.size W0 W) (hq : Below wr.heap.size wr W) => show Calls Try.prog 53 #[.slice A₂ n₂ c₂, .slice A1 n1 c1, .int .i64 (mi - 1), .int .i64 (col : Int)] W (fun e w' => e = .returned (.int .i64 (bsum rs col m (addL zs l))) ∧ Below wr.heap.size wr w' ∧ w'.cell? ⟨b, off + k, none⟩ = some (.int .i64 x)) from by
            have e := ho.out.len
            rw [hul] at e
            subst e
            exact (HIH.out A₂ c₂ _ _ W (ho.out.ints.below hq0) ((h1.below (hb.out.mono hB1)).below (hq.mono (Nat.le_trans hB1 hs))) hq0.size (Nat.le_trans (Nat.le_trans hB1 hs) hq.size) hus).mono fun e w' ⟨e1, hq'⟩ => ⟨e1, upB hq hq', hcl.out _ (upB hq hq')⟩)
          obtain ⟨V, hV⟩ : ∃ V, Hid (bsum rs col m (addL zs l) = V) := ⟨_, hide rfl⟩
          rw [hV.out] at HB v0 v1 hn2 hsn
          have hw1 : IntKind.i64.wrap (x * V) = x * V := IntWalk.i64_in _ (by omega)
          have hw2 : IntKind.i64.wrap (S + x * V) = S + x * V := IntWalk.i64_in _ (by omega)
          have hsn := hide hsn
          clear hst hul hus hrow r1 r2
          go_wp2_with fail
          go_region_with (first | (go_at_call 43; (with_reducible refine (HA.out _ ?_).mono ?_); (focus (repeat (first | assumption | exact Below.refl _ _ | refine Below.drew ?_)); done); rintro e w' ⟨A₂, n₂, c₂, lo, rfl, ho, hq, hc⟩) | (go_at_call 53; (with_reducible refine (HB.out _ _ _ _ _ _ ho ?_ ?_).mono ?_); (focus (repeat (first | assumption | exact Below.refl _ _ | refine Below.drew ?_)); done); (focus (repeat (first | assumption | exact Below.refl _ _ | refine Below.drew ?_)); done); rintro e w' ⟨rfl, hq, hc⟩))
          all_goals
            go_wp2_with fail
            go_roundw
            case rel => exact ⟨k + 1, by omega, by go_num, by rw [hsn.out], hb.out.trans (Below.mono (by assumption) hs)⟩
            case measure => simp [intOf]; omega
        · have hst := hide (show nsum (k + 1) (termF rs (bsum rs col m) zs) = S from by rw [nsum_succ, termF_zero hx.out hx1, hS.out, Int.add_zero])
          go_wp2_with fail
          go_roundw
          case rel => exact ⟨k + 1, by omega, by go_num, by rw [hst.out], hb⟩
          case measure => simp [intOf]; omega
      · have hkn : k = n := by omega
        have hen := hide (show bsum rs col (m + 1) zs = S from by rw [he.out, hl.out, ← hkn, hS.out])
        clear hkn
        go_wp2_with fail
        go_ret
        exact ⟨ret_int hen.out.symm, hb.out⟩

set_option maxHeartbeats 800000 in
theorem ruleAll_spec (A A1 : Option Addr) (n c B n1 c1 B1 : Nat) (zs : List Int) (rs : List (List Int)) (m : Int) (w : World) (h : Ints w B A n c zs) (h1 : Mat w B1 A1 n1 c1 rs) (hB : B ≤ w.heap.size) (hB1 : B1 ≤ w.heap.size) :
    Calls Try.prog 27 #[.slice A n c, .slice A1 n1 c1, .int .i64 m] w fun e w' => e = .returned (.int .i64 (ruleAll zs rs m)) ∧ Below w.heap.size w w' := by
  have hl := hide h.len
  have HS := hide (startOk_spec _ _ _ _ _ w h)
  have HR := hide (ruleOk_spec (n : Int) _ _ _ _ _ w h1)
  have hd0 := hide (show ruleAll zs rs m = if startOk zs && ruleOk (n : Int) rs && decide (0 ≤ m ∧ m ≤ 6) then rall rs m.toNat zs else -1 from by unfold ruleAll begun; rw [hl.out])
  by_cases o1 : startOk zs = true
  · by_cases o2 : ruleOk (n : Int) rs = true
    · by_cases hm : 0 ≤ m ∧ m ≤ 6
      · have hd : decide (0 ≤ m ∧ m ≤ 6) = true := decide_eq_true hm
        have hz := (startOk_yes o1).2
        have hRl := (ruleOk_yes o2).2
        rw [Int.toNat_natCast] at hRl
        have HA := hide (l4All_c m.toNat _ _ n c _ _ _ _ zs rs 10 m w h h1 hB hB1 hRl hz (by omega) (by decide) (by omega) (by omega))
        rw [o1, o2, hd] at hd0
        rw [o1] at HS
        rw [o2] at HR
        have hd0 := hide (show ruleAll zs rs m = rall rs m.toNat zs from hd0.out)
        clear o1 o2 hm hz hRl
        go_enter Try.func27, Try.ntmps27
        go_wp2_with (first | (go_at_call 16; refine (HS.out).mono ?_; rintro e w' ⟨rfl, rfl⟩) | (go_at_call 12; refine (HR.out).mono ?_; rintro e w' ⟨rfl, rfl⟩) | (go_at_call 36; refine (l1In_c _ _ _ _).mono ?_; rintro e w' ⟨rfl, rfl⟩))
        refine HA.out.mono ?_
        rintro e w1 ⟨rfl, hq⟩
        go_wp2_with fail
        go_ret
        exact ⟨ret_int hd0.out.symm, hq⟩
      · have hd : decide (0 ≤ m ∧ m ≤ 6) = false := decide_eq_false hm
        have he := hide (show ruleAll zs rs m = -1 from by rw [hd0.out, hd, Bool.and_false]; rfl)
        rw [o1] at HS
        rw [o2] at HR
        clear o1 o2 hm
        go_enter Try.func27, Try.ntmps27
        go_wp2_with (first | (go_at_call 16; refine (HS.out).mono ?_; rintro e w' ⟨rfl, rfl⟩) | (go_at_call 12; refine (HR.out).mono ?_; rintro e w' ⟨rfl, rfl⟩) | (go_at_call 36; refine (l1In_c _ _ _ _).mono ?_; rintro e w' ⟨rfl, rfl⟩))
        go_ret
        exact ⟨ret_int he.out.symm, Below.refl _ _⟩
    · have o2 : ruleOk (n : Int) rs = false := by simpa using o2
      have he := hide (show ruleAll zs rs m = -1 from by rw [hd0.out, o2, Bool.and_false]; rfl)
      rw [o1] at HS
      rw [o2] at HR
      clear o1 o2
      go_enter Try.func27, Try.ntmps27
      go_wp2_with (first | (go_at_call 16; refine (HS.out).mono ?_; rintro e w' ⟨rfl, rfl⟩) | (go_at_call 12; refine (HR.out).mono ?_; rintro e w' ⟨rfl, rfl⟩))
      go_ret
      exact ⟨ret_int he.out.symm, Below.refl _ _⟩
  · have o1 : startOk zs = false := by simpa using o1
    have he := hide (show ruleAll zs rs m = -1 from by rw [hd0.out, o1]; rfl)
    rw [o1] at HS
    clear o1
    go_enter Try.func27, Try.ntmps27
    go_wp2_with (first | (go_at_call 16; refine (HS.out).mono ?_; rintro e w' ⟨rfl, rfl⟩))
    go_ret
    exact ⟨ret_int he.out.symm, Below.refl _ _⟩

set_option maxHeartbeats 800000 in
theorem ballSum_spec (A A1 : Option Addr) (n c B n1 c1 B1 : Nat) (zs : List Int) (rs : List (List Int)) (m col : Int) (w : World) (h : Ints w B A n c zs) (h1 : Mat w B1 A1 n1 c1 rs) (hB : B ≤ w.heap.size) (hB1 : B1 ≤ w.heap.size) :
    Calls Try.prog 31 #[.slice A n c, .slice A1 n1 c1, .int .i64 m, .int .i64 col] w fun e w' => e = .returned (.int .i64 (ballSum zs rs m col)) ∧ Below w.heap.size w w' := by
  have hl := hide h.len
  have hn := h.nb
  have HS := hide (startOk_spec _ _ _ _ _ w h)
  have HR := hide (ruleOk_spec (n : Int) _ _ _ _ _ w h1)
  have hd0 := hide (show ballSum zs rs m col = if startOk zs && ruleOk (n : Int) rs && decide (0 ≤ m ∧ m ≤ 6) && decide (0 ≤ col ∧ col ≤ (n : Int) - 1) then bsum rs col.toNat m.toNat zs else -1 from by
    unfold ballSum begun
    rw [hl.out, show decide (0 ≤ col ∧ col < (n : Int)) = decide (0 ≤ col ∧ col ≤ (n : Int) - 1) from by simp only [decide_eq_decide]; omega])
  by_cases o1 : startOk zs = true
  · by_cases o2 : ruleOk (n : Int) rs = true
    · have hRl := (ruleOk_yes o2).2
      rw [Int.toNat_natCast] at hRl
      have hn1 : 1 ≤ n := hRl.pos
      have hn3 : n ≤ 3 := hRl.le
      by_cases hm : 0 ≤ m ∧ m ≤ 6
      · have hd : decide (0 ≤ m ∧ m ≤ 6) = true := decide_eq_true hm
        by_cases hcol : 0 ≤ col ∧ col ≤ (n : Int) - 1
        · have hdc : decide (0 ≤ col ∧ col ≤ (n : Int) - 1) = true := decide_eq_true hcol
          have hz := (startOk_yes o1).2
          have HA := hide (l4Balls_c col.toNat m.toNat _ _ n c _ _ _ _ zs rs 10 m w h h1 hB hB1 hRl hz (by omega) (by decide) (by omega) (by omega) (by omega))
          rw [show ((col.toNat : Nat) : Int) = col from by omega] at HA
          rw [o1, o2, hd, hdc] at hd0
          rw [o1] at HS
          rw [o2] at HR
          have hd0 := hide (show ballSum zs rs m col = bsum rs col.toNat m.toNat zs from hd0.out)
          clear o1 o2 hm hz hRl hcol
          go_enter Try.func31, Try.ntmps31
          go_wp2_with (first | (go_at_call 16; refine (HS.out).mono ?_; rintro e w' ⟨rfl, rfl⟩) | (go_at_call 12; refine (HR.out).mono ?_; rintro e w' ⟨rfl, rfl⟩) | (go_at_call 36; refine (l1In_c _ _ _ _).mono ?_; rintro e w' ⟨rfl, rfl⟩))
          refine HA.out.mono ?_
          rintro e w1 ⟨rfl, hq⟩
          go_wp2_with fail
          go_ret
          exact ⟨ret_int hd0.out.symm, hq⟩
        · have hdc : decide (0 ≤ col ∧ col ≤ (n : Int) - 1) = false := decide_eq_false hcol
          have he := hide (show ballSum zs rs m col = -1 from by rw [hd0.out, hdc, Bool.and_false]; rfl)
          rw [o1] at HS
          rw [o2] at HR
          clear o1 o2 hm hRl hcol
          go_enter Try.func31, Try.ntmps31
          go_wp2_with (first | (go_at_call 16; refine (HS.out).mono ?_; rintro e w' ⟨rfl, rfl⟩) | (go_at_call 12; refine (HR.out).mono ?_; rintro e w' ⟨rfl, rfl⟩) | (go_at_call 36; refine (l1In_c _ _ _ _).mono ?_; rintro e w' ⟨rfl, rfl⟩))
          go_ret
          exact ⟨ret_int he.out.symm, Below.refl _ _⟩
      · have hd : decide (0 ≤ m ∧ m ≤ 6) = false := decide_eq_false hm
        have he := hide (show ballSum zs rs m col = -1 from by rw [hd0.out, hd, Bool.and_false]; rfl)
        rw [o1] at HS
        rw [o2] at HR
        clear o1 o2 hm hRl
        go_enter Try.func31, Try.ntmps31
        go_wp2_with (first | (go_at_call 16; refine (HS.out).mono ?_; rintro e w' ⟨rfl, rfl⟩) | (go_at_call 12; refine (HR.out).mono ?_; rintro e w' ⟨rfl, rfl⟩) | (go_at_call 36; refine (l1In_c _ _ _ _).mono ?_; rintro e w' ⟨rfl, rfl⟩))
        go_ret
        exact ⟨ret_int he.out.symm, Below.refl _ _⟩
    · have o2 : ruleOk (n : Int) rs = false := by simpa using o2
      have he := hide (show ballSum zs rs m col = -1 from by rw [hd0.out, o2, Bool.and_false]; rfl)
      rw [o1] at HS
      rw [o2] at HR
      clear o1 o2
      go_enter Try.func31, Try.ntmps31
      go_wp2_with (first | (go_at_call 16; refine (HS.out).mono ?_; rintro e w' ⟨rfl, rfl⟩) | (go_at_call 12; refine (HR.out).mono ?_; rintro e w' ⟨rfl, rfl⟩))
      go_ret
      exact ⟨ret_int he.out.symm, Below.refl _ _⟩
  · have o1 : startOk zs = false := by simpa using o1
    have he := hide (show ballSum zs rs m col = -1 from by rw [hd0.out, o1]; rfl)
    rw [o1] at HS
    clear o1
    go_enter Try.func31, Try.ntmps31
    go_wp2_with (first | (go_at_call 16; refine (HS.out).mono ?_; rintro e w' ⟨rfl, rfl⟩))
    go_ret
    exact ⟨ret_int he.out.symm, Below.refl _ _⟩
end Go.Proofs.Ythdelfhfglnhfab
