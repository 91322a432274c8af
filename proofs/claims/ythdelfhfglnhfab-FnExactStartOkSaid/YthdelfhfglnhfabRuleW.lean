/-
  Contracts of chapter 4, the specification's side: the recursions l4All and l4Balls; RuleAll, BallSum.
-/
import Derived.Test.YthdelfhfglnhfabZrule
import Derived.Test.YthdelfhfglnhfabZdraw
import Derived.Deep.RegionWith
namespace Go.Proofs.Ythdelfhfglnhfab
open Go.RowKit

/-- One term of the sum over all colours. -/
def termF (rs : List (List Int)) (F : List Int → Int) (zs : List Int) (c : Nat) : Int := max (zs[c]?.getD 0) 0 * F (addL zs (rowOf rs c))
theorem termF_pos {rs : List (List Int)} {F : List Int → Int} {zs l : List Int} {c : Nat} {z : Int} (hz : zs[c]? = some z) (hr : rs[c]? = some l) (h : 0 < z) : termF rs F zs c = z * F (addL zs l) := by
  unfold termF rowOf
  rw [hz, hr, Option.getD_some, Option.getD_some, Int.max_eq_left (by omega)]
theorem termF_zero {rs : List (List Int)} {F : List Int → Int} {zs : List Int} {c : Nat} {z : Int} (hz : zs[c]? = some z) (h : ¬ 0 < z) : termF rs F zs c = 0 := by
  unfold termF
  rw [hz, Option.getD_some, show max z 0 = 0 by omega, Int.zero_mul]
theorem rall_term (rs : List (List Int)) (m : Nat) (zs : List Int) : rall rs (m + 1) zs = nsum zs.length (termF rs (rall rs m) zs) := rfl
theorem bsum_term (rs : List (List Int)) (col m : Nat) (zs : List Int) : bsum rs col (m + 1) zs = nsum zs.length (termF rs (bsum rs col m) zs) := rfl
theorem nsum_term {C m : Nat} {rs : List (List Int)} (h : Rule C rs) {zs : List Int} {M P : Int} {F : List Int → Int} (hP : 0 ≤ P) (hl : zs.length = C) (hm : ∀ y ∈ zs, 0 ≤ y ∧ y ≤ M) (hM : M + 3 * ((m + 1 : Nat) : Int) ≤ 28)
    (ih : ∀ us : List Int, us.length = C → (∀ y ∈ us, 0 ≤ y ∧ y ≤ M + 3) → 0 ≤ F us ∧ F us ≤ P) {k : Nat} (hk : k ≤ C) : 0 ≤ nsum k (termF rs F zs) ∧ nsum k (termF rs F zs) ≤ 84 * P := by
  have hs := nsum_le (n := k) (C := C) (B := 28 * P) hk (Int.mul_nonneg (by decide) hP) (fun c hc => way_bound (m := m) (F := F) h hP hl hm hM ih hc)
  refine ⟨hs.1, Int.le_trans hs.2 ?_⟩
  have h3 := h.le
  have := Int.mul_le_mul_of_nonneg_right (show (C : Int) ≤ 3 by omega) (Int.mul_nonneg (show (0 : Int) ≤ 28 by decide) hP)
  omega
theorem nsum_succ (n : Nat) (f : Nat → Int) : nsum (n + 1) f = nsum n f + f n := rfl

set_option maxHeartbeats 3200000 in
theorem l4All_c (m : Nat) : ∀ (A A1 : Option Addr) (n c B n1 c1 B1 : Nat) (zs : List Int) (rs : List (List Int)) (M mi : Int) (w : World), Ints w B A n c zs → Mat w B1 A1 n1 c1 rs → B ≤ w.heap.size → B1 ≤ w.heap.size → Rule n rs → (∀ y ∈ zs, 0 ≤ y ∧ y ≤ M) → M + 3 * (m : Int) ≤ 28 → 0 ≤ M → m ≤ 6 → mi = (m : Int) →
    Calls Try.prog 47 #[.slice A n c, .slice A1 n1 c1, .int .i64 mi] w fun e w' => e = .returned (.int .i64 (rall rs m zs)) ∧ Below w.heap.size w w' := by
  induction m with
  | zero =>
    intro A A1 n c B n1 c1 B1 zs rs M mi w h h1 hB hB1 hR hm hM hM0 hm6' hmi
    subst hmi
    go_enter Try.func47, Try.ntmps47
    go_wp2_with fail
    go_ret
    exact ⟨rfl, Below.refl _ _⟩
  | succ m ih =>
    intro A A1 n c B n1 c1 B1 zs rs M mi w h h1 hB hB1 hR hm hM hM0 hm6' hmi
    have hl := hide h.len
    have hn3 : n ≤ 3 := hR.le
    have hn := h.nb
    have hrl := hide hR.len
    have hmi0 : (mi == 0) = false := by simp; omega
    have hmi1 : IntKind.i64.wrap (mi - 1) = mi - 1 := IntWalk.i64_in _ (by omega)
    have hm6 : m ≤ 5 := by omega
    have hP : (84 : Int) ^ m ≤ 4182119424 := by
      match m, hm6 with
      | 0, _ | 1, _ | 2, _ | 3, _ | 4, _ | 5, _ => decide
    have HN := hide (fun (k : Nat) (hk : k ≤ n) => show 0 ≤ nsum k (termF rs (rall rs m) zs) ∧ nsum k (termF rs (rall rs m) zs) ≤ 351298031616 from by
      have := nsum_term (m := m) (F := rall rs m) hR (p84 m) hl.out hm hM (fun us h1 h2 => rall_bound hR m h1 h2 (by rw [Int.natCast_add] at hM; omega)) hk
      exact ⟨this.1, by omega⟩)
    have HE := hide (fun (k : Nat) x (hx : zs[k]? = some x) => hm x (List.mem_of_getElem? hx))
    have HRow := hide (fun (k : Nat) l (hl : rs[k]? = some l) => row_sum hR hl)
    have HRB := hide (fun (us : List Int) (h1 : us.length = n) (h2 : ∀ y ∈ us, 0 ≤ y ∧ y ≤ M + 3) => show 0 ≤ rall rs m us ∧ rall rs m us ≤ 4182119424 from by
      have := rall_bound hR m h1 h2 (by rw [Int.natCast_add] at hM; omega)
      exact ⟨this.1, by omega⟩)
    have he := hide (rall_term rs m zs)
    have HAft := hide (fun (c : Nat) z (hz : zs[c]? = some z) (h0 : 0 < z) => aft_mem hR hl.out hz h0 hm)
    have HIH := hide (fun (A : Option Addr) (c B : Nat) (us : List Int) (W : World) (hA : Ints W B A n c us) (hM1 : Mat W B1 A1 n1 c1 rs) (q : B ≤ W.heap.size) (q1 : B1 ≤ W.heap.size) (hus : ∀ y ∈ us, 0 ≤ y ∧ y ≤ M + 3) => ih A A1 n c B n1 c1 B1 us rs (M + 3) (mi - 1) W hA hM1 q q1 hR hus (by rw [Int.natCast_add] at hM; omega) (by omega) (by omega) (by omega))
    have hM28 : M ≤ 28 := by omega
    clear hmi hM hR ih hP hm
    go_enter Try.func47, Try.ntmps47
    go_wp2_with fail
    go_loopw [7, 8] (fun t i wr => ∃ k : Nat, k ≤ n ∧ i = .int .i64 k ∧ t = .int .i64 (nsum k (termF rs (rall rs m) zs)) ∧ Hid (Below w.heap.size w wr)) (fun _ i _ => n - (intOf i).toNat)
    case atStart => exact ⟨0, Nat.zero_le _, rfl, rfl, Below.refl _ _⟩
    case round =>
      obtain ⟨k, hk, rfl, rfl, hb⟩ := hrel
      have hs := hb.out.size
      obtain ⟨S, hS⟩ : ∃ S, Hid (nsum k (termF rs (rall rs m) zs) = S) := ⟨_, hide rfl⟩
      rw [hS.out]
      by_cases hlt : k < n
      · obtain ⟨b, off, x, hA, hbB, hx, hcell⟩ := (h.below (hb.out.mono hB)).look hlt
        subst hA
        obtain ⟨x0, x1⟩ := HE.out k x hx.out
        obtain ⟨n0, n1'⟩ := HN.out k hk
        rw [hS.out] at n0 n1'
        by_cases hx1 : 0 < x
        · obtain ⟨l, hr⟩ : ∃ l, Hid (rs[k]? = some l) := ⟨_, hide (List.getElem?_eq_getElem (by have := hrl.out; omega))⟩
          obtain ⟨r1, r2, _, _⟩ := HRow.out k l hr.out
          have hus := HAft.out k x hx.out hx1
          have hrow : rowOf rs k = l := by unfold rowOf; rw [hr.out]; rfl
          rw [hrow] at hus
          have hul : (addL zs l).length = n := by rw [addL_len (by rw [hl.out, r1]), hl.out]
          obtain ⟨v0, v1⟩ := HRB.out _ hul hus
          have hst := termF_pos (F := rall rs m) hx.out hr.out hx1
          have hsn := nsum_succ k (termF rs (rall rs m) zs)
          rw [hst, hS.out] at hsn
          have hn2 := HN.out (k + 1) hlt
          rw [hsn] at hn2
          have hcl := hide (fun W (hq : Below wr.heap.size wr W) => show W.cell? ⟨b, off + k, none⟩ = some (.int .i64 x) from (hq.cell (p := ⟨b, off + k, none⟩) (show b < wr.heap.size by omega)).trans hcell)
          have HA := hide (fun W (hq : Below wr.heap.size wr W) => show Calls Try.prog 43 #[.slice (some ⟨b, off, none⟩) n c, .slice A1 n1 c1, .int .i64 k] W (fun e w' => ∃ A₂ n₂ c₂ lo, e = .returned (.slice A₂ n₂ c₂) ∧ Hid (Own w' lo (.slice A₂ n₂ c₂) (addL zs l)) ∧ Below wr.heap.size wr w' ∧ w'.cell? ⟨b, off + k, none⟩ = some (.int .i64 x)) from
            (l4After_c _ _ _ _ _ _ _ _ k zs l rs W ((h.below (hb.out.mono hB)).below (hq.mono (Nat.le_trans hB hs))) ((h1.below (hb.out.mono hB1)).below (hq.mono (Nat.le_trans hB1 hs))) (Nat.le_trans (Nat.le_trans hB hs) hq.size) (Nat.le_trans (Nat.le_trans hB1 hs) hq.size) hn3 hr.out r1 (fun z hz => by obtain ⟨j, hj, rfl⟩ := List.getElem_of_mem hz; have := HE.out j _ (List.getElem?_eq_getElem hj); omega) (fun z hz => by have := r2 z hz; omega)).mono
              fun e w' ⟨A₂, n₂, c₂, e1, ho, hq'⟩ => ⟨A₂, n₂, c₂, _, e1, ho, upB hq hq', hcl.out _ (upB hq hq')⟩)
          have HB := hide (fun (A₂ : Option Addr) (n₂ c₂ lo : Nat) (W0 W : World) (ho : Hid (Own W0 lo (.slice A₂ n₂ c₂) (addL zs l))) (hq0 : Below W0.heap.size W0 W) (hq : Below wr.heap.size wr W) => show Calls Try.prog 47 #[.slice A₂ n₂ c₂, .slice A1 n1 c1, .int .i64 (mi - 1)] W (fun e w' => e = .returned (.int .i64 (rall rs m (addL zs l))) ∧ Below wr.heap.size wr w' ∧ w'.cell? ⟨b, off + k, none⟩ = some (.int .i64 x)) from by
            have e := ho.out.len
            rw [hul] at e
            subst e
            exact (HIH.out A₂ c₂ _ _ W (ho.out.ints.below hq0) ((h1.below (hb.out.mono hB1)).below (hq.mono (Nat.le_trans hB1 hs))) hq0.size (Nat.le_trans (Nat.le_trans hB1 hs) hq.size) hus).mono fun e w' ⟨e1, hq'⟩ => ⟨e1, upB hq hq', hcl.out _ (upB hq hq')⟩)
          obtain ⟨V, hV⟩ : ∃ V, Hid (rall rs m (addL zs l) = V) := ⟨_, hide rfl⟩
          rw [hV.out] at HB v0 v1 hn2 hsn
          have hw1 : IntKind.i64.wrap (x * V) = x * V := IntWalk.i64_in _ (by omega)
          have hw2 : IntKind.i64.wrap (S + x * V) = S + x * V := IntWalk.i64_in _ (by omega)
          have hsn := hide hsn
          clear hst hul hus hrow r1 r2
          go_wp2_with fail
          go_region_with (first | (go_at_call 43; (with_reducible refine (HA.out _ ?_).mono ?_); (focus (repeat (first | assumption | exact Below.refl _ _ | refine Below.drew ?_)); done); rintro e w' ⟨A₂, n₂, c₂, lo, rfl, ho, hq, hc⟩) | (go_at_call 47; (with_reducible refine (HB.out _ _ _ _ _ _ ho ?_ ?_).mono ?_); (focus (repeat (first | assumption | exact Below.refl _ _ | refine Below.drew ?_)); done); (focus (repeat (first | assumption | exact Below.refl _ _ | refine Below.drew ?_)); done); rintro e w' ⟨rfl, hq, hc⟩))
          all_goals
            go_wp2_with fail
            go_roundw
            case rel => exact ⟨k + 1, by omega, by go_num, by rw [hsn.out], hb.out.trans (Below.mono (by assumption) hs)⟩
            case measure => simp [intOf]; omega
        · have hst := hide (show nsum (k + 1) (termF rs (rall rs m) zs) = S from by rw [nsum_succ, termF_zero hx.out hx1, hS.out, Int.add_zero])
          go_wp2_with fail
          go_roundw
          case rel => exact ⟨k + 1, by omega, by go_num, by rw [hst.out], hb⟩
          case measure => simp [intOf]; omega
      · have hkn : k = n := by omega
        have hen := hide (show rall rs (m + 1) zs = S from by rw [he.out, hl.out, ← hkn, hS.out])
        clear hkn
        go_wp2_with fail
        go_ret
        exact ⟨ret_int hen.out.symm, hb.out⟩
end Go.Proofs.Ythdelfhfglnhfab
