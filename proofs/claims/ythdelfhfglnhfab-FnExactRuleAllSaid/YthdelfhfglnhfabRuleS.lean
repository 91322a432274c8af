/-
  Contracts of chapter 4, the specification's side: RuleOk.
-/
import Derived.Test.YthdelfhfglnhfabOks
import Derived.Test.YthdelfhfglnhfabMat
import Derived.Test.YthdelfhfglnhfabPlainR
namespace Go.Proofs.Ythdelfhfglnhfab
open Go.RowKit

def entP (i j : Nat) (x : Int) : Prop := (0 ≤ x ∧ x ≤ 3) ∨ (x = -1 ∧ j = i)
theorem ruleOk_not {c : Int} {rs : List (List Int)} (h : c < 1 ∨ 3 < c ∨ (rs.length : Int) ≠ c ∨ (∃ (k : Nat) (l : List Int), rs[k]? = some l ∧ ((l.length : Int) ≠ c ∨ ∃ (j : Nat) (x : Int), l[j]? = some x ∧ ¬ entP k j x))) : ruleOk c rs = false := by
  rw [Bool.eq_false_iff]
  intro hh
  obtain ⟨h1, h2⟩ := ruleOk_yes hh
  have p1 := h2.pos; have p2 := h2.le; have p3 := h2.len
  rcases h with h | h | h | ⟨k, l, hl, h⟩
  · omega
  · omega
  · omega
  · obtain ⟨q1, q2⟩ := h2.rows k l hl
    rcases h with h | ⟨j, x, hx, h⟩
    · omega
    · exact h (q2 j x hx)
theorem ruleOk_all {c : Int} {rs : List (List Int)} (h1 : 1 ≤ c) (h3 : c ≤ 3) (hl : (rs.length : Int) = c) (h : ∀ (k : Nat) l, rs[k]? = some l → (l.length : Int) = c ∧ ∀ (j : Nat) x, l[j]? = some x → entP k j x) : ruleOk c rs = true := by
  obtain ⟨C, rfl⟩ : ∃ C : Nat, c = (C : Int) := ⟨c.toNat, by omega⟩
  exact ruleOk_mk ⟨by omega, by omega, by omega, fun k l hk => ⟨by have := (h k l hk).1; omega, (h k l hk).2⟩⟩

set_option maxHeartbeats 1600000 in
theorem ruleOk_spec (cl : Int) (A : Option Addr) (n c B : Nat) (rs : List (List Int)) (w : World) (h : Mat w B A n c rs) :
    Calls Try.prog 12 #[.int .i64 cl, .slice A n c] w fun e w' => e = .returned (.bool (ruleOk cl rs)) ∧ w = w' := by
  have hl := hide h.len
  have hn := h.nb
  go_enter Try.func12, Try.ntmps12
  go_wp2
  go_loop [5, 6] (fun i _ => ∃ k : Nat, k ≤ n ∧ i = .int .i64 k ∧ Hid (∀ (i : Nat) l, i < k → rs[i]? = some l → (l.length : Int) = cl ∧ ∀ (j : Nat) x, l[j]? = some x → entP i j x)) (fun i _ => n - (intOf i).toNat)
  case atStart => exact ⟨0, Nat.zero_le _, rfl, fun i l hi _ => absurd hi (by omega)⟩
  case round =>
    obtain ⟨k, hk, rfl, hall⟩ := hrel
    by_cases hlt : k < n
    · obtain ⟨b, off, l, A', n', c', rfl, hb, hx, hcell, hrow⟩ := h.look hlt
      have hll := hide hrow.out.len
      have hn' := hrow.out.nb
      by_cases hlen : (n' : Int) = cl
      · subst hlen
        have hle := hide (show (n' : Int) = (n' : Int) from rfl)
        go_wp2
        go_loop [6] (fun i => ∃ j : Nat, j ≤ n' ∧ i = .int .i64 j ∧ Hid (∀ (i : Nat) x, i < j → l[i]? = some x → entP k i x)) (fun i => n' - (intOf i).toNat)
        case atStart => exact ⟨0, Nat.zero_le _, rfl, fun i l hi _ => absurd hi (by omega)⟩
        case round =>
          obtain ⟨j, hj, rfl, hin⟩ := hrel
          by_cases hjt : j < n'
          · obtain ⟨b', off', x, rfl, hb', hy, hcell'⟩ := hrow.out.look hjt
            have hno := hide (fun (hne : ¬ entP k j x) => ruleOk_not (c := (n' : Int)) (rs := rs) (.inr (.inr (.inr ⟨k, l, hx.out, .inr ⟨j, x, hy.out, hne⟩⟩))))
            have hnx := hide (fun (he : entP k j x) => show ∀ (i : Nat) y, i < j + 1 → l[i]? = some y → entP k i y from fun i y hi hy2 => by
              rcases Nat.lt_or_ge i j with hij | hij
              · exact hin.out i y hij hy2
              · obtain rfl : i = j := by omega
                rw [hy.out] at hy2; injection hy2 with hy2; subst hy2; exact he)
            by_cases hx03 : 0 ≤ x ∧ x ≤ 3
            · have hd : decide (0 ≤ x ∧ x ≤ 3) = true := decide_eq_true hx03
              have hgo := hide (hnx.out (.inl hx03))
              clear hx03
              go_wp2_with (go_at_call 36; refine (l1In_c _ _ _ _).mono ?_; rintro e w' ⟨rfl, rfl⟩)
              go_round
              case rel => exact ⟨j + 1, by omega, by go_num, hgo⟩
              case measure => simp [intOf]; omega
            · have hd : decide (0 ≤ x ∧ x ≤ 3) = false := decide_eq_false hx03
              by_cases hm : x = -1
              · subst hm
                by_cases hjk : j = k
                · have hgo := hide (hnx.out (.inr ⟨rfl, hjk⟩))
                  subst hjk
                  clear hx03
                  go_wp2_with (go_at_call 36; refine (l1In_c _ _ _ _).mono ?_; rintro e w' ⟨rfl, rfl⟩)
                  go_round
                  case rel => exact ⟨j + 1, by omega, by go_num, hgo⟩
                  case measure => simp [intOf]; omega
                · have hbad := hide (hno.out (fun h => by rcases h with h | h; (· exact hx03 h); (· exact hjk h.2)))
                  have hjk2 : ((j : Int) == (k : Int)) = false := by simp; omega
                  clear hx03 hjk
                  go_wp2_with (go_at_call 36; refine (l1In_c _ _ _ _).mono ?_; rintro e w' ⟨rfl, rfl⟩)
                  go_ret
                  exact ⟨ret_bool hbad.out.symm, rfl⟩
              · have hbad := hide (hno.out (fun h => by rcases h with h | h; (· exact hx03 h); (· exact hm h.1)))
                have hm2 : (x == -1) = false := by simpa using hm
                clear hx03 hm
                go_wp2_with (go_at_call 36; refine (l1In_c _ _ _ _).mono ?_; rintro e w' ⟨rfl, rfl⟩)
                go_ret
                exact ⟨ret_bool hbad.out.symm, rfl⟩
          · have hjn : n' = j := by omega
            subst hjn
            have hrowk := hide (show ∀ (i : Nat) l', i < k + 1 → rs[i]? = some l' → (l'.length : Int) = (n' : Int) ∧ ∀ (j : Nat) x, l'[j]? = some x → entP i j x from fun i l' hi hl' => by
              rcases Nat.lt_or_ge i k with hik | hik
              · exact hall.out i l' hik hl'
              · obtain rfl : i = k := by omega
                rw [hx.out] at hl'; injection hl' with hl'; subst hl'
                exact ⟨by have := hll.out; have := hle.out; omega, fun j2 x2 hx2 => hin.out j2 x2 (by have := (List.getElem?_eq_some_iff.1 hx2).1; have := hll.out; omega) hx2⟩)
            go_wp2
            go_round
            case rel => exact ⟨k + 1, by omega, by go_num, hrowk⟩
            case measure => simp [intOf]; omega
      · have hne : ((n' : Int) != cl) = true := by simpa using hlen
        have hy := hide (ruleOk_not (c := cl) (rs := rs) (.inr (.inr (.inr ⟨k, l, hx.out, .inl (by have := hll.out; omega)⟩))))
        clear hlen
        go_wp2
        go_ret
        exact ⟨ret_bool hy.out.symm, rfl⟩
    · have hall2 := hide (fun (i : Nat) l (hx : rs[i]? = some l) => hall.out i l (by have := (List.getElem?_eq_some_iff.1 hx).1; have := hl.out; omega) hx)
      by_cases hc : 1 ≤ cl ∧ cl ≤ 3
      · have hd : decide (1 ≤ cl ∧ cl ≤ 3) = true := decide_eq_true hc
        by_cases hcn : (n : Int) = cl
        · have hy := hide (ruleOk_all hc.1 hc.2 (by have := hl.out; omega) hall2.out)
          have hdn : ((n : Int) == cl) = true := by simpa using hcn
          clear hc hcn
          go_wp2_with (go_at_call 36; refine (l1In_c _ _ _ _).mono ?_; rintro e w' ⟨rfl, rfl⟩)
          go_ret
          exact ⟨ret_bool (by rw [hy.out]; try simp), rfl⟩
        · have hy := hide (ruleOk_not (c := cl) (rs := rs) (.inr (.inr (.inl (by have := hl.out; omega)))))
          have hdn : ((n : Int) == cl) = false := by simpa using hcn
          clear hc hcn
          go_wp2_with (go_at_call 36; refine (l1In_c _ _ _ _).mono ?_; rintro e w' ⟨rfl, rfl⟩)
          go_ret
          exact ⟨ret_bool (by rw [hy.out]; try simp), rfl⟩
      · have hd : decide (1 ≤ cl ∧ cl ≤ 3) = false := decide_eq_false hc
        have hy := hide (ruleOk_not (c := cl) (rs := rs) (by omega))
        clear hc
        go_wp2_with (go_at_call 36; refine (l1In_c _ _ _ _).mono ?_; rintro e w' ⟨rfl, rfl⟩)
        go_ret
        exact ⟨ret_bool (by rw [hy.out]; try simp), rfl⟩
end Go.Proofs.Ythdelfhfglnhfab
