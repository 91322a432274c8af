/-
  Contracts of chapter 4, the program's side: ruleRowOk, RuleOk, slices.Max, StartOk, beginsOk, EvenRule.
-/
import Derived.Test.YtkgfbmlhplclfaaGreatDoorZrule
import Derived.Test.YtkgfbmlhplclfaaGreatDoorZimp
namespace Go.Proofs.YtkgfbmlhplclfaaGreatDoor
open Go.RowKit

def rowOkB (cl : Int) (k : Nat) (l : List Int) : Bool := decide ((l.length : Int) = cl) && rowOkG k 0 l
theorem rowOkB_yes {cl : Int} {k : Nat} {l : List Int} (h : rowOkB cl k l = true) : (l.length : Int) = cl ∧ ∀ (j : Nat) x, l[j]? = some x → entP k j x := by
  unfold rowOkB at h
  simp only [Bool.and_eq_true, decide_eq_true_eq] at h
  exact ⟨h.1, fun j x hx => by have := rowOkG_yes h.2 j x hx; simpa [entP] using this⟩
theorem rowOkB_mk {cl : Int} {k : Nat} {l : List Int} (h1 : (l.length : Int) = cl) (h2 : ∀ (j : Nat) x, l[j]? = some x → entP k j x) : rowOkB cl k l = true := by
  unfold rowOkB
  simp only [Bool.and_eq_true, decide_eq_true_eq]
  exact ⟨h1, rowOkG_mk fun j x hx => by have := h2 j x hx; simpa [entP] using this⟩
theorem rowOkB_no {cl : Int} {k : Nat} {l : List Int} (h : (l.length : Int) ≠ cl ∨ ∃ (j : Nat) (x : Int), l[j]? = some x ∧ ¬ entP k j x) : rowOkB cl k l = false := by
  rw [Bool.eq_false_iff]
  intro hh
  obtain ⟨h1, h2⟩ := rowOkB_yes hh
  rcases h with h | ⟨j, x, hx, h⟩
  · exact h h1
  · exact h (h2 j x hx)

set_option maxHeartbeats 1600000 in
theorem ruleRow_c (cl : Int) (k : Nat) (A : Option Addr) (n c B : Nat) (l : List Int) (w : World) (h : Ints w B A n c l) (hk : k ≤ 1000) :
    Calls Tryz.prog 107 #[.int .i64 cl, .int .i64 k, .slice A n c] w fun e w' => e = .returned (.bool (rowOkB cl k l)) ∧ w = w' := by
  have hl := hide h.len
  have hn := h.nb
  by_cases hlen : (n : Int) = cl
  · have hne : ((n : Int) != cl) = false := by simpa using hlen
    have hle := hide hlen
    clear hlen
    go_enter Tryz.func107, Tryz.ntmps107
    go_wp2
    clear hne
    go_loop [16] (fun i => ∃ j : Nat, j ≤ n ∧ i = .int .i64 j ∧ Hid (∀ (i : Nat) x, i < j → l[i]? = some x → entP k i x)) (fun i => n - (intOf i).toNat)
    case atStart => exact ⟨0, Nat.zero_le _, rfl, fun i l hi _ => absurd hi (by omega)⟩
    case round =>
      obtain ⟨j, hj, rfl, hin⟩ := hrel
      by_cases hjt : j < n
      · obtain ⟨b', off', x, rfl, hb', hy, hcell'⟩ := h.look hjt
        have hno := hide (fun (hne : ¬ entP k j x) => rowOkB_no (cl := cl) (k := k) (l := l) (.inr ⟨j, x, hy.out, hne⟩))
        have hnx := hide (fun (he : entP k j x) => show ∀ (i : Nat) y, i < j + 1 → l[i]? = some y → entP k i y from fun i y hi hy2 => by
          rcases Nat.lt_or_ge i j with hij | hij
          · exact hin.out i y hij hy2
          · obtain rfl : i = j := by omega
            rw [hy.out] at hy2; injection hy2 with hy2; subst hy2; exact he)
        by_cases hx03 : 0 ≤ x ∧ x ≤ 3
        · have hm2 : (x == -1) = false := by simp; omega
          have hgo := hide (hnx.out (.inl hx03))
          obtain ⟨h0, h3⟩ := hx03
          go_wp2
          go_round
          case rel => exact ⟨j + 1, by omega, by go_num, hgo⟩
          case measure => simp [intOf]; omega
        · by_cases hm : x = -1
          · subst hm
            by_cases hjk : j = k
            · have hgo := hide (hnx.out (.inr ⟨rfl, hjk⟩))
              subst hjk
              clear hx03
              go_wp2
              go_round
              case rel => exact ⟨j + 1, by omega, by go_num, hgo⟩
              case measure => simp [intOf]; omega
            · have hbad := hide (hno.out (fun h => by rcases h with h | h; (· exact hx03 h); (· exact hjk h.2)))
              have hjk2 : ((j : Int) == (k : Int)) = false := by simp; omega
              clear hx03 hjk
              go_wp2
              go_ret
              exact ⟨ret_bool hbad.out.symm, rfl⟩
          · have hbad := hide (hno.out (fun h => by rcases h with h | h; (· exact hx03 h); (· exact hm h.1)))
            have hm2 : (x == -1) = false := by simpa using hm
            by_cases hx0 : x < 0
            · clear hx03 hm
              go_wp2
              go_ret
              exact ⟨ret_bool hbad.out.symm, rfl⟩
            · have hx3 : 3 < x := by omega
              clear hx03 hm
              go_wp2
              go_ret
              exact ⟨ret_bool hbad.out.symm, rfl⟩
      · have hy := hide (rowOkB_mk (cl := cl) (k := k) (l := l) (by rw [hl.out]; exact hle.out) (fun i x hx => hin.out i x (by have := (List.getElem?_eq_some_iff.1 hx).1; have := hl.out; omega) hx))
        go_wp2
        go_ret
        exact ⟨ret_bool hy.out.symm, rfl⟩
  · have hne : ((n : Int) != cl) = true := by simpa using hlen
    have hy := hide (rowOkB_no (cl := cl) (k := k) (l := l) (.inl (by rw [hl.out]; exact hlen)))
    clear hlen
    go_enter Tryz.func107, Tryz.ntmps107
    go_wp2
    go_ret
    exact ⟨ret_bool hy.out.symm, rfl⟩

set_option maxHeartbeats 800000 in
theorem ruleOk_impl0 (cl : Int) (A : Option Addr) (n c B : Nat) (rs : List (List Int)) (w : World) (h : Mat w B A n c rs) :
    Calls Tryz.prog 83 #[.int .i64 cl, .slice A n c] w fun e w' => e = .returned (.bool (ruleOk cl rs)) ∧ w = w' := by
  have hl := hide h.len
  have hn := h.nb
  have HC := hide (coloursOk_c cl w)
  by_cases hc : 1 ≤ cl ∧ cl ≤ 3
  · have hd := decide_eq_true hc
    rw [hd] at HC
    by_cases hcn : (n : Int) = cl
    · have hne : ((n : Int) != cl) = false := by simpa using hcn
      have hn3 : n ≤ 3 := by omega
      have hcn := hide hcn
      have hc := hide hc
      clear hd
      go_enter Tryz.func83, Tryz.ntmps83
      go_wp2_with (go_at_call 67; refine (HC.out).mono ?_; rintro e w' ⟨rfl, rfl⟩)
      clear hne
      go_loop [18] (fun i => ∃ k : Nat, k ≤ n ∧ i = .int .i64 k ∧ Hid (∀ (i : Nat) l, i < k → rs[i]? = some l → (l.length : Int) = cl ∧ ∀ (j : Nat) x, l[j]? = some x → entP i j x)) (fun i => n - (intOf i).toNat)
      case atStart => exact ⟨0, Nat.zero_le _, rfl, fun i l hi _ => absurd hi (by omega)⟩
      case round =>
        obtain ⟨k, hk, rfl, hall⟩ := hrel
        by_cases hlt : k < n
        · obtain ⟨b, off, l, A', n', c', rfl, hb, hx, hcell, hrow⟩ := h.look hlt
          have HR := hide (ruleRow_c cl k _ _ _ _ _ w hrow.out (by omega))
          by_cases hy : rowOkB cl k l = true
          · rw [hy] at HR
            have hnx := hide (show ∀ (i : Nat) l', i < k + 1 → rs[i]? = some l' → (l'.length : Int) = cl ∧ ∀ (j : Nat) x, l'[j]? = some x → entP i j x from fun i l' hi hl' => by
              rcases Nat.lt_or_ge i k with hik | hik
              · exact hall.out i l' hik hl'
              · obtain rfl : i = k := by omega
                rw [hx.out] at hl'; injection hl' with hl'; subst hl'
                exact rowOkB_yes hy)
            clear hy
            go_wp2_with (go_at_call 107; refine (HR.out).mono ?_; rintro e w' ⟨rfl, rfl⟩)
            go_round
            case rel => exact ⟨k + 1, by omega, by go_num, hnx⟩
            case measure => simp [intOf]; omega
          · have hy : rowOkB cl k l = false := by simpa using hy
            rw [hy] at HR
            have hbad := hide (show ruleOk cl rs = false from by
              rw [Bool.eq_false_iff]
              intro hh
              obtain ⟨q1, q2⟩ := (ruleOk_yes hh).2.rows k l hx.out
              have h2 : rowOkB cl k l = true := rowOkB_mk (by have := (ruleOk_yes hh).1; omega) q2
              rw [hy] at h2; cases h2)
            clear hy
            go_wp2_with (go_at_call 107; refine (HR.out).mono ?_; rintro e w' ⟨rfl, rfl⟩)
            go_ret
            exact ⟨ret_bool hbad.out.symm, rfl⟩
        · have hy := hide (ruleOk_all (c := cl) (rs := rs) hc.out.1 hc.out.2 (by rw [hl.out]; exact hcn.out) (fun i l hx => hall.out i l (by have := (List.getElem?_eq_some_iff.1 hx).1; have := hl.out; omega) hx))
          go_wp2
          go_ret
          exact ⟨ret_bool hy.out.symm, rfl⟩
    · have hne : ((n : Int) != cl) = true := by simpa using hcn
      have hy := hide (ruleOk_not (c := cl) (rs := rs) (.inr (.inr (.inl (by have := hl.out; omega)))))
      clear hcn hc hd
      go_enter Tryz.func83, Tryz.ntmps83
      go_wp2_with (go_at_call 67; refine (HC.out).mono ?_; rintro e w' ⟨rfl, rfl⟩)
      go_ret
      exact ⟨ret_bool hy.out.symm, rfl⟩
  · have hd := decide_eq_false hc
    rw [hd] at HC
    have hy := hide (ruleOk_not (c := cl) (rs := rs) (by omega))
    clear hc hd
    go_enter Tryz.func83, Tryz.ntmps83
    go_wp2_with (go_at_call 67; refine (HC.out).mono ?_; rintro e w' ⟨rfl, rfl⟩)
    go_ret
    exact ⟨ret_bool hy.out.symm, rfl⟩
theorem ruleOk_impl (cl : Int) (A : Option Addr) (n c B : Nat) (rs : List (List Int)) (w : World) (h : Mat w B A n c rs) (_hB : B ≤ w.heap.size) :
    Calls Tryz.prog 83 #[.int .i64 cl, .slice A n c] w fun e w' => e = .returned (.bool (ruleOk cl rs)) ∧ Below w.heap.size w w' := sameB (ruleOk_impl0 cl A n c B rs w h)

/-- The greatest of the first ones. -/
def mxN (zs : List Int) : Nat → Int
  | 0 => zs[0]?.getD 0
  | k + 1 => max (mxN zs k) (zs[k]?.getD 0)
theorem mxN_le {zs : List Int} {M : Int} (h : ∀ z ∈ zs, z ≤ M) (h0 : 0 < zs.length) {k : Nat} (hk : k ≤ zs.length) : mxN zs k ≤ M := by
  induction k with
  | zero => simp only [mxN]; rw [List.getElem?_eq_getElem h0]; exact h _ (List.getElem_mem h0)
  | succ k ih =>
    have h1 := ih (by omega)
    have h2 := h zs[k] (List.getElem_mem (by omega))
    simp only [mxN]; rw [List.getElem?_eq_getElem (by omega), Option.getD_some]; omega
theorem mxN_ge {zs : List Int} {j : Nat} {x : Int} (hx : zs[j]? = some x) {k : Nat} (hk : j < k) : x ≤ mxN zs k := by
  induction k with
  | zero => omega
  | succ k ih =>
    simp only [mxN]
    rcases Nat.lt_or_ge j k with h | h
    · have := ih h; omega
    · obtain rfl : j = k := by omega
      rw [hx, Option.getD_some]; omega

set_option maxHeartbeats 400000 in
theorem max_c (A : Option Addr) (n c B : Nat) (zs : List Int) (w : World) (h : Ints w B A n c zs) (hn1 : 1 ≤ n) :
    Calls Tryz.prog 106 #[.slice A n c] w fun e w' => e = .returned (.int .i64 (mxN zs n)) ∧ w = w' := by
  have hn := h.nb
  obtain ⟨b0, off0, x0, rfl, hb0, hx0, hcell0⟩ := h.look (show 0 < n by omega)
  rw [Nat.add_zero] at hcell0
  have h1 := hide (show mxN zs 1 = x0 by simp only [mxN]; rw [hx0.out, Option.getD_some]; omega)
  go_enter Tryz.func106, Tryz.ntmps106
  go_wp2
  go_loop [3, 4] (fun t i => ∃ k : Nat, 1 ≤ k ∧ k ≤ n ∧ i = .int .i64 k ∧ t = .int .i64 (mxN zs k)) (fun _ i => n - (intOf i).toNat)
  case atStart => exact ⟨1, Nat.le_refl _, hn1, rfl, by rw [h1.out]⟩
  case round =>
    obtain ⟨k, hk1, hk, rfl, rfl⟩ := hrel
    by_cases hlt : k < n
    · obtain ⟨b, off, x, hA, hb, hx, hcell⟩ := h.look hlt
      injection hA with hA
      injection hA with e1 e2 _
      subst e1; subst e2
      have hst := hide (show mxN zs (k + 1) = max (mxN zs k) x by simp only [mxN]; rw [hx.out, Option.getD_some])
      obtain ⟨S, hS⟩ : ∃ S, Hid (mxN zs k = S) := ⟨_, hide rfl⟩
      rw [hS.out] at hst ⊢
      have hmx := hide (show max S x = if S < x then x else S by split <;> omega)
      go_wp2
      go_round
      case rel => exact ⟨k + 1, by omega, by omega, by go_num, by rw [hst.out, hmx.out]⟩
      case measure => simp [intOf]; omega
    · obtain rfl : k = n := by omega
      go_wp2
      go_ret
      exact ⟨rfl, rfl⟩

theorem startOk_mx {zs : List Int} (h : urnOk zs = true) : startOk zs = decide (mxN zs zs.length ≤ 10) := by
  have h0 : 0 < zs.length := by have := (urnOk_size h).1; omega
  by_cases hm : mxN zs zs.length ≤ 10
  · rw [decide_eq_true hm]
    exact startOk_mk h fun z hz => by
      obtain ⟨j, hj, rfl⟩ := List.getElem_of_mem hz
      have := mxN_ge (List.getElem?_eq_getElem hj) hj
      omega
  · rw [decide_eq_false hm, Bool.eq_false_iff]
    intro hh
    exact hm (mxN_le (fun z hz => ((startOk_yes hh).2 z hz).2) h0 (Nat.le_refl _))
theorem startOk_no {zs : List Int} (h : urnOk zs = false) : startOk zs = false := by unfold startOk; rw [h]; rfl

set_option maxHeartbeats 400000 in
theorem startOk_impl0 (A : Option Addr) (n c B : Nat) (zs : List Int) (w : World) (h : Ints w B A n c zs) :
    Calls Tryz.prog 82 #[.slice A n c] w fun e w' => e = .returned (.bool (startOk zs)) ∧ w = w' := by
  have hl := hide h.len
  have HI := hide (urnOk_impl _ _ _ _ _ w h)
  by_cases hok : urnOk zs = true
  · have hn1 : 1 ≤ n := by have := (urnOk_size hok).1; have := hl.out; omega
    have HM := hide (max_c _ _ _ _ _ w h hn1)
    have he := hide (startOk_mx hok)
    rw [hl.out] at he
    rw [hok] at HI
    obtain ⟨S, hS⟩ : ∃ S, Hid (mxN zs n = S) := ⟨_, hide rfl⟩
    rw [hS.out] at HM he
    clear hok
    by_cases hm : S ≤ 10
    · have he := hide (show startOk zs = true by rw [he.out]; exact decide_eq_true hm)
      go_enter Tryz.func82, Tryz.ntmps82
      go_wp2_with (first | (go_at_call 47; refine (HI.out).mono ?_; rintro e w' ⟨rfl, rfl⟩) | (go_at_call 106; refine (HM.out).mono ?_; rintro e w' ⟨rfl, rfl⟩))
      go_ret
      exact ⟨ret_bool (by rw [he.out]; try simp), rfl⟩
    · have he := hide (show startOk zs = false by rw [he.out]; exact decide_eq_false hm)
      have hm2 : 10 < S := by omega
      clear hm
      go_enter Tryz.func82, Tryz.ntmps82
      go_wp2_with (first | (go_at_call 47; refine (HI.out).mono ?_; rintro e w' ⟨rfl, rfl⟩) | (go_at_call 106; refine (HM.out).mono ?_; rintro e w' ⟨rfl, rfl⟩))
      go_ret
      exact ⟨ret_bool (by rw [he.out]; simp; omega), rfl⟩
  · have hok : urnOk zs = false := by simpa using hok
    have he := hide (startOk_no hok)
    rw [hok] at HI
    clear hok
    go_enter Tryz.func82, Tryz.ntmps82
    go_wp2_with (first | (go_at_call 47; refine (HI.out).mono ?_; rintro e w' ⟨rfl, rfl⟩))
    go_ret
    exact ⟨ret_bool he.out.symm, rfl⟩
theorem startOk_impl (A : Option Addr) (n c B : Nat) (zs : List Int) (w : World) (h : Ints w B A n c zs) (_hB : B ≤ w.heap.size) :
    Calls Tryz.prog 82 #[.slice A n c] w fun e w' => e = .returned (.bool (startOk zs)) ∧ Below w.heap.size w w' := sameB (startOk_impl0 A n c B zs w h)

set_option maxHeartbeats 400000 in
theorem begins_c (A A1 : Option Addr) (n c B n1 c1 B1 : Nat) (zs : List Int) (rs : List (List Int)) (w : World) (h : Ints w B A n c zs) (h1 : Mat w B1 A1 n1 c1 rs) :
    Calls Tryz.prog 64 #[.slice A n c, .slice A1 n1 c1] w fun e w' => e = .returned (.bool (begun zs rs)) ∧ w = w' := by
  have hl := hide h.len
  have HS := hide (startOk_impl0 _ _ _ _ _ w h)
  have HR := hide (ruleOk_impl0 (n : Int) _ _ _ _ _ w h1)
  have he := hide (show begun zs rs = (startOk zs && ruleOk (n : Int) rs) by unfold begun; rw [hl.out])
  by_cases o1 : startOk zs = true
  · rw [o1] at HS
    have he := hide (show begun zs rs = ruleOk (n : Int) rs by rw [he.out, o1]; rfl)
    obtain ⟨V, hV⟩ : ∃ V, Hid (ruleOk (n : Int) rs = V) := ⟨_, hide rfl⟩
    rw [hV.out] at HR he
    clear o1
    go_enter Tryz.func64, Tryz.ntmps64
    go_wp2_with (first | (go_at_call 82; refine (HS.out).mono ?_; rintro e w' ⟨rfl, rfl⟩) | (go_at_call 83; refine (HR.out).mono ?_; rintro e w' ⟨rfl, rfl⟩))
    go_ret
    exact ⟨ret_bool he.out.symm, rfl⟩
  · have o1 : startOk zs = false := by simpa using o1
    rw [o1] at HS
    have he := hide (show begun zs rs = false by rw [he.out, o1]; rfl)
    clear o1
    go_enter Tryz.func64, Tryz.ntmps64
    go_wp2_with (first | (go_at_call 82; refine (HS.out).mono ?_; rintro e w' ⟨rfl, rfl⟩))
    go_ret
    exact ⟨ret_bool he.out.symm, rfl⟩

end Go.Proofs.YtkgfbmlhplclfaaGreatDoor
