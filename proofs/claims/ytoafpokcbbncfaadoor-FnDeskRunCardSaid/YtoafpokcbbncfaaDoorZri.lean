/-
  Words, plain lemmas and contracts that belong together, joined into one file.
-/
import Derived.Test.YtoafpokcbbncfaaDoorZrule
import Derived.Test.YtoafpokcbbncfaaDoorZimp
import Derived.Test.YtoafpokcbbncfaaDoorZoks
import Derived.Test.YtoafpokcbbncfaaDoorZdraw
import Derived.Deep.RegionWith
namespace Go.Proofs.YtoafpokcbbncfaaDoor
open Go.RowKit

def rowOkB (cl : Int) (k : Nat) (l : List Int) : Bool := decide ((l.length : Int) = cl) && rowOkG k 0 l
theorem rowOkB_yes {cl : Int} {k : Nat} {l : List Int} (h : rowOkB cl k l = true) : (l.length : Int) = cl ∧ ∀ (j : Nat) x, l[j]? = some x → entP k j x := by
  unfold rowOkB at h
  simp only [Bool.and_eq_true, decide_eq_true_eq] at h
  exact ⟨h.1, fun j x hx => by have := rowOkG_yes h.2 j x hx; simpa [entP] using this⟩
theorem rowOkB_mk {cl : Int} {k : Nat} {l : List Int} (h1 : (l.length : Int) = cl) (h2 : ∀ (j : Nat) x, l[j]? = some x → entP k j x) : rowOkB cl k l = true := by
  unfold rowOkB
  simp only [Bool.and_eq_true, decide_eq_true_eq]
  exact ⟨h1, rowOkG_mk fun j x hx => by have := h2 j x hx; simpa [entP] using this⟩
theorem rowOkB_no {cl : Int} {k : Nat} {l : List Int} (h : (l.length : Int) ≠ cl ∨ ∃ (j : Nat) (x : Int), l[j]? = some x ∧ ¬ entP k j x) : rowOkB cl k l = false := by
  rw [Bool.eq_false_iff]
  intro hh
  obtain ⟨h1, h2⟩ := rowOkB_yes hh
  rcases h with h | ⟨j, x, hx, h⟩
  · exact h h1
  · exact h (h2 j x hx)

set_option maxHeartbeats 1600000 in
theorem ruleRow_c (cl : Int) (k : Nat) (A : Option Addr) (n c B : Nat) (l : List Int) (w : World) (h : Ints w B A n c l) (hk : k ≤ 1000) :
    Calls Tryd.prog 119 #[.int .i64 cl, .int .i64 k, .slice A n c] w fun e w' => e = .returned (.bool (rowOkB cl k l)) ∧ w = w' := by
  have hl := hide h.len
  have hn := h.nb
  by_cases hlen : (n : Int) = cl
  · have hne : ((n : Int) != cl) = false := by simpa using hlen
    have hle := hide hlen
    clear hlen
    go_enter Tryd.func119, Tryd.ntmps119
    go_wp2
    clear hne
    go_loop [16] (fun i => ∃ j : Nat, j ≤ n ∧ i = .int .i64 j ∧ Hid (∀ (i : Nat) x, i < j → l[i]? = some x → entP k i x)) (fun i => n - (intOf i).toNat)
    case atStart => exact ⟨0, Nat.zero_le _, rfl, fun i l hi _ => absurd hi (by omega)⟩
    case round =>
      obtain ⟨j, hj, rfl, hin⟩ := hrel
      by_cases hjt : j < n
      · obtain ⟨b', off', x, rfl, hb', hy, hcell'⟩ := h.look hjt
        have hno := hide (fun (hne : ¬ entP k j x) => rowOkB_no (cl := cl) (k := k) (l := l) (.inr ⟨j, x, hy.out, hne⟩))
        have hnx := hide (fun (he : entP k j x) => show ∀ (i : Nat) y, i < j + 1 → l[i]? = some y → entP k i y from fun i y hi hy2 => by
          rcases Nat.lt_or_ge i j with hij | hij
          · exact hin.out i y hij hy2
          · obtain rfl : i = j := by omega
            rw [hy.out] at hy2; injection hy2 with hy2; subst hy2; exact he)
        by_cases hx03 : 0 ≤ x ∧ x ≤ 3
        · have hm2 : (x == -1) = false := by simp; omega
          have hgo := hide (hnx.out (.inl hx03))
          obtain ⟨h0, h3⟩ := hx03
          go_wp2
          go_round
          case rel => exact ⟨j + 1, by omega, by go_num, hgo⟩
          case measure => simp [intOf]; omega
        · by_cases hm : x = -1
          · subst hm
            by_cases hjk : j = k
            · have hgo := hide (hnx.out (.inr ⟨rfl, hjk⟩))
              subst hjk
              clear hx03
              go_wp2
              go_round
              case rel => exact ⟨j + 1, by omega, by go_num, hgo⟩
              case measure => simp [intOf]; omega
            · have hbad := hide (hno.out (fun h => by rcases h with h | h; (· exact hx03 h); (· exact hjk h.2)))
              have hjk2 : ((j : Int) == (k : Int)) = false := by simp; omega
              clear hx03 hjk
              go_wp2
              go_ret
              exact ⟨ret_bool hbad.out.symm, rfl⟩
          · have hbad := hide (hno.out (fun h => by rcases h with h | h; (· exact hx03 h); (· exact hm h.1)))
            have hm2 : (x == -1) = false := by simpa using hm
            by_cases hx0 : x < 0
            · clear hx03 hm
              go_wp2
              go_ret
              exact ⟨ret_bool hbad.out.symm, rfl⟩
            · have hx3 : 3 < x := by omega
              clear hx03 hm
              go_wp2
              go_ret
              exact ⟨ret_bool hbad.out.symm, rfl⟩
      · have hy := hide (rowOkB_mk (cl := cl) (k := k) (l := l) (by rw [hl.out]; exact hle.out) (fun i x hx => hin.out i x (by have := (List.getElem?_eq_some_iff.1 hx).1; have := hl.out; omega) hx))
        go_wp2
        go_ret
        exact ⟨ret_bool hy.out.symm, rfl⟩
  · have hne : ((n : Int) != cl) = true := by simpa using hlen
    have hy := hide (rowOkB_no (cl := cl) (k := k) (l := l) (.inl (by rw [hl.out]; exact hlen)))
    clear hlen
    go_enter Tryd.func119, Tryd.ntmps119
    go_wp2
    go_ret
    exact ⟨ret_bool hy.out.symm, rfl⟩

set_option maxHeartbeats 800000 in
theorem ruleOk_impl0 (cl : Int) (A : Option Addr) (n c B : Nat) (rs : List (List Int)) (w : World) (h : Mat w B A n c rs) :
    Calls Tryd.prog 98 #[.int .i64 cl, .slice A n c] w fun e w' => e = .returned (.bool (ruleOk cl rs)) ∧ w = w' := by
  have hl := hide h.len
  have hn := h.nb
  have HC := hide (coloursOk_c cl w)
  by_cases hc : 1 ≤ cl ∧ cl ≤ 3
  · have hd := decide_eq_true hc
    rw [hd] at HC
    by_cases hcn : (n : Int) = cl
    · have hne : ((n : Int) != cl) = false := by simpa using hcn
      have hn3 : n ≤ 3 := by omega
      have hcn := hide hcn
      have hc := hide hc
      clear hd
      go_enter Tryd.func98, Tryd.ntmps98
      go_wp2_with (go_at_call 62; refine (HC.out).mono ?_; rintro e w' ⟨rfl, rfl⟩)
      clear hne
      go_loop [18] (fun i => ∃ k : Nat, k ≤ n ∧ i = .int .i64 k ∧ Hid (∀ (i : Nat) l, i < k → rs[i]? = some l → (l.length : Int) = cl ∧ ∀ (j : Nat) x, l[j]? = some x → entP i j x)) (fun i => n - (intOf i).toNat)
      case atStart => exact ⟨0, Nat.zero_le _, rfl, fun i l hi _ => absurd hi (by omega)⟩
      case round =>
        obtain ⟨k, hk, rfl, hall⟩ := hrel
        by_cases hlt : k < n
        · obtain ⟨b, off, l, A', n', c', rfl, hb, hx, hcell, hrow⟩ := h.look hlt
          have HR := hide (ruleRow_c cl k _ _ _ _ _ w hrow.out (by omega))
          by_cases hy : rowOkB cl k l = true
          · rw [hy] at HR
            have hnx := hide (show ∀ (i : Nat) l', i < k + 1 → rs[i]? = some l' → (l'.length : Int) = cl ∧ ∀ (j : Nat) x, l'[j]? = some x → entP i j x from fun i l' hi hl' => by
              rcases Nat.lt_or_ge i k with hik | hik
              · exact hall.out i l' hik hl'
              · obtain rfl : i = k := by omega
                rw [hx.out] at hl'; injection hl' with hl'; subst hl'
                exact rowOkB_yes hy)
            clear hy
            go_wp2_with (go_at_call 119; refine (HR.out).mono ?_; rintro e w' ⟨rfl, rfl⟩)
            go_round
            case rel => exact ⟨k + 1, by omega, by go_num, hnx⟩
            case measure => simp [intOf]; omega
          · have hy : rowOkB cl k l = false := by simpa using hy
            rw [hy] at HR
            have hbad := hide (show ruleOk cl rs = false from by
              rw [Bool.eq_false_iff]
              intro hh
              obtain ⟨q1, q2⟩ := (ruleOk_yes hh).2.rows k l hx.out
              have h2 : rowOkB cl k l = true := rowOkB_mk (by have := (ruleOk_yes hh).1; omega) q2
              rw [hy] at h2; cases h2)
            clear hy
            go_wp2_with (go_at_call 119; refine (HR.out).mono ?_; rintro e w' ⟨rfl, rfl⟩)
            go_ret
            exact ⟨ret_bool hbad.out.symm, rfl⟩
        · have hy := hide (ruleOk_all (c := cl) (rs := rs) hc.out.1 hc.out.2 (by rw [hl.out]; exact hcn.out) (fun i l hx => hall.out i l (by have := (List.getElem?_eq_some_iff.1 hx).1; have := hl.out; omega) hx))
          go_wp2
          go_ret
          exact ⟨ret_bool hy.out.symm, rfl⟩
    · have hne : ((n : Int) != cl) = true := by simpa using hcn
      have hy := hide (ruleOk_not (c := cl) (rs := rs) (.inr (.inr (.inl (by have := hl.out; omega)))))
      clear hcn hc hd
      go_enter Tryd.func98, Tryd.ntmps98
      go_wp2_with (go_at_call 62; refine (HC.out).mono ?_; rintro e w' ⟨rfl, rfl⟩)
      go_ret
      exact ⟨ret_bool hy.out.symm, rfl⟩
  · have hd := decide_eq_false hc
    rw [hd] at HC
    have hy := hide (ruleOk_not (c := cl) (rs := rs) (by omega))
    clear hc hd
    go_enter Tryd.func98, Tryd.ntmps98
    go_wp2_with (go_at_call 62; refine (HC.out).mono ?_; rintro e w' ⟨rfl, rfl⟩)
    go_ret
    exact ⟨ret_bool hy.out.symm, rfl⟩
/-- The greatest of the first ones. -/
def mxN (zs : List Int) : Nat → Int
  | 0 => zs[0]?.getD 0
  | k + 1 => max (mxN zs k) (zs[k]?.getD 0)
theorem mxN_le {zs : List Int} {M : Int} (h : ∀ z ∈ zs, z ≤ M) (h0 : 0 < zs.length) {k : Nat} (hk : k ≤ zs.length) : mxN zs k ≤ M := by
  induction k with
  | zero => simp only [mxN]; rw [List.getElem?_eq_getElem h0]; exact h _ (List.getElem_mem h0)
  | succ k ih =>
    have h1 := ih (by omega)
    have h2 := h zs[k] (List.getElem_mem (by omega))
    simp only [mxN]; rw [List.getElem?_eq_getElem (by omega), Option.getD_some]; omega
theorem mxN_ge {zs : List Int} {j : Nat} {x : Int} (hx : zs[j]? = some x) {k : Nat} (hk : j < k) : x ≤ mxN zs k := by
  induction k with
  | zero => omega
  | succ k ih =>
    simp only [mxN]
    rcases Nat.lt_or_ge j k with h | h
    · have := ih h; omega
    · obtain rfl : j = k := by omega
      rw [hx, Option.getD_some]; omega

set_option maxHeartbeats 400000 in
theorem max_c (A : Option Addr) (n c B : Nat) (zs : List Int) (w : World) (h : Ints w B A n c zs) (hn1 : 1 ≤ n) :
    Calls Tryd.prog 118 #[.slice A n c] w fun e w' => e = .returned (.int .i64 (mxN zs n)) ∧ w = w' := by
  have hn := h.nb
  obtain ⟨b0, off0, x0, rfl, hb0, hx0, hcell0⟩ := h.look (show 0 < n by omega)
  rw [Nat.add_zero] at hcell0
  have h1 := hide (show mxN zs 1 = x0 by simp only [mxN]; rw [hx0.out, Option.getD_some]; omega)
  go_enter Tryd.func118, Tryd.ntmps118
  go_wp2
  go_loop [3, 4] (fun t i => ∃ k : Nat, 1 ≤ k ∧ k ≤ n ∧ i = .int .i64 k ∧ t = .int .i64 (mxN zs k)) (fun _ i => n - (intOf i).toNat)
  case atStart => exact ⟨1, Nat.le_refl _, hn1, rfl, by rw [h1.out]⟩
  case round =>
    obtain ⟨k, hk1, hk, rfl, rfl⟩ := hrel
    by_cases hlt : k < n
    · obtain ⟨b, off, x, hA, hb, hx, hcell⟩ := h.look hlt
      injection hA with hA
      injection hA with e1 e2 _
      subst e1; subst e2
      have hst := hide (show mxN zs (k + 1) = max (mxN zs k) x by simp only [mxN]; rw [hx.out, Option.getD_some])
      obtain ⟨S, hS⟩ : ∃ S, Hid (mxN zs k = S) := ⟨_, hide rfl⟩
      rw [hS.out] at hst ⊢
      have hmx := hide (show max S x = if S < x then x else S by split <;> omega)
      go_wp2
      go_round
      case rel => exact ⟨k + 1, by omega, by omega, by go_num, by rw [hst.out, hmx.out]⟩
      case measure => simp [intOf]; omega
    · obtain rfl : k = n := by omega
      go_wp2
      go_ret
      exact ⟨rfl, rfl⟩

theorem startOk_mx {zs : List Int} (h : urnOk zs = true) : startOk zs = decide (mxN zs zs.length ≤ 10) := by
  have h0 : 0 < zs.length := by have := (urnOk_size h).1; omega
  by_cases hm : mxN zs zs.length ≤ 10
  · rw [decide_eq_true hm]
    exact startOk_mk h fun z hz => by
      obtain ⟨j, hj, rfl⟩ := List.getElem_of_mem hz
      have := mxN_ge (List.getElem?_eq_getElem hj) hj
      omega
  · rw [decide_eq_false hm, Bool.eq_false_iff]
    intro hh
    exact hm (mxN_le (fun z hz => ((startOk_yes hh).2 z hz).2) h0 (Nat.le_refl _))
theorem startOk_no {zs : List Int} (h : urnOk zs = false) : startOk zs = false := by unfold startOk; rw [h]; rfl

set_option maxHeartbeats 400000 in
theorem startOk_impl0 (A : Option Addr) (n c B : Nat) (zs : List Int) (w : World) (h : Ints w B A n c zs) :
    Calls Tryd.prog 97 #[.slice A n c] w fun e w' => e = .returned (.bool (startOk zs)) ∧ w = w' := by
  have hl := hide h.len
  have HI := hide (urnOk_impl _ _ _ _ _ w h)
  by_cases hok : urnOk zs = true
  · have hn1 : 1 ≤ n := by have := (urnOk_size hok).1; have := hl.out; omega
    have HM := hide (max_c _ _ _ _ _ w h hn1)
    have he := hide (startOk_mx hok)
    rw [hl.out] at he
    rw [hok] at HI
    obtain ⟨S, hS⟩ : ∃ S, Hid (mxN zs n = S) := ⟨_, hide rfl⟩
    rw [hS.out] at HM he
    clear hok
    by_cases hm : S ≤ 10
    · have he := hide (show startOk zs = true by rw [he.out]; exact decide_eq_true hm)
      go_enter Tryd.func97, Tryd.ntmps97
      go_wp2_with (first | (go_at_call 61; refine (HI.out).mono ?_; rintro e w' ⟨rfl, rfl⟩) | (go_at_call 118; refine (HM.out).mono ?_; rintro e w' ⟨rfl, rfl⟩))
      go_ret
      exact ⟨ret_bool (by rw [he.out]; try simp), rfl⟩
    · have he := hide (show startOk zs = false by rw [he.out]; exact decide_eq_false hm)
      have hm2 : 10 < S := by omega
      clear hm
      go_enter Tryd.func97, Tryd.ntmps97
      go_wp2_with (first | (go_at_call 61; refine (HI.out).mono ?_; rintro e w' ⟨rfl, rfl⟩) | (go_at_call 118; refine (HM.out).mono ?_; rintro e w' ⟨rfl, rfl⟩))
      go_ret
      exact ⟨ret_bool (by rw [he.out]; simp; omega), rfl⟩
  · have hok : urnOk zs = false := by simpa using hok
    have he := hide (startOk_no hok)
    rw [hok] at HI
    clear hok
    go_enter Tryd.func97, Tryd.ntmps97
    go_wp2_with (first | (go_at_call 61; refine (HI.out).mono ?_; rintro e w' ⟨rfl, rfl⟩))
    go_ret
    exact ⟨ret_bool he.out.symm, rfl⟩
set_option maxHeartbeats 400000 in
theorem begins_c (A A1 : Option Addr) (n c B n1 c1 B1 : Nat) (zs : List Int) (rs : List (List Int)) (w : World) (h : Ints w B A n c zs) (h1 : Mat w B1 A1 n1 c1 rs) :
    Calls Tryd.prog 64 #[.slice A n c, .slice A1 n1 c1] w fun e w' => e = .returned (.bool (begun zs rs)) ∧ w = w' := by
  have hl := hide h.len
  have HS := hide (startOk_impl0 _ _ _ _ _ w h)
  have HR := hide (ruleOk_impl0 (n : Int) _ _ _ _ _ w h1)
  have he := hide (show begun zs rs = (startOk zs && ruleOk (n : Int) rs) by unfold begun; rw [hl.out])
  by_cases o1 : startOk zs = true
  · rw [o1] at HS
    have he := hide (show begun zs rs = ruleOk (n : Int) rs by rw [he.out, o1]; rfl)
    obtain ⟨V, hV⟩ : ∃ V, Hid (ruleOk (n : Int) rs = V) := ⟨_, hide rfl⟩
    rw [hV.out] at HR he
    clear o1
    go_enter Tryd.func64, Tryd.ntmps64
    go_wp2_with (first | (go_at_call 97; refine (HS.out).mono ?_; rintro e w' ⟨rfl, rfl⟩) | (go_at_call 98; refine (HR.out).mono ?_; rintro e w' ⟨rfl, rfl⟩))
    go_ret
    exact ⟨ret_bool he.out.symm, rfl⟩
  · have o1 : startOk zs = false := by simpa using o1
    rw [o1] at HS
    have he := hide (show begun zs rs = false by rw [he.out, o1]; rfl)
    clear o1
    go_enter Tryd.func64, Tryd.ntmps64
    go_wp2_with (first | (go_at_call 97; refine (HS.out).mono ?_; rintro e w' ⟨rfl, rfl⟩))
    go_ret
    exact ⟨ret_bool he.out.symm, rfl⟩

end Go.Proofs.YtoafpokcbbncfaaDoor

namespace Go.Proofs.YtoafpokcbbncfaaDoor
open Go.RowKit

end Go.Proofs.YtoafpokcbbncfaaDoor

namespace Go.Proofs.YtoafpokcbbncfaaDoor
open Go.RowKit

/-- A block of two cells that may be written. -/
structure Two (w : World) (g : Nat) (x y : Value) : Prop where
  c0 : w.cell? ⟨g, 0, none⟩ = some x
  c1 : w.cell? ⟨g, 1, none⟩ = some y
  f0 : w.frozen? ⟨g, 0, none⟩ = false
  f1 : w.frozen? ⟨g, 1, none⟩ = false
  lt : g < w.heap.size
theorem Two.below {w w' : World} {B g : Nat} {x y : Value} (h : Two w g x y) (hb : Below B w w') (hg : g < B) : Two w' g x y :=
  ⟨(hb.cell (p := ⟨g, 0, none⟩) hg).trans h.c0, (hb.cell (p := ⟨g, 1, none⟩) hg).trans h.c1, (hb.frozen (p := ⟨g, 0, none⟩) hg).trans h.f0, (hb.frozen (p := ⟨g, 1, none⟩) hg).trans h.f1, Nat.lt_of_lt_of_le h.lt hb.size⟩
theorem Two.made (w : World) (x y : Value) (T : TypeId) : Two (w.alloc (.cells #[x, y] T)) w.heap.size x y :=
  ⟨by rw [World.cell?_alloc_new]; rfl, by rw [World.cell?_alloc_new]; rfl, World.frozen?_alloc_new w _ _ _, World.frozen?_alloc_new w _ _ _, by simp⟩
theorem Two.set2 {w : World} {g : Nat} {x y : Value} (h : Two w g x y) (u v : Value) : Two ((w.setCell ⟨g, 0, none⟩ u).setCell ⟨g, 1, none⟩ v) g u v := by
  refine ⟨?_, ?_, by simp [h.f0], by simp [h.f1], by simpa using h.lt⟩
  · rw [World.cell?_setCell_other _ _ _ _ (by simp)]
    exact World.cell?_setCell_same _ _ _ h.c0
  · exact World.cell?_setCell_same _ _ _ ((World.cell?_setCell_other _ _ _ _ (by simp)).trans h.c1)
theorem Two.setOther {w : World} {g : Nat} {x y : Value} (h : Two w g x y) {a : Addr} (hg : a.block ≠ g) (u : Value) : Two (w.setCell a u) g x y :=
  ⟨(World.cell?_setCell_other _ _ _ _ (fun e => hg (by rw [e]))).trans h.c0, (World.cell?_setCell_other _ _ _ _ (fun e => hg (by rw [e]))).trans h.c1, by simp [h.f0], by simp [h.f1], by simpa using h.lt⟩
theorem grown_two (w : World) (a : Addr) (u : Value) : w.grownBy (w.setCell a u) (some a.block) :=
  ⟨rfl, rfl, rfl, by simp, fun k _ hk => Below.heap_setCell _ _ _ k (fun e => hk (by rw [e]))⟩
theorem Own.setOther {w : World} {base : Nat} {v : Value} {zs : List Int} (h : Own w base v zs) {a : Addr} (hne : v.ownBlock ≠ some a.block) (u : Value) : Own (w.setCell a u) base v zs :=
  h.kept (grown_two w a u) (.inr hne)
theorem Own.setBelow {w : World} {base : Nat} {v : Value} {zs : List Int} (h : Own w base v zs) {a : Addr} (ha : a.block < base) (u : Value) : Own (w.setCell a u) base v zs := ⟨ownsRow_setCell_below h.row ha u, h.wf⟩

set_option maxHeartbeats 800000 in
theorem drawStep0_c (A : Option Addr) (n c B g X : Nat) (us : List Int) (P y : Int) (w : World) (h : Ints w B A n c us) (hB : B ≤ w.heap.size) (hy : us[X]? = some y) (hP : P * y = 0) :
    Calls Tryd.prog 101 #[.agg #[.slice A n c, .int .i64 P], .int .i64 X, .pointer (some ⟨g, 0, none⟩)] w fun e w' => e = .returned (.agg #[.slice A n c, .int .i64 0]) ∧ Below w.heap.size w w' := by
  have hn := h.nb
  have hlt : X < n := by have := (List.getElem?_eq_some_iff.1 hy).1; have := h.len; omega
  obtain ⟨b, off, y', rfl, hb, hy', hcell⟩ := h.look hlt
  have hyy := hide (show y' = y by have e := hy'.out; rw [hy] at e; injection e with e; exact e.symm)
  have hP2 := hide (show wrap64 (P * y') = 0 by rw [hyy.out, hP]; exact IntWalk.wrap64_in 0 (by decide))
  have hbs : b < w.heap.size := Nat.lt_of_lt_of_le hb hB
  clear hy hP
  go_enter Tryd.func101, Tryd.ntmps101
  go_wp2_with fail
  go_quiet (fail)
  rw [hP2.out]
  go_wp2_with fail
  exact bodyPost_ret (v := .agg #[.slice (some ⟨b, off, none⟩) n c, .int .i64 0]) (by simp [results, Tryd.results101, go_sem]) rfl ⟨rfl, ((below_drewN ((al w _).alloc (by simp) _) _).setCell (Nat.le_succ _) _).setCell (Nat.le_succ _) _⟩

set_option maxHeartbeats 800000 in
theorem drawStep_c (A A1 : Option Addr) (n c B n1 c1 B1 g X : Nat) (us l : List Int) (rs : List (List Int)) (P y : Int) (w : World) (h : Ints w B A n c us) (hB : B ≤ w.heap.size) (h1 : Mat w B1 A1 n1 c1 rs) (hB1 : B1 ≤ w.heap.size) (hg : w.cell? ⟨g, 0, none⟩ = some (.slice A1 n1 c1)) (hgs : g < w.heap.size) (hy : us[X]? = some y) (hr : rs[X]? = some l) (hll : l.length = n) (hP : 0 < P * y) (hP2 : P * y ≤ 9223372036854775807) (hn3 : n ≤ 1000) (hm : ∀ x ∈ us, -1000 ≤ x ∧ x ≤ 1000) (hm' : ∀ x ∈ l, -1000 ≤ x ∧ x ≤ 1000) :
    Calls Tryd.prog 101 #[.agg #[.slice A n c, .int .i64 P], .int .i64 X, .pointer (some ⟨g, 0, none⟩)] w fun e w' => ∃ A₂ n₂ c₂, e = .returned (.agg #[.slice A₂ n₂ c₂, .int .i64 (P * y)]) ∧ Own w' w.heap.size (.slice A₂ n₂ c₂) (addL us l) ∧ Below w.heap.size w w' := by
  have hn := h.nb
  have hlt : X < n := by have := (List.getElem?_eq_some_iff.1 hy).1; have := h.len; omega
  have hlt1 : X < n1 := by have := (List.getElem?_eq_some_iff.1 hr).1; have := h1.len; omega
  obtain ⟨b, off, y', rfl, hb, hy', hcell⟩ := h.look hlt
  obtain ⟨b1, off1, l', A3, n3, c3, rfl, hb1, hl', hcell1, hrow⟩ := h1.look hlt1
  obtain rfl : l' = l := by have e := hl'.out; rw [hr] at e; injection e with e; exact e.symm
  obtain rfl : n3 = n := by rw [← hrow.out.len, hll]
  obtain rfl : y' = y := by have e := hy'.out; rw [hy] at e; injection e with e; exact e.symm
  have hw := hide (show wrap64 (P * y') = P * y' from IntWalk.wrap64_in _ ⟨Int.le_trans (by decide) (Int.le_of_lt hP), hP2⟩)
  have hne : (P * y' == 0) = false := beq_false_of_ne (Int.ne_of_gt hP)
  have hbs : b < w.heap.size := Nat.lt_of_lt_of_le hb hB
  have hb1s : b1 < w.heap.size := Nat.lt_of_lt_of_le hb1 hB1
  obtain ⟨W0, hW0⟩ : ∃ W0, Hid ((w.alloc (.cells #[.slice (some ⟨b, off, none⟩) n3 c, .int .i64 P] 91)).alloc (.cells #[.slice none 0 0, .int .i64 0] 91) = W0) := ⟨_, hide rfl⟩
  have hz0 := hide (show W0.heap.size = w.heap.size + 2 by rw [← hW0.out]; simp)
  have hq0 := hide (show Below w.heap.size w W0 by rw [← hW0.out]; exact (al w _).alloc (by simp) _)
  have hc0 := hide (show W0.cell? ⟨w.heap.size + 1, 0, none⟩ = some (.slice none 0 0) by rw [← hW0.out]; rw [World.cell?_alloc_at _ _ _ _ (by simp)]; rfl)
  have hc1 := hide (show W0.cell? ⟨w.heap.size + 1, 1, none⟩ = some (.int .i64 0) by rw [← hW0.out]; rw [World.cell?_alloc_at _ _ _ _ (by simp)]; rfl)
  have hf0 := hide (show W0.frozen? ⟨w.heap.size + 1, 0, none⟩ = false ∧ W0.frozen? ⟨w.heap.size + 1, 1, none⟩ = false by rw [← hW0.out]; exact ⟨by simp, by simp⟩)
  have HA := hide (fun (W : World) (hq : Below (w.heap.size + 2) W0 W) => show Calls Tryd.prog 102 #[.slice (some ⟨b, off, none⟩) n3 c, .slice A3 n3 c3] W (fun e w' => ∃ A₂ n₂ c₂, e = .returned (.slice A₂ n₂ c₂) ∧ Hid (Own w' (w.heap.size + 2) (.slice A₂ n₂ c₂) (addL us l')) ∧ Hid (Below (w.heap.size + 2) W0 w') ∧ w'.cell? ⟨w.heap.size + 1, 0, none⟩ = some (.slice none 0 0) ∧ w'.cell? ⟨w.heap.size + 1, 1, none⟩ = some (.int .i64 0) ∧ w'.frozen? ⟨w.heap.size + 1, 0, none⟩ = false ∧ w'.frozen? ⟨w.heap.size + 1, 1, none⟩ = false) from by
    have hs2 : w.heap.size + 2 ≤ W.heap.size := by have := hq.size; have := hz0.out; omega
    have hqw := hq0.out.trans (hq.mono (by omega))
    refine (added_c _ A3 n3 c B c3 B1 us l' W (h.below (hqw.mono hB)) (hrow.out.below (hqw.mono hB1)) (Nat.le_trans hB (by omega)) (Nat.le_trans hB1 (by omega)) hn3 hm hm').mono ?_
    rintro e w' ⟨A₂, n₂, c₂, e1, ho, hq'⟩
    have hq2 := hq.trans (hq'.mono hs2)
    exact ⟨A₂, n₂, c₂, e1, ho.down hs2, hq2, (hq2.cell (p := ⟨w.heap.size + 1, 0, none⟩) (Nat.lt_succ_self _)).trans hc0.out, (hq2.cell (p := ⟨w.heap.size + 1, 1, none⟩) (Nat.lt_succ_self _)).trans hc1.out, (hq2.frozen (p := ⟨w.heap.size + 1, 0, none⟩) (Nat.lt_succ_self _)).trans hf0.out.1, (hq2.frozen (p := ⟨w.heap.size + 1, 1, none⟩) (Nat.lt_succ_self _)).trans hf0.out.2⟩)
  have e0 := hW0.out
  subst e0
  clear hW0 hz0 hq0 hc0 hc1 hf0 hy hr hP hP2 hm hm' hll
  go_enter Tryd.func101, Tryd.ntmps101
  go_wp2_with fail
  go_quiet (fail)
  rw [hw.out]
  go_wp2_with fail
  go_region_with (first | (go_at_call 102; (with_reducible refine (HA.out _ ?_).mono ?_); (focus (repeat (first | assumption | exact Below.refl _ _ | refine below_drewN ?_ _ | refine Below.drew ?_)); done); rintro e w' ⟨A₂, n₂, c₂, rfl, ho, hq, q1, q2, q3, q4⟩))
  all_goals
    go_wp2_with fail
    exact bodyPost_ret (v := .agg #[.slice A₂ n₂ c₂, .int .i64 (P * y')]) (by simp [results, Tryd.results101, go_sem, q1, q2]) rfl ⟨_, _, _, rfl, ((ho.out.setBelow (Nat.lt_succ_self _) _).setBelow (Nat.lt_succ_self _) _).down (by omega), ((((al w _).alloc (by simp) _).trans (hq.out.mono (by omega))).setCell (Nat.le_succ _) _).setCell (Nat.le_succ _) _⟩
end Go.Proofs.YtoafpokcbbncfaaDoor

namespace Go.Proofs.YtoafpokcbbncfaaDoor
open Go.RowKit

/-- What the fold has in its hand behind the first k draws. -/
structure DrawnAt (rs : List (List Int)) (zs ws : List Int) (k : Nat) (P : Int) (us : List Int) : Prop where
  len : us.length = zs.length
  lo : 0 ≤ P
  hi : P ≤ 481890304
  bd : ∀ y ∈ us, -1000 ≤ y ∧ y ≤ 1000
  at_ : WaysAt rs zs ws k P us

theorem DrawnAt.zero {rs : List (List Int)} {zs ws us : List Int} {k : Nat} (h : DrawnAt rs zs ws k 0 us) : rways rs zs ws = 0 := by
  rcases h.at_ with h1 | h1
  · exact absurd h1.1 (by decide)
  · exact h1.2
/-- The block of a slice that the call owns, or none. -/
def Off (A : Option Addr) (n c g : Nat) : Prop := (Value.slice A n c).ownBlock ≠ some g
theorem Off.of_own {w : World} {base n c g : Nat} {A : Option Addr} {zs : List Int} (h : Own w base (.slice A n c) zs) (hg : g < base) : Off A n c g := by
  unfold Off
  rcases h.shape with ⟨e, _⟩ | ⟨b, c', e, hb, _⟩
  · rw [e]; simp [Value.ownBlock]
  · rw [e]; simp [Value.ownBlock]; omega
theorem Off.of_own_lt {w : World} {base n c g : Nat} {A : Option Addr} {zs : List Int} (h : Own w base (.slice A n c) zs) (hg : w.heap.size ≤ g) : Off A n c g := by
  unfold Off
  rcases h.shape with ⟨e, _⟩ | ⟨b, c', e, _, hb⟩
  · rw [e]; simp [Value.ownBlock]
  · rw [e]; simp [Value.ownBlock]; omega

set_option maxHeartbeats 1600000 in
theorem foldDrawn_c (A A1 A' : Option Addr) (n c n1 c1 B1 n' c' B' g base : Nat) (zs : List Int) (rs : List (List Int)) (ws : List Int) (w : World) (ho : Own w base (.slice A n c) zs) (hbs : base ≤ w.heap.size) (h1 : Mat w B1 A1 n1 c1 rs) (h' : Ints w B' A' n' c' ws) (hB1 : B1 ≤ w.heap.size) (hB' : B' ≤ w.heap.size) (hg : w.cell? ⟨g, 0, none⟩ = some (.slice A1 n1 c1)) (hgs : g < w.heap.size) (hm : ∀ y ∈ zs, 0 ≤ y ∧ y ≤ 10) (hRl : Rule n rs) (hw6 : n' ≤ 6) (hwm : ∀ x ∈ ws, 0 ≤ x ∧ x < (n : Int)) :
    Calls Tryd.prog 99 #[.slice A' n' c', .agg #[.slice A n c, .int .i64 1], .func (.func 101) #[] #[.pointer (some ⟨g, 0, none⟩)]] w fun e w' => ∃ A₂ n₂ c₂ us P, e = .returned (.agg #[.slice A₂ n₂ c₂, .int .i64 P]) ∧ DrawnAt rs zs ws ws.length P us ∧ Own w' base (.slice A₂ n₂ c₂) us ∧ Below w.heap.size w w' := by
  have hl := hide ho.len
  have hl' := hide h'.len
  have hn6 : n' ≤ 6 := hw6
  have hn3 : n ≤ 3 := hRl.le
  have hwm2 : ∀ x ∈ ws, 0 ≤ x ∧ x < (n : Int) := hwm
  have hzl : zs.length = n := hl.out.symm
  have h6 : ws.length ≤ 6 := by have := hl'.out; omega
  have HC := hide (fun (j : Nat) x (hx : ws[j]? = some x) => hwm2 x (List.mem_of_getElem? hx))
  have HT := hide (fun (k : Nat) us (ha : afterW rs zs (ws.take k) = some us) => afterW_take hRl hzl hm hwm2 h6 ha)
  have HStep := hide (fun (k : Nat) x us (ha : afterW rs zs (ws.take k) = some us) (hx : ws[k]? = some x) => afterW_step ha hx)
  have HRow := hide (fun (k : Nat) l (hl : rs[k]? = some l) => row_sum hRl hl)
  have HP := hide (fun (k : Nat) => show rways rs zs (ws.take k) ≤ 481890304 from by
    have hle : (ws.take k).length ≤ ws.length := List.length_take_le' _ _
    exact Int.le_trans (rways_bound hRl hzl hm (fun x hx => hwm2 x (List.mem_of_mem_take hx)) (by omega)) (pow28 _ (by omega)))
  have HN := hide (fun (h : afterW rs zs ws = none) => rways_none h)
  have hrl := hide hRl.len
  have hd0 := hide (show DrawnAt rs zs ws 0 1 zs from ⟨rfl, by decide, by decide, fun y hy => by have := hm y hy; omega, .inl ⟨by decide, rfl, rfl⟩⟩)
  obtain ⟨W0, hW0⟩ : ∃ W0, Hid (((w.alloc (.cells #[.slice A n c, .int .i64 1] 91)).alloc (.cells #[.slice none 0 0, .int .i64 0] 91)).alloc (.cells #[.slice A n c, .int .i64 1] 91) = W0) := ⟨_, hide rfl⟩
  have hq0 := hide (show Below w.heap.size w W0 by rw [← hW0.out]; exact ((al w _).alloc (by simp) _).alloc (by simp; omega) _)
  have ht2 := hide (show Two W0 (w.heap.size + 2) (.slice A n c) (.int .i64 1) by rw [← hW0.out]; have := Two.made ((w.alloc (.cells #[.slice A n c, .int .i64 1] 91)).alloc (.cells #[.slice none 0 0, .int .i64 0] 91)) (.slice A n c) (.int .i64 1) 91; simpa using this)
  have ht1 := hide (show Two W0 (w.heap.size + 1) (.slice none 0 0) (.int .i64 0) by
    rw [← hW0.out]
    have := Two.made (w.alloc (.cells #[.slice A n c, .int .i64 1] 91)) (.slice none 0 0) (.int .i64 0) 91
    rw [show (w.alloc (.cells #[.slice A n c, .int .i64 1] 91)).heap.size = w.heap.size + 1 by simp] at this
    exact this.below (B := w.heap.size + 2) ((Below.refl _ _).alloc (by simp) _) (by omega))
  have ho0 := hide (show Own W0 base (.slice A n c) zs from ho.below hq0.out (Nat.le_refl _))
  have hoff := hide (Off.of_own_lt ho (show w.heap.size ≤ w.heap.size + 2 by omega))
  have hoff1 := hide (Off.of_own_lt ho (show w.heap.size ≤ w.heap.size + 1 by omega))
  clear hm hRl hwm hwm2 hzl h6 ho
  go_enter Tryd.func99, Tryd.ntmps99
  go_wp2_with fail
  rw [hW0.out]
  clear hW0
  go_loopw [13] (fun i wr => ∃ k : Nat, ∃ A₂ n₂ c₂ us, ∃ P : Int, k ≤ n' ∧ i = .int .i64 k ∧ Hid (Two wr (w.heap.size + 2) (.slice A₂ n₂ c₂) (.int .i64 P)) ∧ Hid (Two wr (w.heap.size + 1) (.slice none 0 0) (.int .i64 0)) ∧ Hid (Own wr base (.slice A₂ n₂ c₂) us) ∧ Hid (Off A₂ n₂ c₂ (w.heap.size + 2)) ∧ Hid (Off A₂ n₂ c₂ (w.heap.size + 1)) ∧ Hid (DrawnAt rs zs ws k P us) ∧ Hid (Below w.heap.size w wr)) (fun i _ => n' - (intOf i).toNat)
  case atStart => exact ⟨0, _, _, _, zs, 1, Nat.zero_le _, rfl, ht2, ht1, ho0, hoff, hoff1, hd0, hq0⟩
  case round =>
    clear ht2 ht1 ho0 hoff hoff1 hd0 hq0
    obtain ⟨k, A₂, n₂, c₂, us, P, hk, rfl, t2, t1, ho, hoff, hoff1, hd, hb⟩ := hrel
    obtain ⟨m20, m21, m22, m23, hz2⟩ := t2.out
    by_cases hlt : k < n'
    · have hs := hb.out.size
      have hgr := hide ((hb.out.cell (p := ⟨g, 0, none⟩) hgs).trans hg)
      obtain ⟨b, off, x, hA, hbB, hx, hcell⟩ := (h'.below (hb.out.mono hB')).look hlt
      subst hA
      obtain ⟨x0, x1⟩ := HC.out k x hx.out
      obtain ⟨X, rfl⟩ : ∃ X : Nat, x = (X : Int) := ⟨x.toNat, by omega⟩
      have hul := hide (show us.length = n by rw [hd.out.len, hl.out])
      have hX : X < us.length := by have := hul.out; omega
      obtain ⟨y, hy⟩ : ∃ y, Hid (us[X]? = some y) := ⟨_, hide (List.getElem?_eq_getElem hX)⟩
      obtain ⟨l, hr⟩ : ∃ l, Hid (rs[X]? = some l) := ⟨_, hide (List.getElem?_eq_getElem (by have := hrl.out; omega))⟩
      have hby : ballsAt us (X : Int) = y := ballsAt_eq (by simpa using hy.out)
      have hrow : rowOf rs X = l := by unfold rowOf; rw [hr.out]; rfl
      by_cases hPy : P * y = 0
      · have hd1 := hide (show DrawnAt rs zs ws (k + 1) 0 us from ⟨hd.out.len, by decide, by decide, hd.out.bd, .inr ⟨rfl, by
          rcases hd.out.at_ with h | h
          · refine HN.out ((HStep.out k _ us h.2.1 hx.out).1 ?_).1
            rw [hby]
            rcases Int.mul_eq_zero.1 hPy with h0 | h0
            · omega
            · omega
          · exact h.2⟩⟩)
        have HA := hide (drawStep0_c A₂ n₂ c₂ _ g X us P y wr ho.out.ints (Nat.le_refl _) hy.out hPy)
        clear hPy hby hrow
        go_wp2_with fail
        refine HA.out.mono ?_
        rintro e w1 ⟨rfl, hq⟩
        have t2b := t2.out.below hq hz2
        obtain ⟨m30, m31, m32, m33, hz3⟩ := t2b
        have t2c := hide ((show Two w1 (w.heap.size + 2) (.slice A₂ n₂ c₂) (.int .i64 P) from ⟨m30, m31, m32, m33, hz3⟩).set2 (.slice A₂ n₂ c₂) (.int .i64 0))
        have t1c := hide (((t1.out.below hq (Nat.lt_of_succ_lt hz2)).setOther (a := ⟨w.heap.size + 2, 0, none⟩) (by simp) (.slice A₂ n₂ c₂)).setOther (a := ⟨w.heap.size + 2, 1, none⟩) (by simp) (.int .i64 0))
        have ho3 := hide (((ho.out.below hq (Nat.le_refl _)).setOther (a := ⟨w.heap.size + 2, 0, none⟩) hoff.out (.slice A₂ n₂ c₂)).setOther (a := ⟨w.heap.size + 2, 1, none⟩) hoff.out (.int .i64 0))
        have hb3 := hide (((hb.out.trans (hq.mono hs)).setCell (p := ⟨w.heap.size + 2, 0, none⟩) (Nat.le_add_right _ _) (.slice A₂ n₂ c₂)).setCell (p := ⟨w.heap.size + 2, 1, none⟩) (Nat.le_add_right _ _) (.int .i64 0))
        clear hq HA ho hb t2 t1 m20 m21
        go_wp2_with fail
        go_roundw
        case rel => exact ⟨k + 1, _, _, _, us, 0, by omega, by go_num, t2c, t1c, ho3, hoff, hoff1, hd1, hb3⟩
        case measure => simp [intOf]; omega
      · have hat : 0 < P ∧ afterW rs zs (ws.take k) = some us ∧ P = rways rs zs (ws.take k) := by
          rcases hd.out.at_ with h | h
          · exact h
          · exact absurd (by rw [h.1, Int.zero_mul]) hPy
        obtain ⟨a1, a2, a3⟩ := hat
        obtain ⟨t21, t22⟩ := HT.out k us a2
        obtain ⟨y0, y1⟩ := t22 y (List.mem_of_getElem? hy.out)
        have hyn : ¬ y < 1 := by
          intro h
          have : y = 0 := by omega
          exact hPy (by rw [this, Int.mul_zero])
        obtain ⟨s1, s2⟩ := (HStep.out k _ us a2 hx.out).2 (by rw [hby]; omega)
        rw [show ((X : Int)).toNat = X by omega, hrow] at s1
        rw [hby, ← a3] at s2
        have hpos : 0 < P * y := Int.mul_pos a1 (by omega)
        have hle := HP.out (k + 1)
        rw [s2] at hle
        obtain ⟨t31, t32⟩ := HT.out (k + 1) _ s1
        obtain ⟨r1, r2, _, _⟩ := HRow.out X l hr.out
        have hd1 := hide (show DrawnAt rs zs ws (k + 1) (P * y) (addL us l) from ⟨by rw [t31, hl.out], by omega, hle, fun z hz => by have := t32 z hz; omega, .inl ⟨hpos, s1, s2.symm⟩⟩)
        have hnn := hide (show n = n₂ by rw [ho.out.len, hul.out])
        have HA := hide (drawStep_c A₂ A1 n₂ c₂ _ n1 c1 B1 g X us l rs P y wr ho.out.ints (Nat.le_refl _) (h1.below (hb.out.mono hB1)) (Nat.le_trans hB1 hs) hgr.out (Nat.lt_of_lt_of_le hgs hs) hy.out hr.out (by rw [r1]; exact hnn.out) hpos (by omega) (by have := hnn.out; omega) hd.out.bd (fun z hz => by have := r2 z hz; omega))
        obtain ⟨Q, hQ⟩ : ∃ Q, Hid (P * y = Q) := ⟨_, hide rfl⟩
        rw [hQ.out] at HA hd1
        clear hPy hby hrow s1 s2 t21 t22 t31 t32 r1 r2 a2 a3 hle hpos
        go_wp2_with fail
        refine HA.out.mono ?_
        rintro e w1 ⟨A₃, n₃, c₃, rfl, hoo, hq⟩
        have t2b := t2.out.below hq hz2
        obtain ⟨m30, m31, m32, m33, hz3⟩ := t2b
        have t2c := hide ((show Two w1 (w.heap.size + 2) (.slice A₂ n₂ c₂) (.int .i64 P) from ⟨m30, m31, m32, m33, hz3⟩).set2 (.slice A₃ n₃ c₃) (.int .i64 Q))
        have t1c := hide (((t1.out.below hq (Nat.lt_of_succ_lt hz2)).setOther (a := ⟨w.heap.size + 2, 0, none⟩) (by simp) (.slice A₃ n₃ c₃)).setOther (a := ⟨w.heap.size + 2, 1, none⟩) (by simp) (.int .i64 Q))
        have hoff2 := hide (Off.of_own hoo hz2)
        have hoff3 := hide (Off.of_own hoo (Nat.lt_of_succ_lt hz2))
        have ho3 := hide ((((hoo.down (Nat.le_trans hbs hs)).setOther (a := ⟨w.heap.size + 2, 0, none⟩) hoff2.out (.slice A₃ n₃ c₃)).setOther (a := ⟨w.heap.size + 2, 1, none⟩) hoff2.out (.int .i64 Q)))
        have hb3 := hide (((hb.out.trans (hq.mono hs)).setCell (p := ⟨w.heap.size + 2, 0, none⟩) (Nat.le_add_right _ _) (.slice A₃ n₃ c₃)).setCell (p := ⟨w.heap.size + 2, 1, none⟩) (Nat.le_add_right _ _) (.int .i64 Q))
        clear hq HA ho hb t2 t1 m20 m21 hoo
        go_wp2_with fail
        go_roundw
        case rel => exact ⟨k + 1, _, _, _, _, Q, by omega, by go_num, t2c, t1c, ho3, hoff2, hoff3, hd1, hb3⟩
        case measure => simp [intOf]; omega
    · obtain ⟨m10, m11, m12, m13, hz1⟩ := t1.out
      have hkn := hide (show ws.length = k by have := hl'.out; omega)
      go_wp2_with fail
      exact bodyPost_ret (v := .agg #[.slice A₂ n₂ c₂, .int .i64 P]) (by simp [results, Tryd.results99, go_sem, m10, m11]) rfl ⟨A₂, n₂, c₂, us, P, rfl, by rw [hkn.out]; exact hd.out, (ho.out.setOther (a := ⟨w.heap.size + 1, 0, none⟩) hoff1.out _).setOther (a := ⟨w.heap.size + 1, 1, none⟩) hoff1.out _, (hb.out.setCell (Nat.le_succ _) _).setCell (Nat.le_succ _) _⟩

set_option maxHeartbeats 1600000 in
theorem drawnRule_c (A A1 A' : Option Addr) (n c B n1 c1 B1 n' c' B' : Nat) (zs : List Int) (rs : List (List Int)) (ws : List Int) (w : World) (h : Ints w B A n c zs) (h1 : Mat w B1 A1 n1 c1 rs) (h' : Ints w B' A' n' c' ws) (hB : B ≤ w.heap.size) (hB1 : B1 ≤ w.heap.size) (hB' : B' ≤ w.heap.size) (hm : ∀ y ∈ zs, 0 ≤ y ∧ y ≤ 10) (hRl : Rule n rs) (hw6 : n' ≤ 6) (hwm : ∀ x ∈ ws, 0 ≤ x ∧ x < (n : Int)) :
    Calls Tryd.prog 66 #[.slice A n c, .slice A1 n1 c1, .slice A' n' c'] w fun e w' => ∃ A₂ n₂ c₂ us P, e = .returned (.agg #[.slice A₂ n₂ c₂, .int .i64 P]) ∧ DrawnAt rs zs ws ws.length P us ∧ Own w' w.heap.size (.slice A₂ n₂ c₂) us ∧ Below w.heap.size w w' := by
  have hn1 := hRl.pos
  have hn3 := hRl.le
  have hc := hide (fun (W : World) (hq : Below w.heap.size w W) (hs : w.heap.size + 2 ≤ W.heap.size) => clone_c A n c B zs W (h.below (hq.mono hB)) (by omega) (by omega) (by omega))
  obtain ⟨W0, hW0⟩ : ∃ W0, Hid ((w.alloc (.cells #[.slice A1 n1 c1] 57)).alloc (.cells #[.slice none 0 0, .int .i64 0] 91) = W0) := ⟨_, hide rfl⟩
  have hq0 := hide (show Below w.heap.size w W0 by rw [← hW0.out]; exact (al w _).alloc (by simp) _)
  have hz0 := hide (show W0.heap.size = w.heap.size + 2 by rw [← hW0.out]; simp)
  have hc0 := hide (show W0.cell? ⟨w.heap.size, 0, none⟩ = some (.slice A1 n1 c1) by rw [← hW0.out]; simp)
  have ht1 := hide (show Two W0 (w.heap.size + 1) (.slice none 0 0) (.int .i64 0) by
    rw [← hW0.out]
    have := Two.made (w.alloc (.cells #[.slice A1 n1 c1] 57)) (.slice none 0 0) (.int .i64 0) 91
    rwa [show (w.alloc (.cells #[.slice A1 n1 c1] 57)).heap.size = w.heap.size + 1 by simp] at this)
  have HC := hide (hc.out W0 hq0.out (by have := hz0.out; omega))
  go_enter Tryd.func66, Tryd.ntmps66
  go_wp2_with fail
  rw [hW0.out]
  refine HC.out.mono ?_
  rintro e w1 ⟨A4, n4, c4, rfl, ho, hb⟩
  obtain rfl : n4 = n := by rw [ho.len, h.len]
  have hb0 := hide (hq0.out.trans (hb.mono (by have := hz0.out; omega)))
  have hs1 := hide (show w.heap.size + 2 ≤ w1.heap.size by have := hb.size; have := hz0.out; omega)
  have t1 := hide (ht1.out.below hb (by have := hz0.out; omega))
  have HF := hide (foldDrawn_c A4 A1 A' n4 c4 n1 c1 B1 n' c' B' w.heap.size W0.heap.size zs rs ws w1 ho hb.size (h1.below (hb0.out.mono hB1)) (h'.below (hb0.out.mono hB')) (by have := hs1.out; omega) (by have := hs1.out; omega) ((hb.cell (p := ⟨w.heap.size, 0, none⟩) (show w.heap.size < W0.heap.size by have := hz0.out; omega)).trans hc0.out) (by have := hs1.out; omega) hm hRl hw6 hwm)
  clear hm hRl hwm hb ho
  go_wp2_with fail
  refine HF.out.mono ?_
  rintro e w2 ⟨A5, n5, c5, us, P, rfl, hd, ho, hb⟩
  have hd := hide hd
  have hw0 := hide (show W0.heap.size = w.heap.size + 2 from hz0.out)
  obtain ⟨m10, m11, m12, m13, hz1⟩ := t1.out.below hb (by have := hs1.out; omega)
  have ho3 := hide (((ho.setBelow (a := ⟨w.heap.size + 1, 0, none⟩) (show w.heap.size + 1 < W0.heap.size by have := hw0.out; omega) (.slice A5 n5 c5)).setBelow (a := ⟨w.heap.size + 1, 1, none⟩) (show w.heap.size + 1 < W0.heap.size by have := hw0.out; omega) (.int .i64 P)).down (show w.heap.size ≤ W0.heap.size by have := hw0.out; omega))
  have hb3 := hide (((hb0.out.trans (hb.mono (by have := hs1.out; omega))).setCell (p := ⟨w.heap.size + 1, 0, none⟩) (Nat.le_succ _) (.slice A5 n5 c5)).setCell (p := ⟨w.heap.size + 1, 1, none⟩) (Nat.le_succ _) (.int .i64 P))
  clear ho hb hb0 t1 HF
  go_wp2_with fail
  exact bodyPost_ret (v := .agg #[.slice A5 n5 c5, .int .i64 P]) (by simp [results, Tryd.results66, go_sem, m10, m11]) rfl ⟨A5, n5, c5, us, P, rfl, hd.out, ho3.out, hb3.out⟩

theorem DrawnAt.ways {rs : List (List Int)} {zs ws us : List Int} {P : Int} (h : DrawnAt rs zs ws ws.length P us) : P = rways rs zs ws := by
  rcases h.at_ with h1 | h1
  · have := h1.2.2
    rwa [List.take_length] at this
  · rw [h1.1, h1.2]
theorem DrawnAt.urn {rs : List (List Int)} {zs ws us : List Int} {P : Int} (h : DrawnAt rs zs ws ws.length P us) (hP : P ≠ 0) : afterW rs zs ws = some us := by
  rcases h.at_ with h1 | h1
  · have := h1.2.1
    rwa [List.take_length] at this
  · exact absurd h1.1 hP
theorem DrawnAt.none_ {rs : List (List Int)} {zs ws us : List Int} (h : DrawnAt rs zs ws ws.length 0 us) : afterW rs zs ws = none := by
  have h0 := h.ways
  cases ha : afterW rs zs ws with
  | none => rfl
  | some vs => have := rways_some ha; omega

set_option maxHeartbeats 800000 in
theorem afterWord_impl (A A1 A' : Option Addr) (n c B n1 c1 B1 n' c' B' : Nat) (zs : List Int) (rs : List (List Int)) (ws : List Int) (w : World) (h : Ints w B A n c zs) (h1 : Mat w B1 A1 n1 c1 rs) (h' : Ints w B' A' n' c' ws) (hB : B ≤ w.heap.size) (hB1 : B1 ≤ w.heap.size) (hB' : B' ≤ w.heap.size) :
    Calls Tryd.prog 27 #[.slice A n c, .slice A1 n1 c1, .slice A' n' c'] w fun e w' => ∃ A₂ n₂ c₂, e = .returned (.tuple #[.slice A₂ n₂ c₂, .bool (afterOk zs rs ws)]) ∧ Own w' w.heap.size (.slice A₂ n₂ c₂) (afterL zs rs ws) ∧ Below w.heap.size w w' := by
  have hl := hide h.len
  have hl' := hide h'.len
  have HG := hide (begins_c _ _ _ _ _ _ _ _ _ _ w h h1)
  have HW := hide (wordOk_impl0 (n : Int) _ _ _ _ _ w h')
  have he0 := hide (show afterC zs rs ws = (begun zs rs && wordOk (n : Int) ws) by unfold afterC; rw [hl.out])
  by_cases o1 : begun zs rs = true
  · rw [o1] at HG
    by_cases o2 : wordOk (n : Int) ws = true
    · rw [o2] at HW
      have hok : afterC zs rs ws = true := by rw [he0.out, o1, o2]; rfl
      obtain ⟨_, hm, hRl, hw6, hwm⟩ := afterC_yes hok
      rw [hl.out] at hRl
      have hyes := hide (fun us (e : afterW rs zs ws = some us) => afterL_yes hok e)
      have HD := hide (drawnRule_c _ _ _ _ _ _ _ _ _ _ _ _ zs rs ws w h h1 h' hB hB1 hB' hm hRl (by have := hl'.out; omega) (fun x hx => by have := hwm x hx; have := hl.out; omega))
      clear o1 o2 hok hm hRl hw6 hwm
      go_enter Tryd.func27, Tryd.ntmps27
      go_wp2_with (first | (go_at_call 64; refine (HG.out).mono ?_; rintro e w' ⟨rfl, rfl⟩) | (go_at_call 65; refine (HW.out).mono ?_; rintro e w' ⟨rfl, rfl⟩))
      refine HD.out.mono ?_
      rintro e w1 ⟨A₂, n₂, c₂, us, P, rfl, hd, ho, hq⟩
      by_cases hP : P = 0
      · subst hP
        obtain ⟨e1, e2⟩ := afterL_no (zs := zs) (rs := rs) (ws := ws) hd.none_
        have e1 := hide e1
        have e2 := hide e2
        have hq2 := hide (hq.alloc hq.size (.cells #[.slice A₂ n₂ c₂, .int .i64 0] 91))
        clear hd ho hq
        go_wp2_with fail
        go_ret2
        exact ⟨_, _, _, ret_sb e2.out.symm, by rw [e1.out]; exact Own.none_, hq2.out⟩
      · obtain ⟨e1, e2⟩ := hyes.out us (hd.urn hP)
        have e1 := hide e1
        have e2 := hide e2
        have hP2 : (P == 0) = false := beq_false_of_ne hP
        have hq2 := hide (hq.alloc hq.size (.cells #[.slice A₂ n₂ c₂, .int .i64 P] 91))
        have ho2 := hide (ho.below (al w1 (.cells #[.slice A₂ n₂ c₂, .int .i64 P] 91)) (Nat.le_refl _))
        clear hd hP ho hq
        go_wp2_with fail
        go_ret2
        exact ⟨_, _, _, ret_sb e2.out.symm, by rw [e1.out]; exact ho2.out, hq2.out⟩
    · have o2 : wordOk (n : Int) ws = false := by simpa using o2
      rw [o2] at HW
      obtain ⟨e1, e2⟩ := afterL_not (zs := zs) (rs := rs) (ws := ws) (by rw [he0.out, o2, Bool.and_false])
      have e1 := hide e1
      have e2 := hide e2
      clear o1 o2
      go_enter Tryd.func27, Tryd.ntmps27
      go_wp2_with (first | (go_at_call 64; refine (HG.out).mono ?_; rintro e w' ⟨rfl, rfl⟩) | (go_at_call 65; refine (HW.out).mono ?_; rintro e w' ⟨rfl, rfl⟩))
      go_ret2
      exact ⟨_, _, _, ret_sb e2.out.symm, by rw [e1.out]; exact Own.none_, Below.refl _ _⟩
  · have o1 : begun zs rs = false := by simpa using o1
    rw [o1] at HG
    obtain ⟨e1, e2⟩ := afterL_not (zs := zs) (rs := rs) (ws := ws) (by rw [he0.out, o1]; rfl)
    have e1 := hide e1
    have e2 := hide e2
    clear o1
    go_enter Tryd.func27, Tryd.ntmps27
    go_wp2_with (first | (go_at_call 64; refine (HG.out).mono ?_; rintro e w' ⟨rfl, rfl⟩))
    go_ret2
    exact ⟨_, _, _, ret_sb e2.out.symm, by rw [e1.out]; exact Own.none_, Below.refl _ _⟩
end Go.Proofs.YtoafpokcbbncfaaDoor

namespace Go.Proofs.YtoafpokcbbncfaaDoor
open Go.RowKit
end Go.Proofs.YtoafpokcbbncfaaDoor
