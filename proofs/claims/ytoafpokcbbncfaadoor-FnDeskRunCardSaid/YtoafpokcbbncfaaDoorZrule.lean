/-
  Words, plain lemmas and contracts that belong together, joined into one file.
-/
import Derived.Test.YtoafpokcbbncfaaDoorZoks
import Derived.Test.YtoafpokcbbncfaaDoorZpl
import Derived.Test.YtoafpokcbbncfaaDoorZword
import Derived.Deep.QuietTactic
import Derived.BigQuiet
import Derived.Deep.RegionWith
import Derived.Test.YtoafpokcbbncfaaDoorZdraw
namespace Go.Proofs.YtoafpokcbbncfaaDoor
open Go.RowKit

def entP (i j : Nat) (x : Int) : Prop := (0 ≤ x ∧ x ≤ 3) ∨ (x = -1 ∧ j = i)
theorem ruleOk_not {c : Int} {rs : List (List Int)} (h : c < 1 ∨ 3 < c ∨ (rs.length : Int) ≠ c ∨ (∃ (k : Nat) (l : List Int), rs[k]? = some l ∧ ((l.length : Int) ≠ c ∨ ∃ (j : Nat) (x : Int), l[j]? = some x ∧ ¬ entP k j x))) : ruleOk c rs = false := by
  rw [Bool.eq_false_iff]
  intro hh
  obtain ⟨h1, h2⟩ := ruleOk_yes hh
  have p1 := h2.pos; have p2 := h2.le; have p3 := h2.len
  rcases h with h | h | h | ⟨k, l, hl, h⟩
  · omega
  · omega
  · omega
  · obtain ⟨q1, q2⟩ := h2.rows k l hl
    rcases h with h | ⟨j, x, hx, h⟩
    · omega
    · exact h (q2 j x hx)
theorem ruleOk_all {c : Int} {rs : List (List Int)} (h1 : 1 ≤ c) (h3 : c ≤ 3) (hl : (rs.length : Int) = c) (h : ∀ (k : Nat) l, rs[k]? = some l → (l.length : Int) = c ∧ ∀ (j : Nat) x, l[j]? = some x → entP k j x) : ruleOk c rs = true := by
  obtain ⟨C, rfl⟩ : ∃ C : Nat, c = (C : Int) := ⟨c.toNat, by omega⟩
  exact ruleOk_mk ⟨by omega, by omega, by omega, fun k l hk => ⟨by have := (h k l hk).1; omega, (h k l hk).2⟩⟩

set_option maxHeartbeats 1600000 in
theorem ruleOk_spec (cl : Int) (A : Option Addr) (n c B : Nat) (rs : List (List Int)) (w : World) (h : Mat w B A n c rs) :
    Calls Tryd.prog 110 #[.int .i64 cl, .slice A n c] w fun e w' => e = .returned (.bool (ruleOk cl rs)) ∧ w = w' := by
  have hl := hide h.len
  have hn := h.nb
  go_enter Tryd.func110, Tryd.ntmps110
  go_wp2
  go_loop [5, 6] (fun i _ => ∃ k : Nat, k ≤ n ∧ i = .int .i64 k ∧ Hid (∀ (i : Nat) l, i < k → rs[i]? = some l → (l.length : Int) = cl ∧ ∀ (j : Nat) x, l[j]? = some x → entP i j x)) (fun i _ => n - (intOf i).toNat)
  case atStart => exact ⟨0, Nat.zero_le _, rfl, fun i l hi _ => absurd hi (by omega)⟩
  case round =>
    obtain ⟨k, hk, rfl, hall⟩ := hrel
    by_cases hlt : k < n
    · obtain ⟨b, off, l, A', n', c', rfl, hb, hx, hcell, hrow⟩ := h.look hlt
      have hll := hide hrow.out.len
      have hn' := hrow.out.nb
      by_cases hlen : (n' : Int) = cl
      · subst hlen
        have hle := hide (show (n' : Int) = (n' : Int) from rfl)
        go_wp2
        go_loop [6] (fun i => ∃ j : Nat, j ≤ n' ∧ i = .int .i64 j ∧ Hid (∀ (i : Nat) x, i < j → l[i]? = some x → entP k i x)) (fun i => n' - (intOf i).toNat)
        case atStart => exact ⟨0, Nat.zero_le _, rfl, fun i l hi _ => absurd hi (by omega)⟩
        case round =>
          obtain ⟨j, hj, rfl, hin⟩ := hrel
          by_cases hjt : j < n'
          · obtain ⟨b', off', x, rfl, hb', hy, hcell'⟩ := hrow.out.look hjt
            have hno := hide (fun (hne : ¬ entP k j x) => ruleOk_not (c := (n' : Int)) (rs := rs) (.inr (.inr (.inr ⟨k, l, hx.out, .inr ⟨j, x, hy.out, hne⟩⟩))))
            have hnx := hide (fun (he : entP k j x) => show ∀ (i : Nat) y, i < j + 1 → l[i]? = some y → entP k i y from fun i y hi hy2 => by
              rcases Nat.lt_or_ge i j with hij | hij
              · exact hin.out i y hij hy2
              · obtain rfl : i = j := by omega
                rw [hy.out] at hy2; injection hy2 with hy2; subst hy2; exact he)
            by_cases hx03 : 0 ≤ x ∧ x ≤ 3
            · have hd : decide (0 ≤ x ∧ x ≤ 3) = true := decide_eq_true hx03
              have hgo := hide (hnx.out (.inl hx03))
              clear hx03
              go_wp2_with (go_at_call 80; refine (l1In_c _ _ _ _).mono ?_; rintro e w' ⟨rfl, rfl⟩)
              go_round
              case rel => exact ⟨j + 1, by omega, by go_num, hgo⟩
              case measure => simp [intOf]; omega
            · have hd : decide (0 ≤ x ∧ x ≤ 3) = false := decide_eq_false hx03
              by_cases hm : x = -1
              · subst hm
                by_cases hjk : j = k
                · have hgo := hide (hnx.out (.inr ⟨rfl, hjk⟩))
                  subst hjk
                  clear hx03
                  go_wp2_with (go_at_call 80; refine (l1In_c _ _ _ _).mono ?_; rintro e w' ⟨rfl, rfl⟩)
                  go_round
                  case rel => exact ⟨j + 1, by omega, by go_num, hgo⟩
                  case measure => simp [intOf]; omega
                · have hbad := hide (hno.out (fun h => by rcases h with h | h; (· exact hx03 h); (· exact hjk h.2)))
                  have hjk2 : ((j : Int) == (k : Int)) = false := by simp; omega
                  clear hx03 hjk
                  go_wp2_with (go_at_call 80; refine (l1In_c _ _ _ _).mono ?_; rintro e w' ⟨rfl, rfl⟩)
                  go_ret
                  exact ⟨ret_bool hbad.out.symm, rfl⟩
              · have hbad := hide (hno.out (fun h => by rcases h with h | h; (· exact hx03 h); (· exact hm h.1)))
                have hm2 : (x == -1) = false := by simpa using hm
                clear hx03 hm
                go_wp2_with (go_at_call 80; refine (l1In_c _ _ _ _).mono ?_; rintro e w' ⟨rfl, rfl⟩)
                go_ret
                exact ⟨ret_bool hbad.out.symm, rfl⟩
          · have hjn : n' = j := by omega
            subst hjn
            have hrowk := hide (show ∀ (i : Nat) l', i < k + 1 → rs[i]? = some l' → (l'.length : Int) = (n' : Int) ∧ ∀ (j : Nat) x, l'[j]? = some x → entP i j x from fun i l' hi hl' => by
              rcases Nat.lt_or_ge i k with hik | hik
              · exact hall.out i l' hik hl'
              · obtain rfl : i = k := by omega
                rw [hx.out] at hl'; injection hl' with hl'; subst hl'
                exact ⟨by have := hll.out; have := hle.out; omega, fun j2 x2 hx2 => hin.out j2 x2 (by have := (List.getElem?_eq_some_iff.1 hx2).1; have := hll.out; omega) hx2⟩)
            go_wp2
            go_round
            case rel => exact ⟨k + 1, by omega, by go_num, hrowk⟩
            case measure => simp [intOf]; omega
      · have hne : ((n' : Int) != cl) = true := by simpa using hlen
        have hy := hide (ruleOk_not (c := cl) (rs := rs) (.inr (.inr (.inr ⟨k, l, hx.out, .inl (by have := hll.out; omega)⟩))))
        clear hlen
        go_wp2
        go_ret
        exact ⟨ret_bool hy.out.symm, rfl⟩
    · have hall2 := hide (fun (i : Nat) l (hx : rs[i]? = some l) => hall.out i l (by have := (List.getElem?_eq_some_iff.1 hx).1; have := hl.out; omega) hx)
      by_cases hc : 1 ≤ cl ∧ cl ≤ 3
      · have hd : decide (1 ≤ cl ∧ cl ≤ 3) = true := decide_eq_true hc
        by_cases hcn : (n : Int) = cl
        · have hy := hide (ruleOk_all hc.1 hc.2 (by have := hl.out; omega) hall2.out)
          have hdn : ((n : Int) == cl) = true := by simpa using hcn
          clear hc hcn
          go_wp2_with (go_at_call 80; refine (l1In_c _ _ _ _).mono ?_; rintro e w' ⟨rfl, rfl⟩)
          go_ret
          exact ⟨ret_bool (by rw [hy.out]; try simp), rfl⟩
        · have hy := hide (ruleOk_not (c := cl) (rs := rs) (.inr (.inr (.inl (by have := hl.out; omega)))))
          have hdn : ((n : Int) == cl) = false := by simpa using hcn
          clear hc hcn
          go_wp2_with (go_at_call 80; refine (l1In_c _ _ _ _).mono ?_; rintro e w' ⟨rfl, rfl⟩)
          go_ret
          exact ⟨ret_bool (by rw [hy.out]; try simp), rfl⟩
      · have hd : decide (1 ≤ cl ∧ cl ≤ 3) = false := decide_eq_false hc
        have hy := hide (ruleOk_not (c := cl) (rs := rs) (by omega))
        clear hc
        go_wp2_with (go_at_call 80; refine (l1In_c _ _ _ _).mono ?_; rintro e w' ⟨rfl, rfl⟩)
        go_ret
        exact ⟨ret_bool (by rw [hy.out]; try simp), rfl⟩
end Go.Proofs.YtoafpokcbbncfaaDoor

namespace Go.Proofs.YtoafpokcbbncfaaDoor
open Go.RowKit

set_option maxHeartbeats 400000 in
theorem startOk_spec (A : Option Addr) (n c B : Nat) (zs : List Int) (w : World) (h : Ints w B A n c zs) :
    Calls Tryd.prog 79 #[.slice A n c] w fun e w' => e = .returned (.bool (startOk zs)) ∧ w = w' := by
  have hl := hide h.len
  have hn := h.nb
  have HI := hide (urnOk_spec _ _ _ _ _ w h)
  go_enter Tryd.func79, Tryd.ntmps79
  go_wp2
  go_loop [3] (fun i => ∃ k : Nat, k ≤ n ∧ i = .int .i64 k ∧ Hid (∀ (j : Nat) x, j < k → zs[j]? = some x → x ≤ 10)) (fun i => n - (intOf i).toNat)
  case atStart => exact ⟨0, Nat.zero_le _, rfl, fun j x hj _ => absurd hj (by omega)⟩
  case round =>
    obtain ⟨k, hk, rfl, hall⟩ := hrel
    by_cases hlt : k < n
    · obtain ⟨b, off, x, rfl, hb, hx, hcell⟩ := h.look hlt
      by_cases hx10 : 10 < x
      · have hbad := hide (startOk_bad hx.out hx10)
        go_wp2
        go_ret
        exact ⟨ret_bool hbad.out.symm, rfl⟩
      · have hnx := hide (show ∀ (j : Nat) y, j < k + 1 → zs[j]? = some y → y ≤ 10 from fun j y hj hy => by
          rcases Nat.lt_or_ge j k with hjk | hjk
          · exact hall.out j y hjk hy
          · obtain rfl : j = k := by omega
            rw [hx.out] at hy; injection hy with hy; omega)
        go_wp2
        go_round
        case rel => exact ⟨k + 1, by omega, by go_num, hnx⟩
        case measure => simp [intOf]; omega
    · have hst := hide (show startOk zs = urnOk zs by
        by_cases hu : urnOk zs = true
        · rw [hu]
          exact startOk_mk hu (fun z hz => by
            obtain ⟨j, hj, rfl⟩ := List.getElem_of_mem hz
            exact hall.out j _ (by have := hl.out; omega) (List.getElem?_eq_getElem hj))
        · unfold startOk
          rw [show urnOk zs = false by simpa using hu]; rfl)
      go_wp2_with (go_at_call 109; refine (HI.out).mono ?_; rintro e w' ⟨rfl, rfl⟩)
      go_ret
      exact ⟨ret_bool hst.out.symm, rfl⟩

set_option maxHeartbeats 800000 in
theorem l4After_c (A A1 : Option Addr) (n c B n1 c1 B1 col : Nat) (zs l : List Int) (rs : List (List Int)) (w : World) (h : Ints w B A n c zs) (h1 : Mat w B1 A1 n1 c1 rs) (hB : B ≤ w.heap.size) (hB1 : B1 ≤ w.heap.size) (hn3 : n ≤ 3) (hr : rs[col]? = some l) (hll : l.length = n) (hz : ∀ x ∈ zs, -100 ≤ x ∧ x ≤ 100) (hlz : ∀ x ∈ l, -100 ≤ x ∧ x ≤ 100) :
    Calls Tryd.prog 112 #[.slice A n c, .slice A1 n1 c1, .int .i64 col] w fun e w' => ∃ A₂ n₂ c₂, e = .returned (.slice A₂ n₂ c₂) ∧ Own w' w.heap.size (.slice A₂ n₂ c₂) (addL zs l) ∧ Below w.heap.size w w' := by
  have hl := hide h.len
  have hz2 := hide (addL_len (h.len.trans hll.symm))
  have hE := hide (fun (k : Nat) x (hx : zs[k]? = some x) => hz x (List.mem_of_getElem? hx))
  have hE' := hide (fun (k : Nat) x (hx : l[k]? = some x) => hlz x (List.mem_of_getElem? hx))
  have hcl : col < n1 := by have := (List.getElem?_eq_some_iff.1 hr).1; have := h1.len; omega
  have hrk := hide hr
  have hll := hide hll
  obtain ⟨i0, hi, hz0, hz1, hzb⟩ := info_parts infoInt
  clear hz hlz hr
  go_enter Tryd.func112, Tryd.ntmps112
  go_wp2
  go_loopw [7, 8] (fun v i wr => ∃ k : Nat, ∃ A₂ n₂ c₂, k ≤ n ∧ i = .int .i64 k ∧ v = .slice A₂ n₂ c₂ ∧ Hid (Own wr w.heap.size (.slice A₂ n₂ c₂) ((addL zs l).take k)) ∧ Below w.heap.size w wr) (fun _ i _ => n - (intOf i).toNat)
  case atStart => exact ⟨0, _, _, _, Nat.zero_le _, rfl, rfl, own_empty (Nat.le_refl _), below_empty (Below.refl _ _) _⟩
  case round =>
    obtain ⟨k, A₂, n₂, c₂, hk, rfl, rfl, ho, hb⟩ := hrel
    by_cases hlt : k < n
    · obtain ⟨b, off, x, rfl, hbB, hx, hcell⟩ := (h.below (hb.mono hB)).look hlt
      obtain ⟨b1, off1, m, A3, n3, c3, rfl, hbB1, hm, hcell1, hrow⟩ := (h1.below (hb.mono hB1)).look hcl
      obtain rfl : m = l := by have e1 := hm.out; have e2 := hrk.out; rw [e1] at e2; injection e2
      have hn3' : n3 = n := by rw [← hrow.out.len, hll.out]
      have hlt3 : k < n3 := by omega
      obtain ⟨b', off', x', rfl, hbB', hx', hcell'⟩ := hrow.out.look hlt3
      obtain ⟨hx3, hx4⟩ := hE.out k x hx.out
      obtain ⟨hx5, hx6⟩ := hE'.out k x' hx'.out
      have hsum : IntKind.i64.wrap (x + x') = x + x' := IntWalk.i64_in _ (by omega)
      have hs2 := hb.size
      have hlen2 : ((addL zs m).take k).length + 1 ≤ 1048576000 := by have := hz2.out; have := hl.out; rw [List.length_take]; omega
      have ha := hide (addL_at hx.out hx'.out)
      clear hrow
      go_wp2
      go_region_law (refine step_app _ rfl _ _ 22 rfl i0 Tryd.underlying22 hi hz0 hz1 hzb _ _ rfl (ho.out.alloc _).drew _ 1 1 _ [x + x'] rfl (ints_lit1 (wf_i64 (by omega))).drew (by simp; omega) hlen2 ?_; intro A₃ n₃ c₃ w3 ho3 hg3)
      all_goals
        clear hcell hcell' hcell1
        have ho4 := hide ho3
        have hb4 := hide ((hb.alloc hs2 (.cells #[.int .i64 (x + x')] 3)).drew.grown hg3 (by simp; omega) (fun q hq => (ho.out.row.lt q hq).1))
        clear ho3 hg3 hlen2
        go_wp2
        go_roundw
        case rel => exact ⟨k + 1, _, _, _, by omega, by go_num, rfl, by rw [take_succ ha.out]; exact ho4.out, hb4.out⟩
        case measure => simp [intOf]; omega
    · obtain rfl : k = n := by omega
      have ho2 := hide (show Own wr w.heap.size (.slice A₂ n₂ c₂) (addL zs l) by
        have := ho.out
        rwa [List.take_of_length_le (by have := hz2.out; have := hl.out; omega)] at this)
      go_wp2
      go_ret
      exact ⟨_, _, _, rfl, ho2.out, hb⟩
end Go.Proofs.YtoafpokcbbncfaaDoor

namespace Go.Proofs.YtoafpokcbbncfaaDoor
open Go.RowKit

theorem afterL_no {zs : List Int} {rs : List (List Int)} {ws : List Int} (h : afterW rs zs ws = none) : afterL zs rs ws = [] ∧ afterOk zs rs ws = false := by
  unfold afterL afterOk
  rw [h]
  refine ⟨by split <;> rfl, by simp⟩
theorem afterL_not {zs : List Int} {rs : List (List Int)} {ws : List Int} (h : afterC zs rs ws = false) : afterL zs rs ws = [] ∧ afterOk zs rs ws = false := by
  unfold afterL afterOk
  rw [h]
  exact ⟨rfl, rfl⟩
theorem afterL_yes {zs us : List Int} {rs : List (List Int)} {ws : List Int} (h : afterC zs rs ws = true) (h2 : afterW rs zs ws = some us) : afterL zs rs ws = us ∧ afterOk zs rs ws = true := by
  unfold afterL afterOk
  rw [h, h2]
  exact ⟨rfl, rfl⟩
theorem ret_sb {A : Option Addr} {n c : Nat} {x y : Bool} (k : x = y) : Ending.returned (.tuple #[.slice A n c, .bool x]) = .returned (.tuple #[.slice A n c, .bool y]) := by rw [k]
set_option maxHeartbeats 1600000 in
theorem afterWord_spec (A A1 A' : Option Addr) (n c B n1 c1 B1 n' c' B' : Nat) (zs : List Int) (rs : List (List Int)) (ws : List Int) (w : World) (h : Ints w B A n c zs) (h1 : Mat w B1 A1 n1 c1 rs) (h' : Ints w B' A' n' c' ws) (hB : B ≤ w.heap.size) (hB1 : B1 ≤ w.heap.size) (hB' : B' ≤ w.heap.size) :
    Calls Tryd.prog 81 #[.slice A n c, .slice A1 n1 c1, .slice A' n' c'] w fun e w' => ∃ A₂ n₂ c₂, e = .returned (.tuple #[.slice A₂ n₂ c₂, .bool (afterOk zs rs ws)]) ∧ Own w' w.heap.size (.slice A₂ n₂ c₂) (afterL zs rs ws) ∧ Below w.heap.size w w' := by
  have hl := hide h.len
  have hl' := hide h'.len
  have HS := hide (startOk_spec _ _ _ _ _ w h)
  have HR := hide (ruleOk_spec (n : Int) _ _ _ _ _ w h1)
  have HW := hide (wordOk_spec (n : Int) _ _ _ _ _ w h')
  by_cases hok : afterC zs rs ws = true
  · obtain ⟨hu, hm, hRl, hw6, hwm⟩ := afterC_yes hok
    have hyes := hide (fun us (e : afterW rs zs ws = some us) => afterL_yes hok e)
    have hnot := hide (fun (e : afterW rs zs ws = none) => afterL_no (zs := zs) (rs := rs) (ws := ws) e)
    rw [hl.out] at hRl
    unfold afterC begun at hok
    simp only [Bool.and_eq_true] at hok
    obtain ⟨⟨o1, o2⟩, o3⟩ := hok
    rw [hl.out] at o2 o3
    rw [o1] at HS
    rw [o2] at HR
    rw [o3] at HW
    have hn6 : n' ≤ 6 := by have := hl'.out; omega
    have hn3 : n ≤ 3 := hRl.le
    have HC := hide (fun (j : Nat) x (hx : ws[j]? = some x) => show 0 ≤ x ∧ x < (n : Int) from by have := hwm x (List.mem_of_getElem? hx); have := hl.out; omega)
    have HT := hide (fun (k : Nat) us (ha : afterW rs zs (ws.take k) = some us) => afterW_take hRl hl.out hm (fun x hx => by have := hwm x hx; have := hl.out; omega) hw6 ha)
    have HStep := hide (fun (k : Nat) x us (ha : afterW rs zs (ws.take k) = some us) (hx : ws[k]? = some x) => afterW_step ha hx)
    have HRow := hide (fun (k : Nat) l (hl : rs[k]? = some l) => row_sum hRl hl)
    have hrl := hide hRl.len
    obtain ⟨i0, hi, hz0, hz1, hz2⟩ := info_parts infoInt
    have hs0 := hide (show afterW rs zs (ws.take 0) = some zs from rfl)
    clear hu hm hRl hw6 hwm o1 o2 o3
    go_enter Tryd.func81, Tryd.ntmps81
    go_wp2_with (first | (go_at_call 79; refine (HS.out).mono ?_; rintro e w' ⟨rfl, rfl⟩) | (go_at_call 110; refine (HR.out).mono ?_; rintro e w' ⟨rfl, rfl⟩) | (go_at_call 111; refine (HW.out).mono ?_; rintro e w' ⟨rfl, rfl⟩) | (at_builtin; refine wpList_app _ rfl _ _ 22 rfl i0 Tryd.underlying22 hi hz0 hz1 hz2 _ _ rfl (own_empty (base := w.heap.size) (Nat.le_refl _)) _ n c _ zs rfl (h.alloc hB _) (by simp) (by simp; omega) ?_; intro A₂ n₂ c₂ w1 ho hg; have hb := hide ((below_empty (Below.refl _ _) _).grown hg (by simp) (fun k hk => Nat.le_of_eq (Option.some.inj hk))); have ho := hide ho; clear hg))
    have ho := hide (show Own w1 w.heap.size (.slice A₂ n₂ c₂) zs from ho.out)
    go_loopw [8, 9] (fun v i wr => ∃ k : Nat, ∃ A₂ n₂ c₂ us, k ≤ n' ∧ i = .int .i64 k ∧ v = .slice A₂ n₂ c₂ ∧ Hid (Own wr w.heap.size (.slice A₂ n₂ c₂) us) ∧ Hid (afterW rs zs (ws.take k) = some us) ∧ Hid (Below w.heap.size w wr)) (fun _ i _ => n' - (intOf i).toNat)
    case atStart => exact ⟨0, _, _, _, zs, Nat.zero_le _, rfl, rfl, ho, hs0, hb⟩
    case round =>
      clear ho hb hs0
      obtain ⟨k, A₂, n₂, c₂, us, hk, rfl, rfl, ho, ha, hb⟩ := hrel
      have hs := hb.out.size
      by_cases hlt : k < n'
      · obtain ⟨b, off, x, hA, hbB, hx, hcell⟩ := (h'.below (hb.out.mono hB')).look hlt
        subst hA
        obtain ⟨x0, x1⟩ := HC.out k x hx.out
        obtain ⟨X, rfl⟩ : ∃ X : Nat, x = (X : Int) := ⟨x.toNat, by omega⟩
        obtain ⟨t1, t2⟩ := HT.out k us ha.out
        have hn2 := ho.out.len
        rw [t1] at hn2
        subst hn2
        have hXn : X < n₂ := by omega
        obtain ⟨y, hy⟩ : ∃ y, Hid (us[X]? = some y) := ⟨_, hide (List.getElem?_eq_getElem (by omega))⟩
        obtain ⟨g, hA2, hg, hgl, hcy, hfy⟩ := ho.out.at2 hy.out
        subst hA2
        have hby : ballsAt us (X : Int) = y := ballsAt_eq (by simpa using hy.out)
        obtain ⟨s1, s2⟩ := HStep.out k _ us ha.out hx.out
        rw [hby] at s1 s2
        by_cases hy1 : y < 1
        · obtain ⟨e1, e2⟩ := hnot.out (s1 hy1).1
          have e1 := hide e1
          have e2 := hide e2
          clear s1 s2 t1 t2 hby
          go_wp2
          go_ret2
          exact ⟨_, _, _, ret_sb e2.out.symm, by rw [e1.out]; exact own_empty (by omega), below_empty hb.out _⟩
        · obtain ⟨l, hr⟩ : ∃ l, Hid (rs[X]? = some l) := ⟨_, hide (List.getElem?_eq_getElem (by have := hrl.out; omega))⟩
          obtain ⟨r1, r2, _, _⟩ := HRow.out X l hr.out
          have hrow : rowOf rs X = l := by unfold rowOf; rw [hr.out]; rfl
          have s3 := (s2 (by omega)).1
          rw [show ((X : Int)).toNat = X by omega, hrow] at s3
          have s3 := hide s3
          have HA := hide (l4After_c _ _ _ _ _ _ _ _ X us l rs wr ho.out.ints (h1.below (hb.out.mono hB1)) (Nat.le_refl _) (Nat.le_trans hB1 hs) hn3 hr.out r1 (fun z hz => by have := t2 z hz; omega) (fun z hz => by have := r2 z hz; omega))
          clear s1 s2 t1 t2 hby r1 r2 hrow
          go_wp2_with (go_at_call 112; refine (HA.out).mono ?_; rintro e w' ⟨A₃, n₃, c₃, rfl, ho3, hq⟩)
          have ho3 := hide (ho3.down hs)
          have hb3 := hide (hb.out.trans (hq.mono hs))
          clear hq HA ho
          go_wp2_with fail
          go_roundw
          case rel => exact ⟨k + 1, _, _, _, _, by omega, by go_num, rfl, ho3, s3, hb3⟩
          case measure => simp [intOf]; omega
      · have ha2 := ha.out
        rw [List.take_of_length_le (by have := hl'.out; omega)] at ha2
        obtain ⟨e1, e2⟩ := hyes.out us ha2
        have e1 := hide e1
        have e2 := hide e2
        clear ha2
        go_wp2
        go_ret2
        exact ⟨_, _, _, ret_sb e2.out.symm, by rw [e1.out]; exact ho.out, hb.out⟩
  · have hok : afterC zs rs ws = false := by simpa using hok
    obtain ⟨e1, e2⟩ := afterL_not hok
    have e1 := hide e1
    have e2 := hide e2
    unfold afterC begun at hok
    rw [hl.out] at hok
    by_cases o1 : startOk zs = true
    · rw [o1] at HS
      by_cases o2 : ruleOk (n : Int) rs = true
      · rw [o2] at HR
        have o3 : wordOk (n : Int) ws = false := by simpa [o1, o2] using hok
        rw [o3] at HW
        clear hok o1 o2 o3
        go_enter Tryd.func81, Tryd.ntmps81
        go_wp2_with (first | (go_at_call 79; refine (HS.out).mono ?_; rintro e w' ⟨rfl, rfl⟩) | (go_at_call 110; refine (HR.out).mono ?_; rintro e w' ⟨rfl, rfl⟩) | (go_at_call 111; refine (HW.out).mono ?_; rintro e w' ⟨rfl, rfl⟩))
        go_ret2
        exact ⟨_, _, _, ret_sb e2.out.symm, by rw [e1.out]; exact own_empty (Nat.le_refl _), below_empty (Below.refl _ _) _⟩
      · have o2 : ruleOk (n : Int) rs = false := by simpa using o2
        rw [o2] at HR
        clear hok o1 o2
        go_enter Tryd.func81, Tryd.ntmps81
        go_wp2_with (first | (go_at_call 79; refine (HS.out).mono ?_; rintro e w' ⟨rfl, rfl⟩) | (go_at_call 110; refine (HR.out).mono ?_; rintro e w' ⟨rfl, rfl⟩))
        go_ret2
        exact ⟨_, _, _, ret_sb e2.out.symm, by rw [e1.out]; exact own_empty (Nat.le_refl _), below_empty (Below.refl _ _) _⟩
    · have o1 : startOk zs = false := by simpa using o1
      rw [o1] at HS
      clear hok o1
      go_enter Tryd.func81, Tryd.ntmps81
      go_wp2_with (first | (go_at_call 79; refine (HS.out).mono ?_; rintro e w' ⟨rfl, rfl⟩))
      go_ret2
      exact ⟨_, _, _, ret_sb e2.out.symm, by rw [e1.out]; exact own_empty (Nat.le_refl _), below_empty (Below.refl _ _) _⟩
end Go.Proofs.YtoafpokcbbncfaaDoor

namespace Go.Proofs.YtoafpokcbbncfaaDoor
open Go.RowKit

/-- The state of the walk: so far the product is P and the urn us, or the product is 0 for good. -/
def WaysAt (rs : List (List Int)) (zs ws : List Int) (k : Nat) (P : Int) (us : List Int) : Prop :=
  (0 < P ∧ afterW rs zs (ws.take k) = some us ∧ P = rways rs zs (ws.take k)) ∨ (P = 0 ∧ rways rs zs ws = 0)

end Go.Proofs.YtoafpokcbbncfaaDoor

namespace Go.Proofs.YtoafpokcbbncfaaDoor
open Go.RowKit

end Go.Proofs.YtoafpokcbbncfaaDoor

namespace Go.Proofs.YtoafpokcbbncfaaDoor
open Go.RowKit

end Go.Proofs.YtoafpokcbbncfaaDoor
