/-
  Words, plain lemmas and contracts that belong together, joined into one file.
-/
import Derived.Test.YtffllkmaifjpfadZoks
import Derived.Test.YtffllkmaifjpfadZpl
import Derived.Test.YtffllkmaifjpfadZword
import Derived.Deep.QuietTactic
import Derived.BigQuiet
import Derived.Deep.RegionWith
namespace Go.Proofs.Ytffllkmaifjpfad
open Go.RowKit

def entP (i j : Nat) (x : Int) : Prop := (0 ≤ x ∧ x ≤ 3) ∨ (x = -1 ∧ j = i)
theorem ruleOk_not {c : Int} {rs : List (List Int)} (h : c < 1 ∨ 3 < c ∨ (rs.length : Int) ≠ c ∨ (∃ (k : Nat) (l : List Int), rs[k]? = some l ∧ ((l.length : Int) ≠ c ∨ ∃ (j : Nat) (x : Int), l[j]? = some x ∧ ¬ entP k j x))) : ruleOk c rs = false := by
  rw [Bool.eq_false_iff]
  intro hh
  obtain ⟨h1, h2⟩ := ruleOk_yes hh
  have p1 := h2.pos; have p2 := h2.le; have p3 := h2.len
  rcases h with h | h | h | ⟨k, l, hl, h⟩
  · omega
  · omega
  · omega
  · obtain ⟨q1, q2⟩ := h2.rows k l hl
    rcases h with h | ⟨j, x, hx, h⟩
    · omega
    · exact h (q2 j x hx)
theorem ruleOk_all {c : Int} {rs : List (List Int)} (h1 : 1 ≤ c) (h3 : c ≤ 3) (hl : (rs.length : Int) = c) (h : ∀ (k : Nat) l, rs[k]? = some l → (l.length : Int) = c ∧ ∀ (j : Nat) x, l[j]? = some x → entP k j x) : ruleOk c rs = true := by
  obtain ⟨C, rfl⟩ : ∃ C : Nat, c = (C : Int) := ⟨c.toNat, by omega⟩
  exact ruleOk_mk ⟨by omega, by omega, by omega, fun k l hk => ⟨by have := (h k l hk).1; omega, (h k l hk).2⟩⟩

end Go.Proofs.Ytffllkmaifjpfad

namespace Go.Proofs.Ytffllkmaifjpfad
open Go.RowKit

set_option maxHeartbeats 400000 in
theorem startOk_spec (A : Option Addr) (n c B : Nat) (zs : List Int) (w : World) (h : Ints w B A n c zs) :
    Calls Try.prog 38 #[.slice A n c] w fun e w' => e = .returned (.bool (startOk zs)) ∧ w = w' := by
  have hl := hide h.len
  have hn := h.nb
  have HI := hide (urnOk_spec _ _ _ _ _ w h)
  go_enter Try.func38, Try.ntmps38
  go_wp2
  go_loop [3] (fun i => ∃ k : Nat, k ≤ n ∧ i = .int .i64 k ∧ Hid (∀ (j : Nat) x, j < k → zs[j]? = some x → x ≤ 10)) (fun i => n - (intOf i).toNat)
  case atStart => exact ⟨0, Nat.zero_le _, rfl, fun j x hj _ => absurd hj (by omega)⟩
  case round =>
    obtain ⟨k, hk, rfl, hall⟩ := hrel
    by_cases hlt : k < n
    · obtain ⟨b, off, x, rfl, hb, hx, hcell⟩ := h.look hlt
      by_cases hx10 : 10 < x
      · have hbad := hide (startOk_bad hx.out hx10)
        go_wp2
        go_ret
        exact ⟨ret_bool hbad.out.symm, rfl⟩
      · have hnx := hide (show ∀ (j : Nat) y, j < k + 1 → zs[j]? = some y → y ≤ 10 from fun j y hj hy => by
          rcases Nat.lt_or_ge j k with hjk | hjk
          · exact hall.out j y hjk hy
          · obtain rfl : j = k := by omega
            rw [hx.out] at hy; injection hy with hy; omega)
        go_wp2
        go_round
        case rel => exact ⟨k + 1, by omega, by go_num, hnx⟩
        case measure => simp [intOf]; omega
    · have hst := hide (show startOk zs = urnOk zs by
        by_cases hu : urnOk zs = true
        · rw [hu]
          exact startOk_mk hu (fun z hz => by
            obtain ⟨j, hj, rfl⟩ := List.getElem_of_mem hz
            exact hall.out j _ (by have := hl.out; omega) (List.getElem?_eq_getElem hj))
        · unfold startOk
          rw [show urnOk zs = false by simpa using hu]; rfl)
      go_wp2_with (go_at_call 52; refine (HI.out).mono ?_; rintro e w' ⟨rfl, rfl⟩)
      go_ret
      exact ⟨ret_bool hst.out.symm, rfl⟩

theorem sum_small {zs : List Int} {M : Int} (_hM : 0 ≤ M) (h : ∀ x ∈ zs, -M ≤ x ∧ x ≤ M) : -(M * zs.length) ≤ isum zs ∧ isum zs ≤ M * zs.length := by
  induction zs with
  | nil => simp [isum]
  | cons x r ih =>
    have h1 := h x (by simp)
    have h2 := ih (fun y hy => h y (by simp [hy]))
    have e : M * ((x :: r).length : Int) = M * (r.length : Int) + M := by rw [List.length_cons, Int.natCast_add, Int.mul_add]; simp
    rw [e]; simp only [isum]; omega

set_option maxHeartbeats 400000 in
theorem l1TotalG_c (A : Option Addr) (n c B : Nat) (zs : List Int) (w : World) (h : Ints w B A n c zs) (hn3 : n ≤ 10) (hz : ∀ x ∈ zs, -100 ≤ x ∧ x ≤ 100) :
    Calls Try.prog 58 #[.slice A n c] w fun e w' => e = .returned (.int .i64 (isum zs)) ∧ w = w' := by
  have hl := hide h.len
  have HT := hide (fun k => show -1000 ≤ isum (zs.take k) ∧ isum (zs.take k) ≤ 1000 by
    have h1 := sum_small (zs := zs.take k) (M := 100) (by decide) (fun x hx => hz x (List.mem_of_mem_take hx))
    have h2 : (zs.take k).length ≤ zs.length := List.length_take_le' _ _
    have h3 := hl.out
    omega)
  have HZ := hide (fun (k : Nat) x (hx : zs[k]? = some x) => hz x (List.mem_of_getElem? hx))
  clear hz
  go_enter Try.func58, Try.ntmps58
  go_wp2
  go_loop [3, 4] (fun t i => ∃ k : Nat, k ≤ n ∧ i = .int .i64 k ∧ t = .int .i64 (isum (zs.take k))) (fun _ i => n - (intOf i).toNat)
  case atStart => exact ⟨0, Nat.zero_le _, rfl, rfl⟩
  case round =>
    obtain ⟨k, hk, rfl, rfl⟩ := hrel
    obtain ⟨hs1, hs2⟩ := HT.out k
    by_cases hlt : k < n
    · obtain ⟨b, off, x, rfl, hb, hx, hcell⟩ := h.look hlt
      obtain ⟨hx1, hx2⟩ := HZ.out k x hx.out
      have hst := hide (isum_take_succ hx.out)
      go_wp2
      go_round
      case rel => exact ⟨k + 1, by omega, by go_num, by rw [hst.out]⟩
      case measure => simp [intOf]; omega
    · go_wp2
      go_ret
      exact ⟨ret_int (by rw [List.take_of_length_le (by have := hl.out; omega)]), rfl⟩

end Go.Proofs.Ytffllkmaifjpfad

namespace Go.Proofs.Ytffllkmaifjpfad
open Go.RowKit

theorem evenN_no {c : Int} {rs : List (List Int)} (h : evenOk c rs = false) : evenN c rs = 0 := by unfold evenN; rw [h]; rfl
theorem evenN_yes {c : Int} {rs : List (List Int)} {l : List Int} (h : evenOk c rs = true) (hl : rs[0]? = some l) : evenN c rs = isum l := by unfold evenN rowOf; rw [h, hl]; rfl
theorem ret_ib {a b : Int} {x y : Bool} (h : a = b) (k : x = y) : Ending.returned (.tuple #[.int .i64 a, .bool x]) = .returned (.tuple #[.int .i64 b, .bool y]) := by rw [h, k]

theorem afterL_no {zs : List Int} {rs : List (List Int)} {ws : List Int} (h : afterW rs zs ws = none) : afterL zs rs ws = [] ∧ afterOk zs rs ws = false := by
  unfold afterL afterOk
  rw [h]
  refine ⟨by split <;> rfl, by simp⟩
theorem afterL_not {zs : List Int} {rs : List (List Int)} {ws : List Int} (h : afterC zs rs ws = false) : afterL zs rs ws = [] ∧ afterOk zs rs ws = false := by
  unfold afterL afterOk
  rw [h]
  exact ⟨rfl, rfl⟩
theorem afterL_yes {zs us : List Int} {rs : List (List Int)} {ws : List Int} (h : afterC zs rs ws = true) (h2 : afterW rs zs ws = some us) : afterL zs rs ws = us ∧ afterOk zs rs ws = true := by
  unfold afterL afterOk
  rw [h, h2]
  exact ⟨rfl, rfl⟩
theorem ret_sb {A : Option Addr} {n c : Nat} {x y : Bool} (k : x = y) : Ending.returned (.tuple #[.slice A n c, .bool x]) = .returned (.tuple #[.slice A n c, .bool y]) := by rw [k]
theorem afterC_split {zs : List Int} {rs : List (List Int)} {ws : List Int} {n : Nat} (hl : zs.length = n) (h : startOk zs = false ∨ ruleOk (n : Int) rs = false ∨ wordOk (n : Int) ws = false) : afterC zs rs ws = false := by
  unfold afterC begun
  rw [hl]
  rcases h with h | h | h <;> simp [h]
theorem afterC_all {zs : List Int} {rs : List (List Int)} {ws : List Int} {n : Nat} (hl : zs.length = n) (h1 : startOk zs = true) (h2 : ruleOk (n : Int) rs = true) (h3 : wordOk (n : Int) ws = true) : afterC zs rs ws = true := by
  unfold afterC begun
  rw [hl, h1, h2, h3]; rfl

end Go.Proofs.Ytffllkmaifjpfad

namespace Go.Proofs.Ytffllkmaifjpfad
open Go.RowKit

theorem ruleWays_no {zs : List Int} {rs : List (List Int)} {ws : List Int} (h : afterC zs rs ws = false) : ruleWays zs rs ws = -1 := by
  unfold ruleWays; rw [h]; rfl
theorem ruleWays_yes {zs : List Int} {rs : List (List Int)} {ws : List Int} (h : afterC zs rs ws = true) : ruleWays zs rs ws = rways rs zs ws := by
  unfold ruleWays; rw [h]; rfl
theorem pow28k {k : Nat} (h : k ≤ 6) : (28 : Int) ^ k ≤ 481890304 := pow28 k h
/-- The state of the walk: so far the product is P and the urn us, or the product is 0 for good. -/
def WaysAt (rs : List (List Int)) (zs ws : List Int) (k : Nat) (P : Int) (us : List Int) : Prop :=
  (0 < P ∧ afterW rs zs (ws.take k) = some us ∧ P = rways rs zs (ws.take k)) ∨ (P = 0 ∧ rways rs zs ws = 0)

end Go.Proofs.Ytffllkmaifjpfad
