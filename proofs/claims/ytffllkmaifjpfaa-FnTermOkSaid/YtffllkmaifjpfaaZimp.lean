/-
  Words, plain lemmas and contracts that belong together, joined into one file.
-/
import Derived.Test.YtffllkmaifjpfaaZoks
import Derived.Test.YtffllkmaifjpfaaZpl
import Derived.StillTailTactics
namespace Go.Proofs.Ytffllkmaifjpfaa
open Go.RowKit

theorem coloursOk_c (a : Int) (w : World) : Calls Try.prog 64 #[.int .i64 a] w fun e w' => e = .returned (.bool (decide (1 ≤ a ∧ a ≤ 3))) ∧ w = w' := by
  by_cases h1 : 1 ≤ a
  · by_cases h2 : a ≤ 3
    · go_enter Try.func64, Try.ntmps64
      go_wp2
      go_ret
      exact ⟨ret_bool (by simp; omega), rfl⟩
    · go_enter Try.func64, Try.ntmps64
      go_wp2
      go_ret
      exact ⟨ret_bool (by simp; omega), rfl⟩
  · go_enter Try.func64, Try.ntmps64
    go_wp2
    go_ret
    exact ⟨ret_bool (by simp; omega), rfl⟩

theorem drawsOk_c (a : Int) (w : World) : Calls Try.prog 66 #[.int .i64 a] w fun e w' => e = .returned (.bool (decide (0 ≤ a ∧ a ≤ 6))) ∧ w = w' := by
  by_cases h1 : 0 ≤ a
  · by_cases h2 : a ≤ 6
    · go_enter Try.func66, Try.ntmps66
      go_wp2
      go_ret
      exact ⟨ret_bool (by simp; omega), rfl⟩
    · go_enter Try.func66, Try.ntmps66
      go_wp2
      go_ret
      exact ⟨ret_bool (by simp; omega), rfl⟩
  · go_enter Try.func66, Try.ntmps66
    go_wp2
    go_ret
    exact ⟨ret_bool (by simp; omega), rfl⟩

set_option maxHeartbeats 800000 in
theorem wordOk_impl0 (cl : Int) (A : Option Addr) (n c B : Nat) (ws : List Int) (w : World) (h : Ints w B A n c ws) :
    Calls Try.prog 50 #[.int .i64 cl, .slice A n c] w fun e w' => e = .returned (.bool (wordOk cl ws)) ∧ w = w' := by
  have hl := hide h.len
  have hn := h.nb
  have HC := hide (fun w => coloursOk_c cl w)
  by_cases hc : 1 ≤ cl ∧ cl ≤ 3
  · have hd := decide_eq_true hc
    rw [hd] at HC
    have hc := hide hc
    by_cases h6 : 6 < n
    · have hy := hide (wordOk_size (c := cl) (ws := ws) (.inr (.inr (by have := hl.out; omega))))
      go_enter Try.func50, Try.ntmps50
      go_wp2_with (go_at_call 64; refine (HC.out _).mono ?_; rintro e w' ⟨rfl, rfl⟩)
      go_ret
      exact ⟨ret_bool hy.out.symm, rfl⟩
    · go_enter Try.func50, Try.ntmps50
      go_wp2_with (go_at_call 64; refine (HC.out _).mono ?_; rintro e w' ⟨rfl, rfl⟩)
      go_loop [17] (fun i => ∃ k : Nat, k ≤ n ∧ i = .int .i64 k ∧ Hid (∀ j x, j < k → ws[j]? = some x → 0 ≤ x ∧ x < cl)) (fun i => n - (intOf i).toNat)
      case atStart => exact ⟨0, Nat.zero_le _, rfl, fun j x hj _ => absurd hj (by omega)⟩
      case round =>
        obtain ⟨k, hk, rfl, hall⟩ := hrel
        by_cases hlt : k < n
        · obtain ⟨b, off, x, rfl, hb, hx, hcell⟩ := h.look hlt
          by_cases hx0 : x < 0
          · go_wp2
            go_ret
            exact ⟨ret_bool (wordOk_bad hx.out (.inl hx0)).symm, rfl⟩
          · by_cases hx1 : cl ≤ x
            · go_wp2
              go_ret
              exact ⟨ret_bool (wordOk_bad hx.out (.inr hx1)).symm, rfl⟩
            · go_wp2
              go_round
              case rel => exact ⟨k + 1, by omega, by go_num, fun j y hj hy => by
                rcases Nat.lt_or_ge j k with hjk | hjk
                · exact hall.out j y hjk hy
                · obtain rfl : j = k := by omega
                  rw [hx.out] at hy; injection hy with hy; omega⟩
              case measure => simp [intOf]; omega
        · have hy := hide (wordOk_mk hc.out.1 hc.out.2 (by have := hl.out; omega) (fun j x (hj : j < ws.length) hx => hall.out j x (by have := hl.out; omega) hx))
          go_wp2
          go_ret
          exact ⟨ret_bool hy.out.symm, rfl⟩
  · have hd := decide_eq_false hc
    have hy := hide (wordOk_size (c := cl) (ws := ws) (by omega))
    rw [hd] at HC
    clear hc
    go_enter Try.func50, Try.ntmps50
    go_wp2_with (go_at_call 64; refine (HC.out _).mono ?_; rintro e w' ⟨rfl, rfl⟩)
    go_ret
    exact ⟨ret_bool hy.out.symm, rfl⟩

theorem isum_take_le {cs : List Int} (h : ∀ x ∈ cs, 0 ≤ x ∧ x ≤ 6) (k : Nat) : isum (cs.take k) ≤ isum cs := by
  have e := isum_append (cs.take k) (cs.drop k)
  rw [List.take_append_drop] at e
  have := (isum_bounds 6 (cs.drop k) (fun x hx => h x (List.mem_of_mem_drop hx))).1
  omega
theorem countRowOk_far {c : Int} {cs : List Int} {k : Nat} {x : Int} (hx : cs[k]? = some x) (h : 6 - isum (cs.take k) < x) : countRowOk c cs = false := by
  rw [Bool.eq_false_iff]
  intro hh
  obtain ⟨_, _, _, h4, h5⟩ := countRowOk_yes hh
  have h1 := isum_take_le h4 (k + 1)
  rw [isum_take_succ hx] at h1
  omega

theorem fall_next {s : Int} (h : 0 ≤ s) (k : Nat) : fall s (k + 1) = fall s k * (s - (k : Int)) := by
  rw [fall_snoc]
  rcases Int.lt_or_le s (k : Int) with h1 | h1
  · rw [(fall_zero h).2 h1, Int.zero_mul, Int.zero_mul]
  · rw [Int.max_eq_left (by omega)]

end Go.Proofs.Ytffllkmaifjpfaa

namespace Go.Proofs.Ytffllkmaifjpfaa
open Go.RowKit

theorem pow_le_729 (C m : Nat) (h1 : 1 ≤ C) (h3 : C ≤ 3) (h6 : m ≤ 6) : 1 ≤ C ^ m ∧ C ^ m ≤ 729 := by
  have h1 : 1 ^ m ≤ C ^ m := Nat.pow_le_pow_left h1 m
  have h2 : C ^ m ≤ 3 ^ m := Nat.pow_le_pow_left h3 m
  have h4 : 3 ^ m ≤ 3 ^ 6 := Nat.pow_le_pow_right (by omega) h6
  rw [Nat.one_pow] at h1
  exact ⟨h1, Nat.le_trans h2 h4⟩

set_option maxHeartbeats 400000 in
theorem powerOf_impl (C m : Nat) (w : World) (h1 : 1 ≤ C) (h3 : C ≤ 3) (h6 : m ≤ 6) :
    Calls Try.prog 83 #[.int .i64 C, .int .i64 m] w fun e w' => e = .returned (.int .i64 ((C ^ m : Nat) : Int)) ∧ w = w' := by
  have HB := hide (fun k (hk : k ≤ 6) => pow_le_729 C k h1 h3 hk)
  have HS := hide (fun k => Nat.pow_succ (n := C) (m := k))
  go_enter Try.func83, Try.ntmps83
  go_wp2
  go_loop [5, 7] (fun t i => ∃ k P : Nat, k ≤ m ∧ i = .int .i64 k ∧ t = .int .i64 P ∧ Hid (P = C ^ k)) (fun _ i => m - (intOf i).toNat)
  case atStart => exact ⟨0, 1, Nat.zero_le _, rfl, rfl, rfl⟩
  case round =>
    obtain ⟨k, P, hk, rfl, rfl, hP⟩ := hrel
    by_cases hlt : k < m
    · obtain ⟨b0, b1⟩ := HB.out k (by omega)
      have hst := hide (HS.out k)
      rw [← hP.out] at b0 b1 hst
      have hp := mul_bound (a := (P : Int)) (M := 729) (by omega) (by omega) (b := (C : Int)) (by omega) (show (C : Int) ≤ 3 by omega)
      obtain ⟨q1, q2⟩ := hp
      go_wp2
      go_round
      case rel => exact ⟨k + 1, P * C, by omega, by go_num, by rw [Int.natCast_mul], hst.out.symm⟩
      case measure => simp [intOf]; omega
    · obtain rfl : k = m := by omega
      go_wp2
      go_ret
      exact ⟨ret_int (by rw [hP.out]; exact Int.natCast_pow _ _), rfl⟩

end Go.Proofs.Ytffllkmaifjpfaa

namespace Go.Proofs.Ytffllkmaifjpfaa
open Go.RowKit

set_option maxHeartbeats 800000 in
theorem write_c (A : Option Addr) (n c base C q : Nat) (zs : List Int) (w0 w : World) (h : Own w base (.slice A n c) zs) (hb0 : Below base w0 w) (hC1 : 1 ≤ C) (hC3 : C ≤ 3) (hn : n ≤ 6) (hq : q ≤ 729) :
    Calls Try.prog 84 #[.slice A n c, .int .i64 q, .int .i64 C] w fun e w' => e = .returned (.tuple #[]) ∧ Own w' base (.slice A n c) (digs C n q) ∧ Below base w0 w' := by
  have hD := hide (fun j (hj : j < n) => digs_at (C := C) n q j hj)
  have hDl := hide (digs_len C n q)
  have hne : ((C : Int) == 0) = false := by simp; omega
  have hdv := hide (fun k => show q / C ^ k / C = q / C ^ (k + 1) by rw [Nat.div_div_eq_div_mul, Nat.pow_succ])
  go_enter Try.func84, Try.ntmps84
  go_wp2
  go_loopw [1, 9] (fun t i wr => ∃ k p : Nat, ∃ L : List Int, k ≤ n ∧ p ≤ 729 ∧ i = .int .i64 k ∧ t = .int .i64 p ∧ Hid (p = q / C ^ k) ∧ Hid (Own wr base (.slice A n c) L) ∧ Hid (Below base w0 wr) ∧ Hid (∀ j, j < k → L[j]? = (digs C n q)[j]?)) (fun _ i _ => n - (intOf i).toNat)
  case atStart => exact ⟨0, q, zs, Nat.zero_le _, hq, rfl, rfl, by simp [hide], hide h, hide hb0, fun j hj => absurd hj (by omega)⟩
  case round =>
    clear h hb0
    obtain ⟨k, p, L, hk, hp, rfl, rfl, hpe, ho, hb, hL⟩ := hrel
    have hll := hide ho.out.len
    by_cases hlt : k < n
    · obtain ⟨y, hy⟩ : ∃ y, Hid (L[k]? = some y) := ⟨_, hide (List.getElem?_eq_getElem (by have := hll.out; omega))⟩
      obtain ⟨g, hA2, hg, hgl, hcy, hfy⟩ := ho.out.at2 hy.out
      have hm1 : p % C < C := Nat.mod_lt _ (by omega)
      have hm2 : p / C ≤ p := Nat.div_le_self _ _
      have hd := hide (hD.out k hlt)
      rw [← hpe.out] at hd
      have ho2 := hide (show Own (wr.setCell ⟨g, k, none⟩ (.int .i64 ((p % C : Nat) : Int))) base (.slice (some ⟨g, 0, none⟩) n c) (L.set k ((p % C : Nat) : Int)) from (hA2 ▸ ho.out).set_ _ (wf_i64 (by omega)))
      have hb2 := hide (hb.out.setCell (p := ⟨g, k, none⟩) hg (.int .i64 ((p % C : Nat) : Int)))
      have hL2 := hide (show ∀ j, j < k + 1 → (L.set k ((p % C : Nat) : Int))[j]? = (digs C n q)[j]? from fun j hj => by
        by_cases hjk : j = k
        · subst hjk
          rw [List.getElem?_set_self (by have := hll.out; omega), hd.out]
        · rw [List.getElem?_set_ne (by omega)]; exact hL.out j (by omega))
      have hp2 := hide (show p / C = q / C ^ (k + 1) by rw [hpe.out]; exact hdv.out k)
      clear hd hL hpe hll
      subst hA2
      have hw1 : wrap64 ((p : Int) / (C : Int)) = ((p / C : Nat) : Int) := by
        have e : ((p : Int) / (C : Int)) = ((p / C : Nat) : Int) := (Int.natCast_ediv _ _).symm
        have hz : p / C ≤ 729 := Nat.le_trans hm2 hp
        rw [e]
        generalize p / C = z at hz ⊢
        simp only [wrap64]; omega
      have hw1 := hide hw1
      go_wp2
      rw [hw1.out]
      rw [Int.natCast_emod] at ho2 hb2
      go_roundw
      case rel => exact ⟨k + 1, p / C, _, by omega, Nat.le_trans hm2 hp, by go_num, rfl, hp2, ho2, hb2, hL2⟩
      case measure => simp [intOf]; omega
    · obtain rfl : k = n := by omega
      have hLe : L = digs C k q := List.ext_getElem? fun j => by
        rcases Nat.lt_or_ge j k with hj | hj
        · exact hL.out j hj
        · rw [List.getElem?_eq_none (by have := hll.out; omega), List.getElem?_eq_none (by have := hDl.out; omega)]
      subst hLe
      go_wp2
      go_end0
      exact ⟨rfl, ho.out, hb.out⟩
end Go.Proofs.Ytffllkmaifjpfaa

namespace Go.Proofs.Ytffllkmaifjpfaa
open Go.RowKit

theorem digs_word {C m q : Nat} (h1 : 1 ≤ C) (h3 : C ≤ 3) (h6 : m ≤ 6) : wordOk (C : Int) (digs C m q) = true :=
  wordOk_mk (by omega) (by omega) (by rw [digs_len]; exact h6) (fun j x _ hx => digs_mem (by omega) m q x (List.mem_of_getElem? hx))
theorem countsOf_digs {C m q : Nat} (h1 : 1 ≤ C) (h3 : C ≤ 3) (h6 : m ≤ 6) : countsOf (C : Int) (digs C m q) = cntL C (digs C m q) := by
  unfold countsOf; rw [if_pos (digs_word h1 h3 h6)]; rfl

theorem ways_le (zs ws : List Int) (h : ∀ z ∈ zs, z ≤ 40) : ways zs ws ≤ 40 ^ ws.length := by
  induction ws generalizing zs with
  | nil => simp [ways]
  | cons x r ih =>
    have hb : ballsAt zs x ≤ 40 := by
      unfold ballsAt
      rcases Nat.lt_or_ge x.toNat zs.length with hk | hk
      · rw [List.getElem?_eq_getElem hk]; exact h _ (List.getElem_mem hk)
      · rw [List.getElem?_eq_none hk]; decide
    have h2 := ih (zs.set x.toNat (ballsAt zs x - 1)) (fun z hz => by
      rcases List.mem_or_eq_of_mem_set hz with h3 | h3
      · exact h z h3
      · omega)
    simp only [ways, List.length_cons]
    rw [Int.pow_succ, Int.mul_comm (40 ^ r.length)]
    exact Int.mul_le_mul (by omega) h2 (ways_nonneg _ _) (by omega)
set_option maxRecDepth 100000 in
set_option maxHeartbeats 1600000 in
/-- The sum over all words, whatever is told of each. -/
theorem sumAll_c (n m : Nat) (fid : FuncId) (caps : Array Value) (F : Nat → Int) (M : Int) (w : World) (hn1 : 1 ≤ n) (hn3 : n ≤ 3) (hm6 : m ≤ 6) (hM : M ≤ 4096000000000) (hE : ∀ (xs : Array Value) (w1 : World), Sem.run Try.prog (callFunc fid xs) w1 = .ok (.enter fid xs) w1) (hF : ∀ q, q < n ^ m → 0 ≤ F q ∧ F q ≤ M)
    (HC : ∀ (q : Nat) (w1 : World), q < n ^ m → Below w.heap.size w w1 → Own w1 w.heap.size (.slice (some ⟨w.heap.size, 0, none⟩) m m) (digs n m q) → Calls Try.prog fid (#[.slice (some ⟨w.heap.size, 0, none⟩) m m] ++ caps) w1 fun e w' => e = .returned (.int .i64 (F q)) ∧ Below w1.heap.size w1 w') :
    Calls Try.prog 56 #[.int .i64 (n : Int), .int .i64 (m : Int), .func (.func fid) #[] caps] w fun e w' => e = .returned (.int .i64 (nsum (n ^ m) F)) ∧ Below w.heap.size w w' := by
  have hp729 := hide (pow_le_729 n m (by omega) (by omega) hm6)
  have HP := hide (fun w => powerOf_impl n m w (by omega) (by omega) hm6)
  obtain ⟨P, hP⟩ : ∃ P : Nat, Hid (n ^ m = P) := ⟨_, hide rfl⟩
  rw [hP.out] at hp729 HP hF HC ⊢
  obtain ⟨hP1, hP2⟩ := hp729.out
  obtain ⟨i0, hi, hz0, hz1, hz2⟩ := info_parts infoInt
  have HB := hide (fun k (hk : k ≤ P) => show 0 ≤ nsum k F ∧ nsum k F ≤ 4096000000000000 from by
    have h1 := nsum_bounds (n := k) (f := F) (M := M) (fun q hq => hF q (by omega))
    have h0 := hF 0 (by omega)
    have h9 : M * (k : Int) ≤ 4096000000000 * 729 := Int.mul_le_mul hM (by omega) (by omega) (by decide)
    omega)
  replace HC := hide HC
  clear hF
  go_enter Try.func56, Try.ntmps56
  go_wp2_with (first | (go_at_call 83; refine (HP.out _).mono ?_; rintro e w' ⟨rfl, rfl⟩) | (at_make; refine wpList_make_full _ rfl _ _ 39 rfl w.heap.size 3 i0 (.int .i64 0) 1 Try.underlying39 hi hz0 hz1 .i64 .i64 _ _ m rfl rfl rfl rfl (by rw [hz2]; omega) (by unfold maxLen; omega) (Nat.le_refl _) ?_; intro w1 hown0 hgrow0; have hgrow0 := hide hgrow0; have hown0 := hide hown0))
  have hb0 := hide (show Below w.heap.size w w1 from (Below.refl _ _).grown hgrow0.out (Nat.le_refl _) (fun k hk => by cases hk))
  have ho0 := hide (show Own w1 w.heap.size (.slice (some ⟨w.heap.size, 0, none⟩) m m) (List.replicate m 0) from ⟨by
    have e1 : (madeCells (Value.int .i64 0).cells (m * 1)).toList = (List.replicate m (0 : Int)).map (Value.int .i64) := by
      simp [Value.cells, toList_madeCells_one]
    rw [List.length_replicate, ← e1]; exact hown0.out, fun z hz => by
      have := List.eq_of_mem_replicate hz
      subst this; decide⟩)
  clear hown0 hgrow0
  go_loopw [8, 15] (fun t i wr => ∃ k : Nat, ∃ L : List Int, k ≤ P ∧ i = .int .i64 k ∧ t = .int .i64 (nsum k F) ∧ Hid (Own wr w.heap.size (.slice (some ⟨w.heap.size, 0, none⟩) m m) L) ∧ Hid (Below w.heap.size w wr)) (fun _ i _ => P - (intOf i).toNat)
  case atStart => exact ⟨0, _, Nat.zero_le _, rfl, rfl, ho0, hb0⟩
  case round =>
    clear ho0 hb0
    obtain ⟨k, L, hk, rfl, rfl, ho, hb⟩ := hrel
    obtain ⟨s0, s1⟩ := HB.out k hk
    have hst := hide (show nsum (k + 1) F = nsum k F + F k from rfl)
    obtain ⟨S, hS⟩ : ∃ S, Hid (nsum k F = S) := ⟨_, hide rfl⟩
    rw [hS.out] at s0 s1 hst ⊢
    by_cases hlt : k < P
    · go_wp2_with fail
      refine (write_c _ _ _ _ n k L w wr ho.out hb.out hn1 hn3 hm6 (by omega)).mono ?_
      rintro e w2 ⟨rfl, ho2, hb2⟩
      have ho2 := hide ho2
      have hb2 := hide hb2
      clear ho hb
      have hsn : 0 ≤ nsum k F + F k ∧ nsum k F + F k ≤ 4096000000000000 := by
        have h1 := HB.out (k + 1) (by omega)
        rw [show nsum (k + 1) F = nsum k F + F k from rfl] at h1
        omega
      rw [hS.out] at hsn
      replace hsn := hide hsn
      go_wp2_with fail
      refine (HC.out k w2 (by omega) hb2.out ho2.out).mono ?_
      rintro e w6 ⟨rfl, hb6⟩
      have ho7 := hide (ho2.out.below hb6 (Nat.le_refl _))
      have hb7 := hide (hb2.out.trans (hb6.mono hb2.out.size))
      clear ho2 hb2 hb6
      obtain ⟨V, hV⟩ : ∃ V, Hid (F k = V) := ⟨_, hide rfl⟩
      rw [hV.out] at hst hsn ⊢
      obtain ⟨sn1, sn2⟩ := hsn.out
      clear hsn
      go_wp2_with fail
      go_roundw
      case rel => exact ⟨k + 1, _, by omega, by go_num, by rw [hst.out], ho7, hb7⟩
      case measure => simp [intOf]; omega
    · obtain rfl : k = P := by omega
      go_wp2
      go_ret
      exact ⟨ret_int (by rw [hS.out]), hb.out⟩

theorem upI {w0 w w' : World} (hb : Below w0.heap.size w0 w) (hq : Below w.heap.size w w') : Below w0.heap.size w0 w' := hb.trans (hq.mono hb.size)
theorem wordOk_impl (cl : Int) (A : Option Addr) (n c B : Nat) (ws : List Int) (w : World) (h : Ints w B A n c ws) (_hB : B ≤ w.heap.size) :
    Calls Try.prog 50 #[.int .i64 cl, .slice A n c] w fun e w' => e = .returned (.bool (wordOk cl ws)) ∧ Below w.heap.size w w' := sameB (wordOk_impl0 cl A n c B ws w h)
end Go.Proofs.Ytffllkmaifjpfaa
