/-
  Contracts of laws' helpers: powerOf, wordOf.
-/
import Derived.Test.YthdelfhfglnhfaaDrawUrn
import Derived.Test.YthdelfhfglnhfaaPlainS
import Derived.StillTailTactics
namespace Go.Proofs.Ythdelfhfglnhfaa
open Go.RowKit

/-! What a step leaves: facts on the world at hand are carried over 'Below' of its whole heap. -/
theorem Ints.up {w w' : World} {n c : Nat} {A : Option Addr} {zs : List Int} (h : Ints w w.heap.size A n c zs) (hq : Below w.heap.size w w') : Ints w' w'.heap.size A n c zs := (h.below hq).more hq.size
theorem Own.up {w w' : World} {base : Nat} {v : Value} {zs : List Int} (h : Own w base v zs) (hq : Below w.heap.size w w') : Own w' base v zs := h.below hq (Nat.le_refl _)
theorem upB {w0 w w' : World} (hb : Below w0.heap.size w0 w) (hq : Below w.heap.size w w') : Below w0.heap.size w0 w' := hb.trans (hq.mono hb.size)
theorem al (w : World) (o : Obj) : Below w.heap.size w (w.alloc o) := (Below.refl _ _).alloc (Nat.le_refl _) o
theorem al_grown {w w3 : World} {o : Obj} {g : Nat} (hg3 : (w.alloc o).grownBy w3 (some g)) (hg : w.heap.size ≤ g) : Below w.heap.size w w3 := (al w o).grown hg3 (by simp) (fun _ hj => (Option.some.inj hj) ▸ hg)

theorem own_made {w : World} {h m : Nat} (ho : w.ownsRow h 3 1 (.slice (some ⟨h, 0, none⟩) m m) m (madeCells (Value.int .i64 0).cells (m * 1)).toList) : Own w h (.slice (some ⟨h, 0, none⟩) m m) (List.replicate m 0) :=
  ⟨by
    have e1 : (madeCells (Value.int .i64 0).cells (m * 1)).toList = (List.replicate m (0 : Int)).map (Value.int .i64) := by
      simp [Value.cells, toList_madeCells_one]
    rw [List.length_replicate, ← e1]; exact ho, fun z hz => by
      have := List.eq_of_mem_replicate hz
      subst this; decide⟩
theorem Ints.emptyS {w : World} {B c : Nat} {A : Option Addr} (hc : c ≤ maxLen) (h0 : A = none → c = 0) : Ints w B A 0 c [] :=
  ⟨rfl, Nat.zero_le _, hc, fun h => absurd h (by omega), (fun _ h => by cases h), h0⟩
/-- The first h elements, and those behind them, of a slice with elements. -/
theorem Ints.takeS {w : World} {B n c h : Nat} {A : Option Addr} {zs : List Int} (hz : Ints w B A n c zs) (hh : h ≤ n) : Ints w B A h c (zs.take h) :=
  ⟨by rw [List.length_take]; have := hz.len; omega, by have := hz.le; omega, hz.big, fun hp => by
    obtain ⟨b, off, e, hb, hc⟩ := hz.cells (by omega)
    exact ⟨b, off, e, hb, fun j x hx => hc j x (by
      have hj : j < h := by have := (List.getElem?_eq_some_iff.1 hx).1; rw [List.length_take] at this; omega
      rwa [List.getElem?_take_of_lt hj] at hx)⟩, fun z hzm => hz.wf z (List.mem_of_mem_take hzm), hz.nil0⟩
theorem Ints.dropS {w : World} {B n c h b off : Nat} {zs : List Int} (hz : Ints w B (some ⟨b, off, none⟩) n c zs) (hh : h ≤ n) : Ints w B (some ⟨b, off + h, none⟩) (n - h) (c - h) (zs.drop h) :=
  ⟨by rw [List.length_drop]; have := hz.len; omega, by have := hz.le; omega, Nat.le_trans (Nat.sub_le _ _) hz.big, fun hp => by
    obtain ⟨b', off', e, hb, hc⟩ := hz.cells (by omega)
    injection e with e
    injection e with e1 e2 _
    subst e1; subst e2
    refine ⟨b, off + h, rfl, hb, fun j x hx => ?_⟩
    rw [Nat.add_assoc]
    exact hc _ x (by rw [← List.getElem?_drop]; exact hx), fun z hzm => hz.wf z (List.mem_of_mem_drop hzm), fun e => by cases e⟩

/-- Two neighbours exchanged in a slice that the call owns: what the walk asks of the two stores. -/
theorem swap_facts {wr w4 : World} {A₄ : Option Addr} {n₄ c₄ k : Nat} {ws : List Int} {x y : Int} (ho : Own w4 wr.heap.size (.slice A₄ n₄ c₄) ws) (hq : Below wr.heap.size wr w4) (hx : ws[k]? = some x) (hy : ws[k + 1]? = some y) (wx : (Lit.int .i64 x).wf = true) (wy : (Lit.int .i64 y).wf = true) :
    ∃ g, A₄ = some ⟨g, 0, none⟩ ∧ ((k : Int) + 1 < (n₄ : Int)) ∧ w4.cell? ⟨g, k, none⟩ = some (.int .i64 x) ∧ w4.frozen? ⟨g, k, none⟩ = false ∧ (w4.setCell ⟨g, k, none⟩ (.int .i64 y)).cell? ⟨g, k + 1, none⟩ = some (.int .i64 y) ∧ (w4.setCell ⟨g, k, none⟩ (.int .i64 y)).frozen? ⟨g, k + 1, none⟩ = false ∧ Below wr.heap.size wr (w4.setCell ⟨g, k, none⟩ (.int .i64 y)) ∧
      Own ((w4.setCell ⟨g, k, none⟩ (.int .i64 y)).setCell ⟨g, k + 1, none⟩ (.int .i64 x)) wr.heap.size (.slice (some ⟨g, 0, none⟩) n₄ c₄) ((ws.set k y).set (k + 1) x) ∧ Below wr.heap.size wr ((w4.setCell ⟨g, k, none⟩ (.int .i64 y)).setCell ⟨g, k + 1, none⟩ (.int .i64 x)) := by
  obtain ⟨g, hA, hg, hgl, hcy, hfy⟩ := ho.at2 hx
  subst hA
  have hn := ho.len
  have hlt := (List.getElem?_eq_some_iff.1 hy).1
  have ho5 := ho.set_ (k := k) y wy
  have hy5 : (ws.set k y)[k + 1]? = some y := by rw [List.getElem?_set_ne (by omega)]; exact hy
  obtain ⟨g2, hA5, hgg, hgl2, hcy2, hfy2⟩ := ho5.at2 hy5
  injection hA5 with e5
  injection e5 with e5 _ _
  subst e5
  have hqb := hq.setCell (p := ⟨g, k, none⟩) hg (.int .i64 y)
  exact ⟨g, rfl, by omega, hcy, hfy, hcy2, hfy2, hqb, ho5.set_ (k := k + 1) x wx, hqb.setCell (p := ⟨g, k + 1, none⟩) hg (.int .i64 x)⟩

theorem pow_mono6 {b m M : Nat} (hb : 1 ≤ b) (hm : m ≤ M) : b ^ m ≤ b ^ M := Nat.pow_le_pow_right hb hm

set_option maxHeartbeats 400000 in
theorem lawPow_c (b m : Nat) (w : World) (h1 : 1 ≤ b) (h3 : b ≤ 16) (hm : m < 17) (hB : b ^ m ≤ 100000) :
    Calls Try.prog 35 #[.int .i64 b, .int .i64 m] w fun e w' => e = .returned (.int .i64 ((b ^ m : Nat) : Int)) ∧ w = w' := by
  have HB := hide (fun k (hk : k ≤ m) => Nat.le_trans (pow_mono6 h1 hk) hB)
  have HS := hide (fun k => Nat.pow_succ (n := b) (m := k))
  go_enter Try.func35, Try.ntmps35
  go_wp2
  go_loop [5, 6] (fun t i => ∃ k P : Nat, k ≤ m ∧ i = .int .i64 k ∧ t = .int .i64 P ∧ Hid (P = b ^ k)) (fun _ i => m - (intOf i).toNat)
  case atStart => exact ⟨0, 1, Nat.zero_le _, rfl, rfl, rfl⟩
  case round =>
    obtain ⟨k, P, hk, rfl, rfl, hP⟩ := hrel
    by_cases hlt : k < m
    · have b1 := HB.out k (by omega)
      have hst := hide (HS.out k)
      rw [← hP.out] at b1 hst
      have hp := mul_bound (a := (P : Int)) (M := 100000) (by omega) (by omega) (b := (b : Int)) (by omega) (show (b : Int) ≤ 16 by omega)
      obtain ⟨q1, q2⟩ := hp
      go_wp2
      go_round
      case rel => exact ⟨k + 1, P * b, by omega, by go_num, by rw [Int.natCast_mul], hst.out.symm⟩
      case measure => simp [intOf]; omega
    · obtain rfl : k = m := by omega
      go_wp2
      go_ret
      exact ⟨ret_int (by rw [hP.out]; exact Int.natCast_pow _ _), rfl⟩

theorem digs_snoc (C m q : Nat) : digs C (m + 1) q = digs C m q ++ [((q / C ^ m % C : Nat) : Int)] := by
  induction m generalizing q with
  | zero => simp [digs]
  | succ m ih =>
    have h := ih (q / C)
    rw [Nat.div_div_eq_div_mul, Nat.mul_comm, ← Nat.pow_succ] at h
    show ((q % C : Nat) : Int) :: digs C (m + 1) (q / C) = _
    rw [h]; rfl

set_option maxHeartbeats 800000 in
theorem wordOf_c (C m q : Nat) (w : World) (hC1 : 1 ≤ C) (hC3 : C ≤ 16) (hm : m ≤ 16) (hq : q ≤ 100000) :
    Calls Try.prog 36 #[.int .i64 C, .int .i64 m, .int .i64 q] w fun e w' => ∃ A n c, e = .returned (.slice A n c) ∧ Own w' w.heap.size (.slice A n c) (digs C m q) ∧ Below w.heap.size w w' := by
  have hne : ((C : Int) == 0) = false := by simp; omega
  have hdv := hide (fun k => show q / C ^ k / C = q / C ^ (k + 1) by rw [Nat.div_div_eq_div_mul, Nat.pow_succ])
  have hsn := hide (fun k => digs_snoc C k q)
  have hln := hide (fun k => digs_len C k q)
  obtain ⟨i0, hi, hz0, hz1, hz2⟩ := info_parts infoInt
  go_enter Try.func36, Try.ntmps36
  go_wp2
  go_loopw [2, 7, 8] (fun t v i wr => ∃ k p : Nat, ∃ B d f, k ≤ m ∧ p ≤ 100000 ∧ i = .int .i64 k ∧ t = .int .i64 p ∧ v = .slice B d f ∧ Hid (p = q / C ^ k) ∧ Hid (Own wr w.heap.size (.slice B d f) (digs C k q)) ∧ Hid (Below w.heap.size w wr)) (fun _ _ i _ => m - (intOf i).toNat)
  case atStart => exact ⟨0, q, _, _, _, Nat.zero_le _, hq, rfl, rfl, rfl, by simp [hide], hide (own_empty (Nat.le_refl _)), hide (below_empty (Below.refl _ _) _)⟩
  case round =>
    obtain ⟨k, p, B, d, f, hk, hp, rfl, rfl, rfl, hpe, ho, hb⟩ := hrel
    by_cases hlt : k < m
    · have hm1 : p % C < C := Nat.mod_lt _ (by omega)
      have hm2 : p / C ≤ p := Nat.div_le_self _ _
      have hs := hb.out.size
      have hs2 := hide (hsn.out k)
      rw [← hpe.out] at hs2
      have hp2 := hide (show p / C = q / C ^ (k + 1) by rw [hpe.out]; exact hdv.out k)
      have hmw := hide (show (Lit.int .i64 ((p : Int) % (C : Int))).wf = true by rw [← Int.natCast_emod]; exact wf_i64 (by omega))
      have hw1 : wrap64 ((p : Int) / (C : Int)) = ((p / C : Nat) : Int) := by
        have e : ((p : Int) / (C : Int)) = ((p / C : Nat) : Int) := (Int.natCast_ediv _ _).symm
        have hz : p / C ≤ 100000 := Nat.le_trans hm2 hp
        rw [e]
        generalize p / C = z at hz ⊢
        simp only [wrap64]; omega
      have hw1 := hide hw1
      have hlen2 := hide (show (digs C k q).length + 1 ≤ 1048576000 by rw [hln.out]; omega)
      go_wp2_with (at_builtin; refine wpList_app _ rfl _ _ 28 rfl i0 Try.underlying28 hi hz0 hz1 hz2 _ (digs C k q) rfl (ho.out.alloc _) _ 1 1 _ [(p : Int) % (C : Int)] rfl (ints_lit1 hmw.out) (by simp; omega) hlen2.out ?_; intro A₃ n₃ c₃ w3 ho3 hg3)
      have hb3 := hide ((hb.out.alloc hs (.cells #[.int .i64 ((p : Int) % (C : Int))] 3)).grown hg3 (by simp; omega) (fun j hj => (ho.out.row.lt j hj).1))
      have ho3 := hide (show Own w3 w.heap.size (.slice A₃ n₃ c₃) (digs C (k + 1) q) by
        rw [hs2.out, Int.natCast_emod]
        exact ho3)
      clear hg3 ho hb hlen2
      go_wp2
      rw [hw1.out]
      go_roundw
      case rel => exact ⟨k + 1, p / C, _, _, _, by omega, Nat.le_trans hm2 hp, by go_num, rfl, rfl, hp2, ho3, hb3⟩
      case measure => simp [intOf]; omega
    · obtain rfl : k = m := by omega
      go_wp2
      go_ret
      exact ⟨_, _, _, rfl, ho.out, hb.out⟩
end Go.Proofs.Ythdelfhfglnhfaa
