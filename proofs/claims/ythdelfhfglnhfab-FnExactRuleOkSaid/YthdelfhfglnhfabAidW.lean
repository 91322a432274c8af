/-
  Contracts of laws' helpers: powerOf, wordOf.
-/
import Derived.Test.YthdelfhfglnhfabDrawUrn
import Derived.Test.YthdelfhfglnhfabPlainS
import Derived.StillTailTactics
namespace Go.Proofs.Ythdelfhfglnhfab
open Go.RowKit

/-! What a step leaves: facts on the world at hand are carried over 'Below' of its whole heap. -/
theorem Ints.up {w w' : World} {n c : Nat} {A : Option Addr} {zs : List Int} (h : Ints w w.heap.size A n c zs) (hq : Below w.heap.size w w') : Ints w' w'.heap.size A n c zs := (h.below hq).more hq.size
theorem Own.up {w w' : World} {base : Nat} {v : Value} {zs : List Int} (h : Own w base v zs) (hq : Below w.heap.size w w') : Own w' base v zs := h.below hq (Nat.le_refl _)
theorem upB {w0 w w' : World} (hb : Below w0.heap.size w0 w) (hq : Below w.heap.size w w') : Below w0.heap.size w0 w' := hb.trans (hq.mono hb.size)
theorem al (w : World) (o : Obj) : Below w.heap.size w (w.alloc o) := (Below.refl _ _).alloc (Nat.le_refl _) o
theorem al_grown {w w3 : World} {o : Obj} {g : Nat} (hg3 : (w.alloc o).grownBy w3 (some g)) (hg : w.heap.size ≤ g) : Below w.heap.size w w3 := (al w o).grown hg3 (by simp) (fun _ hj => (Option.some.inj hj) ▸ hg)

theorem own_made {w : World} {h m : Nat} (ho : w.ownsRow h 3 1 (.slice (some ⟨h, 0, none⟩) m m) m (madeCells (Value.int .i64 0).cells (m * 1)).toList) : Own w h (.slice (some ⟨h, 0, none⟩) m m) (List.replicate m 0) :=
  ⟨by
    have e1 : (madeCells (Value.int .i64 0).cells (m * 1)).toList = (List.replicate m (0 : Int)).map (Value.int .i64) := by
      simp [Value.cells, toList_madeCells_one]
    rw [List.length_replicate, ← e1]; exact ho, fun z hz => by
      have := List.eq_of_mem_replicate hz
      subst this; decide⟩
theorem Ints.emptyS {w : World} {B c : Nat} {A : Option Addr} (hc : c ≤ maxLen) (h0 : A = none → c = 0) : Ints w B A 0 c [] :=
  ⟨rfl, Nat.zero_le _, hc, fun h => absurd h (by omega), (fun _ h => by cases h), h0⟩
/-- The first h elements, and those behind them, of a slice with elements. -/
theorem Ints.takeS {w : World} {B n c h : Nat} {A : Option Addr} {zs : List Int} (hz : Ints w B A n c zs) (hh : h ≤ n) : Ints w B A h c (zs.take h) :=
  ⟨by rw [List.length_take]; have := hz.len; omega, by have := hz.le; omega, hz.big, fun hp => by
    obtain ⟨b, off, e, hb, hc⟩ := hz.cells (by omega)
    exact ⟨b, off, e, hb, fun j x hx => hc j x (by
      have hj : j < h := by have := (List.getElem?_eq_some_iff.1 hx).1; rw [List.length_take] at this; omega
      rwa [List.getElem?_take_of_lt hj] at hx)⟩, fun z hzm => hz.wf z (List.mem_of_mem_take hzm), hz.nil0⟩
theorem Ints.dropS {w : World} {B n c h b off : Nat} {zs : List Int} (hz : Ints w B (some ⟨b, off, none⟩) n c zs) (hh : h ≤ n) : Ints w B (some ⟨b, off + h, none⟩) (n - h) (c - h) (zs.drop h) :=
  ⟨by rw [List.length_drop]; have := hz.len; omega, by have := hz.le; omega, Nat.le_trans (Nat.sub_le _ _) hz.big, fun hp => by
    obtain ⟨b', off', e, hb, hc⟩ := hz.cells (by omega)
    injection e with e
    injection e with e1 e2 _
    subst e1; subst e2
    refine ⟨b, off + h, rfl, hb, fun j x hx => ?_⟩
    rw [Nat.add_assoc]
    exact hc _ x (by rw [← List.getElem?_drop]; exact hx), fun z hzm => hz.wf z (List.mem_of_mem_drop hzm), fun e => by cases e⟩

/-- Two neighbours exchanged in a slice that the call owns: what the walk asks of the two stores. -/
theorem swap_facts {wr w4 : World} {A₄ : Option Addr} {n₄ c₄ k : Nat} {ws : List Int} {x y : Int} (ho : Own w4 wr.heap.size (.slice A₄ n₄ c₄) ws) (hq : Below wr.heap.size wr w4) (hx : ws[k]? = some x) (hy : ws[k + 1]? = some y) (wx : (Lit.int .i64 x).wf = true) (wy : (Lit.int .i64 y).wf = true) :
    ∃ g, A₄ = some ⟨g, 0, none⟩ ∧ ((k : Int) + 1 < (n₄ : Int)) ∧ w4.cell? ⟨g, k, none⟩ = some (.int .i64 x) ∧ w4.frozen? ⟨g, k, none⟩ = false ∧ (w4.setCell ⟨g, k, none⟩ (.int .i64 y)).cell? ⟨g, k + 1, none⟩ = some (.int .i64 y) ∧ (w4.setCell ⟨g, k, none⟩ (.int .i64 y)).frozen? ⟨g, k + 1, none⟩ = false ∧ Below wr.heap.size wr (w4.setCell ⟨g, k, none⟩ (.int .i64 y)) ∧
      Own ((w4.setCell ⟨g, k, none⟩ (.int .i64 y)).setCell ⟨g, k + 1, none⟩ (.int .i64 x)) wr.heap.size (.slice (some ⟨g, 0, none⟩) n₄ c₄) ((ws.set k y).set (k + 1) x) ∧ Below wr.heap.size wr ((w4.setCell ⟨g, k, none⟩ (.int .i64 y)).setCell ⟨g, k + 1, none⟩ (.int .i64 x)) := by
  obtain ⟨g, hA, hg, hgl, hcy, hfy⟩ := ho.at2 hx
  subst hA
  have hn := ho.len
  have hlt := (List.getElem?_eq_some_iff.1 hy).1
  have ho5 := ho.set_ (k := k) y wy
  have hy5 : (ws.set k y)[k + 1]? = some y := by rw [List.getElem?_set_ne (by omega)]; exact hy
  obtain ⟨g2, hA5, hgg, hgl2, hcy2, hfy2⟩ := ho5.at2 hy5
  injection hA5 with e5
  injection e5 with e5 _ _
  subst e5
  have hqb := hq.setCell (p := ⟨g, k, none⟩) hg (.int .i64 y)
  exact ⟨g, rfl, by omega, hcy, hfy, hcy2, hfy2, hqb, ho5.set_ (k := k + 1) x wx, hqb.setCell (p := ⟨g, k + 1, none⟩) hg (.int .i64 x)⟩

theorem pow_mono6 {b m M : Nat} (hb : 1 ≤ b) (hm : m ≤ M) : b ^ m ≤ b ^ M := Nat.pow_le_pow_right hb hm

theorem digs_snoc (C m q : Nat) : digs C (m + 1) q = digs C m q ++ [((q / C ^ m % C : Nat) : Int)] := by
  induction m generalizing q with
  | zero => simp [digs]
  | succ m ih =>
    have h := ih (q / C)
    rw [Nat.div_div_eq_div_mul, Nat.mul_comm, ← Nat.pow_succ] at h
    show ((q % C : Nat) : Int) :: digs C (m + 1) (q / C) = _
    rw [h]; rfl

end Go.Proofs.Ythdelfhfglnhfab
