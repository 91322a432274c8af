/-
  Words, plain lemmas and contracts that belong together, joined into one file.
-/
import Derived.Test.YtoafpokcbbncfaaZpl
import Derived.Test.YtoafpokcbbncfaaZoks
import Derived.Deep.QuietTactic
import Derived.BigQuiet
import Derived.StillTailTactics
namespace Go.Proofs.Ytoafpokcbbncfaa
open Go.RowKit

/-- The slice '.slice A n c' holds the bytes bs; its cells lie below block B. -/
structure Bts (w : World) (B : Nat) (A : Option Addr) (n c : Nat) (bs : List Int) : Prop where
  len : bs.length = n
  le : n ≤ c
  big : c ≤ maxLen
  cells : 0 < n → ∃ b off, A = some ⟨b, off, none⟩ ∧ b < B ∧ ∀ j x, bs[j]? = some x → w.cell? ⟨b, off + j, none⟩ = some (.int .u8 x)
  wf : ∀ z ∈ bs, 0 ≤ z ∧ z ≤ 255
section
variable {w w' : World} {B B' n c k : Nat} {A : Option Addr} {bs : List Int}
theorem Bts.look (h : Bts w B A n c bs) (hk : k < n) : ∃ b off x, A = some ⟨b, off, none⟩ ∧ b < B ∧ 0 ≤ x ∧ x ≤ 255 ∧ w.cell? ⟨b, off + k, none⟩ = some (.int .u8 x) := by
  obtain ⟨b, off, e, hb, hc⟩ := h.cells (by omega)
  have hl : k < bs.length := by have := h.len; omega
  have hx := h.wf bs[k] (List.getElem_mem hl)
  exact ⟨b, off, bs[k], e, hb, hx.1, hx.2, hc k _ (List.getElem?_eq_getElem hl)⟩
theorem Bts.keep (h : Bts w B A n c bs) (hk : ∀ p : Addr, p.block < B → w'.cell? p = w.cell? p) : Bts w' B A n c bs :=
  ⟨h.len, h.le, h.big, fun hn => by
    obtain ⟨b, off, e, hb, hc⟩ := h.cells hn
    exact ⟨b, off, e, hb, fun j x hx => (hk _ hb).trans (hc j x hx)⟩, h.wf⟩
theorem Bts.more (h : Bts w B A n c bs) (hB : B ≤ B') : Bts w B' A n c bs :=
  ⟨h.len, h.le, h.big, fun hn => by
    obtain ⟨b, off, e, hb, hc⟩ := h.cells hn
    exact ⟨b, off, e, by omega, hc⟩, h.wf⟩
theorem Bts.below (h : Bts w B A n c bs) (hb : Below B w w') : Bts w' B A n c bs := h.keep fun _ hp => hb.cell hp
theorem bts_of {w : World} {a : Option Addr} {len cap : Nat} {zs : List Int}
    (h : (a = none ∧ len = 0 ∧ cap = 0 ∧ zs = []) ∨ ∃ x, a = some x ∧ len ≤ cap ∧ cap ≤ maxLen ∧ zs.length = cap ∧ (∀ i, i < zs.length → w.cell? (x.add i) = some (.int .u8 (zs.getD i 0))) ∧ ∀ n ∈ zs, (Lit.int .u8 n).wf = true) :
    Bts w w.heap.size a len cap (zs.take len) := by
  rcases h with ⟨rfl, rfl, rfl, rfl⟩ | ⟨x, rfl, hl, hm, hz, hc, hw⟩
  · exact ⟨rfl, Nat.le_refl _, Nat.zero_le _, fun h => absurd h (by omega), (fun _ h => by cases h)⟩
  · refine ⟨by rw [List.length_take]; omega, hl, hm, fun hp => ?_, fun z hz => ?_⟩
    · obtain ⟨b, off, spot⟩ := x
      have h0 := hc 0 (by omega)
      have hspot : spot = none := by simpa [Addr.add] using World.cell?_spot h0
      subst hspot
      refine ⟨b, off, rfl, ?_, fun j y hy => ?_⟩
      · have := World.block_lt_of_cell? w _ h0
        simpa [Addr.add] using this
      · have hj : j < len := by
          have := (List.getElem?_eq_some_iff.1 hy).1
          rw [List.length_take] at this
          omega
        have h1 := hc j (by omega)
        rw [List.getElem?_take_of_lt hj] at hy
        have e : (Addr.mk b off none).add j = ⟨b, off + j, none⟩ := by
          unfold Addr.add
          by_cases hj0 : j = 0 <;> simp [hj0]
        rw [e] at h1
        rw [h1]
        simp [hy]
    · have := hw z (List.mem_of_mem_take hz)
      simpa [Lit.wf, IntKind.min, IntKind.max, IntKind.signed, IntKind.bits] using this
end

theorem xor_small (a b : Nat) (ha : a < 2147483648) (hb : b < 2147483648) : ∃ z : Nat, z < 2147483648 ∧ bits .xor .i64 (a : Int) (b : Int) = (z : Int) := by
  refine ⟨a ^^^ b, Nat.xor_lt_two_pow (n := 31) ha hb, ?_⟩
  have hx : a ^^^ b < 2 ^ 31 := Nat.xor_lt_two_pow ha hb
  have e : ∀ m : Nat, m < 2147483648 → (BitVec.ofInt 64 (m : Int)).toNat = m := fun m hm => by
    rw [BitVec.ofInt_natCast, BitVec.toNat_ofNat]; exact Nat.mod_eq_of_lt (by omega)
  show IntKind.i64.wrap ((BitVec.ofInt 64 (a : Int) ^^^ BitVec.ofInt 64 (b : Int)).toNat : Int) = _
  rw [BitVec.toNat_xor, e a ha, e b hb, IntKind.wrap_i64]
  omega

theorem only_drewN {a w : World} {row : Option Nat} (h : a.grownBy w row) (n : Nat) : a.grownBy (w.drewN n) row := ⟨h.os, h.tape, h.output, h.size, h.block⟩

end Go.Proofs.Ytoafpokcbbncfaa

namespace Go.Proofs.Ytoafpokcbbncfaa
open Go.RowKit

theorem grown_new {a b c : World} {row : Option Nat} {q : Option Nat} (h : a.grownBy b row) (k : b.grownBy c q) (hq : ∀ j, q = some j → a.heap.size ≤ j ∨ q = row) : a.grownBy c row :=
  ⟨k.os.trans h.os, k.tape.trans h.tape, k.output.trans h.output, Nat.le_trans h.size k.size, fun i hi hne => (k.block i (Nat.lt_of_lt_of_le hi h.size) (fun e => by
    rcases hq i e.symm with h1 | h1
    · omega
    · exact hne (e.trans h1))).trans (h.block i hi hne)⟩
theorem grown_alloc {a b : World} {row : Option Nat} (h : a.grownBy b row) (o : Obj) : a.grownBy (b.alloc o) row :=
  grown_new h (World.grownBy_alloc b o none) (fun _ e => by cases e)

theorem ints_lit {w : World} (xs : List Int) (hx : ∀ x ∈ xs, (Lit.int .i64 x).wf = true) (hn : xs.length ≤ 1000) {cs : Array Value} (hc : cs = (xs.map (Value.int .i64)).toArray) : Own (w.alloc (.cells cs 3)) w.heap.size (.slice (some ⟨w.heap.size, 0, none⟩) xs.length xs.length) xs := by
  subst hc
  have := World.ownsRow_lit (e := 3) (size := 1) w (xs.map (Value.int .i64)).toArray xs.length (Nat.le_refl _) (by unfold maxLen; omega) (by simp)
  exact ⟨by simpa using this, hx⟩

theorem Own.past {w w' : World} {base g : Nat} {v : Value} {zs : List Int} (h : Own w base v zs) (hg : w.grownBy w' (some g)) (hlt : g < base) : Own w' base v zs :=
  h.kept hg (by
    cases hk : v.ownBlock with
    | none => exact .inl rfl
    | some k => exact .inr (fun e => by injection e with e; have := (h.row.lt k hk).1; omega))

end Go.Proofs.Ytoafpokcbbncfaa

namespace Go.Proofs.Ytoafpokcbbncfaa
open Go.RowKit

/-! What a step leaves: facts on the world at hand are carried over 'Below' of its whole heap. -/
theorem Ints.up {w w' : World} {n c : Nat} {A : Option Addr} {zs : List Int} (h : Ints w w.heap.size A n c zs) (hq : Below w.heap.size w w') : Ints w' w'.heap.size A n c zs := (h.below hq).more hq.size
theorem Own.up {w w' : World} {base : Nat} {v : Value} {zs : List Int} (h : Own w base v zs) (hq : Below w.heap.size w w') : Own w' base v zs := h.below hq (Nat.le_refl _)
theorem upB {w0 w w' : World} (hb : Below w0.heap.size w0 w) (hq : Below w.heap.size w w') : Below w0.heap.size w0 w' := hb.trans (hq.mono hb.size)
theorem al (w : World) (o : Obj) : Below w.heap.size w (w.alloc o) := (Below.refl _ _).alloc (Nat.le_refl _) o
theorem al_grown {w w3 : World} {o : Obj} {g : Nat} (hg3 : (w.alloc o).grownBy w3 (some g)) (hg : w.heap.size ≤ g) : Below w.heap.size w w3 := (al w o).grown hg3 (by simp) (fun _ hj => (Option.some.inj hj) ▸ hg)

theorem own_made {w : World} {h m : Nat} (ho : w.ownsRow h 3 1 (.slice (some ⟨h, 0, none⟩) m m) m (madeCells (Value.int .i64 0).cells (m * 1)).toList) : Own w h (.slice (some ⟨h, 0, none⟩) m m) (List.replicate m 0) :=
  ⟨by
    have e1 : (madeCells (Value.int .i64 0).cells (m * 1)).toList = (List.replicate m (0 : Int)).map (Value.int .i64) := by
      simp [Value.cells, toList_madeCells_one]
    rw [List.length_replicate, ← e1]; exact ho, fun z hz => by
      have := List.eq_of_mem_replicate hz
      subst this; decide⟩
theorem Ints.emptyS {w : World} {B c : Nat} {A : Option Addr} (hc : c ≤ maxLen) (h0 : A = none → c = 0) : Ints w B A 0 c [] :=
  ⟨rfl, Nat.zero_le _, hc, fun h => absurd h (by omega), (fun _ h => by cases h), h0⟩
/-- The first h elements, and those behind them, of a slice with elements. -/
theorem Ints.takeS {w : World} {B n c h : Nat} {A : Option Addr} {zs : List Int} (hz : Ints w B A n c zs) (hh : h ≤ n) : Ints w B A h c (zs.take h) :=
  ⟨by rw [List.length_take]; have := hz.len; omega, by have := hz.le; omega, hz.big, fun hp => by
    obtain ⟨b, off, e, hb, hc⟩ := hz.cells (by omega)
    exact ⟨b, off, e, hb, fun j x hx => hc j x (by
      have hj : j < h := by have := (List.getElem?_eq_some_iff.1 hx).1; rw [List.length_take] at this; omega
      rwa [List.getElem?_take_of_lt hj] at hx)⟩, fun z hzm => hz.wf z (List.mem_of_mem_take hzm), hz.nil0⟩
theorem Ints.dropS {w : World} {B n c h b off : Nat} {zs : List Int} (hz : Ints w B (some ⟨b, off, none⟩) n c zs) (hh : h ≤ n) : Ints w B (some ⟨b, off + h, none⟩) (n - h) (c - h) (zs.drop h) :=
  ⟨by rw [List.length_drop]; have := hz.len; omega, by have := hz.le; omega, Nat.le_trans (Nat.sub_le _ _) hz.big, fun hp => by
    obtain ⟨b', off', e, hb, hc⟩ := hz.cells (by omega)
    injection e with e
    injection e with e1 e2 _
    subst e1; subst e2
    refine ⟨b, off + h, rfl, hb, fun j x hx => ?_⟩
    rw [Nat.add_assoc]
    exact hc _ x (by rw [← List.getElem?_drop]; exact hx), fun z hzm => hz.wf z (List.mem_of_mem_drop hzm), fun e => by cases e⟩

/-- Two neighbours exchanged in a slice that the call owns: what the walk asks of the two stores. -/
theorem swap_facts {wr w4 : World} {A₄ : Option Addr} {n₄ c₄ k : Nat} {ws : List Int} {x y : Int} (ho : Own w4 wr.heap.size (.slice A₄ n₄ c₄) ws) (hq : Below wr.heap.size wr w4) (hx : ws[k]? = some x) (hy : ws[k + 1]? = some y) (wx : (Lit.int .i64 x).wf = true) (wy : (Lit.int .i64 y).wf = true) :
    ∃ g, A₄ = some ⟨g, 0, none⟩ ∧ ((k : Int) + 1 < (n₄ : Int)) ∧ w4.cell? ⟨g, k, none⟩ = some (.int .i64 x) ∧ w4.frozen? ⟨g, k, none⟩ = false ∧ (w4.setCell ⟨g, k, none⟩ (.int .i64 y)).cell? ⟨g, k + 1, none⟩ = some (.int .i64 y) ∧ (w4.setCell ⟨g, k, none⟩ (.int .i64 y)).frozen? ⟨g, k + 1, none⟩ = false ∧ Below wr.heap.size wr (w4.setCell ⟨g, k, none⟩ (.int .i64 y)) ∧
      Own ((w4.setCell ⟨g, k, none⟩ (.int .i64 y)).setCell ⟨g, k + 1, none⟩ (.int .i64 x)) wr.heap.size (.slice (some ⟨g, 0, none⟩) n₄ c₄) ((ws.set k y).set (k + 1) x) ∧ Below wr.heap.size wr ((w4.setCell ⟨g, k, none⟩ (.int .i64 y)).setCell ⟨g, k + 1, none⟩ (.int .i64 x)) := by
  obtain ⟨g, hA, hg, hgl, hcy, hfy⟩ := ho.at2 hx
  subst hA
  have hn := ho.len
  have hlt := (List.getElem?_eq_some_iff.1 hy).1
  have ho5 := ho.set_ (k := k) y wy
  have hy5 : (ws.set k y)[k + 1]? = some y := by rw [List.getElem?_set_ne (by omega)]; exact hy
  obtain ⟨g2, hA5, hgg, hgl2, hcy2, hfy2⟩ := ho5.at2 hy5
  injection hA5 with e5
  injection e5 with e5 _ _
  subst e5
  have hqb := hq.setCell (p := ⟨g, k, none⟩) hg (.int .i64 y)
  exact ⟨g, rfl, by omega, hcy, hfy, hcy2, hfy2, hqb, ho5.set_ (k := k + 1) x wx, hqb.setCell (p := ⟨g, k + 1, none⟩) hg (.int .i64 x)⟩

theorem pow_mono6 {b m M : Nat} (hb : 1 ≤ b) (hm : m ≤ M) : b ^ m ≤ b ^ M := Nat.pow_le_pow_right hb hm

theorem digs_snoc (C m q : Nat) : digs C (m + 1) q = digs C m q ++ [((q / C ^ m % C : Nat) : Int)] := by
  induction m generalizing q with
  | zero => simp [digs]
  | succ m ih =>
    have h := ih (q / C)
    rw [Nat.div_div_eq_div_mul, Nat.mul_comm, ← Nat.pow_succ] at h
    show ((q % C : Nat) : Int) :: digs C (m + 1) (q / C) = _
    rw [h]; rfl

end Go.Proofs.Ytoafpokcbbncfaa

namespace Go.Proofs.Ytoafpokcbbncfaa
open Go.RowKit

end Go.Proofs.Ytoafpokcbbncfaa
