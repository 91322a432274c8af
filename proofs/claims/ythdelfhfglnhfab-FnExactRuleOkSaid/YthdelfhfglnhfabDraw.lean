/-
  The reader of the drawn inputs: spec.l20Open, pick, odd, l20Urn.
-/
import Derived.Test.YthdelfhfglnhfabApp
import Derived.Test.YthdelfhfglnhfabOks
import Derived.Deep.QuietTactic
import Derived.BigQuiet
namespace Go.Proofs.Ythdelfhfglnhfab
open Go.RowKit

/-- The slice '.slice A n c' holds the bytes bs; its cells lie below block B. -/
structure Bts (w : World) (B : Nat) (A : Option Addr) (n c : Nat) (bs : List Int) : Prop where
  len : bs.length = n
  le : n ≤ c
  big : c ≤ maxLen
  cells : 0 < n → ∃ b off, A = some ⟨b, off, none⟩ ∧ b < B ∧ ∀ j x, bs[j]? = some x → w.cell? ⟨b, off + j, none⟩ = some (.int .u8 x)
  wf : ∀ z ∈ bs, 0 ≤ z ∧ z ≤ 255
section
variable {w w' : World} {B B' n c k : Nat} {A : Option Addr} {bs : List Int}
theorem Bts.look (h : Bts w B A n c bs) (hk : k < n) : ∃ b off x, A = some ⟨b, off, none⟩ ∧ b < B ∧ 0 ≤ x ∧ x ≤ 255 ∧ w.cell? ⟨b, off + k, none⟩ = some (.int .u8 x) := by
  obtain ⟨b, off, e, hb, hc⟩ := h.cells (by omega)
  have hl : k < bs.length := by have := h.len; omega
  have hx := h.wf bs[k] (List.getElem_mem hl)
  exact ⟨b, off, bs[k], e, hb, hx.1, hx.2, hc k _ (List.getElem?_eq_getElem hl)⟩
theorem Bts.keep (h : Bts w B A n c bs) (hk : ∀ p : Addr, p.block < B → w'.cell? p = w.cell? p) : Bts w' B A n c bs :=
  ⟨h.len, h.le, h.big, fun hn => by
    obtain ⟨b, off, e, hb, hc⟩ := h.cells hn
    exact ⟨b, off, e, hb, fun j x hx => (hk _ hb).trans (hc j x hx)⟩, h.wf⟩
theorem Bts.more (h : Bts w B A n c bs) (hB : B ≤ B') : Bts w B' A n c bs :=
  ⟨h.len, h.le, h.big, fun hn => by
    obtain ⟨b, off, e, hb, hc⟩ := h.cells hn
    exact ⟨b, off, e, by omega, hc⟩, h.wf⟩
theorem Bts.below (h : Bts w B A n c bs) (hb : Below B w w') : Bts w' B A n c bs := h.keep fun _ hp => hb.cell hp
theorem bts_of {w : World} {a : Option Addr} {len cap : Nat} {zs : List Int}
    (h : (a = none ∧ len = 0 ∧ cap = 0 ∧ zs = []) ∨ ∃ x, a = some x ∧ len ≤ cap ∧ cap ≤ maxLen ∧ zs.length = cap ∧ (∀ i, i < zs.length → w.cell? (x.add i) = some (.int .u8 (zs.getD i 0))) ∧ ∀ n ∈ zs, (Lit.int .u8 n).wf = true) :
    Bts w w.heap.size a len cap (zs.take len) := by
  rcases h with ⟨rfl, rfl, rfl, rfl⟩ | ⟨x, rfl, hl, hm, hz, hc, hw⟩
  · exact ⟨rfl, Nat.le_refl _, Nat.zero_le _, fun h => absurd h (by omega), (fun _ h => by cases h)⟩
  · refine ⟨by rw [List.length_take]; omega, hl, hm, fun hp => ?_, fun z hz => ?_⟩
    · obtain ⟨b, off, spot⟩ := x
      have h0 := hc 0 (by omega)
      have hspot : spot = none := by simpa [Addr.add] using World.cell?_spot h0
      subst hspot
      refine ⟨b, off, rfl, ?_, fun j y hy => ?_⟩
      · have := World.block_lt_of_cell? w _ h0
        simpa [Addr.add] using this
      · have hj : j < len := by
          have := (List.getElem?_eq_some_iff.1 hy).1
          rw [List.length_take] at this
          omega
        have h1 := hc j (by omega)
        rw [List.getElem?_take_of_lt hj] at hy
        have e : (Addr.mk b off none).add j = ⟨b, off + j, none⟩ := by
          unfold Addr.add
          by_cases hj0 : j = 0 <;> simp [hj0]
        rw [e] at h1
        rw [h1]
        simp [hy]
    · have := hw z (List.mem_of_mem_take hz)
      simpa [Lit.wf, IntKind.min, IntKind.max, IntKind.signed, IntKind.bits] using this
end

theorem xor_small (a b : Nat) (ha : a < 2147483648) (hb : b < 2147483648) : ∃ z : Nat, z < 2147483648 ∧ bits .xor .i64 (a : Int) (b : Int) = (z : Int) := by
  refine ⟨a ^^^ b, Nat.xor_lt_two_pow (n := 31) ha hb, ?_⟩
  have hx : a ^^^ b < 2 ^ 31 := Nat.xor_lt_two_pow ha hb
  have e : ∀ m : Nat, m < 2147483648 → (BitVec.ofInt 64 (m : Int)).toNat = m := fun m hm => by
    rw [BitVec.ofInt_natCast, BitVec.toNat_ofNat]; exact Nat.mod_eq_of_lt (by omega)
  show IntKind.i64.wrap ((BitVec.ofInt 64 (a : Int) ^^^ BitVec.ofInt 64 (b : Int)).toNat : Int) = _
  rw [BitVec.toNat_xor, e a ha, e b hb, IntKind.wrap_i64]
  omega

theorem only_drewN {a w : World} {row : Option Nat} (h : a.grownBy w row) (n : Nat) : a.grownBy (w.drewN n) row := ⟨h.os, h.tape, h.output, h.size, h.block⟩

end Go.Proofs.Ythdelfhfglnhfab
