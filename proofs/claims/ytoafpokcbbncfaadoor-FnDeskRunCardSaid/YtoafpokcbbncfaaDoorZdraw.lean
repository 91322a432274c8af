/-
  Words, plain lemmas and contracts that belong together, joined into one file.
-/
import Derived.Test.YtoafpokcbbncfaaDoorZpl
import Derived.Test.YtoafpokcbbncfaaDoorZoks
import Derived.Deep.QuietTactic
import Derived.BigQuiet
import Derived.StillTailTactics
namespace Go.Proofs.YtoafpokcbbncfaaDoor
open Go.RowKit

/-- The slice '.slice A n c' holds the bytes bs; its cells lie below block B. -/
structure Bts (w : World) (B : Nat) (A : Option Addr) (n c : Nat) (bs : List Int) : Prop where
  len : bs.length = n
  le : n ≤ c
  big : c ≤ maxLen
  cells : 0 < n → ∃ b off, A = some ⟨b, off, none⟩ ∧ b < B ∧ ∀ j x, bs[j]? = some x → w.cell? ⟨b, off + j, none⟩ = some (.int .u8 x)
  wf : ∀ z ∈ bs, 0 ≤ z ∧ z ≤ 255
section
variable {w w' : World} {B B' n c k : Nat} {A : Option Addr} {bs : List Int}
theorem Bts.look (h : Bts w B A n c bs) (hk : k < n) : ∃ b off x, A = some ⟨b, off, none⟩ ∧ b < B ∧ 0 ≤ x ∧ x ≤ 255 ∧ w.cell? ⟨b, off + k, none⟩ = some (.int .u8 x) := by
  obtain ⟨b, off, e, hb, hc⟩ := h.cells (by omega)
  have hl : k < bs.length := by have := h.len; omega
  have hx := h.wf bs[k] (List.getElem_mem hl)
  exact ⟨b, off, bs[k], e, hb, hx.1, hx.2, hc k _ (List.getElem?_eq_getElem hl)⟩
theorem Bts.keep (h : Bts w B A n c bs) (hk : ∀ p : Addr, p.block < B → w'.cell? p = w.cell? p) : Bts w' B A n c bs :=
  ⟨h.len, h.le, h.big, fun hn => by
    obtain ⟨b, off, e, hb, hc⟩ := h.cells hn
    exact ⟨b, off, e, hb, fun j x hx => (hk _ hb).trans (hc j x hx)⟩, h.wf⟩
theorem Bts.more (h : Bts w B A n c bs) (hB : B ≤ B') : Bts w B' A n c bs :=
  ⟨h.len, h.le, h.big, fun hn => by
    obtain ⟨b, off, e, hb, hc⟩ := h.cells hn
    exact ⟨b, off, e, by omega, hc⟩, h.wf⟩
theorem Bts.below (h : Bts w B A n c bs) (hb : Below B w w') : Bts w' B A n c bs := h.keep fun _ hp => hb.cell hp
theorem bts_of {w : World} {a : Option Addr} {len cap : Nat} {zs : List Int}
    (h : (a = none ∧ len = 0 ∧ cap = 0 ∧ zs = []) ∨ ∃ x, a = some x ∧ len ≤ cap ∧ cap ≤ maxLen ∧ zs.length = cap ∧ (∀ i, i < zs.length → w.cell? (x.add i) = some (.int .u8 (zs.getD i 0))) ∧ ∀ n ∈ zs, (Lit.int .u8 n).wf = true) :
    Bts w w.heap.size a len cap (zs.take len) := by
  rcases h with ⟨rfl, rfl, rfl, rfl⟩ | ⟨x, rfl, hl, hm, hz, hc, hw⟩
  · exact ⟨rfl, Nat.le_refl _, Nat.zero_le _, fun h => absurd h (by omega), (fun _ h => by cases h)⟩
  · refine ⟨by rw [List.length_take]; omega, hl, hm, fun hp => ?_, fun z hz => ?_⟩
    · obtain ⟨b, off, spot⟩ := x
      have h0 := hc 0 (by omega)
      have hspot : spot = none := by simpa [Addr.add] using World.cell?_spot h0
      subst hspot
      refine ⟨b, off, rfl, ?_, fun j y hy => ?_⟩
      · have := World.block_lt_of_cell? w _ h0
        simpa [Addr.add] using this
      · have hj : j < len := by
          have := (List.getElem?_eq_some_iff.1 hy).1
          rw [List.length_take] at this
          omega
        have h1 := hc j (by omega)
        rw [List.getElem?_take_of_lt hj] at hy
        have e : (Addr.mk b off none).add j = ⟨b, off + j, none⟩ := by
          unfold Addr.add
          by_cases hj0 : j = 0 <;> simp [hj0]
        rw [e] at h1
        rw [h1]
        simp [hy]
    · have := hw z (List.mem_of_mem_take hz)
      simpa [Lit.wf, IntKind.min, IntKind.max, IntKind.signed, IntKind.bits] using this
end

/-- The reader in block g: its bytes lie below g; it has read at most m times. -/
def Rd (w : World) (g m : Nat) : Prop :=
  ∃ A n c bs, ∃ p : Nat, w.heap[g]? = some (.cells #[.slice A n c, .int .i64 (p : Int)] 124 (0, 0)) ∧ Bts w g A n c bs ∧ n ≤ 2000 ∧ p ≤ m
theorem Rd.lt {w : World} {g m : Nat} (h : Rd w g m) : g < w.heap.size := by
  obtain ⟨A, n, c, bs, p, hg, _⟩ := h
  exact (Array.getElem?_eq_some_iff.1 hg).1
theorem Rd.kept {w w' : World} {g m : Nat} {row : Option Nat} (h : Rd w g m) (hg : w.grownBy w' row) (hr : ∀ k, row = some k → g < k) : Rd w' g m := by
  have hlt := h.lt
  obtain ⟨A, n, c, bs, p, h1, h2, h3⟩ := h
  refine ⟨A, n, c, bs, p, ?_, h2.keep fun q hq => ?_, h3⟩
  · rw [hg.block g hlt (fun e => by have := hr g e.symm; omega)]; exact h1
  · exact World.cell?_of_block (hg.block q.block (by omega) (fun e => by have := hr _ e.symm; omega))
theorem Rd.drewN {w : World} {g m : Nat} (h : Rd w g m) (n : Nat) : Rd (w.drewN n) g m :=
  h.kept (row := none) ⟨rfl, rfl, rfl, Nat.le_refl _, fun _ _ _ => rfl⟩ (fun _ e => by cases e)
theorem Rd.more {w : World} {g m m' : Nat} (h : Rd w g m) (hm : m ≤ m') : Rd w g m' := by
  obtain ⟨A, n, c, bs, p, h1, h2, h3, h4⟩ := h
  exact ⟨A, n, c, bs, p, h1, h2, h3, by omega⟩

theorem xor_small (a b : Nat) (ha : a < 2147483648) (hb : b < 2147483648) : ∃ z : Nat, z < 2147483648 ∧ bits .xor .i64 (a : Int) (b : Int) = (z : Int) := by
  refine ⟨a ^^^ b, Nat.xor_lt_two_pow (n := 31) ha hb, ?_⟩
  have hx : a ^^^ b < 2 ^ 31 := Nat.xor_lt_two_pow ha hb
  have e : ∀ m : Nat, m < 2147483648 → (BitVec.ofInt 64 (m : Int)).toNat = m := fun m hm => by
    rw [BitVec.ofInt_natCast, BitVec.toNat_ofNat]; exact Nat.mod_eq_of_lt (by omega)
  show IntKind.i64.wrap ((BitVec.ofInt 64 (a : Int) ^^^ BitVec.ofInt 64 (b : Int)).toNat : Int) = _
  rw [BitVec.toNat_xor, e a ha, e b hb, IntKind.wrap_i64]
  omega

theorem pick_none (g m : Nat) (n : Int) (w : World) (h : Rd w g m) (hm : m ≤ 100000) (hn : n < 1) :
    Calls Tryd.prog 95 #[.pointer (some ⟨g, 0, none⟩), .int .i64 n] w fun e w' => e = .returned (.int .i64 0) ∧ Rd w' g (m + 1) ∧ w.grownBy w' (some g) := by
  obtain ⟨A, k, c, bs, p, hg, hB, hk, hp⟩ := h
  have hb : w.cell? ⟨g, 0, none⟩ = some (.slice A k c) := by simp [cell_of_row w g 0 _ _ (0, 0) hg]
  have hpc : w.cell? ⟨g, 1, none⟩ = some (.int .i64 p) := by simp [cell_of_row w g 1 _ _ (0, 0) hg]
  have hf : w.frozen? ⟨g, 1, none⟩ = false := frozen_of_row w g 1 _ _ hg
  have hR := hide (show Rd (w.setCell ⟨g, 1, none⟩ (.int .i64 ((p : Int) + 1))) g (m + 1) from ⟨A, k, c, bs, p + 1, by rw [heap_setCell_same w g 1 _ _ _ hg]; rfl, hB.keep (fun q hq => World.cell?_setCell_other w _ q _ (fun e => by subst e; exact absurd hq (by simp))), hk, by omega⟩)
  have hG := hide (show w.grownBy (w.setCell ⟨g, 1, none⟩ (.int .i64 ((p : Int) + 1))) (some g) from ⟨rfl, rfl, rfl, by simp, fun q _ hq => heap_setCell_other w ⟨g, 1, none⟩ q _ (fun e => hq (by simp [e]))⟩)
  clear hg hB
  go_enter Tryd.func95, Tryd.ntmps95
  go_wp2
  go_ret
  exact ⟨rfl, hR.out, hG.out⟩

/-- A pick of n at least 1: a number from 0 to n - 1; one more is read, and nothing else has turned. -/
def Picked (g m : Nat) (n : Int) (w : World) (e : Ending) (w' : World) : Prop := ∃ x : Int, e = .returned (.int .i64 x) ∧ 0 ≤ x ∧ x < n ∧ Rd w' g (m + 1) ∧ w.grownBy w' (some g)

theorem only_drewN {a w : World} {row : Option Nat} (h : a.grownBy w row) (n : Nat) : a.grownBy (w.drewN n) row := ⟨h.os, h.tape, h.output, h.size, h.block⟩

set_option maxHeartbeats 2000000 in
theorem pick_c (g m : Nat) (n : Int) (w : World) (h : Rd w g m) (hm : m ≤ 100000) (hn : 1 ≤ n) (hn2 : n ≤ 1000000) :
    Calls Tryd.prog 95 #[.pointer (some ⟨g, 0, none⟩), .int .i64 n] w (Picked g m n w) := by
  obtain ⟨A, k, c, bs, p, hg, hB, hk, hp⟩ := h
  have hb : w.cell? ⟨g, 0, none⟩ = some (.slice A k c) := by simp [cell_of_row w g 0 _ _ (0, 0) hg]
  have hpc : w.cell? ⟨g, 1, none⟩ = some (.int .i64 p) := by simp [cell_of_row w g 1 _ _ (0, 0) hg]
  have hf : w.frozen? ⟨g, 1, none⟩ = false := frozen_of_row w g 1 _ _ hg
  have hB2 := hide (hB.keep (w' := w.setCell ⟨g, 1, none⟩ (.int .i64 ((p : Int) + 1))) (fun q hq => World.cell?_setCell_other w _ q _ (fun e => by subst e; exact absurd hq (by simp))))
  have hR := hide (show Rd (w.setCell ⟨g, 1, none⟩ (.int .i64 ((p : Int) + 1))) g (m + 1) from ⟨A, k, c, bs, p + 1, by rw [heap_setCell_same w g 1 _ _ _ hg]; rfl, hB2.out, hk, by omega⟩)
  have hG := hide (show w.grownBy (w.setCell ⟨g, 1, none⟩ (.int .i64 ((p : Int) + 1))) (some g) from ⟨rfl, rfl, rfl, by simp, fun q _ hq => heap_setCell_other w ⟨g, 1, none⟩ q _ (fun e => hq (by simp [e]))⟩)
  clear hg hB
  by_cases h0 : k = 0
  · subst h0
    go_enter Tryd.func95, Tryd.ntmps95
    go_wp2
    go_ret
    exact ⟨0, rfl, by omega, by omega, hR.out, hG.out⟩
  · by_cases hpk : p < k
    · obtain ⟨b, off, x, rfl, hbB, hx0, hx1, hcell⟩ := hB2.out.look hpk
      have hk0 : ((k : Int) == 0) = false := by simp; omega
      have hr1 : 0 ≤ x % n := Int.emod_nonneg _ (by omega)
      have hr2 : x % n < n := Int.emod_lt_of_pos _ (by omega)
      have hne : (n == 0) = false := by simp; omega
      clear h0
      go_enter Tryd.func95, Tryd.ntmps95
      go_wp2
      go_ret
      exact ⟨x % n, rfl, hr1, hr2, hR.out, hG.out⟩
    · have hk0 : ((k : Int) == 0) = false := by simp; omega
      have hkp : 0 < k := by omega
      have hl1 : p % k < k := Nat.mod_lt _ hkp
      have hl2 : (p * 7 + 3) % k < k := Nat.mod_lt _ hkp
      have hql : p / k ≤ 100000 := Nat.le_trans (Nat.div_le_self _ _) (by omega)
      obtain ⟨b, off, x1, hA, hbB, hx0, hx1, hcell1⟩ := hB2.out.look hl1
      obtain ⟨b', off', x2, hA', _, hy0, hy1, hcell2⟩ := hB2.out.look hl2
      subst hA
      injection hA' with hA'
      injection hA' with e1 e2
      subst e1; subst e2
      have r1 : IntKind.i64.wrap ((p : Int) * 7) = (p : Int) * 7 := IntWalk.i64_in _ (by omega)
      have r2 : IntKind.i64.wrap ((p : Int) * 7 + 3) = (p : Int) * 7 + 3 := IntWalk.i64_in _ (by omega)
      have r6 : IntKind.i64.wrap x1 = x1 := IntWalk.i64_in _ (by omega)
      have r7 : IntKind.i64.wrap x2 = x2 := IntWalk.i64_in _ (by omega)
      have r8 : IntKind.i64.wrap (x1 * 131) = x1 * 131 := IntWalk.i64_in _ (by omega)
      have r9 : IntKind.i64.wrap (x2 * 1117) = x2 * 1117 := IntWalk.i64_in _ (by omega)
      have r10 : IntKind.i64.wrap (x1 * 131 + x2 * 1117) = x1 * 131 + x2 * 1117 := IntWalk.i64_in _ (by omega)
      have r11 : IntKind.i64.wrap ((p : Int) * 29) = (p : Int) * 29 := IntWalk.i64_in _ (by omega)
      have r12 : IntKind.i64.wrap (x1 * 131 + x2 * 1117 + (p : Int) * 29) = x1 * 131 + x2 * 1117 + (p : Int) * 29 := IntWalk.i64_in _ (by omega)
      have s1 : (0 : Int) ≤ ((p : Int) * 7 + 3) % (k : Int) := Int.emod_nonneg _ (by omega)
      have s2 : ((p : Int) * 7 + 3) % (k : Int) < (k : Int) := Int.emod_lt_of_pos _ (by omega)
      have s3 : (((p : Int) * 7 + 3) % (k : Int)).toNat = (p * 7 + 3) % k := by
        have e : ((p : Int) * 7 + 3) % (k : Int) = (((p * 7 + 3) % k : Nat) : Int) := by rw [Int.natCast_emod]; rfl
        rw [e]; rfl
      clear h0 hn2
      go_enter Tryd.func95, Tryd.ntmps95
      go_wp2
      go_quiet (fail)
      obtain ⟨X, hXe, hX⟩ : ∃ X : Nat, wrap64 (x1 * 131 + x2 * 1117 + (p : Int) * 29 + wrap64 (wrap64 ((p : Int) / (k : Int)) * 53)) = (X : Int) ∧ X < 2147483648 := by
        obtain ⟨Q, hQe, hQ⟩ : ∃ Q : Nat, (p : Int) / (k : Int) = (Q : Int) ∧ Q ≤ 100000 := ⟨p / k, by rw [Int.natCast_ediv], hql⟩
        rw [hQe]
        clear hQe r1 r2 r6 r7 r8 r9 r10 r11 r12 s1 s2 s3 hcell1 hcell2
        rw [IntWalk.wrap64_in (Q : Int) (by omega), IntWalk.wrap64_in ((Q : Int) * 53) (by omega), IntWalk.wrap64_in _ (by omega)]
        exact ⟨(x1 * 131 + x2 * 1117 + (p : Int) * 29 + (Q : Int) * 53).toNat, by omega, by omega⟩
      rw [hXe]
      obtain ⟨z, hz, hxor⟩ := xor_small X (X / 64) hX (by omega)
      have hr1 : 0 ≤ (z : Int) % n := Int.emod_nonneg _ (by omega)
      have hr2 : (z : Int) % n < n := Int.emod_lt_of_pos _ (by omega)
      have hne : (n == 0) = false := by simp; omega
      have hxor2 : bits .xor .i64 (X : Int) ((X : Int) / 64) = (z : Int) := by rw [← hxor, Int.natCast_ediv]; rfl
      clear hXe r1 r2 r6 r7 r8 r9 r10 r11 r12 s1 s2 s3 hcell1 hcell2 hl1 hl2 hql hB2 hb hpc hf hxor hx0 hx1 hy0 hy1
      go_wp2
      go_ret
      exact ⟨(z : Int) % n, rfl, hr1, hr2, hR.out.drewN _, only_drewN hG.out _⟩

/-- A pick of n, whatever n. -/
theorem pick_any (g m : Nat) (n : Int) (w : World) (h : Rd w g m) (hm : m ≤ 100000) (hn2 : n ≤ 1000000) :
    Calls Tryd.prog 95 #[.pointer (some ⟨g, 0, none⟩), .int .i64 n] w fun e w' => ∃ x : Int, e = .returned (.int .i64 x) ∧ 0 ≤ x ∧ (x < n ∨ x = 0) ∧ Rd w' g (m + 1) ∧ w.grownBy w' (some g) := by
  by_cases hn : 1 ≤ n
  · exact (pick_c g m n w h hm hn hn2).mono fun e w' ⟨x, he, h0, h1, h2⟩ => ⟨x, he, h0, .inl h1, h2⟩
  · exact (pick_none g m n w h hm (by omega)).mono fun e w' ⟨he, h2⟩ => ⟨0, he, Int.le_refl _, .inr rfl, h2⟩

theorem odd_c (g m : Nat) (n : Int) (w : World) (h : Rd w g m) (hm : m ≤ 100000) (hn : 1 ≤ n) (hn2 : n ≤ 1000000) :
    Calls Tryd.prog 67 #[.pointer (some ⟨g, 0, none⟩), .int .i64 n] w fun e w' => ∃ b : Bool, e = .returned (.bool b) ∧ Rd w' g (m + 1) ∧ w.grownBy w' (some g) := by
  have HP := hide (pick_c g m n w h hm hn hn2)
  go_enter Tryd.func67, Tryd.ntmps67
  go_wp2_with fail
  refine HP.out.mono ?_
  rintro e w1 ⟨x, rfl, h0, h1, hr, hg⟩
  go_wp2_with fail
  go_ret
  exact ⟨_, rfl, hr, hg⟩

set_option maxHeartbeats 400000 in
theorem open_c (A : Option Addr) (n c : Nat) (bs : List Int) (w : World) (h : Bts w w.heap.size A n c bs) :
    Calls Tryd.prog 56 #[.slice A n c] w fun e w' => ∃ g, e = .returned (.pointer (some ⟨g, 0, none⟩)) ∧ Rd w' g 0 ∧ w.heap.size ≤ g ∧ Below w.heap.size w w' := by
  have hl := hide h.len
  have hc := h.le
  have hbig := h.big
  unfold maxLen at hbig
  by_cases hn : 2000 < n
  · have h2 := hide (show Bts w w.heap.size A 2000 c (bs.take 2000) from ⟨by have := hl.out; rw [List.length_take]; omega, by omega, h.big, fun hp => by
      obtain ⟨b, off, e, hb, hcl⟩ := h.cells (by omega)
      exact ⟨b, off, e, hb, fun j x hx => hcl j x (by
        rw [List.getElem?_take] at hx
        split at hx
        · exact hx
        · cases hx)⟩, fun z hz => h.wf z (List.mem_of_mem_take hz)⟩)
    obtain ⟨b, off, x, rfl, _⟩ := h.look (k := 0) (by omega)
    go_enter Tryd.func56, Tryd.ntmps56
    go_wp2
    go_ret
    refine ⟨_, rfl, ⟨some ⟨b, off, none⟩, 2000, c, bs.take 2000, 0, heap_alloc_new w _, ?_, Nat.le_refl _, Nat.le_refl _⟩, Nat.le_refl _, (Below.refl _ _).alloc (Nat.le_refl _) _⟩
    exact h2.out.below ((Below.refl _ _).alloc (Nat.le_refl _) _)
  · go_enter Tryd.func56, Tryd.ntmps56
    go_wp2
    go_ret
    refine ⟨_, rfl, ⟨A, n, c, bs, 0, heap_alloc_new w _, ?_, by omega, Nat.le_refl _⟩, Nat.le_refl _, (Below.refl _ _).alloc (Nat.le_refl _) _⟩
    exact h.below ((Below.refl _ _).alloc (Nat.le_refl _) _)
end Go.Proofs.YtoafpokcbbncfaaDoor

namespace Go.Proofs.YtoafpokcbbncfaaDoor
open Go.RowKit

theorem grown_new {a b c : World} {row : Option Nat} {q : Option Nat} (h : a.grownBy b row) (k : b.grownBy c q) (hq : ∀ j, q = some j → a.heap.size ≤ j ∨ q = row) : a.grownBy c row :=
  ⟨k.os.trans h.os, k.tape.trans h.tape, k.output.trans h.output, Nat.le_trans h.size k.size, fun i hi hne => (k.block i (Nat.lt_of_lt_of_le hi h.size) (fun e => by
    rcases hq i e.symm with h1 | h1
    · omega
    · exact hne (e.trans h1))).trans (h.block i hi hne)⟩
theorem grown_alloc {a b : World} {row : Option Nat} (h : a.grownBy b row) (o : Obj) : a.grownBy (b.alloc o) row :=
  grown_new h (World.grownBy_alloc b o none) (fun _ e => by cases e)

theorem ints_lit {w : World} (xs : List Int) (hx : ∀ x ∈ xs, (Lit.int .i64 x).wf = true) (hn : xs.length ≤ 1000) {cs : Array Value} (hc : cs = (xs.map (Value.int .i64)).toArray) : Own (w.alloc (.cells cs 3)) w.heap.size (.slice (some ⟨w.heap.size, 0, none⟩) xs.length xs.length) xs := by
  subst hc
  have := World.ownsRow_lit (e := 3) (size := 1) w (xs.map (Value.int .i64)).toArray xs.length (Nat.le_refl _) (by unfold maxLen; omega) (by simp)
  exact ⟨by simpa using this, hx⟩

theorem Own.past {w w' : World} {base g : Nat} {v : Value} {zs : List Int} (h : Own w base v zs) (hg : w.grownBy w' (some g)) (hlt : g < base) : Own w' base v zs :=
  h.kept hg (by
    cases hk : v.ownBlock with
    | none => exact .inl rfl
    | some k => exact .inr (fun e => by injection e with e; have := (h.row.lt k hk).1; omega))

end Go.Proofs.YtoafpokcbbncfaaDoor

namespace Go.Proofs.YtoafpokcbbncfaaDoor
open Go.RowKit

/-! What a step leaves: facts on the world at hand are carried over 'Below' of its whole heap. -/
theorem Ints.up {w w' : World} {n c : Nat} {A : Option Addr} {zs : List Int} (h : Ints w w.heap.size A n c zs) (hq : Below w.heap.size w w') : Ints w' w'.heap.size A n c zs := (h.below hq).more hq.size
theorem Own.up {w w' : World} {base : Nat} {v : Value} {zs : List Int} (h : Own w base v zs) (hq : Below w.heap.size w w') : Own w' base v zs := h.below hq (Nat.le_refl _)
theorem upB {w0 w w' : World} (hb : Below w0.heap.size w0 w) (hq : Below w.heap.size w w') : Below w0.heap.size w0 w' := hb.trans (hq.mono hb.size)
theorem al (w : World) (o : Obj) : Below w.heap.size w (w.alloc o) := (Below.refl _ _).alloc (Nat.le_refl _) o
theorem own_made {w : World} {h m : Nat} (ho : w.ownsRow h 3 1 (.slice (some ⟨h, 0, none⟩) m m) m (madeCells (Value.int .i64 0).cells (m * 1)).toList) : Own w h (.slice (some ⟨h, 0, none⟩) m m) (List.replicate m 0) :=
  ⟨by
    have e1 : (madeCells (Value.int .i64 0).cells (m * 1)).toList = (List.replicate m (0 : Int)).map (Value.int .i64) := by
      simp [Value.cells, toList_madeCells_one]
    rw [List.length_replicate, ← e1]; exact ho, fun z hz => by
      have := List.eq_of_mem_replicate hz
      subst this; decide⟩
/-- The first h elements, and those behind them, of a slice with elements. -/
theorem Ints.takeS {w : World} {B n c h : Nat} {A : Option Addr} {zs : List Int} (hz : Ints w B A n c zs) (hh : h ≤ n) : Ints w B A h c (zs.take h) :=
  ⟨by rw [List.length_take]; have := hz.len; omega, by have := hz.le; omega, hz.big, fun hp => by
    obtain ⟨b, off, e, hb, hc⟩ := hz.cells (by omega)
    exact ⟨b, off, e, hb, fun j x hx => hc j x (by
      have hj : j < h := by have := (List.getElem?_eq_some_iff.1 hx).1; rw [List.length_take] at this; omega
      rwa [List.getElem?_take_of_lt hj] at hx)⟩, fun z hzm => hz.wf z (List.mem_of_mem_take hzm), hz.nil0⟩
theorem Ints.dropS {w : World} {B n c h b off : Nat} {zs : List Int} (hz : Ints w B (some ⟨b, off, none⟩) n c zs) (hh : h ≤ n) : Ints w B (some ⟨b, off + h, none⟩) (n - h) (c - h) (zs.drop h) :=
  ⟨by rw [List.length_drop]; have := hz.len; omega, by have := hz.le; omega, Nat.le_trans (Nat.sub_le _ _) hz.big, fun hp => by
    obtain ⟨b', off', e, hb, hc⟩ := hz.cells (by omega)
    injection e with e
    injection e with e1 e2 _
    subst e1; subst e2
    refine ⟨b, off + h, rfl, hb, fun j x hx => ?_⟩
    rw [Nat.add_assoc]
    exact hc _ x (by rw [← List.getElem?_drop]; exact hx), fun z hzm => hz.wf z (List.mem_of_mem_drop hzm), fun e => by cases e⟩

end Go.Proofs.YtoafpokcbbncfaaDoor

namespace Go.Proofs.YtoafpokcbbncfaaDoor
open Go.RowKit

set_option maxHeartbeats 400000 in
theorem sameInts_c (A A' : Option Addr) (n c B n' c' B' : Nat) (zs zs' : List Int) (w : World) (h : Ints w B A n c zs) (h' : Ints w B' A' n' c' zs') :
    Calls Tryd.prog 96 #[.slice A n c, .slice A' n' c'] w fun e w' => e = .returned (.bool (sameL zs zs')) ∧ ∃ q, w' = w.drewN q := by
  have hl := hide h.len
  have hl' := hide h'.len
  have hn := h.nb
  have hn' := h'.nb
  by_cases hne : n = n'
  · subst hne
    go_enter Tryd.func96, Tryd.ntmps96
    go_wp2
    go_loopw [5] (fun i wr => ∃ k q : Nat, k ≤ n ∧ i = .int .i64 k ∧ wr = w.drewN q ∧ Hid (∀ j, j < k → zs[j]? = zs'[j]?)) (fun i _ => n - (intOf i).toNat)
    case atStart => exact ⟨0, 0, Nat.zero_le _, rfl, rfl, fun j hj => absurd hj (by omega)⟩
    case round =>
      obtain ⟨k, q, hk, rfl, rfl, hall⟩ := hrel
      by_cases hlt : k < n
      · obtain ⟨b, off, x, rfl, hb, hx, hcell⟩ := h.look hlt
        obtain ⟨b', off', x', rfl, hb', hx', hcell'⟩ := h'.look hlt
        by_cases hxx : x = x'
        · have hd : (x != x') = false := by simpa using hxx
          go_wp2
          go_quiet (fail)
          go_wp2
          go_roundw
          case rel => exact ⟨k + 1, _, by omega, by go_num, rfl, fun j hj => by
            rcases Nat.lt_or_ge j k with hjk | hjk
            · exact hall.out j hjk
            · obtain rfl : j = k := by omega
              rw [hx.out, hx'.out, hxx]⟩
          case measure => simp [intOf]; omega
        · have hd : (x != x') = true := by simpa using hxx
          go_wp2
          go_quiet (fail)
          go_wp2
          go_ret
          exact ⟨ret_bool (sameL_bad hx.out hx'.out hxx).symm, _, World.drewN_drewN _ _ _⟩
      · go_wp2
        go_ret
        exact ⟨ret_bool (sameL_good (hl.out.trans hl'.out.symm) (fun j hj => hall.out j (by have := hl.out; omega))).symm, _, rfl⟩
  · have hd : ((n : Int) != (n' : Int)) = true := by simp; omega
    go_enter Tryd.func96, Tryd.ntmps96
    go_wp2
    go_ret
    exact ⟨ret_bool (sameL_len (by have := hl.out; have := hl'.out; omega)).symm, 0, rfl⟩


theorem alive_c (w : World) : Calls Tryd.prog 25 #[] w fun e w' => e = .returned (.bool true) ∧ Below w.heap.size w w' := by
  have h1 := hide ((ints_lit (w := w) [1] (by intro x hx; simp at hx; subst hx; decide) (by decide) rfl).ints)
  have e1 : urnOk [1] = true := by decide
  have e0 : urnOk [] = false := by decide
  go_enter Tryd.func25, Tryd.ntmps25
  go_wp2_with fail
  refine (urnOk_impl _ _ _ _ _ _ h1.out).mono ?_
  rw [e1]
  rintro e w' ⟨rfl, rfl⟩
  go_wp2_with fail
  refine (urnOk_impl _ _ _ _ [] _ (own_empty' (by simp) (Nat.le_refl _)).ints).mono ?_
  rw [e0]
  rintro e w' ⟨rfl, rfl⟩
  go_wp2_with fail
  go_ret
  exact ⟨rfl, ((Below.refl _ _).alloc (Nat.le_refl _) _).alloc (by simp) _⟩

end Go.Proofs.YtoafpokcbbncfaaDoor
