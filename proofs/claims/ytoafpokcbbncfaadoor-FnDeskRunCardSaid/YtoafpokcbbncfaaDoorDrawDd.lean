/-
  Draws of chapter 14: a deed for a place (l20Deed).
-/
import Derived.Test.YtoafpokcbbncfaaDoorDrawPl
import Derived.Test.YtoafpokcbbncfaaDoorZpd
namespace Go.Proofs.YtoafpokcbbncfaaDoor
open Go.RowKit
set_option linter.unusedVariables false

/-- The reader, the place's block, and the result's block. -/
structure Bq (w0 W : World) (g m : Nat) (x y z : Value) : Prop where
  rd : Rd W g m
  gr : w0.grownBy W (some g)
  tri : Tri W w0.heap.size x y z
  t4 : TriW W (w0.heap.size + 1) (.int .i64 0) (.int .i64 0) (.int .i64 0)
  hg : g < w0.heap.size
section
variable {w0 W W' : World} {g m m' g5 : Nat} {x y z a b c : Value}
theorem Bq.grown {row : Option Nat} (h : Bq w0 W g m x y z) (hg : W.grownBy W' row) (hr : ∀ k, row = some k → w0.heap.size + 1 < k) : Bq w0 W' g m x y z := by
  have h6 := h.hg
  have hb := hg.block w0.heap.size h.tri.lt (fun e => by have := hr _ e.symm; omega)
  have hc : ∀ o, W'.cell? ⟨w0.heap.size, o, none⟩ = W.cell? ⟨w0.heap.size, o, none⟩ := fun o => World.cell?_of_block hb
  exact ⟨h.rd.kept hg (fun k e => by have := hr k e; omega), grown_new h.gr hg (fun j e => .inl (by have := hr j e; omega)), ⟨(hc 0).trans h.tri.c0, (hc 1).trans h.tri.c1, (hc 2).trans h.tri.c2, Nat.lt_of_lt_of_le h.tri.lt hg.size⟩, h.t4.grown hg (fun k e => by have := hr k e; omega), h6⟩
theorem Bq.alloc (h : Bq w0 W g m x y z) (o : Obj) : Bq w0 (W.alloc o) g m x y z := h.grown (row := none) (World.grownBy_alloc _ _ none) (fun _ e => by cases e)
theorem Bq.drew (h : Bq w0 W g m x y z) : Bq w0 W.drew g m x y z := h.grown (row := none) ⟨rfl, rfl, rfl, Nat.le_refl _, fun _ _ _ => rfl⟩ (fun _ e => by cases e)
theorem Bq.more (h : Bq w0 W g m x y z) (hm : m ≤ m') : Bq w0 W g m' x y z := ⟨h.rd.more hm, h.gr, h.tri, h.t4, h.hg⟩
theorem Bq.read (h : Bq w0 W g m x y z) (hr : Rd W' g m') (hg : W.grownBy W' (some g)) : Bq w0 W' g m' x y z := by
  have h6 := h.hg
  have hb := hg.block w0.heap.size h.tri.lt (fun e => by injection e with e; omega)
  have hc : ∀ o, W'.cell? ⟨w0.heap.size, o, none⟩ = W.cell? ⟨w0.heap.size, o, none⟩ := fun o => World.cell?_of_block hb
  exact ⟨hr, grown_new h.gr hg (fun _ _ => .inr rfl), ⟨(hc 0).trans h.tri.c0, (hc 1).trans h.tri.c1, (hc 2).trans h.tri.c2, Nat.lt_of_lt_of_le h.tri.lt hg.size⟩, h.t4.grown hg (fun k e => by injection e with e; omega), h6⟩
/-- The deed's own block is written. -/
theorem Bq.put (h : Bq w0 W g m x y z) (i : Nat) (u : Value) (h5 : w0.heap.size + 1 < g5) : Bq w0 (W.setCell ⟨g5, i, none⟩ u) g m x y z := h.grown (grown_atP W ⟨g5, i, none⟩ u) (fun k e => by have : g5 = k := Option.some.inj e; omega)
theorem Bq.fin (h : Bq w0 W g m x y z) (a b c : Value) : TriW (((W.setCell ⟨w0.heap.size + 1, 0, none⟩ a).setCell ⟨w0.heap.size + 1, 1, none⟩ b).setCell ⟨w0.heap.size + 1, 2, none⟩ c) (w0.heap.size + 1) a b c ∧ Rd (((W.setCell ⟨w0.heap.size + 1, 0, none⟩ a).setCell ⟨w0.heap.size + 1, 1, none⟩ b).setCell ⟨w0.heap.size + 1, 2, none⟩ c) g m ∧ w0.grownBy (((W.setCell ⟨w0.heap.size + 1, 0, none⟩ a).setCell ⟨w0.heap.size + 1, 1, none⟩ b).setCell ⟨w0.heap.size + 1, 2, none⟩ c) (some g) := by
  have h6 := h.hg
  have hr : ∀ {X : World} {i : Nat} {u : Value}, Rd X g m → Rd (X.setCell ⟨w0.heap.size + 1, i, none⟩ u) g m := fun {X i u} hX => hX.kept (row := some (w0.heap.size + 1)) (grown_atP X ⟨w0.heap.size + 1, i, none⟩ u) (fun k e => by injection e with e; omega)
  have hg : ∀ {X : World} {i : Nat} {u : Value}, w0.grownBy X (some g) → w0.grownBy (X.setCell ⟨w0.heap.size + 1, i, none⟩ u) (some g) := fun {X i u} hX => grown_new hX (q := some (w0.heap.size + 1)) (grown_atP X ⟨w0.heap.size + 1, i, none⟩ u) (fun j e => .inl (by injection e with e; omega))
  exact ⟨((h.t4.set0 a).set1 b).set2 c, hr (hr (hr h.rd)), hg (hg (hg h.gr))⟩
end
theorem farC {w w' : World} {g : Nat} (h : w.grownBy w' (some g)) : ∀ b o, b ≠ g → b < w.heap.size → w'.cell? ⟨b, o, none⟩ = w.cell? ⟨b, o, none⟩ := fun b o hb hl => World.cell?_of_block (h.block b hl (fun e => hb (Option.some.inj e)))
theorem farF {w w' : World} {g : Nat} (h : w.grownBy w' (some g)) : ∀ b o, b ≠ g → b < w.heap.size → w'.frozen? ⟨b, o, none⟩ = w.frozen? ⟨b, o, none⟩ := fun b o hb hl => World.frozen?_of_block (h.block b hl (fun e => hb (Option.some.inj e)))
theorem allocC (W : World) (o : Obj) (b i : Nat) (h : b < W.heap.size) : (W.alloc o).cell? ⟨b, i, none⟩ = W.cell? ⟨b, i, none⟩ := World.cell?_of_block ((al W o).block b h)
theorem allocF (W : World) (o : Obj) (b i : Nat) (h : b < W.heap.size) : (W.alloc o).frozen? ⟨b, i, none⟩ = W.frozen? ⟨b, i, none⟩ := World.frozen?_of_block ((al W o).block b h)
theorem TriW.madeS {W : World} {o : Obj} {x y z : Value} {T : TypeId} : TriW ((W.alloc o).alloc (.cells #[x, y, z] T)) (W.heap.size + 1) x y z := by have := TriW.made (W.alloc o) x y z T; simpa using this
theorem TriW.far {W W' : World} {b g : Nat} {x y z : Value} (h : TriW W b x y z) (hg : W.grownBy W' (some g)) (hne : b ≠ g) : TriW W' b x y z := h.grown hg (fun k e => by injection e with e; omega)
theorem TriW.madeAt {W : World} {b : Nat} {x y z : Value} {T : TypeId} (hb : b = W.heap.size) : TriW (W.alloc (.cells #[x, y, z] T)) b x y z := by subst hb; exact TriW.made W x y z T
theorem TriW.fill {W : World} {b : Nat} {x y z x' y' z' : Value} (h : TriW W b x' y' z') : TriW (((W.setCell ⟨b, 0, none⟩ x).setCell ⟨b, 1, none⟩ y).setCell ⟨b, 2, none⟩ z) b x y z := ((h.set0 x).set1 y).set2 z
def lit8 : Array Value := #[.int .i64 0, .int .i64 1, .int .i64 2, .int .i64 2, .int .i64 2, .int .i64 2, .int .i64 3, .int .i64 4]
abbrev litO : Obj := .cells #[.int .i64 0, .int .i64 1, .int .i64 2, .int .i64 2, .int .i64 2, .int .i64 2, .int .i64 3, .int .i64 4] 3
theorem lit8_at (X : Nat) (h : X < 8) : ∃ v : Int, lit8[X]? = some (.int .i64 v) ∧ 0 ≤ v ∧ v ≤ 4 := by
  rcases (show X = 0 ∨ X = 1 ∨ X = 2 ∨ X = 3 ∨ X = 4 ∨ X = 5 ∨ X = 6 ∨ X = 7 by omega) with rfl | rfl | rfl | rfl | rfl | rfl | rfl | rfl <;> exact ⟨_, rfl, by decide, by decide⟩
theorem lit8_cell {w : World} {X : Nat} {v : Int} (h : lit8[X]? = some (.int .i64 v)) : (w.alloc litO).cell? ⟨w.heap.size, X, none⟩ = some (.int .i64 v) := by
  rw [World.cell?_alloc_at _ _ _ _ rfl]; exact h
theorem lit8_get {X : Nat} {v : Int} (h : lit8[X]? = some (.int .i64 v)) (hX : X < [Value.int .i64 0, Value.int .i64 1, Value.int .i64 2, Value.int .i64 2, Value.int .i64 2, Value.int .i64 2, Value.int .i64 3, Value.int .i64 4].length) :
    [Value.int .i64 0, Value.int .i64 1, Value.int .i64 2, Value.int .i64 2, Value.int .i64 2, Value.int .i64 2, Value.int .i64 3, Value.int .i64 4][X] = .int .i64 v := by
  have e : lit8[X]? = ([Value.int .i64 0, Value.int .i64 1, Value.int .i64 2, Value.int .i64 2, Value.int .i64 2, Value.int .i64 2, Value.int .i64 3, Value.int .i64 4] : List Value)[X]? := by unfold lit8; simp
  rw [e, List.getElem?_eq_getElem hX] at h
  exact Option.some.inj h
theorem pickQ (g m n : Nat) (w : World) (h : Rd w g m) (hm : m ≤ 100000) (hn : 1 ≤ n) (hn2 : n ≤ 1000000) :
    Calls Tryd.prog 95 #[.pointer (some ⟨g, 0, none⟩), .int .i64 (n : Int)] w fun e w' => ∃ x : Nat, e = .returned (.int .i64 (x : Int)) ∧ x < n ∧ Rd w' g (m + 1) ∧ w.grownBy w' (some g) :=
  (pick_c g m (n : Int) w h hm (by omega) (by omega)).mono fun e w' ⟨x, h1, h2, h3, h4, h5⟩ => ⟨x.toNat, by rw [h1, Int.toNat_of_nonneg h2], by omega, h4, h5⟩
theorem pick8 (g m : Nat) (w : World) (h : Rd w g m) (hm : m ≤ 100000) :
    Calls Tryd.prog 95 #[.pointer (some ⟨g, 0, none⟩), .int .i64 8] w fun e w' => ∃ x : Nat, e = .returned (.int .i64 (x : Int)) ∧ x < 8 ∧ Rd w' g (m + 1) ∧ w.grownBy w' (some g) := pickQ g m 8 w h hm (by omega) (by omega)
theorem pick60 (g m : Nat) (w : World) (h : Rd w g m) (hm : m ≤ 100000) :
    Calls Tryd.prog 95 #[.pointer (some ⟨g, 0, none⟩), .int .i64 60] w fun e w' => ∃ x : Nat, e = .returned (.int .i64 (x : Int)) ∧ x < 60 ∧ Rd w' g (m + 1) ∧ w.grownBy w' (some g) := pickQ g m 60 w h hm (by omega) (by omega)

set_option maxRecDepth 100000 in
set_option maxHeartbeats 64000000 in
theorem l20Deed_c (g m : Nat) (A : Option Addr) (n c : Nat) (S : Int) (A' : Option Addr) (n' c' : Nat) (w : World) (h : Rd w g m) (hm : m ≤ 50000) (hn : n ≤ 1000000) :
    Calls Tryd.prog 58 #[.pointer (some ⟨g, 0, none⟩), .agg #[.slice A n c, .int .i64 S, .slice A' n' c']] w fun e w' => ∃ k a b : Int, e = .returned (.agg #[.int .i64 k, .int .i64 a, .int .i64 b]) ∧ (0 ≤ k ∧ k ≤ 9) ∧ (-1000000 ≤ a ∧ a ≤ 1000000) ∧ (-100 ≤ b ∧ b ≤ 100) ∧ Rd w' g (m + 10) ∧ w.grownBy w' (some g) := by
  have hgl := h.lt
  have hB := hide (show Bq w ((w.alloc (.cells #[.slice A n c, .int .i64 S, .slice A' n' c'] 31)).alloc (.cells #[.int .i64 0, .int .i64 0, .int .i64 0] 38)) g m (.slice A n c) (.int .i64 S) (.slice A' n' c') from
    ⟨(h.kept (World.grownBy_alloc _ _ none) (fun _ e => by cases e)).kept (World.grownBy_alloc _ _ none) (fun _ e => by cases e), grown_alloc (World.grownBy_alloc w _ (some g)) _, (Tri.made w _ _ _ _).up (al _ _), by have := TriW.made (w.alloc (.cells #[.slice A n c, .int .i64 S, .slice A' n' c'] 31)) (.int .i64 0) (.int .i64 0) (.int .i64 0) 38; simpa using this, hgl⟩)
  obtain ⟨w1, hW1⟩ : ∃ W, Hid ((w.alloc (.cells #[.slice A n c, .int .i64 S, .slice A' n' c'] 31)).alloc (.cells #[.int .i64 0, .int .i64 0, .int .i64 0] 38) = W) := ⟨_, hide rfl⟩
  rw [hW1.out] at hB
  have hs1 := hide (show w1.heap.size = w.heap.size + 2 by rw [← hW1.out]; simp)
  go_enter Tryd.func58, Tryd.ntmps58
  go_upto_region 1 with fail
  rw [hW1.out]
  clear hW1
  obtain ⟨f0, f1, f2, _⟩ := hB.out.tri
  go_cut [5] (fun v wx => ∃ (b : Nat) (K : Int), v = .pointer (some ⟨b, 0, none⟩) ∧ 0 ≤ K ∧ K ≤ 9 ∧ w.heap.size + 1 < b ∧ Hid (TriW wx b (.int .i64 K) (.int .i64 0) (.int .i64 0)) ∧ Hid (Bq w wx g (m + 2) (.slice A n c) (.int .i64 S) (.slice A' n' c')))
  case first =>
    go_wp2_with fail
    go_region_law (first
      | (go_simp
         go_at_call 95
         (with_reducible refine (pick8 g m _ (Bq.rd (w0 := w) (x := .slice A n c) (y := .int .i64 S) (z := .slice A' n' c') (by (repeat (first | exact hB.out | exact hBp.out | exact hBr.out | with_reducible refine Bq.drew ?_ | with_reducible refine Bq.alloc ?_ _)); done)) (by omega)).mono ?_)
         rintro e wp ⟨X, rfl, hX, hrp, hgp⟩
         have hBp : Hid (Bq w wp g (m + 1) (.slice A n c) (.int .i64 S) (.slice A' n' c')) := Bq.read (m := m) (by (repeat (first | exact hB.out | exact hBp.out | exact hBr.out | with_reducible refine Bq.drew ?_ | with_reducible refine Bq.alloc ?_ _)); done) hrp hgp
         obtain ⟨v, hv, hv0, hv1⟩ := lit8_at X hX
         have hX8 : (X : Int) < 8 := by omega
         have hcU : ∀ W : World, (W.alloc litO).cell? ⟨W.heap.size, X, none⟩ = some (.int .i64 v) := fun W => lit8_cell hv
         have hgE := lit8_get hv (by simpa using hX)
         have hw1 : IntKind.i64.wrap v = v := IntWalk.i64_in _ (by omega)
         have hAC := allocC
         have hAF := allocF
         have hCp := farC hgp
         have hFp := farF hgp
         have hsz := hgp.size
         have hn1 : w1.heap.size ≠ g := by have := hs1.out; omega
         have hn2 : w1.heap.size + 1 ≠ g := by have := hs1.out; omega
         have hl1 : w1.heap.size < w1.heap.size + 1 := by omega
         have hl2 : w1.heap.size < w1.heap.size + 1 + 1 := by omega
         have hl3 : w1.heap.size + 1 < w1.heap.size + 1 + 1 := by omega
         have hn3 : wp.heap.size ≠ g := by have := hs1.out; (try simp at hsz); omega
         have hn4 : wp.heap.size + 1 ≠ g := by have := hs1.out; (try simp at hsz); omega
         have hl4 : wp.heap.size < wp.heap.size + 1 := by omega
         have hl5 : wp.heap.size < wp.heap.size + 1 + 1 := by omega
         have hl6 : wp.heap.size + 1 < wp.heap.size + 1 + 1 := by omega
         (first | have hk1 : w1.heap.size < wp.heap.size := (by (try simp at hsz); omega) | skip)
         (first | have hk2 : w1.heap.size + 1 < wp.heap.size := (by (try simp at hsz); omega) | skip)
         (first | have hk3 : w1.heap.size < wp.heap.size + 1 := (by (try simp at hsz); omega) | skip)
         (first | have hk4 : w1.heap.size + 1 < wp.heap.size + 1 := (by (try simp at hsz); omega) | skip)
         (first | have hk5 : w1.heap.size < wp.heap.size + 1 + 1 := (by (try simp at hsz); omega) | skip)
         have hsp : w.heap.size + 2 ≤ wp.heap.size := by have := hs1.out; (try simp at hsz); omega
         clear hsz
         have hv1 : w.heap.size + 1 < w1.heap.size := by have := hs1.out; omega
         have hv2 : w.heap.size + 1 < w1.heap.size + 1 := by omega
         have hv3 : w.heap.size + 1 < wp.heap.size := by omega
         have hv4 : w.heap.size + 1 < wp.heap.size + 1 := by omega
         replace hgp := hide hgp
         clear hrp)
      | (go_simp
         go_at_call 95
         (with_reducible refine (pick60 g (m + 1) _ (Bq.rd (w0 := w) (x := .slice A n c) (y := .int .i64 S) (z := .slice A' n' c') (by (repeat (first | exact hB.out | exact hBp.out | exact hBr.out | with_reducible refine Bq.drew ?_ | with_reducible refine Bq.alloc ?_ _)); done)) (by omega)).mono ?_)
         rintro e wq ⟨Y, rfl, hY, hrq, hgq⟩
         have hBr : Hid (Bq w wq g (m + 2) (.slice A n c) (.int .i64 S) (.slice A' n' c')) := Bq.read (m := m + 1) (by (repeat (first | exact hB.out | exact hBp.out | exact hBr.out | with_reducible refine Bq.drew ?_ | with_reducible refine Bq.alloc ?_ _)); done) hrq hgq
         have hCq := farC hgq
         have hFq := farF hgq
         have hsz := hgq.size
         have hn5 : wq.heap.size ≠ g := by (try simp at hsz); omega
         (first | have hm1 : w1.heap.size < wq.heap.size := (by (try simp at hsz); omega) | skip)
         (first | have hm2 : w1.heap.size + 1 < wq.heap.size := (by (try simp at hsz); omega) | skip)
         (first | have hm3 : wp.heap.size < wq.heap.size := (by (try simp at hsz); omega) | skip)
         (first | have hm4 : wp.heap.size + 1 < wq.heap.size := (by (try simp at hsz); omega) | skip)
         (first | have hm5 : w1.heap.size < wq.heap.size + 1 := (by (try simp at hsz); omega) | skip)
         (first | have hm6 : w1.heap.size + 1 < wq.heap.size + 1 := (by (try simp at hsz); omega) | skip)
         (first | have hm7 : wp.heap.size < wq.heap.size + 1 := (by (try simp at hsz); omega) | skip)
         (first | have hm8 : wp.heap.size + 1 < wq.heap.size + 1 := (by (try simp at hsz); omega) | skip)
         have hm9 : wq.heap.size < wq.heap.size + 1 := by omega
         have hsq : w.heap.size + 2 ≤ wq.heap.size := by (try simp at hsz); omega
         clear hsz
         have hY1 : IntKind.i64.wrap ((Y : Int) / 59) = (Y : Int) / 59 := IntWalk.i64_in _ (by omega)
         have hY2 : IntKind.i64.wrap ((Y : Int) / 59 * 5) = (Y : Int) / 59 * 5 := IntWalk.i64_in _ (by omega)
         have hY3 : IntKind.i64.wrap (v + (Y : Int) / 59 * 5) = v + (Y : Int) / 59 * 5 := IntWalk.i64_in _ (by omega)
         have hKa : 0 ≤ v + (Y : Int) / 59 * 5 := by omega
         have hKb : v + (Y : Int) / 59 * 5 ≤ 9 := by omega
         have hv5 : w.heap.size + 1 < wq.heap.size := by omega
         have hv6 : w.heap.size + 1 < wq.heap.size + 1 := by omega
         replace hgq := hide hgq
         clear hrq))
    all_goals
      go_wp2_with fail
      go_meet
      refine ⟨_, v + (Y : Int) / 59 * 5, rfl, ?_, ?_, ?_, hide ?_, hide ?_⟩
      · exact hKa
      · exact hKb
      · first | exact hv1 | exact hv2 | exact hv3 | exact hv4 | exact hv5 | exact hv6
      · repeat (first | exact TriW.made _ _ _ _ _ | exact TriW.madeS | refine TriW.fill (x' := .int .i64 0) (y' := .int .i64 0) (z' := .int .i64 0) ?_ | refine TriW.alloc ?_ _ | refine TriW.drew ?_ | refine TriW.far ?_ hgq.out (by first | exact hn1 | exact hn2 | exact hn3 | exact hn4) | refine TriW.far ?_ hgp.out (by first | exact hn1 | exact hn2))
      · repeat (first | exact hBr.out | refine Bq.put ?_ _ _ (by first | exact hv1 | exact hv2 | exact hv3 | exact hv4 | exact hv5 | exact hv6) | refine Bq.alloc ?_ _ | refine Bq.drew ?_)
  case rest =>
    clear hB f0 f1 f2
    obtain ⟨b, K, rfl, hK0, hK1, hb, hT, hB⟩ := hcut
    obtain ⟨s0, s1, s2, t0, t1, t2, _⟩ := hT.out
    obtain ⟨f0, f1, f2, _⟩ := hB.out.tri
    by_cases h0 : K = 0
    · subst h0
      go_wp2_with fail
      all_goals
        refine (pick_c g _ _ _ hB.out.rd (by omega) (by omega) (by omega)).mono ?_
        rintro e w2 ⟨x2, rfl, x2a, x2b, hrw2, hgw2⟩
        have hBw2 := hide (hB.out.read hrw2 hgw2)
        have hTw2 := hide (hT.out.grown hgw2 (fun k e => by have := Option.some.inj e; omega))
        clear hrw2 hgw2 hB hT
        skip
        obtain ⟨cw20, cw21, cw22, dw20, dw21, dw22, _⟩ := hTw2.out
        obtain ⟨gw20, gw21, gw22, _⟩ := hBw2.out.tri
        have hBm2 := hide (hBw2.out.put (g5 := b) 1 (.int .i64 x2) hb)
        have hTm2 := hide (hTw2.out.set1 (.int .i64 x2))
        obtain ⟨cm20, cm21, cm22, dm20, dm21, dm22, _⟩ := hTm2.out
        obtain ⟨gm20, gm21, gm22, _⟩ := hBm2.out.tri
        go_wp2_with fail
        refine (pick_c g _ 7 _ hBm2.out.rd (by omega) (by omega) (by omega)).mono ?_
        rintro e w3 ⟨x3, rfl, x3a, x3b, hrw3, hgw3⟩
        have hBw3 := hide (hBm2.out.read hrw3 hgw3)
        have hTw3 := hide (hTm2.out.grown hgw3 (fun k e => by have := Option.some.inj e; omega))
        clear hrw3 hgw3 hBm2 hTm2
        have hw3 : IntKind.i64.wrap (x3 - 3) = x3 - 3 := IntWalk.i64_in _ (by omega)
        obtain ⟨cw30, cw31, cw32, dw30, dw31, dw32, _⟩ := hTw3.out
        obtain ⟨gw30, gw31, gw32, _⟩ := hBw3.out.tri
        have hBm3 := hide (hBw3.out.put (g5 := b) 2 (.int .i64 (x3 - 3)) hb)
        have hTm3 := hide (hTw3.out.set2 (.int .i64 (x3 - 3)))
        obtain ⟨cm30, cm31, cm32, dm30, dm31, dm32, _⟩ := hTm3.out
        obtain ⟨gm30, gm31, gm32, _⟩ := hBm3.out.tri
        have hBn := hBm3
        have hTn := hTm3
        go_wp2_with fail
        refine (odd_c g _ 40 _ hBn.out.rd (by omega) (by omega) (by omega)).mono ?_
        rintro e w8 ⟨o8, rfl, hr8, hg8⟩
        have hB8 := hide (hBn.out.read hr8 hg8)
        have hT8 := hide (hTn.out.grown hg8 (fun k e => by have := Option.some.inj e; omega))
        have hs8 := hide hg8.size
        clear hr8 hg8 hBn hTn
        obtain ⟨s0, s1, s2, t0, t1, t2, _⟩ := hT8.out
        obtain ⟨u0, u1, u2, v0, v1, v2, _⟩ := hB8.out.t4
        cases o8 with
        | false =>
          go_wp2_with fail
          obtain ⟨⟨k0, k1, k2, _, _, _, _⟩, p3, p4⟩ := hB8.out.fin (.int .i64 0) (.int .i64 x2) (.int .i64 (x3 - 3))
          refine bodyPost_ret (v := .agg #[.int .i64 0, .int .i64 x2, .int .i64 (x3 - 3)]) (by simp [results, Tryd.results58, go_sem, k0, k1, k2]) rfl ⟨_, _, _, rfl, by omega, by omega, by omega, p3.more (by omega), p4⟩
        | true =>
          go_wp2_with fail
          refine (pick_c g _ 2 _ hB8.out.rd (by omega) (by omega) (by omega)).mono ?_
          rintro e w9 ⟨x9, rfl, hx9a, hx9b, hr9, hg9⟩
          have hB9 := hide (hB8.out.read hr9 hg9)
          have hT9 := hide (hT8.out.grown hg9 (fun k e => by have := Option.some.inj e; omega))
          have hs9 := hide (Nat.lt_of_lt_of_le hT8.out.lt hg9.size)
          clear hr9 hg9 hB8 hT8 s0 s1 s2 t0 t1 t2 u0 u1 u2 v0 v1 v2
          obtain ⟨s0, s1, s2, t0, t1, t2, _⟩ := hT9.out
          obtain ⟨u0, u1, u2, v0, v1, v2, _⟩ := hB9.out.t4
          rcases (show x9 = 0 ∨ x9 = 1 by omega) with hx9 | hx9
          · subst hx9
            go_wp2_with fail
            have hBl := hide (hB9.out.alloc (.cells #[.int .i64 (-100), .int .i64 100] 3))
            have hTl := hide (hT9.out.alloc (.cells #[.int .i64 (-100), .int .i64 100] 3))
            refine (pick_c g _ 2 _ hBl.out.rd (by omega) (by omega) (by omega)).mono ?_
            rintro e w10 ⟨x10, rfl, hx10a, hx10b, hr10, hg10⟩
            have hB10 := hide (hBl.out.read hr10 hg10)
            have hT10 := hide (hTl.out.grown hg10 (fun k e => by have := Option.some.inj e; omega))
            have hL0 : w10.cell? ⟨w9.heap.size, 0, none⟩ = some (.int .i64 (-100)) := hg10.cell (by rw [World.cell?_alloc_at _ _ _ _ rfl]; rfl) (fun e => by have := Option.some.inj e; have := hs9.out; simp at *; omega)
            have hL1 : w10.cell? ⟨w9.heap.size, 1, none⟩ = some (.int .i64 100) := hg10.cell (by rw [World.cell?_alloc_at _ _ _ _ rfl]; rfl) (fun e => by have := Option.some.inj e; have := hs9.out; simp at *; omega)
            clear hr10 hg10 hBl hTl hB9 hT9 s0 s1 s2 t0 t1 t2 u0 u1 u2 v0 v1 v2
            obtain ⟨s0, s1, s2, t0, t1, t2, _⟩ := hT10.out
            rcases (show x10 = 0 ∨ x10 = 1 by omega) with hx10 | hx10
            · subst hx10
              have hBm := hide (hB10.out.put (g5 := b) 1 (.int .i64 (-100)) hb)
              have hTm := hide (hT10.out.set1 (.int .i64 (-100)))
              obtain ⟨q0, q1, q2, r0, r1, r2, _⟩ := hTm.out
              obtain ⟨u0, u1, u2, v0, v1, v2, _⟩ := hBm.out.t4
              go_wp2_with fail
              obtain ⟨⟨k0, k1, k2, _, _, _, _⟩, p3, p4⟩ := hBm.out.fin (.int .i64 0) (.int .i64 (-100)) (.int .i64 (x3 - 3))
              refine bodyPost_ret (v := .agg #[.int .i64 0, .int .i64 (-100), .int .i64 (x3 - 3)]) (by simp [results, Tryd.results58, go_sem, k0, k1, k2]) rfl ⟨_, _, _, rfl, by omega, by omega, by omega, p3.more (by omega), p4⟩
            · subst hx10
              have hBm := hide (hB10.out.put (g5 := b) 1 (.int .i64 100) hb)
              have hTm := hide (hT10.out.set1 (.int .i64 100))
              obtain ⟨q0, q1, q2, r0, r1, r2, _⟩ := hTm.out
              obtain ⟨u0, u1, u2, v0, v1, v2, _⟩ := hBm.out.t4
              go_wp2_with fail
              obtain ⟨⟨k0, k1, k2, _, _, _, _⟩, p3, p4⟩ := hBm.out.fin (.int .i64 0) (.int .i64 100) (.int .i64 (x3 - 3))
              refine bodyPost_ret (v := .agg #[.int .i64 0, .int .i64 100, .int .i64 (x3 - 3)]) (by simp [results, Tryd.results58, go_sem, k0, k1, k2]) rfl ⟨_, _, _, rfl, by omega, by omega, by omega, p3.more (by omega), p4⟩
          · subst hx9
            have hBm := hide (hB9.out.put (g5 := b) 2 (.int .i64 99) hb)
            have hTm := hide (hT9.out.set2 (.int .i64 99))
            obtain ⟨q0, q1, q2, r0, r1, r2, _⟩ := hTm.out
            obtain ⟨y0, y1, y2, z0, z1, z2, _⟩ := hBm.out.t4
            go_wp2_with fail
            obtain ⟨⟨k0, k1, k2, _, _, _, _⟩, p3, p4⟩ := hBm.out.fin (.int .i64 0) (.int .i64 x2) (.int .i64 99)
            refine bodyPost_ret (v := .agg #[.int .i64 0, .int .i64 x2, .int .i64 99]) (by simp [results, Tryd.results58, go_sem, k0, k1, k2]) rfl ⟨_, _, _, rfl, by omega, by omega, by omega, p3.more (by omega), p4⟩
    by_cases h1 : K = 1
    · subst h1
      go_wp2_with fail
      refine (pick_c g _ 5 _ hB.out.rd (by omega) (by omega) (by omega)).mono ?_
      rintro e w2 ⟨x2, rfl, x2a, x2b, hrw2, hgw2⟩
      have hBw2 := hide (hB.out.read hrw2 hgw2)
      have hTw2 := hide (hT.out.grown hgw2 (fun k e => by have := Option.some.inj e; omega))
      clear hrw2 hgw2 hB hT
      have hw2 : IntKind.i64.wrap (x2 - 1) = x2 - 1 := IntWalk.i64_in _ (by omega)
      obtain ⟨cw20, cw21, cw22, dw20, dw21, dw22, _⟩ := hTw2.out
      obtain ⟨gw20, gw21, gw22, _⟩ := hBw2.out.tri
      have hBm2 := hide (hBw2.out.put (g5 := b) 1 (.int .i64 (x2 - 1)) hb)
      have hTm2 := hide (hTw2.out.set1 (.int .i64 (x2 - 1)))
      obtain ⟨cm20, cm21, cm22, dm20, dm21, dm22, _⟩ := hTm2.out
      obtain ⟨gm20, gm21, gm22, _⟩ := hBm2.out.tri
      have hBn := hBm2
      have hTn := hTm2
      go_wp2_with fail
      refine (odd_c g _ 40 _ hBn.out.rd (by omega) (by omega) (by omega)).mono ?_
      rintro e w8 ⟨o8, rfl, hr8, hg8⟩
      have hB8 := hide (hBn.out.read hr8 hg8)
      have hT8 := hide (hTn.out.grown hg8 (fun k e => by have := Option.some.inj e; omega))
      have hs8 := hide hg8.size
      clear hr8 hg8 hBn hTn
      obtain ⟨s0, s1, s2, t0, t1, t2, _⟩ := hT8.out
      obtain ⟨u0, u1, u2, v0, v1, v2, _⟩ := hB8.out.t4
      cases o8 with
      | false =>
        go_wp2_with fail
        obtain ⟨⟨k0, k1, k2, _, _, _, _⟩, p3, p4⟩ := hB8.out.fin (.int .i64 1) (.int .i64 (x2 - 1)) (.int .i64 0)
        refine bodyPost_ret (v := .agg #[.int .i64 1, .int .i64 (x2 - 1), .int .i64 0]) (by simp [results, Tryd.results58, go_sem, k0, k1, k2]) rfl ⟨_, _, _, rfl, by omega, by omega, by omega, p3.more (by omega), p4⟩
      | true =>
        go_wp2_with fail
        refine (pick_c g _ 2 _ hB8.out.rd (by omega) (by omega) (by omega)).mono ?_
        rintro e w9 ⟨x9, rfl, hx9a, hx9b, hr9, hg9⟩
        have hB9 := hide (hB8.out.read hr9 hg9)
        have hT9 := hide (hT8.out.grown hg9 (fun k e => by have := Option.some.inj e; omega))
        have hs9 := hide (Nat.lt_of_lt_of_le hT8.out.lt hg9.size)
        clear hr9 hg9 hB8 hT8 s0 s1 s2 t0 t1 t2 u0 u1 u2 v0 v1 v2
        obtain ⟨s0, s1, s2, t0, t1, t2, _⟩ := hT9.out
        obtain ⟨u0, u1, u2, v0, v1, v2, _⟩ := hB9.out.t4
        rcases (show x9 = 0 ∨ x9 = 1 by omega) with hx9 | hx9
        · subst hx9
          go_wp2_with fail
          have hBl := hide (hB9.out.alloc (.cells #[.int .i64 (-100), .int .i64 100] 3))
          have hTl := hide (hT9.out.alloc (.cells #[.int .i64 (-100), .int .i64 100] 3))
          refine (pick_c g _ 2 _ hBl.out.rd (by omega) (by omega) (by omega)).mono ?_
          rintro e w10 ⟨x10, rfl, hx10a, hx10b, hr10, hg10⟩
          have hB10 := hide (hBl.out.read hr10 hg10)
          have hT10 := hide (hTl.out.grown hg10 (fun k e => by have := Option.some.inj e; omega))
          have hL0 : w10.cell? ⟨w9.heap.size, 0, none⟩ = some (.int .i64 (-100)) := hg10.cell (by rw [World.cell?_alloc_at _ _ _ _ rfl]; rfl) (fun e => by have := Option.some.inj e; have := hs9.out; simp at *; omega)
          have hL1 : w10.cell? ⟨w9.heap.size, 1, none⟩ = some (.int .i64 100) := hg10.cell (by rw [World.cell?_alloc_at _ _ _ _ rfl]; rfl) (fun e => by have := Option.some.inj e; have := hs9.out; simp at *; omega)
          clear hr10 hg10 hBl hTl hB9 hT9 s0 s1 s2 t0 t1 t2 u0 u1 u2 v0 v1 v2
          obtain ⟨s0, s1, s2, t0, t1, t2, _⟩ := hT10.out
          rcases (show x10 = 0 ∨ x10 = 1 by omega) with hx10 | hx10
          · subst hx10
            have hBm := hide (hB10.out.put (g5 := b) 1 (.int .i64 (-100)) hb)
            have hTm := hide (hT10.out.set1 (.int .i64 (-100)))
            obtain ⟨q0, q1, q2, r0, r1, r2, _⟩ := hTm.out
            obtain ⟨u0, u1, u2, v0, v1, v2, _⟩ := hBm.out.t4
            go_wp2_with fail
            obtain ⟨⟨k0, k1, k2, _, _, _, _⟩, p3, p4⟩ := hBm.out.fin (.int .i64 1) (.int .i64 (-100)) (.int .i64 0)
            refine bodyPost_ret (v := .agg #[.int .i64 1, .int .i64 (-100), .int .i64 0]) (by simp [results, Tryd.results58, go_sem, k0, k1, k2]) rfl ⟨_, _, _, rfl, by omega, by omega, by omega, p3.more (by omega), p4⟩
          · subst hx10
            have hBm := hide (hB10.out.put (g5 := b) 1 (.int .i64 100) hb)
            have hTm := hide (hT10.out.set1 (.int .i64 100))
            obtain ⟨q0, q1, q2, r0, r1, r2, _⟩ := hTm.out
            obtain ⟨u0, u1, u2, v0, v1, v2, _⟩ := hBm.out.t4
            go_wp2_with fail
            obtain ⟨⟨k0, k1, k2, _, _, _, _⟩, p3, p4⟩ := hBm.out.fin (.int .i64 1) (.int .i64 100) (.int .i64 0)
            refine bodyPost_ret (v := .agg #[.int .i64 1, .int .i64 100, .int .i64 0]) (by simp [results, Tryd.results58, go_sem, k0, k1, k2]) rfl ⟨_, _, _, rfl, by omega, by omega, by omega, p3.more (by omega), p4⟩
        · subst hx9
          have hBm := hide (hB9.out.put (g5 := b) 2 (.int .i64 99) hb)
          have hTm := hide (hT9.out.set2 (.int .i64 99))
          obtain ⟨q0, q1, q2, r0, r1, r2, _⟩ := hTm.out
          obtain ⟨y0, y1, y2, z0, z1, z2, _⟩ := hBm.out.t4
          go_wp2_with fail
          obtain ⟨⟨k0, k1, k2, _, _, _, _⟩, p3, p4⟩ := hBm.out.fin (.int .i64 1) (.int .i64 (x2 - 1)) (.int .i64 99)
          refine bodyPost_ret (v := .agg #[.int .i64 1, .int .i64 (x2 - 1), .int .i64 99]) (by simp [results, Tryd.results58, go_sem, k0, k1, k2]) rfl ⟨_, _, _, rfl, by omega, by omega, by omega, p3.more (by omega), p4⟩
    by_cases h2 : K = 2
    · subst h2
      go_wp2_with fail
      all_goals
        refine (pick_c g _ _ _ hB.out.rd (by omega) (by omega) (by omega)).mono ?_
        rintro e w2 ⟨x2, rfl, x2a, x2b, hrw2, hgw2⟩
        have hBw2 := hide (hB.out.read hrw2 hgw2)
        have hTw2 := hide (hT.out.grown hgw2 (fun k e => by have := Option.some.inj e; omega))
        clear hrw2 hgw2 hB hT
        skip
        obtain ⟨cw20, cw21, cw22, dw20, dw21, dw22, _⟩ := hTw2.out
        obtain ⟨gw20, gw21, gw22, _⟩ := hBw2.out.tri
        have hBm2 := hide (hBw2.out.put (g5 := b) 1 (.int .i64 x2) hb)
        have hTm2 := hide (hTw2.out.set1 (.int .i64 x2))
        obtain ⟨cm20, cm21, cm22, dm20, dm21, dm22, _⟩ := hTm2.out
        obtain ⟨gm20, gm21, gm22, _⟩ := hBm2.out.tri
        have hBn := hBm2
        have hTn := hTm2
        go_wp2_with fail
        refine (odd_c g _ 40 _ hBn.out.rd (by omega) (by omega) (by omega)).mono ?_
        rintro e w8 ⟨o8, rfl, hr8, hg8⟩
        have hB8 := hide (hBn.out.read hr8 hg8)
        have hT8 := hide (hTn.out.grown hg8 (fun k e => by have := Option.some.inj e; omega))
        have hs8 := hide hg8.size
        clear hr8 hg8 hBn hTn
        obtain ⟨s0, s1, s2, t0, t1, t2, _⟩ := hT8.out
        obtain ⟨u0, u1, u2, v0, v1, v2, _⟩ := hB8.out.t4
        cases o8 with
        | false =>
          go_wp2_with fail
          obtain ⟨⟨k0, k1, k2, _, _, _, _⟩, p3, p4⟩ := hB8.out.fin (.int .i64 2) (.int .i64 x2) (.int .i64 0)
          refine bodyPost_ret (v := .agg #[.int .i64 2, .int .i64 x2, .int .i64 0]) (by simp [results, Tryd.results58, go_sem, k0, k1, k2]) rfl ⟨_, _, _, rfl, by omega, by omega, by omega, p3.more (by omega), p4⟩
        | true =>
          go_wp2_with fail
          refine (pick_c g _ 2 _ hB8.out.rd (by omega) (by omega) (by omega)).mono ?_
          rintro e w9 ⟨x9, rfl, hx9a, hx9b, hr9, hg9⟩
          have hB9 := hide (hB8.out.read hr9 hg9)
          have hT9 := hide (hT8.out.grown hg9 (fun k e => by have := Option.some.inj e; omega))
          have hs9 := hide (Nat.lt_of_lt_of_le hT8.out.lt hg9.size)
          clear hr9 hg9 hB8 hT8 s0 s1 s2 t0 t1 t2 u0 u1 u2 v0 v1 v2
          obtain ⟨s0, s1, s2, t0, t1, t2, _⟩ := hT9.out
          obtain ⟨u0, u1, u2, v0, v1, v2, _⟩ := hB9.out.t4
          rcases (show x9 = 0 ∨ x9 = 1 by omega) with hx9 | hx9
          · subst hx9
            go_wp2_with fail
            have hBl := hide (hB9.out.alloc (.cells #[.int .i64 (-100), .int .i64 100] 3))
            have hTl := hide (hT9.out.alloc (.cells #[.int .i64 (-100), .int .i64 100] 3))
            refine (pick_c g _ 2 _ hBl.out.rd (by omega) (by omega) (by omega)).mono ?_
            rintro e w10 ⟨x10, rfl, hx10a, hx10b, hr10, hg10⟩
            have hB10 := hide (hBl.out.read hr10 hg10)
            have hT10 := hide (hTl.out.grown hg10 (fun k e => by have := Option.some.inj e; omega))
            have hL0 : w10.cell? ⟨w9.heap.size, 0, none⟩ = some (.int .i64 (-100)) := hg10.cell (by rw [World.cell?_alloc_at _ _ _ _ rfl]; rfl) (fun e => by have := Option.some.inj e; have := hs9.out; simp at *; omega)
            have hL1 : w10.cell? ⟨w9.heap.size, 1, none⟩ = some (.int .i64 100) := hg10.cell (by rw [World.cell?_alloc_at _ _ _ _ rfl]; rfl) (fun e => by have := Option.some.inj e; have := hs9.out; simp at *; omega)
            clear hr10 hg10 hBl hTl hB9 hT9 s0 s1 s2 t0 t1 t2 u0 u1 u2 v0 v1 v2
            obtain ⟨s0, s1, s2, t0, t1, t2, _⟩ := hT10.out
            rcases (show x10 = 0 ∨ x10 = 1 by omega) with hx10 | hx10
            · subst hx10
              have hBm := hide (hB10.out.put (g5 := b) 1 (.int .i64 (-100)) hb)
              have hTm := hide (hT10.out.set1 (.int .i64 (-100)))
              obtain ⟨q0, q1, q2, r0, r1, r2, _⟩ := hTm.out
              obtain ⟨u0, u1, u2, v0, v1, v2, _⟩ := hBm.out.t4
              go_wp2_with fail
              obtain ⟨⟨k0, k1, k2, _, _, _, _⟩, p3, p4⟩ := hBm.out.fin (.int .i64 2) (.int .i64 (-100)) (.int .i64 0)
              refine bodyPost_ret (v := .agg #[.int .i64 2, .int .i64 (-100), .int .i64 0]) (by simp [results, Tryd.results58, go_sem, k0, k1, k2]) rfl ⟨_, _, _, rfl, by omega, by omega, by omega, p3.more (by omega), p4⟩
            · subst hx10
              have hBm := hide (hB10.out.put (g5 := b) 1 (.int .i64 100) hb)
              have hTm := hide (hT10.out.set1 (.int .i64 100))
              obtain ⟨q0, q1, q2, r0, r1, r2, _⟩ := hTm.out
              obtain ⟨u0, u1, u2, v0, v1, v2, _⟩ := hBm.out.t4
              go_wp2_with fail
              obtain ⟨⟨k0, k1, k2, _, _, _, _⟩, p3, p4⟩ := hBm.out.fin (.int .i64 2) (.int .i64 100) (.int .i64 0)
              refine bodyPost_ret (v := .agg #[.int .i64 2, .int .i64 100, .int .i64 0]) (by simp [results, Tryd.results58, go_sem, k0, k1, k2]) rfl ⟨_, _, _, rfl, by omega, by omega, by omega, p3.more (by omega), p4⟩
          · subst hx9
            have hBm := hide (hB9.out.put (g5 := b) 2 (.int .i64 99) hb)
            have hTm := hide (hT9.out.set2 (.int .i64 99))
            obtain ⟨q0, q1, q2, r0, r1, r2, _⟩ := hTm.out
            obtain ⟨y0, y1, y2, z0, z1, z2, _⟩ := hBm.out.t4
            go_wp2_with fail
            obtain ⟨⟨k0, k1, k2, _, _, _, _⟩, p3, p4⟩ := hBm.out.fin (.int .i64 2) (.int .i64 x2) (.int .i64 99)
            refine bodyPost_ret (v := .agg #[.int .i64 2, .int .i64 x2, .int .i64 99]) (by simp [results, Tryd.results58, go_sem, k0, k1, k2]) rfl ⟨_, _, _, rfl, by omega, by omega, by omega, p3.more (by omega), p4⟩
    have hBn := hB
    have hTn := hT
    go_wp2_with fail
    refine (odd_c g _ 40 _ hBn.out.rd (by omega) (by omega) (by omega)).mono ?_
    rintro e w8 ⟨o8, rfl, hr8, hg8⟩
    have hB8 := hide (hBn.out.read hr8 hg8)
    have hT8 := hide (hTn.out.grown hg8 (fun k e => by have := Option.some.inj e; omega))
    have hs8 := hide hg8.size
    clear hr8 hg8 hBn hTn
    obtain ⟨s0, s1, s2, t0, t1, t2, _⟩ := hT8.out
    obtain ⟨u0, u1, u2, v0, v1, v2, _⟩ := hB8.out.t4
    cases o8 with
    | false =>
      go_wp2_with fail
      obtain ⟨⟨k0, k1, k2, _, _, _, _⟩, p3, p4⟩ := hB8.out.fin (.int .i64 K) (.int .i64 0) (.int .i64 0)
      refine bodyPost_ret (v := .agg #[.int .i64 K, .int .i64 0, .int .i64 0]) (by simp [results, Tryd.results58, go_sem, k0, k1, k2]) rfl ⟨_, _, _, rfl, by omega, by omega, by omega, p3.more (by omega), p4⟩
    | true =>
      go_wp2_with fail
      refine (pick_c g _ 2 _ hB8.out.rd (by omega) (by omega) (by omega)).mono ?_
      rintro e w9 ⟨x9, rfl, hx9a, hx9b, hr9, hg9⟩
      have hB9 := hide (hB8.out.read hr9 hg9)
      have hT9 := hide (hT8.out.grown hg9 (fun k e => by have := Option.some.inj e; omega))
      have hs9 := hide (Nat.lt_of_lt_of_le hT8.out.lt hg9.size)
      clear hr9 hg9 hB8 hT8 s0 s1 s2 t0 t1 t2 u0 u1 u2 v0 v1 v2
      obtain ⟨s0, s1, s2, t0, t1, t2, _⟩ := hT9.out
      obtain ⟨u0, u1, u2, v0, v1, v2, _⟩ := hB9.out.t4
      rcases (show x9 = 0 ∨ x9 = 1 by omega) with hx9 | hx9
      · subst hx9
        go_wp2_with fail
        have hBl := hide (hB9.out.alloc (.cells #[.int .i64 (-100), .int .i64 100] 3))
        have hTl := hide (hT9.out.alloc (.cells #[.int .i64 (-100), .int .i64 100] 3))
        refine (pick_c g _ 2 _ hBl.out.rd (by omega) (by omega) (by omega)).mono ?_
        rintro e w10 ⟨x10, rfl, hx10a, hx10b, hr10, hg10⟩
        have hB10 := hide (hBl.out.read hr10 hg10)
        have hT10 := hide (hTl.out.grown hg10 (fun k e => by have := Option.some.inj e; omega))
        have hL0 : w10.cell? ⟨w9.heap.size, 0, none⟩ = some (.int .i64 (-100)) := hg10.cell (by rw [World.cell?_alloc_at _ _ _ _ rfl]; rfl) (fun e => by have := Option.some.inj e; have := hs9.out; simp at *; omega)
        have hL1 : w10.cell? ⟨w9.heap.size, 1, none⟩ = some (.int .i64 100) := hg10.cell (by rw [World.cell?_alloc_at _ _ _ _ rfl]; rfl) (fun e => by have := Option.some.inj e; have := hs9.out; simp at *; omega)
        clear hr10 hg10 hBl hTl hB9 hT9 s0 s1 s2 t0 t1 t2 u0 u1 u2 v0 v1 v2
        obtain ⟨s0, s1, s2, t0, t1, t2, _⟩ := hT10.out
        rcases (show x10 = 0 ∨ x10 = 1 by omega) with hx10 | hx10
        · subst hx10
          have hBm := hide (hB10.out.put (g5 := b) 1 (.int .i64 (-100)) hb)
          have hTm := hide (hT10.out.set1 (.int .i64 (-100)))
          obtain ⟨q0, q1, q2, r0, r1, r2, _⟩ := hTm.out
          obtain ⟨u0, u1, u2, v0, v1, v2, _⟩ := hBm.out.t4
          go_wp2_with fail
          obtain ⟨⟨k0, k1, k2, _, _, _, _⟩, p3, p4⟩ := hBm.out.fin (.int .i64 K) (.int .i64 (-100)) (.int .i64 0)
          refine bodyPost_ret (v := .agg #[.int .i64 K, .int .i64 (-100), .int .i64 0]) (by simp [results, Tryd.results58, go_sem, k0, k1, k2]) rfl ⟨_, _, _, rfl, by omega, by omega, by omega, p3.more (by omega), p4⟩
        · subst hx10
          have hBm := hide (hB10.out.put (g5 := b) 1 (.int .i64 100) hb)
          have hTm := hide (hT10.out.set1 (.int .i64 100))
          obtain ⟨q0, q1, q2, r0, r1, r2, _⟩ := hTm.out
          obtain ⟨u0, u1, u2, v0, v1, v2, _⟩ := hBm.out.t4
          go_wp2_with fail
          obtain ⟨⟨k0, k1, k2, _, _, _, _⟩, p3, p4⟩ := hBm.out.fin (.int .i64 K) (.int .i64 100) (.int .i64 0)
          refine bodyPost_ret (v := .agg #[.int .i64 K, .int .i64 100, .int .i64 0]) (by simp [results, Tryd.results58, go_sem, k0, k1, k2]) rfl ⟨_, _, _, rfl, by omega, by omega, by omega, p3.more (by omega), p4⟩
      · subst hx9
        have hBm := hide (hB9.out.put (g5 := b) 2 (.int .i64 99) hb)
        have hTm := hide (hT9.out.set2 (.int .i64 99))
        obtain ⟨q0, q1, q2, r0, r1, r2, _⟩ := hTm.out
        obtain ⟨y0, y1, y2, z0, z1, z2, _⟩ := hBm.out.t4
        go_wp2_with fail
        obtain ⟨⟨k0, k1, k2, _, _, _, _⟩, p3, p4⟩ := hBm.out.fin (.int .i64 K) (.int .i64 0) (.int .i64 99)
        refine bodyPost_ret (v := .agg #[.int .i64 K, .int .i64 0, .int .i64 99]) (by simp [results, Tryd.results58, go_sem, k0, k1, k2]) rfl ⟨_, _, _, rfl, by omega, by omega, by omega, p3.more (by omega), p4⟩
end Go.Proofs.YtoafpokcbbncfaaDoor
