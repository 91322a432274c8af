/-
  The drawn places of chapter 14 (written by wip/gen_e1.py).
-/
import Derived.Test.YtoafpokcbbncfaaDoorPlaceS
import Derived.Test.YtoafpokcbbncfaaDoorZpb
import Derived.Test.YtoafpokcbbncfaaDoorZdraw
import Derived.Deep.DeepCutAuto
namespace Go.Proofs.YtoafpokcbbncfaaDoor
open Go.RowKit
set_option linter.unusedVariables false

set_option maxHeartbeats 400000 in
theorem odd_z (g m : Nat) (n : Int) (w : World) (h : Rd w g m) (hm : m ≤ 100000) (hn : 0 ≤ n) (hn2 : n ≤ 1000000) :
    Calls Tryd.prog 67 #[.pointer (some ⟨g, 0, none⟩), .int .i64 n] w fun e w' => ∃ b : Bool, e = .returned (.bool b) ∧ Rd w' g (m + 1) ∧ w.grownBy w' (some g) := by
  by_cases h1 : 1 ≤ n
  · exact odd_c g m n w h hm h1 hn2
  · obtain rfl : n = 0 := by omega
    have hr := hide (h.more (show m ≤ m + 1 by omega))
    go_enter Tryd.func67, Tryd.ntmps67
    go_wp2_with fail
    go_ret
    exact ⟨by first | rfl | simp | trace_state, hr.out, World.grownBy.refl w _⟩
set_option maxHeartbeats 2000000 in
theorem urn0_c (g m : Nat) (q : Int) (w : World) (h : Rd w g m) (hm : m ≤ 10000) (hq : 0 ≤ q) (hq2 : q ≤ 1000000) :
    Calls Tryd.prog 117 #[.pointer (some ⟨g, 0, none⟩), .int .i64 q] w fun e w' => ∃ A n c zs, e = .returned (.slice A n c) ∧ Own w' w.heap.size (.slice A n c) zs ∧ n ≤ 8 ∧ Rd w' g (m + 20) ∧ w.grownBy w' (some g) := by
  have hgl := h.lt
  obtain ⟨i0, hi, hz0, hz1, hz2⟩ := info_parts infoInt
  have HR0 := hide (h.kept (World.grownBy_alloc w (.cells #[] 3) none) (fun _ e => by cases e))
  go_enter Tryd.func117, Tryd.ntmps117
  go_wp2_with fail
  refine (pick_c g m 3 _ HR0.out (by omega) (by omega) (by omega)).mono ?_
  rintro e w1 ⟨x, rfl, hx0, hx1, hr1, hg1⟩
  have hgr1 := hide (show w.grownBy w1 (some g) from grown_new (grown_alloc (World.grownBy.refl w (some g)) _) hg1 (fun _ _ => .inr rfl))
  have ho1 := hide ((own_empty (w := w) (Nat.le_refl _)).past hg1 hgl)
  have hr1 := hide hr1
  have hs1 := hg1.size
  clear hg1 HR0 h
  go_wp2_with fail
  go_loopw [5, 6] (fun v i wr => ∃ k : Nat, ∃ A n c zs, i = .int .i64 k ∧ v = .slice A n c ∧ n + k ≤ 3 ∧ 1 ≤ n + k ∧ Hid (Own wr w.heap.size (.slice A n c) zs) ∧ Hid (Rd wr g (m + 1 + n)) ∧ Hid (w.grownBy wr (some g))) (fun _ i _ => (intOf i).toNat)
  case atStart => exact ⟨(x + 1).toNat, _, _, _, _, by rw [Int.toNat_of_nonneg (by omega)]; go_num, rfl, by omega, by omega, ho1, hr1, hgr1⟩
  case round =>
    obtain ⟨k, A, n, c, zs, rfl, rfl, hnk, hnk1, ho, hr, hgr⟩ := hrel
    by_cases hk : 0 < k
    · have hgs := hgr.out.size
      go_wp2_with fail
      refine (pick_c g _ 6 _ hr.out (by omega) (by omega) (by omega)).mono ?_
      rintro e w2 ⟨y, rfl, hy0, hy1, hr2, hg2⟩
      have hgs2 := hg2.size
      have ho2 := hide (ho.out.past hg2 hgl)
      have hr2 := hide hr2
      have hgr2 := hide (grown_new hgr.out hg2 (fun _ _ => .inr rfl))
      have hl2 := hide ho2.out.len
      clear hg2
      go_wp2_with (at_builtin; refine wpList_app _ rfl _ _ 22 rfl i0 Tryd.underlying22 hi hz0 hz1 hz2 _ _ rfl (ho2.out.alloc _) _ 1 1 _ [y] rfl (ints_lit1 (wf_i64 (by omega))) (by simp; omega) (by have := hl2.out; omega) ?_; intro A₃ n₃ c₃ w3 ho3 hg3)
      have hn3 := ho3.len
      rw [List.length_append] at hn3
      have hn4 : n₃ = n + 1 := by have := hl2.out; simp at hn3; omega
      have hr3 := hide (show Rd w3 g (m + 1 + n₃) from ((hr2.out.kept (World.grownBy_alloc _ (.cells #[.int .i64 y] 3) none) (fun _ e => by cases e)).kept hg3 (fun j hj => by have := (ho2.out.row.lt j hj).1; omega)).more (by omega))
      have hgr3 := hide (grown_new (grown_alloc hgr2.out _) hg3 (fun j hj => .inl (ho2.out.row.lt j hj).1))
      have ho3 := hide ho3
      clear hn3 hg3 hr2 ho2 hgr2
      go_wp2
      go_roundw
      case rel => exact ⟨k - 1, A₃, n₃, c₃, _, by go_num, rfl, by omega, by omega, ho3, hr3, hgr3⟩
      case measure => simp [intOf]; omega
    · obtain rfl : k = 0 := by omega
      have hl0 := hide ho.out.len
      go_wp2_with fail
      refine (odd_z g _ q _ hr.out (by omega) hq hq2).mono ?_
      rintro e w2 ⟨b, rfl, hr2, hg2⟩
      have ho2 := hide (ho.out.past hg2 hgl)
      have hr2 := hide hr2
      have hgr2 := hide (grown_new hgr.out hg2 (fun _ _ => .inr rfl))
      clear hg2 ho hr hgr
      cases b with
      | false =>
        go_wp2_with fail
        go_ret
        exact ⟨A, n, c, zs, rfl, ho2.out, by omega, hr2.out.more (by omega), hgr2.out⟩
      | true =>
        go_wp2_with fail
        refine (pick_c g _ 3 _ hr2.out (by omega) (by omega) (by omega)).mono ?_
        rintro e w3 ⟨y, rfl, hy0, hy1, hr3, hg3⟩
        have ho3 := hide (ho2.out.past hg3 hgl)
        have hr3 := hide hr3
        have hgr3 := hide (grown_new hgr2.out hg3 (fun _ _ => .inr rfl))
        clear hg3 ho2 hr2 hgr2
        have hs3 := hgr3.out.size
        rcases (show y = 0 ∨ y = 1 ∨ y = 2 by omega) with h | h | h
        · subst h
          go_wp2_with fail
          go_ret
          exact ⟨_, _, _, _, rfl, own_empty hs3, by omega, (hr3.out.kept (World.grownBy_alloc _ _ none) (fun _ e => by cases e)).more (by omega), grown_alloc hgr3.out _⟩
        · subst h
          go_wp2_with fail
          have hr4 := hide (hr3.out.kept (World.grownBy_alloc w3 (.cells #[.int .i64 (-1), .int .i64 41] 3) none) (fun _ e => by cases e))
          refine (pick_c g _ 2 _ hr4.out (by omega) (by omega) (by omega)).mono ?_
          rintro e w4 ⟨z, rfl, hz0', hz1', hr5, hg4⟩
          have hgw : g < w3.heap.size := by have := hgr3.out.size; omega
          have hc0 : w4.cell? ⟨w3.heap.size, 0, none⟩ = some (.int .i64 (-1)) := hg4.cell (by rw [World.cell?_alloc_at _ _ _ _ rfl]; rfl) (fun e => by injection e with e; simp at e; omega)
          have hc1 : w4.cell? ⟨w3.heap.size, 1, none⟩ = some (.int .i64 41) := hg4.cell (by rw [World.cell?_alloc_at _ _ _ _ rfl]; rfl) (fun e => by injection e with e; simp at e; omega)
          have hr5 := hide hr5
          have ho5 := hide ((ho3.out.alloc (.cells #[.int .i64 (-1), .int .i64 41] 3)).past hg4 hgl)
          have hgr5 := hide (grown_new (grown_alloc hgr3.out (.cells #[.int .i64 (-1), .int .i64 41] 3)) hg4 (fun _ _ => .inr rfl))
          clear hg4 ho3 hr3 hr4 hgr3
          obtain ⟨u, hu⟩ : ∃ u, Hid (zs[0]? = some u) := ⟨_, hide (List.getElem?_eq_getElem (by have := hl0.out; omega))⟩
          obtain ⟨gu, hA, hgu, hgul, hcu, hfu⟩ := ho5.out.at2 hu.out
          subst hA
          have hst : ∀ v : Int, (Lit.int .i64 v).wf = true → Own (w4.setCell ⟨gu, 0, none⟩ (.int .i64 v)) w.heap.size (.slice (some ⟨gu, 0, none⟩) n c) (zs.set 0 v) ∧ Rd (w4.setCell ⟨gu, 0, none⟩ (.int .i64 v)) g (m + 20) ∧ w.grownBy (w4.setCell ⟨gu, 0, none⟩ (.int .i64 v)) (some g) := by
            intro v hv
            have hgg : w4.grownBy (w4.setCell ⟨gu, 0, none⟩ (.int .i64 v)) (some gu) := ⟨rfl, rfl, rfl, by simp, fun q _ hq => heap_setCell_other w4 ⟨gu, 0, none⟩ q _ (fun e => hq (by simp [e]))⟩
            exact ⟨ho5.out.set_ v hv, (hr5.out.kept hgg (fun j hj => by injection hj with hj; omega)).more (by omega), grown_new hgr5.out hgg (fun j hj => by injection hj with hj; exact .inl (by omega))⟩
          have hst := hide hst
          clear ho5 hr5 hgr5 hs3 hs1
          rcases (show z = 0 ∨ z = 1 by omega) with h | h
          · subst h
            go_wp2_with fail
            go_ret
            obtain ⟨p1, p2, p3⟩ := hst.out (-1) (by decide)
            exact ⟨_, _, _, _, rfl, p1, by omega, p2, p3⟩
          · subst h
            go_wp2_with fail
            go_ret
            obtain ⟨p1, p2, p3⟩ := hst.out 41 (by decide)
            exact ⟨_, _, _, _, rfl, p1, by omega, p2, p3⟩
        · subst h
          go_wp2_with fail
          go_ret
          refine ⟨_, _, _, [1, 1, 1, 1], rfl, (ints_lit [1, 1, 1, 1] ?_ (by decide) rfl).down hs3, by omega, (hr3.out.kept (World.grownBy_alloc _ _ none) (fun _ e => by cases e)).more (by omega), grown_alloc hgr3.out _⟩
          intro x hx
          simp at hx
          subst hx
          decide

theorem lit_ne {g h n c n' c' : Nat} (hh : g ≠ h) : (Value.slice (some ⟨g, 0, none⟩) n c).ownBlock = none ∨ (Value.slice (some ⟨g, 0, none⟩) n c).ownBlock ≠ (Value.slice (some ⟨h, 0, none⟩) n' c').ownBlock := .inr fun e => hh (Option.some.inj e)
/-- The reader, a block of a place that may be written, and the two rows that the place has; all made behind w0, below 'hi'; block w0.heap.size is the result's. -/
structure Bp (w0 W : World) (hi g m g5 : Nat) (x y z : Value) (s t : List Int) : Prop where
  rd : Rd W g m
  gr : w0.grownBy W (some g)
  tri : TriW W g5 x y z
  t4 : TriW W w0.heap.size (.slice none 0 0) (.int .i64 0) (.slice none 0 0)
  os : Own W (w0.heap.size + 1) x s
  ow : Own W (g5 + 1) z t
  h5 : w0.heap.size + 1 ≤ g5 ∧ g5 < hi
  hg : g < w0.heap.size
  hx : ∀ k, x.ownBlock = some k → k < g5
  hz : ∀ k, z.ownBlock = some k → k < hi
  hs : hi ≤ W.heap.size
section
variable {w0 W W' : World} {hi g m m' g5 : Nat} {x y z : Value} {s t : List Int}
theorem grown_atP (w : World) (a : Addr) (u : Value) : w.grownBy (w.setCell a u) (some a.block) := ⟨rfl, rfl, rfl, by simp, fun k _ hk => Below.heap_setCell _ _ _ k (fun e => hk (by rw [e]))⟩
theorem neOf {v : Value} {k : Nat} (h : ∀ j, v.ownBlock = some j → j ≠ k) : v.ownBlock = none ∨ v.ownBlock ≠ some k := by
  cases hv : v.ownBlock with
  | none => exact .inl rfl
  | some j => exact .inr fun e => by injection e with e; exact h j hv e
/-- Another block grows. -/
theorem Bp.grown {row : Option Nat} (h : Bp w0 W hi g m g5 x y z s t) (hg : W.grownBy W' row) (hr : ∀ k, row = some k → hi ≤ k) : Bp w0 W' hi g m g5 x y z s t := by
  have hne : ∀ v : Value, (∀ k, v.ownBlock = some k → k < hi) → v.ownBlock = none ∨ v.ownBlock ≠ row := fun v hv => by
    cases hk : v.ownBlock with
    | none => exact .inl rfl
    | some j => exact .inr fun e => by have a := hv j hk; have b := hr j e.symm; omega
  have h5 := h.h5
  have h6 := h.hg
  have h0 := h.gr.size
  exact ⟨h.rd.kept hg (fun k e => by have := hr k e; omega), grown_new h.gr hg (fun j e => .inl (by have := hr j e; omega)), h.tri.grown hg (fun k e => by have := hr k e; omega), h.t4.grown hg (fun k e => by have := hr k e; omega), h.os.kept hg (hne _ fun k e => by have := h.hx k e; omega), h.ow.kept hg (hne _ fun k e => h.hz k e), h5, h6, h.hx, h.hz, Nat.le_trans h.hs hg.size⟩
theorem Bp.alloc (h : Bp w0 W hi g m g5 x y z s t) (o : Obj) : Bp w0 (W.alloc o) hi g m g5 x y z s t := h.grown (row := none) (World.grownBy_alloc _ _ none) (fun _ e => by cases e)
theorem Bp.drew (h : Bp w0 W hi g m g5 x y z s t) : Bp w0 W.drew hi g m g5 x y z s t := h.grown (row := none) ⟨rfl, rfl, rfl, Nat.le_refl _, fun _ _ _ => rfl⟩ (fun _ e => by cases e)
theorem Bp.below (h : Bp w0 W hi g m g5 x y z s t) (hq : Below W.heap.size W W') : Bp w0 W' hi g m g5 x y z s t := h.grown (row := none) ⟨hq.os, hq.tape, hq.output, hq.size, fun k hk _ => hq.block k hk⟩ (fun _ e => by cases e)
theorem Bp.more (h : Bp w0 W hi g m g5 x y z s t) (hm : m ≤ m') : Bp w0 W hi g m' g5 x y z s t := ⟨h.rd.more hm, h.gr, h.tri, h.t4, h.os, h.ow, h.h5, h.hg, h.hx, h.hz, h.hs⟩
theorem Bp.wide {hi' : Nat} (h : Bp w0 W hi g m g5 x y z s t) (hh : hi ≤ hi') (hs : hi' ≤ W.heap.size) : Bp w0 W hi' g m g5 x y z s t := ⟨h.rd, h.gr, h.tri, h.t4, h.os, h.ow, ⟨h.h5.1, by have := h.h5.2; omega⟩, h.hg, h.hx, fun k e => by have := h.hz k e; omega, hs⟩
/-- The reader reads. -/
theorem Bp.read (h : Bp w0 W hi g m g5 x y z s t) (hr : Rd W' g m') (hg : W.grownBy W' (some g)) : Bp w0 W' hi g m' g5 x y z s t := by
  have h5 := h.h5
  have h6 := h.hg
  exact ⟨hr, grown_new h.gr hg (fun _ _ => .inr rfl), h.tri.grown hg (fun k e => by injection e with e; omega), h.t4.grown hg (fun k e => by injection e with e; omega), h.os.past hg (by omega), h.ow.past hg (by omega), h5, h6, h.hx, h.hz, Nat.le_trans h.hs hg.size⟩
/-- Another word. -/
theorem Bp.setWord (h : Bp w0 W hi g m g5 x y z s t) {z' : Value} {t' : List Int} (ho : Own W (g5 + 1) z' t') (hz' : ∀ k, z'.ownBlock = some k → k < hi) : Bp w0 (W.setCell ⟨g5, 2, none⟩ z') hi g m g5 x y z' s t' := by
  have hgg : W.grownBy (W.setCell ⟨g5, 2, none⟩ z') (some g5) := grown_atP W ⟨g5, 2, none⟩ z'
  have h5 := h.h5
  have h6 := h.hg
  exact ⟨h.rd.kept hgg (fun k e => by injection e with e; omega), grown_new h.gr hgg (fun j e => .inl (by injection e with e; omega)), h.tri.set2 z', h.t4.other (fun e => by simp at e; omega) z', h.os.kept hgg (neOf fun k e => by have := h.hx k e; omega), ho.kept hgg (neOf fun k e => by have := (ho.row.lt k e).1; omega), h5, h6, h.hx, hz', by have := hgg.size; have := h.hs; omega⟩
theorem Bp.setStep (h : Bp w0 W hi g m g5 x y z s t) (y' : Value) : Bp w0 (W.setCell ⟨g5, 1, none⟩ y') hi g m g5 x y' z s t := by
  have hgg : W.grownBy (W.setCell ⟨g5, 1, none⟩ y') (some g5) := grown_atP W ⟨g5, 1, none⟩ y'
  have h5 := h.h5
  have h6 := h.hg
  exact ⟨h.rd.kept hgg (fun k e => by injection e with e; omega), grown_new h.gr hgg (fun j e => .inl (by injection e with e; omega)), h.tri.set1 y', h.t4.other (fun e => by simp at e; omega) y', h.os.kept hgg (neOf fun k e => by have := h.hx k e; omega), h.ow.kept hgg (neOf fun k e => by have := (h.ow.row.lt k e).1; omega), h5, h6, h.hx, h.hz, by have := hgg.size; have := h.hs; omega⟩
/-- The word's row grows, and is another's then. -/
theorem Bp.appd {z' : Value} {t' : List Int} (h : Bp w0 W hi g m g5 x y z s t) (hg : W.grownBy W' z.ownBlock) (ho : Own W' (g5 + 1) z' t') : Bp w0 (W'.setCell ⟨g5, 2, none⟩ z') W'.heap.size g m g5 x y z' s t' ∧ TriW W' g5 x y z ∧ TriW W' w0.heap.size (.slice none 0 0) (.int .i64 0) (.slice none 0 0) := by
  have hgg : W'.grownBy (W'.setCell ⟨g5, 2, none⟩ z') (some g5) := grown_atP W' ⟨g5, 2, none⟩ z'
  have h5 := h.h5
  have h6 := h.hg
  have hzk : ∀ k, z.ownBlock = some k → g5 < k := fun k e => by have := (h.ow.row.lt k e).1; omega
  have hsz := hg.size
  have hi' := h.hs
  have ht : TriW W' g5 x y z := h.tri.grown hg (fun k e => by have := hzk k e; omega)
  have h4 : TriW W' w0.heap.size (.slice none 0 0) (.int .i64 0) (.slice none 0 0) := h.t4.grown hg (fun k e => by have := hzk k e; omega)
  have hos : Own W' (w0.heap.size + 1) x s := h.os.kept hg (by
    cases hk : x.ownBlock with
    | none => exact .inl rfl
    | some j => exact .inr fun e => by have a := h.hx j hk; have b := hzk j e.symm; omega)
  have hr : Rd W' g m := h.rd.kept hg (fun k e => by have := hzk k e; omega)
  have hgr : w0.grownBy W' (some g) := grown_new h.gr hg (fun j e => .inl (by have := hzk j e; omega))
  exact ⟨⟨hr.kept hgg (fun k e => by injection e with e; omega), grown_new hgr hgg (fun j e => .inl (by injection e with e; omega)), ht.set2 z', h4.other (fun e => by simp at e; omega) z', hos.kept hgg (neOf fun k e => by have := h.hx k e; omega), ho.kept hgg (neOf fun k e => by have := (ho.row.lt k e).1; omega), ⟨h5.1, by omega⟩, h6, h.hx, fun k e => (ho.row.lt k e).2, hgg.size⟩, ht, h4⟩
/-- The place is laid into the block of the result. -/
theorem Bp.fin (h : Bp w0 W hi g m g5 x y z s t) (a b c : Value) : TriW (((W.setCell ⟨w0.heap.size, 0, none⟩ a).setCell ⟨w0.heap.size, 1, none⟩ b).setCell ⟨w0.heap.size, 2, none⟩ c) w0.heap.size a b c ∧ Own (((W.setCell ⟨w0.heap.size, 0, none⟩ a).setCell ⟨w0.heap.size, 1, none⟩ b).setCell ⟨w0.heap.size, 2, none⟩ c) w0.heap.size x s ∧ Own (((W.setCell ⟨w0.heap.size, 0, none⟩ a).setCell ⟨w0.heap.size, 1, none⟩ b).setCell ⟨w0.heap.size, 2, none⟩ c) w0.heap.size z t ∧ Rd (((W.setCell ⟨w0.heap.size, 0, none⟩ a).setCell ⟨w0.heap.size, 1, none⟩ b).setCell ⟨w0.heap.size, 2, none⟩ c) g m ∧ w0.grownBy (((W.setCell ⟨w0.heap.size, 0, none⟩ a).setCell ⟨w0.heap.size, 1, none⟩ b).setCell ⟨w0.heap.size, 2, none⟩ c) (some g) := by
  have hs : ∀ {X : World} {v : Value} {l : List Int} {i b0 : Nat} {u : Value}, w0.heap.size < b0 → Own X b0 v l → Own (X.setCell ⟨w0.heap.size, i, none⟩ u) b0 v l := fun {X v l i b0 u} hb hX => hX.kept (row := some w0.heap.size) (grown_atP X ⟨w0.heap.size, i, none⟩ u) (neOf fun k e => by have := (hX.row.lt k e).1; omega)
  have h5 := h.h5
  have hr : ∀ {X : World} {i : Nat} {u : Value}, Rd X g m → Rd (X.setCell ⟨w0.heap.size, i, none⟩ u) g m := fun {X i u} hX => hX.kept (row := some w0.heap.size) (grown_atP X ⟨w0.heap.size, i, none⟩ u) (fun k e => by injection e with e; have := h.hg; omega)
  have hg : ∀ {X : World} {i : Nat} {u : Value}, w0.grownBy X (some g) → w0.grownBy (X.setCell ⟨w0.heap.size, i, none⟩ u) (some g) := fun {X i u} hX => grown_new hX (q := some w0.heap.size) (grown_atP X ⟨w0.heap.size, i, none⟩ u) (fun j e => .inl (by injection e with e; omega))
  have l1 : w0.heap.size < w0.heap.size + 1 := Nat.lt_succ_self _
  have l2 : w0.heap.size < g5 + 1 := by omega
  exact ⟨((h.t4.set0 a).set1 b).set2 c, (hs l1 (hs l1 (hs l1 h.os))).down (Nat.le_succ _), (hs l2 (hs l2 (hs l2 h.ow))).down (by omega), hr (hr (hr h.rd)), hg (hg (hg h.gr))⟩
end

set_option maxRecDepth 100000 in
set_option maxHeartbeats 6400000 in
theorem l20Place_c (g m : Nat) (q : Int) (w : World) (h : Rd w g m) (hm : m ≤ 1000) (hq0 : 0 ≤ q) (hq : q ≤ 1000000) :
    Calls Tryd.prog 94 #[.pointer (some ⟨g, 0, none⟩), .int .i64 q] w fun e w' => ∃ A n c A' n' c' zs ws, ∃ S : Int, e = .returned (.agg #[.slice A n c, .int .i64 S, .slice A' n' c']) ∧ Own w' w.heap.size (.slice A n c) zs ∧ Own w' w.heap.size (.slice A' n' c') ws ∧ n ≤ 8 ∧ n' ≤ 10 ∧ -10 ≤ S ∧ S ≤ 10 ∧ Rd w' g (m + 40) ∧ w.grownBy w' (some g) := by
  have hgl := h.lt
  obtain ⟨i0, hi, hz0, hz1, hz2⟩ := info_parts infoInt
  have HR0 := hide (h.kept (World.grownBy_alloc w (.cells #[.slice none 0 0, .int .i64 0, .slice none 0 0] 31) none) (fun _ e => by cases e))
  have hG0 := hide (World.grownBy_alloc w (.cells #[.slice none 0 0, .int .i64 0, .slice none 0 0] 31) (some g))
  have hz40 := hide (TriW.made w (.slice none 0 0) (.int .i64 0) (.slice none 0 0) 31)
  go_enter Tryd.func94, Tryd.ntmps94
  go_wp2_with fail
  refine (urn0_c g m 0 _ HR0.out (by omega) (by omega) (by omega)).mono ?_
  rintro e w1 ⟨A1, n1, c1, zs, rfl, ho1, hn1, hr1, hg1⟩
  have hG1 := hide (grown_new hG0.out hg1 (fun _ _ => .inr rfl))
  have hz41 := hide (hz40.out.grown hg1 (fun k e => by injection e with e; omega))
  have hr1 := hide hr1
  have ho1 := hide ho1
  have hs1 := hide hg1.size
  clear HR0 hG0 hz40 hg1
  go_wp2_with fail
  refine (pick_c g _ 5 _ hr1.out (by omega) (by omega) (by omega)).mono ?_
  rintro e w2 ⟨x, rfl, hx0, hx1, hr2, hg2⟩
  obtain ⟨S, rfl⟩ : ∃ S : Int, x = S + 1 := ⟨x - 1, by omega⟩
  have hS0 : -1 ≤ S ∧ S ≤ 5 := by omega
  have hG2 := hide (grown_alloc (grown_new hG1.out hg2 (fun _ _ => .inr rfl)) (.cells #[.slice A1 n1 c1, .int .i64 S, .slice none 0 0] 31))
  have hs2 := hide hg2.size
  have hsw : w.heap.size + 1 ≤ w2.heap.size := by have := hs1.out; have := hs2.out; simp at *; omega
  have hB := hide (show Bp w (w2.alloc (.cells #[.slice A1 n1 c1, .int .i64 S, .slice none 0 0] 31)) (w2.heap.size + 1) g (m + 21) w2.heap.size (.slice A1 n1 c1) (.int .i64 S) (.slice none 0 0) zs [] from
    ⟨(hr2.kept (World.grownBy_alloc _ _ none) (fun _ e => by cases e)).more (by omega), hG2.out, TriW.made _ _ _ _ _, (hz41.out.grown hg2 (fun k e => by injection e with e; omega)).alloc _, ((ho1.out.down (by simp)).past hg2 (Nat.lt_succ_of_lt hgl)).alloc _, Own.none_, ⟨by omega, by omega⟩, hgl, fun k e => ((ho1.out.past hg2 (by simp; omega)).row.lt k e).2, fun k e => by simp [Value.ownBlock] at e, by simp⟩)
  clear hG1 hz41 hr1 hr2 hg2 hG2 ho1 hs1
  go_wp2_with fail
  refine (pick_c g _ 5 _ hB.out.rd (by omega) (by omega) (by omega)).mono ?_
  rintro e w3 ⟨k0, rfl, hk0, hk1, hr3, hg3⟩
  obtain ⟨K, rfl⟩ : ∃ K : Nat, k0 = (K : Int) := ⟨k0.toNat, by omega⟩
  have hs3 := hide hg3.size
  have hB3 := hide ((hB.out.read hr3 hg3).wide (hi' := w3.heap.size) (by have := hg3.size; simpa using this) (Nat.le_refl _))
  have hn1 : n1 ≤ 8 := hn1
  clear hB hr3 hg3
  go_wp2_with fail
  go_loopw [6, 7] (fun i v wr => ∃ k n' c' : Nat, ∃ A' : Option Addr, ∃ t : List Int, k + n' ≤ 4 ∧ i = .int .i64 (k : Int) ∧ Hid (Bp w wr wr.heap.size g (m + 26 - k) w2.heap.size (.slice A1 n1 c1) (.int .i64 S) (.slice A' n' c') zs t) ∧ w2.heap.size < wr.heap.size) (fun i _ _ => (intOf i).toNat)
  case atStart => exact ⟨K, 0, 0, none, [], by omega, rfl, hide (hB3.out.more (by omega)), by have := hs3.out; simp at this; omega⟩
  case round =>
    clear hB3 hs3
    obtain ⟨k, n', c', A', t, hkn, rfl, hB, hlt2⟩ := hrel
    have hl1 := hide hB.out.os.len
    have hl2' := hide hB.out.ow.len
    obtain ⟨f0, f1, f2, e0, e1, e2, _⟩ := hB.out.tri
    have hz := hide hB.out.hz
    have hgHI := hide (show g < wr.heap.size by omega)
    by_cases hk : 0 < k
    · go_upto_region 5 with fail
      go_cut [7] (fun v wx => ∃ c₄ : Nat, ∃ A₄ : Option Addr, ∃ x : Int, v = .slice A₄ (n' + 1) c₄ ∧ Hid (Own wx wr.heap.size (.slice A₄ (n' + 1) c₄) (t ++ [x])) ∧ Hid (Bp w wx wr.heap.size g (m + 26 - k + 1) w2.heap.size (.slice A1 n1 c1) (.int .i64 S) (.slice A' n' c') zs t) ∧ wr.heap.size ≤ wx.heap.size)
      case first =>
       go_wp2_with fail
       go_region_law (first
        | (refine step_app _ rfl _ _ 22 rfl i0 Tryd.underlying22 hi hz0 hz1 hz2 (base := wr.heap.size) _ [] rfl (by (repeat (first | exact hlp.out | exact own_empty (by omega) | with_reducible refine Own.drew ?_ | with_reducible refine Own.alloc ?_ _)); done) A' n' c' _ t rfl (Own.ints (base := w2.heap.size + 1) (by (repeat (first | exact hB.out.ow | exact hBp.out.ow | with_reducible refine Own.drew ?_ | with_reducible refine Own.alloc ?_ _)); done)) (by first | omega | (simp; done) | (simp; omega)) (by have := hl2'.out; have h0 : ([] : List Int).length = 0 := rfl; omega) ?_
           intro A₃ n₃ c₃ wa hoa hga
           (first | have hBa : Hid (Bp w wa wr.heap.size g (m + 26 - k) w2.heap.size (.slice A1 n1 c1) (.int .i64 S) (.slice A' n' c') zs t) := Bp.grown (by (repeat (first | exact hB.out | exact hBp.out | exact hBa.out | with_reducible refine Bp.drew ?_ | with_reducible refine Bp.alloc ?_ _)); done) hga (fun q hq => by first | exact Nat.le_of_eq (Option.some.inj hq) | exact Nat.le_trans hsp (Nat.le_of_eq (Option.some.inj hq)) | exact Nat.le_trans (Nat.le_succ_of_le hsp) (Nat.le_of_eq (Option.some.inj hq))) | have hBa : Hid (Bp w wa wr.heap.size g (m + 26 - k + 1) w2.heap.size (.slice A1 n1 c1) (.int .i64 S) (.slice A' n' c') zs t) := Bp.grown (by (repeat (first | exact hB.out | exact hBp.out | exact hBa.out | with_reducible refine Bp.drew ?_ | with_reducible refine Bp.alloc ?_ _)); done) hga (fun q hq => by first | exact Nat.le_of_eq (Option.some.inj hq) | exact Nat.le_trans hsp (Nat.le_of_eq (Option.some.inj hq)) | exact Nat.le_trans (Nat.le_succ_of_le hsp) (Nat.le_of_eq (Option.some.inj hq))))
           obtain ⟨f0, f1, f2, e0, e1, e2, _⟩ := hBa.out.tri
           have hsa : wr.heap.size ≤ wa.heap.size := Nat.le_trans (by (first | exact Nat.le_refl _ | assumption | (simp; done) | (simp; omega))) hga.size
           (first
            | have hl2 : Hid (Own wa wp.heap.size (.slice (some ⟨wp.heap.size, 0, none⟩) 1 1) [x]) := Own.kept (ints_lit (w := wp) [x] hxs (Nat.le_of_ble_eq_true rfl) rfl) hga (lit_ne (by (first | omega | (simp; omega))))
            | have hl2 : Hid (Own wa wp.heap.size (.slice (some ⟨wp.heap.size, 0, none⟩) 1 1) [x]) := Own.kept (ints_lit (w := wp) [x] hxs (Nat.le_of_ble_eq_true rfl) rfl).drew hga (lit_ne (by (first | omega | (simp; omega))))
            | have hl2 : Hid (Own wa wp.heap.size (.slice (some ⟨wp.heap.size, 0, none⟩) 1 1) [x]) := Own.kept (ints_lit (w := wp) [x] hxs (Nat.le_of_ble_eq_true rfl) rfl |>.alloc _) hga (lit_ne (by (first | omega | (simp; omega))))
            | have hl2 : Hid (Own wa wp.heap.size (.slice (some ⟨wp.heap.size, 0, none⟩) 1 1) [x]) := Own.kept (ints_lit (w := wp) [x] hxs (Nat.le_of_ble_eq_true rfl) rfl |>.alloc _ |>.drew) hga (lit_ne (by (first | omega | (simp; omega))))
            | have hl2 : Hid (Own wa wp.heap.size (.slice (some ⟨wp.heap.size + 1, 0, none⟩) 1 1) [x]) := Own.kept (Own.down (ints_lit (w := (wp.alloc (.cells #[] 3))) [x] hxs (Nat.le_of_ble_eq_true rfl) rfl) (Nat.le_succ _)) hga (lit_ne (by (first | omega | (simp; omega))))
            | have hl2 : Hid (Own wa wp.heap.size (.slice (some ⟨wp.heap.size + 1, 0, none⟩) 1 1) [x]) := Own.kept (Own.down (ints_lit (w := (wp.alloc (.cells #[] 3))) [x] hxs (Nat.le_of_ble_eq_true rfl) rfl) (Nat.le_succ _)).drew hga (lit_ne (by (first | omega | (simp; omega))))
            | skip)
           have hla := hide hoa.len
           replace hoa := hide hoa
           clear hga)
        | (go_simp
           go_at_call 95
           (with_reducible refine (pick_any g (m + 26 - k) (n1 : Int) _ (Bp.rd (w0 := w) (hi := wr.heap.size) (g5 := w2.heap.size) (x := .slice A1 n1 c1) (y := .int .i64 S) (z := .slice A' n' c') (s := zs) (t := t) (by (repeat (first | exact hB.out | exact hBp.out | exact hBa.out | with_reducible refine Bp.drew ?_ | with_reducible refine Bp.alloc ?_ _)); done)) (by omega) (by omega)).mono ?_)
           rintro e wp ⟨x, rfl, hx0, hx1, hrp, hgp⟩
           have hwx := hide (wf_i64 (z := x) (by omega))
           have hBp : Hid (Bp w wp wr.heap.size g (m + 26 - k + 1) w2.heap.size (.slice A1 n1 c1) (.int .i64 S) (.slice A' n' c') zs t) := Bp.read (m := m + 26 - k) (by (repeat (first | exact hB.out | exact hBp.out | exact hBa.out | with_reducible refine Bp.drew ?_ | with_reducible refine Bp.alloc ?_ _)); done) hrp hgp
           obtain ⟨f0, f1, f2, e0, e1, e2, _⟩ := hBp.out.tri
           have hsp : wr.heap.size ≤ wp.heap.size := Nat.le_trans (by (first | exact Nat.le_refl _ | assumption | (simp; done) | (simp; omega))) hgp.size
           (first | have hlp : Hid (Own wp wr.heap.size (.slice (some ⟨wr.heap.size, 0, none⟩) 0 0) []) := Own.past (own_empty (Nat.le_refl _)).drew hgp hgHI.out | have hlp : Hid (Own wp wr.heap.size (.slice (some ⟨wr.heap.size, 0, none⟩) 0 0) []) := Own.past (own_empty (Nat.le_refl _)) hgp hgHI.out | skip)
           (first | replace hoa := hide (Own.past hoa.out hgp hgHI.out) | replace hoa := hide (Own.past hoa.out.drew hgp hgHI.out) | skip)
           have hxs := hide (show ∀ y ∈ [x], (Lit.int .i64 y).wf = true from fun y hy => by rw [List.mem_singleton] at hy; rw [hy]; exact hwx.out)
           clear hrp hgp)
        | (refine step_app _ rfl _ _ 22 rfl i0 Tryd.underlying22 hi hz0 hz1 hz2 (base := wr.heap.size) _ ([] ++ t) rfl (by (repeat (first | exact hoa.out | with_reducible refine Own.drew ?_ | with_reducible refine Own.alloc ?_ _)); done) _ 1 1 _ [x] rfl (Own.ints (base := wp.heap.size) (by (repeat (first | exact hl2.out | exact ints_lit [x] hxs.out (Nat.le_of_ble_eq_true rfl) rfl | with_reducible refine Own.drew ?_ | with_reducible refine Own.alloc ?_ _)); done)) (by first | omega | (simp; done) | (simp; omega)) (by have := hla.out; have := hl2'.out; simp at *; omega) ?_
           intro A₄ n₄ c₄ wb hob hgb
           have hBb : Hid (Bp w wb wr.heap.size g (m + 26 - k + 1) w2.heap.size (.slice A1 n1 c1) (.int .i64 S) (.slice A' n' c') zs t) := Bp.grown (by (repeat (first | exact hB.out | exact hBp.out | exact hBa.out | with_reducible refine Bp.drew ?_ | with_reducible refine Bp.alloc ?_ _)); done) hgb (fun q hq => (hoa.out.row.lt q hq).1)
           have hsb : wr.heap.size ≤ wb.heap.size := Nat.le_trans (by (first | exact Nat.le_refl _ | assumption | (simp; done) | (simp; omega))) hgb.size
           replace hob := hide hob
           clear hgb))
       all_goals
        have hn4 : n₄ = n' + 1 := by
          have h1 := hob.out.len
          have h2 := hl2'.out
          simp at h1
          omega
        subst hn4
        go_wp2_with fail
        go_meet
        exact ⟨c₄, A₄, x, rfl, hob, hBb, hsb⟩
      case rest =>
        clear f0 f1 f2 e0 e1 e2 hB
        obtain ⟨c₄, A₄, x, rfl, hob, hBb, hsb⟩ := hcut
        have hwS := hide (wf_i64 (z := S) (by omega))
        have hob2 := hide (show Own wc (w2.heap.size + 1) (.slice A₄ (n' + 1) c₄) (t ++ [x]) from hob.out.down (by omega))
        have hobl := hide (fun k e => (hob.out.row.lt k e))
        have HP := hide (placeOk_spec (.agg #[.slice A1 n1 c1, .int .i64 S, .slice A₄ (n' + 1) c₄]) ⟨zs, S, t ++ [x]⟩ wc.heap.size wc (plM_mk (p := ⟨zs, S, t ++ [x]⟩) hBb.out.os.ints hob2.out.ints hwS.out) (Nat.le_refl _))
        obtain ⟨V, hV⟩ : ∃ V, Hid (placeOk ⟨zs, S, t ++ [x]⟩ = V) := ⟨_, hide rfl⟩
        rw [hV.out] at HP
        obtain ⟨f0, f1, f2, e0, e1, e2, _⟩ := hBb.out.tri
        clear hob
        cases V with
        | true =>
          go_wp2_with (go_at_call 41; refine HP.out.mono ?_; rintro e w4 ⟨rfl, hq4⟩; have hB4 := hide (hBb.out.below hq4); obtain ⟨f0, f1, f2, e0, e1, e2, _⟩ := hB4.out.tri; have hs4 := hide hq4.size; have hob4 := hide (hob2.out.up hq4))
          have hB5 := hide (((hB4.out.wide (hi' := w4.heap.size) (Nat.le_trans hsb hs4.out) (Nat.le_refl _)).setWord hob4.out (fun j e => by have := hobl.out j e; have := hs4.out; omega)).more (show m + 26 - k + 1 ≤ m + 26 - (k - 1) by omega))
          go_roundw
          case rel => exact ⟨k - 1, n' + 1, c₄, A₄, _, by omega, by go_num, hide (hB5.out.wide (by simp) (Nat.le_refl _)), by have := hs4.out; simp; omega⟩
          case measure => simp [intOf]; omega
        | false =>
          go_wp2_with (go_at_call 41; refine HP.out.mono ?_; rintro e w4 ⟨rfl, hq4⟩; have hB4 := hide (hBb.out.below hq4); obtain ⟨f0, f1, f2, e0, e1, e2, _⟩ := hB4.out.tri; have hs4 := hide hq4.size)
          have hB5 := hide ((hB4.out.wide (hi' := w4.heap.size) (Nat.le_trans hsb hs4.out) (Nat.le_refl _)).more (show m + 26 - k + 1 ≤ m + 26 - (k - 1) by omega))
          go_roundw
          case rel => exact ⟨k - 1, n', c', A', _, by omega, by go_num, hB5, by have := hs4.out; omega⟩
          case measure => simp [intOf]; omega
    · obtain rfl : k = 0 := by omega
      go_wp2_with fail
      refine (odd_z g _ q _ hB.out.rd (by omega) hq0 hq).mono ?_
      rintro e w3 ⟨b, rfl, hr3, hg3⟩
      have hB3 := hide (hB.out.read hr3 hg3)
      clear hB hr3 hg3 f0 f1 f2 e0 e1 e2
      obtain ⟨f0, f1, f2, e0, e1, e2, _⟩ := hB3.out.tri
      obtain ⟨u0, u1, u2, v0, v1, v2, _⟩ := hB3.out.t4
      cases b with
      | false =>
        go_wp2_with fail
        obtain ⟨⟨k0, k1, k2, _, _, _, _⟩, p1, p2, p3, p4⟩ := hB3.out.fin (.slice A1 n1 c1) (.int .i64 S) (.slice A' n' c')
        refine bodyPost_ret (v := .agg #[.slice A1 n1 c1, .int .i64 S, .slice A' n' c']) (by simp [results, Tryd.results94, go_sem, k0, k1, k2]) rfl ⟨_, _, _, _, _, _, _, _, _, rfl, p1, p2, by omega, by omega, by omega, by omega, p3.more (by omega), p4⟩
      | true =>
        go_wp2_with fail
        refine (pick_c g _ 3 _ hB3.out.rd (by omega) (by omega) (by omega)).mono ?_
        rintro e w4 ⟨y, rfl, hy0, hy1, hr4, hg4⟩
        have hB4 := hide (hB3.out.read hr4 hg4)
        have hs4 := hide hg4.size
        clear hB3 hr4 hg4 f0 f1 f2 e0 e1 e2 u0 u1 u2 v0 v1 v2
        obtain ⟨f0, f1, f2, e0, e1, e2, _⟩ := hB4.out.tri
        obtain ⟨u0, u1, u2, v0, v1, v2, _⟩ := hB4.out.t4
        rcases (show y = 0 ∨ y = 1 ∨ y = 2 by omega) with hy | hy | hy
        · subst hy
          have hB5 := hide (hB4.out.setStep (.int .i64 4))
          obtain ⟨⟨k0, k1, k2, _, _, _, _⟩, p1, p2, p3, p4⟩ := hB5.out.fin (.slice A1 n1 c1) (.int .i64 4) (.slice A' n' c')
          go_wp2_with fail
          refine bodyPost_ret (v := .agg #[.slice A1 n1 c1, .int .i64 4, .slice A' n' c']) (by simp [results, Tryd.results94, go_sem, k0, k1, k2]) rfl ⟨_, _, _, _, _, _, _, _, _, rfl, p1, p2, by omega, by omega, by omega, by omega, p3.more (by omega), p4⟩
        · subst hy
          have hl0 := hide hB4.out.ow.len
          have hs5 := hs4.out
          have hs6 := hB4.out.h5.2
          have hB4l := hide (hB4.out.alloc (.cells #[.int .i64 3] 3))
          go_wp2_with (at_builtin; refine wpList_app _ rfl _ _ 22 rfl i0 Tryd.underlying22 hi hz0 hz1 hz2 _ _ rfl hB4l.out.ow _ 1 1 _ [3] rfl (ints_lit1 (by decide)) (by simp; omega) (by have := hl0.out; omega) ?_; intro A₃ n₃ c₃ w5 ho5 hg5; obtain ⟨hB5, ⟨f0, f1, f2, e0, e1, e2, _⟩, ⟨u0, u1, u2, v0, v1, v2, _⟩⟩ := hB4l.out.appd hg5 ho5; have hB5 := hide hB5; have hl5 := hide ho5.len; clear hg5 ho5)
          have hl6 := hl5.out
          have hl7 := hl0.out
          simp at hl6
          obtain ⟨⟨k0, k1, k2, _, _, _, _⟩, p1, p2, p3, p4⟩ := hB5.out.fin (.slice A1 n1 c1) (.int .i64 S) (.slice A₃ n₃ c₃)
          go_wp2_with fail
          refine bodyPost_ret (v := .agg #[.slice A1 n1 c1, .int .i64 S, .slice A₃ n₃ c₃]) (by simp [results, Tryd.results94, go_sem, k0, k1, k2]) rfl ⟨_, _, _, _, _, _, _, _, _, rfl, p1, p2, by omega, by omega, by omega, by omega, p3.more (by omega), p4⟩
        · subst hy
          obtain ⟨⟨k0, k1, k2, _, _, _, _⟩, p1, p2, p3, p4⟩ := hB4.out.fin (.slice none 0 0) (.int .i64 0) (.slice none 0 0)
          go_wp2_with fail
          refine bodyPost_ret (v := .agg #[.slice none 0 0, .int .i64 0, .slice none 0 0]) (by simp [results, Tryd.results94, go_sem, k0, k1, k2]) rfl ⟨_, _, _, _, _, _, _, _, _, rfl, Own.none_, Own.none_, by omega, by omega, by omega, by omega, p3.more (by omega), p4⟩
end Go.Proofs.YtoafpokcbbncfaaDoor
