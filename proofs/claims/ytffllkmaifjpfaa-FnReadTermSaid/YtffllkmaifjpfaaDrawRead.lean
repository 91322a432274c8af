/-
  The draw of FnReadTerm (written by wip/gen_z7.py).
-/
import Derived.Test.YtffllkmaifjpfaaDrawTerm
import Derived.Test.YtffllkmaifjpfaaZterm
namespace Go.Proofs.Ytffllkmaifjpfaa
open Go.RowKit
set_option linter.unusedVariables false

theorem Rd.alloc1 {w : World} {g m : Nat} (h : Rd w g m) (o : Obj) : Rd (w.alloc o) g m := h.kept (World.grownBy_alloc w o none) (fun _ e => by cases e)
theorem Rd.drew1 {w : World} {g m : Nat} (h : Rd w g m) : Rd w.drew g m := h.drewN 1
def litA : Array Value := #[.string ⟨#[]⟩, .string ⟨#[40]⟩, .string ⟨#[41]⟩, .string ⟨#[124]⟩, .string ⟨#[46]⟩, .string ⟨#[97]⟩, .string ⟨#[100]⟩]
abbrev litS : Obj := .cells #[.string ⟨#[]⟩, .string ⟨#[40]⟩, .string ⟨#[41]⟩, .string ⟨#[124]⟩, .string ⟨#[46]⟩, .string ⟨#[97]⟩, .string ⟨#[100]⟩] 9
theorem lit_at (X : Nat) (h : X < 7) : ∃ t : ByteArray, litA[X]? = some (.string t) ∧ t.size ≤ 1 := by
  rcases (show X = 0 ∨ X = 1 ∨ X = 2 ∨ X = 3 ∨ X = 4 ∨ X = 5 ∨ X = 6 by omega) with rfl | rfl | rfl | rfl | rfl | rfl | rfl <;> exact ⟨_, rfl, by decide⟩
theorem lit_cell {w : World} {X : Nat} {t : ByteArray} (h : litA[X]? = some (.string t)) : (w.alloc litS).cell? ⟨w.heap.size, X, none⟩ = some (.string t) := by
  rw [World.cell?_alloc_at _ _ _ _ rfl]; exact h

theorem pickN (g m n : Nat) (w : World) (h : Rd w g m) (hm : m ≤ 100000) (hn : 1 ≤ n) (hn2 : n ≤ 1000000) :
    Calls Try.prog 47 #[.pointer (some ⟨g, 0, none⟩), .int .i64 (n : Int)] w fun e w' => ∃ x : Nat, e = .returned (.int .i64 (x : Int)) ∧ x < n ∧ Rd w' g (m + 1) ∧ w.grownBy w' (some g) :=
  (pick_c g m (n : Int) w h hm (by omega) (by omega)).mono fun e w' ⟨x, h1, h2, h3, h4, h5⟩ => ⟨x.toNat, by rw [h1, Int.toNat_of_nonneg h2], by omega, h4, h5⟩
theorem pick7 (g m : Nat) (w : World) (h : Rd w g m) (hm : m ≤ 100000) :
    Calls Try.prog 47 #[.pointer (some ⟨g, 0, none⟩), .int .i64 7] w fun e w' => ∃ x : Nat, e = .returned (.int .i64 (x : Int)) ∧ x < 7 ∧ Rd w' g (m + 1) ∧ w.grownBy w' (some g) := pickN g m 7 w h hm (by omega) (by omega)
theorem pick2 (g m : Nat) (w : World) (h : Rd w g m) (hm : m ≤ 100000) :
    Calls Try.prog 47 #[.pointer (some ⟨g, 0, none⟩), .int .i64 2] w fun e w' => ∃ x : Nat, e = .returned (.int .i64 (x : Int)) ∧ x < 2 ∧ Rd w' g (m + 1) ∧ w.grownBy w' (some g) := pickN g m 2 w h hm (by omega) (by omega)
theorem txtT_size (C : Int) (ts : List Mk) : (strB (txtT C ts)).size ≤ 36 := by
  rw [strB_size]
  cases hok : termOk C ts with
  | true =>
    obtain ⟨_, _, h15, x, hx⟩ := termOk_yes hok
    rw [txtT_in hok hx]
    have := txt_len x
    rw [hx.2] at this
    omega
  | false => rw [txtT_out hok]; simp

set_option maxRecDepth 100000 in
set_option maxHeartbeats 6400000 in
theorem DrawReadTerm_c (A : Option Addr) (n c : Nat) (bs : List Int) (w : World) (h : Bts w w.heap.size A n c bs) :
    Calls Try.prog 24 #[.slice A n c] w fun e w' => ∃ k1 : Int, ∃ s : ByteArray, e = .returned (.tuple #[.int .i64 k1, .string s]) ∧ 1 ≤ k1 ∧ k1 ≤ 3 ∧ s.size ≤ 200 ∧ Below w.heap.size w w' := by
  have HO := hide (open_c A n c bs w h)
  have HL := hide lit_at
  go_enter Try.func24, Try.ntmps24
  go_wp2_with fail
  refine HO.out.mono ?_
  rintro e w0 ⟨g, rfl, hr0, hg0, hb0⟩
  have hr0 := hide hr0
  have hb0 := hide hb0
  clear HO
  go_wp2_with fail
  refine (pick_c g _ 3 _ hr0.out (by omega) (by omega) (by omega)).mono ?_
  rintro e w1 ⟨x1, rfl, hx1a, hx1b, hr1, hh1⟩
  have hb1 := hide (hb0.out.grown hh1 hb0.out.size (fun k hk => by injection hk with hk; omega))
  have hr1 := hide hr1
  clear hh1 hr0 hb0
  go_wp2_with fail
  refine (l20Term_r g _ (1 + x1) 0 _ hr1.out (by omega) (by omega) (by omega) (by omega) (by omega)).mono ?_
  rintro e wa ⟨Aa, na, ka, ta, rfl, hoa, hna, hra, hga⟩
  have hbA := hide (hb1.out.grown hga hb1.out.size (fun k hk => by injection hk with hk; omega))
  have hra := hide hra
  have hma := hide hoa.marks
  clear hga hr1 hb1 hoa
  go_wp2_with fail
  refine (termText_spec (1 + x1) Aa na ka _ ta wa hma.out (Nat.le_refl _) (by omega)).mono ?_
  rintro e wb ⟨rfl, hq⟩
  have hrb := hide (hra.out.kept (row := none) ⟨hq.os, hq.tape, hq.output, hq.size, fun k hk _ => hq.block k hk⟩ (fun _ e => by cases e))
  have hbB := hide (upB hbA.out hq)
  have hsz := txtT_size (1 + x1) ta
  obtain ⟨S, hS⟩ : ∃ S, Hid (strB (txtT (1 + x1) ta) = S) := ⟨_, hide rfl⟩
  rw [hS.out] at hsz ⊢
  clear hq hra hbA hma
  go_wp2_with fail
  refine (pick_c g _ 3 _ hrb.out (by omega) (by omega) (by omega)).mono ?_
  rintro e w2 ⟨x2, rfl, hx2a, hx2b, hr2, hh2⟩
  have hb2 := hide (hbB.out.grown hh2 hbB.out.size (fun k hk => by injection hk with hk; omega))
  have hr2 := hide hr2
  clear hh2 hrb hbB
  by_cases h0 : x2 = 0
  · subst h0
    by_cases hS0 : 0 < S.size
    · go_wp2_with fail
      refine (pick_c g _ (S.size : Int) _ hr2.out (by omega) (by omega) (by omega)).mono ?_
      rintro e w3 ⟨x3, rfl, hx3a, hx3b, hr3, hh3⟩
      have hb3 := hide (hb2.out.grown hh3 hb2.out.size (fun k hk => by injection hk with hk; omega))
      have hglt := hr3.lt
      clear hh3 hr2 hb2
      obtain ⟨K0, rfl⟩ : ∃ K0 : Nat, x3 = (K0 : Int) := ⟨x3.toNat, by omega⟩
      have hKS : K0 < S.size := by omega
      have hKS2 : (K0 : Int) ≤ (S.size : Int) := by omega
      have HP7 := hide (fun (W : World) (hW : Rd W g 5000) => pick7 g 5000 W hW (by omega))
      have HP2 := hide (fun (W : World) (hW : Rd W g 5001) => pick2 g 5001 W hW (by omega))
      have hr3 := hr3.more (show _ ≤ 5000 by omega)
      go_wp2_with fail
      refine wp_region_any (by kernel_rfl) ?_
      try (change wpAny _ _ _ _ _ _ _ (World.drew _))
      refine wpAny_take (i := 0) (v := ?_) rfl (by kernel_rfl) (by kernel_rfl) (by kernel_rfl) (fun _ _ _ h => h) (Or.inl ⟨by rfl, ?y0⟩) ?_
      case y0 => (intro w; go_simp <;> with_reducible rfl)
      try simp only [Act.put, List.getElem_toArray, List.getElem_cons_zero, List.setIfInBounds_toArray, List.set_cons_zero, List.set_cons_succ]
      refine wpAny_take (i := 1) (v := ?_) rfl (by kernel_rfl) (by kernel_rfl) (by kernel_rfl) (fun _ _ _ h => h) (Or.inl ⟨by rfl, ?y1⟩) ?_
      case y1 => (intro w; go_simp <;> with_reducible rfl)
      try simp only [Act.put, List.getElem_toArray, List.getElem_cons_succ, List.getElem_cons_zero, List.setIfInBounds_toArray, List.set_cons_zero, List.set_cons_succ]
      refine wpAny_take (i := 2) (v := ?_) rfl (by kernel_rfl) (by kernel_rfl) (by kernel_rfl) (fun _ _ _ h => h) (Or.inl ⟨by rfl, ?y2⟩) ?_
      case y2 => (intro w; go_simp <;> with_reducible rfl)
      try simp only [Act.put, List.getElem_toArray, List.getElem_cons_succ, List.getElem_cons_zero, List.setIfInBounds_toArray, List.set_cons_zero, List.set_cons_succ]
      refine wpAny_take (i := 3) (v := ?_) rfl (by kernel_rfl) (by kernel_rfl) (by kernel_rfl) (fun _ _ _ h => h) (Or.inl ⟨by rfl, ?y3⟩) ?_
      case y3 => (intro w; go_simp <;> with_reducible rfl)
      try simp only [Act.put, List.getElem_toArray, List.getElem_cons_succ, List.getElem_cons_zero, List.setIfInBounds_toArray, List.set_cons_zero, List.set_cons_succ]
      refine wpAny_take (i := 5) (v := ?_) rfl (by kernel_rfl) (by kernel_rfl) (by kernel_rfl) (fun _ _ _ h => h) (Or.inl ⟨by rfl, ?y5⟩) ?_
      case y5 => (intro w; go_simp <;> with_reducible rfl)
      try simp only [Act.put, List.getElem_toArray, List.getElem_cons_succ, List.getElem_cons_zero, List.setIfInBounds_toArray, List.set_cons_zero, List.set_cons_succ]
      refine wpAny_take (i := 10) (v := ?_) rfl (by kernel_rfl) (by kernel_rfl) (by kernel_rfl) (fun _ _ _ h => h) (Or.inl ⟨by rfl, ?y10⟩) ?_
      case y10 => (intro w; go_simp <;> with_reducible rfl)
      try simp only [Act.put, List.getElem_toArray, List.getElem_cons_succ, List.getElem_cons_zero, List.setIfInBounds_toArray, List.set_cons_zero, List.set_cons_succ]
      refine wpAny_take (i := 11) (v := ?_) rfl (by kernel_rfl) (by kernel_rfl) (by kernel_rfl) (fun _ _ _ h => h) (Or.inl ⟨by rfl, ?y11⟩) ?_
      case y11 => (intro w; go_simp <;> with_reducible rfl)
      try simp only [Act.put, List.getElem_toArray, List.getElem_cons_succ, List.getElem_cons_zero, List.setIfInBounds_toArray, List.set_cons_zero, List.set_cons_succ]
      refine wpAny_take (i := 12) (v := ?_) rfl (by kernel_rfl) (by kernel_rfl) (by kernel_rfl) (fun _ _ _ h => h) (Or.inl ⟨by rfl, ?y12⟩) ?_
      case y12 => (intro w; go_simp <;> with_reducible rfl)
      try simp only [Act.put, List.getElem_toArray, List.getElem_cons_succ, List.getElem_cons_zero, List.setIfInBounds_toArray, List.set_cons_zero, List.set_cons_succ]
      refine wpAny_ready (rs := [4, 6]) (by kernel_rfl) (by simp) ?_
      refine AllReady.cons rfl (fun K hK => ?_) (AllReady.cons rfl (fun K hK => ?_) AllReady.nil)
      · go_simp
        refine hK _ _ ?_
        clear hK K
        try simp only [Act.put, List.getElem_toArray, List.getElem_cons_succ, List.getElem_cons_zero, List.setIfInBounds_toArray, List.set_cons_zero, List.set_cons_succ]
        refine wpAny_ready (rs := [6]) (by kernel_rfl) (by simp) ?_
        refine AllReady.cons rfl (fun K hK => ?_) AllReady.nil
        go_simp
        go_wp2_with (go_at_call 47; (with_reducible refine (HP7.out _ ?_).mono ?_); (focus (repeat (first | assumption | refine Rd.drew1 ?_ | refine Rd.alloc1 ?_ _)); done); rintro e wp2 ⟨X, rfl, hX, hr2, hg2⟩)
        try simp only [Act.put, List.getElem_toArray, List.getElem_cons_succ, List.getElem_cons_zero, List.setIfInBounds_toArray, List.set_cons_zero, List.set_cons_succ]
        have hb2 := hide (show Below w.heap.size w wp2 from ((below_drewN (below_empty (hb3.out) litS) 1)).grown hg2 ((below_drewN (below_empty (hb3.out) litS) 1)).size (fun k hk => by injection hk with hk; omega))
        obtain ⟨t, hlit, htz⟩ := HL.out X hX
        have hX7 : (X : Int) < 7 := by omega
        have hcc : ¬ (9223372036854775807 < min K0 S.size + t.size) := by omega
        have hc := hg2.cell (a := ⟨w3.heap.size, X, none⟩) (show ((w3.alloc litS).drew).cell? ⟨w3.heap.size, X, none⟩ = some (.string t) from lit_cell (w := w3) hlit) (by intro e; injection e with e; have e2 : w3.heap.size = g := e; omega)
        refine wpAny_take (i := 7) (v := ?_) rfl (by kernel_rfl) (by kernel_rfl) (by kernel_rfl) (fun _ _ _ h => h) (Or.inl ⟨by rfl, ?y7⟩) ?_
        case y7 => (intro w; go_simp <;> with_reducible rfl)
        try simp only [Act.put, List.getElem_toArray, List.getElem_cons_succ, List.getElem_cons_zero, List.setIfInBounds_toArray, List.set_cons_zero, List.set_cons_succ]
        refine wpAny_ready (rs := [8, 13]) (by kernel_rfl) (by simp) ?_
        refine AllReady.cons rfl (fun K hK => ?_) (AllReady.cons rfl (fun K hK => ?_) AllReady.nil)
        · go_simp
          refine hK _ _ ?_
          clear hK K
          try simp only [Act.put, List.getElem_toArray, List.getElem_cons_succ, List.getElem_cons_zero, List.setIfInBounds_toArray, List.set_cons_zero, List.set_cons_succ]
          refine wpAny_take (i := 9) (v := ?_) rfl (by kernel_rfl) (by kernel_rfl) (by kernel_rfl) (fun _ _ _ h => h) (Or.inl ⟨by rfl, ?y9⟩) ?_
          case y9 => (intro w; go_simp <;> with_reducible rfl)
          try simp only [Act.put, List.getElem_toArray, List.getElem_cons_succ, List.getElem_cons_zero, List.setIfInBounds_toArray, List.set_cons_zero, List.set_cons_succ]
          refine wpAny_ready (rs := [13]) (by kernel_rfl) (by simp) ?_
          refine AllReady.cons rfl (fun K hK => ?_) AllReady.nil
          go_simp
          go_wp2_with (go_at_call 47; (with_reducible refine (HP2.out _ ?_).mono ?_); (focus (repeat (first | assumption | refine Rd.drew1 ?_ | refine Rd.alloc1 ?_ _)); done); rintro e wp3 ⟨r, rfl, hrr, hr3, hg3⟩)
          try simp only [Act.put, List.getElem_toArray, List.getElem_cons_succ, List.getElem_cons_zero, List.setIfInBounds_toArray, List.set_cons_zero, List.set_cons_succ]
          have hb3 := hide (show Below w.heap.size w wp3 from (hb2.out).grown hg3 (hb2.out).size (fun k hk => by injection hk with hk; omega))
          have hw2 : IntKind.i64.wrap ((K0 : Int) + (r : Int)) = (K0 : Int) + (r : Int) := IntWalk.i64_in _ (by omega)
          have hY : (K0 : Int) + (r : Int) ≤ (S.size : Int) := by omega
          have hY0 : 0 ≤ (K0 : Int) + (r : Int) := by omega
          have hYt : ((K0 : Int) + (r : Int)).toNat = K0 + r := by omega
          refine wpAny_take (i := 14) (v := ?_) rfl (by kernel_rfl) (by kernel_rfl) (by kernel_rfl) (fun _ _ _ h => h) (Or.inl ⟨by rfl, ?y14⟩) ?_
          case y14 => (intro w; go_simp <;> with_reducible rfl)
          try simp only [Act.put, List.getElem_toArray, List.getElem_cons_succ, List.getElem_cons_zero, List.setIfInBounds_toArray, List.set_cons_zero, List.set_cons_succ]
          refine wpAny_take (i := 15) (v := ?_) rfl (by kernel_rfl) (by kernel_rfl) (by kernel_rfl) (fun _ _ _ h => h) (Or.inl ⟨by rfl, ?y15⟩) ?_
          case y15 => (intro w; go_simp <;> with_reducible rfl)
          try simp only [Act.put, List.getElem_toArray, List.getElem_cons_succ, List.getElem_cons_zero, List.setIfInBounds_toArray, List.set_cons_zero, List.set_cons_succ]
          refine wpAny_take (i := 17) (v := ?_) rfl (by kernel_rfl) (by kernel_rfl) (by kernel_rfl) (fun _ _ _ h => h) (Or.inl ⟨by rfl, ?y17⟩) ?_
          case y17 => (intro w; go_simp <;> with_reducible rfl)
          try simp only [Act.put, List.getElem_toArray, List.getElem_cons_succ, List.getElem_cons_zero, List.setIfInBounds_toArray, List.set_cons_zero, List.set_cons_succ]
          have hcd : ¬ (9223372036854775807 < min K0 S.size + t.size + (S.size - (K0 + r))) := by omega
          refine wpAny_take (i := 16) (v := ?_) rfl (by kernel_rfl) (by kernel_rfl) (by kernel_rfl) (fun _ _ _ h => h) (Or.inl ⟨by rfl, ?y16⟩) ?_
          case y16 => (intro w; go_simp <;> with_reducible rfl)
          try simp only [Act.put, List.getElem_toArray, List.getElem_cons_succ, List.getElem_cons_zero, List.setIfInBounds_toArray, List.set_cons_zero, List.set_cons_succ]
          refine wpAny_take (i := 18) (v := ?_) rfl (by kernel_rfl) (by kernel_rfl) (by kernel_rfl) (fun _ _ _ h => h) (Or.inl ⟨by rfl, ?y18⟩) ?_
          case y18 => (intro w; go_simp <;> with_reducible rfl)
          try simp only [Act.put, List.getElem_toArray, List.getElem_cons_succ, List.getElem_cons_zero, List.setIfInBounds_toArray, List.set_cons_zero, List.set_cons_succ]
          refine wpAny_done (by kernel_rfl) ?_ _
          go_wp2_with fail
          go_ret2
          exact ⟨_, _, rfl, by omega, by omega, by simp only [ByteArray.size_append, ByteArray.size_extract]; omega, hb3.out⟩
        · go_simp
          go_wp2_with (go_at_call 47; (with_reducible refine (HP2.out _ ?_).mono ?_); (focus (repeat (first | assumption | refine Rd.drew1 ?_ | refine Rd.alloc1 ?_ _)); done); rintro e wp3 ⟨r, rfl, hrr, hr3, hg3⟩)
          try simp only [Act.put, List.getElem_toArray, List.getElem_cons_succ, List.getElem_cons_zero, List.setIfInBounds_toArray, List.set_cons_zero, List.set_cons_succ]
          have hb3 := hide (show Below w.heap.size w wp3 from (hb2.out).grown hg3 (hb2.out).size (fun k hk => by injection hk with hk; omega))
          have hw2 : IntKind.i64.wrap ((K0 : Int) + (r : Int)) = (K0 : Int) + (r : Int) := IntWalk.i64_in _ (by omega)
          have hY : (K0 : Int) + (r : Int) ≤ (S.size : Int) := by omega
          have hY0 : 0 ≤ (K0 : Int) + (r : Int) := by omega
          have hYt : ((K0 : Int) + (r : Int)).toNat = K0 + r := by omega
          have hc := hg3.cell (a := ⟨w3.heap.size, X, none⟩) hc (by intro e; injection e with e; have e2 : w3.heap.size = g := e; omega)
          refine wpAny_take (i := 14) (v := ?_) rfl (by kernel_rfl) (by kernel_rfl) (by kernel_rfl) (fun _ _ _ h => h) (Or.inl ⟨by rfl, ?y14⟩) ?_
          case y14 => (intro w; go_simp <;> with_reducible rfl)
          try simp only [Act.put, List.getElem_toArray, List.getElem_cons_succ, List.getElem_cons_zero, List.setIfInBounds_toArray, List.set_cons_zero, List.set_cons_succ]
          refine wpAny_take (i := 15) (v := ?_) rfl (by kernel_rfl) (by kernel_rfl) (by kernel_rfl) (fun _ _ _ h => h) (Or.inl ⟨by rfl, ?y15⟩) ?_
          case y15 => (intro w; go_simp <;> with_reducible rfl)
          try simp only [Act.put, List.getElem_toArray, List.getElem_cons_succ, List.getElem_cons_zero, List.setIfInBounds_toArray, List.set_cons_zero, List.set_cons_succ]
          refine wpAny_take (i := 17) (v := ?_) rfl (by kernel_rfl) (by kernel_rfl) (by kernel_rfl) (fun _ _ _ h => h) (Or.inl ⟨by rfl, ?y17⟩) ?_
          case y17 => (intro w; go_simp <;> with_reducible rfl)
          try simp only [Act.put, List.getElem_toArray, List.getElem_cons_succ, List.getElem_cons_zero, List.setIfInBounds_toArray, List.set_cons_zero, List.set_cons_succ]
          refine wpAny_ready (rs := [8]) (by kernel_rfl) (by simp) ?_
          refine AllReady.cons rfl (fun K hK => ?_) AllReady.nil
          go_simp
          refine hK _ _ ?_
          clear hK K
          try simp only [Act.put, List.getElem_toArray, List.getElem_cons_succ, List.getElem_cons_zero, List.setIfInBounds_toArray, List.set_cons_zero, List.set_cons_succ]
          refine wpAny_take (i := 9) (v := ?_) rfl (by kernel_rfl) (by kernel_rfl) (by kernel_rfl) (fun _ _ _ h => h) (Or.inl ⟨by rfl, ?y9⟩) ?_
          case y9 => (intro w; go_simp <;> with_reducible rfl)
          try simp only [Act.put, List.getElem_toArray, List.getElem_cons_succ, List.getElem_cons_zero, List.setIfInBounds_toArray, List.set_cons_zero, List.set_cons_succ]
          have hcd : ¬ (9223372036854775807 < min K0 S.size + t.size + (S.size - (K0 + r))) := by omega
          refine wpAny_take (i := 16) (v := ?_) rfl (by kernel_rfl) (by kernel_rfl) (by kernel_rfl) (fun _ _ _ h => h) (Or.inl ⟨by rfl, ?y16⟩) ?_
          case y16 => (intro w; go_simp <;> with_reducible rfl)
          try simp only [Act.put, List.getElem_toArray, List.getElem_cons_succ, List.getElem_cons_zero, List.setIfInBounds_toArray, List.set_cons_zero, List.set_cons_succ]
          refine wpAny_take (i := 18) (v := ?_) rfl (by kernel_rfl) (by kernel_rfl) (by kernel_rfl) (fun _ _ _ h => h) (Or.inl ⟨by rfl, ?y18⟩) ?_
          case y18 => (intro w; go_simp <;> with_reducible rfl)
          try simp only [Act.put, List.getElem_toArray, List.getElem_cons_succ, List.getElem_cons_zero, List.setIfInBounds_toArray, List.set_cons_zero, List.set_cons_succ]
          refine wpAny_done (by kernel_rfl) ?_ _
          go_wp2_with fail
          go_ret2
          exact ⟨_, _, rfl, by omega, by omega, by simp only [ByteArray.size_append, ByteArray.size_extract]; omega, hb3.out⟩
      · go_simp
        go_wp2_with (go_at_call 47; (with_reducible refine (HP7.out _ ?_).mono ?_); (focus (repeat (first | assumption | refine Rd.drew1 ?_ | refine Rd.alloc1 ?_ _)); done); rintro e wp1 ⟨X, rfl, hX, hr1, hg1⟩)
        try simp only [Act.put, List.getElem_toArray, List.getElem_cons_succ, List.getElem_cons_zero, List.setIfInBounds_toArray, List.set_cons_zero, List.set_cons_succ]
        have hb1 := hide (show Below w.heap.size w wp1 from ((below_drewN hb3.out 1)).grown hg1 ((below_drewN hb3.out 1)).size (fun k hk => by injection hk with hk; omega))
        obtain ⟨t, hlit, htz⟩ := HL.out X hX
        have hX7 : (X : Int) < 7 := by omega
        have hcc : ¬ (9223372036854775807 < min K0 S.size + t.size) := by omega
        refine wpAny_ready (rs := [4, 13]) (by kernel_rfl) (by simp) ?_
        refine AllReady.cons rfl (fun K hK => ?_) (AllReady.cons rfl (fun K hK => ?_) AllReady.nil)
        · go_simp
          refine hK _ _ ?_
          clear hK K
          try simp only [Act.put, List.getElem_toArray, List.getElem_cons_succ, List.getElem_cons_zero, List.setIfInBounds_toArray, List.set_cons_zero, List.set_cons_succ]
          have hc := lit_cell (w := wp1) hlit
          refine wpAny_take (i := 7) (v := ?_) rfl (by kernel_rfl) (by kernel_rfl) (by kernel_rfl) (fun _ _ _ h => h) (Or.inl ⟨by rfl, ?y7⟩) ?_
          case y7 => (intro w; go_simp <;> with_reducible rfl)
          try simp only [Act.put, List.getElem_toArray, List.getElem_cons_succ, List.getElem_cons_zero, List.setIfInBounds_toArray, List.set_cons_zero, List.set_cons_succ]
          refine wpAny_ready (rs := [8, 13]) (by kernel_rfl) (by simp) ?_
          refine AllReady.cons rfl (fun K hK => ?_) (AllReady.cons rfl (fun K hK => ?_) AllReady.nil)
          · go_simp
            refine hK _ _ ?_
            clear hK K
            try simp only [Act.put, List.getElem_toArray, List.getElem_cons_succ, List.getElem_cons_zero, List.setIfInBounds_toArray, List.set_cons_zero, List.set_cons_succ]
            refine wpAny_take (i := 9) (v := ?_) rfl (by kernel_rfl) (by kernel_rfl) (by kernel_rfl) (fun _ _ _ h => h) (Or.inl ⟨by rfl, ?y9⟩) ?_
            case y9 => (intro w; go_simp <;> with_reducible rfl)
            try simp only [Act.put, List.getElem_toArray, List.getElem_cons_succ, List.getElem_cons_zero, List.setIfInBounds_toArray, List.set_cons_zero, List.set_cons_succ]
            refine wpAny_ready (rs := [13]) (by kernel_rfl) (by simp) ?_
            refine AllReady.cons rfl (fun K hK => ?_) AllReady.nil
            go_simp
            go_wp2_with (go_at_call 47; (with_reducible refine (HP2.out _ ?_).mono ?_); (focus (repeat (first | assumption | refine Rd.drew1 ?_ | refine Rd.alloc1 ?_ _)); done); rintro e wp3 ⟨r, rfl, hrr, hr3, hg3⟩)
            try simp only [Act.put, List.getElem_toArray, List.getElem_cons_succ, List.getElem_cons_zero, List.setIfInBounds_toArray, List.set_cons_zero, List.set_cons_succ]
            have hb3 := hide (show Below w.heap.size w wp3 from ((below_empty (hb1.out) litS)).grown hg3 ((below_empty (hb1.out) litS)).size (fun k hk => by injection hk with hk; omega))
            have hw2 : IntKind.i64.wrap ((K0 : Int) + (r : Int)) = (K0 : Int) + (r : Int) := IntWalk.i64_in _ (by omega)
            have hY : (K0 : Int) + (r : Int) ≤ (S.size : Int) := by omega
            have hY0 : 0 ≤ (K0 : Int) + (r : Int) := by omega
            have hYt : ((K0 : Int) + (r : Int)).toNat = K0 + r := by omega
            refine wpAny_take (i := 14) (v := ?_) rfl (by kernel_rfl) (by kernel_rfl) (by kernel_rfl) (fun _ _ _ h => h) (Or.inl ⟨by rfl, ?y14⟩) ?_
            case y14 => (intro w; go_simp <;> with_reducible rfl)
            try simp only [Act.put, List.getElem_toArray, List.getElem_cons_succ, List.getElem_cons_zero, List.setIfInBounds_toArray, List.set_cons_zero, List.set_cons_succ]
            refine wpAny_take (i := 15) (v := ?_) rfl (by kernel_rfl) (by kernel_rfl) (by kernel_rfl) (fun _ _ _ h => h) (Or.inl ⟨by rfl, ?y15⟩) ?_
            case y15 => (intro w; go_simp <;> with_reducible rfl)
            try simp only [Act.put, List.getElem_toArray, List.getElem_cons_succ, List.getElem_cons_zero, List.setIfInBounds_toArray, List.set_cons_zero, List.set_cons_succ]
            refine wpAny_take (i := 17) (v := ?_) rfl (by kernel_rfl) (by kernel_rfl) (by kernel_rfl) (fun _ _ _ h => h) (Or.inl ⟨by rfl, ?y17⟩) ?_
            case y17 => (intro w; go_simp <;> with_reducible rfl)
            try simp only [Act.put, List.getElem_toArray, List.getElem_cons_succ, List.getElem_cons_zero, List.setIfInBounds_toArray, List.set_cons_zero, List.set_cons_succ]
            have hcd : ¬ (9223372036854775807 < min K0 S.size + t.size + (S.size - (K0 + r))) := by omega
            refine wpAny_take (i := 16) (v := ?_) rfl (by kernel_rfl) (by kernel_rfl) (by kernel_rfl) (fun _ _ _ h => h) (Or.inl ⟨by rfl, ?y16⟩) ?_
            case y16 => (intro w; go_simp <;> with_reducible rfl)
            try simp only [Act.put, List.getElem_toArray, List.getElem_cons_succ, List.getElem_cons_zero, List.setIfInBounds_toArray, List.set_cons_zero, List.set_cons_succ]
            refine wpAny_take (i := 18) (v := ?_) rfl (by kernel_rfl) (by kernel_rfl) (by kernel_rfl) (fun _ _ _ h => h) (Or.inl ⟨by rfl, ?y18⟩) ?_
            case y18 => (intro w; go_simp <;> with_reducible rfl)
            try simp only [Act.put, List.getElem_toArray, List.getElem_cons_succ, List.getElem_cons_zero, List.setIfInBounds_toArray, List.set_cons_zero, List.set_cons_succ]
            refine wpAny_done (by kernel_rfl) ?_ _
            go_wp2_with fail
            go_ret2
            exact ⟨_, _, rfl, by omega, by omega, by simp only [ByteArray.size_append, ByteArray.size_extract]; omega, hb3.out⟩
          · go_simp
            go_wp2_with (go_at_call 47; (with_reducible refine (HP2.out _ ?_).mono ?_); (focus (repeat (first | assumption | refine Rd.drew1 ?_ | refine Rd.alloc1 ?_ _)); done); rintro e wp3 ⟨r, rfl, hrr, hr3, hg3⟩)
            try simp only [Act.put, List.getElem_toArray, List.getElem_cons_succ, List.getElem_cons_zero, List.setIfInBounds_toArray, List.set_cons_zero, List.set_cons_succ]
            have hb3 := hide (show Below w.heap.size w wp3 from ((below_empty (hb1.out) litS)).grown hg3 ((below_empty (hb1.out) litS)).size (fun k hk => by injection hk with hk; omega))
            have hw2 : IntKind.i64.wrap ((K0 : Int) + (r : Int)) = (K0 : Int) + (r : Int) := IntWalk.i64_in _ (by omega)
            have hY : (K0 : Int) + (r : Int) ≤ (S.size : Int) := by omega
            have hY0 : 0 ≤ (K0 : Int) + (r : Int) := by omega
            have hYt : ((K0 : Int) + (r : Int)).toNat = K0 + r := by omega
            have hc := hg3.cell (a := ⟨wp1.heap.size, X, none⟩) hc (by intro e; injection e with e; have e2 : wp1.heap.size = g := e; have := hr1.lt; omega)
            refine wpAny_take (i := 14) (v := ?_) rfl (by kernel_rfl) (by kernel_rfl) (by kernel_rfl) (fun _ _ _ h => h) (Or.inl ⟨by rfl, ?y14⟩) ?_
            case y14 => (intro w; go_simp <;> with_reducible rfl)
            try simp only [Act.put, List.getElem_toArray, List.getElem_cons_succ, List.getElem_cons_zero, List.setIfInBounds_toArray, List.set_cons_zero, List.set_cons_succ]
            refine wpAny_take (i := 15) (v := ?_) rfl (by kernel_rfl) (by kernel_rfl) (by kernel_rfl) (fun _ _ _ h => h) (Or.inl ⟨by rfl, ?y15⟩) ?_
            case y15 => (intro w; go_simp <;> with_reducible rfl)
            try simp only [Act.put, List.getElem_toArray, List.getElem_cons_succ, List.getElem_cons_zero, List.setIfInBounds_toArray, List.set_cons_zero, List.set_cons_succ]
            refine wpAny_take (i := 17) (v := ?_) rfl (by kernel_rfl) (by kernel_rfl) (by kernel_rfl) (fun _ _ _ h => h) (Or.inl ⟨by rfl, ?y17⟩) ?_
            case y17 => (intro w; go_simp <;> with_reducible rfl)
            try simp only [Act.put, List.getElem_toArray, List.getElem_cons_succ, List.getElem_cons_zero, List.setIfInBounds_toArray, List.set_cons_zero, List.set_cons_succ]
            refine wpAny_ready (rs := [8]) (by kernel_rfl) (by simp) ?_
            refine AllReady.cons rfl (fun K hK => ?_) AllReady.nil
            go_simp
            refine hK _ _ ?_
            clear hK K
            try simp only [Act.put, List.getElem_toArray, List.getElem_cons_succ, List.getElem_cons_zero, List.setIfInBounds_toArray, List.set_cons_zero, List.set_cons_succ]
            refine wpAny_take (i := 9) (v := ?_) rfl (by kernel_rfl) (by kernel_rfl) (by kernel_rfl) (fun _ _ _ h => h) (Or.inl ⟨by rfl, ?y9⟩) ?_
            case y9 => (intro w; go_simp <;> with_reducible rfl)
            try simp only [Act.put, List.getElem_toArray, List.getElem_cons_succ, List.getElem_cons_zero, List.setIfInBounds_toArray, List.set_cons_zero, List.set_cons_succ]
            have hcd : ¬ (9223372036854775807 < min K0 S.size + t.size + (S.size - (K0 + r))) := by omega
            refine wpAny_take (i := 16) (v := ?_) rfl (by kernel_rfl) (by kernel_rfl) (by kernel_rfl) (fun _ _ _ h => h) (Or.inl ⟨by rfl, ?y16⟩) ?_
            case y16 => (intro w; go_simp <;> with_reducible rfl)
            try simp only [Act.put, List.getElem_toArray, List.getElem_cons_succ, List.getElem_cons_zero, List.setIfInBounds_toArray, List.set_cons_zero, List.set_cons_succ]
            refine wpAny_take (i := 18) (v := ?_) rfl (by kernel_rfl) (by kernel_rfl) (by kernel_rfl) (fun _ _ _ h => h) (Or.inl ⟨by rfl, ?y18⟩) ?_
            case y18 => (intro w; go_simp <;> with_reducible rfl)
            try simp only [Act.put, List.getElem_toArray, List.getElem_cons_succ, List.getElem_cons_zero, List.setIfInBounds_toArray, List.set_cons_zero, List.set_cons_succ]
            refine wpAny_done (by kernel_rfl) ?_ _
            go_wp2_with fail
            go_ret2
            exact ⟨_, _, rfl, by omega, by omega, by simp only [ByteArray.size_append, ByteArray.size_extract]; omega, hb3.out⟩
        · go_simp
          go_wp2_with (go_at_call 47; (with_reducible refine (HP2.out _ ?_).mono ?_); (focus (repeat (first | assumption | refine Rd.drew1 ?_ | refine Rd.alloc1 ?_ _)); done); rintro e wp2 ⟨r, rfl, hrr, hr2, hg2⟩)
          try simp only [Act.put, List.getElem_toArray, List.getElem_cons_succ, List.getElem_cons_zero, List.setIfInBounds_toArray, List.set_cons_zero, List.set_cons_succ]
          have hb2 := hide (show Below w.heap.size w wp2 from (hb1.out).grown hg2 (hb1.out).size (fun k hk => by injection hk with hk; omega))
          have hw2 : IntKind.i64.wrap ((K0 : Int) + (r : Int)) = (K0 : Int) + (r : Int) := IntWalk.i64_in _ (by omega)
          have hY : (K0 : Int) + (r : Int) ≤ (S.size : Int) := by omega
          have hY0 : 0 ≤ (K0 : Int) + (r : Int) := by omega
          have hYt : ((K0 : Int) + (r : Int)).toNat = K0 + r := by omega
          refine wpAny_take (i := 14) (v := ?_) rfl (by kernel_rfl) (by kernel_rfl) (by kernel_rfl) (fun _ _ _ h => h) (Or.inl ⟨by rfl, ?y14⟩) ?_
          case y14 => (intro w; go_simp <;> with_reducible rfl)
          try simp only [Act.put, List.getElem_toArray, List.getElem_cons_succ, List.getElem_cons_zero, List.setIfInBounds_toArray, List.set_cons_zero, List.set_cons_succ]
          refine wpAny_take (i := 15) (v := ?_) rfl (by kernel_rfl) (by kernel_rfl) (by kernel_rfl) (fun _ _ _ h => h) (Or.inl ⟨by rfl, ?y15⟩) ?_
          case y15 => (intro w; go_simp <;> with_reducible rfl)
          try simp only [Act.put, List.getElem_toArray, List.getElem_cons_succ, List.getElem_cons_zero, List.setIfInBounds_toArray, List.set_cons_zero, List.set_cons_succ]
          refine wpAny_take (i := 17) (v := ?_) rfl (by kernel_rfl) (by kernel_rfl) (by kernel_rfl) (fun _ _ _ h => h) (Or.inl ⟨by rfl, ?y17⟩) ?_
          case y17 => (intro w; go_simp <;> with_reducible rfl)
          try simp only [Act.put, List.getElem_toArray, List.getElem_cons_succ, List.getElem_cons_zero, List.setIfInBounds_toArray, List.set_cons_zero, List.set_cons_succ]
          refine wpAny_ready (rs := [4]) (by kernel_rfl) (by simp) ?_
          refine AllReady.cons rfl (fun K hK => ?_) AllReady.nil
          go_simp
          refine hK _ _ ?_
          clear hK K
          try simp only [Act.put, List.getElem_toArray, List.getElem_cons_succ, List.getElem_cons_zero, List.setIfInBounds_toArray, List.set_cons_zero, List.set_cons_succ]
          have hc := lit_cell (w := wp2) hlit
          refine wpAny_take (i := 7) (v := ?_) rfl (by kernel_rfl) (by kernel_rfl) (by kernel_rfl) (fun _ _ _ h => h) (Or.inl ⟨by rfl, ?y7⟩) ?_
          case y7 => (intro w; go_simp <;> with_reducible rfl)
          try simp only [Act.put, List.getElem_toArray, List.getElem_cons_succ, List.getElem_cons_zero, List.setIfInBounds_toArray, List.set_cons_zero, List.set_cons_succ]
          refine wpAny_ready (rs := [8]) (by kernel_rfl) (by simp) ?_
          refine AllReady.cons rfl (fun K hK => ?_) AllReady.nil
          go_simp
          refine hK _ _ ?_
          clear hK K
          try simp only [Act.put, List.getElem_toArray, List.getElem_cons_succ, List.getElem_cons_zero, List.setIfInBounds_toArray, List.set_cons_zero, List.set_cons_succ]
          refine wpAny_take (i := 9) (v := ?_) rfl (by kernel_rfl) (by kernel_rfl) (by kernel_rfl) (fun _ _ _ h => h) (Or.inl ⟨by rfl, ?y9⟩) ?_
          case y9 => (intro w; go_simp <;> with_reducible rfl)
          try simp only [Act.put, List.getElem_toArray, List.getElem_cons_succ, List.getElem_cons_zero, List.setIfInBounds_toArray, List.set_cons_zero, List.set_cons_succ]
          have hcd : ¬ (9223372036854775807 < min K0 S.size + t.size + (S.size - (K0 + r))) := by omega
          refine wpAny_take (i := 16) (v := ?_) rfl (by kernel_rfl) (by kernel_rfl) (by kernel_rfl) (fun _ _ _ h => h) (Or.inl ⟨by rfl, ?y16⟩) ?_
          case y16 => (intro w; go_simp <;> with_reducible rfl)
          try simp only [Act.put, List.getElem_toArray, List.getElem_cons_succ, List.getElem_cons_zero, List.setIfInBounds_toArray, List.set_cons_zero, List.set_cons_succ]
          refine wpAny_take (i := 18) (v := ?_) rfl (by kernel_rfl) (by kernel_rfl) (by kernel_rfl) (fun _ _ _ h => h) (Or.inl ⟨by rfl, ?y18⟩) ?_
          case y18 => (intro w; go_simp <;> with_reducible rfl)
          try simp only [Act.put, List.getElem_toArray, List.getElem_cons_succ, List.getElem_cons_zero, List.setIfInBounds_toArray, List.set_cons_zero, List.set_cons_succ]
          refine wpAny_done (by kernel_rfl) ?_ _
          go_wp2_with fail
          go_ret2
          exact ⟨_, _, rfl, by omega, by omega, by simp only [ByteArray.size_append, ByteArray.size_extract]; omega, (below_empty (hb2.out) litS)⟩
    · go_wp2_with fail
      go_ret2
      exact ⟨_, _, rfl, by omega, by omega, by omega, hb2.out⟩
  · have h0b : (x2 == 0) = false := by simpa using h0
    go_wp2_with fail
    go_ret2
    exact ⟨_, _, rfl, by omega, by omega, by omega, hb2.out⟩
end Go.Proofs.Ytffllkmaifjpfaa
