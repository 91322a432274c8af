/-
  Draws of chapter 9: parts and terms (written by wip/gen_y3.py).
-/
import Derived.Test.YtffllkmaifjpfaaZdraw
import Derived.Test.YtffllkmaifjpfaaZmark
import Derived.Test.YtffllkmaifjpfaaZterm
namespace Go.Proofs.Ytffllkmaifjpfaa
open Go.RowKit
set_option linter.unusedVariables false

theorem OwnK.past {w w' : World} {base g : Nat} {v : Value} {zs : List Mk} (h : OwnK w base v zs) (hg : w.grownBy w' (some g)) (hlt : g < base) : OwnK w' base v zs :=
  h.kept hg (by
    cases hv : v.ownBlock with
    | none => exact .inl rfl
    | some k => exact .inr (fun e => by injection e with e; have := (h.row.lt k hv).1; omega))
/-- A part is drawn. -/
def PartQ (g : Nat) (cl : Int) (M : Nat) (D : Int) (b c : Nat) : Prop := ∀ (m : Nat) (w : World), Rd w g m → m + b ≤ 60000 →
  Calls Try.prog 78 #[.pointer (some ⟨g, 0, none⟩), .int .i64 cl, .int .i64 (M : Int), .int .i64 D] w fun e w' => ∃ A n k ts, e = .returned (.slice A n k) ∧ OwnK w' w.heap.size (.slice A n k) ts ∧ n ≤ c ∧ Rd w' g (m + b) ∧ w.grownBy w' (some g)
theorem PartQ.mono {g : Nat} {cl : Int} {M : Nat} {D : Int} {b c b' c' : Nat} (h : PartQ g cl M D b c) (hb : b ≤ b') (hc : c ≤ c') : PartQ g cl M D b' c' := fun m w hr hm =>
  (h m w hr (by omega)).mono fun e w' ⟨A, n, k, ts, h1, h2, h3, h4, h5⟩ => ⟨A, n, k, ts, h1, h2, by omega, h4.more (by omega), h5⟩

set_option maxRecDepth 100000 in
set_option maxHeartbeats 3200000 in
theorem part_step (g : Nat) (cl : Int) (hcl0 : -1000 ≤ cl) (hcl : cl ≤ 1000) (M : Nat) (D : Int) (b1 c1 : Nat) (hM1 : 1 ≤ M) (hM3 : M ≤ 3) (hD : D = 0 ∨ D = 1) (hb1 : b1 ≤ 20000) (hc1 : c1 ≤ 1000)
    (IH1 : ∀ L, 1 ≤ L → L < M → PartQ g cl L D b1 c1) (IH2 : D = 1 → PartQ g cl M 0 b1 c1) (IH3 : ∀ L, 1 ≤ L → L < M → PartQ g cl L 0 b1 c1) : PartQ g cl M D (4 + 2 * b1) (1 + 2 * c1) := by
  intro m w hr hm
  obtain ⟨i1, hi, hz0, hz1, hz2⟩ := infoMark_parts
  have hw0 := wf_i64 (z := 0) (by omega)
  have hw1 := wf_i64 (z := 1) (by omega)
  have hw2 := wf_i64 (z := 2) (by omega)
  have hw3 := wf_i64 (z := 3) (by omega)
  have IH1 := hide IH1
  have IH2 := hide IH2
  have IH3 := hide IH3
  have hglt := hr.lt
  have hr0 := hide hr
  have hg0 := hide (World.grownBy.refl w (some g))
  clear hr
  by_cases hMM : M ≤ 1
  · go_enter Try.func78, Try.ntmps78
    rcases hD with rfl | rfl
    · skip
      have hMb : ((M : Int) == 1) = true := by simp; omega
      go_wp2_with fail
      refine (pick_c g _ 4 _ hr0.out (by omega) (by omega) (by omega)).mono ?_
      rintro e wl ⟨xl, rfl, hxla, hxlb, hrl, hhl⟩
      have hgl := hide (grown_new hg0.out hhl (fun j hj => .inr rfl))
      have hrl := hide hrl
      clear hhl hr0 hg0
      by_cases hl0 : xl = 0
      · subst hl0
        go_wp2_with fail
        go_ret
        exact ⟨_, _, _, _, rfl, (ownK_lit1 hw1 hw0).down hgl.out.size, by omega, (hrl.out.kept (World.grownBy_alloc _ _ none) (fun _ e => by cases e)).more (by omega), grown_alloc hgl.out _⟩
      · have hlb : (xl == 0) = false := by simpa using hl0
        by_cases hc1 : cl < 1
        · go_wp2_with fail
          refine (pick_c g _ 1 _ hrl.out (by omega) (by omega) (by omega)).mono ?_
          rintro e wm ⟨xm, rfl, hxma, hxmb, hrm, hhm⟩
          have hgm := hide (grown_new hgl.out hhm (fun j hj => .inr rfl))
          have hrm := hide hrm
          clear hhm hrl hgl
          have hwm := wf_i64 (z := xm) (by omega)
          go_wp2_with fail
          go_ret
          exact ⟨_, _, _, _, rfl, (ownK_lit1 hw0 hwm).down hgm.out.size, by omega, (hrm.out.kept (World.grownBy_alloc _ _ none) (fun _ e => by cases e)).more (by omega), grown_alloc hgm.out _⟩
        · go_wp2_with fail
          refine (pick_c g _ cl _ hrl.out (by omega) (by omega) (by omega)).mono ?_
          rintro e wm ⟨xm, rfl, hxma, hxmb, hrm, hhm⟩
          have hgm := hide (grown_new hgl.out hhm (fun j hj => .inr rfl))
          have hrm := hide hrm
          clear hhm hrl hgl
          have hwm := wf_i64 (z := xm) (by omega)
          go_wp2_with fail
          go_ret
          exact ⟨_, _, _, _, rfl, (ownK_lit1 hw0 hwm).down hgm.out.size, by omega, (hrm.out.kept (World.grownBy_alloc _ _ none) (fun _ e => by cases e)).more (by omega), grown_alloc hgm.out _⟩
    · have IHa := hide (IH2.out rfl)
      go_wp2_with fail
      refine (pick_c g _ 3 _ hr0.out (by omega) (by omega) (by omega)).mono ?_
      rintro e wu ⟨xu, rfl, hxua, hxub, hru, hhu⟩
      have hgu := hide (grown_new hg0.out hhu (fun j hj => .inr rfl))
      have hru := hide hru
      clear hhu hr0 hg0
      by_cases hu0 : xu = 0
      · subst hu0
        go_wp2_with fail
        refine (IHa.out _ _ hru.out (by omega)).mono ?_
        rintro e wa ⟨Aa, na, ka, ta, rfl, hoa, hna, hra, hga⟩
        have hgA := hide (grown_new hgu.out hga (fun j hj => .inr rfl))
        have hra := hide hra
        have hoa := hide (hoa.down hgu.out.size)
        clear hga hru hgu
        go_wp2_with fail
        refine (IHa.out _ _ hra.out (by omega)).mono ?_
        rintro e wb ⟨Ab, nb, kb, tb, rfl, hob, hnb, hrb, hgb⟩
        have hgB := hide (grown_new hgA.out hgb (fun j hj => .inr rfl))
        have hrb := hide hrb
        have hoa := hide (hoa.out.past hgb hglt)
        have hob := hide (hob.down hgA.out.size)
        have hsb := hgB.out.size
        have hla := hide hoa.out.len
        have hlb := hide hob.out.len
        clear hgb hra hgA
        go_wp2_with (first
          | (at_builtin; refine wpList_appK _ rfl _ _ 23 rfl i1 Try.underlying23 hi hz0 hz1 hz2 _ ta rfl hoa.out _ nb kb _ tb rfl hob.out.marks hsb (by have := hla.out; omega) ?_; intro A₃ n₃ c₃ w3 ho3 hg3; have hg3' := hide (grown_new hgB.out hg3 (fun j hj => .inl (hoa.out.row.lt j hj).1)); have hr3 := hide (hrb.out.kept hg3 (fun j hj => Nat.lt_of_lt_of_le hglt (hoa.out.row.lt j hj).1)); replace ho3 := hide ho3; have hs3 := hg3'.out.size; clear hg3)
          | (at_builtin; refine wpList_appK _ rfl _ _ 23 rfl i1 Try.underlying23 hi hz0 hz1 hz2 _ _ rfl (ho3.out.alloc _) _ 1 1 _ [(3, 0)] rfl (marks_lit1 hw3 hw0) (by simp; omega) (by have := hla.out; have := hlb.out; simp; omega) ?_; intro A₄ n₄ c₄ w4 ho4 hg4; have hg4' := hide (grown_new (grown_alloc hg3'.out (.cells #[.int .i64 3, .int .i64 0] 29)) hg4 (fun j hj => .inl (ho3.out.row.lt j hj).1)); have hr4 := hide ((hr3.out.kept (World.grownBy_alloc _ (.cells #[.int .i64 3, .int .i64 0] 29) none) (fun _ e => by cases e)).kept hg4 (fun j hj => Nat.lt_of_lt_of_le hglt (ho3.out.row.lt j hj).1)); replace ho4 := hide ho4; clear hg4))
        go_ret
        exact ⟨_, _, _, _, rfl, ho4.out, by have := ho4.out.len; have := hla.out; have := hlb.out; simp only [List.length_append, List.length_cons, List.length_nil] at *; omega, hr4.out.more (by omega), hg4'.out⟩
      · have hub : (xu == 0) = false := by simpa using hu0
        have hMb : ((M : Int) == 1) = true := by simp; omega
        go_wp2_with fail
        refine (pick_c g _ 4 _ hru.out (by omega) (by omega) (by omega)).mono ?_
        rintro e wl ⟨xl, rfl, hxla, hxlb, hrl, hhl⟩
        have hgl := hide (grown_new hgu.out hhl (fun j hj => .inr rfl))
        have hrl := hide hrl
        clear hhl hru hgu
        by_cases hl0 : xl = 0
        · subst hl0
          go_wp2_with fail
          go_ret
          exact ⟨_, _, _, _, rfl, (ownK_lit1 hw1 hw0).down hgl.out.size, by omega, (hrl.out.kept (World.grownBy_alloc _ _ none) (fun _ e => by cases e)).more (by omega), grown_alloc hgl.out _⟩
        · have hlb : (xl == 0) = false := by simpa using hl0
          by_cases hc1 : cl < 1
          · go_wp2_with fail
            refine (pick_c g _ 1 _ hrl.out (by omega) (by omega) (by omega)).mono ?_
            rintro e wm ⟨xm, rfl, hxma, hxmb, hrm, hhm⟩
            have hgm := hide (grown_new hgl.out hhm (fun j hj => .inr rfl))
            have hrm := hide hrm
            clear hhm hrl hgl
            have hwm := wf_i64 (z := xm) (by omega)
            go_wp2_with fail
            go_ret
            exact ⟨_, _, _, _, rfl, (ownK_lit1 hw0 hwm).down hgm.out.size, by omega, (hrm.out.kept (World.grownBy_alloc _ _ none) (fun _ e => by cases e)).more (by omega), grown_alloc hgm.out _⟩
          · go_wp2_with fail
            refine (pick_c g _ cl _ hrl.out (by omega) (by omega) (by omega)).mono ?_
            rintro e wm ⟨xm, rfl, hxma, hxmb, hrm, hhm⟩
            have hgm := hide (grown_new hgl.out hhm (fun j hj => .inr rfl))
            have hrm := hide hrm
            clear hhm hrl hgl
            have hwm := wf_i64 (z := xm) (by omega)
            go_wp2_with fail
            go_ret
            exact ⟨_, _, _, _, rfl, (ownK_lit1 hw0 hwm).down hgm.out.size, by omega, (hrm.out.kept (World.grownBy_alloc _ _ none) (fun _ e => by cases e)).more (by omega), grown_alloc hgm.out _⟩
  · have hM2 : 1 < (M : Int) := by omega
    go_enter Try.func78, Try.ntmps78
    go_wp2_with fail
    refine (pick_c g _ 3 _ hr0.out (by omega) (by omega) (by omega)).mono ?_
    rintro e w1 ⟨x1, rfl, hx1a, hx1b, hr1, hh1⟩
    have hg1 := hide (grown_new hg0.out hh1 (fun j hj => .inr rfl))
    have hr1 := hide hr1
    clear hh1 hr0 hg0
    by_cases h1 : 0 < x1
    · go_wp2_with fail
      refine (pick_c g _ ((M : Int) - 1) _ hr1.out (by omega) (by omega) (by omega)).mono ?_
      rintro e wt ⟨xt, rfl, hxta, hxtb, hrt, hht⟩
      have hgt := hide (grown_new hg1.out hht (fun j hj => .inr rfl))
      have hrt := hide hrt
      clear hht hr1 hg1
      obtain ⟨L, hL⟩ : ∃ L : Nat, 1 + xt = (L : Int) := ⟨(1 + xt).toNat, by omega⟩
      have hL1 : 1 ≤ L := by omega
      have hLl : L < M := by omega
      obtain ⟨Q, hQ⟩ : ∃ Q : Nat, (M : Int) - (L : Int) = (Q : Int) := ⟨M - L, by omega⟩
      have hQ1 : 1 ≤ Q := by omega
      have hQl : Q < M := by omega
      have IHa := hide (IH1.out L hL1 hLl)
      have IHb := hide (IH1.out Q hQ1 hQl)
      go_wp2_with fail
      refine (IHa.out _ _ hrt.out (by omega)).mono ?_
      rintro e wa ⟨Aa, na, ka, ta, rfl, hoa, hna, hra, hga⟩
      have hgA := hide (grown_new hgt.out hga (fun j hj => .inr rfl))
      have hra := hide hra
      have hoa := hide (hoa.down hgt.out.size)
      clear hga hrt hgt
      go_wp2_with fail
      refine (IHb.out _ _ hra.out (by omega)).mono ?_
      rintro e wb ⟨Ab, nb, kb, tb, rfl, hob, hnb, hrb, hgb⟩
      have hgB := hide (grown_new hgA.out hgb (fun j hj => .inr rfl))
      have hrb := hide hrb
      have hoa := hide (hoa.out.past hgb hglt)
      have hob := hide (hob.down hgA.out.size)
      have hsb := hgB.out.size
      have hla := hide hoa.out.len
      have hlb := hide hob.out.len
      clear hgb hra hgA
      go_wp2_with (first
        | (at_builtin; refine wpList_appK _ rfl _ _ 23 rfl i1 Try.underlying23 hi hz0 hz1 hz2 _ ta rfl hoa.out _ nb kb _ tb rfl hob.out.marks hsb (by have := hla.out; omega) ?_; intro A₃ n₃ c₃ w3 ho3 hg3; have hg3' := hide (grown_new hgB.out hg3 (fun j hj => .inl (hoa.out.row.lt j hj).1)); have hr3 := hide (hrb.out.kept hg3 (fun j hj => Nat.lt_of_lt_of_le hglt (hoa.out.row.lt j hj).1)); replace ho3 := hide ho3; have hs3 := hg3'.out.size; clear hg3)
        | (at_builtin; refine wpList_appK _ rfl _ _ 23 rfl i1 Try.underlying23 hi hz0 hz1 hz2 _ _ rfl (ho3.out.alloc _) _ 1 1 _ [(2, 0)] rfl (marks_lit1 hw2 hw0) (by simp; omega) (by have := hla.out; have := hlb.out; simp; omega) ?_; intro A₄ n₄ c₄ w4 ho4 hg4; have hg4' := hide (grown_new (grown_alloc hg3'.out (.cells #[.int .i64 2, .int .i64 0] 29)) hg4 (fun j hj => .inl (ho3.out.row.lt j hj).1)); have hr4 := hide ((hr3.out.kept (World.grownBy_alloc _ (.cells #[.int .i64 2, .int .i64 0] 29) none) (fun _ e => by cases e)).kept hg4 (fun j hj => Nat.lt_of_lt_of_le hglt (ho3.out.row.lt j hj).1)); replace ho4 := hide ho4; clear hg4))
      go_ret
      exact ⟨_, _, _, _, rfl, ho4.out, by have := ho4.out.len; have := hla.out; have := hlb.out; simp only [List.length_append, List.length_cons, List.length_nil] at *; omega, hr4.out.more (by omega), hg4'.out⟩
    · have h1z : x1 = 0 := by omega
      subst h1z
      rcases hD with rfl | rfl
      · skip
        have hMb : ((M : Int) == 1) = false := by simp; omega
        go_wp2_with fail
        refine (pick_c g _ ((M : Int) - 1) _ hr1.out (by omega) (by omega) (by omega)).mono ?_
        rintro e wt ⟨xt, rfl, hxta, hxtb, hrt, hht⟩
        have hgt := hide (grown_new hg1.out hht (fun j hj => .inr rfl))
        have hrt := hide hrt
        clear hht hr1 hg1
        obtain ⟨L, hL⟩ : ∃ L : Nat, 1 + xt = (L : Int) := ⟨(1 + xt).toNat, by omega⟩
        have hL1 : 1 ≤ L := by omega
        have hLl : L < M := by omega
        obtain ⟨Q, hQ⟩ : ∃ Q : Nat, (M : Int) - (L : Int) = (Q : Int) := ⟨M - L, by omega⟩
        have hQ1 : 1 ≤ Q := by omega
        have hQl : Q < M := by omega
        have IHa := hide (IH3.out L hL1 hLl)
        have IHb := hide (IH3.out Q hQ1 hQl)
        go_wp2_with fail
        refine (IHa.out _ _ hrt.out (by omega)).mono ?_
        rintro e wa ⟨Aa, na, ka, ta, rfl, hoa, hna, hra, hga⟩
        have hgA := hide (grown_new hgt.out hga (fun j hj => .inr rfl))
        have hra := hide hra
        have hoa := hide (hoa.down hgt.out.size)
        clear hga hrt hgt
        go_wp2_with fail
        refine (IHb.out _ _ hra.out (by omega)).mono ?_
        rintro e wb ⟨Ab, nb, kb, tb, rfl, hob, hnb, hrb, hgb⟩
        have hgB := hide (grown_new hgA.out hgb (fun j hj => .inr rfl))
        have hrb := hide hrb
        have hoa := hide (hoa.out.past hgb hglt)
        have hob := hide (hob.down hgA.out.size)
        have hsb := hgB.out.size
        have hla := hide hoa.out.len
        have hlb := hide hob.out.len
        clear hgb hra hgA
        go_wp2_with (first
          | (at_builtin; refine wpList_appK _ rfl _ _ 23 rfl i1 Try.underlying23 hi hz0 hz1 hz2 _ ta rfl hoa.out _ nb kb _ tb rfl hob.out.marks hsb (by have := hla.out; omega) ?_; intro A₃ n₃ c₃ w3 ho3 hg3; have hg3' := hide (grown_new hgB.out hg3 (fun j hj => .inl (hoa.out.row.lt j hj).1)); have hr3 := hide (hrb.out.kept hg3 (fun j hj => Nat.lt_of_lt_of_le hglt (hoa.out.row.lt j hj).1)); replace ho3 := hide ho3; have hs3 := hg3'.out.size; clear hg3)
          | (at_builtin; refine wpList_appK _ rfl _ _ 23 rfl i1 Try.underlying23 hi hz0 hz1 hz2 _ _ rfl (ho3.out.alloc _) _ 1 1 _ [(2, 0)] rfl (marks_lit1 hw2 hw0) (by simp; omega) (by have := hla.out; have := hlb.out; simp; omega) ?_; intro A₄ n₄ c₄ w4 ho4 hg4; have hg4' := hide (grown_new (grown_alloc hg3'.out (.cells #[.int .i64 2, .int .i64 0] 29)) hg4 (fun j hj => .inl (ho3.out.row.lt j hj).1)); have hr4 := hide ((hr3.out.kept (World.grownBy_alloc _ (.cells #[.int .i64 2, .int .i64 0] 29) none) (fun _ e => by cases e)).kept hg4 (fun j hj => Nat.lt_of_lt_of_le hglt (ho3.out.row.lt j hj).1)); replace ho4 := hide ho4; clear hg4))
        go_ret
        exact ⟨_, _, _, _, rfl, ho4.out, by have := ho4.out.len; have := hla.out; have := hlb.out; simp only [List.length_append, List.length_cons, List.length_nil] at *; omega, hr4.out.more (by omega), hg4'.out⟩
      · have IHa := hide (IH2.out rfl)
        go_wp2_with fail
        refine (pick_c g _ 3 _ hr1.out (by omega) (by omega) (by omega)).mono ?_
        rintro e wu ⟨xu, rfl, hxua, hxub, hru, hhu⟩
        have hgu := hide (grown_new hg1.out hhu (fun j hj => .inr rfl))
        have hru := hide hru
        clear hhu hr1 hg1
        by_cases hu0 : xu = 0
        · subst hu0
          go_wp2_with fail
          refine (IHa.out _ _ hru.out (by omega)).mono ?_
          rintro e wa ⟨Aa, na, ka, ta, rfl, hoa, hna, hra, hga⟩
          have hgA := hide (grown_new hgu.out hga (fun j hj => .inr rfl))
          have hra := hide hra
          have hoa := hide (hoa.down hgu.out.size)
          clear hga hru hgu
          go_wp2_with fail
          refine (IHa.out _ _ hra.out (by omega)).mono ?_
          rintro e wb ⟨Ab, nb, kb, tb, rfl, hob, hnb, hrb, hgb⟩
          have hgB := hide (grown_new hgA.out hgb (fun j hj => .inr rfl))
          have hrb := hide hrb
          have hoa := hide (hoa.out.past hgb hglt)
          have hob := hide (hob.down hgA.out.size)
          have hsb := hgB.out.size
          have hla := hide hoa.out.len
          have hlb := hide hob.out.len
          clear hgb hra hgA
          go_wp2_with (first
            | (at_builtin; refine wpList_appK _ rfl _ _ 23 rfl i1 Try.underlying23 hi hz0 hz1 hz2 _ ta rfl hoa.out _ nb kb _ tb rfl hob.out.marks hsb (by have := hla.out; omega) ?_; intro A₃ n₃ c₃ w3 ho3 hg3; have hg3' := hide (grown_new hgB.out hg3 (fun j hj => .inl (hoa.out.row.lt j hj).1)); have hr3 := hide (hrb.out.kept hg3 (fun j hj => Nat.lt_of_lt_of_le hglt (hoa.out.row.lt j hj).1)); replace ho3 := hide ho3; have hs3 := hg3'.out.size; clear hg3)
            | (at_builtin; refine wpList_appK _ rfl _ _ 23 rfl i1 Try.underlying23 hi hz0 hz1 hz2 _ _ rfl (ho3.out.alloc _) _ 1 1 _ [(3, 0)] rfl (marks_lit1 hw3 hw0) (by simp; omega) (by have := hla.out; have := hlb.out; simp; omega) ?_; intro A₄ n₄ c₄ w4 ho4 hg4; have hg4' := hide (grown_new (grown_alloc hg3'.out (.cells #[.int .i64 3, .int .i64 0] 29)) hg4 (fun j hj => .inl (ho3.out.row.lt j hj).1)); have hr4 := hide ((hr3.out.kept (World.grownBy_alloc _ (.cells #[.int .i64 3, .int .i64 0] 29) none) (fun _ e => by cases e)).kept hg4 (fun j hj => Nat.lt_of_lt_of_le hglt (ho3.out.row.lt j hj).1)); replace ho4 := hide ho4; clear hg4))
          go_ret
          exact ⟨_, _, _, _, rfl, ho4.out, by have := ho4.out.len; have := hla.out; have := hlb.out; simp only [List.length_append, List.length_cons, List.length_nil] at *; omega, hr4.out.more (by omega), hg4'.out⟩
        · have hub : (xu == 0) = false := by simpa using hu0
          have hMb : ((M : Int) == 1) = false := by simp; omega
          go_wp2_with fail
          refine (pick_c g _ ((M : Int) - 1) _ hru.out (by omega) (by omega) (by omega)).mono ?_
          rintro e wt ⟨xt, rfl, hxta, hxtb, hrt, hht⟩
          have hgt := hide (grown_new hgu.out hht (fun j hj => .inr rfl))
          have hrt := hide hrt
          clear hht hru hgu
          obtain ⟨L, hL⟩ : ∃ L : Nat, 1 + xt = (L : Int) := ⟨(1 + xt).toNat, by omega⟩
          have hL1 : 1 ≤ L := by omega
          have hLl : L < M := by omega
          obtain ⟨Q, hQ⟩ : ∃ Q : Nat, (M : Int) - (L : Int) = (Q : Int) := ⟨M - L, by omega⟩
          have hQ1 : 1 ≤ Q := by omega
          have hQl : Q < M := by omega
          have IHa := hide (IH3.out L hL1 hLl)
          have IHb := hide (IH3.out Q hQ1 hQl)
          go_wp2_with fail
          refine (IHa.out _ _ hrt.out (by omega)).mono ?_
          rintro e wa ⟨Aa, na, ka, ta, rfl, hoa, hna, hra, hga⟩
          have hgA := hide (grown_new hgt.out hga (fun j hj => .inr rfl))
          have hra := hide hra
          have hoa := hide (hoa.down hgt.out.size)
          clear hga hrt hgt
          go_wp2_with fail
          refine (IHb.out _ _ hra.out (by omega)).mono ?_
          rintro e wb ⟨Ab, nb, kb, tb, rfl, hob, hnb, hrb, hgb⟩
          have hgB := hide (grown_new hgA.out hgb (fun j hj => .inr rfl))
          have hrb := hide hrb
          have hoa := hide (hoa.out.past hgb hglt)
          have hob := hide (hob.down hgA.out.size)
          have hsb := hgB.out.size
          have hla := hide hoa.out.len
          have hlb := hide hob.out.len
          clear hgb hra hgA
          go_wp2_with (first
            | (at_builtin; refine wpList_appK _ rfl _ _ 23 rfl i1 Try.underlying23 hi hz0 hz1 hz2 _ ta rfl hoa.out _ nb kb _ tb rfl hob.out.marks hsb (by have := hla.out; omega) ?_; intro A₃ n₃ c₃ w3 ho3 hg3; have hg3' := hide (grown_new hgB.out hg3 (fun j hj => .inl (hoa.out.row.lt j hj).1)); have hr3 := hide (hrb.out.kept hg3 (fun j hj => Nat.lt_of_lt_of_le hglt (hoa.out.row.lt j hj).1)); replace ho3 := hide ho3; have hs3 := hg3'.out.size; clear hg3)
            | (at_builtin; refine wpList_appK _ rfl _ _ 23 rfl i1 Try.underlying23 hi hz0 hz1 hz2 _ _ rfl (ho3.out.alloc _) _ 1 1 _ [(2, 0)] rfl (marks_lit1 hw2 hw0) (by simp; omega) (by have := hla.out; have := hlb.out; simp; omega) ?_; intro A₄ n₄ c₄ w4 ho4 hg4; have hg4' := hide (grown_new (grown_alloc hg3'.out (.cells #[.int .i64 2, .int .i64 0] 29)) hg4 (fun j hj => .inl (ho3.out.row.lt j hj).1)); have hr4 := hide ((hr3.out.kept (World.grownBy_alloc _ (.cells #[.int .i64 2, .int .i64 0] 29) none) (fun _ e => by cases e)).kept hg4 (fun j hj => Nat.lt_of_lt_of_le hglt (ho3.out.row.lt j hj).1)); replace ho4 := hide ho4; clear hg4))
          go_ret
          exact ⟨_, _, _, _, rfl, ho4.out, by have := ho4.out.len; have := hla.out; have := hlb.out; simp only [List.length_append, List.length_cons, List.length_nil] at *; omega, hr4.out.more (by omega), hg4'.out⟩

theorem part_all (g : Nat) (cl : Int) (hcl0 : -1000 ≤ cl) (hcl : cl ≤ 1000) : (∀ M, 1 ≤ M → M ≤ 3 → PartQ g cl M 0 200 31) ∧ (∀ M, 1 ≤ M → M ≤ 3 → PartQ g cl M 1 4000 511) := by
  have a1 : PartQ g cl 1 0 4 1 := part_step g cl hcl0 hcl 1 0 0 0 (by omega) (by omega) (.inl rfl) (by omega) (by omega) (fun L h1 h2 => by omega) (fun h => by cases h) (fun L h1 h2 => by omega)
  have e1 : ∀ L, 1 ≤ L → L < 2 → PartQ g cl L 0 4 1 := fun L h1 h2 => by
    obtain rfl : L = 1 := by omega
    exact a1
  have a2 : PartQ g cl 2 0 12 3 := part_step g cl hcl0 hcl 2 0 4 1 (by omega) (by omega) (.inl rfl) (by omega) (by omega) e1 (fun h => by cases h) e1
  have b2 : ∀ L, 1 ≤ L → L < 3 → PartQ g cl L 0 12 3 := fun L h1 h2 => by
    rcases (show L = 1 ∨ L = 2 by omega) with rfl | rfl
    · exact a1.mono (by omega) (by omega)
    · exact a2
  have a3 : PartQ g cl 3 0 28 7 := part_step g cl hcl0 hcl 3 0 12 3 (by omega) (by omega) (.inl rfl) (by omega) (by omega) b2 (fun h => by cases h) b2
  have all0 : ∀ M, 1 ≤ M → M ≤ 3 → PartQ g cl M 0 28 7 := fun L h1 h2 => by
    rcases (show L = 1 ∨ L = 2 ∨ L = 3 by omega) with rfl | rfl | rfl
    · exact a1.mono (by omega) (by omega)
    · exact a2.mono (by omega) (by omega)
    · exact a3
  have c1 : PartQ g cl 1 1 60 15 := part_step g cl hcl0 hcl 1 1 28 7 (by omega) (by omega) (.inr rfl) (by omega) (by omega) (fun L h1 h2 => by omega) (fun _ => all0 1 (by omega) (by omega)) (fun L h1 h2 => by omega)
  have c2 : PartQ g cl 2 1 124 31 := part_step g cl hcl0 hcl 2 1 60 15 (by omega) (by omega) (.inr rfl) (by omega) (by omega) (fun L h1 h2 => by
    obtain rfl : L = 1 := by omega
    exact c1) (fun _ => (all0 2 (by omega) (by omega)).mono (by omega) (by omega)) (fun L h1 h2 => (all0 L h1 (by omega)).mono (by omega) (by omega))
  have d2 : ∀ L, 1 ≤ L → L < 3 → PartQ g cl L 1 124 31 := fun L h1 h2 => by
    rcases (show L = 1 ∨ L = 2 by omega) with rfl | rfl
    · exact c1.mono (by omega) (by omega)
    · exact c2
  have c3 : PartQ g cl 3 1 252 63 := part_step g cl hcl0 hcl 3 1 124 31 (by omega) (by omega) (.inr rfl) (by omega) (by omega) d2 (fun _ => (all0 3 (by omega) (by omega)).mono (by omega) (by omega)) (fun L h1 h2 => (all0 L h1 (by omega)).mono (by omega) (by omega))
  refine ⟨fun M h1 h3 => (all0 M h1 h3).mono (by omega) (by omega), fun M h1 h3 => ?_⟩
  rcases (show M = 1 ∨ M = 2 ∨ M = 3 by omega) with rfl | rfl | rfl
  · exact c1.mono (by omega) (by omega)
  · exact c2.mono (by omega) (by omega)
  · exact c3.mono (by omega) (by omega)


set_option maxHeartbeats 400000 in
theorem odd_any (g m : Nat) (n : Int) (w : World) (h : Rd w g m) (hm : m ≤ 100000) (hn : 0 ≤ n) (hn2 : n ≤ 1000000) :
    Calls Try.prog 79 #[.pointer (some ⟨g, 0, none⟩), .int .i64 n] w fun e w' => ∃ b : Bool, e = .returned (.bool b) ∧ Rd w' g (m + 1) ∧ w.grownBy w' (some g) := by
  by_cases h1 : 1 ≤ n
  · exact odd_c g m n w h hm h1 hn2
  · obtain rfl : n = 0 := by omega
    have hr := hide (h.more (show m ≤ m + 1 by omega))
    go_enter Try.func79, Try.ntmps79
    go_wp2_with fail
    go_ret
    exact ⟨by first | rfl | simp | trace_state, hr.out, World.grownBy.refl w _⟩
theorem marks_lit2 {w : World} {x y u v : Int} (hx : (Lit.int .i64 x).wf = true) (hy : (Lit.int .i64 y).wf = true) (hu : (Lit.int .i64 u).wf = true) (hv : (Lit.int .i64 v).wf = true) : OwnK (w.alloc (.cells #[.int .i64 x, .int .i64 y, .int .i64 u, .int .i64 v] 29)) w.heap.size (.slice (some ⟨w.heap.size, 0, none⟩) 2 2) [(x, y), (u, v)] :=
  ⟨World.ownsRow_lit w #[.int .i64 x, .int .i64 y, .int .i64 u, .int .i64 v] 2 (Nat.le_refl _) (by unfold maxLen; omega) rfl, fun z hz => by
    simp at hz
    rcases hz with rfl | rfl
    · exact ⟨hx, hy⟩
    · exact ⟨hu, hv⟩⟩

set_option maxRecDepth 100000 in
set_option maxHeartbeats 1600000 in
theorem l20Term_r (g m : Nat) (cl q : Int) (w : World) (hr : Rd w g m) (hm : m ≤ 40000) (hcl0 : -1000 ≤ cl) (hcl : cl ≤ 1000) (hq0 : 0 ≤ q) (hq : q ≤ 1000000) :
    Calls Try.prog 48 #[.pointer (some ⟨g, 0, none⟩), .int .i64 cl, .int .i64 q] w fun e w' => ∃ A n k ts, e = .returned (.slice A n k) ∧ OwnK w' w.heap.size (.slice A n k) ts ∧ n ≤ 600 ∧ Rd w' g (m + 4010) ∧ w.grownBy w' (some g) := by
  obtain ⟨i1, hi, hz0, hz1, hz2⟩ := infoMark_parts
  have hw0 := wf_i64 (z := 0) (by omega)
  have hw1 := wf_i64 (z := 1) (by omega)
  have hw3 := wf_i64 (z := 3) (by omega)
  have HPall := hide (part_all g cl hcl0 hcl).2
  have hglt := hr.lt
  have hr0 := hide hr
  have hg0 := hide (World.grownBy.refl w (some g))
  clear hr
  go_enter Try.func48, Try.ntmps48
  go_wp2_with fail
  refine (pick_c g _ 3 _ hr0.out (by omega) (by omega) (by omega)).mono ?_
  rintro e w1 ⟨x1, rfl, hx1a, hx1b, hr1, hh1⟩
  have hg1 := hide (grown_new hg0.out hh1 (fun j hj => .inr rfl))
  have hr1 := hide hr1
  clear hh1 hr0 hg0
  obtain ⟨M, hM⟩ : ∃ M : Nat, 1 + x1 = (M : Int) := ⟨(1 + x1).toNat, by omega⟩
  have HPm := hide (HPall.out M (by omega) (by omega))
  go_wp2_with fail
  refine (HPm.out _ _ hr1.out (by omega)).mono ?_
  rintro e wa ⟨Aa, na, ka, ta, rfl, hoa, hna, hra, hga⟩
  have hgA := hide (grown_new hg1.out hga (fun j hj => .inr rfl))
  have hra := hide hra
  have hoa := hide (hoa.down hg1.out.size)
  have hla := hide hoa.out.len
  clear hga hr1 hg1
  go_wp2_with fail
  refine (odd_any g _ _ _ hra.out (by omega) hq0 hq).mono ?_
  rintro e wb ⟨p, rfl, hrb, hgb⟩
  have hgB := hide (grown_new hgA.out hgb (fun j hj => .inr rfl))
  have hrb := hide hrb
  have hoa := hide (hoa.out.past hgb hglt)
  have hsb := hgB.out.size
  clear hgb hra hgA
  cases p with
  | false =>
    go_wp2_with fail
    go_ret
    exact ⟨_, _, _, _, rfl, hoa.out, by omega, hrb.out.more (by omega), hgB.out⟩
  | true =>
    go_wp2_with fail
    refine (pick_c g _ 3 _ hrb.out (by omega) (by omega) (by omega)).mono ?_
    rintro e wc ⟨xc, rfl, hxca, hxcb, hrc, hgc⟩
    have hgC := hide (grown_new hgB.out hgc (fun j hj => .inr rfl))
    have hrc := hide hrc
    have hoa := hide (hoa.out.past hgc hglt)
    have hsc := hgC.out.size
    clear hgc hrb hgB
    have hcs : xc = 0 ∨ xc = 1 ∨ xc = 2 := by omega
    rcases hcs with rfl | rfl | rfl
    · go_wp2_with fail
      go_ret
      exact ⟨_, _, _, _, rfl, ownK_empty hsc, by omega, (hrc.out.kept (World.grownBy_alloc _ _ none) (fun _ e => by cases e)).more (by omega), grown_alloc hgC.out _⟩
    · go_wp2_with (at_builtin; refine wpList_appK _ rfl _ _ 23 rfl i1 Try.underlying23 hi hz0 hz1 hz2 _ ta rfl (hoa.out.alloc _) _ 1 1 _ [(3, 0)] rfl (marks_lit1 hw3 hw0) (by simp; omega) (by have := hla.out; omega) ?_; intro A₄ n₄ c₄ w4 ho4 hg4; have hg4' := hide (grown_new (grown_alloc hgC.out (.cells #[.int .i64 3, .int .i64 0] 29)) hg4 (fun j hj => .inl (hoa.out.row.lt j hj).1)); have hr4 := hide ((hrc.out.kept (World.grownBy_alloc _ (.cells #[.int .i64 3, .int .i64 0] 29) none) (fun _ e => by cases e)).kept hg4 (fun j hj => Nat.lt_of_lt_of_le hglt (hoa.out.row.lt j hj).1)); replace ho4 := hide ho4; clear hg4)
      go_ret
      exact ⟨_, _, _, _, rfl, ho4.out, by have := ho4.out.len; have := hla.out; simp only [List.length_append, List.length_cons, List.length_nil] at *; omega, hr4.out.more (by omega), hg4'.out⟩
    · go_wp2_with (first
        | (at_builtin; refine wpList_appK _ rfl _ _ 23 rfl i1 Try.underlying23 hi hz0 hz1 hz2 _ ta rfl (hoa.out.alloc _) _ 2 2 _ [(1, 0), (1, 0)] rfl (marks_lit2 hw1 hw0 hw1 hw0).marks (by simp; omega) (by have := hla.out; omega) ?_; intro A₃ n₃ c₃ w3 ho3 hg3; have hg3' := hide (grown_new (grown_alloc hgC.out (.cells #[.int .i64 1, .int .i64 0, .int .i64 1, .int .i64 0] 29)) hg3 (fun j hj => .inl (hoa.out.row.lt j hj).1)); have hr3 := hide ((hrc.out.kept (World.grownBy_alloc _ (.cells #[.int .i64 1, .int .i64 0, .int .i64 1, .int .i64 0] 29) none) (fun _ e => by cases e)).kept hg3 (fun j hj => Nat.lt_of_lt_of_le hglt (hoa.out.row.lt j hj).1)); replace ho3 := hide ho3; have hs3 := hg3'.out.size; clear hg3)
        | (at_builtin; refine wpList_appK _ rfl _ _ 23 rfl i1 Try.underlying23 hi hz0 hz1 hz2 _ _ rfl (ho3.out.alloc _) _ 1 1 _ [(3, 0)] rfl (marks_lit1 hw3 hw0) (by simp; omega) (by have := hla.out; simp; omega) ?_; intro A₄ n₄ c₄ w4 ho4 hg4; have hg4' := hide (grown_new (grown_alloc hg3'.out (.cells #[.int .i64 3, .int .i64 0] 29)) hg4 (fun j hj => .inl (ho3.out.row.lt j hj).1)); have hr4 := hide ((hr3.out.kept (World.grownBy_alloc _ (.cells #[.int .i64 3, .int .i64 0] 29) none) (fun _ e => by cases e)).kept hg4 (fun j hj => Nat.lt_of_lt_of_le hglt (ho3.out.row.lt j hj).1)); replace ho4 := hide ho4; clear hg4))
      go_ret
      exact ⟨_, _, _, _, rfl, ho4.out, by have := ho4.out.len; have := hla.out; simp only [List.length_append, List.length_cons, List.length_nil] at *; omega, hr4.out.more (by omega), hg4'.out⟩

set_option maxHeartbeats 1000000 in
theorem l20Termed_r (g m : Nat) (q : Int) (w : World) (hr : Rd w g m) (hm : m ≤ 30000) (hq0 : 0 ≤ q) (hq : q ≤ 1000000) :
    Calls Try.prog 37 #[.pointer (some ⟨g, 0, none⟩), .int .i64 q] w fun e w' => ∃ k1 : Int, ∃ A n k ts, e = .returned (.tuple #[.int .i64 k1, .slice A n k]) ∧ 1 ≤ k1 ∧ k1 ≤ 6 ∧ OwnK w' w.heap.size (.slice A n k) ts ∧ n ≤ 600 ∧ Rd w' g (m + 4012) ∧ w.grownBy w' (some g) := by
  have hglt := hr.lt
  have hr0 := hide hr
  have hg0 := hide (World.grownBy.refl w (some g))
  clear hr
  go_enter Try.func37, Try.ntmps37
  go_wp2_with fail
  refine (pick_c g _ 3 _ hr0.out (by omega) (by omega) (by omega)).mono ?_
  rintro e w1 ⟨x1, rfl, hx1a, hx1b, hr1, hh1⟩
  have hg1 := hide (grown_new hg0.out hh1 (fun j hj => .inr rfl))
  have hr1 := hide hr1
  clear hh1 hr0 hg0
  go_wp2_with fail
  refine (pick_c g _ 60 _ hr1.out (by omega) (by omega) (by omega)).mono ?_
  rintro e w2 ⟨x2, rfl, hx2a, hx2b, hr2, hh2⟩
  have hg2 := hide (grown_new hg1.out hh2 (fun j hj => .inr rfl))
  have hr2 := hide hr2
  clear hh2 hr1 hg1
  have hqq : x2 / 59 = 0 ∨ x2 / 59 = 1 := by omega
  obtain ⟨d, hd⟩ : ∃ d : Int, Hid (wrap64 (x2 / 59) = d) := ⟨_, hide rfl⟩
  have hd01 : d = 0 ∨ d = 1 := by
    rw [← hd.out]
    rcases hqq with h | h <;> rw [h] <;> (simp only [wrap64]; omega)
  go_wp2_with fail
  refine (l20Term_r g _ (1 + x1) q _ hr2.out (by omega) (by omega) (by omega) hq0 hq).mono ?_
  rintro e wa ⟨Aa, na, ka, ta, rfl, hoa, hna, hra, hga⟩
  have hgA := hide (grown_new hg2.out hga (fun j hj => .inr rfl))
  have hra := hide hra
  have hoa := hide (hoa.down hg2.out.size)
  clear hga
  go_wp2_with fail
  go_ret2
  exact ⟨_, _, _, _, _, rfl, by first | omega | (rw [hd.out]; omega), by first | omega | (rw [hd.out]; omega), hoa.out, hna, hra.out.more (by omega), hgA.out⟩

set_option maxHeartbeats 1000000 in
theorem DrawTermOk_c (A : Option Addr) (n c : Nat) (bs : List Int) (w : World) (h : Bts w w.heap.size A n c bs) :
    Calls Try.prog 11 #[.slice A n c] w fun e w' => ∃ A1 n1 c1 ts1, ∃ k1 : Int, e = .returned (.tuple #[.int .i64 k1, .slice A1 n1 c1]) ∧ Marks w' w'.heap.size A1 n1 c1 ts1 ∧ n1 ≤ 600 ∧ 1 ≤ k1 ∧ k1 ≤ 6 ∧ Below w.heap.size w w' := by
  have HO := hide (open_c A n c bs w h)
  go_enter Try.func11, Try.ntmps11
  go_wp2_with fail
  refine HO.out.mono ?_
  rintro e w1 ⟨g, rfl, hr1, hg, hb1⟩
  have hr1 := hide hr1
  have hb1 := hide hb1
  clear HO
  go_wp2_with fail
  refine (l20Termed_r g _ 2 w1 hr1.out (by omega) (by omega) (by omega)).mono ?_
  rintro e w2 ⟨k1, A1, n1, c1, ts1, rfl, hk1, hk2, ho, hn, hr2, hg2⟩
  have hb2 := hide (hb1.out.grown hg2 hb1.out.size (fun k hk => by injection hk with hk; omega))
  have ho := hide ho
  clear hr2 hg2 hb1
  go_wp2_with fail
  go_ret2
  exact ⟨_, _, _, _, _, rfl, ho.out.marks, by omega, by omega, by omega, hb2.out⟩

set_option maxHeartbeats 1000000 in
theorem DrawLengthOf_c (A : Option Addr) (n c : Nat) (bs : List Int) (w : World) (h : Bts w w.heap.size A n c bs) :
    Calls Try.prog 16 #[.slice A n c] w fun e w' => ∃ A1 n1 c1 ts1, ∃ k1 : Int, e = .returned (.tuple #[.int .i64 k1, .slice A1 n1 c1]) ∧ Marks w' w'.heap.size A1 n1 c1 ts1 ∧ n1 ≤ 600 ∧ 1 ≤ k1 ∧ k1 ≤ 6 ∧ Below w.heap.size w w' := by
  have HO := hide (open_c A n c bs w h)
  go_enter Try.func16, Try.ntmps16
  go_wp2_with fail
  refine HO.out.mono ?_
  rintro e w1 ⟨g, rfl, hr1, hg, hb1⟩
  have hr1 := hide hr1
  have hb1 := hide hb1
  clear HO
  go_wp2_with fail
  refine (l20Termed_r g _ 9 w1 hr1.out (by omega) (by omega) (by omega)).mono ?_
  rintro e w2 ⟨k1, A1, n1, c1, ts1, rfl, hk1, hk2, ho, hn, hr2, hg2⟩
  have hb2 := hide (hb1.out.grown hg2 hb1.out.size (fun k hk => by injection hk with hk; omega))
  have ho := hide ho
  clear hr2 hg2 hb1
  go_wp2_with fail
  go_ret2
  exact ⟨_, _, _, _, _, rfl, ho.out.marks, by omega, by omega, by omega, hb2.out⟩

set_option maxHeartbeats 1000000 in
theorem DrawTermText_c (A : Option Addr) (n c : Nat) (bs : List Int) (w : World) (h : Bts w w.heap.size A n c bs) :
    Calls Try.prog 19 #[.slice A n c] w fun e w' => ∃ A1 n1 c1 ts1, ∃ k1 : Int, e = .returned (.tuple #[.int .i64 k1, .slice A1 n1 c1]) ∧ Marks w' w'.heap.size A1 n1 c1 ts1 ∧ n1 ≤ 600 ∧ 1 ≤ k1 ∧ k1 ≤ 6 ∧ Below w.heap.size w w' := by
  have HO := hide (open_c A n c bs w h)
  go_enter Try.func19, Try.ntmps19
  go_wp2_with fail
  refine HO.out.mono ?_
  rintro e w1 ⟨g, rfl, hr1, hg, hb1⟩
  have hr1 := hide hr1
  have hb1 := hide hb1
  clear HO
  go_wp2_with fail
  refine (l20Termed_r g _ 9 w1 hr1.out (by omega) (by omega) (by omega)).mono ?_
  rintro e w2 ⟨k1, A1, n1, c1, ts1, rfl, hk1, hk2, ho, hn, hr2, hg2⟩
  have hb2 := hide (hb1.out.grown hg2 hb1.out.size (fun k hk => by injection hk with hk; omega))
  have ho := hide ho
  clear hr2 hg2 hb1
  go_wp2_with fail
  go_ret2
  exact ⟨_, _, _, _, _, rfl, ho.out.marks, by omega, by omega, by omega, hb2.out⟩

set_option maxHeartbeats 1000000 in
theorem DrawBackTerm_c (A : Option Addr) (n c : Nat) (bs : List Int) (w : World) (h : Bts w w.heap.size A n c bs) :
    Calls Try.prog 35 #[.slice A n c] w fun e w' => ∃ A1 n1 c1 ts1, ∃ k1 : Int, e = .returned (.tuple #[.int .i64 k1, .slice A1 n1 c1]) ∧ Marks w' w'.heap.size A1 n1 c1 ts1 ∧ n1 ≤ 600 ∧ 1 ≤ k1 ∧ k1 ≤ 6 ∧ Below w.heap.size w w' := by
  have HO := hide (open_c A n c bs w h)
  go_enter Try.func35, Try.ntmps35
  go_wp2_with fail
  refine HO.out.mono ?_
  rintro e w1 ⟨g, rfl, hr1, hg, hb1⟩
  have hr1 := hide hr1
  have hb1 := hide hb1
  clear HO
  go_wp2_with fail
  refine (l20Termed_r g _ 9 w1 hr1.out (by omega) (by omega) (by omega)).mono ?_
  rintro e w2 ⟨k1, A1, n1, c1, ts1, rfl, hk1, hk2, ho, hn, hr2, hg2⟩
  have hb2 := hide (hb1.out.grown hg2 hb1.out.size (fun k hk => by injection hk with hk; omega))
  have ho := hide ho
  clear hr2 hg2 hb1
  go_wp2_with fail
  go_ret2
  exact ⟨_, _, _, _, _, rfl, ho.out.marks, by omega, by omega, by omega, hb2.out⟩
end Go.Proofs.Ytffllkmaifjpfaa
