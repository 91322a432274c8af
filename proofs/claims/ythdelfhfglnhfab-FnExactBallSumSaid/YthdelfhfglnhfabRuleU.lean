/-
  Contracts of chapter 4, the specification's side: EvenRule, AfterWord, RuleWays.
-/
import Derived.Test.YthdelfhfglnhfabRuleT
import Derived.Test.YthdelfhfglnhfabWordC
import Derived.Deep.QuietTactic
import Derived.BigQuiet
namespace Go.Proofs.Ythdelfhfglnhfab
open Go.RowKit

theorem evenN_no {c : Int} {rs : List (List Int)} (h : evenOk c rs = false) : evenN c rs = 0 := by unfold evenN; rw [h]; rfl
theorem evenN_yes {c : Int} {rs : List (List Int)} {l : List Int} (h : evenOk c rs = true) (hl : rs[0]? = some l) : evenN c rs = isum l := by unfold evenN rowOf; rw [h, hl]; rfl
theorem ret_ib {a b : Int} {x y : Bool} (h : a = b) (k : x = y) : Ending.returned (.tuple #[.int .i64 a, .bool x]) = .returned (.tuple #[.int .i64 b, .bool y]) := by rw [h, k]

set_option maxHeartbeats 1600000 in
theorem evenRule_spec (cl : Int) (A : Option Addr) (n c B : Nat) (rs : List (List Int)) (w : World) (h : Mat w B A n c rs) :
    Calls Try.prog 29 #[.int .i64 cl, .slice A n c] w fun e w' => e = .returned (.tuple #[.int .i64 (evenN cl rs), .bool (evenOk cl rs)]) ∧ ∃ q, w' = w.drewN q := by
  have hl := hide h.len
  have HI := hide (ruleOk_spec cl _ _ _ _ _ w h)
  by_cases hok : ruleOk cl rs = true
  · rw [hok] at HI
    obtain ⟨hc, hR⟩ := ruleOk_yes hok
    have h1 := hR.pos
    have h3 := hR.le
    have hlen := hR.len
    obtain rfl : cl = (n : Int) := by have := hl.out; omega
    have hn0 : 0 < n := by omega
    have hn3 : n ≤ 3 := by omega
    obtain ⟨b, off, l0, A0, n0, c0, hA, hb, hx0, hcell0, hrow0⟩ := h.look hn0
    subst hA
    rw [Nat.add_zero] at hcell0
    have HR := hide (fun (k : Nat) l (hl : rs[k]? = some l) => row_sum hR hl)
    have hR0 := row_sum hR hx0.out
    have HT0 := hide (fun m => l1TotalG_c _ _ _ _ l0 (w.drewN m) (hrow0.out.drewN m) (by have := hrow0.out.len; omega) (fun x hx => by have := hR0.2.1 x hx; omega))
    obtain ⟨S0, hS0⟩ : ∃ S, Hid (isum l0 = S) := ⟨_, hide rfl⟩
    rw [hS0.out] at HT0
    have hbad := hide (fun (k : Nat) l (hl : rs[k]? = some l) (hne : isum l ≠ S0) => show evenOk (n : Int) rs = false from by
      unfold evenOk
      rw [evenB_bad hl (by unfold rowOf; rw [hx0.out, Option.getD_some, hS0.out]; exact hne), Bool.and_false])
    have hgood := hide (fun (hall : ∀ (k : Nat) l, k < n → rs[k]? = some l → isum l = S0) => show evenOk (n : Int) rs = true from by
      unfold evenOk
      rw [hok, evenB_mk (fun k l hk hl2 => by unfold rowOf; rw [hx0.out, Option.getD_some, hS0.out]; exact hall k l (by have := hl.out; omega) hl2)]; rfl)
    clear hR0 hR hc h1 h3 hlen hok
    go_enter Try.func29, Try.ntmps29
    go_wp2_with (go_at_call 12; refine (HI.out).mono ?_; rintro e w' ⟨rfl, rfl⟩)
    go_loopw [6] (fun i wr => ∃ k q : Nat, k ≤ n ∧ i = .int .i64 k ∧ wr = w.drewN q ∧ Hid (∀ (j : Nat) l, j < k → rs[j]? = some l → isum l = S0)) (fun i _ => n - (intOf i).toNat)
    case atStart => exact ⟨0, 0, Nat.zero_le _, rfl, rfl, fun j l hj _ => absurd hj (by omega)⟩
    case round =>
      obtain ⟨k, q, hk, rfl, rfl, hall⟩ := hrel
      by_cases hlt : k < n
      · obtain ⟨b2, off2, l, A1, n1, c1, hA2, hb2, hx, hcell, hrow⟩ := h.look hlt
        injection hA2 with hA2
        injection hA2 with e1 e2 _
        subst e1; subst e2
        have hR1 := HR.out k l hx.out
        have HT1 := hide (fun m => l1TotalG_c _ _ _ _ l (w.drewN m) (hrow.out.drewN m) (by have := hrow.out.len; omega) (fun x hx => by have := hR1.2.1 x hx; omega))
        by_cases hs : isum l = S0
        · have hd : (S0 != S0) = false := by simp
          have hnx := hide (show ∀ (j : Nat) m, j < k + 1 → rs[j]? = some m → isum m = S0 from fun j m hj hm => by
            rcases Nat.lt_or_ge j k with hjk | hjk
            · exact hall.out j m hjk hm
            · obtain rfl : j = k := by omega
              rw [hx.out] at hm; injection hm with hm; subst hm; exact hs)
          rw [hs] at HT1
          clear hs hR1 hrow
          go_wp2_with fail
          go_quiet ((go_at_call 51; first | (with_reducible exact qs2 (HT1.out _)) | (with_reducible exact qs2 (HT0.out _)) | (with_reducible exact qs1 (HT1.out _)) | (with_reducible exact qs1 (HT0.out _))))
          go_wp2_with fail
          go_roundw
          case rel => exact ⟨k + 1, _, by omega, by go_num, rfl, hnx⟩
          case measure => simp [intOf]; omega
        · have hy := hide (hbad.out k l hx.out hs)
          obtain ⟨S1, hS1⟩ : ∃ S, Hid (isum l = S) := ⟨_, hide rfl⟩
          rw [hS1.out] at HT1 hs
          have hd : (S1 != S0) = true := by simpa using hs
          clear hs hR1 hrow
          go_wp2_with fail
          go_quiet ((go_at_call 51; first | (with_reducible exact qs2 (HT1.out _)) | (with_reducible exact qs2 (HT0.out _)) | (with_reducible exact qs1 (HT1.out _)) | (with_reducible exact qs1 (HT0.out _))))
          go_wp2_with fail
          go_ret2
          exact ⟨ret_ib (evenN_no hy.out).symm hy.out.symm, _, by first | rfl | exact World.drewN_drewN _ _ _⟩
      · have hy := hide (hgood.out (fun j l hj hl2 => hall.out j l (by omega) hl2))
        go_wp2_with (go_at_call 51; refine (HT0.out _).mono ?_; rintro e w' ⟨rfl, rfl⟩)
        go_ret2
        exact ⟨ret_ib (by rw [evenN_yes hy.out hx0.out, hS0.out]) hy.out.symm, _, rfl⟩
  · have hok : ruleOk cl rs = false := by simpa using hok
    rw [hok] at HI
    have hy := hide (show evenOk cl rs = false by unfold evenOk; rw [hok]; rfl)
    clear hok
    go_enter Try.func29, Try.ntmps29
    go_wp2_with (go_at_call 12; refine (HI.out).mono ?_; rintro e w' ⟨rfl, rfl⟩)
    go_ret2
    exact ⟨ret_ib (evenN_no hy.out).symm hy.out.symm, 0, rfl⟩

theorem afterL_no {zs : List Int} {rs : List (List Int)} {ws : List Int} (h : afterW rs zs ws = none) : afterL zs rs ws = [] ∧ afterOk zs rs ws = false := by
  unfold afterL afterOk
  rw [h]
  refine ⟨by split <;> rfl, by simp⟩
theorem afterL_not {zs : List Int} {rs : List (List Int)} {ws : List Int} (h : afterC zs rs ws = false) : afterL zs rs ws = [] ∧ afterOk zs rs ws = false := by
  unfold afterL afterOk
  rw [h]
  exact ⟨rfl, rfl⟩
theorem afterL_yes {zs us : List Int} {rs : List (List Int)} {ws : List Int} (h : afterC zs rs ws = true) (h2 : afterW rs zs ws = some us) : afterL zs rs ws = us ∧ afterOk zs rs ws = true := by
  unfold afterL afterOk
  rw [h, h2]
  exact ⟨rfl, rfl⟩
theorem ret_sb {A : Option Addr} {n c : Nat} {x y : Bool} (k : x = y) : Ending.returned (.tuple #[.slice A n c, .bool x]) = .returned (.tuple #[.slice A n c, .bool y]) := by rw [k]
theorem afterC_split {zs : List Int} {rs : List (List Int)} {ws : List Int} {n : Nat} (hl : zs.length = n) (h : startOk zs = false ∨ ruleOk (n : Int) rs = false ∨ wordOk (n : Int) ws = false) : afterC zs rs ws = false := by
  unfold afterC begun
  rw [hl]
  rcases h with h | h | h <;> simp [h]
theorem afterC_all {zs : List Int} {rs : List (List Int)} {ws : List Int} {n : Nat} (hl : zs.length = n) (h1 : startOk zs = true) (h2 : ruleOk (n : Int) rs = true) (h3 : wordOk (n : Int) ws = true) : afterC zs rs ws = true := by
  unfold afterC begun
  rw [hl, h1, h2, h3]; rfl

set_option maxHeartbeats 1600000 in
theorem afterWord_spec (A A1 A' : Option Addr) (n c B n1 c1 B1 n' c' B' : Nat) (zs : List Int) (rs : List (List Int)) (ws : List Int) (w : World) (h : Ints w B A n c zs) (h1 : Mat w B1 A1 n1 c1 rs) (h' : Ints w B' A' n' c' ws) (hB : B ≤ w.heap.size) (hB1 : B1 ≤ w.heap.size) (hB' : B' ≤ w.heap.size) :
    Calls Try.prog 20 #[.slice A n c, .slice A1 n1 c1, .slice A' n' c'] w fun e w' => ∃ A₂ n₂ c₂, e = .returned (.tuple #[.slice A₂ n₂ c₂, .bool (afterOk zs rs ws)]) ∧ Own w' w.heap.size (.slice A₂ n₂ c₂) (afterL zs rs ws) ∧ Below w.heap.size w w' := by
  have hl := hide h.len
  have hl' := hide h'.len
  have HS := hide (startOk_spec _ _ _ _ _ w h)
  have HR := hide (ruleOk_spec (n : Int) _ _ _ _ _ w h1)
  have HW := hide (wordOk_spec (n : Int) _ _ _ _ _ w h')
  by_cases hok : afterC zs rs ws = true
  · obtain ⟨hu, hm, hRl, hw6, hwm⟩ := afterC_yes hok
    have hyes := hide (fun us (e : afterW rs zs ws = some us) => afterL_yes hok e)
    have hnot := hide (fun (e : afterW rs zs ws = none) => afterL_no (zs := zs) (rs := rs) (ws := ws) e)
    rw [hl.out] at hRl
    unfold afterC begun at hok
    simp only [Bool.and_eq_true] at hok
    obtain ⟨⟨o1, o2⟩, o3⟩ := hok
    rw [hl.out] at o2 o3
    rw [o1] at HS
    rw [o2] at HR
    rw [o3] at HW
    have hn6 : n' ≤ 6 := by have := hl'.out; omega
    have hn3 : n ≤ 3 := hRl.le
    have HC := hide (fun (j : Nat) x (hx : ws[j]? = some x) => show 0 ≤ x ∧ x < (n : Int) from by have := hwm x (List.mem_of_getElem? hx); have := hl.out; omega)
    have HT := hide (fun (k : Nat) us (ha : afterW rs zs (ws.take k) = some us) => afterW_take hRl hl.out hm (fun x hx => by have := hwm x hx; have := hl.out; omega) hw6 ha)
    have HStep := hide (fun (k : Nat) x us (ha : afterW rs zs (ws.take k) = some us) (hx : ws[k]? = some x) => afterW_step ha hx)
    have HRow := hide (fun (k : Nat) l (hl : rs[k]? = some l) => row_sum hRl hl)
    have hrl := hide hRl.len
    obtain ⟨i0, hi, hz0, hz1, hz2⟩ := info_parts infoInt
    have hs0 := hide (show afterW rs zs (ws.take 0) = some zs from rfl)
    clear hu hm hRl hw6 hwm o1 o2 o3
    go_enter Try.func20, Try.ntmps20
    go_wp2_with (first | (go_at_call 16; refine (HS.out).mono ?_; rintro e w' ⟨rfl, rfl⟩) | (go_at_call 12; refine (HR.out).mono ?_; rintro e w' ⟨rfl, rfl⟩) | (go_at_call 42; refine (HW.out).mono ?_; rintro e w' ⟨rfl, rfl⟩) | (at_builtin; refine wpList_app _ rfl _ _ 27 rfl i0 Try.underlying27 hi hz0 hz1 hz2 _ _ rfl (own_empty (base := w.heap.size) (Nat.le_refl _)) _ n c _ zs rfl (h.alloc hB _) (by simp) (by simp; omega) ?_; intro A₂ n₂ c₂ w1 ho hg; have hb := hide ((below_empty (Below.refl _ _) _).grown hg (by simp) (fun k hk => Nat.le_of_eq (Option.some.inj hk))); have ho := hide ho; clear hg))
    have ho := hide (show Own w1 w.heap.size (.slice A₂ n₂ c₂) zs from ho.out)
    go_loopw [8, 9] (fun v i wr => ∃ k : Nat, ∃ A₂ n₂ c₂ us, k ≤ n' ∧ i = .int .i64 k ∧ v = .slice A₂ n₂ c₂ ∧ Hid (Own wr w.heap.size (.slice A₂ n₂ c₂) us) ∧ Hid (afterW rs zs (ws.take k) = some us) ∧ Hid (Below w.heap.size w wr)) (fun _ i _ => n' - (intOf i).toNat)
    case atStart => exact ⟨0, _, _, _, zs, Nat.zero_le _, rfl, rfl, ho, hs0, hb⟩
    case round =>
      clear ho hb hs0
      obtain ⟨k, A₂, n₂, c₂, us, hk, rfl, rfl, ho, ha, hb⟩ := hrel
      have hs := hb.out.size
      by_cases hlt : k < n'
      · obtain ⟨b, off, x, hA, hbB, hx, hcell⟩ := (h'.below (hb.out.mono hB')).look hlt
        subst hA
        obtain ⟨x0, x1⟩ := HC.out k x hx.out
        obtain ⟨X, rfl⟩ : ∃ X : Nat, x = (X : Int) := ⟨x.toNat, by omega⟩
        obtain ⟨t1, t2⟩ := HT.out k us ha.out
        have hn2 := ho.out.len
        rw [t1] at hn2
        subst hn2
        have hXn : X < n₂ := by omega
        obtain ⟨y, hy⟩ : ∃ y, Hid (us[X]? = some y) := ⟨_, hide (List.getElem?_eq_getElem (by omega))⟩
        obtain ⟨g, hA2, hg, hgl, hcy, hfy⟩ := ho.out.at2 hy.out
        subst hA2
        have hby : ballsAt us (X : Int) = y := ballsAt_eq (by simpa using hy.out)
        obtain ⟨s1, s2⟩ := HStep.out k _ us ha.out hx.out
        rw [hby] at s1 s2
        by_cases hy1 : y < 1
        · obtain ⟨e1, e2⟩ := hnot.out (s1 hy1).1
          have e1 := hide e1
          have e2 := hide e2
          clear s1 s2 t1 t2 hby
          go_wp2
          go_ret2
          exact ⟨_, _, _, ret_sb e2.out.symm, by rw [e1.out]; exact own_empty (by omega), below_empty hb.out _⟩
        · obtain ⟨l, hr⟩ : ∃ l, Hid (rs[X]? = some l) := ⟨_, hide (List.getElem?_eq_getElem (by have := hrl.out; omega))⟩
          obtain ⟨r1, r2, _, _⟩ := HRow.out X l hr.out
          have hrow : rowOf rs X = l := by unfold rowOf; rw [hr.out]; rfl
          have s3 := (s2 (by omega)).1
          rw [show ((X : Int)).toNat = X by omega, hrow] at s3
          have s3 := hide s3
          have HA := hide (l4After_c _ _ _ _ _ _ _ _ X us l rs wr ho.out.ints (h1.below (hb.out.mono hB1)) (Nat.le_refl _) (Nat.le_trans hB1 hs) hn3 hr.out r1 (fun z hz => by have := t2 z hz; omega) (fun z hz => by have := r2 z hz; omega))
          clear s1 s2 t1 t2 hby r1 r2 hrow
          go_wp2_with (go_at_call 43; refine (HA.out).mono ?_; rintro e w' ⟨A₃, n₃, c₃, rfl, ho3, hq⟩)
          have ho3 := hide (ho3.down hs)
          have hb3 := hide (hb.out.trans (hq.mono hs))
          clear hq HA ho
          go_wp2_with fail
          go_roundw
          case rel => exact ⟨k + 1, _, _, _, _, by omega, by go_num, rfl, ho3, s3, hb3⟩
          case measure => simp [intOf]; omega
      · have ha2 := ha.out
        rw [List.take_of_length_le (by have := hl'.out; omega)] at ha2
        obtain ⟨e1, e2⟩ := hyes.out us ha2
        have e1 := hide e1
        have e2 := hide e2
        clear ha2
        go_wp2
        go_ret2
        exact ⟨_, _, _, ret_sb e2.out.symm, by rw [e1.out]; exact ho.out, hb.out⟩
  · have hok : afterC zs rs ws = false := by simpa using hok
    obtain ⟨e1, e2⟩ := afterL_not hok
    have e1 := hide e1
    have e2 := hide e2
    unfold afterC begun at hok
    rw [hl.out] at hok
    by_cases o1 : startOk zs = true
    · rw [o1] at HS
      by_cases o2 : ruleOk (n : Int) rs = true
      · rw [o2] at HR
        have o3 : wordOk (n : Int) ws = false := by simpa [o1, o2] using hok
        rw [o3] at HW
        clear hok o1 o2 o3
        go_enter Try.func20, Try.ntmps20
        go_wp2_with (first | (go_at_call 16; refine (HS.out).mono ?_; rintro e w' ⟨rfl, rfl⟩) | (go_at_call 12; refine (HR.out).mono ?_; rintro e w' ⟨rfl, rfl⟩) | (go_at_call 42; refine (HW.out).mono ?_; rintro e w' ⟨rfl, rfl⟩))
        go_ret2
        exact ⟨_, _, _, ret_sb e2.out.symm, by rw [e1.out]; exact own_empty (Nat.le_refl _), below_empty (Below.refl _ _) _⟩
      · have o2 : ruleOk (n : Int) rs = false := by simpa using o2
        rw [o2] at HR
        clear hok o1 o2
        go_enter Try.func20, Try.ntmps20
        go_wp2_with (first | (go_at_call 16; refine (HS.out).mono ?_; rintro e w' ⟨rfl, rfl⟩) | (go_at_call 12; refine (HR.out).mono ?_; rintro e w' ⟨rfl, rfl⟩))
        go_ret2
        exact ⟨_, _, _, ret_sb e2.out.symm, by rw [e1.out]; exact own_empty (Nat.le_refl _), below_empty (Below.refl _ _) _⟩
    · have o1 : startOk zs = false := by simpa using o1
      rw [o1] at HS
      clear hok o1
      go_enter Try.func20, Try.ntmps20
      go_wp2_with (first | (go_at_call 16; refine (HS.out).mono ?_; rintro e w' ⟨rfl, rfl⟩))
      go_ret2
      exact ⟨_, _, _, ret_sb e2.out.symm, by rw [e1.out]; exact own_empty (Nat.le_refl _), below_empty (Below.refl _ _) _⟩
end Go.Proofs.Ythdelfhfglnhfab
