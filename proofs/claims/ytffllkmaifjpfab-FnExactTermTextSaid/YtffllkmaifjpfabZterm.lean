/-
  Words, plain lemmas and contracts that belong together, joined into one file.
-/
import Derived.Test.YtffllkmaifjpfabZmark
import Derived.BigQuiet
import Derived.Test.YtffllkmaifjpfabZpl
import Derived.Test.YtffllkmaifjpfabZdraw
import Derived.Test.YtffllkmaifjpfabZword
import Derived.Test.YtffllkmaifjpfabZpm
import Derived.Test.YtffllkmaifjpfabStr
namespace Go.Proofs.Ytffllkmaifjpfab
open Go.RowKit
set_option linter.unusedVariables false

/-- The last mark of a part. -/
def lastK : Tr → Int
  | .col _ => 0
  | .any => 1
  | .thn _ _ => 2
  | .alt _ _ => 3
theorem flat_last (x : Tr) : ∃ (pre : List Mk) (y : Int), flat x = pre ++ [(lastK x, y)] := by
  cases x with
  | col c => exact ⟨[], c, rfl⟩
  | any => exact ⟨[], 0, rfl⟩
  | thn a b => exact ⟨flat a ++ flat b, 0, by simp [flat, lastK]⟩
  | alt a b => exact ⟨flat a ++ flat b, 0, by simp [flat, lastK]⟩

theorem flats_ge (q : List Tr) : q.length ≤ (flats q).length := by
  induction q with
  | nil => exact Nat.le_refl _
  | cons x r ih =>
    have := flat_pos x
    simp only [flats, List.length_append, List.length_cons]
    omega
theorem last_mark {ts r : List Mk} {j : Nat} {m m' : Mk} (h : ts.take (j + 1) = r ++ [m]) (hm : ts[j]? = some m') : m' = m ∧ ts.take j = r := by
  rw [take_succM' hm] at h
  have := List.append_inj' h rfl
  exact ⟨by have := this.2; injection this, this.1⟩

set_option maxHeartbeats 800000 in
theorem l9Starts_c (A : Option Addr) (n c B : Nat) (ts pre : List Mk) (x : Tr) (e : Nat) (w : World) (h : Marks w B A n c ts) (he : e < n) (hx : ts.take (e + 1) = pre ++ flat x) :
    Calls Try.prog 83 #[.slice A n c, .int .i64 (e : Int)] w fun e w' => e = .returned (.int .i64 (pre.length : Int)) ∧ w = w' := by
  have hn := h.nb
  have hx := hide hx
  go_enter Try.func83, Try.ntmps83
  go_wp2
  go_loop [5, 6] (fun t i => ∃ (k m : Nat) (q : List Tr) (z : Int), k ≤ e + 1 ∧ i = .int .i64 z ∧ t = .int .i64 (m : Int) ∧ Hid (z = (k : Int) - 1) ∧ Hid (m = q.length) ∧ Hid (ts.take k = pre ++ flats q) ∧ m ≤ k) (fun _ i => (intOf i + 1).toNat)
  case atStart => exact ⟨e + 1, 1, [x], _, Nat.le_refl _, rfl, rfl, hide (by omega), hide rfl, hide (by rw [hx.out]; simp [flats]), by omega⟩
  case round =>
    obtain ⟨k, m, q, z, hk, rfl, rfl, hz, hm, hq, hmn⟩ := hrel
    by_cases h0 : 0 < m
    · obtain ⟨q', y, hqy⟩ := flats_last q (fun e => by have := hm.out; rw [e] at this; simp at this; omega)
      have hqq := hq.out
      rw [hqy, flats_snoc, ← List.append_assoc] at hqq
      have hk0 : 0 < k := by
        rcases Nat.eq_zero_or_pos k with h1 | h1
        · rw [h1, List.take_zero] at hqq
          have := congrArg List.length hqq
          have hp := flat_pos y
          simp at this
          omega
        · exact h1
      obtain ⟨j, rfl⟩ : ∃ j, k = j + 1 := ⟨k - 1, by omega⟩
      obtain rfl : z = (j : Int) := by have := hz.out; omega
      obtain ⟨b, off, u, v, rfl, hbB, hu, hc1, hc2⟩ := h.look (show j < n by omega)
      have hml : m = q'.length + 1 := by rw [hm.out, hqy]; simp
      replace hqq := hide hqq
      clear hq hm hqy hz
      cases y with
      | col cc =>
        obtain ⟨e1, e2⟩ := last_mark (r := pre ++ flats q') (m := (0, (cc : Int))) hqq.out hu.out
        injection e1 with e1 e1'
        subst e1
        have hq2 := hide e2
        have hm2 := hide (show m - 1 = q'.length by omega)
        have hmj : m - 1 ≤ j := by omega
        clear e1' hqq hml
        go_wp2
        go_round
        case rel => exact ⟨j, m - 1, q', _, by omega, rfl, by rw [show ((m - 1 : Nat) : Int) = (m : Int) - 1 by omega], hide rfl, hm2, hq2, hmj⟩
        case measure => simp [intOf]
      | any =>
        obtain ⟨e1, e2⟩ := last_mark (r := pre ++ flats q') (m := (1, 0)) hqq.out hu.out
        injection e1 with e1 e1'
        subst e1
        have hq2 := hide e2
        have hm2 := hide (show m - 1 = q'.length by omega)
        have hmj : m - 1 ≤ j := by omega
        clear e1' hqq hml
        go_wp2
        go_round
        case rel => exact ⟨j, m - 1, q', _, by omega, rfl, by rw [show ((m - 1 : Nat) : Int) = (m : Int) - 1 by omega], hide rfl, hm2, hq2, hmj⟩
        case measure => simp [intOf]
      | thn a b2 =>
        obtain ⟨e1, e2⟩ := last_mark (r := pre ++ flats (q' ++ [a, b2])) (m := (2, 0)) (by rw [hqq.out]; simp [flat, flats, flats_append]) hu.out
        injection e1 with e1 e1'
        subst e1
        have hq2 := hide e2
        have hm2 := hide (show m + 1 = (q' ++ [a, b2]).length by simp; omega)
        have hmj : m + 1 ≤ j := by
          have h1 := flats_ge (q' ++ [a, b2])
          have h2 := congrArg List.length e2
          rw [List.length_append, List.length_take, h.len] at h2
          have := hm2.out
          omega
        clear e1' hqq hml
        go_wp2
        go_round
        case rel => exact ⟨j, m + 1, _, _, by omega, rfl, by go_num, hide rfl, hm2, hq2, hmj⟩
        case measure => simp [intOf]
      | alt a b2 =>
        obtain ⟨e1, e2⟩ := last_mark (r := pre ++ flats (q' ++ [a, b2])) (m := (3, 0)) (by rw [hqq.out]; simp [flat, flats, flats_append]) hu.out
        injection e1 with e1 e1'
        subst e1
        have hq2 := hide e2
        have hm2 := hide (show m + 1 = (q' ++ [a, b2]).length by simp; omega)
        have hmj : m + 1 ≤ j := by
          have h1 := flats_ge (q' ++ [a, b2])
          have h2 := congrArg List.length e2
          rw [List.length_append, List.length_take, h.len] at h2
          have := hm2.out
          omega
        clear e1' hqq hml
        go_wp2
        go_round
        case rel => exact ⟨j, m + 1, _, _, by omega, rfl, by go_num, hide rfl, hm2, hq2, hmj⟩
        case measure => simp [intOf]
    · have hfin := hide (show z + 1 = (pre.length : Int) by
        have h1 := hm.out
        have h2 := hq.out
        have hq0 : q = [] := List.eq_nil_of_length_eq_zero (by omega)
        rw [hq0] at h2
        have h3 := congrArg List.length h2
        simp only [flats, List.append_nil, List.length_take, h.len] at h3
        have := hz.out
        omega)
      have hzb : -1 ≤ z ∧ z ≤ 9223372036854775806 := by have := hz.out; omega
      obtain ⟨z0, z1⟩ := hzb
      obtain rfl : m = 0 := by omega
      clear hm hq hz
      go_wp2
      go_ret
      exact ⟨ret_int hfin.out, rfl⟩

theorem flat_len2 (a b : Tr) (m : Mk) : (flat a ++ (flat b ++ [m])).length = (flat a).length + (flat b).length + 1 := by simp; omega

set_option maxHeartbeats 1600000 in
theorem l9Length_c {C : Int} : ∀ (x : Tr), good C x = true → ∀ (A : Option Addr) (n c B : Nat) (w : World), Marks w B A n c (flat x) →
    Calls Try.prog 47 #[.slice A n c] w fun e w' => e = .returned (.int .i64 (ln x : Int)) ∧ ∃ q, w' = w.drewN q
  | .col cc, hg, A, n, c, B, w, h => by
    obtain rfl : 1 = n := h.len
    obtain ⟨b, off, u, v, rfl, hbB, hu, hc1, hc2⟩ := h.look (show 0 < 1 by omega)
    have e1 := hu.out
    simp only [flat, List.getElem?_cons_zero, Option.some.injEq, Prod.mk.injEq] at e1
    obtain ⟨rfl, rfl⟩ := e1
    rw [Nat.zero_mul, Nat.add_zero] at hc1 hc2
    have hn1 : ((1 : Nat) : Int) - 1 = 0 := rfl
    go_enter Try.func47, Try.ntmps47
    go_wp2
    go_ret
    exact ⟨rfl, 0, rfl⟩
  | .any, hg, A, n, c, B, w, h => by
    obtain rfl : 1 = n := h.len
    obtain ⟨b, off, u, v, rfl, hbB, hu, hc1, hc2⟩ := h.look (show 0 < 1 by omega)
    have e1 := hu.out
    simp only [flat, List.getElem?_cons_zero, Option.some.injEq, Prod.mk.injEq] at e1
    obtain ⟨rfl, rfl⟩ := e1
    rw [Nat.zero_mul, Nat.add_zero] at hc1 hc2
    have hn1 : ((1 : Nat) : Int) - 1 = 0 := rfl
    go_enter Try.func47, Try.ntmps47
    go_wp2
    go_ret
    exact ⟨rfl, 0, rfl⟩
  | .alt a b2, hg, A, n, c, B, w, h => by
    have hgg : good C a = true := by simp only [good, Bool.and_eq_true] at hg; exact hg.1.1
    have hlen := h.len
    have hnb := h.nb
    have hle := h.le
    rw [show flat (.alt a b2) = flat a ++ (flat b2 ++ [(3, 0)]) from rfl] at h hlen
    rw [flat_len2] at hlen
    have pa := flat_pos a
    have pb := flat_pos b2
    obtain ⟨E, hE⟩ : ∃ E : Nat, E + 2 = n := ⟨n - 2, by omega⟩
    obtain ⟨Lx, hLx⟩ : ∃ L : Nat, L + 1 = n := ⟨n - 1, by omega⟩
    have hL : (n : Int) - 1 = (Lx : Int) := by omega
    have hEI : (Lx : Int) - 1 = (E : Int) := by omega
    have HS := hide (l9Starts_c A n c B _ (flat a) b2 E w h (by omega) (by
      rw [show E + 1 = (flat a ++ flat b2).length by simp; omega, ← List.append_assoc, List.take_left]))
    obtain ⟨b, off, u, v, rfl, hbB, hu, hc1, hc2⟩ := h.look (show Lx < n by omega)
    have e1 := hu.out
    rw [← List.append_assoc, List.getElem?_append_right (by simp; omega), show Lx - (flat a ++ flat b2).length = 0 by simp; omega] at e1
    simp only [List.getElem?_cons_zero, Option.some.injEq, Prod.mk.injEq] at e1
    obtain ⟨rfl, rfl⟩ := e1
    have hta := hide (h.takeS (h := (flat a).length) (by omega))
    rw [List.take_left] at hta
    obtain ⟨la, hla⟩ : ∃ la : Nat, Hid ((flat a).length = la) := ⟨_, hide rfl⟩
    rw [hla.out] at HS hta hlen pa
    have HR := hide (l9Length_c a hgg (some ⟨b, off, none⟩) la c B w hta.out)
    have hlc : la ≤ c := by omega
    have hll : la ≤ Lx := by omega
    have hLc : Lx ≤ c := by omega
    have hcl : la < c := by omega
    clear hlen hE hLx
    go_enter Try.func47, Try.ntmps47
    go_wp2_with (first | (go_at_call 83; refine (HS.out).mono ?_; rintro e w' ⟨rfl, rfl⟩) | (go_at_call 47; refine (HR.out).mono ?_; rintro e w' ⟨rfl, q, rfl⟩))
    go_ret
    exact ⟨rfl, _, rfl⟩
  | .thn a b2, hg, A, n, c, B, w, h => by
    have hgg : good C a = true ∧ good C b2 = true ∧ ln a + ln b2 ≤ 6 := by simp only [good, Bool.and_eq_true] at hg; exact ⟨hg.1.1, hg.1.2, of_decide_eq_true hg.2⟩
    have hlen := h.len
    have hnb := h.nb
    have hle := h.le
    rw [show flat (.thn a b2) = flat a ++ (flat b2 ++ [(2, 0)]) from rfl] at h hlen
    rw [flat_len2] at hlen
    have pa := flat_pos a
    have pb := flat_pos b2
    obtain ⟨E, hE⟩ : ∃ E : Nat, E + 2 = n := ⟨n - 2, by omega⟩
    obtain ⟨Lx, hLx⟩ : ∃ L : Nat, L + 1 = n := ⟨n - 1, by omega⟩
    have hL : (n : Int) - 1 = (Lx : Int) := by omega
    have hEI : (Lx : Int) - 1 = (E : Int) := by omega
    have HS := hide (l9Starts_c A n c B _ (flat a) b2 E w h (by omega) (by
      rw [show E + 1 = (flat a ++ flat b2).length by simp; omega, ← List.append_assoc, List.take_left]))
    obtain ⟨b, off, u, v, rfl, hbB, hu, hc1, hc2⟩ := h.look (show Lx < n by omega)
    have e1 := hu.out
    rw [← List.append_assoc, List.getElem?_append_right (by simp; omega), show Lx - (flat a ++ flat b2).length = 0 by simp; omega] at e1
    simp only [List.getElem?_cons_zero, Option.some.injEq, Prod.mk.injEq] at e1
    obtain ⟨rfl, rfl⟩ := e1
    have hta := hide (h.takeS (h := (flat a).length) (by omega))
    rw [List.take_left] at hta
    have htb := hide ((h.takeS (h := Lx) (by omega)).dropS (h := (flat a).length) (by omega))
    rw [show Lx = (flat a ++ flat b2).length by simp; omega, ← List.append_assoc, List.take_left, List.drop_left] at htb
    obtain ⟨la, hla⟩ : ∃ la : Nat, Hid ((flat a).length = la) := ⟨_, hide rfl⟩
    rw [show (flat a ++ flat b2).length = Lx by simp; omega] at htb
    rw [hla.out] at HS hta htb hlen pa
    have HR := hide (fun w' (hw : Marks w' B (some ⟨b, off, none⟩) la c (flat a)) => l9Length_c a hgg.1 (some ⟨b, off, none⟩) la c B w' hw)
    have HQ := hide (fun w' (hw : Marks w' B (some ⟨b, off + la * 2, none⟩) (Lx - la) (c - la) (flat b2)) => l9Length_c b2 hgg.2.1 _ _ _ B w' hw)
    have hlc : la ≤ c := by omega
    have hll : la ≤ Lx := by omega
    have hLc : Lx ≤ c := by omega
    have hcl : la < c := by omega
    clear hlen hE hLx
    go_enter Try.func47, Try.ntmps47
    go_wp2_with (first | (go_at_call 83; refine (HS.out).mono ?_; rintro e w' ⟨rfl, rfl⟩))
    clear hL hEI
    go_quiet (first | (go_at_call 47; with_reducible exact qd1 (HR.out _ (hta.out.drewN _))) | (go_at_call 47; with_reducible exact qd1 (HQ.out _ (htb.out.drewN _))) | (go_at_call 47; with_reducible exact qd2 (HQ.out _ (htb.out.drewN _))) | (go_at_call 47; with_reducible exact qd2 (HR.out _ (hta.out.drewN _))))
    go_wp2
    go_ret
    exact ⟨by simp [ln], _, rfl⟩
end Go.Proofs.Ytffllkmaifjpfab

namespace Go.Proofs.Ytffllkmaifjpfab
open Go.RowKit
set_option linter.unusedVariables false

def lens (st : List Tr) : List Int := (st.map (fun x => (ln x : Int))).reverse
theorem lens_len (st : List Tr) : (lens st).length = st.length := by simp [lens]
theorem lens_cons (x : Tr) (st : List Tr) : lens (x :: st) = lens st ++ [(ln x : Int)] := by simp [lens]
theorem lens_take1 (x : Tr) (st : List Tr) : (lens (x :: st)).take st.length = lens st := by rw [lens_cons, ← lens_len st, List.take_left]
theorem lens_take2 (x y : Tr) (st : List Tr) : (lens (x :: y :: st)).take st.length = lens st := by
  rw [lens_cons, lens_cons, List.append_assoc, ← lens_len st, List.take_left]
theorem lens_at1 (x : Tr) (st : List Tr) : (lens (x :: st))[st.length]? = some (ln x : Int) := by
  rw [lens_cons, List.getElem?_append_right (by rw [lens_len]; exact Nat.le_refl _), lens_len, Nat.sub_self]; rfl
theorem lens_at2 (x y : Tr) (st : List Tr) : (lens (x :: y :: st))[st.length]? = some (ln y : Int) := by
  rw [lens_cons, List.getElem?_append_left (by rw [lens_len]; simp), lens_at1]
theorem runT_stop {C : Int} {ts : List Mk} {k : Nat} {st : List Tr} {m : Mk} (h : runT C [] (ts.take k) = some st) (hm : ts[k]? = some m) (hs : stepT C st m = none) : runT C [] ts = none := by
  obtain ⟨hk, rfl⟩ := List.getElem?_eq_some_iff.1 hm
  rw [← List.take_append_drop k ts, runT_append, h, List.drop_eq_getElem_cons hk]
  simp only [Option.bind_some, runT, hs]
theorem termOk_stop {C : Int} {ts : List Mk} {k : Nat} {st : List Tr} {m : Mk} (h : runT C [] (ts.take k) = some st) (hm : ts[k]? = some m) (hs : stepT C st m = none) : termOk C ts = false := by
  unfold termOk
  rw [runT_stop h hm hs]
  simp [isOne]
theorem runT_next {C : Int} {ts : List Mk} {k : Nat} {st st' : List Tr} {m : Mk} (h : runT C [] (ts.take k) = some st) (hm : ts[k]? = some m) (hs : stepT C st m = some st') : runT C [] (ts.take (k + 1)) = some st' := by
  rw [take_succM' hm, runT_snoc, h]
  exact hs
theorem stepT_two {C u v : Int} (x y : Tr) (r : List Tr) (h0 : ¬(u = 0 ∧ 0 ≤ v ∧ v < C)) (h1 : ¬(u = 1 ∧ v = 0)) : stepT C (y :: x :: r) (u, v) = if u = 2 ∧ v = 0 ∧ ln x + ln y ≤ 6 then some (.thn x y :: r) else if u = 3 ∧ v = 0 ∧ ln x = ln y then some (.alt x y :: r) else none := by
  simp only [stepT]; rw [if_neg h0, if_neg h1]
theorem stepT_short {C u v : Int} {st : List Tr} (h0 : ¬(u = 0 ∧ 0 ≤ v ∧ v < C)) (h1 : ¬(u = 1 ∧ v = 0)) (hl : st.length < 2) : stepT C st (u, v) = none := by
  simp only [stepT]; rw [if_neg h0, if_neg h1]
  match st, hl with
  | [], _ => rfl
  | [_], _ => rfl
  | _ :: _ :: _, hl => simp at hl; omega
theorem stepT_other {C u v : Int} (st : List Tr) (h0 : ¬(u = 0 ∧ 0 ≤ v ∧ v < C)) (h1 : ¬(u = 1 ∧ v = 0)) (h2 : ¬(u = 2 ∧ v = 0)) (h3 : ¬(u = 3 ∧ v = 0)) : stepT C st (u, v) = none := by
  simp only [stepT]; rw [if_neg h0, if_neg h1]
  match st with
  | [] => rfl
  | [_] => rfl
  | _ :: _ :: _ => dsimp only; rw [if_neg (fun h => h2 ⟨h.1, h.2.1⟩), if_neg (fun h => h3 ⟨h.1, h.2.1⟩)]
theorem Own.cut {w : World} {base n c k : Nat} {A : Option Addr} {zs : List Int} (h : Own w base (.slice A n c) zs) (hk : k ≤ n) : Own w base (.slice A k c) (zs.take k) := by
  refine ⟨?_, fun z hz => h.wf z (List.mem_of_mem_take hz)⟩
  have hn := h.len
  rcases h.row.2 with ⟨hv, h0⟩ | ⟨g, cap, cur, hv, hg, hh, hnc, hm, hs, ht⟩
  · injection hv with e1 e2 e3
    subst e1; subst e2; subst e3
    obtain rfl : k = 0 := by omega
    rw [List.take_zero]
    exact World.ownsRow_nil _ _ _ _
  · injection hv with e1 e2 e3
    subst e1; subst e2; subst e3
    have hkl : (zs.take k).length = k := by rw [List.length_take]; omega
    rw [hkl]
    refine ⟨by simp; omega, .inr ⟨g, c, cur, rfl, hg, hh, by omega, hm, hs, ?_⟩⟩
    rw [Nat.mul_one] at ht ⊢
    rw [List.map_take, ← ht, List.take_take, Nat.min_eq_left (by omega)]

set_option maxHeartbeats 6400000 in
set_option maxRecDepth 100000 in
theorem termOk_spec (C : Int) (A : Option Addr) (n c B : Nat) (ts : List Mk) (w : World) (h : Marks w B A n c ts) (hB : B ≤ w.heap.size) (hn20 : n ≤ 1048576) :
    Calls Try.prog 12 #[.int .i64 C, .slice A n c] w fun e w' => e = .returned (.bool (termOk C ts)) ∧ Below w.heap.size w w' := by
  obtain ⟨i0, hi, hz0, hz1, hz2⟩ := info_parts infoInt
  have hlen := hide h.len
  have hw1 := wf_i64 (z := 1) (by omega)
  go_enter Try.func12, Try.ntmps12
  go_wp2_with fail
  go_loopw [5, 6] (fun v i wr => ∃ k : Nat, ∃ A2 c2, ∃ st : List Tr, ∃ n2, k ≤ n ∧ i = .int .i64 k ∧ v = .slice A2 n2 c2 ∧ n2 ≤ k ∧ Hid (n2 = st.length) ∧ Hid (runT C [] (ts.take k) = some st) ∧ Hid (Own wr w.heap.size (.slice A2 n2 c2) (lens st)) ∧ Hid (Below w.heap.size w wr)) (fun _ i _ => n - (intOf i).toNat)
  case atStart => exact ⟨0, _, _, [], _, Nat.zero_le _, rfl, rfl, Nat.le_refl _, hide rfl, hide rfl, own_empty (Nat.le_refl _), al w _⟩
  case round =>
    obtain ⟨k, A2, c2, st, n2, hk, rfl, rfl, hn2k, hn2, hrun, ho, hb⟩ := hrel
    have hst := hb.out.size
    by_cases hlt : k < n
    · obtain ⟨b, off, u, v, rfl, hbB, hu, hc1, hc2⟩ := (h.below (hb.out.mono hB)).look hlt
      by_cases h0 : u = 0 ∧ 0 ≤ v ∧ v < C
      · obtain ⟨rfl, hv0, hvC⟩ := h0
        have hnx := hide (runT_next hrun.out hu.out (by simp only [stepT]; rw [if_pos ⟨trivial, hv0, hvC⟩]))
        clear hrun
        go_wp2_with (at_builtin; refine wpList_app _ rfl _ _ 35 rfl i0 Try.underlying35 hi hz0 hz1 hz2 _ _ rfl (ho.out.alloc _) _ 1 1 _ [1] rfl (ints_lit1 hw1) (by simp; omega) (by rw [lens_len]; have := hn2.out; omega) ?_; intro A₃ n₃ c₃ w3 ho3 hg3)
        have hn3 : n₃ = n2 + 1 := by have e := ho3.len; rw [List.length_append, lens_len, ← hn2.out] at e; simpa using e
        subst hn3
        have ho3 := hide (show Own w3 w.heap.size (.slice A₃ (n2 + 1) c₃) (lens ((Tr.col v.toNat) :: st)) by rw [lens_cons]; exact ho3)
        have hb3 := hide ((hb.out.alloc hst (.cells #[.int .i64 1] 3)).grown hg3 (by simp; omega) (fun j hj => (ho.out.row.lt j hj).1))
        have hn3 := hide (show n2 + 1 = ((Tr.col v.toNat) :: st).length by rw [hn2.out]; rfl)
        clear hg3 ho hb hn2
        go_wp2_with fail
        go_roundw
        case rel => exact ⟨k + 1, _, _, _, _, by omega, by go_num, rfl, by omega, hn3, hnx, ho3, hb3⟩
        case measure => simp [intOf]; omega
      · have hN0 := hide h0
        clear h0
        by_cases h1 : u = 1 ∧ v = 0
        · obtain ⟨rfl, rfl⟩ := h1
          have hnx := hide (runT_next hrun.out hu.out (by simp only [stepT]; rw [if_neg hN0.out, if_pos ⟨trivial, trivial⟩]))
          clear hrun
          go_wp2_with (at_builtin; refine wpList_app _ rfl _ _ 35 rfl i0 Try.underlying35 hi hz0 hz1 hz2 _ _ rfl (ho.out.alloc _) _ 1 1 _ [1] rfl (ints_lit1 hw1) (by simp; omega) (by rw [lens_len]; have := hn2.out; omega) ?_; intro A₃ n₃ c₃ w3 ho3 hg3)
          have hn3 : n₃ = n2 + 1 := by have e := ho3.len; rw [List.length_append, lens_len, ← hn2.out] at e; simpa using e
          subst hn3
          have ho3 := hide (show Own w3 w.heap.size (.slice A₃ (n2 + 1) c₃) (lens (Tr.any :: st)) by rw [lens_cons]; exact ho3)
          have hb3 := hide ((hb.out.alloc hst (.cells #[.int .i64 1] 3)).grown hg3 (by simp; omega) (fun j hj => (ho.out.row.lt j hj).1))
          have hn3 := hide (show n2 + 1 = (Tr.any :: st).length by rw [hn2.out]; rfl)
          clear hg3 ho hb hn2
          go_wp2_with fail
          go_roundw
          case rel => exact ⟨k + 1, _, _, _, _, by omega, by go_num, rfl, by omega, hn3, hnx, ho3, hb3⟩
          case measure => simp [intOf]; omega
        · have hN1 := hide h1
          clear h1
          by_cases h2 : u = 2 ∧ v = 0
          · obtain ⟨rfl, rfl⟩ := h2
            match st, hn2, hrun, ho with
            | [], hn2, hrun, ho =>
              obtain rfl : n2 = 0 := hn2.out
              have hF := hide (termOk_stop hrun.out hu.out (stepT_short hN0.out hN1.out (by simp)))
              clear hN0 hN1
              go_wp2_with fail
              go_quiet (fail)
              go_wp2_with fail
              go_quiet (fail)
              go_wp2_with fail
              go_ret
              exact ⟨ret_bool hF.out.symm, below_drewN (below_drewN hb.out _) _⟩
            | [_], hn2, hrun, ho =>
              obtain rfl : n2 = 1 := hn2.out
              have hF := hide (termOk_stop hrun.out hu.out (stepT_short hN0.out hN1.out (by simp)))
              clear hN0 hN1
              go_wp2_with fail
              go_quiet (fail)
              go_wp2_with fail
              go_quiet (fail)
              go_wp2_with fail
              go_ret
              exact ⟨ret_bool hF.out.symm, below_drewN (below_drewN hb.out _) _⟩
            | y :: x :: r, hn2, hrun, ho =>
              have hstep := hide (stepT_two (C := C) x y r hN0.out hN1.out)
              clear hN0 hN1
              obtain ⟨Lx, hLr, hL⟩ : ∃ L : Nat, L = r.length + 1 ∧ (n2 : Int) - 1 = (L : Int) := ⟨_, rfl, by have := hn2.out; simp at this; omega⟩
              obtain ⟨E, hEr, hE⟩ : ∃ E : Nat, E = r.length ∧ (Lx : Int) - 1 = (E : Int) := ⟨_, rfl, by omega⟩
              replace hLr := hide hLr
              replace hEr := hide hEr
              have hgd := (runT_sound _ hrun.out).1 (fun y hy => by cases hy)
              have hx6 := ln_le x (hgd x (by simp))
              have hy6 := ln_le y (hgd y (by simp))
              have hn2L : n2 = r.length + 2 := by have := hn2.out; simpa using this
              have hL1 : Lx < n2 := by have := hLr.out; omega
              have hE1 : E < n2 := by have := hEr.out; omega
              have hEL : E < Lx := by have := hLr.out; have := hEr.out; omega
              replace hn2L := hide hn2L
              have hat2 := hide (show (lens (y :: x :: r))[E]? = some (ln x : Int) by rw [hEr.out]; exact lens_at2 y x r)
              have hat1 := hide (show (lens (y :: x :: r))[Lx]? = some (ln y : Int) by rw [hLr.out]; exact lens_at1 y (x :: r))
              have hnb2 := ho.out.ints.nb
              obtain ⟨g, hA2, hg, hgl, hcE, hfE⟩ := ho.out.at2 hat2.out
              obtain ⟨g', hA3, _, _, hcL, hfL⟩ := ho.out.at2 hat1.out
              subst hA2
              injection hA3 with hA3
              injection hA3 with e1 _ _
              subst e1
              have hL0 : 0 < Lx := by omega
              have hlc2 := ho.out.ints.le
              obtain ⟨a, ha⟩ : ∃ a : Nat, Hid (ln x = a) := ⟨_, hide rfl⟩
              obtain ⟨d, hd⟩ : ∃ d : Nat, Hid (ln y = d) := ⟨_, hide rfl⟩
              rw [ha.out] at hx6 hcE
              rw [hd.out] at hy6 hcL
              have hge : decide ((1 : Int) ≤ (Lx : Int)) = true := decide_eq_true (by omega)
              by_cases hs6 : a + d ≤ 6
              · have hnx := hide (runT_next hrun.out hu.out (hstep.out.trans (if_pos ⟨rfl, rfl, by rw [ha.out, hd.out]; exact hs6⟩)))
                have hsum : decide ((a : Int) + (d : Int) ≤ 6) = true := decide_eq_true (by omega)
                clear hrun hstep
                have hwad := wf_i64 (z := (a : Int) + (d : Int)) (by omega)
                have hoE := hide (fun q => own_empty (w := wr.drewN q) (base := w.heap.size) hst)
                have hbE := hide (fun q => (below_drewN hb.out q).alloc hst (.cells #[] 3))
                have hsrc := hide (fun q => (((ho.out.ints.takeS (h := E) (by omega)).drewN q).alloc (Nat.le_refl _) (.cells #[] 3)))
                have hltk := hide (show (lens (y :: x :: r)).take E = lens r by rw [hEr.out]; exact lens_take2 y x r)
                rw [hltk.out] at hsrc
                have hlr := hide (lens_len r)
                go_wp2_with fail
                go_quiet (fail)
                go_wp2_with fail
                go_quiet (fail)
                go_wp2_with (first
                  | (at_builtin; refine wpList_app _ rfl _ _ 35 rfl i0 Try.underlying35 hi hz0 hz1 hz2 _ [] rfl (hoE.out _) _ E c2 wr.heap.size (lens r) rfl (hsrc.out _) (by simp <;> omega) (by simp <;> omega) ?_; intro A₃ n₃ c₃ w3 ho3 hg3; have hs3 := hide (hg3.size); have hb3 := hide ((hbE.out _).grown hg3 (by simp <;> omega) (fun j hj => ((hoE.out 0).row.lt j hj).1)); replace ho3 := hide (show Own w3 w.heap.size (.slice A₃ n₃ c₃) (lens r) from ho3); have hb3s := hb3.out.size; clear hg3)
                  | (at_builtin; refine wpList_app _ rfl _ _ 35 rfl i0 Try.underlying35 hi hz0 hz1 hz2 _ (lens r) rfl (ho3.out.alloc _) _ 1 1 _ [(a : Int) + (d : Int)] rfl (ints_lit1 hwad) (by simp <;> omega) (by rw [hlr.out]; have := hn2L.out; omega) ?_; intro A₄ n₄ c₄ w4 ho4 hg4; have hb4 := hide ((hb3.out.alloc hb3s (.cells #[.int .i64 ((a : Int) + (d : Int))] 3)).grown hg4 (by simp <;> omega) (fun j hj => (ho3.out.row.lt j hj).1))))
                have hn4 : n₄ = n2 - 1 := by have e := ho4.len; rw [List.length_append, hlr.out] at e; have := hn2L.out; simp at e; omega
                have ho4 := hide (show Own w4 w.heap.size (.slice A₄ n₄ c₄) (lens (.thn x y :: r)) by
                  rw [lens_cons]
                  simp only [ln, Int.natCast_add, ha.out, hd.out]; exact ho4)
                have hn5 := hide (show n₄ = (Tr.thn x y :: r).length by rw [hn4]; have := hn2L.out; simp; omega)
                clear hg4 ho3 hb3 hoE hbE hsrc
                have hn4k : n₄ ≤ k + 1 := by omega
                clear hn4
                go_wp2_with fail
                go_roundw
                case rel => exact ⟨k + 1, _, _, _, _, by omega, by go_num, rfl, hn4k, hn5, hnx, ho4, hb4⟩
                case measure => simp [intOf]; omega
              · have hF := hide (termOk_stop hrun.out hu.out (hstep.out.trans (by rw [if_neg (by rw [ha.out, hd.out]; omega), if_neg (by omega)])))
                have hsum : decide ((a : Int) + (d : Int) ≤ 6) = false := decide_eq_false (by omega)
                go_wp2_with fail
                go_quiet (fail)
                go_wp2_with fail
                go_quiet (fail)
                go_wp2_with fail
                go_ret
                exact ⟨ret_bool hF.out.symm, below_drewN (below_drewN hb.out _) _⟩
          · have hN2 := hide h2
            clear h2
            by_cases h3 : u = 3 ∧ v = 0
            · obtain ⟨rfl, rfl⟩ := h3
              match st, hn2, hrun, ho with
              | [], hn2, hrun, ho =>
                obtain rfl : n2 = 0 := hn2.out
                have hF := hide (termOk_stop hrun.out hu.out (stepT_short hN0.out hN1.out (by simp)))
                clear hN0 hN1 hN2
                go_wp2_with fail
                go_quiet (fail)
                go_wp2_with fail
                go_quiet (fail)
                go_wp2_with fail
                go_ret
                exact ⟨ret_bool hF.out.symm, below_drewN (below_drewN hb.out _) _⟩
              | [_], hn2, hrun, ho =>
                obtain rfl : n2 = 1 := hn2.out
                have hF := hide (termOk_stop hrun.out hu.out (stepT_short hN0.out hN1.out (by simp)))
                clear hN0 hN1 hN2
                go_wp2_with fail
                go_quiet (fail)
                go_wp2_with fail
                go_quiet (fail)
                go_wp2_with fail
                go_ret
                exact ⟨ret_bool hF.out.symm, below_drewN (below_drewN hb.out _) _⟩
              | y :: x :: r, hn2, hrun, ho =>
                have hstep := hide (stepT_two (C := C) x y r hN0.out hN1.out)
                clear hN0 hN1 hN2
                obtain ⟨Lx, hLr, hL⟩ : ∃ L : Nat, L = r.length + 1 ∧ (n2 : Int) - 1 = (L : Int) := ⟨_, rfl, by have := hn2.out; simp at this; omega⟩
                obtain ⟨E, hEr, hE⟩ : ∃ E : Nat, E = r.length ∧ (Lx : Int) - 1 = (E : Int) := ⟨_, rfl, by omega⟩
                replace hLr := hide hLr
                replace hEr := hide hEr
                have hgd := (runT_sound _ hrun.out).1 (fun y hy => by cases hy)
                have hx6 := ln_le x (hgd x (by simp))
                have hy6 := ln_le y (hgd y (by simp))
                have hn2L : n2 = r.length + 2 := by have := hn2.out; simpa using this
                have hL1 : Lx < n2 := by have := hLr.out; omega
                have hE1 : E < n2 := by have := hEr.out; omega
                have hEL : E < Lx := by have := hLr.out; have := hEr.out; omega
                replace hn2L := hide hn2L
                have hat2 := hide (show (lens (y :: x :: r))[E]? = some (ln x : Int) by rw [hEr.out]; exact lens_at2 y x r)
                have hat1 := hide (show (lens (y :: x :: r))[Lx]? = some (ln y : Int) by rw [hLr.out]; exact lens_at1 y (x :: r))
                have hnb2 := ho.out.ints.nb
                obtain ⟨g, hA2, hg, hgl, hcE, hfE⟩ := ho.out.at2 hat2.out
                obtain ⟨g', hA3, _, _, hcL, hfL⟩ := ho.out.at2 hat1.out
                subst hA2
                injection hA3 with hA3
                injection hA3 with e1 _ _
                subst e1
                have hL0 : 0 < Lx := by omega
                have hlc2 := ho.out.ints.le
                obtain ⟨a, ha⟩ : ∃ a : Nat, Hid (ln x = a) := ⟨_, hide rfl⟩
                obtain ⟨d, hd⟩ : ∃ d : Nat, Hid (ln y = d) := ⟨_, hide rfl⟩
                rw [ha.out] at hx6 hcE
                rw [hd.out] at hy6 hcL
                have hge : decide ((1 : Int) ≤ (Lx : Int)) = true := decide_eq_true (by omega)
                by_cases had : a = d
                · have hnx := hide (runT_next hrun.out hu.out (hstep.out.trans ((if_neg (by omega)).trans (if_pos ⟨rfl, rfl, by rw [ha.out, hd.out]; exact had⟩))))
                  have hoc := hide (ho.out.cut (k := Lx) (by omega))
                  have hltk := hide (show (lens (y :: x :: r)).take Lx = lens (.alt x y :: r) by
                    rw [hLr.out, show r.length + 1 = (x :: r).length from rfl, lens_take1, lens_cons, lens_cons]; rfl)
                  rw [hltk.out] at hoc
                  have hnL := hide (show Lx = (Tr.alt x y :: r).length by rw [hLr.out]; rfl)
                  have hLk : Lx ≤ k + 1 := by omega
                  subst had
                  have hlc3 : Lx ≤ c2 := by omega
                  have hc20 : 0 < c2 := by omega
                  clear hrun hstep
                  go_wp2_with fail
                  go_quiet (fail)
                  go_wp2_with fail
                  go_quiet (fail)
                  go_wp2_with fail
                  go_roundw
                  case rel => exact ⟨k + 1, _, _, _, _, by omega, by go_num, rfl, hLk, hnL, hnx, hide (hoc.out.drewN _), hide (below_drewN hb.out _)⟩
                  case measure => simp [intOf]; omega
                · have hF := hide (termOk_stop hrun.out hu.out (hstep.out.trans (by rw [if_neg (by omega), if_neg (by rw [ha.out, hd.out]; omega)])))
                  have hne : ((a : Int) == (d : Int)) = false := by simp; omega
                  clear hstep
                  go_wp2_with fail
                  go_quiet (fail)
                  go_wp2_with fail
                  go_quiet (fail)
                  go_wp2_with fail
                  go_ret
                  exact ⟨ret_bool hF.out.symm, below_drewN (below_drewN hb.out _) _⟩
            · have hF := hide (termOk_stop hrun.out hu.out (stepT_other st hN0.out hN1.out hN2.out h3))
              clear hrun
              by_cases hu0 : u = 0
              · subst hu0
                by_cases hv0 : v < 0
                · clear hN0 hN1 hN2 h3
                  go_wp2_with fail
                  go_quiet (fail)
                  go_wp2_with fail
                  go_quiet (fail)
                  go_wp2_with fail
                  go_ret
                  exact ⟨ret_bool hF.out.symm, below_drewN (below_drewN hb.out _) _⟩
                · have hvC : C ≤ v := by have := hN0.out; omega
                  clear hN0 hN1 hN2 h3
                  go_wp2_with fail
                  go_quiet (fail)
                  go_wp2_with fail
                  go_quiet (fail)
                  go_wp2_with fail
                  go_ret
                  exact ⟨ret_bool hF.out.symm, below_drewN (below_drewN hb.out _) _⟩
              · by_cases hu1 : u = 1
                · subst hu1
                  have hvb : (v == 0) = false := by have := hN1.out; simp at this; simpa using this
                  clear hN0 hN1 hN2 h3
                  go_wp2_with fail
                  go_quiet (fail)
                  go_wp2_with fail
                  go_quiet (fail)
                  go_wp2_with fail
                  go_ret
                  exact ⟨ret_bool hF.out.symm, below_drewN (below_drewN hb.out _) _⟩
                · by_cases hu2 : u = 2
                  · subst hu2
                    have hvb : (v == 0) = false := by have := hN2.out; simp at this; simpa using this
                    clear hN0 hN1 hN2 h3
                    go_wp2_with fail
                    go_quiet (fail)
                    go_wp2_with fail
                    go_quiet (fail)
                    go_wp2_with fail
                    go_ret
                    exact ⟨ret_bool hF.out.symm, below_drewN (below_drewN hb.out _) _⟩
                  · by_cases hu3 : u = 3
                    · subst hu3
                      have hvb : (v == 0) = false := by have := h3; simp at this; simpa using this
                      clear hN0 hN1 hN2 h3
                      go_wp2_with fail
                      go_quiet (fail)
                      go_wp2_with fail
                      go_quiet (fail)
                      go_wp2_with fail
                      go_ret
                      exact ⟨ret_bool hF.out.symm, below_drewN (below_drewN hb.out _) _⟩
                    · have e0 : (u == 0) = false := by simpa using hu0
                      have e1 : (u == 1) = false := by simpa using hu1
                      have e2 : (u == 2) = false := by simpa using hu2
                      have e3 : (u == 3) = false := by simpa using hu3
                      clear hN0 hN1 hN2 h3 hu0 hu1 hu2 hu3
                      go_wp2_with fail
                      go_quiet (fail)
                      go_wp2_with fail
                      go_quiet (fail)
                      go_wp2_with fail
                      go_ret
                      exact ⟨ret_bool hF.out.symm, below_drewN (below_drewN hb.out _) _⟩
    · have hkn : k = n := by omega
      have hrun2 := hide (show runT C [] ts = some st by
        have := hrun.out
        rwa [hkn, List.take_of_length_le (by rw [hlen.out]; exact Nat.le_refl _)] at this)
      have hdef := hide (show termOk C ts = (decide (1 ≤ C ∧ C ≤ 3) && decide (n2 = 1) && decide (n ≤ 15)) by
        unfold termOk
        rw [hrun2.out, hlen.out]
        congr 2
        rw [hn2.out]
        match st with
        | [] => rfl
        | [_] => rfl
        | _ :: _ :: _ => rw [decide_eq_false (by simp)]; rfl)
      obtain rfl := hkn
      clear hrun hrun2 hn2
      by_cases hC : 1 ≤ C ∧ C ≤ 3
      · have hCd := decide_eq_true hC
        by_cases h1 : n2 = 1
        · have hne : ((n2 : Int) == 1) = true := by simp; omega
          by_cases h15 : k ≤ 15
          · go_wp2_with (go_at_call 43; (with_reducible refine (l1In_c _ _ _ _).mono ?_); rintro e w' ⟨rfl, rfl⟩)
            go_ret
            exact ⟨ret_bool (by rw [hdef.out, hCd, decide_eq_true h1, decide_eq_true h15]; simp; omega), hb.out⟩
          · go_wp2_with (go_at_call 43; (with_reducible refine (l1In_c _ _ _ _).mono ?_); rintro e w' ⟨rfl, rfl⟩)
            go_ret
            exact ⟨ret_bool (by rw [hdef.out, decide_eq_false h15, Bool.and_false]; simp; omega), hb.out⟩
        · have hne : ((n2 : Int) == 1) = false := by simp; omega
          go_wp2_with (go_at_call 43; (with_reducible refine (l1In_c _ _ _ _).mono ?_); rintro e w' ⟨rfl, rfl⟩)
          go_ret
          exact ⟨ret_bool (by rw [hdef.out, decide_eq_false h1, Bool.and_false]; rfl), hb.out⟩
      · have hCd := decide_eq_false hC
        go_wp2_with (go_at_call 43; (with_reducible refine (l1In_c _ _ _ _).mono ?_); rintro e w' ⟨rfl, rfl⟩)
        go_ret
        exact ⟨ret_bool (by rw [hdef.out, hCd]; rfl), hb.out⟩
end Go.Proofs.Ytffllkmaifjpfab

namespace Go.Proofs.Ytffllkmaifjpfab
open Go.RowKit
set_option linter.unusedVariables false

/-- What a walk over a part of two parts asks for. -/
theorem node_facts {a b2 : Tr} {K : Int} {A : Option Addr} {n c B : Nat} {w : World} (h : Marks w B A n c (flat a ++ (flat b2 ++ [(K, 0)]))) :
    ∃ (b off Lx E la La : Nat), A = some ⟨b, off, none⟩ ∧ b < B ∧ (n : Int) - 1 = (Lx : Int) ∧ (Lx : Int) - 1 = (E : Int) ∧ (la : Int) - 1 = (La : Int) ∧ Lx < n ∧ E < n ∧ La < n ∧ 0 < n ∧ 1 ≤ la ∧ la < Lx ∧ la ≤ c ∧ la < c ∧ Lx ≤ c ∧ n ≤ c ∧ n ≤ 9223372036854775807 ∧ Hid ((flat a).length = la) ∧ Hid ((flat b2).length = Lx - la) ∧
      w.cell? ⟨b, off + Lx * 2, none⟩ = some (.int .i64 K) ∧ w.cell? ⟨b, off + Lx * 2 + 1, none⟩ = some (.int .i64 0) ∧ w.cell? ⟨b, off + E * 2, none⟩ = some (.int .i64 (lastK b2)) ∧ w.cell? ⟨b, off + La * 2, none⟩ = some (.int .i64 (lastK a)) ∧
      Hid (Marks w B (some ⟨b, off, none⟩) la c (flat a)) ∧ Hid (Marks w B (some ⟨b, off + la * 2, none⟩) (Lx - la) (c - la) (flat b2)) ∧
      Hid (Calls Try.prog 83 #[.slice A n c, .int .i64 (E : Int)] w fun e w' => e = .returned (.int .i64 (la : Int)) ∧ w = w') := by
  have hlen := h.len
  have hnb := h.nb
  have hle := h.le
  rw [flat_len2] at hlen
  have pa := flat_pos a
  have pb := flat_pos b2
  obtain ⟨E, hE⟩ : ∃ E : Nat, E + 2 = n := ⟨n - 2, by omega⟩
  obtain ⟨Lx, hLx⟩ : ∃ L : Nat, L + 1 = n := ⟨n - 1, by omega⟩
  obtain ⟨la, hla⟩ : ∃ la : Nat, (flat a).length = la := ⟨_, rfl⟩
  have hab : (flat a ++ flat b2).length = Lx := by simp; omega
  have HS := l9Starts_c A n c B _ (flat a) b2 E w h (by omega) (by
    rw [show E + 1 = (flat a ++ flat b2).length by omega, ← List.append_assoc, List.take_left])
  have hta := h.takeS (h := (flat a).length) (by omega)
  rw [List.take_left] at hta
  obtain ⟨b, off, e, hbB, hcells⟩ := h.cells (by omega)
  subst e
  have htb := (h.takeS (h := Lx) (by omega)).dropS (h := (flat a).length) (by omega)
  rw [← hab, ← List.append_assoc, List.take_left, List.drop_left, hab] at htb
  rw [hla] at HS hta htb
  obtain ⟨p1, y1, e1⟩ := flat_last a
  obtain ⟨p2, y2, e2⟩ := flat_last b2
  have k1 := hcells Lx (K, 0) (by
    rw [← List.append_assoc, List.getElem?_append_right (by omega), show Lx - (flat a ++ flat b2).length = 0 by omega]; rfl)
  have k2 := hcells E (lastK b2, y2) (by
    have hp : p2.length + 1 = (flat b2).length := by rw [e2]; simp
    rw [e2, List.getElem?_append_right (by omega), List.append_assoc, List.getElem?_append_right (by omega), show E - (flat a).length - p2.length = 0 by omega]; rfl)
  have k3 := hcells (la - 1) (lastK a, y1) (by
    have hp : p1.length + 1 = (flat a).length := by rw [e1]; simp
    rw [List.getElem?_append_left (by omega), e1, List.getElem?_append_right (by omega), show la - 1 - p1.length = 0 by omega]; rfl)
  exact ⟨b, off, Lx, E, la, la - 1, rfl, hbB, by omega, by omega, by omega, by omega, by omega, by omega, by omega, by omega, by omega, by omega, by omega, by omega, hle, hnb, hla, by show (flat b2).length = Lx - la; omega, k1.1, k1.2, k2.1, k3.1, hta, htb, HS⟩

set_option maxHeartbeats 800000 in
theorem lengthOf_spec (C : Int) (A : Option Addr) (n c B : Nat) (ts : List Mk) (w : World) (h : Marks w B A n c ts) (hB : B ≤ w.heap.size) (hn20 : n ≤ 1048576) :
    Calls Try.prog 16 #[.int .i64 C, .slice A n c] w fun e w' => e = .returned (.int .i64 (lenT C ts)) ∧ Below w.heap.size w w' := by
  have HT := hide (termOk_spec C A n c B ts w h hB hn20)
  cases hok : termOk C ts with
  | true =>
    obtain ⟨_, _, _, x, hx⟩ := termOk_yes hok
    have he := hide (lenT_in hok hx)
    rw [hok] at HT
    have hgd := hx.1
    have hfl := hide hx.2
    rw [← hfl.out] at h
    have HL := hide (fun (w1 : World) (hq : Below w.heap.size w w1) => l9Length_c x hgd A n c B w1 (h.below (hq.mono hB)))
    clear hok hx
    go_enter Try.func16, Try.ntmps16
    go_wp2_with fail
    refine HT.out.mono ?_
    rintro e w1 ⟨rfl, hq⟩
    have hq := hide hq
    go_wp2_with fail
    refine (HL.out w1 hq.out).mono ?_
    rintro e w2 ⟨rfl, q, rfl⟩
    go_wp2_with fail
    go_ret
    exact ⟨ret_int he.out.symm, below_drewN hq.out _⟩
  | false =>
    have he := hide (lenT_out hok)
    rw [hok] at HT
    clear hok
    go_enter Try.func16, Try.ntmps16
    go_wp2_with fail
    refine HT.out.mono ?_
    rintro e w1 ⟨rfl, hq⟩
    have hq := hide hq
    go_wp2_with fail
    go_ret
    exact ⟨ret_int he.out.symm, hq.out⟩

theorem one_word {ws : List Int} (h : ws.length = 1) : ∃ y, ws = [y] := by
  match ws, h with
  | [y], _ => exact ⟨y, rfl⟩

set_option maxRecDepth 100000 in
set_option maxHeartbeats 3200000 in
theorem l9Fits_c {C : Int} : ∀ (x : Tr), good C x = true → ∀ (A : Option Addr) (n c B : Nat) (A2 : Option Addr) (m c2 B2 : Nat) (ws : List Int) (w : World), Marks w B A n c (flat x) → Ints w B2 A2 m c2 ws →
    Calls Try.prog 53 #[.slice A n c, .slice A2 m c2] w fun e w' => e = .returned (.bool (fitsT x ws)) ∧ ∃ q, w' = w.drewN q
  | .col cc, hg, A, n, c, B, A2, m, c2, B2, ws, w, h, h2 => by
    obtain rfl : 1 = n := h.len
    obtain ⟨b, off, u, v, rfl, hbB, hu, hc1, hc2⟩ := h.look (show 0 < 1 by omega)
    have e1 := hu.out
    simp only [flat, List.getElem?_cons_zero, Option.some.injEq, Prod.mk.injEq] at e1
    obtain ⟨rfl, rfl⟩ := e1
    rw [Nat.zero_mul, Nat.add_zero] at hc1 hc2
    have hn1 : ((1 : Nat) : Int) - 1 = 0 := rfl
    have hl2 := h2.len
    have hnb := h2.nb
    by_cases hm : m = 1
    · subst hm
      obtain ⟨b', off', y, rfl, hb', hy, hcy⟩ := h2.look (show 0 < 1 by omega)
      rw [Nat.add_zero] at hcy
      obtain ⟨y', rfl⟩ := one_word hl2
      have e2 := hy.out
      simp only [List.getElem?_cons_zero, Option.some.injEq] at e2
      subst e2
      by_cases hyc : y' = (cc : Int)
      · subst hyc
        have hF := hide (show fitsT (.col cc) [(cc : Int)] = true from decide_eq_true rfl)
        go_enter Try.func53, Try.ntmps53
        go_wp2_with fail
        go_quiet (fail)
        go_wp2
        go_ret
        exact ⟨ret_bool hF.out.symm, _, rfl⟩
      · have hF := hide (show fitsT (.col cc) [y'] = false from decide_eq_false (by simpa using hyc))
        have hyb : (y' == (cc : Int)) = false := by simpa using hyc
        clear hyc
        go_enter Try.func53, Try.ntmps53
        go_wp2_with fail
        go_quiet (fail)
        go_wp2
        go_ret
        exact ⟨ret_bool hF.out.symm, _, rfl⟩
    · have hF := hide (show fitsT (.col cc) ws = false from decide_eq_false (fun e => hm (by rw [← hl2, e]; rfl)))
      have hmb : ((m : Int) == 1) = false := by simp; omega
      go_enter Try.func53, Try.ntmps53
      go_wp2_with fail
      go_quiet (fail)
      go_wp2
      go_ret
      exact ⟨ret_bool hF.out.symm, _, rfl⟩
  | .any, hg, A, n, c, B, A2, m, c2, B2, ws, w, h, h2 => by
    obtain rfl : 1 = n := h.len
    obtain ⟨b, off, u, v, rfl, hbB, hu, hc1, hc2⟩ := h.look (show 0 < 1 by omega)
    have e1 := hu.out
    simp only [flat, List.getElem?_cons_zero, Option.some.injEq, Prod.mk.injEq] at e1
    obtain ⟨rfl, rfl⟩ := e1
    rw [Nat.zero_mul, Nat.add_zero] at hc1 hc2
    have hn1 : ((1 : Nat) : Int) - 1 = 0 := rfl
    have hl2 := h2.len
    have hnb := h2.nb
    by_cases hm : m = 1
    · subst hm
      have hF := hide (show fitsT .any ws = true from decide_eq_true hl2)
      go_enter Try.func53, Try.ntmps53
      go_wp2
      go_ret
      exact ⟨ret_bool (by rw [hF.out]), 0, rfl⟩
    · have hF := hide (show fitsT .any ws = false from decide_eq_false (by omega))
      have hmb : ((m : Int) == 1) = false := by simp; omega
      go_enter Try.func53, Try.ntmps53
      go_wp2
      go_ret
      exact ⟨ret_bool (by rw [hF.out]), 0, rfl⟩
  | .alt a b2, hg, A, n, c, B, A2, m, c2, B2, ws, w, h, h2 => by
    have hgg : good C a = true ∧ good C b2 = true := by simp only [good, Bool.and_eq_true] at hg; exact ⟨hg.1.1, hg.1.2⟩
    obtain ⟨b, off, Lx, E, la, La, rfl, hbB, hL, hEI, _, hLn, hEn, _, hn0, hla1, hlL, hlc, hlcc, hLc, hnc, hnb, _, _, hcK, hc0, _, _, hta, htb, HS⟩ := node_facts (K := 3) h
    have HR := hide (l9Fits_c a hgg.1 (some ⟨b, off, none⟩) la c B A2 m c2 B2 ws w hta.out h2)
    have HQ := hide (fun q => l9Fits_c b2 hgg.2 (some ⟨b, off + la * 2, none⟩) (Lx - la) (c - la) B A2 m c2 B2 ws (w.drewN q) (htb.out.drewN q) (h2.drewN q))
    have hF : fitsT (.alt a b2) ws = (fitsT a ws || fitsT b2 ws) := rfl
    rw [hF]
    obtain ⟨p, hp⟩ : ∃ p, Hid (fitsT a ws = p) := ⟨_, hide rfl⟩
    obtain ⟨r, hr⟩ : ∃ r, Hid (fitsT b2 ws = r) := ⟨_, hide rfl⟩
    rw [hp.out] at HR ⊢
    rw [hr.out] at HQ ⊢
    cases p with
    | true =>
      go_enter Try.func53, Try.ntmps53
      go_wp2_with (first | (go_at_call 83; refine (HS.out).mono ?_; rintro e w' ⟨rfl, rfl⟩) | (go_at_call 53; with_reducible refine (HR.out).mono ?_; rintro e w' ⟨rfl, q, rfl⟩))
      go_ret
      exact ⟨by rfl, _, rfl⟩
    | false =>
      rw [Bool.false_or]
      go_enter Try.func53, Try.ntmps53
      go_wp2_with (first | (go_at_call 83; refine (HS.out).mono ?_; rintro e w' ⟨rfl, rfl⟩) | (go_at_call 53; with_reducible refine (HR.out).mono ?_; rintro e w' ⟨rfl, q, rfl⟩) | (go_at_call 53; with_reducible refine (HQ.out _).mono ?_; rintro e w' ⟨rfl, q', rfl⟩))
      go_ret
      exact ⟨by rfl, _, rfl⟩
  | .thn a b2, hg, A, n, c, B, A2, m, c2, B2, ws, w, h, h2 => by
    have hgg : good C a = true ∧ good C b2 = true ∧ ln a ≤ 6 := by simp only [good, Bool.and_eq_true] at hg; exact ⟨hg.1.1, hg.1.2, ln_le a hg.1.1⟩
    obtain ⟨b, off, Lx, E, la, La, rfl, hbB, hL, hEI, _, hLn, hEn, _, hn0, hla1, hlL, hlc, hlcc, hLc, hnc, hnb, _, _, hcK, hc0, _, _, hta, htb, HS⟩ := node_facts (K := 2) h
    have HL := hide (l9Length_c a hgg.1 (some ⟨b, off, none⟩) la c B w hta.out)
    have hl1 := ln_pos a
    have hm := h2.len
    have hmb := h2.nb
    have hmc := h2.le
    have hF : fitsT (.thn a b2) ws = (decide (ln a ≤ ws.length) && fitsT a (ws.take (ln a)) && fitsT b2 (ws.drop (ln a))) := rfl
    rw [hF, hm]
    have hl6 := hgg.2.2
    by_cases hlm : ln a ≤ m
    · rw [decide_eq_true hlm, Bool.true_and]
      obtain ⟨g, o2, e2, hgB, _⟩ := h2.cells (by omega)
      subst e2
      have hw1 := hide (fun q => (h2.takeS hlm).drewN q)
      have hw2 : ∃ A3 : Option Addr, Hid ((if c2 = ln a then some (⟨g, o2, none⟩ : Addr) else some ⟨g, o2 + ln a, none⟩) = A3) ∧ Hid (∀ q, Ints (w.drewN q) B2 A3 (m - ln a) (c2 - ln a) (ws.drop (ln a))) := by
        by_cases hcl : c2 = ln a
        · refine ⟨some ⟨g, o2, none⟩, if_pos hcl, fun q => ?_⟩
          have e0 : m - ln a = 0 := by omega
          have e1 : ws.drop (ln a) = [] := List.drop_of_length_le (by omega)
          rw [e0, e1]
          exact Ints.emptyS (by have := h2.big; omega) (fun e => by cases e)
        · exact ⟨some ⟨g, o2 + ln a, none⟩, if_neg hcl, fun q => (h2.dropS hlm).drewN q⟩
      obtain ⟨A3, hA3, hw2⟩ := hw2
      have HR := hide (fun q => l9Fits_c a hgg.1 (some ⟨b, off, none⟩) la c B (some ⟨g, o2, none⟩) (ln a) c2 B2 (ws.take (ln a)) (w.drewN q) (hta.out.drewN q) (hw1.out q))
      have HQ := hide (fun q => l9Fits_c b2 hgg.2.1 (some ⟨b, off + la * 2, none⟩) (Lx - la) (c - la) B A3 (m - ln a) (c2 - ln a) B2 (ws.drop (ln a)) (w.drewN q) (htb.out.drewN q) (hw2.out q))
      obtain ⟨p, hp⟩ : ∃ p, Hid (fitsT a (ws.take (ln a)) = p) := ⟨_, hide rfl⟩
      obtain ⟨r, hr⟩ : ∃ r, Hid (fitsT b2 (ws.drop (ln a)) = r) := ⟨_, hide rfl⟩
      rw [hp.out] at HR ⊢
      rw [hr.out] at HQ ⊢
      obtain ⟨L, hLl⟩ : ∃ L, Hid (ln a = L) := ⟨_, hide rfl⟩
      rw [hLl.out] at HR HQ HL hA3 hlm hl1 hl6
      have hge : decide ((L : Int) ≤ (m : Int)) = true := decide_eq_true (by omega)
      have hLc2 : L ≤ c2 := by omega
      cases p with
      | false =>
        go_enter Try.func53, Try.ntmps53
        go_wp2_with (first | (go_at_call 83; refine (HS.out).mono ?_; rintro e w' ⟨rfl, rfl⟩) | (go_at_call 47; refine (HL.out).mono ?_; rintro e w' ⟨rfl, q, rfl⟩))
        clear hL hEI
        go_quiet (first | (go_at_call 53; with_reducible exact qd2 (HR.out _)) | (go_at_call 53; with_reducible exact qd1 (HR.out _)) | (go_at_call 53; with_reducible exact qd2 (HQ.out _)) | (go_at_call 53; with_reducible exact qd1 (HQ.out _)))
        go_wp2
        go_ret
        exact ⟨by rfl, _, by first | rfl | exact World.drewN_drewN _ _ _⟩
      | true =>
        rw [Bool.true_and]
        rw [← hA3.out] at HQ
        go_enter Try.func53, Try.ntmps53
        go_wp2_with (first | (go_at_call 83; refine (HS.out).mono ?_; rintro e w' ⟨rfl, rfl⟩) | (go_at_call 47; refine (HL.out).mono ?_; rintro e w' ⟨rfl, q, rfl⟩))
        clear hL hEI
        go_quiet (first | (go_at_call 53; with_reducible exact qd2 (HR.out _)) | (go_at_call 53; with_reducible exact qd1 (HR.out _)) | (go_at_call 53; with_reducible exact qd2 (HQ.out _)) | (go_at_call 53; with_reducible exact qd1 (HQ.out _)))
        go_wp2
        all_goals
          go_ret
          exact ⟨by rfl, _, by first | rfl | exact World.drewN_drewN _ _ _⟩
    · have hF2 := hide (show (decide (ln a ≤ m) && fitsT a (ws.take (ln a)) && fitsT b2 (ws.drop (ln a))) = false by rw [decide_eq_false hlm]; rfl)
      have hge : decide ((ln a : Int) ≤ (m : Int)) = false := decide_eq_false (by omega)
      go_enter Try.func53, Try.ntmps53
      go_wp2_with (first | (go_at_call 83; refine (HS.out).mono ?_; rintro e w' ⟨rfl, rfl⟩) | (go_at_call 47; refine (HL.out).mono ?_; rintro e w' ⟨rfl, q, rfl⟩))
      clear hL hEI
      go_quiet (fail)
      go_wp2
      go_ret
      exact ⟨ret_bool hF2.out.symm, _, World.drewN_drewN _ _ _⟩

def fitsW (C : Int) (ts : List Mk) (ws : List Int) : Bool := wordOk C ws && (match treeOf C ts with
  | some x => fitsT x ws
  | none => false)
theorem fitsW_in {C : Int} {ts : List Mk} {ws : List Int} {x : Tr} (h : termOk C ts = true) (hx : Is C ts x) : fitsW C ts ws = (wordOk C ws && fitsT x ws) := by unfold fitsW; rw [treeOf_in h hx]
theorem fitsW_out {C : Int} {ts : List Mk} (ws : List Int) (h : termOk C ts = false) : fitsW C ts ws = false := by unfold fitsW; rw [treeOf_out h, Bool.and_false]

set_option maxHeartbeats 800000 in
theorem fitsOk_spec (C : Int) (A : Option Addr) (n c B : Nat) (A2 : Option Addr) (m c2 B2 : Nat) (ts : List Mk) (ws : List Int) (w : World) (h : Marks w B A n c ts) (h2 : Ints w B2 A2 m c2 ws) (hB : B ≤ w.heap.size) (hB2 : B2 ≤ w.heap.size) (hn20 : n ≤ 1048576) :
    Calls Try.prog 24 #[.int .i64 C, .slice A n c, .slice A2 m c2] w fun e w' => e = .returned (.bool (fitsW C ts ws)) ∧ Below w.heap.size w w' := by
  have HT := hide (termOk_spec C A n c B ts w h hB hn20)
  cases hok : termOk C ts with
  | true =>
    obtain ⟨_, _, _, x, hx⟩ := termOk_yes hok
    have he := hide (fitsW_in (ws := ws) hok hx)
    rw [hok] at HT
    have hgd := hx.1
    have hfl := hide hx.2
    rw [← hfl.out] at h
    have HL := hide (fun (w1 : World) (hq : Below w.heap.size w w1) => l9Fits_c x hgd A n c B A2 m c2 B2 ws w1 (h.below (hq.mono hB)) (h2.below (hq.mono hB2)))
    have HW := hide (fun (w1 : World) (hq : Below w.heap.size w w1) => wordOk_spec C _ _ _ _ ws w1 (h2.below (hq.mono hB2)))
    clear hok hx
    rw [he.out]
    obtain ⟨p, hp⟩ : ∃ p, Hid (wordOk C ws = p) := ⟨_, hide rfl⟩
    obtain ⟨r, hr⟩ : ∃ r, Hid (fitsT x ws = r) := ⟨_, hide rfl⟩
    rw [hp.out] at HW ⊢
    rw [hr.out] at HL ⊢
    cases p with
    | true =>
      go_enter Try.func24, Try.ntmps24
      go_wp2_with fail
      refine HT.out.mono ?_
      rintro e w1 ⟨rfl, hq⟩
      have hq := hide hq
      go_wp2_with fail
      refine (HW.out w1 hq.out).mono ?_
      rintro e w2 ⟨rfl, rfl⟩
      go_wp2_with fail
      refine (HL.out w1 hq.out).mono ?_
      rintro e w2 ⟨rfl, q, rfl⟩
      go_wp2_with fail
      go_ret
      exact ⟨by rfl, below_drewN hq.out _⟩
    | false =>
      go_enter Try.func24, Try.ntmps24
      go_wp2_with fail
      refine HT.out.mono ?_
      rintro e w1 ⟨rfl, hq⟩
      have hq := hide hq
      go_wp2_with fail
      refine (HW.out w1 hq.out).mono ?_
      rintro e w2 ⟨rfl, rfl⟩
      go_wp2_with fail
      go_ret
      exact ⟨by rfl, hq.out⟩
  | false =>
    have he := hide (fitsW_out ws hok)
    rw [hok] at HT
    clear hok
    go_enter Try.func24, Try.ntmps24
    go_wp2_with fail
    refine HT.out.mono ?_
    rintro e w1 ⟨rfl, hq⟩
    have hq := hide hq
    go_wp2_with fail
    go_ret
    exact ⟨ret_bool he.out.symm, hq.out⟩
end Go.Proofs.Ytffllkmaifjpfab

namespace Go.Proofs.Ytffllkmaifjpfab
open Go.RowKit
set_option linter.unusedVariables false

theorem infoMark_parts : ∃ i, Try.prog.info? 57 = some i ∧ i.zero = some (.agg #[.int .i64 0, .int .i64 0]) ∧ i.size = 2 ∧ i.bytes = 16 := by
  have h := infoMark
  cases hi : Try.prog.info? 57 with
  | none => rw [hi] at h; cases h
  | some i =>
    rw [hi] at h
    injection h with h
    injection h with h1 h2
    injection h2 with h2 h3
    exact ⟨i, rfl, h1, h2, h3⟩

set_option maxRecDepth 100000 in
set_option maxHeartbeats 3200000 in
theorem l9Back_c : ∀ (x : Tr) (A : Option Addr) (n c B : Nat) (w : World), Marks w B A n c (flat x) → B ≤ w.heap.size → n ≤ 1048576 →
    Calls Try.prog 66 #[.slice A n c] w fun e w' => ∃ A' n' c', e = .returned (.slice A' n' c') ∧ OwnK w' w.heap.size (.slice A' n' c') (flat (back x)) ∧ Below w.heap.size w w'
  | .col cc, A, n, c, B, w, h, hB, hn20 => by
    obtain ⟨i1, hi, hz0, hz1, hz2⟩ := infoMark_parts
    obtain rfl : 1 = n := h.len
    obtain ⟨b, off, u, v, rfl, hbB, hu, hc1, hc2⟩ := h.look (show 0 < 1 by omega)
    have e1 := hu.out
    simp only [flat, List.getElem?_cons_zero, Option.some.injEq, Prod.mk.injEq] at e1
    obtain ⟨rfl, rfl⟩ := e1
    rw [Nat.zero_mul, Nat.add_zero] at hc1 hc2
    have hn1 : ((1 : Nat) : Int) - 1 = 0 := rfl
    go_enter Try.func66, Try.ntmps66
    go_wp2_with (at_builtin; refine wpList_appK _ rfl _ _ 25 rfl i1 Try.underlying25 hi hz0 hz1 hz2 _ [] rfl (ownK_empty (Nat.le_refl _)) _ 1 c B (flat (.col cc)) rfl (h.alloc hB _) (by simp) (by simp) ?_; intro A₃ n₃ c₃ w3 ho3 hg3)
    go_ret
    exact ⟨_, _, _, rfl, ho3, ((Below.refl _ _).alloc (Nat.le_refl _) _).grown hg3 (by simp) (fun j hj => ((ownK_empty (w := w) (Nat.le_refl _)).row.lt j hj).1)⟩
  | .any, A, n, c, B, w, h, hB, hn20 => by
    obtain ⟨i1, hi, hz0, hz1, hz2⟩ := infoMark_parts
    obtain rfl : 1 = n := h.len
    obtain ⟨b, off, u, v, rfl, hbB, hu, hc1, hc2⟩ := h.look (show 0 < 1 by omega)
    have e1 := hu.out
    simp only [flat, List.getElem?_cons_zero, Option.some.injEq, Prod.mk.injEq] at e1
    obtain ⟨rfl, rfl⟩ := e1
    rw [Nat.zero_mul, Nat.add_zero] at hc1 hc2
    have hn1 : ((1 : Nat) : Int) - 1 = 0 := rfl
    go_enter Try.func66, Try.ntmps66
    go_wp2_with (at_builtin; refine wpList_appK _ rfl _ _ 25 rfl i1 Try.underlying25 hi hz0 hz1 hz2 _ [] rfl (ownK_empty (Nat.le_refl _)) _ 1 c B (flat .any) rfl (h.alloc hB _) (by simp) (by simp) ?_; intro A₃ n₃ c₃ w3 ho3 hg3)
    go_ret
    exact ⟨_, _, _, rfl, ho3, ((Below.refl _ _).alloc (Nat.le_refl _) _).grown hg3 (by simp) (fun j hj => ((ownK_empty (w := w) (Nat.le_refl _)).row.lt j hj).1)⟩
  | .alt a b2, A, n, c, B, w, h, hB, hn20 => by
    obtain ⟨i1, hi, hz0, hz1, hz2⟩ := infoMark_parts
    have hn := h.len
    obtain ⟨b, off, Lx, E, la, La, rfl, hbB, hL, hEI, _, hLn, hEn, _, hn0, hla1, hlL, hlc, hlcc, hLc, hnc, hnb, hlA, hlB, hcK, hc0, _, _, hta, htb, HS⟩ := node_facts (K := 3) h
    have HR := hide (l9Back_c a (some ⟨b, off, none⟩) la c B w hta.out hB (by omega))
    have HQ := hide (fun (w1 : World) (hq : Below w.heap.size w w1) => l9Back_c b2 (some ⟨b, off + la * 2, none⟩) (Lx - la) (c - la) B w1 (htb.out.below (hq.mono hB)) (Nat.le_trans hB hq.size) (by omega))
    have hcl : ¬ c = la := by omega
    have hw2 := wf_i64 (z := 3) (by omega)
    have hw0 := wf_i64 (z := 0) (by omega)
    go_enter Try.func66, Try.ntmps66
    go_wp2_with (go_at_call 83; refine (HS.out).mono ?_; rintro e w' ⟨rfl, rfl⟩)
    refine HR.out.mono ?_
    rintro e w1 ⟨A1, n1, c1, rfl, ho1, hq1⟩
    have hq1 := hide hq1
    have ho1 := hide ho1
    go_wp2_with fail
    refine (HQ.out w1 hq1.out).mono ?_
    rintro e w2 ⟨A2, n2, c2, rfl, ho2, hq2⟩
    have hq2 := hide hq2
    have hs1 := hq1.out.size
    have hs2 := hq2.out.size
    replace ho1 := hide (ho1.out.up hq2.out)
    have hq := hide (upB hq1.out hq2.out)
    have hbw : b < w.heap.size := by omega
    have hcK2 : w2.cell? ⟨b, off + Lx * 2, none⟩ = some (.int .i64 3) := (hq.out.cell (p := ⟨b, off + Lx * 2, none⟩) hbw).trans hcK
    have hc02 : w2.cell? ⟨b, off + Lx * 2 + 1, none⟩ = some (.int .i64 0) := (hq.out.cell (p := ⟨b, off + Lx * 2 + 1, none⟩) hbw).trans hc0
    have hlen1 : n1 = la := by rw [ho1.out.len, back_len, hlA.out]
    have hlen2 : n2 = Lx - la := by have := hlB.out; rw [(hide ho2).out.len, back_len]; omega
    subst hlen1
    subst hlen2
    have ho2 := hide ho2
    have hm2 := hide ho2.out.marks
    have hsz1 : (flat (back a)).length + (Lx - n1) ≤ 1048576000 := by have := hlA.out; rw [back_len]; omega
    have hsz2 : (flat (back a) ++ flat (back b2)).length + 1 ≤ 1048576000 := by have := hlA.out; have := hlB.out; rw [List.length_append, back_len, back_len]; omega
    have hcK1 := hide hcK
    have hc01 := hide hc0
    have hs12 := Nat.le_trans hs1 hs2
    have hsa : ((w2.alloc (.cells #[.int .i64 3, .int .i64 0] 57)).drew).heap.size = w2.heap.size + 1 := by simp
    have hs2a : w1.heap.size ≤ ((w2.alloc (.cells #[.int .i64 3, .int .i64 0] 57)).drew).heap.size := by rw [hsa]; omega
    have hs12a : w.heap.size ≤ ((w2.alloc (.cells #[.int .i64 3, .int .i64 0] 57)).drew).heap.size := by rw [hsa]; omega
    have hl2a : w2.heap.size < ((w2.alloc (.cells #[.int .i64 3, .int .i64 0] 57)).drew).heap.size := by rw [hsa]; omega
    have hlit := hide ((marks_lit1 (w := w2) hw2 hw0).drew)
    replace hsa := hide hsa
    clear HR HQ HS hcK hc0
    go_wp2_with fail
    go_region_law (first
      | (refine step_appK _ rfl _ _ 25 rfl i1 Try.underlying25 hi hz0 hz1 hz2 _ (flat (back a)) rfl ho1.out.drew _ (Lx - n1) c2 _ (flat (back b2)) rfl hm2.out.drew hs12 hsz1 ?_; intro A₃ n₃ c₃ w3 ho3 hg3; have hb3 := hide (hq.out.drew.grown hg3 hs12 (fun j hj => (ho1.out.row.lt j hj).1)); have hcK3 := (hb3.out.cell (p := ⟨b, off + Lx * 2, none⟩) hbw).trans hcK1.out; have hc03 := (hb3.out.cell (p := ⟨b, off + Lx * 2 + 1, none⟩) hbw).trans hc01.out; have hs3 : w2.heap.size ≤ w3.heap.size := hg3.size; have hs3b : w1.heap.size ≤ (w3.alloc (.cells #[.int .i64 3, .int .i64 0] 57)).heap.size := (by simp; omega); have hs3c : w.heap.size ≤ (w3.alloc (.cells #[.int .i64 3, .int .i64 0] 57)).heap.size := Nat.le_trans hs1 hs3b; replace ho3 := hide ho3; clear hg3)
      | (refine step_appK _ rfl _ _ 25 rfl i1 Try.underlying25 hi hz0 hz1 hz2 _ (flat (back a)) rfl (ho1.out.alloc _).drew _ (Lx - n1) c2 _ (flat (back b2)) rfl (hm2.out.alloc (Nat.le_refl _) _).drew hs12a hsz1 ?_; intro A₃ n₃ c₃ w3 ho3 hg3; have hb3 := hide ((hq.out.alloc hs12 (.cells #[.int .i64 3, .int .i64 0] 57)).drew.grown hg3 hs12a (fun j hj => (ho1.out.row.lt j hj).1)); have hml := hide (Marks.beside (hlit.out) hl2a hg3 (fun k hk => by have := (ho1.out.row.lt k hk).2; omega)); have hs3 : w2.heap.size + 1 ≤ w3.heap.size := (by have := hg3.size; rw [hsa.out] at this; exact this); have hs3b : w1.heap.size ≤ w3.heap.size := (by omega); have hs3c : w.heap.size ≤ w3.heap.size := Nat.le_trans hs1 hs3b; replace ho3 := hide ho3; clear hg3)
      | (refine step_appK _ rfl _ _ 25 rfl i1 Try.underlying25 hi hz0 hz1 hz2 _ _ rfl (ho3.out.alloc _) _ 1 1 _ [(3, 0)] rfl (marks_lit1 hw2 hw0) hs3c hsz2 ?_; intro A₄ n₄ c₄ w4 ho4 hg4; have hb4 := hide ((hb3.out.alloc hb3.out.size (.cells #[.int .i64 3, .int .i64 0] 57)).grown hg4 hs3c (fun j hj => (ho3.out.row.lt j hj).1)); replace ho4 := hide ho4; clear hg4)
      | (refine step_appK _ rfl _ _ 25 rfl i1 Try.underlying25 hi hz0 hz1 hz2 _ _ rfl ho3.out _ 1 1 _ [(3, 0)] rfl hml.out hs3c hsz2 ?_; intro A₄ n₄ c₄ w4 ho4 hg4; have hb4 := hide (hb3.out.grown hg4 hs3c (fun j hj => (ho3.out.row.lt j hj).1)); replace ho4 := hide ho4; clear hg4))
    all_goals
      go_wp2
      go_ret
      exact ⟨_, _, _, rfl, by have := ho4.out; simpa [back, flat] using this, hb4.out⟩
  | .thn a b2, A, n, c, B, w, h, hB, hn20 => by
    obtain ⟨i1, hi, hz0, hz1, hz2⟩ := infoMark_parts
    have hn := h.len
    obtain ⟨b, off, Lx, E, la, La, rfl, hbB, hL, hEI, _, hLn, hEn, _, hn0, hla1, hlL, hlc, hlcc, hLc, hnc, hnb, hlA, hlB, hcK, hc0, _, _, hta, htb, HS⟩ := node_facts (K := 2) h
    have HR := hide (l9Back_c a (some ⟨b, off, none⟩) la c B w hta.out hB (by omega))
    have HQ := hide (fun (w1 : World) (hq : Below w.heap.size w w1) => l9Back_c b2 (some ⟨b, off + la * 2, none⟩) (Lx - la) (c - la) B w1 (htb.out.below (hq.mono hB)) (Nat.le_trans hB hq.size) (by omega))
    have hcl : ¬ c = la := by omega
    have hw2 := wf_i64 (z := 2) (by omega)
    have hw0 := wf_i64 (z := 0) (by omega)
    go_enter Try.func66, Try.ntmps66
    go_wp2_with (go_at_call 83; refine (HS.out).mono ?_; rintro e w' ⟨rfl, rfl⟩)
    refine HR.out.mono ?_
    rintro e w1 ⟨A1, n1, c1, rfl, ho1, hq1⟩
    have hq1 := hide hq1
    have ho1 := hide ho1
    go_wp2_with fail
    refine (HQ.out w1 hq1.out).mono ?_
    rintro e w2 ⟨A2, n2, c2, rfl, ho2, hq2⟩
    have hq2 := hide hq2
    have hs1 := hq1.out.size
    have hs2 := hq2.out.size
    replace ho1 := hide (ho1.out.up hq2.out)
    have hq := hide (upB hq1.out hq2.out)
    have hbw : b < w.heap.size := by omega
    have hcK2 : w2.cell? ⟨b, off + Lx * 2, none⟩ = some (.int .i64 2) := (hq.out.cell (p := ⟨b, off + Lx * 2, none⟩) hbw).trans hcK
    have hc02 : w2.cell? ⟨b, off + Lx * 2 + 1, none⟩ = some (.int .i64 0) := (hq.out.cell (p := ⟨b, off + Lx * 2 + 1, none⟩) hbw).trans hc0
    have hlen1 : n1 = la := by rw [ho1.out.len, back_len, hlA.out]
    have hlen2 : n2 = Lx - la := by have := hlB.out; rw [(hide ho2).out.len, back_len]; omega
    subst hlen1
    subst hlen2
    have ho2 := hide ho2
    have hm2 := hide ho1.out.marks
    have hsz1 : (flat (back b2)).length + n1 ≤ 1048576000 := by have := hlB.out; rw [back_len]; omega
    have hsz2 : (flat (back b2) ++ flat (back a)).length + 1 ≤ 1048576000 := by have := hlA.out; have := hlB.out; rw [List.length_append, back_len, back_len]; omega
    have hcK1 := hide hcK
    have hc01 := hide hc0
    have hs12 := Nat.le_trans hs1 hs2
    have hsa : ((w2.alloc (.cells #[.int .i64 2, .int .i64 0] 57)).drew).heap.size = w2.heap.size + 1 := by simp
    have hs2a : w1.heap.size ≤ ((w2.alloc (.cells #[.int .i64 2, .int .i64 0] 57)).drew).heap.size := by rw [hsa]; omega
    have hs12a : w.heap.size ≤ ((w2.alloc (.cells #[.int .i64 2, .int .i64 0] 57)).drew).heap.size := by rw [hsa]; omega
    have hl2a : w2.heap.size < ((w2.alloc (.cells #[.int .i64 2, .int .i64 0] 57)).drew).heap.size := by rw [hsa]; omega
    have hlit := hide ((marks_lit1 (w := w2) hw2 hw0).drew)
    replace hsa := hide hsa
    clear HR HQ HS hcK hc0
    go_wp2_with fail
    go_region_law (first
      | (refine step_appK _ rfl _ _ 25 rfl i1 Try.underlying25 hi hz0 hz1 hz2 _ (flat (back b2)) rfl ho2.out.drew _ n1 c1 _ (flat (back a)) rfl hm2.out.drew hs2 hsz1 ?_; intro A₃ n₃ c₃ w3 ho3 hg3; have hb3 := hide (hq.out.drew.grown hg3 hs12 (fun j hj => Nat.le_trans hs1 (ho2.out.row.lt j hj).1)); have hcK3 := (hb3.out.cell (p := ⟨b, off + Lx * 2, none⟩) hbw).trans hcK1.out; have hc03 := (hb3.out.cell (p := ⟨b, off + Lx * 2 + 1, none⟩) hbw).trans hc01.out; have hs3 : w2.heap.size ≤ w3.heap.size := hg3.size; have hs3b : w1.heap.size ≤ (w3.alloc (.cells #[.int .i64 2, .int .i64 0] 57)).heap.size := (by simp; omega); have hs3c : w.heap.size ≤ (w3.alloc (.cells #[.int .i64 2, .int .i64 0] 57)).heap.size := Nat.le_trans hs1 hs3b; replace ho3 := hide ho3; clear hg3)
      | (refine step_appK _ rfl _ _ 25 rfl i1 Try.underlying25 hi hz0 hz1 hz2 _ (flat (back b2)) rfl (ho2.out.alloc _).drew _ n1 c1 _ (flat (back a)) rfl (hm2.out.alloc (Nat.le_refl _) _).drew hs2a hsz1 ?_; intro A₃ n₃ c₃ w3 ho3 hg3; have hb3 := hide ((hq.out.alloc hs12 (.cells #[.int .i64 2, .int .i64 0] 57)).drew.grown hg3 hs12a (fun j hj => Nat.le_trans hs1 (ho2.out.row.lt j hj).1)); have hml := hide (Marks.beside (hlit.out) hl2a hg3 (fun k hk => by have := (ho2.out.row.lt k hk).2; omega)); have hs3 : w2.heap.size + 1 ≤ w3.heap.size := (by have := hg3.size; rw [hsa.out] at this; exact this); have hs3b : w1.heap.size ≤ w3.heap.size := (by omega); have hs3c : w.heap.size ≤ w3.heap.size := Nat.le_trans hs1 hs3b; replace ho3 := hide ho3; clear hg3)
      | (refine step_appK _ rfl _ _ 25 rfl i1 Try.underlying25 hi hz0 hz1 hz2 _ _ rfl (ho3.out.alloc _) _ 1 1 _ [(2, 0)] rfl (marks_lit1 hw2 hw0) hs3b hsz2 ?_; intro A₄ n₄ c₄ w4 ho4 hg4; have hb4 := hide ((hb3.out.alloc hb3.out.size (.cells #[.int .i64 2, .int .i64 0] 57)).grown hg4 hs3c (fun j hj => Nat.le_trans hs1 (ho3.out.row.lt j hj).1)); replace ho4 := hide ho4; clear hg4)
      | (refine step_appK _ rfl _ _ 25 rfl i1 Try.underlying25 hi hz0 hz1 hz2 _ _ rfl ho3.out _ 1 1 _ [(2, 0)] rfl hml.out hs3b hsz2 ?_; intro A₄ n₄ c₄ w4 ho4 hg4; have hb4 := hide (hb3.out.grown hg4 hs3c (fun j hj => Nat.le_trans hs1 (ho3.out.row.lt j hj).1)); replace ho4 := hide ho4; clear hg4))
    all_goals
      go_wp2
      go_ret
      exact ⟨_, _, _, rfl, by have := ho4.out.down hs1; simpa [back, flat] using this, hb4.out⟩

set_option maxHeartbeats 800000 in
theorem backTerm_spec (C : Int) (A : Option Addr) (n c B : Nat) (ts : List Mk) (w : World) (h : Marks w B A n c ts) (hB : B ≤ w.heap.size) (hn20 : n ≤ 1048576) :
    Calls Try.prog 33 #[.int .i64 C, .slice A n c] w fun e w' => ∃ A' n' c', e = .returned (.slice A' n' c') ∧ OwnK w' w.heap.size (.slice A' n' c') (backL C ts) ∧ Below w.heap.size w w' := by
  have HT := hide (termOk_spec C A n c B ts w h hB hn20)
  cases hok : termOk C ts with
  | true =>
    obtain ⟨_, h3, h15, x, hx⟩ := termOk_yes hok
    have he := hide (backL_in hok hx)
    rw [hok] at HT
    have hfl := hide hx.2
    rw [← hfl.out] at h
    have HL := hide (fun (w1 : World) (hq : Below w.heap.size w w1) => l9Back_c x A n c B w1 (h.below (hq.mono hB)) (Nat.le_trans hB hq.size) hn20)
    clear hok hx h15
    rw [he.out]
    go_enter Try.func33, Try.ntmps33
    go_wp2_with fail
    refine HT.out.mono ?_
    rintro e w1 ⟨rfl, hq⟩
    have hq := hide hq
    go_wp2_with fail
    refine (HL.out w1 hq.out).mono ?_
    rintro e w2 ⟨A2, n2, c2, rfl, ho, hq2⟩
    have ho := hide ho
    have hq2 := hide (upB hq.out hq2)
    go_wp2_with fail
    go_ret
    exact ⟨_, _, _, rfl, ho.out.down hq.out.size, hq2.out⟩
  | false =>
    have he := hide (backL_out hok)
    rw [hok] at HT
    clear hok
    rw [he.out]
    go_enter Try.func33, Try.ntmps33
    go_wp2_with fail
    refine HT.out.mono ?_
    rintro e w1 ⟨rfl, hq⟩
    have hq := hide hq
    go_wp2_with fail
    go_ret
    exact ⟨_, _, _, rfl, ownK_empty hq.out.size, (hq.out).alloc hq.out.size _⟩
end Go.Proofs.Ytffllkmaifjpfab

namespace Go.Proofs.Ytffllkmaifjpfab
open Go.RowKit
set_option linter.unusedVariables false

theorem strB_par (l : List UInt8) : strB (par l) = (⟨#[40]⟩ ++ strB l) ++ ⟨#[41]⟩ := by
  unfold par
  rw [← List.cons_append, strB_append, strB_cons]; rfl
theorem lastK_alt (x : Tr) : lastK x = 3 ↔ isAlt x = true := by cases x <;> simp [lastK, isAlt]
theorem lastK_cases (x : Tr) : (lastK x = 3 ∧ isAlt x = true ∧ isLeaf x = false) ∨ (lastK x = 2 ∧ isAlt x = false ∧ isLeaf x = false) ∨ ((lastK x = 0 ∨ lastK x = 1) ∧ isAlt x = false ∧ isLeaf x = true) := by
  cases x <;> simp [lastK, isAlt, isLeaf]
theorem letter_str {c : Nat} (h : c < 3) : (⟨#[97, 98, 99]⟩ : ByteArray).extract c (c + 1) = strB [UInt8.ofNat (97 + c)] := by
  match c, h with
  | 0, _ => decide
  | 1, _ => decide
  | 2, _ => decide
theorem lastK_3 (x : Tr) : (lastK x == 3) = isAlt x := by cases x <;> rfl
theorem lastK_2 (x : Tr) : (lastK x == 2) = (!isLeaf x && !isAlt x) := by cases x <;> rfl
theorem alt_leaf {x : Tr} (h : isAlt x = true) : isLeaf x = false := by cases x <;> simp_all [isAlt, isLeaf]
theorem strB_wrap (p : Bool) (l : List UInt8) : strB (wrapB p l) = if p then (⟨#[40]⟩ ++ strB l) ++ ⟨#[41]⟩ else strB l := by
  cases p
  · rfl
  · exact strB_par l
theorem txt_small {x : Tr} (h : (flat x).length ≤ 15) : (strB (txt x)).size ≤ 36 := by
  rw [strB_size]
  have := txt_len x
  omega

set_option maxRecDepth 100000 in
set_option maxHeartbeats 3200000 in
theorem l9Text_c : ∀ (x : Tr), small x = true → (flat x).length ≤ 15 → ∀ (A : Option Addr) (n c B : Nat) (w : World), Marks w B A n c (flat x) →
    Calls Try.prog 48 #[.slice A n c] w fun e w' => e = .returned (.string (strB (txt x))) ∧ ∃ q, w' = w.drewN q
  | .col cc, hs, hlen, A, n, c, B, w, h => by
    obtain rfl : 1 = n := h.len
    obtain ⟨b, off, u, v, rfl, hbB, hu, hc1, hc2⟩ := h.look (show 0 < 1 by omega)
    have e1 := hu.out
    simp only [flat, List.getElem?_cons_zero, Option.some.injEq, Prod.mk.injEq] at e1
    obtain ⟨rfl, rfl⟩ := e1
    rw [Nat.zero_mul, Nat.add_zero] at hc1 hc2
    have hn1 : ((1 : Nat) : Int) - 1 = 0 := rfl
    have hcc := of_decide_eq_true hs
    have hF := hide (letter_str hcc)
    go_enter Try.func48, Try.ntmps48
    go_wp2_with fail
    go_quiet (fail)
    go_wp2
    go_ret
    exact ⟨by rw [show strB (txt (.col cc)) = strB [UInt8.ofNat (97 + cc)] from rfl, ← hF.out]; rfl, _, rfl⟩
  | .any, hs, hlen, A, n, c, B, w, h => by
    obtain rfl : 1 = n := h.len
    obtain ⟨b, off, u, v, rfl, hbB, hu, hc1, hc2⟩ := h.look (show 0 < 1 by omega)
    have e1 := hu.out
    simp only [flat, List.getElem?_cons_zero, Option.some.injEq, Prod.mk.injEq] at e1
    obtain ⟨rfl, rfl⟩ := e1
    rw [Nat.zero_mul, Nat.add_zero] at hc1 hc2
    have hn1 : ((1 : Nat) : Int) - 1 = 0 := rfl
    go_enter Try.func48, Try.ntmps48
    go_wp2
    go_ret
    exact ⟨by rfl, 0, rfl⟩
  | .alt a b2, hs, hlen, A, n, c, B, w, h => by
    have hs2 : small a = true ∧ small b2 = true := by simpa only [small, Bool.and_eq_true] using hs
    have hl2 : (flat a).length ≤ 15 ∧ (flat b2).length ≤ 15 := by simp only [flat, List.length_append] at hlen; omega
    obtain ⟨b, off, Lx, E, la, La, rfl, hbB, hL, hEI, hLI, hLn, hEn, hLan, hn0, hla1, hlL, hlc, hlcc, hLc, hnc, hnb, _, _, hcK, hc0, hcE, hcL, hta, htb, HS⟩ := node_facts (K := 3) h
    have HR := hide (l9Text_c a hs2.1 hl2.1 (some ⟨b, off, none⟩) la c B w hta.out)
    have HQ := hide (fun q => l9Text_c b2 hs2.2 hl2.2 (some ⟨b, off + la * 2, none⟩) (Lx - la) (c - la) B (w.drewN q) (htb.out.drewN q))
    have hsa := txt_small hl2.1
    have hsb := txt_small hl2.2
    have hF : strB (txt (.alt a b2)) = (strB (txt a) ++ ⟨#[124]⟩) ++ strB (wrapB (isAlt b2) (txt b2)) := by
      rw [show txt (.alt a b2) = txt a ++ ([124] ++ wrapB (isAlt b2) (txt b2)) from rfl, strB_append, strB_append, ByteArray.append_assoc]; rfl
    rw [hF, strB_wrap]
    obtain ⟨SA, hSA⟩ : ∃ SA, Hid (strB (txt a) = SA) := ⟨_, hide rfl⟩
    obtain ⟨SB, hSB⟩ : ∃ SB, Hid (strB (txt b2) = SB) := ⟨_, hide rfl⟩
    rw [hSA.out] at HR hsa ⊢
    rw [hSB.out] at HQ hsb ⊢
    have hcl : ¬ c = la := by omega
    have ka3 := lastK_3 a
    have kb3 := lastK_3 b2
    have kb2 := lastK_2 b2
    obtain ⟨KA, hKA⟩ : ∃ K, Hid (lastK a = K) := ⟨_, hide rfl⟩
    obtain ⟨KB, hKB⟩ : ∃ K, Hid (lastK b2 = K) := ⟨_, hide rfl⟩
    rw [hKA.out] at ka3 hcL
    rw [hKB.out] at kb3 kb2 hcE
    have hal := fun h => alt_leaf (x := b2) h
    obtain ⟨pa, hpa⟩ : ∃ p, Hid (isAlt a = p) := ⟨_, hide rfl⟩
    obtain ⟨pb, hpb⟩ : ∃ p, Hid (isAlt b2 = p) := ⟨_, hide rfl⟩
    obtain ⟨lb, hlb⟩ : ∃ p, Hid (isLeaf b2 = p) := ⟨_, hide rfl⟩
    rw [hpb.out] at kb3 kb2 ⊢
    clear ka3 hal hcL hLI
    cases pb with
    | true =>
      rw [if_pos rfl]
      clear kb2
      go_enter Try.func48, Try.ntmps48
      go_wp2_with (first | (go_at_call 83; refine (HS.out).mono ?_; rintro e w' ⟨rfl, rfl⟩) | (go_at_call 48; with_reducible refine (HR.out).mono ?_; rintro e w' ⟨rfl, q, rfl⟩) | (go_at_call 48; with_reducible refine (HQ.out _).mono ?_; rintro e w' ⟨rfl, q', rfl⟩))
      go_ret
      exact ⟨by rfl, _, rfl⟩
    | false =>
      rw [if_neg (by decide)]
      clear kb2
      go_enter Try.func48, Try.ntmps48
      go_wp2_with (first | (go_at_call 83; refine (HS.out).mono ?_; rintro e w' ⟨rfl, rfl⟩) | (go_at_call 48; with_reducible refine (HR.out).mono ?_; rintro e w' ⟨rfl, q, rfl⟩) | (go_at_call 48; with_reducible refine (HQ.out _).mono ?_; rintro e w' ⟨rfl, q', rfl⟩))
      go_ret
      exact ⟨by rfl, _, rfl⟩
  | .thn a b2, hs, hlen, A, n, c, B, w, h => by
    have hs2 : small a = true ∧ small b2 = true := by simpa only [small, Bool.and_eq_true] using hs
    have hl2 : (flat a).length ≤ 15 ∧ (flat b2).length ≤ 15 := by simp only [flat, List.length_append] at hlen; omega
    obtain ⟨b, off, Lx, E, la, La, rfl, hbB, hL, hEI, hLI, hLn, hEn, hLan, hn0, hla1, hlL, hlc, hlcc, hLc, hnc, hnb, _, _, hcK, hc0, hcE, hcL, hta, htb, HS⟩ := node_facts (K := 2) h
    have HR := hide (l9Text_c a hs2.1 hl2.1 (some ⟨b, off, none⟩) la c B w hta.out)
    have HQ := hide (fun q => l9Text_c b2 hs2.2 hl2.2 (some ⟨b, off + la * 2, none⟩) (Lx - la) (c - la) B (w.drewN q) (htb.out.drewN q))
    have hsa := txt_small hl2.1
    have hsb := txt_small hl2.2
    have hF : strB (txt (.thn a b2)) = strB (wrapB (isAlt a) (txt a)) ++ strB (wrapB (!isLeaf b2) (txt b2)) := strB_append _ _
    rw [hF, strB_wrap, strB_wrap]
    obtain ⟨SA, hSA⟩ : ∃ SA, Hid (strB (txt a) = SA) := ⟨_, hide rfl⟩
    obtain ⟨SB, hSB⟩ : ∃ SB, Hid (strB (txt b2) = SB) := ⟨_, hide rfl⟩
    rw [hSA.out] at HR hsa ⊢
    rw [hSB.out] at HQ hsb ⊢
    have hcl : ¬ c = la := by omega
    have ka3 := lastK_3 a
    have kb3 := lastK_3 b2
    have kb2 := lastK_2 b2
    obtain ⟨KA, hKA⟩ : ∃ K, Hid (lastK a = K) := ⟨_, hide rfl⟩
    obtain ⟨KB, hKB⟩ : ∃ K, Hid (lastK b2 = K) := ⟨_, hide rfl⟩
    rw [hKA.out] at ka3 hcL
    rw [hKB.out] at kb3 kb2 hcE
    have hal := fun h => alt_leaf (x := b2) h
    obtain ⟨pa, hpa⟩ : ∃ p, Hid (isAlt a = p) := ⟨_, hide rfl⟩
    obtain ⟨pb, hpb⟩ : ∃ p, Hid (isAlt b2 = p) := ⟨_, hide rfl⟩
    obtain ⟨lb, hlb⟩ : ∃ p, Hid (isLeaf b2 = p) := ⟨_, hide rfl⟩
    rw [hpa.out] at ka3 ⊢
    rw [hpb.out] at kb3 kb2 hal
    rw [hlb.out] at kb2 hal ⊢
    cases pa with
    | true =>
      rw [if_pos rfl]
      cases pb with
      | true =>
        obtain rfl : lb = false := hal rfl
        rw [show (!false) = true from rfl, if_pos rfl]
        clear kb2 hal
        go_enter Try.func48, Try.ntmps48
        go_wp2_with (first | (go_at_call 83; refine (HS.out).mono ?_; rintro e w' ⟨rfl, rfl⟩) | (go_at_call 48; with_reducible refine (HR.out).mono ?_; rintro e w' ⟨rfl, q, rfl⟩) | (go_at_call 48; with_reducible refine (HQ.out _).mono ?_; rintro e w' ⟨rfl, q', rfl⟩))
        go_ret
        exact ⟨by rfl, _, rfl⟩
      | false =>
        clear hal
        cases lb with
        | true =>
          rw [show (!true) = false from rfl, if_neg (by decide)]
          rw [show (!true && !false) = false from rfl] at kb2
          go_enter Try.func48, Try.ntmps48
          go_wp2_with (first | (go_at_call 83; refine (HS.out).mono ?_; rintro e w' ⟨rfl, rfl⟩) | (go_at_call 48; with_reducible refine (HR.out).mono ?_; rintro e w' ⟨rfl, q, rfl⟩) | (go_at_call 48; with_reducible refine (HQ.out _).mono ?_; rintro e w' ⟨rfl, q', rfl⟩))
          go_ret
          exact ⟨by rfl, _, rfl⟩
        | false =>
          rw [show (!false) = true from rfl, if_pos rfl]
          rw [show (!false && !false) = true from rfl] at kb2
          go_enter Try.func48, Try.ntmps48
          go_wp2_with (first | (go_at_call 83; refine (HS.out).mono ?_; rintro e w' ⟨rfl, rfl⟩) | (go_at_call 48; with_reducible refine (HR.out).mono ?_; rintro e w' ⟨rfl, q, rfl⟩) | (go_at_call 48; with_reducible refine (HQ.out _).mono ?_; rintro e w' ⟨rfl, q', rfl⟩))
          go_ret
          exact ⟨by rfl, _, rfl⟩
    | false =>
      rw [if_neg (by decide)]
      cases pb with
      | true =>
        obtain rfl : lb = false := hal rfl
        rw [show (!false) = true from rfl, if_pos rfl]
        clear kb2 hal
        go_enter Try.func48, Try.ntmps48
        go_wp2_with (first | (go_at_call 83; refine (HS.out).mono ?_; rintro e w' ⟨rfl, rfl⟩) | (go_at_call 48; with_reducible refine (HR.out).mono ?_; rintro e w' ⟨rfl, q, rfl⟩) | (go_at_call 48; with_reducible refine (HQ.out _).mono ?_; rintro e w' ⟨rfl, q', rfl⟩))
        go_ret
        exact ⟨by rfl, _, rfl⟩
      | false =>
        clear hal
        cases lb with
        | true =>
          rw [show (!true) = false from rfl, if_neg (by decide)]
          rw [show (!true && !false) = false from rfl] at kb2
          go_enter Try.func48, Try.ntmps48
          go_wp2_with (first | (go_at_call 83; refine (HS.out).mono ?_; rintro e w' ⟨rfl, rfl⟩) | (go_at_call 48; with_reducible refine (HR.out).mono ?_; rintro e w' ⟨rfl, q, rfl⟩) | (go_at_call 48; with_reducible refine (HQ.out _).mono ?_; rintro e w' ⟨rfl, q', rfl⟩))
          go_ret
          exact ⟨by rfl, _, rfl⟩
        | false =>
          rw [show (!false) = true from rfl, if_pos rfl]
          rw [show (!false && !false) = true from rfl] at kb2
          go_enter Try.func48, Try.ntmps48
          go_wp2_with (first | (go_at_call 83; refine (HS.out).mono ?_; rintro e w' ⟨rfl, rfl⟩) | (go_at_call 48; with_reducible refine (HR.out).mono ?_; rintro e w' ⟨rfl, q, rfl⟩) | (go_at_call 48; with_reducible refine (HQ.out _).mono ?_; rintro e w' ⟨rfl, q', rfl⟩))
          go_ret
          exact ⟨by rfl, _, rfl⟩

set_option maxHeartbeats 800000 in
theorem termText_spec (C : Int) (A : Option Addr) (n c B : Nat) (ts : List Mk) (w : World) (h : Marks w B A n c ts) (hB : B ≤ w.heap.size) (hn20 : n ≤ 1048576) :
    Calls Try.prog 18 #[.int .i64 C, .slice A n c] w fun e w' => e = .returned (.string (strB (txtT C ts))) ∧ Below w.heap.size w w' := by
  have HT := hide (termOk_spec C A n c B ts w h hB hn20)
  cases hok : termOk C ts with
  | true =>
    obtain ⟨_, h3, h15, x, hx⟩ := termOk_yes hok
    have he := hide (txtT_in hok hx)
    rw [hok] at HT
    have hsm := good_small h3 x hx.1
    have hfl := hide hx.2
    rw [← hfl.out] at h h15
    have HL := hide (fun (w1 : World) (hq : Below w.heap.size w w1) => l9Text_c x hsm h15 A n c B w1 (h.below (hq.mono hB)))
    clear hok hx h15
    rw [he.out]
    go_enter Try.func18, Try.ntmps18
    go_wp2_with fail
    refine HT.out.mono ?_
    rintro e w1 ⟨rfl, hq⟩
    have hq := hide hq
    go_wp2_with fail
    refine (HL.out w1 hq.out).mono ?_
    rintro e w2 ⟨rfl, q, rfl⟩
    go_wp2_with fail
    go_ret
    exact ⟨by rfl, below_drewN hq.out _⟩
  | false =>
    have he := hide (txtT_out hok)
    rw [hok] at HT
    clear hok
    rw [he.out]
    go_enter Try.func18, Try.ntmps18
    go_wp2_with fail
    refine HT.out.mono ?_
    rintro e w1 ⟨rfl, hq⟩
    have hq := hide hq
    go_wp2_with fail
    go_ret
    exact ⟨by rfl, hq.out⟩
end Go.Proofs.Ytffllkmaifjpfab

namespace Go.Proofs.Ytffllkmaifjpfab
open Go.RowKit
set_option linter.unusedVariables false

theorem u8_40 {c : UInt8} : c = 40 ↔ c.toNat = 40 := ⟨fun h => by rw [h]; rfl, fun h => UInt8.toNat_inj.1 (by rw [h]; rfl)⟩
theorem u8_41 {c : UInt8} : c = 41 ↔ c.toNat = 41 := ⟨fun h => by rw [h]; rfl, fun h => UInt8.toNat_inj.1 (by rw [h]; rfl)⟩
theorem u8_46 {c : UInt8} : c = 46 ↔ c.toNat = 46 := ⟨fun h => by rw [h]; rfl, fun h => UInt8.toNat_inj.1 (by rw [h]; rfl)⟩
theorem u8_124 {c : UInt8} : c = 124 ↔ c.toNat = 124 := ⟨fun h => by rw [h]; rfl, fun h => UInt8.toNat_inj.1 (by rw [h]; rfl)⟩
theorem atom_col (f : List UInt8 → Rest) {c : UInt8} (r : List UInt8) (h1 : 97 ≤ c.toNat) (h2 : c.toNat ≤ 99) : pAtom f (c :: r) = some (.col (c.toNat - 97), r) := by
  simp only [pAtom]
  rw [if_pos ⟨UInt8.le_iff_toNat_le.2 h1, UInt8.le_iff_toNat_le.2 h2⟩]
theorem atom_notcol {c : UInt8} (h : ¬(97 ≤ c.toNat ∧ c.toNat ≤ 99)) : ¬(97 ≤ c ∧ c ≤ 99) := fun hh => h ⟨UInt8.le_iff_toNat_le.1 hh.1, UInt8.le_iff_toNat_le.1 hh.2⟩
theorem atom_any (f : List UInt8 → Rest) {c : UInt8} (r : List UInt8) (h1 : c.toNat = 46) : pAtom f (c :: r) = some (.any, r) := by
  simp only [pAtom]
  rw [if_neg (atom_notcol (by omega)), if_pos (u8_46.2 h1)]
theorem atom_open (f : List UInt8 → Rest) {c : UInt8} (r : List UInt8) (h1 : c.toNat = 40) : pAtom f (c :: r) = (match f r with
      | some (t, d :: r') => if d = 41 then some (t, r') else none
      | _ => none) := by
  simp only [pAtom]
  rw [if_neg (atom_notcol (by omega)), if_neg (fun e => by have := u8_46.1 e; omega), if_pos (u8_40.2 h1)]
  cases f r with
  | none => rfl
  | some p =>
    obtain ⟨t, l⟩ := p
    cases l <;> rfl
theorem atom_none (f : List UInt8 → Rest) {c : UInt8} (r : List UInt8) (h : ¬(97 ≤ c.toNat ∧ c.toNat ≤ 99)) (h1 : c.toNat ≠ 46) (h2 : c.toNat ≠ 40) : pAtom f (c :: r) = none := by
  simp only [pAtom]
  rw [if_neg (atom_notcol h), if_neg (fun e => h1 (u8_46.1 e)), if_neg (fun e => h2 (u8_40.1 e))]

/-- What a reader hands back at a place of a text. -/
def Told (f : List UInt8 → Rest) (s : ByteArray) (k : Nat) (ms : List Mk) (z : Int) : Prop := match f ((bts s).drop k) with
    | some (t, l') => ms = flat t ∧ ∃ p : Nat, k < p ∧ p ≤ s.size ∧ l' = (bts s).drop p ∧ z = (p : Int)
    | none => z = -1
def Reads (f : List UInt8 → Rest) (s : ByteArray) (k : Nat) (w : World) (e : Ending) (w' : World) : Prop :=
  ∃ (A : Option Addr) (n c : Nat) (z : Int) (ms : List Mk), e = .returned (.tuple #[.slice A n c, .int .i64 z]) ∧ OwnK w' w.heap.size (.slice A n c) ms ∧ Below w.heap.size w w' ∧ n ≤ 2 * (s.size - k) + 1 ∧ Told f s k ms z
theorem told_no {f : List UInt8 → Rest} {s : ByteArray} {k : Nat} {ms : List Mk} {z : Int} (h : f ((bts s).drop k) = none) (hz : z = -1) : Told f s k ms z := by unfold Told; rw [h]; exact hz
theorem told_yes {f : List UInt8 → Rest} {s : ByteArray} {k p : Nat} {ms : List Mk} {z : Int} {t : Tr} (h : f ((bts s).drop k) = some (t, (bts s).drop p)) (h1 : k < p) (h2 : p ≤ s.size) (hm : ms = flat t) (hz : z = (p : Int)) : Told f s k ms z := by unfold Told; rw [h]; exact ⟨hm, p, h1, h2, rfl, hz⟩
theorem told_cases {f : List UInt8 → Rest} {s : ByteArray} {k : Nat} {ms : List Mk} {z : Int} (h : Told f s k ms z) : (f ((bts s).drop k) = none ∧ z = -1) ∨ ∃ t p, f ((bts s).drop k) = some (t, (bts s).drop p) ∧ k < p ∧ p ≤ s.size ∧ ms = flat t ∧ z = (p : Int) := by
  unfold Told at h
  cases hf : f ((bts s).drop k) with
  | none => rw [hf] at h; exact .inl ⟨rfl, h⟩
  | some r =>
    obtain ⟨t, l'⟩ := r
    rw [hf] at h
    obtain ⟨h1, p, h2, h3, h4, h5⟩ := h
    exact .inr ⟨t, p, by rw [h4], h2, h3, h1, h5⟩
theorem al1 (w : World) (o : Obj) : Below w.heap.size w (w.alloc o) := (Below.refl _ _).alloc (Nat.le_refl _) _

set_option maxRecDepth 100000 in
set_option maxHeartbeats 1600000 in
theorem l9Atom_c (s : ByteArray) (m k : Nat) (w : World) (hs : s.size ≤ 60) (hk : k ≤ s.size)
    (HO : ∀ (w1 : World), k < s.size → Calls Try.prog 50 #[.string s, .int .i64 ((k : Int) + 1)] w1 fun e w' => Reads (pOr m) s (k + 1) w1 e w') :
    Calls Try.prog 104 #[.string s, .int .i64 (k : Int)] w fun e w' => Reads (atN m) s k w e w' := by
  have HO := hide HO
  by_cases hlt : k < s.size
  · have hd := hide (bts_drop s k hlt)
    obtain ⟨y, hy⟩ : ∃ y : Nat, Hid ((s[k]'hlt).toNat = y) := ⟨_, hide rfl⟩
    by_cases h1 : 97 ≤ (s[k]'hlt).toNat ∧ (s[k]'hlt).toNat ≤ 99
    · have ha := hide (atom_col (pOr m) ((bts s).drop (k + 1)) h1.1 h1.2)
      obtain ⟨h1a, h1b⟩ := h1
      go_enter Try.func104, Try.ntmps104
      go_wp2_with fail
      go_ret2
      exact ⟨_, _, _, _, _, rfl, ownK_lit1 (wf_i64 (by omega)) (wf_i64 (by omega)), al1 _ _, by omega, told_yes (p := k + 1) (by rw [hd.out]; exact ha.out) (by omega) (by omega) (by simp only [flat]; rw [Int.natCast_sub h1a]; rfl) (by omega)⟩
    · by_cases h2 : (s[k]'hlt).toNat = 46
      · have ha := hide (atom_any (pOr m) ((bts s).drop (k + 1)) h2)
        clear h1
        go_enter Try.func104, Try.ntmps104
        go_wp2_with fail
        go_ret2
        exact ⟨_, _, _, _, _, rfl, ownK_lit1 (wf_i64 (by omega)) (wf_i64 (by omega)), al1 _ _, by omega, told_yes (p := k + 1) (by rw [hd.out]; exact ha.out) (by omega) (by omega) rfl (by omega)⟩
      · by_cases h3 : (s[k]'hlt).toNat = 40
        · have ha := hide (atom_open (pOr m) ((bts s).drop (k + 1)) h3)
          clear h1 h2
          go_enter Try.func104, Try.ntmps104
          go_wp2_with fail
          refine (HO.out _ hlt).mono ?_
          rintro e w1 ⟨A, n, c, z, ms, rfl, ho, hq, hn, ht⟩
          have ho := hide ho
          have hq := hide hq
          rcases told_cases ht with ⟨hf, hz⟩ | ⟨t, p, hf, hp1, hp2, hms, hz⟩
          · have hf := hide hf
            subst hz
            clear ht
            go_wp2_with fail
            go_ret2
            exact ⟨_, _, _, _, _, rfl, ownK_empty hq.out.size, hq.out.alloc hq.out.size _, by omega, told_no (by rw [hd.out]; exact ha.out.trans (by rw [hf.out])) rfl⟩
          · have hf := hide hf
            have hms := hide hms
            subst hz
            clear ht
            by_cases hpl : p < s.size
            · have hdp := hide (bts_drop s p hpl)
              by_cases h41 : (s[p]'hpl).toNat = 41
              · have hc41 := hide (u8_41.2 h41)
                have hp64 : (p : Int) + 1 ≤ 61 := by omega
                go_wp2_with fail
                go_ret2
                exact ⟨_, _, _, _, _, rfl, ho.out, hq.out, by omega, told_yes (p := p + 1) (by rw [hd.out]; exact ha.out.trans (by rw [hf.out, hdp.out]; exact if_pos hc41.out)) (by omega) (by omega) hms.out (by omega)⟩
              · have hc41 := hide (fun e => h41 (u8_41.1 e))
                have hb1 : (((s[p]'hpl).toNat : Int) == 41) = false := by simp; omega
                have hb2 : (((s[p]'hpl).toNat : Int) != 41) = true := by simp; omega
                clear h41
                go_wp2_with fail
                go_ret2
                exact ⟨_, _, _, _, _, rfl, ownK_empty hq.out.size, hq.out.alloc hq.out.size _, by omega, told_no (by rw [hd.out]; exact ha.out.trans (by rw [hf.out, hdp.out]; exact if_neg hc41.out)) rfl⟩
            · have hde := hide (bts_end s p (by omega))
              go_wp2_with fail
              go_ret2
              exact ⟨_, _, _, _, _, rfl, ownK_empty hq.out.size, hq.out.alloc hq.out.size _, by omega, told_no (by rw [hd.out]; exact ha.out.trans (by rw [hf.out, hde.out])) rfl⟩
        · have ha := hide (atom_none (pOr m) ((bts s).drop (k + 1)) h1 h2 h3)
          go_enter Try.func104, Try.ntmps104
          go_wp2_with fail
          all_goals
            go_ret2
            exact ⟨_, _, _, _, _, rfl, ownK_empty (Nat.le_refl _), al1 _ _, by omega, told_no (by rw [hd.out]; exact ha.out) rfl⟩
  · have hd := hide (bts_end s k (by omega))
    go_enter Try.func104, Try.ntmps104
    go_wp2_with fail
    go_ret2
    exact ⟨_, _, _, _, [], rfl, ownK_empty (Nat.le_refl _), al1 _ _, by omega, told_no (by rw [hd.out]; rfl) rfl⟩
theorem rowL_at (f : List UInt8 → Rest) (j : Nat) (t : Tr) {l : List UInt8} {c : UInt8} {r : List UInt8} (hl : l = c :: r) (h : ¬(c = 124 ∨ c = 41)) : rowLoop f (j + 1) t l = (match f l with
    | some (u, l') => rowLoop f j (.thn t u) l'
    | none => none) := by
  subst hl
  simp only [rowLoop]
  rw [if_neg h]
  rcases f (c :: r) with _ | ⟨u, l'⟩ <;> rfl
theorem orL_at (f : List UInt8 → Rest) (j : Nat) (t : Tr) {l : List UInt8} {c : UInt8} {r : List UInt8} (hl : l = c :: r) (h : c = 124) : orLoop f (j + 1) t l = (match f r with
    | some (u, l') => orLoop f j (.alt t u) l'
    | none => none) := by
  subst hl
  simp only [orLoop]
  rw [if_pos h]
  rcases f r with _ | ⟨u, l'⟩ <;> rfl
theorem orL_end (f : List UInt8 → Rest) (j : Nat) (t : Tr) {l : List UInt8} {c : UInt8} {r : List UInt8} (hl : l = c :: r) (h : ¬ c = 124) : orLoop f j t l = some (t, l) := by
  subst hl
  cases j with
  | zero => rfl
  | succ j => simp only [orLoop]; rw [if_neg h]
def meas (n : Nat) (v : Value) : Nat := if intOf v < 0 then 0 else n + 1 - (intOf v).toNat
theorem meas_pos (n p : Nat) : meas n (.int .i64 (p : Int)) = n + 1 - p := by
  unfold meas
  rw [show intOf (.int .i64 (p : Int)) = (p : Int) from rfl, if_neg (by omega), Int.toNat_natCast]
theorem meas_neg (n : Nat) : meas n (.int .i64 (-1)) = 0 := rfl
theorem Marks.grownB {w w' : World} {B n c : Nat} {A : Option Addr} {ts : List Mk} {row : Option Nat} (h : Marks w B A n c ts) (hg : w.grownBy w' row) (hB : B ≤ w.heap.size) (hr : ∀ g, row = some g → B ≤ g) : Marks w' B A n c ts :=
  h.keep fun p hp => World.cell?_of_block (hg.block p.block (by omega) (fun e => by have := hr _ e.symm; omega))

set_option maxRecDepth 100000 in
set_option maxHeartbeats 3200000 in
theorem l9Row_c (s : ByteArray) (m k : Nat) (w : World) (hs : s.size ≤ 60) (hk : k ≤ s.size)
    (HA : ∀ (k' : Nat) (w1 : World), k ≤ k' → k' ≤ s.size → Calls Try.prog 104 #[.string s, .int .i64 (k' : Int)] w1 fun e w' => Reads (atN m) s k' w1 e w') :
    Calls Try.prog 87 #[.string s, .int .i64 (k : Int)] w fun e w' => Reads (rowN m) s k w e w' := by
  obtain ⟨i1, hi, hz0, hz1, hz2⟩ := infoMark_parts
  have HA0 := hide (HA k w (Nat.le_refl _) hk)
  replace HA := hide HA
  have hwK := wf_i64 (z := 2) (by omega)
  have hw0 := wf_i64 (z := 0) (by omega)
  go_enter Try.func87, Try.ntmps87
  go_wp2_with fail
  refine HA0.out.mono ?_
  rintro e w1 ⟨A0, n0, c0, z0, ms0, rfl, ho0, hq0, hn0, ht0⟩
  have ho0 := hide ho0
  have hq0 := hide hq0
  have hst0 := hide (show (rowN m ((bts s).drop k) = none ∧ z0 = -1) ∨ ∃ t p j, rowN m ((bts s).drop k) = rowLoop (atN m) j t ((bts s).drop p) ∧ k < p ∧ p ≤ s.size ∧ s.size - p ≤ j ∧ n0 + 2 * (s.size - p) + 1 ≤ 2 * (s.size - k) ∧ ms0 = flat t ∧ z0 = (p : Int) by
    rcases told_cases ht0 with ⟨hf, hz⟩ | ⟨t, p, hf, hp1, hp2, hms, hz⟩
    · exact .inl ⟨by show pRow (atN m) _ = none; unfold pRow; rw [hf], hz⟩
    · refine .inr ⟨t, p, ((bts s).drop p).length, by show pRow (atN m) _ = _; unfold pRow; rw [hf], hp1, hp2, by rw [List.length_drop, bts_len]; omega, ?_, hms, hz⟩
      have h1 := atN_thin m _ _ _ hf
      have h2 := ho0.out.len
      rw [List.length_drop, List.length_drop, bts_len] at h1
      rw [h2, hms]
      omega)
  clear ht0
  go_wp2_with fail
  go_loopw [6, 7] (fun v i wr => ∃ A n c z ms, v = .slice A n c ∧ i = .int .i64 z ∧ n ≤ 2 * (s.size - k) + 1 ∧ Hid (OwnK wr w.heap.size (.slice A n c) ms) ∧ Hid (Below w.heap.size w wr) ∧ Hid ((rowN m ((bts s).drop k) = none ∧ z = -1) ∨ ∃ t p j, rowN m ((bts s).drop k) = rowLoop (atN m) j t ((bts s).drop p) ∧ k < p ∧ p ≤ s.size ∧ s.size - p ≤ j ∧ n + 2 * (s.size - p) + 1 ≤ 2 * (s.size - k) ∧ ms = flat t ∧ z = (p : Int))) (fun _ i _ => meas s.size i)
  case atStart => exact ⟨_, _, _, _, _, rfl, rfl, hn0, ho0, hq0, hst0⟩
  case round =>
    clear ho0 hq0 hst0 HA0 hn0
    obtain ⟨A, n, c, z, ms, rfl, rfl, hnb, ho, hb, hst⟩ := hrel
    have hsz := hb.out.size
    rcases hst.out with ⟨hf, rfl⟩ | ⟨t, p, j, hf, hp1, hp2, hj, hth, hms, rfl⟩
    · have hf := hide hf
      go_wp2_with fail
      go_ret2
      exact ⟨_, _, _, _, _, rfl, ho.out, hb.out, hnb, told_no hf.out rfl⟩
    · have hf := hide hf
      have hms := hide hms
      have hj := hide hj
      have hth := hide hth
      clear hst
      by_cases hpl : p < s.size
      · have hdp := hide (bts_drop s p hpl)
        by_cases h124 : (s[p]'hpl).toNat = 124
        · go_wp2_with fail
          go_ret2
          exact ⟨_, _, _, _, _, rfl, ho.out, hb.out, hnb, told_yes (p := p) (by rw [hf.out]; exact rowLoop_end _ _ _ (.inr ⟨_, _, hdp.out, .inl (u8_124.2 h124)⟩)) hp1 hp2 hms.out rfl⟩
        · have ha1 : (((s[p]'hpl).toNat : Int) == 124) = false := by simp; omega
          have ha2 : (((s[p]'hpl).toNat : Int) != 124) = true := by simp; omega
          by_cases h41 : (s[p]'hpl).toNat = 41
          · go_wp2_with fail
            go_ret2
            exact ⟨_, _, _, _, _, rfl, ho.out, hb.out, hnb, told_yes (p := p) (by rw [hf.out]; exact rowLoop_end _ _ _ (.inr ⟨_, _, hdp.out, .inr (u8_41.2 h41)⟩)) hp1 hp2 hms.out rfl⟩
          · have hb1 : (((s[p]'hpl).toNat : Int) == 41) = false := by simp; omega
            have hb2 : (((s[p]'hpl).toNat : Int) != 41) = true := by simp; omega
            have hng := hide (show ¬((s[p]'hpl) = 124 ∨ (s[p]'hpl) = 41) from fun h => h.elim (fun h => h124 (u8_124.1 h)) (fun h => h41 (u8_41.1 h)))
            clear h124 h41
            obtain ⟨j', hj'⟩ : ∃ j', Hid (j = j' + 1) := ⟨j - 1, hide (by have := hj.out; omega)⟩
            have hnx := hide (show rowN m ((bts s).drop k) = (match atN m ((bts s).drop p) with
                | some (u, l') => rowLoop (atN m) j' (.thn t u) l'
                | none => none) by
              rw [hf.out, hj'.out]
              exact rowL_at _ _ _ hdp.out hng.out)
            have HAp := hide (HA.out p wr (by omega) (by omega))
            have hp61 : (p : Int) + 1 ≤ 61 := by omega
            go_wp2_with fail
            refine HAp.out.mono ?_
            rintro e w2 ⟨A2, n2, c2, z2, ms2, rfl, ho2, hq2, hn2, ht2⟩
            have hq2 := hide hq2
            have hs2 := hq2.out.size
            have hb2 := hide (upB hb.out hq2.out)
            have ho1 := hide (ho.out.up hq2.out)
            have ho2 := hide (ho2.down hsz)
            have hw2s := hb2.out.size
            have hl1 := hide ho1.out.len
            have hl2 := hide ho2.out.len
            have hst2 := hide (show (rowN m ((bts s).drop k) = none ∧ z2 = -1) ∨ ∃ t p j, rowN m ((bts s).drop k) = rowLoop (atN m) j t ((bts s).drop p) ∧ k < p ∧ p ≤ s.size ∧ s.size - p ≤ j ∧ (n + n2 + 1) + 2 * (s.size - p) + 1 ≤ 2 * (s.size - k) ∧ ms ++ ms2 ++ [(2, 0)] = flat t ∧ z2 = (p : Int) by
              rcases told_cases ht2 with ⟨hg, hz⟩ | ⟨u, p2, hg, hr1, hr2, hms2, hz⟩
              · exact .inl ⟨by rw [hnx.out, hg], hz⟩
              · refine .inr ⟨.thn t u, p2, j', by rw [hnx.out, hg], by omega, hr2, by have := hj.out; have := hj'.out; omega, ?_, by rw [hms.out, hms2]; simp [flat], hz⟩
                have h1 := atN_thin m _ _ _ hg
                rw [List.length_drop, List.length_drop, bts_len, ← hms2] at h1
                have h2 := hl2.out
                have h3 := hth.out
                omega)
            have hmz : meas s.size (.int .i64 z2) < meas s.size (.int .i64 (p : Int)) := by
              rw [meas_pos]
              rcases told_cases ht2 with ⟨_, hz⟩ | ⟨u, p2, _, hr1, hr2, _, hz⟩
              · rw [hz, meas_neg]; omega
              · rw [hz, meas_pos]; omega
            have hnn : n + n2 + 1 ≤ 2 * (s.size - k) + 1 := by have := hth.out; omega
            replace hmz := hide hmz
            clear ht2 hnx hn2
            go_wp2_with (first
              | (at_builtin; refine wpList_appK _ rfl _ _ 25 rfl i1 Try.underlying25 hi hz0 hz1 hz2 _ [] rfl (ownK_empty hw2s) _ n c _ ms rfl (ho1.out.alloc _).marks (by simp; omega) (by simp; omega) ?_; intro A₃ n₃ c₃ w3 ho3 hg3; have hb3 := hide ((hb2.out.alloc hw2s _).grown hg3 (by simp; omega) (fun j hj => ((ownK_empty hw2s).row.lt j hj).1)); have hs3 : w2.heap.size + 1 ≤ w3.heap.size := (by have := hg3.size; simpa using this); have hm3 := hide ((ho2.out.marks.alloc (Nat.le_refl _) _).grownB hg3 (by simp) (fun j hj => by have := ((ownK_empty (w := w2) (Nat.le_refl _)).row.lt j hj).1; exact this)); replace ho3 := hide (show OwnK w3 w.heap.size (.slice A₃ n₃ c₃) ms from ho3); clear hg3)
              | (at_builtin; refine wpList_appK _ rfl _ _ 25 rfl i1 Try.underlying25 hi hz0 hz1 hz2 _ ms rfl ho3.out _ n2 c2 _ ms2 rfl hm3.out (by have := hb3.out.size; omega) (by have := hl1.out; omega) ?_; intro A₄ n₄ c₄ w4 ho4 hg4; have hb4 := hide (hb3.out.grown hg4 hb3.out.size (fun j hj => (ho3.out.row.lt j hj).1)); replace ho4 := hide ho4; have hs4 := hb4.out.size; clear hg4)
              | (at_builtin; refine wpList_appK _ rfl _ _ 25 rfl i1 Try.underlying25 hi hz0 hz1 hz2 _ (ms ++ ms2) rfl (ho4.out.alloc _) _ 1 1 _ [(2, 0)] rfl (marks_lit1 hwK hw0) (by simp; omega) (by have := hl1.out; have := hl2.out; simp; omega) ?_; intro A₅ n₅ c₅ w5 ho5 hg5; have hb5 := hide ((hb4.out.alloc hs4 (.cells #[.int .i64 2, .int .i64 0] 57)).grown hg5 (by simp; omega) (fun j hj => (ho4.out.row.lt j hj).1)); replace ho5 := hide ho5; clear hg5))
            have hn5 : n₅ = n + n2 + 1 := by
              have := ho5.out.len
              simp only [List.length_append, List.length_cons, List.length_nil] at this
              have := hl1.out
              have := hl2.out
              omega
            subst hn5
            go_wp2_with fail
            go_roundw
            case rel => exact ⟨_, _, _, _, _, rfl, rfl, hnn, ho5, hb5, hst2⟩
            case measure => exact hmz.out
      · have hde := hide (bts_end s p (by omega))
        go_wp2_with fail
        go_ret2
        exact ⟨_, _, _, _, _, rfl, ho.out, hb.out, hnb, told_yes (p := p) (by rw [hf.out, hde.out]; cases j <;> rfl) hp1 hp2 hms.out rfl⟩

set_option maxRecDepth 100000 in
set_option maxHeartbeats 3200000 in
theorem l9Or_c (s : ByteArray) (m k : Nat) (w : World) (hs : s.size ≤ 60) (hk : k ≤ s.size)
    (HA : ∀ (k' : Nat) (w1 : World), k ≤ k' → k' ≤ s.size → Calls Try.prog 87 #[.string s, .int .i64 (k' : Int)] w1 fun e w' => Reads (rowN m) s k' w1 e w') :
    Calls Try.prog 50 #[.string s, .int .i64 (k : Int)] w fun e w' => Reads (pOr (m + 1)) s k w e w' := by
  obtain ⟨i1, hi, hz0, hz1, hz2⟩ := infoMark_parts
  have HA0 := hide (HA k w (Nat.le_refl _) hk)
  replace HA := hide HA
  have hwK := wf_i64 (z := 3) (by omega)
  have hw0 := wf_i64 (z := 0) (by omega)
  go_enter Try.func50, Try.ntmps50
  go_wp2_with fail
  refine HA0.out.mono ?_
  rintro e w1 ⟨A0, n0, c0, z0, ms0, rfl, ho0, hq0, hn0, ht0⟩
  have ho0 := hide ho0
  have hq0 := hide hq0
  have hst0 := hide (show (pOr (m + 1) ((bts s).drop k) = none ∧ z0 = -1) ∨ ∃ t p j, pOr (m + 1) ((bts s).drop k) = orLoop (rowN m) j t ((bts s).drop p) ∧ k < p ∧ p ≤ s.size ∧ s.size - p ≤ j ∧ n0 + 2 * (s.size - p) + 1 ≤ 2 * (s.size - k) ∧ ms0 = flat t ∧ z0 = (p : Int) by
    rcases told_cases ht0 with ⟨hf, hz⟩ | ⟨t, p, hf, hp1, hp2, hms, hz⟩
    · exact .inl ⟨by show pOrF (rowN m) _ = none; unfold pOrF; rw [hf], hz⟩
    · refine .inr ⟨t, p, ((bts s).drop p).length, by show pOrF (rowN m) _ = _; unfold pOrF; rw [hf], hp1, hp2, by rw [List.length_drop, bts_len]; omega, ?_, hms, hz⟩
      have h1 := rowN_thin m _ _ _ hf
      have h2 := ho0.out.len
      rw [List.length_drop, List.length_drop, bts_len] at h1
      rw [h2, hms]
      omega)
  clear ht0
  go_wp2_with fail
  go_loopw [6, 7] (fun v i wr => ∃ A n c z ms, v = .slice A n c ∧ i = .int .i64 z ∧ n ≤ 2 * (s.size - k) + 1 ∧ Hid (OwnK wr w.heap.size (.slice A n c) ms) ∧ Hid (Below w.heap.size w wr) ∧ Hid ((pOr (m + 1) ((bts s).drop k) = none ∧ z = -1) ∨ ∃ t p j, pOr (m + 1) ((bts s).drop k) = orLoop (rowN m) j t ((bts s).drop p) ∧ k < p ∧ p ≤ s.size ∧ s.size - p ≤ j ∧ n + 2 * (s.size - p) + 1 ≤ 2 * (s.size - k) ∧ ms = flat t ∧ z = (p : Int))) (fun _ i _ => meas s.size i)
  case atStart => exact ⟨_, _, _, _, _, rfl, rfl, hn0, ho0, hq0, hst0⟩
  case round =>
    clear ho0 hq0 hst0 HA0 hn0
    obtain ⟨A, n, c, z, ms, rfl, rfl, hnb, ho, hb, hst⟩ := hrel
    have hsz := hb.out.size
    rcases hst.out with ⟨hf, rfl⟩ | ⟨t, p, j, hf, hp1, hp2, hj, hth, hms, rfl⟩
    · have hf := hide hf
      go_wp2_with fail
      go_ret2
      exact ⟨_, _, _, _, _, rfl, ho.out, hb.out, hnb, told_no hf.out rfl⟩
    · have hf := hide hf
      have hms := hide hms
      have hj := hide hj
      have hth := hide hth
      clear hst
      by_cases hpl : p < s.size
      · have hdp := hide (bts_drop s p hpl)
        by_cases h124 : (s[p]'hpl).toNat = 124
        · have hng := hide (u8_124.2 h124)
          have hpc : ((p + 1 : Nat) : Int) = (p : Int) + 1 := by omega
          replace hpc := hide hpc
          obtain ⟨j', hj'⟩ : ∃ j', Hid (j = j' + 1) := ⟨j - 1, hide (by have := hj.out; omega)⟩
          have hnx := hide (show pOr (m + 1) ((bts s).drop k) = (match rowN m ((bts s).drop (p + 1)) with
              | some (u, l') => orLoop (rowN m) j' (.alt t u) l'
              | none => none) by
            rw [hf.out, hj'.out]
            exact orL_at _ _ _ hdp.out hng.out)
          have HAp := hide (HA.out (p + 1) wr (by omega) (by omega))
          have hp61 : (p : Int) + 1 ≤ 61 := by omega
          go_wp2_with fail
          rw [← hpc.out]
          refine HAp.out.mono ?_
          rintro e w2 ⟨A2, n2, c2, z2, ms2, rfl, ho2, hq2, hn2, ht2⟩
          have hq2 := hide hq2
          have hs2 := hq2.out.size
          have hb2 := hide (upB hb.out hq2.out)
          have ho1 := hide (ho.out.up hq2.out)
          have ho2 := hide (ho2.down hsz)
          have hw2s := hb2.out.size
          have hl1 := hide ho1.out.len
          have hl2 := hide ho2.out.len
          have hst2 := hide (show (pOr (m + 1) ((bts s).drop k) = none ∧ z2 = -1) ∨ ∃ t p j, pOr (m + 1) ((bts s).drop k) = orLoop (rowN m) j t ((bts s).drop p) ∧ k < p ∧ p ≤ s.size ∧ s.size - p ≤ j ∧ (n + n2 + 1) + 2 * (s.size - p) + 1 ≤ 2 * (s.size - k) ∧ ms ++ ms2 ++ [(3, 0)] = flat t ∧ z2 = (p : Int) by
            rcases told_cases ht2 with ⟨hg, hz⟩ | ⟨u, p2, hg, hr1, hr2, hms2, hz⟩
            · exact .inl ⟨by rw [hnx.out, hg], hz⟩
            · refine .inr ⟨.alt t u, p2, j', by rw [hnx.out, hg], by omega, hr2, by have := hj.out; have := hj'.out; omega, ?_, by rw [hms.out, hms2]; simp [flat], hz⟩
              have h1 := rowN_thin m _ _ _ hg
              rw [List.length_drop, List.length_drop, bts_len, ← hms2] at h1
              have h2 := hl2.out
              have h3 := hth.out
              omega)
          have hmz : meas s.size (.int .i64 z2) < meas s.size (.int .i64 (p : Int)) := by
            rw [meas_pos]
            rcases told_cases ht2 with ⟨_, hz⟩ | ⟨u, p2, _, hr1, hr2, _, hz⟩
            · rw [hz, meas_neg]; omega
            · rw [hz, meas_pos]; omega
          have hnn : n + n2 + 1 ≤ 2 * (s.size - k) + 1 := by have := hth.out; omega
          replace hmz := hide hmz
          clear ht2 hnx hn2
          go_wp2_with (first
            | (at_builtin; refine wpList_appK _ rfl _ _ 25 rfl i1 Try.underlying25 hi hz0 hz1 hz2 _ [] rfl (ownK_empty hw2s) _ n c _ ms rfl (ho1.out.alloc _).marks (by simp; omega) (by simp; omega) ?_; intro A₃ n₃ c₃ w3 ho3 hg3; have hb3 := hide ((hb2.out.alloc hw2s _).grown hg3 (by simp; omega) (fun j hj => ((ownK_empty hw2s).row.lt j hj).1)); have hs3 : w2.heap.size + 1 ≤ w3.heap.size := (by have := hg3.size; simpa using this); have hm3 := hide ((ho2.out.marks.alloc (Nat.le_refl _) _).grownB hg3 (by simp) (fun j hj => by have := ((ownK_empty (w := w2) (Nat.le_refl _)).row.lt j hj).1; exact this)); replace ho3 := hide (show OwnK w3 w.heap.size (.slice A₃ n₃ c₃) ms from ho3); clear hg3)
            | (at_builtin; refine wpList_appK _ rfl _ _ 25 rfl i1 Try.underlying25 hi hz0 hz1 hz2 _ ms rfl ho3.out _ n2 c2 _ ms2 rfl hm3.out (by have := hb3.out.size; omega) (by have := hl1.out; omega) ?_; intro A₄ n₄ c₄ w4 ho4 hg4; have hb4 := hide (hb3.out.grown hg4 hb3.out.size (fun j hj => (ho3.out.row.lt j hj).1)); replace ho4 := hide ho4; have hs4 := hb4.out.size; clear hg4)
            | (at_builtin; refine wpList_appK _ rfl _ _ 25 rfl i1 Try.underlying25 hi hz0 hz1 hz2 _ (ms ++ ms2) rfl (ho4.out.alloc _) _ 1 1 _ [(3, 0)] rfl (marks_lit1 hwK hw0) (by simp; omega) (by have := hl1.out; have := hl2.out; simp; omega) ?_; intro A₅ n₅ c₅ w5 ho5 hg5; have hb5 := hide ((hb4.out.alloc hs4 (.cells #[.int .i64 3, .int .i64 0] 57)).grown hg5 (by simp; omega) (fun j hj => (ho4.out.row.lt j hj).1)); replace ho5 := hide ho5; clear hg5))
          have hn5 : n₅ = n + n2 + 1 := by
            have := ho5.out.len
            simp only [List.length_append, List.length_cons, List.length_nil] at this
            have := hl1.out
            have := hl2.out
            omega
          subst hn5
          go_wp2_with fail
          go_roundw
          case rel => exact ⟨_, _, _, _, _, rfl, rfl, hnn, ho5, hb5, hst2⟩
          case measure => exact hmz.out
        · have ha1 : (((s[p]'hpl).toNat : Int) == 124) = false := by simp; omega
          have ha2 : (((s[p]'hpl).toNat : Int) != 124) = true := by simp; omega
          have hng := hide (fun h => h124 (u8_124.1 h))
          clear h124
          go_wp2_with fail
          go_ret2
          exact ⟨_, _, _, _, _, rfl, ho.out, hb.out, hnb, told_yes (p := p) (by rw [hf.out]; exact orL_end (pRow (pAtom (pOr m))) j t hdp.out hng.out) hp1 hp2 hms.out rfl⟩
      · have hde := hide (bts_end s p (by omega))
        go_wp2_with fail
        go_ret2
        exact ⟨_, _, _, _, _, rfl, ho.out, hb.out, hnb, told_yes (p := p) (by rw [hf.out, hde.out]; cases j <;> rfl) hp1 hp2 hms.out rfl⟩
end Go.Proofs.Ytffllkmaifjpfab

namespace Go.Proofs.Ytffllkmaifjpfab
open Go.RowKit
set_option linter.unusedVariables false

theorem l9Or_all (s : ByteArray) (hs : s.size ≤ 60) : ∀ (m k : Nat) (w : World), k ≤ s.size → s.size - k ≤ m →
    Calls Try.prog 50 #[.string s, .int .i64 (k : Int)] w fun e w' => Reads (pOr (m + 1)) s k w e w'
  | 0, k, w, hk, hm => l9Or_c s 0 k w hs hk fun k' w1 hk1 hk2 => l9Row_c s 0 k' w1 hs hk2 fun k2 w2 hk3 hk4 => l9Atom_c s 0 k2 w2 hs hk4 fun w3 hlt => by omega
  | m + 1, k, w, hk, hm => l9Or_c s (m + 1) k w hs hk fun k' w1 hk1 hk2 => l9Row_c s (m + 1) k' w1 hs hk2 fun k2 w2 hk3 hk4 => l9Atom_c s (m + 1) k2 w2 hs hk4 fun w3 hlt => by
      have := l9Or_all s hs m (k2 + 1) w3 (by omega) (by omega)
      rwa [show ((k2 + 1 : Nat) : Int) = (k2 : Int) + 1 by omega] at this

def readB (C : Int) (l : List UInt8) : Bool := (readT C l).isSome
theorem readL_none {C : Int} {l : List UInt8} (h : readT C l = none) : readL C l = [] ∧ readB C l = false := by unfold readL readB; rw [h]; exact ⟨rfl, rfl⟩
theorem readL_some {C : Int} {l : List UInt8} {x : Tr} (h : readT C l = some x) : readL C l = flat x ∧ readB C l = true := by unfold readL readB; rw [h]; exact ⟨rfl, rfl⟩
theorem readT_long {C : Int} {s : ByteArray} (h : ¬ s.size ≤ 60) : readT C (bts s) = none := by unfold readT; rw [if_neg (by rw [bts_len]; exact h)]
theorem readT_fail {C : Int} {s : ByteArray} (h60 : s.size ≤ 60) (h : pOr (s.size + 1) ((bts s).drop 0) = none) : readT C (bts s) = none := by
  unfold readT
  rw [if_pos (by rw [bts_len]; exact h60), bts_len]
  rw [List.drop_zero] at h
  rw [h]
theorem readT_more {C : Int} {s : ByteArray} {t : Tr} {p : Nat} (h60 : s.size ≤ 60) (hp : p < s.size) (h : pOr (s.size + 1) ((bts s).drop 0) = some (t, (bts s).drop p)) : readT C (bts s) = none := by
  unfold readT
  rw [if_pos (by rw [bts_len]; exact h60), bts_len]
  rw [List.drop_zero] at h
  rw [h, bts_drop s p hp]
theorem readT_end {C : Int} {s : ByteArray} {t : Tr} {p : Nat} (h60 : s.size ≤ 60) (hp : s.size ≤ p) (h : pOr (s.size + 1) ((bts s).drop 0) = some (t, (bts s).drop p)) : readT C (bts s) = if termOk C (flat t) = true ∧ txt t = bts s then some t else none := by
  unfold readT
  rw [if_pos (by rw [bts_len]; exact h60), bts_len]
  rw [List.drop_zero] at h
  rw [h, bts_end s p hp]
theorem txt_str {t : Tr} {s : ByteArray} : txt t = bts s ↔ strB (txt t) = s := ⟨fun h => by rw [h, strB_bts], fun h => by rw [← h, bts_strB]⟩

set_option maxRecDepth 100000 in
set_option maxHeartbeats 1600000 in
theorem readTerm_spec (C : Int) (s : ByteArray) (w : World) :
    Calls Try.prog 20 #[.int .i64 C, .string s] w fun e w' => ∃ A n c, e = .returned (.tuple #[.slice A n c, .bool (readB C (bts s))]) ∧ OwnK w' w.heap.size (.slice A n c) (readL C (bts s)) ∧ Below w.heap.size w w' := by
  by_cases h60 : s.size ≤ 60
  · have HO := hide (l9Or_all s h60 s.size 0 w (Nat.zero_le _) (Nat.le_refl _))
    go_enter Try.func20, Try.ntmps20
    go_wp2_with fail
    refine HO.out.mono ?_
    rintro e w1 ⟨A, n, c, z, ms, rfl, ho, hq, hn, ht⟩
    have ho := hide ho
    have hq := hide hq
    have hs1 := hq.out.size
    rcases told_cases ht with ⟨hf, rfl⟩ | ⟨t, p, hf, hp1, hp2, rfl, rfl⟩
    · have hr := hide (readL_none (readT_fail (C := C) h60 hf))
      have hne : ((-1 : Int) == (s.size : Int)) = false := by simp
      clear ht hf HO
      go_wp2_with fail
      go_ret2
      exact ⟨_, _, _, by rw [hr.out.2]; rfl, by rw [hr.out.1]; exact ownK_empty hs1, hq.out.alloc hs1 _⟩
    · by_cases hps : p < s.size
      · have hr := hide (readL_none (readT_more (C := C) h60 hps hf))
        have hne : ((p : Int) == (s.size : Int)) = false := by simp; omega
        clear ht hf HO
        go_wp2_with fail
        go_ret2
        exact ⟨_, _, _, by rw [hr.out.2]; rfl, by rw [hr.out.1]; exact ownK_empty hs1, hq.out.alloc hs1 _⟩
      · have hrd := readT_end (C := C) h60 (by omega) hf
        have heq : ((p : Int) == (s.size : Int)) = true := by simp; omega
        have HT := hide (termOk_spec C A n c w1.heap.size (flat t) w1 ho.out.marks (Nat.le_refl _) (by omega))
        have hpI : p = s.size := by omega
        subst hpI
        clear ht hf HO heq
        cases hok : termOk C (flat t) with
        | false =>
          have hr := hide (readL_none (hrd.trans (if_neg (fun h => by rw [hok] at h; exact absurd h.1 (by decide)))))
          rw [hok] at HT
          clear hok hrd
          go_wp2_with fail
          refine HT.out.mono ?_
          rintro e w2 ⟨rfl, hq2⟩
          have hq2 := hide (upB hq.out hq2)
          go_wp2_with fail
          go_ret2
          exact ⟨_, _, _, by rw [hr.out.2]; rfl, by rw [hr.out.1]; exact ownK_empty hq2.out.size, hq2.out.alloc hq2.out.size _⟩
        | true =>
          have hsm := termOk_small hok
          have h15 := (termOk_yes hok).2.2.1
          have HX := hide (fun (w2 : World) (hm : Marks w2 w2.heap.size A n c (flat t)) => l9Text_c t hsm h15 A n c _ w2 hm)
          rw [hok] at HT
          have htx := txt_str (t := t) (s := s)
          obtain ⟨SA, hSA⟩ : ∃ SA, Hid (strB (txt t) = SA) := ⟨_, hide rfl⟩
          rw [hSA.out] at HX htx
          by_cases hss : SA = s
          · have hr := hide (readL_some (hrd.trans (if_pos ⟨hok, htx.2 hss⟩)))
            subst hss
            clear hok hrd htx
            go_wp2_with fail
            refine HT.out.mono ?_
            rintro e w2 ⟨rfl, hq2⟩
            have ho2 := hide (ho.out.up hq2)
            have hq2 := hide (upB hq.out hq2)
            go_wp2_with fail
            refine (HX.out _ ho2.out.marks).mono ?_
            rintro e w3 ⟨rfl, q, rfl⟩
            go_wp2_with fail
            go_ret2
            exact ⟨_, _, _, by rw [hr.out.2]; rfl, by rw [hr.out.1]; exact ho2.out.drewN _, below_drewN hq2.out _⟩
          · have hr := hide (readL_none (hrd.trans (if_neg (fun h => hss (htx.1 h.2)))))
            have hb1 : (SA.toList == s.toList) = false := by
              rw [ByteArray.toList_eq, ByteArray.toList_eq]
              exact beq_eq_false_iff_ne.2 (fun h => hss (bts_inj h))
            clear hok hrd htx
            go_wp2_with fail
            refine HT.out.mono ?_
            rintro e w2 ⟨rfl, hq2⟩
            have ho2 := hide (ho.out.up hq2)
            have hq2 := hide (upB hq.out hq2)
            go_wp2_with fail
            refine (HX.out _ ho2.out.marks).mono ?_
            rintro e w3 ⟨rfl, q, rfl⟩
            go_wp2_with fail
            go_ret2
            exact ⟨_, _, _, by rw [hr.out.2]; rfl, by rw [hr.out.1]; exact ownK_empty hq2.out.size, (below_drewN hq2.out _).alloc hq2.out.size _⟩
  · have hr := hide (readL_none (readT_long (C := C) h60))
    have h61 : 60 < s.size := by omega
    go_enter Try.func20, Try.ntmps20
    go_wp2_with fail
    go_ret2
    exact ⟨_, _, _, by rw [hr.out.2]; rfl, by rw [hr.out.1]; exact ownK_empty (Nat.le_refl _), al1 _ _⟩
end Go.Proofs.Ytffllkmaifjpfab
