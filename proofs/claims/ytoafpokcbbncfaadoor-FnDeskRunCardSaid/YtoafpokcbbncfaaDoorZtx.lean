/-
  Words, plain lemmas and contracts that belong together, joined into one file.
-/
import Derived.Test.YtoafpokcbbncfaaDoorPlaceS
import Derived.Test.YtoafpokcbbncfaaDoorZpb
import Derived.Laws.IdiomStrings
namespace Go.Proofs.YtoafpokcbbncfaaDoor
open Go.RowKit
set_option linter.unusedVariables false

theorem numT_dig {n : Nat} (h : n < 10) : strB (numT n) = ⟨#[UInt8.ofNat (48 + n)]⟩ := by rw [numT_small h]; rfl
/-- 'string' of one byte that lies in a block. -/
theorem conv_one (W : World) (g : Nat) (k : Int) (h0 : 0 ≤ k) (h1 : k < 256) (hc : W.cell? ⟨g, 0, none⟩ = some (.int .u8 k)) (c : Nat) :
    (convert 52 9 (.slice (some ⟨g, 0, none⟩) 1 c)).run Tryd.prog W = .ok (.string ⟨#[UInt8.ofNat k.toNat]⟩) W := by
  have hk : ((UInt8.ofNat k.toNat).toNat : Int) = k := by
    rw [UInt8.toNat_ofNat']
    omega
  have := run_convert_bytes_back (P := Tryd.prog) W 52 9 5 ⟨g, 0, none⟩ c [UInt8.ofNat k.toNat] Tryd.underlying52 Tryd.underlying5 Tryd.underlying9 (fun j hj => by
    have hj0 : j = 0 := by simpa using hj
    subst hj0
    rw [List.getElem_cons_zero, hk, ← hc]
    rfl)
  exact this
theorem conv_made (V : World) (k : Int) (h0 : 0 ≤ k) (h1 : k < 256) :
    (convert 52 9 (.slice (some ⟨V.heap.size, 0, none⟩) 1 1)).run Tryd.prog (V.alloc (.cells #[.int .u8 k] 5)) = .ok (.string ⟨#[UInt8.ofNat k.toNat]⟩) (V.alloc (.cells #[.int .u8 k] 5)) :=
  conv_one _ _ k h0 h1 (by rw [World.cell?_alloc_new]; rfl) 1

set_option maxRecDepth 100000 in
theorem l1Number_c (N : Nat) : ∀ (n : Int) (w : World), n.toNat = N → n ≤ 9223372036854775807 →
    Calls Tryd.prog 113 #[.int .i64 n] w fun e w' => e = .returned (.string (strB (numT N))) ∧ Below w.heap.size w w' := by
  induction N using Nat.strongRecOn with
  | _ N ih =>
    intro n w hN hb
    by_cases h10 : n < 10
    · by_cases h0 : n < 0
      · have he := hide (show strB (numT N) = ⟨#[UInt8.ofNat (48 : Int).toNat]⟩ by rw [show N = 0 by omega]; exact numT_dig (by omega))
        have hcv := conv_made w 48 (by decide) (by decide)
        go_enter Tryd.func113, Tryd.ntmps113
        go_wp2
        go_ret
        exact ⟨by rw [he.out]; rfl, al w _⟩
      · have he := hide (show strB (numT N) = ⟨#[UInt8.ofNat (48 + n).toNat]⟩ by
          rw [numT_dig (by omega), show (48 + n).toNat = 48 + N by omega])
        have hcv := conv_made w (48 + n) (by omega) (by omega)
        clear hN
        go_enter Tryd.func113, Tryd.ntmps113
        go_wp2
        go_ret
        exact ⟨by rw [he.out]; rfl, al w _⟩
    · obtain rfl : n = (N : Int) := by omega
      have HR := hide (fun (W : World) => ih (N / 10) (by omega) ((N : Int) / 10) W (by omega) (by omega))
      obtain ⟨SA, hSA⟩ : ∃ SA, Hid (strB (numT (N / 10)) = SA) := ⟨_, hide rfl⟩
      obtain ⟨K, hK⟩ : ∃ K, Hid (UInt8.ofNat (48 + (N : Int) % 10).toNat = K) := ⟨_, hide rfl⟩
      have hsz : SA.size ≤ 21 := by rw [← hSA.out, strB_size]; exact numT_len _
      have he := hide (show strB (numT N) = SA ++ ⟨#[K]⟩ by
        rw [numT_big (by omega) (by omega), strB_append, hSA.out, ← hK.out, show (48 + (N : Int) % 10).toNat = 48 + N % 10 by omega]; rfl)
      rw [hSA.out] at HR
      have HR2 := hide (fun (W : World) (hc : W.cell? ⟨w.heap.size, 0, none⟩ = some (.int .u8 (48 + (N : Int) % 10))) (hlt : w.heap.size < W.heap.size) => show Calls Tryd.prog 113 #[.int .i64 ((N : Int) / 10)] W (fun e w' => e = .returned (.string SA) ∧ Below W.heap.size W w' ∧ (convert 52 9 (.slice (some ⟨w.heap.size, 0, none⟩) 1 1)).run Tryd.prog w' = .ok (.string ⟨#[K]⟩) w') from
        (HR.out W).mono fun e w' ⟨he, hq⟩ => ⟨he, hq, by rw [← hK.out]; exact conv_one w' w.heap.size _ (by omega) (by omega) ((hq.cell (p := ⟨w.heap.size, 0, none⟩) hlt).trans hc) 1⟩)
      have hcv : ∀ V : World, (convert 52 9 (.slice (some ⟨V.heap.size, 0, none⟩) 1 1)).run Tryd.prog (V.alloc (.cells #[.int .u8 (48 + (N : Int) % 10)] 5)) = .ok (.string ⟨#[K]⟩) (V.alloc (.cells #[.int .u8 (48 + (N : Int) % 10)] 5)) := fun V => by rw [← hK.out]; exact conv_made V (48 + (N : Int) % 10) (by omega) (by omega)
      have hcv2 : ∀ V : World, (convert 52 9 (.slice (some ⟨V.heap.size, 0, none⟩) 1 1)).run Tryd.prog (V.alloc (.cells #[.int .u8 (48 + (N : Int) % 10)] 5)).drew = .ok (.string ⟨#[K]⟩) (V.alloc (.cells #[.int .u8 (48 + (N : Int) % 10)] 5)).drew := fun V => by
        rw [← hK.out]
        exact conv_one (V.alloc (.cells #[.int .u8 (48 + (N : Int) % 10)] 5)).drew V.heap.size (48 + (N : Int) % 10) (by omega) (by omega) (show (V.alloc (.cells #[.int .u8 (48 + (N : Int) % 10)] 5)).cell? ⟨V.heap.size, 0, none⟩ = _ by rw [World.cell?_alloc_new]; rfl) 1
      have hw1 : IntKind.i64.wrap ((N : Int) / 10) = (N : Int) / 10 := IntWalk.i64_in _ (by omega)
      have hw2 : ((N : Int)).tmod 10 = (N : Int) % 10 := Int.tmod_eq_emod_of_nonneg (by omega)
      have hw3 : IntKind.i64.wrap (48 + (N : Int) % 10) = 48 + (N : Int) % 10 := IntWalk.i64_in _ (by omega)
      have hw4 : IntKind.u8.wrap (48 + (N : Int) % 10) = 48 + (N : Int) % 10 := by
        show (48 + (N : Int) % 10) % 256 = _
        omega
      clear ih hN hb
      go_enter Tryd.func113, Tryd.ntmps113
      go_wp2_with fail
      go_region_with (first | (go_at_call 113; (with_reducible refine (HR2.out _ ?_ ?_).mono ?_); (focus (simp; done)); (focus (simp; done)); rintro e w' ⟨rfl, hq, hcw⟩) | (go_at_call 113; (with_reducible refine (HR.out _).mono ?_); rintro e w' ⟨rfl, hq⟩))
      all_goals
        go_wp2_with fail
        go_ret
        refine ⟨by rw [he.out]; rfl, ?_⟩
        repeat (first | exact Below.refl _ _ | with_reducible exact hq | with_reducible refine upB ?_ hq | with_reducible refine below_empty ?_ _ | with_reducible refine Below.drew ?_)

theorem l1Num_c (n : Int) (w : World) (hb : n ≤ 9223372036854775807) :
    Calls Tryd.prog 113 #[.int .i64 n] w fun e w' => e = .returned (.string (strB (numT n.toNat))) ∧ Below w.heap.size w w' := l1Number_c _ n w rfl hb

set_option maxRecDepth 100000 in
theorem l15Step_c (z : Int) (w : World) (h0 : -9223372036854775807 ≤ z) (h1 : z ≤ 9223372036854775807) :
    Calls Tryd.prog 84 #[.int .i64 z] w fun e w' => e = .returned (.string (strB (stepT z))) ∧ Below w.heap.size w w' := by
  by_cases hz : z < 0
  · have HN := hide (l1Num_c (-z) w (by omega))
    have hs := numT_len (-z).toNat
    rw [← strB_size] at hs
    obtain ⟨S, hS⟩ : ∃ S, Hid (strB (numT (-z).toNat) = S) := ⟨_, hide rfl⟩
    rw [hS.out] at HN hs
    have he := hide (show strB (stepT z) = ⟨#[45]⟩ ++ S by unfold stepT; rw [if_pos hz, strB_cons, hS.out])
    go_enter Tryd.func84, Tryd.ntmps84
    go_wp2_with (go_at_call 113; refine HN.out.mono ?_; rintro e w2 ⟨rfl, hq⟩)
    go_ret
    exact ⟨by rw [he.out]; rfl, hq⟩
  · have HN := hide (l1Num_c z w h1)
    have he := hide (show strB (stepT z) = strB (numT z.toNat) by unfold stepT; rw [if_neg hz])
    go_enter Tryd.func84, Tryd.ntmps84
    go_wp2_with (go_at_call 113; refine HN.out.mono ?_; rintro e w2 ⟨rfl, hq⟩)
    go_ret
    exact ⟨by rw [he.out]; rfl, hq⟩

set_option maxRecDepth 100000 in
set_option maxHeartbeats 800000 in
theorem l15Row_c (A : Option Addr) (n c B : Nat) (zs : List Int) (w : World) (h : Ints w B A n c zs) (hB : B ≤ w.heap.size) (hn : n ≤ 1000) :
    Calls Tryd.prog 83 #[.slice A n c] w fun e w' => e = .returned (.string (strB (rowT zs))) ∧ Below w.heap.size w w' := by
  have hl := hide h.len
  have HS := hide (fun (k : Nat) x (hx : zs[k]? = some x) => rowTo_step hx)
  have HZ := hide (fun (k : Nat) (hk : k ≤ n) => show (strB (rowTo zs k)).size ≤ 22 * k by rw [strB_size]; exact rowTo_len (by have := hl.out; omega))
  have HE := hide (rowT_to zs)
  have HW := hide h.wf
  go_enter Tryd.func83, Tryd.ntmps83
  go_wp2
  go_loopw [3, 4] (fun v i wr => ∃ k : Nat, ∃ S : ByteArray, k ≤ n ∧ i = .int .i64 k ∧ v = .string S ∧ Hid (S = strB (rowTo zs k)) ∧ Hid (Below w.heap.size w wr)) (fun _ i _ => n - (intOf i).toNat)
  case atStart => exact ⟨0, ⟨#[]⟩, Nat.zero_le _, rfl, rfl, hide rfl, hide (Below.refl _ _)⟩
  case round =>
    obtain ⟨k, S, hk, rfl, rfl, hS, hb⟩ := hrel
    have hsz := HZ.out k hk
    rw [← hS.out] at hsz
    by_cases hlt : k < n
    · obtain ⟨b, off, x, rfl, hbB, hx, hcell⟩ := (h.below (hb.out.mono hB)).look hlt
      have hxw := (i64_wf (HW.out x (List.mem_of_getElem? hx.out))).2
      have HN := hide (fun W => l1Num_c x W hxw)
      have hs2 := numT_len x.toNat
      rw [← strB_size] at hs2
      have hst := hide (congrArg strB (HS.out k x hx.out))
      obtain ⟨L, hL⟩ : ∃ L, Hid (strB (numT x.toNat) = L) := ⟨_, hide rfl⟩
      rw [hL.out] at HN hs2
      by_cases hk0 : k = 0
      · subst hk0
        rw [Nat.add_zero] at hcell
        have hnx := hide (show L = strB (rowTo zs 1) by rw [hst.out, if_pos rfl, hL.out])
        have hS0 : S = ⟨#[]⟩ := hS.out
        subst hS0
        go_wp2_with (go_at_call 113; refine (HN.out _).mono ?_; rintro e w2 ⟨rfl, hq⟩)
        go_roundw
        case rel => exact ⟨1, L, by omega, by go_num, by first | rfl | (congr 1; apply ByteArray.ext; simp), hnx, hide (upB hb.out hq)⟩
        case measure => simp [intOf] <;> omega
      · have hkp : 0 < k := by omega
        have hnx := hide (show S ++ ⟨#[44]⟩ ++ L = strB (rowTo zs (k + 1)) by rw [hst.out, if_neg hk0, strB_append, strB_cons, hL.out, hS.out, ByteArray.append_assoc])
        go_wp2_with (go_at_call 113; refine (HN.out _).mono ?_; rintro e w2 ⟨rfl, hq⟩)
        go_roundw
        case rel => exact ⟨k + 1, _, by omega, by go_num, rfl, hnx, hide (upB hb.out hq)⟩
        case measure => simp [intOf]; omega
    · obtain rfl : k = n := by omega
      by_cases hk0 : k = 0
      · subst hk0
        have hz : zs = [] := List.eq_nil_of_length_eq_zero hl.out
        have he := hide (show strB (rowT zs) = ⟨#[110, 111, 110, 101]⟩ by rw [HE.out, if_pos hz]; rfl)
        go_wp2
        go_ret
        exact ⟨by rw [he.out]; rfl, hb.out⟩
      · have hz : zs ≠ [] := fun e => hk0 (by have := hl.out; rw [e] at this; exact this.symm)
        have he := hide (show strB (rowT zs) = S by rw [HE.out, if_neg hz, hl.out, hS.out])
        go_wp2
        go_ret
        exact ⟨by rw [he.out]; rfl, hb.out⟩
end Go.Proofs.YtoafpokcbbncfaaDoor

namespace Go.Proofs.YtoafpokcbbncfaaDoor
open Go.RowKit
set_option linter.unusedVariables false

theorem abc_cut {c : Nat} (h : c < 3) : (⟨#[97, 98, 99]⟩ : ByteArray).extract c (c + 1) = strB [UInt8.ofNat (97 + c)] := by
  match c, h with
  | 0, _ => decide
  | 1, _ => decide
  | 2, _ => decide
set_option maxRecDepth 100000 in
set_option maxHeartbeats 1600000 in
theorem placeText_spec (v : Value) (p : Plc) (B : Nat) (w : World) (h : PlM w B v p) (hB : B ≤ w.heap.size) :
    Calls Tryd.prog 42 #[v] w fun e w' => e = .returned (.string (strB (placeT p))) ∧ Below w.heap.size w w' := by
  obtain ⟨A, n, c, A', n', c', rfl, h1, h2, hwf⟩ := h.ex
  obtain ⟨W0, hW0⟩ : ∃ W0, Hid (w.alloc (.cells #[.slice A n c, .int .i64 p.step, .slice A' n' c'] 31) = W0) := ⟨_, hide rfl⟩
  have hq0 := hide (show Below w.heap.size w W0 by rw [← hW0.out]; exact al w _)
  have ht0 := hide (show Tri W0 w.heap.size (.slice A n c) (.int .i64 p.step) (.slice A' n' c') by rw [← hW0.out]; exact Tri.made w _ _ _ _)
  have hl := hide h1.len
  have hl' := hide h2.len
  have i1 := hide ((h1.more hB).up hq0.out)
  have i2 := hide ((h2.more hB).up hq0.out)
  have HO := hide (placeOk_spec _ p _ W0 (plM_mk i1.out i2.out hwf) (Nat.le_refl _))
  by_cases hok : placeOk p = true
  · rw [hok] at HO
    obtain ⟨⟨g1, g3⟩, gz, ⟨gs0, gs1⟩, g6, gw⟩ := placeOk_yes hok
    have hn3 : n ≤ 3 := by have := hl.out; omega
    have hn6 : n' ≤ 6 := by have := hl'.out; omega
    have HW := hide (fun (k : Nat) x (hx : p.word[k]? = some x) => show 0 ≤ x ∧ x < 3 by have := gw x (List.mem_of_getElem? hx); omega)
    have HS := hide (fun (k : Nat) x (hx : p.word[k]? = some x) => wordTo_step hx)
    have HZ := hide (fun (k : Nat) (hk : k ≤ n') => show (strB (wordTo p.word k)).size ≤ k + 1 by rw [strB_size]; exact wordTo_len _ _)
    have HE := hide (wordT_to p.word)
    have hfin := hide (show strB (placeT p) = strB (rowT p.start) ++ ⟨#[32]⟩ ++ strB (stepT p.step) ++ ⟨#[32]⟩ ++ strB (wordT p.word) by
      rw [placeT_ok hok]; unfold rawT
      rw [strB_append, strB_cons, strB_append, strB_cons]
      simp only [ByteArray.append_assoc])
    have hz1 := (show (strB (rowT p.start)).size ≤ 8 by rw [strB_size]; exact rowT_len g3 gz)
    have hz2 := (show (strB (stepT p.step)).size ≤ 3 by rw [strB_size]; exact (step_at (by omega) (by omega)).2.2.2)
    obtain ⟨S1, hS1⟩ : ∃ S, Hid (strB (rowT p.start) = S) := ⟨_, hide rfl⟩
    obtain ⟨S2, hS2⟩ : ∃ S, Hid (strB (stepT p.step) = S) := ⟨_, hide rfl⟩
    rw [hS1.out, hS2.out] at hfin
    rw [hS1.out] at hz1
    rw [hS2.out] at hz2
    clear gz gw hok g1 g3 g6
    have hW1 := hW0.out
    subst hW1
    go_enter Tryd.func42, Tryd.ntmps42
    go_wp2_with (go_at_call 41; refine HO.out.mono ?_; rintro e w2 ⟨rfl, hq2⟩)
    have hq2 := hide hq2
    go_loopw [3, 4] (fun v i wr => ∃ k : Nat, ∃ S : ByteArray, k ≤ n' ∧ i = .int .i64 k ∧ v = .string S ∧ Hid (S = strB (wordTo p.word k)) ∧ Hid (Below (w.alloc (.cells #[.slice A n c, .int .i64 p.step, .slice A' n' c'] 31)).heap.size (w.alloc (.cells #[.slice A n c, .int .i64 p.step, .slice A' n' c'] 31)) wr)) (fun _ i _ => n' - (intOf i).toNat)
    case atStart => exact ⟨0, ⟨#[46]⟩, Nat.zero_le _, rfl, rfl, hide rfl, hq2⟩
    case round =>
      obtain ⟨k, S, hk, rfl, rfl, hS, hb⟩ := hrel
      obtain ⟨f0, f1, f2, f3⟩ := ht0.out.up hb.out
      have hsz := HZ.out k hk
      rw [← hS.out] at hsz
      by_cases hlt : k < n'
      · obtain ⟨b, off, x, rfl, hbB, hx, hcell⟩ := (i2.out.up hb.out).look hlt
        obtain ⟨x0, x3⟩ := HW.out k x hx.out
        obtain ⟨cc, rfl⟩ : ∃ cc : Nat, x = (cc : Int) := ⟨x.toNat, by omega⟩
        have hst := hide (congrArg strB (HS.out k _ hx.out))
        have hcut := abc_cut (c := cc) (by omega)
        obtain ⟨L, hL⟩ : ∃ L, Hid (strB [UInt8.ofNat (97 + cc)] = L) := ⟨_, hide rfl⟩
        have hLs : L.size = 1 := by rw [← hL.out, strB_size]; rfl
        rw [hL.out] at hcut
        by_cases hk0 : k = 0
        · subst hk0
          rw [Nat.add_zero] at hcell
          have hnx := hide (show ⟨#[]⟩ ++ L = strB (wordTo p.word 1) by rw [hst.out, if_pos rfl, strB_append]; show _ = _ ++ strB ([UInt8.ofNat (97 + ((cc : Int)).toNat)]); rw [Int.toNat_natCast, hL.out]; rfl)
          go_wp2_with fail
          go_quiet (fail)
          go_wp2_with fail
          go_roundw
          case rel => exact ⟨1, _, by omega, by go_num, rfl, hnx, hide (below_drewN hb.out _)⟩
          case measure => simp [intOf] <;> omega
        · have hkp : 0 < k := by omega
          have hnx := hide (show S ++ L = strB (wordTo p.word (k + 1)) by rw [hst.out, if_neg hk0, strB_append, hS.out]; show _ = _ ++ strB ([UInt8.ofNat (97 + ((cc : Int)).toNat)]); rw [Int.toNat_natCast, hL.out])
          go_wp2_with fail
          go_quiet (fail)
          go_wp2_with fail
          go_roundw
          case rel => exact ⟨k + 1, _, by omega, by go_num, rfl, hnx, hide (below_drewN hb.out _)⟩
          case measure => simp [intOf]; omega
      · obtain rfl : n' = k := by omega
        have hS3 := hide (show S = strB (wordT p.word) by rw [hS.out, HE.out, hl'.out])
        have HA := hide (fun (W : World) (hq : Below (w.alloc (.cells #[.slice A n c, .int .i64 p.step, .slice A' n' c'] 31)).heap.size (w.alloc (.cells #[.slice A n c, .int .i64 p.step, .slice A' n' c'] 31)) W) => show Calls Tryd.prog 83 #[.slice A n c] W (fun e w' => e = .returned (.string S1) ∧ Below (w.alloc (.cells #[.slice A n c, .int .i64 p.step, .slice A' n' c'] 31)).heap.size (w.alloc (.cells #[.slice A n c, .int .i64 p.step, .slice A' n' c'] 31)) w' ∧ w'.cell? ⟨w.heap.size, 0, none⟩ = some (.slice A n c) ∧ w'.cell? ⟨w.heap.size, 1, none⟩ = some (.int .i64 p.step)) from
          (l15Row_c A n c _ p.start W (i1.out.up hq) (Nat.le_refl _) (by omega)).mono fun e w' ⟨e1, hq'⟩ => by
            have hk := ht0.out.up (upB hq hq')
            rw [hS1.out] at e1
            exact ⟨e1, upB hq hq', hk.c0, hk.c1⟩)
        have HB := hide (fun (W : World) (hq : Below (w.alloc (.cells #[.slice A n c, .int .i64 p.step, .slice A' n' c'] 31)).heap.size (w.alloc (.cells #[.slice A n c, .int .i64 p.step, .slice A' n' c'] 31)) W) => show Calls Tryd.prog 84 #[.int .i64 p.step] W (fun e w' => e = .returned (.string S2) ∧ Below (w.alloc (.cells #[.slice A n c, .int .i64 p.step, .slice A' n' c'] 31)).heap.size (w.alloc (.cells #[.slice A n c, .int .i64 p.step, .slice A' n' c'] 31)) w' ∧ w'.cell? ⟨w.heap.size, 0, none⟩ = some (.slice A n c) ∧ w'.cell? ⟨w.heap.size, 1, none⟩ = some (.int .i64 p.step)) from
          (l15Step_c p.step W (by omega) (by omega)).mono fun e w' ⟨e1, hq'⟩ => by
            have hk := ht0.out.up (upB hq hq')
            rw [hS2.out] at e1
            exact ⟨e1, upB hq hq', hk.c0, hk.c1⟩)
        rw [← hS3.out] at hfin
        have hb := hb.out
        have q1 : ¬ 9223372036854775807 < S1.size + 1 := by omega
        have q2 : ¬ 9223372036854775807 < S1.size + 1 + S2.size := by omega
        have q3 : ¬ 9223372036854775807 < S1.size + 1 + S2.size + 1 := by omega
        have q4 : ¬ 9223372036854775807 < S1.size + 1 + S2.size + 1 + S.size := by omega
        go_wp2_with fail
        go_region_held3 (fun W => W.cell? ⟨w.heap.size, 0, none⟩ = some (.slice A n c) ∧ W.cell? ⟨w.heap.size, 1, none⟩ = some (.int .i64 p.step)) (first | exact ⟨f0, f1⟩ | exact ⟨k0, k1⟩ | exact ⟨m0, m1⟩) (first | (go_at_call 83; (with_reducible refine (HA.out _ ?_).mono ?_); (focus (repeat (first | assumption | exact Below.refl _ _ | refine Below.drew ?_)); done); rintro e w' ⟨rfl, hq, k0, k1⟩) | (go_at_call 84; (with_reducible refine (HB.out _ ?_).mono ?_); (focus (repeat (first | assumption | exact Below.refl _ _ | refine Below.drew ?_)); done); rintro e w' ⟨rfl, hq, m0, m1⟩))
        all_goals
          go_wp2_with fail
          go_ret
          exact ⟨by rw [hfin.out]; rfl, upB hq0.out (by assumption)⟩
  · have hok : placeOk p = false := by simpa using hok
    rw [hok] at HO
    have he := hide (show strB (placeT p) = ⟨#[]⟩ by rw [placeT_no hok]; rfl)
    have hW1 := hW0.out
    subst hW1
    go_enter Tryd.func42, Tryd.ntmps42
    go_wp2_with (go_at_call 41; refine HO.out.mono ?_; rintro e w2 ⟨rfl, hq2⟩)
    go_ret
    exact ⟨by rw [he.out]; rfl, upB hq0.out hq2⟩
end Go.Proofs.YtoafpokcbbncfaaDoor
