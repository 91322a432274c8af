/-
  Contracts of chapter 14, the specification's side: l1Number, l15Step, l15Row, PlaceText.
-/
import Derived.Test.YtkgfbmlhplclfaaGreatDoorPlaceS
import Derived.Test.YtkgfbmlhplclfaaGreatDoorStr
import Derived.Laws.IdiomStrings
namespace Go.Proofs.YtkgfbmlhplclfaaGreatDoor
open Go.RowKit
set_option linter.unusedVariables false

theorem numT_dig {n : Nat} (h : n < 10) : strB (numT n) = ⟨#[UInt8.ofNat (48 + n)]⟩ := by rw [numT_small h]; rfl
/-- 'string' of one byte that lies in a block. -/
theorem conv_one (W : World) (g : Nat) (k : Int) (h0 : 0 ≤ k) (h1 : k < 256) (hc : W.cell? ⟨g, 0, none⟩ = some (.int .u8 k)) (c : Nat) :
    (convert 30 9 (.slice (some ⟨g, 0, none⟩) 1 c)).run Tryz.prog W = .ok (.string ⟨#[UInt8.ofNat k.toNat]⟩) W := by
  have hk : ((UInt8.ofNat k.toNat).toNat : Int) = k := by
    rw [UInt8.toNat_ofNat']
    omega
  have := run_convert_bytes_back (P := Tryz.prog) W 30 9 5 ⟨g, 0, none⟩ c [UInt8.ofNat k.toNat] Tryz.underlying30 Tryz.underlying5 Tryz.underlying9 (fun j hj => by
    have hj0 : j = 0 := by simpa using hj
    subst hj0
    rw [List.getElem_cons_zero, hk, ← hc]
    rfl)
  exact this
theorem conv_made (V : World) (k : Int) (h0 : 0 ≤ k) (h1 : k < 256) :
    (convert 30 9 (.slice (some ⟨V.heap.size, 0, none⟩) 1 1)).run Tryz.prog (V.alloc (.cells #[.int .u8 k] 5)) = .ok (.string ⟨#[UInt8.ofNat k.toNat]⟩) (V.alloc (.cells #[.int .u8 k] 5)) :=
  conv_one _ _ k h0 h1 (by rw [World.cell?_alloc_new]; rfl) 1

set_option maxRecDepth 100000 in
theorem l1Number_c (N : Nat) : ∀ (n : Int) (w : World), n.toNat = N → n ≤ 9223372036854775807 →
    Calls Tryz.prog 63 #[.int .i64 n] w fun e w' => e = .returned (.string (strB (numT N))) ∧ Below w.heap.size w w' := by
  induction N using Nat.strongRecOn with
  | _ N ih =>
    intro n w hN hb
    by_cases h10 : n < 10
    · by_cases h0 : n < 0
      · have he := hide (show strB (numT N) = ⟨#[UInt8.ofNat (48 : Int).toNat]⟩ by rw [show N = 0 by omega]; exact numT_dig (by omega))
        have hcv := conv_made w 48 (by decide) (by decide)
        go_enter Tryz.func63, Tryz.ntmps63
        go_wp2
        go_ret
        exact ⟨by rw [he.out]; rfl, al w _⟩
      · have he := hide (show strB (numT N) = ⟨#[UInt8.ofNat (48 + n).toNat]⟩ by
          rw [numT_dig (by omega), show (48 + n).toNat = 48 + N by omega])
        have hcv := conv_made w (48 + n) (by omega) (by omega)
        clear hN
        go_enter Tryz.func63, Tryz.ntmps63
        go_wp2
        go_ret
        exact ⟨by rw [he.out]; rfl, al w _⟩
    · obtain rfl : n = (N : Int) := by omega
      have HR := hide (fun (W : World) => ih (N / 10) (by omega) ((N : Int) / 10) W (by omega) (by omega))
      obtain ⟨SA, hSA⟩ : ∃ SA, Hid (strB (numT (N / 10)) = SA) := ⟨_, hide rfl⟩
      obtain ⟨K, hK⟩ : ∃ K, Hid (UInt8.ofNat (48 + (N : Int) % 10).toNat = K) := ⟨_, hide rfl⟩
      have hsz : SA.size ≤ 21 := by rw [← hSA.out, strB_size]; exact numT_len _
      have he := hide (show strB (numT N) = SA ++ ⟨#[K]⟩ by
        rw [numT_big (by omega) (by omega), strB_append, hSA.out, ← hK.out, show (48 + (N : Int) % 10).toNat = 48 + N % 10 by omega]; rfl)
      rw [hSA.out] at HR
      have HR2 := hide (fun (W : World) (hc : W.cell? ⟨w.heap.size, 0, none⟩ = some (.int .u8 (48 + (N : Int) % 10))) (hlt : w.heap.size < W.heap.size) => show Calls Tryz.prog 63 #[.int .i64 ((N : Int) / 10)] W (fun e w' => e = .returned (.string SA) ∧ Below W.heap.size W w' ∧ (convert 30 9 (.slice (some ⟨w.heap.size, 0, none⟩) 1 1)).run Tryz.prog w' = .ok (.string ⟨#[K]⟩) w') from
        (HR.out W).mono fun e w' ⟨he, hq⟩ => ⟨he, hq, by rw [← hK.out]; exact conv_one w' w.heap.size _ (by omega) (by omega) ((hq.cell (p := ⟨w.heap.size, 0, none⟩) hlt).trans hc) 1⟩)
      have hcv : ∀ V : World, (convert 30 9 (.slice (some ⟨V.heap.size, 0, none⟩) 1 1)).run Tryz.prog (V.alloc (.cells #[.int .u8 (48 + (N : Int) % 10)] 5)) = .ok (.string ⟨#[K]⟩) (V.alloc (.cells #[.int .u8 (48 + (N : Int) % 10)] 5)) := fun V => by rw [← hK.out]; exact conv_made V (48 + (N : Int) % 10) (by omega) (by omega)
      have hcv2 : ∀ V : World, (convert 30 9 (.slice (some ⟨V.heap.size, 0, none⟩) 1 1)).run Tryz.prog (V.alloc (.cells #[.int .u8 (48 + (N : Int) % 10)] 5)).drew = .ok (.string ⟨#[K]⟩) (V.alloc (.cells #[.int .u8 (48 + (N : Int) % 10)] 5)).drew := fun V => by
        rw [← hK.out]
        exact conv_one (V.alloc (.cells #[.int .u8 (48 + (N : Int) % 10)] 5)).drew V.heap.size (48 + (N : Int) % 10) (by omega) (by omega) (show (V.alloc (.cells #[.int .u8 (48 + (N : Int) % 10)] 5)).cell? ⟨V.heap.size, 0, none⟩ = _ by rw [World.cell?_alloc_new]; rfl) 1
      have hw1 : IntKind.i64.wrap ((N : Int) / 10) = (N : Int) / 10 := IntWalk.i64_in _ (by omega)
      have hw2 : ((N : Int)).tmod 10 = (N : Int) % 10 := Int.tmod_eq_emod_of_nonneg (by omega)
      have hw3 : IntKind.i64.wrap (48 + (N : Int) % 10) = 48 + (N : Int) % 10 := IntWalk.i64_in _ (by omega)
      have hw4 : IntKind.u8.wrap (48 + (N : Int) % 10) = 48 + (N : Int) % 10 := by
        show (48 + (N : Int) % 10) % 256 = _
        omega
      clear ih hN hb
      go_enter Tryz.func63, Tryz.ntmps63
      go_wp2_with fail
      go_region_with (first | (go_at_call 63; (with_reducible refine (HR2.out _ ?_ ?_).mono ?_); (focus (simp; done)); (focus (simp; done)); rintro e w' ⟨rfl, hq, hcw⟩) | (go_at_call 63; (with_reducible refine (HR.out _).mono ?_); rintro e w' ⟨rfl, hq⟩))
      all_goals
        go_wp2_with fail
        go_ret
        refine ⟨by rw [he.out]; rfl, ?_⟩
        repeat (first | exact Below.refl _ _ | with_reducible exact hq | with_reducible refine upB ?_ hq | with_reducible refine below_empty ?_ _ | with_reducible refine Below.drew ?_)

theorem l1Num_c (n : Int) (w : World) (hb : n ≤ 9223372036854775807) :
    Calls Tryz.prog 63 #[.int .i64 n] w fun e w' => e = .returned (.string (strB (numT n.toNat))) ∧ Below w.heap.size w w' := l1Number_c _ n w rfl hb

set_option maxRecDepth 100000 in
theorem l15Step_c (z : Int) (w : World) (h0 : -9223372036854775807 ≤ z) (h1 : z ≤ 9223372036854775807) :
    Calls Tryz.prog 44 #[.int .i64 z] w fun e w' => e = .returned (.string (strB (stepT z))) ∧ Below w.heap.size w w' := by
  by_cases hz : z < 0
  · have HN := hide (l1Num_c (-z) w (by omega))
    have hs := numT_len (-z).toNat
    rw [← strB_size] at hs
    obtain ⟨S, hS⟩ : ∃ S, Hid (strB (numT (-z).toNat) = S) := ⟨_, hide rfl⟩
    rw [hS.out] at HN hs
    have he := hide (show strB (stepT z) = ⟨#[45]⟩ ++ S by unfold stepT; rw [if_pos hz, strB_cons, hS.out])
    go_enter Tryz.func44, Tryz.ntmps44
    go_wp2_with (go_at_call 63; refine HN.out.mono ?_; rintro e w2 ⟨rfl, hq⟩)
    go_ret
    exact ⟨by rw [he.out]; rfl, hq⟩
  · have HN := hide (l1Num_c z w h1)
    have he := hide (show strB (stepT z) = strB (numT z.toNat) by unfold stepT; rw [if_neg hz])
    go_enter Tryz.func44, Tryz.ntmps44
    go_wp2_with (go_at_call 63; refine HN.out.mono ?_; rintro e w2 ⟨rfl, hq⟩)
    go_ret
    exact ⟨by rw [he.out]; rfl, hq⟩

set_option maxRecDepth 100000 in
set_option maxHeartbeats 800000 in
theorem l15Row_c (A : Option Addr) (n c B : Nat) (zs : List Int) (w : World) (h : Ints w B A n c zs) (hB : B ≤ w.heap.size) (hn : n ≤ 1000) :
    Calls Tryz.prog 43 #[.slice A n c] w fun e w' => e = .returned (.string (strB (rowT zs))) ∧ Below w.heap.size w w' := by
  have hl := hide h.len
  have HS := hide (fun (k : Nat) x (hx : zs[k]? = some x) => rowTo_step hx)
  have HZ := hide (fun (k : Nat) (hk : k ≤ n) => show (strB (rowTo zs k)).size ≤ 22 * k by rw [strB_size]; exact rowTo_len (by have := hl.out; omega))
  have HE := hide (rowT_to zs)
  have HW := hide h.wf
  go_enter Tryz.func43, Tryz.ntmps43
  go_wp2
  go_loopw [3, 4] (fun v i wr => ∃ k : Nat, ∃ S : ByteArray, k ≤ n ∧ i = .int .i64 k ∧ v = .string S ∧ Hid (S = strB (rowTo zs k)) ∧ Hid (Below w.heap.size w wr)) (fun _ i _ => n - (intOf i).toNat)
  case atStart => exact ⟨0, ⟨#[]⟩, Nat.zero_le _, rfl, rfl, hide rfl, hide (Below.refl _ _)⟩
  case round =>
    obtain ⟨k, S, hk, rfl, rfl, hS, hb⟩ := hrel
    have hsz := HZ.out k hk
    rw [← hS.out] at hsz
    by_cases hlt : k < n
    · obtain ⟨b, off, x, rfl, hbB, hx, hcell⟩ := (h.below (hb.out.mono hB)).look hlt
      have hxw := (i64_wf (HW.out x (List.mem_of_getElem? hx.out))).2
      have HN := hide (fun W => l1Num_c x W hxw)
      have hs2 := numT_len x.toNat
      rw [← strB_size] at hs2
      have hst := hide (congrArg strB (HS.out k x hx.out))
      obtain ⟨L, hL⟩ : ∃ L, Hid (strB (numT x.toNat) = L) := ⟨_, hide rfl⟩
      rw [hL.out] at HN hs2
      by_cases hk0 : k = 0
      · subst hk0
        rw [Nat.add_zero] at hcell
        have hnx := hide (show L = strB (rowTo zs 1) by rw [hst.out, if_pos rfl, hL.out])
        have hS0 : S = ⟨#[]⟩ := hS.out
        subst hS0
        go_wp2_with (go_at_call 63; refine (HN.out _).mono ?_; rintro e w2 ⟨rfl, hq⟩)
        go_roundw
        case rel => exact ⟨1, L, by omega, by go_num, by first | rfl | (congr 1; apply ByteArray.ext; simp), hnx, hide (upB hb.out hq)⟩
        case measure => simp [intOf] <;> omega
      · have hkp : 0 < k := by omega
        have hnx := hide (show S ++ ⟨#[44]⟩ ++ L = strB (rowTo zs (k + 1)) by rw [hst.out, if_neg hk0, strB_append, strB_cons, hL.out, hS.out, ByteArray.append_assoc])
        go_wp2_with (go_at_call 63; refine (HN.out _).mono ?_; rintro e w2 ⟨rfl, hq⟩)
        go_roundw
        case rel => exact ⟨k + 1, _, by omega, by go_num, rfl, hnx, hide (upB hb.out hq)⟩
        case measure => simp [intOf]; omega
    · obtain rfl : k = n := by omega
      by_cases hk0 : k = 0
      · subst hk0
        have hz : zs = [] := List.eq_nil_of_length_eq_zero hl.out
        have he := hide (show strB (rowT zs) = ⟨#[110, 111, 110, 101]⟩ by rw [HE.out, if_pos hz]; rfl)
        go_wp2
        go_ret
        exact ⟨by rw [he.out]; rfl, hb.out⟩
      · have hz : zs ≠ [] := fun e => hk0 (by have := hl.out; rw [e] at this; exact this.symm)
        have he := hide (show strB (rowT zs) = S by rw [HE.out, if_neg hz, hl.out, hS.out])
        go_wp2
        go_ret
        exact ⟨by rw [he.out]; rfl, hb.out⟩
end Go.Proofs.YtkgfbmlhplclfaaGreatDoor
