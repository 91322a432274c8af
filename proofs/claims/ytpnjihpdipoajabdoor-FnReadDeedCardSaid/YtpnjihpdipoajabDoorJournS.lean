/-
  Contracts of chapter 14, the specification's side: JournalText.
-/
import Derived.Test.YtpnjihpdipoajabDoorDeedS
import Derived.Test.YtpnjihpdipoajabDoorDeedM
import Derived.Test.YtpnjihpdipoajabDoorPlainAL
namespace Go.Proofs.YtpnjihpdipoajabDoor
open Go.RowKit
set_option linter.unusedVariables false

set_option maxRecDepth 100000 in
set_option maxHeartbeats 1600000 in
theorem journalText_spec (A : Option Addr) (n c B : Nat) (ds : List Ded) (w : World) (h : DdM w B A n c ds) (hB : B ≤ w.heap.size) (hn : n ≤ 1048576) :
    Calls Tryd.prog 16 #[.slice A n c] w fun e w' => e = .returned (.string (strB (journT ds))) ∧ Below w.heap.size w w' := by
  have hl := hide h.len
  have HS := hide (fun (k : Nat) x (hx : ds[k]? = some x) => journTo_step hx)
  have HZ := hide (fun (k : Nat) (hk : k ≤ n) => show (strB (journTo ds k)).size ≤ 12 * k by rw [strB_size]; exact journTo_len ds k)
  have HX := hide (fun (k : Nat) x (hx : ds[k]? = some x) (hd : deedB x = false) => journT_bad hx hd)
  have HE := hide (fun (hall : ∀ (k : Nat) x, ds[k]? = some x → deedB x = true) => journT_end hall)
  go_enter Tryd.func16, Tryd.ntmps16
  go_wp2
  go_loopw [3, 4] (fun v i wr => ∃ k : Nat, ∃ S : ByteArray, k ≤ n ∧ i = .int .i64 k ∧ v = .string S ∧ Hid (S = strB (journTo ds k)) ∧ Hid (∀ (j : Nat) x, j < k → ds[j]? = some x → deedB x = true) ∧ Hid (Below w.heap.size w wr)) (fun _ i _ => n - (intOf i).toNat)
  case atStart => exact ⟨0, ⟨#[]⟩, Nat.zero_le _, rfl, rfl, hide rfl, hide (fun j x hj _ => absurd hj (by omega)), hide (Below.refl _ _)⟩
  case round =>
    obtain ⟨k, S, hk, rfl, rfl, hS, hall, hb⟩ := hrel
    have hsz := HZ.out k hk
    rw [← hS.out] at hsz
    by_cases hlt : k < n
    · obtain ⟨b, off, x, rfl, hbB, hx, hc0, hc1, hc2⟩ := (h.below (hb.out.mono hB)).look hlt
      have HD := hide (fun W => deedText_spec x W)
      have hdl := deedT_len x
      rw [← strB_size] at hdl
      by_cases hd : deedB x = true
      · have hne := hide (deedT_ne.2 hd)
        have hnx := hide (show S ++ strB (deedT x) ++ ⟨#[10]⟩ = strB (journTo ds (k + 1)) by
          rw [HS.out k x hx.out, strB_append, strB_append, hS.out, ByteArray.append_assoc]; rfl)
        have hpos : ((strB (deedT x)).toList == []) = false := by
          rw [ByteArray.toList_eq]
          simpa [strB] using hne.out
        obtain ⟨T, hT⟩ : ∃ T, Hid (strB (deedT x) = T) := ⟨_, hide rfl⟩
        rw [hT.out] at HD hdl hnx hpos
        have hbs : b < wr.heap.size := by have := hb.out.size; omega
        go_wp2_with (go_at_call 9; refine (HD.out _).mono ?_; rintro e w2 ⟨rfl, hq⟩; have hc0 := (hq.cell (p := ⟨b, off + k * 3, none⟩) (by assumption)).trans hc0; have hc1 := (hq.cell (p := ⟨b, off + k * 3 + 1, none⟩) (by assumption)).trans hc1; have hc2 := (hq.cell (p := ⟨b, off + k * 3 + 2, none⟩) (by assumption)).trans hc2; have hbs := Nat.lt_of_lt_of_le hbs hq.size; replace hb := hide (upB hb.out hq); clear hq)
        go_roundw
        case rel => exact ⟨k + 1, _, by omega, by go_num, rfl, hnx, hide (fun j y hj hy => by
          rcases Nat.lt_or_ge j k with hjk | hjk
          · exact hall.out j y hjk hy
          · obtain rfl : j = k := by omega
            rw [hx.out] at hy; injection hy with hy; rw [← hy]; exact hd), hb⟩
        case measure => simp [intOf]; omega
      · have hd : deedB x = false := by simpa using hd
        have he := hide (show strB (journT ds) = ⟨#[]⟩ by rw [HX.out k x hx.out hd]; rfl)
        rw [show strB (deedT x) = ⟨#[]⟩ by rw [deedT_no hd]; rfl] at HD
        have hbs : b < wr.heap.size := by have := hb.out.size; omega
        clear hdl
        go_wp2_with (go_at_call 9; refine (HD.out _).mono ?_; rintro e w2 ⟨rfl, hq⟩; have hc0 := (hq.cell (p := ⟨b, off + k * 3, none⟩) (by assumption)).trans hc0; have hc1 := (hq.cell (p := ⟨b, off + k * 3 + 1, none⟩) (by assumption)).trans hc1; have hc2 := (hq.cell (p := ⟨b, off + k * 3 + 2, none⟩) (by assumption)).trans hc2; have hbs := Nat.lt_of_lt_of_le hbs hq.size; replace hb := hide (upB hb.out hq); clear hq)
        go_ret
        exact ⟨by rw [he.out]; rfl, hb.out⟩
    · obtain rfl : k = n := by omega
      have hE2 := HE.out (fun j x hx => hall.out j x (by have := hl.out; have := (List.getElem?_eq_some_iff.1 hx).1; omega) hx)
      have he := hide (show strB (journT ds) = S by rw [hE2, hS.out]; unfold journTo; rw [List.take_of_length_le (by have := hl.out; omega)])
      clear hE2
      go_wp2
      go_ret
      exact ⟨by rw [he.out]; rfl, hb.out⟩
end Go.Proofs.YtpnjihpdipoajabDoor
