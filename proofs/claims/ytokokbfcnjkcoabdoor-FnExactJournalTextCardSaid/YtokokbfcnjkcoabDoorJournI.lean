/-
  Contracts of chapter 14, the program: JournalText.
-/
import Derived.Test.YtokokbfcnjkcoabDoorDeedK
import Derived.Test.YtokokbfcnjkcoabDoorJournS
import Derived.Shelf.Strings.Builder1
namespace Go.Proofs.YtokokbfcnjkcoabDoor
open Go.RowKit
set_option linter.unusedVariables false

abbrev IsB (B b : Nat) (bs : List Value) (w : World) : Prop := Lib.IsBuilder 78 5 B b bs w
theorem writeString_c (B b : Nat) (l : Bs) (s : ByteArray) (w : World) (h : IsB B b (Lib.byteCells l) w) (hlen : l.length + s.size ≤ 140737488355328) (hBw : B ≤ w.heap.size) :
    Calls Tryd.prog 49 #[.pointer (some ⟨b, 0, none⟩), .string s] w fun e w' => e = .returned (.tuple #[.int .i64 s.size, .nilIface]) ∧ IsB B b (Lib.byteCells (l ++ bts s)) w' ∧ Below B w w' :=
  (Any.Builder_WriteString { Tryd.lays156 with } Tryd.Builder_Extra_156 B b (Lib.byteCells l) s w h (by rw [Lib.byteCells_length]; exact hlen) hBw).mono fun e w' ⟨he, h1, h2⟩ => ⟨he, .inr (by rw [Lib.byteCells_append]; exact h1), h2⟩
theorem IsB.below {B b : Nat} {bs : List Value} {w w' : World} (h : IsB B b bs w) (hq : Below w.heap.size w w') : IsB B b bs w' := by
  have go : ∀ p, Lib.BuilderAt 78 5 B b p bs w → Lib.BuilderAt 78 5 B b p bs w' := fun p hp => by
    have hlt := hp.lt
    obtain ⟨h1, v, hb, ho, hne⟩ := hp
    exact ⟨h1, v, (hq.block b hlt).trans hb, ho.kept (row := none) ⟨hq.os, hq.tape, hq.output, hq.size, fun k hk _ => hq.block k hk⟩ (by cases v.ownBlock <;> simp), hne⟩
  rcases h with h | h
  · exact .inl (go _ h)
  · exact .inr (go _ h)
set_option maxRecDepth 100000 in
set_option maxHeartbeats 1600000 in
theorem journalText_impl (A : Option Addr) (n c B : Nat) (ds : List Ded) (w : World) (h : DdM w B A n c ds) (hB : B ≤ w.heap.size) (hn : n ≤ 1048576) (hL : LaidT w) (hD : LaidD w) :
    Calls Tryd.prog 16 #[.slice A n c] w fun e w' => e = .returned (.string (strB (journT ds))) ∧ Below w.heap.size w w' := by
  have hl := hide h.len
  have hnb := h.nb
  have HS := hide (fun (k : Nat) x (hx : ds[k]? = some x) => journTo_step hx)
  have HZ := hide (fun (k : Nat) => journTo_len ds k)
  have HX := hide (fun (k : Nat) x (hx : ds[k]? = some x) (hd : deedB x = false) => journT_bad hx hd)
  have HE := hide (fun (hall : ∀ (k : Nat) x, ds[k]? = some x → deedB x = true) => journT_end hall)
  have hb0 := hide (show IsB w.heap.size w.heap.size (Lib.byteCells []) (w.alloc (.cells #[.pointer none, .slice none 0 0] 78)) from Lib.fresh_isBuilder _ _ w)
  have hq0 := hide (al w (.cells #[.pointer none, .slice none 0 0] 78))
  go_enter Tryd.func16, Tryd.ntmps16
  go_wp2
  go_loopw [6, 9] (fun v i wr => ∃ k : Nat, k ≤ n ∧ i = .int .i64 k ∧ Hid (IsB w.heap.size w.heap.size (Lib.byteCells (journTo ds k)) wr) ∧ Hid (∀ (j : Nat) x, j < k → ds[j]? = some x → deedB x = true) ∧ Hid (Below w.heap.size w wr)) (fun _ i _ => n - (intOf i).toNat)
  case atStart => exact ⟨0, Nat.zero_le _, rfl, hb0, hide (fun j x hj _ => absurd hj (by omega)), hq0⟩
  case round =>
    clear hb0 hq0
    obtain ⟨k, hk, rfl, hI, hall, hb⟩ := hrel
    by_cases hlt : k < n
    · obtain ⟨b, off, x, rfl, hbB, hx, hc0, hc1, hc2⟩ := (h.below (hb.out.mono hB)).look hlt
      have HD := hide (fun (W : World) (hq : Below w.heap.size w W) => deedText_impl x W (hL.up hq) (hD.up hq))
      have hdl := deedT_len x
      rw [← strB_size] at hdl
      have hbs : b < wr.heap.size := by have := hb.out.size; omega
      have hba := hide (hb.out.alloc hb.out.size (.cells #[.int .i64 x.k, .int .i64 x.a, .int .i64 x.b] 25))
      by_cases hd : deedB x = true
      · have hne := hide (deedT_ne.2 hd)
        have hpos : ((strB (deedT x)).toList == []) = false := by
          rw [ByteArray.toList_eq]
          simpa [strB] using hne.out
        have hnx := hide (show journTo ds (k + 1) = journTo ds k ++ bts (strB (deedT x) ++ ⟨#[10]⟩) by
          rw [HS.out k x hx.out, show (⟨#[10]⟩ : ByteArray) = strB [10] from rfl, ← strB_append, bts_strB])
        have hzk := hide (HZ.out k)
        obtain ⟨T, hT⟩ : ∃ T, Hid (strB (deedT x) = T) := ⟨_, hide rfl⟩
        rw [hT.out] at HD hdl hnx hpos
        have q1 : ¬ 9223372036854775807 < T.size + 1 := by omega
        go_wp2_with (go_at_call 13; refine (HD.out _ hba.out).mono ?_; rintro e w2 ⟨rfl, hq2⟩; have hI2 := hide ((hI.out.below (al wr _)).below hq2); have hb2 := hide (upB hba.out hq2); clear hq2)
        have hsz2 : (T ++ (⟨#[10]⟩ : ByteArray)).size = T.size + 1 := ByteArray.size_append
        have hzl := hzk.out
        have hlen : (journTo ds k).length + (T ++ (⟨#[10]⟩ : ByteArray)).size ≤ 140737488355328 := by rw [hsz2]; omega
        have hW := hide (writeString_c _ _ _ (T ++ ⟨#[10]⟩) w2 hI2.out hlen hb2.out.size)
        clear hsz2 hzl hlen
        rw [← hnx.out] at hW
        refine hW.out.mono ?_
        rintro e w3 ⟨rfl, hI3, hq3⟩
        have hb3 := hide (hb2.out.trans hq3)
        have hI3 := hide hI3
        clear hW hq3
        go_wp2_with fail
        go_roundw
        case rel => exact ⟨k + 1, by omega, by go_num, hI3, hide (fun j y hj hy => by
          rcases Nat.lt_or_ge j k with hjk | hjk
          · exact hall.out j y hjk hy
          · obtain rfl : j = k := by omega
            rw [hx.out] at hy; injection hy with hy; rw [← hy]; exact hd), hb3⟩
        case measure => simp [intOf]; omega
      · have hd : deedB x = false := by simpa using hd
        have he := hide (show strB (journT ds) = ⟨#[]⟩ by rw [HX.out k x hx.out hd]; rfl)
        rw [show strB (deedT x) = ⟨#[]⟩ by rw [deedT_no hd]; rfl] at HD
        go_wp2_with (go_at_call 13; refine (HD.out _ hba.out).mono ?_; rintro e w2 ⟨rfl, hq2⟩; have hb2 := hide (upB hba.out hq2); clear hq2)
        go_ret
        exact ⟨by rw [he.out]; rfl, hb2.out⟩
    · obtain rfl : k = n := by omega
      have hall2 := hide (HE.out fun j x hx => hall.out j x (by have := hl.out; have := (List.getElem?_eq_some_iff.1 hx).1; omega) hx)
      have hfin := hide (show journTo ds k = linesT ds by unfold journTo; rw [List.take_of_length_le (by have := hl.out; omega)])
      have hI2 := hide hI.out
      rw [hfin.out] at hI2
      have hS := hide (Tryd.Builder_String_any w.heap.size w.heap.size (linesT ds) wr hI2.out hb.out.size)
      go_wp2_with fail
      refine hS.out.mono ?_
      rintro e w2 ⟨rfl, hq2⟩
      have hb2 := hide (hb.out.trans hq2)
      go_wp2_with fail
      go_ret
      exact ⟨by rw [hall2.out]; rfl, hb2.out⟩
end Go.Proofs.YtokokbfcnjkcoabDoor
