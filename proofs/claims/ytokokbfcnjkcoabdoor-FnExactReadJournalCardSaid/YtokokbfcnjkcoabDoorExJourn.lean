/-
  Exact laws of chapter 14 walked: JournalText, ReadJournal (written by wip/gen_e6.py).
-/
import Derived.Test.YtokokbfcnjkcoabDoorJournI
import Derived.Test.YtokokbfcnjkcoabDoorJournJ
import Derived.Test.YtokokbfcnjkcoabDoorJournR
import Derived.Test.YtokokbfcnjkcoabDoorDeedX
namespace Go.Proofs.YtokokbfcnjkcoabDoor
open Go.RowKit
set_option linter.unusedVariables false

theorem linesT_ge (ds : List Ded) : ds.length ≤ (linesT ds).length := by
  induction ds with
  | nil => exact Nat.le_refl _
  | cons d r ih => simp only [linesT, List.length_append, List.length_cons]; omega
theorem readJ_small {s : ByteArray} (hs : s.size ≤ 1048576) : (readJ (bts s)).1.length ≤ 1048576 := by
  have h1 := readJ_len (bts s)
  have h2 := readJ_num (bts s)
  have h3 := linesT_ge (readJ (bts s)).1
  rw [bts_len] at h1
  omega
set_option maxHeartbeats 1600000 in
theorem exJournalText {A1 : Option Addr} {n1 c1 : Nat} {ts1 : List Ded} {w : World} (h1 : DdM w w.heap.size A1 n1 c1 ts1) (hL : LaidT w) (hD : LaidD w) :
    Calls Tryd.prog 6 #[.slice A1 n1 c1] w fun e w' => e = .returned (.bool true) ∧ Below w.heap.size w w' := by
  have hn1 := h1.nb
  have hz1 := hide h1.len
  have hb0 := Below.refl w.heap.size w
  go_enter Tryd.func6, Tryd.ntmps6
  go_wp2_with fail
  refine (szDeedS_c A1 n1 c1 _ ts1 _ 1048576 (h1.below hb0) (by omega) (by omega)).mono ?_
  rintro e w1 ⟨⟨y1, rfl, hx1, hx2, hx3⟩, hq1⟩
  have hx3 := hide hx3
  by_cases hy1 : y1 < 0
  · go_wp2_with fail
    go_ret
    exact ⟨rfl, hb0.trans (hq1.mono hb0.size)⟩
  have hsm1 := hx3.out (by omega)
  clear hx3
  have hb1 := hb0.trans (hq1.mono hb0.size)
  have hs1 := hq1.size
  clear hq1
  go_wp2_with fail
  refine (toDeedS_c A1 n1 c1 _ ts1 _ (h1.below hb1) hb1.size hsm1).mono ?_
  rintro e w2 ⟨g1, rfl, ho1, hq2⟩
  have hlo1 := ho1.row.lt
  have hb2 := hb1.trans (hq2.mono hb1.size)
  have hs2 := hq2.size
  clear hq2
  go_wp2_with fail
  refine (journalText_spec _ _ _ _ ts1 _ ho1.deeds (Nat.le_refl _) hsm1).mono ?_
  rintro e w3 ⟨rfl, hq3⟩
  have hb3 := hb2.trans (hq3.mono hb2.size)
  have hs3 := hq3.size
  replace ho1 := ho1.up hq3
  clear hq3
  clear ho1 hlo1
  go_wp2_with fail
  refine (toDeedS_c A1 n1 c1 _ ts1 _ (h1.below hb3) hb3.size hsm1).mono ?_
  rintro e w4 ⟨g2, rfl, ho2, hq4⟩
  have hlo2 := ho2.row.lt
  have hb4 := hb3.trans (hq4.mono hb3.size)
  have hs4 := hq4.size
  clear hq4
  go_wp2_with fail
  refine (journalText_impl _ _ _ _ ts1 _ ho2.deeds (Nat.le_refl _) hsm1 (hL.up hb4) (hD.up hb4)).mono ?_
  rintro e w5 ⟨rfl, hq5⟩
  have hb5 := hb4.trans (hq5.mono hb4.size)
  have hs5 := hq5.size
  replace ho2 := ho2.up hq5
  clear hq5
  go_wp2_with fail
  refine (toDeedS_c A1 n1 c1 _ ts1 _ (h1.below hb5) hb5.size hsm1).mono ?_
  rintro e w6 ⟨g3, rfl, ho3, hq6⟩
  have hlo3 := ho3.row.lt
  have hb6 := hb5.trans (hq6.mono hb5.size)
  have hs6 := hq6.size
  replace ho2 := ho2.up hq6
  clear hq6
  go_wp2_with fail
  refine (eqDeedS_c _ _ _ _ _ _ _ _ _ _ ho2.deeds ho3.deeds (Nat.le_refl _) (Nat.le_refl _)).mono ?_
  rintro e w7 ⟨rfl, hq7⟩
  have hb7 := hb6.trans (hq7.mono hb6.size)
  have hs7 := hq7.size
  replace ho2 := ho2.up hq7
  replace ho3 := ho3.up hq7
  clear hq7
  clear ho3 hlo3
  go_wp2_with fail
  go_ret
  exact ⟨rfl, hb7⟩

set_option maxHeartbeats 1600000 in
theorem exReadJournal (a1 : ByteArray) (w : World) (hs1 : a1.size ≤ maxLen) (hL : LaidN w) (hD : LaidD w) :
    Calls Tryd.prog 7 #[.string a1] w fun e w' => e = .returned (.bool true) ∧ Below w.heap.size w w' := by
  unfold maxLen at hs1
  by_cases hbig1 : 1048576 < a1.size
  · go_enter Tryd.func7, Tryd.ntmps7
    go_wp2
    go_ret
    exact ⟨rfl, Below.refl _ _⟩
  have hbs1 : a1.size ≤ 1048576 := by omega
  clear hbig1 hs1
  have hb0 := Below.refl w.heap.size w
  go_enter Tryd.func7, Tryd.ntmps7
  go_wp2_with fail
  refine (readJournal_spec a1 _ hbs1).mono ?_
  rintro e w1 ⟨B1, m1, d1, rfl, ho1, hq1⟩
  have hlo1 := ho1.row.lt
  have hm1 := hide ho1.len
  have hb1 := hb0.trans (hq1.mono hb0.size)
  have hs1 := hq1.size
  clear hq1
  go_wp2_with fail
  refine (readJournal_impl a1 _ (hL.up hb1) (hD.up hb1) hbs1).mono ?_
  rintro e w2 ⟨B2, m2, d2, rfl, ho2, hq2⟩
  have hlo2 := ho2.row.lt
  have hm2 := hide ho2.len
  have hb2 := hb1.trans (hq2.mono hb1.size)
  have hs2 := hq2.size
  replace ho1 := ho1.up hq2
  clear hq2
  go_wp2_with fail
  refine (eqDeedS_c _ _ _ _ _ _ _ _ _ _ ho2.deeds ho1.deeds (Nat.le_refl _) (Nat.le_refl _)).mono ?_
  rintro e w3 ⟨rfl, hq3⟩
  have hb3 := hb2.trans (hq3.mono hb2.size)
  have hs3 := hq3.size
  replace ho1 := ho1.up hq3
  replace ho2 := ho2.up hq3
  clear hq3
  have hmb2 := hide (show m2 ≤ 1048576 from by have := hm2.out; exact Nat.le_trans (Nat.le_of_eq this) (readJ_small hbs1))
  go_wp2_with fail
  refine (markDeedS_c _ _ _ _ _ _ _ ho2 (by omega) (by omega) hmb2.out).mono ?_
  rintro e w4 ⟨rfl, ho, hg⟩
  have hb4 := hb3.grown hg hb3.size (fun k hk => by have := (hlo2 k hk).1; omega)
  have hs4 := hg.size
  replace ho1 := ho1.kept hg (apart hlo1 hlo2 (by omega))
  clear ho2 hg
  have ho2 := ho
  clear ho
  go_wp2_with fail
  refine (sameB (heldDeedS_c _ _ _ _ _ _ _ ho2.deeds (by omega) (by omega) hmb2.out)).mono ?_
  rintro e w5 ⟨rfl, hq5⟩
  have hb5 := hb4.trans (hq5.mono hb4.size)
  have hs5 := hq5.size
  replace ho1 := ho1.up hq5
  replace ho2 := ho2.up hq5
  clear hq5
  go_wp2_with fail
  refine (readJournal_impl a1 _ (hL.up hb5) (hD.up hb5) hbs1).mono ?_
  rintro e w6 ⟨B3, m3, d3, rfl, ho3, hq6⟩
  have hlo3 := ho3.row.lt
  have hm3 := hide ho3.len
  have hb6 := hb5.trans (hq6.mono hb5.size)
  have hs6 := hq6.size
  replace ho1 := ho1.up hq6
  replace ho2 := ho2.up hq6
  clear hq6
  go_wp2_with fail
  refine (eqDeedS_c _ _ _ _ _ _ _ _ _ _ ho3.deeds ho1.deeds (Nat.le_refl _) (Nat.le_refl _)).mono ?_
  rintro e w7 ⟨rfl, hq7⟩
  have hb7 := hb6.trans (hq7.mono hb6.size)
  have hs7 := hq7.size
  replace ho1 := ho1.up hq7
  replace ho2 := ho2.up hq7
  replace ho3 := ho3.up hq7
  clear hq7
  go_wp2_with fail
  refine (sameB (heldDeedS_c _ _ _ _ _ _ _ ho2.deeds (by omega) (by omega) hmb2.out)).mono ?_
  rintro e w8 ⟨rfl, hq8⟩
  have hb8 := hb7.trans (hq8.mono hb7.size)
  have hs8 := hq8.size
  replace ho1 := ho1.up hq8
  replace ho2 := ho2.up hq8
  replace ho3 := ho3.up hq8
  clear hq8
  go_wp2_with fail
  go_ret
  exact ⟨rfl, hb8⟩

end Go.Proofs.YtokokbfcnjkcoabDoor
