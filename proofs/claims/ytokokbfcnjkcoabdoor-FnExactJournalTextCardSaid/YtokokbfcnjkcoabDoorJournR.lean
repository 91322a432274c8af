/-
  Contracts of chapter 14, the specification's side: ReadJournal.
-/
import Derived.Test.YtokokbfcnjkcoabDoorReadD
namespace Go.Proofs.YtokokbfcnjkcoabDoor
open Go.RowKit
set_option linter.unusedVariables false

theorem jrnL_cons_some {l : Bs} {r : List Bs} {d : Ded} (h : readD l = some d) : jrnL (l :: r) = (d :: (jrnL r).1, l.length + 1 + (jrnL r).2) := by
  show (match readD l with | none => _ | some d => _) = _
  rw [h]
theorem jrnL_cons_none {l : Bs} {r : List Bs} (h : readD l = none) : jrnL (l :: r) = ([], 0) := by
  show (match readD l with | none => _ | some d => _) = _
  rw [h]
/-- All lines of p are read. -/
theorem jrnL_append : ∀ (p q : List Bs), (jrnL p).1.length = p.length → jrnL (p ++ q) = ((jrnL p).1 ++ (jrnL q).1, (jrnL p).2 + (jrnL q).2)
  | [], q, _ => by simp [jrnL]
  | l :: p, q, h => by
    cases hd : readD l with
    | none => rw [jrnL_cons_none hd] at h; simp at h
    | some d =>
      rw [jrnL_cons_some hd] at h ⊢
      have h2 : (jrnL p).1.length = p.length := by simpa using h
      rw [List.cons_append, jrnL_cons_some hd, jrnL_append p q h2]
      simp only [List.cons_append, Nat.add_assoc]
theorem cutTo_more (c : UInt8) (l : Bs) (k : Nat) : ∀ m, k ≤ m → ∃ q, (cutTo c l m).1 = (cutTo c l k).1 ++ q := by
  intro m hm
  induction m with
  | zero =>
    obtain rfl : k = 0 := by omega
    exact ⟨[], by simp⟩
  | succ m ih =>
    rcases Nat.lt_or_ge m k with h | h
    · obtain rfl : k = m + 1 := by omega
      exact ⟨[], by simp⟩
    · obtain ⟨q, hq⟩ := ih h
      by_cases hc : l[m]? = some c
      · rw [cutTo_hit hc, hq]
        exact ⟨q ++ [(l.take m).drop (cutTo c l m).2], by simp⟩
      · rw [cutTo_miss hc]
        exact ⟨q, hq⟩
theorem readJ_lines (l : Bs) : readJ l = jrnL (cutTo 10 l l.length).1 := by
  unfold readJ
  rw [cutTo_end]
  simp
/-- The deeds read as far as byte k, if all its lines are deeds. -/
def JrnTo (l : Bs) (k : Nat) (ds : List Ded) (F : Nat) : Prop := jrnL (cutTo 10 l k).1 = (ds, F) ∧ ds.length = (cutTo 10 l k).1.length ∧ F = (cutTo 10 l k).2
theorem jrnTo_zero (l : Bs) : JrnTo l 0 [] 0 := ⟨rfl, rfl, rfl⟩
theorem jrnTo_hit {l : Bs} {k F : Nat} {ds : List Ded} {d : Ded} (h : JrnTo l k ds F) (hk : l[k]? = some 10) (hd : readD ((l.take k).drop F) = some d) : JrnTo l (k + 1) (ds ++ [d]) (k + 1) := by
  obtain ⟨h1, h2, h3⟩ := h
  have hl := (List.getElem?_eq_some_iff.1 hk).1
  have hle := cutTo_le 10 l k
  unfold JrnTo
  rw [cutTo_hit hk]
  have ha := jrnL_append (cutTo 10 l k).1 [(l.take k).drop (cutTo 10 l k).2] (by rw [h1]; exact h2)
  rw [← h3] at ha ⊢
  refine ⟨?_, by simp [h2], rfl⟩
  rw [ha, h1, jrnL_cons_some hd]
  simp only [jrnL, Nat.add_zero]
  refine Prod.ext rfl ?_
  show F + (((l.take k).drop F).length + 1) = k + 1
  rw [List.length_drop, List.length_take]
  omega
theorem jrnTo_miss {l : Bs} {k F : Nat} {ds : List Ded} (h : JrnTo l k ds F) (hk : l[k]? ≠ some 10) : JrnTo l (k + 1) ds F := by
  unfold JrnTo
  rw [cutTo_miss hk]
  exact h
theorem jrnTo_bad {l : Bs} {k F : Nat} {ds : List Ded} (h : JrnTo l k ds F) (hk : l[k]? = some 10) (hd : readD ((l.take k).drop F) = none) : readJ l = (ds, F) := by
  obtain ⟨h1, h2, h3⟩ := h
  have hl := (List.getElem?_eq_some_iff.1 hk).1
  rw [readJ_lines]
  obtain ⟨q, hq⟩ := cutTo_more 10 l (k + 1) l.length (by omega)
  rw [hq, cutTo_hit hk, List.append_assoc, jrnL_append _ _ (by rw [h1]; exact h2), h1, ← h3]
  show (ds ++ (jrnL ((l.take k).drop F :: q)).1, F + (jrnL ((l.take k).drop F :: q)).2) = _
  rw [jrnL_cons_none hd]
  simp
theorem jrnTo_end {l : Bs} {F : Nat} {ds : List Ded} (h : JrnTo l l.length ds F) : readJ l = (ds, F) := by rw [readJ_lines]; exact h.1
theorem jrnTo_le {l : Bs} {k F : Nat} {ds : List Ded} (h : JrnTo l k ds F) : F ≤ k ∧ ds.length ≤ k := by
  obtain ⟨_, h2, h3⟩ := h
  have := cutTo_le 10 l k
  have := cutTo_len 10 l k
  omega

set_option maxRecDepth 100000 in
set_option maxHeartbeats 3200000 in
theorem readJournal_spec (s : ByteArray) (w : World) (hs : s.size ≤ 1048576) :
    Calls Tryd.prog 23 #[.string s] w fun e w' => ∃ A n c, e = .returned (.tuple #[.slice A n c, .int .i64 ((readJ (bts s)).2 : Int)]) ∧ OwnD w' w.heap.size (.slice A n c) (readJ (bts s)).1 ∧ Below w.heap.size w w' := by
  obtain ⟨i0, hi, hz0, hz1, hz2⟩ := info_parts infoDeed
  have hlen := hide (bts_len s)
  have HX := hide (fun (j k : Nat) => strB_take s j k)
  go_enter Tryd.func23, Tryd.ntmps23
  go_wp2
  have ho0 := hide (show OwnD (w.alloc (.cells #[] 25)) w.heap.size (.slice (some ⟨w.heap.size, 0, none⟩) 0 0) [] from ownD_empty (Nat.le_refl _))
  have hb0 := hide (al w (.cells #[] 25))
  go_loopw [4, 5, 6] (fun v f i wr => ∃ k F : Nat, ∃ A m cc ds, k ≤ s.size ∧ i = .int .i64 k ∧ f = .int .i64 F ∧ v = .slice A m cc ∧ Hid (JrnTo (bts s) k ds F) ∧ Hid (OwnD wr w.heap.size (.slice A m cc) ds) ∧ Hid (Below w.heap.size w wr)) (fun _ _ i _ => s.size - (intOf i).toNat)
  case atStart => exact ⟨0, 0, _, _, _, [], Nat.zero_le _, rfl, rfl, rfl, hide (jrnTo_zero _), ho0, hb0⟩
  case round =>
    clear ho0 hb0
    obtain ⟨k, F, A, m, cc, ds, hk, rfl, rfl, rfl, hJ, ho, hb⟩ := hrel
    have hst := hb.out.size
    obtain ⟨hFk, hdk⟩ := jrnTo_le hJ.out
    have hm := ho.out.len
    have hmk : m ≤ k := by omega
    replace hm := hide hm
    clear hdk
    by_cases hlt : k < s.size
    · have hat := bts_at s k hlt
      by_cases hc : (s[k]'hlt).toNat = 10
      · have hk10 := hide (show (bts s)[k]? = some 10 by rw [hat, show (s[k]'hlt) = 10 from UInt8.toNat_inj.1 hc])
        have hcb : (((s[k]'hlt).toNat : Int) == 10) = true := by simp; omega
        have HR := hide (readDeed_spec (s.extract F k) wr (by rw [HX.out, strB_size, List.length_drop, List.length_take, hlen.out]; omega))
        rw [HX.out, bts_strB, ← HX.out] at HR
        have hkw : IntKind.i64.wrap ((k : Int) + 1) = (k : Int) + 1 := IntWalk.i64_in _ (by omega)
        clear hat
        cases hd : readD (((bts s).take k).drop F) with
        | none =>
          have e1 : readDB (((bts s).take k).drop F) = false := by unfold readDB; rw [hd]; rfl
          have e2 : readDQ (((bts s).take k).drop F) = noDed := by unfold readDQ; rw [hd]; rfl
          rw [e1, e2] at HR
          have hfin := hide (jrnTo_bad hJ.out hk10.out hd)
          clear e1 e2 hd
          go_wp2_with (go_at_call 11; refine HR.out.mono ?_; rintro e w2 ⟨rfl, hq⟩; have ho2 := hide (ho.out.up hq); have hb2 := hide (upB hb.out hq); clear hq)
          go_ret2
          exact ⟨A, m, cc, by rw [hfin.out]; rfl, by rw [hfin.out]; exact ho2.out.alloc _, hb2.out.alloc hb2.out.size _⟩
        | some d =>
          have e1 : readDB (((bts s).take k).drop F) = true := by unfold readDB; rw [hd]; rfl
          have e2 : readDQ (((bts s).take k).drop F) = d := by unfold readDQ; rw [hd]; rfl
          rw [e1, e2] at HR
          have hJ2 := hide (jrnTo_hit hJ.out hk10.out hd)
          have hwd := hide (wfD_small (deedT_ne.1 (by have := (readD_iff.1 hd); rw [this.1]; exact this.2)))
          clear e1 e2 hd
          go_wp2_with (first | (go_at_call 11; refine HR.out.mono ?_; rintro e w2 ⟨rfl, hq⟩; have ho2 := hide (ho.out.up hq); have hb2 := hide (upB hb.out hq); clear hq) | (at_builtin; refine wpList_push _ rfl _ _ 33 rfl w.heap.size 25 i0 (.agg #[.int .i64 0, .int .i64 0, .int .i64 0]) 3 24 Tryd.underlying33 hi hz0 hz1 hz2 rfl (by decide) (by decide) _ m _ rfl ((ho2.out.alloc _).alloc _).rowN _ 1 [.int .i64 d.k, .int .i64 d.a, .int .i64 d.b] rfl rfl (lit_cellsAt _ _ _ _ (by simp)) (by intro u hu; simp at hu; rcases hu with rfl | rfl | rfl <;> rfl) (by omega) (by have := hb2.out.size; simp; omega) ?_; intro A₃ c₃ w3 hr3 hg3; have ho3 := hide (OwnD.push hm.out hwd.out ho2.out.wf hr3); have hb3 := hide (((hb2.out.alloc hb2.out.size _).alloc (by have := hb2.out.size; simp; omega) _).grown hg3 (by have := hb2.out.size; simp; omega) (fun j hj => (ho2.out.row.lt j hj).1)); clear hr3 hg3))
          go_roundw
          case rel => exact ⟨k + 1, k + 1, _, _, _, _, by omega, by go_num, by go_num, rfl, hJ2, ho3, hb3⟩
          case measure => simp [intOf]; omega
      · have hk10 := hide (show (bts s)[k]? ≠ some 10 by
          rw [hat]
          intro e
          injection e with e
          exact hc (by rw [e]; rfl))
        have hcb : (((s[k]'hlt).toNat : Int) == 10) = false := by simp; omega
        have hJ2 := hide (jrnTo_miss hJ.out hk10.out)
        clear hat
        go_wp2
        go_roundw
        case rel => exact ⟨k + 1, F, _, _, _, _, by omega, by go_num, rfl, rfl, hJ2, ho, hb⟩
        case measure => simp [intOf]; omega
    · obtain rfl : k = s.size := by omega
      have hfin := hide (show readJ (bts s) = (ds, F) by
        have := hJ.out
        rw [← hlen.out] at this
        exact jrnTo_end this)
      go_wp2
      go_ret2
      exact ⟨A, m, cc, by rw [hfin.out]; rfl, by rw [hfin.out]; exact ho.out, hb.out⟩
end Go.Proofs.YtokokbfcnjkcoabDoor
