/-
  Contracts of chapter 14, the program: ReadJournal.
-/
import Derived.Test.YtpkbmmepapgogabGreatDoorZdd
import Derived.Test.YtpkbmmepapgogabGreatDoorZpb
import Derived.Test.YtpkbmmepapgogabGreatDoorZpd
namespace Go.Proofs.YtpkbmmepapgogabGreatDoor
open Go.RowKit
set_option linter.unusedVariables false

theorem cutN_c (s : ByteArray) (w : World) (hL : LaidN w) (hs : s.size < 4294967281) :
    Calls Tryz.prog 49 #[.string s, .string ⟨#[10]⟩] w fun e w' => e = .returned (.tuple #[.string (strB (Lib.cut (bts s) [10]).1), .string (strB (Lib.cut (bts s) [10]).2.1), .bool (Lib.cut (bts s) [10]).2.2]) ∧ Below w.heap.size w w' := by
  obtain ⟨m, hm⟩ := hL.max
  exact (Tryz.strings_Cut s ⟨#[10]⟩ m w hs hm).mono fun e w' ⟨he, n, hw⟩ => ⟨he, by rw [hw]; exact below_drewN (Below.refl _ _) n⟩
theorem first_line (l : Bs) : (10 : UInt8) ∉ l ∨ ∃ a r, l = a ++ 10 :: r ∧ (10 : UInt8) ∉ a := by
  by_cases h : (10 : UInt8) ∈ l
  · obtain ⟨a, r, e, ha⟩ := List.eq_append_cons_of_mem h
    exact .inr ⟨a, r, e, ha⟩
  · exact .inl h
set_option maxRecDepth 100000 in
set_option maxHeartbeats 3200000 in
theorem readJournal_impl (s : ByteArray) (w : World) (hL : LaidN w) (hD : LaidD w) (hs : s.size ≤ 1048576) :
    Calls Tryz.prog 28 #[.string s] w fun e w' => ∃ A n c, e = .returned (.tuple #[.slice A n c, .int .i64 ((readJ (bts s)).2 : Int)]) ∧ OwnD w' w.heap.size (.slice A n c) (readJ (bts s)).1 ∧ Below w.heap.size w w' := by
  obtain ⟨i0, hi, hz0, hz1, hz2⟩ := info_parts infoDeed
  have hlen := hide (bts_len s)
  have HX := hide (fun (j k : Nat) => strB_take s j k)
  go_enter Tryz.func28, Tryz.ntmps28
  go_wp2
  go_loopw [4, 5] (fun v f wr => ∃ R : Nat, ∃ A m cc ds, R ≤ s.size ∧ f = .int .i64 R ∧ v = .slice A m cc ∧ m ≤ R ∧ Hid (readJ (bts s) = (ds ++ (readJ ((bts s).drop R)).1, R + (readJ ((bts s).drop R)).2)) ∧ Hid (OwnD wr w.heap.size (.slice A m cc) ds) ∧ Hid (Below w.heap.size w wr)) (fun _ f _ => s.size - (intOf f).toNat)
  case atStart => exact ⟨0, _, _, _, [], Nat.zero_le _, rfl, rfl, Nat.le_refl _, hide (by simp), hide OwnD.none_, hide (Below.refl _ _)⟩
  case round =>
    obtain ⟨R, A, m, cc, ds, hR, rfl, rfl, hmR, hJ, ho, hb⟩ := hrel
    have hst := hb.out.size
    have hm := hide ho.out.len
    obtain ⟨rest, hrest⟩ : ∃ r, Hid ((bts s).drop R = r) := ⟨_, hide rfl⟩
    rw [hrest.out] at hJ
    have hrl := hide (show rest.length = s.size - R by rw [← hrest.out, List.length_drop, hlen.out])
    obtain ⟨SR, hSR⟩ : ∃ S, Hid (s.extract R s.size = S) := ⟨_, hide rfl⟩
    have hbr := hide (show bts SR = rest by rw [← hSR.out, HX.out, bts_strB, List.take_of_length_le (by rw [hlen.out]; exact Nat.le_refl _), hrest.out])
    have HC0 := hide (cutN_c SR wr (hL.up hb.out) (by rw [← bts_len, hbr.out, hrl.out]; omega))
    rcases first_line rest with hf | ⟨l, r, hlr, hf⟩
    · have HD := hide (fun (W : World) (hq : Below w.heap.size w W) => readDeed_impl (strB rest) W (hL.up hq) (hD.up hq) (by rw [strB_size, hrl.out]; omega))
      have hfin := hide (show readJ (bts s) = (ds, R) by rw [hJ.out, readJ_free hf]; simp)
      rw [bts_strB] at HD
      obtain ⟨d, hd⟩ : ∃ d, Hid (readDQ rest = d) := ⟨_, hide rfl⟩
      obtain ⟨b, hbb⟩ : ∃ b, Hid (readDB rest = b) := ⟨_, hide rfl⟩
      obtain ⟨S1, hS1⟩ : ∃ S, Hid (strB rest = S) := ⟨_, hide rfl⟩
      rw [hd.out, hbb.out, hS1.out] at HD
      have HC := hide (show Calls Tryz.prog 49 #[.string (s.extract R s.size), .string ⟨#[10]⟩] wr (fun e w' => e = .returned (.tuple #[.string S1, .string ⟨#[]⟩, .bool false]) ∧ Below wr.heap.size wr w') from by
        have := HC0.out
        rw [hbr.out, cut_free' hf] at this
        rw [← hS1.out, hSR.out]
        exact this)
      clear hf HC0 hrest hrl hbr hJ
      go_wp2_with (first
        | (go_at_call 49; (with_reducible refine (HC.out).mono ?_); rintro e w2 ⟨rfl, hq2⟩; have ho2 := hide (ho.out.up hq2); have hb2 := hide (upB hb.out hq2); clear hq2)
        | (go_at_call 50; (with_reducible refine (HD.out _ hb2.out).mono ?_); rintro e w3 ⟨rfl, hq3⟩; have ho3 := hide (ho2.out.up hq3); have hb3 := hide (upB hb2.out hq3); clear hq3))
      go_ret2
      exact ⟨A, m, cc, by rw [hfin.out]; rfl, by rw [hfin.out]; exact ho3.out.alloc _, hb3.out.alloc hb3.out.size _⟩
    · subst hlr
      have hll := hide (show R + l.length + 1 + r.length = s.size by have := hrl.out; simp at this; omega)
      have HD := hide (fun (W : World) (hq : Below w.heap.size w W) => readDeed_impl (strB l) W (hL.up hq) (hD.up hq) (by rw [strB_size]; have := hll.out; omega))
      rw [bts_strB] at HD
      have hjl := hide (readJ_line (r := r) hf)
      have hlz := hide (show (strB l).size = l.length from strB_size l)
      have hdrop := hide (show (bts s).drop (R + (l.length + 1)) = r by
        rw [← List.drop_drop, hrest.out, show l.length + 1 = (l ++ [10]).length by simp, show l ++ 10 :: r = (l ++ [10]) ++ r by simp, List.drop_left])
      obtain ⟨S1, hS1⟩ : ∃ S, Hid (strB l = S) := ⟨_, hide rfl⟩
      obtain ⟨S2, hS2⟩ : ∃ S, Hid (strB r = S) := ⟨_, hide rfl⟩
      rw [hS1.out] at HD hlz
      have HC := hide (show Calls Tryz.prog 49 #[.string (s.extract R s.size), .string ⟨#[10]⟩] wr (fun e w' => e = .returned (.tuple #[.string S1, .string S2, .bool true]) ∧ Below wr.heap.size wr w') from by
        have := HC0.out
        rw [hbr.out, cut_at r hf] at this
        rw [← hS1.out, ← hS2.out, hSR.out]
        exact this)
      clear hf HC0 hrest hrl hbr
      cases hd : readD l with
      | none =>
        have hfin := hide (show readJ (bts s) = (ds, R) by rw [hJ.out, hjl.out, hd]; simp)
        have e1 : readDB l = false := by unfold readDB; rw [hd]; rfl
        obtain ⟨d, hdd⟩ : ∃ d, Hid (readDQ l = d) := ⟨_, hide rfl⟩
        rw [e1, hdd.out] at HD
        clear e1 hd hjl hJ
        go_wp2_with (first
          | (go_at_call 49; (with_reducible refine (HC.out).mono ?_); rintro e w2 ⟨rfl, hq2⟩; have ho2 := hide (ho.out.up hq2); have hb2 := hide (upB hb.out hq2); clear hq2)
          | (go_at_call 50; (with_reducible refine (HD.out _ hb2.out).mono ?_); rintro e w3 ⟨rfl, hq3⟩; have ho3 := hide (ho2.out.up hq3); have hb3 := hide (upB hb2.out hq3); clear hq3))
        go_ret2
        exact ⟨A, m, cc, by rw [hfin.out]; rfl, by rw [hfin.out]; exact ho3.out.alloc _, hb3.out.alloc hb3.out.size _⟩
      | some d =>
        have e1 : readDB l = true := by unfold readDB; rw [hd]; rfl
        have e2 : readDQ l = d := by unfold readDQ; rw [hd]; rfl
        rw [e1, e2] at HD
        have hwd := hide (wfD_small (deedT_ne.1 (by have := (readD_iff.1 hd); rw [this.1]; exact this.2)))
        have hJ2 := hide (show readJ (bts s) = ((ds ++ [d]) ++ (readJ ((bts s).drop (R + (l.length + 1)))).1, (R + (l.length + 1)) + (readJ ((bts s).drop (R + (l.length + 1)))).2) by
          rw [hJ.out, hjl.out, hd, hdrop.out]
          simp
          omega)
        have hR2 : R + (l.length + 1) ≤ s.size := by have := hll.out; omega
        have hz : S1.size = l.length := hlz.out
        rw [← hz] at hJ2 hR2
        clear hz
        clear e1 e2 hd hjl hJ hdrop hll hlz
        go_wp2_with (first
          | (go_at_call 49; (with_reducible refine (HC.out).mono ?_); rintro e w2 ⟨rfl, hq2⟩; have ho2 := hide (ho.out.up hq2); have hb2 := hide (upB hb.out hq2); clear hq2)
          | (go_at_call 50; (with_reducible refine (HD.out _ hb2.out).mono ?_); rintro e w3 ⟨rfl, hq3⟩; have ho3 := hide (ho2.out.up hq3); have hb3 := hide (upB hb2.out hq3); clear hq3)
          | (at_builtin; refine wpList_push _ rfl _ _ 46 rfl w.heap.size 51 i0 (.agg #[.int .i64 0, .int .i64 0, .int .i64 0]) 3 24 Tryz.underlying46 hi hz0 hz1 hz2 rfl (by decide) (by decide) _ m _ rfl ((ho3.out.alloc _).alloc _).rowN _ 1 [.int .i64 d.k, .int .i64 d.a, .int .i64 d.b] rfl rfl (lit_cellsAt _ _ _ _ (by simp)) (by intro u hu; simp at hu; rcases hu with rfl | rfl | rfl <;> rfl) (by omega) (by have := hb3.out.size; simp; omega) ?_; intro A₃ c₃ w4 hr4 hg4; have ho4 := hide (OwnD.push hm.out hwd.out ho3.out.wf hr4); have hb4 := hide (((hb3.out.alloc hb3.out.size _).alloc (by have := hb3.out.size; simp; omega) _).grown hg4 (by have := hb3.out.size; simp; omega) (fun j hj => (ho3.out.row.lt j hj).1)); clear hr4 hg4))
        go_roundw
        case rel => exact ⟨R + (S1.size + 1), _, _, _, _, hR2, by go_num, rfl, by omega, hJ2, ho4, hb4⟩
        case measure => simp [intOf]; omega
end Go.Proofs.YtpkbmmepapgogabGreatDoor
