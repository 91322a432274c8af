/-
  Contracts of the exact laws' helpers over slices of places: toPlaceS, szPlaceS, eqPlaceS (written by wip/gen_e9.py).
-/
import Derived.Test.YtokokbfcnjkcoaaPlsO
namespace Go.Proofs.Ytokokbfcnjkcoaa
open Go.RowKit
set_option linter.unusedVariables false

def cpyP (ps : List Plc) (k : Nat) : List Plc := ps.take k ++ List.replicate (ps.length - k) noPlc
theorem cpyP_len {ps : List Plc} {k : Nat} (h : k ≤ ps.length) : (cpyP ps k).length = ps.length := by simp [cpyP]; omega
theorem cpyP_zero (ps : List Plc) : cpyP ps 0 = List.replicate ps.length noPlc := by simp [cpyP]
theorem cpyP_all (ps : List Plc) : cpyP ps ps.length = ps := by simp [cpyP]
theorem cpyP_at {ps : List Plc} {k : Nat} (h : k < ps.length) : (cpyP ps k)[k]? = some noPlc := by
  unfold cpyP
  rw [List.getElem?_append_right (by rw [List.length_take]; omega), List.length_take, List.getElem?_replicate, if_pos (by omega)]
theorem cpyP_set {ps : List Plc} {k : Nat} {m : Plc} (h : ps[k]? = some m) : (cpyP ps k).set k m = cpyP ps (k + 1) := by
  have hk := (List.getElem?_eq_some_iff.1 h).1
  unfold cpyP
  rw [List.set_append_right _ _ (by rw [List.length_take]; omega), List.length_take, show k - min k ps.length = 0 by omega, show ps.length - k = (ps.length - (k + 1)) + 1 by omega, List.replicate_succ, List.set_cons_zero, List.take_add_one, h]
  simp
def smallP (p : Plc) : Prop := p.start.length ≤ 1048576 ∧ p.word.length ≤ 1048576

set_option maxRecDepth 100000 in
set_option maxHeartbeats 3200000 in
theorem toPlaceS_c (A : Option Addr) (n c B : Nat) (ps : List Plc) (w : World) (h : PsM w B A n c ps) (hB : B ≤ w.heap.size) (hn : n ≤ 1048576) (hsm : ∀ p ∈ ps, smallP p) :
    Calls Try.prog 45 #[.slice A n c] w fun e w' => ∃ g, e = .returned (.slice (some ⟨g, 0, none⟩) n n) ∧ OwnQ w' w.heap.size w'.heap.size (.slice (some ⟨g, 0, none⟩) n n) ps ∧ Below w.heap.size w w' := by
  have hl := hide h.len
  have hsm := hide hsm
  obtain ⟨i1, hi, hz0, hz1, hz2⟩ := infoPl_parts
  go_enter Try.func45, Try.ntmps45
  go_wp2_with (at_make; refine wpList_make_full _ rfl _ _ 35 rfl w.heap.size 25 i1 (.agg #[.slice none 0 0, .int .i64 0, .slice none 0 0]) 3 Try.underlying35 hi hz0 hz1 .i64 .i64 _ _ n rfl rfl rfl rfl (by rw [hz2]; omega) (by unfold maxLen; omega) (Nat.le_refl _) ?_; intro w1 hown0 hgrow0)
  have hb0 := hide (show Below w.heap.size w w1 from (Below.refl _ _).grown hgrow0 (Nat.le_refl _) (fun k hk => by cases hk))
  have ho0 := hide (show OwnQ w1 w.heap.size w1.heap.size (.slice (some ⟨w.heap.size, 0, none⟩) n n) (cpyP ps 0) by rw [cpyP_zero, hl.out]; exact ownQ_made hown0)
  have hs0 := hide (show w.heap.size < w1.heap.size from by
    rcases ho0.out.shape with ⟨e, _⟩ | ⟨g, c', e, h1, h2⟩
    · injection e with e; cases e
    · omega)
  clear hown0 hgrow0
  go_loopw [4] (fun i wr => ∃ k : Nat, k ≤ n ∧ i = .int .i64 k ∧ Hid (OwnQ wr w.heap.size wr.heap.size (.slice (some ⟨w.heap.size, 0, none⟩) n n) (cpyP ps k)) ∧ Hid (Below w.heap.size w wr) ∧ Hid (w.heap.size < wr.heap.size)) (fun i _ => n - (intOf i).toNat)
  case atStart => exact ⟨0, Nat.zero_le _, rfl, ho0, hb0, hs0⟩
  case round =>
    clear ho0 hb0 hs0
    obtain ⟨k, hk, rfl, ho, hb, hs⟩ := hrel
    by_cases hlt : k < n
    · obtain ⟨b, off, p, rfl, hbB, hx, hc⟩ := (h.below (hb.out.mono hB)).look hlt
      obtain ⟨A1, n1, c1, A2, n2, c2, hc1, hc2, hc3, hpm⟩ := hc.plM
      have hkl : k < ps.length := by have := hl.out; omega
      have hsp := hsm.out p (List.mem_of_getElem? hx.out)
      have HT := hide (toPlace_c _ p _ wr hpm (by have := hb.out.size; omega) hsp.1 hsp.2)
      clear hc hpm
      go_wp2_with fail
      refine HT.out.mono ?_
      rintro e w2 ⟨u, rfl, hou, hq⟩
      obtain ⟨g1, m1, d1, g2, m2, d2, rfl, o1, o2, hne, hwf⟩ := hou.ex
      have ho2 := hide (ho.out.up hq)
      have hb2 := hide (upB hb.out hq)
      have hs2 := hide (Nat.lt_of_lt_of_le hs.out hq.size)
      obtain ⟨g, x0, x1, x2, hA, hg, hgl, ⟨a1, a2⟩, ⟨a3, a4⟩, ⟨a5, a6⟩, ⟨a7, a8⟩, ⟨a9, a10⟩⟩ := ho2.out.at3 (cpyP_at hkl) (.slice (some ⟨g1, 0, none⟩) m1 d1) (.int .i64 p.step)
      injection hA with hA
      injection hA with hA _ _
      subst hA
      have hgs := hide (grown_setP w2 w.heap.size k (.slice (some ⟨g1, 0, none⟩) m1 d1) p.step (.slice (some ⟨g2, 0, none⟩) m2 d2))
      have ho3 := hide (show OwnQ (((w2.setCell ⟨w.heap.size, k * 3, none⟩ (.slice (some ⟨g1, 0, none⟩) m1 d1)).setCell ⟨w.heap.size, k * 3 + 1, none⟩ (.int .i64 p.step)).setCell ⟨w.heap.size, k * 3 + 2, none⟩ (.slice (some ⟨g2, 0, none⟩) m2 d2)) w.heap.size w2.heap.size (.slice (some ⟨w.heap.size, 0, none⟩) n n) (cpyP ps (k + 1)) by
        have := ho2.out.put (j := k) (q := p) (hi' := w2.heap.size) (by rw [cpyP_len (by omega)]; exact hkl) o1 o2 (.inr fun e => hne (Option.some.inj e)) hwf (Nat.le_of_lt hs.out) (Nat.le_refl _) hq.size
        rw [cpyP_set hx.out] at this
        exact this)
      have hb3 := hide (show Below w.heap.size w (((w2.setCell ⟨w.heap.size, k * 3, none⟩ (.slice (some ⟨g1, 0, none⟩) m1 d1)).setCell ⟨w.heap.size, k * 3 + 1, none⟩ (.int .i64 p.step)).setCell ⟨w.heap.size, k * 3 + 2, none⟩ (.slice (some ⟨g2, 0, none⟩) m2 d2)) from hb2.out.grown hgs.out hb2.out.size (fun j e => by injection e with e; omega))
      clear hq ho2 hgs hou o1 o2
      go_wp2
      go_roundw
      case rel => exact ⟨k + 1, by omega, by go_num, hide (by simpa using ho3.out), hb3, hide (by simpa using hs2.out)⟩
      case measure => simp [intOf]; omega
    · obtain rfl : k = n := by omega
      go_wp2
      go_ret
      exact ⟨_, rfl, by have := ho.out; rwa [← hl.out, cpyP_all, hl.out] at this, hb.out⟩

set_option maxRecDepth 100000 in
theorem szPlaceS_c (A : Option Addr) (n c B : Nat) (ps : List Plc) (L : Int) (w : World) (h : PsM w B A n c ps) (hB : B ≤ w.heap.size) (h0 : 0 ≤ L) (h1 : L ≤ 1048576) :
    Calls Try.prog 44 #[.slice A n c, .int .i64 L] w fun e w' => (∃ x : Int, e = .returned (.int .i64 x) ∧ x ≤ 1048576 ∧ -1 ≤ x ∧ Hid (0 ≤ x → n ≤ 1048576 ∧ ∀ p ∈ ps, smallP p)) ∧ Below w.heap.size w w' := by
  have hn := h.nb
  have hl := hide h.len
  by_cases hs : (n : Int) ≤ L
  · have hLn : 0 ≤ L - n ∧ L - n ≤ 1048576 := by omega
    obtain ⟨l0, l1⟩ := hLn
    have hn2 : n ≤ 1048576 := by omega
    go_enter Try.func44, Try.ntmps44
    go_wp2
    go_loopw [1, 5] (fun t i wr => ∃ k : Nat, ∃ x : Int, k ≤ n ∧ i = .int .i64 k ∧ t = .int .i64 x ∧ 0 ≤ x ∧ x ≤ 1048576 ∧ Hid (∀ (j : Nat) p, j < k → ps[j]? = some p → smallP p) ∧ Hid (Below w.heap.size w wr)) (fun _ i _ => n - (intOf i).toNat)
    case atStart => exact ⟨0, _, Nat.zero_le _, rfl, rfl, l0, l1, hide (fun j p hj _ => absurd hj (by omega)), hide (Below.refl _ _)⟩
    case round =>
      obtain ⟨k, x, hk, rfl, rfl, hx0, hx1, hall, hb⟩ := hrel
      by_cases hlt : k < n
      · obtain ⟨b, off, p, rfl, hbB, hx, hc⟩ := (h.below (hb.out.mono hB)).look hlt
        obtain ⟨A1, n1, c1, A2, n2, c2, hc1, hc2, hc3, hpm⟩ := hc.plM
        have HT := hide (szPlace_c _ p _ x wr hpm (by have := hb.out.size; omega) hx0 hx1)
        clear hc hpm
        go_wp2_with fail
        refine HT.out.mono ?_
        rintro e w2 ⟨⟨y, rfl, hy1, hy2, hy3⟩, hq⟩
        have hb2 := hide (upB hb.out hq)
        clear hq
        by_cases hy : y < 0
        · go_wp2_with fail
          go_ret
          exact ⟨⟨-1, rfl, by omega, by omega, hide (fun h => absurd h (by omega))⟩, hb2.out⟩
        have hsp := hide (show smallP p from by have := hy3.out (by omega); unfold smallP; omega)
        clear hy3
        go_wp2_with fail
        go_roundw
        case rel => exact ⟨k + 1, y, by omega, by go_num, rfl, by omega, by omega, hide (fun j z hj hz => by
          rcases Nat.lt_or_ge j k with hjk | hjk
          · exact hall.out j z hjk hz
          · obtain rfl : j = k := by omega
            have e := hx.out.symm.trans hz
            injection e with e
            rw [← e]; exact hsp.out), hb2⟩
        case measure => simp [intOf]; omega
      · obtain rfl : k = n := by omega
        go_wp2
        go_ret
        exact ⟨⟨x, rfl, by omega, by omega, hide (fun _ => ⟨hn2, fun p hp => by
          obtain ⟨j, hj, rfl⟩ := List.getElem_of_mem hp
          exact hall.out j _ (by have := hl.out; omega) (List.getElem?_eq_getElem hj)⟩)⟩, hb.out⟩
  · go_enter Try.func44, Try.ntmps44
    go_wp2
    go_ret
    exact ⟨⟨_, rfl, by omega, by omega, hide (fun h => by omega)⟩, Below.refl _ _⟩

set_option maxRecDepth 100000 in
theorem eqPlaceS_c (A A' : Option Addr) (n c n' c' B B' : Nat) (ps : List Plc) (w : World) (h : PsM w B A n c ps) (h' : PsM w B' A' n' c' ps) (hB : B ≤ w.heap.size) (hB' : B' ≤ w.heap.size) :
    Calls Try.prog 46 #[.slice A n c, .slice A' n' c'] w fun e w' => e = .returned (.bool true) ∧ Below w.heap.size w w' := by
  have hn := h.nb
  have hl := hide h.len
  obtain rfl : n' = n := by have := h'.len; have := h.len; omega
  go_enter Try.func46, Try.ntmps46
  go_wp2
  go_loopw [5] (fun i wr => ∃ k : Nat, k ≤ n' ∧ i = .int .i64 k ∧ Hid (Below w.heap.size w wr)) (fun i _ => n' - (intOf i).toNat)
  case atStart => exact ⟨0, Nat.zero_le _, rfl, hide (Below.refl _ _)⟩
  case round =>
    obtain ⟨k, hk, rfl, hb⟩ := hrel
    by_cases hlt : k < n'
    · obtain ⟨b, off, p, rfl, hbB, hx, hc⟩ := (h.below (hb.out.mono hB)).look hlt
      obtain ⟨b', off', p', rfl, hbB', hx', hc'⟩ := (h'.below (hb.out.mono hB')).look hlt
      obtain rfl : p' = p := by have := hx.out.symm.trans hx'.out; injection this with e; exact e.symm
      obtain ⟨A1, n1, c1, A2, n2, c2, e1, e2, e3, hm⟩ := hc.plM
      obtain ⟨A3, n3, c3, A4, n4, c4, f1, f2, f3, hm'⟩ := hc'.plM
      have hszb := hb.out.size
      have HE := hide (fun (W : World) (hq : Below wr.heap.size wr W) => show Calls Try.prog 15 #[.agg #[.slice A1 n1 c1, .int .i64 p'.step, .slice A2 n2 c2], .agg #[.slice A3 n3 c3, .int .i64 p'.step, .slice A4 n4 c4]] W (fun e w' => e = .returned (.bool true) ∧ Below wr.heap.size wr w') from
        (eqPlace_c _ _ p' p' _ _ W ((hm.more (by omega)).up hq) ((hm'.more (by omega)).up hq) (Nat.le_refl _) (Nat.le_refl _)).mono fun e w' ⟨e1, hq'⟩ => ⟨by rw [sameP_refl] at e1; exact e1, upB hq hq'⟩)
      clear hc hc' hm hm'
      go_wp2_with fail
      go_region_law (go_simp; go_at_call 15; (with_reducible refine (HE.out _ ?_).mono ?_); (focus (repeat (first | assumption | exact Below.refl _ _ | refine Below.drew ?_)); done); rintro e w3 ⟨rfl, hq3⟩; have hb3 := hide (upB hb.out hq3))
      all_goals
        go_wp2_with fail
        go_roundw
        case rel => exact ⟨k + 1, by omega, by go_num, by first | exact hb3 | exact hide (Below.drew hb3.out)⟩
        case measure => simp [intOf]; omega
    · obtain rfl : k = n' := by omega
      go_wp2
      go_ret
      exact ⟨rfl, hb.out⟩
end Go.Proofs.Ytokokbfcnjkcoaa
