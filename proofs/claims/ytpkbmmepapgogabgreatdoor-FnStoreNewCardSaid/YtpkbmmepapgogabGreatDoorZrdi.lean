/-
  Words, plain lemmas and contracts that belong together, joined into one file.
-/
import Derived.Test.YtpkbmmepapgogabGreatDoorZla
import Derived.Test.YtpkbmmepapgogabGreatDoorPlaceI
import Derived.Test.YtpkbmmepapgogabGreatDoorZtx
import Derived.Test.YtpkbmmepapgogabGreatDoorStrE
import Derived.Test.YtpkbmmepapgogabGreatDoorZpd
import Derived.Deep.RegionHeld3
import Derived.Test.YtpkbmmepapgogabGreatDoorZdk
namespace Go.Proofs.YtpkbmmepapgogabGreatDoor
open Go.RowKit
set_option linter.unusedVariables false

/-- The texts of the first k numbers, and empty ones behind. -/
def itoS (z : Int) : ByteArray := strB (Lib.itoa z)
def cpyT (zs : List Int) (k : Nat) : List ByteArray := (zs.take k).map itoS ++ List.replicate (zs.length - k) ⟨#[]⟩
theorem cpyT_zero (zs : List Int) : cpyT zs 0 = List.replicate zs.length ⟨#[]⟩ := by simp [cpyT]
theorem cpyT_all (zs : List Int) : cpyT zs zs.length = zs.map itoS := by simp [cpyT]
theorem cpyT_set {zs : List Int} {k : Nat} {x : Int} (h : zs[k]? = some x) : (cpyT zs k).set k (itoS x) = cpyT zs (k + 1) := by
  have hk := (List.getElem?_eq_some_iff.1 h).1
  unfold cpyT
  rw [List.set_append_right _ _ (by rw [List.length_map, List.length_take]; omega), List.length_map, List.length_take, show k - min k zs.length = 0 by omega, show zs.length - k = (zs.length - (k + 1)) + 1 by omega, List.replicate_succ, List.set_cons_zero, List.take_add_one, h]
  simp
section
variable {w w' : World} {base g n c k : Nat} {ss : List ByteArray}
theorem OwnS.setAt (h : OwnS w base (.slice (some ⟨g, 0, none⟩) n c) ss) (k : Nat) (x : ByteArray) : OwnS (w.setCell ⟨g, k, none⟩ (.string x)) base (.slice (some ⟨g, 0, none⟩) n c) (ss.set k x) := by
  have hn := h.len
  subst hn
  have := (h.row.stored k (.string x)).1
  refine ⟨?_⟩
  rw [List.length_set, List.map_set]
  exact this
theorem OwnS.at_ (h : OwnS w base (.slice (some ⟨g, 0, none⟩) n c) ss) (hk : k < n) : ∃ x, w.cell? ⟨g, k, none⟩ = some (.string x) ∧ w.frozen? ⟨g, k, none⟩ = false ∧ base ≤ g ∧ g < w.heap.size := by
  have hn := h.len
  subst hn
  rcases row_shape h.row with ⟨hv, h0⟩ | ⟨g', cap, hv, hg, hh, hn, hm⟩
  · injection hv with e1 e2 e3
    cases e1
  · injection hv with e1 e2 e3
    injection e1 with e1
    injection e1 with e1
    subst e1
    refine ⟨ss[k], ?_, h.row.frozenAt k, hg, hh⟩
    rw [h.row.cellAt k (by simpa using hk), List.getElem?_map, List.getElem?_eq_getElem hk]
    rfl
theorem ownS_made {m : Nat} (ho : w.ownsRow base 9 1 (.slice (some ⟨g, 0, none⟩) m m) m (madeCells (Value.string ⟨#[]⟩).cells (m * 1)).toList) : OwnS w base (.slice (some ⟨g, 0, none⟩) m m) (List.replicate m ⟨#[]⟩) := by
  refine ⟨?_⟩
  rw [List.length_replicate]
  have e : (madeCells (Value.string ⟨#[]⟩).cells (m * 1)).toList = (List.replicate m (⟨#[]⟩ : ByteArray)).map Value.string := by
    simp [Value.cells, toList_madeCells_one]
  rw [← e]
  exact ho
end

set_option maxRecDepth 100000 in
set_option maxHeartbeats 1600000 in
theorem rowText_c (A : Option Addr) (n c B : Nat) (zs : List Int) (w : World) (h : Ints w B A n c zs) (hB : B ≤ w.heap.size) (hn : n ≤ 1000) (hL : LaidT w) (hlen : (joinT 44 (zs.map Lib.itoa)).length ≤ 100000) :
    Calls Tryz.prog 67 #[.slice A n c] w fun e w' => e = .returned (.string (strB (joinT 44 (zs.map Lib.itoa)))) ∧ Below w.heap.size w w' := by
  have hl := hide h.len
  obtain ⟨i1, hi, hz0, hz1, hz2⟩ := info_parts infoStr
  go_enter Tryz.func67, Tryz.ntmps67
  go_wp2_with (at_make; refine wpList_make_full _ rfl _ _ 83 rfl w.heap.size 9 i1 (.string ⟨#[]⟩) 1 Tryz.underlying83 hi hz0 hz1 .i64 .i64 _ _ n rfl rfl rfl rfl (by rw [hz2]; omega) (by unfold maxLen; omega) (Nat.le_refl _) ?_; intro w1 hown0 hgrow0)
  have hb0 := hide (show Below w.heap.size w w1 from (Below.refl _ _).grown hgrow0 (Nat.le_refl _) (fun k hk => by cases hk))
  have ho0 := hide (show OwnS w1 w.heap.size (.slice (some ⟨w.heap.size, 0, none⟩) n n) (cpyT zs 0) by rw [cpyT_zero, hl.out]; exact ownS_made hown0)
  clear hown0 hgrow0
  go_loopw [4, 5, 11] (fun v4 v5 i wr => ∃ k : Nat, k ≤ n ∧ i = .int .i64 k ∧ Hid (OwnS wr w.heap.size (.slice (some ⟨w.heap.size, 0, none⟩) n n) (cpyT zs k)) ∧ Hid (Below w.heap.size w wr)) (fun _ _ i _ => n - (intOf i).toNat)
  case atStart => exact ⟨0, Nat.zero_le _, rfl, ho0, hb0⟩
  case round =>
    clear ho0 hb0
    obtain ⟨k, hk, rfl, ho, hb⟩ := hrel
    by_cases hlt : k < n
    · obtain ⟨b, off, x, rfl, hbB, hx, hcell⟩ := (h.below (hb.out.mono hB)).look hlt
      have hwx := h.wf_at hx.out
      have hwx2 := i64_wf hwx
      have HT := hide (fun (W : World) (hq : Below wr.heap.size wr W) => show Calls Tryz.prog 68 #[.int .i64 x] W (fun e w' => e = .returned (.string (itoS x)) ∧ Below W.heap.size W w') from itoa_impl x W (hL.up (upB hb.out hq)) hwx2.1 hwx2.2)
      obtain ⟨T, hT⟩ : ∃ T, Hid (itoS x = T) := ⟨_, hide rfl⟩
      rw [hT.out] at HT
      clear hwx hwx2
      go_wp2_with fail
      refine (HT.out _ (Below.refl _ _)).mono ?_
      rintro e w2 ⟨rfl, hq⟩
      have ho2 := hide (ho.out.up hq)
      have hb2 := hide (upB hb.out hq)
      obtain ⟨y, hy, hfy, hg, hgl⟩ := ho2.out.at_ hlt
      have ho3 := hide (show OwnS (w2.setCell ⟨w.heap.size, k, none⟩ (.string T)) w.heap.size (.slice (some ⟨w.heap.size, 0, none⟩) n n) (cpyT zs (k + 1)) by
        rw [← cpyT_set hx.out, hT.out]; exact ho2.out.setAt k T)
      have hb3 := hide (hb2.out.setCell (p := ⟨w.heap.size, k, none⟩) (Nat.le_refl _) (.string T))
      clear hq ho hb
      go_wp2_with fail
      go_roundw
      case rel => exact ⟨k + 1, by omega, by go_num, ho3, hb3⟩
      case measure => simp [intOf]; omega
    · obtain rfl : k = n := by omega
      have ho2 := hide (show OwnS wr w.heap.size (.slice (some ⟨w.heap.size, 0, none⟩) k k) (zs.map itoS) by
        have := ho.out
        have e := cpyT_all zs
        rw [hl.out] at e
        rwa [e] at this)
      have hM := hide ho2.out.strs
      have e0 := hide (show Lib.join ((zs.map itoS).map (·.data.toList)) ((⟨#[44]⟩ : ByteArray).data.toList) = joinT 44 (zs.map Lib.itoa) from by
        rw [List.map_map, show ((fun x : ByteArray => x.data.toList) ∘ itoS) = Lib.itoa from funext fun z => by simp [itoS, strB]]
        exact join_sep 44 _)
      have HJ := hide (show Calls Tryz.prog 92 #[.slice (some ⟨w.heap.size, 0, none⟩) (zs.map itoS).length k, .string ⟨#[44]⟩] wr (fun e w' => e = .returned (.string (strB (joinT 44 (zs.map Lib.itoa)))) ∧ Below wr.heap.size wr w') from
        (Tryz.strings_Join w.heap.size 0 k (zs.map itoS) ⟨#[44]⟩ wr (fun j x hx => by
          rcases Nat.eq_zero_or_pos k with h0 | h0
          · have h1 := (List.getElem?_eq_some_iff.1 hx).1
            have h2 := hM.out.len
            omega
          · obtain ⟨b, off, e, _, hc⟩ := hM.out.cells h0
            injection e with e
            injection e with e1 e2
            subst e1; subst e2
            exact hc j x hx) (by rcases Nat.eq_zero_or_pos k with h0 | h0
                                 · rcases row_shape ho2.out.row with ⟨hv, _⟩ | ⟨g, cap, hv, hg, hh, _⟩
                                   · injection hv with e1; cases e1
                                   · injection hv with e1; injection e1 with e1; injection e1 with e1; omega
                                 · obtain ⟨b, off, e, hb', _⟩ := hM.out.cells h0; injection e with e; injection e with e1 e2; omega) (by have := hM.out.len; omega) (by have := hM.out.len; omega) (by rw [e0.out]; omega)).mono fun e w' ⟨h1, h2⟩ => ⟨by rw [h1, e0.out]; rfl, h2⟩)
      rw [show (zs.map itoS).length = k from hM.out.len] at HJ
      go_wp2_with fail
      refine HJ.out.mono ?_
      rintro e w2 ⟨rfl, hq⟩
      have hb2 := hide (upB hb.out hq)
      go_wp2_with fail
      go_ret
      exact ⟨rfl, hb2.out⟩

def wordL (ws : List Int) (k : Nat) : Bs := (ws.take k).map (fun z => UInt8.ofNat (97 + z.toNat))
theorem wordL_step {ws : List Int} {k : Nat} {x : Int} (h : ws[k]? = some x) : wordL ws (k + 1) = wordL ws k ++ [UInt8.ofNat (97 + x.toNat)] := by
  unfold wordL
  rw [List.take_add_one, h, List.map_append]
  rfl
theorem wordL_len (ws : List Int) (k : Nat) : (wordL ws k).length ≤ k := by unfold wordL; simp; omega
theorem wordL_all {ws : List Int} (h : ws ≠ []) : wordL ws ws.length = wordT ws := by
  unfold wordL wordT
  rw [List.take_length, if_neg h]
set_option maxRecDepth 100000 in
set_option maxHeartbeats 1600000 in
theorem drawsText_c (A : Option Addr) (n c B : Nat) (ws : List Int) (w : World) (h : Ints w B A n c ws) (hB : B ≤ w.heap.size) (hn : n ≤ 1000) (hw : ∀ x ∈ ws, 0 ≤ x ∧ x < 3) :
    Calls Tryz.prog 69 #[.slice A n c] w fun e w' => e = .returned (.string (strB (wordT ws))) ∧ Below w.heap.size w w' := by
  have hl := hide h.len
  by_cases hn0 : n = 0
  · have e0 : ws = [] := List.eq_nil_of_length_eq_zero (by have := hl.out; omega)
    subst e0
    subst hn0
    go_enter Tryz.func69, Tryz.ntmps69
    go_wp2_with fail
    go_ret
    exact ⟨rfl, Below.refl _ _⟩
  · have hne : ws ≠ [] := fun e => by have := hl.out; rw [e] at this; simp at this; omega
    have hall := hide (wordL_all hne)
    replace hw := hide hw
    clear hne
    go_enter Tryz.func69, Tryz.ntmps69
    go_wp2_with fail
    go_loopw [3, 5, 11] (fun v v5 i wr => ∃ k : Nat, ∃ S : ByteArray, k ≤ n ∧ i = .int .i64 k ∧ v = .string S ∧ Hid (S = strB (wordL ws k)) ∧ Hid (Below w.heap.size w wr)) (fun _ _ i _ => n - (intOf i).toNat)
    case atStart => exact ⟨0, ⟨#[]⟩, Nat.zero_le _, rfl, rfl, hide rfl, hide (Below.refl _ _)⟩
    case round =>
      obtain ⟨k, S, hk, rfl, rfl, hS, hb⟩ := hrel
      have hsz : S.size ≤ k := by rw [hS.out, strB_size]; exact wordL_len _ _
      by_cases hlt : k < n
      · obtain ⟨b, off, x, rfl, hbB, hx, hcell⟩ := (h.below (hb.out.mono hB)).look hlt
        obtain ⟨x0, x3⟩ := hw.out x (List.mem_of_getElem? hx.out)
        obtain ⟨cc, rfl⟩ : ∃ cc : Nat, x = (cc : Int) := ⟨x.toNat, by omega⟩
        have hcut := abc_cut (c := cc) (by omega)
        have hst := hide (congrArg strB (wordL_step hx.out))
        obtain ⟨L, hL⟩ : ∃ L, Hid (strB [UInt8.ofNat (97 + cc)] = L) := ⟨_, hide rfl⟩
        have hLs : L.size = 1 := by rw [← hL.out, strB_size]; rfl
        rw [hL.out] at hcut
        have hnx := hide (show S ++ L = strB (wordL ws (k + 1)) by rw [hst.out, strB_append, hS.out]; show _ = _ ++ strB ([UInt8.ofNat (97 + ((cc : Int)).toNat)]); rw [Int.toNat_natCast, hL.out])
        have q1 : ¬ 9223372036854775807 < S.size + 1 := by omega
        go_wp2_with fail
        go_roundw
        case rel => exact ⟨k + 1, _, by omega, by go_num, rfl, hnx, hb⟩
        case measure => simp [intOf]; omega
      · obtain rfl : k = n := by omega
        have hS2 := hide (show S = strB (wordT ws) by
          have e := hall.out
          rw [hl.out] at e
          rw [hS.out, e])
        go_wp2_with fail
        go_ret
        exact ⟨by rw [hS2.out]; rfl, hb.out⟩
theorem rowI_eq {zs : List Int} (hne : zs ≠ []) (h : ∀ z ∈ zs, 0 ≤ z ∧ z ≤ 10) : joinT 44 (zs.map Lib.itoa) = rowT zs := by
  unfold rowT
  rw [if_neg hne]
  congr 1
  exact List.map_congr_left fun z hz => by
    have hb := h z hz
    rw [(itoa_at (z := z) (by omega) (by omega)).1, numT_step hb.1]
set_option maxRecDepth 100000 in
set_option maxHeartbeats 3200000 in
theorem placeText_impl (v : Value) (p : Plc) (B : Nat) (w : World) (h : PlM w B v p) (hB : B ≤ w.heap.size) (hL : LaidT w) :
    Calls Tryz.prog 40 #[v] w fun e w' => e = .returned (.string (strB (placeT p))) ∧ Below w.heap.size w w' := by
  obtain ⟨A, n, c, A', n', c', rfl, h1, h2, hwf⟩ := h.ex
  obtain ⟨W0, hW0⟩ : ∃ W0, Hid (w.alloc (.cells #[.slice A n c, .int .i64 p.step, .slice A' n' c'] 31) = W0) := ⟨_, hide rfl⟩
  have hq0 := hide (show Below w.heap.size w W0 by rw [← hW0.out]; exact al w _)
  have ht0 := hide (show Tri W0 w.heap.size (.slice A n c) (.int .i64 p.step) (.slice A' n' c') by rw [← hW0.out]; exact Tri.made w _ _ _ _)
  have hl := hide h1.len
  have hl' := hide h2.len
  have i1 := hide ((h1.more hB).up hq0.out)
  have i2 := hide ((h2.more hB).up hq0.out)
  have HO := hide (placeOk_impl _ p _ W0 (plM_mk i1.out i2.out hwf) (Nat.le_refl _))
  obtain ⟨t0, t1, t2, _⟩ := ht0.out
  by_cases hok : placeOk p = true
  · rw [hok] at HO
    obtain ⟨⟨g1, g3⟩, gz, ⟨gs0, gs1⟩, g6, gw⟩ := placeOk_yes hok
    have hrow := hide (rowI_eq (zs := p.start) (fun e => by rw [e] at g1; simp at g1) gz)
    have hfin := hide (show strB (placeT p) = strB (rowT p.start) ++ ⟨#[32]⟩ ++ strB (stepT p.step) ++ ⟨#[32]⟩ ++ strB (wordT p.word) by
      rw [placeT_ok hok]; unfold rawT
      rw [strB_append, strB_cons, strB_append, strB_cons]
      simp only [ByteArray.append_assoc])
    have hz1 := (show (strB (rowT p.start)).size ≤ 8 by rw [strB_size]; exact rowT_len g3 gz)
    have hz2 := (show (strB (stepT p.step)).size ≤ 3 by rw [strB_size]; exact (step_at (by omega) (by omega)).2.2.2)
    have hz3 := (show (strB (wordT p.word)).size ≤ 7 by rw [strB_size]; have := wordT_len p.word; omega)
    have hn3 : n ≤ 1000 := by have := hl.out; omega
    have hn6 : n' ≤ 1000 := by have := hl'.out; omega
    have HA := hide (fun (W : World) (hq : Below W0.heap.size W0 W) => show Calls Tryz.prog 67 #[.slice A n c] W (fun e w' => e = .returned (.string (strB (rowT p.start))) ∧ Below W0.heap.size W0 w' ∧ w'.cell? ⟨w.heap.size, 0, none⟩ = some (.slice A n c) ∧ w'.cell? ⟨w.heap.size, 1, none⟩ = some (.int .i64 p.step) ∧ w'.cell? ⟨w.heap.size, 2, none⟩ = some (.slice A' n' c')) from
      (rowText_c A n c _ p.start W (i1.out.up hq) (Nat.le_refl _) hn3 (hL.up (upB hq0.out hq)) (by rw [hrow.out]; have := hz1; rw [strB_size] at this; omega)).mono fun e w' ⟨e1, hq'⟩ => by
        have hk := ht0.out.up (upB hq hq')
        rw [hrow.out] at e1
        exact ⟨e1, upB hq hq', hk.c0, hk.c1, hk.c2⟩)
    have HB := hide (fun (W : World) (hq : Below W0.heap.size W0 W) => show Calls Tryz.prog 68 #[.int .i64 p.step] W (fun e w' => e = .returned (.string (strB (stepT p.step))) ∧ Below W0.heap.size W0 w' ∧ w'.cell? ⟨w.heap.size, 0, none⟩ = some (.slice A n c) ∧ w'.cell? ⟨w.heap.size, 1, none⟩ = some (.int .i64 p.step) ∧ w'.cell? ⟨w.heap.size, 2, none⟩ = some (.slice A' n' c')) from
      (itoa_impl p.step W (hL.up (upB hq0.out hq)) (by omega) (by omega)).mono fun e w' ⟨e1, hq'⟩ => by
        have hk := ht0.out.up (upB hq hq')
        rw [(itoa_at (z := p.step) (by omega) (by omega)).1] at e1
        exact ⟨e1, upB hq hq', hk.c0, hk.c1, hk.c2⟩)
    have HC := hide (fun (W : World) (hq : Below W0.heap.size W0 W) => show Calls Tryz.prog 69 #[.slice A' n' c'] W (fun e w' => e = .returned (.string (strB (wordT p.word))) ∧ Below W0.heap.size W0 w' ∧ w'.cell? ⟨w.heap.size, 0, none⟩ = some (.slice A n c) ∧ w'.cell? ⟨w.heap.size, 1, none⟩ = some (.int .i64 p.step) ∧ w'.cell? ⟨w.heap.size, 2, none⟩ = some (.slice A' n' c')) from
      (drawsText_c A' n' c' _ p.word W (i2.out.up hq) (Nat.le_refl _) hn6 (fun x hx => by have := gw x hx; omega)).mono fun e w' ⟨e1, hq'⟩ => by
        have hk := ht0.out.up (upB hq hq')
        exact ⟨e1, upB hq hq', hk.c0, hk.c1, hk.c2⟩)
    obtain ⟨S1, hS1⟩ : ∃ S, Hid (strB (rowT p.start) = S) := ⟨_, hide rfl⟩
    obtain ⟨S2, hS2⟩ : ∃ S, Hid (strB (stepT p.step) = S) := ⟨_, hide rfl⟩
    obtain ⟨S3, hS3⟩ : ∃ S, Hid (strB (wordT p.word) = S) := ⟨_, hide rfl⟩
    rw [hS1.out, hS2.out, hS3.out] at hfin
    rw [hS1.out] at hz1 HA
    rw [hS2.out] at hz2 HB
    rw [hS3.out] at hz3 HC
    have q1 : ¬ 9223372036854775807 < S1.size + 1 := by omega
    have q2 : ¬ 9223372036854775807 < S1.size + 1 + S2.size := by omega
    have q3 : ¬ 9223372036854775807 < S1.size + 1 + S2.size + 1 := by omega
    have q4 : ¬ 9223372036854775807 < S1.size + 1 + S2.size + 1 + S3.size := by omega
    clear gz gw hok g1 g3 g6 hrow
    have hW1 := hW0.out
    subst hW1
    go_enter Tryz.func40, Tryz.ntmps40
    go_wp2_with fail
    refine HO.out.mono ?_
    rintro e w2 ⟨rfl, hq2⟩
    obtain ⟨f0, f1, f2, _⟩ := ht0.out.up hq2
    have hq2 := hide hq2
    have hb := hq2.out
    go_wp2_with fail
    go_region_held3 (fun W => W.cell? ⟨w.heap.size, 0, none⟩ = some (.slice A n c) ∧ W.cell? ⟨w.heap.size, 1, none⟩ = some (.int .i64 p.step) ∧ W.cell? ⟨w.heap.size, 2, none⟩ = some (.slice A' n' c')) (first | exact ⟨f0, f1, f2⟩ | exact ⟨k0, k1, k2⟩ | exact ⟨m0, m1, m2⟩ | exact ⟨n0, n1, n2⟩) (first | (go_at_call 67; (with_reducible refine (HA.out _ ?_).mono ?_); (focus (repeat (first | assumption | exact Below.refl _ _ | refine Below.drew ?_)); done); rintro e w' ⟨rfl, hqa, k0, k1, k2⟩) | (go_at_call 68; (with_reducible refine (HB.out _ ?_).mono ?_); (focus (repeat (first | assumption | exact Below.refl _ _ | refine Below.drew ?_)); done); rintro e w' ⟨rfl, hqb, m0, m1, m2⟩) | (go_at_call 69; (with_reducible refine (HC.out _ ?_).mono ?_); (focus (repeat (first | assumption | exact Below.refl _ _ | refine Below.drew ?_)); done); rintro e w' ⟨rfl, hqc, n0, n1, n2⟩))
    all_goals
      go_wp2_with fail
      go_ret
      exact ⟨by rw [hfin.out]; rfl, upB hq0.out (by assumption)⟩
  · have hok : placeOk p = false := by simpa using hok
    rw [hok] at HO
    have he := hide (show strB (placeT p) = ⟨#[]⟩ by rw [placeT_no hok]; rfl)
    clear hok
    have hW1 := hW0.out
    subst hW1
    go_enter Tryz.func40, Tryz.ntmps40
    go_wp2_with fail
    refine HO.out.mono ?_
    rintro e w2 ⟨rfl, hq2⟩
    go_wp2_with fail
    go_ret
    exact ⟨by rw [he.out]; rfl, upB hq0.out hq2⟩
end Go.Proofs.YtpkbmmepapgogabGreatDoor

namespace Go.Proofs.YtpkbmmepapgogabGreatDoor
open Go.RowKit
set_option linter.unusedVariables false

set_option maxRecDepth 100000 in
set_option maxHeartbeats 1600000 in
theorem readRowText_c (s : ByteArray) (w : World) (hL : LaidN w) (hs : s.size ≤ 1000) :
    Calls Tryz.prog 53 #[.string s] w fun e w' => ∃ A' n' c', e = .returned (.slice A' n' c') ∧ Own w' w.heap.size (.slice A' n' c') ((cutT 44 (bts s)).map numL) ∧ Below w.heap.size w w' := by
  obtain ⟨i0, hi, hz0, hz1, hz2⟩ := info_parts infoInt
  obtain ⟨mx, hmx⟩ := hL.max
  have hSp := hide (Tryz.strings_Split s ⟨#[44]⟩ mx w (by omega) hmx (Nat.le_refl 1))
  obtain ⟨N, hN⟩ : ∃ N, Hid (Lib.countB s ⟨#[44]⟩ + 1 = N) := ⟨_, hide rfl⟩
  obtain ⟨L, hLL⟩ : ∃ L, Hid (Lib.splitB ⟨#[44]⟩ 0 (Lib.countB s ⟨#[44]⟩) s = L) := ⟨_, hide rfl⟩
  have hcut := hide (split_cut 44 s.size s (Nat.le_refl _))
  have hlen := hide (split_len 44 s.size s (Nat.le_refl _))
  rw [hLL.out] at hcut hlen hSp
  rw [hN.out] at hlen hSp
  have hNb : N ≤ 1001 := by
    have h1 := congrArg List.length hcut.out
    rw [List.length_map, hlen.out] at h1
    have h2 := cutT_len 44 (bts s)
    rw [bts_len] at h2
    omega
  have heach := hide (fun (k : Nat) x (hx : L[k]? = some x) => show x.size ≤ 1000 from by
    have h1 : (cutT 44 (bts s))[k]? = some (bts x) := by rw [← hcut.out, List.getElem?_map, hx]; rfl
    have h2 := cutT_each 44 (bts s) _ (List.mem_of_getElem? h1)
    rw [bts_len, bts_len] at h2
    omega)
  have hget := hide (fun (k : Nat) x (hx : L[k]? = some x) => show ((cutT 44 (bts s)).map numL)[k]? = some (numL (bts x)) from by
    rw [← hcut.out, List.getElem?_map, List.getElem?_map, hx]; rfl)
  obtain ⟨Z, hZ⟩ : ∃ Z, Hid ((cutT 44 (bts s)).map numL = Z) := ⟨_, hide rfl⟩
  have hZl := hide (show Z.length = N from by rw [← hZ.out, List.length_map, ← hlen.out, ← hcut.out, List.length_map])
  rw [hZ.out] at hget ⊢
  have hcel := hide (show ∀ (k : Nat) x, L[k]? = some x → (w.alloc (.cells (L.map Value.string).toArray 9)).cell? ⟨w.heap.size, k, none⟩ = some (.string x) from fun k x hx => lit_cells w (L.map Value.string) 9 k (.string x) (by rw [List.getElem?_map, hx]; rfl))
  have hq0 := hide (al w (.cells (L.map Value.string).toArray 9))
  go_enter Tryz.func53, Tryz.ntmps53
  go_wp2_with fail
  refine hSp.out.mono ?_
  rintro e w' ⟨rfl, hw'⟩
  obtain ⟨w1, hw1⟩ : ∃ W, Hid (w.alloc (.cells (L.map Value.string).toArray 9) = W) := ⟨_, hide rfl⟩
  rw [hw1.out] at hw' hcel hq0
  subst hw'
  have hsz := hide (show w.heap.size + 1 = w'.heap.size by rw [← hw1.out]; simp)
  have hlt0 : w.heap.size < w'.heap.size := by have := hsz.out; omega
  clear hSp hw1
  go_wp2_with fail
  go_loopw [3, 5, 9] (fun v v5 i wr => ∃ k : Nat, ∃ B d f, k ≤ N ∧ i = .int .i64 k ∧ v = .slice B d f ∧ Hid (Own wr w'.heap.size (.slice B d f) (Z.take k)) ∧ Hid (Below w'.heap.size w' wr)) (fun _ _ i _ => N - (intOf i).toNat)
  case atStart => exact ⟨0, none, 0, 0, Nat.zero_le _, rfl, rfl, hide Own.none_, hide (Below.refl _ _)⟩
  case round =>
    obtain ⟨k, B, d, f, hk, rfl, rfl, ho, hb⟩ := hrel
    have hbs := hb.out.size
    by_cases hlt : k < N
    · obtain ⟨x, hx⟩ : ∃ x, Hid (L[k]? = some x) := ⟨_, hide (List.getElem?_eq_getElem (by rw [hlen.out]; exact hlt))⟩
      have hc : wr.cell? ⟨w.heap.size, k, none⟩ = some (.string x) := (hb.out.cell (p := ⟨w.heap.size, k, none⟩) hlt0).trans (hcel.out k x hx.out)
      have hxs := heach.out k x hx.out
      have hzk := hide (hget.out k x hx.out)
      have HT := hide (numberOf_c x wr (hL.up (upB hq0.out hb.out)) (by omega))
      have hwf := hide (numL_wf (bts x))
      obtain ⟨z, hz⟩ : ∃ z, Hid (numL (bts x) = z) := ⟨_, hide rfl⟩
      rw [hz.out] at HT hzk hwf
      have hld := hide ho.out.len
      go_wp2_with fail
      refine HT.out.mono ?_
      rintro e w2 ⟨rfl, hq⟩
      have ho2 := hide (ho.out.up hq)
      have hb2 := hide (upB hb.out hq)
      have hbs2 := hb2.out.size
      clear hq ho hb HT
      go_wp2_with (at_builtin; refine wpList_app _ rfl _ _ 29 rfl i0 Tryz.underlying29 hi hz0 hz1 hz2 _ (Z.take k) rfl (ho2.out.alloc _) _ 1 1 _ [z] rfl (ints_lit1 hwf.out) (by simp; omega) (by rw [List.length_take]; omega) ?_; intro A3 n3 c3 w4 ho3 hg3)
      have hb4 := hide ((hb2.out.alloc hbs2 (.cells #[.int .i64 z] 3)).grown hg3 (by simp; omega) (fun j hj => ((ho2.out.alloc (.cells #[.int .i64 z] 3)).row.lt j hj).1))
      have ho4 := hide (show Own w4 w'.heap.size (.slice A3 n3 c3) (Z.take (k + 1)) by rw [take_succ hzk.out]; exact ho3)
      clear hg3 ho2 hb2
      go_wp2
      go_roundw
      case rel => exact ⟨k + 1, _, _, _, by omega, by go_num, rfl, ho4, hb4⟩
      case measure => simp [intOf]; omega
    · obtain rfl : k = N := by omega
      have ho2 := hide (show Own wr w'.heap.size (.slice B d f) Z by
        have := ho.out
        rwa [List.take_of_length_le (by rw [hZl.out]; exact Nat.le_refl _)] at this)
      go_wp2_with fail
      go_ret
      exact ⟨B, d, f, rfl, ho2.out.down (Nat.le_of_lt hlt0), upB hq0.out hb.out⟩
theorem ixb_cnt : ((List.range 256).all fun n => decide (-1 ≤ Lib.indexByte abcL (UInt8.ofNat n) ∧ Lib.indexByte abcL (UInt8.ofNat n) ≤ 2)) = true := by kernel_rfl
theorem ixb_at (b : UInt8) : -1 ≤ Lib.indexByte abcL b ∧ Lib.indexByte abcL b ≤ 2 := by
  have := List.all_eq_true.1 ixb_cnt b.toNat (List.mem_range.2 b.toNat_lt)
  rw [UInt8.ofNat_toNat] at this
  exact of_decide_eq_true this
set_option maxRecDepth 100000 in
set_option maxHeartbeats 1600000 in
theorem readDraws_c (s : ByteArray) (w : World) (hs : s.size ≤ 1000) :
    Calls Tryz.prog 55 #[.string s] w fun e w' => ∃ A' n' c', e = .returned (.slice A' n' c') ∧ Own w' w.heap.size (.slice A' n' c') (drwL (bts s)) ∧ Below w.heap.size w w' := by
  obtain ⟨i0, hi, hz0, hz1, hz2⟩ := info_parts infoInt
  by_cases hdot : s = ⟨#[46]⟩
  · have he := hide (show drwL (bts s) = [] by rw [hdot]; rfl)
    subst hdot
    go_enter Tryz.func55, Tryz.ntmps55
    go_wp2_with fail
    go_ret
    exact ⟨none, 0, 0, rfl, by rw [he.out]; exact Own.none_, Below.refl _ _⟩
  · have hne : bts s ≠ [46] := fun e => hdot (by rw [← strB_bts s, e]; rfl)
    obtain ⟨hd0, hd1⟩ := str_neq hdot
    rw [show (⟨#[46]⟩ : ByteArray).toList = [46] by rw [ByteArray.toList_eq]] at hd0 hd1
    have hget := hide (fun (k : Nat) (hk : k < s.size) => show (drwL (bts s))[k]? = some (Lib.indexByte abcL s[k]) from by
      unfold drwL
      rw [if_neg hne, List.getElem?_map, bts_at s k hk]; rfl)
    obtain ⟨Z, hZ⟩ : ∃ Z, Hid (drwL (bts s) = Z) := ⟨_, hide rfl⟩
    have hZl := hide (show Z.length = s.size from by rw [← hZ.out]; unfold drwL; rw [if_neg hne, List.length_map, bts_len])
    rw [hZ.out] at hget ⊢
    obtain ⟨N, hN⟩ : ∃ N, Hid (s.size = N) := ⟨_, hide rfl⟩
    clear hne hdot
    go_enter Tryz.func55, Tryz.ntmps55
    go_wp2_with fail
    go_loopw [3, 4, 9] (fun v v4 i wr => ∃ k : Nat, ∃ B d f, k ≤ s.size ∧ i = .int .i64 k ∧ v = .slice B d f ∧ Hid (Own wr w.heap.size (.slice B d f) (Z.take k)) ∧ Hid (Below w.heap.size w wr)) (fun _ _ i _ => s.size - (intOf i).toNat)
    case atStart => exact ⟨0, none, 0, 0, Nat.zero_le _, rfl, rfl, hide Own.none_, hide (Below.refl _ _)⟩
    case round =>
      obtain ⟨k, B, d, f, hk, rfl, rfl, ho, hb⟩ := hrel
      have hbs := hb.out.size
      by_cases hlt : k < s.size
      · have hzk := hide (hget.out k hlt)
        have hwf := hide (show (Lit.int .i64 (Lib.indexByte abcL s[k])).wf = true from wf_i64 (by have := ixb_at s[k]; omega))
        have HT := hide (fun (W : World) => show Calls Tryz.prog 88 #[.string ⟨#[97, 98, 99]⟩, .int .u8 (s[k].toNat : Int)] W (fun e w' => e = .returned (.int .i64 (Lib.indexByte abcL s[k])) ∧ Below W.heap.size W w') from
          (Tryz.strings_IndexByte ⟨#[97, 98, 99]⟩ (s[k].toNat : Int) W).mono fun e w' ⟨e1, e2⟩ => ⟨by rw [e1]; show _ = Ending.returned (.int .i64 (Lib.indexByte abcL s[k])); rw [Lib.byte_back']; rfl, by rw [e2]; exact Below.refl _ _⟩)
        obtain ⟨z, hz⟩ : ∃ z, Hid (Lib.indexByte abcL s[k] = z) := ⟨_, hide rfl⟩
        rw [hz.out] at HT hzk hwf
        have hld := hide ho.out.len
        have hlt2 := hide hlt
        go_wp2_with fail
        refine (HT.out _).mono ?_
        rintro e w2 ⟨rfl, hq⟩
        have ho2 := hide (ho.out.up hq)
        have hb2 := hide (upB hb.out hq)
        have hbs2 := hb2.out.size
        clear hq ho hb HT
        go_wp2_with (at_builtin; refine wpList_app _ rfl _ _ 29 rfl i0 Tryz.underlying29 hi hz0 hz1 hz2 _ (Z.take k) rfl (ho2.out.alloc _) _ 1 1 _ [z] rfl (ints_lit1 hwf.out) (by simp; omega) (by rw [List.length_take]; omega) ?_; intro A3 n3 c3 w4 ho3 hg3)
        have hb4 := hide ((hb2.out.alloc hbs2 (.cells #[.int .i64 z] 3)).grown hg3 (by simp; omega) (fun j hj => ((ho2.out.alloc (.cells #[.int .i64 z] 3)).row.lt j hj).1))
        have ho4 := hide (show Own w4 w.heap.size (.slice A3 n3 c3) (Z.take (k + 1)) by rw [take_succ hzk.out]; exact ho3)
        clear hg3 ho2 hb2
        go_wp2
        go_roundw
        case rel => exact ⟨k + 1, _, _, _, by omega, by go_num, rfl, ho4, hb4⟩
        case measure => simp [intOf]; omega
      · obtain ⟨kk, hkk⟩ : ∃ m, m = k := ⟨_, rfl⟩
        have hke := hide (show k = s.size by omega)
        have ho2 := hide (show Own wr w.heap.size (.slice B d f) Z by
          have := ho.out
          rwa [List.take_of_length_le (by rw [hZl.out, hke.out]; exact Nat.le_refl _)] at this)
        go_wp2_with fail
        go_ret
        exact ⟨B, d, f, rfl, ho2.out, hb.out⟩
end Go.Proofs.YtpkbmmepapgogabGreatDoor

namespace Go.Proofs.YtpkbmmepapgogabGreatDoor
open Go.RowKit
set_option linter.unusedVariables false

theorem noPlQ {w : World} {base : Nat} : PlQ w base (.agg #[.slice none 0 0, .int .i64 0, .slice none 0 0]) noPlc := ⟨_, _, _, _, _, _, rfl, Own.none_, Own.none_, .inl rfl, by decide⟩
set_option maxRecDepth 100000 in
set_option maxHeartbeats 3200000 in
theorem readPlace_impl (s : ByteArray) (w : World) (hL : LaidN w) :
    Calls Tryz.prog 31 #[.string s] w fun e w' => ∃ u, e = .returned (.tuple #[u, .bool (readPB (bts s))]) ∧ PlQ w' w.heap.size u (readQ (bts s)) ∧ Below w.heap.size w w' := by
  have hz := hide (TriW.made w (.slice none 0 0) (.int .i64 0) (.slice none 0 0) 31)
  have hq0 := hide (al w (.cells #[.slice none 0 0, .int .i64 0, .slice none 0 0] 31))
  by_cases h18 : 18 < s.size
  · have hr := readP_long (s := bts s) (by rw [bts_len]; exact h18)
    have e1 := hide (show readPB (bts s) = false by unfold readPB; rw [hr]; rfl)
    have e2 := hide (show readQ (bts s) = noPlc by unfold readQ; rw [hr]; rfl)
    clear hr
    obtain ⟨z0, z1, z2, y0, y1, y2, _⟩ := hz.out
    go_enter Tryz.func31, Tryz.ntmps31
    go_wp2_with fail
    exact bodyPost_ret (v := .tuple #[.agg #[.slice none 0 0, .int .i64 0, .slice none 0 0], .bool false]) (by simp [results, Tryz.results31, go_sem]) rfl ⟨_, by rw [e1.out], by rw [e2.out]; exact noPlQ, hq0.out⟩
  · obtain ⟨G, hG⟩ : ∃ G, Hid (partsP (bts s) = G) := ⟨_, hide rfl⟩
    have hl1 := cut_len (bts s) 32
    have hl2 := cut_len (Lib.cut (bts s) [32]).2.1 32
    rw [bts_len] at hl1
    have HC1 := hide (fun (W : World) (hq : Below w.heap.size w W) => cutI_c s W (hL.up hq) (by omega))
    have hg0 := hide (show (partsP (bts s)).start = (cutT 44 (Lib.cut (bts s) [32]).1).map numL from rfl)
    have hg1 := hide (show (partsP (bts s)).step = numL (Lib.cut (Lib.cut (bts s) [32]).2.1 [32]).1 from rfl)
    have hg2 := hide (show (partsP (bts s)).word = drwL (Lib.cut (Lib.cut (bts s) [32]).2.1 [32]).2.1 from rfl)
    have hY := hide (fun (h0 : bts s ≠ []) (h : placeT (partsP (bts s)) = bts s) => partsP_yes h0 h)
    have hNo := hide (fun (h : placeT (partsP (bts s)) ≠ bts s) => partsP_no h)
    rw [hG.out] at hg0 hg1 hg2 hY hNo
    obtain ⟨X1, hX1⟩ : ∃ X, Hid ((Lib.cut (bts s) [32]).1 = X) := ⟨_, hide rfl⟩
    obtain ⟨X2, hX2⟩ : ∃ X, Hid ((Lib.cut (bts s) [32]).2.1 = X) := ⟨_, hide rfl⟩
    obtain ⟨X3, hX3⟩ : ∃ X, Hid ((Lib.cut (bts s) [32]).2.2 = X) := ⟨_, hide rfl⟩
    rw [hX1.out, hX2.out, hX3.out] at HC1
    rw [hX1.out] at hg0 hl1
    rw [hX2.out] at hg1 hg2 hl1 hl2
    have HC2 := hide (fun (W : World) (hq : Below w.heap.size w W) => cutI_c (strB X2) W (hL.up hq) (by rw [strB_size]; omega))
    rw [bts_strB] at HC2
    obtain ⟨Y1, hY1⟩ : ∃ X, Hid ((Lib.cut X2 [32]).1 = X) := ⟨_, hide rfl⟩
    obtain ⟨Y2, hY2⟩ : ∃ X, Hid ((Lib.cut X2 [32]).2.1 = X) := ⟨_, hide rfl⟩
    obtain ⟨Y3, hY3⟩ : ∃ X, Hid ((Lib.cut X2 [32]).2.2 = X) := ⟨_, hide rfl⟩
    rw [hY1.out, hY2.out, hY3.out] at HC2
    rw [hY1.out] at hg1 hl2
    rw [hY2.out] at hg2 hl2
    have HA := hide (fun (W : World) (hq : Below w.heap.size w W) => show Calls Tryz.prog 53 #[.string (strB X1)] W (fun e w' => ∃ A' n' c', e = .returned (.slice A' n' c') ∧ Own w' W.heap.size (.slice A' n' c') G.start ∧ Below W.heap.size W w') from by
      rw [hg0.out]
      have := readRowText_c (strB X1) W (hL.up hq) (by rw [strB_size]; omega)
      rwa [bts_strB] at this)
    have HB := hide (fun (W : World) (hq : Below w.heap.size w W) => show Calls Tryz.prog 54 #[.string (strB Y1)] W (fun e w' => e = .returned (.int .i64 G.step) ∧ Below W.heap.size W w') from by
      rw [hg1.out]
      have := numberOf_c (strB Y1) W (hL.up hq) (by rw [strB_size]; omega)
      rwa [bts_strB] at this)
    have HD := hide (fun (W : World) (hq : Below w.heap.size w W) => show Calls Tryz.prog 55 #[.string (strB Y2)] W (fun e w' => ∃ A' n' c', e = .returned (.slice A' n' c') ∧ Own w' W.heap.size (.slice A' n' c') G.word ∧ Below W.heap.size W w') from by
      rw [hg2.out]
      have := readDraws_c (strB Y2) W (by rw [strB_size]; omega)
      rwa [bts_strB] at this)
    have hwfS := hide (show (Lit.int .i64 G.step).wf = true by rw [hg1.out]; exact numL_wf _)
    obtain ⟨S1, hS1⟩ : ∃ S, Hid (strB X1 = S) := ⟨_, hide rfl⟩
    obtain ⟨S2, hS2⟩ : ∃ S, Hid (strB X2 = S) := ⟨_, hide rfl⟩
    obtain ⟨R1, hR1⟩ : ∃ S, Hid (strB Y1 = S) := ⟨_, hide rfl⟩
    obtain ⟨R2, hR2⟩ : ∃ S, Hid (strB Y2 = S) := ⟨_, hide rfl⟩
    rw [hS1.out, hS2.out] at HC1
    rw [hS2.out, hR1.out, hR2.out] at HC2
    rw [hS1.out] at HA
    rw [hR1.out] at HB
    rw [hR2.out] at HD
    clear hg0 hg1 hg2 hl1 hl2
    obtain ⟨z0, z1, z2, y0, y1, y2, _⟩ := hz.out
    go_enter Tryz.func31, Tryz.ntmps31
    go_wp2_with fail
    refine (HC1.out _ hq0.out).mono ?_
    rintro e w1 ⟨rfl, hq⟩
    have hb1 := hide (upB hq0.out hq)
    have hz1 := hide (hz.out.up hq)
    clear hq HC1
    go_wp2_with fail
    refine (HC2.out _ hb1.out).mono ?_
    rintro e w2 ⟨rfl, hq⟩
    have hb2 := hide (upB hb1.out hq)
    have hz2 := hide (hz1.out.up hq)
    clear hq HC2 hb1 hz1
    go_wp2_with fail
    refine (HA.out _ hb2.out).mono ?_
    rintro e w3 ⟨A1, n1, c1, rfl, hoA, hq⟩
    have hb3 := hide (upB hb2.out hq)
    have hz3 := hide (hz2.out.up hq)
    have hs23 := hide hq.size
    have hs2 := hide hz2.out.lt
    have hoA := hide hoA
    clear hq HA hb2 hz2
    go_wp2_with fail
    refine (HB.out _ hb3.out).mono ?_
    rintro e w4 ⟨rfl, hq⟩
    have hb4 := hide (upB hb3.out hq)
    have hz4 := hide (hz3.out.up hq)
    have hs34 := hide hq.size
    have hoA4 := hide (hoA.out.up hq)
    clear hq HB hb3 hz3 hoA
    go_wp2_with fail
    refine (HD.out _ hb4.out).mono ?_
    rintro e w5 ⟨A2, n2, c2, rfl, hoB, hq⟩
    have hb5 := hide (upB hb4.out hq)
    have hz5 := hide (hz4.out.up hq)
    have hoA5 := hide (hoA4.out.up hq)
    have hne := hide (apart_new hoA4.out hoB (Nat.le_refl _))
    have hoB5 := hide (hoB.down (show w2.heap.size ≤ w4.heap.size by have := hs23.out; have := hs34.out; omega))
    clear hq HD hb4 hz4 hoA4 hoB hs23 hs34
    have hB6 := hide (TriW.made w5 (.slice A1 n1 c1) (.int .i64 G.step) (.slice A2 n2 c2) 31)
    have hq5 := hide (al w5 (.cells #[.slice A1 n1 c1, .int .i64 G.step, .slice A2 n2 c2] 31))
    have hz6 := hide (hz5.out.up hq5.out)
    have hb6 := hide (upB hb5.out hq5.out)
    have hP6 := hide (show PlM (w5.alloc (.cells #[.slice A1 n1 c1, .int .i64 G.step, .slice A2 n2 c2] 31)) (w5.alloc (.cells #[.slice A1 n1 c1, .int .i64 G.step, .slice A2 n2 c2] 31)).heap.size (.agg #[.slice A1 n1 c1, .int .i64 G.step, .slice A2 n2 c2]) G from (plM_mk hoA5.out.ints hoB5.out.ints hwfS.out).up hq5.out)
    have hoA6 := hide (hoA5.out.up hq5.out)
    have hoB6 := hide (hoB5.out.up hq5.out)
    have HT := hide (placeText_impl _ G _ _ hP6.out (Nat.le_refl _) (hL.up hb6.out).t)
    obtain ⟨a0, a1, a2, c0, d1, d2, _⟩ := hz6.out
    obtain ⟨b0, b1, b2, _⟩ := hB6.out
    clear hz5 hb5 hoA5 hoB5
    by_cases hemp : s = ⟨#[]⟩
    · have hr : readP (bts s) = none := by rw [hemp]; exact readP_nil
      have e1 := hide (show readPB (bts s) = false by unfold readPB; rw [hr]; rfl)
      have e2 := hide (show readQ (bts s) = noPlc by unfold readQ; rw [hr]; rfl)
      clear hr hX1 hX2 hX3 hG
      subst hemp
      go_wp2_with fail
      obtain ⟨k0, k1, k2, _, _, _, _⟩ := ((hz6.out.set0 (.slice none 0 0)).set1 (.int .i64 0)).set2 (.slice none 0 0)
      exact bodyPost_ret (v := .tuple #[.agg #[.slice none 0 0, .int .i64 0, .slice none 0 0], .bool false]) (by simp [results, Tryz.results31, go_sem, k0, k1, k2]) rfl ⟨_, by rw [e1.out], by rw [e2.out]; exact noPlQ, ((hb6.out.setCell (Nat.le_refl _) _).setCell (Nat.le_refl _) _).setCell (Nat.le_refl _) _⟩
    · obtain ⟨hn0, hn1⟩ := str_ne hemp
      have hbe : bts s ≠ [] := fun e => hemp (by rw [← strB_bts s, e]; rfl)
      by_cases hT : placeT G = bts s
      · have hr := hY.out hbe hT
        have e1 := hide (show readPB (bts s) = true by unfold readPB; rw [hr]; rfl)
        have e2 := hide (show readQ (bts s) = G by unfold readQ; rw [hr]; rfl)
        have eT := hide (show strB (placeT G) = s by rw [hT, strB_bts])
        rw [eT.out] at HT
        clear hr hbe hT eT hemp
        go_wp2_with fail
        refine HT.out.mono ?_
        rintro e w7 ⟨rfl, hq⟩
        have hz7 := hide (hz6.out.up hq)
        have hB7 := hide (hB6.out.up hq)
        have hb7 := hide (upB hb6.out hq)
        have hoA7 := hide (hoA6.out.up hq)
        have hoB7 := hide (hoB6.out.up hq)
        clear hq a0 a1 a2 c0 d1 d2 b0 b1 b2
        obtain ⟨a0, a1, a2, c0, d1, d2, _⟩ := hz7.out
        obtain ⟨b0, b1, b2, _⟩ := hB7.out
        go_wp2_with fail
        obtain ⟨k0, k1, k2, _, _, _, _⟩ := ((hz7.out.set0 (.slice A1 n1 c1)).set1 (.int .i64 G.step)).set2 (.slice A2 n2 c2)
        have hlow : ∀ {X : World} {u : Value} {l : List Int} (v0 v1 v2 : Value), Own X w2.heap.size u l → Own (((X.setCell ⟨w.heap.size, 0, none⟩ v0).setCell ⟨w.heap.size, 1, none⟩ v1).setCell ⟨w.heap.size, 2, none⟩ v2) w.heap.size u l := fun {X u l} v0 v1 v2 hu => (((hu.setLow (a := ⟨w.heap.size, 0, none⟩) hs2.out v0).setLow (a := ⟨w.heap.size, 1, none⟩) hs2.out v1).setLow (a := ⟨w.heap.size, 2, none⟩) hs2.out v2).down (Nat.le_of_lt hs2.out)
        exact bodyPost_ret (v := .tuple #[.agg #[.slice A1 n1 c1, .int .i64 G.step, .slice A2 n2 c2], .bool true]) (by simp [results, Tryz.results31, go_sem, k0, k1, k2]) rfl ⟨_, by rw [e1.out], by rw [e2.out]; exact ⟨A1, n1, c1, A2, n2, c2, rfl, hlow _ _ _ hoA7.out, hlow _ _ _ hoB7.out, hne.out, hwfS.out⟩, ((hb7.out.setCell (Nat.le_refl _) _).setCell (Nat.le_refl _) _).setCell (Nat.le_refl _) _⟩
      · have hr := hNo.out hT
        have e1 := hide (show readPB (bts s) = false by unfold readPB; rw [hr]; rfl)
        have e2 := hide (show readQ (bts s) = noPlc by unfold readQ; rw [hr]; rfl)
        have hne2 : strB (placeT G) ≠ s := fun e => hT (by rw [← e, bts_strB])
        obtain ⟨TT, hTT⟩ : ∃ T, Hid (strB (placeT G) = T) := ⟨_, hide rfl⟩
        rw [hTT.out] at HT hne2
        obtain ⟨hm0, hm1⟩ := str_neq hne2
        clear hr hbe hT hemp hne2
        go_wp2_with fail
        refine HT.out.mono ?_
        rintro e w7 ⟨rfl, hq⟩
        have hz7 := hide (hz6.out.up hq)
        have hb7 := hide (upB hb6.out hq)
        clear hq a0 a1 a2 c0 d1 d2 b0 b1 b2
        obtain ⟨a0, a1, a2, c0, d1, d2, _⟩ := hz7.out
        go_wp2_with fail
        obtain ⟨k0, k1, k2, _, _, _, _⟩ := ((hz7.out.set0 (.slice none 0 0)).set1 (.int .i64 0)).set2 (.slice none 0 0)
        exact bodyPost_ret (v := .tuple #[.agg #[.slice none 0 0, .int .i64 0, .slice none 0 0], .bool false]) (by simp [results, Tryz.results31, go_sem, k0, k1, k2]) rfl ⟨_, by rw [e1.out], by rw [e2.out]; exact noPlQ, ((hb7.out.setCell (Nat.le_refl _) _).setCell (Nat.le_refl _) _).setCell (Nat.le_refl _) _⟩
end Go.Proofs.YtpkbmmepapgogabGreatDoor
