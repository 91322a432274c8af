/-
  Words, plain lemmas and contracts that belong together, joined into one file.
-/
import Derived.Test.YtkgfbmlhplclfaaDoorZla
import Derived.Test.YtkgfbmlhplclfaaDoorPlaceI
import Derived.Test.YtkgfbmlhplclfaaDoorZtx
import Derived.Test.YtkgfbmlhplclfaaDoorStrE
import Derived.Test.YtkgfbmlhplclfaaDoorZpd
import Derived.Deep.RegionHeld3
import Derived.Test.YtkgfbmlhplclfaaDoorCloneA
namespace Go.Proofs.YtkgfbmlhplclfaaDoor
open Go.RowKit
set_option linter.unusedVariables false

/-- The texts of the first k numbers, and empty ones behind. -/
def itoS (z : Int) : ByteArray := strB (Lib.itoa z)
def cpyT (zs : List Int) (k : Nat) : List ByteArray := (zs.take k).map itoS ++ List.replicate (zs.length - k) ⟨#[]⟩
theorem cpyT_len {zs : List Int} {k : Nat} (h : k ≤ zs.length) : (cpyT zs k).length = zs.length := by simp [cpyT]; omega
theorem cpyT_zero (zs : List Int) : cpyT zs 0 = List.replicate zs.length ⟨#[]⟩ := by simp [cpyT]
theorem cpyT_all (zs : List Int) : cpyT zs zs.length = zs.map itoS := by simp [cpyT]
theorem cpyT_set {zs : List Int} {k : Nat} {x : Int} (h : zs[k]? = some x) : (cpyT zs k).set k (itoS x) = cpyT zs (k + 1) := by
  have hk := (List.getElem?_eq_some_iff.1 h).1
  unfold cpyT
  rw [List.set_append_right _ _ (by rw [List.length_map, List.length_take]; omega), List.length_map, List.length_take, show k - min k zs.length = 0 by omega, show zs.length - k = (zs.length - (k + 1)) + 1 by omega, List.replicate_succ, List.set_cons_zero, List.take_add_one, h]
  simp
section
variable {w w' : World} {base g n c k : Nat} {ss : List ByteArray}
theorem OwnS.setAt (h : OwnS w base (.slice (some ⟨g, 0, none⟩) n c) ss) (k : Nat) (x : ByteArray) : OwnS (w.setCell ⟨g, k, none⟩ (.string x)) base (.slice (some ⟨g, 0, none⟩) n c) (ss.set k x) := by
  have hn := h.len
  subst hn
  have := (h.row.stored k (.string x)).1
  refine ⟨?_⟩
  rw [List.length_set, List.map_set]
  exact this
theorem OwnS.at_ (h : OwnS w base (.slice (some ⟨g, 0, none⟩) n c) ss) (hk : k < n) : ∃ x, w.cell? ⟨g, k, none⟩ = some (.string x) ∧ w.frozen? ⟨g, k, none⟩ = false ∧ base ≤ g ∧ g < w.heap.size := by
  have hn := h.len
  subst hn
  rcases row_shape h.row with ⟨hv, h0⟩ | ⟨g', cap, hv, hg, hh, hn, hm⟩
  · injection hv with e1 e2 e3
    cases e1
  · injection hv with e1 e2 e3
    injection e1 with e1
    injection e1 with e1
    subst e1
    refine ⟨ss[k], ?_, h.row.frozenAt k, hg, hh⟩
    rw [h.row.cellAt k (by simpa using hk), List.getElem?_map, List.getElem?_eq_getElem hk]
    rfl
theorem ownS_made {m : Nat} (ho : w.ownsRow base 9 1 (.slice (some ⟨g, 0, none⟩) m m) m (madeCells (Value.string ⟨#[]⟩).cells (m * 1)).toList) : OwnS w base (.slice (some ⟨g, 0, none⟩) m m) (List.replicate m ⟨#[]⟩) := by
  refine ⟨?_⟩
  rw [List.length_replicate]
  have e : (madeCells (Value.string ⟨#[]⟩).cells (m * 1)).toList = (List.replicate m (⟨#[]⟩ : ByteArray)).map Value.string := by
    simp [Value.cells, toList_madeCells_one]
  rw [← e]
  exact ho
end

set_option maxRecDepth 100000 in
set_option maxHeartbeats 1600000 in
theorem rowText_c (A : Option Addr) (n c B : Nat) (zs : List Int) (w : World) (h : Ints w B A n c zs) (hB : B ≤ w.heap.size) (hn : n ≤ 1000) (hL : LaidT w) (hlen : (joinT 44 (zs.map Lib.itoa)).length ≤ 100000) :
    Calls Tryd.prog 23 #[.slice A n c] w fun e w' => e = .returned (.string (strB (joinT 44 (zs.map Lib.itoa)))) ∧ Below w.heap.size w w' := by
  have hl := hide h.len
  obtain ⟨i1, hi, hz0, hz1, hz2⟩ := info_parts infoStr
  go_enter Tryd.func23, Tryd.ntmps23
  go_wp2_with (at_make; refine wpList_make_full _ rfl _ _ 51 rfl w.heap.size 9 i1 (.string ⟨#[]⟩) 1 Tryd.underlying51 hi hz0 hz1 .i64 .i64 _ _ n rfl rfl rfl rfl (by rw [hz2]; omega) (by unfold maxLen; omega) (Nat.le_refl _) ?_; intro w1 hown0 hgrow0)
  have hb0 := hide (show Below w.heap.size w w1 from (Below.refl _ _).grown hgrow0 (Nat.le_refl _) (fun k hk => by cases hk))
  have ho0 := hide (show OwnS w1 w.heap.size (.slice (some ⟨w.heap.size, 0, none⟩) n n) (cpyT zs 0) by rw [cpyT_zero, hl.out]; exact ownS_made hown0)
  clear hown0 hgrow0
  go_loopw [4, 5, 11] (fun v4 v5 i wr => ∃ k : Nat, k ≤ n ∧ i = .int .i64 k ∧ Hid (OwnS wr w.heap.size (.slice (some ⟨w.heap.size, 0, none⟩) n n) (cpyT zs k)) ∧ Hid (Below w.heap.size w wr)) (fun _ _ i _ => n - (intOf i).toNat)
  case atStart => exact ⟨0, Nat.zero_le _, rfl, ho0, hb0⟩
  case round =>
    clear ho0 hb0
    obtain ⟨k, hk, rfl, ho, hb⟩ := hrel
    by_cases hlt : k < n
    · obtain ⟨b, off, x, rfl, hbB, hx, hcell⟩ := (h.below (hb.out.mono hB)).look hlt
      have hwx := h.wf_at hx.out
      have hwx2 := i64_wf hwx
      have HT := hide (fun (W : World) (hq : Below wr.heap.size wr W) => show Calls Tryd.prog 24 #[.int .i64 x] W (fun e w' => e = .returned (.string (itoS x)) ∧ Below W.heap.size W w') from itoa_impl x W (hL.up (upB hb.out hq)) hwx2.1 hwx2.2)
      obtain ⟨T, hT⟩ : ∃ T, Hid (itoS x = T) := ⟨_, hide rfl⟩
      rw [hT.out] at HT
      clear hwx hwx2
      go_wp2_with fail
      refine (HT.out _ (Below.refl _ _)).mono ?_
      rintro e w2 ⟨rfl, hq⟩
      have ho2 := hide (ho.out.up hq)
      have hb2 := hide (upB hb.out hq)
      obtain ⟨y, hy, hfy, hg, hgl⟩ := ho2.out.at_ hlt
      have ho3 := hide (show OwnS (w2.setCell ⟨w.heap.size, k, none⟩ (.string T)) w.heap.size (.slice (some ⟨w.heap.size, 0, none⟩) n n) (cpyT zs (k + 1)) by
        rw [← cpyT_set hx.out, hT.out]; exact ho2.out.setAt k T)
      have hb3 := hide (hb2.out.setCell (p := ⟨w.heap.size, k, none⟩) (Nat.le_refl _) (.string T))
      clear hq ho hb
      go_wp2_with fail
      go_roundw
      case rel => exact ⟨k + 1, by omega, by go_num, ho3, hb3⟩
      case measure => simp [intOf]; omega
    · obtain rfl : k = n := by omega
      have ho2 := hide (show OwnS wr w.heap.size (.slice (some ⟨w.heap.size, 0, none⟩) k k) (zs.map itoS) by
        have := ho.out
        have e := cpyT_all zs
        rw [hl.out] at e
        rwa [e] at this)
      have hM := hide ho2.out.strs
      have e0 := hide (show Lib.join ((zs.map itoS).map (·.data.toList)) ((⟨#[44]⟩ : ByteArray).data.toList) = joinT 44 (zs.map Lib.itoa) from by
        rw [List.map_map, show ((fun x : ByteArray => x.data.toList) ∘ itoS) = Lib.itoa from funext fun z => by simp [itoS, strB]]
        exact join_sep 44 _)
      have HJ := hide (show Calls Tryd.prog 33 #[.slice (some ⟨w.heap.size, 0, none⟩) (zs.map itoS).length k, .string ⟨#[44]⟩] wr (fun e w' => e = .returned (.string (strB (joinT 44 (zs.map Lib.itoa)))) ∧ Below wr.heap.size wr w') from
        (Tryd.strings_Join w.heap.size 0 k (zs.map itoS) ⟨#[44]⟩ wr (fun j x hx => by
          rcases Nat.eq_zero_or_pos k with h0 | h0
          · have h1 := (List.getElem?_eq_some_iff.1 hx).1
            have h2 := hM.out.len
            omega
          · obtain ⟨b, off, e, _, hc⟩ := hM.out.cells h0
            injection e with e
            injection e with e1 e2
            subst e1; subst e2
            exact hc j x hx) (by rcases Nat.eq_zero_or_pos k with h0 | h0
                                 · rcases row_shape ho2.out.row with ⟨hv, _⟩ | ⟨g, cap, hv, hg, hh, _⟩
                                   · injection hv with e1; cases e1
                                   · injection hv with e1; injection e1 with e1; injection e1 with e1; omega
                                 · obtain ⟨b, off, e, hb', _⟩ := hM.out.cells h0; injection e with e; injection e with e1 e2; omega) (by have := hM.out.len; omega) (by have := hM.out.len; omega) (by rw [e0.out]; omega)).mono fun e w' ⟨h1, h2⟩ => ⟨by rw [h1, e0.out]; rfl, h2⟩)
      rw [show (zs.map itoS).length = k from hM.out.len] at HJ
      go_wp2_with fail
      refine HJ.out.mono ?_
      rintro e w2 ⟨rfl, hq⟩
      have hb2 := hide (upB hb.out hq)
      go_wp2_with fail
      go_ret
      exact ⟨rfl, hb2.out⟩

def wordL (ws : List Int) (k : Nat) : Bs := (ws.take k).map (fun z => UInt8.ofNat (97 + z.toNat))
theorem wordL_step {ws : List Int} {k : Nat} {x : Int} (h : ws[k]? = some x) : wordL ws (k + 1) = wordL ws k ++ [UInt8.ofNat (97 + x.toNat)] := by
  unfold wordL
  rw [List.take_add_one, h, List.map_append]
  rfl
theorem wordL_len (ws : List Int) (k : Nat) : (wordL ws k).length ≤ k := by unfold wordL; simp; omega
theorem wordL_all {ws : List Int} (h : ws ≠ []) : wordL ws ws.length = wordT ws := by
  unfold wordL wordT
  rw [List.take_length, if_neg h]
set_option maxRecDepth 100000 in
set_option maxHeartbeats 1600000 in
theorem drawsText_c (A : Option Addr) (n c B : Nat) (ws : List Int) (w : World) (h : Ints w B A n c ws) (hB : B ≤ w.heap.size) (hn : n ≤ 1000) (hw : ∀ x ∈ ws, 0 ≤ x ∧ x < 3) :
    Calls Tryd.prog 25 #[.slice A n c] w fun e w' => e = .returned (.string (strB (wordT ws))) ∧ Below w.heap.size w w' := by
  have hl := hide h.len
  by_cases hn0 : n = 0
  · have e0 : ws = [] := List.eq_nil_of_length_eq_zero (by have := hl.out; omega)
    subst e0
    subst hn0
    go_enter Tryd.func25, Tryd.ntmps25
    go_wp2_with fail
    go_ret
    exact ⟨rfl, Below.refl _ _⟩
  · have hne : ws ≠ [] := fun e => by have := hl.out; rw [e] at this; simp at this; omega
    have hall := hide (wordL_all hne)
    replace hw := hide hw
    clear hne
    go_enter Tryd.func25, Tryd.ntmps25
    go_wp2_with fail
    go_loopw [3, 5, 11] (fun v v5 i wr => ∃ k : Nat, ∃ S : ByteArray, k ≤ n ∧ i = .int .i64 k ∧ v = .string S ∧ Hid (S = strB (wordL ws k)) ∧ Hid (Below w.heap.size w wr)) (fun _ _ i _ => n - (intOf i).toNat)
    case atStart => exact ⟨0, ⟨#[]⟩, Nat.zero_le _, rfl, rfl, hide rfl, hide (Below.refl _ _)⟩
    case round =>
      obtain ⟨k, S, hk, rfl, rfl, hS, hb⟩ := hrel
      have hsz : S.size ≤ k := by rw [hS.out, strB_size]; exact wordL_len _ _
      by_cases hlt : k < n
      · obtain ⟨b, off, x, rfl, hbB, hx, hcell⟩ := (h.below (hb.out.mono hB)).look hlt
        obtain ⟨x0, x3⟩ := hw.out x (List.mem_of_getElem? hx.out)
        obtain ⟨cc, rfl⟩ : ∃ cc : Nat, x = (cc : Int) := ⟨x.toNat, by omega⟩
        have hcut := abc_cut (c := cc) (by omega)
        have hst := hide (congrArg strB (wordL_step hx.out))
        obtain ⟨L, hL⟩ : ∃ L, Hid (strB [UInt8.ofNat (97 + cc)] = L) := ⟨_, hide rfl⟩
        have hLs : L.size = 1 := by rw [← hL.out, strB_size]; rfl
        rw [hL.out] at hcut
        have hnx := hide (show S ++ L = strB (wordL ws (k + 1)) by rw [hst.out, strB_append, hS.out]; show _ = _ ++ strB ([UInt8.ofNat (97 + ((cc : Int)).toNat)]); rw [Int.toNat_natCast, hL.out])
        have q1 : ¬ 9223372036854775807 < S.size + 1 := by omega
        go_wp2_with fail
        go_roundw
        case rel => exact ⟨k + 1, _, by omega, by go_num, rfl, hnx, hb⟩
        case measure => simp [intOf]; omega
      · obtain rfl : k = n := by omega
        have hS2 := hide (show S = strB (wordT ws) by
          have e := hall.out
          rw [hl.out] at e
          rw [hS.out, e])
        go_wp2_with fail
        go_ret
        exact ⟨by rw [hS2.out]; rfl, hb.out⟩
theorem rowI_eq {zs : List Int} (hne : zs ≠ []) (h : ∀ z ∈ zs, 0 ≤ z ∧ z ≤ 10) : joinT 44 (zs.map Lib.itoa) = rowT zs := by
  unfold rowT
  rw [if_neg hne]
  congr 1
  exact List.map_congr_left fun z hz => by
    have hb := h z hz
    rw [(itoa_at (z := z) (by omega) (by omega)).1, numT_step hb.1]
set_option maxRecDepth 100000 in
set_option maxHeartbeats 3200000 in
theorem placeText_impl (v : Value) (p : Plc) (B : Nat) (w : World) (h : PlM w B v p) (hB : B ≤ w.heap.size) (hL : LaidT w) :
    Calls Tryd.prog 14 #[v] w fun e w' => e = .returned (.string (strB (placeT p))) ∧ Below w.heap.size w w' := by
  obtain ⟨A, n, c, A', n', c', rfl, h1, h2, hwf⟩ := h.ex
  obtain ⟨W0, hW0⟩ : ∃ W0, Hid (w.alloc (.cells #[.slice A n c, .int .i64 p.step, .slice A' n' c'] 30) = W0) := ⟨_, hide rfl⟩
  have hq0 := hide (show Below w.heap.size w W0 by rw [← hW0.out]; exact al w _)
  have ht0 := hide (show Tri W0 w.heap.size (.slice A n c) (.int .i64 p.step) (.slice A' n' c') by rw [← hW0.out]; exact Tri.made w _ _ _ _)
  have hl := hide h1.len
  have hl' := hide h2.len
  have i1 := hide ((h1.more hB).up hq0.out)
  have i2 := hide ((h2.more hB).up hq0.out)
  have HO := hide (placeOk_impl _ p _ W0 (plM_mk i1.out i2.out hwf) (Nat.le_refl _))
  obtain ⟨t0, t1, t2, _⟩ := ht0.out
  by_cases hok : placeOk p = true
  · rw [hok] at HO
    obtain ⟨⟨g1, g3⟩, gz, ⟨gs0, gs1⟩, g6, gw⟩ := placeOk_yes hok
    have hrow := hide (rowI_eq (zs := p.start) (fun e => by rw [e] at g1; simp at g1) gz)
    have hfin := hide (show strB (placeT p) = strB (rowT p.start) ++ ⟨#[32]⟩ ++ strB (stepT p.step) ++ ⟨#[32]⟩ ++ strB (wordT p.word) by
      rw [placeT_ok hok]; unfold rawT
      rw [strB_append, strB_cons, strB_append, strB_cons]
      simp only [ByteArray.append_assoc])
    have hz1 := (show (strB (rowT p.start)).size ≤ 8 by rw [strB_size]; exact rowT_len g3 gz)
    have hz2 := (show (strB (stepT p.step)).size ≤ 3 by rw [strB_size]; exact (step_at (by omega) (by omega)).2.2.2)
    have hz3 := (show (strB (wordT p.word)).size ≤ 7 by rw [strB_size]; have := wordT_len p.word; omega)
    have hn3 : n ≤ 1000 := by have := hl.out; omega
    have hn6 : n' ≤ 1000 := by have := hl'.out; omega
    have HA := hide (fun (W : World) (hq : Below W0.heap.size W0 W) => show Calls Tryd.prog 23 #[.slice A n c] W (fun e w' => e = .returned (.string (strB (rowT p.start))) ∧ Below W0.heap.size W0 w' ∧ w'.cell? ⟨w.heap.size, 0, none⟩ = some (.slice A n c) ∧ w'.cell? ⟨w.heap.size, 1, none⟩ = some (.int .i64 p.step) ∧ w'.cell? ⟨w.heap.size, 2, none⟩ = some (.slice A' n' c')) from
      (rowText_c A n c _ p.start W (i1.out.up hq) (Nat.le_refl _) hn3 (hL.up (upB hq0.out hq)) (by rw [hrow.out]; have := hz1; rw [strB_size] at this; omega)).mono fun e w' ⟨e1, hq'⟩ => by
        have hk := ht0.out.up (upB hq hq')
        rw [hrow.out] at e1
        exact ⟨e1, upB hq hq', hk.c0, hk.c1, hk.c2⟩)
    have HB := hide (fun (W : World) (hq : Below W0.heap.size W0 W) => show Calls Tryd.prog 24 #[.int .i64 p.step] W (fun e w' => e = .returned (.string (strB (stepT p.step))) ∧ Below W0.heap.size W0 w' ∧ w'.cell? ⟨w.heap.size, 0, none⟩ = some (.slice A n c) ∧ w'.cell? ⟨w.heap.size, 1, none⟩ = some (.int .i64 p.step) ∧ w'.cell? ⟨w.heap.size, 2, none⟩ = some (.slice A' n' c')) from
      (itoa_impl p.step W (hL.up (upB hq0.out hq)) (by omega) (by omega)).mono fun e w' ⟨e1, hq'⟩ => by
        have hk := ht0.out.up (upB hq hq')
        rw [(itoa_at (z := p.step) (by omega) (by omega)).1] at e1
        exact ⟨e1, upB hq hq', hk.c0, hk.c1, hk.c2⟩)
    have HC := hide (fun (W : World) (hq : Below W0.heap.size W0 W) => show Calls Tryd.prog 25 #[.slice A' n' c'] W (fun e w' => e = .returned (.string (strB (wordT p.word))) ∧ Below W0.heap.size W0 w' ∧ w'.cell? ⟨w.heap.size, 0, none⟩ = some (.slice A n c) ∧ w'.cell? ⟨w.heap.size, 1, none⟩ = some (.int .i64 p.step) ∧ w'.cell? ⟨w.heap.size, 2, none⟩ = some (.slice A' n' c')) from
      (drawsText_c A' n' c' _ p.word W (i2.out.up hq) (Nat.le_refl _) hn6 (fun x hx => by have := gw x hx; omega)).mono fun e w' ⟨e1, hq'⟩ => by
        have hk := ht0.out.up (upB hq hq')
        exact ⟨e1, upB hq hq', hk.c0, hk.c1, hk.c2⟩)
    obtain ⟨S1, hS1⟩ : ∃ S, Hid (strB (rowT p.start) = S) := ⟨_, hide rfl⟩
    obtain ⟨S2, hS2⟩ : ∃ S, Hid (strB (stepT p.step) = S) := ⟨_, hide rfl⟩
    obtain ⟨S3, hS3⟩ : ∃ S, Hid (strB (wordT p.word) = S) := ⟨_, hide rfl⟩
    rw [hS1.out, hS2.out, hS3.out] at hfin
    rw [hS1.out] at hz1 HA
    rw [hS2.out] at hz2 HB
    rw [hS3.out] at hz3 HC
    have q1 : ¬ 9223372036854775807 < S1.size + 1 := by omega
    have q2 : ¬ 9223372036854775807 < S1.size + 1 + S2.size := by omega
    have q3 : ¬ 9223372036854775807 < S1.size + 1 + S2.size + 1 := by omega
    have q4 : ¬ 9223372036854775807 < S1.size + 1 + S2.size + 1 + S3.size := by omega
    clear gz gw hok g1 g3 g6 hrow
    have hW1 := hW0.out
    subst hW1
    go_enter Tryd.func14, Tryd.ntmps14
    go_wp2_with fail
    refine HO.out.mono ?_
    rintro e w2 ⟨rfl, hq2⟩
    obtain ⟨f0, f1, f2, _⟩ := ht0.out.up hq2
    have hq2 := hide hq2
    have hb := hq2.out
    go_wp2_with fail
    go_region_held3 (fun W => W.cell? ⟨w.heap.size, 0, none⟩ = some (.slice A n c) ∧ W.cell? ⟨w.heap.size, 1, none⟩ = some (.int .i64 p.step) ∧ W.cell? ⟨w.heap.size, 2, none⟩ = some (.slice A' n' c')) (first | exact ⟨f0, f1, f2⟩ | exact ⟨k0, k1, k2⟩ | exact ⟨m0, m1, m2⟩ | exact ⟨n0, n1, n2⟩) (first | (go_at_call 23; (with_reducible refine (HA.out _ ?_).mono ?_); (focus (repeat (first | assumption | exact Below.refl _ _ | refine Below.drew ?_)); done); rintro e w' ⟨rfl, hqa, k0, k1, k2⟩) | (go_at_call 24; (with_reducible refine (HB.out _ ?_).mono ?_); (focus (repeat (first | assumption | exact Below.refl _ _ | refine Below.drew ?_)); done); rintro e w' ⟨rfl, hqb, m0, m1, m2⟩) | (go_at_call 25; (with_reducible refine (HC.out _ ?_).mono ?_); (focus (repeat (first | assumption | exact Below.refl _ _ | refine Below.drew ?_)); done); rintro e w' ⟨rfl, hqc, n0, n1, n2⟩))
    all_goals
      go_wp2_with fail
      go_ret
      exact ⟨by rw [hfin.out]; rfl, upB hq0.out (by assumption)⟩
  · have hok : placeOk p = false := by simpa using hok
    rw [hok] at HO
    have he := hide (show strB (placeT p) = ⟨#[]⟩ by rw [placeT_no hok]; rfl)
    clear hok
    have hW1 := hW0.out
    subst hW1
    go_enter Tryd.func14, Tryd.ntmps14
    go_wp2_with fail
    refine HO.out.mono ?_
    rintro e w2 ⟨rfl, hq2⟩
    go_wp2_with fail
    go_ret
    exact ⟨by rw [he.out]; rfl, upB hq0.out hq2⟩
end Go.Proofs.YtkgfbmlhplclfaaDoor

namespace Go.Proofs.YtkgfbmlhplclfaaDoor
open Go.RowKit
set_option linter.unusedVariables false

theorem ixb_cnt : ((List.range 256).all fun n => decide (-1 ≤ Lib.indexByte abcL (UInt8.ofNat n) ∧ Lib.indexByte abcL (UInt8.ofNat n) ≤ 2)) = true := by kernel_rfl
theorem ixb_at (b : UInt8) : -1 ≤ Lib.indexByte abcL b ∧ Lib.indexByte abcL b ≤ 2 := by
  have := List.all_eq_true.1 ixb_cnt b.toNat (List.mem_range.2 b.toNat_lt)
  rw [UInt8.ofNat_toNat] at this
  exact of_decide_eq_true this
end Go.Proofs.YtkgfbmlhplclfaaDoor

namespace Go.Proofs.YtkgfbmlhplclfaaDoor
open Go.RowKit
set_option linter.unusedVariables false

theorem noPlQ {w : World} {base : Nat} : PlQ w base (.agg #[.slice none 0 0, .int .i64 0, .slice none 0 0]) noPlc := ⟨_, _, _, _, _, _, rfl, Own.none_, Own.none_, .inl rfl, by decide⟩
end Go.Proofs.YtkgfbmlhplclfaaDoor
