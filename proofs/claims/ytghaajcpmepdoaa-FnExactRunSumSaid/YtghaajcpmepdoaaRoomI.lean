/-
  Contracts of chapter 7, the program's side: roomsOk, RoomRowOk, RoomStep, RoomAfter, RestRow, LeanAfter (slices.Concat among what they call).
-/
import Derived.Test.YtghaajcpmepdoaaRoomT
import Derived.Test.YtghaajcpmepdoaaZoks
import Derived.Test.YtghaajcpmepdoaaZpl
import Derived.Lib.AppendZerosOnto
import Derived.Lib.Walk
namespace Go.Proofs.Ytghaajcpmepdoaa
open Go.RowKit
set_option linter.unusedVariables false

theorem roomStep_on {M F S : Nat} (h1 : 1 ≤ M) (h6 : M ≤ 6) (hF : F ≤ M) (hS : S < 6) : roomStep (M : Int) (roomL M F S) = roomL M F (S + 1) := by
  have a := roomOk_mk h1 h6 (roomL_len M F S) (fun x hx => by
    obtain ⟨k, hk, rfl⟩ := List.getElem_of_mem hx
    have := room_elem h1 h6 hF (show S ≤ 6 by omega) (List.getElem?_eq_getElem hk)
    omega)
  have b := roomOk_mk h1 h6 (roomL_len M F (S + 1)) (fun x hx => by
    obtain ⟨k, hk, rfl⟩ := List.getElem_of_mem hx
    have := room_elem h1 h6 hF (show S + 1 ≤ 6 by omega) (List.getElem?_eq_getElem hk)
    omega)
  unfold roomStep
  rw [Int.toNat_natCast, if_pos ⟨a, b⟩]
  rfl

theorem own_madeB {w : World} {b g m : Nat} (ho : w.ownsRow b 3 1 (.slice (some ⟨g, 0, none⟩) m m) m (madeCells (Value.int .i64 0).cells (m * 1)).toList) : Own w b (.slice (some ⟨g, 0, none⟩) m m) (List.replicate m 0) :=
  ⟨by
    have e1 : (madeCells (Value.int .i64 0).cells (m * 1)).toList = (List.replicate m (0 : Int)).map (Value.int .i64) := by
      simp [Value.cells, toList_madeCells_one]
    rw [List.length_replicate, ← e1]; exact ho, fun z hz => by
      have := List.eq_of_mem_replicate hz
      subst this; decide⟩

/-! slices.Grow of nil, slices.Concat of a slice of rows with elements. -/
set_option maxHeartbeats 1600000 in
theorem growNil_c (N : Nat) (w : World) (h1 : 1 ≤ N) (h2 : N ≤ 100000) :
    Calls Try.prog 65 #[.slice none 0 0, .int .i64 (N : Int)] w fun e w' => ∃ A' c', e = .returned (.slice A' 0 c') ∧ Own w' w.heap.size (.slice A' 0 c') [] ∧ Below w.heap.size w w' := by
  obtain ⟨i0, hi, hz0, hz1, hz2⟩ := info_parts infoInt
  have hrz : ∀ ty, (Builtin.append_ #[23, 3] ty #[.slice none 0 0, .int .i64 (N : Int)]).run Try.prog w = .ok (.slice (some ⟨w.heap.size, 0, none⟩) N (grownCap w N 0 3)) (w.drew.alloc (.cells ((#[] : Array Value) ++ Builtin.zeroCells (Value.int .i64 0).cells N ++ Builtin.zeroCells (Value.int .i64 0).cells (grownCap w N 0 3 - N)) 3)) := fun ty => by
    have h := Lib.run_append_grow_zeros (P := Try.prog) w 23 3 ty 3 i0 (.int .i64 0) .i64 .i64 Try.underlying23 Try.underlying3 hi hz0 none 0 0 [] (run_firstCells_none w.drew i0.size 0 0 0) N (by omega) (by rw [hz1]; decide) (by omega) (by omega) (by rw [hz2]; omega) (growslice_fits (by omega) (by rw [hz2]; omega))
    rw [Nat.zero_add] at h
    exact h
  have hGn : N ≤ grownCap w N 0 3 := grownCap_ge w _ _ _
  have hGm := grownCap_le_maxLen w N 0 3 (by unfold maxLen; omega)
  obtain ⟨G, hG⟩ : ∃ G, G = grownCap w N 0 3 := ⟨_, rfl⟩
  rw [← hG] at hrz hGn hGm
  have hG63 : G ≤ 9223372036854775807 := by unfold maxLen at hGm; omega
  obtain ⟨cs, hcs⟩ : ∃ cs : Array Value, cs = (#[] : Array Value) ++ Builtin.zeroCells (Value.int .i64 0).cells N ++ Builtin.zeroCells (Value.int .i64 0).cells (G - N) := ⟨_, rfl⟩
  have hsz : cs.size = G * 1 := by rw [hcs]; simp [Builtin.zeroCells, Value.cells]; omega
  rw [← hcs] at hrz
  have ho := hide (show Own (w.drew.alloc (.cells cs 3)) w.heap.size (.slice (some ⟨w.heap.size, 0, none⟩) 0 G) [] from ⟨World.ownsRow_made w.drew cs G (Nat.le_refl _) hGm hsz, fun _ h => by cases h⟩)
  have hb := hide (show Below w.heap.size w (w.drew.alloc (.cells cs 3)) from (below_drewN (Below.refl _ _) 1).alloc (Nat.le_refl _) _)
  clear hG hcs hsz hGm
  go_enter Try.func65, Try.ntmps65
  go_wp2_with (at_builtin; refine Lib.wpList_append_run _ rfl _ _ _ _ rfl _ _ rfl rfl _ _ (hrz _) ?_)
  go_ret
  exact ⟨_, _, rfl, ho.out, hb.out⟩

theorem flat_take {rs : List (List Int)} {k : Nat} {l : List Int} (h : rs[k]? = some l) : (rs.take (k + 1)).flatten = (rs.take k).flatten ++ l := by
  rw [List.take_add_one, h, List.flatten_append]; simp
theorem flat_len {rs : List (List Int)} (k : Nat) : (rs.take k).flatten.length ≤ rs.flatten.length := by
  have := congrArg List.length (congrArg List.flatten (List.take_append_drop k rs))
  rw [List.flatten_append, List.length_append] at this
  omega

set_option maxHeartbeats 3200000 in
theorem concat_c (A : Option Addr) (n c B : Nat) (rs : List (List Int)) (w : World) (h : Mat w B A n c rs) (hB : B ≤ w.heap.size) (hp : 1 ≤ rs.flatten.length) (hm : rs.flatten.length ≤ 100000) :
    Calls Try.prog 62 #[.slice A n c] w fun e w' => ∃ A' n' c', e = .returned (.slice A' n' c') ∧ Own w' w.heap.size (.slice A' n' c') rs.flatten ∧ Below w.heap.size w w' := by
  obtain ⟨i0, hi, hz0, hz1, hz2⟩ := info_parts infoInt
  have hn := h.nb
  have HL := hide (fun k => flat_len (rs := rs) k)
  have HT := hide (fun (k : Nat) l (hx : rs[k]? = some l) => flat_take hx)
  have hall := hide (show rs.take n = rs from List.take_of_length_le (by have := h.len; omega))
  obtain ⟨N, hN⟩ : ∃ N, Hid (N = rs.flatten.length) := ⟨_, hide rfl⟩
  rw [← hN.out] at hp hm HL
  go_enter Try.func62, Try.ntmps62
  go_wp2
  go_loop [3, 11] (fun t i => ∃ k L : Nat, k ≤ n ∧ i = .int .i64 k ∧ t = .int .i64 (L : Int) ∧ Hid (L = (rs.take k).flatten.length)) (fun _ i => n - (intOf i).toNat)
  case atStart => exact ⟨0, 0, Nat.zero_le _, rfl, rfl, hide rfl⟩
  case round =>
    obtain ⟨k, L, hk, rfl, rfl, hL⟩ := hrel
    by_cases hlt : k < n
    · obtain ⟨b, off, l, A', n', c', rfl, hb, hx, hcell, hz'⟩ := h.look hlt
      have hll := hide hz'.out.len
      have hnx := hide (show L + n' = (rs.take (k + 1)).flatten.length by rw [HT.out k l hx.out, List.length_append, ← hL.out, hll.out])
      have hLb := HL.out (k + 1)
      rw [← hnx.out] at hLb
      have hnn := hz'.out.nb
      go_wp2
      go_round
      case rel => exact ⟨k + 1, L + n', by omega, by go_num, by go_num, hnx⟩
      case measure => simp [intOf]; omega
    · obtain rfl : n = k := by omega
      obtain rfl : L = N := by rw [hN.out, hL.out, hall.out]
      have HG := hide (growNil_c L w hp hm)
      go_wp2_with fail
      refine HG.out.mono ?_
      rintro e w1 ⟨A1, c1, rfl, ho1, hb1⟩
      replace ho1 := hide ho1
      replace hb1 := hide hb1
      clear HG hL
      go_wp2_with fail
      go_loopw [6, 27] (fun v i wr => ∃ k m : Nat, ∃ A c, k ≤ n ∧ i = .int .i64 k ∧ v = .slice A m c ∧ Hid (Own wr w.heap.size (.slice A m c) (rs.take k).flatten) ∧ Hid (Below w.heap.size w wr)) (fun _ i _ => n - (intOf i).toNat)
      case atStart => exact ⟨0, 0, _, _, Nat.zero_le _, rfl, rfl, ho1, hb1⟩
      case round =>
        clear ho1 hb1
        obtain ⟨k, m, Ar, cr, hk, rfl, rfl, ho, hb⟩ := hrel
        have hst := hb.out.size
        by_cases hlt : k < n
        · obtain ⟨b, off, l, A', n', c', rfl, hbB, hx, hcell, hz'⟩ := (h.below (hb.out.mono hB)).look hlt
          have hll := hide hz'.out.len
          have hnx := hide (HT.out k l hx.out)
          have hLb := HL.out (k + 1)
          rw [hnx.out, List.length_append, hll.out] at hLb
          go_wp2_with (at_builtin; refine wpList_app _ rfl _ _ 23 rfl i0 Try.underlying23 hi hz0 hz1 hz2 _ _ rfl ho.out A' n' c' B l rfl hz'.out (by omega) (by omega) ?_; intro A₃ n₃ c₃ w3 ho3 hg3; have ho3 := hide (show Own w3 w.heap.size (.slice A₃ n₃ c₃) (rs.take (k + 1)).flatten by rw [hnx.out]; exact ho3); have hb3 := hide (hb.out.grown hg3 (by omega) (fun j hj => (ho.out.row.lt j hj).1)); clear hg3)
          go_roundw
          case rel => exact ⟨k + 1, _, _, _, by omega, by go_num, rfl, ho3, hb3⟩
          case measure => simp [intOf]; omega
        · obtain rfl : k = n := by omega
          go_wp2
          go_ret
          exact ⟨_, _, _, rfl, by have := ho.out; rwa [hall.out] at this, hb.out⟩

theorem mat_two {w : World} {B b n c n' c' : Nat} {A A' : Option Addr} {zs zs' : List Int} (h0 : w.cell? ⟨b, 0, none⟩ = some (.slice A n c)) (h1 : w.cell? ⟨b, 1, none⟩ = some (.slice A' n' c')) (hz : Ints w B A n c zs) (hz' : Ints w B A' n' c' zs') (hb : b < B) : Mat w B (some ⟨b, 0, none⟩) 2 2 [zs, zs'] := by
  refine ⟨rfl, Nat.le_refl _, by unfold maxLen; omega, fun _ => ⟨b, 0, rfl, hb, fun j l hl => ?_⟩, fun e => by cases e⟩
  rcases j with _ | _ | j
  · simp at hl; subst hl; exact ⟨_, _, _, h0, hz⟩
  · simp at hl; subst hl; exact ⟨_, _, _, h1, hz'⟩
  · simp at hl
theorem rest_pascal_cnt : ((List.range 6).all fun k => decide (addL (restL k ++ [0]) ([0] ++ restL k) = restL (k + 1)) && (restL k).all fun x => decide (0 ≤ x ∧ x ≤ 20)) = true := by kernel_rfl
theorem rest_pascal {k : Nat} (h : k < 6) : addL (restL k ++ [0]) ([0] ++ restL k) = restL (k + 1) := of_decide_eq_true (Bool.and_eq_true_iff.1 (all_range rest_pascal_cnt h)).1
theorem rest_small {k : Nat} (h : k < 6) {x : Int} (hx : x ∈ restL k) : 0 ≤ x ∧ x ≤ 20 := of_decide_eq_true (List.all_eq_true.1 (Bool.and_eq_true_iff.1 (all_range rest_pascal_cnt h)).2 x hx)

set_option maxHeartbeats 1600000 in
theorem oneMore_c (A : Option Addr) (n c B : Nat) (zs : List Int) (w : World) (h : Ints w B A n c zs) (hB : B ≤ w.heap.size) (hn : n ≤ 100) (hs : ∀ x ∈ zs, 0 ≤ x ∧ x ≤ 20) :
    Calls Try.prog 58 #[.slice A n c] w fun e w' => ∃ A' n' c', e = .returned (.slice A' n' c') ∧ Own w' w.heap.size (.slice A' n' c') (addL (zs ++ [0]) ([0] ++ zs)) ∧ Below w.heap.size w w' := by
  have hl := hide h.len
  have hb0 := hide (show Ints w w.heap.size A n c zs from h.more hB)
  have hw0 : (Lit.int .i64 0).wf = true := by decide
  have H1 := hide (fun (V : World) (hV : Ints V V.heap.size A n c zs) => concat_c (some ⟨V.heap.size + 1, 0, none⟩) 2 2 (V.heap.size + 2) [zs, [0]] ((V.alloc (.cells #[.int .i64 0] 3)).alloc (.cells #[.slice A n c, .slice (some ⟨V.heap.size, 0, none⟩) 1 1] 23)) (mat_two (by simp) (by simp) (((hV.alloc (Nat.le_refl _) _).alloc (by simp) _).more (by omega)) (((ints_lit1 hw0).alloc (by simp) _).more (by omega)) (by omega)) (by simp) (by simp) (by have := hl.out; simp; omega))
  have H2 := hide (fun (V : World) (hV : Ints V V.heap.size A n c zs) => concat_c (some ⟨V.heap.size + 1, 0, none⟩) 2 2 (V.heap.size + 2) [[0], zs] ((V.alloc (.cells #[.int .i64 0] 3)).alloc (.cells #[.slice (some ⟨V.heap.size, 0, none⟩) 1 1, .slice A n c] 23)) (mat_two (by simp) (by simp) (((ints_lit1 hw0).alloc (by simp) _).more (by omega)) (((hV.alloc (Nat.le_refl _) _).alloc (by simp) _).more (by omega)) (by omega)) (by simp) (by simp) (by have := hl.out; simp; omega))
  replace hs := hide hs
  clear h
  go_enter Try.func58, Try.ntmps58
  go_wp2_with fail
  refine (H1.out w hb0.out).mono ?_
  rintro e w1 ⟨A1, n1, c1, rfl, ho1, hq1⟩
  have hq1 := hide (upB ((al w _).trans ((al _ _).mono (by simp))) hq1)
  have ho1 := hide ho1
  go_wp2_with fail
  have hz1 := hide (hb0.out.up hq1.out)
  refine (H2.out w1 hz1.out).mono ?_
  rintro e w2 ⟨A2, n2, c2, rfl, ho2, hq2⟩
  have hq12 := hide (show Below w1.heap.size w1 w2 from upB ((al w1 _).trans ((al _ _).mono (by simp))) hq2)
  have ho1 := hide (ho1.out.up hq12.out)
  have hq := hide (upB hq1.out hq12.out)
  have e1 : [zs, [0]].flatten = zs ++ [0] := by simp
  have e2 : [[0], zs].flatten = [0] ++ zs := by simp
  rw [e1] at ho1
  rw [e2] at ho2
  have hn1 := ho1.out.len
  have hn2 := ho2.len
  have hnn : n2 = n1 := by rw [hn1, hn2]; simp
  subst hnn
  have HA := hide (added_c A1 A2 n2 c1 _ c2 _ (zs ++ [0]) ([0] ++ zs) w2 ho1.out.ints ho2.ints (Nat.le_refl _) (Nat.le_refl _) (by rw [hn2]; have := hl.out; simp; omega) (fun x hx => by
    rcases List.mem_append.1 hx with h | h
    · have := hs.out x h; omega
    · simp at h; subst h; omega) (fun x hx => by
    rcases List.mem_append.1 hx with h | h
    · simp at h; subst h; omega
    · have := hs.out x h; omega))
  clear ho1 ho2 hn1 hn2 hq2 hq12 hq1 e1 e2
  go_wp2_with fail
  refine HA.out.mono ?_
  rintro e w3 ⟨A3, n3, c3, rfl, ho3, hq3⟩
  go_wp2_with fail
  go_ret
  exact ⟨_, _, _, rfl, ho3.down (by have := hq.out.size; omega), upB hq.out hq3⟩

set_option maxHeartbeats 1600000 in
theorem repeatedR_c (M base : Nat) (A : Option Addr) (n c : Nat) (w : World) (hbase : base ≤ w.heap.size) (h6 : M ≤ 6) (ho0 : Own w base (.slice A n c) (restL 0)) :
    Calls Try.prog 57 #[.slice A n c, .int .i64 (M : Int), .func (.func 58) #[] #[]] w fun e w' => ∃ A' n' c', e = .returned (.slice A' n' c') ∧ Own w' base (.slice A' n' c') (restL M) ∧ Below w.heap.size w w' := by
  replace ho0 := hide ho0
  go_enter Try.func57, Try.ntmps57
  go_wp2
  go_loopw [7, 10] (fun v i wr => ∃ k : Nat, ∃ A n c, k ≤ M ∧ i = .int .i64 k ∧ v = .slice A n c ∧ Hid (Own wr base (.slice A n c) (restL k)) ∧ Hid (Below w.heap.size w wr)) (fun _ i _ => M - (intOf i).toNat)
  case atStart => exact ⟨0, _, _, _, Nat.zero_le _, rfl, rfl, ho0, hide (Below.refl _ _)⟩
  case round =>
    clear ho0
    obtain ⟨k, A, n, c, hk, rfl, rfl, ho, hb⟩ := hrel
    by_cases hlt : k < M
    · have HS := hide (oneMore_c A n c _ (restL k) wr ho.out.ints (Nat.le_refl _) (by have := ho.out.len; rw [restL_len] at this; omega) (fun x hx => rest_small (by omega) hx))
      rw [rest_pascal (show k < 6 by omega)] at HS
      go_wp2_with fail
      refine HS.out.mono ?_
      rintro e w2 ⟨A1, n1, c1, rfl, ho2, hq⟩
      have hb2 := hide (upB hb.out hq)
      have ho2 := hide (show Own w2 base (.slice A1 n1 c1) (restL (k + 1)) from ho2.down (by have := hb.out.size; omega))
      clear hq HS
      go_wp2_with fail
      go_roundw
      case rel => exact ⟨k + 1, _, _, _, by omega, by go_num, rfl, ho2, hb2⟩
      case measure => simp [intOf]; omega
    · obtain rfl : k = M := by omega
      go_wp2_with fail
      go_ret
      exact ⟨_, _, _, rfl, ho.out, hb.out⟩

theorem own_lit1 {w : World} {x : Int} (hx : (Lit.int .i64 x).wf = true) : Own (w.alloc (.cells #[.int .i64 x] 3)) w.heap.size (.slice (some ⟨w.heap.size, 0, none⟩) 1 1) [x] :=
  ⟨⟨rfl, .inr ⟨w.heap.size, 1, #[.int .i64 x], rfl, Nat.le_refl _, heap_alloc_new w _, Nat.le_refl _, by unfold maxLen; omega, rfl, rfl⟩⟩, fun z hz => by simp at hz; subst hz; exact hx⟩

set_option maxHeartbeats 1600000 in
theorem choicesRow_c (M : Nat) (w : World) (h6 : M ≤ 6) :
    Calls Try.prog 50 #[.int .i64 (M : Int)] w fun e w' => ∃ A' n' c', e = .returned (.slice A' n' c') ∧ Own w' w.heap.size (.slice A' n' c') (restL M) ∧ Below w.heap.size w w' := by
  have HP := hide (repeatedR_c M w.heap.size (some ⟨w.heap.size, 0, none⟩) 1 1 (w.alloc (.cells #[.int .i64 1] 3)) (by simp) h6 (own_lit1 (by decide)))
  go_enter Try.func50, Try.ntmps50
  go_wp2_with fail
  refine HP.out.mono ?_
  rintro e w2 ⟨A2, n2, c2, rfl, ho2, hq⟩
  go_wp2_with fail
  go_ret
  exact ⟨_, _, _, rfl, ho2, upB (al w _) hq⟩

end Go.Proofs.Ytghaajcpmepdoaa
