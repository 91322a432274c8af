/-
  Contracts of the laws' helpers on slices of slices of ints: szIntS, szIntSS, toIntSS, eqIntSS, sameRows, markIntSS.
-/
import Derived.Test.YthdelfhfglnhfabZdraw
import Derived.Test.YthdelfhfglnhfabZpl
namespace Go.Proofs.Ythdelfhfglnhfab
open Go.RowKit

theorem infoRow : (Try.prog.info? 27).map (fun i => (i.zero, i.size, i.bytes)) = some (some (.slice none 0 0), 1, 24) := by kernel_rfl

def sameM (xs ys : List (List Int)) : Bool := decide (xs = ys)
theorem sameM_refl (xs : List (List Int)) : sameM xs xs = true := decide_eq_true rfl
theorem sameM_len {xs ys : List (List Int)} (h : xs.length ≠ ys.length) : sameM xs ys = false := decide_eq_false (fun e => h (by rw [e]))
theorem sameM_bad {xs ys : List (List Int)} {k : Nat} {x y : List Int} (hx : xs[k]? = some x) (hy : ys[k]? = some y) (h : sameL x y = false) : sameM xs ys = false :=
  decide_eq_false (fun e => by
    subst e; rw [hx] at hy; injection hy with hy
    exact (of_decide_eq_false h) hy)
theorem sameM_good {xs ys : List (List Int)} (hl : xs.length = ys.length) (h : ∀ j, j < xs.length → xs[j]? = ys[j]?) : sameM xs ys = true :=
  decide_eq_true (List.ext_getElem? fun j => by
    rcases Nat.lt_or_ge j xs.length with hj | hj
    · exact h j hj
    · rw [List.getElem?_eq_none hj, List.getElem?_eq_none (by omega)])

theorem szIntS_c (A : Option Addr) (n c B : Nat) (zs : List Int) (t : Int) (w : World) (h : Ints w B A n c zs) (h0 : 0 ≤ t) (h1 : t ≤ 1048576) :
    Calls Try.prog 35 #[.slice A n c, .int .i64 t] w fun e w' => (∃ x : Int, e = .returned (.int .i64 x) ∧ x ≤ 1048576 ∧ -1 ≤ x ∧ (0 ≤ x → x = t - (n : Int))) ∧ w = w' := by
  have hn := h.nb
  by_cases hlt : t - (n : Int) < 0
  · go_enter Try.func35, Try.ntmps35
    go_wp2
    go_ret
    exact ⟨⟨-1, rfl, by omega, by omega, fun h => absurd h (by omega)⟩, rfl⟩
  · go_enter Try.func35, Try.ntmps35
    go_wp2
    go_ret
    exact ⟨⟨t - (n : Int), rfl, by omega, by omega, fun _ => rfl⟩, rfl⟩

/-- How many numbers all rows have together. -/
def totLen (rs : List (List Int)) : Nat := (rs.map List.length).sum
theorem totLen_step {rs : List (List Int)} {k : Nat} {l : List Int} (h : rs[k]? = some l) : totLen (rs.take (k + 1)) = totLen (rs.take k) + l.length := by
  obtain ⟨hk, rfl⟩ := List.getElem?_eq_some_iff.1 h
  unfold totLen
  rw [List.take_succ_eq_append_getElem hk, List.map_append, List.sum_append]
  simp only [List.map_cons, List.map_nil, List.sum_cons, List.sum_nil, Nat.add_zero]
theorem totLen_append (a b : List (List Int)) : totLen (a ++ b) = totLen a + totLen b := by simp [totLen]
theorem totLen_zero (rs : List (List Int)) : totLen (rs.take 0) = 0 := rfl
theorem totLen_all (rs : List (List Int)) {k : Nat} (h : rs.length ≤ k) : totLen (rs.take k) = totLen rs := by rw [List.take_of_length_le h]
theorem totLen_mem {rs : List (List Int)} {l : List Int} (h : l ∈ rs) : l.length ≤ totLen rs := by
  induction rs with
  | nil => cases h
  | cons r q ih =>
    have e : totLen (r :: q) = r.length + totLen q := by simp [totLen]
    rw [e]
    rcases List.mem_cons.1 h with h | h
    · subst h; omega
    · have := ih h; omega
theorem totLen_set {rs : List (List Int)} {k : Nat} {l l' : List Int} (h : rs[k]? = some l) (hl : l'.length = l.length) : totLen (rs.set k l') = totLen rs := by
  have e : (rs.set k l').map List.length = rs.map List.length := by
    apply List.ext_getElem?
    intro j
    rw [List.getElem?_map, List.getElem?_map]
    by_cases hjk : k = j
    · subst hjk
      rw [List.getElem?_set_self (List.getElem?_eq_some_iff.1 h).1, h]; simp [hl]
    · rw [List.getElem?_set_ne hjk]
  unfold totLen
  rw [e]

set_option maxHeartbeats 800000 in
theorem szIntSS_c (A : Option Addr) (n c B : Nat) (rs : List (List Int)) (w : World) (h : Mat w B A n c rs) :
    Calls Try.prog 11 #[.slice A n c, .int .i64 1048576] w fun e w' => (∃ x : Int, e = .returned (.int .i64 x) ∧ x ≤ 1048576 ∧ -1 ≤ x ∧ (0 ≤ x → n ≤ 1048576 ∧ totLen rs ≤ 1048576)) ∧ Below w.heap.size w w' := by
  have hl := hide h.len
  have hn := h.nb
  by_cases hlt0 : (1048576 : Int) - (n : Int) < 0
  · go_enter Try.func11, Try.ntmps11
    go_wp2
    go_ret
    exact ⟨⟨-1, rfl, by omega, by omega, fun h => absurd h (by omega)⟩, Below.refl _ _⟩
  · have hn2 : n ≤ 1048576 := by omega
    go_enter Try.func11, Try.ntmps11
    go_wp2
    go_loopw [1, 5] (fun t i wr => ∃ k q : Nat, ∃ x : Int, k ≤ n ∧ i = .int .i64 k ∧ t = .int .i64 x ∧ 0 ≤ x ∧ x ≤ 1048576 ∧ wr = w.drewN q ∧ Hid (x + totLen (rs.take k) ≤ 1048576)) (fun _ i _ => n - (intOf i).toNat)
    case atStart => exact ⟨0, 0, 1048576 - (n : Int), Nat.zero_le _, rfl, rfl, by omega, by omega, rfl, hide (by rw [totLen_zero]; omega)⟩
    case round =>
      obtain ⟨k, q, x, hk, rfl, rfl, hx0, hx1, rfl, hall⟩ := hrel
      by_cases hlt : k < n
      · obtain ⟨b, off, l, A', n', c', rfl, hb, hx, hcell, hrow⟩ := (h.drewN q).look hlt
        go_wp2_with fail
        refine (szIntS_c _ _ _ _ _ _ _ hrow.out hx0 hx1).mono ?_
        rintro e w1 ⟨⟨y, rfl, hy1, hy2, hy3⟩, rfl⟩
        have hy3 := hide hy3
        by_cases hy : y < 0
        · go_wp2_with fail
          go_ret
          exact ⟨⟨-1, rfl, by omega, by omega, fun h => absurd h (by omega)⟩, below_drewN (Below.refl _ _) _⟩
        · have hst := hide (show y + totLen (rs.take (k + 1)) ≤ 1048576 from by
            have h1 := hy3.out (by omega)
            have h2 := hall.out
            have h3 := totLen_step hx.out
            have h4 := hrow.out.len
            omega)
          go_wp2_with fail
          go_roundw
          case rel => exact ⟨k + 1, _, y, by omega, by go_num, rfl, by omega, hy1, rfl, hst⟩
          case measure => simp [intOf]; omega
      · go_wp2_with fail
        go_ret
        exact ⟨⟨x, rfl, hx1, by omega, fun _ => ⟨hn2, by
          have h2 := hall.out
          rw [totLen_all rs (by have := hl.out; omega)] at h2
          omega⟩⟩, below_drewN (Below.refl _ _) _⟩

/-- The first k rows, and nil for the others. -/
def cpyM (rs : List (List Int)) (k : Nat) : List (List Int) := rs.take k ++ List.replicate (rs.length - k) []
theorem cpyM_zero (rs : List (List Int)) : cpyM rs 0 = List.replicate rs.length [] := by simp [cpyM]
theorem cpyM_all (rs : List (List Int)) : cpyM rs rs.length = rs := by simp [cpyM]
theorem cpyM_len (rs : List (List Int)) (k : Nat) : (cpyM rs k).length = rs.length := by
  simp [cpyM]; omega
theorem cpyM_set (rs : List (List Int)) (k : Nat) (x : List Int) (h : rs[k]? = some x) : (cpyM rs k).set k x = cpyM rs (k + 1) := by
  obtain ⟨hk, rfl⟩ := List.getElem?_eq_some_iff.1 h
  apply List.ext_getElem
  · simp [cpyM]; omega
  · intro j h1 h2
    rw [List.getElem_set]
    split
    · subst_vars; simp [cpyM, List.getElem_append]; omega
    · simp only [cpyM, List.getElem_append, List.length_take, List.getElem_take, List.getElem_replicate]
      split <;> split <;> first | rfl | omega

set_option maxHeartbeats 800000 in
theorem toIntSS_c (A : Option Addr) (n c B : Nat) (rs : List (List Int)) (w : World) (h : Mat w B A n c rs) (hB : B ≤ w.heap.size) (hn : n ≤ 1048576) (hr : ∀ l ∈ rs, l.length ≤ 1048576) :
    Calls Try.prog 13 #[.slice A n c] w fun e w' => ∃ g, e = .returned (.slice (some ⟨g, 0, none⟩) n n) ∧ OwnM w' w.heap.size w'.heap.size (.slice (some ⟨g, 0, none⟩) n n) rs ∧ Below w.heap.size w w' := by
  have hl := hide h.len
  have hr := hide hr
  obtain ⟨i1, hi1, hy0, hy1, hy2⟩ := info_parts infoRow
  go_enter Try.func13, Try.ntmps13
  go_wp2_with (at_make; refine wpList_make_full _ rfl _ _ 22 rfl w.heap.size 27 i1 (.slice none 0 0) 1 Try.underlying22 hi1 hy0 hy1 .i64 .i64 _ _ n rfl rfl rfl rfl (by rw [hy2]; omega) (by unfold maxLen; omega) (Nat.le_refl _) ?_; intro w1 hown0 hgrow0)
  have hb0 : Below w.heap.size w w1 := (Below.refl _ _).grown hgrow0 (Nat.le_refl _) (fun k hk => by cases hk)
  have ho0 : Hid (OwnM w1 w.heap.size w1.heap.size (.slice (some ⟨w.heap.size, 0, none⟩) n n) (cpyM rs 0)) := by
    rw [cpyM_zero, hl.out]
    exact ownM_made hown0
  clear hown0 hgrow0
  go_loopw [4] (fun i wr => ∃ k : Nat, k ≤ n ∧ i = .int .i64 k ∧ Hid (OwnM wr w.heap.size wr.heap.size (.slice (some ⟨w.heap.size, 0, none⟩) n n) (cpyM rs k)) ∧ Hid (Below w.heap.size w wr)) (fun i _ => n - (intOf i).toNat)
  case atStart => exact ⟨0, Nat.zero_le _, rfl, ho0, hb0⟩
  case round =>
    clear ho0 hb0
    obtain ⟨k, hk, rfl, ho, hb⟩ := hrel
    by_cases hlt : k < n
    · obtain ⟨b, off, l, A', n', c', rfl, hbB, hx, hcell, hrow⟩ := (h.below (hb.out.mono hB)).look hlt
      have hln := hide (hr.out l (List.mem_of_getElem? hx.out))
      go_wp2_with fail
      refine (toIntS_c _ _ _ _ _ _ (hrow.out.more (Nat.le_trans hB hb.out.size)) (Nat.le_refl _) (by rw [← hrow.out.len]; exact hln.out)).mono ?_
      rintro e w2 ⟨g2, rfl, ho2, hq⟩
      have hm2 := ho.out.up hq
      have hs := hq.size
      have hs0 := hb.out.size
      obtain ⟨hset, hf, ⟨y, hy⟩, _⟩ := hm2.setRow ho2 hs0 (by rw [cpyM_len, hl.out]; exact hlt)
      rw [cpyM_set rs k l hx.out] at hset
      have hset := hide (hset.wide (hi' := (w2.setCell ⟨w.heap.size, k, none⟩ (.slice (some ⟨g2, 0, none⟩) n' n')).heap.size) (by simp [World.setCell]))
      have hb2 := hide ((hb.out.trans (hq.mono hs0)).setCell (p := ⟨w.heap.size, k, none⟩) (Nat.le_refl _) (.slice (some ⟨g2, 0, none⟩) n' n'))
      clear hm2 hq ho hb ho2
      go_wp2
      go_roundw
      case rel => exact ⟨k + 1, by omega, by go_num, hset, hb2⟩
      case measure => simp [intOf]; omega
    · obtain rfl : k = n := by omega
      go_wp2
      go_ret
      have e := hl.out
      refine ⟨_, rfl, ?_, hb.out⟩
      have := ho.out
      rwa [← e, cpyM_all, e] at this

set_option maxHeartbeats 800000 in
theorem eqIntSS_c (A A' : Option Addr) (n c B n' c' B' : Nat) (rs rs' : List (List Int)) (w : World) (h : Mat w B A n c rs) (h' : Mat w B' A' n' c' rs') :
    Calls Try.prog 15 #[.slice A n c, .slice A' n' c'] w fun e w' => e = .returned (.bool (sameM rs rs')) ∧ ∃ q, w' = w.drewN q := by
  have hl := hide h.len
  have hl' := hide h'.len
  have hn := h.nb
  have hn' := h'.nb
  by_cases hne : n = n'
  · subst hne
    go_enter Try.func15, Try.ntmps15
    go_wp2
    go_loopw [5] (fun i wr => ∃ k q : Nat, k ≤ n ∧ i = .int .i64 k ∧ wr = w.drewN q ∧ Hid (∀ j, j < k → rs[j]? = rs'[j]?)) (fun i _ => n - (intOf i).toNat)
    case atStart => exact ⟨0, 0, Nat.zero_le _, rfl, rfl, fun j hj => absurd hj (by omega)⟩
    case round =>
      obtain ⟨k, q, hk, rfl, rfl, hall⟩ := hrel
      by_cases hlt : k < n
      · obtain ⟨b, off, l, A2, n2, c2, rfl, hb, hx, hcell, hrow⟩ := h.look hlt
        obtain ⟨b', off', l', A3, n3, c3, rfl, hb', hx', hcell', hrow'⟩ := h'.look hlt
        have HE2 := hide (fun m => eqIntS_c _ _ _ _ _ _ _ _ _ _ (w.drewN m) (hrow.out.keep (fun _ _ => rfl)) (hrow'.out.keep (fun _ _ => rfl)))
        clear hrow hrow'
        by_cases hs : sameL l l' = true
        · rw [hs] at HE2
          go_wp2
          go_quiet (first | (go_at_call 19; exact qd1 (HE2.out _)) | (go_at_call 19; exact qd2 (HE2.out _)))
          go_wp2
          go_roundw
          case rel => exact ⟨k + 1, _, by omega, by go_num, rfl, fun j hj => by
            rcases Nat.lt_or_ge j k with hjk | hjk
            · exact hall.out j hjk
            · obtain rfl : j = k := by omega
              rw [hx.out, hx'.out, of_decide_eq_true hs]⟩
          case measure => simp [intOf]; omega
        · have hs : sameL l l' = false := by simpa using hs
          rw [hs] at HE2
          go_wp2
          go_quiet (first | (go_at_call 19; exact qd1 (HE2.out _)) | (go_at_call 19; exact qd2 (HE2.out _)))
          go_wp2
          go_ret
          exact ⟨ret_bool (sameM_bad hx.out hx'.out hs).symm, _, by first | rfl | exact World.drewN_drewN _ _ _⟩
      · go_wp2
        go_ret
        exact ⟨ret_bool (sameM_good (hl.out.trans hl'.out.symm) (fun j hj => hall.out j (by have := hl.out; omega))).symm, _, rfl⟩
  · have hd : ((n : Int) != (n' : Int)) = true := by simp; omega
    go_enter Try.func15, Try.ntmps15
    go_wp2
    go_ret
    exact ⟨ret_bool (sameM_len (by have := hl.out; have := hl'.out; omega)).symm, 0, rfl⟩
/-- What a change of the rows that lie in the blocks from lo on and below hi leaves as it was. -/
def KeepM (w w' : World) (lo hi : Nat) : Prop :=
  (∀ (b : Nat) (v : Value) (zs : List Int), Own w b v zs → (∀ k, v.ownBlock = some k → k < lo ∨ hi ≤ k) → Own w' b v zs) ∧ (∀ (B : Nat) (a : World), B ≤ lo → B ≤ w.heap.size → Below B a w → Below B a w') ∧ w.heap.size ≤ w'.heap.size
theorem KeepM.refl (w : World) (lo hi : Nat) : KeepM w w lo hi := ⟨fun _ _ _ h _ => h, fun _ _ _ _ h => h, Nat.le_refl _⟩
theorem KeepM.step {w w1 w2 : World} {lo hi : Nat} {u : Value} (h : KeepM w w1 lo hi) (hg : w1.grownBy w2 u.ownBlock) (hu : ∀ k, u.ownBlock = some k → lo ≤ k ∧ k < hi) : KeepM w w2 lo hi :=
  ⟨fun b v zs ho hv => (h.1 b v zs ho hv).kept hg (by
    cases hk : v.ownBlock with
    | none => exact .inl rfl
    | some j =>
      refine .inr fun e => ?_
      have a := hv j hk
      have b := hu j e.symm
      omega), fun B a hB hs hb => (h.2.1 B a hB hs hb).grown hg (Nat.le_trans hs h.2.2) (fun k hk => by have := hu k hk; omega), Nat.le_trans h.2.2 hg.size⟩

set_option maxHeartbeats 800000 in
theorem markIntSS_c (A : Option Addr) (n c lo hi : Nat) (k : Int) (rs : List (List Int)) (w : World) (h : OwnM w lo hi (.slice A n c) rs) (h0 : 0 ≤ k) (h1 : k ≤ 100000000) (hn : n ≤ 1048576) (ht : totLen rs ≤ 1048576) :
    Calls Try.prog 23 #[.slice A n c, .int .i64 k] w fun e w' => e = .returned (.int .i64 (k + (totLen rs : Nat))) ∧ KeepM w w' lo hi := by
  have hl := hide h.len
  go_enter Try.func23, Try.ntmps23
  go_wp2
  go_loopw [1, 5] (fun t i wr => ∃ j : Nat, ∃ rs', j ≤ n ∧ i = .int .i64 j ∧ t = .int .i64 (k + (totLen (rs.take j) : Nat)) ∧ Hid (OwnM wr lo hi (.slice A n c) rs') ∧ Hid (∀ q, j ≤ q → rs'[q]? = rs[q]?) ∧ Hid (KeepM w wr lo hi)) (fun _ i _ => n - (intOf i).toNat)
  case atStart => exact ⟨0, rs, Nat.zero_le _, rfl, by rw [totLen_zero]; simp, h, fun _ _ => rfl, KeepM.refl _ _ _⟩
  case round =>
    clear h
    obtain ⟨j, rs', hj, rfl, rfl, ho, hsm, hkp⟩ := hrel
    have hle : totLen (rs.take j) ≤ totLen rs := by
      have e := List.take_append_drop j rs
      have := totLen_append (rs.take j) (rs.drop j)
      rw [e] at this
      omega
    by_cases hlt : j < n
    · obtain ⟨l, hx⟩ : ∃ l, Hid (rs[j]? = some l) := ⟨_, hide (List.getElem?_eq_getElem (by have := hl.out; omega))⟩
      obtain ⟨g, c1, u, hv, hg, hcell, hfr, hou, hub, hset⟩ := ho.out.at_ ((hsm.out j (Nat.le_refl _)).trans hx.out)
      injection hv with e1 e2 e3
      subst e1
      clear e2 e3
      obtain ⟨Au, cu, rfl⟩ := hou.slice
      have hst := hide (totLen_step hx.out)
      have hm := hide (totLen_mem (List.mem_of_getElem? hx.out))
      have hlu := hide (show ∀ q, (Value.slice Au l.length cu).ownBlock = some q → lo ≤ q ∧ q < hi from fun q hq => ⟨(hou.row.lt q hq).1, hub q hq⟩)
      have HK := hide (mark_c Au l.length cu lo (k + (totLen (rs.take j) : Nat)) l wr hou (by omega) (by omega) (by have := hm.out; omega))
      have hset := hide hset
      clear hub
      go_wp2_with fail
      refine HK.out.mono ?_
      rintro e w2 ⟨rfl, ho2, hg2⟩
      have ho3 := hide (hset.out w2 _ ho2 hg2)
      have hkp2 := hide (hkp.out.step hg2 hlu.out)
      have hsm2 := hide (show ∀ q, j + 1 ≤ q → (rs'.set j (mrk l (k + (totLen (rs.take j) : Nat)) l.length))[q]? = rs[q]? from fun q hq => by
        rw [List.getElem?_set_ne (by omega)]
        exact hsm.out q (by omega))
      clear ho2 hg2 hset HK
      go_wp2
      go_roundw
      case rel => exact ⟨j + 1, _, by omega, by go_num, by rw [hst.out]; go_num, ho3, hsm2, hkp2⟩
      case measure => simp [intOf]; omega
    · have he := hide (totLen_all rs (k := j) (by have := hl.out; omega))
      go_wp2
      go_ret
      exact ⟨ret_int (by rw [he.out]), hkp.out⟩
end Go.Proofs.Ythdelfhfglnhfab
