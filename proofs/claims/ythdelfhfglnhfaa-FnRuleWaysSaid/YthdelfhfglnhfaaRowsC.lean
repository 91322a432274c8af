/-
  Contracts of the laws' helpers on slices of slices of ints: szIntS, szIntSS, toIntSS, eqIntSS, sameRows, markIntSS.
-/
import Derived.Test.YthdelfhfglnhfaaLawAid
import Derived.Test.YthdelfhfglnhfaaAidW
import Derived.Test.YthdelfhfglnhfaaOwnM
namespace Go.Proofs.Ythdelfhfglnhfaa
open Go.RowKit

theorem infoRow : (Try.prog.info? 28).map (fun i => (i.zero, i.size, i.bytes)) = some (some (.slice none 0 0), 1, 24) := by kernel_rfl

def sameM (xs ys : List (List Int)) : Bool := decide (xs = ys)
theorem sameM_refl (xs : List (List Int)) : sameM xs xs = true := decide_eq_true rfl
theorem sameM_len {xs ys : List (List Int)} (h : xs.length ≠ ys.length) : sameM xs ys = false := decide_eq_false (fun e => h (by rw [e]))
theorem sameM_bad {xs ys : List (List Int)} {k : Nat} {x y : List Int} (hx : xs[k]? = some x) (hy : ys[k]? = some y) (h : sameL x y = false) : sameM xs ys = false :=
  decide_eq_false (fun e => by
    subst e; rw [hx] at hy; injection hy with hy
    exact (of_decide_eq_false h) hy)
theorem sameM_good {xs ys : List (List Int)} (hl : xs.length = ys.length) (h : ∀ j, j < xs.length → xs[j]? = ys[j]?) : sameM xs ys = true :=
  decide_eq_true (List.ext_getElem? fun j => by
    rcases Nat.lt_or_ge j xs.length with hj | hj
    · exact h j hj
    · rw [List.getElem?_eq_none hj, List.getElem?_eq_none (by omega)])

/-- How many numbers all rows have together. -/
def totLen (rs : List (List Int)) : Nat := (rs.map List.length).sum
theorem totLen_step {rs : List (List Int)} {k : Nat} {l : List Int} (h : rs[k]? = some l) : totLen (rs.take (k + 1)) = totLen (rs.take k) + l.length := by
  obtain ⟨hk, rfl⟩ := List.getElem?_eq_some_iff.1 h
  unfold totLen
  rw [List.take_succ_eq_append_getElem hk, List.map_append, List.sum_append]
  simp only [List.map_cons, List.map_nil, List.sum_cons, List.sum_nil, Nat.add_zero]
theorem totLen_append (a b : List (List Int)) : totLen (a ++ b) = totLen a + totLen b := by simp [totLen]
theorem totLen_zero (rs : List (List Int)) : totLen (rs.take 0) = 0 := rfl
theorem totLen_all (rs : List (List Int)) {k : Nat} (h : rs.length ≤ k) : totLen (rs.take k) = totLen rs := by rw [List.take_of_length_le h]
theorem totLen_mem {rs : List (List Int)} {l : List Int} (h : l ∈ rs) : l.length ≤ totLen rs := by
  induction rs with
  | nil => cases h
  | cons r q ih =>
    have e : totLen (r :: q) = r.length + totLen q := by simp [totLen]
    rw [e]
    rcases List.mem_cons.1 h with h | h
    · subst h; omega
    · have := ih h; omega
theorem totLen_set {rs : List (List Int)} {k : Nat} {l l' : List Int} (h : rs[k]? = some l) (hl : l'.length = l.length) : totLen (rs.set k l') = totLen rs := by
  have e : (rs.set k l').map List.length = rs.map List.length := by
    apply List.ext_getElem?
    intro j
    rw [List.getElem?_map, List.getElem?_map]
    by_cases hjk : k = j
    · subst hjk
      rw [List.getElem?_set_self (List.getElem?_eq_some_iff.1 h).1, h]; simp [hl]
    · rw [List.getElem?_set_ne hjk]
  unfold totLen
  rw [e]

/-- The first k rows, and nil for the others. -/
def cpyM (rs : List (List Int)) (k : Nat) : List (List Int) := rs.take k ++ List.replicate (rs.length - k) []
theorem cpyM_zero (rs : List (List Int)) : cpyM rs 0 = List.replicate rs.length [] := by simp [cpyM]
theorem cpyM_all (rs : List (List Int)) : cpyM rs rs.length = rs := by simp [cpyM]
theorem cpyM_len (rs : List (List Int)) (k : Nat) : (cpyM rs k).length = rs.length := by
  simp [cpyM]; omega
theorem cpyM_set (rs : List (List Int)) (k : Nat) (x : List Int) (h : rs[k]? = some x) : (cpyM rs k).set k x = cpyM rs (k + 1) := by
  obtain ⟨hk, rfl⟩ := List.getElem?_eq_some_iff.1 h
  apply List.ext_getElem
  · simp [cpyM]; omega
  · intro j h1 h2
    rw [List.getElem_set]
    split
    · subst_vars; simp [cpyM, List.getElem_append]; omega
    · simp only [cpyM, List.getElem_append, List.length_take, List.getElem_take, List.getElem_replicate]
      split <;> split <;> first | rfl | omega

set_option maxHeartbeats 800000 in
theorem sameRows_c (A A' : Option Addr) (n c B n' c' B' : Nat) (rs rs' : List (List Int)) (w : World) (h : Mat w B A n c rs) (h' : Mat w B' A' n' c' rs') :
    Calls Try.prog 15 #[.slice A n c, .slice A' n' c'] w fun e w' => e = .returned (.bool (sameM rs rs')) ∧ ∃ q, w' = w.drewN q := by
  have hl := hide h.len
  have hl' := hide h'.len
  have hn := h.nb
  have hn' := h'.nb
  by_cases hne : n = n'
  · subst hne
    go_enter Try.func15, Try.ntmps15
    go_wp2
    go_loopw [5] (fun i wr => ∃ k q : Nat, k ≤ n ∧ i = .int .i64 k ∧ wr = w.drewN q ∧ Hid (∀ j, j < k → rs[j]? = rs'[j]?)) (fun i _ => n - (intOf i).toNat)
    case atStart => exact ⟨0, 0, Nat.zero_le _, rfl, rfl, fun j hj => absurd hj (by omega)⟩
    case round =>
      obtain ⟨k, q, hk, rfl, rfl, hall⟩ := hrel
      by_cases hlt : k < n
      · obtain ⟨b, off, l, A2, n2, c2, rfl, hb, hx, hcell, hrow⟩ := h.look hlt
        obtain ⟨b', off', l', A3, n3, c3, rfl, hb', hx', hcell', hrow'⟩ := h'.look hlt
        have HE2 := hide (fun m => sameInts_c _ _ _ _ _ _ _ _ _ _ (w.drewN m) (hrow.out.keep (fun _ _ => rfl)) (hrow'.out.keep (fun _ _ => rfl)))
        clear hrow hrow'
        by_cases hs : sameL l l' = true
        · rw [hs] at HE2
          go_wp2
          go_quiet (first | (go_at_call 24; exact qd1 (HE2.out _)) | (go_at_call 24; exact qd2 (HE2.out _)))
          go_wp2
          go_roundw
          case rel => exact ⟨k + 1, _, by omega, by go_num, rfl, fun j hj => by
            rcases Nat.lt_or_ge j k with hjk | hjk
            · exact hall.out j hjk
            · obtain rfl : j = k := by omega
              rw [hx.out, hx'.out, of_decide_eq_true hs]⟩
          case measure => simp [intOf]; omega
        · have hs : sameL l l' = false := by simpa using hs
          rw [hs] at HE2
          go_wp2
          go_quiet (first | (go_at_call 24; exact qd1 (HE2.out _)) | (go_at_call 24; exact qd2 (HE2.out _)))
          go_wp2
          go_ret
          exact ⟨ret_bool (sameM_bad hx.out hx'.out hs).symm, _, by first | rfl | exact World.drewN_drewN _ _ _⟩
      · go_wp2
        go_ret
        exact ⟨ret_bool (sameM_good (hl.out.trans hl'.out.symm) (fun j hj => hall.out j (by have := hl.out; omega))).symm, _, rfl⟩
  · have hd : ((n : Int) != (n' : Int)) = true := by simp; omega
    go_enter Try.func15, Try.ntmps15
    go_wp2
    go_ret
    exact ⟨ret_bool (sameM_len (by have := hl.out; have := hl'.out; omega)).symm, 0, rfl⟩

/-- What a change of the rows that lie in the blocks from lo on and below hi leaves as it was. -/
def KeepM (w w' : World) (lo hi : Nat) : Prop :=
  (∀ (b : Nat) (v : Value) (zs : List Int), Own w b v zs → (∀ k, v.ownBlock = some k → k < lo ∨ hi ≤ k) → Own w' b v zs) ∧ (∀ (B : Nat) (a : World), B ≤ lo → B ≤ w.heap.size → Below B a w → Below B a w') ∧ w.heap.size ≤ w'.heap.size
theorem KeepM.refl (w : World) (lo hi : Nat) : KeepM w w lo hi := ⟨fun _ _ _ h _ => h, fun _ _ _ _ h => h, Nat.le_refl _⟩
theorem KeepM.step {w w1 w2 : World} {lo hi : Nat} {u : Value} (h : KeepM w w1 lo hi) (hg : w1.grownBy w2 u.ownBlock) (hu : ∀ k, u.ownBlock = some k → lo ≤ k ∧ k < hi) : KeepM w w2 lo hi :=
  ⟨fun b v zs ho hv => (h.1 b v zs ho hv).kept hg (by
    cases hk : v.ownBlock with
    | none => exact .inl rfl
    | some j =>
      refine .inr fun e => ?_
      have a := hv j hk
      have b := hu j e.symm
      omega), fun B a hB hs hb => (h.2.1 B a hB hs hb).grown hg (Nat.le_trans hs h.2.2) (fun k hk => by have := hu k hk; omega), Nat.le_trans h.2.2 hg.size⟩

end Go.Proofs.Ythdelfhfglnhfaa
