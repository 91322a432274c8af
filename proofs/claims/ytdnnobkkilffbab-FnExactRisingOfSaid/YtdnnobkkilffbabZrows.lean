/-
  Words, plain lemmas and contracts that belong together, joined into one file.
-/
import Derived.Test.YtdnnobkkilffbabZpl
import Derived.Test.YtdnnobkkilffbabZdraw
import Derived.Deep.AppendLies
namespace Go.Proofs.Ytdnnobkkilffbab
open Go.RowKit

/-- The slice '.slice A n c' holds rows of ints; all its cells lie in blocks from lo on. -/
structure MatL (w : World) (lo : Nat) (A : Option Addr) (n c : Nat) (rs : List (List Int)) : Prop where
  len : rs.length = n
  le : n ≤ c
  big : c ≤ maxLen
  cells : 0 < n → ∃ b off, A = some ⟨b, off, none⟩ ∧ lo ≤ b ∧ b < w.heap.size ∧ ∀ (j : Nat) l, rs[j]? = some l → ∃ A' n' c', w.cell? ⟨b, off + j, none⟩ = some (.slice A' n' c') ∧ Ints w w.heap.size A' n' c' l ∧ (0 < n' → ∃ b' off', A' = some ⟨b', off', none⟩ ∧ lo ≤ b')
  nil0 : A = none → c = 0

section
variable {w w' : World} {lo hi n c k g : Nat} {A : Option Addr} {v u : Value} {rs : List (List Int)} {l : List Int}
theorem MatL.mat (h : MatL w lo A n c rs) : Mat w w.heap.size A n c rs := ⟨h.len, h.le, h.big, fun hn => by
  obtain ⟨b, off, e, _, hb, hc⟩ := h.cells hn
  refine ⟨b, off, e, hb, fun j l hl => ?_⟩
  obtain ⟨A', n', c', h1, h2, _⟩ := hc j l hl
  exact ⟨A', n', c', h1, h2⟩, h.nil0⟩
theorem Ints.past {zs : List Int} (h : Ints w w.heap.size A n c zs) (hlo : 0 < n → ∃ b' off', A = some ⟨b', off', none⟩ ∧ lo ≤ b') (hg : w.grownBy w' (some g)) (hlt : g < lo) : Ints w' w'.heap.size A n c zs :=
  ⟨h.len, h.le, h.big, fun hn => by
    obtain ⟨b, off, e, hb, hc⟩ := h.cells hn
    obtain ⟨b', off', e', hlb⟩ := hlo hn
    rw [e] at e'
    injection e' with e'
    injection e' with e1 e2
    subst e1; subst e2
    refine ⟨b, off, e, Nat.lt_of_lt_of_le hb hg.size, fun j x hx => ?_⟩
    rw [World.cell?_of_block (hg.block b hb (fun e => by injection e with e; omega))]
    exact hc j x hx, h.wf, h.nil0⟩
theorem MatL.past (h : MatL w lo A n c rs) (hg : w.grownBy w' (some g)) (hlt : g < lo) : MatL w' lo A n c rs :=
  ⟨h.len, h.le, h.big, fun hn => by
    obtain ⟨b, off, e, hlb, hb, hc⟩ := h.cells hn
    refine ⟨b, off, e, hlb, Nat.lt_of_lt_of_le hb hg.size, fun j l hl => ?_⟩
    obtain ⟨A', n', c', h1, h2, h3⟩ := hc j l hl
    refine ⟨A', n', c', ?_, h2.past h3 hg hlt, h3⟩
    rw [World.cell?_of_block (hg.block b hb (fun e => by injection e with e; omega))]
    exact h1, h.nil0⟩
theorem MatL.down {lo' : Nat} (h : MatL w lo A n c rs) (hl : lo' ≤ lo) : MatL w lo' A n c rs :=
  ⟨h.len, h.le, h.big, fun hn => by
    obtain ⟨b, off, e, hlb, hb, hc⟩ := h.cells hn
    refine ⟨b, off, e, by omega, hb, fun j l hl => ?_⟩
    obtain ⟨A', n', c', h1, h2, h3⟩ := hc j l hl
    exact ⟨A', n', c', h1, h2, fun hn => by obtain ⟨b', off', e', h4⟩ := h3 hn; exact ⟨b', off', e', by omega⟩⟩, h.nil0⟩
theorem OwnM.matL (h : OwnM w lo hi (.slice A n c) rs) : MatL w lo A n c rs := by
  have hM := h.mat
  refine ⟨hM.len, hM.le, hM.big, fun hn => ?_, hM.nil0⟩
  obtain ⟨b, off, e, hb, hc⟩ := hM.cells hn
  have hlen := h.len
  refine ⟨b, off, e, ?_, hb, fun j l hl => ?_⟩
  · rcases h.shape with ⟨hv, _⟩ | ⟨g, c', hv, hg, _⟩
    · injection hv with e1
      rw [e] at e1; cases e1
    · injection hv with e1
      rw [e] at e1
      injection e1 with e1
      injection e1 with e1
      omega
  · obtain ⟨A', n', c', h1, h2⟩ := hc j l hl
    refine ⟨A', n', c', h1, h2, fun hp => ?_⟩
    obtain ⟨g, c2, u, hv, hg, hcell, _, ho, _, _⟩ := h.at_ hl
    injection hv with e1
    rw [e] at e1
    injection e1 with e1
    injection e1 with e1 e2
    subst e1; subst e2
    rw [Nat.zero_add, hcell] at h1
    injection h1 with h1
    subst h1
    rcases ho.shape with ⟨hv2, _⟩ | ⟨g2, c3, hv2, hg2, _⟩
    · injection hv2 with a1 a2
      omega
    · injection hv2 with a1
      exact ⟨g2, 0, a1, hg2⟩
/-- All rows but the first one. -/
theorem MatL.tail (h : MatL w lo (some ⟨g, k, none⟩) n c rs) (hn : 0 < n) : MatL w lo (some ⟨g, k + 1, none⟩) (n - 1) (c - 1) (rs.drop 1) := by
  refine ⟨by rw [List.length_drop, h.len], by have := h.le; omega, by have := h.big; omega, fun hp => ?_, fun e => by cases e⟩
  obtain ⟨b, off, e, hlb, hb, hc⟩ := h.cells hn
  injection e with e
  injection e with e1 e2
  subst e1; subst e2
  refine ⟨g, k + 1, rfl, hlb, hb, fun j l hl => ?_⟩
  rw [List.getElem?_drop] at hl
  have := hc (1 + j) l hl
  rw [show k + 1 + j = k + (1 + j) by omega]
  exact this
theorem MatL.empty (hc : c ≤ maxLen) (h0 : A = none → c = 0) : MatL w lo A 0 c [] := ⟨rfl, Nat.zero_le _, hc, fun h => absurd h (by omega), h0⟩
/-- A change of a row that the call owns besides the others. -/
theorem OwnM.beside (h : OwnM w lo hi v rs) (hu : Own w hi u l) (hg : w.grownBy w' u.ownBlock) : OwnM w' lo hi v rs := by
  obtain ⟨vs, h1, h2, h3⟩ := h.ex
  have hne := own_ne h1 hu
  refine ⟨vs, h1.kept hg ?_, fun k x m hx hm => ⟨(h2 k x m hx hm).1.kept hg ?_, (h2 k x m hx hm).2⟩, h3⟩
  · rcases hne with e | e
    · rw [e]; cases v.ownBlock <;> simp
    · exact .inr fun e' => e e'.symm
  · cases hk : x.ownBlock with
    | none => exact .inl rfl
    | some j =>
      refine .inr fun e => ?_
      have a := (h2 k x m hx hm).2 j hk
      have b := (hu.row.lt j e.symm).1
      omega
theorem OwnM.lt (h : OwnM w lo hi v rs) : ∀ k, v.ownBlock = some k → lo ≤ k ∧ k < w.heap.size := by
  obtain ⟨vs, h1, _⟩ := h.ex
  exact h1.lt
theorem grown_set (w : World) (g j : Nat) (y : Value) : w.grownBy (w.setCell ⟨g, j, none⟩ y) (some g) := ⟨rfl, rfl, rfl, by simp, fun q _ hq => heap_setCell_other w ⟨g, j, none⟩ q _ (fun e => hq (by simp [e]))⟩
end

theorem cell_new {w : World} {b : Nat} {x : Value} {t : TypeId} (hb : b = w.heap.size) : (w.alloc (.cells #[x] t)).cell? ⟨b, 0, none⟩ = some x := by
  subst hb
  rw [World.cell?_alloc_at _ _ _ _ rfl]; rfl
theorem ownM_empty' {w : World} {lo hi g : Nat} (hg : g = w.heap.size) (hb : lo ≤ w.heap.size) : OwnM (w.alloc (.cells #[] 23)) lo hi (.slice (some ⟨g, 0, none⟩) 0 0) [] := by
  subst hg
  exact ownM_empty hb
theorem take_succM {rs : List (List Int)} {k : Nat} {l : List Int} (h : rs[k]? = some l) : rs.take (k + 1) = rs.take k ++ [l] := by
  obtain ⟨hk, rfl⟩ := List.getElem?_eq_some_iff.1 h
  exact List.take_succ_eq_append_getElem hk
theorem own_other {g1 g2 n1 n2 c1 c2 : Nat} (h : g1 ≠ g2) : (Value.slice (some ⟨g2, 0, none⟩) n2 c2).ownBlock = none ∨ (Value.slice (some ⟨g2, 0, none⟩) n2 c2).ownBlock ≠ (Value.slice (some ⟨g1, 0, none⟩) n1 c1).ownBlock :=
  .inr fun e => by simp [Value.ownBlock] at e; exact h e.symm
theorem new_other {g1 g2 g3 n c H : Nat} (h : (Value.slice (some ⟨g1, 0, none⟩) n c).ownBlock = some g3 ∨ g3 = H) (hne : g1 ≠ g2) (hlt : g2 < H) : g3 ≠ g2 := by
  rcases h with h | h
  · simp [Value.ownBlock] at h; omega
  · omega
/-- Another slice of slices that the call owns grows. -/
theorem OwnM.kept2 {w w' : World} {lo hi lo' hi' : Nat} {v v' : Value} {rs rs' : List (List Int)} (h : OwnM w lo hi v rs) (hx : OwnM w lo' hi' v' rs') (hd : v.ownBlock = none ∨ v.ownBlock ≠ v'.ownBlock) (hg : w.grownBy w' v'.ownBlock) : OwnM w' lo hi v rs := by
  obtain ⟨vs, h1, h2, h3⟩ := h.ex
  obtain ⟨_, k1, _, _⟩ := hx.ex
  exact ⟨vs, h1.kept hg hd, fun k x m hx hm => ⟨(h2 k x m hx hm).1.kept hg (own_ne k1 (h2 k x m hx hm).1), (h2 k x m hx hm).2⟩, h3⟩
section
variable {P : Program} (w : World)
/-- append of one row, and where the slice lies afterwards. -/
theorem wpList_appM2 {ops : Array Oper} {rest : List Oper} {o : Oper} {a : Act} {Q : Exit → Act → World → Prop} (hgd : o.guard = none) (s x : Operand) (t : TypeId)
    (ho : o.op = .call { callee := .builtin .append, args := #[s, x], argTypes := #[t, t] })
    (i : TypeInfo) (ht : P.underlying t = some (.slice 23)) (hi : P.info? 23 = some i) (hz0 : i.zero = some (.slice none 0 0)) (hz1 : i.size = 1) (hz2 : i.bytes = 24)
    {lo hi' : Nat} (v : Value) (rs : List (List Int)) (hs : a.eval s = v) (hown : OwnM w lo hi' v rs) (u : Value) (l : List Int) (hu : Own w hi' u l) (hlo : lo ≤ hi') (hbase : lo ≤ w.heap.size) (ad : Addr) (c : Nat) (hx : a.eval x = .slice (some ad) 1 c)
    (hcell : w.cell? ad = some u) (n : Nat) (hn : rs.length = n) (hsz : n ≤ 1048576000)
    (h : ∀ g' c' w', OwnM w' lo w'.heap.size (.slice (some ⟨g', 0, none⟩) (n + 1) c') (rs ++ [l]) → w.grownBy w' v.ownBlock → (v.ownBlock = some g' ∨ g' = w.heap.size) → wpList P ops Q rest (a.put o.dst (.slice (some ⟨g', 0, none⟩) (n + 1) c')) w') : wpList P ops Q (o :: rest) a w := by
  subst hn
  obtain ⟨vs, h1, h2, h3⟩ := hown.ex
  obtain ⟨Au, cu, eu⟩ := hu.slice
  refine wpList_append_lies w hgd s x t ho lo 23 i (.slice none 0 0) 1 24 ht hi hz0 hz1 hz2 rfl (by decide) v rs.length vs hs h1 ad 1 c [u] hx rfl (fun j y hy => ?_) (fun y hy => ?_) (by decide) (by unfold maxLen; omega) (by omega) hbase w.heap.size rfl fun g' c' w' hr hg hat hlt => ?_
  · cases j with
    | zero => simp at hy; subst hy; simpa [Addr.add] using hcell
    | succ j => simp at hy
  · simp at hy; subst hy; rw [eu]; rfl
  · exact h g' c' w' (OwnM.pushed h1 h2 h3 hu hlo hr hg) hg hat
end
end Go.Proofs.Ytdnnobkkilffbab

namespace Go.Proofs.Ytdnnobkkilffbab
open Go.RowKit

theorem infoRow : (Try.prog.info? 23).map (fun i => (i.zero, i.size, i.bytes)) = some (some (.slice none 0 0), 1, 24) := by kernel_rfl

def sameM (xs ys : List (List Int)) : Bool := decide (xs = ys)
theorem sameM_refl (xs : List (List Int)) : sameM xs xs = true := decide_eq_true rfl
theorem sameM_len {xs ys : List (List Int)} (h : xs.length ≠ ys.length) : sameM xs ys = false := decide_eq_false (fun e => h (by rw [e]))
theorem sameM_bad {xs ys : List (List Int)} {k : Nat} {x y : List Int} (hx : xs[k]? = some x) (hy : ys[k]? = some y) (h : sameL x y = false) : sameM xs ys = false :=
  decide_eq_false (fun e => by
    subst e; rw [hx] at hy; injection hy with hy
    exact (of_decide_eq_false h) hy)
theorem sameM_good {xs ys : List (List Int)} (hl : xs.length = ys.length) (h : ∀ j, j < xs.length → xs[j]? = ys[j]?) : sameM xs ys = true :=
  decide_eq_true (List.ext_getElem? fun j => by
    rcases Nat.lt_or_ge j xs.length with hj | hj
    · exact h j hj
    · rw [List.getElem?_eq_none hj, List.getElem?_eq_none (by omega)])

/-- How many numbers all rows have together. -/
def totLen (rs : List (List Int)) : Nat := (rs.map List.length).sum
theorem totLen_step {rs : List (List Int)} {k : Nat} {l : List Int} (h : rs[k]? = some l) : totLen (rs.take (k + 1)) = totLen (rs.take k) + l.length := by
  obtain ⟨hk, rfl⟩ := List.getElem?_eq_some_iff.1 h
  unfold totLen
  rw [List.take_succ_eq_append_getElem hk, List.map_append, List.sum_append]
  simp only [List.map_cons, List.map_nil, List.sum_cons, List.sum_nil, Nat.add_zero]
theorem totLen_append (a b : List (List Int)) : totLen (a ++ b) = totLen a + totLen b := by simp [totLen]
theorem totLen_zero (rs : List (List Int)) : totLen (rs.take 0) = 0 := rfl
theorem totLen_all (rs : List (List Int)) {k : Nat} (h : rs.length ≤ k) : totLen (rs.take k) = totLen rs := by rw [List.take_of_length_le h]
theorem totLen_mem {rs : List (List Int)} {l : List Int} (h : l ∈ rs) : l.length ≤ totLen rs := by
  induction rs with
  | nil => cases h
  | cons r q ih =>
    have e : totLen (r :: q) = r.length + totLen q := by simp [totLen]
    rw [e]
    rcases List.mem_cons.1 h with h | h
    · subst h; omega
    · have := ih h; omega
theorem totLen_set {rs : List (List Int)} {k : Nat} {l l' : List Int} (h : rs[k]? = some l) (hl : l'.length = l.length) : totLen (rs.set k l') = totLen rs := by
  have e : (rs.set k l').map List.length = rs.map List.length := by
    apply List.ext_getElem?
    intro j
    rw [List.getElem?_map, List.getElem?_map]
    by_cases hjk : k = j
    · subst hjk
      rw [List.getElem?_set_self (List.getElem?_eq_some_iff.1 h).1, h]; simp [hl]
    · rw [List.getElem?_set_ne hjk]
  unfold totLen
  rw [e]

/-- The first k rows, and nil for the others. -/
def cpyM (rs : List (List Int)) (k : Nat) : List (List Int) := rs.take k ++ List.replicate (rs.length - k) []
theorem cpyM_zero (rs : List (List Int)) : cpyM rs 0 = List.replicate rs.length [] := by simp [cpyM]
theorem cpyM_all (rs : List (List Int)) : cpyM rs rs.length = rs := by simp [cpyM]
theorem cpyM_len (rs : List (List Int)) (k : Nat) : (cpyM rs k).length = rs.length := by
  simp [cpyM]; omega
theorem cpyM_set (rs : List (List Int)) (k : Nat) (x : List Int) (h : rs[k]? = some x) : (cpyM rs k).set k x = cpyM rs (k + 1) := by
  obtain ⟨hk, rfl⟩ := List.getElem?_eq_some_iff.1 h
  apply List.ext_getElem
  · simp [cpyM]; omega
  · intro j h1 h2
    rw [List.getElem_set]
    split
    · subst_vars; simp [cpyM, List.getElem_append]; omega
    · simp only [cpyM, List.getElem_append, List.length_take, List.getElem_take, List.getElem_replicate]
      split <;> split <;> first | rfl | omega

set_option maxHeartbeats 800000 in
theorem eqIntSS_c (A A' : Option Addr) (n c B n' c' B' : Nat) (rs rs' : List (List Int)) (w : World) (h : Mat w B A n c rs) (h' : Mat w B' A' n' c' rs') :
    Calls Try.prog 29 #[.slice A n c, .slice A' n' c'] w fun e w' => e = .returned (.bool (sameM rs rs')) ∧ ∃ q, w' = w.drewN q := by
  have hl := hide h.len
  have hl' := hide h'.len
  have hn := h.nb
  have hn' := h'.nb
  by_cases hne : n = n'
  · subst hne
    go_enter Try.func29, Try.ntmps29
    go_wp2
    go_loopw [5] (fun i wr => ∃ k q : Nat, k ≤ n ∧ i = .int .i64 k ∧ wr = w.drewN q ∧ Hid (∀ j, j < k → rs[j]? = rs'[j]?)) (fun i _ => n - (intOf i).toNat)
    case atStart => exact ⟨0, 0, Nat.zero_le _, rfl, rfl, fun j hj => absurd hj (by omega)⟩
    case round =>
      obtain ⟨k, q, hk, rfl, rfl, hall⟩ := hrel
      by_cases hlt : k < n
      · obtain ⟨b, off, l, A2, n2, c2, rfl, hb, hx, hcell, hrow⟩ := h.look hlt
        obtain ⟨b', off', l', A3, n3, c3, rfl, hb', hx', hcell', hrow'⟩ := h'.look hlt
        have HE2 := hide (fun m => eqIntS_c _ _ _ _ _ _ _ _ _ _ (w.drewN m) (hrow.out.keep (fun _ _ => rfl)) (hrow'.out.keep (fun _ _ => rfl)))
        clear hrow hrow'
        by_cases hs : sameL l l' = true
        · rw [hs] at HE2
          go_wp2
          go_quiet (first | (go_at_call 24; exact qd1 (HE2.out _)) | (go_at_call 24; exact qd2 (HE2.out _)))
          go_wp2
          go_roundw
          case rel => exact ⟨k + 1, _, by omega, by go_num, rfl, fun j hj => by
            rcases Nat.lt_or_ge j k with hjk | hjk
            · exact hall.out j hjk
            · obtain rfl : j = k := by omega
              rw [hx.out, hx'.out, of_decide_eq_true hs]⟩
          case measure => simp [intOf]; omega
        · have hs : sameL l l' = false := by simpa using hs
          rw [hs] at HE2
          go_wp2
          go_quiet (first | (go_at_call 24; exact qd1 (HE2.out _)) | (go_at_call 24; exact qd2 (HE2.out _)))
          go_wp2
          go_ret
          exact ⟨ret_bool (sameM_bad hx.out hx'.out hs).symm, _, by first | rfl | exact World.drewN_drewN _ _ _⟩
      · go_wp2
        go_ret
        exact ⟨ret_bool (sameM_good (hl.out.trans hl'.out.symm) (fun j hj => hall.out j (by have := hl.out; omega))).symm, _, rfl⟩
  · have hd : ((n : Int) != (n' : Int)) = true := by simp; omega
    go_enter Try.func29, Try.ntmps29
    go_wp2
    go_ret
    exact ⟨ret_bool (sameM_len (by have := hl.out; have := hl'.out; omega)).symm, 0, rfl⟩
/-- What a change of the rows that lie in the blocks from lo on and below hi leaves as it was. -/
def KeepM (w w' : World) (lo hi : Nat) : Prop :=
  (∀ (b : Nat) (v : Value) (zs : List Int), Own w b v zs → (∀ k, v.ownBlock = some k → k < lo ∨ hi ≤ k) → Own w' b v zs) ∧ (∀ (B : Nat) (a : World), B ≤ lo → B ≤ w.heap.size → Below B a w → Below B a w') ∧ w.heap.size ≤ w'.heap.size
theorem KeepM.refl (w : World) (lo hi : Nat) : KeepM w w lo hi := ⟨fun _ _ _ h _ => h, fun _ _ _ _ h => h, Nat.le_refl _⟩
theorem KeepM.step {w w1 w2 : World} {lo hi : Nat} {u : Value} (h : KeepM w w1 lo hi) (hg : w1.grownBy w2 u.ownBlock) (hu : ∀ k, u.ownBlock = some k → lo ≤ k ∧ k < hi) : KeepM w w2 lo hi :=
  ⟨fun b v zs ho hv => (h.1 b v zs ho hv).kept hg (by
    cases hk : v.ownBlock with
    | none => exact .inl rfl
    | some j =>
      refine .inr fun e => ?_
      have a := hv j hk
      have b := hu j e.symm
      omega), fun B a hB hs hb => (h.2.1 B a hB hs hb).grown hg (Nat.le_trans hs h.2.2) (fun k hk => by have := hu k hk; omega), Nat.le_trans h.2.2 hg.size⟩

set_option maxHeartbeats 800000 in
theorem markIntSS_c (A : Option Addr) (n c lo hi : Nat) (k : Int) (rs : List (List Int)) (w : World) (h : OwnM w lo hi (.slice A n c) rs) (h0 : 0 ≤ k) (h1 : k ≤ 100000000) (hn : n ≤ 1048576) (ht : totLen rs ≤ 1048576) :
    Calls Try.prog 30 #[.slice A n c, .int .i64 k] w fun e w' => e = .returned (.int .i64 (k + (totLen rs : Nat))) ∧ KeepM w w' lo hi := by
  have hl := hide h.len
  go_enter Try.func30, Try.ntmps30
  go_wp2
  go_loopw [1, 5] (fun t i wr => ∃ j : Nat, ∃ rs', j ≤ n ∧ i = .int .i64 j ∧ t = .int .i64 (k + (totLen (rs.take j) : Nat)) ∧ Hid (OwnM wr lo hi (.slice A n c) rs') ∧ Hid (∀ q, j ≤ q → rs'[q]? = rs[q]?) ∧ Hid (KeepM w wr lo hi)) (fun _ i _ => n - (intOf i).toNat)
  case atStart => exact ⟨0, rs, Nat.zero_le _, rfl, by rw [totLen_zero]; simp, h, fun _ _ => rfl, KeepM.refl _ _ _⟩
  case round =>
    clear h
    obtain ⟨j, rs', hj, rfl, rfl, ho, hsm, hkp⟩ := hrel
    have hle : totLen (rs.take j) ≤ totLen rs := by
      have e := List.take_append_drop j rs
      have := totLen_append (rs.take j) (rs.drop j)
      rw [e] at this
      omega
    by_cases hlt : j < n
    · obtain ⟨l, hx⟩ : ∃ l, Hid (rs[j]? = some l) := ⟨_, hide (List.getElem?_eq_getElem (by have := hl.out; omega))⟩
      obtain ⟨g, c1, u, hv, hg, hcell, hfr, hou, hub, hset⟩ := ho.out.at_ ((hsm.out j (Nat.le_refl _)).trans hx.out)
      injection hv with e1 e2 e3
      subst e1
      clear e2 e3
      obtain ⟨Au, cu, rfl⟩ := hou.slice
      have hst := hide (totLen_step hx.out)
      have hm := hide (totLen_mem (List.mem_of_getElem? hx.out))
      have hlu := hide (show ∀ q, (Value.slice Au l.length cu).ownBlock = some q → lo ≤ q ∧ q < hi from fun q hq => ⟨(hou.row.lt q hq).1, hub q hq⟩)
      have HK := hide (mark_c Au l.length cu lo (k + (totLen (rs.take j) : Nat)) l wr hou (by omega) (by omega) (by have := hm.out; omega))
      have hset := hide hset
      clear hub
      go_wp2_with fail
      refine HK.out.mono ?_
      rintro e w2 ⟨rfl, ho2, hg2⟩
      have ho3 := hide (hset.out w2 _ ho2 hg2)
      have hkp2 := hide (hkp.out.step hg2 hlu.out)
      have hsm2 := hide (show ∀ q, j + 1 ≤ q → (rs'.set j (mrk l (k + (totLen (rs.take j) : Nat)) l.length))[q]? = rs[q]? from fun q hq => by
        rw [List.getElem?_set_ne (by omega)]
        exact hsm.out q (by omega))
      clear ho2 hg2 hset HK
      go_wp2
      go_roundw
      case rel => exact ⟨j + 1, _, by omega, by go_num, by rw [hst.out]; go_num, ho3, hsm2, hkp2⟩
      case measure => simp [intOf]; omega
    · have he := hide (totLen_all rs (k := j) (by have := hl.out; omega))
      go_wp2
      go_ret
      exact ⟨ret_int (by rw [he.out]), hkp.out⟩
end Go.Proofs.Ytdnnobkkilffbab

namespace Go.Proofs.Ytdnnobkkilffbab
open Go.RowKit

/-- Row by row k, k + 1, ... -/
def markedM (k : Int) : List (List Int) → List (List Int)
  | [] => []
  | l :: r => mrk l k l.length :: markedM (k + (l.length : Nat)) r
theorem markedM_len (k : Int) (rs : List (List Int)) : (markedM k rs).length = rs.length := by
  induction rs generalizing k with
  | nil => rfl
  | cons l r ih => simp only [markedM, List.length_cons]; rw [ih]
theorem markedM_at {k : Int} {rs : List (List Int)} {j : Nat} {l : List Int} (h : rs[j]? = some l) : (markedM k rs)[j]? = some (mrk l (k + (totLen (rs.take j) : Nat)) l.length) := by
  induction rs generalizing k j with
  | nil => simp at h
  | cons y r ih =>
    cases j with
    | zero =>
      simp at h; subst h
      simp [markedM, totLen]
    | succ j =>
      have h1 := ih (k := k + (y.length : Nat)) (j := j) (by simpa using h)
      simp only [markedM, List.getElem?_cons_succ, List.take_succ_cons]
      rw [h1]
      have e : totLen (y :: r.take j) = y.length + totLen (r.take j) := by simp [totLen]
      rw [e]
      congr 2
      omega
theorem markedM_totLen (k : Int) (rs : List (List Int)) : totLen (markedM k rs) = totLen rs := by
  induction rs generalizing k with
  | nil => rfl
  | cons l r ih =>
    have h := ih (k + (l.length : Nat))
    unfold totLen at h ⊢
    simp only [markedM, List.map_cons, List.sum_cons]
    rw [h, mrk_len _ _ _ (Nat.le_refl _)]

theorem markIntSS2_c (A : Option Addr) (n c lo hi : Nat) (k : Int) (rs : List (List Int)) (w : World) (h : OwnM w lo hi (.slice A n c) rs) (h0 : 0 ≤ k) (h1 : k ≤ 100000000) (hn : n ≤ 1048576) (ht : totLen rs ≤ 1048576) :
    Calls Try.prog 30 #[.slice A n c, .int .i64 k] w fun e w' => e = .returned (.int .i64 (k + (totLen rs : Nat))) ∧ OwnM w' lo hi (.slice A n c) (markedM k rs) ∧ KeepM w w' lo hi := by
  have hl := hide h.len
  have hML := hide (markedM_len k rs)
  go_enter Try.func30, Try.ntmps30
  go_wp2
  go_loopw [1, 5] (fun t i wr => ∃ j : Nat, ∃ rs', j ≤ n ∧ i = .int .i64 j ∧ t = .int .i64 (k + (totLen (rs.take j) : Nat)) ∧ Hid (OwnM wr lo hi (.slice A n c) rs') ∧ Hid (∀ q, j ≤ q → rs'[q]? = rs[q]?) ∧ Hid (∀ q, q < j → rs'[q]? = (markedM k rs)[q]?) ∧ Hid (KeepM w wr lo hi)) (fun _ i _ => n - (intOf i).toNat)
  case atStart => exact ⟨0, rs, Nat.zero_le _, rfl, by rw [totLen_zero]; simp, h, fun _ _ => rfl, fun _ h => absurd h (by omega), KeepM.refl _ _ _⟩
  case round =>
    clear h
    obtain ⟨j, rs', hj, rfl, rfl, ho, hsm, hdn, hkp⟩ := hrel
    have hle : totLen (rs.take j) ≤ totLen rs := by
      have e := List.take_append_drop j rs
      have := totLen_append (rs.take j) (rs.drop j)
      rw [e] at this
      omega
    by_cases hlt : j < n
    · obtain ⟨l, hx⟩ : ∃ l, Hid (rs[j]? = some l) := ⟨_, hide (List.getElem?_eq_getElem (by have := hl.out; omega))⟩
      obtain ⟨g, c1, u, hv, hg, hcell, hfr, hou, hub, hset⟩ := ho.out.at_ ((hsm.out j (Nat.le_refl _)).trans hx.out)
      injection hv with e1 e2 e3
      subst e1
      clear e2 e3
      obtain ⟨Au, cu, rfl⟩ := hou.slice
      have hst := hide (totLen_step hx.out)
      have hm := hide (totLen_mem (List.mem_of_getElem? hx.out))
      have hlu := hide (show ∀ q, (Value.slice Au l.length cu).ownBlock = some q → lo ≤ q ∧ q < hi from fun q hq => ⟨(hou.row.lt q hq).1, hub q hq⟩)
      have HK := hide (mark_c Au l.length cu lo (k + (totLen (rs.take j) : Nat)) l wr hou (by omega) (by omega) (by have := hm.out; omega))
      have hset := hide hset
      have hma := hide (markedM_at (k := k) hx.out)
      clear hub
      go_wp2_with fail
      refine HK.out.mono ?_
      rintro e w2 ⟨rfl, ho2, hg2⟩
      have ho3 := hide (hset.out w2 _ ho2 hg2)
      have hkp2 := hide (hkp.out.step hg2 hlu.out)
      have hsm2 := hide (show ∀ q, j + 1 ≤ q → (rs'.set j (mrk l (k + (totLen (rs.take j) : Nat)) l.length))[q]? = rs[q]? from fun q hq => by
        rw [List.getElem?_set_ne (by omega)]
        exact hsm.out q (by omega))
      have hdn2 := hide (show ∀ q, q < j + 1 → (rs'.set j (mrk l (k + (totLen (rs.take j) : Nat)) l.length))[q]? = (markedM k rs)[q]? from fun q hq => by
        by_cases e : j = q
        · subst e
          have hlen : j < rs'.length := (List.getElem?_eq_some_iff.1 ((hsm.out j (Nat.le_refl _)).trans hx.out)).1
          rw [List.getElem?_set_self hlen, hma.out]
        · rw [List.getElem?_set_ne e]
          exact hdn.out q (by omega))
      clear ho2 hg2 hset HK
      go_wp2
      go_roundw
      case rel => exact ⟨j + 1, _, by omega, by go_num, by rw [hst.out]; go_num, ho3, hsm2, hdn2, hkp2⟩
      case measure => simp [intOf]; omega
    · have he := hide (totLen_all rs (k := j) (by have := hl.out; omega))
      have hrs := hide (show rs' = markedM k rs from List.ext_getElem? fun q => by
        rcases Nat.lt_or_ge q j with hq | hq
        · exact hdn.out q hq
        · rw [hsm.out q hq, List.getElem?_eq_none (by have := hl.out; omega), List.getElem?_eq_none (by have := hl.out; have := hML.out; omega)])
      go_wp2
      go_ret
      exact ⟨ret_int (by rw [he.out]), by rw [← hrs.out]; exact ho.out, hkp.out⟩

theorem heldIntSS_c (A : Option Addr) (n c B : Nat) (k : Int) (rs : List (List Int)) (w : World) (h : Mat w B A n c (markedM k rs)) (h0 : 0 ≤ k) (h1 : k ≤ 100000000) (ht : totLen rs ≤ 1048576) :
    Calls Try.prog 31 #[.slice A n c, .int .i64 k] w fun e w' => e = .returned (.int .i64 (k + (totLen rs : Nat))) ∧ w = w' := by
  have hl := hide (show rs.length = n by rw [← h.len, markedM_len])
  have hnb := h.nb
  go_enter Try.func31, Try.ntmps31
  go_wp2
  go_loop [1, 5] (fun t i => ∃ j : Nat, j ≤ n ∧ i = .int .i64 j ∧ t = .int .i64 (k + (totLen (rs.take j) : Nat))) (fun _ i => n - (intOf i).toNat)
  case atStart => exact ⟨0, Nat.zero_le _, rfl, by rw [totLen_zero]; simp⟩
  case round =>
    obtain ⟨j, hj, rfl, rfl⟩ := hrel
    have hle : totLen (rs.take j) ≤ totLen rs := by
      have e := List.take_append_drop j rs
      have := totLen_append (rs.take j) (rs.drop j)
      rw [e] at this
      omega
    by_cases hlt : j < n
    · obtain ⟨l, hx⟩ : ∃ l, Hid (rs[j]? = some l) := ⟨_, hide (List.getElem?_eq_getElem (by have := hl.out; omega))⟩
      obtain ⟨b, off, m, A', n', c', hA, hb, hm0, hcell, hrow⟩ := h.look hlt
      subst hA
      obtain rfl : m = mrk l (k + (totLen (rs.take j) : Nat)) l.length := by
        have e := hm0.out
        rw [markedM_at hx.out] at e
        injection e with e
        exact e.symm
      have hln := hide (show l.length = n' by rw [← hrow.out.len, mrk_len _ _ _ (Nat.le_refl _)])
      have hst := hide (totLen_step hx.out)
      have hm := hide (totLen_mem (List.mem_of_getElem? hx.out))
      have hle2 : totLen (rs.take (j + 1)) ≤ totLen rs := by
        have e := List.take_append_drop (j + 1) rs
        have := totLen_append (rs.take (j + 1)) (rs.drop (j + 1))
        rw [e] at this
        omega
      have hrow2 := hide (show Ints w B A' n' c' (mrk l (k + (totLen (rs.take j) : Nat)) n') from by have := hrow.out; rw [hln.out] at this; exact this)
      have HK := hide (heldIntS_c A' n' c' B (k + (totLen (rs.take j) : Nat)) l w hrow2.out hln.out.symm (by omega) (by omega) (by have := hm.out; have := hln.out; omega))
      have hn' : n' ≤ 1048576 := by have := hm.out; have := hln.out; omega
      rw [hln.out] at hst
      clear hrow hrow2
      go_wp2_with fail
      refine HK.out.mono ?_
      rintro e w2 ⟨rfl, rfl⟩
      have hpos : ¬ (k + (totLen (rs.take j) : Nat) + (n' : Int) < 0) := by omega
      clear HK
      go_wp2
      go_round
      case rel => exact ⟨j + 1, by omega, by go_num, by rw [hst.out]; go_num⟩
      case measure => simp [intOf]; omega
    · have he := hide (totLen_all rs (k := j) (by have := hl.out; omega))
      go_wp2
      go_ret
      exact ⟨ret_int (by rw [he.out]), rfl⟩
end Go.Proofs.Ytdnnobkkilffbab
