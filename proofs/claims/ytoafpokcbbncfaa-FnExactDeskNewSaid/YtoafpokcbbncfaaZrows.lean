/-
  Words, plain lemmas and contracts that belong together, joined into one file.
-/
import Derived.Test.YtoafpokcbbncfaaZpl
import Derived.Test.YtoafpokcbbncfaaZdraw
import Derived.Deep.AppendLies
namespace Go.Proofs.Ytoafpokcbbncfaa
open Go.RowKit

/-- The slice '.slice A n c' holds rows of ints; all its cells lie in blocks from lo on. -/
structure MatL (w : World) (lo : Nat) (A : Option Addr) (n c : Nat) (rs : List (List Int)) : Prop where
  len : rs.length = n
  le : n ≤ c
  big : c ≤ maxLen
  cells : 0 < n → ∃ b off, A = some ⟨b, off, none⟩ ∧ lo ≤ b ∧ b < w.heap.size ∧ ∀ (j : Nat) l, rs[j]? = some l → ∃ A' n' c', w.cell? ⟨b, off + j, none⟩ = some (.slice A' n' c') ∧ Ints w w.heap.size A' n' c' l ∧ (0 < n' → ∃ b' off', A' = some ⟨b', off', none⟩ ∧ lo ≤ b')
  nil0 : A = none → c = 0

section
variable {w w' : World} {lo hi n c k g : Nat} {A : Option Addr} {v u : Value} {rs : List (List Int)} {l : List Int}
theorem MatL.mat (h : MatL w lo A n c rs) : Mat w w.heap.size A n c rs := ⟨h.len, h.le, h.big, fun hn => by
  obtain ⟨b, off, e, _, hb, hc⟩ := h.cells hn
  refine ⟨b, off, e, hb, fun j l hl => ?_⟩
  obtain ⟨A', n', c', h1, h2, _⟩ := hc j l hl
  exact ⟨A', n', c', h1, h2⟩, h.nil0⟩
theorem Ints.past {zs : List Int} (h : Ints w w.heap.size A n c zs) (hlo : 0 < n → ∃ b' off', A = some ⟨b', off', none⟩ ∧ lo ≤ b') (hg : w.grownBy w' (some g)) (hlt : g < lo) : Ints w' w'.heap.size A n c zs :=
  ⟨h.len, h.le, h.big, fun hn => by
    obtain ⟨b, off, e, hb, hc⟩ := h.cells hn
    obtain ⟨b', off', e', hlb⟩ := hlo hn
    rw [e] at e'
    injection e' with e'
    injection e' with e1 e2
    subst e1; subst e2
    refine ⟨b, off, e, Nat.lt_of_lt_of_le hb hg.size, fun j x hx => ?_⟩
    rw [World.cell?_of_block (hg.block b hb (fun e => by injection e with e; omega))]
    exact hc j x hx, h.wf, h.nil0⟩
theorem MatL.past (h : MatL w lo A n c rs) (hg : w.grownBy w' (some g)) (hlt : g < lo) : MatL w' lo A n c rs :=
  ⟨h.len, h.le, h.big, fun hn => by
    obtain ⟨b, off, e, hlb, hb, hc⟩ := h.cells hn
    refine ⟨b, off, e, hlb, Nat.lt_of_lt_of_le hb hg.size, fun j l hl => ?_⟩
    obtain ⟨A', n', c', h1, h2, h3⟩ := hc j l hl
    refine ⟨A', n', c', ?_, h2.past h3 hg hlt, h3⟩
    rw [World.cell?_of_block (hg.block b hb (fun e => by injection e with e; omega))]
    exact h1, h.nil0⟩
theorem MatL.down {lo' : Nat} (h : MatL w lo A n c rs) (hl : lo' ≤ lo) : MatL w lo' A n c rs :=
  ⟨h.len, h.le, h.big, fun hn => by
    obtain ⟨b, off, e, hlb, hb, hc⟩ := h.cells hn
    refine ⟨b, off, e, by omega, hb, fun j l hl => ?_⟩
    obtain ⟨A', n', c', h1, h2, h3⟩ := hc j l hl
    exact ⟨A', n', c', h1, h2, fun hn => by obtain ⟨b', off', e', h4⟩ := h3 hn; exact ⟨b', off', e', by omega⟩⟩, h.nil0⟩
theorem OwnM.matL (h : OwnM w lo hi (.slice A n c) rs) : MatL w lo A n c rs := by
  have hM := h.mat
  refine ⟨hM.len, hM.le, hM.big, fun hn => ?_, hM.nil0⟩
  obtain ⟨b, off, e, hb, hc⟩ := hM.cells hn
  have hlen := h.len
  refine ⟨b, off, e, ?_, hb, fun j l hl => ?_⟩
  · rcases h.shape with ⟨hv, _⟩ | ⟨g, c', hv, hg, _⟩
    · injection hv with e1
      rw [e] at e1; cases e1
    · injection hv with e1
      rw [e] at e1
      injection e1 with e1
      injection e1 with e1
      omega
  · obtain ⟨A', n', c', h1, h2⟩ := hc j l hl
    refine ⟨A', n', c', h1, h2, fun hp => ?_⟩
    obtain ⟨g, c2, u, hv, hg, hcell, _, ho, _, _⟩ := h.at_ hl
    injection hv with e1
    rw [e] at e1
    injection e1 with e1
    injection e1 with e1 e2
    subst e1; subst e2
    rw [Nat.zero_add, hcell] at h1
    injection h1 with h1
    subst h1
    rcases ho.shape with ⟨hv2, _⟩ | ⟨g2, c3, hv2, hg2, _⟩
    · injection hv2 with a1 a2
      omega
    · injection hv2 with a1
      exact ⟨g2, 0, a1, hg2⟩
/-- All rows but the first one. -/
theorem MatL.tail (h : MatL w lo (some ⟨g, k, none⟩) n c rs) (hn : 0 < n) : MatL w lo (some ⟨g, k + 1, none⟩) (n - 1) (c - 1) (rs.drop 1) := by
  refine ⟨by rw [List.length_drop, h.len], by have := h.le; omega, by have := h.big; omega, fun hp => ?_, fun e => by cases e⟩
  obtain ⟨b, off, e, hlb, hb, hc⟩ := h.cells hn
  injection e with e
  injection e with e1 e2
  subst e1; subst e2
  refine ⟨g, k + 1, rfl, hlb, hb, fun j l hl => ?_⟩
  rw [List.getElem?_drop] at hl
  have := hc (1 + j) l hl
  rw [show k + 1 + j = k + (1 + j) by omega]
  exact this
theorem MatL.empty (hc : c ≤ maxLen) (h0 : A = none → c = 0) : MatL w lo A 0 c [] := ⟨rfl, Nat.zero_le _, hc, fun h => absurd h (by omega), h0⟩
/-- A change of a row that the call owns besides the others. -/
theorem OwnM.beside (h : OwnM w lo hi v rs) (hu : Own w hi u l) (hg : w.grownBy w' u.ownBlock) : OwnM w' lo hi v rs := by
  obtain ⟨vs, h1, h2, h3⟩ := h.ex
  have hne := own_ne h1 hu
  refine ⟨vs, h1.kept hg ?_, fun k x m hx hm => ⟨(h2 k x m hx hm).1.kept hg ?_, (h2 k x m hx hm).2⟩, h3⟩
  · rcases hne with e | e
    · rw [e]; cases v.ownBlock <;> simp
    · exact .inr fun e' => e e'.symm
  · cases hk : x.ownBlock with
    | none => exact .inl rfl
    | some j =>
      refine .inr fun e => ?_
      have a := (h2 k x m hx hm).2 j hk
      have b := (hu.row.lt j e.symm).1
      omega
theorem OwnM.lt (h : OwnM w lo hi v rs) : ∀ k, v.ownBlock = some k → lo ≤ k ∧ k < w.heap.size := by
  obtain ⟨vs, h1, _⟩ := h.ex
  exact h1.lt
theorem grown_set (w : World) (g j : Nat) (y : Value) : w.grownBy (w.setCell ⟨g, j, none⟩ y) (some g) := ⟨rfl, rfl, rfl, by simp, fun q _ hq => heap_setCell_other w ⟨g, j, none⟩ q _ (fun e => hq (by simp [e]))⟩
end

theorem cell_new {w : World} {b : Nat} {x : Value} {t : TypeId} (hb : b = w.heap.size) : (w.alloc (.cells #[x] t)).cell? ⟨b, 0, none⟩ = some x := by
  subst hb
  rw [World.cell?_alloc_at _ _ _ _ rfl]; rfl
theorem ownM_empty' {w : World} {lo hi g : Nat} (hg : g = w.heap.size) (hb : lo ≤ w.heap.size) : OwnM (w.alloc (.cells #[] 22)) lo hi (.slice (some ⟨g, 0, none⟩) 0 0) [] := by
  subst hg
  exact ownM_empty hb
theorem take_succM {rs : List (List Int)} {k : Nat} {l : List Int} (h : rs[k]? = some l) : rs.take (k + 1) = rs.take k ++ [l] := by
  obtain ⟨hk, rfl⟩ := List.getElem?_eq_some_iff.1 h
  exact List.take_succ_eq_append_getElem hk
theorem own_other {g1 g2 n1 n2 c1 c2 : Nat} (h : g1 ≠ g2) : (Value.slice (some ⟨g2, 0, none⟩) n2 c2).ownBlock = none ∨ (Value.slice (some ⟨g2, 0, none⟩) n2 c2).ownBlock ≠ (Value.slice (some ⟨g1, 0, none⟩) n1 c1).ownBlock :=
  .inr fun e => by simp [Value.ownBlock] at e; exact h e.symm
theorem new_other {g1 g2 g3 n c H : Nat} (h : (Value.slice (some ⟨g1, 0, none⟩) n c).ownBlock = some g3 ∨ g3 = H) (hne : g1 ≠ g2) (hlt : g2 < H) : g3 ≠ g2 := by
  rcases h with h | h
  · simp [Value.ownBlock] at h; omega
  · omega
/-- Another slice of slices that the call owns grows. -/
theorem OwnM.kept2 {w w' : World} {lo hi lo' hi' : Nat} {v v' : Value} {rs rs' : List (List Int)} (h : OwnM w lo hi v rs) (hx : OwnM w lo' hi' v' rs') (hd : v.ownBlock = none ∨ v.ownBlock ≠ v'.ownBlock) (hg : w.grownBy w' v'.ownBlock) : OwnM w' lo hi v rs := by
  obtain ⟨vs, h1, h2, h3⟩ := h.ex
  obtain ⟨_, k1, _, _⟩ := hx.ex
  exact ⟨vs, h1.kept hg hd, fun k x m hx hm => ⟨(h2 k x m hx hm).1.kept hg (own_ne k1 (h2 k x m hx hm).1), (h2 k x m hx hm).2⟩, h3⟩
section
variable {P : Program} (w : World)
/-- append of one row, and where the slice lies afterwards. -/
theorem wpList_appM2 {ops : Array Oper} {rest : List Oper} {o : Oper} {a : Act} {Q : Exit → Act → World → Prop} (hgd : o.guard = none) (s x : Operand) (t : TypeId)
    (ho : o.op = .call { callee := .builtin .append, args := #[s, x], argTypes := #[t, t] })
    (i : TypeInfo) (ht : P.underlying t = some (.slice 22)) (hi : P.info? 22 = some i) (hz0 : i.zero = some (.slice none 0 0)) (hz1 : i.size = 1) (hz2 : i.bytes = 24)
    {lo hi' : Nat} (v : Value) (rs : List (List Int)) (hs : a.eval s = v) (hown : OwnM w lo hi' v rs) (u : Value) (l : List Int) (hu : Own w hi' u l) (hlo : lo ≤ hi') (hbase : lo ≤ w.heap.size) (ad : Addr) (c : Nat) (hx : a.eval x = .slice (some ad) 1 c)
    (hcell : w.cell? ad = some u) (n : Nat) (hn : rs.length = n) (hsz : n ≤ 1048576000)
    (h : ∀ g' c' w', OwnM w' lo w'.heap.size (.slice (some ⟨g', 0, none⟩) (n + 1) c') (rs ++ [l]) → w.grownBy w' v.ownBlock → (v.ownBlock = some g' ∨ g' = w.heap.size) → wpList P ops Q rest (a.put o.dst (.slice (some ⟨g', 0, none⟩) (n + 1) c')) w') : wpList P ops Q (o :: rest) a w := by
  subst hn
  obtain ⟨vs, h1, h2, h3⟩ := hown.ex
  obtain ⟨Au, cu, eu⟩ := hu.slice
  refine wpList_append_lies w hgd s x t ho lo 22 i (.slice none 0 0) 1 24 ht hi hz0 hz1 hz2 rfl (by decide) v rs.length vs hs h1 ad 1 c [u] hx rfl (fun j y hy => ?_) (fun y hy => ?_) (by decide) (by unfold maxLen; omega) (by omega) hbase w.heap.size rfl fun g' c' w' hr hg hat hlt => ?_
  · cases j with
    | zero => simp at hy; subst hy; simpa [Addr.add] using hcell
    | succ j => simp at hy
  · simp at hy; subst hy; rw [eu]; rfl
  · exact h g' c' w' (OwnM.pushed h1 h2 h3 hu hlo hr hg) hg hat
end
end Go.Proofs.Ytoafpokcbbncfaa

namespace Go.Proofs.Ytoafpokcbbncfaa
open Go.RowKit

theorem infoRow : (Try.prog.info? 22).map (fun i => (i.zero, i.size, i.bytes)) = some (some (.slice none 0 0), 1, 24) := by kernel_rfl

def sameM (xs ys : List (List Int)) : Bool := decide (xs = ys)
theorem sameM_refl (xs : List (List Int)) : sameM xs xs = true := decide_eq_true rfl
theorem sameM_len {xs ys : List (List Int)} (h : xs.length ≠ ys.length) : sameM xs ys = false := decide_eq_false (fun e => h (by rw [e]))
theorem sameM_bad {xs ys : List (List Int)} {k : Nat} {x y : List Int} (hx : xs[k]? = some x) (hy : ys[k]? = some y) (h : sameL x y = false) : sameM xs ys = false :=
  decide_eq_false (fun e => by
    subst e; rw [hx] at hy; injection hy with hy
    exact (of_decide_eq_false h) hy)
theorem sameM_good {xs ys : List (List Int)} (hl : xs.length = ys.length) (h : ∀ j, j < xs.length → xs[j]? = ys[j]?) : sameM xs ys = true :=
  decide_eq_true (List.ext_getElem? fun j => by
    rcases Nat.lt_or_ge j xs.length with hj | hj
    · exact h j hj
    · rw [List.getElem?_eq_none hj, List.getElem?_eq_none (by omega)])

theorem szIntS_c (A : Option Addr) (n c B : Nat) (zs : List Int) (t : Int) (w : World) (h : Ints w B A n c zs) (h0 : 0 ≤ t) (h1 : t ≤ 1048576) :
    Calls Try.prog 13 #[.slice A n c, .int .i64 t] w fun e w' => (∃ x : Int, e = .returned (.int .i64 x) ∧ x ≤ 1048576 ∧ -1 ≤ x ∧ (0 ≤ x → x = t - (n : Int))) ∧ w = w' := by
  have hn := h.nb
  by_cases hlt : t - (n : Int) < 0
  · go_enter Try.func13, Try.ntmps13
    go_wp2
    go_ret
    exact ⟨⟨-1, rfl, by omega, by omega, fun h => absurd h (by omega)⟩, rfl⟩
  · go_enter Try.func13, Try.ntmps13
    go_wp2
    go_ret
    exact ⟨⟨t - (n : Int), rfl, by omega, by omega, fun _ => rfl⟩, rfl⟩

/-- How many numbers all rows have together. -/
def totLen (rs : List (List Int)) : Nat := (rs.map List.length).sum
theorem totLen_step {rs : List (List Int)} {k : Nat} {l : List Int} (h : rs[k]? = some l) : totLen (rs.take (k + 1)) = totLen (rs.take k) + l.length := by
  obtain ⟨hk, rfl⟩ := List.getElem?_eq_some_iff.1 h
  unfold totLen
  rw [List.take_succ_eq_append_getElem hk, List.map_append, List.sum_append]
  simp only [List.map_cons, List.map_nil, List.sum_cons, List.sum_nil, Nat.add_zero]
theorem totLen_append (a b : List (List Int)) : totLen (a ++ b) = totLen a + totLen b := by simp [totLen]
theorem totLen_zero (rs : List (List Int)) : totLen (rs.take 0) = 0 := rfl
theorem totLen_all (rs : List (List Int)) {k : Nat} (h : rs.length ≤ k) : totLen (rs.take k) = totLen rs := by rw [List.take_of_length_le h]
theorem totLen_mem {rs : List (List Int)} {l : List Int} (h : l ∈ rs) : l.length ≤ totLen rs := by
  induction rs with
  | nil => cases h
  | cons r q ih =>
    have e : totLen (r :: q) = r.length + totLen q := by simp [totLen]
    rw [e]
    rcases List.mem_cons.1 h with h | h
    · subst h; omega
    · have := ih h; omega
theorem totLen_set {rs : List (List Int)} {k : Nat} {l l' : List Int} (h : rs[k]? = some l) (hl : l'.length = l.length) : totLen (rs.set k l') = totLen rs := by
  have e : (rs.set k l').map List.length = rs.map List.length := by
    apply List.ext_getElem?
    intro j
    rw [List.getElem?_map, List.getElem?_map]
    by_cases hjk : k = j
    · subst hjk
      rw [List.getElem?_set_self (List.getElem?_eq_some_iff.1 h).1, h]; simp [hl]
    · rw [List.getElem?_set_ne hjk]
  unfold totLen
  rw [e]

/-- The first k rows, and nil for the others. -/
def cpyM (rs : List (List Int)) (k : Nat) : List (List Int) := rs.take k ++ List.replicate (rs.length - k) []
theorem cpyM_zero (rs : List (List Int)) : cpyM rs 0 = List.replicate rs.length [] := by simp [cpyM]
theorem cpyM_all (rs : List (List Int)) : cpyM rs rs.length = rs := by simp [cpyM]
theorem cpyM_len (rs : List (List Int)) (k : Nat) : (cpyM rs k).length = rs.length := by
  simp [cpyM]; omega
theorem cpyM_set (rs : List (List Int)) (k : Nat) (x : List Int) (h : rs[k]? = some x) : (cpyM rs k).set k x = cpyM rs (k + 1) := by
  obtain ⟨hk, rfl⟩ := List.getElem?_eq_some_iff.1 h
  apply List.ext_getElem
  · simp [cpyM]; omega
  · intro j h1 h2
    rw [List.getElem_set]
    split
    · subst_vars; simp [cpyM, List.getElem_append]; omega
    · simp only [cpyM, List.getElem_append, List.length_take, List.getElem_take, List.getElem_replicate]
      split <;> split <;> first | rfl | omega

/-- What a change of the rows that lie in the blocks from lo on and below hi leaves as it was. -/
def KeepM (w w' : World) (lo hi : Nat) : Prop :=
  (∀ (b : Nat) (v : Value) (zs : List Int), Own w b v zs → (∀ k, v.ownBlock = some k → k < lo ∨ hi ≤ k) → Own w' b v zs) ∧ (∀ (B : Nat) (a : World), B ≤ lo → B ≤ w.heap.size → Below B a w → Below B a w') ∧ w.heap.size ≤ w'.heap.size
theorem KeepM.refl (w : World) (lo hi : Nat) : KeepM w w lo hi := ⟨fun _ _ _ h _ => h, fun _ _ _ _ h => h, Nat.le_refl _⟩
theorem KeepM.step {w w1 w2 : World} {lo hi : Nat} {u : Value} (h : KeepM w w1 lo hi) (hg : w1.grownBy w2 u.ownBlock) (hu : ∀ k, u.ownBlock = some k → lo ≤ k ∧ k < hi) : KeepM w w2 lo hi :=
  ⟨fun b v zs ho hv => (h.1 b v zs ho hv).kept hg (by
    cases hk : v.ownBlock with
    | none => exact .inl rfl
    | some j =>
      refine .inr fun e => ?_
      have a := hv j hk
      have b := hu j e.symm
      omega), fun B a hB hs hb => (h.2.1 B a hB hs hb).grown hg (Nat.le_trans hs h.2.2) (fun k hk => by have := hu k hk; omega), Nat.le_trans h.2.2 hg.size⟩

end Go.Proofs.Ytoafpokcbbncfaa
