/-
  Words, plain lemmas and contracts that belong together, joined into one file.
-/
import Derived.Test.YtpkbmmepapgogaaGreatDoorZmk
import Derived.Test.YtpkbmmepapgogaaGreatDoorZdk
import Derived.Test.YtpkbmmepapgogaaGreatDoorZdsk
import Derived.Test.YtpkbmmepapgogaaGreatDoorZpx
import Derived.Test.YtpkbmmepapgogaaGreatDoorZdsl
namespace Go.Proofs.YtpkbmmepapgogaaGreatDoor
open Go.RowKit
set_option linter.unusedVariables false

def mrkP (p : Plc) (k : Int) : Plc := ⟨mrk p.start k p.start.length, p.step, mrk p.word (k + (p.start.length : Int)) p.word.length⟩
def endP (p : Plc) (k : Int) : Int := k + (p.start.length : Int) + (p.word.length : Int)
def mrkQ (p : Plc) (k : Int) : Plc := ⟨mrk p.start k p.start.length, k + (p.start.length : Int), mrk p.word (k + (p.start.length : Int) + 1) p.word.length⟩
def endQ (p : Plc) (k : Int) : Int := k + (p.start.length : Int) + 1 + (p.word.length : Int)
def mrkL : Int → List Plc → List Plc
  | _, [] => []
  | k, p :: r => mrkQ p k :: mrkL (endQ p k) r
def endMk : Int → List Plc → Int
  | k, [] => k
  | k, p :: r => endMk (endQ p k) r
def mrkT : Int → List Trp → List Trp
  | _, [] => []
  | k, t :: r => (t.1, t.2.1, mrkQ t.2.2 k) :: mrkT (endQ t.2.2 k) r
def mrkDk (d : Dsk) (k : Int) : Dsk := ⟨mrkP d.now k, mrkL (endP d.now k) d.past⟩
def endDk (d : Dsk) (k : Int) : Int := endMk (endP d.now k) d.past
theorem mrkT_len (k : Int) (ts : List Trp) : (mrkT k ts).length = ts.length := by
  induction ts generalizing k with
  | nil => rfl
  | cons t r ih => show (mrkT _ r).length + 1 = _; rw [ih]; rfl
theorem mrkL_len (k : Int) (ps : List Plc) : (mrkL k ps).length = ps.length := by
  induction ps generalizing k with
  | nil => rfl
  | cons t r ih => show (mrkL _ r).length + 1 = _; rw [ih]; rfl
theorem plcs_mrkT (k : Int) (ts : List Trp) : plcs (mrkT k ts) = mrkL k (plcs ts) := by
  induction ts generalizing k with
  | nil => rfl
  | cons t r ih => show mrkQ t.2.2 k :: plcs (mrkT _ r) = _; rw [ih]; rfl
theorem endMk_append (k : Int) (a b : List Plc) : endMk k (a ++ b) = endMk (endMk k a) b := by
  induction a generalizing k with
  | nil => rfl
  | cons p r ih => exact ih _
theorem endMk_take {k : Int} {ps : List Plc} {j : Nat} {p : Plc} (h : ps[j]? = some p) : endMk k (ps.take (j + 1)) = endQ p (endMk k (ps.take j)) := by
  rw [List.take_add_one, h, endMk_append]; rfl
theorem mrkT_append (k : Int) (a b : List Trp) : mrkT k (a ++ b) = mrkT k a ++ mrkT (endMk k (plcs a)) b := by
  induction a generalizing k with
  | nil => rfl
  | cons p r ih => show _ :: mrkT _ (r ++ b) = _; rw [ih]; rfl
theorem mrkL_at {k : Int} {ps : List Plc} {j : Nat} {p : Plc} (h : ps[j]? = some p) : (mrkL k ps)[j]? = some (mrkQ p (endMk k (ps.take j))) := by
  induction ps generalizing k j with
  | nil => simp at h
  | cons q r ih =>
    cases j with
    | zero => simp at h; subst h; rfl
    | succ j => exact ih (k := endQ q k) (j := j) (by simpa using h)
def mixT (k : Int) (ts : List Trp) (j : Nat) : List Trp := mrkT k (ts.take j) ++ ts.drop j
theorem mixT_zero (k : Int) (ts : List Trp) : mixT k ts 0 = ts := by simp [mixT, mrkT]
theorem mixT_all (k : Int) (ts : List Trp) : mixT k ts ts.length = mrkT k ts := by simp [mixT]
theorem mixT_at {k : Int} {ts : List Trp} {j : Nat} {t : Trp} (h : ts[j]? = some t) : (mixT k ts j)[j]? = some t := by
  have hj := (List.getElem?_eq_some_iff.1 h).1
  unfold mixT
  rw [List.getElem?_append_right (by rw [mrkT_len, List.length_take]; omega), mrkT_len, List.length_take, show j - min j ts.length = 0 by omega, List.getElem?_drop]
  exact h
theorem mixT_set {k : Int} {ts : List Trp} {j : Nat} {t : Trp} (h : ts[j]? = some t) : (mixT k ts j).set j (t.1, t.2.1, mrkQ t.2.2 (endMk k (plcs (ts.take j)))) = mixT k ts (j + 1) := by
  have hj := (List.getElem?_eq_some_iff.1 h).1
  have e := (List.getElem?_eq_some_iff.1 h).2
  unfold mixT
  rw [List.set_append_right j _ (by rw [mrkT_len, List.length_take]; omega), mrkT_len, List.length_take, show j - min j ts.length = 0 by omega]
  rw [List.take_add_one, h, mrkT_append]
  have hd := List.drop_eq_getElem_cons hj
  rw [e] at hd
  rw [hd]
  simp [mrkT]
theorem endMk_le {k : Int} {ps : List Plc} (hs : ∀ p ∈ ps, smallP p) : k ≤ endMk k ps ∧ endMk k ps ≤ k + (ps.length : Int) * 2097153 := by
  induction ps generalizing k with
  | nil => exact ⟨Int.le_refl _, by show k ≤ _; simp⟩
  | cons p r ih =>
    obtain ⟨h1, h2⟩ := ih (k := endQ p k) (fun q hq => hs q (List.mem_cons_of_mem _ hq))
    obtain ⟨g1, g2⟩ := hs p List.mem_cons_self
    have e : endMk k (p :: r) = endMk (endQ p k) r := rfl
    rw [e]
    unfold endQ at h1 h2 ⊢
    rw [List.length_cons]
    constructor
    · omega
    · have : ((r.length + 1 : Nat) : Int) * 2097153 = (r.length : Int) * 2097153 + 2097153 := by omega
      omega
section
variable {w w' w1 : World} {lo hi b n c j : Nat} {A : Option Addr} {v : Value} {t t0 : Trp} {ts : List Trp} {d : Dsk} {zs : List Int} {xs : List Value} {q : Plc}
/-- A desk that the call owns, in blocks below hi. -/
structure DkH (w : World) (lo hi : Nat) (v : Value) (d : Dsk) : Prop where
  ex : ∃ (t : Trp) (ts : List Trp) (A : Option Addr) (n c : Nat), v = .agg #[t.1, .int .i64 t.2.2.step, t.2.1, .slice A n c] ∧ t.2.2 = d.now ∧ plcs ts = d.past ∧ n = ts.length ∧ SlO w lo A n c (cellsT ts) ∧ RowsT w lo (t :: ts) ∧ (∀ g, (Value.slice A n c).ownBlock = some g → g < hi) ∧ ∀ s ∈ t :: ts, ∀ g, (s.1.ownBlock = some g → g < hi) ∧ (s.2.1.ownBlock = some g → g < hi)
theorem DkR.toH (h : DkR w lo v d) : DkH w lo w.heap.size v d := by
  obtain ⟨t, ts, A, n, c, e, h1, h2, h3, h4, h5⟩ := h.ex
  exact ⟨t, ts, A, n, c, e, h1, h2, h3, h4, h5, fun g hg => (h4.lt g hg).2.1, fun s hs g => ⟨fun hg => ((h5.one s hs).s.row.lt g hg).2, fun hg => ((h5.one s hs).d.row.lt g hg).2⟩⟩
theorem DkH.toR (h : DkH w lo hi v d) : DkR w lo v d := by
  obtain ⟨t, ts, A, n, c, e, h1, h2, h3, h4, h5, _⟩ := h.ex
  exact ⟨t, ts, A, n, c, e, h1, h2, h3, h4, h5⟩
theorem DkH.up (h : DkH w lo hi v d) (hq : Below w.heap.size w w') : DkH w' lo hi v d := by
  obtain ⟨t, ts, A, n, c, e, h1, h2, h3, h4, h5, h6, h7⟩ := h.ex
  exact ⟨t, ts, A, n, c, e, h1, h2, h3, h4.up hq, h5.up hq, h6, h7⟩
theorem SlO.only {lo' hi' : Nat} (ho : SlO w lo A n c xs) (h : Only w w' lo' hi') (hv : ∀ k, (Value.slice A n c).ownBlock = some k → k < lo' ∨ hi' ≤ k) : SlO w' lo A n c xs := ho.same fun k hk => h.block k (ho.lt k hk).2.1 (hv k hk)
theorem OneT.only {lo' hi' : Nat} (ho : OneT w lo t) (h : Only w w' lo' hi') (hv : ∀ g, (t.1.ownBlock = some g → g < lo' ∨ hi' ≤ g) ∧ (t.2.1.ownBlock = some g → g < lo' ∨ hi' ≤ g)) : OneT w' lo t := ⟨h.own ho.s (fun k => (hv k).1), h.own ho.d (fun k => (hv k).2), ho.ne, ho.wf⟩
/-- Marks elsewhere leave a desk as it is. -/
theorem DkH.only {lo' hi' : Nat} (h : DkH w lo hi v d) (hO : Only w w' lo' hi') (hv : hi ≤ lo' ∨ hi' ≤ lo) : DkH w' lo hi v d := by
  obtain ⟨t, ts, A, n, c, e, h1, h2, h3, h4, h5, h6, h7⟩ := h.ex
  refine ⟨t, ts, A, n, c, e, h1, h2, h3, h4.only hO (fun k hk => ?_), ⟨fun s hs => (h5.one s hs).only hO (fun g => ⟨fun hg => ?_, fun hg => ?_⟩), h5.two⟩, h6, h7⟩
  · have := h6 k hk; have := (h4.lt k hk).1; omega
  · have := (h7 s hs g).1 hg; have := ((h5.one s hs).s.row.lt g hg).1; omega
  · have := (h7 s hs g).2 hg; have := ((h5.one s hs).d.row.lt g hg).1; omega
theorem slO_ne (ho : SlO w lo A n c xs) (h : Own w b v zs) : ∀ k, v.ownBlock = some k → (Value.slice A n c).ownBlock ≠ some k := fun k hk hk2 => by
  obtain ⟨_, _, cur, hh⟩ := ho.lt k hk2
  rcases h.row.2 with ⟨rfl, _⟩ | ⟨g, cap, cur2, rfl, _, hh2, _⟩
  · cases hk
  · simp [Value.ownBlock] at hk
    subst hk
    rw [hh] at hh2
    injection hh2 with e
    injection e with e1 e2
    exact absurd e2 (by decide)
/-- One place's rows are written anew. -/
theorem RowsT.anew (hr : RowsT w lo ts) (hj : ts[j]? = some t) (hk : ∀ u zs, Own w lo u zs → Ap u t.1 → Ap u t.2.1 → Own w' lo u zs) (hs : Own w' lo t.1 q.start) (hd : Own w' lo t.2.1 q.word) (hq : (Lit.int .i64 q.step).wf = true) : RowsT w' lo (ts.set j (t.1, t.2.1, q)) := by
  have hjl := (List.getElem?_eq_some_iff.1 hj).1
  have he := (List.getElem?_eq_some_iff.1 hj).2
  have hp := List.pairwise_iff_getElem.1 hr.two
  have hap : ∀ (i : Nat) (hi : i < ts.length), i ≠ j → ApT ts[i] t := fun i hi hne => by
    rw [← he]
    rcases Nat.lt_or_gt_of_ne hne with h | h
    · exact hp i j hi hjl h
    · exact (hp j i hjl hi h).symm
  constructor
  · intro s hs'
    obtain ⟨i, hi, rfl⟩ := List.getElem_of_mem hs'
    rw [List.length_set] at hi
    rw [List.getElem_set]
    split
    · exact ⟨hs, hd, (hr.one t (List.mem_of_getElem? hj)).ne, hq⟩
    · rename_i hne
      have ha := hap i hi (fun e => hne e.symm)
      have ho := hr.one _ (List.getElem_mem hi)
      exact ⟨hk _ _ ho.s ha.1 ha.2.1, hk _ _ ho.d ha.2.2.1 ha.2.2.2, ho.ne, ho.wf⟩
  · rw [List.pairwise_iff_getElem]
    intro i k hi hk' hik
    rw [List.length_set] at hi hk'
    rw [List.getElem_set, List.getElem_set]
    by_cases h1 : j = i
    · rw [if_pos h1, if_neg (by omega)]
      have ha := (hap k hk' (by omega)).symm
      exact ha
    · rw [if_neg h1]
      by_cases h2 : j = k
      · rw [if_pos h2]
        exact hap i hi (by omega)
      · rw [if_neg h2]
        exact hp i k hi hk' hik
theorem PTag.ofSl {g off : Nat} (ho : SlO w lo (some ⟨g, off, none⟩) n c xs) : PTag w g := by
  obtain ⟨_, _, cur, hh⟩ := ho.lt g rfl
  exact ⟨cur, hh⟩
end
set_option maxRecDepth 100000 in
set_option maxHeartbeats 3200000 in
theorem markPlaceS_c (A : Option Addr) (n c lo hi : Nat) (k : Int) (t0 : Trp) (ts : List Trp) (w : World) (hsl : SlO w lo A n c (cellsT ts)) (hr : RowsT w lo (t0 :: ts)) (hn : n = ts.length) (hbA : ∀ g, (Value.slice A n c).ownBlock = some g → g < hi) (hb : ∀ s ∈ ts, ∀ g, (s.1.ownBlock = some g → g < hi) ∧ (s.2.1.ownBlock = some g → g < hi)) (h0 : 0 ≤ k) (hk : k ≤ 100000000000000) (hsm : ∀ s ∈ ts, smallP s.2.2) (hn1 : n ≤ 1048576) :
    Calls Tryz.prog 45 #[.slice A n c, .int .i64 k] w fun e w' => e = .returned (.int .i64 (endMk k (plcs ts))) ∧ SlO w' lo A n c (cellsT (mrkT k ts)) ∧ RowsT w' lo (t0 :: mrkT k ts) ∧ Only w w' lo hi := by
  have hbA := hide hbA
  have hb := hide hb
  have hsm := hide hsm
  have hnl := hide hn
  clear hn
  go_enter Tryz.func45, Tryz.ntmps45
  go_wp2_with fail
  go_loopw [1, 5] (fun q i wr => ∃ j : Nat, j ≤ n ∧ i = .int .i64 j ∧ q = .int .i64 (endMk k (plcs (ts.take j))) ∧ Hid (SlO wr lo A n c (cellsT (mixT k ts j))) ∧ Hid (RowsT wr lo (t0 :: mixT k ts j)) ∧ Hid (Only w wr lo hi)) (fun _ i _ => n - (intOf i).toNat)
  case atStart => exact ⟨0, Nat.zero_le _, rfl, rfl, hide (by rw [mixT_zero]; exact hsl), hide (by rw [mixT_zero]; exact hr), hide (Only.refl _ _ _)⟩
  case round =>
    clear hsl hr
    obtain ⟨j, hj, rfl, rfl, hsl, hr, hO⟩ := hrel
    by_cases hlt : j < n
    · have hjl : j < ts.length := by have := hnl.out; omega
      obtain ⟨t, ht⟩ : ∃ t, ts[j]? = some t := ⟨_, List.getElem?_eq_getElem hjl⟩
      have htp : (plcs ts)[j]? = some t.2.2 := by unfold plcs; rw [List.getElem?_map, ht]; rfl
      have hst := mixT_set (k := k) ht
      have hen := endMk_take (k := k) htp
      have hat := mixT_at (k := k) ht
      have hmem := List.mem_of_getElem? ht
      have hbt := hb.out t hmem
      have hsmt := hsm.out t hmem
      have hle := endMk_le (k := k) (ps := plcs (ts.take j)) (fun p hp => by
        unfold plcs at hp
        obtain ⟨s, hs, rfl⟩ := List.mem_map.1 hp
        exact hsm.out s (List.mem_of_mem_take hs))
      have hpl : (plcs ts).take j = plcs (ts.take j) := by unfold plcs; rw [List.map_take]
      have hpl1 : (plcs ts).take (j + 1) = plcs (ts.take (j + 1)) := by unfold plcs; rw [List.map_take]
      rw [hpl, hpl1] at hen
      rw [plcs_len, List.length_take, Nat.min_eq_left (Nat.le_of_lt hjl)] at hle
      have hno := hr.out.one t (List.mem_cons_of_mem _ (List.mem_of_getElem? hat))
      obtain ⟨K, hK⟩ : ∃ K, Hid (endMk k (plcs (ts.take j)) = K) := ⟨_, hide rfl⟩
      rw [hK.out] at hst hen hle ⊢
      obtain ⟨B1, m1, e1, B2, m2, e2, hsh⟩ := hno.shape
      obtain ⟨ta, tb, p⟩ := t
      simp only [Prod.mk.injEq] at hsh
      obtain ⟨rfl, rfl, _⟩ := hsh
      simp only at hst hen hbt hsmt hno hat
      have hm1 := hide hno.s.len
      have hm2 := hide hno.d.len
      simp only at hm1 hm2
      have hK0 : 0 ≤ K := by omega
      have hK1 : K ≤ 200000000000000 := by omega
      have hs1 : m1 ≤ 1048576 := by have := hm1.out; have := hsmt.1; omega
      have hs2 : m2 ≤ 1048576 := by have := hm2.out; have := hsmt.2; omega
      obtain ⟨c0, c1, c2⟩ := cellsT_at hat
      obtain ⟨g, off, rfl, hg, hgl, k0, _⟩ := hsl.out.at c0
      obtain ⟨g', off', eA, _, _, k1, f1⟩ := hsl.out.at c1
      obtain ⟨g'', off'', eA2, _, _, k2, _⟩ := hsl.out.at c2
      injection eA with eA
      injection eA with eA eA'
      injection eA2 with eA2
      injection eA2 with eA2 eA2'
      subst eA; subst eA'; subst eA2; subst eA2'
      simp only at k0 k2
      have hHA := hide (markZ_c B1 m1 e1 lo K p.start wr hno.s hK0 (by omega) hs1)
      have hne1 := hide (slO_ne hsl.out hno.s)
      have hne2 := hide (slO_ne hsl.out hno.d)
      replace k1 := hide k1
      replace k2 := hide k2
      replace f1 := hide f1
      replace hst := hide hst
      replace hen := hide hen
      replace hno := hide hno
      replace hbt := hide hbt
      replace hat := hide hat
      replace ht := hide ht
      replace htp := hide htp
      clear hle hmem hpl hpl1 c0 c1 c2 hsmt
      go_wp2_with fail
      refine hHA.out.mono ?_
      rintro e w1 ⟨rfl, ho1, hg1⟩
      have hsl1 := hide (hsl.out.kept hg1 (fun q hq => hne1.out q hq))
      have hO1 := hide (hO.out.grown hg1 (fun q hq => ⟨(hno.out.s.row.lt q hq).1, (hbt.out q).1 hq⟩))
      have hcell : ∀ i, w1.cell? ⟨g, i, none⟩ = wr.cell? ⟨g, i, none⟩ := fun i => World.cell?_of_block (hg1.block g hgl (fun e => hne1.out g e.symm rfl))
      have hfroz : ∀ i, w1.frozen? ⟨g, i, none⟩ = wr.frozen? ⟨g, i, none⟩ := fun i => World.frozen?_of_block (hg1.block g hgl (fun e => hne1.out g e.symm rfl))
      have k1a : w1.cell? ⟨g, off + j * 3 + 1, none⟩ = some (.int .i64 p.step) := by rw [hcell, Nat.add_assoc]; exact k1.out
      have f1a : w1.frozen? ⟨g, off + j * 3 + 1, none⟩ = false := by rw [hfroz, Nat.add_assoc]; exact f1.out
      have k2a := hide (show w1.cell? ⟨g, off + j * 3 + 2, none⟩ = some (.slice B2 m2 e2) by rw [hcell, Nat.add_assoc]; exact k2.out)
      have hgl1 : g < w1.heap.size := Nat.lt_of_lt_of_le hgl hg1.size
      have ho2 := hide (hno.out.d.kept hg1 (Ap.or hno.out.ne.symm))
      have ho1' := hide ho1
      have hg1' := hide hg1
      clear hHA ho1 hg1 hcell hfroz k0 hsl hO
      have hsv := hide (GrP.setP (PTag.ofSl hsl1.out) (off + j * 3 + 1) (.int .i64 (K + (m1 : Int))))
      have hHB := hide (markZ_c B2 m2 e2 lo (K + (m1 : Int) + 1) p.word _ (ho2.out.gr hsv.out) (by omega) (by omega) hs2)
      have k2b : (w1.setCell ⟨g, off + j * 3 + 1, none⟩ (.int .i64 (K + (m1 : Int)))).cell? ⟨g, off + j * 3 + 2, none⟩ = some (.slice B2 m2 e2) := by
        rw [World.cell?_setCell_other _ _ _ _ (by intro e; injection e; omega)]; exact k2a.out
      go_wp2_with fail
      refine hHB.out.mono ?_
      rintro e w3 ⟨rfl, ho3, hg3⟩
      have hset := hide (SlO.set hsl1.out (j := j * 3 + 1) (by have := hnl.out; omega) (.int .i64 (K + (m1 : Int))))
      have hsl3 := hide (hset.out.kept hg3 (fun q hq => hne2.out q hq))
      have hO3 := hide (((hO1.out.grown (grown_set w1 g (off + j * 3 + 1) (.int .i64 (K + (m1 : Int)))) (fun q hq => by injection hq with hq; subst hq; exact ⟨hg, hbA.out g rfl⟩))).grown hg3 (fun q hq => ⟨(hno.out.d.row.lt q hq).1, (hbt.out q).2 hq⟩))
      have hr3 := hide (RowsT.anew (q := mrkQ p K) (w' := w3) hr.out (j := j + 1) (t := (.slice B1 m1 e1, .slice B2 m2 e2, p)) (by rw [List.getElem?_cons_succ]; exact hat.out)
        (fun u zs hu h1 h2 => ((hu.kept hg1'.out (Ap.or h1)).gr hsv.out).kept hg3 (Ap.or h2))
        (by
          have := (ho1'.out.gr hsv.out).kept hg3 (Ap.or hno.out.ne)
          rw [hm1.out] at this
          rw [hm1.out]
          exact this)
        (by
          have := ho3
          rw [hm2.out, hm1.out] at this
          rw [hm2.out]
          exact this)
        (wf_i64 (by show -9223372036854775808 ≤ K + (p.start.length : Int) ∧ K + (p.start.length : Int) ≤ 9223372036854775807; have := hm1.out; omega)))
      clear hr hsl1 hO1 hset hsv hHB ho1' ho3 hg3 hg1' ho2 k1a f1a k2a k2b hne1 hne2 hno hbt
      go_wp2_with fail
      go_roundw
      case rel => exact ⟨j + 1, by omega, by go_num, by
          rw [hen.out]
          unfold endQ
          rw [← hm1.out, ← hm2.out], hide (by
          rw [← hst.out]
          have := cellsT_step (q := mrkQ p K) hat.out
          simp only at this
          rw [this]
          have hh := hsl3.out
          rw [show K + (m1 : Int) = (mrkQ p K).step by unfold mrkQ; rw [hm1.out]] at hh
          exact hh), hide (by
          rw [← hst.out]
          have := hr3.out
          rw [List.set_cons_succ] at this
          exact this), hO3⟩
      case measure => simp [intOf]; omega
    · obtain rfl : j = n := by omega
      have htk : ts.take j = ts := List.take_of_length_le (by have := hnl.out; omega)
      rw [htk]
      have hm := mixT_all k ts
      rw [← hnl.out] at hm
      rw [hm] at hsl hr
      go_wp2_with fail
      go_ret
      exact ⟨rfl, hsl.out, hr.out, hO.out⟩
set_option maxRecDepth 100000 in
set_option maxHeartbeats 3200000 in
theorem heldPlaceS_c (A : Option Addr) (n c B : Nat) (k : Int) (ps : List Plc) (w : World) (h : PsM w B A n c (mrkL k ps)) (h0 : 0 ≤ k) (hk : k ≤ 100000000000000) (hsm : ∀ p ∈ ps, smallP p) (hn1 : n ≤ 1048576) :
    Calls Tryz.prog 47 #[.slice A n c, .int .i64 k] w fun e w' => e = .returned (.int .i64 (endMk k ps)) ∧ w' = w := by
  have hnl := hide (show n = ps.length by have := h.len; rw [mrkL_len] at this; exact this.symm)
  replace h := hide h
  have hsm := hide hsm
  go_enter Tryz.func47, Tryz.ntmps47
  go_wp2_with fail
  go_loopw [1, 5] (fun q i wr => ∃ j : Nat, j ≤ n ∧ i = .int .i64 j ∧ q = .int .i64 (endMk k (ps.take j)) ∧ wr = w) (fun _ i _ => n - (intOf i).toNat)
  case atStart => exact ⟨0, Nat.zero_le _, rfl, rfl, rfl⟩
  case round =>
    obtain ⟨j, hj, rfl, rfl, rfl⟩ := hrel
    by_cases hlt : j < n
    · have hjl : j < ps.length := by have := hnl.out; omega
      obtain ⟨p, hp⟩ : ∃ p, ps[j]? = some p := ⟨_, List.getElem?_eq_getElem hjl⟩
      have hen := endMk_take (k := k) hp
      have hat := mrkL_at (k := k) hp
      have hsmt := hsm.out p (List.mem_of_getElem? hp)
      have hle := endMk_le (k := k) (ps := ps.take j) (fun q hq => hsm.out q (List.mem_of_mem_take hq))
      rw [List.length_take, Nat.min_eq_left (Nat.le_of_lt hjl)] at hle
      obtain ⟨K, hK⟩ : ∃ K, Hid (endMk k (ps.take j) = K) := ⟨_, hide rfl⟩
      rw [hK.out] at hat hen hle ⊢
      obtain ⟨b, off, q, rfl, hbB, hx, hc⟩ := h.out.look hlt
      rw [hat] at hx
      have hx := hx.out
      injection hx with hx
      subst hx
      obtain ⟨B1, m1, e1, B2, m2, e2, k0, k1, k2, hpm⟩ := hc.plM
      obtain ⟨_, _, _, _, _, _, ev, i1, i2, _⟩ := hpm.ex
      injection ev with ev
      injection ev with ev
      simp only [List.cons.injEq, Value.slice.injEq, and_true] at ev
      obtain ⟨⟨rfl, rfl, rfl⟩, _, rfl, rfl, rfl⟩ := ev
      have hm1 := hide (show m1 = p.start.length by have := i1.len; unfold mrkQ at this; rw [mrk_len _ _ _ (Nat.le_refl _)] at this; exact this.symm)
      have hm2 := hide (show m2 = p.word.length by have := i2.len; unfold mrkQ at this; rw [mrk_len _ _ _ (Nat.le_refl _)] at this; exact this.symm)
      have hK0 : 0 ≤ K := by omega
      have hK1 : K ≤ 200000000000000 := by omega
      have hs1 : m1 ≤ 1048576 := by have := hm1.out; have := hsmt.1; omega
      have hs2 : m2 ≤ 1048576 := by have := hm2.out; have := hsmt.2; omega
      have hHA := hide (heldIntSZ_c B1 m1 e1 B K p.start wr (by have := i1; unfold mrkQ at this; rw [hm1.out]; rw [hm1.out] at this; exact this) hm1.out hK0 (by omega) hs1)
      have hHB := hide (heldIntSZ_c B2 m2 e2 B (K + (m1 : Int) + 1) p.word wr (by have := i2; unfold mrkQ at this; rw [hm2.out]; rw [hm2.out] at this; rw [hm1.out]; exact this) hm2.out (by omega) (by omega) hs2)
      have k1' : wr.cell? ⟨b, off + j * 3 + 1, none⟩ = some (.int .i64 (K + (m1 : Int))) := by
        rw [k1]; show some (Value.int .i64 (K + (p.start.length : Int))) = _; rw [hm1.out]
      have hKa : ¬ (K + (m1 : Int) < 0) := by omega
      have hKb : ¬ (K + (m1 : Int) + 1 + (m2 : Int) < 0) := by omega
      replace hen := hide hen
      clear hpm i1 i2 hc hat hx k1 hle hsmt
      go_wp2_with fail
      refine hHA.out.mono ?_
      rintro e w1 ⟨rfl, rfl⟩
      go_wp2_with fail
      refine hHB.out.mono ?_
      rintro e w1 ⟨rfl, rfl⟩
      clear hHA hHB k0 k1' k2
      go_wp2_with fail
      go_roundw
      case rel => exact ⟨j + 1, by omega, by go_num, by
          rw [hen.out]
          unfold endQ
          rw [← hm1.out, ← hm2.out], by first | rfl | trivial⟩
      case measure => simp [intOf]; omega
    · obtain rfl : j = n := by omega
      have htk : ps.take j = ps := List.take_of_length_le (by have := hnl.out; omega)
      rw [htk]
      go_wp2_with fail
      go_ret
      exact ⟨rfl, by first | rfl | trivial⟩
end Go.Proofs.YtpkbmmepapgogaaGreatDoor

namespace Go.Proofs.YtpkbmmepapgogaaGreatDoor
open Go.RowKit
set_option linter.unusedVariables false

set_option maxRecDepth 100000 in
set_option maxHeartbeats 1600000 in
theorem markPlaceK_c (A : Option Addr) (n c : Nat) (S : Int) (A' : Option Addr) (n' c' lo hi : Nat) (k : Int) (zs ws : List Int) (w : World) (h1 : Own w lo (.slice A n c) zs) (h2 : Own w lo (.slice A' n' c') ws)
    (hne : (Value.slice A n c).ownBlock = none ∨ (Value.slice A n c).ownBlock ≠ (Value.slice A' n' c').ownBlock) (hb1 : ∀ g, (Value.slice A n c).ownBlock = some g → g < hi) (hb2 : ∀ g, (Value.slice A' n' c').ownBlock = some g → g < hi) (h0 : 0 ≤ k) (hk : k ≤ 1000000000000000) (hn : n ≤ 1048576) (hn' : n' ≤ 1048576) :
    Calls Tryz.prog 44 #[.agg #[.slice A n c, .int .i64 S, .slice A' n' c'], .int .i64 k] w fun e w' => e = .returned (.int .i64 (k + (n : Int) + (n' : Int))) ∧ Own w' lo (.slice A n c) (mrk zs k n) ∧ Own w' lo (.slice A' n' c') (mrk ws (k + (n : Int)) n') ∧ Only w w' lo hi ∧ ∃ wm, (w.alloc (.cells #[.slice A n c, .int .i64 S, .slice A' n' c'] 27)).grownBy wm (Value.slice A n c).ownBlock ∧ wm.grownBy w' (Value.slice A' n' c').ownBlock := by
  have hlo1 := hide h1.row.lt
  have hlo2 := hide h2.row.lt
  have hap : ∀ {x y : Value}, (x.ownBlock = none ∨ x.ownBlock ≠ y.ownBlock) → (y.ownBlock = none ∨ y.ownBlock ≠ x.ownBlock) := fun {x y} h => by
    cases hy : y.ownBlock with
    | none => exact .inl rfl
    | some j => exact .inr fun e => by rcases h with h | h
                                       · rw [h] at e; cases e
                                       · exact h (by rw [hy, e])
  have ht := hide (Tri.made w (.slice A n c) (.int .i64 S) (.slice A' n' c') 27)
  have hq0 := hide (al w (.cells #[.slice A n c, .int .i64 S, .slice A' n' c'] 27))
  have HA := hide (markZ_c A n c lo k zs _ (h1.up hq0.out) h0 (by omega) hn)
  have ho2 := hide (h2.up hq0.out)
  obtain ⟨t0, t1, t2, _⟩ := ht.out
  go_enter Tryz.func44, Tryz.ntmps44
  go_wp2_with fail
  refine HA.out.mono ?_
  rintro e w1 ⟨rfl, ho1, hg1⟩
  have hgA := hide hg1
  have hO1 := hide (((Only.refl w lo hi).up hq0.out).grown hg1 (fun j e => ⟨(hlo1.out j e).1, hb1 j e⟩))
  have ht1 := hide (show Tri w1 w.heap.size (.slice A n c) (.int .i64 S) (.slice A' n' c') from by
    have hbl := hg1.block w.heap.size ht.out.lt (fun e => by have := (hlo1.out _ e.symm).2; omega)
    have hc : ∀ o, w1.cell? ⟨w.heap.size, o, none⟩ = (w.alloc (.cells #[.slice A n c, .int .i64 S, .slice A' n' c'] 27)).cell? ⟨w.heap.size, o, none⟩ := fun o => World.cell?_of_block hbl
    exact ⟨(hc 0).trans ht.out.c0, (hc 1).trans ht.out.c1, (hc 2).trans ht.out.c2, Nat.lt_of_lt_of_le ht.out.lt hg1.size⟩)
  have HB := hide (markZ_c A' n' c' lo (k + (n : Int)) ws w1 (ho2.out.kept hg1 (hap hne)) (by omega) (by omega) hn')
  obtain ⟨a0, a1, a2, _⟩ := ht1.out
  replace ho1 := hide ho1
  clear hg1 HA
  go_wp2_with fail
  refine HB.out.mono ?_
  rintro e w2 ⟨rfl, ho3, hg2⟩
  have hgB := hide hg2
  have hO2 := hide (hO1.out.grown hg2 (fun j e => ⟨(hlo2.out j e).1, hb2 j e⟩))
  have ho4 := hide (ho1.out.kept hg2 hne)
  clear hg2 HB
  go_wp2_with fail
  go_ret
  exact ⟨rfl, ho4.out, ho3, hO2.out, _, hgA.out, hgB.out⟩


theorem mrkT_mem {k : Int} {ts : List Trp} {s : Trp} (h : s ∈ mrkT k ts) : ∃ s0 ∈ ts, s.1 = s0.1 ∧ s.2.1 = s0.2.1 := by
  induction ts generalizing k with
  | nil => cases h
  | cons t r ih =>
    rcases List.mem_cons.1 h with e | h
    · exact ⟨t, List.mem_cons_self, by rw [e], by rw [e]⟩
    · obtain ⟨s0, h1, h2⟩ := ih h
      exact ⟨s0, List.mem_cons_of_mem _ h1, h2⟩
theorem DkO.toH {w : World} {lo hi : Nat} {v : Value} {p : Dsk} (h : DkO w lo hi v p) : DkH w lo w.heap.size v p := by
  obtain ⟨g, m, d, g', m', d', g3, m3, d3, rfl, h1, h2, h3, h4, h5, h6, h7, h8⟩ := h.ex
  obtain ⟨ts, q1, q2, q3, q4⟩ := h7.slo
  refine DkR.toH ⟨(.slice (some ⟨g, 0, none⟩) m d, .slice (some ⟨g', 0, none⟩) m' d', p.now), ts, _, _, _, rfl, rfl, q1, q2, q3.down h8, ⟨fun t ht => ?_, List.pairwise_cons.2 ⟨fun s hs => ?_, q4.two⟩⟩⟩
  · rcases List.mem_cons.1 ht with e | ht
    · rw [e]
      exact ⟨h1, h2, fun b hb hb2 => by
        simp [Value.ownBlock] at hb hb2
        omega, h4⟩
    · exact (q4.one t ht).down h8
  · have ho := q4.one s hs
    have hlt : ∀ (x : Value) (b : Nat) (u : Value) zs, u = .slice (some ⟨b, 0, none⟩) x.cells.size x.cells.size ∨ True → b < hi → Own w hi x zs → ∀ q, (Value.slice (some ⟨b, 0, none⟩) 0 0).ownBlock = some q → x.ownBlock ≠ some q := fun x b u zs _ hb hx q hq hx2 => by
      simp [Value.ownBlock] at hq
      have := (hx.row.lt q hx2).1
      omega
    exact ⟨hlt _ g s.1 _ (.inr trivial) h5 ho.s, hlt _ g s.1 _ (.inr trivial) h5 ho.d, hlt _ g' s.1 _ (.inr trivial) h6 ho.s, hlt _ g' s.1 _ (.inr trivial) h6 ho.d⟩
/-- A desk that may be read, its cells below block B. -/
structure DkB (w : World) (B : Nat) (v : Value) (p : Dsk) : Prop where
  pl : DkM w B v p
  le : B ≤ w.heap.size
section
variable {w w' : World} {B lo hi : Nat} {v : Value} {p : Dsk}
theorem DkB.up (h : DkB w B v p) (hq : Below w.heap.size w w') : DkB w' B v p := ⟨h.pl.below (hq.mono h.le), Nat.le_trans h.le hq.size⟩
theorem DkB.only (h : DkB w B v p) (hO : Only w w' lo hi) (hB : B ≤ lo) : DkB w' B v p := ⟨hO.dkM h.pl hB h.le, Nat.le_trans h.le hO.size⟩
theorem DkB.dkM (h : DkB w B v p) : DkM w w.heap.size v p := h.pl.more h.le
theorem DkH.dkM (h : DkH w lo hi v p) : DkM w w.heap.size v p := h.toR.dkM
theorem DkH.open_ (h : DkH w lo hi v p) : ∃ A n c A' n' c' A3 n3 c3, v = .agg #[.slice A n c, .int .i64 p.now.step, .slice A' n' c', .slice A3 n3 c3] := by
  obtain ⟨A, n, c, A', n', c', A3, n3, c3, e, _⟩ := h.dkM.ex
  exact ⟨A, n, c, A', n', c', A3, n3, c3, e⟩
end
set_option maxRecDepth 100000 in
set_option maxHeartbeats 3200000 in
theorem markDesk_c (v : Value) (d : Dsk) (k : Int) (lo hi : Nat) (w : World) (h : DkH w lo hi v d) (hhi : hi ≤ w.heap.size) (hs : smallD d) (h0 : 0 ≤ k) (hk : k ≤ 1000000000000) :
    Calls Tryz.prog 14 #[v, .int .i64 k] w fun e w' => e = .returned (.int .i64 (endDk d k)) ∧ DkH w' lo hi v (mrkDk d k) ∧ Only w w' lo hi := by
  obtain ⟨⟨a, b, p⟩, ts, A3, n3, c3, rfl, h1, h2, h3, h4, h5, h6, h7⟩ := h.ex
  have ho := h5.one _ List.mem_cons_self
  obtain ⟨A, n, c, A2, n2, c2, hsh⟩ := ho.shape
  simp only [Prod.mk.injEq] at hsh
  obtain ⟨rfl, rfl, _⟩ := hsh
  simp only at h1
  subst h1
  obtain ⟨hs1, hs2, hs3⟩ := hs
  have hq0 := hide (al w (.cells #[.slice A n c, .int .i64 d.now.step, .slice A2 n2 c2, .slice A3 n3 c3] 30))
  have ta := hide (QuaW.made w (.slice A n c) (.int .i64 d.now.step) (.slice A2 n2 c2) (.slice A3 n3 c3) 30)
  have hm1 := hide ho.s.len
  have hm2 := hide ho.d.len
  simp only at hm1 hm2
  have hn1 : n ≤ 1048576 := by have := hm1.out; have := hs1.1; omega
  have hn2 : n2 ≤ 1048576 := by have := hm2.out; have := hs1.2; omega
  have hps : ts.length ≤ 1048576 := by have := plcs_len ts; rw [h2] at this; omega
  have HA := hide (markPlaceK_c A n c d.now.step A2 n2 c2 lo hi k d.now.start d.now.word (w.alloc (.cells #[.slice A n c, .int .i64 d.now.step, .slice A2 n2 c2, .slice A3 n3 c3] 30)) (ho.s.up hq0.out) (ho.d.up hq0.out) ho.ne.or (fun g hg => (h7 _ List.mem_cons_self g).1 hg) (fun g hg => (h7 _ List.mem_cons_self g).2 hg) h0 (by omega) hn1 hn2)
  have hsl := hide h4
  have hrw := hide h5
  replace h2 := hide h2
  replace h3 := hide h3
  replace h6 := hide h6
  replace h7 := hide h7
  replace hs3 := hide hs3
  replace hs2 := hide hs2
  obtain ⟨a0, a1, a2, a3, af0, af1, af2, af3, _⟩ := ta.out
  clear h4 h5 ho h
  go_enter Tryz.func14, Tryz.ntmps14
  go_wp2_with fail
  refine HA.out.mono ?_
  rintro e w1 ⟨rfl, ho1, ho2, hO1, wm, hgA, hgB⟩
  have ho := hrw.out.one _ List.mem_cons_self
  have hsl1 := hide ((((hsl.out.up hq0.out).up (al _ _)).kept hgA (slO_ne hsl.out ho.s)).kept hgB (slO_ne hsl.out ho.d))
  have hrw1 := hide (RowsT.anew (q := mrkP d.now k) (w' := w1) hrw.out (j := 0) (t := (.slice A n c, .slice A2 n2 c2, d.now)) rfl
    (fun u zs hu q1 q2 => (((hu.up hq0.out).up (al _ _)).kept hgA (Ap.or q1)).kept hgB (Ap.or q2))
    (by have := ho1; rw [hm1.out] at this; rw [hm1.out]; exact this)
    (by have := ho2; rw [hm2.out, hm1.out] at this; rw [hm2.out]; exact this) ho.wf)
  have ta1 := hide (ta.out.only hO1 (.inr hhi))
  have hO := hide (((Only.refl w lo hi).up hq0.out).trans hO1)
  have hB := hide (markPlaceS_c A3 n3 c3 lo hi (k + (n : Int) + (n2 : Int)) (.slice A n c, .slice A2 n2 c2, mrkP d.now k) ts w1 hsl1.out hrw1.out h3.out h6.out (fun s hs g => h7.out s (List.mem_cons_of_mem _ hs) g) (by omega) (by omega) (fun s hs => hs3.out s.2.2 (by rw [← h2.out]; exact List.mem_map.2 ⟨s, hs, rfl⟩)) (by rw [h3.out]; exact hps))
  have hend := hide (show endDk d k = endMk (k + (n : Int) + (n2 : Int)) (plcs ts) by unfold endDk endP; rw [h2.out, hm1.out, hm2.out])
  have hmk := hide (show mrkDk d k = ⟨mrkP d.now k, mrkL (k + (n : Int) + (n2 : Int)) (plcs ts)⟩ by unfold mrkDk endP; rw [h2.out, hm1.out, hm2.out])
  obtain ⟨K, hK⟩ : ∃ K, Hid (k + (n : Int) + (n2 : Int) = K) := ⟨_, hide rfl⟩
  rw [hK.out] at hB hend hmk ⊢
  obtain ⟨b0, b1, b2, b3, bf0, bf1, bf2, bf3, _⟩ := ta1.out
  clear hgA hgB ho1 ho2 hO1 HA hsl ho a0 a1 a2 a3 af0 af1 af2 af3 ta hm1 hm2 hK hrw
  go_wp2_with fail
  refine hB.out.mono ?_
  rintro e w2 ⟨rfl, hsl2, hrw2, hO2⟩
  have hF := hide (show DkH w2 lo hi (.agg #[.slice A n c, .int .i64 d.now.step, .slice A2 n2 c2, .slice A3 n3 c3]) (mrkDk d k) from by
    rw [hmk.out]
    exact ⟨_, _, A3, n3, c3, rfl, rfl, plcs_mrkT _ _, by rw [mrkT_len]; exact h3.out, hsl2, hrw2, h6.out, fun s hs g => by
      rcases List.mem_cons.1 hs with e | hs
      · rw [e]; exact h7.out _ List.mem_cons_self g
      · obtain ⟨s0, m1, e1, e2⟩ := mrkT_mem hs
        rw [e1, e2]
        exact h7.out s0 (List.mem_cons_of_mem _ m1) g⟩)
  have hO3 := hide (hO.out.trans hO2)
  clear hsl2 hrw2 hO2 hB b0 b1 b2 b3 bf0 bf1 bf2 bf3
  go_wp2_with fail
  go_ret
  exact ⟨by rw [hend.out]; rfl, hF.out, hO3.out⟩
set_option maxRecDepth 100000 in
set_option maxHeartbeats 3200000 in
theorem heldDesk_c (v : Value) (d : Dsk) (k : Int) (w : World) (h : DkM w w.heap.size v (mrkDk d k)) (hs : smallD d) (h0 : 0 ≤ k) (hk : k ≤ 1000000000000) :
    Calls Tryz.prog 15 #[v, .int .i64 k] w fun e w' => e = .returned (.int .i64 (endDk d k)) ∧ Below w.heap.size w w' := by
  obtain ⟨A, n, c, A2, n2, c2, A3, n3, c3, rfl, i1, i2, hwf, i3⟩ := h.ex
  obtain ⟨hs1, hs2, hs3⟩ := hs
  have hm1 := hide (show n = d.now.start.length by have := i1.len; unfold mrkDk mrkP at this; simp only at this; rw [mrk_len _ _ _ (Nat.le_refl _)] at this; exact this.symm)
  have hm2 := hide (show n2 = d.now.word.length by have := i2.len; unfold mrkDk mrkP at this; simp only at this; rw [mrk_len _ _ _ (Nat.le_refl _)] at this; exact this.symm)
  have hm3 := hide (show n3 = d.past.length by have := i3.len; unfold mrkDk at this; simp only at this; rw [mrkL_len] at this; exact this.symm)
  have hn1 : n ≤ 1048576 := by have := hm1.out; have := hs1.1; omega
  have hn2 : n2 ≤ 1048576 := by have := hm2.out; have := hs1.2; omega
  have hn3 : n3 ≤ 1048576 := by have := hm3.out; omega
  have hend := hide (show endDk d k = endMk (k + (n : Int) + (n2 : Int)) d.past by unfold endDk endP; rw [hm1.out, hm2.out])
  have i3' : PsM w w.heap.size A3 n3 c3 (mrkL (k + (n : Int) + (n2 : Int)) d.past) := by have := i3; unfold mrkDk endP at this; rw [← hm1.out, ← hm2.out] at this; exact this
  have i1' : Ints w w.heap.size A n c (mrk d.now.start k n) := by have := i1; unfold mrkDk mrkP at this; rw [← hm1.out] at this; exact this
  have i2' : Ints w w.heap.size A2 n2 c2 (mrk d.now.word (k + (n : Int)) n2) := by have := i2; unfold mrkDk mrkP at this; simp only at this; rw [← hm1.out, ← hm2.out] at this; exact this
  show Calls Tryz.prog 15 #[.agg #[.slice A n c, .int .i64 d.now.step, .slice A2 n2 c2, .slice A3 n3 c3], .int .i64 k] w _
  have hq0 := hide (al w (.cells #[.slice A n c, .int .i64 d.now.step, .slice A2 n2 c2, .slice A3 n3 c3] 30))
  have ta := hide (QuaW.made w (.slice A n c) (.int .i64 d.now.step) (.slice A2 n2 c2) (.slice A3 n3 c3) 30)
  have HA := hide (heldPlaceZ_c A n c d.now.step A2 n2 c2 (w.alloc (.cells #[.slice A n c, .int .i64 d.now.step, .slice A2 n2 c2, .slice A3 n3 c3] 30)).heap.size k d.now.start d.now.word _ (i1'.up hq0.out) (i2'.up hq0.out) (Nat.le_refl _) hm1.out hm2.out h0 (by omega) hn1 hn2)
  have i3'' := hide i3'
  replace hs3 := hide hs3
  have hle := hide (endMk_le (k := k + (n : Int) + (n2 : Int)) (ps := d.past) hs3.out)
  obtain ⟨K, hK⟩ : ∃ K, Hid (k + (n : Int) + (n2 : Int) = K) := ⟨_, hide rfl⟩
  have hK0 : 0 ≤ K := by have := hK.out; omega
  have hK1 : K ≤ 100000000000000 := by have := hK.out; omega
  rw [hK.out] at HA hend i3'' hle
  obtain ⟨E, hE⟩ : ∃ E, Hid (endMk K d.past = E) := ⟨_, hide rfl⟩
  have hE0 : 0 ≤ E := by have := hle.out.1; rw [hE.out] at this; omega
  obtain ⟨a0, a1, a2, a3, af0, af1, af2, af3, _⟩ := ta.out
  clear i1 i2 i3 i1' i2' i3' hK h hm1 hm2 hle hwf hs1 hs2
  go_enter Tryz.func15, Tryz.ntmps15
  go_wp2_with fail
  refine HA.out.mono ?_
  rintro e w1 ⟨rfl, hq1⟩
  have hb := hide (upB hq0.out hq1)
  have HB := hide (heldPlaceS_c A3 n3 c3 _ K d.past w1 (i3''.out.up hb.out) hK0 hK1 hs3.out hn3)
  rw [hE.out] at HB hend
  obtain ⟨b0, b1, b2, b3, bf0, bf1, bf2, bf3, _⟩ := ta.out.up hq1
  clear hq1 HA a0 a1 a2 a3 af0 af1 af2 af3
  go_wp2_with fail
  refine HB.out.mono ?_
  rintro e w2 ⟨rfl, rfl⟩
  go_wp2_with fail
  go_ret
  exact ⟨by rw [hend.out]; rfl, hb.out⟩
theorem DkM.open_ {w : World} {B : Nat} {v : Value} {p : Dsk} (h : DkM w B v p) : ∃ A n c A' n' c' A3 n3 c3, v = .agg #[.slice A n c, .int .i64 p.now.step, .slice A' n' c', .slice A3 n3 c3] := by
  obtain ⟨A, n, c, A', n', c', A3, n3, c3, e, _⟩ := h.ex
  exact ⟨A, n, c, A', n', c', A3, n3, c3, e⟩
theorem smallD_ok {d : Dsk} (h : deskOk d = true ∨ d = noDsk) : smallD d := by
  rcases h with h | rfl
  · obtain ⟨h1, h2, h3⟩ := small_ok h
    exact ⟨h1, by omega, h3⟩
  · exact ⟨⟨Nat.zero_le _, Nat.zero_le _⟩, Nat.zero_le _, fun q hq => by cases hq⟩
theorem endDk_le {d : Dsk} {k : Int} (h : smallD d) : k ≤ endDk d k ∧ endDk d k ≤ k + 100000000000000 := by
  obtain ⟨⟨h1, h2⟩, h3, h4⟩ := h
  have := endMk_le (k := endP d.now k) h4
  unfold endDk
  have e : endP d.now k = k + (d.now.start.length : Int) + (d.now.word.length : Int) := rfl
  omega
end Go.Proofs.YtpkbmmepapgogaaGreatDoor
