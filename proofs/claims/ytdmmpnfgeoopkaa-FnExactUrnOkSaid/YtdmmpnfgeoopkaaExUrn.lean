/-
  The walks of the exact laws of the urns: FnExactUrnOk.
-/
import Derived.Test.YtdmmpnfgeoopkaaOks
namespace Go.Proofs.Ytdmmpnfgeoopkaa
open Go.RowKit

set_option maxHeartbeats 400000 in
theorem exUrnOk {A : Option Addr} {n c : Nat} {zs : List Int} {w : World} (h : Ints w w.heap.size A n c zs) :
    Calls Try.prog 9 #[.slice A n c] w fun e w' => e = .returned (.bool true) ∧ Below w.heap.size w w' := by
  have hn := h.nb
  by_cases hbig : 1048576 < n
  · go_enter Try.func9, Try.ntmps9
    go_wp2
    go_ret
    exact ⟨rfl, Below.refl _ _⟩
  · go_enter Try.func9, Try.ntmps9
    go_wp2_with fail
    refine (toIntS_c A n c _ zs _ h (Nat.le_refl _) (by omega)).mono ?_
    rintro e w1 ⟨g1, rfl, ho1, hb1⟩
    go_wp2_with fail
    refine (urnOk_spec _ _ _ _ _ _ ho1.ints).mono ?_
    rintro e w' ⟨rfl, rfl⟩
    go_wp2_with fail
    refine (toIntS_c A n c _ zs _ (h.below hb1) hb1.size (by omega)).mono ?_
    rintro e w2 ⟨g2, rfl, ho2, hb2⟩
    go_wp2_with fail
    refine (urnOk_impl _ _ _ _ _ _ ho2.ints).mono ?_
    rintro e w' ⟨rfl, rfl⟩
    have hb12 := hb1.trans (hb2.mono hb1.size)
    go_wp2_with fail
    refine (toIntS_c A n c _ zs _ (h.below hb12) hb12.size (by omega)).mono ?_
    rintro e w3 ⟨g3, rfl, ho3, hb3⟩
    have hs := sameL_refl zs
    go_wp2_with fail
    refine (eqIntS_c _ _ _ _ _ _ _ _ _ _ _ (ho2.below hb3 (Nat.le_refl _)).ints ho3.ints).mono ?_
    rintro e w' ⟨rfl, q, rfl⟩
    go_wp2_with fail
    go_ret
    exact ⟨rfl, below_drewN (hb12.trans (hb3.mono hb12.size)) _⟩
end Go.Proofs.Ytdmmpnfgeoopkaa
