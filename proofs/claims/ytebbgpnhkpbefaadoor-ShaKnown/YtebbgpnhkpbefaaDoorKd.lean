/- SHA of a million letters a. -/
import Derived.Test.YtebbgpnhkpbefaaDoorKb1
import Derived.Test.YtebbgpnhkpbefaaDoorKb2
import Derived.Test.YtebbgpnhkpbefaaDoorKb3
import Derived.Test.YtebbgpnhkpbefaaDoorKb4
import Derived.Test.YtebbgpnhkpbefaaDoorKb5
namespace Go.Proofs.YtebbgpnhkpbefaaDoor
namespace KE
set_option linter.unusedVariables false
set_option maxRecDepth 100000

theorem d1 : many kwA 6250 ⟨1779033703, 3144134277, 1013904242, 2773480762, 1359893119, 2600822924, 528734635, 1541459225⟩ = ⟨3950689631, 1183676483, 523787800, 1079288165, 3531020339, 1967142716, 4113132345, 1750149100⟩ := (many_add kwA 3125 3125 _).trans ((congrArg (many kwA 3125) c0_24).trans c1_24)
theorem d2 : many kwA 9375 ⟨1779033703, 3144134277, 1013904242, 2773480762, 1359893119, 2600822924, 528734635, 1541459225⟩ = ⟨2229091582, 1247898798, 3129489793, 801003700, 3664384409, 2135943812, 1655664929, 4043692830⟩ := (many_add kwA 6250 3125 _).trans ((congrArg (many kwA 3125) d1).trans c2_24)
theorem d3 : many kwA 12500 ⟨1779033703, 3144134277, 1013904242, 2773480762, 1359893119, 2600822924, 528734635, 1541459225⟩ = ⟨1527903575, 643982266, 137930256, 1901535836, 1469484063, 211280277, 2609170097, 3664365886⟩ := (many_add kwA 9375 3125 _).trans ((congrArg (many kwA 3125) d2).trans c3_24)
theorem d4 : many kwA 15625 H0 = ⟨2061136107, 1745259042, 791610055, 2140370626, 1884297759, 3529239238, 671294972, 693152569⟩ := (many_add kwA 12500 3125 _).trans ((congrArg (many kwA 3125) d3).trans c4_24)
theorem d5 : many kwZ 1 ⟨2061136107, 1745259042, 791610055, 2140370626, 1884297759, 3529239238, 671294972, 693152569⟩ = ⟨3452399196, 2568289170, 2174863330, 2228698727, 4051737160, 2761367566, 74267084, 3339791568⟩ := go kwZ 1 2061136107 1745259042 791610055 2140370626 1884297759 3529239238 671294972 693152569 ⟨3452399196, 2568289170, 2174863330, 2228698727, 4051737160, 2761367566, 74267084, 3339791568⟩ (by decide +kernel)
theorem st_rep (n0 : Nat) (T : List UInt8) : ∀ n, n ≤ n0 → st (List.replicate (64 * n0) 97 ++ T) n = many kwA n H0
  | 0, _ => rfl
  | n + 1, h => by
    rw [st, st_rep n0 T n (by omega), many_add kwA n 1, List.drop_append_of_le_length (by rw [List.length_replicate]; omega), List.drop_replicate, List.take_append_of_le_length (by rw [List.length_replicate]; omega), List.take_replicate, show min 64 (64 * n0 - 64 * n) = 64 by omega, comp_one, kwA_eq]
    rfl
theorem sha_rep (n0 : Nat) (T : List UInt8) (hT : pad (List.replicate (64 * n0) 97) = List.replicate (64 * n0) 97 ++ T) (hl : T.length = 64) : sha (List.replicate (64 * n0) 97) = one (kwOf T) (many kwA n0 H0) := by
  unfold sha
  rw [hT, List.length_append, hl, List.length_replicate, show (64 * n0 + 64) / 64 = n0 + 1 by omega, st, st_rep n0 T n0 (Nat.le_refl _), List.drop_append_of_le_length (by rw [List.length_replicate]; exact Nat.le_refl _), List.drop_replicate, Nat.sub_self, List.replicate_zero, List.nil_append, List.take_of_length_le (by omega), comp_one]
theorem pad_rep (n0 : Nat) (h : zc (64 * n0) = 55) : pad (List.replicate (64 * n0) 97) = List.replicate (64 * n0) 97 ++ (128 :: (List.replicate 55 0 ++ len8 (8 * (64 * n0)))) := by
  unfold pad
  rw [List.length_replicate, h]
  simp
theorem million : sha (List.replicate (64 * 15625) 97) = ⟨3452399196, 2568289170, 2174863330, 2228698727, 4051737160, 2761367566, 74267084, 3339791568⟩ := by
  rw [sha_rep 15625 _ (pad_rep 15625 (by decide)) (by simp [len8]), d4, show 8 * (64 * 15625) = 8000000 from rfl, kwZ_eq]
  exact d5
end KE
end Go.Proofs.YtebbgpnhkpbefaaDoor
