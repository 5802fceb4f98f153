/- The document's forms, as its reference makes them: a number's, a text's, a hash's. -/
import Derived.Test.YtebbgpnhkpbefaaDoorcX2
import Derived.Test.YtebbgpnhkpbefaaDoorcAg
namespace Go.Proofs.YtebbgpnhkpbefaaDoor
open Go.RowKit Go.Lib
set_option linter.unusedVariables false
set_option linter.unusedSimpArgs false

theorem conv_own {w : World} {base : Nat} {v : Value} {l : List UInt8} (h : w.ownsRow base 5 1 v l.length (bc l)) : (convert 53 9 v).run Tryd.prog w = .ok (.string ⟨l.toArray⟩) w := by
  rcases h.2 with ⟨rfl, hn⟩ | ⟨g, cap, cur, rfl, _⟩
  · have : l = [] := List.eq_nil_of_length_eq_zero hn
    subst this
    exact conv_nil w
  · refine run_convert_bytes_back w _ _ _ _ _ _ Tryd.underlying53 Tryd.underlying5 Tryd.underlying9 (fun j hj => ?_)
    exact h.cells (g := g) rfl j _ (by simp [bc, hj])
theorem ref_byte (m : Nat) : (Value.int .u8 (128 + (m : Int) % 128)) = .int .u8 ((UInt8.ofNat (m % 128 + 128)).toNat : Nat) := by
  rw [UInt8.toNat_ofNat']
  congr 1
  omega

theorem cat_bytes (a b : List UInt8) : (⟨a.toArray⟩ : ByteArray) ++ (⟨b.toArray⟩ : ByteArray) = ⟨(a ++ b).toArray⟩ := by
  apply ByteArray.ext
  rw [ByteArray.data_append]
  simp
theorem bytes_of (s : ByteArray) : s = ⟨s.data.toList.toArray⟩ := by
  apply ByteArray.ext
  simp

end Go.Proofs.YtebbgpnhkpbefaaDoor
