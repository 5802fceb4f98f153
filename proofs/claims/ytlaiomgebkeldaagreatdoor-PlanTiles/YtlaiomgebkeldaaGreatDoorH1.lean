/- A hash's bytes; what Leaf and Empty answer. -/
import Derived.Test.YtlaiomgebkeldaaGreatDoorPg
import Derived.Test.YtlaiomgebkeldaaGreatDoorEg
namespace Go.Proofs.YtlaiomgebkeldaaGreatDoor
open Go.RowKit
set_option linter.unusedVariables false
set_option linter.unusedSimpArgs false

/-- Bytes as the cells of an array. -/
def hbs (L : List UInt8) : Array Value := (bc L).toArray
theorem hbs_size (L : List UInt8) : (hbs L).size = L.length := by simp [hbs, bc]
theorem hbs_one (L : List UInt8) : ∀ u ∈ (hbs L).toList, u.oneCell' = true := by
  intro u hu
  simp only [hbs, bc, List.mem_map] at hu
  obtain ⟨x, _, rfl⟩ := hu
  rfl
theorem hbs_get (L : List UInt8) (i : Nat) (h : i < L.length) : (hbs L)[i]? = some (.int .u8 ((L.getD i 0).toNat : Nat)) := by
  rw [hbs, List.getElem?_toArray, bc, List.getElem?_map, List.getD_eq_getElem?_getD, List.getElem?_eq_getElem h]; rfl
def shb (s : V8) : List UInt8 := (List.range 32).map fun i => UInt8.ofNat (hby s i)
theorem shb_len (s : V8) : (shb s).length = 32 := by simp [shb]
theorem hcs_hbs (s : V8) : hcs s 32 = hbs (shb s) := by
  apply Array.ext
  · rw [hcs_size, hbs_size, shb_len]
  · intro i h1 h2
    have hi : i < 32 := by simpa [hcs_size] using h1
    have h3 := hby_lt s i
    simp [hcs, hbs, bc, shb, hi, Nat.mod_eq_of_lt h3]
/-- SHA of bytes, as bytes. -/
def Sh (L : List UInt8) : List UInt8 := shb (sha L)
theorem Sh_len (L : List UInt8) : (Sh L).length = 32 := shb_len _
theorem hsh_hbs (L : List UInt8) : hsh (sha L) = .agg (hbs (Sh L)) := by unfold hsh Sh; rw [hcs_hbs]
theorem z32_h : (#[.int .u8 0, .int .u8 0, .int .u8 0, .int .u8 0, .int .u8 0, .int .u8 0, .int .u8 0, .int .u8 0, .int .u8 0, .int .u8 0, .int .u8 0, .int .u8 0, .int .u8 0, .int .u8 0, .int .u8 0, .int .u8 0, .int .u8 0, .int .u8 0, .int .u8 0, .int .u8 0, .int .u8 0, .int .u8 0, .int .u8 0, .int .u8 0, .int .u8 0, .int .u8 0, .int .u8 0, .int .u8 0, .int .u8 0, .int .u8 0, .int .u8 0, .int .u8 0] : Array Value) = z32 := by kernel_rfl
theorem z32_hbs : z32 = hbs (List.replicate 32 0) := by
  rw [z32, hbs, bc, List.map_replicate]; rfl

theorem sumh_any (p : Option Addr) (cap : Nat) (ss : List ByteArray) (w : World) (hp : Strs w p ss) (hL : Laid w) (hlen : (cat ss).length < 576460752303423488) (hcnt : ss.length < 4611686018427387904) :
    Calls Tryz.prog 145 #[.slice p ss.length cap] w fun e w' => e = .returned (.agg (hbs (Sh (cat ss)))) ∧ Nw w w' := by
  rw [← hsh_hbs]
  exact sums_any p cap ss w hp hL hlen hcnt
theorem strs1 (w : World) (a : ByteArray) : Strs (w.alloc (.cells #[.string a] 9)) (some ⟨w.heap.size, 0, none⟩) [a] := fun j x hx => by
  match j, hx with
  | 0, hx => cases hx; exact ⟨_, _, rfl, cell_of (heap_new w _) 0⟩
theorem strs2 (w : World) (a b : ByteArray) : Strs (w.alloc (.cells #[.string a, .string b] 9)) (some ⟨w.heap.size, 0, none⟩) [a, b] := fun j x hx => by
  match j, hx with
  | 0, hx => cases hx; exact ⟨_, _, rfl, cell_of (heap_new w _) 0⟩
  | 1, hx => cases hx; exact ⟨_, _, rfl, cell_of (heap_new w _) 1⟩
theorem strs3 (w : World) (a b c : ByteArray) : Strs (w.alloc (.cells #[.string a, .string b, .string c] 9)) (some ⟨w.heap.size, 0, none⟩) [a, b, c] := fun j x hx => by
  match j, hx with
  | 0, hx => cases hx; exact ⟨_, _, rfl, cell_of (heap_new w _) 0⟩
  | 1, hx => cases hx; exact ⟨_, _, rfl, cell_of (heap_new w _) 1⟩
  | 2, hx => cases hx; exact ⟨_, _, rfl, cell_of (heap_new w _) 2⟩
theorem strs0 (w : World) : Strs w none [] := fun j x hx => by simp at hx

end Go.Proofs.YtlaiomgebkeldaaGreatDoor
