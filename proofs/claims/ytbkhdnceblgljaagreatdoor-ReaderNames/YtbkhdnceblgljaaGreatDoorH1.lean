/- A hash's bytes; what Leaf and Empty answer. -/
import Derived.Test.YtbkhdnceblgljaaGreatDoorPg
import Derived.Test.YtbkhdnceblgljaaGreatDoorEg
namespace Go.Proofs.YtbkhdnceblgljaaGreatDoor
open Go.RowKit
set_option linter.unusedVariables false
set_option linter.unusedSimpArgs false

/-- Bytes as the cells of an array. -/
def hbs (L : List UInt8) : Array Value := (bc L).toArray
theorem hbs_size (L : List UInt8) : (hbs L).size = L.length := by simp [hbs, bc]
theorem hbs_one (L : List UInt8) : ∀ u ∈ (hbs L).toList, u.oneCell' = true := by
  intro u hu
  simp only [hbs, bc, List.mem_map] at hu
  obtain ⟨x, _, rfl⟩ := hu
  rfl
theorem hbs_get (L : List UInt8) (i : Nat) (h : i < L.length) : (hbs L)[i]? = some (.int .u8 ((L.getD i 0).toNat : Nat)) := by
  rw [hbs, List.getElem?_toArray, bc, List.getElem?_map, List.getD_eq_getElem?_getD, List.getElem?_eq_getElem h]; rfl
def shb (s : V8) : List UInt8 := (List.range 32).map fun i => UInt8.ofNat (hby s i)
theorem shb_len (s : V8) : (shb s).length = 32 := by simp [shb]
theorem hcs_hbs (s : V8) : hcs s 32 = hbs (shb s) := by
  apply Array.ext
  · rw [hcs_size, hbs_size, shb_len]
  · intro i h1 h2
    have hi : i < 32 := by simpa [hcs_size] using h1
    have h3 := hby_lt s i
    simp [hcs, hbs, bc, shb, hi, Nat.mod_eq_of_lt h3]
/-- SHA of bytes, as bytes. -/
def Sh (L : List UInt8) : List UInt8 := shb (sha L)
theorem Sh_len (L : List UInt8) : (Sh L).length = 32 := shb_len _
theorem hsh_hbs (L : List UInt8) : hsh (sha L) = .agg (hbs (Sh L)) := by unfold hsh Sh; rw [hcs_hbs]
theorem z32_h : (#[.int .u8 0, .int .u8 0, .int .u8 0, .int .u8 0, .int .u8 0, .int .u8 0, .int .u8 0, .int .u8 0, .int .u8 0, .int .u8 0, .int .u8 0, .int .u8 0, .int .u8 0, .int .u8 0, .int .u8 0, .int .u8 0, .int .u8 0, .int .u8 0, .int .u8 0, .int .u8 0, .int .u8 0, .int .u8 0, .int .u8 0, .int .u8 0, .int .u8 0, .int .u8 0, .int .u8 0, .int .u8 0, .int .u8 0, .int .u8 0, .int .u8 0, .int .u8 0] : Array Value) = z32 := by kernel_rfl
theorem z32_hbs : z32 = hbs (List.replicate 32 0) := by
  rw [z32, hbs, bc, List.map_replicate]; rfl

theorem sumh_any (p : Option Addr) (cap : Nat) (ss : List ByteArray) (w : World) (hp : Strs w p ss) (hL : Laid w) (hlen : (cat ss).length < 576460752303423488) (hcnt : ss.length < 4611686018427387904) :
    Calls Tryz.prog 46 #[.slice p ss.length cap] w fun e w' => e = .returned (.agg (hbs (Sh (cat ss)))) ∧ Nw w w' := by
  rw [← hsh_hbs]
  exact sums_any p cap ss w hp hL hlen hcnt
theorem strs1 (w : World) (a : ByteArray) : Strs (w.alloc (.cells #[.string a] 9)) (some ⟨w.heap.size, 0, none⟩) [a] := fun j x hx => by
  match j, hx with
  | 0, hx => cases hx; exact ⟨_, _, rfl, cell_of (heap_new w _) 0⟩
theorem strs2 (w : World) (a b : ByteArray) : Strs (w.alloc (.cells #[.string a, .string b] 9)) (some ⟨w.heap.size, 0, none⟩) [a, b] := fun j x hx => by
  match j, hx with
  | 0, hx => cases hx; exact ⟨_, _, rfl, cell_of (heap_new w _) 0⟩
  | 1, hx => cases hx; exact ⟨_, _, rfl, cell_of (heap_new w _) 1⟩
theorem strs3 (w : World) (a b c : ByteArray) : Strs (w.alloc (.cells #[.string a, .string b, .string c] 9)) (some ⟨w.heap.size, 0, none⟩) [a, b, c] := fun j x hx => by
  match j, hx with
  | 0, hx => cases hx; exact ⟨_, _, rfl, cell_of (heap_new w _) 0⟩
  | 1, hx => cases hx; exact ⟨_, _, rfl, cell_of (heap_new w _) 1⟩
  | 2, hx => cases hx; exact ⟨_, _, rfl, cell_of (heap_new w _) 2⟩
theorem strs0 (w : World) : Strs w none [] := fun j x hx => by simp at hx

set_option maxRecDepth 100000 in
set_option maxHeartbeats 1000000 in
theorem leaf_any (s : ByteArray) (w : World) (hL : Laid w) (hs : s.size ≤ 281474976710656) :
    Calls Tryz.prog 22 #[.string s] w fun e w' => e = .returned (.agg (hbs (Sh (0 :: s.data.toList)))) ∧ Nw w w' := by
  have HL : Hid (Laid w) := hL
  clear hL
  go_enter Tryz.func22, Tryz.ntmps22
  go_wp2_with fail
  rw [z32_h]
  have hz : (w.alloc (.cells z32 42)).heap[w.heap.size]? = some (.cells z32 42) := heap_new w _
  obtain ⟨w1, hw1⟩ : ∃ w1, w1 = w.alloc (.cells z32 42) := ⟨_, rfl⟩
  have n1 : Nw w w1 := by rw [hw1]; exact (Fr.refl _ _).alloc _
  have hs1 : w1.heap.size = w.heap.size + 1 := by rw [hw1]; simp
  rw [← hw1] at hz ⊢
  clear hw1
  rw [← hs1]
  have hcl : (cat [⟨#[0]⟩, s]).length < 576460752303423488 := by
    have : (cat [⟨#[0]⟩, s]).length = 1 + s.size := by simp [cat, Nat.add_comm]
    omega
  refine (sumh_any (some ⟨w1.heap.size, 0, none⟩) 2 [⟨#[0]⟩, s] _ (strs2 w1 _ _) (HL.out.nw (n1.alloc _)) hcl (by simp)).mono ?_
  rintro e2 w2 ⟨rfl, n2⟩
  have hz2 : w2.heap[w.heap.size]? = some (.cells z32 42) := (n2.block w.heap.size (by simp; omega) (fun f => f)).trans ((Below.heap_alloc _ _ _ (by omega)).trans hz)
  have hcc : Hid (cat [⟨#[0]⟩, s] = 0 :: s.data.toList) := by simp [cat, Hid]
  have hn : Nw w w2 := Nw.tr (n1.alloc _) n2
  clear hz n2 n1 hcl
  obtain ⟨R, hR⟩ : ∃ R, R = Sh (cat [⟨#[0]⟩, s]) := ⟨_, rfl⟩
  rw [← hR]
  have HR : Hid (R = Sh (cat [⟨#[0]⟩, s])) := hR
  have hRl : (hbs R).size = 32 := by rw [hbs_size, hR, Sh_len]
  clear hR
  go_wp2_with (refine wp_store_agg rfl (.tmp 2) (.tmp 5) 42 32 rfl Tryz.sizeOf42 w.heap.size 0 rfl z32 42 hz2 (hbs R) rfl hRl (hbs_one _) (by decide) (hbs R) (by rw [z32_drop]; simp) ?_; intro w3 j3 f3 z3)
  exact bodyPost_ret (results_cell Tryz.results22 Tryz.isAgg42 Tryz.sizeOf42 rfl j3 hRl) rfl ⟨by rw [HR.out, hcc.out], hn.trans f3 (fun k hk q => by omega)⟩

end Go.Proofs.YtbkhdnceblgljaaGreatDoor
