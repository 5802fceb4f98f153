/- TileHashes: the walk. -/
import Derived.Test.YtkjonddlmiedcaaGreatDoorUu
import Derived.Test.YtkjonddlmiedcaaGreatDoorUc
import Derived.Test.YtkjonddlmiedcaaGreatDoorUm
import Derived.Test.YtkjonddlmiedcaaGreatDoorTz
namespace Go.Proofs.YtkjonddlmiedcaaGreatDoor
open Go.RowKit
set_option linter.unusedVariables false
set_option linter.unusedSimpArgs false
theorem getD_allV {p : Nat → Prop} {l : List Nat} (h : ∀ k ∈ l, p k) (h0 : p 0) : ∀ j, p (l.getD j 0) := fun j => by
  rw [List.getD_eq_getElem?_getD]
  cases e : l[j]? with
  | none => exact h0
  | some x => exact h x (List.mem_of_getElem? e)
/-- A twin's hashes, with the room behind them. -/
theorem twin_rw {w : World} {base g : Nat} {L : List (List UInt8)} (h32 : ∀ x ∈ L, x.length = 32) (ho : w.ownsRow base 26 32 (.slice (some ⟨g, 0, none⟩) (L.length + 1) (L.length + 1)) (L.length + 1) (hsc (L ++ [HB.mk 7777]))) : Rw w (some ⟨g, 0, none⟩) (L.length + 1) L := by
  have hall : ∀ x ∈ L ++ [HB.mk 7777], x.length = 32 := fun x hx => by
    rcases List.mem_append.1 hx with h | h
    · exact h32 x h
    · rw [List.mem_singleton.1 h]; exact HB.mk_len _
  have hS := Hss.of hall (show w.ownsRow base 26 32 (.slice (some ⟨g, 0, none⟩) (L.length + 1) (L.length + 1)) (L ++ [HB.mk 7777]).length (hsc (L ++ [HB.mk 7777])) by rw [List.length_append]; exact ho)
  refine ⟨by omega, _, _, rfl, fun k x hk => ?_⟩
  obtain ⟨ad', cp, e, h2⟩ := hS
  injection e with e1 e2 e3
  obtain ⟨g', o', e4, h3⟩ := h2 k x (by rw [List.getElem?_append_left (List.getElem?_eq_some_iff.1 hk).1]; exact hk)
  exact ⟨g', o', e1.trans e4, h3⟩
/-- What both answer. -/
theorem both_hash (L : List (List UInt8)) (h32 : ∀ x ∈ L, x.length = 32) (hl : L.length < 4611686018427387904) (x y : Int) (hx : -9223372036854775808 ≤ x ∧ x ≤ 9223372036854775807) (hy : -9223372036854775808 ≤ y ∧ y ≤ 9223372036854775807) :
    ∃ (R : List UInt8) (j : Bool) (fc fp : Int), R.length = 32 ∧
      (∀ (V : World) (ad : Option Addr) (c : Nat) {B : Nat} {a : Nat → Addr}, Rw V ad c L → Laid V → Sent B V a → Calls Tryz.prog 8 #[.slice ad L.length c, .int .i64 x, .int .i64 y] V fun e w' => e = .returned (.tuple #[.agg (hbs R), if j then .nilIface else sen (a 1)]) ∧ Nw V w') ∧
      (∀ (V : World) (ad : Option Addr) (c : Nat), Rw V ad c L → Laid V → Calls Tryz.prog 9 #[.slice ad L.length c, .int .i64 x, .int .i64 y] V fun e w' => e = .returned (.tuple #[.agg (hbs R), .agg #[.int .i64 fc, .int .i64 fp]]) ∧ Nw V w') ∧
      (∀ (V : World) {B : Nat} {a : Nat → Addr}, Sent B V a → Calls Tryz.prog 10 #[if j then .nilIface else sen (a 1), .agg #[.int .i64 fc, .int .i64 fp]] V fun e w' => e = .returned (.bool true) ∧ Nw V w') := by
  by_cases ho : okH L.length x y
  · obtain ⟨hn, k, A, hk, rfl, rfl, hA, hd⟩ := ho
    have h0 : 0 < 2 ^ k := Nat.pow_pos (by decide)
    refine ⟨ovr k ((L.drop A).take (2 ^ k)), true, 0, 0, ovr_32 k _ (fun x hx => h32 x (List.mem_of_mem_drop (List.mem_of_mem_take hx))), fun V ad c B a hr hLd hS => ?_, fun V ad c hr hLd => ?_, fun V B a hS => ?_⟩
    · obtain ⟨g, o, rfl⟩ := hr.some (by omega)
      exact thash_yes L h32 hn k A hk hA hd g o c V hr hLd
    · obtain ⟨g, o, rfl⟩ := hr.some (by omega)
      exact dhash_yes L h32 hn k A hk hA hd g o c V hr hLd
    · have := same_any hS (show EV V a .nilIface 0 none from .inl ⟨rfl, rfl, rfl⟩) 0 0
      exact this
  · refine ⟨zh, false, 2, -1, by simp, fun V ad c B a hr hLd hS => ?_, fun V ad c hr hLd => ?_, fun V B a hS => ?_⟩
    · exact thash_no ad L.length c x y hl hx hy ho V hS
    · exact dhash_no ad L.length c x y hl hx hy ho V
    · have := same_any hS (show EV V a (sen (a 1)) 2 none from .inr (.inl ⟨1, by decide, rfl, rfl, rfl⟩)) 2 (-1)
      exact this
end Go.Proofs.YtkjonddlmiedcaaGreatDoor
