/- Where a text goes wrong: what the statement asks of it. -/
import Derived.Test.YtdcnoepgnncjoabDoorB1
import Derived.Test.YtdcnoepgnncjoabDoorH2
import Derived.Deep.DeepCutAuto
namespace Go.Proofs.YtdcnoepgnncjoabDoor
open Go.RowKit
set_option linter.unusedVariables false
set_option linter.unusedSimpArgs false

theorem ba_size (l : List UInt8) : (⟨l.toArray⟩ : ByteArray).size = l.length := by show l.toArray.size = _; simp
theorem EV.some {w : World} {a : Nat → Addr} {v : Value} {code : Nat} {pl : Option Int} (h : EV w a v code pl) (hc : code ≠ 0) : ∃ t u, v = .iface t u := by
  rcases h.form with ⟨_, h⟩ | ⟨t, u, h, _⟩
  · exact absurd h hc
  · exact ⟨t, u, h⟩
theorem place_any {B : Nat} {w : World} {a : Nat → Addr} (hS : Sent B w a) (v : Value) (s : ByteArray) (k : Nat) (hv : EV w a v 3 (some (k : Int))) (hk : k ≤ s.size) (hs : s.size ≤ 9223372036854775807) :
    Calls Tryd.prog 8 #[v, .string s] w fun e w' => e = .returned (.int .i64 (k : Int)) ∧ Nw w w' := by
  have z1 : ¬ (k : Int) < 0 := by omega
  have z2 : ¬ (s.size : Int) < (k : Int) := by omega
  go_enter Tryd.func8, Tryd.ntmps8
  go_wp2_with fail
  refine (at_any hS hv).mono ?_
  rintro e w1 ⟨rfl, n1⟩
  have q := isAt_any (hS.fr n1 (fun _ _ f => f)) (hv.fr n1) 3 (k : Int)
  rw [show atB 3 (some (k : Int)) 3 (k : Int) = true by simp [atB]] at q
  simp only [Option.getD_some, Option.isSome_some]
  go_wp2_with fail
  refine q.mono ?_
  rintro e w2 ⟨rfl, n2⟩
  go_wp2_with fail
  go_ret
  exact ⟨rfl, Nw.tr n1 n2⟩
/-- The end at place k of those that are tried. -/
def endB (k : Nat) : ByteArray := ⟨(ends.getD k []).toArray⟩
theorem endB_size : ∀ k, k < 12 → (endB k).size ≤ 4 := by decide
theorem endB_list (k : Nat) : (endB k).data.toList = ends.getD k [] := by simp [endB]
theorem ends_cells : ∀ k, k < 12 → (#[Value.string ⟨#[]⟩, .string ⟨#[65]⟩, .string ⟨#[61]⟩, .string ⟨#[61, 61]⟩, .string ⟨#[65, 65]⟩, .string ⟨#[65, 65, 65]⟩, .string ⟨#[65, 61]⟩, .string ⟨#[65, 61, 61]⟩, .string ⟨#[103, 61, 61]⟩, .string ⟨#[73, 61]⟩, .string ⟨#[119, 65, 61, 61]⟩, .string ⟨#[65, 73, 61]⟩] : Array Value)[k]? = some (.string (endB k)) := by
  intro k hk
  have h : k = 0 ∨ k = 1 ∨ k = 2 ∨ k = 3 ∨ k = 4 ∨ k = 5 ∨ k = 6 ∨ k = 7 ∨ k = 8 ∨ k = 9 ∨ k = 10 ∨ k = 11 := by omega
  rcases h with rfl | rfl | rfl | rfl | rfl | rfl | rfl | rfl | rfl | rfl | rfl | rfl <;> rfl
/-- What a reading answers, by its error. -/
theorem rd_zero {α : Type} (z : α) (s : ByteArray) (r : Except Nat α) (h : (rd z s r).2.1 = 0) : ¬ 1048576 < s.size ∧ r = .ok (rd z s r).1 := by
  unfold rd at h ⊢
  by_cases hb : 1048576 < s.size
  · rw [if_pos hb] at h; simp at h
  · rw [if_neg hb] at h ⊢
    cases r with
    | error k => simp at h
    | ok b => exact ⟨hb, rfl⟩
theorem rd_some {α : Type} (z : α) (s : ByteArray) (r : Except Nat α) (hs : ¬ 1048576 < s.size) (h : (rd z s r).2.1 ≠ 0) : ∃ k, r = .error k ∧ (rd z s r).2 = (3, some (k : Int)) := by
  cases r with
  | error k => exact ⟨k, rfl, by rw [rd_err _ _ _ hs k rfl]⟩
  | ok b => rw [rd_ok _ _ _ hs b rfl] at h; exact absurd rfl h
set_option maxRecDepth 100000 in
set_option maxHeartbeats 2000000 in
theorem ends_any {B : Nat} {w : World} {a : Nat → Addr} (hS : Sent B w a) (s : ByteArray) (hs : s.size ≤ 100000) (he : ∃ x ∈ ends, ∃ b, un64 0 false (s.data.toList ++ x) = .ok b) :
    Calls Tryd.prog 9 #[.string s] w fun e w' => e = .returned (.bool true) ∧ Nw w w' := by
  have HE : Hid (∃ x ∈ ends, ∃ b, un64 0 false (s.data.toList ++ x) = .ok b) := he
  clear he
  go_enter Tryd.func9, Tryd.ntmps9
  go_wp2_with fail
  have hcl : Hid (∀ k, k < 12 → (w.alloc (.cells #[Value.string ⟨#[]⟩, .string ⟨#[65]⟩, .string ⟨#[61]⟩, .string ⟨#[61, 61]⟩, .string ⟨#[65, 65]⟩, .string ⟨#[65, 65, 65]⟩, .string ⟨#[65, 61]⟩, .string ⟨#[65, 61, 61]⟩, .string ⟨#[103, 61, 61]⟩, .string ⟨#[73, 61]⟩, .string ⟨#[119, 65, 61, 61]⟩, .string ⟨#[65, 73, 61]⟩] 46)).cell? ⟨w.heap.size, k, none⟩ = some (.string (endB k))) := fun k hk => by rw [cell_of (heap_alloc_new w _)]; exact ends_cells k hk
  have n1 : Nw w (w.alloc (.cells #[Value.string ⟨#[]⟩, .string ⟨#[65]⟩, .string ⟨#[61]⟩, .string ⟨#[61, 61]⟩, .string ⟨#[65, 65]⟩, .string ⟨#[65, 65, 65]⟩, .string ⟨#[65, 61]⟩, .string ⟨#[65, 61, 61]⟩, .string ⟨#[103, 61, 61]⟩, .string ⟨#[73, 61]⟩, .string ⟨#[119, 65, 61, 61]⟩, .string ⟨#[65, 73, 61]⟩] 46)) := (Fr.refl _ _).alloc _
  generalize w.alloc (.cells #[Value.string ⟨#[]⟩, .string ⟨#[65]⟩, .string ⟨#[61]⟩, .string ⟨#[61, 61]⟩, .string ⟨#[65, 65]⟩, .string ⟨#[65, 65, 65]⟩, .string ⟨#[65, 61]⟩, .string ⟨#[65, 61, 61]⟩, .string ⟨#[103, 61, 61]⟩, .string ⟨#[73, 61]⟩, .string ⟨#[119, 65, 61, 61]⟩, .string ⟨#[65, 73, 61]⟩] 46) = w1 at hcl n1 ⊢
  go_loopw [4] (fun i wr => ∃ k : Nat, k ≤ 12 ∧ i = .int .i64 k ∧ Nw w1 wr ∧ ∀ j, j < k → ∀ b, un64 0 false (s.data.toList ++ ends.getD j []) ≠ .ok b) (fun i _ => 16 - (intOf i).toNat)
  case atStart => exact ⟨0, by omega, rfl, Fr.refl _ _, fun j hj => absurd hj (by omega)⟩
  case round =>
    obtain ⟨k, hk, rfl, hnw, hno⟩ := hrel
    have HNO : Hid (∀ j, j < k → ∀ b, un64 0 false (s.data.toList ++ ends.getD j []) ≠ .ok b) := hno
    clear hno
    by_cases hlt : k < 12
    · have hc := hnw.cellOf (hcl.out k hlt)
      have hsz := endB_size k hlt
      obtain ⟨E, hE⟩ : ∃ E, E = endB k := ⟨_, rfl⟩
      have hEl : Hid (E.data.toList = ends.getD k []) := by unfold Hid; rw [hE]; exact endB_list k
      rw [← hE] at hc hsz
      clear hE
      have hadd := add_any s E (by omega)
      have hcs : (s ++ E).size ≤ 1048576 := by rw [cat_size]; omega
      obtain ⟨R, hR⟩ : ∃ R, R = rd [] (s ++ E) (un64 0 false (s ++ E).data.toList) := ⟨_, rfl⟩
      have q := from64_any (hS.fr (n1.tr hnw) (fun _ _ f => f)) (s ++ E) (by omega)
      rw [← hR] at q
      have HR : Hid (R = rd [] (s ++ E) (un64 0 false (s.data.toList ++ ends.getD k []))) := by unfold Hid; rw [hR, cat_list, hEl.out]
      clear hR
      go_wp2_with fail
      refine q.mono ?_
      rintro e w2 ⟨v2, rfl, ev2, n2⟩
      by_cases hc0 : R.2.1 = 0
      · rw [hc0] at ev2
        obtain rfl := ev2.nil
        go_wp2_with fail
        go_ret
        exact ⟨rfl, n1.tr (hnw.tr n2)⟩
      · obtain ⟨ty, u, rfl⟩ := ev2.some hc0
        have HN2 : Hid (∀ j, j < k + 1 → ∀ b, un64 0 false (s.data.toList ++ ends.getD j []) ≠ .ok b) := fun j hj b hb => by
          by_cases hjk : j = k
          · subst hjk
            apply hc0
            rw [HR.out, rd_ok _ _ _ (by omega) _ hb]
          · exact HNO.out j (by omega) b hb
        go_wp2_with fail
        exact ⟨⟨k + 1, by omega, by go_num, hnw.tr n2, HN2.out⟩, by simp [intOf]; omega⟩
    · exfalso
      obtain ⟨x, hx, b, hb⟩ := HE.out
      obtain ⟨j, hj, hjx⟩ := List.mem_iff_getElem.1 hx
      have hj12 : j < 12 := hj
      refine HNO.out j (by omega) b ?_
      rw [List.getD_eq_getElem?_getD, List.getElem?_eq_getElem hj, Option.getD_some, hjx]
      exact hb
end Go.Proofs.YtdcnoepgnncjoabDoor
