/- LeftHashes of a twin that nobody wrote. -/
import Derived.Test.YtgobdjdaehlgdaaGreatDoorUh
import Derived.Test.YtgobdjdaehlgdaaGreatDoorTh
namespace Go.Proofs.YtgobdjdaehlgdaaGreatDoor
open Go.RowKit
set_option linter.unusedVariables false
set_option linter.unusedSimpArgs false
set_option maxRecDepth 100000 in
set_option maxHeartbeats 1000000 in
theorem lefth_any (L : List (List UInt8)) (h32 : ∀ x ∈ L, x.length = 32) (hl : L.length ≤ 1048576) (base g : Nat) (ad : Option Addr) (c : Nat) (w : World)
    (ho : w.ownsRow base 96 32 (.slice (some ⟨g, 0, none⟩) (L.length + 1) (L.length + 1)) (L.length + 1) (hsc (L ++ [HB.mk 7777]))) (hs : Hss w (.slice ad L.length c) L) :
    Calls Tryz.prog 24 #[.slice (some ⟨g, 0, none⟩) L.length (L.length + 1), .slice ad L.length c] w fun e w' => e = .returned (.bool true) ∧ Nw w w' := by
  have hall : ∀ x ∈ L ++ [HB.mk 7777], x.length = 32 := fun x hx => by
    rcases List.mem_append.1 hx with h | h
    · exact h32 x h
    · rw [List.mem_singleton.1 h]; exact HB.mk_len _
  have hS := Hss.of hall (show w.ownsRow base 96 32 (.slice (some ⟨g, 0, none⟩) (L.length + 1) (L.length + 1)) (L ++ [HB.mk 7777]).length (hsc (L ++ [HB.mk 7777])) by rw [List.length_append]; exact ho)
  have hT : Hss w (.slice (some ⟨g, 0, none⟩) L.length (L.length + 1)) L := ⟨_, _, rfl, fun k x hk => by
    obtain ⟨ad', cp, e, h2⟩ := hS
    injection e with e1 e2 e3
    obtain ⟨g', o', e4, h3⟩ := h2 k x (by rw [List.getElem?_append_left (List.getElem?_eq_some_iff.1 hk).1]; exact hk)
    exact ⟨g', o', e1.trans e4, h3⟩⟩
  have hM : ∀ j, j < 32 → w.cell? ⟨g, 0 + L.length * 32 + j, none⟩ = (hbs (HB.mk 7777))[j]? := by
    obtain ⟨ad', cp, e, h2⟩ := hS
    injection e with e1 e2 e3
    obtain ⟨g', o', e4, h3⟩ := h2 L.length (HB.mk 7777) (by simp)
    rw [← e1] at e4
    simp only [Option.some.injEq, Addr.mk.injEq, and_true] at e4
    obtain ⟨rfl, rfl⟩ := e4
    exact h3
  have QS : Hid (Calls Tryz.prog 23 #[.slice (some ⟨g, 0, none⟩) L.length (L.length + 1), .slice ad L.length c] w fun e w' => e = .returned (.bool true) ∧ Nw w w') := sameh_yes _ _ L h32 w hT hs (by omega)
  have QI : Hid (∀ V, Calls Tryz.prog 89 #[.agg (hbs (HB.mk 7777)), .int .i64 7777] V fun e w' => e = .returned (.bool true) ∧ Nw V w') := fun V => HB.is_any 7777 (by decide) V
  have M32 : Hid ((HB.mk 7777).length = 32) := HB.mk_len _
  obtain ⟨M, hMe⟩ : ∃ M, M = HB.mk 7777 := ⟨_, rfl⟩
  rw [← hMe] at hM QI M32
  have hcut := cut_hh (some ⟨g, 0, none⟩) L.length (L.length + 1) (L.length + 1) (Nat.le_refl _)
  have HCUT := show Hid _ from hcut
  have HM : Hid (∀ V, Nw w V → ∀ j, j < 32 → V.cell? ⟨g, L.length * 32 + j, none⟩ = (hbs M)[j]?) := fun V nV j hj => by
    have h2 := hM j hj
    rw [Nat.zero_add] at h2
    rw [hbs_get M j (by have := M32.out; omega)] at h2 ⊢
    exact nV.cellOf h2
  clear hMe hM hT hS hall ho hs h32 hcut
  generalize L.length = n at *
  rw [Int.natCast_add] at HCUT
  go_enter Tryz.func24, Tryz.ntmps24
  go_wp2_with fail
  refine QS.out.mono ?_
  rintro _ w1 ⟨rfl, n1⟩
  have N1 : Hid (Nw w w1) := n1
  have hcut : (Instr.sliceAt 66 (.slice (some ⟨g, 0, none⟩) n (n + 1)) none (some (.int .i64 ((n : Int) + 1))) none).run Tryz.prog w1 = .ok (.slice (some ⟨g, 0, none⟩) (n + 1) (n + 1)) w1 := HCUT.out w1
  clear n1
  go_wp2_with (refine wpl_load (by rfl) (.tmp 16) rfl g (n * 32) rfl M M32.out (HM.out w1 N1.out) ?_)
  refine (QI.out _).mono ?_
  rintro _ w2 ⟨rfl, n2⟩
  go_wp2
  go_ret
  exact ⟨rfl, N1.out.tr n2⟩
end Go.Proofs.YtgobdjdaehlgdaaGreatDoor
