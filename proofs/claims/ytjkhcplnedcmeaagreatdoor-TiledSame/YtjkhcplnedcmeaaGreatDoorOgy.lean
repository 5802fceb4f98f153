/- reader: Tile, out of what fetch gives; Forget. -/
import Derived.Test.YtjkhcplnedcmeaaGreatDoorOgx
import Derived.Test.YtjkhcplnedcmeaaGreatDoorUi
namespace Go.Proofs.YtjkhcplnedcmeaaGreatDoor
open Go.RowKit
set_option linter.unusedVariables false
set_option linter.unusedSimpArgs false
set_option maxRecDepth 100000 in
theorem rtile_none {w : World} {q : Value} (L I : Nat) (W : Int) (ev : Value) (PW : World → Prop)
    (hq : Calls Tryz.prog 142 #[q, .agg #[.int .u8 (L : Int), .int .u64 (I : Int), .int .i64 W]] (w.alloc (.cells #[.int .u8 (L : Int), .int .u64 (I : Int), .int .i64 W] 120)) fun e w' => e = .returned (.tuple #[.slice none 0 0, ev]) ∧ PW w') :
    Calls Tryz.prog 103 #[q, .agg #[.int .u8 (L : Int), .int .u64 (I : Int), .int .i64 W]] w fun e w' => e = .returned (.tuple #[.slice none 0 0, ev]) ∧ PW w' := by
  have qc := hclone_nil
  go_enter Tryz.func103, Tryz.ntmps103
  go_wp2_with fail
  refine hq.mono ?_
  rintro e w1 ⟨rfl, p1⟩
  have H1 : Hid (PW w1) := p1
  clear p1 hq
  go_wp2_with fail
  refine (qc _).mono ?_
  rintro e w2 ⟨rfl, rfl⟩
  go_wp2
  go_ret2
  exact ⟨rfl, H1.out⟩
set_option maxRecDepth 100000 in
theorem rtile_some {w : World} {q : Value} (L I : Nat) (W : Int) (T : List (List UInt8)) (h32 : ∀ u ∈ T, u.length = 32) (hl : T.length ≤ 256) (PW : Nat → World → Prop) (hP : ∀ g w1 w2, PW g w1 → Nw w1 w2 → PW g w2) (hs : ∀ g w1, PW g w1 → w.heap.size < w1.heap.size)
    (hq : Calls Tryz.prog 142 #[q, .agg #[.int .u8 (L : Int), .int .u64 (I : Int), .int .i64 W]] (w.alloc (.cells #[.int .u8 (L : Int), .int .u64 (I : Int), .int .i64 W] 120)) fun e w' => ∃ g, e = .returned (.tuple #[.slice (some ⟨g, 0, none⟩) T.length T.length, .nilIface]) ∧ w'.ownsRow 0 69 32 (.slice (some ⟨g, 0, none⟩) T.length T.length) T.length (hsc T) ∧ PW g w') :
    Calls Tryz.prog 103 #[q, .agg #[.int .u8 (L : Int), .int .u64 (I : Int), .int .i64 W]] w fun e w' => ∃ v g b, e = .returned (.tuple #[v, .nilIface]) ∧ w.heap.size < b ∧ w'.ownsRow b 69 32 v T.length (hsc T) ∧ PW g w' := by
  have HP : Hid (∀ g w1 w2, PW g w1 → Nw w1 w2 → PW g w2) := hP
  have HS : Hid (∀ g w1, PW g w1 → w.heap.size < w1.heap.size) := hs
  have H32 : Hid (∀ u ∈ T, u.length = 32) := h32
  obtain ⟨m, hm⟩ : ∃ m, m = T.length := ⟨_, rfl⟩
  have HM : Hid (m = T.length) := hm
  rw [← hm] at hq hl
  clear hm h32 hP hs
  go_enter Tryz.func103, Tryz.ntmps103
  go_wp2_with fail
  refine hq.mono ?_
  rintro e w1 ⟨g, rfl, o1, p1⟩
  have qc := hclone_some o1 HM.out.symm H32.out (by omega)
  have H1 : Hid (PW g w1) := p1
  clear o1 p1 hq
  go_wp2_with fail
  refine qc.mono ?_
  rintro e w2 ⟨v, rfl, o2, n2⟩
  have H2 : Hid (w.heap.size < w1.heap.size ∧ w2.ownsRow w1.heap.size 69 32 v T.length (hsc T) ∧ PW g w2) := ⟨HS.out g w1 H1.out, by rw [← HM.out]; exact o2, HP.out g _ _ H1.out n2⟩
  obtain ⟨va, vc, rfl⟩ := ownsRow_form o2
  clear o2 n2 qc
  go_wp2
  go_ret2
  exact ⟨_, g, _, rfl, H2.out⟩
end Go.Proofs.YtjkhcplnedcmeaaGreatDoor
namespace Go.Proofs.YtjkhcplnedcmeaaGreatDoor
open Go.RowKit
set_option linter.unusedVariables false
set_option linter.unusedSimpArgs false
/-- Tags of what was there, 9 behind it. -/
def tgC (tg : Nat → Nat) (s : Nat) : Nat → Nat := fun k => if k < s then tg k else 9
theorem Rm.cut {w : World} {tg : Nat → Nat} {rb sb cb bm n : Nat} {M : Tx} {p : Option Addr} {c : Nat} {zs : List Int} {cr rn wn : Int} {dd : Bool} {N cap : Nat} {L : CT.LT} {H : CT.KT → List (List UInt8)} {x y : Int} (h : Rm w tg rb sb cb bm n M p c zs cr rn wn dd N cap L H x y) : Rm w (tgC tg w.heap.size) rb sb cb bm n M p c zs cr rn wn dd N cap L H x y := by
  have tb : ∀ k, k < w.heap.size → tgC tg w.heap.size k = tg k := fun k hk => by simp [tgC, hk]
  refine ⟨h.blk, h.st, h.ca.mono (fun k hk e => by rw [tb k hk]; exact e) (Nat.le_refl _), fun z hz => ?_, by rw [tb _ (heap_lt h.blk)]; exact h.tr, ⟨by rw [tb _ (heap_lt h.st.blk)]; exact h.ts.1, by rw [tb _ h.st.mp.lt]; exact h.ts.2.1, fun g o e => by rw [tb _ (h.lp g o e)]; exact h.ts.2.2 g o e⟩, h.lp⟩
  obtain ⟨⟨g, hg, ht⟩, hh, hr⟩ := h.row z hz
  exact ⟨⟨g, hg, by rw [tb _ (hr.lt g (by rw [hg]; rfl)).2]; exact ht⟩, hh, hr⟩
end Go.Proofs.YtjkhcplnedcmeaaGreatDoor
namespace Go.Proofs.YtjkhcplnedcmeaaGreatDoor
open Go.RowKit
set_option linter.unusedVariables false
set_option linter.unusedSimpArgs false
end Go.Proofs.YtjkhcplnedcmeaaGreatDoor
namespace Go.Proofs.YtjkhcplnedcmeaaGreatDoor
open Go.RowKit
set_option linter.unusedVariables false
set_option linter.unusedSimpArgs false
end Go.Proofs.YtjkhcplnedcmeaaGreatDoor
namespace Go.Proofs.YtjkhcplnedcmeaaGreatDoor
open Go.RowKit
set_option linter.unusedVariables false
set_option linter.unusedSimpArgs false
end Go.Proofs.YtjkhcplnedcmeaaGreatDoor
