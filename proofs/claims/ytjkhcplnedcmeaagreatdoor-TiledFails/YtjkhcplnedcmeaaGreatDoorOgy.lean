/- reader: Tile, out of what fetch gives; Forget. -/
import Derived.Test.YtjkhcplnedcmeaaGreatDoorOgx
import Derived.Test.YtjkhcplnedcmeaaGreatDoorUi
namespace Go.Proofs.YtjkhcplnedcmeaaGreatDoor
open Go.RowKit
set_option linter.unusedVariables false
set_option linter.unusedSimpArgs false
set_option maxRecDepth 100000 in
theorem rtile_none {w : World} {q : Value} (L I : Nat) (W : Int) (ev : Value) (PW : World → Prop)
    (hq : Calls Tryz.prog 142 #[q, .agg #[.int .u8 (L : Int), .int .u64 (I : Int), .int .i64 W]] (w.alloc (.cells #[.int .u8 (L : Int), .int .u64 (I : Int), .int .i64 W] 120)) fun e w' => e = .returned (.tuple #[.slice none 0 0, ev]) ∧ PW w') :
    Calls Tryz.prog 103 #[q, .agg #[.int .u8 (L : Int), .int .u64 (I : Int), .int .i64 W]] w fun e w' => e = .returned (.tuple #[.slice none 0 0, ev]) ∧ PW w' := by
  have qc := hclone_nil
  go_enter Tryz.func103, Tryz.ntmps103
  go_wp2_with fail
  refine hq.mono ?_
  rintro e w1 ⟨rfl, p1⟩
  have H1 : Hid (PW w1) := p1
  clear p1 hq
  go_wp2_with fail
  refine (qc _).mono ?_
  rintro e w2 ⟨rfl, rfl⟩
  go_wp2
  go_ret2
  exact ⟨rfl, H1.out⟩
end Go.Proofs.YtjkhcplnedcmeaaGreatDoor
namespace Go.Proofs.YtjkhcplnedcmeaaGreatDoor
open Go.RowKit
set_option linter.unusedVariables false
set_option linter.unusedSimpArgs false
/-- Tags of what was there, 9 behind it. -/
def tgC (tg : Nat → Nat) (s : Nat) : Nat → Nat := fun k => if k < s then tg k else 9
theorem Rm.cut {w : World} {tg : Nat → Nat} {rb sb cb bm n : Nat} {M : Tx} {p : Option Addr} {c : Nat} {zs : List Int} {cr rn wn : Int} {dd : Bool} {N cap : Nat} {L : CT.LT} {H : CT.KT → List (List UInt8)} {x y : Int} (h : Rm w tg rb sb cb bm n M p c zs cr rn wn dd N cap L H x y) : Rm w (tgC tg w.heap.size) rb sb cb bm n M p c zs cr rn wn dd N cap L H x y := by
  have tb : ∀ k, k < w.heap.size → tgC tg w.heap.size k = tg k := fun k hk => by simp [tgC, hk]
  refine ⟨h.blk, h.st, h.ca.mono (fun k hk e => by rw [tb k hk]; exact e) (Nat.le_refl _), fun z hz => ?_, by rw [tb _ (heap_lt h.blk)]; exact h.tr, ⟨by rw [tb _ (heap_lt h.st.blk)]; exact h.ts.1, by rw [tb _ h.st.mp.lt]; exact h.ts.2.1, fun g o e => by rw [tb _ (h.lp g o e)]; exact h.ts.2.2 g o e⟩, h.lp⟩
  obtain ⟨⟨g, hg, ht⟩, hh, hr⟩ := h.row z hz
  exact ⟨⟨g, hg, by rw [tb _ (hr.lt g (by rw [hg]; rfl)).2]; exact ht⟩, hh, hr⟩
end Go.Proofs.YtjkhcplnedcmeaaGreatDoor
namespace Go.Proofs.YtjkhcplnedcmeaaGreatDoor
open Go.RowKit
set_option linter.unusedVariables false
set_option linter.unusedSimpArgs false
end Go.Proofs.YtjkhcplnedcmeaaGreatDoor
namespace Go.Proofs.YtjkhcplnedcmeaaGreatDoor
open Go.RowKit
set_option linter.unusedVariables false
set_option linter.unusedSimpArgs false
end Go.Proofs.YtjkhcplnedcmeaaGreatDoor
namespace Go.Proofs.YtjkhcplnedcmeaaGreatDoor
open Go.RowKit
set_option linter.unusedVariables false
set_option linter.unusedSimpArgs false
end Go.Proofs.YtjkhcplnedcmeaaGreatDoor
