/- Which error it is, and its place: what the statements' own functions answer of an error. -/
import Derived.Test.YthkkjpefealdgaaDoorE3
namespace Go.Proofs.YthkkjpefealdgaaDoor
open Go.RowKit
set_option linter.unusedVariables false
set_option linter.unusedSimpArgs false

/-- The errors of package api lie in memory below block B: the one of number i + 1 at a i. -/
structure Sent (B : Nat) (w : World) (a : Nat → Addr) : Prop where
  c0 : w.cell? ⟨1, 0, none⟩ = some (sen (a 0))
  c1 : w.cell? ⟨3, 0, none⟩ = some (sen (a 1))
  c2 : w.cell? ⟨4, 0, none⟩ = some (sen (a 2))
  c3 : w.cell? ⟨2, 0, none⟩ = some (sen (a 3))
  c4 : w.cell? ⟨0, 0, none⟩ = some (sen (a 4))
  c5 : w.cell? ⟨5, 0, none⟩ = some (sen (a 5))
  c6 : w.cell? ⟨6, 0, none⟩ = some (sen (a 6))
  c7 : w.cell? ⟨7, 0, none⟩ = some (sen (a 7))
  c8 : w.cell? ⟨8, 0, none⟩ = some (sen (a 8))
  c9 : w.cell? ⟨9, 0, none⟩ = some (sen (a 9))
  c10 : w.cell? ⟨10, 0, none⟩ = some (sen (a 10))
  c11 : w.cell? ⟨11, 0, none⟩ = some (sen (a 11))
  c12 : w.cell? ⟨12, 0, none⟩ = some (sen (a 12))
  c13 : w.cell? ⟨13, 0, none⟩ = some (sen (a 13))
  c14 : w.cell? ⟨14, 0, none⟩ = some (sen (a 14))
  c15 : w.cell? ⟨15, 0, none⟩ = some (sen (a 15))
  et : w.cell? ⟨17, 0, none⟩ = some (.iface 121 (.agg #[.pointer (some ⟨19, 34, none⟩)]))
  blk : ∀ i, i < 16 → (a i).block < B ∧ ∃ c t, w.heap[(a i).block]? = some (.cells c t (0, 0))
  ne : ∀ i j, i < 16 → j < 16 → i ≠ j → a i ≠ a j
  hB : 17 + 1 ≤ B
  hsz : B ≤ w.heap.size
theorem Sent.fr {B : Nat} {w w' : World} {a : Nat → Addr} {S : Nat → Prop} (h : Sent B w a) (hf : Fr S w w') (hS : ∀ k, k < B → ¬ S k) : Sent B w' a := by
  have hc : ∀ k, k < 17 + 1 → w'.cell? ⟨k, 0, none⟩ = w.cell? ⟨k, 0, none⟩ := fun k hk => hf.cell (p := ⟨k, 0, none⟩) (by have := h.hB; have := h.hsz; show k < w.heap.size; omega) (hS k (by have := h.hB; omega))
  exact ⟨(hc _ (by decide)).trans h.c0, (hc _ (by decide)).trans h.c1, (hc _ (by decide)).trans h.c2, (hc _ (by decide)).trans h.c3, (hc _ (by decide)).trans h.c4, (hc _ (by decide)).trans h.c5, (hc _ (by decide)).trans h.c6, (hc _ (by decide)).trans h.c7, (hc _ (by decide)).trans h.c8, (hc _ (by decide)).trans h.c9, (hc _ (by decide)).trans h.c10, (hc _ (by decide)).trans h.c11, (hc _ (by decide)).trans h.c12, (hc _ (by decide)).trans h.c13, (hc _ (by decide)).trans h.c14, (hc _ (by decide)).trans h.c15, (hc _ (by decide)).trans h.et,
    fun i hi => ⟨(h.blk i hi).1, by obtain ⟨hb, c, t, hh⟩ := h.blk i hi; exact ⟨c, t, (hf.block _ (by have := h.hsz; omega) (hS _ hb)).trans hh⟩⟩, h.ne, h.hB, Nat.le_trans h.hsz hf.size⟩

/-- v is the error of that number (0: none), at that place. -/
def EV (w : World) (a : Nat → Addr) (v : Value) (code : Nat) (pl : Option Int) : Prop :=
  (v = .nilIface ∧ code = 0 ∧ pl = none) ∨ (∃ i, i < 16 ∧ v = sen (a i) ∧ code = i + 1 ∧ pl = none) ∨
  (∃ i pb q, i < 16 ∧ v = .iface 85 (.pointer (some ⟨pb, 0, none⟩)) ∧ Flt w pb (a i) q ∧ code = i + 1 ∧ pl = some q)
theorem EV.fr {w w' : World} {a : Nat → Addr} {v : Value} {code : Nat} {pl : Option Int} (h : EV w a v code pl) (hf : Fr (fun _ => False) w w') : EV w' a v code pl := by
  rcases h with h | h | ⟨i, pb, q, hi, hv, ⟨h0, h1⟩, hc, hp⟩
  · exact .inl h
  · exact .inr (.inl h)
  · have hl : pb < w.heap.size := World.block_lt_of_cell? w ⟨pb, 0, none⟩ h0
    exact .inr (.inr ⟨i, pb, q, hi, hv, ⟨(hf.cell (p := ⟨pb, 0, none⟩) hl (fun f => f)).trans h0, (hf.cell (p := ⟨pb, 1, none⟩) hl (fun f => f)).trans h1⟩, hc, hp⟩)

theorem is_any {B : Nat} {w : World} {a : Nat → Addr} {v : Value} {code : Nat} {pl : Option Int} (hS : Sent B w a) (hv : EV w a v code pl) (h0 : code ≠ 0) (j : Nat) (hj : j < 16) :
    Calls Tryd.prog 44 #[v, sen (a j)] w fun e w' => e = .returned (.bool (decide (code = j + 1))) ∧ w' = w := by
  rcases hv with ⟨_, h, _⟩ | ⟨i, hi, rfl, rfl, _⟩ | ⟨i, pb, q, hi, rfl, ⟨hc0, hc1⟩, rfl, _⟩
  · exact absurd h h0
  · by_cases hij : i = j
    · subst hij
      simpa using is_same (a i) w
    · obtain ⟨_, ci, ti, hbi⟩ := hS.blk i hi
      obtain ⟨_, cj, tj, hbj⟩ := hS.blk j hj
      have hd : decide (i + 1 = j + 1) = false := decide_eq_false (by omega)
      rw [hd]
      exact is_other (a i) (a j) ci cj ti tj w (hS.ne i j hi hj hij) hbi hbj
  · by_cases hij : i = j
    · subst hij
      simpa using is_wrap_same pb 0 (a i) w hc0
    · obtain ⟨_, ci, ti, hbi⟩ := hS.blk i hi
      obtain ⟨_, cj, tj, hbj⟩ := hS.blk j hj
      have hd : decide (i + 1 = j + 1) = false := decide_eq_false (by omega)
      rw [hd]
      exact is_wrap_other pb 0 (a j) (a i) ci cj ti tj w hc0 (hS.ne i j hi hj hij) hbi hbj

theorem code_nil (w : World) : Calls Tryd.prog 33 #[.nilIface] w fun e w' => e = .returned (.int .i64 0) ∧ Fr (fun _ => False) w w' := by
  go_enter Tryd.func33, Tryd.ntmps33
  go_wp2
  go_ret
  exact ⟨rfl, Fr.refl _ _⟩
/-- An interface value that is not nil. -/
def NN (v : Value) : Prop := ∃ t u, v = .iface t u
set_option maxRecDepth 100000 in
set_option maxHeartbeats 4000000 in
theorem code_some {B : Nat} {w : World} {a : Nat → Addr} {t : TypeId} {u : Value} {code : Nat} {pl : Option Int} (hS : Sent B w a) (hv : EV w a (.iface t u) code pl) (h0 : 1 ≤ code) (h16 : code ≤ 16) :
    Calls Tryd.prog 33 #[.iface t u] w fun e w' => e = .returned (.int .i64 code) ∧ Fr (fun _ => False) w w' := by
  obtain ⟨c0, c1, c2, c3, c4, c5, c6, c7, c8, c9, c10, c11, c12, c13, c14, c15, et, blk, ne, hB, hsz⟩ := hS
  have hS : Sent B w a := ⟨c0, c1, c2, c3, c4, c5, c6, c7, c8, c9, c10, c11, c12, c13, c14, c15, et, blk, ne, hB, hsz⟩
  obtain ⟨W1, hW1⟩ : ∃ W1, W1 = w.alloc (.cells #[sen (a 0), sen (a 1), sen (a 2), sen (a 3), sen (a 4), sen (a 5), sen (a 6), sen (a 7), sen (a 8), sen (a 9), sen (a 10), sen (a 11), sen (a 12), sen (a 13), sen (a 14), sen (a 15)] 90) := ⟨_, rfl⟩
  have hfr : Fr (fun _ => False) w W1 := by rw [hW1]; exact (Fr.refl _ _).alloc _
  have hS1 : Sent B W1 a := hS.fr hfr (fun _ _ f => f)
  have hv1 := hv.fr hfr
  have hcell : ∀ k, k < 16 → W1.cell? ⟨w.heap.size, k, none⟩ = some (sen (a k)) := by
    intro k hk
    rw [hW1, cell_of (heap_alloc_new w _)]
    match k, hk with
    | 0, _ => rfl
    | 1, _ => rfl
    | 2, _ => rfl
    | 3, _ => rfl
    | 4, _ => rfl
    | 5, _ => rfl
    | 6, _ => rfl
    | 7, _ => rfl
    | 8, _ => rfl
    | 9, _ => rfl
    | 10, _ => rfl
    | 11, _ => rfl
    | 12, _ => rfl
    | 13, _ => rfl
    | 14, _ => rfl
    | 15, _ => rfl
    | n + 16, h => exact absurd h (by omega)
  have HW : Hid (w.alloc (.cells #[sen (a 0), sen (a 1), sen (a 2), sen (a 3), sen (a 4), sen (a 5), sen (a 6), sen (a 7), sen (a 8), sen (a 9), sen (a 10), sen (a 11), sen (a 12), sen (a 13), sen (a 14), sen (a 15)] 90) = W1) := hW1.symm
  clear hW1
  go_enter Tryd.func33, Tryd.ntmps33
  go_wp2
  rw [HW.out]
  clear HW c0 c1 c2 c3 c4 c5 c6 c7 c8 c9 c10 c11 c12 c13 c14 c15
  go_loop [4, 5] (fun n i => ∃ k : Nat, k ≤ 16 ∧ i = .int .i64 k ∧ n = .int .i64 (if code ≤ k then (code : Int) else -1)) (fun _ i => 16 - (intOf i).toNat)
  case atStart => exact ⟨0, by omega, rfl, by rw [if_neg (by omega)]⟩
  case round =>
    obtain ⟨k, hk, rfl, rfl⟩ := hrel
    by_cases hlt : k < 16
    · have hc := hcell k hlt
      have his := is_any hS1 hv1 (by omega) k hlt
      by_cases hck : code = k + 1
      · have hd : decide (code = k + 1) = true := decide_eq_true hck
        rw [hd] at his
        have HC : Hid (code = k + 1) := hck
        have hif : (if code ≤ k then (code : Int) else -1) = -1 := if_neg (by omega)
        rw [hif]
        clear hck hd hif
        go_wp2_with (go_at_call 44; refine his.mono ?_; rintro e w2 ⟨rfl, rfl⟩)
        go_round
        case rel => exact ⟨k + 1, by omega, by go_num, by rw [if_pos (Nat.le_of_eq HC.out), HC.out]; go_num⟩
        case measure => simp [intOf]; omega
      · have hd : decide (code = k + 1) = false := decide_eq_false hck
        rw [hd] at his
        have HC : Hid (¬ code = k + 1) := hck
        obtain ⟨n, hn⟩ : ∃ n : Int, n = if code ≤ k then (code : Int) else -1 := ⟨_, rfl⟩
        rw [← hn]
        have HN : Hid (n = if code ≤ k then (code : Int) else -1) := hn
        clear hck hd hn
        go_wp2_with (go_at_call 44; refine his.mono ?_; rintro e w2 ⟨rfl, rfl⟩)
        go_round
        case rel =>
          refine ⟨k + 1, by omega, by go_num, ?_⟩
          rw [HN.out]
          have := HC.out
          by_cases h : code ≤ k
          · rw [if_pos h, if_pos (by omega)]
          · rw [if_neg h, if_neg (by omega)]
        case measure => simp [intOf]; omega
    · obtain rfl : k = 16 := by omega
      rw [if_pos h16]
      go_wp2
      go_ret
      exact ⟨rfl, hfr⟩
end Go.Proofs.YthkkjpefealdgaaDoor
