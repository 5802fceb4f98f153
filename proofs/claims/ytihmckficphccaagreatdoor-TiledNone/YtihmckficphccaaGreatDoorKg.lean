/- A Book that keeps rows of hashes: marks. -/
import Derived.Test.YtihmckficphccaaGreatDoorHq
import Derived.Test.YtihmckficphccaaGreatDoorCg
namespace Go.Proofs.YtihmckficphccaaGreatDoor
namespace HB
open Go.RowKit
set_option linter.unusedVariables false
set_option linter.unusedSimpArgs false

/-- The mark of a number. -/
def mk (m : Nat) : List UInt8 := UInt8.ofNat m :: UInt8.ofNat (m / 256) :: UInt8.ofNat (m / 65536) :: (List.replicate 28 0 ++ [201])
theorem mk_len (m : Nat) : (mk m).length = 32 := by simp [mk]
theorem u8c (m : Nat) : Value.int .u8 ((m : Int) % 256) = .int .u8 ((UInt8.ofNat m).toNat : Nat) := by
  rw [UInt8.toNat_ofNat']; simp
theorem mk_lit (m : Nat) : (#[.int .u8 ((m : Int) % 256), .int .u8 ((m : Int) / 256 % 256), .int .u8 ((m : Int) / 65536 % 256), .int .u8 0, .int .u8 0, .int .u8 0, .int .u8 0, .int .u8 0, .int .u8 0, .int .u8 0, .int .u8 0, .int .u8 0, .int .u8 0, .int .u8 0, .int .u8 0, .int .u8 0, .int .u8 0, .int .u8 0, .int .u8 0, .int .u8 0, .int .u8 0, .int .u8 0, .int .u8 0, .int .u8 0, .int .u8 0, .int .u8 0, .int .u8 0, .int .u8 0, .int .u8 0, .int .u8 0, .int .u8 0, .int .u8 201] : Array Value) = hbs (mk m) := by
  have e1 : ((m : Int) / 256) = ((m / 256 : Nat) : Int) := by omega
  have e2 : ((m : Int) / 65536) = ((m / 65536 : Nat) : Int) := by omega
  rw [e1, e2, u8c, u8c, u8c]
  rfl
/-- A hash literal that is not written out, where the order is the text's. -/
theorem wpl_lit {w : World} {ops : Array Oper} {rest : List Oper} {o : Oper} {a : Act} {Q : Exit → Act → World → Prop} (hwant : Region.wanted o (yielded ops a.tmps) = true) (v : Value) (hr : (execOp a.eval o).run Tryz.prog w = .ok (.value v) w)
    (h : wpList Tryz.prog ops Q rest (a.put o.dst v) w) : wpList Tryz.prog ops Q (o :: rest) a w := by
  refine wpList_step fun K hK => ?_
  rw [if_pos hwant]
  unfold Oper.wp
  rw [hr]
  exact hK _ _ h
theorem wpl_eqm {w : World} {ops : Array Oper} {rest : List Oper} {o : Oper} {a : Act} {Q : Exit → Act → World → Prop} (hwant : Region.wanted o (yielded ops a.tmps) = true) (x y : Operand) (ho : o.op = .binOp .eql 64 x y 64) (A : List UInt8) (hA : A.length = 32) (V : Array Value) (hV : V = hbs A) (hx : a.eval x = .agg (hbs A)) (hy : a.eval y = .agg V)
    (h : wpList Tryz.prog ops Q rest (a.put o.dst (.bool true)) w) : wpList Tryz.prog ops Q (o :: rest) a w := wpl_eql hwant x y ho A hA hx (by rw [hy, hV]) h
end HB
end Go.Proofs.YtihmckficphccaaGreatDoor
namespace Go.Proofs.YtihmckficphccaaGreatDoor
open Go.RowKit
set_option linter.unusedVariables false
set_option linter.unusedSimpArgs false

theorem hsc_takeT : ∀ (l : List (List UInt8)), (∀ x ∈ l, x.length = 32) → ∀ k, (hsc l).take (k * 32) = hsc (l.take k)
  | [], _, k => by simp [hsc]
  | t :: r, h, 0 => by simp [hsc]
  | t :: r, h, k + 1 => by
    have ht := h t (by simp)
    have ih := hsc_takeT r (fun x hx => h x (by simp [hx])) k
    simp only [hsc, List.flatMap_cons, List.take_succ_cons] at ih ⊢
    rw [show (k + 1) * 32 = (bc t).length + k * 32 by rw [bc_len, ht]; omega, List.take_length_add_append, ih]
theorem hsc_dropT : ∀ (l : List (List UInt8)), (∀ x ∈ l, x.length = 32) → ∀ k, (hsc l).drop (k * 32) = hsc (l.drop k)
  | [], _, k => by simp [hsc]
  | t :: r, h, 0 => by simp [hsc]
  | t :: r, h, k + 1 => by
    have ht := h t (by simp)
    have ih := hsc_dropT r (fun x hx => h x (by simp [hx])) k
    simp only [hsc, List.flatMap_cons, List.drop_succ_cons] at ih ⊢
    rw [show (k + 1) * 32 = (bc t).length + k * 32 by rw [bc_len, ht]; omega, List.drop_length_add_append, ih]
theorem hsc_setT (l : List (List UInt8)) (h : ∀ x ∈ l, x.length = 32) (k : Nat) (hk : k < l.length) (y : List UInt8) : hsc (l.set k y) = (hsc l).take (k * 32) ++ bc y ++ (hsc l).drop ((k + 1) * 32) := by
  rw [hsc_takeT l h, hsc_dropT l h, List.set_eq_take_append_cons_drop, if_pos hk, hsc_app]
  simp [hsc]
theorem take_midT {c b : List Value} {a n : Nat} (ha : a + 32 ≤ n) (hc : a ≤ c.length) (hb : b.length = 32) : (c.take a ++ b ++ c.drop (a + 32)).take n = c.take a ++ b ++ (c.drop (a + 32)).take (n - (a + 32)) := by
  have h1 : (c.take a ++ b).length = a + 32 := by simp [hb, Nat.min_eq_left hc]
  rw [List.take_append, h1, List.take_of_length_le (l := c.take a ++ b) (by omega)]
/-- One hash of a row of one's own is written over. -/
theorem own_setT {w : World} {base g n cap : Nat} {xs : List (List UInt8)} (h32 : ∀ x ∈ xs, x.length = 32) (hn : xs.length = n) (h : w.ownsRow base 64 32 (.slice (some ⟨g, 0, none⟩) n cap) n (hsc xs)) (k : Nat) (hk : k < n) (y : List UInt8) (hy : y.length = 32) :
    ∃ cur new : Array Value, w.heap[g]? = some (.cells cur 64 (0, 0)) ∧ k * 32 + 32 ≤ cur.size ∧ new.toList = cur.toList.take (k * 32) ++ (hbs y).toList ++ cur.toList.drop (k * 32 + 32) ∧ ∀ w' : World, w'.heap[g]? = some (.cells new 64 (0, 0)) → w'.ownsRow base 64 32 (.slice (some ⟨g, 0, none⟩) n cap) n (hsc (xs.set k y)) := by
  obtain ⟨h1, h2⟩ := h
  rcases h2 with ⟨h2, _⟩ | ⟨g', cap', cur, hv, hb, hh, h3, h4, h5, h6⟩
  · cases h2
  · cases hv
    have hkc : k * 32 + 32 ≤ cur.size := by
      rw [h5]
      have : (k + 1) * 32 ≤ cap * 32 := Nat.mul_le_mul_right _ (by omega)
      omega
    refine ⟨cur, (cur.toList.take (k * 32) ++ (hbs y).toList ++ cur.toList.drop (k * 32 + 32)).toArray, hh, hkc, rfl, fun w' hw => ⟨?_, .inr ⟨g, cap, _, rfl, hb, hw, h3, h4, ?_, ?_⟩⟩⟩
    · rw [hsc_len _ (fun x hx => by rcases List.mem_or_eq_of_mem_set hx with hx | rfl; exact h32 x hx; exact hy), List.length_set, hn]
    · simp [hbs_size, hy]
      omega
    · rw [hsc_setT xs h32 k (by omega) y, ← h6]
      have e1 : (k + 1) * 32 ≤ n * 32 := Nat.mul_le_mul_right _ (by omega)
      have hb : (hbs y).toList = bc y := by simp [hbs]
      rw [hb, List.take_take, Nat.min_eq_left (by omega), List.drop_take]
      rw [take_midT (by omega) (by simp; omega) (by rw [bc_len, hy])]
      have e3 : (k + 1) * 32 = k * 32 + 32 := by omega
      rw [e3]
/-- The head of a row of one's own. -/
theorem own_headT {w : World} {base g n m cap : Nat} {xs : List (List UInt8)} (h32 : ∀ x ∈ xs, x.length = 32) (h : w.ownsRow base 64 32 (.slice (some ⟨g, 0, none⟩) n cap) n (hsc xs)) (hm : m ≤ n) : w.ownsRow base 64 32 (.slice (some ⟨g, 0, none⟩) m cap) m (hsc (xs.take m)) := by
  obtain ⟨h1, h2⟩ := h
  rcases h2 with ⟨h2, _⟩ | ⟨g', cap', cur, hv, hb, hh, h3, h4, h5, h6⟩
  · cases h2
  · cases hv
    have hl : xs.length = n := by rw [hsc_len _ h32] at h1; omega
    refine ⟨?_, .inr ⟨g, cap, cur, rfl, hb, hh, by omega, h4, h5, ?_⟩⟩
    · rw [hsc_len _ (fun x hx => h32 x (List.mem_of_mem_take hx)), List.length_take, hl, Nat.min_eq_left hm]
    · rw [← hsc_takeT xs h32, ← h6, List.take_take, Nat.min_eq_left (Nat.mul_le_mul_right _ hm)]
theorem made_hsc (n : Nat) : madeCells (Value.agg z32).cells (n * 32) = (hsc (List.replicate n zh)).toArray := by
  have hz : ∀ x ∈ List.replicate n zh, x.length = 32 := fun x hx => by rw [List.eq_of_mem_replicate hx]; simp
  apply Array.ext
  · rw [size_madeCells]; simp [hsc_len _ hz]
  · intro j h1 h2
    rw [size_madeCells] at h1
    have hk : j / 32 < n := by omega
    have q := hsc_get _ hz (j / 32) zh (by simp [hk]) (j % 32) (Nat.mod_lt _ (by decide))
    rw [show j / 32 * 32 + j % 32 = j by omega] at q
    have hb : (bc zh)[j % 32]? = some (.int .u8 0) := by
      rw [bc, List.getElem?_map, List.getElem?_replicate, if_pos (Nat.mod_lt _ (by decide))]; rfl
    rw [hb] at q
    have e1 : (hsc (List.replicate n zh)).toArray[j] = .int .u8 0 := by
      have := List.getElem?_eq_some_iff.1 q
      obtain ⟨_, this⟩ := this
      simpa using this
    rw [e1]
    simp only [madeCells, Array.getElem_map, Array.getElem_range, Value.cells]
    have : z32.size = 32 := z32_size
    rw [this]
    have hg : z32[j % 32]! = .int .u8 0 := by
      rw [getElem!_pos z32 (j % 32) (by rw [this]; exact Nat.mod_lt _ (by decide))]
      simp [z32]
    exact hg
theorem make_hsc (n : Nat) (m : Int) (hm : m = (n : Int)) (hl : n ≤ 1048577) (w : World) : (Instr.makeSlice 45 (.int .i64 m) (.int .i64 m)).run Tryz.prog w = .ok (.slice (some ⟨w.heap.size, 0, none⟩) n n) (w.alloc (.cells (hsc (List.replicate n zh)).toArray 64)) := by
  obtain ⟨i, hi, hz0, hz1, hz2⟩ := info_parts infoHs
  subst hm
  rw [run_make w 45 64 i (.agg z32) Tryz.underlying45 hi hz0 .i64 .i64 _ _ (by omega) (by omega) (by rw [hz2]; omega) (by omega), hz1]
  rw [Int.toNat_natCast, made_hsc]
theorem own_made (n : Nat) (hl : n ≤ 1048577) (w : World) : (w.alloc (.cells (hsc (List.replicate n zh)).toArray 64)).ownsRow w.heap.size 64 32 (.slice (some ⟨w.heap.size, 0, none⟩) n n) n (hsc (List.replicate n zh)) := by
  have hz : ∀ x ∈ List.replicate n zh, x.length = 32 := fun x hx => by rw [List.eq_of_mem_replicate hx]; simp
  have h1 : (hsc (List.replicate n zh)).length = n * 32 := by rw [hsc_len _ hz]; simp
  exact ⟨h1, .inr ⟨w.heap.size, n, _, rfl, Nat.le_refl _, heap_new _ _, Nat.le_refl _, by unfold maxLen; omega, by simp [h1], by rw [← h1]; simp⟩⟩
theorem Hss.atT {w : World} {ad : Option Addr} {n c : Nat} {L : List (List UInt8)} (h : Hss w (.slice ad n c) L) {k : Nat} {x : List UInt8} (hk : L[k]? = some x) : ∃ p off, ad = some ⟨p, off, none⟩ ∧ ∀ j, j < 32 → w.cell? ⟨p, off + k * 32 + j, none⟩ = (hbs x)[j]? := by
  obtain ⟨ad0, c0, hv, h⟩ := h
  injection hv with h1 h2 h3
  subst h1
  exact h k x hk
end Go.Proofs.YtihmckficphccaaGreatDoor
