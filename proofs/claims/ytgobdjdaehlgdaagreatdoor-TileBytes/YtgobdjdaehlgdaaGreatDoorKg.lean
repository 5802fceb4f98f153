/- A Book that keeps rows of hashes: marks. -/
import Derived.Test.YtgobdjdaehlgdaaGreatDoorHq
import Derived.Test.YtgobdjdaehlgdaaGreatDoorBase
namespace Go.Proofs.YtgobdjdaehlgdaaGreatDoor
namespace HB
open Go.RowKit
set_option linter.unusedVariables false
set_option linter.unusedSimpArgs false

/-- The mark of a number. -/
def mk (m : Nat) : List UInt8 := UInt8.ofNat m :: UInt8.ofNat (m / 256) :: UInt8.ofNat (m / 65536) :: (List.replicate 28 0 ++ [201])
theorem mk_len (m : Nat) : (mk m).length = 32 := by simp [mk]
theorem u8c (m : Nat) : Value.int .u8 ((m : Int) % 256) = .int .u8 ((UInt8.ofNat m).toNat : Nat) := by
  rw [UInt8.toNat_ofNat']; simp
theorem mk_lit (m : Nat) : (#[.int .u8 ((m : Int) % 256), .int .u8 ((m : Int) / 256 % 256), .int .u8 ((m : Int) / 65536 % 256), .int .u8 0, .int .u8 0, .int .u8 0, .int .u8 0, .int .u8 0, .int .u8 0, .int .u8 0, .int .u8 0, .int .u8 0, .int .u8 0, .int .u8 0, .int .u8 0, .int .u8 0, .int .u8 0, .int .u8 0, .int .u8 0, .int .u8 0, .int .u8 0, .int .u8 0, .int .u8 0, .int .u8 0, .int .u8 0, .int .u8 0, .int .u8 0, .int .u8 0, .int .u8 0, .int .u8 0, .int .u8 0, .int .u8 201] : Array Value) = hbs (mk m) := by
  have e1 : ((m : Int) / 256) = ((m / 256 : Nat) : Int) := by omega
  have e2 : ((m : Int) / 65536) = ((m / 65536 : Nat) : Int) := by omega
  rw [e1, e2, u8c, u8c, u8c]
  rfl
set_option maxRecDepth 100000 in
set_option maxHeartbeats 1000000 in
theorem mark_any (m : Nat) (hm : m < 9223372036854775807) (w : World) : Calls Tryz.prog 87 #[.int .i64 (m : Int)] w fun e w' => e = .returned (.agg (hbs (mk m))) ∧ Nw w w' := by
  have hs : (hbs (mk m)).size = 32 := by rw [hbs_size, mk_len]
  have hl := mk_lit m
  have HL : Hid _ := hl
  clear hl
  go_enter Tryz.func87, Tryz.ntmps87
  go_wp2_with (refine wp_store_agg rfl (.tmp 2) (.tmp 11) 96 32 rfl Tryz.sizeOf96 w.heap.size 0 rfl _ 96 (heap_new _ _) (hbs (mk m)) (congrArg Value.agg HL.out) hs (hbs_one _) (by decide) (hbs (mk m)) (by simp) ?_; intro w3 j3 f3 _)
  exact bodyPost_ret (results_cell Tryz.results87 Tryz.isAgg96 Tryz.sizeOf96 rfl j3 hs) rfl ⟨rfl, (nwa w _).trans f3 (fun k hk q => by omega)⟩
/-- A hash literal that is not written out, where the order is the text's. -/
theorem wpl_lit {w : World} {ops : Array Oper} {rest : List Oper} {o : Oper} {a : Act} {Q : Exit → Act → World → Prop} (hwant : Region.wanted o (yielded ops a.tmps) = true) (v : Value) (hr : (execOp a.eval o).run Tryz.prog w = .ok (.value v) w)
    (h : wpList Tryz.prog ops Q rest (a.put o.dst v) w) : wpList Tryz.prog ops Q (o :: rest) a w := by
  refine wpList_step fun K hK => ?_
  rw [if_pos hwant]
  unfold Oper.wp
  rw [hr]
  exact hK _ _ h
theorem wpl_eqm {w : World} {ops : Array Oper} {rest : List Oper} {o : Oper} {a : Act} {Q : Exit → Act → World → Prop} (hwant : Region.wanted o (yielded ops a.tmps) = true) (x y : Operand) (ho : o.op = .binOp .eql 96 x y 96) (A : List UInt8) (hA : A.length = 32) (V : Array Value) (hV : V = hbs A) (hx : a.eval x = .agg (hbs A)) (hy : a.eval y = .agg V)
    (h : wpList Tryz.prog ops Q rest (a.put o.dst (.bool true)) w) : wpList Tryz.prog ops Q (o :: rest) a w := wpl_eql hwant x y ho A hA hx (by rw [hy, hV]) h
set_option maxRecDepth 100000 in
set_option maxHeartbeats 1000000 in
theorem is_any (m : Nat) (hm : m < 9223372036854775807) (w : World) : Calls Tryz.prog 89 #[.agg (hbs (mk m)), .int .i64 (m : Int)] w fun e w' => e = .returned (.bool true) ∧ Nw w w' := by
  have hs : (hbs (mk m)).size = 32 := by rw [hbs_size, mk_len]
  have HL : Hid _ := mk_lit m
  have HM := show Hid _ from mk_len m
  have e0 : (w.alloc (.cells (hbs (mk m)) 96)).heap[w.heap.size]? = some (.cells (hbs (mk m)) 96) := heap_new _ _
  have E0 : Hid (∀ j, j < 32 → (w.alloc (.cells (hbs (mk m)) 96)).cell? ⟨w.heap.size, 0 + j, none⟩ = (hbs (mk m))[j]?) := hash_cells e0
  clear e0
  go_enter Tryz.func89, Tryz.ntmps89
  go_wp2_with first
    | (refine wpl_load rfl (.tmp 2) rfl w.heap.size 0 rfl (mk m) HM.out E0.out ?_)
    | (refine wpl_eqm rfl (.tmp 5) (.tmp 14) rfl (mk m) HM.out _ HL.out rfl rfl ?_)
  go_ret
  exact ⟨rfl, nwa w _⟩
end HB
end Go.Proofs.YtgobdjdaehlgdaaGreatDoor
namespace Go.Proofs.YtgobdjdaehlgdaaGreatDoor
namespace HB
open Go.RowKit
set_option linter.unusedVariables false
set_option linter.unusedSimpArgs false

/-- What a Book keeps of one row: the row, what it is grown to, its number. -/
abbrev Held := Value × Value × Nat
/-- As cells. -/
def hc : List Held → List Value
  | [] => []
  | h :: r => h.1 :: h.2.1 :: .int .i64 (h.2.2 : Int) :: hc r
theorem hc_len : ∀ l, (hc l).length = l.length * 3
  | [] => rfl
  | t :: r => by simp only [hc, List.length_cons, hc_len r]; omega
theorem hc_app : ∀ l m, hc (l ++ m) = hc l ++ hc m
  | [], m => rfl
  | t :: r, m => by simp only [List.cons_append, hc, hc_app r m]
theorem hc_get : ∀ (l : List Held) (k : Nat) (t : Held), l[k]? = some t → (hc l)[k * 3]? = some t.1 ∧ (hc l)[k * 3 + 1]? = some t.2.1 ∧ (hc l)[k * 3 + 2]? = some (.int .i64 (t.2.2 : Int))
  | [], k, t, h => by simp at h
  | u :: r, 0, t, h => by simp at h; subst h; exact ⟨rfl, rfl, rfl⟩
  | u :: r, k + 1, t, h => by
    have := hc_get r k t (by simpa using h)
    have e : (k + 1) * 3 = k * 3 + 1 + 1 + 1 := by omega
    rw [e]
    simpa [hc] using this
abbrev nilS : Value := .slice none 0 0
/-- A Book's cells. -/
def bkc (N : Nat) (v : Value) : Array Value := #[.int .i64 (N : Int), nilS, nilS, nilS, nilS, v, nilS, nilS, nilS, nilS, nilS, nilS, nilS, nilS, nilS, nilS, nilS]
/-- A Book in memory; its list lies in a block of its own. -/
structure Bk (w : World) (bk : Nat) (N : Nat) (v : Value) (H : List Held) : Prop where
  blk : w.heap[bk]? = some (.cells (bkc N v) 51)
  own : w.ownsRow 0 120 3 v H.length (hc H)
  ne : ∀ g, v.ownBlock = some g → g ≠ bk
theorem Bk.fr {S : Nat → Prop} {w w' : World} {bk N : Nat} {v : Value} {H : List Held} (h : Bk w bk N v H) (hf : Fr S w w') (h1 : ¬ S bk) (h2 : ∀ g, v.ownBlock = some g → ¬ S g) : Bk w' bk N v H :=
  ⟨(hf.block _ (heap_lt h.blk) h1).trans h.blk, ownsRow_keep h.own (fun g hg => hf.block g (h.own.lt g hg).2 (h2 g hg)), h.ne⟩
theorem Bk.nw {w w' : World} {bk N : Nat} {v : Value} {H : List Held} (h : Bk w bk N v H) (hf : Nw w w') : Bk w' bk N v H := h.fr hf (fun f => f) (fun _ _ f => f)
theorem infoK : (Tryz.prog.info? 120).map (fun i => (i.zero, i.size, i.bytes)) = some (some (.agg #[nilS, nilS, .int .i64 0]), 3, 56) := by kernel_rfl
theorem held_new (w : World) (a b c : Value) (t : TypeId) : ∀ j u, [a, b, c][j]? = some u → (w.alloc (.cells #[a, b, c] t)).cell? ((⟨w.heap.size, 0, none⟩ : Addr).add j) = some u := by
  intro j u h
  rw [addZ, cell_of (heap_new w _)]
  match j, h with
  | 0, h => exact h
  | 1, h => exact h
  | 2, h => exact h
set_option maxRecDepth 100000 in
set_option maxHeartbeats 2000000 in
theorem keep_any (bk N : Nat) (v : Value) (H : List Held) (ad : Option Addr) (n cap : Nat) (w : World) (hB : Bk w bk N v H) (hN : N < 4611686018427387904) (hH : H.length ≤ 1099511627776) :
    Calls Tryz.prog 90 #[.pointer (some ⟨bk, 0, none⟩), .slice ad n cap] w fun e w' => e = .returned (.tuple #[]) ∧ ∃ v', Bk w' bk (N + 1) v' (H ++ [(.slice ad n cap, nilS, N + 1)]) ∧ Stays w v v' ∧ Fr (fun k => k = bk ∨ v.ownBlock = some k) w w' := by
  obtain ⟨i0, hi, hz0, hz1, hz2⟩ := info_parts infoK
  have b0 := hB.blk
  have c0 : w.cell? ⟨bk, 0, none⟩ = some (.int .i64 (N : Int)) := (cell_of b0 0).trans rfl
  have c6 : w.cell? ⟨bk, 5, none⟩ = some v := (cell_of b0 5).trans rfl
  have f0 := frozen_of b0 0
  have f6 := frozen_of b0 5
  have lb := heap_lt b0
  have HB : Hid (Bk w bk N v H) := hB
  have HG : Hid (∀ g, v.ownBlock = some g → g ≠ bk ∧ g < w.heap.size) := fun g hg => ⟨hB.ne g hg, (hB.own.lt g hg).2⟩
  clear hB
  obtain ⟨va, vc, rfl⟩ := ownsRow_form HB.out.own
  obtain ⟨w1, hw1⟩ : ∃ w1, w.setCell ⟨bk, 0, none⟩ (.int .i64 ((N : Int) + 1)) = w1 := ⟨_, rfl⟩
  have b1 : w1.heap[bk]? = some (.cells (bkc (N + 1) (.slice va H.length vc)) 51) := by
    rw [← hw1, heap_set b0]
    simp [bkc]
  have fr1 : Fr (fun k => k = bk) w w1 := by rw [← hw1]; exact (Fr.refl _ w).setCell _ _ (fun _ => rfl)
  have s1 : w1.heap.size = w.heap.size := by rw [← hw1]; simp [World.setCell]
  have c16 : w1.cell? ⟨bk, 5, none⟩ = some (.slice va H.length vc) := (cell_of b1 5).trans rfl
  have c10 : w1.cell? ⟨bk, 0, none⟩ = some (.int .i64 ((N : Int) + 1)) := (cell_of b1 0).trans (by simp [bkc])
  have f16 := frozen_of b1 5
  have own1 : Hid (((w1.alloc (.cells #[.slice ad n cap, nilS, .int .i64 ((N : Int) + 1)] 120)).drew).ownsRow 0 120 3 (.slice va H.length vc) H.length (hc H)) :=
    ((ownsRow_keep HB.out.own (fun g hg => fr1.block g (HG.out g hg).2 (HG.out g hg).1)).alloc _)
  have HNew : Hid (∀ j u, [Value.slice ad n cap, nilS, .int .i64 ((N : Int) + 1)][j]? = some u → ((w1.alloc (.cells #[.slice ad n cap, nilS, .int .i64 ((N : Int) + 1)] 120)).drew).cell? ((⟨w.heap.size, 0, none⟩ : Addr).add j) = some u) := by rw [← s1]; exact held_new w1 _ _ _ _
  have HW1 : Hid (w.setCell ⟨bk, 0, none⟩ (.int .i64 ((N : Int) + 1)) = w1) := hw1
  have HB1 : Hid (w1.heap[bk]? = some (.cells (bkc (N + 1) (.slice va H.length vc)) 51)) := b1
  have hfin : ∀ v' w', w'.ownsRow 0 120 3 v' (H.length + 1) (hc H ++ [Value.slice ad n cap, nilS, .int .i64 ((N : Int) + 1)]) → Two ((w1.alloc (.cells #[.slice ad n cap, nilS, .int .i64 ((N : Int) + 1)] 120)).drew) w' 120 3 (.slice va H.length vc) v' H.length 1 (hc H ++ [Value.slice ad n cap, nilS, .int .i64 ((N : Int) + 1)]) → w'.heap[bk]? = some (.cells (bkc (N + 1) (.slice va H.length vc)) 51) ∧ Bk (w'.setCell ⟨bk, 5, none⟩ v') bk (N + 1) v' (H ++ [(.slice ad n cap, nilS, N + 1)]) ∧ Stays w (.slice va H.length vc) v' ∧ Fr (fun k => k = bk ∨ (Value.slice va H.length vc).ownBlock = some k) w (w'.setCell ⟨bk, 5, none⟩ v') := by
    intro v' w' ho ht
    have fr2 : Fr (fun k => (Value.slice va H.length vc).ownBlock = some k) w1 w' := (((Fr.refl _ w1).alloc _).drew).trans ht.fr (fun _ _ q => q)
    have b2 := (fr2.block bk (by omega) (fun q => (HG.out _ q).1 rfl)).trans b1
    have st := ht.stays (by omega)
    have hsz : w.heap.size ≤ ((w1.alloc (.cells #[.slice ad n cap, nilS, .int .i64 ((N : Int) + 1)] 120)).drew).heap.size := by
      show w.heap.size ≤ (w1.alloc _).heap.size
      simp [s1]
    have hne : ∀ g, v'.ownBlock = some g → g ≠ bk := fun g hg => by
      rcases st with e | ⟨g', hg', hl⟩
      · exact (HG.out g (by rw [← e]; exact hg)).1
      · rw [hg'] at hg; injection hg with hg; omega
    refine ⟨b2, ⟨?_, ?_, hne⟩, st.mono hsz, ?_⟩
    · rw [heap_set b2]
      simp [bkc]
    · rw [hc_app, List.length_append]
      refine ownsRow_keep (by simpa [hc] using ho) (fun g hg => heap_set_ne (hne g hg) _)
    · exact ((fr1.mono (S' := fun k => k = bk ∨ (Value.slice va H.length vc).ownBlock = some k) (fun j _ h => .inl h)).trans fr2 (fun j _ h => .inr h)).setCell _ _ (fun _ => .inl rfl)
  have HF := show Hid _ from hfin
  clear b1 hw1 hfin b0
  go_enter Tryz.func90, Tryz.ntmps90
  go_wp2
  rw [HW1.out]
  go_region_law (refine step_two rfl (.tmp 15) (.tmp 22) 38 rfl 0 120 i0 (.agg #[nilS, nilS, .int .i64 0]) 3 56 Tryz.underlying38 hi hz0 hz1 hz2 rfl (by decide) (.slice va H.length vc) H.length (hc H) rfl own1.out ⟨w.heap.size, 0, none⟩ 1 1 [.slice ad n cap, nilS, .int .i64 ((N : Int) + 1)] rfl rfl HNew.out (by simp [Value.oneCell']) (by unfold maxLen; omega) (by omega) (by omega) ?_; intro v9 w9 o9 t9; obtain ⟨hb9, HF9⟩ := HF.out v9 w9 o9 t9; have c96 : w9.cell? ⟨bk, 5, none⟩ = some (.slice va H.length vc) := (cell_of hb9 5).trans rfl; have f96 := frozen_of hb9 5; obtain ⟨vx, vy, rfl⟩ := ownsRow_form o9; have HFF : Hid _ := HF9; clear HF9 o9 t9 hb9)
  all_goals
    try simp only [List.getElem_toArray, List.getElem_cons_succ, List.getElem_cons_zero, Act.put, List.setIfInBounds_toArray, List.set_cons_succ, List.set_cons_zero]
    go_wp2
    go_end0
    exact ⟨rfl, _, HFF.out⟩
theorem hashes_any (bk N : Nat) (v : Value) (H : List Held) (ad : Option Addr) (n cap : Nat) (w : World) (hB : Bk w bk N v H) (hN : N < 4611686018427387904) (hH : H.length ≤ 1099511627776) :
    Calls Tryz.prog 25 #[.pointer (some ⟨bk, 0, none⟩), .slice ad n cap] w fun e w' => e = .returned (.tuple #[]) ∧ ∃ v', Bk w' bk (N + 1) v' (H ++ [(.slice ad n cap, nilS, N + 1)]) ∧ Stays w v v' ∧ Fr (fun k => k = bk ∨ v.ownBlock = some k) w w' := by
  have q := keep_any bk N v H ad n cap w hB hN hH
  go_enter Tryz.func25, Tryz.ntmps25
  go_wp2_with fail
  refine q.mono ?_
  rintro e w1 ⟨rfl, h⟩
  have H1 := show Hid _ from h
  clear h
  go_wp2
  go_end0
  exact ⟨rfl, H1.out⟩
end HB
end Go.Proofs.YtgobdjdaehlgdaaGreatDoor
namespace Go.Proofs.YtgobdjdaehlgdaaGreatDoor
namespace HB
open Go.RowKit
set_option linter.unusedVariables false
set_option linter.unusedSimpArgs false

theorem hsc_take : ∀ (l : List (List UInt8)), (∀ x ∈ l, x.length = 32) → ∀ k, (hsc l).take (k * 32) = hsc (l.take k)
  | [], _, k => by simp [hsc]
  | t :: r, h, 0 => by simp [hsc]
  | t :: r, h, k + 1 => by
    have ht := h t (by simp)
    have ih := hsc_take r (fun x hx => h x (by simp [hx])) k
    simp only [hsc, List.flatMap_cons, List.take_succ_cons] at ih ⊢
    rw [show (k + 1) * 32 = (bc t).length + k * 32 by rw [bc_len, ht]; omega, List.take_length_add_append, ih]
theorem hsc_drop : ∀ (l : List (List UInt8)), (∀ x ∈ l, x.length = 32) → ∀ k, (hsc l).drop (k * 32) = hsc (l.drop k)
  | [], _, k => by simp [hsc]
  | t :: r, h, 0 => by simp [hsc]
  | t :: r, h, k + 1 => by
    have ht := h t (by simp)
    have ih := hsc_drop r (fun x hx => h x (by simp [hx])) k
    simp only [hsc, List.flatMap_cons, List.drop_succ_cons] at ih ⊢
    rw [show (k + 1) * 32 = (bc t).length + k * 32 by rw [bc_len, ht]; omega, List.drop_length_add_append, ih]
theorem hsc_set (l : List (List UInt8)) (h : ∀ x ∈ l, x.length = 32) (k : Nat) (hk : k < l.length) (y : List UInt8) : hsc (l.set k y) = (hsc l).take (k * 32) ++ bc y ++ (hsc l).drop ((k + 1) * 32) := by
  rw [hsc_take l h, hsc_drop l h, List.set_eq_take_append_cons_drop, if_pos hk, hsc_app]
  simp [hsc]
theorem take_mid {c b : List Value} {a n : Nat} (ha : a + 32 ≤ n) (hc : a ≤ c.length) (hb : b.length = 32) : (c.take a ++ b ++ c.drop (a + 32)).take n = c.take a ++ b ++ (c.drop (a + 32)).take (n - (a + 32)) := by
  have h1 : (c.take a ++ b).length = a + 32 := by simp [hb, Nat.min_eq_left hc]
  rw [List.take_append, h1, List.take_of_length_le (l := c.take a ++ b) (by omega)]
/-- One hash of a row of one's own is written over. -/
theorem own_set {w w' : World} {g n cap : Nat} {xs : List (List UInt8)} (h32 : ∀ x ∈ xs, x.length = 32) (hn : xs.length = n) (h : w.ownsRow 0 96 32 (.slice (some ⟨g, 0, none⟩) n cap) n (hsc xs)) (k : Nat) (hk : k < n) (y : List UInt8) (hy : y.length = 32) :
    ∃ cur new : Array Value, w.heap[g]? = some (.cells cur 96 (0, 0)) ∧ k * 32 + 32 ≤ cur.size ∧ new.toList = cur.toList.take (k * 32) ++ (hbs y).toList ++ cur.toList.drop (k * 32 + 32) ∧ (w'.heap[g]? = some (.cells new 96 (0, 0)) → w'.ownsRow 0 96 32 (.slice (some ⟨g, 0, none⟩) n cap) n (hsc (xs.set k y))) := by
  obtain ⟨h1, h2⟩ := h
  rcases h2 with ⟨h2, _⟩ | ⟨g', cap', cur, hv, hb, hh, h3, h4, h5, h6⟩
  · cases h2
  · cases hv
    have hkc : k * 32 + 32 ≤ cur.size := by
      rw [h5]
      have : (k + 1) * 32 ≤ cap * 32 := Nat.mul_le_mul_right _ (by omega)
      omega
    refine ⟨cur, (cur.toList.take (k * 32) ++ (hbs y).toList ++ cur.toList.drop (k * 32 + 32)).toArray, hh, hkc, rfl, fun hw => ⟨?_, .inr ⟨g, cap, _, rfl, hb, hw, h3, h4, ?_, ?_⟩⟩⟩
    · rw [hsc_len _ (fun x hx => by rcases List.mem_or_eq_of_mem_set hx with hx | rfl; exact h32 x hx; exact hy), List.length_set, hn]
    · simp [hbs_size, hy]
      omega
    · rw [hsc_set xs h32 k (by omega) y, ← h6]
      have e1 : (k + 1) * 32 ≤ n * 32 := Nat.mul_le_mul_right _ (by omega)
      have hb : (hbs y).toList = bc y := by simp [hbs]
      rw [hb, List.take_take, Nat.min_eq_left (by omega), List.drop_take]
      rw [take_mid (by omega) (by simp; omega) (by rw [bc_len, hy])]
      have e3 : (k + 1) * 32 = k * 32 + 32 := by omega
      rw [e3]
/-- The rows that a Book keeps: each in a block of its own. -/
structure Rws (w : World) (bk : Nat) (v : Value) (H : List Held) (X : Nat → List (List UInt8)) : Prop where
  own : ∀ (i : Nat) (h : Held), H[i]? = some h → w.ownsRow 0 96 32 h.1 (X i).length (hsc (X i))
  l32 : ∀ (i : Nat), ∀ x ∈ X i, x.length = 32
  ne : ∀ (i : Nat) (h : Held), H[i]? = some h → ∀ g, h.1.ownBlock = some g → g ≠ bk ∧ v.ownBlock ≠ some g
  apart : ∀ (i j : Nat) (h h' : Held) (g : Nat), i ≠ j → H[i]? = some h → H[j]? = some h' → h.1.ownBlock = some g → h'.1.ownBlock ≠ some g
  lng : ∀ (i : Nat) (h : Held), H[i]? = some h → ∃ a n c, h.2.1 = .slice a n c
/-- The rows' blocks. -/
def Rb (H : List Held) (k : Nat) : Prop := ∃ (i : Nat) (h : Held), H[i]? = some h ∧ h.1.ownBlock = some k
/-- A row's number. -/
def num (H : List Held) (i : Nat) : Nat := (H[i]?.map (fun h => h.2.2)).getD 0
theorem num_at {H : List Held} {i : Nat} {h : Held} (e : H[i]? = some h) : num H i = h.2.2 := by simp [num, e]
/-- Row i is another now. -/
theorem Rws.upd {w w' : World} {bk : Nat} {v : Value} {H : List Held} {X : Nat → List (List UInt8)} (h : Rws w bk v H X) (i : Nat) (t : Held) (ht : H[i]? = some t) (y : List (List UInt8)) (hy32 : ∀ x ∈ y, x.length = 32) (hy : w'.ownsRow 0 96 32 t.1 y.length (hsc y)) (hf : Fr (fun k => t.1.ownBlock = some k) w w') :
    Rws w' bk v H (fun j => if j = i then y else X j) := by
  refine ⟨fun j u hu => ?_, fun j => ?_, h.ne, h.apart, h.lng⟩
  · by_cases hj : j = i
    · subst hj
      rw [ht] at hu
      cases hu
      simpa using hy
    · simp only [hj, if_false]
      refine ownsRow_keep (h.own j u hu) (fun g hg => hf.block g ((h.own j u hu).lt g hg).2 (h.apart j i u t g hj hu ht hg))
  · by_cases hj : j = i
    · simp only [hj, if_true]; exact hy32
    · simp only [hj, if_false]; exact h.l32 j
theorem Rws.nw {w w' : World} {bk : Nat} {v : Value} {H : List Held} {X : Nat → List (List UInt8)} (h : Rws w bk v H X) (n : Nw w w') : Rws w' bk v H X := ⟨fun i t ht => ownsRow_keep (h.own i t ht) (fun g hg => n.block g ((h.own i t ht).lt g hg).2 (fun f => f)), h.l32, h.ne, h.apart, h.lng⟩
theorem Bk.cells {w : World} {bk N : Nat} {v : Value} {H : List Held} (h : Bk w bk N v H) (i : Nat) (t : Held) (ht : H[i]? = some t) : ∃ g cap, v = .slice (some ⟨g, 0, none⟩) H.length cap ∧ g ≠ bk ∧ g < w.heap.size ∧ w.cell? ⟨g, i * 3, none⟩ = some t.1 ∧ w.cell? ⟨g, i * 3 + 1, none⟩ = some t.2.1 ∧ w.cell? ⟨g, i * 3 + 2, none⟩ = some (.int .i64 (t.2.2 : Int)) := by
  have hlt := h.own.lt
  have hne := h.ne
  rcases h.own.2 with ⟨rfl, hn⟩ | ⟨g, cap, cur, rfl, hb, _⟩
  · have : H = [] := List.length_eq_zero_iff.1 hn
    subst this
    simp at ht
  · have q := hc_get H i t ht
    have a := h.own.cells (g := g) rfl _ _ q.1
    have b := h.own.cells (g := g) rfl _ _ q.2.1
    have c := h.own.cells (g := g) rfl _ _ q.2.2
    rw [addZ] at a b c
    exact ⟨g, cap, rfl, hne g rfl, (hlt g rfl).2, a, b, c⟩
set_option maxRecDepth 100000 in
set_option maxHeartbeats 3000000 in
theorem fill_any (bk N : Nat) (v : Value) (H : List Held) (X : Nat → List (List UInt8)) (w : World) (hB : Bk w bk N v H) (hR : Rws w bk v H X) (hH : H.length ≤ 1099511627776) (hX : ∀ i, (X i).length ≤ 1099511627776) (hn : ∀ i, num H i < 9223372036854775807) :
    Calls Tryz.prog 36 #[.pointer (some ⟨bk, 0, none⟩)] w fun e w' => e = .returned (.tuple #[]) ∧ Bk w' bk N v H ∧ Rws w' bk v H (fun i => List.replicate (X i).length (mk (num H i))) ∧ Fr (Rb H) w w' := by
  have HB : Hid (Bk w bk N v H) := hB
  have HR : Hid (Rws w bk v H X) := hR
  have HX : Hid (∀ i, (X i).length ≤ 1099511627776) := hX
  have HN : Hid (∀ i, num H i < 9223372036854775807) := hn
  obtain ⟨va, vc, rfl⟩ := ownsRow_form hB.own
  clear hB hR hX hn
  go_enter Tryz.func36, Tryz.ntmps36
  go_wp2
  go_loopw [2] (fun i wr => ∃ (k : Nat) (Y : Nat → List (List UInt8)), k ≤ H.length ∧ i = .int .i64 k ∧ Rws wr bk (.slice va H.length vc) H Y ∧ (∀ j, (Y j).length = (X j).length) ∧ (∀ j, j < k → Y j = List.replicate (X j).length (mk (num H j))) ∧ Bk wr bk N (.slice va H.length vc) H ∧ Fr (Rb H) w wr) (fun i _ => H.length - (intOf i).toNat)
  case atStart => exact ⟨0, X, by omega, rfl, HR.out, fun _ => rfl, fun j h => by omega, HB.out, Fr.refl _ _⟩
  case round =>
    obtain ⟨k, Y, hk, rfl, hRw, hYl, hYk, hBk, hfr⟩ := hrel
    have b0 := hBk.blk
    have c6 : wr.cell? ⟨bk, 5, none⟩ = some (.slice va H.length vc) := (cell_of b0 5).trans rfl
    have lb := heap_lt b0
    have HBk : Hid (Bk wr bk N (.slice va H.length vc) H) := hBk
    have HRw : Hid (Rws wr bk (.slice va H.length vc) H Y) := hRw
    have HYl : Hid (∀ j, (Y j).length = (X j).length) := hYl
    have HYk : Hid (∀ j, j < k → Y j = List.replicate (X j).length (mk (num H j))) := hYk
    have HFr : Hid (Fr (Rb H) w wr) := hfr
    clear hBk hRw hYl hYk hfr b0
    by_cases hlt : k < H.length
    · obtain ⟨t, ht⟩ : ∃ t, H[k]? = some t := ⟨_, List.getElem?_eq_getElem hlt⟩
      obtain ⟨g, cap, hv, hg1, hg2, d0, d1, d2⟩ := HBk.out.cells k t ht
      cases hv
      obtain ⟨h1, h2, m⟩ := t
      simp only at d0 d1 d2
      have hki : (k : Int) < (H.length : Int) := by omega
      obtain ⟨ra, rc, rfl⟩ := ownsRow_form (HRw.out.own k _ ht)
      obtain ⟨la, ln, lc, hlg⟩ := HRw.out.lng k _ ht
      simp only at hlg
      subst hlg
      obtain ⟨l, hl⟩ : ∃ l, l = (Y k).length := ⟨_, rfl⟩
      have hl1 : l ≤ 1099511627776 := by rw [hl, HYl.out]; exact HX.out k
      have hm : m < 9223372036854775807 := by have := HN.out k; rw [num_at ht] at this; exact this
      have HO : Hid (wr.ownsRow 0 96 32 (.slice ra l rc) l (hsc (Y k))) := by have := HRw.out.own k _ ht; simp only [← hl] at this; exact this
      have HL : Hid (l = (Y k).length) := hl
      have HT : Hid (H[k]? = some (.slice ra l rc, .slice la ln lc, m)) := by have := ht; rw [← hl] at this; exact this
      have HNE : Hid (∀ p, (Value.slice ra l rc).ownBlock = some p → p ≠ bk ∧ p ≠ g ∧ p < wr.heap.size) := fun p hp => by
        have h1 := HRw.out.ne k _ HT.out p hp
        exact ⟨h1.1, fun e => h1.2 (by rw [e]; rfl), (HO.out.lt p hp).2⟩
      rw [← hl] at d0
      clear hl ht
      go_wp2
      obtain ⟨w1, hw1⟩ : ∃ w1, wr.alloc (.cells #[.slice ra l rc, .slice la ln lc, .int .i64 (m : Int)] 120) = w1 := ⟨_, rfl⟩
      have n1 : Nw wr w1 := by rw [← hw1]; exact (Fr.refl _ _).alloc _
      have k1 : w1.heap[wr.heap.size]? = some (.cells #[.slice ra l rc, .slice la ln lc, .int .i64 (m : Int)] 120) := by rw [← hw1]; exact heap_new _ _
      rw [hw1]
      obtain ⟨hb, hhb⟩ : ∃ b, b = wr.heap.size := ⟨_, rfl⟩
      rw [← hhb] at k1 ⊢
      have HHB : Hid (hb = wr.heap.size) := hhb
      have HNB : Hid (∀ p, (Value.slice ra l rc).ownBlock = some p → p ≠ hb) := fun p hp => by have := (HNE.out p hp).2.2; omega
      obtain ⟨wo, hwo⟩ : ∃ wo, wo = wr := ⟨_, rfl⟩
      have N1 : Hid (Nw wo w1) := by rw [hwo]; exact n1
      have HWO : Hid (wo = wr) := hwo
      rw [← hwo] at HBk HRw HFr
      clear hwo
      clear hw1 hhb d0 d1 d2 c6 hg2 lb
      go_loopw [4] (fun i w2 => ∃ (j : Nat) (xs : List (List UInt8)), j ≤ l ∧ i = .int .i64 j ∧ xs.length = l ∧ (∀ x ∈ xs, x.length = 32) ∧ (∀ q, q < j → xs[q]? = some (mk m)) ∧ w2.ownsRow 0 96 32 (.slice ra l rc) l (hsc xs) ∧ Fr (fun q => (Value.slice ra l rc).ownBlock = some q) w1 w2) (fun i _ => l - (intOf i).toNat)
      case atStart => exact ⟨0, Y k, by omega, rfl, HL.out.symm, HRw.out.l32 k, fun q h => by omega, ownsRow_keep HO.out (fun p hp => n1.block p (HO.out.lt p hp).2 (fun f => f)), Fr.refl _ _⟩
      case round =>
        obtain ⟨j, xs, hj, rfl, hxl, hx32, hxq, hown, hfr2⟩ := hrel
        have k2 := (hfr2.block hb (heap_lt k1) (fun e => HNB.out hb e rfl)).trans k1
        have K2 : Hid (wr.heap[hb]? = some (.cells #[.slice ra l rc, .slice la ln lc, .int .i64 (m : Int)] 120)) := k2
        have e0 : wr.cell? ⟨hb, 0, none⟩ = some (.slice ra l rc) := (cell_of k2 0).trans rfl
        have HXL : Hid (xs.length = l) := hxl
        have HX32 : Hid (∀ x ∈ xs, x.length = 32) := hx32
        have HXQ : Hid (∀ q, q < j → xs[q]? = some (mk m)) := hxq
        have HOW : Hid (wr.ownsRow 0 96 32 (.slice ra l rc) l (hsc xs)) := hown
        have HF2 : Hid (Fr (fun q => (Value.slice ra l rc).ownBlock = some q) w1 wr) := hfr2
        clear k2 hxl hxq hown hfr2 hx32
        by_cases hjl : j < l
        · obtain ⟨p, hp⟩ : ∃ p, ra = some ⟨p, 0, none⟩ := by
            rcases HOW.out.2 with ⟨hv, hn⟩ | ⟨p, cap, cur, hv, _⟩
            · omega
            · cases hv; exact ⟨p, rfl⟩
          subst hp
          have hne : p ≠ hb := HNB.out p rfl
          have QM : Hid (∀ W, Calls Tryz.prog 87 #[.int .i64 (m : Int)] W fun e w' => e = .returned (.agg (hbs (mk m))) ∧ Nw W w') := fun W => mark_any m hm W
          have hji : (j : Int) < (l : Int) := by omega
          have hs32 : (hbs (mk m)).size = 32 := by rw [hbs_size, mk_len]
          go_wp2_with fail
          have nb : Nw wr wr.drew := (Fr.refl _ _).drew
          have hkp : Hid (∀ V, Fr (fun q => q = p) wr V → V.heap[hb]? = some (.cells #[.slice (some ⟨p, 0, none⟩) l rc, .slice la ln lc, .int .i64 (m : Int)] 120)) := fun V hV => (hV.block _ (heap_lt K2.out) (fun q => hne q.symm)).trans K2.out
          refine wp_region_held_drew (S := fun V => V.heap[hb]? = some (.cells #[.slice (some ⟨p, 0, none⟩) l rc, .slice la ln lc, .int .i64 (m : Int)] 120)) (by kernel_rfl) (hkp.out _ (nb.mono (fun _ _ f => f.elim))) ?_
          intro hS0
          refine wpAnyH_take (i := 0) (v := .pointer (some ⟨hb, 0, none⟩)) rfl (by kernel_rfl) (by kernel_rfl) (by kernel_rfl) (fun _ _ _ h => h) (Or.inl ⟨by rfl, by intro w hw; go_simp⟩) hS0 ?_
          try simp only [Act.put, List.setIfInBounds_toArray, List.set_cons_zero, List.set_cons_succ]
          refine wpAnyH_take (i := 1) (v := .slice (some ⟨p, 0, none⟩) l rc) rfl (by kernel_rfl) (by kernel_rfl) (by kernel_rfl) (fun _ _ _ h => h) (Or.inl ⟨by rfl, by intro w hw; have hc := (cell_of hw 0).trans rfl; go_simp⟩) hS0 ?_
          try simp only [Act.put, List.setIfInBounds_toArray, List.set_cons_zero, List.set_cons_succ]
          refine wpAnyH_take (i := 2) (v := .int .i64 (j : Int)) rfl (by kernel_rfl) (by kernel_rfl) (by kernel_rfl) (fun _ _ _ h => h) (Or.inl ⟨by rfl, by intro w hw; go_simp⟩) hS0 ?_
          try simp only [Act.put, List.setIfInBounds_toArray, List.set_cons_zero, List.set_cons_succ]
          refine wpAnyH_take (i := 3) (v := .pointer (some ⟨hb, 2, none⟩)) rfl (by kernel_rfl) (by kernel_rfl) (by kernel_rfl) (fun _ _ _ h => h) (Or.inl ⟨by rfl, by intro w hw; go_simp⟩) hS0 ?_
          try simp only [Act.put, List.setIfInBounds_toArray, List.set_cons_zero, List.set_cons_succ]
          refine wpAnyH_take (i := 4) (v := .int .i64 (m : Int)) rfl (by kernel_rfl) (by kernel_rfl) (by kernel_rfl) (fun _ _ _ h => h) (Or.inl ⟨by rfl, by intro w hw; have hc := (cell_of hw 2).trans rfl; go_simp⟩) hS0 ?_
          try simp only [Act.put, List.setIfInBounds_toArray, List.set_cons_zero, List.set_cons_succ]
          refine wpAnyH_ready (rs := [5]) (by kernel_rfl) (by simp) ?_
          refine AllReadyH.cons rfl (fun K' hK => ?_) AllReadyH.nil
          go_simp
          go_wp2_with (go_at_call 87; refine (QM.out _).mono ?_; rintro e2 w2 ⟨rfl, n2⟩)
          have m2 : Nw wr w2 := Nw.tr nb n2
          have ow2 : w2.ownsRow 0 96 32 (.slice (some ⟨p, 0, none⟩) l rc) l (hsc xs) := ownsRow_keep HOW.out (fun q hq => m2.block q (HOW.out.lt q hq).2 (fun f => f))
          refine hK.out _ _ (hkp.out _ (m2.mono (fun _ _ f => f.elim))) (fun hS0 => ?_)
          try simp only [Act.put, List.setIfInBounds_toArray, List.set_cons_zero, List.set_cons_succ]
          refine wpAnyH_take (i := 6) (v := .pointer (some ⟨p, j * 32, none⟩)) rfl (by kernel_rfl) (by kernel_rfl) (by kernel_rfl) (fun _ _ _ h => h) (Or.inl ⟨by rfl, by intro w hw; go_simp⟩) hS0 ?_
          try simp only [Act.put, List.setIfInBounds_toArray, List.set_cons_zero, List.set_cons_succ]
          obtain ⟨cur, new, hc1, hc2, hc3, hc4⟩ := own_set (w' := w2) HX32.out HXL.out ow2 j hjl (mk m) (mk_len m)
          refine wpAnyH_ready (rs := [7]) (by kernel_rfl) (by simp) ?_
          refine AllReadyH.cons rfl (fun K' hK => ?_) AllReadyH.nil
          refine step_store_agg rfl (.tmp 34) (.tmp 33) 96 32 rfl Tryz.sizeOf96 p (j * 32) rfl cur 96 hc1 (hbs (mk m)) rfl hs32 (hbs_one _) hc2 new hc3 ?_
          intro w5 j5 f5 z5
          have f5b : Fr (fun q => q = p) wr w5 := (m2.mono (fun _ _ f => f.elim)).trans f5 (fun _ _ q => q)
          refine hK.out _ _ (hkp.out _ f5b) (fun hS0 => ?_)
          try simp only [Act.put, List.setIfInBounds_toArray, List.set_cons_zero, List.set_cons_succ]
          refine wpAnyH_done (by kernel_rfl) ?_ _
          go_wp2_with fail
          obtain ⟨cur2, new2, g1, g2, g3, g4⟩ := own_set (w' := w5) HX32.out HXL.out ow2 j hjl (mk m) (mk_len m)
          have hcc : cur2 = cur := by rw [hc1] at g1; cases g1; rfl
          have hnn : new2 = new := by apply Array.ext'; rw [g3, hc3, hcc]
          have O5 : Hid (w5.ownsRow 0 96 32 (.slice (some ⟨p, 0, none⟩) l rc) l (hsc (xs.set j (mk m)))) := g4 (by rw [hnn]; exact j5)
          have F5 : Hid (Fr (fun q => (Value.slice (some ⟨p, 0, none⟩) l rc).ownBlock = some q) w1 w5) := HF2.out.trans f5b (fun q _ h => by rw [h]; rfl)
          clear g1 g2 g3 g4 hc1 hc2 hc3 hc4 ow2 f5b j5 f5 hS0 hK
          go_wp2
          refine ⟨⟨j + 1, xs.set j (mk m), by omega, by go_num, by rw [List.length_set]; exact HXL.out, fun x hx => ?_, fun q hq => ?_, O5.out, F5.out⟩, by simp [intOf]; omega⟩
          · rcases List.mem_or_eq_of_mem_set hx with hx | rfl
            · exact HX32.out x hx
            · exact mk_len m
          · rw [List.getElem?_set]
            by_cases hqj : j = q
            · subst hqj
              rw [if_pos rfl, if_pos (by rw [HXL.out]; exact hjl)]
            · rw [if_neg hqj]
              exact HXQ.out q (by omega)
        · obtain rfl : j = l := by omega
          have hjj : ¬ (j : Int) < (j : Int) := by omega
          have hrep : xs = List.replicate j (mk m) := by
            apply List.ext_getElem?
            intro q
            by_cases hq : q < j
            · rw [HXQ.out q hq, List.getElem?_replicate, if_pos hq]
            · rw [List.getElem?_eq_none (by rw [HXL.out]; omega), List.getElem?_eq_none (by simp; omega)]
          have frA : Hid (Fr (fun q => (Value.slice ra j rc).ownBlock = some q) wo wr) := (N1.out.mono (fun _ _ f => f.elim)).trans HF2.out (fun _ _ h => h)
          go_wp2
          refine ⟨⟨k + 1, fun i => if i = k then List.replicate j (mk m) else Y i, by omega, by go_num, ?_, ?_, ?_, ?_, ?_⟩, by simp [intOf]; omega⟩
          · refine HRw.out.upd k _ HT.out _ (fun x hx => by rw [List.eq_of_mem_replicate hx]; exact mk_len m) ?_ frA.out
            rw [List.length_replicate, ← hrep]
            exact HOW.out
          · intro i
            by_cases hi : i = k
            · subst hi; simp only [if_true]; rw [List.length_replicate, HL.out, HYl.out]
            · simp only [hi, if_false]; exact HYl.out i
          · intro i hi
            by_cases hik : i = k
            · subst hik
              simp only [if_true]
              rw [num_at HT.out, HL.out, HYl.out]
            · simp only [hik, if_false]
              exact HYk.out i (by omega)
          · exact HBk.out.fr frA.out (fun q => (HNE.out bk q).1 rfl) (fun g' hg' q => by
              have e : g' = g := by injection hg' with e; exact e.symm
              rw [e] at q
              exact (HNE.out g q).2.1 rfl)
          · exact HFr.out.trans frA.out (fun q _ h => ⟨k, _, HT.out, h⟩)
    · obtain rfl : k = H.length := by omega
      go_wp2
      go_end0
      refine ⟨rfl, HBk.out, ?_, HFr.out⟩
      refine ⟨fun i h hi => ?_, fun i x hx => by rw [List.eq_of_mem_replicate hx]; exact mk_len _, HRw.out.ne, HRw.out.apart, HRw.out.lng⟩
      have hil : i < H.length := (List.getElem?_eq_some_iff.1 hi).1
      have := HRw.out.own i h hi
      rw [HYk.out i hil] at this
      exact this
end HB
end Go.Proofs.YtgobdjdaehlgdaaGreatDoor
namespace Go.Proofs.YtgobdjdaehlgdaaGreatDoor
namespace HB
open Go.RowKit
set_option linter.unusedVariables false
set_option linter.unusedSimpArgs false

/-- So many marks. -/
abbrev mks (n m : Nat) : List Value := hsc (List.replicate n (mk m))
theorem rep32 (n m : Nat) : ∀ x ∈ List.replicate n (mk m), x.length = 32 := fun x hx => by rw [List.eq_of_mem_replicate hx]; exact mk_len m
theorem mks_take (n k m : Nat) (h : k ≤ n) : (mks n m).take (k * 32) = mks k m := by rw [hsc_take _ (rep32 n m), List.take_replicate, Nat.min_eq_left h]
theorem mks_more (n m : Nat) : mks n m ++ (hbs (mk m)).toList = mks (n + 1) m := by
  rw [← hsc_one, ← hsc_app, ← List.replicate_succ']
/-- A row of l marks that is grown by j. -/
structure Gl (w1 w : World) (ra : Option Addr) (l rc m j : Nat) (v : Value) : Prop where
  lng : w.ownsRow 0 96 32 v (l + j) (mks (l + j) m)
  row : w.ownsRow 0 96 32 (.slice ra l rc) l (mks l m)
  at_ : v = .slice ra (l + j) rc ∨ (∃ q, v.ownBlock = some q ∧ w1.heap.size ≤ q)
  fr : Fr (fun q => (Value.slice ra l rc).ownBlock = some q) w1 w
theorem Gl.nw {w1 w w' : World} {ra : Option Addr} {l rc m j : Nat} {v : Value} (h : Gl w1 w ra l rc m j v) (n : Nw w w') : Gl w1 w' ra l rc m j v :=
  ⟨ownsRow_keep h.lng (fun g hg => n.block g (h.lng.lt g hg).2 (fun f => f)), ownsRow_keep h.row (fun g hg => n.block g (h.row.lt g hg).2 (fun f => f)), h.at_, h.fr.trans n (fun _ _ f => f.elim)⟩
theorem Gl.step {w1 w w' : World} {ra : Option Addr} {l rc m j : Nat} {v v' : Value} (h : Gl w1 w ra l rc m j v)
    (ho : w'.ownsRow 0 96 32 v' (l + j + 1) (mks (l + j) m ++ (hbs (HB.mk m)).toList)) (ht : Two w w' 96 32 v v' (l + j) 1 (mks (l + j) m ++ (hbs (HB.mk m)).toList)) : Gl w1 w' ra l rc m (j + 1) v' := by
  rw [mks_more] at ho ht
  rcases ht with ⟨g, cap, rfl, rfl, hg⟩ | ⟨hn, hg⟩
  · rcases h.at_ with he | ⟨q, hq, hq1⟩
    · cases he
      refine ⟨ho, ?_, .inl rfl, h.fr.grown hg (fun k hk _ => hk)⟩
      have := own_shrink ho l (by omega)
      rw [mks_take _ _ _ (by omega)] at this
      exact this
    · have hqg : g = q := by simpa [Value.ownBlock] using hq
      subst hqg
      refine ⟨ho, ?_, .inr ⟨g, rfl, hq1⟩, h.fr.grown hg (fun k hk hlt => by cases hk; omega)⟩
      by_cases hgr : (Value.slice ra l rc).ownBlock = some g
      · have := own_shrink ho l (by omega)
        rw [mks_take _ _ _ (by omega)] at this
        rcases h.row.2 with ⟨h2, _⟩ | ⟨g', cap', cur, hv, hb, hh, h3, h4, h5, h6⟩
        · rw [h2] at hgr; cases hgr
        · cases hv
          have : g' = g := by simpa [Value.ownBlock] using hgr
          subst this
          rcases this with _
          rcases h.lng.2 with ⟨k2, _⟩ | ⟨g2, cap2, cur2, hv2, hb2, hh2, k3, k4, k5, k6⟩
          · cases k2
          · cases hv2
            rw [hh] at hh2
            cases hh2
            obtain rfl : cap = rc := by omega
            assumption
      · exact ownsRow_keep h.row (fun p hp => hg.block p (h.row.lt p hp).2 (fun e => hgr (by rw [hp, e])))
  · refine ⟨ho, ?_, .inr ?_, h.fr.grown hg (fun k hk _ => by cases hk)⟩
    · exact ownsRow_keep h.row (fun p hp => hg.block p (h.row.lt p hp).2 (fun e => by cases e))
    · rcases hn.2 with ⟨_, h0⟩ | ⟨g, cap, cur, rfl, hb, _⟩
      · omega
      · exact ⟨g, rfl, Nat.le_trans h.fr.size hb⟩
theorem Gl.start {w : World} {ra : Option Addr} {l rc m : Nat} (h : w.ownsRow 0 96 32 (.slice ra l rc) l (mks l m)) : Gl w w ra l rc m 0 (.slice ra l rc) := ⟨h, h, .inl rfl, Fr.refl _ _⟩

theorem hc_set : ∀ (H : List Held) (k : Nat) (h : Held) (u : Value), H[k]? = some h → hc (H.set k (h.1, u, h.2.2)) = (hc H).set (k * 3 + 1) u
  | [], k, h, u, e => by simp at e
  | x :: r, 0, h, u, e => by simp at e; subst e; rfl
  | x :: r, k + 1, h, u, e => by
    have i := hc_set r k h u (by simpa using e)
    have q : (k + 1) * 3 + 1 = k * 3 + 1 + 1 + 1 + 1 := by omega
    rw [q]
    simp only [List.set_cons_succ, hc, i]
theorem own_set1 {w : World} {base : Nat} {e : TypeId} {size g n cap : Nat} {xs : List Value} (h : w.ownsRow base e size (.slice (some ⟨g, 0, none⟩) n cap) n xs) (o : Nat) (u : Value) :
    (w.setCell ⟨g, o, none⟩ u).ownsRow base e size (.slice (some ⟨g, 0, none⟩) n cap) n (xs.set o u) := by
  obtain ⟨h1, h2⟩ := h
  rcases h2 with ⟨h2, _⟩ | ⟨g', cap', cur, hv, hb, hh, h3, h4, h5, h6⟩
  · cases h2
  · cases hv
    refine ⟨by simpa using h1, .inr ⟨g, cap, _, rfl, hb, heap_set hh _, h3, h4, by simpa using h5, ?_⟩⟩
    rw [← h6]
    simp [Array.toList_setIfInBounds, List.take_set]
theorem Bk.set {w : World} {bk N g n cap : Nat} {H : List Held} (h : Bk w bk N (.slice (some ⟨g, 0, none⟩) n cap) H) (k : Nat) (t : Held) (ht : H[k]? = some t) (u : Value) :
    Bk (w.setCell ⟨g, k * 3 + 1, none⟩ u) bk N (.slice (some ⟨g, 0, none⟩) n cap) (H.set k (t.1, u, t.2.2)) := by
  have hne := h.ne g rfl
  refine ⟨(heap_set_ne (fun e => hne e.symm) _).trans h.blk, ?_, h.ne⟩
  obtain ⟨ad, c, e⟩ := ownsRow_form h.own
  cases e
  rw [hc_set H k t u ht]
  simp only [List.length_set]
  exact own_set1 h.own _ _
/-- The same rows with the same numbers. -/
def Sm (H H' : List Held) : Prop := H'.length = H.length ∧ ∀ (i : Nat) (h : Held), H[i]? = some h → ∃ v, H'[i]? = some (h.1, v, h.2.2)
theorem Sm.refl (H : List Held) : Sm H H := ⟨rfl, fun i h e => ⟨h.2.1, e⟩⟩
theorem Sm.back {H H' : List Held} (s : Sm H H') {i : Nat} {h : Held} (e : H'[i]? = some h) : ∃ v, H[i]? = some (h.1, v, h.2.2) := by
  have hi : i < H.length := by rw [← s.1]; exact (List.getElem?_eq_some_iff.1 e).1
  obtain ⟨v, q⟩ := s.2 i _ (List.getElem?_eq_getElem hi)
  rw [e] at q
  cases q
  exact ⟨_, List.getElem?_eq_getElem hi⟩
theorem Sm.set {H H' : List Held} (s : Sm H H') (k : Nat) (t : Held) (ht : H'[k]? = some t) (u : Value) : Sm H (H'.set k (t.1, u, t.2.2)) := by
  refine ⟨by rw [List.length_set]; exact s.1, fun i h e => ?_⟩
  obtain ⟨v, q⟩ := s.2 i h e
  by_cases hik : k = i
  · subst hik
    rw [ht] at q
    cases q
    exact ⟨u, by rw [List.getElem?_set_self (List.getElem?_eq_some_iff.1 ht).1]⟩
  · exact ⟨v, by rw [List.getElem?_set_ne hik]; exact q⟩
theorem Rws.set {w : World} {bk : Nat} {v : Value} {H : List Held} {X : Nat → List (List UInt8)} (h : Rws w bk v H X) (k : Nat) (t : Held) (ht : H[k]? = some t) (a : Option Addr) (n c : Nat) : Rws w bk v (H.set k (t.1, .slice a n c, t.2.2)) X := by
  have hs := (Sm.refl H).set k t ht (.slice a n c)
  refine ⟨fun i u hu => ?_, h.l32, fun i u hu => ?_, fun i j u u' g hij hu hu' => ?_, fun i u hu => ?_⟩
  · obtain ⟨v, q⟩ := hs.back hu
    exact h.own i (u.1, v, u.2.2) q
  · obtain ⟨v, q⟩ := hs.back hu
    exact h.ne i (u.1, v, u.2.2) q
  · obtain ⟨v, q⟩ := hs.back hu
    obtain ⟨v', q'⟩ := hs.back hu'
    exact h.apart i j (u.1, v, u.2.2) (u'.1, v', u'.2.2) g hij q q'
  · by_cases hik : k = i
    · subst hik
      rw [List.getElem?_set_self (List.getElem?_eq_some_iff.1 ht).1] at hu
      cases hu
      exact ⟨a, n, c, rfl⟩
    · rw [List.getElem?_set_ne hik] at hu
      exact h.lng i u hu
theorem Rws.keep {w w' : World} {bk : Nat} {v : Value} {H : List Held} {X : Nat → List (List UInt8)} (h : Rws w bk v H X) (i : Nat) (t : Held) (ht : H[i]? = some t) (hy : w'.ownsRow 0 96 32 t.1 (X i).length (hsc (X i))) (hf : Fr (fun k => t.1.ownBlock = some k) w w') : Rws w' bk v H X := by
  have := h.upd i t ht (X i) (h.l32 i) hy hf
  have e : (fun j => if j = i then X i else X j) = X := by
    funext j
    by_cases hj : j = i
    · subst hj; simp
    · simp [hj]
  rw [e] at this
  exact this
theorem Rws.fr {S : Nat → Prop} {w w' : World} {bk : Nat} {v : Value} {H : List Held} {X : Nat → List (List UInt8)} (h : Rws w bk v H X) (hf : Fr S w w') (hS : ∀ k, Rb H k → ¬ S k) : Rws w' bk v H X :=
  ⟨fun i t ht => ownsRow_keep (h.own i t ht) (fun g hg => hf.block g ((h.own i t ht).lt g hg).2 (hS g ⟨i, t, ht, hg⟩)), h.l32, h.ne, h.apart, h.lng⟩
theorem Bk.list {w : World} {bk N g n cap : Nat} {H : List Held} (h : Bk w bk N (.slice (some ⟨g, 0, none⟩) n cap) H) : ∃ cur, w.heap[g]? = some (.cells cur 120 (0, 0)) := by
  rcases h.own.2 with ⟨h2, _⟩ | ⟨g', cap', cur, hv, hb, hh, _⟩
  · cases h2
  · cases hv
    exact ⟨cur, hh⟩
/-- The first k rows are grown: in their own blocks, or in new ones. -/
def Gd (w : World) (B : Nat) (H : List Held) (L : Nat → Nat) (k : Nat) : Prop :=
  ∀ (i : Nat) (h : Held), i < k → H[i]? = some h → w.ownsRow 0 96 32 h.2.1 (L i + 70) (mks (L i + 70) h.2.2) ∧ (h.2.1.ownBlock = h.1.ownBlock ∨ ∃ q, h.2.1.ownBlock = some q ∧ B ≤ q)

set_option maxRecDepth 100000 in
set_option maxHeartbeats 3000000 in
theorem grow_any (bk N : Nat) (v : Value) (H : List Held) (L : Nat → Nat) (w : World) (hB : Bk w bk N v H) (hR : Rws w bk v H (fun i => List.replicate (L i) (mk (num H i)))) (hH : H.length ≤ 1099511627776) (hX : ∀ i, L i ≤ 1099511627776) (hn : ∀ i, num H i < 9223372036854775807) :
    Calls Tryz.prog 52 #[.pointer (some ⟨bk, 0, none⟩)] w fun e w' => e = .returned (.tuple #[]) ∧ ∃ H', Sm H H' ∧ Bk w' bk N v H' ∧ Rws w' bk v H' (fun i => List.replicate (L i) (mk (num H i))) ∧ Gd w' w.heap.size H' L H.length ∧ Fr (fun k => Rb H k ∨ v.ownBlock = some k) w w' := by
  obtain ⟨i0, hi, hz0, hz1, hz2⟩ := info_parts infoHs
  have HB : Hid (Bk w bk N v H) := hB
  have HR : Hid (Rws w bk v H (fun i => List.replicate (L i) (mk (num H i)))) := hR
  have HX : Hid (∀ i, L i ≤ 1099511627776) := hX
  have HN : Hid (∀ i, num H i < 9223372036854775807) := hn
  have HLB0 : Hid (∀ q, Rb H q → q < w.heap.size) := fun q ⟨i, h, hi, hq⟩ => ((hR.own i h hi).lt q hq).2
  have HGL0 : Hid (∀ q, v.ownBlock = some q → q < w.heap.size) := fun q hq => (hB.own.lt q hq).2
  obtain ⟨va, vc, rfl⟩ := ownsRow_form hB.own
  clear hB hR hX hn
  go_enter Tryz.func52, Tryz.ntmps52
  go_wp2
  go_loopw [2] (fun i wr => ∃ (k : Nat) (H' : List Held), k ≤ H.length ∧ i = .int .i64 k ∧ Sm H H' ∧ Bk wr bk N (.slice va H.length vc) H' ∧ Rws wr bk (.slice va H.length vc) H' (fun i => List.replicate (L i) (mk (num H i))) ∧ Gd wr w.heap.size H' L k ∧ Fr (fun k => Rb H k ∨ (Value.slice va H.length vc).ownBlock = some k) w wr) (fun i _ => H.length - (intOf i).toNat)
  case atStart => exact ⟨0, H, by omega, rfl, Sm.refl H, HB.out, HR.out, fun i h hi => by omega, Fr.refl _ _⟩
  case round =>
    obtain ⟨k, H', hk, rfl, hS, hBk, hRw, hLg, hfr⟩ := hrel
    have b0 := hBk.blk
    have c6 : wr.cell? ⟨bk, 5, none⟩ = some (.slice va H.length vc) := (cell_of b0 5).trans rfl
    have HS : Hid (Sm H H') := hS
    have HBk : Hid (Bk wr bk N (.slice va H.length vc) H') := hBk
    have HRw : Hid (Rws wr bk (.slice va H.length vc) H' (fun i => List.replicate (L i) (mk (num H i)))) := hRw
    have HLg : Hid (Gd wr w.heap.size H' L k) := hLg
    have HFr : Hid (Fr (fun k => Rb H k ∨ (Value.slice va H.length vc).ownBlock = some k) w wr) := hfr
    clear hS hBk hRw hLg hfr b0
    by_cases hlt : k < H.length
    · obtain ⟨t, ht⟩ : ∃ t, H'[k]? = some t := ⟨_, List.getElem?_eq_getElem (by rw [HS.out.1]; exact hlt)⟩
      obtain ⟨g, cap, hv, hg1, hg2, d0, d1, d2⟩ := HBk.out.cells k t ht
      injection hv with e1 e2 e3
      subst e1
      subst e3
      clear e2
      obtain ⟨h1, h2, m⟩ := t
      simp only at d0 d1 d2
      have hki : (k : Int) < (H.length : Int) := by omega
      have own0 := HRw.out.own k _ ht
      simp only [List.length_replicate] at own0
      have ne0 := HRw.out.ne k _ ht
      obtain ⟨v0, hv0⟩ := HS.out.back ht
      have hnum : num H k = m := num_at hv0
      have hm : m < 9223372036854775807 := by rw [← hnum]; exact HN.out k
      rw [hnum] at own0
      have rb0 : ∀ p, h1.ownBlock = some p → Rb H p := fun p hp => ⟨k, _, hv0, hp⟩
      clear hv0
      have HNum : Hid (num H k = m) := hnum
      obtain ⟨lx, hlx⟩ : ∃ l, l = L k := ⟨_, rfl⟩
      have hl1 : lx ≤ 1099511627776 := by rw [hlx]; exact HX.out k
      obtain ⟨ra, rc, rfl⟩ := ownsRow_form own0
      obtain ⟨la, ln, lc, hlg⟩ := HRw.out.lng k _ ht
      simp only at hlg
      subst hlg
      rw [← hlx] at own0 ne0 ht d0 rb0
      have HLX : Hid (lx = L k) := hlx
      have HO : Hid (wr.ownsRow 0 96 32 (.slice ra lx rc) lx (mks lx m)) := own0
      have HNE : Hid (∀ p, (Value.slice ra lx rc).ownBlock = some p → p ≠ bk ∧ p ≠ g ∧ p < wr.heap.size ∧ Rb H p) := fun p hp => ⟨(ne0 p hp).1, fun e => (ne0 p hp).2 (by rw [e]; rfl), (own0.lt p hp).2, rb0 p hp⟩
      have HT : Hid (H'[k]? = some (.slice ra lx rc, .slice la ln lc, m)) := ht
      clear own0 ne0 ht hnum hlx rb0
      go_wp2
      obtain ⟨w1, hw1⟩ : ∃ w1, wr.alloc (.cells #[.slice ra lx rc, .slice la ln lc, .int .i64 (m : Int)] 120) = w1 := ⟨_, rfl⟩
      have n1 : Nw wr w1 := by rw [← hw1]; exact (Fr.refl _ _).alloc _
      have k1 : w1.heap[wr.heap.size]? = some (.cells #[.slice ra lx rc, .slice la ln lc, .int .i64 (m : Int)] 120) := by rw [← hw1]; exact heap_new _ _
      have HS1 : Hid (w.heap.size ≤ w1.heap.size) := Nat.le_trans HFr.out.size n1.size
      rw [hw1]
      obtain ⟨hb, hhb⟩ : ∃ b, b = wr.heap.size := ⟨_, rfl⟩
      rw [← hhb] at k1 ⊢
      have HNB : Hid (∀ p, (Value.slice ra lx rc).ownBlock = some p → p ≠ hb) := fun p hp => by have := (HNE.out p hp).2.2.1; omega
      have HBF : Hid (Bk w1 bk N (.slice (some ⟨g, 0, none⟩) H.length vc) H') := HBk.out.nw n1
      have HOF : Hid (w1.ownsRow 0 96 32 (.slice ra lx rc) lx (mks lx m)) := ownsRow_keep HO.out (fun p hp => n1.block p (HO.out.lt p hp).2 (fun f => f))
      obtain ⟨wo, hwo⟩ : ∃ wo, wo = wr := ⟨_, rfl⟩
      have HN1 : Hid (Nw wo w1) := by rw [hwo]; exact n1
      rw [← hwo] at HBk HRw HFr HLg HO
      clear hw1 hhb d0 d1 d2 c6 hg2 hwo n1
      go_loopw [4, 5] (fun lv i w2 => ∃ j : Nat, j ≤ 70 ∧ i = .int .i64 j ∧ Gl w1 w2 ra lx rc m j lv) (fun _ i _ => 70 - (intOf i).toNat)
      case atStart => exact ⟨0, by omega, rfl, Gl.start HOF.out⟩
      case round =>
        obtain ⟨j, hj, rfl, hgl2⟩ := hrel
        obtain ⟨xa, xc, hx⟩ := ownsRow_form hgl2.lng
        subst hx
        have k2 := (hgl2.fr.block hb (heap_lt k1) (fun e => HNB.out hb e rfl)).trans k1
        have e2 : wr.cell? ⟨hb, 2, none⟩ = some (.int .i64 (m : Int)) := (cell_of k2 2).trans rfl
        have HGL : Hid (Gl w1 wr ra lx rc m j (.slice xa (lx + j) xc)) := hgl2
        clear k2 hgl2
        by_cases hj70 : j < 70
        · have hji : (j : Int) < 70 := by omega
          have hRl : (hbs (mk m)).size = 32 := by rw [hbs_size, mk_len]
          go_wp2_with fail
          refine (mark_any m hm _).mono ?_
          rintro e3 w3 ⟨rfl, n3⟩
          have HG3 : Hid (Gl w1 (w3.alloc (.cells (hbs (mk m)) 96)) ra lx rc m j (.slice xa (lx + j) xc)) := (HGL.out.nw n3).nw ((Fr.refl _ _).alloc _)
          have own5 : Hid ((w3.alloc (.cells (hbs (mk m)) 96)).ownsRow 0 96 32 (.slice xa (lx + j) xc) (lx + j) (mks (lx + j) m)) := HG3.out.lng
          clear n3 e2
          go_wp2_with first
            | refine wp_build1 rfl (.tmp 31) rfl (hbs (mk m)) rfl hRl ?_
            | (at_builtin; refine wpList_two _ rfl (.tmp 28) (.tmp 32) 66 rfl 0 96 i0 (.agg z32) 32 32 Tryz.underlying66 hi hz0 hz1 hz2 z32_size (by decide) (.slice xa (lx + j) xc) (lx + j) (mks (lx + j) m) rfl own5.out ⟨w3.heap.size, 0, none⟩ 1 1 (hbs (mk m)).toList rfl (by simp [hRl]) (hash_new _ _ _) (hbs_one _) (by unfold maxLen; omega) (by omega) (by omega) ?_; intro v' w5 o5 t5; have HG5 := show Hid _ from HG3.out.step o5 t5; obtain ⟨va', vc', rfl⟩ := ownsRow_form o5; clear o5 t5)
          exact ⟨⟨j + 1, by omega, by go_num, HG5.out⟩, by simp [intOf]; omega⟩
        · obtain rfl : j = 70 := by omega
          have frT : Hid (Fr (fun q => (Value.slice ra lx rc).ownBlock = some q) w1 wr) := HGL.out.fr
          have HBx : Hid (Bk wr bk N (.slice (some ⟨g, 0, none⟩) H.length vc) H') := HBF.out.fr frT.out (fun e => (HNE.out bk e).1 rfl) (fun q hq e => by
            have eq : g = q := by injection hq
            exact (HNE.out q e).2.1 eq.symm)
          have c6 : wr.cell? ⟨bk, 5, none⟩ = some (.slice (some ⟨g, 0, none⟩) H.length vc) := (cell_of HBx.out.blk 5).trans rfl
          obtain ⟨cur, hcur⟩ := HBx.out.list
          have f1 := frozen_of hcur (k * 3 + 1)
          obtain ⟨gx, capx, hvx, _, _, _, d1, _⟩ := HBx.out.cells k _ HT.out
          injection hvx with e1 _ _
          injection e1 with e1
          injection e1 with e1
          subst e1
          clear hcur
          go_wp2
          have frA := (HN1.out.mono (S' := fun q => (Value.slice ra lx rc).ownBlock = some q) (fun _ _ f => f.elim)).trans frT.out (fun _ _ h => h)
          refine ⟨⟨k + 1, H'.set k (.slice ra lx rc, .slice xa (lx + 70) xc, m), by omega, by go_num, HS.out.set k _ HT.out _, HBx.out.set k _ HT.out _, ?_, ?_, ?_⟩, by simp [intOf]; omega⟩
          · have r1 := HRw.out.keep k _ HT.out (by simp only [List.length_replicate, ← HLX.out, HNum.out]; exact HGL.out.row) frA
            exact ((r1.fr (S := fun q => q = g) ((Fr.refl _ wr).setCell _ _ (fun _ => rfl)) (fun q hq e => by
              obtain ⟨i, h, hi, hb⟩ := hq
              exact (HRw.out.ne i h hi q hb).2 (by rw [e]; rfl))).set k _ HT.out _ _ _)
          · have hgw := HGL0.out g rfl
            have hs1 := HS1.out
            intro i h hik hi
            by_cases hke : k = i
            · subst hke
              rw [List.getElem?_set_self (List.getElem?_eq_some_iff.1 HT.out).1] at hi
              cases hi
              rw [← HLX.out]
              rcases HGL.out.at_ with e | ⟨q, hq, hq1⟩
              · have eb : (Value.slice xa (lx + 70) xc).ownBlock = (Value.slice ra lx rc).ownBlock := by rw [e]; cases ra <;> rfl
                exact ⟨ownsRow_keep HGL.out.lng (fun p hp => heap_set_ne (HNE.out p (by rw [← eb]; exact hp)).2.1 _), .inl eb⟩
              · refine ⟨ownsRow_keep HGL.out.lng (fun p hp => heap_set_ne ?_ _), .inr ⟨q, hq, by omega⟩⟩
                have hpq : p = q := by rw [hq] at hp; exact (Option.some.inj hp).symm
                omega
            · rw [List.getElem?_set_ne hke] at hi
              obtain ⟨o, lcn⟩ := HLg.out i h (by omega) hi
              have hblk : ∀ p, h.2.1.ownBlock = some p → (Value.slice ra lx rc).ownBlock ≠ some p ∧ p ≠ g := by
                intro p hp
                rcases lcn with e | ⟨q, hq, hq1⟩
                · rw [e] at hp
                  have := HRw.out.ne i h hi p hp
                  exact ⟨HRw.out.apart i k h _ p (fun q => hke q.symm) hi HT.out hp, fun e => this.2 (by rw [e]; rfl)⟩
                · have hpq : p = q := by rw [hq] at hp; exact (Option.some.inj hp).symm
                  subst hpq
                  exact ⟨fun e => by have := HLB0.out p (HNE.out p e).2.2.2; omega, by omega⟩
              exact ⟨ownsRow_keep o (fun p hp => (heap_set_ne (hblk p hp).2 _).trans (frA.block p (o.lt p hp).2 (hblk p hp).1)), lcn⟩
          · exact (HFr.out.trans frA (fun q _ h => .inl (HNE.out q h).2.2.2)).setCell _ _ (fun _ => .inr rfl)
    · obtain rfl : k = H.length := by omega
      go_wp2
      go_end0
      exact ⟨rfl, H', HS.out, HBk.out, HRw.out, HLg.out, HFr.out⟩
end HB
end Go.Proofs.YtgobdjdaehlgdaaGreatDoor
namespace Go.Proofs.YtgobdjdaehlgdaaGreatDoor
namespace HB
open Go.RowKit
set_option linter.unusedVariables false
set_option linter.unusedSimpArgs false

theorem mks_at {w : World} {n m : Nat} {g cap : Nat} (h : w.ownsRow 0 96 32 (.slice (some ⟨g, 0, none⟩) n cap) n (mks n m)) (j : Nat) (hj : j < n) : ∀ i, i < 32 → w.cell? ⟨g, j * 32 + i, none⟩ = (hbs (mk m))[i]? := by
  intro i hi
  have h4 := hsc_get _ (rep32 n m) j (mk m) (by rw [List.getElem?_replicate, if_pos hj]) i hi
  have h5 : (bc (mk m))[i]? = (hbs (mk m))[i]? := by simp [hbs]
  have h3 : (hbs (mk m))[i]? = some (.int .u8 (((mk m).getD i 0).toNat : Nat)) := hbs_get (mk m) i (by rw [mk_len]; exact hi)
  have := h.cells (g := g) rfl (j * 32 + i) _ (by rw [h4, h5, h3])
  rw [addZ] at this
  rw [this, h3]
theorem hcells_nw {w w' : World} {g off : Nat} {A : List UInt8} (hA : A.length = 32) (h : ∀ i, i < 32 → w.cell? ⟨g, off + i, none⟩ = (hbs A)[i]?) (n : Nw w w') : ∀ i, i < 32 → w'.cell? ⟨g, off + i, none⟩ = (hbs A)[i]? := fun i hi => by
  have h3 : (hbs A)[i]? = some (.int .u8 ((A.getD i 0).toNat : Nat)) := hbs_get A i (by rw [hA]; exact hi)
  have h2 := h i hi
  rw [h3] at h2 ⊢
  exact n.cellOf h2
theorem own_there {w : World} {n m : Nat} {a : Option Addr} {cap : Nat} (h : w.ownsRow 0 96 32 (.slice a n cap) n (mks n m)) (hn : 0 < n) : ∃ g, a = some ⟨g, 0, none⟩ := by
  rcases h.2 with ⟨e, h0⟩ | ⟨g, c, cur, e, _⟩
  · omega
  · cases e; exact ⟨g, rfl⟩

set_option maxRecDepth 100000 in
set_option maxHeartbeats 4000000 in
theorem look_any (bk N B : Nat) (v : Value) (H : List Held) (L : Nat → Nat) (w : World) (hB : Bk w bk N v H) (hR : ∀ (i : Nat) (h : Held), H[i]? = some h → w.ownsRow 0 96 32 h.1 (L i) (mks (L i) h.2.2)) (hLg : Gd w B H L H.length) (hH : H.length ≤ 1099511627776) (hX : ∀ i, L i ≤ 1099511627776) (hn : ∀ i, num H i < 9223372036854775807) :
    Calls Tryz.prog 68 #[.pointer (some ⟨bk, 0, none⟩)] w fun e w' => e = .returned (.bool true) ∧ Nw w w' := by
  have HB : Hid (Bk w bk N v H) := hB
  have HR : Hid (∀ (i : Nat) (h : Held), H[i]? = some h → w.ownsRow 0 96 32 h.1 (L i) (mks (L i) h.2.2)) := hR
  have HLg : Hid (Gd w B H L H.length) := hLg
  have HX : Hid (∀ i, L i ≤ 1099511627776) := hX
  have HN : Hid (∀ i, num H i < 9223372036854775807) := hn
  obtain ⟨va, vc, rfl⟩ := ownsRow_form hB.own
  clear hB hR hX hn hLg
  go_enter Tryz.func68, Tryz.ntmps68
  go_wp2
  go_loopw [3] (fun i wr => ∃ k : Nat, k ≤ H.length ∧ i = .int .i64 k ∧ Nw w wr) (fun i _ => H.length - (intOf i).toNat)
  case atStart => exact ⟨0, by omega, rfl, nwr w⟩
  case round =>
    obtain ⟨k, hk, rfl, hnw⟩ := hrel
    have c6 : wr.cell? ⟨bk, 5, none⟩ = some (.slice va H.length vc) := hnw.cellOf ((cell_of HB.out.blk 5).trans rfl)
    have HNW : Hid (Nw w wr) := hnw
    clear hnw
    by_cases hlt : k < H.length
    · obtain ⟨t, ht⟩ : ∃ t, H[k]? = some t := ⟨_, List.getElem?_eq_getElem hlt⟩
      obtain ⟨g, cap, hv, hg1, hg2, d0, d1, d2⟩ := HB.out.cells k t ht
      cases hv
      obtain ⟨h1, h2, m⟩ := t
      simp only at d0 d1 d2
      have hki : (k : Int) < (H.length : Int) := by omega
      have own0 := HR.out k _ ht
      obtain ⟨own1, _⟩ := HLg.out k _ hlt ht
      simp only at own0 own1
      have hm : m < 9223372036854775807 := by have := HN.out k; rw [num_at ht] at this; exact this
      obtain ⟨lx, hlx⟩ : ∃ l, l = L k := ⟨_, rfl⟩
      have hl1 : lx ≤ 1099511627776 := by rw [hlx]; exact HX.out k
      obtain ⟨ra, rc, rfl⟩ := ownsRow_form own0
      obtain ⟨la, lc, rfl⟩ := ownsRow_form own1
      obtain ⟨p, rfl⟩ := own_there own1 (by omega)
      rw [← hlx] at own0 own1 d0 d1
      have HO0 : Hid (w.ownsRow 0 96 32 (.slice ra lx rc) lx (mks lx m)) := own0
      have HO1 : Hid (w.ownsRow 0 96 32 (.slice (some ⟨p, 0, none⟩) (lx + 70) lc) (lx + 70) (mks (lx + 70) m)) := own1
      clear own0 own1 ht hlx
      replace d0 := HNW.out.cellOf d0
      replace d1 := HNW.out.cellOf d1
      replace d2 := HNW.out.cellOf d2
      go_wp2
      obtain ⟨w1, hw1⟩ : ∃ w1, wr.alloc (.cells #[.slice ra lx rc, .slice (some ⟨p, 0, none⟩) (lx + 70) lc, .int .i64 (m : Int)] 120) = w1 := ⟨_, rfl⟩
      have n1 : Nw w w1 := by rw [← hw1]; exact HNW.out.alloc _
      have k1 : w1.heap[wr.heap.size]? = some (.cells #[.slice ra lx rc, .slice (some ⟨p, 0, none⟩) (lx + 70) lc, .int .i64 (m : Int)] 120) := by rw [← hw1]; exact heap_new _ _
      rw [hw1]
      obtain ⟨hb, hhb⟩ : ∃ b, b = wr.heap.size := ⟨_, rfl⟩
      rw [← hhb] at k1 ⊢
      have HN1 : Hid (Nw w w1) := n1
      have HK1 := show Hid _ from k1
      clear hw1 hhb d0 d1 d2 c6 n1 k1
      go_loopw [5] (fun i w2 => ∃ j : Nat, j ≤ lx + 70 ∧ i = .int .i64 j ∧ Nw w1 w2) (fun i _ => lx + 70 - (intOf i).toNat)
      case atStart => exact ⟨0, by omega, rfl, nwr w1⟩
      case round =>
        obtain ⟨j, hj, rfl, hn2⟩ := hrel
        have k2 := (hn2.block hb (heap_lt HK1.out) (fun f => f)).trans HK1.out
        have e1 : wr.cell? ⟨hb, 1, none⟩ = some (.slice (some ⟨p, 0, none⟩) (lx + 70) lc) := (cell_of k2 1).trans rfl
        have HE0 : Hid (wr.cell? ⟨hb, 0, none⟩ = some (.slice ra lx rc)) := (cell_of k2 0).trans rfl
        have HE1 : Hid (wr.cell? ⟨hb, 1, none⟩ = some (.slice (some ⟨p, 0, none⟩) (lx + 70) lc)) := e1
        have HE2 : Hid (wr.cell? ⟨hb, 2, none⟩ = some (.int .i64 (m : Int))) := (cell_of k2 2).trans rfl
        have HN2 : Hid (Nw w1 wr) := hn2
        clear k2 hn2
        by_cases hjl : j < lx + 70
        · have hji : (j : Int) < (lx : Int) + 70 := by omega
          have M32 : Hid ((mk m).length = 32) := mk_len m
          have QI : Hid (∀ W, Nw wr W → Calls Tryz.prog 89 #[.agg (hbs (mk m)), .int .i64 (m : Int)] W fun e w' => e = .returned (.bool true) ∧ Nw W w') := fun W _ => is_any m hm W
          have HA : Hid (∀ i, i < 32 → wr.cell? ⟨p, j * 32 + i, none⟩ = (hbs (mk m))[i]?) := hcells_nw M32.out (mks_at HO1.out j hjl) (HN1.out.tr HN2.out)
          go_wp2
          clear e1
          haveI : Nonempty (Grw wr) := ⟨⟨wr, nwr wr⟩⟩
          have hex := fun x : Grw wr => (⟨x, rfl⟩ : ∃ y : Grw wr, x.val = y.val)
          have z0 := fun x : Grw wr => x.nw.cellOf HE0.out
          have z1 := fun x : Grw wr => x.nw.cellOf HE1.out
          have z2 := fun x : Grw wr => x.nw.cellOf HE2.out
          by_cases hjx : j < lx
          · obtain ⟨p0, rfl⟩ := own_there HO0.out (by omega)
            have HA0 : Hid (∀ i, i < 32 → wr.cell? ⟨p0, j * 32 + i, none⟩ = (hbs (mk m))[i]?) := hcells_nw M32.out (mks_at HO0.out j hjx) (HN1.out.tr HN2.out)
            have hji0 : (j : Int) < (lx : Int) := by omega
            (refine wp_region_grown (by kernel_rfl) (by kernel_rfl) ?_; (repeat (first | go_big_quiet_skip | (go_big_quiet_want; first | (refine quiet_load (.tmp 40) rfl p (j * 32) rfl (mk m) M32.out HA.out ?_; ((try simp only [Act.put, List.setIfInBounds_toArray, List.set_cons_zero, List.set_cons_succ]); go_big_quiet_on)) | (refine quiet_load (.tmp 56) rfl p0 (j * 32) rfl (mk m) M32.out HA0.out ?_; ((try simp only [Act.put, List.setIfInBounds_toArray, List.set_cons_zero, List.set_cons_succ]); go_big_quiet_on)) | (go_big_quiet_op; first | go_big_quiet_on | go_big_quiet_call (first | rfl | with_reducible exact grw_call QI.out (nwr wr) _))))); refine wpQuiet_nil ?_; rintro W ⟨⟨_, nW⟩, rfl⟩)
            go_wp2_with fail
            exact ⟨⟨j + 1, by omega, by go_num, HN2.out.tr nW⟩, by simp [intOf]; omega⟩
          · have hji0 : ¬ (j : Int) < (lx : Int) := by omega
            have hji1 : decide ((j : Int) < (lx : Int)) = false := by simp; omega
            (refine wp_region_grown (by kernel_rfl) (by kernel_rfl) ?_; (repeat (first | go_big_quiet_skip | (go_big_quiet_want; first | (refine quiet_load (.tmp 40) rfl p (j * 32) rfl (mk m) M32.out HA.out ?_; ((try simp only [Act.put, List.setIfInBounds_toArray, List.set_cons_zero, List.set_cons_succ]); go_big_quiet_on)) | (go_big_quiet_op; first | go_big_quiet_on | go_big_quiet_call (first | rfl | with_reducible exact grw_call QI.out (nwr wr) _))))); refine wpQuiet_nil ?_; rintro W ⟨⟨_, nW⟩, rfl⟩)
            go_wp2_with fail
            exact ⟨⟨j + 1, by omega, by go_num, HN2.out.tr nW⟩, by simp [intOf]; omega⟩
        · obtain rfl : j = lx + 70 := by omega
          go_wp2
          exact ⟨⟨k + 1, by omega, by go_num, HN1.out.tr HN2.out⟩, by simp [intOf]; omega⟩
    · obtain rfl : k = H.length := by omega
      go_wp2
      go_ret
      exact ⟨rfl, HNW.out⟩
end HB
end Go.Proofs.YtgobdjdaehlgdaaGreatDoor
namespace Go.Proofs.YtgobdjdaehlgdaaGreatDoor
open Go.RowKit
set_option linter.unusedVariables false
set_option linter.unusedSimpArgs false

theorem fillInt_none (bk : Nat) (w : World) (h : w.cell? ⟨bk, 1, none⟩ = some (.slice none 0 0)) : Calls Tryz.prog 32 #[.pointer (some ⟨bk, 0, none⟩)] w fun e w' => e = .returned (.tuple #[]) ∧ w' = w := by
  go_enter Tryz.func32, Tryz.ntmps32
  go_wp2
  refine wp_loop_rounds 1 ?_
  rw [rounds_succ]
  go_wp2
  go_end0
  exact ⟨rfl, rfl⟩
theorem growInt_none (bk : Nat) (w : World) (h : w.cell? ⟨bk, 1, none⟩ = some (.slice none 0 0)) : Calls Tryz.prog 48 #[.pointer (some ⟨bk, 0, none⟩)] w fun e w' => e = .returned (.tuple #[]) ∧ w' = w := by
  go_enter Tryz.func48, Tryz.ntmps48
  go_wp2
  refine wp_loop_rounds 1 ?_
  rw [rounds_succ]
  go_wp2
  go_end0
  exact ⟨rfl, rfl⟩
theorem lookInt_none (bk : Nat) (w : World) (h : w.cell? ⟨bk, 1, none⟩ = some (.slice none 0 0)) : Calls Tryz.prog 64 #[.pointer (some ⟨bk, 0, none⟩)] w fun e w' => e = .returned (.bool true) ∧ w' = w := by
  go_enter Tryz.func64, Tryz.ntmps64
  go_wp2
  refine wp_loop_rounds 1 ?_
  rw [rounds_succ]
  go_wp2
  go_ret
  exact ⟨rfl, rfl⟩
theorem fillByte_none (bk : Nat) (w : World) (h : w.cell? ⟨bk, 2, none⟩ = some (.slice none 0 0)) : Calls Tryz.prog 33 #[.pointer (some ⟨bk, 0, none⟩)] w fun e w' => e = .returned (.tuple #[]) ∧ w' = w := by
  go_enter Tryz.func33, Tryz.ntmps33
  go_wp2
  refine wp_loop_rounds 1 ?_
  rw [rounds_succ]
  go_wp2
  go_end0
  exact ⟨rfl, rfl⟩
theorem growByte_none (bk : Nat) (w : World) (h : w.cell? ⟨bk, 2, none⟩ = some (.slice none 0 0)) : Calls Tryz.prog 49 #[.pointer (some ⟨bk, 0, none⟩)] w fun e w' => e = .returned (.tuple #[]) ∧ w' = w := by
  go_enter Tryz.func49, Tryz.ntmps49
  go_wp2
  refine wp_loop_rounds 1 ?_
  rw [rounds_succ]
  go_wp2
  go_end0
  exact ⟨rfl, rfl⟩
theorem lookByte_none (bk : Nat) (w : World) (h : w.cell? ⟨bk, 2, none⟩ = some (.slice none 0 0)) : Calls Tryz.prog 65 #[.pointer (some ⟨bk, 0, none⟩)] w fun e w' => e = .returned (.bool true) ∧ w' = w := by
  go_enter Tryz.func65, Tryz.ntmps65
  go_wp2
  refine wp_loop_rounds 1 ?_
  rw [rounds_succ]
  go_wp2
  go_ret
  exact ⟨rfl, rfl⟩
theorem fillText_none (bk : Nat) (w : World) (h : w.cell? ⟨bk, 3, none⟩ = some (.slice none 0 0)) : Calls Tryz.prog 34 #[.pointer (some ⟨bk, 0, none⟩)] w fun e w' => e = .returned (.tuple #[]) ∧ w' = w := by
  go_enter Tryz.func34, Tryz.ntmps34
  go_wp2
  refine wp_loop_rounds 1 ?_
  rw [rounds_succ]
  go_wp2
  go_end0
  exact ⟨rfl, rfl⟩
theorem growText_none (bk : Nat) (w : World) (h : w.cell? ⟨bk, 3, none⟩ = some (.slice none 0 0)) : Calls Tryz.prog 50 #[.pointer (some ⟨bk, 0, none⟩)] w fun e w' => e = .returned (.tuple #[]) ∧ w' = w := by
  go_enter Tryz.func50, Tryz.ntmps50
  go_wp2
  refine wp_loop_rounds 1 ?_
  rw [rounds_succ]
  go_wp2
  go_end0
  exact ⟨rfl, rfl⟩
theorem lookText_none (bk : Nat) (w : World) (h : w.cell? ⟨bk, 3, none⟩ = some (.slice none 0 0)) : Calls Tryz.prog 66 #[.pointer (some ⟨bk, 0, none⟩)] w fun e w' => e = .returned (.bool true) ∧ w' = w := by
  go_enter Tryz.func66, Tryz.ntmps66
  go_wp2
  refine wp_loop_rounds 1 ?_
  rw [rounds_succ]
  go_wp2
  go_ret
  exact ⟨rfl, rfl⟩
theorem fillNumber_none (bk : Nat) (w : World) (h : w.cell? ⟨bk, 4, none⟩ = some (.slice none 0 0)) : Calls Tryz.prog 35 #[.pointer (some ⟨bk, 0, none⟩)] w fun e w' => e = .returned (.tuple #[]) ∧ w' = w := by
  go_enter Tryz.func35, Tryz.ntmps35
  go_wp2
  refine wp_loop_rounds 1 ?_
  rw [rounds_succ]
  go_wp2
  go_end0
  exact ⟨rfl, rfl⟩
theorem growNumber_none (bk : Nat) (w : World) (h : w.cell? ⟨bk, 4, none⟩ = some (.slice none 0 0)) : Calls Tryz.prog 51 #[.pointer (some ⟨bk, 0, none⟩)] w fun e w' => e = .returned (.tuple #[]) ∧ w' = w := by
  go_enter Tryz.func51, Tryz.ntmps51
  go_wp2
  refine wp_loop_rounds 1 ?_
  rw [rounds_succ]
  go_wp2
  go_end0
  exact ⟨rfl, rfl⟩
theorem lookNumber_none (bk : Nat) (w : World) (h : w.cell? ⟨bk, 4, none⟩ = some (.slice none 0 0)) : Calls Tryz.prog 67 #[.pointer (some ⟨bk, 0, none⟩)] w fun e w' => e = .returned (.bool true) ∧ w' = w := by
  go_enter Tryz.func67, Tryz.ntmps67
  go_wp2
  refine wp_loop_rounds 1 ?_
  rw [rounds_succ]
  go_wp2
  go_ret
  exact ⟨rfl, rfl⟩
theorem fillHash_none (bk : Nat) (w : World) (h : w.cell? ⟨bk, 5, none⟩ = some (.slice none 0 0)) : Calls Tryz.prog 36 #[.pointer (some ⟨bk, 0, none⟩)] w fun e w' => e = .returned (.tuple #[]) ∧ w' = w := by
  go_enter Tryz.func36, Tryz.ntmps36
  go_wp2
  refine wp_loop_rounds 1 ?_
  rw [rounds_succ]
  go_wp2
  go_end0
  exact ⟨rfl, rfl⟩
theorem growHash_none (bk : Nat) (w : World) (h : w.cell? ⟨bk, 5, none⟩ = some (.slice none 0 0)) : Calls Tryz.prog 52 #[.pointer (some ⟨bk, 0, none⟩)] w fun e w' => e = .returned (.tuple #[]) ∧ w' = w := by
  go_enter Tryz.func52, Tryz.ntmps52
  go_wp2
  refine wp_loop_rounds 1 ?_
  rw [rounds_succ]
  go_wp2
  go_end0
  exact ⟨rfl, rfl⟩
theorem lookHash_none (bk : Nat) (w : World) (h : w.cell? ⟨bk, 5, none⟩ = some (.slice none 0 0)) : Calls Tryz.prog 68 #[.pointer (some ⟨bk, 0, none⟩)] w fun e w' => e = .returned (.bool true) ∧ w' = w := by
  go_enter Tryz.func68, Tryz.ntmps68
  go_wp2
  refine wp_loop_rounds 1 ?_
  rw [rounds_succ]
  go_wp2
  go_ret
  exact ⟨rfl, rfl⟩
theorem fillCoord_none (bk : Nat) (w : World) (h : w.cell? ⟨bk, 6, none⟩ = some (.slice none 0 0)) : Calls Tryz.prog 37 #[.pointer (some ⟨bk, 0, none⟩)] w fun e w' => e = .returned (.tuple #[]) ∧ w' = w := by
  go_enter Tryz.func37, Tryz.ntmps37
  go_wp2
  refine wp_loop_rounds 1 ?_
  rw [rounds_succ]
  go_wp2
  go_end0
  exact ⟨rfl, rfl⟩
theorem growCoord_none (bk : Nat) (w : World) (h : w.cell? ⟨bk, 6, none⟩ = some (.slice none 0 0)) : Calls Tryz.prog 53 #[.pointer (some ⟨bk, 0, none⟩)] w fun e w' => e = .returned (.tuple #[]) ∧ w' = w := by
  go_enter Tryz.func53, Tryz.ntmps53
  go_wp2
  refine wp_loop_rounds 1 ?_
  rw [rounds_succ]
  go_wp2
  go_end0
  exact ⟨rfl, rfl⟩
theorem lookCoord_none (bk : Nat) (w : World) (h : w.cell? ⟨bk, 6, none⟩ = some (.slice none 0 0)) : Calls Tryz.prog 69 #[.pointer (some ⟨bk, 0, none⟩)] w fun e w' => e = .returned (.bool true) ∧ w' = w := by
  go_enter Tryz.func69, Tryz.ntmps69
  go_wp2
  refine wp_loop_rounds 1 ?_
  rw [rounds_succ]
  go_wp2
  go_ret
  exact ⟨rfl, rfl⟩
theorem fillSpan_none (bk : Nat) (w : World) (h : w.cell? ⟨bk, 7, none⟩ = some (.slice none 0 0)) : Calls Tryz.prog 38 #[.pointer (some ⟨bk, 0, none⟩)] w fun e w' => e = .returned (.tuple #[]) ∧ w' = w := by
  go_enter Tryz.func38, Tryz.ntmps38
  go_wp2
  refine wp_loop_rounds 1 ?_
  rw [rounds_succ]
  go_wp2
  go_end0
  exact ⟨rfl, rfl⟩
theorem growSpan_none (bk : Nat) (w : World) (h : w.cell? ⟨bk, 7, none⟩ = some (.slice none 0 0)) : Calls Tryz.prog 54 #[.pointer (some ⟨bk, 0, none⟩)] w fun e w' => e = .returned (.tuple #[]) ∧ w' = w := by
  go_enter Tryz.func54, Tryz.ntmps54
  go_wp2
  refine wp_loop_rounds 1 ?_
  rw [rounds_succ]
  go_wp2
  go_end0
  exact ⟨rfl, rfl⟩
theorem lookSpan_none (bk : Nat) (w : World) (h : w.cell? ⟨bk, 7, none⟩ = some (.slice none 0 0)) : Calls Tryz.prog 70 #[.pointer (some ⟨bk, 0, none⟩)] w fun e w' => e = .returned (.bool true) ∧ w' = w := by
  go_enter Tryz.func70, Tryz.ntmps70
  go_wp2
  refine wp_loop_rounds 1 ?_
  rw [rounds_succ]
  go_wp2
  go_ret
  exact ⟨rfl, rfl⟩
theorem fillNode_none (bk : Nat) (w : World) (h : w.cell? ⟨bk, 8, none⟩ = some (.slice none 0 0)) : Calls Tryz.prog 39 #[.pointer (some ⟨bk, 0, none⟩)] w fun e w' => e = .returned (.tuple #[]) ∧ w' = w := by
  go_enter Tryz.func39, Tryz.ntmps39
  go_wp2
  refine wp_loop_rounds 1 ?_
  rw [rounds_succ]
  go_wp2
  go_end0
  exact ⟨rfl, rfl⟩
theorem growNode_none (bk : Nat) (w : World) (h : w.cell? ⟨bk, 8, none⟩ = some (.slice none 0 0)) : Calls Tryz.prog 55 #[.pointer (some ⟨bk, 0, none⟩)] w fun e w' => e = .returned (.tuple #[]) ∧ w' = w := by
  go_enter Tryz.func55, Tryz.ntmps55
  go_wp2
  refine wp_loop_rounds 1 ?_
  rw [rounds_succ]
  go_wp2
  go_end0
  exact ⟨rfl, rfl⟩
theorem lookNode_none (bk : Nat) (w : World) (h : w.cell? ⟨bk, 8, none⟩ = some (.slice none 0 0)) : Calls Tryz.prog 71 #[.pointer (some ⟨bk, 0, none⟩)] w fun e w' => e = .returned (.bool true) ∧ w' = w := by
  go_enter Tryz.func71, Tryz.ntmps71
  go_wp2
  refine wp_loop_rounds 1 ?_
  rw [rounds_succ]
  go_wp2
  go_ret
  exact ⟨rfl, rfl⟩
theorem fillTile_none (bk : Nat) (w : World) (h : w.cell? ⟨bk, 9, none⟩ = some (.slice none 0 0)) : Calls Tryz.prog 40 #[.pointer (some ⟨bk, 0, none⟩)] w fun e w' => e = .returned (.tuple #[]) ∧ w' = w := by
  go_enter Tryz.func40, Tryz.ntmps40
  go_wp2
  refine wp_loop_rounds 1 ?_
  rw [rounds_succ]
  go_wp2
  go_end0
  exact ⟨rfl, rfl⟩
theorem growTile_none (bk : Nat) (w : World) (h : w.cell? ⟨bk, 9, none⟩ = some (.slice none 0 0)) : Calls Tryz.prog 56 #[.pointer (some ⟨bk, 0, none⟩)] w fun e w' => e = .returned (.tuple #[]) ∧ w' = w := by
  go_enter Tryz.func56, Tryz.ntmps56
  go_wp2
  refine wp_loop_rounds 1 ?_
  rw [rounds_succ]
  go_wp2
  go_end0
  exact ⟨rfl, rfl⟩
theorem lookTile_none (bk : Nat) (w : World) (h : w.cell? ⟨bk, 9, none⟩ = some (.slice none 0 0)) : Calls Tryz.prog 72 #[.pointer (some ⟨bk, 0, none⟩)] w fun e w' => e = .returned (.bool true) ∧ w' = w := by
  go_enter Tryz.func72, Tryz.ntmps72
  go_wp2
  refine wp_loop_rounds 1 ?_
  rw [rounds_succ]
  go_wp2
  go_ret
  exact ⟨rfl, rfl⟩
theorem fillEntry_none (bk : Nat) (w : World) (h : w.cell? ⟨bk, 10, none⟩ = some (.slice none 0 0)) : Calls Tryz.prog 41 #[.pointer (some ⟨bk, 0, none⟩)] w fun e w' => e = .returned (.tuple #[]) ∧ w' = w := by
  go_enter Tryz.func41, Tryz.ntmps41
  go_wp2
  refine wp_loop_rounds 1 ?_
  rw [rounds_succ]
  go_wp2
  go_end0
  exact ⟨rfl, rfl⟩
theorem growEntry_none (bk : Nat) (w : World) (h : w.cell? ⟨bk, 10, none⟩ = some (.slice none 0 0)) : Calls Tryz.prog 57 #[.pointer (some ⟨bk, 0, none⟩)] w fun e w' => e = .returned (.tuple #[]) ∧ w' = w := by
  go_enter Tryz.func57, Tryz.ntmps57
  go_wp2
  refine wp_loop_rounds 1 ?_
  rw [rounds_succ]
  go_wp2
  go_end0
  exact ⟨rfl, rfl⟩
theorem lookEntry_none (bk : Nat) (w : World) (h : w.cell? ⟨bk, 10, none⟩ = some (.slice none 0 0)) : Calls Tryz.prog 73 #[.pointer (some ⟨bk, 0, none⟩)] w fun e w' => e = .returned (.bool true) ∧ w' = w := by
  go_enter Tryz.func73, Tryz.ntmps73
  go_wp2
  refine wp_loop_rounds 1 ?_
  rw [rounds_succ]
  go_wp2
  go_ret
  exact ⟨rfl, rfl⟩
theorem fillFound_none (bk : Nat) (w : World) (h : w.cell? ⟨bk, 11, none⟩ = some (.slice none 0 0)) : Calls Tryz.prog 42 #[.pointer (some ⟨bk, 0, none⟩)] w fun e w' => e = .returned (.tuple #[]) ∧ w' = w := by
  go_enter Tryz.func42, Tryz.ntmps42
  go_wp2
  refine wp_loop_rounds 1 ?_
  rw [rounds_succ]
  go_wp2
  go_end0
  exact ⟨rfl, rfl⟩
theorem growFound_none (bk : Nat) (w : World) (h : w.cell? ⟨bk, 11, none⟩ = some (.slice none 0 0)) : Calls Tryz.prog 58 #[.pointer (some ⟨bk, 0, none⟩)] w fun e w' => e = .returned (.tuple #[]) ∧ w' = w := by
  go_enter Tryz.func58, Tryz.ntmps58
  go_wp2
  refine wp_loop_rounds 1 ?_
  rw [rounds_succ]
  go_wp2
  go_end0
  exact ⟨rfl, rfl⟩
theorem lookFound_none (bk : Nat) (w : World) (h : w.cell? ⟨bk, 11, none⟩ = some (.slice none 0 0)) : Calls Tryz.prog 74 #[.pointer (some ⟨bk, 0, none⟩)] w fun e w' => e = .returned (.bool true) ∧ w' = w := by
  go_enter Tryz.func74, Tryz.ntmps74
  go_wp2
  refine wp_loop_rounds 1 ?_
  rw [rounds_succ]
  go_wp2
  go_ret
  exact ⟨rfl, rfl⟩
theorem fillKnown_none (bk : Nat) (w : World) (h : w.cell? ⟨bk, 12, none⟩ = some (.slice none 0 0)) : Calls Tryz.prog 43 #[.pointer (some ⟨bk, 0, none⟩)] w fun e w' => e = .returned (.tuple #[]) ∧ w' = w := by
  go_enter Tryz.func43, Tryz.ntmps43
  go_wp2
  refine wp_loop_rounds 1 ?_
  rw [rounds_succ]
  go_wp2
  go_end0
  exact ⟨rfl, rfl⟩
theorem growKnown_none (bk : Nat) (w : World) (h : w.cell? ⟨bk, 12, none⟩ = some (.slice none 0 0)) : Calls Tryz.prog 59 #[.pointer (some ⟨bk, 0, none⟩)] w fun e w' => e = .returned (.tuple #[]) ∧ w' = w := by
  go_enter Tryz.func59, Tryz.ntmps59
  go_wp2
  refine wp_loop_rounds 1 ?_
  rw [rounds_succ]
  go_wp2
  go_end0
  exact ⟨rfl, rfl⟩
theorem lookKnown_none (bk : Nat) (w : World) (h : w.cell? ⟨bk, 12, none⟩ = some (.slice none 0 0)) : Calls Tryz.prog 75 #[.pointer (some ⟨bk, 0, none⟩)] w fun e w' => e = .returned (.bool true) ∧ w' = w := by
  go_enter Tryz.func75, Tryz.ntmps75
  go_wp2
  refine wp_loop_rounds 1 ?_
  rw [rounds_succ]
  go_wp2
  go_ret
  exact ⟨rfl, rfl⟩
theorem fillVote_none (bk : Nat) (w : World) (h : w.cell? ⟨bk, 13, none⟩ = some (.slice none 0 0)) : Calls Tryz.prog 44 #[.pointer (some ⟨bk, 0, none⟩)] w fun e w' => e = .returned (.tuple #[]) ∧ w' = w := by
  go_enter Tryz.func44, Tryz.ntmps44
  go_wp2
  refine wp_loop_rounds 1 ?_
  rw [rounds_succ]
  go_wp2
  go_end0
  exact ⟨rfl, rfl⟩
theorem growVote_none (bk : Nat) (w : World) (h : w.cell? ⟨bk, 13, none⟩ = some (.slice none 0 0)) : Calls Tryz.prog 60 #[.pointer (some ⟨bk, 0, none⟩)] w fun e w' => e = .returned (.tuple #[]) ∧ w' = w := by
  go_enter Tryz.func60, Tryz.ntmps60
  go_wp2
  refine wp_loop_rounds 1 ?_
  rw [rounds_succ]
  go_wp2
  go_end0
  exact ⟨rfl, rfl⟩
theorem lookVote_none (bk : Nat) (w : World) (h : w.cell? ⟨bk, 13, none⟩ = some (.slice none 0 0)) : Calls Tryz.prog 76 #[.pointer (some ⟨bk, 0, none⟩)] w fun e w' => e = .returned (.bool true) ∧ w' = w := by
  go_enter Tryz.func76, Tryz.ntmps76
  go_wp2
  refine wp_loop_rounds 1 ?_
  rw [rounds_succ]
  go_wp2
  go_ret
  exact ⟨rfl, rfl⟩
theorem fillPart_none (bk : Nat) (w : World) (h : w.cell? ⟨bk, 14, none⟩ = some (.slice none 0 0)) : Calls Tryz.prog 45 #[.pointer (some ⟨bk, 0, none⟩)] w fun e w' => e = .returned (.tuple #[]) ∧ w' = w := by
  go_enter Tryz.func45, Tryz.ntmps45
  go_wp2
  refine wp_loop_rounds 1 ?_
  rw [rounds_succ]
  go_wp2
  go_end0
  exact ⟨rfl, rfl⟩
theorem growPart_none (bk : Nat) (w : World) (h : w.cell? ⟨bk, 14, none⟩ = some (.slice none 0 0)) : Calls Tryz.prog 61 #[.pointer (some ⟨bk, 0, none⟩)] w fun e w' => e = .returned (.tuple #[]) ∧ w' = w := by
  go_enter Tryz.func61, Tryz.ntmps61
  go_wp2
  refine wp_loop_rounds 1 ?_
  rw [rounds_succ]
  go_wp2
  go_end0
  exact ⟨rfl, rfl⟩
theorem lookPart_none (bk : Nat) (w : World) (h : w.cell? ⟨bk, 14, none⟩ = some (.slice none 0 0)) : Calls Tryz.prog 77 #[.pointer (some ⟨bk, 0, none⟩)] w fun e w' => e = .returned (.bool true) ∧ w' = w := by
  go_enter Tryz.func77, Tryz.ntmps77
  go_wp2
  refine wp_loop_rounds 1 ?_
  rw [rounds_succ]
  go_wp2
  go_ret
  exact ⟨rfl, rfl⟩
theorem fillHashList_none (bk : Nat) (w : World) (h : w.cell? ⟨bk, 15, none⟩ = some (.slice none 0 0)) : Calls Tryz.prog 46 #[.pointer (some ⟨bk, 0, none⟩)] w fun e w' => e = .returned (.tuple #[]) ∧ w' = w := by
  go_enter Tryz.func46, Tryz.ntmps46
  go_wp2
  refine wp_loop_rounds 1 ?_
  rw [rounds_succ]
  go_wp2
  go_end0
  exact ⟨rfl, rfl⟩
theorem growHashList_none (bk : Nat) (w : World) (h : w.cell? ⟨bk, 15, none⟩ = some (.slice none 0 0)) : Calls Tryz.prog 62 #[.pointer (some ⟨bk, 0, none⟩)] w fun e w' => e = .returned (.tuple #[]) ∧ w' = w := by
  go_enter Tryz.func62, Tryz.ntmps62
  go_wp2
  refine wp_loop_rounds 1 ?_
  rw [rounds_succ]
  go_wp2
  go_end0
  exact ⟨rfl, rfl⟩
theorem lookHashList_none (bk : Nat) (w : World) (h : w.cell? ⟨bk, 15, none⟩ = some (.slice none 0 0)) : Calls Tryz.prog 78 #[.pointer (some ⟨bk, 0, none⟩)] w fun e w' => e = .returned (.bool true) ∧ w' = w := by
  go_enter Tryz.func78, Tryz.ntmps78
  go_wp2
  refine wp_loop_rounds 1 ?_
  rw [rounds_succ]
  go_wp2
  go_ret
  exact ⟨rfl, rfl⟩
theorem fillQuery_none (bk : Nat) (w : World) (h : w.cell? ⟨bk, 16, none⟩ = some (.slice none 0 0)) : Calls Tryz.prog 47 #[.pointer (some ⟨bk, 0, none⟩)] w fun e w' => e = .returned (.tuple #[]) ∧ w' = w := by
  go_enter Tryz.func47, Tryz.ntmps47
  go_wp2
  refine wp_loop_rounds 1 ?_
  rw [rounds_succ]
  go_wp2
  go_end0
  exact ⟨rfl, rfl⟩
theorem growQuery_none (bk : Nat) (w : World) (h : w.cell? ⟨bk, 16, none⟩ = some (.slice none 0 0)) : Calls Tryz.prog 63 #[.pointer (some ⟨bk, 0, none⟩)] w fun e w' => e = .returned (.tuple #[]) ∧ w' = w := by
  go_enter Tryz.func63, Tryz.ntmps63
  go_wp2
  refine wp_loop_rounds 1 ?_
  rw [rounds_succ]
  go_wp2
  go_end0
  exact ⟨rfl, rfl⟩
theorem lookQuery_none (bk : Nat) (w : World) (h : w.cell? ⟨bk, 16, none⟩ = some (.slice none 0 0)) : Calls Tryz.prog 79 #[.pointer (some ⟨bk, 0, none⟩)] w fun e w' => e = .returned (.bool true) ∧ w' = w := by
  go_enter Tryz.func79, Tryz.ntmps79
  go_wp2
  refine wp_loop_rounds 1 ?_
  rw [rounds_succ]
  go_wp2
  go_ret
  exact ⟨rfl, rfl⟩
end Go.Proofs.YtgobdjdaehlgdaaGreatDoor
namespace Go.Proofs.YtgobdjdaehlgdaaGreatDoor
namespace HB
open Go.RowKit
set_option linter.unusedVariables false
set_option linter.unusedSimpArgs false

theorem num_sm {H H' : List Held} (s : Sm H H') (i : Nat) : num H' i = num H i := by
  rcases h : H[i]? with _ | t
  · have h1 := List.getElem?_eq_none_iff.1 h
    have h2 : H'[i]? = none := List.getElem?_eq_none_iff.2 (by rw [s.1]; exact h1)
    simp [num, h, h2]
  · obtain ⟨v, q⟩ := s.2 i t h
    simp [num, h, q]

set_option maxRecDepth 100000 in
set_option maxHeartbeats 4000000 in
theorem apart_any (bk N : Nat) (v : Value) (H : List Held) (X : Nat → List (List UInt8)) (w : World) (hB : Bk w bk N v H) (hR : Rws w bk v H X) (hH : H.length ≤ 1099511627776) (hX : ∀ i, (X i).length ≤ 1099511627776) (hn : ∀ i, num H i < 9223372036854775807) :
    Calls Tryz.prog 11 #[.pointer (some ⟨bk, 0, none⟩)] w fun e w' => e = .returned (.bool true) ∧ Fr (fun k => Rb H k ∨ v.ownBlock = some k) w w' := by
  have HB : Hid (Bk w bk N v H) := hB
  have HR : Hid (Rws w bk v H X) := hR
  have HX : Hid (∀ i, (X i).length ≤ 1099511627776) := hX
  have HN : Hid (∀ i, num H i < 9223372036854775807) := hn
  clear hB hR hX hn
  go_enter Tryz.func11, Tryz.ntmps11
  go_wp2_with fail
  refine (fillInt_none bk _ ((cell_of HB.out.blk 1).trans rfl)).mono ?_
  rintro e1 w' ⟨rfl, hw⟩
  rw [hw]
  clear hw
  go_wp2_with fail
  refine (fillByte_none bk _ ((cell_of HB.out.blk 2).trans rfl)).mono ?_
  rintro e1 w' ⟨rfl, hw⟩
  rw [hw]
  clear hw
  go_wp2_with fail
  refine (fillText_none bk _ ((cell_of HB.out.blk 3).trans rfl)).mono ?_
  rintro e1 w' ⟨rfl, hw⟩
  rw [hw]
  clear hw
  go_wp2_with fail
  refine (fillNumber_none bk _ ((cell_of HB.out.blk 4).trans rfl)).mono ?_
  rintro e1 w' ⟨rfl, hw⟩
  rw [hw]
  clear hw
  go_wp2_with fail
  refine (fill_any bk N v H X _ HB.out HR.out hH HX.out HN.out).mono ?_
  rintro e1 w1 ⟨rfl, hB1, hR1, hF1⟩
  have HB1 : Hid (Bk w1 bk N v H) := hB1
  have HR1 : Hid (Rws w1 bk v H (fun i => List.replicate (X i).length (mk (num H i)))) := hR1
  have HF1 : Hid (Fr (fun k => Rb H k ∨ v.ownBlock = some k) w w1) := hF1.mono (fun _ _ h => .inl h)
  clear hB1 hR1 hF1
  go_wp2_with fail
  refine (fillCoord_none bk _ ((cell_of HB1.out.blk 6).trans rfl)).mono ?_
  rintro e1 w' ⟨rfl, hw⟩
  rw [hw]
  clear hw
  go_wp2_with fail
  refine (fillSpan_none bk _ ((cell_of HB1.out.blk 7).trans rfl)).mono ?_
  rintro e1 w' ⟨rfl, hw⟩
  rw [hw]
  clear hw
  go_wp2_with fail
  refine (fillNode_none bk _ ((cell_of HB1.out.blk 8).trans rfl)).mono ?_
  rintro e1 w' ⟨rfl, hw⟩
  rw [hw]
  clear hw
  go_wp2_with fail
  refine (fillTile_none bk _ ((cell_of HB1.out.blk 9).trans rfl)).mono ?_
  rintro e1 w' ⟨rfl, hw⟩
  rw [hw]
  clear hw
  go_wp2_with fail
  refine (fillEntry_none bk _ ((cell_of HB1.out.blk 10).trans rfl)).mono ?_
  rintro e1 w' ⟨rfl, hw⟩
  rw [hw]
  clear hw
  go_wp2_with fail
  refine (fillFound_none bk _ ((cell_of HB1.out.blk 11).trans rfl)).mono ?_
  rintro e1 w' ⟨rfl, hw⟩
  rw [hw]
  clear hw
  go_wp2_with fail
  refine (fillKnown_none bk _ ((cell_of HB1.out.blk 12).trans rfl)).mono ?_
  rintro e1 w' ⟨rfl, hw⟩
  rw [hw]
  clear hw
  go_wp2_with fail
  refine (fillVote_none bk _ ((cell_of HB1.out.blk 13).trans rfl)).mono ?_
  rintro e1 w' ⟨rfl, hw⟩
  rw [hw]
  clear hw
  go_wp2_with fail
  refine (fillPart_none bk _ ((cell_of HB1.out.blk 14).trans rfl)).mono ?_
  rintro e1 w' ⟨rfl, hw⟩
  rw [hw]
  clear hw
  go_wp2_with fail
  refine (fillHashList_none bk _ ((cell_of HB1.out.blk 15).trans rfl)).mono ?_
  rintro e1 w' ⟨rfl, hw⟩
  rw [hw]
  clear hw
  go_wp2_with fail
  refine (fillQuery_none bk _ ((cell_of HB1.out.blk 16).trans rfl)).mono ?_
  rintro e1 w' ⟨rfl, hw⟩
  rw [hw]
  clear hw
  go_wp2_with fail
  refine (growInt_none bk _ ((cell_of HB1.out.blk 1).trans rfl)).mono ?_
  rintro e1 w' ⟨rfl, hw⟩
  rw [hw]
  clear hw
  go_wp2_with fail
  refine (growByte_none bk _ ((cell_of HB1.out.blk 2).trans rfl)).mono ?_
  rintro e1 w' ⟨rfl, hw⟩
  rw [hw]
  clear hw
  go_wp2_with fail
  refine (growText_none bk _ ((cell_of HB1.out.blk 3).trans rfl)).mono ?_
  rintro e1 w' ⟨rfl, hw⟩
  rw [hw]
  clear hw
  go_wp2_with fail
  refine (growNumber_none bk _ ((cell_of HB1.out.blk 4).trans rfl)).mono ?_
  rintro e1 w' ⟨rfl, hw⟩
  rw [hw]
  clear hw
  go_wp2_with fail
  refine (grow_any bk N v H (fun i => (X i).length) _ HB1.out HR1.out hH HX.out HN.out).mono ?_
  rintro e1 w2 ⟨rfl, H', hS2, hB2, hR2, hL2, hF2⟩
  have hHl : H'.length = H.length := hS2.1
  have HB2 : Hid (Bk w2 bk N v H') := hB2
  have hnum : num H' = num H := funext (num_sm hS2)
  have QL : Hid (Calls Tryz.prog 68 #[.pointer (some ⟨bk, 0, none⟩)] w2 fun e w' => e = .returned (.bool true) ∧ Nw w2 w') := look_any bk N w1.heap.size v H' (fun i => (X i).length) w2 hB2 (fun i h hi => by
    have := hR2.own i h hi
    rw [List.length_replicate, ← hnum, num_at hi] at this
    exact this) (by rw [hHl]; exact hL2) (by omega) HX.out (by rw [hnum]; exact HN.out)
  have HF2 : Hid (Fr (fun k => Rb H k ∨ v.ownBlock = some k) w w2) := HF1.out.trans hF2 (fun _ _ h => h)
  clear hB2 hR2 hF2 hL2 hS2 hnum hHl
  go_wp2_with fail
  refine (growCoord_none bk _ ((cell_of HB2.out.blk 6).trans rfl)).mono ?_
  rintro e1 w' ⟨rfl, hw⟩
  rw [hw]
  clear hw
  go_wp2_with fail
  refine (growSpan_none bk _ ((cell_of HB2.out.blk 7).trans rfl)).mono ?_
  rintro e1 w' ⟨rfl, hw⟩
  rw [hw]
  clear hw
  go_wp2_with fail
  refine (growNode_none bk _ ((cell_of HB2.out.blk 8).trans rfl)).mono ?_
  rintro e1 w' ⟨rfl, hw⟩
  rw [hw]
  clear hw
  go_wp2_with fail
  refine (growTile_none bk _ ((cell_of HB2.out.blk 9).trans rfl)).mono ?_
  rintro e1 w' ⟨rfl, hw⟩
  rw [hw]
  clear hw
  go_wp2_with fail
  refine (growEntry_none bk _ ((cell_of HB2.out.blk 10).trans rfl)).mono ?_
  rintro e1 w' ⟨rfl, hw⟩
  rw [hw]
  clear hw
  go_wp2_with fail
  refine (growFound_none bk _ ((cell_of HB2.out.blk 11).trans rfl)).mono ?_
  rintro e1 w' ⟨rfl, hw⟩
  rw [hw]
  clear hw
  go_wp2_with fail
  refine (growKnown_none bk _ ((cell_of HB2.out.blk 12).trans rfl)).mono ?_
  rintro e1 w' ⟨rfl, hw⟩
  rw [hw]
  clear hw
  go_wp2_with fail
  refine (growVote_none bk _ ((cell_of HB2.out.blk 13).trans rfl)).mono ?_
  rintro e1 w' ⟨rfl, hw⟩
  rw [hw]
  clear hw
  go_wp2_with fail
  refine (growPart_none bk _ ((cell_of HB2.out.blk 14).trans rfl)).mono ?_
  rintro e1 w' ⟨rfl, hw⟩
  rw [hw]
  clear hw
  go_wp2_with fail
  refine (growHashList_none bk _ ((cell_of HB2.out.blk 15).trans rfl)).mono ?_
  rintro e1 w' ⟨rfl, hw⟩
  rw [hw]
  clear hw
  go_wp2_with fail
  refine (growQuery_none bk _ ((cell_of HB2.out.blk 16).trans rfl)).mono ?_
  rintro e1 w' ⟨rfl, hw⟩
  rw [hw]
  clear hw
  go_wp2_with fail
  refine (lookInt_none bk _ ((cell_of HB2.out.blk 1).trans rfl)).mono ?_
  rintro e1 w' ⟨rfl, hw⟩
  rw [hw]
  clear hw
  go_wp2_with fail
  refine (lookByte_none bk _ ((cell_of HB2.out.blk 2).trans rfl)).mono ?_
  rintro e1 w' ⟨rfl, hw⟩
  rw [hw]
  clear hw
  go_wp2_with fail
  refine (lookText_none bk _ ((cell_of HB2.out.blk 3).trans rfl)).mono ?_
  rintro e1 w' ⟨rfl, hw⟩
  rw [hw]
  clear hw
  go_wp2_with fail
  refine (lookNumber_none bk _ ((cell_of HB2.out.blk 4).trans rfl)).mono ?_
  rintro e1 w' ⟨rfl, hw⟩
  rw [hw]
  clear hw
  go_wp2_with fail
  refine QL.out.mono ?_
  rintro e1 w3 ⟨rfl, n3⟩
  have HB3 : Hid (w3.heap[bk]? = _) := (n3.block bk (heap_lt HB2.out.blk) (fun f => f)).trans HB2.out.blk
  have HF3 : Hid (Fr (fun k => Rb H k ∨ v.ownBlock = some k) w w3) := HF2.out.trans n3 (fun _ _ f => f.elim)
  clear n3
  go_wp2_with fail
  refine (lookCoord_none bk _ ((cell_of HB3.out 6).trans rfl)).mono ?_
  rintro e1 w' ⟨rfl, hw⟩
  rw [hw]
  clear hw
  go_wp2_with fail
  refine (lookSpan_none bk _ ((cell_of HB3.out 7).trans rfl)).mono ?_
  rintro e1 w' ⟨rfl, hw⟩
  rw [hw]
  clear hw
  go_wp2_with fail
  refine (lookNode_none bk _ ((cell_of HB3.out 8).trans rfl)).mono ?_
  rintro e1 w' ⟨rfl, hw⟩
  rw [hw]
  clear hw
  go_wp2_with fail
  refine (lookTile_none bk _ ((cell_of HB3.out 9).trans rfl)).mono ?_
  rintro e1 w' ⟨rfl, hw⟩
  rw [hw]
  clear hw
  go_wp2_with fail
  refine (lookEntry_none bk _ ((cell_of HB3.out 10).trans rfl)).mono ?_
  rintro e1 w' ⟨rfl, hw⟩
  rw [hw]
  clear hw
  go_wp2_with fail
  refine (lookFound_none bk _ ((cell_of HB3.out 11).trans rfl)).mono ?_
  rintro e1 w' ⟨rfl, hw⟩
  rw [hw]
  clear hw
  go_wp2_with fail
  refine (lookKnown_none bk _ ((cell_of HB3.out 12).trans rfl)).mono ?_
  rintro e1 w' ⟨rfl, hw⟩
  rw [hw]
  clear hw
  go_wp2_with fail
  refine (lookVote_none bk _ ((cell_of HB3.out 13).trans rfl)).mono ?_
  rintro e1 w' ⟨rfl, hw⟩
  rw [hw]
  clear hw
  go_wp2_with fail
  refine (lookPart_none bk _ ((cell_of HB3.out 14).trans rfl)).mono ?_
  rintro e1 w' ⟨rfl, hw⟩
  rw [hw]
  clear hw
  go_wp2_with fail
  refine (lookHashList_none bk _ ((cell_of HB3.out 15).trans rfl)).mono ?_
  rintro e1 w' ⟨rfl, hw⟩
  rw [hw]
  clear hw
  go_wp2_with fail
  refine (lookQuery_none bk _ ((cell_of HB3.out 16).trans rfl)).mono ?_
  rintro e1 w' ⟨rfl, hw⟩
  rw [hw]
  clear hw
  go_wp2_with fail
  go_ret
  exact ⟨rfl, HF3.out⟩
end HB
end Go.Proofs.YtgobdjdaehlgdaaGreatDoor
