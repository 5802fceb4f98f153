/- tile: the tiles of a log (pure); All. -/
import Derived.Test.YtjkhcplnedcmeaaGreatDoorUg2
import Derived.Test.YtjkhcplnedcmeaaGreatDoorSg
import Derived.Test.YtjkhcplnedcmeaaGreatDoorEg
import Derived.Test.YtjkhcplnedcmeaaGreatDoorGHq
import Derived.Test.YtjkhcplnedcmeaaGreatDoorCg
namespace Go.Proofs.YtjkhcplnedcmeaaGreatDoor
open Go.RowKit
set_option linter.unusedVariables false
set_option linter.unusedSimpArgs false
/-- A tile. -/
structure Ti where
  L : Nat
  I : Nat
  W : Nat
def Ti.c (t : Ti) : List Value := [.int .u8 (t.L : Int), .int .u64 (t.I : Int), .int .i64 (t.W : Int)]
def tic (l : List Ti) : List Value := l.flatMap Ti.c
theorem tic_app (l m : List Ti) : tic (l ++ m) = tic l ++ tic m := by simp [tic]
theorem tic_one (t : Ti) : tic [t] = t.c := by simp [tic]
theorem tic_at : ∀ (l : List Ti) (k : Nat) (t : Ti), l[k]? = some t → (tic l)[k * 3]? = some (.int .u8 (t.L : Int)) ∧ (tic l)[k * 3 + 1]? = some (.int .u64 (t.I : Int)) ∧ (tic l)[k * 3 + 2]? = some (.int .i64 (t.W : Int))
  | [], k, t, h => by simp at h
  | x :: r, 0, t, h => by
    have e : tic (x :: r) = x.c ++ tic r := by simp [tic]
    simp only [List.getElem?_cons_zero, Option.some.injEq] at h
    subst h
    rw [e]
    simp [Ti.c]
  | x :: r, k + 1, t, h => by
    have e : tic (x :: r) = x.c ++ tic r := by simp [tic]
    have ih := tic_at r k t (by simpa using h)
    rw [e]
    have e1 : (k + 1) * 3 = k * 3 + 3 := by omega
    rw [e1]
    simp only [Ti.c, List.cons_append, List.nil_append, List.getElem?_cons_succ]
    exact ih
/-- So many tiles of a level. -/
def lvT (S l k : Nat) : List Ti := (List.range k).map fun i => ⟨l, i, wid l i S⟩
theorem lvT_succ (S l k : Nat) : lvT S l (k + 1) = lvT S l k ++ [⟨l, k, wid l k S⟩] := by simp [lvT, List.range_succ]
theorem lvT_len (S l k : Nat) : (lvT S l k).length = k := by simp [lvT]
/-- How many tiles a level has. -/
def cntT (S l : Nat) : Nat := (nod8 l S + 255) / 256
def allT (S : Nat) : Nat → List Ti
  | 0 => []
  | j + 1 => allT S j ++ lvT S j (cntT S j)
theorem nod8_le (l S : Nat) (h : S ≤ 1048576) : nod8 l S ≤ 1048576 := Nat.le_trans (Nat.div_le_self _ _) h
theorem cntT_le (S l : Nat) (h : S ≤ 1048576) : cntT S l ≤ 4096 := by
  have := nod8_le l S h
  unfold cntT
  omega
theorem allT_le (S : Nat) (h : S ≤ 1048576) : ∀ j, (allT S j).length ≤ 4096 * j
  | 0 => by simp [allT]
  | j + 1 => by
    have := allT_le S h j
    have := cntT_le S j h
    simp only [allT, List.length_append, lvT_len]
    omega
theorem wid_small (S l i : Nat) (h : S ≤ 1048576) (hl : l ≤ 7) : wid l i S = min (nod8 l S - i * 256) 256 := by
  unfold wid
  rw [if_neg (by omega)]
theorem wid_pos (S l i : Nat) (h : S ≤ 1048576) (hl : l ≤ 7) : 0 < wid l i S ↔ i < cntT S l := by
  rw [wid_small S l i h hl]
  unfold cntT
  omega
theorem infoTi : (Tryz.prog.info? 120).map (fun i => (i.zero, i.size, i.bytes)) = some (some (.agg #[.int .u8 0, .int .u64 0, .int .i64 0]), 3, 24) := by kernel_rfl
theorem ti_new (w : World) (a b c : Value) (t : TypeId) : ∀ j u, [a, b, c][j]? = some u → (w.alloc (.cells #[a, b, c] t)).cell? ((⟨w.heap.size, 0, none⟩ : Addr).add j) = some u := by
  intro j u h
  rw [addZ, cell_of (heap_new _ _)]
  match j, h with
  | 0, h => simpa using h
  | 1, h => simpa using h
  | 2, h => simpa using h
  | j + 3, h => simp at h
set_option maxRecDepth 100000 in
set_option maxHeartbeats 2000000 in
theorem all_yes (S : Nat) (hS : S ≤ 1048576) (w : World) :
    Calls Tryz.prog 51 #[.int .u64 (S : Int)] w fun e w' => ∃ va vc, e = .returned (.tuple #[.slice va (allT S 8).length vc, .nilIface]) ∧ w'.ownsRow w.heap.size 120 3 (.slice va (allT S 8).length vc) (allT S 8).length (tic (allT S 8)) ∧ Nw w w' := by
  have h1 : ¬ (1048576 : Int) < (S : Int) := by omega
  obtain ⟨i0, hi0, hie⟩ := Option.map_eq_some_iff.1 infoTi
  simp only [Prod.mk.injEq] at hie
  obtain ⟨hz0, hz1, hz2⟩ := hie
  have HI0 : Hid (Tryz.prog.info? 120 = some i0 ∧ i0.zero = some (.agg #[.int .u8 0, .int .u64 0, .int .i64 0]) ∧ i0.size = 3 ∧ i0.bytes = 24) := ⟨hi0, hz0, hz1, hz2⟩
  clear hi0 hz0 hz1 hz2
  go_enter Tryz.func51, Tryz.ntmps51
  go_wp2
  go_loopw [4, 12] (fun u v wr => ∃ (j : Nat) (va : Option Addr) (vc : Nat), j ≤ 8 ∧ v = .int .u8 j ∧ u = .slice va (allT S j).length vc ∧ wr.ownsRow w.heap.size 120 3 (.slice va (allT S j).length vc) (allT S j).length (tic (allT S j)) ∧ Nw w wr) (fun _ v _ => 8 - (intOf v).toNat)
  case atStart => exact ⟨0, none, 0, by omega, rfl, rfl, World.ownsRow_nil _ _ _ _, Fr.refl _ _⟩
  case round =>
    obtain ⟨j, va, vc, hj, rfl, rfl, ho, hn⟩ := hrel
    have HO : Hid (wr.ownsRow w.heap.size 120 3 (.slice va (allT S j).length vc) (allT S j).length (tic (allT S j))) := ho
    have HN : Hid (Nw w wr) := hn
    have hle := allT_le S hS j
    clear ho hn
    by_cases hj8 : j < 8
    · have hj2 : (j : Int) < 8 := by omega
      go_wp2
      obtain ⟨wy, hwy⟩ : ∃ q, q = wr := ⟨_, rfl⟩
      rw [← hwy] at HO HN ⊢
      clear hwy
      go_loopw [4, 6] (fun u v wx => ∃ (k : Nat) (xa : Option Addr) (xc : Nat), k ≤ cntT S j ∧ v = .int .u64 k ∧ u = .slice xa ((allT S j).length + k) xc ∧ wx.ownsRow w.heap.size 120 3 (.slice xa ((allT S j).length + k) xc) ((allT S j).length + k) (tic (allT S j ++ lvT S j k)) ∧ Nw w wx) (fun _ v _ => cntT S j + 1 - (intOf v).toNat)
      case atStart => exact ⟨0, va, vc, by omega, rfl, rfl, by rw [Nat.add_zero]; simpa [lvT] using HO.out, HN.out⟩
      case round =>
        obtain ⟨k, xa, xc, hk, rfl, rfl, ho, hn⟩ := hrel
        have HOX : Hid (wr.ownsRow w.heap.size 120 3 (.slice xa ((allT S j).length + k) xc) ((allT S j).length + k) (tic (allT S j ++ lvT S j k))) := ho
        have HNX : Hid (Nw w wr) := hn
        have hcl := cntT_le S j hS
        clear ho hn
        obtain ⟨A, hA⟩ : ∃ A, A = (allT S j).length + k := ⟨_, rfl⟩
        have HA : Hid (A = (allT S j).length + k) := hA
        rw [← hA] at HOX ⊢
        have hAb : A ≤ 40000 := by omega
        clear hA
        by_cases hkc : k < cntT S j
        · have hW := (wid_pos S j k hS (by omega)).2 hkc
          obtain ⟨W, hWe⟩ : ∃ W, W = wid j k S := ⟨_, rfl⟩
          rw [← hWe] at hW
          have HW : Hid (W = wid j k S) := hWe
          have q := fun V => in_yes j k S W (by omega) hWe.symm hW V
          clear hWe
          go_wp2_with fail
          refine (q _).mono ?_
          rintro e w5 ⟨rfl, n5⟩
          have N5 : Hid (Nw wr w5) := n5
          clear n5 q
          have OWN : Hid (((w5.alloc (.cells #[.int .u8 (j : Int), .int .u64 (k : Int), .int .i64 (W : Int)] 120)).alloc (.cells #[.int .u8 (j : Int), .int .u64 (k : Int), .int .i64 (W : Int)] 120)).ownsRow w.heap.size 120 3 (.slice xa A xc) A (tic (allT S j ++ lvT S j k))) := ((ownsRow_keep HOX.out (fun g hg => N5.out.block g (HOX.out.lt g hg).2 (fun q => q))).alloc _).alloc _
          have HNew : Hid (∀ t u, [Value.int .u8 (j : Int), .int .u64 (k : Int), .int .i64 (W : Int)][t]? = some u → ((w5.alloc (.cells #[.int .u8 (j : Int), .int .u64 (k : Int), .int .i64 (W : Int)] 120)).alloc (.cells #[.int .u8 (j : Int), .int .u64 (k : Int), .int .i64 (W : Int)] 120)).cell? ((⟨w5.heap.size + 1, 0, none⟩ : Addr).add t) = some u) := by
            have h0 := ti_new (w5.alloc (.cells #[.int .u8 (j : Int), .int .u64 (k : Int), .int .i64 (W : Int)] 120)) (.int .u8 (j : Int)) (.int .u64 (k : Int)) (.int .i64 (W : Int)) 120
            rw [show (w5.alloc (.cells #[.int .u8 (j : Int), .int .u64 (k : Int), .int .i64 (W : Int)] 120)).heap.size = w5.heap.size + 1 by simp] at h0
            exact h0
          have NB : Hid (Nw w ((w5.alloc (.cells #[.int .u8 (j : Int), .int .u64 (k : Int), .int .i64 (W : Int)] 120)).alloc (.cells #[.int .u8 (j : Int), .int .u64 (k : Int), .int .i64 (W : Int)] 120))) := (Fr.alloc (Fr.alloc (HNX.out.tr N5.out) _) _)
          have HB5 := show Hid (w.heap.size ≤ ((w5.alloc (.cells #[.int .u8 (j : Int), .int .u64 (k : Int), .int .i64 (W : Int)] 120)).alloc (.cells #[.int .u8 (j : Int), .int .u64 (k : Int), .int .i64 (W : Int)] 120)).heap.size) from NB.out.size
          have hkb : k ≤ 4096 := by omega
          go_wp2_with (at_builtin; refine wpList_append_own _ rfl (.tmp 26) (.tmp 28) 116 rfl w.heap.size 120 i0 (.agg #[.int .u8 0, .int .u64 0, .int .i64 0]) 3 24 Tryz.underlying116 HI0.out.1 HI0.out.2.1 HI0.out.2.2.1 HI0.out.2.2.2 rfl (by decide) (.slice xa A xc) A (tic (allT S j ++ lvT S j k)) rfl OWN.out ⟨w5.heap.size + 1, 0, none⟩ 1 1 [.int .u8 (j : Int), .int .u64 (k : Int), .int .i64 (W : Int)] rfl rfl HNew.out (by simp [Value.oneCell']) (by unfold maxLen; omega) (by omega) HB5.out ?_; intro v' w6 o6 g6 x6; clear x6; have N6 : Hid (Nw w w6) := NB.out.grown g6 (fun t ht hlt => by have := (OWN.out.lt t ht).1; omega); have O6 : Hid (w6.ownsRow w.heap.size 120 3 v' (A + 1) (tic (allT S j ++ lvT S j k) ++ [.int .u8 (j : Int), .int .u64 (k : Int), .int .i64 (W : Int)])) := o6)
          obtain ⟨ya, yc, rfl⟩ := ownsRow_form o6
          clear o6 g6 OWN HNew NB HB5 N5 HOX HNX
          go_wp2
          have e1 : A + 1 = (allT S j).length + (k + 1) := by rw [HA.out]; omega
          have e2 : tic (allT S j ++ lvT S j k) ++ [.int .u8 (j : Int), .int .u64 (k : Int), .int .i64 (W : Int)] = tic (allT S j ++ lvT S j (k + 1)) := by
            rw [lvT_succ, ← List.append_assoc, tic_app (allT S j ++ lvT S j k), tic_one, HW.out]
            rfl
          have h6 := O6.out
          rw [e1, e2] at h6
          exact ⟨⟨k + 1, ya, yc, by omega, by go_num, by rw [e1], h6, N6.out⟩, by simp [intOf]; omega⟩
        · have hW : wid j k S = 0 := by
            have := (wid_pos S j k hS (by omega))
            omega
          have q := fun V => in_no j k S (by omega) (by omega) (by omega) hW V
          have hkk : Hid (k = cntT S j) := by show _ = _; omega
          go_wp2_with fail
          refine (q _).mono ?_
          rintro e w5 ⟨rfl, n5⟩
          have N5 : Hid (Nw wr w5) := n5
          clear n5 q
          have N6 : Hid (Nw w w5) := HNX.out.tr N5.out
          have O6 : Hid (w5.ownsRow w.heap.size 120 3 (.slice xa A xc) A (tic (allT S j ++ lvT S j k))) := ownsRow_keep HOX.out (fun g hg => N5.out.block g (HOX.out.lt g hg).2 (fun q => q))
          clear N5 HOX HNX
          go_wp2
          have e1 : A = (allT S (j + 1)).length := by simp only [allT, List.length_append, lvT_len]; rw [HA.out, hkk.out]
          have e2 : allT S j ++ lvT S j k = allT S (j + 1) := by simp only [allT]; rw [hkk.out]
          have h6 := O6.out.alloc (.cells #[.int .u8 0, .int .u64 0, .int .i64 0] 120)
          rw [e2, e1] at h6
          exact ⟨⟨j + 1, xa, xc, by omega, by go_num, by rw [e1], h6, N6.out.alloc _⟩, by simp [intOf]; omega⟩
    · obtain rfl : j = 8 := by omega
      have hj2 : ¬ ((8 : Nat) : Int) < 8 := by omega
      go_wp2
      go_ret2
      exact ⟨va, vc, rfl, HO.out, HN.out⟩
end Go.Proofs.YtjkhcplnedcmeaaGreatDoor
namespace Go.Proofs.YtjkhcplnedcmeaaGreatDoor
namespace HB
open Go.RowKit
set_option linter.unusedVariables false
set_option linter.unusedSimpArgs false

/-- The mark of a number. -/
def mk (m : Nat) : List UInt8 := UInt8.ofNat m :: UInt8.ofNat (m / 256) :: UInt8.ofNat (m / 65536) :: (List.replicate 28 0 ++ [201])
end HB
end Go.Proofs.YtjkhcplnedcmeaaGreatDoor
namespace Go.Proofs.YtjkhcplnedcmeaaGreatDoor
open Go.RowKit
set_option linter.unusedVariables false
set_option linter.unusedSimpArgs false

theorem hsc_takeT : ∀ (l : List (List UInt8)), (∀ x ∈ l, x.length = 32) → ∀ k, (hsc l).take (k * 32) = hsc (l.take k)
  | [], _, k => by simp [hsc]
  | t :: r, h, 0 => by simp [hsc]
  | t :: r, h, k + 1 => by
    have ht := h t (by simp)
    have ih := hsc_takeT r (fun x hx => h x (by simp [hx])) k
    simp only [hsc, List.flatMap_cons, List.take_succ_cons] at ih ⊢
    rw [show (k + 1) * 32 = (bc t).length + k * 32 by rw [bc_len, ht]; omega, List.take_length_add_append, ih]
theorem hsc_dropT : ∀ (l : List (List UInt8)), (∀ x ∈ l, x.length = 32) → ∀ k, (hsc l).drop (k * 32) = hsc (l.drop k)
  | [], _, k => by simp [hsc]
  | t :: r, h, 0 => by simp [hsc]
  | t :: r, h, k + 1 => by
    have ht := h t (by simp)
    have ih := hsc_dropT r (fun x hx => h x (by simp [hx])) k
    simp only [hsc, List.flatMap_cons, List.drop_succ_cons] at ih ⊢
    rw [show (k + 1) * 32 = (bc t).length + k * 32 by rw [bc_len, ht]; omega, List.drop_length_add_append, ih]
theorem hsc_setT (l : List (List UInt8)) (h : ∀ x ∈ l, x.length = 32) (k : Nat) (hk : k < l.length) (y : List UInt8) : hsc (l.set k y) = (hsc l).take (k * 32) ++ bc y ++ (hsc l).drop ((k + 1) * 32) := by
  rw [hsc_takeT l h, hsc_dropT l h, List.set_eq_take_append_cons_drop, if_pos hk, hsc_app]
  simp [hsc]
theorem take_midT {c b : List Value} {a n : Nat} (ha : a + 32 ≤ n) (hc : a ≤ c.length) (hb : b.length = 32) : (c.take a ++ b ++ c.drop (a + 32)).take n = c.take a ++ b ++ (c.drop (a + 32)).take (n - (a + 32)) := by
  have h1 : (c.take a ++ b).length = a + 32 := by simp [hb, Nat.min_eq_left hc]
  rw [List.take_append, h1, List.take_of_length_le (l := c.take a ++ b) (by omega)]
/-- One hash of a row of one's own is written over. -/
theorem own_setT {w : World} {base g n cap : Nat} {xs : List (List UInt8)} (h32 : ∀ x ∈ xs, x.length = 32) (hn : xs.length = n) (h : w.ownsRow base 69 32 (.slice (some ⟨g, 0, none⟩) n cap) n (hsc xs)) (k : Nat) (hk : k < n) (y : List UInt8) (hy : y.length = 32) :
    ∃ cur new : Array Value, w.heap[g]? = some (.cells cur 69 (0, 0)) ∧ k * 32 + 32 ≤ cur.size ∧ new.toList = cur.toList.take (k * 32) ++ (hbs y).toList ++ cur.toList.drop (k * 32 + 32) ∧ ∀ w' : World, w'.heap[g]? = some (.cells new 69 (0, 0)) → w'.ownsRow base 69 32 (.slice (some ⟨g, 0, none⟩) n cap) n (hsc (xs.set k y)) := by
  obtain ⟨h1, h2⟩ := h
  rcases h2 with ⟨h2, _⟩ | ⟨g', cap', cur, hv, hb, hh, h3, h4, h5, h6⟩
  · cases h2
  · cases hv
    have hkc : k * 32 + 32 ≤ cur.size := by
      rw [h5]
      have : (k + 1) * 32 ≤ cap * 32 := Nat.mul_le_mul_right _ (by omega)
      omega
    refine ⟨cur, (cur.toList.take (k * 32) ++ (hbs y).toList ++ cur.toList.drop (k * 32 + 32)).toArray, hh, hkc, rfl, fun w' hw => ⟨?_, .inr ⟨g, cap, _, rfl, hb, hw, h3, h4, ?_, ?_⟩⟩⟩
    · rw [hsc_len _ (fun x hx => by rcases List.mem_or_eq_of_mem_set hx with hx | rfl; exact h32 x hx; exact hy), List.length_set, hn]
    · simp [hbs_size, hy]
      omega
    · rw [hsc_setT xs h32 k (by omega) y, ← h6]
      have e1 : (k + 1) * 32 ≤ n * 32 := Nat.mul_le_mul_right _ (by omega)
      have hb : (hbs y).toList = bc y := by simp [hbs]
      rw [hb, List.take_take, Nat.min_eq_left (by omega), List.drop_take]
      rw [take_midT (by omega) (by simp; omega) (by rw [bc_len, hy])]
      have e3 : (k + 1) * 32 = k * 32 + 32 := by omega
      rw [e3]
theorem made_hsc (n : Nat) : madeCells (Value.agg z32).cells (n * 32) = (hsc (List.replicate n zh)).toArray := by
  have hz : ∀ x ∈ List.replicate n zh, x.length = 32 := fun x hx => by rw [List.eq_of_mem_replicate hx]; simp
  apply Array.ext
  · rw [size_madeCells]; simp [hsc_len _ hz]
  · intro j h1 h2
    rw [size_madeCells] at h1
    have hk : j / 32 < n := by omega
    have q := hsc_get _ hz (j / 32) zh (by simp [hk]) (j % 32) (Nat.mod_lt _ (by decide))
    rw [show j / 32 * 32 + j % 32 = j by omega] at q
    have hb : (bc zh)[j % 32]? = some (.int .u8 0) := by
      rw [bc, List.getElem?_map, List.getElem?_replicate, if_pos (Nat.mod_lt _ (by decide))]; rfl
    rw [hb] at q
    have e1 : (hsc (List.replicate n zh)).toArray[j] = .int .u8 0 := by
      have := List.getElem?_eq_some_iff.1 q
      obtain ⟨_, this⟩ := this
      simpa using this
    rw [e1]
    simp only [madeCells, Array.getElem_map, Array.getElem_range, Value.cells]
    have : z32.size = 32 := z32_size
    rw [this]
    have hg : z32[j % 32]! = .int .u8 0 := by
      rw [getElem!_pos z32 (j % 32) (by rw [this]; exact Nat.mod_lt _ (by decide))]
      simp [z32]
    exact hg
theorem make_hsc (n : Nat) (m : Int) (hm : m = (n : Int)) (hl : n ≤ 1048577) (w : World) : (Instr.makeSlice 45 (.int .i64 m) (.int .i64 m)).run Tryz.prog w = .ok (.slice (some ⟨w.heap.size, 0, none⟩) n n) (w.alloc (.cells (hsc (List.replicate n zh)).toArray 69)) := by
  obtain ⟨i, hi, hz0, hz1, hz2⟩ := info_parts infoHs
  subst hm
  rw [run_make w 45 69 i (.agg z32) Tryz.underlying45 hi hz0 .i64 .i64 _ _ (by omega) (by omega) (by rw [hz2]; omega) (by omega), hz1]
  rw [Int.toNat_natCast, made_hsc]
theorem own_made (n : Nat) (hl : n ≤ 1048577) (w : World) : (w.alloc (.cells (hsc (List.replicate n zh)).toArray 69)).ownsRow w.heap.size 69 32 (.slice (some ⟨w.heap.size, 0, none⟩) n n) n (hsc (List.replicate n zh)) := by
  have hz : ∀ x ∈ List.replicate n zh, x.length = 32 := fun x hx => by rw [List.eq_of_mem_replicate hx]; simp
  have h1 : (hsc (List.replicate n zh)).length = n * 32 := by rw [hsc_len _ hz]; simp
  exact ⟨h1, .inr ⟨w.heap.size, n, _, rfl, Nat.le_refl _, heap_new _ _, Nat.le_refl _, by unfold maxLen; omega, by simp [h1], by rw [← h1]; simp⟩⟩
theorem Hss.atT {w : World} {ad : Option Addr} {n c : Nat} {L : List (List UInt8)} (h : Hss w (.slice ad n c) L) {k : Nat} {x : List UInt8} (hk : L[k]? = some x) : ∃ p off, ad = some ⟨p, off, none⟩ ∧ ∀ j, j < 32 → w.cell? ⟨p, off + k * 32 + j, none⟩ = (hbs x)[j]? := by
  obtain ⟨ad0, c0, hv, h⟩ := h
  injection hv with h1 h2 h3
  subst h1
  exact h k x hk
end Go.Proofs.YtjkhcplnedcmeaaGreatDoor
