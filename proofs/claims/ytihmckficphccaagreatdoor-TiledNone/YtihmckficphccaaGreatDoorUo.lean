/- tile: the tiles of a log (pure); All. -/
import Derived.Test.YtihmckficphccaaGreatDoorUg2
import Derived.Test.YtihmckficphccaaGreatDoorTw
import Derived.Test.YtihmckficphccaaGreatDoorEg
namespace Go.Proofs.YtihmckficphccaaGreatDoor
open Go.RowKit
set_option linter.unusedVariables false
set_option linter.unusedSimpArgs false
/-- A tile. -/
structure Ti where
  L : Nat
  I : Nat
  W : Nat
def Ti.c (t : Ti) : List Value := [.int .u8 (t.L : Int), .int .u64 (t.I : Int), .int .i64 (t.W : Int)]
def tic (l : List Ti) : List Value := l.flatMap Ti.c
theorem tic_app (l m : List Ti) : tic (l ++ m) = tic l ++ tic m := by simp [tic]
theorem tic_one (t : Ti) : tic [t] = t.c := by simp [tic]
theorem tic_len : ∀ l : List Ti, (tic l).length = l.length * 3
  | [] => rfl
  | t :: r => by
    have h : tic (t :: r) = t.c ++ tic r := by simp [tic]
    rw [h, List.length_append, tic_len r, List.length_cons]
    simp [Ti.c]
    omega
theorem tic_at : ∀ (l : List Ti) (k : Nat) (t : Ti), l[k]? = some t → (tic l)[k * 3]? = some (.int .u8 (t.L : Int)) ∧ (tic l)[k * 3 + 1]? = some (.int .u64 (t.I : Int)) ∧ (tic l)[k * 3 + 2]? = some (.int .i64 (t.W : Int))
  | [], k, t, h => by simp at h
  | x :: r, 0, t, h => by
    have e : tic (x :: r) = x.c ++ tic r := by simp [tic]
    simp only [List.getElem?_cons_zero, Option.some.injEq] at h
    subst h
    rw [e]
    simp [Ti.c]
  | x :: r, k + 1, t, h => by
    have e : tic (x :: r) = x.c ++ tic r := by simp [tic]
    have ih := tic_at r k t (by simpa using h)
    rw [e]
    have e1 : (k + 1) * 3 = k * 3 + 3 := by omega
    rw [e1]
    simp only [Ti.c, List.cons_append, List.nil_append, List.getElem?_cons_succ]
    exact ih
/-- So many tiles of a level. -/
def lvT (S l k : Nat) : List Ti := (List.range k).map fun i => ⟨l, i, wid l i S⟩
theorem lvT_succ (S l k : Nat) : lvT S l (k + 1) = lvT S l k ++ [⟨l, k, wid l k S⟩] := by simp [lvT, List.range_succ]
theorem lvT_len (S l k : Nat) : (lvT S l k).length = k := by simp [lvT]
/-- How many tiles a level has. -/
def cntT (S l : Nat) : Nat := (nod8 l S + 255) / 256
def allT (S : Nat) : Nat → List Ti
  | 0 => []
  | j + 1 => allT S j ++ lvT S j (cntT S j)
theorem nod8_le (l S : Nat) (h : S ≤ 1048576) : nod8 l S ≤ 1048576 := Nat.le_trans (Nat.div_le_self _ _) h
theorem cntT_le (S l : Nat) (h : S ≤ 1048576) : cntT S l ≤ 4096 := by
  have := nod8_le l S h
  unfold cntT
  omega
theorem allT_le (S : Nat) (h : S ≤ 1048576) : ∀ j, (allT S j).length ≤ 4096 * j
  | 0 => by simp [allT]
  | j + 1 => by
    have := allT_le S h j
    have := cntT_le S j h
    simp only [allT, List.length_append, lvT_len]
    omega
theorem wid_small (S l i : Nat) (h : S ≤ 1048576) (hl : l ≤ 7) : wid l i S = min (nod8 l S - i * 256) 256 := by
  unfold wid
  rw [if_neg (by omega)]
theorem wid_pos (S l i : Nat) (h : S ≤ 1048576) (hl : l ≤ 7) : 0 < wid l i S ↔ i < cntT S l := by
  rw [wid_small S l i h hl]
  unfold cntT
  omega
theorem infoTi : (Tryz.prog.info? 86).map (fun i => (i.zero, i.size, i.bytes)) = some (some (.agg #[.int .u8 0, .int .u64 0, .int .i64 0]), 3, 24) := by kernel_rfl
theorem ti_new (w : World) (a b c : Value) (t : TypeId) : ∀ j u, [a, b, c][j]? = some u → (w.alloc (.cells #[a, b, c] t)).cell? ((⟨w.heap.size, 0, none⟩ : Addr).add j) = some u := by
  intro j u h
  rw [addZ, cell_of (heap_new _ _)]
  match j, h with
  | 0, h => simpa using h
  | 1, h => simpa using h
  | 2, h => simpa using h
  | j + 3, h => simp at h
set_option maxRecDepth 100000 in
theorem all_no (S : Nat) (hS : S < 18446744073709551616) (h : 1048576 < S) (w : World) {B : Nat} {a : Nat → Addr} (hE : Sent B w a) :
    Calls Tryz.prog 31 #[.int .u64 (S : Int)] w fun e w' => e = .returned (.tuple #[.slice none 0 0, sen (a 4)]) ∧ Nw w w' := by
  have e4 := hE.c4
  have h1 : (1048576 : Int) < (S : Int) := by omega
  clear hE
  go_enter Tryz.func31, Tryz.ntmps31
  go_wp2_with fail
  go_quiet (fail)
  go_wp2
  go_ret2
  exact ⟨rfl, (Fr.refl _ _).drewN _⟩
set_option maxRecDepth 100000 in
set_option maxHeartbeats 2000000 in
theorem all_yes (S : Nat) (hS : S ≤ 1048576) (w : World) :
    Calls Tryz.prog 31 #[.int .u64 (S : Int)] w fun e w' => ∃ va vc, e = .returned (.tuple #[.slice va (allT S 8).length vc, .nilIface]) ∧ w'.ownsRow w.heap.size 86 3 (.slice va (allT S 8).length vc) (allT S 8).length (tic (allT S 8)) ∧ Nw w w' := by
  have h1 : ¬ (1048576 : Int) < (S : Int) := by omega
  obtain ⟨i0, hi0, hie⟩ := Option.map_eq_some_iff.1 infoTi
  simp only [Prod.mk.injEq] at hie
  obtain ⟨hz0, hz1, hz2⟩ := hie
  have HI0 : Hid (Tryz.prog.info? 86 = some i0 ∧ i0.zero = some (.agg #[.int .u8 0, .int .u64 0, .int .i64 0]) ∧ i0.size = 3 ∧ i0.bytes = 24) := ⟨hi0, hz0, hz1, hz2⟩
  clear hi0 hz0 hz1 hz2
  go_enter Tryz.func31, Tryz.ntmps31
  go_wp2
  go_loopw [4, 12] (fun u v wr => ∃ (j : Nat) (va : Option Addr) (vc : Nat), j ≤ 8 ∧ v = .int .u8 j ∧ u = .slice va (allT S j).length vc ∧ wr.ownsRow w.heap.size 86 3 (.slice va (allT S j).length vc) (allT S j).length (tic (allT S j)) ∧ Nw w wr) (fun _ v _ => 8 - (intOf v).toNat)
  case atStart => exact ⟨0, none, 0, by omega, rfl, rfl, World.ownsRow_nil _ _ _ _, Fr.refl _ _⟩
  case round =>
    obtain ⟨j, va, vc, hj, rfl, rfl, ho, hn⟩ := hrel
    have HO : Hid (wr.ownsRow w.heap.size 86 3 (.slice va (allT S j).length vc) (allT S j).length (tic (allT S j))) := ho
    have HN : Hid (Nw w wr) := hn
    have hle := allT_le S hS j
    clear ho hn
    by_cases hj8 : j < 8
    · have hj2 : (j : Int) < 8 := by omega
      go_wp2
      obtain ⟨wy, hwy⟩ : ∃ q, q = wr := ⟨_, rfl⟩
      rw [← hwy] at HO HN ⊢
      clear hwy
      go_loopw [4, 6] (fun u v wx => ∃ (k : Nat) (xa : Option Addr) (xc : Nat), k ≤ cntT S j ∧ v = .int .u64 k ∧ u = .slice xa ((allT S j).length + k) xc ∧ wx.ownsRow w.heap.size 86 3 (.slice xa ((allT S j).length + k) xc) ((allT S j).length + k) (tic (allT S j ++ lvT S j k)) ∧ Nw w wx) (fun _ v _ => cntT S j + 1 - (intOf v).toNat)
      case atStart => exact ⟨0, va, vc, by omega, rfl, rfl, by rw [Nat.add_zero]; simpa [lvT] using HO.out, HN.out⟩
      case round =>
        obtain ⟨k, xa, xc, hk, rfl, rfl, ho, hn⟩ := hrel
        have HOX : Hid (wr.ownsRow w.heap.size 86 3 (.slice xa ((allT S j).length + k) xc) ((allT S j).length + k) (tic (allT S j ++ lvT S j k))) := ho
        have HNX : Hid (Nw w wr) := hn
        have hcl := cntT_le S j hS
        clear ho hn
        obtain ⟨A, hA⟩ : ∃ A, A = (allT S j).length + k := ⟨_, rfl⟩
        have HA : Hid (A = (allT S j).length + k) := hA
        rw [← hA] at HOX ⊢
        have hAb : A ≤ 40000 := by omega
        clear hA
        by_cases hkc : k < cntT S j
        · have hW := (wid_pos S j k hS (by omega)).2 hkc
          obtain ⟨W, hWe⟩ : ∃ W, W = wid j k S := ⟨_, rfl⟩
          rw [← hWe] at hW
          have HW : Hid (W = wid j k S) := hWe
          have q := fun V => in_yes j k S W (by omega) hWe.symm hW V
          clear hWe
          go_wp2_with fail
          refine (q _).mono ?_
          rintro e w5 ⟨rfl, n5⟩
          have N5 : Hid (Nw wr w5) := n5
          clear n5 q
          have OWN : Hid (((w5.alloc (.cells #[.int .u8 (j : Int), .int .u64 (k : Int), .int .i64 (W : Int)] 86)).alloc (.cells #[.int .u8 (j : Int), .int .u64 (k : Int), .int .i64 (W : Int)] 86)).ownsRow w.heap.size 86 3 (.slice xa A xc) A (tic (allT S j ++ lvT S j k))) := ((ownsRow_keep HOX.out (fun g hg => N5.out.block g (HOX.out.lt g hg).2 (fun q => q))).alloc _).alloc _
          have HNew : Hid (∀ t u, [Value.int .u8 (j : Int), .int .u64 (k : Int), .int .i64 (W : Int)][t]? = some u → ((w5.alloc (.cells #[.int .u8 (j : Int), .int .u64 (k : Int), .int .i64 (W : Int)] 86)).alloc (.cells #[.int .u8 (j : Int), .int .u64 (k : Int), .int .i64 (W : Int)] 86)).cell? ((⟨w5.heap.size + 1, 0, none⟩ : Addr).add t) = some u) := by
            have h0 := ti_new (w5.alloc (.cells #[.int .u8 (j : Int), .int .u64 (k : Int), .int .i64 (W : Int)] 86)) (.int .u8 (j : Int)) (.int .u64 (k : Int)) (.int .i64 (W : Int)) 86
            rw [show (w5.alloc (.cells #[.int .u8 (j : Int), .int .u64 (k : Int), .int .i64 (W : Int)] 86)).heap.size = w5.heap.size + 1 by simp] at h0
            exact h0
          have NB : Hid (Nw w ((w5.alloc (.cells #[.int .u8 (j : Int), .int .u64 (k : Int), .int .i64 (W : Int)] 86)).alloc (.cells #[.int .u8 (j : Int), .int .u64 (k : Int), .int .i64 (W : Int)] 86))) := (Fr.alloc (Fr.alloc (HNX.out.tr N5.out) _) _)
          have HB5 := show Hid (w.heap.size ≤ ((w5.alloc (.cells #[.int .u8 (j : Int), .int .u64 (k : Int), .int .i64 (W : Int)] 86)).alloc (.cells #[.int .u8 (j : Int), .int .u64 (k : Int), .int .i64 (W : Int)] 86)).heap.size) from NB.out.size
          have hkb : k ≤ 4096 := by omega
          go_wp2_with (at_builtin; refine wpList_append_own _ rfl (.tmp 26) (.tmp 28) 82 rfl w.heap.size 86 i0 (.agg #[.int .u8 0, .int .u64 0, .int .i64 0]) 3 24 Tryz.underlying82 HI0.out.1 HI0.out.2.1 HI0.out.2.2.1 HI0.out.2.2.2 rfl (by decide) (.slice xa A xc) A (tic (allT S j ++ lvT S j k)) rfl OWN.out ⟨w5.heap.size + 1, 0, none⟩ 1 1 [.int .u8 (j : Int), .int .u64 (k : Int), .int .i64 (W : Int)] rfl rfl HNew.out (by simp [Value.oneCell']) (by unfold maxLen; omega) (by omega) HB5.out ?_; intro v' w6 o6 g6 x6; clear x6; have N6 : Hid (Nw w w6) := NB.out.grown g6 (fun t ht hlt => by have := (OWN.out.lt t ht).1; omega); have O6 : Hid (w6.ownsRow w.heap.size 86 3 v' (A + 1) (tic (allT S j ++ lvT S j k) ++ [.int .u8 (j : Int), .int .u64 (k : Int), .int .i64 (W : Int)])) := o6)
          obtain ⟨ya, yc, rfl⟩ := ownsRow_form o6
          clear o6 g6 OWN HNew NB HB5 N5 HOX HNX
          go_wp2
          have e1 : A + 1 = (allT S j).length + (k + 1) := by rw [HA.out]; omega
          have e2 : tic (allT S j ++ lvT S j k) ++ [.int .u8 (j : Int), .int .u64 (k : Int), .int .i64 (W : Int)] = tic (allT S j ++ lvT S j (k + 1)) := by
            rw [lvT_succ, ← List.append_assoc, tic_app (allT S j ++ lvT S j k), tic_one, HW.out]
            rfl
          have h6 := O6.out
          rw [e1, e2] at h6
          exact ⟨⟨k + 1, ya, yc, by omega, by go_num, by rw [e1], h6, N6.out⟩, by simp [intOf]; omega⟩
        · have hW : wid j k S = 0 := by
            have := (wid_pos S j k hS (by omega))
            omega
          have q := fun V => in_no j k S (by omega) (by omega) (by omega) hW V
          have hkk : Hid (k = cntT S j) := by show _ = _; omega
          go_wp2_with fail
          refine (q _).mono ?_
          rintro e w5 ⟨rfl, n5⟩
          have N5 : Hid (Nw wr w5) := n5
          clear n5 q
          have N6 : Hid (Nw w w5) := HNX.out.tr N5.out
          have O6 : Hid (w5.ownsRow w.heap.size 86 3 (.slice xa A xc) A (tic (allT S j ++ lvT S j k))) := ownsRow_keep HOX.out (fun g hg => N5.out.block g (HOX.out.lt g hg).2 (fun q => q))
          clear N5 HOX HNX
          go_wp2
          have e1 : A = (allT S (j + 1)).length := by simp only [allT, List.length_append, lvT_len]; rw [HA.out, hkk.out]
          have e2 : allT S j ++ lvT S j k = allT S (j + 1) := by simp only [allT]; rw [hkk.out]
          have h6 := O6.out.alloc (.cells #[.int .u8 0, .int .u64 0, .int .i64 0] 86)
          rw [e2, e1] at h6
          exact ⟨⟨j + 1, xa, xc, by omega, by go_num, by rw [e1], h6, N6.out.alloc _⟩, by simp [intOf]; omega⟩
    · obtain rfl : j = 8 := by omega
      have hj2 : ¬ ((8 : Nat) : Int) < 8 := by omega
      go_wp2
      go_ret2
      exact ⟨va, vc, rfl, HO.out, HN.out⟩
end Go.Proofs.YtihmckficphccaaGreatDoor
