/- What FromHex answers. -/
import Derived.Test.YtdcnoepgnncjoaaDoorH1
import Derived.Laws.OwnMore
import Derived.Test.YtdcnoepgnncjoaaDoorAg
namespace Go.Proofs.YtdcnoepgnncjoaaDoor
open Go.RowKit
set_option linter.unusedVariables false
set_option linter.unusedSimpArgs false

theorem C_two (a b : UInt8) (r : List UInt8) (j : Nat) : C (a :: b :: r) (j + 2) = C r j := by simp [C]
theorem unhex_bad : ∀ (l : List UInt8) (p k : Nat), k < l.length → (∀ i, i < k → 0 ≤ ix hexs (C l i)) → ix hexs (C l k) < 0 → unhex p l = .error (p + k)
  | [], p, k, h, _, _ => by simp at h
  | [a], p, k, h, _, hb => by
    obtain rfl : k = 0 := by simp at h; omega
    simp [C] at hb
    simp [unhex, hb]
  | a :: b :: r, p, k, h, hg, hb => by
    rw [unhex]
    match k, hg, hb with
    | 0, hg, hb => simp [C] at hb; rw [if_pos hb]; rfl
    | 1, hg, hb =>
      have h0 := hg 0 (by omega)
      simp [C] at hb h0
      rw [if_neg (by omega), if_pos hb]
    | j + 2, hg, hb =>
      have h0 := hg 0 (by omega)
      have h1 := hg 1 (by omega)
      simp [C] at h0 h1
      rw [C_two] at hb
      rw [if_neg (by omega), if_neg (by omega), unhex_bad r (p + 2) j (by simp at h; omega) (fun i hi => by have := hg (i + 2) (by omega); rwa [C_two] at this) hb]
      rw [show p + 2 + j = p + (j + 2) by omega]
theorem unhex_odd : ∀ (l : List UInt8) (p : Nat), l.length % 2 = 1 → (∀ i, i < l.length → 0 ≤ ix hexs (C l i)) → unhex p l = .error (p + l.length)
  | [], p, h, _ => by simp at h
  | [a], p, h, hg => by
    have h0 := hg 0 (by simp)
    simp [C] at h0
    simp [unhex]; omega
  | a :: b :: r, p, h, hg => by
    have h0 := hg 0 (by simp)
    have h1 := hg 1 (by simp)
    simp [C] at h0 h1
    rw [unhex, if_neg (by omega), if_neg (by omega), unhex_odd r (p + 2) (by simp at h; omega) (fun i hi => by have := hg (i + 2) (by simp; omega); rwa [C_two] at this)]
    simp only [List.length_cons]
    rw [show p + 2 + r.length = p + (r.length + 1 + 1) by omega]
def prs : List UInt8 → List UInt8
  | a :: b :: r => two a b :: prs r
  | _ => []
theorem unhex_even : ∀ (l : List UInt8) (p : Nat), l.length % 2 = 0 → (∀ i, i < l.length → 0 ≤ ix hexs (C l i)) → unhex p l = .ok (prs l)
  | [], p, h, _ => rfl
  | [a], p, h, _ => by simp at h
  | a :: b :: r, p, h, hg => by
    have h0 := hg 0 (by simp)
    have h1 := hg 1 (by simp)
    simp [C] at h0 h1
    rw [unhex, if_neg (by omega), if_neg (by omega), unhex_even r (p + 2) (by simp at h; omega) (fun i hi => by have := hg (i + 2) (by simp; omega); rwa [C_two] at this)]
    rfl
theorem prs_len : ∀ l : List UInt8, (prs l).length = l.length / 2
  | [] => rfl
  | [a] => by simp [prs]
  | a :: b :: r => by simp only [prs, List.length_cons, prs_len r]; omega
theorem prs_get : ∀ (l : List UInt8) (j : Nat), 2 * j + 1 < l.length → (prs l)[j]? = some (two (C l (2 * j)) (C l (2 * j + 1)))
  | [], j, h => by simp at h
  | [a], j, h => by simp at h
  | a :: b :: r, 0, h => by simp [prs, C]
  | a :: b :: r, j + 1, h => by
    have := prs_get r j (by simp at h; omega)
    simp only [prs, List.getElem?_cons_succ, this]
    rw [show 2 * (j + 1) = 2 * j + 2 by omega, show 2 * j + 2 + 1 = 2 * j + 1 + 2 by omega, C_two, C_two]
/-- A digit's number. -/
def dg (l : List UInt8) (i : Nat) : Nat := (ix hexs (C l i)).toNat
theorem dg_lt (l : List UInt8) (i : Nat) : dg l i < 16 := by
  have := ix_lt hexs (C l i)
  rw [show (hexs.length : Int) = 16 from rfl] at this
  unfold dg; omega
/-- What stands at place j of the row when k digits were read. -/
def rowv (l : List UInt8) (k j : Nat) : Nat := if 2 * j + 1 < k then 16 * dg l (2 * j) + dg l (2 * j + 1) else if 2 * j < k then dg l (2 * j) else 0
theorem rowv_lt (l : List UInt8) (k j : Nat) : rowv l k j < 256 := by
  have := dg_lt l (2 * j); have := dg_lt l (2 * j + 1)
  unfold rowv
  split
  · omega
  · split <;> omega
theorem or8 (x y : Nat) (hx : x < 16) (hy : y < 16) : bits .or .u8 ((16 * x : Nat) : Int) (y : Int) = ((16 * x + y : Nat) : Int) := by
  rw [u8_or_nat _ _ (by omega) (by omega)]
  congr 1
  exact (Nat.two_pow_add_eq_or_of_lt (i := 4) (b := y) hy x).symm
theorem row_or (l : List UInt8) (k : Nat) : bits .or .u8 ((rowv l k (k / 2) : Nat) * 16 % 256) (dg l k : Int) = ((if k % 2 = 0 then dg l k else 16 * dg l (k - 1) + dg l k : Nat) : Int) := by
  have d1 := dg_lt l k; have d2 := dg_lt l (k - 1)
  by_cases he : k % 2 = 0
  · have e1 : rowv l k (k / 2) = 0 := by unfold rowv; rw [if_neg (by omega), if_neg (by omega)]
    have h := or8 0 (dg l k) (by omega) d1
    rw [e1, if_pos he]
    simpa using h
  · have e1 : rowv l k (k / 2) = dg l (k - 1) := by unfold rowv; rw [if_neg (by omega), if_pos (by omega), show 2 * (k / 2) = k - 1 by omega]
    have h := or8 (dg l (k - 1)) (dg l k) d2 d1
    have e2 : ((dg l (k - 1) : Nat) : Int) * 16 % 256 = ((16 * dg l (k - 1) : Nat) : Int) := by omega
    rw [e1, if_neg he, e2]
    exact h
/-- The row in memory. -/
def HR (w : World) (g n : Nat) (l : List UInt8) (k : Nat) : Prop := ∃ A : Array Value, w.heap[g]? = some (.cells A 5 (0, 0)) ∧ A.size = n ∧ ∀ j, j < n → A[j]? = some (.int .u8 (rowv l k j : Nat))
theorem HR.step {w : World} {g n : Nat} {l : List UInt8} {k : Nat} (h : HR w g n l k) (hk : k / 2 < n) : HR (w.setCell ⟨g, k / 2, none⟩ (.int .u8 ((if k % 2 = 0 then dg l k else 16 * dg l (k - 1) + dg l k : Nat) : Int))) g n l (k + 1) := by
  obtain ⟨A, hb, hs, hc⟩ := h
  refine ⟨_, heap_set hb _, by simp [hs], fun j hj => ?_⟩
  rw [Array.getElem?_setIfInBounds]
  by_cases hjk : k / 2 = j
  · rw [if_pos hjk, if_pos (by omega)]
    subst hjk
    congr 3
    unfold rowv
    by_cases he : k % 2 = 0
    · rw [if_pos he, if_neg (by omega), if_pos (by omega), show 2 * (k / 2) = k by omega]
    · rw [if_neg he, if_pos (by omega), show 2 * (k / 2) = k - 1 by omega, show k - 1 + 1 = k by omega]
  · rw [if_neg hjk, hc j hj]
    congr 3
    unfold rowv
    by_cases h1 : 2 * j + 1 < k
    · rw [if_pos h1, if_pos (by omega)]
    · rw [if_neg h1]
      by_cases h2 : 2 * j < k
      · omega
      · rw [if_neg h2, if_neg (by omega), if_neg (by omega)]
theorem idx_hexs (c : UInt8) (w : World) : Calls Tryd.prog 39 #[.string hexsB, .int .u8 c.toNat] w fun e w' => e = .returned (.int .i64 (ix hexs c)) ∧ w' = w := by
  have h := Tryd.strings_IndexByte hexsB c.toNat w
  have e : ((c.toNat : Int)).toNat.toUInt8 = c := by simp
  rw [e] at h
  exact h
theorem make_full (w : World) (n : Nat) (l : List UInt8) (hn : n ≤ 281474976710656) : ∃ w', (Instr.makeSlice 43 (.int .i64 (n : Int)) (.int .i64 (n : Int))).run Tryd.prog w = .ok (.slice (some ⟨w.heap.size, 0, none⟩) n n) w' ∧ HR w' w.heap.size n l 0 ∧ Nw w w' := by
  obtain ⟨i0, hi, hz0, hz1, hz2⟩ := info_parts8
  have h := run_make (P := Tryd.prog) w 43 5 i0 (.int .u8 0) Tryd.underlying43 hi hz0 .i64 .i64 n n (by omega) (by omega) (by rw [hz2]; omega) (by omega)
  rw [Int.toNat_natCast, hz1, Nat.mul_one] at h
  refine ⟨_, h, ⟨_, heap_alloc_new w _, ?_, fun j hj => ?_⟩, (Fr.refl _ _).alloc _⟩
  · have := congrArg List.length (toList_madeCells_one (Value.int .u8 0) n)
    rw [List.length_replicate, Array.length_toList] at this
    exact this
  · have e : (madeCells (Value.int .u8 0).cells n).toList[j]? = (List.replicate n (Value.int .u8 0))[j]? := congrArg (fun x => x[j]?) (toList_madeCells_one (Value.int .u8 0) n)
    simp only [List.getElem?_replicate, if_pos hj, Array.getElem?_toList] at e
    rw [e]
    simp [rowv]

set_option maxRecDepth 100000 in
set_option maxHeartbeats 2000000 in
theorem fromhex_any {B : Nat} {w : World} {a : Nat → Addr} (hS : Sent B w a) (s : ByteArray) (hs : s.size ≤ 9223372036854775807) :
    Calls Tryd.prog 14 #[.string s] w fun e w' => ∃ v, e = .returned (.tuple #[.string ⟨(rd [] s (unhex 0 s.data.toList)).1.toArray⟩, v]) ∧ EV w' a v (rd [] s (unhex 0 s.data.toList)).2.1 (rd [] s (unhex 0 s.data.toList)).2.2 ∧ Nw w w' := by
  obtain ⟨L, hL⟩ : ∃ L, L = s.data.toList := ⟨_, rfl⟩
  have hlen : L.length = s.size := by rw [hL, Array.length_toList]; rfl
  have hC : Hid (∀ k (h : k < s.size), s[k]'h = C L k) := fun k h => by rw [hL]; exact C_get s k h
  rw [← hL]
  clear hL
  by_cases hbig : 1048576 < s.size
  · rw [rd_long _ _ _ hbig]
    have hc := hS.c3
    have hbz : (1048576 : Int) < (s.size : Int) := by omega
    go_enter Tryd.func14, Tryd.ntmps14
    go_wp2
    go_quiet (fail)
    go_wp2
    go_ret2
    exact ⟨_, rfl, .inr (.inl ⟨3, by omega, rfl, rfl, rfl⟩), (Fr.refl _ _).drewN _⟩
  · have hbz : ¬ (1048576 : Int) < (s.size : Int) := by omega
    obtain ⟨n, hn⟩ : ∃ n, n = s.size / 2 + s.size % 2 := ⟨_, rfl⟩
    obtain ⟨w1, hmk, hrow, hnw⟩ := make_full w n L (by omega)
    have hnz : (n : Int) = (s.size : Int) / 2 + (s.size : Int) % 2 := by omega
    rw [hnz] at hmk
    have HN : Hid (n = s.size / 2 + s.size % 2) := hn
    clear hnz hn
    go_enter Tryd.func14, Tryd.ntmps14
    go_wp2
    go_loopw [21] (fun i wr => ∃ k : Nat, k ≤ s.size ∧ i = .int .i64 k ∧ HR wr w.heap.size n L k ∧ Nw w wr ∧ ∀ i, i < k → 0 ≤ ix hexs (C L i)) (fun i _ => s.size - (intOf i).toNat)
    case atStart => exact ⟨0, by omega, rfl, hrow, hnw, fun i h => absurd h (by omega)⟩
    case round =>
      obtain ⟨k, hk, rfl, hr, hnw, hg⟩ := hrel
      have HG : Hid (∀ i, i < k → 0 ≤ ix hexs (C L i)) := hg
      clear hg
      have hSr : Sent B wr a := hS.fr hnw (fun _ _ f => f)
      by_cases hlt : k < s.size
      · have hck := hC.out k hlt
        have hcall := idx_hexs (C L k) wr
        by_cases hx : ix hexs (C L k) < 0
        · have HU : Hid (unhex 0 L = .error k) := by unfold Hid; rw [unhex_bad L 0 k (by omega) HG.out hx, Nat.zero_add]
          have hwr := wrong_any hSr (k : Int)
          generalize ix hexs (C L k) = X at hx hcall
          go_wp2_with (first
            | (go_at_call 39; refine hcall.mono ?_; rintro e w2 ⟨rfl, rfl⟩)
            | (go_at_call 26; refine hwr.mono ?_; rintro e w3 ⟨v, rfl, hev, hnw3⟩))
          go_ret2
          rw [rd_err _ _ _ hbig _ HU.out]
          exact ⟨v, rfl, hev, hnw.tr hnw3⟩
        · have HG' : Hid (∀ i, i < k + 1 → 0 ≤ ix hexs (C L i)) := fun i hi => by
            by_cases hik : i = k
            · subst hik; omega
            · exact HG.out i (by omega)
          have hkn : k / 2 < n := by have := HN.out; omega
          have hst := hr.step hkn
          obtain ⟨A, hb, hAs, hAc⟩ := hr
          have hc1 : wr.cell? ⟨w.heap.size, k / 2, none⟩ = some (.int .u8 (rowv L k (k / 2) : Nat)) := by rw [cell_of hb, hAc _ hkn]
          have hf1 : wr.frozen? ⟨w.heap.size, k / 2, none⟩ = false := frozen_of hb _
          have hxd : ix hexs (C L k) = (dg L k : Int) := by unfold dg; omega
          have hdl := dg_lt L k
          rw [hxd] at hcall
          have HV := row_or L k
          obtain ⟨D, hD⟩ : ∃ D, D = dg L k := ⟨_, rfl⟩
          rw [← hD] at hcall hdl
          have HV2 : Hid (bits .or .u8 ((rowv L k (k / 2) : Nat) * 16 % 256) (D : Int) = ((if k % 2 = 0 then dg L k else 16 * dg L (k - 1) + dg L k : Nat) : Int)) := by unfold Hid; rw [hD]; exact HV
          have HST : Hid _ := hst
          clear hx hxd HV hD hst hb hAs hAc
          go_wp2_with (go_at_call 39; refine hcall.mono ?_; rintro e w2 ⟨rfl, rfl⟩)
          rw [HV2.out]
          exact ⟨⟨k + 1, by omega, by go_num, HST.out, hnw.setCell _ _ (fun h => by simp at h), HG'.out⟩, by simp [intOf]; omega⟩
      · obtain rfl : k = s.size := by omega
        rw [← hlen] at HG
        by_cases hodd : s.size % 2 = 1
        · have HU : Hid (unhex 0 L = .error s.size) := by unfold Hid; rw [unhex_odd L 0 (by omega) HG.out, Nat.zero_add, hlen]
          have hoz : (((s.size : Int) % 2) != 0) = true := by simp; omega
          have hwr := wrong_any hSr (s.size : Int)
          go_wp2_with (go_at_call 26; refine hwr.mono ?_; rintro e w3 ⟨v, rfl, hev, hnw3⟩)
          go_ret2
          rw [rd_err _ _ _ hbig _ HU.out]
          exact ⟨v, rfl, hev, hnw.tr hnw3⟩
        · have HU : Hid (unhex 0 L = .ok (prs L)) := by unfold Hid; rw [unhex_even L 0 (by omega) HG.out]
          have hoz : (((s.size : Int) % 2) != 0) = false := by simp; omega
          have hcv : (convert 43 9 (.slice (some ⟨w.heap.size, 0, none⟩) n n)).run Tryd.prog wr = .ok (.string ⟨(prs L).toArray⟩) wr := by
            obtain ⟨A, hb, hAs, hAc⟩ := hr
            have hpl := prs_len L
            have hnl : n = (prs L).length := by have := HN.out; omega
            rw [hnl]
            refine run_convert_bytes_back wr _ _ _ _ _ _ Tryd.underlying43 Tryd.underlying5 Tryd.underlying9 (fun j hj => ?_)
            have hj2 : j < n := by omega
            rw [addZ, cell_of hb, hAc j hj2]
            have hg := prs_get L j (by omega)
            have hg2 : (prs L)[j] = two (C L (2 * j)) (C L (2 * j + 1)) := Option.some.inj ((List.getElem?_eq_getElem hj).symm.trans hg)
            rw [hg2]
            have d1 := dg_lt L (2 * j); have d2 := dg_lt L (2 * j + 1)
            have e1 : rowv L s.size j = 16 * dg L (2 * j) + dg L (2 * j + 1) := by unfold rowv; rw [if_pos (by omega)]
            have e2 : (two (C L (2 * j)) (C L (2 * j + 1))).toNat = 16 * dg L (2 * j) + dg L (2 * j + 1) := by unfold two; exact toNat_of _ (by unfold dg at d1 d2; omega)
            rw [e1, e2]
          clear hr
          go_wp2
          go_ret2
          rw [rd_ok _ _ _ hbig _ HU.out]
          exact ⟨_, rfl, .inl ⟨rfl, rfl, rfl⟩, hnw⟩
end Go.Proofs.YtdcnoepgnncjoaaDoor
