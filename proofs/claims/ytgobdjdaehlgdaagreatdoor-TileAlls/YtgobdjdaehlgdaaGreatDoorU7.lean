/- tile: Path; bytes that are cut at a mark. -/
import Derived.Test.YtgobdjdaehlgdaaGreatDoorU6
import Derived.Lib.IndexMore
import Derived.OwnWalk
import Derived.Lib.Bytes
namespace Go.Proofs.YtgobdjdaehlgdaaGreatDoor
open Go.RowKit
open Go.Lib (decDigits nDigits)
set_option linter.unusedVariables false
set_option linter.unusedSimpArgs false
theorem mayT_nat {L I : Nat} {W : Int} (h : mayT L I W) : ∃ n : Nat, W = (n : Int) := ⟨W.toNat, by have := h.1; omega⟩
set_option maxHeartbeats 1000000 in
theorem path_yes (L I W : Nat) (h : mayT L I (W : Int)) (w : World) (hP : TX.Pow w) :
    Calls Tryz.prog 13 #[tl L I W] w fun e w' => e = .returned (.tuple #[.string ⟨(nm L I W).toArray⟩, .nilIface]) ∧ Nw w w' := by
  have hb := nm_len h
  have HP : Hid (TX.Pow w) := hP
  have HM : Hid (mayT L I (W : Int)) := h
  obtain ⟨s, hs⟩ : ∃ s, s = (⟨(nm L I W).toArray⟩ : ByteArray) := ⟨_, rfl⟩
  have QN : Hid (∀ V, Nw w V → Calls Tryz.prog 82 #[tl L I W] V fun e w' => e = .returned (.string s) ∧ Nw V w') := fun V nV => by rw [hs]; exact name_any L I W HM.out V (HP.out.fr nV)
  have QM : Hid (∀ V, Calls Tryz.prog 81 #[tl L I W] V fun e w' => e = .returned (.bool true) ∧ Nw V w') := fun V => maybe_any L I (W : Int) (by omega) (by omega) true (by simp [HM.out]) V
  rw [← hs]
  clear h hP hs hb
  go_enter Tryz.func13, Tryz.ntmps13
  go_wp2_with fail
  refine (QM.out _).mono ?_
  rintro e w1 ⟨rfl, n1⟩
  obtain ⟨l0, b0, n2⟩ := one_made n1
  obtain ⟨c0, c1, c2⟩ := cell3 b0
  clear n1
  go_wp2_with fail
  refine (QN.out _ n2).mono ?_
  rintro e w2 ⟨rfl, n3⟩
  go_wp2
  go_ret2
  exact ⟨rfl, n2.tr n3⟩
set_option maxHeartbeats 1000000 in
theorem path_no (L I : Nat) (W : Int) (hL : L ≤ 255) (hI : I < 18446744073709551616) (h : ¬ mayT L I W) (w : World) {B : Nat} {a : Nat → Addr} (hS : Sent B w a) :
    Calls Tryz.prog 13 #[.agg #[.int .u8 (L : Int), .int .u64 (I : Int), .int .i64 W]] w fun e w' => e = .returned (.tuple #[.string ⟨#[]⟩, sen (a 1)]) ∧ Nw w w' := by
  have QM : Hid (∀ V, Calls Tryz.prog 81 #[.agg #[.int .u8 (L : Int), .int .u64 (I : Int), .int .i64 W]] V fun e w' => e = .returned (.bool false) ∧ Nw V w') := fun V => maybe_any L I W hL hI false (by simp [h]) V
  have SS : Hid (∀ V, Nw w V → Sent B V a) := fun V nV => hS.fr nV (fun _ _ f => f)
  clear h hS
  go_enter Tryz.func13, Tryz.ntmps13
  go_wp2_with fail
  refine (QM.out _).mono ?_
  rintro e w1 ⟨rfl, n1⟩
  obtain ⟨l0, b0, n2⟩ := one_made n1
  have e1 := (SS.out _ n2).c1
  clear n1
  go_wp2_with fail
  go_quiet (fail)
  go_wp2
  go_ret2
  exact ⟨rfl, n2.drewN nq⟩
/-- Bytes in memory, as a value. -/
def Byl (w : World) (v : Value) (X : List UInt8) : Prop := (X = [] ∧ v = .slice none 0 0) ∨ ∃ b o c, v = .slice (some ⟨b, o, none⟩) X.length c ∧ X.length ≤ c ∧ (X.length ≤ 1000000 ∧ c ≤ 9223372036854775807) ∧ ∀ i x, X[i]? = some x → w.cell? ⟨b, o + i, none⟩ = some (.int .u8 (x.toNat : Int))
theorem Byl.nw {w w' : World} {v : Value} {X : List UInt8} (h : Byl w v X) (n : Nw w w') : Byl w' v X := by
  rcases h with h | ⟨b, o, c, h1, h2, h3, h4⟩
  · exact .inl h
  · exact .inr ⟨b, o, c, h1, h2, h3, fun i x hx => n.cellOf (h4 i x hx)⟩
theorem Byl.form {w : World} {v : Value} {X : List UInt8} (h : Byl w v X) : ∃ p c, v = .slice p X.length c := by
  rcases h with ⟨rfl, rfl⟩ | ⟨b, o, c, rfl, _⟩
  · exact ⟨none, 0, rfl⟩
  · exact ⟨_, _, rfl⟩
/-- The bytes as numbers. -/
def ints (X : List UInt8) : List Int := X.map fun x => (x.toNat : Int)
theorem ints_len (X : List UInt8) : (ints X).length = X.length := by simp [ints]
theorem ints_of (X : List UInt8) : Lib.bytesOf (ints X) = X := by
  unfold Lib.bytesOf ints
  rw [List.map_map]
  conv => rhs; rw [← List.map_id X]
  apply List.map_congr_left
  intro x _
  simp
theorem ints_rg (X : List UInt8) : ∀ x ∈ ints X, 0 ≤ x ∧ x < 256 := by
  intro x hx
  simp only [ints, List.mem_map] at hx
  obtain ⟨y, _, rfl⟩ := hx
  have := y.toNat_lt
  omega
theorem ints_cells {w : World} {b o : Nat} {X : List UInt8} (h : ∀ i x, X[i]? = some x → w.cell? ⟨b, o + i, none⟩ = some (.int .u8 (x.toNat : Int))) : ∀ i, i < X.length → w.cell? ((⟨b, o, none⟩ : Addr).add i) = some (.int .u8 ((ints X).getD i 0)) := by
  intro i hi
  have := h i X[i] (List.getElem?_eq_getElem hi)
  rw [addO, this, List.getD_eq_getElem?_getD, ints, List.getElem?_map, List.getElem?_eq_getElem hi]
  rfl
/-- The length up to which the library's search is the machine's own, whatever it is. -/
def MaxL (w : World) : Prop := ∃ m : Int, w.cell? ⟨17, 0, none⟩ = some (.int .i64 m)
theorem MaxL.nw {w w' : World} (h : MaxL w) (n : Nw w w') : MaxL w' := by
  obtain ⟨m, h⟩ := h
  exact ⟨m, n.cellOf h⟩
theorem index_nil (M : List UInt8) (h : M ≠ []) : Lib.index [] M = -1 := by
  unfold Lib.index
  cases M with
  | nil => exact absurd rfl h
  | cons => rfl
theorem bidx (X M : List UInt8) (hM : M ≠ []) (v u : Value) (w : World) (hv : Byl w v X) (hu : Byl w u M) (hm : MaxL w) :
    Calls Tryz.prog 140 #[v, u] w fun e w' => e = .returned (.int .i64 (Lib.index X M)) ∧ Nw w w' := by
  obtain ⟨m, hm⟩ := hm
  rcases hu with ⟨rfl, _⟩ | ⟨b2, o2, c2, rfl, hc2, hb2, hu⟩
  · exact absurd rfl hM
  have hM1 : 1 ≤ M.length := by cases M with | nil => exact absurd rfl hM | cons => simp
  rcases hv with ⟨rfl, rfl⟩ | ⟨b1, o1, c1, rfl, hc1, hb1, hv⟩
  · refine (Tryz.bytes_Index_nil (some ⟨b2, o2, none⟩) M.length c2 w (by omega) (fun h1 => ?_)).mono ?_
    · have h0 : M[0]? = some M[0] := List.getElem?_eq_getElem (by omega)
      exact ⟨b2, o2, _, rfl, hu 0 _ h0⟩
    · rintro e w' ⟨rfl, rfl⟩
      rw [if_neg (by omega), index_nil M hM]
      exact ⟨rfl, nwr _⟩
  · refine (Tryz.bytes_Index_at ⟨b1, o1, none⟩ ⟨b2, o2, none⟩ X.length c1 M.length c2 (ints X) (ints M) m w (ints_len X) (ints_len M) (ints_rg X) (ints_rg M) (ints_cells hv) (ints_cells hu) hc1 (by omega) (by omega) hm).mono ?_
    rintro e w' ⟨rfl, q, rfl⟩
    rw [ints_of, ints_of]
    exact ⟨rfl, (nwr w).drewN q⟩
theorem conv_str (s : ByteArray) (hs : s.size ≤ 1000) (w : World) : ∃ w1 c, (convert 9 92 (.string s)).run Tryz.prog w = .ok (.slice (some ⟨w.heap.size, 0, none⟩) s.size c) w1 ∧ Byl w1 (.slice (some ⟨w.heap.size, 0, none⟩) s.size c) s.data.toList ∧ Nw w w1 ∧ w1.heap.size = w.heap.size + 1 := by
  have h := run_bytes_of_string (P := Tryz.prog) w 9 92 5 s Tryz.underlying9 Tryz.underlying92 Tryz.underlying5
  have hg1 := grownCap_ge w s.size 0 5
  have hg2 := grownCap_le_maxLen w s.size 0 5 (by unfold maxLen; omega)
  unfold maxLen at hg2
  refine ⟨_, _, h, .inr ⟨w.heap.size, 0, _, by rw [bytes_len], by rw [bytes_len]; exact hg1, ⟨by rw [bytes_len]; omega, by omega⟩, fun i x hx => ?_⟩, (Fr.refl _ _).drew.alloc _, by simp⟩
  have hb := heap_new w.drew (.cells (bytesRow s (grownCap w s.size 0 5)) 5 ((bytesRow s (grownCap w s.size 0 5)).size, (bytesRow s (grownCap w s.size 0 5)).size + 1))
  have hi := (List.getElem?_eq_some_iff.1 hx).1
  rw [Array.length_toList] at hi
  have hc := cell_of hb i
  rw [bytesRow_at s _ i hi] at hc
  rw [Nat.zero_add]
  refine hc.trans ?_
  have := (List.getElem?_eq_some_iff.1 hx).2
  rw [Array.getElem_toList] at this
  rw [this]
/-- What stands ahead of a mark, what behind it, and whether it is there. -/
def cutA (X M : List UInt8) : List UInt8 := if Lib.index X M < 0 then X else X.take (Lib.index X M).toNat
def cutB (X M : List UInt8) : List UInt8 := if Lib.index X M < 0 then [] else X.drop ((Lib.index X M).toNat + M.length)
theorem index_in (X M : List UInt8) (h : 0 ≤ Lib.index X M) : (Lib.index X M).toNat + M.length ≤ X.length := by
  have := Lib.index_room X M h
  omega
theorem Byl.take {w : World} {b o n : Nat} {X : List UInt8} (h : ∀ i x, X[i]? = some x → w.cell? ⟨b, o + i, none⟩ = some (.int .u8 (x.toNat : Int))) (hn : n ≤ X.length) (hX : X.length ≤ 1000000) : Byl w (.slice (some ⟨b, o, none⟩) n n) (X.take n) := by
  refine .inr ⟨b, o, n, by rw [List.length_take, Nat.min_eq_left hn], by rw [List.length_take]; omega, ⟨by rw [List.length_take]; omega, by omega⟩, fun i x hx => ?_⟩
  rw [List.getElem?_take] at hx
  split at hx
  · exact h i x hx
  · cases hx
set_option maxRecDepth 100000 in
set_option maxHeartbeats 1000000 in
theorem cut_any (X : List UInt8) (m : ByteArray) (hm0 : 1 ≤ m.size) (hm3 : m.size ≤ 3) (v : Value) (w w0 : World) (hv : Byl w0 v X) (h0 : Nw w0 w) (hM : MaxL w) :
    Calls Tryz.prog 130 #[v, .string m] w fun e w' => ∃ v1 v2, e = .returned (.tuple #[v1, v2, .bool (decide (0 ≤ Lib.index X m.data.toList))]) ∧ Byl w0 v1 (cutA X m.data.toList) ∧ Byl w0 v2 (cutB X m.data.toList) ∧ Nw w w' := by
  obtain ⟨w1, c1, hcv, hB1, n1, _⟩ := conv_str m (by omega) w
  have hne : m.data.toList ≠ [] := fun e => by have := bytes_len m; rw [e] at this; simp at this; omega
  have q := bidx X m.data.toList hne v _ w1 (hv.nw (h0.tr n1)) hB1 (hM.nw n1)
  have HV : Hid (Byl w0 v X) := hv
  obtain ⟨i, hi⟩ : ∃ i, i = Lib.index X m.data.toList := ⟨_, rfl⟩
  have HI : Hid (Lib.index X m.data.toList = i) := hi.symm
  have hge := Lib.index_ge X m.data.toList
  rw [← hi] at q hge
  obtain ⟨p, cc, hvf⟩ := hv.form
  clear hv hi hne hB1 hM h0
  by_cases hneg : i < 0
  · subst hvf
    go_enter Tryz.func130, Tryz.ntmps130
    go_wp2_with fail
    refine q.mono ?_
    rintro e w2 ⟨rfl, n2⟩
    have N2 : Hid (Nw w w2) := n1.tr n2
    clear n1 n2 hcv q
    have hdi : decide (i < 0) = true := decide_eq_true hneg
    go_wp2
    refine bodyPost_ret (v := .tuple #[.slice p X.length cc, .slice none 0 0, .bool false]) (by simp [results, Tryz.results130, go_sem]) rfl ⟨_, _, by rw [HI.out, decide_eq_false (show ¬ (0 : Int) ≤ i by omega)], ?_, ?_, N2.out⟩
    · unfold cutA; rw [if_pos (by rw [HI.out]; exact hneg)]; exact HV.out
    · unfold cutB; rw [if_pos (by rw [HI.out]; exact hneg)]; exact .inl ⟨rfl, rfl⟩
  · obtain ⟨k, rfl⟩ : ∃ k : Nat, i = (k : Int) := ⟨i.toNat, by omega⟩
    have hroom := index_in X m.data.toList (by rw [HI.out]; omega)
    rw [HI.out, Int.toNat_natCast, bytes_len] at hroom
    obtain ⟨n, hn⟩ : ∃ n, n = X.length := ⟨_, rfl⟩
    rcases HV.out with ⟨rfl, _⟩ | ⟨b, o, c, rfl, hc, ⟨hX, hcm⟩, hcells⟩
    · rw [List.length_nil] at hroom; omega
    have HC : Hid (∀ i x, X[i]? = some x → w0.cell? ⟨b, o + i, none⟩ = some (.int .u8 (x.toNat : Int))) := hcells
    obtain ⟨z, hz⟩ : ∃ z, z = m.size := ⟨_, rfl⟩
    have HZ : Hid (m.size = z) := hz.symm
    have hzi : (m.size : Int) = (z : Int) := by rw [hz]
    have HN : Hid (X.length = n) := hn.symm
    rw [← hn] at q hroom hX hc ⊢
    rw [← hz] at hroom hm0 hm3
    clear hcells hvf hneg hge hn hz
    have hkn : (k : Int) ≤ (n : Int) := by omega
    have hkz : (k : Int) + (z : Int) ≤ (n : Int) := by omega
    have hd : decide ((k : Int) < 0) = false := decide_eq_false (by omega)
    go_enter Tryz.func130, Tryz.ntmps130
    go_wp2_with fail
    refine q.mono ?_
    rintro e w2 ⟨rfl, n2⟩
    have N2 : Hid (Nw w w2) := n1.tr n2
    clear n1 n2 hcv q
    go_wp2_with fail
    by_cases hck : c = k + z
    · go_quiet (fail)
      go_wp2
      refine bodyPost_ret (v := .tuple #[.slice (some ⟨b, o, none⟩) k k, .slice (some ⟨b, o, none⟩) (n - (k + z)) 0, .bool true]) (by simp [results, Tryz.results130, go_sem]) rfl ⟨_, _, by rw [HI.out, decide_eq_true (show (0 : Int) ≤ (k : Int) by omega)], ?_, ?_, N2.out.drewN nq⟩
      · unfold cutA; rw [if_neg (by rw [HI.out]; omega), HI.out, Int.toNat_natCast]
        exact Byl.take HC.out (by rw [HN.out]; omega) (by rw [HN.out]; exact hX)
      · have e0 : X.drop (k + z) = [] := List.drop_of_length_le (by rw [HN.out]; omega)
        unfold cutB; rw [if_neg (by rw [HI.out]; omega), HI.out, Int.toNat_natCast, bytes_len, HZ.out, e0]
        exact .inr ⟨b, o, 0, by rw [List.length_nil, show n - (k + z) = 0 by omega], by simp, ⟨by simp, by omega⟩, fun i x hx => by simp at hx⟩
    · go_quiet (fail)
      go_wp2
      refine bodyPost_ret (v := .tuple #[.slice (some ⟨b, o, none⟩) k k, .slice (some ⟨b, o + (k + z), none⟩) (n - (k + z)) (c - (k + z)), .bool true]) (by simp [results, Tryz.results130, go_sem]) rfl ⟨_, _, by rw [HI.out, decide_eq_true (show (0 : Int) ≤ (k : Int) by omega)], ?_, ?_, N2.out.drewN nq⟩
      · unfold cutA; rw [if_neg (by rw [HI.out]; omega), HI.out, Int.toNat_natCast]
        exact Byl.take HC.out (by rw [HN.out]; omega) (by rw [HN.out]; exact hX)
      · unfold cutB; rw [if_neg (by rw [HI.out]; omega), HI.out, Int.toNat_natCast, bytes_len, HZ.out]
        refine .inr ⟨b, o + (k + z), c - (k + z), by rw [List.length_drop, HN.out], by rw [List.length_drop, HN.out]; omega, ⟨by rw [List.length_drop, HN.out]; omega, by omega⟩, fun i x hx => ?_⟩
        rw [List.getElem?_drop] at hx
        have := HC.out (k + z + i) x hx
        rwa [← Nat.add_assoc] at this
end Go.Proofs.YtgobdjdaehlgdaaGreatDoor
