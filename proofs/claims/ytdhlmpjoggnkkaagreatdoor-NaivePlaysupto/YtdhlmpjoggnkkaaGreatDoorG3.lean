/- What Path, Proof and Batch answer, in one form; stretches of the law's package. -/
import Derived.Test.YtdhlmpjoggnkkaaGreatDoorG2
namespace Go.Proofs.YtdhlmpjoggnkkaaGreatDoor
open Go.RowKit
set_option linter.unusedVariables false
set_option linter.unusedSimpArgs false

/-- Nil, or ErrRange. -/
def ev (a : Nat → Addr) (ok : Bool) : Value := if ok then .nilIface else sen (a 4)
theorem ev_t (a : Nat → Addr) : ev a true = .nilIface := rfl
theorem ev_f (a : Nat → Addr) : ev a false = sen (a 4) := rfl
theorem map32 (L : List ByteArray) (T : List (Nat × Nat)) : ∀ x ∈ T.map (hst L), x.length = 32 := by
  intro x hx
  obtain ⟨t, _, rfl⟩ := List.mem_map.1 hx
  exact hst_len L t
theorem hst_app {L M : List ByteArray} {t : Nat × Nat} (h : t.2 ≤ L.length) : hst (L ++ M) t = hst L t := by unfold hst; rw [sbl_app h]
theorem Spn.nil (w : World) : Spn w (.slice none 0 0) [] := ⟨none, 0, rfl, fun k t ht => by simp at ht⟩

/-- The stretches of Path. -/
def TP (L : List ByteArray) (i n : Nat) : List (Nat × Nat) := if (i < n) ∧ n ≤ L.length then pth i 0 n else []
theorem TP_fit (L : List ByteArray) (i n : Nat) : ∀ t ∈ TP L i n, t.1 ≤ t.2 ∧ t.2 ≤ n ∧ t.2 ≤ L.length := by
  intro t ht
  unfold TP at ht
  split at ht
  · rename_i hc
    obtain ⟨hc, hz⟩ := hc
    have := pth_fit n i 0 n (by omega) (by omega) t ht
    omega
  · cases ht
theorem TP_len {L : List ByteArray} (hL : L.length ≤ 1048576) (i n : Nat) : (TP L i n).length ≤ 200 := by
  unfold TP
  split
  · rename_i hc
    obtain ⟨hc, hz⟩ := hc
    have := pth_len 63 i 0 n (by rw [p63]; omega); omega
  · simp
theorem Path_c {w : World} {b base : Nat} {v : Value} {L : List ByteArray} (h : Lg w b base v L) (i n : Nat) (hi : i < 18446744073709551616) (hn : n < 18446744073709551616) (hL : Laid w) {B : Nat} {a : Nat → Addr} (hS : Sent B w a) :
    Calls Tryz.prog 35 #[.pointer (some ⟨b, 0, none⟩), .int .u64 (i : Int), .int .u64 (n : Int)] w fun e w' => ∃ v, e = .returned (.tuple #[v, ev a (decide ((i < n) ∧ n ≤ L.length))]) ∧ Hss w' v ((TP L i n).map (hst L)) ∧ Nw w w' := by
  refine (Path_any h i n hi hn hL hS).mono ?_
  intro e w' he
  unfold TP
  by_cases hc : (i < n) ∧ n ≤ L.length
  · rw [if_pos hc] at he
    obtain ⟨u, rfl, ho, hn⟩ := he
    refine ⟨u, by rw [decide_eq_true hc, ev_t], ?_, hn⟩
    rw [if_pos hc]
    exact Hss.of (map32 _ _) (by rw [List.length_map]; exact ho)
  · rw [if_neg hc] at he
    obtain ⟨rfl, hn⟩ := he
    refine ⟨_, by rw [decide_eq_false hc, ev_f], ?_, hn⟩
    rw [if_neg hc]
    exact Hss.nil w'
theorem sPath_c (L : List ByteArray) (hLl : L.length ≤ 1048576) (i n : Nat) (hi : i < 18446744073709551616) (hn : n < 18446744073709551616) (hz : n ≤ L.length) (w : World) {B : Nat} {a : Nat → Addr} (hS : Sent B w a) :
    Calls Tryz.prog 124 #[.int .u64 (i : Int), .int .u64 (n : Int)] w fun e w' => ∃ v, e = .returned (.tuple #[v, ev a (decide ((i < n) ∧ n ≤ L.length))]) ∧ Spn w' v (TP L i n) ∧ Nw w w' := by
  unfold TP
  by_cases hc : i < n
  · have hd : (i < n) ∧ n ≤ L.length := ⟨hc, hz⟩
    refine (path_yes i n hc (by omega) w).mono ?_
    rintro e w' ⟨u, rfl, ho, hn⟩
    refine ⟨u, by rw [decide_eq_true hd, ev_t], ?_, hn⟩
    rw [if_pos hd]
    exact Spn.of ho
  · have hd : ¬ ((i < n) ∧ n ≤ L.length) := fun q => hc q.1
    refine (path_no i n (by omega) hi hn w hS).mono ?_
    rintro e w' ⟨rfl, hn⟩
    refine ⟨_, by rw [decide_eq_false hd, ev_f], ?_, hn⟩
    rw [if_neg hd]
    exact Spn.nil w'

/-- The stretches of Proof. -/
def TR (L : List ByteArray) (i n : Nat) : List (Nat × Nat) := if (0 < i ∧ i ≤ n) ∧ n ≤ L.length then prf i 0 n true else []
theorem TR_fit (L : List ByteArray) (i n : Nat) : ∀ t ∈ TR L i n, t.1 ≤ t.2 ∧ t.2 ≤ n ∧ t.2 ≤ L.length := by
  intro t ht
  unfold TR at ht
  split at ht
  · rename_i hc
    obtain ⟨hc, hz⟩ := hc
    have := prf_fit n i 0 n true (by omega) (by omega) hc.1 hc.2 t ht
    omega
  · cases ht
theorem TR_len {L : List ByteArray} (hL : L.length ≤ 1048576) (i n : Nat) : (TR L i n).length ≤ 200 := by
  unfold TR
  split
  · rename_i hc
    obtain ⟨hc, hz⟩ := hc
    have := prf_len 63 i 0 n true (by rw [p63]; omega) hc.1 hc.2; omega
  · simp
theorem Proof_c {w : World} {b base : Nat} {v : Value} {L : List ByteArray} (h : Lg w b base v L) (i n : Nat) (hi : i < 18446744073709551616) (hn : n < 18446744073709551616) (hL : Laid w) {B : Nat} {a : Nat → Addr} (hS : Sent B w a) :
    Calls Tryz.prog 36 #[.pointer (some ⟨b, 0, none⟩), .int .u64 (i : Int), .int .u64 (n : Int)] w fun e w' => ∃ v, e = .returned (.tuple #[v, ev a (decide ((0 < i ∧ i ≤ n) ∧ n ≤ L.length))]) ∧ Hss w' v ((TR L i n).map (hst L)) ∧ Nw w w' := by
  refine (Proof_any h i n hi hn hL hS).mono ?_
  intro e w' he
  unfold TR
  by_cases hc : (0 < i ∧ i ≤ n) ∧ n ≤ L.length
  · rw [if_pos hc] at he
    obtain ⟨u, rfl, ho, hn⟩ := he
    refine ⟨u, by rw [decide_eq_true hc, ev_t], ?_, hn⟩
    rw [if_pos hc]
    exact Hss.of (map32 _ _) (by rw [List.length_map]; exact ho)
  · rw [if_neg hc] at he
    obtain ⟨rfl, hn⟩ := he
    refine ⟨_, by rw [decide_eq_false hc, ev_f], ?_, hn⟩
    rw [if_neg hc]
    exact Hss.nil w'
theorem sProof_c (L : List ByteArray) (hLl : L.length ≤ 1048576) (i n : Nat) (hi : i < 18446744073709551616) (hn : n < 18446744073709551616) (hz : n ≤ L.length) (w : World) {B : Nat} {a : Nat → Addr} (hS : Sent B w a) :
    Calls Tryz.prog 125 #[.int .u64 (i : Int), .int .u64 (n : Int)] w fun e w' => ∃ v, e = .returned (.tuple #[v, ev a (decide ((0 < i ∧ i ≤ n) ∧ n ≤ L.length))]) ∧ Spn w' v (TR L i n) ∧ Nw w w' := by
  unfold TR
  by_cases hc : 0 < i ∧ i ≤ n
  · have hd : (0 < i ∧ i ≤ n) ∧ n ≤ L.length := ⟨hc, hz⟩
    refine (proof_yes i n hc.1 hc.2 (by omega) w).mono ?_
    rintro e w' ⟨u, rfl, ho, hn⟩
    refine ⟨u, by rw [decide_eq_true hd, ev_t], ?_, hn⟩
    rw [if_pos hd]
    exact Spn.of ho
  · have hd : ¬ ((0 < i ∧ i ≤ n) ∧ n ≤ L.length) := fun q => hc q.1
    refine (proof_no i n (by omega) hi hn w hS).mono ?_
    rintro e w' ⟨rfl, hn⟩
    refine ⟨_, by rw [decide_eq_false hd, ev_f], ?_, hn⟩
    rw [if_neg hd]
    exact Spn.nil w'

/-- The stretches of Batch. -/
def TB (L : List ByteArray) (x y n : Nat) : List (Nat × Nat) := if (x < y ∧ y ≤ n) ∧ n ≤ L.length then bat x y 0 n else []
theorem TB_fit (L : List ByteArray) (x y n : Nat) : ∀ t ∈ TB L x y n, t.1 ≤ t.2 ∧ t.2 ≤ n ∧ t.2 ≤ L.length := by
  intro t ht
  unfold TB at ht
  split at ht
  · rename_i hc
    obtain ⟨hc, hz⟩ := hc
    have := bat_fit n x y 0 n (by omega) (by omega) t ht
    omega
  · cases ht
theorem TB_len {L : List ByteArray} (hL : L.length ≤ 1048576) (x y n : Nat) : (TB L x y n).length ≤ 200 := by
  unfold TB
  split
  · rename_i hc
    obtain ⟨hc, hz⟩ := hc
    have := bat_len 63 x y 0 n (by rw [p63]; omega); omega
  · simp
theorem Batch_c {w : World} {b base : Nat} {v : Value} {L : List ByteArray} (h : Lg w b base v L) (x y n : Nat) (hx : x < 18446744073709551616) (hy : y < 18446744073709551616) (hn : n < 18446744073709551616) (hL : Laid w) {B : Nat} {a : Nat → Addr} (hS : Sent B w a) :
    Calls Tryz.prog 37 #[.pointer (some ⟨b, 0, none⟩), .int .u64 (x : Int), .int .u64 (y : Int), .int .u64 (n : Int)] w fun e w' => ∃ v, e = .returned (.tuple #[v, ev a (decide ((x < y ∧ y ≤ n) ∧ n ≤ L.length))]) ∧ Hss w' v ((TB L x y n).map (hst L)) ∧ Nw w w' := by
  refine (Batch_any h x y n hx hy hn hL hS).mono ?_
  intro e w' he
  unfold TB
  by_cases hc : (x < y ∧ y ≤ n) ∧ n ≤ L.length
  · rw [if_pos hc] at he
    obtain ⟨u, rfl, ho, hn⟩ := he
    refine ⟨u, by rw [decide_eq_true hc, ev_t], ?_, hn⟩
    rw [if_pos hc]
    exact Hss.of (map32 _ _) (by rw [List.length_map]; exact ho)
  · rw [if_neg hc] at he
    obtain ⟨rfl, hn⟩ := he
    refine ⟨_, by rw [decide_eq_false hc, ev_f], ?_, hn⟩
    rw [if_neg hc]
    exact Hss.nil w'
theorem sBatch_c (L : List ByteArray) (hLl : L.length ≤ 1048576) (x y n : Nat) (hx : x < 18446744073709551616) (hy : y < 18446744073709551616) (hn : n < 18446744073709551616) (hz : n ≤ L.length) (w : World) {B : Nat} {a : Nat → Addr} (hS : Sent B w a) :
    Calls Tryz.prog 126 #[.int .u64 (x : Int), .int .u64 (y : Int), .int .u64 (n : Int)] w fun e w' => ∃ v, e = .returned (.tuple #[v, ev a (decide ((x < y ∧ y ≤ n) ∧ n ≤ L.length))]) ∧ Spn w' v (TB L x y n) ∧ Nw w w' := by
  unfold TB
  by_cases hc : x < y ∧ y ≤ n
  · have hd : (x < y ∧ y ≤ n) ∧ n ≤ L.length := ⟨hc, hz⟩
    refine (batch_yes x y n hc.1 hc.2 (by omega) w).mono ?_
    rintro e w' ⟨u, rfl, ho, hn⟩
    refine ⟨u, by rw [decide_eq_true hd, ev_t], ?_, hn⟩
    rw [if_pos hd]
    exact Spn.of ho
  · have hd : ¬ ((x < y ∧ y ≤ n) ∧ n ≤ L.length) := fun q => hc q.1
    refine (batch_no x y n (by omega) hx hy hn w hS).mono ?_
    rintro e w' ⟨rfl, hn⟩
    refine ⟨_, by rw [decide_eq_false hd, ev_f], ?_, hn⟩
    rw [if_neg hd]
    exact Spn.nil w'

end Go.Proofs.YtdhlmpjoggnkkaaGreatDoor
