/- What Path, Proof and Batch answer, in one form; stretches of the law's package. -/
import Derived.Test.YthkkjpefealdgaaDoorG2
namespace Go.Proofs.YthkkjpefealdgaaDoor
open Go.RowKit
set_option linter.unusedVariables false
set_option linter.unusedSimpArgs false

/-- Nil, or ErrRange. -/
def ev (a : Nat → Addr) (ok : Bool) : Value := if ok then .nilIface else sen (a 4)
theorem ev_t (a : Nat → Addr) : ev a true = .nilIface := rfl
theorem ev_f (a : Nat → Addr) : ev a false = sen (a 4) := rfl
theorem map32 (L : List ByteArray) (T : List (Nat × Nat)) : ∀ x ∈ T.map (hst L), x.length = 32 := by
  intro x hx
  obtain ⟨t, _, rfl⟩ := List.mem_map.1 hx
  exact hst_len L t
theorem hst_app {L M : List ByteArray} {t : Nat × Nat} (h : t.2 ≤ L.length) : hst (L ++ M) t = hst L t := by unfold hst; rw [sbl_app h]
theorem Spn.nil (w : World) : Spn w (.slice none 0 0) [] := ⟨none, 0, rfl, fun k t ht => by simp at ht⟩

/-- The stretches of Path. -/
def TP (L : List ByteArray) (i n : Nat) : List (Nat × Nat) := if (i < n) ∧ n ≤ L.length then pth i 0 n else []
theorem TP_fit (L : List ByteArray) (i n : Nat) : ∀ t ∈ TP L i n, t.1 ≤ t.2 ∧ t.2 ≤ n ∧ t.2 ≤ L.length := by
  intro t ht
  unfold TP at ht
  split at ht
  · rename_i hc
    obtain ⟨hc, hz⟩ := hc
    have := pth_fit n i 0 n (by omega) (by omega) t ht
    omega
  · cases ht
theorem TP_len {L : List ByteArray} (hL : L.length ≤ 1048576) (i n : Nat) : (TP L i n).length ≤ 200 := by
  unfold TP
  split
  · rename_i hc
    obtain ⟨hc, hz⟩ := hc
    have := pth_len 63 i 0 n (by rw [p63]; omega); omega
  · simp
theorem Path_c {w : World} {b base : Nat} {v : Value} {L : List ByteArray} (h : Lg w b base v L) (i n : Nat) (hi : i < 18446744073709551616) (hn : n < 18446744073709551616) (hL : Laid w) {B : Nat} {a : Nat → Addr} (hS : Sent B w a) :
    Calls Tryd.prog 18 #[.pointer (some ⟨b, 0, none⟩), .int .u64 (i : Int), .int .u64 (n : Int)] w fun e w' => ∃ v, e = .returned (.tuple #[v, ev a (decide ((i < n) ∧ n ≤ L.length))]) ∧ Hss w' v ((TP L i n).map (hst L)) ∧ Nw w w' := by
  refine (Path_any h i n hi hn hL hS).mono ?_
  intro e w' he
  unfold TP
  by_cases hc : (i < n) ∧ n ≤ L.length
  · rw [if_pos hc] at he
    obtain ⟨u, rfl, ho, hn⟩ := he
    refine ⟨u, by rw [decide_eq_true hc, ev_t], ?_, hn⟩
    rw [if_pos hc]
    exact Hss.of (map32 _ _) (by rw [List.length_map]; exact ho)
  · rw [if_neg hc] at he
    obtain ⟨rfl, hn⟩ := he
    refine ⟨_, by rw [decide_eq_false hc, ev_f], ?_, hn⟩
    rw [if_neg hc]
    exact Hss.nil w'
theorem sPath_c (L : List ByteArray) (hLl : L.length ≤ 1048576) (i n : Nat) (hi : i < 18446744073709551616) (hn : n < 18446744073709551616) (hz : n ≤ L.length) (w : World) {B : Nat} {a : Nat → Addr} (hS : Sent B w a) :
    Calls Tryd.prog 21 #[.int .u64 (i : Int), .int .u64 (n : Int)] w fun e w' => ∃ v, e = .returned (.tuple #[v, ev a (decide ((i < n) ∧ n ≤ L.length))]) ∧ Spn w' v (TP L i n) ∧ Nw w w' := by
  unfold TP
  by_cases hc : i < n
  · have hd : (i < n) ∧ n ≤ L.length := ⟨hc, hz⟩
    refine (path_yes i n hc (by omega) w).mono ?_
    rintro e w' ⟨u, rfl, ho, hn⟩
    refine ⟨u, by rw [decide_eq_true hd, ev_t], ?_, hn⟩
    rw [if_pos hd]
    exact Spn.of ho
  · have hd : ¬ ((i < n) ∧ n ≤ L.length) := fun q => hc q.1
    refine (path_no i n (by omega) hi hn w hS).mono ?_
    rintro e w' ⟨rfl, hn⟩
    refine ⟨_, by rw [decide_eq_false hd, ev_f], ?_, hn⟩
    rw [if_neg hd]
    exact Spn.nil w'

/-- The stretches of Proof. -/
def TR (L : List ByteArray) (i n : Nat) : List (Nat × Nat) := if (0 < i ∧ i ≤ n) ∧ n ≤ L.length then prf i 0 n true else []
theorem TR_fit (L : List ByteArray) (i n : Nat) : ∀ t ∈ TR L i n, t.1 ≤ t.2 ∧ t.2 ≤ n ∧ t.2 ≤ L.length := by
  intro t ht
  unfold TR at ht
  split at ht
  · rename_i hc
    obtain ⟨hc, hz⟩ := hc
    have := prf_fit n i 0 n true (by omega) (by omega) hc.1 hc.2 t ht
    omega
  · cases ht
theorem TR_len {L : List ByteArray} (hL : L.length ≤ 1048576) (i n : Nat) : (TR L i n).length ≤ 200 := by
  unfold TR
  split
  · rename_i hc
    obtain ⟨hc, hz⟩ := hc
    have := prf_len 63 i 0 n true (by rw [p63]; omega) hc.1 hc.2; omega
  · simp
theorem Proof_c {w : World} {b base : Nat} {v : Value} {L : List ByteArray} (h : Lg w b base v L) (i n : Nat) (hi : i < 18446744073709551616) (hn : n < 18446744073709551616) (hL : Laid w) {B : Nat} {a : Nat → Addr} (hS : Sent B w a) :
    Calls Tryd.prog 19 #[.pointer (some ⟨b, 0, none⟩), .int .u64 (i : Int), .int .u64 (n : Int)] w fun e w' => ∃ v, e = .returned (.tuple #[v, ev a (decide ((0 < i ∧ i ≤ n) ∧ n ≤ L.length))]) ∧ Hss w' v ((TR L i n).map (hst L)) ∧ Nw w w' := by
  refine (Proof_any h i n hi hn hL hS).mono ?_
  intro e w' he
  unfold TR
  by_cases hc : (0 < i ∧ i ≤ n) ∧ n ≤ L.length
  · rw [if_pos hc] at he
    obtain ⟨u, rfl, ho, hn⟩ := he
    refine ⟨u, by rw [decide_eq_true hc, ev_t], ?_, hn⟩
    rw [if_pos hc]
    exact Hss.of (map32 _ _) (by rw [List.length_map]; exact ho)
  · rw [if_neg hc] at he
    obtain ⟨rfl, hn⟩ := he
    refine ⟨_, by rw [decide_eq_false hc, ev_f], ?_, hn⟩
    rw [if_neg hc]
    exact Hss.nil w'
theorem sProof_c (L : List ByteArray) (hLl : L.length ≤ 1048576) (i n : Nat) (hi : i < 18446744073709551616) (hn : n < 18446744073709551616) (hz : n ≤ L.length) (w : World) {B : Nat} {a : Nat → Addr} (hS : Sent B w a) :
    Calls Tryd.prog 22 #[.int .u64 (i : Int), .int .u64 (n : Int)] w fun e w' => ∃ v, e = .returned (.tuple #[v, ev a (decide ((0 < i ∧ i ≤ n) ∧ n ≤ L.length))]) ∧ Spn w' v (TR L i n) ∧ Nw w w' := by
  unfold TR
  by_cases hc : 0 < i ∧ i ≤ n
  · have hd : (0 < i ∧ i ≤ n) ∧ n ≤ L.length := ⟨hc, hz⟩
    refine (proof_yes i n hc.1 hc.2 (by omega) w).mono ?_
    rintro e w' ⟨u, rfl, ho, hn⟩
    refine ⟨u, by rw [decide_eq_true hd, ev_t], ?_, hn⟩
    rw [if_pos hd]
    exact Spn.of ho
  · have hd : ¬ ((0 < i ∧ i ≤ n) ∧ n ≤ L.length) := fun q => hc q.1
    refine (proof_no i n (by omega) hi hn w hS).mono ?_
    rintro e w' ⟨rfl, hn⟩
    refine ⟨_, by rw [decide_eq_false hd, ev_f], ?_, hn⟩
    rw [if_neg hd]
    exact Spn.nil w'

/-- The stretches of Batch. -/
def TB (L : List ByteArray) (x y n : Nat) : List (Nat × Nat) := if (x < y ∧ y ≤ n) ∧ n ≤ L.length then bat x y 0 n else []
theorem TB_fit (L : List ByteArray) (x y n : Nat) : ∀ t ∈ TB L x y n, t.1 ≤ t.2 ∧ t.2 ≤ n ∧ t.2 ≤ L.length := by
  intro t ht
  unfold TB at ht
  split at ht
  · rename_i hc
    obtain ⟨hc, hz⟩ := hc
    have := bat_fit n x y 0 n (by omega) (by omega) t ht
    omega
  · cases ht
theorem TB_len {L : List ByteArray} (hL : L.length ≤ 1048576) (x y n : Nat) : (TB L x y n).length ≤ 200 := by
  unfold TB
  split
  · rename_i hc
    obtain ⟨hc, hz⟩ := hc
    have := bat_len 63 x y 0 n (by rw [p63]; omega); omega
  · simp
theorem Batch_c {w : World} {b base : Nat} {v : Value} {L : List ByteArray} (h : Lg w b base v L) (x y n : Nat) (hx : x < 18446744073709551616) (hy : y < 18446744073709551616) (hn : n < 18446744073709551616) (hL : Laid w) {B : Nat} {a : Nat → Addr} (hS : Sent B w a) :
    Calls Tryd.prog 20 #[.pointer (some ⟨b, 0, none⟩), .int .u64 (x : Int), .int .u64 (y : Int), .int .u64 (n : Int)] w fun e w' => ∃ v, e = .returned (.tuple #[v, ev a (decide ((x < y ∧ y ≤ n) ∧ n ≤ L.length))]) ∧ Hss w' v ((TB L x y n).map (hst L)) ∧ Nw w w' := by
  refine (Batch_any h x y n hx hy hn hL hS).mono ?_
  intro e w' he
  unfold TB
  by_cases hc : (x < y ∧ y ≤ n) ∧ n ≤ L.length
  · rw [if_pos hc] at he
    obtain ⟨u, rfl, ho, hn⟩ := he
    refine ⟨u, by rw [decide_eq_true hc, ev_t], ?_, hn⟩
    rw [if_pos hc]
    exact Hss.of (map32 _ _) (by rw [List.length_map]; exact ho)
  · rw [if_neg hc] at he
    obtain ⟨rfl, hn⟩ := he
    refine ⟨_, by rw [decide_eq_false hc, ev_f], ?_, hn⟩
    rw [if_neg hc]
    exact Hss.nil w'
theorem sBatch_c (L : List ByteArray) (hLl : L.length ≤ 1048576) (x y n : Nat) (hx : x < 18446744073709551616) (hy : y < 18446744073709551616) (hn : n < 18446744073709551616) (hz : n ≤ L.length) (w : World) {B : Nat} {a : Nat → Addr} (hS : Sent B w a) :
    Calls Tryd.prog 23 #[.int .u64 (x : Int), .int .u64 (y : Int), .int .u64 (n : Int)] w fun e w' => ∃ v, e = .returned (.tuple #[v, ev a (decide ((x < y ∧ y ≤ n) ∧ n ≤ L.length))]) ∧ Spn w' v (TB L x y n) ∧ Nw w w' := by
  unfold TB
  by_cases hc : x < y ∧ y ≤ n
  · have hd : (x < y ∧ y ≤ n) ∧ n ≤ L.length := ⟨hc, hz⟩
    refine (batch_yes x y n hc.1 hc.2 (by omega) w).mono ?_
    rintro e w' ⟨u, rfl, ho, hn⟩
    refine ⟨u, by rw [decide_eq_true hd, ev_t], ?_, hn⟩
    rw [if_pos hd]
    exact Spn.of ho
  · have hd : ¬ ((x < y ∧ y ≤ n) ∧ n ≤ L.length) := fun q => hc q.1
    refine (batch_no x y n (by omega) hx hy hn w hS).mono ?_
    rintro e w' ⟨rfl, hn⟩
    refine ⟨_, by rw [decide_eq_false hd, ev_f], ?_, hn⟩
    rw [if_neg hd]
    exact Spn.nil w'

set_option maxRecDepth 100000 in
set_option maxHeartbeats 2000000 in
theorem stretches_yes {w : World} {b base : Nat} {v : Value} {L : List ByteArray} (h : Lg w b base v L) (T : List (Nat × Nat)) (hT : ∀ t ∈ T, t.1 ≤ t.2 ∧ t.2 ≤ L.length) (hTl : T.length ≤ 200) (pv sv : Value) (hp : Hss w pv (T.map (hst L))) (hs : Spn w sv T) (hL : Laid w) {B : Nat} {a : Nat → Addr} (hS : Sent B w a) :
    Calls Tryd.prog 24 #[.pointer (some ⟨b, 0, none⟩), pv, sv] w fun e w' => e = .returned (.bool true) ∧ Nw w w' := by
  obtain ⟨ad, ca, rfl, hp⟩ := hp
  obtain ⟨bd, cb, rfl, hs⟩ := hs
  have HP : Hid (∀ k h, (T.map (hst L))[k]? = some h → ∃ g off, ad = some ⟨g, off, none⟩ ∧ ∀ j, j < 32 → w.cell? ⟨g, off + k * 32 + j, none⟩ = (hbs h)[j]?) := hp
  have HV : Hid (∀ k t, T[k]? = some t → ∃ g off, bd = some ⟨g, off, none⟩ ∧ g < w.heap.size ∧ w.cell? ⟨g, off + k * 2, none⟩ = some (.int .u64 (t.1 : Int)) ∧ w.cell? ⟨g, off + k * 2 + 1, none⟩ = some (.int .u64 (t.2 : Int))) := hs
  have QT : Hid (∀ W x y, Nw w W → (x, y) ∈ T → Calls Tryd.prog 10 #[.pointer (some ⟨b, 0, none⟩), sp x y] W fun e w' => e = .returned (.tuple #[.agg (hbs (mth (sbl L x y))), .nilIface]) ∧ Nw W w') := fun W x y hW hm => Tree_yes (h.nw hW) x y (hT _ hm).1 (hT _ hm).2 (hL.nw hW) (hS.fr hW (fun _ _ f => f))
  clear h hL hS hT hp hs
  rw [List.length_map]
  obtain ⟨n, hn⟩ : ∃ n, n = T.length := ⟨_, rfl⟩
  have HN : Hid (n = T.length) := hn
  rw [← hn] at hTl ⊢
  clear hn
  go_enter Tryd.func24, Tryd.ntmps24
  go_wp2_with fail
  go_loopw [7] (fun i wr => ∃ k : Nat, k ≤ n ∧ i = .int .i64 k ∧ Nw w wr) (fun i _ => n - (intOf i).toNat)
  case atStart => exact ⟨0, by omega, rfl, nwr w⟩
  case round =>
    obtain ⟨k, hk, rfl, hnw⟩ := hrel
    have HW : Hid (Nw w wr) := hnw
    clear hnw
    by_cases hlt : k < n
    · obtain ⟨t, ht⟩ : ∃ t, T[k]? = some t := ⟨_, List.getElem?_eq_getElem (by rw [← HN.out]; exact hlt)⟩
      obtain ⟨g, off, had, g1⟩ := HP.out k (hst L t) (by rw [List.getElem?_map, ht]; rfl)
      obtain ⟨p, off2, hbd, p0, p1, p2⟩ := HV.out k t ht
      subst had hbd
      have htm := List.mem_of_getElem? ht
      have t32 := hst_len L t
      have p1' := HW.out.cellOf p1
      have p2' := HW.out.cellOf p2
      have pl : p < wr.heap.size := Nat.lt_of_lt_of_le p0 HW.out.size
      obtain ⟨x, y⟩ := t
      have QR : Hid (∀ W, Nw w W → Calls Tryd.prog 10 #[.pointer (some ⟨b, 0, none⟩), sp x y] W fun e w' => e = .returned (.tuple #[.agg (hbs (hst L (x, y))), .nilIface]) ∧ Nw W w') := fun W hW => QT.out W x y hW htm
      obtain ⟨R, hR⟩ : ∃ R, R = hst L (x, y) := ⟨_, rfl⟩
      rw [← hR] at QR g1 t32
      have hRs : (hbs R).size = 32 := by rw [hbs_size, t32]
      have R32 : Hid (R.length = 32) := t32
      have G1 : Hid (∀ j, j < 32 → wr.cell? ⟨g, off + k * 32 + j, none⟩ = (hbs R)[j]?) := fun j hj => by
        have h2 := g1 j hj
        rw [hbs_get R j (by omega)] at h2 ⊢
        exact HW.out.cellOf h2
      have hki : (k : Int) < (n : Int) := by omega
      clear hR g1 ht htm t32 p1 p2
      go_wp2_with fail
      refine (QR.out _ HW.out).mono ?_
      rintro e w2 ⟨rfl, n2⟩
      have N2 : Hid (Nw wr w2) := n2
      clear n2
      go_wp2_with (refine wp_store_agg rfl (.tmp 8) (.tmp 28) 32 32 rfl Tryd.sizeOf32 w2.heap.size 0 rfl _ 32 (heap_new _ _) (hbs R) rfl hRs (hbs_one _) (by decide) (hbs R) (by simp) ?_; intro w3 j3 f3 _; have N3 : Hid (Nw wr w3) := (N2.out.alloc _).trans f3 (fun k hk q => by have := N2.out.size; omega); have J3 : Hid (w3.heap[w2.heap.size]? = some (.cells (hbs R) 32 (0, 0))) := j3; have G3 : Hid (∀ j, j < 32 → w3.cell? ⟨g, off + k * 32 + j, none⟩ = (hbs R)[j]?) := (fun j hj => (by have h2 := G1.out j hj; rw [hbs_get R j (by have := R32.out; omega)] at h2 ⊢; exact N3.out.cellOf h2)); clear j3 f3)
      (refine wp_region_grown (by kernel_rfl) (by kernel_rfl) ?_; (repeat (first | go_big_quiet_skip | (go_big_quiet_want; first | (refine quiet_load (.tmp 8) rfl w2.heap.size 0 rfl R R32.out (hash_cells J3.out) ?_; ((try simp only [Act.put, List.setIfInBounds_toArray, List.set_cons_zero, List.set_cons_succ]); go_big_quiet_on)) | (refine quiet_load (.tmp 36) rfl g (off + k * 32) rfl R R32.out G3.out ?_; ((try simp only [Act.put, List.setIfInBounds_toArray, List.set_cons_zero, List.set_cons_succ]); go_big_quiet_on)) | (refine quiet_neq (.tmp 33) (.tmp 37) rfl R R32.out rfl rfl ?_; ((try simp only [Act.put, List.setIfInBounds_toArray, List.set_cons_zero, List.set_cons_succ]); go_big_quiet_on)) | (go_big_quiet_op; first | go_big_quiet_on | go_big_quiet_call (first | rfl))))); refine wpQuiet_nil ?_; rintro _ ⟨⟨W, nW⟩, rfl⟩)
      go_wp2
      exact ⟨⟨k + 1, by omega, by go_num, (HW.out.tr N3.out).tr nW⟩, by simp [intOf]; omega⟩
    · obtain rfl : k = n := by omega
      go_wp2
      go_ret
      exact ⟨rfl, HW.out⟩
end Go.Proofs.YthkkjpefealdgaaDoor
