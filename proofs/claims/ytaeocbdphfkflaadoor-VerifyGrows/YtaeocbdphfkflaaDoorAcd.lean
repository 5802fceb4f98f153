/- verify: what a path says. -/
import Derived.Test.YtaeocbdphfkflaaDoorAax
import Derived.Test.YtaeocbdphfkflaaDoorGHq
import Derived.Test.YtaeocbdphfkflaaDoorEg
import Derived.Test.YtaeocbdphfkflaaDoorKth
import Derived.Deep.DeepCutAuto
namespace Go.Proofs.YtaeocbdphfkflaaDoor
open Go.RowKit
set_option linter.unusedVariables false
set_option linter.unusedSimpArgs false
theorem hid_of {p : Prop} (h : p) : Hid p := h
/-- What Root answers: a hash, and the error's number (0: none). -/
def rtA (i n : Nat) (x : List UInt8) (L : List (List UInt8)) : List UInt8 × Nat :=
  if 9223372036854775808 < n ∨ n ≤ i then (zh, 5) else if L.length = (sds i n).length then (clm x L (sds i n), 0) else (zh, 10)
/-- An error by its number. -/
def erv (a : Nat → Addr) (c : Nat) : Value := if c = 0 then .nilIface else sen (a (c - 1))
theorem rtA_range {i n : Nat} {x : List UInt8} {L : List (List UInt8)} (h : 9223372036854775808 < n ∨ n ≤ i) : rtA i n x L = (zh, 5) := if_pos h
theorem rtA_yes {i n : Nat} {x : List UInt8} {L : List (List UInt8)} (h : ¬ (9223372036854775808 < n ∨ n ≤ i)) (hl : L.length = (sds i n).length) : rtA i n x L = (clm x L (sds i n), 0) := by rw [rtA, if_neg h, if_pos hl]
theorem rtA_no {i n : Nat} {x : List UInt8} {L : List (List UInt8)} (h : ¬ (9223372036854775808 < n ∨ n ≤ i)) (hl : ¬ L.length = (sds i n).length) : rtA i n x L = (zh, 10) := by rw [rtA, if_neg h, if_neg hl]
theorem rtA_len (i n : Nat) (x : List UInt8) (L : List (List UInt8)) (hx : x.length = 32) : (rtA i n x L).1.length = 32 := by
  unfold rtA
  split
  · simp
  · split
    · exact clm_len _ _ _ hx
    · simp
theorem Sent.nw {B : Nat} {w w' : World} {a : Nat → Addr} (h : Sent B w a) (hf : Nw w w') : Sent B w' a := h.fr hf (fun _ _ f => f)
theorem z32_one : ∀ u ∈ z32.toList, u.oneCell' = true := by decide +kernel
set_option maxRecDepth 100000 in
set_option maxHeartbeats 1000000 in
/-- Root where there is no such leaf. -/
theorem root_range (i n : Nat) (hi : i < 18446744073709551616) (hn : n < 18446744073709551616) (h : 9223372036854775808 < n ∨ n ≤ i) (x : List UInt8) (hx : x.length = 32) (sl : Value) (w : World) {B : Nat} {a : Nat → Addr} (hS : Sent B w a) :
    Calls Tryd.prog 10 #[.int .u64 (i : Int), .int .u64 (n : Int), .agg (hbs x), sl] w fun e w' => e = .returned (.tuple #[.agg (hbs zh), sen (a 4)]) ∧ Nw w w' := by
  rw [show zh = List.replicate 32 0 from rfl, ← z32_hbs]
  obtain ⟨X, hX⟩ : ∃ X, X = hbs x := ⟨_, rfl⟩
  have hXs : X.size = 32 := by rw [hX, hbs_size, hx]
  rw [← hX]
  have HC4 : Hid (w.cell? ⟨0, 0, none⟩ = some (sen (a 4))) := hS.c4
  have hcase : (9223372036854775808 : Int) < (n : Int) ∨ (¬ (9223372036854775808 : Int) < (n : Int) ∧ (n : Int) ≤ (i : Int)) := by omega
  clear hX hx hS h
  go_enter Tryd.func10, Tryd.ntmps10
  go_upto_region 1 with fail
  rw [z32_h]
  have b1 := heap_next w (.cells X 24) (.cells z32 24)
  have b0 : ((w.alloc (.cells X 24)).alloc (.cells z32 24)).heap[w.heap.size]? = some (.cells X 24) := ((nwa (w.alloc (.cells X 24)) _).block _ (heap_lt (heap_new _ _)) (fun f => f)).trans (heap_new _ _)
  have nA : Nw w ((w.alloc (.cells X 24)).alloc (.cells z32 24)) := (nwa w _).alloc _
  obtain ⟨wq, hwq⟩ : ∃ q, (w.alloc (.cells X 24)).alloc (.cells z32 24) = q := ⟨_, rfl⟩
  rw [hwq] at b0 b1 nA ⊢
  clear hwq
  obtain ⟨xb, hxb⟩ : ∃ q, q = w.heap.size := ⟨_, rfl⟩
  rw [← hxb] at b0 b1 ⊢
  obtain ⟨rb, hrb⟩ : ∃ q, q = xb + 1 := ⟨_, rfl⟩
  rw [← hrb] at b1 ⊢
  have HRB : Hid (w.heap.size < rb) := by show _ < _; omega
  have HXB : Hid (xb = w.heap.size) := hxb
  have HBQ : Hid (wq.heap[rb]? = some (.cells z32 24)) := b1
  have HBX : Hid (wq.heap[xb]? = some (.cells X 24)) := b0
  have HNQ : Hid (Nw w wq) := nA
  clear hxb hrb b0 b1 nA
  have HCQ : Hid (wq.cell? ⟨0, 0, none⟩ = some (sen (a 4))) := HNQ.out.cellOf HC4.out
  rcases hcase with h1 | ⟨h1, h2⟩
  · go_upto_region 2 with fail
    refine wp_region_held_drew (S := fun W => W.cell? ⟨0, 0, none⟩ = some (sen (a 4))) (by kernel_rfl) (Nw.cellOf (Fr.refl (fun _ => False) wq).drew HCQ.out) ?_
    intro hS0
    refine wpAnyH_take (i := 0) (v := .agg z32) rfl (by kernel_rfl) (by kernel_rfl) (by kernel_rfl) (fun _ _ _ h => h) (Or.inl ⟨by rfl, by intro w _; rw [← z32_h]; go_simp⟩) hS0 ?_
    try simp only [Act.put, List.setIfInBounds_toArray, List.set_cons_zero, List.set_cons_succ]
    refine wpAnyH_take (i := 1) (v := sen (a 4)) rfl (by kernel_rfl) (by kernel_rfl) (by kernel_rfl) (fun _ _ _ h => h) (Or.inl ⟨by rfl, by intro w hw; go_simp⟩) hS0 ?_
    try simp only [Act.put, List.setIfInBounds_toArray, List.set_cons_zero, List.set_cons_succ]
    refine wpAnyH_ready (rs := [2]) (by kernel_rfl) (by simp) ?_
    refine AllReadyH.cons rfl (fun K' hK => ?_) AllReadyH.nil
    refine step_store_agg rfl (.tmp 8) (.tmp 23) 24 32 rfl Tryd.sizeOf24 rb 0 rfl z32 24 HBQ.out z32 rfl z32_size z32_one (by decide) z32 (by rw [z32_drop]; simp) ?_
    intro wz jz fz zz
    clear zz
    have nz : Nw w wz := HNQ.out.drew.trans fz (fun k hk q => by have := HRB.out; omega)
    refine hK.out _ _ (nz.cellOf HC4.out) (fun hS2 => ?_)
    try simp only [Act.put, List.setIfInBounds_toArray, List.set_cons_zero, List.set_cons_succ]
    refine wpAnyH_ready (rs := [3]) (by kernel_rfl) (by simp) ?_
    refine AllReadyH.cons rfl (fun K' hK => ?_) AllReadyH.nil
    go_simp
    refine hK.out _ _ (nz.cellOf HC4.out) (fun hS3 => ?_)
    refine wpAnyH_done (by kernel_rfl) ?_ _
    go_wp2_with fail
    exact bodyPost_ret (results_cell_slot Tryd.results10 Tryd.isAgg24 Tryd.sizeOf24 rfl (sen (a 4)) rfl jz z32_size) rfl ⟨rfl, nz⟩
  · go_upto_region 2 with fail
    refine wp_region_held_drew (S := fun W => W.cell? ⟨0, 0, none⟩ = some (sen (a 4))) (by kernel_rfl) (Nw.cellOf (Fr.refl (fun _ => False) wq).drew HCQ.out) ?_
    intro hS0
    refine wpAnyH_take (i := 0) (v := .agg z32) rfl (by kernel_rfl) (by kernel_rfl) (by kernel_rfl) (fun _ _ _ h => h) (Or.inl ⟨by rfl, by intro w _; rw [← z32_h]; go_simp⟩) hS0 ?_
    try simp only [Act.put, List.setIfInBounds_toArray, List.set_cons_zero, List.set_cons_succ]
    refine wpAnyH_take (i := 1) (v := sen (a 4)) rfl (by kernel_rfl) (by kernel_rfl) (by kernel_rfl) (fun _ _ _ h => h) (Or.inl ⟨by rfl, by intro w hw; go_simp⟩) hS0 ?_
    try simp only [Act.put, List.setIfInBounds_toArray, List.set_cons_zero, List.set_cons_succ]
    refine wpAnyH_ready (rs := [2]) (by kernel_rfl) (by simp) ?_
    refine AllReadyH.cons rfl (fun K' hK => ?_) AllReadyH.nil
    refine step_store_agg rfl (.tmp 8) (.tmp 23) 24 32 rfl Tryd.sizeOf24 rb 0 rfl z32 24 HBQ.out z32 rfl z32_size z32_one (by decide) z32 (by rw [z32_drop]; simp) ?_
    intro wz jz fz zz
    clear zz
    have nz : Nw w wz := HNQ.out.drew.trans fz (fun k hk q => by have := HRB.out; omega)
    refine hK.out _ _ (nz.cellOf HC4.out) (fun hS2 => ?_)
    try simp only [Act.put, List.setIfInBounds_toArray, List.set_cons_zero, List.set_cons_succ]
    refine wpAnyH_ready (rs := [3]) (by kernel_rfl) (by simp) ?_
    refine AllReadyH.cons rfl (fun K' hK => ?_) AllReadyH.nil
    go_simp
    refine hK.out _ _ (nz.cellOf HC4.out) (fun hS3 => ?_)
    refine wpAnyH_done (by kernel_rfl) ?_ _
    go_wp2_with fail
    exact bodyPost_ret (results_cell_slot Tryd.results10 Tryd.isAgg24 Tryd.sizeOf24 rfl (sen (a 4)) rfl jz z32_size) rfl ⟨rfl, nz⟩
set_option maxRecDepth 100000 in
set_option maxHeartbeats 4000000 in
theorem root_in (i n : Nat) (h : ¬ (9223372036854775808 < n ∨ n ≤ i)) (x : List UInt8) (hx : x.length = 32) (L : List (List UInt8)) (hL32 : ∀ y ∈ L, y.length = 32) (hLl : L.length < 9223372036854775808) (ad : Option Addr) (cap : Nat) (w : World) (hs : Hss w (.slice ad L.length cap) L) (hLd : Laid w) {B : Nat} {a : Nat → Addr} (hS : Sent B w a) :
    Calls Tryd.prog 10 #[.int .u64 (i : Int), .int .u64 (n : Int), .agg (hbs x), .slice ad L.length cap] w fun e w' => e = .returned (.tuple #[.agg (hbs (rtA i n x L).1), erv a (rtA i n x L).2]) ∧ Nw w w' := by
  have HX32 : Hid (x.length = 32) := hx
  have HL32 : Hid (∀ y ∈ L, y.length = 32) := hL32
  obtain ⟨ln, hln⟩ : ∃ q, q = L.length := ⟨_, rfl⟩
  have HLN : Hid (ln = L.length) := hln
  have HSS : Hid (Hss w (.slice ad ln cap) L) := by rw [hln]; exact hs
  have HLD : Hid (Laid w) := hLd
  have HSE : Hid (Sent B w a) := hS
  have HC9 : Hid (w.cell? ⟨1, 0, none⟩ = some (sen (a 9))) := hS.c9
  have HIN : Hid (¬ (9223372036854775808 < n ∨ n ≤ i)) := h
  have h1 : ¬ (9223372036854775808 : Int) < (n : Int) := by omega
  have h2 : ¬ (n : Int) ≤ (i : Int) := by omega
  have hsub : IntKind.u64.wrap ((n : Int) - 1) = ((n - 1 : Nat) : Int) := by rw [IntKind.wrap_u64]; omega
  rw [← hln] at hLl ⊢
  obtain ⟨X, hX⟩ : ∃ X, X = hbs x := ⟨_, rfl⟩
  have hXs : X.size = 32 := by rw [hX, hbs_size, hx]
  have HXX : Hid (X = hbs x) := hX
  rw [← hX]
  clear hX hx hS h hln hs hLd hL32
  go_enter Tryd.func10, Tryd.ntmps10
  go_upto_region 1 with fail
  rw [z32_h]
  have b1 := heap_next w (.cells X 24) (.cells z32 24)
  have b0 : ((w.alloc (.cells X 24)).alloc (.cells z32 24)).heap[w.heap.size]? = some (.cells X 24) := ((nwa (w.alloc (.cells X 24)) _).block _ (heap_lt (heap_new _ _)) (fun f => f)).trans (heap_new _ _)
  have nA : Nw w ((w.alloc (.cells X 24)).alloc (.cells z32 24)) := (nwa w _).alloc _
  obtain ⟨wq, hwq⟩ : ∃ q, (w.alloc (.cells X 24)).alloc (.cells z32 24) = q := ⟨_, rfl⟩
  rw [hwq] at b0 b1 nA ⊢
  clear hwq
  obtain ⟨xb, hxb⟩ : ∃ q, q = w.heap.size := ⟨_, rfl⟩
  rw [← hxb] at b0 b1 ⊢
  obtain ⟨rb, hrb⟩ : ∃ q, q = xb + 1 := ⟨_, rfl⟩
  rw [← hrb] at b1 ⊢
  have HRB : Hid (w.heap.size < rb) := by show _ < _; omega
  have HXB : Hid (xb = w.heap.size) := hxb
  have HBQ : Hid (wq.heap[rb]? = some (.cells z32 24)) := b1
  have HBX : Hid (wq.heap[xb]? = some (.cells X 24)) := b0
  have HNQ : Hid (Nw w wq) := nA
  clear hxb hrb b0 b1 nA
  go_upto_region 4 with fail
  have p4 : Plc (wq.alloc (.cells #[.int .u64 (i : Int), .int .u64 ((n - 1 : Nat) : Int)] 69)) wq.heap.size i (n - 1) := heap_new wq _
  have n4 := nwa wq (.cells #[.int .u64 (i : Int), .int .u64 ((n - 1 : Nat) : Int)] 69)
  obtain ⟨w4, hw4⟩ : ∃ q, wq.alloc (.cells #[.int .u64 (i : Int), .int .u64 ((n - 1 : Nat) : Int)] 69) = q := ⟨_, rfl⟩
  rw [hw4] at p4 n4 ⊢
  clear hw4
  obtain ⟨pb, hpb⟩ : ∃ q, q = wq.heap.size := ⟨_, rfl⟩
  rw [← hpb] at p4 ⊢
  have HP4 : Hid (Plc w4 pb i (n - 1)) := p4
  have HB4 : Hid (w4.heap[rb]? = some (.cells z32 24)) := (n4.block _ (heap_lt HBQ.out) (fun f => f)).trans HBQ.out
  have HX4 : Hid (w4.heap[xb]? = some (.cells X 24)) := (n4.block _ (heap_lt HBX.out) (fun f => f)).trans HBX.out
  have HN4 : Hid (Nw w w4) := HNQ.out.tr n4
  have HPB : Hid (w.heap.size ≤ pb ∧ rb < pb) := by refine ⟨?_, ?_⟩; have := HNQ.out.size; omega; rw [hpb]; exact heap_lt HBQ.out
  clear p4 n4 hpb HBQ HBX HNQ
  have hxc : ∀ j, j < 32 → w4.cell? ⟨xb, 0 + j, none⟩ = X[j]? := fun j _ => by rw [Nat.zero_add, cell_of HX4.out]
  have HXC : Hid (∀ j, j < 32 → w4.cell? ⟨xb, 0 + j, none⟩ = X[j]?) := hxc
  have HX1 : Hid (∀ u ∈ X.toList, u.oneCell' = true) := by show ∀ u ∈ _, _; rw [HXX.out]; exact hbs_one _
  clear hxc
  go_upto_region 5 with first
    | refine wple_load_at rfl (.tmp 6) 24 32 rfl Tryd.isAgg24 Tryd.sizeOf24 xb 0 rfl X hXs HXC.out ?_
    | (refine wp_store_agg rfl (.tmp 11) (.tmp 29) 24 32 rfl Tryd.sizeOf24 w4.heap.size 0 rfl z32 24 (by rw [← z32_h]; exact heap_new _ _) X rfl hXs HX1.out (by decide) X (by rw [dropA z32_size]; simp) ?_; intro w5 j5 f5 z5; clear z5)
  have N5 : Hid (Nw w4 w5) := (nwa w4 _).trans f5 (fun k hk q => by omega)
  have HP5 : Hid (Plc w5 pb i (n - 1)) := HP4.out.nw N5.out
  have HB5 : Hid (w5.heap[rb]? = some (.cells z32 24)) := (N5.out.block _ (heap_lt HB4.out) (fun f => f)).trans HB4.out
  have HN5 : Hid (Nw w w5) := HN4.out.tr N5.out
  obtain ⟨ob, hob⟩ : ∃ q, q = w4.heap.size := ⟨_, rfl⟩
  rw [← hob] at j5 ⊢
  have HOB : Hid (pb < ob) := by show pb < ob; rw [hob]; exact heap_lt HP4.out
  have HO5 : Hid (w5.heap[ob]? = some (.cells X 24)) := j5
  clear hob j5 f5 N5
  have QU : Hid (∀ V p q, p ≤ q → q ≠ 0 → q < 18446744073709551616 → Plc V pb p q → Calls Tryd.prog 30 #[.pointer (some ⟨pb, 0, none⟩)] V fun e w' => e = .returned (.tuple #[.bool (ups p q).1, .bool true]) ∧ Plc w' pb (ups p q).2.1 (ups p q).2.2 ∧ Fr (fun k => k = pb) V w') := fun V p q h1 h2 h3 h4 => up_any pb p q h1 h2 h3 V h4
  have QT : Hid (∀ V p, Plc V pb p 0 → Calls Tryd.prog 30 #[.pointer (some ⟨pb, 0, none⟩)] V fun e w' => e = .returned (.tuple #[.bool false, .bool false]) ∧ w' = V) := fun V p h => up_top pb p V h
  have QP : Hid (∀ V p q, Plc V pb p q → Calls Tryd.prog 31 #[.pointer (some ⟨pb, 0, none⟩)] V fun e w' => e = .returned (.bool (decide (q = 0))) ∧ w' = V) := fun V p q h => top_any pb p q V h
  have QN : Hid (∀ V A B, Nw w V → A.length = 32 → B.length = 32 → Calls Tryd.prog 25 #[.agg (hbs A), .agg (hbs B)] V fun e w' => e = .returned (.agg (hbs (ndp A B))) ∧ Nw V w') := fun V A B hV hA hB => node_any A B hA hB V (HLD.out.nw hV)
  go_wp2
  go_loopw [32] (fun iv wr => ∃ (j p q : Nat) (tk : List Bool), j ≤ ln ∧ iv = .int .i64 j ∧ tk.length = j ∧ sds i n = tk ++ bsd p q ∧ p ≤ q ∧ q < 18446744073709551616 ∧ Plc wr pb p q ∧ wr.heap[ob]? = some (.cells (hbs (clm x (L.take j) tk)) 24 (0, 0)) ∧ wr.heap[rb]? = some (.cells z32 24) ∧ Nw w wr) (fun iv _ => ln - (intOf iv).toNat)
  case atStart => exact ⟨0, i, n - 1, [], by omega, rfl, rfl, sds_bsd n n i (Nat.le_refl _) (by have := HIN.out; omega), by have := HIN.out; omega, by have := HIN.out; omega, HP5.out, by rw [List.take_zero, clm, ← HXX.out]; exact HO5.out; all_goals simp, HB5.out, HN5.out⟩
  case round =>
    obtain ⟨j, p, q, tk, hj, rfl, htk, hsd, hpq, hq, hpl, hob, hrb, hnw⟩ := hrel
    have HTK : Hid (tk.length = j) := htk
    have HSD : Hid (sds i n = tk ++ bsd p q) := hsd
    have HPQ : Hid (p ≤ q) := hpq
    have HQ : Hid (q < 18446744073709551616) := hq
    have HPL : Hid (Plc wr pb p q) := hpl
    have HO : Hid (wr.heap[ob]? = some (.cells (hbs (clm x (L.take j) tk)) 24 (0, 0))) := hob
    have HRBB : Hid (wr.heap[rb]? = some (.cells z32 24)) := hrb
    have HNW : Hid (Nw w wr) := hnw
    clear htk hsd hpq hq hpl hob hrb hnw
    obtain ⟨r, hr⟩ : ∃ r, r = clm x (L.take j) tk := ⟨_, rfl⟩
    have HR : Hid (r = clm x (L.take j) tk) := hr
    rw [← hr] at HO
    have R32 : Hid (r.length = 32) := by show r.length = 32; rw [hr]; exact clm_len _ _ _ HX32.out
    have hrs : (hbs r).size = 32 := by rw [hbs_size, R32.out]
    clear hr
    by_cases hlt : j < ln
    · obtain ⟨y, hy⟩ : ∃ y, L[j]? = some y := ⟨_, List.getElem?_eq_getElem (by rw [← HLN.out]; exact hlt)⟩
      have HY : Hid (L[j]? = some y) := hy
      have Y32 : Hid (y.length = 32) := HL32.out y (List.mem_of_getElem? hy)
      have hys : (hbs y).size = 32 := by rw [hbs_size, Y32.out]
      obtain ⟨p0, off, rfl, hc⟩ := (HSS.out.nw HL32.out HNW.out).atT hy
      have HC : Hid (∀ k, k < 32 → wr.cell? ⟨p0, off + j * 32 + k, none⟩ = (hbs y)[k]?) := hc
      clear hy hc
      have hji : (j : Int) < (ln : Int) := by omega
      go_upto_region 8 with first
        | refine wple_load_at rfl (.tmp 34) 24 32 rfl Tryd.isAgg24 Tryd.sizeOf24 p0 (off + j * 32) rfl (hbs y) hys HC.out ?_
        | (refine wp_store_agg rfl (.tmp 13) (.tmp 35) 24 32 rfl Tryd.sizeOf24 wr.heap.size 0 rfl z32 24 (by rw [← z32_h]; exact heap_new _ _) (hbs y) rfl hys (hbs_one _) (by decide) (hbs y) (by rw [dropA z32_size]; simp) ?_; intro w6 j6 f6 z6; clear z6)
      have N6 : Hid (Nw wr w6) := (nwa wr _).trans f6 (fun k hk q => by omega)
      have HP6 : Hid (Plc w6 pb p q) := HPL.out.nw N6.out
      have HB6 : Hid (w6.heap[rb]? = some (.cells z32 24)) := (N6.out.block _ (heap_lt HRBB.out) (fun f => f)).trans HRBB.out
      have HO6 : Hid (w6.heap[ob]? = some (.cells (hbs r) 24)) := (N6.out.block _ (heap_lt HO.out) (fun f => f)).trans HO.out
      have HN6 : Hid (Nw w w6) := HNW.out.tr N6.out
      obtain ⟨yb, hyb⟩ : ∃ q, q = wr.heap.size := ⟨_, rfl⟩
      rw [← hyb] at j6 ⊢
      have HYB : Hid (pb < yb ∧ ob < yb) := ⟨by rw [hyb]; exact heap_lt HPL.out, by rw [hyb]; exact heap_lt HO.out⟩
      have HY6 : Hid (w6.heap[yb]? = some (.cells (hbs y) 24)) := j6
      clear j6 f6 hyb N6 HPL HO HRBB HC
      by_cases hq0 : q = 0
      · subst hq0
        have HCQ : Hid (w6.cell? ⟨1, 0, none⟩ = some (sen (a 9))) := HN6.out.cellOf HC9.out
        have HBQ : Hid (w6.heap[rb]? = some (.cells z32 24)) := HB6.out
        have HNQ : Hid (Nw w w6) := HN6.out
        have RR : Hid (rtA i n x L = (zh, 10)) := rtA_no HIN.out (by rw [HSD.out, bsd_zero, List.append_nil, HTK.out, ← HLN.out]; omega)
        go_wp2_with fail
        refine (QT.out _ p HP6.out).mono ?_
        rintro e w7 ⟨rfl, rfl⟩
        go_upto_region 11 with fail
        refine wp_region_held_drew (S := fun W => W.cell? ⟨1, 0, none⟩ = some (sen (a 9))) (by kernel_rfl) (Nw.cellOf (Fr.refl (fun _ => False) w7).drew HCQ.out) ?_
        intro hS0
        refine wpAnyH_take (i := 0) (v := .agg z32) rfl (by kernel_rfl) (by kernel_rfl) (by kernel_rfl) (fun _ _ _ h => h) (Or.inl ⟨by rfl, by intro w _; rw [← z32_h]; go_simp⟩) hS0 ?_
        try simp only [Act.put, List.setIfInBounds_toArray, List.set_cons_zero, List.set_cons_succ]
        refine wpAnyH_take (i := 1) (v := sen (a 9)) rfl (by kernel_rfl) (by kernel_rfl) (by kernel_rfl) (fun _ _ _ h => h) (Or.inl ⟨by rfl, by intro w hw; go_simp⟩) hS0 ?_
        try simp only [Act.put, List.setIfInBounds_toArray, List.set_cons_zero, List.set_cons_succ]
        refine wpAnyH_ready (rs := [2]) (by kernel_rfl) (by simp) ?_
        refine AllReadyH.cons rfl (fun K' hK => ?_) AllReadyH.nil
        refine step_store_agg rfl (.tmp 8) (.tmp 46) 24 32 rfl Tryd.sizeOf24 rb 0 rfl z32 24 HBQ.out z32 rfl z32_size z32_one (by decide) z32 (by rw [z32_drop]; simp) ?_
        intro wz jz fz zz
        clear zz
        have nz : Nw w wz := HNQ.out.drew.trans fz (fun k hk q => by have := HRB.out; omega)
        refine hK.out _ _ (nz.cellOf HC9.out) (fun hS2 => ?_)
        try simp only [Act.put, List.setIfInBounds_toArray, List.set_cons_zero, List.set_cons_succ]
        refine wpAnyH_ready (rs := [3]) (by kernel_rfl) (by simp) ?_
        refine AllReadyH.cons rfl (fun K' hK => ?_) AllReadyH.nil
        go_simp
        refine hK.out _ _ (nz.cellOf HC9.out) (fun hS3 => ?_)
        refine wpAnyH_done (by kernel_rfl) ?_ _
        go_wp2_with fail
        exact bodyPost_ret (results_cell_slot (V := z32) Tryd.results10 Tryd.isAgg24 Tryd.sizeOf24 rfl (sen (a 9)) rfl jz z32_size) rfl ⟨by rw [RR.out, show zh = List.replicate 32 0 from rfl, ← z32_hbs]; rfl, nz⟩
      · have QU1 := hid_of (QU.out w6 p q HPQ.out hq0 HQ.out HP6.out)
        obtain ⟨hu1, hu2, hu3⟩ := bsd_ups q p q (Nat.le_refl _) HPQ.out hq0
        obtain ⟨u, hu⟩ : ∃ u, u = ups p q := ⟨_, rfl⟩
        rw [← hu] at QU1 hu1 hu2 hu3
        obtain ⟨b, p', q'⟩ := u
        have HU1 : Hid (bsd p q = b :: bsd p' q') := hu1
        have HU2 : Hid (p' ≤ q') := hu2
        have HU3 : Hid (q' < q) := hu3
        clear hu hu1 hu2 hu3
        cases b
        · go_wp2_with fail
          refine QU1.out.mono ?_
          rintro e w7 ⟨rfl, pl7, f7⟩
          have HP7 : Hid (Plc w7 pb p' q') := pl7
          have HN7 : Hid (Nw w w7) := HN6.out.trans f7 (fun k hk q => by have := HPB.out; omega)
          have HB7 : Hid (w7.heap[rb]? = some (.cells z32 24)) := (f7.block _ (heap_lt HB6.out) (fun q => by have := HPB.out; omega)).trans HB6.out
          have HO7 : Hid (w7.heap[ob]? = some (.cells (hbs r) 24)) := (f7.block _ (heap_lt HO6.out) (fun q => by have := HOB.out; omega)).trans HO6.out
          have HY7 : Hid (w7.heap[yb]? = some (.cells (hbs y) 24)) := (f7.block _ (heap_lt HY6.out) (fun q => by have := HYB.out; omega)).trans HY6.out
          clear pl7 f7
          have QN1 := hid_of (QN.out w7 r y HN7.out R32.out Y32.out)
          have hnl : (hbs (ndp r y)).size = 32 := by rw [hbs_size, ndp_len]
          have HST : Hid (clm x (L.take (j + 1)) (tk ++ [false]) = ndp r y) := by
            show _ = _
            rw [List.take_add_one, HY.out]
            show clm x (L.take j ++ [y]) _ = _
            rw [clm_snoc _ _ _ _ _ (by rw [List.length_take, HTK.out]; have := HLN.out; omega), ← HR.out]
            rfl
          obtain ⟨z, hz⟩ : ∃ z, z = ndp r y := ⟨_, rfl⟩
          rw [← hz] at QN1 hnl HST
          clear hz
          go_wp2_with first
            | refine wple_load_at rfl (.tmp 11) 24 32 rfl Tryd.isAgg24 Tryd.sizeOf24 ob 0 rfl (hbs r) hrs (hash_cells HO7.out) ?_
            | refine wple_load_at rfl (.tmp 13) 24 32 rfl Tryd.isAgg24 Tryd.sizeOf24 yb 0 rfl (hbs y) hys (hash_cells HY7.out) ?_
          refine QN1.out.mono ?_
          rintro e w8 ⟨rfl, n8⟩
          have HO8 : Hid (w8.heap[ob]? = some (.cells (hbs r) 24)) := (n8.block _ (heap_lt HO7.out) (fun f => f)).trans HO7.out
          have HB8 : Hid (w8.heap[rb]? = some (.cells z32 24)) := (n8.block _ (heap_lt HB7.out) (fun f => f)).trans HB7.out
          have HP8 : Hid (Plc w8 pb p' q') := HP7.out.nw n8
          have HN8 : Hid (Nw w w8) := HN7.out.tr n8
          clear n8
          go_wp2_with (refine wp_store_agg rfl (.tmp 11) (.tmp 42) 24 32 rfl Tryd.sizeOf24 ob 0 rfl (hbs r) 24 HO8.out (hbs z) rfl hnl (hbs_one _) (by rw [hrs]; decide) (hbs z) (by rw [dropA hrs]; simp) ?_; intro w9 j9 f9 z9; clear z9)
          refine ⟨⟨j + 1, p', q', tk ++ [false], by omega, by go_num, by simp [HTK.out], by rw [HSD.out, HU1.out, List.append_assoc]; rfl, HU2.out, by have := HU3.out; have := HQ.out; omega, ?_, by rw [HST.out]; exact j9, ?_, HN8.out.trans f9 (fun k hk q => by have := HOB.out; have := HPB.out; omega)⟩, by simp [intOf]; omega⟩
          · exact (f9.block _ (heap_lt HP8.out) (fun q => by have := HOB.out; omega)).trans HP8.out
          · exact (f9.block _ (heap_lt HB8.out) (fun q => by have := HOB.out; have := HPB.out; omega)).trans HB8.out
        · go_wp2_with fail
          refine QU1.out.mono ?_
          rintro e w7 ⟨rfl, pl7, f7⟩
          have HP7 : Hid (Plc w7 pb p' q') := pl7
          have HN7 : Hid (Nw w w7) := HN6.out.trans f7 (fun k hk q => by have := HPB.out; omega)
          have HB7 : Hid (w7.heap[rb]? = some (.cells z32 24)) := (f7.block _ (heap_lt HB6.out) (fun q => by have := HPB.out; omega)).trans HB6.out
          have HO7 : Hid (w7.heap[ob]? = some (.cells (hbs r) 24)) := (f7.block _ (heap_lt HO6.out) (fun q => by have := HOB.out; omega)).trans HO6.out
          have HY7 : Hid (w7.heap[yb]? = some (.cells (hbs y) 24)) := (f7.block _ (heap_lt HY6.out) (fun q => by have := HYB.out; omega)).trans HY6.out
          clear pl7 f7
          have QN1 := hid_of (QN.out w7 y r HN7.out Y32.out R32.out)
          have hnl : (hbs (ndp y r)).size = 32 := by rw [hbs_size, ndp_len]
          have HST : Hid (clm x (L.take (j + 1)) (tk ++ [true]) = ndp y r) := by
            show _ = _
            rw [List.take_add_one, HY.out]
            show clm x (L.take j ++ [y]) _ = _
            rw [clm_snoc _ _ _ _ _ (by rw [List.length_take, HTK.out]; have := HLN.out; omega), ← HR.out]
            rfl
          obtain ⟨z, hz⟩ : ∃ z, z = ndp y r := ⟨_, rfl⟩
          rw [← hz] at QN1 hnl HST
          clear hz
          go_wp2_with first
            | refine wple_load_at rfl (.tmp 11) 24 32 rfl Tryd.isAgg24 Tryd.sizeOf24 ob 0 rfl (hbs r) hrs (hash_cells HO7.out) ?_
            | refine wple_load_at rfl (.tmp 13) 24 32 rfl Tryd.isAgg24 Tryd.sizeOf24 yb 0 rfl (hbs y) hys (hash_cells HY7.out) ?_
          refine QN1.out.mono ?_
          rintro e w8 ⟨rfl, n8⟩
          have HO8 : Hid (w8.heap[ob]? = some (.cells (hbs r) 24)) := (n8.block _ (heap_lt HO7.out) (fun f => f)).trans HO7.out
          have HB8 : Hid (w8.heap[rb]? = some (.cells z32 24)) := (n8.block _ (heap_lt HB7.out) (fun f => f)).trans HB7.out
          have HP8 : Hid (Plc w8 pb p' q') := HP7.out.nw n8
          have HN8 : Hid (Nw w w8) := HN7.out.tr n8
          clear n8
          go_wp2_with (refine wp_store_agg rfl (.tmp 11) (.tmp 52) 24 32 rfl Tryd.sizeOf24 ob 0 rfl (hbs r) 24 HO8.out (hbs z) rfl hnl (hbs_one _) (by rw [hrs]; decide) (hbs z) (by rw [dropA hrs]; simp) ?_; intro w9 j9 f9 z9; clear z9)
          refine ⟨⟨j + 1, p', q', tk ++ [true], by omega, by go_num, by simp [HTK.out], by rw [HSD.out, HU1.out, List.append_assoc]; rfl, HU2.out, by have := HU3.out; have := HQ.out; omega, ?_, by rw [HST.out]; exact j9, ?_, HN8.out.trans f9 (fun k hk q => by have := HOB.out; have := HPB.out; omega)⟩, by simp [intOf]; omega⟩
          · exact (f9.block _ (heap_lt HP8.out) (fun q => by have := HOB.out; omega)).trans HP8.out
          · exact (f9.block _ (heap_lt HB8.out) (fun q => by have := HOB.out; have := HPB.out; omega)).trans HB8.out
    · obtain rfl : j = ln := by omega
      have HCQ : Hid (wr.cell? ⟨1, 0, none⟩ = some (sen (a 9))) := HNW.out.cellOf HC9.out
      have HBQ : Hid (wr.heap[rb]? = some (.cells z32 24)) := HRBB.out
      have HNQ : Hid (Nw w wr) := HNW.out
      have hki : ¬ (j : Int) < (j : Int) := by omega
      by_cases hq0 : q = 0
      · subst hq0
        have RR : Hid (rtA i n x L = (r, 0)) := by
          show _ = _
          rw [rtA_yes HIN.out (by rw [HSD.out, bsd_zero, List.append_nil, HTK.out, ← HLN.out]), HSD.out, bsd_zero, List.append_nil, HR.out, List.take_of_length_le (by rw [← HLN.out]; exact Nat.le_refl _)]
        go_wp2_with fail
        refine (QP.out _ p 0 HPL.out).mono ?_
        rintro e w7 ⟨rfl, rfl⟩
        have hd : decide (0 = 0) = true := rfl
        go_wp2_with first
          | refine wple_load_at rfl (.tmp 11) 24 32 rfl Tryd.isAgg24 Tryd.sizeOf24 ob 0 rfl (hbs r) hrs (hash_cells HO.out) ?_
          | (refine wp_store_agg rfl (.tmp 8) (.tmp 58) 24 32 rfl Tryd.sizeOf24 rb 0 rfl z32 24 HBQ.out (hbs r) rfl hrs (hbs_one _) (by decide) (hbs r) (by rw [dropA z32_size]; simp) ?_; intro w9 j9 f9 z9; clear z9)
        refine bodyPost_ret (results_cell_slot (V := hbs r) (ty := 24) (f := (0, 0)) Tryd.results10 Tryd.isAgg24 Tryd.sizeOf24 rfl .nilIface rfl j9 hrs) rfl ⟨by rw [RR.out]; rfl, HNQ.out.trans f9 (fun k hk q => by have := HRB.out; omega)⟩
      · have hb1 : 0 < (bsd p q).length := by
          have := (bsd_ups q p q (Nat.le_refl _) HPQ.out hq0).1
          rw [this]
          simp
        have RR : Hid (rtA i n x L = (zh, 10)) := rtA_no HIN.out (by rw [HSD.out, List.length_append, HTK.out, ← HLN.out]; omega)
        have hd : decide (q = 0) = false := decide_eq_false hq0
        have QPP := hid_of (QP.out wr p q HPL.out)
        rw [hd] at QPP
        clear hd hb1 hq0
        go_wp2_with fail
        refine QPP.out.mono ?_
        rintro e w7 ⟨rfl, rfl⟩
        go_upto_region 16 with fail
        refine wp_region_held_drew (S := fun W => W.cell? ⟨1, 0, none⟩ = some (sen (a 9))) (by kernel_rfl) (Nw.cellOf (Fr.refl (fun _ => False) w7).drew HCQ.out) ?_
        intro hS0
        refine wpAnyH_take (i := 0) (v := .agg z32) rfl (by kernel_rfl) (by kernel_rfl) (by kernel_rfl) (fun _ _ _ h => h) (Or.inl ⟨by rfl, by intro w _; rw [← z32_h]; go_simp⟩) hS0 ?_
        try simp only [Act.put, List.setIfInBounds_toArray, List.set_cons_zero, List.set_cons_succ]
        refine wpAnyH_take (i := 1) (v := sen (a 9)) rfl (by kernel_rfl) (by kernel_rfl) (by kernel_rfl) (fun _ _ _ h => h) (Or.inl ⟨by rfl, by intro w hw; go_simp⟩) hS0 ?_
        try simp only [Act.put, List.setIfInBounds_toArray, List.set_cons_zero, List.set_cons_succ]
        refine wpAnyH_ready (rs := [2]) (by kernel_rfl) (by simp) ?_
        refine AllReadyH.cons rfl (fun K' hK => ?_) AllReadyH.nil
        refine step_store_agg rfl (.tmp 8) (.tmp 56) 24 32 rfl Tryd.sizeOf24 rb 0 rfl z32 24 HBQ.out z32 rfl z32_size z32_one (by decide) z32 (by rw [z32_drop]; simp) ?_
        intro wz jz fz zz
        clear zz
        have nz : Nw w wz := HNQ.out.drew.trans fz (fun k hk q => by have := HRB.out; omega)
        refine hK.out _ _ (nz.cellOf HC9.out) (fun hS2 => ?_)
        try simp only [Act.put, List.setIfInBounds_toArray, List.set_cons_zero, List.set_cons_succ]
        refine wpAnyH_ready (rs := [3]) (by kernel_rfl) (by simp) ?_
        refine AllReadyH.cons rfl (fun K' hK => ?_) AllReadyH.nil
        go_simp
        refine hK.out _ _ (nz.cellOf HC9.out) (fun hS3 => ?_)
        refine wpAnyH_done (by kernel_rfl) ?_ _
        go_wp2_with fail
        exact bodyPost_ret (results_cell_slot (V := z32) Tryd.results10 Tryd.isAgg24 Tryd.sizeOf24 rfl (sen (a 9)) rfl jz z32_size) rfl ⟨by rw [RR.out, show zh = List.replicate 32 0 from rfl, ← z32_hbs]; rfl, nz⟩
end Go.Proofs.YtaeocbdphfkflaaDoor
namespace Go.Proofs.YtaeocbdphfkflaaDoor
open Go.RowKit
set_option linter.unusedVariables false
set_option linter.unusedSimpArgs false
theorem hbs_inj {A B : List UInt8} (h : ∀ i, i < 32 → A[i]? = B[i]?) (hA : A.length = 32) (hB : B.length = 32) : A = B := by
  apply List.ext_getElem? 
  intro i
  by_cases hi : i < 32
  · exact h i hi
  · rw [List.getElem?_eq_none (by omega), List.getElem?_eq_none (by omega)]
theorem eqItemsA (d : Nat) (w : World) (A B : List UInt8) (hA : A.length = 32) (hB : B.length = 32) : ∀ (is : List Nat), (∀ i ∈ is, i < 32) → (Op.eqItems (d + 1) 5 1 (hbs A) (hbs B) is).run Tryd.prog w = .ok (decide (∀ i ∈ is, A[i]? = B[i]?)) w
  | [], _ => by simp [Op.eqItems]
  | i :: is, h => by
    have hi := h i (by simp)
    have h1 := hbs_get A i (by omega)
    have h2 := hbs_get B i (by omega)
    have hp := run_part_plain w plain8 (xs := hbs A) (off := i * 1) (by rw [Nat.mul_one]; exact h1)
    have hq := run_part_plain w plain8 (xs := hbs B) (off := i * 1) (by rw [Nat.mul_one]; exact h2)
    have ih := eqItemsA d w A B hA hB is (fun j hj => h j (by simp [hj]))
    have he := run_equalIn_int w d 5 .u8 .u8 ((A.getD i 0).toNat : Int) ((B.getD i 0).toNat : Int) Tryd.underlying5
    simp only [Op.eqItems, Sem.run_bind, hp, hq, he, Result.andThen_ok]
    have ea : A[i]? = some (A.getD i 0) := by rw [List.getD_eq_getElem?_getD, List.getElem?_eq_getElem (by omega)]; rfl
    have eb : B[i]? = some (B.getD i 0) := by rw [List.getD_eq_getElem?_getD, List.getElem?_eq_getElem (by omega)]; rfl
    by_cases hc : A.getD i 0 = B.getD i 0
    · rw [hc]
      simp only [beq_self_eq_true, Bool.not_true, Bool.false_eq_true, if_false, ih]
      refine congrArg (fun b => Result.ok b w) ?_
      simp only [List.mem_cons, forall_eq_or_imp, decide_eq_decide]
      rw [ea, eb, hc]
      simp
    · have hn : (((A.getD i 0).toNat : Int) == ((B.getD i 0).toNat : Int)) = false := by
        rw [beq_eq_false_iff_ne]
        exact fun e => hc (UInt8.toNat_inj.1 (Int.ofNat_inj.1 e))
      rw [hn]
      simp only [Bool.not_false, if_true, Sem.run_pure]
      refine congrArg (fun b => Result.ok b w) ?_
      symm
      rw [decide_eq_false_iff_not]
      intro hall
      have := hall i (by simp)
      rw [ea, eb] at this
      exact hc (Option.some.inj this)
theorem hbs_equalA (d : Nat) (A B : List UInt8) (hA : A.length = 32) (hB : B.length = 32) (w : World) : (Op.equalIn (d + 2) 24 (.agg (hbs A)) (.agg (hbs B))).run Tryd.prog w = .ok (decide (A = B)) w := by
  obtain ⟨i0, hi, _⟩ := Option.map_eq_some_iff.1 info8
  rw [run_equalIn_array w (d + 1) _ _ Tryd.underlying24 hi, cells5, eqItemsA d w A B hA hB _ (fun i hi => List.mem_range.1 hi)]
  refine congrArg (fun b => Result.ok b w) ?_
  rw [decide_eq_decide]
  constructor
  · exact fun h => hbs_inj (fun i hi => h i (List.mem_range.2 hi)) hA hB
  · rintro rfl
    exact fun _ _ => rfl
theorem hbs_eqlA (A B : List UInt8) (hA : A.length = 32) (hB : B.length = 32) (w : World) : (binOp .eql 24 (.agg (hbs A)) (.agg (hbs B))).run Tryd.prog w = .ok (.bool (decide (A = B))) w := by
  simp only [binOp]
  simp [Op.equal, Op.maxDepth, hbs_equalA 9998 A B hA hB w]
theorem hbs_neqA (A B : List UInt8) (hA : A.length = 32) (hB : B.length = 32) (w : World) : (binOp .neq 24 (.agg (hbs A)) (.agg (hbs B))).run Tryd.prog w = .ok (.bool (!decide (A = B))) w := by
  simp only [binOp]
  simp [Op.equal, Op.maxDepth, hbs_equalA 9998 A B hA hB w]
section
variable {w : World} {ops : Array Oper} {rest : List Oper} {o : Oper} {a : Act} {Q : Exit → Act → World → Prop}
theorem wpl_neqA (hwant : Region.wanted o (yielded ops a.tmps) = true) (x y : Operand) (ho : o.op = .binOp .neq 24 x y 24) (A B : List UInt8) (hA : A.length = 32) (hB : B.length = 32) (hx : a.eval x = .agg (hbs A)) (hy : a.eval y = .agg (hbs B))
    (h : wpList Tryd.prog ops Q rest (a.put o.dst (.bool (!decide (A = B)))) w) : wpList Tryd.prog ops Q (o :: rest) a w := by
  refine wpList_step fun K hK => ?_
  rw [if_pos hwant]
  unfold Oper.wp execOp
  simp only [ho, hx, hy, run_eqGuard, hbs_neqA A B hA hB w, Sem.run_bind, Sem.run_pure, Result.andThen_ok]
  exact hK _ _ h
theorem wpl_eqlA (hwant : Region.wanted o (yielded ops a.tmps) = true) (x y : Operand) (ho : o.op = .binOp .eql 24 x y 24) (A B : List UInt8) (hA : A.length = 32) (hB : B.length = 32) (hx : a.eval x = .agg (hbs A)) (hy : a.eval y = .agg (hbs B))
    (h : wpList Tryd.prog ops Q rest (a.put o.dst (.bool (decide (A = B)))) w) : wpList Tryd.prog ops Q (o :: rest) a w := by
  refine wpList_step fun K hK => ?_
  rw [if_pos hwant]
  unfold Oper.wp execOp
  simp only [ho, hx, hy, run_eqGuard, hbs_eqlA A B hA hB w, Sem.run_bind, Sem.run_pure, Result.andThen_ok]
  exact hK _ _ h
end
/-- What Inclusion answers: the error's number. -/
def icA (i n : Nat) (x : List UInt8) (L : List (List UInt8)) (r : List UInt8) : Nat :=
  if (rtA i n x L).2 = 0 then (if (rtA i n x L).1 = r then 0 else 10) else (rtA i n x L).2
theorem rtA_code (i n : Nat) (x : List UInt8) (L : List (List UInt8)) : (rtA i n x L).2 = 0 ∨ (rtA i n x L).2 = 5 ∨ (rtA i n x L).2 = 10 := by
  unfold rtA
  split
  · simp
  · split <;> simp
theorem icA_code (i n : Nat) (x : List UInt8) (L : List (List UInt8)) (r : List UInt8) : icA i n x L r = 0 ∨ icA i n x L r = 5 ∨ icA i n x L r = 10 := by
  have := rtA_code i n x L
  unfold icA
  split
  · split <;> simp
  · exact this
theorem root_any (i n : Nat) (hi : i < 18446744073709551616) (hn : n < 18446744073709551616) (x : List UInt8) (hx : x.length = 32) (L : List (List UInt8)) (hL32 : ∀ y ∈ L, y.length = 32) (hLl : L.length < 9223372036854775808) (ad : Option Addr) (cap : Nat) (w : World) (hs : Hss w (.slice ad L.length cap) L) (hLd : Laid w) {B : Nat} {a : Nat → Addr} (hS : Sent B w a) :
    Calls Tryd.prog 10 #[.int .u64 (i : Int), .int .u64 (n : Int), .agg (hbs x), .slice ad L.length cap] w fun e w' => e = .returned (.tuple #[.agg (hbs (rtA i n x L).1), erv a (rtA i n x L).2]) ∧ Nw w w' := by
  by_cases h : 9223372036854775808 < n ∨ n ≤ i
  · rw [rtA_range h]
    exact root_range i n hi hn h x hx _ w hS
  · exact root_in i n h x hx L hL32 hLl ad cap w hs hLd hS
theorem neq_sen (x : Addr) (w : World) : (binOp .neq 31 (sen x) .nilIface).run Tryd.prog w = .ok (.bool true) w := by kernel_rfl
theorem neq_nilE (w : World) : (binOp .neq 31 .nilIface .nilIface).run Tryd.prog w = .ok (.bool false) w := by kernel_rfl
set_option maxRecDepth 100000 in
set_option maxHeartbeats 2000000 in
theorem incl_any (i n : Nat) (hi : i < 18446744073709551616) (hn : n < 18446744073709551616) (x : List UInt8) (hx : x.length = 32) (L : List (List UInt8)) (hL32 : ∀ y ∈ L, y.length = 32) (hLl : L.length < 9223372036854775808) (ad : Option Addr) (cap : Nat) (r : List UInt8) (hr : r.length = 32) (w : World) (hs : Hss w (.slice ad L.length cap) L) (hLd : Laid w) {B : Nat} {a : Nat → Addr} (hS : Sent B w a) :
    Calls Tryd.prog 14 #[.int .u64 (i : Int), .int .u64 (n : Int), .agg (hbs x), .slice ad L.length cap, .agg (hbs r)] w fun e w' => e = .returned (erv a (icA i n x L r)) ∧ Nw w w' := by
  have QR : Hid (∀ V, Nw w V → Calls Tryd.prog 10 #[.int .u64 (i : Int), .int .u64 (n : Int), .agg (hbs x), .slice ad L.length cap] V fun e w' => e = .returned (.tuple #[.agg (hbs (rtA i n x L).1), erv a (rtA i n x L).2]) ∧ Nw V w') := fun V nV => root_any i n hi hn x hx L hL32 hLl ad cap V (hs.nw hL32 nV) (hLd.nw nV) (hS.nw nV)
  have hz32 := rtA_len i n x L hx
  have hcd := rtA_code i n x L
  have HIC : Hid (icA i n x L r = if (rtA i n x L).2 = 0 then (if (rtA i n x L).1 = r then 0 else 10) else (rtA i n x L).2) := rfl
  obtain ⟨c, hc⟩ : ∃ c, c = icA i n x L r := ⟨_, rfl⟩
  rw [← hc] at HIC ⊢
  obtain ⟨z, hz⟩ : ∃ z, z = (rtA i n x L).1 := ⟨_, rfl⟩
  obtain ⟨k, hk⟩ : ∃ k, k = (rtA i n x L).2 := ⟨_, rfl⟩
  rw [← hz, ← hk] at QR HIC
  rw [← hz] at hz32
  rw [← hk] at hcd
  have Z32 : Hid (z.length = 32) := hz32
  have R32 : Hid (r.length = 32) := hr
  have hzs : (hbs z).size = 32 := by rw [hbs_size, hz32]
  have hxs : (hbs x).size = 32 := by rw [hbs_size, hx]
  have hrs : (hbs r).size = 32 := by rw [hbs_size, hr]
  have HC9 : Hid (w.cell? ⟨1, 0, none⟩ = some (sen (a 9))) := hS.c9
  obtain ⟨ln, hln⟩ : ∃ q, q = L.length := ⟨_, rfl⟩
  rw [← hln] at QR ⊢
  clear hc hz hk hz32 hx hL32 hLl hr hs hLd hS hln
  go_enter Tryd.func14, Tryd.ntmps14
  go_upto_region 1 with fail
  have b1 := heap_next w (.cells (hbs x) 24) (.cells (hbs r) 24)
  have b0 : ((w.alloc (.cells (hbs x) 24)).alloc (.cells (hbs r) 24)).heap[w.heap.size]? = some (.cells (hbs x) 24) := ((nwa (w.alloc (.cells (hbs x) 24)) _).block _ (heap_lt (heap_new _ _)) (fun f => f)).trans (heap_new _ _)
  have nA : Nw w ((w.alloc (.cells (hbs x) 24)).alloc (.cells (hbs r) 24)) := (nwa w _).alloc _
  obtain ⟨w1, hw1⟩ : ∃ q, (w.alloc (.cells (hbs x) 24)).alloc (.cells (hbs r) 24) = q := ⟨_, rfl⟩
  rw [hw1] at b0 b1 nA ⊢
  clear hw1
  obtain ⟨xb, hxb⟩ : ∃ q, q = w.heap.size := ⟨_, rfl⟩
  rw [← hxb] at b0 b1 ⊢
  obtain ⟨rb, hrb⟩ : ∃ q, q = xb + 1 := ⟨_, rfl⟩
  rw [← hrb] at b1 ⊢
  have HB : Hid (w1.heap[rb]? = some (.cells (hbs r) 24)) := b1
  have HX : Hid (w1.heap[xb]? = some (.cells (hbs x) 24)) := b0
  have HN : Hid (Nw w w1) := nA
  clear hxb hrb b0 b1 nA
  go_wp2_with (refine wple_load_at rfl (.tmp 7) 24 32 rfl Tryd.isAgg24 Tryd.sizeOf24 xb 0 rfl (hbs x) hxs (hash_cells HX.out) ?_)
  refine (QR.out _ HN.out).mono ?_
  rintro e w2 ⟨rfl, n2⟩
  have HN2 : Hid (Nw w w2) := HN.out.tr n2
  have HB2 : Hid (w2.heap[rb]? = some (.cells (hbs r) 24)) := (n2.block _ (heap_lt HB.out) (fun f => f)).trans HB.out
  clear n2 HX HB HN
  have hes := fun y W => neq_sen y W
  have hen := fun W => neq_nilE W
  go_upto_region 2 with (refine wp_store_agg rfl (.tmp 11) (.tmp 19) 24 32 rfl Tryd.sizeOf24 w2.heap.size 0 rfl z32 24 (by rw [← z32_h]; exact heap_new _ _) (hbs z) rfl hzs (hbs_one _) (by decide) (hbs z) (by rw [dropA z32_size]; simp) ?_; intro w3 j3 f3 z3; clear z3)
  have N3 : Hid (Nw w2 w3) := (nwa w2 _).trans f3 (fun k hk q => by omega)
  have HB3 : Hid (w3.heap[rb]? = some (.cells (hbs r) 24)) := (N3.out.block _ (heap_lt HB2.out) (fun f => f)).trans HB2.out
  have HN3 : Hid (Nw w w3) := HN2.out.tr N3.out
  obtain ⟨zb, hzb⟩ : ∃ q, q = w2.heap.size := ⟨_, rfl⟩
  rw [← hzb] at j3 ⊢
  have HZ3 : Hid (w3.heap[zb]? = some (.cells (hbs z) 24)) := j3
  have hc9 := HN3.out.cellOf HC9.out
  clear j3 f3 hzb N3
  rcases hcd with rfl | rfl | rfl
  · rw [show erv a 0 = .nilIface from rfl]
    go_upto_region 4 with fail
    by_cases he : z = r
    · have hd : (!decide (z = r)) = false := by rw [decide_eq_true he]; rfl
      have HR : Hid (c = 0) := by show c = 0; rw [HIC.out, if_pos rfl, if_pos he]
      clear he
      go_wp2_with first
        | refine wple_load_at rfl (.tmp 11) 24 32 rfl Tryd.isAgg24 Tryd.sizeOf24 zb 0 rfl (hbs z) hzs (hash_cells HZ3.out) ?_
        | refine wple_load_at rfl (.tmp 9) 24 32 rfl Tryd.isAgg24 Tryd.sizeOf24 rb 0 rfl (hbs r) hrs (hash_cells HB3.out) ?_
        | (refine wpl_neqA rfl (.tmp 24) (.tmp 25) rfl z r Z32.out R32.out rfl rfl ?_; rw [hd])
      go_ret
      rw [HR.out]
      exact ⟨rfl, HN3.out⟩
    · have hd : (!decide (z = r)) = true := by rw [decide_eq_false he]; rfl
      have HR : Hid (c = 10) := by show c = 10; rw [HIC.out, if_pos rfl, if_neg he]
      clear he
      go_wp2_with first
        | refine wple_load_at rfl (.tmp 11) 24 32 rfl Tryd.isAgg24 Tryd.sizeOf24 zb 0 rfl (hbs z) hzs (hash_cells HZ3.out) ?_
        | refine wple_load_at rfl (.tmp 9) 24 32 rfl Tryd.isAgg24 Tryd.sizeOf24 rb 0 rfl (hbs r) hrs (hash_cells HB3.out) ?_
        | (refine wpl_neqA rfl (.tmp 24) (.tmp 25) rfl z r Z32.out R32.out rfl rfl ?_; rw [hd])
      go_ret
      rw [HR.out]
      exact ⟨rfl, HN3.out⟩
  · rw [show erv a 5 = sen (a 4) from rfl]
    have HR : Hid (c = 5) := by show c = 5; rw [HIC.out, if_neg (by decide)]
    go_wp2
    go_ret
    rw [HR.out]
    exact ⟨rfl, HN3.out⟩
  · rw [show erv a 10 = sen (a 9) from rfl]
    have HR : Hid (c = 10) := by show c = 10; rw [HIC.out, if_neg (by decide)]
    go_wp2
    go_ret
    rw [HR.out]
    exact ⟨rfl, HN3.out⟩
end Go.Proofs.YtaeocbdphfkflaaDoor
