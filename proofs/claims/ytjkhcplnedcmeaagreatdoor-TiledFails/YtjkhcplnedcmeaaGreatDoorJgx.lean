/- tile: over, Hash. -/
import Derived.Test.YtjkhcplnedcmeaaGreatDoorGHq
import Derived.Test.YtjkhcplnedcmeaaGreatDoorHg
import Derived.Test.YtjkhcplnedcmeaaGreatDoorPg
import Derived.Deep.DeepCutAuto
import Derived.Test.YtjkhcplnedcmeaaGreatDoorUg2
namespace Go.Proofs.YtjkhcplnedcmeaaGreatDoor
open Go.RowKit
set_option linter.unusedVariables false
set_option linter.unusedSimpArgs false
theorem elemHu : Tryz.prog.elem 45 = 69 := by kernel_rfl
theorem undHu : Tryz.prog.underlying 45 = some (.slice (Tryz.prog.elem 45)) := by rw [elemHu]; exact Tryz.underlying45
/-- A row of hashes that has room. -/
def Rw (w : World) (ad : Option Addr) (c : Nat) (l : List (List UInt8)) : Prop := l.length ≤ c ∧ Hss w (.slice ad l.length c) l
theorem Rw.nw {w w' : World} {ad : Option Addr} {c : Nat} {l : List (List UInt8)} (h : Rw w ad c l) (hl : ∀ x ∈ l, x.length = 32) (n : Nw w w') : Rw w' ad c l := ⟨h.1, h.2.nw hl n⟩
/-- A piece of a row. -/
theorem Rw.cut {w : World} {g o c : Nat} {l : List (List UInt8)} (h : Rw w (some ⟨g, o, none⟩) c l) (x n : Nat) (hx : x + n ≤ l.length) : Rw w (some ⟨g, o + x * 32, none⟩) (c - x) ((l.drop x).take n) := by
  have hlen : ((l.drop x).take n).length = n := by simp; omega
  refine ⟨by have := h.1; omega, _, _, rfl, fun k y hy => ⟨g, o + x * 32, rfl, fun j hj => ?_⟩⟩
  have hy2 : l[x + k]? = some y := by
    rw [List.getElem?_take] at hy
    split at hy
    · rwa [List.getElem?_drop] at hy
    · simp at hy
  obtain ⟨ad, cp, e, h2⟩ := h.2
  injection e with e1 e2 e3
  obtain ⟨g', o', e4, h3⟩ := h2 _ _ hy2
  rw [← e1] at e4
  simp only [Option.some.injEq, Addr.mk.injEq, and_true] at e4
  obtain ⟨rfl, rfl⟩ := e4
  rw [show o + x * 32 + k * 32 + j = o + (x + k) * 32 + j by omega]
  exact h3 j hj
theorem Rw.some {w : World} {ad : Option Addr} {c : Nat} {l : List (List UInt8)} (h : Rw w ad c l) (h0 : 0 < l.length) : ∃ g o, ad = some ⟨g, o, none⟩ := by
  obtain ⟨ad', cp, e, h2⟩ := h.2
  injection e with e1 e2 e3
  obtain ⟨g, o, e4, _⟩ := h2 0 _ (List.getElem?_eq_getElem h0)
  exact ⟨g, o, e1.trans e4⟩
theorem cut_hh (ad : Option Addr) (n cap k : Nat) (hk : k ≤ cap) (w : World) : (Instr.sliceAt 45 (.slice ad n cap) none (some (.int .i64 (k : Int))) none).run Tryz.prog w = .ok (.slice ad k cap) w := by
  rw [run_sliceAt_slice w _ _ _ _ _ undHu, run_slice_h w _ ad n cap undHu .i64 k (by omega) (by omega), elemHu, Tryz.sizeOf69 w]
  cases ad <;> simp [sliced, Addr.add]
theorem cut_hl (g o n cap k : Nat) (hk : k < n) (hn : n ≤ cap) (w : World) : (Instr.sliceAt 45 (.slice (some ⟨g, o, none⟩) n cap) (some (.int .i64 (k : Int))) none none).run Tryz.prog w = .ok (.slice (some ⟨g, o + k * 32, none⟩) (n - k) (cap - k)) w := by
  rw [run_sliceAt_slice w _ _ _ _ _ undHu, run_slice_l w _ (some ⟨g, o, none⟩) n cap undHu .i64 k (by omega) (by omega), elemHu, Tryz.sizeOf69 w]
  have : ¬ cap = k := by omega
  simp [sliced, this, Addr.add]
theorem cut_hlh (g o n cap x y : Nat) (hk : x < y) (hn : y ≤ cap) (z : Int) (hz : z = (y : Int)) (w : World) : (Instr.sliceAt 45 (.slice (some ⟨g, o, none⟩) n cap) (some (.int .i64 (x : Int))) (some (.int .i64 z)) none).run Tryz.prog w = .ok (.slice (some ⟨g, o + x * 32, none⟩) (y - x) (cap - x)) w := by
  subst hz
  rw [run_sliceAt_slice w _ _ _ _ _ undHu, run_slice_lh w _ (some ⟨g, o, none⟩) n cap undHu .i64 .i64 x y (by omega) (by omega) (by omega), elemHu, Tryz.sizeOf69 w]
  have : ¬ cap = x := by omega
  simp [sliced, this, Addr.add]
/-- The hash of the whole tree over these hashes. -/
def ovr : Nat → List (List UInt8) → List UInt8
  | 0, l => l.headD zh
  | k + 1, l => Sh (1 :: (ovr k (l.take (2 ^ k)) ++ ovr k (l.drop (2 ^ k))))
theorem ovr_32 : ∀ (k : Nat) (l : List (List UInt8)), (∀ x ∈ l, x.length = 32) → (ovr k l).length = 32
  | 0, [], _ => by show zh.length = 32; simp
  | 0, x :: l, h => h x (by simp)
  | k + 1, l, h => by show (Sh _).length = 32; rw [Sh_len]
set_option maxRecDepth 100000 in
set_option maxHeartbeats 1000000 in
theorem over_one (x : List UInt8) (hx : x.length = 32) (g o c : Nat) (w : World) (hc : ∀ j, j < 32 → w.cell? ⟨g, o + j, none⟩ = (hbs x)[j]?) : Calls Tryz.prog 225 #[.slice (some ⟨g, o, none⟩) 1 c] w fun e w' => e = .returned (.agg (hbs x)) ∧ Nw w w' := by
  have hR : (hbs x).size = 32 := by rw [hbs_size, hx]
  obtain ⟨w1, hw1⟩ : ∃ q, w.alloc (.cells z32 69) = q := ⟨_, rfl⟩
  have n1 : Nw w w1 := by rw [← hw1]; exact nwa w _
  have b0 : w1.heap[w.heap.size]? = some (.cells z32 69) := by rw [← hw1]; exact heap_new _ _
  have hc1 : ∀ j, j < 32 → w1.cell? ⟨g, o + j, none⟩ = (hbs x)[j]? := fun j hj => by
    have h3 : (hbs x)[j]? = some (.int .u8 ((x.getD j 0).toNat : Nat)) := hbs_get x j (by rw [hx]; exact hj)
    rw [h3]
    exact n1.cellOf ((hc j hj).trans h3)
  have HC : Hid (∀ j, j < 32 → w1.cell? ⟨g, o + j, none⟩ = (hbs x)[j]?) := hc1
  clear hc hc1
  go_enter Tryz.func225, Tryz.ntmps225
  go_upto_region 1 with fail
  rw [z32_h, hw1]
  clear hw1
  go_wp2_with (first
    | (refine wpl_load (by rfl) (.tmp 8) rfl g o rfl x hx HC.out ?_)
    | (refine wp_store_agg rfl (.tmp 2) (.tmp 9) 69 32 rfl Tryz.sizeOf69 w.heap.size 0 rfl z32 69 b0 (hbs x) rfl hR (hbs_one _) (by decide) (hbs x) (by rw [z32_drop]; simp) ?_; intro w3 j3 f3 z3))
  exact bodyPost_ret (results_cell Tryz.results225 Tryz.isAgg69 Tryz.sizeOf69 rfl j3 hR) rfl ⟨rfl, n1.trans f3 (fun k hk q => by omega)⟩
set_option maxRecDepth 100000 in
set_option maxHeartbeats 2000000 in
theorem over_cut (g o n cap k : Nat) (w : World) (A B : List UInt8) (hA : A.length = 32) (hB : B.length = 32) (hk : 0 < k) (hn : n = 2 * k) (hn2 : n ≤ 256) (hcap : n ≤ cap) (hLd : Laid w)
    (QA : ∀ W, Nw w W → Calls Tryz.prog 225 #[.slice (some ⟨g, o, none⟩) k cap] W fun e w' => e = .returned (.agg (hbs A)) ∧ Nw W w')
    (QB : ∀ W, Nw w W → Calls Tryz.prog 225 #[.slice (some ⟨g, o + k * 32, none⟩) (n - k) (cap - k)] W fun e w' => e = .returned (.agg (hbs B)) ∧ Nw W w') :
    Calls Tryz.prog 225 #[.slice (some ⟨g, o, none⟩) n cap] w fun e w' => e = .returned (.agg (hbs (Sh (1 :: (A ++ B))))) ∧ Nw w w' := by
  have QA' : Hid (∀ W, Nw w W → Calls Tryz.prog 225 #[.slice (some ⟨g, o, none⟩) k cap] W fun e w' => e = .returned (.agg (hbs A)) ∧ Nw W w') := QA
  have QB' : Hid (∀ W, Nw w W → Calls Tryz.prog 225 #[.slice (some ⟨g, o + k * 32, none⟩) (n - k) (cap - k)] W fun e w' => e = .returned (.agg (hbs B)) ∧ Nw W w') := QB
  have QN : Hid (∀ W, Nw w W → Calls Tryz.prog 42 #[.agg (hbs A), .agg (hbs B)] W fun e w' => e = .returned (.agg (hbs (Sh (1 :: (A ++ B))))) ∧ Nw W w') := fun W hW => node_any A B hA hB W (hLd.nw hW)
  clear QA QB hA hB hLd
  have hc1 := cut_hh (some ⟨g, o, none⟩) n cap k (by omega)
  have hc2 := cut_hl g o n cap k (by omega) (by omega)
  have HC1 := show Hid _ from hc1
  have HC2 := show Hid _ from hc2
  have hn1 : ((n : Int) == 1) = false := by simp; omega
  have hnk : (n : Int) / 2 = (k : Int) := by omega
  have HNK : Hid (n = 2 * k) := hn
  have HCN : Hid (n ≤ cap) := hcap
  clear hcap hc1 hc2 hn
  obtain ⟨R, hR⟩ : ∃ R, R = Sh (1 :: (A ++ B)) := ⟨_, rfl⟩
  have hRl : (hbs R).size = 32 := by rw [hbs_size, hR, Sh_len]
  rw [← hR] at QN ⊢
  clear hR
  obtain ⟨a, ha⟩ : ∃ a, a = hbs A := ⟨_, rfl⟩
  obtain ⟨b, hb'⟩ : ∃ b, b = hbs B := ⟨_, rfl⟩
  rw [← ha] at QA' QN
  rw [← hb'] at QB' QN
  clear ha hb'
  obtain ⟨w1, hw1⟩ : ∃ q, w.alloc (.cells z32 69) = q := ⟨_, rfl⟩
  have NW1 : Hid (Nw w w1) := by rw [← hw1]; exact nwa w _
  have b0 : w1.heap[w.heap.size]? = some (.cells z32 69) := by rw [← hw1]; exact heap_new _ _
  go_enter Tryz.func225, Tryz.ntmps225
  go_upto_region 1 with fail
  rw [z32_h, hw1]
  clear hw1
  go_wp2_with fail
  have nb : Nw w1 w1.drew := (Fr.refl _ _).drew
  refine wp_region_held_drew (S := fun _ => True) (by kernel_rfl) trivial ?_
  intro hS0
  refine wpAnyH_take (i := 0) (v := .slice (some ⟨g, o, none⟩) n cap) rfl (by kernel_rfl) (by kernel_rfl) (by kernel_rfl) (fun _ _ _ h => h) (Or.inl ⟨by rfl, by intro w hw; go_simp⟩) hS0 ?_
  try simp only [Act.put, List.setIfInBounds_toArray, List.set_cons_zero, List.set_cons_succ]
  refine wpAnyH_take (i := 1) (v := .int .i64 (k : Int)) rfl (by kernel_rfl) (by kernel_rfl) (by kernel_rfl) (fun _ _ _ h => h) (Or.inl ⟨by rfl, by intro w hw; go_simp⟩) hS0 ?_
  try simp only [Act.put, List.setIfInBounds_toArray, List.set_cons_zero, List.set_cons_succ]
  refine wpAnyH_take (i := 2) (v := .slice (some ⟨g, o, none⟩) k cap) rfl (by kernel_rfl) (by kernel_rfl) (by kernel_rfl) (fun _ _ _ h => h) (Or.inl ⟨by rfl, by intro w hw; have hh := HC1.out w; go_simp⟩) hS0 ?_
  try simp only [Act.put, List.setIfInBounds_toArray, List.set_cons_zero, List.set_cons_succ]
  refine wpAnyH_take (i := 4) (v := .slice (some ⟨g, o, none⟩) n cap) rfl (by kernel_rfl) (by kernel_rfl) (by kernel_rfl) (fun _ _ _ h => h) (Or.inl ⟨by rfl, by intro w hw; go_simp⟩) hS0 ?_
  try simp only [Act.put, List.setIfInBounds_toArray, List.set_cons_zero, List.set_cons_succ]
  refine wpAnyH_take (i := 5) (v := .int .i64 (k : Int)) rfl (by kernel_rfl) (by kernel_rfl) (by kernel_rfl) (fun _ _ _ h => h) (Or.inl ⟨by rfl, by intro w hw; go_simp⟩) hS0 ?_
  try simp only [Act.put, List.setIfInBounds_toArray, List.set_cons_zero, List.set_cons_succ]
  refine wpAnyH_take (i := 6) (v := .slice (some ⟨g, o + k * 32, none⟩) (n - k) (cap - k)) rfl (by kernel_rfl) (by kernel_rfl) (by kernel_rfl) (fun _ _ _ h => h) (Or.inl ⟨by rfl, by intro w hw; have hh := HC2.out w; go_simp⟩) hS0 ?_
  try simp only [Act.put, List.setIfInBounds_toArray, List.set_cons_zero, List.set_cons_succ]
  refine wpAnyH_ready (rs := [3]) (by kernel_rfl) (by simp) ?_
  refine AllReadyH.cons rfl (fun K' hK => ?_) AllReadyH.nil
  go_simp
  go_wp2_with (go_at_call 225; refine (QA'.out _ (NW1.out.tr nb)).mono ?_; rintro e2 w2 ⟨rfl, n2⟩)
  have m2 : Nw w1 w2 := Nw.tr nb n2
  refine hK.out _ _ trivial (fun hS0 => ?_)
  try simp only [Act.put, List.setIfInBounds_toArray, List.set_cons_zero, List.set_cons_succ]
  refine wpAnyH_ready (rs := [7]) (by kernel_rfl) (by simp) ?_
  refine AllReadyH.cons rfl (fun K' hK => ?_) AllReadyH.nil
  go_simp
  go_wp2_with (go_at_call 225; refine (QB'.out _ (NW1.out.tr m2)).mono ?_; rintro e3 w3 ⟨rfl, n3⟩)
  have m3 : Nw w1 w3 := Nw.tr m2 n3
  refine hK.out _ _ trivial (fun hS0 => ?_)
  try simp only [Act.put, List.setIfInBounds_toArray, List.set_cons_zero, List.set_cons_succ]
  refine wpAnyH_ready (rs := [8]) (by kernel_rfl) (by simp) ?_
  refine AllReadyH.cons rfl (fun K' hK => ?_) AllReadyH.nil
  go_simp
  go_wp2_with (go_at_call 42; refine (QN.out _ (NW1.out.tr m3)).mono ?_; rintro e4 w4 ⟨rfl, n4⟩)
  have m4 : Nw w1 w4 := Nw.tr m3 n4
  have jz := (m4.block _ (heap_lt b0) (fun f => f)).trans b0
  refine hK.out _ _ trivial (fun hS0 => ?_)
  try simp only [Act.put, List.setIfInBounds_toArray, List.set_cons_zero, List.set_cons_succ]
  refine wpAnyH_ready (rs := [9]) (by kernel_rfl) (by simp) ?_
  refine AllReadyH.cons rfl (fun K' hK => ?_) AllReadyH.nil
  refine step_store_agg rfl (.tmp 2) (.tmp 21) 69 32 rfl Tryz.sizeOf69 w.heap.size 0 rfl z32 69 jz (hbs R) rfl hRl (hbs_one _) (by decide) (hbs R) (by rw [z32_drop]; simp) ?_
  intro w5 j5 f5 z5
  refine hK.out _ _ trivial (fun hS0 => ?_)
  try simp only [Act.put, List.setIfInBounds_toArray, List.set_cons_zero, List.set_cons_succ]
  refine wpAnyH_done (by kernel_rfl) ?_ _
  go_wp2_with fail
  exact bodyPost_ret (results_cell Tryz.results225 Tryz.isAgg69 Tryz.sizeOf69 rfl j5 hRl) rfl ⟨rfl, (NW1.out.tr m4).trans f5 (fun k hk q => by omega)⟩
theorem over_any : ∀ (k : Nat) (l : List (List UInt8)) (g o c : Nat) (w : World), k ≤ 8 → l.length = 2 ^ k → (∀ x ∈ l, x.length = 32) → Rw w (some ⟨g, o, none⟩) c l → Laid w →
    Calls Tryz.prog 225 #[.slice (some ⟨g, o, none⟩) l.length c] w fun e w' => e = .returned (.agg (hbs (ovr k l))) ∧ Nw w w'
  | 0, l, g, o, c, w, hk, hl, h32, hw, hLd => by
    match l, hl with
    | [x], _ =>
      obtain ⟨ad, cp, e, h2⟩ := hw.2
      injection e with e1 e2 e3
      obtain ⟨g', o', e4, h3⟩ := h2 0 x rfl
      rw [← e1] at e4
      simp only [Option.some.injEq, Addr.mk.injEq, and_true] at e4
      obtain ⟨rfl, rfl⟩ := e4
      exact over_one x (h32 x (by simp)) g o c w (fun j hj => by have := h3 j hj; rwa [Nat.zero_mul, Nat.add_zero] at this)
  | k + 1, l, g, o, c, w, hk, hl, h32, hw, hLd => by
    have hp : 2 ^ (k + 1) = 2 * 2 ^ k := by rw [Nat.pow_succ]; omega
    have h0 : 0 < 2 ^ k := Nat.pow_pos (by decide)
    have h8 : 2 ^ (k + 1) ≤ 2 ^ 8 := Nat.pow_le_pow_right (by decide) hk
    have hA : ∀ x ∈ l.take (2 ^ k), x.length = 32 := fun x hx => h32 x (List.mem_of_mem_take hx)
    have hB : ∀ x ∈ l.drop (2 ^ k), x.length = 32 := fun x hx => h32 x (List.mem_of_mem_drop hx)
    have lA : (l.take (2 ^ k)).length = 2 ^ k := by simp; omega
    have lB : (l.drop (2 ^ k)).length = 2 ^ k := by simp; omega
    refine over_cut g o l.length c (2 ^ k) w (ovr k (l.take (2 ^ k))) (ovr k (l.drop (2 ^ k))) (ovr_32 k _ hA) (ovr_32 k _ hB) h0 (by omega) (by omega) hw.1 hLd (fun W nW => ?_) (fun W nW => ?_)
    · have hc := (hw.nw h32 nW).cut 0 (2 ^ k) (by omega)
      rw [List.drop_zero, Nat.zero_mul, Nat.add_zero, Nat.sub_zero] at hc
      have := over_any k _ g o c W (by omega) lA hA hc (hLd.nw nW)
      rwa [lA] at this
    · have hc := (hw.nw h32 nW).cut (2 ^ k) (2 ^ k) (by omega)
      rw [List.take_of_length_le (by omega)] at hc
      have := over_any k _ g _ _ W (by omega) lB hB hc (hLd.nw nW)
      rw [lB] at this
      rw [show l.length - 2 ^ k = 2 ^ k by omega]
      exact this
end Go.Proofs.YtjkhcplnedcmeaaGreatDoor
namespace Go.Proofs.YtjkhcplnedcmeaaGreatDoor
open Go.RowKit
set_option linter.unusedVariables false
set_option linter.unusedSimpArgs false
/-- Hashes two by two. -/
def prs : List (List UInt8) → List (List UInt8)
  | a :: b :: r => Sh (1 :: (a ++ b)) :: prs r
  | _ => []
def prN : Nat → List (List UInt8) → List (List UInt8)
  | 0, l => l
  | k + 1, l => prs (prN k l)
theorem prs_len : ∀ l : List (List UInt8), (prs l).length = l.length / 2
  | [] => rfl
  | [_] => by simp [prs]
  | a :: b :: r => by
    have := prs_len r
    simp only [prs, List.length_cons, this]
    omega
theorem prs_at : ∀ (l : List (List UInt8)) (i : Nat) (a b : List UInt8), l[2 * i]? = some a → l[2 * i + 1]? = some b → (prs l)[i]? = some (Sh (1 :: (a ++ b)))
  | [], i, a, b, h, _ => by simp at h
  | [x], 0, a, b, _, h => by simp at h
  | [x], i + 1, a, b, h, _ => by simp at h
  | x :: y :: r, 0, a, b, h, k => by
    simp at h k
    subst h k
    simp [prs]
  | x :: y :: r, i + 1, a, b, h, k => by
    rw [show 2 * (i + 1) = 2 * i + 1 + 1 by omega] at h
    rw [show 2 * (i + 1) + 1 = 2 * i + 1 + 1 + 1 by omega] at k
    simp only [List.getElem?_cons_succ] at h k
    simp only [prs, List.getElem?_cons_succ]
    exact prs_at r i a b h k
theorem prs_32 : ∀ (l : List (List UInt8)), ∀ x ∈ prs l, x.length = 32
  | [], x, h => by simp [prs] at h
  | [_], x, h => by simp [prs] at h
  | a :: b :: r, x, h => by
    simp only [prs, List.mem_cons] at h
    rcases h with h | h
    · rw [h, Sh_len]
    · exact prs_32 r x h
theorem prN_len (k : Nat) (l : List (List UInt8)) : (prN k l).length = l.length / 2 ^ k := by
  induction k with
  | zero => simp [prN]
  | succ k ih => rw [prN, prs_len, ih, Nat.div_div_eq_div_mul, Nat.pow_succ]
theorem prN_32 (k : Nat) (l : List (List UInt8)) (h : ∀ x ∈ l, x.length = 32) : ∀ x ∈ prN k l, x.length = 32 := by
  cases k with
  | zero => exact h
  | succ k => exact prs_32 _
theorem prN_add (a b : Nat) (l : List (List UInt8)) : prN a (prN b l) = prN (b + a) l := by
  induction a with
  | zero => rfl
  | succ a ih => rw [prN, ih]; rfl
theorem ovr_one (x : List UInt8) : ovr 0 [x] = x := rfl
theorem prN_at : ∀ (k : Nat) (l : List (List UInt8)) (i : Nat), (i + 1) * 2 ^ k ≤ l.length → (prN k l)[i]? = some (ovr k ((l.drop (i * 2 ^ k)).take (2 ^ k)))
  | 0, l, i, h => by
    rw [Nat.pow_zero, Nat.mul_one] at h
    simp only [prN, Nat.pow_zero, Nat.mul_one]
    rw [List.drop_eq_getElem_cons (by omega), List.take_succ_cons, List.take_zero, ovr_one, List.getElem?_eq_getElem (by omega)]
  | k + 1, l, i, h => by
    have e : (i + 1) * 2 ^ (k + 1) = (2 * i + 1 + 1) * 2 ^ k := by rw [Nat.pow_succ, Nat.mul_comm (2 ^ k) 2, ← Nat.mul_assoc]; congr 1; omega
    have e2 : (2 * i + 1 + 1) * 2 ^ k = (2 * i + 1) * 2 ^ k + 2 ^ k := by rw [Nat.succ_mul]
    have h1 := prN_at k l (2 * i) (by rw [e, e2] at h; exact Nat.le_trans (Nat.le_add_right _ _) h)
    have h2 := prN_at k l (2 * i + 1) (by rw [e] at h; exact h)
    have ea : i * 2 ^ (k + 1) = 2 * i * 2 ^ k := by rw [Nat.pow_succ, Nat.mul_comm (2 ^ k) 2, ← Nat.mul_assoc, Nat.mul_comm i 2]
    have eb : 2 ^ (k + 1) = 2 ^ k + 2 ^ k := by rw [Nat.pow_succ]; omega
    have ec : (2 * i + 1) * 2 ^ k = 2 * i * 2 ^ k + 2 ^ k := by rw [Nat.succ_mul]
    rw [prN, prs_at _ i _ _ h1 h2, ovr, ea, eb, List.take_take, Nat.min_eq_left (Nat.le_add_right _ _), List.drop_take, List.drop_drop, ec, Nat.add_sub_cancel]
/-- The hashes of a level of tiles. -/
def rwT (l : List (List UInt8)) (q : Nat) : List (List UInt8) := prN (8 * q) l
theorem rwT_len (l : List (List UInt8)) (q : Nat) : (rwT l q).length = nod8 q l.length := prN_len _ _
theorem rwT_32 (l : List (List UInt8)) (h : ∀ x ∈ l, x.length = 32) (q : Nat) : ∀ x ∈ rwT l q, x.length = 32 := prN_32 _ _ h
/-- The hashes of a tile. -/
def tlH (l : List (List UInt8)) (q i W : Nat) : List (List UInt8) := ((rwT l q).drop (256 * i)).take W
theorem tlH_32 (l : List (List UInt8)) (h : ∀ x ∈ l, x.length = 32) (q i W : Nat) : ∀ x ∈ tlH l q i W, x.length = 32 := fun x hx => rwT_32 l h q x (List.mem_of_mem_drop (List.mem_of_mem_take hx))
theorem tlH_len (l : List (List UInt8)) (q i W : Nat) (h : 256 * i + W ≤ nod8 q l.length) : (tlH l q i W).length = W := by
  unfold tlH
  rw [List.length_take, List.length_drop, rwT_len]; omega
theorem wid_in (q i n W : Nat) (h : wid q i n = W) (h0 : 0 < W) : 256 * i + W ≤ nod8 q n ∧ W ≤ 256 ∧ q ≤ 7 := by
  unfold wid at h
  split at h <;> omega
/-- The hash of a tree, out of its tile. -/
theorem ovr_tile (l : List (List UInt8)) (q r I W A X : Nat) (h1 : I * 2 ^ r = 256 * X + A) (h2 : A + 2 ^ r ≤ W) (h3 : 256 * X + W ≤ nod8 q l.length) :
    ovr r (((tlH l q X W).drop A).take (2 ^ r)) = ovr (8 * q + r) ((l.drop (I * 2 ^ (8 * q + r))).take (2 ^ (8 * q + r))) := by
  have hl : (rwT l q).length = nod8 q l.length := rwT_len l q
  have hb : (I + 1) * 2 ^ r ≤ (rwT l q).length := by rw [hl, Nat.succ_mul, h1]; omega
  have a1 := prN_at r (rwT l q) I hb
  have hb2 : (I + 1) * 2 ^ (8 * q + r) ≤ l.length := by
    rw [hl] at hb
    unfold nod8 at hb
    have := Nat.mul_le_of_le_div _ _ _ hb
    rw [Nat.pow_add, Nat.mul_comm (2 ^ (8 * q)), ← Nat.mul_assoc]
    exact this
  have a2 := prN_at (8 * q + r) l I hb2
  rw [rwT, prN_add, a2] at a1
  injection a1 with a1
  rw [a1]
  congr 1
  unfold tlH
  rw [List.drop_take, List.take_take, List.drop_drop, Nat.min_eq_left (by omega), h1]
  rfl
end Go.Proofs.YtjkhcplnedcmeaaGreatDoor
namespace Go.Proofs.YtjkhcplnedcmeaaGreatDoor
open Go.RowKit
set_option linter.unusedVariables false
set_option linter.unusedSimpArgs false
end Go.Proofs.YtjkhcplnedcmeaaGreatDoor
