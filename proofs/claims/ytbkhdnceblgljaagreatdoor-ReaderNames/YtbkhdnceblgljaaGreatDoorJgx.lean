/- reader: the hashes of a log, level by level (pure). -/
import Derived.Test.YtbkhdnceblgljaaGreatDoorUh
import Derived.Test.YtbkhdnceblgljaaGreatDoorU2
import Derived.Deep.DeepCutAuto
namespace Go.Proofs.YtbkhdnceblgljaaGreatDoor
open Go.RowKit
set_option linter.unusedVariables false
set_option linter.unusedSimpArgs false
/-- Hashes two by two. -/
def prs : List (List UInt8) → List (List UInt8)
  | a :: b :: r => Sh (1 :: (a ++ b)) :: prs r
  | _ => []
def prN : Nat → List (List UInt8) → List (List UInt8)
  | 0, l => l
  | k + 1, l => prs (prN k l)
theorem prs_len : ∀ l : List (List UInt8), (prs l).length = l.length / 2
  | [] => rfl
  | [_] => by simp [prs]
  | a :: b :: r => by
    have := prs_len r
    simp only [prs, List.length_cons, this]
    omega
theorem prs_at : ∀ (l : List (List UInt8)) (i : Nat) (a b : List UInt8), l[2 * i]? = some a → l[2 * i + 1]? = some b → (prs l)[i]? = some (Sh (1 :: (a ++ b)))
  | [], i, a, b, h, _ => by simp at h
  | [x], 0, a, b, _, h => by simp at h
  | [x], i + 1, a, b, h, _ => by simp at h
  | x :: y :: r, 0, a, b, h, k => by
    simp at h k
    subst h k
    simp [prs]
  | x :: y :: r, i + 1, a, b, h, k => by
    rw [show 2 * (i + 1) = 2 * i + 1 + 1 by omega] at h
    rw [show 2 * (i + 1) + 1 = 2 * i + 1 + 1 + 1 by omega] at k
    simp only [List.getElem?_cons_succ] at h k
    simp only [prs, List.getElem?_cons_succ]
    exact prs_at r i a b h k
theorem prs_32 : ∀ (l : List (List UInt8)), ∀ x ∈ prs l, x.length = 32
  | [], x, h => by simp [prs] at h
  | [_], x, h => by simp [prs] at h
  | a :: b :: r, x, h => by
    simp only [prs, List.mem_cons] at h
    rcases h with h | h
    · rw [h, Sh_len]
    · exact prs_32 r x h
theorem prs_take (l : List (List UInt8)) (i : Nat) (a b : List UInt8) (h : l[2 * i]? = some a) (k : l[2 * i + 1]? = some b) : (prs l).take (i + 1) = (prs l).take i ++ [Sh (1 :: (a ++ b))] := by
  rw [List.take_add_one, prs_at l i a b h k]; rfl
theorem prN_len (k : Nat) (l : List (List UInt8)) : (prN k l).length = l.length / 2 ^ k := by
  induction k with
  | zero => simp [prN]
  | succ k ih => rw [prN, prs_len, ih, Nat.div_div_eq_div_mul, Nat.pow_succ]
theorem prN_32 (k : Nat) (l : List (List UInt8)) (h : ∀ x ∈ l, x.length = 32) : ∀ x ∈ prN k l, x.length = 32 := by
  cases k with
  | zero => exact h
  | succ k => exact prs_32 _
theorem prN_add (a b : Nat) (l : List (List UInt8)) : prN a (prN b l) = prN (b + a) l := by
  induction a with
  | zero => rfl
  | succ a ih => rw [prN, ih]; rfl
theorem ovr_one (x : List UInt8) : ovr 0 [x] = x := rfl
theorem prN_at : ∀ (k : Nat) (l : List (List UInt8)) (i : Nat), (i + 1) * 2 ^ k ≤ l.length → (prN k l)[i]? = some (ovr k ((l.drop (i * 2 ^ k)).take (2 ^ k)))
  | 0, l, i, h => by
    rw [Nat.pow_zero, Nat.mul_one] at h
    simp only [prN, Nat.pow_zero, Nat.mul_one]
    rw [List.drop_eq_getElem_cons (by omega), List.take_succ_cons, List.take_zero, ovr_one, List.getElem?_eq_getElem (by omega)]
  | k + 1, l, i, h => by
    have e : (i + 1) * 2 ^ (k + 1) = (2 * i + 1 + 1) * 2 ^ k := by rw [Nat.pow_succ, Nat.mul_comm (2 ^ k) 2, ← Nat.mul_assoc]; congr 1; omega
    have e2 : (2 * i + 1 + 1) * 2 ^ k = (2 * i + 1) * 2 ^ k + 2 ^ k := by rw [Nat.succ_mul]
    have h1 := prN_at k l (2 * i) (by rw [e, e2] at h; exact Nat.le_trans (Nat.le_add_right _ _) h)
    have h2 := prN_at k l (2 * i + 1) (by rw [e] at h; exact h)
    have ea : i * 2 ^ (k + 1) = 2 * i * 2 ^ k := by rw [Nat.pow_succ, Nat.mul_comm (2 ^ k) 2, ← Nat.mul_assoc, Nat.mul_comm i 2]
    have eb : 2 ^ (k + 1) = 2 ^ k + 2 ^ k := by rw [Nat.pow_succ]; omega
    have ec : (2 * i + 1) * 2 ^ k = 2 * i * 2 ^ k + 2 ^ k := by rw [Nat.succ_mul]
    rw [prN, prs_at _ i _ _ h1 h2, ovr, ea, eb, List.take_take, Nat.min_eq_left (Nat.le_add_right _ _), List.drop_take, List.drop_drop, ec, Nat.add_sub_cancel]
/-- The hashes of a level of tiles. -/
def rwT (l : List (List UInt8)) (q : Nat) : List (List UInt8) := prN (8 * q) l
theorem rwT_len (l : List (List UInt8)) (q : Nat) : (rwT l q).length = nod8 q l.length := prN_len _ _
theorem rwT_32 (l : List (List UInt8)) (h : ∀ x ∈ l, x.length = 32) (q : Nat) : ∀ x ∈ rwT l q, x.length = 32 := prN_32 _ _ h
/-- The hashes of a tile. -/
def tlH (l : List (List UInt8)) (q i W : Nat) : List (List UInt8) := ((rwT l q).drop (256 * i)).take W
theorem tlH_32 (l : List (List UInt8)) (h : ∀ x ∈ l, x.length = 32) (q i W : Nat) : ∀ x ∈ tlH l q i W, x.length = 32 := fun x hx => rwT_32 l h q x (List.mem_of_mem_drop (List.mem_of_mem_take hx))
theorem tlH_len (l : List (List UInt8)) (q i W : Nat) (h : 256 * i + W ≤ nod8 q l.length) : (tlH l q i W).length = W := by
  unfold tlH
  rw [List.length_take, List.length_drop, rwT_len]; omega
theorem wid_in (q i n W : Nat) (h : wid q i n = W) (h0 : 0 < W) : 256 * i + W ≤ nod8 q n ∧ W ≤ 256 ∧ q ≤ 7 := by
  unfold wid at h
  split at h <;> omega
/-- The hash of a tree, out of its tile. -/
theorem ovr_tile (l : List (List UInt8)) (q r I W A X : Nat) (h1 : I * 2 ^ r = 256 * X + A) (h2 : A + 2 ^ r ≤ W) (h3 : 256 * X + W ≤ nod8 q l.length) :
    ovr r (((tlH l q X W).drop A).take (2 ^ r)) = ovr (8 * q + r) ((l.drop (I * 2 ^ (8 * q + r))).take (2 ^ (8 * q + r))) := by
  have hl : (rwT l q).length = nod8 q l.length := rwT_len l q
  have hb : (I + 1) * 2 ^ r ≤ (rwT l q).length := by rw [hl, Nat.succ_mul, h1]; omega
  have a1 := prN_at r (rwT l q) I hb
  have hb2 : (I + 1) * 2 ^ (8 * q + r) ≤ l.length := by
    rw [hl] at hb
    unfold nod8 at hb
    have := Nat.mul_le_of_le_div _ _ _ hb
    rw [Nat.pow_add, Nat.mul_comm (2 ^ (8 * q)), ← Nat.mul_assoc]
    exact this
  have a2 := prN_at (8 * q + r) l I hb2
  rw [rwT, prN_add, a2] at a1
  injection a1 with a1
  rw [a1]
  congr 1
  unfold tlH
  rw [List.drop_take, List.take_take, List.drop_drop, Nat.min_eq_left (by omega), h1]
  rfl
end Go.Proofs.YtbkhdnceblgljaaGreatDoor
namespace Go.Proofs.YtbkhdnceblgljaaGreatDoor
open Go.RowKit
set_option linter.unusedVariables false
set_option linter.unusedSimpArgs false
set_option maxRecDepth 100000 in
set_option maxHeartbeats 1000000 in
theorem tree14_one (x : List UInt8) (hx : x.length = 32) (g o c : Nat) (w : World) (hc : ∀ j, j < 32 → w.cell? ⟨g, o + j, none⟩ = (hbs x)[j]?) : Calls Tryz.prog 16 #[.slice (some ⟨g, o, none⟩) 1 c] w fun e w' => e = .returned (.agg (hbs x)) ∧ Nw w w' := by
  have hR : (hbs x).size = 32 := by rw [hbs_size, hx]
  obtain ⟨w1, hw1⟩ : ∃ q, w.alloc (.cells z32 42) = q := ⟨_, rfl⟩
  have n1 : Nw w w1 := by rw [← hw1]; exact nwa w _
  have b0 : w1.heap[w.heap.size]? = some (.cells z32 42) := by rw [← hw1]; exact heap_new _ _
  have hc1 : ∀ j, j < 32 → w1.cell? ⟨g, o + j, none⟩ = (hbs x)[j]? := fun j hj => by
    have h3 : (hbs x)[j]? = some (.int .u8 ((x.getD j 0).toNat : Nat)) := hbs_get x j (by rw [hx]; exact hj)
    rw [h3]
    exact n1.cellOf ((hc j hj).trans h3)
  have HC : Hid (∀ j, j < 32 → w1.cell? ⟨g, o + j, none⟩ = (hbs x)[j]?) := hc1
  clear hc hc1
  go_enter Tryz.func16, Tryz.ntmps16
  go_upto_region 1 with fail
  rw [z32_h, hw1]
  clear hw1
  go_wp2_with (first
    | (refine wpl_load (by rfl) (.tmp 7) rfl g o rfl x hx HC.out ?_)
    | (refine wp_store_agg rfl (.tmp 2) (.tmp 8) 42 32 rfl Tryz.sizeOf42 w.heap.size 0 rfl z32 42 b0 (hbs x) rfl hR (hbs_one _) (by decide) (hbs x) (by rw [z32_drop]; simp) ?_; intro w3 j3 f3 z3))
  exact bodyPost_ret (results_cell Tryz.results16 Tryz.isAgg42 Tryz.sizeOf42 rfl j3 hR) rfl ⟨rfl, n1.trans f3 (fun k hk q => by omega)⟩
set_option maxRecDepth 100000 in
set_option maxHeartbeats 2000000 in
theorem tree14_cut (g o n cap k : Nat) (w : World) (A B : List UInt8) (hA : A.length = 32) (hB : B.length = 32) (hk : 0 < k) (hn : n = 2 * k) (hn2 : n ≤ 1024) (hcap : n ≤ cap) (hLd : Laid w)
    (QA : ∀ W, Nw w W → Calls Tryz.prog 16 #[.slice (some ⟨g, o, none⟩) k cap] W fun e w' => e = .returned (.agg (hbs A)) ∧ Nw W w')
    (QB : ∀ W, Nw w W → Calls Tryz.prog 16 #[.slice (some ⟨g, o + k * 32, none⟩) (n - k) (cap - k)] W fun e w' => e = .returned (.agg (hbs B)) ∧ Nw W w') :
    Calls Tryz.prog 16 #[.slice (some ⟨g, o, none⟩) n cap] w fun e w' => e = .returned (.agg (hbs (Sh (1 :: (A ++ B))))) ∧ Nw w w' := by
  have QA' : Hid (∀ W, Nw w W → Calls Tryz.prog 16 #[.slice (some ⟨g, o, none⟩) k cap] W fun e w' => e = .returned (.agg (hbs A)) ∧ Nw W w') := QA
  have QB' : Hid (∀ W, Nw w W → Calls Tryz.prog 16 #[.slice (some ⟨g, o + k * 32, none⟩) (n - k) (cap - k)] W fun e w' => e = .returned (.agg (hbs B)) ∧ Nw W w') := QB
  have QN : Hid (∀ W, Nw w W → Calls Tryz.prog 27 #[.agg (hbs A), .agg (hbs B)] W fun e w' => e = .returned (.agg (hbs (Sh (1 :: (A ++ B))))) ∧ Nw W w') := fun W hW => node_any A B hA hB W (hLd.nw hW)
  clear QA QB hA hB hLd
  have hc1 := cut_hh (some ⟨g, o, none⟩) n cap k (by omega)
  have hc2 := cut_hl g o n cap k (by omega) (by omega)
  have HC1 := show Hid _ from hc1
  have HC2 := show Hid _ from hc2
  have hn1 : ((n : Int) == 1) = false := by simp; omega
  have hnk : (n : Int) / 2 = (k : Int) := by omega
  have hwr : IntKind.i64.wrap (k : Int) = (k : Int) := by rw [IntKind.wrap_i64]; omega
  have HNK : Hid (n = 2 * k) := hn
  have HCN : Hid (n ≤ cap) := hcap
  clear hcap hc1 hc2 hn
  obtain ⟨R, hR⟩ : ∃ R, R = Sh (1 :: (A ++ B)) := ⟨_, rfl⟩
  have hRl : (hbs R).size = 32 := by rw [hbs_size, hR, Sh_len]
  rw [← hR] at QN ⊢
  clear hR
  obtain ⟨a, ha⟩ : ∃ a, a = hbs A := ⟨_, rfl⟩
  obtain ⟨b, hb'⟩ : ∃ b, b = hbs B := ⟨_, rfl⟩
  rw [← ha] at QA' QN
  rw [← hb'] at QB' QN
  clear ha hb'
  obtain ⟨w1, hw1⟩ : ∃ q, w.alloc (.cells z32 42) = q := ⟨_, rfl⟩
  have NW1 : Hid (Nw w w1) := by rw [← hw1]; exact nwa w _
  have b0 : w1.heap[w.heap.size]? = some (.cells z32 42) := by rw [← hw1]; exact heap_new _ _
  go_enter Tryz.func16, Tryz.ntmps16
  go_upto_region 1 with fail
  rw [z32_h, hw1]
  clear hw1
  go_wp2_with fail
  have nb : Nw w1 w1.drew := (Fr.refl _ _).drew
  refine wp_region_held_drew (S := fun _ => True) (by kernel_rfl) trivial ?_
  intro hS0
  refine wpAnyH_take (i := 0) (v := .slice (some ⟨g, o, none⟩) n cap) rfl (by kernel_rfl) (by kernel_rfl) (by kernel_rfl) (fun _ _ _ h => h) (Or.inl ⟨by rfl, by intro w hw; go_simp⟩) hS0 ?_
  try simp only [Act.put, List.setIfInBounds_toArray, List.set_cons_zero, List.set_cons_succ]
  refine wpAnyH_take (i := 1) (v := .slice (some ⟨g, o, none⟩) n cap) rfl (by kernel_rfl) (by kernel_rfl) (by kernel_rfl) (fun _ _ _ h => h) (Or.inl ⟨by rfl, by intro w hw; go_simp⟩) hS0 ?_
  try simp only [Act.put, List.setIfInBounds_toArray, List.set_cons_zero, List.set_cons_succ]
  refine wpAnyH_take (i := 2) (v := .int .i64 (n : Int)) rfl (by kernel_rfl) (by kernel_rfl) (by kernel_rfl) (fun _ _ _ h => h) (Or.inl ⟨by rfl, by intro w hw; go_simp⟩) hS0 ?_
  try simp only [Act.put, List.setIfInBounds_toArray, List.set_cons_zero, List.set_cons_succ]
  refine wpAnyH_take (i := 3) (v := .int .i64 (k : Int)) rfl (by kernel_rfl) (by kernel_rfl) (by kernel_rfl) (fun _ _ _ h => h) (Or.inl ⟨by rfl, by intro w hw; go_simp⟩) hS0 ?_
  try simp only [Act.put, List.setIfInBounds_toArray, List.set_cons_zero, List.set_cons_succ]
  refine wpAnyH_take (i := 4) (v := .slice (some ⟨g, o, none⟩) k cap) rfl (by kernel_rfl) (by kernel_rfl) (by kernel_rfl) (fun _ _ _ h => h) (Or.inl ⟨by rfl, by intro w hw; have hh := HC1.out w; go_simp⟩) hS0 ?_
  try simp only [Act.put, List.setIfInBounds_toArray, List.set_cons_zero, List.set_cons_succ]
  refine wpAnyH_take (i := 6) (v := .slice (some ⟨g, o, none⟩) n cap) rfl (by kernel_rfl) (by kernel_rfl) (by kernel_rfl) (fun _ _ _ h => h) (Or.inl ⟨by rfl, by intro w hw; go_simp⟩) hS0 ?_
  try simp only [Act.put, List.setIfInBounds_toArray, List.set_cons_zero, List.set_cons_succ]
  refine wpAnyH_take (i := 7) (v := .slice (some ⟨g, o, none⟩) n cap) rfl (by kernel_rfl) (by kernel_rfl) (by kernel_rfl) (fun _ _ _ h => h) (Or.inl ⟨by rfl, by intro w hw; go_simp⟩) hS0 ?_
  try simp only [Act.put, List.setIfInBounds_toArray, List.set_cons_zero, List.set_cons_succ]
  refine wpAnyH_take (i := 8) (v := .int .i64 (n : Int)) rfl (by kernel_rfl) (by kernel_rfl) (by kernel_rfl) (fun _ _ _ h => h) (Or.inl ⟨by rfl, by intro w hw; go_simp⟩) hS0 ?_
  try simp only [Act.put, List.setIfInBounds_toArray, List.set_cons_zero, List.set_cons_succ]
  refine wpAnyH_take (i := 9) (v := .int .i64 (k : Int)) rfl (by kernel_rfl) (by kernel_rfl) (by kernel_rfl) (fun _ _ _ h => h) (Or.inl ⟨by rfl, by intro w hw; go_simp⟩) hS0 ?_
  try simp only [Act.put, List.setIfInBounds_toArray, List.set_cons_zero, List.set_cons_succ]
  refine wpAnyH_take (i := 10) (v := .slice (some ⟨g, o + k * 32, none⟩) (n - k) (cap - k)) rfl (by kernel_rfl) (by kernel_rfl) (by kernel_rfl) (fun _ _ _ h => h) (Or.inl ⟨by rfl, by intro w hw; have hh := HC2.out w; go_simp⟩) hS0 ?_
  try simp only [Act.put, List.setIfInBounds_toArray, List.set_cons_zero, List.set_cons_succ]
  refine wpAnyH_ready (rs := [5]) (by kernel_rfl) (by simp) ?_
  refine AllReadyH.cons rfl (fun K' hK => ?_) AllReadyH.nil
  go_simp
  go_wp2_with (go_at_call 16; refine (QA'.out _ (NW1.out.tr nb)).mono ?_; rintro e2 w2 ⟨rfl, n2⟩)
  have m2 : Nw w1 w2 := Nw.tr nb n2
  refine hK.out _ _ trivial (fun hS0 => ?_)
  try simp only [Act.put, List.setIfInBounds_toArray, List.set_cons_zero, List.set_cons_succ]
  refine wpAnyH_ready (rs := [11]) (by kernel_rfl) (by simp) ?_
  refine AllReadyH.cons rfl (fun K' hK => ?_) AllReadyH.nil
  go_simp
  go_wp2_with (go_at_call 16; refine (QB'.out _ (NW1.out.tr m2)).mono ?_; rintro e3 w3 ⟨rfl, n3⟩)
  have m3 : Nw w1 w3 := Nw.tr m2 n3
  refine hK.out _ _ trivial (fun hS0 => ?_)
  try simp only [Act.put, List.setIfInBounds_toArray, List.set_cons_zero, List.set_cons_succ]
  refine wpAnyH_ready (rs := [12]) (by kernel_rfl) (by simp) ?_
  refine AllReadyH.cons rfl (fun K' hK => ?_) AllReadyH.nil
  go_simp
  go_wp2_with (go_at_call 27; refine (QN.out _ (NW1.out.tr m3)).mono ?_; rintro e4 w4 ⟨rfl, n4⟩)
  have m4 : Nw w1 w4 := Nw.tr m3 n4
  have jz := (m4.block _ (heap_lt b0) (fun f => f)).trans b0
  refine hK.out _ _ trivial (fun hS0 => ?_)
  try simp only [Act.put, List.setIfInBounds_toArray, List.set_cons_zero, List.set_cons_succ]
  refine wpAnyH_ready (rs := [13]) (by kernel_rfl) (by simp) ?_
  refine AllReadyH.cons rfl (fun K' hK => ?_) AllReadyH.nil
  refine step_store_agg rfl (.tmp 2) (.tmp 21) 42 32 rfl Tryz.sizeOf42 w.heap.size 0 rfl z32 42 jz (hbs R) rfl hRl (hbs_one _) (by decide) (hbs R) (by rw [z32_drop]; simp) ?_
  intro w5 j5 f5 z5
  refine hK.out _ _ trivial (fun hS0 => ?_)
  try simp only [Act.put, List.setIfInBounds_toArray, List.set_cons_zero, List.set_cons_succ]
  refine wpAnyH_done (by kernel_rfl) ?_ _
  go_wp2_with fail
  exact bodyPost_ret (results_cell Tryz.results16 Tryz.isAgg42 Tryz.sizeOf42 rfl j5 hRl) rfl ⟨rfl, (NW1.out.tr m4).trans f5 (fun k hk q => by omega)⟩
theorem tree14_any : ∀ (k : Nat) (l : List (List UInt8)) (g o c : Nat) (w : World), k ≤ 10 → l.length = 2 ^ k → (∀ x ∈ l, x.length = 32) → Rw w (some ⟨g, o, none⟩) c l → Laid w →
    Calls Tryz.prog 16 #[.slice (some ⟨g, o, none⟩) l.length c] w fun e w' => e = .returned (.agg (hbs (ovr k l))) ∧ Nw w w'
  | 0, l, g, o, c, w, hk, hl, h32, hw, hLd => by
    match l, hl with
    | [x], _ =>
      obtain ⟨ad, cp, e, h2⟩ := hw.2
      injection e with e1 e2 e3
      obtain ⟨g', o', e4, h3⟩ := h2 0 x rfl
      rw [← e1] at e4
      simp only [Option.some.injEq, Addr.mk.injEq, and_true] at e4
      obtain ⟨rfl, rfl⟩ := e4
      exact tree14_one x (h32 x (by simp)) g o c w (fun j hj => by have := h3 j hj; rwa [Nat.zero_mul, Nat.add_zero] at this)
  | k + 1, l, g, o, c, w, hk, hl, h32, hw, hLd => by
    have hp : 2 ^ (k + 1) = 2 * 2 ^ k := by rw [Nat.pow_succ]; omega
    have h0 : 0 < 2 ^ k := Nat.pow_pos (by decide)
    have h8 : 2 ^ (k + 1) ≤ 2 ^ 10 := Nat.pow_le_pow_right (by decide) hk
    have hA : ∀ x ∈ l.take (2 ^ k), x.length = 32 := fun x hx => h32 x (List.mem_of_mem_take hx)
    have hB : ∀ x ∈ l.drop (2 ^ k), x.length = 32 := fun x hx => h32 x (List.mem_of_mem_drop hx)
    have lA : (l.take (2 ^ k)).length = 2 ^ k := by simp; omega
    have lB : (l.drop (2 ^ k)).length = 2 ^ k := by simp; omega
    refine tree14_cut g o l.length c (2 ^ k) w (ovr k (l.take (2 ^ k))) (ovr k (l.drop (2 ^ k))) (ovr_32 k _ hA) (ovr_32 k _ hB) h0 (by omega) (by omega) hw.1 hLd (fun W nW => ?_) (fun W nW => ?_)
    · have hc := (hw.nw h32 nW).cut 0 (2 ^ k) (by omega)
      rw [List.drop_zero, Nat.zero_mul, Nat.add_zero, Nat.sub_zero] at hc
      have := tree14_any k _ g o c W (by omega) lA hA hc (hLd.nw nW)
      rwa [lA] at this
    · have hc := (hw.nw h32 nW).cut (2 ^ k) (2 ^ k) (by omega)
      rw [List.take_of_length_le (by omega)] at hc
      have := tree14_any k _ g _ _ W (by omega) lB hB hc (hLd.nw nW)
      rw [lB] at this
      rw [show l.length - 2 ^ k = 2 ^ k by omega]
      exact this
/-- The leaves' hashes: each leaf is one byte. -/
def lh (n : Nat) : List (List UInt8) := (List.range n).map fun i => Sh [0, UInt8.ofNat i]
theorem lh_len (n : Nat) : (lh n).length = n := by simp [lh]
theorem lh_32 (n : Nat) : ∀ x ∈ lh n, x.length = 32 := fun x hx => by
  obtain ⟨i, _, rfl⟩ := List.mem_map.1 hx
  exact Sh_len _
theorem lh_succ (n : Nat) : lh (n + 1) = lh n ++ [Sh [0, UInt8.ofNat n]] := by simp [lh, List.range_succ]
set_option maxRecDepth 100000 in
set_option maxHeartbeats 1000000 in
theorem hashes14_z (n : Nat) (hn : n ≤ 1000) (w : World) (hL : Laid w) :
    Calls Tryz.prog 7 #[.int .i64 (n : Int)] w fun e w' => ∃ va vc, e = .returned (.slice va n vc) ∧ w'.ownsRow w.heap.size 42 32 (.slice va n vc) n (hsc (lh n)) ∧ Nw w w' ∧ (n = 0 → va = none ∧ vc = 0) := by
  obtain ⟨i0, hi, hz0, hz1, hz2⟩ := info_parts infoHs
  have HL : Hid (∀ W, Nw w W → Laid W) := fun W nW => hL.nw nW
  clear hL
  go_enter Tryz.func7, Tryz.ntmps7
  go_wp2
  go_loopw [3, 4] (fun r i wr => ∃ (k : Nat) (va : Option Addr) (vc : Nat), k ≤ n ∧ r = .slice va k vc ∧ i = .int .i64 k ∧ wr.ownsRow w.heap.size 42 32 (.slice va k vc) k (hsc (lh k)) ∧ Nw w wr ∧ (k = 0 → va = none ∧ vc = 0)) (fun _ i _ => n - (intOf i).toNat)
  case atStart => exact ⟨0, none, 0, by omega, rfl, rfl, World.ownsRow_nil _ _ _ _, Fr.refl _ _, fun _ => ⟨rfl, rfl⟩⟩
  case round =>
    obtain ⟨k, va, vc, hk, rfl, rfl, ho, hnw, hzz⟩ := hrel
    have HZZ : Hid (k = 0 → va = none ∧ vc = 0) := hzz
    have HO : Hid (wr.ownsRow w.heap.size 42 32 (.slice va k vc) k (hsc (lh k))) := ho
    have HW : Hid (Nw w wr) := hnw
    clear ho hnw hzz
    by_cases hlt : k < n
    · have hki : (k : Int) < (n : Int) := by omega
      have hb8 : (k : Int) % 256 = (((UInt8.ofNat k).toNat : Nat) : Int) := by
        rw [UInt8.toNat_ofNat']; omega
      have hcv := conv_bys (bys_block (w := wr.alloc (.cells (hbs [UInt8.ofNat k]) 5)) (heap_new _ _)) 1
      have e1 : hbs [UInt8.ofNat k] = #[.int .u8 (((UInt8.ofNat k).toNat : Nat) : Int)] := rfl
      rw [e1] at hcv
      have e2 : [UInt8.ofNat k].length = 1 := rfl
      rw [e2] at hcv
      have QL : Hid (∀ W, Nw w W → Calls Tryz.prog 22 #[.string ⟨[UInt8.ofNat k].toArray⟩] W fun e w' => e = .returned (.agg (hbs (Sh [0, UInt8.ofNat k]))) ∧ Nw W w') := fun W nW => leaf_any ⟨[UInt8.ofNat k].toArray⟩ W (HL.out W nW) (by show 1 ≤ _; omega)
      have HS : Hid (hsc (lh (k + 1)) = hsc (lh k) ++ (hbs (Sh [0, UInt8.ofNat k])).toList) := by show _ = _; rw [lh_succ, hsc_app, hsc_one]
      have hRl : (hbs (Sh [0, UInt8.ofNat k])).size = 32 := by rw [hbs_size, Sh_len]
      obtain ⟨R, hR⟩ : ∃ R, R = Sh [0, UInt8.ofNat k] := ⟨_, rfl⟩
      rw [← hR] at QL hRl HS
      clear hR e1 e2
      generalize [UInt8.ofNat k].toArray = lb at *
      generalize (UInt8.ofNat k).toNat = c at *
      go_wp2_with fail
      refine (QL.out _ (by repeat first | with_reducible exact HW.out | with_reducible refine Fr.alloc ?_ _ | with_reducible refine Fr.drew ?_ | (with_reducible refine Fr.setCell ?_ _ _ (fun h => ?_); rotate_left; focus (simp only at h; omega)))).mono ?_
      rintro e w2 ⟨rfl, n2⟩
      have N2 : Hid (Nw wr w2) := Nw.tr (by repeat first | with_reducible exact nwr wr | with_reducible refine Fr.alloc ?_ _ | with_reducible refine Fr.drew ?_ | (with_reducible refine Fr.setCell ?_ _ _ (fun h => ?_); rotate_left; focus (simp only at h; omega))) n2
      have own2 : Hid ((w2.alloc (.cells (hbs R) 42)).ownsRow w.heap.size 42 32 (.slice va k vc) k (hsc (lh k))) := (ownsRow_keep HO.out (fun g hg => N2.out.block g (HO.out.lt g hg).2 (fun f => f))).alloc _
      clear n2 hcv
      go_wp2_with first
        | refine wp_build1 rfl (.tmp 15) rfl (hbs R) rfl hRl ?_
        | (at_builtin; refine wpList_two _ rfl (.tmp 10) (.tmp 16) 25 rfl w.heap.size 42 i0 (.agg z32) 32 32 Tryz.underlying25 hi hz0 hz1 hz2 z32_size (by decide) (.slice va k vc) k (hsc (lh k)) rfl own2.out ⟨w2.heap.size, 0, none⟩ 1 1 (hbs R).toList rfl (by simp [hRl]) (hash_new _ _ _) (hbs_one _) (by unfold maxLen; omega) (by omega) (by have := HW.out.size; have := N2.out.size; simp; omega) ?_; intro v' w5 o5 t5; have N5 : Hid (Nw w w5) := ((HW.out.tr N2.out).alloc _).trans t5.fr (fun j hj q => by have := (HO.out.lt j q).1; omega); rw [← HS.out] at o5; obtain ⟨xa, xc, rfl⟩ := ownsRow_form o5; have O5 : Hid (w5.ownsRow w.heap.size 42 32 (.slice xa (k + 1) xc) (k + 1) (hsc (lh (k + 1)))) := o5; clear o5 t5)
      exact ⟨⟨k + 1, xa, xc, by omega, rfl, by go_num, O5.out, N5.out, fun h => by omega⟩, by simp [intOf]; omega⟩
    · obtain rfl : k = n := by omega
      have hkn : ¬ (k : Int) < (k : Int) := by omega
      go_wp2
      exact bodyPost_ret (v := .slice va k vc) (by simp [results, Tryz.results7]) rfl ⟨va, vc, rfl, HO.out, HW.out, HZZ.out⟩
theorem hashes14_any (n : Nat) (hn : n ≤ 1000) (w : World) (hL : Laid w) :
    Calls Tryz.prog 7 #[.int .i64 (n : Int)] w fun e w' => ∃ va vc, e = .returned (.slice va n vc) ∧ w'.ownsRow w.heap.size 42 32 (.slice va n vc) n (hsc (lh n)) ∧ Nw w w' :=
  (hashes14_z n hn w hL).mono fun e w' ⟨va, vc, e1, o, h, _⟩ => ⟨va, vc, e1, o, h⟩
end Go.Proofs.YtbkhdnceblgljaaGreatDoor
