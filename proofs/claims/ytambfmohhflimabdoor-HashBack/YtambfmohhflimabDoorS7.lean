/- Letters there and back; the order of letters. -/
import Derived.Test.YtambfmohhflimabDoorS5
namespace Go.Proofs.YtambfmohhflimabDoor
open Go.RowKit
set_option linter.unusedVariables false
set_option linter.unusedSimpArgs false

theorem hx_wo' : ∀ (b : Fin 256) (x : Fin 16), ((hx x.val).toNat = b.val) ↔ wo b.val = some x.val := by decide +kernel
theorem wo_hx (x : Nat) (h : x < 16) : wo (hx x).toNat = some x := (hx_wo' ⟨(hx x).toNat, UInt8.toNat_lt _⟩ ⟨x, h⟩).1 rfl
theorem hx_of (c : UInt8) (x : Nat) (h : wo c.toNat = some x) : hx x = c := by
  have := (hx_wo' ⟨c.toNat, UInt8.toNat_lt _⟩ ⟨x, wo_lt _ _ h⟩).2 h
  exact UInt8.toNat_inj.1 this
theorem hx_mono : ∀ (i j : Fin 16), i.val < j.val → (hx i.val).toNat < (hx j.val).toNat := by decide +kernel
theorem hex_getD : ∀ (A : List UInt8) (i : Nat), i < A.length → (hex A).getD (2 * i) 0 = hx ((A.getD i 0).toNat / 16) ∧ (hex A).getD (2 * i + 1) 0 = hx ((A.getD i 0).toNat % 16)
  | [], i, h => by simp at h
  | a :: A, 0, h => ⟨rfl, rfl⟩
  | a :: A, i + 1, h => by
    have ih := hex_getD A i (by simpa using h)
    have e1 : (hex (a :: A)).getD (2 * (i + 1)) 0 = (hex A).getD (2 * i) 0 := by
      rw [show 2 * (i + 1) = 2 * i + 1 + 1 by omega]; rfl
    have e2 : (hex (a :: A)).getD (2 * (i + 1) + 1) 0 = (hex A).getD (2 * i + 1) 0 := by
      rw [show 2 * (i + 1) + 1 = 2 * i + 1 + 1 + 1 by omega]; rfl
    rw [e1, e2]
    exact ih
theorem good_hex (A : List UInt8) (hA : A.length = 32) : Good (hex A) := by
  refine ⟨by rw [hex_length, hA], fun i hi => ?_⟩
  have h := hex_getD A (i / 2) (by omega)
  have hb : (A.getD (i / 2) 0).toNat < 256 := UInt8.toNat_lt _
  rcases Nat.mod_two_eq_zero_or_one i with hm | hm
  · rw [show i = 2 * (i / 2) by omega, h.1, wo_hx _ (by omega)]; rfl
  · rw [show i = 2 * (i / 2) + 1 by omega, h.2, wo_hx _ (by omega)]; rfl
theorem rdh_hex (A : List UInt8) (hA : A.length = 32) : rdh (hex A) = A := by
  apply same_all _ _ (rdh_len _) hA
  intro i hi
  have h := hex_getD A i (by omega)
  have hb : (A.getD i 0).toNat < 256 := UInt8.toNat_lt _
  have v1 : vk (hex A) (2 * i) = (A.getD i 0).toNat / 16 := by unfold vk; rw [h.1, wo_hx _ (by omega)]; rfl
  have v2 : vk (hex A) (2 * i + 1) = (A.getD i 0).toNat % 16 := by unfold vk; rw [h.2, wo_hx _ (by omega)]; rfl
  have hh : hp (hex A) 64 i = (A.getD i 0).toNat := by
    unfold hp
    rw [if_pos (by omega), v1, v2]; omega
  rw [rdh, List.getD_eq_getElem?_getD, List.getElem?_map, List.getElem?_range (by omega)]
  simp only [Option.map_some, Option.getD_some, hh]
  exact UInt8.toNat_inj.1 (by rw [UInt8.toNat_ofNat']; omega)
theorem rdh_getD (L : List UInt8) (i : Nat) (hi : i < 32) : ((rdh L).getD i 0).toNat = 16 * vk L (2 * i) + vk L (2 * i + 1) := by
  have h1 := vk_lt L (2 * i)
  have h2 := vk_lt L (2 * i + 1)
  rw [rdh, List.getD_eq_getElem?_getD, List.getElem?_map, List.getElem?_range hi]
  simp only [Option.map_some, Option.getD_some, UInt8.toNat_ofNat']
  unfold hp
  rw [if_pos (by omega)]
  omega
theorem hex_rdh (L : List UInt8) (hL : Good L) : hex (rdh L) = L := by
  obtain ⟨h64, hall⟩ := hL
  apply List.ext_getElem (by rw [hex_length, rdh_len, h64])
  intro k h1 h2
  have e1 : (hex (rdh L))[k] = (hex (rdh L)).getD k 0 := by rw [List.getD_eq_getElem?_getD, List.getElem?_eq_getElem h1]; rfl
  have e2 : L[k] = L.getD k 0 := by rw [List.getD_eq_getElem?_getD, List.getElem?_eq_getElem h2]; rfl
  rw [e1, e2]
  have hk : k < 64 := by omega
  have hg := hex_getD (rdh L) (k / 2) (by rw [rdh_len]; omega)
  have hr := rdh_getD L (k / 2) (by omega)
  have b1 := vk_lt L (2 * (k / 2))
  have b2 := vk_lt L (2 * (k / 2) + 1)
  have hv : ∀ j, j < 64 → hx (vk L j) = L.getD j 0 := fun j hj => by
    have hs := hall j hj
    rcases ho : wo (L.getD j 0).toNat with _ | x
    · rw [ho] at hs; simp at hs
    · have : vk L j = x := by unfold vk; rw [ho]; rfl
      rw [this]
      exact hx_of _ _ ho
  rcases Nat.mod_two_eq_zero_or_one k with hm | hm
  · rw [show k = 2 * (k / 2) by omega, hg.1, hr, show (16 * vk L (2 * (k / 2)) + vk L (2 * (k / 2) + 1)) / 16 = vk L (2 * (k / 2)) by omega]
    exact hv _ (by omega)
  · rw [show k = 2 * (k / 2) + 1 by omega, hg.2, hr, show (16 * vk L (2 * (k / 2)) + vk L (2 * (k / 2) + 1)) % 16 = vk L (2 * (k / 2) + 1) by omega]
    exact hv _ (by omega)
theorem less_pre (P X Y : List UInt8) : Op.bytesLess (P ++ X) (P ++ Y) = Op.bytesLess X Y := by
  induction P with
  | nil => rfl
  | cons a P ih => simp [Op.bytesLess, ih]
theorem less_self (X : List UInt8) : Op.bytesLess X X = false := by
  have := less_pre X [] []
  simpa [Op.bytesLess] using this
theorem less_two (a b : UInt8) (X Y : List UInt8) (h : a.toNat < b.toNat) : Op.bytesLess (hx (a.toNat / 16) :: hx (a.toNat % 16) :: X) (hx (b.toNat / 16) :: hx (b.toNat % 16) :: Y) = true ∧ Op.bytesLess (hx (b.toNat / 16) :: hx (b.toNat % 16) :: Y) (hx (a.toNat / 16) :: hx (a.toNat % 16) :: X) = false := by
  have ha : a.toNat < 256 := UInt8.toNat_lt _
  have hb : b.toNat < 256 := UInt8.toNat_lt _
  have lt_of : ∀ c d : UInt8, c.toNat < d.toNat → (c < d) = true ∧ ¬ d < c ∧ (c == d) = false ∧ (d == c) = false := fun c d hcd =>
    ⟨by simp [UInt8.lt_iff_toNat_lt, hcd], by rw [UInt8.lt_iff_toNat_lt]; omega, by simp; intro e; rw [e] at hcd; omega, by simp; intro e; rw [e] at hcd; omega⟩
  by_cases hq : a.toNat / 16 < b.toNat / 16
  · obtain ⟨l1, l2, l3, l4⟩ := lt_of _ _ (hx_mono ⟨a.toNat / 16, by omega⟩ ⟨b.toNat / 16, by omega⟩ hq)
    dsimp only at l1 l2 l3 l4
    constructor
    · simp [Op.bytesLess, l1]
    · simp [Op.bytesLess, l2, l4]
  · have he : a.toNat / 16 = b.toNat / 16 := by omega
    have hr : a.toNat % 16 < b.toNat % 16 := by omega
    obtain ⟨l1, l2, l3, l4⟩ := lt_of _ _ (hx_mono ⟨a.toNat % 16, by omega⟩ ⟨b.toNat % 16, by omega⟩ hr)
    dsimp only at l1 l2 l3 l4
    rw [he]
    constructor
    · simp [Op.bytesLess, l1]
    · simp [Op.bytesLess, l2, l4]
theorem hex_at (A : List UInt8) (d : Nat) (h : d < A.length) : hex A = hex (A.take d) ++ (hx ((A.getD d 0).toNat / 16) :: hx ((A.getD d 0).toNat % 16) :: hex (A.drop (d + 1))) := by
  have e : A = A.take d ++ (A.getD d 0 :: A.drop (d + 1)) := by
    have e2 : A.getD d 0 = A[d] := by rw [List.getD_eq_getElem?_getD, List.getElem?_eq_getElem h]; rfl
    rw [e2, ← List.drop_eq_getElem_cons h, List.take_append_drop]
  rw [show hex A = hex (A.take d ++ (A.getD d 0 :: A.drop (d + 1))) from congrArg hex e, hex_append]
  rfl
theorem take_same (A B : List UInt8) (hA : A.length = 32) (hB : B.length = 32) (d : Nat) (hd : d < 32) (h : ∀ i, i < d → A.getD i 0 = B.getD i 0) : A.take d = B.take d := by
  apply List.ext_getElem (by rw [List.length_take, List.length_take]; omega)
  intro i h1 h2
  rw [List.getElem_take, List.getElem_take]
  rw [List.length_take] at h1
  have := h i (by omega)
  rw [List.getD_eq_getElem?_getD, List.getD_eq_getElem?_getD, List.getElem?_eq_getElem (by omega), List.getElem?_eq_getElem (by omega)] at this
  exact this
/-- The order of two hashes is that of their letters. -/
theorem order_hex (A B : List UInt8) (hA : A.length = 32) (hB : B.length = 32) :
    (cmpH A B = 0 ∧ A = B) ∨ (cmpH A B = -1 ∧ A ≠ B ∧ hex A ≠ hex B ∧ Op.bytesLess (hex A) (hex B) = true) ∨ (cmpH A B = 1 ∧ A ≠ B ∧ hex A ≠ hex B ∧ Op.bytesLess (hex A) (hex B) = false) := by
  rcases first_diff A B 32 with hall | ⟨d, hd, hpre, hne⟩
  · exact .inl ⟨cmp_all A B hall, same_all A B hA hB hall⟩
  · have hc := cmp_at A B d hd hpre hne
    have hab : A ≠ B := fun e => hne (by rw [e])
    have hhex : hex A ≠ hex B := fun e => hab (by rw [← rdh_hex A hA, ← rdh_hex B hB, e])
    have ht := take_same A B hA hB d hd hpre
    have hn : (A.getD d 0).toNat ≠ (B.getD d 0).toNat := fun e => hne (UInt8.toNat_inj.1 e)
    by_cases hl : (A.getD d 0).toNat < (B.getD d 0).toNat
    · rw [if_pos hl] at hc
      refine .inr (.inl ⟨hc, hab, hhex, ?_⟩)
      rw [hex_at A d (by omega), hex_at B d (by omega), ht, less_pre]
      exact (less_two _ _ _ _ hl).1
    · rw [if_neg hl] at hc
      refine .inr (.inr ⟨hc, hab, hhex, ?_⟩)
      rw [hex_at A d (by omega), hex_at B d (by omega), ht, less_pre]
      exact (less_two _ _ _ _ (by omega)).2
end Go.Proofs.YtambfmohhflimabDoor
