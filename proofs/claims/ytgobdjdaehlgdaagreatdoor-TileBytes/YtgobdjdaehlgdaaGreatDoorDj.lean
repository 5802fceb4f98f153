/- TileBytes: what both answer; two rows of hashes and a Book. -/
import Derived.Test.YtgobdjdaehlgdaaGreatDoorDi
import Derived.Test.YtgobdjdaehlgdaaGreatDoorUm
import Derived.Test.YtgobdjdaehlgdaaGreatDoorTz
import Derived.Test.YtgobdjdaehlgdaaGreatDoorKg
import Derived.Test.YtgobdjdaehlgdaaGreatDoorVg
namespace Go.Proofs.YtgobdjdaehlgdaaGreatDoor
open Go.RowKit
open Go.Lib (decDigits nDigits)
set_option linter.unusedVariables false
set_option linter.unusedSimpArgs false
theorem getD_ltD (n m : Nat) (h : n < 4611686018427387904) (h' : m < 4611686018427387904) : ∀ j, [n, m].getD j 0 < 4611686018427387904 := fun j => by
  match j with
  | 0 => exact h
  | 1 => exact h'
  | j + 2 => simp
/-- A twin's hashes. -/
theorem twin_hss {w : World} {base g : Nat} {L : List (List UInt8)} (h32 : ∀ x ∈ L, x.length = 32) (ho : w.ownsRow base 96 32 (.slice (some ⟨g, 0, none⟩) (L.length + 1) (L.length + 1)) (L.length + 1) (hsc (L ++ [HB.mk 7777]))) : Hss w (.slice (some ⟨g, 0, none⟩) L.length (L.length + 1)) L := by
  have hall : ∀ x ∈ L ++ [HB.mk 7777], x.length = 32 := fun x hx => by
    rcases List.mem_append.1 hx with h | h
    · exact h32 x h
    · rw [List.mem_singleton.1 h]; exact HB.mk_len _
  have hS := Hss.of hall (show w.ownsRow base 96 32 (.slice (some ⟨g, 0, none⟩) (L.length + 1) (L.length + 1)) (L ++ [HB.mk 7777]).length (hsc (L ++ [HB.mk 7777])) by rw [List.length_append]; exact ho)
  refine ⟨_, _, rfl, fun k x hk => ?_⟩
  obtain ⟨ad', cp, e, h2⟩ := hS
  injection e with e1 e2 e3
  obtain ⟨g', o', e4, h3⟩ := h2 k x (by rw [List.getElem?_append_left (List.getElem?_eq_some_iff.1 hk).1]; exact hk)
  exact ⟨g', o', e1.trans e4, h3⟩
theorem both_enc (L : List (List UInt8)) (h32 : ∀ x ∈ L, x.length = 32) (w : World) {B : Nat} {a : Nat → Addr} (hS : Sent B w a) :
    ∃ (p : ByteArray) (ev : Value) (fc fp : Int), (∀ (V : World) (ad : Option Addr) (c : Nat), Nw w V → Hss V (.slice ad L.length c) L → Calls Tryz.prog 19 #[.slice ad L.length c] V fun e w' => e = .returned (.tuple #[.string p, ev]) ∧ Nw V w') ∧
      (∀ (V : World) (ad : Option Addr) (c : Nat), Hss V (.slice ad L.length c) L → Calls Tryz.prog 20 #[.slice ad L.length c] V fun e w' => e = .returned (.tuple #[.string p, flt fc fp]) ∧ Nw V w') ∧
      (∀ V, Nw w V → Calls Tryz.prog 9 #[ev, flt fc fp] V fun e w' => e = .returned (.bool true) ∧ Nw V w') := by
  have SS : ∀ V, Nw w V → Sent B V a := fun V nV => hS.fr nV (fun _ _ f => f)
  by_cases h : 1 ≤ L.length ∧ L.length ≤ 256
  · exact ⟨_, _, 0, 0, fun V ad c nV hs => enc_yes L h32 h.1 h.2 ad c V hs, fun V ad c hs => renc_yes L h32 h.1 h.2 ad c V hs, fun V nV => same_no (SS V nV)⟩
  · exact ⟨_, _, 2, -1, fun V ad c nV hs => enc_arg ad L.length c (by omega) V (SS V nV), fun V ad c hs => renc_arg ad L.length c (by omega) V, fun V nV => same_e1 (SS V nV)⟩
theorem both_dec (s : ByteArray) (hs : s.size ≤ 1048576) (x : Int) (hx : -9223372036854775808 ≤ x ∧ x ≤ 9223372036854775807) (w : World) {B : Nat} {a : Nat → Addr} (hS : Sent B w a) :
    ∃ (R : List (List UInt8)) (ev : Value) (fc fp : Int), (∀ x ∈ R, x.length = 32) ∧ R.length ≤ 256 ∧ (∀ (V : World), Nw w V → Calls Tryz.prog 21 #[.string s, .int .i64 x] V fun e w' => ∃ ad c, e = .returned (.tuple #[.slice ad R.length c, ev]) ∧ w'.ownsRow V.heap.size 96 32 (.slice ad R.length c) R.length (hsc R) ∧ Nw V w') ∧
      (∀ (V : World), Calls Tryz.prog 22 #[.string s, .int .i64 x] V fun e w' => ∃ ad c, e = .returned (.tuple #[.slice ad R.length c, flt fc fp]) ∧ Hss w' (.slice ad R.length c) R ∧ Nw V w') ∧
      (∀ V, Nw w V → Calls Tryz.prog 9 #[ev, flt fc fp] V fun e w' => e = .returned (.bool true) ∧ Nw V w') := by
  have SS : ∀ V, Nw w V → Sent B V a := fun V nV => hS.fr nV (fun _ _ f => f)
  have nilH : ∀ V : World, Hss V (.slice none ([] : List (List UInt8)).length 0) [] := fun V => ⟨none, 0, rfl, fun k h e => by simp at e⟩
  have nilO : ∀ (V : World) (b : Nat), V.ownsRow b 96 32 (.slice none ([] : List (List UInt8)).length 0) ([] : List (List UInt8)).length (hsc []) := fun V b => World.ownsRow_nil _ _ _ _
  by_cases h1 : x < 1
  · exact ⟨[], _, 2, -1, by simp, by simp, fun V nV => (dec_arg s x h1 V (SS V nV)).mono fun e w' ⟨h, n⟩ => ⟨none, 0, h, nilO _ _, n⟩, fun V => (rdec_low s x h1 V).mono fun e w' ⟨h, n⟩ => ⟨none, 0, h, nilH _, n⟩, fun V nV => same_e1 (SS V nV)⟩
  by_cases h2 : 256 < x
  · exact ⟨[], _, 2, -1, by simp, by simp, fun V nV => (dec_wide s x h2 hx.2 V (SS V nV)).mono fun e w' ⟨h, n⟩ => ⟨none, 0, h, nilO _ _, n⟩, fun V => (rdec_wide s x h2 V).mono fun e w' ⟨h, n⟩ => ⟨none, 0, h, nilH _, n⟩, fun V nV => same_e1 (SS V nV)⟩
  obtain ⟨n, rfl⟩ : ∃ n : Nat, x = (n : Int) := ⟨x.toNat, by omega⟩
  by_cases h3 : s.size = 32 * n
  · have hl : s.data.toList.length = 32 * n := by rw [bytes_len]; exact h3
    refine ⟨chs s.data.toList n, .nilIface, 0, 0, chs_32 hl, by rw [chs_len]; omega, fun V nV => (dec_yes s n (by omega) (by omega) h3 V).mono fun e w' ⟨g, h, o, m⟩ => ⟨some ⟨g, 0, none⟩, n, by rw [chs_len]; exact h, by rw [chs_len]; exact o, m⟩, fun V => (rdec_yes s n (by omega) (by omega) h3 V).mono fun e w' ⟨g, h, o, m⟩ => ⟨some ⟨g, 0, none⟩, n, by rw [chs_len]; exact h, by rw [chs_len]; exact o, m⟩, fun V nV => same_no (SS V nV)⟩
  · exact ⟨[], _, 3, -1, by simp, by simp, fun V nV => (dec_in s n (by omega) (by omega) hs h3 V (SS V nV)).mono fun e w' ⟨h, n⟩ => ⟨none, 0, h, nilO _ _, n⟩, fun V => (rdec_in s n (by omega) (by omega) (by omega) V).mono fun e w' ⟨h, n⟩ => ⟨none, 0, h, nilH _, n⟩, fun V nV => same_e2 (SS V nV)⟩
namespace HB
/-- Two rows that were made one behind the other, kept by a Book that was made behind them. -/
theorem two_rowsD {w1 w2 wk : World} {B0 B1 bk : Nat} {v1 v2 v : Value} {l : List (List UInt8)} (h32 : ∀ x ∈ l, x.length = 32)
    (o1 : w1.ownsRow B0 96 32 v1 l.length (hsc l)) (o2 : w2.ownsRow B1 96 32 v2 l.length (hsc l)) (h1 : w1.heap.size ≤ B1) (h2 : w2.heap.size ≤ bk) (h3 : w1.heap.size ≤ w2.heap.size) (hv : ∀ g, v.ownBlock = some g → bk ≤ g)
    (k1 : ∀ q, q < w1.heap.size → wk.heap[q]? = w1.heap[q]?) (k2 : ∀ q, q < w2.heap.size → wk.heap[q]? = w2.heap[q]?) :
    Rws wk bk v [(v1, nilS, 1), (v2, nilS, 2)] (fun _ => l) := by
  refine ⟨?_, fun _ => h32, ?_, ?_, ?_⟩
  · intro i h hi
    rcases i with _ | _ | i
    · simp at hi; subst hi
      exact ownsRow_keep (ownsRow_base o1 (by omega)) (fun g hg => k1 g (o1.lt g hg).2)
    · simp at hi; subst hi
      exact ownsRow_keep (ownsRow_base o2 (by omega)) (fun g hg => k2 g (o2.lt g hg).2)
    · simp at hi
  · intro i h hi g hg
    rcases i with _ | _ | i
    · simp at hi; subst hi
      have := (o1.lt g hg).2
      exact ⟨by omega, fun e => by have := hv g e; omega⟩
    · simp at hi; subst hi
      have := (o2.lt g hg).2
      exact ⟨by omega, fun e => by have := hv g e; omega⟩
    · simp at hi
  · intro i j h h' g hij hi hj hg hg'
    rcases i with _ | _ | i
    · simp at hi; subst hi
      have := o1.lt g hg
      rcases j with _ | _ | j
      · exact hij rfl
      · simp at hj; subst hj; have := o2.lt g hg'; omega
      · simp at hj
    · simp at hi; subst hi
      have := o2.lt g hg
      rcases j with _ | _ | j
      · simp at hj; subst hj; have := o1.lt g hg'; omega
      · exact hij rfl
      · simp at hj
    · simp at hi
  · intro i h hi
    rcases i with _ | _ | i
    · simp at hi; subst hi; exact ⟨_, _, _, rfl⟩
    · simp at hi; subst hi; exact ⟨_, _, _, rfl⟩
    · simp at hi
theorem num2D (v1 v2 : Value) (i : Nat) : num [(v1, nilS, 1), (v2, nilS, 2)] i < 9223372036854775807 := by
  rcases i with _ | _ | i <;> simp [num]
end HB
end Go.Proofs.YtgobdjdaehlgdaaGreatDoor
