/- tiled: Root, Path, Proof, Batch over a log's store of which reads may fail. -/
import Derived.Test.YtjkhcplnedcmeaaGreatDoorIhm
import Derived.Test.YtjkhcplnedcmeaaGreatDoorIgc
import Derived.Test.YtjkhcplnedcmeaaGreatDoorIgb
import Derived.Test.YtjkhcplnedcmeaaGreatDoorYge
import Derived.Test.YtjkhcplnedcmeaaGreatDoorCg
namespace Go.Proofs.YtjkhcplnedcmeaaGreatDoor
open Go.RowKit
set_option linter.unusedVariables false
set_option linter.unusedSimpArgs false
/-- The error of a call of which one read failed. -/
def erf (fl : Bool) (x : Addr) : Value := if fl then sen x else .nilIface
/-- What a query leaves, whether a read of it failed or none did. -/
structure Outc (s0 s' : RS) (l : List (List UInt8)) (B K T : Nat) (w w' : World) (eb : Nat) (fl : Bool) : Prop where
  at_ : s'.At l B (K + T) w'
  le : s0.Le s' w
  fr : Fr s0.Ff w w'
  eng : Eng s' w' eb l.length
  rn : s0.rn ≤ s'.rn
  x : fl = false → s'.x = s0.x + (T : Int)
  ok : fl = false → ∀ r, s0.rn < r → r ≤ s'.rn → r ∉ s0.zs
  no : fl = true → s0.rn < s'.rn ∧ s'.rn ∈ s0.zs
/-- The row of an answer, or none. -/
def Rowf (fl : Bool) (s' : RS) (w' : World) (base : Nat) (va : Value) (L : List (List UInt8)) : Prop :=
  (fl = false ∧ ∃ g c, va = .slice (some ⟨g, 0, none⟩) L.length c ∧ w'.ownsRow base 69 32 va L.length (hsc L) ∧ s'.tg g = 9) ∨ (fl = true ∧ va = .slice none 0 0)
def Pq (s0 : RS) (k : Nat) (s : RS) : Prop := s.zs = s0.zs ∧ s.x = s0.x + (k : Int) ∧ s0.rn ≤ s.rn ∧ ∀ r, s0.rn < r → r ≤ s.rn → r ∉ s0.zs
def Pfq (s0 : RS) (k : Nat) (s : RS) : Prop := s.zs = s0.zs ∧ s0.rn < s.rn ∧ s.rn ∈ s0.zs
theorem step_f {s0 : RS} {l : List (List UInt8)} {B K : Nat} {w : World} (h : s0.At l B K w) (hn : l.length ≤ 1048576) {a : Nat → Addr} (hG : Gd B a w) (hK : K ≤ 900000) {cs : List (Nat × Nat)} (hg : gdA l.length cs) (hc : cs.length ≤ 100000) :
    ∀ (k : Nat) (t : Ti) (s : RS), (tls l.length cs)[k]? = some t → Pq s0 k s → (∀ V, s.At l B (K + k) V → Fr s0.Ff w V → s.Got l B (K + k) t.L t.I t.W (Pq s0 (k + 1)) V) ∨ (∀ V, s.At l B (K + k) V → Fr s0.Ff w V → s.Fell l B (K + k) t.L t.I t.W (a 6) (Pfq s0 (k + 1)) V) := fun k t s ht hp => by
  obtain ⟨b1, b2, _⟩ := tis_tls hg hn t (List.mem_of_getElem? ht)
  have hk := (List.getElem?_eq_some_iff.1 ht).1
  have hlen := tls_len l.length cs
  obtain ⟨p1, p2, p3, p4⟩ := hp
  cases hkk : CT.tk s.L (keyT t.L t.I t.W (mayT_wid b1 b2)) with
  | some x =>
    obtain ⟨v, r⟩ := x
    refine .inl fun V aV fV => ?_
    refine (RS.had aV b1 b2 hkk (hG.fr fV h.bt).pow (by omega)).mono fun e w' ⟨s', g, e1, o, a1, le, r1, r2, _, _, _, f⟩ => ⟨s', g, e1, o, a1, le, ⟨le.zs.trans p1, by rw [r2, p2]; omega, by rw [r1]; exact p3, fun q h1 h2 => p4 q h1 (by rw [r1] at h2; exact h2)⟩, f⟩
  | none =>
    by_cases hz : s.rn + 1 ∈ s.zs
    · refine .inr fun V aV fV => ?_
      refine (RS.fails aV b1 b2 hkk hz (hG.fr fV h.bt).pow (by omega) (hG.fr fV h.bt).s).mono fun e w' ⟨s', e1, a1, le, r1, _, _, _, _, f⟩ => ⟨s', e1, a1, le, ⟨le.zs.trans p1, by omega, by rw [r1, ← p1]; exact hz⟩, f⟩
    · refine .inl fun V aV fV => ?_
      refine (RS.fresh aV b1 b2 hkk hz (hG.fr fV h.bt).pow (by omega) (hG.fr fV h.bt).s).mono fun e w' ⟨s', g, e1, o, a1, le, r1, r2, _, _, _, f⟩ => ⟨s', g, e1, o, a1, le, ⟨le.zs.trans p1, by rw [r2, p2]; omega, by omega, fun q h1 h2 => ?_⟩, f⟩
      rw [r1] at h2
      by_cases hq : q = s.rn + 1
      · rw [hq, ← p1]; exact hz
      · exact p4 q h1 (by omega)
theorem Outc.nw {s0 s' : RS} {l : List (List UInt8)} {B K T : Nat} {w w1 w2 : World} {eb : Nat} {fl : Bool} (h : Outc s0 s' l B K T w w1 eb fl) (n : Nw w1 w2) : Outc s0 s' l B K T w w2 eb fl :=
  ⟨h.at_.nw n, h.le, h.fr.trans n (fun _ _ q => q.elim), h.eng.nw n, h.rn, h.x, h.ok, h.no⟩
theorem Outc.from {s0 s' : RS} {l : List (List UInt8)} {B K T : Nat} {w w0 w1 : World} {eb : Nat} {fl : Bool} (h : Outc s0 s' l B K T w0 w1 eb fl) (n : Nw w w0) : Outc s0 s' l B K T w w1 eb fl :=
  ⟨h.at_, ⟨fun k hk => h.le.tg k (Nat.lt_of_lt_of_le hk n.size), h.le.rb, h.le.sb, h.le.zs, h.le.cap⟩, (n.mono (fun _ _ f => f.elim)).trans h.fr (fun _ _ q => q), h.eng, h.rn, h.x, h.ok, h.no⟩
set_option maxRecDepth 100000 in
set_option maxHeartbeats 1000000 in
theorem fpath_any {s0 : RS} {l : List (List UInt8)} {B K : Nat} {w : World} (h : s0.At l B K w) {eb : Nat} (he : Eng s0 w eb l.length) (hn : l.length ≤ 1048576) (i q : Nat) (hi : i < q) (hq : q ≤ l.length) {a : Nat → Addr} (hG : Gd B a w) (hT : TabAt w) (hK : K ≤ 900000) :
    Calls Tryz.prog 47 #[.pointer (some ⟨eb, 0, none⟩), .int .u64 (i : Int), .int .u64 (q : Int)] w fun e w' => ∃ fl s' T va, e = .returned (.tuple #[va, erf fl (a 6)]) ∧ Rowf fl s' w' w.heap.size va ((pth i 0 q).map fun s => phL l (cvr s)) ∧ T ≤ (tls l.length ((pth i 0 q).map cvr).flatten).length ∧ Outc s0 s' l B K T w w' eb fl := by
  have hmem : ∀ s ∈ pth i 0 q, s.2 ≤ q := fun s hs => (pth_mem q i 0 q (by omega) s hs).2.2
  have hgd : gdA l.length ((pth i 0 q).map cvr).flatten := flat_gd l.length (by omega) _ (fun s hs => Nat.le_trans (hmem s hs) hq)
  have p63 : (2 : Nat) ^ 63 = 9223372036854775808 := by decide
  have hll : (pth i 0 q).length ≤ 200 := Nat.le_trans (pth_len 63 i 0 q (by omega)) (by omega)
  have hcl : ∀ cs ∈ (pth i 0 q).map cvr, cs.length ≤ 128 := fun cs hcs => by
    obtain ⟨s, hs, rfl⟩ := List.mem_map.1 hcs
    exact cov_len s.1 s.2 (by have := hmem s hs; omega)
  have hfl : ((pth i 0 q).map cvr).flatten.length ≤ 100000 := by
    have := flat_len ((pth i 0 q).map cvr) 128 hcl
    rw [List.length_map] at this
    omega
  have HQ : Hid (∀ V, Nw w V → V.cell? ⟨w.heap.size, 0, none⟩ = some (.int .u64 (i : Int)) → V.cell? ⟨w.heap.size + 1, 0, none⟩ = some (.int .u64 (q : Int)) → Calls Tryz.prog 89 #[.pointer (some ⟨eb, 0, none⟩), .int .u64 (q : Int), .func (.func 92) #[] #[.pointer (some ⟨w.heap.size, 0, none⟩), .pointer (some ⟨w.heap.size + 1, 0, none⟩)]] V fun e w' =>
      ∃ fl s' T va, e = .returned (.tuple #[va, erf fl (a 6)]) ∧ Rowf fl s' w' w.heap.size va ((pth i 0 q).map fun s => phL l (cvr s)) ∧ T ≤ (tls l.length ((pth i 0 q).map cvr).flatten).length ∧ Outc s0 s' l B K T w w' eb fl) := fun V nV hc0 hc1 => by
    have := gans_path (h.nw nV) (he.nw nV) hn q hq (hG.nw nV) #[.pointer (some ⟨w.heap.size, 0, none⟩), .pointer (some ⟨w.heap.size + 1, 0, none⟩)] ((pth i 0 q).map cvr) (fun U nU => gclo_path _ _ i q hi (by omega) U ((hT.nw nV).nw nU) (nU.cellOf hc0) (nU.cellOf hc1))
      hgd (by rw [List.length_map]; omega) (fun cs hcs => by have := hcl cs hcs; omega) hfl
      (Pq s0) (Pfq s0) ⟨rfl, by simp, Int.le_refl _, fun r h1 h2 => by omega⟩ (a 6) (step_f (h.nw nV) hn (hG.nw nV) hK hgd hfl)
    rw [List.map_map] at this
    refine this.mono fun e w' hh => ?_
    rcases hh with ⟨s', g, c, e1, o, hgt, a1, le, p, f, en⟩ | ⟨s', k, hk, e1, a1, le, p, f, en⟩
    · refine ⟨false, s', _, _, e1, .inl ⟨rfl, g, c, by rw [List.length_map, List.length_map], ?_, hgt⟩, Nat.le_refl _, Outc.from ⟨a1, le, f, en, p.2.2.1, fun _ => p.2.1, fun _ => p.2.2.2, fun q => by cases q⟩ nV⟩
      rw [List.length_map, List.length_map]
      rw [List.length_map] at o
      exact ownsRow_base o nV.size
    · exact ⟨true, s', k + 1, _, e1, .inr ⟨rfl, rfl⟩, hk, Outc.from ⟨a1, le, f, en, Int.le_of_lt p.2.1, (fun q => by cases q), (fun q => by cases q), fun _ => ⟨p.2.1, p.2.2⟩⟩ nV⟩
  clear h he hn hq hG hT hK hgd hcl hfl hll hmem
  go_enter Tryz.func47, Tryz.ntmps47
  go_wp2_with fail
  refine (HQ.out _ (by repeat first | with_reducible exact nwr w | with_reducible refine Fr.alloc ?_ _ | with_reducible refine Fr.drew ?_ | (with_reducible refine Fr.setCell ?_ _ _ (fun h => ?_); rotate_left; focus (simp only at h; omega))) ?h0 ?h1).mono ?_
  case h0 => exact (cell_of (show (_ : World).heap[_]? = some _ by (repeat first | with_reducible exact heap_new _ _ | with_reducible exact heap_new _ _ | with_reducible exact heap_next _ _ _ | with_reducible exact heap_third _ _ _ _ | with_reducible refine hp_dr ?_ | (with_reducible refine hp_ne ?_ ?_; focus omega) | (with_reducible refine hp_al ?_ ?_; focus (first | omega | (simp <;> omega))) | with_reducible apply hp_set) <;> rfl) 0).trans rfl
  case h1 => exact (cell_of (show (_ : World).heap[_]? = some _ by (repeat first | with_reducible exact heap_new _ _ | with_reducible exact heap_new _ _ | with_reducible exact heap_next _ _ _ | with_reducible exact heap_third _ _ _ _ | with_reducible refine hp_dr ?_ | (with_reducible refine hp_ne ?_ ?_; focus omega) | (with_reducible refine hp_al ?_ ?_; focus (first | omega | (simp <;> omega))) | with_reducible apply hp_set) <;> rfl) 0).trans rfl
  rintro e w3 ⟨fl, s3, T, va, rfl, o3⟩
  have O3 := show Hid _ from o3
  clear o3
  go_wp2
  exact bodyPost_ret (v := .tuple #[va, erf fl (a 6)]) (by simp [results, Tryz.results47]) rfl ⟨fl, s3, T, va, rfl, O3.out⟩
set_option maxRecDepth 100000 in
set_option maxHeartbeats 1000000 in
theorem fproof_any {s0 : RS} {l : List (List UInt8)} {B K : Nat} {w : World} (h : s0.At l B K w) {eb : Nat} (he : Eng s0 w eb l.length) (hn : l.length ≤ 1048576) (i q : Nat) (h0 : 0 < i) (hi : i ≤ q) (hq : q ≤ l.length) {a : Nat → Addr} (hG : Gd B a w) (hT : TabAt w) (hK : K ≤ 900000) :
    Calls Tryz.prog 62 #[.pointer (some ⟨eb, 0, none⟩), .int .u64 (i : Int), .int .u64 (q : Int)] w fun e w' => ∃ fl s' T va, e = .returned (.tuple #[va, erf fl (a 6)]) ∧ Rowf fl s' w' w.heap.size va ((prf i 0 q true).map fun s => phL l (cvr s)) ∧ T ≤ (tls l.length ((prf i 0 q true).map cvr).flatten).length ∧ Outc s0 s' l B K T w w' eb fl := by
  have hmem : ∀ s ∈ prf i 0 q true, s.2 ≤ q := fun s hs => (prf_mem q i 0 q true (by omega) h0 hi s hs).2.2
  have hgd : gdA l.length ((prf i 0 q true).map cvr).flatten := flat_gd l.length (by omega) _ (fun s hs => Nat.le_trans (hmem s hs) hq)
  have p63 : (2 : Nat) ^ 63 = 9223372036854775808 := by decide
  have hll : (prf i 0 q true).length ≤ 200 := Nat.le_trans (prf_len 63 i 0 q true (by omega) h0 hi) (by omega)
  have hcl : ∀ cs ∈ (prf i 0 q true).map cvr, cs.length ≤ 128 := fun cs hcs => by
    obtain ⟨s, hs, rfl⟩ := List.mem_map.1 hcs
    exact cov_len s.1 s.2 (by have := hmem s hs; omega)
  have hfl : ((prf i 0 q true).map cvr).flatten.length ≤ 100000 := by
    have := flat_len ((prf i 0 q true).map cvr) 128 hcl
    rw [List.length_map] at this
    omega
  have HQ : Hid (∀ V, Nw w V → V.cell? ⟨w.heap.size, 0, none⟩ = some (.int .u64 (i : Int)) → V.cell? ⟨w.heap.size + 1, 0, none⟩ = some (.int .u64 (q : Int)) → Calls Tryz.prog 89 #[.pointer (some ⟨eb, 0, none⟩), .int .u64 (q : Int), .func (.func 106) #[] #[.pointer (some ⟨w.heap.size, 0, none⟩), .pointer (some ⟨w.heap.size + 1, 0, none⟩)]] V fun e w' =>
      ∃ fl s' T va, e = .returned (.tuple #[va, erf fl (a 6)]) ∧ Rowf fl s' w' w.heap.size va ((prf i 0 q true).map fun s => phL l (cvr s)) ∧ T ≤ (tls l.length ((prf i 0 q true).map cvr).flatten).length ∧ Outc s0 s' l B K T w w' eb fl) := fun V nV hc0 hc1 => by
    have := gans_proof (h.nw nV) (he.nw nV) hn q hq (hG.nw nV) #[.pointer (some ⟨w.heap.size, 0, none⟩), .pointer (some ⟨w.heap.size + 1, 0, none⟩)] ((prf i 0 q true).map cvr) (fun U nU => gclo_proof _ _ i q h0 hi (by omega) U ((hT.nw nV).nw nU) (nU.cellOf hc0) (nU.cellOf hc1))
      hgd (by rw [List.length_map]; omega) (fun cs hcs => by have := hcl cs hcs; omega) hfl
      (Pq s0) (Pfq s0) ⟨rfl, by simp, Int.le_refl _, fun r h1 h2 => by omega⟩ (a 6) (step_f (h.nw nV) hn (hG.nw nV) hK hgd hfl)
    rw [List.map_map] at this
    refine this.mono fun e w' hh => ?_
    rcases hh with ⟨s', g, c, e1, o, hgt, a1, le, p, f, en⟩ | ⟨s', k, hk, e1, a1, le, p, f, en⟩
    · refine ⟨false, s', _, _, e1, .inl ⟨rfl, g, c, by rw [List.length_map, List.length_map], ?_, hgt⟩, Nat.le_refl _, Outc.from ⟨a1, le, f, en, p.2.2.1, fun _ => p.2.1, fun _ => p.2.2.2, fun q => by cases q⟩ nV⟩
      rw [List.length_map, List.length_map]
      rw [List.length_map] at o
      exact ownsRow_base o nV.size
    · exact ⟨true, s', k + 1, _, e1, .inr ⟨rfl, rfl⟩, hk, Outc.from ⟨a1, le, f, en, Int.le_of_lt p.2.1, (fun q => by cases q), (fun q => by cases q), fun _ => ⟨p.2.1, p.2.2⟩⟩ nV⟩
  clear h he hn hq hG hT hK hgd hcl hfl hll hmem
  go_enter Tryz.func62, Tryz.ntmps62
  go_wp2_with fail
  refine (HQ.out _ (by repeat first | with_reducible exact nwr w | with_reducible refine Fr.alloc ?_ _ | with_reducible refine Fr.drew ?_ | (with_reducible refine Fr.setCell ?_ _ _ (fun h => ?_); rotate_left; focus (simp only at h; omega))) ?h0 ?h1).mono ?_
  case h0 => exact (cell_of (show (_ : World).heap[_]? = some _ by (repeat first | with_reducible exact heap_new _ _ | with_reducible exact heap_new _ _ | with_reducible exact heap_next _ _ _ | with_reducible exact heap_third _ _ _ _ | with_reducible refine hp_dr ?_ | (with_reducible refine hp_ne ?_ ?_; focus omega) | (with_reducible refine hp_al ?_ ?_; focus (first | omega | (simp <;> omega))) | with_reducible apply hp_set) <;> rfl) 0).trans rfl
  case h1 => exact (cell_of (show (_ : World).heap[_]? = some _ by (repeat first | with_reducible exact heap_new _ _ | with_reducible exact heap_new _ _ | with_reducible exact heap_next _ _ _ | with_reducible exact heap_third _ _ _ _ | with_reducible refine hp_dr ?_ | (with_reducible refine hp_ne ?_ ?_; focus omega) | (with_reducible refine hp_al ?_ ?_; focus (first | omega | (simp <;> omega))) | with_reducible apply hp_set) <;> rfl) 0).trans rfl
  rintro e w3 ⟨fl, s3, T, va, rfl, o3⟩
  have O3 := show Hid _ from o3
  clear o3
  go_wp2
  exact bodyPost_ret (v := .tuple #[va, erf fl (a 6)]) (by simp [results, Tryz.results62]) rfl ⟨fl, s3, T, va, rfl, O3.out⟩
set_option maxRecDepth 100000 in
set_option maxHeartbeats 1000000 in
theorem fbatch_any {s0 : RS} {l : List (List UInt8)} {B K : Nat} {w : World} (h : s0.At l B K w) {eb : Nat} (he : Eng s0 w eb l.length) (hn : l.length ≤ 1048576) (x y q : Nat) (hxy : x < y) (hy : y ≤ q) (hq : q ≤ l.length) {a : Nat → Addr} (hG : Gd B a w) (hT : TabAt w) (hK : K ≤ 900000) :
    Calls Tryz.prog 64 #[.pointer (some ⟨eb, 0, none⟩), .int .u64 (x : Int), .int .u64 (y : Int), .int .u64 (q : Int)] w fun e w' => ∃ fl s' T va, e = .returned (.tuple #[va, erf fl (a 6)]) ∧ Rowf fl s' w' w.heap.size va ((bat x y 0 q).map fun s => phL l (cvr s)) ∧ T ≤ (tls l.length ((bat x y 0 q).map cvr).flatten).length ∧ Outc s0 s' l B K T w w' eb fl := by
  have hmem : ∀ s ∈ bat x y 0 q, s.2 ≤ q := fun s hs => (bat_mem q x y 0 q (by omega) (by omega) s hs).2.2
  have hgd : gdA l.length ((bat x y 0 q).map cvr).flatten := flat_gd l.length (by omega) _ (fun s hs => Nat.le_trans (hmem s hs) hq)
  have p63 : (2 : Nat) ^ 63 = 9223372036854775808 := by decide
  have hll : (bat x y 0 q).length ≤ 200 := Nat.le_trans (bat_len 63 x y 0 q (by omega)) (by omega)
  have hcl : ∀ cs ∈ (bat x y 0 q).map cvr, cs.length ≤ 128 := fun cs hcs => by
    obtain ⟨s, hs, rfl⟩ := List.mem_map.1 hcs
    exact cov_len s.1 s.2 (by have := hmem s hs; omega)
  have hfl : ((bat x y 0 q).map cvr).flatten.length ≤ 100000 := by
    have := flat_len ((bat x y 0 q).map cvr) 128 hcl
    rw [List.length_map] at this
    omega
  have HQ : Hid (∀ V, Nw w V → V.cell? ⟨w.heap.size, 0, none⟩ = some (.int .u64 (x : Int)) → V.cell? ⟨w.heap.size + 1, 0, none⟩ = some (.int .u64 (y : Int)) → V.cell? ⟨w.heap.size + 2, 0, none⟩ = some (.int .u64 (q : Int)) → Calls Tryz.prog 89 #[.pointer (some ⟨eb, 0, none⟩), .int .u64 (q : Int), .func (.func 109) #[] #[.pointer (some ⟨w.heap.size, 0, none⟩), .pointer (some ⟨w.heap.size + 1, 0, none⟩), .pointer (some ⟨w.heap.size + 2, 0, none⟩)]] V fun e w' =>
      ∃ fl s' T va, e = .returned (.tuple #[va, erf fl (a 6)]) ∧ Rowf fl s' w' w.heap.size va ((bat x y 0 q).map fun s => phL l (cvr s)) ∧ T ≤ (tls l.length ((bat x y 0 q).map cvr).flatten).length ∧ Outc s0 s' l B K T w w' eb fl) := fun V nV hc0 hc1 hc2 => by
    have := gans_batch (h.nw nV) (he.nw nV) hn q hq (hG.nw nV) #[.pointer (some ⟨w.heap.size, 0, none⟩), .pointer (some ⟨w.heap.size + 1, 0, none⟩), .pointer (some ⟨w.heap.size + 2, 0, none⟩)] ((bat x y 0 q).map cvr) (fun U nU => gclo_batch _ _ _ x y q hxy hy (by omega) U ((hT.nw nV).nw nU) (nU.cellOf hc0) (nU.cellOf hc1) (nU.cellOf hc2))
      hgd (by rw [List.length_map]; omega) (fun cs hcs => by have := hcl cs hcs; omega) hfl
      (Pq s0) (Pfq s0) ⟨rfl, by simp, Int.le_refl _, fun r h1 h2 => by omega⟩ (a 6) (step_f (h.nw nV) hn (hG.nw nV) hK hgd hfl)
    rw [List.map_map] at this
    refine this.mono fun e w' hh => ?_
    rcases hh with ⟨s', g, c, e1, o, hgt, a1, le, p, f, en⟩ | ⟨s', k, hk, e1, a1, le, p, f, en⟩
    · refine ⟨false, s', _, _, e1, .inl ⟨rfl, g, c, by rw [List.length_map, List.length_map], ?_, hgt⟩, Nat.le_refl _, Outc.from ⟨a1, le, f, en, p.2.2.1, fun _ => p.2.1, fun _ => p.2.2.2, fun q => by cases q⟩ nV⟩
      rw [List.length_map, List.length_map]
      rw [List.length_map] at o
      exact ownsRow_base o nV.size
    · exact ⟨true, s', k + 1, _, e1, .inr ⟨rfl, rfl⟩, hk, Outc.from ⟨a1, le, f, en, Int.le_of_lt p.2.1, (fun q => by cases q), (fun q => by cases q), fun _ => ⟨p.2.1, p.2.2⟩⟩ nV⟩
  clear h he hn hq hG hT hK hgd hcl hfl hll hmem
  go_enter Tryz.func64, Tryz.ntmps64
  go_wp2_with fail
  refine (HQ.out _ (by repeat first | with_reducible exact nwr w | with_reducible refine Fr.alloc ?_ _ | with_reducible refine Fr.drew ?_ | (with_reducible refine Fr.setCell ?_ _ _ (fun h => ?_); rotate_left; focus (simp only at h; omega))) ?h0 ?h1 ?h2).mono ?_
  case h0 => exact (cell_of (show (_ : World).heap[_]? = some _ by (repeat first | with_reducible exact heap_new _ _ | with_reducible exact heap_new _ _ | with_reducible exact heap_next _ _ _ | with_reducible exact heap_third _ _ _ _ | with_reducible refine hp_dr ?_ | (with_reducible refine hp_ne ?_ ?_; focus omega) | (with_reducible refine hp_al ?_ ?_; focus (first | omega | (simp <;> omega))) | with_reducible apply hp_set) <;> rfl) 0).trans rfl
  case h1 => exact (cell_of (show (_ : World).heap[_]? = some _ by (repeat first | with_reducible exact heap_new _ _ | with_reducible exact heap_new _ _ | with_reducible exact heap_next _ _ _ | with_reducible exact heap_third _ _ _ _ | with_reducible refine hp_dr ?_ | (with_reducible refine hp_ne ?_ ?_; focus omega) | (with_reducible refine hp_al ?_ ?_; focus (first | omega | (simp <;> omega))) | with_reducible apply hp_set) <;> rfl) 0).trans rfl
  case h2 => exact (cell_of (show (_ : World).heap[_]? = some _ by (repeat first | with_reducible exact heap_new _ _ | with_reducible exact heap_new _ _ | with_reducible exact heap_next _ _ _ | with_reducible exact heap_third _ _ _ _ | with_reducible refine hp_dr ?_ | (with_reducible refine hp_ne ?_ ?_; focus omega) | (with_reducible refine hp_al ?_ ?_; focus (first | omega | (simp <;> omega))) | with_reducible apply hp_set) <;> rfl) 0).trans rfl
  rintro e w3 ⟨fl, s3, T, va, rfl, o3⟩
  have O3 := show Hid _ from o3
  clear o3
  go_wp2
  exact bodyPost_ret (v := .tuple #[va, erf fl (a 6)]) (by simp [results, Tryz.results64]) rfl ⟨fl, s3, T, va, rfl, O3.out⟩
set_option maxRecDepth 100000 in
set_option maxHeartbeats 1000000 in
theorem froot_any {s0 : RS} {l : List (List UInt8)} {B K : Nat} {w : World} (h : s0.At l B K w) {eb : Nat} (he : Eng s0 w eb l.length) (hn : l.length ≤ 1048576) (q : Nat) (hq : q ≤ l.length) {a : Nat → Addr} (hG : Gd B a w) (hT : TabAt w) (hK : K ≤ 900000) :
    Calls Tryz.prog 45 #[.pointer (some ⟨eb, 0, none⟩), .int .u64 (q : Int)] w fun e w' => ∃ fl s' T, e = .returned (.tuple #[.agg (hbs (if fl then zh else phL l (cov 0 q))), erf fl (a 6)]) ∧ T ≤ (tls l.length (cov 0 q)).length ∧ Outc s0 s' l B K T w w' eb fl := by
  have hgd : gdA l.length (cov 0 q) := fun c hc => cov_gd _ 0 q l.length (Nat.le_refl _) hq (by omega) c hc
  have hcl : (cov 0 q).length ≤ 128 := cov_len 0 q (by have : (2 : Nat) ^ 63 = 9223372036854775808 := (by decide); omega)
  have HQ : Hid (∀ V, Nw w V → V.cell? ⟨w.heap.size, 0, none⟩ = some (.int .u64 (q : Int)) → Calls Tryz.prog 89 #[.pointer (some ⟨eb, 0, none⟩), .int .u64 (q : Int), .func (.func 90) #[] #[.pointer (some ⟨w.heap.size, 0, none⟩)]] V fun e w' =>
      ∃ fl s' T va, e = .returned (.tuple #[va, erf fl (a 6)]) ∧ Rowf fl s' w' V.heap.size va [phL l (cov 0 q)] ∧ T ≤ (tls l.length (cov 0 q)).length ∧ Outc s0 s' l B K T V w' eb fl) := fun V nV hc => by
    have := gans_root (h.nw nV) (he.nw nV) hn q hq (hG.nw nV) #[.pointer (some ⟨w.heap.size, 0, none⟩)] [cov 0 q] (fun U nU => gclo_root w.heap.size q (by omega) U ((hT.nw nV).nw nU) (nU.cellOf hc))
      (by rw [flat_one q]; exact hgd) (by simp) (fun cs hcs => by simp at hcs; subst hcs; omega) (by rw [flat_one q]; omega)
      (Pq s0) (Pfq s0) ⟨rfl, by simp, Int.le_refl _, fun r h1 h2 => by omega⟩ (a 6) (by rw [flat_one q]; exact step_f (h.nw nV) hn (hG.nw nV) hK hgd (by omega))
    rw [flat_one q] at this
    refine this.mono fun e w' hh => ?_
    rcases hh with ⟨s', g, c, e1, o, hgt, a1, le, p, f, en⟩ | ⟨s', k, hk, e1, a1, le, p, f, en⟩
    · exact ⟨false, s', _, _, e1, .inl ⟨rfl, g, c, rfl, o, hgt⟩, Nat.le_refl _, ⟨a1, le, f, en, p.2.2.1, fun _ => p.2.1, fun _ => p.2.2.2, fun q => by cases q⟩⟩
    · exact ⟨true, s', k + 1, _, e1, .inr ⟨rfl, rfl⟩, hk, ⟨a1, le, f, en, Int.le_of_lt p.2.1, (fun q => by cases q), (fun q => by cases q), fun _ => ⟨p.2.1, p.2.2⟩⟩⟩
  have h32 : (phL l (cov 0 q)).length = 32 := phL_32 h.h32 _
  have HEB : Hid (eb < w.heap.size) := heap_lt he.blk
  have hNT : Hid (∀ k, w.heap.size ≤ k → s0.tg k = 9) := h.nt
  obtain ⟨R, hR⟩ : ∃ R, R = phL l (cov 0 q) := ⟨_, rfl⟩
  rw [← hR] at HQ h32 ⊢
  have hRs : (hbs R).size = 32 := by rw [hbs_size, h32]
  obtain ⟨T, hTt⟩ : ∃ T, T = (tls l.length (cov 0 q)).length := ⟨_, rfl⟩
  rw [← hTt] at HQ ⊢
  have HTT : Hid (T = (tls l.length (cov 0 q)).length) := hTt
  clear h he hn hq hG hT hK hgd hcl hR hTt
  go_enter Tryz.func45, Tryz.ntmps45
  go_upto_region 1 with fail
  rw [z32_h]
  obtain ⟨w2, hw2⟩ : ∃ q2, (w.alloc (.cells #[.int .u64 (q : Int)] 41)).alloc (.cells z32 69) = q2 := ⟨_, rfl⟩
  obtain ⟨⟨l0, l1⟩, b0, b1, n2⟩ := two_made (w := w) (w1 := w2) (o := .cells #[.int .u64 (q : Int)] 41) (p := .cells z32 69) (by rw [hw2]; exact nwr _)
  rw [hw2]
  have c0 := cell1 b0
  have HB1 : Hid (w2.heap[w.heap.size + 1]? = some (.cells z32 69)) := b1
  have N2 : Hid (Nw w w2) := n2
  have HC0 : Hid (w2.cell? ⟨w.heap.size, 0, none⟩ = some (.int .u64 (q : Int))) := c0
  clear b0 b1 n2 hw2 l1
  go_wp2_with fail
  refine (HQ.out w2 N2.out HC0.out).mono ?_
  rintro e w3 ⟨fl, s3, Tn, va, rfl, o3, hTn, an⟩
  have AN : Hid (Tn ≤ T ∧ Outc s0 s3 l B K Tn w2 w3 eb fl) := ⟨hTn, an⟩
  have HB3 : Hid (w3.heap[w.heap.size + 1]? = some (.cells z32 69)) := (an.fr.block _ (heap_lt HB1.out) (fun q => by have := hNT.out (w.heap.size + 1) (by omega); unfold RS.Ff at q; omega)).trans HB1.out
  have LB3 : Hid (w.heap.size + 1 < w2.heap.size) := heap_lt HB1.out
  have HEND : Hid (∀ w6, Fr (fun k => k = w.heap.size + 1) w3 w6 → Outc s0 s3 l B K Tn w w6 eb fl) := fun w6 f6 => by
    have h := an.from N2.out
    have t9 : s3.tg (w.heap.size + 1) = 9 := (an.le.tg _ LB3.out).trans (hNT.out _ (by omega))
    refine ⟨h.at_.fr9 f6 (fun k hk => by subst hk; exact t9), h.le, h.fr.trans f6 (fun k hk q => by omega), ⟨(f6.block _ (heap_lt h.eng.blk) (fun q => ?_)).trans h.eng.blk, h.eng.tg⟩, h.rn, h.x, h.ok, h.no⟩
    have := HEB.out
    omega
  rcases o3 with ⟨rfl, g, c, rfl, o3, hg9⟩ | ⟨rfl, rfl⟩
  · have hgl := (o3.lt g rfl).2
    have HCL : Hid (∀ j, j < 32 → w3.cell? ⟨g, 0 + j, none⟩ = (hbs R)[j]?) := fun j hj => by
      have := hss_atI (k := 0) (x := R) (by intro x hx; simp at hx; rw [hx]; exact h32) rfl o3 rfl j hj
      simpa using this
    clear o3 an c0 l0 hg9 hTn
    simp only [erf, if_false, Bool.false_eq_true]
    go_wp2_with first
      | refine wple_load_at rfl (.tmp 20) 69 32 rfl Tryz.isAgg69 Tryz.sizeOf69 g 0 rfl (hbs R) hRs HCL.out ?_
      | (refine wp_store_agg rfl (.tmp 4) (.tmp 21) 69 32 rfl Tryz.sizeOf69 (w.heap.size + 1) 0 rfl _ 69 HB3.out (hbs R) rfl hRs (hbs_one _) (by decide) (hbs R) (by simp [z32_size]) ?_; intro w6 j6 f6 zz; clear zz)
    refine bodyPost_ret (results_cell_slot (V := hbs R) (ty := 69) (f := (0, 0)) Tryz.results45 Tryz.isAgg69 Tryz.sizeOf69 rfl _ rfl j6 hRs) rfl ⟨false, s3, Tn, rfl, AN.out.1, HEND.out w6 f6⟩
  · have hZs : (hbs zh).size = 32 := by rw [hbs_size]; rfl
    obtain ⟨Z, hZ⟩ : ∃ Z, Z = zh := ⟨_, rfl⟩
    have HZ : Hid (Z = zh) := hZ
    rw [← hZ] at hZs
    clear an c0 l0 hTn hZ
    simp only [erf, if_true]
    go_wp2_with first
      | (refine wpl_zero (by rfl) rfl ?_; rw [← HZ.out])
      | (refine wp_store_agg rfl (.tmp 4) (.tmp 17) 69 32 rfl Tryz.sizeOf69 (w.heap.size + 1) 0 rfl _ 69 HB3.out (hbs Z) rfl hZs (hbs_one _) (by decide) (hbs Z) (by simp [z32_size]) ?_; intro w6 j6 f6 zz; clear zz)
    refine bodyPost_ret (results_cell_slot (V := hbs Z) (ty := 69) (f := (0, 0)) Tryz.results45 Tryz.isAgg69 Tryz.sizeOf69 rfl _ rfl j6 hZs) rfl ⟨true, s3, Tn, by rw [HZ.out]; rfl, AN.out.1, HEND.out w6 f6⟩
end Go.Proofs.YtjkhcplnedcmeaaGreatDoor
namespace Go.Proofs.YtjkhcplnedcmeaaGreatDoor
open Go.RowKit
set_option linter.unusedVariables false
set_option linter.unusedSimpArgs false
/-- A stretch that lies in a tree of its own beginning. -/
def Aln (s : Nat × Nat) : Prop := s.1 < s.2 ∧ ∃ j, 2 ^ j ∣ s.1 ∧ s.2 - s.1 ≤ 2 ^ j
theorem pth_aln : ∀ (c i b e : Nat), 2 ^ c ∣ b → e - b ≤ 2 ^ c → ∀ s ∈ pth i b e, Aln s
  | c, i, b, e, hd, h, s, hs => by
    by_cases h2 : 2 ≤ e - b
    · obtain ⟨j, hj, hj1, hj2⟩ := spl_ex h2
      have hjc : j < c := (Nat.pow_lt_pow_iff_right (by decide)).1 (Nat.lt_of_lt_of_le hj1 h)
      have hp := Nat.two_pow_pos j
      have hd1 : 2 ^ j ∣ b := Nat.dvd_trans (Nat.pow_dvd_pow 2 (by omega)) hd
      have hd2 : 2 ^ j ∣ b + 2 ^ j := Nat.dvd_add hd1 (Nat.dvd_refl _)
      cases c with
      | zero => omega
      | succ c =>
        by_cases hi : i < b + spl (e - b)
        · rw [pth_left h2 hi] at hs
          rw [hj] at hs
          rcases List.mem_append.1 hs with hs | hs
          · exact pth_aln j i b (b + 2 ^ j) hd1 (by omega) s hs
          · simp at hs; subst hs; exact ⟨by show b + 2 ^ j < e; omega, j, hd2, by show e - (b + 2 ^ j) ≤ 2 ^ j; omega⟩
        · rw [pth_right h2 hi] at hs
          rw [hj] at hs
          rcases List.mem_append.1 hs with hs | hs
          · exact pth_aln j i (b + 2 ^ j) e hd2 (by omega) s hs
          · simp at hs; subst hs; exact ⟨by show b < b + 2 ^ j; omega, j, hd1, by show b + 2 ^ j - b ≤ 2 ^ j; omega⟩
    · rw [pth_one h2] at hs; simp at hs
  termination_by c => c
theorem prf_aln : ∀ (c o b e : Nat) (known : Bool), 2 ^ c ∣ b → e - b ≤ 2 ^ c → b < o → o ≤ e → ∀ s ∈ prf o b e known, Aln s
  | c, o, b, e, known, hd, h, hb, ho, s, hs => by
    by_cases hoe : o = e
    · subst hoe
      cases known with
      | true => rw [prf_known] at hs; simp at hs
      | false => rw [prf_whole] at hs; simp at hs; subst hs; exact ⟨hb, c, hd, h⟩
    · have h2 : 2 ≤ e - b := by omega
      obtain ⟨j, hj, hj1, hj2⟩ := spl_ex h2
      have hjc : j < c := (Nat.pow_lt_pow_iff_right (by decide)).1 (Nat.lt_of_lt_of_le hj1 h)
      have hp := Nat.two_pow_pos j
      have hd1 : 2 ^ j ∣ b := Nat.dvd_trans (Nat.pow_dvd_pow 2 (by omega)) hd
      have hd2 : 2 ^ j ∣ b + 2 ^ j := Nat.dvd_add hd1 (Nat.dvd_refl _)
      cases c with
      | zero => omega
      | succ c =>
        by_cases hi : o ≤ b + spl (e - b)
        · rw [prf_left h2 hoe hi] at hs
          rw [hj] at hs hi
          rcases List.mem_append.1 hs with hs | hs
          · exact prf_aln j o b (b + 2 ^ j) known hd1 (by omega) hb hi s hs
          · simp at hs; subst hs; exact ⟨by show b + 2 ^ j < e; omega, j, hd2, by show e - (b + 2 ^ j) ≤ 2 ^ j; omega⟩
        · rw [prf_right h2 hoe hi] at hs
          rw [hj] at hs hi
          rcases List.mem_append.1 hs with hs | hs
          · exact prf_aln j o (b + 2 ^ j) e false hd2 (by omega) (by omega) ho s hs
          · simp at hs; subst hs; exact ⟨by show b < b + 2 ^ j; omega, j, hd1, by show b + 2 ^ j - b ≤ 2 ^ j; omega⟩
  termination_by c => c
theorem bat_aln : ∀ (c x y b e : Nat), 2 ^ c ∣ b → e - b ≤ 2 ^ c → b < e → ∀ s ∈ bat x y b e, Aln s
  | c, x, y, b, e, hd, h, hb, s, hs => by
    by_cases h0 : y ≤ b ∨ e ≤ x
    · rw [bat_out h0] at hs; simp at hs; subst hs; exact ⟨hb, c, hd, h⟩
    · by_cases h1 : x ≤ b ∧ e ≤ y
      · rw [bat_in h0 h1] at hs; simp at hs
      · have h2 : 2 ≤ e - b := by omega
        obtain ⟨j, hj, hj1, hj2⟩ := spl_ex h2
        have hjc : j < c := (Nat.pow_lt_pow_iff_right (by decide)).1 (Nat.lt_of_lt_of_le hj1 h)
        have hp := Nat.two_pow_pos j
        have hd1 : 2 ^ j ∣ b := Nat.dvd_trans (Nat.pow_dvd_pow 2 (by omega)) hd
        have hd2 : 2 ^ j ∣ b + 2 ^ j := Nat.dvd_add hd1 (Nat.dvd_refl _)
        cases c with
        | zero => omega
        | succ c =>
          rw [bat_cut h0 h1] at hs
          rw [hj] at hs
          rcases List.mem_append.1 hs with hs | hs
          · exact bat_aln j x y b (b + 2 ^ j) hd1 (by omega) (by omega) s hs
          · exact bat_aln j x y (b + 2 ^ j) e hd2 (by omega) (by omega) s hs
  termination_by c => c
/-- A tree's hash, of a log's leaves. -/
def trS (L : List ByteArray) (c : Nat × Nat) : List UInt8 := hst L (c.2 * 2 ^ c.1, (c.2 + 1) * 2 ^ c.1)
theorem hst_cut (L : List ByteArray) (b e k : Nat) (he : e ≤ L.length) (h1 : 2 ^ k < e - b) (h2 : e - b ≤ 2 * 2 ^ k) : hst L (b, e) = ndp (hst L (b, b + 2 ^ k)) (hst L (b + 2 ^ k, e)) := by
  have hp := Nat.two_pow_pos k
  unfold hst
  simp only
  rw [mth_sbl (by omega) he, spl_of h1 h2]
  rfl
theorem cov_twoI {a c : Nat} (h : a < c) : cov a c ≠ [] := by rw [cov_step (lev_is h)]; simp
theorem fold_covS (L : List ByteArray) : ∀ (n a c j : Nat), c - a ≤ n → c ≤ L.length → 2 ^ j ∣ a → c - a < 2 ^ j → a < c → fdp ((cov a c).map (trS L)) = hst L (a, c)
  | n, a, c, j, hn, hc, hd, hs, hac => by
    have hW := lev_is hac
    obtain ⟨M, hM⟩ : ∃ M, M = lev a c := ⟨_, rfl⟩
    rw [← hM] at hW
    obtain ⟨s1, s2⟩ := isW_small hd hs hW
    have hp := Nat.two_pow_pos M
    have hle := hW.1.2
    have ht : trS L (M, a / 2 ^ M) = hst L (a, a + 2 ^ M) := by
      unfold trS
      simp only
      rw [Nat.add_mul, Nat.one_mul, Nat.div_mul_cancel hW.1.1]
    rw [cov_step hW, List.map_cons, ht]
    by_cases hr : a + 2 ^ M < c
    · cases n with
      | zero => omega
      | succ n =>
        have ih := fold_covS L n (a + 2 ^ M) c M (by omega) hc (Nat.dvd_add hW.1.1 (Nat.dvd_refl _)) s2 hr
        rw [fdp_cons _ _ (by simp [cov_twoI hr]), ih, hst_cut L a c M hc (by omega) (by omega)]
    · have e1 : a + 2 ^ M = c := by omega
      rw [cov_nil hr, e1]
      rfl
theorem fold_alnS (L : List ByteArray) (s : Nat × Nat) (h : Aln s) (hs : s.2 ≤ L.length) : fdp ((cvr s).map (trS L)) = hst L s := by
  obtain ⟨b, e⟩ := s
  obtain ⟨h1, j, h2, h3⟩ := h
  simp only at h1 h2 h3 hs
  rcases Nat.lt_or_ge (e - b) (2 ^ j) with h4 | h4
  · exact fold_covS L _ b e j (Nat.le_refl _) hs h2 h4 h1
  · have e1 : e = b + 2 ^ j := by omega
    subst e1
    show fdp ((cov b (b + 2 ^ j)).map (trS L)) = _
    rw [cov_whole j b h2, List.map_cons, List.map_nil]
    show trS L (j, b / 2 ^ j) = _
    unfold trS
    simp only
    rw [Nat.add_mul, Nat.one_mul, Nat.div_mul_cancel h2]
theorem thL_trS (n : Nat) (c : Nat × Nat) (h : (c.2 + 1) * 2 ^ c.1 ≤ n) : thL (ldH n) c = trS (ldS n) c := by
  unfold thL trS hst
  simp only
  have hlen : (sbl (ldS n) (c.2 * 2 ^ c.1) ((c.2 + 1) * 2 ^ c.1)).length = 2 ^ c.1 := by
    rw [sbl_len, ldS_len, Nat.min_eq_left h, Nat.succ_mul, Nat.add_sub_cancel_left]
  rw [mth_ovr c.1 _ hlen]
  simp only [sbl, ldH, List.map_drop, List.map_take]
  rw [List.drop_take, Nat.succ_mul, Nat.add_sub_cancel_left]
/-- A part's hash is its stretch's. -/
theorem phL_hst (n : Nat) (hn : n ≤ 1048576) (s : Nat × Nat) (h : Aln s) (hs : s.2 ≤ n) : phL (ldH n) (cvr s) = hst (ldS n) s := by
  rw [← fold_alnS (ldS n) s h (by rw [ldS_len]; exact hs)]
  unfold phL
  congr 1
  refine List.map_congr_left fun c hc => thL_trS n c ?_
  exact (cov_gd _ s.1 s.2 n (Nat.le_refl _) hs (by omega) c hc).2
theorem aln_root {q : Nat} (h : 0 < q) : Aln (0, q) := by
  refine ⟨h, q, Nat.dvd_zero _, ?_⟩
  show q - 0 ≤ 2 ^ q
  have := @Nat.lt_two_pow_self q
  omega
theorem aln_pth (i q : Nat) : ∀ s ∈ pth i 0 q, Aln s := pth_aln q i 0 q (Nat.dvd_zero _) (by have := @Nat.lt_two_pow_self q; omega)
theorem aln_prf (i q : Nat) (h0 : 0 < i) (h : i ≤ q) : ∀ s ∈ prf i 0 q true, Aln s := prf_aln q i 0 q true (Nat.dvd_zero _) (by have := @Nat.lt_two_pow_self q; omega) h0 h
theorem aln_bat (x y q : Nat) (h : 0 < q) : ∀ s ∈ bat x y 0 q, Aln s := bat_aln q x y 0 q (Nat.dvd_zero _) (by have := @Nat.lt_two_pow_self q; omega) h
theorem rows_hst (n : Nat) (hn : n ≤ 1048576) (l : List (Nat × Nat)) (h : ∀ s ∈ l, Aln s ∧ s.2 ≤ n) : (l.map fun s => phL (ldH n) (cvr s)) = l.map (hst (ldS n)) :=
  List.map_congr_left fun s hs => phL_hst n hn s (h s hs).1 (h s hs).2
end Go.Proofs.YtjkhcplnedcmeaaGreatDoor
namespace Go.Proofs.YtjkhcplnedcmeaaGreatDoor
open Go.RowKit
set_option linter.unusedVariables false
set_option linter.unusedSimpArgs false
theorem within_any (n lo hi : Nat) (h : lo ≤ hi) (hh : hi ≤ 1048576) (hn : n < 18446744073709551616) (w : World) :
    Calls Tryz.prog 60 #[.int .u64 (n : Int), .int .u64 (lo : Int), .int .u64 (hi : Int)] w fun e w' => e = .returned (.int .u64 ((lo + n % (hi - lo + 1) : Nat) : Int)) ∧ w' = w := by
  obtain ⟨d, hd⟩ : ∃ d, d = hi - lo := ⟨_, rfl⟩
  obtain ⟨m, hm⟩ : ∃ m, m = hi - lo + 1 := ⟨_, rfl⟩
  have hml : 0 < m ∧ m ≤ 1048577 := by omega
  obtain ⟨r, hr⟩ : ∃ r, r = n % m := ⟨_, rfl⟩
  have hrl : r < m := by rw [hr]; exact Nat.mod_lt _ hml.1
  obtain ⟨s, hs⟩ : ∃ s, s = lo + r := ⟨_, rfl⟩
  rw [← hm, ← hr, ← hs]
  have e1 : (hi : Int) - (lo : Int) = (d : Int) := by omega
  have e2 : (d : Int) + 1 = (m : Int) := by omega
  have e3 : (n : Int) % (m : Int) = (r : Int) := by rw [hr]; exact (Int.natCast_emod n m).symm
  have e4 : (lo : Int) + (r : Int) = (s : Int) := by omega
  have hmn : ¬ (m : Int) = 0 := by omega
  have hb : d ≤ 1048576 ∧ s ≤ 1048576 ∧ r ≤ 1048576 := by omega
  have hm0 : m ≠ 0 := by omega
  clear hd hm hr hs
  go_enter Tryz.func60, Tryz.ntmps60
  go_wp2
  go_ret
  exact ⟨rfl, rfl⟩
theorem num16_any (x : Int) (h1 : -9223372036854775808 ≤ x) (h2 : x ≤ 9223372036854775807) (w : World) :
    Calls Tryz.prog 11 #[.int .i64 x] w fun e w' => ∃ k : Nat, e = .returned (.int .i64 (k : Int)) ∧ 1 ≤ k ∧ k ≤ 600 ∧ w' = w := by
  obtain ⟨u, hu, hub⟩ : ∃ u : Nat, IntKind.u64.wrap x = (u : Int) ∧ u < 18446744073709551616 := by
    rw [IntKind.wrap_u64]
    exact ⟨(x % 18446744073709551616).toNat, by omega, by omega⟩
  obtain ⟨r, hr⟩ : ∃ r, r = u % 600 := ⟨_, rfl⟩
  have e3 : (u : Int) % 600 = (r : Int) := by omega
  have hrl : r < 600 := by omega
  have e4 : 1 + (r : Int) = ((r + 1 : Nat) : Int) := by omega
  obtain ⟨s, hs⟩ : ∃ s, s = r + 1 := ⟨_, rfl⟩
  rw [← hs] at e4
  have hsl : 1 ≤ s ∧ s ≤ 600 := by omega
  clear hr hs
  go_enter Tryz.func11, Tryz.ntmps11
  go_wp2
  trace_state
  go_ret
  exact ⟨s, rfl, hsl.1, hsl.2, rfl⟩
end Go.Proofs.YtjkhcplnedcmeaaGreatDoor
