/- law15: proves. -/
import Derived.Test.YtlaiomgebkeldaaDoorYy
import Derived.Test.YtlaiomgebkeldaaDoorYk
namespace Go.Proofs.YtlaiomgebkeldaaDoor
open Go.RowKit
set_option linter.unusedVariables false
set_option linter.unusedSimpArgs false
set_option maxRecDepth 100000 in
set_option maxHeartbeats 4000000 in
theorem proves15_any (v u : Value) (l : List (Nat × Nat)) (hl : l.length ≤ 1000) (L : List (List UInt8)) (h32 : ∀ y ∈ L, y.length = 32) (hL : L.length ≤ 1000) (p : Option Addr) (cap : Nat) (hcap : L.length ≤ cap) (w : World) (hv : Prt w v (l.map cvr)) (hu : Hss w u (l.map (hshp L))) (ha : ∀ s ∈ l, Aln s ∧ s.2 ≤ L.length) (hp : Hrs w p L) (hLd : Laid w) :
    Calls Tryd.prog 18 #[v, .slice p L.length cap, u] w fun e w' => e = .returned (.bool true) ∧ Nw w w' := by
  obtain ⟨ad, ca, rfl, hv⟩ := hv
  obtain ⟨bd, cb, rfl, hu⟩ := hu
  have HV : Hid (∀ k m, (l.map cvr)[k]? = some m → ∃ g off x, ad = some ⟨g, off, none⟩ ∧ g < w.heap.size ∧ w.cell? ⟨g, off + k, none⟩ = some x ∧ Crd w x m) := hv
  have HU : Hid (∀ V, Nw w V → ∀ k h, (l.map (hshp L))[k]? = some h → ∃ g off, bd = some ⟨g, off, none⟩ ∧ ∀ j, j < 32 → V.cell? ⟨g, off + k * 32 + j, none⟩ = (hbs h)[j]?) := fun V nV k h hk => by
    obtain ⟨g, off, e, hc⟩ := hu k h hk
    refine ⟨g, off, e, fun j hj => ?_⟩
    have h1 : h.length = 32 := by
      obtain ⟨s, _, rfl⟩ := List.mem_map.1 (List.mem_of_getElem? hk)
      exact hshp_len L h32 s
    have hs : j < (hbs h).size := by rw [hbs_size, h1]; exact hj
    have h5 : (hbs h)[j]? = some (hbs h)[j] := Array.getElem?_eq_getElem hs
    have := hc j hj
    rw [h5] at this ⊢
    exact nV.cellOf this
  have HFo : Hid (∀ V x s, Nw w V → Crd V x (cvr s) → s ∈ l → Calls Tryd.prog 15 #[.agg #[x], .slice p L.length cap] V fun e w' => e = .returned (.tuple #[.agg (hbs (hshp L s)), .bool true]) ∧ Nw V w') := fun V x s nV hx hs => folded15_any x s L h32 hL p cap hcap V hx (ha s hs).1 (ha s hs).2 (hp.nw h32 nV) (hLd.nw nV)
  have H32 : Hid (∀ s, (hshp L s).length = 32) := fun s => hshp_len L h32 s
  clear hv hu ha hp hLd h32
  rw [List.length_map, List.length_map]
  obtain ⟨n, hn⟩ : ∃ n, n = l.length := ⟨_, rfl⟩
  have HN : Hid (n = l.length) := hn
  obtain ⟨z, hz⟩ : ∃ z, z = L.length := ⟨_, rfl⟩
  rw [← hn] at hl ⊢
  rw [← hz] at HFo hL hcap ⊢
  clear hn hz
  go_enter Tryd.func18, Tryd.ntmps18
  go_wp2
  go_loopw [7] (fun i wr => ∃ k : Nat, k ≤ n ∧ i = .int .i64 k ∧ Nw w wr) (fun i _ => n - (intOf i).toNat)
  case atStart => exact ⟨0, by omega, rfl, nwr w⟩
  case round =>
    obtain ⟨k, hk, rfl, hnw⟩ := hrel
    have HW : Hid (Nw w wr) := hnw
    clear hnw
    by_cases hlt : k < n
    · obtain ⟨s, hs⟩ : ∃ t, l[k]? = some t := ⟨_, List.getElem?_eq_getElem (by rw [← HN.out]; exact hlt)⟩
      obtain ⟨g, off, x, rfl, g1, g2, g3⟩ := HV.out k (cvr s) (by rw [List.getElem?_map, hs]; rfl)
      obtain ⟨q, of2, rfl, _⟩ := HU.out w (nwr w) k (hshp L s) (by rw [List.getElem?_map, hs]; rfl)
      have HCU : Hid (∀ V, Nw w V → ∀ j, j < 32 → V.cell? ⟨q, of2 + k * 32 + j, none⟩ = (hbs (hshp L s))[j]?) := fun V nV => by
        obtain ⟨q', o', e, hc⟩ := HU.out V nV k (hshp L s) (by rw [List.getElem?_map, hs]; rfl)
        cases e
        exact hc
      have g2' := HW.out.cellOf g2
      have HQF := HFo.out wr x s HW.out (g3.nw HW.out) (List.mem_of_getElem? hs)
      have R32 := H32.out s
      obtain ⟨R, hR⟩ : ∃ R, R = hshp L s := ⟨_, rfl⟩
      rw [← hR] at HQF R32 HCU
      have HR32 : Hid (R.length = 32) := R32
      have hRs : (hbs R).size = 32 := by rw [hbs_size, R32]
      have QF : Hid (Calls Tryd.prog 15 #[.agg #[x], .slice p z cap] wr fun e w' => e = .returned (.tuple #[.agg (hbs R), .bool true]) ∧ Nw wr w') := HQF
      have hki : (k : Int) < (n : Int) := by omega
      clear hs g2 g3 HQF R32 hR
      go_wp2_with fail
      refine QF.out.mono ?_
      rintro e w1 ⟨rfl, n1⟩
      have N1 : Hid (Nw wr w1) := n1
      clear n1 g2'
      go_wp2_with (refine wp_store_agg rfl (.tmp 8) (.tmp 28) 26 32 rfl Tryd.sizeOf26 w1.heap.size 0 rfl z32 26 (by rw [← z32_h]; exact heap_new _ _) (hbs R) rfl hRs (hbs_one _) (by decide) (hbs R) (by rw [dropA z32_size]; simp) ?_; intro w4 j4 f4 z4; clear z4; have N4 : Hid (Nw wr w4) := (N1.out.alloc _).trans f4 (fun q hq e => by have := N1.out.size; omega); have J4 : Hid (w4.heap[w1.heap.size]? = some (.cells (hbs R) 26)) := j4; clear f4 j4)
      obtain ⟨bx, hbx⟩ : ∃ b, b = w1.heap.size := ⟨_, rfl⟩
      rw [← hbx] at J4 ⊢
      clear hbx
      have HCW : Hid (∀ j, j < 32 → w4.cell? ⟨q, of2 + k * 32 + j, none⟩ = (hbs R)[j]?) := HCU.out w4 (HW.out.tr N4.out)
      (refine wp_region_grown (by kernel_rfl) (by kernel_rfl) ?_; (repeat (first | go_big_quiet_skip | (go_big_quiet_want; first | (refine quiet_load (.tmp 8) rfl bx 0 rfl R HR32.out (hash_cells J4.out) ?_; ((try simp only [Act.put, List.setIfInBounds_toArray, List.set_cons_zero, List.set_cons_succ]); go_big_quiet_on)) | (refine quiet_load (.tmp 36) rfl q (of2 + k * 32) rfl R HR32.out HCW.out ?_; ((try simp only [Act.put, List.setIfInBounds_toArray, List.set_cons_zero, List.set_cons_succ]); go_big_quiet_on)) | (refine quiet_neq (.tmp 33) (.tmp 37) rfl R HR32.out rfl rfl ?_; ((try simp only [Act.put, List.setIfInBounds_toArray, List.set_cons_zero, List.set_cons_succ]); go_big_quiet_on)) | (go_big_quiet_op; first | go_big_quiet_on | go_big_quiet_call (first | rfl))))); refine wpQuiet_nil ?_; rintro W ⟨⟨_, nW⟩, rfl⟩)
      go_wp2
      exact ⟨⟨k + 1, by omega, by go_num, (HW.out.tr N4.out).tr nW⟩, by simp [intOf]; omega⟩
    · obtain rfl : k = n := by omega
      go_wp2
      go_ret
      exact ⟨rfl, HW.out⟩
end Go.Proofs.YtlaiomgebkeldaaDoor
