/- tile: Encode of hashes. -/
import Derived.Test.YtbkhdnceblgljaaGreatDoorVa
namespace Go.Proofs.YtbkhdnceblgljaaGreatDoor
open Go.RowKit
set_option linter.unusedVariables false
set_option linter.unusedSimpArgs false
theorem conv_byl {w : World} {v : Value} {X : List UInt8} (h : Byl w v X) : (convert 64 9 v).run Tryz.prog w = .ok (.string ⟨X.toArray⟩) w := by
  rcases h with ⟨rfl, rfl⟩ | ⟨b, o, c, rfl, _, _, hc⟩
  · kernel_rfl
  · refine run_convert_bytes_back w _ _ 5 ⟨b, o, none⟩ c X Tryz.underlying64 Tryz.underlying5 Tryz.underlying9 (fun j hj => ?_)
    rw [addO]
    exact hc j X[j] (List.getElem?_eq_getElem hj)
/-- The bytes of hashes. -/
def fltH (L : List (List UInt8)) : List UInt8 := L.flatten
theorem fltH_len : ∀ (L : List (List UInt8)), (∀ x ∈ L, x.length = 32) → (fltH L).length = 32 * L.length
  | [], _ => rfl
  | x :: r, h => by
    have ih := fltH_len r (fun y hy => h y (by simp [hy]))
    have hx := h x (by simp)
    simp only [fltH, List.flatten_cons, List.length_append, List.length_cons] at ih ⊢
    omega
theorem fltH_snoc (L : List (List UInt8)) (k : Nat) (x : List UInt8) (h : L[k]? = some x) : fltH (L.take (k + 1)) = fltH (L.take k) ++ x := by
  unfold fltH
  rw [List.take_add_one, h, List.flatten_append]
  simp
theorem byl_own {w : World} {base n : Nat} {va : Option Addr} {vc : Nat} {X : List UInt8} (hn : X.length = n) (h8 : n ≤ 1000000) (h : w.ownsRow base 5 1 (.slice va n vc) n (bc X)) : Byl w (.slice va n vc) X := by
  rcases h.2 with ⟨hv, h0⟩ | ⟨g, cap, cur, hv, _, hb, h3, h4, _, _⟩
  · refine .inl ⟨List.length_eq_zero_iff.1 (by omega), hv⟩
  · injection hv with q1 q2 q3
    subst q1 q3
    refine .inr ⟨g, 0, vc, by rw [hn], by omega, ⟨by omega, by unfold maxLen at h4; omega⟩, fun i x hx => ?_⟩
    have := h.cells (g := g) rfl i (.int .u8 (x.toNat : Int)) (by unfold bc; rw [List.getElem?_map, hx]; rfl)
    rw [addO] at this
    exact this
set_option maxRecDepth 100000 in
set_option maxHeartbeats 2000000 in
theorem enc_yes (L : List (List UInt8)) (h32 : ∀ x ∈ L, x.length = 32) (h1 : 1 ≤ L.length) (h2 : L.length ≤ 256) (ad : Option Addr) (c : Nat) (w : World) (hs : Hss w (.slice ad L.length c) L) :
    Calls Tryz.prog 24 #[.slice ad L.length c] w fun e w' => e = .returned (.tuple #[.string ⟨(fltH L).toArray⟩, .nilIface]) ∧ Nw w w' := by
  obtain ⟨n, hn⟩ : ∃ n, n = L.length := ⟨_, rfl⟩
  have Hn : Hid (L.length = n) := hn.symm
  have HS : Hid (Hss w (.slice ad n c) L) := by rw [hn]; exact hs
  have H32 : Hid (∀ x ∈ L, x.length = 32) := h32
  rw [← hn] at h1 h2 ⊢
  clear hn hs h32
  obtain ⟨i0, hi0, hz0, hz1, hz2⟩ := info8b
  obtain ⟨w1, hmk, hown, hgr⟩ := run_make_own (P := Tryz.prog) w w.heap.size 64 5 i0 (.int .u8 0) 1 Tryz.underlying64 hi0 hz0 hz1 .i64 .i64 (32 * n) (by rw [hz2]; omega) (by unfold maxLen; omega) (Nat.le_refl _)
  have e32 : ((32 * n : Nat) : Int) = 32 * (n : Int) := by omega
  rw [e32] at hmk
  have N1 : Hid (Nw w w1) := (Fr.refl _ w).grown hgr (fun k hk => by cases hk)
  have O1 : Hid (w1.ownsRow w.heap.size 5 1 (.slice (some ⟨w.heap.size, 0, none⟩) 0 (32 * n)) 0 []) := hown
  have d1 : ¬ (n : Int) < 1 := by omega
  have d2 : ¬ (256 : Int) < (n : Int) := by omega
  have HI0 : Hid (Tryz.prog.info? 5 = some i0 ∧ i0.zero = some (.int .u8 0) ∧ i0.size = 1 ∧ i0.bytes = 1) := ⟨hi0, hz0, hz1, hz2⟩
  clear hown hgr e32 hi0 hz0 hz1 hz2
  go_enter Tryz.func24, Tryz.ntmps24
  go_wp2
  go_loopw [4, 22] (fun u v wr => ∃ (k : Nat) (va : Option Addr) (vc : Nat), k ≤ n ∧ v = .int .i64 k ∧ u = .slice va (32 * k) vc ∧ wr.ownsRow w.heap.size 5 1 (.slice va (32 * k) vc) (32 * k) (bc (fltH (L.take k))) ∧ Nw w wr) (fun _ v _ => n - (intOf v).toNat)
  case atStart => exact ⟨0, _, _, by omega, rfl, rfl, O1.out, N1.out⟩
  case round =>
    obtain ⟨k, va, vc, hk, rfl, rfl, ho, hnw⟩ := hrel
    have HO : Hid (wr.ownsRow w.heap.size 5 1 (.slice va (32 * k) vc) (32 * k) (bc (fltH (L.take k)))) := ho
    have HN : Hid (Nw w wr) := hnw
    clear ho hnw hmk
    by_cases hlt : k < n
    · obtain ⟨x, hx⟩ : ∃ x, L[k]? = some x := ⟨_, List.getElem?_eq_getElem (by rw [Hn.out]; exact hlt)⟩
      have X32 : Hid (x.length = 32) := H32.out x (List.mem_of_getElem? hx)
      have hxs : (hbs x).size = 32 := by rw [hbs_size, X32.out]
      obtain ⟨p, off, e, hc⟩ := (HS.out.nw H32.out HN.out).atT hx
      subst e
      have HC : Hid (∀ j, j < 32 → wr.cell? ⟨p, off + k * 32 + j, none⟩ = (hbs x)[j]?) := hc
      have HX : Hid (fltH (L.take (k + 1)) = fltH (L.take k) ++ x) := fltH_snoc L k x hx
      have hki : (k : Int) < (n : Int) := by omega
      clear hx hc
      have hkb : k ≤ 256 := by omega
      have HBT : Hid ((hbs x).toList = bc x) := by show _ = _; simp [hbs]
      go_wp2_with (first
        | (refine wpl_load rfl (.tmp 24) rfl p (off + k * 32) rfl x X32.out HC.out ?_)
        | (refine wp_store_agg rfl (.tmp 6) (.tmp 25) 42 32 rfl Tryz.sizeOf42 wr.heap.size 0 rfl _ 42 (heap_new _ _) (hbs x) rfl hxs (hbs_one _) (by decide) (hbs x) (by simp) ?_; intro w4 j4 f4 zz; clear zz; have N4 : Hid (Nw wr w4) := (nwa wr _).trans f4 (fun k hk q => by omega); have J4 : Hid (w4.heap[wr.heap.size]? = some (.cells (hbs x) 42 (0, 0))) := j4; have O4 : Hid (w4.ownsRow w.heap.size 5 1 (.slice va (32 * k) vc) (32 * k) (bc (fltH (L.take k)))) := ownsRow_keep HO.out (fun g hg => N4.out.block g (HO.out.lt g hg).2 (fun f => f)); have HNW : Hid (∀ j u, (hbs x).toList[j]? = some u → w4.cell? ((⟨wr.heap.size, 0, none⟩ : Addr).add j) = some u) := (fun j u hj => by rw [addZ, cell_of J4.out]; simpa using hj); have HSZ := show Hid (w.heap.size ≤ w4.heap.size) from Nat.le_trans HN.out.size N4.out.size; clear j4 f4)
        | (at_builtin; refine wpList_append_own _ rfl (.tmp 26) (.tmp 27) 64 rfl w.heap.size 5 i0 (.int .u8 0) 1 1 Tryz.underlying64 HI0.out.1 HI0.out.2.1 HI0.out.2.2.1 HI0.out.2.2.2 rfl (by decide) (.slice va (32 * k) vc) (32 * k) (bc (fltH (L.take k))) rfl O4.out ⟨wr.heap.size, 0, none⟩ 32 32 (hbs x).toList rfl (by rw [Array.length_toList, hxs]) HNW.out (hbs_one _) (by unfold maxLen; omega) (by omega) HSZ.out ?_; intro v' w6 o6 g6 x6; clear x6; have N6 : Hid (Nw w w6) := Fr.grown (HN.out.tr N4.out) g6 (fun t ht hlt => by have := (O4.out.lt t ht).1; omega); have O6 : Hid (w6.ownsRow w.heap.size 5 1 v' (32 * k + 32) (bc (fltH (L.take k)) ++ (hbs x).toList)) := o6; clear o6 g6)
        | fail)
      obtain ⟨xa, xc, rfl⟩ := ownsRow_form O6.out
      have e1 : 32 * k + 32 = 32 * (k + 1) := by omega
      have h6 := O6.out
      rw [HBT.out, ← bc_app, ← HX.out, e1] at h6
      exact ⟨⟨k + 1, xa, xc, by omega, by go_num, by rw [e1], h6, N6.out⟩, by simp [intOf]; omega⟩
    · obtain rfl : k = n := by omega
      have hki : ¬ (k : Int) < (k : Int) := by omega
      have hb := byl_own (w := wr) (X := fltH (L.take k)) (n := 32 * k) (by rw [fltH_len _ (fun x hx => H32.out x (List.mem_of_mem_take hx)), List.length_take, Hn.out]; omega) (by omega) HO.out
      rw [show L.take k = L by rw [← Hn.out]; exact List.take_length] at hb
      have hcv := conv_byl hb
      clear hb
      go_wp2
      go_ret2
      exact ⟨rfl, HN.out⟩
end Go.Proofs.YtbkhdnceblgljaaGreatDoor
