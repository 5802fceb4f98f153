/- The document's Path. -/
import Derived.Test.YtigbjpphmbmbiaaGreatDoorRb
import Derived.Test.YtigbjpphmbmbiaaGreatDoorS2
import Derived.Test.YtigbjpphmbmbiaaGreatDoorS3
import Derived.Test.YtigbjpphmbmbiaaGreatDoorSc
namespace Go.Proofs.YtigbjpphmbmbiaaGreatDoor
open Go.RowKit
set_option linter.unusedVariables false
set_option linter.unusedSimpArgs false

set_option maxRecDepth 100000 in
set_option maxHeartbeats 4000000 in
theorem rpath_any (i : Nat) : ∀ (n b e : Nat) (w : World), e - b ≤ n → b ≤ i → i < e → e ≤ 9223372036854775808 → (pth i b e).length ≤ 200 →
    Calls Tryz.prog 27 #[.int .u64 (i : Int), sp b e] w fun x w' => ∃ v, x = .returned v ∧ w'.ownsRow w.heap.size 74 2 v (pth i b e).length (fs (pth i b e)) ∧ Nw w w' := by
  obtain ⟨i0, hi, hz0, hz1, hz2⟩ := info_parts infoS
  intro n
  induction n with
  | zero => intro b e w h1 h2 h3; omega
  | succ n ih =>
    intro b e w hn hb he h63 hlen
    have IH := show Hid _ from ih
    clear ih
    by_cases h2 : 2 ≤ e - b
    · have h1 := spl_lt h2
      have h0 := spl_pos (e - b)
      have hq : ((e : Int) - (b : Int) == 1) = false := by simp; omega
      have hee : (e : Int) - (b : Int) = ((e - b : Nat) : Int) := by omega
      have QC := show Hid _ from rsplit_yes (e - b) h2 (by omega)
      obtain ⟨m, hm⟩ : ∃ m, m = spl (e - b) := ⟨_, rfl⟩
      obtain ⟨k, hk⟩ : ∃ k, k = b + m := ⟨_, rfl⟩
      have HM : Hid (b + spl (e - b) = k) := by show _ = _; rw [hk, hm]
      rw [← hm] at QC h1 h0
      have hbk : (b : Int) + (m : Int) = (k : Int) := by omega
      have hkb : b < k ∧ k < e := by omega
      clear hq hm hk
      by_cases hlt : i < k
      · have HL := pth_left h2 (by rw [HM.out]; exact hlt)
        rw [HM.out] at HL
        rw [HL] at hlen ⊢
        have hik : (i : Int) < (k : Int) := by omega
        have hl1 : (pth i b k).length ≤ 199 := by simp at hlen; omega
        have HF : Hid (∀ (v' : Value) (w5 : World), w5.ownsRow w.heap.size 74 2 v' ((pth i b k).length + 1) (fs (pth i b k) ++ [.int .u64 (k : Int), .int .u64 (e : Int)]) → w5.ownsRow w.heap.size 74 2 v' (pth i b k ++ [(k, e)]).length (fs (pth i b k ++ [(k, e)]))) := fun v' w5 o => by rw [List.length_append, fs_app]; exact o
        clear HL hlen
        go_enter Tryz.func27, Tryz.ntmps27
        go_wp2_with fail
        refine (QC.out _).mono ?_
        rintro x w1 ⟨rfl, rfl⟩
        go_wp2_with fail
        refine gen_world (fun W => W.heap[w.heap.size + 1]? = some (.cells #[.int .u64 (b : Int), .int .u64 (k : Int)] 74) ∧ W.heap[w.heap.size + 1 + 1]? = some (.cells #[.int .u64 (k : Int), .int .u64 (e : Int)] 74) ∧ Nw w W) ⟨by (repeat first | with_reducible exact heap_next _ _ _ | with_reducible exact heap_new _ _ | with_reducible exact heap_next _ _ _ | with_reducible exact heap_third _ _ _ _ | with_reducible refine hp_dr ?_ | (with_reducible refine hp_ne ?_ ?_; focus omega) | (with_reducible refine hp_al ?_ ?_; focus (first | omega | (simp <;> omega))) | with_reducible apply hp_set) <;> rfl, heap_third _ _ _ _, (by repeat first | with_reducible exact nwr w | with_reducible refine Fr.alloc ?_ _ | with_reducible refine Fr.drew ?_ | (with_reducible refine Fr.setCell ?_ _ _ (fun h => ?_); rotate_left; focus (simp only at h; omega)))⟩ ?_
        rintro W ⟨bl, br, nW⟩
        have NWW : Hid (Nw w W) := nW
        have lW := heap_lt br
        have lW1 := heap_lt bl
        have cl0 := cell2a bl
        have cl1 := cell2b bl
        have cx := cell2a br
        have cy := cell2b br
        clear bl br nW
        have HC := show Hid _ from (fun (W' : World) => IH.out b k W' (by omega) hb hlt (by omega) (by omega))
        go_region_law (first
          | (show if Region.wanted (Oper.mk _ (.call ⟨.value (.func 27), _, _⟩) _ _ _ _) _ = true then _ else _; refine step_calls rfl 27 #[.int .u64 (i : Int), sp b k] (by go_simp) (HC.out _) ?_; rintro v2 w2 ⟨o2, n2⟩; have nx : Nw W w2 := Nw.tr (by repeat first | with_reducible exact nwr W | with_reducible refine Fr.alloc ?_ _ | with_reducible refine Fr.drew ?_ | (with_reducible refine Fr.setCell ?_ _ _ (fun h => ?_); rotate_left; focus (simp only at h; omega))) n2; have O2 : Hid (w2.ownsRow w.heap.size 74 2 v2 (pth i b k).length (fs (pth i b k))) := ownsRow_base o2 (by first | (simp; omega) | (have := NWW.out.size; simp; omega)); have NX : Hid (Nw W w2) := nx; have r0 := nx.cellOf cx; have r1 := nx.cellOf cy; have lx := Nat.lt_of_lt_of_le lW nx.size; (try (have HNC : Hid (∀ j u, [Value.int .u64 (k : Int), .int .u64 (e : Int)][j]? = some u → w2.cell? ((⟨W.heap.size, 0, none⟩ : Addr).add j) = some u) := fun j u h => n2.cellOf (sp_new (w := W) (k : Int) (e : Int) 74 j u h))); obtain ⟨va, vc, rfl⟩ := ownsRow_form O2.out; clear o2 n2 nx)
          | (refine step_append_own rfl (.tmp 44) (.tmp 46) 25 rfl w.heap.size 74 i0 (sp 0 0) 2 16 Tryz.underlying25 hi hz0 hz1 hz2 rfl (by decide) (.slice va (pth i b k).length vc) (pth i b k).length (fs (pth i b k)) rfl (O2.out.alloc _) ⟨w2.heap.size, 0, none⟩ 1 1 [.int .u64 (k : Int), .int .u64 (e : Int)] rfl rfl (sp_new (w := w2) (k : Int) (e : Int) 74) (by simp [Value.oneCell']) (by unfold maxLen; omega) (by omega) (by have := NX.out.size; have := NWW.out.size; simp; omega) ?_; intro v' w5 o5 g5; have n5 : Hid (Nw w w5) := ((NWW.out.tr NX.out).alloc _).grown g5 (fun q hq hlt => by have := (O2.out.lt q hq).1; omega); have HF5 := show Hid _ from HF.out v' w5 o5; obtain ⟨xa, xc, rfl⟩ := ownsRow_form o5; clear o5 g5)
          | (refine step_append_own rfl (.tmp 44) (.tmp 46) 25 rfl w.heap.size 74 i0 (sp 0 0) 2 16 Tryz.underlying25 hi hz0 hz1 hz2 rfl (by decide) (.slice va (pth i b k).length vc) (pth i b k).length (fs (pth i b k)) rfl O2.out ⟨W.heap.size, 0, none⟩ 1 1 [.int .u64 (k : Int), .int .u64 (e : Int)] rfl rfl HNC.out (by simp [Value.oneCell']) (by unfold maxLen; omega) (by omega) (by have := NX.out.size; have := NWW.out.size; omega) ?_; intro v' w5 o5 g5; have n5 : Hid (Nw w w5) := (NWW.out.tr NX.out).grown g5 (fun q hq hlt => by have := (O2.out.lt q hq).1; omega); have HF5 := show Hid _ from HF.out v' w5 o5; obtain ⟨xa, xc, rfl⟩ := ownsRow_form o5; clear o5 g5))
        all_goals
          try simp only [List.getElem_toArray, List.getElem_cons_succ, List.getElem_cons_zero, Act.put, List.setIfInBounds_toArray, List.set_cons_succ, List.set_cons_zero]
          go_wp2_with fail
          exact bodyPost_ret (v := .slice xa ((pth i b k).length + 1) xc) (by simp [results, Tryz.results27]) rfl ⟨_, rfl, HF5.out, n5.out⟩
      · have HL := pth_right h2 (by rw [HM.out]; exact hlt)
        rw [HM.out] at HL
        rw [HL] at hlen ⊢
        have hik : ¬ (i : Int) < (k : Int) := by omega
        have hl1 : (pth i k e).length ≤ 199 := by simp at hlen; omega
        have HF : Hid (∀ (v' : Value) (w5 : World), w5.ownsRow w.heap.size 74 2 v' ((pth i k e).length + 1) (fs (pth i k e) ++ [.int .u64 (b : Int), .int .u64 (k : Int)]) → w5.ownsRow w.heap.size 74 2 v' (pth i k e ++ [(b, k)]).length (fs (pth i k e ++ [(b, k)]))) := fun v' w5 o => by rw [List.length_append, fs_app]; exact o
        clear HL hlen
        go_enter Tryz.func27, Tryz.ntmps27
        go_wp2_with fail
        refine (QC.out _).mono ?_
        rintro x w1 ⟨rfl, rfl⟩
        go_wp2_with fail
        refine gen_world (fun W => W.heap[w.heap.size + 1]? = some (.cells #[.int .u64 (b : Int), .int .u64 (k : Int)] 74) ∧ W.heap[w.heap.size + 1 + 1]? = some (.cells #[.int .u64 (k : Int), .int .u64 (e : Int)] 74) ∧ Nw w W) ⟨by (repeat first | with_reducible exact heap_next _ _ _ | with_reducible exact heap_new _ _ | with_reducible exact heap_next _ _ _ | with_reducible exact heap_third _ _ _ _ | with_reducible refine hp_dr ?_ | (with_reducible refine hp_ne ?_ ?_; focus omega) | (with_reducible refine hp_al ?_ ?_; focus (first | omega | (simp <;> omega))) | with_reducible apply hp_set) <;> rfl, heap_third _ _ _ _, (by repeat first | with_reducible exact nwr w | with_reducible refine Fr.alloc ?_ _ | with_reducible refine Fr.drew ?_ | (with_reducible refine Fr.setCell ?_ _ _ (fun h => ?_); rotate_left; focus (simp only at h; omega)))⟩ ?_
        rintro W ⟨br, bl, nW⟩
        have NWW : Hid (Nw w W) := nW
        have lW := heap_lt br
        have lW1 := heap_lt bl
        have cl0 := cell2a bl
        have cl1 := cell2b bl
        have cx := cell2a br
        have cy := cell2b br
        clear bl br nW
        have HC := show Hid _ from (fun (W' : World) => IH.out k e W' (by omega) (by omega) he h63 (by omega))
        go_region_law (first
          | (show if Region.wanted (Oper.mk _ (.call ⟨.value (.func 27), _, _⟩) _ _ _ _) _ = true then _ else _; refine step_calls rfl 27 #[.int .u64 (i : Int), sp k e] (by go_simp) (HC.out _) ?_; rintro v2 w2 ⟨o2, n2⟩; have nx : Nw W w2 := Nw.tr (by repeat first | with_reducible exact nwr W | with_reducible refine Fr.alloc ?_ _ | with_reducible refine Fr.drew ?_ | (with_reducible refine Fr.setCell ?_ _ _ (fun h => ?_); rotate_left; focus (simp only at h; omega))) n2; have O2 : Hid (w2.ownsRow w.heap.size 74 2 v2 (pth i k e).length (fs (pth i k e))) := ownsRow_base o2 (by first | (simp; omega) | (have := NWW.out.size; simp; omega)); have NX : Hid (Nw W w2) := nx; have r0 := nx.cellOf cx; have r1 := nx.cellOf cy; have lx := Nat.lt_of_lt_of_le lW nx.size; (try (have HNC : Hid (∀ j u, [Value.int .u64 (b : Int), .int .u64 (k : Int)][j]? = some u → w2.cell? ((⟨W.heap.size, 0, none⟩ : Addr).add j) = some u) := fun j u h => n2.cellOf (sp_new (w := W) (b : Int) (k : Int) 74 j u h))); obtain ⟨va, vc, rfl⟩ := ownsRow_form O2.out; clear o2 n2 nx)
          | (refine step_append_own rfl (.tmp 50) (.tmp 52) 25 rfl w.heap.size 74 i0 (sp 0 0) 2 16 Tryz.underlying25 hi hz0 hz1 hz2 rfl (by decide) (.slice va (pth i k e).length vc) (pth i k e).length (fs (pth i k e)) rfl (O2.out.alloc _) ⟨w2.heap.size, 0, none⟩ 1 1 [.int .u64 (b : Int), .int .u64 (k : Int)] rfl rfl (sp_new (w := w2) (b : Int) (k : Int) 74) (by simp [Value.oneCell']) (by unfold maxLen; omega) (by omega) (by have := NX.out.size; have := NWW.out.size; simp; omega) ?_; intro v' w5 o5 g5; have n5 : Hid (Nw w w5) := ((NWW.out.tr NX.out).alloc _).grown g5 (fun q hq hlt => by have := (O2.out.lt q hq).1; omega); have HF5 := show Hid _ from HF.out v' w5 o5; obtain ⟨xa, xc, rfl⟩ := ownsRow_form o5; clear o5 g5)
          | (refine step_append_own rfl (.tmp 50) (.tmp 52) 25 rfl w.heap.size 74 i0 (sp 0 0) 2 16 Tryz.underlying25 hi hz0 hz1 hz2 rfl (by decide) (.slice va (pth i k e).length vc) (pth i k e).length (fs (pth i k e)) rfl O2.out ⟨W.heap.size, 0, none⟩ 1 1 [.int .u64 (b : Int), .int .u64 (k : Int)] rfl rfl HNC.out (by simp [Value.oneCell']) (by unfold maxLen; omega) (by omega) (by have := NX.out.size; have := NWW.out.size; omega) ?_; intro v' w5 o5 g5; have n5 : Hid (Nw w w5) := (NWW.out.tr NX.out).grown g5 (fun q hq hlt => by have := (O2.out.lt q hq).1; omega); have HF5 := show Hid _ from HF.out v' w5 o5; obtain ⟨xa, xc, rfl⟩ := ownsRow_form o5; clear o5 g5))
        all_goals
          try simp only [List.getElem_toArray, List.getElem_cons_succ, List.getElem_cons_zero, Act.put, List.setIfInBounds_toArray, List.set_cons_succ, List.set_cons_zero]
          go_wp2_with fail
          exact bodyPost_ret (v := .slice xa ((pth i k e).length + 1) xc) (by simp [results, Tryz.results27]) rfl ⟨_, rfl, HF5.out, n5.out⟩
    · have hq : (e : Int) - (b : Int) = 1 := by omega
      rw [pth_one h2]
      go_enter Tryz.func27, Tryz.ntmps27
      go_wp2_with fail
      exact bodyPost_ret (v := .slice none 0 0) (by simp [results, Tryz.results27]) rfl ⟨_, rfl, World.ownsRow_nil _ _ _ _, nwa w _⟩
end Go.Proofs.YtigbjpphmbmbiaaGreatDoor
