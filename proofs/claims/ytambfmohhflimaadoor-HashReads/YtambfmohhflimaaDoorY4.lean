/- The document's chains; HashChains. -/
import Derived.Test.YtambfmohhflimaaDoorY3
namespace Go.Proofs.YtambfmohhflimaaDoor
open Go.RowKit
set_option linter.unusedVariables false
set_option linter.unusedSimpArgs false

/-- Two results, both in memory. -/
theorem results_cells {P : Program} {w : World} {fn : Func} {i j : Nat} {t u : TypeId} {n m g k : Nat} {tmps : Array Value} {V U : Array Value} {ty tz : TypeId} {f f2 : Nat × Nat} (hr : fn.results = #[.cell i t, .cell j u]) (hagg : ∀ W : World, (isAgg t).run P W = .ok true W) (hsz : ∀ W : World, (sizeOf t).run P W = .ok n W)
    (hagg2 : ∀ W : World, (isAgg u).run P W = .ok true W) (hsz2 : ∀ W : World, (sizeOf u).run P W = .ok m W)
    (hx : tmps.getD i undef = .pointer (some ⟨g, 0, none⟩)) (hy : tmps.getD j undef = .pointer (some ⟨k, 0, none⟩)) (hg : w.heap[g]? = some (.cells V ty f)) (hV : V.size = n) (hk : w.heap[k]? = some (.cells U tz f2)) (hU : U.size = m) : (results fn tmps).run P w = .ok (.tuple #[.agg V, .agg U]) w := by
  have hl : (loadCells ⟨g, 0, none⟩ n).run P w = .ok V w := by
    have := run_loadCells_list (P := P) w ⟨g, 0, none⟩ V.toList (fun j v hv => by
      rw [addZ, cell_of hg]
      simpa using hv)
    simpa [hV] using this
  have hl2 : (loadCells ⟨k, 0, none⟩ m).run P w = .ok U w := by
    have := run_loadCells_list (P := P) w ⟨k, 0, none⟩ U.toList (fun j v hv => by
      rw [addZ, cell_of hk]
      simpa using hv)
    simpa [hU] using this
  have ha : ∀ (W : World) (q : Nat), (asAddr (.pointer (some ⟨q, 0, none⟩))).run P W = .ok ⟨q, 0, none⟩ W := fun W q => by simp [asAddr]
  have hx2 : tmps[i]?.getD undef = .pointer (some ⟨g, 0, none⟩) := by rw [← hx]; simp [Array.getD]; split <;> simp_all
  have hy2 : tmps[j]?.getD undef = .pointer (some ⟨k, 0, none⟩) := by rw [← hy]; simp [Array.getD]; split <;> simp_all
  simp [results, hr, hx2, hy2, ha, loadVar, hagg, hsz, hl, hagg2, hsz2, hl2]

set_option maxRecDepth 100000 in
set_option maxHeartbeats 1000000 in
theorem refchain_in (A : List UInt8) (hA : A.length = 32) (n : Nat) (hn : n ≤ 255) (w : World) :
    Calls Tryd.prog 18 #[.agg (hbs A), .int .i64 n] w fun e w' => e = .returned (.tuple #[.agg (hbs (chn n A)), .agg #[.int .i64 0, .int .i64 0]]) ∧ Nw w w' := by
  obtain ⟨a, ha⟩ : ∃ a, a = hbs A := ⟨_, rfl⟩
  rw [← ha]
  have Ha : Hid (a = hbs A) := ha
  have HA : Hid (A.length = 32) := hA
  have has : a.size = 32 := by rw [ha, hbs_size, hA]
  clear ha hA
  have h1 : ¬ (n : Int) < 0 := by omega
  have h2 : ¬ (n : Int) > 255 := by omega
  go_enter Tryd.func18, Tryd.ntmps18
  go_wp2
  rw [z32_h]
  obtain ⟨w1, hw1⟩ : ∃ w1, w1 = ((w.alloc (.cells a 24)).alloc (.cells z32 24)).alloc (.cells #[.int .i64 0, .int .i64 0] 36) := ⟨_, rfl⟩
  have n1 : Nw w w1 := by rw [hw1]; exact (((Fr.refl _ _).alloc _).alloc _).alloc _
  have ja : w1.heap[w.heap.size]? = some (.cells a 24) := by rw [hw1]; exact (Below.heap_alloc _ _ _ (by simp; omega)).trans ((Below.heap_alloc _ _ _ (by simp)).trans (heap_new w _))
  have jz : w1.heap[w.heap.size + 1]? = some (.cells z32 24) := by rw [hw1]; exact (Below.heap_alloc _ _ _ (by simp)).trans (heap_next w _ _)
  have jf : w1.heap[w.heap.size + 1 + 1]? = some (.cells #[.int .i64 0, .int .i64 0] 36) := by
    rw [hw1]
    have := heap_next (w.alloc (.cells a 24)) (.cells z32 24) (.cells #[.int .i64 0, .int .i64 0] 36)
    rw [World.size_alloc] at this
    exact this
  rw [← hw1]
  clear hw1
  go_loopw [6] (fun i wr => ∃ k : Nat, k ≤ n ∧ i = .int .i64 k ∧ Nw w wr ∧ wr.heap[w.heap.size]? = some (.cells (hbs (chn k A)) 24) ∧ wr.heap[w.heap.size + 1]? = some (.cells z32 24) ∧ wr.heap[w.heap.size + 1 + 1]? = some (.cells #[.int .i64 0, .int .i64 0] 36)) (fun i _ => n - (intOf i).toNat)
  case atStart => exact ⟨0, by omega, rfl, n1, by rw [chn, ← Ha.out]; exact ja, jz, jf⟩
  case round =>
    clear ja jz n1 jf
    obtain ⟨k, hk, rfl, hnw, hh, hz, hf⟩ := hrel
    have hps : (hbs (chn k A)).size = 32 := by rw [hbs_size, chn_len k A HA.out]
    by_cases hlt : k < n
    · have hki : (k : Int) < (n : Int) := by omega
      have QB := fun W => refbytes_any (chn k A) (chn_len k A HA.out) W
      obtain ⟨X, hX⟩ : ∃ X : ByteArray, X = ⟨#[2]⟩ ++ ⟨(chn k A).toArray⟩ := ⟨_, rfl⟩
      have zA : (⟨(chn k A).toArray⟩ : ByteArray).size = 32 := by show (chn k A).toArray.size = 32; simpa using chn_len k A HA.out
      have x1 : ∀ W, (Op.stringOp .add ⟨#[2]⟩ ⟨(chn k A).toArray⟩).run Tryd.prog W = .ok (.string X) W := fun W => by rw [hX]; exact run_string_add_sum W _ _ (by rw [zA]; decide)
      have QS := fun W => refsum_any X (by rw [hX, ByteArray.size_append, zA]; decide) W
      have eX : X.data.toList = 2 :: chn k A := by rw [hX]; simp
      rw [eX] at QS
      have hRl : (hbs (Sh (2 :: chn k A))).size = 32 := by rw [hbs_size, Sh_len]
      have hpl : (hbs (chn k A)).toList.drop (0 + 32) = [] := by rw [List.drop_eq_nil_iff]; simp [hbs_size, chn_len k A HA.out]
      clear eX hX zA
      go_wp2_with (refine wp_load_agg rfl (.tmp 2) 24 32 rfl Tryd.isAgg24 Tryd.sizeOf24 w.heap.size 0 rfl (hbs (chn k A)) 24 (0, 0) hh (hbs (chn k A)) hps (fun j _ => by rw [Nat.zero_add]) ?_)
      refine (QB _).mono ?_
      rintro e3 w3 ⟨rfl, n3⟩
      go_wp2_with fail
      refine (QS _).mono ?_
      rintro e4 w4 ⟨rfl, n4⟩
      have n34 : Nw wr w4 := n3.tr n4
      have hh3 := (n34.block _ (heap_lt hh) (fun f => f)).trans hh
      have hz3 := (n34.block _ (heap_lt hz) (fun f => f)).trans hz
      have hf3 := (n34.block _ (heap_lt hf) (fun f => f)).trans hf
      have nw3 : Nw w w4 := hnw.tr n34
      clear n3 n4 n34 hh hz hf hnw QB QS x1
      go_wp2_with (refine wp_store_agg rfl (.tmp 2) (.tmp 23) 24 32 rfl Tryd.sizeOf24 w.heap.size 0 rfl (hbs (chn k A)) 24 hh3 (hbs (Sh (2 :: chn k A))) rfl hRl (hbs_one _) (by rw [hps]; decide) (hbs (Sh (2 :: chn k A))) (by rw [hpl]; simp) ?_; intro w5 j5 f5 z5)
      refine ⟨⟨k + 1, by omega, by go_num, nw3.trans f5 (fun k hk q => by omega), j5, (f5.block _ (heap_lt hz3) (by omega)).trans hz3, (f5.block _ (heap_lt hf3) (by omega)).trans hf3⟩, by simp [intOf]; omega⟩
    · obtain rfl : k = n := by omega
      go_wp2_with first
        | (refine wp_load_agg rfl (.tmp 2) 24 32 rfl Tryd.isAgg24 Tryd.sizeOf24 w.heap.size 0 rfl (hbs (chn k A)) 24 (0, 0) hh (hbs (chn k A)) hps (fun j _ => by rw [Nat.zero_add]) ?_)
        | (refine wp_store_agg rfl (.tmp 4) (.tmp 24) 24 32 rfl Tryd.sizeOf24 (w.heap.size + 1) 0 rfl z32 24 hz (hbs (chn k A)) rfl hps (hbs_one _) (by decide) (hbs (chn k A)) (by rw [z32_drop]; simp) ?_; intro w4 j4 f4 z4; have hf4 := (f4.block _ (heap_lt hf) (by omega)).trans hf; have nw4 : Nw w w4 := hnw.trans f4 (fun k hk q => by omega))
        | (refine wp_store_agg rfl (.tmp 5) (.tmp 25) 36 2 rfl Tryd.sizeOf36 (w.heap.size + 1 + 1) 0 rfl #[.int .i64 0, .int .i64 0] 36 hf4 #[.int .i64 0, .int .i64 0] rfl rfl (by simp [Value.oneCell']) (by decide) #[.int .i64 0, .int .i64 0] rfl ?_; intro w6 j6 f6 z6)
      exact bodyPost_ret (results_cells Tryd.results18 Tryd.isAgg24 Tryd.sizeOf24 Tryd.isAgg36 Tryd.sizeOf36 rfl rfl ((f6.block _ (heap_lt j4) (by omega)).trans j4) hps j6 rfl) rfl ⟨rfl, nw4.trans f6 (fun k hk q => by omega)⟩

set_option maxRecDepth 100000 in
set_option maxHeartbeats 1000000 in
theorem refchain_out (V : Array Value) (hV : V.size = 32) (n : Int) (hn : n < 0 ∨ 255 < n) (w : World) :
    Calls Tryd.prog 18 #[.agg V, .int .i64 n] w fun e w' => e = .returned (.tuple #[.agg (hbs (List.replicate 32 0)), .agg #[.int .i64 2, .int .i64 (-1)]]) ∧ Nw w w' := by
  rw [← z32_hbs]
  have hcb : decide (n < 0) = true ∨ (decide (n < 0) = false ∧ decide (n > 255) = true) := by
    rcases hn with h | h
    · exact .inl (by simp [h])
    · by_cases h0 : n < 0
      · exact .inl (by simp [h0])
      · exact .inr ⟨by simp [h0], by simp; omega⟩
  have QP := fun W => plain_any 2 W (by decide)
  rcases hcb with h0 | ⟨h0, h1⟩
  all_goals
    go_enter Tryd.func18, Tryd.ntmps18
    go_wp2_with fail
    rw [z32_h]
    obtain ⟨w1, hw1⟩ : ∃ w1, w1 = ((w.alloc (.cells V 24)).alloc (.cells z32 24)).alloc (.cells #[.int .i64 0, .int .i64 0] 36) := ⟨_, rfl⟩
    have n1 : Nw w w1 := by rw [hw1]; exact (((Fr.refl _ _).alloc _).alloc _).alloc _
    have jz : w1.heap[w.heap.size + 1]? = some (.cells z32 24) := by rw [hw1]; exact (Below.heap_alloc _ _ _ (by simp)).trans (heap_next w _ _)
    have jf : w1.heap[w.heap.size + 1 + 1]? = some (.cells #[.int .i64 0, .int .i64 0] 36) := by
      rw [hw1]
      have := heap_next (w.alloc (.cells V 24)) (.cells z32 24) (.cells #[.int .i64 0, .int .i64 0] 36)
      rw [World.size_alloc] at this
      exact this
    rw [← hw1]
    clear hw1
    refine (QP _).mono ?_
    rintro e2 w2 ⟨rfl, n2⟩
    have jz2 := (Nw.bel n2 |>.block _ (heap_lt jz)).trans jz
    have jf2 := (Nw.bel n2 |>.block _ (heap_lt jf)).trans jf
    have nw2 : Nw w w2 := n1.tr n2
    clear jz jf n1 n2
    have hz1 : ∀ u ∈ z32.toList, u.oneCell' = true := by rw [z32_hbs]; exact hbs_one _
    have hz32 : z32.size = 32 := by simp [z32]
    go_wp2_with first
      | (refine wp_store_agg rfl (.tmp 4) (.tmp 13) 24 32 rfl Tryd.sizeOf24 (w.heap.size + 1) 0 rfl z32 24 jz2 z32 rfl hz32 hz1 (by decide) z32 (by rw [z32_drop]; simp) ?_; intro w4 j4 f4 z4; have hf4 := (f4.block _ (heap_lt jf2) (by omega)).trans jf2; have nw4 : Nw w w4 := nw2.trans f4 (fun k hk q => by omega))
      | (refine wp_store_agg rfl (.tmp 5) (.tmp 14) 36 2 rfl Tryd.sizeOf36 (w.heap.size + 1 + 1) 0 rfl #[.int .i64 0, .int .i64 0] 36 hf4 #[.int .i64 2, .int .i64 (-1)] rfl rfl (by simp [Value.oneCell']) (by decide) #[.int .i64 2, .int .i64 (-1)] rfl ?_; intro w6 j6 f6 z6)
    exact bodyPost_ret (results_cells Tryd.results18 Tryd.isAgg24 Tryd.sizeOf24 Tryd.isAgg36 Tryd.sizeOf36 rfl rfl ((f6.block _ (heap_lt j4) (by omega)).trans j4) hz32 j6 rfl) rfl ⟨rfl, nw4.trans f6 (fun k hk q => by omega)⟩
end Go.Proofs.YtambfmohhflimaaDoor
