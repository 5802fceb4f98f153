/- TileHashes. -/
import Derived.Test.YtkjonddlmiedcaaGreatDoorUv
namespace Go.Proofs.YtkjonddlmiedcaaGreatDoor
open Go.RowKit
set_option linter.unusedVariables false
set_option linter.unusedSimpArgs false
set_option maxRecDepth 100000 in
set_option maxHeartbeats 4000000 in
theorem hashes11_any (L : List (List UInt8)) (h32 : ∀ x ∈ L, x.length = 32) (hl : L.length < 4611686018427387904) (ad : Option Addr) (c : Nat) (x y : Int) (hx : -9223372036854775808 ≤ x ∧ x ≤ 9223372036854775807) (hy : -9223372036854775808 ≤ y ∧ y ≤ 9223372036854775807) (w : World) (hr : Rw w ad c L) (hLd : Laid w) (hP : TX.Pow w) (hM : MaxL w) {B : Nat} {a : Nat → Addr} (hSe : Sent B w a) :
    Calls Tryz.prog 3 #[.slice ad L.length c, .int .i64 x, .int .i64 y] w fun e w' => e = .returned (.bool true) ∧ Nw w w' := by
  obtain ⟨R, j, fc, fp, hR32, qh, qd, qs⟩ := both_hash L h32 hl x y hx hy
  obtain ⟨ev, hev⟩ : ∃ ev, ev = (if j then Value.nilIface else sen (a 1)) := ⟨_, rfl⟩
  have SS : Hid (∀ V, Nw w V → Sent B V a) := fun V nV => hSe.fr nV (fun _ _ f => f)
  have HLD : Hid (∀ V, Nw w V → Laid V) := fun V nV => hLd.nw nV
  have HR : Hid (Rw w ad c L) := hr
  have H32 : Hid (∀ x ∈ L, x.length = 32) := h32
  have QV : Hid (∀ V, Nw w V → Calls Tryz.prog 12 #[] V fun e w' => e = .returned (.bool true) ∧ Nw V w') := fun V nV => lives_any V (hP.fr nV) (hM.nw nV) (hSe.fr nV (fun _ _ f => f))
  have q2 := beyond_any (some ⟨w.heap.size, 0, none⟩) 1 [L.length] _ (one_int w L.length) (getD_allV (p := fun k => k < 4611686018427387904) (by intro k hk; simp only [List.mem_cons, List.not_mem_nil, or_false] at hk; subst hk; exact hl) (by omega)) (by simp)
  rw [show [L.length].length = 1 from rfl] at q2
  have QH : Hid (∀ (V : World) (bd : Option Addr) (d : Nat), Nw w V → Rw V bd d L → Calls Tryz.prog 8 #[.slice bd L.length d, .int .i64 x, .int .i64 y] V fun e w' => e = .returned (.tuple #[.agg (hbs R), ev]) ∧ Nw V w') := fun V bd d nV hV => by rw [hev]; exact qh V bd d hV (HLD.out V nV) (SS.out V nV)
  have QD : Hid (∀ (V : World), Nw w V → Calls Tryz.prog 9 #[.slice ad L.length c, .int .i64 x, .int .i64 y] V fun e w' => e = .returned (.tuple #[.agg (hbs R), .agg #[.int .i64 fc, .int .i64 fp]]) ∧ Nw V w') := fun V nV => qd V ad c (HR.out.nw H32.out nV) (HLD.out V nV)
  have QS : Hid (∀ V, Nw w V → Calls Tryz.prog 10 #[ev, .agg #[.int .i64 fc, .int .i64 fp]] V fun e w' => e = .returned (.bool true) ∧ Nw V w') := fun V nV => by rw [hev]; exact qs V (SS.out V nV)
  have R32 : Hid (R.length = 32) := hR32
  have hRs : (hbs R).size = 32 := by rw [hbs_size, R32.out]
  clear hP hM hSe hr hLd h32 qh qd qs hev hR32
  obtain ⟨n, hn⟩ : ∃ n, n = L.length := ⟨_, rfl⟩
  have HN : Hid (n = L.length) := hn
  rw [← hn] at q2 QH QD hl ⊢
  clear hn
  have hni : (n : Int) < 4611686018427387904 := by omega
  go_enter Tryz.func3, Tryz.ntmps3
  go_wp2_with fail
  refine q2.mono ?_
  rintro _ w1 ⟨rfl, h1⟩
  have N1 : Hid (Nw w w1) := by rw [h1]; exact nwa w _
  clear h1 q2
  by_cases hbig : 1048576 < [n].sum
  · rw [decide_eq_true hbig]
    go_wp2
    go_ret
    exact ⟨rfl, N1.out⟩
  rw [decide_eq_false hbig]
  have hnb : n ≤ 1048576 := by simpa using hbig
  clear hbig
  have q3 := twinh_any ad c L H32.out w1 (HR.out.nw H32.out N1.out).2 (by rw [← HN.out]; exact hnb)
  rw [← HN.out] at q3
  go_wp2_with fail
  refine q3.mono ?_
  rintro _ w2 ⟨rfl, o2, n2⟩
  obtain ⟨g, hg⟩ : ∃ g, g = w1.heap.size := ⟨_, rfl⟩
  rw [← hg] at o2 ⊢
  have N2 : Hid (Nw w w2) := N1.out.tr n2
  have O2 : Hid (w2.ownsRow g 26 32 (.slice (some ⟨g, 0, none⟩) (L.length + 1) (L.length + 1)) (L.length + 1) (hsc (L ++ [HB.mk 7777]))) := by rw [HN.out] at o2; exact o2
  have RW2 : Hid (Rw w2 (some ⟨g, 0, none⟩) (n + 1) L) := by have := twin_rw H32.out O2.out; rw [← HN.out] at this; exact this
  clear q3 o2 n2 hg N1
  go_wp2_with fail
  refine (QH.out _ _ _ N2.out RW2.out).mono ?_
  rintro _ w3 ⟨rfl, n3⟩
  have N3 : Hid (Nw w2 w3) := n3
  clear n3
  go_wp2_with (refine wp_store_agg rfl (.tmp 8) (.tmp 23) 26 32 rfl Tryz.sizeOf26 w3.heap.size 0 rfl _ 26 (heap_new _ _) (hbs R) rfl hRs (hbs_one _) (by decide) (hbs R) (by simp) ?_; intro w4 j4 f4 zz; clear zz; have N4 : Hid (Nw w2 w4) := (N3.out.alloc _).trans f4 (fun k hk q => by have := N3.out.size; omega); have J4 : Hid (w4.heap[w3.heap.size]? = some (.cells (hbs R) 26 (0, 0))) := j4; clear j4 f4)
  obtain ⟨b1, hb1⟩ : ∃ q, q = w3.heap.size := ⟨_, rfl⟩
  rw [← hb1] at J4 ⊢
  clear hb1
  refine (QD.out _ (N2.out.tr N4.out)).mono ?_
  rintro _ w5 ⟨rfl, n5⟩
  have N5 : Hid (Nw w2 w5) := N4.out.tr n5
  have J5 : Hid (w5.heap[b1]? = some (.cells (hbs R) 26 (0, 0))) := (n5.block _ (heap_lt J4.out) (fun f => f)).trans J4.out
  clear n5 N3 N4 J4
  go_wp2_with (first
    | (refine wp_store_agg rfl (.tmp 10) (.tmp 30) 26 32 rfl Tryz.sizeOf26 w5.heap.size 0 rfl _ 26 (((nwa (w5.alloc _) _).block _ (by simp) (fun f => f)).trans (heap_new _ _)) (hbs R) rfl hRs (hbs_one _) (by decide) (hbs R) (by simp) ?_; intro w6 j6 f6 zz; clear zz; have N6 : Hid (Nw w2 w6) := (Fr.alloc (N5.out.alloc _) _).trans f6 (fun k hk q => by have := N5.out.size; omega); have J6 : Hid (w6.heap[w5.heap.size]? = some (.cells (hbs R) 26 (0, 0))) := j6; have K6 : Hid (w6.heap[b1]? = some (.cells (hbs R) 26 (0, 0))) := (f6.block _ (by simp; have := heap_lt J5.out; omega) (by have := heap_lt J5.out; omega)).trans ((((nwa w5 _).alloc _).block _ (heap_lt J5.out) (fun f => f)).trans J5.out); have bf : w6.heap[w5.heap.size + 1]? = some (.cells #[.int .i64 0, .int .i64 0] 32) := (f6.block _ (by simp) (by omega)).trans (heap_next _ _ _); clear j6 f6)
    | (refine wp_store_agg rfl (.tmp 11) (.tmp 31) 32 2 rfl Tryz.sizeOf32 (w5.heap.size + 1) 0 rfl #[.int .i64 0, .int .i64 0] 32 bf #[.int .i64 fc, .int .i64 fp] rfl rfl (by simp [Value.oneCell']) (by decide) #[.int .i64 fc, .int .i64 fp] (by simp) ?_; intro w7 j7 f7 zz; clear zz; have N7 : Hid (Nw w2 w7) := N6.out.trans f7 (fun k hk q => by have := N5.out.size; omega); have J7 : Hid (w7.heap[w5.heap.size + 1]? = some (.cells #[.int .i64 fc, .int .i64 fp] 32)) := j7; have K7 : Hid (∀ q, q < 32 → w7.cell? ⟨b1, 0 + q, none⟩ = (hbs R)[q]?) := hash_cells ((f7.block _ (heap_lt K6.out) (by have := heap_lt J5.out; omega)).trans K6.out); have L7 : Hid (∀ q, q < 32 → w7.cell? ⟨w5.heap.size, 0 + q, none⟩ = (hbs R)[q]?) := hash_cells ((f7.block _ (heap_lt J6.out) (by omega)).trans J6.out); obtain ⟨e0, e1⟩ : w7.cell? ⟨w5.heap.size + 1, 0, none⟩ = some (.int .i64 fc) ∧ w7.cell? ⟨w5.heap.size + 1, 1, none⟩ = some (.int .i64 fp) := ⟨(cell_of j7 0).trans rfl, (cell_of j7 1).trans rfl⟩; clear j7 f7 bf)
    | (refine wpl_load (by rfl) (.tmp 8) rfl b1 0 rfl R R32.out K7.out ?_)
    | (refine wpl_load (by rfl) (.tmp 10) rfl w5.heap.size 0 rfl R R32.out L7.out ?_)
    | (refine wpl_eql (by rfl) (.tmp 32) (.tmp 33) rfl R R32.out rfl rfl ?_)
    | fail)
  refine (QS.out _ (N2.out.tr N7.out)).mono ?_
  rintro _ w8 ⟨rfl, n8⟩
  have N8 : Hid (Nw w2 w8) := N7.out.tr n8
  clear n8 e0 e1
  have q9 := lefth_any L H32.out (by rw [← HN.out]; exact hnb) g g ad c w8 (ownsRow_keep O2.out (fun t ht => N8.out.block t (O2.out.lt t ht).2 (fun f => f))) (HR.out.nw H32.out (N2.out.tr N8.out)).2
  rw [← HN.out] at q9
  go_wp2_with fail
  refine q9.mono ?_
  rintro _ w9 ⟨rfl, n9⟩
  have N9 : Hid (Nw w w9) := (N2.out.tr N8.out).tr n9
  clear n9 q9
  go_wp2_with fail
  refine (QV.out _ N9.out).mono ?_
  rintro _ w10 ⟨rfl, n10⟩
  have N10 : Hid (Nw w w10) := N9.out.tr n10
  clear n10
  go_wp2
  go_ret
  exact ⟨rfl, N10.out⟩
end Go.Proofs.YtkjonddlmiedcaaGreatDoor
