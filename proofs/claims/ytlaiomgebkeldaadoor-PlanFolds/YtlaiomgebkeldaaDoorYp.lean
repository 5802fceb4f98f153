/- plan: PlanFolds. -/
import Derived.Test.YtlaiomgebkeldaaDoorYn
import Derived.Test.YtlaiomgebkeldaaDoorYk
import Derived.Test.YtlaiomgebkeldaaDoorTh
import Derived.Test.YtlaiomgebkeldaaDoorTz
namespace Go.Proofs.YtlaiomgebkeldaaDoor
open Go.RowKit
set_option linter.unusedVariables false
set_option linter.unusedSimpArgs false
theorem elemHu : Tryd.prog.elem 22 = 26 := by kernel_rfl
theorem undHu : Tryd.prog.underlying 22 = some (.slice (Tryd.prog.elem 22)) := by rw [elemHu]; exact Tryd.underlying22
/-- A row of hashes that has room. -/
def Rw (w : World) (ad : Option Addr) (c : Nat) (l : List (List UInt8)) : Prop := l.length ≤ c ∧ Hss w (.slice ad l.length c) l
theorem cut_hh (ad : Option Addr) (n cap k : Nat) (hk : k ≤ cap) (w : World) : (Instr.sliceAt 22 (.slice ad n cap) none (some (.int .i64 (k : Int))) none).run Tryd.prog w = .ok (.slice ad k cap) w := by
  rw [run_sliceAt_slice w _ _ _ _ _ undHu, run_slice_h w _ ad n cap undHu .i64 k (by omega) (by omega), elemHu, Tryd.sizeOf26 w]
  cases ad <;> simp [sliced, Addr.add]
theorem getD_allV {p : Nat → Prop} {l : List Nat} (h : ∀ k ∈ l, p k) (h0 : p 0) : ∀ j, p (l.getD j 0) := fun j => by
  rw [List.getD_eq_getElem?_getD]
  cases e : l[j]? with
  | none => exact h0
  | some x => exact h x (List.mem_of_getElem? e)
set_option maxRecDepth 100000 in
set_option maxHeartbeats 1000000 in
theorem lefth_any (L : List (List UInt8)) (h32 : ∀ x ∈ L, x.length = 32) (hl : L.length ≤ 1048576) (base g : Nat) (ad : Option Addr) (c : Nat) (w : World)
    (ho : w.ownsRow base 26 32 (.slice (some ⟨g, 0, none⟩) (L.length + 1) (L.length + 1)) (L.length + 1) (hsc (L ++ [HB.mk 7777]))) (hs : Hss w (.slice ad L.length c) L) :
    Calls Tryd.prog 12 #[.slice (some ⟨g, 0, none⟩) L.length (L.length + 1), .slice ad L.length c] w fun e w' => e = .returned (.bool true) ∧ Nw w w' := by
  have hall : ∀ x ∈ L ++ [HB.mk 7777], x.length = 32 := fun x hx => by
    rcases List.mem_append.1 hx with h | h
    · exact h32 x h
    · rw [List.mem_singleton.1 h]; exact HB.mk_len _
  have hS := Hss.of hall (show w.ownsRow base 26 32 (.slice (some ⟨g, 0, none⟩) (L.length + 1) (L.length + 1)) (L ++ [HB.mk 7777]).length (hsc (L ++ [HB.mk 7777])) by rw [List.length_append]; exact ho)
  have hT : Hss w (.slice (some ⟨g, 0, none⟩) L.length (L.length + 1)) L := ⟨_, _, rfl, fun k x hk => by
    obtain ⟨ad', cp, e, h2⟩ := hS
    injection e with e1 e2 e3
    obtain ⟨g', o', e4, h3⟩ := h2 k x (by rw [List.getElem?_append_left (List.getElem?_eq_some_iff.1 hk).1]; exact hk)
    exact ⟨g', o', e1.trans e4, h3⟩⟩
  have hM : ∀ j, j < 32 → w.cell? ⟨g, 0 + L.length * 32 + j, none⟩ = (hbs (HB.mk 7777))[j]? := by
    obtain ⟨ad', cp, e, h2⟩ := hS
    injection e with e1 e2 e3
    obtain ⟨g', o', e4, h3⟩ := h2 L.length (HB.mk 7777) (by simp)
    rw [← e1] at e4
    simp only [Option.some.injEq, Addr.mk.injEq, and_true] at e4
    obtain ⟨rfl, rfl⟩ := e4
    exact h3
  have QS : Hid (Calls Tryd.prog 36 #[.slice (some ⟨g, 0, none⟩) L.length (L.length + 1), .slice ad L.length c] w fun e w' => e = .returned (.bool true) ∧ Nw w w') := sameh_yes _ _ L h32 w hT hs (by omega)
  have QI : Hid (∀ V, Calls Tryd.prog 37 #[.agg (hbs (HB.mk 7777)), .int .i64 7777] V fun e w' => e = .returned (.bool true) ∧ Nw V w') := fun V => HB.is_any 7777 (by decide) V
  have M32 : Hid ((HB.mk 7777).length = 32) := HB.mk_len _
  obtain ⟨M, hMe⟩ : ∃ M, M = HB.mk 7777 := ⟨_, rfl⟩
  rw [← hMe] at hM QI M32
  have hcut := cut_hh (some ⟨g, 0, none⟩) L.length (L.length + 1) (L.length + 1) (Nat.le_refl _)
  have HCUT := show Hid _ from hcut
  have HM : Hid (∀ V, Nw w V → ∀ j, j < 32 → V.cell? ⟨g, L.length * 32 + j, none⟩ = (hbs M)[j]?) := fun V nV j hj => by
    have h2 := hM j hj
    rw [Nat.zero_add] at h2
    rw [hbs_get M j (by have := M32.out; omega)] at h2 ⊢
    exact nV.cellOf h2
  clear hMe hM hT hS hall ho hs h32 hcut
  generalize L.length = n at *
  rw [Int.natCast_add] at HCUT
  go_enter Tryd.func12, Tryd.ntmps12
  go_wp2_with fail
  refine QS.out.mono ?_
  rintro _ w1 ⟨rfl, n1⟩
  have N1 : Hid (Nw w w1) := n1
  have hcut : (Instr.sliceAt 22 (.slice (some ⟨g, 0, none⟩) n (n + 1)) none (some (.int .i64 ((n : Int) + 1))) none).run Tryd.prog w1 = .ok (.slice (some ⟨g, 0, none⟩) (n + 1) (n + 1)) w1 := HCUT.out w1
  clear n1
  go_wp2_with (refine wpl_load (by rfl) (.tmp 16) rfl g (n * 32) rfl M M32.out (HM.out w1 N1.out) ?_)
  refine (QI.out _).mono ?_
  rintro _ w2 ⟨rfl, n2⟩
  go_wp2
  go_ret
  exact ⟨rfl, N1.out.tr n2⟩
theorem one_intP (w : World) (n : Nat) : Ints (w.alloc (.cells #[.int .i64 (n : Int)] 3)) (some ⟨w.heap.size, 0, none⟩) [n] := fun j hj => by
  match j, hj with
  | 0, _ => exact ⟨_, _, rfl, cell_of (heap_new w _) 0⟩
theorem twin_hrw {w : World} {base g : Nat} {L : List (List UInt8)} (h32 : ∀ x ∈ L, x.length = 32) (ho : w.ownsRow base 26 32 (.slice (some ⟨g, 0, none⟩) (L.length + 1) (L.length + 1)) (L.length + 1) (hsc (L ++ [HB.mk 7777]))) : Hrw w g L := by
  have hall : ∀ x ∈ L ++ [HB.mk 7777], x.length = 32 := fun x hx => by
    rcases List.mem_append.1 hx with h | h
    · exact h32 x h
    · rw [List.mem_singleton.1 h]; exact HB.mk_len _
  have h := Hrw.of (L := L ++ [HB.mk 7777]) (n := L.length + 1) (c := L.length + 1) (by rw [List.length_append]; exact ho) hall
  exact ⟨h.lt, h32, fun k x hx j hj => h.cs k x (by rw [List.getElem?_append_left (List.getElem?_eq_some_iff.1 hx).1]; exact hx) j hj⟩
/-- Fold and the document's Fold answer alike. -/
theorem both_fold (L : List (List UInt8)) (h32 : ∀ x ∈ L, x.length = 32) : ∃ (R : List UInt8) (j : Bool) (fc fp : Int), R.length = 32 ∧
    (L.length ≤ 1048576 → ∀ (w : World) (g : Nat), Hrw w g L → Laid w → ∀ {B : Nat} {a : Nat → Addr}, Sent B w a → Calls Tryd.prog 9 #[.slice (some ⟨g, 0, none⟩) L.length (L.length + 1)] w fun e w' => e = .returned (.tuple #[.agg (hbs R), if j then .nilIface else sen (a 1)]) ∧ Nw w w') ∧
    (L.length ≤ 1048576 → ∀ (w : World) (ad : Option Addr) (c : Nat), Hss w (.slice ad L.length c) L → (∀ g off, ad = some ⟨g, off, none⟩ → 0 < L.length → g < w.heap.size) → Calls Tryd.prog 10 #[.slice ad L.length c] w fun e w' => e = .returned (.tuple #[.agg (hbs R), .agg #[.int .i64 fc, .int .i64 fp]]) ∧ Nw w w') ∧
    (∀ (w : World) {B : Nat} {a : Nat → Addr}, Sent B w a → Calls Tryd.prog 11 #[if j then .nilIface else sen (a 1), .agg #[.int .i64 fc, .int .i64 fp]] w fun e w' => e = .returned (.bool true) ∧ Nw w w') := by
  cases hL : L with
  | nil =>
    refine ⟨zh, false, 2, -1, by simp, fun _ w g hh hl B a hS => pfold_none _ _ w hS, fun _ w ad c hs hlt => dfold_none ad c w, fun w B a hS => ?_⟩
    have q := same_any hS (show EV w a (sen (a 1)) 2 none from .inr (.inl ⟨1, by decide, rfl, rfl, rfl⟩)) 2 (-1)
    rw [show sameB 2 none 2 (-1) = true by simp [sameB]] at q
    exact q
  | cons x r =>
    rw [← hL]
    have hlen : L.length = r.length + 1 := by rw [hL]; rfl
    have hF : (fdp L).length = 32 := by
      rw [hL]
      cases r with
      | nil => exact h32 x (by rw [hL]; simp)
      | cons y s => exact ndp_len _ _
    refine ⟨fdp L, true, 0, 0, hF, fun hb w g hh hl B a hS => ?_, fun hb w ad c hs hlt => ?_, fun w B a hS => ?_⟩
    · rw [hlen]
      exact pfold_some (n := r.length) hh hlen (by omega) (by omega) hl hl.lt
    · rw [hlen]
      exact dfold_some (n := r.length) hs hlen h32 (by omega) (fun g off e => hlt g off e (by omega))
    · have q := same_any hS (show EV w a .nilIface 0 none from .inl ⟨rfl, rfl, rfl⟩) 0 0
      rw [show sameB 0 none 0 0 = true by simp [sameB]] at q
      exact q
set_option maxRecDepth 100000 in
set_option maxHeartbeats 4000000 in
theorem planfolds_any (L : List (List UInt8)) (h32 : ∀ x ∈ L, x.length = 32) (hl : L.length < 4611686018427387904) (ad : Option Addr) (c : Nat) (w : World) (hr : Hss w (.slice ad L.length c) L) (hlt : ∀ g off, ad = some ⟨g, off, none⟩ → 0 < L.length → g < w.heap.size) (hT : TabAt w) (hLd : Laid w) {B : Nat} {a : Nat → Addr} (hSe : Sent B w a) :
    Calls Tryd.prog 3 #[.slice ad L.length c] w fun e w' => e = .returned (.bool true) ∧ Nw w w' := by
  obtain ⟨R, j, fc, fp, hR32, qh, qd, qs⟩ := both_fold L h32
  obtain ⟨ev, hev⟩ : ∃ ev, ev = (if j then Value.nilIface else sen (a 1)) := ⟨_, rfl⟩
  have SS : Hid (∀ V, Nw w V → Sent B V a) := fun V nV => hSe.fr nV (fun _ _ f => f)
  have HLD : Hid (∀ V, Nw w V → Laid V) := fun V nV => hLd.nw nV
  have HR : Hid (Hss w (.slice ad L.length c) L) := hr
  have HLT : Hid (∀ g off, ad = some ⟨g, off, none⟩ → 0 < L.length → g < w.heap.size) := hlt
  have H32 : Hid (∀ x ∈ L, x.length = 32) := h32
  have QV : Hid (∀ V, Nw w V → Calls Tryd.prog 13 #[] V fun e w' => e = .returned (.bool true) ∧ Nw V w') := fun V nV => alive15_any V (hT.nw nV) (hLd.nw nV) (hSe.fr nV (fun _ _ f => f)) (hLd.nw nV).lt
  have q2 := beyond_any (some ⟨w.heap.size, 0, none⟩) 1 [L.length] _ (one_intP w L.length) (getD_allV (p := fun k => k < 4611686018427387904) (by intro k hk; simp only [List.mem_cons, List.not_mem_nil, or_false] at hk; subst hk; exact hl) (by omega)) (by simp)
  rw [show [L.length].length = 1 from rfl] at q2
  have QH0 : Hid (L.length ≤ 1048576 → ∀ (V : World) (g : Nat), Nw w V → Hrw V g L → Calls Tryd.prog 9 #[.slice (some ⟨g, 0, none⟩) L.length (L.length + 1)] V fun e w' => e = .returned (.tuple #[.agg (hbs R), ev]) ∧ Nw V w') := fun hb V g nV hV => by rw [hev]; exact qh hb V g hV (HLD.out V nV) (SS.out V nV)
  have QD0 : Hid (L.length ≤ 1048576 → ∀ (V : World), Nw w V → Calls Tryd.prog 10 #[.slice ad L.length c] V fun e w' => e = .returned (.tuple #[.agg (hbs R), .agg #[.int .i64 fc, .int .i64 fp]]) ∧ Nw V w') := fun hb V nV => qd hb V ad c (HR.out.nw H32.out nV) (fun g off e h0 => Nat.lt_of_lt_of_le (HLT.out g off e h0) nV.size)
  have QS : Hid (∀ V, Nw w V → Calls Tryd.prog 11 #[ev, .agg #[.int .i64 fc, .int .i64 fp]] V fun e w' => e = .returned (.bool true) ∧ Nw V w') := fun V nV => by rw [hev]; exact qs V (SS.out V nV)
  have R32 : Hid (R.length = 32) := hR32
  have hRs : (hbs R).size = 32 := by rw [hbs_size, R32.out]
  clear hT hSe hr hlt hLd h32 qh qd qs hev hR32
  obtain ⟨n, hn⟩ : ∃ n, n = L.length := ⟨_, rfl⟩
  have HN : Hid (n = L.length) := hn
  rw [← hn] at q2 QH0 QD0 hl ⊢
  clear hn
  have hni : (n : Int) < 4611686018427387904 := by omega
  go_enter Tryd.func3, Tryd.ntmps3
  go_wp2_with fail
  refine q2.mono ?_
  rintro _ w1 ⟨rfl, h1⟩
  have N1 : Hid (Nw w w1) := by rw [h1]; exact nwa w _
  clear h1 q2
  by_cases hbig : 1048576 < [n].sum
  · rw [decide_eq_true hbig]
    go_wp2
    go_ret
    exact ⟨rfl, N1.out⟩
  rw [decide_eq_false hbig]
  have hnb : n ≤ 1048576 := by simpa using hbig
  clear hbig
  have q3 := twinh_any ad c L H32.out w1 (HR.out.nw H32.out N1.out) (by rw [← HN.out]; exact hnb)
  have QH : Hid (∀ (V : World) (g : Nat), Nw w V → Hrw V g L → Calls Tryd.prog 9 #[.slice (some ⟨g, 0, none⟩) n (n + 1)] V fun e w' => e = .returned (.tuple #[.agg (hbs R), ev]) ∧ Nw V w') := QH0.out hnb
  have QD : Hid (∀ (V : World), Nw w V → Calls Tryd.prog 10 #[.slice ad n c] V fun e w' => e = .returned (.tuple #[.agg (hbs R), .agg #[.int .i64 fc, .int .i64 fp]]) ∧ Nw V w') := QD0.out hnb
  rw [← HN.out] at q3
  go_wp2_with fail
  refine q3.mono ?_
  rintro _ w2 ⟨rfl, o2, n2⟩
  obtain ⟨g, hg⟩ : ∃ g, g = w1.heap.size := ⟨_, rfl⟩
  rw [← hg] at o2 ⊢
  have N2 : Hid (Nw w w2) := N1.out.tr n2
  have O2 : Hid (w2.ownsRow g 26 32 (.slice (some ⟨g, 0, none⟩) (L.length + 1) (L.length + 1)) (L.length + 1) (hsc (L ++ [HB.mk 7777]))) := by rw [HN.out] at o2; exact o2
  have RW2 : Hid (Hrw w2 g L) := twin_hrw H32.out O2.out
  clear q3 o2 n2 hg N1
  go_wp2_with fail
  refine (QH.out _ g N2.out RW2.out).mono ?_
  rintro _ w3 ⟨rfl, n3⟩
  have N3 : Hid (Nw w2 w3) := n3
  clear n3
  go_wp2_with (refine wp_store_agg rfl (.tmp 4) (.tmp 17) 26 32 rfl Tryd.sizeOf26 w3.heap.size 0 rfl _ 26 (heap_new _ _) (hbs R) rfl hRs (hbs_one _) (by decide) (hbs R) (by simp) ?_; intro w4 j4 f4 zz; clear zz; have N4 : Hid (Nw w2 w4) := (N3.out.alloc _).trans f4 (fun k hk q => by have := N3.out.size; omega); have J4 : Hid (w4.heap[w3.heap.size]? = some (.cells (hbs R) 26 (0, 0))) := j4; clear j4 f4)
  obtain ⟨b1, hb1⟩ : ∃ q, q = w3.heap.size := ⟨_, rfl⟩
  rw [← hb1] at J4 ⊢
  clear hb1
  refine (QD.out _ (N2.out.tr N4.out)).mono ?_
  rintro _ w5 ⟨rfl, n5⟩
  have N5 : Hid (Nw w2 w5) := N4.out.tr n5
  have J5 : Hid (w5.heap[b1]? = some (.cells (hbs R) 26 (0, 0))) := (n5.block _ (heap_lt J4.out) (fun f => f)).trans J4.out
  clear n5 N3 N4 J4
  go_wp2_with (first
    | (refine wp_store_agg rfl (.tmp 6) (.tmp 22) 26 32 rfl Tryd.sizeOf26 w5.heap.size 0 rfl _ 26 (((nwa (w5.alloc _) _).block _ (by simp) (fun f => f)).trans (heap_new _ _)) (hbs R) rfl hRs (hbs_one _) (by decide) (hbs R) (by simp) ?_; intro w6 j6 f6 zz; clear zz; have N6 : Hid (Nw w2 w6) := (Fr.alloc (N5.out.alloc _) _).trans f6 (fun k hk q => by have := N5.out.size; omega); have J6 : Hid (w6.heap[w5.heap.size]? = some (.cells (hbs R) 26 (0, 0))) := j6; have K6 : Hid (w6.heap[b1]? = some (.cells (hbs R) 26 (0, 0))) := (f6.block _ (by simp; have := heap_lt J5.out; omega) (by have := heap_lt J5.out; omega)).trans ((((nwa w5 _).alloc _).block _ (heap_lt J5.out) (fun f => f)).trans J5.out); have bf : w6.heap[w5.heap.size + 1]? = some (.cells #[.int .i64 0, .int .i64 0] 32) := (f6.block _ (by simp) (by omega)).trans (heap_next _ _ _); clear j6 f6)
    | (refine wp_store_agg rfl (.tmp 7) (.tmp 23) 32 2 rfl Tryd.sizeOf32 (w5.heap.size + 1) 0 rfl #[.int .i64 0, .int .i64 0] 32 bf #[.int .i64 fc, .int .i64 fp] rfl rfl (by simp [Value.oneCell']) (by decide) #[.int .i64 fc, .int .i64 fp] (by simp) ?_; intro w7 j7 f7 zz; clear zz; have N7 : Hid (Nw w2 w7) := N6.out.trans f7 (fun k hk q => by have := N5.out.size; omega); have J7 : Hid (w7.heap[w5.heap.size + 1]? = some (.cells #[.int .i64 fc, .int .i64 fp] 32)) := j7; have K7 : Hid (∀ q, q < 32 → w7.cell? ⟨b1, 0 + q, none⟩ = (hbs R)[q]?) := hash_cells ((f7.block _ (heap_lt K6.out) (by have := heap_lt J5.out; omega)).trans K6.out); have L7 : Hid (∀ q, q < 32 → w7.cell? ⟨w5.heap.size, 0 + q, none⟩ = (hbs R)[q]?) := hash_cells ((f7.block _ (heap_lt J6.out) (by omega)).trans J6.out); obtain ⟨e0, e1⟩ : w7.cell? ⟨w5.heap.size + 1, 0, none⟩ = some (.int .i64 fc) ∧ w7.cell? ⟨w5.heap.size + 1, 1, none⟩ = some (.int .i64 fp) := ⟨(cell_of j7 0).trans rfl, (cell_of j7 1).trans rfl⟩; clear j7 f7 bf)
    | (refine wpl_load (by rfl) (.tmp 4) rfl b1 0 rfl R R32.out K7.out ?_)
    | (refine wpl_load (by rfl) (.tmp 6) rfl w5.heap.size 0 rfl R R32.out L7.out ?_)
    | (refine wpl_eql (by rfl) (.tmp 24) (.tmp 25) rfl R R32.out rfl rfl ?_)
    | fail)
  refine (QS.out _ (N2.out.tr N7.out)).mono ?_
  rintro _ w8 ⟨rfl, n8⟩
  have N8 : Hid (Nw w2 w8) := N7.out.tr n8
  clear n8 e0 e1
  have q9 := lefth_any L H32.out (by rw [← HN.out]; exact hnb) g g ad c w8 (ownsRow_keep O2.out (fun t ht => N8.out.block t (O2.out.lt t ht).2 (fun f => f))) (HR.out.nw H32.out (N2.out.tr N8.out))
  rw [← HN.out] at q9
  go_wp2_with fail
  refine q9.mono ?_
  rintro _ w9 ⟨rfl, n9⟩
  have N9 : Hid (Nw w w9) := (N2.out.tr N8.out).tr n9
  clear n9 q9
  go_wp2_with fail
  refine (QV.out _ N9.out).mono ?_
  rintro _ w10 ⟨rfl, n10⟩
  have N10 : Hid (Nw w w10) := N9.out.tr n10
  clear n10
  go_wp2
  go_ret
  exact ⟨rfl, N10.out⟩
theorem planfolds_v (L : List (List UInt8)) (h32 : ∀ x ∈ L, x.length = 32) (hl : L.length < 4611686018427387904) (v : Value) (w : World) (hs : Hss w v L) (hT : TabAt w) (hLd : Laid w) {B : Nat} {a : Nat → Addr} (hSe : Sent B w a) :
    Calls Tryd.prog 3 #[v] w fun e w' => e = .returned (.bool true) ∧ Nw w w' := by
  obtain ⟨ad, c, rfl, hc⟩ := hs
  refine planfolds_any L h32 hl ad c w ⟨ad, c, rfl, hc⟩ (fun g off e h0 => ?_) hT hLd hSe
  obtain ⟨g', o', e2, h3⟩ := hc 0 _ (List.getElem?_eq_getElem h0)
  have h4 := h3 0 (by decide)
  rw [hbs_get _ 0 (by rw [h32 _ (List.getElem_mem h0)]; decide)] at h4
  have h5 := World.block_lt_of_cell? _ _ h4
  rw [e] at e2
  cases e2
  exact h5
end Go.Proofs.YtlaiomgebkeldaaDoor
