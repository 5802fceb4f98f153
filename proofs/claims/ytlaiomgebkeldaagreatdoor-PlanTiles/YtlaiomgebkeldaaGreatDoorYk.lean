/- plan: what the document says of some proofs. -/
import Derived.Test.YtlaiomgebkeldaaGreatDoorYj
import Derived.Test.YtlaiomgebkeldaaGreatDoorYi
namespace Go.Proofs.YtlaiomgebkeldaaGreatDoor
open Go.RowKit
set_option linter.unusedVariables false
set_option linter.unusedSimpArgs false
/-- A hash of one byte and noughts. -/
def h1 (x : UInt8) : List UInt8 := x :: List.replicate 31 0
theorem h1_len (x : UInt8) : (h1 x).length = 32 := by simp [h1]
theorem hbs_h1 (x : UInt8) : hbs (h1 x) = #[.int .u8 (x.toNat : Int), .int .u8 0, .int .u8 0, .int .u8 0, .int .u8 0, .int .u8 0, .int .u8 0, .int .u8 0, .int .u8 0, .int .u8 0, .int .u8 0, .int .u8 0, .int .u8 0, .int .u8 0, .int .u8 0, .int .u8 0, .int .u8 0, .int .u8 0, .int .u8 0, .int .u8 0, .int .u8 0, .int .u8 0, .int .u8 0, .int .u8 0, .int .u8 0, .int .u8 0, .int .u8 0, .int .u8 0, .int .u8 0, .int .u8 0, .int .u8 0, .int .u8 0] := by
  rw [hbs, bc, h1, List.map_cons, List.map_replicate]; rfl
theorem build_l1 (n : Int) (W : World) : (Instr.build 99 #[(0, .int .u8 n)]).run Tryz.prog W = .ok (.agg #[.int .u8 n, .int .u8 0, .int .u8 0, .int .u8 0, .int .u8 0, .int .u8 0, .int .u8 0, .int .u8 0, .int .u8 0, .int .u8 0, .int .u8 0, .int .u8 0, .int .u8 0, .int .u8 0, .int .u8 0, .int .u8 0, .int .u8 0, .int .u8 0, .int .u8 0, .int .u8 0, .int .u8 0, .int .u8 0, .int .u8 0, .int .u8 0, .int .u8 0, .int .u8 0, .int .u8 0, .int .u8 0, .int .u8 0, .int .u8 0, .int .u8 0, .int .u8 0]) W := by kernel_rfl
theorem build_h1 (x : UInt8) (n : Int) (hn : n = (x.toNat : Int)) (W : World) : (Instr.build 99 #[(0, .int .u8 n)]).run Tryz.prog W = .ok (.agg (hbs (h1 x))) W := by
  subst hn
  rw [hbs_h1, build_l1]
section
variable {w : World} {ops : Array Oper} {rest : List Oper} {o : Oper} {a : Act} {Q : Exit → Act → World → Prop}
theorem wpl_build (hgd : o.guard = none) (tt : TypeId) (x : Operand) (ho : o.op = .build tt #[(0, x)]) (v : Value) (hv : a.eval x = v) (V : Array Value) (hb : ∀ W : World, (Instr.build tt #[(0, v)]).run Tryz.prog W = .ok (.agg V) W)
    (h : wpList Tryz.prog ops Q rest (a.put o.dst (.agg V)) w) : wpList Tryz.prog ops Q (o :: rest) a w := by
  refine wpList_plain hgd fun K hK => ?_
  unfold Oper.wp execOp
  simp only [ho, List.map_toArray, List.map_cons, List.map_nil, hv, hb, Sem.run_bind, Sem.run_pure, Result.andThen_ok]
  exact hK _ _ h
end
/-- Parts written one behind the other. -/
theorem fill_rows : ∀ (l : List (List UInt8)) (k : Nat) (Z : Array Value), (∀ h ∈ l, h.length = 32) → Z.size = (k + l.length) * 32 → Instr.fill (fun i => some (i * 32, 32)) Z ((l.zipIdx k).map fun x => (x.2, Value.agg (hbs x.1))) = some (Z.toList.take (k * 32) ++ hsc l).toArray
  | [], k, Z, _, h => by
    simp only [List.zipIdx_nil, List.map_nil, Instr.fill]
    congr 1
    apply Array.ext'
    simp only [List.length_nil, Nat.add_zero] at h
    rw [List.take_of_length_le (by simp [h])]
    simp [hsc]
  | x :: l, k, Z, h32, h => by
    have hx := h32 x (by simp)
    simp only [List.length_cons] at h
    have hs : (Value.agg (hbs x)).cells.size = 32 := by show (hbs x).size = 32; rw [hbs_size, hx]
    rw [List.zipIdx_cons, List.map_cons, Instr.fill]
    simp only [hs]
    rw [if_neg (by simp; omega)]
    have hf : ∀ (l : List Value) (j : Nat) (Z : Array Value), k * 32 + j + l.length ≤ Z.size → (l.zipIdx j).foldl (fun (cs : Array Value) (x : Value × Nat) => cs.setIfInBounds (k * 32 + x.2) x.1) Z = (Z.toList.take (k * 32 + j) ++ l ++ Z.toList.drop (k * 32 + j + l.length)).toArray := by
      intro l
      induction l with
      | nil => intro j Z _; simp
      | cons y l ih =>
        intro j Z hz
        simp only [List.length_cons] at hz
        rw [List.zipIdx_cons, List.foldl_cons, ih (j + 1) _ (by simp; omega)]
        apply Array.ext'
        simp only [Array.toList_setIfInBounds, List.length_cons]
        rw [show k * 32 + (j + 1) + l.length = k * 32 + j + (l.length + 1) by omega, show k * 32 + (j + 1) = k * 32 + j + 1 from rfl, List.take_add_one, List.take_set_of_le (Nat.le_refl _), List.getElem?_set_self (by simp; omega), List.drop_set_of_lt (by omega)]
        simp
    have hc : ((Value.agg (hbs x)).cells.zipIdx.foldl (fun cs (y : Value × Nat) => cs.setIfInBounds (k * 32 + y.2) y.1) Z) = (Z.toList.take (k * 32) ++ (hbs x).toList ++ Z.toList.drop (k * 32 + 32)).toArray := by
      show (hbs x).zipIdx.foldl _ Z = _
      rw [← Array.foldl_toList, Array.toList_zipIdx, hf (hbs x).toList 0 Z (by simp [hbs_size, hx]; omega)]
      simp [hbs_size, hx]
    rw [hc, fill_rows l (k + 1) _ (fun y hy => h32 y (by simp [hy])) (by simp [hbs_size, hx]; omega)]
    congr 1
    apply Array.ext'
    have hl : (Z.toList.take (k * 32)).length = k * 32 := by simp; omega
    have hb : (hbs x).toList.length = 32 := by simp [hbs_size, hx]
    rw [List.take_left' (by rw [List.length_append, hl, hb]; omega)]
    simp [hsc, hbs]
/-- A slice literal of hashes. -/
theorem wpl_rows {w : World} {ops : Array Oper} {rest : List Oper} {o : Oper} {a : Act} {Q : Exit → Act → World → Prop} (hwant : Region.wanted o (yielded ops a.tmps) = true) (n : Nat) (parts : Array (Nat × Operand)) (ho : o.op = .buildSlice 102 n parts)
    (l : List (List UInt8)) (hl : ∀ h ∈ l, h.length = 32) (hn : l.length = n) (hn0 : 0 < n) (hn2 : n ≤ 1000) (hp0 : parts.toList.map (fun p => (p.1, a.eval p.2)) = l.zipIdx.map fun x => (x.2, Value.agg (hbs x.1)))
    (h : wpList Tryz.prog ops Q rest (a.put o.dst (.slice (some ⟨w.heap.size, 0, none⟩) n n)) (w.alloc (.cells (hsc l).toArray 99))) : wpList Tryz.prog ops Q (o :: rest) a w := by
  obtain ⟨i0, hi, hz0, hz1, hz2⟩ := info_parts infoHs
  have hp : (parts.map fun p => (p.1, a.eval p.2)).toList = l.zipIdx.map fun x => (x.2, Value.agg (hbs x.1)) := by rw [Array.toList_map]; exact hp0
  refine wpList_step fun K hK => ?_
  rw [if_pos hwant]
  have hf := fill_rows l 0 ((Array.range (n * 32)).map (fun x => z32[x % z32.size]!)) hl (by simp [hn])
  rw [Nat.zero_mul, List.take_zero, List.nil_append] at hf
  have hr : (Instr.buildSlice 102 n (parts.map fun p => (p.1, a.eval p.2))).run Tryz.prog w = .ok (.slice (some ⟨w.heap.size, 0, none⟩) n n) (w.alloc (.cells (hsc l).toArray 99)) := by
    have h1 : ¬ n * 32 > 16777216 := by omega
    have h2 : ¬ n * 32 = 0 := by omega
    have h3 : ¬ n = 0 := by omega
    simp only [Instr.buildSlice, Sem.run_bind, run_underlying Tryz.underlying102, Tryz.sizeOf99 w, Result.andThen_ok, Sem.run_pure, hp]
    simp [zeroValue, hi, hz0, typeInfo, Value.cells, newRow, h1, h2, h3]
    simp only [hf]
    rfl
  unfold Oper.wp execOp
  simp only [ho, Sem.run_bind, Sem.run_pure, Result.andThen_ok, hr]
  exact hK _ _ h
theorem spl7 : spl 7 = 4 := spl_of (k := 2) (by decide) (by decide)
theorem spl4p : spl 4 = 2 := spl_of (k := 1) (by decide) (by decide)
theorem spl2p : spl 2 = 1 := spl_of (k := 0) (by decide) (by decide)
theorem lit_pth7 : pth 0 0 7 = [(1, 2), (2, 4), (4, 7)] := by
  have h1 : pth 0 0 7 = pth 0 0 (0 + spl 7) ++ [(0 + spl 7, 7)] := pth_left (by decide) (by show 0 < 0 + spl 7; rw [spl7]; decide)
  have h2 : pth 0 0 4 = pth 0 0 (0 + spl 4) ++ [(0 + spl 4, 4)] := pth_left (by decide) (by show 0 < 0 + spl 4; rw [spl4p]; decide)
  have h3 : pth 0 0 2 = pth 0 0 (0 + spl 2) ++ [(0 + spl 2, 2)] := pth_left (by decide) (by show 0 < 0 + spl 2; rw [spl2p]; decide)
  have h4 : pth 0 0 1 = [] := pth_one (by decide)
  rw [h1, spl7]
  show pth 0 0 4 ++ _ = _
  rw [h2, spl4p]
  show (pth 0 0 2 ++ _) ++ _ = _
  rw [h3, spl2p]
  show ((pth 0 0 1 ++ _) ++ _) ++ _ = _
  rw [h4]
  rfl
theorem Hrw.lit {w : World} {b : Nat} {t : TypeId} {f : Nat × Nat} (l : List (List UInt8)) (h32 : ∀ x ∈ l, x.length = 32) (h : w.heap[b]? = some (.cells (hsc l).toArray t f)) : Hrw w b l := by
  refine ⟨heap_lt h, h32, fun k x hx j hj => ?_⟩
  rw [cell_of h, List.getElem?_toArray, hsc_get l h32 k x hx j hj]
  simp [hbs]
abbrev lit7 : List (List (Nat × Nat)) := [[(0, 1)], [(1, 1)], [(1, 2), (0, 6)]]
theorem lit_prt7 : (pth 0 0 7).map cvr = lit7 := by
  rw [lit_pth7]
  decide +kernel
theorem lit_gd7 : gdA 300 lit7.flatten := by
  intro c hc
  have : c ∈ [(0, 1), (1, 1), (1, 2), (0, 6)] := hc
  revert c
  decide +kernel
theorem lit_tls7 : tls 300 lit7.flatten = [⟨0, 0, 256⟩] := by decide +kernel
theorem lit_fd : fdp [h1 1, h1 2, h1 3] = ndp (h1 1) (ndp (h1 2) (h1 3)) := rfl
theorem Crd.lit {w : World} {b : Nat} {t : TypeId} {f : Nat × Nat} (l : List (Nat × Nat)) (h : w.heap[b]? = some (.cells (fl l).toArray t f)) (c : Nat) : Crd w (.slice (some ⟨b, 0, none⟩) l.length c) l := by
  refine ⟨_, _, rfl, fun k t ht => ⟨b, 0, rfl, heap_lt h, ?_, ?_⟩⟩
  · rw [Nat.zero_add, cell_of h, List.getElem?_toArray]; exact (fl_get l k t ht).1
  · rw [Nat.zero_add, cell_of h, List.getElem?_toArray]; exact (fl_get l k t ht).2
theorem Prt.lit7 {w : World} {b : Nat} {tc tp : TypeId} (h0 : w.heap[b]? = some (.cells #[.int .u8 0, .int .u64 1] tc)) (h1 : w.heap[b + 1]? = some (.cells #[.int .u8 1, .int .u64 1] tc)) (h2 : w.heap[b + 2]? = some (.cells #[.int .u8 1, .int .u64 2, .int .u8 0, .int .u64 6] tc))
    (h3 : w.heap[b + 3]? = some (.cells #[.slice (some ⟨b, 0, none⟩) 1 1, .slice (some ⟨b + 1, 0, none⟩) 1 1, .slice (some ⟨b + 2, 0, none⟩) 2 2] tp)) : Prt w (.slice (some ⟨b + 3, 0, none⟩) 3 3) lit7 := by
  refine ⟨_, _, rfl, fun k l hl => ⟨b + 3, 0, ?_⟩⟩
  rcases k with _ | _ | _ | k
  · simp at hl; subst hl; exact ⟨_, rfl, heap_lt h3, (cell_of h3 0).trans rfl, Crd.lit [(0, 1)] h0 1⟩
  · simp at hl; subst hl; exact ⟨_, rfl, heap_lt h3, (cell_of h3 1).trans rfl, Crd.lit [(1, 1)] h1 1⟩
  · simp at hl; subst hl; exact ⟨_, rfl, heap_lt h3, (cell_of h3 2).trans rfl, Crd.lit [(1, 2), (0, 6)] h2 2⟩
  · simp at hl
theorem isjP {w : World} {B : Nat} {a : Nat → Addr} (hS : Sent B w a) (j : Nat) (hj : j < 16) (m : Int) (hm : m = ((j + 1 : Nat) : Int)) (W : World) (hW : Nw w W) : Calls Tryz.prog 31 #[sen (a j), .int .i64 m] W fun e w' => e = .returned (.bool true) ∧ Nw W w' := by
  subst hm
  have hsb : sameB (j + 1) none ((j + 1 : Nat) : Int) (-1) = true := by simp [sameB]
  have q := isE_any (hS.fr hW (fun _ _ f => f)) (show EV W a (sen (a j)) (j + 1) none from .inr (.inl ⟨j, hj, rfl, rfl, rfl⟩)) ((j + 1 : Nat) : Int)
  rw [hsb] at q
  exact q
theorem own_tile1 (w : World) : (w.alloc (.cells #[.int .u8 0, .int .u64 0, .int .i64 256] 104)).ownsRow w.heap.size 104 3 (.slice (some ⟨w.heap.size, 0, none⟩) 1 1) 1 (tic [⟨0, 0, 256⟩]) :=
  ⟨rfl, .inr ⟨w.heap.size, 1, #[.int .u8 0, .int .u64 0, .int .i64 256], rfl, Nat.le_refl _, heap_new _ _, Nat.le_refl _, by decide, rfl, rfl⟩⟩
set_option maxRecDepth 100000 in
set_option maxHeartbeats 4000000 in
theorem alive15_any (w : World) (hT : TabAt w) (hL : Laid w) {B : Nat} {a : Nat → Addr} (hS : Sent B w a) (hgb : 20 ≤ w.heap.size) :
    Calls Tryz.prog 19 #[] w fun e w' => e = .returned (.bool true) ∧ Nw w w' := by
  have HT : Hid (TabAt w) := hT
  have HL : Hid (Laid w) := hL
  have HS : Hid (Sent B w a) := hS
  have HNB : Hid (20 ≤ w.heap.size) := hgb
  have q1 := ppath_yes 0 7 (by omega) (by omega) w hT
  rw [lit_prt7] at q1
  clear hT hL hS hgb
  go_enter Tryz.func19, Tryz.ntmps19
  go_wp2_with fail
  refine q1.mono ?_
  rintro e w1 ⟨v, xs, rfl, p1, n1⟩
  have P1 : Hid (Prt w1 v lit7) := Prt.of p1
  obtain ⟨va, vc, rfl⟩ := ownsRow_form p1.1
  have N1 : Hid (Nw w w1) := n1
  have q2 := (ptiles_any _ lit7 300 w1 P1.out (by decide) (by decide) (by decide) (by decide) (by decide) (HS.out.fr n1 (fun _ _ f => f)))
  clear p1 n1 q1
  go_wp2_with fail
  refine q2.mono ?_
  rintro e w2 ⟨r1, -⟩
  obtain ⟨vt, rfl, o2, n2⟩ := r1 lit_gd7
  rw [lit_tls7] at o2
  obtain ⟨ta, tc, rfl⟩ := ownsRow_form o2
  have O2 : Hid (w2.ownsRow w1.heap.size 104 3 (.slice ta 1 tc) 1 (tic [⟨0, 0, 256⟩])) := o2
  have N2 : Hid (Nw w w2) := N1.out.tr n2
  have N12 : Hid (Nw w1 w2) := n2
  clear q2 r1 o2 n2
  go_wp2_with first
    | refine wpl_build rfl 99 (.const (.int .u8 1)) rfl (.int .u8 1) rfl _ (build_h1 1 1 (by decide)) ?_
    | refine wpl_build rfl 99 (.const (.int .u8 2)) rfl (.int .u8 2) rfl _ (build_h1 2 2 (by decide)) ?_
    | refine wpl_build rfl 99 (.const (.int .u8 3)) rfl (.int .u8 3) rfl _ (build_h1 3 3 (by decide)) ?_
    | refine wpl_rows (by kernel_rfl) 3 _ rfl [h1 1, h1 2, h1 3] (by simp [h1_len]) rfl (by decide) (by decide) rfl ?_
  have NA : Nw w (w2.alloc (.cells (hsc [h1 1, h1 2, h1 3]).toArray 99)) := N2.out.alloc _
  have qf := pfold_some (n := 2) (c := 3) (Hrw.lit [h1 1, h1 2, h1 3] (by simp [h1_len]) (heap_new w2 (.cells (hsc [h1 1, h1 2, h1 3]).toArray 99))) rfl (by decide) (by decide) (HL.out.nw NA) (Nat.le_trans HNB.out NA.size)
  rw [lit_fd] at qf
  obtain ⟨M, hM⟩ : ∃ M, M = ndp (h1 2) (h1 3) := ⟨_, rfl⟩
  obtain ⟨R, hR⟩ : ∃ R, R = ndp (h1 1) M := ⟨_, rfl⟩
  rw [← hM, ← hR] at qf
  have HM : Hid (M = ndp (h1 2) (h1 3)) := hM
  have HRe : Hid (R = ndp (h1 1) M) := hR
  have R32 : Hid (R.length = 32) := by show _ = _; rw [hR]; exact ndp_len _ _
  have M32 : Hid (M.length = 32) := by show _ = _; rw [hM]; exact ndp_len _ _
  have hR32 : (hbs R).size = 32 := by rw [hbs_size, R32.out]
  have NAh : Hid (Nw w (w2.alloc (.cells (hsc [h1 1, h1 2, h1 3]).toArray 99))) := NA
  clear hM hR NA
  refine qf.mono ?_
  rintro e w3 ⟨rfl, n3⟩
  have N3 : Hid (Nw w w3) := NAh.out.tr n3
  have N23 : Hid (Nw w2 w3) := Nw.tr (nwa w2 _) n3
  clear n3 qf
  go_wp2_with (refine wp_store_agg rfl (.tmp 5) (.tmp 25) 99 32 rfl Tryz.sizeOf99 w3.heap.size 0 rfl z32 99 (by rw [← z32_h]; exact heap_new _ _) (hbs R) rfl hR32 (hbs_one _) (by decide) (hbs R) (by rw [dropA z32_size]; simp) ?_; intro w4 j4 f4 z4; clear z4; have N34 : Hid (Nw w3 w4) := (nwa w3 _).trans f4 (fun q hq e => by omega); have J4 : Hid (w4.heap[w3.heap.size]? = some (.cells (hbs R) 99)) := j4; clear f4 j4)
  refine (pproof_no 0 3 (by omega) (by omega) (by omega) w4 (HS.out.fr (N3.out.tr N34.out) (fun _ _ f => f))).mono ?_
  rintro e w5 ⟨rfl, n5⟩
  have N5 : Hid (Nw w w5) := (N3.out.tr N34.out).tr n5
  have N25 : Hid (Nw w2 w5) := (N23.out.tr N34.out).tr n5
  have J5 : Hid (w5.heap[w3.heap.size]? = some (.cells (hbs R) 99)) := (n5.block _ (heap_lt J4.out) (fun f => f)).trans J4.out
  clear n5
  go_upto_region 6 with fail
  obtain ⟨bw, hbw⟩ : ∃ b, b = w5.heap.size := ⟨_, rfl⟩
  rw [← hbw]
  refine gen_wq (fun V => Nw w5 V ∧ Prt V (.slice (some ⟨bw + 1 + 1 + 1, 0, none⟩) 3 3) lit7) ?_ ?_
  · subst hbw
    have z3 := heap_new (((w5.alloc (.cells #[.int .u8 0, .int .u64 1] 87)).alloc (.cells #[.int .u8 1, .int .u64 1] 87)).alloc (.cells #[.int .u8 1, .int .u64 2, .int .u8 0, .int .u64 6] 87)) (.cells #[.slice (some ⟨w5.heap.size, 0, none⟩) 1 1, .slice (some ⟨w5.heap.size + 1, 0, none⟩) 1 1, .slice (some ⟨w5.heap.size + 1 + 1, 0, none⟩) 2 2] 27)
    simp only [World.size_alloc] at z3
    refine ⟨(by repeat first | with_reducible exact nwr w5 | with_reducible refine Fr.alloc ?_ _ | with_reducible refine Fr.drew ?_ | (with_reducible refine Fr.setCell ?_ _ _ (fun h => ?_); rotate_left; focus (simp only at h; omega))), Prt.lit7 (tc := 87) (tp := 27) ?_ ?_ ?_ z3⟩
    · (repeat first | with_reducible exact heap_new _ _ | with_reducible exact heap_new _ _ | with_reducible exact heap_next _ _ _ | with_reducible exact heap_third _ _ _ _ | with_reducible refine hp_dr ?_ | (with_reducible refine hp_ne ?_ ?_; focus omega) | (with_reducible refine hp_al ?_ ?_; focus (first | omega | (simp <;> omega))) | with_reducible apply hp_set) <;> rfl
    · (repeat first | with_reducible exact heap_next _ _ _ | with_reducible exact heap_new _ _ | with_reducible exact heap_next _ _ _ | with_reducible exact heap_third _ _ _ _ | with_reducible refine hp_dr ?_ | (with_reducible refine hp_ne ?_ ?_; focus omega) | (with_reducible refine hp_al ?_ ?_; focus (first | omega | (simp <;> omega))) | with_reducible apply hp_set) <;> rfl
    · (repeat first | with_reducible exact heap_third _ _ _ _ | with_reducible exact heap_new _ _ | with_reducible exact heap_next _ _ _ | with_reducible exact heap_third _ _ _ _ | with_reducible refine hp_dr ?_ | (with_reducible refine hp_ne ?_ ?_; focus omega) | (with_reducible refine hp_al ?_ ?_; focus (first | omega | (simp <;> omega))) | with_reducible apply hp_set) <;> rfl
  rintro w6 ⟨n6, p6⟩
  obtain ⟨hb3, hhb3⟩ : ∃ b, b = w3.heap.size := ⟨_, rfl⟩
  have J6 : Hid (w6.heap[hb3]? = some (.cells (hbs R) 99)) := by show _ = _; rw [hhb3]; exact (n6.block _ (heap_lt J5.out) (fun f => f)).trans J5.out
  have N6 : Hid (Nw w w6) := N5.out.tr n6
  have N26 : Hid (Nw w2 w6) := N25.out.tr n6
  have HQP : Hid (∀ V, Nw w6 V → Calls Tryz.prog 11 #[.slice va lit7.length vc, .slice (some ⟨bw + 1 + 1 + 1, 0, none⟩) 3 3] V fun e w' => e = .returned (.bool true) ∧ Nw V w') := fun V nV => samep_yes _ _ lit7 V (P1.out.nw ((N12.out.tr N26.out).tr nV)) (p6.nw nV) (by decide) (by decide)
  have HQT : Hid (∀ V, Nw w6 V → Calls Tryz.prog 25 #[.slice ta 1 tc, .slice (some ⟨V.heap.size, 0, none⟩) 1 1] (V.alloc (.cells #[.int .u8 0, .int .u64 0, .int .i64 256] 104)) fun e w' => e = .returned (.bool true) ∧ Nw V w') := fun V nV => by
    have ho : (V.alloc (.cells #[.int .u8 0, .int .u64 0, .int .i64 256] 104)).ownsRow w1.heap.size 104 3 (.slice ta 1 tc) 1 (tic [⟨0, 0, 256⟩]) := ownsRow_keep O2.out (fun g hg => ((N26.out.tr nV).alloc _).block g (O2.out.lt g hg).2 (fun f => f))
    refine (samet_yesP [⟨0, 0, 256⟩] ta (some ⟨V.heap.size, 0, none⟩) tc 1 _ _ _ ho (own_tile1 V) (by decide)).mono ?_
    rintro e w' ⟨rfl, n'⟩
    exact ⟨rfl, Nw.tr (nwa V _) n'⟩
  have HQM : Hid (∀ V, Nw w6 V → Calls Tryz.prog 92 #[.agg (hbs (h1 2)), .agg (hbs (h1 3))] V fun e w' => e = .returned (.agg (hbs M)) ∧ Nw V w') := fun V nV => by rw [HM.out]; exact node_any _ _ (h1_len _) (h1_len _) V (HL.out.nw (N6.out.tr nV))
  have HQR : Hid (∀ V, Nw w6 V → Calls Tryz.prog 92 #[.agg (hbs (h1 1)), .agg (hbs M)] V fun e w' => e = .returned (.agg (hbs R)) ∧ Nw V w') := fun V nV => by rw [HRe.out]; exact node_any _ _ (h1_len _) M32.out V (HL.out.nw (N6.out.tr nV))
  have HQI : Hid (∀ V, Nw w6 V → Calls Tryz.prog 31 #[sen (a 4), .int .i64 5] V fun e w' => e = .returned (.bool true) ∧ Nw V w') := fun V nV => isjP HS.out 4 (by decide) 5 rfl V (N6.out.tr nV)
  have hkp : Hid (∀ W, Nw w6 W → W.rangeAt hb3 0 (hbs R).toList) := fun W hW j v hv => by
    have jW := (hW.block hb3 (heap_lt J6.out) (fun f => f)).trans J6.out
    rw [Nat.zero_add, cell_of jW]; simpa using hv
  have hu26 := Tryz.underlying99
  have hi26 : (Tryz.prog.info? 99).map (·.size) = some (hbs R).toList.length := by rw [Array.length_toList, hR32]; kernel_rfl
  have he := fun W => hbs_eql R R32.out W
  have bb1 := build_h1 1 1 (by decide)
  have bb2 := build_h1 2 2 (by decide)
  have bb3 := build_h1 3 3 (by decide)
  have nd : Nw w6 w6.drew := (Fr.refl _ w6).drew
  have hbw3 : hb3 < w6.heap.size := heap_lt J6.out
  rw [← hhb3]
  clear n6 p6 hhb3 hbw
  go_region_held3 (fun W => W.rangeAt hb3 0 (hbs R).toList) (first | exact hkp.out _ nd | exact hkp.out _ n7 | exact hkp.out _ (n7.alloc _) | exact hkp.out _ n8 | exact hkp.out _ n9 | exact hkp.out _ n10 | exact hkp.out _ n11) (first
    | (go_at_call 11; refine (HQP.out _ nd).mono ?_; rintro e7 w7 ⟨rfl, n7'⟩; have n7 : Nw w6 w7 := nd.tr n7'; clear n7')
    | (go_at_call 25; refine (HQT.out _ n7).mono ?_; rintro e8 w8 ⟨rfl, n8'⟩; have n8 : Nw w6 w8 := n7.tr n8'; clear n8')
    | (go_at_call 92; refine (HQM.out _ n8).mono ?_; rintro e9 w9 ⟨rfl, n9'⟩; have n9 : Nw w6 w9 := n8.tr n9'; clear n9')
    | (go_at_call 92; refine (HQR.out _ n9).mono ?_; rintro e10 w10 ⟨rfl, n10'⟩; have n10 : Nw w6 w10 := n9.tr n10'; clear n10')
    | (go_at_call 31; refine (HQI.out _ n10).mono ?_; rintro e11 w11 ⟨rfl, n11'⟩; have n11 : Nw w6 w11 := n10.tr n11'; clear n11'))
  go_wp2
  go_ret
  exact ⟨rfl, N6.out.tr n11⟩
end Go.Proofs.YtlaiomgebkeldaaGreatDoor
