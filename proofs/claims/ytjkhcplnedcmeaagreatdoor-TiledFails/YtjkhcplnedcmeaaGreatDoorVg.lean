/- tile: Decode of bytes that are hashes. -/
import Derived.Test.YtjkhcplnedcmeaaGreatDoorUgx
import Derived.Test.YtjkhcplnedcmeaaGreatDoorKg
namespace Go.Proofs.YtjkhcplnedcmeaaGreatDoor
open Go.RowKit
set_option linter.unusedVariables false
set_option linter.unusedSimpArgs false
theorem conv_strB (s : ByteArray) (hs : s.size ≤ 100000) (w : World) : ∃ w1 c, (convert 9 168 (.string s)).run Tryz.prog w = .ok (.slice (some ⟨w.heap.size, 0, none⟩) s.size c) w1 ∧ Byl w1 (.slice (some ⟨w.heap.size, 0, none⟩) s.size c) s.data.toList ∧ Nw w w1 ∧ w1.heap.size = w.heap.size + 1 := by
  have h := run_bytes_of_string (P := Tryz.prog) w 9 168 5 s Tryz.underlying9 Tryz.underlying168 Tryz.underlying5
  have hg1 := grownCap_ge w s.size 0 5
  have hg2 := grownCap_le_maxLen w s.size 0 5 (by unfold maxLen; omega)
  unfold maxLen at hg2
  refine ⟨_, _, h, .inr ⟨w.heap.size, 0, _, by rw [bytes_len], by rw [bytes_len]; exact hg1, ⟨by rw [bytes_len]; omega, by omega⟩, fun i x hx => ?_⟩, (Fr.refl _ _).drew.alloc _, by simp⟩
  have hb := heap_new w.drew (.cells (bytesRow s (grownCap w s.size 0 5)) 5 ((bytesRow s (grownCap w s.size 0 5)).size, (bytesRow s (grownCap w s.size 0 5)).size + 1))
  have hi := (List.getElem?_eq_some_iff.1 hx).1
  rw [Array.length_toList] at hi
  have hc := cell_of hb i
  rw [bytesRow_at s _ i hi] at hc
  rw [Nat.zero_add]
  refine hc.trans ?_
  have := (List.getElem?_eq_some_iff.1 hx).2
  rw [Array.getElem_toList] at this
  rw [this]
theorem elemBu : Tryz.prog.elem 168 = 5 := by kernel_rfl
theorem undBu : Tryz.prog.underlying 168 = some (.slice (Tryz.prog.elem 168)) := by rw [elemBu]; exact Tryz.underlying168
theorem cut_blh (g o n cap x y : Nat) (hk : x < y) (hn : y ≤ cap) (v z : Int) (hv : v = (x : Int)) (hz : z = (y : Int)) (w : World) : (Instr.sliceAt 168 (.slice (some ⟨g, o, none⟩) n cap) (some (.int .i64 v)) (some (.int .i64 z)) none).run Tryz.prog w = .ok (.slice (some ⟨g, o + x, none⟩) (y - x) (cap - x)) w := by
  subst hz hv
  rw [run_sliceAt_slice w _ _ _ _ _ undBu, run_slice_lh w _ (some ⟨g, o, none⟩) n cap undBu .i64 .i64 x y (by omega) (by omega) (by omega), elemBu, Tryz.sizeOf5 w]
  have : ¬ cap = x := by omega
  simp [sliced, this, Addr.add]
theorem arr_at (b o l c : Nat) (hl : 32 ≤ l) (w : World) : (Instr.arrayAt 69 (.slice (some ⟨b, o, none⟩) l c)).run Tryz.prog w = .ok (.pointer (some ⟨b, o, none⟩)) w := by
  unfold Instr.arrayAt
  simp [Tryz.underlying69, underlying]
  intro h
  omega
section
variable {w : World} {ops : Array Oper} {rest : List Oper} {o : Oper} {a : Act} {Q : Exit → Act → World → Prop}
theorem wplt_cutB (hgd : o.guard = none) (x y z : Operand) (ho : o.op = .slice 168 x (some y) (some z) none) (X Y Z V : Value) (hx : a.eval x = X) (hy : a.eval y = Y) (hz : a.eval z = Z) (hr : (Instr.sliceAt 168 X (some Y) (some Z) none).run Tryz.prog w = .ok V w)
    (h : wpList Tryz.prog ops Q rest (a.put o.dst V) w) : wpList Tryz.prog ops Q (o :: rest) a w := by
  refine wpList_plain hgd fun K hK => ?_
  unfold Oper.wp execOp
  simp only [ho, Option.map_some, Option.map_none, hx, hy, hz, hr, Sem.run_bind, Sem.run_pure, Result.andThen_ok]
  exact hK _ _ h
theorem wplt_arr (hgd : o.guard = none) (x : Operand) (ho : o.op = .sliceToArrayPointer 69 x) (X V : Value) (hx : a.eval x = X) (hr : (Instr.arrayAt 69 X).run Tryz.prog w = .ok V w)
    (h : wpList Tryz.prog ops Q rest (a.put o.dst V) w) : wpList Tryz.prog ops Q (o :: rest) a w := by
  refine wpList_plain hgd fun K hK => ?_
  unfold Oper.wp execOp
  simp only [ho, hx, hr, Sem.run_bind, Sem.run_pure, Result.andThen_ok]
  exact hK _ _ h
end
/-- The hashes of bytes. -/
def chs (X : List UInt8) (n : Nat) : List (List UInt8) := (List.range n).map fun i => (X.drop (32 * i)).take 32
theorem chs_len (X : List UInt8) (n : Nat) : (chs X n).length = n := by simp [chs]
theorem chs_at (X : List UInt8) {n i : Nat} (h : i < n) : (chs X n)[i]? = some ((X.drop (32 * i)).take 32) := by simp [chs, h]
theorem chs_32 {X : List UInt8} {n : Nat} (h : X.length = 32 * n) : ∀ x ∈ chs X n, x.length = 32 := fun x hx => by
  simp only [chs, List.mem_map, List.mem_range] at hx
  obtain ⟨i, hi, rfl⟩ := hx
  simp
  omega
set_option maxRecDepth 100000 in
set_option maxHeartbeats 2000000 in
theorem dec_yes (s : ByteArray) (n : Nat) (h1 : 1 ≤ n) (h2 : n ≤ 256) (hs : s.size = 32 * n) (w : World) :
    Calls Tryz.prog 202 #[.string s, .int .i64 (n : Int)] w fun e w' => ∃ g, e = .returned (.tuple #[.slice (some ⟨g, 0, none⟩) n n, .nilIface]) ∧ w'.ownsRow w.heap.size 69 32 (.slice (some ⟨g, 0, none⟩) n n) n (hsc (chs s.data.toList n)) ∧ Nw w w' := by
  obtain ⟨w2, c2, hcv, hB2, n2, _⟩ := conv_strB s (by omega) w
  have hmk := make_hsc n (n : Int) rfl (by omega) w2
  have OM : Hid _ := own_made n (by omega) w2
  obtain ⟨w3, hw3⟩ : ∃ q, q = w2.alloc (.cells (hsc (List.replicate n zh)).toArray 69) := ⟨_, rfl⟩
  rw [← hw3] at hmk OM
  have N3 : Hid (Nw w2 w3) := by show Nw w2 w3; rw [hw3]; exact nwa w2 _
  have N2 : Hid (Nw w w2) := n2
  obtain ⟨g, hg⟩ : ∃ g, g = w2.heap.size := ⟨_, rfl⟩
  rw [← hg] at hmk OM
  have HG : Hid (g = w2.heap.size) := hg
  have HB : Hid (Byl w2 (.slice (some ⟨w.heap.size, 0, none⟩) s.size c2) s.data.toList) := by first | exact hB2 | (rw [bytes_len] at hB2; exact hB2)
  have hXl : s.data.toList.length = 32 * n := by rw [bytes_len]; exact hs
  obtain ⟨X, hX⟩ : ∃ X, X = s.data.toList := ⟨_, rfl⟩
  rw [← hX] at HB hXl ⊢
  have HXL : Hid (X.length = 32 * n) := hXl
  have e1 : ((s.size : Int) != 32 * (n : Int)) = false := by
    have : (s.size : Int) = 32 * (n : Int) := by omega
    simp [this]
  have d1 : ¬ (n : Int) < 1 := by omega
  have d2 : ¬ (256 : Int) < (n : Int) := by omega
  have CB : Hid (∀ i x, X[i]? = some x → w3.cell? ⟨w.heap.size, i, none⟩ = some (.int .u8 (x.toNat : Int))) := by
    rcases HB.out with ⟨h0, _⟩ | ⟨b, o, c, hv, _, _, hc⟩
    · rw [h0] at hXl; simp at hXl; omega
    · injection hv with q1 q2 q3
      injection q1 with q1
      injection q1 with q4 q5 q6
      subst q4 q5
      intro i x hx
      have := N3.out.cellOf (hc i x hx)
      rwa [Nat.zero_add] at this
  have hsb := heap_lt (show w3.heap[g]? = some (.cells (hsc (List.replicate n zh)).toArray 69) by rw [hw3, hg]; exact heap_new _ _)
  have hc2 : s.size ≤ c2 ∧ c2 ≤ 9223372036854775807 := by
    rcases HB.out with ⟨h0, _⟩ | ⟨b, o, c, hv, h8, h9, _⟩
    · rw [h0] at hXl; simp at hXl; omega
    · injection hv with e1 e2 e3
      subst e3
      omega
  have hne : w.heap.size ≠ g := by
    have hx : (X[0]?).isSome := by rw [List.getElem?_eq_getElem (by omega)]; rfl
    obtain ⟨x, hx⟩ := Option.isSome_iff_exists.1 hx
    rcases HB.out with ⟨h0, _⟩ | ⟨b, o, c, hv, _, _, hc⟩
    · rw [h0] at hXl; simp at hXl; omega
    · injection hv with q1 q2 q3
      injection q1 with q1
      injection q1 with q4 q5 q6
      subst q4 q5
      have := World.block_lt_of_cell? w2 _ (hc 0 x hx)
      simp only at this
      omega
  obtain ⟨cb, hcb⟩ : ∃ q, q = w.heap.size := ⟨_, rfl⟩
  rw [← hcb] at CB hne hcv
  have HCB : Hid (cb = w.heap.size) := hcb
  obtain ⟨sz, hsz⟩ : ∃ z, z = s.size := ⟨_, rfl⟩
  have HSZ : Hid (sz = 32 * n) := by show _ = _; rw [hsz]; exact hs
  rw [← hsz] at hcv e1 hc2
  have hse : (s.size : Int) = (sz : Int) := by rw [hsz]
  clear hw3 hg hcb HB hX hXl hB2 n2
  go_enter Tryz.func202, Tryz.ntmps202
  go_wp2
  go_loopw [30] (fun v wr => ∃ (i : Nat) (xs : List (List UInt8)), i ≤ n ∧ v = .int .i64 i ∧ xs.length = n ∧ (∀ x ∈ xs, x.length = 32) ∧ (∀ q, q < i → xs[q]? = (chs X n)[q]?) ∧ wr.ownsRow g 69 32 (.slice (some ⟨g, 0, none⟩) n n) n (hsc xs) ∧ Fr (fun b => b = g) w3 wr) (fun v _ => n - (intOf v).toNat)
  case atStart => exact ⟨0, _, by omega, rfl, by simp, fun x hx => by rw [List.eq_of_mem_replicate hx]; simp, fun q hq => by omega, OM.out, Fr.refl _ _⟩
  case round =>
    obtain ⟨i, xs, hi, rfl, hxl, hx32, hxq, hown, hfr⟩ := hrel
    have HXN : Hid (xs.length = n) := hxl
    have HX32 : Hid (∀ x ∈ xs, x.length = 32) := hx32
    have HXQ : Hid (∀ q, q < i → xs[q]? = (chs X n)[q]?) := hxq
    have HOW : Hid (wr.ownsRow g 69 32 (.slice (some ⟨g, 0, none⟩) n n) n (hsc xs)) := hown
    have HFR : Hid (Fr (fun b => b = g) w3 wr) := hfr
    clear hxl hx32 hxq hown hfr
    by_cases hlt : i < n
    · obtain ⟨y, hy⟩ : ∃ y, y = (X.drop (32 * i)).take 32 := ⟨_, rfl⟩
      have Y32 : Hid (y.length = 32) := by show _ = _; rw [hy]; have := HXL.out; simp; omega
      have hys : (hbs y).size = 32 := by rw [hbs_size, Y32.out]
      have HC : Hid (∀ j, j < 32 → wr.cell? ⟨cb, 0 + 32 * i + j, none⟩ = (hbs y)[j]?) := fun j hj => by
        have hyj : y[j]? = X[32 * i + j]? := by rw [hy, List.getElem?_take_of_lt hj, List.getElem?_drop]
        have hlt2 : 32 * i + j < X.length := by rw [HXL.out]; omega
        obtain ⟨x, hx⟩ : ∃ x, X[32 * i + j]? = some x := ⟨_, List.getElem?_eq_getElem hlt2⟩
        have h3 := CB.out _ x hx
        rw [hbs_get y j (by rw [Y32.out]; exact hj), List.getD_eq_getElem?_getD, hyj, hx, Nat.zero_add]
        exact (HFR.out.cell (World.block_lt_of_cell? w3 _ h3) hne).trans h3
      obtain ⟨cur, new, g1, g2, g3, g4⟩ := own_setT HX32.out HXN.out HOW.out i hlt y Y32.out
      have G1 : Hid (wr.heap[g]? = some (.cells cur 69 (0, 0))) := g1
      have G2 : Hid (i * 32 + 32 ≤ cur.size) := g2
      have G3 : Hid (new.toList = cur.toList.take (i * 32) ++ (hbs y).toList ++ cur.toList.drop (i * 32 + 32)) := g3
      have G4 : Hid (∀ w' : World, w'.heap[g]? = some (.cells new 69 (0, 0)) → w'.ownsRow g 69 32 (.slice (some ⟨g, 0, none⟩) n n) n (hsc (xs.set i y))) := g4
      have HY : Hid (y = (X.drop (32 * i)).take 32) := hy
      clear hy g1 g2 g3 g4
      have hki : (i : Int) < (n : Int) := by omega
      have HCT := show Hid _ from cut_blh cb 0 (32 * n) c2 (32 * i) (32 * (i + 1)) (by omega) (by have := HSZ.out; omega) (32 * (i : Int)) (32 * ((i : Int) + 1)) (by omega) (by omega) wr
      have e32 : 32 * (i + 1) - 32 * i = 32 := by omega
      rw [e32] at HCT
      have HAR := show Hid _ from arr_at cb (0 + 32 * i) 32 (c2 - 32 * i) (by omega) wr
      go_wp2_with (first
        | (refine wplt_cutB rfl (.tmp 40) (.tmp 41) (.tmp 42) rfl (.slice (some ⟨cb, 0, none⟩) (32 * n) c2) (.int .i64 (32 * (i : Int))) (.int .i64 (32 * ((i : Int) + 1))) (.slice (some ⟨cb, 0 + 32 * i, none⟩) 32 (c2 - 32 * i)) rfl rfl rfl HCT.out ?_)
        | (refine wplt_arr rfl (.tmp 43) rfl (.slice (some ⟨cb, 0 + 32 * i, none⟩) 32 (c2 - 32 * i)) (.pointer (some ⟨cb, 0 + 32 * i, none⟩)) rfl HAR.out ?_)
        | (refine wpl_load rfl (.tmp 44) rfl cb (0 + 32 * i) rfl y Y32.out HC.out ?_)
        | (refine wp_store_agg rfl (.tmp 46) (.tmp 45) 69 32 rfl Tryz.sizeOf69 g (i * 32) rfl cur 69 G1.out (hbs y) rfl hys (hbs_one _) G2.out new G3.out ?_; intro w4 j4 f4 z4; clear z4))
      refine ⟨⟨i + 1, xs.set i y, by omega, by go_num, by rw [List.length_set]; exact HXN.out, fun z hz => ?_, fun q hq => ?_, G4.out w4 j4, HFR.out.trans f4 (fun b hb q => q)⟩, by simp [intOf]; omega⟩
      · rcases List.mem_or_eq_of_mem_set hz with hz | rfl
        · exact HX32.out z hz
        · exact Y32.out
      · by_cases hqk : q = i
        · subst hqk
          rw [List.getElem?_set_self (by rw [HXN.out]; omega), chs_at X hlt, HY.out]
        · rw [List.getElem?_set_ne (by omega)]
          exact HXQ.out q (by omega)
    · obtain rfl : i = n := by omega
      have hki : ¬ (i : Int) < (i : Int) := by omega
      have e : xs = chs X i := by
        apply List.ext_getElem?
        intro q
        rcases Nat.lt_or_ge q i with h | h
        · exact HXQ.out q h
        · rw [List.getElem?_eq_none (by rw [HXN.out]; omega), List.getElem?_eq_none (by rw [chs_len]; omega)]
      have o4 := HOW.out
      rw [e] at o4
      have HO4 := show Hid (wr.ownsRow g 69 32 (.slice (some ⟨g, 0, none⟩) i i) i (hsc (chs X i))) from o4
      clear o4 e
      go_wp2
      go_ret2
      exact ⟨g, rfl, ownsRow_base HO4.out (by have := HG.out; have := N2.out.size; omega), (N2.out.tr N3.out).trans HFR.out (fun b hb q => by have := HG.out; have := N2.out.size; omega)⟩
end Go.Proofs.YtjkhcplnedcmeaaGreatDoor
namespace Go.Proofs.YtjkhcplnedcmeaaGreatDoor
open Go.RowKit
set_option linter.unusedVariables false
set_option linter.unusedSimpArgs false
theorem conv_bylV {w : World} {v : Value} {X : List UInt8} (h : Byl w v X) : (convert 168 9 v).run Tryz.prog w = .ok (.string ⟨X.toArray⟩) w := by
  rcases h with ⟨rfl, rfl⟩ | ⟨b, o, c, rfl, _, _, hc⟩
  · kernel_rfl
  · refine run_convert_bytes_back w _ _ 5 ⟨b, o, none⟩ c X Tryz.underlying168 Tryz.underlying5 Tryz.underlying9 (fun j hj => ?_)
    rw [addO]
    exact hc j X[j] (List.getElem?_eq_getElem hj)
/-- The bytes of hashes. -/
def fltH (L : List (List UInt8)) : List UInt8 := L.flatten
theorem fltH_len : ∀ (L : List (List UInt8)), (∀ x ∈ L, x.length = 32) → (fltH L).length = 32 * L.length
  | [], _ => rfl
  | x :: r, h => by
    have ih := fltH_len r (fun y hy => h y (by simp [hy]))
    have hx := h x (by simp)
    simp only [fltH, List.flatten_cons, List.length_append, List.length_cons] at ih ⊢
    omega
theorem fltH_snoc (L : List (List UInt8)) (k : Nat) (x : List UInt8) (h : L[k]? = some x) : fltH (L.take (k + 1)) = fltH (L.take k) ++ x := by
  unfold fltH
  rw [List.take_add_one, h, List.flatten_append]
  simp
theorem byl_own {w : World} {base n : Nat} {va : Option Addr} {vc : Nat} {X : List UInt8} (hn : X.length = n) (h8 : n ≤ 1000000) (h : w.ownsRow base 5 1 (.slice va n vc) n (bc X)) : Byl w (.slice va n vc) X := by
  rcases h.2 with ⟨hv, h0⟩ | ⟨g, cap, cur, hv, _, hb, h3, h4, _, _⟩
  · refine .inl ⟨List.length_eq_zero_iff.1 (by omega), hv⟩
  · injection hv with q1 q2 q3
    subst q1 q3
    refine .inr ⟨g, 0, vc, by rw [hn], by omega, ⟨by omega, by unfold maxLen at h4; omega⟩, fun i x hx => ?_⟩
    have := h.cells (g := g) rfl i (.int .u8 (x.toNat : Int)) (by unfold bc; rw [List.getElem?_map, hx]; rfl)
    rw [addO] at this
    exact this
set_option maxRecDepth 100000 in
set_option maxHeartbeats 2000000 in
theorem enc_yes (L : List (List UInt8)) (h32 : ∀ x ∈ L, x.length = 32) (h1 : 1 ≤ L.length) (h2 : L.length ≤ 256) (ad : Option Addr) (c : Nat) (w : World) (hs : Hss w (.slice ad L.length c) L) :
    Calls Tryz.prog 54 #[.slice ad L.length c] w fun e w' => e = .returned (.tuple #[.string ⟨(fltH L).toArray⟩, .nilIface]) ∧ Nw w w' := by
  obtain ⟨n, hn⟩ : ∃ n, n = L.length := ⟨_, rfl⟩
  have Hn : Hid (L.length = n) := hn.symm
  have HS : Hid (Hss w (.slice ad n c) L) := by rw [hn]; exact hs
  have H32 : Hid (∀ x ∈ L, x.length = 32) := h32
  rw [← hn] at h1 h2 ⊢
  clear hn hs h32
  obtain ⟨i0, hi0, hz0, hz1, hz2⟩ := info8b
  obtain ⟨w1, hmk, hown, hgr⟩ := run_make_own (P := Tryz.prog) w w.heap.size 168 5 i0 (.int .u8 0) 1 Tryz.underlying168 hi0 hz0 hz1 .i64 .i64 (32 * n) (by rw [hz2]; omega) (by unfold maxLen; omega) (Nat.le_refl _)
  have e32 : ((32 * n : Nat) : Int) = 32 * (n : Int) := by omega
  rw [e32] at hmk
  have N1 : Hid (Nw w w1) := (Fr.refl _ w).grown hgr (fun k hk => by cases hk)
  have O1 : Hid (w1.ownsRow w.heap.size 5 1 (.slice (some ⟨w.heap.size, 0, none⟩) 0 (32 * n)) 0 []) := hown
  have d1 : ¬ (n : Int) < 1 := by omega
  have d2 : ¬ (256 : Int) < (n : Int) := by omega
  have HI0 : Hid (Tryz.prog.info? 5 = some i0 ∧ i0.zero = some (.int .u8 0) ∧ i0.size = 1 ∧ i0.bytes = 1) := ⟨hi0, hz0, hz1, hz2⟩
  clear hown hgr e32 hi0 hz0 hz1 hz2
  go_enter Tryz.func54, Tryz.ntmps54
  go_wp2
  go_loopw [4, 22] (fun u v wr => ∃ (k : Nat) (va : Option Addr) (vc : Nat), k ≤ n ∧ v = .int .i64 k ∧ u = .slice va (32 * k) vc ∧ wr.ownsRow w.heap.size 5 1 (.slice va (32 * k) vc) (32 * k) (bc (fltH (L.take k))) ∧ Nw w wr) (fun _ v _ => n - (intOf v).toNat)
  case atStart => exact ⟨0, _, _, by omega, rfl, rfl, O1.out, N1.out⟩
  case round =>
    obtain ⟨k, va, vc, hk, rfl, rfl, ho, hnw⟩ := hrel
    have HO : Hid (wr.ownsRow w.heap.size 5 1 (.slice va (32 * k) vc) (32 * k) (bc (fltH (L.take k)))) := ho
    have HN : Hid (Nw w wr) := hnw
    clear ho hnw hmk
    by_cases hlt : k < n
    · obtain ⟨x, hx⟩ : ∃ x, L[k]? = some x := ⟨_, List.getElem?_eq_getElem (by rw [Hn.out]; exact hlt)⟩
      have X32 : Hid (x.length = 32) := H32.out x (List.mem_of_getElem? hx)
      have hxs : (hbs x).size = 32 := by rw [hbs_size, X32.out]
      obtain ⟨p, off, e, hc⟩ := (HS.out.nw H32.out HN.out).atT hx
      subst e
      have HC : Hid (∀ j, j < 32 → wr.cell? ⟨p, off + k * 32 + j, none⟩ = (hbs x)[j]?) := hc
      have HX : Hid (fltH (L.take (k + 1)) = fltH (L.take k) ++ x) := fltH_snoc L k x hx
      have hki : (k : Int) < (n : Int) := by omega
      clear hx hc
      have hkb : k ≤ 256 := by omega
      have HBT : Hid ((hbs x).toList = bc x) := by show _ = _; simp [hbs]
      go_wp2_with (first
        | (refine wpl_load rfl (.tmp 24) rfl p (off + k * 32) rfl x X32.out HC.out ?_)
        | (refine wp_store_agg rfl (.tmp 6) (.tmp 25) 69 32 rfl Tryz.sizeOf69 wr.heap.size 0 rfl _ 69 (heap_new _ _) (hbs x) rfl hxs (hbs_one _) (by decide) (hbs x) (by simp) ?_; intro w4 j4 f4 zz; clear zz; have N4 : Hid (Nw wr w4) := (nwa wr _).trans f4 (fun k hk q => by omega); have J4 : Hid (w4.heap[wr.heap.size]? = some (.cells (hbs x) 69 (0, 0))) := j4; have O4 : Hid (w4.ownsRow w.heap.size 5 1 (.slice va (32 * k) vc) (32 * k) (bc (fltH (L.take k)))) := ownsRow_keep HO.out (fun g hg => N4.out.block g (HO.out.lt g hg).2 (fun f => f)); have HNW : Hid (∀ j u, (hbs x).toList[j]? = some u → w4.cell? ((⟨wr.heap.size, 0, none⟩ : Addr).add j) = some u) := (fun j u hj => by rw [addZ, cell_of J4.out]; simpa using hj); have HSZ := show Hid (w.heap.size ≤ w4.heap.size) from Nat.le_trans HN.out.size N4.out.size; clear j4 f4)
        | (at_builtin; refine wpList_append_own _ rfl (.tmp 26) (.tmp 27) 168 rfl w.heap.size 5 i0 (.int .u8 0) 1 1 Tryz.underlying168 HI0.out.1 HI0.out.2.1 HI0.out.2.2.1 HI0.out.2.2.2 rfl (by decide) (.slice va (32 * k) vc) (32 * k) (bc (fltH (L.take k))) rfl O4.out ⟨wr.heap.size, 0, none⟩ 32 32 (hbs x).toList rfl (by rw [Array.length_toList, hxs]) HNW.out (hbs_one _) (by unfold maxLen; omega) (by omega) HSZ.out ?_; intro v' w6 o6 g6 x6; clear x6; have N6 : Hid (Nw w w6) := Fr.grown (HN.out.tr N4.out) g6 (fun t ht hlt => by have := (O4.out.lt t ht).1; omega); have O6 : Hid (w6.ownsRow w.heap.size 5 1 v' (32 * k + 32) (bc (fltH (L.take k)) ++ (hbs x).toList)) := o6; clear o6 g6)
        | fail)
      obtain ⟨xa, xc, rfl⟩ := ownsRow_form O6.out
      have e1 : 32 * k + 32 = 32 * (k + 1) := by omega
      have h6 := O6.out
      rw [HBT.out, ← bc_app, ← HX.out, e1] at h6
      exact ⟨⟨k + 1, xa, xc, by omega, by go_num, by rw [e1], h6, N6.out⟩, by simp [intOf]; omega⟩
    · obtain rfl : k = n := by omega
      have hki : ¬ (k : Int) < (k : Int) := by omega
      have hb := byl_own (w := wr) (X := fltH (L.take k)) (n := 32 * k) (by rw [fltH_len _ (fun x hx => H32.out x (List.mem_of_mem_take hx)), List.length_take, Hn.out]; omega) (by omega) HO.out
      rw [show L.take k = L by rw [← Hn.out]; exact List.take_length] at hb
      have hcv := conv_bylV hb
      clear hb
      go_wp2
      go_ret2
      exact ⟨rfl, HN.out⟩
end Go.Proofs.YtjkhcplnedcmeaaGreatDoor
