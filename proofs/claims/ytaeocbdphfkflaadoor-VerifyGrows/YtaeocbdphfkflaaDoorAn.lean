/- alive of law18. -/
import Derived.Test.YtaeocbdphfkflaaDoorAm
import Derived.Test.YtaeocbdphfkflaaDoorAl
namespace Go.Proofs.YtaeocbdphfkflaaDoor
open Go.RowKit
set_option linter.unusedVariables false
set_option linter.unusedSimpArgs false
/-- A hash of one byte and noughts. -/
def h1 (x : UInt8) : List UInt8 := x :: List.replicate 31 0
theorem h1_len (x : UInt8) : (h1 x).length = 32 := by simp [h1]
theorem hbs_h1 (x : UInt8) : hbs (h1 x) = #[.int .u8 (x.toNat : Int), .int .u8 0, .int .u8 0, .int .u8 0, .int .u8 0, .int .u8 0, .int .u8 0, .int .u8 0, .int .u8 0, .int .u8 0, .int .u8 0, .int .u8 0, .int .u8 0, .int .u8 0, .int .u8 0, .int .u8 0, .int .u8 0, .int .u8 0, .int .u8 0, .int .u8 0, .int .u8 0, .int .u8 0, .int .u8 0, .int .u8 0, .int .u8 0, .int .u8 0, .int .u8 0, .int .u8 0, .int .u8 0, .int .u8 0, .int .u8 0, .int .u8 0] := by
  rw [hbs, bc, h1, List.map_cons, List.map_replicate]; rfl
theorem build_l1 (n : Int) (W : World) : (Instr.build 24 #[(0, .int .u8 n)]).run Tryd.prog W = .ok (.agg #[.int .u8 n, .int .u8 0, .int .u8 0, .int .u8 0, .int .u8 0, .int .u8 0, .int .u8 0, .int .u8 0, .int .u8 0, .int .u8 0, .int .u8 0, .int .u8 0, .int .u8 0, .int .u8 0, .int .u8 0, .int .u8 0, .int .u8 0, .int .u8 0, .int .u8 0, .int .u8 0, .int .u8 0, .int .u8 0, .int .u8 0, .int .u8 0, .int .u8 0, .int .u8 0, .int .u8 0, .int .u8 0, .int .u8 0, .int .u8 0, .int .u8 0, .int .u8 0]) W := by kernel_rfl
theorem build_h1 (x : UInt8) (n : Int) (hn : n = (x.toNat : Int)) (W : World) : (Instr.build 24 #[(0, .int .u8 n)]).run Tryd.prog W = .ok (.agg (hbs (h1 x))) W := by
  subst hn
  rw [hbs_h1, build_l1]
section
variable {w : World} {ops : Array Oper} {rest : List Oper} {o : Oper} {a : Act} {Q : Exit → Act → World → Prop}
theorem wpl_build (hgd : o.guard = none) (tt : TypeId) (x : Operand) (ho : o.op = .build tt #[(0, x)]) (v : Value) (hv : a.eval x = v) (V : Array Value) (hb : ∀ W : World, (Instr.build tt #[(0, v)]).run Tryd.prog W = .ok (.agg V) W)
    (h : wpList Tryd.prog ops Q rest (a.put o.dst (.agg V)) w) : wpList Tryd.prog ops Q (o :: rest) a w := by
  refine wpList_plain hgd fun K hK => ?_
  unfold Oper.wp execOp
  simp only [ho, List.map_toArray, List.map_cons, List.map_nil, hv, hb, Sem.run_bind, Sem.run_pure, Result.andThen_ok]
  exact hK _ _ h
end
/-- Parts written one behind the other. -/
theorem fill_rows : ∀ (l : List (List UInt8)) (k : Nat) (Z : Array Value), (∀ h ∈ l, h.length = 32) → Z.size = (k + l.length) * 32 → Instr.fill (fun i => some (i * 32, 32)) Z ((l.zipIdx k).map fun x => (x.2, Value.agg (hbs x.1))) = some (Z.toList.take (k * 32) ++ hsc l).toArray
  | [], k, Z, _, h => by
    simp only [List.zipIdx_nil, List.map_nil, Instr.fill]
    congr 1
    apply Array.ext'
    simp only [List.length_nil, Nat.add_zero] at h
    rw [List.take_of_length_le (by simp [h])]
    simp [hsc]
  | x :: l, k, Z, h32, h => by
    have hx := h32 x (by simp)
    simp only [List.length_cons] at h
    have hs : (Value.agg (hbs x)).cells.size = 32 := by show (hbs x).size = 32; rw [hbs_size, hx]
    rw [List.zipIdx_cons, List.map_cons, Instr.fill]
    simp only [hs]
    rw [if_neg (by simp; omega)]
    have hf : ∀ (l : List Value) (j : Nat) (Z : Array Value), k * 32 + j + l.length ≤ Z.size → (l.zipIdx j).foldl (fun (cs : Array Value) (x : Value × Nat) => cs.setIfInBounds (k * 32 + x.2) x.1) Z = (Z.toList.take (k * 32 + j) ++ l ++ Z.toList.drop (k * 32 + j + l.length)).toArray := by
      intro l
      induction l with
      | nil => intro j Z _; simp
      | cons y l ih =>
        intro j Z hz
        simp only [List.length_cons] at hz
        rw [List.zipIdx_cons, List.foldl_cons, ih (j + 1) _ (by simp; omega)]
        apply Array.ext'
        simp only [Array.toList_setIfInBounds, List.length_cons]
        rw [show k * 32 + (j + 1) + l.length = k * 32 + j + (l.length + 1) by omega, show k * 32 + (j + 1) = k * 32 + j + 1 from rfl, List.take_add_one, List.take_set_of_le (Nat.le_refl _), List.getElem?_set_self (by simp; omega), List.drop_set_of_lt (by omega)]
        simp
    have hc : ((Value.agg (hbs x)).cells.zipIdx.foldl (fun cs (y : Value × Nat) => cs.setIfInBounds (k * 32 + y.2) y.1) Z) = (Z.toList.take (k * 32) ++ (hbs x).toList ++ Z.toList.drop (k * 32 + 32)).toArray := by
      show (hbs x).zipIdx.foldl _ Z = _
      rw [← Array.foldl_toList, Array.toList_zipIdx, hf (hbs x).toList 0 Z (by simp [hbs_size, hx]; omega)]
      simp [hbs_size, hx]
    rw [hc, fill_rows l (k + 1) _ (fun y hy => h32 y (by simp [hy])) (by simp [hbs_size, hx]; omega)]
    congr 1
    apply Array.ext'
    have hl : (Z.toList.take (k * 32)).length = k * 32 := by simp; omega
    have hb : (hbs x).toList.length = 32 := by simp [hbs_size, hx]
    rw [List.take_left' (by rw [List.length_append, hl, hb]; omega)]
    simp [hsc, hbs]
/-- A slice literal of hashes. -/
theorem wpl_rows {w : World} {ops : Array Oper} {rest : List Oper} {o : Oper} {a : Act} {Q : Exit → Act → World → Prop} (hwant : Region.wanted o (yielded ops a.tmps) = true) (n : Nat) (parts : Array (Nat × Operand)) (ho : o.op = .buildSlice 25 n parts)
    (l : List (List UInt8)) (hl : ∀ h ∈ l, h.length = 32) (hn : l.length = n) (hn0 : 0 < n) (hn2 : n ≤ 1000) (hp0 : parts.toList.map (fun p => (p.1, a.eval p.2)) = l.zipIdx.map fun x => (x.2, Value.agg (hbs x.1)))
    (h : wpList Tryd.prog ops Q rest (a.put o.dst (.slice (some ⟨w.heap.size, 0, none⟩) n n)) (w.alloc (.cells (hsc l).toArray 24))) : wpList Tryd.prog ops Q (o :: rest) a w := by
  obtain ⟨i0, hi, hz0, hz1, hz2⟩ := info_parts infoHs
  have hp : (parts.map fun p => (p.1, a.eval p.2)).toList = l.zipIdx.map fun x => (x.2, Value.agg (hbs x.1)) := by rw [Array.toList_map]; exact hp0
  refine wpList_step fun K hK => ?_
  rw [if_pos hwant]
  have hf := fill_rows l 0 ((Array.range (n * 32)).map (fun x => z32[x % z32.size]!)) hl (by simp [hn])
  rw [Nat.zero_mul, List.take_zero, List.nil_append] at hf
  have hr : (Instr.buildSlice 25 n (parts.map fun p => (p.1, a.eval p.2))).run Tryd.prog w = .ok (.slice (some ⟨w.heap.size, 0, none⟩) n n) (w.alloc (.cells (hsc l).toArray 24)) := by
    have h1 : ¬ n * 32 > 16777216 := by omega
    have h2 : ¬ n * 32 = 0 := by omega
    have h3 : ¬ n = 0 := by omega
    simp only [Instr.buildSlice, Sem.run_bind, run_underlying Tryd.underlying25, Tryd.sizeOf24 w, Result.andThen_ok, Sem.run_pure, hp]
    simp [zeroValue, hi, hz0, typeInfo, Value.cells, newRow, h1, h2, h3]
    simp only [hf]
    rfl
  unfold Oper.wp execOp
  simp only [ho, Sem.run_bind, Sem.run_pure, Result.andThen_ok, hr]
  exact hK _ _ h

theorem spl3v : spl 3 = 2 := spl_of (k := 1) (by decide) (by decide)
theorem spl2v : spl 2 = 1 := spl_of (k := 0) (by decide) (by decide)
theorem sds03 : sds 0 3 = [false, false] := by rw [sds_left (by decide) (by rw [spl3v]; decide), spl3v, sds_left (by decide) (by rw [spl2v]; decide), spl2v, sds_one 0 1 (by decide)]; rfl
theorem sds23 : sds 2 3 = [true] := by rw [sds_right (by decide) (by rw [spl3v]; decide), spl3v, sds_one 0 1 (by decide)]; rfl
theorem gds23 : gds 2 3 = [false] := by rw [gds_left (by decide) (by decide) (by rw [spl3v]; decide), spl3v, gds_same]; rfl
theorem rt03 (a b c : List UInt8) : rtA 0 3 a [b, c] = (ndp (ndp a b) c, 0) := by rw [rtA_yes (by omega) (by rw [sds03]; rfl), sds03]; rfl
theorem rt23 (b c : List UInt8) : rtA 2 3 c [b] = (ndp b c, 0) := by rw [rtA_yes (by omega) (by rw [sds23]; rfl), sds23]; rfl
theorem nbc_ne : ndp (h1 2) (h1 3) ≠ h1 1 := fun e => absurd (congrArg (fun l => l.getD 0 0) e) (by decide +kernel)
theorem ic23 : icA 2 3 (h1 3) [h1 2] (h1 1) = 10 := by unfold icA; rw [rt23]; rw [if_pos rfl, if_neg nbc_ne]
theorem cc23 (ab c : List UInt8) : ccA 2 3 ab (ndp ab c) [c] = 0 := by
  rw [ccA_whole (by omega) (by rw [gds23]; simp)]
  unfold ccr
  rw [gds23]
  exact if_pos ⟨rfl, rfl⟩
theorem cc03 (bf af : List UInt8) : ccA 0 3 bf af [] = 5 := ccA_range (.inr (.inl rfl))
theorem eqE_nil (w : World) : (binOp .eql 31 .nilIface .nilIface).run Tryd.prog w = .ok (.bool true) w := by kernel_rfl
theorem hss_builtV {w : World} {g : Nat} {X : List UInt8} {t : TypeId} (h : w.heap[g]? = some (.cells (hbs X) t)) : Hss w (.slice (some ⟨g, 0, none⟩) 1 1) [X] :=
  ⟨_, _, rfl, fun k x hk => by
    have : k = 0 ∧ x = X := by
      cases k with
      | zero => simp at hk; exact ⟨rfl, hk.symm⟩
      | succ k => simp at hk
    obtain ⟨rfl, rfl⟩ := this
    exact ⟨g, 0, rfl, fun j _ => by rw [Nat.zero_mul, Nat.add_zero, Nat.zero_add]; exact cell_of h j⟩⟩
theorem hss_built2 {w : World} {g : Nat} {X Y : List UInt8} {t : TypeId} (hX : X.length = 32) (hY : Y.length = 32) (h : w.heap[g]? = some (.cells (hsc [X, Y]).toArray t)) : Hss w (.slice (some ⟨g, 0, none⟩) 2 2) [X, Y] :=
  ⟨_, _, rfl, fun k x hk => ⟨g, 0, rfl, fun j hj => by
    have h32 : ∀ z ∈ [X, Y], z.length = 32 := fun z hz => by simp at hz; rcases hz with rfl | rfl <;> assumption
    rw [Nat.zero_add, cell_of h]
    have := hsc_get [X, Y] h32 k x hk j hj
    have h5 : (bc x)[j]? = (hbs x)[j]? := by simp [hbs]
    rw [← h5, ← this]
    simp⟩⟩
theorem step_buildV {P : Program} {ops : Array Oper} {o : Oper} {a : Act} {w : World} {K : Act → World → Prop} {Q : Exit → Act → World → Prop} {E : Prop} (hP : P = Tryd.prog) (hwant : Region.wanted o (yielded ops a.tmps) = true) (x : Operand) (ho : o.op = .buildSlice 25 1 #[(0, x)]) (V : Array Value) (hx : a.eval x = .agg V) (hV : V.size = 32)
    (h : K (a.put o.dst (.slice (some ⟨w.heap.size, 0, none⟩) 1 1)) (w.alloc (.cells V 24))) : if Region.wanted o (yielded ops a.tmps) = true then Oper.wp P o a w K Q else E := by
  subst hP
  rw [if_pos hwant]
  unfold Oper.wp execOp
  simp only [ho, Sem.run_bind, Sem.run_pure, Result.andThen_ok, List.map_toArray, List.map_cons, List.map_nil, hx, build1 V hV]
  exact h
theorem yields_eqS {ops : Array Oper} {S : World → Prop} {o : Oper} {a : Act} (hgd : Region.wanted o (yielded ops a.tmps) = true) (x y : Operand) (ho : o.op = .binOp .eql 24 x y 24) (A : List UInt8) (hA : A.length = 32) (hx : a.eval x = .agg (hbs A)) (hy : a.eval y = .agg (hbs A)) : YieldsIf Tryd.prog ops S o (.bool true) a := by
  refine .inl ⟨hgd, fun w hw => ?_⟩
  unfold execOp
  simp only [ho, hx, hy, run_eqGuard, hbs_eql A hA w, Sem.run_bind, Sem.run_pure, Result.andThen_ok]
set_option maxRecDepth 100000 in
set_option maxHeartbeats 8000000 in
theorem alive18_any (w : World) (hL : Laid w) {B : Nat} {a : Nat → Addr} (hS : Sent B w a) : Calls Tryd.prog 16 #[] w fun e w' => e = .returned (.bool true) ∧ Nw w w' := by
  obtain ⟨la, hla⟩ : ∃ x, x = h1 1 := ⟨_, rfl⟩
  obtain ⟨lb, hlb⟩ : ∃ x, x = h1 2 := ⟨_, rfl⟩
  obtain ⟨lc, hlc⟩ : ∃ x, x = h1 3 := ⟨_, rfl⟩
  have HBla : Hid (∀ W : World, (Instr.build 24 #[(0, .int .u8 1)]).run Tryd.prog W = .ok (.agg (hbs la)) W) := fun W => by rw [hla]; exact build_h1 1 1 rfl W
  have HBlb : Hid (∀ W : World, (Instr.build 24 #[(0, .int .u8 2)]).run Tryd.prog W = .ok (.agg (hbs lb)) W) := fun W => by rw [hlb]; exact build_h1 2 2 rfl W
  have HBlc : Hid (∀ W : World, (Instr.build 24 #[(0, .int .u8 3)]).run Tryd.prog W = .ok (.agg (hbs lc)) W) := fun W => by rw [hlc]; exact build_h1 3 3 rfl W
  have la32 : la.length = 32 := by rw [hla]; exact h1_len _
  have lb32 : lb.length = 32 := by rw [hlb]; exact h1_len _
  have lc32 : lc.length = 32 := by rw [hlc]; exact h1_len _
  have hic : icA 2 3 lc [lb] la = 10 := by rw [hla, hlb, hlc]; exact ic23
  clear hla hlb hlc
  obtain ⟨ab, hab⟩ : ∃ x, x = ndp la lb := ⟨_, rfl⟩
  obtain ⟨rt, hrt⟩ : ∃ x, x = ndp ab lc := ⟨_, rfl⟩
  have ab32 : ab.length = 32 := by rw [hab]; exact ndp_len _ _
  have rt32 : rt.length = 32 := by rw [hrt]; exact ndp_len _ _
  have QN1 : Hid (∀ V, Nw w V → Calls Tryd.prog 25 #[.agg (hbs la), .agg (hbs lb)] V fun e w' => e = .returned (.agg (hbs ab)) ∧ Nw V w') := fun V hV => by rw [hab]; exact node_any la lb la32 lb32 V (hL.nw hV)
  have QN2 : Hid (∀ V, Nw w V → Calls Tryd.prog 25 #[.agg (hbs ab), .agg (hbs lc)] V fun e w' => e = .returned (.agg (hbs rt)) ∧ Nw V w') := fun V hV => by rw [hrt]; exact node_any ab lc ab32 lc32 V (hL.nw hV)
  have h2' : ∀ z ∈ [lb, lc], z.length = 32 := fun z hz => by simp at hz; rcases hz with rfl | rfl <;> assumption
  have HX2 := hid_of h2'
  have QR : Hid (∀ V g, Nw w V → V.heap[g]? = some (.cells (hsc [lb, lc]).toArray 24) → Calls Tryd.prog 10 #[.int .u64 0, .int .u64 3, .agg (hbs la), .slice (some ⟨g, 0, none⟩) 2 2] V fun e w' => e = .returned (.tuple #[.agg (hbs rt), .nilIface]) ∧ Nw V w') := fun V g hV hg => by
    have := root_any 0 3 (by decide) (by decide) la la32 [lb, lc] h2' (by simp) (some ⟨g, 0, none⟩) 2 V (hss_built2 lb32 lc32 hg) (hL.nw hV) (hS.nw hV)
    rw [rt03, ← hab, ← hrt] at this
    exact this
  have QI : Hid (∀ V g, Nw w V → V.heap[g]? = some (.cells (hbs lb) 24) → Calls Tryd.prog 14 #[.int .u64 2, .int .u64 3, .agg (hbs lc), .slice (some ⟨g, 0, none⟩) 1 1, .agg (hbs la)] V fun e w' => e = .returned (sen (a 9)) ∧ Nw V w') := fun V g hV hg => by
    have := incl_any 2 3 (by decide) (by decide) lc lc32 [lb] (fun z hz => by simp at hz; rw [hz]; exact lb32) (by simp) (some ⟨g, 0, none⟩) 1 la la32 V (hss_builtV hg) (hL.nw hV) (hS.nw hV)
    rw [hic] at this
    exact this
  have QC : Hid (∀ V g, Nw w V → V.heap[g]? = some (.cells (hbs lc) 24) → Calls Tryd.prog 17 #[.int .u64 2, .int .u64 3, .agg (hbs ab), .agg (hbs rt), .slice (some ⟨g, 0, none⟩) 1 1] V fun e w' => e = .returned .nilIface ∧ Nw V w') := fun V g hV hg => by
    have := cons_any 2 3 (by decide) (by decide) ab rt ab32 rt32 [lc] (fun z hz => by simp at hz; rw [hz]; exact lc32) (by simp) (some ⟨g, 0, none⟩) 1 (by simp) V (hss_builtV hg) (hL.nw hV) (hS.nw hV)
    rw [hrt, cc23, ← hrt] at this
    exact this
  have QC0 : Hid (∀ V, Nw w V → Calls Tryd.prog 17 #[.int .u64 0, .int .u64 3, .agg (hbs ab), .agg (hbs rt), .slice none 0 0] V fun e w' => e = .returned (sen (a 4)) ∧ Nw V w') := fun V hV => cons_range 0 3 (by decide) (by decide) (.inr (.inl rfl)) ab rt _ V (hS.nw hV)
  have QS10 : Hid (∀ V, Nw w V → Calls Tryd.prog 21 #[sen (a 9), .int .i64 10] V fun e w' => e = .returned (.bool true) ∧ Nw V w') := fun V hV => is_erv (hS.nw hV) 10 (.inr (.inr rfl)) (by decide)
  have QS5 : Hid (∀ V, Nw w V → Calls Tryd.prog 21 #[sen (a 4), .int .i64 5] V fun e w' => e = .returned (.bool true) ∧ Nw V w') := fun V hV => is_erv (hS.nw hV) 5 (.inr (.inl rfl)) (by decide)
  have hsla : (hbs la).size = 32 := by rw [hbs_size, la32]
  have hslb : (hbs lb).size = 32 := by rw [hbs_size, lb32]
  have hslc : (hbs lc).size = 32 := by rw [hbs_size, lc32]
  have hsab : (hbs ab).size = 32 := by rw [hbs_size, ab32]
  have hsrt : (hbs rt).size = 32 := by rw [hbs_size, rt32]
  have R32 := hid_of rt32
  clear hL hS hab hrt la32 lb32 lc32 ab32 rt32 hic h2'
  go_enter Tryd.func16, Tryd.ntmps16
  go_upto_region 2 with first
    | refine wpl_build rfl 24 _ rfl (.int .u8 1) rfl (hbs la) (HBla.out) ?_
    | (refine wp_store_agg rfl (.tmp 1) (.tmp 7) 24 32 rfl Tryd.sizeOf24 w.heap.size 0 rfl z32 24 (by rw [← z32_h]; exact heap_new _ _) (hbs la) rfl hsla (hbs_one _) (by decide) (hbs la) (by rw [dropA z32_size]; simp) ?_; intro v1 j1 f1 y1; clear y1)
  have n1 : Nw w v1 := (nwa w _).trans f1 (fun k hk q => by omega)
  obtain ⟨b1, hb1⟩ : ∃ q, q = w.heap.size := ⟨_, rfl⟩
  rw [← hb1] at j1 ⊢
  have J1 : Hid (v1.heap[b1]? = some (.cells (hbs la) 24)) := j1
  have M1 : Hid (Nw w v1) := n1
  clear hb1 j1 f1 n1
  go_upto_region 3 with first
    | refine wpl_build rfl 24 _ rfl (.int .u8 2) rfl (hbs lb) (HBlb.out) ?_
    | (refine wp_store_agg rfl (.tmp 2) (.tmp 8) 24 32 rfl Tryd.sizeOf24 v1.heap.size 0 rfl z32 24 (by rw [← z32_h]; exact heap_new _ _) (hbs lb) rfl hslb (hbs_one _) (by decide) (hbs lb) (by rw [dropA z32_size]; simp) ?_; intro v2 j2 f2 y2; clear y2)
  have n2 : Nw v1 v2 := (nwa v1 _).trans f2 (fun k hk q => by omega)
  obtain ⟨b2, hb2⟩ : ∃ q, q = v1.heap.size := ⟨_, rfl⟩
  rw [← hb2] at j2 ⊢
  have J2 : Hid (v2.heap[b2]? = some (.cells (hbs lb) 24)) := j2
  have M2 : Hid (Nw v1 v2) := n2
  clear hb2 j2 f2 n2
  go_upto_region 4 with first
    | refine wpl_build rfl 24 _ rfl (.int .u8 3) rfl (hbs lc) (HBlc.out) ?_
    | (refine wp_store_agg rfl (.tmp 3) (.tmp 9) 24 32 rfl Tryd.sizeOf24 v2.heap.size 0 rfl z32 24 (by rw [← z32_h]; exact heap_new _ _) (hbs lc) rfl hslc (hbs_one _) (by decide) (hbs lc) (by rw [dropA z32_size]; simp) ?_; intro v3 j3 f3 y3; clear y3)
  have n3 : Nw v2 v3 := (nwa v2 _).trans f3 (fun k hk q => by omega)
  obtain ⟨b3, hb3⟩ : ∃ q, q = v2.heap.size := ⟨_, rfl⟩
  rw [← hb3] at j3 ⊢
  have J3 : Hid (v3.heap[b3]? = some (.cells (hbs lc) 24)) := j3
  have M3 : Hid (Nw v2 v3) := n3
  clear hb3 j3 f3 n3
  have K1 : Hid (v3.heap[b1]? = some (.cells (hbs la) 24)) := ((M2.out.tr M3.out).block _ (heap_lt J1.out) (fun f => f)).trans J1.out
  have K2 : Hid (v3.heap[b2]? = some (.cells (hbs lb) 24)) := (M3.out.block _ (heap_lt J2.out) (fun f => f)).trans J2.out
  have MW3 : Hid (Nw w v3) := (M1.out.tr M2.out).tr M3.out
  go_wp2_with first
    | refine wple_load_at rfl (.tmp 1) 24 32 rfl Tryd.isAgg24 Tryd.sizeOf24 b1 0 rfl (hbs la) hsla (hash_cells K1.out) ?_
    | refine wple_load_at rfl (.tmp 2) 24 32 rfl Tryd.isAgg24 Tryd.sizeOf24 b2 0 rfl (hbs lb) hslb (hash_cells K2.out) ?_
  refine (QN1.out _ MW3.out).mono ?_
  rintro e v4 ⟨rfl, n4⟩
  go_upto_region 5 with (refine wp_store_agg rfl (.tmp 4) (.tmp 12) 24 32 rfl Tryd.sizeOf24 v4.heap.size 0 rfl z32 24 (by rw [← z32_h]; exact heap_new _ _) (hbs ab) rfl hsab (hbs_one _) (by decide) (hbs ab) (by rw [dropA z32_size]; simp) ?_; intro v5 j5 f5 y5; clear y5)
  have n5 : Nw v3 v5 := n4.tr ((nwa v4 _).trans f5 (fun k hk q => by omega))
  obtain ⟨b4, hb4⟩ : ∃ q, q = v4.heap.size := ⟨_, rfl⟩
  rw [← hb4] at j5 ⊢
  have J4 : Hid (v5.heap[b4]? = some (.cells (hbs ab) 24)) := j5
  have P1 : Hid (v5.heap[b1]? = some (.cells (hbs la) 24)) := (n5.block _ (heap_lt K1.out) (fun f => f)).trans K1.out
  have P2 : Hid (v5.heap[b2]? = some (.cells (hbs lb) 24)) := (n5.block _ (heap_lt K2.out) (fun f => f)).trans K2.out
  have P3 : Hid (v5.heap[b3]? = some (.cells (hbs lc) 24)) := (n5.block _ (heap_lt J3.out) (fun f => f)).trans J3.out
  have MW5 : Hid (Nw w v5) := MW3.out.tr n5
  clear hb4 j5 f5 n4 n5 K1 K2 J1 J2 J3 M1 M2 M3 MW3
  go_wp2_with first
    | refine wple_load_at rfl (.tmp 1) 24 32 rfl Tryd.isAgg24 Tryd.sizeOf24 b1 0 rfl (hbs la) hsla (hash_cells P1.out) ?_
    | refine wple_load_at rfl (.tmp 2) 24 32 rfl Tryd.isAgg24 Tryd.sizeOf24 b2 0 rfl (hbs lb) hslb (hash_cells P2.out) ?_
    | refine wple_load_at rfl (.tmp 3) 24 32 rfl Tryd.isAgg24 Tryd.sizeOf24 b3 0 rfl (hbs lc) hslc (hash_cells P3.out) ?_
    | (refine wpl_rows rfl 2 _ rfl [lb, lc] HX2.out rfl (by decide) (by decide) rfl ?_)
  refine (QR.out _ _ (MW5.out.alloc _) (heap_new _ _)).mono ?_
  rintro e v6 ⟨rfl, n6⟩
  have n6' : Nw v5 v6 := (nwa v5 _).tr n6
  go_upto_region 6 with (refine wp_store_agg rfl (.tmp 5) (.tmp 19) 24 32 rfl Tryd.sizeOf24 v6.heap.size 0 rfl z32 24 (by rw [← z32_h]; exact heap_new _ _) (hbs rt) rfl hsrt (hbs_one _) (by decide) (hbs rt) (by rw [dropA z32_size]; simp) ?_; intro w5 j7 f7 y7; clear y7)
  have n7 : Nw v5 w5 := n6'.tr ((nwa v6 _).trans f7 (fun k hk q => by omega))
  obtain ⟨b5, hb5⟩ : ∃ q, q = v6.heap.size := ⟨_, rfl⟩
  rw [← hb5] at j7 ⊢
  have N5 : Hid (Nw w w5) := MW5.out.tr n7
  have HLla : Hid (∀ V, Nw w5 V → ∀ j, j < 32 → V.cell? ⟨b1, 0 + j, none⟩ = (hbs la)[j]?) := fun V hV => hash_cells (((n7.tr hV).block _ (heap_lt P1.out) (fun f => f)).trans P1.out)
  have HLlb : Hid (∀ V, Nw w5 V → ∀ j, j < 32 → V.cell? ⟨b2, 0 + j, none⟩ = (hbs lb)[j]?) := fun V hV => hash_cells (((n7.tr hV).block _ (heap_lt P2.out) (fun f => f)).trans P2.out)
  have HLlc : Hid (∀ V, Nw w5 V → ∀ j, j < 32 → V.cell? ⟨b3, 0 + j, none⟩ = (hbs lc)[j]?) := fun V hV => hash_cells (((n7.tr hV).block _ (heap_lt P3.out) (fun f => f)).trans P3.out)
  have HLab : Hid (∀ V, Nw w5 V → ∀ j, j < 32 → V.cell? ⟨b4, 0 + j, none⟩ = (hbs ab)[j]?) := fun V hV => hash_cells (((n7.tr hV).block _ (heap_lt J4.out) (fun f => f)).trans J4.out)
  have HLrt : Hid (∀ V, Nw w5 V → ∀ j, j < 32 → V.cell? ⟨b5, 0 + j, none⟩ = (hbs rt)[j]?) := fun V hV => hash_cells ((hV.block _ (heap_lt j7) (fun f => f)).trans j7)
  clear hb5 j7 f7 n6 n6' n7 P1 P2 P3 J4
  have nb : Nw w5 w5.drew := (Fr.refl _ _).drew
  refine wp_region_held_drew (S := (fun V => Nw w5 V)) (by kernel_rfl) (nb) ?_
  intro hS0
  refine wpAnyH_take (i := 0) (oi := ({ dst := some 21, op := Op.move (Operand.tmp 6), type := 31, pos := "law.go:19", after := #[], guard := none } : Oper)) (v := .nilIface) rfl (by kernel_rfl) (by kernel_rfl) (by kernel_rfl) (fun _ _ _ h => h) (Or.inl ⟨by rfl, by intro w hw; go_simp⟩) hS0 ?_
  try simp only [Act.put, List.setIfInBounds_toArray, List.set_cons_zero, List.set_cons_succ]
  refine wpAnyH_take (i := 1) (oi := ({ dst := some 22, op := Op.binOp BinOp.eql 31 (Operand.tmp 21) (Operand.const Value.nilIface) 31, type := 4, pos := "law.go:19", after := #[{ on := 0, ground := Ground.data }], guard := none } : Oper)) (v := .bool true) rfl (by kernel_rfl) (by kernel_rfl) (by kernel_rfl) (fun _ _ _ h => h) (Or.inl ⟨by kernel_rfl, by intro w hw; have hx := eqE_nil w; go_simp⟩) hS0 ?_
  try simp only [Act.put, List.setIfInBounds_toArray, List.set_cons_zero, List.set_cons_succ]
  refine wpAnyH_take (i := 2) (oi := ({ dst := some 23, op := Op.move (Operand.tmp 22), type := 4, pos := "law.go:19", after := #[{ on := 1, ground := Ground.data }], guard := none } : Oper)) (v := .bool true) rfl (by kernel_rfl) (by kernel_rfl) (by kernel_rfl) (fun _ _ _ h => h) (Or.inl ⟨by rfl, by intro w hw; go_simp⟩) hS0 ?_
  try simp only [Act.put, List.setIfInBounds_toArray, List.set_cons_zero, List.set_cons_succ]
  refine wpAnyH_take (i := 3) (oi := ({ dst := some 24, op := Op.load 24 (Operand.tmp 5), type := 24, pos := "law.go:19", after := #[{ on := 2, ground := Ground.guard }], guard := some (2, true) } : Oper)) (v := .agg (hbs rt)) rfl (by kernel_rfl) (by kernel_rfl) (by kernel_rfl) (fun _ _ _ h => h) (yields_loadV (by kernel_rfl) (.tmp 5) 24 32 rfl Tryd.isAgg24 Tryd.sizeOf24 b5 0 rfl (hbs rt) hsrt (fun w hw => (HLrt.out w hw))) hS0 ?_
  try simp only [Act.put, List.setIfInBounds_toArray, List.set_cons_zero, List.set_cons_succ]
  refine wpAnyH_take (i := 4) (oi := ({ dst := some 25, op := Op.load 24 (Operand.tmp 4), type := 24, pos := "law.go:19", after := #[{ on := 2, ground := Ground.guard }], guard := some (2, true) } : Oper)) (v := .agg (hbs ab)) rfl (by kernel_rfl) (by kernel_rfl) (by kernel_rfl) (fun _ _ _ h => h) (yields_loadV (by kernel_rfl) (.tmp 4) 24 32 rfl Tryd.isAgg24 Tryd.sizeOf24 b4 0 rfl (hbs ab) hsab (fun w hw => (HLab.out w hw))) hS0 ?_
  try simp only [Act.put, List.setIfInBounds_toArray, List.set_cons_zero, List.set_cons_succ]
  refine wpAnyH_take (i := 5) (oi := ({ dst := some 26, op := Op.load 24 (Operand.tmp 3), type := 24, pos := "law.go:19", after := #[{ on := 2, ground := Ground.guard }], guard := some (2, true) } : Oper)) (v := .agg (hbs lc)) rfl (by kernel_rfl) (by kernel_rfl) (by kernel_rfl) (fun _ _ _ h => h) (yields_loadV (by kernel_rfl) (.tmp 3) 24 32 rfl Tryd.isAgg24 Tryd.sizeOf24 b3 0 rfl (hbs lc) hslc (fun w hw => (HLlc.out w hw))) hS0 ?_
  try simp only [Act.put, List.setIfInBounds_toArray, List.set_cons_zero, List.set_cons_succ]
  refine wpAnyH_ready (rs := [6]) (by kernel_rfl) (by simp) ?_
  refine (AllReadyH.cons (o := ({ dst := some 27, op := Op.call { callee := Callee.value (Operand.func 25), args := #[Operand.tmp 25, Operand.tmp 26], argTypes := #[24, 24] }, type := 24, pos := "law.go:19", after := #[{ on := 4, ground := Ground.data }, { on := 5, ground := Ground.data }, { on := 2, ground := Ground.chain }, { on := 2, ground := Ground.guard }], guard := some (2, true) } : Oper)) rfl (fun K' hK => ?_) AllReadyH.nil)
  go_simp
  go_wp2_with (go_at_call 25; refine (QN2.out _ (N5.out.tr nb)).mono ?_; rintro ex w101 ⟨rfl, nw101⟩)
  have nb := nb.tr nw101
  refine hK.out _ _ (nb) (fun hS0 => ?_)
  try simp only [Act.put, List.setIfInBounds_toArray, List.set_cons_zero, List.set_cons_succ]
  refine wpAnyH_take (i := 7) (oi := ({ dst := some 28, op := Op.binOp BinOp.eql 24 (Operand.tmp 24) (Operand.tmp 27) 24, type := 4, pos := "law.go:19", after := #[{ on := 3, ground := Ground.data }, { on := 6, ground := Ground.data }, { on := 2, ground := Ground.guard }], guard := some (2, true) } : Oper)) (v := .bool true) rfl (by kernel_rfl) (by kernel_rfl) (by kernel_rfl) (fun _ _ _ h => h) (yields_eqS (by kernel_rfl) (.tmp 24) (.tmp 27) rfl rt R32.out rfl rfl) hS0 ?_
  try simp only [Act.put, List.setIfInBounds_toArray, List.set_cons_zero, List.set_cons_succ]
  refine wpAnyH_take (i := 8) (oi := ({ dst := some 29, op := Op.pick (Operand.tmp 23) (Operand.tmp 28) (Operand.const (Value.bool false)), type := 4, pos := "law.go:19", after := #[{ on := 2, ground := Ground.data }, { on := 7, ground := Ground.data }], guard := none } : Oper)) (v := .bool true) rfl (by kernel_rfl) (by kernel_rfl) (by kernel_rfl) (fun _ _ _ h => h) (Or.inl ⟨by rfl, by intro w hw; go_simp⟩) hS0 ?_
  try simp only [Act.put, List.setIfInBounds_toArray, List.set_cons_zero, List.set_cons_succ]
  refine wpAnyH_take (i := 9) (oi := ({ dst := some 30, op := Op.move (Operand.tmp 29), type := 4, pos := "law.go:19", after := #[{ on := 8, ground := Ground.data }, { on := 6, ground := Ground.chain }], guard := none } : Oper)) (v := .bool true) rfl (by kernel_rfl) (by kernel_rfl) (by kernel_rfl) (fun _ _ _ h => h) (Or.inl ⟨by rfl, by intro w hw; go_simp⟩) hS0 ?_
  try simp only [Act.put, List.setIfInBounds_toArray, List.set_cons_zero, List.set_cons_succ]
  refine wpAnyH_take (i := 10) (oi := ({ dst := some 31, op := Op.load 24 (Operand.tmp 3), type := 24, pos := "law.go:19", after := #[{ on := 9, ground := Ground.guard }], guard := some (9, true) } : Oper)) (v := .agg (hbs lc)) rfl (by kernel_rfl) (by kernel_rfl) (by kernel_rfl) (fun _ _ _ h => h) (yields_loadV (by kernel_rfl) (.tmp 3) 24 32 rfl Tryd.isAgg24 Tryd.sizeOf24 b3 0 rfl (hbs lc) hslc (fun w hw => (HLlc.out w hw))) hS0 ?_
  try simp only [Act.put, List.setIfInBounds_toArray, List.set_cons_zero, List.set_cons_succ]
  refine wpAnyH_take (i := 11) (oi := ({ dst := some 32, op := Op.load 24 (Operand.tmp 2), type := 24, pos := "law.go:19", after := #[{ on := 9, ground := Ground.guard }], guard := some (9, true) } : Oper)) (v := .agg (hbs lb)) rfl (by kernel_rfl) (by kernel_rfl) (by kernel_rfl) (fun _ _ _ h => h) (yields_loadV (by kernel_rfl) (.tmp 2) 24 32 rfl Tryd.isAgg24 Tryd.sizeOf24 b2 0 rfl (hbs lb) hslb (fun w hw => (HLlb.out w hw))) hS0 ?_
  try simp only [Act.put, List.setIfInBounds_toArray, List.set_cons_zero, List.set_cons_succ]
  refine wpAnyH_take (i := 13) (oi := ({ dst := some 34, op := Op.load 24 (Operand.tmp 1), type := 24, pos := "law.go:19", after := #[{ on := 9, ground := Ground.guard }], guard := some (9, true) } : Oper)) (v := .agg (hbs la)) rfl (by kernel_rfl) (by kernel_rfl) (by kernel_rfl) (fun _ _ _ h => h) (yields_loadV (by kernel_rfl) (.tmp 1) 24 32 rfl Tryd.isAgg24 Tryd.sizeOf24 b1 0 rfl (hbs la) hsla (fun w hw => (HLla.out w hw))) hS0 ?_
  try simp only [Act.put, List.setIfInBounds_toArray, List.set_cons_zero, List.set_cons_succ]
  refine wpAnyH_ready (rs := [12]) (by kernel_rfl) (by simp) ?_
  refine (AllReadyH.cons (o := ({ dst := some 33, op := Op.buildSlice 25 1 #[(0, Operand.tmp 32)], type := 25, pos := "law.go:19", after := #[{ on := 11, ground := Ground.data }, { on := 9, ground := Ground.guard }], guard := some (9, true) } : Oper)) rfl (fun K' hK => ?_) AllReadyH.nil)
  refine step_buildV rfl (by kernel_rfl) (.tmp 32) rfl (hbs lb) (by kernel_rfl) hslb ?_
  have nb : Nw w5 (w101.alloc (.cells (hbs lb) 24)) := nb.alloc _
  have hB : (w101.alloc (.cells (hbs lb) 24)).heap[w101.heap.size]? = some (.cells (hbs lb) 24) := heap_new _ _
  refine hK.out _ _ (nb) (fun hS0 => ?_)
  try simp only [Act.put, List.setIfInBounds_toArray, List.set_cons_zero, List.set_cons_succ]
  refine wpAnyH_ready (rs := [14]) (by kernel_rfl) (by simp) ?_
  refine (AllReadyH.cons (o := ({ dst := some 35, op := Op.call { callee := Callee.value (Operand.func 14), args := #[Operand.const (Value.int IntKind.u64 2), Operand.const (Value.int IntKind.u64 3), Operand.tmp 31, Operand.tmp 33, Operand.tmp 34], argTypes := #[22, 22, 24, 25, 24] }, type := 31, pos := "law.go:19", after := #[{ on := 10, ground := Ground.data }, { on := 12, ground := Ground.data }, { on := 13, ground := Ground.data }, { on := 9, ground := Ground.chain }, { on := 9, ground := Ground.guard }], guard := some (9, true) } : Oper)) rfl (fun K' hK => ?_) AllReadyH.nil)
  go_simp
  go_wp2_with (go_at_call 14; refine (QI.out _ _ (N5.out.tr nb) hB).mono ?_; rintro ex w102 ⟨rfl, nw102⟩)
  have nb := nb.tr nw102
  refine hK.out _ _ (nb) (fun hS0 => ?_)
  try simp only [Act.put, List.setIfInBounds_toArray, List.set_cons_zero, List.set_cons_succ]
  refine wpAnyH_ready (rs := [15]) (by kernel_rfl) (by simp) ?_
  refine (AllReadyH.cons (o := ({ dst := some 36, op := Op.call { callee := Callee.value (Operand.func 21), args := #[Operand.tmp 35, Operand.const (Value.int IntKind.i64 10)], argTypes := #[31, 3] }, type := 4, pos := "law.go:19", after := #[{ on := 14, ground := Ground.data }, { on := 14, ground := Ground.chain }, { on := 9, ground := Ground.guard }], guard := some (9, true) } : Oper)) rfl (fun K' hK => ?_) AllReadyH.nil)
  go_simp
  go_wp2_with (go_at_call 21; refine (QS10.out _ (N5.out.tr nb)).mono ?_; rintro ex w103 ⟨rfl, nw103⟩)
  have nb := nb.tr nw103
  refine hK.out _ _ (nb) (fun hS0 => ?_)
  try simp only [Act.put, List.setIfInBounds_toArray, List.set_cons_zero, List.set_cons_succ]
  refine wpAnyH_take (i := 16) (oi := ({ dst := some 37, op := Op.pick (Operand.tmp 30) (Operand.tmp 36) (Operand.const (Value.bool false)), type := 4, pos := "law.go:19", after := #[{ on := 9, ground := Ground.data }, { on := 15, ground := Ground.data }], guard := none } : Oper)) (v := .bool true) rfl (by kernel_rfl) (by kernel_rfl) (by kernel_rfl) (fun _ _ _ h => h) (Or.inl ⟨by rfl, by intro w hw; go_simp⟩) hS0 ?_
  try simp only [Act.put, List.setIfInBounds_toArray, List.set_cons_zero, List.set_cons_succ]
  refine wpAnyH_take (i := 17) (oi := ({ dst := some 38, op := Op.move (Operand.tmp 37), type := 4, pos := "law.go:19", after := #[{ on := 16, ground := Ground.data }, { on := 15, ground := Ground.chain }], guard := none } : Oper)) (v := .bool true) rfl (by kernel_rfl) (by kernel_rfl) (by kernel_rfl) (fun _ _ _ h => h) (Or.inl ⟨by rfl, by intro w hw; go_simp⟩) hS0 ?_
  try simp only [Act.put, List.setIfInBounds_toArray, List.set_cons_zero, List.set_cons_succ]
  refine wpAnyH_take (i := 18) (oi := ({ dst := some 39, op := Op.load 24 (Operand.tmp 4), type := 24, pos := "law.go:19", after := #[{ on := 17, ground := Ground.guard }], guard := some (17, true) } : Oper)) (v := .agg (hbs ab)) rfl (by kernel_rfl) (by kernel_rfl) (by kernel_rfl) (fun _ _ _ h => h) (yields_loadV (by kernel_rfl) (.tmp 4) 24 32 rfl Tryd.isAgg24 Tryd.sizeOf24 b4 0 rfl (hbs ab) hsab (fun w hw => (HLab.out w hw))) hS0 ?_
  try simp only [Act.put, List.setIfInBounds_toArray, List.set_cons_zero, List.set_cons_succ]
  refine wpAnyH_take (i := 19) (oi := ({ dst := some 40, op := Op.load 24 (Operand.tmp 5), type := 24, pos := "law.go:19", after := #[{ on := 17, ground := Ground.guard }], guard := some (17, true) } : Oper)) (v := .agg (hbs rt)) rfl (by kernel_rfl) (by kernel_rfl) (by kernel_rfl) (fun _ _ _ h => h) (yields_loadV (by kernel_rfl) (.tmp 5) 24 32 rfl Tryd.isAgg24 Tryd.sizeOf24 b5 0 rfl (hbs rt) hsrt (fun w hw => (HLrt.out w hw))) hS0 ?_
  try simp only [Act.put, List.setIfInBounds_toArray, List.set_cons_zero, List.set_cons_succ]
  refine wpAnyH_take (i := 20) (oi := ({ dst := some 41, op := Op.load 24 (Operand.tmp 3), type := 24, pos := "law.go:19", after := #[{ on := 17, ground := Ground.guard }], guard := some (17, true) } : Oper)) (v := .agg (hbs lc)) rfl (by kernel_rfl) (by kernel_rfl) (by kernel_rfl) (fun _ _ _ h => h) (yields_loadV (by kernel_rfl) (.tmp 3) 24 32 rfl Tryd.isAgg24 Tryd.sizeOf24 b3 0 rfl (hbs lc) hslc (fun w hw => (HLlc.out w hw))) hS0 ?_
  try simp only [Act.put, List.setIfInBounds_toArray, List.set_cons_zero, List.set_cons_succ]
  refine wpAnyH_ready (rs := [21]) (by kernel_rfl) (by simp) ?_
  refine (AllReadyH.cons (o := ({ dst := some 42, op := Op.buildSlice 25 1 #[(0, Operand.tmp 41)], type := 25, pos := "law.go:19", after := #[{ on := 20, ground := Ground.data }, { on := 17, ground := Ground.guard }], guard := some (17, true) } : Oper)) rfl (fun K' hK => ?_) AllReadyH.nil)
  refine step_buildV rfl (by kernel_rfl) (.tmp 41) rfl (hbs lc) (by kernel_rfl) hslc ?_
  have nb : Nw w5 (w103.alloc (.cells (hbs lc) 24)) := nb.alloc _
  have hB : (w103.alloc (.cells (hbs lc) 24)).heap[w103.heap.size]? = some (.cells (hbs lc) 24) := heap_new _ _
  refine hK.out _ _ (nb) (fun hS0 => ?_)
  try simp only [Act.put, List.setIfInBounds_toArray, List.set_cons_zero, List.set_cons_succ]
  refine wpAnyH_ready (rs := [22]) (by kernel_rfl) (by simp) ?_
  refine (AllReadyH.cons (o := ({ dst := some 43, op := Op.call { callee := Callee.value (Operand.func 17), args := #[Operand.const (Value.int IntKind.u64 2), Operand.const (Value.int IntKind.u64 3), Operand.tmp 39, Operand.tmp 40, Operand.tmp 42], argTypes := #[22, 22, 24, 24, 25] }, type := 31, pos := "law.go:19", after := #[{ on := 18, ground := Ground.data }, { on := 19, ground := Ground.data }, { on := 21, ground := Ground.data }, { on := 17, ground := Ground.chain }, { on := 17, ground := Ground.guard }], guard := some (17, true) } : Oper)) rfl (fun K' hK => ?_) AllReadyH.nil)
  go_simp
  go_wp2_with (go_at_call 17; refine (QC.out _ _ (N5.out.tr nb) hB).mono ?_; rintro ex w104 ⟨rfl, nw104⟩)
  have nb := nb.tr nw104
  refine hK.out _ _ (nb) (fun hS0 => ?_)
  try simp only [Act.put, List.setIfInBounds_toArray, List.set_cons_zero, List.set_cons_succ]
  refine wpAnyH_take (i := 23) (oi := ({ dst := some 44, op := Op.binOp BinOp.eql 31 (Operand.tmp 43) (Operand.const Value.nilIface) 31, type := 4, pos := "law.go:19", after := #[{ on := 22, ground := Ground.data }, { on := 17, ground := Ground.guard }], guard := some (17, true) } : Oper)) (v := .bool true) rfl (by kernel_rfl) (by kernel_rfl) (by kernel_rfl) (fun _ _ _ h => h) (Or.inl ⟨by kernel_rfl, by intro w hw; have hx := eqE_nil w; go_simp⟩) hS0 ?_
  try simp only [Act.put, List.setIfInBounds_toArray, List.set_cons_zero, List.set_cons_succ]
  refine wpAnyH_take (i := 24) (oi := ({ dst := some 45, op := Op.pick (Operand.tmp 38) (Operand.tmp 44) (Operand.const (Value.bool false)), type := 4, pos := "law.go:19", after := #[{ on := 17, ground := Ground.data }, { on := 23, ground := Ground.data }], guard := none } : Oper)) (v := .bool true) rfl (by kernel_rfl) (by kernel_rfl) (by kernel_rfl) (fun _ _ _ h => h) (Or.inl ⟨by rfl, by intro w hw; go_simp⟩) hS0 ?_
  try simp only [Act.put, List.setIfInBounds_toArray, List.set_cons_zero, List.set_cons_succ]
  refine wpAnyH_take (i := 25) (oi := ({ dst := some 46, op := Op.move (Operand.tmp 45), type := 4, pos := "law.go:19", after := #[{ on := 24, ground := Ground.data }, { on := 22, ground := Ground.chain }], guard := none } : Oper)) (v := .bool true) rfl (by kernel_rfl) (by kernel_rfl) (by kernel_rfl) (fun _ _ _ h => h) (Or.inl ⟨by rfl, by intro w hw; go_simp⟩) hS0 ?_
  try simp only [Act.put, List.setIfInBounds_toArray, List.set_cons_zero, List.set_cons_succ]
  refine wpAnyH_take (i := 26) (oi := ({ dst := some 47, op := Op.load 24 (Operand.tmp 4), type := 24, pos := "law.go:19", after := #[{ on := 25, ground := Ground.guard }], guard := some (25, true) } : Oper)) (v := .agg (hbs ab)) rfl (by kernel_rfl) (by kernel_rfl) (by kernel_rfl) (fun _ _ _ h => h) (yields_loadV (by kernel_rfl) (.tmp 4) 24 32 rfl Tryd.isAgg24 Tryd.sizeOf24 b4 0 rfl (hbs ab) hsab (fun w hw => (HLab.out w hw))) hS0 ?_
  try simp only [Act.put, List.setIfInBounds_toArray, List.set_cons_zero, List.set_cons_succ]
  refine wpAnyH_take (i := 27) (oi := ({ dst := some 48, op := Op.load 24 (Operand.tmp 5), type := 24, pos := "law.go:19", after := #[{ on := 25, ground := Ground.guard }], guard := some (25, true) } : Oper)) (v := .agg (hbs rt)) rfl (by kernel_rfl) (by kernel_rfl) (by kernel_rfl) (fun _ _ _ h => h) (yields_loadV (by kernel_rfl) (.tmp 5) 24 32 rfl Tryd.isAgg24 Tryd.sizeOf24 b5 0 rfl (hbs rt) hsrt (fun w hw => (HLrt.out w hw))) hS0 ?_
  try simp only [Act.put, List.setIfInBounds_toArray, List.set_cons_zero, List.set_cons_succ]
  refine wpAnyH_ready (rs := [28]) (by kernel_rfl) (by simp) ?_
  refine (AllReadyH.cons (o := ({ dst := some 49, op := Op.call { callee := Callee.value (Operand.func 17), args := #[Operand.const (Value.int IntKind.u64 0), Operand.const (Value.int IntKind.u64 3), Operand.tmp 47, Operand.tmp 48, Operand.const (Value.slice none 0 0)], argTypes := #[22, 22, 24, 24, 25] }, type := 31, pos := "law.go:19", after := #[{ on := 26, ground := Ground.data }, { on := 27, ground := Ground.data }, { on := 25, ground := Ground.chain }, { on := 25, ground := Ground.guard }], guard := some (25, true) } : Oper)) rfl (fun K' hK => ?_) AllReadyH.nil)
  go_simp
  go_wp2_with (go_at_call 17; refine (QC0.out _ (N5.out.tr nb)).mono ?_; rintro ex w105 ⟨rfl, nw105⟩)
  have nb := nb.tr nw105
  refine hK.out _ _ (nb) (fun hS0 => ?_)
  try simp only [Act.put, List.setIfInBounds_toArray, List.set_cons_zero, List.set_cons_succ]
  refine wpAnyH_ready (rs := [29]) (by kernel_rfl) (by simp) ?_
  refine (AllReadyH.cons (o := ({ dst := some 50, op := Op.call { callee := Callee.value (Operand.func 21), args := #[Operand.tmp 49, Operand.const (Value.int IntKind.i64 5)], argTypes := #[31, 3] }, type := 4, pos := "law.go:19", after := #[{ on := 28, ground := Ground.data }, { on := 28, ground := Ground.chain }, { on := 25, ground := Ground.guard }], guard := some (25, true) } : Oper)) rfl (fun K' hK => ?_) AllReadyH.nil)
  go_simp
  go_wp2_with (go_at_call 21; refine (QS5.out _ (N5.out.tr nb)).mono ?_; rintro ex w106 ⟨rfl, nw106⟩)
  have nb := nb.tr nw106
  refine hK.out _ _ (nb) (fun hS0 => ?_)
  try simp only [Act.put, List.setIfInBounds_toArray, List.set_cons_zero, List.set_cons_succ]
  refine wpAnyH_take (i := 30) (oi := ({ dst := some 51, op := Op.pick (Operand.tmp 46) (Operand.tmp 50) (Operand.const (Value.bool false)), type := 4, pos := "law.go:19", after := #[{ on := 25, ground := Ground.data }, { on := 29, ground := Ground.data }], guard := none } : Oper)) (v := .bool true) rfl (by kernel_rfl) (by kernel_rfl) (by kernel_rfl) (fun _ _ _ h => h) (Or.inl ⟨by rfl, by intro w hw; go_simp⟩) hS0 ?_
  try simp only [Act.put, List.setIfInBounds_toArray, List.set_cons_zero, List.set_cons_succ]
  refine wpAnyH_ready (rs := [31]) (by kernel_rfl) (by simp) ?_
  refine (AllReadyH.cons (o := ({ dst := some 0, op := Op.assign (Operand.tmp 51), type := 4, pos := "law.go:19", after := #[{ on := 30, ground := Ground.data }, { on := 29, ground := Ground.chain }, { on := 0, ground := Ground.phase }, { on := 1, ground := Ground.phase }, { on := 2, ground := Ground.phase }, { on := 3, ground := Ground.phase }, { on := 4, ground := Ground.phase }, { on := 5, ground := Ground.phase }, { on := 6, ground := Ground.phase }, { on := 7, ground := Ground.phase }, { on := 8, ground := Ground.phase }, { on := 9, ground := Ground.phase }, { on := 10, ground := Ground.phase }, { on := 11, ground := Ground.phase }, { on := 12, ground := Ground.phase }, { on := 13, ground := Ground.phase }, { on := 14, ground := Ground.phase }, { on := 15, ground := Ground.phase }, { on := 16, ground := Ground.phase }, { on := 17, ground := Ground.phase }, { on := 18, ground := Ground.phase }, { on := 19, ground := Ground.phase }, { on := 20, ground := Ground.phase }, { on := 21, ground := Ground.phase }, { on := 22, ground := Ground.phase }, { on := 23, ground := Ground.phase }, { on := 24, ground := Ground.phase }, { on := 25, ground := Ground.phase }, { on := 26, ground := Ground.phase }, { on := 27, ground := Ground.phase }, { on := 28, ground := Ground.phase }, { on := 29, ground := Ground.phase }, { on := 30, ground := Ground.phase }], guard := none } : Oper)) rfl (fun K' hK => ?_) AllReadyH.nil)
  go_simp
  refine hK.out _ _ (nb) (fun hS0 => ?_)
  try simp only [Act.put, List.setIfInBounds_toArray, List.set_cons_zero, List.set_cons_succ]
  refine wpAnyH_done (by kernel_rfl) ?_ _
  go_wp2_with fail
  go_ret
  exact ⟨rfl, N5.out.tr nb⟩
end Go.Proofs.YtaeocbdphfkflaaDoor
