/- tile: joinThrees. -/
import Derived.Test.YtgobdjdaehlgdaaGreatDoorU8
import Derived.Laws.CopyOwn
import Derived.Laws.MakeOwn
namespace Go.Proofs.YtgobdjdaehlgdaaGreatDoor
open Go.RowKit
open Go.Lib (decDigits nDigits)
set_option linter.unusedVariables false
set_option linter.unusedSimpArgs false
/-- Without an x ahead. -/
def strp : List UInt8 → List UInt8
  | [] => []
  | c :: r => if c = 120 then r else c :: r
def joinF : Nat → List UInt8 → List UInt8
  | 0, _ => []
  | f + 1, X => strp (cutA X [47]) ++ (if 0 ≤ Lib.index X [47] then joinF f (cutB X [47]) else [])
def joinL (X : List UInt8) : List UInt8 := joinF (X.length + 1) X
theorem strp_len (A : List UInt8) : (strp A).length ≤ A.length := by
  cases A with
  | nil => simp [strp]
  | cons c r =>
    show (if c = 120 then r else c :: r).length ≤ _
    split <;> simp
theorem strp_pre (A : List UInt8) : strp A = if Lib.hasPrefix A [120] then A.drop 1 else A := by
  cases A with
  | nil => rfl
  | cons c r =>
    show (if c = 120 then r else c :: r) = _
    unfold Lib.hasPrefix
    by_cases h : c = 120
    · subst h; simp [List.isPrefixOf]
    · have h2 : ((120 : UInt8) == c) = false := by rw [beq_eq_false_iff_ne]; exact fun e => h e.symm
      rw [if_neg h]; simp [List.isPrefixOf, h2]
theorem cut_lens (R : List UInt8) : (cutA R [47]).length + (cutB R [47]).length ≤ R.length ∧ (0 ≤ Lib.index R [47] → (cutB R [47]).length < R.length) := by
  unfold cutA cutB
  by_cases h : Lib.index R [47] < 0
  · rw [if_pos h, if_pos h]; exact ⟨by simp, fun q => by omega⟩
  · rw [if_neg h, if_neg h]
    have := index_in R [47] (by omega)
    simp only [List.length_take, List.length_drop, List.length_cons, List.length_nil] at this ⊢
    exact ⟨by omega, fun _ => by omega⟩
theorem trimx (A : List UInt8) (v u : Value) (w : World) (hv : Byl w v A) (hu : Byl w u [120]) :
    Calls Tryz.prog 143 #[v, u] w fun e w' => ∃ v', e = .returned v' ∧ Byl w v' (strp A) ∧ w' = w := by
  rcases hu with ⟨h, _⟩ | ⟨b2, o2, c2, rfl, hc2, hb2, hu⟩
  · cases h
  rcases hv with ⟨rfl, rfl⟩ | ⟨b1, o1, c1, rfl, hc1, hb1, hv⟩
  · refine (Tryz.bytes_TrimPrefix_e1 none _ 0 1 c2 (by decide) w).mono ?_
    rintro e w' ⟨rfl, rfl⟩
    exact ⟨_, rfl, .inl ⟨rfl, rfl⟩, rfl⟩
  · have q1 := ints_cells hv
    have q2 := ints_cells hu
    simp only [addO] at q1 q2
    refine (Tryz.bytes_TrimPrefix b1 o1 A.length c1 b2 o2 1 c2 (ints A) (ints [120]) w (ints_len A) (ints_len _) hc1 q1 q2).mono ?_
    rintro e w' ⟨rfl, rfl⟩
    refine ⟨_, rfl, ?_, rfl⟩
    unfold Lib.bytesTrimPrefix
    rw [ints_of, ints_of, strp_pre]
    by_cases hp : Lib.hasPrefix A [120] = true
    · rw [if_pos hp, if_pos hp]
      have hl := Lib.hasPrefix_le hp
      simp only [List.length_cons, List.length_nil] at hl
      unfold Lib.sliceFrom
      rw [ints_len]
      by_cases hc : c1 = 1
      · rw [if_pos (by simpa using hc)]
        have e0 : A.drop 1 = [] := List.drop_of_length_le (by omega)
        rw [e0]
        exact .inr ⟨b1, o1, 0, by simp; omega, by simp, ⟨by simp, by omega⟩, fun i x hx => by simp at hx⟩
      · rw [if_neg (by simpa using hc)]
        refine .inr ⟨b1, o1 + 1, c1 - 1, by simp, by rw [List.length_drop]; omega, ⟨by rw [List.length_drop]; omega, by omega⟩, fun i x hx => ?_⟩
        rw [List.getElem?_drop] at hx
        have := hv (1 + i) x hx
        rwa [← Nat.add_assoc] at this
    · rw [if_neg hp, if_neg hp]
      exact .inr ⟨b1, o1, c1, rfl, hc1, hb1, hv⟩
theorem run_mark {P : Program} (w : World) (T e : TypeId) (C : Array Value) (n c : Nat) (hT : P.underlying T = some (.slice e)) (he : P.underlying e = some (.int .u8)) :
    (convert T T (.slice (some ⟨w.heap.size, 0, none⟩) n c)).run P (w.alloc (.cells C e)) = .ok (.slice (some ⟨w.heap.size, 0, none⟩) n c) (w.alloc (.cells C e (C.size, C.size + 1))) := by
  have hsh : (w.alloc (.cells C e)).shape? w.heap.size = some (e, C.size) := by
    have : (w.alloc (.cells C e)).heap[w.heap.size]? = some (.cells C e) := heap_new w _
    unfold World.shape?
    rw [this]
  have hfr : ∀ (n : Nat), (w.alloc (.cells C e)).freeze ⟨w.heap.size, n, none⟩ 1 = w.alloc (.cells C e (n, n + 1)) := fun n => by
    have hm : ∀ (a : Array Obj) (x : Obj) (f : Obj → Obj), (a.push x).modify a.size f = a.push (f x) := by
      intro a x f
      apply Array.ext
      · simp
      · intro i h1 h2
        simp only [Array.getElem_modify, Array.getElem_push]
        by_cases h : a.size = i
        · subst h
          simp
        · have hi : i < a.size := by simp at h1; omega
          simp [h, hi]
    unfold World.freeze
    rw [if_neg (by decide)]
    show ({ w.alloc (.cells C e) with heap := (w.heap.push (.cells C e)).modify w.heap.size _ } : World) = _
    rw [hm]
    rfl
  simp [convert, run_underlying hT, run_underlying he, markStringish, hsh]
  exact hfr _
theorem make_byt (n : Nat) (hn : n ≤ 1000000) (w : World) : (Instr.makeSlice 92 (.int .i64 (n : Int)) (.int .i64 (n : Int))).run Tryz.prog w = .ok (.slice (some ⟨w.heap.size, 0, none⟩) n n) (w.alloc (.cells (madeCells #[.int .u8 0] n) 5)) := by
  obtain ⟨i, hi, hz0, hz1, hz2⟩ := info8b
  rw [run_make w 92 5 i (.int .u8 0) Tryz.underlying92 hi hz0 .i64 .i64 _ _ (by omega) (by omega) (by rw [hz2]; omega) (by omega), hz1, Nat.mul_one]
  rw [Int.toNat_natCast]
  rfl
theorem lay_zero (n : Nat) (w : World) : Lay (w.alloc (.cells (madeCells #[.int .u8 0] n) 5)) w.heap.size n [] := ⟨_, heap_new _ _, by rw [size_madeCells], by simp [bc], by simp⟩
theorem lay_splice {w' : World} {g N : Nat} {T Y : List UInt8} {cur : Array Value} (hc : cur.size = N) (ht : cur.toList.take T.length = bc T) (hfit : T.length + Y.length ≤ N) (h : w'.heap[g]? = some (.cells (splice cur.toList T.length (bc Y)).toArray 5 (0, 0))) : Lay w' g N (T ++ Y) := by
  refine lay_put (cur := cur) hc ht hfit ?_ h
  unfold splice
  rw [bc_len]; simp
-- JOIN
def lenOf : Value → Nat
  | .slice _ n _ => n
  | _ => 0
def boolOf : Value → Bool
  | .bool b => b
  | _ => false
set_option maxRecDepth 100000 in
set_option maxHeartbeats 1000000 in
theorem join_any (X : List UInt8) (hX : X.length ≤ 1000000) (v : Value) (w : World) (hv : Byl w v X) (hM : MaxL w) :
    Calls Tryz.prog 132 #[v] w fun e w' => ∃ v', e = .returned v' ∧ Byl w' v' (joinL X) ∧ Nw w w' := by
  obtain ⟨N, hN⟩ : ∃ N, N = X.length := ⟨_, rfl⟩
  have HV : Hid (Byl w v X) := hv
  have HM : Hid (MaxL w) := hM
  have HN : Hid (X.length = N) := hN.symm
  have hmk := make_byt N (by omega) w
  have hz := lay_zero N w
  obtain ⟨g, hg⟩ : ∃ g, g = w.heap.size := ⟨_, rfl⟩
  have HG : Hid (g = w.heap.size) := hg
  obtain ⟨w1, hw1⟩ : ∃ w1, w1 = w.alloc (.cells (madeCells #[.int .u8 0] N) 5) := ⟨_, rfl⟩
  rw [← hw1, ← hg] at hmk hz
  have N1 : Hid (Nw w w1) := by rw [hw1]; exact nwa w _
  have HZ : Hid (Lay w1 g N []) := hz
  obtain ⟨p0, c0, hvf⟩ := hv.form
  rw [← hN] at hvf hX
  subst hvf
  clear hv hM hN hz hg hw1
  have QT : Hid (∀ (A : List UInt8) (v u : Value) (V : World), Byl V v A → Byl V u [120] → Calls Tryz.prog 143 #[v, u] V fun e w' => ∃ v', e = .returned v' ∧ Byl V v' (strp A) ∧ w' = V) := fun A v u V h1 h2 => trimx A v u V h1 h2
  go_enter Tryz.func132, Tryz.ntmps132
  go_wp2
  go_loopw [0, 4, 5] (fun iv nv mv wr => ∃ (f n : Nat) (T R : List UInt8) (more : Bool), Byl w iv R ∧ nv = .int .i64 (n : Int) ∧ n = T.length ∧ mv = .bool more ∧ T ++ (if more = true then joinF f R else []) = joinL X ∧ (more = true → R.length < f ∧ T.length + R.length ≤ N) ∧ Lay wr g N T ∧ Nw w wr) (fun iv _ mv _ => if boolOf mv = true then lenOf iv + 1 else 0)
  case atStart => exact ⟨N + 1, 0, [], X, true, HV.out, rfl, rfl, rfl, by rw [if_pos rfl, List.nil_append]; unfold joinL; rw [HN.out], fun _ => by rw [HN.out]; simp, HZ.out, N1.out⟩
  case round =>
    obtain ⟨f, n, T, R, more, hR, rfl, hn, rfl, he, hf, hl, hnw⟩ := hrel
    obtain ⟨pR, cR, hRf⟩ := hR.form
    subst hRf
    cases more with
    | true =>
      obtain ⟨hf1, hf2⟩ := hf rfl
      have hcl := cut_lens R
      obtain ⟨f', rfl⟩ : ∃ f', f = f' + 1 := ⟨f - 1, by omega⟩
      have q := cut_any R ⟨#[47]⟩ (by decide) (by decide) _ wr w hR hnw (HM.out.nw hnw)
      rw [show (⟨#[47]⟩ : ByteArray).data.toList = [47] from rfl] at q
      have HE : Hid (T ++ (strp (cutA R [47]) ++ (if 0 ≤ Lib.index R [47] then joinF f' (cutB R [47]) else [])) = joinL X) := by
        rw [if_pos rfl] at he
        exact he
      obtain ⟨b, hb⟩ : ∃ b, b = decide (0 ≤ Lib.index R [47]) := ⟨_, rfl⟩
      have HB : Hid (b = decide (0 ≤ Lib.index R [47])) := hb
      rw [← hb] at q
      obtain ⟨A, hA⟩ : ∃ A, A = cutA R [47] := ⟨_, rfl⟩
      obtain ⟨R2, hR2⟩ : ∃ R2, R2 = cutB R [47] := ⟨_, rfl⟩
      rw [← hA, ← hR2] at q HE hcl
      have HCL : Hid (A.length + R2.length ≤ R.length ∧ (b = true → R2.length < R.length)) := ⟨hcl.1, fun h => hcl.2 (of_decide_eq_true (hb ▸ h))⟩
      have HF : Hid (R.length < f' + 1 ∧ T.length + R.length ≤ N) := ⟨hf1, hf2⟩
      have HLA : Hid (Lay wr g N T) := hl
      have NW : Hid (Nw w wr) := hnw
      have HNT : Hid (T.length = n) := hn.symm
      have hnN : n ≤ N := by rw [hn]; omega
      have hni : (n : Int) ≤ (N : Int) := by omega
      clear hf he hb hA hR2 hcl hl hnw hR hf1 hf2 hn
      go_wp2_with fail
      refine q.mono ?_
      rintro e w2 ⟨vA, vB, rfl, hA2, hB2, n2⟩
      clear q
      obtain ⟨pA, cA, rfl⟩ := hA2.form
      have HA2 : Hid (Byl w (.slice pA A.length cA) A) := hA2
      have HB2 : Hid (Byl w vB R2) := hB2
      have N2 : Hid (Nw w w2) := NW.out.tr n2
      have L2 : Hid (Lay w2 g N T) := HLA.out.fr n2 (fun f => f)
      clear hA2 hB2 n2
      obtain ⟨dp, hdp⟩ : ∃ dp : Option Addr, dp = (if N = n then some ⟨g, 0, none⟩ else some ⟨g, n, none⟩) := ⟨_, rfl⟩
      have HDS : Hid (∀ W : World, (Instr.sliceAt 92 (.slice (some ⟨g, 0, none⟩) N N) (some (.int .i64 (n : Int))) none none).run Tryz.prog W = .ok (.slice dp (N - n) (N - n)) W) := fun W => by
        rw [hdp]
        by_cases hNn : N = n
        · rw [if_pos hNn]; go_simp
        · rw [if_neg hNn]; go_simp
      have HDP : Hid (N ≠ n → dp = some ⟨g, n, none⟩) := fun h => by rw [hdp, if_neg h]
      clear hdp
      go_wp2_with fail
      go_upto_region 7 with fail
      have nb : Nw w2 w2.drew := (Fr.refl _ _).drew
      refine wp_region_held_drew (S := fun _ => True) (by kernel_rfl) trivial ?_
      intro hS0
      refine wpAnyH_take (i := 0) (oi := Oper.mk (some 17) _ _ _ _ _) (v := .int .i64 (n : Int)) rfl (by kernel_rfl) (by kernel_rfl) (by kernel_rfl) (fun _ _ _ h => h) (Or.inl ⟨by rfl, by intro w hw; go_simp⟩) hS0 ?_
      try simp only [Act.put, List.setIfInBounds_toArray, List.set_cons_zero, List.set_cons_succ]
      refine wpAnyH_take (i := 1) (oi := Oper.mk (some 18) _ _ _ _ _) (v := .slice (some ⟨g, 0, none⟩) N N) rfl (by kernel_rfl) (by kernel_rfl) (by kernel_rfl) (fun _ _ _ h => h) (Or.inl ⟨by rfl, by intro w hw; go_simp⟩) hS0 ?_
      try simp only [Act.put, List.setIfInBounds_toArray, List.set_cons_zero, List.set_cons_succ]
      refine wpAnyH_take (i := 2) (oi := Oper.mk (some 19) _ _ _ _ _) (v := .int .i64 (n : Int)) rfl (by kernel_rfl) (by kernel_rfl) (by kernel_rfl) (fun _ _ _ h => h) (Or.inl ⟨by rfl, by intro w hw; go_simp⟩) hS0 ?_
      try simp only [Act.put, List.setIfInBounds_toArray, List.set_cons_zero, List.set_cons_succ]
      refine wpAnyH_take (i := 3) (oi := Oper.mk (some 20) _ _ _ _ _) (v := .slice dp (N - n) (N - n)) rfl (by kernel_rfl) (by kernel_rfl) (by kernel_rfl) (fun _ _ _ h => h) (Or.inl ⟨by rfl, by intro w hw; have hds := HDS.out w; go_simp⟩) hS0 ?_
      try simp only [Act.put, List.setIfInBounds_toArray, List.set_cons_zero, List.set_cons_succ]
      refine wpAnyH_take (i := 4) (oi := Oper.mk (some 21) _ _ _ _ _) (v := .slice pA A.length cA) rfl (by kernel_rfl) (by kernel_rfl) (by kernel_rfl) (fun _ _ _ h => h) (Or.inl ⟨by rfl, by intro w hw; go_simp⟩) hS0 ?_
      try simp only [Act.put, List.setIfInBounds_toArray, List.set_cons_zero, List.set_cons_succ]
      refine wpAnyH_ready (rs := [5]) (by kernel_rfl) (by simp) ?_
      refine AllReadyH.cons rfl (fun K' hK => ?_) AllReadyH.nil
      go_simp
      refine hK.out _ _ trivial (fun hS0 => ?_)
      try simp only [Act.put, List.setIfInBounds_toArray, List.set_cons_zero, List.set_cons_succ]
      have hid : (convert 92 92 (.slice (some ⟨w2.heap.size, 0, none⟩) 1 1)).run Tryz.prog (w2.drew.alloc (.cells #[.int .u8 120] 5)) = .ok (.slice (some ⟨w2.heap.size, 0, none⟩) 1 1) (w2.drew.alloc (.cells #[.int .u8 120] 5 (1, 2))) := run_mark (P := Tryz.prog) w2.drew 92 5 #[.int .u8 120] 1 1 Tryz.underlying92 Tryz.underlying5
      have edr : (w2.alloc (.cells #[.int .u8 120] 5)).drew = w2.drew.alloc (.cells #[.int .u8 120] 5) := rfl
      rw [edr]
      obtain ⟨wm, hwm⟩ : ∃ q, w2.drew.alloc (.cells #[.int .u8 120] 5) = q := ⟨_, rfl⟩
      obtain ⟨w3, hw3⟩ : ∃ q, w2.drew.alloc (.cells #[.int .u8 120] 5 (1, 2)) = q := ⟨_, rfl⟩
      rw [hwm, hw3] at hid
      rw [hwm]
      have n3 : Nw w2 w3 := by rw [← hw3]; exact nb.alloc _
      have u3 : Byl w3 (.slice (some ⟨w2.heap.size, 0, none⟩) 1 1) [120] := by
        rw [← hw3]
        refine .inr ⟨_, 0, 1, rfl, by simp, ⟨by simp, by omega⟩, fun i x hx => ?_⟩
        match i, hx with
        | 0, hx => simp at hx; subst hx; exact (cell_of (heap_new w2.drew _) 0).trans rfl
      obtain ⟨ub, hub⟩ : ∃ q, q = w2.heap.size := ⟨_, rfl⟩
      rw [← hub] at u3 hid ⊢
      have U3 : Hid (Byl w3 (.slice (some ⟨ub, 0, none⟩) 1 1) [120]) := u3
      have A3 : Hid (Byl w3 (.slice pA A.length cA) A) := HA2.out.nw (N2.out.tr n3)
      have N3 : Hid (Nw w w3) := N2.out.tr n3
      have L3 : Hid (Lay w3 g N T) := L2.out.fr n3 (fun f => f)
      clear hw3 hwm edr n3 u3 hub
      refine wpAnyH_ready (rs := [6]) (by kernel_rfl) (by simp) ?_
      refine AllReadyH.cons rfl (fun K' hK => ?_) AllReadyH.nil
      go_simp
      refine hK.out _ _ trivial (fun hS0 => ?_)
      try simp only [Act.put, List.setIfInBounds_toArray, List.set_cons_zero, List.set_cons_succ]
      clear hid
      refine wpAnyH_ready (rs := [7]) (by kernel_rfl) (by simp) ?_
      refine AllReadyH.cons rfl (fun K' hK => ?_) AllReadyH.nil
      go_simp
      go_wp2_with (go_at_call 143; refine (QT.out A _ _ _ A3.out U3.out).mono ?_; rintro ex wx ⟨vY, rfl, hY, rfl⟩)
      refine hK.out _ _ trivial (fun hS0 => ?_)
      try simp only [Act.put, List.setIfInBounds_toArray, List.set_cons_zero, List.set_cons_succ]
      obtain ⟨pY, cY, rfl⟩ := hY.form
      have hyl := strp_len A
      obtain ⟨Y, hYe⟩ : ∃ Y, Y = strp A := ⟨_, rfl⟩
      rw [← hYe] at hY hyl HE ⊢
      clear hYe
      obtain ⟨cur, g1, g2, g3, g4⟩ := L3.out
      have hyN : n + Y.length ≤ N := by
        have h1 := HCL.out.1
        have h2 := HF.out.2
        have h3 := HNT.out
        omega
      have hcl2 : cur.toList.length = N := by simpa using g2
      refine wpAnyH_ready (rs := [8]) (by kernel_rfl) (by simp) ?_
      refine AllReadyH.cons rfl (fun K' hK => ?_) AllReadyH.nil
      refine step_copy_splice rfl (.tmp 20) (.tmp 24) 92 92 rfl 5 Tryz.underlying92 sz8 dp pY (N - n) (N - n) Y.length cY (by kernel_rfl) (by kernel_rfl) g n cur.toList 5 (by simpa using g1) (bc Y) (by rw [bc_len]; exact (Nat.min_eq_left (by omega)).symm) (fun hpos => ?_) (by rw [bc_len, hcl2]; exact hyN) (by simp [bc, Value.oneCell']) g w (HG.out ▸ N3.out.bel) (Nat.le_refl _) ?_
      · rw [bc_len] at hpos
        refine ⟨HDP.out (by omega), ?_⟩
        rcases hY with ⟨h, _⟩ | ⟨b1, o1, c1, hv, _, _, hcs⟩
        · rw [h] at hpos; simp at hpos
        · injection hv with e1 e2 e3
          refine ⟨_, e1, fun j v hv => ?_⟩
          rw [bc, List.getElem?_map] at hv
          obtain ⟨x, hx, rfl⟩ := Option.map_eq_some_iff.1 hv
          rw [addO]
          exact hcs j x hx
      intro w4 h4 b4
      rw [bc_len]
      have L4 : Hid (Lay w4 g N (T ++ Y)) := by
        have e := HNT.out
        refine lay_splice (cur := cur) g2 g3 (by omega) ?_
        rw [e]
        exact h4.out
      have N4 : Hid (Nw w w4) := Fr.ofBelow (HG.out ▸ b4)
      have HYL : Hid ((T ++ Y).length = n + Y.length) := by show _ = _; rw [List.length_append, HNT.out]
      clear h4 b4 g1 g2 g3 g4 hY
      refine hK.out _ _ trivial (fun hS0 => ?_)
      try simp only [Act.put, List.setIfInBounds_toArray, List.set_cons_zero, List.set_cons_succ]
      have hwr : IntKind.i64.wrap ((n : Int) + (Y.length : Int)) = (n : Int) + (Y.length : Int) := by rw [IntKind.wrap_i64]; omega
      refine wpAnyH_take (i := 9) (oi := Oper.mk (some 26) _ _ _ _ _) (v := .int .i64 ((n : Int) + (Y.length : Int))) rfl (by kernel_rfl) (by kernel_rfl) (by kernel_rfl) (fun _ _ _ h => h) (Or.inl ⟨by rfl, by intro w hw; go_simp⟩) hS0 ?_
      try simp only [Act.put, List.setIfInBounds_toArray, List.set_cons_zero, List.set_cons_succ]
      refine wpAnyH_ready (rs := [10]) (by kernel_rfl) (by simp) ?_
      refine AllReadyH.cons rfl (fun K' hK => ?_) AllReadyH.nil
      go_simp
      refine hK.out _ _ trivial (fun hS0 => ?_)
      try simp only [Act.put, List.setIfInBounds_toArray, List.set_cons_zero, List.set_cons_succ]
      refine wpAnyH_done (by kernel_rfl) ?_ _
      go_wp2_with fail
      refine ⟨⟨f', n + Y.length, T ++ Y, R2, b, HB2.out, by go_num, HYL.out.symm, rfl, ?_, fun hbt => ?_, L4.out, N4.out⟩, ?_⟩
      · rw [← HE.out, List.append_assoc]
        congr 2
        have := HB.out
        by_cases hq : 0 ≤ Lib.index R [47]
        · rw [if_pos hq, if_pos (by rw [this]; exact decide_eq_true hq)]
        · rw [if_neg hq, if_neg (by rw [this, decide_eq_false hq]; simp)]
      · have h1 := HCL.out.2 hbt
        have h2 := HF.out
        have h3 := HCL.out.1
        have h4 := HYL.out
        have h5 := HNT.out
        exact ⟨by omega, by omega⟩
      · obtain ⟨pB, cB, hBf⟩ := HB2.out.form
        rw [hBf]
        have h1 := HCL.out.2
        cases b with
        | true => have := h1 rfl; simp [boolOf, lenOf]; exact this
        | false => simp [boolOf, lenOf]
    | false =>
      rw [if_neg (by simp), List.append_nil] at he
      have hne : n ≤ N := by obtain ⟨_, _, _, _, q⟩ := hl; omega
      have hni : (n : Int) ≤ (N : Int) := by omega
      have HE : Hid (T = joinL X) := he
      have HL : Hid (Lay wr g N T) := hl
      have HNN : Hid (n = T.length) := hn
      have NW : Hid (Nw w wr) := hnw
      clear he hl hn hnw hf hR
      go_wp2
      go_ret
      refine ⟨_, rfl, ?_, NW.out⟩
      rw [← HE.out]
      obtain ⟨cur, g1, g2, g3, g4⟩ := HL.out
      show Byl wr (.slice (some ⟨g, 0, none⟩) n n) T
      rw [HNN.out]
      refine .inr ⟨g, 0, _, rfl, Nat.le_refl _, ⟨by omega, by omega⟩, fun i x hx => ?_⟩
      have hi := (List.getElem?_eq_some_iff.1 hx).1
      rw [Nat.zero_add, cell_of g1]
      have e : (cur.toList.take T.length)[i]? = (bc T)[i]? := by rw [g3]
      rw [List.getElem?_take, if_pos hi] at e
      rw [← Array.getElem?_toList, e, bc, List.getElem?_map, hx]
      rfl
end Go.Proofs.YtgobdjdaehlgdaaGreatDoor
