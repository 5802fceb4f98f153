/- ShaCuts. -/
import Derived.Test.YtlmneommejdodaaDoorQ3a
import Derived.Test.YtlmneommejdodaaDoorLa
import Derived.Deep.DeepCutAuto
namespace Go.Proofs.YtlmneommejdodaaDoor
open Go.RowKit
set_option linter.unusedVariables false
set_option linter.unusedSimpArgs false

set_option maxRecDepth 100000 in
set_option maxHeartbeats 8000000 in
theorem cuts_any (pb pc : Option Addr) (cb cc : Nat) (B : List UInt8) (zs : List Int) (w : World) (hB : Bys w pb B) (hZ : Nums w pc zs) (hlb : B.length ≤ 140737488355328) (hlc : zs.length ≤ 140737488355328) (hr : ∀ j, -9223372036854775808 ≤ zs.getD j 0 ∧ zs.getD j 0 ≤ 9223372036854775807) (hcap : B.length ≤ cb) (hL : Laid w) :
    Calls Tryd.prog 6 #[.slice pb B.length cb, .slice pc zs.length cc] w fun e w' => e = .returned (.bool true) ∧ Nw w w' := by
  have HL : Hid (Laid w) := hL
  have hs2 := hL.lt
  have HB : Hid (Bys w pb B) := hB
  have HZ : Hid (Nums w pc zs) := hZ
  have HR : Hid (∀ j, -9223372036854775808 ≤ zs.getD j 0 ∧ zs.getD j 0 ≤ 9223372036854775807) := hr
  clear hL hB hZ hr
  obtain ⟨n, hn⟩ : ∃ n, n = B.length := ⟨_, rfl⟩
  obtain ⟨m, hm⟩ : ∃ m, m = zs.length := ⟨_, rfl⟩
  rw [← hn] at hlb hcap ⊢
  rw [← hm] at hlc ⊢
  have Hn : Hid (n = B.length) := hn
  have Hm : Hid (m = zs.length) := hm
  clear hn hm
  go_enter Tryd.func6, Tryd.ntmps6
  go_wp2_with fail
  refine (alive_any w HL.out).mono ?_
  rintro e1 w1 ⟨rfl, n1⟩
  go_wp2_with fail
  have q2 := beyond_any (some ⟨w1.heap.size, 0, none⟩) 2 [n, m] _ (two_ints w1 n m) (getD_two n m (by omega) (by omega)) (by simp)
  refine q2.mono ?_
  rintro e2 w2 ⟨rfl, rfl⟩
  have n2 : Nw w (w1.alloc (.cells #[.int .i64 (n : Int), .int .i64 (m : Int)] 3)) := n1.alloc _
  generalize (w1.alloc (.cells #[.int .i64 (n : Int), .int .i64 (m : Int)] 3)) = w2 at n2 ⊢
  clear q2
  by_cases hbig : 1048576 < [n, m].sum
  · have hd := decide_eq_true hbig
    rw [hd]
    go_wp2_with fail
    refine (alive_any w2 (HL.out.nw n2)).mono ?_
    rintro e3 w3 ⟨rfl, n3⟩
    go_wp2
    go_ret
    exact ⟨rfl, n2.tr n3⟩
  · have hd := decide_eq_false hbig
    rw [hd]
    have hsum : n + m ≤ 1048576 := by simpa using hbig
    clear hbig hd hlb hlc n1
    have n2s := n2.size
    go_wp2_with fail
    refine (new_any w2 (HL.out.nw n2)).mono ?_
    rintro e3 w3 ⟨rfl, D3, n3⟩
    obtain ⟨d, hd⟩ : ∃ d, d = w2.heap.size := ⟨_, rfl⟩
    rw [← hd] at D3 ⊢
    have hdw : w.heap.size ≤ d := by omega
    have n3w : Nw w w3 := n2.tr n3
    have hd3 : d < w3.heap.size := D3.lt
    have HD3 : Hid (Dig w3 d []) := D3
    clear hd D3 n3 n2 n2s
    obtain ⟨i0, hi, hz0, hz1, hz2⟩ := info_partsS
    have hz2i := hz2
    clear hz2
    go_wp2_with fail
    go_loopw [6, 7, 8] (fun v f i wr => ∃ (k fr : Nat) (ls : List ByteArray), k ≤ m + 1 ∧ fr ≤ n ∧ i = .int .i64 k ∧ f = .int .i64 fr ∧ Nw w wr ∧ w3.heap.size ≤ wr.heap.size ∧ Dig wr d (B.take fr) ∧ OwnS w3.heap.size wr v ls ∧ ls.length = k ∧ cat ls = B.take fr ∧ (k = m + 1 → fr = n)) (fun _ _ i _ => m + 1 - (intOf i).toNat)
    case atStart => exact ⟨0, 0, [], by omega, by omega, rfl, rfl, n3w, Nat.le_refl _, HD3.out, World.ownsRow_nil _ _ _ _, rfl, rfl, by omega⟩
    case round =>
      clear HD3 n3w
      obtain ⟨k, fr, ls, hk, hfr, rfl, rfl, hnw, hsz, hD, hO, hls, hcat, hend⟩ := hrel
      have HDg : Hid (Dig wr d (B.take fr)) := hD
      have HCat : Hid (cat ls = B.take fr) := hcat
      have HLs : Hid (ls.length = k) := hls
      obtain ⟨va, vc, rfl⟩ := ownsRow_form hO
      have HO : Hid (OwnS w3.heap.size wr (.slice va ls.length vc) ls) := hO
      rw [hls]
      clear hD hcat hO hls
      by_cases hlast : k ≤ m
      · have hki : (k : Int) ≤ (m : Int) := by omega
        -- where the piece ends
        obtain ⟨t, ht1, ht2, htE, htV⟩ : ∃ t : Nat, fr ≤ t ∧ t ≤ n ∧ (k = m → t = n) ∧ (k < m → (t : Int) = min (max (zs.getD k 0) (fr : Int)) (n : Int)) := by
          by_cases h : k < m
          · refine ⟨(min (max (zs.getD k 0) (fr : Int)) (n : Int)).toNat, by omega, by omega, by omega, fun _ => by omega⟩
          · exact ⟨n, hfr, Nat.le_refl _, fun _ => rfl, fun h' => absurd h' h⟩
        have HtV : Hid (k < m → (t : Int) = min (max (zs.getD k 0) (fr : Int)) (n : Int)) := htV
        clear htV
        have hsl := fun W => slice_lh pb n cb fr t ht1 (by omega) W
        have hsl0 := fun W => slice_h pb n cb t (by omega) W
        obtain ⟨p1, hp1⟩ : ∃ p, p = pcut pb fr cb := ⟨_, rfl⟩
        obtain ⟨p0, hp0⟩ : ∃ p, p = pcut pb 0 cb := ⟨_, rfl⟩
        obtain ⟨l1, hl1⟩ : ∃ l, l = t - fr := ⟨_, rfl⟩
        obtain ⟨c1, hc1⟩ : ∃ c, c = cb - fr := ⟨_, rfl⟩
        rw [← hp1, ← hl1, ← hc1] at hsl
        rw [← hp0] at hsl0
        obtain ⟨D, hDD⟩ : ∃ D, D = (B.drop fr).take (t - fr) := ⟨_, rfl⟩
        have hDl : D.length = l1 := by rw [hDD, cut_len B fr t ht1 (by have := Hn.out; omega), hl1]
        have HDl : Hid (D.length = l1) := hDl
        have HTk : Hid (B.take fr ++ D = B.take t) := by unfold Hid; rw [hDD]; exact take_cut B fr t ht1
        have HBc : Hid (∀ W, Nw w W → Bys W p1 D) := fun W hW => by rw [hp1, hDD]; exact bys_cut (HB.out.nw hW) fr t cb ht1 (by have := Hn.out; omega) (by have := Hn.out; omega)
        have HB0 : Hid (∀ W, Nw w W → Bys W p0 (B.take t)) := fun W hW => by
          have := bys_cut (HB.out.nw hW) 0 t cb (by omega) (by have := Hn.out; omega) (by have := Hn.out; omega)
          rw [hp0]
          simpa using this
        have hl1m : l1 ≤ 1048576 := by omega
        have HT : Hid (fr ≤ t ∧ t ≤ n ∧ (k = m → t = n)) := ⟨ht1, ht2, htE⟩
        have hte : t ≤ 1048576 := by omega
        clear hp1 hp0 hl1 hc1 hDD hDl ht1 ht2 htE
        go_upto_if 34 with fail
        go_cut [9] (fun v wx => v = .int .i64 (t : Int) ∧ wx = wr)
        case first =>
          clear hsl hsl0
          have hway : k < m ∨ k = m := by omega
          rcases hway with hkm | hkm
          · obtain ⟨g, o, hpc, hcz⟩ := HZ.out k (by have := Hm.out; omega)
            subst hpc
            have hcz := hnw.cellOf hcz
            have htv := HtV.out hkm
            have hzr := HR.out k
            generalize zs.getD k 0 = z at hcz htv hzr
            have hkm' : (k : Int) < (m : Int) := by omega
            have HV : Hid ((t : Int) = min (max z (fr : Int)) (n : Int)) := htv
            clear htv
            go_wp2_with fail
            all_goals go_meet
            all_goals
              refine ⟨?_, rfl⟩
              have := HV.out
              congr 1
              omega
          · have hkm' : ¬ (k : Int) < (m : Int) := by omega
            have htn : Hid (t = n) := HT.out.2.2 hkm
            clear hkm
            go_wp2_with fail
            go_meet
            exact ⟨by rw [htn.out], rfl⟩
        case rest =>
          obtain ⟨rfl, rfl⟩ := hcut
          have q5 := twin_any p1 c1 D wc (HBc.out wc hnw) (by rw [HDl.out]; omega)
          rw [HDl.out] at q5
          go_wp2_with fail
          refine q5.mono ?_
          rintro e5 w5 ⟨rfl, j5, n5⟩
          have q6 := write_twin d (B.take fr) D w5 wc HDg.out (HL.out.nw hnw) (by omega) n5 (by rw [HDl.out]; exact j5) (by rw [HDl.out, List.length_take]; omega)
          rw [HDl.out] at q6
          clear q5
          go_wp2_with fail
          refine q6.mono ?_
          rintro e6 w6 ⟨rfl, D6, f6⟩
          clear q6 j5 n5
          rw [HTk.out] at D6
          have n6 : Nw w w6 := hnw.trans f6 (fun k hk q => by omega)
          have hO6 : w6.ownsRow w3.heap.size 9 1 (.slice va k vc) k (ls.map Value.string) := by
            have h := HO.out.fr f6 hd3
            unfold OwnS at h
            rw [HLs.out] at h
            exact h
          have hsz6 : w3.heap.size ≤ w6.heap.size := Nat.le_trans hsz f6.size
          have HD6 : Hid (Dig w6 d (B.take t)) := D6
          have hcv := conv_bys (HBc.out w6 n6) c1
          rw [HDl.out] at hcv
          obtain ⟨X, hX⟩ : ∃ X : ByteArray, X = ⟨D.toArray⟩ := ⟨_, rfl⟩
          have HX : Hid (X = ⟨D.toArray⟩) := hX
          rw [← hX] at hcv
          clear D6 hX f6
          go_wp2_with (at_builtin; refine wpList_append_own _ rfl _ _ 22 rfl w3.heap.size 9 i0 (.string ⟨#[]⟩) 1 16 Tryd.underlying22 hi hz0 hz1 hz2i rfl (by decide) _ _ _ rfl (hO6.alloc _) ⟨w6.heap.size, 0, none⟩ 1 1 [.string X] rfl rfl (one_new _ _ _) (by simp [Value.oneCell']) (by unfold maxLen; omega) (by omega) (by simp; omega) ?_; intro v7 w7 hown7 hgrow _; obtain ⟨va7, vc7, rfl⟩ := ownsRow_form hown7)
          have hO6' : OwnS w3.heap.size w6 (.slice va k vc) ls := by unfold OwnS; rw [HLs.out]; exact hO6
          obtain ⟨O7, b7⟩ := own_putS (c := X) hO6' hown7 (by rw [HLs.out]) hgrow hsz6
          have HO7 : Hid (OwnS w3.heap.size w7 (.slice va7 (k + 1) vc7) (ls ++ [X])) := O7
          have n7 : Nw w w7 := n6.trans (below_fr b7) (fun k hk q => by omega)
          have HD7 : Hid (Dig w7 d (B.take t)) := HD6.out.keep (below_fr b7) (by omega)
          have hsz7 : w3.heap.size ≤ w7.heap.size := Nat.le_trans hsz6 b7.size
          clear hown7 hgrow O7 b7 hO6 hO6' hcv hi hz0 hz1 hz2i
          obtain ⟨XT, hXT⟩ : ∃ X : ByteArray, X = ⟨(B.take t).toArray⟩ := ⟨_, rfl⟩
          have htl : (B.take t).length = t := by rw [List.length_take]; have := HT.out; have := Hn.out; omega
          have hkp : Hid (∀ W, Nw w7 W → (convert 39 9 (.slice p0 t cb)).run Tryd.prog W = .ok (.string XT) W) := fun W hW => by
            have := conv_bys (HB0.out W (n7.tr hW)) cb
            rw [htl] at this
            rw [hXT]
            exact this
          obtain ⟨T, hTT⟩ : ∃ T, T = sha (B.take t) := ⟨_, rfl⟩
          have QS : Hid (∀ W, Nw w7 W → Calls Tryd.prog 20 #[.pointer (some ⟨d, 0, none⟩)] W fun e w' => e = .returned (.agg (hcs T 32)) ∧ Nw W w') := fun W hW => by
            have := sum_dig d (B.take t) W (HD7.out.keep hW (fun h => h)) (HL.out.nw (n7.tr hW)) (by rw [htl]; omega)
            rw [← hTT] at this
            exact this
          have QT : Hid (∀ p W, Nw w7 W → Strs W p [XT] → Calls Tryd.prog 13 #[.slice p 1 1] W fun e w' => e = .returned (.agg (hcs T 32)) ∧ Nw W w') := fun p W hW hs => by
            have ec : cat [XT] = B.take t := by rw [hXT]; simp [cat]
            have := sums_any p 1 [XT] W hs (HL.out.nw (n7.tr hW)) (by rw [ec, htl]; omega) (by simp)
            rw [ec, ← hTT] at this
            exact this
          have he := fun W => hash_eq T W
          clear hXT htl hTT
          go_wp2_with fail
          go_cut [76] (fun b wx => b = .bool false ∧ Nw w7 wx)
          case first =>
            clear hsl
            have hk0 : (0 : Int) ≤ (k : Int) := by omega
            by_cases h1 : k % 2 = 1
            · have hrm : (k : Int).tmod 2 = 1 := by rw [Int.tmod_eq_emod_of_nonneg hk0]; omega
              by_cases h20 : k < 20
              · have h20' : (k : Int) < 20 := by omega
                clear h1 h20
                have nb : Nw w7 w7.drew := (Fr.refl _ _).drew
                refine wp_region_held_drew (S := fun W => (convert 39 9 (.slice p0 t cb)).run Tryd.prog W = .ok (.string XT) W) (by kernel_rfl) (hkp.out _ nb) ?_
                intro hS0
                refine wpAnyH_take (i := 0) (oi := ({ dst := some 59, op := Op.move (Operand.tmp 8), type := 3, pos := "outright.go:37", after := #[], guard := none } : Oper)) (v := .int .i64 (k : Int)) rfl (by kernel_rfl) (by kernel_rfl) (by kernel_rfl) (fun _ _ _ h => h) (Or.inl ⟨by rfl, by intro w hw; go_simp⟩) hS0 ?_
                try simp only [Act.put, List.setIfInBounds_toArray, List.set_cons_zero, List.set_cons_succ]
                refine wpAnyH_take (i := 1) (oi := ({ dst := some 60, op := Op.binOp BinOp.rem 3 (Operand.tmp 59) (Operand.const (Value.int IntKind.i64 2)) 3, type := 3, pos := "outright.go:37", after := #[{ on := 0, ground := Ground.data }], guard := none } : Oper)) (v := .int .i64 1) rfl (by kernel_rfl) (by kernel_rfl) (by kernel_rfl) (fun _ _ _ h => h) (Or.inl ⟨by rfl, by intro w hw; go_simp⟩) hS0 ?_
                try simp only [Act.put, List.setIfInBounds_toArray, List.set_cons_zero, List.set_cons_succ]
                refine wpAnyH_take (i := 2) (oi := ({ dst := some 61, op := Op.binOp BinOp.eql 3 (Operand.tmp 60) (Operand.const (Value.int IntKind.i64 1)) 3, type := 4, pos := "outright.go:37", after := #[{ on := 1, ground := Ground.data }], guard := none } : Oper)) (v := .bool true) rfl (by kernel_rfl) (by kernel_rfl) (by kernel_rfl) (fun _ _ _ h => h) (Or.inl ⟨by rfl, by intro w hw; go_simp⟩) hS0 ?_
                try simp only [Act.put, List.setIfInBounds_toArray, List.set_cons_zero, List.set_cons_succ]
                refine wpAnyH_take (i := 3) (oi := ({ dst := some 62, op := Op.move (Operand.tmp 61), type := 4, pos := "outright.go:37", after := #[{ on := 2, ground := Ground.data }], guard := none } : Oper)) (v := .bool true) rfl (by kernel_rfl) (by kernel_rfl) (by kernel_rfl) (fun _ _ _ h => h) (Or.inl ⟨by rfl, by intro w hw; go_simp⟩) hS0 ?_
                try simp only [Act.put, List.setIfInBounds_toArray, List.set_cons_zero, List.set_cons_succ]
                refine wpAnyH_take (i := 4) (oi := ({ dst := some 63, op := Op.move (Operand.tmp 8), type := 3, pos := "outright.go:37", after := #[{ on := 3, ground := Ground.guard }], guard := some (3, true) } : Oper)) (v := .int .i64 (k : Int)) rfl (by kernel_rfl) (by kernel_rfl) (by kernel_rfl) (fun _ _ _ h => h) (Or.inl ⟨by rfl, by intro w hw; go_simp⟩) hS0 ?_
                try simp only [Act.put, List.setIfInBounds_toArray, List.set_cons_zero, List.set_cons_succ]
                refine wpAnyH_take (i := 5) (oi := ({ dst := some 64, op := Op.binOp BinOp.lss 3 (Operand.tmp 63) (Operand.const (Value.int IntKind.i64 20)) 3, type := 4, pos := "outright.go:37", after := #[{ on := 4, ground := Ground.data }, { on := 3, ground := Ground.guard }], guard := some (3, true) } : Oper)) (v := .bool true) rfl (by kernel_rfl) (by kernel_rfl) (by kernel_rfl) (fun _ _ _ h => h) (Or.inl ⟨by rfl, by intro w hw; go_simp⟩) hS0 ?_
                try simp only [Act.put, List.setIfInBounds_toArray, List.set_cons_zero, List.set_cons_succ]
                refine wpAnyH_take (i := 6) (oi := ({ dst := some 65, op := Op.pick (Operand.tmp 62) (Operand.tmp 64) (Operand.const (Value.bool false)), type := 4, pos := "outright.go:37", after := #[{ on := 3, ground := Ground.data }, { on := 5, ground := Ground.data }], guard := none } : Oper)) (v := .bool true) rfl (by kernel_rfl) (by kernel_rfl) (by kernel_rfl) (fun _ _ _ h => h) (Or.inl ⟨by rfl, by intro w hw; go_simp⟩) hS0 ?_
                try simp only [Act.put, List.setIfInBounds_toArray, List.set_cons_zero, List.set_cons_succ]
                refine wpAnyH_take (i := 7) (oi := ({ dst := some 66, op := Op.move (Operand.tmp 65), type := 4, pos := "outright.go:37", after := #[{ on := 6, ground := Ground.data }, { on := 3, ground := Ground.chain }], guard := none } : Oper)) (v := .bool true) rfl (by kernel_rfl) (by kernel_rfl) (by kernel_rfl) (fun _ _ _ h => h) (Or.inl ⟨by rfl, by intro w hw; go_simp⟩) hS0 ?_
                try simp only [Act.put, List.setIfInBounds_toArray, List.set_cons_zero, List.set_cons_succ]
                refine wpAnyH_take (i := 8) (oi := ({ dst := some 67, op := Op.move (Operand.tmp 5), type := 33, pos := "outright.go:37", after := #[{ on := 7, ground := Ground.guard }], guard := some (7, true) } : Oper)) (v := .pointer (some ⟨d, 0, none⟩)) rfl (by kernel_rfl) (by kernel_rfl) (by kernel_rfl) (fun _ _ _ h => h) (Or.inl ⟨by rfl, by intro w hw; go_simp⟩) hS0 ?_
                try simp only [Act.put, List.setIfInBounds_toArray, List.set_cons_zero, List.set_cons_succ]
                refine wpAnyH_take (i := 10) (oi := ({ dst := some 69, op := Op.move (Operand.tmp 0), type := 39, pos := "outright.go:37", after := #[{ on := 7, ground := Ground.guard }], guard := some (7, true) } : Oper)) (v := .slice pb n cb) rfl (by kernel_rfl) (by kernel_rfl) (by kernel_rfl) (fun _ _ _ h => h) (Or.inl ⟨by rfl, by intro w hw; go_simp⟩) hS0 ?_
                try simp only [Act.put, List.setIfInBounds_toArray, List.set_cons_zero, List.set_cons_succ]
                refine wpAnyH_take (i := 11) (oi := ({ dst := some 70, op := Op.move (Operand.tmp 9), type := 3, pos := "outright.go:37", after := #[{ on := 7, ground := Ground.guard }], guard := some (7, true) } : Oper)) (v := .int .i64 (t : Int)) rfl (by kernel_rfl) (by kernel_rfl) (by kernel_rfl) (fun _ _ _ h => h) (Or.inl ⟨by rfl, by intro w hw; go_simp⟩) hS0 ?_
                try simp only [Act.put, List.setIfInBounds_toArray, List.set_cons_zero, List.set_cons_succ]
                refine wpAnyH_take (i := 12) (oi := ({ dst := some 71, op := Op.slice 39 (Operand.tmp 69) none (some (Operand.tmp 70)) none, type := 39, pos := "outright.go:37", after := #[{ on := 10, ground := Ground.data }, { on := 11, ground := Ground.data }, { on := 7, ground := Ground.guard }], guard := some (7, true) } : Oper)) (v := .slice p0 t cb) rfl (by kernel_rfl) (by kernel_rfl) (by kernel_rfl) (fun _ _ _ h => h) (Or.inl ⟨by rfl, by intro w hw; go_simp⟩) hS0 ?_
                try simp only [Act.put, List.setIfInBounds_toArray, List.set_cons_zero, List.set_cons_succ]
                refine wpAnyH_take (i := 13) (oi := ({ dst := some 72, op := Op.convert 39 9 (Operand.tmp 71), type := 9, pos := "outright.go:37", after := #[{ on := 12, ground := Ground.data }, { on := 7, ground := Ground.guard }], guard := some (7, true) } : Oper)) (v := .string XT) rfl (by kernel_rfl) (by kernel_rfl) (by kernel_rfl) (fun _ _ _ h => h) (Or.inl ⟨by rfl, by intro w hw; go_simp⟩) hS0 ?_
                try simp only [Act.put, List.setIfInBounds_toArray, List.set_cons_zero, List.set_cons_succ]
                refine wpAnyH_ready (rs := [9, 14]) (by kernel_rfl) (by simp) ?_
                refine (AllReadyH.cons (o := ({ dst := some 68, op := Op.call { callee := Callee.value (Operand.func 20), args := #[Operand.tmp 67], argTypes := #[33] }, type := 26, pos := "outright.go:37", after := #[{ on := 8, ground := Ground.data }, { on := 7, ground := Ground.chain }, { on := 7, ground := Ground.guard }], guard := some (7, true) } : Oper)) rfl (fun K' hK => ?_) (AllReadyH.cons (o := ({ dst := some 73, op := Op.buildSlice 22 1 #[(0, Operand.tmp 72)], type := 22, pos := "outright.go:37", after := #[{ on := 13, ground := Ground.data }, { on := 7, ground := Ground.guard }], guard := some (7, true) } : Oper)) rfl (fun K' hK => ?_) AllReadyH.nil))
                · go_simp
                  go_wp2_with (go_at_call 20; refine (QS.out _ nb).mono ?_; rintro ex w101 ⟨rfl, nw101⟩)
                  have nb := nb.tr nw101
                  refine hK.out _ _ (hkp.out _ nb) (fun hS0 => ?_)
                  try simp only [Act.put, List.setIfInBounds_toArray, List.set_cons_zero, List.set_cons_succ]
                  refine wpAnyH_ready (rs := [14]) (by kernel_rfl) (by simp) ?_
                  refine (AllReadyH.cons (o := ({ dst := some 73, op := Op.buildSlice 22 1 #[(0, Operand.tmp 72)], type := 22, pos := "outright.go:37", after := #[{ on := 13, ground := Ground.data }, { on := 7, ground := Ground.guard }], guard := some (7, true) } : Oper)) rfl (fun K' hK => ?_) AllReadyH.nil)
                  go_simp
                  have nb : Nw w7 (w101.alloc (.cells #[.string XT] 9)) := nb.alloc _
                  refine hK.out _ _ (hkp.out _ nb) (fun hS0 => ?_)
                  try simp only [Act.put, List.setIfInBounds_toArray, List.set_cons_zero, List.set_cons_succ]
                  refine wpAnyH_ready (rs := [15]) (by kernel_rfl) (by simp) ?_
                  refine (AllReadyH.cons (o := ({ dst := some 74, op := Op.call { callee := Callee.value (Operand.func 13), args := #[Operand.tmp 73], argTypes := #[22] }, type := 26, pos := "outright.go:37", after := #[{ on := 14, ground := Ground.data }, { on := 9, ground := Ground.chain }, { on := 7, ground := Ground.guard }], guard := some (7, true) } : Oper)) rfl (fun K' hK => ?_) AllReadyH.nil)
                  go_simp
                  go_wp2_with (go_at_call 13; refine (QT.out _ _ nb (by first | exact strs1 _ _ | exact (strs1 _ _).nw nw101 | exact (strs1 _ _).nw (Nw.tr (Fr.refl _ _).drew nw101))).mono ?_; rintro ex w102 ⟨rfl, nw102⟩)
                  have nb := nb.tr nw102
                  refine hK.out _ _ (hkp.out _ nb) (fun hS0 => ?_)
                  try simp only [Act.put, List.setIfInBounds_toArray, List.set_cons_zero, List.set_cons_succ]
                  refine wpAnyH_take (i := 16) (oi := ({ dst := some 75, op := Op.binOp BinOp.neq 26 (Operand.tmp 68) (Operand.tmp 74) 26, type := 4, pos := "outright.go:37", after := #[{ on := 9, ground := Ground.data }, { on := 15, ground := Ground.data }, { on := 7, ground := Ground.guard }], guard := some (7, true) } : Oper)) (v := .bool false) rfl (by kernel_rfl) (by kernel_rfl) (by kernel_rfl) (fun _ _ _ h => h) (Or.inl ⟨by rfl, by intro w hw; go_simp⟩) hS0 ?_
                  try simp only [Act.put, List.setIfInBounds_toArray, List.set_cons_zero, List.set_cons_succ]
                  refine wpAnyH_take (i := 17) (oi := ({ dst := some 76, op := Op.pick (Operand.tmp 66) (Operand.tmp 75) (Operand.const (Value.bool false)), type := 4, pos := "outright.go:37", after := #[{ on := 7, ground := Ground.data }, { on := 16, ground := Ground.data }], guard := none } : Oper)) (v := .bool false) rfl (by kernel_rfl) (by kernel_rfl) (by kernel_rfl) (fun _ _ _ h => h) (Or.inl ⟨by rfl, by intro w hw; go_simp⟩) hS0 ?_
                  try simp only [Act.put, List.setIfInBounds_toArray, List.set_cons_zero, List.set_cons_succ]
                  refine wpAnyH_done (by kernel_rfl) ?_ _
                  go_wp2_with fail
                  go_meet
                  exact ⟨rfl, nb⟩
                · go_simp
                  have nb : Nw w7 (w7.alloc (.cells #[.string XT] 9)).drew := ((Fr.refl _ _).alloc _).drew
                  refine hK.out _ _ (hkp.out _ nb) (fun hS0 => ?_)
                  try simp only [Act.put, List.setIfInBounds_toArray, List.set_cons_zero, List.set_cons_succ]
                  refine wpAnyH_ready (rs := [9]) (by kernel_rfl) (by simp) ?_
                  refine (AllReadyH.cons (o := ({ dst := some 68, op := Op.call { callee := Callee.value (Operand.func 20), args := #[Operand.tmp 67], argTypes := #[33] }, type := 26, pos := "outright.go:37", after := #[{ on := 8, ground := Ground.data }, { on := 7, ground := Ground.chain }, { on := 7, ground := Ground.guard }], guard := some (7, true) } : Oper)) rfl (fun K' hK => ?_) AllReadyH.nil)
                  go_simp
                  go_wp2_with (go_at_call 20; refine (QS.out _ nb).mono ?_; rintro ex w103 ⟨rfl, nw103⟩)
                  have nb := nb.tr nw103
                  refine hK.out _ _ (hkp.out _ nb) (fun hS0 => ?_)
                  try simp only [Act.put, List.setIfInBounds_toArray, List.set_cons_zero, List.set_cons_succ]
                  refine wpAnyH_ready (rs := [15]) (by kernel_rfl) (by simp) ?_
                  refine (AllReadyH.cons (o := ({ dst := some 74, op := Op.call { callee := Callee.value (Operand.func 13), args := #[Operand.tmp 73], argTypes := #[22] }, type := 26, pos := "outright.go:37", after := #[{ on := 14, ground := Ground.data }, { on := 9, ground := Ground.chain }, { on := 7, ground := Ground.guard }], guard := some (7, true) } : Oper)) rfl (fun K' hK => ?_) AllReadyH.nil)
                  go_simp
                  go_wp2_with (go_at_call 13; refine (QT.out _ _ nb (by first | exact strs1 _ _ | exact (strs1 _ _).nw nw103 | exact (strs1 _ _).nw (Nw.tr (Fr.refl _ _).drew nw103))).mono ?_; rintro ex w104 ⟨rfl, nw104⟩)
                  have nb := nb.tr nw104
                  refine hK.out _ _ (hkp.out _ nb) (fun hS0 => ?_)
                  try simp only [Act.put, List.setIfInBounds_toArray, List.set_cons_zero, List.set_cons_succ]
                  refine wpAnyH_take (i := 16) (oi := ({ dst := some 75, op := Op.binOp BinOp.neq 26 (Operand.tmp 68) (Operand.tmp 74) 26, type := 4, pos := "outright.go:37", after := #[{ on := 9, ground := Ground.data }, { on := 15, ground := Ground.data }, { on := 7, ground := Ground.guard }], guard := some (7, true) } : Oper)) (v := .bool false) rfl (by kernel_rfl) (by kernel_rfl) (by kernel_rfl) (fun _ _ _ h => h) (Or.inl ⟨by rfl, by intro w hw; go_simp⟩) hS0 ?_
                  try simp only [Act.put, List.setIfInBounds_toArray, List.set_cons_zero, List.set_cons_succ]
                  refine wpAnyH_take (i := 17) (oi := ({ dst := some 76, op := Op.pick (Operand.tmp 66) (Operand.tmp 75) (Operand.const (Value.bool false)), type := 4, pos := "outright.go:37", after := #[{ on := 7, ground := Ground.data }, { on := 16, ground := Ground.data }], guard := none } : Oper)) (v := .bool false) rfl (by kernel_rfl) (by kernel_rfl) (by kernel_rfl) (fun _ _ _ h => h) (Or.inl ⟨by rfl, by intro w hw; go_simp⟩) hS0 ?_
                  try simp only [Act.put, List.setIfInBounds_toArray, List.set_cons_zero, List.set_cons_succ]
                  refine wpAnyH_done (by kernel_rfl) ?_ _
                  go_wp2_with fail
                  go_meet
                  exact ⟨rfl, nb⟩

              · have h20' : ¬ (k : Int) < 20 := by omega
                clear h1 h20 hsl0
                have nb : Nw w7 w7.drew := (Fr.refl _ _).drew
                refine wp_region_held_drew (S := fun W => (convert 39 9 (.slice p0 t cb)).run Tryd.prog W = .ok (.string XT) W) (by kernel_rfl) (hkp.out _ nb) ?_
                intro hS0
                refine wpAnyH_take (i := 0) (oi := ({ dst := some 59, op := Op.move (Operand.tmp 8), type := 3, pos := "outright.go:37", after := #[], guard := none } : Oper)) (v := .int .i64 (k : Int)) rfl (by kernel_rfl) (by kernel_rfl) (by kernel_rfl) (fun _ _ _ h => h) (Or.inl ⟨by rfl, by intro w hw; go_simp⟩) hS0 ?_
                try simp only [Act.put, List.setIfInBounds_toArray, List.set_cons_zero, List.set_cons_succ]
                refine wpAnyH_take (i := 1) (oi := ({ dst := some 60, op := Op.binOp BinOp.rem 3 (Operand.tmp 59) (Operand.const (Value.int IntKind.i64 2)) 3, type := 3, pos := "outright.go:37", after := #[{ on := 0, ground := Ground.data }], guard := none } : Oper)) (v := .int .i64 1) rfl (by kernel_rfl) (by kernel_rfl) (by kernel_rfl) (fun _ _ _ h => h) (Or.inl ⟨by rfl, by intro w hw; go_simp⟩) hS0 ?_
                try simp only [Act.put, List.setIfInBounds_toArray, List.set_cons_zero, List.set_cons_succ]
                refine wpAnyH_take (i := 2) (oi := ({ dst := some 61, op := Op.binOp BinOp.eql 3 (Operand.tmp 60) (Operand.const (Value.int IntKind.i64 1)) 3, type := 4, pos := "outright.go:37", after := #[{ on := 1, ground := Ground.data }], guard := none } : Oper)) (v := .bool true) rfl (by kernel_rfl) (by kernel_rfl) (by kernel_rfl) (fun _ _ _ h => h) (Or.inl ⟨by rfl, by intro w hw; go_simp⟩) hS0 ?_
                try simp only [Act.put, List.setIfInBounds_toArray, List.set_cons_zero, List.set_cons_succ]
                refine wpAnyH_take (i := 3) (oi := ({ dst := some 62, op := Op.move (Operand.tmp 61), type := 4, pos := "outright.go:37", after := #[{ on := 2, ground := Ground.data }], guard := none } : Oper)) (v := .bool true) rfl (by kernel_rfl) (by kernel_rfl) (by kernel_rfl) (fun _ _ _ h => h) (Or.inl ⟨by rfl, by intro w hw; go_simp⟩) hS0 ?_
                try simp only [Act.put, List.setIfInBounds_toArray, List.set_cons_zero, List.set_cons_succ]
                refine wpAnyH_take (i := 4) (oi := ({ dst := some 63, op := Op.move (Operand.tmp 8), type := 3, pos := "outright.go:37", after := #[{ on := 3, ground := Ground.guard }], guard := some (3, true) } : Oper)) (v := .int .i64 (k : Int)) rfl (by kernel_rfl) (by kernel_rfl) (by kernel_rfl) (fun _ _ _ h => h) (Or.inl ⟨by rfl, by intro w hw; go_simp⟩) hS0 ?_
                try simp only [Act.put, List.setIfInBounds_toArray, List.set_cons_zero, List.set_cons_succ]
                refine wpAnyH_take (i := 5) (oi := ({ dst := some 64, op := Op.binOp BinOp.lss 3 (Operand.tmp 63) (Operand.const (Value.int IntKind.i64 20)) 3, type := 4, pos := "outright.go:37", after := #[{ on := 4, ground := Ground.data }, { on := 3, ground := Ground.guard }], guard := some (3, true) } : Oper)) (v := .bool false) rfl (by kernel_rfl) (by kernel_rfl) (by kernel_rfl) (fun _ _ _ h => h) (Or.inl ⟨by rfl, by intro w hw; go_simp⟩) hS0 ?_
                try simp only [Act.put, List.setIfInBounds_toArray, List.set_cons_zero, List.set_cons_succ]
                refine wpAnyH_take (i := 6) (oi := ({ dst := some 65, op := Op.pick (Operand.tmp 62) (Operand.tmp 64) (Operand.const (Value.bool false)), type := 4, pos := "outright.go:37", after := #[{ on := 3, ground := Ground.data }, { on := 5, ground := Ground.data }], guard := none } : Oper)) (v := .bool false) rfl (by kernel_rfl) (by kernel_rfl) (by kernel_rfl) (fun _ _ _ h => h) (Or.inl ⟨by rfl, by intro w hw; go_simp⟩) hS0 ?_
                try simp only [Act.put, List.setIfInBounds_toArray, List.set_cons_zero, List.set_cons_succ]
                refine wpAnyH_take (i := 7) (oi := ({ dst := some 66, op := Op.move (Operand.tmp 65), type := 4, pos := "outright.go:37", after := #[{ on := 6, ground := Ground.data }, { on := 3, ground := Ground.chain }], guard := none } : Oper)) (v := .bool false) rfl (by kernel_rfl) (by kernel_rfl) (by kernel_rfl) (fun _ _ _ h => h) (Or.inl ⟨by rfl, by intro w hw; go_simp⟩) hS0 ?_
                try simp only [Act.put, List.setIfInBounds_toArray, List.set_cons_zero, List.set_cons_succ]
                refine wpAnyH_take (i := 8) (oi := ({ dst := some 67, op := Op.move (Operand.tmp 5), type := 33, pos := "outright.go:37", after := #[{ on := 7, ground := Ground.guard }], guard := some (7, true) } : Oper)) (v := undef) rfl (by kernel_rfl) (by kernel_rfl) (by kernel_rfl) (fun _ _ _ h => h) (Or.inr ⟨by rfl, rfl⟩) hS0 ?_
                try simp only [Act.put, List.setIfInBounds_toArray, List.set_cons_zero, List.set_cons_succ]
                refine wpAnyH_take (i := 10) (oi := ({ dst := some 69, op := Op.move (Operand.tmp 0), type := 39, pos := "outright.go:37", after := #[{ on := 7, ground := Ground.guard }], guard := some (7, true) } : Oper)) (v := undef) rfl (by kernel_rfl) (by kernel_rfl) (by kernel_rfl) (fun _ _ _ h => h) (Or.inr ⟨by rfl, rfl⟩) hS0 ?_
                try simp only [Act.put, List.setIfInBounds_toArray, List.set_cons_zero, List.set_cons_succ]
                refine wpAnyH_take (i := 11) (oi := ({ dst := some 70, op := Op.move (Operand.tmp 9), type := 3, pos := "outright.go:37", after := #[{ on := 7, ground := Ground.guard }], guard := some (7, true) } : Oper)) (v := undef) rfl (by kernel_rfl) (by kernel_rfl) (by kernel_rfl) (fun _ _ _ h => h) (Or.inr ⟨by rfl, rfl⟩) hS0 ?_
                try simp only [Act.put, List.setIfInBounds_toArray, List.set_cons_zero, List.set_cons_succ]
                refine wpAnyH_take (i := 12) (oi := ({ dst := some 71, op := Op.slice 39 (Operand.tmp 69) none (some (Operand.tmp 70)) none, type := 39, pos := "outright.go:37", after := #[{ on := 10, ground := Ground.data }, { on := 11, ground := Ground.data }, { on := 7, ground := Ground.guard }], guard := some (7, true) } : Oper)) (v := undef) rfl (by kernel_rfl) (by kernel_rfl) (by kernel_rfl) (fun _ _ _ h => h) (Or.inr ⟨by rfl, rfl⟩) hS0 ?_
                try simp only [Act.put, List.setIfInBounds_toArray, List.set_cons_zero, List.set_cons_succ]
                refine wpAnyH_take (i := 13) (oi := ({ dst := some 72, op := Op.convert 39 9 (Operand.tmp 71), type := 9, pos := "outright.go:37", after := #[{ on := 12, ground := Ground.data }, { on := 7, ground := Ground.guard }], guard := some (7, true) } : Oper)) (v := undef) rfl (by kernel_rfl) (by kernel_rfl) (by kernel_rfl) (fun _ _ _ h => h) (Or.inr ⟨by rfl, rfl⟩) hS0 ?_
                try simp only [Act.put, List.setIfInBounds_toArray, List.set_cons_zero, List.set_cons_succ]
                refine wpAnyH_ready (rs := [9, 14]) (by kernel_rfl) (by simp) ?_
                refine (AllReadyH.cons (o := ({ dst := some 68, op := Op.call { callee := Callee.value (Operand.func 20), args := #[Operand.tmp 67], argTypes := #[33] }, type := 26, pos := "outright.go:37", after := #[{ on := 8, ground := Ground.data }, { on := 7, ground := Ground.chain }, { on := 7, ground := Ground.guard }], guard := some (7, true) } : Oper)) rfl (fun K' hK => ?_) (AllReadyH.cons (o := ({ dst := some 73, op := Op.buildSlice 22 1 #[(0, Operand.tmp 72)], type := 22, pos := "outright.go:37", after := #[{ on := 13, ground := Ground.data }, { on := 7, ground := Ground.guard }], guard := some (7, true) } : Oper)) rfl (fun K' hK => ?_) AllReadyH.nil))
                · go_simp
                  refine hK.out _ _ (hkp.out _ nb) (fun hS0 => ?_)
                  try simp only [Act.put, List.setIfInBounds_toArray, List.set_cons_zero, List.set_cons_succ]
                  refine wpAnyH_ready (rs := [14]) (by kernel_rfl) (by simp) ?_
                  refine (AllReadyH.cons (o := ({ dst := some 73, op := Op.buildSlice 22 1 #[(0, Operand.tmp 72)], type := 22, pos := "outright.go:37", after := #[{ on := 13, ground := Ground.data }, { on := 7, ground := Ground.guard }], guard := some (7, true) } : Oper)) rfl (fun K' hK => ?_) AllReadyH.nil)
                  go_simp
                  refine hK.out _ _ (hkp.out _ nb) (fun hS0 => ?_)
                  try simp only [Act.put, List.setIfInBounds_toArray, List.set_cons_zero, List.set_cons_succ]
                  refine wpAnyH_ready (rs := [15]) (by kernel_rfl) (by simp) ?_
                  refine (AllReadyH.cons (o := ({ dst := some 74, op := Op.call { callee := Callee.value (Operand.func 13), args := #[Operand.tmp 73], argTypes := #[22] }, type := 26, pos := "outright.go:37", after := #[{ on := 14, ground := Ground.data }, { on := 9, ground := Ground.chain }, { on := 7, ground := Ground.guard }], guard := some (7, true) } : Oper)) rfl (fun K' hK => ?_) AllReadyH.nil)
                  go_simp
                  refine hK.out _ _ (hkp.out _ nb) (fun hS0 => ?_)
                  try simp only [Act.put, List.setIfInBounds_toArray, List.set_cons_zero, List.set_cons_succ]
                  refine wpAnyH_take (i := 16) (oi := ({ dst := some 75, op := Op.binOp BinOp.neq 26 (Operand.tmp 68) (Operand.tmp 74) 26, type := 4, pos := "outright.go:37", after := #[{ on := 9, ground := Ground.data }, { on := 15, ground := Ground.data }, { on := 7, ground := Ground.guard }], guard := some (7, true) } : Oper)) (v := undef) rfl (by kernel_rfl) (by kernel_rfl) (by kernel_rfl) (fun _ _ _ h => h) (Or.inr ⟨by rfl, rfl⟩) hS0 ?_
                  try simp only [Act.put, List.setIfInBounds_toArray, List.set_cons_zero, List.set_cons_succ]
                  refine wpAnyH_take (i := 17) (oi := ({ dst := some 76, op := Op.pick (Operand.tmp 66) (Operand.tmp 75) (Operand.const (Value.bool false)), type := 4, pos := "outright.go:37", after := #[{ on := 7, ground := Ground.data }, { on := 16, ground := Ground.data }], guard := none } : Oper)) (v := .bool false) rfl (by kernel_rfl) (by kernel_rfl) (by kernel_rfl) (fun _ _ _ h => h) (Or.inl ⟨by rfl, by intro w hw; go_simp⟩) hS0 ?_
                  try simp only [Act.put, List.setIfInBounds_toArray, List.set_cons_zero, List.set_cons_succ]
                  refine wpAnyH_done (by kernel_rfl) ?_ _
                  go_wp2_with fail
                  go_meet
                  exact ⟨rfl, nb⟩
                · go_simp
                  refine hK.out _ _ (hkp.out _ nb) (fun hS0 => ?_)
                  try simp only [Act.put, List.setIfInBounds_toArray, List.set_cons_zero, List.set_cons_succ]
                  refine wpAnyH_ready (rs := [9]) (by kernel_rfl) (by simp) ?_
                  refine (AllReadyH.cons (o := ({ dst := some 68, op := Op.call { callee := Callee.value (Operand.func 20), args := #[Operand.tmp 67], argTypes := #[33] }, type := 26, pos := "outright.go:37", after := #[{ on := 8, ground := Ground.data }, { on := 7, ground := Ground.chain }, { on := 7, ground := Ground.guard }], guard := some (7, true) } : Oper)) rfl (fun K' hK => ?_) AllReadyH.nil)
                  go_simp
                  refine hK.out _ _ (hkp.out _ nb) (fun hS0 => ?_)
                  try simp only [Act.put, List.setIfInBounds_toArray, List.set_cons_zero, List.set_cons_succ]
                  refine wpAnyH_ready (rs := [15]) (by kernel_rfl) (by simp) ?_
                  refine (AllReadyH.cons (o := ({ dst := some 74, op := Op.call { callee := Callee.value (Operand.func 13), args := #[Operand.tmp 73], argTypes := #[22] }, type := 26, pos := "outright.go:37", after := #[{ on := 14, ground := Ground.data }, { on := 9, ground := Ground.chain }, { on := 7, ground := Ground.guard }], guard := some (7, true) } : Oper)) rfl (fun K' hK => ?_) AllReadyH.nil)
                  go_simp
                  refine hK.out _ _ (hkp.out _ nb) (fun hS0 => ?_)
                  try simp only [Act.put, List.setIfInBounds_toArray, List.set_cons_zero, List.set_cons_succ]
                  refine wpAnyH_take (i := 16) (oi := ({ dst := some 75, op := Op.binOp BinOp.neq 26 (Operand.tmp 68) (Operand.tmp 74) 26, type := 4, pos := "outright.go:37", after := #[{ on := 9, ground := Ground.data }, { on := 15, ground := Ground.data }, { on := 7, ground := Ground.guard }], guard := some (7, true) } : Oper)) (v := undef) rfl (by kernel_rfl) (by kernel_rfl) (by kernel_rfl) (fun _ _ _ h => h) (Or.inr ⟨by rfl, rfl⟩) hS0 ?_
                  try simp only [Act.put, List.setIfInBounds_toArray, List.set_cons_zero, List.set_cons_succ]
                  refine wpAnyH_take (i := 17) (oi := ({ dst := some 76, op := Op.pick (Operand.tmp 66) (Operand.tmp 75) (Operand.const (Value.bool false)), type := 4, pos := "outright.go:37", after := #[{ on := 7, ground := Ground.data }, { on := 16, ground := Ground.data }], guard := none } : Oper)) (v := .bool false) rfl (by kernel_rfl) (by kernel_rfl) (by kernel_rfl) (fun _ _ _ h => h) (Or.inl ⟨by rfl, by intro w hw; go_simp⟩) hS0 ?_
                  try simp only [Act.put, List.setIfInBounds_toArray, List.set_cons_zero, List.set_cons_succ]
                  refine wpAnyH_done (by kernel_rfl) ?_ _
                  go_wp2_with fail
                  go_meet
                  exact ⟨rfl, nb⟩

            · obtain ⟨r, hrr⟩ : ∃ r, r = (k : Int).tmod 2 := ⟨_, rfl⟩
              have hrm : (k : Int).tmod 2 = r := hrr.symm
              have hr1 : ¬ r = 1 := by rw [hrr, Int.tmod_eq_emod_of_nonneg hk0]; omega
              clear h1 hrr hsl0
              have nb : Nw w7 w7.drew := (Fr.refl _ _).drew
              refine wp_region_held_drew (S := fun W => (convert 39 9 (.slice p0 t cb)).run Tryd.prog W = .ok (.string XT) W) (by kernel_rfl) (hkp.out _ nb) ?_
              intro hS0
              refine wpAnyH_take (i := 0) (oi := ({ dst := some 59, op := Op.move (Operand.tmp 8), type := 3, pos := "outright.go:37", after := #[], guard := none } : Oper)) (v := .int .i64 (k : Int)) rfl (by kernel_rfl) (by kernel_rfl) (by kernel_rfl) (fun _ _ _ h => h) (Or.inl ⟨by rfl, by intro w hw; go_simp⟩) hS0 ?_
              try simp only [Act.put, List.setIfInBounds_toArray, List.set_cons_zero, List.set_cons_succ]
              refine wpAnyH_take (i := 1) (oi := ({ dst := some 60, op := Op.binOp BinOp.rem 3 (Operand.tmp 59) (Operand.const (Value.int IntKind.i64 2)) 3, type := 3, pos := "outright.go:37", after := #[{ on := 0, ground := Ground.data }], guard := none } : Oper)) (v := .int .i64 r) rfl (by kernel_rfl) (by kernel_rfl) (by kernel_rfl) (fun _ _ _ h => h) (Or.inl ⟨by rfl, by intro w hw; go_simp⟩) hS0 ?_
              try simp only [Act.put, List.setIfInBounds_toArray, List.set_cons_zero, List.set_cons_succ]
              refine wpAnyH_take (i := 2) (oi := ({ dst := some 61, op := Op.binOp BinOp.eql 3 (Operand.tmp 60) (Operand.const (Value.int IntKind.i64 1)) 3, type := 4, pos := "outright.go:37", after := #[{ on := 1, ground := Ground.data }], guard := none } : Oper)) (v := .bool false) rfl (by kernel_rfl) (by kernel_rfl) (by kernel_rfl) (fun _ _ _ h => h) (Or.inl ⟨by rfl, by intro w hw; go_simp⟩) hS0 ?_
              try simp only [Act.put, List.setIfInBounds_toArray, List.set_cons_zero, List.set_cons_succ]
              refine wpAnyH_take (i := 3) (oi := ({ dst := some 62, op := Op.move (Operand.tmp 61), type := 4, pos := "outright.go:37", after := #[{ on := 2, ground := Ground.data }], guard := none } : Oper)) (v := .bool false) rfl (by kernel_rfl) (by kernel_rfl) (by kernel_rfl) (fun _ _ _ h => h) (Or.inl ⟨by rfl, by intro w hw; go_simp⟩) hS0 ?_
              try simp only [Act.put, List.setIfInBounds_toArray, List.set_cons_zero, List.set_cons_succ]
              refine wpAnyH_take (i := 4) (oi := ({ dst := some 63, op := Op.move (Operand.tmp 8), type := 3, pos := "outright.go:37", after := #[{ on := 3, ground := Ground.guard }], guard := some (3, true) } : Oper)) (v := undef) rfl (by kernel_rfl) (by kernel_rfl) (by kernel_rfl) (fun _ _ _ h => h) (Or.inr ⟨by rfl, rfl⟩) hS0 ?_
              try simp only [Act.put, List.setIfInBounds_toArray, List.set_cons_zero, List.set_cons_succ]
              refine wpAnyH_take (i := 5) (oi := ({ dst := some 64, op := Op.binOp BinOp.lss 3 (Operand.tmp 63) (Operand.const (Value.int IntKind.i64 20)) 3, type := 4, pos := "outright.go:37", after := #[{ on := 4, ground := Ground.data }, { on := 3, ground := Ground.guard }], guard := some (3, true) } : Oper)) (v := undef) rfl (by kernel_rfl) (by kernel_rfl) (by kernel_rfl) (fun _ _ _ h => h) (Or.inr ⟨by rfl, rfl⟩) hS0 ?_
              try simp only [Act.put, List.setIfInBounds_toArray, List.set_cons_zero, List.set_cons_succ]
              refine wpAnyH_take (i := 6) (oi := ({ dst := some 65, op := Op.pick (Operand.tmp 62) (Operand.tmp 64) (Operand.const (Value.bool false)), type := 4, pos := "outright.go:37", after := #[{ on := 3, ground := Ground.data }, { on := 5, ground := Ground.data }], guard := none } : Oper)) (v := .bool false) rfl (by kernel_rfl) (by kernel_rfl) (by kernel_rfl) (fun _ _ _ h => h) (Or.inl ⟨by rfl, by intro w hw; go_simp⟩) hS0 ?_
              try simp only [Act.put, List.setIfInBounds_toArray, List.set_cons_zero, List.set_cons_succ]
              refine wpAnyH_take (i := 7) (oi := ({ dst := some 66, op := Op.move (Operand.tmp 65), type := 4, pos := "outright.go:37", after := #[{ on := 6, ground := Ground.data }, { on := 3, ground := Ground.chain }], guard := none } : Oper)) (v := .bool false) rfl (by kernel_rfl) (by kernel_rfl) (by kernel_rfl) (fun _ _ _ h => h) (Or.inl ⟨by rfl, by intro w hw; go_simp⟩) hS0 ?_
              try simp only [Act.put, List.setIfInBounds_toArray, List.set_cons_zero, List.set_cons_succ]
              refine wpAnyH_take (i := 8) (oi := ({ dst := some 67, op := Op.move (Operand.tmp 5), type := 33, pos := "outright.go:37", after := #[{ on := 7, ground := Ground.guard }], guard := some (7, true) } : Oper)) (v := undef) rfl (by kernel_rfl) (by kernel_rfl) (by kernel_rfl) (fun _ _ _ h => h) (Or.inr ⟨by rfl, rfl⟩) hS0 ?_
              try simp only [Act.put, List.setIfInBounds_toArray, List.set_cons_zero, List.set_cons_succ]
              refine wpAnyH_take (i := 10) (oi := ({ dst := some 69, op := Op.move (Operand.tmp 0), type := 39, pos := "outright.go:37", after := #[{ on := 7, ground := Ground.guard }], guard := some (7, true) } : Oper)) (v := undef) rfl (by kernel_rfl) (by kernel_rfl) (by kernel_rfl) (fun _ _ _ h => h) (Or.inr ⟨by rfl, rfl⟩) hS0 ?_
              try simp only [Act.put, List.setIfInBounds_toArray, List.set_cons_zero, List.set_cons_succ]
              refine wpAnyH_take (i := 11) (oi := ({ dst := some 70, op := Op.move (Operand.tmp 9), type := 3, pos := "outright.go:37", after := #[{ on := 7, ground := Ground.guard }], guard := some (7, true) } : Oper)) (v := undef) rfl (by kernel_rfl) (by kernel_rfl) (by kernel_rfl) (fun _ _ _ h => h) (Or.inr ⟨by rfl, rfl⟩) hS0 ?_
              try simp only [Act.put, List.setIfInBounds_toArray, List.set_cons_zero, List.set_cons_succ]
              refine wpAnyH_take (i := 12) (oi := ({ dst := some 71, op := Op.slice 39 (Operand.tmp 69) none (some (Operand.tmp 70)) none, type := 39, pos := "outright.go:37", after := #[{ on := 10, ground := Ground.data }, { on := 11, ground := Ground.data }, { on := 7, ground := Ground.guard }], guard := some (7, true) } : Oper)) (v := undef) rfl (by kernel_rfl) (by kernel_rfl) (by kernel_rfl) (fun _ _ _ h => h) (Or.inr ⟨by rfl, rfl⟩) hS0 ?_
              try simp only [Act.put, List.setIfInBounds_toArray, List.set_cons_zero, List.set_cons_succ]
              refine wpAnyH_take (i := 13) (oi := ({ dst := some 72, op := Op.convert 39 9 (Operand.tmp 71), type := 9, pos := "outright.go:37", after := #[{ on := 12, ground := Ground.data }, { on := 7, ground := Ground.guard }], guard := some (7, true) } : Oper)) (v := undef) rfl (by kernel_rfl) (by kernel_rfl) (by kernel_rfl) (fun _ _ _ h => h) (Or.inr ⟨by rfl, rfl⟩) hS0 ?_
              try simp only [Act.put, List.setIfInBounds_toArray, List.set_cons_zero, List.set_cons_succ]
              refine wpAnyH_ready (rs := [9, 14]) (by kernel_rfl) (by simp) ?_
              refine (AllReadyH.cons (o := ({ dst := some 68, op := Op.call { callee := Callee.value (Operand.func 20), args := #[Operand.tmp 67], argTypes := #[33] }, type := 26, pos := "outright.go:37", after := #[{ on := 8, ground := Ground.data }, { on := 7, ground := Ground.chain }, { on := 7, ground := Ground.guard }], guard := some (7, true) } : Oper)) rfl (fun K' hK => ?_) (AllReadyH.cons (o := ({ dst := some 73, op := Op.buildSlice 22 1 #[(0, Operand.tmp 72)], type := 22, pos := "outright.go:37", after := #[{ on := 13, ground := Ground.data }, { on := 7, ground := Ground.guard }], guard := some (7, true) } : Oper)) rfl (fun K' hK => ?_) AllReadyH.nil))
              · go_simp
                refine hK.out _ _ (hkp.out _ nb) (fun hS0 => ?_)
                try simp only [Act.put, List.setIfInBounds_toArray, List.set_cons_zero, List.set_cons_succ]
                refine wpAnyH_ready (rs := [14]) (by kernel_rfl) (by simp) ?_
                refine (AllReadyH.cons (o := ({ dst := some 73, op := Op.buildSlice 22 1 #[(0, Operand.tmp 72)], type := 22, pos := "outright.go:37", after := #[{ on := 13, ground := Ground.data }, { on := 7, ground := Ground.guard }], guard := some (7, true) } : Oper)) rfl (fun K' hK => ?_) AllReadyH.nil)
                go_simp
                refine hK.out _ _ (hkp.out _ nb) (fun hS0 => ?_)
                try simp only [Act.put, List.setIfInBounds_toArray, List.set_cons_zero, List.set_cons_succ]
                refine wpAnyH_ready (rs := [15]) (by kernel_rfl) (by simp) ?_
                refine (AllReadyH.cons (o := ({ dst := some 74, op := Op.call { callee := Callee.value (Operand.func 13), args := #[Operand.tmp 73], argTypes := #[22] }, type := 26, pos := "outright.go:37", after := #[{ on := 14, ground := Ground.data }, { on := 9, ground := Ground.chain }, { on := 7, ground := Ground.guard }], guard := some (7, true) } : Oper)) rfl (fun K' hK => ?_) AllReadyH.nil)
                go_simp
                refine hK.out _ _ (hkp.out _ nb) (fun hS0 => ?_)
                try simp only [Act.put, List.setIfInBounds_toArray, List.set_cons_zero, List.set_cons_succ]
                refine wpAnyH_take (i := 16) (oi := ({ dst := some 75, op := Op.binOp BinOp.neq 26 (Operand.tmp 68) (Operand.tmp 74) 26, type := 4, pos := "outright.go:37", after := #[{ on := 9, ground := Ground.data }, { on := 15, ground := Ground.data }, { on := 7, ground := Ground.guard }], guard := some (7, true) } : Oper)) (v := undef) rfl (by kernel_rfl) (by kernel_rfl) (by kernel_rfl) (fun _ _ _ h => h) (Or.inr ⟨by rfl, rfl⟩) hS0 ?_
                try simp only [Act.put, List.setIfInBounds_toArray, List.set_cons_zero, List.set_cons_succ]
                refine wpAnyH_take (i := 17) (oi := ({ dst := some 76, op := Op.pick (Operand.tmp 66) (Operand.tmp 75) (Operand.const (Value.bool false)), type := 4, pos := "outright.go:37", after := #[{ on := 7, ground := Ground.data }, { on := 16, ground := Ground.data }], guard := none } : Oper)) (v := .bool false) rfl (by kernel_rfl) (by kernel_rfl) (by kernel_rfl) (fun _ _ _ h => h) (Or.inl ⟨by rfl, by intro w hw; go_simp⟩) hS0 ?_
                try simp only [Act.put, List.setIfInBounds_toArray, List.set_cons_zero, List.set_cons_succ]
                refine wpAnyH_done (by kernel_rfl) ?_ _
                go_wp2_with fail
                go_meet
                exact ⟨rfl, nb⟩
              · go_simp
                refine hK.out _ _ (hkp.out _ nb) (fun hS0 => ?_)
                try simp only [Act.put, List.setIfInBounds_toArray, List.set_cons_zero, List.set_cons_succ]
                refine wpAnyH_ready (rs := [9]) (by kernel_rfl) (by simp) ?_
                refine (AllReadyH.cons (o := ({ dst := some 68, op := Op.call { callee := Callee.value (Operand.func 20), args := #[Operand.tmp 67], argTypes := #[33] }, type := 26, pos := "outright.go:37", after := #[{ on := 8, ground := Ground.data }, { on := 7, ground := Ground.chain }, { on := 7, ground := Ground.guard }], guard := some (7, true) } : Oper)) rfl (fun K' hK => ?_) AllReadyH.nil)
                go_simp
                refine hK.out _ _ (hkp.out _ nb) (fun hS0 => ?_)
                try simp only [Act.put, List.setIfInBounds_toArray, List.set_cons_zero, List.set_cons_succ]
                refine wpAnyH_ready (rs := [15]) (by kernel_rfl) (by simp) ?_
                refine (AllReadyH.cons (o := ({ dst := some 74, op := Op.call { callee := Callee.value (Operand.func 13), args := #[Operand.tmp 73], argTypes := #[22] }, type := 26, pos := "outright.go:37", after := #[{ on := 14, ground := Ground.data }, { on := 9, ground := Ground.chain }, { on := 7, ground := Ground.guard }], guard := some (7, true) } : Oper)) rfl (fun K' hK => ?_) AllReadyH.nil)
                go_simp
                refine hK.out _ _ (hkp.out _ nb) (fun hS0 => ?_)
                try simp only [Act.put, List.setIfInBounds_toArray, List.set_cons_zero, List.set_cons_succ]
                refine wpAnyH_take (i := 16) (oi := ({ dst := some 75, op := Op.binOp BinOp.neq 26 (Operand.tmp 68) (Operand.tmp 74) 26, type := 4, pos := "outright.go:37", after := #[{ on := 9, ground := Ground.data }, { on := 15, ground := Ground.data }, { on := 7, ground := Ground.guard }], guard := some (7, true) } : Oper)) (v := undef) rfl (by kernel_rfl) (by kernel_rfl) (by kernel_rfl) (fun _ _ _ h => h) (Or.inr ⟨by rfl, rfl⟩) hS0 ?_
                try simp only [Act.put, List.setIfInBounds_toArray, List.set_cons_zero, List.set_cons_succ]
                refine wpAnyH_take (i := 17) (oi := ({ dst := some 76, op := Op.pick (Operand.tmp 66) (Operand.tmp 75) (Operand.const (Value.bool false)), type := 4, pos := "outright.go:37", after := #[{ on := 7, ground := Ground.data }, { on := 16, ground := Ground.data }], guard := none } : Oper)) (v := .bool false) rfl (by kernel_rfl) (by kernel_rfl) (by kernel_rfl) (fun _ _ _ h => h) (Or.inl ⟨by rfl, by intro w hw; go_simp⟩) hS0 ?_
                try simp only [Act.put, List.setIfInBounds_toArray, List.set_cons_zero, List.set_cons_succ]
                refine wpAnyH_done (by kernel_rfl) ?_ _
                go_wp2_with fail
                go_meet
                exact ⟨rfl, nb⟩

          case rest =>
            obtain ⟨rfl, n8⟩ := hcut
            have hT := HT.out
            go_wp2
            refine ⟨⟨k + 1, t, ls ++ [X], by omega, hT.2.1, by go_num, rfl, n7.tr n8, Nat.le_trans hsz7 n8.size, HD7.out.keep n8 (fun h => h), ?_, by simp [HLs.out], ?_, fun h => hT.2.2 (by omega)⟩, by simp [intOf]; omega⟩
            · have := HO7.out.nw n8
              rw [show k + 1 = (ls ++ [X]).length by simp [HLs.out]] at this
              simpa [HLs.out] using this
            · rw [cat_push, HCat.out, HX.out, ← HTk.out]
      · obtain rfl : k = m + 1 := by omega
        obtain rfl := hend rfl
        have hBt : B.take fr = B := List.take_of_length_le (by have := Hn.out; omega)
        have HD8 : Hid (Dig wr d B) := by unfold Hid; rw [← hBt]; exact HDg.out
        have HC8 : Hid (cat ls = B) := by unfold Hid; rw [HCat.out, hBt]
        clear HDg HCat hBt hend hlast
        have hki : ¬ ((m + 1 : Nat) : Int) ≤ (m : Int) := by omega
        have hcv := conv_bys (HB.out.nw hnw) cb
        rw [← Hn.out] at hcv
        obtain ⟨XB, hXB⟩ : ∃ X : ByteArray, X = ⟨B.toArray⟩ := ⟨_, rfl⟩
        rw [← hXB] at hcv
        obtain ⟨T, hTT⟩ : ∃ T, T = sha B := ⟨_, rfl⟩
        have ec : cat [XB] = B := by rw [hXB]; simp [cat]
        have QB : Hid (∀ p W, Nw w W → Strs W p [XB] → Calls Tryd.prog 13 #[.slice p 1 1] W fun e w' => e = .returned (.agg (hcs T 32)) ∧ Nw W w') := fun p W hW hs => by
          have := sums_any p 1 [XB] W hs (HL.out.nw hW) (by rw [ec, ← Hn.out]; omega) (by simp)
          rw [ec, ← hTT] at this
          exact this
        have HTT : Hid (T = sha B) := hTT
        have HEC : Hid (cat [XB] = B) := ec
        clear hTT ec
        have HO8 : Hid (OwnS w3.heap.size wr (.slice va ls.length vc) ls) := HO.out
        obtain ⟨lk, hlk⟩ : ∃ l, l = m + 1 := ⟨_, rfl⟩
        rw [← hlk] at HLs ⊢
        have hlk' : ((m + 1 : Nat) : Int) = (lk : Int) := by rw [hlk]
        rw [hlk'] at hki
        have hlk2 : lk ≤ 1048577 := by omega
        clear hlk hlk' hXB hsz
        have hg : ¬ (lk : Int) ≤ (fr : Int) ∨ True := .inr trivial
        clear hg
        go_wp2_with fail
        refine (QB.out _ _ (hnw.alloc _) (strs1 _ _)).mono ?_
        rintro e8 w8 ⟨rfl, n8⟩
        have k8 : Nw wr w8 := Nw.tr ((Fr.refl _ _).alloc _) n8
        clear n8 hcv
        go_wp2_with (refine wp_store_agg rfl (.tmp 10) (.tmp 81) 26 32 rfl Tryd.sizeOf26 w8.heap.size 0 rfl _ 26 (heap_new _ _) (hcs T 32) rfl (hcs_size _ _) (hcs_one T 32) (by decide) (hcs T 32) (by simp) ?_; intro w9 j9 f9 z9; have k9 : Nw w8 w9 := ((Fr.refl _ _).alloc _).trans f9 (fun k hk q => by omega); clear z9 f9)
        have n89 : Nw wr w9 := k8.tr k9
        have n9w : Nw w w9 := hnw.tr n89
        obtain ⟨hb, hhb⟩ : ∃ b, b = w8.heap.size := ⟨_, rfl⟩
        rw [← hhb] at j9 ⊢
        clear hhb k8 k9
        have QS : Hid (∀ W, Nw w9 W → Calls Tryd.prog 20 #[.pointer (some ⟨d, 0, none⟩)] W fun e w' => e = .returned (.agg (hcs T 32)) ∧ Nw W w') := fun W hW => by
          have := sum_dig d B W (HD8.out.keep (n89.tr hW) (fun h => h)) (HL.out.nw (n9w.tr hW)) (by rw [← Hn.out]; omega)
          rw [← HTT.out] at this
          exact this
        have QL : Hid (∀ W, Nw w9 W → Calls Tryd.prog 23 #[.pointer (some ⟨d, 0, none⟩)] W fun e w' => e = .returned (.int .u64 (fr : Int)) ∧ w' = W) := fun W hW => by
          have := len_dig d B W (HD8.out.keep (n89.tr hW) (fun h => h))
          rw [← Hn.out] at this
          exact this
        have QP : Hid (∀ W, Nw w9 W → Calls Tryd.prog 13 #[.slice va lk vc] W fun e w' => e = .returned (.agg (hcs T 32)) ∧ Nw W w') := fun W hW => by
          have := sums_any va vc ls W (HO8.out.nw (n89.tr hW)).strs (HL.out.nw (n9w.tr hW)) (by rw [HC8.out, ← Hn.out]; omega) (by rw [HLs.out]; omega)
          rw [HC8.out, ← HTT.out, HLs.out] at this
          exact this
        have he := fun W => hash_eq T W
        have hkp : Hid (∀ W, Nw w9 W → W.heap[hb]? = some (.cells (hcs T 32) 26 (0, 0))) := fun W hW => (hW.block _ (heap_lt j9) (fun f => f)).trans j9
        have i3 : IntKind.u64.wrap (fr : Int) = (fr : Int) := by rw [IntKind.wrap_u64]; omega
        clear j9
        go_wp2
        have nb : Nw w9 w9.drew := (Fr.refl _ _).drew
        refine wp_region_held_drew (S := fun W => W.heap[hb]? = some (.cells (hcs T 32) 26 (0, 0))) (by kernel_rfl) (hkp.out _ nb) ?_
        intro hS0
        refine wpAnyH_take (i := 0) (oi := ({ dst := some 82, op := Op.move (Operand.tmp 5), type := 33, pos := "outright.go:43", after := #[], guard := none } : Oper)) (v := .pointer (some ⟨d, 0, none⟩)) rfl (by kernel_rfl) (by kernel_rfl) (by kernel_rfl) (fun _ _ _ h => h) (Or.inl ⟨by rfl, by intro w hw; go_simp⟩) hS0 ?_
        try simp only [Act.put, List.setIfInBounds_toArray, List.set_cons_zero, List.set_cons_succ]
        refine wpAnyH_take (i := 2) (oi := ({ dst := some 84, op := Op.load 26 (Operand.tmp 10), type := 26, pos := "outright.go:43", after := #[], guard := none } : Oper)) (v := .agg (hcs T 32)) rfl (by kernel_rfl) (by kernel_rfl) (by kernel_rfl) (fun _ _ _ h => h) (yields_load_g (by rfl) (.tmp 10) 26 32 rfl Tryd.isAgg26 Tryd.sizeOf26 hb rfl 26 (hcs T 32) (hcs_size _ _) (fun w hw => hw)) hS0 ?_
        try simp only [Act.put, List.setIfInBounds_toArray, List.set_cons_zero, List.set_cons_succ]
        refine wpAnyH_ready (rs := [1]) (by kernel_rfl) (by simp) ?_
        refine (AllReadyH.cons (o := ({ dst := some 83, op := Op.call { callee := Callee.value (Operand.func 20), args := #[Operand.tmp 82], argTypes := #[33] }, type := 26, pos := "outright.go:43", after := #[{ on := 0, ground := Ground.data }], guard := none } : Oper)) rfl (fun K' hK => ?_) AllReadyH.nil)
        go_simp
        go_wp2_with (go_at_call 20; refine (QS.out _ nb).mono ?_; rintro ex w101 ⟨rfl, nw101⟩)
        have nb := nb.tr nw101
        refine hK.out _ _ (hkp.out _ nb) (fun hS0 => ?_)
        try simp only [Act.put, List.setIfInBounds_toArray, List.set_cons_zero, List.set_cons_succ]
        refine wpAnyH_take (i := 3) (oi := ({ dst := some 85, op := Op.binOp BinOp.eql 26 (Operand.tmp 83) (Operand.tmp 84) 26, type := 4, pos := "outright.go:43", after := #[{ on := 1, ground := Ground.data }, { on := 2, ground := Ground.data }], guard := none } : Oper)) (v := .bool true) rfl (by kernel_rfl) (by kernel_rfl) (by kernel_rfl) (fun _ _ _ h => h) (Or.inl ⟨by rfl, by intro w hw; go_simp⟩) hS0 ?_
        try simp only [Act.put, List.setIfInBounds_toArray, List.set_cons_zero, List.set_cons_succ]
        refine wpAnyH_take (i := 4) (oi := ({ dst := some 86, op := Op.move (Operand.tmp 85), type := 4, pos := "outright.go:43", after := #[{ on := 3, ground := Ground.data }, { on := 1, ground := Ground.chain }], guard := none } : Oper)) (v := .bool true) rfl (by kernel_rfl) (by kernel_rfl) (by kernel_rfl) (fun _ _ _ h => h) (Or.inl ⟨by rfl, by intro w hw; go_simp⟩) hS0 ?_
        try simp only [Act.put, List.setIfInBounds_toArray, List.set_cons_zero, List.set_cons_succ]
        refine wpAnyH_take (i := 5) (oi := ({ dst := some 87, op := Op.move (Operand.tmp 5), type := 33, pos := "outright.go:43", after := #[{ on := 4, ground := Ground.guard }], guard := some (4, true) } : Oper)) (v := .pointer (some ⟨d, 0, none⟩)) rfl (by kernel_rfl) (by kernel_rfl) (by kernel_rfl) (fun _ _ _ h => h) (Or.inl ⟨by rfl, by intro w hw; go_simp⟩) hS0 ?_
        try simp only [Act.put, List.setIfInBounds_toArray, List.set_cons_zero, List.set_cons_succ]
        refine wpAnyH_take (i := 7) (oi := ({ dst := some 89, op := Op.load 26 (Operand.tmp 10), type := 26, pos := "outright.go:43", after := #[{ on := 4, ground := Ground.guard }], guard := some (4, true) } : Oper)) (v := .agg (hcs T 32)) rfl (by kernel_rfl) (by kernel_rfl) (by kernel_rfl) (fun _ _ _ h => h) (yields_load_g (by rfl) (.tmp 10) 26 32 rfl Tryd.isAgg26 Tryd.sizeOf26 hb rfl 26 (hcs T 32) (hcs_size _ _) (fun w hw => hw)) hS0 ?_
        try simp only [Act.put, List.setIfInBounds_toArray, List.set_cons_zero, List.set_cons_succ]
        refine wpAnyH_ready (rs := [6]) (by kernel_rfl) (by simp) ?_
        refine (AllReadyH.cons (o := ({ dst := some 88, op := Op.call { callee := Callee.value (Operand.func 20), args := #[Operand.tmp 87], argTypes := #[33] }, type := 26, pos := "outright.go:43", after := #[{ on := 5, ground := Ground.data }, { on := 4, ground := Ground.chain }, { on := 4, ground := Ground.guard }], guard := some (4, true) } : Oper)) rfl (fun K' hK => ?_) AllReadyH.nil)
        go_simp
        go_wp2_with (go_at_call 20; refine (QS.out _ nb).mono ?_; rintro ex w102 ⟨rfl, nw102⟩)
        have nb := nb.tr nw102
        refine hK.out _ _ (hkp.out _ nb) (fun hS0 => ?_)
        try simp only [Act.put, List.setIfInBounds_toArray, List.set_cons_zero, List.set_cons_succ]
        refine wpAnyH_take (i := 8) (oi := ({ dst := some 90, op := Op.binOp BinOp.eql 26 (Operand.tmp 88) (Operand.tmp 89) 26, type := 4, pos := "outright.go:43", after := #[{ on := 6, ground := Ground.data }, { on := 7, ground := Ground.data }, { on := 4, ground := Ground.guard }], guard := some (4, true) } : Oper)) (v := .bool true) rfl (by kernel_rfl) (by kernel_rfl) (by kernel_rfl) (fun _ _ _ h => h) (Or.inl ⟨by rfl, by intro w hw; go_simp⟩) hS0 ?_
        try simp only [Act.put, List.setIfInBounds_toArray, List.set_cons_zero, List.set_cons_succ]
        refine wpAnyH_take (i := 9) (oi := ({ dst := some 91, op := Op.pick (Operand.tmp 86) (Operand.tmp 90) (Operand.const (Value.bool false)), type := 4, pos := "outright.go:43", after := #[{ on := 4, ground := Ground.data }, { on := 8, ground := Ground.data }], guard := none } : Oper)) (v := .bool true) rfl (by kernel_rfl) (by kernel_rfl) (by kernel_rfl) (fun _ _ _ h => h) (Or.inl ⟨by rfl, by intro w hw; go_simp⟩) hS0 ?_
        try simp only [Act.put, List.setIfInBounds_toArray, List.set_cons_zero, List.set_cons_succ]
        refine wpAnyH_take (i := 10) (oi := ({ dst := some 92, op := Op.move (Operand.tmp 91), type := 4, pos := "outright.go:43", after := #[{ on := 9, ground := Ground.data }, { on := 6, ground := Ground.chain }], guard := none } : Oper)) (v := .bool true) rfl (by kernel_rfl) (by kernel_rfl) (by kernel_rfl) (fun _ _ _ h => h) (Or.inl ⟨by rfl, by intro w hw; go_simp⟩) hS0 ?_
        try simp only [Act.put, List.setIfInBounds_toArray, List.set_cons_zero, List.set_cons_succ]
        refine wpAnyH_take (i := 11) (oi := ({ dst := some 93, op := Op.move (Operand.tmp 6), type := 22, pos := "outright.go:43", after := #[{ on := 10, ground := Ground.guard }], guard := some (10, true) } : Oper)) (v := .slice va lk vc) rfl (by kernel_rfl) (by kernel_rfl) (by kernel_rfl) (fun _ _ _ h => h) (Or.inl ⟨by rfl, by intro w hw; go_simp⟩) hS0 ?_
        try simp only [Act.put, List.setIfInBounds_toArray, List.set_cons_zero, List.set_cons_succ]
        refine wpAnyH_take (i := 13) (oi := ({ dst := some 95, op := Op.load 26 (Operand.tmp 10), type := 26, pos := "outright.go:43", after := #[{ on := 10, ground := Ground.guard }], guard := some (10, true) } : Oper)) (v := .agg (hcs T 32)) rfl (by kernel_rfl) (by kernel_rfl) (by kernel_rfl) (fun _ _ _ h => h) (yields_load_g (by rfl) (.tmp 10) 26 32 rfl Tryd.isAgg26 Tryd.sizeOf26 hb rfl 26 (hcs T 32) (hcs_size _ _) (fun w hw => hw)) hS0 ?_
        try simp only [Act.put, List.setIfInBounds_toArray, List.set_cons_zero, List.set_cons_succ]
        refine wpAnyH_ready (rs := [12]) (by kernel_rfl) (by simp) ?_
        refine (AllReadyH.cons (o := ({ dst := some 94, op := Op.call { callee := Callee.value (Operand.func 13), args := #[Operand.tmp 93], argTypes := #[22] }, type := 26, pos := "outright.go:43", after := #[{ on := 11, ground := Ground.data }, { on := 10, ground := Ground.chain }, { on := 10, ground := Ground.guard }], guard := some (10, true) } : Oper)) rfl (fun K' hK => ?_) AllReadyH.nil)
        go_simp
        go_wp2_with (go_at_call 13; refine (QP.out _ nb).mono ?_; rintro ex w103 ⟨rfl, nw103⟩)
        have nb := nb.tr nw103
        refine hK.out _ _ (hkp.out _ nb) (fun hS0 => ?_)
        try simp only [Act.put, List.setIfInBounds_toArray, List.set_cons_zero, List.set_cons_succ]
        refine wpAnyH_take (i := 14) (oi := ({ dst := some 96, op := Op.binOp BinOp.eql 26 (Operand.tmp 94) (Operand.tmp 95) 26, type := 4, pos := "outright.go:43", after := #[{ on := 12, ground := Ground.data }, { on := 13, ground := Ground.data }, { on := 10, ground := Ground.guard }], guard := some (10, true) } : Oper)) (v := .bool true) rfl (by kernel_rfl) (by kernel_rfl) (by kernel_rfl) (fun _ _ _ h => h) (Or.inl ⟨by rfl, by intro w hw; go_simp⟩) hS0 ?_
        try simp only [Act.put, List.setIfInBounds_toArray, List.set_cons_zero, List.set_cons_succ]
        refine wpAnyH_take (i := 15) (oi := ({ dst := some 97, op := Op.pick (Operand.tmp 92) (Operand.tmp 96) (Operand.const (Value.bool false)), type := 4, pos := "outright.go:43", after := #[{ on := 10, ground := Ground.data }, { on := 14, ground := Ground.data }], guard := none } : Oper)) (v := .bool true) rfl (by kernel_rfl) (by kernel_rfl) (by kernel_rfl) (fun _ _ _ h => h) (Or.inl ⟨by rfl, by intro w hw; go_simp⟩) hS0 ?_
        try simp only [Act.put, List.setIfInBounds_toArray, List.set_cons_zero, List.set_cons_succ]
        refine wpAnyH_take (i := 16) (oi := ({ dst := some 98, op := Op.move (Operand.tmp 97), type := 4, pos := "outright.go:43", after := #[{ on := 15, ground := Ground.data }, { on := 12, ground := Ground.chain }], guard := none } : Oper)) (v := .bool true) rfl (by kernel_rfl) (by kernel_rfl) (by kernel_rfl) (fun _ _ _ h => h) (Or.inl ⟨by rfl, by intro w hw; go_simp⟩) hS0 ?_
        try simp only [Act.put, List.setIfInBounds_toArray, List.set_cons_zero, List.set_cons_succ]
        refine wpAnyH_take (i := 17) (oi := ({ dst := some 99, op := Op.move (Operand.tmp 5), type := 33, pos := "outright.go:43", after := #[{ on := 16, ground := Ground.guard }], guard := some (16, true) } : Oper)) (v := .pointer (some ⟨d, 0, none⟩)) rfl (by kernel_rfl) (by kernel_rfl) (by kernel_rfl) (fun _ _ _ h => h) (Or.inl ⟨by rfl, by intro w hw; go_simp⟩) hS0 ?_
        try simp only [Act.put, List.setIfInBounds_toArray, List.set_cons_zero, List.set_cons_succ]
        refine wpAnyH_take (i := 19) (oi := ({ dst := some 101, op := Op.move (Operand.tmp 0), type := 39, pos := "outright.go:43", after := #[{ on := 16, ground := Ground.guard }], guard := some (16, true) } : Oper)) (v := .slice pb fr cb) rfl (by kernel_rfl) (by kernel_rfl) (by kernel_rfl) (fun _ _ _ h => h) (Or.inl ⟨by rfl, by intro w hw; go_simp⟩) hS0 ?_
        try simp only [Act.put, List.setIfInBounds_toArray, List.set_cons_zero, List.set_cons_succ]
        refine wpAnyH_take (i := 20) (oi := ({ dst := some 102, op := Op.call { callee := Callee.builtin Builtin.len, args := #[Operand.tmp 101], argTypes := #[39] }, type := 3, pos := "outright.go:43", after := #[{ on := 19, ground := Ground.data }, { on := 16, ground := Ground.guard }], guard := some (16, true) } : Oper)) (v := .int .i64 (fr : Int)) rfl (by kernel_rfl) (by kernel_rfl) (by kernel_rfl) (fun _ _ _ h => h) (Or.inl ⟨by rfl, by intro w hw; go_simp⟩) hS0 ?_
        try simp only [Act.put, List.setIfInBounds_toArray, List.set_cons_zero, List.set_cons_succ]
        refine wpAnyH_take (i := 21) (oi := ({ dst := some 103, op := Op.convert 3 51 (Operand.tmp 102), type := 51, pos := "outright.go:43", after := #[{ on := 20, ground := Ground.data }, { on := 16, ground := Ground.guard }], guard := some (16, true) } : Oper)) (v := .int .u64 (fr : Int)) rfl (by kernel_rfl) (by kernel_rfl) (by kernel_rfl) (fun _ _ _ h => h) (Or.inl ⟨by rfl, by intro w hw; go_simp⟩) hS0 ?_
        try simp only [Act.put, List.setIfInBounds_toArray, List.set_cons_zero, List.set_cons_succ]
        refine wpAnyH_ready (rs := [18]) (by kernel_rfl) (by simp) ?_
        refine (AllReadyH.cons (o := ({ dst := some 100, op := Op.call { callee := Callee.value (Operand.func 23), args := #[Operand.tmp 99], argTypes := #[33] }, type := 51, pos := "outright.go:43", after := #[{ on := 17, ground := Ground.data }, { on := 16, ground := Ground.chain }, { on := 16, ground := Ground.guard }], guard := some (16, true) } : Oper)) rfl (fun K' hK => ?_) AllReadyH.nil)
        go_simp
        go_wp2_with (go_at_call 23; refine (QL.out _ nb).mono ?_; rintro ex w104 ⟨rfl, rfl⟩)
        refine hK.out _ _ (hkp.out _ nb) (fun hS0 => ?_)
        try simp only [Act.put, List.setIfInBounds_toArray, List.set_cons_zero, List.set_cons_succ]
        refine wpAnyH_take (i := 22) (oi := ({ dst := some 104, op := Op.binOp BinOp.eql 51 (Operand.tmp 100) (Operand.tmp 103) 51, type := 4, pos := "outright.go:43", after := #[{ on := 18, ground := Ground.data }, { on := 21, ground := Ground.data }, { on := 16, ground := Ground.guard }], guard := some (16, true) } : Oper)) (v := .bool true) rfl (by kernel_rfl) (by kernel_rfl) (by kernel_rfl) (fun _ _ _ h => h) (Or.inl ⟨by rfl, by intro w hw; go_simp⟩) hS0 ?_
        try simp only [Act.put, List.setIfInBounds_toArray, List.set_cons_zero, List.set_cons_succ]
        refine wpAnyH_take (i := 23) (oi := ({ dst := some 105, op := Op.pick (Operand.tmp 98) (Operand.tmp 104) (Operand.const (Value.bool false)), type := 4, pos := "outright.go:43", after := #[{ on := 16, ground := Ground.data }, { on := 22, ground := Ground.data }], guard := none } : Oper)) (v := .bool true) rfl (by kernel_rfl) (by kernel_rfl) (by kernel_rfl) (fun _ _ _ h => h) (Or.inl ⟨by rfl, by intro w hw; go_simp⟩) hS0 ?_
        try simp only [Act.put, List.setIfInBounds_toArray, List.set_cons_zero, List.set_cons_succ]
        refine wpAnyH_ready (rs := [24]) (by kernel_rfl) (by simp) ?_
        refine (AllReadyH.cons (o := ({ dst := some 4, op := Op.assign (Operand.tmp 105), type := 4, pos := "outright.go:43", after := #[{ on := 23, ground := Ground.data }, { on := 18, ground := Ground.chain }, { on := 0, ground := Ground.phase }, { on := 1, ground := Ground.phase }, { on := 2, ground := Ground.phase }, { on := 3, ground := Ground.phase }, { on := 4, ground := Ground.phase }, { on := 5, ground := Ground.phase }, { on := 6, ground := Ground.phase }, { on := 7, ground := Ground.phase }, { on := 8, ground := Ground.phase }, { on := 9, ground := Ground.phase }, { on := 10, ground := Ground.phase }, { on := 11, ground := Ground.phase }, { on := 12, ground := Ground.phase }, { on := 13, ground := Ground.phase }, { on := 14, ground := Ground.phase }, { on := 15, ground := Ground.phase }, { on := 16, ground := Ground.phase }, { on := 17, ground := Ground.phase }, { on := 18, ground := Ground.phase }, { on := 19, ground := Ground.phase }, { on := 20, ground := Ground.phase }, { on := 21, ground := Ground.phase }, { on := 22, ground := Ground.phase }, { on := 23, ground := Ground.phase }], guard := none } : Oper)) rfl (fun K' hK => ?_) AllReadyH.nil)
        go_simp
        refine hK.out _ _ (hkp.out _ nb) (fun hS0 => ?_)
        try simp only [Act.put, List.setIfInBounds_toArray, List.set_cons_zero, List.set_cons_succ]
        refine wpAnyH_done (by kernel_rfl) ?_ _
        go_wp2
        go_ret
        exact ⟨rfl, n9w.tr nb⟩
end Go.Proofs.YtlmneommejdodaaDoor
