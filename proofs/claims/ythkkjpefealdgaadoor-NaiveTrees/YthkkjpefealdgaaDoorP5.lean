/- What take does: bytes more for a digest. -/
import Derived.Test.YthkkjpefealdgaaDoorP4
import Derived.Laws.CopyOwn
namespace Go.Proofs.YthkkjpefealdgaaDoor
open Go.RowKit
set_option linter.unusedVariables false
set_option linter.unusedSimpArgs false

def H0 : V8 := ⟨1779033703, 3144134277, 1013904242, 2773480762, 1359893119, 2600822924, 528734635, 1541459225⟩
theorem H0_ok : H0.ok := ⟨by decide, by decide, by decide, by decide, by decide, by decide, by decide, by decide⟩
/-- The words behind so many blocks. -/
def st (L : List UInt8) : Nat → V8
  | 0 => H0
  | n + 1 => comp (st L n) ((L.drop (64 * n)).take 64)
theorem st_ok (L : List UInt8) : ∀ n, (st L n).ok
  | 0 => H0_ok
  | n + 1 => comp_ok _ _
theorem st_app (L M : List UInt8) : ∀ n, 64 * n ≤ L.length → st (L ++ M) n = st L n
  | 0, _ => rfl
  | n + 1, h => by
    rw [st, st, st_app L M n (by omega), List.drop_append_of_le_length (by omega), List.take_append_of_le_length (by rw [List.length_drop]; omega)]
/-- A digest of the bytes L. -/
def Dig (w : World) (d : Nat) (L : List UInt8) : Prop :=
  ∃ blk : List UInt8, blk.length = 64 ∧ blk.take (L.length % 64) = L.drop (64 * (L.length / 64)) ∧ w.heap[d]? = some (.cells (dcs (st L (L.length / 64)) blk L.length) tD (0, 0))
theorem Dig.keep {w w' : World} {d : Nat} {L : List UInt8} (h : Dig w d L) {S : Nat → Prop} (f : Fr S w w') (hs : ¬ S d) : Dig w' d L := by
  obtain ⟨blk, h1, h2, h3⟩ := h
  exact ⟨blk, h1, h2, (f.block d (heap_lt h3) hs).trans h3⟩
theorem Dig.lt {w : World} {d : Nat} {L : List UInt8} (h : Dig w d L) : d < w.heap.size := by
  obtain ⟨blk, h1, h2, h3⟩ := h
  exact heap_lt h3
theorem dig_part (L c blk : List UInt8) (hb : blk.length = 64) (ht : blk.take (L.length % 64) = L.drop (64 * (L.length / 64))) (hc : L.length % 64 + c.length < 64) :
    (blk.take (L.length % 64) ++ c ++ blk.drop (L.length % 64 + c.length)).take ((L ++ c).length % 64) = (L ++ c).drop (64 * ((L ++ c).length / 64)) ∧ st (L ++ c) ((L ++ c).length / 64) = st L (L.length / 64) := by
  have e1 : (L ++ c).length / 64 = L.length / 64 := by rw [List.length_append]; omega
  have e2 : (L ++ c).length % 64 = L.length % 64 + c.length := by rw [List.length_append]; omega
  rw [e1, e2]
  refine ⟨?_, st_app L c _ (by omega)⟩
  rw [List.take_append_of_le_length (by simp [hb]; omega), List.take_of_length_le (by simp [hb]; omega), ht, List.drop_append_of_le_length (by omega)]
theorem dig_full (L c blk : List UInt8) (hb : blk.length = 64) (ht : blk.take (L.length % 64) = L.drop (64 * (L.length / 64))) (hc : L.length % 64 + c.length = 64) :
    (blk.take (L.length % 64) ++ c ++ blk.drop (L.length % 64 + c.length)).take ((L ++ c).length % 64) = (L ++ c).drop (64 * ((L ++ c).length / 64)) ∧ st (L ++ c) ((L ++ c).length / 64) = comp (st L (L.length / 64)) (blk.take (L.length % 64) ++ c ++ blk.drop (L.length % 64 + c.length)) := by
  have e1 : (L ++ c).length / 64 = L.length / 64 + 1 := by rw [List.length_append]; omega
  have e2 : (L ++ c).length % 64 = 0 := by rw [List.length_append]; omega
  rw [e1, e2]
  refine ⟨?_, ?_⟩
  · rw [List.drop_of_length_le (l := L ++ c) (by rw [List.length_append]; omega)]; simp
  · rw [st, st_app L c _ (by omega), ht, List.drop_append_of_le_length (by omega), hc, List.drop_of_length_le (l := blk) (by omega), List.append_nil, List.take_of_length_le (by simp; omega)]

theorem run_copy_str {P : Program} (w : World) (dT sT ty elem : TypeId) (g o dLen dCap : Nat) (x : ByteArray) (cur : Array Value) (t : TypeId) (c : List UInt8)
    (hu : P.underlying dT = some (.slice elem)) (hs : (P.info? elem).map (·.size) = some 1) (hg : w.heap[g]? = some (.cells cur t (0, 0)))
    (hc : c = x.data.toList.take (Nat.min x.size dLen)) (hfit : o + c.length ≤ cur.size) :
    (Builtin.copy_ #[dT, sT] ty #[.slice (some ⟨g, o, none⟩) dLen dCap, .string x]).run P w =
      .ok (goInt (Nat.min x.size dLen)) (w.setRow g (cur.toList.take o ++ bc c ++ cur.toList.drop (o + c.length)).toArray) := by
  have hst := run_storeCells_at P g o t (bc c) 0 cur w hg (by simpa [bc_len] using hfit) (by simp [bc, Value.oneCell'])
  have he : (((x.extract 0 (Nat.min x.size dLen)).data.map fun b => Value.int .u8 b.toNat)).toList = bc c := by
    rw [hc, bc, Array.toList_map, ByteArray.data_extract]
    simp
  cases hq : P.info? elem with
  | none => simp [hq] at hs
  | some i =>
    have hi : i.size = 1 := by simpa [hq] using hs
    simp only [Nat.add_zero, bc_len] at hst
    have he3 : List.take (Nat.min x.size dLen) (List.map (fun b : UInt8 => Value.int .u8 (b.toNat : Int)) x.data.toList) = bc c := by rw [hc, bc, List.map_take]
    clear hc he
    simp [Builtin.copy_, run_underlying hu, Builtin.lenOf, Builtin.firstCells, sizeOf, typeInfo, hq, hi, he3, hst]
theorem step_copy_str {P : Program} {ops : Array Oper} {o : Oper} {a : Act} {w : World} {K : Act → World → Prop} {Q : Exit → Act → World → Prop} {E : Prop} (hgd : o.guard = none) (d s : Operand) (dT sT : TypeId)
    (ho : o.op = .call { callee := .builtin .copy, args := #[d, s], argTypes := #[dT, sT] }) (elem : TypeId) (hu : P.underlying dT = some (.slice elem)) (hsz : (P.info? elem).map (·.size) = some 1)
    (g off dLen dCap : Nat) (x : ByteArray) (hd : a.eval d = .slice (some ⟨g, off, none⟩) dLen dCap) (hs : a.eval s = .string x)
    (cur : Array Value) (t : TypeId) (hg : w.heap[g]? = some (.cells cur t (0, 0))) (c : List UInt8) (hc : c = x.data.toList.take (Nat.min x.size dLen)) (k : Nat) (hk : Nat.min x.size dLen = k) (hfit : off + c.length ≤ cur.size)
    (new : Array Value) (hnew : new.toList = cur.toList.take off ++ bc c ++ cur.toList.drop (off + c.length))
    (h : ∀ w', w'.heap[g]? = some (.cells new t (0, 0)) → Fr (fun k => k = g) w w' → K (a.put o.dst (.int .i64 (k : Int))) w') :
    if Region.wanted o (yielded ops a.tmps) = true then Oper.wp P o a w K Q else E := by
  have hw : Region.wanted o (yielded ops a.tmps) = true := by simp [Region.wanted, hgd]
  rw [if_pos hw]
  have hrun := run_copy_str (P := P) w dT sT o.type elem g off dLen dCap x cur t c hu hsz hg hc hfit
  have hn : new = (cur.toList.take off ++ bc c ++ cur.toList.drop (off + c.length)).toArray := by apply Array.ext'; rw [hnew]
  rw [← hn, hk] at hrun
  unfold Oper.wp
  simp [execOp, ho, resolve, invoke, builtin, hd, hs, hrun, Result.andThen]
  exact h _ (setRow_heap w g cur new t (0, 0) hg) ⟨rfl, rfl, rfl, by simp, fun k hk hne => setRow_other w g k new hne⟩
/-- How long a text is. -/
def strLen : Value → Nat
  | .string x => x.size
  | _ => 0
theorem sz8 : (Tryd.prog.info? 5).map (·.size) = some 1 := by kernel_rfl

set_option maxRecDepth 100000 in
set_option maxHeartbeats 1000000 in
theorem take_any (d : Nat) (L : List UInt8) (s : ByteArray) (w : World) (hD : Dig w d L) (hK : Ks w) (hne : d ≠ 18) (hlen : L.length + s.size < 4611686018427387904) :
    Calls Tryd.prog 45 #[.pointer (some ⟨d, 0, none⟩), .string s] w fun e w' => e = .returned (.tuple #[]) ∧ Dig w' d (L ++ s.data.toList) ∧ Fr (fun k => k = d) w w' := by
  have HK : Hid (Ks w) := hK
  have HD : Hid (Dig w d L) := hD
  have HN : Hid (d ≠ 18) := hne
  have HL : Hid (L.length + s.size < 4611686018427387904) := hlen
  clear hK hD hne hlen
  go_enter Tryd.func45, Tryd.ntmps45
  go_wp2
  go_loopw [1] (fun t wr => ∃ (x : ByteArray) (A : List UInt8), t = .string x ∧ s.data.toList = A ++ x.data.toList ∧ Dig wr d (L ++ A) ∧ Fr (fun k => k = d) w wr) (fun t _ => strLen t)
  case atStart => exact ⟨s, [], rfl, rfl, by rw [List.append_nil]; exact HD.out, Fr.refl _ _⟩
  case round =>
    obtain ⟨x, A, rfl, hx, hD, hfr⟩ := hrel
    have hxl : x.data.toList.length = x.size := by rw [Array.length_toList]; rfl
    have hsl : s.data.toList.length = s.size := by rw [Array.length_toList]; rfl
    have hAl : A.length + x.size = s.size := by have := congrArg List.length hx; rw [List.length_append, hxl, hsl] at this; omega
    by_cases hx0 : x.size = 0
    · have hx1 : ¬ (0 : Int) < (x.size : Int) := by omega
      have hxn : x.data.toList = [] := List.eq_nil_of_length_eq_zero (by omega)
      rw [hxn, List.append_nil] at hx
      have HX : Hid (s.data.toList = A) := hx
      clear hx hx0 hxn hxl hAl
      go_wp2
      exact bodyPost_end (v := .tuple #[]) (by simp [results, Tryd.results45, go_sem]) rfl ⟨rfl, by rw [HX.out]; exact hD, hfr⟩
    · obtain ⟨M, hM⟩ : ∃ M, M = L ++ A := ⟨_, rfl⟩
      rw [← hM] at hD
      obtain ⟨blk, hb1, hb2, hb3⟩ := hD
      obtain ⟨f, hf⟩ : ∃ f, f = M.length % 64 := ⟨_, rfl⟩
      have hf64 : f < 64 := by omega
      obtain ⟨c, hc⟩ : ∃ c, c = x.data.toList.take (Nat.min x.size (64 - f)) := ⟨_, rfl⟩
      obtain ⟨k, hk⟩ : ∃ k, Nat.min x.size (64 - f) = k := ⟨_, rfl⟩
      have hk1 : 1 ≤ k := by have := hk; simp only [Nat.min_def] at this; split at this <;> omega
      have hkx : k ≤ x.size := by have := hk; simp only [Nat.min_def] at this; split at this <;> omega
      have hck : c.length = k := by rw [hc, List.length_take, hxl, hk]; exact Nat.min_eq_left hkx
      have hkf : f + k ≤ 64 := by have := hk; simp only [Nat.min_def] at this; split at this <;> omega
      have hMl : M.length + k < 4611686018427387904 := by have := HL.out; rw [hM, List.length_append]; omega
      have hsl64 := fun W => slice64 d 9 f hf64 W
      have hcell : wr.cell? ⟨d, 73, none⟩ = some (.int .u64 (M.length : Int)) := (cell_of hb3 73).trans (dcs_73 _ _ _ hb1)
      have qf := fun W (hW : W.cell? ⟨d, 73, none⟩ = some (.int .u64 (M.length : Int))) => filled_any d M.length (by omega) W hW
      rw [← hf] at qf
      have hx1 : (0 : Int) < (x.size : Int) := by omega
      have HQ : Hid (∀ W, W.cell? ⟨d, 73, none⟩ = some (.int .u64 (M.length : Int)) → Calls Tryd.prog 56 #[.pointer (some ⟨d, 0, none⟩)] W fun e w' => e = .returned (.int .i64 (f : Int)) ∧ w' = W) := qf
      clear qf
      have HX : Hid (s.data.toList = A ++ x.data.toList) := hx
      have HM : Hid (M = L ++ A) := hM
      have HF : Hid (f = M.length % 64) := hf
      have HC : Hid (c = x.data.toList.take (Nat.min x.size (64 - f))) := hc
      have HKK : Hid (Nat.min x.size (64 - f) = k) := hk
      clear hx hM hf hc hk
      go_wp2
      go_region_held3 (fun w' => True) (trivial) (first
        | (go_at_call 56; refine (HQ.out wr.drew hcell).mono ?_; rintro e1 w1 ⟨rfl, rfl⟩)
        | (show if Region.wanted (Oper.mk _ (.call ⟨.builtin .copy, _, _⟩) _ _ _ _) _ = true then _ else _; refine step_copy_str rfl (.tmp 13) (.tmp 14) 62 9 rfl 5 Tryd.underlying62 sz8 d (9 + f) (64 - f) (64 - f) x rfl rfl (dcs (st M (M.length / 64)) blk M.length) tD hb3 c HC.out k HKK.out (by rw [dcs_size _ _ _ hb1]; omega) (dcs (st M (M.length / 64)) (blk.take f ++ c ++ blk.drop (f + c.length)) M.length) (dcs_copy _ _ _ _ _ hb1 (by omega)) ?_; intro w2 j2 f2))
      obtain ⟨nb, hnb⟩ : ∃ nb, nb = blk.take f ++ c ++ blk.drop (f + c.length) := ⟨_, rfl⟩
      rw [← hnb] at j2
      have hn1 : nb.length = 64 := by rw [hnb]; simp [hb1]; omega
      have HNB : Hid (nb = blk.take f ++ c ++ blk.drop (f + c.length)) := hnb
      clear hnb
      have hc2 : w2.cell? ⟨d, 73, none⟩ = some (.int .u64 (M.length : Int)) := (cell_of j2 73).trans (dcs_73 _ _ _ hn1)
      have hz2 : w2.frozen? ⟨d, 73, none⟩ = false := frozen_of j2 73
      have hkx2 : (k : Int) ≤ (x.size : Int) := by omega
      have eM : ((M.length + k : Nat) : Int) = (M.length : Int) + (k : Int) := by omega
      have hnM : (M.length : Int) + (k : Int) < 4611686018427387904 := by omega
      clear hcell
      go_wp2_with fail
      have j3 : (w2.setCell ⟨d, 73, none⟩ (.int .u64 ((M.length : Int) + (k : Int)))).heap[d]? = some (.cells (dcs (st M (M.length / 64)) nb (M.length + k)) tD (0, 0)) := by
        rw [heap_set j2, ← eM, dcs_count _ _ _ _ hn1]
      have f3 : Fr (fun k => k = d) w (w2.setCell ⟨d, 73, none⟩ (.int .u64 ((M.length : Int) + (k : Int)))) := (hfr.drew.trans f2 (fun _ _ q => q)).setCell _ _ (fun _ => rfl)
      generalize (w2.setCell ⟨d, 73, none⟩ (.int .u64 ((M.length : Int) + (k : Int)))) = w3 at j3 f3 ⊢
      have qf := filled_any d (M.length + k) (by omega) w3 ((cell_of j3 73).trans (dcs_73 _ _ _ hn1))
      obtain ⟨r, hr⟩ : ∃ r, r = (M.length + k) % 64 := ⟨_, rfl⟩
      rw [← hr] at qf
      have HRR : Hid (r = (M.length + k) % 64) := hr
      clear hr
      refine qf.mono ?_
      rintro e4 w4 ⟨rfl, rfl⟩
      clear qf
      have hxe : (x.extract k x.size).data.toList = x.data.toList.drop k := by
        rw [ByteArray.data_extract]
        simp [Array.toList_extract, List.extract]
        exact List.take_of_length_le (by rw [List.length_drop, hxl]; omega)
      have hse : (x.extract k x.size).size = x.size - k := by
        have h1 : (x.extract k x.size).data.toList.length = (x.extract k x.size).size := by rw [Array.length_toList]; rfl
        rw [← h1, hxe, List.length_drop, hxl]
      have hcx : x.data.toList = c ++ x.data.toList.drop k := by
        have := HC.out
        rw [HKK.out] at this
        rw [this, List.take_append_drop]
      have HR : Hid (s.data.toList = (A ++ c) ++ (x.extract k x.size).data.toList) := by
        unfold Hid
        rw [HX.out, hxe, List.append_assoc, ← hcx]
      have HA : Hid (L ++ (A ++ c) = M ++ c) := by unfold Hid; rw [HM.out, List.append_assoc]
      have HE : Hid ((M ++ c).length = M.length + k) := by unfold Hid; rw [List.length_append, hck]
      clear hxe hcx
      by_cases hfull : f + k = 64
      · have hr0 : r = 0 := by have := HF.out; have := HRR.out; omega
        have hz0 : ((r : Int) == 0) = true := by rw [hr0]; rfl
        clear hr0
        have hdf := dig_full M c blk hb1 hb2 (by rw [← HF.out, hck]; exact hfull)
        rw [← HF.out, ← HNB.out] at hdf
        have HDF : Hid _ := hdf
        clear hdf
        have k4 : Ks w4 := fun i hi => (f3.cell (World.block_lt_of_cell? w _ (HK.out i hi)) (fun e => HN.out e.symm)).trans (HK.out i hi)
        have HK4 : Hid (Ks w4) := k4
        clear k4
        go_wp2_with (go_at_call 57; refine (mix_any d (st M (M.length / 64)) (st_ok _ _) nb hn1 (M.length + k) w4 j3 HK4.out).mono ?_; rintro e5 w5 ⟨rfl, j5, f5⟩)
        refine ⟨⟨_, A ++ c, rfl, HR.out, ?_, f3.trans f5 (fun _ _ q => q)⟩, by simp only [strLen]; omega⟩
        rw [HA.out]
        exact ⟨nb, hn1, HDF.out.1, by rw [HDF.out.2, HE.out]; exact j5⟩
      · have hr0 : r = f + k := by have := HF.out; have := HRR.out; omega
        have hz0 : ((r : Int) == 0) = false := by rw [beq_eq_false_iff_ne, hr0]; omega
        clear hr0
        have hdf := dig_part M c blk hb1 hb2 (by rw [← HF.out, hck]; omega)
        rw [← HF.out, ← HNB.out] at hdf
        have HDF : Hid _ := hdf
        clear hdf
        go_wp2
        refine ⟨⟨_, A ++ c, rfl, HR.out, ?_, f3⟩, by simp only [strLen]; omega⟩
        rw [HA.out]
        exact ⟨nb, hn1, HDF.out.1, by rw [HDF.out.2, HE.out]; exact j3⟩
end Go.Proofs.YthkkjpefealdgaaDoor
