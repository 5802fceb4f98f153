/- The hashes of stretches by package naive: hashes, Path, Proof, Batch. -/
import Derived.Test.YthkkjpefealdgaaDoorL4
import Derived.Test.YthkkjpefealdgaaDoorS6
import Derived.Laws.MakeOwn
namespace Go.Proofs.YthkkjpefealdgaaDoor
open Go.RowKit
set_option linter.unusedVariables false
set_option linter.unusedSimpArgs false

/-- Hashes as cells. -/
def hsc (l : List (List UInt8)) : List Value := l.flatMap bc
theorem hsc_app (l m : List (List UInt8)) : hsc (l ++ m) = hsc l ++ hsc m := by simp [hsc]
theorem hsc_one (h : List UInt8) : hsc [h] = (hbs h).toList := by simp [hsc, hbs]
theorem hsc_len : ∀ (l : List (List UInt8)), (∀ h ∈ l, h.length = 32) → (hsc l).length = l.length * 32
  | [], _ => rfl
  | h :: r, hl => by
    have := hsc_len r (fun x hx => hl x (by simp [hx]))
    have h1 := hl h (by simp)
    simp only [hsc, List.flatMap_cons, List.length_append, bc_len, h1, List.length_cons] at this ⊢
    omega
theorem hsc_get : ∀ (l : List (List UInt8)), (∀ h ∈ l, h.length = 32) → ∀ (k : Nat) (h : List UInt8), l[k]? = some h → ∀ j, j < 32 → (hsc l)[k * 32 + j]? = (bc h)[j]?
  | [], _, k, h, hk, j, hj => by simp at hk
  | x :: r, hl, 0, h, hk, j, hj => by
    simp at hk; subst hk
    have h1 := hl x (by simp)
    simp only [hsc, List.flatMap_cons, Nat.zero_mul, Nat.zero_add]
    rw [List.getElem?_append_left (by rw [bc_len]; omega)]
  | x :: r, hl, k + 1, h, hk, j, hj => by
    have h1 := hl x (by simp)
    have ih := hsc_get r (fun y hy => hl y (by simp [hy])) k h (by simpa using hk) j hj
    simp only [hsc, List.flatMap_cons] at ih ⊢
    rw [List.getElem?_append_right (by rw [bc_len]; omega), bc_len, h1]
    have e : (k + 1) * 32 + j - 32 = k * 32 + j := by omega
    rw [e]; exact ih
theorem fill_fold : ∀ (l : List Value) (k : Nat) (Z : Array Value), Z.size = k + l.length → (l.zipIdx k).foldl (fun (cs : Array Value) (x : Value × Nat) => cs.setIfInBounds (0 + x.2) x.1) Z = (Z.toList.take k ++ l).toArray
  | [], k, Z, h => by
    simp only [List.zipIdx_nil, List.foldl_nil, List.append_nil]
    apply Array.ext'
    simp only [List.length_nil, Nat.add_zero] at h
    rw [List.take_of_length_le (by simp [h])]
  | x :: l, k, Z, h => by
    simp only [List.length_cons] at h
    rw [List.zipIdx_cons, List.foldl_cons, fill_fold l (k + 1) _ (by simp; omega)]
    apply Array.ext'
    simp only [Nat.zero_add, Array.toList_setIfInBounds]
    rw [List.take_add_one, List.take_set_of_le (Nat.le_refl _), List.getElem?_set_self (by simp; omega)]
    simp
theorem infoHs : (Tryd.prog.info? 32).map (fun i => (i.zero, i.size, i.bytes)) = some (some (.agg z32), 32, 32) := by kernel_rfl
theorem build1 (V : Array Value) (hV : V.size = 32) (W : World) : (Instr.buildSlice 47 1 #[(0, .agg V)]).run Tryd.prog W = .ok (.slice (some ⟨W.heap.size, 0, none⟩) 1 1) (W.alloc (.cells V 32)) := by
  obtain ⟨i0, hi, hz0, hz1, hz2⟩ := info_parts infoHs
  have hf : ∀ Z : Array Value, Z.size = 32 → V.zipIdx.foldl (fun (cs : Array Value) (x : Value × Nat) => cs.setIfInBounds (0 + x.2) x.1) Z = V := fun Z hZ => by
    rw [← Array.foldl_toList, Array.toList_zipIdx, fill_fold V.toList 0 Z (by simp; omega)]
    simp
  have hz : ((Array.range 32).map (fun x => z32[x % z32.size]!)).size = 32 := by simp
  have h32 : (Value.agg V).cells.size = 32 := hV
  have := hf _ hz
  simp only [Instr.buildSlice, Sem.run_bind, run_underlying Tryd.underlying47, Tryd.sizeOf32 W, Result.andThen_ok, Sem.run_pure]
  simp [zeroValue, hi, hz0, typeInfo, Instr.fill, Value.cells, hV, z32_size, newRow]
  have hs : V.zipIdx.size = 32 := by simp [hV]
  simp only [Nat.zero_add, z32_size, hs] at this
  rw [this]
/-- A slice literal of one hash that is not written out. -/
theorem wp_build1 {w : World} {ops : Array Oper} {rest : List Oper} {o : Oper} {a : Act} {Q : Exit → Act → World → Prop} (hgd : o.guard = none) (x : Operand) (ho : o.op = .buildSlice 47 1 #[(0, x)]) (V : Array Value) (hx : a.eval x = .agg V) (hV : V.size = 32)
    (h : wpList Tryd.prog ops Q rest (a.put o.dst (.slice (some ⟨w.heap.size, 0, none⟩) 1 1)) (w.alloc (.cells V 32))) : wpList Tryd.prog ops Q (o :: rest) a w := by
  refine wpList_plain hgd fun K hK => ?_
  unfold Oper.wp execOp
  simp only [ho, Sem.run_bind, Sem.run_pure, Result.andThen_ok, List.map_toArray, List.map_cons, List.map_nil, hx, build1 V hV]
  exact hK _ _ h
set_option maxRecDepth 100000 in
set_option maxHeartbeats 1000000 in
theorem is_nilE (x : Addr) (w : World) : Calls Tryd.prog 44 #[.nilIface, sen x] w fun e w' => e = .returned (.bool false) ∧ w' = w := by
  have heq : ∀ W : World, (binOp .eql 34 .nilIface (sen x)).run Tryd.prog W = .ok (.bool false) W := fun W => by kernel_rfl
  go_enter Tryd.func44, Tryd.ntmps44
  go_wp2
  go_ret
  exact ⟨rfl, rfl⟩
theorem hash_new (w : World) (V : Array Value) (t : TypeId) : ∀ j u, V.toList[j]? = some u → (w.alloc (.cells V t)).cell? ((⟨w.heap.size, 0, none⟩ : Addr).add j) = some u := by
  intro j u h
  rw [addZ, cell_of (heap_new w _)]
  simpa using h
theorem hs_hsc (L : List ByteArray) (T : List (Nat × Nat)) (k : Nat) (t : Nat × Nat) (h : T[k]? = some t) : hsc ((T.take (k + 1)).map (hst L)) = hsc ((T.take k).map (hst L)) ++ (hbs (mth (sbl L t.1 t.2))).toList := by
  rw [List.take_add_one, h, Option.toList_some, List.map_append, hsc_app, List.map_singleton, hsc_one]; rfl
set_option maxRecDepth 100000 in
set_option maxHeartbeats 2000000 in
theorem hashes_yes {w : World} {b base : Nat} {v : Value} {L : List ByteArray} (h : Lg w b base v L) (T : List (Nat × Nat)) (hT : ∀ t ∈ T, t.1 ≤ t.2 ∧ t.2 ≤ L.length) (hTl : T.length ≤ 200) (u : Value) (hu : Spn w u T) (hL : Laid w) {B : Nat} {a : Nat → Addr} (hS : Sent B w a) :
    Calls Tryd.prog 38 #[.pointer (some ⟨b, 0, none⟩), u, .nilIface] w fun e w' => ∃ v, e = .returned (.tuple #[v, .nilIface]) ∧ w'.ownsRow w.heap.size 32 32 v T.length (hsc (T.map (hst L))) ∧ Nw w w' := by
  obtain ⟨i0, hi, hz0, hz1, hz2⟩ := info_parts infoHs
  obtain ⟨ad, ca, rfl, hu⟩ := hu
  have HU : Hid (∀ k t, T[k]? = some t → ∃ g off, ad = some ⟨g, off, none⟩ ∧ g < w.heap.size ∧ w.cell? ⟨g, off + k * 2, none⟩ = some (.int .u64 (t.1 : Int)) ∧ w.cell? ⟨g, off + k * 2 + 1, none⟩ = some (.int .u64 (t.2 : Int))) := hu
  have QT : Hid (∀ W x y, Nw w W → (x, y) ∈ T → Calls Tryd.prog 31 #[.pointer (some ⟨b, 0, none⟩), sp x y] W fun e w' => e = .returned (.agg (hbs (mth (sbl L x y)))) ∧ Nw W w') := fun W x y hW hm => tree_any (h.nw hW) x y (hT _ hm).1 (hT _ hm).2 (hL.nw hW)
  have qi := is_nilE (a 4) w
  have c4 := hS.c4
  have HB : Hid (∀ t ∈ T, t.1 ≤ t.2 ∧ t.2 ≤ 1048576) := fun t ht => ⟨(hT t ht).1, Nat.le_trans (hT t ht).2 h.len⟩
  have lb := heap_lt h.blk
  clear h hL hS hu hT
  obtain ⟨n, hn⟩ : ∃ n, n = T.length := ⟨_, rfl⟩
  have HN : Hid (n = T.length) := hn
  rw [← hn] at hTl ⊢
  obtain ⟨wm, hmk, hown, hgr⟩ := run_make_own (P := Tryd.prog) w w.heap.size 47 32 i0 (.agg z32) 32 Tryd.underlying47 hi hz0 hz1 .i64 .i64 n (by rw [hz2]; omega) (by unfold maxLen; omega) (Nat.le_refl _)
  have NM : Hid (Nw w wm) := (Fr.refl _ _).grown hgr (fun k e _ => by cases e)
  have OM : Hid (wm.ownsRow w.heap.size 32 32 (.slice (some ⟨w.heap.size, 0, none⟩) 0 n) 0 []) := hown
  clear hn hown hgr
  go_enter Tryd.func38, Tryd.ntmps38
  go_wp2_with fail
  refine qi.mono ?_
  rintro e w1 ⟨rfl, rfl⟩
  go_wp2_with fail
  go_loopw [8, 23] (fun r i wr => ∃ (k : Nat) (va : Option Addr) (vc : Nat), k ≤ n ∧ r = .slice va k vc ∧ i = .int .i64 k ∧ wr.ownsRow w1.heap.size 32 32 (.slice va k vc) k (hsc ((T.take k).map (hst L))) ∧ Nw w1 wr) (fun _ i _ => n - (intOf i).toNat)
  case atStart => exact ⟨0, _, _, by omega, rfl, rfl, by simpa [hsc] using OM.out, NM.out⟩
  case round =>
    obtain ⟨k, va, vc, hk, rfl, rfl, ho, hnw⟩ := hrel
    have HO : Hid (wr.ownsRow w1.heap.size 32 32 (.slice va k vc) k (hsc ((T.take k).map (hst L)))) := ho
    have HW : Hid (Nw w1 wr) := hnw
    clear ho hnw
    by_cases hlt : k < n
    · obtain ⟨t, ht⟩ : ∃ t, T[k]? = some t := ⟨_, List.getElem?_eq_getElem (by rw [← HN.out]; exact hlt)⟩
      obtain ⟨g, off, had, g1, g2, g3⟩ := HU.out k t ht
      have htm := List.mem_of_getElem? ht
      have hb := HB.out t htm
      have HS := show Hid _ from hs_hsc L T k t ht
      obtain ⟨x, y⟩ := t
      subst had
      have g2' := HW.out.cellOf g2
      have g3' := HW.out.cellOf g3
      have hki : (k : Int) < (n : Int) := by omega
      have gl : g < wr.heap.size := Nat.lt_of_lt_of_le g1 HW.out.size
      have HM : Hid ((x, y) ∈ T) := htm
      clear g2 g3 ht htm
      have hRl : (hbs (mth (sbl L x y))).size = 32 := by rw [hbs_size, mth_len]
      have QR : Hid (∀ W, Nw w1 W → Calls Tryd.prog 31 #[.pointer (some ⟨b, 0, none⟩), sp x y] W fun e w' => e = .returned (.agg (hbs (mth (sbl L x y)))) ∧ Nw W w') := fun W hW => QT.out W x y hW HM.out
      obtain ⟨R, hR⟩ : ∃ R, R = mth (sbl L x y) := ⟨_, rfl⟩
      simp only [← hR] at QR hRl HS
      clear hR hb
      go_wp2_with fail
      refine (QR.out _ (by repeat first | with_reducible exact HW.out | with_reducible refine Fr.alloc ?_ _ | with_reducible refine Fr.drew ?_ | (with_reducible refine Fr.setCell ?_ _ _ (fun h => ?_); rotate_left; focus (simp only at h; omega)))).mono ?_
      rintro e w2 ⟨rfl, n2⟩
      have N2 : Hid (Nw wr w2) := Nw.tr (by repeat first | with_reducible exact nwr wr | with_reducible refine Fr.alloc ?_ _ | with_reducible refine Fr.drew ?_ | (with_reducible refine Fr.setCell ?_ _ _ (fun h => ?_); rotate_left; focus (simp only at h; omega))) n2
      have own2 : Hid ((w2.alloc (.cells (hbs R) 32)).ownsRow w1.heap.size 32 32 (.slice va k vc) k (hsc ((T.take k).map (hst L)))) := (ownsRow_keep HO.out (fun g hg => N2.out.block g (HO.out.lt g hg).2 (fun f => f))).alloc _
      clear n2
      go_wp2_with first
        | refine wp_build1 rfl (.tmp 30) rfl (hbs R) rfl hRl ?_
        | (at_builtin; refine wpList_two _ rfl (.tmp 27) (.tmp 31) 47 rfl w1.heap.size 32 i0 (.agg z32) 32 32 Tryd.underlying47 hi hz0 hz1 hz2 z32_size (by decide) (.slice va k vc) k (hsc ((T.take k).map (hst L))) rfl own2.out ⟨w2.heap.size, 0, none⟩ 1 1 (hbs R).toList rfl (by simp [hRl]) (hash_new _ _ _) (hbs_one _) (by unfold maxLen; omega) (by omega) (by have := HW.out.size; have := N2.out.size; simp; omega) ?_; intro v' w5 o5 t5; have N5 : Hid (Nw w1 w5) := ((HW.out.tr N2.out).alloc _).trans t5.fr (fun j hj q => by have := (HO.out.lt j q).1; omega); rw [← HS.out] at o5; obtain ⟨xa, xc, rfl⟩ := ownsRow_form o5; have O5 : Hid (w5.ownsRow w1.heap.size 32 32 (.slice xa (k + 1) xc) (k + 1) (hsc ((T.take (k + 1)).map (hst L)))) := o5; clear o5 t5)
      exact ⟨⟨k + 1, xa, xc, by omega, rfl, by go_num, O5.out, N5.out⟩, by simp [intOf]; omega⟩
    · obtain rfl : k = n := by omega
      have hkn : ¬ (k : Int) < (k : Int) := by omega
      go_wp2
      have O6 := HO.out
      rw [HN.out, List.take_length, ← HN.out] at O6
      exact bodyPost_ret (v := .tuple #[.slice va k vc, .nilIface]) (by simp [results, Tryd.results38]) rfl ⟨_, rfl, O6, HW.out⟩
set_option maxHeartbeats 1000000 in
theorem hashes_no {w : World} (P u : Value) {B : Nat} {a : Nat → Addr} (hS : Sent B w a) :
    Calls Tryd.prog 38 #[P, u, sen (a 4)] w fun e w' => e = .returned (.tuple #[.slice none 0 0, sen (a 4)]) ∧ Nw w w' := by
  have qi := is_same (a 4) w
  have c4 := hS.c4
  clear hS
  go_enter Tryd.func38, Tryd.ntmps38
  go_wp2_with fail
  refine qi.mono ?_
  rintro e w1 ⟨rfl, rfl⟩
  go_wp2_with fail
  go_quiet (fail)
  go_wp2
  go_ret2
  exact ⟨rfl, (nwr w1).drewN nq⟩
end Go.Proofs.YthkkjpefealdgaaDoor
