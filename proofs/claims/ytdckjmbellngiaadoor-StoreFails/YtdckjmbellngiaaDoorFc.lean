/- store: trouble that may be; Restart, New. -/
import Derived.Test.YtdckjmbellngiaaDoorFa
import Derived.Laws.CopyOwn
import Derived.Laws.MakeOwn
import Derived.Carry
namespace Go.Proofs.YtdckjmbellngiaaDoor
open Go.RowKit Go.Maps
set_option linter.unusedVariables false
set_option linter.unusedSimpArgs false
/-- Trouble may be: its numbers rise from 1 on. -/
def okR (last : Int) : List Int → Bool
  | [] => true
  | z :: r => decide (last < z) && okR z r
theorem okR_at : ∀ (zs : List Int) (last : Int) (k : Nat), k < zs.length → okR last zs = (okR last (zs.take k) && okR (if k = 0 then last else zs.getD (k - 1) 0) (zs.drop k))
  | [], last, k, h => by simp at h
  | z :: r, last, 0, h => by simp [okR]
  | z :: r, last, k + 1, h => by
    simp only [okR, List.take_succ_cons, List.drop_succ_cons, Bool.and_assoc]
    rcases Nat.lt_or_ge k r.length with hk | hk
    · rw [okR_at r z k hk]
      congr 2
      cases k <;> simp
    · simp at h; omega
theorem okR_snoc : ∀ (zs : List Int) (last x : Int), okR last (zs ++ [x]) = (okR last zs && decide ((if zs = [] then last else zs.getD (zs.length - 1) 0) < x))
  | [], last, x => by simp [okR]
  | z :: r, last, x => by
    simp only [List.cons_append, okR, okR_snoc r z x, Bool.and_assoc]
    cases r <;> simp
theorem okR_pre {zs : List Int} {last : Int} (h : okR last zs = true) (k : Nat) : okR last (zs.take k) = true := by
  induction zs generalizing last k with
  | nil => simpa using h
  | cons z r ih =>
    cases k with
    | zero => simp [okR]
    | succ k =>
      simp only [okR, Bool.and_eq_true] at h
      simp only [List.take_succ_cons, okR, Bool.and_eq_true]
      exact ⟨h.1, ih h.2 k⟩
def lastR (zs : List Int) (k : Nat) : Int := if k = 0 then 0 else zs.getD (k - 1) 0
theorem okR_next {zs : List Int} {k : Nat} (h : okR 0 (zs.take k) = true) (hk : k < zs.length) : okR 0 (zs.take (k + 1)) = decide (lastR zs k < zs.getD k 0) := by
  have e : zs.take (k + 1) = zs.take k ++ [zs.getD k 0] := by rw [List.take_succ_eq_append_getElem hk]; simp [List.getD_eq_getElem?_getD, hk]
  rw [e, okR_snoc, h, Bool.true_and]
  congr 2
  unfold lastR
  cases k with
  | zero => simp
  | succ k =>
    have : zs.take (k + 1) ≠ [] := by intro q; have := congrArg List.length q; rw [List.length_take, List.length_nil] at this; omega
    rw [if_neg this, if_neg (by omega)]
    simp only [List.length_take, List.getD_eq_getElem?_getD]
    rw [show min (k + 1) zs.length - 1 = k by omega, List.getElem?_take_of_lt (by omega)]
    rfl
set_option maxRecDepth 100000 in
set_option maxHeartbeats 1000000 in
theorem smay_any {w : World} (p : Option Addr) (c : Nat) (zs : List Int) (y : Value) (h : Iz w p zs) (hl : zs.length < 4611686018427387904) :
    Calls Tryd.prog 23 #[.agg #[.slice p zs.length c, y]] w fun e w' => e = .returned (.bool (okR 0 zs)) ∧ Nw w w' := by
  have H : Hid (Iz w p zs) := h
  clear h
  obtain ⟨n, hn⟩ : ∃ n, n = zs.length := ⟨_, rfl⟩
  rw [← hn] at hl ⊢
  have Hn : Hid (n = zs.length) := hn
  clear hn
  go_enter Tryd.func23, Tryd.ntmps23
  go_wp2
  go_loopw [3, 9] (fun x i wr => ∃ k : Nat, k ≤ n ∧ i = .int .i64 k ∧ x = .int .i64 (lastR zs k) ∧ okR 0 (zs.take k) = true ∧ Nw w wr) (fun _ i _ => n - (intOf i).toNat)
  case atStart => exact ⟨0, by omega, rfl, rfl, rfl, (Fr.refl _ w).alloc _⟩
  case round =>
    obtain ⟨k, hk, rfl, rfl, hok, hnw⟩ := hrel
    have HK : Hid (okR 0 (zs.take k) = true) := hok
    clear hok
    by_cases hlt : k < n
    · obtain ⟨g, o, rfl, hc⟩ := H.out k (by have := Hn.out; omega)
      have hd := hnw.cellOf hc
      have hnx : Hid (okR 0 (zs.take (k + 1)) = decide (lastR zs k < zs.getD k 0)) := okR_next HK.out (by have := Hn.out; omega)
      have hz : Hid (lastR zs (k + 1) = zs.getD k 0) := by show _ = _; simp [lastR]
      generalize zs.getD k 0 = x at hd hnx hz
      generalize lastR zs k = l at hnx
      clear hc
      have hki : (k : Int) < (n : Int) := by omega
      by_cases hx : x ≤ l
      · go_wp2
        go_ret
        refine ⟨?_, hnw⟩
        have : okR 0 zs = false := by
          cases hh : okR 0 zs
          · rfl
          · have := okR_pre hh (k + 1); rw [hnx.out] at this; simp at this; omega
        rw [this]; rfl
      · go_wp2
        exact ⟨⟨k + 1, by omega, by go_num, by rw [hz.out], by rw [hnx.out]; simp; omega, hnw⟩, by simp [intOf]; omega⟩
    · have hge : ¬ (k : Int) < (n : Int) := by omega
      go_wp2
      go_ret
      refine ⟨?_, hnw⟩
      have e : k = n := by omega
      have := HK.out
      rw [e, Hn.out, List.take_length] at this
      rw [this]; rfl
theorem infoI : (Tryd.prog.info? 3).map (fun i => (i.zero, i.size, i.bytes)) = some (some (.int .i64 0), 1, 8) := by kernel_rfl
theorem sizeI : (Tryd.prog.info? 3).map (·.size) = some 1 := by kernel_rfl
theorem info_partsI : ∃ i, Tryd.prog.info? 3 = some i ∧ i.zero = some (.int .i64 0) ∧ i.size = 1 ∧ i.bytes = 8 := by
  have h := infoI
  cases hi : Tryd.prog.info? 3 with
  | none => rw [hi] at h; cases h
  | some i => rw [hi] at h; simp at h; exact ⟨i, rfl, h.1, h.2.1, h.2.2⟩
def zI (n : Nat) : List Value := List.replicate n (.int .i64 0)
theorem make_ints (n : Nat) (w : World) (hl : n ≤ 1099511627776) : (Instr.makeSlice 22 (.int .i64 n) (.int .i64 n)).run Tryd.prog w = .ok (.slice (some ⟨w.heap.size, 0, none⟩) n n) (w.alloc (.cells (zI n).toArray 3)) := by
  obtain ⟨i, hi, hz, hs, hb⟩ := info_partsI
  rw [run_make w 22 3 i (.int .i64 0) Tryd.underlying22 hi hz .i64 .i64 _ _ (by omega) (by omega) (by rw [hb]; omega) (by omega), hs]
  have : madeCells (Value.int .i64 0).cells ((n : Int).toNat * 1) = (zI n).toArray := by
    apply Array.ext
    · simp [madeCells, zI]
    · intro j h1 h2
      simp [madeCells, zI, Value.cells, Nat.mod_one]
  rw [this]
  rfl
def izs (zs : List Int) : List Value := zs.map fun z => .int .i64 z
theorem izs_len (zs : List Int) : (izs zs).length = zs.length := by simp [izs]
theorem izs_one (zs : List Int) : ∀ v ∈ izs zs, v.oneCell' = true := by
  intro v hv
  simp only [izs, List.mem_map] at hv
  obtain ⟨z, _, rfl⟩ := hv
  rfl
theorem iz_of {w : World} {g : Nat} {zs : List Int} (h : w.heap[g]? = some (.cells (izs zs).toArray 3 (0, 0))) : Iz w (some ⟨g, 0, none⟩) zs := fun j hj => ⟨g, 0, rfl, by
  rw [Nat.zero_add, cell_of h]
  simp [izs, List.getD_eq_getElem?_getD, hj]⟩
theorem splice_all (n : Nat) (cs : List Value) (h : cs.length = n) : splice (zI n) 0 cs = cs := by
  simp [splice, zI, h]
theorem fr_below {B : Nat} {w w' : World} (h : Below B w w') (hs : w.heap.size ≤ w'.heap.size) : Fr (fun k => B ≤ k) w w' := ⟨h.os, h.tape, h.output, hs, fun k hk hn => h.block k (by omega)⟩
set_option maxRecDepth 100000 in
set_option maxHeartbeats 2000000 in
theorem srestart_any {w : World} {b bm : Nat} {rv : Value} {cr rn wn : Int} {dd : Bool} (h : w.heap[b]? = some (stc (.map (some bm)) rv cr rn wn dd)) (p : Option Addr) (c : Nat) (zs : List Int) (crash : Int) (hz : Iz w p zs) (hl : zs.length ≤ 1099511627776) (hok : okR 0 zs = true) :
    Calls Tryd.prog 8 #[.pointer (some ⟨b, 0, none⟩), .agg #[.slice p zs.length c, .int .i64 crash]] w fun e w' => e = .returned .nilIface ∧ (∃ g, w.heap.size ≤ g ∧ w'.heap[b]? = some (stc (.map (some bm)) (.slice (some ⟨g, 0, none⟩) zs.length zs.length) crash 0 0 false) ∧ Iz w' (some ⟨g, 0, none⟩) zs) ∧ Fr (fun k => k = b) w w' := by
  have n0 : Nw w (w.alloc (.cells #[.slice p zs.length c, .int .i64 crash] 24)) := (Fr.refl _ w).alloc _
  have q := sthere_any (b := b) ((n0.block _ (heap_lt h) (fun f => f)).trans h)
  have q2 := fun (W : World) (hW : Iz W p zs) => smay_any (w := W) p c zs (.int .i64 crash) hW (by omega)
  rw [hok] at q2
  have hb0 := heap_lt h
  have hcs : Hid (∀ (W : World), Iz W p zs → 0 < (izs zs).length → ∃ ad, p = some ad ∧ ∀ j v, (izs zs)[j]? = some v → W.cell? (ad.add j) = some v) := by
    intro W hW h0
    rw [izs_len] at h0
    obtain ⟨g, o, e, _⟩ := hW 0 h0
    refine ⟨_, e, fun j v hj => ?_⟩
    have hjl : j < zs.length := by have := (List.getElem?_eq_some_iff.1 hj).1; rwa [izs_len] at this
    obtain ⟨g', o', e', hc'⟩ := hW j hjl
    rw [e] at e'
    cases e'
    rw [addO, hc']
    simp only [izs, List.getElem?_map, List.getElem?_eq_getElem hjl, Option.map_some] at hj
    simpa [List.getD_eq_getElem?_getD, hjl] using hj
  have HZ : Hid (Iz w p zs) := hz
  have HB : Hid (w.heap[b]? = some (stc (.map (some bm)) rv cr rn wn dd)) := h
  clear h hok hz
  obtain ⟨n, hn⟩ : ∃ n, n = zs.length := ⟨_, rfl⟩
  have hm := fun W => make_ints n W (by omega)
  rw [← hn] at hl q2 n0 q ⊢
  have Hn : Hid (zs.length = n) := hn.symm
  clear hn
  go_enter Tryd.func8, Tryd.ntmps8
  go_wp2_with fail
  refine q.mono ?_
  rintro e w1 ⟨rfl, h1⟩
  have N1 : Hid (Nw w w1) := by show Nw _ _; rw [h1]; exact n0
  have a0 : w1.cell? ⟨w.heap.size, 0, none⟩ = some (.slice p n c) := by rw [h1]; exact (cell_of (heap_new _ _) 0).trans rfl
  have a1 : w1.cell? ⟨w.heap.size, 1, none⟩ = some (.int .i64 crash) := by rw [h1]; exact (cell_of (heap_new _ _) 1).trans rfl
  have l1 : w.heap.size < w1.heap.size := by rw [h1]; simp
  clear h1 n0 q
  go_wp2_with fail
  refine (q2 w1 (HZ.out.nw N1.out)).mono ?_
  rintro e w2 ⟨rfl, n2⟩
  have b0 := n2.cellOf a0
  have b1 := n2.cellOf a1
  have l2 : w.heap.size < w2.heap.size := Nat.lt_of_lt_of_le l1 n2.size
  have N2 : Hid (Nw w w2) := N1.out.tr n2
  clear a0 a1 n2 l1
  have HZ2 : Hid (Iz w2 p zs) := HZ.out.nw N2.out
  clear q2
  have X1 : Hid ((izs zs).length = Nat.min n n) := by show _ = _; rw [izs_len, Hn.out]; exact (Nat.min_self n).symm
  have X2 : Hid (0 + (izs zs).length ≤ (zI n).length) := by show _ ≤ _; rw [izs_len, Hn.out]; simp [zI]
  have X3 : Hid (0 < (izs zs).length → ∃ ad, p = some ad ∧ ∀ j v, (izs zs)[j]? = some v → (w2.alloc (.cells (zI n).toArray 3)).cell? (ad.add j) = some v) := fun h0 => hcs.out _ (HZ2.out.nw ((Fr.refl _ w2).alloc _)) h0
  have X4 : Hid (Below w2.heap.size w2 (w2.alloc (.cells (zI n).toArray 3))) := Nw.bel ((Fr.refl _ w2).alloc _)
  go_wp2_with ((with_reducible refine wpList_copy_splice rfl (.tmp 18) (.tmp 20) 22 22 rfl 3 Tryd.underlying22 sizeI (some ⟨w2.heap.size, 0, none⟩) p n n n c rfl rfl w2.heap.size 0 (zI n) 3 (heap_new _ _) (izs zs) X1.out (fun h0 => ⟨rfl, X3.out h0⟩) X2.out (izs_one zs) w2.heap.size w2 X4.out (Nat.le_refl _) ?_); intro w3 hg3 hb3; have f3 : Hid (Nw w2 w3) := Fr.ofBelow hb3; have d0 := f3.out.cellOf b0; have d1 := f3.out.cellOf b1; have hs3 := hb3.size; have e3 : Hid (w3.heap[b]? = some (stc (.map (some bm)) rv cr rn wn dd)) := ((N2.out.tr f3.out).block _ hb0 (fun f => f)).trans HB.out; have lb3 := heap_lt e3.out; have fz1 := frozen_of e3.out 1; have fz2 := frozen_of e3.out 2; have fz3 := frozen_of e3.out 3; have fz4 := frozen_of e3.out 4; have fz5 := frozen_of e3.out 5; obtain ⟨k0, k1, k2, k3, k4, k5⟩ := stc_cs e3.out; clear hb3)
  go_ret
  have f5 : Fr (fun k => k = b) w w3 := (N2.out.tr f3.out).mono (fun _ _ q => q.elim)
  refine ⟨rfl, ⟨w2.heap.size, by omega, (heap_set (heap_set (heap_set (heap_set (heap_set e3.out _) _) _) _) _).trans rfl, ?_⟩, ((((f5.setCell _ _ (fun _ => rfl)).setCell _ _ (fun _ => rfl)).setCell _ _ (fun _ => rfl)).setCell _ _ (fun _ => rfl)).setCell _ _ (fun _ => rfl)⟩
  have hne : w2.heap.size ≠ b := by have := N2.out.size; omega
  refine iz_of ?_
  rw [heap_set_ne hne, heap_set_ne hne, heap_set_ne hne, heap_set_ne hne, heap_set_ne hne, hg3.out, splice_all n _ (by rw [izs_len, Hn.out])]
end Go.Proofs.YtdckjmbellngiaaDoor
