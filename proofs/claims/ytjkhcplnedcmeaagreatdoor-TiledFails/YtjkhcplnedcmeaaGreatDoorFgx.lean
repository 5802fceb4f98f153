/- store: trouble that may be; Restart, New. -/
import Derived.Test.YtjkhcplnedcmeaaGreatDoorFa
import Derived.Laws.CopyOwn
import Derived.Laws.MakeOwn
import Derived.Carry
import Derived.Test.YtjkhcplnedcmeaaGreatDoorClg
import Derived.Deep.DeepCutAuto
namespace Go.Proofs.YtjkhcplnedcmeaaGreatDoor
open Go.RowKit Go.Maps
set_option linter.unusedVariables false
set_option linter.unusedSimpArgs false
/-- Trouble may be: its numbers rise from 1 on. -/
def okR (last : Int) : List Int → Bool
  | [] => true
  | z :: r => decide (last < z) && okR z r
theorem okR_at : ∀ (zs : List Int) (last : Int) (k : Nat), k < zs.length → okR last zs = (okR last (zs.take k) && okR (if k = 0 then last else zs.getD (k - 1) 0) (zs.drop k))
  | [], last, k, h => by simp at h
  | z :: r, last, 0, h => by simp [okR]
  | z :: r, last, k + 1, h => by
    simp only [okR, List.take_succ_cons, List.drop_succ_cons, Bool.and_assoc]
    rcases Nat.lt_or_ge k r.length with hk | hk
    · rw [okR_at r z k hk]
      congr 2
      cases k <;> simp
    · simp at h; omega
theorem okR_snoc : ∀ (zs : List Int) (last x : Int), okR last (zs ++ [x]) = (okR last zs && decide ((if zs = [] then last else zs.getD (zs.length - 1) 0) < x))
  | [], last, x => by simp [okR]
  | z :: r, last, x => by
    simp only [List.cons_append, okR, okR_snoc r z x, Bool.and_assoc]
    cases r <;> simp
theorem okR_pre {zs : List Int} {last : Int} (h : okR last zs = true) (k : Nat) : okR last (zs.take k) = true := by
  induction zs generalizing last k with
  | nil => simpa using h
  | cons z r ih =>
    cases k with
    | zero => simp [okR]
    | succ k =>
      simp only [okR, Bool.and_eq_true] at h
      simp only [List.take_succ_cons, okR, Bool.and_eq_true]
      exact ⟨h.1, ih h.2 k⟩
def lastR (zs : List Int) (k : Nat) : Int := if k = 0 then 0 else zs.getD (k - 1) 0
theorem okR_next {zs : List Int} {k : Nat} (h : okR 0 (zs.take k) = true) (hk : k < zs.length) : okR 0 (zs.take (k + 1)) = decide (lastR zs k < zs.getD k 0) := by
  have e : zs.take (k + 1) = zs.take k ++ [zs.getD k 0] := by rw [List.take_succ_eq_append_getElem hk]; simp [List.getD_eq_getElem?_getD, hk]
  rw [e, okR_snoc, h, Bool.true_and]
  congr 2
  unfold lastR
  cases k with
  | zero => simp
  | succ k =>
    have : zs.take (k + 1) ≠ [] := by intro q; have := congrArg List.length q; rw [List.length_take, List.length_nil] at this; omega
    rw [if_neg this, if_neg (by omega)]
    simp only [List.length_take, List.getD_eq_getElem?_getD]
    rw [show min (k + 1) zs.length - 1 = k by omega, List.getElem?_take_of_lt (by omega)]
    rfl
set_option maxRecDepth 100000 in
set_option maxHeartbeats 1000000 in
theorem smay_any {w : World} (p : Option Addr) (c : Nat) (zs : List Int) (y : Value) (h : Iz w p zs) (hl : zs.length < 4611686018427387904) :
    Calls Tryz.prog 68 #[.agg #[.slice p zs.length c, y]] w fun e w' => e = .returned (.bool (okR 0 zs)) ∧ Nw w w' := by
  have H : Hid (Iz w p zs) := h
  clear h
  obtain ⟨n, hn⟩ : ∃ n, n = zs.length := ⟨_, rfl⟩
  rw [← hn] at hl ⊢
  have Hn : Hid (n = zs.length) := hn
  clear hn
  go_enter Tryz.func68, Tryz.ntmps68
  go_wp2
  go_loopw [3, 9] (fun x i wr => ∃ k : Nat, k ≤ n ∧ i = .int .i64 k ∧ x = .int .i64 (lastR zs k) ∧ okR 0 (zs.take k) = true ∧ Nw w wr) (fun _ i _ => n - (intOf i).toNat)
  case atStart => exact ⟨0, by omega, rfl, rfl, rfl, (Fr.refl _ w).alloc _⟩
  case round =>
    obtain ⟨k, hk, rfl, rfl, hok, hnw⟩ := hrel
    have HK : Hid (okR 0 (zs.take k) = true) := hok
    clear hok
    by_cases hlt : k < n
    · obtain ⟨g, o, rfl, hc⟩ := H.out k (by have := Hn.out; omega)
      have hd := hnw.cellOf hc
      have hnx : Hid (okR 0 (zs.take (k + 1)) = decide (lastR zs k < zs.getD k 0)) := okR_next HK.out (by have := Hn.out; omega)
      have hz : Hid (lastR zs (k + 1) = zs.getD k 0) := by show _ = _; simp [lastR]
      generalize zs.getD k 0 = x at hd hnx hz
      generalize lastR zs k = l at hnx
      clear hc
      have hki : (k : Int) < (n : Int) := by omega
      by_cases hx : x ≤ l
      · go_wp2
        go_ret
        refine ⟨?_, hnw⟩
        have : okR 0 zs = false := by
          cases hh : okR 0 zs
          · rfl
          · have := okR_pre hh (k + 1); rw [hnx.out] at this; simp at this; omega
        rw [this]; rfl
      · go_wp2
        exact ⟨⟨k + 1, by omega, by go_num, by rw [hz.out], by rw [hnx.out]; simp; omega, hnw⟩, by simp [intOf]; omega⟩
    · have hge : ¬ (k : Int) < (n : Int) := by omega
      go_wp2
      go_ret
      refine ⟨?_, hnw⟩
      have e : k = n := by omega
      have := HK.out
      rw [e, Hn.out, List.take_length] at this
      rw [this]; rfl
theorem infoI : (Tryz.prog.info? 3).map (fun i => (i.zero, i.size, i.bytes)) = some (some (.int .i64 0), 1, 8) := by kernel_rfl
theorem sizeI : (Tryz.prog.info? 3).map (·.size) = some 1 := by kernel_rfl
theorem info_partsI : ∃ i, Tryz.prog.info? 3 = some i ∧ i.zero = some (.int .i64 0) ∧ i.size = 1 ∧ i.bytes = 8 := by
  have h := infoI
  cases hi : Tryz.prog.info? 3 with
  | none => rw [hi] at h; cases h
  | some i => rw [hi] at h; simp at h; exact ⟨i, rfl, h.1, h.2.1, h.2.2⟩
def zI (n : Nat) : List Value := List.replicate n (.int .i64 0)
theorem make_ints (n : Nat) (w : World) (hl : n ≤ 17592186044416) : (Instr.makeSlice 54 (.int .i64 n) (.int .i64 n)).run Tryz.prog w = .ok (.slice (some ⟨w.heap.size, 0, none⟩) n n) (w.alloc (.cells (zI n).toArray 3)) := by
  obtain ⟨i, hi, hz, hs, hb⟩ := info_partsI
  rw [run_make w 54 3 i (.int .i64 0) Tryz.underlying54 hi hz .i64 .i64 _ _ (by omega) (by omega) (by rw [hb]; omega) (by omega), hs]
  have : madeCells (Value.int .i64 0).cells ((n : Int).toNat * 1) = (zI n).toArray := by
    apply Array.ext
    · simp [madeCells, zI]
    · intro j h1 h2
      simp [madeCells, zI, Value.cells, Nat.mod_one]
  rw [this]
  rfl
def izs (zs : List Int) : List Value := zs.map fun z => .int .i64 z
theorem izs_len (zs : List Int) : (izs zs).length = zs.length := by simp [izs]
theorem izs_one (zs : List Int) : ∀ v ∈ izs zs, v.oneCell' = true := by
  intro v hv
  simp only [izs, List.mem_map] at hv
  obtain ⟨z, _, rfl⟩ := hv
  rfl
theorem iz_of {w : World} {g : Nat} {zs : List Int} (h : w.heap[g]? = some (.cells (izs zs).toArray 3 (0, 0))) : Iz w (some ⟨g, 0, none⟩) zs := fun j hj => ⟨g, 0, rfl, by
  rw [Nat.zero_add, cell_of h]
  simp [izs, List.getD_eq_getElem?_getD, hj]⟩
theorem splice_all (n : Nat) (cs : List Value) (h : cs.length = n) : splice (zI n) 0 cs = cs := by
  simp [splice, zI, h]
set_option maxRecDepth 100000 in
set_option maxHeartbeats 2000000 in
theorem srestart_anyG {w : World} {b bm : Nat} {rv : Value} {cr rn wn : Int} {dd : Bool} (h : w.heap[b]? = some (stc (.map (some bm)) rv cr rn wn dd)) (p : Option Addr) (c : Nat) (zs : List Int) (crash : Int) (hz : Iz w p zs) (hl : zs.length ≤ 17592186044416) (hok : okR 0 zs = true) :
    Calls Tryz.prog 20 #[.pointer (some ⟨b, 0, none⟩), .agg #[.slice p zs.length c, .int .i64 crash]] w fun e w' => e = .returned .nilIface ∧ (∃ g, w.heap.size ≤ g ∧ g < w'.heap.size ∧ w'.heap[b]? = some (stc (.map (some bm)) (.slice (some ⟨g, 0, none⟩) zs.length zs.length) crash 0 0 false) ∧ Iz w' (some ⟨g, 0, none⟩) zs) ∧ Fr (fun k => k = b) w w' := by
  have n0 : Nw w (w.alloc (.cells #[.slice p zs.length c, .int .i64 crash] 57)) := (Fr.refl _ w).alloc _
  have q := sthere_any (b := b) ((n0.block _ (heap_lt h) (fun f => f)).trans h)
  have q2 := fun (W : World) (hW : Iz W p zs) => smay_any (w := W) p c zs (.int .i64 crash) hW (by omega)
  rw [hok] at q2
  have hb0 := heap_lt h
  have hcs : Hid (∀ (W : World), Iz W p zs → 0 < (izs zs).length → ∃ ad, p = some ad ∧ ∀ j v, (izs zs)[j]? = some v → W.cell? (ad.add j) = some v) := by
    intro W hW h0
    rw [izs_len] at h0
    obtain ⟨g, o, e, _⟩ := hW 0 h0
    refine ⟨_, e, fun j v hj => ?_⟩
    have hjl : j < zs.length := by have := (List.getElem?_eq_some_iff.1 hj).1; rwa [izs_len] at this
    obtain ⟨g', o', e', hc'⟩ := hW j hjl
    rw [e] at e'
    cases e'
    rw [addO, hc']
    simp only [izs, List.getElem?_map, List.getElem?_eq_getElem hjl, Option.map_some] at hj
    simpa [List.getD_eq_getElem?_getD, hjl] using hj
  have HZ : Hid (Iz w p zs) := hz
  have HB : Hid (w.heap[b]? = some (stc (.map (some bm)) rv cr rn wn dd)) := h
  clear h hok hz
  obtain ⟨n, hn⟩ : ∃ n, n = zs.length := ⟨_, rfl⟩
  have hm := fun W => make_ints n W (by omega)
  rw [← hn] at hl q2 n0 q ⊢
  have Hn : Hid (zs.length = n) := hn.symm
  clear hn
  go_enter Tryz.func20, Tryz.ntmps20
  go_wp2_with fail
  refine q.mono ?_
  rintro e w1 ⟨rfl, h1⟩
  have N1 : Hid (Nw w w1) := by show Nw _ _; rw [h1]; exact n0
  have a0 : w1.cell? ⟨w.heap.size, 0, none⟩ = some (.slice p n c) := by rw [h1]; exact (cell_of (heap_new _ _) 0).trans rfl
  have a1 : w1.cell? ⟨w.heap.size, 1, none⟩ = some (.int .i64 crash) := by rw [h1]; exact (cell_of (heap_new _ _) 1).trans rfl
  have l1 : w.heap.size < w1.heap.size := by rw [h1]; simp
  clear h1 n0 q
  go_wp2_with fail
  refine (q2 w1 (HZ.out.nw N1.out)).mono ?_
  rintro e w2 ⟨rfl, n2⟩
  have b0 := n2.cellOf a0
  have b1 := n2.cellOf a1
  have l2 : w.heap.size < w2.heap.size := Nat.lt_of_lt_of_le l1 n2.size
  have N2 : Hid (Nw w w2) := N1.out.tr n2
  clear a0 a1 n2 l1
  have HZ2 : Hid (Iz w2 p zs) := HZ.out.nw N2.out
  clear q2
  have X1 : Hid ((izs zs).length = Nat.min n n) := by show _ = _; rw [izs_len, Hn.out]; exact (Nat.min_self n).symm
  have X2 : Hid (0 + (izs zs).length ≤ (zI n).length) := by show _ ≤ _; rw [izs_len, Hn.out]; simp [zI]
  have X3 : Hid (0 < (izs zs).length → ∃ ad, p = some ad ∧ ∀ j v, (izs zs)[j]? = some v → (w2.alloc (.cells (zI n).toArray 3)).cell? (ad.add j) = some v) := fun h0 => hcs.out _ (HZ2.out.nw ((Fr.refl _ w2).alloc _)) h0
  have X4 : Hid (Below w2.heap.size w2 (w2.alloc (.cells (zI n).toArray 3))) := Nw.bel ((Fr.refl _ w2).alloc _)
  go_wp2_with ((with_reducible refine wpList_copy_splice rfl (.tmp 18) (.tmp 20) 54 54 rfl 3 Tryz.underlying54 sizeI (some ⟨w2.heap.size, 0, none⟩) p n n n c rfl rfl w2.heap.size 0 (zI n) 3 (heap_new _ _) (izs zs) X1.out (fun h0 => ⟨rfl, X3.out h0⟩) X2.out (izs_one zs) w2.heap.size w2 X4.out (Nat.le_refl _) ?_); intro w3 hg3 hb3; have f3 : Hid (Nw w2 w3) := Fr.ofBelow hb3; have d0 := f3.out.cellOf b0; have d1 := f3.out.cellOf b1; have hs3 := hb3.size; have e3 : Hid (w3.heap[b]? = some (stc (.map (some bm)) rv cr rn wn dd)) := ((N2.out.tr f3.out).block _ hb0 (fun f => f)).trans HB.out; have lb3 := heap_lt e3.out; have fz1 := frozen_of e3.out 1; have fz2 := frozen_of e3.out 2; have fz3 := frozen_of e3.out 3; have fz4 := frozen_of e3.out 4; have fz5 := frozen_of e3.out 5; obtain ⟨k0, k1, k2, k3, k4, k5⟩ := stc_cs e3.out; clear hb3)
  go_ret
  have f5 : Fr (fun k => k = b) w w3 := (N2.out.tr f3.out).mono (fun _ _ q => q.elim)
  refine ⟨rfl, ⟨w2.heap.size, by omega, by have := heap_lt hg3.out; simp only [World.setCell, Array.size_modify]; exact this, (heap_set (heap_set (heap_set (heap_set (heap_set e3.out _) _) _) _) _).trans rfl, ?_⟩, ((((f5.setCell _ _ (fun _ => rfl)).setCell _ _ (fun _ => rfl)).setCell _ _ (fun _ => rfl)).setCell _ _ (fun _ => rfl)).setCell _ _ (fun _ => rfl)⟩
  have hne : w2.heap.size ≠ b := by have := N2.out.size; omega
  refine iz_of ?_
  rw [heap_set_ne hne, heap_set_ne hne, heap_set_ne hne, heap_set_ne hne, heap_set_ne hne, hg3.out, splice_all n _ (by rw [izs_len, Hn.out])]
end Go.Proofs.YtjkhcplnedcmeaaGreatDoor
namespace Go.Proofs.YtjkhcplnedcmeaaGreatDoor
open Go.RowKit Go.Maps
set_option linter.unusedVariables false
set_option linter.unusedSimpArgs false
theorem heap_3 (w : World) (o p q : Obj) : (((w.alloc o).alloc p).alloc q).heap[w.heap.size + 2]? = some q := by
  have := heap_alloc_new ((w.alloc o).alloc p) q
  rw [World.size_alloc, World.size_alloc] at this
  exact this
set_option maxRecDepth 100000 in
set_option maxHeartbeats 2000000 in
theorem snew_anyG {w : World} (p : Option Addr) (c : Nat) (zs : List Int) (crash : Int) (hz : Iz w p zs) (hl : zs.length ≤ 17592186044416) (hok : okR 0 zs = true) :
    Calls Tryz.prog 43 #[.agg #[.slice p zs.length c, .int .i64 crash]] w fun e w' => ∃ b bm g, e = .returned (.tuple #[.pointer (some ⟨b, 0, none⟩), .nilIface]) ∧ w.heap.size ≤ b ∧ w.heap.size ≤ bm ∧ w.heap.size ≤ g ∧ g < w'.heap.size ∧ Sr w' b bm 0 (fun _ => none) (some ⟨g, 0, none⟩) zs.length zs crash 0 0 false ∧ Nw w w' := by
  have hmm := @run_makeMap Tryz.prog
  have q := fun (W : World) (b bm : Nat) (h : W.heap[b]? = some (stc (.map (some bm)) (.slice none 0 0) 0 0 0 false)) (hW : Iz W p zs) => srestart_anyG h p c zs crash hW hl hok
  have HZ : Hid (Iz w p zs) := hz
  clear hz hok
  go_enter Tryz.func43, Tryz.ntmps43
  go_wp2_with fail
  refine (q _ (w.heap.size + 2) (w.heap.size + 1) ?_ ?_).mono ?_
  · exact (heap_3 _ _ _ _).trans rfl
  · exact HZ.out.nw ((((Fr.refl _ w).alloc _).alloc _).alloc _)
  rintro e w1 ⟨rfl, ⟨g, hg, hgl, hb, hi⟩, f1⟩
  have n3 : Nw w (((w.alloc (.cells #[.slice p zs.length c, .int .i64 crash] 57)).alloc (.map #[] 0)).alloc (stc (.map (some (w.heap.size + 1))) (.slice none 0 0) 0 0 0 false)) := (((Fr.refl _ w).alloc _).alloc _).alloc _
  have HN : Hid (Nw w w1) := n3.trans f1 (fun j hj e => by omega)
  have HS : Hid (Sr w1 (w.heap.size + 2) (w.heap.size + 1) 0 (fun _ => none) (some ⟨g, 0, none⟩) zs.length zs crash 0 0 false) := by
    refine ⟨hb, ?_, hi, fun g' o' e => ?_, by omega⟩
    · have := Mp.made (w.alloc (.cells #[.slice p zs.length c, .int .i64 crash] 57))
      rw [show (w.alloc (.cells #[.slice p zs.length c, .int .i64 crash] 57)).heap.size = w.heap.size + 1 by simp] at this
      exact (this.fr ((Fr.refl (fun _ => False) _).alloc _) (fun q => q)).fr f1 (by omega)
    · cases e
      simp at hg
      omega
  have hg' : w.heap.size ≤ g := by simp at hg; omega
  clear q hb hi f1 n3 hg
  go_wp2
  go_ret2
  exact ⟨_, _, g, rfl, by omega, by omega, hg', hgl, HS.out, HN.out⟩
theorem scounts_any {w : World} {b bm : Nat} {rv : Value} {cr rn wn : Int} {dd : Bool} (h : w.heap[b]? = some (stc (.map (some bm)) rv cr rn wn dd)) :
    Calls Tryz.prog 21 #[.pointer (some ⟨b, 0, none⟩)] w fun e w' => e = .returned (.tuple #[.int .i64 rn, .int .i64 wn]) ∧ Nw w w' := by
  have q := sthere_any h
  obtain ⟨_, _, _, c3, c4, _⟩ := stc_cs h
  have lb := heap_lt h
  clear h
  go_enter Tryz.func21, Tryz.ntmps21
  go_wp2_with fail
  refine q.mono ?_
  rintro e w1 ⟨rfl, rfl⟩
  go_wp2_with fail
  go_quiet (fail)
  go_wp2
  go_ret2
  exact ⟨rfl, (Fr.refl _ _).drewN _⟩
/-- A name that may be. -/
abbrev okN (s : ByteArray) : Prop := 1 ≤ s.size ∧ s.size ≤ 256
/-- What is refused of a store that is there. -/
noncomputable def rfs (a : Nat → Addr) (s : ByteArray) (dd : Bool) : Value := by
  classical exact if okN s then (if dd then sen (a 7) else .nilIface) else sen (a 1)
set_option maxRecDepth 100000 in
theorem srefuse_any {w : World} {b bm : Nat} {rv : Value} {cr rn wn : Int} {dd : Bool} (h : w.heap[b]? = some (stc (.map (some bm)) rv cr rn wn dd)) (s : ByteArray) {B : Nat} {a : Nat → Addr} (hS : Sent B w a) :
    Calls Tryz.prog 87 #[.pointer (some ⟨b, 0, none⟩), .string s] w fun e w' => e = .returned (rfs a s dd) ∧ w' = w := by
  have q := sthere_any h
  obtain ⟨_, _, _, _, _, c5⟩ := stc_cs h
  have lb := heap_lt h
  have e1 := hS.c1
  have e7 := hS.c7
  clear h hS
  by_cases h1 : (s.size : Int) < 1
  · have e : Hid (rfs a s dd = sen (a 1)) := by show _ = _; rw [rfs, if_neg]; omega
    go_enter Tryz.func87, Tryz.ntmps87
    go_wp2_with fail
    refine q.mono ?_
    rintro e w1 ⟨rfl, rfl⟩
    go_wp2
    go_ret
    exact ⟨by rw [e.out]; rfl, rfl⟩
  · by_cases h2 : (256 : Int) < s.size
    · have e : Hid (rfs a s dd = sen (a 1)) := by show _ = _; rw [rfs, if_neg]; omega
      go_enter Tryz.func87, Tryz.ntmps87
      go_wp2_with fail
      refine q.mono ?_
      rintro e w1 ⟨rfl, rfl⟩
      go_wp2
      go_ret
      exact ⟨by rw [e.out]; rfl, rfl⟩
    · have e : Hid (rfs a s dd = (if dd then sen (a 7) else .nilIface)) := by show _ = _; rw [rfs, if_pos]; omega
      cases dd
      all_goals
        go_enter Tryz.func87, Tryz.ntmps87
        go_wp2_with fail
        refine q.mono ?_
        rintro e w1 ⟨rfl, rfl⟩
        go_wp2
        go_ret
        exact ⟨by rw [e.out]; rfl, rfl⟩
end Go.Proofs.YtjkhcplnedcmeaaGreatDoor
namespace Go.Proofs.YtjkhcplnedcmeaaGreatDoor
open Go.RowKit Go.Maps
set_option linter.unusedVariables false
set_option linter.unusedSimpArgs false
theorem nwA (w : World) (o : Obj) : Nw w (w.alloc o) := (Fr.refl _ w).alloc o
theorem sclone_any (s : ByteArray) (w : World) (hs : s.size ≤ 281474976710656) :
    Calls Tryz.prog 88 #[.string s] w fun e w' => e = .returned (.string s) ∧ Nw w w' := by
  have q := fun W => Tryz.stringslite_Clone s W hs
  go_enter Tryz.func88, Tryz.ntmps88
  go_wp2_with fail
  refine (q _).mono ?_
  rintro e w1 ⟨rfl, h1⟩
  have HN : Hid (Nw w w1) := Fr.ofBelow h1
  clear h1 q
  go_wp2
  go_ret
  exact ⟨rfl, HN.out⟩
theorem fpred_any (B5 B3 : Nat) (p : Option Addr) (n c : Nat) (rd : Int) (k : Nat) (zs : List Int) (w : World) (h5 : w.cell? ⟨B5, 0, none⟩ = some (.slice p n c)) (h3 : w.cell? ⟨B3, 0, none⟩ = some (.int .i64 rd)) (hz : Iz w p zs) (hn : zs.length = n) (hk : k < n) :
    Calls Tryz.prog 173 #[.int .i64 k, .pointer (some ⟨B5, 0, none⟩), .pointer (some ⟨B3, 0, none⟩)] w fun e w' => e = .returned (.bool (decide (rd ≤ zs.getD k 0))) ∧ Nw w w' := by
  obtain ⟨g, o, rfl, hc⟩ := hz k (by omega)
  have l5 := World.block_lt_of_cell? w _ h5
  have l3 := World.block_lt_of_cell? w _ h3
  have lg := World.block_lt_of_cell? w _ hc
  generalize zs.getD k 0 = x at hc ⊢
  have hki : (k : Int) < (n : Int) := by omega
  clear hz hn
  go_enter Tryz.func173, Tryz.ntmps173
  go_wp2_with fail
  go_quiet (fail)
  go_wp2
  go_ret
  exact ⟨rfl, (Fr.refl _ _).drewN _⟩
set_option maxRecDepth 100000 in
set_option maxHeartbeats 2000000 in
theorem search_any (B5 B3 : Nat) (p : Option Addr) (n c : Nat) (rd : Int) (zs : List Int) (w : World) (h5 : w.cell? ⟨B5, 0, none⟩ = some (.slice p n c)) (h3 : w.cell? ⟨B3, 0, none⟩ = some (.int .i64 rd)) (hz : Iz w p zs) (hn : zs.length = n) (hl : n ≤ 17592186044416) (hs : ∀ i j, i ≤ j → j < n → zs.getD i 0 ≤ zs.getD j 0) :
    Calls Tryz.prog 172 #[.int .i64 n, .func (.func 173) #[] #[.pointer (some ⟨B5, 0, none⟩), .pointer (some ⟨B3, 0, none⟩)]] w fun e w' => ∃ k : Nat, k ≤ n ∧ e = .returned (.int .i64 k) ∧ (∀ j, j < k → zs.getD j 0 < rd) ∧ (∀ j, k ≤ j → j < n → rd ≤ zs.getD j 0) ∧ Nw w w' := by
  have q := fun (W : World) (nw : Nw w W) (k : Nat) (hk : k < n) => fpred_any B5 B3 p n c rd k zs W (nw.cellOf h5) (nw.cellOf h3) (hz.nw nw) hn hk
  have HS : Hid (∀ i j, i ≤ j → j < n → zs.getD i 0 ≤ zs.getD j 0) := hs
  clear h5 h3 hz hn hs
  go_enter Tryz.func172, Tryz.ntmps172
  go_wp2
  go_loopw [5, 6] (fun x y wr => ∃ i j : Nat, i ≤ j ∧ j ≤ n ∧ x = .int .i64 i ∧ y = .int .i64 j ∧ (∀ t, t < i → zs.getD t 0 < rd) ∧ (∀ t, j ≤ t → t < n → rd ≤ zs.getD t 0) ∧ Nw w wr) (fun x y _ => ((intOf y) - (intOf x)).toNat)
  case atStart => exact ⟨0, n, by omega, by omega, rfl, rfl, fun t ht => by omega, fun t h1 h2 => by omega, Fr.refl _ _⟩
  case round =>
    obtain ⟨i, j, hij, hj, rfl, rfl, hlo, hhi, hnw⟩ := hrel
    have HLO : Hid (∀ t, t < i → zs.getD t 0 < rd) := hlo
    have HHI : Hid (∀ t, j ≤ t → t < n → rd ≤ zs.getD t 0) := hhi
    clear hlo hhi
    by_cases hlt : i < j
    · have hki : (i : Int) < (j : Int) := by omega
      obtain ⟨m, hm⟩ : ∃ m : Nat, m = (i + j) / 2 := ⟨_, rfl⟩
      have e1 : ((i : Int) + (j : Int)) / 2 = (m : Int) := by omega
      have hm1 : i ≤ m := by omega
      have hm2 : m < j := by omega
      have HM : Hid (m = (i + j) / 2) := hm
      clear hm
      have q3 := q wr hnw m (by omega)
      have hmn : m < n := by omega
      by_cases hp : rd ≤ zs.getD m 0
      · have HP : Hid (rd ≤ zs.getD m 0) := hp
        rw [decide_eq_true hp] at q3
        clear hp
        go_wp2_with fail
        refine q3.mono ?_
        rintro e w2 ⟨rfl, n2⟩
        have HN : Hid (Nw w w2) := hnw.tr n2
        clear q3 n2
        go_wp2
        exact ⟨⟨i, m, hm1, by omega, rfl, rfl, HLO.out, fun t h1 h2 => Int.le_trans HP.out (HS.out m t h1 h2), HN.out⟩, by simp [intOf]; omega⟩
      · have HP : Hid (zs.getD m 0 < rd) := by show _ < _; omega
        rw [decide_eq_false hp] at q3
        clear hp
        go_wp2_with fail
        refine q3.mono ?_
        rintro e w2 ⟨rfl, n2⟩
        have HN : Hid (Nw w w2) := hnw.tr n2
        clear q3 n2
        go_wp2
        exact ⟨⟨m + 1, j, hm2, hj, by go_num, rfl, fun t h1 => Int.lt_of_le_of_lt (HS.out t m (by omega) hmn) HP.out, HHI.out, HN.out⟩, by simp [intOf]; omega⟩
    · have hge : ¬ (i : Int) < (j : Int) := by omega
      go_wp2
      go_ret
      exact ⟨i, by omega, rfl, HLO.out, fun t h1 h2 => HHI.out t (by omega) h2, hnw⟩
theorem okR_pw : ∀ (zs : List Int) (l : Int), okR l zs = true → zs.Pairwise (· < ·) ∧ ∀ z ∈ zs, l < z
  | [], l, _ => ⟨.nil, by simp⟩
  | z :: r, l, h => by
    simp only [okR, Bool.and_eq_true, decide_eq_true_eq] at h
    obtain ⟨h1, h2⟩ := okR_pw r z h.2
    refine ⟨List.pairwise_cons.2 ⟨h2, h1⟩, fun x hx => ?_⟩
    rcases List.mem_cons.1 hx with rfl | hx
    · exact h.1
    · exact Int.lt_trans h.1 (h2 x hx)
theorem okR_mono {zs : List Int} (h : okR 0 zs = true) (i j : Nat) (hij : i ≤ j) (hj : j < zs.length) : zs.getD i 0 ≤ zs.getD j 0 := by
  obtain ⟨hp, _⟩ := okR_pw zs 0 h
  rcases Nat.lt_or_ge i j with hlt | hge
  · have := List.pairwise_iff_getElem.1 hp i j (by omega) hj hlt
    simp only [List.getD_eq_getElem?_getD, List.getElem?_eq_getElem hj, List.getElem?_eq_getElem (show i < zs.length by omega), Option.getD_some]
    omega
  · rw [show i = j by omega]; exact Int.le_refl _
theorem mem_at {zs : List Int} {rd : Int} {k : Nat} (hlo : ∀ j, j < k → zs.getD j 0 < rd) (hhi : ∀ j, k ≤ j → j < zs.length → rd ≤ zs.getD j 0) (hm : ∀ i j, i ≤ j → j < zs.length → zs.getD i 0 ≤ zs.getD j 0) :
    rd ∈ zs ↔ k < zs.length ∧ zs.getD k 0 = rd := by
  constructor
  · intro h
    obtain ⟨j, hj, e⟩ := List.getElem_of_mem h
    have e' : zs.getD j 0 = rd := by simp [List.getD_eq_getElem?_getD, hj, e]
    have h1 : k ≤ j := by
      rcases Nat.lt_or_ge j k with q | q
      · have := hlo j q; omega
      · exact q
    have := hm k j h1 hj
    have := hhi k (Nat.le_refl _) (by omega)
    exact ⟨by omega, by omega⟩
  · rintro ⟨h, e⟩
    rw [← e]
    simp [List.getD_eq_getElem?_getD, h]
set_option maxRecDepth 100000 in
set_option maxHeartbeats 2000000 in
theorem sfails_any {w : World} {b : Nat} {m : Value} {p : Option Addr} {c : Nat} {zs : List Int} {cr rn wn : Int} {dd : Bool} (h : w.heap[b]? = some (stc m (.slice p zs.length c) cr rn wn dd)) (hz : Iz w p zs) (hl : zs.length ≤ 17592186044416) (hok : okR 0 zs = true) (rd : Int) :
    Calls Tryz.prog 139 #[.pointer (some ⟨b, 0, none⟩), .int .i64 rd] w fun e w' => e = .returned (.bool (decide (rd ∈ zs))) ∧ Nw w w' := by
  obtain ⟨_, c1, _⟩ := stc_cs h
  have lb := heap_lt h
  clear h
  have HM : Hid (∀ i j, i ≤ j → j < zs.length → zs.getD i 0 ≤ zs.getD j 0) := okR_mono hok
  have HZ : Hid (Iz w p zs) := hz
  obtain ⟨n, hn⟩ : ∃ n, n = zs.length := ⟨_, rfl⟩
  have q := fun (W : World) (nw : Nw w W) (h5 : W.cell? ⟨w.heap.size + 1, 0, none⟩ = some (.slice p n c)) (h3 : W.cell? ⟨w.heap.size, 0, none⟩ = some (.int .i64 rd)) => search_any (w.heap.size + 1) w.heap.size p n c rd zs W h5 h3 (hz.nw nw) hn.symm (by omega) (by rw [hn]; exact HM.out)
  rw [← hn] at c1 hl
  have Hn : Hid (n = zs.length) := hn
  clear hn hz hok
  obtain ⟨r, hr⟩ : ∃ r, r = decide (rd ∈ zs) := ⟨_, rfl⟩
  rw [← hr]
  have HR : Hid (r = decide (rd ∈ zs)) := hr
  clear hr
  go_enter Tryz.func139, Tryz.ntmps139
  go_wp2_with fail
  refine (q _ ?_ ?_ ?_).mono ?_
  · exact ((Fr.refl _ w).alloc _).alloc _
  · exact (cell_of (heap_next _ _ _) 0).trans rfl
  · exact ((nwA _ _).cellOf (cell_of (heap_new _ _) 0)).trans rfl
  rintro e w1 ⟨k, hk, rfl, hlo, hhi, n1⟩
  have n2 : Nw w (((w.alloc (.cells #[.int .i64 rd] 3)).alloc (.cells #[.slice p n c] 54))) := ((Fr.refl _ w).alloc _).alloc _
  have HN : Hid (Nw w w1) := n2.tr n1
  have d5 : w1.cell? ⟨w.heap.size + 1, 0, none⟩ = some (.slice p n c) := n1.cellOf ((cell_of (heap_next w (.cells #[.int .i64 rd] 3) (.cells #[.slice p n c] 54)) 0).trans rfl)
  have d3 : w1.cell? ⟨w.heap.size, 0, none⟩ = some (.int .i64 rd) := n1.cellOf ((nwA _ (.cells #[.slice p n c] 54)).cellOf ((cell_of (heap_new w (.cells #[.int .i64 rd] 3)) 0).trans rfl))
  have HA : Hid (rd ∈ zs ↔ k < n ∧ zs.getD k 0 = rd) := by have := mem_at hlo (by rw [← Hn.out]; exact hhi) HM.out; rwa [← Hn.out] at this
  have HX : Hid (∀ j, j < n → ∃ g o, p = some ⟨g, o, none⟩ ∧ w1.cell? ⟨g, o + j, none⟩ = some (.int .i64 (zs.getD j 0))) := fun j hj => (HZ.out.nw HN.out) j (by rw [← Hn.out]; exact hj)
  have l5 := World.block_lt_of_cell? w1 _ d5
  have l3 := World.block_lt_of_cell? w1 _ d3
  clear hlo hhi q n1 n2
  by_cases hlt : k < n
  · obtain ⟨g, o, rfl, hc⟩ := HX.out k hlt
    have lg := World.block_lt_of_cell? w1 _ hc
    have hki : (k : Int) < (n : Int) := by omega
    have HA2 : Hid (decide (rd ∈ zs) = decide (zs.getD k 0 = rd)) := by show _ = _; rw [decide_eq_decide, HA.out]; simp [hlt]
    obtain ⟨x, hx⟩ : ∃ x, x = zs.getD k 0 := ⟨_, rfl⟩
    have HR2 : Hid (r = decide (x = rd)) := by show _ = _; rw [HR.out, HA2.out, hx]
    rw [← hx] at hc
    clear hx HA2 HA HX HZ HM HR
    go_wp2_with fail
    go_quiet (fail)
    go_wp2
    go_ret
    exact ⟨by rw [HR2.out]; first | rfl | simp, HN.out.drewN _⟩
  · have hki : ¬ (k : Int) < (n : Int) := by omega
    have hdf : decide ((k : Int) < (n : Int)) = false := decide_eq_false hki
    have HA2 : Hid (decide (rd ∈ zs) = false) := by show _ = _; rw [decide_eq_false_iff_not, HA.out]; simp [hlt]
    have HR2 : Hid (r = false) := by show _ = _; rw [HR.out, HA2.out]
    clear HA2 HA HX HZ HM HR
    go_wp2_with fail
    go_quiet (fail)
    go_wp2
    go_ret
    exact ⟨by rw [HR2.out]; rfl, HN.out.drewN _⟩
end Go.Proofs.YtjkhcplnedcmeaaGreatDoor
namespace Go.Proofs.YtjkhcplnedcmeaaGreatDoor
open Go.RowKit Go.Maps
set_option linter.unusedVariables false
set_option linter.unusedSimpArgs false
theorem rfs_ok {a : Nat → Addr} {s : ByteArray} (h : okN s) : rfs a s false = .nilIface := by rw [rfs, if_pos h]; rfl
theorem rfs_dead {a : Nat → Addr} {s : ByteArray} (h : okN s) : rfs a s true = sen (a 7) := by rw [rfs, if_pos h]; rfl
theorem rfs_arg {a : Nat → Addr} {s : ByteArray} {dd : Bool} (h : ¬ okN s) : rfs a s dd = sen (a 1) := by rw [rfs, if_neg h]
theorem sget_ref {w : World} {b bm : Nat} {rv : Value} {cr rn wn : Int} {dd : Bool} (h : w.heap[b]? = some (stc (.map (some bm)) rv cr rn wn dd)) (s : ByteArray) {B : Nat} {a : Nat → Addr} (hS : Sent B w a) {x : Addr} (hr : rfs a s dd = sen x) :
    Calls Tryz.prog 101 #[.pointer (some ⟨b, 0, none⟩), .string s] w fun e w' => e = .returned (.tuple #[.string ⟨#[]⟩, sen x]) ∧ w' = w := by
  have q := srefuse_any h s hS
  rw [hr] at q
  clear h hS hr
  go_enter Tryz.func101, Tryz.ntmps101
  go_wp2_with fail
  refine q.mono ?_
  rintro e w1 ⟨rfl, rfl⟩
  go_wp2
  go_ret2
  exact ⟨rfl, rfl⟩
/-- What a read answers. -/
def getV (a : Nat → Addr) (zs : List Int) (rn : Int) (o : Option ByteArray) : Value :=
  if rn + 1 ∈ zs then .tuple #[.string ⟨#[]⟩, sen (a 6)] else match o with
    | some t => .tuple #[.string t, .nilIface]
    | none => .tuple #[.string ⟨#[]⟩, sen (a 5)]
set_option maxRecDepth 100000 in
set_option maxHeartbeats 2000000 in
theorem sget_any {w : World} {b bm n : Nat} {M : Tx} {p : Option Addr} {c : Nat} {zs : List Int} {cr rn wn : Int} (h : Sr w b bm n M p c zs cr rn wn false) (s : ByteArray) (hs : okN s) {B : Nat} {a : Nat → Addr} (hS : Sent B w a) (hl : zs.length ≤ 17592186044416) (hok : okR 0 zs = true) (hr0 : 0 ≤ rn) (hr1 : rn < 4611686018427387904) (hB : B ≤ b) :
    Calls Tryz.prog 101 #[.pointer (some ⟨b, 0, none⟩), .string s] w fun e w' => e = .returned (getV a zs rn (M s)) ∧ Sr w' b bm n M p c zs cr (rn + 1) wn false ∧ Fr (fun k => k = b) w w' := by
  have q := srefuse_any h.blk s hS
  rw [rfs_ok hs] at q
  obtain ⟨c0, c1, c2, c3, c4, c5⟩ := stc_cs h.blk
  have lb := heap_lt h.blk
  have f3 := frozen_of h.blk 3
  -- behind the count
  obtain ⟨wx, hwx⟩ : ∃ wx, wx = w.setCell ⟨b, 3, none⟩ (.int .i64 (rn + 1)) := ⟨_, rfl⟩
  have F : Fr (fun k => k = b) w wx := by rw [hwx]; exact (Fr.refl _ w).setCell _ _ (fun _ => rfl)
  have S1 : Sr wx b bm n M p c zs cr (rn + 1) wn false := by
    refine ⟨?_, h.mp.fr F h.nb, h.rd.fr F (fun g o e => (h.ne g o e).1), h.ne, h.nb⟩
    rw [hwx]
    exact (heap_set h.blk _).trans rfl
  have e5 := (hS.fr F (fun k hk e => by omega)).c5
  have e6 := (hS.fr F (fun k hk e => by omega)).c6
  have HF : Hid (Fr (fun k => k = b) w wx) := F
  have q2 := sfails_any S1.blk S1.rd hl hok (rn + 1)
  have HS1 : Hid (Sr wx b bm n M p c zs cr (rn + 1) wn false) := S1
  have x3 := (stc_cs S1.blk).2.2.2.1
  have lx := heap_lt S1.blk
  have HL := fun (W : World) (hW : Mp W bm n M) => hW.look s hs.2
  have HQ := fun (W : World) (t : ByteArray) (ht : t.size ≤ 281474976710656) => sclone_any t W ht
  obtain ⟨vv, hv⟩ : ∃ vv, vv = getV a zs rn (M s) := ⟨_, rfl⟩
  have HV : Hid (vv = getV a zs rn (M s)) := hv
  rw [← hv]
  clear h hS hv F S1 hok
  go_enter Tryz.func101, Tryz.ntmps101
  go_wp2_with fail
  refine q.mono ?_
  rintro e w1 ⟨rfl, rfl⟩
  go_wp2_with fail
  rw [← hwx]
  clear hwx
  by_cases hin : rn + 1 ∈ zs
  · rw [decide_eq_true hin] at q2
    have HI : Hid (vv = .tuple #[.string ⟨#[]⟩, sen (a 6)]) := by show _ = _; rw [HV.out]; unfold getV; rw [if_pos hin]
    refine q2.mono ?_
    rintro e w2 ⟨rfl, n2⟩
    have d6 := n2.cellOf e6
    have HN : Hid (Nw wx w2) := n2
    clear n2 e6 e5 HL HQ q2 hin
    go_wp2_with fail
    go_quiet (fail)
    go_wp2
    go_ret2
    exact ⟨by rw [HI.out]; rfl, (HS1.out.nw HN.out).nw ((Fr.refl _ _).drewN _), ((HF.out.trans HN.out (fun _ _ q => q.elim))).drewN _⟩
  · rw [decide_eq_false hin] at q2
    have HI : Hid (vv = match M s with | some t => .tuple #[.string t, .nilIface] | none => .tuple #[.string ⟨#[]⟩, sen (a 5)]) := by show _ = _; rw [HV.out]; unfold getV; rw [if_neg hin]
    refine q2.mono ?_
    rintro e w2 ⟨rfl, n2⟩
    have S2 := HS1.out.nw n2
    have d5 := n2.cellOf e5
    have ld5 := World.block_lt_of_cell? w2 _ d5
    simp only at ld5
    have y0 := (stc_cs S2.blk).1
    have l2 := heap_lt S2.blk
    obtain ⟨hlk, hsz⟩ := HL w2 S2.mp
    have HN : Hid (Nw wx w2) := n2
    have HS2 : Hid (Sr w2 b bm n M p c zs cr (rn + 1) wn false) := S2
    clear n2 e6 e5 HL q2 hin S2
    cases hM : M s with
    | none =>
      rw [hM] at hlk hsz HI
      have HI2 : Hid (vv = .tuple #[.string ⟨#[]⟩, sen (a 5)]) := HI.out
      simp only [Option.getD_none, Option.isSome_none, e0t] at hlk
      clear HI HQ hM HV
      go_wp2_with fail
      go_quiet (fail)
      go_wp2
      go_ret2
      exact ⟨by rw [HI2.out]; rfl, (HS2.out.nw (nwA _ _)).nw ((Fr.refl _ _).drewN _), ((HF.out.trans HN.out (fun _ _ q => q.elim)).alloc _).drewN _⟩
    | some t =>
      rw [hM] at hlk hsz HI
      have HI2 : Hid (vv = .tuple #[.string t, .nilIface]) := HI.out
      simp only [Option.getD_some, Option.isSome_some] at hlk hsz
      have q4 := fun W => HQ W t hsz
      clear HI hM HV HQ
      go_wp2_with fail
      refine (q4 _).mono ?_
      rintro e w4 ⟨rfl, n4⟩
      have HN4 : Hid (Nw w2 w4) := (nwA _ _).tr n4
      clear n4 q4
      go_wp2
      go_ret2
      exact ⟨by rw [HI2.out]; rfl, HS2.out.nw HN4.out, (HF.out.trans HN.out (fun _ _ q => q.elim)).trans HN4.out (fun _ _ q => q.elim)⟩
end Go.Proofs.YtjkhcplnedcmeaaGreatDoor
namespace Go.Proofs.YtjkhcplnedcmeaaGreatDoor
open Go.RowKit Go.Maps
set_option linter.unusedVariables false
set_option linter.unusedSimpArgs false
/-- Whether a store is dead behind its write number k. -/
def dies (cr k : Int) : Bool := cr == k || cr == -k
noncomputable def wrT (M : Tx) (s t : ByteArray) (cr k : Int) : Tx := if cr = k then M else putT M s t
def putV (a : Nat → Addr) (cr k : Int) : Value := if dies cr k then sen (a 7) else .nilIface
theorem Sr.set4 {w wx : World} {b bm n : Nat} {M : Tx} {p : Option Addr} {c : Nat} {zs : List Int} {cr rn wn : Int} {dd : Bool} (h : Sr w b bm n M p c zs cr rn wn dd) (k : Int) (hx : wx = w.setCell ⟨b, 4, none⟩ (.int .i64 k)) : Sr wx b bm n M p c zs cr rn k dd ∧ Fr (fun j => j = b) w wx := by
  subst hx
  have F : Fr (fun k => k = b) w (w.setCell ⟨b, 4, none⟩ (.int .i64 k)) := (Fr.refl _ w).setCell _ _ (fun _ => rfl)
  exact ⟨⟨(heap_set h.blk _).trans rfl, h.mp.fr F h.nb, h.rd.fr F (fun g o e => (h.ne g o e).1), h.ne, h.nb⟩, F⟩
theorem Sr.set5 {w wx : World} {b bm n : Nat} {M : Tx} {p : Option Addr} {c : Nat} {zs : List Int} {cr rn wn : Int} {dd : Bool} (h : Sr w b bm n M p c zs cr rn wn dd) (k : Bool) (hx : wx = w.setCell ⟨b, 5, none⟩ (.bool k)) : Sr wx b bm n M p c zs cr rn wn k ∧ Fr (fun j => j = b) w wx := by
  subst hx
  have F : Fr (fun k => k = b) w (w.setCell ⟨b, 5, none⟩ (.bool k)) := (Fr.refl _ w).setCell _ _ (fun _ => rfl)
  exact ⟨⟨(heap_set h.blk _).trans rfl, h.mp.fr F h.nb, h.rd.fr F (fun g o e => (h.ne g o e).1), h.ne, h.nb⟩, F⟩
theorem Sr.drewN {w : World} {b bm n : Nat} {M : Tx} {p : Option Addr} {c : Nat} {zs : List Int} {cr rn wn : Int} {dd : Bool} (h : Sr w b bm n M p c zs cr rn wn dd) (k : Nat) : Sr (w.drewN k) b bm n M p c zs cr rn wn dd := h.nw ((Fr.refl _ _).drewN _)
set_option maxRecDepth 100000 in
set_option maxHeartbeats 4000000 in
theorem sput_any {w : World} {b bm n : Nat} {M : Tx} {p : Option Addr} {c : Nat} {zs : List Int} {cr rn wn : Int} (h : Sr w b bm n M p c zs cr rn wn false) (s t : ByteArray) (hs : okN s) (ht : t.size ≤ 281474976710656) {B : Nat} {a : Nat → Addr} (hS : Sent B w a) (hn : n < 4611686018427387904) (hr0 : 0 ≤ wn) (hr1 : wn < 4611686018427387904) (hB : B ≤ b) (hBm : B ≤ bm) :
    Calls Tryz.prog 44 #[.pointer (some ⟨b, 0, none⟩), .string s, .string t] w fun e w' => e = .returned (putV a cr (wn + 1)) ∧ Sr w' b bm (n + 1) (wrT M s t cr (wn + 1)) p c zs cr rn (wn + 1) (dies cr (wn + 1)) ∧ Fr (fun k => k = b ∨ k = bm) w w' := by
  have q := srefuse_any h.blk s hS
  rw [rfs_ok hs] at q
  obtain ⟨c0, c1, c2, c3, c4, c5⟩ := stc_cs h.blk
  have lb := heap_lt h.blk
  have f4 := frozen_of h.blk 4
  have g5 := frozen_of h.blk 5
  obtain ⟨wx, hwx⟩ : ∃ wx, wx = w.setCell ⟨b, 4, none⟩ (.int .i64 (wn + 1)) := ⟨_, rfl⟩
  obtain ⟨S1, F⟩ := h.set4 (wn + 1) hwx
  have hS1 := hS.fr F (fun k hk e => by omega)
  obtain ⟨x0, _, x2, _, x4, x5⟩ := stc_cs S1.blk
  have lx := heap_lt S1.blk
  have HS1 : Hid (Sr wx b bm n M p c zs cr rn (wn + 1) false) := S1
  have HF : Hid (Fr (fun k => k = b) w wx) := F
  have HE : Hid (Sent B wx a) := hS1
  have hb1 := hS.hsz
  have g7 := hS.c7
  have hz7 : ¬ 3 = b := by have := hS.hB; omega
  have hz7' : ¬ b = 3 := fun e => hz7 e.symm
  clear h hS hS1 S1 F
  by_cases hc : cr = wn + 1
  · have hd : dies cr (wn + 1) = true := by simp [dies, hc]
    have HM : Hid (wrT M s t cr (wn + 1) = M) := by show _ = _; rw [wrT, if_pos hc]
    have HV : Hid (putV a cr (wn + 1) = sen (a 7)) := by show _ = _; rw [putV, hd]; rfl
    rw [hd, HM.out, HV.out]
    have f5 := frozen_of HS1.out.blk 5
    obtain ⟨wy, hwy⟩ : ∃ wy, wy = wx.setCell ⟨b, 5, none⟩ (.bool true) := ⟨_, rfl⟩
    obtain ⟨S2, F2⟩ := HS1.out.set5 true hwy
    have y5 := (stc_cs S2.blk).2.2.2.2.2
    have ly := heap_lt S2.blk
    have HR : Hid (Sr wy b bm (n + 1) M p c zs cr rn (wn + 1) true ∧ Fr (fun k => k = b ∨ k = bm) w wy) := by
      refine ⟨⟨S2.blk, ?_, S2.rd, S2.ne, S2.nb⟩, (HF.out.trans F2 (fun _ _ e => e)).mono (fun _ _ e => .inl e)⟩
      obtain ⟨D, h1, h2⟩ := S2.mp
      exact ⟨D, h1.mono (by omega), h2⟩
    clear hd HM S2 F2 y5 ly
    subst hc
    go_enter Tryz.func44, Tryz.ntmps44
    go_wp2_with fail
    refine q.mono ?_
    rintro e w1 ⟨rfl, rfl⟩
    go_wp2
    rw [← hwx, ← hwy]
    go_ret
    exact ⟨rfl, HR.out⟩
  · have HM : Hid (wrT M s t cr (wn + 1) = putT M s t) := by show _ = _; rw [wrT, if_neg hc]
    rw [HM.out]
    have qs := fun W => sclone_any s W (by have := hs.2; omega)
    have qt := fun W => sclone_any t W ht
    obtain ⟨k, hk⟩ : ∃ k, k = wn + 1 := ⟨_, rfl⟩
    have Hk : Hid (k = wn + 1) := hk
    have HP : Hid (∀ W, Nw wx W → ∃ W', (Instr.mapUpdate 139 (.map (some bm)) (.string s) (.agg #[.string t])).run Tryz.prog W = .ok () W' ∧ Sr W' b bm (n + 1) (putT M s t) p c zs cr rn (wn + 1) false ∧ Fr (fun k => k = bm) wx W') := by
      intro W nW
      have S2 := HS1.out.nw nW
      obtain ⟨W', r1, r2, r3⟩ := S2.mp.put s t hs.2 ht hn
      have r4 : Fr (fun k => k = bm) wx W' := Fr.trans (nW.mono (fun _ _ q => q.elim)) r3 (fun _ _ e => e)
      exact ⟨W', r1, ⟨(r3.block _ (heap_lt S2.blk) (fun e => S2.nb e.symm)).trans S2.blk, r2, S2.rd.fr r3 (fun g o e => (S2.ne g o e).2), S2.ne, S2.nb⟩, r4⟩
    go_enter Tryz.func44, Tryz.ntmps44
    go_wp2_with fail
    refine q.mono ?_
    rintro e w1 ⟨rfl, rfl⟩
    have hne : ¬ cr = wn + 1 := hc
    go_wp2_with fail
    rw [← hwx]
    have e7 := HE.out.c7
    clear hwx c0 c1 c2 c3 c4 c5 lb f4 g5 q g7 hk x5 hb1
    go_region_with (first
      | (go_at_call 88; refine (qs _).mono ?_; rintro e w2 ⟨rfl, n2⟩; have N2 : Hid (Nw wx w2) := Nw.tr ((Fr.refl _ wx).drew) n2; have y0 := N2.out.cellOf x0; clear n2 qs)
      | (go_at_call 88; refine (qt _).mono ?_; rintro e w3 ⟨rfl, n3⟩; have z0 := n3.cellOf y0; have N3 : Hid (Nw wx w3) := N2.out.tr n3; obtain ⟨W', r1, r2⟩ := HP.out w3 N3.out; have R2 : Hid (Sr W' b bm (n + 1) (putT M s t) p c zs cr rn (wn + 1) false ∧ Fr (fun k => k = bm) wx W') := r2; clear n3 r2 HP))
    all_goals
      obtain ⟨S5, F5⟩ := R2.out
      obtain ⟨u0, _, u2, _, u4, u5⟩ := stc_cs S5.blk
      have lu := heap_lt S5.blk
      have v5 := frozen_of S5.blk 5
      have g7 := (HE.out.fr F5 (fun k hk e => by omega)).c7
      have HS5 : Hid (Sr W' b bm (n + 1) (putT M s t) p c zs cr rn (wn + 1) false) := S5
      have HF5 : Hid (Fr (fun k => k = b ∨ k = bm) w1 W') := (HF.out.mono (fun _ _ e => .inl e)).trans F5 (fun _ _ e => .inr e)
      clear S5 F5 R2 r1 e7 x0 x2 x4
      by_cases hcn : cr = -(wn + 1)
      · have b1 : (cr == wn + 1) = false := by simpa using hc
        have b2 : (cr == -(wn + 1)) = true := by simpa using hcn
        have hd : dies cr (wn + 1) = true := by simp [dies, hcn]
        have HV : Hid (putV a cr (wn + 1) = sen (a 7)) := by show _ = _; rw [putV, hd]; rfl
        have HD : Hid (dies cr (wn + 1) = true) := hd
        clear hd
        go_wp2
        go_ret
        obtain ⟨A1, A2⟩ := HS5.out.set5 true rfl
        exact ⟨by rw [HV.out]; rfl, by rw [HD.out]; exact A1, HF5.out.trans A2 (fun _ _ e => .inl e)⟩
      · have b1 : (cr == wn + 1) = false := by simpa using hc
        have b2 : (cr == -(wn + 1)) = false := by simpa using hcn
        have hd : dies cr (wn + 1) = false := by simp [dies, hc, hcn]
        have HV : Hid (putV a cr (wn + 1) = .nilIface) := by show _ = _; rw [putV, hd]; rfl
        have HD : Hid (dies cr (wn + 1) = false) := hd
        clear hd
        go_wp2
        go_ret
        obtain ⟨A1, A2⟩ := HS5.out.set5 false rfl
        exact ⟨by rw [HV.out]; rfl, by rw [HD.out]; exact A1, HF5.out.trans A2 (fun _ _ e => .inl e)⟩
end Go.Proofs.YtjkhcplnedcmeaaGreatDoor
