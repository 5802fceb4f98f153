/- A hash's bytes as a text: letters, the document's bytes. -/
import Derived.Test.YtaeocbdphfkflaaDoorHgx
import Derived.Laws.MakeOwn
import Derived.Laws.AppendOwn
import Derived.Lib.AppendStr
import Derived.Test.YtaeocbdphfkflaaDoorRag
import Derived.Deep.AppendSrc
import Derived.Laws.IdiomStrings
namespace Go.Proofs.YtaeocbdphfkflaaDoor.Rf
open Go.RowKit
set_option linter.unusedVariables false
set_option linter.unusedSimpArgs false

theorem info8 : (Tryd.prog.info? 5).map (fun i => (i.zero, i.size, i.bytes)) = some (some (.int .u8 0), 1, 1) := by kernel_rfl
theorem info_parts8 : ∃ i, Tryd.prog.info? 5 = some i ∧ i.zero = some (.int .u8 0) ∧ i.size = 1 ∧ i.bytes = 1 := by
  obtain ⟨i, hi, he⟩ := Option.map_eq_some_iff.1 info8
  simp only [Prod.mk.injEq] at he
  exact ⟨i, hi, he.1, he.2.1, he.2.2⟩
/-- A row of bytes of the call's own, from block B on. -/
abbrev Own (B : Nat) (w : World) (v : Value) (l : List UInt8) : Prop := w.ownsRow B 5 1 v l.length (bc l)
theorem ownsRow_form {w : World} {base : Nat} {e : TypeId} {size : Nat} {v : Value} {n : Nat} {xs : List Value} (h : w.ownsRow base e size v n xs) : ∃ a c, v = .slice a n c := by
  rcases h.2 with ⟨rfl, rfl⟩ | ⟨g, cap, cur, rfl, _⟩
  · exact ⟨_, _, rfl⟩
  · exact ⟨_, _, rfl⟩
theorem one_new (w : World) (x : Value) (t : TypeId) : ∀ j u, [x][j]? = some u → (w.alloc (.cells #[x] t)).cell? ((⟨w.heap.size, 0, none⟩ : Addr).add j) = some u := by
  intro j u hj
  match j, hj with
  | 0, hj => simp at hj; subst hj; simp [Addr.add]
theorem conv_nil (w : World) : (convert 87 9 (.slice none 0 0)).run Tryd.prog w = .ok (.string ⟨#[]⟩) w := by kernel_rfl
theorem conv_own {B : Nat} {w : World} {v : Value} {l : List UInt8} (h : Own B w v l) : (convert 87 9 v).run Tryd.prog w = .ok (.string ⟨l.toArray⟩) w := by
  have h' := h
  rcases h.2 with ⟨rfl, hn⟩ | ⟨g, cap, cur, rfl, _⟩
  · have : l = [] := List.eq_nil_of_length_eq_zero hn
    subst this
    exact conv_nil w
  · refine run_convert_bytes_back w _ _ _ _ _ _ Tryd.underlying87 Tryd.underlying5 Tryd.underlying9 (fun j hj => ?_)
    exact h'.cells (g := g) rfl j _ (by simp [bc, hj])
theorem make_own (B : Nat) (w : World) (c : Nat) (hc : c ≤ 281474976710656) (hB : B ≤ w.heap.size) : ∃ w', (Instr.makeSlice 87 (.int .i64 0) (.int .i64 (c : Int))).run Tryd.prog w = .ok (.slice (some ⟨w.heap.size, 0, none⟩) 0 c) w' ∧ Own B w' (.slice (some ⟨w.heap.size, 0, none⟩) 0 c) [] ∧ Nw w w' := by
  obtain ⟨i0, hi, hz0, hz1, hz2⟩ := info_parts8
  obtain ⟨w', h1, h2, h3⟩ := run_make_own (P := Tryd.prog) w B 87 5 i0 (.int .u8 0) 1 Tryd.underlying87 hi hz0 hz1 .i64 .i64 c (by rw [hz2]; omega) (by unfold maxLen; omega) hB
  exact ⟨w', h1, h2, (Fr.refl _ _).grown h3 (fun k e _ => by cases e)⟩
theorem u8_of (m : Nat) (h : m < 256) : (Value.int .u8 (m : Int)) = .int .u8 ((UInt8.ofNat m).toNat : Nat) := by
  rw [UInt8.toNat_ofNat', Nat.mod_eq_of_lt (by omega)]
/-- Behind an append of one byte. -/
theorem own_put {B : Nat} {W w w1 : World} {v v' : Value} {l : List UInt8} {n : Nat} {c : UInt8} {x : Int} {t : TypeId} (hw : Below B W w) (h : Own B w v l) (hx : x = (c.toNat : Int)) (ho : w1.ownsRow B 5 1 v' n (bc l ++ [.int .u8 x])) (hn : n = l.length + 1) (hg : (w.alloc (.cells #[.int .u8 x] t)).grownBy w1 v.ownBlock) (hB : B ≤ W.heap.size) : Own B w1 v' (l ++ [c]) ∧ Below B W w1 := by
  subst hx hn
  refine ⟨?_, ?_⟩
  · unfold Own
    rw [List.length_append, bc_app]
    exact ho
  · refine ⟨hg.os.trans hw.os, hg.tape.trans hw.tape, hg.output.trans hw.output, ?_, fun k hk => ?_⟩
    · have := hg.size; simp at this; have := hw.size; omega
    · have h1 := hg.block k (by simp; have := hw.size; omega) (fun e => by have := h.lt k e.symm; omega)
      rw [h1, Below.heap_alloc _ _ _ (by have := hw.size; omega)]
      exact hw.block k hk

set_option maxRecDepth 100000 in
set_option maxHeartbeats 1000000 in
theorem refbytes_any (A : List UInt8) (hA : A.length = 32) (w : World) :
    Calls Tryd.prog 67 #[.agg (hbs A)] w fun e w' => e = .returned (.string ⟨A.toArray⟩) ∧ Nw w w' := by
  obtain ⟨a, ha⟩ : ∃ a, a = hbs A := ⟨_, rfl⟩
  rw [← ha]
  have HG : Hid (∀ k, k < 32 → a[k]? = some (.int .u8 ((A.getD k 0).toNat : Nat))) := fun k hk => by rw [ha]; exact hbs_get A k (by omega)
  have HA : Hid (A.length = 32) := hA
  have has : a.size = 32 := by rw [ha, hbs_size, hA]
  clear ha hA
  obtain ⟨i0, hi, hz0, hz1, hz2⟩ := info_parts8
  have hz2i := hz2
  clear hz2
  go_enter Tryd.func67, Tryd.ntmps67
  go_wp2
  obtain ⟨w0, hw0⟩ : ∃ w0, w0 = w.alloc (.cells a 24) := ⟨_, rfl⟩
  have j0 : w0.heap[w.heap.size]? = some (.cells a 24) := by rw [hw0]; exact heap_new w _
  have n0 : Nw w w0 := by rw [hw0]; exact (Fr.refl _ _).alloc _
  have hs0 : w0.heap.size = w.heap.size + 1 := by rw [hw0]; simp
  have HS : Hid (w0.heap.size = w.heap.size + 1) := hs0
  rw [← hw0]
  clear hw0 hs0
  go_loopw [3, 4] (fun b i wr => ∃ k : Nat, k ≤ 32 ∧ i = .int .i64 k ∧ Own w0.heap.size wr b (A.take k) ∧ Below w0.heap.size w0 wr) (fun _ i _ => 32 - (intOf i).toNat)
  case atStart => exact ⟨0, by omega, rfl, World.ownsRow_nil _ _ _ _, Below.refl _ _⟩
  case round =>
    obtain ⟨k, hk, rfl, ho, hb⟩ := hrel
    by_cases hlt : k < 32
    · have hki : (k : Int) < 32 := by omega
      have hsz : w0.heap.size ≤ wr.heap.size := hb.size
      have hcl : wr.cell? ⟨w.heap.size, k, none⟩ = some (.int .u8 ((A.getD k 0).toNat : Nat)) := (cell_of ((hb.block _ (heap_lt j0)).trans j0) k).trans (HG.out k hlt)
      have hll : (A.take k).length ≤ 32 := by rw [List.length_take]; omega
      have HM : Hid (A.take (k + 1) = A.take k ++ [A.getD k 0]) := by
        unfold Hid
        rw [List.take_add_one, List.getElem?_eq_getElem (by have := HA.out; omega), List.getD_eq_getElem?_getD, List.getElem?_eq_getElem (by have := HA.out; omega)]; rfl
      generalize A.getD k 0 = c at hcl HM
      generalize A.take k = T at ho hll HM
      obtain ⟨ca, cc, rfl⟩ := ownsRow_form ho
      go_wp2_with (at_builtin; refine wpList_append_own _ rfl _ _ 87 rfl w0.heap.size 5 i0 (.int .u8 0) 1 1 Tryd.underlying87 hi hz0 hz1 hz2i rfl (by decide) _ _ _ rfl (ho.alloc _) ⟨wr.heap.size, 0, none⟩ 1 1 [.int .u8 _] rfl rfl (one_new _ _ _) (by simp [Value.oneCell']) (by unfold maxLen; omega) (by omega) (by simp; omega) ?_; intro v' w3 hown' hgrow _; obtain ⟨ga, gc, rfl⟩ := ownsRow_form hown')
      obtain ⟨h1, h2⟩ := own_put hb ho rfl hown' (by omega) hgrow (Nat.le_refl _)
      refine ⟨⟨k + 1, by omega, by go_num, ?_, h2⟩, by simp [intOf]; omega⟩
      rw [HM.out]
      exact h1
    · obtain rfl : k = 32 := by omega
      have hTA : A.take 32 = A := List.take_of_length_le (by have := HA.out; omega)
      rw [hTA] at ho
      have hcv := conv_own ho
      obtain ⟨ca, cc, rfl⟩ := ownsRow_form ho
      go_wp2
      go_ret
      exact ⟨rfl, n0.tr (Fr.ofBelow hb)⟩
end Go.Proofs.YtaeocbdphfkflaaDoor.Rf
namespace Go.Proofs.YtaeocbdphfkflaaDoor.Rf
open Go.RowKit
set_option linter.unusedVariables false
set_option linter.unusedSimpArgs false

/-- A row of bytes of the call's own, its block marked or not. -/
def Om (B : Nat) (w : World) (v : Value) (l : List UInt8) : Prop :=
  ∃ g cap cur fz, v = .slice (some ⟨g, 0, none⟩) l.length cap ∧ B ≤ g ∧ w.heap[g]? = some (.cells cur 5 fz) ∧ (fz = (0, 0) ∨ cur.size ≤ fz.1) ∧ l.length ≤ cap ∧ cur.size = cap ∧ cur.toList.take l.length = bc l
theorem Om.form {B : Nat} {w : World} {v : Value} {l : List UInt8} (h : Om B w v l) : ∃ g cap, v = .slice (some ⟨g, 0, none⟩) l.length cap := by
  obtain ⟨g, cap, cur, fz, rfl, _⟩ := h
  exact ⟨g, cap, rfl⟩
theorem Om.bys {B : Nat} {w : World} {v : Value} {l : List UInt8} (h : Om B w v l) : ∃ g cap, v = .slice (some ⟨g, 0, none⟩) l.length cap ∧ B ≤ g ∧ l.length ≤ cap ∧ ∀ j, j < l.length → w.cell? ⟨g, j, none⟩ = some (.int .u8 ((l.getD j 0).toNat : Nat)) := by
  obtain ⟨g, cap, cur, fz, rfl, hB, hh, _, hc, _, ht⟩ := h
  refine ⟨g, cap, rfl, hB, hc, fun j hj => ?_⟩
  rw [cell_of hh]
  have h1 : (cur.toList.take l.length)[j]? = (bc l)[j]? := by rw [ht]
  rw [List.getElem?_take, if_pos hj, Array.getElem?_toList, bc, List.getElem?_map, List.getElem?_eq_getElem hj] at h1
  rw [h1, List.getD_eq_getElem?_getD, List.getElem?_eq_getElem hj]
  rfl
theorem Om.keep {B : Nat} {w w' : World} {v : Value} {l : List UInt8} (h : Om B w v l) (k : Nw w w') : Om B w' v l := by
  obtain ⟨g, cap, cur, fz, rfl, hB, hh, r⟩ := h
  exact ⟨g, cap, cur, fz, rfl, hB, (k.block g (heap_lt hh) (fun f => f)).trans hh, r⟩
theorem unfrozen {w : World} {g : Nat} {cur : Array Value} {fz : Nat × Nat} {t : TypeId} (hh : w.heap[g]? = some (.cells cur t fz)) (hf : fz = (0, 0) ∨ cur.size ≤ fz.1) (j : Nat) (hj : j < cur.size) : w.frozen? ⟨g, j, none⟩ = false := by
  simp only [World.frozen?, hh]
  rcases hf with rfl | hf
  · simp
  · have : ¬ fz.1 ≤ j := by omega
    simp [this]
theorem run_app1 (ty : TypeId) (B : Nat) (w : World) (v : Value) (l : List UInt8) (c : UInt8) (q : Nat) (hO : Om B w v l) (hq : w.cell? ⟨q, 0, none⟩ = some (.int .u8 (c.toNat : Nat))) (hl : l.length < 70368744177664) (hB : B ≤ w.heap.size) :
    ∃ v' w', (Builtin.append_ #[87, 87] ty #[v, .slice (some ⟨q, 0, none⟩) 1 1]).run Tryd.prog w = .ok v' w' ∧ Om B w' v' (l ++ [c]) ∧ Below B w w' := by
  obtain ⟨i0, hi, hz0, hz1, hz2⟩ := info_parts8
  obtain ⟨g, cap, cur, fz, rfl, hBg, hh, hfz, hn, hcs, ht⟩ := hO
  have hsrc : Src Tryd.prog i0.size 87 (.slice (some ⟨q, 0, none⟩) 1 1) 1 [.int .u8 (c.toNat : Nat)] w := Src.ofSlice w Tryd.underlying87 _ 1 1 _ (by rw [hz1]; rfl) (fun j u hj => by
    match j, hj with
    | 0, hj => simp at hj; subst hj; rw [addZ]; exact hq) (by simp [Value.oneCell'])
  by_cases hroom : l.length + 1 ≤ cap
  · have hr := run_append_room_src w 87 87 ty 5 i0 Tryd.underlying87 hi g 0 l.length cap _ 1 _ hsrc hroom
      (fun j hj => by
        have hj0 : j = 0 := by simpa using hj
        rw [hj0, hz1, Nat.mul_one, Nat.zero_add, Nat.add_zero, cell_of hh, Array.getElem?_eq_getElem (by omega)]
        rfl)
      (fun j hj => by
        have hj0 : j = 0 := by simpa using hj
        rw [hj0, hz1, Nat.mul_one, Nat.zero_add, Nat.add_zero]
        exact unfrozen hh hfz _ (by omega))
    refine ⟨_, _, hr, ?_, ?_⟩
    · rw [hz1, Nat.mul_one, Nat.zero_add]
      refine ⟨g, cap, cur.setIfInBounds l.length (.int .u8 (c.toNat : Nat)), fz, by simp, hBg, heap_set hh _, by simpa using hfz, by simp; omega, by simpa using hcs, ?_⟩
      rw [List.length_append, bc_app, ← ht]
      have hlc : l.length < cur.toList.length := by have := Array.length_toList (xs := cur); omega
      rw [Array.toList_setIfInBounds, List.length_singleton, List.take_add_one, List.take_set, List.getElem?_set_self hlc]
      rw [List.set_eq_of_length_le (List.length_take_le _ _)]
      rfl
    · rw [hz1, Nat.mul_one, Nat.zero_add]
      exact ⟨rfl, rfl, rfl, by simp [World.setCells, World.setCell], fun k hk => Below.heap_setCell _ _ _ _ (by show k ≠ g; omega)⟩
  · have hold : (Builtin.firstCells i0.size l.length (.slice (some ⟨g, 0, none⟩) l.length cap)).run Tryd.prog w.drew = .ok (bc l).toArray w.drew := by
      refine run_firstCells_some w.drew i0.size l.length ⟨g, 0, none⟩ l.length cap (bc l) (by rw [bc_len, hz1, Nat.mul_one]) (fun j u hj => ?_)
      rw [addZ]
      show w.cell? ⟨g, j, none⟩ = some u
      rw [cell_of hh]
      have hjl : j < l.length := by
        have := (List.getElem?_eq_some_iff.1 hj).1
        simpa [bc] using this
      rw [← ht, List.getElem?_take, if_pos hjl, Array.getElem?_toList] at hj
      exact hj
    have hr := run_append_grow_src w 87 87 ty 5 i0 (.int .u8 0) Tryd.underlying87 hi hz0 (some ⟨g, 0, none⟩) l.length cap (bc l) hold _ 1 _ hsrc (by omega) (by omega) (by rw [hz2]; exact growslice_fits (by omega) (by omega))
    refine ⟨_, _, hr, ?_, ?_⟩
    · have hge := grownCap_ge w (l.length + 1) cap 5
      refine ⟨w.heap.size, grownCap w (l.length + 1) cap 5, _, (0, 0), by simp, hB, heap_new w.drew _, .inl rfl, by simpa using hge, ?_, ?_⟩
      · rw [Array.size_append, List.size_toArray, List.length_append, bc_len]
        have : (Builtin.zeroCells (Value.int .u8 0).cells (grownCap w (l.length + 1) cap 5 - (l.length + 1))).size = grownCap w (l.length + 1) cap 5 - (l.length + 1) := by simp [Builtin.zeroCells, Value.cells]
        rw [this]
        simp
        omega
      · rw [Array.toList_append, List.toList_toArray, bc_app]
        rw [List.take_append_of_le_length (by simp [bc_len])]
        exact List.take_of_length_le (by simp [bc_len])
    · exact ⟨rfl, rfl, rfl, by simp, fun k hk => Below.heap_alloc _ _ _ (by show k < w.heap.size; omega)⟩
theorem wpList_app1 {w : World} {ops : Array Oper} {rest : List Oper} {o : Oper} {a : Act} {Q : Exit → Act → World → Prop} (hgd : o.guard = none) (s x : Operand)
    (ho : o.op = .call { callee := .builtin .append, args := #[s, x], argTypes := #[87, 87] })
    (B : Nat) (v : Value) (l : List UInt8) (c : UInt8) (q : Nat) (hs : a.eval s = v) (hO : Om B w v l) (hx : a.eval x = .slice (some ⟨q, 0, none⟩) 1 1) (hq : w.cell? ⟨q, 0, none⟩ = some (.int .u8 (c.toNat : Nat)))
    (hl : l.length < 70368744177664) (hB : B ≤ w.heap.size)
    (h : ∀ v' w', Om B w' v' (l ++ [c]) → Below B w w' → wpList Tryd.prog ops Q rest (a.put o.dst v') w') : wpList Tryd.prog ops Q (o :: rest) a w := by
  obtain ⟨v', w', hr, h1, h2⟩ := run_app1 o.type B w v l c q hO hq hl hB
  refine wpList_plain hgd fun K hK => ?_
  unfold Oper.wp execOp
  simp only [ho, resolve, invoke, builtin, Sem.run_bind, Sem.run_pure, Result.andThen_ok, List.map_toArray, List.map_cons, List.map_nil, hs, hx, hr]
  exact hK _ _ (h v' w' h1 h2)
end Go.Proofs.YtaeocbdphfkflaaDoor.Rf
namespace Go.Proofs.YtaeocbdphfkflaaDoor.Rf
open Go.RowKit
set_option linter.unusedVariables false
set_option linter.unusedSimpArgs false

def lenV : Value → Nat
  | .slice _ n _ => n
  | _ => 0
theorem mkOm {w : World} (s : ByteArray) (cap : Nat) (hc : s.size ≤ cap) (C : Array Value) (hC : C = bytesRow s cap) (fz : Nat × Nat) (hf : C.size ≤ fz.1) (B g : Nat) (hB : B ≤ g) (hg : w.heap[g]? = some (.cells C 5 fz)) : Om B w (.slice (some ⟨g, 0, none⟩) s.size cap) s.data.toList := by
  have hl : s.data.toList.length = s.size := by rw [Array.length_toList]; rfl
  refine ⟨g, cap, C, fz, by rw [hl], hB, hg, .inr hf, by rw [hl]; exact hc, ?_, ?_⟩
  · rw [hC, bytesRow, Array.size_append, Array.size_map, Array.size_replicate]
    have : s.data.size = s.size := rfl
    omega
  · rw [hC, bytesRow, Array.toList_append, List.take_append_of_le_length (by simp), Array.toList_map, hl]
    exact List.take_of_length_le (by rw [List.length_map, hl]; exact Nat.le_refl _)

set_option maxRecDepth 100000 in
set_option maxHeartbeats 2000000 in
theorem padded_any (s : ByteArray) (hs : s.size ≤ 4194304) (w : World) :
    Calls Tryd.prog 63 #[.string s] w fun e w' => ∃ v, e = .returned v ∧ Om w.heap.size w' v (pad s.data.toList) ∧ Nw w w' := by
  obtain ⟨L, hL⟩ : ∃ L, L = s.data.toList := ⟨_, rfl⟩
  have hlen : L.length = s.size := by rw [hL, Array.length_toList]; rfl
  have HL : Hid (L = s.data.toList) := hL
  rw [← hL]
  clear hL
  have hcv := run_bytes_of_string (P := Tryd.prog) w 9 87 5 s Tryd.underlying9 Tryd.underlying87 Tryd.underlying5
  have hge := grownCap_ge w s.size 0 5
  obtain ⟨cap, hcap⟩ : ∃ cap, cap = grownCap w s.size 0 5 := ⟨_, rfl⟩
  rw [← hcap] at hcv hge
  clear hcap
  obtain ⟨w1, hw1⟩ : ∃ w1, w1 = w.drew.alloc (.cells (bytesRow s cap) 5 ((bytesRow s cap).size, (bytesRow s cap).size + 1)) := ⟨_, rfl⟩
  have o1 : Om w.heap.size w1 (.slice (some ⟨w.heap.size, 0, none⟩) s.size cap) L := by
    rw [hw1, HL.out]
    exact mkOm s cap hge _ rfl _ (Nat.le_refl _) _ _ (Nat.le_refl _) (heap_new w.drew _)
  have b1 : Below w.heap.size w w1 := by
    rw [hw1]
    exact ⟨rfl, rfl, rfl, by simp, fun k hk => Below.heap_alloc _ _ _ hk⟩
  rw [← hw1] at hcv
  have HW : Hid (w1.heap.size = w.heap.size + 1) := by unfold Hid; rw [hw1]; simp
  clear hw1
  obtain ⟨n, hn⟩ : ∃ n, n = s.size := ⟨_, rfl⟩
  have hb1 : w.heap.size ≤ w1.heap.size := b1.size
  go_enter Tryd.func63, Tryd.ntmps63
  go_wp2_with (at_builtin; refine wpList_app1 rfl _ _ rfl w.heap.size _ L 128 w1.heap.size rfl (o1.keep ((Fr.refl _ _).alloc _)) rfl (cell_of (heap_new w1 _) 0) (by omega) (by simp; omega) ?_; intro v2 w2 o2 b2)
  have bw2 : Below w.heap.size w w2 := (b1.alloc hb1 _).trans b2
  clear b1 b2 o1 hcv
  obtain ⟨M, hM⟩ : ∃ M, M = L ++ [128] := ⟨_, rfl⟩
  have hMl : M.length = s.size + 1 := by rw [hM, List.length_append, hlen]; rfl
  have HM : Hid (M = L ++ [128]) := hM
  rw [← hM] at o2
  clear hM
  have hzc : (s.size + 1 + zc s.size) % 64 = 56 := by unfold zc; omega
  have hz64 : zc s.size < 64 := by unfold zc; omega
  have HZ : Hid (∀ z, z ≤ zc s.size → (s.size + 1 + z) % 64 = 56 → z = zc s.size) := fun z h1 h2 => by unfold zc at h1 ⊢; omega
  obtain ⟨Z, hZ⟩ : ∃ Z, Z = zc s.size := ⟨_, rfl⟩
  rw [← hZ] at hzc hz64 HZ
  have HZZ : Hid (Z = zc s.size) := hZ
  clear hZ
  go_loopw [3] (fun b wr => ∃ z : Nat, z ≤ Z ∧ Om w.heap.size wr b (M ++ List.replicate z 0) ∧ Below w.heap.size w wr) (fun b _ => s.size + 1 + Z - lenV b)
  case atStart => exact ⟨0, by omega, by simpa using o2, bw2⟩
  case round =>
    clear o2 bw2
    obtain ⟨z, hz, o3, b3⟩ := hrel
    have hl3 : (M ++ List.replicate z 0).length = s.size + 1 + z := by rw [List.length_append, hMl, List.length_replicate]
    obtain ⟨g3, cap3, hv3⟩ := o3.form
    rw [hl3] at hv3
    subst hv3
    have hs3 : w.heap.size ≤ wr.heap.size := b3.size
    by_cases h56 : (s.size + 1 + z) % 64 = 56
    · obtain rfl := HZ.out z hz h56
      have h56i : ((s.size + 1 + z : Nat) : Int) % 64 = 56 := by omega
      obtain ⟨N, hN⟩ : ∃ N, N = M ++ List.replicate z 0 := ⟨_, rfl⟩
      rw [← hN] at o3 hl3
      have HN : Hid (N = M ++ List.replicate z 0) := hN
      clear hN
      have hn64 : (s.size + 1 + z) < 8388608 := by omega
      clear hzc hz64 HZ h56
      go_wp2_with fail
      clear h56i
      generalize (((s.size : Int) + 1 + (z : Int)) % 64 != 56) = bb
      go_loopw [3, 5] (fun b x wq => ∃ i : Nat, i ≤ 8 ∧ x = .int .i64 i ∧ Om w.heap.size wq b (N ++ (len8 (8 * s.size)).take i) ∧ Below w.heap.size w wq) (fun _ x _ => 8 - (intOf x).toNat)
      case atStart => exact ⟨0, by omega, rfl, by simpa [hl3] using o3, b3⟩
      case round =>
        clear o3 b3 hs3
        obtain ⟨i, hi8, rfl, o4, b4⟩ := hrel
        have hl4 : (N ++ (len8 (8 * s.size)).take i).length = s.size + 1 + z + i := by rw [List.length_append, hl3, List.length_take]; simp [len8]; omega
        obtain ⟨g4, cap4, hv4⟩ := o4.form
        rw [hl4] at hv4
        subst hv4
        have hs4 : w.heap.size ≤ wr.heap.size := b4.size
        by_cases hlt : i < 8
        · have hii : (i : Int) < 8 := by omega
          have HT : Hid ((len8 (8 * s.size)).take (i + 1) = (len8 (8 * s.size)).take i ++ [lby (8 * s.size) i]) := by
            unfold Hid
            have : i = 0 ∨ i = 1 ∨ i = 2 ∨ i = 3 ∨ i = 4 ∨ i = 5 ∨ i = 6 ∨ i = 7 := by omega
            rcases this with rfl | rfl | rfl | rfl | rfl | rfl | rfl | rfl <;> rfl
          have hval : (s.size : Int) * 8 / 2 ^ (56 - 8 * i) % 256 = (((lby (8 * s.size) i).toNat : Nat) : Int) := by
            rw [← lby_val (8 * s.size) i, show 8 * (7 - i) = 56 - 8 * i by omega, Int.natCast_mul, Int.mul_comm]
            rfl
          generalize hA : N ++ (len8 (8 * s.size)).take i = A at o4 hl4
          go_wp2_with (at_builtin; refine wpList_app1 rfl _ _ rfl w.heap.size _ A (lby (8 * s.size) i) wr.heap.size rfl (by rw [hl4] at *; exact o4.keep ((Fr.refl _ _).alloc _)) rfl (by rw [cell_of (heap_new wr _)]; first | rfl | exact congrArg (fun x => some (Value.int .u8 x)) hval) (by rw [hl4]; omega) (by simp; omega) ?_; intro v5 w5 o5 b5)
          refine ⟨⟨i + 1, by omega, by go_num, by rw [HT.out, ← List.append_assoc, hA]; exact o5, (b4.alloc hs4 _).trans b5⟩, by simp [intOf]; omega⟩
        · obtain rfl : i = 8 := by omega
          have h8 : (len8 (8 * s.size)).take 8 = len8 (8 * s.size) := rfl
          have HP : Hid (N ++ len8 (8 * s.size) = pad L) := by unfold Hid; rw [HN.out, HM.out, pad, hlen, HZZ.out]
          rw [h8, HP.out] at o4
          go_wp2
          go_ret
          exact ⟨_, rfl, o4, Fr.ofBelow b4⟩
    · have hlt : z < Z := by
        rcases Nat.lt_or_ge z Z with h | h
        · exact h
        · exact absurd (by rw [show z = Z by omega]; exact hzc) h56
      have h56i : ¬ ((s.size + 1 + z : Nat) : Int) % 64 = 56 := by omega
      go_wp2_with (at_builtin; refine wpList_app1 rfl _ _ rfl w.heap.size _ (M ++ List.replicate z 0) 0 wr.heap.size rfl (by rw [hl3] at *; exact o3.keep ((Fr.refl _ _).alloc _)) rfl (cell_of (heap_new wr _) 0) (by rw [hl3]; omega) (by simp; omega) ?_; intro v4 w4 o4 b4)
      have hl5 : ∀ l, Om w.heap.size w4 v4 l → lenV v4 = l.length := fun l h => by obtain ⟨g, c, e⟩ := h.form; rw [e]; rfl
      have e5 := hl5 _ o4
      rw [List.length_append, hl3] at e5
      refine ⟨⟨z + 1, by omega, by rw [List.replicate_succ', ← List.append_assoc]; exact o4, (b3.alloc hs3 _).trans b4⟩, ?_⟩
      rw [e5]
      show _ < s.size + 1 + Z - (s.size + 1 + z)
      simp
      omega
end Go.Proofs.YtaeocbdphfkflaaDoor.Rf
namespace Go.Proofs.YtaeocbdphfkflaaDoor.Rf
open Go.RowKit
set_option linter.unusedVariables false
set_option linter.unusedSimpArgs false

theorem pad_len (L : List UInt8) : (pad L).length = 64 * ((pad L).length / 64) := by
  have h : (pad L).length = L.length + 1 + zc L.length + 8 := by
    rw [pad, List.length_append, List.length_append, List.length_append, List.length_replicate]; rfl
  have : (pad L).length % 64 = 0 := by rw [h]; unfold zc; omega
  omega
theorem pad_le (L : List UInt8) : (pad L).length ≤ L.length + 72 := by
  have h : (pad L).length = L.length + 1 + zc L.length + 8 := by
    rw [pad, List.length_append, List.length_append, List.length_append, List.length_replicate]; rfl
  have : zc L.length < 64 := by unfold zc; omega
  omega
theorem pad_pos (L : List UInt8) : 0 < (pad L).length := by
  have h : (pad L).length = L.length + 1 + zc L.length + 8 := by
    rw [pad, List.length_append, List.length_append, List.length_append, List.length_replicate]; rfl
  omega
theorem bn_blk (P : List UInt8) (k i : Nat) (hi : i < 64) : bn ((P.drop (64 * k)).take 64) i = (P.getD (64 * k + i) 0).toNat := by
  unfold bn
  rw [List.getD_eq_getElem?_getD, List.getElem?_take, if_pos hi, List.getElem?_drop, List.getD_eq_getElem?_getD]
theorem bn_256 (l : List UInt8) (i : Nat) : bn l i < 256 := by
  unfold bn
  exact UInt8.toNat_lt _

/-- A thing loaded whole, as one step of a statement whose order is drawn. -/
theorem step_load_agg {P : Program} {ops : Array Oper} {o : Oper} {a : Act} {w : World} {K : Act → World → Prop} {Q : Exit → Act → World → Prop} {E : Prop} (hgd : o.guard = none) (x : Operand) (t : TypeId) (n : Nat) (ho : o.op = .load t x)
    (hagg : ∀ W : World, (isAgg t).run P W = .ok true W) (hsz : ∀ W : World, (sizeOf t).run P W = .ok n W) (g off : Nat) (hx : a.eval x = .pointer (some ⟨g, off, none⟩)) (cur : Array Value) (ty : TypeId) (f : Nat × Nat) (hg : w.heap[g]? = some (.cells cur ty f))
    (V : Array Value) (hV : V.size = n) (hc : ∀ j, j < n → cur[off + j]? = V[j]?)
    (h : K (a.put o.dst (.agg V)) w) : if Region.wanted o (yielded ops a.tmps) = true then Oper.wp P o a w K Q else E := by
  have hw : Region.wanted o (yielded ops a.tmps) = true := by simp [Region.wanted, hgd]
  rw [if_pos hw]
  have hl : (loadCells ⟨g, off, none⟩ n).run P w = .ok V w := by
    have := run_loadCells_list (P := P) w ⟨g, off, none⟩ V.toList (fun j v hv => by
      have hj : j < n := by
        have := (List.getElem?_eq_some_iff.1 hv).1
        simpa [hV] using this
      rw [addO, cell_of hg, hc j hj]
      simpa using hv)
    simpa [hV] using this
  unfold Oper.wp execOp
  simp only [ho, hx, Instr.loadAt, sure, loadVar, Sem.run_bind, Sem.run_pure, hagg, hsz, hl, Result.andThen_ok, if_true]
  exact h
set_option maxRecDepth 100000 in
set_option maxHeartbeats 2000000 in
theorem refsum_any (s : ByteArray) (hs : s.size ≤ 4194304) (w : World) :
    Calls Tryd.prog 52 #[.string s] w fun e w' => e = .returned (.agg (hbs (Sh s.data.toList))) ∧ Nw w w' := by
  obtain ⟨P, hP⟩ : ∃ P, P = pad s.data.toList := ⟨_, rfl⟩
  obtain ⟨nb, hnb⟩ : ∃ nb, nb = P.length / 64 := ⟨_, rfl⟩
  have hPl : P.length = 64 * nb := by rw [hnb, hP]; exact pad_len _
  have HPl : Hid (P.length = 64 * nb) := hPl
  clear hPl
  have hP0 : 0 < P.length := by rw [hP]; exact pad_pos _
  have hPm : P.length ≤ 4194376 := by
    have h1 := pad_le s.data.toList
    have h2 : s.data.toList.length = s.size := by rw [Array.length_toList]; rfl
    rw [← hP] at h1
    omega
  have HW : Hid (hsh (st P nb) = .agg (hbs (Sh s.data.toList))) := by unfold Hid; rw [← hsh_hbs, hnb, hP]; rfl
  obtain ⟨RR, hRR⟩ : ∃ RR, RR = Value.agg (hbs (Sh s.data.toList)) := ⟨_, rfl⟩
  rw [← hRR] at HW ⊢
  have HP : Hid (P = pad s.data.toList) := hP
  clear hP hRR hnb
  go_enter Tryd.func52, Tryd.ntmps52
  go_wp2_with fail
  rw [z32_h]
  have jz : (w.alloc (.cells z32 24)).heap[w.heap.size]? = some (.cells z32 24) := heap_new w _
  have n0 : Nw w (w.alloc (.cells z32 24)) := (Fr.refl _ _).alloc _
  refine (padded_any s hs _).mono ?_
  rintro e1 w1 ⟨v, rfl, o1, n1⟩
  rw [← HP.out, World.size_alloc] at o1
  obtain ⟨g, cap, rfl, hgB, hcap, hcg⟩ := o1.bys
  have jz1 := (n1.block _ (heap_lt jz) (fun f => f)).trans jz
  have nw1 : Nw w w1 := n0.tr n1
  have hg1 : g < w1.heap.size := World.block_lt_of_cell? w1 _ (hcg 0 hP0)
  clear jz n0 n1 o1
  go_wp2_with fail
  refine (table_any w1).mono ?_
  rintro e2 w2 ⟨rfl, n2⟩
  have jz2 := (n2.block _ (heap_lt jz1) (fun f => f)).trans jz1
  have nw2 : Nw w w2 := nw1.tr n2
  have hc2 : ∀ j, j < P.length → w2.cell? ⟨g, j, none⟩ = some (.int .u8 ((P.getD j 0).toNat : Nat)) := fun j hj => n2.cellOf (hcg j hj)
  have HC2 : Hid (∀ j, j < P.length → w2.cell? ⟨g, j, none⟩ = some (.int .u8 ((P.getD j 0).toNat : Nat))) := hc2
  have hg2 : g < w2.heap.size := Nat.lt_of_lt_of_le hg1 n2.size
  clear jz1 nw1 n2 hcg hc2 hg1
  go_wp2_with (refine wp_store_agg rfl (.tmp 4) (.tmp 11) 126 64 rfl Tryd.sizeOf126 w2.heap.size 0 rfl _ 126 (heap_new _ _) ks rfl ks_size ks_one (by decide) ks (by simp) ?_; intro w3 j3 f3 z3)
  have n3 : Nw w2 w3 := ((Fr.refl _ _).alloc _).trans f3 (fun k hk q => by omega)
  clear f3 z3
  refine (start_any w3).mono ?_
  rintro e4 w4 ⟨rfl, n4⟩
  have nA : Nw w2 w4 := n3.tr n4
  have j4 := (n4.block _ (heap_lt j3) (fun f => f)).trans j3
  have jz4 := (nA.block _ (heap_lt jz2) (fun f => f)).trans jz2
  have HC4 : Hid (∀ j, j < P.length → w4.cell? ⟨g, j, none⟩ = some (.int .u8 ((P.getD j 0).toNat : Nat))) := fun j hj => nA.cellOf (HC2.out j hj)
  have nw4 : Nw w w4 := nw2.tr nA
  obtain ⟨b4, hb4⟩ : ∃ b, b = w2.heap.size := ⟨_, rfl⟩
  rw [← hb4] at j4 hg2 ⊢
  have hb44 : b4 < w4.heap.size := heap_lt j4
  have hzb : w.heap.size < b4 := by rw [hb4]; exact heap_lt jz2
  clear hb4 n3 n4 nA jz2 j3 HC2 nw2
  go_wp2_with (refine wp_store_agg rfl (.tmp 5) (.tmp 12) 99 8 rfl Tryd.sizeOf99 w4.heap.size 0 rfl _ 99 (heap_new _ _) (vals H0) rfl (vals_size _) (vals_one _) (by decide) (vals H0) (by simp) ?_; intro w5 j5 f5 z5)
  have n5 : Nw w4 w5 := ((Fr.refl _ _).alloc _).trans f5 (fun k hk q => by omega)
  have k5 := (n5.block _ (heap_lt j4) (fun f => f)).trans j4
  have jz5 := (n5.block _ (heap_lt jz4) (fun f => f)).trans jz4
  have HC5 : Hid (∀ j, j < P.length → w5.cell? ⟨g, j, none⟩ = some (.int .u8 ((P.getD j 0).toNat : Nat))) := fun j hj => n5.cellOf (HC4.out j hj)
  have nw5 : Nw w w5 := nw4.tr n5
  obtain ⟨b5, hb5⟩ : ∃ b, b = w4.heap.size := ⟨_, rfl⟩
  rw [← hb5] at j5 hb44 ⊢
  clear hb5 n5 f5 z5 jz4 HC4 nw4 j4
  obtain ⟨n, hn⟩ : ∃ n, n = P.length := ⟨_, rfl⟩
  have hPl := HPl.out
  rw [← hn] at hPl hP0 hPm hcap HC5 ⊢
  have HN : Hid (n = P.length) := hn
  have HNB : Hid (n = 64 * nb) := hPl
  have HO : Hid (w.heap.size < b4 ∧ b4 < b5 ∧ g < b4 ∧ w.heap.size + 1 ≤ g) := ⟨hzb, hb44, hg2, hgB⟩
  clear hn hPl hzb hb44 hg2 hgB
  go_loopw [6] (fun i wr => ∃ k : Nat, k ≤ nb ∧ i = .int .i64 ((64 * k : Nat) : Int) ∧ Nw w wr ∧ wr.heap[w.heap.size]? = some (.cells z32 24 (0, 0)) ∧ wr.heap[b4]? = some (.cells ks 126 (0, 0)) ∧ wr.heap[b5]? = some (.cells (vals (st P k)) 99 (0, 0)) ∧ (∀ j, j < n → wr.cell? ⟨g, j, none⟩ = some (.int .u8 ((P.getD j 0).toNat : Nat)))) (fun i _ => n - (intOf i).toNat)
  case atStart => exact ⟨0, by omega, rfl, nw5, jz5, k5, j5, HC5.out⟩
  case round =>
    clear nw5 jz5 k5 j5 HC5
    obtain ⟨k, hk, rfl, hnw, hz, hks, hv, hcg⟩ := hrel
    have HG : Hid (∀ j, j < n → wr.cell? ⟨g, j, none⟩ = some (.int .u8 ((P.getD j 0).toNat : Nat))) := hcg
    clear hcg
    by_cases hlt : k < nb
    · obtain ⟨m, hm⟩ : ∃ m, m = 64 * k := ⟨_, rfl⟩
      have hm64 : m + 64 ≤ n := by have := HNB.out; omega
      have HM : Hid (m = 64 * k) := hm
      have HB : Hid (∀ i, i < 64 → wr.cell? ⟨g, m + i, none⟩ = some (.int .u8 ((bn ((P.drop (64 * k)).take 64) i : Nat) : Int))) := fun i hi => by
        rw [HG.out (m + i) (by omega), bn_blk P k i hi, hm]
      rw [← hm]
      have hT : (st P k).ok := st_ok P k
      have HS : Hid (vals (st P (k + 1)) = vals (add8 (st P k) (rounds Kc (Wf (bn ((P.drop (64 * k)).take 64))) (st P k) 64))) := rfl
      generalize st P k = T at hv hT HS
      generalize bn_e : bn ((P.drop (64 * k)).take 64) = Bf at HB HS
      have hB256 : ∀ i, i < 64 → Bf i < 256 := fun i _ => by rw [← bn_e]; exact bn_256 _ _
      have HT : Hid T.ok := hT
      have HB2 : Hid (∀ i, i < 64 → Bf i < 256) := hB256
      clear hm hT bn_e hB256
      have i1 : (m : Int) < (n : Int) := by omega
      have i2 : (0 : Int) ≤ (m : Int) := by omega
      have i3 : IntKind.i64.wrap ((m : Int) + 64) = (m : Int) + 64 := by rw [IntKind.wrap_i64]; omega
      have i4 : (m : Int) ≤ (m : Int) + 64 := by omega
      have i5 : (m : Int) + 64 ≤ (cap : Int) := by omega
      have i6 : ((m : Int) + 64).toNat = m + 64 := by omega
      have v8 := vals_size T
      have k64 := ks_size
      have hcd : (vals T).toList.drop (0 + 8) = [] := rfl
      have Q7 : Hid (∀ c, Calls Tryd.prog 66 #[.agg (vals T), .slice (some ⟨g, m, none⟩) 64 c, .agg ks] wr.drew fun e w' => e = .returned (.agg (vals (add8 T (rounds Kc (Wf Bf) T 64)))) ∧ Nw wr.drew w') := fun c => block_any T HT.out g m c Bf HB2.out wr.drew (fun i hi => Nw.cellOf (Fr.refl _ wr).drew (HB.out i hi))
      have FIN : Hid (∀ w7 w8, Nw wr w7 → Fr (fun k => k = b5) w7 w8 → w8.heap[b5]? = some (.cells (vals (add8 T (rounds Kc (Wf Bf) T 64))) 99 (0, 0)) → (∃ k : Nat, k ≤ nb ∧ Value.int .i64 ((m : Int) + 64) = .int .i64 ((64 * k : Nat) : Int) ∧ Nw w w8 ∧ w8.heap[w.heap.size]? = some (.cells z32 24 (0, 0)) ∧ w8.heap[b4]? = some (.cells ks 126 (0, 0)) ∧ w8.heap[b5]? = some (.cells (vals (st P k)) 99 (0, 0)) ∧ (∀ j, j < n → w8.cell? ⟨g, j, none⟩ = some (.int .u8 ((P.getD j 0).toNat : Nat)))) ∧ n - (intOf (.int .i64 ((m : Int) + 64))).toNat < n - (intOf (.int .i64 (m : Int))).toNat) := fun w7 w8 n7 f8 j8 => by
        have hO := HO.out
        have hsz := hnw.size
        have hmk := HM.out
        refine ⟨⟨k + 1, by omega, ?_, (hnw.tr n7).trans f8 (fun j hj q => by omega), ?_, ?_, ?_, ?_⟩, by simp [intOf]; omega⟩
        · rw [hmk]; congr 1 <;> omega
        · exact (f8.block _ (Nat.lt_of_lt_of_le (heap_lt hz) n7.size) (by omega)).trans ((n7.block _ (heap_lt hz) (fun f => f)).trans hz)
        · exact (f8.block _ (Nat.lt_of_lt_of_le (heap_lt hks) n7.size) (by omega)).trans ((n7.block _ (heap_lt hks) (fun f => f)).trans hks)
        · rw [HS.out]; exact j8
        · intro j hj
          have hc := n7.cellOf (HG.out j hj)
          exact (f8.cell (World.block_lt_of_cell? w7 _ hc) (show ¬ g = b5 by omega)).trans hc
      go_wp2
      refine wp_region_any (by kernel_rfl) ?_
      refine wpAny_take (i := 1) (oi := ({ dst := some 20, op := Op.move (Operand.tmp 3), type := 87, pos := "ref.go:77", after := #[], guard := none } : Oper)) (v := .slice (some ⟨g, 0, none⟩) n cap) rfl (by kernel_rfl) (by kernel_rfl) (by kernel_rfl) (fun _ _ _ h => h) (Or.inl ⟨by rfl, by intro w; go_simp⟩) ?_
      try simp only [Act.put, List.setIfInBounds_toArray, List.set_cons_zero, List.set_cons_succ]
      refine wpAny_take (i := 2) (oi := ({ dst := some 21, op := Op.move (Operand.tmp 6), type := 3, pos := "ref.go:77", after := #[], guard := none } : Oper)) (v := .int .i64 (m : Int)) rfl (by kernel_rfl) (by kernel_rfl) (by kernel_rfl) (fun _ _ _ h => h) (Or.inl ⟨by rfl, by intro w; go_simp⟩) ?_
      try simp only [Act.put, List.setIfInBounds_toArray, List.set_cons_zero, List.set_cons_succ]
      refine wpAny_take (i := 3) (oi := ({ dst := some 22, op := Op.move (Operand.tmp 6), type := 3, pos := "ref.go:77", after := #[], guard := none } : Oper)) (v := .int .i64 (m : Int)) rfl (by kernel_rfl) (by kernel_rfl) (by kernel_rfl) (fun _ _ _ h => h) (Or.inl ⟨by rfl, by intro w; go_simp⟩) ?_
      try simp only [Act.put, List.setIfInBounds_toArray, List.set_cons_zero, List.set_cons_succ]
      refine wpAny_take (i := 4) (oi := ({ dst := some 23, op := Op.binOp BinOp.add 3 (Operand.tmp 22) (Operand.const (Value.int IntKind.i64 64)) 3, type := 3, pos := "ref.go:77", after := #[{ on := 3, ground := Ground.data }], guard := none } : Oper)) (v := .int .i64 ((m : Int) + 64)) rfl (by kernel_rfl) (by kernel_rfl) (by kernel_rfl) (fun _ _ _ h => h) (Or.inl ⟨by rfl, by intro w; go_simp⟩) ?_
      try simp only [Act.put, List.setIfInBounds_toArray, List.set_cons_zero, List.set_cons_succ]
      refine wpAny_take (i := 5) (oi := ({ dst := some 24, op := Op.slice 87 (Operand.tmp 20) (some (Operand.tmp 21)) (some (Operand.tmp 23)) none, type := 87, pos := "ref.go:77", after := #[{ on := 1, ground := Ground.data }, { on := 2, ground := Ground.data }, { on := 4, ground := Ground.data }], guard := none } : Oper)) (v := .slice (some ⟨g, m, none⟩) 64 (cap - m)) rfl (by kernel_rfl) (by kernel_rfl) (by kernel_rfl) (fun _ _ _ h => h) (Or.inl ⟨by rfl, by intro w; go_simp; intro h; omega⟩) ?_
      try simp only [Act.put, List.setIfInBounds_toArray, List.set_cons_zero, List.set_cons_succ]
      refine wpAny_ready (rs := [0, 6]) (by kernel_rfl) (by simp) ?_
      refine (AllReady.cons (o := ({ dst := some 19, op := Op.load 99 (Operand.tmp 5), type := 99, pos := "ref.go:77", after := #[], guard := none } : Oper)) rfl (fun K' hK => ?_) (AllReady.cons (o := ({ dst := some 25, op := Op.load 126 (Operand.tmp 4), type := 126, pos := "ref.go:77", after := #[], guard := none } : Oper)) rfl (fun K' hK => ?_) AllReady.nil))
      · refine step_load_agg rfl (.tmp 5) 99 8 rfl Tryd.isAgg99 Tryd.sizeOf99 b5 0 rfl (vals T) 99 (0, 0) hv (vals T) v8 (fun j _ => by rw [Nat.zero_add]) ?_
        refine hK _ _ ?_
        try simp only [Act.put, List.setIfInBounds_toArray, List.set_cons_zero, List.set_cons_succ]
        refine wpAny_ready (rs := [6]) (by kernel_rfl) (by simp) ?_
        refine (AllReady.cons (o := ({ dst := some 25, op := Op.load 126 (Operand.tmp 4), type := 126, pos := "ref.go:77", after := #[], guard := none } : Oper)) rfl (fun K' hK => ?_) AllReady.nil)
        refine step_load_agg rfl (.tmp 4) 126 64 rfl Tryd.isAgg126 Tryd.sizeOf126 b4 0 rfl ks 126 (0, 0) hks ks k64 (fun j _ => by rw [Nat.zero_add]) ?_
        refine hK _ _ ?_
        try simp only [Act.put, List.setIfInBounds_toArray, List.set_cons_zero, List.set_cons_succ]
        refine wpAny_ready (rs := [7]) (by kernel_rfl) (by simp) ?_
        refine (AllReady.cons (o := ({ dst := some 26, op := Op.call { callee := Callee.value (Operand.func 66), args := #[Operand.tmp 19, Operand.tmp 24, Operand.tmp 25], argTypes := #[99, 87, 126] }, type := 99, pos := "ref.go:77", after := #[{ on := 0, ground := Ground.data }, { on := 5, ground := Ground.data }, { on := 6, ground := Ground.data }], guard := none } : Oper)) rfl (fun K' hK => ?_) AllReady.nil)
        go_simp
        go_wp2_with (go_at_call 66; refine (Q7.out _).mono ?_; rintro e7 w7 ⟨rfl, n7⟩)
        have n7' : Nw wr w7 := Nw.tr (Fr.refl _ wr).drew n7
        try refine hK _ _ ?_
        try simp only [Act.put, List.setIfInBounds_toArray, List.set_cons_zero, List.set_cons_succ]
        refine wpAny_ready (rs := [8]) (by kernel_rfl) (by simp) ?_
        refine (AllReady.cons (o := ({ dst := none, op := Op.store 99 (Operand.tmp 5) (Operand.tmp 26), type := 0, pos := "ref.go:77", after := #[{ on := 7, ground := Ground.data }, { on := 7, ground := Ground.chain }, { on := 0, ground := Ground.phase }, { on := 1, ground := Ground.phase }, { on := 2, ground := Ground.phase }, { on := 3, ground := Ground.phase }, { on := 4, ground := Ground.phase }, { on := 5, ground := Ground.phase }, { on := 6, ground := Ground.phase }, { on := 7, ground := Ground.phase }], guard := none } : Oper)) rfl (fun K' hK => ?_) AllReady.nil)
        have hv7 := (n7'.block _ (heap_lt hv) (fun f => f)).trans hv
        refine step_store_agg rfl (.tmp 5) (.tmp 26) 99 8 rfl Tryd.sizeOf99 b5 0 rfl (vals T) 99 hv7 (vals (add8 T (rounds Kc (Wf Bf) T 64))) rfl (vals_size _) (vals_one _) (by rw [v8]; decide) (vals (add8 T (rounds Kc (Wf Bf) T 64))) (by rw [hcd]; simp) ?_
        intro w8 j8 f8 z8
        refine hK _ _ ?_
        refine wpAny_done (by kernel_rfl) ?_ _
        go_wp2_with fail
        exact FIN.out w7 w8 n7' f8 j8
      · refine step_load_agg rfl (.tmp 4) 126 64 rfl Tryd.isAgg126 Tryd.sizeOf126 b4 0 rfl ks 126 (0, 0) hks ks k64 (fun j _ => by rw [Nat.zero_add]) ?_
        refine hK _ _ ?_
        try simp only [Act.put, List.setIfInBounds_toArray, List.set_cons_zero, List.set_cons_succ]
        refine wpAny_ready (rs := [0]) (by kernel_rfl) (by simp) ?_
        refine (AllReady.cons (o := ({ dst := some 19, op := Op.load 99 (Operand.tmp 5), type := 99, pos := "ref.go:77", after := #[], guard := none } : Oper)) rfl (fun K' hK => ?_) AllReady.nil)
        refine step_load_agg rfl (.tmp 5) 99 8 rfl Tryd.isAgg99 Tryd.sizeOf99 b5 0 rfl (vals T) 99 (0, 0) hv (vals T) v8 (fun j _ => by rw [Nat.zero_add]) ?_
        refine hK _ _ ?_
        try simp only [Act.put, List.setIfInBounds_toArray, List.set_cons_zero, List.set_cons_succ]
        refine wpAny_ready (rs := [7]) (by kernel_rfl) (by simp) ?_
        refine (AllReady.cons (o := ({ dst := some 26, op := Op.call { callee := Callee.value (Operand.func 66), args := #[Operand.tmp 19, Operand.tmp 24, Operand.tmp 25], argTypes := #[99, 87, 126] }, type := 99, pos := "ref.go:77", after := #[{ on := 0, ground := Ground.data }, { on := 5, ground := Ground.data }, { on := 6, ground := Ground.data }], guard := none } : Oper)) rfl (fun K' hK => ?_) AllReady.nil)
        go_simp
        go_wp2_with (go_at_call 66; refine (Q7.out _).mono ?_; rintro e7 w7 ⟨rfl, n7⟩)
        have n7' : Nw wr w7 := Nw.tr (Fr.refl _ wr).drew n7
        try refine hK _ _ ?_
        try simp only [Act.put, List.setIfInBounds_toArray, List.set_cons_zero, List.set_cons_succ]
        refine wpAny_ready (rs := [8]) (by kernel_rfl) (by simp) ?_
        refine (AllReady.cons (o := ({ dst := none, op := Op.store 99 (Operand.tmp 5) (Operand.tmp 26), type := 0, pos := "ref.go:77", after := #[{ on := 7, ground := Ground.data }, { on := 7, ground := Ground.chain }, { on := 0, ground := Ground.phase }, { on := 1, ground := Ground.phase }, { on := 2, ground := Ground.phase }, { on := 3, ground := Ground.phase }, { on := 4, ground := Ground.phase }, { on := 5, ground := Ground.phase }, { on := 6, ground := Ground.phase }, { on := 7, ground := Ground.phase }], guard := none } : Oper)) rfl (fun K' hK => ?_) AllReady.nil)
        have hv7 := (n7'.block _ (heap_lt hv) (fun f => f)).trans hv
        refine step_store_agg rfl (.tmp 5) (.tmp 26) 99 8 rfl Tryd.sizeOf99 b5 0 rfl (vals T) 99 hv7 (vals (add8 T (rounds Kc (Wf Bf) T 64))) rfl (vals_size _) (vals_one _) (by rw [v8]; decide) (vals (add8 T (rounds Kc (Wf Bf) T 64))) (by rw [hcd]; simp) ?_
        intro w8 j8 f8 z8
        refine hK _ _ ?_
        refine wpAny_done (by kernel_rfl) ?_ _
        go_wp2_with fail
        exact FIN.out w7 w8 n7' f8 j8
    · obtain rfl : k = nb := by omega
      have hO := HO.out
      have hge : ¬ ((64 * k : Nat) : Int) < (n : Int) := by have := HNB.out; omega
      obtain ⟨m, hm⟩ : ∃ m, m = 64 * k := ⟨_, rfl⟩
      rw [← hm] at hge ⊢
      have hT : (st P k).ok := st_ok P k
      have HT : Hid (st P k).ok := hT
      generalize st P k = T at hv HT HW
      have hb5 : b5 < wr.heap.size := heap_lt hv
      obtain ⟨wo, hwo⟩ : ∃ wo, wo = wr.alloc (.cells z32 24) := ⟨_, rfl⟩
      have no : Nw wr wo := by rw [hwo]; exact (Fr.refl _ _).alloc _
      have jo : wo.heap[wr.heap.size]? = some (.cells (hcs T 0) 24 (0, 0)) := by rw [hwo, hcs_0]; exact heap_new wr _
      have vo := (no.block _ hb5 (fun f => f)).trans hv
      have zo := (no.block _ (heap_lt hz) (fun f => f)).trans hz
      have nwo := hnw.tr no
      have HK : Hid (w.heap.size < b5 ∧ b5 < wr.heap.size) := ⟨by omega, hb5⟩
      have HWS : Hid (w.heap.size ≤ wr.heap.size) := hnw.size
      clear hT hm hks hO no hb5 hz hv hnw HG
      go_wp2_with fail
      rw [z32_h, ← hwo]
      clear hwo hge
      generalize decide ((m : Int) < (n : Int)) = dd
      obtain ⟨r, hr⟩ : ∃ r, r = wr.heap.size := ⟨_, rfl⟩
      rw [← hr] at jo HK HWS ⊢
      clear hr
      go_loopw [8] (fun i wx => ∃ j : Nat, j ≤ 32 ∧ i = .int .i64 j ∧ Nw w wx ∧ wx.heap[w.heap.size]? = some (.cells z32 24 (0, 0)) ∧ wx.heap[b5]? = some (.cells (vals T) 99 (0, 0)) ∧ wx.heap[r]? = some (.cells (hcs T j) 24 (0, 0))) (fun i _ => 32 - (intOf i).toNat)
      case atStart => exact ⟨0, by omega, rfl, nwo, zo, vo, jo⟩
      case round =>
        clear nwo zo vo jo
        obtain ⟨j, hj, rfl, hnw, hz, hv, hc⟩ := hrel
        by_cases hlt : j < 32
        · have hki : (j : Int) < 32 := by omega
          obtain ⟨q, x, hkj, hx4⟩ : ∃ q x, j = 4 * q + x ∧ x < 4 := ⟨j / 4, j % 4, by omega, by omega⟩
          have h4 : (j : Int) / 4 = (q : Int) := by omega
          have h4m : (j : Int) % 4 = (x : Int) := by omega
          have hj8 : (q : Int) < 8 := by omega
          have hcw := (cell_of hv q).trans (vals_at T q (by omega))
          have hwl := wl_lt T HT.out q
          have HB : Hid (hby T j = (wl T).getD q 0 / 2 ^ (8 * (3 - x)) % 256) := by
            unfold Hid hby
            rw [show j / 4 = q by omega, show j % 4 = x by omega]
          generalize (wl T).getD q 0 = y at hcw hwl HB
          have hcs : wr.cell? ⟨r, j, none⟩ = some (.int .u8 0) := (cell_of hc j).trans (by rw [hcs, Array.getElem?_ofFn, dif_pos (by omega), if_neg (by simp)]; rfl)
          have hfz : wr.frozen? ⟨r, j, none⟩ = false := frozen_of hc j
          clear hkj
          go_wp2
          have hvl : (y : Int) / 2 ^ (24 - x * 8) % 256 = ((hby T j : Nat) : Int) := by rw [HB.out, show 8 * (3 - x) = 24 - x * 8 by omega]; simp
          rw [hvl]
          have hKo := HK.out
          have hWS := HWS.out
          refine ⟨⟨j + 1, by omega, by go_num, hnw.setCell _ _ (fun h => absurd h (by simp; omega)), (heap_set_ne (by omega) _).trans hz, (heap_set_ne (by omega) _).trans hv, ?_⟩, by simp [intOf]; omega⟩
          rw [← hcs_set T j hlt]
          exact heap_set hc _
        · obtain rfl : j = 32 := by omega
          have hKo := HK.out
          go_wp2_with first
            | (refine wp_load_agg rfl (.tmp 7) 24 32 rfl Tryd.isAgg24 Tryd.sizeOf24 r 0 rfl (hcs T 32) 24 (0, 0) hc (hcs T 32) (hcs_size _ _) (fun j _ => by rw [Nat.zero_add]) ?_)
            | (refine wp_store_agg rfl (.tmp 2) (.tmp 43) 24 32 rfl Tryd.sizeOf24 w.heap.size 0 rfl z32 24 hz (hcs T 32) rfl (hcs_size _ _) (hcs_one T 32) (by decide) (hcs T 32) (by rw [z32_drop]; simp) ?_; intro w9 j9 f9 z9)
          exact bodyPost_ret (results_cell Tryd.results52 Tryd.isAgg24 Tryd.sizeOf24 rfl j9 (hcs_size _ _)) rfl ⟨by rw [← HW.out]; rfl, hnw.trans f9 (fun k hk q => by omega)⟩
end Go.Proofs.YtaeocbdphfkflaaDoor.Rf
namespace Go.Proofs.YtaeocbdphfkflaaDoor.Rf
open Go.RowKit
set_option linter.unusedVariables false
set_option linter.unusedSimpArgs false

/-- A thing loaded whole, guarded or not, yields it wherever its block is as it was. -/
theorem yields_load_g {P : Program} {ops : Array Oper} {S : World → Prop} {o : Oper} {a : Act} (hgd : Region.wanted o (yielded ops a.tmps) = true) (x : Operand) (t : TypeId) (n : Nat) (ho : o.op = .load t x)
    (hagg : ∀ W : World, (isAgg t).run P W = .ok true W) (hsz : ∀ W : World, (sizeOf t).run P W = .ok n W) (g : Nat) (hx : a.eval x = .pointer (some ⟨g, 0, none⟩)) (ty : TypeId)
    (V : Array Value) (hV : V.size = n) (hg : ∀ w, S w → w.heap[g]? = some (.cells V ty (0, 0))) : YieldsIf P ops S o (.agg V) a := by
  refine .inl ⟨hgd, fun w hw => ?_⟩
  have hl : (loadCells ⟨g, 0, none⟩ n).run P w = .ok V w := by
    have := run_loadCells_list (P := P) w ⟨g, 0, none⟩ V.toList (fun j v hv => by
      rw [addZ, cell_of (hg w hw)]
      simpa using hv)
    simpa [hV] using this
  unfold execOp
  simp only [ho, hx, Instr.loadAt, sure, loadVar, Sem.run_bind, Sem.run_pure, hagg, hsz, hl, Result.andThen_ok, if_true]
theorem strs1n {w w' : World} {x : ByteArray} (n : Nw (w.alloc (.cells #[.string x] 9)) w') : Strs w' (some ⟨w.heap.size, 0, none⟩) [x] := (strs1 w x).nw n
theorem strs1d {w w' : World} {x : ByteArray} (n : Nw (w.alloc (.cells #[.string x] 9)).drew w') : Strs w' (some ⟨w.heap.size, 0, none⟩) [x] := (strs1 w x).nw (Nw.tr (Fr.refl _ _).drew n)
end Go.Proofs.YtaeocbdphfkflaaDoor.Rf
namespace Go.Proofs.YtaeocbdphfkflaaDoor.Rf
open Go.RowKit
set_option linter.unusedVariables false
set_option linter.unusedSimpArgs false

set_option maxRecDepth 100000 in
set_option maxHeartbeats 2000000 in
theorem nodetext_any (A B : List UInt8) (hA : A.length = 32) (hB : B.length = 32) (w : World) :
    Calls Tryd.prog 53 #[.agg (hbs A), .agg (hbs B)] w fun e w' => e = .returned (.string ⟨(1 :: (A ++ B)).toArray⟩) ∧ Nw w w' := by
  have HA : Hid (A.length = 32) := hA
  have HB : Hid (B.length = 32) := hB
  have has : (hbs A).size = 32 := by rw [hbs_size, hA]
  have hbs' : (hbs B).size = 32 := by rw [hbs_size, hB]
  clear hA hB
  obtain ⟨X1, hX1⟩ : ∃ X : ByteArray, X = ⟨#[1]⟩ ++ ⟨A.toArray⟩ := ⟨_, rfl⟩
  obtain ⟨X2, hX2⟩ : ∃ X : ByteArray, X = X1 ++ ⟨B.toArray⟩ := ⟨_, rfl⟩
  have zA : (⟨A.toArray⟩ : ByteArray).size = 32 := by show A.toArray.size = 32; simpa using HA.out
  have zB : (⟨B.toArray⟩ : ByteArray).size = 32 := by show B.toArray.size = 32; simpa using HB.out
  have z1 : X1.size = 33 := by rw [hX1, ByteArray.size_append, zA]; rfl
  have x1 : ∀ W, (Op.stringOp .add ⟨#[1]⟩ ⟨A.toArray⟩).run Tryd.prog W = .ok (.string X1) W := fun W => by rw [hX1]; exact run_string_add_sum W _ _ (by rw [zA]; decide)
  have x2 : ∀ W, (Op.stringOp .add X1 ⟨B.toArray⟩).run Tryd.prog W = .ok (.string X2) W := fun W => by rw [hX2]; exact run_string_add_sum W _ _ (by rw [zB, z1]; decide)
  have HX : Hid (Ending.returned (.string X2) = .returned (.string ⟨(1 :: (A ++ B)).toArray⟩)) := by
    unfold Hid
    have : X2 = ⟨(1 :: (A ++ B)).toArray⟩ := by
      apply ByteArray.ext
      apply Array.toList_inj.1
      rw [hX2, hX1]; simp
    rw [this]
  have QT : Hid (∀ T W, (T = A ∨ T = B) → Calls Tryd.prog 67 #[.agg (hbs T)] W fun e w' => e = .returned (.string ⟨T.toArray⟩) ∧ Nw W w') := fun T W h => by
    rcases h with rfl | rfl
    · exact refbytes_any _ HA.out W
    · exact refbytes_any _ HB.out W
  clear zA zB z1 hX1 hX2
  go_enter Tryd.func53, Tryd.ntmps53
  obtain ⟨w0, hw0⟩ : ∃ w0, w0 = (w.alloc (.cells (hbs A) 24)).alloc (.cells (hbs B) 24) := ⟨_, rfl⟩
  have n0 : Nw w w0 := by rw [hw0]; exact ((Fr.refl _ _).alloc _).alloc _
  have ja : w0.heap[w.heap.size]? = some (.cells (hbs A) 24) := by rw [hw0]; exact (Below.heap_alloc _ _ _ (by simp)).trans (heap_new w _)
  have jb : w0.heap[w.heap.size + 1]? = some (.cells (hbs B) 24) := by rw [hw0]; exact heap_next w _ _
  go_wp2
  rw [← hw0]
  clear hw0
  have hkp : Hid (∀ W, Nw w0 W → W.heap[w.heap.size]? = some (.cells (hbs A) 24 (0, 0)) ∧ W.heap[w.heap.size + 1]? = some (.cells (hbs B) 24 (0, 0))) := fun W hW =>
    ⟨(hW.block _ (heap_lt ja) (fun f => f)).trans ja, (hW.block _ (heap_lt jb) (fun f => f)).trans jb⟩
  clear ja jb
  have nb : Nw w0 w0.drew := (Fr.refl _ _).drew
  refine wp_region_held_drew (S := fun W => W.heap[w.heap.size]? = some (.cells (hbs A) 24 (0, 0)) ∧ W.heap[w.heap.size + 1]? = some (.cells (hbs B) 24 (0, 0))) (by kernel_rfl) (hkp.out _ nb) ?_
  intro hS0
  refine wpAnyH_take (i := 0) (oi := ({ dst := some 5, op := Op.load 24 (Operand.tmp 2), type := 24, pos := "ref.go:29", after := #[], guard := none } : Oper)) (v := .agg (hbs A)) rfl (by kernel_rfl) (by kernel_rfl) (by kernel_rfl) (fun _ _ _ h => h) (yields_load_g (by rfl) (.tmp 2) 24 32 rfl Tryd.isAgg24 Tryd.sizeOf24 w.heap.size rfl 24 (hbs A) has (fun w hw => hw.1)) hS0 ?_
  try simp only [Act.put, List.setIfInBounds_toArray, List.set_cons_zero, List.set_cons_succ]
  refine wpAnyH_take (i := 3) (oi := ({ dst := some 8, op := Op.load 24 (Operand.tmp 3), type := 24, pos := "ref.go:29", after := #[], guard := none } : Oper)) (v := .agg (hbs B)) rfl (by kernel_rfl) (by kernel_rfl) (by kernel_rfl) (fun _ _ _ h => h) (yields_load_g (by rfl) (.tmp 3) 24 32 rfl Tryd.isAgg24 Tryd.sizeOf24 (w.heap.size + 1) rfl 24 (hbs B) hbs' (fun w hw => hw.2)) hS0 ?_
  try simp only [Act.put, List.setIfInBounds_toArray, List.set_cons_zero, List.set_cons_succ]
  refine wpAnyH_ready (rs := [1]) (by kernel_rfl) (by simp) ?_
  refine (AllReadyH.cons (o := ({ dst := some 6, op := Op.call { callee := Callee.value (Operand.func 67), args := #[Operand.tmp 5], argTypes := #[24] }, type := 9, pos := "ref.go:29", after := #[{ on := 0, ground := Ground.data }], guard := none } : Oper)) rfl (fun K' hK => ?_) AllReadyH.nil)
  go_simp
  go_wp2_with (go_at_call 67; refine (QT.out A _ (.inl rfl)).mono ?_; rintro ex w101 ⟨rfl, nw101⟩)
  have nb := nb.tr nw101
  refine hK.out _ _ (hkp.out _ nb) (fun hS0 => ?_)
  try simp only [Act.put, List.setIfInBounds_toArray, List.set_cons_zero, List.set_cons_succ]
  refine wpAnyH_take (i := 2) (oi := ({ dst := some 7, op := Op.binOp BinOp.add 9 (Operand.const (Value.string { data := #[1] })) (Operand.tmp 6) 9, type := 9, pos := "ref.go:29", after := #[{ on := 1, ground := Ground.data }], guard := none } : Oper)) (v := .string X1) rfl (by kernel_rfl) (by kernel_rfl) (by kernel_rfl) (fun _ _ _ h => h) (Or.inl ⟨by rfl, by intro w hw; go_simp⟩) hS0 ?_
  try simp only [Act.put, List.setIfInBounds_toArray, List.set_cons_zero, List.set_cons_succ]
  refine wpAnyH_ready (rs := [4]) (by kernel_rfl) (by simp) ?_
  refine (AllReadyH.cons (o := ({ dst := some 9, op := Op.call { callee := Callee.value (Operand.func 67), args := #[Operand.tmp 8], argTypes := #[24] }, type := 9, pos := "ref.go:29", after := #[{ on := 3, ground := Ground.data }, { on := 1, ground := Ground.chain }], guard := none } : Oper)) rfl (fun K' hK => ?_) AllReadyH.nil)
  go_simp
  go_wp2_with (go_at_call 67; refine (QT.out B _ (.inr rfl)).mono ?_; rintro ex w102 ⟨rfl, nw102⟩)
  have nb := nb.tr nw102
  refine hK.out _ _ (hkp.out _ nb) (fun hS0 => ?_)
  try simp only [Act.put, List.setIfInBounds_toArray, List.set_cons_zero, List.set_cons_succ]
  refine wpAnyH_take (i := 5) (oi := ({ dst := some 10, op := Op.binOp BinOp.add 9 (Operand.tmp 7) (Operand.tmp 9) 9, type := 9, pos := "ref.go:29", after := #[{ on := 2, ground := Ground.data }, { on := 4, ground := Ground.data }], guard := none } : Oper)) (v := .string X2) rfl (by kernel_rfl) (by kernel_rfl) (by kernel_rfl) (fun _ _ _ h => h) (Or.inl ⟨by rfl, by intro w hw; go_simp⟩) hS0 ?_
  try simp only [Act.put, List.setIfInBounds_toArray, List.set_cons_zero, List.set_cons_succ]
  refine wpAnyH_ready (rs := [6]) (by kernel_rfl) (by simp) ?_
  refine (AllReadyH.cons (o := ({ dst := some 4, op := Op.assign (Operand.tmp 10), type := 9, pos := "ref.go:29", after := #[{ on := 5, ground := Ground.data }, { on := 4, ground := Ground.chain }, { on := 0, ground := Ground.phase }, { on := 1, ground := Ground.phase }, { on := 2, ground := Ground.phase }, { on := 3, ground := Ground.phase }, { on := 4, ground := Ground.phase }, { on := 5, ground := Ground.phase }], guard := none } : Oper)) rfl (fun K' hK => ?_) AllReadyH.nil)
  go_simp
  refine hK.out _ _ (hkp.out _ nb) (fun hS0 => ?_)
  try simp only [Act.put, List.setIfInBounds_toArray, List.set_cons_zero, List.set_cons_succ]
  refine wpAnyH_done (by kernel_rfl) ?_ _
  go_wp2
  go_ret
  exact ⟨HX.out, n0.tr nb⟩
set_option maxRecDepth 100000 in
set_option maxHeartbeats 1000000 in
theorem refnode_any (A B : List UInt8) (hA : A.length = 32) (hB : B.length = 32) (w : World) :
    Calls Tryd.prog 47 #[.agg (hbs A), .agg (hbs B)] w fun e w' => e = .returned (.agg (hbs (Sh (1 :: (A ++ B))))) ∧ Nw w w' := by
  have q1 := fun W => nodetext_any A B hA hB W
  have q2 := fun W => refsum_any ⟨(1 :: (A ++ B)).toArray⟩ (by show (1 :: (A ++ B)).toArray.size ≤ _; simp [hA, hB]) W
  have e2 : (⟨(1 :: (A ++ B)).toArray⟩ : ByteArray).data.toList = 1 :: (A ++ B) := by simp
  rw [e2] at q2
  generalize (⟨(1 :: (A ++ B)).toArray⟩ : ByteArray) = X at q1 q2
  have HA : Hid (A.length = 32) := hA
  have HB : Hid (B.length = 32) := hB
  have has : (hbs A).size = 32 := by rw [hbs_size, hA]
  have hbs' : (hbs B).size = 32 := by rw [hbs_size, hB]
  clear hA hB
  have hRl : (hbs (Sh (1 :: (A ++ B)))).size = 32 := by rw [hbs_size, Sh_len]
  generalize Sh (1 :: (A ++ B)) = R at q2 hRl ⊢
  clear e2
  go_enter Tryd.func47, Tryd.ntmps47
  obtain ⟨w0, hw0⟩ : ∃ w0, w0 = ((w.alloc (.cells (hbs A) 24)).alloc (.cells (hbs B) 24)).alloc (.cells z32 24) := ⟨_, rfl⟩
  have n0 : Nw w w0 := by rw [hw0]; exact (((Fr.refl _ _).alloc _).alloc _).alloc _
  have ja : w0.heap[w.heap.size]? = some (.cells (hbs A) 24) := by rw [hw0]; exact (Below.heap_alloc _ _ _ (by simp; omega)).trans ((Below.heap_alloc _ _ _ (by simp)).trans (heap_new w _))
  have jb : w0.heap[w.heap.size + 1]? = some (.cells (hbs B) 24) := by rw [hw0]; exact (Below.heap_alloc _ _ _ (by simp)).trans (heap_next w _ _)
  have jz : w0.heap[w.heap.size + 1 + 1]? = some (.cells z32 24) := by
    rw [hw0]
    have := heap_next (w.alloc (.cells (hbs A) 24)) (.cells (hbs B) 24) (.cells z32 24)
    rw [World.size_alloc] at this
    exact this
  have ja' := ja
  have jb' := jb
  rw [hw0, ← z32_h] at ja' jb'
  go_wp2_with first
    | (refine wp_load_agg rfl (.tmp 2) 24 32 rfl Tryd.isAgg24 Tryd.sizeOf24 w.heap.size 0 rfl (hbs A) 24 (0, 0) ja' (hbs A) has (fun j _ => by rw [Nat.zero_add]) ?_)
    | (refine wp_load_agg rfl (.tmp 3) 24 32 rfl Tryd.isAgg24 Tryd.sizeOf24 (w.heap.size + 1) 0 rfl (hbs B) 24 (0, 0) jb' (hbs B) hbs' (fun j _ => by rw [Nat.zero_add]) ?_)
  rw [z32_h, ← hw0]
  clear ja' jb' hw0 ja jb
  refine (q1 _).mono ?_
  rintro e1 w1 ⟨rfl, n1⟩
  go_wp2_with fail
  refine (q2 _).mono ?_
  rintro e2 w2 ⟨rfl, n2⟩
  have nw2 : Nw w0 w2 := n1.tr n2
  have jz2 := (nw2.block _ (heap_lt jz) (fun f => f)).trans jz
  clear jz n1 n2 q1 q2
  go_wp2_with (refine wp_store_agg rfl (.tmp 4) (.tmp 8) 24 32 rfl Tryd.sizeOf24 (w.heap.size + 1 + 1) 0 rfl z32 24 jz2 (hbs R) rfl hRl (hbs_one _) (by decide) (hbs R) (by rw [z32_drop]; simp) ?_; intro w3 j3 f3 z3)
  exact bodyPost_ret (results_cell Tryd.results47 Tryd.isAgg24 Tryd.sizeOf24 rfl j3 hRl) rfl ⟨rfl, (n0.tr nw2).trans f3 (fun k hk q => by omega)⟩
end Go.Proofs.YtaeocbdphfkflaaDoor.Rf
