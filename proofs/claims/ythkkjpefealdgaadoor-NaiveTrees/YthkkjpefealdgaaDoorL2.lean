/- Append and Leaf of package naive. -/
import Derived.Test.YthkkjpefealdgaaDoorL1
import Derived.Test.YthkkjpefealdgaaDoorSc
namespace Go.Proofs.YthkkjpefealdgaaDoor
open Go.RowKit
set_option linter.unusedVariables false
set_option linter.unusedSimpArgs false

theorem step_two {P : Program} {ops : Array Oper} {o : Oper} {a : Act} {w : World} {K : Act → World → Prop} {Q : Exit → Act → World → Prop} {E : Prop}
    (hg : o.guard = none) (s x : Operand) (t : TypeId) (hop : o.op = Op.call { callee := Callee.builtin Builtin.append, args := #[s, x], argTypes := #[t, t] })
    (base : Nat) (e : TypeId) (i : TypeInfo) (z : Value) (size bytes : Nat) (ht : P.underlying t = some (.slice e)) (hi : P.info? e = some i) (hz : i.zero = some z) (hsize : i.size = size) (hby : i.bytes = bytes) (hzs : z.cells.size = size) (hsz : 0 < size)
    (v : Value) (n : Nat) (xs : List Value) (hs : a.eval s = v) (hown : w.ownsRow base e size v n xs)
    (ad : Addr) (m c : Nat) (news : List Value) (hx : a.eval x = .slice (some ad) m c) (hl : news.length = m * size) (hnews : ∀ j u, news[j]? = some u → w.cell? (ad.add j) = some u) (h1 : ∀ u ∈ news, u.oneCell' = true)
    (h63 : n + m ≤ maxLen) (hbytes : (n + m) * bytes ≤ 140737488355328) (hbase : base ≤ w.heap.size)
    (hK : ∀ v' w', w'.ownsRow base e size v' (n + m) (xs ++ news) → Two w w' e size v v' n m (xs ++ news) → K (a.put o.dst v') w') :
    if Region.wanted o (yielded ops a.tmps) = true then Oper.wp P o a w K Q else E := by
  have hw : Region.wanted o (yielded ops a.tmps) = true := by simp [Region.wanted, hg]
  rw [if_pos hw]
  obtain ⟨v', w', hr, h2, h3⟩ := run_two (P := P) w base t o.type e i z size bytes ht hi hz hsize hby hzs hsz v n xs hown ad m c news hl hnews h1 h63 hbytes hbase
  unfold Oper.wp execOp
  simp only [hop, resolve, invoke, builtin, Sem.run_bind, Sem.run_pure, Result.andThen_ok, List.map_toArray, List.map_cons, List.map_nil, hs, hx, hr]
  exact hK v' w' h2 h3
theorem text_new (w : World) (x : Value) (t : TypeId) : ∀ j u, [x][j]? = some u → (w.alloc (.cells #[x] t)).cell? ((⟨w.heap.size, 0, none⟩ : Addr).add j) = some u := by
  intro j u hj
  match j, hj with
  | 0, hj => simp at hj; subst hj; simp [Addr.add]
theorem infoT : (Tryd.prog.info? 9).map (fun i => (i.zero, i.size, i.bytes)) = some (some (.string ⟨#[]⟩), 1, 16) := by kernel_rfl
/-- Behind an append. -/
theorem Lg.put {w w2 w5 : World} {b base : Nat} {v v' : Value} {L : List ByteArray} {s : ByteArray} (h : Lg w b base v L) (hs : s.size ≤ 65536) (hl : L.length < 1048576) (n2 : Nw w w2)
    (o5 : w5.ownsRow base 9 1 v' (L.length + 1) (ts L ++ [.string s])) (t5 : Two w2 w5 9 1 v v' L.length 1 (ts L ++ [.string s])) :
    w5.heap[b]? = some (.cells #[.bool true, v] 64) ∧ Lg (w5.setCell ⟨b, 1, none⟩ v') b base v' (L ++ [s]) ∧ Stays w v v' ∧ Fr (fun k => k = b ∨ v.ownBlock = some k) w (w5.setCell ⟨b, 1, none⟩ v') := by
  have hlt := h.lt
  have hb2 := (n2.block b (heap_lt h.blk) (fun q => q)).trans h.blk
  have hb5 := (t5.fr.block b (heap_lt hb2) (fun q => by have := (h.own.lt b q).1; omega)).trans hb2
  have s2 := n2.size
  have s5 := t5.fr.size
  refine ⟨hb5, ⟨hp_set hb5 rfl, ?_, ?_, ?_, ?_⟩, ?_, ?_⟩
  · rw [List.length_append, ts_app]
    exact ownsRow_setCell_other o5 (fun q => by have := (o5.lt _ q).1; simp only at this; omega) _
  · simp only [World.setCell, Array.size_modify]; omega
  · rw [List.length_append, List.length_singleton]; omega
  · intro x hx
    rcases List.mem_append.1 hx with hx | hx
    · exact h.sz x hx
    · rw [List.mem_singleton.1 hx]; exact hs
  · exact (t5.stays (by omega)).mono s2
  · refine Fr.setCell ?_ _ _ (fun _ => .inl rfl)
    exact (n2.mono (fun _ _ f => f.elim)).trans t5.fr (fun j _ q => .inr q)
set_option maxRecDepth 100000 in
set_option maxHeartbeats 2000000 in
theorem append_yes {w : World} {b base : Nat} {v : Value} {L : List ByteArray} (h : Lg w b base v L) (s : ByteArray) (hs : s.size ≤ 65536) (hl : L.length < 1048576) :
    Calls Tryd.prog 26 #[.pointer (some ⟨b, 0, none⟩), .string s] w fun e w' => e = .returned (.tuple #[.int .u64 (L.length : Int), .nilIface]) ∧ ∃ v', Lg w' b base v' (L ++ [s]) ∧ Stays w v v' ∧ Fr (fun k => k = b ∨ v.ownBlock = some k) w w' := by
  obtain ⟨i0, hi, hz0, hz1, hz2⟩ := info_parts infoT
  have q := there_any b true v w h.blk
  have q2 := lsize_any h
  have c1 := h.cv
  have lb := heap_lt h.blk
  have HL : Hid (Lg w b base v L) := h
  have hlt := h.lt
  have HF : Hid (∀ w2 v' w5, Nw w w2 → w5.ownsRow base 9 1 v' (L.length + 1) (ts L ++ [.string s]) → Two w2 w5 9 1 v v' L.length 1 (ts L ++ [.string s]) → _) := fun w2 v' w5 n o t => h.put hs hl n o t
  have HC : Hid (∀ W, Calls Tryd.prog 36 #[.string s] W fun e w' => ∃ u, e = .returned u ∧ (u = .string s ∧ Nw W w')) := fun W => (clone_any s W (by omega)).mono fun e w' ⟨he, hn⟩ => ⟨_, he, rfl, hn⟩
  have hs2 : ¬ (65536 : Int) < (s.size : Int) := by omega
  have hl2 : decide ((1048576 : Int) ≤ (L.length : Int)) = false := by simp; omega
  have hl3 : Hid (L.length < 1048576) := hl
  have hlt3 : Hid (b < base ∧ base ≤ w.heap.size) := hlt
  obtain ⟨va, vc, hv⟩ := ownsRow_form h.own
  subst hv
  clear h hl hlt
  go_enter Tryd.func26, Tryd.ntmps26
  go_wp2_with fail
  refine q.mono ?_
  rintro e w1 ⟨rfl, rfl⟩
  go_wp2_with fail
  refine q2.mono ?_
  rintro e w1 ⟨rfl, rfl⟩
  go_wp2_with fail
  go_region_law (first
    | (show if Region.wanted (Oper.mk _ (.call ⟨.value (.func 36), _, _⟩) _ _ _ _) _ = true then _ else _; refine step_calls rfl 36 #[.string s] (by go_simp) (HC.out _) ?_; rintro v2 w2 ⟨rfl, n2⟩; have NX : Hid (Nw w1 w2) := Nw.tr (by repeat first | with_reducible exact nwr w1 | with_reducible refine Fr.alloc ?_ _ | with_reducible refine Fr.drew ?_ | (with_reducible refine Fr.setCell ?_ _ _ (fun h => ?_); rotate_left; focus (simp only at h; omega))) n2; have c12 := NX.out.cellOf c1; have lb2 := Nat.lt_of_lt_of_le lb NX.out.size; clear n2)
    | (refine step_two rfl (.tmp 29) (.tmp 32) 22 rfl base 9 i0 (.string ⟨#[]⟩) 1 16 Tryd.underlying22 hi hz0 hz1 hz2 rfl (by decide) (.slice va L.length vc) L.length (ts L) rfl ((HL.out.nw NX.out).own.alloc _) ⟨w2.heap.size, 0, none⟩ 1 1 [.string s] rfl rfl (text_new _ _ _) (by simp [Value.oneCell']) (by have := hl3.out; unfold maxLen; omega) (by have := hl3.out; omega) (by have := NX.out.size; have := hlt3.out; simp; omega) ?_; intro v' w5 o5 t5; obtain ⟨hb5, HF5⟩ := HF.out _ v' w5 (NX.out.alloc _) o5 t5; have cb5 := cell2b hb5; have fb5 := frozen_of hb5 1; have lb5 := heap_lt hb5; have HF6 := show Hid _ from HF5; obtain ⟨xa, xc, rfl⟩ := ownsRow_form o5; clear o5 t5 hb5 HF5))
  all_goals
    try simp only [List.getElem_toArray, List.getElem_cons_succ, List.getElem_cons_zero, Act.put, List.setIfInBounds_toArray, List.set_cons_succ, List.set_cons_zero]
    go_wp2
    go_ret2
    exact ⟨rfl, _, HF6.out⟩
set_option maxHeartbeats 1000000 in
theorem append_lim {w : World} {b base : Nat} {v : Value} {L : List ByteArray} (h : Lg w b base v L) (s : ByteArray) (hs : s.size < 9223372036854775807) (hl : 65536 < s.size ∨ 1048576 ≤ L.length) {B : Nat} {a : Nat → Addr} (hS : Sent B w a) :
    Calls Tryd.prog 26 #[.pointer (some ⟨b, 0, none⟩), .string s] w fun e w' => e = .returned (.tuple #[.int .u64 0, sen (a 3)]) ∧ Nw w w' := by
  have q := there_any b true v w h.blk
  have c1 := h.cv
  have lb := heap_lt h.blk
  have c3 := hS.c3
  have hle := h.len
  obtain ⟨va, vc, hv⟩ := ownsRow_form h.own
  subst hv
  have hw : (65536 : Int) < (s.size : Int) ∨ (¬ (65536 : Int) < (s.size : Int) ∧ (1048576 : Int) ≤ (L.length : Int)) := by omega
  clear h hS hl
  rcases hw with hw | ⟨hw1, hw2⟩
  all_goals
    go_enter Tryd.func26, Tryd.ntmps26
    go_wp2_with fail
    refine q.mono ?_
    rintro e w1 ⟨rfl, rfl⟩
    go_wp2_with fail
    go_quiet (fail)
    go_wp2
    go_ret2
    exact ⟨rfl, (nwr w1).drewN nq⟩
set_option maxHeartbeats 1000000 in
theorem append_no {w : World} {p : Value} (h : NoL w p) (s : ByteArray) {B : Nat} {a : Nat → Addr} (hS : Sent B w a) :
    Calls Tryd.prog 26 #[p, .string s] w fun e w' => e = .returned (.tuple #[.int .u64 0, sen (a 0)]) ∧ Nw w w' := by
  have q := there_no h
  have c0 := hS.c0
  clear h hS
  go_enter Tryd.func26, Tryd.ntmps26
  go_wp2_with fail
  refine q.mono ?_
  rintro e w1 ⟨rfl, rfl⟩
  go_wp2_with fail
  go_quiet (fail)
  go_wp2
  go_ret2
  exact ⟨rfl, (nwr w1).drewN nq⟩
set_option maxHeartbeats 1000000 in
theorem leaf_yes {w : World} {b base : Nat} {v : Value} {L : List ByteArray} (h : Lg w b base v L) (k : Nat) (x : ByteArray) (hx : L[k]? = some x) :
    Calls Tryd.prog 14 #[.pointer (some ⟨b, 0, none⟩), .int .u64 (k : Int)] w fun e w' => e = .returned (.tuple #[.string x, .nilIface]) ∧ Nw w w' := by
  have q := there_any b true v w h.blk
  have q2 := lsize_any h
  have hk : k < L.length := (List.getElem?_eq_some_iff.1 hx).1
  have hle := h.len
  have c1 := h.cv
  have lb := heap_lt h.blk
  have hsz := h.sz x (List.mem_of_getElem? hx)
  have q3 := clone_any x w (by omega)
  obtain ⟨p, c, rfl, hp, _⟩ := h.form
  obtain ⟨g, o, rfl, hc⟩ := hp k x hx
  have lg := World.block_lt_of_cell? _ _ hc
  simp only at lg
  have hk2 : ¬ (L.length : Int) ≤ (k : Int) := by omega
  clear h hp hx
  go_enter Tryd.func14, Tryd.ntmps14
  go_wp2_with fail
  refine q.mono ?_
  rintro e w1 ⟨rfl, rfl⟩
  go_wp2_with fail
  refine q2.mono ?_
  rintro e w1 ⟨rfl, rfl⟩
  go_wp2_with fail
  refine q3.mono ?_
  rintro e w2 ⟨rfl, n2⟩
  go_wp2
  go_ret2
  exact ⟨rfl, n2⟩
set_option maxHeartbeats 1000000 in
theorem leaf_rng {w : World} {b base : Nat} {v : Value} {L : List ByteArray} (h : Lg w b base v L) (k : Nat) (hk : L.length ≤ k) (hk2 : k < 18446744073709551616) {B : Nat} {a : Nat → Addr} (hS : Sent B w a) :
    Calls Tryd.prog 14 #[.pointer (some ⟨b, 0, none⟩), .int .u64 (k : Int)] w fun e w' => e = .returned (.tuple #[.string ⟨#[]⟩, sen (a 4)]) ∧ Nw w w' := by
  have q := there_any b true v w h.blk
  have q2 := lsize_any h
  have c4 := hS.c4
  have hk3 : (L.length : Int) ≤ (k : Int) := by omega
  have hle := h.len
  clear h hS
  go_enter Tryd.func14, Tryd.ntmps14
  go_wp2_with fail
  refine q.mono ?_
  rintro e w1 ⟨rfl, rfl⟩
  go_wp2_with fail
  refine q2.mono ?_
  rintro e w1 ⟨rfl, rfl⟩
  go_wp2_with fail
  go_quiet (fail)
  go_wp2
  go_ret2
  exact ⟨rfl, (nwr w1).drewN nq⟩
set_option maxHeartbeats 1000000 in
theorem leaf_no {w : World} {p : Value} (h : NoL w p) (k : Nat) {B : Nat} {a : Nat → Addr} (hS : Sent B w a) :
    Calls Tryd.prog 14 #[p, .int .u64 (k : Int)] w fun e w' => e = .returned (.tuple #[.string ⟨#[]⟩, sen (a 0)]) ∧ Nw w w' := by
  have q := there_no h
  have c0 := hS.c0
  clear h hS
  go_enter Tryd.func14, Tryd.ntmps14
  go_wp2_with fail
  refine q.mono ?_
  rintro e w1 ⟨rfl, rfl⟩
  go_wp2_with fail
  go_quiet (fail)
  go_wp2
  go_ret2
  exact ⟨rfl, (nwr w1).drewN nq⟩
end Go.Proofs.YthkkjpefealdgaaDoor
