/- A log of package naive in memory: New, Size, whether it is there, whether it has a size; strings.Clone. -/
import Derived.Test.YtjkhcplnedcmeaaGreatDoorSg
import Derived.Test.YtjkhcplnedcmeaaGreatDoorClg
import Derived.Test.YtjkhcplnedcmeaaGreatDoorHg
import Derived.Test.YtjkhcplnedcmeaaGreatDoorSh2
import Derived.Laws.MakeOwn
namespace Go.Proofs.YtjkhcplnedcmeaaGreatDoor
open Go.RowKit
set_option linter.unusedVariables false
set_option linter.unusedSimpArgs false

/-- Texts as cells. -/
def ts (L : List ByteArray) : List Value := L.map Value.string
theorem ts_app (L M : List ByteArray) : ts (L ++ M) = ts L ++ ts M := by simp [ts]
/-- A log in memory: its block; its leaves in a row of its own, from block base on. -/
structure Lg (w : World) (b base : Nat) (v : Value) (L : List ByteArray) : Prop where
  blk : w.heap[b]? = some (.cells #[.bool true, v] 184)
  own : w.ownsRow base 9 1 v L.length (ts L)
  lt : b < base ∧ base ≤ w.heap.size
  len : L.length ≤ 1048576
  sz : ∀ x ∈ L, x.size ≤ 65536
theorem Lg.fr {S : Nat → Prop} {w w' : World} {b base : Nat} {v : Value} {L : List ByteArray} (h : Lg w b base v L) (f : Fr S w w') (h1 : ¬ S b) (h2 : ∀ g, v.ownBlock = some g → ¬ S g) : Lg w' b base v L :=
  ⟨(f.block _ (heap_lt h.blk) h1).trans h.blk, ownsRow_keep h.own (fun g hg => f.block g (h.own.lt g hg).2 (h2 g hg)), by have := h.lt; have := f.size; omega, h.len, h.sz⟩
theorem Lg.nw {w w' : World} {b base : Nat} {v : Value} {L : List ByteArray} (h : Lg w b base v L) (f : Nw w w') : Lg w' b base v L := h.fr f (fun q => q) (fun _ _ q => q)
theorem Lg.form {w : World} {b base : Nat} {v : Value} {L : List ByteArray} (h : Lg w b base v L) : ∃ p c, v = .slice p L.length c ∧ Strs w p L ∧ L.length ≤ c ∧ (p = none → L = [] ∧ c = 0) ∧ (∀ a, p = some a → ∃ g, a = ⟨g, 0, none⟩) := by
  have hl := h.own.lt
  have ho := h.own
  rcases h.own.2 with ⟨hv, hn⟩ | ⟨g, cap, cur, hv, hb, hh, h3, h4, h5, h6⟩
  · have : L = [] := List.length_eq_zero_iff.1 hn
    subst this
    exact ⟨none, 0, hv, fun j x hx => by simp at hx, by simp, fun _ => ⟨rfl, rfl⟩, fun a ha => by cases ha⟩
  · subst hv
    refine ⟨_, cap, rfl, fun j x hx => ⟨g, 0, rfl, ?_⟩, by omega, fun q => (by cases q), fun a ha => by cases ha; exact ⟨_, rfl⟩⟩
    have := ho.cells (g := g) rfl j (.string x) (by rw [ts, List.getElem?_map, hx]; rfl)
    rw [addZ] at this
    rw [Nat.zero_add]; exact this
theorem Lg.cv {w : World} {b base : Nat} {v : Value} {L : List ByteArray} (h : Lg w b base v L) : w.cell? ⟨b, 1, none⟩ = some v := cell2b h.blk
/-- A log that is not there, or that no call made. -/
def NoL (w : World) (p : Value) : Prop := p = .pointer none ∨ ∃ b v, p = .pointer (some ⟨b, 0, none⟩) ∧ w.heap[b]? = some (.cells #[.bool false, v] 184)
theorem NoL.nw {w w' : World} {p : Value} (h : NoL w p) (f : Nw w w') : NoL w' p := h.imp id fun ⟨b, v, e, hb⟩ => ⟨b, v, e, (f.block _ (heap_lt hb) (fun q => q)).trans hb⟩
theorem clone_any (s : ByteArray) (w : World) (hs : s.size ≤ 281474976710656) : Calls Tryz.prog 88 #[.string s] w fun e w' => e = .returned (.string s) ∧ Nw w w' := by
  have h0 := Tryz.stringslite_Clone s w hs
  go_enter Tryz.func88, Tryz.ntmps88
  go_wp2_with (go_at_call 127; refine h0.mono ?_; rintro e w1 ⟨rfl, hb⟩)
  go_ret
  exact ⟨rfl, Fr.ofBelow hb⟩
theorem there_any (b : Nat) (m : Bool) (v : Value) (w : World) (h : w.heap[b]? = some (.cells #[.bool m, v] 184)) :
    Calls Tryz.prog 94 #[.pointer (some ⟨b, 0, none⟩)] w fun e w' => e = .returned (.bool m) ∧ w' = w := by
  have c0 := cell2a h
  have lb := heap_lt h
  clear h
  go_enter Tryz.func94, Tryz.ntmps94
  go_wp2
  go_ret
  exact ⟨rfl, rfl⟩
theorem lsize_any {w : World} {b base : Nat} {v : Value} {L : List ByteArray} (h : Lg w b base v L) :
    Calls Tryz.prog 95 #[.pointer (some ⟨b, 0, none⟩)] w fun e w' => e = .returned (.int .u64 (L.length : Int)) ∧ w' = w := by
  have q := there_any b true v w h.blk
  have hl := h.len
  have c1 := h.cv
  have lb := heap_lt h.blk
  obtain ⟨p, c, rfl, _⟩ := h.form
  clear h
  go_enter Tryz.func95, Tryz.ntmps95
  go_wp2_with fail
  refine q.mono ?_
  rintro e w1 ⟨rfl, rfl⟩
  go_wp2
  go_ret
  exact ⟨rfl, rfl⟩
theorem has_any {w : World} {b base : Nat} {v : Value} {L : List ByteArray} (h : Lg w b base v L) (n : Nat) (hn : n < 18446744073709551616) {B : Nat} {a : Nat → Addr} (hS : Sent B w a) :
    Calls Tryz.prog 97 #[.pointer (some ⟨b, 0, none⟩), .int .u64 (n : Int)] w fun e w' => e = .returned (if n ≤ L.length then .nilIface else sen (a 4)) ∧ w' = w := by
  have q := there_any b true v w h.blk
  have q2 := lsize_any h
  have c4 := hS.c4
  have hl := h.len
  clear h hS
  by_cases hc : n ≤ L.length
  · rw [if_pos hc]
    have hc2 : ¬ (L.length : Int) < (n : Int) := by omega
    go_enter Tryz.func97, Tryz.ntmps97
    go_wp2_with fail
    refine q.mono ?_
    rintro e w1 ⟨rfl, rfl⟩
    go_wp2_with fail
    refine q2.mono ?_
    rintro e w1 ⟨rfl, rfl⟩
    go_wp2
    go_ret
    exact ⟨rfl, rfl⟩
  · rw [if_neg hc]
    have hc2 : (L.length : Int) < (n : Int) := by omega
    go_enter Tryz.func97, Tryz.ntmps97
    go_wp2_with fail
    refine q.mono ?_
    rintro e w1 ⟨rfl, rfl⟩
    go_wp2_with fail
    refine q2.mono ?_
    rintro e w1 ⟨rfl, rfl⟩
    go_wp2
    go_ret
    exact ⟨rfl, rfl⟩
theorem new_any (w : World) : Calls Tryz.prog 48 #[] w fun e w' => e = .returned (.pointer (some ⟨w.heap.size, 0, none⟩)) ∧ Lg w' w.heap.size (w.heap.size + 1) (.slice none 0 0) [] ∧ w'.heap.size = w.heap.size + 1 ∧ Nw w w' := by
  go_enter Tryz.func48, Tryz.ntmps48
  go_wp2
  go_ret
  refine ⟨rfl, ⟨heap_new _ _, World.ownsRow_nil _ _ _ _, by simp, by simp, by simp⟩, by simp, nwa w _⟩
end Go.Proofs.YtjkhcplnedcmeaaGreatDoor
namespace Go.Proofs.YtjkhcplnedcmeaaGreatDoor
open Go.RowKit
set_option linter.unusedVariables false
set_option linter.unusedSimpArgs false

theorem step_two {P : Program} {ops : Array Oper} {o : Oper} {a : Act} {w : World} {K : Act → World → Prop} {Q : Exit → Act → World → Prop} {E : Prop}
    (hg : o.guard = none) (s x : Operand) (t : TypeId) (hop : o.op = Op.call { callee := Callee.builtin Builtin.append, args := #[s, x], argTypes := #[t, t] })
    (base : Nat) (e : TypeId) (i : TypeInfo) (z : Value) (size bytes : Nat) (ht : P.underlying t = some (.slice e)) (hi : P.info? e = some i) (hz : i.zero = some z) (hsize : i.size = size) (hby : i.bytes = bytes) (hzs : z.cells.size = size) (hsz : 0 < size)
    (v : Value) (n : Nat) (xs : List Value) (hs : a.eval s = v) (hown : w.ownsRow base e size v n xs)
    (ad : Addr) (m c : Nat) (news : List Value) (hx : a.eval x = .slice (some ad) m c) (hl : news.length = m * size) (hnews : ∀ j u, news[j]? = some u → w.cell? (ad.add j) = some u) (h1 : ∀ u ∈ news, u.oneCell' = true)
    (h63 : n + m ≤ maxLen) (hbytes : (n + m) * bytes ≤ 140737488355328) (hbase : base ≤ w.heap.size)
    (hK : ∀ v' w', w'.ownsRow base e size v' (n + m) (xs ++ news) → Two w w' e size v v' n m (xs ++ news) → K (a.put o.dst v') w') :
    if Region.wanted o (yielded ops a.tmps) = true then Oper.wp P o a w K Q else E := by
  have hw : Region.wanted o (yielded ops a.tmps) = true := by simp [Region.wanted, hg]
  rw [if_pos hw]
  obtain ⟨v', w', hr, h2, h3⟩ := run_two (P := P) w base t o.type e i z size bytes ht hi hz hsize hby hzs hsz v n xs hown ad m c news hl hnews h1 h63 hbytes hbase
  unfold Oper.wp execOp
  simp only [hop, resolve, invoke, builtin, Sem.run_bind, Sem.run_pure, Result.andThen_ok, List.map_toArray, List.map_cons, List.map_nil, hs, hx, hr]
  exact hK v' w' h2 h3
theorem text_new (w : World) (x : Value) (t : TypeId) : ∀ j u, [x][j]? = some u → (w.alloc (.cells #[x] t)).cell? ((⟨w.heap.size, 0, none⟩ : Addr).add j) = some u := by
  intro j u hj
  match j, hj with
  | 0, hj => simp at hj; subst hj; simp [Addr.add]
theorem infoT : (Tryz.prog.info? 9).map (fun i => (i.zero, i.size, i.bytes)) = some (some (.string ⟨#[]⟩), 1, 16) := by kernel_rfl
/-- Behind an append. -/
theorem Lg.put {w w2 w5 : World} {b base : Nat} {v v' : Value} {L : List ByteArray} {s : ByteArray} (h : Lg w b base v L) (hs : s.size ≤ 65536) (hl : L.length < 1048576) (n2 : Nw w w2)
    (o5 : w5.ownsRow base 9 1 v' (L.length + 1) (ts L ++ [.string s])) (t5 : Two w2 w5 9 1 v v' L.length 1 (ts L ++ [.string s])) :
    w5.heap[b]? = some (.cells #[.bool true, v] 184) ∧ Lg (w5.setCell ⟨b, 1, none⟩ v') b base v' (L ++ [s]) ∧ Stays w v v' ∧ Fr (fun k => k = b ∨ v.ownBlock = some k) w (w5.setCell ⟨b, 1, none⟩ v') := by
  have hlt := h.lt
  have hb2 := (n2.block b (heap_lt h.blk) (fun q => q)).trans h.blk
  have hb5 := (t5.fr.block b (heap_lt hb2) (fun q => by have := (h.own.lt b q).1; omega)).trans hb2
  have s2 := n2.size
  have s5 := t5.fr.size
  refine ⟨hb5, ⟨hp_set hb5 rfl, ?_, ?_, ?_, ?_⟩, ?_, ?_⟩
  · rw [List.length_append, ts_app]
    exact ownsRow_setCell_other o5 (fun q => by have := (o5.lt _ q).1; simp only at this; omega) _
  · simp only [World.setCell, Array.size_modify]; omega
  · rw [List.length_append, List.length_singleton]; omega
  · intro x hx
    rcases List.mem_append.1 hx with hx | hx
    · exact h.sz x hx
    · rw [List.mem_singleton.1 hx]; exact hs
  · exact (t5.stays (by omega)).mono s2
  · refine Fr.setCell ?_ _ _ (fun _ => .inl rfl)
    exact (n2.mono (fun _ _ f => f.elim)).trans t5.fr (fun j _ q => .inr q)
set_option maxRecDepth 100000 in
set_option maxHeartbeats 2000000 in
theorem append_yes {w : World} {b base : Nat} {v : Value} {L : List ByteArray} (h : Lg w b base v L) (s : ByteArray) (hs : s.size ≤ 65536) (hl : L.length < 1048576) :
    Calls Tryz.prog 49 #[.pointer (some ⟨b, 0, none⟩), .string s] w fun e w' => e = .returned (.tuple #[.int .u64 (L.length : Int), .nilIface]) ∧ ∃ v', Lg w' b base v' (L ++ [s]) ∧ Stays w v v' ∧ Fr (fun k => k = b ∨ v.ownBlock = some k) w w' := by
  obtain ⟨i0, hi, hz0, hz1, hz2⟩ := info_parts infoT
  have q := there_any b true v w h.blk
  have q2 := lsize_any h
  have c1 := h.cv
  have lb := heap_lt h.blk
  have HL : Hid (Lg w b base v L) := h
  have hlt := h.lt
  have HF : Hid (∀ w2 v' w5, Nw w w2 → w5.ownsRow base 9 1 v' (L.length + 1) (ts L ++ [.string s]) → Two w2 w5 9 1 v v' L.length 1 (ts L ++ [.string s]) → _) := fun w2 v' w5 n o t => h.put hs hl n o t
  have HC : Hid (∀ W, Calls Tryz.prog 88 #[.string s] W fun e w' => ∃ u, e = .returned u ∧ (u = .string s ∧ Nw W w')) := fun W => (clone_any s W (by omega)).mono fun e w' ⟨he, hn⟩ => ⟨_, he, rfl, hn⟩
  have hs2 : ¬ (65536 : Int) < (s.size : Int) := by omega
  have hl2 : decide ((1048576 : Int) ≤ (L.length : Int)) = false := by simp; omega
  have hl3 : Hid (L.length < 1048576) := hl
  have hlt3 : Hid (b < base ∧ base ≤ w.heap.size) := hlt
  obtain ⟨va, vc, hv⟩ := ownsRow_form h.own
  subst hv
  clear h hl hlt
  go_enter Tryz.func49, Tryz.ntmps49
  go_wp2_with fail
  refine q.mono ?_
  rintro e w1 ⟨rfl, rfl⟩
  go_wp2_with fail
  refine q2.mono ?_
  rintro e w1 ⟨rfl, rfl⟩
  go_wp2_with fail
  go_region_law (first
    | (show if Region.wanted (Oper.mk _ (.call ⟨.value (.func 88), _, _⟩) _ _ _ _) _ = true then _ else _; refine step_calls rfl 88 #[.string s] (by go_simp) (HC.out _) ?_; rintro v2 w2 ⟨rfl, n2⟩; have NX : Hid (Nw w1 w2) := Nw.tr (by repeat first | with_reducible exact nwr w1 | with_reducible refine Fr.alloc ?_ _ | with_reducible refine Fr.drew ?_ | (with_reducible refine Fr.setCell ?_ _ _ (fun h => ?_); rotate_left; focus (simp only at h; omega))) n2; have c12 := NX.out.cellOf c1; have lb2 := Nat.lt_of_lt_of_le lb NX.out.size; clear n2)
    | (refine step_two rfl (.tmp 29) (.tmp 32) 94 rfl base 9 i0 (.string ⟨#[]⟩) 1 16 Tryz.underlying94 hi hz0 hz1 hz2 rfl (by decide) (.slice va L.length vc) L.length (ts L) rfl ((HL.out.nw NX.out).own.alloc _) ⟨w2.heap.size, 0, none⟩ 1 1 [.string s] rfl rfl (text_new _ _ _) (by simp [Value.oneCell']) (by have := hl3.out; unfold maxLen; omega) (by have := hl3.out; omega) (by have := NX.out.size; have := hlt3.out; simp; omega) ?_; intro v' w5 o5 t5; obtain ⟨hb5, HF5⟩ := HF.out _ v' w5 (NX.out.alloc _) o5 t5; have cb5 := cell2b hb5; have fb5 := frozen_of hb5 1; have lb5 := heap_lt hb5; have HF6 := show Hid _ from HF5; obtain ⟨xa, xc, rfl⟩ := ownsRow_form o5; clear o5 t5 hb5 HF5))
  all_goals
    try simp only [List.getElem_toArray, List.getElem_cons_succ, List.getElem_cons_zero, Act.put, List.setIfInBounds_toArray, List.set_cons_succ, List.set_cons_zero]
    go_wp2
    go_ret2
    exact ⟨rfl, _, HF6.out⟩
end Go.Proofs.YtjkhcplnedcmeaaGreatDoor
namespace Go.Proofs.YtjkhcplnedcmeaaGreatDoor
open Go.RowKit
set_option linter.unusedVariables false
set_option linter.unusedSimpArgs false

/-- The function that tree makes. -/
abbrev dnT (bd : Nat) : Value := .func (.func 133) #[] #[.pointer (some ⟨bd, 0, none⟩)]
theorem elemS : Tryz.prog.elem 94 = 9 := by kernel_rfl
theorem undS : Tryz.prog.underlying 94 = some (.slice (Tryz.prog.elem 94)) := by rw [elemS]; exact Tryz.underlying94
theorem cut_h (g o n cap k : Nat) (kd : IntKind) (h : k ≤ cap) (W : World) : (Instr.sliceAt 94 (.slice (some ⟨g, o, none⟩) n cap) none (some (.int kd (k : Int))) none).run Tryz.prog W = .ok (.slice (some ⟨g, o, none⟩) k cap) W := by
  rw [run_sliceAt_slice W _ _ _ _ _ undS, run_slice_h W _ (some ⟨g, o, none⟩) n cap undS kd k (by omega) (by omega), elemS, Tryz.sizeOf9 W]
  by_cases h : cap = 0 <;> simp [sliced, h, Addr.add]
theorem cut_l (g o n cap k : Nat) (kd : IntKind) (h : k ≤ n) (h2 : k < cap) (W : World) : (Instr.sliceAt 94 (.slice (some ⟨g, o, none⟩) n cap) (some (.int kd (k : Int))) none none).run Tryz.prog W = .ok (.slice (some ⟨g, o + k, none⟩) (n - k) (cap - k)) W := by
  rw [run_sliceAt_slice W _ _ _ _ _ undS, run_slice_l W _ (some ⟨g, o, none⟩) n cap undS kd k (by omega) (by omega), elemS, Tryz.sizeOf9 W]
  have : ¬ cap = k := by omega
  simp [sliced, this, Addr.add]
theorem cut_lh (p : Option Addr) (n cap b e : Nat) (kd kd2 : IntKind) (h : b ≤ e) (h2 : e ≤ cap) (W : World) : (Instr.sliceAt 94 (.slice p n cap) (some (.int kd (b : Int))) (some (.int kd2 (e : Int))) none).run Tryz.prog W = .ok (.slice (if cap = b then p else p.map (·.add (b * 1))) (e - b) (cap - b)) W := by
  rw [run_sliceAt_slice W _ _ _ _ _ undS, run_slice_lh W _ p n cap undS kd kd2 b e (by omega) (by omega) (by omega), elemS, Tryz.sizeOf9 W]
  simp [sliced]
theorem Strs.cut {w : World} {p : Option Addr} {ss : List ByteArray} (h : Strs w p ss) (b e cap : Nat) (hc : ss.length ≤ cap) : Strs w (if cap = b then p else p.map (·.add (b * 1))) (sbl ss b e) := fun j x hx => by
  have h1 := sbl_get hx
  have h2 := (List.getElem?_eq_some_iff.1 h1).1
  obtain ⟨g, o, rfl, hg⟩ := h _ _ h1
  rw [if_neg (by omega)]
  refine ⟨g, o + b, ?_, ?_⟩
  · simp [Addr.add]
  · rw [Nat.add_assoc]; exact hg
theorem sbl_h (ss : List ByteArray) (k : Nat) : ss.take k = sbl ss 0 k := by simp [sbl]
theorem sbl_l (ss : List ByteArray) (k : Nat) : ss.drop k = sbl ss k ss.length := by simp [sbl]

set_option maxRecDepth 100000 in
set_option maxHeartbeats 2000000 in
theorem tdown_nil (bd : Nat) (p : Option Addr) (cap : Nat) (w : World) (hL : Laid w) : Calls Tryz.prog 133 #[.slice p 0 cap, .pointer (some ⟨bd, 0, none⟩)] w fun e w' => e = .returned (.agg (hbs (mth []))) ∧ Nw w w' := by
  rw [mth_nil]
  have QS := show Hid _ from split_no 0 (by omega) (by omega)
  have HL : Hid (Laid w) := hL
  clear hL
  go_enter Tryz.func133, Tryz.ntmps133
  go_wp2_with fail
  rw [z32_h]
  refine (QS.out _).mono ?_
  rintro e w1 ⟨rfl, n1⟩
  obtain ⟨l0, b0, n2⟩ := one_made n1
  clear n1
  have q := empty_any w1 (HL.out.nw n2)
  go_wp2_with fail
  refine q.mono ?_
  rintro e w2 ⟨rfl, n3⟩
  have b2 := (n3.block _ (heap_lt b0) (fun f => f)).trans b0
  have hs : (hbs (Sh [])).size = 32 := by rw [hbs_size, Sh_len]
  go_wp2_with (refine wp_store_agg rfl (.tmp 3) (.tmp 28) 69 32 rfl Tryz.sizeOf69 w.heap.size 0 rfl z32 69 b2 (hbs (Sh [])) rfl hs (hbs_one _) (by decide) (hbs (Sh [])) (by rw [z32_drop]; simp) ?_; intro w3 j3 f3 z3)
  exact bodyPost_ret (results_cell Tryz.results133 Tryz.isAgg69 Tryz.sizeOf69 rfl j3 hs) rfl ⟨rfl, (n2.tr n3).trans f3 (fun k hk q => by omega)⟩
set_option maxRecDepth 100000 in
set_option maxHeartbeats 2000000 in
theorem tdown_one (bd : Nat) (x : ByteArray) (g o cap : Nat) (w : World) (hx : x.size ≤ 65536) (hc : w.cell? ⟨g, o, none⟩ = some (.string x)) (hL : Laid w) : Calls Tryz.prog 133 #[.slice (some ⟨g, o, none⟩) 1 cap, .pointer (some ⟨bd, 0, none⟩)] w fun e w' => e = .returned (.agg (hbs (mth [x]))) ∧ Nw w w' := by
  rw [mth_one]
  have QS := show Hid _ from split_no 1 (by omega) (by omega)
  have HL : Hid (Laid w) := hL
  have lg := World.block_lt_of_cell? _ _ hc
  simp only at lg
  clear hL
  obtain ⟨R, hR⟩ : ∃ R, R = Sh (0 :: x.data.toList) := ⟨_, rfl⟩
  have HR : Hid (R = Sh (0 :: x.data.toList)) := hR
  have hRl : (hbs R).size = 32 := by rw [hbs_size, hR, Sh_len]
  rw [← hR]
  clear hR
  go_enter Tryz.func133, Tryz.ntmps133
  go_wp2_with fail
  rw [z32_h]
  refine (QS.out _).mono ?_
  rintro e w1 ⟨rfl, n1⟩
  obtain ⟨l0, b0, n2⟩ := one_made n1
  have hc1 := n2.cellOf hc
  have lg1 := Nat.lt_of_lt_of_le lg n2.size
  clear n1
  have q := leaf_any x w1 (HL.out.nw n2) (by omega)
  rw [← HR.out] at q
  go_wp2_with fail
  refine q.mono ?_
  rintro e w2 ⟨rfl, n3⟩
  have b2 := (n3.block _ (heap_lt b0) (fun f => f)).trans b0
  go_wp2_with (refine wp_store_agg rfl (.tmp 3) (.tmp 32) 69 32 rfl Tryz.sizeOf69 w.heap.size 0 rfl z32 69 b2 (hbs R) rfl hRl (hbs_one _) (by decide) (hbs R) (by rw [z32_drop]; simp) ?_; intro w3 j3 f3 z3)
  exact bodyPost_ret (results_cell Tryz.results133 Tryz.isAgg69 Tryz.sizeOf69 rfl j3 hRl) rfl ⟨rfl, (n2.tr n3).trans f3 (fun k hk q => by omega)⟩
set_option maxRecDepth 100000 in
set_option maxHeartbeats 2000000 in
theorem tdown_cut (bd g o n cap k : Nat) (w : World) (A B : List UInt8) (hA : A.length = 32) (hB : B.length = 32) (hn : 2 ≤ n) (hn2 : n ≤ 1048576) (hk : k = spl n) (hcap : n ≤ cap) (hL : Laid w) (hb : w.heap[bd]? = some (.cells #[dnT bd] 231))
    (QA : ∀ W, Nw w W → Calls Tryz.prog 133 #[.slice (some ⟨g, o, none⟩) k cap, .pointer (some ⟨bd, 0, none⟩)] W fun e w' => e = .returned (.agg (hbs A)) ∧ Nw W w')
    (QB : ∀ W, Nw w W → Calls Tryz.prog 133 #[.slice (some ⟨g, o + k, none⟩) (n - k) (cap - k), .pointer (some ⟨bd, 0, none⟩)] W fun e w' => e = .returned (.agg (hbs B)) ∧ Nw W w') :
    Calls Tryz.prog 133 #[.slice (some ⟨g, o, none⟩) n cap, .pointer (some ⟨bd, 0, none⟩)] w fun e w' => e = .returned (.agg (hbs (Sh (1 :: (A ++ B))))) ∧ Nw w w' := by
  have QA' : Hid (∀ W, Nw w W → Calls Tryz.prog 133 #[.slice (some ⟨g, o, none⟩) k cap, .pointer (some ⟨bd, 0, none⟩)] W fun e w' => e = .returned (.agg (hbs A)) ∧ Nw W w') := QA
  have QB' : Hid (∀ W, Nw w W → Calls Tryz.prog 133 #[.slice (some ⟨g, o + k, none⟩) (n - k) (cap - k), .pointer (some ⟨bd, 0, none⟩)] W fun e w' => e = .returned (.agg (hbs B)) ∧ Nw W w') := QB
  have QN : Hid (∀ W, Nw w W → Calls Tryz.prog 42 #[.agg (hbs A), .agg (hbs B)] W fun e w' => e = .returned (.agg (hbs (Sh (1 :: (A ++ B))))) ∧ Nw W w') := fun W hW => node_any A B hA hB W (hL.nw hW)
  have QS := show Hid _ from split_yes n hn (by omega)
  have hkn := spl_lt hn
  have hk0 := spl_pos n
  rw [← hk] at QS hkn hk0
  have HK : Hid (k = spl n) := hk
  clear QA QB hk hL hA hB
  have hc1 := cut_h g o n cap k .u64 (by omega)
  have hc2 := cut_l g o n cap k .u64 (by omega) (by omega)
  have HKN : Hid (k < n) := hkn
  have HCN : Hid (n ≤ cap) := hcap
  clear hkn hk0 hcap
  obtain ⟨R, hR⟩ : ∃ R, R = Sh (1 :: (A ++ B)) := ⟨_, rfl⟩
  have hRl : (hbs R).size = 32 := by rw [hbs_size, hR, Sh_len]
  rw [← hR] at QN ⊢
  clear hR
  obtain ⟨a, ha⟩ : ∃ a, a = hbs A := ⟨_, rfl⟩
  obtain ⟨b, hb'⟩ : ∃ b, b = hbs B := ⟨_, rfl⟩
  rw [← ha] at QA' QN
  rw [← hb'] at QB' QN
  clear ha hb'
  go_enter Tryz.func133, Tryz.ntmps133
  go_wp2_with fail
  rw [z32_h]
  refine (QS.out _).mono ?_
  rintro e w1 ⟨rfl, n1⟩
  obtain ⟨l0, b0, n2⟩ := one_made n1
  have NW1 : Hid (Nw w w1) := n2
  have hb1 := (n2.block _ (heap_lt hb) (fun f => f)).trans hb
  clear n1 hb n2
  go_wp2_with fail
  have hkp : Hid (∀ W, Nw w1 W → W.heap[bd]? = some (.cells #[dnT bd] 231)) := fun W hW => (hW.block _ (heap_lt hb1) (fun f => f)).trans hb1
  have nb : Nw w1 w1.drew := (Fr.refl _ _).drew
  refine wp_region_held_drew (S := fun W => W.heap[bd]? = some (.cells #[dnT bd] 231)) (by kernel_rfl) (hkp.out _ nb) ?_
  intro hS0
  refine wpAnyH_take (i := 0) (v := dnT bd) rfl (by kernel_rfl) (by kernel_rfl) (by kernel_rfl) (fun _ _ _ h => h) (Or.inl ⟨by rfl, by intro w hw; have hc := (cell_of hw 0).trans rfl; go_simp⟩) hS0 ?_
  try simp only [Act.put, List.setIfInBounds_toArray, List.set_cons_zero, List.set_cons_succ]
  refine wpAnyH_take (i := 1) (v := .slice (some ⟨g, o, none⟩) n cap) rfl (by kernel_rfl) (by kernel_rfl) (by kernel_rfl) (fun _ _ _ h => h) (Or.inl ⟨by rfl, by intro w hw; go_simp⟩) hS0 ?_
  try simp only [Act.put, List.setIfInBounds_toArray, List.set_cons_zero, List.set_cons_succ]
  refine wpAnyH_take (i := 2) (v := .int .u64 (k : Int)) rfl (by kernel_rfl) (by kernel_rfl) (by kernel_rfl) (fun _ _ _ h => h) (Or.inl ⟨by rfl, by intro w hw; go_simp⟩) hS0 ?_
  try simp only [Act.put, List.setIfInBounds_toArray, List.set_cons_zero, List.set_cons_succ]
  refine wpAnyH_take (i := 3) (v := .slice (some ⟨g, o, none⟩) k cap) rfl (by kernel_rfl) (by kernel_rfl) (by kernel_rfl) (fun _ _ _ h => h) (Or.inl ⟨by rfl, by intro w hw; have := hc1 w; go_simp⟩) hS0 ?_
  try simp only [Act.put, List.setIfInBounds_toArray, List.set_cons_zero, List.set_cons_succ]
  refine wpAnyH_take (i := 5) (v := dnT bd) rfl (by kernel_rfl) (by kernel_rfl) (by kernel_rfl) (fun _ _ _ h => h) (Or.inl ⟨by rfl, by intro w hw; have hc := (cell_of hw 0).trans rfl; go_simp⟩) hS0 ?_
  try simp only [Act.put, List.setIfInBounds_toArray, List.set_cons_zero, List.set_cons_succ]
  refine wpAnyH_take (i := 6) (v := .slice (some ⟨g, o, none⟩) n cap) rfl (by kernel_rfl) (by kernel_rfl) (by kernel_rfl) (fun _ _ _ h => h) (Or.inl ⟨by rfl, by intro w hw; go_simp⟩) hS0 ?_
  try simp only [Act.put, List.setIfInBounds_toArray, List.set_cons_zero, List.set_cons_succ]
  refine wpAnyH_take (i := 7) (v := .int .u64 (k : Int)) rfl (by kernel_rfl) (by kernel_rfl) (by kernel_rfl) (fun _ _ _ h => h) (Or.inl ⟨by rfl, by intro w hw; go_simp⟩) hS0 ?_
  try simp only [Act.put, List.setIfInBounds_toArray, List.set_cons_zero, List.set_cons_succ]
  refine wpAnyH_take (i := 8) (v := .slice (some ⟨g, o + k, none⟩) (n - k) (cap - k)) rfl (by kernel_rfl) (by kernel_rfl) (by kernel_rfl) (fun _ _ _ h => h) (Or.inl ⟨by rfl, by intro w hw; have := hc2 w; go_simp⟩) hS0 ?_
  try simp only [Act.put, List.setIfInBounds_toArray, List.set_cons_zero, List.set_cons_succ]
  refine wpAnyH_ready (rs := [4]) (by kernel_rfl) (by simp) ?_
  refine AllReadyH.cons rfl (fun K' hK => ?_) AllReadyH.nil
  go_simp
  go_wp2_with (go_at_call 133; refine (QA'.out _ (NW1.out.tr nb)).mono ?_; rintro e2 w2 ⟨rfl, n2⟩)
  have m2 : Nw w1 w2 := Nw.tr nb n2
  refine hK.out _ _ (hkp.out _ m2) (fun hS0 => ?_)
  try simp only [Act.put, List.setIfInBounds_toArray, List.set_cons_zero, List.set_cons_succ]
  refine wpAnyH_ready (rs := [9]) (by kernel_rfl) (by simp) ?_
  refine AllReadyH.cons rfl (fun K' hK => ?_) AllReadyH.nil
  go_simp
  go_wp2_with (go_at_call 133; refine (QB'.out _ (NW1.out.tr m2)).mono ?_; rintro e3 w3 ⟨rfl, n3⟩)
  have m3 : Nw w1 w3 := Nw.tr m2 n3
  refine hK.out _ _ (hkp.out _ m3) (fun hS0 => ?_)
  try simp only [Act.put, List.setIfInBounds_toArray, List.set_cons_zero, List.set_cons_succ]
  refine wpAnyH_ready (rs := [10]) (by kernel_rfl) (by simp) ?_
  refine AllReadyH.cons rfl (fun K' hK => ?_) AllReadyH.nil
  go_simp
  go_wp2_with (go_at_call 42; refine (QN.out _ (NW1.out.tr m3)).mono ?_; rintro e4 w4 ⟨rfl, n4⟩)
  have m4 : Nw w1 w4 := Nw.tr m3 n4
  refine hK.out _ _ (hkp.out _ m4) (fun hS0 => ?_)
  try simp only [Act.put, List.setIfInBounds_toArray, List.set_cons_zero, List.set_cons_succ]
  refine wpAnyH_ready (rs := [11]) (by kernel_rfl) (by simp) ?_
  refine AllReadyH.cons rfl (fun K' hK => ?_) AllReadyH.nil
  have jz := (m4.block _ (heap_lt b0) (fun f => f)).trans b0
  have hne : ¬ bd = w.heap.size := fun q => by
    rw [q] at hS0
    rw [hS0] at jz
    cases jz
  refine step_store_agg rfl (.tmp 3) (.tmp 24) 69 32 rfl Tryz.sizeOf69 w.heap.size 0 rfl z32 69 jz (hbs R) rfl hRl (hbs_one _) (by decide) (hbs R) (by rw [z32_drop]; simp) ?_
  intro w5 j5 f5 z5
  refine hK.out _ _ ((f5.block bd (heap_lt hS0) (fun q => hne q)).trans hS0) (fun hS3 => ?_)
  refine wpAnyH_done (by kernel_rfl) ?_ _
  go_wp2_with fail
  exact bodyPost_ret (results_cell Tryz.results133 Tryz.isAgg69 Tryz.sizeOf69 rfl j5 hRl) rfl ⟨rfl, (NW1.out.tr m4).trans f5 (fun k hk q => by omega)⟩
theorem tdown_any (bd : Nat) : ∀ (m : Nat) (l : List ByteArray) (p : Option Addr) (cap : Nat) (w : World), l.length ≤ m → l.length ≤ 1048576 → (∀ x ∈ l, x.size ≤ 65536) → l.length ≤ cap → Strs w p l → Laid w → w.heap[bd]? = some (.cells #[dnT bd] 231) →
    Calls Tryz.prog 133 #[.slice p l.length cap, .pointer (some ⟨bd, 0, none⟩)] w fun e w' => e = .returned (.agg (hbs (mth l))) ∧ Nw w w'
  | m, [], p, cap, w, hm, h1, h2, h3, h4, h5, h6 => tdown_nil bd p cap w h5
  | m, [x], p, cap, w, hm, h1, h2, h3, h4, h5, h6 => by
    obtain ⟨g, o, rfl, hg⟩ := h4 0 x rfl
    exact tdown_one bd x g o cap w (h2 x (by simp)) hg h5
  | 0, x :: y :: r, p, cap, w, hm, h1, h2, h3, h4, h5, h6 => by simp at hm
  | m + 1, x :: y :: r, p, cap, w, hm, h1, h2, h3, h4, h5, h6 => by
    obtain ⟨l, hl⟩ : ∃ l, l = x :: y :: r := ⟨_, rfl⟩
    rw [← hl] at hm h1 h2 h3 h4 ⊢
    have hn : 2 ≤ l.length := by rw [hl]; simp
    obtain ⟨g, o, hp, _⟩ := h4 0 x (by rw [hl]; rfl)
    subst hp
    have hk := spl_lt hn
    have hk0 := spl_pos l.length
    rw [mth_cut hn]
    have e1 : (l.take (spl l.length)).length = spl l.length := by rw [List.length_take]; omega
    have e2 : (l.drop (spl l.length)).length = l.length - spl l.length := by rw [List.length_drop]
    have s1 := h4.cut 0 (spl l.length) cap h3
    have s2 := h4.cut (spl l.length) l.length cap h3
    rw [← sbl_h] at s1
    rw [← sbl_l] at s2
    have t1 : (if cap = 0 then some (⟨g, o, none⟩ : Addr) else (some ⟨g, o, none⟩ : Option Addr).map (·.add (0 * 1))) = some ⟨g, o, none⟩ := by split <;> simp [Addr.add]
    have t2 : (if cap = spl l.length then some (⟨g, o, none⟩ : Addr) else (some ⟨g, o, none⟩ : Option Addr).map (·.add (spl l.length * 1))) = some ⟨g, o + spl l.length, none⟩ := by rw [if_neg (by omega)]; simp only [Option.map_some, addO, Nat.mul_one]
    rw [t1] at s1
    rw [t2] at s2
    refine tdown_cut bd g o l.length cap (spl l.length) w _ _ (mth_len _) (mth_len _) hn h1 rfl h3 h5 h6 (fun W hW => ?_) (fun W hW => ?_)
    · have := tdown_any bd m (l.take (spl l.length)) (some ⟨g, o, none⟩) cap W (by omega) (by omega) (fun z hz => h2 z (List.mem_of_mem_take hz)) (by omega) (s1.nw hW) (h5.nw hW) ((hW.block _ (heap_lt h6) (fun f => f)).trans h6)
      rw [e1] at this
      exact this
    · have := tdown_any bd m (l.drop (spl l.length)) (some ⟨g, o + spl l.length, none⟩) (cap - spl l.length) W (by omega) (by omega) (fun z hz => h2 z (List.mem_of_mem_drop hz)) (by omega) (s2.nw hW) (h5.nw hW) ((hW.block _ (heap_lt h6) (fun f => f)).trans h6)
      rw [e2] at this
      exact this
end Go.Proofs.YtjkhcplnedcmeaaGreatDoor
namespace Go.Proofs.YtjkhcplnedcmeaaGreatDoor
open Go.RowKit
set_option linter.unusedVariables false
set_option linter.unusedSimpArgs false

set_option maxRecDepth 100000 in
set_option maxHeartbeats 2000000 in
theorem tree_any {w : World} {b base : Nat} {v : Value} {L : List ByteArray} (h : Lg w b base v L) (x y : Nat) (hxy : x ≤ y) (hy : y ≤ L.length) (hL : Laid w) :
    Calls Tryz.prog 98 #[.pointer (some ⟨b, 0, none⟩), sp x y] w fun e w' => e = .returned (.agg (hbs (mth (sbl L x y)))) ∧ Nw w w' := by
  have hst : ∀ (W : World) (ad : Addr) (fn : Fn) (f c : Array Value), (store ad (.func fn f c)).run Tryz.prog W = stored Tryz.prog W ad (.func fn f c) .plain := fun W ad fn f c => run_store _ W ad _ .plain rfl
  obtain ⟨p, c, hv, hp, hlc, _⟩ := h.form
  subst hv
  have hcut := cut_lh p L.length c x y .u64 .u64 hxy (by omega)
  have hlen : (sbl L x y).length = y - x := by rw [sbl_len]; omega
  have hsp := hp.cut x y c hlc
  have hm := h.len
  have QT : Hid (∀ W bd, Nw w W → W.heap[bd]? = some (.cells #[dnT bd] 231) → Calls Tryz.prog 133 #[.slice (if c = x then p else p.map (·.add (x * 1))) (y - x) (c - x), .pointer (some ⟨bd, 0, none⟩)] W fun e w' => e = .returned (.agg (hbs (mth (sbl L x y)))) ∧ Nw W w') := fun W bd hW hb => by
    have q := tdown_any bd (sbl L x y).length (sbl L x y) (if c = x then p else p.map (·.add (x * 1))) (c - x) W (Nat.le_refl _) (by omega) (fun z hz => h.sz z (sbl_mem hz)) (by omega) (hsp.nw hW) (hL.nw hW) hb
    rw [hlen] at q
    exact q
  obtain ⟨pp, hpp⟩ : ∃ pp, pp = (if c = x then p else p.map (·.add (x * 1))) := ⟨_, rfl⟩
  rw [← hpp] at QT hcut
  have hRl : (hbs (mth (sbl L x y))).size = 32 := by rw [hbs_size, mth_len]
  obtain ⟨R, hR⟩ : ∃ R, R = mth (sbl L x y) := ⟨_, rfl⟩
  rw [← hR] at QT hRl ⊢
  have hblk := h.blk
  have HXY : Hid (x ≤ y) := hxy
  clear h hL hp hsp hpp hlen hR hxy
  have lb := heap_lt hblk
  go_enter Tryz.func98, Tryz.ntmps98
  go_wp2_with fail
  rw [z32_h]
  refine gen_world (fun W => W.heap[w.heap.size]? = some (.cells #[.int .u64 (x : Int), .int .u64 (y : Int)] 123) ∧ W.heap[w.heap.size + 1]? = some (.cells z32 69) ∧ W.heap[w.heap.size + 1 + 1]? = some (.cells #[dnT (w.heap.size + 1 + 1)] 231) ∧ Nw w W) ⟨?_, ?_, ?_, ?_⟩ ?_
  · (repeat first | with_reducible exact heap_new _ _ | with_reducible exact heap_new _ _ | with_reducible exact heap_next _ _ _ | with_reducible exact heap_third _ _ _ _ | with_reducible refine hp_dr ?_ | (with_reducible refine hp_ne ?_ ?_; focus omega) | (with_reducible refine hp_al ?_ ?_; focus (first | omega | (simp <;> omega))) | with_reducible apply hp_set) <;> rfl
  · (repeat first | with_reducible exact heap_next _ _ _ | with_reducible exact heap_new _ _ | with_reducible exact heap_next _ _ _ | with_reducible exact heap_third _ _ _ _ | with_reducible refine hp_dr ?_ | (with_reducible refine hp_ne ?_ ?_; focus omega) | (with_reducible refine hp_al ?_ ?_; focus (first | omega | (simp <;> omega))) | with_reducible apply hp_set) <;> rfl
  · (repeat first | with_reducible exact heap_third _ _ _ _ | with_reducible exact heap_new _ _ | with_reducible exact heap_next _ _ _ | with_reducible exact heap_third _ _ _ _ | with_reducible refine hp_dr ?_ | (with_reducible refine hp_ne ?_ ?_; focus omega) | (with_reducible refine hp_al ?_ ?_; focus (first | omega | (simp <;> omega))) | with_reducible apply hp_set) <;> rfl
  · exact (by repeat first | with_reducible exact nwr w | with_reducible refine Fr.alloc ?_ _ | with_reducible refine Fr.drew ?_ | (with_reducible refine Fr.setCell ?_ _ _ (fun h => ?_); rotate_left; focus (simp only at h; omega)))
  rintro w1 ⟨b0, b1, b2, n1⟩
  have hblk1 := (n1.block _ (heap_lt hblk) (fun f => f)).trans hblk
  obtain ⟨bs, hbs0⟩ : ∃ bs, bs = w.heap.size := ⟨_, rfl⟩
  obtain ⟨bd, hbd0⟩ : ∃ bd, bd = w.heap.size + 1 + 1 := ⟨_, rfl⟩
  obtain ⟨bz, hbz0⟩ : ∃ bz, bz = w.heap.size + 1 := ⟨_, rfl⟩
  have HD : Hid (bs ≠ bz ∧ bd ≠ bz ∧ b ≠ bz ∧ w.heap.size ≤ bz) := ⟨by omega, by omega, by omega, by omega⟩
  rw [← hbd0] at b2 ⊢
  rw [← hbz0] at b1 ⊢
  rw [← hbs0] at b0 ⊢
  have NW1 : Hid (Nw w w1) := n1
  clear hbs0 hbd0 hbz0 n1 hblk
  have hkp : Hid (∀ W, Fr (fun k => k = bz) w1 W → W.heap[bd]? = some (.cells #[dnT bd] 231) ∧ W.heap[b]? = some (.cells #[.bool true, .slice p L.length c] 184) ∧ W.heap[bs]? = some (.cells #[.int .u64 (x : Int), .int .u64 (y : Int)] 123)) := fun W hW => ⟨(hW.block _ (heap_lt b2) HD.out.2.1).trans b2, (hW.block _ (heap_lt hblk1) HD.out.2.2.1).trans hblk1, (hW.block _ (heap_lt b0) HD.out.1).trans b0⟩
  have nb : Nw w1 w1.drew := (Fr.refl _ _).drew
  refine wp_region_held_drew (S := fun W => W.heap[bd]? = some (.cells #[dnT bd] 231) ∧ W.heap[b]? = some (.cells #[.bool true, .slice p L.length c] 184) ∧ W.heap[bs]? = some (.cells #[.int .u64 (x : Int), .int .u64 (y : Int)] 123)) (by kernel_rfl) (hkp.out _ (nb.mono (fun _ _ f => f.elim))) ?_
  intro hS0
  refine wpAnyH_take (i := 0) (v := dnT bd) rfl (by kernel_rfl) (by kernel_rfl) (by kernel_rfl) (fun _ _ _ h => h) (Or.inl ⟨by rfl, by intro w hw; have hc := (cell_of hw.1 0).trans rfl; go_simp⟩) hS0 ?_
  try simp only [Act.put, List.setIfInBounds_toArray, List.set_cons_zero, List.set_cons_succ]
  refine wpAnyH_take (i := 1) (v := .pointer (some ⟨b, 0, none⟩)) rfl (by kernel_rfl) (by kernel_rfl) (by kernel_rfl) (fun _ _ _ h => h) (Or.inl ⟨by rfl, by intro w hw; go_simp⟩) hS0 ?_
  try simp only [Act.put, List.setIfInBounds_toArray, List.set_cons_zero, List.set_cons_succ]
  refine wpAnyH_take (i := 2) (v := .pointer (some ⟨b, 0, none⟩)) rfl (by kernel_rfl) (by kernel_rfl) (by kernel_rfl) (fun _ _ _ h => h) (Or.inl ⟨by rfl, by intro w hw; go_simp⟩) hS0 ?_
  try simp only [Act.put, List.setIfInBounds_toArray, List.set_cons_zero, List.set_cons_succ]
  refine wpAnyH_take (i := 3) (v := .pointer (some ⟨b, 1, none⟩)) rfl (by kernel_rfl) (by kernel_rfl) (by kernel_rfl) (fun _ _ _ h => h) (Or.inl ⟨by rfl, by intro w hw; go_simp⟩) hS0 ?_
  try simp only [Act.put, List.setIfInBounds_toArray, List.set_cons_zero, List.set_cons_succ]
  refine wpAnyH_take (i := 4) (v := .slice p L.length c) rfl (by kernel_rfl) (by kernel_rfl) (by kernel_rfl) (fun _ _ _ h => h) (Or.inl ⟨by rfl, by intro w hw; have hc := cell2b hw.2.1; go_simp⟩) hS0 ?_
  try simp only [Act.put, List.setIfInBounds_toArray, List.set_cons_zero, List.set_cons_succ]
  refine wpAnyH_take (i := 5) (v := .pointer (some ⟨bs, 0, none⟩)) rfl (by kernel_rfl) (by kernel_rfl) (by kernel_rfl) (fun _ _ _ h => h) (Or.inl ⟨by rfl, by intro w hw; go_simp⟩) hS0 ?_
  try simp only [Act.put, List.setIfInBounds_toArray, List.set_cons_zero, List.set_cons_succ]
  refine wpAnyH_take (i := 6) (v := .int .u64 (x : Int)) rfl (by kernel_rfl) (by kernel_rfl) (by kernel_rfl) (fun _ _ _ h => h) (Or.inl ⟨by rfl, by intro w hw; have hc := cell2a hw.2.2; go_simp⟩) hS0 ?_
  try simp only [Act.put, List.setIfInBounds_toArray, List.set_cons_zero, List.set_cons_succ]
  refine wpAnyH_take (i := 7) (v := .pointer (some ⟨bs, 1, none⟩)) rfl (by kernel_rfl) (by kernel_rfl) (by kernel_rfl) (fun _ _ _ h => h) (Or.inl ⟨by rfl, by intro w hw; go_simp⟩) hS0 ?_
  try simp only [Act.put, List.setIfInBounds_toArray, List.set_cons_zero, List.set_cons_succ]
  refine wpAnyH_take (i := 8) (v := .int .u64 (y : Int)) rfl (by kernel_rfl) (by kernel_rfl) (by kernel_rfl) (fun _ _ _ h => h) (Or.inl ⟨by rfl, by intro w hw; have hc := cell2b hw.2.2; go_simp⟩) hS0 ?_
  try simp only [Act.put, List.setIfInBounds_toArray, List.set_cons_zero, List.set_cons_succ]
  refine wpAnyH_take (i := 9) (v := .slice pp (y - x) (c - x)) rfl (by kernel_rfl) (by kernel_rfl) (by kernel_rfl) (fun _ _ _ h => h) (Or.inl ⟨by rfl, by intro w hw; have := hcut w; go_simp⟩) hS0 ?_
  try simp only [Act.put, List.setIfInBounds_toArray, List.set_cons_zero, List.set_cons_succ]
  refine wpAnyH_ready (rs := [10]) (by kernel_rfl) (by simp) ?_
  refine AllReadyH.cons rfl (fun K' hK => ?_) AllReadyH.nil
  go_simp
  go_wp2_with (go_at_call 133; refine (QT.out _ bd (NW1.out.tr nb) (hkp.out _ (nb.mono (fun _ _ f => f.elim))).1).mono ?_; rintro e2 w2 ⟨rfl, n2⟩)
  have m2 : Nw w1 w2 := Nw.tr nb n2
  refine hK.out _ _ (hkp.out _ (m2.mono (fun _ _ f => f.elim))) (fun hS0 => ?_)
  try simp only [Act.put, List.setIfInBounds_toArray, List.set_cons_zero, List.set_cons_succ]
  refine wpAnyH_ready (rs := [11]) (by kernel_rfl) (by simp) ?_
  refine AllReadyH.cons rfl (fun K' hK => ?_) AllReadyH.nil
  have jz := (m2.block _ (heap_lt b1) (fun f => f)).trans b1
  refine step_store_agg rfl (.tmp 4) (.tmp 17) 69 32 rfl Tryz.sizeOf69 bz 0 rfl z32 69 jz (hbs R) rfl hRl (hbs_one _) (by decide) (hbs R) (by rw [z32_drop]; simp) ?_
  intro w5 j5 f5 z5
  refine hK.out _ _ (hkp.out _ ((m2.mono (fun _ _ f => f.elim)).trans f5 (fun _ _ q => q))) (fun hS3 => ?_)
  refine wpAnyH_done (by kernel_rfl) ?_ _
  go_wp2_with fail
  exact bodyPost_ret (results_cell Tryz.results98 Tryz.isAgg69 Tryz.sizeOf69 rfl j5 hRl) rfl ⟨rfl, (NW1.out.tr m2).trans f5 (fun k hk q => by have := HD.out.2.2.2; omega)⟩
theorem z32_size : z32.size = 32 := by simp [z32]
theorem z32_one : ∀ u ∈ z32.toList, u.oneCell' = true := by rw [z32_hbs]; exact hbs_one _
abbrev zh : List UInt8 := List.replicate 32 0
set_option maxRecDepth 100000 in
set_option maxHeartbeats 2000000 in
theorem Tree_yes {w : World} {b base : Nat} {v : Value} {L : List ByteArray} (h : Lg w b base v L) (x y : Nat) (hxy : x ≤ y) (hy : y ≤ L.length) (hL : Laid w) {B : Nat} {a : Nat → Addr} (hS : Sent B w a) :
    Calls Tryz.prog 52 #[.pointer (some ⟨b, 0, none⟩), sp x y] w fun e w' => e = .returned (.tuple #[.agg (hbs (mth (sbl L x y))), .nilIface]) ∧ Nw w w' := by
  have QH : Hid (∀ W, Nw w W → Calls Tryz.prog 97 #[.pointer (some ⟨b, 0, none⟩), .int .u64 (y : Int)] W fun e w' => e = .returned .nilIface ∧ Nw W w') := fun W hW => by
    have q := has_any (h.nw hW) y (by have := h.len; omega) (hS.fr hW (fun _ _ f => f))
    rw [if_pos hy] at q
    exact q.mono fun e w' h => ⟨h.1, by rw [h.2]; exact nwr W⟩
  have QT : Hid (∀ W, Nw w W → Calls Tryz.prog 98 #[.pointer (some ⟨b, 0, none⟩), sp x y] W fun e w' => e = .returned (.agg (hbs (mth (sbl L x y)))) ∧ Nw W w') := fun W hW => tree_any (h.nw hW) x y hxy hy (hL.nw hW)
  have hRl : (hbs (mth (sbl L x y))).size = 32 := by rw [hbs_size, mth_len]
  obtain ⟨R, hR⟩ : ∃ R, R = mth (sbl L x y) := ⟨_, rfl⟩
  rw [← hR] at QT hRl ⊢
  have hlt : ¬ (y : Int) < (x : Int) := by omega
  clear h hL hS hR
  go_enter Tryz.func52, Tryz.ntmps52
  go_wp2_with fail
  rw [z32_h]
  refine (QH.out _ ((nwa w _).alloc _)).mono ?_
  rintro e w1 ⟨rfl, m1⟩
  obtain ⟨⟨l0, l1⟩, b0, b1, n1⟩ := two_made m1
  have c0 := cell2a b0
  have c1 := cell2b b0
  clear m1
  go_wp2_with fail
  refine (QT.out _ n1).mono ?_
  rintro e w3 ⟨rfl, n3⟩
  have j3 := (n3.block _ (heap_lt b1) (fun f => f)).trans b1
  go_wp2_with (refine wp_store_agg rfl (.tmp 4) (.tmp 24) 69 32 rfl Tryz.sizeOf69 (w.heap.size + 1) 0 rfl z32 69 j3 (hbs R) rfl hRl (hbs_one _) (by decide) (hbs R) (by rw [z32_drop]; simp) ?_; intro w4 j4 f4 z4)
  exact bodyPost_ret (results_cell_slot Tryz.results52 Tryz.isAgg69 Tryz.sizeOf69 rfl _ rfl j4 hRl) rfl ⟨rfl, (n1.tr n3).trans f4 (fun k hk q => by omega)⟩
set_option maxRecDepth 100000 in
set_option maxHeartbeats 2000000 in
theorem Tree_out {w : World} (P : Value) (x y : Nat) (er : Addr) (QH : ∀ W, Nw w W → Calls Tryz.prog 97 #[P, .int .u64 (y : Int)] W fun e w' => e = .returned (sen er) ∧ Nw W w') :
    Calls Tryz.prog 52 #[P, sp x y] w fun e w' => e = .returned (.tuple #[.agg (hbs zh), sen er]) ∧ Nw w w' := by
  rw [show zh = List.replicate 32 0 from rfl, ← z32_hbs]
  have QH' := show Hid _ from QH
  clear QH
  go_enter Tryz.func52, Tryz.ntmps52
  go_wp2_with fail
  rw [z32_h]
  refine (QH'.out _ ((nwa w _).alloc _)).mono ?_
  rintro e w1 ⟨rfl, m1⟩
  obtain ⟨⟨l0, l1⟩, b0, b1, n1⟩ := two_made m1
  clear m1
  go_wp2_with (refine wp_store_agg rfl (.tmp 4) (.tmp 13) 69 32 rfl Tryz.sizeOf69 (w.heap.size + 1) 0 rfl z32 69 b1 z32 (congrArg Value.agg z32_h) z32_size z32_one (by decide) z32 (by rw [z32_drop]; simp) ?_; intro w4 j4 f4 z4)
  exact bodyPost_ret (results_cell_slot Tryz.results52 Tryz.isAgg69 Tryz.sizeOf69 rfl (sen er) rfl j4 z32_size) rfl ⟨rfl, n1.trans f4 (fun k hk q => by omega)⟩
set_option maxRecDepth 100000 in
set_option maxHeartbeats 2000000 in
theorem Tree_turned {w : World} {b base : Nat} {v : Value} {L : List ByteArray} (h : Lg w b base v L) (x y : Nat) (hxy : y < x) (hx : x < 18446744073709551616) (hy : y ≤ L.length) {B : Nat} {a : Nat → Addr} (hS : Sent B w a) :
    Calls Tryz.prog 52 #[.pointer (some ⟨b, 0, none⟩), sp x y] w fun e w' => e = .returned (.tuple #[.agg (hbs zh), sen (a 4)]) ∧ Nw w w' := by
  rw [show zh = List.replicate 32 0 from rfl, ← z32_hbs]
  have QH : Hid (∀ W, Nw w W → Calls Tryz.prog 97 #[.pointer (some ⟨b, 0, none⟩), .int .u64 (y : Int)] W fun e w' => e = .returned .nilIface ∧ Nw W w') := fun W hW => by
    have q := has_any (h.nw hW) y (by have := h.len; omega) (hS.fr hW (fun _ _ f => f))
    rw [if_pos hy] at q
    exact q.mono fun e w' h => ⟨h.1, by rw [h.2]; exact nwr W⟩
  have hlt : (y : Int) < (x : Int) := by omega
  have hc4 := hS.c4
  clear h hS
  go_enter Tryz.func52, Tryz.ntmps52
  go_wp2_with fail
  rw [z32_h]
  refine (QH.out _ ((nwa w _).alloc _)).mono ?_
  rintro e w1 ⟨rfl, m1⟩
  obtain ⟨⟨l0, l1⟩, b0, b1, n1⟩ := two_made m1
  have c0 := cell2a b0
  have c1 := cell2b b0
  clear m1
  go_wp2_with fail
  have hc1 := n1.cellOf hc4
  refine wp_region_held_drew (S := fun W => W.cell? ⟨4, 0, none⟩ = some (sen (a 4))) (by kernel_rfl) (Nw.cellOf (Fr.refl (fun _ => False) w1).drew hc1) ?_
  intro hS0
  refine wpAnyH_take (i := 0) (v := .agg z32) rfl (by kernel_rfl) (by kernel_rfl) (by kernel_rfl) (fun _ _ _ h => h) (Or.inl ⟨by rfl, by intro w _; rw [← z32_h]; go_simp⟩) hS0 ?_
  try simp only [Act.put, List.setIfInBounds_toArray, List.set_cons_zero, List.set_cons_succ]
  refine wpAnyH_take (i := 1) (v := sen (a 4)) rfl (by kernel_rfl) (by kernel_rfl) (by kernel_rfl) (fun _ _ _ h => h) (Or.inl ⟨by rfl, by intro w hw; go_simp⟩) hS0 ?_
  try simp only [Act.put, List.setIfInBounds_toArray, List.set_cons_zero, List.set_cons_succ]
  refine wpAnyH_ready (rs := [2]) (by kernel_rfl) (by simp) ?_
  refine AllReadyH.cons rfl (fun K' hK => ?_) AllReadyH.nil
  refine step_store_agg rfl (.tmp 4) (.tmp 20) 69 32 rfl Tryz.sizeOf69 (w.heap.size + 1) 0 rfl z32 69 b1 z32 rfl z32_size z32_one (by decide) z32 (by rw [z32_drop]; simp) ?_
  intro w4 j4 f4 z4
  have n4 : Nw w w4 := n1.drew.trans f4 (fun k hk q => by omega)
  refine hK.out _ _ (n4.cellOf hc4) (fun hS2 => ?_)
  try simp only [Act.put, List.setIfInBounds_toArray, List.set_cons_zero, List.set_cons_succ]
  refine wpAnyH_ready (rs := [3]) (by kernel_rfl) (by simp) ?_
  refine AllReadyH.cons rfl (fun K' hK => ?_) AllReadyH.nil
  go_simp
  refine hK.out _ _ (n4.cellOf hc4) (fun hS3 => ?_)
  refine wpAnyH_done (by kernel_rfl) ?_ _
  go_wp2_with fail
  exact bodyPost_ret (results_cell_slot Tryz.results52 Tryz.isAgg69 Tryz.sizeOf69 rfl (sen (a 4)) rfl j4 z32_size) rfl ⟨rfl, n4⟩
/-- All that Tree answers of a log. -/
def treeA (L : List ByteArray) (a : Nat → Addr) (x y : Nat) : Value := if x ≤ y ∧ y ≤ L.length then .tuple #[.agg (hbs (mth (sbl L x y))), .nilIface] else .tuple #[.agg (hbs zh), sen (a 4)]
theorem Tree_any {w : World} {b base : Nat} {v : Value} {L : List ByteArray} (h : Lg w b base v L) (x y : Nat) (hx : x < 18446744073709551616) (hy : y < 18446744073709551616) (hL : Laid w) {B : Nat} {a : Nat → Addr} (hS : Sent B w a) :
    Calls Tryz.prog 52 #[.pointer (some ⟨b, 0, none⟩), sp x y] w fun e w' => e = .returned (treeA L a x y) ∧ Nw w w' := by
  unfold treeA
  by_cases h1 : y ≤ L.length
  · by_cases h2 : x ≤ y
    · rw [if_pos ⟨h2, h1⟩]
      exact Tree_yes h x y h2 h1 hL hS
    · rw [if_neg (fun q => h2 q.1)]
      exact Tree_turned h x y (by omega) hx h1 hS
  · rw [if_neg (fun q => h1 q.2)]
    refine Tree_out _ x y (a 4) (fun W hW => ?_)
    have q := has_any (h.nw hW) y hy (hS.fr hW (fun _ _ f => f))
    rw [if_neg h1] at q
    exact q.mono fun e w' h => ⟨h.1, by rw [h.2]; exact nwr W⟩
set_option maxRecDepth 100000 in
set_option maxHeartbeats 2000000 in
theorem Root_of {w : World} (P : Value) (n : Nat) (R : List UInt8) (hR : R.length = 32) (er : Value) (QT : ∀ W, Nw w W → Calls Tryz.prog 52 #[P, sp 0 n] W fun e w' => e = .returned (.tuple #[.agg (hbs R), er]) ∧ Nw W w') :
    Calls Tryz.prog 46 #[P, .int .u64 (n : Int)] w fun e w' => e = .returned (.tuple #[.agg (hbs R), er]) ∧ Nw w w' := by
  have hRl : (hbs R).size = 32 := by rw [hbs_size, hR]
  have QT' := show Hid _ from QT
  clear QT
  go_enter Tryz.func46, Tryz.ntmps46
  go_wp2_with fail
  rw [z32_h]
  refine (QT'.out _ (nwa w _)).mono ?_
  rintro e w1 ⟨rfl, m1⟩
  obtain ⟨l0, b0, n1⟩ := one_made m1
  clear m1
  go_wp2_with (refine wp_store_agg rfl (.tmp 4) (.tmp 10) 69 32 rfl Tryz.sizeOf69 w.heap.size 0 rfl z32 69 b0 (hbs R) rfl hRl (hbs_one _) (by decide) (hbs R) (by rw [z32_drop]; simp) ?_; intro w4 j4 f4 z4)
  exact bodyPost_ret (results_cell_slot Tryz.results46 Tryz.isAgg69 Tryz.sizeOf69 rfl er rfl j4 hRl) rfl ⟨rfl, n1.trans f4 (fun k hk q => by omega)⟩
theorem Root_any {w : World} {b base : Nat} {v : Value} {L : List ByteArray} (h : Lg w b base v L) (y : Nat) (hy : y < 18446744073709551616) (hL : Laid w) {B : Nat} {a : Nat → Addr} (hS : Sent B w a) :
    Calls Tryz.prog 46 #[.pointer (some ⟨b, 0, none⟩), .int .u64 (y : Int)] w fun e w' => e = .returned (treeA L a 0 y) ∧ Nw w w' := by
  have QT : ∀ W, Nw w W → _ := fun W hW => Tree_any (h.nw hW) 0 y (by omega) hy (hL.nw hW) (hS.fr hW (fun _ _ f => f))
  unfold treeA at QT ⊢
  by_cases h1 : 0 ≤ y ∧ y ≤ L.length
  · rw [if_pos h1] at QT ⊢
    exact Root_of _ y _ (mth_len _) _ QT
  · rw [if_neg h1] at QT ⊢
    exact Root_of _ y _ (by simp) _ QT
end Go.Proofs.YtjkhcplnedcmeaaGreatDoor
namespace Go.Proofs.YtjkhcplnedcmeaaGreatDoor
open Go.RowKit
set_option linter.unusedVariables false
set_option linter.unusedSimpArgs false

/-- Hashes as cells. -/
def hsc (l : List (List UInt8)) : List Value := l.flatMap bc
theorem hsc_app (l m : List (List UInt8)) : hsc (l ++ m) = hsc l ++ hsc m := by simp [hsc]
theorem hsc_one (h : List UInt8) : hsc [h] = (hbs h).toList := by simp [hsc, hbs]
theorem hsc_len : ∀ (l : List (List UInt8)), (∀ h ∈ l, h.length = 32) → (hsc l).length = l.length * 32
  | [], _ => rfl
  | h :: r, hl => by
    have := hsc_len r (fun x hx => hl x (by simp [hx]))
    have h1 := hl h (by simp)
    simp only [hsc, List.flatMap_cons, List.length_append, bc_len, h1, List.length_cons] at this ⊢
    omega
theorem hsc_get : ∀ (l : List (List UInt8)), (∀ h ∈ l, h.length = 32) → ∀ (k : Nat) (h : List UInt8), l[k]? = some h → ∀ j, j < 32 → (hsc l)[k * 32 + j]? = (bc h)[j]?
  | [], _, k, h, hk, j, hj => by simp at hk
  | x :: r, hl, 0, h, hk, j, hj => by
    simp at hk; subst hk
    have h1 := hl x (by simp)
    simp only [hsc, List.flatMap_cons, Nat.zero_mul, Nat.zero_add]
    rw [List.getElem?_append_left (by rw [bc_len]; omega)]
  | x :: r, hl, k + 1, h, hk, j, hj => by
    have h1 := hl x (by simp)
    have ih := hsc_get r (fun y hy => hl y (by simp [hy])) k h (by simpa using hk) j hj
    simp only [hsc, List.flatMap_cons] at ih ⊢
    rw [List.getElem?_append_right (by rw [bc_len]; omega), bc_len, h1]
    have e : (k + 1) * 32 + j - 32 = k * 32 + j := by omega
    rw [e]; exact ih
theorem fill_fold : ∀ (l : List Value) (k : Nat) (Z : Array Value), Z.size = k + l.length → (l.zipIdx k).foldl (fun (cs : Array Value) (x : Value × Nat) => cs.setIfInBounds (0 + x.2) x.1) Z = (Z.toList.take k ++ l).toArray
  | [], k, Z, h => by
    simp only [List.zipIdx_nil, List.foldl_nil, List.append_nil]
    apply Array.ext'
    simp only [List.length_nil, Nat.add_zero] at h
    rw [List.take_of_length_le (by simp [h])]
  | x :: l, k, Z, h => by
    simp only [List.length_cons] at h
    rw [List.zipIdx_cons, List.foldl_cons, fill_fold l (k + 1) _ (by simp; omega)]
    apply Array.ext'
    simp only [Nat.zero_add, Array.toList_setIfInBounds]
    rw [List.take_add_one, List.take_set_of_le (Nat.le_refl _), List.getElem?_set_self (by simp; omega)]
    simp
theorem infoHs : (Tryz.prog.info? 69).map (fun i => (i.zero, i.size, i.bytes)) = some (some (.agg z32), 32, 32) := by kernel_rfl
theorem build1 (V : Array Value) (hV : V.size = 32) (W : World) : (Instr.buildSlice 45 1 #[(0, .agg V)]).run Tryz.prog W = .ok (.slice (some ⟨W.heap.size, 0, none⟩) 1 1) (W.alloc (.cells V 69)) := by
  obtain ⟨i0, hi, hz0, hz1, hz2⟩ := info_parts infoHs
  have hf : ∀ Z : Array Value, Z.size = 32 → V.zipIdx.foldl (fun (cs : Array Value) (x : Value × Nat) => cs.setIfInBounds (0 + x.2) x.1) Z = V := fun Z hZ => by
    rw [← Array.foldl_toList, Array.toList_zipIdx, fill_fold V.toList 0 Z (by simp; omega)]
    simp
  have hz : ((Array.range 32).map (fun x => z32[x % z32.size]!)).size = 32 := by simp
  have h32 : (Value.agg V).cells.size = 32 := hV
  have := hf _ hz
  simp only [Instr.buildSlice, Sem.run_bind, run_underlying Tryz.underlying45, Tryz.sizeOf69 W, Result.andThen_ok, Sem.run_pure]
  simp [zeroValue, hi, hz0, typeInfo, Instr.fill, Value.cells, hV, z32_size, newRow]
  have hs : V.zipIdx.size = 32 := by simp [hV]
  simp only [Nat.zero_add, z32_size, hs] at this
  rw [this]
/-- A slice literal of one hash that is not written out. -/
theorem wp_build1 {w : World} {ops : Array Oper} {rest : List Oper} {o : Oper} {a : Act} {Q : Exit → Act → World → Prop} (hgd : o.guard = none) (x : Operand) (ho : o.op = .buildSlice 45 1 #[(0, x)]) (V : Array Value) (hx : a.eval x = .agg V) (hV : V.size = 32)
    (h : wpList Tryz.prog ops Q rest (a.put o.dst (.slice (some ⟨w.heap.size, 0, none⟩) 1 1)) (w.alloc (.cells V 69))) : wpList Tryz.prog ops Q (o :: rest) a w := by
  refine wpList_plain hgd fun K hK => ?_
  unfold Oper.wp execOp
  simp only [ho, Sem.run_bind, Sem.run_pure, Result.andThen_ok, List.map_toArray, List.map_cons, List.map_nil, hx, build1 V hV]
  exact hK _ _ h
set_option maxRecDepth 100000 in
set_option maxHeartbeats 1000000 in
theorem is_nilE (x : Addr) (w : World) : Calls Tryz.prog 102 #[.nilIface, sen x] w fun e w' => e = .returned (.bool false) ∧ w' = w := by
  have heq : ∀ W : World, (binOp .eql 34 .nilIface (sen x)).run Tryz.prog W = .ok (.bool false) W := fun W => by kernel_rfl
  go_enter Tryz.func102, Tryz.ntmps102
  go_wp2
  go_ret
  exact ⟨rfl, rfl⟩
theorem hash_new (w : World) (V : Array Value) (t : TypeId) : ∀ j u, V.toList[j]? = some u → (w.alloc (.cells V t)).cell? ((⟨w.heap.size, 0, none⟩ : Addr).add j) = some u := by
  intro j u h
  rw [addZ, cell_of (heap_new w _)]
  simpa using h
theorem hs_hsc (L : List ByteArray) (T : List (Nat × Nat)) (k : Nat) (t : Nat × Nat) (h : T[k]? = some t) : hsc ((T.take (k + 1)).map (hst L)) = hsc ((T.take k).map (hst L)) ++ (hbs (mth (sbl L t.1 t.2))).toList := by
  rw [List.take_add_one, h, Option.toList_some, List.map_append, hsc_app, List.map_singleton, hsc_one]; rfl
set_option maxRecDepth 100000 in
set_option maxHeartbeats 2000000 in
theorem hashes_yes {w : World} {b base : Nat} {v : Value} {L : List ByteArray} (h : Lg w b base v L) (T : List (Nat × Nat)) (hT : ∀ t ∈ T, t.1 ≤ t.2 ∧ t.2 ≤ L.length) (hTl : T.length ≤ 200) (u : Value) (hu : Spn w u T) (hL : Laid w) {B : Nat} {a : Nat → Addr} (hS : Sent B w a) :
    Calls Tryz.prog 104 #[.pointer (some ⟨b, 0, none⟩), u, .nilIface] w fun e w' => ∃ v, e = .returned (.tuple #[v, .nilIface]) ∧ w'.ownsRow w.heap.size 69 32 v T.length (hsc (T.map (hst L))) ∧ Nw w w' := by
  obtain ⟨i0, hi, hz0, hz1, hz2⟩ := info_parts infoHs
  obtain ⟨ad, ca, rfl, hu⟩ := hu
  have HU : Hid (∀ k t, T[k]? = some t → ∃ g off, ad = some ⟨g, off, none⟩ ∧ g < w.heap.size ∧ w.cell? ⟨g, off + k * 2, none⟩ = some (.int .u64 (t.1 : Int)) ∧ w.cell? ⟨g, off + k * 2 + 1, none⟩ = some (.int .u64 (t.2 : Int))) := hu
  have QT : Hid (∀ W x y, Nw w W → (x, y) ∈ T → Calls Tryz.prog 98 #[.pointer (some ⟨b, 0, none⟩), sp x y] W fun e w' => e = .returned (.agg (hbs (mth (sbl L x y)))) ∧ Nw W w') := fun W x y hW hm => tree_any (h.nw hW) x y (hT _ hm).1 (hT _ hm).2 (hL.nw hW)
  have qi := is_nilE (a 4) w
  have c4 := hS.c4
  have HB : Hid (∀ t ∈ T, t.1 ≤ t.2 ∧ t.2 ≤ 1048576) := fun t ht => ⟨(hT t ht).1, Nat.le_trans (hT t ht).2 h.len⟩
  have lb := heap_lt h.blk
  clear h hL hS hu hT
  obtain ⟨n, hn⟩ : ∃ n, n = T.length := ⟨_, rfl⟩
  have HN : Hid (n = T.length) := hn
  rw [← hn] at hTl ⊢
  obtain ⟨wm, hmk, hown, hgr⟩ := run_make_own (P := Tryz.prog) w w.heap.size 45 69 i0 (.agg z32) 32 Tryz.underlying45 hi hz0 hz1 .i64 .i64 n (by rw [hz2]; omega) (by unfold maxLen; omega) (Nat.le_refl _)
  have NM : Hid (Nw w wm) := (Fr.refl _ _).grown hgr (fun k e _ => by cases e)
  have OM : Hid (wm.ownsRow w.heap.size 69 32 (.slice (some ⟨w.heap.size, 0, none⟩) 0 n) 0 []) := hown
  clear hn hown hgr
  go_enter Tryz.func104, Tryz.ntmps104
  go_wp2_with fail
  refine qi.mono ?_
  rintro e w1 ⟨rfl, rfl⟩
  go_wp2_with fail
  go_loopw [8, 23] (fun r i wr => ∃ (k : Nat) (va : Option Addr) (vc : Nat), k ≤ n ∧ r = .slice va k vc ∧ i = .int .i64 k ∧ wr.ownsRow w1.heap.size 69 32 (.slice va k vc) k (hsc ((T.take k).map (hst L))) ∧ Nw w1 wr) (fun _ i _ => n - (intOf i).toNat)
  case atStart => exact ⟨0, _, _, by omega, rfl, rfl, by simpa [hsc] using OM.out, NM.out⟩
  case round =>
    obtain ⟨k, va, vc, hk, rfl, rfl, ho, hnw⟩ := hrel
    have HO : Hid (wr.ownsRow w1.heap.size 69 32 (.slice va k vc) k (hsc ((T.take k).map (hst L)))) := ho
    have HW : Hid (Nw w1 wr) := hnw
    clear ho hnw
    by_cases hlt : k < n
    · obtain ⟨t, ht⟩ : ∃ t, T[k]? = some t := ⟨_, List.getElem?_eq_getElem (by rw [← HN.out]; exact hlt)⟩
      obtain ⟨g, off, had, g1, g2, g3⟩ := HU.out k t ht
      have htm := List.mem_of_getElem? ht
      have hb := HB.out t htm
      have HS := show Hid _ from hs_hsc L T k t ht
      obtain ⟨x, y⟩ := t
      subst had
      have g2' := HW.out.cellOf g2
      have g3' := HW.out.cellOf g3
      have hki : (k : Int) < (n : Int) := by omega
      have gl : g < wr.heap.size := Nat.lt_of_lt_of_le g1 HW.out.size
      have HM : Hid ((x, y) ∈ T) := htm
      clear g2 g3 ht htm
      have hRl : (hbs (mth (sbl L x y))).size = 32 := by rw [hbs_size, mth_len]
      have QR : Hid (∀ W, Nw w1 W → Calls Tryz.prog 98 #[.pointer (some ⟨b, 0, none⟩), sp x y] W fun e w' => e = .returned (.agg (hbs (mth (sbl L x y)))) ∧ Nw W w') := fun W hW => QT.out W x y hW HM.out
      obtain ⟨R, hR⟩ : ∃ R, R = mth (sbl L x y) := ⟨_, rfl⟩
      simp only [← hR] at QR hRl HS
      clear hR hb
      go_wp2_with fail
      refine (QR.out _ (by repeat first | with_reducible exact HW.out | with_reducible refine Fr.alloc ?_ _ | with_reducible refine Fr.drew ?_ | (with_reducible refine Fr.setCell ?_ _ _ (fun h => ?_); rotate_left; focus (simp only at h; omega)))).mono ?_
      rintro e w2 ⟨rfl, n2⟩
      have N2 : Hid (Nw wr w2) := Nw.tr (by repeat first | with_reducible exact nwr wr | with_reducible refine Fr.alloc ?_ _ | with_reducible refine Fr.drew ?_ | (with_reducible refine Fr.setCell ?_ _ _ (fun h => ?_); rotate_left; focus (simp only at h; omega))) n2
      have own2 : Hid ((w2.alloc (.cells (hbs R) 69)).ownsRow w1.heap.size 69 32 (.slice va k vc) k (hsc ((T.take k).map (hst L)))) := (ownsRow_keep HO.out (fun g hg => N2.out.block g (HO.out.lt g hg).2 (fun f => f))).alloc _
      clear n2
      go_wp2_with first
        | refine wp_build1 rfl (.tmp 30) rfl (hbs R) rfl hRl ?_
        | (at_builtin; refine wpList_two _ rfl (.tmp 27) (.tmp 31) 45 rfl w1.heap.size 69 i0 (.agg z32) 32 32 Tryz.underlying45 hi hz0 hz1 hz2 z32_size (by decide) (.slice va k vc) k (hsc ((T.take k).map (hst L))) rfl own2.out ⟨w2.heap.size, 0, none⟩ 1 1 (hbs R).toList rfl (by simp [hRl]) (hash_new _ _ _) (hbs_one _) (by unfold maxLen; omega) (by omega) (by have := HW.out.size; have := N2.out.size; simp; omega) ?_; intro v' w5 o5 t5; have N5 : Hid (Nw w1 w5) := ((HW.out.tr N2.out).alloc _).trans t5.fr (fun j hj q => by have := (HO.out.lt j q).1; omega); rw [← HS.out] at o5; obtain ⟨xa, xc, rfl⟩ := ownsRow_form o5; have O5 : Hid (w5.ownsRow w1.heap.size 69 32 (.slice xa (k + 1) xc) (k + 1) (hsc ((T.take (k + 1)).map (hst L)))) := o5; clear o5 t5)
      exact ⟨⟨k + 1, xa, xc, by omega, rfl, by go_num, O5.out, N5.out⟩, by simp [intOf]; omega⟩
    · obtain rfl : k = n := by omega
      have hkn : ¬ (k : Int) < (k : Int) := by omega
      go_wp2
      have O6 := HO.out
      rw [HN.out, List.take_length, ← HN.out] at O6
      exact bodyPost_ret (v := .tuple #[.slice va k vc, .nilIface]) (by simp [results, Tryz.results104]) rfl ⟨_, rfl, O6, HW.out⟩
end Go.Proofs.YtjkhcplnedcmeaaGreatDoor
namespace Go.Proofs.YtjkhcplnedcmeaaGreatDoor
open Go.RowKit
set_option linter.unusedVariables false
set_option linter.unusedSimpArgs false

theorem pth_fit : ∀ (n i b e : Nat), e - b ≤ n → b ≤ e → ∀ t ∈ pth i b e, b ≤ t.1 ∧ t.1 ≤ t.2 ∧ t.2 ≤ e
  | n, i, b, e, hn, hbe, t, ht => by
    by_cases h : 2 ≤ e - b
    · have h1 := spl_lt h
      have h2 := spl_pos (e - b)
      cases n with
      | zero => omega
      | succ n =>
        by_cases hi : i < b + spl (e - b)
        · rw [pth_left h hi] at ht
          rcases List.mem_append.1 ht with ht | ht
          · have := pth_fit n i b (b + spl (e - b)) (by omega) (by omega) t ht; omega
          · rw [List.mem_singleton.1 ht]; refine ⟨?_, ?_, ?_⟩ <;> simp only <;> omega
        · rw [pth_right h hi] at ht
          rcases List.mem_append.1 ht with ht | ht
          · have := pth_fit n i (b + spl (e - b)) e (by omega) (by omega) t ht; omega
          · rw [List.mem_singleton.1 ht]; refine ⟨?_, ?_, ?_⟩ <;> simp only <;> omega
    · rw [pth_one h] at ht; cases ht
theorem prf_fit : ∀ (n o b e : Nat) (known : Bool), e - b ≤ n → b ≤ e → b < o → o ≤ e → ∀ t ∈ prf o b e known, b ≤ t.1 ∧ t.1 ≤ t.2 ∧ t.2 ≤ e
  | n, o, b, e, known, hn, hbe, hbo, hoe, t, ht => by
    by_cases hq : o = e
    · subst hq
      cases known with
      | true => rw [prf_known] at ht; cases ht
      | false => rw [prf_whole, List.mem_singleton] at ht; rw [ht]; refine ⟨?_, ?_, ?_⟩ <;> simp only <;> omega
    · by_cases h : 2 ≤ e - b
      · have h1 := spl_lt h
        have h2 := spl_pos (e - b)
        cases n with
        | zero => omega
        | succ n =>
          by_cases hi : o ≤ b + spl (e - b)
          · rw [prf_left h hq hi] at ht
            rcases List.mem_append.1 ht with ht | ht
            · have := prf_fit n o b (b + spl (e - b)) known (by omega) (by omega) hbo hi t ht; omega
            · rw [List.mem_singleton.1 ht]; refine ⟨?_, ?_, ?_⟩ <;> simp only <;> omega
          · rw [prf_right h hq hi] at ht
            rcases List.mem_append.1 ht with ht | ht
            · have := prf_fit n o (b + spl (e - b)) e false (by omega) (by omega) (by omega) hoe t ht; omega
            · rw [List.mem_singleton.1 ht]; refine ⟨?_, ?_, ?_⟩ <;> simp only <;> omega
      · omega
theorem bat_fit : ∀ (n x y b e : Nat), e - b ≤ n → b ≤ e → ∀ t ∈ bat x y b e, b ≤ t.1 ∧ t.1 ≤ t.2 ∧ t.2 ≤ e
  | n, x, y, b, e, hn, hbe, t, ht => by
    by_cases h0 : y ≤ b ∨ e ≤ x
    · rw [bat_out h0, List.mem_singleton] at ht; rw [ht]; refine ⟨?_, ?_, ?_⟩ <;> simp only <;> omega
    · by_cases hi : x ≤ b ∧ e ≤ y
      · rw [bat_in h0 hi] at ht; cases ht
      · rw [bat_cut h0 hi] at ht
        by_cases h : 2 ≤ e - b
        · have h1 := spl_lt h
          have h2 := spl_pos (e - b)
          cases n with
          | zero => omega
          | succ n =>
            rcases List.mem_append.1 ht with ht | ht
            · have := bat_fit n x y b (b + spl (e - b)) (by omega) (by omega) t ht; omega
            · have := bat_fit n x y (b + spl (e - b)) e (by omega) (by omega) t ht; omega
        · omega
/-- What Path, Proof, Batch answer: the row of the hashes of some stretches, or an error. -/
def Rowed (w w' : World) (L : List ByteArray) (T : List (Nat × Nat)) (e : Ending) : Prop := ∃ v, e = .returned (.tuple #[v, .nilIface]) ∧ w'.ownsRow w.heap.size 69 32 v T.length (hsc (T.map (hst L))) ∧ Nw w w'
set_option maxHeartbeats 1000000 in
theorem Path_yes {w : World} {b base : Nat} {v : Value} {L : List ByteArray} (h : Lg w b base v L) (i n : Nat) (hc : i < n) (hz : n ≤ L.length) (hL : Laid w) {B : Nat} {a : Nat → Addr} (hS : Sent B w a) :
    Calls Tryz.prog 61 #[.pointer (some ⟨b, 0, none⟩), .int .u64 (i : Int), .int .u64 (n : Int)] w fun e w' => Rowed w w' L (pth i 0 n) e := by
  have hle := h.len
  have qh := has_any h n (by omega) hS
  rw [if_pos hz] at qh
  have qs := path_yes i n hc (by omega) w
  have hlen : (pth i 0 n).length ≤ 200 := by have := pth_len 63 i 0 n (by rw [p63]; omega); omega
  have QH : Hid (∀ w1 u, Nw w w1 → Spn w1 u (pth i 0 n) → Calls Tryz.prog 104 #[.pointer (some ⟨b, 0, none⟩), u, .nilIface] w1 fun e w' => ∃ v, e = .returned (.tuple #[v, .nilIface]) ∧ w'.ownsRow w1.heap.size 69 32 v (pth i 0 n).length (hsc ((pth i 0 n).map (hst L))) ∧ Nw w1 w') := fun w1 u n1 hu => hashes_yes (h.nw n1) _ (fun t ht => by have := pth_fit n i 0 n (by omega) (by omega) t ht; omega) hlen u hu (hL.nw n1) (hS.fr n1 (fun _ _ f => f))
  clear h hL hS
  obtain ⟨T, hT⟩ : ∃ T, T = pth i 0 n := ⟨_, rfl⟩
  rw [← hT] at QH qs hlen ⊢
  clear hT
  go_enter Tryz.func61, Tryz.ntmps61
  go_wp2_with fail
  refine qh.mono ?_
  rintro e w1 ⟨rfl, rfl⟩
  go_wp2_with fail
  refine qs.mono ?_
  rintro e w2 ⟨u, rfl, o2, n2⟩
  have q3 := QH.out w2 u n2 (Spn.of o2)
  obtain ⟨ua, uc, rfl⟩ := ownsRow_form o2
  clear QH o2
  go_wp2_with fail
  refine q3.mono ?_
  rintro e w3 ⟨v3, rfl, o3, n3⟩
  have O3 : Hid (w3.ownsRow w1.heap.size 69 32 v3 T.length (hsc (T.map (hst L)))) := ownsRow_base o3 n2.size
  have N3 : Hid (Nw w1 w3) := n2.tr n3
  obtain ⟨ra, rc, rfl⟩ := ownsRow_form o3
  clear o3 q3 n2 n3
  go_wp2_with fail
  go_ret2
  exact ⟨_, rfl, O3.out, N3.out⟩
set_option maxHeartbeats 1000000 in
theorem Proof_yes {w : World} {b base : Nat} {v : Value} {L : List ByteArray} (h : Lg w b base v L) (i n : Nat) (hc : 0 < i ∧ i ≤ n) (hz : n ≤ L.length) (hL : Laid w) {B : Nat} {a : Nat → Addr} (hS : Sent B w a) :
    Calls Tryz.prog 63 #[.pointer (some ⟨b, 0, none⟩), .int .u64 (i : Int), .int .u64 (n : Int)] w fun e w' => Rowed w w' L (prf i 0 n true) e := by
  have hle := h.len
  have qh := has_any h n (by omega) hS
  rw [if_pos hz] at qh
  have qs := proof_yes i n hc.1 hc.2 (by omega) w
  have hlen : (prf i 0 n true).length ≤ 200 := by have := prf_len 63 i 0 n true (by rw [p63]; omega) hc.1 hc.2; omega
  have QH : Hid (∀ w1 u, Nw w w1 → Spn w1 u (prf i 0 n true) → Calls Tryz.prog 104 #[.pointer (some ⟨b, 0, none⟩), u, .nilIface] w1 fun e w' => ∃ v, e = .returned (.tuple #[v, .nilIface]) ∧ w'.ownsRow w1.heap.size 69 32 v (prf i 0 n true).length (hsc ((prf i 0 n true).map (hst L))) ∧ Nw w1 w') := fun w1 u n1 hu => hashes_yes (h.nw n1) _ (fun t ht => by have := prf_fit n i 0 n true (by omega) (by omega) hc.1 hc.2 t ht; omega) hlen u hu (hL.nw n1) (hS.fr n1 (fun _ _ f => f))
  clear h hL hS
  obtain ⟨T, hT⟩ : ∃ T, T = prf i 0 n true := ⟨_, rfl⟩
  rw [← hT] at QH qs hlen ⊢
  clear hT
  go_enter Tryz.func63, Tryz.ntmps63
  go_wp2_with fail
  refine qh.mono ?_
  rintro e w1 ⟨rfl, rfl⟩
  go_wp2_with fail
  refine qs.mono ?_
  rintro e w2 ⟨u, rfl, o2, n2⟩
  have q3 := QH.out w2 u n2 (Spn.of o2)
  obtain ⟨ua, uc, rfl⟩ := ownsRow_form o2
  clear QH o2
  go_wp2_with fail
  refine q3.mono ?_
  rintro e w3 ⟨v3, rfl, o3, n3⟩
  have O3 : Hid (w3.ownsRow w1.heap.size 69 32 v3 T.length (hsc (T.map (hst L)))) := ownsRow_base o3 n2.size
  have N3 : Hid (Nw w1 w3) := n2.tr n3
  obtain ⟨ra, rc, rfl⟩ := ownsRow_form o3
  clear o3 q3 n2 n3
  go_wp2_with fail
  go_ret2
  exact ⟨_, rfl, O3.out, N3.out⟩
set_option maxHeartbeats 1000000 in
theorem Batch_yes {w : World} {b base : Nat} {v : Value} {L : List ByteArray} (h : Lg w b base v L) (x y n : Nat) (hc : x < y ∧ y ≤ n) (hz : n ≤ L.length) (hL : Laid w) {B : Nat} {a : Nat → Addr} (hS : Sent B w a) :
    Calls Tryz.prog 65 #[.pointer (some ⟨b, 0, none⟩), .int .u64 (x : Int), .int .u64 (y : Int), .int .u64 (n : Int)] w fun e w' => Rowed w w' L (bat x y 0 n) e := by
  have hle := h.len
  have qh := has_any h n (by omega) hS
  rw [if_pos hz] at qh
  have qs := batch_yes x y n hc.1 hc.2 (by omega) w
  have hlen : (bat x y 0 n).length ≤ 200 := by have := bat_len 63 x y 0 n (by rw [p63]; omega); omega
  have QH : Hid (∀ w1 u, Nw w w1 → Spn w1 u (bat x y 0 n) → Calls Tryz.prog 104 #[.pointer (some ⟨b, 0, none⟩), u, .nilIface] w1 fun e w' => ∃ v, e = .returned (.tuple #[v, .nilIface]) ∧ w'.ownsRow w1.heap.size 69 32 v (bat x y 0 n).length (hsc ((bat x y 0 n).map (hst L))) ∧ Nw w1 w') := fun w1 u n1 hu => hashes_yes (h.nw n1) _ (fun t ht => by have := bat_fit n x y 0 n (by omega) (by omega) t ht; omega) hlen u hu (hL.nw n1) (hS.fr n1 (fun _ _ f => f))
  clear h hL hS
  obtain ⟨T, hT⟩ : ∃ T, T = bat x y 0 n := ⟨_, rfl⟩
  rw [← hT] at QH qs hlen ⊢
  clear hT
  go_enter Tryz.func65, Tryz.ntmps65
  go_wp2_with fail
  refine qh.mono ?_
  rintro e w1 ⟨rfl, rfl⟩
  go_wp2_with fail
  refine qs.mono ?_
  rintro e w2 ⟨u, rfl, o2, n2⟩
  have q3 := QH.out w2 u n2 (Spn.of o2)
  obtain ⟨ua, uc, rfl⟩ := ownsRow_form o2
  clear QH o2
  go_wp2_with fail
  refine q3.mono ?_
  rintro e w3 ⟨v3, rfl, o3, n3⟩
  have O3 : Hid (w3.ownsRow w1.heap.size 69 32 v3 T.length (hsc (T.map (hst L)))) := ownsRow_base o3 n2.size
  have N3 : Hid (Nw w1 w3) := n2.tr n3
  obtain ⟨ra, rc, rfl⟩ := ownsRow_form o3
  clear o3 q3 n2 n3
  go_wp2_with fail
  go_ret2
  exact ⟨_, rfl, O3.out, N3.out⟩
end Go.Proofs.YtjkhcplnedcmeaaGreatDoor
