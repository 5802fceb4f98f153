/- What is put to a writer changes its own two blocks alone, or new ones. -/
import Derived.Test.YtebbgpnhkpbefaaDoorcX1
import Derived.Test.YtebbgpnhkpbefaaDoorcW3
import Derived.Test.YtebbgpnhkpbefaaDoorcW4
namespace Go.Proofs.YtebbgpnhkpbefaaDoor
open Go.RowKit Go.Lib
set_option linter.unusedVariables false
set_option linter.unusedSimpArgs false

/-- The writer's own block, and the one of its bytes. -/
def WP (b : Nat) (v : Value) : Nat → Prop := fun k => k = b ∨ v.ownBlock = some k
section
variable {P : Program}
theorem wpList_append_wn {w : World} {ops : Array Oper} {rest : List Oper} {o : Oper} {a : Act} {Q : Exit → Act → World → Prop} (hgd : o.guard = none) (s x : Operand) (t : TypeId)
    (ho : o.op = .call { callee := .builtin .append, args := #[s, x], argTypes := #[t, t] })
    (base : Nat) (e : TypeId) (i : TypeInfo) (z : Value) (ht : P.underlying t = some (.slice e)) (hi : P.info? e = some i) (hz : i.zero = some z) (hsize : i.size = 1) (hby : i.bytes = 1) (hzs : z.cells.size = 1)
    (v : Value) (n : Nat) (xs : List Value) (hs : a.eval s = v) (hown : w.ownsRow base e 1 v n xs)
    (ad : Addr) (m c : Nat) (news : List Value) (hx : a.eval x = .slice (some ad) m c) (hl : news.length = m) (hnews : ∀ j u, news[j]? = some u → w.cell? (ad.add j) = some u) (h1 : ∀ u ∈ news, u.oneCell' = true)
    (h63 : n + m ≤ maxLen) (hbytes : n + m ≤ 140737488355328) (hbase : base ≤ w.heap.size)
    (h : ∀ v' w', w'.ownsRow base e 1 v' (n + m) (xs ++ news) → w.grownBy w' v.ownBlock → WN w v v' → wpList P ops Q rest (a.put o.dst v') w') : wpList P ops Q (o :: rest) a w := by
  refine wpList_plain hgd fun K hK => ?_
  obtain ⟨v', w', hr, h2, h3, _⟩ := run_append_own (P := P) w base t o.type e i z 1 1 ht hi hz hsize hby hzs (by decide) v n xs hown ad m c news (by simpa using hl) hnews h1 h63 (by simpa using hbytes) hbase
  have hwn := append_wn w base t t o.type e i z ht hi hz hsize hby v n xs hown _ m news (Src.ofSlice w ht ad m c news (by rw [hsize]; simpa using hl) hnews h1) h63 hbytes hr
  unfold Oper.wp execOp
  simp only [ho, resolve, invoke, builtin, Sem.run_bind, Sem.run_pure, Result.andThen_ok, List.map_toArray, List.map_cons, List.map_nil, hs, hx, hr]
  exact hK _ _ (h v' w' h2 h3 hwn)
theorem wpList_append_wnS {w : World} {ops : Array Oper} {rest : List Oper} {o : Oper} {a : Act} {Q : Exit → Act → World → Prop} (hgd : o.guard = none) (sl x : Operand) (t u : TypeId)
    (ho : o.op = .call { callee := .builtin .append, args := #[sl, x], argTypes := #[t, u] })
    (base : Nat) (e : TypeId) (i : TypeInfo) (ht : P.underlying t = some (.slice e)) (hu : P.underlying u = some .string) (hi : P.info? e = some i) (hz : i.zero = some (.int .u8 0)) (hsize : i.size = 1) (hby : i.bytes = 1)
    (v : Value) (n : Nat) (xs : List Value) (hs : a.eval sl = v) (hown : w.ownsRow base e 1 v n xs) (s : ByteArray) (hx : a.eval x = .string s)
    (h63 : n + s.size ≤ maxLen) (hbytes : n + s.size ≤ 140737488355328) (hbase : base ≤ w.heap.size)
    (h : ∀ v' w', w'.ownsRow base e 1 v' (n + s.size) (xs ++ strCells s) → w.grownBy w' v.ownBlock → WN w v v' → wpList P ops Q rest (a.put o.dst v') w') : wpList P ops Q (o :: rest) a w := by
  refine wpList_plain hgd fun K hK => ?_
  obtain ⟨v', w', hr, h2, h3, _⟩ := run_append_own_string (P := P) w base t u o.type e i ht hu hi hz hsize hby v n xs hown s h63 hbytes hbase
  have hwn := append_wn w base t u o.type e i (.int .u8 0) ht hi hz hsize hby v n xs hown _ s.size (Go.byteCells s) (by rw [hsize]; exact Src.ofString w hu s) h63 hbytes hr
  unfold Oper.wp execOp
  simp only [ho, resolve, invoke, builtin, Sem.run_bind, Sem.run_pure, Result.andThen_ok, List.map_toArray, List.map_cons, List.map_nil, hs, hx, hr]
  exact hK _ _ (h v' w' h2 h3 hwn)
theorem step_append_wn {ops : Array Oper} {o : Oper} {a : Act} {w : World} {K : Act → World → Prop} {Q : Exit → Act → World → Prop} {E : Prop}
    (hg : o.guard = none) (s x : Operand) (t : TypeId) (hop : o.op = Op.call { callee := Callee.builtin Builtin.append, args := #[s, x], argTypes := #[t, t] })
    (base : Nat) (e : TypeId) (i : TypeInfo) (z : Value) (ht : P.underlying t = some (.slice e)) (hi : P.info? e = some i) (hz : i.zero = some z) (hsize : i.size = 1) (hby : i.bytes = 1) (hzs : z.cells.size = 1)
    (v : Value) (n : Nat) (xs : List Value) (hs : a.eval s = v) (hown : w.ownsRow base e 1 v n xs)
    (ad : Addr) (m c : Nat) (news : List Value) (hx : a.eval x = .slice (some ad) m c) (hl : news.length = m) (hnews : ∀ j u, news[j]? = some u → w.cell? (ad.add j) = some u) (h1 : ∀ u ∈ news, u.oneCell' = true)
    (h63 : n + m ≤ maxLen) (hbytes : n + m ≤ 140737488355328) (hbase : base ≤ w.heap.size)
    (hK : ∀ v' w', w'.ownsRow base e 1 v' (n + m) (xs ++ news) → w.grownBy w' v.ownBlock → WN w v v' → K (a.put o.dst v') w') :
    if Region.wanted o (yielded ops a.tmps) = true then Oper.wp P o a w K Q else E := by
  have hw : Region.wanted o (yielded ops a.tmps) = true := by simp [Region.wanted, hg]
  rw [if_pos hw]
  obtain ⟨v', w', hr, h2, h3, _⟩ := run_append_own (P := P) w base t o.type e i z 1 1 ht hi hz hsize hby hzs (by decide) v n xs hown ad m c news (by simpa using hl) hnews h1 h63 (by simpa using hbytes) hbase
  have hwn := append_wn w base t t o.type e i z ht hi hz hsize hby v n xs hown _ m news (Src.ofSlice w ht ad m c news (by rw [hsize]; simpa using hl) hnews h1) h63 hbytes hr
  unfold Oper.wp execOp
  simp only [hop, resolve, invoke, builtin, Sem.run_bind, Sem.run_pure, Result.andThen_ok, List.map_toArray, List.map_cons, List.map_nil, hs, hx, hr]
  exact hK _ _ h2 h3 hwn
end
/-- Behind an append to its bytes, and the store. -/
theorem Wr.putp {w w0 w1 : World} {b : Nat} {v v' : Value} {l xs : List UInt8} {n : Nat} (h : Wr w b v l) (hw : Fr (fun _ => False) w w0) (ho : w1.ownsRow (b + 1) 5 1 v' n (bc l ++ bc xs)) (hn : n = l.length + xs.length) (hg : w0.grownBy w1 v.ownBlock) (hwn : WN w0 v v') :
    Wr (w1.setCell ⟨b, 1, none⟩ v') b v' (l ++ xs) ∧ Fr (WP b v) w (w1.setCell ⟨b, 1, none⟩ v') ∧ WN w v v' := by
  refine ⟨(h.put hw ho hn hg).1, ((hw.mono (fun _ _ f => f.elim)).grown hg (fun k e _ => .inr e)).setCell _ _ (fun _ => .inl rfl), ?_⟩
  rcases hwn with hwn | hwn
  · exact .inl hwn
  · exact .inr (fun g e => Nat.le_trans hw.size (hwn g e))
theorem WN.up {w w1 : World} {v v1 : Value} (h : WN w1 v v1) (hs : w.heap.size ≤ w1.heap.size) : WN w v v1 := by
  rcases h with h | h
  · exact .inl h
  · exact .inr (fun g e => Nat.le_trans hs (h g e))
/-- One after the other. -/
theorem WN.trans {w w1 : World} {v v1 v2 : Value} (h : WN w v v1) (h2 : WN w1 v1 v2) (hs : w.heap.size ≤ w1.heap.size) : WN w v v2 := by
  rcases h2 with h2 | h2
  · rcases h with h | h
    · exact .inl (h2.trans h)
    · exact .inr (fun g e => h g (by rw [← h2]; exact e))
  · exact .inr (fun g e => Nat.le_trans hs (h2 g e))
theorem WP.trans {w w1 w2 : World} {b : Nat} {v v1 : Value} (h : Fr (WP b v) w w1) (hn : WN w v v1) (h2 : Fr (WP b v1) w1 w2) : Fr (WP b v) w w2 :=
  h.trans h2 (fun k hk q => by
    rcases q with q | q
    · exact .inl q
    · rcases hn with hn | hn
      · exact .inr (by rw [← hn]; exact q)
      · have := hn k q; omega)

set_option maxRecDepth 100000 in
set_option maxHeartbeats 1000000 in
theorem xvar (b : Nat) (v : Value) (l : List UInt8) (N : Nat) (w : World) (h : Wr w b v l) (hN : N < 18446744073709551616) (hl : l.length ≤ 1000000000000) :
    Calls Tryd.prog 35 #[.pointer (some ⟨b, 0, none⟩), .int .u64 N] w fun e w' => e = .returned (.tuple #[]) ∧ ∃ v', Wr w' b v' (l ++ varB N) ∧ Fr (WP b v) w w' ∧ WN w v v' := by
  have h0 := (cell_of h.blk 0).trans (show _ = some (Value.bool true) from rfl)
  have hten := varB_ten N hN
  obtain ⟨i0, hi, hz0, hz1, hz2⟩ := info_parts8
  go_enter Tryd.func35, Tryd.ntmps35
  go_wp2_with (go_at_call 58; refine (there_yes b _ h0).mono ?_; rintro e w' ⟨rfl, rfl⟩)
  go_loopw [1] (fun n w1 => ∃ (m : Nat) (v1 : Value) (l1 : List UInt8), n = .int .u64 m ∧ m ≤ N ∧ Wr w1 b v1 l1 ∧ l1 ++ varB m = l ++ varB N ∧ Fr (WP b v) w' w1 ∧ WN w' v v1) (fun n _ => (RowKit.intOf n).toNat)
  case atStart => exact ⟨N, v, l, rfl, Nat.le_refl _, h, rfl, Fr.refl _ _, .inl rfl⟩
  case round =>
    obtain ⟨m, v1, l1, rfl, hm, h1, hll, hf, hwn⟩ := hrel
    have HL : Hid (l1 ++ varB m = l ++ varB N) := hll
    have hlen : l1.length ≤ 1000000000010 := by have := congrArg List.length hll; simp only [List.length_append] at this; omega
    clear hll
    have c1 := (cell_of h1.blk 1).trans (show _ = some v1 from rfl)
    have hbs := h1.blk
    have hsz := heap_lt hbs
    clear hbs
    by_cases hlt : m < 128
    · have HB : Hid (varB m = [UInt8.ofNat m]) := varB_lt hlt
      go_wp2_with (at_builtin; refine wpList_append_wn rfl _ _ 53 rfl (b + 1) 5 i0 (.int .u8 0) Tryd.underlying53 hi hz0 hz1 hz2 rfl _ _ _ rfl (h1.own.alloc _) ⟨wr.heap.size, 0, none⟩ 1 1 [.int .u8 (m : Int)] rfl rfl (one_new _ _ _) (by simp [Value.oneCell']) (by unfold maxLen; omega) (by omega) (by simp; omega) ?_; intro v' w1 hown' hgrow hwn'; obtain ⟨ga, gk, gc, rfl⟩ := ownsRow_form hown'; obtain ⟨hq1, hq2⟩ := h1.at1 ((Fr.refl _ _).alloc _) hgrow)
      obtain ⟨hw, hfr, hn2⟩ := h1.putp (xs := [UInt8.ofNat m]) ((Fr.refl _ _).alloc _) (by rw [u8_of m (by omega)] at hown'; exact hown') rfl hgrow hwn'
      go_end0
      exact ⟨rfl, _, by rw [← HL.out, HB.out]; exact hw, WP.trans hf hwn hfr, hwn.trans hn2 hf.size⟩
    · go_wp2_with (at_builtin; refine wpList_append_wn rfl _ _ 53 rfl (b + 1) 5 i0 (.int .u8 0) Tryd.underlying53 hi hz0 hz1 hz2 rfl _ _ _ rfl (h1.own.alloc _) ⟨wr.heap.size, 0, none⟩ 1 1 [.int .u8 _] rfl rfl (one_new _ _ _) (by simp [Value.oneCell']) (by unfold maxLen; omega) (by omega) (by simp; omega) ?_; intro v' w1 hown' hgrow hwn'; obtain ⟨ga, gk, gc, rfl⟩ := ownsRow_form hown'; obtain ⟨hq1, hq2⟩ := h1.at1 ((Fr.refl _ _).alloc _) hgrow)
      go_roundw
      case rel =>
        have e8 := var_byte m (by omega)
        rw [e8] at hown'
        obtain ⟨hw, hfr, hn2⟩ := h1.putp (xs := [UInt8.ofNat (m % 128 + 128)]) ((Fr.refl _ _).alloc _) hown' rfl hgrow hwn'
        exact ⟨m / 128, _, _, by go_num, by omega, hw, by rw [List.append_assoc, ← HL.out, varB_ge hlt]; rfl, WP.trans hf hwn hfr, hwn.trans hn2 hf.size⟩
      case measure => simp [RowKit.intOf]; omega

set_option maxRecDepth 100000 in
set_option maxHeartbeats 1000000 in
theorem xtext (b : Nat) (v : Value) (l : List UInt8) (s : ByteArray) (w : World) (h : Wr w b v l) (hs : s.size ≤ 70000000000000) (hl : l.length ≤ 1000000000000) :
    Calls Tryd.prog 37 #[.pointer (some ⟨b, 0, none⟩), .string s] w fun e w' => e = .returned (.tuple #[]) ∧ ∃ v', Wr w' b v' (l ++ (varB s.size ++ s.data.toList)) ∧ Fr (WP b v) w w' ∧ WN w v v' := by
  have h0 := (cell_of h.blk 0).trans (show _ = some (Value.bool true) from rfl)
  have hten := varB_ten s.size (by omega)
  obtain ⟨i0, hi, hz0, hz1, hz2⟩ := info_parts8
  go_enter Tryd.func37, Tryd.ntmps37
  go_wp2_with (first
    | (go_at_call 58; refine (there_yes b _ h0).mono ?_; rintro e w' ⟨rfl, rfl⟩)
    | (go_at_call 35; refine (xvar b v l s.size _ h (by omega) hl).mono ?_; rintro e w2 ⟨rfl, v2, h2, hf2, hn2⟩; have c1 := (cell_of h2.blk 1).trans (show _ = some v2 from rfl); have hsz := heap_lt h2.blk; have hlen : (l ++ varB s.size).length ≤ 1000000000010 := by simp only [List.length_append]; omega)
    | (at_builtin; refine wpList_append_wnS rfl _ _ 53 9 rfl (b + 1) 5 i0 Tryd.underlying53 Tryd.underlying9 hi hz0 hz1 hz2 _ _ _ rfl h2.own s rfl (by unfold maxLen; omega) (by omega) (by omega) ?_; intro v' w1 hown' hgrow hwn'; obtain ⟨ga, gk, gc, rfl⟩ := ownsRow_form hown'; obtain ⟨hq1, hq2⟩ := h2.at1 (Fr.refl _ _) hgrow))
  obtain ⟨hw, hfr, hn3⟩ := h2.putp (xs := s.data.toList) (Fr.refl _ _) (by rw [strCells_bc] at hown'; exact hown') (by simp) hgrow hwn'
  go_end0
  exact ⟨rfl, _, by rw [← List.append_assoc]; exact hw, WP.trans hf2 hn2 hfr, hn2.trans hn3 hf2.size⟩


set_option maxRecDepth 100000 in
set_option maxHeartbeats 1000000 in
theorem xfixed_yes (b : Nat) (v : Value) (l : List UInt8) (n width : Nat) (w : World) (h : Wr w b v l) (hn : n < 18446744073709551616) (h1 : 1 ≤ width) (h8 : width ≤ 8) (hf : n < 256 ^ width) (hl : l.length ≤ 1000000000000) :
    Calls Tryd.prog 36 #[.pointer (some ⟨b, 0, none⟩), .int .u64 n, .int .i64 width] w fun e w' => e = .returned .nilIface ∧ ∃ v', Wr w' b v' (l ++ fixB width n) ∧ Fr (WP b v) w w' ∧ WN w v v' := by
  have h0 := (cell_of h.blk 0).trans (show _ = some (Value.bool true) from rfl)
  obtain ⟨i0, hi, hz0, hz1, hz2⟩ := info_parts8
  have hfd : decide (n < 256 ^ width) = true := decide_eq_true hf
  have hfits := fits_any n width w hn h1 h8
  rw [hfd] at hfits
  clear hfd
  go_enter Tryd.func36, Tryd.ntmps36
  go_wp2_with (first
    | (go_at_call 58; refine (there_yes b _ h0).mono ?_; rintro e w' ⟨rfl, rfl⟩)
    | (go_at_call 48; refine (mayBe_yes width _ (by omega) (by omega)).mono ?_; rintro e w' ⟨rfl, rfl⟩)
    | (go_at_call 59; refine hfits.mono ?_; rintro e w' ⟨rfl, rfl⟩))
  go_loopw [7] (fun i w1 => ∃ (k : Nat) (v1 : Value) (l1 : List UInt8), i = .int .i64 ((k : Int) - 1) ∧ k ≤ width ∧ Wr w1 b v1 l1 ∧ l1 ++ fixB k n = l ++ fixB width n ∧ l1.length + k = l.length + width ∧ Fr (WP b v) w' w1 ∧ WN w' v v1) (fun i _ => (RowKit.intOf i + 1).toNat)
  case atStart => exact ⟨width, v, l, by go_num, Nat.le_refl _, h, rfl, rfl, Fr.refl _ _, .inl rfl⟩
  case round =>
    obtain ⟨k, v1, l1, rfl, hk, hw1, hll, hlen, hf1, hwn⟩ := hrel
    have HL : Hid (l1 ++ fixB k n = l ++ fixB width n) := hll
    clear hll
    have c1 := (cell_of hw1.blk 1).trans (show _ = some v1 from rfl)
    have hsz := heap_lt hw1.blk
    rcases k with _ | k
    · go_wp2
      go_ret
      exact ⟨rfl, v1, by rw [← HL.out]; simpa [fixB] using hw1, hf1, hwn⟩
    · have hge : 0 ≤ ((k + 1 : Nat) : Int) - 1 := by omega
      have hk7 : k ≤ 7 := by omega
      have hsh := fix_shift n k hk7
      go_wp2
      go_region_law (refine step_append_wn rfl _ _ 53 rfl (b + 1) 5 i0 (.int .u8 0) Tryd.underlying53 hi hz0 hz1 hz2 rfl _ _ _ rfl (hw1.own.alloc _) ⟨wr.heap.size, 0, none⟩ 1 1 [.int .u8 _] rfl rfl (one_new _ _ _) (by simp [Value.oneCell']) (by unfold maxLen; omega) (by omega) (by simp; omega) ?_; intro v' w2 hown' hgrow hwn'; obtain ⟨ga, gk, gc, rfl⟩ := ownsRow_form hown'; obtain ⟨hq1, hq2⟩ := hw1.at1 (((Fr.refl _ wr).alloc _).drew) hgrow)
      all_goals try go_wp2
      all_goals
        go_roundw
        case rel =>
          have e8 := fix_byte n k
          rw [e8] at hown'
          obtain ⟨hw2, hfr, hn2⟩ := hw1.putp (xs := [UInt8.ofNat (n / 256 ^ k)]) (((Fr.refl _ wr).alloc _).drew) hown' rfl hgrow hwn'
          refine ⟨k, _, _, by go_num, by omega, hw2, by rw [List.append_assoc, ← HL.out]; rfl, by simp; omega, WP.trans hf1 hwn hfr, hwn.trans hn2 hf1.size⟩
        case measure => simp [RowKit.intOf]

end Go.Proofs.YtebbgpnhkpbefaaDoor
