/- The document's cache: a thing is taken out of the list. -/
import Derived.Test.YtgdjoaiahigjpaaGreatDoorRc2
namespace Go.Proofs.YtgdjoaiahigjpaaGreatDoor
namespace RC
open Go.RowKit
set_option linter.unusedVariables false
set_option linter.unusedSimpArgs false
theorem results_cell_slot {P : Program} {w : World} {fn : Func} {i j : Nat} {t : TypeId} {n g : Nat} {tmps : Array Value} {V : Array Value} {ty : TypeId} {f : Nat × Nat} (hr : fn.results = #[.cell i t, .tmp j]) (hagg : ∀ W : World, (isAgg t).run P W = .ok true W) (hsz : ∀ W : World, (sizeOf t).run P W = .ok n W)
    (hx : tmps.getD i undef = .pointer (some ⟨g, 0, none⟩)) (v : Value) (hj : tmps.getD j undef = v) (hg : w.heap[g]? = some (.cells V ty f)) (hV : V.size = n) : (results fn tmps).run P w = .ok (.tuple #[.agg V, v]) w := by
  have hl : (loadCells ⟨g, 0, none⟩ n).run P w = .ok V w := by
    have := run_loadCells_list (P := P) w ⟨g, 0, none⟩ V.toList (fun j v hv => by
      rw [addZ, cell_of hg]
      simpa using hv)
    simpa [hV] using this
  have ha : ∀ W : World, (asAddr (.pointer (some ⟨g, 0, none⟩))).run P W = .ok ⟨g, 0, none⟩ W := fun W => by simp [asAddr]
  have hx2 : tmps[i]?.getD undef = .pointer (some ⟨g, 0, none⟩) := by rw [← hx]; simp [Array.getD]; split <;> simp_all
  have hj2 : tmps[j]?.getD undef = v := by rw [← hj]; simp [Array.getD]; split <;> simp_all
  simp [results, hr, hx2, hj2, ha, loadVar, hagg, hsz, hl]
/-- Items at whatever address, appended to a row of one's own. -/
theorem wpl_part {w : World} {ops : Array Oper} {rest : List Oper} {o : Oper} {a : Act} {Q : Exit → Act → World → Prop} (hgd : o.guard = none) (s x : Operand)
    (ho : o.op = .call { callee := .builtin .append, args := #[s, x], argTypes := #[48, 48] })
    (base : Nat) (v : Value) (A : LT) (hs : a.eval s = v) (hown : w.ownsRow base 84 2 v A.length (flI A)) (ad : Addr) (vc n : Nat) (L : LT) (hx : a.eval x = .slice (some ad) n vc) (hn : n = L.length) (hc : ∀ j u, (flI L)[j]? = some u → w.cell? (ad.add j) = some u) (hl : A.length + L.length ≤ 1000000) (hbase : base ≤ w.heap.size)
    (h : ∀ v' w', w'.ownsRow base 84 2 v' (A ++ L).length (flI (A ++ L)) → Fr (fun k => v.ownBlock = some k) w w' → wpList Tryz.prog ops Q rest (a.put o.dst v') w') :
    wpList Tryz.prog ops Q (o :: rest) a w := by
  subst hn
  refine wpList_plain hgd fun K hK => ?_
  obtain ⟨i0, hi, hz0, hz1, hz2⟩ := IB.info_parts infoI
  obtain ⟨v', w', hr, h2, h3⟩ := run_two w base 48 o.type 84 i0 (.agg #[.int .i64 0, .int .i64 0]) 2 16 Tryz.underlying48 hi hz0 hz1 hz2 rfl (by decide) v A.length (flI A) hown ad L.length vc (flI L) (flI_len L) hc (flI_one L) (by unfold maxLen; omega) (by omega) hbase
  unfold Oper.wp execOp
  simp only [ho, resolve, invoke, builtin, Sem.run_bind, Sem.run_pure, Result.andThen_ok, List.map_toArray, List.map_cons, List.map_nil, hs, hx, hr]
  exact hK _ _ (h v' w' (by rw [List.length_append, flI_app]; exact h2) h3.fr)
set_option maxRecDepth 100000 in
set_option maxHeartbeats 1000000 in
theorem take_yes {W : World} {S : Nat → Prop} {b most : Nat} {A B : LT} {k v : Int} (h : Dc W S b most (A ++ (k, v) :: B)) (hA : ∀ z ∈ A, z.1 ≠ k) (hl : (A ++ (k, v) :: B).length ≤ 2000) :
    Calls Tryz.prog 24 #[.pointer (some ⟨b, 0, none⟩), .int .i64 k] W fun e W' => e = .returned (.tuple #[.agg #[.int .i64 k, .int .i64 v], .bool true]) ∧ Dc W' (fun j => S j ∨ W.heap.size ≤ j) b most (A ++ B) ∧ Fr (fun j => j = b) W W' := by
  obtain ⟨va, vc, hb, hi, hS⟩ := h
  have lb := heap_lt hb
  rcases hi with ⟨_, _, h0⟩ | ⟨g, rfl, hSg, hgb, hg, hnc, hc⟩
  · simp at h0
  obtain ⟨L, hL⟩ : ∃ L, L = A ++ (k, v) :: B := ⟨_, rfl⟩
  rw [← hL] at hb hnc hc hl
  obtain ⟨n, hn⟩ : ∃ n, n = L.length := ⟨_, rfl⟩
  rw [← hn] at hb hnc hl
  obtain ⟨ia, hia⟩ : ∃ n, n = A.length := ⟨_, rfl⟩
  have hin : ia < n := by rw [hia, hn, hL]; simp
  obtain ⟨w1, hw1⟩ : ∃ w1, W.alloc (.cells #[.int .i64 0, .int .i64 0] 84) = w1 := ⟨_, rfl⟩
  have s1 : w1.heap.size = W.heap.size + 1 := by rw [← hw1]; simp
  have n1 : Nw W w1 := by rw [← hw1]; exact (Fr.refl _ _).alloc _
  have bz : w1.heap[W.heap.size]? = some (.cells #[.int .i64 0, .int .i64 0] 84) := by rw [← hw1]; exact heap_new _ _
  have b1 := (n1.block _ lb (fun e => e)).trans hb
  have d1 : w1.cell? ⟨b, 1, none⟩ = some (.slice (some ⟨g, 0, none⟩) n vc) := (cell_of b1 1).trans rfl
  have HCC : Hid (∀ V, Nw w1 V → ∀ j u, (flI L)[j]? = some u → V.cell? ⟨g, j, none⟩ = some u) := fun V nV j u hj => by
    have := (n1.tr nV).cellOf (hc j u hj)
    rw [addO, Nat.zero_add] at this
    exact this
  have HIT : Hid (∀ j x, L[j]? = some x → w1.cell? ⟨g, j * 2, none⟩ = some (.int .i64 x.1) ∧ w1.cell? ⟨g, j * 2 + 1, none⟩ = some (.int .i64 x.2)) := fun j x hx => by
    obtain ⟨q1, q2⟩ := flI_at L j x hx
    exact ⟨HCC.out w1 (Fr.refl _ _) _ _ q1, HCC.out w1 (Fr.refl _ _) _ _ q2⟩
  have HW1 : Hid (W.alloc (.cells #[.int .i64 0, .int .i64 0] 84) = w1) := hw1
  have HS1 : Hid (w1.heap.size = W.heap.size + 1) := s1
  have lb1 : b < w1.heap.size := by omega
  have lz1 : W.heap.size < w1.heap.size := by omega
  have lg1 : g < w1.heap.size := by omega
  have HL : Hid (L = A ++ (k, v) :: B) := hL
  have Hn : Hid (n = L.length) := hn
  have Hia : Hid (ia = A.length) := hia
  have HA : Hid (∀ z ∈ A, z.1 ≠ k) := hA
  have N1 : Hid (Nw W w1) := n1
  have HB : Hid (W.heap[b]? = some (dcc most (.slice (some ⟨g, 0, none⟩) n vc))) := hb
  have BZ : Hid (w1.heap[W.heap.size]? = some (.cells #[.int .i64 0, .int .i64 0] 84)) := bz
  clear hb hc hL hn hia hA n1 bz b1 hw1 s1
  go_enter Tryz.func24, Tryz.ntmps24
  go_wp2
  rw [HW1.out]
  go_loopw [6] (fun v6 wx => ∃ i : Nat, i ≤ ia ∧ v6 = .int .i64 i ∧ w1 = wx) (fun v6 _ => n - (intOf v6).toNat)
  case atStart => exact ⟨0, by omega, rfl, rfl⟩
  case round =>
    obtain ⟨i, hi, rfl, rfl⟩ := hrel
    have hil : (i : Int) < (n : Int) := by omega
    by_cases hlt : i < ia
    · have hget : L[i]? = some (A[i]'(by rw [← Hia.out]; exact hlt)) := by rw [HL.out, List.getElem?_append_left (by rw [← Hia.out]; exact hlt), List.getElem?_eq_getElem]
      have hne := HA.out (A[i]'(by rw [← Hia.out]; exact hlt)) (List.getElem_mem _)
      obtain ⟨e0, e1⟩ := HIT.out i _ hget
      generalize A[i]'(by rw [← Hia.out]; exact hlt) = x at hget hne e0 e1
      have hne2 : (x.1 == k) = false := by simpa using hne
      clear hget
      go_wp2
      exact ⟨⟨i + 1, by omega, by go_num, trivial⟩, by simp [intOf]; omega⟩
    · obtain rfl : i = ia := by omega
      have hget : L[i]? = some (k, v) := by rw [HL.out, Hia.out, List.getElem?_append_right (Nat.le_refl _)]; simp
      obtain ⟨e0, e1⟩ := HIT.out i _ hget
      have hkk : (k == k) = true := by simp
      clear hget
      have hs1 : i ≤ vc := by omega
      have hs2 : i + 1 ≤ n := by omega
      have hs3 : n ≤ vc := hnc
      obtain ⟨w2, hw2⟩ : ∃ w2, w1.alloc (.cells #[.int .i64 k, .int .i64 v] 84) = w2 := ⟨_, rfl⟩
      have n2 : Nw w1 w2 := by rw [← hw2]; exact (Fr.refl _ _).alloc _
      have bq : w2.heap[w1.heap.size]? = some (.cells #[.int .i64 k, .int .i64 v] 84) := by rw [← hw2]; exact heap_new _ _
      have s2 : w2.heap.size = w1.heap.size + 1 := by rw [← hw2]; simp
      have HA1 : Hid (∀ j u, (flI A)[j]? = some u → w2.cell? ((⟨g, 0, none⟩ : Addr).add j) = some u) := fun j u hj => by
        rw [addO, Nat.zero_add]
        refine HCC.out w2 n2 j u ?_
        rw [HL.out, flI_app, List.getElem?_append_left (List.getElem?_eq_some_iff.1 hj).1]; exact hj
      have HB1 : Hid (∀ V, Nw w1 V → ∀ j u, (flI B)[j]? = some u → V.cell? ((⟨g, (i + 1) * 2, none⟩ : Addr).add j) = some u) := fun V nV j u hj => by
        rw [addO]
        refine HCC.out V nV _ u ?_
        have e : flI L = (flI A ++ [.int .i64 k, .int .i64 v]) ++ flI B := by rw [HL.out, flI_app]; simp [flI]
        rw [e, List.getElem?_append_right (by simp [flI_len, Hia.out]; omega)]
        simp only [List.length_append, flI_len, List.length_cons, List.length_nil, ← Hia.out]
        rw [show (i + 1) * 2 + j - (i * 2 + 2) = j by omega]; exact hj
      have HNB : Hid (n - (i + 1) = B.length) := by show _ = _; rw [Hn.out, HL.out, Hia.out]; simp; omega
      have HW2 : Hid (w1.alloc (.cells #[.int .i64 k, .int .i64 v] 84) = w2) := hw2
      have HN2 : Hid (Nw w1 w2) := n2
      have HBQ : Hid (w2.heap[w1.heap.size]? = some (.cells #[.int .i64 k, .int .i64 v] 84)) := bq
      have HS2 : Hid (w2.heap.size = w1.heap.size + 1) := s2
      clear hw2 n2 bq s2
      have HLA : Hid (A.length + B.length ≤ 2000) := by have := Hn.out; rw [HL.out] at this; simp at this; show _ ≤ _; omega
      have HFIN : Hid (∀ v3 w3 v4 w4, Nw w2 w3 → w3.ownsRow w2.heap.size 84 2 v3 ([] ++ A).length (flI ([] ++ A)) → w4.ownsRow w2.heap.size 84 2 v4 ([] ++ A ++ B).length (flI ([] ++ A ++ B)) → Fr (fun k => v3.ownBlock = some k) w3 w4 → (∃ xa xc, v4 = .slice xa (A.length + B.length) xc) ∧ (((w4.setCell ⟨b, 1, none⟩ v4).setCell ⟨W.heap.size, 0, none⟩ (.int .i64 k)).setCell ⟨W.heap.size, 1, none⟩ (.int .i64 v)).heap[W.heap.size]? = some (.cells #[.int .i64 k, .int .i64 v] 84) ∧ w4.heap[b]? = some (dcc most (.slice (some ⟨g, 0, none⟩) n vc)) ∧ w4.heap[W.heap.size]? = some (.cells #[.int .i64 0, .int .i64 0] 84) ∧ w4.heap[w1.heap.size]? = some (.cells #[.int .i64 k, .int .i64 v] 84) ∧ Dc (((w4.setCell ⟨b, 1, none⟩ v4).setCell ⟨W.heap.size, 0, none⟩ (.int .i64 k)).setCell ⟨W.heap.size, 1, none⟩ (.int .i64 v)) (fun j => S j ∨ W.heap.size ≤ j) b most (A ++ B) ∧ Fr (fun j => j = b) W (((w4.setCell ⟨b, 1, none⟩ v4).setCell ⟨W.heap.size, 0, none⟩ (.int .i64 k)).setCell ⟨W.heap.size, 1, none⟩ (.int .i64 v))) := by
        intro v3 w3 v4 w4 n3 o3 o4 f4
        rw [List.nil_append] at o4
        have hs1 := HS1.out
        have hs2 := HS2.out
        have hs3 := n3.size
        have hv3 : ∀ q, v3.ownBlock = some q → w2.heap.size ≤ q := fun q hq => (o3.lt q hq).1
        have fw : Fr (fun q => w2.heap.size ≤ q) w2 w4 := (n3.mono (S' := fun q => w2.heap.size ≤ q) (fun _ _ e => e.elim)).trans f4 (fun q _ e => hv3 q e)
        have b4 : w4.heap[b]? = some (dcc most (.slice (some ⟨g, 0, none⟩) n vc)) := (fw.block b (by omega) (by omega)).trans ((HN2.out.block b (by omega) (fun e => e)).trans ((N1.out.block b lb (fun e => e)).trans HB.out))
        have z4 := (fw.block W.heap.size (by omega) (by omega)).trans ((HN2.out.block W.heap.size (by omega) (fun e => e)).trans BZ.out)
        have q4 := (fw.block w1.heap.size (by omega) (by omega)).trans HBQ.out
        obtain ⟨xa, xc, rfl, iw⟩ := Iw.own (b := b) (S := fun q => w2.heap.size ≤ q) (L := A ++ B) o4 (by omega) (fun q hq => hq)
        have fW : Fr (fun j => j = b) W w4 := ((N1.out.tr HN2.out).mono (S' := fun j => j = b) (fun _ _ e => e.elim)).trans fw (fun q hq e => by omega)
        refine ⟨⟨xa, xc, by rw [List.length_append]⟩, ?_, b4, z4, q4, ⟨xa, xc, ?_, ?_, .inl hS⟩, ((fW.setCell _ _ (fun _ => rfl)).setCell _ _ (fun h => by simp only at h; omega)).setCell _ _ (fun h => by simp only at h; omega)⟩
        · have z5 := (heap_set_ne (w := w4) (o := 1) (show W.heap.size ≠ b by omega) (.slice xa (A ++ B).length xc)).trans z4
          rw [heap_set (heap_set z5 _)]
          rfl
        · have hne : b ≠ W.heap.size := by omega
          rw [heap_set_ne hne, heap_set_ne hne, heap_set b4]; rfl
        · refine Iw.mono (S := fun q => w2.heap.size ≤ q) ?_ (fun q _ h => .inr (by omega))
          refine iw.fr (T := fun j => j = b ∨ j = W.heap.size) ((((Fr.refl _ _).setCell _ _ (fun _ => .inl rfl)).setCell _ _ (fun _ => .inr rfl)).setCell _ _ (fun _ => .inr rfl)) ?_
          intro q _ hq hqb e
          rcases e with e | e
          · exact hqb e
          · omega
      by_cases hr : vc = i + 1
      · have hr1 : vc - (i + 1) = 0 := by omega
        have HB0 : Hid (B = []) := List.length_eq_zero_iff.1 (by have := HNB.out; omega)
        clear hr
        go_wp2_with (at_builtin; first | (rw [HW2.out]; refine wpl_part rfl (.tmp 35) (.tmp 41) rfl w2.heap.size (.slice none 0 0) [] rfl (World.ownsRow_nil w2 _ _ _) ⟨g, 0, none⟩ vc i A rfl Hia.out HA1.out (by have := HLA.out; simp; omega) (Nat.le_refl _) ?_; intro v3 w3 o3 f3; have O3 : Hid (w3.ownsRow w2.heap.size 84 2 v3 ([] ++ A).length (flI ([] ++ A))) := o3; have F3 : Hid (Nw w2 w3) := f3.mono (fun j hj e => by cases e); have d3 := (HN2.out.tr F3.out).cellOf d1; have lb3 : b < w3.heap.size := Nat.lt_of_lt_of_le lb1 (HN2.out.tr F3.out).size; clear o3 f3) | (refine wpl_part rfl (.tmp 44) (.tmp 51) rfl w2.heap.size v3 ([] ++ A) rfl O3.out ⟨g, 0, none⟩ 0 (n - (i + 1)) B rfl HNB.out (fun j u hj => by rw [HB0.out] at hj; simp [flI] at hj) (by have := HLA.out; simp; omega) F3.out.size ?_; intro v4 w4 o4 f4; have HX : Hid _ := HFIN.out v3 w3 v4 w4 F3.out O3.out o4 f4; obtain ⟨⟨xa, xc, rfl⟩, _, b4, z4, q4, _⟩ := HX.out; have m1 : w4.cell? ⟨b, 1, none⟩ = some (.slice (some ⟨g, 0, none⟩) n vc) := (cell_of b4 1).trans rfl; have m2 := frozen_of b4 1; have m3 := heap_lt b4; have m4 : w4.cell? ⟨w1.heap.size, 0, none⟩ = some (.int .i64 k) := (cell_of q4 0).trans rfl; have m5 : w4.cell? ⟨w1.heap.size, 1, none⟩ = some (.int .i64 v) := (cell_of q4 1).trans rfl; have m6 := frozen_of z4 0; have m7 := frozen_of z4 1; have m8 : w4.cell? ⟨W.heap.size, 0, none⟩ = some (.int .i64 0) := (cell_of z4 0).trans rfl; have m9 : w4.cell? ⟨W.heap.size, 1, none⟩ = some (.int .i64 0) := (cell_of z4 1).trans rfl; clear o4 f4 b4 z4 q4 d3 lb3))
        exact bodyPost_ret (results_cell_slot Tryz.results24 Tryz.isAgg84 Tryz.sizeOf84 rfl _ rfl HX.out.2.1 rfl) rfl ⟨rfl, HX.out.2.2.2.2.2⟩
      · have hr1 : ¬ vc - (i + 1) = 0 := by omega
        clear hr
        go_wp2_with (at_builtin; first | (rw [HW2.out]; refine wpl_part rfl (.tmp 35) (.tmp 41) rfl w2.heap.size (.slice none 0 0) [] rfl (World.ownsRow_nil w2 _ _ _) ⟨g, 0, none⟩ vc i A rfl Hia.out HA1.out (by have := HLA.out; simp; omega) (Nat.le_refl _) ?_; intro v3 w3 o3 f3; have O3 : Hid (w3.ownsRow w2.heap.size 84 2 v3 ([] ++ A).length (flI ([] ++ A))) := o3; have F3 : Hid (Nw w2 w3) := f3.mono (fun j hj e => by cases e); have d3 := (HN2.out.tr F3.out).cellOf d1; have lb3 : b < w3.heap.size := Nat.lt_of_lt_of_le lb1 (HN2.out.tr F3.out).size; clear o3 f3) | (refine wpl_part rfl (.tmp 44) (.tmp 51) rfl w2.heap.size v3 ([] ++ A) rfl O3.out ⟨g, (i + 1) * 2, none⟩ (vc - (i + 1)) (n - (i + 1)) B rfl HNB.out (HB1.out w3 (HN2.out.tr F3.out)) (by have := HLA.out; simp; omega) F3.out.size ?_; intro v4 w4 o4 f4; have HX : Hid _ := HFIN.out v3 w3 v4 w4 F3.out O3.out o4 f4; obtain ⟨⟨xa, xc, rfl⟩, _, b4, z4, q4, _⟩ := HX.out; have m1 : w4.cell? ⟨b, 1, none⟩ = some (.slice (some ⟨g, 0, none⟩) n vc) := (cell_of b4 1).trans rfl; have m2 := frozen_of b4 1; have m3 := heap_lt b4; have m4 : w4.cell? ⟨w1.heap.size, 0, none⟩ = some (.int .i64 k) := (cell_of q4 0).trans rfl; have m5 : w4.cell? ⟨w1.heap.size, 1, none⟩ = some (.int .i64 v) := (cell_of q4 1).trans rfl; have m6 := frozen_of z4 0; have m7 := frozen_of z4 1; have m8 : w4.cell? ⟨W.heap.size, 0, none⟩ = some (.int .i64 0) := (cell_of z4 0).trans rfl; have m9 : w4.cell? ⟨W.heap.size, 1, none⟩ = some (.int .i64 0) := (cell_of z4 1).trans rfl; clear o4 f4 b4 z4 q4 d3 lb3))
        exact bodyPost_ret (results_cell_slot Tryz.results24 Tryz.isAgg84 Tryz.sizeOf84 rfl _ rfl HX.out.2.1 rfl) rfl ⟨rfl, HX.out.2.2.2.2.2⟩
set_option maxRecDepth 100000 in
set_option maxHeartbeats 1000000 in
theorem take_no {W : World} {S : Nat → Prop} {b most : Nat} {L : LT} {k : Int} (h : Dc W S b most L) (hA : ∀ z ∈ L, z.1 ≠ k) (hl : L.length ≤ 2000) :
    Calls Tryz.prog 24 #[.pointer (some ⟨b, 0, none⟩), .int .i64 k] W fun e W' => e = .returned (.tuple #[.agg #[.int .i64 0, .int .i64 0], .bool false]) ∧ Nw W W' := by
  obtain ⟨va, vc, hb, hi, hS⟩ := h
  have lb := heap_lt hb
  obtain ⟨n, hn⟩ : ∃ n, n = L.length := ⟨_, rfl⟩
  rw [← hn] at hb hl
  obtain ⟨w1, hw1⟩ : ∃ w1, W.alloc (.cells #[.int .i64 0, .int .i64 0] 84) = w1 := ⟨_, rfl⟩
  have s1 : w1.heap.size = W.heap.size + 1 := by rw [← hw1]; simp
  have n1 : Nw W w1 := by rw [← hw1]; exact (Fr.refl _ _).alloc _
  have bz : w1.heap[W.heap.size]? = some (.cells #[.int .i64 0, .int .i64 0] 84) := by rw [← hw1]; exact heap_new _ _
  have b1 := (n1.block _ lb (fun e => e)).trans hb
  have d1 : w1.cell? ⟨b, 1, none⟩ = some (.slice va n vc) := (cell_of b1 1).trans rfl
  have HIT : Hid (∀ j x, L[j]? = some x → ∃ g, va = some ⟨g, 0, none⟩ ∧ w1.cell? ⟨g, j * 2, none⟩ = some (.int .i64 x.1)) := fun j x hx => by
    obtain ⟨g, e, q1, q2⟩ := (hi.fr n1 (fun _ _ _ _ e => e)).cell hx
    exact ⟨g, e, q1⟩
  have z0 : w1.cell? ⟨W.heap.size, 0, none⟩ = some (.int .i64 0) := (cell_of bz 0).trans rfl
  have z1 : w1.cell? ⟨W.heap.size, 1, none⟩ = some (.int .i64 0) := (cell_of bz 1).trans rfl
  have z2 := frozen_of bz 0
  have z3 := frozen_of bz 1
  have HW1 : Hid (W.alloc (.cells #[.int .i64 0, .int .i64 0] 84) = w1) := hw1
  have HS1 : Hid (w1.heap.size = W.heap.size + 1) := s1
  have lb1 : b < w1.heap.size := by omega
  have lz1 : W.heap.size < w1.heap.size := by omega
  have Hn : Hid (n = L.length) := hn
  have HA : Hid (∀ z ∈ L, z.1 ≠ k) := hA
  have N1 : Hid (Nw W w1) := n1
  have BZ : Hid (w1.heap[W.heap.size]? = some (.cells #[.int .i64 0, .int .i64 0] 84)) := bz
  clear hb hi hn hA n1 bz b1 hw1 s1
  go_enter Tryz.func24, Tryz.ntmps24
  go_wp2
  rw [HW1.out]
  go_loopw [6] (fun v6 wx => ∃ i : Nat, i ≤ n ∧ v6 = .int .i64 i ∧ w1 = wx) (fun v6 _ => n - (intOf v6).toNat)
  case atStart => exact ⟨0, by omega, rfl, rfl⟩
  case round =>
    obtain ⟨i, hi, rfl, rfl⟩ := hrel
    by_cases hlt : i < n
    · have hil : (i : Int) < (n : Int) := by omega
      have hget : L[i]? = some (L[i]'(by rw [← Hn.out]; exact hlt)) := List.getElem?_eq_getElem _
      have hne := HA.out (L[i]'(by rw [← Hn.out]; exact hlt)) (List.getElem_mem _)
      obtain ⟨g, rfl, e0⟩ := HIT.out i _ hget
      generalize L[i]'(by rw [← Hn.out]; exact hlt) = x at hget hne e0
      have hne2 : (x.1 == k) = false := by simpa using hne
      clear hget
      go_wp2
      exact ⟨⟨i + 1, by omega, by go_num, trivial⟩, by simp [intOf]; omega⟩
    · have hil : ¬ (i : Int) < (n : Int) := by omega
      go_wp2
      exact bodyPost_ret (results_cell_slot Tryz.results24 Tryz.isAgg84 Tryz.sizeOf84 rfl _ rfl ((heap_set (heap_set BZ.out _) _).trans rfl) rfl) rfl ⟨rfl, (N1.out.setCell _ _ (fun h => by simp only at h; omega)).setCell _ _ (fun h => by simp only at h; omega)⟩
end RC
end Go.Proofs.YtgdjoaiahigjpaaGreatDoor
