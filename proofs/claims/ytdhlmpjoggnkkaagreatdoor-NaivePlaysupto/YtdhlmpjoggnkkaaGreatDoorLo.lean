/- NaivePlays: a script that came in. -/
import Derived.Test.YtdhlmpjoggnkkaaGreatDoorLt
import Derived.Test.YtdhlmpjoggnkkaaGreatDoorV6
import Derived.Deep.Slices
namespace Go.Proofs.YtdhlmpjoggnkkaaGreatDoor
open Go.RowKit Go.ChangeShapes Go.WideShapes Go.ChangeAt
set_option linter.unusedVariables false
set_option linter.unusedSimpArgs false
theorem bulk_one {H : Type} (d : DataW H) : 1 ≤ Rows.uptoBulk d := by
  cases d with
  | lit l => cases l <;> simp [Rows.uptoBulk]
  | nil => simp [Rows.uptoBulk]
  | ptr d => simp [Rows.uptoBulk]
  | slice e s => simp [Rows.uptoBulk]
  | agg l => simp [Rows.uptoBulk]
  | iface n d => simp [Rows.uptoBulk]
  | map l => simp [Rows.uptoBulk]
  | held h => simp [Rows.uptoBulk]
theorem bulk_len {H : Type} : ∀ l : List (DataW H), l.length ≤ Rows.uptoBulkAll l
  | [] => by simp
  | d :: r => by
    have h1 := bulk_len r
    have h2 := bulk_one d
    simp only [Rows.uptoBulkAll, List.length_cons]
    omega
theorem bulk_mem {H : Type} : ∀ {l : List (DataW H)} {d : DataW H}, d ∈ l → Rows.uptoBulk d ≤ Rows.uptoBulkAll l
  | x :: l, d, hd => by
    simp only [Rows.uptoBulkAll]
    rcases List.mem_cons.1 hd with rfl | hd
    · omega
    · have := bulk_mem hd; omega
  | [], d, hd => by simp at hd
theorem cellsO : Tryz.prog.cellsOf 53 = 6 := by kernel_rfl
instance : Inhabited Od := ⟨⟨0, 0, ⟨#[]⟩, 0, 0, 0⟩⟩
theorem cellsI : Tryz.prog.cellsOf 3 = 1 := by kernel_rfl
theorem cellsU : Tryz.prog.cellsOf 51 = 1 := by kernel_rfl
set_option maxRecDepth 100000 in
theorem op_of {H : Type} {enc : TypeId × Value → H} {W : World} {m : Nat} {cs : List Value} {x : DataW H × List MemPlace} (h : DataW.trod enc Tryz.prog W 0 (fun _ => true) true m 53 cs = some x) (hbk : Rows.uptoBulk x.1 ≤ 1048576) : ∃ o : Od, cs = o.c.toList ∧ o.ok := by
  obtain ⟨xs, n, _, hx, hl, hxl, hf⟩ := DataW.trod_struct Tryz.underlying53 h
  rw [cellsO] at hl
  have h0 : DataW.trod enc Tryz.prog W 0 (fun _ => true) true n 3 ((cs.drop 0).take (Tryz.prog.cellsOf 3)) = xs[0]? := hf 0 _ rfl
  have h1 : DataW.trod enc Tryz.prog W 0 (fun _ => true) true n 3 ((cs.drop 1).take (Tryz.prog.cellsOf 3)) = xs[1]? := hf 1 _ rfl
  have h2 : DataW.trod enc Tryz.prog W 0 (fun _ => true) true n 9 ((cs.drop 2).take (Tryz.prog.cellsOf 9)) = xs[2]? := hf 2 _ rfl
  have h3 : DataW.trod enc Tryz.prog W 0 (fun _ => true) true n 51 ((cs.drop 3).take (Tryz.prog.cellsOf 51)) = xs[3]? := hf 3 _ rfl
  have h4 : DataW.trod enc Tryz.prog W 0 (fun _ => true) true n 51 ((cs.drop 4).take (Tryz.prog.cellsOf 51)) = xs[4]? := hf 4 _ rfl
  have h5 : DataW.trod enc Tryz.prog W 0 (fun _ => true) true n 51 ((cs.drop 5).take (Tryz.prog.cellsOf 51)) = xs[5]? := hf 5 _ rfl
  rw [cellsI] at h0 h1
  rw [cells1S] at h2
  rw [cellsU] at h3 h4 h5
  have hxl' : xs.length = 6 := hxl
  rw [List.getElem?_eq_getElem (show 0 < xs.length by omega)] at h0
  rw [List.getElem?_eq_getElem (show 1 < xs.length by omega)] at h1
  rw [List.getElem?_eq_getElem (show 2 < xs.length by omega)] at h2
  rw [List.getElem?_eq_getElem (show 3 < xs.length by omega)] at h3
  rw [List.getElem?_eq_getElem (show 4 < xs.length by omega)] at h4
  rw [List.getElem?_eq_getElem (show 5 < xs.length by omega)] at h5
  obtain ⟨K, hK, _, wK⟩ := DataW.trod_int Tryz.underlying3 h0
  obtain ⟨O, hO, _, wO⟩ := DataW.trod_int Tryz.underlying3 h1
  obtain ⟨S, hS, eS, wS⟩ := DataW.trod_string Tryz.underlying9 h2
  obtain ⟨X, hX, _, wX⟩ := DataW.trod_int Tryz.underlying51 h3
  obtain ⟨Y, hY, _, wY⟩ := DataW.trod_int Tryz.underlying51 h4
  obtain ⟨Z, hZ, _, wZ⟩ := DataW.trod_int Tryz.underlying51 h5
  have bK : -9223372036854775808 ≤ K ∧ K ≤ 9223372036854775807 := by simpa [Lit.wf, IntKind.min, IntKind.max, IntKind.signed, IntKind.bits] using wK
  have bO : -9223372036854775808 ≤ O ∧ O ≤ 9223372036854775807 := by simpa [Lit.wf, IntKind.min, IntKind.max, IntKind.signed, IntKind.bits] using wO
  have bX : 0 ≤ X ∧ X ≤ 18446744073709551615 := by simpa [Lit.wf, IntKind.min, IntKind.max, IntKind.signed, IntKind.bits] using wX
  have bY : 0 ≤ Y ∧ Y ≤ 18446744073709551615 := by simpa [Lit.wf, IntKind.min, IntKind.max, IntKind.signed, IntKind.bits] using wY
  have bZ : 0 ≤ Z ∧ Z ≤ 18446744073709551615 := by simpa [Lit.wf, IntKind.min, IntKind.max, IntKind.signed, IntKind.bits] using wZ
  have hsl : S.size < 9223372036854775807 := by
    have hx1 : x.1 = .agg (xs.map (·.1)) := by rw [hx]
    rw [hx1] at hbk
    have hm : (DataW.lit (.string S.data.toList) : DataW H) ∈ xs.map (·.1) := List.mem_map.2 ⟨xs[2], List.getElem_mem _, by rw [eS]⟩
    have h6 := bulk_mem hm
    have h7 : S.data.toList.length = S.size := by rw [Array.length_toList]; rfl
    simp only [Rows.uptoBulk] at hbk h6
    omega
  obtain ⟨X, rfl⟩ : ∃ m : Nat, X = m := ⟨X.toNat, by omega⟩
  obtain ⟨Y, rfl⟩ : ∃ m : Nat, Y = m := ⟨Y.toNat, by omega⟩
  obtain ⟨Z, rfl⟩ : ∃ m : Nat, Z = m := ⟨Z.toNat, by omega⟩
  have lX : X < 18446744073709551616 := by omega
  have lY : Y < 18446744073709551616 := by omega
  have lZ : Z < 18446744073709551616 := by omega
  have hok : Od.ok ⟨K, O, S, X, Y, Z⟩ := ⟨bK.1, bK.2, bO.1, bO.2, hsl, lX, lY, lZ⟩
  refine ⟨⟨K, O, S, X, Y, Z⟩, ?_, hok⟩
  match cs, hl, hK, hO, hS, hX, hY, hZ with
  | [x0, x1, x2, x3, x4, x5], _, hK, hO, hS, hX, hY, hZ =>
    simp at hK hO hS hX hY hZ
    simp [Od.c, opc, hK, hO, hS, hX, hY, hZ]
theorem ops_of {H : Type} {enc : TypeId × Value → H} {W : World} {v : Value} {d : DataW H} {p : List MemPlace} (hv : ∃ a l c, v = .slice a l c) (h : DataW.Trod enc Tryz.prog W 0 (fun _ => true) true 22 v d p) (hbk : Rows.uptoBulk d ≤ 1048576) :
    ∃ a c n A, v = .slice a n c ∧ Opl W a n A ∧ n ≤ 1048576 := by
  obtain ⟨fuel, hf⟩ := h
  obtain ⟨a0, l0, c0, rfl⟩ := hv
  rcases Deep.open_slice Tryz.underlying22 hf with ⟨hcs, _⟩ | ⟨a, len, cap, m, n, D, Pl, hcs, _, hl, hm, hmm, hx, hel⟩
  · simp [Value.cells] at hcs
    obtain ⟨rfl, rfl, rfl⟩ := hcs
    exact ⟨none, 0, 0, fun _ => ⟨0, 0, ⟨#[]⟩, 0, 0, 0⟩, rfl, fun i hi => absurd hi (by omega), by omega⟩
  · simp [Value.cells] at hcs
    obtain ⟨rfl, rfl, rfl⟩ := hcs
    simp only [if_true] at hmm
    subst hmm
    rw [cellsO] at hel
    have hxd : d = .slice ((List.range l0).map D) ((List.range (m - l0)).map fun j => D (l0 + j)) := congrArg Prod.fst hx
    have hch : ∀ i, i < l0 → ∃ o : Od, (∀ j, j < 6 → W.cell? ((a.add (i * 6)).add j) = o.c[j]?) ∧ o.ok := by
      intro i hi
      obtain ⟨cs, hc, htr⟩ := hel i (by omega)
      obtain ⟨o, hoc, hok⟩ := op_of htr (by
        have hm := bulk_mem (List.mem_map.2 ⟨i, List.mem_range.2 hi, rfl⟩ : D i ∈ (List.range l0).map D)
        rw [hxd] at hbk
        simp only [Rows.uptoBulk] at hbk
        show Rows.uptoBulk (D i) ≤ 1048576
        omega)
      unfold World.cells? at hc
      rw [if_pos (Nat.zero_le _)] at hc
      exact ⟨o, fun j hj => by rw [← Array.getElem?_toList, ← hoc]; exact mapM_some_get hc j j (by simp [hj]), hok⟩
    obtain ⟨f, hfun⟩ := Deep.choose_lt hch
    refine ⟨some a, m, l0, f, rfl, fun i hi => ⟨(hfun i hi).2, ?_⟩, ?_⟩
    · have hc0 := (hfun 0 (by omega)).1 0 (by omega)
      obtain ⟨g, off, spot⟩ := a
      have hspot : spot = none := by
        have : (f 0).c[0]? = some (.int .i64 (f 0).who) := rfl
        rw [this] at hc0
        simpa [Addr.add] using World.cell?_spot hc0
      subst hspot
      refine ⟨g, off, rfl, fun j hj => ?_⟩
      have := (hfun i hi).1 j hj
      rw [addO, addO] at this
      exact this
    · rw [hxd] at hbk
      have h1 := bulk_len ((List.range l0).map D)
      simp only [List.length_map, List.length_range] at h1
      simp only [Rows.uptoBulk] at hbk
      omega
end Go.Proofs.YtdhlmpjoggnkkaaGreatDoor
