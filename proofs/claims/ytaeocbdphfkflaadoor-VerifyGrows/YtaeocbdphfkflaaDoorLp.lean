/- What came in: two numbers, two hashes, a row. -/
import Derived.Test.YtaeocbdphfkflaaDoorLax
import Derived.Test.YtaeocbdphfkflaaDoorAo
import Derived.Deep.Slices
import Derived.SizedLaws
namespace Go.Proofs.YtaeocbdphfkflaaDoor
open Go.RowKit Go.ChangeShapes Go.WideShapes Go.ChangeAt
set_option linter.unusedVariables false
set_option linter.unusedSimpArgs false
theorem cellsHsV : Tryd.prog.cellsOf 25 = 1 := by kernel_rfl
theorem cellsU6V : Tryd.prog.cellsOf 22 = 1 := by kernel_rfl
/-- Hashes that came in within something else. -/
theorem hashes_inV {H : Type} {enc : TypeId × Value → H} {W : World} {m0 : Nat} {x : Value} {y : DataW H × List MemPlace} (h : DataW.trod enc Tryd.prog W 0 (fun _ => true) true m0 25 [x] = some y) :
    ∃ (L : List (List UInt8)) (ad : Option Addr) (cap : Nat), x = .slice ad L.length cap ∧ L.length ≤ cap ∧ Hrs W ad L ∧ (∀ x ∈ L, x.length = 32) ∧ ((∀ q ∈ y.1.weights Tryd.prog 25, q ≤ reachBytes) → L.length ≤ reachBytes) := by
  rcases Deep.open_slice Tryd.underlying25 h with ⟨hcs, _⟩ | ⟨a, l0, cap, m, n, D, Pl, hcs, _, hl, hm, hmm, hx, hel⟩
  · simp at hcs
    subst hcs
    exact ⟨[], none, 0, rfl, by simp, fun k h hk => by simp at hk, by simp, by simp⟩
  · simp at hcs
    subst hcs
    simp only [if_true] at hmm
    subst hmm
    rw [cellsH] at hel
    have hch : ∀ i, i < l0 → ∃ A : List UInt8, (∀ j, j < 32 → W.cell? ((a.add (i * 32)).add j) = (hbs A)[j]?) ∧ A.length = 32 := by
      intro i hi
      obtain ⟨cs, hc, htr⟩ := hel i (by omega)
      obtain ⟨A, hoc, hok⟩ := hashc_of htr
      unfold World.cells? at hc
      rw [if_pos (Nat.zero_le _)] at hc
      exact ⟨A, fun j hj => by rw [← Array.getElem?_toList, ← hoc]; exact mapM_some_get hc j j (by simp [hj]), hok⟩
    obtain ⟨f, hfun⟩ := Deep.choose_lt hch
    have hb1 : Tryd.prog.bytesOf 24 = 32 := by kernel_rfl
    refine ⟨(List.range l0).map f, some a, m, by simp, by simp; omega, fun k h hk => ?_, fun x hx => ?_, fun hw => ?_⟩
    · have hkl : k < l0 := by
        have := (List.getElem?_eq_some_iff.1 hk).1
        simpa using this
      have hfk : f k = h := by simpa [hkl] using hk
      have hc0 := (hfun 0 (by omega)).1 0 (by omega)
      obtain ⟨g, off, spot⟩ := a
      have hspot : spot = none := by
        rw [hbs_get _ 0 (by rw [(hfun 0 (by omega)).2]; omega)] at hc0
        simpa [Addr.add] using World.cell?_spot hc0
      subst hspot
      refine ⟨g, off, rfl, fun j hj => ?_⟩
      have := (hfun k hkl).1 j hj
      rw [addO, addO, hfk] at this
      exact this
    · obtain ⟨i, hi, rfl⟩ := List.mem_map.1 hx
      exact (hfun i (List.mem_range.1 hi)).2
    · have hxd : y.1 = .slice _ _ := congrArg Prod.fst hx
      have h1 := hw ((l0 + (m - l0)) * 32) (by rw [hxd]; simp [DataW.weights, Tryd.underlying25, hb1])
      simp only [List.length_map, List.length_range]
      omega
theorem u64_ofV {a : Int} (w : (Lit.int .u64 a).wf = true) : ∃ n : Nat, a = (n : Int) ∧ n < 18446744073709551616 := by
  have h : 0 ≤ a ∧ a ≤ 18446744073709551615 := by simpa [Lit.wf, IntKind.min, IntKind.max, IntKind.signed, IntKind.bits] using w
  exact ⟨a.toNat, by omega, by omega⟩
theorem pieces5 (cs : List Value) (h : cs.length = 67) : cs = (cs.drop 0).take 1 ++ ((cs.drop 1).take 1 ++ ((cs.drop 2).take 32 ++ ((cs.drop 34).take 32 ++ (cs.drop 66).take 1))) := by
  have e4 : (cs.drop 66).take 1 = cs.drop 66 := List.take_of_length_le (by simp [h])
  have e3 : (cs.drop 34).take 32 ++ cs.drop 66 = cs.drop 34 := by
    have := List.take_append_drop 32 (cs.drop 34)
    rwa [List.drop_drop] at this
  have e2 : (cs.drop 2).take 32 ++ cs.drop 34 = cs.drop 2 := by
    have := List.take_append_drop 32 (cs.drop 2)
    rwa [List.drop_drop] at this
  have e1 : (cs.drop 1).take 1 ++ cs.drop 2 = cs.drop 1 := by
    have := List.take_append_drop 1 (cs.drop 1)
    rwa [List.drop_drop] at this
  have e0 : (cs.drop 0).take 1 ++ cs.drop 1 = cs := by
    have := List.take_append_drop 1 (cs.drop 0)
    rwa [List.drop_drop] at this
  rw [e4, e3, e2, e1, e0]
theorem cells_path : Tryd.prog.cellsOf 27 = 67 := by kernel_rfl
set_option maxRecDepth 100000 in
set_option maxHeartbeats 1000000 in
theorem path_of {H : Type} {enc : TypeId × Value → H} {W : World} {r : Reach} {b0 : Nat} {v : Value} {d : DataW H} {p : List MemPlace} (hv : Value.okWide Tryd.prog W r b0 27 v) (h : DataW.Trod enc Tryd.prog W 0 (fun _ => true) true 27 v d p) {ts : List TypeId} {ds : List (DataW H)} (hsz : (DataW.weightsEach Tryd.prog ts ds).all (· ≤ reachBytes) = true) (j : Nat) (ht : ts[j]? = some 27) (hd : ds[j]? = some d) :
    ∃ (i n : Nat) (A C : List UInt8) (L : List (List UInt8)) (ad : Option Addr) (cap : Nat), v = .agg (pcs i n A C (.slice ad L.length cap)) ∧ i < 18446744073709551616 ∧ n < 18446744073709551616 ∧ A.length = 32 ∧ C.length = 32 ∧ L.length ≤ cap ∧ Hrs W ad L ∧ (∀ x ∈ L, x.length = 32) ∧ L.length < 4611686018427387904 := by
  simp only [Value.okWide, Tryd.underlying27] at hv
  obtain ⟨arr, rfl, hn, _⟩ := hv
  obtain ⟨fuel, hf0⟩ := h
  obtain ⟨xs, n, _, hx, hl, hxl, hf⟩ := DataW.trod_struct Tryd.underlying27 hf0
  rw [cells_path] at hl
  obtain ⟨cs, hcs⟩ : ∃ cs, cs = (Value.agg arr).cells.toList := ⟨_, rfl⟩
  have hca : cs = arr.toList := by rw [hcs]; rfl
  rw [← hcs] at hl hf
  have hxd : d = .agg (xs.map (·.1)) := congrArg Prod.fst hx
  have h0 : DataW.trod enc Tryd.prog W 0 (fun _ => true) true n 22 ((cs.drop 0).take (Tryd.prog.cellsOf 22)) = xs[0]? := hf 0 _ rfl
  have h1 : DataW.trod enc Tryd.prog W 0 (fun _ => true) true n 22 ((cs.drop 1).take (Tryd.prog.cellsOf 22)) = xs[1]? := hf 1 _ rfl
  have h2 : DataW.trod enc Tryd.prog W 0 (fun _ => true) true n 24 ((cs.drop 2).take (Tryd.prog.cellsOf 24)) = xs[2]? := hf 2 _ rfl
  have h3 : DataW.trod enc Tryd.prog W 0 (fun _ => true) true n 24 ((cs.drop 34).take (Tryd.prog.cellsOf 24)) = xs[3]? := hf 3 _ rfl
  have h4 : DataW.trod enc Tryd.prog W 0 (fun _ => true) true n 25 ((cs.drop 66).take (Tryd.prog.cellsOf 25)) = xs[4]? := hf 4 _ rfl
  rw [cellsU6V] at h0 h1
  rw [cellsH] at h2 h3
  rw [cellsHsV] at h4
  have hp := pieces5 cs hl
  have hxl' : xs.length = 5 := hxl
  match xs, hxl', h0, h1, h2, h3, h4, hxd with
  | [y0, y1, y2, y3, y4], _, h0, h1, h2, h3, h4, hxd =>
    have h0 := h0.trans (show _ = some y0 from rfl)
    have h1 := h1.trans (show _ = some y1 from rfl)
    have h2 := h2.trans (show _ = some y2 from rfl)
    have h3 := h3.trans (show _ = some y3 from rfl)
    have h4 := h4.trans (show _ = some y4 from rfl)
    obtain ⟨X0, hX0, _, wX0⟩ := DataW.trod_int Tryd.underlying22 h0
    obtain ⟨X1, hX1, _, wX1⟩ := DataW.trod_int Tryd.underlying22 h1
    obtain ⟨A, hA, hA32⟩ := hashc_of h2
    obtain ⟨C, hC, hC32⟩ := hashc_of h3
    obtain ⟨z, hz⟩ : ∃ z, (cs.drop 66).take 1 = [z] := by
      have hlen : ((cs.drop 66).take 1).length = 1 := by simp [hl]
      match (cs.drop 66).take 1, hlen with
      | [z], _ => exact ⟨z, rfl⟩
    rw [hz] at h4
    obtain ⟨L, ad, cap, hL, hlc, hrs, h32, hlb⟩ := hashes_inV h4
    obtain ⟨m0, rfl, b0'⟩ := u64_ofV wX0
    obtain ⟨m1, rfl, b1'⟩ := u64_ofV wX1
    have hlen := hlb (fun q hq => by
      have hq2 : q ∈ d.weights Tryd.prog 27 := by
        rw [hxd]
        simp only [DataW.weights, Tryd.underlying27]
        show q ∈ DataW.weightsEach Tryd.prog [22, 22, 24, 24, 25] [y0.1, y1.1, y2.1, y3.1, y4.1]
        simp only [DataW.weightsEach]
        exact List.mem_append_right _ (List.mem_append_right _ (List.mem_append_right _ (List.mem_append_right _ (List.mem_append_left _ hq))))
      have := List.all_eq_true.1 hsz _ (DataW.weights_mem_each ht hd q hq2)
      simpa using this)
    have h5 := reachBytes_lt
    refine ⟨m0, m1, A, C, L, ad, cap, ?_, b0', b1', hA32, hC32, hlc, hrs, h32, by omega⟩
    congr 1
    apply Array.ext'
    rw [← hca, hp, hX0, hX1, hA, hC, hz, hL]
    simp [pcs]
theorem cells_proof : Tryd.prog.cellsOf 45 = 67 := by kernel_rfl
set_option maxRecDepth 100000 in
set_option maxHeartbeats 1000000 in
theorem proof_of {H : Type} {enc : TypeId × Value → H} {W : World} {r : Reach} {b0 : Nat} {v : Value} {d : DataW H} {p : List MemPlace} (hv : Value.okWide Tryd.prog W r b0 45 v) (h : DataW.Trod enc Tryd.prog W 0 (fun _ => true) true 45 v d p) {ts : List TypeId} {ds : List (DataW H)} (hsz : (DataW.weightsEach Tryd.prog ts ds).all (· ≤ reachBytes) = true) (j : Nat) (ht : ts[j]? = some 45) (hd : ds[j]? = some d) :
    ∃ (i n : Nat) (A C : List UInt8) (L : List (List UInt8)) (ad : Option Addr) (cap : Nat), v = .agg (pcs i n A C (.slice ad L.length cap)) ∧ i < 18446744073709551616 ∧ n < 18446744073709551616 ∧ A.length = 32 ∧ C.length = 32 ∧ L.length ≤ cap ∧ Hrs W ad L ∧ (∀ x ∈ L, x.length = 32) ∧ L.length < 4611686018427387904 := by
  simp only [Value.okWide, Tryd.underlying45] at hv
  obtain ⟨arr, rfl, hn, _⟩ := hv
  obtain ⟨fuel, hf0⟩ := h
  obtain ⟨xs, n, _, hx, hl, hxl, hf⟩ := DataW.trod_struct Tryd.underlying45 hf0
  rw [cells_proof] at hl
  obtain ⟨cs, hcs⟩ : ∃ cs, cs = (Value.agg arr).cells.toList := ⟨_, rfl⟩
  have hca : cs = arr.toList := by rw [hcs]; rfl
  rw [← hcs] at hl hf
  have hxd : d = .agg (xs.map (·.1)) := congrArg Prod.fst hx
  have h0 : DataW.trod enc Tryd.prog W 0 (fun _ => true) true n 22 ((cs.drop 0).take (Tryd.prog.cellsOf 22)) = xs[0]? := hf 0 _ rfl
  have h1 : DataW.trod enc Tryd.prog W 0 (fun _ => true) true n 22 ((cs.drop 1).take (Tryd.prog.cellsOf 22)) = xs[1]? := hf 1 _ rfl
  have h2 : DataW.trod enc Tryd.prog W 0 (fun _ => true) true n 24 ((cs.drop 2).take (Tryd.prog.cellsOf 24)) = xs[2]? := hf 2 _ rfl
  have h3 : DataW.trod enc Tryd.prog W 0 (fun _ => true) true n 24 ((cs.drop 34).take (Tryd.prog.cellsOf 24)) = xs[3]? := hf 3 _ rfl
  have h4 : DataW.trod enc Tryd.prog W 0 (fun _ => true) true n 25 ((cs.drop 66).take (Tryd.prog.cellsOf 25)) = xs[4]? := hf 4 _ rfl
  rw [cellsU6V] at h0 h1
  rw [cellsH] at h2 h3
  rw [cellsHsV] at h4
  have hp := pieces5 cs hl
  have hxl' : xs.length = 5 := hxl
  match xs, hxl', h0, h1, h2, h3, h4, hxd with
  | [y0, y1, y2, y3, y4], _, h0, h1, h2, h3, h4, hxd =>
    have h0 := h0.trans (show _ = some y0 from rfl)
    have h1 := h1.trans (show _ = some y1 from rfl)
    have h2 := h2.trans (show _ = some y2 from rfl)
    have h3 := h3.trans (show _ = some y3 from rfl)
    have h4 := h4.trans (show _ = some y4 from rfl)
    obtain ⟨X0, hX0, _, wX0⟩ := DataW.trod_int Tryd.underlying22 h0
    obtain ⟨X1, hX1, _, wX1⟩ := DataW.trod_int Tryd.underlying22 h1
    obtain ⟨A, hA, hA32⟩ := hashc_of h2
    obtain ⟨C, hC, hC32⟩ := hashc_of h3
    obtain ⟨z, hz⟩ : ∃ z, (cs.drop 66).take 1 = [z] := by
      have hlen : ((cs.drop 66).take 1).length = 1 := by simp [hl]
      match (cs.drop 66).take 1, hlen with
      | [z], _ => exact ⟨z, rfl⟩
    rw [hz] at h4
    obtain ⟨L, ad, cap, hL, hlc, hrs, h32, hlb⟩ := hashes_inV h4
    obtain ⟨m0, rfl, b0'⟩ := u64_ofV wX0
    obtain ⟨m1, rfl, b1'⟩ := u64_ofV wX1
    have hlen := hlb (fun q hq => by
      have hq2 : q ∈ d.weights Tryd.prog 45 := by
        rw [hxd]
        simp only [DataW.weights, Tryd.underlying45]
        show q ∈ DataW.weightsEach Tryd.prog [22, 22, 24, 24, 25] [y0.1, y1.1, y2.1, y3.1, y4.1]
        simp only [DataW.weightsEach]
        exact List.mem_append_right _ (List.mem_append_right _ (List.mem_append_right _ (List.mem_append_right _ (List.mem_append_left _ hq))))
      have := List.all_eq_true.1 hsz _ (DataW.weights_mem_each ht hd q hq2)
      simpa using this)
    have h5 := reachBytes_lt
    refine ⟨m0, m1, A, C, L, ad, cap, ?_, b0', b1', hA32, hC32, hlc, hrs, h32, by omega⟩
    congr 1
    apply Array.ext'
    rw [← hca, hp, hX0, hX1, hA, hC, hz, hL]
    simp [pcs]
theorem Hrs.hss {W : World} {ad : Option Addr} {L : List (List UInt8)} (h : Hrs W ad L) (c : Nat) : Hss W (.slice ad L.length c) L := ⟨ad, c, rfl, h⟩
end Go.Proofs.YtaeocbdphfkflaaDoor
