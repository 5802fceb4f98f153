/- What came in: hashes; the table of package bits. -/
import Derived.Test.YtlaiomgebkeldaaGreatDoorLa
import Derived.Test.YtlaiomgebkeldaaGreatDoorHq
import Derived.Test.YtlaiomgebkeldaaGreatDoorCg
import Derived.SliceStrings
import Derived.Deep.Slices
namespace Go.Proofs.YtlaiomgebkeldaaGreatDoor
open Go.RowKit Go.ChangeShapes Go.WideShapes Go.ChangeAt
set_option linter.unusedVariables false
set_option linter.unusedSimpArgs false
theorem gTab : Tryz.prog.globalNamed "math/bits.deBruijn64tab" = some 18 := by kernel_rfl
theorem tTab : (Tryz.prog.globals[18]?).map (·.type) = some 245 := by kernel_rfl
theorem cG64 : Tryz.prog.cellsOf 245 = 64 := by kernel_rfl
def keepT (x : String × DataW Unit) : Bool := x.1 == "math/bits.deBruijn64tab"
def tabI : List Int := (List.range 64).map fun j => ((Lib.deBruijn64tab.getD j 0 : Nat) : Int)
theorem dataT : (Rows.laid_math_bits_deBruijn64tab : DataW Unit) = Lib.tabData .u8 tabI := by kernel_rfl
theorem tab_of {l : List (String × DataW Unit)} {W : World} (h : laidMetH Tryz.prog l W) (e1 : l.filter keepT = [("math/bits.deBruijn64tab", Rows.laid_math_bits_deBruijn64tab)]) : TabAt W := by
  have h1 := h.filter keepT
  rw [e1, MakeChecks.laidMetH_plain _ _ _ (by kernel_rfl), dataT] at h1
  have t1 := Lib.tabIs_of_head gTab tTab Tryz.underlying245 Tryz.underlying5 cells8 cG64 h1
  intro j hj
  rw [t1.cell gTab j hj]
  have e : ∀ j : Fin 64, tabI.getD j.val 0 = ((Lib.deBruijn64tab.getD j.val 0 : Nat) : Int) := by decide +kernel
  rw [e ⟨j, hj⟩]
set_option maxRecDepth 100000 in
/-- A hash's cells that came in. -/
theorem hashc_of {H : Type} {enc : TypeId × Value → H} {W : World} {m : Nat} {cs : List Value} {x : DataW H × List MemPlace} (h : DataW.trod enc Tryz.prog W 0 (fun _ => true) true m 99 cs = some x) : ∃ A : List UInt8, cs = (hbs A).toList ∧ A.length = 32 := by
  cases m with
  | zero => simp [DataW.trod] at h
  | succ m =>
    rw [DataW.trod_step] at h
    unfold DataW.trodStep at h
    simp only [Tryz.underlying99] at h
    split at h
    · next hn =>
      rw [cellsH] at hn
      simp only [Option.map_eq_some_iff] at h
      obtain ⟨ys, hy, e1⟩ := h
      have hall := mapM_each _ ys hy
      have hc : ∀ i, i < 32 → ∃ n : Nat, n < 256 ∧ cs[i]? = some (.int .u8 (n : Int)) := fun i hi => by
        obtain ⟨y, hyi⟩ := hall i (List.mem_range.2 hi)
        obtain ⟨a, ea, _, wa⟩ := DataW.trod_int Tryz.underlying5 hyi
        have hb : 0 ≤ a ∧ a ≤ 255 := by simpa [Lit.wf, IntKind.min, IntKind.max, IntKind.signed, IntKind.bits] using wa
        refine ⟨a.toNat, by omega, ?_⟩
        have hx : cs[i]? = some cs[i] := List.getElem?_eq_getElem (by omega)
        have ht : (cs.drop (i * Tryz.prog.cellsOf 5)).take (Tryz.prog.cellsOf 5) = [cs[i]] := by
          rw [cells8, Nat.mul_one, List.drop_eq_getElem_cons (by omega), List.take_succ_cons, List.take_zero]
        rw [ht] at ea
        rw [hx, List.singleton_inj.1 ea, show ((a.toNat : Nat) : Int) = a by omega]
      refine ⟨(List.range 32).map fun i => byteOf cs[i]?, ?_, by simp⟩
      apply List.ext_getElem?
      intro i
      by_cases hi : i < 32
      · obtain ⟨n, hn2, hx⟩ := hc i hi
        have q := hbs_get ((List.range 32).map fun i => byteOf cs[i]?) i (by simp; omega)
        rw [← Array.getElem?_toList] at q
        have hg : ((List.range 32).map fun i => byteOf cs[i]?).getD i 0 = UInt8.ofNat n := by
          rw [List.getD_eq_getElem?_getD, List.getElem?_map, List.getElem?_range hi]
          simp [hx, byteOf]
        rw [hx, q, hg]
        have : (UInt8.ofNat n).toNat = n := by simp; omega
        rw [this]
      · rw [List.getElem?_eq_none (by omega), List.getElem?_eq_none (by rw [Array.length_toList, hbs_size]; simp; omega)]
    · cases h
/-- Hashes that came in. -/
theorem hashes_of {H : Type} {enc : TypeId × Value → H} {W : World} {v : Value} {d : DataW H} {p : List MemPlace} (hv : ∃ a l c, v = .slice a l c) (h : DataW.Trod enc Tryz.prog W 0 (fun _ => true) true 102 v d p) {ts : List TypeId} {ds : List (DataW H)} (hsz : (DataW.weightsEach Tryz.prog ts ds).all (· ≤ reachBytes) = true) (j : Nat) (ht : ts[j]? = some 102) (hd : ds[j]? = some d) :
    ∃ L : List (List UInt8), Hss W v L ∧ (∀ x ∈ L, x.length = 32) ∧ L.length < 4611686018427387904 := by
  obtain ⟨fuel, hf⟩ := h
  obtain ⟨a0, l0, c0, rfl⟩ := hv
  rcases Deep.open_slice Tryz.underlying102 hf with ⟨hcs, _⟩ | ⟨a, len, cap, m, n, D, Pl, hcs, _, hl, hm, hmm, hx, hel⟩
  · simp [Value.cells] at hcs
    obtain ⟨rfl, rfl, rfl⟩ := hcs
    exact ⟨[], Hss.nil _, by simp, by simp⟩
  · simp [Value.cells] at hcs
    obtain ⟨rfl, rfl, rfl⟩ := hcs
    simp only [if_true] at hmm
    subst hmm
    rw [cellsH] at hel
    have hxd : d = .slice ((List.range l0).map D) ((List.range (m - l0)).map fun j => D (l0 + j)) := congrArg Prod.fst hx
    have hch : ∀ i, i < l0 → ∃ A : List UInt8, (∀ j, j < 32 → W.cell? ((a.add (i * 32)).add j) = (hbs A)[j]?) ∧ A.length = 32 := by
      intro i hi
      obtain ⟨cs, hc, htr⟩ := hel i (by omega)
      obtain ⟨A, hoc, hok⟩ := hashc_of htr
      unfold World.cells? at hc
      rw [if_pos (Nat.zero_le _)] at hc
      exact ⟨A, fun j hj => by rw [← Array.getElem?_toList, ← hoc]; exact mapM_some_get hc j j (by simp [hj]), hok⟩
    obtain ⟨f, hfun⟩ := Deep.choose_lt hch
    have hw := sized_slice hsz ht (by rw [hd, hxd]) Tryz.underlying102
    have h4 := reachBytes_lt
    have hb1 : Tryz.prog.bytesOf 99 = 32 := by kernel_rfl
    rw [hb1] at hw
    simp only [List.length_map, List.length_range] at hw
    refine ⟨(List.range l0).map f, ⟨some a, m, by simp, fun k h hk => ?_⟩, fun x hx => ?_, by simp; omega⟩
    · have hkl : k < l0 := by
        have := (List.getElem?_eq_some_iff.1 hk).1
        simpa using this
      have hfk : f k = h := by simpa [hkl] using hk
      have hc0 := (hfun 0 (by omega)).1 0 (by omega)
      obtain ⟨g, off, spot⟩ := a
      have hspot : spot = none := by
        rw [hbs_get _ 0 (by rw [(hfun 0 (by omega)).2]; omega)] at hc0
        simpa [Addr.add] using World.cell?_spot hc0
      subst hspot
      refine ⟨g, off, rfl, fun j hj => ?_⟩
      have := (hfun k hkl).1 j hj
      rw [addO, addO, hfk] at this
      exact this
    · obtain ⟨i, hi, rfl⟩ := List.mem_map.1 hx
      exact (hfun i (List.mem_range.1 hi)).2
end Go.Proofs.YtlaiomgebkeldaaGreatDoor
