/- What is laid: the errors of package api, the tables of package sha; hashes that came in. -/
import Derived.Test.YtaeocbdphfkflaaDoorRows
import Derived.Test.YtaeocbdphfkflaaDoorHgx
import Derived.LaidLaws
import Derived.LaidSub
import Derived.LaidHandle
import Derived.Stop.LaidErr
import Derived.Lib.LaidTab
import Derived.ProofKit
import Derived.OpenShut
import Derived.ChangeOld
import Derived.SizedLaws
import Derived.Test.YtaeocbdphfkflaaDoorGHq
import Derived.Test.YtaeocbdphfkflaaDoorCgx
import Derived.SliceStrings
import Derived.Deep.Slices
import Derived.Test.YtaeocbdphfkflaaDoorYvw
namespace Go.Proofs.YtaeocbdphfkflaaDoor
open Go.RowKit Go.ChangeShapes Go.WideShapes Go.ChangeAt
set_option linter.unusedVariables false
set_option linter.unusedSimpArgs false

abbrev laidE : List (String × DataW Unit) := [("errors.errorType", Rows.laid_errors_errorType), ("cartulary/api.ErrNil", Rows.laid_cartulary_api_ErrNil), ("cartulary/api.ErrArg", Rows.laid_cartulary_api_ErrArg), ("cartulary/api.ErrInput", Rows.laid_cartulary_api_ErrInput), ("cartulary/api.ErrLimit", Rows.laid_cartulary_api_ErrLimit), ("cartulary/api.ErrRange", Rows.laid_cartulary_api_ErrRange), ("cartulary/api.ErrGone", Rows.laid_cartulary_api_ErrGone), ("cartulary/api.ErrUnavailable", Rows.laid_cartulary_api_ErrUnavailable), ("cartulary/api.ErrDead", Rows.laid_cartulary_api_ErrDead), ("cartulary/api.ErrCorrupt", Rows.laid_cartulary_api_ErrCorrupt), ("cartulary/api.ErrProof", Rows.laid_cartulary_api_ErrProof), ("cartulary/api.ErrSpent", Rows.laid_cartulary_api_ErrSpent), ("cartulary/api.ErrSigned", Rows.laid_cartulary_api_ErrSigned), ("cartulary/api.ErrFork", Rows.laid_cartulary_api_ErrFork), ("cartulary/api.ErrOld", Rows.laid_cartulary_api_ErrOld), ("cartulary/api.ErrStopped", Rows.laid_cartulary_api_ErrStopped), ("cartulary/api.ErrScript", Rows.laid_cartulary_api_ErrScript)]
/-- The errors, in the document's order, with their texts. -/
def sents : List (String × List UInt8) := [("cartulary/api.ErrNil", [97, 110, 32, 111, 98, 106, 101, 99, 116, 32, 116, 104, 97, 116, 32, 105, 115, 32, 110, 111, 116, 32, 116, 104, 101, 114, 101]), ("cartulary/api.ErrArg", [97, 110, 32, 97, 114, 103, 117, 109, 101, 110, 116, 32, 116, 104, 97, 116, 32, 109, 97, 121, 32, 110, 111, 116, 32, 98, 101]), ("cartulary/api.ErrInput", [97, 110, 32, 105, 110, 112, 117, 116, 32, 116, 104, 97, 116, 32, 105, 115, 32, 110, 111, 110, 101, 32, 111, 102, 32, 116, 104, 111, 115, 101, 32, 116, 104, 97, 116, 32, 109, 97, 121, 32, 98, 101]), ("cartulary/api.ErrLimit", [97, 98, 111, 118, 101, 32, 97, 32, 108, 105, 109, 105, 116]), ("cartulary/api.ErrRange", [110, 111, 32, 115, 117, 99, 104, 32, 108, 101, 97, 102, 44, 32, 115, 105, 122, 101, 32, 111, 114, 32, 115, 116, 114, 101, 116, 99, 104]), ("cartulary/api.ErrGone", [110, 111, 116, 104, 105, 110, 103, 32, 111, 102, 32, 116, 104, 97, 116, 32, 110, 97, 109, 101]), ("cartulary/api.ErrUnavailable", [105, 116, 32, 99, 111, 117, 108, 100, 32, 110, 111, 116, 32, 98, 101, 32, 114, 101, 97, 100]), ("cartulary/api.ErrDead", [116, 104, 101, 32, 115, 116, 111, 114, 101, 32, 104, 97, 115, 32, 99, 114, 97, 115, 104, 101, 100]), ("cartulary/api.ErrCorrupt", [119, 104, 97, 116, 32, 108, 105, 101, 115, 32, 105, 110, 32, 116, 104, 101, 32, 115, 116, 111, 114, 101, 32, 105, 115, 32, 110, 111, 32, 108, 111, 103]), ("cartulary/api.ErrProof", [105, 116, 32, 100, 111, 101, 115, 32, 110, 111, 116, 32, 112, 114, 111, 118, 101, 32, 116, 104, 97, 116]), ("cartulary/api.ErrSpent", [110, 111, 32, 107, 101, 121, 32, 105, 115, 32, 108, 101, 102, 116]), ("cartulary/api.ErrSigned", [110, 111, 116, 32, 115, 105, 103, 110, 101, 100, 32, 98, 121, 32, 119, 104, 111, 109, 32, 105, 116, 32, 115, 104, 111, 117, 108, 100, 32, 98, 101]), ("cartulary/api.ErrFork", [116, 119, 111, 32, 108, 111, 103, 115, 32, 111, 102, 32, 111, 110, 101, 32, 110, 97, 109, 101]), ("cartulary/api.ErrOld", [111, 108, 100, 101, 114, 32, 116, 104, 97, 110, 32, 119, 104, 97, 116, 32, 105, 115, 32, 107, 110, 111, 119, 110]), ("cartulary/api.ErrStopped", [115, 116, 111, 112, 112, 101, 100]), ("cartulary/api.ErrScript", [110, 111, 32, 115, 99, 114, 105, 112, 116])]
def senD (x : String × List UInt8) : String × DataW Unit := (x.1, .iface "*errors.errorString" (.ptr (.agg [.lit (.string x.2)])))

theorem laid_list {P : Program} {W : World} {ti tp te ts : TypeId} {ms : Array (String × TypeId)} {f : Field}
    (hi : P.underlying ti = some (.interface ms)) (hrow : ∀ u, P.typeName? 3 u = some "*errors.errorString" → u = tp)
    (hp : P.underlying tp = some (.pointer te)) (he : P.underlying te = some (.struct #[f])) (hft : f.type = ts) (hfo : f.offset = 0) (hs : P.underlying ts = some .string) (hc : P.cellsOf te = 1) (hcs : P.cellsOf ts = 1) :
    ∀ (l : List (String × List UInt8)) (ps : List MemPlace), DataW.LaidVars P W (l.map senD) ps → (∀ x ∈ l, ∃ g, P.globalNamed x.1 = some g ∧ (P.globals[g]?).map (·.type) = some ti) →
      (∀ b off, MemPlace.cell b off ∈ ps → (∃ c t, W.heap[b]? = some (.cells c t (0, 0))) ∧ ∀ u v, W.cell? ⟨b, off, none⟩ = some (.iface u v) → Value.okWide P W .any 0 u v) →
      ∃ zs : List Addr, zs.length = l.length ∧ (zs.map fun a => MemPlace.cell a.block a.off).Sublist ps ∧ ∀ (i : Nat) (x : String × List UInt8) (a : Addr), l[i]? = some x → zs[i]? = some a → W.var? P x.1 = some #[.iface tp (.pointer (some a))]
  | [], ps, _, _, _ => ⟨[], rfl, List.nil_sublist _, fun i x a h => by simp at h⟩
  | (n, text) :: r, ps, h, hg, hrows => by
    obtain ⟨g0, t0, cs0, f0, p0, q0, hg0, ht0, hv0, hd0, hq, e0⟩ := h
    obtain ⟨g, hgn, hgt⟩ := hg (n, text) (List.mem_cons_self ..)
    obtain rfl := Option.some.inj (hgn.symm.trans hg0)
    obtain rfl := Option.some.inj (hgt.symm.trans ht0)
    subst e0
    obtain ⟨l0⟩ := cs0
    have ok0 : ∀ u v, l0 = [.iface u v] → Value.okWide P W .any 0 u v := fun u v e => by
      subst e
      exact (hrows g 0 (by simp [MemPlace.row])).2 u v (by simpa using World.var?_cell hg0 hv0 0)
    obtain ⟨a0, s0, rfl, hc0, hs0, hz0, rfl⟩ := errorString_of_trod hi hrow hp he hft hfo hs hc hcs hd0 ok0
    obtain ⟨zs, hl, hsub, hvs⟩ := laid_list hi hrow hp he hft hfo hs hc hcs r q0 hq (fun x hx => hg x (List.mem_cons_of_mem _ hx)) (fun b off hm => hrows b off (List.mem_append_right _ hm))
    refine ⟨a0 :: zs, by simp [hl], ?_, ?_⟩
    · have e : MemPlace.row a0 1 = [MemPlace.cell a0.block a0.off] := by simp [MemPlace.row]
      rw [e, List.map_cons, List.append_assoc]
      exact (List.Sublist.cons_cons _ hsub).trans (List.sublist_append_right _ _)
    · intro i x a hx ha
      cases i with
      | zero => simp at hx ha; subst hx ha; exact hv0
      | succ i => exact hvs i x a (by simpa using hx) (by simpa using ha)

theorem star : "*" ++ "errors.errorString" = "*errors.errorString" := by decide
theorem rowE (u : TypeId) (h : Tryd.prog.typeName? 3 u = some "*errors.errorString") : u = 153 :=
  typeName_ptr_named (nm := "errors.errorString") (by rw [star]; kernel_rfl) (by kernel_rfl) (by decide) u (by rw [star]; exact h)
theorem cellsE : Tryd.prog.cellsOf 173 = 1 := by kernel_rfl
theorem cellsS : Tryd.prog.cellsOf 9 = 1 := by kernel_rfl
theorem etG : Tryd.prog.globalNamed "errors.errorType" = some 17 := by kernel_rfl
theorem rtT : (Tryd.prog.cutTypes.find? (·.1 == "internal/reflectlite.rtype")).map (·.2) = some 132 := by kernel_rfl
theorem oneRow : ((List.range 185).filter fun t => Tryd.prog.rowNamed t [101, 114, 114, 111, 114]) = [31] := by kernel_rfl
theorem sizeT : Tryd.prog.types.size = 185 := by kernel_rfl
theorem sentsNamed : ∀ x ∈ sents, ∃ g, Tryd.prog.globalNamed x.1 = some g ∧ (Tryd.prog.globals[g]?).map (·.type) = some 31 := by
  intro x hx
  simp only [sents, List.mem_cons, List.not_mem_nil, or_false] at hx
  rcases hx with rfl | rfl | rfl | rfl | rfl | rfl | rfl | rfl | rfl | rfl | rfl | rfl | rfl | rfl | rfl | rfl
  · exact ⟨2, by kernel_rfl, by kernel_rfl⟩
  · exact ⟨3, by kernel_rfl, by kernel_rfl⟩
  · exact ⟨4, by kernel_rfl, by kernel_rfl⟩
  · exact ⟨5, by kernel_rfl, by kernel_rfl⟩
  · exact ⟨0, by kernel_rfl, by kernel_rfl⟩
  · exact ⟨6, by kernel_rfl, by kernel_rfl⟩
  · exact ⟨7, by kernel_rfl, by kernel_rfl⟩
  · exact ⟨8, by kernel_rfl, by kernel_rfl⟩
  · exact ⟨9, by kernel_rfl, by kernel_rfl⟩
  · exact ⟨1, by kernel_rfl, by kernel_rfl⟩
  · exact ⟨10, by kernel_rfl, by kernel_rfl⟩
  · exact ⟨11, by kernel_rfl, by kernel_rfl⟩
  · exact ⟨12, by kernel_rfl, by kernel_rfl⟩
  · exact ⟨13, by kernel_rfl, by kernel_rfl⟩
  · exact ⟨14, by kernel_rfl, by kernel_rfl⟩
  · exact ⟨15, by kernel_rfl, by kernel_rfl⟩
theorem laid_parts {W : World} (h : laidMetH Tryd.prog laidE W) : laidMet Tryd.prog (sents.map senD) W ∧ handlesMet Tryd.prog [("errors.errorType", Rows.laid_errors_errorType)] W := by
  obtain ⟨h1, h2⟩ := laidMetH_iff.1 h
  exact ⟨h1, h2⟩
theorem handle_of {W : World} (h : handlesMet Tryd.prog [("errors.errorType", Rows.laid_errors_errorType)] W) : W.cell? ⟨17, 0, none⟩ = some (.iface 132 (.agg #[.pointer (some ⟨19, 31, none⟩)])) := by
  obtain ⟨name, u, ty, e1, e2, e3, e4, e5⟩ := h _ (List.mem_singleton.2 rfl)
  have en : name = [101, 114, 114, 111, 114] := (Option.some.inj e1).symm
  subst en
  obtain rfl := Option.some.inj (rtT.symm.trans e2)
  have hm : ty ∈ (List.range 185).filter fun t => Tryd.prog.rowNamed t [101, 114, 114, 111, 114] := List.mem_filter.2 ⟨List.mem_range.2 (by rw [← sizeT]; exact e3), e4⟩
  rw [oneRow] at hm
  obtain rfl := List.mem_singleton.1 hm
  have hh : typeHandle Tryd.prog 31 = .pointer (some ⟨19, 31, none⟩) := by kernel_rfl
  rw [hh] at e5
  simpa using World.var?_cell etG e5 0

set_option maxRecDepth 100000 in
theorem sent_of_laid {W : World} (h : laidMetH Tryd.prog laidE W) : ∃ a, Sent W.heap.size W a := by
  obtain ⟨⟨ps, hlv, hnd, hrows⟩, hh⟩ := laid_parts h
  obtain ⟨zs, hl, hsub, hvs⟩ := laid_list Tryd.underlying31 rowE Tryd.underlying153 Tryd.underlying173 rfl rfl Tryd.underlying9 cellsE cellsS sents ps hlv sentsNamed hrows
  have hl16 : zs.length = 16 := hl
  have hget : ∀ i, i < 16 → zs[i]? = some (zs.getD i default) := fun i hi => by simp [List.getD, List.getElem?_eq_getElem (show i < zs.length by omega)]
  have het := handle_of hh
  have hNG : 17 + 1 ≤ W.heap.size := World.block_lt_of_cell? W ⟨17, 0, none⟩ het
  have hblk : ∀ i, i < 16 → (zs.getD i default).block < W.heap.size ∧ ∃ c t, W.heap[(zs.getD i default).block]? = some (.cells c t (0, 0)) := fun i hi => by
    have hm : MemPlace.cell (zs.getD i default).block (zs.getD i default).off ∈ ps := hsub.subset (List.mem_map.2 ⟨_, List.mem_of_getElem? (hget i hi), rfl⟩)
    obtain ⟨c, t, hb⟩ := (hrows _ _ hm).1
    exact ⟨heap_lt hb, c, t, hb⟩
  have hnd2 := hnd.sublist hsub
  have hne : ∀ i j, i < 16 → j < 16 → i ≠ j → zs.getD i default ≠ zs.getD j default := fun i j hi hj hij e => by
    have h1 : (zs.map fun a => MemPlace.cell a.block a.off)[i]? = some (MemPlace.cell (zs.getD i default).block (zs.getD i default).off) := by rw [List.getElem?_map, hget i hi]; rfl
    have h2 : (zs.map fun a => MemPlace.cell a.block a.off)[j]? = some (MemPlace.cell (zs.getD i default).block (zs.getD i default).off) := by rw [List.getElem?_map, hget j hj, e]; rfl
    exact hij ((List.getElem?_inj (by simpa using (show i < zs.length by omega)) hnd2).1 (h1.trans h2.symm))
  exact ⟨fun i => zs.getD i default,
    by simpa using World.var?_cell (show Tryd.prog.globalNamed "cartulary/api.ErrNil" = some 2 by kernel_rfl) (hvs 0 _ _ rfl (hget 0 (by omega))) 0,
    by simpa using World.var?_cell (show Tryd.prog.globalNamed "cartulary/api.ErrArg" = some 3 by kernel_rfl) (hvs 1 _ _ rfl (hget 1 (by omega))) 0,
    by simpa using World.var?_cell (show Tryd.prog.globalNamed "cartulary/api.ErrInput" = some 4 by kernel_rfl) (hvs 2 _ _ rfl (hget 2 (by omega))) 0,
    by simpa using World.var?_cell (show Tryd.prog.globalNamed "cartulary/api.ErrLimit" = some 5 by kernel_rfl) (hvs 3 _ _ rfl (hget 3 (by omega))) 0,
    by simpa using World.var?_cell (show Tryd.prog.globalNamed "cartulary/api.ErrRange" = some 0 by kernel_rfl) (hvs 4 _ _ rfl (hget 4 (by omega))) 0,
    by simpa using World.var?_cell (show Tryd.prog.globalNamed "cartulary/api.ErrGone" = some 6 by kernel_rfl) (hvs 5 _ _ rfl (hget 5 (by omega))) 0,
    by simpa using World.var?_cell (show Tryd.prog.globalNamed "cartulary/api.ErrUnavailable" = some 7 by kernel_rfl) (hvs 6 _ _ rfl (hget 6 (by omega))) 0,
    by simpa using World.var?_cell (show Tryd.prog.globalNamed "cartulary/api.ErrDead" = some 8 by kernel_rfl) (hvs 7 _ _ rfl (hget 7 (by omega))) 0,
    by simpa using World.var?_cell (show Tryd.prog.globalNamed "cartulary/api.ErrCorrupt" = some 9 by kernel_rfl) (hvs 8 _ _ rfl (hget 8 (by omega))) 0,
    by simpa using World.var?_cell (show Tryd.prog.globalNamed "cartulary/api.ErrProof" = some 1 by kernel_rfl) (hvs 9 _ _ rfl (hget 9 (by omega))) 0,
    by simpa using World.var?_cell (show Tryd.prog.globalNamed "cartulary/api.ErrSpent" = some 10 by kernel_rfl) (hvs 10 _ _ rfl (hget 10 (by omega))) 0,
    by simpa using World.var?_cell (show Tryd.prog.globalNamed "cartulary/api.ErrSigned" = some 11 by kernel_rfl) (hvs 11 _ _ rfl (hget 11 (by omega))) 0,
    by simpa using World.var?_cell (show Tryd.prog.globalNamed "cartulary/api.ErrFork" = some 12 by kernel_rfl) (hvs 12 _ _ rfl (hget 12 (by omega))) 0,
    by simpa using World.var?_cell (show Tryd.prog.globalNamed "cartulary/api.ErrOld" = some 13 by kernel_rfl) (hvs 13 _ _ rfl (hget 13 (by omega))) 0,
    by simpa using World.var?_cell (show Tryd.prog.globalNamed "cartulary/api.ErrStopped" = some 14 by kernel_rfl) (hvs 14 _ _ rfl (hget 14 (by omega))) 0,
    by simpa using World.var?_cell (show Tryd.prog.globalNamed "cartulary/api.ErrScript" = some 15 by kernel_rfl) (hvs 15 _ _ rfl (hget 15 (by omega))) 0,
    het, hblk, hne, hNG, Nat.le_refl _⟩

/-- Which of the laid variables are errors, or what asks for them. -/
def keepE (x : String × DataW Unit) : Bool := laidE.any fun y => y.1 == x.1
def keepK (x : String × DataW Unit) : Bool := x.1 == "cartulary/sha.constants"
def keepH (x : String × DataW Unit) : Bool := x.1 == "cartulary/sha.beginning"
theorem gK : Tryd.prog.globalNamed "cartulary/sha.constants" = some 18 := by kernel_rfl
theorem tK : (Tryd.prog.globals[18]?).map (·.type) = some 126 := by kernel_rfl
theorem gH : Tryd.prog.globalNamed "cartulary/sha.beginning" = some 16 := by kernel_rfl
theorem tH : (Tryd.prog.globals[16]?).map (·.type) = some 99 := by kernel_rfl
theorem c32 : Tryd.prog.cellsOf 98 = 1 := by kernel_rfl
theorem c64s : Tryd.prog.cellsOf 126 = 64 := by kernel_rfl
theorem c8s : Tryd.prog.cellsOf 99 = 8 := by kernel_rfl
def KlI : List Int := Kl.map fun (x : Nat) => (x : Int)
def HlI : List Int := (wl H0).map fun (x : Nat) => (x : Int)
theorem dataK : (Rows.laid_cartulary_sha_constants : DataW Unit) = Lib.tabData .u32 KlI := by kernel_rfl
theorem dataH : (Rows.laid_cartulary_sha_beginning : DataW Unit) = Lib.tabData .u32 HlI := by kernel_rfl
theorem laid_of {l : List (String × DataW Unit)} {W : World} (h : laidMetH Tryd.prog l W) (e1 : l.filter keepK = [("cartulary/sha.constants", Rows.laid_cartulary_sha_constants)]) (e2 : l.filter keepH = [("cartulary/sha.beginning", Rows.laid_cartulary_sha_beginning)]) : Laid W := by
  have h1 := h.filter keepK
  have h2 := h.filter keepH
  rw [e1, MakeChecks.laidMetH_plain _ _ _ (by kernel_rfl), dataK] at h1
  rw [e2, MakeChecks.laidMetH_plain _ _ _ (by kernel_rfl), dataH] at h2
  have t1 := Lib.tabIs_of_head gK tK Tryd.underlying126 Tryd.underlying98 c32 c64s h1
  have t2 := Lib.tabIs_of_head gH tH Tryd.underlying99 Tryd.underlying98 c32 c8s h2
  refine ⟨fun i hi => ?_, fun i hi => ?_⟩
  · rw [t1.cell gK i hi]
    have e : ∀ j : Fin 64, KlI.getD j.val 0 = ((Kc j.val : Nat) : Int) := by decide +kernel
    rw [e ⟨i, hi⟩]
  · rw [t2.cell gH i hi, vals_at H0 i hi]
    have e : ∀ j : Fin 8, HlI.getD j.val 0 = (((wl H0).getD j.val 0 : Nat) : Int) := by decide +kernel
    rw [e ⟨i, hi⟩]

theorem sent_of {l : List (String × DataW Unit)} {W : World} (h : laidMetH Tryd.prog l W) (e : l.filter keepE = laidE) : ∃ a, Sent W.heap.size W a := by
  have h1 := h.filter keepE
  rw [e] at h1
  exact sent_of_laid h1

theorem mapM_each {α β : Type} {f : α → Option β} : ∀ (L : List α) (ys : List β), L.mapM f = some ys → ∀ i ∈ L, ∃ y, f i = some y
  | [], _, _, i, hi => by simp at hi
  | x :: L, ys, h, i, hi => by
    rw [List.mapM_cons] at h
    simp only [bind, Option.bind_eq_some_iff, pure, Option.some.injEq] at h
    obtain ⟨y, hy, ys', hys, rfl⟩ := h
    rcases List.mem_cons.1 hi with rfl | hi
    · exact ⟨y, hy⟩
    · exact mapM_each L ys' hys i hi
theorem cellsH : Tryd.prog.cellsOf 24 = 32 := by kernel_rfl
theorem cells8 : Tryd.prog.cellsOf 5 = 1 := by kernel_rfl
def byteOf : Option Value → UInt8
  | some (.int _ z) => UInt8.ofNat z.toNat
  | _ => 0
set_option maxRecDepth 100000 in
/-- A hash that came in. -/
theorem hash_of {H : Type} {enc : TypeId × Value → H} {W : World} {r : Reach} {b0 : Nat} {v : Value} {d : DataW H} {p : List MemPlace} (hv : Value.okWide Tryd.prog W r b0 24 v) (h : DataW.Trod enc Tryd.prog W 0 (fun _ => true) true 24 v d p) :
    ∃ A : List UInt8, v = .agg (hbs A) ∧ A.length = 32 := by
  simp only [Value.okWide, Tryd.underlying24] at hv
  obtain ⟨xs, rfl, hn, _⟩ := hv
  rw [cellsH] at hn
  obtain ⟨fuel, hf⟩ := h
  cases fuel with
  | zero => simp [DataW.trod] at hf
  | succ m =>
    rw [DataW.trod_step] at hf
    unfold DataW.trodStep at hf
    simp only [Tryd.underlying24, Value.cells] at hf
    rw [if_pos (by rw [cellsH]; simpa using hn)] at hf
    simp only [Option.map_eq_some_iff] at hf
    obtain ⟨ys, hy, e1⟩ := hf
    have hall := mapM_each _ ys hy
    have hc : ∀ i, i < 32 → ∃ n : Nat, n < 256 ∧ xs[i]? = some (.int .u8 (n : Int)) := fun i hi => by
      obtain ⟨y, hyi⟩ := hall i (List.mem_range.2 hi)
      obtain ⟨a, ea, _, wa⟩ := DataW.trod_int Tryd.underlying5 hyi
      have hb : 0 ≤ a ∧ a ≤ 255 := by simpa [Lit.wf, IntKind.min, IntKind.max, IntKind.signed, IntKind.bits] using wa
      refine ⟨a.toNat, by omega, ?_⟩
      have hx : xs[i]? = some xs[i] := Array.getElem?_eq_getElem (by omega)
      have ht : (xs.toList.drop (i * Tryd.prog.cellsOf 5)).take (Tryd.prog.cellsOf 5) = [xs[i]] := by
        rw [cells8, Nat.mul_one, List.drop_eq_getElem_cons (by simpa using (show i < xs.size by omega))]
        simp
      rw [ht] at ea
      rw [hx, List.singleton_inj.1 ea, show ((a.toNat : Nat) : Int) = a by omega]
    refine ⟨(List.range 32).map fun i => byteOf xs[i]?, ?_, by simp⟩
    congr 1
    apply Array.ext
    · rw [hbs_size]; simp [hn]
    · intro i h1 h2
      obtain ⟨n, hn2, hx⟩ := hc i (by omega)
      have hx2 : xs[i] = .int .u8 (n : Int) := by
        rw [Array.getElem?_eq_getElem h1] at hx
        exact Option.some.inj hx
      have hg := hbs_get ((List.range 32).map fun i => byteOf xs[i]?) i (by simp; omega)
      rw [Array.getElem?_eq_getElem h2] at hg
      rw [hx2, Option.some.inj hg, List.getD_eq_getElem?_getD, List.getElem?_map, List.getElem?_range (by omega)]
      simp only [Option.map_some, Option.getD_some, hx, byteOf, UInt8.toNat_ofNat']
      rw [Int.toNat_natCast, Nat.mod_eq_of_lt (by omega)]
end Go.Proofs.YtaeocbdphfkflaaDoor
namespace Go.Proofs.YtaeocbdphfkflaaDoor
open Go.RowKit Go.ChangeShapes Go.WideShapes Go.ChangeAt
set_option linter.unusedVariables false
set_option linter.unusedSimpArgs false
set_option maxRecDepth 100000 in
/-- A hash's cells that came in. -/
theorem hashc_of {H : Type} {enc : TypeId × Value → H} {W : World} {m : Nat} {cs : List Value} {x : DataW H × List MemPlace} (h : DataW.trod enc Tryd.prog W 0 (fun _ => true) true m 24 cs = some x) : ∃ A : List UInt8, cs = (hbs A).toList ∧ A.length = 32 := by
  cases m with
  | zero => simp [DataW.trod] at h
  | succ m =>
    rw [DataW.trod_step] at h
    unfold DataW.trodStep at h
    simp only [Tryd.underlying24] at h
    split at h
    · next hn =>
      rw [cellsH] at hn
      simp only [Option.map_eq_some_iff] at h
      obtain ⟨ys, hy, e1⟩ := h
      have hall := mapM_each _ ys hy
      have hc : ∀ i, i < 32 → ∃ n : Nat, n < 256 ∧ cs[i]? = some (.int .u8 (n : Int)) := fun i hi => by
        obtain ⟨y, hyi⟩ := hall i (List.mem_range.2 hi)
        obtain ⟨a, ea, _, wa⟩ := DataW.trod_int Tryd.underlying5 hyi
        have hb : 0 ≤ a ∧ a ≤ 255 := by simpa [Lit.wf, IntKind.min, IntKind.max, IntKind.signed, IntKind.bits] using wa
        refine ⟨a.toNat, by omega, ?_⟩
        have hx : cs[i]? = some cs[i] := List.getElem?_eq_getElem (by omega)
        have ht : (cs.drop (i * Tryd.prog.cellsOf 5)).take (Tryd.prog.cellsOf 5) = [cs[i]] := by
          rw [cells8, Nat.mul_one, List.drop_eq_getElem_cons (by omega), List.take_succ_cons, List.take_zero]
        rw [ht] at ea
        rw [hx, List.singleton_inj.1 ea, show ((a.toNat : Nat) : Int) = a by omega]
      refine ⟨(List.range 32).map fun i => byteOf cs[i]?, ?_, by simp⟩
      apply List.ext_getElem?
      intro i
      by_cases hi : i < 32
      · obtain ⟨n, hn2, hx⟩ := hc i hi
        have q := hbs_get ((List.range 32).map fun i => byteOf cs[i]?) i (by simp; omega)
        rw [← Array.getElem?_toList] at q
        have hg : ((List.range 32).map fun i => byteOf cs[i]?).getD i 0 = UInt8.ofNat n := by
          rw [List.getD_eq_getElem?_getD, List.getElem?_map, List.getElem?_range hi]
          simp [hx, byteOf]
        rw [hx, q, hg]
        have : (UInt8.ofNat n).toNat = n := by simp; omega
        rw [this]
      · rw [List.getElem?_eq_none (by omega), List.getElem?_eq_none (by rw [Array.length_toList, hbs_size]; simp; omega)]
    · cases h
/-- Hashes that came in. -/
theorem hashes_of {H : Type} {enc : TypeId × Value → H} {W : World} {v : Value} {d : DataW H} {p : List MemPlace} (hv : ∃ a l c, v = .slice a l c) (h : DataW.Trod enc Tryd.prog W 0 (fun _ => true) true 25 v d p) {ts : List TypeId} {ds : List (DataW H)} (hsz : (DataW.weightsEach Tryd.prog ts ds).all (· ≤ reachBytes) = true) (j : Nat) (ht : ts[j]? = some 25) (hd : ds[j]? = some d) :
    ∃ L : List (List UInt8), Hss W v L ∧ (∀ x ∈ L, x.length = 32) ∧ L.length < 4611686018427387904 := by
  obtain ⟨fuel, hf⟩ := h
  obtain ⟨a0, l0, c0, rfl⟩ := hv
  rcases Deep.open_slice Tryd.underlying25 hf with ⟨hcs, _⟩ | ⟨a, len, cap, m, n, D, Pl, hcs, _, hl, hm, hmm, hx, hel⟩
  · simp [Value.cells] at hcs
    obtain ⟨rfl, rfl, rfl⟩ := hcs
    exact ⟨[], Hss.nil _, by simp, by simp⟩
  · simp [Value.cells] at hcs
    obtain ⟨rfl, rfl, rfl⟩ := hcs
    simp only [if_true] at hmm
    subst hmm
    rw [cellsH] at hel
    have hxd : d = .slice ((List.range l0).map D) ((List.range (m - l0)).map fun j => D (l0 + j)) := congrArg Prod.fst hx
    have hch : ∀ i, i < l0 → ∃ A : List UInt8, (∀ j, j < 32 → W.cell? ((a.add (i * 32)).add j) = (hbs A)[j]?) ∧ A.length = 32 := by
      intro i hi
      obtain ⟨cs, hc, htr⟩ := hel i (by omega)
      obtain ⟨A, hoc, hok⟩ := hashc_of htr
      unfold World.cells? at hc
      rw [if_pos (Nat.zero_le _)] at hc
      exact ⟨A, fun j hj => by rw [← Array.getElem?_toList, ← hoc]; exact mapM_some_get hc j j (by simp [hj]), hok⟩
    obtain ⟨f, hfun⟩ := Deep.choose_lt hch
    have hw := sized_slice hsz ht (by rw [hd, hxd]) Tryd.underlying25
    have h4 := reachBytes_lt
    have hb1 : Tryd.prog.bytesOf 24 = 32 := by kernel_rfl
    rw [hb1] at hw
    simp only [List.length_map, List.length_range] at hw
    refine ⟨(List.range l0).map f, ⟨some a, m, by simp, fun k h hk => ?_⟩, fun x hx => ?_, by simp; omega⟩
    · have hkl : k < l0 := by
        have := (List.getElem?_eq_some_iff.1 hk).1
        simpa using this
      have hfk : f k = h := by simpa [hkl] using hk
      have hc0 := (hfun 0 (by omega)).1 0 (by omega)
      obtain ⟨g, off, spot⟩ := a
      have hspot : spot = none := by
        rw [hbs_get _ 0 (by rw [(hfun 0 (by omega)).2]; omega)] at hc0
        simpa [Addr.add] using World.cell?_spot hc0
      subst hspot
      refine ⟨g, off, rfl, fun j hj => ?_⟩
      have := (hfun k hkl).1 j hj
      rw [addO, addO, hfk] at this
      exact this
    · obtain ⟨i, hi, rfl⟩ := List.mem_map.1 hx
      exact (hfun i (List.mem_range.1 hi)).2
end Go.Proofs.YtaeocbdphfkflaaDoor
namespace Go.Proofs.YtaeocbdphfkflaaDoor
open Go.RowKit Go.ChangeShapes Go.WideShapes Go.ChangeAt
set_option linter.unusedVariables false
set_option linter.unusedSimpArgs false
/-- Hashes that came in. -/
theorem hashes_of2 {H : Type} {enc : TypeId × Value → H} {W : World} {v : Value} {d : DataW H} {p : List MemPlace} (hv : ∃ a l c, v = .slice a l c) (h : DataW.Trod enc Tryd.prog W 0 (fun _ => true) true 25 v d p) {ts : List TypeId} {ds : List (DataW H)} (hsz : (DataW.weightsEach Tryd.prog ts ds).all (· ≤ reachBytes) = true) (j : Nat) (ht : ts[j]? = some 25) (hd : ds[j]? = some d) :
    ∃ (L : List (List UInt8)) (ad : Option Addr) (cap : Nat), v = .slice ad L.length cap ∧ L.length ≤ cap ∧ Hrs W ad L ∧ (∀ x ∈ L, x.length = 32) ∧ L.length < 4611686018427387904 := by
  obtain ⟨fuel, hf⟩ := h
  obtain ⟨a0, l0, c0, rfl⟩ := hv
  rcases Deep.open_slice Tryd.underlying25 hf with ⟨hcs, _⟩ | ⟨a, len, cap, m, n, D, Pl, hcs, _, hl, hm, hmm, hx, hel⟩
  · simp [Value.cells] at hcs
    obtain ⟨rfl, rfl, rfl⟩ := hcs
    exact ⟨[], none, 0, rfl, by simp, fun k h hk => by simp at hk, by simp, by simp⟩
  · simp [Value.cells] at hcs
    obtain ⟨rfl, rfl, rfl⟩ := hcs
    simp only [if_true] at hmm
    subst hmm
    rw [cellsH] at hel
    have hxd : d = .slice ((List.range l0).map D) ((List.range (m - l0)).map fun j => D (l0 + j)) := congrArg Prod.fst hx
    have hch : ∀ i, i < l0 → ∃ A : List UInt8, (∀ j, j < 32 → W.cell? ((a.add (i * 32)).add j) = (hbs A)[j]?) ∧ A.length = 32 := by
      intro i hi
      obtain ⟨cs, hc, htr⟩ := hel i (by omega)
      obtain ⟨A, hoc, hok⟩ := hashc_of htr
      unfold World.cells? at hc
      rw [if_pos (Nat.zero_le _)] at hc
      exact ⟨A, fun j hj => by rw [← Array.getElem?_toList, ← hoc]; exact mapM_some_get hc j j (by simp [hj]), hok⟩
    obtain ⟨f, hfun⟩ := Deep.choose_lt hch
    have hw := sized_slice hsz ht (by rw [hd, hxd]) Tryd.underlying25
    have h4 := reachBytes_lt
    have hb1 : Tryd.prog.bytesOf 24 = 32 := by kernel_rfl
    rw [hb1] at hw
    simp only [List.length_map, List.length_range] at hw
    refine ⟨(List.range l0).map f, some a, m, by simp, by simp; omega, fun k h hk => ?_, fun x hx => ?_, by simp; omega⟩
    · have hkl : k < l0 := by
        have := (List.getElem?_eq_some_iff.1 hk).1
        simpa using this
      have hfk : f k = h := by simpa [hkl] using hk
      have hc0 := (hfun 0 (by omega)).1 0 (by omega)
      obtain ⟨g, off, spot⟩ := a
      have hspot : spot = none := by
        rw [hbs_get _ 0 (by rw [(hfun 0 (by omega)).2]; omega)] at hc0
        simpa [Addr.add] using World.cell?_spot hc0
      subst hspot
      refine ⟨g, off, rfl, fun j hj => ?_⟩
      have := (hfun k hkl).1 j hj
      rw [addO, addO, hfk] at this
      exact this
    · obtain ⟨i, hi, rfl⟩ := List.mem_map.1 hx
      exact (hfun i (List.mem_range.1 hi)).2
end Go.Proofs.YtaeocbdphfkflaaDoor
