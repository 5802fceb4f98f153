/- What is laid: the errors of package api, the tables of package sha; hashes that came in. -/
import Derived.Test.YtjkhcplnedcmeaaGreatDoorRows
import Derived.Test.YtjkhcplnedcmeaaGreatDoorHg
import Derived.LaidLaws
import Derived.LaidSub
import Derived.LaidHandle
import Derived.Stop.LaidErr
import Derived.Lib.LaidTab
import Derived.ProofKit
import Derived.OpenShut
import Derived.ChangeOld
import Derived.SizedLaws
import Derived.Test.YtjkhcplnedcmeaaGreatDoorTga
import Derived.Deep.Slices
import Derived.Test.YtjkhcplnedcmeaaGreatDoorFa
import Derived.SliceStrings
namespace Go.Proofs.YtjkhcplnedcmeaaGreatDoor
open Go.RowKit Go.ChangeShapes Go.WideShapes Go.ChangeAt
set_option linter.unusedVariables false
set_option linter.unusedSimpArgs false

abbrev laidE : List (String × DataW Unit) := [("errors.errorType", Rows.laid_errors_errorType), ("cartulary/api.ErrNil", Rows.laid_cartulary_api_ErrNil), ("cartulary/api.ErrArg", Rows.laid_cartulary_api_ErrArg), ("cartulary/api.ErrInput", Rows.laid_cartulary_api_ErrInput), ("cartulary/api.ErrLimit", Rows.laid_cartulary_api_ErrLimit), ("cartulary/api.ErrRange", Rows.laid_cartulary_api_ErrRange), ("cartulary/api.ErrGone", Rows.laid_cartulary_api_ErrGone), ("cartulary/api.ErrUnavailable", Rows.laid_cartulary_api_ErrUnavailable), ("cartulary/api.ErrDead", Rows.laid_cartulary_api_ErrDead), ("cartulary/api.ErrCorrupt", Rows.laid_cartulary_api_ErrCorrupt), ("cartulary/api.ErrProof", Rows.laid_cartulary_api_ErrProof), ("cartulary/api.ErrSpent", Rows.laid_cartulary_api_ErrSpent), ("cartulary/api.ErrSigned", Rows.laid_cartulary_api_ErrSigned), ("cartulary/api.ErrFork", Rows.laid_cartulary_api_ErrFork), ("cartulary/api.ErrOld", Rows.laid_cartulary_api_ErrOld), ("cartulary/api.ErrStopped", Rows.laid_cartulary_api_ErrStopped), ("cartulary/api.ErrScript", Rows.laid_cartulary_api_ErrScript)]
/-- The errors, in the document's order, with their texts. -/
def sents : List (String × List UInt8) := [("cartulary/api.ErrNil", [97, 110, 32, 111, 98, 106, 101, 99, 116, 32, 116, 104, 97, 116, 32, 105, 115, 32, 110, 111, 116, 32, 116, 104, 101, 114, 101]), ("cartulary/api.ErrArg", [97, 110, 32, 97, 114, 103, 117, 109, 101, 110, 116, 32, 116, 104, 97, 116, 32, 109, 97, 121, 32, 110, 111, 116, 32, 98, 101]), ("cartulary/api.ErrInput", [97, 110, 32, 105, 110, 112, 117, 116, 32, 116, 104, 97, 116, 32, 105, 115, 32, 110, 111, 110, 101, 32, 111, 102, 32, 116, 104, 111, 115, 101, 32, 116, 104, 97, 116, 32, 109, 97, 121, 32, 98, 101]), ("cartulary/api.ErrLimit", [97, 98, 111, 118, 101, 32, 97, 32, 108, 105, 109, 105, 116]), ("cartulary/api.ErrRange", [110, 111, 32, 115, 117, 99, 104, 32, 108, 101, 97, 102, 44, 32, 115, 105, 122, 101, 32, 111, 114, 32, 115, 116, 114, 101, 116, 99, 104]), ("cartulary/api.ErrGone", [110, 111, 116, 104, 105, 110, 103, 32, 111, 102, 32, 116, 104, 97, 116, 32, 110, 97, 109, 101]), ("cartulary/api.ErrUnavailable", [105, 116, 32, 99, 111, 117, 108, 100, 32, 110, 111, 116, 32, 98, 101, 32, 114, 101, 97, 100]), ("cartulary/api.ErrDead", [116, 104, 101, 32, 115, 116, 111, 114, 101, 32, 104, 97, 115, 32, 99, 114, 97, 115, 104, 101, 100]), ("cartulary/api.ErrCorrupt", [119, 104, 97, 116, 32, 108, 105, 101, 115, 32, 105, 110, 32, 116, 104, 101, 32, 115, 116, 111, 114, 101, 32, 105, 115, 32, 110, 111, 32, 108, 111, 103]), ("cartulary/api.ErrProof", [105, 116, 32, 100, 111, 101, 115, 32, 110, 111, 116, 32, 112, 114, 111, 118, 101, 32, 116, 104, 97, 116]), ("cartulary/api.ErrSpent", [110, 111, 32, 107, 101, 121, 32, 105, 115, 32, 108, 101, 102, 116]), ("cartulary/api.ErrSigned", [110, 111, 116, 32, 115, 105, 103, 110, 101, 100, 32, 98, 121, 32, 119, 104, 111, 109, 32, 105, 116, 32, 115, 104, 111, 117, 108, 100, 32, 98, 101]), ("cartulary/api.ErrFork", [116, 119, 111, 32, 108, 111, 103, 115, 32, 111, 102, 32, 111, 110, 101, 32, 110, 97, 109, 101]), ("cartulary/api.ErrOld", [111, 108, 100, 101, 114, 32, 116, 104, 97, 110, 32, 119, 104, 97, 116, 32, 105, 115, 32, 107, 110, 111, 119, 110]), ("cartulary/api.ErrStopped", [115, 116, 111, 112, 112, 101, 100]), ("cartulary/api.ErrScript", [110, 111, 32, 115, 99, 114, 105, 112, 116])]
def senD (x : String × List UInt8) : String × DataW Unit := (x.1, .iface "*errors.errorString" (.ptr (.agg [.lit (.string x.2)])))

theorem laid_list {P : Program} {W : World} {ti tp te ts : TypeId} {ms : Array (String × TypeId)} {f : Field}
    (hi : P.underlying ti = some (.interface ms)) (hrow : ∀ u, P.typeName? 3 u = some "*errors.errorString" → u = tp)
    (hp : P.underlying tp = some (.pointer te)) (he : P.underlying te = some (.struct #[f])) (hft : f.type = ts) (hfo : f.offset = 0) (hs : P.underlying ts = some .string) (hc : P.cellsOf te = 1) (hcs : P.cellsOf ts = 1) :
    ∀ (l : List (String × List UInt8)) (ps : List MemPlace), DataW.LaidVars P W (l.map senD) ps → (∀ x ∈ l, ∃ g, P.globalNamed x.1 = some g ∧ (P.globals[g]?).map (·.type) = some ti) →
      (∀ b off, MemPlace.cell b off ∈ ps → (∃ c t, W.heap[b]? = some (.cells c t (0, 0))) ∧ ∀ u v, W.cell? ⟨b, off, none⟩ = some (.iface u v) → Value.okWide P W .any 0 u v) →
      ∃ zs : List Addr, zs.length = l.length ∧ (zs.map fun a => MemPlace.cell a.block a.off).Sublist ps ∧ ∀ (i : Nat) (x : String × List UInt8) (a : Addr), l[i]? = some x → zs[i]? = some a → W.var? P x.1 = some #[.iface tp (.pointer (some a))]
  | [], ps, _, _, _ => ⟨[], rfl, List.nil_sublist _, fun i x a h => by simp at h⟩
  | (n, text) :: r, ps, h, hg, hrows => by
    obtain ⟨g0, t0, cs0, f0, p0, q0, hg0, ht0, hv0, hd0, hq, e0⟩ := h
    obtain ⟨g, hgn, hgt⟩ := hg (n, text) (List.mem_cons_self ..)
    obtain rfl := Option.some.inj (hgn.symm.trans hg0)
    obtain rfl := Option.some.inj (hgt.symm.trans ht0)
    subst e0
    obtain ⟨l0⟩ := cs0
    have ok0 : ∀ u v, l0 = [.iface u v] → Value.okWide P W .any 0 u v := fun u v e => by
      subst e
      exact (hrows g 0 (by simp [MemPlace.row])).2 u v (by simpa using World.var?_cell hg0 hv0 0)
    obtain ⟨a0, s0, rfl, hc0, hs0, hz0, rfl⟩ := errorString_of_trod hi hrow hp he hft hfo hs hc hcs hd0 ok0
    obtain ⟨zs, hl, hsub, hvs⟩ := laid_list hi hrow hp he hft hfo hs hc hcs r q0 hq (fun x hx => hg x (List.mem_cons_of_mem _ hx)) (fun b off hm => hrows b off (List.mem_append_right _ hm))
    refine ⟨a0 :: zs, by simp [hl], ?_, ?_⟩
    · have e : MemPlace.row a0 1 = [MemPlace.cell a0.block a0.off] := by simp [MemPlace.row]
      rw [e, List.map_cons, List.append_assoc]
      exact (List.Sublist.cons_cons _ hsub).trans (List.sublist_append_right _ _)
    · intro i x a hx ha
      cases i with
      | zero => simp at hx ha; subst hx ha; exact hv0
      | succ i => exact hvs i x a (by simpa using hx) (by simpa using ha)

theorem star : "*" ++ "errors.errorString" = "*errors.errorString" := by decide
theorem rowE (u : TypeId) (h : Tryz.prog.typeName? 3 u = some "*errors.errorString") : u = 361 :=
  typeName_ptr_named (nm := "errors.errorString") (by rw [star]; kernel_rfl) (by kernel_rfl) (by decide) u (by rw [star]; exact h)
theorem cellsE : Tryz.prog.cellsOf 404 = 1 := by kernel_rfl
theorem cellsS : Tryz.prog.cellsOf 9 = 1 := by kernel_rfl
theorem etG : Tryz.prog.globalNamed "errors.errorType" = some 17 := by kernel_rfl
theorem rtT : (Tryz.prog.cutTypes.find? (·.1 == "internal/reflectlite.rtype")).map (·.2) = some 291 := by kernel_rfl
theorem oneRow : ((List.range 415).filter fun t => Tryz.prog.rowNamed t [101, 114, 114, 111, 114]) = [34] := by kernel_rfl
theorem sizeT : Tryz.prog.types.size = 415 := by kernel_rfl
theorem sentsNamed : ∀ x ∈ sents, ∃ g, Tryz.prog.globalNamed x.1 = some g ∧ (Tryz.prog.globals[g]?).map (·.type) = some 34 := by
  intro x hx
  simp only [sents, List.mem_cons, List.not_mem_nil, or_false] at hx
  rcases hx with rfl | rfl | rfl | rfl | rfl | rfl | rfl | rfl | rfl | rfl | rfl | rfl | rfl | rfl | rfl | rfl
  · exact ⟨0, by kernel_rfl, by kernel_rfl⟩
  · exact ⟨2, by kernel_rfl, by kernel_rfl⟩
  · exact ⟨5, by kernel_rfl, by kernel_rfl⟩
  · exact ⟨1, by kernel_rfl, by kernel_rfl⟩
  · exact ⟨4, by kernel_rfl, by kernel_rfl⟩
  · exact ⟨6, by kernel_rfl, by kernel_rfl⟩
  · exact ⟨7, by kernel_rfl, by kernel_rfl⟩
  · exact ⟨3, by kernel_rfl, by kernel_rfl⟩
  · exact ⟨8, by kernel_rfl, by kernel_rfl⟩
  · exact ⟨9, by kernel_rfl, by kernel_rfl⟩
  · exact ⟨10, by kernel_rfl, by kernel_rfl⟩
  · exact ⟨11, by kernel_rfl, by kernel_rfl⟩
  · exact ⟨12, by kernel_rfl, by kernel_rfl⟩
  · exact ⟨13, by kernel_rfl, by kernel_rfl⟩
  · exact ⟨14, by kernel_rfl, by kernel_rfl⟩
  · exact ⟨15, by kernel_rfl, by kernel_rfl⟩
theorem laid_parts {W : World} (h : laidMetH Tryz.prog laidE W) : laidMet Tryz.prog (sents.map senD) W ∧ handlesMet Tryz.prog [("errors.errorType", Rows.laid_errors_errorType)] W := by
  obtain ⟨h1, h2⟩ := laidMetH_iff.1 h
  exact ⟨h1, h2⟩
theorem handle_of {W : World} (h : handlesMet Tryz.prog [("errors.errorType", Rows.laid_errors_errorType)] W) : W.cell? ⟨17, 0, none⟩ = some (.iface 291 (.agg #[.pointer (some ⟨23, 34, none⟩)])) := by
  obtain ⟨name, u, ty, e1, e2, e3, e4, e5⟩ := h _ (List.mem_singleton.2 rfl)
  have en : name = [101, 114, 114, 111, 114] := (Option.some.inj e1).symm
  subst en
  obtain rfl := Option.some.inj (rtT.symm.trans e2)
  have hm : ty ∈ (List.range 415).filter fun t => Tryz.prog.rowNamed t [101, 114, 114, 111, 114] := List.mem_filter.2 ⟨List.mem_range.2 (by rw [← sizeT]; exact e3), e4⟩
  rw [oneRow] at hm
  obtain rfl := List.mem_singleton.1 hm
  have hh : typeHandle Tryz.prog 34 = .pointer (some ⟨23, 34, none⟩) := by kernel_rfl
  rw [hh] at e5
  simpa using World.var?_cell etG e5 0

set_option maxRecDepth 100000 in
theorem sent_of_laid {W : World} (h : laidMetH Tryz.prog laidE W) : ∃ a, Sent W.heap.size W a := by
  obtain ⟨⟨ps, hlv, hnd, hrows⟩, hh⟩ := laid_parts h
  obtain ⟨zs, hl, hsub, hvs⟩ := laid_list Tryz.underlying34 rowE Tryz.underlying361 Tryz.underlying404 rfl rfl Tryz.underlying9 cellsE cellsS sents ps hlv sentsNamed hrows
  have hl16 : zs.length = 16 := hl
  have hget : ∀ i, i < 16 → zs[i]? = some (zs.getD i default) := fun i hi => by simp [List.getD, List.getElem?_eq_getElem (show i < zs.length by omega)]
  have het := handle_of hh
  have hNG : 17 + 1 ≤ W.heap.size := World.block_lt_of_cell? W ⟨17, 0, none⟩ het
  have hblk : ∀ i, i < 16 → (zs.getD i default).block < W.heap.size ∧ ∃ c t, W.heap[(zs.getD i default).block]? = some (.cells c t (0, 0)) := fun i hi => by
    have hm : MemPlace.cell (zs.getD i default).block (zs.getD i default).off ∈ ps := hsub.subset (List.mem_map.2 ⟨_, List.mem_of_getElem? (hget i hi), rfl⟩)
    obtain ⟨c, t, hb⟩ := (hrows _ _ hm).1
    exact ⟨heap_lt hb, c, t, hb⟩
  have hnd2 := hnd.sublist hsub
  have hne : ∀ i j, i < 16 → j < 16 → i ≠ j → zs.getD i default ≠ zs.getD j default := fun i j hi hj hij e => by
    have h1 : (zs.map fun a => MemPlace.cell a.block a.off)[i]? = some (MemPlace.cell (zs.getD i default).block (zs.getD i default).off) := by rw [List.getElem?_map, hget i hi]; rfl
    have h2 : (zs.map fun a => MemPlace.cell a.block a.off)[j]? = some (MemPlace.cell (zs.getD i default).block (zs.getD i default).off) := by rw [List.getElem?_map, hget j hj, e]; rfl
    exact hij ((List.getElem?_inj (by simpa using (show i < zs.length by omega)) hnd2).1 (h1.trans h2.symm))
  exact ⟨fun i => zs.getD i default,
    by simpa using World.var?_cell (show Tryz.prog.globalNamed "cartulary/api.ErrNil" = some 0 by kernel_rfl) (hvs 0 _ _ rfl (hget 0 (by omega))) 0,
    by simpa using World.var?_cell (show Tryz.prog.globalNamed "cartulary/api.ErrArg" = some 2 by kernel_rfl) (hvs 1 _ _ rfl (hget 1 (by omega))) 0,
    by simpa using World.var?_cell (show Tryz.prog.globalNamed "cartulary/api.ErrInput" = some 5 by kernel_rfl) (hvs 2 _ _ rfl (hget 2 (by omega))) 0,
    by simpa using World.var?_cell (show Tryz.prog.globalNamed "cartulary/api.ErrLimit" = some 1 by kernel_rfl) (hvs 3 _ _ rfl (hget 3 (by omega))) 0,
    by simpa using World.var?_cell (show Tryz.prog.globalNamed "cartulary/api.ErrRange" = some 4 by kernel_rfl) (hvs 4 _ _ rfl (hget 4 (by omega))) 0,
    by simpa using World.var?_cell (show Tryz.prog.globalNamed "cartulary/api.ErrGone" = some 6 by kernel_rfl) (hvs 5 _ _ rfl (hget 5 (by omega))) 0,
    by simpa using World.var?_cell (show Tryz.prog.globalNamed "cartulary/api.ErrUnavailable" = some 7 by kernel_rfl) (hvs 6 _ _ rfl (hget 6 (by omega))) 0,
    by simpa using World.var?_cell (show Tryz.prog.globalNamed "cartulary/api.ErrDead" = some 3 by kernel_rfl) (hvs 7 _ _ rfl (hget 7 (by omega))) 0,
    by simpa using World.var?_cell (show Tryz.prog.globalNamed "cartulary/api.ErrCorrupt" = some 8 by kernel_rfl) (hvs 8 _ _ rfl (hget 8 (by omega))) 0,
    by simpa using World.var?_cell (show Tryz.prog.globalNamed "cartulary/api.ErrProof" = some 9 by kernel_rfl) (hvs 9 _ _ rfl (hget 9 (by omega))) 0,
    by simpa using World.var?_cell (show Tryz.prog.globalNamed "cartulary/api.ErrSpent" = some 10 by kernel_rfl) (hvs 10 _ _ rfl (hget 10 (by omega))) 0,
    by simpa using World.var?_cell (show Tryz.prog.globalNamed "cartulary/api.ErrSigned" = some 11 by kernel_rfl) (hvs 11 _ _ rfl (hget 11 (by omega))) 0,
    by simpa using World.var?_cell (show Tryz.prog.globalNamed "cartulary/api.ErrFork" = some 12 by kernel_rfl) (hvs 12 _ _ rfl (hget 12 (by omega))) 0,
    by simpa using World.var?_cell (show Tryz.prog.globalNamed "cartulary/api.ErrOld" = some 13 by kernel_rfl) (hvs 13 _ _ rfl (hget 13 (by omega))) 0,
    by simpa using World.var?_cell (show Tryz.prog.globalNamed "cartulary/api.ErrStopped" = some 14 by kernel_rfl) (hvs 14 _ _ rfl (hget 14 (by omega))) 0,
    by simpa using World.var?_cell (show Tryz.prog.globalNamed "cartulary/api.ErrScript" = some 15 by kernel_rfl) (hvs 15 _ _ rfl (hget 15 (by omega))) 0,
    het, hblk, hne, hNG, Nat.le_refl _⟩

/-- Which of the laid variables are errors, or what asks for them. -/
def keepE (x : String × DataW Unit) : Bool := laidE.any fun y => y.1 == x.1
def keepK (x : String × DataW Unit) : Bool := x.1 == "cartulary/sha.constants"
def keepH (x : String × DataW Unit) : Bool := x.1 == "cartulary/sha.beginning"
theorem gK : Tryz.prog.globalNamed "cartulary/sha.constants" = some 18 := by kernel_rfl
theorem tK : (Tryz.prog.globals[18]?).map (·.type) = some 258 := by kernel_rfl
theorem gH : Tryz.prog.globalNamed "cartulary/sha.beginning" = some 16 := by kernel_rfl
theorem tH : (Tryz.prog.globals[16]?).map (·.type) = some 218 := by kernel_rfl
theorem c32 : Tryz.prog.cellsOf 217 = 1 := by kernel_rfl
theorem c64s : Tryz.prog.cellsOf 258 = 64 := by kernel_rfl
theorem c8s : Tryz.prog.cellsOf 218 = 8 := by kernel_rfl
def KlI : List Int := Kl.map fun (x : Nat) => (x : Int)
def HlI : List Int := (wl H0).map fun (x : Nat) => (x : Int)
theorem dataK : (Rows.laid_cartulary_sha_constants : DataW Unit) = Lib.tabData .u32 KlI := by kernel_rfl
theorem dataH : (Rows.laid_cartulary_sha_beginning : DataW Unit) = Lib.tabData .u32 HlI := by kernel_rfl
theorem laid_of {l : List (String × DataW Unit)} {W : World} (h : laidMetH Tryz.prog l W) (e1 : l.filter keepK = [("cartulary/sha.constants", Rows.laid_cartulary_sha_constants)]) (e2 : l.filter keepH = [("cartulary/sha.beginning", Rows.laid_cartulary_sha_beginning)]) : Laid W := by
  have h1 := h.filter keepK
  have h2 := h.filter keepH
  rw [e1, MakeChecks.laidMetH_plain _ _ _ (by kernel_rfl), dataK] at h1
  rw [e2, MakeChecks.laidMetH_plain _ _ _ (by kernel_rfl), dataH] at h2
  have t1 := Lib.tabIs_of_head gK tK Tryz.underlying258 Tryz.underlying217 c32 c64s h1
  have t2 := Lib.tabIs_of_head gH tH Tryz.underlying218 Tryz.underlying217 c32 c8s h2
  refine ⟨fun i hi => ?_, fun i hi => ?_⟩
  · rw [t1.cell gK i hi]
    have e : ∀ j : Fin 64, KlI.getD j.val 0 = ((Kc j.val : Nat) : Int) := by decide +kernel
    rw [e ⟨i, hi⟩]
  · rw [t2.cell gH i hi, vals_at H0 i hi]
    have e : ∀ j : Fin 8, HlI.getD j.val 0 = (((wl H0).getD j.val 0 : Nat) : Int) := by decide +kernel
    rw [e ⟨i, hi⟩]

theorem sent_of {l : List (String × DataW Unit)} {W : World} (h : laidMetH Tryz.prog l W) (e : l.filter keepE = laidE) : ∃ a, Sent W.heap.size W a := by
  have h1 := h.filter keepE
  rw [e] at h1
  exact sent_of_laid h1

end Go.Proofs.YtjkhcplnedcmeaaGreatDoor
namespace Go.Proofs.YtjkhcplnedcmeaaGreatDoor
open Go.RowKit Go.ChangeShapes Go.WideShapes Go.ChangeAt
set_option linter.unusedVariables false
set_option linter.unusedSimpArgs false
theorem cellsQyT : Tryz.prog.cellsOf 49 = 4 := by kernel_rfl
theorem bytesQyT : Tryz.prog.bytesOf 49 = 32 := by kernel_rfl
theorem cellsAskT : Tryz.prog.cellsOf 24 = 3 := by kernel_rfl
theorem cellsQsT : Tryz.prog.cellsOf 22 = 1 := by kernel_rfl
theorem cellsIT : Tryz.prog.cellsOf 3 = 1 := by kernel_rfl
theorem cells64T : Tryz.prog.cellsOf 41 = 1 := by kernel_rfl
theorem u64_ofT {a : Int} (w : (Lit.int .u64 a).wf = true) : ∃ n : Nat, a = (n : Int) ∧ n < 18446744073709551616 := by
  have h : 0 ≤ a ∧ a ≤ 18446744073709551615 := by simpa [Lit.wf, IntKind.min, IntKind.max, IntKind.signed, IntKind.bits] using w
  exact ⟨a.toNat, by omega, by omega⟩
theorem i64_ofT {a : Int} (w : (Lit.int .i64 a).wf = true) : -9223372036854775808 ≤ a ∧ a ≤ 9223372036854775807 := by simpa [Lit.wf, IntKind.min, IntKind.max, IntKind.signed, IntKind.bits] using w
set_option maxRecDepth 100000 in
theorem qry_of {H : Type} {enc : TypeId × Value → H} {W : World} {m : Nat} {cs : List Value} {x : DataW H × List MemPlace} (h : DataW.trod enc Tryz.prog W 0 (fun _ => true) true m 49 cs = some x) : ∃ o : Int × Nat × Nat × Nat, cs = [.int .i64 o.1, .int .u64 (o.2.1 : Int), .int .u64 (o.2.2.1 : Int), .int .u64 (o.2.2.2 : Int)] ∧ ((-9223372036854775808 ≤ o.1 ∧ o.1 ≤ 9223372036854775807) ∧ o.2.1 < 18446744073709551616 ∧ o.2.2.1 < 18446744073709551616 ∧ o.2.2.2 < 18446744073709551616) := by
  obtain ⟨xs, n, _, hx, hl, hxl, hf⟩ := DataW.trod_struct Tryz.underlying49 h
  rw [cellsQyT] at hl
  have h0 : DataW.trod enc Tryz.prog W 0 (fun _ => true) true n 3 ((cs.drop 0).take (Tryz.prog.cellsOf 3)) = xs[0]? := hf 0 _ rfl
  have h1 : DataW.trod enc Tryz.prog W 0 (fun _ => true) true n 41 ((cs.drop 1).take (Tryz.prog.cellsOf 41)) = xs[1]? := hf 1 _ rfl
  have h2 : DataW.trod enc Tryz.prog W 0 (fun _ => true) true n 41 ((cs.drop 2).take (Tryz.prog.cellsOf 41)) = xs[2]? := hf 2 _ rfl
  have h3 : DataW.trod enc Tryz.prog W 0 (fun _ => true) true n 41 ((cs.drop 3).take (Tryz.prog.cellsOf 41)) = xs[3]? := hf 3 _ rfl
  rw [cellsIT] at h0
  rw [cells64T] at h1 h2 h3
  have hxl' : xs.length = 4 := hxl
  rw [List.getElem?_eq_getElem (show 0 < xs.length by omega)] at h0
  rw [List.getElem?_eq_getElem (show 1 < xs.length by omega)] at h1
  rw [List.getElem?_eq_getElem (show 2 < xs.length by omega)] at h2
  rw [List.getElem?_eq_getElem (show 3 < xs.length by omega)] at h3
  match cs, hl, h0, h1, h2, h3 with
  | [c0, c1, c2, c3], _, h0, h1, h2, h3 =>
    simp only [List.drop_zero, List.drop_succ_cons, List.take_succ_cons, List.take_zero] at h0 h1 h2 h3
    obtain ⟨A, hA, _, wA⟩ := DataW.trod_int Tryz.underlying3 h0
    obtain ⟨X, hX, _, wX⟩ := DataW.trod_int Tryz.underlying41 h1
    obtain ⟨Y, hY, _, wY⟩ := DataW.trod_int Tryz.underlying41 h2
    obtain ⟨Z, hZ, _, wZ⟩ := DataW.trod_int Tryz.underlying41 h3
    obtain ⟨x1, rfl, b1⟩ := u64_ofT wX
    obtain ⟨y1, rfl, b2⟩ := u64_ofT wY
    obtain ⟨z1, rfl, b3⟩ := u64_ofT wZ
    exact ⟨(A, x1, y1, z1), by rw [List.singleton_inj.1 hA, List.singleton_inj.1 hX, List.singleton_inj.1 hY, List.singleton_inj.1 hZ], i64_ofT wA, b1, b2, b3⟩
set_option maxRecDepth 100000 in
/-- Queries that came in within something else. -/
theorem qrys_in {H : Type} {enc : TypeId × Value → H} {W : World} {m0 : Nat} {x : Value} {y : DataW H × List MemPlace} (h : DataW.trod enc Tryz.prog W 0 (fun _ => true) true m0 22 [x] = some y) :
    ∃ (p : Option Addr) (qs : List (Int × Nat × Nat × Nat)) (c : Nat), x = .slice p qs.length c ∧ Qrs W p qs ∧ Qok qs ∧ ((∀ q ∈ y.1.weights Tryz.prog 22, q ≤ reachBytes) → qs.length ≤ reachBytes) := by
  rcases Deep.open_slice Tryz.underlying22 h with ⟨hcs, _⟩ | ⟨a, l0, cap, m, n, D, Pl, hcs, _, hl, hm, hmm, hx, hel⟩
  · simp at hcs
    subst hcs
    exact ⟨none, [], 0, rfl, fun i k x y z hi => by simp at hi, fun q hq => by simp at hq, by simp⟩
  · simp at hcs
    subst hcs
    simp only [if_true] at hmm
    subst hmm
    rw [cellsQyT] at hel
    have hch : ∀ i, i < l0 → ∃ o : Int × Nat × Nat × Nat, (∀ j, j < 4 → W.cell? ((a.add (i * 4)).add j) = [Value.int .i64 o.1, .int .u64 (o.2.1 : Int), .int .u64 (o.2.2.1 : Int), .int .u64 (o.2.2.2 : Int)][j]?) ∧ ((-9223372036854775808 ≤ o.1 ∧ o.1 ≤ 9223372036854775807) ∧ o.2.1 < 18446744073709551616 ∧ o.2.2.1 < 18446744073709551616 ∧ o.2.2.2 < 18446744073709551616) := by
      intro i hi
      obtain ⟨cs, hc, htr⟩ := hel i (by omega)
      obtain ⟨o, hoc, hok⟩ := qry_of htr
      unfold World.cells? at hc
      rw [if_pos (Nat.zero_le _)] at hc
      exact ⟨o, fun j hj => by rw [← hoc]; exact mapM_some_get hc j j (by simp [hj]), hok⟩
    obtain ⟨f, hfun⟩ := Deep.choose_lt hch
    refine ⟨some a, (List.range l0).map f, m, by simp, fun i k x y z hk => ?_, fun q hq => ?_, fun hw => ?_⟩
    rotate_left 2
    · have hxd : y.1 = .slice _ _ := congrArg Prod.fst hx
      have h1 := hw ((l0 + (m - l0)) * 32) (by rw [hxd]; simp [DataW.weights, Tryz.underlying22, bytesQyT])
      simp only [List.length_map, List.length_range]
      omega
    · have hkl : i < l0 := by
        have := (List.getElem?_eq_some_iff.1 hk).1
        simpa using this
      have hfk : f i = (k, x, y, z) := by simpa [hkl] using hk
      have hc0 := (hfun 0 (by omega)).1 0 (by omega)
      obtain ⟨g, off, spot⟩ := a
      have hspot : spot = none := by
        have : ([Value.int .i64 (f 0).1, .int .u64 ((f 0).2.1 : Int), .int .u64 ((f 0).2.2.1 : Int), .int .u64 ((f 0).2.2.2 : Int)])[0]? = some (.int .i64 (f 0).1) := rfl
        rw [this] at hc0
        simpa [Addr.add] using World.cell?_spot hc0
      subst hspot
      have hj := fun j (hj : j < 4) => (hfun i hkl).1 j hj
      rw [hfk] at hj
      have e0 := hj 0 (by omega)
      have e1 := hj 1 (by omega)
      have e2 := hj 2 (by omega)
      have e3 := hj 3 (by omega)
      rw [addO, addO] at e0 e1 e2 e3
      exact ⟨g, off, rfl, World.block_lt_of_cell? _ _ (e0.trans rfl), e0, e1, e2, e3⟩
    · obtain ⟨i, hi, rfl⟩ := List.mem_map.1 hq
      exact (hfun i (List.mem_range.1 hi)).2
set_option maxRecDepth 100000 in
theorem asked16_of {H : Type} {enc : TypeId × Value → H} {W : World} {r : Reach} {b0 : Nat} {v : Value} {d : DataW H} {p : List MemPlace} (hv : Value.okWide Tryz.prog W r b0 24 v) (h : DataW.Trod enc Tryz.prog W 0 (fun _ => true) true 24 v d p) {ts : List TypeId} {ds : List (DataW H)} (hsz : (DataW.weightsEach Tryz.prog ts ds).all (· ≤ reachBytes) = true) (j : Nat) (ht : ts[j]? = some 24) (hd : ds[j]? = some d) :
    ∃ (lv cp : Int) (a : Option Addr) (qs : List (Int × Nat × Nat × Nat)) (c : Nat), v = .agg #[.int .i64 lv, .int .i64 cp, .slice a qs.length c] ∧ (-9223372036854775808 ≤ lv ∧ lv ≤ 9223372036854775807) ∧ (-9223372036854775808 ≤ cp ∧ cp ≤ 9223372036854775807) ∧ Qrs W a qs ∧ Qok qs ∧ qs.length < 4611686018427387904 := by
  simp only [Value.okWide, Tryz.underlying24] at hv
  obtain ⟨arr, rfl, hn, _⟩ := hv
  obtain ⟨fuel, hf0⟩ := h
  obtain ⟨xs, n, _, hx, hl, hxl, hf⟩ := DataW.trod_struct Tryz.underlying24 hf0
  rw [cellsAskT] at hl
  obtain ⟨cs, hcs⟩ : ∃ cs, cs = (Value.agg arr).cells.toList := ⟨_, rfl⟩
  have hca : cs = arr.toList := by rw [hcs]; rfl
  rw [← hcs] at hl hf
  have h0 : DataW.trod enc Tryz.prog W 0 (fun _ => true) true n 3 ((cs.drop 0).take (Tryz.prog.cellsOf 3)) = xs[0]? := hf 0 _ rfl
  have h1 : DataW.trod enc Tryz.prog W 0 (fun _ => true) true n 3 ((cs.drop 1).take (Tryz.prog.cellsOf 3)) = xs[1]? := hf 1 _ rfl
  have h2 : DataW.trod enc Tryz.prog W 0 (fun _ => true) true n 22 ((cs.drop 2).take (Tryz.prog.cellsOf 22)) = xs[2]? := hf 2 _ rfl
  rw [cellsIT] at h0 h1
  rw [cellsQsT] at h2
  have hxl' : xs.length = 3 := hxl
  match xs, hxl', hx, h0, h1, h2 with
  | [y0, y1, y2], _, hx, h0, h1, h2 =>
    have h0 := h0.trans (show _ = some y0 from rfl)
    have h1 := h1.trans (show _ = some y1 from rfl)
    have h2 := h2.trans (show _ = some y2 from rfl)
    match cs, hl, h0, h1, h2, hca with
    | [c0, c1, c2], _, h0, h1, h2, hca =>
      simp only [List.drop_zero, List.drop_succ_cons, List.take_succ_cons, List.take_zero] at h0 h1 h2
      obtain ⟨X, hX, _, wX⟩ := DataW.trod_int Tryz.underlying3 h0
      obtain ⟨Y, hY, _, wY⟩ := DataW.trod_int Tryz.underlying3 h1
      obtain ⟨a, qs, c, hq, hqr, hqo, hw⟩ := qrys_in h2
      have hr := reachBytes_lt
      have hlen := hw (fun q hq => by
        have hq3 : q ∈ d.weights Tryz.prog 24 := by
          have hdd : d = .agg [y0.1, y1.1, y2.1] := congrArg Prod.fst hx
          rw [hdd]
          simp only [DataW.weights, Tryz.underlying24]
          show q ∈ DataW.weightsEach Tryz.prog [3, 3, 22] [y0.1, y1.1, y2.1]
          simp only [DataW.weightsEach]
          exact List.mem_append_right _ (List.mem_append_right _ (List.mem_append_left _ hq))
        have := List.all_eq_true.1 hsz _ (DataW.weights_mem_each ht hd q hq3)
        simpa using this)
      refine ⟨X, Y, a, qs, c, ?_, i64_ofT wX, i64_ofT wY, hqr, hqo, by omega⟩
      congr 1
      apply Array.ext'
      rw [← hca, hq, List.singleton_inj.1 hX, List.singleton_inj.1 hY]
end Go.Proofs.YtjkhcplnedcmeaaGreatDoor
namespace Go.Proofs.YtjkhcplnedcmeaaGreatDoor
open Go.RowKit Go.ChangeShapes Go.WideShapes Go.ChangeAt
set_option linter.unusedVariables false
set_option linter.unusedSimpArgs false
theorem cellsIv : Tryz.prog.cellsOf 3 = 1 := by kernel_rfl
theorem ints_ofB {H : Type} {enc : TypeId × Value → H} {W : World} {v : Value} {d : DataW H} {p : List MemPlace} (hv : ∃ a l c, v = .slice a l c) (h : DataW.Trod enc Tryz.prog W 0 (fun _ => true) true 54 v d p) {ts : List TypeId} {ds : List (DataW H)} (hsz : (DataW.weightsEach Tryz.prog ts ds).all (· ≤ reachBytes) = true) (j : Nat) (ht : ts[j]? = some 54) (hd : ds[j]? = some d) :
    ∃ a c zs, v = .slice a (List.length zs) c ∧ Iz W a zs ∧ (∀ j, -9223372036854775808 ≤ zs.getD j 0 ∧ zs.getD j 0 ≤ 9223372036854775807) ∧ zs.length ≤ 17592186044416 := by
  obtain ⟨a, l, c, rfl⟩ := hv
  obtain ⟨fuel, hf⟩ := h
  rcases open_ints Tryz.underlying54 Tryz.underlying3 cellsIv hf with ⟨hcs, _⟩ | ⟨x, l', c', zs, hcs, _, hl, hm, hz, hx, hcell, hwz⟩
  · simp [Value.cells] at hcs
    obtain ⟨rfl, rfl, rfl⟩ := hcs
    exact ⟨none, 0, [], rfl, fun j hj => by simp at hj, fun j => by simp, by simp⟩
  · simp [Value.cells] at hcs
    obtain ⟨rfl, rfl, rfl⟩ := hcs
    have hzl : zs.length = c := by simpa using hz
    have hxd : d = .slice (lits .i64 (zs.take l)) (lits .i64 (zs.drop l)) := congrArg Prod.fst hx
    have hw := sized_slice hsz ht (by rw [hd, hxd]) Tryz.underlying54
    have h4 := reachBytes_lt
    have hb1 : Tryz.prog.bytesOf 3 = 8 := by kernel_rfl
    rw [hb1] at hw
    have hle : (lits (H := H) .i64 (zs.take l)).length = l := by simp [lits]; omega
    refine ⟨some x, c, zs.take l, by rw [List.length_take, Nat.min_eq_left (by omega)], ?_, fun k => ?_, by rw [List.length_take]; omega⟩
    · intro k hk
      simp only [List.length_take] at hk
      have hkz : k < zs.length := by omega
      obtain ⟨b, o, spot⟩ := x
      have hc := hcell k hkz
      have hspot : spot = none := by
        have h0 := hcell 0 (by omega)
        simpa [Addr.add] using World.cell?_spot h0
      subst hspot
      rw [addO] at hc
      refine ⟨b, o, rfl, hc.trans ?_⟩
      rw [List.getD_eq_getElem?_getD, List.getD_eq_getElem?_getD, List.getElem?_take, if_pos (by omega)]
    · rw [List.getD_eq_getElem?_getD]
      cases hq : (zs.take l)[k]? with
      | none => simp
      | some y =>
        have := hwz y (List.mem_of_mem_take (List.mem_of_getElem? hq))
        simpa [Lit.wf, IntKind.min, IntKind.max, IntKind.signed, IntKind.bits] using this
end Go.Proofs.YtjkhcplnedcmeaaGreatDoor
