/- Every script of writers. -/
import Derived.Test.YtlkkadkdanjfoaaDoorV4
namespace Go.Proofs.YtlkkadkdanjfoaaDoor
open Go.RowKit
set_option linter.unusedVariables false
set_option linter.unusedSimpArgs false

/-- An aggregate loaded whole, as one step of a statement whose order is drawn. -/
theorem step_load_agg {P : Program} {ops : Array Oper} {o : Oper} {a : Act} {w : World} {K : Act → World → Prop} {Q : Exit → Act → World → Prop} {E : Prop} (hgd : o.guard = none) (x : Operand) (t : TypeId) (n : Nat) (ho : o.op = .load t x)
    (hagg : ∀ W : World, (isAgg t).run P W = .ok true W) (hsz : ∀ W : World, (sizeOf t).run P W = .ok n W) (g off : Nat) (hx : a.eval x = .pointer (some ⟨g, off, none⟩)) (cur : Array Value) (ty : TypeId) (f : Nat × Nat) (hg : w.heap[g]? = some (.cells cur ty f))
    (V : Array Value) (hV : V.size = n) (hc : ∀ j, j < n → cur[off + j]? = V[j]?)
    (h : K (a.put o.dst (.agg V)) w) : if Region.wanted o (yielded ops a.tmps) = true then Oper.wp P o a w K Q else E := by
  have hw : Region.wanted o (yielded ops a.tmps) = true := by simp [Region.wanted, hgd]
  rw [if_pos hw]
  have hl : (loadCells ⟨g, off, none⟩ n).run P w = .ok V w := by
    have := run_loadCells_list (P := P) w ⟨g, off, none⟩ V.toList (fun j v hv => by
      have hj : j < n := by
        have := (List.getElem?_eq_some_iff.1 hv).1
        simpa [hV] using this
      rw [addO, cell_of hg, hc j hj]
      simpa using hv)
    simpa [hV] using this
  unfold Oper.wp execOp
  simp only [ho, hx, Instr.loadAt, sure, loadVar, Sem.run_bind, Sem.run_pure, hagg, hsz, hl, Result.andThen_ok, if_true]
  exact h
theorem foR_cases (kd n wd : Int) (t : ByteArray) (lh : List UInt8) : ∃ (L : List UInt8) (c p : Int), foR kd n wd t lh = .tuple #[.string ⟨L.toArray⟩, .agg #[.int .i64 c, .int .i64 p]] ∧ ((fmT kd n wd t lh = some L ∧ c = 0 ∧ p = 0) ∨ (fmT kd n wd t lh = none ∧ L = [] ∧ c = 2 ∧ p = -1)) := by
  unfold foR
  rcases hf : fmT kd n wd t lh with _ | F
  · exact ⟨[], 2, -1, rfl, .inr ⟨rfl, rfl, rfl, rfl⟩⟩
  · exact ⟨F, 0, 0, rfl, .inl ⟨rfl, rfl, rfl⟩⟩

theorem arr37 {A : Array Value} (h : A.size = 37) : ∃ f : Nat → Value, A = #[f 0, f 1, f 2, f 3, f 4, f 5, f 6, f 7, f 8, f 9, f 10, f 11, f 12, f 13, f 14, f 15, f 16, f 17, f 18, f 19, f 20, f 21, f 22, f 23, f 24, f 25, f 26, f 27, f 28, f 29, f 30, f 31, f 32, f 33, f 34, f 35, f 36] := by
  refine ⟨fun i => A.getD i undef, ?_⟩
  apply Array.ext'
  show A.toList = (List.range 37).map fun i => A.getD i undef
  apply List.ext_getElem (by simp [h])
  intro i h1 h2
  have h3 : i < A.size := by simpa using h1
  simp [Array.getD, h3]
theorem lit37 (f : Nat → Value) (j : Nat) (hj : j < 37) : (#[f 0, f 1, f 2, f 3, f 4, f 5, f 6, f 7, f 8, f 9, f 10, f 11, f 12, f 13, f 14, f 15, f 16, f 17, f 18, f 19, f 20, f 21, f 22, f 23, f 24, f 25, f 26, f 27, f 28, f 29, f 30, f 31, f 32, f 33, f 34, f 35, f 36] : Array Value)[j]? = some (f j) := by
  have : j = 0 ∨ j = 1 ∨ j = 2 ∨ j = 3 ∨ j = 4 ∨ j = 5 ∨ j = 6 ∨ j = 7 ∨ j = 8 ∨ j = 9 ∨ j = 10 ∨ j = 11 ∨ j = 12 ∨ j = 13 ∨ j = 14 ∨ j = 15 ∨ j = 16 ∨ j = 17 ∨ j = 18 ∨ j = 19 ∨ j = 20 ∨ j = 21 ∨ j = 22 ∨ j = 23 ∨ j = 24 ∨ j = 25 ∨ j = 26 ∨ j = 27 ∨ j = 28 ∨ j = 29 ∨ j = 30 ∨ j = 31 ∨ j = 32 ∨ j = 33 ∨ j = 34 ∨ j = 35 ∨ j = 36 := by omega
  rcases this with rfl | rfl | rfl | rfl | rfl | rfl | rfl | rfl | rfl | rfl | rfl | rfl | rfl | rfl | rfl | rfl | rfl | rfl | rfl | rfl | rfl | rfl | rfl | rfl | rfl | rfl | rfl | rfl | rfl | rfl | rfl | rfl | rfl | rfl | rfl | rfl | rfl <;> rfl
/-- What putting a thing to the writer k does, whatever it is. -/
def Sp (a : Nat → Addr) (rp : Option Addr) (A : Array Value) (W : World) (B M k : Nat) (L : List UInt8) (c p : Int) (l0 l1 : List UInt8) : Prop :=
  ∀ W1, Fr (fun _ => False) W W1 → Calls Tryd.prog 13 #[.pointer rp, .agg A] W1 fun e w' => ∃ ev code, e = .returned ev ∧ EV w' a ev code none ∧ sameB code none c p = true ∧ (∃ v0' v1', Cw w' B v0' v1' (if k = 0 then l0 ++ L else l0) (if k = 1 then l1 ++ L else l1) l0 l1) ∧ Fr (fun j => B ≤ j ∧ j < M) W1 w'

theorem WP.up {B M : Nat} {v : Value} {W : World} {b : Nat} {l : List UInt8} (h : Wr W b v l) (hB : B ≤ b) (hM : b < M) (hg : ∀ g, v.ownBlock = some g → g < M) : ∀ j, j < W.heap.size → WP b v j → B ≤ j ∧ j < M := fun j _ q => by
  rcases q with q | q
  · omega
  · have := h.gt j q; have := hg j q; omega
theorem EV.any {w w' : World} {a : Nat → Addr} {v : Value} {code : Nat} (h : EV w a v code none) : EV w' a v code none := by
  rcases h with h | h | ⟨_, _, _, _, _, _, _, hp⟩
  · exact .inl h
  · exact .inr (.inl h)
  · cases hp
theorem fm_some {kd n wd : Int} {t : ByteArray} {lh L : List UInt8} {c p : Int} (h4 : kd % 4 ≠ 0) (hF : (fmT kd n wd t lh = some L ∧ c = 0 ∧ p = 0) ∨ (fmT kd n wd t lh = none ∧ L = [] ∧ c = 2 ∧ p = -1)) : c = 0 ∧ p = 0 := by
  rcases hF with ⟨_, h⟩ | ⟨h, _⟩
  · exact h
  · exfalso
    unfold fmT at h
    rw [if_neg h4] at h
    split at h
    · cases h
    · split at h
      · cases h
      · cases h
theorem sp0 {B' : Nat} {a : Nat → Addr} {A : Array Value} {W : World} {B M : Nat} {L : List UInt8} {c p kd n wd : Int} {t : ByteArray} {lh l0 l1 : List UInt8} {v0 v1 : Value} (hS : Sent B' W a) (hC : Cw W B v0 v1 l0 l1 l0 l1) (hT : Tf A kd n wd t lh) (ht : t.size ≤ 1048576) (hl : l0.length ≤ 1000000000000) (hM : B + 1 + 1 + 1 + 1 < M) (hg : ∀ g, v0.ownBlock = some g → g < M)
    (hF : (fmT kd n wd t lh = some L ∧ c = 0 ∧ p = 0) ∨ (fmT kd n wd t lh = none ∧ L = [] ∧ c = 2 ∧ p = -1)) : Sp a (some ⟨B, 0, none⟩) A W B M 0 L c p l0 l1 := by
  intro W1 f1
  have hS1 := hS.fr f1 (fun _ _ f => f)
  have hC1 := hC.fr f1 (fun _ _ f => f)
  rw [if_pos rfl, if_neg (by decide)]
  rcases hF with ⟨hF, rfl, rfl⟩ | ⟨hF, rfl, rfl, rfl⟩
  · refine (put_t hS1 hC1.h0 hl hT (by omega)).mono ?_
    rintro e w' ⟨ev, rfl, hm, hf⟩
    rw [hF] at hm
    obtain ⟨rfl, v', hW', hn⟩ := hm
    exact ⟨_, 0, rfl, .inl ⟨rfl, rfl, rfl⟩, rfl, ⟨v', v1, hC1.put0 hf hW' hn⟩, hf.mono (WP.up hC1.h0 (Nat.le_refl _) (by omega) hg)⟩
  · refine (put_a hS1 hC1.h0 hT hF).mono ?_
    rintro e w' ⟨ev, rfl, rfl, hf⟩
    rw [List.append_nil]
    exact ⟨_, 2, rfl, .inr (.inl ⟨1, by omega, rfl, rfl, rfl⟩), rfl, ⟨v0, v1, hC1.fr hf (fun _ _ f => f)⟩, hf.mono (fun _ _ f => f.elim)⟩
theorem sp1 {B' : Nat} {a : Nat → Addr} {A : Array Value} {W : World} {B M : Nat} {L : List UInt8} {c p kd n wd : Int} {t : ByteArray} {lh l0 l1 : List UInt8} {v0 v1 : Value} (hS : Sent B' W a) (hC : Cw W B v0 v1 l0 l1 l0 l1) (hT : Tf A kd n wd t lh) (ht : t.size ≤ 1048576) (hl : l1.length ≤ 1000000000000) (hM : B + 1 + 1 + 1 + 1 < M) (hg : ∀ g, v1.ownBlock = some g → g < M)
    (hF : (fmT kd n wd t lh = some L ∧ c = 0 ∧ p = 0) ∨ (fmT kd n wd t lh = none ∧ L = [] ∧ c = 2 ∧ p = -1)) : Sp a (some ⟨B + 1, 0, none⟩) A W B M 1 L c p l0 l1 := by
  intro W1 f1
  have hS1 := hS.fr f1 (fun _ _ f => f)
  have hC1 := hC.fr f1 (fun _ _ f => f)
  rw [if_neg (by decide), if_pos rfl]
  rcases hF with ⟨hF, rfl, rfl⟩ | ⟨hF, rfl, rfl, rfl⟩
  · refine (put_t hS1 hC1.h1 hl hT (by omega)).mono ?_
    rintro e w' ⟨ev, rfl, hm, hf⟩
    rw [hF] at hm
    obtain ⟨rfl, v', hW', hn⟩ := hm
    exact ⟨_, 0, rfl, .inl ⟨rfl, rfl, rfl⟩, rfl, ⟨v0, v', hC1.put1 hf hW' hn⟩, hf.mono (WP.up hC1.h1 (by omega) (by omega) hg)⟩
  · refine (put_a hS1 hC1.h1 hT hF).mono ?_
    rintro e w' ⟨ev, rfl, rfl, hf⟩
    rw [List.append_nil]
    exact ⟨_, 2, rfl, .inr (.inl ⟨1, by omega, rfl, rfl, rfl⟩), rfl, ⟨v0, v1, hC1.fr hf (fun _ _ f => f)⟩, hf.mono (fun _ _ f => f.elim)⟩
theorem spn {B' : Nat} {a : Nat → Addr} {rp : Option Addr} {A : Array Value} {W : World} {B M k : Nat} {c p kd n wd : Int} {t : ByteArray} {lh l0 l1 : List UInt8} {v0 v1 : Value} (hS : Sent B' W a) (hC : Cw W B v0 v1 l0 l1 l0 l1) (hT : Tf A kd n wd t lh) (hN : Nt W rp) (hk : 2 ≤ k)
    (hF : (kd % 4 = 0 ∧ c = 1 ∧ p = -1) ∨ (kd % 4 ≠ 0 ∧ c = 0 ∧ p = 0)) : Sp a rp A W B M k [] c p l0 l1 := by
  intro W1 f1
  have hS1 := hS.fr f1 (fun _ _ f => f)
  have hC1 := hC.fr f1 (fun _ _ f => f)
  rw [if_neg (by omega), if_neg (by omega)]
  refine (put_n hS1 (hN.fr f1) hT).mono ?_
  rintro e w' ⟨ev, rfl, hev, hf⟩
  rcases hF with ⟨h4, rfl, rfl⟩ | ⟨h4, rfl, rfl⟩
  · rw [if_pos h4] at hev
    exact ⟨_, 1, rfl, .inr (.inl ⟨0, by omega, hev, rfl, rfl⟩), rfl, ⟨v0, v1, hC1.fr hf (fun _ _ f => f)⟩, hf.mono (fun _ _ f => f.elim)⟩
  · rw [if_neg h4] at hev
    exact ⟨_, 0, rfl, .inl ⟨hev, rfl, rfl⟩, rfl, ⟨v0, v1, hC1.fr hf (fun _ _ f => f)⟩, hf.mono (fun _ _ f => f.elim)⟩
end Go.Proofs.YtlkkadkdanjfoaaDoor
