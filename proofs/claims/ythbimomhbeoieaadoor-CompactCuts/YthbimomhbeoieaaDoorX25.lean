/- compact: ranges that lie apart. -/
import Derived.Test.YthbimomhbeoieaaDoorX24
namespace Go.Proofs.YthbimomhbeoieaaDoor
open Go.RowKit Go.Shelf
set_option linter.unusedVariables false
set_option linter.unusedSimpArgs false
/-- A range in memory whose blocks are among P. -/
def Rp (w : World) (P : Nat → Prop) (b B E : Nat) (T : List Tre) : Prop := ∃ base v, Rg w b base v B E T ∧ P b ∧ ∀ g, v.ownBlock = some g → P g
theorem Rp.nw {w w' : World} {P : Nat → Prop} {b B E : Nat} {T : List Tre} (h : Rp w P b B E T) (n : Nw w w') : Rp w' P b B E T := by
  obtain ⟨base, v, h1, h2, h3⟩ := h
  exact ⟨base, v, h1.nw n, h2, h3⟩
theorem Rp.fr {w w' : World} {P S : Nat → Prop} {b B E : Nat} {T : List Tre} (h : Rp w P b B E T) (f : Fr S w w') (hd : ∀ k, P k → ¬ S k) : Rp w' P b B E T := by
  obtain ⟨base, v, h1, h2, h3⟩ := h
  exact ⟨base, v, h1.fr f (hd b h2) (fun g hg => hd g (h3 g hg)), h2, h3⟩
theorem Rp.mono {w : World} {P Q : Nat → Prop} {b B E : Nat} {T : List Tre} (h : Rp w P b B E T) (hq : ∀ k, P k → Q k) : Rp w Q b B E T := by
  obtain ⟨base, v, h1, h2, h3⟩ := h
  exact ⟨base, v, h1, hq b h2, fun g hg => hq g (h3 g hg)⟩
theorem Rp.len {w : World} {P : Nat → Prop} {b B E : Nat} {T : List Tre} (h : Rp w P b B E T) : ∃ base v, Rg w b base v B E T := by
  obtain ⟨base, v, h1, _⟩ := h
  exact ⟨base, v, h1⟩
theorem pjoin {w : World} {P Q : Nat → Prop} {b b2 B E F : Nat} {T U : List Tre} (h : Rp w P b B E T) (h2 : Rp w Q b2 E F U) (hd : ∀ k, P k → ¬ Q k) (hl : T.length + U.length ≤ 1000000) (hL : Laid w) :
    Calls Tryd.prog 10 #[.pointer (some ⟨b, 0, none⟩), .pointer (some ⟨b2, 0, none⟩)] w fun e w' => e = .returned .nilIface ∧ Rp w' (fun k => P k ∨ (w.heap.size ≤ k ∧ k < w'.heap.size)) b B F (pshAll T U) ∧ Fr P w w' := by
  obtain ⟨base, v, r, pb, pv⟩ := h
  obtain ⟨base2, v2, r2, qb, qv⟩ := h2
  refine (rjoin_yes r r2 ⟨fun e => hd b pb (e ▸ qb), fun g hg e => hd b pb (e ▸ qv g hg), fun g hg e => hd g (pv g hg) (e ▸ qb), fun g hg g2 hg2 e => hd g (pv g hg) (e ▸ qv g2 hg2)⟩ hl hL).mono ?_
  rintro e w' ⟨rfl, v', R', _, S', F'⟩
  refine ⟨rfl, ⟨base, v', R', .inl pb, fun g hg => ?_⟩, F'.mono (fun k _ q => ?_)⟩
  · rcases S' with q | ⟨g', q, q2⟩
    · exact .inl (pv g (by rw [← q]; exact hg))
    · rw [q] at hg; cases hg
      exact .inr ⟨q2, (R'.own.lt _ q).2⟩
  · rcases q with q | q
    · exact q ▸ pb
    · exact pv k q
theorem pappend {w : World} {P : Nat → Prop} {b B E : Nat} {T : List Tre} (h : Rp w P b B E T) (hE : E < 9223372036854775808) (x : List UInt8) (hx : x.length = 32) (hl : T.length ≤ 1000000) (hL : Laid w) :
    Calls Tryd.prog 9 #[.pointer (some ⟨b, 0, none⟩), .agg (hbs x)] w fun e w' => e = .returned .nilIface ∧ Rp w' (fun k => P k ∨ (w.heap.size ≤ k ∧ k < w'.heap.size)) b B (E + 1) (psh T ⟨0, E, x⟩) ∧ Fr P w w' := by
  obtain ⟨base, v, r, pb, pv⟩ := h
  refine (rappend_yes r hE x hx hl hL).mono ?_
  rintro e w' ⟨rfl, v', R', S', F'⟩
  refine ⟨rfl, ⟨base, v', R', .inl pb, fun g hg => ?_⟩, F'.mono (fun k _ q => ?_)⟩
  · rcases S' with q | ⟨g', q, q2⟩
    · exact .inl (pv g (by rw [← q]; exact hg))
    · rw [q] at hg; cases hg
      exact .inr ⟨q2, (R'.own.lt _ q).2⟩
  · rcases q with q | q
    · exact q ▸ pb
    · exact pv k q
theorem pappended {w : World} (n : Nat) (L : List (List UInt8)) (h32 : ∀ x ∈ L, x.length = 32) (hv : Value) (hH : Hss w hv L) (hn : n + L.length ≤ 9223372036854775808) (hll : L.length < 4611686018427387904) (hL : Laid w) :
    Calls Tryd.prog 20 #[.int .u64 (n : Int), hv] w fun e w' => ∃ rb, e = .returned (.pointer (some ⟨rb, 0, none⟩)) ∧ Rp w' (fun k => w.heap.size ≤ k ∧ k < w'.heap.size) rb n (n + L.length) (apt n L) ∧ Nw w w' := by
  refine (appended_any n L h32 hv hH hn hll hL).mono ?_
  rintro e w' ⟨rb, base, v, rfl, r, l1, l2, nw⟩
  exact ⟨rb, rfl, ⟨base, v, r, ⟨l1, r.lt.1⟩, fun g hg => ⟨by have := (r.own.lt g hg).1; omega, (r.own.lt g hg).2⟩⟩, nw⟩
theorem pcopy {w : World} {P : Nat → Prop} {b B E : Nat} {T : List Tre} (h : Rp w P b B E T) (hl : T.length ≤ 1000000) (hL : Laid w) :
    Calls Tryd.prog 12 #[.pointer (some ⟨b, 0, none⟩)] w fun e w' => ∃ b', e = .returned (.pointer (some ⟨b', 0, none⟩)) ∧ Rp w' (fun k => w.heap.size ≤ k ∧ k < w'.heap.size) b' B E T ∧ Nw w w' := by
  obtain ⟨base, v, r, _⟩ := h
  refine (rcopy_yes r hl hL).mono ?_
  rintro e w' ⟨b', v', rfl, l1, r', nw⟩
  exact ⟨b', rfl, ⟨w.heap.size, v', r', ⟨l1, r'.lt.1⟩, fun g hg => r'.own.lt g hg⟩, nw⟩
theorem phashes {w : World} {P : Nat → Prop} {b B E : Nat} {T : List Tre} (h : Rp w P b B E T) (hl : T.length ≤ 1000000) :
    Calls Tryd.prog 14 #[.pointer (some ⟨b, 0, none⟩)] w fun e w' => ∃ v, e = .returned v ∧ Hss w' v (hss T) ∧ (∃ g c, v = .slice (some ⟨g, 0, none⟩) (hss T).length c ∧ w.heap.size ≤ g ∧ g < w'.heap.size) ∧ Nw w w' := by
  obtain ⟨base, v, r, _⟩ := h
  have h32 : ∀ x ∈ hss T, x.length = 32 := fun x hx => by
    simp only [hss, List.mem_map] at hx
    obtain ⟨t, ht, rfl⟩ := hx
    exact (r.ok t ht).h32
  have e0 : (hss T).length = T.length := by simp [hss]
  refine (rhashes_full r hl).mono ?_
  rintro e w' ⟨g, c, rfl, o, nw⟩
  refine ⟨_, rfl, Hss.of h32 (by rw [e0]; exact o), ⟨g, c, by rw [e0], o.lt g rfl⟩, nw⟩
theorem pspan {w : World} {P : Nat → Prop} {b B E : Nat} {T : List Tre} (h : Rp w P b B E T) :
    Calls Tryd.prog 13 #[.pointer (some ⟨b, 0, none⟩)] w fun e w' => e = .returned (.agg #[.int .u64 (B : Int), .int .u64 (E : Int)]) ∧ Nw w w' := by
  obtain ⟨base, v, r, _⟩ := h
  exact rspan_any r
theorem pload {w : World} (b e : Nat) (hbe : b ≤ e) (he : e ≤ 9223372036854775808) (hv : Value) (L : List (List UInt8)) (h32 : ∀ x ∈ L, x.length = 32) (hH : Hss w hv L) (hlen : L.length = (cov b e).length) (hT : TabAt w) (hL : Laid w) :
    Calls Tryd.prog 21 #[.agg #[.int .u64 (b : Int), .int .u64 (e : Int)], hv] w fun x w' => ∃ rb, x = .returned (.tuple #[.pointer (some ⟨rb, 0, none⟩), .nilIface]) ∧ Rp w' (fun k => w.heap.size ≤ k ∧ k < w'.heap.size) rb b e (zpt (cov b e) L) ∧ Nw w w' := by
  refine (rload_yes b e hbe he hv L h32 hH hlen hT hL).mono ?_
  rintro x w' ⟨rb, base, v, rfl, r, l1, l2, nw⟩
  exact ⟨rb, rfl, ⟨base, v, r, ⟨l1, r.lt.1⟩, fun g hg => ⟨by have := (r.own.lt g hg).1; omega, (r.own.lt g hg).2⟩⟩, nw⟩
theorem Hss.fr {w w' : World} {S : Nat → Prop} {g n c : Nat} {l : List (List UInt8)} (h : Hss w (.slice (some ⟨g, 0, none⟩) n c) l) (hl : ∀ x ∈ l, x.length = 32) (f : Fr S w w') (hd : ¬ S g) : Hss w' (.slice (some ⟨g, 0, none⟩) n c) l := by
  obtain ⟨ad, cap, e, hc⟩ := h
  refine ⟨ad, cap, e, fun k x hk => ?_⟩
  obtain ⟨g', o', e2, hc2⟩ := hc k x hk
  simp only [Value.slice.injEq] at e
  have e3 : some (⟨g, 0, none⟩ : Addr) = some ⟨g', o', none⟩ := by rw [e.1, e2]
  cases e3
  refine ⟨g, 0, e2, fun j hj => ?_⟩
  have hs : j < (hbs x).size := by rw [hbs_size, hl x (List.mem_of_getElem? hk)]; exact hj
  have h5 : (hbs x)[j]? = some (hbs x)[j] := Array.getElem?_eq_getElem hs
  have := hc2 j hj
  rw [h5] at this ⊢
  exact (f.cell (p := ⟨g, 0 + k * 32 + j, none⟩) (World.block_lt_of_cell? w _ this) hd).trans this
theorem elemH : Tryd.prog.elem 41 = 24 := by kernel_rfl
theorem undH : Tryd.prog.underlying 41 = some (.slice (Tryd.prog.elem 41)) := by rw [elemH]; exact Tryd.underlying41
/-- Where a row begins that was cut. -/
def cat9 (p : Option Addr) (cap b : Nat) : Option Addr := if cap = b then p else p.map (·.add (b * 32))
theorem cuth_lh (p : Option Addr) (n cap b e : Nat) (kd kd2 : IntKind) (h : b ≤ e) (h2 : e ≤ cap) (W : World) : (Instr.sliceAt 41 (.slice p n cap) (some (.int kd (b : Int))) (some (.int kd2 (e : Int))) none).run Tryd.prog W = .ok (.slice (cat9 p cap b) (e - b) (cap - b)) W := by
  rw [run_sliceAt_slice W _ _ _ _ _ undH, run_slice_lh W _ p n cap undH kd kd2 b e (by omega) (by omega) (by omega), elemH, Tryd.sizeOf24 W]
  simp [sliced, cat9]
theorem cuth_l (p : Option Addr) (n cap b : Nat) (kd : IntKind) (h : b ≤ n) (h2 : n ≤ cap) (W : World) : (Instr.sliceAt 41 (.slice p n cap) (some (.int kd (b : Int))) none none).run Tryd.prog W = .ok (.slice (cat9 p cap b) (n - b) (cap - b)) W := by
  rw [run_sliceAt_slice W _ _ _ _ _ undH, run_slice_l W _ p n cap undH kd b (by omega) (by omega), elemH, Tryd.sizeOf24 W]
  simp [sliced, cat9]
theorem cuth_h (p : Option Addr) (n cap k : Nat) (kd : IntKind) (h : k ≤ cap) (W : World) : (Instr.sliceAt 41 (.slice p n cap) none (some (.int kd (k : Int))) none).run Tryd.prog W = .ok (.slice (cat9 p cap 0) k cap) W := by
  rw [run_sliceAt_slice W _ _ _ _ _ undH, run_slice_h W _ p n cap undH kd k (by omega) (by omega), elemH, Tryd.sizeOf24 W]
  simp [sliced, cat9]
theorem Hrs.cut {w : World} {p : Option Addr} {L : List (List UInt8)} (h : Hrs w p L) (b e cap : Nat) (hc : L.length ≤ cap) (he : e ≤ L.length) (hb : b ≤ e) : Hss w (.slice (cat9 p cap b) (e - b) (cap - b)) ((L.take e).drop b) := by
  refine ⟨_, _, by rw [List.length_drop, List.length_take, Nat.min_eq_left he], fun j x hj => ?_⟩
  rw [List.getElem?_drop] at hj
  have hlt := (List.getElem?_eq_some_iff.1 hj).1
  rw [List.length_take] at hlt
  rw [List.getElem?_take, if_pos (by omega)] at hj
  obtain ⟨g, o, rfl, hg⟩ := h _ _ hj
  unfold cat9
  rw [if_neg (by omega)]
  refine ⟨g, o + b * 32, by simp only [Option.map_some, addO], fun i hi => ?_⟩
  rw [← hg i hi]
  congr 2
  omega
end Go.Proofs.YthbimomhbeoieaaDoor
