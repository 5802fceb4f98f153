/- One more row of hashes is kept by a Book. -/
import Derived.Test.YtdhlmpjoggnkkaaGreatDoorKg
import Derived.Test.YtdhlmpjoggnkkaaGreatDoorM2
import Derived.Test.YtdhlmpjoggnkkaaGreatDoorEg
namespace Go.Proofs.YtdhlmpjoggnkkaaGreatDoor
namespace HB
open Go.RowKit
set_option linter.unusedVariables false
set_option linter.unusedSimpArgs false

theorem at_app {H : List Held} {t : Held} {i : Nat} {h : Held} (e : (H ++ [t])[i]? = some h) : (i < H.length ∧ H[i]? = some h) ∨ (i = H.length ∧ h = t) := by
  by_cases hi : i < H.length
  · rw [List.getElem?_append_left hi] at e; exact .inl ⟨hi, e⟩
  · rw [List.getElem?_append_right (by omega)] at e
    have : i - H.length = 0 := by
      by_cases h0 : i - H.length = 0
      · exact h0
      · rw [List.getElem?_eq_none (by simp; omega)] at e; cases e
    rw [this] at e
    simp at e
    exact .inr ⟨by omega, e.symm⟩
theorem num_app {H : List Held} {t : Held} {N : Nat} (h : ∀ i, num H i ≤ N) (ht : t.2.2 ≤ N) (i : Nat) : num (H ++ [t]) i ≤ N := by
  rcases e : (H ++ [t])[i]? with _ | u
  · simp [num, e]
  · rcases at_app e with ⟨_, q⟩ | ⟨_, rfl⟩
    · rw [num_at e]; have := h i; rw [num_at q] at this; exact this
    · rw [num_at e]; exact ht
theorem rb_app {H : List Held} {t : Held} {k : Nat} (h : Rb (H ++ [t]) k) : Rb H k ∨ t.1.ownBlock = some k := by
  obtain ⟨i, u, e, hu⟩ := h
  rcases at_app e with ⟨_, q⟩ | ⟨_, rfl⟩
  · exact .inl ⟨i, u, q, hu⟩
  · exact .inr hu
/-- One more row is kept. -/
theorem keep_row (bk N : Nat) (v : Value) (H : List Held) (X : Nat → List (List UInt8)) (u : Value) (l : List (List UInt8)) (w : World) (hB : Bk w bk N v H) (hR : Rws w bk v H X) {base : Nat} (hu : w.ownsRow base 56 32 u l.length (hsc l)) (h32 : ∀ x ∈ l, x.length = 32) (hne : ∀ g, u.ownBlock = some g → g ≠ bk ∧ v.ownBlock ≠ some g ∧ ¬ Rb H g) (hN : N < 4611686018427387904) (hH : H.length ≤ 1099511627776) :
    Calls Tryz.prog 14 #[.pointer (some ⟨bk, 0, none⟩), u] w fun e w' => e = .returned (.tuple #[]) ∧ ∃ v', Bk w' bk (N + 1) v' (H ++ [(u, nilS, N + 1)]) ∧ Rws w' bk v' (H ++ [(u, nilS, N + 1)]) (fun i => if i = H.length then l else X i) ∧ Stays w v v' ∧ Fr (fun k => k = bk ∨ v.ownBlock = some k) w w' := by
  have hu0 : w.ownsRow 0 56 32 u l.length (hsc l) := own_mono hu (Nat.zero_le _)
  obtain ⟨ad, cap, rfl⟩ := ownsRow_form hu0
  refine (hashes_any bk N v H ad l.length cap w hB hN hH).mono ?_
  rintro e w' ⟨rfl, v', b1, s1, f1⟩
  refine ⟨rfl, v', b1, ?_, s1, f1⟩
  have old : ∀ g, g < w.heap.size → v.ownBlock ≠ some g → v'.ownBlock ≠ some g := by
    intro g hg hv hv'
    rcases s1 with e | ⟨g', hg', hl⟩
    · exact hv (by rw [← e]; exact hv')
    · rw [hg'] at hv'; injection hv' with hv'; omega
  refine ⟨fun i h hi => ?_, fun i => ?_, fun i h hi g hg => ?_, fun i j h h' g hij hi hj hg => ?_, fun i h hi => ?_⟩
  · rcases at_app hi with ⟨hl, q⟩ | ⟨rfl, rfl⟩
    · rw [if_neg (by omega)]
      refine ownsRow_keep (hR.own i h q) (fun g hg => f1.block g ((hR.own i h q).lt g hg).2 (fun c => ?_))
      rcases c with rfl | c
      · exact (hR.ne i h q _ hg).1 rfl
      · exact (hR.ne i h q g hg).2 c
    · rw [if_pos rfl]
      refine ownsRow_keep hu0 (fun g hg => f1.block g (hu0.lt g hg).2 (fun c => ?_))
      rcases c with rfl | c
      · exact (hne _ hg).1 rfl
      · exact (hne g hg).2.1 c
  · by_cases hi : i = H.length
    · simp only [hi, if_true]; exact h32
    · simp only [hi, if_false]; exact hR.l32 i
  · rcases at_app hi with ⟨hl, q⟩ | ⟨rfl, rfl⟩
    · exact ⟨(hR.ne i h q g hg).1, old g ((hR.own i h q).lt g hg).2 (hR.ne i h q g hg).2⟩
    · exact ⟨(hne g hg).1, old g (hu0.lt g hg).2 (hne g hg).2.1⟩
  · rcases at_app hi with ⟨hl, q⟩ | ⟨rfl, rfl⟩
    · rcases at_app hj with ⟨hl', q'⟩ | ⟨rfl, rfl⟩
      · exact hR.apart i j h h' g hij q q' hg
      · exact fun c => (hne g c).2.2 ⟨i, h, q, hg⟩
    · rcases at_app hj with ⟨hl', q'⟩ | ⟨rfl, rfl⟩
      · exact fun c => (hne g hg).2.2 ⟨j, h', q', c⟩
      · exact absurd rfl hij
  · rcases at_app hi with ⟨hl, q⟩ | ⟨rfl, rfl⟩
    · exact hR.lng i h q
    · exact ⟨none, 0, 0, rfl⟩
end HB
end Go.Proofs.YtdhlmpjoggnkkaaGreatDoor
namespace Go.Proofs.YtdhlmpjoggnkkaaGreatDoor
open Go.RowKit
set_option linter.unusedVariables false
set_option linter.unusedSimpArgs false

/-- What does not turn: the world at the beginning, the blocks. -/
structure Cn where
  w0 : World
  base : Nat
  s4 : Nat
  s2 : Nat
  bu : Nat
  bk : Nat
  b : Nat → Nat
  c : Nat → Nat
/-- What turns. -/
structure St where
  v : Nat → Value
  u : Nat → Value
  L : Nat → List ByteArray
  M : Nat → List ByteArray
  N : Nat
  bv : Value
  H : List HB.Held
  X : Nat → List (List UInt8)
  tag : Nat → Nat
abbrev ptr (b : Nat) : Value := .pointer (some ⟨b, 0, none⟩)
def upd {α : Type} (f : Nat → α) (k : Nat) (x : α) : Nat → α := fun j => if j = k then x else f j
theorem upd_self {α : Type} (f : Nat → α) (k : Nat) (x : α) : upd f k x k = x := by simp [upd]
theorem upd_ne {α : Type} (f : Nat → α) {k j : Nat} (x : α) (h : j ≠ k) : upd f k x j = f j := by simp [upd, h]
/-- A block of a later kind has the tag given; all below are as they were. -/
def late (t : Nat → Nat) (n i : Nat) : Nat → Nat := fun j => if j < n then t j else i
theorem late_lt {t : Nat → Nat} {n i j : Nat} (h : j < n) : late t n i j = t j := by simp [late, h]
theorem late_ge {t : Nat → Nat} {n i j : Nat} (h : n ≤ j) : late t n i j = i := by simp [late]; omega
structure Pm (w : World) (κ : Cn) (σ : St) : Prop where
  s4 : w.heap[κ.s4]? = some (.cells #[ptr (κ.b 0), ptr (κ.b 1), .pointer none, ptr κ.bu] 23)
  s2 : w.heap[κ.s2]? = some (.cells #[ptr (κ.c 0), ptr (κ.c 1)] 29)
  un : w.heap[κ.bu]? = some (.cells #[.bool false, .slice none 0 0] 27)
  lg : ∀ k, k < 2 → Lg w (κ.b k) κ.base (σ.v k) (σ.L k)
  dg : ∀ k, k < 2 → Dg w (κ.c k) κ.base (σ.u k) (σ.M k)
  bk : HB.Bk w κ.bk σ.N σ.bv σ.H
  rw : HB.Rws w κ.bk σ.bv σ.H σ.X
  num : ∀ i, HB.num σ.H i ≤ σ.N
  hl : σ.H.length = σ.N
  len : ∀ i, (σ.X i).length ≤ 1099511627776
  fr : Fr (fun k => κ.w0.heap.size ≤ k) κ.w0 w
  lo : ∀ j, j < κ.w0.heap.size → σ.tag j = 99
  t4 : σ.tag κ.s4 = 0
  t2 : σ.tag κ.s2 = 1
  tn : σ.tag κ.bu = 2
  tk : σ.tag κ.bk = 3
  tb : ∀ k, k < 2 → σ.tag (κ.b k) = 4 + k
  tc : ∀ k, k < 2 → σ.tag (κ.c k) = 6 + k
  tv : ∀ k, k < 2 → ∀ g, (σ.v k).ownBlock = some g → σ.tag g = 8 + k
  tu : ∀ k, k < 2 → ∀ g, (σ.u k).ownBlock = some g → σ.tag g = 10 + k
  tl : ∀ g, σ.bv.ownBlock = some g → σ.tag g = 12
  tr : ∀ g, HB.Rb σ.H g → σ.tag g = 13

theorem Pm.rlt {w : World} {κ : Cn} {σ : St} (h : Pm w κ σ) {g : Nat} (q : HB.Rb σ.H g) : g < w.heap.size := by
  obtain ⟨i, t, hi, ht⟩ := q
  exact ((h.rw.own i t hi).lt g ht).2
theorem Pm.nw {w w' : World} {κ : Cn} {σ : St} (h : Pm w κ σ) (n : Nw w w') : Pm w' κ σ :=
  { h with
    s4 := (n.block _ (heap_lt h.s4) (fun f => f)).trans h.s4
    s2 := (n.block _ (heap_lt h.s2) (fun f => f)).trans h.s2
    un := (n.block _ (heap_lt h.un) (fun f => f)).trans h.un
    lg := fun k hk => (h.lg k hk).nw n
    dg := fun k hk => (h.dg k hk).nw n
    bk := h.bk.nw n
    rw := h.rw.nw n
    fr := h.fr.trans n (fun _ _ f => f.elim) }
/-- Other tags behind the memory's end. -/
theorem Pm.tag {w : World} {κ : Cn} {σ : St} (h : Pm w κ σ) (n i : Nat) (hn : w.heap.size ≤ n) : Pm w κ { σ with tag := late σ.tag n i } := by
  have q : ∀ {g t : Nat}, g < w.heap.size → σ.tag g = t → late σ.tag n i g = t := fun hg e => by rw [late_lt (by omega)]; exact e
  exact { h with
    lo := fun j hj => q (Nat.lt_of_lt_of_le hj h.fr.size) (h.lo j hj)
    t4 := q (heap_lt h.s4) h.t4
    t2 := q (heap_lt h.s2) h.t2
    tn := q (heap_lt h.un) h.tn
    tk := q (heap_lt h.bk.blk) h.tk
    tb := fun k hk => q (heap_lt (h.lg k hk).blk) (h.tb k hk)
    tc := fun k hk => q (heap_lt (h.dg k hk).blk) (h.tc k hk)
    tv := fun k hk g hg => q ((h.lg k hk).own.lt g hg).2 (h.tv k hk g hg)
    tu := fun k hk g hg => q ((h.dg k hk).own.lt g hg).2 (h.tu k hk g hg)
    tl := fun g hg => q (h.bk.own.lt g hg).2 (h.tl g hg)
    tr := fun g hg => q (h.rlt hg) (h.tr g hg) }
theorem stay_tag {w : World} {x x' : Value} {t : Nat → Nat} {i : Nat} (hs : Stays w x x') (h : ∀ g, x.ownBlock = some g → t g = i) (hl : ∀ g, x.ownBlock = some g → g < w.heap.size) : ∀ g, x'.ownBlock = some g → late t w.heap.size i g = i := by
  intro g hg
  rcases hs with e | ⟨g', hg', hlt⟩
  · rw [late_lt (hl g (by rw [← e]; exact hg))]; exact h g (by rw [← e]; exact hg)
  · rw [hg'] at hg; injection hg with hg; subst hg
    exact late_ge hlt
/-- An append to log k went. -/
theorem Pm.putL {w w' : World} {κ : Cn} {σ : St} (h : Pm w κ σ) (k : Nat) (hk : k < 2) (v' : Value) (l : List ByteArray) (hg : Lg w' (κ.b k) κ.base v' l) (hs : Stays w (σ.v k) v') (hf : Fr (fun j => j = κ.b k ∨ (σ.v k).ownBlock = some j) w w') :
    Pm w' κ { σ with v := upd σ.v k v', L := upd σ.L k l, tag := late σ.tag w.heap.size (8 + k) } := by
  have h1 := h.tag w.heap.size (8 + k) (Nat.le_refl _)
  have hS : ∀ j, (j = κ.b k ∨ (σ.v k).ownBlock = some j) → σ.tag j = 4 + k ∨ σ.tag j = 8 + k := fun j q => by
    rcases q with rfl | q
    · exact .inl (h.tb k hk)
    · exact .inr (h.tv k hk j q)
  have no : ∀ {j t : Nat}, σ.tag j = t → t ≠ 4 + k → t ≠ 8 + k → ¬ (j = κ.b k ∨ (σ.v k).ownBlock = some j) := fun e h1 h2 q => by rcases hS _ q with e1 | e1 <;> omega
  have ht := stay_tag hs (h.tv k hk) (fun g hg => ((h.lg k hk).own.lt g hg).2)
  exact { h1 with
    s4 := (hf.block _ (heap_lt h.s4) (no h.t4 (by omega) (by omega))).trans h.s4
    s2 := (hf.block _ (heap_lt h.s2) (no h.t2 (by omega) (by omega))).trans h.s2
    un := (hf.block _ (heap_lt h.un) (no h.tn (by omega) (by omega))).trans h.un
    lg := fun j hj => by
      by_cases e : j = k
      · subst e; simp only [upd_self]; exact hg
      · simp only [upd_ne _ _ e]; exact (h.lg j hj).fr hf (no (h.tb j hj) (by omega) (by omega)) (fun g q => no (h.tv j hj g q) (by omega) (by omega))
    dg := fun j hj => (h.dg j hj).fr hf (no (h.tc j hj) (by omega) (by omega)) (fun g q => no (h.tu j hj g q) (by omega) (by omega))
    bk := h.bk.fr hf (no h.tk (by omega) (by omega)) (fun g q => no (h.tl g q) (by omega) (by omega))
    rw := ⟨fun i t ht => ownsRow_keep (h.rw.own i t ht) (fun g hg => hf.block g ((h.rw.own i t ht).lt g hg).2 (no (h.tr g ⟨i, t, ht, hg⟩) (by omega) (by omega))), h.rw.l32, h.rw.ne, h.rw.apart, h.rw.lng⟩
    fr := h.fr.trans hf (fun j hj q => by
      show κ.w0.heap.size ≤ j
      by_cases c : j < κ.w0.heap.size
      · have := h.lo j c; rcases hS j q with e | e <;> omega
      · omega)
    tv := fun j hj g q => by
      by_cases e : j = k
      · subst e; simp only [upd_self] at q; exact ht g q
      · simp only [upd_ne _ _ e] at q; exact h1.tv j hj g q }
/-- An append to the document's log k went. -/
theorem Pm.putD {w w' : World} {κ : Cn} {σ : St} (h : Pm w κ σ) (k : Nat) (hk : k < 2) (v' : Value) (l : List ByteArray) (hg : Dg w' (κ.c k) κ.base v' l) (hs : Stays w (σ.u k) v') (hf : Fr (fun j => j = κ.c k ∨ (σ.u k).ownBlock = some j) w w') :
    Pm w' κ { σ with u := upd σ.u k v', M := upd σ.M k l, tag := late σ.tag w.heap.size (10 + k) } := by
  have h1 := h.tag w.heap.size (10 + k) (Nat.le_refl _)
  have hS : ∀ j, (j = κ.c k ∨ (σ.u k).ownBlock = some j) → σ.tag j = 6 + k ∨ σ.tag j = 10 + k := fun j q => by
    rcases q with rfl | q
    · exact .inl (h.tc k hk)
    · exact .inr (h.tu k hk j q)
  have no : ∀ {j t : Nat}, σ.tag j = t → t ≠ 6 + k → t ≠ 10 + k → ¬ (j = κ.c k ∨ (σ.u k).ownBlock = some j) := fun e h1 h2 q => by rcases hS _ q with e1 | e1 <;> omega
  have ht := stay_tag hs (h.tu k hk) (fun g hg => ((h.dg k hk).own.lt g hg).2)
  exact { h1 with
    s4 := (hf.block _ (heap_lt h.s4) (no h.t4 (by omega) (by omega))).trans h.s4
    s2 := (hf.block _ (heap_lt h.s2) (no h.t2 (by omega) (by omega))).trans h.s2
    un := (hf.block _ (heap_lt h.un) (no h.tn (by omega) (by omega))).trans h.un
    dg := fun j hj => by
      by_cases e : j = k
      · subst e; simp only [upd_self]; exact hg
      · simp only [upd_ne _ _ e]; exact (h.dg j hj).fr hf (no (h.tc j hj) (by omega) (by omega)) (fun g q => no (h.tu j hj g q) (by omega) (by omega))
    lg := fun j hj => (h.lg j hj).fr hf (no (h.tb j hj) (by omega) (by omega)) (fun g q => no (h.tv j hj g q) (by omega) (by omega))
    bk := h.bk.fr hf (no h.tk (by omega) (by omega)) (fun g q => no (h.tl g q) (by omega) (by omega))
    rw := ⟨fun i t ht => ownsRow_keep (h.rw.own i t ht) (fun g hg => hf.block g ((h.rw.own i t ht).lt g hg).2 (no (h.tr g ⟨i, t, ht, hg⟩) (by omega) (by omega))), h.rw.l32, h.rw.ne, h.rw.apart, h.rw.lng⟩
    fr := h.fr.trans hf (fun j hj q => by
      show κ.w0.heap.size ≤ j
      by_cases c : j < κ.w0.heap.size
      · have := h.lo j c; rcases hS j q with e | e <;> omega
      · omega)
    tu := fun j hj g q => by
      by_cases e : j = k
      · subst e; simp only [upd_self] at q; exact ht g q
      · simp only [upd_ne _ _ e] at q; exact h1.tu j hj g q }
/-- One more row is kept: it was made behind world wb. -/
theorem Pm.putB {w w' wb : World} {κ : Cn} {σ : St} (h : Pm w κ σ) (hb : wb.heap.size ≤ w.heap.size) (hold : Pm wb κ σ) (u : Value) (l : List (List UInt8)) (hl : l.length ≤ 1099511627776) (bv' : Value) (hu : ∀ g, u.ownBlock = some g → wb.heap.size ≤ g ∧ g < w.heap.size)
    (b1 : HB.Bk w' κ.bk (σ.N + 1) bv' (σ.H ++ [(u, HB.nilS, σ.N + 1)])) (r1 : HB.Rws w' κ.bk bv' (σ.H ++ [(u, HB.nilS, σ.N + 1)]) (fun i => if i = σ.H.length then l else σ.X i)) (hs : Stays w σ.bv bv') (hf : Fr (fun k => k = κ.bk ∨ σ.bv.ownBlock = some k) w w') :
    Pm w' κ { σ with N := σ.N + 1, bv := bv', H := σ.H ++ [(u, HB.nilS, σ.N + 1)], X := fun i => if i = σ.H.length then l else σ.X i, tag := late (late σ.tag wb.heap.size 13) w.heap.size 12 } := by
  have h0 := hold.tag wb.heap.size 13 (Nat.le_refl _)
  have q0 : ∀ {g t : Nat}, g < wb.heap.size → σ.tag g = t → late (late σ.tag wb.heap.size 13) w.heap.size 12 g = t := fun hg e => by rw [late_lt (by omega), late_lt hg]; exact e
  have hS : ∀ j, (j = κ.bk ∨ σ.bv.ownBlock = some j) → σ.tag j = 3 ∨ σ.tag j = 12 := fun j q => by
    rcases q with rfl | q
    · exact .inl h.tk
    · exact .inr (h.tl j q)
  have no : ∀ {j t : Nat}, σ.tag j = t → t ≠ 3 → t ≠ 12 → ¬ (j = κ.bk ∨ σ.bv.ownBlock = some j) := fun e h1 h2 q => by rcases hS _ q with e1 | e1 <;> omega
  exact {
    s4 := (hf.block _ (heap_lt h.s4) (no h.t4 (by omega) (by omega))).trans h.s4
    s2 := (hf.block _ (heap_lt h.s2) (no h.t2 (by omega) (by omega))).trans h.s2
    un := (hf.block _ (heap_lt h.un) (no h.tn (by omega) (by omega))).trans h.un
    lg := fun j hj => (h.lg j hj).fr hf (no (h.tb j hj) (by omega) (by omega)) (fun g q => no (h.tv j hj g q) (by omega) (by omega))
    dg := fun j hj => (h.dg j hj).fr hf (no (h.tc j hj) (by omega) (by omega)) (fun g q => no (h.tu j hj g q) (by omega) (by omega))
    bk := b1
    rw := r1
    num := fun i => HB.num_app (fun i => Nat.le_trans (h.num i) (Nat.le_succ _)) (Nat.le_refl _) i
    hl := by simp [h.hl]
    len := fun i => by
      show (if i = σ.H.length then l else σ.X i).length ≤ _
      by_cases c : i = σ.H.length
      · rw [if_pos c]; exact hl
      · rw [if_neg c]; exact h.len i
    fr := h.fr.trans hf (fun j hj q => by
      show κ.w0.heap.size ≤ j
      by_cases c : j < κ.w0.heap.size
      · have := h.lo j c; rcases hS j q with e | e <;> omega
      · omega)
    lo := fun j hj => q0 (Nat.lt_of_lt_of_le hj hold.fr.size) (h.lo j hj)
    t4 := q0 (heap_lt hold.s4) h.t4
    t2 := q0 (heap_lt hold.s2) h.t2
    tn := q0 (heap_lt hold.un) h.tn
    tk := q0 (heap_lt hold.bk.blk) h.tk
    tb := fun k hk => q0 (heap_lt (hold.lg k hk).blk) (h.tb k hk)
    tc := fun k hk => q0 (heap_lt (hold.dg k hk).blk) (h.tc k hk)
    tv := fun k hk g hg => q0 ((hold.lg k hk).own.lt g hg).2 (h.tv k hk g hg)
    tu := fun k hk g hg => q0 ((hold.dg k hk).own.lt g hg).2 (h.tu k hk g hg)
    tl := by
      intro g hg
      rcases hs with e | ⟨g', hg', hlt⟩
      · exact q0 (hold.bk.own.lt g (by rw [← e]; exact hg)).2 (h.tl g (by rw [← e]; exact hg))
      · rw [hg'] at hg; injection hg with hg; subst hg
        exact late_ge hlt
    tr := fun g hg => by
      rcases HB.rb_app hg with q | q
      · exact q0 (hold.rlt q) (h.tr g q)
      · have := hu g q
        show late (late σ.tag wb.heap.size 13) w.heap.size 12 g = 13
        rw [late_lt this.2, late_ge this.1] }
end Go.Proofs.YtdhlmpjoggnkkaaGreatDoor
namespace Go.Proofs.YtdhlmpjoggnkkaaGreatDoor
open Go.RowKit
set_option linter.unusedVariables false
set_option linter.unusedSimpArgs false

theorem Pm.nw0 {w : World} {κ : Cn} {σ : St} (h : Pm w κ σ) : Nw κ.w0 w := h.fr.mono (fun j hj q => by omega)
theorem fe_form (c : Nat) : ∃ f1 f2 : Int, fe c = flt f1 f2 := by
  unfold fe
  by_cases h : c = 0
  · rw [if_pos h]; exact ⟨_, _, rfl⟩
  · rw [if_neg h]; exact ⟨_, _, rfl⟩
/-- Writing into blocks that are none of these. -/
theorem Pm.frt {S : Nat → Prop} {w w' : World} {κ : Cn} {σ : St} (h : Pm w κ σ) (hf : Fr S w w') (hS : ∀ j, S j → σ.tag j = 50) : Pm w' κ σ := by
  have no : ∀ {j t : Nat}, σ.tag j = t → t ≠ 50 → ¬ S j := fun e h1 q => by have := hS _ q; omega
  exact { h with
    s4 := (hf.block _ (heap_lt h.s4) (no h.t4 (by omega))).trans h.s4
    s2 := (hf.block _ (heap_lt h.s2) (no h.t2 (by omega))).trans h.s2
    un := (hf.block _ (heap_lt h.un) (no h.tn (by omega))).trans h.un
    lg := fun j hj => (h.lg j hj).fr hf (no (h.tb j hj) (by omega)) (fun g q => no (h.tv j hj g q) (by omega))
    dg := fun j hj => (h.dg j hj).fr hf (no (h.tc j hj) (by omega)) (fun g q => no (h.tu j hj g q) (by omega))
    bk := h.bk.fr hf (no h.tk (by omega)) (fun g q => no (h.tl g q) (by omega))
    rw := ⟨fun i t ht => ownsRow_keep (h.rw.own i t ht) (fun g hg => hf.block g ((h.rw.own i t ht).lt g hg).2 (no (h.tr g ⟨i, t, ht, hg⟩) (by omega))), h.rw.l32, h.rw.ne, h.rw.apart, h.rw.lng⟩
    fr := h.fr.trans hf (fun j hj q => by
      show κ.w0.heap.size ≤ j
      by_cases c : j < κ.w0.heap.size
      · have := h.lo j c; have := hS j q; omega
      · omega) }
theorem anw_len (L : List ByteArray) (s : ByteArray) (x y z i : Nat) (hL : L.length ≤ 1048576) : (anw L s x y z i).l.length ≤ 1000 := by
  have h20 : (2 : Nat) ^ 20 = 1048576 := by decide
  match i with
  | 0 => simp only [anw]; split <;> simp
  | 1 => simp [anw]
  | 2 => simp [anw]
  | 3 => simp [anw]
  | 4 =>
    simp only [anw, List.length_map, TP]
    split
    · rename_i h; have := pth_len 20 x 0 y (by omega); omega
    · simp
  | 5 =>
    simp only [anw, List.length_map, TR]
    split
    · rename_i h; have := prf_len 20 x 0 y true (by omega) (by omega) (by omega); omega
    · simp
  | i + 6 =>
    simp only [anw, List.length_map, TB]
    split
    · rename_i h; have := bat_len 20 x y 0 z (by omega); omega
    · simp
theorem anw_32 (L : List ByteArray) (s : ByteArray) (x y z i : Nat) : ∀ t ∈ (anw L s x y z i).l, t.length = 32 := by
  have hm : ∀ (T : List (Nat × Nat)), ∀ t ∈ T.map (hst L), t.length = 32 := fun T t ht => by
    obtain ⟨q, _, rfl⟩ := List.mem_map.1 ht
    exact hst_len L q
  match i with
  | 0 => simp only [anw]; split <;> simp
  | 1 => simp [anw]
  | 2 => simp [anw]
  | 3 => simp [anw]
  | 4 => exact hm _
  | 5 => exact hm _
  | i + 6 => exact hm _
theorem anw_h (L : List ByteArray) (s : ByteArray) (x y z i : Nat) : (anw L s x y z i).h.length = 32 := by
  match i with
  | 0 => simp only [anw]; split <;> simp
  | 1 => simp [anw]
  | 2 => simp only [anw]; split <;> simp [mth_len]
  | 3 => simp only [anw]; split <;> simp [mth_len]
  | 4 => simp [anw]
  | 5 => simp [anw]
  | i + 6 => simp [anw]
theorem anw_c (L : List ByteArray) (s : ByteArray) (x y z i : Nat) : (anw L s x y z i).c ≤ 5 := by
  match i with
  | 0 => simp only [anw]; split <;> simp
  | 1 => simp only [anw]; split <;> simp
  | 2 => simp only [anw]; split <;> simp
  | 3 => simp only [anw]; split <;> simp
  | 4 => simp only [anw]; split <;> simp
  | 5 => simp only [anw]; split <;> simp
  | i + 6 => simp only [anw]; split <;> simp
theorem anw_m (L : List ByteArray) (s : ByteArray) (x y z i : Nat) (h : i ≠ 0) : (anw L s x y z i).m = L := by
  match i, h with
  | 1, _ => rfl
  | 2, _ => rfl
  | 3, _ => rfl
  | 4, _ => rfl
  | 5, _ => rfl
  | i + 6, _ => rfl
/-- The error and the document's fault are one. -/
theorem same_err {w : World} {B : Nat} {a : Nat → Addr} (hS : Sent B w a) (c : Nat) (hc : c ≤ 5) : Calls Tryz.prog 12 #[ec a c, fe c] w fun e w' => e = .returned (.bool true) ∧ Nw w w' := by
  by_cases h : c = 0
  · subst h
    exact (same_any hS (v := .nilIface) (code := 0) (pl := none) (.inl ⟨rfl, rfl, rfl⟩) 0 0).mono fun e w' h => ⟨by rw [h.1]; rfl, h.2⟩
  · have e1 : ec a c = sen (a (c - 1)) := by simp [ec, h]
    have e2 : fe c = flt (c : Int) (-1) := by simp [fe, h]
    rw [e1, e2]
    refine (same_any hS (v := sen (a (c - 1))) (code := c) (pl := none) (.inr (.inl ⟨c - 1, by omega, rfl, by omega, rfl⟩)) (c : Int) (-1)).mono fun e w' h => ⟨by rw [h.1]; simp [sameB], h.2⟩
/-- One operation of a script. -/
structure Od where
  who : Int
  kind : Int
  s : ByteArray
  x : Nat
  y : Nat
  z : Nat
structure Od.ok (o : Od) : Prop where
  w1 : -9223372036854775808 ≤ o.who
  w2 : o.who ≤ 9223372036854775807
  k1 : -9223372036854775808 ≤ o.kind
  k2 : o.kind ≤ 9223372036854775807
  hs : o.s.size < 9223372036854775807
  hx : o.x < 18446744073709551616
  hy : o.y < 18446744073709551616
  hz : o.z < 18446744073709551616
abbrev Od.c (o : Od) : Array Value := opc o.who o.kind o.s o.x o.y o.z
def Od.an (o : Od) (L : List ByteArray) : An := anw L o.s o.x o.y o.z (kd o.kind)
theorem Od.goes {o : Od} {L : List ByteArray} (h : ¬ Ask L o.s o.kind) : o.kind % 7 = 0 ∧ o.s.size ≤ 65536 ∧ L.length < 1048576 ∧ o.an L = ⟨L.length, ⟨#[]⟩, zh, [], 0, L ++ [o.s]⟩ := by
  unfold Ask at h
  have h0 : o.kind % 7 = 0 := by
    by_cases c : o.kind % 7 = 0
    · exact c
    · exact absurd (fun q => absurd q c) h
  have h1 : ¬ (65536 < o.s.size ∨ 1048576 ≤ L.length) := fun q => h (fun _ => q)
  refine ⟨h0, by omega, by omega, ?_⟩
  unfold Od.an
  rw [kd_of (n := 0) h0]
  simp only [anw, if_neg h1]
theorem Od.ask_m {o : Od} {L : List ByteArray} (h : Ask L o.s o.kind) : (o.an L).m = L := by
  unfold Od.an
  by_cases c : kd o.kind = 0
  · have h0 : o.kind % 7 = 0 := by unfold kd at c; omega
    rw [c]
    simp only [anw, if_pos (h h0)]
  · exact anw_m _ _ _ _ _ _ c
/-- The same but for the logs' leaves, lists and tags. -/
structure SameB (σ τ : St) : Prop where
  N : τ.N = σ.N
  bv : τ.bv = σ.bv
  H : τ.H = σ.H
  X : τ.X = σ.X
theorem SameB.refl (σ : St) : SameB σ σ := ⟨rfl, rfl, rfl, rfl⟩
theorem SameB.tr {a b c : St} (h : SameB a b) (k : SameB b c) : SameB a c := ⟨k.N.trans h.N, k.bv.trans h.bv, k.H.trans h.H, k.X.trans h.X⟩
set_option maxHeartbeats 1000000 in
theorem meant_pm {w : World} {κ : Cn} {σ : St} (h : Pm w κ σ) (k : Nat) (hk : k < 2) (o : Od) (ho : o.ok) (n : Nat) (h1 : κ.c k < n) (h2 : ∀ g, (σ.u k).ownBlock = some g → g < n) :
    Calls Tryz.prog 8 #[ptr (κ.c k), .agg o.c] w fun e w' => ∃ q τ, e = .returned (.tuple #[.agg (tcs ((o.an (σ.M k)).n : Int) (o.an (σ.M k)).s (o.an (σ.M k)).h q), fe (o.an (σ.M k)).c]) ∧ w'.ownsRow w.heap.size 56 32 q (o.an (σ.M k)).l.length (hsc (o.an (σ.M k)).l) ∧ Pm w' κ τ ∧ SameB σ τ ∧ τ.L = σ.L ∧ τ.v = σ.v ∧ τ.M = upd σ.M k (o.an (σ.M k)).m ∧ (∀ j, j < w.heap.size → τ.tag j = σ.tag j) ∧ Fr (fun j => j < n) w w' := by
  by_cases ha : Ask (σ.M k) o.s o.kind
  · refine (meant_ask (h.dg k hk) o.who o.kind o.s o.x o.y o.z ho.k1 ho.k2 ho.hx ho.hy ho.hz ho.hs ha).mono ?_
    rintro e w' ⟨q, rfl, own, nw⟩
    refine ⟨q, σ, rfl, own, h.nw nw, SameB.refl σ, rfl, rfl, ?_, fun _ _ => rfl, nw.mono (fun _ _ f => f.elim)⟩
    rw [Od.ask_m ha]
    funext j
    by_cases e : j = k
    · subst e; rw [upd_self]
    · rw [upd_ne _ _ e]
  · obtain ⟨g1, g2, g3, g4⟩ := Od.goes ha
    refine (meant_put (h.dg k hk) o.who o.kind o.s o.x o.y o.z ho.k1 ho.k2 g1 g2 g3).mono ?_
    rintro e w' ⟨rfl, ⟨v', d1, d2⟩, d3⟩
    rw [g4]
    exact ⟨.slice none 0 0, _, rfl, own_nil _ _, h.putD k hk v' _ d1 d2 d3, ⟨rfl, rfl, rfl, rfl⟩, rfl, rfl, rfl, fun j hj => late_lt hj, d3.mono (fun j _ q => by rcases q with rfl | q; exact h1; exact h2 j q)⟩
set_option maxHeartbeats 1000000 in
/-- The row that an answer holds was made by the call, or holds nothing and lies nowhere. -/
theorem step_pm {w : World} {κ : Cn} {σ : St} (h : Pm w κ σ) (k : Nat) (hk : k < 2) (o : Od) (ho : o.ok) (n : Nat) (h1 : κ.b k < n) (h2 : ∀ g, (σ.v k).ownBlock = some g → g < n) (hL : Laid w) {B : Nat} {a : Nat → Addr} (hS : Sent B w a) :
    Calls Tryz.prog 10 #[ptr (κ.b k), .agg o.c] w fun e w' => ∃ q τ, e = .returned (.tuple #[.agg (tcs ((o.an (σ.L k)).n : Int) (o.an (σ.L k)).s (o.an (σ.L k)).h q), ec a (o.an (σ.L k)).c]) ∧ w'.ownsRow w.heap.size 56 32 q (o.an (σ.L k)).l.length (hsc (o.an (σ.L k)).l) ∧ Pm w' κ τ ∧ SameB σ τ ∧ τ.M = σ.M ∧ τ.u = σ.u ∧ τ.L = upd σ.L k (o.an (σ.L k)).m ∧ (τ = σ ∨ q.ownBlock = none) ∧ (∀ j, j < w.heap.size → τ.tag j = σ.tag j) ∧ Fr (fun j => j < n) w w' := by
  by_cases ha : Ask (σ.L k) o.s o.kind
  · refine (step_ask (h.lg k hk) o.who o.kind o.s o.x o.y o.z ho.k1 ho.k2 ho.hx ho.hy ho.hz ho.hs ha hL hS).mono ?_
    rintro e w' ⟨q, rfl, own, nw⟩
    refine ⟨q, σ, rfl, own, h.nw nw, SameB.refl σ, rfl, rfl, ?_, .inl rfl, fun _ _ => rfl, nw.mono (fun _ _ f => f.elim)⟩
    rw [Od.ask_m ha]
    funext j
    by_cases e : j = k
    · subst e; rw [upd_self]
    · rw [upd_ne _ _ e]
  · obtain ⟨g1, g2, g3, g4⟩ := Od.goes ha
    refine (step_put (h.lg k hk) o.who o.kind o.s o.x o.y o.z ho.k1 ho.k2 g1 g2 g3).mono ?_
    rintro e w' ⟨rfl, ⟨v', d1, d2⟩, d3⟩
    rw [g4]
    exact ⟨.slice none 0 0, _, rfl, own_nil _ _, h.putL k hk v' _ d1 d2 d3, ⟨rfl, rfl, rfl, rfl⟩, rfl, rfl, rfl, .inr rfl, fun j hj => late_lt hj, d3.mono (fun j _ q => by rcases q with rfl | q; exact h1; exact h2 j q)⟩
/-- The answer of a log that is not there. -/
def noan : An := ⟨0, ⟨#[]⟩, zh, [], 1, []⟩
theorem step_pm2 {w : World} {κ : Cn} {σ : St} (h : Pm w κ σ) (p : Value) (hp : p = .pointer none ∨ p = ptr κ.bu) (o : Od) (ho : o.ok) {B : Nat} {a : Nat → Addr} (hS : Sent B w a) :
    Calls Tryz.prog 10 #[p, .agg o.c] w fun e w' => ∃ q, e = .returned (.tuple #[.agg (tcs (noan.n : Int) noan.s noan.h q), ec a noan.c]) ∧ w'.ownsRow w.heap.size 56 32 q noan.l.length (hsc noan.l) ∧ Pm w' κ σ ∧ Nw w w' := by
  have hN : NoL w p := by
    rcases hp with rfl | rfl
    · exact .inl rfl
    · exact .inr ⟨κ.bu, _, rfl, h.un⟩
  refine (step_no hN o.who o.kind o.s o.x o.y o.z ho.k1 ho.k2 hS).mono ?_
  rintro e w' ⟨q, rfl, own, nw⟩
  exact ⟨q, rfl, own, h.nw nw, nw⟩
set_option maxHeartbeats 1000000 in
/-- The answer's row is kept. -/
theorem hashes_pm {w wb : World} {κ : Cn} {σ : St} (h : Pm w κ σ) (hb : wb.heap.size ≤ w.heap.size) (q : Value) (l : List (List UInt8)) (hl : l.length ≤ 1000) (h32 : ∀ x ∈ l, x.length = 32) (hq : w.ownsRow wb.heap.size 56 32 q l.length (hsc l)) (hold : Pm wb κ σ ∨ q.ownBlock = none) (hN : σ.N ≤ 1099511627775) (n : Nat) (h1 : κ.bk < n) (h2 : ∀ g, σ.bv.ownBlock = some g → g < n) :
    Calls Tryz.prog 14 #[ptr κ.bk, q] w fun e w' => e = .returned (.tuple #[]) ∧ ∃ τ, Pm w' κ τ ∧ τ.N = σ.N + 1 ∧ τ.L = σ.L ∧ τ.M = σ.M ∧ τ.v = σ.v ∧ τ.u = σ.u ∧ Fr (fun j => j < n) w w' := by
  have hHl := h.hl
  have main : ∀ wc : World, wc.heap.size ≤ w.heap.size → Pm wc κ σ → (∀ g, q.ownBlock = some g → wc.heap.size ≤ g ∧ g < w.heap.size) → Calls Tryz.prog 14 #[ptr κ.bk, q] w fun e w' => e = .returned (.tuple #[]) ∧ ∃ τ, Pm w' κ τ ∧ τ.N = σ.N + 1 ∧ τ.L = σ.L ∧ τ.M = σ.M ∧ τ.v = σ.v ∧ τ.u = σ.u ∧ Fr (fun j => j < n) w w' := by
    intro wc hc po hqb
    refine (HB.keep_row κ.bk σ.N σ.bv σ.H σ.X q l w h.bk h.rw hq h32 (fun g hg => ?_) (by omega) (by omega)).mono ?_
    · have hg1 := (hqb g hg).1
      refine ⟨fun e => ?_, fun e => ?_, fun e => ?_⟩
      · have := heap_lt po.bk.blk; omega
      · have := (po.bk.own.lt g e).2; omega
      · have := po.rlt e; omega
    · rintro e w' ⟨rfl, bv', b1, r1, s1, f1⟩
      exact ⟨rfl, _, h.putB hc po q l (by omega) bv' hqb b1 r1 s1 f1, rfl, rfl, rfl, rfl, rfl, f1.mono (fun j _ c => by rcases c with rfl | c; exact h1; exact h2 j c)⟩
  rcases hold with po | hn
  · exact main wb hb po (fun g hg => hq.lt g hg)
  · exact main w (Nat.le_refl _) h (fun g hg => by rw [hn] at hg; cases hg)
end Go.Proofs.YtdhlmpjoggnkkaaGreatDoor
namespace Go.Proofs.YtdhlmpjoggnkkaaGreatDoor
open Go.RowKit
set_option linter.unusedVariables false
set_option linter.unusedSimpArgs false

def tag0 (s j : Nat) : Nat := if j < s then 99 else if j = s then 4 else if j = s + 1 then 5 else if j = s + 2 then 2 else if j = s + 3 then 0 else if j = s + 4 then 6 else if j = s + 5 then 7 else if j = s + 6 then 1 else if j = s + 7 then 3 else 50
theorem al_old {w : World} {k : Nat} {x : Obj} (h : w.heap[k]? = some x) (o : Obj) : (w.alloc o).heap[k]? = some x := hp_al (heap_lt h) h
set_option maxHeartbeats 1000000 in
theorem start_pm {w w2 : World} (b1 : Nat) (D1 : w2.heap[w.heap.size]? = some (.cells #[.bool true, .slice none 0 0] 27)) (D2 : w2.heap[b1]? = some (.cells #[.bool true, .slice none 0 0] 27)) (Z : b1 = w.heap.size + 1 ∧ w2.heap.size = w.heap.size + 2) (N2 : Nw w w2) :
    ∃ κ : Cn, ∃ σ : St, κ.w0 = w ∧ κ.b 0 = w.heap.size ∧ κ.b 1 = b1 ∧ κ.bu = w2.heap.size ∧ κ.s4 = w2.heap.size + 1 ∧ κ.c 0 = w2.heap.size + 1 + 1 ∧ κ.c 1 = w2.heap.size + 1 + 1 + 1 ∧ κ.s2 = w2.heap.size + 1 + 1 + 1 + 1 ∧ κ.bk = w2.heap.size + 1 + 1 + 1 + 1 + 1 ∧ σ.N = 0 ∧ σ.L = σ.M ∧
      Pm ((((((w2.alloc (.cells #[.bool false, .slice none 0 0] 27)).alloc (.cells #[ptr w.heap.size, ptr b1, .pointer none, ptr w2.heap.size] 23)).alloc (.cells #[.slice none 0 0] 31)).alloc (.cells #[.slice none 0 0] 31)).alloc (.cells #[ptr (w2.heap.size + 1 + 1), ptr (w2.heap.size + 1 + 1 + 1)] 29)).alloc (.cells (HB.bkc 0 (.slice none 0 0)) 50)) κ σ := by
  obtain ⟨z1, z2⟩ := Z
  subst z1
  refine ⟨⟨w, w2.heap.size + 1 + 1 + 1 + 1 + 1 + 1, w2.heap.size + 1, w2.heap.size + 1 + 1 + 1 + 1, w2.heap.size, w2.heap.size + 1 + 1 + 1 + 1 + 1, fun k => if k = 0 then w.heap.size else w.heap.size + 1, fun k => if k = 0 then w2.heap.size + 1 + 1 else w2.heap.size + 1 + 1 + 1⟩, ⟨fun _ => .slice none 0 0, fun _ => .slice none 0 0, fun _ => [], fun _ => [], 0, .slice none 0 0, [], fun _ => [], tag0 w.heap.size⟩, rfl, rfl, rfl, rfl, rfl, rfl, rfl, rfl, rfl, rfl, rfl, ?_⟩
  have sz : ∀ (x : World) (o : Obj), (x.alloc o).heap.size = x.heap.size + 1 := fun x o => World.size_alloc x o
  have k0 := heap_new w2 (.cells #[.bool false, .slice none 0 0] 27)
  have k1 := heap_new (w2.alloc (.cells #[.bool false, .slice none 0 0] 27)) (.cells #[ptr w.heap.size, ptr (w.heap.size + 1), .pointer none, ptr w2.heap.size] 23)
  have k2 := heap_new ((w2.alloc (.cells #[.bool false, .slice none 0 0] 27)).alloc (.cells #[ptr w.heap.size, ptr (w.heap.size + 1), .pointer none, ptr w2.heap.size] 23)) (.cells #[.slice none 0 0] 31)
  have k3 := heap_new (((w2.alloc (.cells #[.bool false, .slice none 0 0] 27)).alloc (.cells #[ptr w.heap.size, ptr (w.heap.size + 1), .pointer none, ptr w2.heap.size] 23)).alloc (.cells #[.slice none 0 0] 31)) (.cells #[.slice none 0 0] 31)
  have k4 := heap_new ((((w2.alloc (.cells #[.bool false, .slice none 0 0] 27)).alloc (.cells #[ptr w.heap.size, ptr (w.heap.size + 1), .pointer none, ptr w2.heap.size] 23)).alloc (.cells #[.slice none 0 0] 31)).alloc (.cells #[.slice none 0 0] 31)) (.cells #[ptr (w2.heap.size + 1 + 1), ptr (w2.heap.size + 1 + 1 + 1)] 29)
  have k5 := heap_new (((((w2.alloc (.cells #[.bool false, .slice none 0 0] 27)).alloc (.cells #[ptr w.heap.size, ptr (w.heap.size + 1), .pointer none, ptr w2.heap.size] 23)).alloc (.cells #[.slice none 0 0] 31)).alloc (.cells #[.slice none 0 0] 31)).alloc (.cells #[ptr (w2.heap.size + 1 + 1), ptr (w2.heap.size + 1 + 1 + 1)] 29)) (.cells (HB.bkc 0 (.slice none 0 0)) 50)
  simp only [sz] at k1 k2 k3 k4 k5
  have nf := ((((((Fr.refl (fun _ => False) w2).alloc (.cells #[.bool false, .slice none 0 0] 27)).alloc (.cells #[ptr w.heap.size, ptr (w.heap.size + 1), .pointer none, ptr w2.heap.size] 23)).alloc (.cells #[.slice none 0 0] 31)).alloc (.cells #[.slice none 0 0] 31)).alloc (.cells #[ptr (w2.heap.size + 1 + 1), ptr (w2.heap.size + 1 + 1 + 1)] 29)).alloc (.cells (HB.bkc 0 (.slice none 0 0)) 50)
  refine { s4 := al_old (al_old (al_old (al_old k1 _) _) _) _, s2 := al_old k4 _, un := al_old (al_old (al_old (al_old (al_old k0 _) _) _) _) _, lg := ?_, dg := ?_, bk := ⟨k5, World.ownsRow_nil _ _ _ _, fun g hg => (by cases hg)⟩, rw := ⟨fun i h hi => by simp at hi, fun i x hx => by simp at hx, fun i h hi => by simp at hi, fun i j h h' g hij hi => by simp at hi, fun i h hi => by simp at hi⟩, num := fun i => by simp [HB.num], hl := rfl, len := fun i => by simp, fr := (N2.tr nf).mono (fun _ _ f => f.elim), lo := ?_, t4 := ?_, t2 := ?_, tn := ?_, tk := ?_, tb := ?_, tc := ?_, tv := fun k hk g hg => (by cases hg), tu := fun k hk g hg => (by cases hg), tl := fun g hg => (by cases hg), tr := fun g hg => by obtain ⟨i, h, hi, _⟩ := hg; simp at hi }
  · intro k hk
    rcases (by omega : k = 0 ∨ k = 1) with rfl | rfl
    · exact ⟨al_old (al_old (al_old (al_old (al_old (al_old D1 _) _) _) _) _) _, World.ownsRow_nil _ _ _ _, by simp [sz] <;> omega, by simp, by simp⟩
    · exact ⟨al_old (al_old (al_old (al_old (al_old (al_old D2 _) _) _) _) _) _, World.ownsRow_nil _ _ _ _, by simp [sz] <;> omega, by simp, by simp⟩
  · intro k hk
    rcases (by omega : k = 0 ∨ k = 1) with rfl | rfl
    · exact ⟨al_old (al_old (al_old k2 _) _) _, World.ownsRow_nil _ _ _ _, by simp [sz] <;> omega, by simp, by simp⟩
    · exact ⟨al_old (al_old k3 _) _, World.ownsRow_nil _ _ _ _, by simp [sz], by simp, by simp⟩
  · intro j hj
    show tag0 w.heap.size j = 99
    have hj : j < w.heap.size := hj
    unfold tag0; rw [if_pos hj]
  · show tag0 w.heap.size (w2.heap.size + 1) = 0
    rw [z2]; unfold tag0; repeat (first | rw [if_pos (by omega)] | rw [if_neg (by omega)])
  · show tag0 w.heap.size (w2.heap.size + 1 + 1 + 1 + 1) = 1
    rw [z2]; unfold tag0; repeat (first | rw [if_pos (by omega)] | rw [if_neg (by omega)])
  · show tag0 w.heap.size w2.heap.size = 2
    rw [z2]; unfold tag0; repeat (first | rw [if_pos (by omega)] | rw [if_neg (by omega)])
  · show tag0 w.heap.size (w2.heap.size + 1 + 1 + 1 + 1 + 1) = 3
    rw [z2]; unfold tag0; repeat (first | rw [if_pos (by omega)] | rw [if_neg (by omega)])
  · intro k hk
    rcases (by omega : k = 0 ∨ k = 1) with rfl | rfl
    · show tag0 w.heap.size w.heap.size = 4
      unfold tag0; repeat (first | rw [if_pos (by omega)] | rw [if_neg (by omega)])
    · show tag0 w.heap.size (w.heap.size + 1) = 5
      unfold tag0; repeat (first | rw [if_pos (by omega)] | rw [if_neg (by omega)])
  · intro k hk
    rcases (by omega : k = 0 ∨ k = 1) with rfl | rfl
    · show tag0 w.heap.size (w2.heap.size + 1 + 1) = 6
      rw [z2]; unfold tag0; repeat (first | rw [if_pos (by omega)] | rw [if_neg (by omega)])
    · show tag0 w.heap.size (w2.heap.size + 1 + 1 + 1) = 7
      rw [z2]; unfold tag0; repeat (first | rw [if_pos (by omega)] | rw [if_neg (by omega)])
end Go.Proofs.YtdhlmpjoggnkkaaGreatDoor
namespace Go.Proofs.YtdhlmpjoggnkkaaGreatDoor
open Go.RowKit
set_option linter.unusedVariables false
set_option linter.unusedSimpArgs false

def pv (κ : Cn) (m : Nat) : Value := if m < 2 then ptr (κ.b m) else if m = 2 then .pointer none else ptr κ.bu
def ran (O : Od) (L : Nat → List ByteArray) (m : Nat) : An := if m < 2 then O.an (L m) else noan
theorem Pm.c4 {w : World} {κ : Cn} {σ : St} (h : Pm w κ σ) (m : Nat) (hm : m < 4) : w.cell? ⟨κ.s4, m, none⟩ = some (pv κ m) := by
  rcases (by omega : m = 0 ∨ m = 1 ∨ m = 2 ∨ m = 3) with rfl | rfl | rfl | rfl
  · exact (cell_of h.s4 0).trans rfl
  · exact (cell_of h.s4 1).trans rfl
  · exact (cell_of h.s4 2).trans rfl
  · exact (cell_of h.s4 3).trans rfl
theorem pv_form (κ : Cn) (m : Nat) : ∃ x, pv κ m = .pointer x := by
  unfold pv
  by_cases h : m < 2
  · rw [if_pos h]; exact ⟨_, rfl⟩
  · rw [if_neg h]
    by_cases h2 : m = 2
    · rw [if_pos h2]; exact ⟨_, rfl⟩
    · rw [if_neg h2]; exact ⟨_, rfl⟩
set_option maxHeartbeats 1000000 in
theorem step_u {w : World} {κ : Cn} {σ : St} (h : Pm w κ σ) (m : Nat) (hm : m < 4) (o : Od) (ho : o.ok) (n : Nat) (h1 : ∀ k, k < 2 → κ.b k < n) (h2 : ∀ k, k < 2 → ∀ g, (σ.v k).ownBlock = some g → g < n) (hL : Laid w) {B : Nat} {a : Nat → Addr} (hS : Sent B w a) :
    Calls Tryz.prog 10 #[pv κ m, .agg o.c] w fun e w' => ∃ q ρ, e = .returned (.tuple #[.agg (tcs ((ran o σ.L m).n : Int) (ran o σ.L m).s (ran o σ.L m).h q), ec a (ran o σ.L m).c]) ∧ w'.ownsRow w.heap.size 56 32 q (ran o σ.L m).l.length (hsc (ran o σ.L m).l) ∧ Pm w' κ ρ ∧ SameB σ ρ ∧ ρ.M = σ.M ∧ ρ.u = σ.u ∧ ρ.L = (if m < 2 then upd σ.L m (ran o σ.L m).m else σ.L) ∧ (ρ = σ ∨ q.ownBlock = none) ∧ (∀ j, j < w.heap.size → ρ.tag j = σ.tag j) ∧ Fr (fun j => j < n) w w' := by
  by_cases c : m < 2
  · have e1 : pv κ m = ptr (κ.b m) := by simp [pv, c]
    have e2 : ran o σ.L m = o.an (σ.L m) := by simp [ran, c]
    rw [e1, e2, if_pos c]
    exact step_pm h m c o ho n (h1 m c) (h2 m c) hL hS
  · have e2 : ran o σ.L m = noan := by simp [ran, c]
    rw [e2, if_neg c]
    refine (step_pm2 h (pv κ m) ?_ o ho hS).mono ?_
    · rcases (by omega : m = 2 ∨ m = 3) with rfl | rfl
      · exact .inl rfl
      · exact .inr rfl
    · rintro e w' ⟨q, rfl, own, p, nw⟩
      exact ⟨q, σ, rfl, own, p, SameB.refl σ, rfl, rfl, rfl, .inl rfl, fun _ _ => rfl, nw.mono (fun _ _ f => f.elim)⟩
theorem kd_ask {L : List ByteArray} {o : Od} (hk : ¬ o.kind % 7 = 0) : Ask L o.s o.kind := fun q => absurd q hk
/-- A question: nothing turns. -/
theorem step_n {w : World} {κ : Cn} {σ : St} (h : Pm w κ σ) (m : Nat) (hm : m < 4) (o : Od) (ho : o.ok) (hk : ¬ o.kind % 7 = 0) (hL : Laid w) {B : Nat} {a : Nat → Addr} (hS : Sent B w a) :
    Calls Tryz.prog 10 #[pv κ m, .agg o.c] w fun e w' => ∃ q, e = .returned (.tuple #[.agg (tcs ((ran o σ.L m).n : Int) (ran o σ.L m).s (ran o σ.L m).h q), ec a (ran o σ.L m).c]) ∧ w'.ownsRow w.heap.size 56 32 q (ran o σ.L m).l.length (hsc (ran o σ.L m).l) ∧ Nw w w' := by
  by_cases c : m < 2
  · have e1 : pv κ m = ptr (κ.b m) := by simp [pv, c]
    have e2 : ran o σ.L m = o.an (σ.L m) := by simp [ran, c]
    rw [e1, e2]
    exact step_ask (h.lg m c) o.who o.kind o.s o.x o.y o.z ho.k1 ho.k2 ho.hx ho.hy ho.hz ho.hs (kd_ask hk) hL hS
  · have e2 : ran o σ.L m = noan := by simp [ran, c]
    rw [e2]
    refine (step_pm2 h (pv κ m) ?_ o ho hS).mono ?_
    · rcases (by omega : m = 2 ∨ m = 3) with rfl | rfl
      · exact .inl rfl
      · exact .inr rfl
    · rintro e w' ⟨q, rfl, own, p, nw⟩
      exact ⟨q, rfl, own, nw⟩
/-- Behind a question the answer is the same. -/
theorem ran_again (o : Od) (L : Nat → List ByteArray) (m : Nat) (hk : ¬ o.kind % 7 = 0) : (if m < 2 then upd L m (ran o L m).m else L) = L := by
  by_cases c : m < 2
  · rw [if_pos c]
    have e2 : ran o L m = o.an (L m) := by simp [ran, c]
    rw [e2, Od.ask_m (kd_ask hk)]
    funext j
    by_cases e : j = m
    · subst e; rw [upd_self]
    · rw [upd_ne _ _ e]
  · rw [if_neg c]
end Go.Proofs.YtdhlmpjoggnkkaaGreatDoor
namespace Go.Proofs.YtdhlmpjoggnkkaaGreatDoor
open Go.RowKit
set_option linter.unusedVariables false
set_option linter.unusedSimpArgs false
/-- What is left behind Apart. -/
structure Pe (w : World) (κ : Cn) (σ : St) : Prop where
  s4 : w.heap[κ.s4]? = some (.cells #[ptr (κ.b 0), ptr (κ.b 1), .pointer none, ptr κ.bu] 23)
  s2 : w.heap[κ.s2]? = some (.cells #[ptr (κ.c 0), ptr (κ.c 1)] 29)
  lg : ∀ k, k < 2 → Lg w (κ.b k) κ.base (σ.v k) (σ.L k)
  dg : ∀ k, k < 2 → Dg w (κ.c k) κ.base (σ.u k) (σ.M k)
  fr : Nw κ.w0 w
theorem Pe.nw {w w' : World} {κ : Cn} {σ : St} (h : Pe w κ σ) (n : Nw w w') : Pe w' κ σ where
  s4 := (n.block _ (heap_lt h.s4) (fun f => f)).trans h.s4
  s2 := (n.block _ (heap_lt h.s2) (fun f => f)).trans h.s2
  lg := fun k hk => (h.lg k hk).nw n
  dg := fun k hk => (h.dg k hk).nw n
  fr := h.fr.tr n
theorem apart_pm {w : World} {κ : Cn} {σ : St} (h : Pm w κ σ) (hN : σ.N ≤ 1099511627776) :
    Calls Tryz.prog 15 #[ptr κ.bk] w fun e w' => e = .returned (.bool true) ∧ Pe w' κ σ := by
  refine (HB.apart_any κ.bk σ.N σ.bv σ.H σ.X w h.bk h.rw (by rw [h.hl]; exact hN) h.len (fun i => by have := h.num i; omega)).mono ?_
  rintro e w' ⟨rfl, f⟩
  have no : ∀ {j t : Nat}, σ.tag j = t → t ≠ 13 → t ≠ 12 → ¬ (HB.Rb σ.H j ∨ σ.bv.ownBlock = some j) := fun e h1 h2 q => by
    rcases q with q | q
    · have := h.tr _ q; omega
    · have := h.tl _ q; omega
  exact ⟨rfl, {
    s4 := (f.block _ (heap_lt h.s4) (no h.t4 (by omega) (by omega))).trans h.s4
    s2 := (f.block _ (heap_lt h.s2) (no h.t2 (by omega) (by omega))).trans h.s2
    lg := fun k hk => (h.lg k hk).fr f (no (h.tb k hk) (by omega) (by omega)) (fun g hg => no (h.tv k hk g hg) (by omega) (by omega))
    dg := fun k hk => (h.dg k hk).fr f (no (h.tc k hk) (by omega) (by omega)) (fun g hg => no (h.tu k hk g hg) (by omega) (by omega))
    fr := h.nw0.trans f (fun j hj q => no (h.lo j hj) (by omega) (by omega) q) }⟩
theorem Pe.c4 {w : World} {κ : Cn} {σ : St} (h : Pe w κ σ) (k : Nat) (hk : k < 2) : w.cell? ⟨κ.s4, k, none⟩ = some (ptr (κ.b k)) := by
  rcases (by omega : k = 0 ∨ k = 1) with rfl | rfl
  · exact (cell_of h.s4 0).trans rfl
  · exact (cell_of h.s4 1).trans rfl
theorem Pe.c2 {w : World} {κ : Cn} {σ : St} (h : Pe w κ σ) (k : Nat) (hk : k < 2) : w.cell? ⟨κ.s2, k, none⟩ = some (ptr (κ.c k)) := by
  rcases (by omega : k = 0 ∨ k = 1) with rfl | rfl
  · exact (cell_of h.s2 0).trans rfl
  · exact (cell_of h.s2 1).trans rfl
theorem size_pe {w : World} {κ : Cn} {σ : St} (h : Pe w κ σ) (k : Nat) (hk : k < 2) :
    Calls Tryz.prog 9 #[ptr (κ.c k)] w fun e w' => e = .returned (.int .u64 ((σ.M k).length : Int)) ∧ w' = w := dsize_any (h.dg k hk)
theorem root_pe {w : World} {κ : Cn} {σ : St} (h : Pe w κ σ) (hLM : σ.L = σ.M) (k : Nat) (hk : k < 2) (hL : Laid w) {B : Nat} {a : Nat → Addr} (hS : Sent B w a) :
    Calls Tryz.prog 16 #[ptr (κ.b k), .int .u64 ((σ.M k).length : Int)] w fun e w' => e = .returned (.tuple #[.agg (hbs (mth (σ.M k))), .nilIface]) ∧ Nw w w' := by
  have hl := (h.dg k hk).len
  have q := Root_any (h.lg k hk) (σ.M k).length (by omega) hL hS
  rw [treeA, hLM, if_pos ⟨Nat.zero_le _, Nat.le_refl _⟩, sbl_all] at q
  exact q
theorem mth_pe {w : World} {κ : Cn} {σ : St} (h : Pe w κ σ) (k : Nat) (hk : k < 2) :
    Calls Tryz.prog 17 #[σ.u k] w fun e w' => e = .returned (.agg (hbs (mth (σ.M k)))) ∧ Nw w w' := by
  obtain ⟨p, c, hv, hs, hc⟩ := (h.dg k hk).form
  rw [hv]
  exact refmth_any (σ.M k).length (σ.M k) p c w (Nat.le_refl _) (h.dg k hk).len (h.dg k hk).sz hc hs
section
variable {w : World} {o : Oper} {a : Act} {K : Act → Prop}
/-- One cell loaded in a region whose calls make memory alone. -/
theorem quiet_cell {t : TypeId} (x : Operand) (ho : o.op = .load t x) (g off : Nat) (hx : a.eval x = .pointer (some ⟨g, off, none⟩)) (ht : ∀ W, (isAgg t).run Tryz.prog W = .ok false W) (v : Value) (hc : w.cell? ⟨g, off, none⟩ = some v) (hk : K (a.put o.dst v)) : o.quiet Tryz.prog a (fun w' => ∃ x : Grw w, w' = x.val) K := by
  refine ⟨v, ?_, hk⟩
  rintro W ⟨y, rfl⟩
  have h1 := y.cell hc
  unfold Oper.quietAt execOp
  simp only [ho, hx, Instr.loadAt, sure, loadVar, Sem.run_bind, Sem.run_pure, Sem.run_ite, ht, Result.andThen_ok, run_load, h1, if_false, Bool.false_eq_true]
  exact ⟨rfl, rfl⟩
end
end Go.Proofs.YtdhlmpjoggnkkaaGreatDoor
