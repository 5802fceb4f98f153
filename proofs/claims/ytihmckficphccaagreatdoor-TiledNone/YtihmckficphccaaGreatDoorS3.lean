/- Path of package shape: the function within the function that calls itself. -/
import Derived.Test.YtihmckficphccaaGreatDoorSg
import Derived.Test.YtihmckficphccaaGreatDoorTw
namespace Go.Proofs.YtihmckficphccaaGreatDoor
open Go.RowKit
set_option linter.unusedVariables false
set_option linter.unusedSimpArgs false

theorem infoS : (Tryz.prog.info? 89).map (fun i => (i.zero, i.size, i.bytes)) = some (some (sp 0 0), 2, 16) := by kernel_rfl
theorem sp_new {w : World} (b e : Int) (t : TypeId) : ∀ j u, [Value.int .u64 b, .int .u64 e][j]? = some u → (w.alloc (.cells #[.int .u64 b, .int .u64 e] t)).cell? ((⟨w.heap.size, 0, none⟩ : Addr).add j) = some u := by
  intro j u h
  rw [addZ, cell_of (heap_new w _)]
  match j, h with
  | 0, h => exact h
  | 1, h => exact h
/-- The function that Path makes. -/
abbrev dnP (bi bd bp : Nat) : Value := .func (.func 96) #[] #[.pointer (some ⟨bi, 0, none⟩), .pointer (some ⟨bd, 0, none⟩), .pointer (some ⟨bp, 0, none⟩)]
/-- The variables that it shares with Path: a number, itself (of a type), the row. -/
structure Pst (w : World) (bi bd bp base : Nat) (fv : Value) (tf : TypeId) (i : Nat) (v : Value) (l : List (Nat × Nat)) : Prop where
  idx : w.heap[bi]? = some (.cells #[.int .u64 (i : Int)] 41)
  dn : w.heap[bd]? = some (.cells #[fv] tf)
  pt : w.heap[bp]? = some (.cells #[v] 140)
  own : w.ownsRow base 89 2 v l.length (fs l)
  lt : bi < base ∧ bd < base ∧ bp < base ∧ bi ≠ bp ∧ bd ≠ bp ∧ base ≤ w.heap.size
section
variable {bi bd bp base i : Nat} {fv : Value} {tf : TypeId} {v : Value} {l : List (Nat × Nat)}
theorem Pst.nw {w w' : World} (h : Pst w bi bd bp base fv tf i v l) (n : Nw w w') : Pst w' bi bd bp base fv tf i v l :=
  ⟨(n.block _ (heap_lt h.idx) (fun f => f)).trans h.idx, (n.block _ (heap_lt h.dn) (fun f => f)).trans h.dn, (n.block _ (heap_lt h.pt) (fun f => f)).trans h.pt, ownsRow_keep h.own (fun g hg => n.block g (h.own.lt g hg).2 (fun f => f)), by have := h.lt; have := n.size; omega⟩
theorem Pst.ci {w : World} (h : Pst w bi bd bp base fv tf i v l) : w.cell? ⟨bi, 0, none⟩ = some (.int .u64 (i : Int)) := (cell_of h.idx 0).trans rfl
theorem Pst.cd {w : World} (h : Pst w bi bd bp base fv tf i v l) : w.cell? ⟨bd, 0, none⟩ = some fv := (cell_of h.dn 0).trans rfl
theorem Pst.cp {w : World} (h : Pst w bi bd bp base fv tf i v l) : w.cell? ⟨bp, 0, none⟩ = some v := (cell_of h.pt 0).trans rfl
/-- What the function leaves: blocks of its caller's. -/
theorem Pst.keeps {w w' : World} (h : Pst w bi bd bp base fv tf i v l) (hf : Fr (fun k => k = bp ∨ v.ownBlock = some k) w w') {W : World} (hW : Nw W w) {k : Nat} (hk : W.heap.size ≤ k) (hk2 : k < w.heap.size) (hb : base ≤ W.heap.size) (ho : ∀ g, v.ownBlock = some g → g < W.heap.size) : w'.heap[k]? = w.heap[k]? :=
  hf.block k hk2 (fun q => by
    rcases q with q | q
    · have := h.lt; omega
    · have := ho k q; omega)
/-- One more stretch is put behind them. -/
theorem Pst.put {w w' : World} {b e : Nat} {v' : Value} (h : Pst w bi bd bp base fv tf i v l) (ho : w'.ownsRow base 89 2 v' (l.length + 1) (fs l ++ [.int .u64 (b : Int), .int .u64 (e : Int)])) (ht : Fr (fun k => v.ownBlock = some k) w w') :
    Pst (w'.setCell ⟨bp, 0, none⟩ v') bi bd bp base fv tf i v' (l ++ [(b, e)]) ∧ Fr (fun k => k = bp ∨ v.ownBlock = some k) w (w'.setCell ⟨bp, 0, none⟩ v') := by
  have hk : ∀ k, k < base → k < w.heap.size → w'.heap[k]? = w.heap[k]? := fun k hk hk2 => ht.block k hk2 (fun q => by have := (h.own.lt k q).1; omega)
  have hl := h.lt
  refine ⟨⟨?_, ?_, ?_, ?_, ?_⟩, ?_⟩
  · rw [heap_set_ne hl.2.2.2.1]; exact (hk _ hl.1 (heap_lt h.idx)).trans h.idx
  · rw [heap_set_ne hl.2.2.2.2.1]; exact (hk _ hl.2.1 (heap_lt h.dn)).trans h.dn
  · exact hp_set ((hk _ hl.2.2.1 (heap_lt h.pt)).trans h.pt) rfl
  · rw [List.length_append, fs_app]
    exact ownsRow_setCell_other ho (fun q => by have := (ho.lt _ q).1; simp only at this; omega) _
  · have := ht.size
    simp only [World.setCell, Array.size_modify]
    omega
  · exact (ht.mono (fun j _ q => .inr q)).setCell _ _ (fun _ => .inl rfl)
theorem Stays.mono {a b : World} {x y : Value} (h : Stays b x y) (hs : a.heap.size ≤ b.heap.size) : Stays a x y := h.imp id fun ⟨g, hg, hl⟩ => ⟨g, hg, by omega⟩
/-- Behind the call of itself one more stretch is put there. -/
theorem Pst.fin {w wA w2 w3 w5 : World} {b e : Nat} {v2 v' : Value} {m : List (Nat × Nat)} (nA : Nw w wA) (s2 : Stays wA v v2) (f2 : Fr (fun k => k = bp ∨ v.ownBlock = some k) wA w2) (p2 : Pst w2 bi bd bp base fv tf i v2 m) (n2 : Nw w2 w3)
    (o5 : w5.ownsRow base 89 2 v' (m.length + 1) (fs m ++ [.int .u64 (b : Int), .int .u64 (e : Int)])) (t5 : Two w3 w5 89 2 v2 v' m.length 1 (fs m ++ [.int .u64 (b : Int), .int .u64 (e : Int)])) :
    Pst (w5.setCell ⟨bp, 0, none⟩ v') bi bd bp base fv tf i v' (m ++ [(b, e)]) ∧ Stays w v v' ∧ Fr (fun k => k = bp ∨ v.ownBlock = some k) w (w5.setCell ⟨bp, 0, none⟩ v') := by
  obtain ⟨a, c⟩ := (p2.nw n2).put o5 t5.fr
  have sz := nA.size
  have sz2 := f2.size
  have sz3 := n2.size
  have s2' : Stays w v v2 := s2.mono sz
  refine ⟨a, s2'.tr (t5.stays (by omega)) (by omega), ?_⟩
  have f2' : Fr (fun k => k = bp ∨ v.ownBlock = some k) w w3 := ((nA.mono (fun _ _ f => f.elim)).trans f2 (fun _ _ h => h)).trans n2 (fun _ _ f => f.elim)
  exact f2'.stays c s2'
end

set_option maxRecDepth 100000 in
set_option maxHeartbeats 2000000 in
theorem down_any (bi bd bp base i : Nat) : ∀ (n b e : Nat) (w : World) (v : Value) (l : List (Nat × Nat)), e - b ≤ n → b ≤ i → i < e → e ≤ 9223372036854775808 → l.length + (pth i b e).length ≤ 200 → Pst w bi bd bp base (dnP bi bd bp) 178 i v l →
    Calls Tryz.prog 96 #[sp b e, .pointer (some ⟨bi, 0, none⟩), .pointer (some ⟨bd, 0, none⟩), .pointer (some ⟨bp, 0, none⟩)] w fun x w' => x = .returned (.tuple #[]) ∧ ∃ v', Pst w' bi bd bp base (dnP bi bd bp) 178 i v' (l ++ pth i b e) ∧ Stays w v v' ∧ Fr (fun k => k = bp ∨ v.ownBlock = some k) w w' := by
  obtain ⟨i0, hi, hz0, hz1, hz2⟩ := info_parts infoS
  intro n
  induction n with
  | zero => intro b e w v l h1 h2 h3; omega
  | succ n ih =>
    intro b e w v l hn hb he h63 hlen hP
    have IH := show Hid _ from ih
    clear ih
    have HP : Hid (Pst w bi bd bp base (dnP bi bd bp) 178 i v l) := hP
    clear hP
    by_cases h2 : 2 ≤ e - b
    · have h1 := spl_lt h2
      have h0 := spl_pos (e - b)
      have hq : ((e : Int) - (b : Int) == 1) = false := by simp; omega
      have QC := show Hid _ from cut_any b e h2 h63
      by_cases hlt : i < b + spl (e - b)
      · have HL : Hid (pth i b e = pth i b (b + spl (e - b)) ++ [(b + spl (e - b), e)]) := pth_left h2 hlt
        rw [HL.out]
        rw [HL.out] at hlen
        obtain ⟨k, hk⟩ : ∃ k, k = b + spl (e - b) := ⟨_, rfl⟩
        rw [← hk] at QC hlt hlen HL ⊢
        have hkb : b < k ∧ k < e := by omega
        have hik : (i : Int) < (k : Int) := by omega
        clear hk h1 h0 HL
        obtain ⟨m, hm⟩ : ∃ m, m = l ++ pth i b k := ⟨_, rfl⟩
        have hml : m.length ≤ 199 := by rw [hm]; simp at hlen ⊢; omega
        rw [← List.append_assoc, ← hm]
        have HM : Hid (l ++ pth i b k = m) := hm.symm
        clear hm
        go_enter Tryz.func96, Tryz.ntmps96
        go_wp2_with fail
        refine (QC.out _).mono ?_
        rintro x w1 ⟨rfl, n1⟩
        have nA : Nw w w1 := Nw.tr (nwa w _) n1
        have HP1 : Hid (Pst w1 bi bd bp base (dnP bi bd bp) 178 i v l) := HP.out.nw nA
        have ci := HP1.out.ci
        have cdn := HP1.out.cd
        have li := heap_lt HP1.out.idx
        have ld := heap_lt HP1.out.dn
        have NA : Hid (Nw w w1) := nA
        clear n1 nA
        go_wp2_with fail
        refine (IH.out b k _ v l (by omega) hb hlt (by omega) (by simp at hlen; omega) (HP1.out.nw ((nwa w1 _).alloc _))).mono ?_
        rintro x w2 ⟨rfl, v2, p2, s2, f2⟩
        have hb2 := HP1.out.lt.2.2.2.2.2
        have hr : w2.heap[w1.heap.size + 1]? = some (.cells #[.int .u64 (k : Int), .int .u64 (e : Int)] 89) := ((HP1.out.nw ((nwa w1 _).alloc _)).keeps f2 ((nwa w1 _).alloc _) (by omega) (by simp; try omega) hb2 (fun g hg => (HP1.out.own.lt g hg).2)).trans (by first | exact heap_next _ _ _ | (repeat first | with_reducible exact heap_new _ _ | with_reducible exact heap_new _ _ | with_reducible exact heap_next _ _ _ | with_reducible exact heap_third _ _ _ _ | with_reducible refine hp_dr ?_ | (with_reducible refine hp_ne ?_ ?_; focus omega) | (with_reducible refine hp_al ?_ ?_; focus (first | omega | (simp <;> omega))) | with_reducible apply hp_set) <;> rfl)
        rw [HM.out] at p2
        clear hlen
        obtain ⟨va, vc, rfl⟩ := ownsRow_form p2.own
        have cp := p2.cp
        have lp := heap_lt p2.pt
        have r0 := cell2a hr
        have r1 := cell2b hr
        have lr := heap_lt hr
        have own5 : Hid ((w2.alloc (.cells #[.int .u64 (k : Int), .int .u64 (e : Int)] 89)).ownsRow base 89 2 (.slice va m.length vc) m.length (fs m)) := p2.own.alloc _
        have HNew : Hid (∀ j u, [Value.int .u64 (k : Int), .int .u64 (e : Int)][j]? = some u → (w2.alloc (.cells #[.int .u64 (k : Int), .int .u64 (e : Int)] 89)).cell? ((⟨w2.heap.size, 0, none⟩ : Addr).add j) = some u) := sp_new (w := w2) (k : Int) (e : Int) 89
        have HB5 : Hid (base ≤ (w2.alloc (.cells #[.int .u64 (k : Int), .int .u64 (e : Int)] 89)).heap.size) := (p2.nw (nwa w2 _)).lt.2.2.2.2.2
        have HF : Hid (∀ v' w5, w5.ownsRow base 89 2 v' (m.length + 1) (fs m ++ [.int .u64 (k : Int), .int .u64 (e : Int)]) → Two (w2.alloc (.cells #[.int .u64 (k : Int), .int .u64 (e : Int)] 89)) w5 89 2 (.slice va m.length vc) v' m.length 1 (fs m ++ [.int .u64 (k : Int), .int .u64 (e : Int)]) → Pst (w5.setCell ⟨bp, 0, none⟩ v') bi bd bp base (dnP bi bd bp) 178 i v' (m ++ [(k, e)]) ∧ Stays w v v' ∧ Fr (fun k => k = bp ∨ v.ownBlock = some k) w (w5.setCell ⟨bp, 0, none⟩ v')) := fun v' w5 o5 t5 => Pst.fin ((NA.out.alloc _).alloc _) s2 f2 p2 (nwa w2 _) o5 t5
        have HC : Hid (∀ w5, Fr (fun k => (Value.slice va m.length vc).ownBlock = some k) (w2.alloc (.cells #[.int .u64 (k : Int), .int .u64 (e : Int)] 89)) w5 → w5.heap[bp]? = some (.cells #[.slice va m.length vc] 140)) := fun w5 f5 => (f5.block bp (by simp; omega) (fun q => by have := (p2.own.lt bp q).1; have := p2.lt; omega)).trans (by (repeat first | with_reducible exact p2.pt | with_reducible exact heap_new _ _ | with_reducible exact heap_next _ _ _ | with_reducible exact heap_third _ _ _ _ | with_reducible refine hp_dr ?_ | (with_reducible refine hp_ne ?_ ?_; focus omega) | (with_reducible refine hp_al ?_ ?_; focus (first | omega | (simp <;> omega))) | with_reducible apply hp_set) <;> rfl)
        clear p2 s2 f2 hr
        go_wp2_with (at_builtin; refine wpList_two _ rfl (.tmp 25) (.tmp 27) 140 rfl base 89 i0 (sp 0 0) 2 16 Tryz.underlying140 hi hz0 hz1 hz2 rfl (by decide) (.slice va m.length vc) m.length (fs m) rfl own5.out ⟨w2.heap.size, 0, none⟩ 1 1 [.int .u64 (k : Int), .int .u64 (e : Int)] rfl rfl HNew.out (by simp [Value.oneCell']) (by unfold maxLen; omega) (by omega) HB5.out ?_; intro v' w5 o5 t5; have hb5 := HC.out w5 t5.fr; have cb5 : w5.cell? ⟨bp, 0, none⟩ = some (.slice va m.length vc) := (cell_of hb5 0).trans rfl; have fb5 := frozen_of hb5 0; have HF5 := show Hid _ from HF.out v' w5 o5 t5; obtain ⟨xa, xc, rfl⟩ := ownsRow_form o5; clear o5 t5 hb5)
        go_end0
        exact ⟨rfl, _, HF5.out⟩
      · have HL : Hid (pth i b e = pth i (b + spl (e - b)) e ++ [(b, b + spl (e - b))]) := pth_right h2 hlt
        rw [HL.out]
        rw [HL.out] at hlen
        obtain ⟨k, hk⟩ : ∃ k, k = b + spl (e - b) := ⟨_, rfl⟩
        rw [← hk] at QC hlt hlen HL ⊢
        have hkb : b < k ∧ k < e := by omega
        have hik : ¬ (i : Int) < (k : Int) := by omega
        clear hk h1 h0 HL
        obtain ⟨m, hm⟩ : ∃ m, m = l ++ pth i k e := ⟨_, rfl⟩
        have hml : m.length ≤ 199 := by rw [hm]; simp at hlen ⊢; omega
        rw [← List.append_assoc, ← hm]
        have HM : Hid (l ++ pth i k e = m) := hm.symm
        clear hm
        go_enter Tryz.func96, Tryz.ntmps96
        go_wp2_with fail
        refine (QC.out _).mono ?_
        rintro x w1 ⟨rfl, n1⟩
        have nA : Nw w w1 := Nw.tr (nwa w _) n1
        have HP1 : Hid (Pst w1 bi bd bp base (dnP bi bd bp) 178 i v l) := HP.out.nw nA
        have ci := HP1.out.ci
        have cdn := HP1.out.cd
        have li := heap_lt HP1.out.idx
        have ld := heap_lt HP1.out.dn
        have NA : Hid (Nw w w1) := nA
        clear n1 nA
        go_wp2_with fail
        refine (IH.out k e _ v l (by omega) (by omega) he h63 (by simp at hlen; omega) (HP1.out.nw ((nwa w1 _).alloc _))).mono ?_
        rintro x w2 ⟨rfl, v2, p2, s2, f2⟩
        have hb2 := HP1.out.lt.2.2.2.2.2
        have hr : w2.heap[w1.heap.size]? = some (.cells #[.int .u64 (b : Int), .int .u64 (k : Int)] 89) := ((HP1.out.nw ((nwa w1 _).alloc _)).keeps f2 ((nwa w1 _).alloc _) (by omega) (by simp; try omega) hb2 (fun g hg => (HP1.out.own.lt g hg).2)).trans (by first | exact heap_next _ _ _ | (repeat first | with_reducible exact heap_new _ _ | with_reducible exact heap_new _ _ | with_reducible exact heap_next _ _ _ | with_reducible exact heap_third _ _ _ _ | with_reducible refine hp_dr ?_ | (with_reducible refine hp_ne ?_ ?_; focus omega) | (with_reducible refine hp_al ?_ ?_; focus (first | omega | (simp <;> omega))) | with_reducible apply hp_set) <;> rfl)
        rw [HM.out] at p2
        clear hlen
        obtain ⟨va, vc, rfl⟩ := ownsRow_form p2.own
        have cp := p2.cp
        have lp := heap_lt p2.pt
        have r0 := cell2a hr
        have r1 := cell2b hr
        have lr := heap_lt hr
        have own5 : Hid ((w2.alloc (.cells #[.int .u64 (b : Int), .int .u64 (k : Int)] 89)).ownsRow base 89 2 (.slice va m.length vc) m.length (fs m)) := p2.own.alloc _
        have HNew : Hid (∀ j u, [Value.int .u64 (b : Int), .int .u64 (k : Int)][j]? = some u → (w2.alloc (.cells #[.int .u64 (b : Int), .int .u64 (k : Int)] 89)).cell? ((⟨w2.heap.size, 0, none⟩ : Addr).add j) = some u) := sp_new (w := w2) (b : Int) (k : Int) 89
        have HB5 : Hid (base ≤ (w2.alloc (.cells #[.int .u64 (b : Int), .int .u64 (k : Int)] 89)).heap.size) := (p2.nw (nwa w2 _)).lt.2.2.2.2.2
        have HF : Hid (∀ v' w5, w5.ownsRow base 89 2 v' (m.length + 1) (fs m ++ [.int .u64 (b : Int), .int .u64 (k : Int)]) → Two (w2.alloc (.cells #[.int .u64 (b : Int), .int .u64 (k : Int)] 89)) w5 89 2 (.slice va m.length vc) v' m.length 1 (fs m ++ [.int .u64 (b : Int), .int .u64 (k : Int)]) → Pst (w5.setCell ⟨bp, 0, none⟩ v') bi bd bp base (dnP bi bd bp) 178 i v' (m ++ [(b, k)]) ∧ Stays w v v' ∧ Fr (fun k => k = bp ∨ v.ownBlock = some k) w (w5.setCell ⟨bp, 0, none⟩ v')) := fun v' w5 o5 t5 => Pst.fin ((NA.out.alloc _).alloc _) s2 f2 p2 (nwa w2 _) o5 t5
        have HC : Hid (∀ w5, Fr (fun k => (Value.slice va m.length vc).ownBlock = some k) (w2.alloc (.cells #[.int .u64 (b : Int), .int .u64 (k : Int)] 89)) w5 → w5.heap[bp]? = some (.cells #[.slice va m.length vc] 140)) := fun w5 f5 => (f5.block bp (by simp; omega) (fun q => by have := (p2.own.lt bp q).1; have := p2.lt; omega)).trans (by (repeat first | with_reducible exact p2.pt | with_reducible exact heap_new _ _ | with_reducible exact heap_next _ _ _ | with_reducible exact heap_third _ _ _ _ | with_reducible refine hp_dr ?_ | (with_reducible refine hp_ne ?_ ?_; focus omega) | (with_reducible refine hp_al ?_ ?_; focus (first | omega | (simp <;> omega))) | with_reducible apply hp_set) <;> rfl)
        clear p2 s2 f2 hr
        go_wp2_with (at_builtin; refine wpList_two _ rfl (.tmp 32) (.tmp 34) 140 rfl base 89 i0 (sp 0 0) 2 16 Tryz.underlying140 hi hz0 hz1 hz2 rfl (by decide) (.slice va m.length vc) m.length (fs m) rfl own5.out ⟨w2.heap.size, 0, none⟩ 1 1 [.int .u64 (b : Int), .int .u64 (k : Int)] rfl rfl HNew.out (by simp [Value.oneCell']) (by unfold maxLen; omega) (by omega) HB5.out ?_; intro v' w5 o5 t5; have hb5 := HC.out w5 t5.fr; have cb5 : w5.cell? ⟨bp, 0, none⟩ = some (.slice va m.length vc) := (cell_of hb5 0).trans rfl; have fb5 := frozen_of hb5 0; have HF5 := show Hid _ from HF.out v' w5 o5 t5; obtain ⟨xa, xc, rfl⟩ := ownsRow_form o5; clear o5 t5 hb5)
        go_end0
        exact ⟨rfl, _, HF5.out⟩
    · have hq : (e : Int) - (b : Int) = 1 := by omega
      rw [pth_one h2, List.append_nil]
      go_enter Tryz.func96, Tryz.ntmps96
      go_wp2_with fail
      exact bodyPost_ret (v := .tuple #[]) (by simp [results, Tryz.results96]) rfl ⟨rfl, v, HP.out.nw (nwa w _), Stays.refl _ _, (Fr.refl _ w).alloc _⟩
theorem fs_nil : fs [] = [] := rfl

set_option maxRecDepth 100000 in
set_option maxHeartbeats 2000000 in
theorem path_yes (i n : Nat) (h : i < n) (hn : n ≤ 9223372036854775808) (w : World) :
    Calls Tryz.prog 73 #[.int .u64 (i : Int), .int .u64 (n : Int)] w fun x w' => ∃ v, x = .returned (.tuple #[v, .nilIface]) ∧ w'.ownsRow w.heap.size 89 2 v (pth i 0 n).length (fs (pth i 0 n)) ∧ Nw w w' := by
  have hin : (i : Int) < (n : Int) := by omega
  have hl : Hid ((pth i 0 n).length ≤ 63) := pth_len 63 i 0 n (by rw [p63]; omega)
  have hst : ∀ (W : World) (ad : Addr) (fn : Fn) (f c : Array Value), (store ad (.func fn f c)).run Tryz.prog W = stored Tryz.prog W ad (.func fn f c) .plain := fun W ad fn f c => run_store _ W ad _ .plain rfl
  go_enter Tryz.func73, Tryz.ntmps73
  go_wp2_with fail
  refine (down_any w.heap.size (w.heap.size + 1 + 1) (w.heap.size + 1) (w.heap.size + 1 + 1 + 1) i n 0 n _ (.slice none 0 0) [] (by omega) (by omega) h hn (by have := hl.out; simp; omega) ⟨by (repeat first | with_reducible exact heap_new _ _ | with_reducible exact heap_new _ _ | with_reducible exact heap_next _ _ _ | with_reducible exact heap_third _ _ _ _ | with_reducible refine hp_dr ?_ | (with_reducible refine hp_ne ?_ ?_; focus omega) | (with_reducible refine hp_al ?_ ?_; focus (first | omega | (simp <;> omega))) | with_reducible apply hp_set) <;> rfl, heap_third _ _ _ _, by (repeat first | with_reducible exact heap_next _ _ _ | with_reducible exact heap_new _ _ | with_reducible exact heap_next _ _ _ | with_reducible exact heap_third _ _ _ _ | with_reducible refine hp_dr ?_ | (with_reducible refine hp_ne ?_ ?_; focus omega) | (with_reducible refine hp_al ?_ ?_; focus (first | omega | (simp <;> omega))) | with_reducible apply hp_set) <;> rfl, World.ownsRow_nil _ _ _ _, by simp; omega⟩).mono ?_
  rintro x w1 ⟨rfl, v1, p1, s1, f1⟩
  rw [List.nil_append] at p1
  have cp := p1.cp
  have n1 : Hid (Nw w w1) := ((((nwa w _).alloc _).alloc _).mono (S' := fun k => w.heap.size ≤ k) (fun _ _ f => f.elim)).trans (f1.mono (S' := fun k => w.heap.size ≤ k) (fun j hj q => by
    rcases q with q | q
    · omega
    · cases q)) (fun _ _ h => h) |>.mono (fun j hj (q : w.heap.size ≤ j) => by omega)
  have ho : Hid (w1.ownsRow w.heap.size 89 2 v1 (pth i 0 n).length (fs (pth i 0 n))) := ownsRow_base p1.own (by omega)
  obtain ⟨va, vc, rfl⟩ := ownsRow_form p1.own
  have lp := heap_lt p1.pt
  clear p1 s1 f1
  go_wp2_with fail
  exact bodyPost_ret (v := .tuple #[.slice va (pth i 0 n).length vc, .nilIface]) (by simp [results, Tryz.results73]) rfl ⟨_, rfl, ho.out, n1.out⟩
end Go.Proofs.YtihmckficphccaaGreatDoor
