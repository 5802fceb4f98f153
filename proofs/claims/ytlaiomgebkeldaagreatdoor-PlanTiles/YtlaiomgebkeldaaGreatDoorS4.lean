/- Proof of package shape: the function within the function that calls itself. -/
import Derived.Test.YtlaiomgebkeldaaGreatDoorS3
namespace Go.Proofs.YtlaiomgebkeldaaGreatDoor
open Go.RowKit
set_option linter.unusedVariables false
set_option linter.unusedSimpArgs false

/-- The function that Proof makes. -/
abbrev dnQ (bi bd bp : Nat) : Value := .func (.func 111) #[] #[.pointer (some ⟨bi, 0, none⟩), .pointer (some ⟨bp, 0, none⟩), .pointer (some ⟨bd, 0, none⟩)]

set_option maxRecDepth 100000 in
set_option maxHeartbeats 4000000 in
theorem downQ_any (bi bd bp base i : Nat) : ∀ (n b e : Nat) (known : Bool) (w : World) (v : Value) (l : List (Nat × Nat)), e - b ≤ n → b < i → i ≤ e → e ≤ 9223372036854775808 → l.length + (prf i b e known).length ≤ 200 → Pst w bi bd bp base (dnQ bi bd bp) 132 i v l →
    Calls Tryz.prog 111 #[sp b e, .bool known, .pointer (some ⟨bi, 0, none⟩), .pointer (some ⟨bp, 0, none⟩), .pointer (some ⟨bd, 0, none⟩)] w fun x w' => x = .returned (.tuple #[]) ∧ ∃ v', Pst w' bi bd bp base (dnQ bi bd bp) 132 i v' (l ++ prf i b e known) ∧ Stays w v v' ∧ Fr (fun k => k = bp ∨ v.ownBlock = some k) w w' := by
  obtain ⟨i0, hi, hz0, hz1, hz2⟩ := info_parts infoS
  intro n
  induction n with
  | zero => intro b e known w v l h1 h2 h3; omega
  | succ n ih =>
    intro b e known w v l hn hb he h63 hlen hP
    have IH := show Hid _ from ih
    clear ih
    have HP : Hid (Pst w bi bd bp base (dnQ bi bd bp) 132 i v l) := hP
    have ci0 := hP.ci
    have li0 := heap_lt hP.idx
    by_cases hie : i = e
    · subst hie
      cases known with
      | true =>
        rw [prf_known, List.append_nil]
        clear hP
        go_enter Tryz.func111, Tryz.ntmps111
        go_wp2_with fail
        exact bodyPost_ret (v := .tuple #[]) (by simp [results, Tryz.results111]) rfl ⟨rfl, v, HP.out.nw (nwa w _), Stays.refl _ _, (Fr.refl _ w).alloc _⟩
      | false =>
        rw [prf_whole] at hlen ⊢
        simp at hlen
        obtain ⟨va, vc, rfl⟩ := ownsRow_form hP.own
        have cp := hP.cp
        have lp := heap_lt hP.pt
        have own5 : Hid (((w.alloc (.cells #[.int .u64 (b : Int), .int .u64 (i : Int)] 81)).alloc (.cells #[.int .u64 (b : Int), .int .u64 (i : Int)] 81)).ownsRow base 81 2 (.slice va l.length vc) l.length (fs l)) := (hP.own.alloc _).alloc _
        have HNew : Hid (∀ j u, [Value.int .u64 (b : Int), .int .u64 (i : Int)][j]? = some u → ((w.alloc (.cells #[.int .u64 (b : Int), .int .u64 (i : Int)] 81)).alloc (.cells #[.int .u64 (b : Int), .int .u64 (i : Int)] 81)).cell? ((⟨w.heap.size + 1, 0, none⟩ : Addr).add j) = some u) := by
          have := sp_new (w := w.alloc (.cells #[.int .u64 (b : Int), .int .u64 (i : Int)] 81)) (b : Int) (i : Int) 81
          rw [World.size_alloc] at this
          exact this
        have HP2 : Hid (Pst ((w.alloc (.cells #[.int .u64 (b : Int), .int .u64 (i : Int)] 81)).alloc (.cells #[.int .u64 (b : Int), .int .u64 (i : Int)] 81)) bi bd bp base (dnQ bi bd bp) 132 i (.slice va l.length vc) l) := hP.nw ((nwa w _).alloc _)
        have HB5 : Hid (base ≤ ((w.alloc (.cells #[.int .u64 (b : Int), .int .u64 (i : Int)] 81)).alloc (.cells #[.int .u64 (b : Int), .int .u64 (i : Int)] 81)).heap.size) := HP2.out.lt.2.2.2.2.2
        have HF : Hid (∀ v' w5, w5.ownsRow base 81 2 v' (l.length + 1) (fs l ++ [.int .u64 (b : Int), .int .u64 (i : Int)]) → Two ((w.alloc (.cells #[.int .u64 (b : Int), .int .u64 (i : Int)] 81)).alloc (.cells #[.int .u64 (b : Int), .int .u64 (i : Int)] 81)) w5 81 2 (.slice va l.length vc) v' l.length 1 (fs l ++ [.int .u64 (b : Int), .int .u64 (i : Int)]) → Pst (w5.setCell ⟨bp, 0, none⟩ v') bi bd bp base (dnQ bi bd bp) 132 i v' (l ++ [(b, i)]) ∧ Stays w (.slice va l.length vc) v' ∧ Fr (fun k => k = bp ∨ (Value.slice va l.length vc).ownBlock = some k) w (w5.setCell ⟨bp, 0, none⟩ v')) := fun v' w5 o5 t5 => Pst.fin (nwr w) (Stays.refl _ _) (Fr.refl _ w) HP.out ((nwa w _).alloc _) o5 t5
        have HC : Hid (∀ w5, Fr (fun k => (Value.slice va l.length vc).ownBlock = some k) ((w.alloc (.cells #[.int .u64 (b : Int), .int .u64 (i : Int)] 81)).alloc (.cells #[.int .u64 (b : Int), .int .u64 (i : Int)] 81)) w5 → w5.heap[bp]? = some (.cells #[.slice va l.length vc] 89)) := fun w5 f5 => (f5.block bp (by simp; omega) (fun q => by have := (HP2.out.own.lt bp q).1; have := HP2.out.lt; omega)).trans HP2.out.pt
        clear hP
        go_enter Tryz.func111, Tryz.ntmps111
        go_wp2_with (at_builtin; refine wpList_two _ rfl (.tmp 15) (.tmp 17) 89 rfl base 81 i0 (sp 0 0) 2 16 Tryz.underlying89 hi hz0 hz1 hz2 rfl (by decide) (.slice va l.length vc) l.length (fs l) rfl own5.out ⟨w.heap.size + 1, 0, none⟩ 1 1 [.int .u64 (b : Int), .int .u64 (i : Int)] rfl rfl HNew.out (by simp [Value.oneCell']) (by unfold maxLen; omega) (by omega) HB5.out ?_; intro v' w5 o5 t5; have hb5 := HC.out w5 t5.fr; have cb5 : w5.cell? ⟨bp, 0, none⟩ = some (.slice va l.length vc) := (cell_of hb5 0).trans rfl; have fb5 := frozen_of hb5 0; have HF5 := show Hid _ from HF.out v' w5 o5 t5; obtain ⟨xa, xc, rfl⟩ := ownsRow_form o5; clear o5 t5 hb5)
        exact bodyPost_ret (v := .tuple #[]) (by simp [results, Tryz.results111]) rfl ⟨rfl, _, HF5.out⟩
    · have h2 : 2 ≤ e - b := by omega
      have h1 := spl_lt h2
      have h0 := spl_pos (e - b)
      have hq : ((i : Int) == (e : Int)) = false := by simp; omega
      have QC := show Hid _ from cut_any b e h2 h63
      clear hP
      by_cases hlt : i ≤ b + spl (e - b)
      · have HL : Hid (prf i b e known = prf i b (b + spl (e - b)) known ++ [(b + spl (e - b), e)]) := prf_left h2 hie hlt
        rw [HL.out]
        rw [HL.out] at hlen
        obtain ⟨k, hk⟩ : ∃ k, k = b + spl (e - b) := ⟨_, rfl⟩
        rw [← hk] at QC hlt hlen HL ⊢
        have hkb : b < k ∧ k < e := by omega
        have hik : (i : Int) ≤ (k : Int) := by omega
        clear hk h1 h0 HL hie
        obtain ⟨m, hm⟩ : ∃ m, m = l ++ prf i b k known := ⟨_, rfl⟩
        have hml : m.length ≤ 199 := by rw [hm]; simp at hlen ⊢; omega
        rw [← List.append_assoc, ← hm]
        have HM : Hid (l ++ prf i b k known = m) := hm.symm
        clear hm
        go_enter Tryz.func111, Tryz.ntmps111
        go_wp2_with fail
        refine (QC.out _).mono ?_
        rintro x w1 ⟨rfl, n1⟩
        have nA : Nw w w1 := Nw.tr (nwa w _) n1
        have HP1 : Hid (Pst w1 bi bd bp base (dnQ bi bd bp) 132 i v l) := HP.out.nw nA
        have ci := HP1.out.ci
        have cdn := HP1.out.cd
        have li := heap_lt HP1.out.idx
        have ld := heap_lt HP1.out.dn
        have NA : Hid (Nw w w1) := nA
        clear n1 nA
        go_wp2_with fail
        refine (IH.out b k known _ v l (by omega) hb hlt (by omega) (by simp at hlen; omega) (HP1.out.nw ((nwa w1 _).alloc _))).mono ?_
        rintro x w2 ⟨rfl, v2, p2, s2, f2⟩
        have hb2 := HP1.out.lt.2.2.2.2.2
        have hr : w2.heap[w1.heap.size + 1]? = some (.cells #[.int .u64 (k : Int), .int .u64 (e : Int)] 81) := ((HP1.out.nw ((nwa w1 _).alloc _)).keeps f2 ((nwa w1 _).alloc _) (by omega) (by simp; try omega) hb2 (fun g hg => (HP1.out.own.lt g hg).2)).trans (by first | exact heap_next _ _ _ | (repeat first | with_reducible exact heap_new _ _ | with_reducible exact heap_new _ _ | with_reducible exact heap_next _ _ _ | with_reducible exact heap_third _ _ _ _ | with_reducible refine hp_dr ?_ | (with_reducible refine hp_ne ?_ ?_; focus omega) | (with_reducible refine hp_al ?_ ?_; focus (first | omega | (simp <;> omega))) | with_reducible apply hp_set) <;> rfl)
        rw [HM.out] at p2
        clear hlen
        obtain ⟨va, vc, rfl⟩ := ownsRow_form p2.own
        have cp := p2.cp
        have lp := heap_lt p2.pt
        have r0 := cell2a hr
        have r1 := cell2b hr
        have lr := heap_lt hr
        have own5 : Hid ((w2.alloc (.cells #[.int .u64 (k : Int), .int .u64 (e : Int)] 81)).ownsRow base 81 2 (.slice va m.length vc) m.length (fs m)) := p2.own.alloc _
        have HNew : Hid (∀ j u, [Value.int .u64 (k : Int), .int .u64 (e : Int)][j]? = some u → (w2.alloc (.cells #[.int .u64 (k : Int), .int .u64 (e : Int)] 81)).cell? ((⟨w2.heap.size, 0, none⟩ : Addr).add j) = some u) := sp_new (w := w2) (k : Int) (e : Int) 81
        have HB5 : Hid (base ≤ (w2.alloc (.cells #[.int .u64 (k : Int), .int .u64 (e : Int)] 81)).heap.size) := (p2.nw (nwa w2 _)).lt.2.2.2.2.2
        have HF : Hid (∀ v' w5, w5.ownsRow base 81 2 v' (m.length + 1) (fs m ++ [.int .u64 (k : Int), .int .u64 (e : Int)]) → Two (w2.alloc (.cells #[.int .u64 (k : Int), .int .u64 (e : Int)] 81)) w5 81 2 (.slice va m.length vc) v' m.length 1 (fs m ++ [.int .u64 (k : Int), .int .u64 (e : Int)]) → Pst (w5.setCell ⟨bp, 0, none⟩ v') bi bd bp base (dnQ bi bd bp) 132 i v' (m ++ [(k, e)]) ∧ Stays w v v' ∧ Fr (fun k => k = bp ∨ v.ownBlock = some k) w (w5.setCell ⟨bp, 0, none⟩ v')) := fun v' w5 o5 t5 => Pst.fin ((NA.out.alloc _).alloc _) s2 f2 p2 (nwa w2 _) o5 t5
        have HC : Hid (∀ w5, Fr (fun k => (Value.slice va m.length vc).ownBlock = some k) (w2.alloc (.cells #[.int .u64 (k : Int), .int .u64 (e : Int)] 81)) w5 → w5.heap[bp]? = some (.cells #[.slice va m.length vc] 89)) := fun w5 f5 => (f5.block bp (by simp; omega) (fun q => by have := (p2.own.lt bp q).1; have := p2.lt; omega)).trans (by (repeat first | with_reducible exact p2.pt | with_reducible exact heap_new _ _ | with_reducible exact heap_next _ _ _ | with_reducible exact heap_third _ _ _ _ | with_reducible refine hp_dr ?_ | (with_reducible refine hp_ne ?_ ?_; focus omega) | (with_reducible refine hp_al ?_ ?_; focus (first | omega | (simp <;> omega))) | with_reducible apply hp_set) <;> rfl)
        clear p2 s2 f2 hr
        go_wp2_with (at_builtin; refine wpList_two _ rfl (.tmp 32) (.tmp 34) 89 rfl base 81 i0 (sp 0 0) 2 16 Tryz.underlying89 hi hz0 hz1 hz2 rfl (by decide) (.slice va m.length vc) m.length (fs m) rfl own5.out ⟨w2.heap.size, 0, none⟩ 1 1 [.int .u64 (k : Int), .int .u64 (e : Int)] rfl rfl HNew.out (by simp [Value.oneCell']) (by unfold maxLen; omega) (by omega) HB5.out ?_; intro v' w5 o5 t5; have hb5 := HC.out w5 t5.fr; have cb5 : w5.cell? ⟨bp, 0, none⟩ = some (.slice va m.length vc) := (cell_of hb5 0).trans rfl; have fb5 := frozen_of hb5 0; have HF5 := show Hid _ from HF.out v' w5 o5 t5; obtain ⟨xa, xc, rfl⟩ := ownsRow_form o5; clear o5 t5 hb5)
        go_end0
        exact ⟨rfl, _, HF5.out⟩
      · have HL : Hid (prf i b e known = prf i (b + spl (e - b)) e false ++ [(b, b + spl (e - b))]) := prf_right h2 hie hlt
        rw [HL.out]
        rw [HL.out] at hlen
        obtain ⟨k, hk⟩ : ∃ k, k = b + spl (e - b) := ⟨_, rfl⟩
        rw [← hk] at QC hlt hlen HL ⊢
        have hkb : b < k ∧ k < e := by omega
        have hik : ¬ (i : Int) ≤ (k : Int) := by omega
        clear hk h1 h0 HL hie
        obtain ⟨m, hm⟩ : ∃ m, m = l ++ prf i k e false := ⟨_, rfl⟩
        have hml : m.length ≤ 199 := by rw [hm]; simp at hlen ⊢; omega
        rw [← List.append_assoc, ← hm]
        have HM : Hid (l ++ prf i k e false = m) := hm.symm
        clear hm
        go_enter Tryz.func111, Tryz.ntmps111
        go_wp2_with fail
        refine (QC.out _).mono ?_
        rintro x w1 ⟨rfl, n1⟩
        have nA : Nw w w1 := Nw.tr (nwa w _) n1
        have HP1 : Hid (Pst w1 bi bd bp base (dnQ bi bd bp) 132 i v l) := HP.out.nw nA
        have ci := HP1.out.ci
        have cdn := HP1.out.cd
        have li := heap_lt HP1.out.idx
        have ld := heap_lt HP1.out.dn
        have NA : Hid (Nw w w1) := nA
        clear n1 nA
        go_wp2_with fail
        refine (IH.out k e false _ v l (by omega) (by omega) he h63 (by simp at hlen; omega) (HP1.out.nw ((nwa w1 _).alloc _))).mono ?_
        rintro x w2 ⟨rfl, v2, p2, s2, f2⟩
        have hb2 := HP1.out.lt.2.2.2.2.2
        have hr : w2.heap[w1.heap.size]? = some (.cells #[.int .u64 (b : Int), .int .u64 (k : Int)] 81) := ((HP1.out.nw ((nwa w1 _).alloc _)).keeps f2 ((nwa w1 _).alloc _) (by omega) (by simp; try omega) hb2 (fun g hg => (HP1.out.own.lt g hg).2)).trans (by first | exact heap_next _ _ _ | (repeat first | with_reducible exact heap_new _ _ | with_reducible exact heap_new _ _ | with_reducible exact heap_next _ _ _ | with_reducible exact heap_third _ _ _ _ | with_reducible refine hp_dr ?_ | (with_reducible refine hp_ne ?_ ?_; focus omega) | (with_reducible refine hp_al ?_ ?_; focus (first | omega | (simp <;> omega))) | with_reducible apply hp_set) <;> rfl)
        rw [HM.out] at p2
        clear hlen
        obtain ⟨va, vc, rfl⟩ := ownsRow_form p2.own
        have cp := p2.cp
        have lp := heap_lt p2.pt
        have r0 := cell2a hr
        have r1 := cell2b hr
        have lr := heap_lt hr
        have own5 : Hid ((w2.alloc (.cells #[.int .u64 (b : Int), .int .u64 (k : Int)] 81)).ownsRow base 81 2 (.slice va m.length vc) m.length (fs m)) := p2.own.alloc _
        have HNew : Hid (∀ j u, [Value.int .u64 (b : Int), .int .u64 (k : Int)][j]? = some u → (w2.alloc (.cells #[.int .u64 (b : Int), .int .u64 (k : Int)] 81)).cell? ((⟨w2.heap.size, 0, none⟩ : Addr).add j) = some u) := sp_new (w := w2) (b : Int) (k : Int) 81
        have HB5 : Hid (base ≤ (w2.alloc (.cells #[.int .u64 (b : Int), .int .u64 (k : Int)] 81)).heap.size) := (p2.nw (nwa w2 _)).lt.2.2.2.2.2
        have HF : Hid (∀ v' w5, w5.ownsRow base 81 2 v' (m.length + 1) (fs m ++ [.int .u64 (b : Int), .int .u64 (k : Int)]) → Two (w2.alloc (.cells #[.int .u64 (b : Int), .int .u64 (k : Int)] 81)) w5 81 2 (.slice va m.length vc) v' m.length 1 (fs m ++ [.int .u64 (b : Int), .int .u64 (k : Int)]) → Pst (w5.setCell ⟨bp, 0, none⟩ v') bi bd bp base (dnQ bi bd bp) 132 i v' (m ++ [(b, k)]) ∧ Stays w v v' ∧ Fr (fun k => k = bp ∨ v.ownBlock = some k) w (w5.setCell ⟨bp, 0, none⟩ v')) := fun v' w5 o5 t5 => Pst.fin ((NA.out.alloc _).alloc _) s2 f2 p2 (nwa w2 _) o5 t5
        have HC : Hid (∀ w5, Fr (fun k => (Value.slice va m.length vc).ownBlock = some k) (w2.alloc (.cells #[.int .u64 (b : Int), .int .u64 (k : Int)] 81)) w5 → w5.heap[bp]? = some (.cells #[.slice va m.length vc] 89)) := fun w5 f5 => (f5.block bp (by simp; omega) (fun q => by have := (p2.own.lt bp q).1; have := p2.lt; omega)).trans (by (repeat first | with_reducible exact p2.pt | with_reducible exact heap_new _ _ | with_reducible exact heap_next _ _ _ | with_reducible exact heap_third _ _ _ _ | with_reducible refine hp_dr ?_ | (with_reducible refine hp_ne ?_ ?_; focus omega) | (with_reducible refine hp_al ?_ ?_; focus (first | omega | (simp <;> omega))) | with_reducible apply hp_set) <;> rfl)
        clear p2 s2 f2 hr
        go_wp2_with (at_builtin; refine wpList_two _ rfl (.tmp 39) (.tmp 41) 89 rfl base 81 i0 (sp 0 0) 2 16 Tryz.underlying89 hi hz0 hz1 hz2 rfl (by decide) (.slice va m.length vc) m.length (fs m) rfl own5.out ⟨w2.heap.size, 0, none⟩ 1 1 [.int .u64 (b : Int), .int .u64 (k : Int)] rfl rfl HNew.out (by simp [Value.oneCell']) (by unfold maxLen; omega) (by omega) HB5.out ?_; intro v' w5 o5 t5; have hb5 := HC.out w5 t5.fr; have cb5 : w5.cell? ⟨bp, 0, none⟩ = some (.slice va m.length vc) := (cell_of hb5 0).trans rfl; have fb5 := frozen_of hb5 0; have HF5 := show Hid _ from HF.out v' w5 o5 t5; obtain ⟨xa, xc, rfl⟩ := ownsRow_form o5; clear o5 t5 hb5)
        go_end0
        exact ⟨rfl, _, HF5.out⟩

set_option maxRecDepth 100000 in
set_option maxHeartbeats 2000000 in
theorem proof_yes (i n : Nat) (h0 : 0 < i) (h : i ≤ n) (hn : n ≤ 9223372036854775808) (w : World) :
    Calls Tryz.prog 37 #[.int .u64 (i : Int), .int .u64 (n : Int)] w fun x w' => ∃ v, x = .returned (.tuple #[v, .nilIface]) ∧ w'.ownsRow w.heap.size 81 2 v (prf i 0 n true).length (fs (prf i 0 n true)) ∧ Nw w w' := by
  have hin : ¬ (n : Int) < (i : Int) := by omega
  have hiz : ((i : Int) == 0) = false := by simp; omega
  have hl : Hid ((prf i 0 n true).length ≤ 63 + 1) := prf_len 63 i 0 n true (by rw [p63]; omega) h0 h
  have hst : ∀ (W : World) (ad : Addr) (fn : Fn) (f c : Array Value), (store ad (.func fn f c)).run Tryz.prog W = stored Tryz.prog W ad (.func fn f c) .plain := fun W ad fn f c => run_store _ W ad _ .plain rfl
  go_enter Tryz.func37, Tryz.ntmps37
  go_wp2_with fail
  refine (downQ_any w.heap.size (w.heap.size + 1 + 1) (w.heap.size + 1) (w.heap.size + 1 + 1 + 1) i n 0 n true _ (.slice none 0 0) [] (by omega) (by omega) h hn (by have := hl.out; simp; omega) ⟨by (repeat first | with_reducible exact heap_new _ _ | with_reducible exact heap_new _ _ | with_reducible exact heap_next _ _ _ | with_reducible exact heap_third _ _ _ _ | with_reducible refine hp_dr ?_ | (with_reducible refine hp_ne ?_ ?_; focus omega) | (with_reducible refine hp_al ?_ ?_; focus (first | omega | (simp <;> omega))) | with_reducible apply hp_set) <;> rfl, heap_third _ _ _ _, by (repeat first | with_reducible exact heap_next _ _ _ | with_reducible exact heap_new _ _ | with_reducible exact heap_next _ _ _ | with_reducible exact heap_third _ _ _ _ | with_reducible refine hp_dr ?_ | (with_reducible refine hp_ne ?_ ?_; focus omega) | (with_reducible refine hp_al ?_ ?_; focus (first | omega | (simp <;> omega))) | with_reducible apply hp_set) <;> rfl, World.ownsRow_nil _ _ _ _, by simp; omega⟩).mono ?_
  rintro x w1 ⟨rfl, v1, p1, s1, f1⟩
  rw [List.nil_append] at p1
  have cp := p1.cp
  have n1 : Hid (Nw w w1) := ((((nwa w _).alloc _).alloc _).mono (S' := fun k => w.heap.size ≤ k) (fun _ _ f => f.elim)).trans (f1.mono (S' := fun k => w.heap.size ≤ k) (fun j hj q => by
    rcases q with q | q
    · omega
    · cases q)) (fun _ _ h => h) |>.mono (fun j hj (q : w.heap.size ≤ j) => by omega)
  have ho : Hid (w1.ownsRow w.heap.size 81 2 v1 (prf i 0 n true).length (fs (prf i 0 n true))) := ownsRow_base p1.own (by omega)
  obtain ⟨va, vc, rfl⟩ := ownsRow_form p1.own
  have lp := heap_lt p1.pt
  clear p1 s1 f1
  go_wp2_with fail
  exact bodyPost_ret (v := .tuple #[.slice va (prf i 0 n true).length vc, .nilIface]) (by simp [results, Tryz.results37]) rfl ⟨_, rfl, ho.out, n1.out⟩
end Go.Proofs.YtlaiomgebkeldaaGreatDoor
