/- Proof of package shape: the function within the function that calls itself. -/
import Derived.Test.YtjkhcplnedcmeaaGreatDoorSg
import Derived.Test.YtjkhcplnedcmeaaGreatDoorEg
namespace Go.Proofs.YtjkhcplnedcmeaaGreatDoor
open Go.RowKit
set_option linter.unusedVariables false
set_option linter.unusedSimpArgs false

/-- The function that Proof makes. -/
abbrev dnQ (bi bd bp : Nat) : Value := .func (.func 145) #[] #[.pointer (some ⟨bi, 0, none⟩), .pointer (some ⟨bp, 0, none⟩), .pointer (some ⟨bd, 0, none⟩)]

set_option maxRecDepth 100000 in
set_option maxHeartbeats 4000000 in
theorem downQ_any (bi bd bp base i : Nat) : ∀ (n b e : Nat) (known : Bool) (w : World) (v : Value) (l : List (Nat × Nat)), e - b ≤ n → b < i → i ≤ e → e ≤ 9223372036854775808 → l.length + (prf i b e known).length ≤ 200 → Pst w bi bd bp base (dnQ bi bd bp) 246 i v l →
    Calls Tryz.prog 145 #[sp b e, .bool known, .pointer (some ⟨bi, 0, none⟩), .pointer (some ⟨bp, 0, none⟩), .pointer (some ⟨bd, 0, none⟩)] w fun x w' => x = .returned (.tuple #[]) ∧ ∃ v', Pst w' bi bd bp base (dnQ bi bd bp) 246 i v' (l ++ prf i b e known) ∧ Stays w v v' ∧ Fr (fun k => k = bp ∨ v.ownBlock = some k) w w' := by
  obtain ⟨i0, hi, hz0, hz1, hz2⟩ := info_parts infoS
  intro n
  induction n with
  | zero => intro b e known w v l h1 h2 h3; omega
  | succ n ih =>
    intro b e known w v l hn hb he h63 hlen hP
    have IH := show Hid _ from ih
    clear ih
    have HP : Hid (Pst w bi bd bp base (dnQ bi bd bp) 246 i v l) := hP
    have ci0 := hP.ci
    have li0 := heap_lt hP.idx
    by_cases hie : i = e
    · subst hie
      cases known with
      | true =>
        rw [prf_known, List.append_nil]
        clear hP
        go_enter Tryz.func145, Tryz.ntmps145
        go_wp2_with fail
        exact bodyPost_ret (v := .tuple #[]) (by simp [results, Tryz.results145]) rfl ⟨rfl, v, HP.out.nw (nwa w _), Stays.refl _ _, (Fr.refl _ w).alloc _⟩
      | false =>
        rw [prf_whole] at hlen ⊢
        simp at hlen
        obtain ⟨va, vc, rfl⟩ := ownsRow_form hP.own
        have cp := hP.cp
        have lp := heap_lt hP.pt
        have own5 : Hid (((w.alloc (.cells #[.int .u64 (b : Int), .int .u64 (i : Int)] 123)).alloc (.cells #[.int .u64 (b : Int), .int .u64 (i : Int)] 123)).ownsRow base 123 2 (.slice va l.length vc) l.length (fs l)) := (hP.own.alloc _).alloc _
        have HNew : Hid (∀ j u, [Value.int .u64 (b : Int), .int .u64 (i : Int)][j]? = some u → ((w.alloc (.cells #[.int .u64 (b : Int), .int .u64 (i : Int)] 123)).alloc (.cells #[.int .u64 (b : Int), .int .u64 (i : Int)] 123)).cell? ((⟨w.heap.size + 1, 0, none⟩ : Addr).add j) = some u) := by
          have := sp_new (w := w.alloc (.cells #[.int .u64 (b : Int), .int .u64 (i : Int)] 123)) (b : Int) (i : Int) 123
          rw [World.size_alloc] at this
          exact this
        have HP2 : Hid (Pst ((w.alloc (.cells #[.int .u64 (b : Int), .int .u64 (i : Int)] 123)).alloc (.cells #[.int .u64 (b : Int), .int .u64 (i : Int)] 123)) bi bd bp base (dnQ bi bd bp) 246 i (.slice va l.length vc) l) := hP.nw ((nwa w _).alloc _)
        have HB5 : Hid (base ≤ ((w.alloc (.cells #[.int .u64 (b : Int), .int .u64 (i : Int)] 123)).alloc (.cells #[.int .u64 (b : Int), .int .u64 (i : Int)] 123)).heap.size) := HP2.out.lt.2.2.2.2.2
        have HF : Hid (∀ v' w5, w5.ownsRow base 123 2 v' (l.length + 1) (fs l ++ [.int .u64 (b : Int), .int .u64 (i : Int)]) → Two ((w.alloc (.cells #[.int .u64 (b : Int), .int .u64 (i : Int)] 123)).alloc (.cells #[.int .u64 (b : Int), .int .u64 (i : Int)] 123)) w5 123 2 (.slice va l.length vc) v' l.length 1 (fs l ++ [.int .u64 (b : Int), .int .u64 (i : Int)]) → Pst (w5.setCell ⟨bp, 0, none⟩ v') bi bd bp base (dnQ bi bd bp) 246 i v' (l ++ [(b, i)]) ∧ Stays w (.slice va l.length vc) v' ∧ Fr (fun k => k = bp ∨ (Value.slice va l.length vc).ownBlock = some k) w (w5.setCell ⟨bp, 0, none⟩ v')) := fun v' w5 o5 t5 => Pst.fin (nwr w) (Stays.refl _ _) (Fr.refl _ w) HP.out ((nwa w _).alloc _) o5 t5
        have HC : Hid (∀ w5, Fr (fun k => (Value.slice va l.length vc).ownBlock = some k) ((w.alloc (.cells #[.int .u64 (b : Int), .int .u64 (i : Int)] 123)).alloc (.cells #[.int .u64 (b : Int), .int .u64 (i : Int)] 123)) w5 → w5.heap[bp]? = some (.cells #[.slice va l.length vc] 199)) := fun w5 f5 => (f5.block bp (by simp; omega) (fun q => by have := (HP2.out.own.lt bp q).1; have := HP2.out.lt; omega)).trans HP2.out.pt
        clear hP
        go_enter Tryz.func145, Tryz.ntmps145
        go_wp2_with (at_builtin; refine wpList_two _ rfl (.tmp 15) (.tmp 17) 199 rfl base 123 i0 (sp 0 0) 2 16 Tryz.underlying199 hi hz0 hz1 hz2 rfl (by decide) (.slice va l.length vc) l.length (fs l) rfl own5.out ⟨w.heap.size + 1, 0, none⟩ 1 1 [.int .u64 (b : Int), .int .u64 (i : Int)] rfl rfl HNew.out (by simp [Value.oneCell']) (by unfold maxLen; omega) (by omega) HB5.out ?_; intro v' w5 o5 t5; have hb5 := HC.out w5 t5.fr; have cb5 : w5.cell? ⟨bp, 0, none⟩ = some (.slice va l.length vc) := (cell_of hb5 0).trans rfl; have fb5 := frozen_of hb5 0; have HF5 := show Hid _ from HF.out v' w5 o5 t5; obtain ⟨xa, xc, rfl⟩ := ownsRow_form o5; clear o5 t5 hb5)
        exact bodyPost_ret (v := .tuple #[]) (by simp [results, Tryz.results145]) rfl ⟨rfl, _, HF5.out⟩
    · have h2 : 2 ≤ e - b := by omega
      have h1 := spl_lt h2
      have h0 := spl_pos (e - b)
      have hq : ((i : Int) == (e : Int)) = false := by simp; omega
      have QC := show Hid _ from cut_any b e h2 h63
      clear hP
      by_cases hlt : i ≤ b + spl (e - b)
      · have HL : Hid (prf i b e known = prf i b (b + spl (e - b)) known ++ [(b + spl (e - b), e)]) := prf_left h2 hie hlt
        rw [HL.out]
        rw [HL.out] at hlen
        obtain ⟨k, hk⟩ : ∃ k, k = b + spl (e - b) := ⟨_, rfl⟩
        rw [← hk] at QC hlt hlen HL ⊢
        have hkb : b < k ∧ k < e := by omega
        have hik : (i : Int) ≤ (k : Int) := by omega
        clear hk h1 h0 HL hie
        obtain ⟨m, hm⟩ : ∃ m, m = l ++ prf i b k known := ⟨_, rfl⟩
        have hml : m.length ≤ 199 := by rw [hm]; simp at hlen ⊢; omega
        rw [← List.append_assoc, ← hm]
        have HM : Hid (l ++ prf i b k known = m) := hm.symm
        clear hm
        go_enter Tryz.func145, Tryz.ntmps145
        go_wp2_with fail
        refine (QC.out _).mono ?_
        rintro x w1 ⟨rfl, n1⟩
        have nA : Nw w w1 := Nw.tr (nwa w _) n1
        have HP1 : Hid (Pst w1 bi bd bp base (dnQ bi bd bp) 246 i v l) := HP.out.nw nA
        have ci := HP1.out.ci
        have cdn := HP1.out.cd
        have li := heap_lt HP1.out.idx
        have ld := heap_lt HP1.out.dn
        have NA : Hid (Nw w w1) := nA
        clear n1 nA
        go_wp2_with fail
        refine (IH.out b k known _ v l (by omega) hb hlt (by omega) (by simp at hlen; omega) (HP1.out.nw ((nwa w1 _).alloc _))).mono ?_
        rintro x w2 ⟨rfl, v2, p2, s2, f2⟩
        have hb2 := HP1.out.lt.2.2.2.2.2
        have hr : w2.heap[w1.heap.size + 1]? = some (.cells #[.int .u64 (k : Int), .int .u64 (e : Int)] 123) := ((HP1.out.nw ((nwa w1 _).alloc _)).keeps f2 ((nwa w1 _).alloc _) (by omega) (by simp; try omega) hb2 (fun g hg => (HP1.out.own.lt g hg).2)).trans (by first | exact heap_next _ _ _ | (repeat first | with_reducible exact heap_new _ _ | with_reducible exact heap_new _ _ | with_reducible exact heap_next _ _ _ | with_reducible exact heap_third _ _ _ _ | with_reducible refine hp_dr ?_ | (with_reducible refine hp_ne ?_ ?_; focus omega) | (with_reducible refine hp_al ?_ ?_; focus (first | omega | (simp <;> omega))) | with_reducible apply hp_set) <;> rfl)
        rw [HM.out] at p2
        clear hlen
        obtain ⟨va, vc, rfl⟩ := ownsRow_form p2.own
        have cp := p2.cp
        have lp := heap_lt p2.pt
        have r0 := cell2a hr
        have r1 := cell2b hr
        have lr := heap_lt hr
        have own5 : Hid ((w2.alloc (.cells #[.int .u64 (k : Int), .int .u64 (e : Int)] 123)).ownsRow base 123 2 (.slice va m.length vc) m.length (fs m)) := p2.own.alloc _
        have HNew : Hid (∀ j u, [Value.int .u64 (k : Int), .int .u64 (e : Int)][j]? = some u → (w2.alloc (.cells #[.int .u64 (k : Int), .int .u64 (e : Int)] 123)).cell? ((⟨w2.heap.size, 0, none⟩ : Addr).add j) = some u) := sp_new (w := w2) (k : Int) (e : Int) 123
        have HB5 : Hid (base ≤ (w2.alloc (.cells #[.int .u64 (k : Int), .int .u64 (e : Int)] 123)).heap.size) := (p2.nw (nwa w2 _)).lt.2.2.2.2.2
        have HF : Hid (∀ v' w5, w5.ownsRow base 123 2 v' (m.length + 1) (fs m ++ [.int .u64 (k : Int), .int .u64 (e : Int)]) → Two (w2.alloc (.cells #[.int .u64 (k : Int), .int .u64 (e : Int)] 123)) w5 123 2 (.slice va m.length vc) v' m.length 1 (fs m ++ [.int .u64 (k : Int), .int .u64 (e : Int)]) → Pst (w5.setCell ⟨bp, 0, none⟩ v') bi bd bp base (dnQ bi bd bp) 246 i v' (m ++ [(k, e)]) ∧ Stays w v v' ∧ Fr (fun k => k = bp ∨ v.ownBlock = some k) w (w5.setCell ⟨bp, 0, none⟩ v')) := fun v' w5 o5 t5 => Pst.fin ((NA.out.alloc _).alloc _) s2 f2 p2 (nwa w2 _) o5 t5
        have HC : Hid (∀ w5, Fr (fun k => (Value.slice va m.length vc).ownBlock = some k) (w2.alloc (.cells #[.int .u64 (k : Int), .int .u64 (e : Int)] 123)) w5 → w5.heap[bp]? = some (.cells #[.slice va m.length vc] 199)) := fun w5 f5 => (f5.block bp (by simp; omega) (fun q => by have := (p2.own.lt bp q).1; have := p2.lt; omega)).trans (by (repeat first | with_reducible exact p2.pt | with_reducible exact heap_new _ _ | with_reducible exact heap_next _ _ _ | with_reducible exact heap_third _ _ _ _ | with_reducible refine hp_dr ?_ | (with_reducible refine hp_ne ?_ ?_; focus omega) | (with_reducible refine hp_al ?_ ?_; focus (first | omega | (simp <;> omega))) | with_reducible apply hp_set) <;> rfl)
        clear p2 s2 f2 hr
        go_wp2_with (at_builtin; refine wpList_two _ rfl (.tmp 32) (.tmp 34) 199 rfl base 123 i0 (sp 0 0) 2 16 Tryz.underlying199 hi hz0 hz1 hz2 rfl (by decide) (.slice va m.length vc) m.length (fs m) rfl own5.out ⟨w2.heap.size, 0, none⟩ 1 1 [.int .u64 (k : Int), .int .u64 (e : Int)] rfl rfl HNew.out (by simp [Value.oneCell']) (by unfold maxLen; omega) (by omega) HB5.out ?_; intro v' w5 o5 t5; have hb5 := HC.out w5 t5.fr; have cb5 : w5.cell? ⟨bp, 0, none⟩ = some (.slice va m.length vc) := (cell_of hb5 0).trans rfl; have fb5 := frozen_of hb5 0; have HF5 := show Hid _ from HF.out v' w5 o5 t5; obtain ⟨xa, xc, rfl⟩ := ownsRow_form o5; clear o5 t5 hb5)
        go_end0
        exact ⟨rfl, _, HF5.out⟩
      · have HL : Hid (prf i b e known = prf i (b + spl (e - b)) e false ++ [(b, b + spl (e - b))]) := prf_right h2 hie hlt
        rw [HL.out]
        rw [HL.out] at hlen
        obtain ⟨k, hk⟩ : ∃ k, k = b + spl (e - b) := ⟨_, rfl⟩
        rw [← hk] at QC hlt hlen HL ⊢
        have hkb : b < k ∧ k < e := by omega
        have hik : ¬ (i : Int) ≤ (k : Int) := by omega
        clear hk h1 h0 HL hie
        obtain ⟨m, hm⟩ : ∃ m, m = l ++ prf i k e false := ⟨_, rfl⟩
        have hml : m.length ≤ 199 := by rw [hm]; simp at hlen ⊢; omega
        rw [← List.append_assoc, ← hm]
        have HM : Hid (l ++ prf i k e false = m) := hm.symm
        clear hm
        go_enter Tryz.func145, Tryz.ntmps145
        go_wp2_with fail
        refine (QC.out _).mono ?_
        rintro x w1 ⟨rfl, n1⟩
        have nA : Nw w w1 := Nw.tr (nwa w _) n1
        have HP1 : Hid (Pst w1 bi bd bp base (dnQ bi bd bp) 246 i v l) := HP.out.nw nA
        have ci := HP1.out.ci
        have cdn := HP1.out.cd
        have li := heap_lt HP1.out.idx
        have ld := heap_lt HP1.out.dn
        have NA : Hid (Nw w w1) := nA
        clear n1 nA
        go_wp2_with fail
        refine (IH.out k e false _ v l (by omega) (by omega) he h63 (by simp at hlen; omega) (HP1.out.nw ((nwa w1 _).alloc _))).mono ?_
        rintro x w2 ⟨rfl, v2, p2, s2, f2⟩
        have hb2 := HP1.out.lt.2.2.2.2.2
        have hr : w2.heap[w1.heap.size]? = some (.cells #[.int .u64 (b : Int), .int .u64 (k : Int)] 123) := ((HP1.out.nw ((nwa w1 _).alloc _)).keeps f2 ((nwa w1 _).alloc _) (by omega) (by simp; try omega) hb2 (fun g hg => (HP1.out.own.lt g hg).2)).trans (by first | exact heap_next _ _ _ | (repeat first | with_reducible exact heap_new _ _ | with_reducible exact heap_new _ _ | with_reducible exact heap_next _ _ _ | with_reducible exact heap_third _ _ _ _ | with_reducible refine hp_dr ?_ | (with_reducible refine hp_ne ?_ ?_; focus omega) | (with_reducible refine hp_al ?_ ?_; focus (first | omega | (simp <;> omega))) | with_reducible apply hp_set) <;> rfl)
        rw [HM.out] at p2
        clear hlen
        obtain ⟨va, vc, rfl⟩ := ownsRow_form p2.own
        have cp := p2.cp
        have lp := heap_lt p2.pt
        have r0 := cell2a hr
        have r1 := cell2b hr
        have lr := heap_lt hr
        have own5 : Hid ((w2.alloc (.cells #[.int .u64 (b : Int), .int .u64 (k : Int)] 123)).ownsRow base 123 2 (.slice va m.length vc) m.length (fs m)) := p2.own.alloc _
        have HNew : Hid (∀ j u, [Value.int .u64 (b : Int), .int .u64 (k : Int)][j]? = some u → (w2.alloc (.cells #[.int .u64 (b : Int), .int .u64 (k : Int)] 123)).cell? ((⟨w2.heap.size, 0, none⟩ : Addr).add j) = some u) := sp_new (w := w2) (b : Int) (k : Int) 123
        have HB5 : Hid (base ≤ (w2.alloc (.cells #[.int .u64 (b : Int), .int .u64 (k : Int)] 123)).heap.size) := (p2.nw (nwa w2 _)).lt.2.2.2.2.2
        have HF : Hid (∀ v' w5, w5.ownsRow base 123 2 v' (m.length + 1) (fs m ++ [.int .u64 (b : Int), .int .u64 (k : Int)]) → Two (w2.alloc (.cells #[.int .u64 (b : Int), .int .u64 (k : Int)] 123)) w5 123 2 (.slice va m.length vc) v' m.length 1 (fs m ++ [.int .u64 (b : Int), .int .u64 (k : Int)]) → Pst (w5.setCell ⟨bp, 0, none⟩ v') bi bd bp base (dnQ bi bd bp) 246 i v' (m ++ [(b, k)]) ∧ Stays w v v' ∧ Fr (fun k => k = bp ∨ v.ownBlock = some k) w (w5.setCell ⟨bp, 0, none⟩ v')) := fun v' w5 o5 t5 => Pst.fin ((NA.out.alloc _).alloc _) s2 f2 p2 (nwa w2 _) o5 t5
        have HC : Hid (∀ w5, Fr (fun k => (Value.slice va m.length vc).ownBlock = some k) (w2.alloc (.cells #[.int .u64 (b : Int), .int .u64 (k : Int)] 123)) w5 → w5.heap[bp]? = some (.cells #[.slice va m.length vc] 199)) := fun w5 f5 => (f5.block bp (by simp; omega) (fun q => by have := (p2.own.lt bp q).1; have := p2.lt; omega)).trans (by (repeat first | with_reducible exact p2.pt | with_reducible exact heap_new _ _ | with_reducible exact heap_next _ _ _ | with_reducible exact heap_third _ _ _ _ | with_reducible refine hp_dr ?_ | (with_reducible refine hp_ne ?_ ?_; focus omega) | (with_reducible refine hp_al ?_ ?_; focus (first | omega | (simp <;> omega))) | with_reducible apply hp_set) <;> rfl)
        clear p2 s2 f2 hr
        go_wp2_with (at_builtin; refine wpList_two _ rfl (.tmp 39) (.tmp 41) 199 rfl base 123 i0 (sp 0 0) 2 16 Tryz.underlying199 hi hz0 hz1 hz2 rfl (by decide) (.slice va m.length vc) m.length (fs m) rfl own5.out ⟨w2.heap.size, 0, none⟩ 1 1 [.int .u64 (b : Int), .int .u64 (k : Int)] rfl rfl HNew.out (by simp [Value.oneCell']) (by unfold maxLen; omega) (by omega) HB5.out ?_; intro v' w5 o5 t5; have hb5 := HC.out w5 t5.fr; have cb5 : w5.cell? ⟨bp, 0, none⟩ = some (.slice va m.length vc) := (cell_of hb5 0).trans rfl; have fb5 := frozen_of hb5 0; have HF5 := show Hid _ from HF.out v' w5 o5 t5; obtain ⟨xa, xc, rfl⟩ := ownsRow_form o5; clear o5 t5 hb5)
        go_end0
        exact ⟨rfl, _, HF5.out⟩

set_option maxRecDepth 100000 in
set_option maxHeartbeats 2000000 in
theorem proof_yes (i n : Nat) (h0 : 0 < i) (h : i ≤ n) (hn : n ≤ 9223372036854775808) (w : World) :
    Calls Tryz.prog 108 #[.int .u64 (i : Int), .int .u64 (n : Int)] w fun x w' => ∃ v, x = .returned (.tuple #[v, .nilIface]) ∧ w'.ownsRow w.heap.size 123 2 v (prf i 0 n true).length (fs (prf i 0 n true)) ∧ Nw w w' := by
  have hin : ¬ (n : Int) < (i : Int) := by omega
  have hiz : ((i : Int) == 0) = false := by simp; omega
  have hl : Hid ((prf i 0 n true).length ≤ 63 + 1) := prf_len 63 i 0 n true (by rw [p63]; omega) h0 h
  have hst : ∀ (W : World) (ad : Addr) (fn : Fn) (f c : Array Value), (store ad (.func fn f c)).run Tryz.prog W = stored Tryz.prog W ad (.func fn f c) .plain := fun W ad fn f c => run_store _ W ad _ .plain rfl
  go_enter Tryz.func108, Tryz.ntmps108
  go_wp2_with fail
  refine (downQ_any w.heap.size (w.heap.size + 1 + 1) (w.heap.size + 1) (w.heap.size + 1 + 1 + 1) i n 0 n true _ (.slice none 0 0) [] (by omega) (by omega) h hn (by have := hl.out; simp; omega) ⟨by (repeat first | with_reducible exact heap_new _ _ | with_reducible exact heap_new _ _ | with_reducible exact heap_next _ _ _ | with_reducible exact heap_third _ _ _ _ | with_reducible refine hp_dr ?_ | (with_reducible refine hp_ne ?_ ?_; focus omega) | (with_reducible refine hp_al ?_ ?_; focus (first | omega | (simp <;> omega))) | with_reducible apply hp_set) <;> rfl, heap_third _ _ _ _, by (repeat first | with_reducible exact heap_next _ _ _ | with_reducible exact heap_new _ _ | with_reducible exact heap_next _ _ _ | with_reducible exact heap_third _ _ _ _ | with_reducible refine hp_dr ?_ | (with_reducible refine hp_ne ?_ ?_; focus omega) | (with_reducible refine hp_al ?_ ?_; focus (first | omega | (simp <;> omega))) | with_reducible apply hp_set) <;> rfl, World.ownsRow_nil _ _ _ _, by simp; omega⟩).mono ?_
  rintro x w1 ⟨rfl, v1, p1, s1, f1⟩
  rw [List.nil_append] at p1
  have cp := p1.cp
  have n1 : Hid (Nw w w1) := ((((nwa w _).alloc _).alloc _).mono (S' := fun k => w.heap.size ≤ k) (fun _ _ f => f.elim)).trans (f1.mono (S' := fun k => w.heap.size ≤ k) (fun j hj q => by
    rcases q with q | q
    · omega
    · cases q)) (fun _ _ h => h) |>.mono (fun j hj (q : w.heap.size ≤ j) => by omega)
  have ho : Hid (w1.ownsRow w.heap.size 123 2 v1 (prf i 0 n true).length (fs (prf i 0 n true))) := ownsRow_base p1.own (by omega)
  obtain ⟨va, vc, rfl⟩ := ownsRow_form p1.own
  have lp := heap_lt p1.pt
  clear p1 s1 f1
  go_wp2_with fail
  exact bodyPost_ret (v := .tuple #[.slice va (prf i 0 n true).length vc, .nilIface]) (by simp [results, Tryz.results108]) rfl ⟨_, rfl, ho.out, n1.out⟩
end Go.Proofs.YtjkhcplnedcmeaaGreatDoor
namespace Go.Proofs.YtjkhcplnedcmeaaGreatDoor
open Go.RowKit
set_option linter.unusedVariables false
set_option linter.unusedSimpArgs false

/-- A number that lies in memory. -/
def natAt (W : World) (b o : Nat) : Nat := match W.cell? ⟨b, o, none⟩ with
  | some v => (intOf v).toNat
  | none => 0
/-- The stretches that a slice holds. -/
def rdS (W : World) : Value → List (Nat × Nat)
  | .slice (some ⟨g, off, none⟩) n _ => (List.range n).map fun k => (natAt W g (off + k * 2), natAt W g (off + k * 2 + 1))
  | _ => []
/-- A row of stretches that is only read; none of it in what N says. -/
def Lst (w : World) (N : Nat → Prop) (v : Value) (l : List (Nat × Nat)) : Prop :=
  ∃ ad cap, v = .slice ad l.length cap ∧ l.length ≤ cap ∧ ∀ k t, l[k]? = some t → ∃ g off, ad = some ⟨g, off, none⟩ ∧ g < w.heap.size ∧ ¬ N g ∧ w.cell? ⟨g, off + k * 2, none⟩ = some (.int .u64 (t.1 : Int)) ∧ w.cell? ⟨g, off + k * 2 + 1, none⟩ = some (.int .u64 (t.2 : Int))
theorem Lst.rd {w : World} {N : Nat → Prop} {v : Value} {l : List (Nat × Nat)} (h : Lst w N v l) : rdS w v = l := by
  obtain ⟨ad, cap, rfl, hc, h⟩ := h
  cases hl : l with
  | nil =>
    subst hl
    rcases ad with _ | ⟨g, off, x⟩
    · rfl
    · cases x <;> rfl
  | cons s r =>
    obtain ⟨g, off, rfl, _⟩ := h 0 s (by rw [hl]; rfl)
    rw [← hl]
    apply List.ext_getElem?
    intro k
    simp only [rdS, List.getElem?_map, List.getElem?_range']
    by_cases hk : k < l.length
    · obtain ⟨t, ht⟩ : ∃ t, l[k]? = some t := ⟨_, List.getElem?_eq_getElem hk⟩
      obtain ⟨g', off', e, _, _, c0, c1⟩ := h k t ht
      cases e
      rw [ht]
      simp [List.getElem?_range hk, natAt, c0, c1, intOf]
    · simp [List.getElem?_eq_none (Nat.le_of_not_lt hk), List.getElem?_eq_none (show (List.range l.length).length ≤ k by simpa using hk)]
theorem Lst.fr {w w' : World} {N M S : Nat → Prop} {v : Value} {l : List (Nat × Nat)} (h : Lst w N v l) (hf : Fr S w w') (hS : ∀ g, g < w.heap.size → S g → N g) (hM : ∀ g, g < w.heap.size → M g → N g) : Lst w' M v l := by
  obtain ⟨ad, cap, rfl, hc, h⟩ := h
  refine ⟨ad, cap, rfl, hc, fun k t ht => ?_⟩
  obtain ⟨g, off, rfl, h1, h2, c0, c1⟩ := h k t ht
  have hn : ¬ S g := fun q => h2 (hS g h1 q)
  exact ⟨g, off, rfl, Nat.lt_of_lt_of_le h1 hf.size, fun q => h2 (hM g h1 q), (hf.cell (p := ⟨g, _, none⟩) h1 hn).trans c0, (hf.cell (p := ⟨g, _, none⟩) h1 hn).trans c1⟩
theorem Lst.news {w : World} {N : Nat → Prop} {g off cap n : Nat} {l : List (Nat × Nat)} (h : Lst w N (.slice (some ⟨g, off, none⟩) n cap) l) : ∀ j u, (fs l)[j]? = some u → w.cell? ((⟨g, off, none⟩ : Addr).add j) = some u := by
  obtain ⟨ad, cap', e, _, h⟩ := h
  cases e
  intro j u hj
  have hl : j < l.length * 2 := by have := (List.getElem?_eq_some_iff.1 hj).1; rwa [fs_len] at this
  obtain ⟨t, ht⟩ : ∃ t, l[j / 2]? = some t := ⟨_, List.getElem?_eq_getElem (by omega)⟩
  obtain ⟨g', off', e, _, _, c0, c1⟩ := h (j / 2) t ht
  cases e
  have hg := fs_get l (j / 2) t ht
  rw [addO]
  rcases Nat.mod_two_eq_zero_or_one j with hm | hm
  · have ej : j = j / 2 * 2 := by omega
    rw [← ej] at hg c0
    rw [hg.1] at hj
    rw [c0, ← hj]
  · have ej : j = j / 2 * 2 + 1 := by omega
    have ej2 : off + j / 2 * 2 + 1 = off + j := by omega
    rw [ej2] at c1
    rw [← ej] at hg
    rw [hg.2] at hj
    rw [c1, ← hj]
theorem Lst.of {w : World} {N : Nat → Prop} {base : Nat} {v : Value} {l : List (Nat × Nat)} (h : w.ownsRow base 123 2 v l.length (fs l)) (hN : ∀ g, base ≤ g → ¬ N g) : Lst w N v l := by
  have hlt := h.lt
  have h' := h
  rcases h.2 with ⟨rfl, hn⟩ | ⟨g, cap, cur, rfl, hb, hh, h3, _⟩
  · have : l = [] := List.length_eq_zero_iff.1 hn
    subst this
    exact ⟨none, 0, rfl, by simp, fun k t ht => by simp at ht⟩
  · refine ⟨_, _, rfl, h3, fun k t ht => ⟨g, 0, rfl, (hlt g rfl).2, hN g hb, ?_, ?_⟩⟩
    · have := h'.cells (g := g) rfl (k * 2) _ (fs_get l k t ht).1
      rw [addZ] at this
      rw [Nat.zero_add]; exact this
    · have := h'.cells (g := g) rfl (k * 2 + 1) _ (fs_get l k t ht).2
      rw [addZ] at this
      rw [Nat.zero_add]; exact this
/-- None is empty, or ends behind n. -/
def Nes (n : Nat) (l : List (Nat × Nat)) : Prop := ∀ s ∈ l, s.1 < s.2 ∧ s.2 ≤ n

set_option maxRecDepth 100000 in
set_option maxHeartbeats 4000000 in
theorem batch_yes (x y n : Nat) (hxy : x < y) (hy : y ≤ n) (hn : n ≤ 9223372036854775808) (w : World) :
    Calls Tryz.prog 111 #[.int .u64 (x : Int), .int .u64 (y : Int), .int .u64 (n : Int)] w fun z w' => ∃ v, z = .returned (.tuple #[v, .nilIface]) ∧ w'.ownsRow w.heap.size 123 2 v (bat x y 0 n).length (fs (bat x y 0 n)) ∧ Nw w w' := by
  obtain ⟨i0, hi, hz0, hz1, hz2⟩ := info_parts infoS
  have hxy1 : (x : Int) < (y : Int) := by omega
  have hy1 : (y : Int) ≤ (n : Int) := by omega
  have hd1 : decide (n < y) = false := by simp; omega
  have hd2 : decide (y ≤ x) = false := by simp; omega
  have hd3 : decide ((9223372036854775808 : Int) < (n : Int)) = false := by simp; omega
  have hd4 : decide ((n : Int) < (y : Int)) = false := by simp; omega
  have hd5 : decide ((y : Int) ≤ (x : Int)) = false := by simp; omega
  have hl : Hid ((bat x y 0 n).length ≤ 2 * 63 + 1) := bat_len 63 x y 0 n (by rw [p63]; omega)
  go_enter Tryz.func111, Tryz.ntmps111
  go_wp2_with fail
  go_loopw [8, 9] (fun p t wr => ∃ (pre tl : List (Nat × Nat)), bat x y 0 n = pre ++ bats x y tl ∧ Todo tl ∧ Nes n tl ∧ wr.ownsRow w.heap.size 123 2 p pre.length (fs pre) ∧ Lst wr (fun g => p.ownBlock = some g) t tl ∧ Nw w wr) (fun _ t wr => wgt (rdS wr t))
  case atStart =>
    refine ⟨[], [(0, n)], by simp [bats], Todo.one hn, fun s hs => by simp at hs; subst hs; exact ⟨by simp only; omega, by simp⟩, World.ownsRow_nil _ _ _ _, ⟨_, _, rfl, by simp, fun k t ht => ?_⟩, nwa w _⟩
    match k, ht with
    | 0, ht => injection ht with ht; subst ht; exact ⟨_, _, rfl, by simp, by simp [Value.ownBlock], (cell_of (heap_new w _) _).trans rfl, (cell_of (heap_new w _) _).trans rfl⟩
    | k + 1, ht => simp at ht
  case round =>
    obtain ⟨pre, tl, hbat, htd, hne, hown, hlst, hnw⟩ := hrel
    have HB : Hid (bat x y 0 n = pre ++ bats x y tl) := hbat
    have HTD : Hid (Todo tl) := htd
    have HNE : Hid (Nes n tl) := hne
    have HO : Hid (wr.ownsRow w.heap.size 123 2 u8 pre.length (fs pre)) := hown
    have HRD : Hid (rdS wr u9 = tl) := hlst.rd
    have HNW : Hid (Nw w wr) := hnw
    have hpl : pre.length ≤ 127 := by have := hl.out; rw [hbat] at this; simp at this; omega
    obtain ⟨pa, pc, rfl⟩ := ownsRow_form hown
    clear hbat htd hne hown hnw
    cases tl with
    | nil =>
      obtain ⟨ad, cap, rfl, _⟩ := hlst
      have HE : Hid (bat x y 0 n = pre) := by have := HB.out; rw [bats_nil, List.append_nil] at this; exact this
      simp only [List.length_nil]
      go_wp2
      refine bodyPost_ret (v := .tuple #[.slice pa pre.length pc, .nilIface]) (by simp [results, Tryz.results111]) rfl ⟨_, rfl, ?_, HNW.out⟩
      rw [HE.out]
      exact HO.out
    | cons s r =>
      obtain ⟨b, e⟩ := s
      have hbe := HNE.out (b, e) (by simp)
      simp only at hbe
      have HNR : Hid (Nes n r) := fun s hs => HNE.out s (by simp [hs])
      have HTR : Hid (Todo r) := HTD.out.pop
      have HBS : Hid (bat x y 0 n = pre ++ (bat x y b e ++ bats x y r)) := by have := HB.out; rw [bats_cons] at this; exact this
      obtain ⟨ad, cap, rfl, hcap, hcs⟩ := hlst
      obtain ⟨g, off, rfl, hg, hng, c0, c1⟩ := hcs 0 (b, e) rfl
      simp only [Nat.zero_mul, Nat.add_zero] at c0 c1
      simp only [List.length_cons] at hcap
      have hrl : r.length ≤ 64 := by have := HTD.out.len; simp at this; omega
      obtain ⟨ra, hra⟩ : ∃ ra : Option Addr, (if cap = 1 then some ⟨g, off, none⟩ else some ⟨g, off + 2, none⟩) = ra := ⟨_, rfl⟩
      obtain ⟨roff, hro⟩ : ∃ o, ra = some ⟨g, o, none⟩ := by rw [← hra]; split <;> exact ⟨_, rfl⟩
      have HLR : Hid (Lst wr (fun g => (Value.slice pa pre.length pc).ownBlock = some g) (.slice ra r.length (cap - 1)) r) := by
        refine ⟨ra, cap - 1, rfl, by omega, fun k t ht => ?_⟩
        obtain ⟨g', off', e', h1, h2, h3, h4⟩ := hcs (k + 1) t (by simpa using ht)
        cases e'
        have hk : k < r.length := (List.getElem?_eq_some_iff.1 ht).1
        have ec : ¬ cap = 1 := by omega
        rw [if_neg ec] at hra
        have e1 : off + (k + 1) * 2 = off + 2 + k * 2 := by omega
        rw [e1] at h3 h4
        exact ⟨g, off + 2, hra.symm, h1, h2, h3, h4⟩
      have HRA : Hid ((if cap = 1 then some ⟨g, off, none⟩ else some ⟨g, off + 2, none⟩) = ra) := hra
      clear hcs hra
      subst hro
      simp only [List.length_cons]
      obtain ⟨rl, hrr⟩ : ∃ rl, rl = r.length := ⟨_, rfl⟩
      simp only [List.length_cons] at HRD
      rw [← hrr] at hcap hrl HLR HRD ⊢
      have HRR : Hid (rl = r.length) := hrr
      clear hrr
      go_wp2
      go_region
      rw [HRA.out]
      have lgr : wr.heap.size < wr.heap.size + 1 := by omega
      refine gen_world (fun W => W.heap[wr.heap.size]? = some (.cells #[.int .u64 (b : Int), .int .u64 (e : Int)] 123) ∧ Nw wr W) ⟨by (repeat first | with_reducible exact heap_new _ _ | with_reducible exact heap_new _ _ | with_reducible exact heap_next _ _ _ | with_reducible exact heap_third _ _ _ _ | with_reducible refine hp_dr ?_ | (with_reducible refine hp_ne ?_ ?_; focus omega) | (with_reducible refine hp_al ?_ ?_; focus (first | omega | (simp <;> omega))) | with_reducible apply hp_set) <;> rfl, (by repeat first | with_reducible exact nwr wr | with_reducible refine Fr.alloc ?_ _ | with_reducible refine Fr.drew ?_ | (with_reducible refine Fr.setCell ?_ _ _ (fun h => ?_); rotate_left; focus (simp only at h; omega)))⟩ ?_
      rintro w1 ⟨b1, n1⟩
      have N1 : Hid (Nw wr w1) := n1
      have HO1 : Hid (w1.ownsRow w.heap.size 123 2 (.slice pa pre.length pc) pre.length (fs pre)) := ownsRow_keep HO.out (fun q hq => n1.block q (HO.out.lt q hq).2 (fun f => f))
      have HL1 : Hid (Lst w1 (fun g => (Value.slice pa pre.length pc).ownBlock = some g) (.slice (some ⟨g, roff, none⟩) rl (cap - 1)) r) := HLR.out.fr n1 (fun _ _ f => f.elim) (fun _ _ h => h)
      have ls := heap_lt b1
      have s0 := cell2a b1
      have s1 := cell2b b1
      have B1 := show Hid _ from b1
      clear b1 n1 c0 c1 HLR hg hng
      have own5 : Hid ((w1.alloc (.cells #[.int .u64 (b : Int), .int .u64 (e : Int)] 123)).ownsRow w.heap.size 123 2 (.slice pa pre.length pc) pre.length (fs pre)) := HO1.out.alloc _
      have NW1 : Hid (Nw w w1) := HNW.out.tr N1.out
      have hws : w.heap.size ≤ w1.heap.size := NW1.out.size
      by_cases hout : y ≤ b ∨ e ≤ x
      · have hbq : Hid (bat x y b e = [(b, e)]) := bat_out hout
        have hw : (e : Int) ≤ (x : Int) ∨ (¬ (e : Int) ≤ (x : Int) ∧ (y : Int) ≤ (b : Int)) := by omega
        clear hout
        have HNew : Hid (∀ j u, [Value.int .u64 (b : Int), .int .u64 (e : Int)][j]? = some u → (w1.alloc (.cells #[.int .u64 (b : Int), .int .u64 (e : Int)] 123)).cell? ((⟨w1.heap.size, 0, none⟩ : Addr).add j) = some u) := sp_new (w := w1) (b : Int) (e : Int) 123
        have HF : Hid (∀ v' w5, w5.ownsRow w.heap.size 123 2 v' (pre.length + 1) (fs pre ++ [.int .u64 (b : Int), .int .u64 (e : Int)]) → Two (w1.alloc (.cells #[.int .u64 (b : Int), .int .u64 (e : Int)] 123)) w5 123 2 (.slice pa pre.length pc) v' pre.length 1 (fs pre ++ [.int .u64 (b : Int), .int .u64 (e : Int)]) → w5.ownsRow w.heap.size 123 2 v' (pre ++ [(b, e)]).length (fs (pre ++ [(b, e)])) ∧ Lst w5 (fun g => v'.ownBlock = some g) (.slice (some ⟨g, roff, none⟩) rl (cap - 1)) r ∧ Nw w w5) := by
          intro v' w5 o5 t5
          have hst := t5.stays (by omega)
          refine ⟨by rw [List.length_append, fs_app]; exact o5, ((HL1.out.fr (nwa w1 _) (fun _ _ f => f.elim) (fun _ _ h => h)).fr t5.fr (fun _ _ h => h) (fun q hq hv => ?_)), ?_⟩
          · rcases hst with e1 | ⟨q', hq', hl'⟩
            · exact e1 ▸ hv
            · rw [hq'] at hv; injection hv with hv; omega
          · exact (NW1.out.alloc _).trans t5.fr (fun j hj q => by have := (HO1.out.lt j q).1; omega)
        rcases hw with hw | ⟨hw1, hw2⟩
        all_goals
          go_wp2_with (at_builtin; refine wpList_two _ rfl (.tmp 62) (.tmp 64) 199 rfl w.heap.size 123 i0 (sp 0 0) 2 16 Tryz.underlying199 hi hz0 hz1 hz2 rfl (by decide) (.slice pa pre.length pc) pre.length (fs pre) rfl own5.out ⟨w1.heap.size, 0, none⟩ 1 1 [.int .u64 (b : Int), .int .u64 (e : Int)] rfl rfl HNew.out (by simp [Value.oneCell']) (by unfold maxLen; omega) (by omega) (by simp; omega) ?_; intro v' w5 o5 t5; have HF5 := show Hid _ from HF.out v' w5 o5 t5; obtain ⟨xa, xc, rfl⟩ := ownsRow_form o5; clear o5 t5)
          refine ⟨⟨pre ++ [(b, e)], r, by rw [HBS.out, hbq.out, List.append_assoc], HTR.out, HNR.out, HF5.out.1, HF5.out.2.1, HF5.out.2.2⟩, ?_⟩
          rw [HRD.out, HF5.out.2.1.rd]
          simp only [wgt]
          omega
      · by_cases hin : x ≤ b ∧ e ≤ y
        · have hbq : Hid (bat x y b e = []) := bat_in hout hin
          have h1 : ¬ (e : Int) ≤ (x : Int) := by omega
          have h2 : ¬ (y : Int) ≤ (b : Int) := by omega
          have h3 : (x : Int) ≤ (b : Int) := by omega
          have h4 : (e : Int) ≤ (y : Int) := by omega
          clear hout hin
          go_wp2
          refine ⟨⟨pre, r, by rw [HBS.out, hbq.out, List.nil_append], HTR.out, HNR.out, HO1.out, HL1.out, NW1.out⟩, ?_⟩
          rw [HRD.out, HL1.out.rd]
          simp only [wgt]
          omega
        · have hbq : Hid (bat x y b e = bat x y b (b + spl (e - b)) ++ bat x y (b + spl (e - b)) e) := bat_cut hout hin
          have h2e : 2 ≤ e - b := by omega
          have hs1 := spl_lt h2e
          have hs0 := spl_pos (e - b)
          have HTC : Hid (Todo ((b, b + spl (e - b)) :: (b + spl (e - b), e) :: r)) := HTD.out.cut h2e
          have QC := show Hid _ from cut_any b e h2e (by omega)
          obtain ⟨k, hk⟩ : ∃ k, k = b + spl (e - b) := ⟨_, rfl⟩
          rw [← hk] at QC HTC hbq
          have hkb : b < k ∧ k < e := by omega
          clear hk hs1 hs0
          have h1 : ¬ (e : Int) ≤ (x : Int) := by omega
          have h2 : ¬ (y : Int) ≤ (b : Int) := by omega
          have hw : ¬ (x : Int) ≤ (b : Int) ∨ ((x : Int) ≤ (b : Int) ∧ ¬ (e : Int) ≤ (y : Int)) := by omega
          clear hout hin
          have HNC : Hid (Nes n ((b, k) :: (k, e) :: r)) := by
            intro s hs
            simp only [List.mem_cons] at hs
            rcases hs with rfl | rfl | hs
            · exact ⟨hkb.1, by simp only; omega⟩
            · exact ⟨hkb.2, hbe.2⟩
            · exact HNR.out s hs
          rcases hw with hw | ⟨hw1, hw2⟩
          all_goals
            go_wp2_with fail
            refine (QC.out _).mono ?_
            rintro z w2 ⟨rfl, n2⟩
            have N2 : Hid (Nw w1 w2) := n2
            obtain ⟨WD, hWD⟩ : ∃ WD, (((w2.alloc (.cells #[.int .u64 (b : Int), .int .u64 (k : Int)] 123)).alloc (.cells #[.int .u64 (k : Int), .int .u64 (e : Int)] 123)).alloc (.cells #[.int .u64 (b : Int), .int .u64 (k : Int), .int .u64 (k : Int), .int .u64 (e : Int)] 123)).drew = WD := ⟨_, rfl⟩
            have ND : Hid (Nw w1 WD) := by rw [← hWD]; exact (((N2.out.alloc _).alloc _).alloc _).drew
            have HN4 : Hid (∀ j u, [Value.int .u64 (b : Int), .int .u64 (k : Int), .int .u64 (k : Int), .int .u64 (e : Int)][j]? = some u → WD.cell? ((⟨w2.heap.size + 1 + 1, 0, none⟩ : Addr).add j) = some u) := by
              intro j u hj
              have h3 : WD.heap[w2.heap.size + 1 + 1]? = some (.cells #[.int .u64 (b : Int), .int .u64 (k : Int), .int .u64 (k : Int), .int .u64 (e : Int)] 123) := by rw [← hWD]; exact heap_third w2 _ _ _
              rw [addZ, cell_of h3]
              simpa using hj
            have HF : Hid (∀ v1 w3 v2 w4, w3.ownsRow WD.heap.size 123 2 v1 2 [Value.int .u64 (b : Int), .int .u64 (k : Int), .int .u64 (k : Int), .int .u64 (e : Int)] → WD.grownBy w3 none → w4.ownsRow WD.heap.size 123 2 v2 (2 + rl) ([Value.int .u64 (b : Int), .int .u64 (k : Int), .int .u64 (k : Int), .int .u64 (e : Int)] ++ fs r) → w3.grownBy w4 v1.ownBlock →
                w4.ownsRow w.heap.size 123 2 (.slice pa pre.length pc) pre.length (fs pre) ∧ Lst w4 (fun g => (Value.slice pa pre.length pc).ownBlock = some g) v2 ((b, k) :: (k, e) :: r) ∧ Nw w w4) := by
              intro v1 w3 v2 w4 o3 g3 o4 g4
              have n3 : Nw w1 w3 := ND.out.grown g3 (fun q hq _ => by cases hq)
              have n4 : Nw w1 w4 := n3.grown g4 (fun q hq hlt => by have := (o3.lt q hq).1; have := ND.out.size; omega)
              refine ⟨ownsRow_keep HO1.out (fun q hq => n4.block q (HO1.out.lt q hq).2 (fun f => f)), ?_, NW1.out.tr n4⟩
              have e1 : 2 + rl = ((b, k) :: (k, e) :: r).length := by rw [HRR.out]; simp; omega
              rw [e1] at o4
              exact Lst.of (base := WD.heap.size) o4 (fun q hq hp => by have := (HO1.out.lt q hp).2; have := ND.out.size; omega)
            have HR3 : Hid (∀ w3, WD.grownBy w3 none → ∀ j u, (fs r)[j]? = some u → w3.cell? ((⟨g, roff, none⟩ : Addr).add j) = some u) := fun w3 g3 => (HL1.out.fr (ND.out.grown g3 (fun q hq _ => by cases hq)) (fun _ _ f => f.elim) (fun _ _ h => h)).news
            have HFL : Hid ((fs r).length = rl * 2) := by show _ = _; rw [fs_len, HRR.out]
            have HF1 : Hid (∀ u ∈ fs r, u.oneCell' = true) := fs_one r
            have HGS : Hid (∀ w3, WD.grownBy w3 none → WD.heap.size ≤ w3.heap.size) := fun w3 g3 => g3.size
            have HWD := show Hid _ from hWD
            clear n2 hWD
            go_wp2_with fail
            go_region_law (first
              | (rw [HWD.out]; refine step_append_grows rfl (.tmp 44) (.tmp 47) 199 rfl 123 i0 (sp 0 0) 2 16 Tryz.underlying199 hi hz0 hz1 hz2 rfl (by decide) (some ⟨g, off, none⟩) 0 0 [] rfl (by simp) rfl (fun _ _ j u h => by simp at h) ⟨w2.heap.size + 1 + 1, 0, none⟩ 2 2 [.int .u64 (b : Int), .int .u64 (k : Int), .int .u64 (k : Int), .int .u64 (e : Int)] rfl rfl HN4.out (by simp [Value.oneCell']) (by omega) (by unfold maxLen; omega) (by omega) ?_; intro v1 w3 o3 g3; simp only [Nat.zero_add, List.nil_append] at o3; obtain ⟨va, vc, rfl⟩ := ownsRow_form o3; have O3 := show Hid _ from o3; have G3 := show Hid _ from g3; clear o3 g3)
              | (refine step_append_own rfl (.tmp 48) (.tmp 49) 199 rfl WD.heap.size 123 i0 (sp 0 0) 2 16 Tryz.underlying199 hi hz0 hz1 hz2 rfl (by decide) (.slice va 2 vc) 2 [.int .u64 (b : Int), .int .u64 (k : Int), .int .u64 (k : Int), .int .u64 (e : Int)] rfl O3.out ⟨g, roff, none⟩ rl (cap - 1) (fs r) rfl HFL.out (HR3.out _ G3.out) HF1.out (by unfold maxLen; omega) (by omega) (HGS.out _ G3.out) ?_; intro v2 w4 o4 g4; have HF4 := show Hid _ from HF.out _ _ v2 w4 O3.out G3.out o4 g4; obtain ⟨xa, xc, rfl⟩ := ownsRow_form o4; clear o4 g4))
            all_goals
              try simp only [List.getElem_toArray, List.getElem_cons_succ, List.getElem_cons_zero, Act.put, List.setIfInBounds_toArray, List.set_cons_succ, List.set_cons_zero]
              go_wp2
              refine ⟨⟨pre, (b, k) :: (k, e) :: r, by rw [HBS.out, hbq.out, bats_cons, bats_cons]; simp only [List.append_assoc], HTC.out, HNC.out, HF4.out.1, HF4.out.2.1, HF4.out.2.2⟩, ?_⟩
              rw [HRD.out, HF4.out.2.1.rd]
              simp only [wgt]
              omega
end Go.Proofs.YtjkhcplnedcmeaaGreatDoor
namespace Go.Proofs.YtjkhcplnedcmeaaGreatDoor
open Go.RowKit
set_option linter.unusedVariables false
set_option linter.unusedSimpArgs false

end Go.Proofs.YtjkhcplnedcmeaaGreatDoor
