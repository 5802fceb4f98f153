/- A reader's calls, whatever they find: it stands behind where it stood, or has a fault; with a fault they answer zero and change nothing. -/
import Derived.Test.YtebbgpnhkpbefaaDoorcR5
import Derived.Test.YtebbgpnhkpbefaaDoorcAg
import Derived.Test.YtebbgpnhkpbefaaDoorcW4
import Derived.Laws.IdiomCopy
import Derived.Lib.BufferWrite
namespace Go.Proofs.YtebbgpnhkpbefaaDoor
open Go.RowKit
set_option linter.unusedVariables false
set_option linter.unusedSimpArgs false

/-- Where a reader stands that stood at p. -/
def Aft (w : World) (b : Nat) (s : ByteArray) (a : Nat → Addr) (p : Nat) : Prop :=
  (∃ (p' : Nat) (q : Int), p ≤ p' ∧ p' ≤ s.size ∧ Rd w b s p' .nilIface q) ∨ (∃ (i : Nat) (p' q : Int), 1 ≤ i ∧ i ≤ 3 ∧ Rd w b s p' (sen (a i)) q)
theorem Aft.fr {w w' : World} {b : Nat} {s : ByteArray} {a : Nat → Addr} {p : Nat} {S : Nat → Prop} (h : Aft w b s a p) (hf : Fr S w w') (hb : ¬ S b) : Aft w' b s a p := by
  rcases h with ⟨p', q, h1, h2, h3⟩ | ⟨i, p', q, h1, h2, h3⟩
  · exact .inl ⟨p', q, h1, h2, h3.fr hf hb⟩
  · exact .inr ⟨i, p', q, h1, h2, h3.fr hf hb⟩

theorem rfixed_c {B b : Nat} {s : ByteArray} {p : Nat} {q : Int} {w : World} {a : Nat → Addr} (hS : Sent B w a) (hb : B ≤ b) (h : Rd w b s p .nilIface q) (hp : p ≤ s.size) (hs : s.size ≤ 140737488355328) (n : Int) :
    Calls Tryd.prog 21 #[.pointer (some ⟨b, 0, none⟩), .int .i64 n] w fun e w' => ∃ v : Int, e = .returned (.int .u64 v) ∧ Aft w' b s a p ∧ Fr (fun j => j = b) w w' := by
  have hsm : s.size ≤ maxLen := by unfold maxLen; omega
  have hNB := hS.hB
  have hsz := hS.hsz
  by_cases hn : n < 1 ∨ 8 < n
  · refine (rfixed_arg b s p n q (a 1) w h hn hS.c1).mono ?_
    rintro e w' ⟨rfl, ⟨p', h'⟩, hf⟩
    exact ⟨_, rfl, .inr ⟨1, p', q, by omega, by omega, h'⟩, hf⟩
  · obtain ⟨m, rfl⟩ : ∃ m : Nat, n = m := ⟨n.toNat, by omega⟩
    by_cases hl : p + m ≤ s.size
    · refine (rfixed_yes b s p m q w h hl (by omega) (by omega) hsm).mono ?_
      rintro e w' ⟨rfl, h', hf⟩
      exact ⟨_, rfl, .inl ⟨p + m, q, by omega, hl, h'⟩, hf⟩
    · refine (rfixed_short b s p m q (a 2) w h hp (by omega) (by omega) (by omega) hsm hS.c2 (by omega) (by omega)).mono ?_
      rintro e w' ⟨rfl, ⟨p', h'⟩, hf⟩
      exact ⟨_, rfl, .inr ⟨2, p', p, by omega, by omega, h'⟩, hf⟩
theorem rvGo_pos : ∀ (l : List UInt8) (i v k : Nat), rvGo i l = some (v, k) → 0 < k
  | [], i, v, k, h => by rw [rvGo_nil] at h; cases h
  | c :: r, i, v, k, h => by
    rw [rvGo] at h
    split at h
    · cases h
    · split at h
      · cases h; omega
      · obtain ⟨x, hx, he⟩ := Option.map_eq_some_iff.1 h
        cases he
        omega
theorem rvar_c {B b : Nat} {s : ByteArray} {p : Nat} {q : Int} {w : World} {a : Nat → Addr} (hS : Sent B w a) (hb : B ≤ b) (h : Rd w b s p .nilIface q) (hp : p ≤ s.size) (hs : s.size ≤ 140737488355328) :
    Calls Tryd.prog 22 #[.pointer (some ⟨b, 0, none⟩)] w fun e w' => ∃ v : Int, e = .returned (.int .u64 v) ∧ Aft w' b s a p ∧ Fr (fun j => j = b) w w' := by
  have hsm : s.size ≤ maxLen := by unfold maxLen; omega
  have hNB := hS.hB
  have hsz := hS.hsz
  rcases hv : rvGo 0 (s.data.toList.drop p) with _ | ⟨v, k⟩
  · refine (rvar_no b s p q (a 2) w h hp hsm hv hS.c2 (by omega) (by omega)).mono ?_
    rintro e w' ⟨rfl, ⟨p', h'⟩, hf⟩
    exact ⟨_, rfl, .inr ⟨2, p', p, by omega, by omega, h'⟩, hf⟩
  · refine (rvar_yes b s p v k q w h hp hsm hv).mono ?_
    rintro e w' ⟨rfl, h', hk, hf⟩
    exact ⟨_, rfl, .inl ⟨p + k, q, by omega, hk, h'⟩, hf⟩
theorem rtext_c {B b : Nat} {s : ByteArray} {p : Nat} {q : Int} {w : World} {a : Nat → Addr} (hS : Sent B w a) (hb : B ≤ b) (h : Rd w b s p .nilIface q) (hp : p ≤ s.size) (hs : s.size ≤ 140737488355328) (n : Int) (hn : n ≤ 9223372036854775807) :
    Calls Tryd.prog 23 #[.pointer (some ⟨b, 0, none⟩), .int .i64 n] w fun e w' => ∃ t : ByteArray, e = .returned (.string t) ∧ Aft w' b s a p ∧ Fr (fun j => j = b) w w' := by
  have hsm : s.size ≤ maxLen := by unfold maxLen; omega
  have hNB := hS.hB
  have hsz := hS.hsz
  by_cases hneg : n < 0
  · refine (rtext_arg b s p n q (a 1) w h hneg hS.c1).mono ?_
    rintro e w' ⟨rfl, ⟨p', h'⟩, hf⟩
    exact ⟨_, rfl, .inr ⟨1, p', q, by omega, by omega, h'⟩, hf⟩
  · obtain ⟨m, rfl⟩ : ∃ m : Nat, n = m := ⟨n.toNat, by omega⟩
    rcases hv : rvGo 0 (s.data.toList.drop p) with _ | ⟨v, k⟩
    · refine (rtext_form b s p m q (a 2) w h hp hsm (by omega) hv hS.c2 (by omega) (by omega)).mono ?_
      rintro e w' ⟨rfl, ⟨p', h'⟩, hf⟩
      exact ⟨_, rfl, .inr ⟨2, p', p, by omega, by omega, h'⟩, hf⟩
    · by_cases hm : m < v
      · refine (rtext_limit b s p v k m q (a 3) w h hp hsm hv hm (by omega) hS.c3 (by omega) (by omega)).mono ?_
        rintro e w' ⟨rfl, ⟨p', h'⟩, hf⟩
        exact ⟨_, rfl, .inr ⟨3, p', q, by omega, by omega, h'⟩, hf⟩
      · by_cases hl : p + k + v ≤ s.size
        · refine (rtext_yes b s p v k m q w h hp hs hv (by omega) (by omega) hl).mono ?_
          rintro e w' ⟨rfl, h', hf⟩
          exact ⟨_, rfl, .inl ⟨p + k + v, q, by omega, hl, h'⟩, hf⟩
        · refine (rtext_short b s p v k m q (a 2) w h hp hs hv (by omega) (by omega) (by omega) hS.c2 (by omega) (by omega)).mono ?_
          rintro e w' ⟨rfl, ⟨p', h'⟩, hf⟩
          exact ⟨_, rfl, .inr ⟨2, p', p, by omega, by omega, h'⟩, hf⟩

theorem rfixed_f (b : Nat) (s : ByteArray) (p q n : Int) (x : Addr) (w : World) (h : Rd w b s p (sen x) q) :
    Calls Tryd.prog 21 #[.pointer (some ⟨b, 0, none⟩), .int .i64 n] w fun e w' => e = .returned (.int .u64 0) ∧ w' = w := by
  go_enter Tryd.func21, Tryd.ntmps21
  go_wp2_with (go_at_call 31; refine (ready_no b s p q x w h).mono ?_; rintro e w2 ⟨rfl, rfl⟩)
  go_ret
  exact ⟨rfl, rfl⟩
theorem rvar_f (b : Nat) (s : ByteArray) (p q : Int) (x : Addr) (w : World) (h : Rd w b s p (sen x) q) :
    Calls Tryd.prog 22 #[.pointer (some ⟨b, 0, none⟩)] w fun e w' => e = .returned (.int .u64 0) ∧ w' = w := by
  go_enter Tryd.func22, Tryd.ntmps22
  go_wp2_with (go_at_call 31; refine (ready_no b s p q x w h).mono ?_; rintro e w2 ⟨rfl, rfl⟩)
  go_ret
  exact ⟨rfl, rfl⟩
theorem rtext_f (b : Nat) (s : ByteArray) (p q n : Int) (x : Addr) (w : World) (h : Rd w b s p (sen x) q) :
    Calls Tryd.prog 23 #[.pointer (some ⟨b, 0, none⟩), .int .i64 n] w fun e w' => e = .returned (.string ⟨#[]⟩) ∧ w' = w := by
  go_enter Tryd.func23, Tryd.ntmps23
  go_wp2_with (go_at_call 31; refine (ready_no b s p q x w h).mono ?_; rintro e w2 ⟨rfl, rfl⟩)
  go_ret
  exact ⟨rfl, rfl⟩

abbrev z8 : Value := .int .u8 0
/-- The zero hash. -/
abbrev zH : Array Value := #[z8, z8, z8, z8, z8, z8, z8, z8, z8, z8, z8, z8, z8, z8, z8, z8, z8, z8, z8, z8, z8, z8, z8, z8, z8, z8, z8, z8, z8, z8, z8, z8]
theorem zH_one : ∀ u ∈ zH.toList, u.oneCell' = true := by decide
theorem zH_at (h : List Value) : True := trivial
/-- Two new zero hashes. -/
abbrev two (w : World) : World := (w.alloc (.cells zH 38)).alloc (.cells zH 38)
theorem two_at (w : World) : (two w).heap[w.heap.size]? = some (.cells zH 38 (0, 0)) ∧ (two w).heap[w.heap.size + 1]? = some (.cells zH 38 (0, 0)) := by
  refine ⟨(Below.heap_alloc _ _ _ (by simp)).trans (heap_alloc_new w _), ?_⟩
  have := heap_alloc_new (w.alloc (.cells zH 38)) (.cells zH 38)
  simpa using this
theorem two_fr (w : World) : Fr (fun _ => False) w (two w) := ((Fr.refl _ _).alloc _).alloc _

set_option maxRecDepth 100000 in
set_option maxHeartbeats 2000000 in
theorem rhash_f (b : Nat) (s : ByteArray) (p q : Int) (x : Addr) (w : World) (h : Rd w b s p (sen x) q) :
    Calls Tryd.prog 24 #[.pointer (some ⟨b, 0, none⟩)] w fun e w' => e = .returned (.agg zH) ∧ Fr (fun _ => False) w w' := by
  have h2 := h.fr (two_fr w) (fun f => f)
  go_enter Tryd.func24, Tryd.ntmps24
  go_wp2_with fail
  refine (ready_no b s p q x _ h2).mono ?_
  rintro e w2 ⟨rfl, hw2⟩
  obtain ⟨g1, g2⟩ : w2.heap[w.heap.size]? = some (.cells zH 38 (0, 0)) ∧ w2.heap[w.heap.size + 1]? = some (.cells zH 38 (0, 0)) := by rw [hw2]; exact two_at w
  have f2 : Fr (fun _ => False) w w2 := by rw [hw2]; exact two_fr w
  clear hw2
  go_wp2_with (first
    | (refine wp_load_agg rfl (.tmp 3) 38 32 rfl Tryd.isAgg38 Tryd.sizeOf38 (w.heap.size + 1) 0 rfl zH 38 (0, 0) g2 zH rfl (fun j _ => by rw [Nat.zero_add]) ?_)
    | (refine wp_store_agg rfl (.tmp 2) (.tmp 10) 38 32 rfl Tryd.sizeOf38 w.heap.size 0 rfl zH 38 g1 zH rfl rfl zH_one (by decide) zH rfl ?_; intro w3 k1 f3 z3))
  exact bodyPost_ret (results_cell Tryd.results24 Tryd.isAgg38 Tryd.sizeOf38 rfl k1 rfl) rfl ⟨rfl, f2.trans f3 (fun k hk q => by omega)⟩
set_option maxRecDepth 100000 in
set_option maxHeartbeats 2000000 in
theorem rhash_short (b : Nat) (s : ByteArray) (p : Nat) (q : Int) (x : Addr) (w : World) (h : Rd w b s p .nilIface q) (hp : p ≤ s.size) (hl : s.size < p + 32) (hs : s.size ≤ maxLen) (hg : w.cell? ⟨1, 0, none⟩ = some (sen x)) (hgb : 1 ≠ b) (hgs : 1 < w.heap.size) :
    Calls Tryd.prog 24 #[.pointer (some ⟨b, 0, none⟩)] w fun e w' => e = .returned (.agg zH) ∧ (∃ p' : Int, Rd w' b s p' (sen x) p) ∧ Fr (fun j => j = b) w w' := by
  have h2 := h.fr (two_fr w) (fun f => f)
  have hbl := heap_lt h
  go_enter Tryd.func24, Tryd.ntmps24
  go_wp2_with fail
  refine (ready_yes b s p q _ h2).mono ?_
  rintro e w2 ⟨rfl, hw2⟩
  obtain ⟨g1, g2⟩ : w2.heap[w.heap.size]? = some (.cells zH 38 (0, 0)) ∧ w2.heap[w.heap.size + 1]? = some (.cells zH 38 (0, 0)) := by rw [hw2]; exact two_at w
  have f2 : Fr (fun _ => False) w w2 := by rw [hw2]; exact two_fr w
  have h2' : Rd w2 b s p .nilIface q := by rw [hw2]; exact h2
  clear hw2 h2
  obtain ⟨c0, c1, c2, c3, c4, e2, e3, e4⟩ := h2'.parts
  have hg2 := (f2.cell (p := ⟨1, 0, none⟩) hgs (fun f => f)).trans hg
  go_wp2_with fail
  refine (take_no b s p 32 q _ _ h2' (by omega) hp hs).mono ?_
  rintro e w3 ⟨rfl, h3, f3⟩
  have z2 := heap_lt g2
  have hg3 := (f3.cell (p := ⟨1, 0, none⟩) (by show 1 < _; omega) hgb).trans hg2
  have g13 := (f3.block _ (by omega) (by omega)).trans g1
  have g23 := (f3.block _ z2 (by omega)).trans g2
  clear c0 c1 c2 c3 c4 e2 e3 e4 g1 g2
  go_wp2_with fail
  refine (noForm_any b s p q p _ _ _ h3 hg3).mono ?_
  rintro e w4 ⟨rfl, h4, f4⟩
  have g14 := (f4.block _ (heap_lt g13) (by omega)).trans g13
  have g24 := (f4.block _ (heap_lt g23) (by omega)).trans g23
  clear g13 g23 hg3 h3
  go_wp2_with (first
    | (refine wp_load_agg rfl (.tmp 3) 38 32 rfl Tryd.isAgg38 Tryd.sizeOf38 (w.heap.size + 1) 0 rfl zH 38 (0, 0) g24 zH rfl (fun j _ => by rw [Nat.zero_add]) ?_)
    | (refine wp_store_agg rfl (.tmp 2) (.tmp 25) 38 32 rfl Tryd.sizeOf38 w.heap.size 0 rfl zH 38 g14 zH rfl rfl zH_one (by decide) zH rfl ?_; intro w5 k5 f5 z5))
  exact bodyPost_ret (results_cell Tryd.results24 Tryd.isAgg38 Tryd.sizeOf38 rfl k5 rfl) rfl ⟨rfl, ⟨_, h4.fr f5 (by omega)⟩, (((f2.mono (fun _ _ f => f.elim)).trans f3 (fun _ _ q => q)).trans f4 (fun _ _ q => q)).trans f5 (fun k hk q => by omega)⟩

theorem info1 : (Tryd.prog.info? 5).map (·.size) = some 1 := by kernel_rfl
set_option maxRecDepth 100000 in
set_option maxHeartbeats 2000000 in
theorem rhash_yes (b : Nat) (s : ByteArray) (p : Nat) (q : Int) (w : World) (h : Rd w b s p .nilIface q) (hl : p + 32 ≤ s.size) (hs : s.size ≤ maxLen) :
    Calls Tryd.prog 24 #[.pointer (some ⟨b, 0, none⟩)] w fun e w' => e = .returned (.agg (bc ((s.data.toList.drop p).take 32)).toArray) ∧ Rd w' b s ((p + 32 : Nat) : Int) .nilIface q ∧ Fr (fun j => j = b) w w' := by
  have h2 := h.fr (two_fr w) (fun f => f)
  have hbl := heap_lt h
  have hz := sub_size s p 32 hl
  have hL := sub_list s p 32
  obtain ⟨t, ht⟩ : ∃ t, t = sub s p 32 := ⟨_, rfl⟩
  rw [← ht] at hz hL
  rw [← hL]
  clear hL
  go_enter Tryd.func24, Tryd.ntmps24
  go_wp2_with fail
  refine (ready_yes b s p q _ h2).mono ?_
  rintro e w2 ⟨rfl, hw2⟩
  obtain ⟨g1, g2⟩ : w2.heap[w.heap.size]? = some (.cells zH 38 (0, 0)) ∧ w2.heap[w.heap.size + 1]? = some (.cells zH 38 (0, 0)) := by rw [hw2]; exact two_at w
  have f2 : Fr (fun _ => False) w w2 := by rw [hw2]; exact two_fr w
  have h2' : Rd w2 b s p .nilIface q := by rw [hw2]; exact h2
  clear hw2 h2
  obtain ⟨c0, c1, c2, c3, c4, e2, e3, e4⟩ := h2'.parts
  go_wp2_with fail
  have qt := take_yes b s p 32 q _ _ h2' hl hs
  rw [← ht] at qt
  refine qt.mono ?_
  rintro e w3 ⟨rfl, h3, f3⟩
  clear qt
  have g13 := (f3.block _ (heap_lt g1) (by omega)).trans g1
  have g23 := (f3.block _ (heap_lt g2) (by omega)).trans g2
  clear c0 c1 c2 c3 c4 e2 e3 e4 g1 g2 ht
  have hzh : zH.size = 32 := rfl
  have hcp := Lib.run_copy_row_string (P := Tryd.prog) w3 53 9 3 5 (w.heap.size + 1) 0 32 32 t zH 38 Tryd.underlying53 info1 g23 (by omega) (by omega)
  clear hzh
  have hbs : (bc t.data.toList).toArray.size = 32 := by simp [bc_len]; exact hz
  have k1 : (w3.setRow (w.heap.size + 1) (bc t.data.toList).toArray).heap[w.heap.size]? = some (.cells zH 38 (0, 0)) := (setRow_other _ _ _ _ (by omega)).trans g13
  have k2 : (w3.setRow (w.heap.size + 1) (bc t.data.toList).toArray).heap[w.heap.size + 1]? = some (.cells (bc t.data.toList).toArray 38 (0, 0)) := setRow_heap _ _ _ _ _ _ g23
  have f4 : Fr (fun k => k = w.heap.size + 1) w3 (w3.setRow (w.heap.size + 1) (bc t.data.toList).toArray) := ⟨rfl, rfl, rfl, by simp, fun k hk hne => setRow_other _ _ _ _ hne⟩
  have h4 := h3.fr f4 (by omega)
  go_wp2_with (first
    | (refine wp_load_agg rfl (.tmp 3) 38 32 rfl Tryd.isAgg38 Tryd.sizeOf38 (w.heap.size + 1) 0 rfl (bc t.data.toList).toArray 38 (0, 0) k2 (bc t.data.toList).toArray hbs (fun j _ => by rw [Nat.zero_add]) ?_)
    | (refine wp_store_agg rfl (.tmp 2) (.tmp 29) 38 32 rfl Tryd.sizeOf38 w.heap.size 0 rfl zH 38 k1 (bc t.data.toList).toArray rfl hbs (by rw [List.toList_toArray]; exact bc_one _) (by decide) (bc t.data.toList).toArray (by simp) ?_; intro w5 k5 f5 z5))
  exact bodyPost_ret (results_cell Tryd.results24 Tryd.isAgg38 Tryd.sizeOf38 rfl k5 hbs) rfl ⟨rfl, h4.fr f5 (by omega), (((f2.mono (fun _ _ f => f.elim)).trans f3 (fun _ _ q => q)).trans f4 (fun k hk q => by omega)).trans f5 (fun k hk q => by omega)⟩

theorem rhash_c {B b : Nat} {s : ByteArray} {p : Nat} {q : Int} {w : World} {a : Nat → Addr} (hS : Sent B w a) (hb : B ≤ b) (h : Rd w b s p .nilIface q) (hp : p ≤ s.size) (hs : s.size ≤ 140737488355328) :
    Calls Tryd.prog 24 #[.pointer (some ⟨b, 0, none⟩)] w fun e w' => ∃ l : List UInt8, l.length = 32 ∧ e = .returned (.agg (bc l).toArray) ∧ Aft w' b s a p ∧ Fr (fun j => j = b) w w' := by
  have hsm : s.size ≤ maxLen := by unfold maxLen; omega
  have hNB := hS.hB
  have hsz := hS.hsz
  by_cases hl : p + 32 ≤ s.size
  · refine (rhash_yes b s p q w h hl hsm).mono ?_
    rintro e w' ⟨rfl, h', hf⟩
    exact ⟨_, by have : s.data.size = s.size := rfl; simp; omega, rfl, .inl ⟨p + 32, q, by omega, hl, h'⟩, hf⟩
  · refine (rhash_short b s p q (a 2) w h hp (by omega) hsm hS.c2 (by omega) (by omega)).mono ?_
    rintro e w' ⟨rfl, ⟨p', h'⟩, hf⟩
    exact ⟨List.replicate 32 0, by simp, rfl, .inr ⟨2, p', p, by omega, by omega, h'⟩, hf⟩
end Go.Proofs.YtebbgpnhkpbefaaDoor
