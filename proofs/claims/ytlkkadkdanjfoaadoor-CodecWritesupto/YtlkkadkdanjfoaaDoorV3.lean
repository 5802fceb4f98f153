/- The form of a thing; putting a thing to a writer that is not there, or that nobody made. -/
import Derived.Test.YtlkkadkdanjfoaaDoorV2
namespace Go.Proofs.YtlkkadkdanjfoaaDoor
open Go.RowKit
set_option linter.unusedVariables false
set_option linter.unusedSimpArgs false

set_option maxRecDepth 100000 in
set_option maxHeartbeats 2000000 in
theorem putg0 (S : Nat → Prop) (rp : Option Addr) (kd : Int) (V : Array Value) (n wd : Int) (w : World) (PF : Value → World → Prop) (hV : V.size = 37) (h1 : V[1]? = some (.int .i64 kd)) (hk1 : -9223372036854775808 ≤ kd) (hk2 : kd ≤ 9223372036854775807) (hk : kd % 4 = 0) (h2 : V[2]? = some (.int .u64 n)) (h3 : V[3]? = some (.int .i64 wd))
    (hF : Pts 33 #[.pointer rp, .int .u64 n, .int .i64 wd] S w PF) :
    Calls Tryd.prog 13 #[.pointer rp, .agg V] w fun e w' => ∃ ev, e = .returned ev ∧ PF ev w' ∧ Fr S w w' := by
  have fa : Fr (fun _ => False) w (w.alloc (.cells V 34)) := (Fr.refl _ _).alloc _
  have e1 := at_of h1
  have e2 := at_of h2
  have e3 := at_of h3
  clear h1 h2 h3
  have hr0 : ∀ W, Calls Tryd.prog 10 #[.int .i64 kd, .int .i64 4] W fun e w' => e = .returned (.int .i64 0) ∧ w' = W := fun W => by have := round_any kd W hk1 hk2; rwa [hk] at this
  go_enter Tryd.func13, Tryd.ntmps13
  go_wp2_with fail
  refine (hr0 _).mono ?_
  rintro e w1 ⟨rfl, rfl⟩
  go_wp2_with fail
  refine (hF _ fa).mono ?_
  rintro e w2 ⟨ev, rfl, hp, hf⟩
  go_wp2_with fail
  go_ret
  exact ⟨_, rfl, hp, (fa.mono (fun _ _ f => f.elim)).trans hf (fun _ _ q => q)⟩
set_option maxRecDepth 100000 in
set_option maxHeartbeats 2000000 in
theorem putg1 (S : Nat → Prop) (rp : Option Addr) (kd : Int) (V : Array Value) (n : Int) (w : World) (PF : Value → World → Prop) (hV : V.size = 37) (h1 : V[1]? = some (.int .i64 kd)) (hk1 : -9223372036854775808 ≤ kd) (hk2 : kd ≤ 9223372036854775807) (hk : kd % 4 = 1) (h2 : V[2]? = some (.int .u64 n))
    (hF : Pts 34 #[.pointer rp, .int .u64 n] S w (fun _ w' => PF .nilIface w')) :
    Calls Tryd.prog 13 #[.pointer rp, .agg V] w fun e w' => ∃ ev, e = .returned ev ∧ PF ev w' ∧ Fr S w w' := by
  have fa : Fr (fun _ => False) w (w.alloc (.cells V 34)) := (Fr.refl _ _).alloc _
  have e1 := at_of h1
  have e2 := at_of h2
  clear h1 h2
  have hr1 : ∀ W, Calls Tryd.prog 10 #[.int .i64 kd, .int .i64 4] W fun e w' => e = .returned (.int .i64 1) ∧ w' = W := fun W => by have := round_any kd W hk1 hk2; rwa [hk] at this
  go_enter Tryd.func13, Tryd.ntmps13
  go_wp2_with fail
  refine (hr1 _).mono ?_
  rintro e w1 ⟨rfl, rfl⟩
  go_wp2_with fail
  refine (hF _ fa).mono ?_
  rintro e w2 ⟨ev, rfl, hp, hf⟩
  go_wp2_with fail
  go_ret
  exact ⟨_, rfl, hp, (fa.mono (fun _ _ f => f.elim)).trans hf (fun _ _ q => q)⟩
set_option maxRecDepth 100000 in
set_option maxHeartbeats 2000000 in
theorem putg2 (S : Nat → Prop) (rp : Option Addr) (kd : Int) (V : Array Value) (t : ByteArray) (w : World) (PF : Value → World → Prop) (hV : V.size = 37) (h1 : V[1]? = some (.int .i64 kd)) (hk1 : -9223372036854775808 ≤ kd) (hk2 : kd ≤ 9223372036854775807) (hk : kd % 4 = 2) (h4 : V[4]? = some (.string t))
    (hF : Pts 35 #[.pointer rp, .string t] S w (fun _ w' => PF .nilIface w')) :
    Calls Tryd.prog 13 #[.pointer rp, .agg V] w fun e w' => ∃ ev, e = .returned ev ∧ PF ev w' ∧ Fr S w w' := by
  have fa : Fr (fun _ => False) w (w.alloc (.cells V 34)) := (Fr.refl _ _).alloc _
  have e1 := at_of h1
  have e4 := at_of h4
  clear h1 h4
  have hr2 : ∀ W, Calls Tryd.prog 10 #[.int .i64 kd, .int .i64 4] W fun e w' => e = .returned (.int .i64 2) ∧ w' = W := fun W => by have := round_any kd W hk1 hk2; rwa [hk] at this
  go_enter Tryd.func13, Tryd.ntmps13
  go_wp2_with fail
  refine (hr2 _).mono ?_
  rintro e w1 ⟨rfl, rfl⟩
  go_wp2_with fail
  refine (hF _ fa).mono ?_
  rintro e w2 ⟨ev, rfl, hp, hf⟩
  go_wp2_with fail
  go_ret
  exact ⟨_, rfl, hp, (fa.mono (fun _ _ f => f.elim)).trans hf (fun _ _ q => q)⟩
set_option maxRecDepth 100000 in
set_option maxHeartbeats 2000000 in
theorem putg3 (S : Nat → Prop) (rp : Option Addr) (kd : Int) (V Hs : Array Value) (w : World) (PF : Value → World → Prop) (hV : V.size = 37) (h1 : V[1]? = some (.int .i64 kd)) (hk1 : -9223372036854775808 ≤ kd) (hk2 : kd ≤ 9223372036854775807) (hk : kd % 4 = 3) (hs : Hs.size = 32) (h5 : ∀ j, j < 32 → V[5 + j]? = Hs[j]?)
    (hF : Pts 36 #[.pointer rp, .agg Hs] S w (fun _ w' => PF .nilIface w')) :
    Calls Tryd.prog 13 #[.pointer rp, .agg V] w fun e w' => ∃ ev, e = .returned ev ∧ PF ev w' ∧ Fr S w w' := by
  have fa : Fr (fun _ => False) w (w.alloc (.cells V 34)) := (Fr.refl _ _).alloc _
  have ga : (w.alloc (.cells V 34)).heap[w.heap.size]? = some (.cells V 34 (0, 0)) := heap_alloc_new w _
  have e1 := at_of h1
  clear h1
  have hr3 : ∀ W, Calls Tryd.prog 10 #[.int .i64 kd, .int .i64 4] W fun e w' => e = .returned (.int .i64 3) ∧ w' = W := fun W => by have := round_any kd W hk1 hk2; rwa [hk] at this
  go_enter Tryd.func13, Tryd.ntmps13
  go_wp2_with fail
  refine (hr3 _).mono ?_
  rintro e w1 ⟨rfl, rfl⟩
  go_wp2_with (refine wp_load_agg rfl (.tmp 9) 32 32 rfl Tryd.isAgg32 Tryd.sizeOf32 w.heap.size 5 rfl V 34 (0, 0) ga Hs hs h5 ?_)
  refine (hF _ fa).mono ?_
  rintro e w2 ⟨ev, rfl, hp, hf⟩
  go_wp2_with fail
  go_ret
  exact ⟨_, rfl, hp, (fa.mono (fun _ _ f => f.elim)).trans hf (fun _ _ q => q)⟩


/-- Such a writer: there says false, now and behind whatever leaves what there is. -/
def Nt (w : World) (rp : Option Addr) : Prop := ∀ w1, Fr (fun _ => False) w w1 → Calls Tryd.prog 39 #[.pointer rp] w1 fun e w' => e = .returned (.bool false) ∧ w' = w1
theorem Nt.nil (w : World) : Nt w none := fun w1 _ => there_nil w1
theorem there_un (b : Nat) (w : World) (h0 : w.cell? ⟨b, 0, none⟩ = some (.bool false)) : Calls Tryd.prog 39 #[.pointer (some ⟨b, 0, none⟩)] w fun e w' => e = .returned (.bool false) ∧ w' = w := by
  go_enter Tryd.func39, Tryd.ntmps39
  go_wp2
  go_ret
  exact ⟨rfl, rfl⟩
theorem Nt.un {w : World} {b : Nat} (h : w.cell? ⟨b, 0, none⟩ = some (.bool false)) : Nt w (some ⟨b, 0, none⟩) := fun w1 f1 =>
  there_un b w1 ((f1.cell (p := ⟨b, 0, none⟩) (World.block_lt_of_cell? w ⟨b, 0, none⟩ h) (fun f => f)).trans h)
theorem Nt.fr {w w1 : World} {rp : Option Addr} (h : Nt w rp) (hf : Fr (fun _ => False) w w1) : Nt w1 rp := fun w2 f2 => h w2 (hf.trans f2 (fun _ _ q => q))

theorem nfixed {w : World} {rp : Option Addr} {x : Addr} (h : Nt w rp) (n wd : Int) (hc : w.cell? ⟨0, 0, none⟩ = some (sen x)) : Calls Tryd.prog 33 #[.pointer rp, .int .u64 n, .int .i64 wd] w fun e w' => e = .returned (sen x) ∧ w' = w := by
  have ht := h w (Fr.refl _ _)
  go_enter Tryd.func33, Tryd.ntmps33
  go_wp2_with (go_at_call 39; refine ht.mono ?_; rintro e w' ⟨rfl, rfl⟩)
  go_ret
  exact ⟨rfl, rfl⟩
theorem nvar {w : World} {rp : Option Addr} (h : Nt w rp) (n : Int) : Calls Tryd.prog 34 #[.pointer rp, .int .u64 n] w fun e w' => e = .returned (.tuple #[]) ∧ w' = w := by
  have ht := h w (Fr.refl _ _)
  go_enter Tryd.func34, Tryd.ntmps34
  go_wp2_with (go_at_call 39; refine ht.mono ?_; rintro e w' ⟨rfl, rfl⟩)
  refine bodyPost_ret (results_none rfl _ _ _) rfl ?_
  exact ⟨rfl, rfl⟩
theorem ntext {w : World} {rp : Option Addr} (h : Nt w rp) (s : ByteArray) : Calls Tryd.prog 35 #[.pointer rp, .string s] w fun e w' => e = .returned (.tuple #[]) ∧ w' = w := by
  have ht := h w (Fr.refl _ _)
  go_enter Tryd.func35, Tryd.ntmps35
  go_wp2_with (go_at_call 39; refine ht.mono ?_; rintro e w' ⟨rfl, rfl⟩)
  refine bodyPost_ret (results_none rfl _ _ _) rfl ?_
  exact ⟨rfl, rfl⟩
theorem nhash {w : World} {rp : Option Addr} (h : Nt w rp) (A : Array Value) : Calls Tryd.prog 36 #[.pointer rp, .agg A] w fun e w' => e = .returned (.tuple #[]) ∧ Fr (fun _ => False) w w' := by
  have fa : Fr (fun _ => False) w (w.alloc (.cells A 32)) := (Fr.refl _ _).alloc _
  have ht := h _ fa
  go_enter Tryd.func36, Tryd.ntmps36
  go_wp2_with (go_at_call 39; refine ht.mono ?_; rintro e w' ⟨rfl, rfl⟩)
  refine bodyPost_ret (results_none rfl _ _ _) rfl ?_
  exact ⟨rfl, fa⟩
theorem ndone {w : World} {rp : Option Addr} (h : Nt w rp) : Calls Tryd.prog 15 #[.pointer rp] w fun e w' => e = .returned (.string ⟨#[]⟩) ∧ w' = w := by
  have ht := h w (Fr.refl _ _)
  go_enter Tryd.func15, Tryd.ntmps15
  go_wp2_with (go_at_call 39; refine ht.mono ?_; rintro e w' ⟨rfl, rfl⟩)
  go_ret
  exact ⟨rfl, rfl⟩

/-- put to such a writer: ErrNil of a number of a width, and nothing else. -/
theorem put_n {B : Nat} {rp : Option Addr} {w : World} {a : Nat → Addr} {A : Array Value} {kd n wd : Int} {t : ByteArray} {lh : List UInt8} (hS : Sent B w a) (hN : Nt w rp) (hT : Tf A kd n wd t lh) :
    Calls Tryd.prog 13 #[.pointer rp, .agg A] w fun e w' => ∃ ev, e = .returned ev ∧ ev = (if kd % 4 = 0 then sen (a 0) else .nilIface) ∧ Fr (fun _ => False) w w' := by
  have h4 : kd % 4 = 0 ∨ kd % 4 = 1 ∨ kd % 4 = 2 ∨ kd % 4 = 3 := by omega
  rcases h4 with h4 | h4 | h4 | h4
  · rw [if_pos h4]
    refine putg0 (fun _ => False) rp kd A n wd w (fun ev w' => ev = sen (a 0)) hT.g.size hT.g.k hT.g.k1 hT.g.k2 h4 hT.cn hT.g.w (fun w1 f1 => ?_)
    refine (nfixed (hN.fr f1) n wd (hS.fr f1 (fun _ _ f => f)).c0).mono ?_
    rintro e w' ⟨rfl, rfl⟩
    exact ⟨_, rfl, rfl, Fr.refl _ _⟩
  · rw [if_neg (by omega)]
    refine putg1 (fun _ => False) rp kd A n w (fun ev w' => ev = .nilIface) hT.g.size hT.g.k hT.g.k1 hT.g.k2 h4 hT.cn (fun w1 f1 => ?_)
    refine (nvar (hN.fr f1) n).mono ?_
    rintro e w' ⟨rfl, rfl⟩
    exact ⟨_, rfl, rfl, Fr.refl _ _⟩
  · rw [if_neg (by omega)]
    refine putg2 (fun _ => False) rp kd A t w (fun ev w' => ev = .nilIface) hT.g.size hT.g.k hT.g.k1 hT.g.k2 h4 hT.ct (fun w1 f1 => ?_)
    refine (ntext (hN.fr f1) t).mono ?_
    rintro e w' ⟨rfl, rfl⟩
    exact ⟨_, rfl, rfl, Fr.refl _ _⟩
  · rw [if_neg (by omega)]
    refine putg3 (fun _ => False) rp kd A (bc lh).toArray w (fun ev w' => ev = .nilIface) hT.g.size hT.g.k hT.g.k1 hT.g.k2 h4 (by simp [bc_len, hT.hl]) (fun j hj => by rw [hT.ch j hj]; simp) (fun w1 f1 => ?_)
    refine (nhash (hN.fr f1) _).mono ?_
    rintro e w' ⟨rfl, hf⟩
    exact ⟨_, rfl, rfl, hf⟩

/-- put to a writer that is there, of what may not be put: ErrArg. -/
theorem put_a {B b : Nat} {v : Value} {l : List UInt8} {w : World} {a : Nat → Addr} {A : Array Value} {kd n wd : Int} {t : ByteArray} {lh : List UInt8} (hS : Sent B w a) (hW : Wr w b v l) (hT : Tf A kd n wd t lh) (hnone : fmT kd n wd t lh = none) :
    Calls Tryd.prog 13 #[.pointer (some ⟨b, 0, none⟩), .agg A] w fun e w' => ∃ ev, e = .returned ev ∧ ev = sen (a 1) ∧ Fr (fun _ => False) w w' := by
  have hn1 := hT.n1
  have hn2 := hT.n2
  obtain ⟨N, rfl⟩ : ∃ N : Nat, n = N := ⟨n.toNat, by omega⟩
  have h4 : kd % 4 = 0 := by
    by_cases h4 : kd % 4 = 0
    · exact h4
    · exfalso
      unfold fmT at hnone
      rw [if_neg h4] at hnone
      split at hnone
      · cases hnone
      · split at hnone
        · cases hnone
        · cases hnone
  have hv : ¬ (1 ≤ wd ∧ wd ≤ 8 ∧ (N : Int) < 256 ^ wd.toNat) := fun hv => by
    unfold fmT at hnone
    rw [if_pos h4, if_pos hv] at hnone
    cases hnone
  refine putg0 (fun _ => False) (some ⟨b, 0, none⟩) kd A N wd w (fun ev w' => ev = sen (a 1)) hT.g.size hT.g.k hT.g.k1 hT.g.k2 h4 hT.cn hT.g.w (fun w1 f1 => ?_)
  have hW1 := hW.fr f1 (fun f => f) (fun _ _ f => f)
  have hc := (hS.fr f1 (fun _ _ f => f)).c1
  by_cases hw : wd < 1 ∨ 8 < wd
  · refine (wfixed_width b (a 1) N wd w1 ((cell_of hW1.blk 0).trans rfl) hw hc).mono ?_
    rintro e w' ⟨rfl, rfl⟩
    exact ⟨_, rfl, rfl, Fr.refl _ _⟩
  · obtain ⟨m, rfl⟩ : ∃ m : Nat, wd = m := ⟨wd.toNat, by omega⟩
    have hN' : ¬ N < 256 ^ m := fun hN => hv ⟨by omega, by omega, (pow_cast N m).2 hN⟩
    refine (wfixed_big b (a 1) N m w1 ((cell_of hW1.blk 0).trans rfl) (by omega) (by omega) (by omega) hN' hc).mono ?_
    rintro e w' ⟨rfl, rfl⟩
    exact ⟨_, rfl, rfl, Fr.refl _ _⟩

set_option maxRecDepth 100000 in
set_option maxHeartbeats 2000000 in
theorem refFixed_width (n wd : Int) (w : World) (h : wd < 1 ∨ 8 < wd) :
    Calls Tryd.prog 29 #[.int .u64 n, .int .i64 wd] w fun e w' => e = .returned (.tuple #[.string ⟨#[]⟩, .agg #[.int .i64 2, .int .i64 (-1)]]) ∧ Fr (fun _ => False) w w' := by
  have fa : Fr (fun _ => False) w (w.alloc (.cells #[.int .i64 0, .int .i64 0] 37)) := (Fr.refl _ _).alloc _
  have hb1 : (w.alloc (.cells #[.int .i64 0, .int .i64 0] 37)).heap[w.heap.size]? = some (.cells #[.int .i64 0, .int .i64 0] 37 (0, 0)) := heap_alloc_new w _
  rcases h with h | h
  all_goals
    have h' : ¬ (wd < 1) ∨ wd < 1 := by omega
    go_enter Tryd.func29, Tryd.ntmps29
    go_wp2_with fail
    refine (plain_any 2 _ (by omega)).mono ?_
    rintro e w4 ⟨rfl, f4⟩
    have hg4 := (f4.block _ (heap_lt hb1) (fun f => f)).trans hb1
    go_wp2_with (refine wp_store_agg rfl (.tmp 5) (.tmp 14) 37 2 rfl Tryd.sizeOf37 w.heap.size 0 rfl #[.int .i64 0, .int .i64 0] 37 hg4 #[.int .i64 2, .int .i64 (-1)] rfl rfl (by simp [Value.oneCell']) (by decide) #[.int .i64 2, .int .i64 (-1)] rfl ?_; intro w5 j5 f5 z5)
    exact bodyPost_ret (results_two Tryd.results29 Tryd.isAgg37 Tryd.sizeOf37 rfl rfl j5 rfl) rfl ⟨rfl, (fa.trans f4 (fun _ _ q => q)).trans f5 (fun k hk q => by omega)⟩

/-- The form and the fault of a thing, by the document. -/
def foR (kd n wd : Int) (t : ByteArray) (lh : List UInt8) : Value := match fmT kd n wd t lh with
  | some F => .tuple #[.string ⟨F.toArray⟩, .agg #[.int .i64 0, .int .i64 0]]
  | none => .tuple #[.string ⟨#[]⟩, .agg #[.int .i64 2, .int .i64 (-1)]]

/-- Where form keeps its result: the thing's block, the fault's block. -/
theorem two_blocks (w : World) (A : Array Value) : ∃ W, W = (w.alloc (.cells A 34)).alloc (.cells #[.int .i64 0, .int .i64 0] 37) ∧ W.heap[w.heap.size]? = some (.cells A 34 (0, 0)) ∧ W.heap[w.heap.size + 1]? = some (.cells #[.int .i64 0, .int .i64 0] 37 (0, 0)) ∧ Fr (fun _ => False) w W := by
  refine ⟨_, rfl, (Below.heap_alloc _ _ _ (by simp)).trans (heap_alloc_new w _), ?_, ((Fr.refl _ _).alloc _).alloc _⟩
  have := heap_alloc_new (w.alloc (.cells A 34)) (.cells #[.int .i64 0, .int .i64 0] 37)
  simpa using this

set_option maxRecDepth 100000 in
set_option maxHeartbeats 2000000 in
theorem form0 (A : Array Value) (kd n wd : Int) (t : ByteArray) (lh : List UInt8) (w : World) (S : ByteArray) (c p : Int) (hT : Tf A kd n wd t lh) (hk : kd % 4 = 0)
    (hF : ∀ w1, Fr (fun _ => False) w w1 → Calls Tryd.prog 29 #[.int .u64 n, .int .i64 wd] w1 fun e w' => e = .returned (.tuple #[.string S, .agg #[.int .i64 c, .int .i64 p]]) ∧ Fr (fun _ => False) w1 w') :
    Calls Tryd.prog 11 #[.agg A] w fun e w' => e = .returned (.tuple #[.string S, .agg #[.int .i64 c, .int .i64 p]]) ∧ Fr (fun _ => False) w w' := by
  have hr : ∀ W, Calls Tryd.prog 10 #[.int .i64 kd, .int .i64 4] W fun e w' => e = .returned (.int .i64 0) ∧ w' = W := fun W => by have := round_any kd W hT.g.k1 hT.g.k2; rwa [hk] at this
  have hA := hT.g.size
  have e1 := at_of hT.g.k
  have e2 := at_of hT.cn
  have e3 := at_of hT.g.w
  obtain ⟨W, hW, b1, b2, fW⟩ := two_blocks w A
  go_enter Tryd.func11, Tryd.ntmps11
  go_wp2_with fail
  refine (hr _).mono ?_
  rintro e w1 ⟨rfl, rfl⟩
  go_wp2_with fail
  rw [← hW]
  refine (hF W fW).mono ?_
  rintro e w2 ⟨rfl, f2⟩
  have b3 := (f2.block _ (heap_lt b2) (fun f => f)).trans b2
  go_wp2_with (refine wp_store_agg rfl (.tmp 3) (.tmp 15) 37 2 rfl Tryd.sizeOf37 (w.heap.size + 1) 0 rfl #[.int .i64 0, .int .i64 0] 37 b3 #[.int .i64 c, .int .i64 p] rfl rfl (by simp [Value.oneCell']) (by decide) #[.int .i64 c, .int .i64 p] rfl ?_; intro w5 j5 f5 z5)
  exact bodyPost_ret (results_two Tryd.results11 Tryd.isAgg37 Tryd.sizeOf37 rfl rfl j5 rfl) rfl ⟨rfl, (fW.trans f2 (fun _ _ q => q)).trans f5 (fun k hk q => by omega)⟩

set_option maxRecDepth 100000 in
set_option maxHeartbeats 2000000 in
theorem form1 (A : Array Value) (kd n wd : Int) (t : ByteArray) (lh : List UInt8) (w : World) (S : ByteArray) (c p : Int) (hT : Tf A kd n wd t lh) (hk : kd % 4 = 1)
    (hF : ∀ w1, Fr (fun _ => False) w w1 → Calls Tryd.prog 30 #[.int .u64 n] w1 fun e w' => e = .returned (.string S) ∧ Fr (fun _ => False) w1 w') :
    Calls Tryd.prog 11 #[.agg A] w fun e w' => e = .returned (.tuple #[.string S, .agg #[.int .i64 0, .int .i64 0]]) ∧ Fr (fun _ => False) w w' := by
  have hr : ∀ W, Calls Tryd.prog 10 #[.int .i64 kd, .int .i64 4] W fun e w' => e = .returned (.int .i64 1) ∧ w' = W := fun W => by have := round_any kd W hT.g.k1 hT.g.k2; rwa [hk] at this
  have hA := hT.g.size
  have e1 := at_of hT.g.k
  have e2 := at_of hT.cn
  obtain ⟨W, hW, b1, b2, fW⟩ := two_blocks w A
  go_enter Tryd.func11, Tryd.ntmps11
  go_wp2_with fail
  refine (hr _).mono ?_
  rintro e w1 ⟨rfl, rfl⟩
  go_wp2_with fail
  rw [← hW]
  refine (hF W fW).mono ?_
  rintro e w2 ⟨rfl, f2⟩
  have b3 := (f2.block _ (heap_lt b2) (fun f => f)).trans b2
  go_wp2_with (refine wp_store_agg rfl (.tmp 3) (.tmp 21) 37 2 rfl Tryd.sizeOf37 (w.heap.size + 1) 0 rfl #[.int .i64 0, .int .i64 0] 37 b3 #[.int .i64 0, .int .i64 0] rfl rfl (by simp [Value.oneCell']) (by decide) #[.int .i64 0, .int .i64 0] rfl ?_; intro w5 j5 f5 z5)
  exact bodyPost_ret (results_two Tryd.results11 Tryd.isAgg37 Tryd.sizeOf37 rfl rfl j5 rfl) rfl ⟨rfl, (fW.trans f2 (fun _ _ q => q)).trans f5 (fun k hk q => by omega)⟩

set_option maxRecDepth 100000 in
set_option maxHeartbeats 2000000 in
theorem form2 (A : Array Value) (kd n wd : Int) (t : ByteArray) (lh : List UInt8) (w : World) (S : ByteArray) (c p : Int) (hT : Tf A kd n wd t lh) (hk : kd % 4 = 2)
    (hF : ∀ w1, Fr (fun _ => False) w w1 → Calls Tryd.prog 31 #[.string t] w1 fun e w' => e = .returned (.string S) ∧ Fr (fun _ => False) w1 w') :
    Calls Tryd.prog 11 #[.agg A] w fun e w' => e = .returned (.tuple #[.string S, .agg #[.int .i64 0, .int .i64 0]]) ∧ Fr (fun _ => False) w w' := by
  have hr : ∀ W, Calls Tryd.prog 10 #[.int .i64 kd, .int .i64 4] W fun e w' => e = .returned (.int .i64 2) ∧ w' = W := fun W => by have := round_any kd W hT.g.k1 hT.g.k2; rwa [hk] at this
  have hA := hT.g.size
  have e1 := at_of hT.g.k
  have e4 := at_of hT.ct
  obtain ⟨W, hW, b1, b2, fW⟩ := two_blocks w A
  go_enter Tryd.func11, Tryd.ntmps11
  go_wp2_with fail
  refine (hr _).mono ?_
  rintro e w1 ⟨rfl, rfl⟩
  go_wp2_with fail
  rw [← hW]
  refine (hF W fW).mono ?_
  rintro e w2 ⟨rfl, f2⟩
  have b3 := (f2.block _ (heap_lt b2) (fun f => f)).trans b2
  go_wp2_with (refine wp_store_agg rfl (.tmp 3) (.tmp 27) 37 2 rfl Tryd.sizeOf37 (w.heap.size + 1) 0 rfl #[.int .i64 0, .int .i64 0] 37 b3 #[.int .i64 0, .int .i64 0] rfl rfl (by simp [Value.oneCell']) (by decide) #[.int .i64 0, .int .i64 0] rfl ?_; intro w5 j5 f5 z5)
  exact bodyPost_ret (results_two Tryd.results11 Tryd.isAgg37 Tryd.sizeOf37 rfl rfl j5 rfl) rfl ⟨rfl, (fW.trans f2 (fun _ _ q => q)).trans f5 (fun k hk q => by omega)⟩

set_option maxRecDepth 100000 in
set_option maxHeartbeats 2000000 in
theorem form3 (A : Array Value) (kd n wd : Int) (t : ByteArray) (lh : List UInt8) (w : World) (S : ByteArray) (c p : Int) (hT : Tf A kd n wd t lh) (hk : kd % 4 = 3)
    (hF : ∀ w1, Fr (fun _ => False) w w1 → Calls Tryd.prog 32 #[.agg (bc lh).toArray] w1 fun e w' => e = .returned (.string S) ∧ Fr (fun _ => False) w1 w') :
    Calls Tryd.prog 11 #[.agg A] w fun e w' => e = .returned (.tuple #[.string S, .agg #[.int .i64 0, .int .i64 0]]) ∧ Fr (fun _ => False) w w' := by
  have hr : ∀ W, Calls Tryd.prog 10 #[.int .i64 kd, .int .i64 4] W fun e w' => e = .returned (.int .i64 3) ∧ w' = W := fun W => by have := round_any kd W hT.g.k1 hT.g.k2; rwa [hk] at this
  have hA := hT.g.size
  have e1 := at_of hT.g.k
  obtain ⟨W, hW, b1, b2, fW⟩ := two_blocks w A
  have h5 : ∀ j, j < 32 → A[5 + j]? = (bc lh).toArray[j]? := fun j hj => by rw [hT.ch j hj]; simp
  have hs5 : (bc lh).toArray.size = 32 := by simp [bc_len, hT.hl]
  have HW : Hid (W = (w.alloc (.cells A 34)).alloc (.cells #[.int .i64 0, .int .i64 0] 37)) := hW
  clear hW
  go_enter Tryd.func11, Tryd.ntmps11
  go_wp2_with fail
  refine (hr _).mono ?_
  rintro e w1 ⟨rfl, rfl⟩
  rw [← HW.out]
  go_wp2_with (refine wp_load_agg rfl (.tmp 28) 32 32 rfl Tryd.isAgg32 Tryd.sizeOf32 w.heap.size 5 rfl A 34 (0, 0) b1 (bc lh).toArray hs5 h5 ?_)
  refine (hF W fW).mono ?_
  rintro e w2 ⟨rfl, f2⟩
  have b3 := (f2.block _ (heap_lt b2) (fun f => f)).trans b2
  go_wp2_with (refine wp_store_agg rfl (.tmp 3) (.tmp 31) 37 2 rfl Tryd.sizeOf37 (w.heap.size + 1) 0 rfl #[.int .i64 0, .int .i64 0] 37 b3 #[.int .i64 0, .int .i64 0] rfl rfl (by simp [Value.oneCell']) (by decide) #[.int .i64 0, .int .i64 0] rfl ?_; intro w5 j5 f5 z5)
  exact bodyPost_ret (results_two Tryd.results11 Tryd.isAgg37 Tryd.sizeOf37 rfl rfl j5 rfl) rfl ⟨rfl, (fW.trans f2 (fun _ _ q => q)).trans f5 (fun k hk q => by omega)⟩

theorem form_t {A : Array Value} {kd n wd : Int} {t : ByteArray} {lh : List UInt8} (w : World) (hT : Tf A kd n wd t lh) (ht : t.size ≤ 1048576) :
    Calls Tryd.prog 11 #[.agg A] w fun e w' => e = .returned (foR kd n wd t lh) ∧ Fr (fun _ => False) w w' := by
  have hn1 := hT.n1
  have hn2 := hT.n2
  obtain ⟨N, rfl⟩ : ∃ N : Nat, n = N := ⟨n.toNat, by omega⟩
  have h4 : kd % 4 = 0 ∨ kd % 4 = 1 ∨ kd % 4 = 2 ∨ kd % 4 = 3 := by omega
  rcases h4 with h4 | h4 | h4 | h4
  · by_cases hw : wd < 1 ∨ 8 < wd
    · have e : foR kd N wd t lh = .tuple #[.string ⟨#[]⟩, .agg #[.int .i64 2, .int .i64 (-1)]] := by unfold foR fmT; rw [if_pos h4, if_neg (by omega)]
      rw [e]
      exact form0 A kd N wd t lh w _ 2 (-1) hT h4 (fun w1 _ => refFixed_width N wd w1 hw)
    · obtain ⟨m, rfl⟩ : ∃ m : Nat, wd = m := ⟨wd.toNat, by omega⟩
      by_cases hN : N < 256 ^ m
      · have e : foR kd N m t lh = .tuple #[.string ⟨(fixB m N).toArray⟩, .agg #[.int .i64 0, .int .i64 0]] := by unfold foR fmT; rw [if_pos h4, if_pos ⟨by omega, by omega, (pow_cast N m).2 hN⟩]; rfl
        rw [e]
        refine form0 A kd N m t lh w _ 0 0 hT h4 (fun w1 _ => ?_)
        have := refFixed N m w1 (by omega) (by omega) (by omega)
        rwa [if_pos hN] at this
      · have e : foR kd N m t lh = .tuple #[.string ⟨#[]⟩, .agg #[.int .i64 2, .int .i64 (-1)]] := by unfold foR fmT; rw [if_pos h4, if_neg (fun h => hN ((pow_cast N m).1 h.2.2))]
        rw [e]
        refine form0 A kd N m t lh w _ 2 (-1) hT h4 (fun w1 _ => ?_)
        have := refFixed N m w1 (by omega) (by omega) (by omega)
        rwa [if_neg hN] at this
  · have e : foR kd N wd t lh = .tuple #[.string ⟨(varB N).toArray⟩, .agg #[.int .i64 0, .int .i64 0]] := by unfold foR fmT; rw [if_neg (by omega), if_pos h4]; rfl
    rw [e]
    exact form1 A kd N wd t lh w _ 0 0 hT h4 (fun w1 _ => refVar N w1 (by omega))
  · have e : foR kd N wd t lh = .tuple #[.string ⟨(varB t.size ++ t.data.toList).toArray⟩, .agg #[.int .i64 0, .int .i64 0]] := by unfold foR fmT; rw [if_neg (by omega), if_neg (by omega), if_pos h4]
    rw [e]
    exact form2 A kd N wd t lh w _ 0 0 hT h4 (fun w1 _ => refText t w1 ht)
  · have e : foR kd N wd t lh = .tuple #[.string ⟨lh.toArray⟩, .agg #[.int .i64 0, .int .i64 0]] := by unfold foR fmT; rw [if_neg (by omega), if_neg (by omega), if_neg (by omega)]
    rw [e]
    exact form3 A kd N wd t lh w _ 0 0 hT h4 (fun w1 _ => refHash lh w1 hT.hl)
end Go.Proofs.YtlkkadkdanjfoaaDoor
