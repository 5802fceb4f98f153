/- SHA, as a function of bytes: rounds; what mixed answers. -/
import Derived.Test.YthkkjpefealdgaaDoorP1
import Derived.Test.YthkkjpefealdgaaDoorAg
namespace Go.Proofs.YthkkjpefealdgaaDoor
open Go.RowKit
set_option linter.unusedVariables false
set_option linter.unusedSimpArgs false

/-- Eight words. -/
structure V8 where
  (a b c d e f g h : Nat)
structure V8.ok (s : V8) : Prop where
  a : Wd s.a
  b : Wd s.b
  c : Wd s.c
  d : Wd s.d
  e : Wd s.e
  f : Wd s.f
  g : Wd s.g
  h : Wd s.h
def tw (k w : Nat) (s : V8) : Nat := ad (ad (ad (ad s.h (S1 s.e)) (ch s.e s.f s.g)) k) w
def uw (s : V8) : Nat := ad (S0 s.a) (mj s.a s.b s.c)
def step (k w : Nat) (s : V8) : V8 := ⟨ad (tw k w s) (uw s), s.a, s.b, s.c, ad s.d (tw k w s), s.e, s.f, s.g⟩
def rounds (K W : Nat → Nat) (s : V8) : Nat → V8
  | 0 => s
  | n + 1 => step (K n) (W n) (rounds K W s n)
def add8 (s t : V8) : V8 := ⟨ad s.a t.a, ad s.b t.b, ad s.c t.c, ad s.d t.d, ad s.e t.e, ad s.f t.f, ad s.g t.g, ad s.h t.h⟩
theorem step_ok (k w : Nat) (s : V8) (h : s.ok) : (step k w s).ok := ⟨ad_lt _ _, h.a, h.b, h.c, ad_lt _ _, h.e, h.f, h.g⟩
theorem rounds_ok (K W : Nat → Nat) (s : V8) (h : s.ok) : ∀ n, (rounds K W s n).ok
  | 0 => h
  | n + 1 => step_ok _ _ _ (rounds_ok K W s h n)
theorem add8_ok (s t : V8) : (add8 s t).ok := ⟨ad_lt _ _, ad_lt _ _, ad_lt _ _, ad_lt _ _, ad_lt _ _, ad_lt _ _, ad_lt _ _, ad_lt _ _⟩
/-- The words as values. -/
abbrev u32v (x : Nat) : Value := .int .u32 (x : Int)
def vals (s : V8) : Array Value := #[u32v s.a, u32v s.b, u32v s.c, u32v s.d, u32v s.e, u32v s.f, u32v s.g, u32v s.h]
def z8 : Array Value := #[u32v 0, u32v 0, u32v 0, u32v 0, u32v 0, u32v 0, u32v 0, u32v 0]
def Kl : List Nat := [1116352408, 1899447441, 3049323471, 3921009573, 961987163, 1508970993, 2453635748, 2870763221, 3624381080, 310598401, 607225278, 1426881987, 1925078388, 2162078206, 2614888103, 3248222580, 3835390401, 4022224774, 264347078, 604807628, 770255983, 1249150122, 1555081692, 1996064986, 2554220882, 2821834349, 2952996808, 3210313671, 3336571891, 3584528711, 113926993, 338241895, 666307205, 773529912, 1294757372, 1396182291, 1695183700, 1986661051, 2177026350, 2456956037, 2730485921, 2820302411, 3259730800, 3345764771, 3516065817, 3600352804, 4094571909, 275423344, 430227734, 506948616, 659060556, 883997877, 958139571, 1322822218, 1537002063, 1747873779, 1955562222, 2024104815, 2227730452, 2361852424, 2428436474, 2756734187, 3204031479, 3329325298]
def Kc (i : Nat) : Nat := Kl.getD i 0
theorem Kc_lt (i : Nat) : Wd (Kc i) := by
  unfold Kc
  rcases Nat.lt_or_ge i Kl.length with h | h
  · rw [List.getD_eq_getElem?_getD, List.getElem?_eq_getElem h]
    have : ∀ x ∈ Kl, x < 4294967296 := by decide +kernel
    exact this _ (List.getElem_mem h)
  · rw [List.getD_eq_getElem?_getD, List.getElem?_eq_none h]; decide
/-- The constants lie where the program lays them. -/
def Ks (w : World) : Prop := ∀ i, i < 64 → w.cell? ⟨18, i, none⟩ = some (u32v (Kc i))
theorem Ks.nw {w w' : World} (h : Ks w) (k : Nw w w') : Ks w' := fun i hi => k.cellOf (h i hi)

set_option maxRecDepth 100000 in
set_option maxHeartbeats 4000000 in
theorem mixed_any (s : V8) (hs : s.ok) (wb : Nat) (W : Nat → Nat) (hW : ∀ i, i < 64 → Wd (W i)) (w : World) (hw : ∀ i, i < 64 → w.cell? ⟨wb, i, none⟩ = some (u32v (W i))) (hK : Ks w) :
    Calls Tryd.prog 62 #[.agg (vals s), .pointer (some ⟨wb, 0, none⟩)] w fun e w' => e = .returned (.agg (vals (add8 s (rounds Kc W s 64)))) ∧ Nw w w' := by
  obtain ⟨R, hR⟩ : ∃ R, R = add8 s (rounds Kc W s 64) := ⟨_, rfl⟩
  rw [← hR]
  have HR : Hid (R = add8 s (rounds Kc W s 64)) := hR
  clear hR
  obtain ⟨RV, hRV⟩ : ∃ x, x = vals R := ⟨_, rfl⟩
  rw [← hRV]
  have HRV : Hid (RV = vals R) := hRV
  clear hRV
  unfold vals
  have HW : Hid (∀ i, i < 64 → Wd (W i)) := hW
  have Hw : Hid (∀ i, i < 64 → w.cell? ⟨wb, i, none⟩ = some (u32v (W i))) := hw
  have HK : Hid (Ks w) := hK
  clear hW hw hK
  go_enter Tryd.func62, Tryd.ntmps62
  go_wp2
  go_quiet (fail)
  go_wp2
  go_quiet (fail)
  go_wp2
  go_loopw [5, 6, 7, 8, 9, 10, 11, 12, 32] (fun a b c d e f g h i wr => ∃ k : Nat, k ≤ 64 ∧ i = .int .i64 k ∧ a = u32v (rounds Kc W s k).a ∧ b = u32v (rounds Kc W s k).b ∧ c = u32v (rounds Kc W s k).c ∧ d = u32v (rounds Kc W s k).d ∧ e = u32v (rounds Kc W s k).e ∧ f = u32v (rounds Kc W s k).f ∧ g = u32v (rounds Kc W s k).g ∧ h = u32v (rounds Kc W s k).h ∧ Nw w wr ∧ wr.heap[w.heap.size]? = some (.cells #[u32v s.a, u32v s.b, u32v s.c, u32v s.d, u32v s.e, u32v s.f, u32v s.g, u32v s.h] 93 (0, 0)) ∧ wr.heap[w.heap.size + 1]? = some (.cells z8 93 (0, 0))) (fun _ _ _ _ _ _ _ _ i _ => 64 - (intOf i).toNat)
  case atStart =>
    refine ⟨0, by omega, rfl, rfl, rfl, rfl, rfl, rfl, rfl, rfl, rfl, (((Fr.refl _ _).alloc _).alloc _).drewN _ |>.drewN _, ?_, ?_⟩
    · simp only [World.heap_drewN]
      exact (Below.heap_alloc _ _ _ (by simp)).trans (heap_new w _)
    · simp only [World.heap_drewN]
      have := heap_new (w.alloc (.cells #[u32v s.a, u32v s.b, u32v s.c, u32v s.d, u32v s.e, u32v s.f, u32v s.g, u32v s.h] 93)) (.cells z8 93)
      rw [World.size_alloc] at this
      exact this
  case round =>
    obtain ⟨k, hk, rfl, rfl, rfl, rfl, rfl, rfl, rfl, rfl, rfl, hnw, hbx, hb4⟩ := hrel
    by_cases hlt : k < 64
    · have hok := rounds_ok Kc W s hs k
      have HS : Hid (rounds Kc W s (k + 1) = step (Kc k) (W k) (rounds Kc W s k)) := rfl
      generalize hT : rounds Kc W s k = T at hok HS
      clear hT
      obtain ⟨a, b, c, d, e, f, g, p⟩ := T
      obtain ⟨ha, hb, hc, hd, he, hf, hg, hp⟩ := hok
      dsimp only at ha hb hc hd he hf hg hp ⊢
      have hcw := hnw.cellOf (Hw.out k hlt)
      have hck := hnw.cellOf (HK.out k hlt)
      have hwk : Wd (W k) := HW.out k hlt
      have hkk := Kc_lt k
      generalize W k = wk at hcw hwk HS
      generalize Kc k = kk at hck hkk HS
      have hki : (k : Int) < 64 := by omega
      have hk0 : (0 : Int) ≤ (k : Int) := by omega
      have x1 := b_xo (rr e 6) (rr e 11) (rr_lt _ _ he) (rr_lt _ _ he)
      have x2 : bits .xor .u32 ((xo (rr e 6) (rr e 11) : Nat) : Int) ((rr e 25 : Nat) : Int) = ((S1 e : Nat) : Int) := b_xo _ _ (xo_lt _ _ (rr_lt _ _ he) (rr_lt _ _ he)) (rr_lt _ _ he)
      have x3 := b_an e f he hf
      have x4 := i_no e he
      have x4' := m_no e he
      have x5 := b_an (no e) g (no_lt _) hg
      have x6 : bits .xor .u32 ((an e f : Nat) : Int) ((an (no e) g : Nat) : Int) = ((ch e f g : Nat) : Int) := b_xo _ _ (an_lt _ _ hf) (an_lt _ _ hg)
      have a1 := b_ad p (S1 e)
      have a2 := b_ad (ad p (S1 e)) (ch e f g)
      have a3 := b_ad (ad (ad p (S1 e)) (ch e f g)) kk
      have a4 := b_ad (ad (ad (ad p (S1 e)) (ch e f g)) kk) wk
      have b1 := w_ad p (S1 e)
      have b2 := w_ad (ad p (S1 e)) (ch e f g)
      have b3 := w_ad (ad (ad p (S1 e)) (ch e f g)) kk
      have b4 := w_ad (ad (ad (ad p (S1 e)) (ch e f g)) kk) wk
      have y1 := b_xo (rr a 2) (rr a 13) (rr_lt _ _ ha) (rr_lt _ _ ha)
      have y2 : bits .xor .u32 ((xo (rr a 2) (rr a 13) : Nat) : Int) ((rr a 22 : Nat) : Int) = ((S0 a : Nat) : Int) := b_xo _ _ (xo_lt _ _ (rr_lt _ _ ha) (rr_lt _ _ ha)) (rr_lt _ _ ha)
      have y3 := b_an a b ha hb
      have y4 := b_an a c ha hc
      have y5 := b_an b c hb hc
      have y6 := b_xo (an a b) (an a c) (an_lt _ _ hb) (an_lt _ _ hc)
      have y7 : bits .xor .u32 ((xo (an a b) (an a c) : Nat) : Int) ((an b c : Nat) : Int) = ((mj a b c : Nat) : Int) := b_xo _ _ (xo_lt _ _ (an_lt _ _ hb) (an_lt _ _ hc)) (an_lt _ _ hc)
      have a5 := b_ad (S0 a) (mj a b c)
      go_wp2
      go_quiet ((go_at_call 63; refine Calls.quiet_of_same (right_any _ _ he (by decide) _)))
      have a6 := b_ad (tw kk wk ⟨a, b, c, d, e, f, g, p⟩) (uw ⟨a, b, c, d, e, f, g, p⟩)
      have a7 := b_ad d (tw kk wk ⟨a, b, c, d, e, f, g, p⟩)
      go_wp2_with (go_at_call 63; refine (right_any _ _ ha (by decide) _).mono ?_; rintro e1 w1 ⟨rfl, rfl⟩)
      refine ⟨⟨k + 1, by omega, by go_num, ?_⟩, by simp [intOf]; omega⟩
      rw [HS.out]
      exact ⟨rfl, rfl, rfl, rfl, rfl, rfl, rfl, rfl, hnw.drewN _, hbx, hb4⟩
    · obtain rfl : k = 64 := by omega
      generalize hT : rounds Kc W s 64 = T at HR
      clear hT
      obtain ⟨a, b, c, d, e, f, g, p⟩ := T
      obtain ⟨a0, b0, c0, d0, e0, f0, g0, p0⟩ := s
      dsimp only at hbx ⊢
      have r0 := cell_of hbx 0
      have r1 := cell_of hbx 1
      have r2 := cell_of hbx 2
      have r3 := cell_of hbx 3
      have r4 := cell_of hbx 4
      have r5 := cell_of hbx 5
      have r6 := cell_of hbx 6
      have r7 := cell_of hbx 7
      simp at r0 r1 r2 r3 r4 r5 r6 r7
      have q0 := b_ad a0 a
      have q1 := b_ad b0 b
      have q2 := b_ad c0 c
      have q3 := b_ad d0 d
      have q4 := b_ad e0 e
      have q5 := b_ad f0 f
      have q6 := b_ad g0 g
      have q7 := b_ad p0 p
      go_wp2_with (refine wp_store_agg rfl (.tmp 4) (.tmp 129) 93 8 rfl Tryd.sizeOf93 (w.heap.size + 1) 0 rfl z8 93 hb4 _ rfl rfl (by simp [Value.oneCell']) (by decide) _ rfl ?_; intro w4 j4 f4 z4)
      refine bodyPost_ret (results_cell Tryd.results62 Tryd.isAgg93 Tryd.sizeOf93 rfl j4 rfl) rfl ⟨?_, hnw.trans f4 (fun k hk q => by omega)⟩
      rw [HRV.out, HR.out]
      rfl
end Go.Proofs.YthkkjpefealdgaaDoor
